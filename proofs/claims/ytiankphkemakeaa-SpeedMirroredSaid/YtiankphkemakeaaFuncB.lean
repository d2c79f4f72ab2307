/- The contract of the program's Way. -/
import Derived.Test.YtiankphkemakeaaFuncA
namespace Go.Proofs.Ytiankphkemakeaa
set_option linter.unusedSimpArgs false
set_option linter.unusedVariables false
open Go.RowKit Go.Shelf

/-- What Way returns. -/
def wayR (T : Int) (rs : List R) (x y : Int) : List Int × Int × Int :=
  if chk T rs ≠ 0 then ([], 0, chk T rs) else
  if within 0 T [x, y] then
    if (spread true T.toNat (whole T.toNat rs) x.toNat).2 then ((back (whole T.toNat rs) (spread true T.toNat (whole T.toNat rs) x.toNat).1.2 y.toNat).1, nth (spread true T.toNat (whole T.toNat rs) x.toNat).1.1 y.toNat, 0)
    else ([], 0, 21)
  else ([], 0, 2)

theorem way35_bad (A : Option Addr) (n cap : Nat) (T x y : Int) (rs : List R) (w : World) (h : Rules w A n rs) (hn : n ≤ 140737488355328) (he : chk T rs ≠ 0) :
    Calls Try.prog 35 #[.agg #[.int .i64 T, .slice A n cap], .int .i64 x, .int .i64 y] w fun e w' => ∃ C k capk, e = .returned (.tuple #[.slice C k capk, .int .i64 (wayR T rs x y).2.1, .int .i64 (wayR T rs x y).2.2]) ∧ Ints w' C k (wayR T rs x y).1 ∧ Below w.heap.size w w' := by
  have HB0 := Lib.hid (show Below w.heap.size w (w.alloc (.cells #[.int .i64 T, .slice A n cap] 24)) from (Below.refl _ _).alloc (Nat.le_refl _) _)
  have H0 := Lib.hid (h.below HB0.out (Nat.le_refl _))
  have He := Lib.hid he
  have he2 : (chk T rs != 0) = true := by rw [bne_iff_ne]; exact he
  have Hm := Lib.hid (show wayR T rs x y = ([], 0, chk T rs) by unfold wayR; rw [if_pos he])
  clear h he
  go_enter Try.func35, Try.ntmps35
  go_wp2_with fail
  refine (complete53_bad A n cap T rs _ H0.out hn He.out).mono ?_
  rintro e w1 ⟨rfl, hb⟩
  have Hb := Lib.hid hb
  clear hb
  go_wp2_with fail
  go_ret3
  exact ⟨none, 0, 0, by rw [Hm.out]; rfl, by rw [Hm.out]; exact ⟨rfl, fun h => absurd h (by omega)⟩, (HB0.out.trans (Hb.out.mono (by simp))).alloc (by have := Hb.out.size; simp at this; omega) _⟩

set_option maxRecDepth 100000 in
set_option maxHeartbeats 2000000 in
theorem way35_ok (A : Option Addr) (n cap T : Nat) (x y : Int) (rs : List R) (w : World) (h : Rules w A n rs) (he : chk T rs = 0) :
    Calls Try.prog 35 #[.agg #[.int .i64 (T : Int), .slice A n cap], .int .i64 x, .int .i64 y] w fun e w' => ∃ C k capk, e = .returned (.tuple #[.slice C k capk, .int .i64 (wayR T rs x y).2.1, .int .i64 (wayR T rs x y).2.2]) ∧ Ints w' C k (wayR T rs x y).1 ∧ Below w.heap.size w w' := by
  obtain ⟨hl60, hT1, hT20, _⟩ := chk_ok he
  have hn60 : n ≤ 60 := by rw [← h.1]; exact hl60
  have hT2 : T ≤ 20 := by omega
  have hT3 : 1 ≤ T := by omega
  have Hm := Lib.hid (show wayR T rs x y = if within 0 T [x, y] then (if (spread true T (whole T rs) x.toNat).2 then ((back (whole T rs) (spread true T (whole T rs) x.toNat).1.2 y.toNat).1, nth (spread true T (whole T rs) x.toNat).1.1 y.toNat, 0) else ([], 0, 21)) else ([], 0, 2) by unfold wayR; rw [if_neg (by simpa using he), Int.toNat_natCast])
  have HB0 := Lib.hid (show Below w.heap.size w (w.alloc (.cells #[.int .i64 (T : Int), .slice A n cap] 24)) from (Below.refl _ _).alloc (Nat.le_refl _) _)
  have H0 := Lib.hid (h.below HB0.out (Nat.le_refl _))
  have Hfit := Lib.hid (fit_whole he)
  have Hlen := Lib.hid (show (whole T rs).length = n + 2 * T by rw [whole_len2, h.1])
  have He := Lib.hid he
  clear h he hT1 hT20 hl60
  refine (callsIn_wide (n := 5)).1 ?_
  refine callsIn_of_wp Try.func35 rfl trivial ?_ rfl
  simp only [Try.ntmps35, List.size_toArray, List.length_cons, List.length_nil, Nat.reduceAdd, Nat.reduceSub, Array.replicate_succ, Array.replicate_zero, List.push_toArray, List.append_toArray, List.nil_append, List.cons_append]
  gi_wp2_with fail
  refine ⟨trivial, (callsIn_wide.2 (complete53_ok A n cap T rs _ H0.out He.out)).mono ?_⟩
  rintro e w1 ⟨A1, cap1, rfl, hown, hb⟩
  have Hb := Lib.hid (HB0.out.trans (hb.mono (by simp)))
  have hz : w.heap.size < w1.heap.size := by have := hb.size; simp at this; omega
  have Hr1 := Lib.hid (Rules.of_own hown)
  clear hb hown
  gi_wp2_with fail
  refine ⟨trivial, (callsIn_wide.2 (within55_2 _ _ x y _ _ _ ?c1 ?c2)).mono ?_⟩
  case c1 => go_simp
  case c2 => go_simp
  rintro e w2 ⟨rfl, rfl⟩
  have HBa := Lib.hid (show Below w1.heap.size w1 ((w1.alloc (.cells #[.int .i64 (T : Int), .slice A n cap, .slice A1 (n + 2 * T) cap1] 79)).alloc (.cells #[.int .i64 x, .int .i64 y] 3)) from ((Below.refl _ _).alloc (Nat.le_refl _) _).alloc (by simp) _)
  have Hbox := Lib.hid (show Box79 ((w1.alloc (.cells #[.int .i64 (T : Int), .slice A n cap, .slice A1 (n + 2 * T) cap1] 79)).alloc (.cells #[.int .i64 x, .int .i64 y] 3)) w1.heap.size T A n cap A1 (n + 2 * T) cap1 by refine ⟨?_, ?_, ?_⟩ <;> (rw [World.cell?_alloc_past _ _ _ (by simp), World.cell?_alloc_new]; rfl))
  have Hsz := Lib.hid (show ((w1.alloc (.cells #[.int .i64 (T : Int), .slice A n cap, .slice A1 (n + 2 * T) cap1] 79)).alloc (.cells #[.int .i64 x, .int .i64 y] 3)).heap.size = w1.heap.size + 2 by simp)
  have Hr2 := Lib.hid (Hr1.out.below HBa.out (Nat.le_refl _))
  obtain ⟨W2, hW2⟩ : ∃ W2, (w1.alloc (.cells #[.int .i64 (T : Int), .slice A n cap, .slice A1 (n + 2 * T) cap1] 79)).alloc (.cells #[.int .i64 x, .int .i64 y] 3) = W2 := ⟨_, rfl⟩
  rw [hW2] at HBa Hbox Hsz Hr2 ⊢
  clear hW2
  have b0 := Hbox.out.1
  have b1 := Hbox.out.2.1
  have b2 := Hbox.out.2.2
  cases hq : within 0 (T : Int) [x, y] with
  | false =>
    have Hq := Lib.hid hq
    clear hq
    gi_wp2_with fail
    refine bodyPost_ret (v := .tuple #[.slice none 0 0, .int .i64 0, .int .i64 2]) (by simp [results, Try.results35, go_sem]) rfl ⟨none, 0, 0, by rw [Hm.out, Hq.out]; rfl, by rw [Hm.out, Hq.out]; exact ⟨rfl, fun h => absurd h (by omega)⟩, ?_⟩
    exact Hb.out.trans (HBa.out.mono (by omega))
  | true =>
    have hxy : (0 ≤ x ∧ x ≤ (T : Int)) ∧ 0 ≤ y ∧ y ≤ (T : Int) := by simpa [within] using hq
    have Hq := Lib.hid hq
    obtain ⟨⟨hx0, hx1⟩, hy0, hy1⟩ := hxy
    clear hq
    obtain ⟨x', rfl⟩ := Int.eq_ofNat_of_zero_le hx0
    obtain ⟨y', rfl⟩ := Int.eq_ofNat_of_zero_le hy0
    have Hm2 := Lib.hid (show wayR T rs x' y' = if (spread true T (whole T rs) x').2 then ((back (whole T rs) (spread true T (whole T rs) x').1.2 y').1, nth (spread true T (whole T rs) x').1.1 y', 0) else ([], 0, 21) by rw [Hm.out, Hq.out, if_pos rfl, Int.toNat_natCast, Int.toNat_natCast])
    gi_wp2_with fail
    clear b0 b1 b2
    refine ⟨trivial, (callsIn_wide.2 (spread64 T x' A A1 n cap (n + 2 * T) cap1 65 #[] true 0 (whole T rs) W2 Hr2.out hT2 (by omega) (by omega) (by omega) Hfit.out (.inl ⟨rfl, rfl, rfl⟩))).mono ?_⟩
    rintro e w3 ⟨M, nn, rfl, hcam, hnn, hM, hb3⟩
    have hwi := spread_within true T x' (whole T rs) Hfit.out (by rw [Hlen.out]; omega) hT2
    have hok := spread_came true T x' (whole T rs) Hfit.out (by rw [Hlen.out]; omega) (by rw [Hlen.out]; omega) hT2
    obtain ⟨q, cq, ok, hq⟩ : ∃ q cq ok, spread true T (whole T rs) x' = ((q, cq), ok) := ⟨_, _, _, rfl⟩
    rw [hq] at hwi hok hcam
    have Hsp := Lib.hid hq
    have Hok := Lib.hid hok
    have Hcam := Lib.hid hcam
    have Hq21 := Lib.hid (show q.length = 21 from hwi.1)
    have HMW := Lib.hid hM
    have Hb3 := Lib.hid hb3
    have Hr3 := Lib.hid (Hr2.out.below hb3 (Nat.le_refl _))
    rw [hq]
    clear hb3 hq hwi hok hcam hM
    dsimp only
    gi_wp2_with (with_reducible refine holdStore 97 _ _ rfl ?_)
    unfold Held
    refine wpListIn_store rfl 97 (.tmp 11) (.tmp 34) rfl _ _ rfl rfl (store97_new rfl rfl (by rw [fv_size, Hq21.out]) (all_oneCell_toArray (fv_one q M))) ?_
    have HBb := Lib.hid (show Below w3.heap.size w3 (w3.alloc (.cells (fv q M) 97)) from (Below.refl _ _).alloc (Nat.le_refl _) _)
    have Hfv := Lib.hid (show (w3.alloc (.cells (fv q M) 97)).heap[w3.heap.size]? = some (.cells (fv q M) 97 (0, 0)) from heap_alloc_new _ _)
    have Hsz4 := Lib.hid (show (w3.alloc (.cells (fv q M) 97)).heap.size = w3.heap.size + 1 by simp)
    obtain ⟨W4, hW4⟩ : ∃ W4, w3.alloc (.cells (fv q M) 97) = W4 := ⟨_, rfl⟩
    rw [hW4] at HBb Hfv Hsz4 ⊢
    clear hW4
    have HBAll := Lib.hid (show Below w.heap.size w W4 from ((Hb.out.trans (HBa.out.mono (by omega))).trans (Hb3.out.mono (by have := Hsz.out; omega))).trans (HBb.out.mono (by have := Hb3.out.size; have := Hsz.out; omega)))
    have hbx := (bcell HBb.out).1 w1.heap.size
    have hby := (bcell Hb3.out).1 w1.heap.size
    have hl1 : w1.heap.size < w3.heap.size := by have := Hb3.out.size; have := Hsz.out; omega
    have hl2 : w1.heap.size < W2.heap.size := by have := Hsz.out; omega
    have e0 : W4.cell? ⟨w1.heap.size, 0, none⟩ = some (.int .i64 (T : Int)) := ((hbx 0 hl1).trans (hby 0 hl2)).trans Hbox.out.1
    have e1 : W4.cell? ⟨w1.heap.size, 1, none⟩ = some (.slice A n cap) := ((hbx 1 hl1).trans (hby 1 hl2)).trans Hbox.out.2.1
    have e2 : W4.cell? ⟨w1.heap.size, 2, none⟩ = some (.slice A1 (n + 2 * T) cap1) := ((hbx 2 hl1).trans (hby 2 hl2)).trans Hbox.out.2.2
    have f21 : W4.cell? ⟨w3.heap.size, 21, none⟩ = some (.map (some M)) := by rw [cell_of_row W4 _ _ _ _ _ Hfv.out, fv_map _ _ Hq21.out]
    clear hbx hby
    cases ok with
    | false =>
      gi_wp2_with fail
      refine bodyPost_ret (v := .tuple #[.slice none 0 0, .int .i64 0, .int .i64 21]) (by simp [results, Try.results35, go_sem]) rfl ⟨none, 0, 0, by rw [Hm2.out, Hsp.out]; rfl, by rw [Hm2.out, Hsp.out]; exact ⟨rfl, fun h => absurd h (by omega)⟩, HBAll.out⟩
    | true =>
      gi_wp2_with fail
      refine ⟨trivial, (callsIn_wide.2 (back70 T A A1 n cap (n + 2 * T) cap1 M nn y' (whole T rs) cq W4 (Hr3.out.below HBb.out (Nat.le_refl _)) (by omega) Hfit.out (Hcam.out.kept (grown_of_below HBb.out) (by simp)) (by have := Hok.out; rw [Hlen.out] at this; exact this) (by omega))).mono ?_⟩
      rintro e w5 ⟨C, k, capk, rfl, hi, _, hg, _, _⟩
      have Hi := Lib.hid hi
      have Hg := Lib.hid hg
      have hMl : M < w3.heap.size := Hcam.out.lt
      have fy : w5.cell? ⟨w3.heap.size, y', none⟩ = some (.int .i64 (nth q y')) := by
        rw [World.cell?_of_block (w := W4) (Hg.out.block w3.heap.size (by have := Hsz4.out; omega) (fun e => by injection e; omega)), cell_of_row W4 _ _ _ _ _ Hfv.out, fv_at _ _ _ (by rw [Hq21.out]; omega)]
      have hy21 : (y' : Int) < 21 := by omega
      clear hi hg e0 e1 e2 f21
      gi_wp2_with fail
      gi_quiet (fail)
      gi_wp2_with fail
      refine bodyPost_ret (v := .tuple #[.slice C k capk, .int .i64 (nth q y'), .int .i64 0]) (by simp [results, Try.results35, go_sem]) rfl ⟨C, k, capk, by rw [Hm2.out, Hsp.out]; rfl, by rw [Hm2.out, Hsp.out]; exact Hi.out.below (⟨rfl, rfl, rfl, Nat.le_refl _, fun _ _ => rfl⟩ : Below w5.heap.size w5 (w5.drewN nq)) (Nat.le_refl _), ?_⟩
      have h5 : Below w.heap.size w w5 := HBAll.out.trans ⟨Hg.out.os, Hg.out.tape, Hg.out.output, Hg.out.size, fun j hj => Hg.out.block j (by have := HBAll.out.size; omega) (fun e => by injection e with e; have := HMW.out; have := Hsz.out; have := Hb.out.size; omega)⟩
      exact h5.trans ⟨rfl, rfl, rfl, Nat.le_refl _, fun _ _ => rfl⟩

theorem way35 (A : Option Addr) (n cap : Nat) (T x y : Int) (rs : List R) (w : World) (h : Rules w A n rs) (hn : n ≤ 140737488355328) :
    Calls Try.prog 35 #[.agg #[.int .i64 T, .slice A n cap], .int .i64 x, .int .i64 y] w fun e w' => ∃ C k capk, e = .returned (.tuple #[.slice C k capk, .int .i64 (wayR T rs x y).2.1, .int .i64 (wayR T rs x y).2.2]) ∧ Ints w' C k (wayR T rs x y).1 ∧ Below w.heap.size w w' := by
  by_cases he : chk T rs = 0
  · obtain ⟨_, hT1, _, _⟩ := chk_ok he
    obtain ⟨k, rfl⟩ := Int.eq_ofNat_of_zero_le (show 0 ≤ T by omega)
    exact way35_ok A n cap k x y rs w h he
  · exact way35_bad A n cap T x y rs w h hn he
end Go.Proofs.Ytiankphkemakeaa
