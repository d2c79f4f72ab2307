/- The contract of the program's Circle. -/
import Derived.Test.YtiankphkemakeaaCircle
namespace Go.Proofs.Ytiankphkemakeaa
set_option linter.unusedSimpArgs false
set_option linter.unusedVariables false
open Go.RowKit Go.Shelf

theorem openF_wide {P : Program} {n : Nat} : OpenF (P := P) (n := n) Fence.wide := ⟨fun _ => trivial, rfl, fun _ _ _ _ h => callsIn_wide.2 h⟩

theorem whole_len2 (T : Nat) (rs : List R) : (whole T rs).length = rs.length + 2 * T := by
  have ht : ∀ k, (turnRules k).length = 2 * k := by
    intro k
    induction k with
    | zero => rfl
    | succ k ih => simp only [turnRules, List.length_append, ih, List.length_cons, List.length_nil]; omega
  simp only [whole, List.length_append, ht]
theorem fit_whole {T : Nat} {rs : List R} (he : chk T rs = 0) : ∀ r ∈ whole T rs, FitR r := by
  obtain ⟨_, hT1, hT20, _⟩ := chk_ok he
  have ht : ∀ k, k ≤ 20 → ∀ r ∈ turnRules k, FitR r := by
    intro k
    induction k with
    | zero => intro _; simp [turnRules]
    | succ k ih =>
      intro hk r hr
      simp only [turnRules, List.mem_append, List.mem_cons, List.not_mem_nil, or_false] at hr
      rcases hr with hr | rfl | rfl
      · exact ih (by omega) r hr
      · unfold FitR; simp; omega
      · unfold FitR; simp; omega
  intro r hr
  rcases List.mem_append.1 hr with hr | hr
  · exact fit_of_chk he r hr
  · exact ht T (by omega) r hr

theorem relax_came {N : Nat} {s : St} {k : Nat} {r : R} (h : ∀ i, nth s.2 i < (N : Int)) (hk : k < N) : ∀ i, nth (relax s k r).2 i < (N : Int) := by
  intro i
  unfold relax
  split
  · rcases nth_set_cases s.2 r.t.toNat i (k : Int) with e | e
    · simp only [e]; omega
    · simp only [e]; exact h i
  · exact h i
theorem sweep_came (high : Bool) (N : Nat) : ∀ (ws : List R) (k : Nat) (s : St), (∀ i, nth s.2 i < (N : Int)) → k + ws.length ≤ N → ∀ i, nth (sweep high k ws s).2 i < (N : Int) := by
  intro ws
  induction ws with
  | nil => intro k s h _; exact h
  | cons r ws ih =>
    intro k s h hk
    simp only [List.length_cons] at hk
    exact ih (k + 1) _ (relax_came h (by omega)) (by omega)
theorem rounds_came (high : Bool) (ws : List R) : ∀ (n : Nat) (s : St), (∀ i, nth s.2 i < (ws.length : Int)) → ∀ i, nth (rounds high ws n s).1.2 i < (ws.length : Int) := by
  intro n
  induction n with
  | zero => intro s h; exact h
  | succ n ih =>
    intro s h
    unfold rounds
    split
    · exact sweep_came high _ ws 0 s h (by omega)
    · exact ih _ (sweep_came high _ ws 0 s h (by omega))
theorem spread_came (high : Bool) (T x : Nat) (ws : List R) (hf : ∀ r ∈ ws, FitR r) (hN : ws.length ≤ 1000) (hN1 : 0 < ws.length) (hT : T ≤ 20) : CameOk ws.length (spread high T ws x).1.2 := by
  refine ⟨(spread_within high T x ws hf hN hT).2.1, rounds_came high ws _ _ (fun i => ?_)⟩
  rcases Nat.lt_or_ge i 21 with h | h
  · simp only [start0]
    rw [nth_replicate _ _ _ h]; omega
  · rw [nth_default _ _ (by simp [start0]; omega)]; omega

/-- What Circle returns. -/
def circleR (T : Int) (rs : List R) : List Int × Int :=
  if chk T rs ≠ 0 then ([], chk T rs) else
  if (spread true T.toNat (whole T.toNat rs) 0).2 then ([], 5) else
  (circleOf (whole T.toNat rs) T.toNat (spread true T.toNat (whole T.toNat rs) 0).1.2, 0)

theorem circle27_bad (A : Option Addr) (n cap : Nat) (T : Int) (rs : List R) (w : World) (h : Rules w A n rs) (hn : n ≤ 140737488355328) (he : chk T rs ≠ 0) :
    Calls Try.prog 27 #[.agg #[.int .i64 T, .slice A n cap]] w fun e w' => ∃ C k capk, e = .returned (.tuple #[.slice C k capk, .int .i64 (circleR T rs).2]) ∧ Ints w' C k (circleR T rs).1 ∧ Below w.heap.size w w' := by
  have HB0 := Lib.hid (show Below w.heap.size w (w.alloc (.cells #[.int .i64 T, .slice A n cap] 24)) from (Below.refl _ _).alloc (Nat.le_refl _) _)
  have H0 := Lib.hid (h.below HB0.out (Nat.le_refl _))
  have He := Lib.hid he
  have he2 : (chk T rs != 0) = true := by rw [bne_iff_ne]; exact he
  have Hm := Lib.hid (show circleR T rs = ([], chk T rs) by unfold circleR; rw [if_pos he])
  clear h he
  go_enter Try.func27, Try.ntmps27
  go_wp2_with fail
  refine (complete53_bad A n cap T rs _ H0.out hn He.out).mono ?_
  rintro e w1 ⟨rfl, hb⟩
  have Hb := Lib.hid hb
  clear hb
  go_wp2_with fail
  go_ret2
  exact ⟨none, 0, 0, by rw [Hm.out]; rfl, by rw [Hm.out]; exact ⟨rfl, fun h => absurd h (by omega)⟩, (HB0.out.trans (Hb.out.mono (by simp))).alloc (by have := Hb.out.size; simp at this; omega) _⟩

set_option maxRecDepth 100000 in
set_option maxHeartbeats 2000000 in
theorem circle27_ok (A : Option Addr) (n cap T : Nat) (rs : List R) (w : World) (h : Rules w A n rs) (he : chk T rs = 0) :
    Calls Try.prog 27 #[.agg #[.int .i64 (T : Int), .slice A n cap]] w fun e w' => ∃ C k capk, e = .returned (.tuple #[.slice C k capk, .int .i64 (circleR T rs).2]) ∧ Ints w' C k (circleR T rs).1 ∧ Below w.heap.size w w' := by
  obtain ⟨hl60, hT1, hT20, _⟩ := chk_ok he
  have hn60 : n ≤ 60 := by rw [← h.1]; exact hl60
  have hT2 : T ≤ 20 := by omega
  have hT3 : 1 ≤ T := by omega
  have Hm := Lib.hid (show circleR T rs = if (spread true T (whole T rs) 0).2 then ([], 5) else (circleOf (whole T rs) T (spread true T (whole T rs) 0).1.2, 0) by unfold circleR; rw [if_neg (by simpa using he), Int.toNat_natCast])
  have HB0 := Lib.hid (show Below w.heap.size w (w.alloc (.cells #[.int .i64 (T : Int), .slice A n cap] 24)) from (Below.refl _ _).alloc (Nat.le_refl _) _)
  have H0 := Lib.hid (h.below HB0.out (Nat.le_refl _))
  have Hfit := Lib.hid (fit_whole he)
  have Hlen := Lib.hid (show (whole T rs).length = n + 2 * T by rw [whole_len2, h.1])
  have He := Lib.hid he
  clear h he hT1 hT20 hl60
  refine (callsIn_wide (n := 5)).1 ?_
  refine callsIn_of_wp Try.func27 rfl trivial ?_ rfl
  simp only [Try.ntmps27, List.size_toArray, List.length_cons, List.length_nil, Nat.reduceAdd, Nat.reduceSub, Array.replicate_succ, Array.replicate_zero, List.push_toArray, List.append_toArray, List.nil_append, List.cons_append]
  gi_wp2_with fail
  refine ⟨trivial, (callsIn_wide.2 (complete53_ok A n cap T rs _ H0.out He.out)).mono ?_⟩
  rintro e w1 ⟨A1, cap1, rfl, hown, hb⟩
  have Hb := Lib.hid (HB0.out.trans (hb.mono (by simp)))
  have hz : w.heap.size < w1.heap.size := by have := hb.size; simp at this; omega
  have Hr1 := Lib.hid (Rules.of_own hown)
  clear hb hown
  gi_wp2_with fail
  have HBa := Lib.hid (show Below w1.heap.size w1 (w1.alloc (.cells #[.int .i64 (T : Int), .slice A n cap, .slice A1 (n + 2 * T) cap1] 79)) from (Below.refl _ _).alloc (Nat.le_refl _) _)
  have Hbox := Lib.hid (show Box79 (w1.alloc (.cells #[.int .i64 (T : Int), .slice A n cap, .slice A1 (n + 2 * T) cap1] 79)) w1.heap.size T A n cap A1 (n + 2 * T) cap1 by refine ⟨?_, ?_, ?_⟩ <;> (rw [World.cell?_alloc_new]; rfl))
  have Hsz := Lib.hid (show (w1.alloc (.cells #[.int .i64 (T : Int), .slice A n cap, .slice A1 (n + 2 * T) cap1] 79)).heap.size = w1.heap.size + 1 by simp)
  have Hr2 := Lib.hid (Hr1.out.below HBa.out (Nat.le_refl _))
  obtain ⟨W2, hW2⟩ : ∃ W2, w1.alloc (.cells #[.int .i64 (T : Int), .slice A n cap, .slice A1 (n + 2 * T) cap1] 79) = W2 := ⟨_, rfl⟩
  rw [hW2] at HBa Hbox Hsz Hr2 ⊢
  clear hW2
  refine ⟨trivial, (callsIn_wide.2 (spread64 T 0 A A1 n cap (n + 2 * T) cap1 65 #[] true 0 (whole T rs) W2 Hr2.out hT2 (by omega) (by omega) (by omega) Hfit.out (.inl ⟨rfl, rfl, rfl⟩))).mono ?_⟩
  rintro e w3 ⟨M, nn, rfl, hcam, hnn, hM, hb3⟩
  have hwi := spread_within true T 0 (whole T rs) Hfit.out (by rw [Hlen.out]; omega) hT2
  have hok := spread_came true T 0 (whole T rs) Hfit.out (by rw [Hlen.out]; omega) (by rw [Hlen.out]; omega) hT2
  obtain ⟨q, cq, ok, hq⟩ : ∃ q cq ok, spread true T (whole T rs) 0 = ((q, cq), ok) := ⟨_, _, _, rfl⟩
  rw [hq] at hwi hok hcam
  have Hq := Lib.hid hq
  have Hok := Lib.hid hok
  have Hcam := Lib.hid hcam
  have Hq21 := Lib.hid (show q.length = 21 from hwi.1)
  have HMW := Lib.hid hM
  have Hb3 := Lib.hid hb3
  have Hr3 := Lib.hid (Hr2.out.below hb3 (Nat.le_refl _))
  rw [hq]
  clear hb3 hq hwi hok hcam hM
  dsimp only
  gi_wp2_with (with_reducible refine holdStore 97 _ _ rfl ?_)
  unfold Held
  refine wpListIn_store rfl 97 (.tmp 6) (.tmp 19) rfl _ _ rfl rfl (store97_new rfl rfl (by rw [fv_size, Hq21.out]) (all_oneCell_toArray (fv_one q M))) ?_
  have HBb := Lib.hid (show Below w3.heap.size w3 (w3.alloc (.cells (fv q M) 97)) from (Below.refl _ _).alloc (Nat.le_refl _) _)
  have Hfv := Lib.hid (show (w3.alloc (.cells (fv q M) 97)).heap[w3.heap.size]? = some (.cells (fv q M) 97 (0, 0)) from heap_alloc_new _ _)
  have Hsz4 := Lib.hid (show (w3.alloc (.cells (fv q M) 97)).heap.size = w3.heap.size + 1 by simp)
  obtain ⟨W4, hW4⟩ : ∃ W4, w3.alloc (.cells (fv q M) 97) = W4 := ⟨_, rfl⟩
  rw [hW4] at HBb Hfv Hsz4 ⊢
  clear hW4
  have HBAll := Lib.hid (show Below w.heap.size w W4 from ((Hb.out.trans (HBa.out.mono (by omega))).trans (Hb3.out.mono (by have := Hsz.out; omega))).trans (HBb.out.mono (by have := Hb3.out.size; have := Hsz.out; omega)))
  have hbx := (bcell HBb.out).1 w1.heap.size
  have hby := (bcell Hb3.out).1 w1.heap.size
  have hl1 : w1.heap.size < w3.heap.size := by have := Hb3.out.size; have := Hsz.out; omega
  have hl2 : w1.heap.size < W2.heap.size := by have := Hsz.out; omega
  have e0 : W4.cell? ⟨w1.heap.size, 0, none⟩ = some (.int .i64 (T : Int)) := ((hbx 0 hl1).trans (hby 0 hl2)).trans Hbox.out.1
  have e1 : W4.cell? ⟨w1.heap.size, 1, none⟩ = some (.slice A n cap) := ((hbx 1 hl1).trans (hby 1 hl2)).trans Hbox.out.2.1
  have e2 : W4.cell? ⟨w1.heap.size, 2, none⟩ = some (.slice A1 (n + 2 * T) cap1) := ((hbx 2 hl1).trans (hby 2 hl2)).trans Hbox.out.2.2
  have f21 : W4.cell? ⟨w3.heap.size, 21, none⟩ = some (.map (some M)) := by rw [cell_of_row W4 _ _ _ _ _ Hfv.out, fv_map _ _ Hq21.out]
  clear hbx hby
  cases ok with
  | true =>
    gi_wp2_with fail
    refine bodyPost_ret (v := .tuple #[.slice none 0 0, .int .i64 5]) (by simp [results, Try.results27, go_sem]) rfl ⟨none, 0, 0, by rw [Hm.out, Hq.out]; rfl, by rw [Hm.out, Hq.out]; exact ⟨rfl, fun h => absurd h (by omega)⟩, HBAll.out⟩
  | false =>
    gi_wp2_with fail
    refine ⟨trivial, (callsIn_wide.2 (circle66 T A A1 n cap (n + 2 * T) cap1 M nn (whole T rs) cq W4 (Hr3.out.below HBb.out (Nat.le_refl _)) hT2 (by omega) Hfit.out (Hcam.out.kept (grown_of_below HBb.out) (by simp)) (by have := Hok.out; rw [Hlen.out] at this; exact this))).mono ?_⟩
    rintro e w5 ⟨C, k, capk, rfl, hi, hg⟩
    have Hi := Lib.hid hi
    have Hg := Lib.hid hg
    clear hi hg
    gi_wp2_with fail
    refine bodyPost_ret (v := .tuple #[.slice C k capk, .int .i64 0]) (by simp [results, Try.results27, go_sem]) rfl ⟨C, k, capk, by rw [Hm.out, Hq.out]; rfl, by rw [Hm.out, Hq.out]; exact Hi.out, ?_⟩
    refine HBAll.out.trans ⟨Hg.out.os, Hg.out.tape, Hg.out.output, Hg.out.size, fun j hj => Hg.out.block j (by have := HBAll.out.size; omega) (fun e => by injection e with e; have := HMW.out; have := Hsz.out; omega)⟩

theorem circle27 (A : Option Addr) (n cap : Nat) (T : Int) (rs : List R) (w : World) (h : Rules w A n rs) (hn : n ≤ 140737488355328) :
    Calls Try.prog 27 #[.agg #[.int .i64 T, .slice A n cap]] w fun e w' => ∃ C k capk, e = .returned (.tuple #[.slice C k capk, .int .i64 (circleR T rs).2]) ∧ Ints w' C k (circleR T rs).1 ∧ Below w.heap.size w w' := by
  by_cases he : chk T rs = 0
  · obtain ⟨_, hT1, _, _⟩ := chk_ok he
    obtain ⟨k, rfl⟩ := Int.eq_ofNat_of_zero_le (show 0 ≤ T by omega)
    exact circle27_ok A n cap k rs w h he
  · exact circle27_bad A n cap T rs w h hn he
end Go.Proofs.Ytiankphkemakeaa
