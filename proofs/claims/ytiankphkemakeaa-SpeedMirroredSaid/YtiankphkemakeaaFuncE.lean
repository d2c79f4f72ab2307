/- The contract of the program's Ends. -/
import Derived.Test.YtiankphkemakeaaFuncD
namespace Go.Proofs.Ytiankphkemakeaa
set_option linter.unusedSimpArgs false
set_option linter.unusedVariables false
open Go.RowKit Go.Shelf

/-- What Ends returns. -/
def endsR (T : Int) (rs : List R) (high : Bool) : List Int × Int :=
  if chk T rs ≠ 0 then ([], chk T rs) else
  if (endsOf high T.toNat (whole T.toNat rs)).2 then (((endsOf high T.toNat (whole T.toNat rs)).1.drop 1).take T.toNat, 0)
  else ([], 21)

theorem ends31_bad (A : Option Addr) (n cap : Nat) (T : Int) (high : Bool) (rs : List R) (w : World) (h : Rules w A n rs) (hn : n ≤ 140737488355328) (he : chk T rs ≠ 0) :
    Calls Try.prog 31 #[.agg #[.int .i64 T, .slice A n cap], .bool high] w fun e w' => ∃ C k capk, e = .returned (.tuple #[.slice C k capk, .int .i64 (endsR T rs high).2]) ∧ Ints w' C k (endsR T rs high).1 ∧ Below w.heap.size w w' := by
  have HB0 := Lib.hid (show Below w.heap.size w (w.alloc (.cells #[.int .i64 T, .slice A n cap] 24)) from (Below.refl _ _).alloc (Nat.le_refl _) _)
  have H0 := Lib.hid (h.below HB0.out (Nat.le_refl _))
  have He := Lib.hid he
  have he2 : (chk T rs != 0) = true := by rw [bne_iff_ne]; exact he
  have Hm := Lib.hid (show endsR T rs high = ([], chk T rs) by unfold endsR; rw [if_pos he])
  clear h he
  go_enter Try.func31, Try.ntmps31
  go_wp2_with fail
  refine (complete53_bad A n cap T rs _ H0.out hn He.out).mono ?_
  rintro e w1 ⟨rfl, hb⟩
  have Hb := Lib.hid hb
  clear hb
  go_wp2_with fail
  go_ret2
  exact ⟨none, 0, 0, by rw [Hm.out]; rfl, by rw [Hm.out]; exact ⟨rfl, fun h => absurd h (by omega)⟩, (HB0.out.trans (Hb.out.mono (by simp))).alloc (by have := Hb.out.size; simp at this; omega) _⟩

set_option maxRecDepth 100000 in
set_option maxHeartbeats 2000000 in
theorem ends31_ok (A : Option Addr) (n cap T : Nat) (high : Bool) (rs : List R) (w : World) (h : Rules w A n rs) (he : chk T rs = 0) :
    Calls Try.prog 31 #[.agg #[.int .i64 (T : Int), .slice A n cap], .bool high] w fun e w' => ∃ C k capk, e = .returned (.tuple #[.slice C k capk, .int .i64 (endsR T rs high).2]) ∧ Ints w' C k (endsR T rs high).1 ∧ Below w.heap.size w w' := by
  obtain ⟨hl60, hT1, hT20, _⟩ := chk_ok he
  have hn60 : n ≤ 60 := by rw [← h.1]; exact hl60
  have hT2 : T ≤ 20 := by omega
  have hT3 : 1 ≤ T := by omega
  have Hm := Lib.hid (show endsR T rs high = if (endsOf high T (whole T rs)).2 then (((endsOf high T (whole T rs)).1.drop 1).take T, 0) else ([], 21) by unfold endsR; rw [if_neg (by simpa using he), Int.toNat_natCast])
  have HB0 := Lib.hid (show Below w.heap.size w (w.alloc (.cells #[.int .i64 (T : Int), .slice A n cap] 24)) from (Below.refl _ _).alloc (Nat.le_refl _) _)
  have H0 := Lib.hid (h.below HB0.out (Nat.le_refl _))
  have Hfit := Lib.hid (fit_whole he)
  have Hlen := Lib.hid (show (whole T rs).length = n + 2 * T by rw [whole_len2, h.1])
  have He := Lib.hid he
  clear h he hT1 hT20 hl60
  refine (callsIn_wide (n := 5)).1 ?_
  refine callsIn_of_wp Try.func31 rfl trivial ?_ rfl
  simp only [Try.ntmps31, List.size_toArray, List.length_cons, List.length_nil, Nat.reduceAdd, Nat.reduceSub, Array.replicate_succ, Array.replicate_zero, List.push_toArray, List.append_toArray, List.nil_append, List.cons_append]
  gi_wp2_with fail
  refine ⟨trivial, (callsIn_wide.2 (complete53_ok A n cap T rs _ H0.out He.out)).mono ?_⟩
  rintro e w1 ⟨A1, cap1, rfl, hown, hb⟩
  have Hb := Lib.hid (HB0.out.trans (hb.mono (by simp)))
  have hz : w.heap.size < w1.heap.size := by have := hb.size; simp at this; omega
  have Hr1 := Lib.hid (Rules.of_own hown)
  clear hb hown
  gi_wp2_with fail
  have HBa := Lib.hid (show Below w1.heap.size w1 (w1.alloc (.cells #[.int .i64 (T : Int), .slice A n cap, .slice A1 (n + 2 * T) cap1] 79)) from (Below.refl _ _).alloc (Nat.le_refl _) _)
  have Hbox := Lib.hid (show Box79 (w1.alloc (.cells #[.int .i64 (T : Int), .slice A n cap, .slice A1 (n + 2 * T) cap1] 79)) w1.heap.size T A n cap A1 (n + 2 * T) cap1 by refine ⟨?_, ?_, ?_⟩ <;> (rw [World.cell?_alloc_new]; rfl))
  have Hsz := Lib.hid (show (w1.alloc (.cells #[.int .i64 (T : Int), .slice A n cap, .slice A1 (n + 2 * T) cap1] 79)).heap.size = w1.heap.size + 1 by simp)
  have Hr2 := Lib.hid (Hr1.out.below HBa.out (Nat.le_refl _))
  obtain ⟨W2, hW2⟩ : ∃ W2, w1.alloc (.cells #[.int .i64 (T : Int), .slice A n cap, .slice A1 (n + 2 * T) cap1] 79) = W2 := ⟨_, rfl⟩
  rw [hW2] at HBa Hbox Hsz Hr2 ⊢
  clear hW2
  have HBw := Lib.hid (Hb.out.trans (HBa.out.mono (by omega)))
  have hlF := endsOf_length high T (whole T rs) Hfit.out (by rw [Hlen.out]; omega) hT2
  refine ⟨trivial, (callsIn_wide.2 (ends67 T A A1 n cap (n + 2 * T) cap1 high (whole T rs) W2 Hr2.out hT2 (by omega) (by omega) Hfit.out)).mono ?_⟩
  rintro e w3 ⟨rfl, hb3⟩
  obtain ⟨p, ok, hF⟩ : ∃ p ok, endsOf high T (whole T rs) = (p, ok) := ⟨_, _, rfl⟩
  rw [hF] at hlF ⊢
  have HF := Lib.hid hF
  have HlF := Lib.hid hlF
  have hl2 : w1.heap.size < W2.heap.size := by have := Hsz.out; omega
  have hz3 : W2.heap.size ≤ w3.heap.size := hb3.size
  have e0 := ((bcell hb3).1 w1.heap.size 0 hl2).trans Hbox.out.1
  have Hb3 := Lib.hid hb3
  clear hb3 hF hlF
  dsimp only
  gi_wp2_with (with_reducible refine holdStore 87 _ _ rfl ?_)
  unfold Held
  refine wpListIn_store rfl 87 (.tmp 8) (.tmp 22) rfl _ _ rfl rfl (store87_new rfl rfl HlF.out) ?_
  have HBb := Lib.hid (show Below w3.heap.size w3 (w3.alloc (.cells (pv p) 87)) from (Below.refl _ _).alloc (Nat.le_refl _) _)
  have Hpf := Lib.hid (show (w3.alloc (.cells (pv p) 87)).heap[w3.heap.size]? = some (.cells (pv p) 87 (0, 0)) from heap_alloc_new _ _)
  obtain ⟨W4, hW4⟩ : ∃ W4, w3.alloc (.cells (pv p) 87) = W4 := ⟨_, rfl⟩
  rw [hW4] at HBb Hpf ⊢
  clear hW4
  have f0 := ((bcell HBb.out).1 w1.heap.size 0 (by omega)).trans e0
  have HBA := Lib.hid (show Below w.heap.size w W4 from (HBw.out.trans (Hb3.out.mono (by have := HBw.out.size; omega))).trans (HBb.out.mono (by have := HBw.out.size; omega)))
  clear e0
  cases ok with
  | false =>
    gi_wp2_with fail
    refine bodyPost_ret (v := .tuple #[.slice none 0 0, .int .i64 21]) (by simp [results, Try.results31, go_sem]) rfl ⟨none, 0, 0, by rw [Hm.out, HF.out]; rfl, by rw [Hm.out, HF.out]; exact ⟨rfl, fun h => absurd h (by omega)⟩, HBA.out⟩
  | true =>
    have hT4 : (1 : Int) ≤ (T : Int) + 1 := by omega
    have hT5 : (T : Int) + 1 ≤ 21 := by omega
    gi_wp2_with fail
    have HI := Lib.hid (show Ints W4 (some ⟨w3.heap.size, 1, none⟩) T ((p.drop 1).take T) by
      have hl := HlF.out
      refine ⟨by simp [hl]; omega, fun _ => ⟨w3.heap.size, 1, rfl, fun j hj => ?_⟩⟩
      rw [cell_pv Hpf.out (1 + j) (by omega)]
      simp [nth, List.getD, List.getElem?_take, hj, List.getElem?_drop, Nat.add_comm])
    refine ⟨trivial, (callsIn_wide.2 (clone68 (some ⟨w3.heap.size, 1, none⟩) T 20 _ W4 HI.out (by omega))).mono ?_⟩
    rintro e w5 ⟨C, capk, rfl, hi, hb5⟩
    have Hi := Lib.hid hi
    have Hb5 := Lib.hid hb5
    clear hi hb5
    gi_wp2_with fail
    refine bodyPost_ret (v := .tuple #[.slice C T capk, .int .i64 0]) (by simp [results, Try.results31, go_sem]) rfl ⟨C, T, capk, by rw [Hm.out, HF.out]; rfl, by rw [Hm.out, HF.out]; exact Hi.out, HBA.out.trans (Hb5.out.mono HBA.out.size)⟩

theorem ends31 (A : Option Addr) (n cap : Nat) (T : Int) (high : Bool) (rs : List R) (w : World) (h : Rules w A n rs) (hn : n ≤ 140737488355328) :
    Calls Try.prog 31 #[.agg #[.int .i64 T, .slice A n cap], .bool high] w fun e w' => ∃ C k capk, e = .returned (.tuple #[.slice C k capk, .int .i64 (endsR T rs high).2]) ∧ Ints w' C k (endsR T rs high).1 ∧ Below w.heap.size w w' := by
  by_cases he : chk T rs = 0
  · obtain ⟨_, hT1, _, _⟩ := chk_ok he
    obtain ⟨k, rfl⟩ := Int.eq_ofNat_of_zero_le (show 0 ≤ T by omega)
    exact ends31_ok A n cap k high rs w h he
  · exact ends31_bad A n cap T high rs w h hn he
end Go.Proofs.Ytiankphkemakeaa
