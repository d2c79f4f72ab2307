/- Stage 3: places of tones, and how they are compared. -/
import Derived.Test.YtdfdlklglbefiaaSrt
import Derived.Deep.RegionHeld3
import Derived.Deep.Cut
namespace Go.Proofs.Ytdfdlklglbefiaa
set_option linter.unusedSimpArgs false
set_option linter.unusedVariables false
open Go.RowKit Go.Shelf

/-- An end of a tone. -/
def ofE (e : Bool) (t : Tn) : Int := if e then t.r.hi else t.r.lo
/-- The place by which tones are put in order for an end. -/
def plE (e : Bool) (t : Tn) : Int := if e then t.r.hi else IntKind.i64.wrap (-t.r.lo)

theorem of63 (e : Bool) (t : Tn) (w : World) : Calls Try.prog 63 #[.bool e, tnV t] w fun en w' => en = .returned (.int .i64 (ofE e t)) ∧ Below w.heap.size w w' := by
  unfold tnV
  cases e with
  | true =>
    go_enter Try.func63, Try.ntmps63
    go_wp2_with fail
    go_ret
    exact ⟨rfl, below_alloc_ _ _⟩
  | false =>
    go_enter Try.func63, Try.ntmps63
    go_wp2_with fail
    go_ret
    exact ⟨rfl, below_alloc_ _ _⟩

theorem place65 (e : Bool) (E : Nat) (t : Tn) (w : World) (hE : w.cell? ⟨E, 0, none⟩ = some (.bool e)) : Calls Try.prog 65 #[tnV t, .pointer (some ⟨E, 0, none⟩)] w fun en w' => en = .returned (.int .i64 (plE e t)) ∧ Below w.heap.size w w' := by
  have hb := below_alloc_ w (.cells #[.int .i64 t.r.lo, .int .i64 t.r.hi, .int .i64 (t.nm : Int)] 78)
  have hE2 := (hb.cell (p := ⟨E, 0, none⟩) (lt_of_cell hE)).trans hE
  have Hb := Lib.hid hb
  unfold tnV
  have hl := fun W => of63 e t W
  unfold tnV at hl
  clear hb
  cases e with
  | true =>
    go_enter Try.func65, Try.ntmps65
    go_wp2_with fail
    refine (hl _).mono ?_
    rintro en w2 ⟨rfl, hb2⟩
    have HF := Lib.hid (Hb.out.trans (hb2.mono Hb.out.size))
    clear hb2 hl
    go_wp2_with fail
    go_ret
    exact ⟨rfl, HF.out⟩
  | false =>
    go_enter Try.func65, Try.ntmps65
    go_wp2_with fail
    refine (hl _).mono ?_
    rintro en w2 ⟨rfl, hb2⟩
    have HF := Lib.hid (Hb.out.trans (hb2.mono Hb.out.size))
    clear hb2 hl
    simp only [ofE]
    go_wp2_with fail
    go_ret
    exact ⟨ret_int (by unfold plE; simp; exact (IntWalk.i64_left _).symm), HF.out⟩

theorem isNaN103 (x : Int) (w : World) : Calls Try.prog 103 #[.int .i64 x] w fun en w' => en = .returned (.bool false) ∧ w' = w := by
  have h : (x != x) = false := by simp
  go_enter Try.func103, Try.ntmps103
  go_wp2_with fail
  go_ret
  exact ⟨rfl, rfl⟩
theorem compare79 (x y : Int) (w : World) : Calls Try.prog 79 #[.int .i64 x, .int .i64 y] w fun en w' => en = .returned (.int .i64 (cmpI x y)) ∧ w' = w := by
  by_cases h1 : x < y
  · have d1 : decide (x < y) = true := decide_eq_true h1
    have Hc := Lib.hid (show cmpI x y = -1 by unfold cmpI; rw [if_pos h1])
    clear h1
    go_enter Try.func79, Try.ntmps79
    go_wp2_with (go_at_call 103; refine (isNaN103 _ _).mono ?_; rintro en w' ⟨rfl, rfl⟩)
    go_ret
    exact ⟨ret_int Hc.out.symm, rfl⟩
  · have d1 : decide (x < y) = false := decide_eq_false h1
    by_cases h2 : y < x
    · have d2 : decide (y < x) = true := decide_eq_true h2
      have Hc := Lib.hid (show cmpI x y = 1 by unfold cmpI; rw [if_neg h1, if_pos h2])
      clear h1 h2
      go_enter Try.func79, Try.ntmps79
      go_wp2_with (go_at_call 103; refine (isNaN103 _ _).mono ?_; rintro en w' ⟨rfl, rfl⟩)
      go_ret
      exact ⟨ret_int Hc.out.symm, rfl⟩
    · have d2 : decide (y < x) = false := decide_eq_false h2
      have Hc := Lib.hid (show cmpI x y = 0 by unfold cmpI; rw [if_neg h1, if_neg h2])
      clear h1 h2
      go_enter Try.func79, Try.ntmps79
      go_wp2_with (go_at_call 103; refine (isNaN103 _ _).mono ?_; rintro en w' ⟨rfl, rfl⟩)
      go_ret
      exact ⟨ret_int Hc.out.symm, rfl⟩
set_option maxRecDepth 100000 in
set_option maxHeartbeats 4000000 in
theorem cmp78A (x y : Tn) (e : Bool) (E : Nat) (Pb : Nat) (w : World) (hP : w.cell? ⟨Pb, 0, none⟩ = some (.func (.func 65) #[] #[.pointer (some ⟨E, 0, none⟩)])) (hE : w.cell? ⟨E, 0, none⟩ = some (.bool e)) :
    Calls Try.prog 78 (#[tnV x, tnV y] ++ #[.pointer (some ⟨Pb, 0, none⟩)]) w fun en w' => en = .returned (.int .i64 (cmpI (plE e x) (plE e y))) ∧ Below w.heap.size w w' := by
  obtain ⟨c, hc⟩ : ∃ c, cmpI (plE e x) (plE e y) = c := ⟨_, rfl⟩
  have Hc := Lib.hid hc
  rw [hc]
  have hb : Below w.heap.size w ((w.alloc (.cells #[.int .i64 x.r.lo, .int .i64 x.r.hi, .int .i64 (x.nm : Int)] 78)).alloc (.cells #[.int .i64 y.r.lo, .int .i64 y.r.hi, .int .i64 (y.nm : Int)] 78)) := (below_alloc_ _ _).trans ((below_alloc_ _ _).mono (by simp))
  have r0 : ((w.alloc (.cells #[.int .i64 x.r.lo, .int .i64 x.r.hi, .int .i64 (x.nm : Int)] 78)).alloc (.cells #[.int .i64 y.r.lo, .int .i64 y.r.hi, .int .i64 (y.nm : Int)] 78)).heap[w.heap.size]? = some (.cells #[.int .i64 x.r.lo, .int .i64 x.r.hi, .int .i64 (x.nm : Int)] 78 (0, 0)) := hal_old (heap_alloc_new_ _ _)
  have r1 : ((w.alloc (.cells #[.int .i64 x.r.lo, .int .i64 x.r.hi, .int .i64 (x.nm : Int)] 78)).alloc (.cells #[.int .i64 y.r.lo, .int .i64 y.r.hi, .int .i64 (y.nm : Int)] 78)).heap[w.heap.size + 1]? = some (.cells #[.int .i64 y.r.lo, .int .i64 y.r.hi, .int .i64 (y.nm : Int)] 78 (0, 0)) := hal_new (by simp)
  have hP2 := (hb.cell (p := ⟨Pb, 0, none⟩) (lt_of_cell hP)).trans hP
  have hE2 := (hb.cell (p := ⟨E, 0, none⟩) (lt_of_cell hE)).trans hE
  have HE := Lib.hid hE2
  clear hE hE2
  have hl := fun W => fun (t : Tn) (h : W.cell? ⟨E, 0, none⟩ = some (.bool e)) => place65 e E t W h
  unfold tnV at hl
  unfold tnV
  have Hb := Lib.hid hb
  have Hr0 := Lib.hid r0
  have Hr1 := Lib.hid r1
  have HP := Lib.hid hP2
  clear hP hP2 hb r0 r1 hc
  simp only [List.append_toArray, List.cons_append, List.nil_append]
  go_enter Try.func78, Try.ntmps78
  go_upto_region 1 with fail
  obtain ⟨W1, hW1⟩ : ∃ W1, (w.alloc (.cells #[.int .i64 x.r.lo, .int .i64 x.r.hi, .int .i64 (x.nm : Int)] 78)).alloc (.cells #[.int .i64 y.r.lo, .int .i64 y.r.hi, .int .i64 (y.nm : Int)] 78) = W1 := ⟨_, rfl⟩
  rw [hW1] at Hb Hr0 Hr1 HP HE ⊢
  obtain ⟨B, hB⟩ : ∃ B, w.heap.size = B := ⟨_, rfl⟩
  have HBe := Lib.hid hB
  rw [hB] at Hr0 Hr1 ⊢
  clear hW1 hB
  have HS := Lib.hid (show ∀ W', Below W1.heap.size W1 W' → (Below W1.heap.size W1 W' ∧ W'.cell? ⟨Pb, 0, none⟩ = some (.func (.func 65) #[] #[.pointer (some ⟨E, 0, none⟩)]) ∧ W'.cell? ⟨E, 0, none⟩ = some (.bool e) ∧ W'.cell? ⟨B, 0, none⟩ = some (.int .i64 x.r.lo) ∧ W'.cell? ⟨B, 1, none⟩ = some (.int .i64 x.r.hi) ∧ W'.cell? ⟨B, 2, none⟩ = some (.int .i64 (x.nm : Int)) ∧ W'.cell? ⟨B + 1, 0, none⟩ = some (.int .i64 y.r.lo) ∧ W'.cell? ⟨B + 1, 1, none⟩ = some (.int .i64 y.r.hi) ∧ W'.cell? ⟨B + 1, 2, none⟩ = some (.int .i64 (y.nm : Int))) from fun W' hW => by
    have g0 := (hW.block _ (lt_of_block Hr0.out)).trans Hr0.out
    have g1 := (hW.block _ (lt_of_block Hr1.out)).trans Hr1.out
    refine ⟨hW, (hW.cell (p := ⟨Pb, 0, none⟩) (lt_of_cell HP.out)).trans HP.out, (hW.cell (p := ⟨E, 0, none⟩) (lt_of_cell HE.out)).trans HE.out, ?_, ?_, ?_, ?_, ?_, ?_⟩
    · rw [cell_row g0]; rfl
    · rw [cell_row g0]; rfl
    · rw [cell_row g0]; rfl
    · rw [cell_row g1]; rfl
    · rw [cell_row g1]; rfl
    · rw [cell_row g1]; rfl)
  go_region_held3 (fun W' => Below W1.heap.size W1 W' ∧ W'.cell? ⟨Pb, 0, none⟩ = some (.func (.func 65) #[] #[.pointer (some ⟨E, 0, none⟩)]) ∧ W'.cell? ⟨E, 0, none⟩ = some (.bool e) ∧ W'.cell? ⟨B, 0, none⟩ = some (.int .i64 x.r.lo) ∧ W'.cell? ⟨B, 1, none⟩ = some (.int .i64 x.r.hi) ∧ W'.cell? ⟨B, 2, none⟩ = some (.int .i64 (x.nm : Int)) ∧ W'.cell? ⟨B + 1, 0, none⟩ = some (.int .i64 y.r.lo) ∧ W'.cell? ⟨B + 1, 1, none⟩ = some (.int .i64 y.r.hi) ∧ W'.cell? ⟨B + 1, 2, none⟩ = some (.int .i64 (y.nm : Int)))
    (first | exact HS.out _ (drew_b W1 1) | (go_split_ands; exact HS.out _ (Below.trans (by assumption) (Below.mono (by assumption) (Below.size (by assumption))))) | (go_split_ands; exact HS.out _ (by assumption)))
    (first
      | (go_at_call 79; go_split_ands; refine (compare79 _ _ _).mono ?_; rintro en w' ⟨rfl, rfl⟩)
      | (go_at_call 65; go_split_ands; refine (hl _ _ (by assumption)).mono ?_; rintro en w' ⟨rfl, hb⟩))
  go_wp2_with fail
  have hS9 : Below W1.heap.size W1 w' := And.left (by assumption)
  go_ret
  exact ⟨ret_int Hc.out, Hb.out.trans (hS9.mono Hb.out.size)⟩
set_option maxRecDepth 100000 in
set_option maxHeartbeats 4000000 in
theorem cmp78B (x y : Tn) (e : Bool) (Pb : Nat) (w : World) (hP : w.cell? ⟨Pb, 0, none⟩ = some (.func (.func 63) #[.bool e] #[])) :
    Calls Try.prog 78 (#[tnV x, tnV y] ++ #[.pointer (some ⟨Pb, 0, none⟩)]) w fun en w' => en = .returned (.int .i64 (cmpI (ofE e x) (ofE e y))) ∧ Below w.heap.size w w' := by
  obtain ⟨c, hc⟩ : ∃ c, cmpI (ofE e x) (ofE e y) = c := ⟨_, rfl⟩
  have Hc := Lib.hid hc
  rw [hc]
  have hb : Below w.heap.size w ((w.alloc (.cells #[.int .i64 x.r.lo, .int .i64 x.r.hi, .int .i64 (x.nm : Int)] 78)).alloc (.cells #[.int .i64 y.r.lo, .int .i64 y.r.hi, .int .i64 (y.nm : Int)] 78)) := (below_alloc_ _ _).trans ((below_alloc_ _ _).mono (by simp))
  have r0 : ((w.alloc (.cells #[.int .i64 x.r.lo, .int .i64 x.r.hi, .int .i64 (x.nm : Int)] 78)).alloc (.cells #[.int .i64 y.r.lo, .int .i64 y.r.hi, .int .i64 (y.nm : Int)] 78)).heap[w.heap.size]? = some (.cells #[.int .i64 x.r.lo, .int .i64 x.r.hi, .int .i64 (x.nm : Int)] 78 (0, 0)) := hal_old (heap_alloc_new_ _ _)
  have r1 : ((w.alloc (.cells #[.int .i64 x.r.lo, .int .i64 x.r.hi, .int .i64 (x.nm : Int)] 78)).alloc (.cells #[.int .i64 y.r.lo, .int .i64 y.r.hi, .int .i64 (y.nm : Int)] 78)).heap[w.heap.size + 1]? = some (.cells #[.int .i64 y.r.lo, .int .i64 y.r.hi, .int .i64 (y.nm : Int)] 78 (0, 0)) := hal_new (by simp)
  have hP2 := (hb.cell (p := ⟨Pb, 0, none⟩) (lt_of_cell hP)).trans hP
  have hl := fun W => fun (t : Tn) => of63 e t W
  unfold tnV at hl
  unfold tnV
  have Hb := Lib.hid hb
  have Hr0 := Lib.hid r0
  have Hr1 := Lib.hid r1
  have HP := Lib.hid hP2
  clear hP hP2 hb r0 r1 hc
  simp only [List.append_toArray, List.cons_append, List.nil_append]
  go_enter Try.func78, Try.ntmps78
  go_upto_region 1 with fail
  obtain ⟨W1, hW1⟩ : ∃ W1, (w.alloc (.cells #[.int .i64 x.r.lo, .int .i64 x.r.hi, .int .i64 (x.nm : Int)] 78)).alloc (.cells #[.int .i64 y.r.lo, .int .i64 y.r.hi, .int .i64 (y.nm : Int)] 78) = W1 := ⟨_, rfl⟩
  rw [hW1] at Hb Hr0 Hr1 HP ⊢
  obtain ⟨B, hB⟩ : ∃ B, w.heap.size = B := ⟨_, rfl⟩
  have HBe := Lib.hid hB
  rw [hB] at Hr0 Hr1 ⊢
  clear hW1 hB
  have HS := Lib.hid (show ∀ W', Below W1.heap.size W1 W' → (Below W1.heap.size W1 W' ∧ W'.cell? ⟨Pb, 0, none⟩ = some (.func (.func 63) #[.bool e] #[]) ∧ W'.cell? ⟨B, 0, none⟩ = some (.int .i64 x.r.lo) ∧ W'.cell? ⟨B, 1, none⟩ = some (.int .i64 x.r.hi) ∧ W'.cell? ⟨B, 2, none⟩ = some (.int .i64 (x.nm : Int)) ∧ W'.cell? ⟨B + 1, 0, none⟩ = some (.int .i64 y.r.lo) ∧ W'.cell? ⟨B + 1, 1, none⟩ = some (.int .i64 y.r.hi) ∧ W'.cell? ⟨B + 1, 2, none⟩ = some (.int .i64 (y.nm : Int))) from fun W' hW => by
    have g0 := (hW.block _ (lt_of_block Hr0.out)).trans Hr0.out
    have g1 := (hW.block _ (lt_of_block Hr1.out)).trans Hr1.out
    refine ⟨hW, (hW.cell (p := ⟨Pb, 0, none⟩) (lt_of_cell HP.out)).trans HP.out, ?_, ?_, ?_, ?_, ?_, ?_⟩
    · rw [cell_row g0]; rfl
    · rw [cell_row g0]; rfl
    · rw [cell_row g0]; rfl
    · rw [cell_row g1]; rfl
    · rw [cell_row g1]; rfl
    · rw [cell_row g1]; rfl)
  go_region_held3 (fun W' => Below W1.heap.size W1 W' ∧ W'.cell? ⟨Pb, 0, none⟩ = some (.func (.func 63) #[.bool e] #[]) ∧ W'.cell? ⟨B, 0, none⟩ = some (.int .i64 x.r.lo) ∧ W'.cell? ⟨B, 1, none⟩ = some (.int .i64 x.r.hi) ∧ W'.cell? ⟨B, 2, none⟩ = some (.int .i64 (x.nm : Int)) ∧ W'.cell? ⟨B + 1, 0, none⟩ = some (.int .i64 y.r.lo) ∧ W'.cell? ⟨B + 1, 1, none⟩ = some (.int .i64 y.r.hi) ∧ W'.cell? ⟨B + 1, 2, none⟩ = some (.int .i64 (y.nm : Int)))
    (first | exact HS.out _ (drew_b W1 1) | (go_split_ands; exact HS.out _ (Below.trans (by assumption) (Below.mono (by assumption) (Below.size (by assumption))))) | (go_split_ands; exact HS.out _ (by assumption)))
    (first
      | (go_at_call 79; go_split_ands; refine (compare79 _ _ _).mono ?_; rintro en w' ⟨rfl, rfl⟩)
      | (go_at_call 63; go_split_ands; refine (hl _ _).mono ?_; rintro en w' ⟨rfl, hb⟩))
  go_wp2_with fail
  have hS9 : Below W1.heap.size W1 w' := And.left (by assumption)
  go_ret
  exact ⟨ret_int Hc.out, Hb.out.trans (hS9.mono Hb.out.size)⟩
end Go.Proofs.Ytdfdlklglbefiaa
