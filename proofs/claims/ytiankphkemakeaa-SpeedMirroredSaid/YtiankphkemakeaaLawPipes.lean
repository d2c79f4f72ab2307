/- The walk of SpeedPipes. -/
import Derived.Test.YtiankphkemakeaaRPipe
namespace Go.Proofs.Ytiankphkemakeaa
set_option linter.unusedSimpArgs false
set_option linter.unusedVariables false
open Go.RowKit Go.Shelf

/-- Works returns true. -/
def WorksOk : Prop := ∀ w : World, Calls Try.prog 15 #[] w fun e w' => e = .returned (.bool true) ∧ Below w.heap.size w w'

theorem pipeR_len (t p lo hi : Int) : (pipeR t p lo hi).1.length ≤ 2 := by
  unfold pipeR
  split
  · split
    · split <;> simp
    · simp
  · simp
theorem springR_len (f l d : Int) : (springR f l d).1.length ≤ 40 := by
  unfold springR
  by_cases h : within 1 20 [f, l] = true ∧ f < l
  · rw [if_pos h]
    have h2 : (1 ≤ f ∧ f ≤ 20) ∧ 1 ≤ l ∧ l ≤ 20 := by simpa [within] using h.1
    split
    · rw [springRules_length]; omega
    · simp
  · rw [if_neg h]; simp

set_option maxRecDepth 100000 in
set_option maxHeartbeats 1000000 in
theorem speedPipes6 (HW : Hid WorksOk) (t p lo hi l d : Int) (w : World) :
    Calls Try.prog 6 #[.int .i64 t, .int .i64 p, .agg #[.int .i64 lo, .int .i64 hi], .int .i64 l, .int .i64 d] w fun e w' => e = .returned (.bool true) ∧ Below w.heap.size w w' := by
  have HB0 := Lib.hid (show Below w.heap.size w (w.alloc (.cells #[.int .i64 lo, .int .i64 hi] 43)) from (Below.refl _ _).alloc (Nat.le_refl _) _)
  have Hlp := Lib.hid (pipeR_len t p lo hi)
  have Hls := Lib.hid (springR_len t l d)
  go_enter Try.func6, Try.ntmps6
  go_wp2_with fail
  refine (pipe38 t p lo hi _).mono ?_
  rintro e w1 ⟨C1, k1, q1, rfl, hr1, hb1⟩
  have hz : w.heap.size < w1.heap.size := by have := hb1.size; simp at this; omega
  have c0 : w1.cell? ⟨w.heap.size, 0, none⟩ = some (.int .i64 lo) := by rw [(bcell hb1).1 _ _ (by simp)]; go_simp
  have c1 : w1.cell? ⟨w.heap.size, 1, none⟩ = some (.int .i64 hi) := by rw [(bcell hb1).1 _ _ (by simp)]; go_simp
  have HB1 := Lib.hid (HB0.out.trans (hb1.mono (by simp)))
  have R1 := Lib.hid hr1
  obtain ⟨er1, he1⟩ : ∃ er1, (pipeR t p lo hi).2 = er1 := ⟨_, rfl⟩
  have He1 := Lib.hid he1
  rw [he1]
  clear hb1 hr1 he1
  go_wp2_with fail
  refine (pipe39 t p lo hi _).mono ?_
  rintro e w2 ⟨C2, k2, q2, rfl, hr2, hb2⟩
  have R1' := Lib.hid (R1.out.below hb2 (Nat.le_refl _))
  have HB2 := Lib.hid (HB1.out.trans (hb2.mono HB1.out.size))
  have R2 := Lib.hid hr2
  rw [He1.out]
  clear hb2 hr2 R1 HB1 c0 c1 hz
  go_wp2_with fail
  refine (spring40 t l d _).mono ?_
  rintro e w3 ⟨C3, k3, q3, rfl, hr3, hb3⟩
  have R1 := Lib.hid (R1'.out.below hb3 (Nat.le_refl _))
  have R2' := Lib.hid (R2.out.below hb3 (Nat.le_refl _))
  have HB3 := Lib.hid (HB2.out.trans (hb3.mono HB2.out.size))
  have R3 := Lib.hid hr3
  obtain ⟨er3, he3⟩ : ∃ er3, (springR t l d).2 = er3 := ⟨_, rfl⟩
  have He3 := Lib.hid he3
  rw [he3]
  clear hb3 hr3 R1' R2 HB2 he3
  go_wp2_with fail
  refine (spring41 t l d _).mono ?_
  rintro e w4 ⟨C4, k4, q4, rfl, hr4, hb4⟩
  have R1' := Lib.hid (R1.out.below hb4 (Nat.le_refl _))
  have R2 := Lib.hid (R2'.out.below hb4 (Nat.le_refl _))
  have R3' := Lib.hid (R3.out.below hb4 (Nat.le_refl _))
  have HB4 := Lib.hid (HB3.out.trans (hb4.mono HB3.out.size))
  have R4 := Lib.hid hr4
  rw [He3.out]
  clear hb4 hr4 R1 R2' R3 HB3
  go_wp2_with fail
  refine (rules20 C1 C2 k1 _ k2 _ _ _ _ R1'.out R2.out (by rw [← R1'.out.1]; have := Hlp.out; omega) (by rw [← R2.out.1]; have := Hlp.out; omega)).mono ?_
  rintro e w5 ⟨rfl, hb5⟩
  rw [decide_eq_true rfl]
  have R3 := Lib.hid (R3'.out.below hb5 (Nat.le_refl _))
  have R4' := Lib.hid (R4.out.below hb5 (Nat.le_refl _))
  have HB5 := Lib.hid (HB4.out.trans (hb5.mono HB4.out.size))
  clear hb5 R1' R2 R3' R4 HB4
  go_wp2_with fail
  refine (rules20 C3 C4 k3 _ k4 _ _ _ _ R3.out R4'.out (by rw [← R3.out.1]; have := Hls.out; omega) (by rw [← R4'.out.1]; have := Hls.out; omega)).mono ?_
  rintro e w6 ⟨rfl, hb6⟩
  rw [decide_eq_true rfl]
  have HB6 := Lib.hid (HB5.out.trans (hb6.mono HB5.out.size))
  clear hb6 R3 R4' HB5
  go_wp2_with fail
  refine (HW.out _).mono ?_
  rintro e w7 ⟨rfl, hb7⟩
  have HB7 := Lib.hid (HB6.out.trans (hb7.mono HB6.out.size))
  clear hb7 HB6
  go_wp2_with fail
  go_ret
  exact ⟨rfl, HB7.out⟩
end Go.Proofs.Ytiankphkemakeaa
