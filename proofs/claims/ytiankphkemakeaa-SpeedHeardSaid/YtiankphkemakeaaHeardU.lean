/- What SpeedHeard's cases ask. -/
import Derived.Test.YtiankphkemakeaaHeardT
import Derived.Test.YtiankphkemakeaaLift
namespace Go.Proofs.Ytiankphkemakeaa
set_option linter.unusedSimpArgs false
set_option linter.unusedVariables false
open Go.RowKit Go.Shelf

theorem u32_bounds {n : Int} (h : (Lit.int .u32 n).wf = true) : 0 ≤ n ∧ n ≤ 4294967295 := by
  have h' : (decide (IntKind.u32.min ≤ n) && decide (n ≤ IntKind.u32.max)) = true := h
  rw [show IntKind.u32.min = 0 from by decide, show IntKind.u32.max = 4294967295 from by decide] at h'
  simp at h'
  exact h'
/-- The least and the greatest speed of a pipe's rules. -/
def loOf (p h : Int) : Int := (p * 16000 - 1) / h + 1
def hiOf (p l : Int) : Int := min (p * 16000 / l) 100000
theorem loOf_pos {p h : Int} (hp : 1 ≤ p) (hh : 1 ≤ h) : 1 ≤ loOf p h := by
  unfold loOf
  have : 0 ≤ (p * 16000 - 1) / h := Int.ediv_nonneg (by omega) (by omega)
  omega
theorem hiOf_le {p l : Int} : hiOf p l ≤ 100000 := by unfold hiOf; omega
theorem pipe_no {p l h : Int} (hp : 1 ≤ p ∧ p ≤ 1000000) (hl : 1 ≤ l ∧ l ≤ 1000000) (hh : 1 ≤ h ∧ h ≤ 1000000) (hlh : l ≤ h) (hn : ¬ loOf p h ≤ hiOf p l) : pipeR 1 p l h = ([], 17) := by
  unfold pipeR
  rw [if_pos (by simp [within]), if_pos ⟨by simp [within]; omega, hlh⟩]
  exact if_neg hn
theorem pipe_two {p l h : Int} (hp : 1 ≤ p ∧ p ≤ 1000000) (hl : 1 ≤ l ∧ l ≤ 1000000) (hh : 1 ≤ h ∧ h ≤ 1000000) (hlh : l ≤ h) (hn : loOf p h ≤ hiOf p l) : pipeR 1 p l h = (two (loOf p h) (hiOf p l), 0) := by
  unfold pipeR
  rw [if_pos (by simp [within]), if_pos ⟨by simp [within]; omega, hlh⟩]
  exact if_pos hn
theorem heard_eq {p l h x : Int} (hp : 1 ≤ p) (hl : 1 ≤ l) (hh : 1 ≤ h) (hx : x ≤ 100000) : heardB p x l h = decide (loOf p h ≤ x ∧ x ≤ hiOf p l) := by
  rw [heardB_iff hp hl hh, decide_eq_decide]
  unfold loOf hiOf
  omega
theorem heard_yes {p l h x : Int} (hp : 1 ≤ p) (hl : 1 ≤ l) (hh : 1 ≤ h) (h1 : loOf p h ≤ x) (h2 : x ≤ hiOf p l) : heardB p x l h = true := by
  rw [heard_eq hp hl hh (Int.le_trans h2 hiOf_le)]
  exact decide_eq_true ⟨h1, h2⟩
theorem heard_not {p l h x : Int} (hp : 1 ≤ p) (hl : 1 ≤ l) (hh : 1 ≤ h) (hx : x ≤ 100000) (h1 : ¬ (loOf p h ≤ x ∧ x ≤ hiOf p l)) : heardB p x l h = false := by
  rw [heard_eq hp hl hh hx]
  exact decide_eq_false h1
theorem speeds_yes {p l h x : Int} (hp : 1 ≤ p) (hh : 1 ≤ h) (hn : loOf p h ≤ hiOf p l) (hx : 0 ≤ x) (hx2 : x ≤ 100000) (h1 : loOf p h ≤ x ∧ x ≤ hiOf p l) : checkSpeeds 1 (two (loOf p h) (hiOf p l)) [x] = 0 := by
  rw [two_speeds (loOf_pos hp hh) hn hiOf_le hx hx2, if_pos h1]
theorem speeds_no {p l h x : Int} (hp : 1 ≤ p) (hh : 1 ≤ h) (hn : loOf p h ≤ hiOf p l) (hx : 0 ≤ x) (hx2 : x ≤ 100000) (h1 : ¬ (loOf p h ≤ x ∧ x ≤ hiOf p l)) : checkSpeeds 1 (two (loOf p h) (hiOf p l)) [x] = 17 := by
  rw [two_speeds (loOf_pos hp hh) hn hiOf_le hx hx2, if_neg h1]
end Go.Proofs.Ytiankphkemakeaa
