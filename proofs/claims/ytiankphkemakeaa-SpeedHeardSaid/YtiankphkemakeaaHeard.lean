/- The contract of the document's Heard. -/
import Derived.Test.YtiankphkemakeaaRPipe
namespace Go.Proofs.Ytiankphkemakeaa
set_option linter.unusedSimpArgs false
set_option linter.unusedVariables false
open Go.RowKit Go.Shelf

/-- What Heard returns. -/
def heardB (p v lo hi : Int) : Bool := decide (0 < v ∧ lo * v ≤ p * 16000 ∧ p * 16000 ≤ hi * v)
theorem prod_bd {a v : Int} (h1 : 1 ≤ a) (h2 : a ≤ 1000000) (h3 : 0 ≤ v) (h4 : v ≤ 100000) : 0 ≤ a * v ∧ a * v ≤ 100000000000 := by
  constructor
  · exact Int.mul_nonneg (by omega) h3
  · have a1 : a * v ≤ a * 100000 := Int.mul_le_mul_of_nonneg_left h4 (by omega)
    omega
set_option maxRecDepth 100000 in
theorem heard49 (p v lo hi : Int) (w : World) (hp : 1 ≤ p ∧ p ≤ 1000000) (hv : 0 ≤ v ∧ v ≤ 100000) (hl : 1 ≤ lo ∧ lo ≤ 1000000) (hh : 1 ≤ hi ∧ hi ≤ 1000000) :
    Calls Try.prog 49 #[.int .i64 p, .int .i64 v, .agg #[.int .i64 lo, .int .i64 hi]] w fun e w' => e = .returned (.bool (heardB p v lo hi)) ∧ Below w.heap.size w w' := by
  have HB0 := Lib.hid (show Below w.heap.size w (w.alloc (.cells #[.int .i64 lo, .int .i64 hi] 43)) from (Below.refl _ _).alloc (Nat.le_refl _) _)
  obtain ⟨hp0, hp1⟩ := hp
  obtain ⟨hv0, hv1⟩ := hv
  obtain ⟨b0, b1⟩ := prod_bd hl.1 hl.2 hv0 hv1
  obtain ⟨b2, b3⟩ := prod_bd hh.1 hh.2 hv0 hv1
  have Hm : Hid (heardB p v lo hi = decide (0 < v ∧ lo * v ≤ p * 16000 ∧ p * 16000 ≤ hi * v)) := rfl
  clear hl hh
  by_cases h1 : 0 < v
  · have d1 : decide (0 < v) = true := decide_eq_true h1
    by_cases h2 : lo * v ≤ p * 16000
    · have d2 : decide (lo * v ≤ p * 16000) = true := decide_eq_true h2
      by_cases h3 : p * 16000 ≤ hi * v
      · have d3 : decide (p * 16000 ≤ hi * v) = true := decide_eq_true h3
        have Hr := Lib.hid (Hm.out.trans (decide_eq_true ⟨h1, h2, h3⟩))
        clear h2 h3
        go_enter Try.func49, Try.ntmps49
        go_wp2_with fail
        go_ret
        exact ⟨ret_bool Hr.out.symm, HB0.out⟩
      · have d3 : decide (p * 16000 ≤ hi * v) = false := decide_eq_false h3
        have Hr := Lib.hid (Hm.out.trans (decide_eq_false fun h => h3 h.2.2))
        clear h2 h3
        go_enter Try.func49, Try.ntmps49
        go_wp2_with fail
        go_ret
        exact ⟨ret_bool Hr.out.symm, HB0.out⟩
    · have d2 : decide (lo * v ≤ p * 16000) = false := decide_eq_false h2
      have Hr := Lib.hid (Hm.out.trans (decide_eq_false fun h => h2 h.2.1))
      clear h2
      go_enter Try.func49, Try.ntmps49
      go_wp2_with fail
      go_ret
      exact ⟨ret_bool Hr.out.symm, HB0.out⟩
  · have d1 : decide (0 < v) = false := decide_eq_false h1
    have Hr := Lib.hid (Hm.out.trans (decide_eq_false fun h => h1 h.1))
    go_enter Try.func49, Try.ntmps49
    go_wp2_with fail
    go_ret
    exact ⟨ret_bool Hr.out.symm, HB0.out⟩
end Go.Proofs.Ytiankphkemakeaa
