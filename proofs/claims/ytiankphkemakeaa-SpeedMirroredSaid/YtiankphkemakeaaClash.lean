/- The contract of the document's Clashes. -/
import Derived.Test.YtiankphkemakeaaFar
namespace Go.Proofs.Ytiankphkemakeaa
set_option linter.unusedSimpArgs false
set_option linter.unusedVariables false
open Go.RowKit Go.Shelf

/-- No speeds of a valid sheet are true. -/
def clashM (T : Nat) (rs : List R) : Bool := (List.range (T + 1)).any fun i => decide (farM T rs i i < 0)
theorem clashM_false {T : Nat} {rs : List R} (h : ∀ i, i < T + 1 → ¬ farM T rs i i < 0) : clashM T rs = false := by
  unfold clashM
  rw [List.any_eq_false]
  intro i hi
  simpa using h i (by simpa using hi)
theorem clashM_true {T : Nat} {rs : List R} {i : Nat} (hi : i < T + 1) (h : farM T rs i i < 0) : clashM T rs = true := by
  unfold clashM
  rw [List.any_eq_true]
  exact ⟨i, by simpa using hi, by simpa using h⟩
theorem clashM_iff {T : Nat} {rs : List R} : clashM T rs = false ↔ ∀ i, i ≤ T → 0 ≤ farM T rs i i := by
  constructor
  · intro h i hi
    by_cases hc : farM T rs i i < 0
    · rw [clashM_true (by omega) hc] at h; cases h
    · omega
  · intro h
    exact clashM_false fun i hi => by have := h i (by omega); omega

set_option maxRecDepth 100000 in
set_option maxHeartbeats 1000000 in
theorem clashes28 (A : Option Addr) (n cap T : Nat) (rs : List R) (w : World) (h : Rules w A n rs) (he : chk T rs = 0) :
    Calls Try.prog 28 #[.agg #[.int .i64 (T : Int), .slice A n cap]] w fun e w' => e = .returned (.bool (clashM T rs)) ∧ Below w.heap.size w w' := by
  have X0 := Bx.new (T := (T : Int)) (cap := cap) h
  have hT2 : T ≤ 20 := by have := chk_ok he; omega
  have He := Lib.hid he
  clear h he
  go_enter Try.func28, Try.ntmps28
  go_wp2_with fail
  refine (far46 A n cap T rs _ X0.rules He.out).mono ?_
  rintro e w1 ⟨G, capG, rb, rc, rfl, hm, hb⟩
  have X1 := X0.next hb
  obtain ⟨N, hN⟩ : ∃ N, T + 1 = N := ⟨_, rfl⟩
  have HN := Lib.hid hN
  rw [hN] at hm ⊢
  have hN21 : N ≤ 21 := by omega
  have HM := Lib.hid hm
  obtain ⟨d, hd⟩ : ∃ d, farM T rs = d := ⟨_, rfl⟩
  have Hd := Lib.hid hd
  rw [hd] at HM
  clear hm hb X0 hd hN
  go_wp2_with fail
  go_loop [4] (fun v => ∃ k : Nat, k ≤ N ∧ v = .int .i64 (k : Int) ∧ ∀ i, i < k → ¬ d i i < 0) (fun v => N - (intOf v).toNat)
  case atStart => exact ⟨0, Nat.zero_le _, rfl, fun i hi => absurd hi (by omega)⟩
  case round =>
    obtain ⟨k, hk, rfl, hall⟩ := hrel
    have Hall := Lib.hid hall
    clear hall
    by_cases hkl : k < N
    · have hkl2 : (k : Int) < (N : Int) := by omega
      have hk0 : (0 : Int) ≤ (k : Int) := by omega
      have oA := HM.out.cellO hkl
      have eA := HM.out.cellI hkl hkl
      obtain ⟨x, hx⟩ : ∃ x, d k k = x := ⟨_, rfl⟩
      have Hx := Lib.hid hx
      rw [hx] at eA
      clear hx
      by_cases hc : x < 0
      · have hcd : decide (x < 0) = true := decide_eq_true hc
        go_wp2_with fail
        go_ret
        exact ⟨ret_bool (clashM_true (i := k) (by have := HN.out; omega) (by rw [Hd.out, Hx.out]; exact hc)).symm, X1.below⟩
      · have hcd : decide (x < 0) = false := decide_eq_false hc
        go_wp2_with fail
        go_round
        case rel => exact ⟨k + 1, by omega, by go_num, fun i hi => by
          by_cases e : i = k
          · subst e; rw [Hx.out]; exact hc
          · exact Hall.out i (by omega)⟩
        case measure => simp [intOf]; omega
    · obtain rfl : k = N := by omega
      go_wp2_with fail
      go_ret
      exact ⟨ret_bool (clashM_false (fun i hi => by rw [Hd.out]; exact Int.not_lt.2 (Hall.out i (by have := HN.out; omega)))).symm, X1.below⟩
end Go.Proofs.Ytiankphkemakeaa
