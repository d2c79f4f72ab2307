/- The contract of within, at both types of numbers. -/
import Derived.Test.YtiankphkemakeaaBase
namespace Go.Proofs.Ytiankphkemakeaa
set_option linter.unusedSimpArgs false
set_option linter.unusedVariables false
open Go.RowKit

/-- All numbers lie from lo to hi. -/
def within (lo hi : Int) (zs : List Int) : Bool := zs.all fun z => decide (lo ≤ z) && decide (z ≤ hi)

theorem within_take (lo hi : Int) (zs : List Int) (k : Nat) (hk : k < zs.length) :
    within lo hi (zs.take (k + 1)) = (within lo hi (zs.take k) && (decide (lo ≤ nth zs k) && decide (nth zs k ≤ hi))) := by
  unfold within nth
  rw [List.take_succ_eq_append_getElem hk, List.all_append]
  simp [List.getD, hk]
theorem within_stop (lo hi : Int) (zs : List Int) (k : Nat) (hk : k < zs.length) (h : nth zs k < lo ∨ hi < nth zs k) : within lo hi zs = false := by
  unfold within nth at *
  rw [List.all_eq_false]
  refine ⟨zs[k], List.getElem_mem hk, ?_⟩
  simp [List.getD, hk] at h ⊢
  omega

theorem ret_bool {a b : Bool} (h : a = b) : Ending.returned (.bool a) = .returned (.bool b) := by rw [h]

set_option maxHeartbeats 400000 in
theorem within55 (A : Option Addr) (n cap : Nat) (zs : List Int) (lo hi : Int) (w : World) (h : Ints w A n zs) (hn : n ≤ 1000000) :
    Calls Try.prog 55 #[.int .i64 lo, .int .i64 hi, .slice A n cap] w fun e w' => e = .returned (.bool (within lo hi zs)) ∧ w = w' := by
  go_enter Try.func55, Try.ntmps55
  go_wp2
  go_loop [11] (fun i => ∃ k : Nat, k ≤ n ∧ i = .int .i64 k ∧ within lo hi (zs.take k) = true) (fun i => n - (intOf i).toNat)
  case atStart => exact ⟨0, Nat.zero_le _, rfl, rfl⟩
  case round =>
    obtain ⟨k, hk, rfl, hw⟩ := hrel
    obtain ⟨hl, hc⟩ := h
    by_cases hlt : k < n
    · obtain ⟨b, o, rfl, hc2⟩ := hc (by omega)
      have hck := hc2 k hlt
      have Hs := Lib.hid (within_take lo hi zs k (by omega))
      have Hf := Lib.hid (within_stop lo hi zs k (by omega))
      have Hw := Lib.hid hw
      have Hl := Lib.hid hl
      clear hc hc2 hw hl
      go_wp2
      · have h1 : nth zs k < lo ∨ hi < nth zs k := by assumption
        go_ret
        exact ⟨ret_bool (Hf.out h1).symm, rfl⟩
      · go_round
        case rel => exact ⟨k + 1, by omega, by go_num, by rw [Hs.out, Hw.out]; simp; omega⟩
        case measure => simp [intOf]; omega
      · have h1 : nth zs k < lo := by assumption
        go_ret
        exact ⟨ret_bool (Hf.out (.inl h1)).symm, rfl⟩
    · go_wp2
      go_ret
      exact ⟨ret_bool (by rw [← hw, List.take_of_length_le (by omega)]), rfl⟩
set_option maxHeartbeats 400000 in
theorem within56 (A : Option Addr) (n cap : Nat) (zs : List Int) (lo hi : Int) (w : World) (h : Ints w A n zs) (hn : n ≤ 1000000) :
    Calls Try.prog 56 #[.int .i64 lo, .int .i64 hi, .slice A n cap] w fun e w' => e = .returned (.bool (within lo hi zs)) ∧ w = w' := by
  go_enter Try.func56, Try.ntmps56
  go_wp2
  go_loop [11] (fun i => ∃ k : Nat, k ≤ n ∧ i = .int .i64 k ∧ within lo hi (zs.take k) = true) (fun i => n - (intOf i).toNat)
  case atStart => exact ⟨0, Nat.zero_le _, rfl, rfl⟩
  case round =>
    obtain ⟨k, hk, rfl, hw⟩ := hrel
    obtain ⟨hl, hc⟩ := h
    by_cases hlt : k < n
    · obtain ⟨b, o, rfl, hc2⟩ := hc (by omega)
      have hck := hc2 k hlt
      have Hs := Lib.hid (within_take lo hi zs k (by omega))
      have Hf := Lib.hid (within_stop lo hi zs k (by omega))
      have Hw := Lib.hid hw
      have Hl := Lib.hid hl
      clear hc hc2 hw hl
      go_wp2
      · have h1 : nth zs k < lo ∨ hi < nth zs k := by assumption
        go_ret
        exact ⟨ret_bool (Hf.out h1).symm, rfl⟩
      · go_round
        case rel => exact ⟨k + 1, by omega, by go_num, by rw [Hs.out, Hw.out]; simp; omega⟩
        case measure => simp [intOf]; omega
      · have h1 : nth zs k < lo := by assumption
        go_ret
        exact ⟨ret_bool (Hf.out (.inl h1)).symm, rfl⟩
    · go_wp2
      go_ret
      exact ⟨ret_bool (by rw [← hw, List.take_of_length_le (by omega)]), rfl⟩

theorem ints_one {W : World} {B : Nat} {a : Int} (h : W.cell? ⟨B, 0, none⟩ = some (.int .i64 a)) : Ints W (some ⟨B, 0, none⟩) 1 [a] :=
  ⟨rfl, fun _ => ⟨B, 0, rfl, fun j hj => by obtain rfl : j = 0 := by omega
                                            simpa [nth] using h⟩⟩
theorem ints_two {W : World} {B : Nat} {a b : Int} (h : W.cell? ⟨B, 0, none⟩ = some (.int .i64 a)) (h1 : W.cell? ⟨B, 1, none⟩ = some (.int .i64 b)) : Ints W (some ⟨B, 0, none⟩) 2 [a, b] :=
  ⟨rfl, fun _ => ⟨B, 0, rfl, fun j hj => by
    match j, hj with
    | 0, _ => simpa [nth] using h
    | 1, _ => simpa [nth] using h1⟩⟩
theorem ints_three {W : World} {B : Nat} {a b c : Int} (h : W.cell? ⟨B, 0, none⟩ = some (.int .i64 a)) (h1 : W.cell? ⟨B, 1, none⟩ = some (.int .i64 b)) (h2 : W.cell? ⟨B, 2, none⟩ = some (.int .i64 c)) : Ints W (some ⟨B, 0, none⟩) 3 [a, b, c] :=
  ⟨rfl, fun _ => ⟨B, 0, rfl, fun j hj => by
    match j, hj with
    | 0, _ => simpa [nth] using h
    | 1, _ => simpa [nth] using h1
    | 2, _ => simpa [nth] using h2⟩⟩

theorem within55_1 (B cap : Nat) (a lo hi : Int) (w : World) (h : w.cell? ⟨B, 0, none⟩ = some (.int .i64 a)) :
    Calls Try.prog 55 #[.int .i64 lo, .int .i64 hi, .slice (some ⟨B, 0, none⟩) 1 cap] w fun e w' => e = .returned (.bool (within lo hi [a])) ∧ w = w' :=
  within55 _ 1 cap [a] lo hi w (ints_one h) (by omega)
theorem within55_2 (B cap : Nat) (a b lo hi : Int) (w : World) (h : w.cell? ⟨B, 0, none⟩ = some (.int .i64 a)) (h1 : w.cell? ⟨B, 1, none⟩ = some (.int .i64 b)) :
    Calls Try.prog 55 #[.int .i64 lo, .int .i64 hi, .slice (some ⟨B, 0, none⟩) 2 cap] w fun e w' => e = .returned (.bool (within lo hi [a, b])) ∧ w = w' :=
  within55 _ 2 cap [a, b] lo hi w (ints_two h h1) (by omega)
theorem within56_1 (B cap : Nat) (a lo hi : Int) (w : World) (h : w.cell? ⟨B, 0, none⟩ = some (.int .i64 a)) :
    Calls Try.prog 56 #[.int .i64 lo, .int .i64 hi, .slice (some ⟨B, 0, none⟩) 1 cap] w fun e w' => e = .returned (.bool (within lo hi [a])) ∧ w = w' :=
  within56 _ 1 cap [a] lo hi w (ints_one h) (by omega)
theorem within56_3 (B cap : Nat) (a b c lo hi : Int) (w : World) (h : w.cell? ⟨B, 0, none⟩ = some (.int .i64 a)) (h1 : w.cell? ⟨B, 1, none⟩ = some (.int .i64 b)) (h2 : w.cell? ⟨B, 2, none⟩ = some (.int .i64 c)) :
    Calls Try.prog 56 #[.int .i64 lo, .int .i64 hi, .slice (some ⟨B, 0, none⟩) 3 cap] w fun e w' => e = .returned (.bool (within lo hi [a, b, c])) ∧ w = w' :=
  within56 _ 3 cap [a, b, c] lo hi w (ints_three h h1 h2) (by omega)

end Go.Proofs.Ytiankphkemakeaa
