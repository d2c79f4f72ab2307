/- The contracts of longs, ints and rules: two lists are equal. -/
import Derived.Test.YtiankphkemakeaaRChk
import Derived.Deep.QuietTactic
namespace Go.Proofs.Ytiankphkemakeaa
set_option linter.unusedSimpArgs false
set_option linter.unusedVariables false
open Go.RowKit

theorem nth_eq (zs : List Int) (k : Nat) (h : k < zs.length) : nth zs k = zs[k] := by simp [nth, List.getD, h]
theorem rAt_eq (rs : List R) (k : Nat) (h : k < rs.length) : rAt rs k = rs[k] := by simp [rAt, List.getD, h]
theorem eq_of_nth {xs ys : List Int} (hl : xs.length = ys.length) (h : ∀ j, j < xs.length → nth xs j = nth ys j) : xs = ys :=
  List.ext_getElem hl (fun i h1 h2 => by rw [← nth_eq xs i h1, ← nth_eq ys i h2]; exact h i h1)
theorem eq_of_rAt {xs ys : List R} (hl : xs.length = ys.length) (h : ∀ j, j < xs.length → rAt xs j = rAt ys j) : xs = ys :=
  List.ext_getElem hl (fun i h1 h2 => by rw [← rAt_eq xs i h1, ← rAt_eq ys i h2]; exact h i h1)
theorem below_drewN {B : Nat} {a w : World} (h : Below B a w) (n : Nat) : Below B a (w.drewN n) := ⟨h.os, h.tape, h.output, h.size, h.block⟩

theorem run_neqR (w : World) (a b c d e f : Int) : (binOp .neq 68 (.agg #[.int .i64 a, .int .i64 b, .int .i64 c]) (.agg #[.int .i64 d, .int .i64 e, .int .i64 f])).run Try.prog w = .ok (.bool (!(decide (R.mk a b c = R.mk d e f)))) w := by
  go_simp
  by_cases h1 : a = d <;> by_cases h2 : b = e <;> by_cases h3 : c = f <;> simp [*]
theorem run_eqlR (w : World) (a b c d e f : Int) : (binOp .eql 68 (.agg #[.int .i64 a, .int .i64 b, .int .i64 c]) (.agg #[.int .i64 d, .int .i64 e, .int .i64 f])).run Try.prog w = .ok (.bool (decide (R.mk a b c = R.mk d e f))) w := by
  go_simp
  by_cases h1 : a = d <;> by_cases h2 : b = e <;> by_cases h3 : c = f <;> simp [*]
theorem rAt_mk (xs : List R) (k : Nat) : R.mk (rf xs k) (rt xs k) (rm xs k) = rAt xs k := rfl

set_option maxRecDepth 100000 in
set_option maxHeartbeats 400000 in
theorem longs37 (A A' : Option Addr) (n cap n' cap' : Nat) (xs ys : List Int) (w : World) (h : Ints w A n xs) (h' : Ints w A' n' ys) (hn : n ≤ 1000000) (hn' : n' ≤ 1000000) :
    Calls Try.prog 37 #[.slice A n cap, .slice A' n' cap'] w fun e w' => e = .returned (.bool (decide (xs = ys))) ∧ Below w.heap.size w w' := by
  by_cases hne : n = n'
  · subst hne
    go_enter Try.func37, Try.ntmps37
    go_wp2
    go_loopw [5] (fun i wr => ∃ k : Nat, k ≤ n ∧ i = .int .i64 k ∧ (∀ j, j < k → nth xs j = nth ys j) ∧ Below w.heap.size w wr) (fun i _ => n - (intOf i).toNat)
    case atStart => exact ⟨0, Nat.zero_le _, rfl, fun j hj => absurd hj (by omega), Below.refl _ _⟩
    case round =>
      obtain ⟨k, hk, rfl, hall, hB⟩ := hrel
      have Hall := Lib.hid hall
      have HB := Lib.hid hB
      have Hx := Lib.hid h.1
      have Hy := Lib.hid h'.1
      by_cases hlt : k < n
      · obtain ⟨_, hcs⟩ := h.below hB (Nat.le_refl _)
        obtain ⟨_, hds⟩ := h'.below hB (Nat.le_refl _)
        obtain ⟨b, o, rfl, hc⟩ := hcs (by omega)
        obtain ⟨b', o', rfl, hd⟩ := hds (by omega)
        have c0 := hc k hlt
        have d0 := hd k hlt
        have hi0 : (0 : Int) ≤ (k : Int) := by omega
        have hi1 : (k : Int) < (n : Int) := by omega
        clear hcs hds hc hd hall hB h h'
        go_wp2_with fail
        go_quiet (fail)
        go_wp2
        · have hd1 : (nth xs k != nth ys k) = true := by assumption
          go_ret
          exact ⟨ret_bool (by rw [eq_comm, decide_eq_false_iff_not]; rintro rfl; simp at hd1), below_drewN HB.out _⟩
        · have hd1 : (nth xs k != nth ys k) = false := by assumption
          have hd2 : nth xs k = nth ys k := by simpa using hd1
          go_roundw
          case rel => exact ⟨k + 1, by omega, by go_num, fun j hj => by
            rcases Nat.lt_or_ge j k with hl | hl
            · exact Hall.out j hl
            · obtain rfl : j = k := by omega
              exact hd2, below_drewN HB.out _⟩
          case measure => simp [intOf]; omega
      · clear hall hB
        go_wp2
        go_ret
        exact ⟨ret_bool (by rw [eq_comm, decide_eq_true_eq]; exact eq_of_nth (by rw [Hx.out, Hy.out]) (fun j hj => Hall.out j (by have := Hx.out; omega))), HB.out⟩
  · have Hx := Lib.hid h.1
    have Hy := Lib.hid h'.1
    have hne2 : ((n : Int) != (n' : Int)) = true := by rw [bne_iff_ne]; omega
    go_enter Try.func37, Try.ntmps37
    go_wp2
    go_ret
    exact ⟨ret_bool (by rw [eq_comm, decide_eq_false_iff_not]; rintro rfl; exact hne (Hx.out.symm.trans Hy.out)), Below.refl _ _⟩
set_option maxRecDepth 100000 in
set_option maxHeartbeats 400000 in
theorem ints52 (A A' : Option Addr) (n cap n' cap' : Nat) (xs ys : List Int) (w : World) (h : Ints w A n xs) (h' : Ints w A' n' ys) (hn : n ≤ 1000000) (hn' : n' ≤ 1000000) :
    Calls Try.prog 52 #[.slice A n cap, .slice A' n' cap'] w fun e w' => e = .returned (.bool (decide (xs = ys))) ∧ Below w.heap.size w w' := by
  by_cases hne : n = n'
  · subst hne
    go_enter Try.func52, Try.ntmps52
    go_wp2
    go_loopw [5] (fun i wr => ∃ k : Nat, k ≤ n ∧ i = .int .i64 k ∧ (∀ j, j < k → nth xs j = nth ys j) ∧ Below w.heap.size w wr) (fun i _ => n - (intOf i).toNat)
    case atStart => exact ⟨0, Nat.zero_le _, rfl, fun j hj => absurd hj (by omega), Below.refl _ _⟩
    case round =>
      obtain ⟨k, hk, rfl, hall, hB⟩ := hrel
      have Hall := Lib.hid hall
      have HB := Lib.hid hB
      have Hx := Lib.hid h.1
      have Hy := Lib.hid h'.1
      by_cases hlt : k < n
      · obtain ⟨_, hcs⟩ := h.below hB (Nat.le_refl _)
        obtain ⟨_, hds⟩ := h'.below hB (Nat.le_refl _)
        obtain ⟨b, o, rfl, hc⟩ := hcs (by omega)
        obtain ⟨b', o', rfl, hd⟩ := hds (by omega)
        have c0 := hc k hlt
        have d0 := hd k hlt
        have hi0 : (0 : Int) ≤ (k : Int) := by omega
        have hi1 : (k : Int) < (n : Int) := by omega
        clear hcs hds hc hd hall hB h h'
        go_wp2_with fail
        go_quiet (fail)
        go_wp2
        · have hd1 : (nth xs k != nth ys k) = true := by assumption
          go_ret
          exact ⟨ret_bool (by rw [eq_comm, decide_eq_false_iff_not]; rintro rfl; simp at hd1), below_drewN HB.out _⟩
        · have hd1 : (nth xs k != nth ys k) = false := by assumption
          have hd2 : nth xs k = nth ys k := by simpa using hd1
          go_roundw
          case rel => exact ⟨k + 1, by omega, by go_num, fun j hj => by
            rcases Nat.lt_or_ge j k with hl | hl
            · exact Hall.out j hl
            · obtain rfl : j = k := by omega
              exact hd2, below_drewN HB.out _⟩
          case measure => simp [intOf]; omega
      · clear hall hB
        go_wp2
        go_ret
        exact ⟨ret_bool (by rw [eq_comm, decide_eq_true_eq]; exact eq_of_nth (by rw [Hx.out, Hy.out]) (fun j hj => Hall.out j (by have := Hx.out; omega))), HB.out⟩
  · have Hx := Lib.hid h.1
    have Hy := Lib.hid h'.1
    have hne2 : ((n : Int) != (n' : Int)) = true := by rw [bne_iff_ne]; omega
    go_enter Try.func52, Try.ntmps52
    go_wp2
    go_ret
    exact ⟨ret_bool (by rw [eq_comm, decide_eq_false_iff_not]; rintro rfl; exact hne (Hx.out.symm.trans Hy.out)), Below.refl _ _⟩
set_option maxRecDepth 100000 in
set_option maxHeartbeats 400000 in
theorem rules20 (A A' : Option Addr) (n cap n' cap' : Nat) (xs ys : List R) (w : World) (h : Rules w A n xs) (h' : Rules w A' n' ys) (hn : n ≤ 1000000) (hn' : n' ≤ 1000000) :
    Calls Try.prog 20 #[.slice A n cap, .slice A' n' cap'] w fun e w' => e = .returned (.bool (decide (xs = ys))) ∧ Below w.heap.size w w' := by
  by_cases hne : n = n'
  · subst hne
    go_enter Try.func20, Try.ntmps20
    go_wp2
    go_loopw [5] (fun i wr => ∃ k : Nat, k ≤ n ∧ i = .int .i64 k ∧ (∀ j, j < k → rAt xs j = rAt ys j) ∧ Below w.heap.size w wr) (fun i _ => n - (intOf i).toNat)
    case atStart => exact ⟨0, Nat.zero_le _, rfl, fun j hj => absurd hj (by omega), Below.refl _ _⟩
    case round =>
      obtain ⟨k, hk, rfl, hall, hB⟩ := hrel
      have Hall := Lib.hid hall
      have HB := Lib.hid hB
      have Hx := Lib.hid h.1
      have Hy := Lib.hid h'.1
      by_cases hlt : k < n
      · obtain ⟨_, hcs⟩ := h.below hB (Nat.le_refl _)
        obtain ⟨_, hds⟩ := h'.below hB (Nat.le_refl _)
        obtain ⟨b, o, rfl, hc⟩ := hcs (by omega)
        obtain ⟨b', o', rfl, hd⟩ := hds (by omega)
        obtain ⟨c0, c1, c2⟩ := hc k hlt
        obtain ⟨d0, d1, d2⟩ := hd k hlt
        have hq := fun W : World => run_neqR W (rf xs k) (rt xs k) (rm xs k) (rf ys k) (rt ys k) (rm ys k)
        simp only [rAt_mk] at hq
        have hi0 : (0 : Int) ≤ (k : Int) := by omega
        have hi1 : (k : Int) < (n : Int) := by omega
        clear hcs hds hc hd hall hB h h'
        go_wp2_with fail
        go_quiet (fail)
        go_wp2
        · have hd1 : (rAt xs k != rAt ys k) = true := by assumption
          go_ret
          exact ⟨ret_bool (by rw [eq_comm, decide_eq_false_iff_not]; rintro rfl; simp at hd1), below_drewN HB.out _⟩
        · have hd1 : (rAt xs k != rAt ys k) = false := by assumption
          have hd2 : rAt xs k = rAt ys k := by simpa using hd1
          go_roundw
          case rel => exact ⟨k + 1, by omega, by go_num, fun j hj => by
            rcases Nat.lt_or_ge j k with hl | hl
            · exact Hall.out j hl
            · obtain rfl : j = k := by omega
              exact hd2, below_drewN HB.out _⟩
          case measure => simp [intOf]; omega
      · clear hall hB
        go_wp2
        go_ret
        exact ⟨ret_bool (by rw [eq_comm, decide_eq_true_eq]; exact eq_of_rAt (by rw [Hx.out, Hy.out]) (fun j hj => Hall.out j (by have := Hx.out; omega))), HB.out⟩
  · have Hx := Lib.hid h.1
    have Hy := Lib.hid h'.1
    have hne2 : ((n : Int) != (n' : Int)) = true := by rw [bne_iff_ne]; omega
    go_enter Try.func20, Try.ntmps20
    go_wp2
    go_ret
    exact ⟨ret_bool (by rw [eq_comm, decide_eq_false_iff_not]; rintro rfl; exact hne (Hx.out.symm.trans Hy.out)), Below.refl _ _⟩
end Go.Proofs.Ytiankphkemakeaa
