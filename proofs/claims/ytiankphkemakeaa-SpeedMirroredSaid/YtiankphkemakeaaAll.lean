/- The contracts of the document's All and of slices.Clone at rules. -/
import Derived.Test.YtiankphkemakeaaAppend
namespace Go.Proofs.Ytiankphkemakeaa
set_option linter.unusedSimpArgs false
set_option linter.unusedVariables false
open Go.RowKit

/-- The two rules of each turn up to k. -/
def turnRules : Nat → List R
  | 0 => []
  | k + 1 => turnRules k ++ [⟨0, (k : Int) + 1, 100000⟩, ⟨(k : Int) + 1, 0, 0⟩]
/-- The whole rules of a sheet. -/
def whole (T : Nat) (rs : List R) : List R := rs ++ turnRules T
theorem turnRules_length (k : Nat) : (turnRules k).length = 2 * k := by
  induction k with
  | zero => rfl
  | succ k ih => simp [turnRules, ih]; omega
theorem whole_length (T : Nat) (rs : List R) : (whole T rs).length = rs.length + 2 * T := by simp [whole, turnRules_length]
theorem whole_succ (k : Nat) (rs : List R) : whole (k + 1) rs = whole k rs ++ [⟨0, (k : Int) + 1, 100000⟩, ⟨(k : Int) + 1, 0, 0⟩] := by simp [whole, turnRules]

theorem rules_two {W : World} {B : Nat} {t : TypeId} {fr : Nat × Nat} {a b c d e f : Int} (h : W.heap[B]? = some (.cells #[.int .i64 a, .int .i64 b, .int .i64 c, .int .i64 d, .int .i64 e, .int .i64 f] t fr)) :
    Rules W (some ⟨B, 0, none⟩) 2 [⟨a, b, c⟩, ⟨d, e, f⟩] := by
  refine ⟨rfl, fun _ => ⟨B, 0, rfl, fun j hj => ?_⟩⟩
  match j, hj with
  | 0, _ => simp [World.cell?, h, rf, rt, rm, rAt]
  | 1, _ => simp [World.cell?, h, rf, rt, rm, rAt]

theorem own_empty {W : World} {B base : Nat} {t : TypeId} (hB : W.heap[B]? = some (.cells #[] t (0, 0))) (hb : base ≤ B) : W.ownsRow base t 3 (.slice (some ⟨B, 0, none⟩) 0 0) 0 (flat []) :=
  ⟨rfl, .inr ⟨B, 0, #[], rfl, hb, hB, Nat.le_refl _, by unfold maxLen; omega, rfl, rfl⟩⟩

theorem own_below {W W' : World} {base t s n B : Nat} {v : Value} {xs : List Value} (h : W.ownsRow base t s v n xs) (hb : Below B W W') (hB : W.heap.size ≤ B) : W'.ownsRow base t s v n xs := by
  refine ⟨h.1, ?_⟩
  rcases h.2 with h0 | ⟨g, cap, cur, hv, hg, hc, r⟩
  · exact .inl h0
  · refine .inr ⟨g, cap, cur, hv, hg, ?_, r⟩
    rw [hb.block g (by have := lt_of_block hc; omega)]
    exact hc

set_option maxRecDepth 100000 in
set_option maxHeartbeats 400000 in
theorem all54 (A : Option Addr) (n cap T : Nat) (rs : List R) (w : World) (h : Rules w A n rs) (hn : n ≤ 1000000) (hT : T ≤ 1000) :
    Calls Try.prog 54 #[.agg #[.int .i64 (T : Int), .slice A n cap]] w fun e w' => ∃ A' cap', e = .returned (.slice A' (n + 2 * T) cap') ∧ w'.ownsRow w.heap.size 68 3 (.slice A' (n + 2 * T) cap') (n + 2 * T) (flat (whole T rs)) ∧ Below w.heap.size w w' := by
  have hB0 : Below w.heap.size w ((w.alloc (.cells #[.int .i64 (T : Int), .slice A n cap] 24)).alloc (.cells #[] 68)) := ((Below.refl _ _).alloc (Nat.le_refl _) _).alloc (by simp) _
  have hown0 : ((w.alloc (.cells #[.int .i64 (T : Int), .slice A n cap] 24)).alloc (.cells #[] 68)).ownsRow (w.heap.size + 1) 68 3 (.slice (some ⟨w.heap.size + 1, 0, none⟩) 0 0) 0 (flat []) := own_empty (by have := heap_alloc_new (w.alloc (.cells #[.int .i64 (T : Int), .slice A n cap] 24)) (.cells #[] 68); simpa using this) (Nat.le_refl _)
  have hbox0 : ((w.alloc (.cells #[.int .i64 (T : Int), .slice A n cap] 24)).alloc (.cells #[] 68)).cell? ⟨w.heap.size, 0, none⟩ = some (.int .i64 (T : Int)) := by go_simp
  have hsz0 : ((w.alloc (.cells #[.int .i64 (T : Int), .slice A n cap] 24)).alloc (.cells #[] 68)).heap.size = w.heap.size + 2 := by simp
  have HB0 := Lib.hid hB0
  have Hown0 := Lib.hid hown0
  have Hbox0 := Lib.hid hbox0
  have Hsz0 := Lib.hid hsz0
  have H0 := Lib.hid (h.below hB0 (Nat.le_refl _))
  clear hB0 hown0 hbox0 hsz0 h
  go_enter Try.func54, Try.ntmps54
  go_wp2_with (at_builtin; refine wpList_append_rules rfl (.tmp 5) (.tmp 7) rfl (w.heap.size + 1) _ 0 [] rfl Hown0.out A n cap rs rfl H0.out (by omega) (by simp) ?_; intro A1 cap1 w1 hown1 hb1)
  have Hown1 := Lib.hid (show w1.ownsRow (w.heap.size + 1) 68 3 (.slice A1 n cap1) n (flat (whole 0 rs)) by simpa [whole, turnRules] using hown1)
  have hz1 : w.heap.size < w1.heap.size := by have := hb1.size; have := Hsz0.out; omega
  have Hbox1 := Lib.hid ((hb1.cell (p := ⟨w.heap.size, 0, none⟩) (by simp)).trans Hbox0.out)
  have HB1 : Hid (Below w.heap.size w w1) := HB0.out.trans (hb1.mono (by omega))
  clear hown1 hb1
  go_loopw [3, 4] (fun v i wr => ∃ (k : Nat) (A2 : Option Addr) (cap2 : Nat), k ≤ T ∧ i = .int .i64 ((k : Int) + 1) ∧ v = .slice A2 (n + 2 * k) cap2 ∧ wr.ownsRow (w.heap.size + 1) 68 3 (.slice A2 (n + 2 * k) cap2) (n + 2 * k) (flat (whole k rs)) ∧ Below (w.heap.size + 1) w1 wr) (fun _ i _ => T + 1 - (intOf i).toNat)
  case atStart => exact ⟨0, A1, cap1, Nat.zero_le _, rfl, rfl, Hown1.out, Below.refl _ _⟩
  case round =>
    obtain ⟨k, A2, cap2, hk, rfl, rfl, hown, hb⟩ := hrel
    have hbox := (hb.cell (p := ⟨w.heap.size, 0, none⟩) (by simp)).trans Hbox1.out
    have hz : w.heap.size < wr.heap.size := by have := hb.size; omega
    have Hown := Lib.hid hown
    have Hb := Lib.hid hb
    clear hown hb
    by_cases hlt : k < T
    · go_wp2_with (at_builtin; refine wpList_append_rules rfl (.tmp 15) (.tmp 20) rfl (w.heap.size + 1) _ (n + 2 * k) (whole k rs) rfl (Hown.out.alloc _) (some ⟨wr.heap.size, 0, none⟩) 2 2 [⟨0, (k : Int) + 1, 100000⟩, ⟨(k : Int) + 1, 0, 0⟩] rfl (rules_two (heap_alloc_new _ _)) (by omega) (by simp; omega) ?_; intro A3 cap3 w3 hown3 hb3)
      go_roundw
      case rel => exact ⟨k + 1, A3, cap3, by omega, by go_num, by rw [Nat.mul_succ, ← Nat.add_assoc], by rw [whole_succ, Nat.mul_succ, ← Nat.add_assoc]; exact hown3, (Hb.out.alloc (by omega) _).trans hb3⟩
      case measure => simp [intOf]; omega
    · obtain rfl : k = T := by omega
      go_wp2
      go_ret
      refine ⟨A2, cap2, rfl, ?_, HB1.out.trans (Hb.out.mono (by omega))⟩
      exact ⟨Hown.out.1, Hown.out.2.imp id (fun ⟨g, c, cur, h1, h2, r⟩ => ⟨g, c, cur, h1, by omega, r⟩)⟩
end Go.Proofs.Ytiankphkemakeaa
