/- Stage 2: sets of pieces; whether a step is strange, and fits behind another one by the table. -/
import Derived.Test.YtfmcfalghbaanaaLay
import Derived.Deep.RegionHeld3
namespace Go.Proofs.Ytfmcfalghbaanaa
set_option linter.unusedSimpArgs false
set_option linter.unusedVariables false
open Go.RowKit Go.Shelf

set_option maxRecDepth 100000 in
theorem members69 (q : Int) (w : World) :
    Calls Try.prog 69 #[.int .u64 q] w fun e w' => e = .returned (.func (.func 76) #[] #[.pointer (some ⟨w.heap.size, 0, none⟩)]) ∧ w' = w.alloc (.cells #[.int .u64 q] 89) := by
  go_enter Try.func69, Try.ntmps69
  go_wp2_with fail
  go_ret
  exact ⟨rfl, rfl⟩

theorem bit_and_ : ∀ q : Fin 256, ∀ p : Fin 8, (bits BinOp.and IntKind.u64 (((q : Nat) : Int) / 2 ^ (p : Nat)) 1 == 1) = (q : Nat).testBit p := by decide +kernel
theorem bit_and {q p : Nat} (hq : q < 256) (hp : p < 8) : (bits BinOp.and IntKind.u64 ((q : Int) / 2 ^ p) 1 == 1) = q.testBit p := bit_and_ ⟨q, hq⟩ ⟨p, hp⟩
theorem bit_or_ : ∀ q : Fin 256, ∀ p : Fin 8, bits BinOp.or IntKind.u64 ((q : Nat) : Int) (2 ^ (p : Nat)) = (((q : Nat) ||| 2 ^ (p : Nat) : Nat) : Int) := by decide +kernel
theorem bit_or {q p : Nat} (hq : q < 256) (hp : p < 8) : bits BinOp.or IntKind.u64 (q : Int) (2 ^ p) = ((q ||| 2 ^ p : Nat) : Int) := bit_or_ ⟨q, hq⟩ ⟨p, hp⟩
set_option maxRecDepth 100000 in
theorem member76 (q p B : Nat) (w : World) (hB : w.cell? ⟨B, 0, none⟩ = some (.int .u64 (q : Int))) (hq : q < 256) (hp : p < 8) :
    Calls Try.prog 76 #[.int .i64 (p : Int), .pointer (some ⟨B, 0, none⟩)] w fun e w' => e = .returned (.bool (q.testBit p)) ∧ w' = w := by
  go_enter Try.func76, Try.ntmps76
  go_wp2_with fail
  go_ret
  exact ⟨ret_bool (bit_and hq hp), rfl⟩

theorem code_any {p x : Nat} {t : Bool} (hx : x = if t then 2 * p + 1 else 2 * p) (h : p ≤ 1000) (W : World) : Calls Try.prog 62 #[.agg #[.int .i64 (p : Int), .bool t]] W fun e w' => e = .returned (.int .i64 (x : Int)) ∧ w' = W.alloc (.cells #[.int .i64 (p : Int), .bool t] 28) := by
  rw [← code_of p t hx]
  exact code62 (p : Int) t W (by omega) (by omega)
/-- The cells of a state. -/
def staV (p : Nat) (t : Bool) (q : Nat) : Array Value := #[.int .i64 (p : Int), .bool t, .int .u64 (q : Int)]
attribute [local go_sem ↓] exec_load78
set_option maxRecDepth 100000 in
set_option maxHeartbeats 1000000 in
theorem fits44 (X : Array Value) (A : Option Addr) (n cap : Nat) (off lo hi : Int) (T : Nat → Nat → Bool) (M B p q x y : Nat) (t u : Bool) (w : World) (hB : w.heap[B]? = some (.cells X 78 (0, 0))) (hX : Brd X A n cap off lo hi T M)
    (hx : x = if t then 2 * p + 1 else 2 * p) (hy : y = if u then 2 * q + 1 else 2 * q) (hx16 : x < 16) (hy16 : y < 16) :
    Calls Try.prog 44 #[.pointer (some ⟨B, 4, none⟩), .agg #[.int .i64 (p : Int), .bool t], .agg #[.int .i64 (q : Int), .bool u]] w fun e w' => e = .returned (.bool (T x y)) ∧ Below w.heap.size w w' := by
  have hp8 : p < 8 := by cases t <;> simp at hx <;> omega
  have hq8 : q < 8 := by cases u <;> simp at hy <;> omega
  have c1 := code_of p t hx
  have c2 := code_of q u hy
  have ix0 : (0 : Int) ≤ (x : Int) := by omega
  have ix1 : (x : Int) < 16 := by omega
  have iy0 : (0 : Int) ≤ (y : Int) := by omega
  have iy1 : (y : Int) < 16 := by omega
  have C1 := Lib.hid (code_any hx (by omega))
  have C2 := Lib.hid (code_any hy (by omega))
  obtain ⟨W1, hW1⟩ : ∃ W1, (w.alloc (.cells #[.int .i64 (p : Int), .bool t] 28)).alloc (.cells #[.int .i64 (q : Int), .bool u] 28) = W1 := ⟨_, rfl⟩
  have r1 : W1.heap[w.heap.size]? = some (.cells #[.int .i64 (p : Int), .bool t] 28 (0, 0)) := by rw [← hW1]; exact hal_old (heap_alloc_new_ _ _)
  have r2 : W1.heap[w.heap.size + 1]? = some (.cells #[.int .i64 (q : Int), .bool u] 28 (0, 0)) := by rw [← hW1]; exact hal_new (by simp)
  have hb1 : Below w.heap.size w W1 := by rw [← hW1]; exact (below_alloc_ _ _).trans ((below_alloc_ _ _).mono (by simp))
  have HS := Lib.hid (show ∀ W', Below W1.heap.size W1 W' → Below W1.heap.size W1 W' ∧ W'.cell? ⟨w.heap.size, 0, none⟩ = some (.int .i64 (p : Int)) ∧ W'.cell? ⟨w.heap.size, 1, none⟩ = some (.bool t) ∧ W'.cell? ⟨w.heap.size + 1, 0, none⟩ = some (.int .i64 (q : Int)) ∧ W'.cell? ⟨w.heap.size + 1, 1, none⟩ = some (.bool u) ∧ W'.cell? ⟨B, 4 + x * 16 + y, none⟩ = some (.bool (T x y)) from fun W' hb => by
    have e1 := two_cells ((hb.block _ (lt_of_block r1)).trans r1)
    have e2 := two_cells ((hb.block _ (lt_of_block r2)).trans r2)
    exact ⟨hb, e1.1, e1.2, e2.1, e2.2, by
      rw [cell_row ((hb.block _ (Nat.lt_of_lt_of_le (lt_of_block hB) hb1.size)).trans ((hb1.block _ (lt_of_block hB)).trans hB))]
      exact hX.tab x y hx16 hy16⟩)
  have HW := Lib.hid hW1
  have HB1 := Lib.hid hb1
  clear hx hy c1 c2 hB hX hW1 r1 r2 hb1
  go_enter Try.func44, Try.ntmps44
  go_upto_region 1 with fail
  rw [HW.out]
  go_region_held3 (fun W' => Below W1.heap.size W1 W' ∧ W'.cell? ⟨w.heap.size, 0, none⟩ = some (.int .i64 (p : Int)) ∧ W'.cell? ⟨w.heap.size, 1, none⟩ = some (.bool t) ∧ W'.cell? ⟨w.heap.size + 1, 0, none⟩ = some (.int .i64 (q : Int)) ∧ W'.cell? ⟨w.heap.size + 1, 1, none⟩ = some (.bool u) ∧ W'.cell? ⟨B, 4 + x * 16 + y, none⟩ = some (.bool (T x y)))
    (first | (exact HS.out _ (drew_b _ 1)) | (go_split_ands; exact HS.out _ (Below.trans (by assumption) ((below_alloc_ _ _).mono (Below.size (by assumption))))))
    (first
      | (go_at_call 62; (with_reducible refine (C1.out _).mono ?_); rintro e w7 ⟨rfl, rfl⟩)
      | (go_at_call 62; (with_reducible refine (C2.out _).mono ?_); rintro e w7 ⟨rfl, rfl⟩))
  go_wp2_with fail
  go_ret
  exact ⟨rfl, HB1.out.trans (Below.mono (And.left (by assumption)) HB1.out.size)⟩

set_option maxRecDepth 100000 in
theorem behind70 (X Y : Array Value) (w : World) :
    Calls Try.prog 70 #[.agg X, .agg Y] w fun e w' => e = .returned (.func (.func 77) #[] #[.pointer (some ⟨w.heap.size + 1, 0, none⟩), .pointer (some ⟨w.heap.size, 0, none⟩)]) ∧ w' = (w.alloc (.cells X 78)).alloc (.cells Y 91) := by
  go_enter Try.func70, Try.ntmps70
  go_wp2_with fail
  go_ret
  exact ⟨rfl, rfl⟩
end Go.Proofs.Ytfmcfalghbaanaa
