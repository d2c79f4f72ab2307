/- Stage 2: the states that come from a state by one step. -/
import Derived.Test.YtfmcfalghbaanaaLay
import Derived.Deep.RegionHeld3
import Derived.ChangeKeysEq
import Derived.Laws.EntriesVeiled
namespace Go.Proofs.Ytfmcfalghbaanaa
set_option linter.unusedSimpArgs false
set_option linter.unusedVariables false
open Go.RowKit Go.Shelf

set_option maxRecDepth 100000 in
theorem members69 (q : Int) (w : World) :
    Calls Try.prog 69 #[.int .u64 q] w fun e w' => e = .returned (.func (.func 76) #[] #[.pointer (some ⟨w.heap.size, 0, none⟩)]) ∧ w' = w.alloc (.cells #[.int .u64 q] 89) := by
  go_enter Try.func69, Try.ntmps69
  go_wp2_with fail
  go_ret
  exact ⟨rfl, rfl⟩

theorem bit_and_ : ∀ q : Fin 256, ∀ p : Fin 8, (bits BinOp.and IntKind.u64 (((q : Nat) : Int) / 2 ^ (p : Nat)) 1 == 1) = (q : Nat).testBit p := by decide +kernel
theorem bit_and {q p : Nat} (hq : q < 256) (hp : p < 8) : (bits BinOp.and IntKind.u64 ((q : Int) / 2 ^ p) 1 == 1) = q.testBit p := bit_and_ ⟨q, hq⟩ ⟨p, hp⟩
theorem bit_or_ : ∀ q : Fin 256, ∀ p : Fin 8, bits BinOp.or IntKind.u64 ((q : Nat) : Int) (2 ^ (p : Nat)) = (((q : Nat) ||| 2 ^ (p : Nat) : Nat) : Int) := by decide +kernel
theorem bit_or {q p : Nat} (hq : q < 256) (hp : p < 8) : bits BinOp.or IntKind.u64 (q : Int) (2 ^ p) = ((q ||| 2 ^ p : Nat) : Int) := bit_or_ ⟨q, hq⟩ ⟨p, hp⟩
set_option maxRecDepth 100000 in
theorem member76 (q p B : Nat) (w : World) (hB : w.cell? ⟨B, 0, none⟩ = some (.int .u64 (q : Int))) (hq : q < 256) (hp : p < 8) :
    Calls Try.prog 76 #[.int .i64 (p : Int), .pointer (some ⟨B, 0, none⟩)] w fun e w' => e = .returned (.bool (q.testBit p)) ∧ w' = w := by
  go_enter Try.func76, Try.ntmps76
  go_wp2_with fail
  go_ret
  exact ⟨ret_bool (bit_and hq hp), rfl⟩

theorem code_any {p x : Nat} {t : Bool} (hx : x = if t then 2 * p + 1 else 2 * p) (h : p ≤ 1000) (W : World) : Calls Try.prog 62 #[.agg #[.int .i64 (p : Int), .bool t]] W fun e w' => e = .returned (.int .i64 (x : Int)) ∧ w' = W.alloc (.cells #[.int .i64 (p : Int), .bool t] 28) := by
  rw [← code_of p t hx]
  exact code62 (p : Int) t W (by omega) (by omega)
/-- The cells of a state. -/
def staV (p : Nat) (t : Bool) (q : Nat) : Array Value := #[.int .i64 (p : Int), .bool t, .int .u64 (q : Int)]
attribute [local go_sem ↓] exec_load78
set_option maxRecDepth 100000 in
set_option maxHeartbeats 1000000 in
theorem fits44 (X : Array Value) (A : Option Addr) (n cap : Nat) (off lo hi : Int) (T : Nat → Nat → Bool) (M B p q x y : Nat) (t u : Bool) (w : World) (hB : w.heap[B]? = some (.cells X 78 (0, 0))) (hX : Brd X A n cap off lo hi T M)
    (hx : x = if t then 2 * p + 1 else 2 * p) (hy : y = if u then 2 * q + 1 else 2 * q) (hx16 : x < 16) (hy16 : y < 16) :
    Calls Try.prog 44 #[.pointer (some ⟨B, 4, none⟩), .agg #[.int .i64 (p : Int), .bool t], .agg #[.int .i64 (q : Int), .bool u]] w fun e w' => e = .returned (.bool (T x y)) ∧ Below w.heap.size w w' := by
  have hp8 : p < 8 := by cases t <;> simp at hx <;> omega
  have hq8 : q < 8 := by cases u <;> simp at hy <;> omega
  have c1 := code_of p t hx
  have c2 := code_of q u hy
  have ix0 : (0 : Int) ≤ (x : Int) := by omega
  have ix1 : (x : Int) < 16 := by omega
  have iy0 : (0 : Int) ≤ (y : Int) := by omega
  have iy1 : (y : Int) < 16 := by omega
  have C1 := Lib.hid (code_any hx (by omega))
  have C2 := Lib.hid (code_any hy (by omega))
  obtain ⟨W1, hW1⟩ : ∃ W1, (w.alloc (.cells #[.int .i64 (p : Int), .bool t] 28)).alloc (.cells #[.int .i64 (q : Int), .bool u] 28) = W1 := ⟨_, rfl⟩
  have r1 : W1.heap[w.heap.size]? = some (.cells #[.int .i64 (p : Int), .bool t] 28 (0, 0)) := by rw [← hW1]; exact hal_old (heap_alloc_new_ _ _)
  have r2 : W1.heap[w.heap.size + 1]? = some (.cells #[.int .i64 (q : Int), .bool u] 28 (0, 0)) := by rw [← hW1]; exact hal_new (by simp)
  have hb1 : Below w.heap.size w W1 := by rw [← hW1]; exact (below_alloc_ _ _).trans ((below_alloc_ _ _).mono (by simp))
  have HS := Lib.hid (show ∀ W', Below W1.heap.size W1 W' → Below W1.heap.size W1 W' ∧ W'.cell? ⟨w.heap.size, 0, none⟩ = some (.int .i64 (p : Int)) ∧ W'.cell? ⟨w.heap.size, 1, none⟩ = some (.bool t) ∧ W'.cell? ⟨w.heap.size + 1, 0, none⟩ = some (.int .i64 (q : Int)) ∧ W'.cell? ⟨w.heap.size + 1, 1, none⟩ = some (.bool u) ∧ W'.cell? ⟨B, 4 + x * 16 + y, none⟩ = some (.bool (T x y)) from fun W' hb => by
    have e1 := two_cells ((hb.block _ (lt_of_block r1)).trans r1)
    have e2 := two_cells ((hb.block _ (lt_of_block r2)).trans r2)
    exact ⟨hb, e1.1, e1.2, e2.1, e2.2, by
      rw [cell_row ((hb.block _ (Nat.lt_of_lt_of_le (lt_of_block hB) hb1.size)).trans ((hb1.block _ (lt_of_block hB)).trans hB))]
      exact hX.tab x y hx16 hy16⟩)
  have HW := Lib.hid hW1
  have HB1 := Lib.hid hb1
  clear hx hy c1 c2 hB hX hW1 r1 r2 hb1
  go_enter Try.func44, Try.ntmps44
  go_upto_region 1 with fail
  rw [HW.out]
  go_region_held3 (fun W' => Below W1.heap.size W1 W' ∧ W'.cell? ⟨w.heap.size, 0, none⟩ = some (.int .i64 (p : Int)) ∧ W'.cell? ⟨w.heap.size, 1, none⟩ = some (.bool t) ∧ W'.cell? ⟨w.heap.size + 1, 0, none⟩ = some (.int .i64 (q : Int)) ∧ W'.cell? ⟨w.heap.size + 1, 1, none⟩ = some (.bool u) ∧ W'.cell? ⟨B, 4 + x * 16 + y, none⟩ = some (.bool (T x y)))
    (first | (exact HS.out _ (drew_b _ 1)) | (go_split_ands; exact HS.out _ (Below.trans (by assumption) ((below_alloc_ _ _).mono (Below.size (by assumption))))))
    (first
      | (go_at_call 62; (with_reducible refine (C1.out _).mono ?_); rintro e w7 ⟨rfl, rfl⟩)
      | (go_at_call 62; (with_reducible refine (C2.out _).mono ?_); rintro e w7 ⟨rfl, rfl⟩))
  go_wp2_with fail
  go_ret
  exact ⟨rfl, HB1.out.trans (Below.mono (And.left (by assumption)) HB1.out.size)⟩

set_option maxRecDepth 100000 in
theorem behind70 (X Y : Array Value) (w : World) :
    Calls Try.prog 70 #[.agg X, .agg Y] w fun e w' => e = .returned (.func (.func 77) #[] #[.pointer (some ⟨w.heap.size + 1, 0, none⟩), .pointer (some ⟨w.heap.size, 0, none⟩)]) ∧ w' = (w.alloc (.cells X 78)).alloc (.cells Y 91) := by
  go_enter Try.func70, Try.ntmps70
  go_wp2_with fail
  go_ret
  exact ⟨rfl, rfl⟩
end Go.Proofs.Ytfmcfalghbaanaa

namespace Go.Proofs.Ytfmcfalghbaanaa
set_option linter.unusedSimpArgs false
set_option linter.unusedVariables false
open Go.RowKit Go.Shelf
attribute [local go_sem] Oper.semAt_some
attribute [local go_sem ↓] exec_load78
attribute [local go_sem ↓] at_load78

theorem exec_load73 (ρ : Operand → Value) (d : Option Tmp) (x : Operand) (ty : TypeId) (pos : String) (af : Array Edge) (g : Option (Nat × Bool)) (W : World) :
    (execOp ρ { dst := d, op := Op.load 73 x, type := ty, pos := pos, after := af, guard := g }).run Try.prog W = runO Try.prog (ld 73) (ρ x) W := rfl
theorem at_load73 (r : Option Nat) (ρ : Operand → Value) (d : Option Tmp) (x : Operand) (ty : TypeId) (pos : String) (af : Array Edge) (g : Option (Nat × Bool)) (W : World) :
    (Oper.semAt r ρ { dst := d, op := Op.load 73 x, type := ty, pos := pos, after := af, guard := g }).run Try.prog W = runO Try.prog (ld 73) (ρ x) W := by
  rw [at_plain _ _ _ (fun c => by simp)]; exact exec_load73 ρ d x ty pos af g W
attribute [local go_sem ↓] at_load73
/-- A row of the table. -/
def rowV (T : Nat → Nat → Bool) (x : Nat) : List Value := (List.range 16).map fun j => Value.bool (T x j)
theorem run_ld73 {W : World} {B x : Nat} {X : Array Value} {A : Option Addr} {n cap : Nat} {off lo hi : Int} {T : Nat → Nat → Bool} {M : Nat} (h : W.heap[B]? = some (.cells X 78 (0, 0))) (hX : Brd X A n cap off lo hi T M) (hx : x < 16) :
    runO Try.prog (ld 73) (.pointer (some ⟨B, 4 + x * 16, none⟩)) W = .ok (.value (.agg (rowV T x).toArray)) W := by
  have h1 := run_loadAt_mid (P := Try.prog) W B (4 + x * 16) 73 (rowV T x) _ (fun j v hv => by
    have hj : j < 16 := by have := (List.getElem?_eq_some_iff.1 hv).1; simpa [rowV] using this
    rw [cell_row h, hX.tab x j hx hj, ← hv]
    simp [rowV, hj]) Try.underlying73 rfl (by simp only [rowV, List.length_map, List.length_range]; kernel_rfl)
  unfold runO ld
  simp only [execOp, Sem.run_bind, Sem.run_pure, Act.eval, h1, Result.andThen_ok]

/-- Is a row empty? -/
def rowZ (T : Nat → Nat → Bool) (x : Nat) : Bool := (List.range 16).all fun j => T x j == false
theorem info4_ : (Try.prog.info? 4).map (fun i => (i.zero, i.size, i.bytes)) = some (some (.bool false), 1, 1) := by kernel_rfl
theorem run_part4 (w : World) (p : List Bool) (i : Nat) (h : i < p.length) : (part 4 (p.map Value.bool).toArray i).run Try.prog w = .ok (.bool (p.getD i false)) w := by
  have h2 : (p.map Value.bool).toArray[i]? = some (.bool (p.getD i false)) := by simp [h, List.getD]
  have hi : i < (p.map Value.bool).toArray.size := by simpa using h
  simp [part, go_sem, Try.underlying4, h2]
theorem run_items4 (d : Nat) (p q : List Bool) (hp : p.length = q.length) : ∀ (is : List Nat) (w : World), (∀ i ∈ is, i < p.length) → (Op.eqItems (d + 1) 4 1 (p.map Value.bool).toArray (q.map Value.bool).toArray is).run Try.prog w = .ok (is.all fun i => p.getD i false == q.getD i false) w
  | [], w, _ => by simp [Op.eqItems]
  | i :: is, w, h => by
    have h1 := run_part4 w p i (h i (by simp))
    have h2 := run_part4 w q i (by rw [← hp]; exact h i (by simp))
    have h3 := run_equalIn_bool (P := Try.prog) w d 4 (p.getD i false) (q.getD i false) Try.underlying4
    have ih := run_items4 d p q hp is w (fun j hj => h j (by simp [hj]))
    simp only [Op.eqItems, Sem.run_bind, Nat.mul_one, h1, h2, h3, Result.andThen_ok, List.all_cons]
    cases hq : (p.getD i false == q.getD i false)
    · simp
    · simpa using ih
theorem run_row (T : Nat → Nat → Bool) (x : Nat) (w : World) : (Op.equalIn 10000 73 (.agg (rowV T x).toArray) (.agg #[.bool false, .bool false, .bool false, .bool false, .bool false, .bool false, .bool false, .bool false, .bool false, .bool false, .bool false, .bool false, .bool false, .bool false, .bool false, .bool false])).run Try.prog w = .ok (rowZ T x) w := by
  obtain ⟨i, hi, _⟩ := info_parts info4_
  have hc : Try.prog.cellsOf 4 = 1 := by kernel_rfl
  have h := run_items4 9998 ((List.range 16).map (T x)) (List.replicate 16 false) (by simp) (List.range 16) w (fun i hi => by simpa using hi)
  rw [run_equalIn_array (P := Try.prog) w 9999 _ _ Try.underlying73 hi, hc]
  rw [show (rowV T x) = ((List.range 16).map (T x)).map Value.bool by simp [rowV]]
  rw [show (#[.bool false, .bool false, .bool false, .bool false, .bool false, .bool false, .bool false, .bool false, .bool false, .bool false, .bool false, .bool false, .bool false, .bool false, .bool false, .bool false] : Array Value) = ((List.replicate 16 false).map Value.bool).toArray from rfl]
  rw [h]
  congr 1

/-- A state's value. -/
def staE (b : Sta) : Array Value := #[.agg #[.int .i64 ((b.last / 2 : Nat) : Int), .bool (decide (b.last % 2 = 1)), .int .u64 ((b.pcs : Nat) : Int)]]

theorem wrap_pow_ : ∀ p : Fin 8, IntKind.u64.wrap (2 ^ (p : Nat)) = 2 ^ (p : Nat) := by decide +kernel
theorem wrap_pow {p : Nat} (h : p < 8) : IntKind.u64.wrap (2 ^ p) = 2 ^ p := wrap_pow_ ⟨p, h⟩
/-- What the loop of behind keeps. -/
def BI (J : List Sta → World → Prop) (T : Nat → Nat → Bool) (x q : Nat) (Mut : Nat → Prop) (W5 : World) (pre : List Nat) (W : World) : Prop := J ((pre.filter (can T ⟨x, q⟩)).map (goS ⟨x, q⟩)) W ∧ Keeps Mut W5 W
def BX (Jx : List Sta → World → Prop) (T : Nat → Nat → Bool) (x q : Nat) (c : Code) (pre : List Nat) (W : World) : Prop := (c = .ret ∧ ∃ pre0 s0, pre = pre0 ++ [s0] ∧ can T ⟨x, q⟩ s0 = true) ∧ Jx ((pre.filter (can T ⟨x, q⟩)).map (goS ⟨x, q⟩)) W
theorem nexts_rowZ {T : Nat → Nat → Bool} {x q n : Nat} {cs : List Nat} (hc : Codes n cs) (hn : n ≤ 8) (hq : q ≠ 0) (h : rowZ T x = true) : nexts T cs ⟨x, q⟩ = [] := by
  unfold nexts
  rw [List.map_eq_nil_iff, List.filter_eq_nil_iff]
  intro s hs h2
  have h3 := List.all_eq_true.1 h s (List.mem_range.2 (by have := hc s hs; omega))
  simp only [beq_iff_eq] at h3
  simp [can, hq, h3] at h2
theorem Abides.up {B B' : Nat} {J : World → Prop} (h : Abides B J) (hB : B ≤ B') : Abides B' J := fun W W' hj hK => h W W' hj (hK.mono (fun k _ e => by omega))

set_option maxRecDepth 100000 in
set_option maxHeartbeats 2000000 in
theorem behind_seq (X : Array Value) (A : Option Addr) (n cap : Nat) (off lo hi : Int) (T : Nat → Nat → Bool) (M Bb Bs p q x : Nat) (t : Bool) (ps : List Pc) (w : World) (hB : w.heap[Bb]? = some (.cells X 78 (0, 0))) (hX : Brd X A n cap off lo hi T M) (hs : w.heap[Bs]? = some (.cells (staV p t q) 91 (0, 0))) (hp : Pcs w A n ps) (hn0 : 1 ≤ n) (hn : n ≤ 8) (hq : q < 256) (hx : x = if t then 2 * p + 1 else 2 * p) (hx16 : x < 16) :
    SeqL Try.prog 77 #[.pointer (some ⟨Bs, 0, none⟩), .pointer (some ⟨Bb, 0, none⟩)] staE (nexts T (codesL ps) ⟨x, q⟩) (fun k => k = Bb ∨ k = Bs ∨ ∃ o, A = some ⟨k, o, none⟩) w := by
  intro l Mut J Jx W hW hMut hJ hJx hY h0
  have hBW := (hW.block Bb (lt_of_block hB) (fun e => e)).trans hB
  have hsW := (hW.block Bs (lt_of_block hs) (fun e => e)).trans hs
  have s0 : W.cell? ⟨Bs, 0, none⟩ = some (.int .i64 (p : Int)) := by rw [cell_row hsW]; rfl
  have s1 : W.cell? ⟨Bs, 1, none⟩ = some (.bool t) := by rw [cell_row hsW]; rfl
  have s2 : W.cell? ⟨Bs, 2, none⟩ = some (.int .u64 (q : Int)) := by rw [cell_row hsW]; rfl
  have ls := lt_of_block hsW
  have lb := lt_of_block hBW
  refine (callsIn_wide (n := 5)).1 ?_
  refine callsIn_of_wp_marks Try.func77 rfl trivial ?_ rfl
  simp only [Try.ntmps77, List.size_toArray, List.length_cons, List.length_nil, Nat.reduceAdd, Nat.reduceSub, Array.replicate_succ, Array.replicate_zero, List.push_toArray, List.append_toArray, List.nil_append, List.cons_append]
  have Hx := Lib.hid hx
  have hp8 : p < 8 := by cases t <;> simp at hx <;> omega
  have hn1 : 0 < n := by omega
  have HwW := Lib.hid hW
  have HM := Lib.hid hMut
  have HJa := Lib.hid hJ
  have HJx := Lib.hid hJx
  have HY := Lib.hid hY
  have Hj0 := Lib.hid h0
  have Hp := Lib.hid hp
  have HBW := Lib.hid hBW
  have HSW := Lib.hid hsW
  clear hx hW hMut hJ hJx hY h0 hp hBW hsW hs hB
  by_cases hq0 : q = 0
  · have d0 : ((q : Int) != 0) = false := by rw [bne_eq_false_iff_eq]; omega
    have Hq0 := Lib.hid hq0
    clear hq0
    gi_wp2_with fail
    refine ⟨trivial, ?_⟩
    gi_wp2_with fail
    have HK3 := Lib.hid (show Keeps (fun _ => False) W ((W.alloc (.cells #[.func (.yield l) #[] #[]] 96)).alloc (.cells #[.bool false] 4)) from (keep_alloc _ _ _).trans (keep_alloc _ _ _))
    have He3 := Lib.hid (show ((W.alloc (.cells #[.func (.yield l) #[] #[]] 96)).alloc (.cells #[.bool false] 4)).heap[W.heap.size]? = some (.cells #[.func (.yield l) #[] #[]] 96 (0, 0)) from hal_old (heap_alloc_new_ _ _))
    have He4 := Lib.hid (show ((W.alloc (.cells #[.func (.yield l) #[] #[]] 96)).alloc (.cells #[.bool false] 4)).heap[W.heap.size + 1]? = some (.cells #[.bool false] 4 (0, 0)) from hal_new (by simp))
    obtain ⟨bg, hbg⟩ : ∃ bg, bg = decide (q ≠ 0) := ⟨_, rfl⟩
    obtain ⟨W3, hW3⟩ : ∃ W3, (W.alloc (.cells #[.func (.yield l) #[] #[]] 96)).alloc (.cells #[.bool false] 4) = W3 := ⟨_, rfl⟩
    rw [hW3] at HK3 He3 He4 ⊢
    rw [show false = bg by rw [hbg]; simp [Hq0.out]] at He4
    have Hbg := Lib.hid hbg
    clear hbg d0
    have HB3 := Lib.hid ((HK3.out.block _ lb (fun e => e)).trans HBW.out)
    have HS3 := Lib.hid ((HK3.out.block _ ls (fun e => e)).trans HSW.out)
    clear hW3 s0 s1 s2
    refine ⟨trivial, (callsIn_wide.2 (members69 _ _)).mono ?_⟩
    rintro e w4 ⟨rfl, rfl⟩
    have hk5 : Keeps (fun _ => False) W3 (((W3.alloc (.cells #[.int .u64 (q : Int)] 89)).alloc (.cells #[.func (.func 76) #[] #[.pointer (some ⟨W3.heap.size, 0, none⟩)]] 119)).alloc (.cells X 78)) := ((keep_alloc _ _ _).trans (keep_alloc _ _ _)).trans (keep_alloc _ _ _)
    have hB4 : ((W3.alloc (.cells #[.int .u64 (q : Int)] 89)).alloc (.cells #[.func (.func 76) #[] #[.pointer (some ⟨W3.heap.size, 0, none⟩)]] 119)).heap[Bb]? = some (.cells X 78 (0, 0)) := hal_old (hal_old HB3.out)
    have h78 := run_ld78 hB4 hX.size
    clear hB4
    gi_wp2_with fail
    clear h78
    refine ⟨trivial, (callsIn_wide.2 (steps57 _ _)).mono ?_⟩
    rintro e w5 ⟨rfl, rfl⟩
    gi_wp2_with fail
    have e5 := heap_alloc_new_ ((W3.alloc (.cells #[.int .u64 (q : Int)] 89)).alloc (.cells #[.func (.func 76) #[] #[.pointer (some ⟨W3.heap.size, 0, none⟩)]] 119)) (.cells X 78)
    simp only [World.size_alloc] at e5
    have e6 : (((W3.alloc (.cells #[.int .u64 (q : Int)] 89)).alloc (.cells #[.func (.func 76) #[] #[.pointer (some ⟨W3.heap.size, 0, none⟩)]] 119)).alloc (.cells X 78)).heap[W3.heap.size]? = some (.cells #[.int .u64 (q : Int)] 89 (0, 0)) := hal_old (hal_old (heap_alloc_new_ _ _))
    have e7 : (((W3.alloc (.cells #[.int .u64 (q : Int)] 89)).alloc (.cells #[.func (.func 76) #[] #[.pointer (some ⟨W3.heap.size, 0, none⟩)]] 119)).alloc (.cells X 78)).heap[W3.heap.size + 1]? = some (.cells #[.func (.func 76) #[] #[.pointer (some ⟨W3.heap.size, 0, none⟩)]] 119 (0, 0)) := hal_old (hal_new (by simp))
    obtain ⟨W5, hW5⟩ : ∃ W5, ((W3.alloc (.cells #[.int .u64 (q : Int)] 89)).alloc (.cells #[.func (.func 76) #[] #[.pointer (some ⟨W3.heap.size, 0, none⟩)]] 119)).alloc (.cells X 78) = W5 := ⟨_, rfl⟩
    rw [hW5] at hk5 e5 e6 e7 ⊢
    have e3 := (hk5.block _ (lt_of_block He3.out) (fun e => e)).trans He3.out
    have e4 := (hk5.block _ (lt_of_block He4.out) (fun e => e)).trans He4.out
    have eB := (hk5.block _ (lt_of_block HB3.out) (fun e => e)).trans HB3.out
    have eS := (hk5.block _ (lt_of_block HS3.out) (fun e => e)).trans HS3.out
    have hkW : Keeps (fun _ => False) W W5 := HK3.out.trans hk5
    have hs3 := HK3.out.size
    have hs5 := hk5.size
    have hpc5 := Hp.out.below (HwW.out.trans hkW).new (Nat.le_refl _)
    have hMl : ∀ k, Mut k → k < W.heap.size := fun k h => (HM.out k h).1
    have hMB : ¬ Mut Bb := fun h => (HM.out _ h).2 (.inl rfl)
    have hMS : ¬ Mut Bs := fun h => (HM.out _ h).2 (.inr (.inl rfl))
    have hneed : ∀ k, (∃ o, A = some ⟨k, o, none⟩) → k < W5.heap.size := by
      rintro k ⟨o, e⟩
      obtain ⟨b, o2, e2, hc⟩ := hpc5.2 hn1
      have := lt_of_cell (hc 0 hn1).1
      rw [e2] at e
      injection e with e
      injection e with e _
      omega
    have hlen := eq_le Hp.out.1
    clear hW5 hk5
    refine wpIn_rangeL (gf := 72) (lb := #[.pointer (some ⟨W3.heap.size + 1 + 1, 0, none⟩)]) rfl (enters_of Try.func72 (by kernel_rfl) rfl) (steps_seq X A n cap off lo hi T M (W3.heap.size + 1 + 1) ps W5 e5 hX hpc5 hn)
      hneed (fun _ => rfl) Mut (fun k h => ⟨by have := hMl k h; omega, fun h2 => (HM.out k h).2 (.inr (.inr h2))⟩)
      (BI J T x q Mut W5) (BX Jx T x q) (fun pre A B hA hK => ⟨(HJa.out _).up (by omega) _ _ hA.1 hK, keeps_abides (Nat.le_refl _) _ _ hA.2 hK⟩) (fun c pre A B hA hK => ⟨hA.1, (HJx.out _).up (by omega) _ _ hA.2 hK⟩) ?start ?round ?done ?stop
    case start => exact ⟨HJa.out _ _ _ Hj0.out hkW.none, Keeps.refl _ _⟩
    case done =>
      rintro D W' hD hDW hI hKd
      gi_wp2_with fail
      refine ⟨by simp, .inl ⟨_, _, rfl, run_takeDeferred hKd, ?_⟩⟩
      exact ⟨_, results_none rfl _ _ _, ⟨_, rfl⟩, .inl (HJa.out _ _ _ hI.1 (Keeps.putObj _ _ _ (by omega)))⟩
    case stop =>
      rintro D c pre s post W' hD hDW hxs ⟨⟨rfl, pre0, s0, hps0, hcan⟩, hjx⟩ hKd
      have HPS := Lib.hid hps0
      have HXS := Lib.hid hxs
      clear hps0 hxs
      gi_wp2_with fail
      refine ⟨by simp, .inl ⟨_, _, rfl, run_takeDeferred hKd, ?_⟩⟩
      refine ⟨_, results_none rfl _ _ _, ⟨_, rfl⟩, .inr ?_⟩
      obtain rfl : s = s0 := by have := List.append_inj_right' HPS.out rfl; simpa using this
      refine ⟨(pre.filter (can T ⟨x, q⟩)).map (goS ⟨x, q⟩), goS ⟨x, q⟩ s, (post.filter (can T ⟨x, q⟩)).map (goS ⟨x, q⟩), by unfold nexts; rw [HXS.out]; simp [List.filter_append, List.filter_cons, hcan], ?_⟩
      have h1 := HJx.out _ _ _ hjx (Keeps.putObj _ D (.deferred none) (by omega))
      rwa [List.filter_append, List.map_append, List.filter_cons, if_pos hcan] at h1
    case round =>
      intro l2 pre s post W6 hxs hl1 hl2 hr hI m
      have hsc : s ∈ codesL ps := by rw [hxs]; simp
      have hs16 := codes_ok ps s hsc
      obtain ⟨p2, t2, hE, hC, hps⟩ := stE_form s
      rw [hE]
      have hp2 : p2 < 8 := by cases t2 <;> simp at hps <;> omega
      have hs2 : s < 16 := by omega
      have Hby := Lib.hid (heap_alloc_new_ W6 (.cells #[.int .i64 (p2 : Int), .bool t2] 28))
      have HXS := Lib.hid hxs
      have Hps := Lib.hid hps
      have hs2p : s / 2 = p2 := by cases t2 <;> simp at hps <;> omega
      have HSE := Lib.hid (show staE (goS ⟨x, q⟩ s) = #[.agg #[.int .i64 (p2 : Int), .bool t2, .int .u64 ((q ||| 2 ^ p2 : Nat) : Int)]] by
        have : decide (s % 2 = 1) = t2 := by cases t2 <;> simp at hps ⊢ <;> omega
        unfold staE goS
        simp only [hs2p, this])
      have Hcn := Lib.hid (show can T ⟨x, q⟩ s = (!q.testBit p2 && (!bg || T x s)) by unfold can; rw [hs2p, Hbg.out]; simp)
      clear hE hC hps hxs hs2p hsc
      gi_wp2_with fail
      refine ⟨keep_alloc _ _ _, ?_⟩
      intro W7 hB7 hI7
      have hK7 := hI7.2
      have F3 := Lib.hid ((hK7.block _ (lt_of_block e3) (fun h => by have := hMl _ h; omega)).trans e3)
      have F4 := Lib.hid ((hK7.block _ (lt_of_block e4) (fun h => by have := hMl _ h; omega)).trans e4)
      have F6 := Lib.hid ((hK7.block _ (lt_of_block e6) (fun h => by have := hMl _ h; omega)).trans e6)
      have F7 := Lib.hid ((hK7.block _ (lt_of_block e7) (fun h => by have := hMl _ h; omega)).trans e7)
      have FB := Lib.hid ((hK7.block _ (lt_of_block eB) hMB).trans eB)
      have FS := Lib.hid ((hK7.block _ (lt_of_block eS) hMS).trans eS)
      have F8 := Lib.hid ((hB7.keeps.block _ (by simp) (by omega)).trans Hby.out)
      have HB7 := Lib.hid hB7.keeps
      have HI7 := Lib.hid hI7
      have c5 : W7.cell? ⟨W3.heap.size + 1, 0, none⟩ = some (.func (.func 76) #[] #[.pointer (some ⟨W3.heap.size, 0, none⟩)]) := by rw [cell_row F7.out]; rfl
      have c6 : W7.cell? ⟨W3.heap.size, 0, none⟩ = some (.int .u64 (q : Int)) := by rw [cell_row F6.out]; rfl
      have c4 : W7.cell? ⟨W.heap.size + 1, 0, none⟩ = some (.bool bg) := by rw [cell_row F4.out]; rfl
      obtain ⟨c8, c9⟩ := two_cells F8.out
      have s0 : W7.cell? ⟨Bs, 0, none⟩ = some (.int .i64 (p : Int)) := by rw [cell_row FS.out]; rfl
      have s1 : W7.cell? ⟨Bs, 1, none⟩ = some (.bool t) := by rw [cell_row FS.out]; rfl
      have C6 := Lib.hid c6
      clear hB7 hI7 hK7 c6 e3 e4 e5 e6 e7 eB eS hr hI
      gi_wp2_with fail
      refine ⟨trivial, wide_d, CallsIn.inRound l2 ((callsIn_wide.2 (member76 q p2 _ _ C6.out hq hp2)).mono ?_)⟩
      rintro e w8 ⟨rfl, rfl⟩
      cases htb : q.testBit p2 with
      | true =>
        have Hcan := Lib.hid (show can T ⟨x, q⟩ s = false by rw [Hcn.out, htb]; rfl)
        clear htb
        have hfin : BI J T x q Mut W5 (pre ++ [s]) w8 := ⟨by rw [List.filter_append, List.filter_cons, if_neg (by rw [Hcan.out]; simp)]; simpa using HI7.out.1, HI7.out.2⟩
        gi_wp2_with fail
        all_goals first
          | (rename_i hz1 hz2; simp [undef] at hz1)
          | (refine ⟨trivial, ?_⟩; gi_wp2_with fail; exact ⟨Keeps.refl _ _, hfin⟩)
      | false =>
        cases bg with
        | false =>
          have Hcan := Lib.hid (show can T ⟨x, q⟩ s = true by rw [Hcn.out, htb]; rfl)
          clear htb
          gi_wp2_with fail
          refine ⟨trivial, ?_⟩
          gi_wp2_with fail
          obtain ⟨W9, hW9⟩ : ∃ W9, w8 = W9 := ⟨_, rfl⟩
          have HK9 := Lib.hid (show Keeps Mut w8 W9 by rw [← hW9]; exact Keeps.refl _ _)
          have HN9 := Lib.hid (show Keeps (fun k => W.heap.size ≤ k) w8 W9 by rw [← hW9]; exact Keeps.refl _ _)
          rw [hW9]
          clear hW9 c5 c4 c8 c9 s0 s1
          have HS := Lib.hid (show ∀ W', Keeps Mut W9 W' → (fun W' => Keeps Mut W9 W' ∧ W'.cell? ⟨W.heap.size, 0, none⟩ = some (.func (.yield l) #[] #[]) ∧ W'.cell? ⟨W6.heap.size, 0, none⟩ = some (.int .i64 (p2 : Int)) ∧ W'.cell? ⟨W6.heap.size, 1, none⟩ = some (.bool t2) ∧ W'.cell? ⟨Bs, 2, none⟩ = some (.int .u64 (q : Int))) W' from fun W' hk => by
            have h1 := HK9.out.trans hk
            have e1 := two_cells ((h1.block _ (lt_of_block F8.out) (fun h => by have := hMl _ h; omega)).trans F8.out)
            refine ⟨hk, ?_, e1.1, e1.2, ?_⟩
            · rw [cell_row ((h1.block _ (lt_of_block F3.out) (fun h => by have := hMl _ h; omega)).trans F3.out)]; rfl
            · rw [cell_row ((h1.block _ (lt_of_block FS.out) hMS).trans FS.out)]; rfl)
          refine region_R (z := 11) (S := (fun W' => Keeps Mut W9 W' ∧ W'.cell? ⟨W.heap.size, 0, none⟩ = some (.func (.yield l) #[] #[]) ∧ W'.cell? ⟨W6.heap.size, 0, none⟩ = some (.int .i64 (p2 : Int)) ∧ W'.cell? ⟨W6.heap.size, 1, none⟩ = some (.bool t2) ∧ W'.cell? ⟨Bs, 2, none⟩ = some (.int .u64 (q : Int)))) (by kernel_rfl) ?_
          have hkd : Keeps Mut W9 W9.drew := Keeps.of_new (drew_b W9 1)
          have hS0 := HS.out W9.drew hkd
          have ip0 : (0 : Int) ≤ (p2 : Int) := by omega
          have ip1 : (p2 : Int) < 8 := by omega
          have hbit := bit_or hq hp2
          have hwr := wrap_pow hp2
          refine anyR_take (i := 0) (v := .func (.yield l) #[] #[]) rfl (by decide) (by kernel_rfl) (by kernel_rfl) (by kernel_rfl) (by kernel_rfl) (fun _ _ _ h => h) (Or.inl ⟨by rfl, by intro W' hSw; (try dsimp only at hSw); go_simp⟩) hS0 ?_
          simp only [Act.put, List.setIfInBounds_toArray, List.set_cons_zero, List.set_cons_succ]
          refine anyR_take (i := 1) (v := .agg #[.int .i64 (p2 : Int), .bool t2]) rfl (by decide) (by kernel_rfl) (by kernel_rfl) (by kernel_rfl) (by kernel_rfl) (fun _ _ _ h => h) (Or.inl ⟨by rfl, by intro W' hSw; (try dsimp only at hSw); go_simp⟩) hS0 ?_
          simp only [Act.put, List.setIfInBounds_toArray, List.set_cons_zero, List.set_cons_succ]
          refine anyR_take (i := 2) (v := .pointer (some ⟨Bs, 2, none⟩)) rfl (by decide) (by kernel_rfl) (by kernel_rfl) (by kernel_rfl) (by kernel_rfl) (fun _ _ _ h => h) (Or.inl ⟨by rfl, by intro W' hSw; (try dsimp only at hSw); go_simp⟩) hS0 ?_
          simp only [Act.put, List.setIfInBounds_toArray, List.set_cons_zero, List.set_cons_succ]
          refine anyR_take (i := 3) (v := .int .u64 (q : Int)) rfl (by decide) (by kernel_rfl) (by kernel_rfl) (by kernel_rfl) (by kernel_rfl) (fun _ _ _ h => h) (Or.inl ⟨by rfl, by intro W' hSw; (try dsimp only at hSw); go_simp⟩) hS0 ?_
          simp only [Act.put, List.setIfInBounds_toArray, List.set_cons_zero, List.set_cons_succ]
          refine anyR_take (i := 4) (v := .pointer (some ⟨W6.heap.size, 0, none⟩)) rfl (by decide) (by kernel_rfl) (by kernel_rfl) (by kernel_rfl) (by kernel_rfl) (fun _ _ _ h => h) (Or.inl ⟨by rfl, by intro W' hSw; (try dsimp only at hSw); go_simp⟩) hS0 ?_
          simp only [Act.put, List.setIfInBounds_toArray, List.set_cons_zero, List.set_cons_succ]
          refine anyR_take (i := 5) (v := .int .i64 (p2 : Int)) rfl (by decide) (by kernel_rfl) (by kernel_rfl) (by kernel_rfl) (by kernel_rfl) (fun _ _ _ h => h) (Or.inl ⟨by rfl, by intro W' hSw; (try dsimp only at hSw); go_simp⟩) hS0 ?_
          simp only [Act.put, List.setIfInBounds_toArray, List.set_cons_zero, List.set_cons_succ]
          refine anyR_take (i := 6) (v := .int .u64 (2 ^ p2)) rfl (by decide) (by kernel_rfl) (by kernel_rfl) (by kernel_rfl) (by kernel_rfl) (fun _ _ _ h => h) (Or.inl ⟨by rfl, by intro W' hSw; (try dsimp only at hSw); go_simp⟩) hS0 ?_
          simp only [Act.put, List.setIfInBounds_toArray, List.set_cons_zero, List.set_cons_succ]
          refine anyR_take (i := 7) (v := .int .u64 ((q ||| 2 ^ p2 : Nat) : Int)) rfl (by decide) (by kernel_rfl) (by kernel_rfl) (by kernel_rfl) (by kernel_rfl) (fun _ _ _ h => h) (Or.inl ⟨by rfl, by intro W' hSw; (try dsimp only at hSw); go_simp⟩) hS0 ?_
          simp only [Act.put, List.setIfInBounds_toArray, List.set_cons_zero, List.set_cons_succ]
          refine anyR_take (i := 8) (v := .agg #[.int .i64 (p2 : Int), .bool t2, .int .u64 ((q ||| 2 ^ p2 : Nat) : Int)]) rfl (by decide) (by kernel_rfl) (by kernel_rfl) (by kernel_rfl) (by kernel_rfl) (fun _ _ _ h => h) (Or.inl ⟨by rfl, by intro W' hSw; (try dsimp only at hSw); go_simp⟩) hS0 ?_
          simp only [Act.put, List.setIfInBounds_toArray, List.set_cons_zero, List.set_cons_succ]
          refine anyR_one (i := 9) (by kernel_rfl) rfl (by rfl) ?_
          intro K hK
          have HKK := Lib.hid hK
          clear hK hS0
          have hj9 : J ((pre.filter (can T ⟨x, q⟩)).map (goS ⟨x, q⟩)) W9.drew := HJa.out _ _ _ HI7.out.1 ((HK9.out.trans hkd).mono (fun k hk h => by have := hMl _ h; omega) |> fun _ => (HN9.out.mono (fun k _ e => e)).trans (Keeps.of_new (drew_b W9 1)))
          have hy0 := HY.out ((pre.filter (can T ⟨x, q⟩)).map (goS ⟨x, q⟩)) (goS ⟨x, q⟩ s) ((post.filter (can T ⟨x, q⟩)).map (goS ⟨x, q⟩)) W9.drew (by unfold nexts; rw [HXS.out]; simp [List.filter_append, List.filter_cons, Hcan.out]) (by have := HK9.out.size; have h7 := HB7.out.size; simp only [World.size_alloc] at h7; show W.heap.size ≤ W9.heap.size; omega) hj9 (m - 1)
          rw [HSE.out] at hy0
          obtain ⟨fn, tmps, assign, body, hy, hR⟩ := hy0
          clear hkd hj9 hbit hwr
          go_simp
          refine ⟨wide_d, RoundIn.mono hR ?_⟩
          rintro e W10 (⟨rfl, hj10, hk10⟩ | ⟨rfl, hj10, hk10⟩)
          · have hk11 : Keeps Mut W9 W10 := (Keeps.of_new (drew_b W9 1)).trans hk10
            have hS0 := HS.out W10 hk11
            refine HKK.out _ _ (fun _ _ => hS0) ?_
            have HJ10 := Lib.hid hj10
            have HK11 := Lib.hid hk11
            clear hj10 hk10 hk11 hy HKK K
            refine anyR_free (i := 10) (v := .bool false) rfl (by decide) (by kernel_rfl) (by kernel_rfl) (by kernel_rfl) (fun _ _ _ h => h) (Or.inl ⟨by rfl, by intro W' _; go_simp⟩) hS0 ?_
            simp only [Act.put, List.setIfInBounds_toArray, List.set_cons_zero, List.set_cons_succ]
            refine anyR_done (by kernel_rfl) ?_ _
            clear hS0
            gi_wp2_with fail
            exact ⟨HK9.out.trans HK11.out, by rw [List.filter_append, List.map_append, List.filter_cons, if_pos Hcan.out]; exact HJ10.out, (HI7.out.2.trans HK9.out).trans HK11.out⟩
          · have hk11 : Keeps Mut W9 W10 := (Keeps.of_new (drew_b W9 1)).trans hk10
            have hS0 := HS.out W10 hk11
            refine HKK.out _ _ (fun _ _ => hS0) ?_
            have HJ10 := Lib.hid hj10
            have HK11 := Lib.hid hk11
            clear hj10 hk10 hk11 hy HKK K
            refine anyR_free (i := 10) (v := .bool true) rfl (by decide) (by kernel_rfl) (by kernel_rfl) (by kernel_rfl) (fun _ _ _ h => h) (Or.inl ⟨by rfl, by intro W' _; go_simp⟩) hS0 ?_
            simp only [Act.put, List.setIfInBounds_toArray, List.set_cons_zero, List.set_cons_succ]
            refine anyR_done (by kernel_rfl) ?_ _
            clear hS0
            gi_wp2_with fail
            exact ⟨HK9.out.trans HK11.out, ⟨rfl, pre, s, rfl, Hcan.out⟩, by rw [List.filter_append, List.map_append, List.filter_cons, if_pos Hcan.out]; exact HJ10.out⟩
        | true =>
          gi_wp2_with fail
          refine ⟨trivial, wide_d, CallsIn.inRound l2 ((callsIn_wide.2 (fits44 X A n cap off lo hi T M Bb p p2 x s t t2 _ FB.out hX Hx.out Hps.out hx16 hs2)).mono ?_)⟩
          rintro e W9 ⟨rfl, hb9⟩
          have HK9 := Lib.hid (show Keeps Mut w8 W9 from Keeps.of_new hb9)
          have HN9 := Lib.hid (show Keeps (fun k => W.heap.size ≤ k) w8 W9 from Keeps.of_new hb9)
          clear c5 c4 c8 c9 s0 s1 hb9
          cases hT : T x s with
          | false =>
            have Hcan := Lib.hid (show can T ⟨x, q⟩ s = false by rw [Hcn.out, hT]; simp)
            clear htb hT
            gi_wp2_with fail
            exact ⟨HK9.out, by rw [List.filter_append, List.filter_cons, if_neg (by rw [Hcan.out]; simp)]; simpa using HJa.out _ _ _ HI7.out.1 HN9.out, HI7.out.2.trans HK9.out⟩
          | true =>
            have Hcan := Lib.hid (show can T ⟨x, q⟩ s = true by rw [Hcn.out, htb, hT]; rfl)
            clear htb hT
            gi_wp2_with fail
            have HS := Lib.hid (show ∀ W', Keeps Mut W9 W' → (fun W' => Keeps Mut W9 W' ∧ W'.cell? ⟨W.heap.size, 0, none⟩ = some (.func (.yield l) #[] #[]) ∧ W'.cell? ⟨W6.heap.size, 0, none⟩ = some (.int .i64 (p2 : Int)) ∧ W'.cell? ⟨W6.heap.size, 1, none⟩ = some (.bool t2) ∧ W'.cell? ⟨Bs, 2, none⟩ = some (.int .u64 (q : Int))) W' from fun W' hk => by
              have h1 := HK9.out.trans hk
              have e1 := two_cells ((h1.block _ (lt_of_block F8.out) (fun h => by have := hMl _ h; omega)).trans F8.out)
              refine ⟨hk, ?_, e1.1, e1.2, ?_⟩
              · rw [cell_row ((h1.block _ (lt_of_block F3.out) (fun h => by have := hMl _ h; omega)).trans F3.out)]; rfl
              · rw [cell_row ((h1.block _ (lt_of_block FS.out) hMS).trans FS.out)]; rfl)
            refine region_R (z := 11) (S := (fun W' => Keeps Mut W9 W' ∧ W'.cell? ⟨W.heap.size, 0, none⟩ = some (.func (.yield l) #[] #[]) ∧ W'.cell? ⟨W6.heap.size, 0, none⟩ = some (.int .i64 (p2 : Int)) ∧ W'.cell? ⟨W6.heap.size, 1, none⟩ = some (.bool t2) ∧ W'.cell? ⟨Bs, 2, none⟩ = some (.int .u64 (q : Int)))) (by kernel_rfl) ?_
            have hkd : Keeps Mut W9 W9.drew := Keeps.of_new (drew_b W9 1)
            have hS0 := HS.out W9.drew hkd
            have ip0 : (0 : Int) ≤ (p2 : Int) := by omega
            have ip1 : (p2 : Int) < 8 := by omega
            have hbit := bit_or hq hp2
            have hwr := wrap_pow hp2
            refine anyR_take (i := 0) (v := .func (.yield l) #[] #[]) rfl (by decide) (by kernel_rfl) (by kernel_rfl) (by kernel_rfl) (by kernel_rfl) (fun _ _ _ h => h) (Or.inl ⟨by rfl, by intro W' hSw; (try dsimp only at hSw); go_simp⟩) hS0 ?_
            simp only [Act.put, List.setIfInBounds_toArray, List.set_cons_zero, List.set_cons_succ]
            refine anyR_take (i := 1) (v := .agg #[.int .i64 (p2 : Int), .bool t2]) rfl (by decide) (by kernel_rfl) (by kernel_rfl) (by kernel_rfl) (by kernel_rfl) (fun _ _ _ h => h) (Or.inl ⟨by rfl, by intro W' hSw; (try dsimp only at hSw); go_simp⟩) hS0 ?_
            simp only [Act.put, List.setIfInBounds_toArray, List.set_cons_zero, List.set_cons_succ]
            refine anyR_take (i := 2) (v := .pointer (some ⟨Bs, 2, none⟩)) rfl (by decide) (by kernel_rfl) (by kernel_rfl) (by kernel_rfl) (by kernel_rfl) (fun _ _ _ h => h) (Or.inl ⟨by rfl, by intro W' hSw; (try dsimp only at hSw); go_simp⟩) hS0 ?_
            simp only [Act.put, List.setIfInBounds_toArray, List.set_cons_zero, List.set_cons_succ]
            refine anyR_take (i := 3) (v := .int .u64 (q : Int)) rfl (by decide) (by kernel_rfl) (by kernel_rfl) (by kernel_rfl) (by kernel_rfl) (fun _ _ _ h => h) (Or.inl ⟨by rfl, by intro W' hSw; (try dsimp only at hSw); go_simp⟩) hS0 ?_
            simp only [Act.put, List.setIfInBounds_toArray, List.set_cons_zero, List.set_cons_succ]
            refine anyR_take (i := 4) (v := .pointer (some ⟨W6.heap.size, 0, none⟩)) rfl (by decide) (by kernel_rfl) (by kernel_rfl) (by kernel_rfl) (by kernel_rfl) (fun _ _ _ h => h) (Or.inl ⟨by rfl, by intro W' hSw; (try dsimp only at hSw); go_simp⟩) hS0 ?_
            simp only [Act.put, List.setIfInBounds_toArray, List.set_cons_zero, List.set_cons_succ]
            refine anyR_take (i := 5) (v := .int .i64 (p2 : Int)) rfl (by decide) (by kernel_rfl) (by kernel_rfl) (by kernel_rfl) (by kernel_rfl) (fun _ _ _ h => h) (Or.inl ⟨by rfl, by intro W' hSw; (try dsimp only at hSw); go_simp⟩) hS0 ?_
            simp only [Act.put, List.setIfInBounds_toArray, List.set_cons_zero, List.set_cons_succ]
            refine anyR_take (i := 6) (v := .int .u64 (2 ^ p2)) rfl (by decide) (by kernel_rfl) (by kernel_rfl) (by kernel_rfl) (by kernel_rfl) (fun _ _ _ h => h) (Or.inl ⟨by rfl, by intro W' hSw; (try dsimp only at hSw); go_simp⟩) hS0 ?_
            simp only [Act.put, List.setIfInBounds_toArray, List.set_cons_zero, List.set_cons_succ]
            refine anyR_take (i := 7) (v := .int .u64 ((q ||| 2 ^ p2 : Nat) : Int)) rfl (by decide) (by kernel_rfl) (by kernel_rfl) (by kernel_rfl) (by kernel_rfl) (fun _ _ _ h => h) (Or.inl ⟨by rfl, by intro W' hSw; (try dsimp only at hSw); go_simp⟩) hS0 ?_
            simp only [Act.put, List.setIfInBounds_toArray, List.set_cons_zero, List.set_cons_succ]
            refine anyR_take (i := 8) (v := .agg #[.int .i64 (p2 : Int), .bool t2, .int .u64 ((q ||| 2 ^ p2 : Nat) : Int)]) rfl (by decide) (by kernel_rfl) (by kernel_rfl) (by kernel_rfl) (by kernel_rfl) (fun _ _ _ h => h) (Or.inl ⟨by rfl, by intro W' hSw; (try dsimp only at hSw); go_simp⟩) hS0 ?_
            simp only [Act.put, List.setIfInBounds_toArray, List.set_cons_zero, List.set_cons_succ]
            refine anyR_one (i := 9) (by kernel_rfl) rfl (by rfl) ?_
            intro K hK
            have HKK := Lib.hid hK
            clear hK hS0
            have hj9 : J ((pre.filter (can T ⟨x, q⟩)).map (goS ⟨x, q⟩)) W9.drew := HJa.out _ _ _ HI7.out.1 ((HK9.out.trans hkd).mono (fun k hk h => by have := hMl _ h; omega) |> fun _ => (HN9.out.mono (fun k _ e => e)).trans (Keeps.of_new (drew_b W9 1)))
            have hy0 := HY.out ((pre.filter (can T ⟨x, q⟩)).map (goS ⟨x, q⟩)) (goS ⟨x, q⟩ s) ((post.filter (can T ⟨x, q⟩)).map (goS ⟨x, q⟩)) W9.drew (by unfold nexts; rw [HXS.out]; simp [List.filter_append, List.filter_cons, Hcan.out]) (by have := HK9.out.size; have h7 := HB7.out.size; simp only [World.size_alloc] at h7; show W.heap.size ≤ W9.heap.size; omega) hj9 (m - 1)
            rw [HSE.out] at hy0
            obtain ⟨fn, tmps, assign, body, hy, hR⟩ := hy0
            clear hkd hj9 hbit hwr
            go_simp
            refine ⟨wide_d, RoundIn.mono hR ?_⟩
            rintro e W10 (⟨rfl, hj10, hk10⟩ | ⟨rfl, hj10, hk10⟩)
            · have hk11 : Keeps Mut W9 W10 := (Keeps.of_new (drew_b W9 1)).trans hk10
              have hS0 := HS.out W10 hk11
              refine HKK.out _ _ (fun _ _ => hS0) ?_
              have HJ10 := Lib.hid hj10
              have HK11 := Lib.hid hk11
              clear hj10 hk10 hk11 hy HKK K
              refine anyR_free (i := 10) (v := .bool false) rfl (by decide) (by kernel_rfl) (by kernel_rfl) (by kernel_rfl) (fun _ _ _ h => h) (Or.inl ⟨by rfl, by intro W' _; go_simp⟩) hS0 ?_
              simp only [Act.put, List.setIfInBounds_toArray, List.set_cons_zero, List.set_cons_succ]
              refine anyR_done (by kernel_rfl) ?_ _
              clear hS0
              gi_wp2_with fail
              exact ⟨HK9.out.trans HK11.out, by rw [List.filter_append, List.map_append, List.filter_cons, if_pos Hcan.out]; exact HJ10.out, (HI7.out.2.trans HK9.out).trans HK11.out⟩
            · have hk11 : Keeps Mut W9 W10 := (Keeps.of_new (drew_b W9 1)).trans hk10
              have hS0 := HS.out W10 hk11
              refine HKK.out _ _ (fun _ _ => hS0) ?_
              have HJ10 := Lib.hid hj10
              have HK11 := Lib.hid hk11
              clear hj10 hk10 hk11 hy HKK K
              refine anyR_free (i := 10) (v := .bool true) rfl (by decide) (by kernel_rfl) (by kernel_rfl) (by kernel_rfl) (fun _ _ _ h => h) (Or.inl ⟨by rfl, by intro W' _; go_simp⟩) hS0 ?_
              simp only [Act.put, List.setIfInBounds_toArray, List.set_cons_zero, List.set_cons_succ]
              refine anyR_done (by kernel_rfl) ?_ _
              clear hS0
              gi_wp2_with fail
              exact ⟨HK9.out.trans HK11.out, ⟨rfl, pre, s, rfl, Hcan.out⟩, by rw [List.filter_append, List.map_append, List.filter_cons, if_pos Hcan.out]; exact HJ10.out⟩
  · have d0 : ((q : Int) != 0) = true := by rw [bne_iff_ne]; omega
    have hb1 : Below W.heap.size W (((W.alloc (.cells #[.func (.yield l) #[] #[]] 96)).alloc (.cells #[.bool true] 4)).alloc (.cells #[.int .i64 (p : Int), .bool t] 28)) := ((below_alloc_ _ _).trans ((below_alloc_ _ _).mono (by simp))).trans ((below_alloc_ _ _).mono (by simp; omega))
    have h73 := run_ld73 ((hb1.block _ lb).trans HBW.out) hX hx16
    have Hq0 := Lib.hid hq0
    have HK3 := Lib.hid (show Keeps (fun _ => False) W (((W.alloc (.cells #[.func (.yield l) #[] #[]] 96)).alloc (.cells #[.bool true] 4)).alloc (.cells #[.int .i64 (p : Int), .bool t] 28)) from Keeps.of_new hb1)
    have He3 := Lib.hid (show (((W.alloc (.cells #[.func (.yield l) #[] #[]] 96)).alloc (.cells #[.bool true] 4)).alloc (.cells #[.int .i64 (p : Int), .bool t] 28)).heap[W.heap.size]? = some (.cells #[.func (.yield l) #[] #[]] 96 (0, 0)) from hal_old (hal_old (heap_alloc_new_ _ _)))
    have He4 := Lib.hid (show (((W.alloc (.cells #[.func (.yield l) #[] #[]] 96)).alloc (.cells #[.bool true] 4)).alloc (.cells #[.int .i64 (p : Int), .bool t] 28)).heap[W.heap.size + 1]? = some (.cells #[.bool true] 4 (0, 0)) from hal_old (hal_new (by simp)))
    have s2c : (((W.alloc (.cells #[.func (.yield l) #[] #[]] 96)).alloc (.cells #[.bool true] 4)).alloc (.cells #[.int .i64 (p : Int), .bool t] 28)).cell? ⟨Bs, 2, none⟩ = some (.int .u64 (q : Int)) := by rw [keep_cells HK3.out ls (fun e => e)]; exact s2
    clear hq0 hb1
    gi_wp2_with fail
    refine ⟨trivial, (callsIn_wide.2 (code_any Hx.out (by omega) _)).mono ?_⟩
    rintro e w3 ⟨rfl, rfl⟩
    have ix0 : (0 : Int) ≤ (x : Int) := by omega
    have ix1 : (x : Int) < 16 := by omega
    have hrow := run_row T x
    cases hrz : rowZ T x with
    | true =>
      have HN := Lib.hid (show nexts T (codesL ps) ⟨x, q⟩ = [] from nexts_rowZ (codes_ok ps) (by have := Hp.out.1; omega) Hq0.out hrz)
      gi_wp2_with fail
      exact ⟨_, results_none rfl _ _ _, ⟨_, rfl⟩, .inl (by rw [HN.out]; exact HJa.out _ _ _ Hj0.out HK3.out.none)⟩
    | false =>
    gi_wp2_with fail
    obtain ⟨bg, hbg⟩ : ∃ bg, bg = decide (q ≠ 0) := ⟨_, rfl⟩
    obtain ⟨W3, hW3⟩ : ∃ W3, ((W.alloc (.cells #[.func (.yield l) #[] #[]] 96)).alloc (.cells #[.bool true] 4)).alloc (.cells #[.int .i64 (p : Int), .bool t] 28) = W3 := ⟨_, rfl⟩
    rw [hW3] at HK3 He3 He4 ⊢
    rw [show true = bg by rw [hbg]; exact (decide_eq_true Hq0.out).symm] at He4
    have Hbg := Lib.hid hbg
    clear hbg d0 hrow hrz h73 ix0 ix1 s2c
    have HB3 := Lib.hid ((HK3.out.block _ lb (fun e => e)).trans HBW.out)
    have HS3 := Lib.hid ((HK3.out.block _ ls (fun e => e)).trans HSW.out)
    clear hW3 s0 s1 s2
    refine ⟨trivial, (callsIn_wide.2 (members69 _ _)).mono ?_⟩
    rintro e w4 ⟨rfl, rfl⟩
    have hk5 : Keeps (fun _ => False) W3 (((W3.alloc (.cells #[.int .u64 (q : Int)] 89)).alloc (.cells #[.func (.func 76) #[] #[.pointer (some ⟨W3.heap.size, 0, none⟩)]] 119)).alloc (.cells X 78)) := ((keep_alloc _ _ _).trans (keep_alloc _ _ _)).trans (keep_alloc _ _ _)
    have hB4 : ((W3.alloc (.cells #[.int .u64 (q : Int)] 89)).alloc (.cells #[.func (.func 76) #[] #[.pointer (some ⟨W3.heap.size, 0, none⟩)]] 119)).heap[Bb]? = some (.cells X 78 (0, 0)) := hal_old (hal_old HB3.out)
    have h78 := run_ld78 hB4 hX.size
    clear hB4
    gi_wp2_with fail
    clear h78
    refine ⟨trivial, (callsIn_wide.2 (steps57 _ _)).mono ?_⟩
    rintro e w5 ⟨rfl, rfl⟩
    gi_wp2_with fail
    have e5 := heap_alloc_new_ ((W3.alloc (.cells #[.int .u64 (q : Int)] 89)).alloc (.cells #[.func (.func 76) #[] #[.pointer (some ⟨W3.heap.size, 0, none⟩)]] 119)) (.cells X 78)
    simp only [World.size_alloc] at e5
    have e6 : (((W3.alloc (.cells #[.int .u64 (q : Int)] 89)).alloc (.cells #[.func (.func 76) #[] #[.pointer (some ⟨W3.heap.size, 0, none⟩)]] 119)).alloc (.cells X 78)).heap[W3.heap.size]? = some (.cells #[.int .u64 (q : Int)] 89 (0, 0)) := hal_old (hal_old (heap_alloc_new_ _ _))
    have e7 : (((W3.alloc (.cells #[.int .u64 (q : Int)] 89)).alloc (.cells #[.func (.func 76) #[] #[.pointer (some ⟨W3.heap.size, 0, none⟩)]] 119)).alloc (.cells X 78)).heap[W3.heap.size + 1]? = some (.cells #[.func (.func 76) #[] #[.pointer (some ⟨W3.heap.size, 0, none⟩)]] 119 (0, 0)) := hal_old (hal_new (by simp))
    obtain ⟨W5, hW5⟩ : ∃ W5, ((W3.alloc (.cells #[.int .u64 (q : Int)] 89)).alloc (.cells #[.func (.func 76) #[] #[.pointer (some ⟨W3.heap.size, 0, none⟩)]] 119)).alloc (.cells X 78) = W5 := ⟨_, rfl⟩
    rw [hW5] at hk5 e5 e6 e7 ⊢
    have e3 := (hk5.block _ (lt_of_block He3.out) (fun e => e)).trans He3.out
    have e4 := (hk5.block _ (lt_of_block He4.out) (fun e => e)).trans He4.out
    have eB := (hk5.block _ (lt_of_block HB3.out) (fun e => e)).trans HB3.out
    have eS := (hk5.block _ (lt_of_block HS3.out) (fun e => e)).trans HS3.out
    have hkW : Keeps (fun _ => False) W W5 := HK3.out.trans hk5
    have hs3 := HK3.out.size
    have hs5 := hk5.size
    have hpc5 := Hp.out.below (HwW.out.trans hkW).new (Nat.le_refl _)
    have hMl : ∀ k, Mut k → k < W.heap.size := fun k h => (HM.out k h).1
    have hMB : ¬ Mut Bb := fun h => (HM.out _ h).2 (.inl rfl)
    have hMS : ¬ Mut Bs := fun h => (HM.out _ h).2 (.inr (.inl rfl))
    have hneed : ∀ k, (∃ o, A = some ⟨k, o, none⟩) → k < W5.heap.size := by
      rintro k ⟨o, e⟩
      obtain ⟨b, o2, e2, hc⟩ := hpc5.2 hn1
      have := lt_of_cell (hc 0 hn1).1
      rw [e2] at e
      injection e with e
      injection e with e _
      omega
    have hlen := eq_le Hp.out.1
    clear hW5 hk5
    refine wpIn_rangeL (gf := 72) (lb := #[.pointer (some ⟨W3.heap.size + 1 + 1, 0, none⟩)]) rfl (enters_of Try.func72 (by kernel_rfl) rfl) (steps_seq X A n cap off lo hi T M (W3.heap.size + 1 + 1) ps W5 e5 hX hpc5 hn)
      hneed (fun _ => rfl) Mut (fun k h => ⟨by have := hMl k h; omega, fun h2 => (HM.out k h).2 (.inr (.inr h2))⟩)
      (BI J T x q Mut W5) (BX Jx T x q) (fun pre A B hA hK => ⟨(HJa.out _).up (by omega) _ _ hA.1 hK, keeps_abides (Nat.le_refl _) _ _ hA.2 hK⟩) (fun c pre A B hA hK => ⟨hA.1, (HJx.out _).up (by omega) _ _ hA.2 hK⟩) ?start2 ?round2 ?done2 ?stop2
    case start2 => exact ⟨HJa.out _ _ _ Hj0.out hkW.none, Keeps.refl _ _⟩
    case done2 =>
      rintro D W' hD hDW hI hKd
      gi_wp2_with fail
      refine ⟨by simp, .inl ⟨_, _, rfl, run_takeDeferred hKd, ?_⟩⟩
      exact ⟨_, results_none rfl _ _ _, ⟨_, rfl⟩, .inl (HJa.out _ _ _ hI.1 (Keeps.putObj _ _ _ (by omega)))⟩
    case stop2 =>
      rintro D c pre s post W' hD hDW hxs ⟨⟨rfl, pre0, s0, hps0, hcan⟩, hjx⟩ hKd
      have HPS := Lib.hid hps0
      have HXS := Lib.hid hxs
      clear hps0 hxs
      gi_wp2_with fail
      refine ⟨by simp, .inl ⟨_, _, rfl, run_takeDeferred hKd, ?_⟩⟩
      refine ⟨_, results_none rfl _ _ _, ⟨_, rfl⟩, .inr ?_⟩
      obtain rfl : s = s0 := by have := List.append_inj_right' HPS.out rfl; simpa using this
      refine ⟨(pre.filter (can T ⟨x, q⟩)).map (goS ⟨x, q⟩), goS ⟨x, q⟩ s, (post.filter (can T ⟨x, q⟩)).map (goS ⟨x, q⟩), by unfold nexts; rw [HXS.out]; simp [List.filter_append, List.filter_cons, hcan], ?_⟩
      have h1 := HJx.out _ _ _ hjx (Keeps.putObj _ D (.deferred none) (by omega))
      rwa [List.filter_append, List.map_append, List.filter_cons, if_pos hcan] at h1
    case round2 =>
      intro l2 pre s post W6 hxs hl1 hl2 hr hI m
      have hsc : s ∈ codesL ps := by rw [hxs]; simp
      have hs16 := codes_ok ps s hsc
      obtain ⟨p2, t2, hE, hC, hps⟩ := stE_form s
      rw [hE]
      have hp2 : p2 < 8 := by cases t2 <;> simp at hps <;> omega
      have hs2 : s < 16 := by omega
      have Hby := Lib.hid (heap_alloc_new_ W6 (.cells #[.int .i64 (p2 : Int), .bool t2] 28))
      have HXS := Lib.hid hxs
      have Hps := Lib.hid hps
      have hs2p : s / 2 = p2 := by cases t2 <;> simp at hps <;> omega
      have HSE := Lib.hid (show staE (goS ⟨x, q⟩ s) = #[.agg #[.int .i64 (p2 : Int), .bool t2, .int .u64 ((q ||| 2 ^ p2 : Nat) : Int)]] by
        have : decide (s % 2 = 1) = t2 := by cases t2 <;> simp at hps ⊢ <;> omega
        unfold staE goS
        simp only [hs2p, this])
      have Hcn := Lib.hid (show can T ⟨x, q⟩ s = (!q.testBit p2 && (!bg || T x s)) by unfold can; rw [hs2p, Hbg.out]; simp)
      clear hE hC hps hxs hs2p hsc
      gi_wp2_with fail
      refine ⟨keep_alloc _ _ _, ?_⟩
      intro W7 hB7 hI7
      have hK7 := hI7.2
      have F3 := Lib.hid ((hK7.block _ (lt_of_block e3) (fun h => by have := hMl _ h; omega)).trans e3)
      have F4 := Lib.hid ((hK7.block _ (lt_of_block e4) (fun h => by have := hMl _ h; omega)).trans e4)
      have F6 := Lib.hid ((hK7.block _ (lt_of_block e6) (fun h => by have := hMl _ h; omega)).trans e6)
      have F7 := Lib.hid ((hK7.block _ (lt_of_block e7) (fun h => by have := hMl _ h; omega)).trans e7)
      have FB := Lib.hid ((hK7.block _ (lt_of_block eB) hMB).trans eB)
      have FS := Lib.hid ((hK7.block _ (lt_of_block eS) hMS).trans eS)
      have F8 := Lib.hid ((hB7.keeps.block _ (by simp) (by omega)).trans Hby.out)
      have HB7 := Lib.hid hB7.keeps
      have HI7 := Lib.hid hI7
      have c5 : W7.cell? ⟨W3.heap.size + 1, 0, none⟩ = some (.func (.func 76) #[] #[.pointer (some ⟨W3.heap.size, 0, none⟩)]) := by rw [cell_row F7.out]; rfl
      have c6 : W7.cell? ⟨W3.heap.size, 0, none⟩ = some (.int .u64 (q : Int)) := by rw [cell_row F6.out]; rfl
      have c4 : W7.cell? ⟨W.heap.size + 1, 0, none⟩ = some (.bool bg) := by rw [cell_row F4.out]; rfl
      obtain ⟨c8, c9⟩ := two_cells F8.out
      have s0 : W7.cell? ⟨Bs, 0, none⟩ = some (.int .i64 (p : Int)) := by rw [cell_row FS.out]; rfl
      have s1 : W7.cell? ⟨Bs, 1, none⟩ = some (.bool t) := by rw [cell_row FS.out]; rfl
      have C6 := Lib.hid c6
      clear hB7 hI7 hK7 c6 e3 e4 e5 e6 e7 eB eS hr hI
      gi_wp2_with fail
      refine ⟨trivial, wide_d, CallsIn.inRound l2 ((callsIn_wide.2 (member76 q p2 _ _ C6.out hq hp2)).mono ?_)⟩
      rintro e w8 ⟨rfl, rfl⟩
      cases htb : q.testBit p2 with
      | true =>
        have Hcan := Lib.hid (show can T ⟨x, q⟩ s = false by rw [Hcn.out, htb]; rfl)
        clear htb
        have hfin : BI J T x q Mut W5 (pre ++ [s]) w8 := ⟨by rw [List.filter_append, List.filter_cons, if_neg (by rw [Hcan.out]; simp)]; simpa using HI7.out.1, HI7.out.2⟩
        gi_wp2_with fail
        all_goals first
          | (rename_i hz1 hz2; simp [undef] at hz1)
          | (refine ⟨trivial, ?_⟩; gi_wp2_with fail; exact ⟨Keeps.refl _ _, hfin⟩)
      | false =>
        cases bg with
        | false =>
          have Hcan := Lib.hid (show can T ⟨x, q⟩ s = true by rw [Hcn.out, htb]; rfl)
          clear htb
          gi_wp2_with fail
          refine ⟨trivial, ?_⟩
          gi_wp2_with fail
          obtain ⟨W9, hW9⟩ : ∃ W9, w8 = W9 := ⟨_, rfl⟩
          have HK9 := Lib.hid (show Keeps Mut w8 W9 by rw [← hW9]; exact Keeps.refl _ _)
          have HN9 := Lib.hid (show Keeps (fun k => W.heap.size ≤ k) w8 W9 by rw [← hW9]; exact Keeps.refl _ _)
          rw [hW9]
          clear hW9 c5 c4 c8 c9 s0 s1
          have HS := Lib.hid (show ∀ W', Keeps Mut W9 W' → (fun W' => Keeps Mut W9 W' ∧ W'.cell? ⟨W.heap.size, 0, none⟩ = some (.func (.yield l) #[] #[]) ∧ W'.cell? ⟨W6.heap.size, 0, none⟩ = some (.int .i64 (p2 : Int)) ∧ W'.cell? ⟨W6.heap.size, 1, none⟩ = some (.bool t2) ∧ W'.cell? ⟨Bs, 2, none⟩ = some (.int .u64 (q : Int))) W' from fun W' hk => by
            have h1 := HK9.out.trans hk
            have e1 := two_cells ((h1.block _ (lt_of_block F8.out) (fun h => by have := hMl _ h; omega)).trans F8.out)
            refine ⟨hk, ?_, e1.1, e1.2, ?_⟩
            · rw [cell_row ((h1.block _ (lt_of_block F3.out) (fun h => by have := hMl _ h; omega)).trans F3.out)]; rfl
            · rw [cell_row ((h1.block _ (lt_of_block FS.out) hMS).trans FS.out)]; rfl)
          refine region_R (z := 11) (S := (fun W' => Keeps Mut W9 W' ∧ W'.cell? ⟨W.heap.size, 0, none⟩ = some (.func (.yield l) #[] #[]) ∧ W'.cell? ⟨W6.heap.size, 0, none⟩ = some (.int .i64 (p2 : Int)) ∧ W'.cell? ⟨W6.heap.size, 1, none⟩ = some (.bool t2) ∧ W'.cell? ⟨Bs, 2, none⟩ = some (.int .u64 (q : Int)))) (by kernel_rfl) ?_
          have hkd : Keeps Mut W9 W9.drew := Keeps.of_new (drew_b W9 1)
          have hS0 := HS.out W9.drew hkd
          have ip0 : (0 : Int) ≤ (p2 : Int) := by omega
          have ip1 : (p2 : Int) < 8 := by omega
          have hbit := bit_or hq hp2
          have hwr := wrap_pow hp2
          refine anyR_take (i := 0) (v := .func (.yield l) #[] #[]) rfl (by decide) (by kernel_rfl) (by kernel_rfl) (by kernel_rfl) (by kernel_rfl) (fun _ _ _ h => h) (Or.inl ⟨by rfl, by intro W' hSw; (try dsimp only at hSw); go_simp⟩) hS0 ?_
          simp only [Act.put, List.setIfInBounds_toArray, List.set_cons_zero, List.set_cons_succ]
          refine anyR_take (i := 1) (v := .agg #[.int .i64 (p2 : Int), .bool t2]) rfl (by decide) (by kernel_rfl) (by kernel_rfl) (by kernel_rfl) (by kernel_rfl) (fun _ _ _ h => h) (Or.inl ⟨by rfl, by intro W' hSw; (try dsimp only at hSw); go_simp⟩) hS0 ?_
          simp only [Act.put, List.setIfInBounds_toArray, List.set_cons_zero, List.set_cons_succ]
          refine anyR_take (i := 2) (v := .pointer (some ⟨Bs, 2, none⟩)) rfl (by decide) (by kernel_rfl) (by kernel_rfl) (by kernel_rfl) (by kernel_rfl) (fun _ _ _ h => h) (Or.inl ⟨by rfl, by intro W' hSw; (try dsimp only at hSw); go_simp⟩) hS0 ?_
          simp only [Act.put, List.setIfInBounds_toArray, List.set_cons_zero, List.set_cons_succ]
          refine anyR_take (i := 3) (v := .int .u64 (q : Int)) rfl (by decide) (by kernel_rfl) (by kernel_rfl) (by kernel_rfl) (by kernel_rfl) (fun _ _ _ h => h) (Or.inl ⟨by rfl, by intro W' hSw; (try dsimp only at hSw); go_simp⟩) hS0 ?_
          simp only [Act.put, List.setIfInBounds_toArray, List.set_cons_zero, List.set_cons_succ]
          refine anyR_take (i := 4) (v := .pointer (some ⟨W6.heap.size, 0, none⟩)) rfl (by decide) (by kernel_rfl) (by kernel_rfl) (by kernel_rfl) (by kernel_rfl) (fun _ _ _ h => h) (Or.inl ⟨by rfl, by intro W' hSw; (try dsimp only at hSw); go_simp⟩) hS0 ?_
          simp only [Act.put, List.setIfInBounds_toArray, List.set_cons_zero, List.set_cons_succ]
          refine anyR_take (i := 5) (v := .int .i64 (p2 : Int)) rfl (by decide) (by kernel_rfl) (by kernel_rfl) (by kernel_rfl) (by kernel_rfl) (fun _ _ _ h => h) (Or.inl ⟨by rfl, by intro W' hSw; (try dsimp only at hSw); go_simp⟩) hS0 ?_
          simp only [Act.put, List.setIfInBounds_toArray, List.set_cons_zero, List.set_cons_succ]
          refine anyR_take (i := 6) (v := .int .u64 (2 ^ p2)) rfl (by decide) (by kernel_rfl) (by kernel_rfl) (by kernel_rfl) (by kernel_rfl) (fun _ _ _ h => h) (Or.inl ⟨by rfl, by intro W' hSw; (try dsimp only at hSw); go_simp⟩) hS0 ?_
          simp only [Act.put, List.setIfInBounds_toArray, List.set_cons_zero, List.set_cons_succ]
          refine anyR_take (i := 7) (v := .int .u64 ((q ||| 2 ^ p2 : Nat) : Int)) rfl (by decide) (by kernel_rfl) (by kernel_rfl) (by kernel_rfl) (by kernel_rfl) (fun _ _ _ h => h) (Or.inl ⟨by rfl, by intro W' hSw; (try dsimp only at hSw); go_simp⟩) hS0 ?_
          simp only [Act.put, List.setIfInBounds_toArray, List.set_cons_zero, List.set_cons_succ]
          refine anyR_take (i := 8) (v := .agg #[.int .i64 (p2 : Int), .bool t2, .int .u64 ((q ||| 2 ^ p2 : Nat) : Int)]) rfl (by decide) (by kernel_rfl) (by kernel_rfl) (by kernel_rfl) (by kernel_rfl) (fun _ _ _ h => h) (Or.inl ⟨by rfl, by intro W' hSw; (try dsimp only at hSw); go_simp⟩) hS0 ?_
          simp only [Act.put, List.setIfInBounds_toArray, List.set_cons_zero, List.set_cons_succ]
          refine anyR_one (i := 9) (by kernel_rfl) rfl (by rfl) ?_
          intro K hK
          have HKK := Lib.hid hK
          clear hK hS0
          have hj9 : J ((pre.filter (can T ⟨x, q⟩)).map (goS ⟨x, q⟩)) W9.drew := HJa.out _ _ _ HI7.out.1 ((HK9.out.trans hkd).mono (fun k hk h => by have := hMl _ h; omega) |> fun _ => (HN9.out.mono (fun k _ e => e)).trans (Keeps.of_new (drew_b W9 1)))
          have hy0 := HY.out ((pre.filter (can T ⟨x, q⟩)).map (goS ⟨x, q⟩)) (goS ⟨x, q⟩ s) ((post.filter (can T ⟨x, q⟩)).map (goS ⟨x, q⟩)) W9.drew (by unfold nexts; rw [HXS.out]; simp [List.filter_append, List.filter_cons, Hcan.out]) (by have := HK9.out.size; have h7 := HB7.out.size; simp only [World.size_alloc] at h7; show W.heap.size ≤ W9.heap.size; omega) hj9 (m - 1)
          rw [HSE.out] at hy0
          obtain ⟨fn, tmps, assign, body, hy, hR⟩ := hy0
          clear hkd hj9 hbit hwr
          go_simp
          refine ⟨wide_d, RoundIn.mono hR ?_⟩
          rintro e W10 (⟨rfl, hj10, hk10⟩ | ⟨rfl, hj10, hk10⟩)
          · have hk11 : Keeps Mut W9 W10 := (Keeps.of_new (drew_b W9 1)).trans hk10
            have hS0 := HS.out W10 hk11
            refine HKK.out _ _ (fun _ _ => hS0) ?_
            have HJ10 := Lib.hid hj10
            have HK11 := Lib.hid hk11
            clear hj10 hk10 hk11 hy HKK K
            refine anyR_free (i := 10) (v := .bool false) rfl (by decide) (by kernel_rfl) (by kernel_rfl) (by kernel_rfl) (fun _ _ _ h => h) (Or.inl ⟨by rfl, by intro W' _; go_simp⟩) hS0 ?_
            simp only [Act.put, List.setIfInBounds_toArray, List.set_cons_zero, List.set_cons_succ]
            refine anyR_done (by kernel_rfl) ?_ _
            clear hS0
            gi_wp2_with fail
            exact ⟨HK9.out.trans HK11.out, by rw [List.filter_append, List.map_append, List.filter_cons, if_pos Hcan.out]; exact HJ10.out, (HI7.out.2.trans HK9.out).trans HK11.out⟩
          · have hk11 : Keeps Mut W9 W10 := (Keeps.of_new (drew_b W9 1)).trans hk10
            have hS0 := HS.out W10 hk11
            refine HKK.out _ _ (fun _ _ => hS0) ?_
            have HJ10 := Lib.hid hj10
            have HK11 := Lib.hid hk11
            clear hj10 hk10 hk11 hy HKK K
            refine anyR_free (i := 10) (v := .bool true) rfl (by decide) (by kernel_rfl) (by kernel_rfl) (by kernel_rfl) (fun _ _ _ h => h) (Or.inl ⟨by rfl, by intro W' _; go_simp⟩) hS0 ?_
            simp only [Act.put, List.setIfInBounds_toArray, List.set_cons_zero, List.set_cons_succ]
            refine anyR_done (by kernel_rfl) ?_ _
            clear hS0
            gi_wp2_with fail
            exact ⟨HK9.out.trans HK11.out, ⟨rfl, pre, s, rfl, Hcan.out⟩, by rw [List.filter_append, List.map_append, List.filter_cons, if_pos Hcan.out]; exact HJ10.out⟩
        | true =>
          gi_wp2_with fail
          refine ⟨trivial, wide_d, CallsIn.inRound l2 ((callsIn_wide.2 (fits44 X A n cap off lo hi T M Bb p p2 x s t t2 _ FB.out hX Hx.out Hps.out hx16 hs2)).mono ?_)⟩
          rintro e W9 ⟨rfl, hb9⟩
          have HK9 := Lib.hid (show Keeps Mut w8 W9 from Keeps.of_new hb9)
          have HN9 := Lib.hid (show Keeps (fun k => W.heap.size ≤ k) w8 W9 from Keeps.of_new hb9)
          clear c5 c4 c8 c9 s0 s1 hb9
          cases hT : T x s with
          | false =>
            have Hcan := Lib.hid (show can T ⟨x, q⟩ s = false by rw [Hcn.out, hT]; simp)
            clear htb hT
            gi_wp2_with fail
            exact ⟨HK9.out, by rw [List.filter_append, List.filter_cons, if_neg (by rw [Hcan.out]; simp)]; simpa using HJa.out _ _ _ HI7.out.1 HN9.out, HI7.out.2.trans HK9.out⟩
          | true =>
            have Hcan := Lib.hid (show can T ⟨x, q⟩ s = true by rw [Hcn.out, htb, hT]; rfl)
            clear htb hT
            gi_wp2_with fail
            have HS := Lib.hid (show ∀ W', Keeps Mut W9 W' → (fun W' => Keeps Mut W9 W' ∧ W'.cell? ⟨W.heap.size, 0, none⟩ = some (.func (.yield l) #[] #[]) ∧ W'.cell? ⟨W6.heap.size, 0, none⟩ = some (.int .i64 (p2 : Int)) ∧ W'.cell? ⟨W6.heap.size, 1, none⟩ = some (.bool t2) ∧ W'.cell? ⟨Bs, 2, none⟩ = some (.int .u64 (q : Int))) W' from fun W' hk => by
              have h1 := HK9.out.trans hk
              have e1 := two_cells ((h1.block _ (lt_of_block F8.out) (fun h => by have := hMl _ h; omega)).trans F8.out)
              refine ⟨hk, ?_, e1.1, e1.2, ?_⟩
              · rw [cell_row ((h1.block _ (lt_of_block F3.out) (fun h => by have := hMl _ h; omega)).trans F3.out)]; rfl
              · rw [cell_row ((h1.block _ (lt_of_block FS.out) hMS).trans FS.out)]; rfl)
            refine region_R (z := 11) (S := (fun W' => Keeps Mut W9 W' ∧ W'.cell? ⟨W.heap.size, 0, none⟩ = some (.func (.yield l) #[] #[]) ∧ W'.cell? ⟨W6.heap.size, 0, none⟩ = some (.int .i64 (p2 : Int)) ∧ W'.cell? ⟨W6.heap.size, 1, none⟩ = some (.bool t2) ∧ W'.cell? ⟨Bs, 2, none⟩ = some (.int .u64 (q : Int)))) (by kernel_rfl) ?_
            have hkd : Keeps Mut W9 W9.drew := Keeps.of_new (drew_b W9 1)
            have hS0 := HS.out W9.drew hkd
            have ip0 : (0 : Int) ≤ (p2 : Int) := by omega
            have ip1 : (p2 : Int) < 8 := by omega
            have hbit := bit_or hq hp2
            have hwr := wrap_pow hp2
            refine anyR_take (i := 0) (v := .func (.yield l) #[] #[]) rfl (by decide) (by kernel_rfl) (by kernel_rfl) (by kernel_rfl) (by kernel_rfl) (fun _ _ _ h => h) (Or.inl ⟨by rfl, by intro W' hSw; (try dsimp only at hSw); go_simp⟩) hS0 ?_
            simp only [Act.put, List.setIfInBounds_toArray, List.set_cons_zero, List.set_cons_succ]
            refine anyR_take (i := 1) (v := .agg #[.int .i64 (p2 : Int), .bool t2]) rfl (by decide) (by kernel_rfl) (by kernel_rfl) (by kernel_rfl) (by kernel_rfl) (fun _ _ _ h => h) (Or.inl ⟨by rfl, by intro W' hSw; (try dsimp only at hSw); go_simp⟩) hS0 ?_
            simp only [Act.put, List.setIfInBounds_toArray, List.set_cons_zero, List.set_cons_succ]
            refine anyR_take (i := 2) (v := .pointer (some ⟨Bs, 2, none⟩)) rfl (by decide) (by kernel_rfl) (by kernel_rfl) (by kernel_rfl) (by kernel_rfl) (fun _ _ _ h => h) (Or.inl ⟨by rfl, by intro W' hSw; (try dsimp only at hSw); go_simp⟩) hS0 ?_
            simp only [Act.put, List.setIfInBounds_toArray, List.set_cons_zero, List.set_cons_succ]
            refine anyR_take (i := 3) (v := .int .u64 (q : Int)) rfl (by decide) (by kernel_rfl) (by kernel_rfl) (by kernel_rfl) (by kernel_rfl) (fun _ _ _ h => h) (Or.inl ⟨by rfl, by intro W' hSw; (try dsimp only at hSw); go_simp⟩) hS0 ?_
            simp only [Act.put, List.setIfInBounds_toArray, List.set_cons_zero, List.set_cons_succ]
            refine anyR_take (i := 4) (v := .pointer (some ⟨W6.heap.size, 0, none⟩)) rfl (by decide) (by kernel_rfl) (by kernel_rfl) (by kernel_rfl) (by kernel_rfl) (fun _ _ _ h => h) (Or.inl ⟨by rfl, by intro W' hSw; (try dsimp only at hSw); go_simp⟩) hS0 ?_
            simp only [Act.put, List.setIfInBounds_toArray, List.set_cons_zero, List.set_cons_succ]
            refine anyR_take (i := 5) (v := .int .i64 (p2 : Int)) rfl (by decide) (by kernel_rfl) (by kernel_rfl) (by kernel_rfl) (by kernel_rfl) (fun _ _ _ h => h) (Or.inl ⟨by rfl, by intro W' hSw; (try dsimp only at hSw); go_simp⟩) hS0 ?_
            simp only [Act.put, List.setIfInBounds_toArray, List.set_cons_zero, List.set_cons_succ]
            refine anyR_take (i := 6) (v := .int .u64 (2 ^ p2)) rfl (by decide) (by kernel_rfl) (by kernel_rfl) (by kernel_rfl) (by kernel_rfl) (fun _ _ _ h => h) (Or.inl ⟨by rfl, by intro W' hSw; (try dsimp only at hSw); go_simp⟩) hS0 ?_
            simp only [Act.put, List.setIfInBounds_toArray, List.set_cons_zero, List.set_cons_succ]
            refine anyR_take (i := 7) (v := .int .u64 ((q ||| 2 ^ p2 : Nat) : Int)) rfl (by decide) (by kernel_rfl) (by kernel_rfl) (by kernel_rfl) (by kernel_rfl) (fun _ _ _ h => h) (Or.inl ⟨by rfl, by intro W' hSw; (try dsimp only at hSw); go_simp⟩) hS0 ?_
            simp only [Act.put, List.setIfInBounds_toArray, List.set_cons_zero, List.set_cons_succ]
            refine anyR_take (i := 8) (v := .agg #[.int .i64 (p2 : Int), .bool t2, .int .u64 ((q ||| 2 ^ p2 : Nat) : Int)]) rfl (by decide) (by kernel_rfl) (by kernel_rfl) (by kernel_rfl) (by kernel_rfl) (fun _ _ _ h => h) (Or.inl ⟨by rfl, by intro W' hSw; (try dsimp only at hSw); go_simp⟩) hS0 ?_
            simp only [Act.put, List.setIfInBounds_toArray, List.set_cons_zero, List.set_cons_succ]
            refine anyR_one (i := 9) (by kernel_rfl) rfl (by rfl) ?_
            intro K hK
            have HKK := Lib.hid hK
            clear hK hS0
            have hj9 : J ((pre.filter (can T ⟨x, q⟩)).map (goS ⟨x, q⟩)) W9.drew := HJa.out _ _ _ HI7.out.1 ((HK9.out.trans hkd).mono (fun k hk h => by have := hMl _ h; omega) |> fun _ => (HN9.out.mono (fun k _ e => e)).trans (Keeps.of_new (drew_b W9 1)))
            have hy0 := HY.out ((pre.filter (can T ⟨x, q⟩)).map (goS ⟨x, q⟩)) (goS ⟨x, q⟩ s) ((post.filter (can T ⟨x, q⟩)).map (goS ⟨x, q⟩)) W9.drew (by unfold nexts; rw [HXS.out]; simp [List.filter_append, List.filter_cons, Hcan.out]) (by have := HK9.out.size; have h7 := HB7.out.size; simp only [World.size_alloc] at h7; show W.heap.size ≤ W9.heap.size; omega) hj9 (m - 1)
            rw [HSE.out] at hy0
            obtain ⟨fn, tmps, assign, body, hy, hR⟩ := hy0
            clear hkd hj9 hbit hwr
            go_simp
            refine ⟨wide_d, RoundIn.mono hR ?_⟩
            rintro e W10 (⟨rfl, hj10, hk10⟩ | ⟨rfl, hj10, hk10⟩)
            · have hk11 : Keeps Mut W9 W10 := (Keeps.of_new (drew_b W9 1)).trans hk10
              have hS0 := HS.out W10 hk11
              refine HKK.out _ _ (fun _ _ => hS0) ?_
              have HJ10 := Lib.hid hj10
              have HK11 := Lib.hid hk11
              clear hj10 hk10 hk11 hy HKK K
              refine anyR_free (i := 10) (v := .bool false) rfl (by decide) (by kernel_rfl) (by kernel_rfl) (by kernel_rfl) (fun _ _ _ h => h) (Or.inl ⟨by rfl, by intro W' _; go_simp⟩) hS0 ?_
              simp only [Act.put, List.setIfInBounds_toArray, List.set_cons_zero, List.set_cons_succ]
              refine anyR_done (by kernel_rfl) ?_ _
              clear hS0
              gi_wp2_with fail
              exact ⟨HK9.out.trans HK11.out, by rw [List.filter_append, List.map_append, List.filter_cons, if_pos Hcan.out]; exact HJ10.out, (HI7.out.2.trans HK9.out).trans HK11.out⟩
            · have hk11 : Keeps Mut W9 W10 := (Keeps.of_new (drew_b W9 1)).trans hk10
              have hS0 := HS.out W10 hk11
              refine HKK.out _ _ (fun _ _ => hS0) ?_
              have HJ10 := Lib.hid hj10
              have HK11 := Lib.hid hk11
              clear hj10 hk10 hk11 hy HKK K
              refine anyR_free (i := 10) (v := .bool true) rfl (by decide) (by kernel_rfl) (by kernel_rfl) (by kernel_rfl) (fun _ _ _ h => h) (Or.inl ⟨by rfl, by intro W' _; go_simp⟩) hS0 ?_
              simp only [Act.put, List.setIfInBounds_toArray, List.set_cons_zero, List.set_cons_succ]
              refine anyR_done (by kernel_rfl) ?_ _
              clear hS0
              gi_wp2_with fail
              exact ⟨HK9.out.trans HK11.out, ⟨rfl, pre, s, rfl, Hcan.out⟩, by rw [List.filter_append, List.map_append, List.filter_cons, if_pos Hcan.out]; exact HJ10.out⟩
end Go.Proofs.Ytfmcfalghbaanaa
