/- Stage 2: lay: a cylinder with its table. -/
import Derived.Test.YtfmcfalghbaanaaMeet
import Derived.Laws.ResultCell
import Derived.Test.YtfmcfalghbaanaaRnd
namespace Go.Proofs.Ytfmcfalghbaanaa
set_option linter.unusedSimpArgs false
set_option linter.unusedVariables false
open Go.RowKit Go.Shelf

/-- An operation on two values. -/
def runV (P : Program) (o : Oper) (p v : Value) (W : World) : Result Next := (execOp (fun x => match x with | .tmp 0 => p | _ => v) o).run P W
def st (t : TypeId) : Oper := { dst := none, op := Op.store t (.tmp 0) (.tmp 1), type := t, pos := "", after := #[], guard := none }
def bd : Oper := { dst := none, op := Op.build 78 #[(0, .tmp 0), (2, .tmp 1)], type := 78, pos := "", after := #[], guard := none }
theorem exec_store78 (ρ : Operand → Value) (d : Option Tmp) (x y : Operand) (ty : TypeId) (pos : String) (af : Array Edge) (g : Option (Nat × Bool)) (W : World) :
    (execOp ρ { dst := d, op := Op.store 78 x y, type := ty, pos := pos, after := af, guard := g }).run Try.prog W = runV Try.prog (st 78) (ρ x) (ρ y) W := rfl
theorem exec_build78 (ρ : Operand → Value) (d : Option Tmp) (x y : Operand) (ty : TypeId) (pos : String) (af : Array Edge) (g : Option (Nat × Bool)) (W : World) :
    (execOp ρ { dst := d, op := Op.build 78 #[(0, x), (2, y)], type := ty, pos := pos, after := af, guard := g }).run Try.prog W = runV Try.prog bd (ρ x) (ρ y) W := by kernel_rfl
theorem exec_build0 (ρ : Operand → Value) (d : Option Tmp) (ty : TypeId) (pos : String) (af : Array Edge) (g : Option (Nat × Bool)) (W : World) :
    (execOp ρ { dst := d, op := Op.build 78 #[], type := ty, pos := pos, after := af, guard := g }).run Try.prog W = .ok (.value (.agg Try.zeroCells78)) W := by kernel_rfl

theorem setRow_same {W : World} {B : Nat} {Y : Array Value} {t : TypeId} {fr : Nat × Nat} (X : Array Value) (h : W.heap[B]? = some (.cells Y t fr)) : (W.setRow B X).heap[B]? = some (.cells X t fr) := by
  simp [World.setRow, Array.getElem?_modify, h]
theorem keeps_setRow (W : World) (B : Nat) (X : Array Value) : Keeps (fun k => k = B) W (W.setRow B X) :=
  ⟨rfl, rfl, rfl, by simp [World.setRow], fun k _ hk => by simp [World.setRow, Array.getElem?_modify, Ne.symm hk]⟩
theorem setRow_size (W : World) (B : Nat) (X : Array Value) : (W.setRow B X).heap.size = W.heap.size := by simp [World.setRow]
theorem run_st78 {W : World} {B : Nat} {X Y : Array Value} {t : TypeId} (h : W.heap[B]? = some (.cells Y t (0, 0))) (hY : Y.size = 261) (hX : X.size = 261) (h1 : X.all (·.oneCell') = true) :
    runV Try.prog (st 78) (.pointer (some ⟨B, 0, none⟩)) (.agg X) W = .ok .skip (W.setRow B X) := by
  have h2 : (storeVar 78 ⟨B, 0, none⟩ (.agg X)).run Try.prog W = .ok () (W.setRow B X) := run_storeVar_row W B t 78 Y X h (by rw [hX]; kernel_rfl) (by omega) h1
  unfold runV st
  simp only [execOp, Instr.storeAt, Instr.sureAddr, Sem.run_bind, Sem.run_pure, Result.andThen_ok, h2]
/-- A new board. -/
def X0 (A : Option Addr) (n cap : Nat) (off lo hi : Int) (M : Nat) : Array Value := #[.slice A n cap, .int .i64 off, .int .i64 lo, .int .i64 hi] ++ Array.replicate 256 (.bool false) ++ #[.map (some M)]
theorem zero78 : Try.zeroCells78 = #[.slice none 0 0, .int .i64 0, .int .i64 0, .int .i64 0] ++ Array.replicate 256 (.bool false) ++ #[.map none] := by kernel_rfl
theorem run_bd (A : Option Addr) (n cap : Nat) (off lo hi : Int) (M : Nat) (W : World) :
    runV Try.prog bd (.agg #[.slice A n cap, .int .i64 off, .int .i64 lo, .int .i64 hi]) (.map (some M)) W = .ok (.value (.agg (X0 A n cap off lo hi M))) W := by
  kernel_rfl
theorem x0_brd (A : Option Addr) (n cap : Nat) (off lo hi : Int) (M : Nat) : Brd (X0 A n cap off lo hi M) A n cap off lo hi (fun _ _ => false) M := by
  unfold X0
  refine ⟨by simp, by simp, by simp, by simp, by simp, fun i j hi hj => ?_, ?_⟩
  · rw [Array.getElem?_append_left (by simp; omega), Array.getElem?_append_right (by simp; omega)]
    have h1 : 4 + i * 16 + j - 4 < 256 := by omega
    simp [h1]
  · rw [Array.getElem?_append_right (by simp)]
    simp
theorem zero_size : Try.zeroCells78.size = 261 := by rw [zero78]; simp
theorem zero_one : Try.zeroCells78.all (·.oneCell') = true := by kernel_rfl
theorem Brd.one {X : Array Value} {A : Option Addr} {n cap : Nat} {off lo hi : Int} {T : Nat → Nat → Bool} {M : Nat} (h : Brd X A n cap off lo hi T M) : X.all (·.oneCell') = true := by
  rw [Array.all_eq_true]
  intro i hi
  have hs := h.size
  have e : X[i]? = some X[i] := by simp [hi]
  rcases (by omega : i = 0 ∨ i = 1 ∨ i = 2 ∨ i = 3 ∨ i = 260 ∨ (4 ≤ i ∧ i < 260)) with rfl | rfl | rfl | rfl | rfl | h4
  · rw [h.c0] at e; rw [← Option.some.inj e]; rfl
  · rw [h.c1] at e; rw [← Option.some.inj e]; rfl
  · rw [h.c2] at e; rw [← Option.some.inj e]; rfl
  · rw [h.c3] at e; rw [← Option.some.inj e]; rfl
  · rw [h.map] at e; rw [← Option.some.inj e]; rfl
  · have := h.tab ((i - 4) / 16) ((i - 4) % 16) (by omega) (by omega)
    rw [show 4 + (i - 4) / 16 * 16 + (i - 4) % 16 = i by omega, e] at this
    rw [Option.some.inj this]; rfl
/-- One cell of the table is set. -/
theorem Brd.set {X : Array Value} {A : Option Addr} {n cap : Nat} {off lo hi : Int} {T : Nat → Nat → Bool} {M : Nat} (h : Brd X A n cap off lo hi T M) (i j : Nat) (hi2 : i < 16) (hj : j < 16) (v : Bool) :
    Brd (X.setIfInBounds (4 + i * 16 + j) (.bool v)) A n cap off lo hi (fun a b => if a = i ∧ b = j then v else T a b) M := by
  refine ⟨by simp [h.size], ?_, ?_, ?_, ?_, fun a b ha hb => ?_, ?_⟩
  · rw [Array.getElem?_setIfInBounds_ne (by omega)]; exact h.c0
  · rw [Array.getElem?_setIfInBounds_ne (by omega)]; exact h.c1
  · rw [Array.getElem?_setIfInBounds_ne (by omega)]; exact h.c2
  · rw [Array.getElem?_setIfInBounds_ne (by omega)]; exact h.c3
  · by_cases e : a = i ∧ b = j
    · obtain ⟨rfl, rfl⟩ := e
      rw [if_pos ⟨rfl, rfl⟩, Array.getElem?_setIfInBounds_self_of_lt (by have := h.size; omega)]
    · rw [if_neg e, Array.getElem?_setIfInBounds_ne (by omega)]
      exact h.tab a b ha hb
  · rw [Array.getElem?_setIfInBounds_ne (by omega)]; exact h.map
theorem at_plain (r : Option Nat) (ρ : Operand → Value) (o : Oper) (h : ∀ c, o.op ≠ .defer c) : Oper.semAt r ρ o = execOp ρ o := by
  cases r with
  | none => rfl
  | some l => exact Oper.semAt_some l ρ o h
theorem at_load78 (r : Option Nat) (ρ : Operand → Value) (d : Option Tmp) (x : Operand) (ty : TypeId) (pos : String) (af : Array Edge) (g : Option (Nat × Bool)) (W : World) :
    (Oper.semAt r ρ { dst := d, op := Op.load 78 x, type := ty, pos := pos, after := af, guard := g }).run Try.prog W = runO Try.prog (ld 78) (ρ x) W := by
  rw [at_plain _ _ _ (fun c => by simp)]; exact exec_load78 ρ d x ty pos af g W
theorem at_store78 (r : Option Nat) (ρ : Operand → Value) (d : Option Tmp) (x y : Operand) (ty : TypeId) (pos : String) (af : Array Edge) (g : Option (Nat × Bool)) (W : World) :
    (Oper.semAt r ρ { dst := d, op := Op.store 78 x y, type := ty, pos := pos, after := af, guard := g }).run Try.prog W = runV Try.prog (st 78) (ρ x) (ρ y) W := by
  rw [at_plain _ _ _ (fun c => by simp)]; exact exec_store78 ρ d x y ty pos af g W
theorem at_build78 (r : Option Nat) (ρ : Operand → Value) (d : Option Tmp) (x y : Operand) (ty : TypeId) (pos : String) (af : Array Edge) (g : Option (Nat × Bool)) (W : World) :
    (Oper.semAt r ρ { dst := d, op := Op.build 78 #[(0, x), (2, y)], type := ty, pos := pos, after := af, guard := g }).run Try.prog W = runV Try.prog bd (ρ x) (ρ y) W := by
  rw [at_plain _ _ _ (fun c => by simp)]; exact exec_build78 ρ d x y ty pos af g W
theorem at_build0 (r : Option Nat) (ρ : Operand → Value) (d : Option Tmp) (ty : TypeId) (pos : String) (af : Array Edge) (g : Option (Nat × Bool)) (W : World) :
    (Oper.semAt r ρ { dst := d, op := Op.build 78 #[], type := ty, pos := pos, after := af, guard := g }).run Try.prog W = .ok (.value (.agg Try.zeroCells78)) W := by
  rw [at_plain _ _ _ (fun c => by simp)]; exact exec_build0 ρ d ty pos af g W
end Go.Proofs.Ytfmcfalghbaanaa

namespace Go.Proofs.Ytfmcfalghbaanaa
set_option linter.unusedSimpArgs false
set_option linter.unusedVariables false
open Go.RowKit Go.Shelf
attribute [local go_sem] Oper.semAt_some
attribute [local go_sem ↓] exec_load78
attribute [local go_sem ↓] exec_store78
attribute [local go_sem ↓] exec_build78
attribute [local go_sem ↓] exec_build0
attribute [local go_sem ↓] at_load78
attribute [local go_sem ↓] at_store78
attribute [local go_sem ↓] at_build78
attribute [local go_sem ↓] at_build0

theorem res42 {tmps : Array Value} {W : World} {B : Nat} {X : Array Value} {t : TypeId} {v : Value} (h2 : tmps.getD 2 undef = .pointer (some ⟨B, 0, none⟩)) (h3 : tmps.getD 3 undef = v) (hb : W.heap[B]? = some (.cells X t (0, 0))) (hs : X.size = 261) :
    (results Try.f42 tmps).run Try.prog W = .ok (.tuple #[.agg X, v]) W := by
  rw [results_cell_tmp (fn := Try.f42) rfl, h2, h3, show (asAddr (.pointer (some ⟨B, 0, none⟩))).run Try.prog W = .ok ⟨B, 0, none⟩ W from rfl, Result.andThen_ok, run_loadVar_row W B t 78 X (0, 0) _ hb Try.underlying78 rfl (by rw [hs]; kernel_rfl)]
  rfl

set_option maxRecDepth 100000 in
set_option maxHeartbeats 1000000 in
theorem lay42_bad (A : Option Addr) (n cap : Nat) (off lo hi : Int) (ps : List Pc) (w : World) (h : Pcs w A n ps) (hn : n ≤ 9223372036854775807) (he : chkC ⟨ps, off, ⟨lo, hi⟩⟩ ≠ 0) :
    Calls Try.prog 42 #[cyl A n cap off lo hi] w fun e w' => e = .returned (.tuple #[.agg Try.zeroCells78, .int .i64 (chkC ⟨ps, off, ⟨lo, hi⟩⟩)]) ∧ Below w.heap.size w w' := by
  have X := Cx.new (cap := cap) (off := off) (lo := lo) (hi := hi) h
  unfold cyl
  have X1 := X.next (below_alloc_ _ (.cells Try.zeroCells78 78))
  have hz : ((w.alloc (.cells #[.slice A n cap, .int .i64 off, .int .i64 lo, .int .i64 hi] 26)).alloc (.cells Try.zeroCells78 78)).heap[w.heap.size + 1]? = some (.cells Try.zeroCells78 78 (0, 0)) := hal_new (by simp)
  obtain ⟨c0, c1, c2, c3, l0⟩ := X1.c
  have Hn := Lib.hid hn
  go_enter Try.func42, Try.ntmps42
  go_wp2_with fail
  refine (checkCyl16 A n cap off lo hi ps _ X1.pcs Hn.out).mono ?_
  rintro e w2 ⟨rfl, hb⟩
  have X2 := X1.next hb
  have hz2 := (hb.block _ (lt_of_block hz)).trans hz
  have Hz := Lib.hid hz2
  have hst := run_st78 hz2 zero_size zero_size zero_one
  have d : (chkC ⟨ps, off, ⟨lo, hi⟩⟩ != 0) = true := by rw [bne_iff_ne]; exact he
  clear c0 c1 c2 c3 l0 X X1 hb hz hz2 he h hn
  go_wp2_with fail
  exact bodyPost_ret (v := .tuple #[.agg Try.zeroCells78, .int .i64 (chkC ⟨ps, off, ⟨lo, hi⟩⟩)]) (res42 rfl rfl (setRow_same _ Hz.out) zero_size) rfl ⟨rfl, X2.below.trans ((keeps_setRow _ _ _).below X2.below.size (fun k hk e => by omega))⟩

/-- The codes of two steps, whether the one fits behind the other one. -/
def stC (c : Nat) : St := ⟨((c / 2 : Nat) : Int), decide (c % 2 = 1)⟩
def fitC (c : Cy) (i j : Nat) : Bool := fitsB c (stC i) (stC j)
/-- The table of a cylinder. -/
def tabOf (c : Cy) (i j : Nat) : Bool := decide (i ∈ codesL c.ps) && decide (j ∈ codesL c.ps) && fitC c i j

theorem stE_form (x : Nat) : ∃ (p : Nat) (t : Bool), stE x = #[.agg #[.int .i64 (p : Int), .bool t]] ∧ stC x = ⟨(p : Int), t⟩ ∧ x = (if t then 2 * p + 1 else 2 * p) := by
  refine ⟨x / 2, decide (x % 2 = 1), rfl, rfl, ?_⟩
  by_cases h : x % 2 = 1
  · rw [decide_eq_true h, if_pos rfl]; omega
  · rw [decide_eq_false h, if_neg (by simp)]; omega
theorem code_of (p : Nat) (t : Bool) {x : Nat} (hx : x = if t then 2 * p + 1 else 2 * p) : codeN ⟨(p : Int), t⟩ = (x : Int) := by
  subst hx
  cases t <;> simp [codeN]
theorem keeps_abides {Mut : Nat → Prop} {W0 : World} {B0 : Nat} (h : W0.heap.size ≤ B0) : Abides B0 (Keeps Mut W0) := fun W W' hK hK' =>
  ⟨hK'.os.trans hK.os, hK'.tape.trans hK.tape, hK'.output.trans hK.output, Nat.le_trans hK.size hK'.size, fun k hk hm => (hK'.block k (Nat.lt_of_lt_of_le hk hK.size) (by omega)).trans (hK.block k hk hm)⟩
theorem block_abides {b B0 : Nat} {x : Option Obj} (h : b < B0) : Abides B0 (fun W => W.heap[b]? = x ∧ b < W.heap.size) := fun W W' hx hK =>
  ⟨(hK.block b hx.2 (by omega)).trans hx.1, Nat.lt_of_lt_of_le hx.2 hK.size⟩
theorem two_cells {W : World} {k : Nat} {u v : Value} {t : TypeId} (h : W.heap[k]? = some (.cells #[u, v] t (0, 0))) : W.cell? ⟨k, 0, none⟩ = some u ∧ W.cell? ⟨k, 1, none⟩ = some v := ⟨by rw [cell_row h]; rfl, by rw [cell_row h]; rfl⟩

theorem keeps_setCell (W : World) (b o : Nat) (v : Value) : Keeps (fun k => k = b) W (W.setCell ⟨b, o, none⟩ v) :=
  ⟨rfl, rfl, rfl, by simp [World.setCell], fun k _ hk => Below.heap_setCell _ _ _ _ hk⟩
theorem eq_le {a b : Nat} (h : a = b) : a ≤ b ∧ b ≤ a := ⟨by omega, by omega⟩
theorem wide_d {m : Nat} : Fence.wide.depth.isSome = true → 1 ≤ m := fun h => by simp [Fence.wide] at h

/-- What a loop of lay keeps. -/
structure LI (w : World) (b1 B M : Nat) (A : Option Addr) (n cap : Nat) (off lo hi : Int) (T : Nat → Nat → Bool) (W : World) : Prop where
  row : ∃ Y, W.heap[B]? = some (.cells Y 78 (0, 0)) ∧ Brd Y A n cap off lo hi T M
  mp : W.heap[M]? = some (.map #[] 0)
  rz : W.heap[b1]? = some (.cells Try.zeroCells78 78 (0, 0))
  below : Below w.heap.size w W
theorem LI.keep {w : World} {b1 B M : Nat} {A : Option Addr} {n cap : Nat} {off lo hi : Int} {T : Nat → Nat → Bool} {W W' : World} {Mut : Nat → Prop} (h : LI w b1 B M A n cap off lo hi T W) (hK : Keeps Mut W W') (h1 : ¬ Mut b1) (h2 : ¬ Mut B) (h3 : ¬ Mut M) (h4 : ∀ k, k < w.heap.size → ¬ Mut k) : LI w b1 B M A n cap off lo hi T W' := by
  obtain ⟨Y, hY, hB⟩ := h.row
  exact ⟨⟨Y, (hK.block _ (lt_of_block hY) h2).trans hY, hB⟩, (hK.block _ (lt_of_block h.mp) h3).trans h.mp, (hK.block _ (lt_of_block h.rz) h1).trans h.rz, h.below.trans (hK.below h.below.size h4)⟩
theorem LI.next {w : World} {b1 B M : Nat} {A : Option Addr} {n cap : Nat} {off lo hi : Int} {T : Nat → Nat → Bool} {W W' : World} (h : LI w b1 B M A n cap off lo hi T W) (hb : Below W.heap.size W W') : LI w b1 B M A n cap off lo hi T W' :=
  h.keep (Mut := fun _ => False) (Keeps.of_new hb) (fun e => e) (fun e => e) (fun e => e) (fun _ _ e => e)
theorem LI.abides {w : World} {b1 B M B0 : Nat} {A : Option Addr} {n cap : Nat} {off lo hi : Int} {T : Nat → Nat → Bool} (h1 : b1 < B0) (h2 : B < B0) (h3 : M < B0) (h4 : w.heap.size ≤ B0) : Abides B0 (LI w b1 B M A n cap off lo hi T) :=
  fun W W' h hK => h.keep hK (by omega) (by omega) (by omega) (fun k hk => by omega)
/-- The table after the rows of some steps. -/
def tabI (c : Cy) (pre : List Nat) (i j : Nat) : Bool := decide (i ∈ pre) && decide (j ∈ codesL c.ps) && fitC c i j
/-- .. and of one more step, up to some columns. -/
def tabJ (c : Cy) (pre : List Nat) (x : Nat) (pre2 : List Nat) (i j : Nat) : Bool := (decide (i ∈ pre) && decide (j ∈ codesL c.ps) || decide (i = x) && decide (j ∈ pre2)) && fitC c i j

/-- What lay returns of a valid cylinder: a board with its table, and a new map. -/
def LayPost (w : World) (A : Option Addr) (n cap : Nat) (off lo hi : Int) (ps : List Pc) (e : Ending) (w' : World) : Prop :=
  ∃ X M, e = .returned (.tuple #[.agg X, .int .i64 0]) ∧ Brd X A n cap off lo hi (tabOf ⟨ps, off, ⟨lo, hi⟩⟩) M ∧ w'.heap[M]? = some (.map #[] 0) ∧ w.heap.size ≤ M ∧ Below w.heap.size w w'
set_option maxRecDepth 100000 in
set_option maxHeartbeats 1000000 in
theorem lay42_ok (A : Option Addr) (n cap : Nat) (off lo hi : Int) (ps : List Pc) (w : World) (h : Pcs w A n ps) (hn : n ≤ 9223372036854775807) (he : chkC ⟨ps, off, ⟨lo, hi⟩⟩ = 0) :
    Calls Try.prog 42 #[cyl A n cap off lo hi] w (LayPost w A n cap off lo hi ps) := by
  have X := Cx.new (cap := cap) (off := off) (lo := lo) (hi := hi) h
  have hmm := @run_makeMap Try.prog
  unfold cyl
  have X1 := X.next (below_alloc_ _ (.cells Try.zeroCells78 78))
  have hz : ((w.alloc (.cells #[.slice A n cap, .int .i64 off, .int .i64 lo, .int .i64 hi] 26)).alloc (.cells Try.zeroCells78 78)).heap[w.heap.size + 1]? = some (.cells Try.zeroCells78 78 (0, 0)) := hal_new (by simp)
  obtain ⟨c0, c1, c2, c3, l0⟩ := X1.c
  have Hn := Lib.hid hn
  have He := Lib.hid he
  have Hp := Lib.hid h
  refine (callsIn_wide (n := 5)).1 ?_
  refine callsIn_of_wp_marks Try.func42 rfl trivial ?_ rfl
  simp only [Try.ntmps42, List.size_toArray, List.length_cons, List.length_nil, Nat.reduceAdd, Nat.reduceSub, Array.replicate_succ, Array.replicate_zero, List.push_toArray, List.append_toArray, List.nil_append, List.cons_append]
  clear he
  gi_wp2_with fail
  refine ⟨trivial, (callsIn_wide.2 (checkCyl16 A n cap off lo hi ps _ X1.pcs Hn.out)).mono ?_⟩
  rintro e w2 ⟨rfl, hb⟩
  rw [He.out]
  have X2 := X1.next hb
  have hz2 := (hb.block _ (lt_of_block hz)).trans hz
  have Hz := Lib.hid hz2
  clear c0 c1 c2 c3 l0 X X1 hb hz hz2 h hn
  obtain ⟨c0, c1, c2, c3, l0⟩ := X2.c
  have hbd := run_bd A n cap off lo hi w2.heap.size
  have hst := run_st78 (W := (w2.alloc (.map #[] 0)).alloc (.cells Try.zeroCells78 78)) (B := w2.heap.size + 1) (X := X0 A n cap off lo hi w2.heap.size) (hal_new (by simp)) zero_size (x0_brd A n cap off lo hi w2.heap.size).size (x0_brd A n cap off lo hi w2.heap.size).one
  have h5 := run_ld78 (setRow_same (X0 A n cap off lo hi w2.heap.size) (W := (w2.alloc (.map #[] 0)).alloc (.cells Try.zeroCells78 78)) (B := w2.heap.size + 1) (hal_new (by simp))) (x0_brd A n cap off lo hi w2.heap.size).size
  gi_wp2_with fail
  refine ⟨trivial, (callsIn_wide.2 (steps57 _ _)).mono ?_⟩
  rintro e w3 ⟨rfl, rfl⟩
  have hI0 : LI w (w.heap.size + 1) (w2.heap.size + 1) w2.heap.size A n cap off lo hi (fun _ _ => false) (((w2.alloc (.map #[] 0)).alloc (.cells Try.zeroCells78 78)).setRow (w2.heap.size + 1) (X0 A n cap off lo hi w2.heap.size)) := by
    have hk : Keeps (fun k => w2.heap.size ≤ k) w2 (((w2.alloc (.map #[] 0)).alloc (.cells Try.zeroCells78 78)).setRow (w2.heap.size + 1) (X0 A n cap off lo hi w2.heap.size)) :=
      ((keep_alloc _ _ _).trans (keep_alloc _ _ _)).trans ((keeps_setRow _ _ _).mono (fun k _ e => by omega))
    refine ⟨⟨_, setRow_same _ (hal_new (by simp)), x0_brd _ _ _ _ _ _ _⟩, ?_, (hk.block _ (lt_of_block Hz.out) (by have := lt_of_block Hz.out; omega)).trans Hz.out, X2.below.trans (hk.below X2.below.size (fun k h => by have := X2.below.size; omega))⟩
    exact ((keeps_setRow _ _ _).block _ (by simp; omega) (by omega)).trans (hal_old (heap_alloc_new_ _ _))
  have hr0 := setRow_same (X0 A n cap off lo hi w2.heap.size) (W := (w2.alloc (.map #[] 0)).alloc (.cells Try.zeroCells78 78)) (B := w2.heap.size + 1) (fr := (0, 0)) (t := 78) (hal_new (by simp))
  have hsz : (((w2.alloc (.map #[] 0)).alloc (.cells Try.zeroCells78 78)).setRow (w2.heap.size + 1) (X0 A n cap off lo hi w2.heap.size)).heap.size = w2.heap.size + 2 := by rw [setRow_size]; simp
  obtain ⟨V, hV⟩ : ∃ V, ((w2.alloc (.map #[] 0)).alloc (.cells Try.zeroCells78 78)).setRow (w2.heap.size + 1) (X0 A n cap off lo hi w2.heap.size) = V := ⟨_, rfl⟩
  rw [hV] at hI0 hsz ⊢
  have Hsz := Lib.hid hsz
  have hle := X2.below.size
  have Hle := Lib.hid hle
  clear hV hst h5 hbd hsz hr0 c0 c1 c2 c3 l0 hmm X2 hle
  gi_wp2_with fail
  have hbx : (V.alloc (.cells (X0 A n cap off lo hi w2.heap.size) 78)).heap[V.heap.size]? = some (.cells (X0 A n cap off lo hi w2.heap.size) 78 (0, 0)) := heap_alloc_new_ _ _
  have hI1 := hI0.next (below_alloc_ V (.cells (X0 A n cap off lo hi w2.heap.size) 78))
  have hpc := Hp.out.below hI1.below (Nat.le_refl _)
  have hsz1 : (V.alloc (.cells (X0 A n cap off lo hi w2.heap.size) 78)).heap.size = V.heap.size + 1 := by simp
  obtain ⟨V1, hV1⟩ : ∃ V1, V.alloc (.cells (X0 A n cap off lo hi w2.heap.size) 78) = V1 := ⟨_, rfl⟩
  rw [hV1] at hbx hI1 hpc hsz1 ⊢
  have hcf := chkC_facts He.out
  have hn8 : n ≤ 8 ∧ 0 < n := by have := Hp.out.1; simp only at hcf; omega
  have hneed : ∀ k, (∃ o, A = some ⟨k, o, none⟩) → k < w.heap.size := by
    rintro k ⟨o, e⟩
    obtain ⟨b, o2, e2, hc⟩ := Hp.out.2 hn8.2
    have := lt_of_cell (hc 0 hn8.2).1
    rw [e2] at e
    injection e with e
    injection e with e _
    omega
  have hle := Hle.out
  have hz9 := lt_of_block Hz.out
  have hszV := eq_le Hsz.out
  replace hsz1 := eq_le hsz1
  refine wpIn_rangeL (gf := 72) (lb := #[.pointer (some ⟨V.heap.size, 0, none⟩)]) rfl (enters_of Try.func72 (by kernel_rfl) rfl) (steps_seq (X0 A n cap off lo hi w2.heap.size) A n cap off lo hi _ w2.heap.size V.heap.size ps V1 hbx (x0_brd _ _ _ _ _ _ _) hpc hn8.1)
    (fun k h => by have := hneed k h; omega) (fun _ => rfl) (fun k => k = w2.heap.size + 1) (fun k e => ⟨by omega, fun h => by have := hneed k h; omega⟩)
    (fun pre W => LI w (w.heap.size + 1) (w2.heap.size + 1) w2.heap.size A n cap off lo hi (tabI ⟨ps, off, ⟨lo, hi⟩⟩ pre) W) (fun _ _ _ => False) (fun pre => LI.abides (by omega) (by omega) (by omega) (by omega)) (fun _ _ _ _ h _ => h) ?start ?round ?done ?stop
  case start => rw [show tabI ⟨ps, off, ⟨lo, hi⟩⟩ [] = fun _ _ => false by funext i j; simp [tabI]]; exact hI1
  case stop => rintro D c pre x post W _ _ _ h; exact h.elim
  case round =>
    intro l pre x post W hx hl1 hl2 hr hI m
    have hxc : x ∈ codesL ps := by rw [hx]; simp
    have hx16 := codes_ok ps x hxc
    have hlen := eq_le Hp.out.1
    obtain ⟨p, t, hE, hC, hpx⟩ := stE_form x
    rw [hE]
    have hpn : p < n := by cases t <;> simp at hpx <;> omega
    have Hbx := Lib.hid (heap_alloc_new_ W (.cells #[.int .i64 (p : Int), .bool t] 28))
    have Hx := Lib.hid hx
    have HC := Lib.hid hC
    have Hpx := Lib.hid hpx
    clear hE hC hpx hx
    gi_wp2_with fail
    refine ⟨keep_alloc _ _ _, ?_⟩
    intro W3 hB3 hI3
    have hK3 := hB3.keeps
    have hsz3 := eq_le (hB3.size.trans (World.size_alloc _ _))
    obtain ⟨r3, hr3⟩ := hB3.rcd
    clear hB3
    have hb3 : W3.heap[W.heap.size]? = some (.cells #[.int .i64 (p : Int), .bool t] 28 (0, 0)) := (hK3.block _ (by simp) (by omega)).trans Hbx.out
    obtain ⟨Y, hY, hBr⟩ := hI3.row
    have h78 := run_ld78 hY hBr.size
    gi_wp2_with fail
    refine ⟨trivial, wide_d, CallsIn.inRound l ((callsIn_wide.2 (steps57 _ _)).mono ?_)⟩
    rintro e w5 ⟨rfl, rfl⟩
    have hY5 := heap_alloc_new_ W3 (.cells Y 78)
    have hK5 : Keeps (fun k => k = w2.heap.size + 1) W3 (W3.alloc (.cells Y 78)) := keep_alloc _ _ _
    have hI5 := hI3.next (below_alloc_ W3 (.cells Y 78))
    have hb5 : (W3.alloc (.cells Y 78)).heap[W.heap.size]? = some (.cells #[.int .i64 (p : Int), .bool t] 28 (0, 0)) := hal_old hb3
    have hr5 : (W3.alloc (.cells Y 78)).heap[l]? = some (.loop r3) := hal_old hr3
    have hsz5 := eq_le (show (W3.alloc (.cells Y 78)).heap.size = W3.heap.size + 1 by simp)
    clear h78
    gi_wp2_with fail
    obtain ⟨W5, hW5⟩ : ∃ W5, W3.alloc (.cells Y 78) = W5 := ⟨_, rfl⟩
    rw [hW5] at hY5 hK5 hI5 hb5 hr5 hsz5 ⊢
    have hpc5 := Hp.out.below hI5.below (Nat.le_refl _)
    refine wpIn_rangeN (l₀ := l) (r₀ := r3) hr5 (gf := 72) (lb := #[.pointer (some ⟨W3.heap.size, 0, none⟩)]) rfl (enters_of Try.func72 (by kernel_rfl) rfl) (steps_seq Y A n cap off lo hi _ w2.heap.size W3.heap.size ps W5 hY5 hBr hpc5 hn8.1)
      (fun k h => by have := hneed k h; omega) (fun _ => rfl) (fun k => k = w2.heap.size + 1) (fun k e => ⟨by omega, fun h => by have := hneed k h; omega⟩)
      (fun pre2 W => LI w (w.heap.size + 1) (w2.heap.size + 1) w2.heap.size A n cap off lo hi (tabJ ⟨ps, off, ⟨lo, hi⟩⟩ pre x pre2) W ∧ Keeps (fun k => k = w2.heap.size + 1) W3 W) (fun _ _ _ => False)
      (fun pre2 A B hA hK => ⟨LI.abides (by omega) (by omega) (by omega) (by omega) _ _ hA.1 hK, keeps_abides (by omega) _ _ hA.2 hK⟩) (fun _ _ _ _ h _ => h) ?start2 ?round2 ?done2 ?stop2
    case start2 => exact ⟨by rw [show tabJ ⟨ps, off, ⟨lo, hi⟩⟩ pre x [] = tabI ⟨ps, off, ⟨lo, hi⟩⟩ pre by funext i j; simp [tabI, tabJ]]; exact hI5, hK5⟩
    case stop2 => rintro c pre2 y post2 W' _ h; exact h.elim
    case done2 =>
      rintro W' hsz' ⟨hI', hK'⟩
      gi_wp2_with fail
      refine ⟨hK', ?_⟩
      show LI w (w.heap.size + 1) (w2.heap.size + 1) w2.heap.size A n cap off lo hi (tabI ⟨ps, off, ⟨lo, hi⟩⟩ (pre ++ [x])) W'
      rw [show tabI ⟨ps, off, ⟨lo, hi⟩⟩ (pre ++ [x]) = tabJ ⟨ps, off, ⟨lo, hi⟩⟩ pre x (codesL ps) by
        funext i j
        simp only [tabI, tabJ, List.mem_append, List.mem_singleton, Bool.decide_or, Bool.and_or_distrib_right]
        try (cases decide (i ∈ pre) <;> cases decide (i = x) <;> cases decide (j ∈ codesL ps) <;> rfl)]
      exact hI'
    case round2 =>
      intro l2 pre2 y post2 W6 hy hl3 hl4 hr6 hI6 m2
      have hyc : y ∈ codesL ps := by rw [hy]; simp
      have hy16 := codes_ok ps y hyc
      obtain ⟨q, u, hE2, hC2, hqy⟩ := stE_form y
      rw [hE2]
      have hqn : q < n := by cases u <;> simp at hqy <;> omega
      have Hby := Lib.hid (heap_alloc_new_ W6 (.cells #[.int .i64 (q : Int), .bool u] 28))
      have Hy := Lib.hid hy
      have HC2 := Lib.hid hC2
      have Hqy := Lib.hid hqy
      clear hE2 hC2 hqy hy
      gi_wp2_with fail
      refine ⟨keep_alloc _ _ _, ?_⟩
      intro W7 hB7 hI7
      have hK7 := hB7.keeps
      have hsz7 := eq_le (hB7.size.trans (World.size_alloc _ _))
      clear hB7
      have hb7 : W7.heap[W6.heap.size]? = some (.cells #[.int .i64 (q : Int), .bool u] 28 (0, 0)) := (hK7.block _ (by simp) (by omega)).trans Hby.out
      have hb8 : W7.heap[W.heap.size]? = some (.cells #[.int .i64 (p : Int), .bool t] 28 (0, 0)) := (hI7.2.block _ (lt_of_block hb3) (by omega)).trans hb3
      obtain ⟨Y, hY, hBr⟩ := hI7.1.row
      have HSB := Lib.hid (show ∀ W', Below W7.heap.size W7 W' → (fun W' => Below W7.heap.size W7 W' ∧ W'.cell? ⟨W.heap.size, 0, none⟩ = some (.int .i64 (p : Int)) ∧ W'.cell? ⟨W.heap.size, 1, none⟩ = some (.bool t) ∧ W'.cell? ⟨W6.heap.size, 0, none⟩ = some (.int .i64 (q : Int)) ∧ W'.cell? ⟨W6.heap.size, 1, none⟩ = some (.bool u) ∧ runO Try.prog (ld 78) (.pointer (some ⟨w2.heap.size + 1, 0, none⟩)) W' = .ok (.value (.agg Y)) W') W' from fun W' hb => by
        have e1 := two_cells ((hb.block _ (lt_of_block hb8)).trans hb8)
        have e2 := two_cells ((hb.block _ (lt_of_block hb7)).trans hb7)
        exact ⟨hb, e1.1, e1.2, e2.1, e2.2, run_ld78 ((hb.block _ (lt_of_block hY)).trans hY) hBr.size⟩)
      have HBr := Lib.hid hBr
      have HY := Lib.hid hY
      have HI7 := Lib.hid hI7
      have HK7 := Lib.hid hK7
      have ip0 : (0 : Int) ≤ (x : Int) := by omega
      have ip1 : (x : Int) < 16 := by omega
      have iq0 : (0 : Int) ≤ (y : Int) := by omega
      have iq1 : (y : Int) < 16 := by omega
      clear hb7 hb8 hY hBr hI7 hK7
      gi_wp2_with fail
      refine region_R (z := 11) (S := (fun W' => Below W7.heap.size W7 W' ∧ W'.cell? ⟨W.heap.size, 0, none⟩ = some (.int .i64 (p : Int)) ∧ W'.cell? ⟨W.heap.size, 1, none⟩ = some (.bool t) ∧ W'.cell? ⟨W6.heap.size, 0, none⟩ = some (.int .i64 (q : Int)) ∧ W'.cell? ⟨W6.heap.size, 1, none⟩ = some (.bool u) ∧ runO Try.prog (ld 78) (.pointer (some ⟨w2.heap.size + 1, 0, none⟩)) W' = .ok (.value (.agg Y)) W')) (by kernel_rfl) ?_
      have hS0 := HSB.out W7.drew (drew_b _ 1)
      refine anyR_take (i := 0) (v := .agg #[.int .i64 (p : Int), .bool t]) rfl (by decide) (by kernel_rfl) (by kernel_rfl) (by kernel_rfl) (by kernel_rfl) (fun _ _ _ h => h) (Or.inl ⟨by rfl, by intro W' hSw; (try dsimp only at hSw); go_simp⟩) hS0 ?_
      simp only [Act.put, List.setIfInBounds_toArray, List.set_cons_zero, List.set_cons_succ]
      refine anyR_take (i := 2) (v := .agg #[.int .i64 (q : Int), .bool u]) rfl (by decide) (by kernel_rfl) (by kernel_rfl) (by kernel_rfl) (by kernel_rfl) (fun _ _ _ h => h) (Or.inl ⟨by rfl, by intro W' hSw; (try dsimp only at hSw); go_simp⟩) hS0 ?_
      simp only [Act.put, List.setIfInBounds_toArray, List.set_cons_zero, List.set_cons_succ]
      refine anyR_take (i := 4) (oi := { dst := some 27, op := Op.load 78 (Operand.tmp 5), type := 78, pos := "board.go:42", after := #[], guard := none }) (v := .agg Y) rfl (by decide) (by kernel_rfl) (by kernel_rfl) (by kernel_rfl) (by kernel_rfl) (fun _ _ _ h => h) (Or.inl ⟨by rfl, by intro W' hSw; (try dsimp only at hSw); go_simp⟩) hS0 ?_
      simp only [Act.put, List.setIfInBounds_toArray, List.set_cons_zero, List.set_cons_succ]
      refine anyR_take (i := 5) (v := .agg #[.int .i64 (p : Int), .bool t]) rfl (by decide) (by kernel_rfl) (by kernel_rfl) (by kernel_rfl) (by kernel_rfl) (fun _ _ _ h => h) (Or.inl ⟨by rfl, by intro W' hSw; (try dsimp only at hSw); go_simp⟩) hS0 ?_
      simp only [Act.put, List.setIfInBounds_toArray, List.set_cons_zero, List.set_cons_succ]
      refine anyR_take (i := 6) (v := .agg #[.int .i64 (q : Int), .bool u]) rfl (by decide) (by kernel_rfl) (by kernel_rfl) (by kernel_rfl) (by kernel_rfl) (fun _ _ _ h => h) (Or.inl ⟨by rfl, by intro W' hSw; (try dsimp only at hSw); go_simp⟩) hS0 ?_
      simp only [Act.put, List.setIfInBounds_toArray, List.set_cons_zero, List.set_cons_succ]
      refine anyR_free (i := 8) (v := .pointer (some ⟨w2.heap.size + 1, 4, none⟩)) rfl (by decide) (by kernel_rfl) (by kernel_rfl) (by kernel_rfl) (fun _ _ _ h => h) (Or.inl ⟨by rfl, by intro W' hSw; (try dsimp only at hSw); go_simp⟩) hS0 ?_
      simp only [Act.put, List.setIfInBounds_toArray, List.set_cons_zero, List.set_cons_succ]
      refine anyR_one (i := 1) (by kernel_rfl) rfl (by rfl) ?_
      intro K hK
      have HKK := Lib.hid hK
      clear hK
      go_simp
      refine ⟨trivial, wide_d, CallsIn.inRound l2 ((callsIn_wide.2 (code62 (p : Int) t _ (by omega) (by omega))).mono ?_)⟩
      rintro e w8 ⟨rfl, rfl⟩
      rw [code_of p t Hpx.out]
      have hb8 := (drew_b W7 1).trans ((below_alloc_ W7.drew (.cells #[.int .i64 (p : Int), .bool t] 28)).mono (Nat.le_refl _))
      refine HKK.out _ _ (fun _ _ => HSB.out _ hb8) ?_
      clear HKK K hS0
      have hS8 := HSB.out _ hb8
      refine anyR_free (i := 9) (v := .pointer (some ⟨w2.heap.size + 1, 4 + x * 16, none⟩)) rfl (by decide) (by kernel_rfl) (by kernel_rfl) (by kernel_rfl) (fun _ _ _ h => h) (Or.inl ⟨by rfl, by intro W' _; go_simp⟩) hS8 ?_
      simp only [Act.put, List.setIfInBounds_toArray, List.set_cons_zero, List.set_cons_succ]
      refine anyR_one (i := 3) (by kernel_rfl) rfl (by rfl) ?_
      intro K hK
      have HKK := Lib.hid hK
      clear hK
      go_simp
      refine ⟨trivial, wide_d, CallsIn.inRound l2 ((callsIn_wide.2 (code62 (q : Int) u _ (by omega) (by omega))).mono ?_)⟩
      rintro e w9 ⟨rfl, rfl⟩
      rw [code_of q u Hqy.out]
      have hb9 := hb8.trans ((below_alloc_ _ (.cells #[.int .i64 (q : Int), .bool u] 28)).mono hb8.size)
      refine HKK.out _ _ (fun _ _ => HSB.out _ hb9) ?_
      clear HKK K hS8 hb8
      have hS9 := HSB.out _ hb9
      refine anyR_one (i := 7) (by kernel_rfl) rfl (by rfl) ?_
      intro K hK
      have HKK := Lib.hid hK
      clear hK
      go_simp
      refine ⟨trivial, wide_d, CallsIn.inRound l2 ((callsIn_wide.2 (meet65 Y A n cap p q off lo hi _ w2.heap.size t u ps _ HBr.out (Hp.out.below (HI7.out.1.next hb9).below (Nat.le_refl _)) hpn hqn He.out)).mono ?_)⟩
      rintro e w10 ⟨rfl, hb⟩
      have hb10 := hb9.trans (hb.mono hb9.size)
      refine HKK.out _ _ (fun _ _ => HSB.out _ hb10) ?_
      clear HKK K hS9 hb9 hb
      have hS10 := HSB.out _ hb10
      refine anyR_free (i := 10) (v := .pointer (some ⟨w2.heap.size + 1, 4 + x * 16 + y, none⟩)) rfl (by decide) (by kernel_rfl) (by kernel_rfl) (by kernel_rfl) (fun _ _ _ h => h) (Or.inl ⟨by rfl, by intro W' _; go_simp⟩) hS10 ?_
      simp only [Act.put, List.setIfInBounds_toArray, List.set_cons_zero, List.set_cons_succ]
      refine anyR_one (i := 11) (by kernel_rfl) rfl (by rfl) ?_
      intro K hK
      have HKK := Lib.hid hK
      clear hK hS10
      have hY10 := (hb10.block _ (lt_of_block HY.out)).trans HY.out
      have hcell : w10.cell? ⟨w2.heap.size + 1, 4 + x * 16 + y, none⟩ = some (.bool (tabJ ⟨ps, off, ⟨lo, hi⟩⟩ pre x pre2 x y)) := by rw [cell_row hY10]; exact HBr.out.tab x y (by omega) (by omega)
      have hfroz : w10.frozen? ⟨w2.heap.size + 1, 4 + x * 16 + y, none⟩ = false := frozen_row hY10
      obtain ⟨fv, hfv⟩ : ∃ fv, fitsB ⟨ps, off, ⟨lo, hi⟩⟩ ⟨(p : Int), t⟩ ⟨(q : Int), u⟩ = fv := ⟨_, rfl⟩
      rw [hfv]
      have Hfv := Lib.hid hfv
      clear hfv
      go_simp
      refine HKK.out _ _ (fun e => absurd rfl e) ?_
      refine anyR_done (by kernel_rfl) ?_ _
      have hset := keeps_setCell w10 (w2.heap.size + 1) (4 + x * 16 + y) (.bool fv)
      have hK : Keeps (fun k => k = w2.heap.size + 1) W7 (w10.setCell ⟨w2.heap.size + 1, 4 + x * 16 + y, none⟩ (.bool fv)) := (Keeps.of_new hb10).trans hset
      have hfin : LI w (w.heap.size + 1) (w2.heap.size + 1) w2.heap.size A n cap off lo hi (tabJ ⟨ps, off, ⟨lo, hi⟩⟩ pre x (pre2 ++ [y])) (w10.setCell ⟨w2.heap.size + 1, 4 + x * 16 + y, none⟩ (.bool fv)) := by
        have h1 := HI7.out.1.next hb10
        refine ⟨⟨_, set_same _ _ hY10, ?_⟩, (hset.block _ (lt_of_block h1.mp) (by omega)).trans h1.mp, (hset.block _ (lt_of_block h1.rz) (by omega)).trans h1.rz, h1.below.trans (hset.below h1.below.size (fun k hk => by omega))⟩
        have h2 := HBr.out.set x y (by omega) (by omega) fv
        have e1 : tabJ ⟨ps, off, ⟨lo, hi⟩⟩ pre x (pre2 ++ [y]) = fun a b => if a = x ∧ b = y then fv else tabJ ⟨ps, off, ⟨lo, hi⟩⟩ pre x pre2 a b := by
          have hf : fitC ⟨ps, off, ⟨lo, hi⟩⟩ x y = fv := by rw [← Hfv.out]; unfold fitC; rw [HC.out, HC2.out]
          funext a b
          by_cases e : a = x ∧ b = y
          · obtain ⟨rfl, rfl⟩ := e
            rw [if_pos ⟨rfl, rfl⟩, ← hf]
            simp [tabJ]
          · rw [if_neg e]
            unfold tabJ
            by_cases ea : a = x
            · have eb : b ≠ y := fun h => e ⟨ea, h⟩
              simp [ea, eb]
            · simp [ea]
        rw [e1]
        exact h2
      gi_wp2_with fail
      exact ⟨hK, hfin, HI7.out.2.trans hK⟩
  case done =>
    intro D W hD hDW hI hKd
    obtain ⟨Y, hY, hBr⟩ := hI.row
    have h78 := run_ld78 hY hBr.size
    have hst := run_st78 hI.rz zero_size hBr.size hBr.one
    have HI := Lib.hid hI
    have HY := Lib.hid hY
    have HBr := Lib.hid hBr
    have HKd := Lib.hid hKd
    clear hY hBr hI hKd
    gi_wp2_with fail
    have hr1 := keeps_setRow W (w.heap.size + 1) Y
    have hKd2 : (W.setRow (w.heap.size + 1) Y).heap[D]? = some (.deferred (some [])) := (hr1.block D hDW (by omega)).trans HKd.out
    refine ⟨by simp, .inl ⟨_, _, rfl, run_takeDeferred hKd2, ?_⟩⟩
    have hp2 := Keeps.putObj (Mut := fun k => k = D) (W.setRow (w.heap.size + 1) Y) D (.deferred none) rfl
    refine ⟨_, res42 rfl rfl ((hp2.block _ (by rw [setRow_size]; exact lt_of_block HI.out.rz) (by omega)).trans (setRow_same _ HI.out.rz)) HBr.out.size, Y, w2.heap.size, rfl, ?_, ?_, by omega, ?_⟩
    · rw [show tabOf ⟨ps, off, ⟨lo, hi⟩⟩ = tabI ⟨ps, off, ⟨lo, hi⟩⟩ (codesL ps) from rfl]
      exact HBr.out
    · exact (hp2.block _ (by rw [setRow_size]; exact lt_of_block HI.out.mp) (by omega)).trans ((hr1.block _ (lt_of_block HI.out.mp) (by omega)).trans HI.out.mp)
    · refine HI.out.below.trans ((hr1.below HI.out.below.size (fun k hk => by omega)).trans (hp2.below (by rw [setRow_size]; exact HI.out.below.size) (fun k hk => by omega)))
end Go.Proofs.Ytfmcfalghbaanaa
