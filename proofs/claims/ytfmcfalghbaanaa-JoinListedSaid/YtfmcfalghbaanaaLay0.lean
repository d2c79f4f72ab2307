/- Stage 2: boards are made, stored and changed as wholes. -/
import Derived.Test.YtfmcfalghbaanaaMeet
namespace Go.Proofs.Ytfmcfalghbaanaa
set_option linter.unusedSimpArgs false
set_option linter.unusedVariables false
open Go.RowKit Go.Shelf

/-- An operation on two values. -/
def runV (P : Program) (o : Oper) (p v : Value) (W : World) : Result Next := (execOp (fun x => match x with | .tmp 0 => p | _ => v) o).run P W
def st (t : TypeId) : Oper := { dst := none, op := Op.store t (.tmp 0) (.tmp 1), type := t, pos := "", after := #[], guard := none }
def bd : Oper := { dst := none, op := Op.build 78 #[(0, .tmp 0), (2, .tmp 1)], type := 78, pos := "", after := #[], guard := none }
theorem exec_store78 (ρ : Operand → Value) (d : Option Tmp) (x y : Operand) (ty : TypeId) (pos : String) (af : Array Edge) (g : Option (Nat × Bool)) (W : World) :
    (execOp ρ { dst := d, op := Op.store 78 x y, type := ty, pos := pos, after := af, guard := g }).run Try.prog W = runV Try.prog (st 78) (ρ x) (ρ y) W := rfl
theorem exec_build78 (ρ : Operand → Value) (d : Option Tmp) (x y : Operand) (ty : TypeId) (pos : String) (af : Array Edge) (g : Option (Nat × Bool)) (W : World) :
    (execOp ρ { dst := d, op := Op.build 78 #[(0, x), (2, y)], type := ty, pos := pos, after := af, guard := g }).run Try.prog W = runV Try.prog bd (ρ x) (ρ y) W := by kernel_rfl
theorem exec_build0 (ρ : Operand → Value) (d : Option Tmp) (ty : TypeId) (pos : String) (af : Array Edge) (g : Option (Nat × Bool)) (W : World) :
    (execOp ρ { dst := d, op := Op.build 78 #[], type := ty, pos := pos, after := af, guard := g }).run Try.prog W = .ok (.value (.agg Try.zeroCells78)) W := by kernel_rfl

theorem setRow_same {W : World} {B : Nat} {Y : Array Value} {t : TypeId} {fr : Nat × Nat} (X : Array Value) (h : W.heap[B]? = some (.cells Y t fr)) : (W.setRow B X).heap[B]? = some (.cells X t fr) := by
  simp [World.setRow, Array.getElem?_modify, h]
theorem keeps_setRow (W : World) (B : Nat) (X : Array Value) : Keeps (fun k => k = B) W (W.setRow B X) :=
  ⟨rfl, rfl, rfl, by simp [World.setRow], fun k _ hk => by simp [World.setRow, Array.getElem?_modify, Ne.symm hk]⟩
theorem setRow_size (W : World) (B : Nat) (X : Array Value) : (W.setRow B X).heap.size = W.heap.size := by simp [World.setRow]
theorem run_st78 {W : World} {B : Nat} {X Y : Array Value} {t : TypeId} (h : W.heap[B]? = some (.cells Y t (0, 0))) (hY : Y.size = 261) (hX : X.size = 261) (h1 : X.all (·.oneCell') = true) :
    runV Try.prog (st 78) (.pointer (some ⟨B, 0, none⟩)) (.agg X) W = .ok .skip (W.setRow B X) := by
  have h2 : (storeVar 78 ⟨B, 0, none⟩ (.agg X)).run Try.prog W = .ok () (W.setRow B X) := run_storeVar_row W B t 78 Y X h (by rw [hX]; kernel_rfl) (by omega) h1
  unfold runV st
  simp only [execOp, Instr.storeAt, Instr.sureAddr, Sem.run_bind, Sem.run_pure, Result.andThen_ok, h2]
/-- A new board. -/
def X0 (A : Option Addr) (n cap : Nat) (off lo hi : Int) (M : Nat) : Array Value := #[.slice A n cap, .int .i64 off, .int .i64 lo, .int .i64 hi] ++ Array.replicate 256 (.bool false) ++ #[.map (some M)]
theorem zero78 : Try.zeroCells78 = #[.slice none 0 0, .int .i64 0, .int .i64 0, .int .i64 0] ++ Array.replicate 256 (.bool false) ++ #[.map none] := by kernel_rfl
theorem run_bd (A : Option Addr) (n cap : Nat) (off lo hi : Int) (M : Nat) (W : World) :
    runV Try.prog bd (.agg #[.slice A n cap, .int .i64 off, .int .i64 lo, .int .i64 hi]) (.map (some M)) W = .ok (.value (.agg (X0 A n cap off lo hi M))) W := by
  kernel_rfl
theorem x0_brd (A : Option Addr) (n cap : Nat) (off lo hi : Int) (M : Nat) : Brd (X0 A n cap off lo hi M) A n cap off lo hi (fun _ _ => false) M := by
  unfold X0
  refine ⟨by simp, by simp, by simp, by simp, by simp, fun i j hi hj => ?_, ?_⟩
  · rw [Array.getElem?_append_left (by simp; omega), Array.getElem?_append_right (by simp; omega)]
    have h1 : 4 + i * 16 + j - 4 < 256 := by omega
    simp [h1]
  · rw [Array.getElem?_append_right (by simp)]
    simp
theorem zero_size : Try.zeroCells78.size = 261 := by rw [zero78]; simp
theorem zero_one : Try.zeroCells78.all (·.oneCell') = true := by kernel_rfl
theorem Brd.one {X : Array Value} {A : Option Addr} {n cap : Nat} {off lo hi : Int} {T : Nat → Nat → Bool} {M : Nat} (h : Brd X A n cap off lo hi T M) : X.all (·.oneCell') = true := by
  rw [Array.all_eq_true]
  intro i hi
  have hs := h.size
  have e : X[i]? = some X[i] := by simp [hi]
  rcases (by omega : i = 0 ∨ i = 1 ∨ i = 2 ∨ i = 3 ∨ i = 260 ∨ (4 ≤ i ∧ i < 260)) with rfl | rfl | rfl | rfl | rfl | h4
  · rw [h.c0] at e; rw [← Option.some.inj e]; rfl
  · rw [h.c1] at e; rw [← Option.some.inj e]; rfl
  · rw [h.c2] at e; rw [← Option.some.inj e]; rfl
  · rw [h.c3] at e; rw [← Option.some.inj e]; rfl
  · rw [h.map] at e; rw [← Option.some.inj e]; rfl
  · have := h.tab ((i - 4) / 16) ((i - 4) % 16) (by omega) (by omega)
    rw [show 4 + (i - 4) / 16 * 16 + (i - 4) % 16 = i by omega, e] at this
    rw [Option.some.inj this]; rfl
/-- One cell of the table is set. -/
theorem Brd.set {X : Array Value} {A : Option Addr} {n cap : Nat} {off lo hi : Int} {T : Nat → Nat → Bool} {M : Nat} (h : Brd X A n cap off lo hi T M) (i j : Nat) (hi2 : i < 16) (hj : j < 16) (v : Bool) :
    Brd (X.setIfInBounds (4 + i * 16 + j) (.bool v)) A n cap off lo hi (fun a b => if a = i ∧ b = j then v else T a b) M := by
  refine ⟨by simp [h.size], ?_, ?_, ?_, ?_, fun a b ha hb => ?_, ?_⟩
  · rw [Array.getElem?_setIfInBounds_ne (by omega)]; exact h.c0
  · rw [Array.getElem?_setIfInBounds_ne (by omega)]; exact h.c1
  · rw [Array.getElem?_setIfInBounds_ne (by omega)]; exact h.c2
  · rw [Array.getElem?_setIfInBounds_ne (by omega)]; exact h.c3
  · by_cases e : a = i ∧ b = j
    · obtain ⟨rfl, rfl⟩ := e
      rw [if_pos ⟨rfl, rfl⟩, Array.getElem?_setIfInBounds_self_of_lt (by have := h.size; omega)]
    · rw [if_neg e, Array.getElem?_setIfInBounds_ne (by omega)]
      exact h.tab a b ha hb
  · rw [Array.getElem?_setIfInBounds_ne (by omega)]; exact h.map
theorem at_plain (r : Option Nat) (ρ : Operand → Value) (o : Oper) (h : ∀ c, o.op ≠ .defer c) : Oper.semAt r ρ o = execOp ρ o := by
  cases r with
  | none => rfl
  | some l => exact Oper.semAt_some l ρ o h
theorem at_load78 (r : Option Nat) (ρ : Operand → Value) (d : Option Tmp) (x : Operand) (ty : TypeId) (pos : String) (af : Array Edge) (g : Option (Nat × Bool)) (W : World) :
    (Oper.semAt r ρ { dst := d, op := Op.load 78 x, type := ty, pos := pos, after := af, guard := g }).run Try.prog W = runO Try.prog (ld 78) (ρ x) W := by
  rw [at_plain _ _ _ (fun c => by simp)]; exact exec_load78 ρ d x ty pos af g W
theorem at_store78 (r : Option Nat) (ρ : Operand → Value) (d : Option Tmp) (x y : Operand) (ty : TypeId) (pos : String) (af : Array Edge) (g : Option (Nat × Bool)) (W : World) :
    (Oper.semAt r ρ { dst := d, op := Op.store 78 x y, type := ty, pos := pos, after := af, guard := g }).run Try.prog W = runV Try.prog (st 78) (ρ x) (ρ y) W := by
  rw [at_plain _ _ _ (fun c => by simp)]; exact exec_store78 ρ d x y ty pos af g W
theorem at_build78 (r : Option Nat) (ρ : Operand → Value) (d : Option Tmp) (x y : Operand) (ty : TypeId) (pos : String) (af : Array Edge) (g : Option (Nat × Bool)) (W : World) :
    (Oper.semAt r ρ { dst := d, op := Op.build 78 #[(0, x), (2, y)], type := ty, pos := pos, after := af, guard := g }).run Try.prog W = runV Try.prog bd (ρ x) (ρ y) W := by
  rw [at_plain _ _ _ (fun c => by simp)]; exact exec_build78 ρ d x y ty pos af g W
theorem at_build0 (r : Option Nat) (ρ : Operand → Value) (d : Option Tmp) (ty : TypeId) (pos : String) (af : Array Edge) (g : Option (Nat × Bool)) (W : World) :
    (Oper.semAt r ρ { dst := d, op := Op.build 78 #[], type := ty, pos := pos, after := af, guard := g }).run Try.prog W = .ok (.value (.agg Try.zeroCells78)) W := by
  rw [at_plain _ _ _ (fun c => by simp)]; exact exec_build0 ρ d ty pos af g W
end Go.Proofs.Ytfmcfalghbaanaa
