/- Stage 2: two steps compared. -/
import Derived.Test.YtfmcfalghbaanaaJC
namespace Go.Proofs.Ytfmcfalghbaanaa
set_option linter.unusedSimpArgs false
set_option linter.unusedVariables false
open Go.RowKit Go.Shelf
attribute [local go_sem] Oper.semAt_some
def runE (P : Program) (t : TypeId) (x y : Value) (W : World) : Result Next :=
  (execOp (fun o => match o with | .tmp 0 => x | _ => y) { dst := none, op := Op.binOp BinOp.eql t (.tmp 0) (.tmp 1) t, type := 0, pos := "", after := #[], guard := none }).run P W
theorem exec_eql28 (ρ : Operand → Value) (d : Option Tmp) (i j : Tmp) (ty : TypeId) (pos : String) (af : Array Edge) (g : Option (Nat × Bool)) (W : World) :
    (execOp ρ { dst := d, op := Op.binOp BinOp.eql 28 (.tmp i) (.tmp j) 28, type := ty, pos := pos, after := af, guard := g }).run Try.prog W = runE Try.prog 28 (ρ (.tmp i)) (ρ (.tmp j)) W := rfl
theorem at_eql28 (r : Option Nat) (ρ : Operand → Value) (d : Option Tmp) (i j : Tmp) (ty : TypeId) (pos : String) (af : Array Edge) (g : Option (Nat × Bool)) (W : World) :
    (Oper.semAt r ρ { dst := d, op := Op.binOp BinOp.eql 28 (.tmp i) (.tmp j) 28, type := ty, pos := pos, after := af, guard := g }).run Try.prog W = runE Try.prog 28 (ρ (.tmp i)) (ρ (.tmp j)) W := by
  rw [at_plain _ _ _ (fun c => by simp)]; exact exec_eql28 ρ d i j ty pos af g W
theorem run_eql28 (p q : Int) (t u : Bool) (W : World) : runE Try.prog 28 (.agg #[.int .i64 p, .bool t]) (.agg #[.int .i64 q, .bool u]) W = .ok (.value (.bool (decide (p = q) && decide (t = u)))) W := by
  unfold runE
  by_cases h1 : p = q
  · by_cases h2 : t = u
    · subst h1 h2; go_simp
    · subst h1
      have h3 : decide (t = u) = false := decide_eq_false h2
      rw [h3]
      have h4 : (t == u) = false := by simpa using h2
      go_simp
  · have h3 : decide (p = q) = false := decide_eq_false h1
    rw [h3]
    have h4 : (p == q) = false := by simpa using h1
    go_simp
/-- By codes. -/
theorem run_eqlC {p q x y : Nat} {t u : Bool} (hx : x = if t then 2 * p + 1 else 2 * p) (hy : y = if u then 2 * q + 1 else 2 * q) (W : World) : runE Try.prog 28 (.agg #[.int .i64 (p : Int), .bool t]) (.agg #[.int .i64 (q : Int), .bool u]) W = .ok (.value (.bool (decide (x = y)))) W := by
  rw [run_eql28]
  congr 3
  subst hx hy
  cases t <;> cases u <;> simp <;> omega
end Go.Proofs.Ytfmcfalghbaanaa
