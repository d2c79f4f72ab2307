/- Stage 2: what a cylinder is, and what it holds in memory; the contracts of valid, code and their like. -/
import Derived.Test.YtfmcfalghbaanaaBase
namespace Go.Proofs.Ytfmcfalghbaanaa
set_option linter.unusedSimpArgs false
set_option linter.unusedVariables false
open Go.RowKit

/-- An end of a piece, a piece, a step. -/
structure En where
  d : Rg
  p : Int
deriving DecidableEq, Inhabited
structure Pc where
  a : En
  b : En
  loose : Bool
deriving DecidableEq, Inhabited
structure St where
  p : Int
  turned : Bool
deriving DecidableEq, Inhabited
/-- A cylinder: pieces, Off, Step. -/
structure Cy where
  ps : List Pc
  off : Int
  step : Rg

def pAt (ps : List Pc) (k : Nat) : Pc := ps.getD k ⟨⟨⟨0, 0⟩, 0⟩, ⟨⟨0, 0⟩, 0⟩, false⟩
/-- A slice of n pieces reads as ps: seven cells each. -/
def Pcs (w : World) (A : Option Addr) (n : Nat) (ps : List Pc) : Prop :=
  ps.length = n ∧ (0 < n → ∃ b o, A = some ⟨b, o, none⟩ ∧ ∀ j, j < n →
    w.cell? ⟨b, o + j * 7, none⟩ = some (.int .i64 (pAt ps j).a.d.lo) ∧ w.cell? ⟨b, o + j * 7 + 1, none⟩ = some (.int .i64 (pAt ps j).a.d.hi) ∧ w.cell? ⟨b, o + j * 7 + 2, none⟩ = some (.int .i64 (pAt ps j).a.p) ∧
    w.cell? ⟨b, o + j * 7 + 3, none⟩ = some (.int .i64 (pAt ps j).b.d.lo) ∧ w.cell? ⟨b, o + j * 7 + 4, none⟩ = some (.int .i64 (pAt ps j).b.d.hi) ∧ w.cell? ⟨b, o + j * 7 + 5, none⟩ = some (.int .i64 (pAt ps j).b.p) ∧
    w.cell? ⟨b, o + j * 7 + 6, none⟩ = some (.bool (pAt ps j).loose))
theorem Pcs.below {w w' : World} {A : Option Addr} {n B : Nat} {ps : List Pc} (h : Pcs w A n ps) (hb : Below B w w') (hB : w.heap.size ≤ B) : Pcs w' A n ps := by
  refine ⟨h.1, fun hn => ?_⟩
  obtain ⟨b, o, e, hc⟩ := h.2 hn
  have hl := lt_of_cell (hc 0 hn).1
  have hk : ∀ k, w'.cell? ⟨b, k, none⟩ = w.cell? ⟨b, k, none⟩ := fun k => hb.cell (p := ⟨b, k, none⟩) (by simp; omega)
  exact ⟨b, o, e, fun j hj => by
    obtain ⟨h0, h1, h2, h3, h4, h5, h6⟩ := hc j hj
    exact ⟨(hk _).trans h0, (hk _).trans h1, (hk _).trans h2, (hk _).trans h3, (hk _).trans h4, (hk _).trans h5, (hk _).trans h6⟩⟩
/-- A cylinder's value. -/
def cyl (A : Option Addr) (n cap : Nat) (off lo hi : Int) : Value := .agg #[.slice A n cap, .int .i64 off, .int .i64 lo, .int .i64 hi]

/-- What valid returns, what CheckCylinder returns. -/
def okEn (e : En) : Bool := okRg 0 1000 e.d && decide (0 ≤ e.p) && decide (e.p ≤ 100000)
def okPc (p : Pc) : Bool := okEn p.a && okEn p.b
def chkC (c : Cy) : Int :=
  if c.ps.length < 1 ∨ 8 < c.ps.length then 6
  else if c.ps.all okPc && decide (0 ≤ c.off) && decide (c.off ≤ 1000) && okRg (-100000) 100000 c.step then 0 else 2

set_option maxRecDepth 100000 in
theorem valid49 (a b lo hi : Int) (w : World) :
    Calls Try.prog 49 #[.agg #[.int .i64 a, .int .i64 b], .int .i64 lo, .int .i64 hi] w fun e w' => e = .returned (.bool (okRg lo hi ⟨a, b⟩)) ∧ w' = w.alloc (.cells #[.int .i64 a, .int .i64 b] 24) := by
  have Hr := Lib.hid (show okRg lo hi ⟨a, b⟩ = (decide (lo ≤ a) && decide (a ≤ b) && decide (b ≤ hi)) from rfl)
  by_cases h1 : lo ≤ a
  · have d1 : decide (lo ≤ a) = true := decide_eq_true h1
    by_cases h2 : a ≤ b
    · have d2 : decide (a ≤ b) = true := decide_eq_true h2
      by_cases h3 : b ≤ hi
      · have d3 : decide (b ≤ hi) = true := decide_eq_true h3
        clear h1 h2 h3
        go_enter Try.func49, Try.ntmps49
        go_wp2_with fail
        go_ret
        exact ⟨ret_bool (by rw [Hr.out, d1, d2, d3]; rfl), rfl⟩
      · have d3 : decide (b ≤ hi) = false := decide_eq_false h3
        clear h1 h2 h3
        go_enter Try.func49, Try.ntmps49
        go_wp2_with fail
        go_ret
        exact ⟨ret_bool (by rw [Hr.out, d1, d2, d3]; rfl), rfl⟩
    · have d2 : decide (a ≤ b) = false := decide_eq_false h2
      clear h1 h2
      go_enter Try.func49, Try.ntmps49
      go_wp2_with fail
      go_ret
      exact ⟨ret_bool (by rw [Hr.out, d1, d2]; rfl), rfl⟩
  · have d1 : decide (lo ≤ a) = false := decide_eq_false h1
    clear h1
    go_enter Try.func49, Try.ntmps49
    go_wp2_with fail
    go_ret
    exact ⟨ret_bool (by rw [Hr.out, d1]; rfl), rfl⟩

/-- The number of a step. -/
def codeN (s : St) : Int := if s.turned then 2 * s.p + 1 else 2 * s.p
set_option maxRecDepth 100000 in
theorem code62 (p : Int) (t : Bool) (w : World) (h0 : 0 ≤ p) (h1 : p ≤ 1000) :
    Calls Try.prog 62 #[.agg #[.int .i64 p, .bool t]] w fun e w' => e = .returned (.int .i64 (codeN ⟨p, t⟩)) ∧ w' = w.alloc (.cells #[.int .i64 p, .bool t] 28) := by
  cases t with
  | true =>
    go_enter Try.func62, Try.ntmps62
    go_wp2_with fail
    go_ret
    exact ⟨rfl, rfl⟩
  | false =>
    go_enter Try.func62, Try.ntmps62
    go_wp2_with fail
    go_ret
    exact ⟨rfl, rfl⟩
end Go.Proofs.Ytfmcfalghbaanaa
