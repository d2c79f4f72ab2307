/- The rules of a pipe in the turn 1; what SpeedHeard's last statement reads. -/
import Derived.Test.YtiankphkemakeaaHeard
import Derived.Test.YtiankphkemakeaaSpanTh
import Derived.Test.YtiankphkemakeaaLawSheets
namespace Go.Proofs.Ytiankphkemakeaa
set_option linter.unusedSimpArgs false
set_option linter.unusedVariables false
open Go.RowKit Go.Shelf

theorem heardB_iff {p l h x : Int} (hp : 1 ≤ p) (hl : 1 ≤ l) (hh : 1 ≤ h) : heardB p x l h = decide ((p * 16000 - 1) / h + 1 ≤ x ∧ x ≤ p * 16000 / l) := by
  unfold heardB
  have e1 : (p * 16000 - 1) / h < x ↔ p * 16000 - 1 < x * h := Int.ediv_lt_iff_lt_mul (by omega)
  have e2 : x ≤ p * 16000 / l ↔ x * l ≤ p * 16000 := Int.le_ediv_iff_mul_le (by omega)
  have e3 : 0 ≤ (p * 16000 - 1) / h := Int.ediv_nonneg (by omega) (by omega)
  rw [decide_eq_decide]
  rw [Int.mul_comm l x, Int.mul_comm h x]
  constructor
  · rintro ⟨h1, h2, h3⟩
    exact ⟨by have := e1.2 (by omega); omega, e2.2 h2⟩
  · rintro ⟨h1, h2⟩
    have := e1.1 (by omega)
    exact ⟨by omega, e2.1 h2, by omega⟩

/-- The rules of a pipe in the turn 1. -/
def two (a b : Int) : List R := [⟨0, 1, b⟩, ⟨1, 0, -a⟩]
theorem two_chk {a b : Int} (ha : 1 ≤ a) (hab : a ≤ b) (hb : b ≤ 100000) : chk 1 (two a b) = 0 := by
  simp [chk, two, within, chkR]
  omega
theorem two_feas {a b : Int} (q : Nat → Int) : Feas (whole 1 (two a b)) q ↔ (q 1 ≤ q 0 + b ∧ q 0 ≤ q 1 - a ∧ q 1 ≤ q 0 + 100000 ∧ q 0 ≤ q 1) := by
  unfold Feas whole two turnRules turnRules
  simp
  omega
theorem two_span {a b : Int} (ha : 1 ≤ a) (hab : a ≤ b) (hb : b ≤ 100000) : spanR 1 (two a b) 1 = (a, b, 0) := by
  have he := two_chk ha hab hb
  have hs : Some_ 1 (two a b) := ⟨fun v => if v = 0 then 0 else a, (two_feas _).2 (by simp; omega)⟩
  obtain ⟨g1, g2, g3, g4, g5⟩ := far_facts (T := 1) he hs
  have r0 := (two_feas _).1 (g4 0 (by omega))
  have r1 := (two_feas _).1 (g4 1 (by omega))
  have qa := g5 (fun v => if v = 0 then 0 else a) ((two_feas _).2 (by simp; omega)) 1 0 (by omega) (by omega)
  have qb := g5 (fun v => if v = 0 then 0 else b) ((two_feas _).2 (by simp; omega)) 0 1 (by omega) (by omega)
  have z0 := g1 0 (by omega)
  have z1 := g1 1 (by omega)
  have := spanR_far (T := 1) he hs (t := 1) (by omega) (by omega)
  simp at qa qb
  rw [show ((1 : Nat) : Int) = 1 from rfl] at this
  rw [this]
  rw [show -(farM 1 (two a b) 1 0) = a by omega, show farM 1 (two a b) 0 1 = b by omega]
theorem two_speeds {a b x : Int} (ha : 1 ≤ a) (hab : a ≤ b) (hb : b ≤ 100000) (hx : 0 ≤ x) (hx2 : x ≤ 100000) : checkSpeeds 1 (two a b) [x] = if a ≤ x ∧ x ≤ b then 0 else 17 := by
  unfold checkSpeeds
  rw [if_neg (by simpa using two_chk ha hab hb), if_neg (by simp), within_yes hx hx2, if_pos rfl]
  have e : (two a b).all (keep (paceOf [x])) = decide (a ≤ x ∧ x ≤ b) := by
    simp [two, keep, paceOf, nth]
    by_cases h1 : x ≤ b <;> by_cases h2 : a ≤ x <;> simp [h1, h2] <;> omega
  rw [e]
  by_cases h : a ≤ x ∧ x ≤ b
  · rw [if_pos h, decide_eq_true h, if_pos rfl]
  · rw [if_neg h, decide_eq_false h]; rfl

/-- What the last statement of SpeedHeard reads. -/
structure Hs (w : World) (B B2 : Nat) (C : Option Addr) (q : Nat) (a b : Int) (W : World) : Prop where
  bx : Bx w B 1 C 2 q (two a b) W
  r2 : W.heap[B2]? = some (.cells #[.int .i64 a, .int .i64 b] 43 (0, 0))
theorem Hs.next {w : World} {B B2 : Nat} {C : Option Addr} {q : Nat} {a b : Int} {W W' : World} (hb : Below W.heap.size W W') (h : Hs w B B2 C q a b W) : Hs w B B2 C q a b W' :=
  ⟨h.bx.next hb, (hb.block _ (lt_of_block h.r2)).trans h.r2⟩
theorem Hs.all {w : World} {B B2 : Nat} {C : Option Addr} {q : Nat} {a b : Int} {W : World} (h : Hs w B B2 C q a b W) :
    Hs w B B2 C q a b W ∧ W.cell? ⟨B, 0, none⟩ = some (.int .i64 1) ∧ W.cell? ⟨B, 1, none⟩ = some (.slice C 2 q) ∧ W.cell? ⟨B2, 0, none⟩ = some (.int .i64 a) ∧ W.cell? ⟨B2, 1, none⟩ = some (.int .i64 b) :=
  ⟨h, h.bx.c0, h.bx.c1, by rw [cell_of_row _ _ 0 _ _ _ h.r2]; rfl, by rw [cell_of_row _ _ 1 _ _ _ h.r2]; rfl⟩

end Go.Proofs.Ytiankphkemakeaa
