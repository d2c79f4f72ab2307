/- Stage 2: many, fine of the laws. -/
import Derived.Test.YtfmcfalghbaanaaSame
namespace Go.Proofs.Ytfmcfalghbaanaa
set_option linter.unusedSimpArgs false
set_option linter.unusedVariables false
open Go.RowKit

def manyB (n : Nat) (most : Int) : Bool := (decide (most < (n : Int)) && decide ((n : Int) ≤ 8)) || decide ((12 : Int) < (n : Int))
def fineB (c : Cy) : Bool := decide (c.ps.length ≤ 12) && decide (chkC c = 0)

set_option maxRecDepth 100000 in
set_option maxHeartbeats 2000000 in
theorem many20 (A : Option Addr) (n cap : Nat) (off lo hi most : Int) (ps : List Pc) (w : World) (h : Pcs w A n ps) (hn : n ≤ 9223372036854775807) :
    Calls Try.prog 20 #[cyl A n cap off lo hi, .int .i64 most] w fun e w' => e = .returned (.bool (manyB n most)) ∧ Below w.heap.size w w' := by
  have X := Cx.new (cap := cap) (off := off) (lo := lo) (hi := hi) h
  have Hr := Lib.hid (show manyB n most = ((decide (most < (n : Int)) && decide ((n : Int) ≤ 8)) || decide ((12 : Int) < (n : Int))) from rfl)
  unfold cyl
  clear h
  by_cases h1 : most < (n : Int)
  · have d1 : decide (most < (n : Int)) = true := decide_eq_true h1
    by_cases h2 : (n : Int) ≤ 8
    · have d2 : decide ((n : Int) ≤ 8) = true := decide_eq_true h2
      have He := Lib.hid (show manyB n most = true by rw [Hr.out, d1, d2]; rfl)
      clear h1 h2
      go_enter Try.func20, Try.ntmps20
      go_wp2_with fail
      go_ret
      exact ⟨ret_bool He.out.symm, X.below⟩
    · have d2 : decide ((n : Int) ≤ 8) = false := decide_eq_false h2
      by_cases h3 : (12 : Int) < (n : Int)
      · have d3 : decide ((12 : Int) < (n : Int)) = true := decide_eq_true h3
        have He := Lib.hid (show manyB n most = true by rw [Hr.out, d1, d2, d3]; rfl)
        clear h1 h2 h3
        go_enter Try.func20, Try.ntmps20
        go_wp2_with fail
        go_ret
        exact ⟨ret_bool He.out.symm, X.below⟩
      · have d3 : decide ((12 : Int) < (n : Int)) = false := decide_eq_false h3
        have He := Lib.hid (show manyB n most = false by rw [Hr.out, d1, d2, d3]; rfl)
        clear h1 h2 h3
        go_enter Try.func20, Try.ntmps20
        go_wp2_with fail
        go_ret
        exact ⟨ret_bool He.out.symm, X.below⟩
  · have d1 : decide (most < (n : Int)) = false := decide_eq_false h1
    by_cases h3 : (12 : Int) < (n : Int)
    · have d3 : decide ((12 : Int) < (n : Int)) = true := decide_eq_true h3
      have He := Lib.hid (show manyB n most = true by rw [Hr.out, d1, d3]; rfl)
      clear h1 h3
      go_enter Try.func20, Try.ntmps20
      go_wp2_with fail
      go_ret
      exact ⟨ret_bool He.out.symm, X.below⟩
    · have d3 : decide ((12 : Int) < (n : Int)) = false := decide_eq_false h3
      have He := Lib.hid (show manyB n most = false by rw [Hr.out, d1, d3]; rfl)
      clear h1 h3
      go_enter Try.func20, Try.ntmps20
      go_wp2_with fail
      go_ret
      exact ⟨ret_bool He.out.symm, X.below⟩

set_option maxRecDepth 100000 in
set_option maxHeartbeats 2000000 in
theorem fine35 (A : Option Addr) (n cap : Nat) (off lo hi : Int) (ps : List Pc) (w : World) (h : Pcs w A n ps) (hn : n ≤ 9223372036854775807) :
    Calls Try.prog 35 #[cyl A n cap off lo hi] w fun e w' => e = .returned (.bool (fineB ⟨ps, off, ⟨lo, hi⟩⟩)) ∧ Below w.heap.size w w' := by
  have X := Cx.new (cap := cap) (off := off) (lo := lo) (hi := hi) h
  have Hl := Lib.hid h.1
  have Hn := Lib.hid hn
  have Hr := Lib.hid (show fineB ⟨ps, off, ⟨lo, hi⟩⟩ = (decide (ps.length ≤ 12) && decide (chkC ⟨ps, off, ⟨lo, hi⟩⟩ = 0)) from rfl)
  unfold cyl
  obtain ⟨B, hB⟩ : ∃ B, w.heap.size = B := ⟨_, rfl⟩
  rw [hB] at X
  obtain ⟨c0, c1, c2, c3, l0⟩ := X.c
  clear h hn
  by_cases h1 : n ≤ 12
  · have d1 : decide ((n : Int) ≤ 12) = true := decide_eq_true (by omega)
    have He1 := Lib.hid (show decide (ps.length ≤ 12) = true from decide_eq_true (by have := Hl.out; omega))
    clear h1
    go_enter Try.func35, Try.ntmps35
    go_wp2_with fail
    clear hB
    refine (checkCyl17 A n cap off lo hi ps _ X.pcs Hn.out).mono ?_
    rintro e w2 ⟨rfl, hb⟩
    have X2 := X.next hb
    clear X hb c0 c1 c2 c3 l0
    by_cases he : chkC ⟨ps, off, ⟨lo, hi⟩⟩ = 0
    · have d2 : (chkC ⟨ps, off, ⟨lo, hi⟩⟩ == 0) = true := by rw [beq_iff_eq]; exact he
      have He := Lib.hid (show fineB ⟨ps, off, ⟨lo, hi⟩⟩ = true by rw [Hr.out, He1.out, decide_eq_true he]; rfl)
      clear he
      go_wp2_with fail
      go_ret
      exact ⟨ret_bool He.out.symm, X2.below⟩
    · have d2 : (chkC ⟨ps, off, ⟨lo, hi⟩⟩ == 0) = false := by rw [beq_eq_false_iff_ne]; exact he
      have He := Lib.hid (show fineB ⟨ps, off, ⟨lo, hi⟩⟩ = false by rw [Hr.out, decide_eq_false he]; simp)
      clear he
      go_wp2_with fail
      go_ret
      exact ⟨ret_bool He.out.symm, X2.below⟩
  · have d1 : decide ((n : Int) ≤ 12) = false := decide_eq_false (by omega)
    have He := Lib.hid (show fineB ⟨ps, off, ⟨lo, hi⟩⟩ = false by rw [Hr.out, decide_eq_false (by have := Hl.out; omega)]; rfl)
    clear h1
    go_enter Try.func35, Try.ntmps35
    go_wp2_with fail
    go_ret
    exact ⟨ret_bool He.out.symm, X.below⟩
end Go.Proofs.Ytfmcfalghbaanaa
