/- Stage 4: three small numbers that came in. -/
import Derived.Test.YthdjbapidodlfaaLift
namespace Go.Proofs.Ythdjbapidodlfaa
set_option linter.unusedSimpArgs false
set_option linter.unusedVariables false
open Go.Joins Go.ChangeShapes Go.WideShapes Go.RowKit Go.Deep
set_option maxRecDepth 100000 in
theorem open_arr3 {H : Type} {enc : TypeId × Value → H} {W : World} {b : Nat} {t e : TypeId} {k : IntKind} {v : Value} {d : DataW H} {p : List MemPlace} (ht : Try.prog.underlying t = some (.array 3 e)) (he : Try.prog.underlying e = some (.int k)) (hc : Try.prog.cellsOf e = 1) (hct : Try.prog.cellsOf t = 3)
    (hv : Value.okWide Try.prog W .any b t v) (h : DataW.Trod enc Try.prog W 0 (fun _ => true) true t v d p) :
    ∃ x y z : Int, v = .agg #[.int k x, .int k y, .int k z] ∧ (Lit.int k x).wf = true ∧ (Lit.int k y).wf = true ∧ (Lit.int k z).wf = true := by
  simp only [Value.okWide, ht] at hv
  obtain ⟨cs, rfl, _, _⟩ := hv
  obtain ⟨fuel, hf⟩ := h
  obtain ⟨xs, m, _, _, hl, hxl, hx⟩ := DataW.trod_array (cs := cs.toList) ht (by simpa [Value.cells] using hf)
  rw [hct] at hl
  obtain ⟨l⟩ := cs
  match l, hl with
  | [c0, c1, c2], _ =>
    have a0 := hx 0 (by omega)
    have a1 := hx 1 (by omega)
    have a2 := hx 2 (by omega)
    rw [hc, List.getElem?_eq_getElem (by omega)] at a0 a1 a2
    obtain ⟨u0, g0, _, w0⟩ := DataW.trod_int he (by simpa using a0)
    obtain ⟨u1, g1, _, w1⟩ := DataW.trod_int he (by simpa using a1)
    obtain ⟨u2, g2, _, w2⟩ := DataW.trod_int he (by simpa using a2)
    simp at g0 g1 g2
    exact ⟨u0, u1, u2, by rw [g0, g1, g2], w0, w1, w2⟩
end Go.Proofs.Ythdjbapidodlfaa
