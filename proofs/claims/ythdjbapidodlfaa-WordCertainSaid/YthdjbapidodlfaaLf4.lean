/- Stage 4: small numbers that came in. -/
import Derived.Test.YthdjbapidodlfaaLift
import Derived.Test.YthdjbapidodlfaaNl
namespace Go.Proofs.Ythdjbapidodlfaa
set_option linter.unusedSimpArgs false
set_option linter.unusedVariables false
open Go.RowKit
theorem byU_of {w : World} {A : Option Addr} {n : Nat} {zs : List Int} (h : IntsU w A n zs) : ByU w A n := fun j hj => by
  obtain ⟨b, o, e, hc⟩ := h.2.2 (by omega)
  have h1 := h.2.1 j
  refine ⟨b, o, (iAt zs j).toNat, e, by omega, ?_⟩
  rw [hc j hj, Int.toNat_of_nonneg h1.1]
end Go.Proofs.Ythdjbapidodlfaa
