/- Stage 6: links that are cut part names: mathematics. -/
import Derived.Test.YtigohccehllmnaaLf
import Derived.Test.YtigohccehllmnaaJd9
import Derived.Test.YtigohccehllmnaaSde
namespace Go.Proofs.Ytigohccehllmnaa
set_option linter.unusedSimpArgs false
set_option linter.unusedVariables false
open Go.RowKit Go.Shelf

section
variable {l : NL} {W : World} (hn : NLs W l)
include hn
end
/-- Which links are dropped, by bits. -/
def dpP (xa xb : Nat) : Int → Bool := fun i => (if i.toNat < 64 then xa else xb).testBit (i.toNat % 64)
theorem layE_dp {l : NL} (h : chkL l = 0) (p : Int → Bool) : layE l (nmK p l.n) = 0 := layE_0 h (nmK_ris _ _ _ (Nat.le_refl _))
def CellV (W : World) (b o : Nat) (v : Value) : Prop := W.cell? ⟨b, o, none⟩ = some v
theorem CellV.below {W W' : World} {b o Bs : Nat} {v : Value} (h : CellV W b o v) (hb : Below Bs W W') (hB : W.heap.size ≤ Bs) : CellV W' b o v := ((hb.mono hB).cell (lt_of_cell (w := W) (by unfold CellV at h; exact h))).trans h
end Go.Proofs.Ytigohccehllmnaa
