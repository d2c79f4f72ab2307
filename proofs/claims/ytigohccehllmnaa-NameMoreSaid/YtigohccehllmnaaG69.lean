/- Stage 6: the document's groups. -/
import Derived.Test.YtigohccehllmnaaGl
import Derived.Test.YtigohccehllmnaaRf
import Derived.Test.YtigohccehllmnaaLd
import Derived.Test.YtigohccehllmnaaSc
namespace Go.Proofs.Ytigohccehllmnaa
set_option linter.unusedSimpArgs false
set_option linter.unusedVariables false
open Go.RowKit Go.Shelf

section
attribute [local go_sem ↓] exec_app at_app
attribute [local go_sem] Oper.semAt_some
end
end Go.Proofs.Ytigohccehllmnaa

namespace Go.Proofs.Ytigohccehllmnaa
set_option linter.unusedSimpArgs false
set_option linter.unusedVariables false
open Go.RowKit Go.Shelf

/-- The label of a name is a number. -/
def labP (lab : Int → Int) (n : Nat) : Int → Bool := fun x => decide (lab x = (n : Int))
theorem dgK_yes {lab : Int → Int} {c k : Nat} (h : 0 < (nmK (labP lab k) c).length) : dgK lab c (k + 1) = dgK lab c k ++ [nmK (labP lab k) c] := by
  have h' : 0 < (nmK (fun x => decide (lab x = (k : Int))) c).length := h
  simp only [dgK]; rw [if_pos h']; rfl
theorem dgK_no {lab : Int → Int} {c k : Nat} (h : ¬ 0 < (nmK (labP lab k) c).length) : dgK lab c (k + 1) = dgK lab c k := by
  have h' : ¬ 0 < (nmK (fun x => decide (lab x = (k : Int))) c).length := h
  simp only [dgK]; rw [if_neg h']
theorem dgK_len (lab : Int → Int) (c : Nat) : ∀ k, (dgK lab c k).length ≤ k
  | 0 => Nat.le_refl _
  | k + 1 => by
    have := dgK_len lab c k
    simp only [dgK]
    split
    · rw [List.length_append]; simp; omega
    · omega
section
attribute [local go_sem ↓] exec_app at_app
attribute [local go_sem] Oper.semAt_some
end
end Go.Proofs.Ytigohccehllmnaa
