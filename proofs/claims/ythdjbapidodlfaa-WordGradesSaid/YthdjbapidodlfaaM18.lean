/- Stage 4: Matches, of the document. -/
import Derived.Test.YthdjbapidodlfaaAll
import Derived.Test.YthdjbapidodlfaaR30
namespace Go.Proofs.Ythdjbapidodlfaa
set_option linter.unusedSimpArgs false
set_option linter.unusedVariables false
open Go.RowKit Go.Shelf
attribute [local go_sem ↓] exec_app at_app
attribute [local go_sem] Oper.semAt_some

theorem allS_all {zs : List Rg} {L : List (List Int)} {m : Nat} (hl : L.length = m) (h : chkL zs L = 0) : allS (refC (prs zs)) L m = (mtS (cls (prs zs)) L).map (·.take m) :=
  (allS_mtS (lv_of hl h) (fun a b ha hb => refC_cls (inW_prs (chkB_zero.1 (chkL_zero.1 h).1).2) ha hb)).symm
end Go.Proofs.Ythdjbapidodlfaa
