/- Stage 4: the document's levels, and its check of levels, are the program's (mathematics). -/
import Derived.Test.YthdjbapidodlfaaU1
namespace Go.Proofs.Ythdjbapidodlfaa
set_option linter.unusedSimpArgs false
set_option linter.unusedVariables false
open Go.RowKit Go.Shelf

theorem lAt_take {mt : List (List Int)} {m j : Nat} : lAt (mt.map (·.take m)) j = (lAt mt j).take m := by
  unfold lAt
  rw [List.getD_eq_getElem?_getD, List.getD_eq_getElem?_getD, List.getElem?_map]
  cases mt[j]? <;> simp
theorem befB_lAt {mt : List (List Int)} {m i j : Nat} : befB (lAt (mt.map (·.take m)) i) (lAt (mt.map (·.take m)) j) m = befB (lAt mt i) (lAt mt j) m := by
  rw [lAt_take, lAt_take, befB_take]
end Go.Proofs.Ythdjbapidodlfaa
