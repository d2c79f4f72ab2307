/- Stage 4: certain matches (mathematics for WordCertain). -/
import Derived.Test.YthdjbapidodlfaaPvn
namespace Go.Proofs.Ythdjbapidodlfaa
set_option linter.unusedSimpArgs false
set_option linter.unusedVariables false
open Go.RowKit Go.Shelf
theorem fst_lng {nm : List Int} {L : List (List Int)} {m : Nat} (hL : LV L m) : fstS nm L m (mtS nm L) ∈ lngS nm L m :=
  List.mem_of_mem_head? (grd_first (mtS_nodup (nm := nm) hL) (bef_irr hL) (mtS_sorted hL) (lev_ok hL) (bS_lev hL) (top_ok hL))
end Go.Proofs.Ythdjbapidodlfaa
