/- Stage 4: longest passages and right levels (mathematics for WordProved). -/
import Derived.Test.YthdjbapidodlfaaLvm
namespace Go.Proofs.Ythdjbapidodlfaa
set_option linter.unusedSimpArgs false
set_option linter.unusedVariables false
open Go.RowKit Go.Shelf
/-- Passages are no longer than the greatest level. -/
theorem chain_len {nm : List Int} {L : List (List Int)} {m : Nat} (hL : LV L m) {K : Nat} (hK : Top (mtS nm L) (lv (mtS nm L) m) K) {q : List (List Int)} (hq : Chain' (bef m) q) (hm : ∀ x ∈ q, x ∈ mtS nm L) : q.length ≤ K := by
  rcases Nat.lt_or_ge K q.length with h | h
  · have h1 := chs_all hq hm
    rw [chs_none (eS_lev (mtS_nodup hL) (by have := hL.lo; omega) hL.hi (mtS_wpl hL)) hK h] at h1
    cases h1
  · exact h
end Go.Proofs.Ythdjbapidodlfaa
