/- Stage 6: what the laws share. -/
import Derived.Test.YtigohccehllmnaaWk
import Derived.Test.YtigohccehllmnaaGl
namespace Go.Proofs.Ytigohccehllmnaa
set_option linter.unusedSimpArgs false
set_option linter.unusedVariables false
open Go.RowKit Go.Shelf

/-- A list that came in. -/
structure NLo (w : World) (l : NL) : Prop where
  zs : Nls w l.A l.n l.zs
  ls : Ints w l.LA l.ln l.ls
  rs : Ints w l.RA l.rn l.rs
  nc : l.n ≤ l.cap
  lc : l.ln ≤ l.lc
  rc : l.rn ≤ l.rc
theorem NLo.below {w w' : World} {l : NL} {B : Nat} (h : NLo w l) (hb : Below B w w') (hB : w.heap.size ≤ B) : NLo w' l := ⟨h.zs.below hb hB, h.ls.below hb hB, h.rs.below hb hB, h.nc, h.lc, h.rc⟩
theorem grt_no {l : NL} (h : grtL l = false) : l.n ≤ 130 ∧ l.ln ≤ 20 ∧ l.rn ≤ 20 := by
  unfold grtL at h
  simp only [Bool.or_eq_false_iff, decide_eq_false_iff_not] at h
  omega
theorem NLo.nls {w : World} {l : NL} (h : NLo w l) (hg : grtL l = false) : NLs w l :=
  ⟨h.zs, h.ls, h.rs, h.nc, h.lc, h.rc, by have := grt_no hg; omega, by have := grt_no hg; omega, by have := grt_no hg; omega⟩
theorem dg_small (lab : Int → Int) (c : Nat) : ∀ k, ∀ x ∈ dgK lab c k, x.length ≤ c
  | 0, x, hx => by cases hx
  | k + 1, x, hx => by
    simp only [dgK] at hx
    split at hx
    · rcases List.mem_append.1 hx with hx | hx
      · exact dg_small lab c k x hx
      · rw [List.mem_singleton] at hx
        rw [hx]; exact nmK_len _ _
    · exact dg_small lab c k x hx
end Go.Proofs.Ytigohccehllmnaa
