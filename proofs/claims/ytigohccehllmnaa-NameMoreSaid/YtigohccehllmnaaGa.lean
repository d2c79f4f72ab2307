/- Stage 6: groups, as they are asked for. -/
import Derived.Test.YtigohccehllmnaaLw
import Derived.Test.YtigohccehllmnaaG69
namespace Go.Proofs.Ytigohccehllmnaa
set_option linter.unusedSimpArgs false
set_option linter.unusedVariables false
open Go.RowKit Go.Shelf

/-- The groups that are asked for. -/
def docG (l : NL) (ds : List Int) : List (List Int) := if layE l ds ≠ 0 then [] else dgK (labG l.zs ds l.n l.N.toNat) l.N.toNat l.N.toNat
theorem docG_bad {l : NL} {ds : List Int} (h : layE l ds ≠ 0) : docG l ds = [] := by unfold docG; rw [if_pos h]
theorem docG_ok {l : NL} {ds : List Int} (h : layE l ds = 0) : docG l ds = dgK (labG l.zs ds l.n l.N.toNat) l.N.toNat l.N.toNat := by unfold docG; rw [if_neg (by omega)]
theorem rows_nil (W : World) : Rows W none 0 [] := ⟨rfl, fun h => absurd h (by omega)⟩
theorem docG_small {l : NL} {ds : List Int} : (docG l ds).length ≤ 10000 ∧ ∀ x ∈ docG l ds, x.length ≤ 10000 := by
  unfold docG
  split
  · exact ⟨by simp, fun x hx => by cases hx⟩
  · rename_i h
    have hN := (chk_zero (layE_ok (l := l) (ds := ds) (by omega)).1).1
    exact ⟨by have := dgK_len (labG l.zs ds l.n l.N.toNat) l.N.toNat l.N.toNat; omega, fun x hx => by have := dg_small _ _ _ x hx; omega⟩
/-- What both functions of groups return. -/
theorem groupsA (l : NL) (DA : Option Addr) (dn dc : Nat) (ds : List Int) (w : World) (h : NLs w l) (hD : Ints w DA dn ds) (hdc : dn ≤ dc) (hd6 : dn ≤ 1000000) :
    Calls Try.prog 15 #[.agg #[.int .i64 l.N, .slice l.A l.n l.cap, .slice l.LA l.ln l.lc, .slice l.RA l.rn l.rc], .slice DA dn dc] w fun e w' => ∃ C cap, e = .returned (.tuple #[.slice C (docG l ds).length cap, .int .i64 (layE l ds)]) ∧ (docG l ds).length ≤ cap ∧ Rows w' C (docG l ds).length (docG l ds) ∧ Below w.heap.size w w' := by
  refine (groups15 l DA dn dc ds w h hD hdc hd6).mono ?_
  rintro e w' ⟨hh, hb⟩
  rcases hh with ⟨h0, rfl⟩ | ⟨h0, C, cap, gs, G, rfl, hc, hR, hG⟩
  · rw [docG_bad h0]
    exact ⟨none, 0, rfl, Nat.le_refl _, rows_nil _, hb⟩
  · have := gps_ref h h0 hG
    rw [docG_ok h0, ← this, h0]
    exact ⟨C, cap, rfl, hc, hR, hb⟩
end Go.Proofs.Ytigohccehllmnaa
