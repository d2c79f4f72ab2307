/- Stage 6: a chain, as it is asked for. -/
import Derived.Test.YtigohccehllmnaaJd9
import Derived.Test.YtigohccehllmnaaGl
namespace Go.Proofs.Ytigohccehllmnaa
set_option linter.unusedSimpArgs false
set_option linter.unusedVariables false
open Go.RowKit Go.Shelf

theorem chE_bad {l : NL} {ds : List Int} (h : layE l ds ≠ 0) : chE l ds = layE l ds := by unfold chE; rw [if_pos h]
theorem chE_ok {l : NL} {ds : List Int} (h : layE l ds = 0) : chE l ds = if jnB (labG l.zs ds l.n l.N.toNat) l.ls l.rs = true then 0 else 5 := by unfold chE; rw [if_neg (by omega)]
/-- What is returned for a chain. -/
theorem chainA (l : NL) (DA : Option Addr) (dn dc : Nat) (ds : List Int) (w : World) (h : NLs w l) (hD : Ints w DA dn ds) (hdc : dn ≤ dc) (hd6 : dn ≤ 1000000) :
    Calls Try.prog 20 #[.agg #[.int .i64 l.N, .slice l.A l.n l.cap, .slice l.LA l.ln l.lc, .slice l.RA l.rn l.rc], .slice DA dn dc] w fun e w' => ∃ C n cap ch, e = .returned (.tuple #[.slice C n cap, .int .i64 (chE l ds)]) ∧ n ≤ cap ∧ n ≤ 1000000 ∧ Ints w' C n ch ∧ (chE l ds ≠ 0 → n = 0) ∧ (chE l ds = 0 → layE l ds = 0 ∧ chkC l ds ch n = 0) ∧ Below w.heap.size w w' := by
  refine (chain20 l DA dn dc ds w h hD hdc hd6).mono ?_
  rintro e w' ⟨hh, hb⟩
  have hnil : Ints w' none 0 [] := ⟨rfl, fun h => absurd h (by omega)⟩
  rcases hh with ⟨h0, rfl⟩ | ⟨h0, ⟨C, cap, ws, a, en, rfl, hcp, hI, ha, he, hp, hw, hnd, hna, hw0, hw4⟩ | ⟨rfl, S1, hS1, hS2⟩⟩
  · rw [chE_bad h0]
    exact ⟨none, 0, 0, [], rfl, Nat.le_refl _, by omega, hnil, fun _ => rfl, fun e => absurd e h0, hb⟩
  · rw [chE_ok h0, jn_path h h0 ha he hp hw, if_pos rfl]
    exact ⟨C, _, cap, _, rfl, hcp, by omega, hI, fun e => absurd rfl e, fun _ => ⟨h0, chn_chk h h0 ha he hp hw hnd hna hw0⟩, hb⟩
  · rw [chE_ok h0, jn_none h h0 hS1 hS2, if_neg (by decide)]
    exact ⟨none, 0, 0, [], rfl, Nat.le_refl _, by omega, hnil, fun _ => rfl, fun e => absurd e (by decide), hb⟩
end Go.Proofs.Ytigohccehllmnaa
