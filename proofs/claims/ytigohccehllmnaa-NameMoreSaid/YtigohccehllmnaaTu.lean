/- Stage 6: lists that are turned: mathematics; a list of links that grows. -/
import Derived.Test.YtigohccehllmnaaLf
import Derived.Test.YtigohccehllmnaaLw
namespace Go.Proofs.Ytigohccehllmnaa
set_option linter.unusedSimpArgs false
set_option linter.unusedVariables false
open Go.RowKit Go.Shelf

theorem nls_own {W : World} {v : Value} {n : Nat} {xs : List Nl} (hl : xs.length = n) (h : W.ownsRow 0 60 3 v n (flatN xs)) : ∃ C cap, v = .slice C n cap ∧ n ≤ cap ∧ Nls W C n xs ∧ ∀ b o, C = some ⟨b, o, none⟩ → v.ownBlock = some b := by
  rcases h.2 with ⟨rfl, h0⟩ | ⟨g, cap, cur, rfl, hb, hg, hc, _, hsz, htake⟩
  · exact ⟨none, 0, by rw [h0], by omega, ⟨hl, fun e => by omega⟩, fun b o e => by cases e⟩
  · refine ⟨_, cap, rfl, hc, ⟨hl, fun _ => ⟨g, 0, rfl, fun j hj => ?_⟩⟩, fun b o e => by cases e; rfl⟩
    obtain ⟨a1, a2, a3⟩ := flatN_at xs j (by omega)
    have ha : ∀ i x, (flatN xs)[i]? = some x → i < n * 3 → cur[i]? = some x := fun i x e hi => by
      rw [← htake, List.getElem?_take_of_lt (by omega)] at e
      simpa using e
    refine ⟨?_, ?_, ?_⟩
    · rw [cell_row hg, Nat.zero_add]; exact ha _ _ a1 (by omega)
    · rw [cell_row hg, Nat.zero_add]; exact ha _ _ a2 (by omega)
    · rw [cell_row hg, Nat.zero_add]; exact ha _ _ a3 (by omega)
/-- The list with other links. -/
def lkX (l : NL) (A : Option Addr) (cap : Nat) (zs : List Nl) : NL := ⟨l.N, A, zs.length, cap, zs, l.LA, l.ln, l.lc, l.ls, l.RA, l.rn, l.rc, l.rs⟩
theorem lkX_nls {W : World} {l : NL} (h : NLs W l) {A : Option Addr} {cap : Nat} {zs : List Nl} (hz : Nls W A zs.length zs) (hc : zs.length ≤ cap) (h6 : zs.length ≤ 1000000) : NLs W (lkX l A cap zs) :=
  ⟨hz, h.ls, h.rs, hc, h.lc, h.rc, h6, h.l6, h.r6⟩
end Go.Proofs.Ytigohccehllmnaa
