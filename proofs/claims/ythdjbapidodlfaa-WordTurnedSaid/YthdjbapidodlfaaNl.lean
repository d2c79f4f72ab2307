/- Stage 4: empty lists, lengths of matches, what fine says, small numbers that came in. -/
import Derived.Test.YthdjbapidodlfaaLvm
import Derived.Test.YthdjbapidodlfaaDf
import Derived.Test.YthdjbapidodlfaaWk
namespace Go.Proofs.Ythdjbapidodlfaa
set_option linter.unusedSimpArgs false
set_option linter.unusedVariables false
open Go.RowKit Go.Shelf
theorem lns_nil (w : World) : Lns w none 0 [] := ⟨rfl, fun h => absurd h (by omega)⟩
theorem ints_nil (w : World) : Ints w none 0 [] := ⟨rfl, fun h => absurd h (by omega)⟩
theorem lAt_le {l : List (List Int)} {k : Nat} (h : ∀ x ∈ l, x.length ≤ k) (j : Nat) : (lAt l j).length ≤ k := by
  unfold lAt
  rw [List.getD_eq_getElem?_getD]
  rcases Nat.lt_or_ge j l.length with hj | hj
  · rw [List.getElem?_eq_getElem hj]
    exact h _ (List.getElem_mem hj)
  · rw [List.getElem?_eq_none hj]
    simp
theorem take_lens {nm : List Int} {L : List (List Int)} {m : Nat} (hL : LV L m) : ∀ j, j < (mtS nm L).length → (lAt ((mtS nm L).map (·.take m)) j).length = m := by
  intro j hj
  rw [lAt_take, List.length_take, lAt_eq hj, (mtS_len hL).2 _ (List.getElem_mem hj)]
  have := hL.hi
  omega
theorem fnB_ok {n : Nat} {zs : List Rg} {L : List (List Int)} (h : fnB n zs L = true) : chkL zs L = 0 := by
  simp only [fnB, Bool.and_eq_true, decide_eq_true_eq] at h
  exact h.1.2
/-- Small numbers that came in. -/
def ByU (w : World) (A3 : Option Addr) (nb : Nat) : Prop := ∀ j, j < nb → ∃ (b o u : Nat), A3 = some ⟨b, o, none⟩ ∧ u ≤ 255 ∧ w.cell? ⟨b, o + j, none⟩ = some (.int .u8 (u : Int))
theorem ByU.below {w w' : World} {A3 : Option Addr} {nb B : Nat} (h : ByU w A3 nb) (hb : Below B w w') (hB : w.heap.size ≤ B) : ByU w' A3 nb := fun j hj => by
  obtain ⟨b, o, u, h1, h2, h3⟩ := h j hj
  exact ⟨b, o, u, h1, h2, (hb.cell (p := ⟨b, o + j, none⟩) (Nat.lt_of_lt_of_le (lt_of_cell h3) hB)).trans h3⟩
theorem fnB_facts {n : Nat} {zs : List Rg} {L : List (List Int)} (h : fnB n zs L = true) : grtB n L = false ∧ chkL zs L = 0 ∧ (mtS (cls (prs zs)) L).length ≤ 1000 := by
  simp only [fnB, Bool.and_eq_true, decide_eq_true_eq, Bool.not_eq_true'] at h
  exact ⟨h.1.1, h.1.2, by omega⟩
end Go.Proofs.Ythdjbapidodlfaa
