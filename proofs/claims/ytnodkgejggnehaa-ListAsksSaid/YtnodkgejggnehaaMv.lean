/- Stage 5: a sheet with one link known: the mathematics. -/
import Derived.Test.YtnodkgejggnehaaMn
import Derived.Test.YtnodkgejggnehaaKw
namespace Go.Proofs.Ytnodkgejggnehaa
set_option linter.unusedSimpArgs false
set_option linter.unusedVariables false
open Go.RowKit Go.Shelf
theorem kwP_mem (k : Int) (ks : List Int) (x : Int) : ∀ q, q ≤ ks.length → (x ∈ (kwP k ks q).1 ↔ ((kwP k ks q).2 = true ∧ x = k) ∨ x ∈ ks.take q)
  | 0, _ => by simp [kwP]
  | q + 1, hq => by
    have ih := kwP_mem k ks x q (by omega)
    have hl : q < ks.length := by omega
    rw [List.take_succ_eq_append_getElem hl, ← iAt_eq hl]
    unfold kwP
    split
    · rename_i h
      simp only [Bool.and_eq_true, Bool.not_eq_true'] at h
      rw [h.1] at ih
      simp only [List.mem_append, List.mem_singleton, ih]
      simp only [Bool.false_eq_true, false_and, false_or, true_and]
      constructor
      · rintro ((h1 | h1) | h1)
        · exact .inr (.inl h1)
        · exact .inl h1
        · exact .inr (.inr h1)
      · rintro (h1 | h1 | h1)
        · exact .inl (.inr h1)
        · exact .inl (.inl h1)
        · exact .inr h1
    · simp only [List.mem_append, List.mem_singleton, ih]
      constructor
      · rintro ((h1 | h1) | h1)
        · exact .inl h1
        · exact .inr (.inl h1)
        · exact .inr (.inr h1)
      · rintro (h1 | h1 | h1)
        · exact .inl (.inl h1)
        · exact .inl (.inr h1)
        · exact .inr h1
theorem knwL_mem (k : Int) (ks : List Int) (x : Int) : x ∈ knwL k ks ↔ x = k ∨ x ∈ ks := by
  have h := kwP_mem k ks x ks.length (Nat.le_refl _)
  rw [List.take_length] at h
  unfold knwL
  split
  · rename_i e
    rw [h, e]; simp
  · rename_i e
    rw [List.mem_append, h]
    have e2 : (kwP k ks ks.length).2 = false := by simpa using e
    rw [e2]
    simp only [Bool.false_eq_true, false_and, false_or, List.mem_singleton]
    exact ⟨fun h => h.elim .inr .inl, fun h => h.elim .inr .inl⟩
/-- What is open when a link is known. -/
theorem kw_op {n : Nat} {zs : List Rg} {ks : List Int} (hz : ZOk n zs) {k : Nat} (hk : k < n) {j : Nat} (hj : j < n) : opnL n zs (knwL (k : Int) ks) j = opW n zs (opnL n zs ks) k j := by
  unfold opnL opW
  rw [decide_eq_true hj]
  have e : tkB zs (knwL (k : Int) ks) j = (tkB zs ks j || mtB zs j k) := by
    unfold tkB
    refine Bool.eq_iff_iff.2 ?_
    rw [Bool.or_eq_true, List.any_eq_true, List.any_eq_true, ← meB_eq hz hj hk]
    constructor
    · rintro ⟨x, hx, h⟩
      rcases (knwL_mem _ _ _).1 hx with rfl | hx
      · right; simpa using h
      · exact .inl ⟨x, hx, h⟩
    · rintro (⟨x, hx, h⟩ | h)
      · exact ⟨x, (knwL_mem _ _ _).2 (.inr hx), h⟩
      · exact ⟨(k : Int), (knwL_mem _ _ _).2 (.inl rfl), by simpa using h⟩
  rw [e]
  show (true && !(tkB zs ks j || mtB zs j k)) = ((decide (j < n) && !tkB zs ks j) && !(true && mtB zs j k))
  rw [decide_eq_true hj]
  cases tkB zs ks j <;> cases mtB zs j k <;> rfl
theorem kw_size {n : Nat} {zs : List Rg} {ks : List Int} (hz : ZOk n zs) {k : Nat} (hk : k < n) : sizeF n zs (opnL n zs (knwL (k : Int) ks)) (knwL (k : Int) ks).length = sizeF n zs (opW n zs (opnL n zs ks) k) (ks.length + 1) := by
  unfold sizeF
  rw [knwL_len, opL_congr (fun j hj => kw_op hz hk hj)]
end Go.Proofs.Ytnodkgejggnehaa
