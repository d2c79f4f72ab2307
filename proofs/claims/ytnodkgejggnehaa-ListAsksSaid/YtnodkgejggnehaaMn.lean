/- Stage 5: kinds of links as the document tells them: the mathematics. -/
import Derived.Test.YtnodkgejggnehaaKs
namespace Go.Proofs.Ytnodkgejggnehaa
set_option linter.unusedSimpArgs false
set_option linter.unusedVariables false
open Go.RowKit Go.Shelf
theorem mmF_map {α β : Type} {r : α → α → Bool} {r' : β → β → Bool} {g : β → α} (h : ∀ a b, r' a b = r (g a) (g b)) : ∀ (f : Nat) (L : List β), mmF r' f L = mmF r f (L.map g)
  | 0, _ => rfl
  | _ + 1, [] => rfl
  | f + 1, k :: L => by
    show max (mmF r' f L) (1 + mmF r' f (L.filter fun j => !r' k j)) = max (mmF r f (L.map g)) (1 + mmF r f ((L.map g).filter fun j => !r (g k) j))
    rw [mmF_map h f L, mmF_map h f, List.filter_map]
    congr 3
    congr 1
    refine List.filter_congr (fun j _ => ?_)
    simp [h]
/-- Names do not matter. -/
theorem mm_map {α β : Type} {r : α → α → Bool} {r' : β → β → Bool} {g : β → α} (h : ∀ a b, r' a b = r (g a) (g b)) (L : List β) : mm r' L = mm r (L.map g) := by
  unfold mm
  rw [List.length_map]; exact mmF_map h _ _
/-- A greatest joining has a link, or has it not. -/
theorem mm_either {n : Nat} {zs : List Rg} {op : Nat → Bool} {k : Nat} (hk : k < n) (hok : op k = true) : mm (mtB zs) (opL n op) ≤ mm (mtB zs) (opL n (opX op [(k : Int)])) ∨ mm (mtB zs) (opL n op) ≤ mm (mtB zs) (opL n (opW n zs op k)) + 1 := by
  obtain ⟨N, h1, h2, h3⟩ := mm_ex (mtB_symm zs) (opL n op)
  have hm := fun j (hj : j ∈ N) => mem_opL.1 (h2.subset hj)
  by_cases hkN : k ∈ N
  · right
    have hp := List.perm_cons_erase hkN
    have hMc : Mat (mtB zs) (k :: N.erase k) := (List.Perm.pairwise_iff (fun {a b} h => by rw [mtB_symm]; exact h) hp).1 h1
    obtain ⟨hM1, hM2⟩ := List.pairwise_cons.1 hMc
    have h4 := mm_ub (mtB_symm zs) (mtB_refl zs) (L := opL n (opW n zs op k)) hM2 (fun j hj => by
      obtain ⟨a, b⟩ := hm j (List.mem_of_mem_erase hj)
      refine mem_opL.2 ⟨a, ?_⟩
      unfold opW
      rw [b, mtB_symm, hM1 j hj]; simp)
    have hlen : N.length = (N.erase k).length + 1 := by rw [hp.length_eq]; rfl
    omega
  · left
    rw [← h3]
    exact mm_ub (mtB_symm zs) (mtB_refl zs) h1 (fun j hj => by
      obtain ⟨a, b⟩ := hm j hj
      refine mem_opL.2 ⟨a, ?_⟩
      unfold opX
      have hne : j ≠ k := fun e => hkN (by rw [← e]; exact hj)
      rw [b]; simp; omega)
/-- The kind of a link, as the document tells it. -/
def docK (n : Nat) (zs : List Rg) (ks : List Int) (k : Nat) : Int :=
  if (k : Int) ∈ ks then 2
  else if (tkB zs ks k || decide (sizeF n zs (opW n zs (opnL n zs ks) k) (ks.length + 1) < sizeF n zs (opnL n zs ks) ks.length)) = true then 0
  else if sizeF n zs (opX (opnL n zs ks) [(k : Int)]) ks.length < sizeF n zs (opnL n zs ks) ks.length then 2 else 1
theorem kNt_len (ks : List Int) : (kNt ks).length = ks.length := by simp [kNt]
theorem opL_congr {n : Nat} {op op' : Nat → Bool} (h : ∀ j, j < n → op j = op' j) : opL n op = opL n op' :=
  List.filter_congr (fun j hj => h j (List.mem_range.1 hj))
theorem kind_doc {n : Nat} {zs : List Rg} {ks : List Int} (hz : ZOk n zs) (hnm : NmOk n ks) {k : Nat} (hk : k < n) : kindS n zs (opnL n zs ks) (kNt ks) k = docK n zs ks k := by
  have hop : opnL n zs ks k = !tkB zs ks k := by unfold opnL; rw [decide_eq_true hk]; rfl
  unfold docK
  by_cases hin : (k : Int) ∈ ks
  · rw [if_pos hin]
    have htk : tkB zs ks k = true := (tkB_iff hz hnm hk).2 ⟨k, hk, hin, mtB_refl _ _⟩
    have hlt : (lessJ (kNt ks) [(k : Int)]).length < (kNt ks).length := by
      unfold lessJ
      refine List.length_filter_lt_length_iff_exists.2 ⟨k, (mem_kNt hnm).2 hin, by simp⟩
    have hmm : mm (mtB zs) (opL n (opX (opnL n zs ks) [(k : Int)])) = mm (mtB zs) (opL n (opnL n zs ks)) := by
      congr 1
      refine opL_congr (fun j hj => ?_)
      unfold opX
      by_cases e : j = k
      · subst e; rw [hop, htk]; rfl
      · have e2 : ¬ ((j : Int) ∈ [(k : Int)]) := by simp; omega
        rw [decide_eq_false e2]; simp
    unfold kindS
    rw [if_pos (by unfold sizeF; rw [hmm]; omega)]
  · rw [if_neg hin]
    have hle : lessJ (kNt ks) [(k : Int)] = kNt ks := by
      unfold lessJ
      refine List.filter_eq_self.2 (fun j hj => ?_)
      have hj2 := (mem_kNt hnm).1 hj
      have hne : j ≠ k := fun e => hin (by rw [← e]; exact hj2)
      simp; omega
    unfold kindS
    rw [hle, kNt_len]
    cases htk : tkB zs ks k with
    | true =>
      have hmm : mm (mtB zs) (opL n (opX (opnL n zs ks) [(k : Int)])) = mm (mtB zs) (opL n (opnL n zs ks)) := by
        congr 1
        refine opL_congr (fun j hj => ?_)
        unfold opX
        by_cases e : j = k
        · subst e; rw [hop, htk]; rfl
        · have e2 : ¬ ((j : Int) ∈ [(k : Int)]) := by simp; omega
          rw [decide_eq_false e2]; simp
      rw [if_neg (by unfold sizeF; rw [hmm]; omega), if_pos (by rw [hop, htk]; rfl), if_pos (by simp)]
    | false =>
      have hok : opnL n zs ks k = true := by rw [hop, htk]; rfl
      rw [if_neg (show ¬ opnL n zs ks k = false by rw [hok]; simp), Bool.false_or]
      by_cases hX : sizeF n zs (opX (opnL n zs ks) [(k : Int)]) ks.length < sizeF n zs (opnL n zs ks) ks.length
      · have hW : ¬ sizeF n zs (opW n zs (opnL n zs ks) k) (ks.length + 1) < sizeF n zs (opnL n zs ks) ks.length := by
          unfold sizeF at hX ⊢
          rcases mm_either (zs := zs) hk hok with h | h <;> omega
        rw [if_pos hX, if_neg (by simpa using hW), if_pos hX]
      · rw [if_neg hX, if_neg hX]
        by_cases hW : sizeF n zs (opW n zs (opnL n zs ks) k) (ks.length + 1) < sizeF n zs (opnL n zs ks) ks.length
        · rw [if_pos hW, if_pos (by simpa using hW)]
        · rw [if_neg hW, if_neg (by simpa using hW)]
end Go.Proofs.Ytnodkgejggnehaa
