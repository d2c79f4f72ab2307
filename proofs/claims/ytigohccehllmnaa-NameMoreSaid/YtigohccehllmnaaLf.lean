/- Stage 6: sides as lists of names, and what they cut. -/
import Derived.Test.YtigohccehllmnaaLe
import Derived.Test.YtigohccehllmnaaDk9
namespace Go.Proofs.Ytigohccehllmnaa
set_option linter.unusedSimpArgs false
set_option linter.unusedVariables false
open Go.RowKit Go.Shelf

section
variable {l : NL} {W : World} {c : Nat} (hn : NLs W l) (hch : chkL l = 0) (hc : l.N = (c : Int))
include hn hch hc
end
theorem ris_snoc {c : Int} {zs : List Int} {x : Int} (h : risI c zs = true) (h1 : ∀ y ∈ zs, y < x) (h0 : 0 ≤ x) (hx : x < c) : risI c (zs ++ [x]) = true := by
  unfold risI at h ⊢
  rw [List.length_append, List.length_singleton, risK_succ]
  have e1 : ∀ j, j < zs.length → iAt (zs ++ [x]) j = iAt zs j := fun j hj => by
    rw [iAt_eq (by simp; omega), iAt_eq hj, List.getElem_append_left hj]
  have e2 : iAt (zs ++ [x]) zs.length = x := by rw [iAt_eq (by simp)]; simp
  have h3 : risK c (zs ++ [x]) zs.length = true := by
    unfold risK at h ⊢
    rw [List.all_eq_true] at h ⊢
    intro j hj
    have h4 := h j hj
    rw [List.mem_range] at hj
    unfold prvI at h4 ⊢
    rw [e1 j hj]
    split
    · rename_i e; rw [if_pos e] at h4; exact h4
    · rename_i e; rw [if_neg e] at h4; rw [e1 _ (by omega)]; exact h4
  rw [h3, e2, Bool.true_and, Bool.and_eq_true, decide_eq_true_iff, decide_eq_true_iff]
  refine ⟨?_, hx⟩
  unfold prvI
  split
  · omega
  · rw [e1 _ (by omega)]
    exact h1 _ (by rw [iAt_eq (by omega)]; exact List.getElem_mem _)
theorem nmK_ris (p : Int → Bool) (m : Nat) : ∀ k, k ≤ m → risI (m : Int) (nmK p k) = true
  | 0, _ => rfl
  | k + 1, hk => by
    have h := nmK_ris p m k (by omega)
    cases e : p (k : Int)
    · rw [nmK_no e]; exact h
    · rw [nmK_yes e]
      exact ris_snoc h (fun y hy => (mem_nmK.1 hy).2.1) (by omega) (by omega)
section
variable {l : NL} {W : World} {c : Nat} (hn : NLs W l) (hch : chkL l = 0) (hc : l.N = (c : Int))
include hn hch hc
end
end Go.Proofs.Ytigohccehllmnaa
