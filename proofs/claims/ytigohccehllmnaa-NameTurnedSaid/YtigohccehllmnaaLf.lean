/- Stage 6: sides as lists of names, and what they cut. -/
import Derived.Test.YtigohccehllmnaaLe
import Derived.Test.YtigohccehllmnaaDk9
namespace Go.Proofs.Ytigohccehllmnaa
set_option linter.unusedSimpArgs false
set_option linter.unusedVariables false
open Go.RowKit Go.Shelf

theorem sB_nmK {S : Int → Bool} {c : Nat} {x : Int} (h0 : 0 ≤ x) (h1 : x < (c : Int)) : sB (nmK S c) x = S x := by
  unfold sB
  rw [Bool.eq_iff_iff, decide_eq_true_iff, mem_nmK]
  exact ⟨fun h => h.2.2, fun h => ⟨h0, h1, h⟩⟩
theorem csK_cost {zs : List Nl} {n : Nat} (hl : zs.length = n) (s : List Int) : csK zs s n = costS zs (sB s) := by
  subst hl; rfl
theorem csK_nmK {zs : List Nl} {n c : Nat} (hz : OkL c zs) (hl : zs.length = n) (S : Int → Bool) : csK zs (nmK S c) n = costS zs S := by
  rw [csK_cost hl]
  exact cost_congr hz fun x hx => sB_nmK (by omega) (by omega)
theorem sideB_iff {l : NL} {ss : List Int} : sideB l ss = true ↔ IsSd l.ls l.rs (sB ss) := by
  unfold sideB IsSd sB
  rw [Bool.and_eq_true, List.all_eq_true, Bool.not_eq_true', List.any_eq_false]
  refine ⟨fun h => ⟨h.1, fun y hy => by have := h.2 y hy; simpa using this⟩, fun h => ⟨h.1, fun y hy => by have := h.2 y hy; simpa using this⟩⟩
theorem isSd_nmK {l : NL} {W : World} (hn : NLs W l) (hch : chkL l = 0) {c : Nat} (hc : l.N = (c : Int)) (S : Int → Bool) : IsSd l.ls l.rs (sB (nmK S c)) ↔ IsSd l.ls l.rs S := by
  have hl : ∀ y ∈ l.ls, sB (nmK S c) y = S y := fun y hy => by have := ls_in hn hch hy; exact sB_nmK this.1 (by omega)
  have hr : ∀ y ∈ l.rs, sB (nmK S c) y = S y := fun y hy => by have := rs_in hn hch hy; exact sB_nmK this.1 (by omega)
  exact ⟨fun h => ⟨fun y hy => by rw [← hl y hy]; exact h.1 y hy, fun y hy => by rw [← hr y hy]; exact h.2 y hy⟩, fun h => ⟨fun y hy => by rw [hl y hy]; exact h.1 y hy, fun y hy => by rw [hr y hy]; exact h.2 y hy⟩⟩
section
variable {l : NL} {W : World} {c : Nat} (hn : NLs W l) (hch : chkL l = 0) (hc : l.N = (c : Int))
include hn hch hc
theorem okl_c : OkL c l.zs := by
  have := okl_list hn hch
  rw [show l.N.toNat = c by omega] at this
  exact this
end
theorem ris_snoc {c : Int} {zs : List Int} {x : Int} (h : risI c zs = true) (h1 : ∀ y ∈ zs, y < x) (h0 : 0 ≤ x) (hx : x < c) : risI c (zs ++ [x]) = true := by
  unfold risI at h ⊢
  rw [List.length_append, List.length_singleton, risK_succ]
  have e1 : ∀ j, j < zs.length → iAt (zs ++ [x]) j = iAt zs j := fun j hj => by
    rw [iAt_eq (by simp; omega), iAt_eq hj, List.getElem_append_left hj]
  have e2 : iAt (zs ++ [x]) zs.length = x := by rw [iAt_eq (by simp)]; simp
  have h3 : risK c (zs ++ [x]) zs.length = true := by
    unfold risK at h ⊢
    rw [List.all_eq_true] at h ⊢
    intro j hj
    have h4 := h j hj
    rw [List.mem_range] at hj
    unfold prvI at h4 ⊢
    rw [e1 j hj]
    split
    · rename_i e; rw [if_pos e] at h4; exact h4
    · rename_i e; rw [if_neg e] at h4; rw [e1 _ (by omega)]; exact h4
  rw [h3, e2, Bool.true_and, Bool.and_eq_true, decide_eq_true_iff, decide_eq_true_iff]
  refine ⟨?_, hx⟩
  unfold prvI
  split
  · omega
  · rw [e1 _ (by omega)]
    exact h1 _ (by rw [iAt_eq (by omega)]; exact List.getElem_mem _)
theorem nmK_ris (p : Int → Bool) (m : Nat) : ∀ k, k ≤ m → risI (m : Int) (nmK p k) = true
  | 0, _ => rfl
  | k + 1, hk => by
    have h := nmK_ris p m k (by omega)
    cases e : p (k : Int)
    · rw [nmK_no e]; exact h
    · rw [nmK_yes e]
      exact ris_snoc h (fun y hy => (mem_nmK.1 hy).2.1) (by omega) (by omega)
/-- The links that a side cuts. -/
def ctS (l : NL) (S : Int → Bool) : List Int := nmK (fun x => cutB l.zs S x.toNat) l.n
theorem ctK_nmK (zs : List Nl) (ss : List Int) : ∀ k, ctK zs ss k = nmK (fun x => cutB zs (sB ss) x.toNat) k
  | 0 => rfl
  | k + 1 => by
    simp only [ctK]
    rw [ctK_nmK zs ss k]
    cases e : cutB zs (sB ss) k
    · rw [if_neg (by decide), nmK_no (by rw [Int.toNat_natCast]; exact e)]
    · rw [if_pos rfl, nmK_yes (by rw [Int.toNat_natCast]; exact e)]
section
variable {l : NL} {W : World} {c : Nat} (hn : NLs W l) (hch : chkL l = 0) (hc : l.N = (c : Int))
include hn hch hc
theorem ct_side (S : Int → Bool) : ctK l.zs (nmK S c) l.n = ctS l S := by
  rw [ctK_nmK]
  refine nmK_congr fun k hk => ?_
  have hz := okl_c hn hch hc k (by rw [hn.zs.1]; exact hk)
  rw [Int.toNat_natCast]
  unfold cutB
  rw [sB_nmK hz.1.1 hz.1.2, sB_nmK hz.2.1.1 hz.2.1.2]
theorem cutE_side {S : Int → Bool} (hS : IsSd l.ls l.rs S) : cutE l (nmK S c) = 0 := by
  rw [cut_side (by rw [layE_nil]; exact hch) (by rw [hc]; exact nmK_ris S c c (Nat.le_refl _)), if_pos (sideB_iff.2 ((isSd_nmK hn hch hc S).2 hS))]
end
theorem cutS (l : NL) (S : Int → Bool) (c : Nat) (SA : Option Addr) (n sc : Nat) (ss : List Int) (w : World) (h : NLs w l) (hch : chkL l = 0) (hcN : l.N = (c : Int)) (hss : ss = nmK S c) (hI : Ints w SA n ss) (hsc : n ≤ sc) (hS : IsSd l.ls l.rs S) :
    Calls Try.prog 24 #[.agg #[.int .i64 l.N, .slice l.A l.n l.cap, .slice l.LA l.ln l.lc, .slice l.RA l.rn l.rc], .slice SA n sc] w fun e w' => ∃ C cp, e = .returned (.tuple #[.slice C (ctS l S).length cp, .int .i64 (costS l.zs S), .int .i64 0]) ∧ (ctS l S).length ≤ cp ∧ Ints w' C (ctS l S).length (ctS l S) ∧ Below w.heap.size w w' := by
  subst hss
  have hN := (chk_zero hch).1
  have hl := nmK_len S c
  have hl2 := hI.1
  refine (cut24 l SA n sc (nmK S c) w h hI hsc (by omega)).mono ?_
  rintro e w' ⟨hh, hb⟩
  rcases hh with ⟨h0, -⟩ | ⟨-, C, cp, rfl, hcp, hI2⟩
  · exact absurd (cutE_side h hch hcN hS) h0
  · rw [ct_side h hch hcN] at hcp hI2 ⊢
    rw [csK_nmK (okl_c h hch hcN) h.zs.1]
    exact ⟨C, cp, rfl, hcp, hI2, hb⟩
theorem cutS25 (l : NL) (S : Int → Bool) (c : Nat) (SA : Option Addr) (n sc : Nat) (ss : List Int) (w : World) (h : NLs w l) (hch : chkL l = 0) (hcN : l.N = (c : Int)) (hss : ss = nmK S c) (hI : Ints w SA n ss) (hS : IsSd l.ls l.rs S) :
    Calls Try.prog 25 #[.agg #[.int .i64 l.N, .slice l.A l.n l.cap, .slice l.LA l.ln l.lc, .slice l.RA l.rn l.rc], .slice SA n sc] w fun e w' => ∃ C cp, e = .returned (.tuple #[.slice C (ctS l S).length cp, .int .i64 (costS l.zs S), .int .i64 0]) ∧ (ctS l S).length ≤ cp ∧ Ints w' C (ctS l S).length (ctS l S) ∧ Below w.heap.size w w' := by
  subst hss
  have hN := (chk_zero hch).1
  have hl := nmK_len S c
  have hl2 := hI.1
  refine (refCut25 l SA n sc (nmK S c) w h hI (by omega)).mono ?_
  rintro e w' ⟨hh, hb⟩
  rcases hh with ⟨h0, -⟩ | ⟨-, C, cp, rfl, hcp, hI2⟩
  · exact absurd (cutE_side h hch hcN hS) h0
  · rw [ct_side h hch hcN] at hcp hI2 ⊢
    rw [csK_nmK (okl_c h hch hcN) h.zs.1]
    exact ⟨C, cp, rfl, hcp, hI2, hb⟩
end Go.Proofs.Ytigohccehllmnaa
