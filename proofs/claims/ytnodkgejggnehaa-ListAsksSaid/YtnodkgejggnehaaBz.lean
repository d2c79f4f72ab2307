/- Stage 5: a joining as a set of names; a set in memory. -/
import Derived.Test.YtnodkgejggnehaaGt
import Derived.Deep.QuietTactic
import Derived.Deep.RegionHeld3
import Derived.IntWalk
import Derived.Deep.Cut
import Derived.Deep.CutRange
namespace Go.Proofs.Ytnodkgejggnehaa
set_option linter.unusedSimpArgs false
set_option linter.unusedVariables false
open Go.RowKit Go.Shelf
/-- A set of names as ones and zeros. -/
def bI (b : Bool) : Int := if b = true then 1 else 0
def inL (n : Nat) (p : Nat → Bool) : List Int := (List.range n).map fun j => bI (p j)
theorem inL_at {n : Nat} {p : Nat → Bool} {j : Nat} (h : j < n) : (flatI (inL n p))[j]? = some (.int .i64 (bI (p j))) := by
  simp [flatI, inL, h]
def InR (W : World) (G n : Nat) (p : Nat → Bool) : Prop := W.heap[G]? = some (.cells (flatI (inL n p)).toArray 3 (0, 0))
theorem InR.cell {W : World} {G n : Nat} {p : Nat → Bool} (h : InR W G n p) {j : Nat} (hj : j < n) : W.cell? ⟨G, j, none⟩ = some (.int .i64 (bI (p j))) := by
  rw [cell_row h]; simpa using inL_at hj
def updB (p : Nat → Bool) (k : Nat) : Nat → Bool := fun j => p j || decide (j = k)
theorem InR.set {W : World} {G n : Nat} {p : Nat → Bool} (h : InR W G n p) (k : Nat) (hk : k < n) : InR (W.setCell ⟨G, k, none⟩ (.int .i64 1)) G n (updB p k) := by
  unfold InR at h ⊢
  rw [set_same k _ h]
  congr 2
  apply Array.ext_getElem?
  intro j
  rw [Array.getElem?_setIfInBounds]
  by_cases hjk : k = j
  · subst hjk
    rw [if_pos rfl, if_pos (by simp [flatI, inL]; exact hk)]
    rw [List.getElem?_toArray, inL_at hk]
    simp [updB, bI]
  · rw [if_neg hjk, List.getElem?_toArray, List.getElem?_toArray]
    by_cases hj : j < n
    · rw [inL_at hj, inL_at hj]
      simp [updB, show ¬ j = k from fun e => hjk e.symm]
    · rw [List.getElem?_eq_none (by simp [flatI, inL]; omega), List.getElem?_eq_none (by simp [flatI, inL]; omega)]
theorem InR.keep {W W' : World} {G n : Nat} {p : Nat → Bool} {B : Nat} (h : InR W G n p) (hb : Below B W W') (hB : G < B) : InR W' G n p := (hb.block _ hB).trans h
theorem inr_new {W : World} {n : Nat} : InR (W.alloc (.cells (flatI (List.replicate n 0)).toArray 3)) W.heap.size n (fun _ => false) := by
  unfold InR
  rw [heap_alloc_new_]
  have e : flatI (List.replicate n 0) = flatI (inL n (fun _ => false)) := by
    unfold inL
    congr 1
    apply List.ext_getElem <;> simp [bI]
  rw [e]
/-- No two of a set of names meet, and the known ones are in it. -/
structure JoP (n : Nat) (zs : List Rg) (ks : List Int) (p : Nat → Bool) : Prop where
  ap : ∀ j k, j < n → k < n → p j = true → p k = true → j ≠ k → mtB zs j k = false
  kn : ∀ k : Nat, (k : Int) ∈ ks → p k = true
def difB (zs : List Rg) (m k : Nat) : Bool := ((gAt zs m).lo != (gAt zs k).lo) && ((gAt zs m).hi != (gAt zs k).hi)
def freK (zs : List Rg) (p : Nat → Bool) (k m : Nat) : Bool := (List.range m).all fun j => !p j || difB zs j k
theorem freK_succ (zs : List Rg) (p : Nat → Bool) (k m : Nat) : freK zs p k (m + 1) = (freK zs p k m && (!p m || difB zs m k)) := by simp [freK, List.range_succ]
theorem JoP.start {n : Nat} {zs : List Rg} {ks : List Int} {sl sr : Int} (he : chkS sl sr zs ks = 0) (hn : zs.length = n) {p : Nat → Bool} (hp : ∀ j : Nat, p j = true ↔ (j : Int) ∈ ks) : JoP n zs ks p := by
  subst hn
  have S := shg_of he
  refine ⟨fun j k hj hk h1 h2 hne => ?_, fun k hk => (hp k).2 hk⟩
  obtain ⟨a, ha, ea⟩ := List.getElem_of_mem ((hp j).1 h1)
  obtain ⟨b, hb, eb⟩ := List.getElem_of_mem ((hp k).1 h2)
  have hab : a ≠ b := fun e => by subst e; rw [ea] at eb; omega
  have h9 := fun l hl => S.ap a b ha hb hab l hl
  rw [iAt_eq ha, iAt_eq hb, ea, eb, Int.toNat_natCast, Int.toNat_natCast] at h9
  unfold mtB
  rw [Bool.or_eq_false_iff, decide_eq_false_iff_not, decide_eq_false_iff_not]
  exact ⟨h9 0 (by omega), h9 1 (by omega)⟩
theorem JoP.more {n : Nat} {zs : List Rg} {ks : List Int} {p : Nat → Bool} (hz : ZOk n zs) (h : JoP n zs ks p) {k : Nat} (hk : k < n) (hf : freK zs p k n = true) : JoP n zs ks (updB p k) := by
  have hfr : ∀ j, j < n → p j = true → mtB zs j k = false := fun j hj hp => by
    unfold freK at hf
    rw [List.all_eq_true] at hf
    have := hf j (List.mem_range.2 hj)
    rw [hp, Bool.not_true, Bool.false_or] at this
    unfold difB at this
    rw [Bool.and_eq_true, bne_iff_ne, bne_iff_ne, (hz.at hj).1, (hz.at hk).1] at this
    unfold mtB
    rw [Bool.or_eq_false_iff, decide_eq_false_iff_not, decide_eq_false_iff_not]
    exact ⟨fun e => this.1 (by rw [e]), fun e => this.2 (by rw [e])⟩
  refine ⟨fun i j hi hj h1 h2 hne => ?_, fun i hi => by unfold updB; rw [h.kn i hi]; rfl⟩
  unfold updB at h1 h2
  rw [Bool.or_eq_true, decide_eq_true_eq] at h1 h2
  rcases h1 with h1 | h1
  · rcases h2 with h2 | h2
    · exact h.ap i j hi hj h1 h2 hne
    · subst h2; exact hfr i hi h1
  · rcases h2 with h2 | h2
    · subst h1; rw [mtB_symm]; exact hfr j hj h2
    · omega
theorem fI_snoc (p : Nat → Bool) (n : Nat) : fI p (n + 1) = if p n = true then fI p n ++ [(n : Int)] else fI p n := by
  unfold fI
  rw [List.range_succ, List.filter_append, List.filter_cons, List.filter_nil]
  by_cases h : p n = true
  · rw [if_pos h, if_pos h]; simp
  · rw [if_neg h, if_neg h]; simp
theorem fI_len (p : Nat → Bool) (n : Nat) : (fI p n).length ≤ n := by
  unfold fI; rw [List.length_map]; exact Nat.le_trans (List.length_filter_le _ _) (by simp)
/-- The box of the sheet, and the set, in memory. -/
structure ByS (w : World) (R G n : Nat) (box : Array Value) (p : Nat → Bool) (W : World) : Prop where
  s : W.heap[R]? = some (.cells box 25 (0, 0))
  g : InR W G n p
  b : Below w.heap.size w W
  lt : R < G ∧ w.heap.size ≤ R
theorem ByS.new {w : World} {R G n : Nat} {box : Array Value} {p : Nat → Bool} {W W' : World} (h : ByS w R G n box p W) (hb : Below W.heap.size W W') : ByS w R G n box p W' :=
  ⟨(hb.block _ (lt_of_block h.s)).trans h.s, h.g.keep hb (lt_of_block h.g), h.b.trans (hb.mono h.b.size), h.lt⟩
theorem ByS.set {w : World} {R G n : Nat} {box : Array Value} {p : Nat → Bool} {W : World} (h : ByS w R G n box p W) {k : Nat} (hk : k < n) : ByS w R G n box (updB p k) (W.setCell ⟨G, k, none⟩ (.int .i64 1)) := by
  have hkp := keeps_setCell W G k (.int .i64 1)
  have hl := h.lt
  exact ⟨(hkp.block _ (lt_of_block h.s) (by omega)).trans h.s, h.g.set k hk, h.b.trans (hkp.below h.b.size (fun j hj e => by omega)), hl⟩
end Go.Proofs.Ytnodkgejggnehaa
