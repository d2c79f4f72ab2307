/- A table in memory: a slice of slices of numbers, made by the call. Plain facts on worlds. -/
import Derived.Test.YtiankphkemakeaaFW
import Derived.Test.YtiankphkemakeaaFuncD
namespace Go.Proofs.Ytiankphkemakeaa
set_option linter.unusedSimpArgs false
set_option linter.unusedVariables false
open Go.RowKit Go.Shelf

def rowV (N : Nat) (rb rc : Nat → Nat) (j : Nat) : Value := .slice (some ⟨rb j, 0, none⟩) N (rc j)
/-- The first i rows are made. -/
structure Built (W : World) (base N i : Nat) (A : Option Addr) (cap : Nat) (rb rc : Nat → Nat) : Prop where
  own : W.ownsRow base 25 1 (.slice A i cap) i ((List.range i).map (rowV N rb rc))
  rlo : ∀ j, j < i → base ≤ rb j
  rows : ∀ j, j < i → ∃ cur : Array Value, W.heap[rb j]? = some (.cells cur 2 (0, 0)) ∧ ∀ k, k < N → cur[k]? = some (.int .i64 (tab0 j k))
  inj : ∀ j k, j < i → k < i → rb j = rb k → j = k
/-- The table d lies in block G and the rows' blocks. -/
structure Mat (W : World) (base N G : Nat) (rb rc : Nat → Nat) (d : Tab) : Prop where
  lo : base ≤ G
  rlo : ∀ i, i < N → base ≤ rb i
  outer : ∃ cur : Array Value, W.heap[G]? = some (.cells cur 25 (0, 0)) ∧ ∀ i, i < N → cur[i]? = some (rowV N rb rc i)
  rows : ∀ i, i < N → ∃ cur : Array Value, W.heap[rb i]? = some (.cells cur 2 (0, 0)) ∧ ∀ k, k < N → cur[k]? = some (.int .i64 (d i k))
  inj : ∀ i j, i < N → j < N → rb i = rb j → i = j

theorem Mat.cellO {W : World} {base N G : Nat} {rb rc : Nat → Nat} {d : Tab} (h : Mat W base N G rb rc d) {i : Nat} (hi : i < N) : W.cell? ⟨G, i, none⟩ = some (.slice (some ⟨rb i, 0, none⟩) N (rc i)) := by
  obtain ⟨cur, h1, h2⟩ := h.outer
  rw [cell_of_row W G i _ _ _ h1]
  exact h2 i hi
theorem Mat.cellI {W : World} {base N G : Nat} {rb rc : Nat → Nat} {d : Tab} (h : Mat W base N G rb rc d) {i k : Nat} (hi : i < N) (hk : k < N) : W.cell? ⟨rb i, k, none⟩ = some (.int .i64 (d i k)) := by
  obtain ⟨cur, h1, h2⟩ := h.rows i hi
  rw [cell_of_row W _ k _ _ _ h1]
  exact h2 k hk
theorem Mat.fz {W : World} {base N G : Nat} {rb rc : Nat → Nat} {d : Tab} (h : Mat W base N G rb rc d) {i : Nat} (hi : i < N) (k : Nat) : W.frozen? ⟨rb i, k, none⟩ = false := by
  obtain ⟨cur, h1, h2⟩ := h.rows i hi
  exact frozen_of_row W _ k _ _ h1
theorem Mat.ne {W : World} {base N G : Nat} {rb rc : Nat → Nat} {d : Tab} (h : Mat W base N G rb rc d) {i : Nat} (hi : i < N) : rb i ≠ G := by
  obtain ⟨cur, h1, h2⟩ := h.rows i hi
  obtain ⟨cur', h1', _⟩ := h.outer
  intro e
  rw [e, h1'] at h1
  simp at h1
theorem Mat.heap {W W' : World} {base N G : Nat} {rb rc : Nat → Nat} {d : Tab} (h : Mat W base N G rb rc d) (hO : W'.heap[G]? = W.heap[G]?) (hR : ∀ i, i < N → W'.heap[rb i]? = W.heap[rb i]?) : Mat W' base N G rb rc d := by
  refine ⟨h.lo, h.rlo, ?_, fun i hi => ?_, h.inj⟩
  · rw [hO]; exact h.outer
  · rw [hR i hi]; exact h.rows i hi
theorem Mat.below {W W' : World} {base N G : Nat} {rb rc : Nat → Nat} {d : Tab} (h : Mat W base N G rb rc d) (hb : Below W.heap.size W W') : Mat W' base N G rb rc d :=
  h.heap (by obtain ⟨cur, h1, _⟩ := h.outer; exact hb.block _ (lt_of_block h1)) (fun i hi => by obtain ⟨cur, h1, _⟩ := h.rows i hi; exact hb.block _ (lt_of_block h1))
theorem Mat.set {W : World} {base N G : Nat} {rb rc : Nat → Nat} {d : Tab} (h : Mat W base N G rb rc d) {i k : Nat} (hi : i < N) (hk : k < N) (x : Int) : Mat (W.setCell ⟨rb i, k, none⟩ (.int .i64 x)) base N G rb rc (upd d i k x) := by
  refine ⟨h.lo, h.rlo, ?_, fun j hj => ?_, h.inj⟩
  · rw [heap_setCell_other _ _ _ _ (h.ne hi).symm]; exact h.outer
  · by_cases e : j = i
    · subst e
      obtain ⟨cur, h1, h2⟩ := h.rows j hj
      refine ⟨_, heap_setCell_same _ _ k _ _ _ h1, fun b hb => ?_⟩
      have hlt : k < cur.size := by have := h2 k hk; exact (Array.getElem?_eq_some_iff.1 this).1
      by_cases e2 : b = k
      · subst e2
        rw [upd_same]
        simp [hlt]
      · rw [upd_other _ _ _ _ (fun hh => e2 hh.2)]
        rw [Array.getElem?_setIfInBounds_ne (fun hh => e2 hh.symm)]
        exact h2 b hb
    · obtain ⟨cur, h1, h2⟩ := h.rows j hj
      refine ⟨cur, (heap_setCell_other _ _ _ _ (fun hh => e (h.inj j i hj hi hh))).trans h1, fun b hb => ?_⟩
      rw [upd_other _ _ _ _ (fun hh => e hh.1)]
      exact h2 b hb
theorem Mat.drew {W : World} {base N G : Nat} {rb rc : Nat → Nat} {d : Tab} (h : Mat W base N G rb rc d) : Mat W.drew base N G rb rc d := h.heap rfl (fun _ _ => rfl)
theorem Built.heap {W W' : World} {base N i : Nat} {A : Option Addr} {cap : Nat} {rb rc : Nat → Nat} (h : Built W base N i A cap rb rc) (hb : Below W.heap.size W W') : Built W' base N i A cap rb rc :=
  ⟨own_below h.own hb (Nat.le_refl _), h.rlo, fun j hj => by
    obtain ⟨cur, h1, h2⟩ := h.rows j hj
    exact ⟨cur, (hb.block _ (lt_of_block h1)).trans h1, h2⟩, h.inj⟩
theorem Built.mat {W : World} {base N : Nat} {A : Option Addr} {cap : Nat} {rb rc : Nat → Nat} (hN : 0 < N) (h : Built W base N N A cap rb rc) : ∃ G, A = some ⟨G, 0, none⟩ ∧ Mat W base N G rb rc tab0 := by
  obtain ⟨_, ho | ⟨g, c, cur, e, hb, hh, hc, hm, hs, ht⟩⟩ := h.own
  · omega
  · injection e with e1 e2 e3
    subst e1 e3
    refine ⟨g, rfl, hb, h.rlo, ⟨cur, hh, fun i hi => ?_⟩, h.rows, h.inj⟩
    have h1 : (cur.toList.take (N * 1))[i]? = ((List.range N).map (rowV N rb rc))[i]? := by rw [ht]
    rw [List.getElem?_take, if_pos (by omega)] at h1
    rw [← Array.getElem?_toList, h1]
    simp [hi]
end Go.Proofs.Ytiankphkemakeaa
