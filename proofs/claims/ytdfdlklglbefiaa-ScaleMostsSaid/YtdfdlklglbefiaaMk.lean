/- Stage 3: a function that holds several ranges over functions leaves with a list of marks. -/
import Derived.Test.YtdfdlklglbefiaaRgf
namespace Go.Proofs.Ytdfdlklglbefiaa
set_option linter.unusedSimpArgs false
set_option linter.unusedVariables false
open Go.RowKit Go.Shelf

/-- The deferred calls are marks, each on a block of its own, from lo on. -/
def Marks (lo : Nat) (W : World) : List Deferred → Prop
  | [] => True
  | d :: ds => (∃ D, d = { target := .collected D, args := #[] } ∧ lo ≤ D ∧ D < W.heap.size ∧ W.heap[D]? = some (.deferred (some [])) ∧ (∀ d' ∈ ds, d' ≠ { target := .collected D, args := #[] })) ∧ Marks lo W ds
theorem Marks.keep {lo : Nat} {Mut : Nat → Prop} {W W' : World} {ds : List Deferred} (h : Marks lo W ds) (hK : Keeps Mut W W') (hm : ∀ k, Mut k → k < lo) : Marks lo W' ds := by
  induction ds with
  | nil => trivial
  | cons d ds ih =>
    obtain ⟨⟨D, h1, h2, h3, h4, h5⟩, h6⟩ := h
    exact ⟨⟨D, h1, h2, Nat.lt_of_lt_of_le h3 hK.size, (hK.block D h3 (fun e => by have := hm D e; omega)).trans h4, h5⟩, ih h6⟩
theorem Marks.old {lo : Nat} {W : World} {ds : List Deferred} (h : Marks lo W ds) : ∀ d ∈ ds, ∀ D, W.heap.size ≤ D → d ≠ { target := .collected D, args := #[] } := by
  induction ds with
  | nil => simp
  | cons d ds ih =>
    obtain ⟨⟨D, h1, h2, h3, h4, h5⟩, h6⟩ := h
    intro d' hd D' hD e
    rcases List.mem_cons.1 hd with rfl | hd
    · rw [h1] at e
      simp only [Deferred.mk.injEq, Target.collected.injEq, and_true] at e
      omega
    · exact ih h6 d' hd D' hD e
theorem Marks.push {lo D : Nat} {W0 W : World} {ds : List Deferred} (h0 : Marks lo W0 ds) (h : Marks lo W ds) (hlo : lo ≤ W0.heap.size) (hD : W0.heap.size ≤ D) (hDW : D < W.heap.size) (hd : W.heap[D]? = some (.deferred (some []))) :
    Marks lo W ({ target := .collected D, args := #[] } :: ds) :=
  ⟨⟨D, rfl, Nat.le_trans hlo hD, hDW, hd, fun d' hd' => h0.old d' hd' D hD⟩, h⟩
/-- What is no mark stays when the marks are taken. -/
theorem Marks.leaves {F : Fence} {n : Nat} {P : Program} {fn : Func} {tmps : Array Value} {R : Ending → World → Prop} {lo : Nat} (ds : List Deferred) (W : World) (h : Marks lo W ds)
    (hR : ∀ W', Keeps (fun j => lo ≤ j ∧ W.heap[j]? = some (.deferred (some []))) W W' → LeavesInM F n P fn tmps R [] .returning W') : LeavesInM F n P fn tmps R ds .returning W := by
  induction ds generalizing W with
  | nil => exact hR W (Keeps.refl _ _)
  | cons d ds ih =>
    obtain ⟨⟨D, rfl, h2, h3, h4, h5⟩, h6⟩ := h
    refine ⟨by simp, .inl ⟨D, _, rfl, run_takeDeferred h4, ?_⟩⟩
    have hp : Keeps (fun j => j = D) W (W.putObj D (.deferred none)) := Keeps.putObj _ _ _ rfl
    have hm : Marks lo (W.putObj D (.deferred none)) ds := by
      clear ih hR
      induction ds with
      | nil => trivial
      | cons d ds ih2 =>
        obtain ⟨⟨E, e1, e2, e3, e4, e5⟩, e6⟩ := h6
        have hE : E ≠ D := fun e => h5 d (by simp) (by rw [e1, e])
        exact ⟨⟨E, e1, e2, Nat.lt_of_lt_of_le e3 hp.size, (hp.block E e3 hE).trans e4, e5⟩, ih2 e6 (fun d' hd => h5 d' (List.mem_cons_of_mem _ hd))⟩
    refine ih _ hm (fun W' hK => hR W' ?_)
    refine (hp.mono (fun k _ e => by subst e; exact ⟨h2, h4⟩)).trans (hK.mono (fun k hk e => ?_))
    by_cases hkD : k = D
    · subst hkD; exact ⟨h2, h4⟩
    · refine ⟨e.1, ?_⟩
      have := World.putObj_heap_other (w := W) (o := Obj.deferred none) hkD
      rw [← this]; exact e.2
end Go.Proofs.Ytdfdlklglbefiaa
