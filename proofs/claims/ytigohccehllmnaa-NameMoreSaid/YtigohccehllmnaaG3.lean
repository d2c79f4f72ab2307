/- Stage 6: three lists that grow side by side. -/
import Derived.Test.YtigohccehllmnaaLf
namespace Go.Proofs.Ytigohccehllmnaa
set_option linter.unusedSimpArgs false
set_option linter.unusedVariables false
open Go.RowKit Go.Shelf

structure Gr3 (w3 wr : World) (v1 v2 v3 : Value) (a b c : List Int) : Prop where
  g1 : GrL w3 wr v1 a
  g2 : GrL w3 wr v2 b
  g3 : GrL w3 wr v3 c
  n12 : ∀ g, v1.ownBlock = some g → v2.ownBlock ≠ some g
  n13 : ∀ g, v1.ownBlock = some g → v3.ownBlock ≠ some g
  n23 : ∀ g, v2.ownBlock = some g → v3.ownBlock ≠ some g
theorem Gr3.nil (w : World) : Gr3 w w (.slice none 0 0) (.slice none 0 0) (.slice none 0 0) [] [] [] :=
  ⟨GrI.nil _, GrI.nil _, GrI.nil _, fun g e => (by cases e), fun g e => (by cases e), fun g e => (by cases e)⟩
theorem Gr3.rot {w3 wr : World} {v1 v2 v3 : Value} {a b c : List Int} (h : Gr3 w3 wr v1 v2 v3 a b c) : Gr3 w3 wr v2 v3 v1 b c a :=
  ⟨h.g2, h.g3, h.g1, h.n23, fun g e e2 => h.n12 g e2 e, fun g e e2 => h.n13 g e2 e⟩
theorem Gr3.below {w3 wr w4 : World} {v1 v2 v3 : Value} {a b c : List Int} {Bs : Nat} (h : Gr3 w3 wr v1 v2 v3 a b c) (hb : Below Bs wr w4) (hB : wr.heap.size ≤ Bs) : Gr3 w3 w4 v1 v2 v3 a b c :=
  ⟨h.g1.below hb hB, h.g2.below hb hB, h.g3.below hb hB, h.n12, h.n13, h.n23⟩
theorem GrL.keepO {w3 wr W' : World} {v u : Value} {b : List Int} (h : GrL w3 wr v b) (hk : Keeps (fun k => u.ownBlock = some k) wr W') (hu : ∀ g, u.ownBlock = some g → w3.heap.size ≤ g) (hn : ∀ g, u.ownBlock = some g → v.ownBlock ≠ some g) : GrL w3 W' v b :=
  ⟨own_keep h.1 hk (fun k e e2 => hn k e2 e), h.2.1, h.2.2.trans (hk.below h.2.2.size (fun j hj e => by have := hu j e; omega))⟩
/-- One number more in the first list. -/
theorem Gr3.app {w3 wr : World} {v1 v2 v3 : Value} {a b c : List Int} (h : Gr3 w3 wr v1 v2 v3 a b c) (x : Int) (hn : a.length ≤ 100000) :
    ∃ C cc W', runA Try.prog 23 v1 (.slice (some ⟨wr.heap.size, 0, none⟩) 1 1) (wr.alloc (.cells #[.int .i64 x] 3)) = .ok (.value (.slice C (a.length + 1) cc)) W' ∧ Gr3 w3 W' (.slice C (a.length + 1) cc) v2 v3 (a ++ [x]) b c ∧ Keeps (fun k => v1.ownBlock = some k) wr W' := by
  obtain ⟨C, cc, W', h1, h2, h3, h4⟩ := app_int h.g1.1 x hn
  have hlt : ∀ {v : Value} {l : List Int}, GrL w3 wr v l → ∀ g, v.ownBlock = some g → g < wr.heap.size := fun hg g e => own_lt hg.1 g e
  have hne : ∀ {v : Value} {l : List Int}, GrL w3 wr v l → (∀ g, v1.ownBlock = some g → v.ownBlock ≠ some g) → ∀ g, (Value.slice C (a.length + 1) cc).ownBlock = some g → v.ownBlock ≠ some g := fun hg hd g e e2 => by
    rcases h4 g e with e3 | e3
    · exact hd g e3 e2
    · have := hlt hg g e2; omega
  refine ⟨C, cc, W', h1, ⟨?_, h.g2.keepO h3 h.g1.2.1 h.n12, h.g3.keepO h3 h.g1.2.1 h.n13, hne h.g2 h.n12, hne h.g3 h.n13, h.n23⟩, h3⟩
  unfold GrL
  rw [List.length_append]
  refine ⟨h2, fun g e => ?_, h.g1.2.2.trans (h3.below h.g1.2.2.size (fun j hj e => by have := h.g1.2.1 j e; omega))⟩
  rcases h4 g e with e | e
  · exact h.g1.2.1 g e
  · have := h.g1.2.2.size; omega
end Go.Proofs.Ytigohccehllmnaa
