/- Stage 5: two sheets that grow link by link, in memory. -/
import Derived.Test.YtnodkgejggnehaaRo
import Derived.Test.YtnodkgejggnehaaWo
namespace Go.Proofs.Ytnodkgejggnehaa
set_option linter.unusedSimpArgs false
set_option linter.unusedVariables false
open Go.RowKit Go.Shelf
def r25 (a b : Int) (x y : Value) : Array Value := #[.int .i64 a, .int .i64 b, x, y]
/-- Three rows of a sheet's own, and the boxes that hold them. -/
structure OrX (D6 D7 b : Nat) (sl sr : Int) (kv : Value) (lx : List Rg) (lk : List Int) (ly : List Rg) (W : World) (vL vK vM : Value) : Prop where
  r6 : W.heap[D6]? = some (.cells #[.int .i64 sl, .int .i64 sr, vL, vK] 25 (0, 0))
  r7 : W.heap[D7]? = some (.cells #[.int .i64 sr, .int .i64 sl, vM, kv] 25 (0, 0))
  oL : W.ownsRow 0 55 2 vL lx.length (flatR lx)
  oK : W.ownsRow 0 3 1 vK lk.length (flatI lk)
  oM : W.ownsRow 0 55 2 vM ly.length (flatR ly)
  bL : ∀ g, vL.ownBlock = some g → b ≤ g
  bK : ∀ g, vK.ownBlock = some g → b ≤ g
  bM : ∀ g, vM.ownBlock = some g → b ≤ g
  dLK : ∀ g, vL.ownBlock = some g → vK.ownBlock ≠ some g
  dLM : ∀ g, vL.ownBlock = some g → vM.ownBlock ≠ some g
  dKM : ∀ g, vK.ownBlock = some g → vM.ownBlock ≠ some g
structure OrI (D6 D7 b : Nat) (sl sr : Int) (kv : Value) (w : World) (lx : List Rg) (lk : List Int) (ly : List Rg) (W : World) : Prop where
  ex : ∃ vL vK vM, OrX D6 D7 b sl sr kv lx lk ly W vL vK vM
  keep : Keeps (fun j => j = D6 ∨ j = D7) w W
  ds : D6 < b ∧ D7 < b ∧ D6 ≠ D7 ∧ b = w.heap.size
section
variable {D6 D7 b : Nat} {sl sr : Int} {kv : Value} {w W : World} {lx : List Rg} {lk : List Int} {ly : List Rg}
theorem OrX.new {vL vK vM : Value} {W' : World} (h : OrX D6 D7 b sl sr kv lx lk ly W vL vK vM) (hb : Below W.heap.size W W') : OrX D6 D7 b sl sr kv lx lk ly W' vL vK vM :=
  ⟨(hb.block _ (lt_of_block h.r6)).trans h.r6, (hb.block _ (lt_of_block h.r7)).trans h.r7, own_keep h.oL (Keeps.of_new (Mut := fun _ => False) hb) (fun _ _ e => e), own_keep h.oK (Keeps.of_new (Mut := fun _ => False) hb) (fun _ _ e => e), own_keep h.oM (Keeps.of_new (Mut := fun _ => False) hb) (fun _ _ e => e), h.bL, h.bK, h.bM, h.dLK, h.dLM, h.dKM⟩
theorem OrI.new {W' : World} (h : OrI D6 D7 b sl sr kv w lx lk ly W) (hb : Below W.heap.size W W') : OrI D6 D7 b sl sr kv w lx lk ly W' := by
  obtain ⟨vL, vK, vM, hx⟩ := h.ex
  exact ⟨⟨vL, vK, vM, hx.new hb⟩, h.keep.trans (Keeps.of_new hb), h.ds⟩
/-- The first sheet's links grow. -/
theorem OrI.x (h : OrI D6 D7 b sl sr kv w lx lk ly W) (hl : lx.length ≤ 1000) (x y : Int) :
    ∃ vL vK, W.heap[D6]? = some (.cells #[.int .i64 sl, .int .i64 sr, vL, vK] 25 (0, 0)) ∧ ∀ V P, Below W.heap.size W V → V.heap[P]? = some (.cells #[.int .i64 x, .int .i64 y] 55 (0, 0)) → ∃ C c W1, runA Try.prog 22 vL (.slice (some ⟨P, 0, none⟩) 1 1) V = .ok (.value (.slice C (lx.length + 1) c)) W1 ∧ W1.heap[D6]? = some (.cells #[.int .i64 sl, .int .i64 sr, vL, vK] 25 (0, 0)) ∧ Keeps (fun j => b ≤ j) W W1 ∧ Keeps (fun j => b ≤ j ∧ j < W.heap.size) V W1 ∧
      OrI D6 D7 b sl sr kv w (lx ++ [⟨x, y⟩]) lk ly (W1.setCell ⟨D6, 2, none⟩ (.slice C (lx.length + 1) c)) := by
  obtain ⟨vL, vK, vM, hx⟩ := h.ex
  obtain ⟨d1, d2, d3, d4⟩ := h.ds
  refine ⟨vL, vK, hx.r6, fun V P hV hP => ?_⟩
  have hv := hx.new hV
  obtain ⟨C, c, W1, r1, o1, k1, dd⟩ := app_ln (W0 := W) hv.oL x y (by omega) hP
  have kb : Keeps (fun j => b ≤ j) W W1 := (Keeps.of_new hV).trans (k1.mono (fun j _ e => hx.bL j e))
  have hks := h.keep.size
  have h6 := (k1.block _ (lt_of_block hv.r6) (fun e => by have := hx.bL _ e; omega)).trans hv.r6
  have h7 := (k1.block _ (lt_of_block hv.r7) (fun e => by have := hx.bL _ e; omega)).trans hv.r7
  have hk2 := keeps_setCell W1 D6 2 (.slice C (lx.length + 1) c)
  have hVs := hV.size
  have hnew : ∀ g, (Value.slice C (lx.length + 1) c).ownBlock = some g → b ≤ g := fun g e => by
    rcases dd g e with e2 | e2
    · exact hx.bL g e2
    · omega
  refine ⟨C, c, W1, r1, h6, kb, k1.mono (fun j _ e => ⟨hx.bL j e, own_lt hx.oL j e⟩), ⟨⟨.slice C (lx.length + 1) c, vK, vM, set_same 2 _ h6, (hk2.block _ (lt_of_block h7) (fun e => d3 e.symm)).trans h7, ?_, own_keep (own_keep hv.oK k1 (fun g e e2 => hx.dLK g e2 e)) hk2 (fun g e (e2 : g = D6) => by have := hx.bK g e; omega), own_keep (own_keep hv.oM k1 (fun g e e2 => hx.dLM g e2 e)) hk2 (fun g e (e2 : g = D6) => by have := hx.bM g e; omega), hnew, hx.bK, hx.bM, fun g e e2 => ?_, fun g e e2 => ?_, hx.dKM⟩, ?_, h.ds⟩⟩
  · have := own_keep o1 hk2 (fun g e (e2 : g = D6) => by have := hnew g e; omega)
    rw [List.length_append]; exact this
  · rcases dd g e with e3 | e3
    · exact hx.dLK g e3 e2
    · have := own_lt hv.oK g e2; omega
  · rcases dd g e with e3 | e3
    · exact hx.dLM g e3 e2
    · have := own_lt hv.oM g e2; omega
  · exact keeps_old3 h.keep ((kb.mono (fun j _ e => .inl (by omega))).trans (hk2.mono (fun j _ e => .inr (.inl e))))
/-- The second sheet's links grow. -/
theorem OrI.y (h : OrI D6 D7 b sl sr kv w lx lk ly W) (hl : ly.length ≤ 1000) (x y : Int) :
    ∃ vM, W.heap[D7]? = some (.cells #[.int .i64 sr, .int .i64 sl, vM, kv] 25 (0, 0)) ∧ ∀ V P, Below W.heap.size W V → V.heap[P]? = some (.cells #[.int .i64 x, .int .i64 y] 55 (0, 0)) → ∃ C c W1, runA Try.prog 22 vM (.slice (some ⟨P, 0, none⟩) 1 1) V = .ok (.value (.slice C (ly.length + 1) c)) W1 ∧ W1.heap[D7]? = some (.cells #[.int .i64 sr, .int .i64 sl, vM, kv] 25 (0, 0)) ∧ Keeps (fun j => b ≤ j) V W1 ∧
      OrI D6 D7 b sl sr kv w lx lk (ly ++ [⟨x, y⟩]) (W1.setCell ⟨D7, 2, none⟩ (.slice C (ly.length + 1) c)) := by
  obtain ⟨vL, vK, vM, hx⟩ := h.ex
  obtain ⟨d1, d2, d3, d4⟩ := h.ds
  refine ⟨vM, hx.r7, fun V P hV hP => ?_⟩
  have hv := hx.new hV
  obtain ⟨C, c, W1, r1, o1, k1, dd⟩ := app_ln (W0 := W) hv.oM x y (by omega) hP
  have kb : Keeps (fun j => b ≤ j) W W1 := (Keeps.of_new hV).trans (k1.mono (fun j _ e => hx.bM j e))
  have hks := h.keep.size
  have h6 := (k1.block _ (lt_of_block hv.r6) (fun e => by have := hx.bM _ e; omega)).trans hv.r6
  have h7 := (k1.block _ (lt_of_block hv.r7) (fun e => by have := hx.bM _ e; omega)).trans hv.r7
  have hk2 := keeps_setCell W1 D7 2 (.slice C (ly.length + 1) c)
  have hVs := hV.size
  have hnew : ∀ g, (Value.slice C (ly.length + 1) c).ownBlock = some g → b ≤ g := fun g e => by
    rcases dd g e with e2 | e2
    · exact hx.bM g e2
    · omega
  refine ⟨C, c, W1, r1, h7, k1.mono (fun j _ e => hx.bM j e), ⟨⟨vL, vK, .slice C (ly.length + 1) c, (hk2.block _ (lt_of_block h6) d3).trans h6, set_same 2 _ h7, own_keep (own_keep hv.oL k1 (fun g e e2 => hx.dLM g e e2)) hk2 (fun g e (e2 : g = D7) => by have := hx.bL g e; omega), own_keep (own_keep hv.oK k1 (fun g e e2 => hx.dKM g e e2)) hk2 (fun g e (e2 : g = D7) => by have := hx.bK g e; omega), ?_, hx.bL, hx.bK, hnew, hx.dLK, fun g e e2 => ?_, fun g e e2 => ?_⟩, ?_, h.ds⟩⟩
  · have := own_keep o1 hk2 (fun g e (e2 : g = D7) => by have := hnew g e; omega)
    rw [List.length_append]; exact this
  · rcases dd g e2 with e3 | e3
    · exact hx.dLM g e e3
    · have := own_lt hv.oL g e; omega
  · rcases dd g e2 with e3 | e3
    · exact hx.dKM g e e3
    · have := own_lt hv.oK g e; omega
  · exact keeps_old3 h.keep ((kb.mono (fun j _ e => .inl (by omega))).trans (hk2.mono (fun j _ e => .inr (.inr e))))
/-- The first sheet's known names grow. -/
theorem OrI.k (h : OrI D6 D7 b sl sr kv w lx lk ly W) (hl : lk.length ≤ 1000) (x : Int) :
    ∃ vL vK C c W1, W.heap[D6]? = some (.cells #[.int .i64 sl, .int .i64 sr, vL, vK] 25 (0, 0)) ∧ runA Try.prog 23 vK (.slice (some ⟨W.heap.size, 0, none⟩) 1 1) (W.alloc (.cells #[.int .i64 x] 3)) = .ok (.value (.slice C (lk.length + 1) c)) W1 ∧ W1.heap[D6]? = some (.cells #[.int .i64 sl, .int .i64 sr, vL, vK] 25 (0, 0)) ∧
      OrI D6 D7 b sl sr kv w lx (lk ++ [x]) ly (W1.setCell ⟨D6, 3, none⟩ (.slice C (lk.length + 1) c)) := by
  obtain ⟨vL, vK, vM, hx⟩ := h.ex
  obtain ⟨d1, d2, d3, d4⟩ := h.ds
  obtain ⟨C, c, W1, r1, o1, k1, dd⟩ := app_int hx.oK x (by omega)
  have kb : Keeps (fun j => b ≤ j) W W1 := k1.mono (fun j _ e => hx.bK j e)
  have hks := h.keep.size
  have h6 := (k1.block _ (lt_of_block hx.r6) (fun e => by have := hx.bK _ e; omega)).trans hx.r6
  have h7 := (k1.block _ (lt_of_block hx.r7) (fun e => by have := hx.bK _ e; omega)).trans hx.r7
  have hk2 := keeps_setCell W1 D6 3 (.slice C (lk.length + 1) c)
  have hnew : ∀ g, (Value.slice C (lk.length + 1) c).ownBlock = some g → b ≤ g := fun g e => by
    rcases dd g e with e2 | e2
    · exact hx.bK g e2
    · omega
  refine ⟨vL, vK, C, c, W1, hx.r6, r1, h6, ⟨⟨vL, .slice C (lk.length + 1) c, vM, set_same 3 _ h6, (hk2.block _ (lt_of_block h7) (fun e => d3 e.symm)).trans h7, own_keep (own_keep hx.oL k1 (fun g e e2 => hx.dLK g e e2)) hk2 (fun g e (e2 : g = D6) => by have := hx.bL g e; omega), ?_, own_keep (own_keep hx.oM k1 (fun g e e2 => hx.dKM g e2 e)) hk2 (fun g e (e2 : g = D6) => by have := hx.bM g e; omega), hx.bL, hnew, hx.bM, fun g e e2 => ?_, hx.dLM, fun g e e2 => ?_⟩, ?_, h.ds⟩⟩
  · have := own_keep o1 hk2 (fun g e (e2 : g = D6) => by have := hnew g e; omega)
    rw [List.length_append]; exact this
  · rcases dd g e2 with e3 | e3
    · exact hx.dLK g e e3
    · have := own_lt hx.oL g e; omega
  · rcases dd g e with e3 | e3
    · exact hx.dKM g e3 e2
    · have := own_lt hx.oM g e2; omega
  · exact keeps_old3 h.keep ((kb.mono (fun j _ e => .inl (by omega))).trans (hk2.mono (fun j _ e => .inr (.inl e))))
end
end Go.Proofs.Ytnodkgejggnehaa
