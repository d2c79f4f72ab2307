/- Stage 2: the document's IsStep, Before, ends. -/
import Derived.Test.YtfmcfalghbaanaaChkR
import Derived.Deep.RegionHeld3
import Derived.Deep.DeepCutAuto
namespace Go.Proofs.Ytfmcfalghbaanaa
set_option linter.unusedSimpArgs false
set_option linter.unusedVariables false
open Go.RowKit

/-- Is it a step? -/
def stepB (ps : List Pc) (s : St) : Bool := decide (0 ≤ s.p) && decide (s.p < (ps.length : Int)) && (!s.turned || (pAt ps s.p.toNat).loose)

set_option maxRecDepth 100000 in
set_option maxHeartbeats 2000000 in
theorem isStep45 (A : Option Addr) (n cap : Nat) (off lo hi p : Int) (t : Bool) (ps : List Pc) (w : World) (h : Pcs w A n ps) :
    Calls Try.prog 45 #[cyl A n cap off lo hi, .agg #[.int .i64 p, .bool t]] w fun e w' => e = .returned (.bool (stepB ps ⟨p, t⟩)) ∧ Below w.heap.size w w' := by
  have X := (Cx.new (cap := cap) (off := off) (lo := lo) (hi := hi) h).next (below_alloc_ _ (.cells #[.int .i64 p, .bool t] 28))
  have Hl := Lib.hid h.1
  have Hr := Lib.hid (show stepB ps ⟨p, t⟩ = (decide (0 ≤ p) && decide (p < (ps.length : Int)) && (!t || (pAt ps p.toNat).loose)) from rfl)
  unfold cyl
  obtain ⟨B, hB⟩ : ∃ B, w.heap.size = B := ⟨_, rfl⟩
  rw [hB] at X
  obtain ⟨c0, c1, c2, c3, hlt0⟩ := X.c
  by_cases h1 : 0 ≤ p
  · have d1 : decide (0 ≤ p) = true := decide_eq_true h1
    by_cases h2 : p < (n : Int)
    · have d2 : decide (p < (n : Int)) = true := decide_eq_true h2
      obtain ⟨k, rfl⟩ := Int.eq_ofNat_of_zero_le h1
      obtain ⟨b, o, rfl, hcs⟩ := X.pcs.2 (by omega)
      obtain ⟨_, _, _, _, _, _, b6⟩ := hcs k (by omega)
      obtain ⟨l, hl⟩ : ∃ l, (pAt ps k).loose = l := ⟨_, rfl⟩
      rw [hl] at b6
      have Hr2 := Lib.hid (show stepB ps ⟨(k : Int), t⟩ = (!t || l) by rw [Hr.out, Hl.out, d1, d2, Int.toNat_natCast, hl]; simp)
      clear hcs hl h1 Hr h
      cases t with
      | true =>
        go_enter Try.func45, Try.ntmps45
        go_wp2_with fail
        all_goals (go_ret; exact ⟨ret_bool (by rw [Hr2.out]; simp), X.below⟩)
      | false =>
        go_enter Try.func45, Try.ntmps45
        go_wp2_with fail
        all_goals (go_ret; exact ⟨ret_bool (by rw [Hr2.out]; simp), X.below⟩)
    · have d2 : decide (p < (n : Int)) = false := decide_eq_false h2
      have Hr2 := Lib.hid (show stepB ps ⟨p, t⟩ = false by rw [Hr.out, Hl.out, d2]; simp)
      clear h1 h2 Hr h
      go_enter Try.func45, Try.ntmps45
      go_wp2_with fail
      go_ret
      exact ⟨ret_bool Hr2.out.symm, X.below⟩
  · have d1 : decide (0 ≤ p) = false := decide_eq_false h1
    have Hr2 := Lib.hid (show stepB ps ⟨p, t⟩ = false by rw [Hr.out, d1]; simp)
    clear h1 Hr h
    go_enter Try.func45, Try.ntmps45
    go_wp2_with fail
    go_ret
    exact ⟨ret_bool Hr2.out.symm, X.below⟩

theorem hal_new {W : World} {o : Obj} {k : Nat} (h : k = W.heap.size) : (W.alloc o).heap[k]? = some o := by subst h; exact heap_alloc_new_ _ _
theorem hal_old {W : World} {o x : Obj} {k : Nat} (h : W.heap[k]? = some x) : (W.alloc o).heap[k]? = some x := ((below_alloc_ W o).block _ (lt_of_block h)).trans h
theorem frozen_row {W : World} {b k : Nat} {c : Array Value} {t : TypeId} (h : W.heap[b]? = some (.cells c t (0, 0))) : W.frozen? ⟨b, k, none⟩ = false := by
  simp [World.frozen?, h]
theorem three_cells {W : World} {k : Nat} {u v x : Value} {t : TypeId} (h : W.heap[k]? = some (.cells #[u, v, x] t (0, 0))) : W.cell? ⟨k, 0, none⟩ = some u ∧ W.cell? ⟨k, 1, none⟩ = some v ∧ W.cell? ⟨k, 2, none⟩ = some x ∧ W.frozen? ⟨k, 0, none⟩ = false ∧ W.frozen? ⟨k, 1, none⟩ = false ∧ W.frozen? ⟨k, 2, none⟩ = false :=
  ⟨by rw [cell_row h]; rfl, by rw [cell_row h]; rfl, by rw [cell_row h]; rfl, frozen_row h, frozen_row h, frozen_row h⟩
theorem below_drew_' {B : Nat} {a w : World} (h : Below B a w) : Below B a w.drew := ⟨h.os, h.tape, h.output, h.size, h.block⟩
theorem set_same {W : World} {k : Nat} {c : Array Value} {t : TypeId} (o : Nat) (v : Value) (h : W.heap[k]? = some (.cells c t (0, 0))) : (W.setCell ⟨k, o, none⟩ v).heap[k]? = some (.cells (c.setIfInBounds o v) t (0, 0)) := by
  simp [World.setCell, Array.getElem?_modify, h]
theorem set_other {W : World} {k j o : Nat} {x : Obj} (v : Value) (h : W.heap[j]? = some x) (hne : j ≠ k) : (W.setCell ⟨k, o, none⟩ v).heap[j]? = some x := (Below.heap_setCell _ _ _ _ hne).trans h
theorem set3_same {W : World} {k : Nat} {u0 v0 x0 : Value} {t : TypeId} (u v x : Value) (h : W.heap[k]? = some (.cells #[u0, v0, x0] t (0, 0))) : (((W.setCell ⟨k, 0, none⟩ u).setCell ⟨k, 1, none⟩ v).setCell ⟨k, 2, none⟩ x).heap[k]? = some (.cells #[u, v, x] t (0, 0)) := by
  rw [set_same 2 x (set_same 1 v (set_same 0 u h))]
  simp
theorem set3_other {W : World} {k j : Nat} {y : Obj} (u v x : Value) (h : W.heap[j]? = some y) (hne : j ≠ k) : (((W.setCell ⟨k, 0, none⟩ u).setCell ⟨k, 1, none⟩ v).setCell ⟨k, 2, none⟩ x).heap[j]? = some y := set_other x (set_other v (set_other u h hne) hne) hne
/-- Where a step begins, and where it ends. -/
def begE (ps : List Pc) (s : St) : En := if s.turned then (pAt ps s.p.toNat).b else (pAt ps s.p.toNat).a
def endE (ps : List Pc) (s : St) : En := if s.turned then (pAt ps s.p.toNat).a else (pAt ps s.p.toNat).b
def enV (e : En) : Value := .agg #[.int .i64 e.d.lo, .int .i64 e.d.hi, .int .i64 e.p]

set_option maxRecDepth 100000 in
set_option maxHeartbeats 2000000 in
theorem ends66 (A : Option Addr) (n cap k : Nat) (off lo hi : Int) (t : Bool) (ps : List Pc) (w : World) (h : Pcs w A n ps) (hk : k < n) :
    Calls Try.prog 66 #[cyl A n cap off lo hi, .agg #[.int .i64 (k : Int), .bool t]] w fun e w' => e = .returned (.tuple #[enV (begE ps ⟨k, t⟩), enV (endE ps ⟨k, t⟩)]) ∧ Below w.heap.size w w' := by
  have X := (((Cx.new (cap := cap) (off := off) (lo := lo) (hi := hi) h).next (below_alloc_ _ (.cells #[.int .i64 k, .bool t] 28))).next (below_alloc_ _ (.cells #[.int .i64 0, .int .i64 0, .int .i64 0] 59))).next (below_alloc_ _ (.cells #[.int .i64 0, .int .i64 0, .int .i64 0] 59))
  unfold cyl
  obtain ⟨b, o, rfl, hcs⟩ := X.pcs.2 (by omega)
  obtain ⟨a0, a1, a2, b0, b1, b2, b3⟩ := hcs k hk
  have hlb := lt_of_cell a0
  obtain ⟨p, hp⟩ : ∃ p, pAt ps k = p := ⟨_, rfl⟩
  rw [hp] at a0 a1 a2 b0 b1 b2 b3
  have Hb := Lib.hid (show begE ps ⟨k, t⟩ = if t then p.b else p.a by rw [← hp]; rfl)
  have He := Lib.hid (show endE ps ⟨k, t⟩ = if t then p.a else p.b by rw [← hp]; rfl)
  have i0 : (0 : Int) ≤ (k : Int) := by omega
  have i1 : (k : Int) < (n : Int) := by omega
  obtain ⟨e0, _, _, _, hlt0⟩ := X.c
  have s0 : ((((w.alloc (.cells #[.slice (some ⟨b, o, none⟩) n cap, .int .i64 off, .int .i64 lo, .int .i64 hi] 26)).alloc (.cells #[.int .i64 k, .bool t] 28)).alloc (.cells #[.int .i64 0, .int .i64 0, .int .i64 0] 59)).alloc (.cells #[.int .i64 0, .int .i64 0, .int .i64 0] 59)).cell? ⟨w.heap.size + 1, 0, none⟩ = some (.int .i64 k) := by go_simp
  have s1 : ((((w.alloc (.cells #[.slice (some ⟨b, o, none⟩) n cap, .int .i64 off, .int .i64 lo, .int .i64 hi] 26)).alloc (.cells #[.int .i64 k, .bool t] 28)).alloc (.cells #[.int .i64 0, .int .i64 0, .int .i64 0] 59)).alloc (.cells #[.int .i64 0, .int .i64 0, .int .i64 0] 59)).cell? ⟨w.heap.size + 1, 1, none⟩ = some (.bool t) := by go_simp
  have k0 : ((((w.alloc (.cells #[.slice (some ⟨b, o, none⟩) n cap, .int .i64 off, .int .i64 lo, .int .i64 hi] 26)).alloc (.cells #[.int .i64 k, .bool t] 28)).alloc (.cells #[.int .i64 0, .int .i64 0, .int .i64 0] 59)).alloc (.cells #[.int .i64 0, .int .i64 0, .int .i64 0] 59)).heap[w.heap.size + 1 + 1]? = some (.cells #[.int .i64 0, .int .i64 0, .int .i64 0] 59 (0, 0)) := hal_old (hal_new (by simp))
  have k1 : ((((w.alloc (.cells #[.slice (some ⟨b, o, none⟩) n cap, .int .i64 off, .int .i64 lo, .int .i64 hi] 26)).alloc (.cells #[.int .i64 k, .bool t] 28)).alloc (.cells #[.int .i64 0, .int .i64 0, .int .i64 0] 59)).alloc (.cells #[.int .i64 0, .int .i64 0, .int .i64 0] 59)).heap[w.heap.size + 1 + 1 + 1]? = some (.cells #[.int .i64 0, .int .i64 0, .int .i64 0] 59 (0, 0)) := hal_new (by simp)
  obtain ⟨W1, hW1⟩ : ∃ W1, ((((w.alloc (.cells #[.slice (some ⟨b, o, none⟩) n cap, .int .i64 off, .int .i64 lo, .int .i64 hi] 26)).alloc (.cells #[.int .i64 k, .bool t] 28)).alloc (.cells #[.int .i64 0, .int .i64 0, .int .i64 0] 59)).alloc (.cells #[.int .i64 0, .int .i64 0, .int .i64 0] 59)) = W1 := ⟨_, rfl⟩
  rw [hW1] at X a0 a1 a2 b0 b1 b2 b3 e0 s0 s1 k0 k1
  have HW1 := Lib.hid hW1
  have l0 := lt_of_block k0
  have l1 := lt_of_block k1
  have l2 := lt_of_cell s0
  have l3 := lt_of_cell e0
  clear hcs hp h hk hW1
  cases t with
  | true =>
    go_enter Try.func66, Try.ntmps66
    go_upto_region 1 with fail
    rw [HW1.out]
    go_upto_region 3 with fail
    obtain ⟨x0, x1, x2, y0, y1, y2⟩ := three_cells k0
    obtain ⟨x3, x4, x5, y3, y4, y5⟩ := three_cells k1
    go_region
    all_goals (
      go_wp2_with fail
      have f0 := set3_other (.int .i64 p.a.d.lo) (.int .i64 p.a.d.hi) (.int .i64 p.a.p) (set3_same (.int .i64 p.b.d.lo) (.int .i64 p.b.d.hi) (.int .i64 p.b.p) k0) (show w.heap.size + 1 + 1 ≠ w.heap.size + 1 + 1 + 1 by omega)
      have f1 := set3_same (.int .i64 p.a.d.lo) (.int .i64 p.a.d.hi) (.int .i64 p.a.p) (set3_other (.int .i64 p.b.d.lo) (.int .i64 p.b.d.hi) (.int .i64 p.b.p) k1 (show w.heap.size + 1 + 1 + 1 ≠ w.heap.size + 1 + 1 by omega))
      have g0 := three_cells (hal_old (o := .cells #[.int .i64 p.a.d.lo, .int .i64 p.a.d.hi, .int .i64 p.a.p, .int .i64 p.b.d.lo, .int .i64 p.b.d.hi, .int .i64 p.b.p] 60) f0)
      have g1 := three_cells (hal_old (o := .cells #[.int .i64 p.a.d.lo, .int .i64 p.a.d.hi, .int .i64 p.a.p, .int .i64 p.b.d.lo, .int .i64 p.b.d.hi, .int .i64 p.b.p] 60) f1)
      have hb := (((((((X.below.setCell (p := ⟨w.heap.size + 1 + 1, 0, none⟩) (by simp; omega) (.int .i64 p.b.d.lo)).setCell (p := ⟨w.heap.size + 1 + 1, 1, none⟩) (by simp; omega) (.int .i64 p.b.d.hi)).setCell (p := ⟨w.heap.size + 1 + 1, 2, none⟩) (by simp; omega) (.int .i64 p.b.p)).setCell (p := ⟨w.heap.size + 1 + 1 + 1, 0, none⟩) (by simp; omega) (.int .i64 p.a.d.lo)).setCell (p := ⟨w.heap.size + 1 + 1 + 1, 1, none⟩) (by simp; omega) (.int .i64 p.a.d.hi)).setCell (p := ⟨w.heap.size + 1 + 1 + 1, 2, none⟩) (by simp; omega) (.int .i64 p.a.p)))
      have hb2 := below_drew_' (hb.alloc hb.size (.cells #[.int .i64 p.a.d.lo, .int .i64 p.a.d.hi, .int .i64 p.a.p, .int .i64 p.b.d.lo, .int .i64 p.b.d.hi, .int .i64 p.b.p] 60))
      obtain ⟨V, hV⟩ : ∃ V, (((((((W1.setCell ⟨w.heap.size + 1 + 1, 0, none⟩ (.int .i64 p.b.d.lo)).setCell ⟨w.heap.size + 1 + 1, 1, none⟩ (.int .i64 p.b.d.hi)).setCell ⟨w.heap.size + 1 + 1, 2, none⟩ (.int .i64 p.b.p)).setCell ⟨w.heap.size + 1 + 1 + 1, 0, none⟩ (.int .i64 p.a.d.lo)).setCell ⟨w.heap.size + 1 + 1 + 1, 1, none⟩ (.int .i64 p.a.d.hi)).setCell ⟨w.heap.size + 1 + 1 + 1, 2, none⟩ (.int .i64 p.a.p)).alloc (.cells #[.int .i64 p.a.d.lo, .int .i64 p.a.d.hi, .int .i64 p.a.p, .int .i64 p.b.d.lo, .int .i64 p.b.d.hi, .int .i64 p.b.p] 60)) = V := ⟨_, rfl⟩
      rw [hV] at g0 g1 hb2 ⊢
      obtain ⟨z0, z1, z2, _⟩ := g0
      obtain ⟨z3, z4, z5, _⟩ := g1
      clear hV f0 f1 hb x0 x1 x2 x3 x4 x5 y0 y1 y2 y3 y4 y5
      refine bodyPost_ret (v := .tuple #[enV p.b, enV p.a]) (by simp [results, Try.results66, go_sem, enV, z0, z1, z2, z3, z4, z5]) rfl ⟨by rw [Hb.out, He.out]; rfl, ?_⟩
      exact hb2)
  | false =>
    go_enter Try.func66, Try.ntmps66
    go_upto_region 1 with fail
    rw [HW1.out]
    go_upto_region 4 with fail
    obtain ⟨x0, x1, x2, y0, y1, y2⟩ := three_cells k0
    obtain ⟨x3, x4, x5, y3, y4, y5⟩ := three_cells k1
    go_region
    all_goals (
      go_wp2_with fail
      have f0 := set3_other (.int .i64 p.b.d.lo) (.int .i64 p.b.d.hi) (.int .i64 p.b.p) (set3_same (.int .i64 p.a.d.lo) (.int .i64 p.a.d.hi) (.int .i64 p.a.p) k0) (show w.heap.size + 1 + 1 ≠ w.heap.size + 1 + 1 + 1 by omega)
      have f1 := set3_same (.int .i64 p.b.d.lo) (.int .i64 p.b.d.hi) (.int .i64 p.b.p) (set3_other (.int .i64 p.a.d.lo) (.int .i64 p.a.d.hi) (.int .i64 p.a.p) k1 (show w.heap.size + 1 + 1 + 1 ≠ w.heap.size + 1 + 1 by omega))
      have g0 := three_cells (hal_old (o := .cells #[.int .i64 p.a.d.lo, .int .i64 p.a.d.hi, .int .i64 p.a.p, .int .i64 p.b.d.lo, .int .i64 p.b.d.hi, .int .i64 p.b.p] 60) f0)
      have g1 := three_cells (hal_old (o := .cells #[.int .i64 p.a.d.lo, .int .i64 p.a.d.hi, .int .i64 p.a.p, .int .i64 p.b.d.lo, .int .i64 p.b.d.hi, .int .i64 p.b.p] 60) f1)
      have hb := (((((((X.below.setCell (p := ⟨w.heap.size + 1 + 1, 0, none⟩) (by simp; omega) (.int .i64 p.a.d.lo)).setCell (p := ⟨w.heap.size + 1 + 1, 1, none⟩) (by simp; omega) (.int .i64 p.a.d.hi)).setCell (p := ⟨w.heap.size + 1 + 1, 2, none⟩) (by simp; omega) (.int .i64 p.a.p)).setCell (p := ⟨w.heap.size + 1 + 1 + 1, 0, none⟩) (by simp; omega) (.int .i64 p.b.d.lo)).setCell (p := ⟨w.heap.size + 1 + 1 + 1, 1, none⟩) (by simp; omega) (.int .i64 p.b.d.hi)).setCell (p := ⟨w.heap.size + 1 + 1 + 1, 2, none⟩) (by simp; omega) (.int .i64 p.b.p)))
      have hb2 := below_drew_' (hb.alloc hb.size (.cells #[.int .i64 p.a.d.lo, .int .i64 p.a.d.hi, .int .i64 p.a.p, .int .i64 p.b.d.lo, .int .i64 p.b.d.hi, .int .i64 p.b.p] 60))
      obtain ⟨V, hV⟩ : ∃ V, (((((((W1.setCell ⟨w.heap.size + 1 + 1, 0, none⟩ (.int .i64 p.a.d.lo)).setCell ⟨w.heap.size + 1 + 1, 1, none⟩ (.int .i64 p.a.d.hi)).setCell ⟨w.heap.size + 1 + 1, 2, none⟩ (.int .i64 p.a.p)).setCell ⟨w.heap.size + 1 + 1 + 1, 0, none⟩ (.int .i64 p.b.d.lo)).setCell ⟨w.heap.size + 1 + 1 + 1, 1, none⟩ (.int .i64 p.b.d.hi)).setCell ⟨w.heap.size + 1 + 1 + 1, 2, none⟩ (.int .i64 p.b.p)).alloc (.cells #[.int .i64 p.a.d.lo, .int .i64 p.a.d.hi, .int .i64 p.a.p, .int .i64 p.b.d.lo, .int .i64 p.b.d.hi, .int .i64 p.b.p] 60)) = V := ⟨_, rfl⟩
      rw [hV] at g0 g1 hb2 ⊢
      obtain ⟨z0, z1, z2, _⟩ := g0
      obtain ⟨z3, z4, z5, _⟩ := g1
      clear hV f0 f1 hb x0 x1 x2 x3 x4 x5 y0 y1 y2 y3 y4 y5
      refine bodyPost_ret (v := .tuple #[enV p.a, enV p.b]) (by simp [results, Try.results66, go_sem, enV, z0, z1, z2, z3, z4, z5]) rfl ⟨by rw [Hb.out, He.out]; rfl, ?_⟩
      exact hb2)
end Go.Proofs.Ytfmcfalghbaanaa
