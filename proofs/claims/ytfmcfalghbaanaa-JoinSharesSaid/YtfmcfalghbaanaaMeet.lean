/- Stage 2: where a step of a board begins and ends; whether a step meets another one. -/
import Derived.Test.YtfmcfalghbaanaaBrd
namespace Go.Proofs.Ytfmcfalghbaanaa
set_option linter.unusedSimpArgs false
set_option linter.unusedVariables false
open Go.RowKit

/-- A board in block B, over pieces. -/
structure Bx (w : World) (B : Nat) (X : Array Value) (A : Option Addr) (n cap : Nat) (off lo hi : Int) (T : Nat → Nat → Bool) (M : Nat) (ps : List Pc) (W : World) : Prop where
  below : Below w.heap.size w W
  le : w.heap.size ≤ B
  blk : W.heap[B]? = some (.cells X 78 (0, 0))
  pcs : Pcs W A n ps
  brd : Brd X A n cap off lo hi T M
theorem Bx.new {w : World} {X : Array Value} {A : Option Addr} {n cap : Nat} {off lo hi : Int} {T : Nat → Nat → Bool} {M : Nat} {ps : List Pc} (h : Pcs w A n ps) (hX : Brd X A n cap off lo hi T M) : Bx w w.heap.size X A n cap off lo hi T M ps (w.alloc (.cells X 78)) :=
  ⟨below_alloc_ _ _, Nat.le_refl _, heap_alloc_new_ _ _, h.below (below_alloc_ _ _) (Nat.le_refl _), hX⟩
theorem Bx.next {w : World} {B : Nat} {X : Array Value} {A : Option Addr} {n cap : Nat} {off lo hi : Int} {T : Nat → Nat → Bool} {M : Nat} {ps : List Pc} {W W' : World} (h : Bx w B X A n cap off lo hi T M ps W) (hb : Below W.heap.size W W') : Bx w B X A n cap off lo hi T M ps W' :=
  ⟨h.below.trans (hb.mono h.below.size), h.le, (hb.block _ (lt_of_block h.blk)).trans h.blk, h.pcs.below hb (Nat.le_refl _), h.brd⟩
theorem Bx.c {w : World} {B : Nat} {X : Array Value} {A : Option Addr} {n cap : Nat} {off lo hi : Int} {T : Nat → Nat → Bool} {M : Nat} {ps : List Pc} {W : World} (h : Bx w B X A n cap off lo hi T M ps W) :
    W.cell? ⟨B, 0, none⟩ = some (.slice A n cap) ∧ W.cell? ⟨B, 1, none⟩ = some (.int .i64 off) ∧ W.cell? ⟨B, 2, none⟩ = some (.int .i64 lo) ∧ W.cell? ⟨B, 3, none⟩ = some (.int .i64 hi) ∧ W.cell? ⟨B, 260, none⟩ = some (.map (some M)) ∧ B < W.heap.size ∧ runO Try.prog (ld 78) (.pointer (some ⟨B, 0, none⟩)) W = .ok (.value (.agg X)) W :=
  ⟨by rw [cell_row h.blk]; exact h.brd.c0, by rw [cell_row h.blk]; exact h.brd.c1, by rw [cell_row h.blk]; exact h.brd.c2, by rw [cell_row h.blk]; exact h.brd.c3, by rw [cell_row h.blk]; exact h.brd.map, lt_of_block h.blk, run_ld78 h.blk h.brd.size⟩

set_option maxRecDepth 100000 in
set_option maxHeartbeats 2000000 in
theorem ends74 (X : Array Value) (A : Option Addr) (n cap k : Nat) (off lo hi : Int) (T : Nat → Nat → Bool) (M : Nat) (t : Bool) (ps : List Pc) (w : World) (hX : Brd X A n cap off lo hi T M) (h : Pcs w A n ps) (hk : k < n) :
    Calls Try.prog 74 #[.agg X, .agg #[.int .i64 (k : Int), .bool t]] w fun e w' => e = .returned (.tuple #[enV (begE ps ⟨k, t⟩), enV (endE ps ⟨k, t⟩)]) ∧ Below w.heap.size w w' := by
  have Y := (((Bx.new h hX).next (below_alloc_ _ (.cells #[.int .i64 k, .bool t] 28))).next (below_alloc_ _ (.cells #[.int .i64 0, .int .i64 0, .int .i64 0] 59))).next (below_alloc_ _ (.cells #[.int .i64 0, .int .i64 0, .int .i64 0] 59))
  obtain ⟨b, o, rfl, hcs⟩ := Y.pcs.2 (by omega)
  obtain ⟨a0, a1, a2, b0, b1, b2, b3⟩ := hcs k hk
  have hlb := lt_of_cell a0
  obtain ⟨p, hp⟩ : ∃ p, pAt ps k = p := ⟨_, rfl⟩
  rw [hp] at a0 a1 a2 b0 b1 b2 b3
  have Hb := Lib.hid (show begE ps ⟨k, t⟩ = if t then p.b else p.a by rw [← hp]; rfl)
  have He := Lib.hid (show endE ps ⟨k, t⟩ = if t then p.a else p.b by rw [← hp]; rfl)
  have i0 : (0 : Int) ≤ (k : Int) := by omega
  have i1 : (k : Int) < (n : Int) := by omega
  obtain ⟨e0, _, _, _, _, hlt0, _⟩ := Y.c
  have s0 : ((((w.alloc (.cells X 78)).alloc (.cells #[.int .i64 k, .bool t] 28)).alloc (.cells #[.int .i64 0, .int .i64 0, .int .i64 0] 59)).alloc (.cells #[.int .i64 0, .int .i64 0, .int .i64 0] 59)).cell? ⟨w.heap.size + 1, 0, none⟩ = some (.int .i64 k) := by go_simp
  have s1 : ((((w.alloc (.cells X 78)).alloc (.cells #[.int .i64 k, .bool t] 28)).alloc (.cells #[.int .i64 0, .int .i64 0, .int .i64 0] 59)).alloc (.cells #[.int .i64 0, .int .i64 0, .int .i64 0] 59)).cell? ⟨w.heap.size + 1, 1, none⟩ = some (.bool t) := by go_simp
  have k0 : ((((w.alloc (.cells X 78)).alloc (.cells #[.int .i64 k, .bool t] 28)).alloc (.cells #[.int .i64 0, .int .i64 0, .int .i64 0] 59)).alloc (.cells #[.int .i64 0, .int .i64 0, .int .i64 0] 59)).heap[w.heap.size + 1 + 1]? = some (.cells #[.int .i64 0, .int .i64 0, .int .i64 0] 59 (0, 0)) := hal_old (hal_new (by simp))
  have k1 : ((((w.alloc (.cells X 78)).alloc (.cells #[.int .i64 k, .bool t] 28)).alloc (.cells #[.int .i64 0, .int .i64 0, .int .i64 0] 59)).alloc (.cells #[.int .i64 0, .int .i64 0, .int .i64 0] 59)).heap[w.heap.size + 1 + 1 + 1]? = some (.cells #[.int .i64 0, .int .i64 0, .int .i64 0] 59 (0, 0)) := hal_new (by simp)
  obtain ⟨W1, hW1⟩ : ∃ W1, ((((w.alloc (.cells X 78)).alloc (.cells #[.int .i64 k, .bool t] 28)).alloc (.cells #[.int .i64 0, .int .i64 0, .int .i64 0] 59)).alloc (.cells #[.int .i64 0, .int .i64 0, .int .i64 0] 59)) = W1 := ⟨_, rfl⟩
  rw [hW1] at Y a0 a1 a2 b0 b1 b2 b3 e0 s0 s1 k0 k1
  have HW1 := Lib.hid hW1
  have l0 := lt_of_block k0
  have l1 := lt_of_block k1
  have l2 := lt_of_cell s0
  have l3 := lt_of_cell e0
  clear hcs hp h hk hW1
  cases t with
  | true =>
    go_enter Try.func74, Try.ntmps74
    go_upto_region 1 with fail
    rw [HW1.out]
    go_upto_region 3 with fail
    obtain ⟨x0, x1, x2, y0, y1, y2⟩ := three_cells k0
    obtain ⟨x3, x4, x5, y3, y4, y5⟩ := three_cells k1
    go_region
    all_goals (
      go_wp2_with fail
      have f0 := set3_other (.int .i64 p.a.d.lo) (.int .i64 p.a.d.hi) (.int .i64 p.a.p) (set3_same (.int .i64 p.b.d.lo) (.int .i64 p.b.d.hi) (.int .i64 p.b.p) k0) (show w.heap.size + 1 + 1 ≠ w.heap.size + 1 + 1 + 1 by omega)
      have f1 := set3_same (.int .i64 p.a.d.lo) (.int .i64 p.a.d.hi) (.int .i64 p.a.p) (set3_other (.int .i64 p.b.d.lo) (.int .i64 p.b.d.hi) (.int .i64 p.b.p) k1 (show w.heap.size + 1 + 1 + 1 ≠ w.heap.size + 1 + 1 by omega))
      have g0 := three_cells (hal_old (o := .cells #[.int .i64 p.a.d.lo, .int .i64 p.a.d.hi, .int .i64 p.a.p, .int .i64 p.b.d.lo, .int .i64 p.b.d.hi, .int .i64 p.b.p] 60) f0)
      have g1 := three_cells (hal_old (o := .cells #[.int .i64 p.a.d.lo, .int .i64 p.a.d.hi, .int .i64 p.a.p, .int .i64 p.b.d.lo, .int .i64 p.b.d.hi, .int .i64 p.b.p] 60) f1)
      have hb := (((((((Y.below.setCell (p := ⟨w.heap.size + 1 + 1, 0, none⟩) (by simp; omega) (.int .i64 p.b.d.lo)).setCell (p := ⟨w.heap.size + 1 + 1, 1, none⟩) (by simp; omega) (.int .i64 p.b.d.hi)).setCell (p := ⟨w.heap.size + 1 + 1, 2, none⟩) (by simp; omega) (.int .i64 p.b.p)).setCell (p := ⟨w.heap.size + 1 + 1 + 1, 0, none⟩) (by simp; omega) (.int .i64 p.a.d.lo)).setCell (p := ⟨w.heap.size + 1 + 1 + 1, 1, none⟩) (by simp; omega) (.int .i64 p.a.d.hi)).setCell (p := ⟨w.heap.size + 1 + 1 + 1, 2, none⟩) (by simp; omega) (.int .i64 p.a.p)))
      have hb2 := below_drew_' (hb.alloc hb.size (.cells #[.int .i64 p.a.d.lo, .int .i64 p.a.d.hi, .int .i64 p.a.p, .int .i64 p.b.d.lo, .int .i64 p.b.d.hi, .int .i64 p.b.p] 60))
      obtain ⟨V, hV⟩ : ∃ V, (((((((W1.setCell ⟨w.heap.size + 1 + 1, 0, none⟩ (.int .i64 p.b.d.lo)).setCell ⟨w.heap.size + 1 + 1, 1, none⟩ (.int .i64 p.b.d.hi)).setCell ⟨w.heap.size + 1 + 1, 2, none⟩ (.int .i64 p.b.p)).setCell ⟨w.heap.size + 1 + 1 + 1, 0, none⟩ (.int .i64 p.a.d.lo)).setCell ⟨w.heap.size + 1 + 1 + 1, 1, none⟩ (.int .i64 p.a.d.hi)).setCell ⟨w.heap.size + 1 + 1 + 1, 2, none⟩ (.int .i64 p.a.p)).alloc (.cells #[.int .i64 p.a.d.lo, .int .i64 p.a.d.hi, .int .i64 p.a.p, .int .i64 p.b.d.lo, .int .i64 p.b.d.hi, .int .i64 p.b.p] 60)) = V := ⟨_, rfl⟩
      rw [hV] at g0 g1 hb2 ⊢
      obtain ⟨z0, z1, z2, _⟩ := g0
      obtain ⟨z3, z4, z5, _⟩ := g1
      clear hV f0 f1 hb x0 x1 x2 x3 x4 x5 y0 y1 y2 y3 y4 y5
      refine bodyPost_ret (v := .tuple #[enV p.b, enV p.a]) (by simp [results, Try.results74, go_sem, enV, z0, z1, z2, z3, z4, z5]) rfl ⟨by rw [Hb.out, He.out]; rfl, ?_⟩
      exact hb2)
  | false =>
    go_enter Try.func74, Try.ntmps74
    go_upto_region 1 with fail
    rw [HW1.out]
    go_upto_region 4 with fail
    obtain ⟨x0, x1, x2, y0, y1, y2⟩ := three_cells k0
    obtain ⟨x3, x4, x5, y3, y4, y5⟩ := three_cells k1
    go_region
    all_goals (
      go_wp2_with fail
      have f0 := set3_other (.int .i64 p.b.d.lo) (.int .i64 p.b.d.hi) (.int .i64 p.b.p) (set3_same (.int .i64 p.a.d.lo) (.int .i64 p.a.d.hi) (.int .i64 p.a.p) k0) (show w.heap.size + 1 + 1 ≠ w.heap.size + 1 + 1 + 1 by omega)
      have f1 := set3_same (.int .i64 p.b.d.lo) (.int .i64 p.b.d.hi) (.int .i64 p.b.p) (set3_other (.int .i64 p.a.d.lo) (.int .i64 p.a.d.hi) (.int .i64 p.a.p) k1 (show w.heap.size + 1 + 1 + 1 ≠ w.heap.size + 1 + 1 by omega))
      have g0 := three_cells (hal_old (o := .cells #[.int .i64 p.a.d.lo, .int .i64 p.a.d.hi, .int .i64 p.a.p, .int .i64 p.b.d.lo, .int .i64 p.b.d.hi, .int .i64 p.b.p] 60) f0)
      have g1 := three_cells (hal_old (o := .cells #[.int .i64 p.a.d.lo, .int .i64 p.a.d.hi, .int .i64 p.a.p, .int .i64 p.b.d.lo, .int .i64 p.b.d.hi, .int .i64 p.b.p] 60) f1)
      have hb := (((((((Y.below.setCell (p := ⟨w.heap.size + 1 + 1, 0, none⟩) (by simp; omega) (.int .i64 p.a.d.lo)).setCell (p := ⟨w.heap.size + 1 + 1, 1, none⟩) (by simp; omega) (.int .i64 p.a.d.hi)).setCell (p := ⟨w.heap.size + 1 + 1, 2, none⟩) (by simp; omega) (.int .i64 p.a.p)).setCell (p := ⟨w.heap.size + 1 + 1 + 1, 0, none⟩) (by simp; omega) (.int .i64 p.b.d.lo)).setCell (p := ⟨w.heap.size + 1 + 1 + 1, 1, none⟩) (by simp; omega) (.int .i64 p.b.d.hi)).setCell (p := ⟨w.heap.size + 1 + 1 + 1, 2, none⟩) (by simp; omega) (.int .i64 p.b.p)))
      have hb2 := below_drew_' (hb.alloc hb.size (.cells #[.int .i64 p.a.d.lo, .int .i64 p.a.d.hi, .int .i64 p.a.p, .int .i64 p.b.d.lo, .int .i64 p.b.d.hi, .int .i64 p.b.p] 60))
      obtain ⟨V, hV⟩ : ∃ V, (((((((W1.setCell ⟨w.heap.size + 1 + 1, 0, none⟩ (.int .i64 p.a.d.lo)).setCell ⟨w.heap.size + 1 + 1, 1, none⟩ (.int .i64 p.a.d.hi)).setCell ⟨w.heap.size + 1 + 1, 2, none⟩ (.int .i64 p.a.p)).setCell ⟨w.heap.size + 1 + 1 + 1, 0, none⟩ (.int .i64 p.b.d.lo)).setCell ⟨w.heap.size + 1 + 1 + 1, 1, none⟩ (.int .i64 p.b.d.hi)).setCell ⟨w.heap.size + 1 + 1 + 1, 2, none⟩ (.int .i64 p.b.p)).alloc (.cells #[.int .i64 p.a.d.lo, .int .i64 p.a.d.hi, .int .i64 p.a.p, .int .i64 p.b.d.lo, .int .i64 p.b.d.hi, .int .i64 p.b.p] 60)) = V := ⟨_, rfl⟩
      rw [hV] at g0 g1 hb2 ⊢
      obtain ⟨z0, z1, z2, _⟩ := g0
      obtain ⟨z3, z4, z5, _⟩ := g1
      clear hV f0 f1 hb x0 x1 x2 x3 x4 x5 y0 y1 y2 y3 y4 y5
      refine bodyPost_ret (v := .tuple #[enV p.a, enV p.b]) (by simp [results, Try.results74, go_sem, enV, z0, z1, z2, z3, z4, z5]) rfl ⟨by rw [Hb.out, He.out]; rfl, ?_⟩
      exact hb2)

attribute [local go_sem ↓] exec_load78
theorem just_ok (lo hi z : Int) : okRg lo hi ⟨z, z⟩ = (true && true && true && decide (lo ≤ z) && decide (z ≤ hi)) := by simp [okRg]
structure Gx (w : World) (B : Nat) (X : Array Value) (A : Option Addr) (n cap : Nat) (off lo hi : Int) (T : Nat → Nat → Bool) (M : Nat) (ps : List Pc) (s t : St) (W : World) : Prop where
  cx : Bx w B X A n cap off lo hi T M ps W
  s0 : W.heap[B + 1]? = some (.cells #[.int .i64 s.p, .bool s.turned] 28 (0, 0))
  t0 : W.heap[B + 2]? = some (.cells #[.int .i64 t.p, .bool t.turned] 28 (0, 0))
theorem Gx.next {w : World} {B : Nat} {X : Array Value} {A : Option Addr} {n cap : Nat} {off lo hi : Int} {T : Nat → Nat → Bool} {M : Nat} {ps : List Pc} {s t : St} {W W' : World} (h : Gx w B X A n cap off lo hi T M ps s t W) (hb : Below W.heap.size W W') : Gx w B X A n cap off lo hi T M ps s t W' :=
  ⟨h.cx.next hb, (hb.block _ (lt_of_block h.s0)).trans h.s0, (hb.block _ (lt_of_block h.t0)).trans h.t0⟩
theorem Gx.new {w : World} {X : Array Value} {A : Option Addr} {n cap : Nat} {off lo hi : Int} {T : Nat → Nat → Bool} {M : Nat} {ps : List Pc} {s t : St} (h : Pcs w A n ps) (hX : Brd X A n cap off lo hi T M) :
    Gx w w.heap.size X A n cap off lo hi T M ps s t (((w.alloc (.cells X 78)).alloc (.cells #[.int .i64 s.p, .bool s.turned] 28)).alloc (.cells #[.int .i64 t.p, .bool t.turned] 28)) :=
  ⟨((Bx.new h hX).next (below_alloc_ _ _)).next (below_alloc_ _ _), hal_old (hal_new (by simp)), hal_new (by simp)⟩
theorem Gx.c {w : World} {B : Nat} {X : Array Value} {A : Option Addr} {n cap : Nat} {off lo hi : Int} {T : Nat → Nat → Bool} {M : Nat} {ps : List Pc} {s t : St} {W : World} (h : Gx w B X A n cap off lo hi T M ps s t W) :
    W.cell? ⟨B + 1, 0, none⟩ = some (.int .i64 s.p) ∧ W.cell? ⟨B + 1, 1, none⟩ = some (.bool s.turned) ∧ W.cell? ⟨B + 2, 0, none⟩ = some (.int .i64 t.p) ∧ W.cell? ⟨B + 2, 1, none⟩ = some (.bool t.turned) ∧ B + 1 < W.heap.size ∧ B + 2 < W.heap.size :=
  ⟨by rw [cell_row h.s0]; rfl, by rw [cell_row h.s0]; rfl, by rw [cell_row h.t0]; rfl, by rw [cell_row h.t0]; rfl, lt_of_block h.s0, lt_of_block h.t0⟩

structure Mx (w : World) (B : Nat) (X : Array Value) (A : Option Addr) (n cap : Nat) (off lo hi : Int) (T : Nat → Nat → Bool) (M : Nat) (ps : List Pc) (s t : St) (Qx Qy : Nat) (x y : En) (W : World) : Prop where
  gx : Gx w B X A n cap off lo hi T M ps s t W
  rx : W.heap[Qx]? = some (.cells #[.int .i64 x.d.lo, .int .i64 x.d.hi, .int .i64 x.p] 59 (0, 0))
  ry : W.heap[Qy]? = some (.cells #[.int .i64 y.d.lo, .int .i64 y.d.hi, .int .i64 y.p] 59 (0, 0))
theorem Mx.next {w : World} {B : Nat} {X : Array Value} {A : Option Addr} {n cap : Nat} {off lo hi : Int} {T : Nat → Nat → Bool} {M : Nat} {ps : List Pc} {s t : St} {Qx Qy : Nat} {x y : En} {W W' : World} (h : Mx w B X A n cap off lo hi T M ps s t Qx Qy x y W) (hb : Below W.heap.size W W') : Mx w B X A n cap off lo hi T M ps s t Qx Qy x y W' :=
  ⟨h.gx.next hb, (hb.block _ (lt_of_block h.rx)).trans h.rx, (hb.block _ (lt_of_block h.ry)).trans h.ry⟩
theorem Mx.all {w : World} {B : Nat} {X : Array Value} {A : Option Addr} {n cap : Nat} {off lo hi : Int} {T : Nat → Nat → Bool} {M : Nat} {ps : List Pc} {s t : St} {Qx Qy : Nat} {x y : En} {W : World} (h : Mx w B X A n cap off lo hi T M ps s t Qx Qy x y W) :
    Mx w B X A n cap off lo hi T M ps s t Qx Qy x y W ∧ W.cell? ⟨B + 1, 0, none⟩ = some (.int .i64 s.p) ∧ W.cell? ⟨B + 1 + 1, 0, none⟩ = some (.int .i64 t.p) ∧ W.cell? ⟨B, 1, none⟩ = some (.int .i64 off) ∧ W.cell? ⟨B, 2, none⟩ = some (.int .i64 lo) ∧ W.cell? ⟨B, 3, none⟩ = some (.int .i64 hi) ∧ W.cell? ⟨Qy, 2, none⟩ = some (.int .i64 y.p) ∧ W.cell? ⟨Qx, 2, none⟩ = some (.int .i64 x.p) :=
  ⟨h, h.gx.c.1, h.gx.c.2.2.1, h.gx.cx.c.2.1, h.gx.cx.c.2.2.1, h.gx.cx.c.2.2.2.1, (three_cells h.ry).2.2.1, (three_cells h.rx).2.2.1⟩

set_option maxRecDepth 100000 in
set_option maxHeartbeats 4000000 in
theorem meet65 (X : Array Value) (A : Option Addr) (n cap k l : Nat) (off lo hi : Int) (T : Nat → Nat → Bool) (M : Nat) (u v : Bool) (ps : List Pc) (w : World) (hX : Brd X A n cap off lo hi T M) (h : Pcs w A n ps) (hk : k < n) (hl : l < n) (hv : chkC ⟨ps, off, ⟨lo, hi⟩⟩ = 0) :
    Calls Try.prog 65 #[.agg X, .agg #[.int .i64 (k : Int), .bool u], .agg #[.int .i64 (l : Int), .bool v]] w fun e w' => e = .returned (.bool (fitsB ⟨ps, off, ⟨lo, hi⟩⟩ ⟨k, u⟩ ⟨l, v⟩)) ∧ Below w.heap.size w w' := by
  have Z := Gx.new (s := ⟨k, u⟩) (t := ⟨l, v⟩) h hX
  have hlen := h.1
  have bx := okEn_facts (beg_ok hv (show k < ps.length by omega) u).2
  have bY := okEn_facts (beg_ok hv (show l < ps.length by omega) v).1
  obtain ⟨x, hx⟩ : ∃ x, endE ps ⟨k, u⟩ = x := ⟨_, rfl⟩
  obtain ⟨y, hy⟩ : ∃ y, begE ps ⟨l, v⟩ = y := ⟨_, rfl⟩
  have hfb := chkC_facts hv
  have Hf := Lib.hid (show fitsB ⟨ps, off, ⟨lo, hi⟩⟩ ⟨k, u⟩ ⟨l, v⟩ = (decide ((k : Int) ≠ (l : Int)) && decide (x.d.lo - y.d.hi ≤ off) && decide (y.d.lo - x.d.hi ≤ off) && decide (lo ≤ y.p - x.p) && decide (y.p - x.p ≤ hi)) by rw [← hx, ← hy]; rfl)
  simp only at bx bY hfb
  rw [hx] at bx
  rw [hy] at bY
  have Hx := Lib.hid hx
  have Hy := Lib.hid hy
  have Hk := Lib.hid hk
  have Hl := Lib.hid hl
  obtain ⟨u1, u2, u3, u4, u5⟩ := bx
  obtain ⟨v1, v2, v3, v4, v5⟩ := bY
  obtain ⟨_, _, g1, g2, g3, g4, g5, _⟩ := hfb
  have wp : IntKind.i64.wrap (y.p - x.p) = y.p - x.p := IntWalk.i64_in _ (by omega)
  have w1 : IntKind.i64.wrap (x.d.lo - y.d.hi) = x.d.lo - y.d.hi := IntWalk.i64_in _ (by omega)
  have w2 : IntKind.i64.wrap (y.d.lo - x.d.hi) = y.d.lo - x.d.hi := IntWalk.i64_in _ (by omega)
  have HX := Lib.hid hX
  clear h hk hl hv hlen hx hy hX
  obtain ⟨B, hB⟩ : ∃ B, w.heap.size = B := ⟨_, rfl⟩
  rw [hB] at Z
  obtain ⟨W1, hW1⟩ : ∃ W1, (((w.alloc (.cells X 78)).alloc (.cells #[.int .i64 (k : Int), .bool u] 28)).alloc (.cells #[.int .i64 (l : Int), .bool v] 28)) = W1 := ⟨_, rfl⟩
  rw [hW1] at Z
  have HW1 := Lib.hid hW1
  clear hW1
  obtain ⟨c0, c1, c2, c3, c4, l0, hl78⟩ := Z.cx.c
  obtain ⟨s0, s1, t0, t1, l1, l2⟩ := Z.c
  go_enter Try.func65, Try.ntmps65
  go_upto_region 1 with fail
  rw [HW1.out]
  clear hB
  go_wp2_with fail
  refine (ends74 X A n cap k off lo hi T M u ps _ HX.out Z.cx.pcs Hk.out).mono ?_
  rintro e w3 ⟨rfl, hb⟩
  rw [Hx.out]
  have X2 := Z.next hb
  clear Z hb c0 c1 c2 c3 c4 hl78 s0 s1 t0 t1 l0 l1 l2
  obtain ⟨bg, hbg⟩ : ∃ bg, begE ps ⟨k, u⟩ = bg := ⟨_, rfl⟩
  rw [hbg]
  clear hbg
  unfold enV
  obtain ⟨c0, c1, c2, c3, c4, l0, hl78⟩ := X2.cx.c
  obtain ⟨s0, s1, t0, t1, l1, l2⟩ := X2.c
  have hl3 := (((X2.next (below_alloc_ w3 (.cells #[.int .i64 bg.d.lo, .int .i64 bg.d.hi, .int .i64 bg.p] 59))).next (below_alloc_ _ (.cells #[.int .i64 x.d.lo, .int .i64 x.d.hi, .int .i64 x.p] 59))).cx.c).2.2.2.2.2.2
  go_wp2_with fail
  clear hl3
  have X3 := (X2.next (below_alloc_ w3 (.cells #[.int .i64 bg.d.lo, .int .i64 bg.d.hi, .int .i64 bg.p] 59))).next (below_alloc_ _ (.cells #[.int .i64 x.d.lo, .int .i64 x.d.hi, .int .i64 x.p] 59))
  have r3 : ((w3.alloc (.cells #[.int .i64 bg.d.lo, .int .i64 bg.d.hi, .int .i64 bg.p] 59)).alloc (.cells #[.int .i64 x.d.lo, .int .i64 x.d.hi, .int .i64 x.p] 59)).heap[w3.heap.size + 1]? = some (.cells #[.int .i64 x.d.lo, .int .i64 x.d.hi, .int .i64 x.p] 59 (0, 0)) := hal_new (by simp)
  obtain ⟨W4, hW4⟩ : ∃ W4, (w3.alloc (.cells #[.int .i64 bg.d.lo, .int .i64 bg.d.hi, .int .i64 bg.p] 59)).alloc (.cells #[.int .i64 x.d.lo, .int .i64 x.d.hi, .int .i64 x.p] 59) = W4 := ⟨_, rfl⟩
  rw [hW4] at X3 r3 ⊢
  obtain ⟨Qx, hQx⟩ : ∃ Qx, w3.heap.size + 1 = Qx := ⟨_, rfl⟩
  rw [hQx] at r3 ⊢
  clear X2 hW4 hQx c0 c1 c2 c3 c4 hl78 s0 s1 t0 t1 l0 l1 l2
  refine (ends74 X A n cap l off lo hi T M v ps _ HX.out X3.cx.pcs Hl.out).mono ?_
  rintro e w5 ⟨rfl, hb⟩
  rw [Hy.out]
  have X5 := X3.next hb
  have r5 := (hb.block _ (lt_of_block r3)).trans r3
  clear X3 hb r3
  obtain ⟨en, hen⟩ : ∃ en, endE ps ⟨l, v⟩ = en := ⟨_, rfl⟩
  rw [hen]
  clear hen
  unfold enV
  go_upto_region 3 with fail
  have X6 := (X5.next (below_alloc_ w5 (.cells #[.int .i64 y.d.lo, .int .i64 y.d.hi, .int .i64 y.p] 59))).next (below_alloc_ _ (.cells #[.int .i64 en.d.lo, .int .i64 en.d.hi, .int .i64 en.p] 59))
  have r6 : ((w5.alloc (.cells #[.int .i64 y.d.lo, .int .i64 y.d.hi, .int .i64 y.p] 59)).alloc (.cells #[.int .i64 en.d.lo, .int .i64 en.d.hi, .int .i64 en.p] 59)).heap[w5.heap.size]? = some (.cells #[.int .i64 y.d.lo, .int .i64 y.d.hi, .int .i64 y.p] 59 (0, 0)) := hal_old (hal_new rfl)
  have r7 := hal_old (o := .cells #[.int .i64 en.d.lo, .int .i64 en.d.hi, .int .i64 en.p] 59) (hal_old (o := .cells #[.int .i64 y.d.lo, .int .i64 y.d.hi, .int .i64 y.p] 59) r5)
  obtain ⟨W6, hW6⟩ : ∃ W6, (w5.alloc (.cells #[.int .i64 y.d.lo, .int .i64 y.d.hi, .int .i64 y.p] 59)).alloc (.cells #[.int .i64 en.d.lo, .int .i64 en.d.hi, .int .i64 en.p] 59) = W6 := ⟨_, rfl⟩
  rw [hW6] at X6 r6 r7 ⊢
  obtain ⟨Qy, hQy⟩ : ∃ Qy, w5.heap.size = Qy := ⟨_, rfl⟩
  rw [hQy] at r6 ⊢
  clear X5 hW6 hQy r5
  obtain ⟨c0, c1, c2, c3, c4, l0, hl78⟩ := X6.cx.c
  obtain ⟨s0, s1, t0, t1, l1, l2⟩ := X6.c
  obtain ⟨x0, x1, x2, _⟩ := three_cells r7
  obtain ⟨y0, y1, y2, _⟩ := three_cells r6
  by_cases nm : y.d.lo - x.d.hi < x.d.lo - y.d.hi
  · have dm : decide (y.d.lo - x.d.hi < x.d.lo - y.d.hi) = true := decide_eq_true nm
    go_upto_region 4 with fail
    clear dm
    by_cases n1 : (k : Int) = (l : Int)
    · have D1 := Lib.hid (show decide ((k : Int) ≠ (l : Int)) = false from decide_eq_false (fun h => h n1))
      have d1 : ((k : Int) != (l : Int)) = false := by rw [bne_eq_false_iff_eq]; exact n1
      clear n1 nm
      go_quiet (fail)
      go_wp2_with fail
      go_ret
      exact ⟨ret_bool (by rw [Hf.out, D1.out]; simp), X6.cx.below.trans ((drew_b _ _).mono X6.cx.below.size)⟩
    · have D1 := Lib.hid (show decide ((k : Int) ≠ (l : Int)) = true from decide_eq_true n1)
      have d1 : ((k : Int) != (l : Int)) = true := by rw [bne_iff_ne]; exact n1
      clear n1
      by_cases n2 : x.d.lo - y.d.hi ≤ off
      · have d2 : decide (x.d.lo - y.d.hi ≤ off) = true := decide_eq_true n2
        have D2 := Lib.hid (show decide (x.d.lo - y.d.hi ≤ off) = true ∧ decide (y.d.lo - x.d.hi ≤ off) = true from ⟨decide_eq_true (by omega), decide_eq_true (by omega)⟩)
        clear n2 nm
        have hH := Mx.all (show Mx w B X A n cap off lo hi T M ps ⟨(k : Int), u⟩ ⟨(l : Int), v⟩ Qx Qy x y W6 from ⟨X6, r7, r6⟩)
        clear c0 c1 c2 c3 c4 hl78 s0 s1 t0 t1 x0 x1 x2 y0 y1 y2 r6 r7 X6 l0 l1 l2
        go_region_held3 (fun W => Mx w B X A n cap off lo hi T M ps ⟨(k : Int), u⟩ ⟨(l : Int), v⟩ Qx Qy x y W ∧ W.cell? ⟨B + 1, 0, none⟩ = some (.int .i64 (k : Int)) ∧ W.cell? ⟨B + 1 + 1, 0, none⟩ = some (.int .i64 (l : Int)) ∧ W.cell? ⟨B, 1, none⟩ = some (.int .i64 off) ∧ W.cell? ⟨B, 2, none⟩ = some (.int .i64 lo) ∧ W.cell? ⟨B, 3, none⟩ = some (.int .i64 hi) ∧ W.cell? ⟨Qy, 2, none⟩ = some (.int .i64 y.p) ∧ W.cell? ⟨Qx, 2, none⟩ = some (.int .i64 x.p))
          (first | (go_split_ands; exact Mx.all (Mx.next (by assumption) (by assumption))) | (go_split_ands; exact Mx.all (Mx.next (by assumption) (below_alloc_ _ _))) | (go_split_ands; exact Mx.all (Mx.next (by assumption) (drew_b _ 1))))
          (first
            | (go_at_call 48; refine (just48 _ _).mono ?_; rintro e w' ⟨rfl, rfl⟩)
            | (go_at_call 47; refine (within47 _ 1 1 [⟨y.p - x.p, y.p - x.p⟩] lo hi _ ?hr ?hn).mono ?hm; (case hr => (refine rgs_one ?_; show ((W6.alloc _).alloc _).heap[W6.heap.size + 1]? = _; exact hal_new (by simp))); (case hn => omega); rintro e w7 ⟨rfl, hb⟩))
        all_goals (
          have X7 : Mx w B X A n cap off lo hi T M ps ⟨(k : Int), u⟩ ⟨(l : Int), v⟩ Qx Qy x y w7 := And.left (b := w7.cell? ⟨B + 1, 0, none⟩ = some (.int .i64 (k : Int)) ∧ w7.cell? ⟨B + 1 + 1, 0, none⟩ = some (.int .i64 (l : Int)) ∧ w7.cell? ⟨B, 1, none⟩ = some (.int .i64 off) ∧ w7.cell? ⟨B, 2, none⟩ = some (.int .i64 lo) ∧ w7.cell? ⟨B, 3, none⟩ = some (.int .i64 hi) ∧ w7.cell? ⟨Qy, 2, none⟩ = some (.int .i64 y.p) ∧ w7.cell? ⟨Qx, 2, none⟩ = some (.int .i64 x.p)) (by assumption)
          go_wp2_with fail
          go_ret
          exact ⟨ret_bool (by rw [Hf.out, D1.out, D2.out.1, D2.out.2, within_one]; exact just_ok _ _ _), X7.gx.cx.below⟩)
      · have d2 : decide (x.d.lo - y.d.hi ≤ off) = false := decide_eq_false n2
        have D2 := Lib.hid (show (decide (x.d.lo - y.d.hi ≤ off) && decide (y.d.lo - x.d.hi ≤ off)) = false from by
          rw [Bool.and_eq_false_iff]
          exact .inl (decide_eq_false n2))
        clear n2 nm
        go_quiet (fail)
        go_wp2_with fail
        go_ret
        exact ⟨ret_bool (by rw [Hf.out, Bool.and_assoc (decide _), D2.out]; simp), X6.cx.below.trans ((drew_b _ _).mono X6.cx.below.size)⟩
  · have dm : decide (y.d.lo - x.d.hi < x.d.lo - y.d.hi) = false := decide_eq_false nm
    go_upto_region 4 with fail
    clear dm
    by_cases n1 : (k : Int) = (l : Int)
    · have D1 := Lib.hid (show decide ((k : Int) ≠ (l : Int)) = false from decide_eq_false (fun h => h n1))
      have d1 : ((k : Int) != (l : Int)) = false := by rw [bne_eq_false_iff_eq]; exact n1
      clear n1 nm
      go_quiet (fail)
      go_wp2_with fail
      go_ret
      exact ⟨ret_bool (by rw [Hf.out, D1.out]; simp), X6.cx.below.trans ((drew_b _ _).mono X6.cx.below.size)⟩
    · have D1 := Lib.hid (show decide ((k : Int) ≠ (l : Int)) = true from decide_eq_true n1)
      have d1 : ((k : Int) != (l : Int)) = true := by rw [bne_iff_ne]; exact n1
      clear n1
      by_cases n2 : y.d.lo - x.d.hi ≤ off
      · have d2 : decide (y.d.lo - x.d.hi ≤ off) = true := decide_eq_true n2
        have D2 := Lib.hid (show decide (x.d.lo - y.d.hi ≤ off) = true ∧ decide (y.d.lo - x.d.hi ≤ off) = true from ⟨decide_eq_true (by omega), decide_eq_true (by omega)⟩)
        clear n2 nm
        have hH := Mx.all (show Mx w B X A n cap off lo hi T M ps ⟨(k : Int), u⟩ ⟨(l : Int), v⟩ Qx Qy x y W6 from ⟨X6, r7, r6⟩)
        clear c0 c1 c2 c3 c4 hl78 s0 s1 t0 t1 x0 x1 x2 y0 y1 y2 r6 r7 X6 l0 l1 l2
        go_region_held3 (fun W => Mx w B X A n cap off lo hi T M ps ⟨(k : Int), u⟩ ⟨(l : Int), v⟩ Qx Qy x y W ∧ W.cell? ⟨B + 1, 0, none⟩ = some (.int .i64 (k : Int)) ∧ W.cell? ⟨B + 1 + 1, 0, none⟩ = some (.int .i64 (l : Int)) ∧ W.cell? ⟨B, 1, none⟩ = some (.int .i64 off) ∧ W.cell? ⟨B, 2, none⟩ = some (.int .i64 lo) ∧ W.cell? ⟨B, 3, none⟩ = some (.int .i64 hi) ∧ W.cell? ⟨Qy, 2, none⟩ = some (.int .i64 y.p) ∧ W.cell? ⟨Qx, 2, none⟩ = some (.int .i64 x.p))
          (first | (go_split_ands; exact Mx.all (Mx.next (by assumption) (by assumption))) | (go_split_ands; exact Mx.all (Mx.next (by assumption) (below_alloc_ _ _))) | (go_split_ands; exact Mx.all (Mx.next (by assumption) (drew_b _ 1))))
          (first
            | (go_at_call 48; refine (just48 _ _).mono ?_; rintro e w' ⟨rfl, rfl⟩)
            | (go_at_call 47; refine (within47 _ 1 1 [⟨y.p - x.p, y.p - x.p⟩] lo hi _ ?hr2 ?hn2).mono ?hm2; (case hr2 => (refine rgs_one ?_; show ((W6.alloc _).alloc _).heap[W6.heap.size + 1]? = _; exact hal_new (by simp))); (case hn2 => omega); rintro e w7 ⟨rfl, hb⟩))
        all_goals (
          have X7 : Mx w B X A n cap off lo hi T M ps ⟨(k : Int), u⟩ ⟨(l : Int), v⟩ Qx Qy x y w7 := And.left (b := w7.cell? ⟨B + 1, 0, none⟩ = some (.int .i64 (k : Int)) ∧ w7.cell? ⟨B + 1 + 1, 0, none⟩ = some (.int .i64 (l : Int)) ∧ w7.cell? ⟨B, 1, none⟩ = some (.int .i64 off) ∧ w7.cell? ⟨B, 2, none⟩ = some (.int .i64 lo) ∧ w7.cell? ⟨B, 3, none⟩ = some (.int .i64 hi) ∧ w7.cell? ⟨Qy, 2, none⟩ = some (.int .i64 y.p) ∧ w7.cell? ⟨Qx, 2, none⟩ = some (.int .i64 x.p)) (by assumption)
          go_wp2_with fail
          go_ret
          exact ⟨ret_bool (by rw [Hf.out, D1.out, D2.out.1, D2.out.2, within_one]; exact just_ok _ _ _), X7.gx.cx.below⟩)
      · have d2 : decide (y.d.lo - x.d.hi ≤ off) = false := decide_eq_false n2
        have D2 := Lib.hid (show (decide (x.d.lo - y.d.hi ≤ off) && decide (y.d.lo - x.d.hi ≤ off)) = false from by
          rw [Bool.and_eq_false_iff]
          exact .inr (decide_eq_false n2))
        clear n2 nm
        go_quiet (fail)
        go_wp2_with fail
        go_ret
        exact ⟨ret_bool (by rw [Hf.out, Bool.and_assoc (decide _), D2.out]; simp), X6.cx.below.trans ((drew_b _ _).mono X6.cx.below.size)⟩
end Go.Proofs.Ytfmcfalghbaanaa
