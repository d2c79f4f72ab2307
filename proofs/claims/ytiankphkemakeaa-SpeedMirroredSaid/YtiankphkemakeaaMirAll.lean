/- SpeedMirrored: two sheets that are built side by side, the walk, put together. -/
import Derived.Test.YtiankphkemakeaaWaysAll
import Derived.Maps.AppendAt
import Derived.Deep.DeepCutAuto
namespace Go.Proofs.Ytiankphkemakeaa
set_option linter.unusedSimpArgs false
set_option linter.unusedVariables false
open Go.RowKit Go.Shelf

theorem bel_alloc {W0 W : World} (h : Below W0.heap.size W0 W) (o : Obj) : Below W0.heap.size W0 (W.alloc o) := h.alloc h.size o
theorem bel_drew {W0 W : World} (h : Below W0.heap.size W0 W) : Below W0.heap.size W0 W.drew := below_drewN h 1
theorem hal_new {W : World} {o : Obj} {k : Nat} (h : k = W.heap.size) : (W.alloc o).heap[k]? = some o := by subst h; exact heap_alloc_new _ _
theorem hal_old {W : World} {o x : Obj} {k : Nat} (h : W.heap[k]? = some x) : (W.alloc o).heap[k]? = some x := ((below_alloc_ W o).block _ (lt_of_block h)).trans h
theorem hgr {W W' : World} {row : Option Nat} {x : Obj} {k : Nat} (hg : W.grownBy W' row) (h : W.heap[k]? = some x) (hne : some k ≠ row) : W'.heap[k]? = some x := (hg.block _ (lt_of_block h) hne).trans h
theorem zcells {W : World} {k : Nat} (h : W.heap[k]? = some (.cells #[.int .i64 0, .slice none 0 0] 24 (0, 0))) : W.cell? ⟨k, 0, none⟩ = some (.int .i64 0) ∧ W.cell? ⟨k, 1, none⟩ = some (.slice none 0 0) ∧ W.frozen? ⟨k, 0, none⟩ = false ∧ W.frozen? ⟨k, 1, none⟩ = false :=
  ⟨by rw [cell_of_row _ _ 0 _ _ _ h]; rfl, by rw [cell_of_row _ _ 1 _ _ _ h]; rfl, frozen_of_row _ _ 0 _ _ h, frozen_of_row _ _ 1 _ _ h⟩

/-- append(v, x...), and where the new slice lies. -/
theorem run_append_rulesG (w : World) (ty base : Nat) (v : Value) (n : Nat) (xs : List R) (hown : w.ownsRow base 68 3 v n (flat xs)) (A : Option Addr) (m c : Nat) (ys : List R) (hr : Rules w A m ys)
    (hbytes : (n + m) * 24 ≤ 140737488355328) (hbase : base ≤ w.heap.size) :
    ∃ A' cap' w', (Builtin.append_ #[22, 22] ty #[v, .slice A m c]).run Try.prog w = .ok (.slice A' (n + m) cap') w' ∧ w'.ownsRow base 68 3 (.slice A' (n + m) cap') (n + m) (flat (xs ++ ys)) ∧ w.grownBy w' v.ownBlock ∧ ((Value.slice A' (n + m) cap').ownBlock = v.ownBlock ∨ (Value.slice A' (n + m) cap').ownBlock = some w.heap.size) := by
  obtain ⟨i, hi, hz0, hz1, hz2⟩ := info_parts Try.info68
  rcases Nat.eq_zero_or_pos m with hm | hm
  · subst hm
    have hy : ys = [] := List.eq_nil_of_length_eq_zero hr.1
    subst hy
    obtain ⟨A', cap', rfl⟩ := own_form hown
    cases A with
    | none =>
      refine ⟨A', cap', w, ?_, by simpa using hown, World.grownBy.refl _ _, .inl rfl⟩
      rcases hown.2 with ⟨h1, h2⟩ | ⟨g, cap, cur, h1, _, _, hnc, _⟩
      · cases h1
        simp [Builtin.append_, run_underlying Try.underlying22, sizeOf, typeInfo, hi, Builtin.lenOf, Builtin.firstCells]
      · cases h1
        simp [Builtin.append_, run_underlying Try.underlying22, sizeOf, typeInfo, hi, Builtin.lenOf, Builtin.firstCells, hnc, storeCells]
    | some ad =>
      obtain ⟨v', w', h1, h2, h3, _, h5⟩ := run_append_own_at (P := Try.prog) w base 22 ty 68 i _ 3 24 Try.underlying22 hi hz0 hz1 hz2 rfl (by decide) _ n _ hown ad 0 c [] rfl (by simp) (by simp) (by unfold maxLen; omega) hbytes hbase
      obtain ⟨A2, cap2, rfl⟩ := own_form h2
      exact ⟨A2, cap2, w', h1, by simpa using h2, h3, h5⟩
  · obtain ⟨b, o, rfl, _⟩ := hr.2 hm
    obtain ⟨v', w', h1, h2, h3, _, h5⟩ := run_append_own_at (P := Try.prog) w base 22 ty 68 i _ 3 24 Try.underlying22 hi hz0 hz1 hz2 rfl (by decide) v n _ hown ⟨b, o, none⟩ m c (flat ys) (by rw [flat_length, hr.1]) hr.news (flat_one ys) (by unfold maxLen; omega) hbytes hbase
    obtain ⟨A2, cap2, rfl⟩ := own_form h2
    exact ⟨A2, cap2, w', h1, by rw [flat_append]; exact h2, h3, h5⟩
theorem wp_append_rulesG {o : Oper} {a : Act} {w : World} {K : Act → World → Prop} {Q : Exit → Act → World → Prop} (s x : Operand)
    (ho : o.op = .call { callee := .builtin .append, args := #[s, x], argTypes := #[22, 22] })
    (base : Nat) (v : Value) (n : Nat) (xs : List R) (hs : a.eval s = v) (A : Option Addr) (m c : Nat) (ys : List R) (hx : a.eval x = .slice A m c) (hown : w.ownsRow base 68 3 v n (flat xs)) (hr : Rules w A m ys)
    (hbytes : (n + m) * 24 ≤ 140737488355328) (hbase : base ≤ w.heap.size)
    (h : ∀ A' cap' w', w'.ownsRow base 68 3 (.slice A' (n + m) cap') (n + m) (flat (xs ++ ys)) → w.grownBy w' v.ownBlock → ((Value.slice A' (n + m) cap').ownBlock = v.ownBlock ∨ (Value.slice A' (n + m) cap').ownBlock = some w.heap.size) → K (a.put o.dst (.slice A' (n + m) cap')) w') : o.wp Try.prog a w K Q := by
  obtain ⟨A', cap', w', h1, h2, h3, h4⟩ := run_append_rulesG w o.type base v n xs hown A m c ys hr hbytes hbase
  unfold Oper.wp execOp
  simp only [ho, resolve, invoke, builtin, Sem.run_bind, Sem.run_pure, Result.andThen_ok, List.map_toArray, List.map_cons, List.map_nil, hs, hx, h1]
  exact h A' cap' w' h2 h3 h4
/-- A block of two numbers. -/
structure Rb8 (W : World) (Q : Nat) (lo hi : Int) : Prop where
  hp : W.heap[Q]? = some (.cells #[.int .i64 lo, .int .i64 hi] 43 (0, 0))
theorem Rb8.next {W W' : World} {Q : Nat} {lo hi : Int} (hb : Below W.heap.size W W') (h : Rb8 W Q lo hi) : Rb8 W' Q lo hi := ⟨(hb.block _ (lt_of_block h.hp)).trans h.hp⟩
theorem Rb8.c0 {W : World} {Q : Nat} {lo hi : Int} (h : Rb8 W Q lo hi) : W.cell? ⟨Q, 0, none⟩ = some (.int .i64 lo) := by rw [cell_of_row _ _ 0 _ _ _ h.hp]; rfl
theorem Rb8.c1 {W : World} {Q : Nat} {lo hi : Int} (h : Rb8 W Q lo hi) : W.cell? ⟨Q, 1, none⟩ = some (.int .i64 hi) := by rw [cell_of_row _ _ 1 _ _ _ h.hp]; rfl
theorem turn_of2 {u N : Int} (h0 : 0 ≤ u) (h1 : u ≤ 255) (hN : 1 ≤ N) (hN2 : N ≤ 21) : ∃ a t : Nat, u % N = (a : Int) ∧ u.tmod N = (a : Int) ∧ IntKind.i64.wrap u = u ∧ IntKind.i64.wrap (a : Int) = (a : Int) ∧ (1 : Int) + (a : Int) = (t : Int) ∧ IntKind.i64.wrap (t : Int) = (t : Int) ∧ (0 : Int) ≤ (a : Int) ∧ (a : Int) < N ∧ 1 ≤ t ∧ (t : Int) ≤ N := by
  obtain ⟨a, a1, a2, a3, a4, a5⟩ := turn_of h0 h1 hN hN2
  exact ⟨a, a + 1, a1, a2, a4, a5, by omega, IntWalk.i64_in _ (by omega), by omega, a3, by omega, by omega⟩

/-- Two sheets' blocks, and the rows of rules that the call owns. -/
structure Mq (Wb : World) (T : Int) (kx ky : Nat) (cx cy : Value) (Ax : Option Addr) (lx capx : Nat) (xs : List R) (Ay : Option Addr) (ly capy : Nat) (ys : List R) (W : World) : Prop where
  b : Below Wb.heap.size Wb W
  hx : Wb.heap.size ≤ kx
  hy : Wb.heap.size ≤ ky
  hxy : kx ≠ ky
  x0 : W.heap[kx]? = some (.cells #[.int .i64 T, cx] 24 (0, 0))
  y0 : W.heap[ky]? = some (.cells #[.int .i64 T, cy] 24 (0, 0))
  ox : W.ownsRow Wb.heap.size 68 3 (.slice Ax lx capx) lx (flat xs)
  oy : W.ownsRow Wb.heap.size 68 3 (.slice Ay ly capy) ly (flat ys)
  sx : ∀ k, (Value.slice Ax lx capx).ownBlock = some k → k ≠ kx ∧ k ≠ ky ∧ (Value.slice Ay ly capy).ownBlock ≠ some k
  sy : ∀ k, (Value.slice Ay ly capy).ownBlock = some k → k ≠ kx ∧ k ≠ ky
theorem Mq.start {Wb : World} {T : Int} {kx ky : Nat} (h : (kx = Wb.heap.size ∧ ky = Wb.heap.size + 1) ∨ (kx = Wb.heap.size + 1 ∧ ky = Wb.heap.size)) :
    Mq Wb T kx ky (.slice none 0 0) (.slice none 0 0) none 0 0 [] none 0 0 [] ((Wb.alloc (.cells #[.int .i64 T, .slice none 0 0] 24)).alloc (.cells #[.int .i64 T, .slice none 0 0] 24)).drew := by
  have h0 : ((Wb.alloc (.cells #[.int .i64 T, .slice none 0 0] 24)).alloc (.cells #[.int .i64 T, .slice none 0 0] 24)).drew.heap[Wb.heap.size]? = some (.cells #[.int .i64 T, .slice none 0 0] 24 (0, 0)) := hal_old (hal_new rfl)
  have h1 : ((Wb.alloc (.cells #[.int .i64 T, .slice none 0 0] 24)).alloc (.cells #[.int .i64 T, .slice none 0 0] 24)).drew.heap[Wb.heap.size + 1]? = some (.cells #[.int .i64 T, .slice none 0 0] 24 (0, 0)) := hal_new (by simp)
  have hb := bel_drew (bel_alloc (bel_alloc (Below.refl Wb.heap.size Wb) (.cells #[.int .i64 T, .slice none 0 0] 24)) (.cells #[.int .i64 T, .slice none 0 0] 24))
  rcases h with ⟨rfl, rfl⟩ | ⟨rfl, rfl⟩
  · exact ⟨hb, by omega, by omega, by omega, h0, h1, World.ownsRow_nil _ _ _ _, World.ownsRow_nil _ _ _ _, (fun k hk => by cases hk), (fun k hk => by cases hk)⟩
  · exact ⟨hb, by omega, by omega, by omega, h1, h0, World.ownsRow_nil _ _ _ _, World.ownsRow_nil _ _ _ _, (fun k hk => by cases hk), (fun k hk => by cases hk)⟩
theorem take_filter {p : R → Bool} {rs : List R} {j : Nat} (h : j < rs.length) : (rs.take (j + 1)).filter p = (rs.take j).filter p ++ (if p (rAt rs j) then [rAt rs j] else []) := by
  rw [List.take_succ_eq_append_getElem h, List.filter_append]
  have e : rAt rs j = rs[j] := by simp [rAt, List.getD, h]
  rw [e]
  by_cases hp : p rs[j] = true
  · simp [hp]
  · simp [hp]
theorem Mq.next {Wb : World} {T : Int} {kx ky : Nat} {cx cy : Value} {Ax : Option Addr} {lx capx : Nat} {xs : List R} {Ay : Option Addr} {ly capy : Nat} {ys : List R} {W W' : World} (hb : Below W.heap.size W W') (h : Mq Wb T kx ky cx cy Ax lx capx xs Ay ly capy ys W) : Mq Wb T kx ky cx cy Ax lx capx xs Ay ly capy ys W' :=
  ⟨h.b.trans (hb.mono h.b.size), h.hx, h.hy, h.hxy, (hb.block _ (lt_of_block h.x0)).trans h.x0, (hb.block _ (lt_of_block h.y0)).trans h.y0, own_below h.ox hb (Nat.le_refl _), own_below h.oy hb (Nat.le_refl _), h.sx, h.sy⟩
theorem Mq.app_x {Wb : World} {T : Int} {kx ky : Nat} {cx cy : Value} {Ax : Option Addr} {lx capx : Nat} {xs : List R} {Ay : Option Addr} {ly capy : Nat} {ys : List R} {W W' : World} {A' : Option Addr} {l' cap' : Nat} {xs' : List R} (h : Mq Wb T kx ky cx cy Ax lx capx xs Ay ly capy ys W) (hg : W.grownBy W' (Value.slice Ax lx capx).ownBlock) (ho : W'.ownsRow Wb.heap.size 68 3 (.slice A' l' cap') l' (flat xs'))
    (hat : (Value.slice A' l' cap').ownBlock = (Value.slice Ax lx capx).ownBlock ∨ (Value.slice A' l' cap').ownBlock = some W.heap.size) : Mq Wb T kx ky cx cy A' l' cap' xs' Ay ly capy ys W' := by
  have lx0 := lt_of_block h.x0
  have ly0 := lt_of_block h.y0
  refine ⟨h.b.grown hg h.b.size (fun k hk => (h.ox.lt k hk).1), h.hx, h.hy, h.hxy, hgr hg h.x0 (fun e => (h.sx kx e.symm).1 rfl), hgr hg h.y0 (fun e => (h.sx ky e.symm).2.1 rfl), ho, h.oy.kept hg ?_, ?_, h.sy⟩
  · cases e : (Value.slice Ay ly capy).ownBlock with
    | none => exact .inl rfl
    | some k => exact .inr (fun e2 => (h.sx k e2.symm).2.2 e)
  · intro k hk
    rcases hat with h2 | h2
    · exact h.sx k (h2.symm.trans hk)
    · rw [h2] at hk
      cases hk
      exact ⟨by omega, by omega, fun e => by have := (h.oy.lt _ e).2; omega⟩
theorem Mq.app_y {Wb : World} {T : Int} {kx ky : Nat} {cx cy : Value} {Ax : Option Addr} {lx capx : Nat} {xs : List R} {Ay : Option Addr} {ly capy : Nat} {ys : List R} {W W' : World} {A' : Option Addr} {l' cap' : Nat} {ys' : List R} (h : Mq Wb T kx ky cx cy Ax lx capx xs Ay ly capy ys W) (hg : W.grownBy W' (Value.slice Ay ly capy).ownBlock) (ho : W'.ownsRow Wb.heap.size 68 3 (.slice A' l' cap') l' (flat ys'))
    (hat : (Value.slice A' l' cap').ownBlock = (Value.slice Ay ly capy).ownBlock ∨ (Value.slice A' l' cap').ownBlock = some W.heap.size) : Mq Wb T kx ky cx cy Ax lx capx xs A' l' cap' ys' W' := by
  have lx0 := lt_of_block h.x0
  have ly0 := lt_of_block h.y0
  refine ⟨h.b.grown hg h.b.size (fun k hk => (h.oy.lt k hk).1), h.hx, h.hy, h.hxy, hgr hg h.x0 (fun e => (h.sy kx e.symm).1 rfl), hgr hg h.y0 (fun e => (h.sy ky e.symm).2 rfl), h.ox.kept hg ?_, ho, ?_, ?_⟩
  · cases e : (Value.slice Ax lx capx).ownBlock with
    | none => exact .inl rfl
    | some k => exact .inr (fun e2 => (h.sx k e).2.2 e2.symm)
  · intro k hk
    refine ⟨(h.sx k hk).1, (h.sx k hk).2.1, fun e => ?_⟩
    rcases hat with h2 | h2
    · exact (h.sx k hk).2.2 (h2.symm.trans e)
    · rw [h2] at e
      cases e
      have := (h.ox.lt _ hk).2
      omega
  · intro k hk
    rcases hat with h2 | h2
    · exact h.sy k (h2.symm.trans hk)
    · rw [h2] at hk
      cases hk
      exact ⟨by omega, by omega⟩
theorem set1_grown (W : World) (k : Nat) (v : Value) : W.grownBy (W.setCell ⟨k, 1, none⟩ v) (some k) := by
  obtain ⟨h1, h2, h3, h4⟩ := setCells_rest k [v] 1 W
  exact ⟨h1, h2, h3, Nat.le_of_eq h4.symm, fun j _ hj => heap_setCells_other k [v] 1 W j (fun e => hj (by rw [e]))⟩
theorem set1_heap {W : World} {k : Nat} {u0 u : Value} (v : Value) (h : W.heap[k]? = some (.cells #[u0, u] 24 (0, 0))) : (W.setCell ⟨k, 1, none⟩ v).heap[k]? = some (.cells #[u0, v] 24 (0, 0)) := by
  have := heap_setCells k 24 [v] 1 W _ h
  simpa [World.setCells] using this
theorem Mq.set_x {Wb : World} {T : Int} {kx ky : Nat} {cx cy : Value} {Ax : Option Addr} {lx capx : Nat} {xs : List R} {Ay : Option Addr} {ly capy : Nat} {ys : List R} {W : World} (v : Value) (h : Mq Wb T kx ky cx cy Ax lx capx xs Ay ly capy ys W) : Mq Wb T kx ky v cy Ax lx capx xs Ay ly capy ys (W.setCell ⟨kx, 1, none⟩ v) := by
  have hg := set1_grown W kx v
  refine ⟨h.b.grown hg h.b.size (fun k hk => by cases hk; exact h.hx), h.hx, h.hy, h.hxy, set1_heap v h.x0, hgr hg h.y0 (fun e => h.hxy (Option.some.inj e).symm), h.ox.kept hg (.inr fun e => ?_), h.oy.kept hg (.inr fun e => ?_), h.sx, h.sy⟩
  · exact (h.sx kx e).1 rfl
  · exact (h.sy kx e).1 rfl
theorem Mq.set_y {Wb : World} {T : Int} {kx ky : Nat} {cx cy : Value} {Ax : Option Addr} {lx capx : Nat} {xs : List R} {Ay : Option Addr} {ly capy : Nat} {ys : List R} {W : World} (v : Value) (h : Mq Wb T kx ky cx cy Ax lx capx xs Ay ly capy ys W) : Mq Wb T kx ky cx v Ax lx capx xs Ay ly capy ys (W.setCell ⟨ky, 1, none⟩ v) := by
  have hg := set1_grown W ky v
  refine ⟨h.b.grown hg h.b.size (fun k hk => by cases hk; exact h.hy), h.hx, h.hy, h.hxy, hgr hg h.x0 (fun e => h.hxy (Option.some.inj e)), set1_heap v h.y0, h.ox.kept hg (.inr fun e => ?_), h.oy.kept hg (.inr fun e => ?_), h.sx, h.sy⟩
  · exact (h.sx ky e).2.1 rfl
  · exact (h.sy ky e).2 rfl
theorem two_cells {W : World} {k : Nat} {u v : Value} (h : W.heap[k]? = some (.cells #[u, v] 24 (0, 0))) : W.cell? ⟨k, 0, none⟩ = some u ∧ W.cell? ⟨k, 1, none⟩ = some v ∧ W.frozen? ⟨k, 0, none⟩ = false ∧ W.frozen? ⟨k, 1, none⟩ = false ∧ k < W.heap.size :=
  ⟨by rw [cell_of_row _ _ 0 _ _ _ h]; rfl, by rw [cell_of_row _ _ 1 _ _ _ h]; rfl, frozen_of_row _ _ 0 _ _ h, frozen_of_row _ _ 1 _ _ h, lt_of_block h⟩
/-- What the loop's statement loads: the rule's own block. -/
structure Q9 (Wb : World) (kr : Nat) (r : R) (W : World) : Prop where
  b : Below Wb.heap.size Wb W
  r0 : W.heap[kr]? = some (.cells #[.int .i64 r.f, .int .i64 r.t, .int .i64 r.m] 68 (0, 0))
theorem Q9.next {Wb : World} {kr : Nat} {r : R} {W W' : World} (hb : Below W.heap.size W W') (h : Q9 Wb kr r W) : Q9 Wb kr r W' := ⟨h.b.trans (hb.mono h.b.size), (hb.block _ (lt_of_block h.r0)).trans h.r0⟩
theorem Q9.grown {Wb : World} {kr : Nat} {r : R} {W W' : World} {row : Option Nat} (hg : W.grownBy W' row) (hr : ∀ k, row = some k → Wb.heap.size ≤ k ∧ k ≠ kr) (h : Q9 Wb kr r W) : Q9 Wb kr r W' :=
  ⟨h.b.grown hg h.b.size (fun k hk => (hr k hk).1), hgr hg h.r0 (fun e => (hr kr e.symm).2 rfl)⟩
theorem Q9.all {Wb : World} {kr : Nat} {r : R} {W : World} (h : Q9 Wb kr r W) : Q9 Wb kr r W ∧ W.cell? ⟨kr, 0, none⟩ = some (.int .i64 r.f) ∧ W.cell? ⟨kr, 1, none⟩ = some (.int .i64 r.t) ∧ W.cell? ⟨kr, 2, none⟩ = some (.int .i64 r.m) :=
  ⟨h, by rw [cell_of_row _ _ 0 _ _ _ h.r0]; rfl, by rw [cell_of_row _ _ 1 _ _ _ h.r0]; rfl, by rw [cell_of_row _ _ 2 _ _ _ h.r0]; rfl⟩
end Go.Proofs.Ytiankphkemakeaa

namespace Go.Proofs.Ytiankphkemakeaa
set_option linter.unusedSimpArgs false
set_option linter.unusedVariables false
open Go.RowKit Go.Shelf

structure Ms (w : World) (B : Nat) (T : Int) (A : Option Addr) (n cap : Nat) (rs : List R) (D : Option Addr) (m : Nat) (bs : List Int) (W : World) : Prop where
  bx : Bx w B T A n cap rs W
  by_ : IntsU W D m bs
theorem Ms.next {w : World} {B : Nat} {T : Int} {A : Option Addr} {n cap : Nat} {rs : List R} {D : Option Addr} {m : Nat} {bs : List Int} {W W' : World} (hb : Below W.heap.size W W') (h : Ms w B T A n cap rs D m bs W) : Ms w B T A n cap rs D m bs W' :=
  ⟨h.bx.next hb, h.by_.below hb (Nat.le_refl _)⟩
theorem Ms.new {w : World} {T : Int} {A : Option Addr} {n cap : Nat} {rs : List R} {D : Option Addr} {m : Nat} {bs : List Int} (h : Rules w A n rs) (hb : IntsU w D m bs) :
    Ms w w.heap.size T A n cap rs D m bs (w.alloc (.cells #[.int .i64 T, .slice A n cap] 24)) :=
  ⟨Bx.new h, hb.below (below_alloc_ _ _) (Nat.le_refl _)⟩
theorem ints_cell_ {W : World} {b o n : Nat} {zs : List Int} (h : Ints W (some ⟨b, o, none⟩) n zs) {j : Nat} (hj : j < n) : W.cell? ⟨b, o + j, none⟩ = some (.int .i64 (nth zs j)) := by
  obtain ⟨b2, o2, e, hc⟩ := h.2 (by omega)
  cases e
  exact hc j hj


structure Mf (w : World) (B : Nat) (T : Nat) (A : Option Addr) (n cap : Nat) (rs : List R) (D : Option Addr) (m : Nat) (bs : List Int) (kx ky : Nat) (Ax : Option Addr) (lx capx : Nat) (rx : List R) (Ay : Option Addr) (ly capy : Nat) (ry : List R) (W : World) : Prop where
  ms : Ms w B (T : Int) A n cap rs D m bs W
  x0 : W.heap[kx]? = some (.cells #[.int .i64 (T : Int), .slice Ax lx capx] 24 (0, 0))
  y0 : W.heap[ky]? = some (.cells #[.int .i64 (T : Int), .slice Ay ly capy] 24 (0, 0))
  rx : Rules W Ax lx rx
  ry : Rules W Ay ly ry
theorem Mf.next {w : World} {B : Nat} {T : Nat} {A : Option Addr} {n cap : Nat} {rs : List R} {D : Option Addr} {m : Nat} {bs : List Int} {kx ky : Nat} {Ax : Option Addr} {lx capx : Nat} {rx : List R} {Ay : Option Addr} {ly capy : Nat} {ry : List R} {W W' : World} (hb : Below W.heap.size W W') (h : Mf w B T A n cap rs D m bs kx ky Ax lx capx rx Ay ly capy ry W) : Mf w B T A n cap rs D m bs kx ky Ax lx capx rx Ay ly capy ry W' :=
  ⟨h.ms.next hb, (hb.block _ (lt_of_block h.x0)).trans h.x0, (hb.block _ (lt_of_block h.y0)).trans h.y0, h.rx.below hb (Nat.le_refl _), h.ry.below hb (Nat.le_refl _)⟩
structure Mh (w : World) (B : Nat) (T : Nat) (A : Option Addr) (n cap : Nat) (rs : List R) (D : Option Addr) (m : Nat) (bs : List Int) (kx ky : Nat) (Ax : Option Addr) (lx capx : Nat) (rx : List R) (Ay : Option Addr) (ly capy : Nat) (ry : List R) (C4 : Option Addr) (vs : List Int) (A6 : Option Addr) (ws : List Int) (Q1 Q2 : Nat) (x y x2 y2 : Int) (W : World) : Prop where
  mf : Mf w B T A n cap rs D m bs kx ky Ax lx capx rx Ay ly capy ry W
  i4 : Ints W C4 T vs
  i6 : Ints W A6 T ws
  b1 : Rb8 W Q1 x y
  b2 : Rb8 W Q2 x2 y2
theorem Mh.next {w : World} {B : Nat} {T : Nat} {A : Option Addr} {n cap : Nat} {rs : List R} {D : Option Addr} {m : Nat} {bs : List Int} {kx ky : Nat} {Ax : Option Addr} {lx capx : Nat} {rx : List R} {Ay : Option Addr} {ly capy : Nat} {ry : List R} {C4 : Option Addr} {vs : List Int} {A6 : Option Addr} {ws : List Int} {Q1 Q2 : Nat} {x y x2 y2 : Int} {W W' : World} (hb : Below W.heap.size W W') (h : Mh w B T A n cap rs D m bs kx ky Ax lx capx rx Ay ly capy ry C4 vs A6 ws Q1 Q2 x y x2 y2 W) : Mh w B T A n cap rs D m bs kx ky Ax lx capx rx Ay ly capy ry C4 vs A6 ws Q1 Q2 x y x2 y2 W' :=
  ⟨h.mf.next hb, h.i4.below hb (Nat.le_refl _), h.i6.below hb (Nat.le_refl _), h.b1.next hb, h.b2.next hb⟩
theorem Mh.all {w : World} {B : Nat} {T : Nat} {A : Option Addr} {n cap : Nat} {rs : List R} {D : Option Addr} {m : Nat} {bs : List Int} {kx ky : Nat} {Ax : Option Addr} {lx capx : Nat} {rx : List R} {Ay : Option Addr} {ly capy : Nat} {ry : List R} {C4 : Option Addr} {vs : List Int} {A6 : Option Addr} {ws : List Int} {Q1 Q2 : Nat} {x y x2 y2 : Int} {W : World} (h : Mh w B T A n cap rs D m bs kx ky Ax lx capx rx Ay ly capy ry C4 vs A6 ws Q1 Q2 x y x2 y2 W) : Mh w B T A n cap rs D m bs kx ky Ax lx capx rx Ay ly capy ry C4 vs A6 ws Q1 Q2 x y x2 y2 W ∧ W.cell? ⟨kx, 0, none⟩ = some (.int .i64 (T : Int)) ∧ W.cell? ⟨kx, 1, none⟩ = some (.slice Ax lx capx) ∧ W.cell? ⟨ky, 0, none⟩ = some (.int .i64 (T : Int)) ∧ W.cell? ⟨ky, 1, none⟩ = some (.slice Ay ly capy) ∧ W.cell? ⟨Q1, 0, none⟩ = some (.int .i64 x) ∧ W.cell? ⟨Q1, 1, none⟩ = some (.int .i64 y) ∧ W.cell? ⟨Q2, 0, none⟩ = some (.int .i64 x2) ∧ W.cell? ⟨Q2, 1, none⟩ = some (.int .i64 y2) :=
  ⟨h, (two_cells h.mf.x0).1, (two_cells h.mf.x0).2.1, (two_cells h.mf.y0).1, (two_cells h.mf.y0).2.1, h.b1.c0, h.b1.c1, h.b2.c0, h.b2.c1⟩
theorem take_map_next (f : Int → Int) {vs : List Int} {j : Nat} (h : j < vs.length) : (vs.take (j + 1)).map f = (vs.take j).map f ++ [f (nth vs j)] := by
  rw [List.take_succ_eq_append_getElem h, List.map_append]
  simp [nth, List.getD, h]
theorem wrap_100 {z : Int} (h0 : -300000000000 ≤ z) (h1 : z ≤ 300000000000) : IntKind.i64.wrap (100000 - z) = 100000 - z := IntWalk.i64_in _ (by omega)

@[simp] def hml59 : Oper := { dst := some 59, op := Op.load 22 (Operand.tmp 58), type := 22, pos := "outright.go:144", after := #[{ on := 0, ground := Ground.data }], guard := none }
theorem hml59_fold : ({ dst := some 59, op := Op.load 22 (Operand.tmp 58), type := 22, pos := "outright.go:144", after := #[{ on := 0, ground := Ground.data }], guard := none } : Oper) = hml59 := rfl
@[simp] def hml64 : Oper := { dst := some 64, op := Op.load 22 (Operand.tmp 63), type := 22, pos := "outright.go:144", after := #[{ on := 5, ground := Ground.data }], guard := none }
theorem hml64_fold : ({ dst := some 64, op := Op.load 22 (Operand.tmp 63), type := 22, pos := "outright.go:144", after := #[{ on := 5, ground := Ground.data }], guard := none } : Oper) = hml64 := rfl

set_option maxRecDepth 100000 in
set_option maxHeartbeats 8000000 in
theorem mirrored_ok (HW : Hid WorksOk) (T : Nat) (u : Int) (A D : Option Addr) (n cap m capm : Nat) (rs : List R) (bs : List Int) (w : World) (h : Rules w A n rs) (hb : IntsU w D m bs) (h70 : n ≤ 70) (hm : m ≤ 40) (b0 : 0 ≤ u ∧ u ≤ 255) (he : chk T rs = 0) :
    Calls Try.prog 11 #[.agg #[.int .i64 (T : Int), .slice A n cap], .slice D m capm, .int .u8 u] w fun e w' => e = .returned (.bool true) ∧ Below w.heap.size w w' := by
  have X := Ms.new (T := (T : Int)) (cap := cap) h hb
  have hl := h.1
  have Hl := Lib.hid hl
  have hT := (chk_ok he).2
  have hT1 : 1 ≤ T := by omega
  have hT2 : T ≤ 20 := by omega
  have He := Lib.hid he
  have Hm := Lib.hid hm
  have H70 := Lib.hid h70
  have d70 : decide (70 < n) = false := decide_eq_false (by omega)
  have d40 : decide ((40 : Int) < (m : Int)) = false := decide_eq_false (by omega)
  have Hn7 := Lib.hid (show n ≤ 140737488355328 by omega)
  clear h hb h70 hm hT he hl
  obtain ⟨B, hB⟩ : ∃ B, w.heap.size = B := ⟨_, rfl⟩
  have HB := Lib.hid hB
  rw [hB] at X
  have c0 := X.bx.c0
  have c1 := X.bx.c1
  go_enter Try.func11, Try.ntmps11
  go_wp2_with fail
  refine (great14 T A n cap _ (by have := H70.out; unfold maxLen; omega)).mono ?_
  rintro e w1 ⟨rfl, rfl⟩
  have X1 := X.next (below_alloc_ _ (.cells #[.int .i64 (T : Int), .slice A n cap] 24))
  rw [d70]
  obtain ⟨W1, hW1⟩ : ∃ W1, (w.alloc (.cells #[.int .i64 (T : Int), .slice A n cap] 24)).alloc (.cells #[.int .i64 (T : Int), .slice A n cap] 24) = W1 := ⟨_, rfl⟩
  rw [hW1] at X1 ⊢
  clear X hW1 hB c0 c1 d70
  have c0 := X1.bx.c0
  have c1 := X1.bx.c1
  go_wp2_with fail
  refine (checkSheet19 A n cap rs T _ X1.bx.rules Hn7.out).mono ?_
  rintro e Wb ⟨rfl, hb⟩
  have X2 := X1.next hb
  rw [He.out]
  clear X1 hb c0 c1
  have c0 := X2.bx.c0
  have c1 := X2.bx.c1
  go_wp2_with fail
  have HX := Lib.hid X2
  go_cut [7, 8] from 32 to 37 (fun v7 v8 wx => ∃ kx ky : Nat, v7 = .pointer (some ⟨kx, 0, none⟩) ∧ v8 = .pointer (some ⟨ky, 0, none⟩) ∧ Mq Wb T kx ky (.slice none 0 0) (.slice none 0 0) none 0 0 [] none 0 0 [] wx)
  case first =>
   have Tall := Lib.hid (show ∀ W, Below Wb.heap.size Wb W → Below Wb.heap.size Wb W ∧ W.cell? ⟨B, 0, none⟩ = some (.int .i64 T) from fun W hW => ⟨hW, (HX.out.next hW).bx.c0⟩)
   (go_region_held3 (fun w' => Below Wb.heap.size Wb w' ∧ w'.cell? ⟨B, 0, none⟩ = some (.int .i64 T))
    ((go_split_ands; refine Tall.out _ ?_; repeat (first | exact Below.refl _ _ | assumption | (refine bel_alloc ?_ _) | (refine bel_drew ?_))))
    (fail))
   all_goals (
    go_wp2_with fail
    go_meet
    case rel => first
      | exact ⟨_, _, rfl, rfl, Mq.start (.inl ⟨rfl, rfl⟩)⟩
      | exact ⟨_, _, rfl, rfl, Mq.start (.inr ⟨rfl, rfl⟩)⟩)
  case rest =>
    obtain ⟨kx, ky, rfl, rfl, hq⟩ := hcut
    clear c0 c1 X2
    go_wp2_with fail
    go_loopw [9] (fun v9 wr => ∃ (j : Nat) (Ax : Option Addr) (lx capx : Nat) (Ay : Option Addr) (ly capy : Nat), j ≤ n ∧ v9 = .int .i64 (j : Int) ∧ Mq Wb T kx ky (.slice Ax lx capx) (.slice Ay ly capy) Ax lx capx ((rs.take j).filter inner) Ay ly capy (((rs.take j).filter inner).map turned) wr) (fun v9 _ => n - (intOf v9).toNat)
    case atStart => exact ⟨0, none, 0, 0, none, 0, 0, Nat.zero_le _, rfl, by simpa using hq⟩
    case round =>
      obtain ⟨j, Ax, lx, capx, Ay, ly, capy, hj, rfl, hq⟩ := hrel
      have X3 := HX.out.next hq.b
      have c1 := X3.bx.c1
      by_cases hlt : j < n
      · obtain ⟨bA, oA, rfl, hcA⟩ := X3.bx.rules.2 (by omega)
        obtain ⟨r, hr⟩ : ∃ r, rAt rs j = r := ⟨_, rfl⟩
        obtain ⟨r0, r1, r2⟩ := hcA j hlt
        rw [show rf rs j = r.f by rw [← hr]; rfl] at r0
        rw [show rt rs j = r.t by rw [← hr]; rfl] at r1
        rw [show rm rs j = r.m by rw [← hr]; rfl] at r2
        have i0 : (0 : Int) ≤ (j : Int) := by omega
        have i1 : (j : Int) < (n : Int) := by omega
        have Htf := Lib.hid (show (rs.take (j + 1)).filter inner = (rs.take j).filter inner ++ (if inner r then [r] else []) by rw [← hr]; exact take_filter (by have := Hl.out; omega))
        have hlx : lx ≤ 70 := by
          have h1 := hq.ox.1
          rw [flat_length] at h1
          have h2 := List.length_filter_le inner (rs.take j)
          have h3 := List.length_take_le j rs
          have h4 := H70.out
          omega
        have hly : ly ≤ 70 := by
          have h1 := hq.oy.1
          rw [flat_length, List.length_map] at h1
          have h2 := List.length_filter_le inner (rs.take j)
          have h3 := List.length_take_le j rs
          have h4 := H70.out
          omega
        have Hlx := Lib.hid hlx
        have Hly := Lib.hid hly
        have HM0 := Lib.hid hq
        have hgt := X3.bx.hi
        have hn70 := H70.out
        clear hcA hr hlx hly hj X3
        have nextS : ∀ (W : World), ¬ (0 < r.f ∧ 0 < r.t) → Mq Wb T kx ky (.slice Ax lx capx) (.slice Ay ly capy) Ax lx capx ((rs.take j).filter inner) Ay ly capy (((rs.take j).filter inner).map turned) W → Mq Wb T kx ky (.slice Ax lx capx) (.slice Ay ly capy) Ax lx capx ((rs.take (j + 1)).filter inner) Ay ly capy (((rs.take (j + 1)).filter inner).map turned) W := fun W hn h => by
          have e : inner r = false := by
            cases e : inner r with
            | false => rfl
            | true => exact absurd ((inner_iff r).1 e) hn
          rw [Htf.out, e]
          simpa using h
        have HnextS := Lib.hid nextS
        clear nextS
        by_cases hf : 0 < r.f
        · have df : decide (0 < r.f) = true := decide_eq_true hf
          by_cases ht : 0 < r.t
          · have dt : decide (0 < r.t) = true := decide_eq_true ht
            have Hin := Lib.hid (show inner r = true from (inner_iff r).2 ⟨hf, ht⟩)
            clear hf ht HnextS
            go_wp2_with fail
            have HMa := Lib.hid (HM0.out.next (below_alloc_ wr (.cells #[.int .i64 r.f, .int .i64 r.t, .int .i64 r.m] 68)))
            have HQa := Lib.hid (show Q9 Wb wr.heap.size r (wr.alloc (.cells #[.int .i64 r.f, .int .i64 r.t, .int .i64 r.m] 68)) from ⟨HMa.out.b, heap_alloc_new _ _⟩)
            have Hkx := Lib.hid (show ∀ k, (Value.slice Ax lx capx).ownBlock = some k → Wb.heap.size ≤ k ∧ k ≠ wr.heap.size from fun k hk => ⟨(HM0.out.ox.lt k hk).1, by have := (HM0.out.ox.lt k hk).2; omega⟩)
            have Hky := Lib.hid (show ∀ k, (Value.slice Ay ly capy).ownBlock = some k → Wb.heap.size ≤ k ∧ k ≠ wr.heap.size from fun k hk => ⟨(HM0.out.oy.lt k hk).1, by have := (HM0.out.oy.lt k hk).2; omega⟩)
            have Hrx := Lib.hid (show ∀ k, some kx = some k → Wb.heap.size ≤ k ∧ k ≠ wr.heap.size from fun k hk => by
              cases hk
              have := lt_of_block HM0.out.x0
              exact ⟨HM0.out.hx, by omega⟩)
            have Hry := Lib.hid (show ∀ k, some ky = some k → Wb.heap.size ≤ k ∧ k ≠ wr.heap.size from fun k hk => by
              cases hk
              have := lt_of_block HM0.out.y0
              exact ⟨HM0.out.hy, by omega⟩)
            have hxy1 : ¬ kx = ky := HM0.out.hxy
            have hxy2 : ¬ ky = kx := fun e => HM0.out.hxy e.symm
            obtain ⟨kr, hkr⟩ : ∃ kr, wr.heap.size = kr := ⟨_, rfl⟩
            rw [hkr] at HQa Hkx Hky Hrx Hry
            obtain ⟨Wa, hWa⟩ : ∃ Wa, wr.alloc (.cells #[.int .i64 r.f, .int .i64 r.t, .int .i64 r.m] 68) = Wa := ⟨_, rfl⟩
            rw [hWa] at HMa HQa ⊢
            rw [hkr]
            clear hWa hkr c1 r0 r1 r2 hgt
            obtain ⟨XS, hXS⟩ : ∃ XS, (rs.take j).filter inner = XS := ⟨_, rfl⟩
            rw [hXS] at HMa Htf
            obtain ⟨YS, hYS⟩ : ∃ YS, XS.map turned = YS := ⟨_, rfl⟩
            rw [hYS] at HMa
            have HYS := Lib.hid hYS
            clear hXS hYS HM0
            obtain ⟨_, cx1, _, _, hlx1⟩ := two_cells HMa.out.x0
            obtain ⟨_, cy1, _, _, hly1⟩ := two_cells HMa.out.y0
            obtain ⟨q0, q1, q2⟩ := HQa.out.all.2
            rw [hml59_fold, hml64_fold]
            (go_region_held3 (fun w' => Q9 Wb kr r w' ∧ w'.cell? ⟨kr, 0, none⟩ = some (.int .i64 r.f) ∧ w'.cell? ⟨kr, 1, none⟩ = some (.int .i64 r.t) ∧ w'.cell? ⟨kr, 2, none⟩ = some (.int .i64 r.m))
              ((go_split_ands; first | exact Q9.all (by assumption) | exact Q9.all HQa.out | exact Q9.all hQ2 | exact Q9.all hQ1 | exact Q9.all (Q9.next (below_alloc_ _ _) (by assumption)) | exact Q9.all (Q9.next (below_drew_ _) (by assumption)) | exact Q9.all (Q9.next (below_drew_ _) HQa.out) | exact Q9.all (Q9.grown (set1_grown _ kx _) Hrx.out (by assumption)) | exact Q9.all (Q9.grown (set1_grown _ ky _) Hry.out (by assumption))))
              (first
                | (rw [if_pos (by rfl)]; refine wp_append_rulesG (.tmp 59) (.tmp 61) rfl Wb.heap.size (.slice Ax lx capx) lx XS rfl (some ⟨_, 0, none⟩) 1 1 [r] rfl (Mq.ox (show Mq Wb T kx ky (.slice Ax lx capx) (.slice Ay ly capy) Ax lx capx XS Ay ly capy YS _ from (by (repeat (first | exact HMa.out | (refine Mq.next (below_alloc_ _ _) ?_) | (refine Mq.next (below_drew_ _) ?_)))))) (rules_one (by (repeat (first | assumption | (refine hal_new ?_; focus (first | (simp; done) | (simp; omega))) | (refine hal_old ?_) | (refine hgr hg1 ?_ ?_; rotate_left; focus (first | (simp [Value.ownBlock]; done) | (simp [Value.ownBlock]; omega))))); done)) (by have := Hlx.out; omega) (Below.size (Mq.b (show Mq Wb T kx ky (.slice Ax lx capx) (.slice Ay ly capy) Ax lx capx XS Ay ly capy YS _ from (by (repeat (first | exact HMa.out | (refine Mq.next (below_alloc_ _ _) ?_) | (refine Mq.next (below_drew_ _) ?_))))))) ?_; intro A1 cap1 w1 hown1 hg1 hat1; have hM1 := Mq.app_x (show Mq Wb T kx ky (.slice Ax lx capx) (.slice Ay ly capy) Ax lx capx XS Ay ly capy YS _ from (by (repeat (first | exact HMa.out | (refine Mq.next (below_alloc_ _ _) ?_) | (refine Mq.next (below_drew_ _) ?_))))) hg1 hown1 hat1; have hQ1 : Q9 Wb kr r w1 := Q9.grown hg1 Hkx.out (by go_split_ands; assumption); have hc1 := two_cells hM1.y0; obtain ⟨_, cy2, _, _, hly2⟩ := hc1)
                | (rw [if_pos (by rfl)]; refine wp_append_rulesG (.tmp 64) (.tmp 72) rfl Wb.heap.size (.slice Ay ly capy) ly YS rfl (some ⟨_, 0, none⟩) 1 1 [⟨r.t, r.f, r.m⟩] rfl (Mq.oy (show Mq Wb T kx ky (.slice Ax lx capx) (.slice Ay ly capy) A1 (lx + 1) cap1 (XS ++ [r]) Ay ly capy YS _ from (by (repeat (first | exact hM1 | (refine Mq.next (below_alloc_ _ _) ?_) | (refine Mq.next (below_drew_ _) ?_)))))) (rules_one (by (repeat (first | assumption | (refine hal_new ?_; focus (first | (simp; done) | (simp; omega))) | (refine hal_old ?_) | (refine hgr hg1 ?_ ?_; rotate_left; focus (first | (simp [Value.ownBlock]; done) | (simp [Value.ownBlock]; omega))))); done)) (by have := Hly.out; omega) (Below.size (Mq.b (show Mq Wb T kx ky (.slice Ax lx capx) (.slice Ay ly capy) A1 (lx + 1) cap1 (XS ++ [r]) Ay ly capy YS _ from (by (repeat (first | exact hM1 | (refine Mq.next (below_alloc_ _ _) ?_) | (refine Mq.next (below_drew_ _) ?_))))))) ?_; intro A2 cap2 w2 hown2 hg2 hat2; have hM2 := Mq.app_y (show Mq Wb T kx ky (.slice Ax lx capx) (.slice Ay ly capy) A1 (lx + 1) cap1 (XS ++ [r]) Ay ly capy YS _ from (by (repeat (first | exact hM1 | (refine Mq.next (below_alloc_ _ _) ?_) | (refine Mq.next (below_drew_ _) ?_))))) hg2 hown2 hat2; have hQ2 : Q9 Wb kr r w2 := Q9.grown hg2 Hky.out (by go_split_ands; assumption); obtain ⟨_, cx3, _, fx3, hlx3⟩ := two_cells hM2.x0; obtain ⟨_, cy3, _, fy3, hly3⟩ := two_cells hM2.y0)
                | (go_at_call 48; refine (rule48 _ _ _ _).mono ?_; rintro e w5 ⟨rfl, rfl⟩)))
            all_goals (
              go_wp2_with fail
              go_roundw
              case rel => exact ⟨j + 1, _, _, _, _, _, _, by omega, by go_num, by rw [Htf.out, Hin.out, if_pos rfl, List.map_append, HYS.out]; exact Mq.set_y _ (Mq.set_x _ hM2)⟩
              case measure => simp [intOf]; omega)
          · have dt : decide (0 < r.t) = false := decide_eq_false ht
            have Hno := Lib.hid (show ¬ (0 < r.f ∧ 0 < r.t) from fun h => ht h.2)
            clear hf ht
            go_wp2_with fail
            go_roundw
            case rel => exact ⟨j + 1, _, _, _, _, _, _, by omega, by go_num, HnextS.out _ Hno.out (HM0.out.next (below_alloc_ _ _))⟩
            case measure => simp [intOf]; omega
        · have df : decide (0 < r.f) = false := decide_eq_false hf
          have Hno := Lib.hid (show ¬ (0 < r.f ∧ 0 < r.t) from fun h => hf h.1)
          clear hf
          go_wp2_with fail
          go_roundw
          case rel => exact ⟨j + 1, _, _, _, _, _, _, by omega, by go_num, HnextS.out _ Hno.out (HM0.out.next (below_alloc_ _ _))⟩
          case measure => simp [intOf]; omega
      · obtain rfl : j = n := by omega
        rw [List.take_of_length_le (Nat.le_of_eq Hl.out)] at hq
        obtain ⟨rx, hrx⟩ : ∃ rx, rs.filter inner = rx := ⟨_, rfl⟩
        have hex : chk T rx = 0 := by rw [← hrx]; exact inner_chk He.out
        have hi : ∀ r ∈ rx, 0 < r.f ∧ 0 < r.t := fun r hr => by rw [← hrx] at hr; exact (inner_iff r).1 (List.mem_filter.1 hr).2
        rw [hrx] at hq
        obtain ⟨ry, hry⟩ : ∃ ry, rx.map turned = ry := ⟨_, rfl⟩
        have hey : chk T ry = 0 := by rw [← hry]; exact turned_chk hex
        rw [hry] at hq
        have X4 : Mf w B T A j cap rs D m bs kx ky Ax lx capx rx Ay ly capy ry wr := ⟨HX.out.next hq.b, hq.x0, hq.y0, Rules.of_own hq.ox, Rules.of_own hq.oy⟩
        have Hex := Lib.hid hex
        have Hey := Lib.hid hey
        have Hi := Lib.hid hi
        have Hry := Lib.hid hry
        have Hl1 := Lib.hid (show lx ≤ 140737488355328 by have h1 := (chk_ok hex).1; have h2 := X4.rx.1; omega)
        have Hl2 := Lib.hid (show ly ≤ 140737488355328 by have h1 := (chk_ok hey).1; have h2 := X4.ry.1; omega)
        obtain ⟨a, t, a1, a2, a3, a4, a5, a6, a7, a8, ht1, ht2⟩ := turn_of2 b0.1 b0.2 (show (1 : Int) ≤ T by omega) (by omega)
        have Ht1 := Lib.hid ht1
        have Ht2 := Lib.hid (show t ≤ T by omega)
        have hT0 : ¬ ((T : Int) = 0) := by omega
        obtain ⟨b00, b01⟩ := b0
        clear hq hrx hry hex hey hi ht1 ht2 hj hlt c1 X3
        have c0 := X4.ms.bx.c0
        have c1 := X4.ms.bx.c1
        obtain ⟨e0, e1, _, _, e2⟩ := two_cells X4.x0
        go_wp2_with fail
        refine (span29 Ax lx capx T t rx _ X4.rx Hl1.out).mono ?_
        rintro e w5 ⟨rfl, hb⟩
        have X5 := X4.next hb
        clear X4 hb c0 c1 e0 e1 e2
        by_cases hs : Some_ T rx
        · have hm := mir_far Hex.out Hi.out hs Ht1.out Ht2.out
          rw [Hry.out] at hm
          have hsy : Some_ T ry := by rw [← Hry.out]; exact (mir_some Hi.out).2 hs
          have Hs := Lib.hid hs
          have Hok := Lib.hid (far_ok Hex.out hs)
          have bX := Hok.out.bd t 0 Ht2.out (Nat.zero_le _)
          have bY := Hok.out.bd 0 t (Nat.zero_le _) Ht2.out
          obtain ⟨x, hx⟩ : ∃ x, -(farM T rx t 0) = x := ⟨_, rfl⟩
          obtain ⟨y, hy⟩ : ∃ y, farM T rx 0 t = y := ⟨_, rfl⟩
          have hs1 := spanR_far Hex.out hs Ht1.out Ht2.out
          have hs2 := spanR_far Hey.out hsy Ht1.out Ht2.out
          rw [hx, hy] at hs1
          rw [hm.1, hm.2, hy, show -(y - 100000) = 100000 - y by omega, show 100000 + farM T rx t 0 = 100000 - x by omega] at hs2
          have Hs2 := Lib.hid hs2
          have wx := wrap_100 (z := x) (by omega) (by omega)
          have wy := wrap_100 (z := y) (by omega) (by omega)
          have Hcl := Lib.hid (show clashM T rx = false from (clash_some_iff Hex.out).2 hs)
          have HTr := Lib.hid (true_true Hex.out hs bs)
          have HTm := Lib.hid (show checkSpeeds T ry ((trueL (farM T rx) bs T).map fun v => 100000 - v) = 0 by rw [← Hry.out]; exact mir_true Hex.out Hi.out HTr.out)
          have HTk := Lib.hid (true_keep Hok.out bs T (Nat.le_refl _))
          rw [hs1]
          clear hm hsy hs bX bY hx hy hs1 hs2
          obtain ⟨f0, f1, _, _, f2⟩ := two_cells X5.y0
          go_wp2_with fail
          have X6 := X5.next (below_alloc_ _ (.cells #[.int .i64 x, .int .i64 y] 43))
          have R6 : Rb8 (w5.alloc (.cells #[.int .i64 x, .int .i64 y] 43)) w5.heap.size x y := ⟨heap_alloc_new _ _⟩
          obtain ⟨w6, hw6⟩ : ∃ w6, w5.alloc (.cells #[.int .i64 x, .int .i64 y] 43) = w6 := ⟨_, rfl⟩
          rw [hw6] at X6 R6 ⊢
          obtain ⟨Q1, hQ1⟩ : ∃ Q1, w5.heap.size = Q1 := ⟨_, rfl⟩
          rw [hQ1] at R6 ⊢
          clear X5 hw6 hQ1 f0 f1 f2
          refine (span29 Ay ly capy T t ry _ X6.ry Hl2.out).mono ?_
          rintro e w7 ⟨rfl, hb⟩
          rw [Hs2.out]
          have X7 := X6.next hb
          have R7 := R6.next hb
          clear X6 R6 hb
          obtain ⟨e0, e1, _, _, e2⟩ := two_cells X7.x0
          go_wp2_with fail
          have X8 := X7.next (below_alloc_ _ (.cells #[.int .i64 (100000 - y), .int .i64 (100000 - x)] 43))
          have R8 := R7.next (below_alloc_ _ (.cells #[.int .i64 (100000 - y), .int .i64 (100000 - x)] 43))
          have S8 : Rb8 (w7.alloc (.cells #[.int .i64 (100000 - y), .int .i64 (100000 - x)] 43)) w7.heap.size (100000 - y) (100000 - x) := ⟨heap_alloc_new _ _⟩
          obtain ⟨w8, hw8⟩ : ∃ w8, w7.alloc (.cells #[.int .i64 (100000 - y), .int .i64 (100000 - x)] 43) = w8 := ⟨_, rfl⟩
          rw [hw8] at X8 R8 S8 ⊢
          obtain ⟨Q2, hQ2⟩ : ∃ Q2, w7.heap.size = Q2 := ⟨_, rfl⟩
          rw [hQ2] at S8 ⊢
          clear X7 R7 hw8 hQ2 e0 e1 e2
          refine (clashes28 Ax lx capx T rx _ X8.rx Hex.out).mono ?_
          rintro e w9 ⟨rfl, hb⟩
          rw [Hcl.out]
          have X9 := X8.next hb
          have R9 := R8.next hb
          have S9 := S8.next hb
          clear X8 R8 S8 hb
          obtain ⟨e0, e1, _, _, e2⟩ := two_cells X9.x0
          go_wp2_with fail
          refine (true44 Ax D lx capx T m capm rx bs _ X9.rx X9.ms.by_ Hm.out Hex.out Hs.out).mono ?_
          rintro e w10 ⟨C4, p4, rfl, hI, hb⟩
          have X10 := X9.next hb
          have R10 := R9.next hb
          have S10 := S9.next hb
          clear X9 R9 S9 hb e0 e1 e2
          have HX10 := Lib.hid X10
          have HR10 := Lib.hid R10
          have HS10 := Lib.hid S10
          obtain ⟨vs, hvs⟩ : ∃ vs, trueL (farM T rx) bs T = vs := ⟨_, rfl⟩
          rw [hvs] at hI HTr HTm HTk
          have HI := Lib.hid hI
          have hvl := Lib.hid (show vs.length = T from hI.1)
          obtain ⟨ob, oo, rfl, _⟩ := hI.2 (by omega)
          clear X10 R10 S10 hI hvs
          go_wp2_with fail
          go_loopw [17, 18] (fun v17 v18 wq => ∃ (k : Nat) (A6 : Option Addr) (cap6 : Nat), k ≤ T ∧ v18 = .int .i64 (k : Int) ∧ v17 = .slice A6 k cap6 ∧ wq.ownsRow w10.heap.size 2 1 (.slice A6 k cap6) k (iv ((vs.take k).map fun v => 100000 - v)) ∧ Below w10.heap.size w10 wq) (fun _ v18 _ => T - (intOf v18).toNat)
          case atStart => exact ⟨0, none, 0, Nat.zero_le _, rfl, rfl, World.ownsRow_nil _ _ _ _, Below.refl _ _⟩
          case round =>
            obtain ⟨k, A6, cap6, hk, rfl, rfl, hown, hBB⟩ := hrel
            have Hown := Lib.hid hown
            have HBB := Lib.hid hBB
            have hz := hBB.size
            clear hown
            by_cases hlt : k < T
            · have cv := ints_cell_ (HI.out.below hBB (Nat.le_refl _)) hlt
              have hsm := keep_small Hok.out HTk.out (Nat.le_refl T) (show k + 1 ≤ T by omega)
              rw [qOf_succ] at hsm
              have Hnx := Lib.hid (take_map_next (fun v => 100000 - v) (show k < vs.length by have := hvl.out; omega))
              obtain ⟨z, hz9⟩ : ∃ z, nth vs k = z := ⟨_, rfl⟩
              rw [hz9] at cv hsm Hnx
              have wz := wrap_100 (z := z) (by omega) (by omega)
              obtain ⟨L, hL⟩ : ∃ L, (vs.take k).map (fun v => 100000 - v) = L := ⟨_, rfl⟩
              rw [hL] at Hown Hnx
              have i0 : (0 : Int) ≤ (k : Int) := by omega
              have i1 : (k : Int) < (T : Int) := by omega
              clear hz9 hL hsm hBB
              go_wp2_with (at_builtin; refine wpList_append_ints rfl (.tmp 127) (.tmp 133) 25 2 rfl Try.underlying25 Try.info2 w10.heap.size _ k L rfl (own_below Hown.out (below_alloc_ _ _) (Nat.le_refl _)) (some ⟨wr.heap.size, 0, none⟩) 1 1 [100000 - z] rfl (ints_one (by rw [cell_of_row _ _ 0 _ _ _ (heap_alloc_new _ _)]; rfl)) (by omega) (by simp; omega) ?_; intro A8 cap8 w11 hown8 hb8)
              have hbz := HBB.out.trans (((below_alloc_ wr (.cells #[.int .i64 (100000 - z)] 2)).mono hz).trans hb8)
              go_wp2_with fail
              go_roundw
              case rel => exact ⟨k + 1, _, _, by omega, by go_num, rfl, by rw [Hnx.out]; exact hown8, hbz⟩
              case measure => simp [intOf]; omega
            · obtain rfl : k = T := by omega
              obtain ⟨ws, hws⟩ : ∃ ws, vs.map (fun v => 100000 - v) = ws := ⟨_, rfl⟩
              have hI6 := Ints.of_own Hown.out
              rw [List.take_of_length_le (Nat.le_of_eq hvl.out), hws] at hI6
              rw [hws] at HTm
              have hsz6 : HX10.out.ms.bx.below.size = HX10.out.ms.bx.below.size := rfl
              have X11 : Mh w B k A j cap rs D m bs kx ky Ax lx capx rx Ay ly capy ry (some ⟨ob, oo, none⟩) vs A6 ws Q1 Q2 x y (100000 - y) (100000 - x) wr := ⟨HX10.out.next hBB, HI.out.below hBB (Nat.le_refl _), hI6, HR10.out.next hBB, HS10.out.next hBB⟩
              clear hsz6 hws hI6 hBB Hown HBB hz hlt hk
              go_wp2_with fail
              obtain ⟨k0, k1, k2, k3, k4, k5, k6, k7⟩ := X11.all.2
              (go_region_held3 (fun w' => Mh w B k A j cap rs D m bs kx ky Ax lx capx rx Ay ly capy ry (some ⟨ob, oo, none⟩) vs A6 ws Q1 Q2 x y (100000 - y) (100000 - x) w' ∧ w'.cell? ⟨kx, 0, none⟩ = some (.int .i64 (k : Int)) ∧ w'.cell? ⟨kx, 1, none⟩ = some (.slice Ax lx capx) ∧ w'.cell? ⟨ky, 0, none⟩ = some (.int .i64 (k : Int)) ∧ w'.cell? ⟨ky, 1, none⟩ = some (.slice Ay ly capy) ∧ w'.cell? ⟨Q1, 0, none⟩ = some (.int .i64 x) ∧ w'.cell? ⟨Q1, 1, none⟩ = some (.int .i64 y) ∧ w'.cell? ⟨Q2, 0, none⟩ = some (.int .i64 (100000 - y)) ∧ w'.cell? ⟨Q2, 1, none⟩ = some (.int .i64 (100000 - x)))
                (first | (go_split_ands; exact Mh.all (by assumption)) | (go_split_ands; exact Mh.all (Mh.next (by assumption) (by assumption))) | (go_split_ands; exact Mh.all (Mh.next (below_alloc_ _ _) (by assumption))) | (go_split_ands; exact Mh.all (Mh.next (below_drew_ _) (by assumption))))
                (first
                  | (go_at_call 43; refine (rg43 _ _ _).mono ?_; rintro e w' ⟨rfl, rfl⟩)
                  | (go_at_call 15; refine (HW.out _).mono ?_; rintro e w' ⟨rfl, hb⟩)
                  | (go_at_call 21; go_split_ands; (with_reducible refine (checkSpeeds21 Ax (some ⟨ob, oo, none⟩) lx capx k _ k rx vs _ ?_ ?_ Hl1.out (by omega)).mono ?_); (exact Mf.rx (Mh.mf (by assumption))); (exact Mh.i4 (by assumption)); rintro e w' ⟨rfl, hb⟩; rw [HTr.out])
                  | (go_at_call 21; go_split_ands; (with_reducible refine (checkSpeeds21 Ay A6 ly capy k _ k ry ws _ ?_ ?_ Hl2.out (by omega)).mono ?_); (exact Mf.ry (Mh.mf (by assumption))); (exact Mh.i6 (by assumption)); rintro e w' ⟨rfl, hb⟩; rw [HTm.out])))
              all_goals (
                go_wp2
                go_ret
                have hfin : Mh w B k A j cap rs D m bs kx ky Ax lx capx rx Ay ly capy ry (some ⟨ob, oo, none⟩) vs A6 ws Q1 Q2 x y (100000 - y) (100000 - x) w' := And.left (b := w'.cell? ⟨kx, 0, none⟩ = some (.int .i64 (k : Int)) ∧ w'.cell? ⟨kx, 1, none⟩ = some (.slice Ax lx capx) ∧ w'.cell? ⟨ky, 0, none⟩ = some (.int .i64 (k : Int)) ∧ w'.cell? ⟨ky, 1, none⟩ = some (.slice Ay ly capy) ∧ w'.cell? ⟨Q1, 0, none⟩ = some (.int .i64 x) ∧ w'.cell? ⟨Q1, 1, none⟩ = some (.int .i64 y) ∧ w'.cell? ⟨Q2, 0, none⟩ = some (.int .i64 (100000 - y)) ∧ w'.cell? ⟨Q2, 1, none⟩ = some (.int .i64 (100000 - x))) (by assumption)
                exact ⟨rfl, hfin.mf.ms.bx.below⟩)
        · have hsy : ¬ Some_ T ry := by rw [← Hry.out]; exact fun h => hs ((mir_some Hi.out).1 h)
          rw [spanR_clash Hex.out hs Ht1.out Ht2.out]
          have Hs2 := Lib.hid (spanR_clash Hey.out hsy Ht1.out Ht2.out)
          have Hc1 := Lib.hid (clash_yes Hex.out hs)
          have Hc2 := Lib.hid (clash_yes Hey.out hsy)
          clear hs hsy
          obtain ⟨f0, f1, _, _, f2⟩ := two_cells X5.y0
          go_wp2_with fail
          have X6 := X5.next (below_alloc_ _ (.cells #[.int .i64 0, .int .i64 0] 43))
          obtain ⟨w6, hw6⟩ : ∃ w6, w5.alloc (.cells #[.int .i64 0, .int .i64 0] 43) = w6 := ⟨_, rfl⟩
          rw [hw6] at X6 ⊢
          clear X5 hw6 f0 f1 f2
          refine (span29 Ay ly capy T t ry _ X6.ry Hl2.out).mono ?_
          rintro e w7 ⟨rfl, hb⟩
          rw [Hs2.out]
          have X7 := X6.next hb
          clear X6 hb
          obtain ⟨e0, e1, _, _, e2⟩ := two_cells X7.x0
          go_wp2_with fail
          have X8 := X7.next (below_alloc_ _ (.cells #[.int .i64 0, .int .i64 0] 43))
          obtain ⟨w8, hw8⟩ : ∃ w8, w7.alloc (.cells #[.int .i64 0, .int .i64 0] 43) = w8 := ⟨_, rfl⟩
          rw [hw8] at X8 ⊢
          clear X7 hw8 e0 e1 e2
          refine (clashes28 Ax lx capx T rx _ X8.rx Hex.out).mono ?_
          rintro e w9 ⟨rfl, hb⟩
          rw [Hc1.out]
          have X9 := X8.next hb
          clear X8 hb
          obtain ⟨f0, f1, _, _, f2⟩ := two_cells X9.y0
          go_wp2_with fail
          refine (clashes28 Ay ly capy T ry _ X9.ry Hey.out).mono ?_
          rintro e w10 ⟨rfl, hb⟩
          rw [Hc2.out]
          have X10 := X9.next hb
          clear X9 hb f0 f1 f2
          go_wp2_with fail
          refine (HW.out _).mono ?_
          rintro e w11 ⟨rfl, hb⟩
          have X11 := X10.next hb
          go_wp2_with fail
          go_ret
          exact ⟨rfl, X11.ms.bx.below⟩
end Go.Proofs.Ytiankphkemakeaa

namespace Go.Proofs.Ytiankphkemakeaa
set_option linter.unusedSimpArgs false
set_option linter.unusedVariables false
open Go.RowKit Go.Shelf
set_option maxRecDepth 100000 in
set_option maxHeartbeats 4000000 in
theorem mirrored_not (HW : Hid WorksOk) (T u : Int) (A D : Option Addr) (n cap m capm : Nat) (rs : List R) (w : World) (h : Rules w A n rs) (hn : n ≤ maxLen) (hm : m ≤ maxLen)
    (hno : 70 < n ∨ chk T rs ≠ 0 ∨ 40 < m) :
    Calls Try.prog 11 #[.agg #[.int .i64 T, .slice A n cap], .slice D m capm, .int .u8 u] w fun e w' => e = .returned (.bool true) ∧ Below w.heap.size w w' := by
  have X := Bx.new (T := T) (cap := cap) h
  have Hn := Lib.hid hn
  clear h hn
  unfold maxLen at hm
  have c0 := X.c0
  have c1 := X.c1
  go_enter Try.func11, Try.ntmps11
  go_wp2_with fail
  refine (great14 T A n cap _ Hn.out).mono ?_
  rintro e w1 ⟨rfl, rfl⟩
  have X1 := X.next (below_alloc_ _ (.cells #[.int .i64 T, .slice A n cap] 24))
  obtain ⟨W1, hW1⟩ : ∃ W1, (w.alloc (.cells #[.int .i64 T, .slice A n cap] 24)).alloc (.cells #[.int .i64 T, .slice A n cap] 24) = W1 := ⟨_, rfl⟩
  rw [hW1] at X1 ⊢
  clear X hW1 c0 c1
  have c0 := X1.c0
  have c1 := X1.c1
  by_cases h70 : 70 < n
  · rw [decide_eq_true h70]
    clear hno h70
    go_wp2_with fail
    refine (HW.out _).mono ?_
    rintro e w2 ⟨rfl, hb⟩
    have X2 := X1.next hb
    clear X1 hb
    go_wp2_with fail
    go_ret
    exact ⟨rfl, X2.below⟩
  · rw [decide_eq_false h70]
    go_wp2_with fail
    refine (checkSheet19 A n cap rs T _ X1.rules (by omega)).mono ?_
    rintro e w2 ⟨rfl, hb⟩
    have X2 := X1.next hb
    clear X1 hb c0 c1
    by_cases he : chk T rs = 0
    · rw [he]
      have d40 : decide ((40 : Int) < (m : Int)) = true := decide_eq_true (by
        rcases hno with h | h | h
        · exact absurd h h70
        · exact absurd he h
        · omega)
      clear hno h70 he
      go_wp2_with fail
      refine (HW.out _).mono ?_
      rintro e w3 ⟨rfl, hb⟩
      have X3 := X2.next hb
      clear X2 hb
      go_wp2_with fail
      go_ret
      exact ⟨rfl, X3.below⟩
    · have he2 : (chk T rs != 0) = true := by rw [bne_iff_ne]; exact he
      clear hno h70 he
      go_wp2_with fail
      refine (HW.out _).mono ?_
      rintro e w3 ⟨rfl, hb⟩
      have X3 := X2.next hb
      clear X2 hb
      go_wp2_with fail
      go_ret
      exact ⟨rfl, X3.below⟩

theorem speedMirrored11 (HW : Hid WorksOk) (T u : Int) (A D : Option Addr) (n cap m capm : Nat) (rs : List R) (bs : List Int) (w : World) (h : Rules w A n rs) (hb : IntsU w D m bs) (hn : n ≤ maxLen) (hm : m ≤ maxLen) (b0 : 0 ≤ u ∧ u ≤ 255) :
    Calls Try.prog 11 #[.agg #[.int .i64 T, .slice A n cap], .slice D m capm, .int .u8 u] w fun e w' => e = .returned (.bool true) ∧ Below w.heap.size w w' := by
  by_cases hno : 70 < n ∨ chk T rs ≠ 0 ∨ 40 < m
  · exact mirrored_not HW T u A D n cap m capm rs w h hn hm hno
  · have he : chk T rs = 0 := Classical.byContradiction fun h => hno (.inr (.inl h))
    have hT := (chk_ok he).2.1
    obtain ⟨T, rfl⟩ := Int.eq_ofNat_of_zero_le (show 0 ≤ T by omega)
    exact mirrored_ok HW T u A D n cap m capm rs bs w h hb (by omega) (by omega) b0 he
end Go.Proofs.Ytiankphkemakeaa
