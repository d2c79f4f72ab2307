/- SpeedNarrower: the mathematics of one rule more, the contract of inside, what the walk reads, the walk. -/
import Derived.Test.YtiankphkemakeaaWaysAll
import Derived.Maps.AppendAt
import Derived.Deep.DeepCutAuto
namespace Go.Proofs.Ytiankphkemakeaa
set_option linter.unusedSimpArgs false
set_option linter.unusedVariables false
open Go.RowKit Go.Shelf

theorem whole_more {T : Nat} {rs : List R} {r : R} {x : R} : x ∈ whole T (rs ++ [r]) ↔ x ∈ whole T rs ∨ x = r := by
  unfold whole
  simp only [List.mem_append, List.mem_singleton]
  constructor
  · rintro ((h | h) | h)
    · exact .inl (.inl h)
    · exact .inr h
    · exact .inl (.inr h)
  · rintro ((h | h) | h)
    · exact .inl (.inl h)
    · exact .inr h
    · exact .inl (.inr h)
theorem feas_more {T : Nat} {rs : List R} {r : R} {q : Nat → Int} : Feas (whole T (rs ++ [r])) q ↔ Feas (whole T rs) q ∧ q r.t.toNat ≤ q r.f.toNat + r.m := by
  constructor
  · intro h
    exact ⟨fun x hx => h x (whole_more.2 (.inl hx)), h r (whole_more.2 (.inr rfl))⟩
  · rintro ⟨h, h2⟩ x hx
    rcases whole_more.1 hx with hx | rfl
    · exact h x hx
    · exact h2
theorem some_less {T : Nat} {rs : List R} {r : R} (h : Some_ T (rs ++ [r])) : Some_ T rs := by
  obtain ⟨q, hq⟩ := h
  exact ⟨q, (feas_more.1 hq).1⟩
/-- Shifted and lesser of two. -/
theorem feas_shift {ws : List R} {q : Nat → Int} (h : Feas ws q) (c : Int) : Feas ws fun v => q v + c := fun r hr => by
  have := h r hr
  show q r.t.toNat + c ≤ q r.f.toNat + c + r.m
  omega
theorem feas_min {ws : List R} {p q : Nat → Int} (hp : Feas ws p) (hq : Feas ws q) : Feas ws fun v => min (p v) (q v) := fun r hr => by
  have h1 := hp r hr
  have h2 := hq r hr
  show min (p r.t.toNat) (q r.t.toNat) ≤ min (p r.f.toNat) (q r.f.toNat) + r.m
  omega
/-- No sum becomes greater. -/
theorem more_le {T : Nat} {rs : List R} {r : R} (he : chk T rs = 0) (he' : chk T (rs ++ [r]) = 0) (hs : Some_ T (rs ++ [r])) {x v : Nat} (hx : x ≤ T) (hv : v ≤ T) : farM T (rs ++ [r]) x v ≤ farM T rs x v := by
  obtain ⟨g1, g2, g3, g4, g5⟩ := far_facts he' hs
  have h := (far_facts he (some_less hs)).2.2.2.2 _ (feas_more.1 (g4 x hx)).1 x v hx hv
  rw [g1 x hx] at h
  omega
/-- A rule that all true speeds keep changes nothing. -/
theorem more_same {T : Nat} {rs : List R} {r : R} (he : chk T rs = 0) (he' : chk T (rs ++ [r]) = 0) (hs : Some_ T rs) (hr : farM T rs r.f.toNat r.t.toNat ≤ r.m) (hf : r.f.toNat ≤ T) (ht : r.t.toNat ≤ T) :
    Some_ T (rs ++ [r]) ∧ ∀ x v, x ≤ T → v ≤ T → farM T (rs ++ [r]) x v = farM T rs x v := by
  obtain ⟨g1, g2, g3, g4, g5⟩ := far_facts he hs
  have hall : ∀ q, Feas (whole T rs) q → Feas (whole T (rs ++ [r])) q := fun q hq => feas_more.2 ⟨hq, by
    have := g5 q hq r.f.toNat r.t.toNat hf ht
    omega⟩
  have hs' : Some_ T (rs ++ [r]) := ⟨_, hall _ (g4 0 (by omega))⟩
  refine ⟨hs', fun x v hx hv => ?_⟩
  have h1 := more_le he he' hs' hx hv
  have h2 := (far_facts he' hs').2.2.2.2 _ (hall _ (g4 x hx)) x v hx hv
  rw [g1 x hx] at h2
  omega
/-- If no speeds are true then, the rule is less than the cheapest way was. -/
theorem more_clash {T : Nat} {rs : List R} {r : R} (he : chk T rs = 0) (he' : chk T (rs ++ [r]) = 0) (hs : Some_ T rs) (hs' : ¬ Some_ T (rs ++ [r])) (hf : r.f.toNat ≤ T) (ht : r.t.toNat ≤ T) : r.m < farM T rs r.f.toNat r.t.toNat := by
  by_cases h : r.m < farM T rs r.f.toNat r.t.toNat
  · exact h
  · exact absurd (more_same he he' hs (by omega) hf ht).1 hs'
/-- The cheapest way between the rule's own turns. -/
theorem more_way {T : Nat} {rs : List R} {r : R} (he : chk T rs = 0) (he' : chk T (rs ++ [r]) = 0) (hs' : Some_ T (rs ++ [r])) (hf : r.f.toNat ≤ T) (ht : r.t.toNat ≤ T) :
    farM T (rs ++ [r]) r.f.toNat r.t.toNat = min (farM T rs r.f.toNat r.t.toNat) r.m := by
  have hs := some_less hs'
  obtain ⟨g1, g2, g3, g4, g5⟩ := far_facts he hs
  obtain ⟨k1, k2, k3, k4, k5⟩ := far_facts he' hs'
  have h1 := more_le he he' hs' hf ht
  have h2 := (feas_more.1 (k4 r.f.toNat hf)).2
  rw [k1 _ hf] at h2
  by_cases h : farM T rs r.f.toNat r.t.toNat ≤ r.m
  · rw [(more_same he he' hs h hf ht).2 _ _ hf ht]
    omega
  · obtain ⟨p, hp⟩ := hs'
    obtain ⟨hp1, hp2⟩ := feas_more.1 hp
    -- the lesser of the table's row and of true speeds lifted so far that the rule is just kept
    have hq : Feas (whole T rs) fun v => min (farM T rs r.f.toNat v) (p v + (r.m - p r.t.toNat)) := feas_min (g4 _ hf) (feas_shift hp1 _)
    have hq2 := k5 _ (feas_more.2 ⟨hq, by
      show min (farM T rs r.f.toNat r.t.toNat) (p r.t.toNat + (r.m - p r.t.toNat)) ≤ min (farM T rs r.f.toNat r.f.toNat) (p r.f.toNat + (r.m - p r.t.toNat)) + r.m
      rw [g1 _ hf]
      omega⟩) r.f.toNat r.t.toNat hf ht
    have e : min (farM T rs r.f.toNat r.t.toNat) (p r.t.toNat + (r.m - p r.t.toNat)) - min (farM T rs r.f.toNat r.f.toNat) (p r.f.toNat + (r.m - p r.t.toNat)) ≤ farM T (rs ++ [r]) r.f.toNat r.t.toNat := hq2
    rw [g1 _ hf] at e
    omega
/-- Speeds that are true then were so before. -/
theorem more_speeds {T : Nat} {rs : List R} {r : R} (he : chk T rs = 0) (he' : chk T (rs ++ [r]) = 0) {vs : List Int} (h : checkSpeeds T (rs ++ [r]) vs = 0) : checkSpeeds T rs vs = 0 := by
  obtain ⟨h1, h2⟩ := (checkSpeeds_iff he' vs).1 h
  exact (checkSpeeds_iff he vs).2 ⟨h1, (feas_more.1 h2).1⟩
end Go.Proofs.Ytiankphkemakeaa

namespace Go.Proofs.Ytiankphkemakeaa
set_option linter.unusedSimpArgs false
set_option linter.unusedVariables false
open Go.RowKit Go.Shelf

def insideB (a b c d : Int) : Bool := decide (c ≤ a ∧ b ≤ d ∧ a ≤ b)
theorem inside_no {a b c d : Int} (h : ¬ (c ≤ a ∧ b ≤ d ∧ a ≤ b)) : insideB a b c d = false := decide_eq_false h
set_option maxRecDepth 100000 in
theorem inside47 (a b c d : Int) (w : World) :
    Calls Try.prog 47 #[.agg #[.int .i64 a, .int .i64 b], .agg #[.int .i64 c, .int .i64 d]] w fun e w' => e = .returned (.bool (insideB a b c d)) ∧ Below w.heap.size w w' := by
  have HB0 := Lib.hid ((below_alloc_ w (.cells #[.int .i64 a, .int .i64 b] 43)).trans ((below_alloc_ (w.alloc (.cells #[.int .i64 a, .int .i64 b] 43)) (.cells #[.int .i64 c, .int .i64 d] 43)).mono (by simp)))
  by_cases h1 : c ≤ a
  · have d1 : decide (c ≤ a) = true := decide_eq_true h1
    by_cases h2 : b ≤ d
    · have d2 : decide (b ≤ d) = true := decide_eq_true h2
      by_cases h3 : a ≤ b
      · have d3 : decide (a ≤ b) = true := decide_eq_true h3
        have Hr := Lib.hid (show insideB a b c d = true from decide_eq_true ⟨h1, h2, h3⟩)
        clear h1 h2 h3
        go_enter Try.func47, Try.ntmps47
        go_wp2_with fail
        go_ret
        exact ⟨by rw [Hr.out]; rfl, HB0.out⟩
      · have d3 : decide (a ≤ b) = false := decide_eq_false h3
        have Hr := Lib.hid (inside_no (a := a) (b := b) (c := c) (d := d) fun h => h3 h.2.2)
        clear h1 h2 h3
        go_enter Try.func47, Try.ntmps47
        go_wp2_with fail
        go_ret
        exact ⟨by rw [Hr.out]; rfl, HB0.out⟩
    · have d2 : decide (b ≤ d) = false := decide_eq_false h2
      have Hr := Lib.hid (inside_no (a := a) (b := b) (c := c) (d := d) fun h => h2 h.2.1)
      clear h1 h2
      go_enter Try.func47, Try.ntmps47
      go_wp2_with fail
      go_ret
      exact ⟨by rw [Hr.out]; rfl, HB0.out⟩
  · have d1 : decide (c ≤ a) = false := decide_eq_false h1
    have Hr := Lib.hid (inside_no (a := a) (b := b) (c := c) (d := d) fun h => h1 h.1)
    clear h1
    go_enter Try.func47, Try.ntmps47
    go_wp2_with fail
    go_ret
    exact ⟨by rw [Hr.out]; rfl, HB0.out⟩
end Go.Proofs.Ytiankphkemakeaa

namespace Go.Proofs.Ytiankphkemakeaa
set_option linter.unusedSimpArgs false
set_option linter.unusedVariables false
open Go.RowKit Go.Shelf

structure Nw (w : World) (B : Nat) (T : Int) (A : Option Addr) (n cap : Nat) (rs : List R) (r : R) (K : Option Addr) (k : Nat) (ks : List Int) (W : World) : Prop where
  bx : Bx w B T A n cap rs W
  m0 : W.heap[B + 1]? = some (.cells #[.int .i64 r.f, .int .i64 r.t, .int .i64 r.m] 68 (0, 0))
  giv : Ints W K k ks
theorem Nw.next {w : World} {B : Nat} {T : Int} {A : Option Addr} {n cap : Nat} {rs : List R} {r : R} {K : Option Addr} {k : Nat} {ks : List Int} {W W' : World} (hb : Below W.heap.size W W') (h : Nw w B T A n cap rs r K k ks W) : Nw w B T A n cap rs r K k ks W' :=
  ⟨h.bx.next hb, (hb.block _ (lt_of_block h.m0)).trans h.m0, h.giv.below hb (Nat.le_refl _)⟩
theorem Nw.new {w : World} {T : Int} {A : Option Addr} {n cap : Nat} {rs : List R} {r : R} {K : Option Addr} {k : Nat} {ks : List Int} (h : Rules w A n rs) (hk : Ints w K k ks) :
    Nw w w.heap.size T A n cap rs r K k ks ((w.alloc (.cells #[.int .i64 T, .slice A n cap] 24)).alloc (.cells #[.int .i64 r.f, .int .i64 r.t, .int .i64 r.m] 68)) :=
  ⟨(Bx.new h).next (below_alloc_ _ _), heap_last (by simp), (hk.below (below_alloc_ _ _) (Nat.le_refl _)).below (below_alloc_ _ _) (Nat.le_refl _)⟩
theorem Nw.m (i : Nat) {w : World} {B : Nat} {T : Int} {A : Option Addr} {n cap : Nat} {rs : List R} {r : R} {K : Option Addr} {k : Nat} {ks : List Int} {W : World} (h : Nw w B T A n cap rs r K k ks W) : W.cell? ⟨B + 1, 0, none⟩ = some (.int .i64 r.f) ∧ W.cell? ⟨B + 1, 1, none⟩ = some (.int .i64 r.t) ∧ W.cell? ⟨B + 1, 2, none⟩ = some (.int .i64 r.m) :=
  ⟨by rw [cell_of_row _ _ 0 _ _ _ h.m0]; rfl, by rw [cell_of_row _ _ 1 _ _ _ h.m0]; rfl, by rw [cell_of_row _ _ 2 _ _ _ h.m0]; rfl⟩
theorem Nw.all {w : World} {B : Nat} {T : Int} {A : Option Addr} {n cap : Nat} {rs : List R} {r : R} {K : Option Addr} {k : Nat} {ks : List Int} {W : World} (h : Nw w B T A n cap rs r K k ks W) : Nw w B T A n cap rs r K k ks W ∧ W.cell? ⟨B, 0, none⟩ = some (.int .i64 T) ∧ W.cell? ⟨B, 1, none⟩ = some (.slice A n cap) ∧ W.cell? ⟨B + 1, 0, none⟩ = some (.int .i64 r.f) ∧ W.cell? ⟨B + 1, 1, none⟩ = some (.int .i64 r.t) ∧ W.cell? ⟨B + 1, 2, none⟩ = some (.int .i64 r.m) :=
  ⟨h, h.bx.c0, h.bx.c1, (h.m 0).1, (h.m 0).2.1, (h.m 0).2.2⟩
theorem bel_alloc {W0 W : World} (h : Below W0.heap.size W0 W) (o : Obj) : Below W0.heap.size W0 (W.alloc o) := h.alloc h.size o
theorem bel_drew {W0 W : World} (h : Below W0.heap.size W0 W) : Below W0.heap.size W0 W.drew := below_drewN h 1
theorem hal_new {W : World} {o : Obj} {k : Nat} (h : k = W.heap.size) : (W.alloc o).heap[k]? = some o := by subst h; exact heap_alloc_new _ _
theorem hal_old {W : World} {o x : Obj} {k : Nat} (h : W.heap[k]? = some x) : (W.alloc o).heap[k]? = some x := ((below_alloc_ W o).block _ (lt_of_block h)).trans h
theorem hdrew {W : World} {x : Obj} {k : Nat} (h : W.heap[k]? = some x) : W.drew.heap[k]? = some x := h
theorem hgr {W W' : World} {row : Option Nat} {x : Obj} {k : Nat} (hg : W.grownBy W' row) (h : W.heap[k]? = some x) (hne : some k ≠ row) : W'.heap[k]? = some x := (hg.block _ (lt_of_block h) hne).trans h
theorem zcells {W : World} {k : Nat} (h : W.heap[k]? = some (.cells #[.int .i64 0, .slice none 0 0] 24 (0, 0))) : W.cell? ⟨k, 0, none⟩ = some (.int .i64 0) ∧ W.cell? ⟨k, 1, none⟩ = some (.slice none 0 0) ∧ W.frozen? ⟨k, 0, none⟩ = false ∧ W.frozen? ⟨k, 1, none⟩ = false :=
  ⟨by rw [cell_of_row _ _ 0 _ _ _ h]; rfl, by rw [cell_of_row _ _ 1 _ _ _ h]; rfl, frozen_of_row _ _ 0 _ _ h, frozen_of_row _ _ 1 _ _ h⟩

/-- append(v, x...), and where the new slice lies. -/
theorem run_append_rulesG (w : World) (ty base : Nat) (v : Value) (n : Nat) (xs : List R) (hown : w.ownsRow base 68 3 v n (flat xs)) (A : Option Addr) (m c : Nat) (ys : List R) (hr : Rules w A m ys)
    (hbytes : (n + m) * 24 ≤ 140737488355328) (hbase : base ≤ w.heap.size) :
    ∃ A' cap' w', (Builtin.append_ #[22, 22] ty #[v, .slice A m c]).run Try.prog w = .ok (.slice A' (n + m) cap') w' ∧ w'.ownsRow base 68 3 (.slice A' (n + m) cap') (n + m) (flat (xs ++ ys)) ∧ w.grownBy w' v.ownBlock ∧ ((Value.slice A' (n + m) cap').ownBlock = v.ownBlock ∨ (Value.slice A' (n + m) cap').ownBlock = some w.heap.size) := by
  obtain ⟨i, hi, hz0, hz1, hz2⟩ := info_parts Try.info68
  rcases Nat.eq_zero_or_pos m with hm | hm
  · subst hm
    have hy : ys = [] := List.eq_nil_of_length_eq_zero hr.1
    subst hy
    obtain ⟨A', cap', rfl⟩ := own_form hown
    cases A with
    | none =>
      refine ⟨A', cap', w, ?_, by simpa using hown, World.grownBy.refl _ _, .inl rfl⟩
      rcases hown.2 with ⟨h1, h2⟩ | ⟨g, cap, cur, h1, _, _, hnc, _⟩
      · cases h1
        simp [Builtin.append_, run_underlying Try.underlying22, sizeOf, typeInfo, hi, Builtin.lenOf, Builtin.firstCells]
      · cases h1
        simp [Builtin.append_, run_underlying Try.underlying22, sizeOf, typeInfo, hi, Builtin.lenOf, Builtin.firstCells, hnc, storeCells]
    | some ad =>
      obtain ⟨v', w', h1, h2, h3, _, h5⟩ := run_append_own_at (P := Try.prog) w base 22 ty 68 i _ 3 24 Try.underlying22 hi hz0 hz1 hz2 rfl (by decide) _ n _ hown ad 0 c [] rfl (by simp) (by simp) (by unfold maxLen; omega) hbytes hbase
      obtain ⟨A2, cap2, rfl⟩ := own_form h2
      exact ⟨A2, cap2, w', h1, by simpa using h2, h3, h5⟩
  · obtain ⟨b, o, rfl, _⟩ := hr.2 hm
    obtain ⟨v', w', h1, h2, h3, _, h5⟩ := run_append_own_at (P := Try.prog) w base 22 ty 68 i _ 3 24 Try.underlying22 hi hz0 hz1 hz2 rfl (by decide) v n _ hown ⟨b, o, none⟩ m c (flat ys) (by rw [flat_length, hr.1]) hr.news (flat_one ys) (by unfold maxLen; omega) hbytes hbase
    obtain ⟨A2, cap2, rfl⟩ := own_form h2
    exact ⟨A2, cap2, w', h1, by rw [flat_append]; exact h2, h3, h5⟩
theorem wp_append_rulesG {o : Oper} {a : Act} {w : World} {K : Act → World → Prop} {Q : Exit → Act → World → Prop} (s x : Operand)
    (ho : o.op = .call { callee := .builtin .append, args := #[s, x], argTypes := #[22, 22] })
    (base : Nat) (v : Value) (n : Nat) (xs : List R) (hs : a.eval s = v) (A : Option Addr) (m c : Nat) (ys : List R) (hx : a.eval x = .slice A m c) (hown : w.ownsRow base 68 3 v n (flat xs)) (hr : Rules w A m ys)
    (hbytes : (n + m) * 24 ≤ 140737488355328) (hbase : base ≤ w.heap.size)
    (h : ∀ A' cap' w', w'.ownsRow base 68 3 (.slice A' (n + m) cap') (n + m) (flat (xs ++ ys)) → w.grownBy w' v.ownBlock → ((Value.slice A' (n + m) cap').ownBlock = v.ownBlock ∨ (Value.slice A' (n + m) cap').ownBlock = some w.heap.size) → K (a.put o.dst (.slice A' (n + m) cap')) w') : o.wp Try.prog a w K Q := by
  obtain ⟨A', cap', w', h1, h2, h3, h4⟩ := run_append_rulesG w o.type base v n xs hown A m c ys hr hbytes hbase
  unfold Oper.wp execOp
  simp only [ho, resolve, invoke, builtin, Sem.run_bind, Sem.run_pure, Result.andThen_ok, List.map_toArray, List.map_cons, List.map_nil, hs, hx, h1]
  exact h A' cap' w' h2 h3 h4
/-- A block of two numbers. -/
structure Rb8 (W : World) (Q : Nat) (lo hi : Int) : Prop where
  hp : W.heap[Q]? = some (.cells #[.int .i64 lo, .int .i64 hi] 43 (0, 0))
theorem Rb8.next {W W' : World} {Q : Nat} {lo hi : Int} (hb : Below W.heap.size W W') (h : Rb8 W Q lo hi) : Rb8 W' Q lo hi := ⟨(hb.block _ (lt_of_block h.hp)).trans h.hp⟩
theorem Rb8.c0 {W : World} {Q : Nat} {lo hi : Int} (h : Rb8 W Q lo hi) : W.cell? ⟨Q, 0, none⟩ = some (.int .i64 lo) := by rw [cell_of_row _ _ 0 _ _ _ h.hp]; rfl
theorem Rb8.c1 {W : World} {Q : Nat} {lo hi : Int} (h : Rb8 W Q lo hi) : W.cell? ⟨Q, 1, none⟩ = some (.int .i64 hi) := by rw [cell_of_row _ _ 1 _ _ _ h.hp]; rfl
structure Np (w : World) (B : Nat) (T : Int) (A : Option Addr) (n cap : Nat) (rs : List R) (r : R) (K : Option Addr) (k : Nat) (ks : List Int) (k9 : Nat) (A2 : Option Addr) (cap2 : Nat) (W : World) : Prop where
  nw : Nw w B T A n cap rs r K k ks W
  y : Bx w k9 T A2 (n + 1) cap2 (rs ++ [r]) W
theorem Np.next {w : World} {B : Nat} {T : Int} {A : Option Addr} {n cap : Nat} {rs : List R} {r : R} {K : Option Addr} {k : Nat} {ks : List Int} {k9 : Nat} {A2 : Option Addr} {cap2 : Nat} {W W' : World} (hb : Below W.heap.size W W') (h : Np w B T A n cap rs r K k ks k9 A2 cap2 W) : Np w B T A n cap rs r K k ks k9 A2 cap2 W' := ⟨h.nw.next hb, h.y.next hb⟩
theorem way_any {T : Nat} {rs : List R} (he : chk T rs = 0) (hs : Some_ T rs) {a b : Nat} (ha : a ≤ T) (hb : b ≤ T) :
    ∃ W, wayR T rs a b = (W, farM T rs a b, 0) := by
  obtain ⟨W, h1, _⟩ := wayR_far he hs ha hb
  exact ⟨W, h1⟩
theorem turn_of2 {u N : Int} (h0 : 0 ≤ u) (h1 : u ≤ 255) (hN : 1 ≤ N) (hN2 : N ≤ 21) : ∃ a t : Nat, u % N = (a : Int) ∧ u.tmod N = (a : Int) ∧ IntKind.i64.wrap u = u ∧ IntKind.i64.wrap (a : Int) = (a : Int) ∧ (1 : Int) + (a : Int) = (t : Int) ∧ IntKind.i64.wrap (t : Int) = (t : Int) ∧ (0 : Int) ≤ (a : Int) ∧ (a : Int) < N ∧ 1 ≤ t ∧ (t : Int) ≤ N := by
  obtain ⟨a, a1, a2, a3, a4, a5⟩ := turn_of h0 h1 hN hN2
  exact ⟨a, a + 1, a1, a2, a4, a5, by omega, IntWalk.i64_in _ (by omega), by omega, a3, by omega, by omega⟩
theorem set2_grown (W : World) (k : Nat) (u v : Value) : W.grownBy ((W.setCell ⟨k, 0, none⟩ u).setCell ⟨k, 1, none⟩ v) (some k) := by
  obtain ⟨h1, h2, h3, h4⟩ := setCells_rest k [u, v] 0 W
  exact ⟨h1, h2, h3, Nat.le_of_eq h4.symm, fun j _ hj => heap_setCells_other k [u, v] 0 W j (fun e => hj (by rw [e]))⟩
theorem set2_heap {W : World} {k : Nat} (u v : Value) (h : W.heap[k]? = some (.cells #[.int .i64 0, .slice none 0 0] 24 (0, 0))) : ((W.setCell ⟨k, 0, none⟩ u).setCell ⟨k, 1, none⟩ v).heap[k]? = some (.cells #[u, v] 24 (0, 0)) := by
  have := heap_setCells k 24 [u, v] 0 W _ h
  simpa [World.setCells] using this
theorem bel_set {W0 W : World} {k : Nat} {u v : Value} (h : Below W0.heap.size W0 W) (hk : W0.heap.size ≤ k) : Below W0.heap.size W0 ((W.setCell ⟨k, 0, none⟩ u).setCell ⟨k, 1, none⟩ v) :=
  h.grown (set2_grown W k u v) h.size (fun j hj => by cases hj; exact hk)
end Go.Proofs.Ytiankphkemakeaa

namespace Go.Proofs.Ytiankphkemakeaa
set_option linter.unusedSimpArgs false
set_option linter.unusedVariables false
open Go.RowKit Go.Shelf

set_option maxRecDepth 100000 in
set_option maxHeartbeats 4000000 in
theorem narrower_start (HW : Hid WorksOk) (T u : Int) (A K : Option Addr) (n cap k capk : Nat) (rs : List R) (r : R) (ks : List Int) (w : World) (h : Rules w A n rs) (hk : Ints w K k ks) (hn : n * 24 + 24 ≤ 140737488355328) (bu : 0 ≤ u ∧ u ≤ 255) :
    Calls Try.prog 10 #[.agg #[.int .i64 T, .slice A n cap], .agg #[.int .i64 r.f, .int .i64 r.t, .int .i64 r.m], .int .u8 u, .slice K k capk] w fun e w' => e = .returned (.bool true) ∧ Below w.heap.size w w' := by
  have X := Nw.new (T := T) (cap := cap) (r := r) h hk
  have Hn := Lib.hid hn
  clear h hk hn
  obtain ⟨B, hB⟩ : ∃ B, w.heap.size = B := ⟨_, rfl⟩
  have HB := Lib.hid hB
  rw [hB] at X
  go_enter Try.func10, Try.ntmps10
  obtain ⟨W0, hW0⟩ : ∃ W0, (w.alloc (.cells #[.int .i64 T, .slice A n cap] 24)).alloc (.cells #[.int .i64 r.f, .int .i64 r.t, .int .i64 r.m] 68) = W0 := ⟨_, rfl⟩
  have hW0s : W0.heap.size = B + 2 := by rw [← hW0]; simp; omega
  rw [hW0] at X
  have HW0 := Lib.hid hW0
  clear hW0
  go_wp2_with fail
  rw [HW0.out]
  have hz0 : B ≤ W0.heap.size := by omega
  have HZ := Lib.hid hW0s
  clear hW0s hB
  obtain ⟨c0, c1, m0, m1, m2⟩ := X.all.2
  have Tall := Lib.hid (show ∀ W, Below W0.heap.size W0 W → Below W0.heap.size W0 W ∧ W.cell? ⟨B, 0, none⟩ = some (.int .i64 T) ∧ W.cell? ⟨B, 1, none⟩ = some (.slice A n cap) ∧ W.cell? ⟨B + 1, 0, none⟩ = some (.int .i64 r.f) ∧ W.cell? ⟨B + 1, 1, none⟩ = some (.int .i64 r.t) ∧ W.cell? ⟨B + 1, 2, none⟩ = some (.int .i64 r.m) from
    fun W hW => ⟨hW, (X.next hW).all.2⟩)
  have HX := Lib.hid X
  clear X
  go_cut [9] from 21 to 30 (fun v9 wx => ∃ (k9 : Nat) (A2 : Option Addr) (cap2 : Nat), v9 = .pointer (some ⟨k9, 0, none⟩) ∧ wx.heap[k9]? = some (.cells #[.int .i64 T, .slice A2 (n + 1) cap2] 24 (0, 0)) ∧ W0.heap.size ≤ k9 ∧ Rules wx A2 (n + 1) (rs ++ [r]) ∧ Below W0.heap.size W0 wx)
  case first =>
   (go_region_held3 (fun w' => Below W0.heap.size W0 w' ∧ w'.cell? ⟨B, 0, none⟩ = some (.int .i64 T) ∧ w'.cell? ⟨B, 1, none⟩ = some (.slice A n cap) ∧ w'.cell? ⟨B + 1, 0, none⟩ = some (.int .i64 r.f) ∧ w'.cell? ⟨B + 1, 1, none⟩ = some (.int .i64 r.t) ∧ w'.cell? ⟨B + 1, 2, none⟩ = some (.int .i64 r.m))
    (first | (go_split_ands; exact Tall.out _ (by assumption)) | (exact Tall.out _ (bel_alloc hBw2 _)) | (exact Tall.out _ hBw2) | (exact Tall.out _ (bel_set hBw2 (by have := hBw1.size; omega))) | (go_split_ands; exact Tall.out _ (Below.refl _ _)) | (go_split_ands; exact Tall.out _ (bel_alloc (by assumption) _)) | (go_split_ands; exact Tall.out _ (bel_drew (by assumption))) | (go_split_ands; exact Tall.out _ (bel_alloc (Below.refl _ _) _)) | (go_split_ands; exact Tall.out _ (bel_drew (Below.refl _ _))))
    (first
      | (rw [if_pos (by rfl)]; refine wp_append_rulesG (.tmp 23) (.tmp 25) rfl W0.heap.size (.slice (some ⟨_, 0, none⟩) 0 0) 0 [] rfl A n cap rs rfl (own_empty (by (repeat (first | assumption | (refine hal_new ?_; focus (first | (simp; done) | (simp; omega))) | (refine hal_old ?_) | (refine hgr hg1 ?_ ?_; rotate_left; focus (first | (simp [Value.ownBlock]; done) | (simp [Value.ownBlock]; omega))))); done) (by omega)) (by go_split_ands; exact (HX.out.next (by assumption)).bx.rules) (by have := Hn.out; omega) (by go_split_ands; exact Below.size (by assumption)) ?_; intro A1 cap1 w1 hown1 hg1 hat1; simp only [Nat.zero_add, List.nil_append] at hown1 hat1 ⊢; have hBw1 : Below W0.heap.size W0 w1 := Below.grown (by go_split_ands; assumption) hg1 (by go_split_ands; exact Below.size (by assumption)) (by intro k hk; simp [Value.ownBlock] at hk; omega); (try (have hzfw10 : w1.heap[W0.heap.size]? = some (.cells #[.int .i64 0, .slice none 0 0] 24 (0, 0)) := ?hzg; case hzg => ((repeat (first | assumption | (refine hal_new ?_; focus (first | (simp; done) | (simp; omega))) | (refine hal_old ?_) | (refine hgr hg1 ?_ ?_; rotate_left; focus (first | (simp [Value.ownBlock]; done) | (simp [Value.ownBlock]; omega))))); done))); (try (have hzfw11 : w1.heap[W0.heap.size + 1]? = some (.cells #[.int .i64 0, .slice none 0 0] 24 (0, 0)) := ?hzg; case hzg => ((repeat (first | assumption | (refine hal_new ?_; focus (first | (simp; done) | (simp; omega))) | (refine hal_old ?_) | (refine hgr hg1 ?_ ?_; rotate_left; focus (first | (simp [Value.ownBlock]; done) | (simp [Value.ownBlock]; omega))))); done))); (try (have hzfw12 : w1.heap[W0.heap.size + 1 + 1]? = some (.cells #[.int .i64 0, .slice none 0 0] 24 (0, 0)) := ?hzg; case hzg => ((repeat (first | assumption | (refine hal_new ?_; focus (first | (simp; done) | (simp; omega))) | (refine hal_old ?_) | (refine hgr hg1 ?_ ?_; rotate_left; focus (first | (simp [Value.ownBlock]; done) | (simp [Value.ownBlock]; omega))))); done))))
      | (rw [if_pos (by rfl)]; refine wp_append_rulesG (.tmp 26) (.tmp 28) rfl W0.heap.size (.slice A1 n cap1) n rs rfl (some ⟨_, 0, none⟩) 1 1 [r] rfl (by (repeat (first | exact hown1 | (refine own_below ?_ (below_alloc_ _ _) (Nat.le_refl _)) | (refine own_below ?_ (below_drew_ _) (Nat.le_refl _)))); done) (rules_one (by (repeat (first | assumption | (refine hal_new ?_; focus (first | (simp; done) | (simp; omega))) | (refine hal_old ?_) | (refine hgr hg2 ?_ ?_; (rotate_left; focus (intro e; have h8 := (hown1.lt _ e.symm).2; rcases hat1 with h | h <;> rw [← e] at h <;> simp [Value.ownBlock] at h <;> omega))) | (refine hgr hg1 ?_ ?_; rotate_left; focus (first | (simp [Value.ownBlock]; done) | (simp [Value.ownBlock]; omega))))); done)) (by have := Hn.out; omega) (by go_split_ands; exact Below.size (by assumption)) ?_; intro A2 cap2 w2 hown2 hg2 hat2; have hBw2 : Below W0.heap.size W0 w2 := Below.grown (by go_split_ands; assumption) hg2 (by go_split_ands; exact Below.size (by assumption)) (by intro k hk; exact (hown1.lt k hk).1); (try (have hzfw20 : w2.heap[W0.heap.size]? = some (.cells #[.int .i64 0, .slice none 0 0] 24 (0, 0)) := ?hzg; (case hzg => ((repeat (first | assumption | (refine hal_new ?_; focus (first | (simp; done) | (simp; omega))) | (refine hal_old ?_) | (refine hgr hg2 ?_ ?_; (rotate_left; focus (intro e; have h8 := (hown1.lt _ e.symm).2; rcases hat1 with h | h <;> rw [← e] at h <;> simp [Value.ownBlock] at h <;> omega))) | (refine hgr hg1 ?_ ?_; rotate_left; focus (first | (simp [Value.ownBlock]; done) | (simp [Value.ownBlock]; omega))))); done)); obtain ⟨hz0, hz1, hz2, hz3⟩ := zcells hzfw20)); (try (have hzfw21 : w2.heap[W0.heap.size + 1]? = some (.cells #[.int .i64 0, .slice none 0 0] 24 (0, 0)) := ?hzg; (case hzg => ((repeat (first | assumption | (refine hal_new ?_; focus (first | (simp; done) | (simp; omega))) | (refine hal_old ?_) | (refine hgr hg2 ?_ ?_; (rotate_left; focus (intro e; have h8 := (hown1.lt _ e.symm).2; rcases hat1 with h | h <;> rw [← e] at h <;> simp [Value.ownBlock] at h <;> omega))) | (refine hgr hg1 ?_ ?_; rotate_left; focus (first | (simp [Value.ownBlock]; done) | (simp [Value.ownBlock]; omega))))); done)); obtain ⟨hz0, hz1, hz2, hz3⟩ := zcells hzfw21)); (try (have hzfw22 : w2.heap[W0.heap.size + 1 + 1]? = some (.cells #[.int .i64 0, .slice none 0 0] 24 (0, 0)) := ?hzg; (case hzg => ((repeat (first | assumption | (refine hal_new ?_; focus (first | (simp; done) | (simp; omega))) | (refine hal_old ?_) | (refine hgr hg2 ?_ ?_; (rotate_left; focus (intro e; have h8 := (hown1.lt _ e.symm).2; rcases hat1 with h | h <;> rw [← e] at h <;> simp [Value.ownBlock] at h <;> omega))) | (refine hgr hg1 ?_ ?_; rotate_left; focus (first | (simp [Value.ownBlock]; done) | (simp [Value.ownBlock]; omega))))); done)); obtain ⟨hz0, hz1, hz2, hz3⟩ := zcells hzfw22)); (try (have hzfw23 : w2.heap[w1.heap.size]? = some (.cells #[.int .i64 0, .slice none 0 0] 24 (0, 0)) := ?hzg; (case hzg => ((repeat (first | assumption | (refine hal_new ?_; focus (first | (simp; done) | (simp; omega))) | (refine hal_old ?_) | (refine hgr hg2 ?_ ?_; (rotate_left; focus (intro e; have h8 := (hown1.lt _ e.symm).2; rcases hat1 with h | h <;> rw [← e] at h <;> simp [Value.ownBlock] at h <;> omega))) | (refine hgr hg1 ?_ ?_; rotate_left; focus (first | (simp [Value.ownBlock]; done) | (simp [Value.ownBlock]; omega))))); done)); obtain ⟨hz0, hz1, hz2, hz3⟩ := zcells hzfw23)); (try (have hzfw24 : w2.heap[w1.heap.size + 1]? = some (.cells #[.int .i64 0, .slice none 0 0] 24 (0, 0)) := ?hzg; (case hzg => ((repeat (first | assumption | (refine hal_new ?_; focus (first | (simp; done) | (simp; omega))) | (refine hal_old ?_) | (refine hgr hg2 ?_ ?_; (rotate_left; focus (intro e; have h8 := (hown1.lt _ e.symm).2; rcases hat1 with h | h <;> rw [← e] at h <;> simp [Value.ownBlock] at h <;> omega))) | (refine hgr hg1 ?_ ?_; rotate_left; focus (first | (simp [Value.ownBlock]; done) | (simp [Value.ownBlock]; omega))))); done)); obtain ⟨hz0, hz1, hz2, hz3⟩ := zcells hzfw24)))))
   all_goals (
    go_wp2_with fail
    go_meet
    case rel => (first
      | exact ⟨_, A2, cap2, rfl, hal_new rfl, hBw2.size, Rules.of_own (own_below hown2 (below_alloc_ _ _) (Nat.le_refl _)), bel_alloc hBw2 _⟩
      | (refine ⟨_, A2, cap2, rfl, set2_heap _ _ ?_, ?_, Rules.of_own (hown2.kept (set2_grown _ _ _ _) (.inr ?_)), bel_set hBw2 ?_⟩; (all_goals (first | assumption | (have := hBw1.size; omega) | (intro hk; rcases hat2 with h2 | h2 <;> rw [hk] at h2; (have h8 := (hown1.lt _ h2.symm).2; rcases hat1 with h1 | h1 <;> rw [← h2] at h1 <;> simp [Value.ownBlock] at h1 <;> omega); (have h7 := hg1.size; first | (simp at h2; done) | (simp at h2 h7; omega))) | ((repeat (first | assumption | (refine hal_new ?_; focus (first | (simp; done) | (simp; omega))) | (refine hal_old ?_) | (refine hgr hg2 ?_ ?_; (rotate_left; focus (intro e; have h8 := (hown1.lt _ e.symm).2; rcases hat1 with h | h <;> rw [← e] at h <;> simp [Value.ownBlock] at h <;> omega))) | (refine hgr hg1 ?_ ?_; rotate_left; focus (first | (simp [Value.ownBlock]; done) | (simp [Value.ownBlock]; omega))))); done))))))
  case rest =>
    obtain ⟨k9, A2, cap2, rfl, h9, hk9, hr2, hB9⟩ := hcut
    have hbw : Below w.heap.size w wc := HX.out.bx.below.trans (hB9.mono (by have := HZ.out; have := HB.out; omega))
    have X1 : Np w B T A n cap rs r K k ks k9 A2 cap2 wc := ⟨HX.out.next hB9, ⟨hbw, by have := HZ.out; have := HB.out; omega, lt_of_block h9, by rw [cell_of_row _ _ 0 _ _ _ h9]; rfl, by rw [cell_of_row _ _ 1 _ _ _ h9]; rfl, hr2⟩⟩
    have Hn1 := Lib.hid (show n ≤ maxLen by have := Hn.out; unfold maxLen; omega)
    have Hn2 := Lib.hid (show n + 1 ≤ maxLen by have := Hn.out; unfold maxLen; omega)
    have Hn3 := Lib.hid (show n ≤ 140737488355328 by have := Hn.out; omega)
    have Hn4 := Lib.hid (show n + 1 ≤ 140737488355328 by have := Hn.out; omega)
    clear h9 hk9 hr2 hB9 hbw Tall HX HZ HW0 hz0 c0 c1 m0 m1 m2
    have c0 := X1.nw.bx.c0
    have c1 := X1.nw.bx.c1
    go_wp2_with fail
    refine (fine42 A n cap T rs _ X1.nw.bx.rules Hn1.out).mono ?_
    rintro e w1 ⟨rfl, hb⟩
    have X2 := X1.next hb
    clear X1 hb c0 c1
    cases hf : fineB T n rs with
    | false =>
      go_wp2_with fail
      refine (HW.out _).mono ?_
      rintro e wz ⟨rfl, hb⟩
      have XZ := X2.next hb
      clear hb
      go_wp2_with fail
      go_ret
      exact ⟨rfl, XZ.nw.bx.below⟩
    | true =>
      obtain ⟨h70, he, hc⟩ : n ≤ 70 ∧ chk T rs = 0 ∧ clashM T.toNat rs = false := of_decide_eq_true hf
      have y0 := X2.y.c0
      have y1 := X2.y.c1
      clear hf
      go_wp2_with fail
      refine (great14 T A2 (n + 1) cap2 _ Hn2.out).mono ?_
      rintro e w2 ⟨rfl, rfl⟩
      have X3 := X2.next (below_alloc_ _ (.cells #[.int .i64 T, .slice A2 (n + 1) cap2] 24))
      obtain ⟨w3, hw3⟩ : ∃ w3, w1.alloc (.cells #[.int .i64 T, .slice A2 (n + 1) cap2] 24) = w3 := ⟨_, rfl⟩
      rw [hw3] at X3 ⊢
      clear X2 hw3 y0 y1
      have y0 := X3.y.c0
      have y1 := X3.y.c1
      by_cases hg : 70 < n + 1
      · have dg : decide (70 < n + 1) = true := decide_eq_true hg
        rw [dg]
        clear hg dg he hc h70
        go_wp2_with fail
        refine (HW.out _).mono ?_
        rintro e wz ⟨rfl, hb⟩
        have XZ := X3.next hb
        clear hb
        go_wp2_with fail
        go_ret
        exact ⟨rfl, XZ.nw.bx.below⟩
      · have dg : decide (70 < n + 1) = false := decide_eq_false hg
        rw [dg]
        clear dg
        have Hg := Lib.hid hg
        clear hg
        go_wp2_with fail
        refine (checkSheet19 A2 (n + 1) cap2 (rs ++ [r]) T _ X3.y.rules Hn4.out).mono ?_
        rintro e w4 ⟨rfl, hb⟩
        have X4 := X3.next hb
        clear X3 hb y0 y1
        by_cases he' : chk T (rs ++ [r]) = 0
        · rw [he']
          by_cases h40 : 40 < k
          · have d40 : decide ((40 : Int) < (k : Int)) = true := decide_eq_true (by omega)
            clear he he' hc h70 h40
            go_wp2_with fail
            refine (HW.out _).mono ?_
            rintro e wz ⟨rfl, hb⟩
            have XZ := X4.next hb
            clear hb
            go_wp2_with fail
            go_ret
            exact ⟨rfl, XZ.nw.bx.below⟩
          · have d40 : decide ((40 : Int) < (k : Int)) = false := decide_eq_false (by omega)
            have Hk4 := Lib.hid h40
            obtain ⟨hl60, hT1, hT20, hall⟩ := chk_ok he
            obtain ⟨T, rfl⟩ := Int.eq_ofNat_of_zero_le (show 0 ≤ T by omega)
            obtain ⟨f0, g0, mm⟩ := r
            have hb0 := (good_whole he').fit ⟨f0, g0, mm⟩ (whole_more.2 (.inr rfl))
            simp only [] at hb0
            obtain ⟨f, rfl⟩ := Int.eq_ofNat_of_zero_le (show 0 ≤ f0 by omega)
            obtain ⟨g, rfl⟩ := Int.eq_ofNat_of_zero_le (show 0 ≤ g0 by omega)
            have hf : f ≤ T := by omega
            have hgg : g ≤ T := by omega
            have Hf := Lib.hid hf
            have Hgg := Lib.hid hgg
            rw [Int.toNat_natCast] at hc
            have hs := (clash_some_iff he).1 hc
            have Hs := Lib.hid hs
            have He := Lib.hid he
            have He' := Lib.hid he'
            have hT0 : ¬ ((T : Int) = 0) := by omega
            obtain ⟨b00, b01⟩ := bu
            obtain ⟨a, t, a1, a2, a3, a4, a5, a6, a7, a8, ht1, ht2⟩ := turn_of2 b00 b01 (show (1 : Int) ≤ T by omega) (by omega)
            have Ht1 := Lib.hid ht1
            have Ht2 := Lib.hid (show t ≤ T by omega)
            obtain ⟨x, hx⟩ : ∃ x, -(farM T rs t 0) = x := ⟨_, rfl⟩
            obtain ⟨y, hy⟩ : ∃ y, farM T rs 0 t = y := ⟨_, rfl⟩
            obtain ⟨n0, hn0⟩ : ∃ n0, farM T rs f g = n0 := ⟨_, rfl⟩
            have hxx2 := Lib.hid (show farM T rs t 0 = -x by omega)
            have hyy2 := Lib.hid hy
            have Hn0 := Lib.hid hn0
            have Hspan := Lib.hid (show spanR T rs t = (x, y, 0) by rw [spanR_far he hs ht1 Ht2.out, hx, hy])
            clear hx hy hn0 he he' hc hs hl60 hT1 hT20 hall hb0 hf hgg h70 h40 ht1 ht2
            have c0 := X4.nw.bx.c0
            have c1 := X4.nw.bx.c1
            go_wp2_with fail
            refine (span29 A n cap T t rs _ X4.nw.bx.rules Hn3.out).mono ?_
            rintro e w5 ⟨rfl, hb⟩
            have X5 := X4.next hb
            rw [Hspan.out]
            clear X4 hb c0 c1
            have c0 := X5.nw.bx.c0
            have c1 := X5.nw.bx.c1
            have hlt := X5.nw.bx.hi
            have hl2 := lt_of_block X5.nw.m0
            obtain ⟨m0, m1, m2⟩ := X5.nw.m 0
            go_wp2_with fail
            have X6 := X5.next (below_alloc_ _ (.cells #[.int .i64 x, .int .i64 y] 43))
            have R6 : Rb8 (w5.alloc (.cells #[.int .i64 x, .int .i64 y] 43)) w5.heap.size x y := ⟨heap_alloc_new _ _⟩
            obtain ⟨w6, hw6⟩ : ∃ w6, w5.alloc (.cells #[.int .i64 x, .int .i64 y] 43) = w6 := ⟨_, rfl⟩
            rw [hw6] at X6 R6 ⊢
            obtain ⟨Q1, hQ1⟩ : ∃ Q1, w5.heap.size = Q1 := ⟨_, rfl⟩
            rw [hQ1] at R6 ⊢
            clear X5 hw6 hQ1 c0 c1 hlt hl2 m0 m1 m2
            refine (way35 A n cap T f g rs _ X6.nw.bx.rules Hn3.out).mono ?_
            rintro e w7 ⟨C3, k3, p3, rfl, hI, hb⟩
            obtain ⟨W3, hW3⟩ := way_any He.out Hs.out Hf.out Hgg.out
            rw [hW3] at hI ⊢
            rw [Hn0.out]
            have X7 := X6.next hb
            have R7 := R6.next hb
            clear X6 R6 hb hI hW3
            have y0 := X7.y.c0
            have y1 := X7.y.c1
            go_wp2_with fail
            refine (checkSpeeds21 A2 K (n + 1) cap2 k capk T (rs ++ [⟨f, g, mm⟩]) ks _ X7.y.rules X7.nw.giv Hn4.out (by have := Hk4.out; omega)).mono ?_
            rintro e w8 ⟨rfl, hb⟩
            have X8 := X7.next hb
            have R8 := R7.next hb
            clear X7 R7 hb y0 y1
            by_cases hE : checkSpeeds T (rs ++ [⟨f, g, mm⟩]) ks = 0
            · rw [hE]
              have hE2 := Lib.hid (more_speeds He.out He'.out hE)
              clear hE
              have c0 := X8.nw.bx.c0
              have c1 := X8.nw.bx.c1
              go_wp2_with fail
              refine (checkSpeeds21 A K n cap k capk T rs ks _ X8.nw.bx.rules X8.nw.giv Hn3.out (by have := Hk4.out; omega)).mono ?_
              rintro e w9 ⟨rfl, hb⟩
              rw [hE2.out]
              have X9 := X8.next hb
              have R9 := R8.next hb
              clear X8 R8 hb c0 c1
              have y0 := X9.y.c0
              have y1 := X9.y.c1
              go_wp2_with fail
              refine (span29 A2 (n + 1) cap2 T t (rs ++ [⟨f, g, mm⟩]) _ X9.y.rules Hn4.out).mono ?_
              rintro e w10 ⟨rfl, hb⟩
              have X10 := X9.next hb
              have R10 := R9.next hb
              clear X9 R9 hb y0 y1
              by_cases hs' : Some_ T (rs ++ [⟨f, g, mm⟩])
              · obtain ⟨xx, hxx⟩ : ∃ xx, -(farM T (rs ++ [⟨f, g, mm⟩]) t 0) = xx := ⟨_, rfl⟩
                obtain ⟨yy, hyy⟩ : ∃ yy, farM T (rs ++ [⟨f, g, mm⟩]) 0 t = yy := ⟨_, rfl⟩
                have hsp := spanR_far He'.out hs' Ht1.out Ht2.out
                rw [hxx, hyy] at hsp
                rw [hsp]
                have hin : insideB xx yy x y = true := decide_eq_true (by
                  have e1 := more_le He.out He'.out hs' Ht2.out (Nat.zero_le T)
                  have e2 := more_le He.out He'.out hs' (Nat.zero_le T) Ht2.out
                  obtain ⟨q1, q2, q3, q4, q5⟩ := far_facts He'.out hs'
                  have e3 := q3 t 0 t Ht2.out (Nat.zero_le T) Ht2.out
                  rw [q1 t Ht2.out] at e3
                  rw [hxx2.out] at e1
                  rw [hyy2.out] at e2
                  omega)
                have hway := more_way He.out He'.out hs' (r := ⟨f, g, mm⟩) (by simp; exact Hf.out) (by simp; exact Hgg.out)
                simp only [Int.toNat_natCast] at hway
                rw [Hn0.out] at hway
                have hsame : ¬ mm < n0 → xx = x ∧ yy = y := fun h => by
                  have e1 := (more_same He.out He'.out Hs.out (r := ⟨f, g, mm⟩) (by simp only [Int.toNat_natCast]; rw [Hn0.out]; show n0 ≤ mm; omega) (by simp; exact Hf.out) (by simp; exact Hgg.out)).2
                  exact ⟨by rw [← hxx, e1 t 0 Ht2.out (Nat.zero_le T)]; have := hxx2.out; omega, by rw [← hyy, e1 0 t (Nat.zero_le T) Ht2.out]; exact hyy2.out⟩
                have Hin := Lib.hid hin
                have Hway := Lib.hid hway
                have Hsame := Lib.hid hsame
                have Hs' := Lib.hid hs'
                clear hsp hin hway hsame hxx hyy hs'
                have y0 := X10.y.c0
                have y1 := X10.y.c1
                have hlt := X10.y.hi
                go_wp2_with fail
                have X11 := X10.next (below_alloc_ _ (.cells #[.int .i64 xx, .int .i64 yy] 43))
                have R11 := R10.next (below_alloc_ _ (.cells #[.int .i64 xx, .int .i64 yy] 43))
                have S11 : Rb8 (w10.alloc (.cells #[.int .i64 xx, .int .i64 yy] 43)) w10.heap.size xx yy := ⟨heap_alloc_new _ _⟩
                obtain ⟨w11, hw11⟩ : ∃ w11, w10.alloc (.cells #[.int .i64 xx, .int .i64 yy] 43) = w11 := ⟨_, rfl⟩
                rw [hw11] at X11 R11 S11 ⊢
                obtain ⟨Q2, hQ2⟩ : ∃ Q2, w10.heap.size = Q2 := ⟨_, rfl⟩
                rw [hQ2] at S11 ⊢
                clear X10 R10 hw11 hQ2 y0 y1 hlt
                refine (clashes28 A2 (n + 1) cap2 T (rs ++ [⟨f, g, mm⟩]) _ X11.y.rules He'.out).mono ?_
                rintro e w12 ⟨rfl, hb⟩
                have X12 := X11.next hb
                have R12 := R11.next hb
                have S12 := S11.next hb
                clear X11 R11 S11 hb
                have hcl : clashM T (rs ++ [⟨f, g, mm⟩]) = false := (clash_some_iff He'.out).2 Hs'.out
                rw [hcl]
                clear hcl
                have y0 := X12.y.c0
                have y1 := X12.y.c1
                obtain ⟨m0, m1, m2⟩ := X12.nw.m 0
                go_wp2_with fail
                refine (way35 A2 (n + 1) cap2 T f g (rs ++ [⟨f, g, mm⟩]) _ X12.y.rules Hn4.out).mono ?_
                rintro e w13 ⟨C4, k4, p4, rfl, hI, hb⟩
                obtain ⟨W4, hW4⟩ := way_any He'.out Hs'.out Hf.out Hgg.out
                rw [hW4] at hI ⊢
                rw [Hway.out]
                have X13 := X12.next hb
                have R13 := R12.next hb
                have S13 := S12.next hb
                clear X12 R12 S12 hb hI hW4 y0 y1 m0 m1 m2
                have q0 := R13.c0
                have q1 := R13.c1
                have s0 := S13.c0
                have s1 := S13.c1
                obtain ⟨m0, m1, m2⟩ := X13.nw.m 0
                go_wp2_with fail
                refine (inside47 xx yy x y _).mono ?_
                rintro e w14 ⟨rfl, hb⟩
                rw [Hin.out]
                have X14 := X13.next hb
                have R14 := R13.next hb
                have S14 := S13.next hb
                clear X13 R13 S13 hb q0 q1 s0 s1 m0 m1 m2
                have q0 := R14.c0
                have q1 := R14.c1
                have s0 := S14.c0
                have s1 := S14.c1
                obtain ⟨m0, m1, m2⟩ := X14.nw.m 0
                by_cases hmm : mm < n0
                · have dm : decide (mm < n0) = true := decide_eq_true hmm
                  have hmin : min n0 mm = mm := by omega
                  rw [hmin]
                  clear hmin
                  go_wp2_with fail
                  all_goals (first | (exfalso; omega) | skip)
                  refine (HW.out _).mono ?_
                  rintro e wz ⟨rfl, hb⟩
                  have XZ := X14.next hb
                  clear hb
                  go_wp2_with fail
                  go_ret
                  exact ⟨rfl, XZ.nw.bx.below⟩
                · have dm : decide (mm < n0) = false := decide_eq_false hmm
                  have hmin : min n0 mm = n0 := by omega
                  rw [hmin]
                  obtain ⟨e1, e2⟩ := Hsame.out (by omega)
                  subst e1 e2
                  clear hmin
                  go_wp2_with fail
                  all_goals (first | (exfalso; omega) | skip)
                  refine (HW.out _).mono ?_
                  rintro e wz ⟨rfl, hb⟩
                  have XZ := X14.next hb
                  clear hb
                  go_wp2_with fail
                  go_ret
                  exact ⟨rfl, XZ.nw.bx.below⟩
              · have hsp := spanR_clash He'.out hs' Ht1.out Ht2.out
                rw [hsp]
                have hless := more_clash He.out He'.out Hs.out hs' (r := ⟨f, g, mm⟩) (by simp; exact Hf.out) (by simp; exact Hgg.out)
                simp only [Int.toNat_natCast] at hless
                rw [Hn0.out] at hless
                have dm : decide (mm < n0) = true := decide_eq_true hless
                have hcl : clashM T (rs ++ [⟨f, g, mm⟩]) = true := clash_yes He'.out hs'
                clear hsp hless hs'
                have y0 := X10.y.c0
                have y1 := X10.y.c1
                have hlt := X10.y.hi
                go_wp2_with fail
                have X11 := X10.next (below_alloc_ _ (.cells #[.int .i64 0, .int .i64 0] 43))
                obtain ⟨w11, hw11⟩ : ∃ w11, w10.alloc (.cells #[.int .i64 0, .int .i64 0] 43) = w11 := ⟨_, rfl⟩
                rw [hw11] at X11 ⊢
                clear X10 hw11 y0 y1 hlt
                refine (clashes28 A2 (n + 1) cap2 T (rs ++ [⟨f, g, mm⟩]) _ X11.y.rules He'.out).mono ?_
                rintro e w12 ⟨rfl, hb⟩
                have X12 := X11.next hb
                clear X11 hb
                rw [hcl]
                clear hcl
                obtain ⟨m0, m1, m2⟩ := X12.nw.m 0
                go_wp2_with fail
                refine (HW.out _).mono ?_
                rintro e wz ⟨rfl, hb⟩
                have XZ := X12.next hb
                clear hb
                go_wp2_with fail
                go_ret
                exact ⟨rfl, XZ.nw.bx.below⟩
            · have hE2 : (checkSpeeds T (rs ++ [⟨f, g, mm⟩]) ks == 0) = false := by rw [beq_eq_false_iff_ne]; exact hE
              clear hE
              have X9 := X8
              have R9 := R8
              clear X8 R8
              have y0 := X9.y.c0
              have y1 := X9.y.c1
              go_wp2_with fail
              refine (span29 A2 (n + 1) cap2 T t (rs ++ [⟨f, g, mm⟩]) _ X9.y.rules Hn4.out).mono ?_
              rintro e w10 ⟨rfl, hb⟩
              have X10 := X9.next hb
              have R10 := R9.next hb
              clear X9 R9 hb y0 y1
              by_cases hs' : Some_ T (rs ++ [⟨f, g, mm⟩])
              · obtain ⟨xx, hxx⟩ : ∃ xx, -(farM T (rs ++ [⟨f, g, mm⟩]) t 0) = xx := ⟨_, rfl⟩
                obtain ⟨yy, hyy⟩ : ∃ yy, farM T (rs ++ [⟨f, g, mm⟩]) 0 t = yy := ⟨_, rfl⟩
                have hsp := spanR_far He'.out hs' Ht1.out Ht2.out
                rw [hxx, hyy] at hsp
                rw [hsp]
                have hin : insideB xx yy x y = true := decide_eq_true (by
                  have e1 := more_le He.out He'.out hs' Ht2.out (Nat.zero_le T)
                  have e2 := more_le He.out He'.out hs' (Nat.zero_le T) Ht2.out
                  obtain ⟨q1, q2, q3, q4, q5⟩ := far_facts He'.out hs'
                  have e3 := q3 t 0 t Ht2.out (Nat.zero_le T) Ht2.out
                  rw [q1 t Ht2.out] at e3
                  rw [hxx2.out] at e1
                  rw [hyy2.out] at e2
                  omega)
                have hway := more_way He.out He'.out hs' (r := ⟨f, g, mm⟩) (by simp; exact Hf.out) (by simp; exact Hgg.out)
                simp only [Int.toNat_natCast] at hway
                rw [Hn0.out] at hway
                have hsame : ¬ mm < n0 → xx = x ∧ yy = y := fun h => by
                  have e1 := (more_same He.out He'.out Hs.out (r := ⟨f, g, mm⟩) (by simp only [Int.toNat_natCast]; rw [Hn0.out]; show n0 ≤ mm; omega) (by simp; exact Hf.out) (by simp; exact Hgg.out)).2
                  exact ⟨by rw [← hxx, e1 t 0 Ht2.out (Nat.zero_le T)]; have := hxx2.out; omega, by rw [← hyy, e1 0 t (Nat.zero_le T) Ht2.out]; exact hyy2.out⟩
                have Hin := Lib.hid hin
                have Hway := Lib.hid hway
                have Hsame := Lib.hid hsame
                have Hs' := Lib.hid hs'
                clear hsp hin hway hsame hxx hyy hs'
                have y0 := X10.y.c0
                have y1 := X10.y.c1
                have hlt := X10.y.hi
                go_wp2_with fail
                have X11 := X10.next (below_alloc_ _ (.cells #[.int .i64 xx, .int .i64 yy] 43))
                have R11 := R10.next (below_alloc_ _ (.cells #[.int .i64 xx, .int .i64 yy] 43))
                have S11 : Rb8 (w10.alloc (.cells #[.int .i64 xx, .int .i64 yy] 43)) w10.heap.size xx yy := ⟨heap_alloc_new _ _⟩
                obtain ⟨w11, hw11⟩ : ∃ w11, w10.alloc (.cells #[.int .i64 xx, .int .i64 yy] 43) = w11 := ⟨_, rfl⟩
                rw [hw11] at X11 R11 S11 ⊢
                obtain ⟨Q2, hQ2⟩ : ∃ Q2, w10.heap.size = Q2 := ⟨_, rfl⟩
                rw [hQ2] at S11 ⊢
                clear X10 R10 hw11 hQ2 y0 y1 hlt
                refine (clashes28 A2 (n + 1) cap2 T (rs ++ [⟨f, g, mm⟩]) _ X11.y.rules He'.out).mono ?_
                rintro e w12 ⟨rfl, hb⟩
                have X12 := X11.next hb
                have R12 := R11.next hb
                have S12 := S11.next hb
                clear X11 R11 S11 hb
                have hcl : clashM T (rs ++ [⟨f, g, mm⟩]) = false := (clash_some_iff He'.out).2 Hs'.out
                rw [hcl]
                clear hcl
                have y0 := X12.y.c0
                have y1 := X12.y.c1
                obtain ⟨m0, m1, m2⟩ := X12.nw.m 0
                go_wp2_with fail
                refine (way35 A2 (n + 1) cap2 T f g (rs ++ [⟨f, g, mm⟩]) _ X12.y.rules Hn4.out).mono ?_
                rintro e w13 ⟨C4, k4, p4, rfl, hI, hb⟩
                obtain ⟨W4, hW4⟩ := way_any He'.out Hs'.out Hf.out Hgg.out
                rw [hW4] at hI ⊢
                rw [Hway.out]
                have X13 := X12.next hb
                have R13 := R12.next hb
                have S13 := S12.next hb
                clear X12 R12 S12 hb hI hW4 y0 y1 m0 m1 m2
                have q0 := R13.c0
                have q1 := R13.c1
                have s0 := S13.c0
                have s1 := S13.c1
                obtain ⟨m0, m1, m2⟩ := X13.nw.m 0
                go_wp2_with fail
                refine (inside47 xx yy x y _).mono ?_
                rintro e w14 ⟨rfl, hb⟩
                rw [Hin.out]
                have X14 := X13.next hb
                have R14 := R13.next hb
                have S14 := S13.next hb
                clear X13 R13 S13 hb q0 q1 s0 s1 m0 m1 m2
                have q0 := R14.c0
                have q1 := R14.c1
                have s0 := S14.c0
                have s1 := S14.c1
                obtain ⟨m0, m1, m2⟩ := X14.nw.m 0
                by_cases hmm : mm < n0
                · have dm : decide (mm < n0) = true := decide_eq_true hmm
                  have hmin : min n0 mm = mm := by omega
                  rw [hmin]
                  clear hmin
                  go_wp2_with fail
                  all_goals (first | (exfalso; omega) | skip)
                  refine (HW.out _).mono ?_
                  rintro e wz ⟨rfl, hb⟩
                  have XZ := X14.next hb
                  clear hb
                  go_wp2_with fail
                  go_ret
                  exact ⟨rfl, XZ.nw.bx.below⟩
                · have dm : decide (mm < n0) = false := decide_eq_false hmm
                  have hmin : min n0 mm = n0 := by omega
                  rw [hmin]
                  obtain ⟨e1, e2⟩ := Hsame.out (by omega)
                  subst e1 e2
                  clear hmin
                  go_wp2_with fail
                  all_goals (first | (exfalso; omega) | skip)
                  refine (HW.out _).mono ?_
                  rintro e wz ⟨rfl, hb⟩
                  have XZ := X14.next hb
                  clear hb
                  go_wp2_with fail
                  go_ret
                  exact ⟨rfl, XZ.nw.bx.below⟩
              · have hsp := spanR_clash He'.out hs' Ht1.out Ht2.out
                rw [hsp]
                have hless := more_clash He.out He'.out Hs.out hs' (r := ⟨f, g, mm⟩) (by simp; exact Hf.out) (by simp; exact Hgg.out)
                simp only [Int.toNat_natCast] at hless
                rw [Hn0.out] at hless
                have dm : decide (mm < n0) = true := decide_eq_true hless
                have hcl : clashM T (rs ++ [⟨f, g, mm⟩]) = true := clash_yes He'.out hs'
                clear hsp hless hs'
                have y0 := X10.y.c0
                have y1 := X10.y.c1
                have hlt := X10.y.hi
                go_wp2_with fail
                have X11 := X10.next (below_alloc_ _ (.cells #[.int .i64 0, .int .i64 0] 43))
                obtain ⟨w11, hw11⟩ : ∃ w11, w10.alloc (.cells #[.int .i64 0, .int .i64 0] 43) = w11 := ⟨_, rfl⟩
                rw [hw11] at X11 ⊢
                clear X10 hw11 y0 y1 hlt
                refine (clashes28 A2 (n + 1) cap2 T (rs ++ [⟨f, g, mm⟩]) _ X11.y.rules He'.out).mono ?_
                rintro e w12 ⟨rfl, hb⟩
                have X12 := X11.next hb
                clear X11 hb
                rw [hcl]
                clear hcl
                obtain ⟨m0, m1, m2⟩ := X12.nw.m 0
                go_wp2_with fail
                refine (HW.out _).mono ?_
                rintro e wz ⟨rfl, hb⟩
                have XZ := X12.next hb
                clear hb
                go_wp2_with fail
                go_ret
                exact ⟨rfl, XZ.nw.bx.below⟩
        · have he2 : (chk T (rs ++ [r]) != 0) = true := by rw [bne_iff_ne]; exact he'
          clear he he' hc h70
          go_wp2_with fail
          refine (HW.out _).mono ?_
          rintro e wz ⟨rfl, hb⟩
          have XZ := X4.next hb
          clear hb
          go_wp2_with fail
          go_ret
          exact ⟨rfl, XZ.nw.bx.below⟩
end Go.Proofs.Ytiankphkemakeaa

