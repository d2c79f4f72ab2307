/- Stage 2: ranging over a set of pairs. -/
import Derived.Test.YtfmcfalghbaanaaSet
namespace Go.Proofs.Ytfmcfalghbaanaa
set_option linter.unusedSimpArgs false
set_option linter.unusedVariables false
open Go.RowKit Go.Shelf Go.WideMaps Go.MapKept
open Go.Maps (Keyed)

/-- A range over a map of pairs is under way: b: what is there; l: what is still to come. -/
def PRng (W : World) (M r nn : Nat) (b l : Nat → Nat → Bool) (cnt : Nat) : Prop :=
  ∃ D left, W.ranges Try.prog 57 (plainElem Try.prog 4) M r nn D left cnt ∧ PD D b ∧ (∀ x y, x < 16 → y < 16 → left (klP Try.prog x y) = l x y) ∧ (∀ kl, left kl = true → ∃ x y, x < 16 ∧ y < 16 ∧ kl = klP Try.prog x y)
theorem PRng.lt {W : World} {M r nn cnt : Nat} {b l : Nat → Nat → Bool} (h : PRng W M r nn b l cnt) : M < W.heap.size ∧ r < W.heap.size ∧ r ≠ M := by
  obtain ⟨D, left, h1, _⟩ := h
  exact ⟨h1.owns.lt, h1.lt, h1.ne⟩
theorem PRng.left_eq {W : World} {M r nn cnt : Nat} {b l : Nat → Nat → Bool} (h : PRng W M r nn b l cnt) : W.rangeLeft M r = cnt := by
  obtain ⟨D, left, h1, _⟩ := h
  exact h1.left_eq
theorem PRng.owns {W : World} {M r nn cnt : Nat} {b l : Nat → Nat → Bool} (h : PRng W M r nn b l cnt) : PSet W M nn b := by
  obtain ⟨D, left, h1, h2, _⟩ := h
  exact ⟨D, h1.owns, h2⟩
theorem PRng.keep {W W' : World} {M r nn cnt : Nat} {b l : Nat → Nat → Bool} {Mut : Nat → Prop} (h : PRng W M r nn b l cnt) (hK : Keeps Mut W W') (hm : ¬ Mut M) (hr : ¬ Mut r) : PRng W' M r nn b l cnt := by
  obtain ⟨D, left, h1, h2⟩ := h
  have hlt := h1.owns.lt
  have hlr := h1.lt
  obtain ⟨es, clock, since, seen, c0, hb, F, hs, hD, hrr, rest⟩ := h1
  exact ⟨D, left, ⟨es, clock, since, seen, c0, (hK.block M hlt hm).trans hb, F, hs, hD, (hK.block r hlr hr).trans hrr, rest⟩, h2⟩
set_option maxRecDepth 100000 in
theorem PSet.range {W : World} {M nn : Nat} {b : Nat → Nat → Bool} (h : PSet W M nn b) :
    ∃ W' cnt, (Instr.range 97 (.map (some M))).run Try.prog W = .ok (.pointer (some ⟨W.heap.size, 0, none⟩)) W' ∧ PRng W' M W.heap.size nn b b cnt ∧ Keeps (fun _ => False) W W' ∧ W'.heap.size = W.heap.size + 1 := by
  obtain ⟨D, hown, hD⟩ := h
  obtain ⟨W', h1, h2, h3, h4⟩ := hown.range key57 Try.underlying97
  exact ⟨W', _, h1, ⟨D, _, h2, hD, fun x y hx hy => (hD.1 x y hx hy).1, hD.2⟩, Keeps.of_grown h3 (fun r e => by cases e), h4⟩
def lessP (l : Nat → Nat → Bool) (x y : Nat) : Nat → Nat → Bool := fun i j => l i j && !(decide (i = x) && decide (j = y))
set_option maxRecDepth 100000 in
theorem less_left {left : Lit → Bool} {l : Nat → Nat → Bool} (h : ∀ x y, x < 16 → y < 16 → left (klP Try.prog x y) = l x y) {x y : Nat} (hx : x < 16) (hy : y < 16) :
    ∀ i j, i < 16 → j < 16 → (left (klP Try.prog i j) && !(klP Try.prog i j).sameKey (klP Try.prog x y)) = lessP l x y i j := by
  intro i j hi hj
  unfold lessP
  rw [h i j hi hj]
  congr 2
  by_cases e : i = x ∧ j = y
  · obtain ⟨rfl, rfl⟩ := e
    have hk := klP_lit hi hj
    obtain ⟨kl, hkl⟩ : ∃ kl, klP Try.prog i j = kl := ⟨_, rfl⟩
    rw [hkl] at hk ⊢
    rw [WideAt.sameKey_self hk]
    simp
  · have hne : klP Try.prog i j ≠ klP Try.prog x y := fun h => e (klP_inj hi hj hx hy h)
    rw [Maps.sameKey_ne hne]
    symm
    rw [Bool.and_eq_false_iff, decide_eq_false_iff_not, decide_eq_false_iff_not]
    by_cases h3 : i = x
    · exact .inr (fun h4 => e ⟨h3, h4⟩)
    · exact .inl h3
theorem code_parts (x : Nat) : ∃ (p : Nat) (t : Bool), x / 2 = p ∧ decide (x % 2 = 1) = t ∧ x = if t then 2 * p + 1 else 2 * p := by
  refine ⟨x / 2, decide (x % 2 = 1), rfl, rfl, ?_⟩
  by_cases h : x % 2 = 1
  · rw [decide_eq_true h, if_pos rfl]; omega
  · rw [decide_eq_false h, if_neg (by simp)]; omega
set_option maxRecDepth 100000 in
/-- The range's next step. -/
theorem PRng.next {W : World} {M r nn cnt : Nat} {b l : Nat → Nat → Bool} (h : PRng W M r nn b l cnt) (ty : TypeId) :
    ((∀ x y, x < 16 → y < 16 → l x y = false) ∧ (Instr.next (.pointer (some ⟨r, 0, none⟩)) false ty).run Try.prog W = .ok (.tuple #[.bool false]) W) ∨
    ∃ (x y p q : Nat) (t u : Bool) (v : Value) (W' : World) (cnt' : Nat), x < 16 ∧ y < 16 ∧ (x = if t then 2 * p + 1 else 2 * p) ∧ (y = if u then 2 * q + 1 else 2 * q) ∧ l x y = true ∧
      (Instr.next (.pointer (some ⟨r, 0, none⟩)) false ty).run Try.prog W = .ok (.tuple #[.bool true, .agg #[.int .i64 (p : Int), .bool t, .int .i64 (q : Int), .bool u], v]) W' ∧
      PRng W' M r nn b (lessP l x y) cnt' ∧ cnt' < cnt ∧ Keeps (fun j => j = r) W W' ∧ (Instr.entry (.pointer (some ⟨r, 0, none⟩))).run Try.prog W' = .ok (.tuple #[.agg #[.int .i64 (p : Int), .bool t, .int .i64 (q : Int), .bool u], v]) W' := by
  obtain ⟨D, left, h1, h2, h3, h4⟩ := h
  rcases h1.next key57 ty with ⟨_, h5, h6⟩ | ⟨key, v, kl, z, W', cnt', h5, h6, _, _, h7, h8, h9, h10, _, h11⟩
  · exact .inl ⟨fun x y hx hy => by rw [← h3 x y hx hy]; exact h5 _, h6⟩
  · obtain ⟨x, y, hx, hy, rfl⟩ := h4 kl h6
    have hkey := key57.inj h5 (klP_key hx hy)
    subst hkey
    obtain ⟨p, t, hp, ht, hx2⟩ := code_parts x
    obtain ⟨q, u, hq, hu, hy2⟩ := code_parts y
    rw [hp, ht, hq, hu] at h7 h11
    refine .inr ⟨x, y, p, q, t, u, v, W', cnt', hx, hy, hx2, hy2, by rw [← h3 x y hx hy]; exact h6, h7, ⟨D, _, h8, h2, less_left h3 hx hy, fun k2 hk2 => h4 k2 (Bool.and_eq_true_iff.1 hk2).1⟩, h9, Keeps.of_grown h10 (fun r e => by cases e; rfl), h11⟩
set_option maxRecDepth 100000 in
/-- A pair is deleted. -/
theorem PRng.drop {W : World} {M r nn cnt : Nat} {b l : Nat → Nat → Bool} (h : PRng W M r nn b l cnt) {p q x y : Nat} {t u : Bool} (hx : x = if t then 2 * p + 1 else 2 * p) (hy : y = if u then 2 * q + 1 else 2 * q) (hx16 : x < 16) (hy16 : y < 16) (ty : TypeId) :
    ∃ W' cnt', (Builtin.delete_ #[97, 57] ty #[.map (some M), .agg #[.int .i64 (p : Int), .bool t, .int .i64 (q : Int), .bool u]]).run Try.prog W = .ok (.tuple #[]) W' ∧ PRng W' M r nn (lessP b x y) (lessP l x y) cnt' ∧ cnt' ≤ cnt ∧ Keeps (fun j => j = M) W W' := by
  obtain ⟨D, left, h1, h2, h3, h4⟩ := h
  obtain ⟨W', cnt', h5, h6, h7, h8⟩ := h1.drop key57 Try.underlying97 (keyQ_some (p := p) (q := q) (by cases t <;> simp at hx <;> omega) (by cases u <;> simp at hy <;> omega) t u) ty
  rw [← klP_form hx hy] at h6
  exact ⟨W', cnt', h5, ⟨_, _, h6, h2.del hx16 hy16, less_left h3 hx16 hy16, fun k2 hk2 => h4 k2 (Bool.and_eq_true_iff.1 hk2).1⟩, h7, Keeps.of_grown h8.grown (fun r e => by cases e; rfl)⟩
end Go.Proofs.Ytfmcfalghbaanaa
