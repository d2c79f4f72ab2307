/- Stage 4: Climb. -/
import Derived.Test.YthdjbapidodlfaaNl
import Derived.Test.YthdjbapidodlfaaAll
import Derived.Deep.RegionHeld3
namespace Go.Proofs.Ythdjbapidodlfaa
set_option linter.unusedSimpArgs false
set_option linter.unusedVariables false
open Go.RowKit Go.Shelf
/-- A row of matches that is built (its block is M or behind it) of matches that lie elsewhere (before N0). -/
def Cho (M N0 : Nat) (W : World) (v : Value) (q : List (List Int)) : Prop :=
  ∃ cs : List Value, W.ownsRow 0 40 1 v q.length cs ∧ (∀ g, v.ownBlock = some g → M ≤ g) ∧ ∀ j, j < q.length → ∃ C cap, cs[j]? = some (.slice C (lAt q j).length cap) ∧ (lAt q j).length ≤ cap ∧ Ints W C (lAt q j).length (lAt q j) ∧
    ∀ b o, C = some ⟨b, o, none⟩ → b < N0
theorem Cho.nil (M N0 : Nat) (W : World) : Cho M N0 W (.slice none 0 0) [] := ⟨[], ⟨rfl, .inl ⟨rfl, rfl⟩⟩, fun g e => (by cases e), fun j hj => by simp at hj⟩
theorem Cho.below {M N0 : Nat} {W W' : World} {v : Value} {q : List (List Int)} (h : Cho M N0 W v q) (hb : Below W.heap.size W W') : Cho M N0 W' v q := by
  obtain ⟨cs, h1, h2, h3⟩ := h
  refine ⟨cs, own_keep h1 (Keeps.of_new hb (Mut := fun _ => False)) (fun _ _ e => e), h2, fun j hj => ?_⟩
  obtain ⟨C, cap, q1, q2, q3, q4⟩ := h3 j hj
  exact ⟨C, cap, q1, q2, q3.below hb (Nat.le_refl _), q4⟩
theorem Cho.open {M N0 : Nat} {W : World} {v : Value} {q : List (List Int)} (h : Cho M N0 W v q) : ∃ C cap, v = .slice C q.length cap ∧ q.length ≤ cap ∧ Lns W C q.length q ∧
    (0 < q.length → ∃ b, C = some ⟨b, 0, none⟩ ∧ ∀ j, j < q.length → ∃ C' c', W.cell? ⟨b, 0 + j, none⟩ = some (.slice C' (lAt q j).length c') ∧ Ints W C' (lAt q j).length (lAt q j) ∧ (lAt q j).length ≤ c' ∧ ∀ b' o', C' = some ⟨b', o', none⟩ → b' < N0) := by
  obtain ⟨cs, ho, _, hr⟩ := h
  rcases ho.2 with ⟨rfl, h0⟩ | ⟨g, cap, cur, rfl, hb, hg, hc, _, hsz, htake⟩
  · rw [h0]
    exact ⟨none, 0, rfl, Nat.le_refl _, ⟨h0, fun h => absurd h (by omega)⟩, fun h => absurd h (by omega)⟩
  · have key : ∀ j, j < q.length → ∃ C' c', W.cell? ⟨g, 0 + j, none⟩ = some (.slice C' (lAt q j).length c') ∧ Ints W C' (lAt q j).length (lAt q j) ∧ (lAt q j).length ≤ c' ∧ ∀ b' o', C' = some ⟨b', o', none⟩ → b' < N0 := by
      intro j hj
      obtain ⟨C, c, q1, q2, q3, q4⟩ := hr j hj
      refine ⟨C, c, ?_, q3, q2, q4⟩
      have hcell := ho.cells (g := g) rfl j _ q1
      rw [Addr.add_lit] at hcell
      exact hcell
    refine ⟨_, cap, rfl, hc, ⟨rfl, fun _ => ⟨g, 0, rfl, fun j hj => ?_⟩⟩, fun _ => ⟨g, rfl, key⟩⟩
    obtain ⟨C', c', q1, q2, q3, _⟩ := key j hj
    exact ⟨C', c', q1, q2, q3⟩
theorem Cho.snoc {M N0 cap : Nat} {W : World} {v : Value} {q : List (List Int)} {C : Option Addr} {y : List Int} (h : Cho M N0 W v q) (hq : Ints W C y.length y) (hC : ∀ b o, C = some ⟨b, o, none⟩ → b < N0) (hcap : y.length ≤ cap) (hn : q.length ≤ 10000) (hM : M ≤ W.heap.size) (hNM : N0 ≤ M) :
    ∃ C' c' W', runA Try.prog 31 v (.slice (some ⟨W.heap.size, 0, none⟩) 1 1) (W.alloc (.cells #[.slice C y.length cap] 40)) = .ok (.value (.slice C' (q.length + 1) c')) W' ∧ Cho M N0 W' (.slice C' (q.length + 1) c') (q ++ [y]) ∧ Below M W W' := by
  have hb0 := below_alloc_ W (.cells #[.slice C y.length cap] 40)
  obtain ⟨cs, h1, h2, h3⟩ := h.below hb0
  obtain ⟨v', W', a1, a2, a3, a4⟩ := app_one (n := q.length) Try.underlying31 info40_ rfl (by omega) (by omega) h1 (vals := [.slice C y.length cap]) rfl (heap_alloc_new_ W (.cells #[.slice C y.length cap] 40)) (by simp [Value.oneCell']) (by omega)
  have hbM : Below M W W' := (hb0.mono hM).trans (a3.below (Nat.le_trans hM hb0.size) (fun k hk e => by have := h2 k e; omega))
  have hI : ∀ {C' : Option Addr} {u : List Int}, Ints (W.alloc (.cells #[.slice C y.length cap] 40)) C' u.length u → (∀ b o, C' = some ⟨b, o, none⟩ → b < N0) → Ints W' C' u.length u := fun hi hl => hi.keep a3 (fun b o e e' => by have := hl b o e; have := h2 b e'; omega)
  have a2' : W'.ownsRow 0 40 1 v' (q ++ [y]).length (cs ++ [.slice C y.length cap]) := by rw [List.length_append]; exact a2
  have hcl : cs.length = q.length := by have := h1.1; omega
  have hch : Cho M N0 W' v' (q ++ [y]) := by
    refine ⟨_, a2', fun g e => ?_, fun j hj => ?_⟩
    · rcases a4 with a4 | ⟨a4, _⟩
      · exact h2 g (by rw [← a4]; exact e)
      · rw [a4] at e; cases e; exact Nat.le_trans hM hb0.size
    · rw [List.length_append] at hj
      simp only [List.length_cons, List.length_nil] at hj
      rcases Nat.lt_or_ge j q.length with hjq | hjq
      · obtain ⟨C', c', p1, p2, p3, p4⟩ := h3 j hjq
        have e1 : lAt (q ++ [y]) j = lAt q j := by
          unfold lAt
          rw [List.getD_eq_getElem?_getD, List.getElem?_append_left hjq, ← List.getD_eq_getElem?_getD]
        rw [e1]
        exact ⟨C', c', by rw [List.getElem?_append_left (by omega)]; exact p1, p2, hI p3 p4, p4⟩
      · obtain rfl : j = q.length := by omega
        have e1 : lAt (q ++ [y]) q.length = y := by
          unfold lAt
          rw [List.getD_eq_getElem?_getD, List.getElem?_append_right (Nat.le_refl _)]
          simp
        rw [e1]
        exact ⟨C, cap, by rw [List.getElem?_append_right (by omega), hcl]; simp, hcap, hI (hq.below hb0 (Nat.le_refl _)) hC, hC⟩
  rcases a2.2 with ⟨_, e⟩ | ⟨g, cp, cur, rfl, _⟩
  · omega
  · exact ⟨_, _, W', run_app a1, hch, hbM⟩
/-- A passage of matches out of l. -/
def ChQ (l : List (List Int)) (m : Nat) (q : List (List Int)) : Prop := (∀ j, j < q.length → lAt q j ∈ l) ∧ ∀ j, j + 1 < q.length → befB (lAt q j) (lAt q (j + 1)) m = true
theorem lAt_snoc {q : List (List Int)} {y : List Int} (j : Nat) : lAt (q ++ [y]) j = if j < q.length then lAt q j else if j = q.length then y else [] := by
  unfold lAt
  rw [List.getD_eq_getElem?_getD]
  by_cases h : j < q.length
  · rw [if_pos h, List.getElem?_append_left h, List.getD_eq_getElem?_getD]
  · rw [if_neg h, List.getElem?_append_right (by omega)]
    by_cases e : j = q.length
    · subst e; simp
    · rw [if_neg e, List.getElem?_eq_none (by simp; omega)]; rfl
theorem ChQ.snoc {l : List (List Int)} {m : Nat} {q : List (List Int)} {y : List Int} (h : ChQ l m q) (hy : y ∈ l) (hb : 0 < q.length → befB (lAt q (q.length - 1)) y m = true) : ChQ l m (q ++ [y]) := by
  refine ⟨fun j hj => ?_, fun j hj => ?_⟩
  · rw [lAt_snoc]
    rw [List.length_append] at hj
    simp only [List.length_cons, List.length_nil] at hj
    split
    · rename_i h1; exact h.1 j h1
    · rw [if_pos (by omega)]; exact hy
  · rw [List.length_append] at hj
    simp only [List.length_cons, List.length_nil] at hj
    rw [lAt_snoc, lAt_snoc, if_pos (show j < q.length by omega)]
    split
    · rename_i h1; exact h.2 j h1
    · rw [if_pos (by omega)]
      have := hb (by omega)
      rwa [show q.length - 1 = j by omega] at this
theorem ChQ.len {l : List (List Int)} {m : Nat} {q : List (List Int)} (h : ChQ l m q) (hm : 1 ≤ m) (hl : ∀ y ∈ l, 0 ≤ iAt y 0 ∧ iAt y 0 ≤ 8) : q.length ≤ 9 := by
  have key : ∀ j, j < q.length → (j : Int) ≤ iAt (lAt q j) 0 := by
    intro j
    induction j with
    | zero => intro hj; have := hl _ (h.1 0 hj); omega
    | succ j ih =>
      intro hj
      have h1 := ih (by omega)
      have h2 := befB_iff.1 (h.2 j hj) 0 (by omega)
      omega
  rcases Nat.lt_or_ge 9 q.length with hq | hq
  · have h1 := key 9 hq
    have h2 := hl _ (h.1 9 hq)
    omega
  · exact hq
section
attribute [local go_sem ↓] exec_app at_app
attribute [local go_sem] Oper.semAt_some
end
end Go.Proofs.Ythdjbapidodlfaa
