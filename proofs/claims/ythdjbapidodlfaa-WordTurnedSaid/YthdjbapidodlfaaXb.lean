/- Stage 4: two lists of lines that are built side by side (WordTurned). -/
import Derived.Test.YthdjbapidodlfaaApm
import Derived.Test.YthdjbapidodlfaaTum
namespace Go.Proofs.Ythdjbapidodlfaa
set_option linter.unusedSimpArgs false
set_option linter.unusedVariables false
open Go.RowKit Go.Shelf
/-- A row of lines that is built, with its rows, in the blocks of Z. -/
def XB (W : World) (Z : Nat → Prop) (v : Value) (ls : List (List Int)) : Prop :=
  ∃ cs : List Value, W.ownsRow 0 38 1 v ls.length cs ∧ (∀ g, v.ownBlock = some g → Z g) ∧ ∀ j, j < ls.length → ∃ C cap, cs[j]? = some (.slice C (lAt ls j).length cap) ∧ (lAt ls j).length ≤ cap ∧ Ints W C (lAt ls j).length (lAt ls j) ∧
    ∀ b o, C = some ⟨b, o, none⟩ → Z b ∧ v.ownBlock ≠ some b
theorem XB.nil (Z : Nat → Prop) (W : World) : XB W Z (.slice none 0 0) [] := ⟨[], ⟨rfl, .inl ⟨rfl, rfl⟩⟩, fun g e => (by cases e), fun j hj => by simp at hj⟩
theorem XB.keep {Z : Nat → Prop} {W W' : World} {v : Value} {ls : List (List Int)} {Mut : Nat → Prop} (h : XB W Z v ls) (hK : Keeps Mut W W') (hm : ∀ k, Z k → ¬ Mut k) : XB W' Z v ls := by
  obtain ⟨cs, h1, h2, h3⟩ := h
  refine ⟨cs, own_keep h1 hK (fun g e => hm g (h2 g e)), h2, fun j hj => ?_⟩
  obtain ⟨C, cap, q1, q2, q3, q4⟩ := h3 j hj
  exact ⟨C, cap, q1, q2, q3.keep hK (fun b o e => hm b (q4 b o e).1), q4⟩
theorem XB.snoc {B0 cap : Nat} {Z : Nat → Prop} {W : World} {v : Value} {ls : List (List Int)} {C : Option Addr} {q : List Int} (h : XB W Z v ls) (hZ : ∀ k, Z k → k < B0) (hq : Ints W C q.length q) (hC : ∀ b o, C = some ⟨b, o, none⟩ → B0 ≤ b ∧ b < W.heap.size) (hcap : q.length ≤ cap) (hn : ls.length ≤ 1000) (hB : B0 ≤ W.heap.size) :
    ∃ C' c' W', runA Try.prog 25 v (.slice (some ⟨W.heap.size, 0, none⟩) 1 1) (W.alloc (.cells #[.slice C q.length cap] 38)) = .ok (.value (.slice C' (ls.length + 1) c')) W' ∧ XB W' (fun k => Z k ∨ (B0 ≤ k ∧ k < W'.heap.size)) (.slice C' (ls.length + 1) c') (ls ++ [q]) ∧ Keeps Z W W' := by
  obtain ⟨cs, g1, g2, g3⟩ := h
  have hbT := below_alloc_ W (.cells #[.slice C q.length cap] 38)
  have hrT := heap_alloc_new_ W (.cells #[.slice C q.length cap] 38)
  have hkT := Keeps.of_new (Mut := fun _ => False) hbT
  have hsT : (W.alloc (.cells #[.slice C q.length cap] 38)).heap.size = W.heap.size + 1 := by simp
  obtain ⟨v', W', r2, o3, k2, d2⟩ := app_own (c2 := 1) (A2 := some ⟨W.heap.size, 0, none⟩) (m := 1) (news := [.slice C q.length cap]) Try.underlying25 info38_ rfl (by omega) (by omega) (own_keep g1 hkT (fun _ _ e => e)) rfl (fun _ => ⟨W.heap.size, 0, rfl, fun j u hj => by
    obtain ⟨hjl, e⟩ := List.getElem?_eq_some_iff.1 hj
    obtain rfl : j = 0 := by simpa using hjl
    rw [← e, cell_row hrT]
    rfl⟩) (fun u hu => by rw [List.mem_singleton.1 hu]; rfl) (by omega)
  obtain ⟨C', c', rfl⟩ : ∃ C' c', v' = .slice C' (ls.length + 1) c' := by
    rcases o3.2 with ⟨e, e2⟩ | ⟨g, cp, cur, e, _⟩
    · omega
    · exact ⟨_, _, e⟩
  have hlen : cs.length = ls.length := by have := g1.1; omega
  have hs2 := k2.size
  have hown' : ∀ g, (Value.slice C' (ls.length + 1) c').ownBlock = some g → v.ownBlock = some g ∨ g = W.heap.size + 1 ∧ g < W'.heap.size := fun g e => by
    rcases d2 with e' | e'
    · rw [e'] at e; exact .inl e
    · have h9 := own_lt o3 g e
      rw [e'] at e
      have := Option.some.inj e
      exact .inr ⟨by omega, h9⟩
  have hkW : Keeps Z W W' := hkT.none.trans (k2.mono (fun k _ e => g2 k e))
  refine ⟨C', c', W', r2, ⟨cs ++ [.slice C q.length cap], by rw [List.length_append]; exact o3, fun g e => ?_, fun j hj => ?_⟩, hkW⟩
  · rcases hown' g e with e | ⟨e, e2⟩
    · exact .inl (g2 g e)
    · exact .inr ⟨by omega, e2⟩
  · have hnew : ∀ b : Nat, b < W.heap.size → v.ownBlock ≠ some b → (Value.slice C' (ls.length + 1) c').ownBlock ≠ some b := fun b hb hv e => by
      rcases hown' b e with e | ⟨e, _⟩
      · exact hv e
      · omega
    rcases Nat.lt_or_ge j ls.length with hjl | hjl
    · obtain ⟨Y, cp, q1, q2, q3, q4⟩ := g3 j hjl
      have e1 : lAt (ls ++ [q]) j = lAt ls j := by rw [lAt_app rfl, if_pos hjl]
      rw [e1]
      refine ⟨Y, cp, by rw [List.getElem?_append_left (by omega)]; exact q1, q2, (q3.keep hkT (fun _ _ _ e => e)).keep k2 (fun b o e => (q4 b o e).2), fun b o e => ?_⟩
      obtain ⟨s1, s2⟩ := q4 b o e
      have := hZ b s1
      exact ⟨.inl s1, hnew b (by omega) s2⟩
    · have hje : j = ls.length := by simp at hj; omega
      subst hje
      have e1 : lAt (ls ++ [q]) ls.length = q := by rw [lAt_app rfl, if_neg (Nat.lt_irrefl _), if_pos rfl]
      rw [e1]
      have hne : ∀ b o, C = some ⟨b, o, none⟩ → v.ownBlock ≠ some b := fun b o e e2 => by have := hZ b (g2 b e2); have := (hC b o e).1; omega
      refine ⟨C, cap, by rw [List.getElem?_append_right (by omega), hlen]; simp, hcap, (hq.keep hkT (fun _ _ _ e => e)).keep k2 (fun b o e => hne b o e), fun b o e => ?_⟩
      have := hC b o e
      exact ⟨.inr ⟨this.1, by omega⟩, hnew b this.2 (hne b o e)⟩
theorem XB.lns {Z : Nat → Prop} {W : World} {v : Value} {ls : List (List Int)} (h : XB W Z v ls) : ∃ C cap, v = .slice C ls.length cap ∧ ls.length ≤ cap ∧ Lns W C ls.length ls := by
  obtain ⟨cs, ho, _, hr⟩ := h
  have hlen : cs.length = ls.length := by have := ho.1; omega
  obtain ⟨C, cap, a, b, c, _⟩ := lns_own ho ⟨hlen, fun j hj => by obtain ⟨C, cap, q1, q2, q3, _⟩ := hr j hj; exact ⟨C, cap, q1, q3, q2⟩⟩ rfl
  exact ⟨C, cap, a, b, c⟩
/-- A row of lines that lie elsewhere. -/
def YB (w0 W : World) (v : Value) (ks : List (List Int)) : Prop := ∃ vs, W.ownsRow 0 38 1 v ks.length vs ∧ RwV w0 ks vs
theorem YB.nil (w0 W : World) : YB w0 W (.slice none 0 0) [] := ⟨[], ⟨rfl, .inl ⟨rfl, rfl⟩⟩, rfl, fun j hj => by simp at hj⟩
theorem YB.keep {w0 W W' : World} {v : Value} {ks : List (List Int)} {Mut : Nat → Prop} (h : YB w0 W v ks) (hK : Keeps Mut W W') (hm : ∀ k, v.ownBlock = some k → ¬ Mut k) : YB w0 W' v ks := by
  obtain ⟨vs, h1, h2⟩ := h
  exact ⟨vs, own_keep h1 hK hm, h2⟩
theorem YB.snoc {w0 W : World} {v : Value} {ks : List (List Int)} {C : Option Addr} {q : List Int} {cap : Nat} (h : YB w0 W v ks) (hq : Ints w0 C q.length q) (hc : q.length ≤ cap) (hn : ks.length ≤ 1000) :
    ∃ C' c' W', runA Try.prog 25 v (.slice (some ⟨W.heap.size, 0, none⟩) 1 1) (W.alloc (.cells #[.slice C q.length cap] 38)) = .ok (.value (.slice C' (ks.length + 1) c')) W' ∧ YB w0 W' (.slice C' (ks.length + 1) c') (ks ++ [q]) ∧ Keeps (fun k => v.ownBlock = some k) W W' ∧
      ∀ g, (Value.slice C' (ks.length + 1) c').ownBlock = some g → v.ownBlock = some g ∨ W.heap.size ≤ g := by
  obtain ⟨vs, g1, g2⟩ := h
  have hbT := below_alloc_ W (.cells #[.slice C q.length cap] 38)
  have hrT := heap_alloc_new_ W (.cells #[.slice C q.length cap] 38)
  have hkT := Keeps.of_new (Mut := fun _ => False) hbT
  have hsT : (W.alloc (.cells #[.slice C q.length cap] 38)).heap.size = W.heap.size + 1 := by simp
  obtain ⟨v', W', r2, o3, k2, d2⟩ := app_own (c2 := 1) (A2 := some ⟨W.heap.size, 0, none⟩) (m := 1) (news := [.slice C q.length cap]) Try.underlying25 info38_ rfl (by omega) (by omega) (own_keep g1 hkT (fun _ _ e => e)) rfl (fun _ => ⟨W.heap.size, 0, rfl, fun j u hj => by
    obtain ⟨hjl, e⟩ := List.getElem?_eq_some_iff.1 hj
    obtain rfl : j = 0 := by simpa using hjl
    rw [← e, cell_row hrT]
    rfl⟩) (fun u hu => by rw [List.mem_singleton.1 hu]; rfl) (by omega)
  obtain ⟨C', c', rfl⟩ : ∃ C' c', v' = .slice C' (ks.length + 1) c' := by
    rcases o3.2 with ⟨e, e2⟩ | ⟨g, cp, cur, e, _⟩
    · omega
    · exact ⟨_, _, e⟩
  refine ⟨C', c', W', r2, ⟨_, by rw [List.length_append]; exact o3, rwv_snoc g2 hq hc⟩, hkT.none.trans k2, fun g e => ?_⟩
  rcases d2 with e' | e'
  · rw [e'] at e; exact .inl e
  · rw [e'] at e
    have := Option.some.inj e
    exact .inr (by omega)
theorem YB.lns {w0 W : World} {v : Value} {ks : List (List Int)} (h : YB w0 W v ks) (hb : Below w0.heap.size w0 W) : ∃ C cap, v = .slice C ks.length cap ∧ ks.length ≤ cap ∧ Lns W C ks.length ks := by
  obtain ⟨vs, h1, h2⟩ := h
  obtain ⟨C, cap, a, b, c, _⟩ := lns_own h1 (h2.below hb (Nat.le_refl _)) rfl
  exact ⟨C, cap, a, b, c⟩
/-- Lines read from their ends; hearers that changed their places. -/
def reL (L : List (List Int)) (j : Nat) : List (List Int) := (List.range j).map fun i => (lAt L i).reverse
def roL (L : List (List Int)) (m t j : Nat) : List (List Int) := (List.range j).map fun i => lAt L ((i + t) % m)
theorem reL_succ (L : List (List Int)) (j : Nat) : reL L (j + 1) = reL L j ++ [(lAt L j).reverse] := by simp [reL, List.range_succ]
theorem roL_succ (L : List (List Int)) (m t j : Nat) : roL L m t (j + 1) = roL L m t j ++ [lAt L ((j + t) % m)] := by simp [roL, List.range_succ]
theorem reL_len (L : List (List Int)) (j : Nat) : (reL L j).length = j := by simp [reL]
theorem roL_len (L : List (List Int)) (m t j : Nat) : (roL L m t j).length = j := by simp [roL]
theorem reL_at (L : List (List Int)) {m j : Nat} (h : j < m) : lAt (reL L m) j = (lAt L j).reverse := by rw [lAt_eq (by rw [reL_len]; exact h)]; simp [reL]
theorem roL_at (L : List (List Int)) {m t j : Nat} (h : j < m) : lAt (roL L m t m) j = lAt L ((j + t) % m) := by rw [lAt_eq (by rw [roL_len]; exact h)]; simp [roL]
theorem chk_map {zs : List Rg} {L L' : List (List Int)} (h : chkL zs L = 0) (hl : L'.length = L.length) (hm : ∀ x ∈ L', ∃ y ∈ L, x.length = y.length ∧ ∀ u ∈ x, u ∈ y) : chkL zs L' = 0 := by
  obtain ⟨h1, h2, h3, h4, h5⟩ := chkL_zero.1 h
  refine chkL_zero.2 ⟨h1, by omega, by omega, ?_, ?_⟩
  · rw [List.all_eq_true] at h4 ⊢
    intro x hx
    obtain ⟨y, hy, e, _⟩ := hm x hx
    have := h4 y hy
    unfold le8 at this ⊢
    rw [e]; exact this
  · rw [List.all_eq_true] at h5 ⊢
    intro x hx
    obtain ⟨y, hy, _, e⟩ := hm x hx
    have := h5 y hy
    unfold withI at this ⊢
    rw [List.all_eq_true] at this ⊢
    exact fun u hu => this u (e u hu)
theorem reL_chk {zs : List Rg} {L : List (List Int)} {m : Nat} (h : chkL zs L = 0) (hl : L.length = m) : chkL zs (reL L m) = 0 := by
  refine chk_map h (by rw [reL_len, hl]) fun x hx => ?_
  obtain ⟨i, hi, rfl⟩ := List.mem_map.1 hx
  rw [List.mem_range] at hi
  refine ⟨lAt L i, by rw [lAt_eq (by omega)]; exact List.getElem_mem _, List.length_reverse .., fun u hu => List.mem_reverse.1 hu⟩
theorem roL_chk {zs : List Rg} {L : List (List Int)} {m t : Nat} (h : chkL zs L = 0) (hl : L.length = m) (h0 : 0 < m) : chkL zs (roL L m t m) = 0 := by
  refine chk_map h (by rw [roL_len, hl]) fun x hx => ?_
  obtain ⟨i, hi, rfl⟩ := List.mem_map.1 hx
  have := Nat.mod_lt (i + t) h0
  exact ⟨_, by rw [lAt_eq (by omega)]; exact List.getElem_mem _, rfl, fun u hu => hu⟩
/-- Both lists while they are built: i lines of the one, j of the other one. -/
def XY (W0 W : World) (L : List (List Int)) (m t i j : Nat) (x y : Value) : Prop := ∃ Z : Nat → Prop, XB W Z x (reL L i) ∧ YB W0 W y (roL L m t j) ∧ (∀ k, Z k → W0.heap.size ≤ k ∧ k < W.heap.size) ∧ (∀ g, y.ownBlock = some g → W0.heap.size ≤ g ∧ ¬ Z g) ∧ Below W0.heap.size W0 W
theorem XY.nil (W : World) (L : List (List Int)) (m t : Nat) : XY W W L m t 0 0 (.slice none 0 0) (.slice none 0 0) :=
  ⟨fun _ => False, XB.nil _ _, YB.nil _ _, fun k h => h.elim, fun g e => (by cases e), Below.refl _ _⟩
theorem XY.below {W0 W : World} {L : List (List Int)} {m t i j : Nat} {x y : Value} (h : XY W0 W L m t i j x y) : Below W0.heap.size W0 W := by
  obtain ⟨_, _, _, _, _, h⟩ := h; exact h
theorem XY.x {W0 wk ws : World} {L : List (List Int)} {m t j lj : Nat} {x y l : Value} (h : XY W0 wk L m t j j x y) (hb : Below wk.heap.size wk ws) (hl : ws.ownsRow 0 3 1 l lj (flatI (lAt L j).reverse)) (hlb : ∀ g, l.ownBlock = some g → wk.heap.size ≤ g) (hlen : (lAt L j).length = lj) (hj : j ≤ 100) :
    ∃ C c C' c' W1, l = .slice C lj c ∧ runA Try.prog 25 x (.slice (some ⟨ws.heap.size, 0, none⟩) 1 1) (ws.alloc (.cells #[.slice C lj c] 38)) = .ok (.value (.slice C' (j + 1) c')) W1 ∧ XY W0 W1 L m t (j + 1) j (.slice C' (j + 1) c') y := by
  obtain ⟨Z, hX, hY, hZ, hYb, hB⟩ := h
  have hk : Keeps (fun _ => False) wk ws := Keeps.of_new hb
  have hrl : (lAt L j).reverse.length = lj := by rw [List.length_reverse]; exact hlen
  obtain ⟨C, c, rfl, hc, hi, hC⟩ := ints_own hrl hl
  have hs := hb.size
  obtain ⟨C', c', W1, r1, x1, k1⟩ := (hX.keep hk (fun _ _ e => e)).snoc (B0 := wk.heap.size) (q := (lAt L j).reverse) (cap := c) (fun k h => (hZ k h).2) (by rw [hrl]; exact hi) (fun b o e => ⟨hlb b (hC b o e).1, own_lt hl b (hC b o e).1⟩) (by rw [hrl]; exact hc) (by rw [reL_len]; omega) hs
  rw [hrl, reL_len] at r1
  rw [reL_len, ← reL_succ] at x1
  have hYl : ∀ g, y.ownBlock = some g → g < wk.heap.size := by obtain ⟨vs, o, _⟩ := hY; exact own_lt o
  have hs1 := k1.size
  refine ⟨C, c, C', c', W1, rfl, r1, _, x1, (hY.keep hk (fun _ _ e => e)).keep k1 (fun k e => (hYb k e).2), fun k h => ?_, fun g e => ⟨(hYb g e).1, fun h => ?_⟩, hB.trans ((hb.mono hB.size).trans (k1.below (by have := hB.size; omega) (fun k hk e => by have := (hZ k e).1; omega)))⟩
  · have := hB.size
    rcases h with h | h
    · have := hZ k h; omega
    · omega
  · rcases h with h | h
    · exact (hYb g e).2 h
    · have := hYl g e; omega
theorem XY.y {W0 W : World} {L : List (List Int)} {m t j rl cr : Nat} {x y : Value} {Cr : Option Addr} (h : XY W0 W L m t (j + 1) j x y) (hq : Ints W0 Cr rl (lAt L ((j + t) % m))) (hc : rl ≤ cr) (hj : j ≤ 100) :
    ∃ C' c' W2, runA Try.prog 25 y (.slice (some ⟨W.heap.size, 0, none⟩) 1 1) (W.alloc (.cells #[.slice Cr rl cr] 38)) = .ok (.value (.slice C' (j + 1) c')) W2 ∧ XY W0 W2 L m t (j + 1) (j + 1) x (.slice C' (j + 1) c') := by
  obtain ⟨Z, hX, hY, hZ, hYb, hB⟩ := h
  have hl := hq.1
  obtain ⟨C', c', W2, r2, y2, k2, d2⟩ := hY.snoc (C := Cr) (q := lAt L ((j + t) % m)) (cap := cr) (by rw [hl]; exact hq) (by rw [hl]; exact hc) (by rw [roL_len]; omega)
  rw [hl, roL_len] at r2
  rw [roL_len, ← roL_succ] at y2
  rw [roL_len] at d2
  have hs2 := k2.size
  refine ⟨C', c', W2, r2, Z, hX.keep k2 (fun k h e => (hYb k e).2 h), y2, fun k h => ?_, fun g e => ?_, hB.trans (k2.below hB.size (fun k hk e => by have := (hYb k e).1; omega))⟩
  · have := hZ k h; omega
  · have := hB.size
    rcases d2 g e with e | e
    · exact hYb g e
    · exact ⟨by omega, fun h => by have := hZ g h; omega⟩
theorem XY.done {W0 W : World} {L : List (List Int)} {m t : Nat} {x y : Value} (h : XY W0 W L m t m m x y) : ∃ C c C' c', x = .slice C m c ∧ y = .slice C' m c' ∧ Lns W C m (reL L m) ∧ Lns W C' m (roL L m t m) ∧ Below W0.heap.size W0 W := by
  obtain ⟨Z, hX, hY, hZ, hYb, hB⟩ := h
  obtain ⟨C, c, a1, _, a3⟩ := hX.lns
  obtain ⟨C', c', b1, _, b3⟩ := hY.lns hB
  rw [reL_len] at a1 a3
  rw [roL_len] at b1 b3
  exact ⟨C, c, C', c', a1, b1, a3, b3, hB⟩
/-- What WordTurned compares. -/
theorem turn_all {zs : List Rg} {L : List (List Int)} {m t hh : Nat} (h : chkL zs L = 0) (hl : L.length = m) (hm : hh < m) :
    topK (cls (prs zs)) (reL L m) m = topK (cls (prs zs)) L m ∧ topK (cls (prs zs)) (roL L m t m) m = topK (cls (prs zs)) L m ∧
    cntS (allK (mtS (cls (prs zs)) (reL L m)) m) = cntS (allK (mtS (cls (prs zs)) L) m) ∧ cntS (allK (mtS (cls (prs zs)) (roL L m t m)) m) = cntS (allK (mtS (cls (prs zs)) L) m) ∧
    (∀ i, i < (lAt L hh).length → iAt (grS (cls (prs zs)) (reL L m) m hh) ((lAt L hh).length - 1 - i) = iAt (grS (cls (prs zs)) L m hh) i) ∧
    grS (cls (prs zs)) (roL L m t m) m ((hh + (m - t % m)) % m) = grS (cls (prs zs)) L m hh := by
  have hL := lv_of hl h
  have hx := lv_of (reL_len L m) (reL_chk h hl)
  have hy := lv_of (roL_len L m t m) (roL_chk (t := t) h hl (by omega))
  have hlo := hL.lo
  have ht : t % m < m := Nat.mod_lt _ (by omega)
  have rx : Revs L (reL L m) m := fun j hj => reL_at L hj
  have ry : Rots L (roL L m t m) m (t % m) := fun j hj => by rw [roL_at L hj, Nat.add_mod_mod]
  have gx := goes_turn (nm := cls (prs zs)) hL hx rx
  have gy := goes_rot (nm := cls (prs zs)) hL hy ht ry
  exact ⟨(gx.top hL hx).symm, (gy.top hL hy).symm, (gx.cnt hL hx).symm, (gy.cnt hL hy).symm, fun i hi => turn_grade hL hx rx hm hi, rot_grade hL hy ht ry (Nat.mod_lt _ (by omega)) (mod_back hlo hL.hi ht hm).2⟩
end Go.Proofs.Ythdjbapidodlfaa
