/- Stage 5: links that are left out: mathematics. -/
import Derived.Test.YtnodkgejggnehaaMx
import Derived.Test.YtnodkgejggnehaaFg
namespace Go.Proofs.Ytnodkgejggnehaa
set_option linter.unusedSimpArgs false
set_option linter.unusedVariables false
/-- Items of a cover are free or have partners by open links. -/
def CvA (n : Nat) (op : Nat → Bool) (pt : Nat → Int) (c : Nat → Bool) : Prop := ∀ x, x < 24 → c x = true → pt x = -1 ∨ ∃ k, k < n ∧ op k = true ∧ pt x = (k : Int)
/-- No joined open link has both its items in a cover. -/
def CvB (n : Nat) (zs : List Rg) (op : Nat → Bool) (pt : Nat → Int) (c : Nat → Bool) : Prop := ∀ k, k < n → op k = true → pt (0 * 12 + eN zs 0 k) = (k : Int) → ¬ (c (eN zs 0 k) = true ∧ c (12 + eN zs 1 k) = true)
theorem Cons.at {n : Nat} {zs : List Rg} {pt : Nat → Int} (h : Cons n zs pt) {x k : Nat} (hx : x < 24) (e : pt x = (k : Int)) : k < n ∧ x = x / 12 * 12 + eN zs (x / 12) k ∧ pt ((1 - x / 12) * 12 + eN zs (1 - x / 12) k) = (k : Int) := by
  have := h (x / 12) (x % 12) (by omega) (by omega)
  rw [show x / 12 * 12 + x % 12 = x by omega] at this
  rcases this with h1 | ⟨q, h1, h2, h3, h4⟩
  · omega
  · obtain rfl : k = q := by omega
    exact ⟨h1, by omega, h4⟩
/-- An item whose partner is a link is its left or its right one, and the link is joined. -/
theorem Cons.end {n : Nat} {zs : List Rg} (hz : ZOk n zs) {pt : Nat → Int} (h : Cons n zs pt) {x k : Nat} (hx : x < 24) (e : pt x = (k : Int)) : k < n ∧ pt (0 * 12 + eN zs 0 k) = (k : Int) ∧ pt (1 * 12 + eN zs 1 k) = (k : Int) ∧ (x = eN zs 0 k ∨ x = 12 + eN zs 1 k) := by
  obtain ⟨h1, h2, h3⟩ := h.at hx e
  have hb : ∀ l2, l2 < 2 → pt (l2 * 12 + eN zs l2 k) = (k : Int) := h.both hz h1 (l := x / 12) (by omega) (by rw [← h2]; exact e)
  refine ⟨h1, hb 0 (by omega), hb 1 (by omega), ?_⟩
  rcases (by omega : x / 12 = 0 ∨ x / 12 = 1) with e2 | e2
  · rw [e2] at h2; exact .inl (by omega)
  · rw [e2] at h2; exact .inr (by omega)
/-- The free items of a cover. -/
def frL (pt : Nat → Int) (c : Nat → Bool) : List Nat := (List.range 24).filter fun x => c x && (pt x == -1)
theorem mem_frL {pt : Nat → Int} {c : Nat → Bool} {x : Nat} : x ∈ frL pt c ↔ x < 24 ∧ c x = true ∧ pt x = -1 := by simp [frL]
theorem ab_len {n : Nat} {zs : List Rg} (hz : ZOk n zs) {op : Nat → Bool} {pt : Nat → Int} (hc : Cons n zs pt) {c : Nat → Bool} (hA : CvA n op pt c) (hB : CvB n zs op pt c) : (czL c).length ≤ (jL n zs op pt).length + (frL pt c).length := by
  have hsplit : (czL c).length = ((List.range 24).filter fun x => c x && (pt x != -1)).length + (frL pt c).length := by
    unfold czL frL
    have : ∀ L : List Nat, (L.filter c).length = (L.filter fun x => c x && (pt x != -1)).length + (L.filter fun x => c x && (pt x == -1)).length := fun L => by
      induction L with
      | nil => rfl
      | cons x L ih =>
        simp only [List.filter_cons]
        cases c x
        · simpa using ih
        · by_cases e : pt x = -1
          · have h1 : (pt x == -1) = true := by rw [beq_iff_eq]; exact e
            have h2 : (pt x != -1) = false := by rw [bne_eq_false_iff_eq]; exact e
            simp [h1, h2, ih]; omega
          · have h1 : (pt x == -1) = false := by rw [beq_eq_false_iff_ne]; exact e
            have h2 : (pt x != -1) = true := by rw [bne_iff_ne]; exact e
            simp [h1, h2, ih]; omega
    exact this _
  have hm : ((List.range 24).filter fun x => c x && (pt x != -1)).length ≤ (jL n zs op pt).length := by
    have hq : ∀ x ∈ (List.range 24).filter (fun x => c x && (pt x != -1)), x < 24 ∧ c x = true ∧ ∃ k, k < n ∧ op k = true ∧ pt x = (k : Int) := fun x hx => by
      simp only [List.mem_filter, List.mem_range, Bool.and_eq_true, bne_iff_ne] at hx
      exact ⟨hx.1, hx.2.1, (hA x hx.1 hx.2.1).resolve_left hx.2.2⟩
    have := nodup_le (((List.range 24).filter fun x => c x && (pt x != -1)).map fun x => (pt x).toNat) (jL n zs op pt) (by
      rw [List.pairwise_map]
      refine List.Pairwise.imp_of_mem ?_ (List.Nodup.sublist List.filter_sublist List.nodup_range)
      intro a b ha hb hne e
      obtain ⟨a1, a2, k, a3, a4, a5⟩ := hq a ha
      obtain ⟨b1, b2, k2, b3, b4, b5⟩ := hq b hb
      rw [a5, b5] at e
      obtain rfl : k = k2 := by simpa using e
      obtain ⟨_, e1, e2, e3⟩ := hc.end hz a1 a5
      obtain ⟨_, _, _, e4⟩ := hc.end hz b1 b5
      refine hB k a3 a4 e1 ?_
      rcases e3 with e3 | e3 <;> rcases e4 with e4 | e4
      · exact absurd (e3.trans e4.symm) hne
      · rw [← e3, ← e4]; exact ⟨a2, b2⟩
      · rw [← e3, ← e4]; exact ⟨b2, a2⟩
      · exact absurd (e3.trans e4.symm) hne) (fun y hy => by
      obtain ⟨x, hx, rfl⟩ := List.mem_map.1 hy
      obtain ⟨a1, a2, k, a3, a4, a5⟩ := hq x hx
      rw [a5, Int.toNat_natCast]
      exact mem_jL.2 ⟨a3, a4, (hc.end hz a1 a5).2.1⟩)
    simpa using this
  omega
/-- A free item from which no search finds a partner leaves the cover. -/
theorem uncross {n : Nat} {zs : List Rg} (hz : ZOk n zs) {op : Nat → Bool} {pt : Nat → Int} (hc : Cons n zs pt) (ho : OpI n zs op pt) : ∀ (u : Nat) (c : Nat → Bool), (frL pt c).length ≤ u → Cov n zs op c → CvA n op pt c → CvB n zs op pt c →
    (∀ l i, l < 2 → i < 12 → c (l * 12 + i) = true → pt (l * 12 + i) = -1 → Cert n zs op pt l i) → Kon n zs op pt := by
  intro u
  induction u with
  | zero =>
    intro c hu h1 h2 h3 _
    exact ⟨c, h1, by have := ab_len hz hc h2 h3; omega⟩
  | succ u ih =>
    intro c hu h1 h2 h3 hce
    by_cases hemp : frL pt c = []
    · exact ⟨c, h1, by have := ab_len hz hc h2 h3; rw [hemp] at this; simpa using this⟩
    obtain ⟨x, hx⟩ := List.exists_mem_of_ne_nil _ hemp
    obtain ⟨hx24, hcx, hpx⟩ := mem_frL.1 hx
    obtain ⟨l, i, hl, hi, rfl⟩ : ∃ l i, l < 2 ∧ i < 12 ∧ x = l * 12 + i := ⟨x / 12, x % 12, by omega, by omega, by omega⟩
    obtain ⟨ls, lt, c1, c2, c3⟩ := hce l i hl hi hcx hpx
    classical
    let opn : Nat → Bool := fun z => decide (∃ k, k < n ∧ op k = true ∧ eN zs (1 - l) k = z)
    let c' : Nat → Bool := fun y => if y / 12 = l then c y && !ls (y % 12) else c y || (lt (y % 12) && opn (y % 12))
    have cl : ∀ y, y < 12 → c' (l * 12 + y) = (c (l * 12 + y) && !ls y) := fun y hy => by
      show (if _ then _ else _) = _
      rw [if_pos (by omega), show (l * 12 + y) % 12 = y by omega]
    have cr : ∀ y, y < 12 → c' ((1 - l) * 12 + y) = (c ((1 - l) * 12 + y) || (lt y && opn y)) := fun y hy => by
      show (if _ then _ else _) = _
      rw [if_neg (by omega), show ((1 - l) * 12 + y) % 12 = y by omega]
    -- covers by both lists
    have cov2 : ∀ (d : Nat → Bool) k, k < n → ((d (eN zs 0 k) = true ∨ d (12 + eN zs 1 k) = true) ↔ (d (l * 12 + eN zs l k) = true ∨ d ((1 - l) * 12 + eN zs (1 - l) k) = true)) := fun d k hk => by
      rcases (by omega : l = 0 ∨ l = 1) with rfl | rfl
      · simp
      · simp [Or.comm]
    have and2 : ∀ (d : Nat → Bool) k, k < n → ((d (eN zs 0 k) = true ∧ d (12 + eN zs 1 k) = true) ↔ (d (l * 12 + eN zs l k) = true ∧ d ((1 - l) * 12 + eN zs (1 - l) k) = true)) := fun d k hk => by
      rcases (by omega : l = 0 ∨ l = 1) with rfl | rfl
      · simp
      · simp [And.comm]
    have lsF : ∀ k, k < n → op k = true → ls (eN zs l k) = true → lt (eN zs (1 - l) k) = true ∧ opn (eN zs (1 - l) k) = true := fun k hk hok h =>
      ⟨c2 _ (hz.lt hk) h k hk hok rfl, decide_eq_true ⟨k, hk, hok, rfl⟩⟩
    refine ih c' ?_ (fun k hk hok => ?_) (fun y hy h => ?_) (fun k hk hok hj hb => ?_) (fun l2 i2 hl2 hi2 h4 h5 => ?_)
    · have hlt : (frL pt c').length < (frL pt c).length := by
        have := nodup_le ((l * 12 + i) :: frL pt c') (frL pt c) (List.pairwise_cons.2 ⟨fun y hy e => by
          subst e
          have := (mem_frL.1 hy).2.1
          rw [cl i hi, c1] at this
          simp at this, List.Nodup.sublist List.filter_sublist List.nodup_range⟩) (fun y hy => by
          rcases List.mem_cons.1 hy with rfl | hy
          · exact hx
          · obtain ⟨y1, y2, y3⟩ := mem_frL.1 hy
            refine mem_frL.2 ⟨y1, ?_, y3⟩
            rcases (by omega : y / 12 = l ∨ y / 12 = 1 - l) with e | e
            · have e2 := cl (y % 12) (by omega)
              rw [show l * 12 + y % 12 = y by omega, y2] at e2
              cases h : c y
              · rw [h] at e2; simp at e2
              · rfl
            · have e2 := cr (y % 12) (by omega)
              rw [show (1 - l) * 12 + y % 12 = y by omega, y2] at e2
              cases h : c y
              · rw [h, Bool.false_or] at e2
                have h7 := e2.symm
                rw [Bool.and_eq_true] at h7
                obtain ⟨k, _, h8, _⟩ := c3 (y % 12) (by omega) h7.1
                unfold mT at h8
                rw [show (1 - l) * 12 + y % 12 = y by omega, y3] at h8
                omega
              · rfl)
        simp only [List.length_cons] at this
        omega
      omega
    · rw [cov2 c' k hk]
      have h7 := (cov2 c k hk).1 (h1 k hk hok)
      rw [cl _ (hz.lt hk), cr _ (hz.lt hk)]
      by_cases h8 : ls (eN zs l k) = true
      · obtain ⟨a, b⟩ := lsF k hk hok h8
        exact .inr (by rw [a, b]; simp)
      · rcases h7 with h7 | h7
        · exact .inl (by rw [h7]; simp [h8])
        · exact .inr (by rw [h7]; simp)
    · rcases (by omega : y / 12 = l ∨ y / 12 = 1 - l) with e | e
      · have e2 := cl (y % 12) (by omega)
        rw [show l * 12 + y % 12 = y by omega, h] at e2
        refine h2 y hy ?_
        cases h8 : c y
        · rw [h8] at e2; simp at e2
        · rfl
      · have e2 := cr (y % 12) (by omega)
        rw [show (1 - l) * 12 + y % 12 = y by omega, h] at e2
        cases h8 : c y
        · rw [h8, Bool.false_or] at e2
          have h7 := e2.symm
          rw [Bool.and_eq_true] at h7
          obtain ⟨k, hk, hok, hke⟩ := of_decide_eq_true h7.2
          have h9 := ho k hk hok (1 - l) (by omega)
          rw [hke, show (1 - l) * 12 + y % 12 = y by omega] at h9
          rcases h9 with h9 | ⟨q, q1, q2, q3⟩
          · exact .inl h9
          · exact .inr ⟨q, q1, q3, q2⟩
        · exact h2 y hy h8
    · obtain ⟨b1, b2⟩ := (and2 c' k hk).1 hb
      rw [cl _ (hz.lt hk)] at b1
      rw [cr _ (hz.lt hk)] at b2
      rw [Bool.and_eq_true, Bool.not_eq_true'] at b1
      rw [Bool.or_eq_true, Bool.and_eq_true] at b2
      rcases b2 with b2 | b2
      · exact h3 k hk hok hj ((and2 c k hk).2 ⟨b1.1, b2⟩)
      · obtain ⟨q, q1, q2, q3⟩ := c3 _ (hz.lt hk) b2.1
        have hjj := hc.both hz hk (l := 0) (by omega) hj (1 - l) (by omega)
        unfold mT at q2
        rw [hjj] at q2
        obtain rfl : k = q := by omega
        rw [b1.2] at q3; cases q3
    · rcases (by omega : l2 = l ∨ l2 = 1 - l) with rfl | rfl
      · rw [cl _ hi2] at h4
        rw [Bool.and_eq_true] at h4
        exact hce l2 i2 hl2 hi2 h4.1 h5
      · rw [cr _ hi2] at h4
        rw [Bool.or_eq_true, Bool.and_eq_true] at h4
        rcases h4 with h4 | h4
        · exact hce _ i2 hl2 hi2 h4 h5
        · obtain ⟨q, _, q2, _⟩ := c3 _ hi2 h4.1
          unfold mT at q2
          rw [h5] at q2
          omega
/-- Searches from all left items that have links have found nothing more. -/
theorem kon_left {n : Nat} {zs : List Rg} (hz : ZOk n zs) {op : Nat → Bool} {pt : Nat → Int} (hc : Cons n zs pt) (ho : OpI n zs op pt) (h : ∀ k, k < n → op k = true → pt (0 * 12 + eN zs 0 k) = -1 → Cert n zs op pt 0 (eN zs 0 k)) : Kon n zs op pt := by
  classical
  refine uncross hz hc ho _ (fun x => decide (∃ k, k < n ∧ op k = true ∧ eN zs 0 k = x)) (Nat.le_refl _) (fun k hk hok => .inl (decide_eq_true ⟨k, hk, hok, rfl⟩)) (fun x hx hcx => ?_) (fun k hk hok hj hb => ?_) (fun l i hl hi hcx hp => ?_)
  · obtain ⟨k, hk, hok, rfl⟩ := of_decide_eq_true hcx
    have := ho k hk hok 0 (by omega)
    rw [Nat.zero_mul, Nat.zero_add] at this
    rcases this with e | ⟨q, a, b, d⟩
    · exact .inl e
    · exact .inr ⟨q, a, d, b⟩
  · obtain ⟨q, hq, hoq, e⟩ := of_decide_eq_true hb.2
    have := hz.lt (l := 0) hq
    omega
  · obtain ⟨k, hk, hok, e⟩ := of_decide_eq_true hcx
    have h0 := hz.lt (l := 0) hk
    obtain rfl : l = 0 := by omega
    have e2 : eN zs 0 k = i := by omega
    rw [← e2]
    exact h k hk hok (by rw [e2]; exact hp)
end Go.Proofs.Ytnodkgejggnehaa

namespace Go.Proofs.Ytnodkgejggnehaa
set_option linter.unusedSimpArgs false
set_option linter.unusedVariables false
/-- All links that are joined. -/
def jA (n : Nat) (zs : List Rg) (pt : Nat → Int) : List Nat := (List.range n).filter fun k => pt (0 * 12 + eN zs 0 k) == (k : Int)
theorem mem_jA {n : Nat} {zs : List Rg} {pt : Nat → Int} {k : Nat} : k ∈ jA n zs pt ↔ k < n ∧ pt (0 * 12 + eN zs 0 k) = (k : Int) := by simp [jA]
def dmL (pt : Nat → Int) (l : Nat) : List Nat := (List.range 12).filter fun i => pt (l * 12 + i) != -1
theorem mem_dmL {pt : Nat → Int} {l i : Nat} : i ∈ dmL pt l ↔ i < 12 ∧ pt (l * 12 + i) ≠ -1 := by simp [dmL]
theorem nd_filter {n : Nat} (p : Nat → Bool) : ((List.range n).filter p).Pairwise (· ≠ ·) := List.Nodup.sublist List.filter_sublist List.nodup_range
/-- As many links are joined as items of a list have partners. -/
theorem dom_card {n : Nat} {zs : List Rg} {pt : Nat → Int} (hz : ZOk n zs) (hc : Cons n zs pt) {l : Nat} (hl : l < 2) : (dmL pt l).length = (jA n zs pt).length := by
  have h1 := nodup_le ((jA n zs pt).map (eN zs l)) (dmL pt l) (by
    rw [List.pairwise_map]
    refine List.Pairwise.imp_of_mem ?_ (nd_filter _)
    intro a b ha hb hne e
    obtain ⟨a1, a2⟩ := mem_jA.1 ha
    obtain ⟨b1, b2⟩ := mem_jA.1 hb
    have a3 := hc.both hz a1 (l := 0) (by omega) a2 l hl
    have b3 := hc.both hz b1 (l := 0) (by omega) b2 l hl
    rw [e, b3] at a3
    exact hne (by omega)) (fun y hy => by
    obtain ⟨k, hk, rfl⟩ := List.mem_map.1 hy
    obtain ⟨a1, a2⟩ := mem_jA.1 hk
    have a3 := hc.both hz a1 (l := 0) (by omega) a2 l hl
    exact mem_dmL.2 ⟨hz.lt a1, by rw [a3]; omega⟩)
  have key : ∀ i ∈ dmL pt l, ∃ k, k < n ∧ pt (l * 12 + i) = (k : Int) ∧ eN zs l k = i ∧ pt (0 * 12 + eN zs 0 k) = (k : Int) := fun i hi => by
    obtain ⟨a1, a2⟩ := mem_dmL.1 hi
    obtain ⟨k, b1, b2, b3, b4⟩ := (hc l i hl a1).resolve_left a2
    exact ⟨k, b1, b2, b3, hc.both hz b1 (l := l) hl (by rw [b3]; exact b2) 0 (by omega)⟩
  have h2 := nodup_le ((dmL pt l).map fun i => (pt (l * 12 + i)).toNat) (jA n zs pt) (by
    rw [List.pairwise_map]
    refine List.Pairwise.imp_of_mem ?_ (nd_filter _)
    intro a b ha hb hne e
    obtain ⟨k, a1, a2, a3, _⟩ := key a ha
    obtain ⟨q, b1, b2, b3, _⟩ := key b hb
    rw [a2, b2] at e
    obtain rfl : k = q := by simpa using e
    exact hne (a3.symm.trans b3)) (fun y hy => by
    obtain ⟨i, hi, rfl⟩ := List.mem_map.1 hy
    obtain ⟨k, a1, a2, a3, a4⟩ := key i hi
    rw [a2, Int.toNat_natCast]
    exact mem_jA.2 ⟨a1, a4⟩)
  simp only [List.length_map] at h1 h2
  omega
/-- The closed links that are joined. -/
def jC (n : Nat) (zs : List Rg) (op : Nat → Bool) (pt : Nat → Int) : List Nat := (List.range n).filter fun k => !op k && (pt (0 * 12 + eN zs 0 k) == (k : Int))
theorem mem_jC {n : Nat} {zs : List Rg} {op : Nat → Bool} {pt : Nat → Int} {k : Nat} : k ∈ jC n zs op pt ↔ k < n ∧ op k = false ∧ pt (0 * 12 + eN zs 0 k) = (k : Int) := by simp [jC]
theorem filter_split (p q : Nat → Bool) (L : List Nat) : (L.filter q).length = (L.filter fun k => p k && q k).length + (L.filter fun k => !p k && q k).length := by
  induction L with
  | nil => rfl
  | cons x L ih =>
    simp only [List.filter_cons]
    cases p x <;> cases q x <;> simp [ih] <;> omega
theorem jA_split (n : Nat) (zs : List Rg) (op : Nat → Bool) (pt : Nat → Int) : (jA n zs pt).length = (jL n zs op pt).length + (jC n zs op pt).length := by
  exact filter_split op (fun k => pt (0 * 12 + eN zs 0 k) == (k : Int)) (List.range n)
theorem Gro.closed {n : Nat} {zs : List Rg} {op : Nat → Bool} {pt pt' : Nat → Int} (hz : ZOk n zs) (hc : Cons n zs pt) (ho : OpI n zs op pt) (g : Gro n zs op pt pt') {k : Nat} (hk : k < n) (hok : op k = false) : pt (0 * 12 + eN zs 0 k) = (k : Int) ↔ pt' (0 * 12 + eN zs 0 k) = (k : Int) := by
  have hx : 0 * 12 + eN zs 0 k < 24 := by have := hz.lt (l := 0) hk; omega
  constructor
  · intro h
    rcases g.new _ hx with e | ⟨q, q1, q2, q3⟩
    · rw [e]; exact h
    · obtain ⟨_, e1, _⟩ := g.cons.at hx q2
      have h0 := hz.lt (l := 0) hk
      rw [show (0 * 12 + eN zs 0 k) / 12 = 0 by omega] at e1
      have h9 := ho q q1 q3 0 (by omega)
      rw [show 0 * 12 + eN zs 0 q = 0 * 12 + eN zs 0 k by omega, h] at h9
      rcases h9 with h9 | ⟨r, r1, r2, r3⟩
      · omega
      · obtain rfl : k = r := by omega
        rw [hok] at r3; cases r3
  · intro h
    rcases g.new _ hx with e | ⟨q, q1, q2, q3⟩
    · rw [← e]; exact h
    · rw [h] at q2
      obtain rfl : k = q := by omega
      rw [hok] at q3; cases q3
theorem jC_gro {n : Nat} {zs : List Rg} {op : Nat → Bool} {pt pt' : Nat → Int} (hz : ZOk n zs) (hc : Cons n zs pt) (ho : OpI n zs op pt) (g : Gro n zs op pt pt') : jC n zs op pt' = jC n zs op pt := by
  unfold jC
  refine List.filter_congr (fun k hk => ?_)
  have hkn := List.mem_range.1 hk
  cases h : op k with
  | true => rfl
  | false =>
    have := g.closed hz hc ho hkn h
    rw [Bool.eq_iff_iff]
    simp only [Bool.not_false, Bool.true_and, beq_iff_eq]
    exact this.symm
theorem dm_le {pt pt' : Nat → Int} (h : ∀ x, x < 24 → pt x ≠ -1 → pt' x ≠ -1) {l : Nat} (hl : l < 2) : (dmL pt l).length ≤ (dmL pt' l).length :=
  nodup_le _ _ (nd_filter _) (fun i hi => by
    obtain ⟨a, b⟩ := mem_dmL.1 hi
    exact mem_dmL.2 ⟨a, h _ (by omega) b⟩)
theorem dm_lt {pt pt' : Nat → Int} (h : ∀ x, x < 24 → pt x ≠ -1 → pt' x ≠ -1) {l i : Nat} (hl : l < 2) (hi : i < 12) (h1 : pt (l * 12 + i) = -1) (h2 : pt' (l * 12 + i) ≠ -1) : (dmL pt l).length + 1 ≤ (dmL pt' l).length := by
  have := nodup_le (i :: dmL pt l) (dmL pt' l) (List.pairwise_cons.2 ⟨fun y hy e => by subst e; exact (mem_dmL.1 hy).2 h1, nd_filter _⟩) (fun y hy => by
    rcases List.mem_cons.1 hy with rfl | hy
    · exact mem_dmL.2 ⟨hi, h2⟩
    · obtain ⟨a, b⟩ := mem_dmL.1 hy
      exact mem_dmL.2 ⟨a, h _ (by omega) b⟩)
  simpa using this
theorem jL_gro {n : Nat} {zs : List Rg} {op : Nat → Bool} {pt pt' : Nat → Int} (hz : ZOk n zs) (hc : Cons n zs pt) (ho : OpI n zs op pt) (g : Gro n zs op pt pt') : (jL n zs op pt).length ≤ (jL n zs op pt').length ∧ ∀ x, x < 24 → pt x = -1 → pt' x ≠ -1 → (jL n zs op pt).length + 1 ≤ (jL n zs op pt').length := by
  have s1 := jA_split n zs op pt
  have s2 := jA_split n zs op pt'
  rw [jC_gro hz hc ho g] at s2
  have d1 := dom_card hz hc (l := 0) (by omega)
  have d2 := dom_card hz g.cons (l := 0) (by omega)
  have d3 := dm_le g.mono (l := 0) (by omega)
  refine ⟨by omega, fun x hx h1 h2 => ?_⟩
  obtain ⟨l, i, hl, hi, rfl⟩ : ∃ l i, l < 2 ∧ i < 12 ∧ x = l * 12 + i := ⟨x / 12, x % 12, by omega, by omega, by omega⟩
  have d4 := dm_lt g.mono hl hi h1 h2
  have d5 := dom_card hz hc hl
  have d6 := dom_card hz g.cons hl
  omega
/-- A cover with one free item more than joined links. -/
theorem sharp1 {n : Nat} {zs : List Rg} {op : Nat → Bool} {pt : Nat → Int} {c : Nat → Bool} (hz : ZOk n zs) (hc : Cons n zs pt) (h1 : Cov n zs op c) (h2 : (czL c).length ≤ (jL n zs op pt).length + 1) {x : Nat} (hx : x < 24) (hcx : c x = true) (hpx : pt x = -1) : CvA n op pt c ∧ CvB n zs op pt c := by
  have pat : ∀ k, k ∈ jL n zs op pt → pt (pick zs c k) = (k : Int) := fun k hk => by
    obtain ⟨a, b, d⟩ := mem_jL.1 hk
    have hb := hc.both hz a (l := 0) (by omega) d
    unfold pick
    split
    · have := hb 0 (by omega); rwa [Nat.zero_mul, Nat.zero_add] at this
    · have := hb 1 (by omega); rwa [Nat.one_mul] at this
  have hit : ∀ y, y < 24 → c y = true → y ≠ x → ∃ k ∈ jL n zs op pt, pick zs c k = y := fun y hy hcy hne => by
    refine Classical.byContradiction fun hno => ?_
    have := nodup_le (y :: x :: (jL n zs op pt).map (pick zs c)) (czL c) (List.pairwise_cons.2 ⟨fun z hz2 e => by
      rcases List.mem_cons.1 hz2 with e2 | e2
      · exact hne (e.trans e2)
      · obtain ⟨k, hk, e3⟩ := List.mem_map.1 e2
        exact hno ⟨k, hk, e3.trans e.symm⟩, List.pairwise_cons.2 ⟨fun z hz2 e => by
        obtain ⟨k, hk, e3⟩ := List.mem_map.1 hz2
        have := pat k hk
        rw [e3, ← e, hpx] at this
        omega, pick_nodup hz (jL_mat hz hc) (fun k hk => (mem_jL.1 hk).1)⟩⟩) (fun z hz2 => by
      rcases List.mem_cons.1 hz2 with e2 | e2
      · rw [e2]; exact List.mem_filter.2 ⟨List.mem_range.2 hy, hcy⟩
      · rcases List.mem_cons.1 e2 with e3 | e3
        · rw [e3]; exact List.mem_filter.2 ⟨List.mem_range.2 hx, hcx⟩
        · obtain ⟨k, hk, rfl⟩ := List.mem_map.1 e3
          exact pick_mem hz h1 (mem_jL.1 hk).1 (mem_jL.1 hk).2.1)
    simp only [List.length_cons, List.length_map] at this
    omega
  refine ⟨fun y hy hcy => ?_, fun k hk hok hj hb => ?_⟩
  · by_cases e : y = x
    · rw [e]; exact .inl hpx
    · obtain ⟨k, hk, e2⟩ := hit y hy hcy e
      have := pat k hk
      rw [e2] at this
      exact .inr ⟨k, (mem_jL.1 hk).1, (mem_jL.1 hk).2.1, this⟩
  · have h9 := hz.lt (l := 1) hk
    have hj1 := hc.both hz hk (l := 0) (by omega) hj 1 (by omega)
    rw [Nat.one_mul] at hj1
    obtain ⟨q, hq, e⟩ := hit (12 + eN zs 1 k) (by omega) hb.2 (fun e => by rw [e, hpx] at hj1; omega)
    have hp := pat q hq
    rw [e, hj1] at hp
    obtain rfl : k = q := by omega
    unfold pick at e
    rw [if_pos hb.1] at e
    have := hz.lt (l := 0) hk
    omega
/-- Searches from the free items of a cover, of which there is one at most, make partners greatest. -/
theorem kon_step {n : Nat} {zs : List Rg} {op : Nat → Bool} {pt pt' : Nat → Int} {c : Nat → Bool} (hz : ZOk n zs) (hc : Cons n zs pt) (ho : OpI n zs op pt) (h1 : Cov n zs op c) (hA : CvA n op pt c) (hB : CvB n zs op pt c) (hu : ∀ x y, x ∈ frL pt c → y ∈ frL pt c → x = y) (g : Gro n zs op pt pt')
    (hce : ∀ l i, l < 2 → i < 12 → c (l * 12 + i) = true → pt (l * 12 + i) = -1 → pt' (l * 12 + i) = -1 → Cert n zs op pt' l i) : Kon n zs op pt' := by
  have hab := ab_len hz hc hA hB
  obtain ⟨j1, j2⟩ := jL_gro hz hc ho g
  by_cases hemp : frL pt c = []
  · exact ⟨c, h1, by rw [hemp] at hab; simp at hab; omega⟩
  obtain ⟨x, hx⟩ := List.exists_mem_of_ne_nil _ hemp
  have h1l : (frL pt c).length ≤ 1 := by
    have := nodup_le (frL pt c) [x] (nd_filter _) (fun y hy => by rw [hu y x hy hx]; simp)
    simpa using this
  obtain ⟨hx24, hcx, hpx⟩ := mem_frL.1 hx
  by_cases hp' : pt' x = -1
  · by_cases hle : (czL c).length ≤ (jL n zs op pt').length
    · exact ⟨c, h1, hle⟩
    · obtain ⟨a, b⟩ := sharp1 hz g.cons h1 (by omega) hx24 hcx hp'
      refine uncross hz g.cons g.opi _ c (Nat.le_refl _) h1 a b (fun l i hl hi hci hpi => ?_)
      refine hce l i hl hi hci ?_ hpi
      exact Classical.byContradiction fun e => g.mono _ (by omega) e hpi
  · exact ⟨c, h1, by have := j2 x hx24 hpx hp'; omega⟩
/-- A board with a greatest joining, of which J is known. -/
structure GB (n : Nat) (zs : List Rg) (op : Nat → Bool) (pt : Nat → Int) (J : List Nat) : Prop where
  cons : Cons n zs pt
  opi : OpI n zs op pt
  jc : ∀ k, k < n → op k = false → pt (0 * 12 + eN zs 0 k) = (k : Int) → k ∈ J
  jk : ∀ k, k ∈ J → k < n ∧ op k = false ∧ pt (0 * 12 + eN zs 0 k) = (k : Int)
  jn : J.Nodup
  kon : Kon n zs op pt
/-- Which links are joined for good, as partners grow. -/
theorem gb_gro {n : Nat} {zs : List Rg} {op : Nat → Bool} {pt pt' : Nat → Int} {J : List Nat} (hz : ZOk n zs) (hc : Cons n zs pt) (ho : OpI n zs op pt) (g : Gro n zs op pt pt') (h1 : ∀ k, k < n → op k = false → pt (0 * 12 + eN zs 0 k) = (k : Int) → k ∈ J) (h2 : ∀ k, k ∈ J → k < n ∧ op k = false ∧ pt (0 * 12 + eN zs 0 k) = (k : Int)) (h3 : J.Nodup) (h4 : Kon n zs op pt') : GB n zs op pt' J :=
  ⟨g.cons, g.opi, fun k hk hok e => h1 k hk hok ((g.closed hz hc ho hk hok).2 e), fun k hk => ⟨(h2 k hk).1, (h2 k hk).2.1, (g.closed hz hc ho (h2 k hk).1 (h2 k hk).2.1).1 (h2 k hk).2.2⟩, h3, h4⟩
theorem GB.jC {n : Nat} {zs : List Rg} {op : Nat → Bool} {pt : Nat → Int} {J : List Nat} (h : GB n zs op pt J) : (jC n zs op pt).length = J.length := by
  have h1 := nodup_le (Ytnodkgejggnehaa.jC n zs op pt) J (nd_filter _) (fun k hk => by
    obtain ⟨a, b, c⟩ := mem_jC.1 hk
    exact h.jc k a b c)
  have h2 := nodup_le J (Ytnodkgejggnehaa.jC n zs op pt) h.jn (fun k hk => mem_jC.2 (h.jk k hk))
  omega
theorem GB.total {n : Nat} {zs : List Rg} {op : Nat → Bool} {pt : Nat → Int} {J : List Nat} (hz : ZOk n zs) (h : GB n zs op pt J) : (jA n zs pt).length = mm (mtB zs) (opL n op) + J.length := by
  rw [jA_split n zs op pt, h.jC, h.kon.mm hz h.cons]
end Go.Proofs.Ytnodkgejggnehaa

namespace Go.Proofs.Ytnodkgejggnehaa
set_option linter.unusedSimpArgs false
set_option linter.unusedVariables false
/-- How many left items have partners. -/
theorem szK_jA {n : Nat} {zs : List Rg} {pt : Nat → Int} (hz : ZOk n zs) (hc : Cons n zs pt) {c : Nat} (hc12 : c ≤ 12) (he : ∀ k, k < n → eN zs 0 k < c) : szK pt c = (jA n zs pt).length := by
  rw [← dom_card hz hc (l := 0) (by omega)]
  unfold szK dmL
  rw [List.countP_eq_length_filter]
  simp only [Nat.zero_mul, Nat.zero_add]
  have e : (List.range 12).filter (fun i => pt i != -1) = (List.range c).filter (fun i => pt i != -1) := by
    obtain ⟨d, hd⟩ : ∃ d, 12 = c + d := ⟨12 - c, by omega⟩
    rw [hd, List.range_add, List.filter_append]
    have : ((List.range d).map fun i => c + i).filter (fun i => pt i != -1) = [] := by
      rw [List.filter_eq_nil_iff]
      intro x hx
      obtain ⟨i, hi, rfl⟩ := List.mem_map.1 hx
      have hi2 := List.mem_range.1 hi
      have hci := hc 0 (c + i) (by omega) (by omega)
      rw [Nat.zero_mul, Nat.zero_add] at hci
      rcases hci with h | ⟨k, h1, h2, h3, h4⟩
      · rw [h]; simp
      · have := he k h1
        omega
    rw [this, List.append_nil]
  rw [e]
/-- Partners without the links that meet one. -/
def und (zs : List Rg) (pt : Nat → Int) (k : Nat) : Nat → Int := fun x => if pt x ≠ -1 ∧ mtB zs (pt x).toNat k = true then -1 else pt x
theorem prtP_at {n : Nat} {zs : List Rg} {pt : Nat → Int} (hz : ZOk n zs) (hc : Cons n zs pt) {y : Nat} (hy : y < 24) : ∀ x, x < 24 → prtP zs pt y x = if pt y ≠ -1 ∧ pt x = pt y then -1 else pt x := by
  intro x hx
  unfold prtP
  by_cases e : pt y = -1
  · rw [if_pos e, if_neg (fun h => h.1 e)]
  · rw [if_neg e]
    obtain ⟨k, hk, hke⟩ := (hc.ptOk y hy).resolve_left e
    obtain ⟨_, e1, e2, e3⟩ := hc.end hz hy hke
    have h0 := hz.lt (l := 0) hk
    have h1 := hz.lt (l := 1) hk
    rw [Nat.zero_mul, Nat.zero_add] at e1
    rw [Nat.one_mul] at e2
    rw [hke, Int.toNat_natCast]
    simp only [unP]
    by_cases hxe : pt x = (k : Int)
    · obtain ⟨_, _, _, e4⟩ := hc.end hz hx hxe
      rw [if_pos (show (k : Int) ≠ -1 ∧ pt x = (k : Int) from ⟨by omega, hxe⟩)]
      rcases e4 with e4 | e4
      · rw [e4, if_neg (by omega), if_pos (by omega)]
      · rw [e4, if_pos (by omega)]
    · have n1 : x ≠ 1 * 12 + eN zs 1 k := fun h => hxe (by rw [h, Nat.one_mul]; exact e2)
      have n0 : x ≠ 0 * 12 + eN zs 0 k := fun h => hxe (by rw [h, Nat.zero_mul, Nat.zero_add]; exact e1)
      rw [if_neg n1, if_neg n0, if_neg (fun h => hxe h.2)]
/-- A joined link is taken out. -/
theorem Cons.part {n : Nat} {zs : List Rg} {pt pt2 : Nat → Int} (hz : ZOk n zs) (hc : Cons n zs pt) {p : Nat → Prop} (h : ∀ x, x < 24 → (pt2 x = -1 ∧ (pt x = -1 ∨ ∃ k : Nat, pt x = (k : Int) ∧ p k)) ∨ (pt2 x = pt x ∧ ∀ k : Nat, pt x = (k : Int) → ¬ p k)) : Cons n zs pt2 := by
  intro l i hl hi
  rcases h (l * 12 + i) (by omega) with ⟨a, _⟩ | ⟨a, b⟩
  · exact .inl a
  · rcases hc l i hl hi with h1 | ⟨k, h1, h2, h3, h4⟩
    · exact .inl (by rw [a]; exact h1)
    · refine .inr ⟨k, h1, by rw [a]; exact h2, h3, ?_⟩
      have h9 := hz.lt (l := 1 - l) h1
      rcases h ((1 - l) * 12 + eN zs (1 - l) k) (by omega) with ⟨c, d⟩ | ⟨c, _⟩
      · rcases d with d | ⟨q, d1, d2⟩
        · rw [h4] at d; omega
        · rw [h4] at d1
          obtain rfl : k = q := by omega
          exact absurd d2 (b k h2)
      · rw [c]; exact h4
theorem und_cases {n : Nat} {zs : List Rg} {pt : Nat → Int} (hc : Cons n zs pt) (k : Nat) : ∀ x, x < 24 → (und zs pt k x = -1 ∧ (pt x = -1 ∨ ∃ q : Nat, pt x = (q : Int) ∧ mtB zs q k = true)) ∨ (und zs pt k x = pt x ∧ ∀ q : Nat, pt x = (q : Int) → ¬ mtB zs q k = true) := by
  intro x hx
  unfold und
  by_cases h : pt x ≠ -1 ∧ mtB zs (pt x).toNat k = true
  · rw [if_pos h]
    obtain ⟨q, hq, e⟩ := (hc.ptOk x hx).resolve_left h.1
    have h2 := h.2
    rw [e, Int.toNat_natCast] at h2
    exact .inl ⟨rfl, .inr ⟨q, e, h2⟩⟩
  · rw [if_neg h]
    refine .inr ⟨rfl, fun q e hm => h ⟨by omega, by rw [e, Int.toNat_natCast]; exact hm⟩⟩
theorem meet_end {n : Nat} {zs : List Rg} {pt : Nat → Int} (hz : ZOk n zs) (hc : Cons n zs pt) {x q k : Nat} (hx : x < 24) (e : pt x = (q : Int)) (hm : mtB zs q k = true) : pt (0 * 12 + eN zs 0 k) = (q : Int) ∨ pt (1 * 12 + eN zs 1 k) = (q : Int) := by
  obtain ⟨_, e1, e2, _⟩ := hc.end hz hx e
  unfold mtB at hm
  rw [Bool.or_eq_true, decide_eq_true_eq, decide_eq_true_eq] at hm
  rcases hm with h | h
  · rw [h] at e1; exact .inl e1
  · rw [h] at e2; exact .inr e2
theorem knw_und {n : Nat} {zs : List Rg} {pt : Nat → Int} {op : Nat → Bool} (hz : ZOk n zs) (hc : Cons n zs pt) {k : Nat} (hk : k < n) : ∀ x, x < 24 → (knw zs n pt op k 2).1 x = und zs pt k x := by
  intro x hx
  show prtP zs (prtP zs pt (0 * 12 + eN zs 0 k)) (1 * 12 + eN zs 1 k) x = _
  have h0 := hz.lt (l := 0) hk
  have h1 := hz.lt (l := 1) hk
  have y0 : 0 * 12 + eN zs 0 k < 24 := by omega
  have y1 : 1 * 12 + eN zs 1 k < 24 := by omega
  have a1 := prtP_at hz hc y0
  have hc1 : Cons n zs (prtP zs pt (0 * 12 + eN zs 0 k)) := hc.part hz (p := fun q => pt (0 * 12 + eN zs 0 k) = (q : Int)) (fun x hx => by
    rw [a1 x hx]
    by_cases h : pt (0 * 12 + eN zs 0 k) ≠ -1 ∧ pt x = pt (0 * 12 + eN zs 0 k)
    · rw [if_pos h]
      obtain ⟨q, hq, e⟩ := (hc.ptOk _ y0).resolve_left h.1
      exact .inl ⟨rfl, .inr ⟨q, by rw [h.2]; exact e, e⟩⟩
    · rw [if_neg h]
      exact .inr ⟨rfl, fun q e1 e2 => h ⟨by omega, by rw [e1, e2]⟩⟩)
  rw [prtP_at hz hc1 y1 x hx, a1 x hx, a1 _ y1]
  rcases und_cases hc k x hx with ⟨e, h⟩ | ⟨e, h⟩
  · rw [e]
    rcases h with h | ⟨q, hq, hm⟩
    · rw [h]; ((repeat' split) <;> first | rfl | assumption)
    · rcases meet_end hz hc hx hq hm with h2 | h2
      · rw [if_pos (show pt (0 * 12 + eN zs 0 k) ≠ -1 ∧ pt x = pt (0 * 12 + eN zs 0 k) from ⟨by omega, by omega⟩)]
        ((repeat' split) <;> rfl)
      · by_cases h3 : pt (0 * 12 + eN zs 0 k) ≠ -1 ∧ pt x = pt (0 * 12 + eN zs 0 k)
        · rw [if_pos h3]; ((repeat' split) <;> rfl)
        · rw [if_neg h3, if_neg (show ¬ (pt (0 * 12 + eN zs 0 k) ≠ -1 ∧ pt (1 * 12 + eN zs 1 k) = pt (0 * 12 + eN zs 0 k)) from fun h4 => h3 ⟨h4.1, by rw [hq, ← h2]; exact h4.2⟩)]
          rw [if_pos ⟨by omega, by omega⟩]
  · rw [e]
    by_cases hx1 : pt x = -1
    · rw [hx1]; ((repeat' split) <;> first | rfl | assumption)
    · obtain ⟨q, hq, hqe⟩ := (hc.ptOk x hx).resolve_left hx1
      have hnm := h q hqe
      obtain ⟨_, e1, e2, _⟩ := hc.end hz hx hqe
      have n0 : ¬ (pt (0 * 12 + eN zs 0 k) ≠ -1 ∧ pt x = pt (0 * 12 + eN zs 0 k)) := fun h4 => hnm (by
        obtain ⟨_, e5, _⟩ := hc.at y0 (by rw [← h4.2]; exact hqe : pt (0 * 12 + eN zs 0 k) = (q : Int))
        rw [show (0 * 12 + eN zs 0 k) / 12 = 0 by omega] at e5
        unfold mtB
        rw [decide_eq_true (show eN zs 0 q = eN zs 0 k by omega)]; rfl)
      have n1 : pt x ≠ pt (1 * 12 + eN zs 1 k) := fun h4 => hnm (by
        obtain ⟨_, e5, _⟩ := hc.at y1 (by rw [← h4]; exact hqe : pt (1 * 12 + eN zs 1 k) = (q : Int))
        rw [show (1 * 12 + eN zs 1 k) / 12 = 1 by omega] at e5
        unfold mtB
        rw [decide_eq_true (show eN zs 1 q = eN zs 1 k by omega)]; simp)
      rw [if_neg n0]
      by_cases h5 : pt (0 * 12 + eN zs 0 k) ≠ -1 ∧ pt (1 * 12 + eN zs 1 k) = pt (0 * 12 + eN zs 0 k)
      · rw [if_pos h5, if_neg (fun h => h.1 rfl)]
      · rw [if_neg h5, if_neg (fun h => n1 h.2)]
/-- A side as it lies in a row. -/
def sdG (x : Nat) : Rg := ⟨((x / 12 : Nat) : Int), ((x % 12 : Nat) : Int)⟩
theorem prtL_sd {n : Nat} {zs : List Rg} {pt : Nat → Int} (hz : ZOk n zs) (hp : PtOk n pt) {y : Nat} (hy : y < 24) : SdOk (prtL zs pt y) := by
  intro s hs
  unfold prtL at hs
  split at hs
  · cases hs
  · rename_i h
    obtain ⟨k, hk, e⟩ := (hp y hy).resolve_left h
    rw [e, Int.toNat_natCast] at hs
    simp only [List.mem_cons, List.not_mem_nil, or_false] at hs
    rcases hs with rfl | rfl
    · exact ⟨0, _, by omega, hz.lt hk, rfl⟩
    · exact ⟨1, _, by omega, hz.lt hk, rfl⟩
theorem prtL_mem {n : Nat} {zs : List Rg} {pt : Nat → Int} (hz : ZOk n zs) (hc : Cons n zs pt) {y x : Nat} (hy : y < 24) (hx : x < 24) (h0 : pt y ≠ -1) (e : pt x = pt y) : sdG x ∈ prtL zs pt y := by
  obtain ⟨k, hk, hke⟩ := (hc.ptOk y hy).resolve_left h0
  rw [hke] at e
  obtain ⟨_, _, _, e4⟩ := hc.end hz hx e
  have a0 := hz.lt (l := 0) hk
  have a1 := hz.lt (l := 1) hk
  unfold prtL sdG
  rw [if_neg h0, hke, Int.toNat_natCast]
  rcases e4 with e4 | e4
  · rw [e4, show eN zs 0 k / 12 = 0 by omega, show eN zs 0 k % 12 = eN zs 0 k by omega]; simp
  · rw [e4, show (12 + eN zs 1 k) / 12 = 1 by omega, show (12 + eN zs 1 k) % 12 = eN zs 1 k by omega]; simp
theorem knw_sd {n : Nat} {zs : List Rg} {pt : Nat → Int} {op : Nat → Bool} (hz : ZOk n zs) (hp : PtOk n pt) {k : Nat} (hk : k < n) : SdOk (knw zs n pt op k 2).2.2 := by
  have h0 := hz.lt (l := 0) hk
  have h1 := hz.lt (l := 1) hk
  intro s hs
  change s ∈ ([] ++ prtL zs pt (0 * 12 + eN zs 0 k)) ++ prtL zs (prtP zs pt (0 * 12 + eN zs 0 k)) (1 * 12 + eN zs 1 k) at hs
  rw [List.nil_append] at hs
  rcases List.mem_append.1 hs with hs | hs
  · exact prtL_sd hz hp (by omega) s hs
  · exact prtL_sd hz (prtP_ok hp _) (by omega) s hs
theorem knw_mem {n : Nat} {zs : List Rg} {pt : Nat → Int} {op : Nat → Bool} (hz : ZOk n zs) (hc : Cons n zs pt) {k : Nat} (hk : k < n) {x : Nat} (hx : x < 24) (h1 : pt x ≠ -1) (h2 : und zs pt k x = -1) : sdG x ∈ (knw zs n pt op k 2).2.2 := by
  have a0 := hz.lt (l := 0) hk
  have a1 := hz.lt (l := 1) hk
  show sdG x ∈ ([] ++ prtL zs pt (0 * 12 + eN zs 0 k)) ++ prtL zs (prtP zs pt (0 * 12 + eN zs 0 k)) (1 * 12 + eN zs 1 k)
  rw [List.nil_append, List.mem_append]
  rcases und_cases hc k x hx with ⟨_, h⟩ | ⟨e, _⟩
  · obtain ⟨q, hq, hm⟩ := h.resolve_left h1
    by_cases h3 : pt (0 * 12 + eN zs 0 k) = (q : Int)
    · exact .inl (prtL_mem hz hc (by omega) hx (by omega) (by omega))
    · have h4 := (meet_end hz hc hx hq hm).resolve_left h3
      refine .inr ?_
      have y0 : 0 * 12 + eN zs 0 k < 24 := by omega
      have y1 : 1 * 12 + eN zs 1 k < 24 := by omega
      have hat := prtP_at hz hc y0
      have hc1 : Cons n zs (prtP zs pt (0 * 12 + eN zs 0 k)) := hc.part hz (p := fun q => pt (0 * 12 + eN zs 0 k) = (q : Int)) (fun x hx => by
        rw [hat x hx]
        by_cases h : pt (0 * 12 + eN zs 0 k) ≠ -1 ∧ pt x = pt (0 * 12 + eN zs 0 k)
        · rw [if_pos h]
          obtain ⟨q, hq, e⟩ := (hc.ptOk _ y0).resolve_left h.1
          exact .inl ⟨rfl, .inr ⟨q, by rw [h.2]; exact e, e⟩⟩
        · rw [if_neg h]
          exact .inr ⟨rfl, fun q e1 e2 => h ⟨by omega, by rw [e1, e2]⟩⟩)
      have b1 : prtP zs pt (0 * 12 + eN zs 0 k) (1 * 12 + eN zs 1 k) = (q : Int) := by rw [hat _ y1, if_neg (fun h => h3 (by rw [← h.2]; exact h4))]; exact h4
      have b2 : prtP zs pt (0 * 12 + eN zs 0 k) x = (q : Int) := by rw [hat _ hx, if_neg (fun h => h3 (by rw [← h.2]; exact hq))]; exact hq
      exact prtL_mem hz hc1 y1 hx (by omega) (by omega)
  · rw [e] at h2; exact absurd h2 h1
/-- The links that stay open when one is known. -/
def opW (n : Nat) (zs : List Rg) (op : Nat → Bool) (k : Nat) : Nat → Bool := fun j => op j && !(decide (j < n) && mtB zs j k)
theorem knw_op (zs : List Rg) (n : Nat) (pt : Nat → Int) (op : Nat → Bool) (k : Nat) : (knw zs n pt op k 2).2.1 = opW n zs op k := by
  funext j
  show clsO zs n 1 (eN zs 1 k) (clsO zs n 0 (eN zs 0 k) op n) n j = _
  simp only [clsO, opW, mtB]
  by_cases hj : j < n
  · simp only [hj, decide_true, Bool.true_and]
    cases op j <;> cases decide (eN zs 0 j = eN zs 0 k) <;> cases decide (eN zs 1 j = eN zs 1 k) <;> rfl
  · simp [hj]
end Go.Proofs.Ytnodkgejggnehaa

namespace Go.Proofs.Ytnodkgejggnehaa
set_option linter.unusedSimpArgs false
set_option linter.unusedVariables false
theorem Cons.congr {n : Nat} {zs : List Rg} {p q : Nat → Int} (hz : ZOk n zs) (h : Cons n zs p) (e : ∀ x, x < 24 → q x = p x) : Cons n zs q := by
  intro l i hl hi
  rw [e _ (by omega)]
  rcases h l i hl hi with h1 | ⟨k, h1, h2, h3, h4⟩
  · exact .inl h1
  · have := hz.lt (l := 1 - l) h1
    exact .inr ⟨k, h1, h2, h3, by rw [e _ (by omega)]; exact h4⟩
theorem nomeet {zs : List Rg} {j k : Nat} (h : ¬ mtB zs j k = true) : eN zs 0 j ≠ eN zs 0 k ∧ eN zs 1 j ≠ eN zs 1 k := by
  unfold mtB at h
  rw [Bool.or_eq_true, decide_eq_true_eq, decide_eq_true_eq] at h
  exact ⟨fun e => h (.inl e), fun e => h (.inr e)⟩
theorem und_end {n : Nat} {zs : List Rg} {pt : Nat → Int} (hz : ZOk n zs) (hc : Cons n zs pt) {k : Nat} (hk : k < n) : ∀ l, l < 2 → und zs pt k (l * 12 + eN zs l k) = -1 := by
  intro l hl
  have := hz.lt (l := l) hk
  rcases und_cases hc k (l * 12 + eN zs l k) (by omega) with ⟨e, _⟩ | ⟨e, h⟩
  · exact e
  · rw [e]
    rcases hc l (eN zs l k) hl (by omega) with h1 | ⟨q, h1, h2, h3, _⟩
    · exact h1
    · refine absurd ?_ (h q h2)
      unfold mtB
      rcases (by omega : l = 0 ∨ l = 1) with rfl | rfl
      · rw [decide_eq_true h3]; rfl
      · rw [decide_eq_true h3]; simp
/-- Partners with one link more known. -/
def ptW (n : Nat) (zs : List Rg) (pt : Nat → Int) (op : Nat → Bool) (k : Nat) : Nat → Int := prP (knw zs n pt op k 2).1 (eN zs 0 k) (eN zs 1 k) k 2
theorem ptW_at {n : Nat} {zs : List Rg} {pt : Nat → Int} {op : Nat → Bool} (hz : ZOk n zs) (hc : Cons n zs pt) {k : Nat} (hk : k < n) {l i : Nat} (hl : l < 2) (hi : i < 12) : ptW n zs pt op k (l * 12 + i) = if i = eN zs l k then (k : Int) else und zs pt k (l * 12 + i) := by
  unfold ptW
  rw [prP_at hz hk _ hl hi]
  split
  · rfl
  · exact knw_und hz hc hk _ (by omega)
theorem with_cons {n : Nat} {zs : List Rg} {pt : Nat → Int} {op : Nat → Bool} (hz : ZOk n zs) (hc : Cons n zs pt) {k : Nat} (hk : k < n) : Cons n zs (ptW n zs pt op k) := by
  have h1 : Cons n zs (knw zs n pt op k 2).1 := (hc.part hz (fun x hx => und_cases hc k x hx)).congr hz (knw_und hz hc hk)
  refine h1.pair hz hk (fun l hl => ?_)
  rw [knw_und hz hc hk _ (by have := hz.lt (l := l) hk; omega)]
  exact und_end hz hc hk l hl
theorem opW_iff {n : Nat} {zs : List Rg} {op : Nat → Bool} {k j : Nat} (hj : j < n) : opW n zs op k j = true ↔ op j = true ∧ ¬ mtB zs j k = true := by
  unfold opW
  simp [hj]
theorem with_opi {n : Nat} {zs : List Rg} {pt : Nat → Int} {op : Nat → Bool} (hz : ZOk n zs) (hc : Cons n zs pt) (ho : OpI n zs op pt) {k : Nat} (hk : k < n) : OpI n zs (opW n zs op k) (ptW n zs pt op k) := by
  intro j hj hoj l hl
  obtain ⟨h1, h2⟩ := (opW_iff hj).1 hoj
  have h3 := nomeet h2
  have h4 := hz.lt (l := l) hj
  rw [ptW_at hz hc hk hl h4]
  have h5 : eN zs l j ≠ eN zs l k := by rcases (by omega : l = 0 ∨ l = 1) with rfl | rfl; exact h3.1; exact h3.2
  rw [if_neg h5]
  rcases und_cases hc k (l * 12 + eN zs l j) (by omega) with ⟨e, _⟩ | ⟨e, h⟩
  · exact .inl e
  · rw [e]
    rcases ho j hj h1 l hl with h6 | ⟨q, q1, q2, q3⟩
    · exact .inl h6
    · exact .inr ⟨q, q1, q2, (opW_iff q1).2 ⟨q3, h q q2⟩⟩
theorem gAt_mem {L : List Rg} {s : Rg} (h : s ∈ L) : ∃ j, j < L.length ∧ gAt L j = s := by
  obtain ⟨j, hj, e⟩ := List.getElem_of_mem h
  exact ⟨j, hj, by rw [gAt_eq hj]; exact e⟩
theorem sdG_at {l i : Nat} (hi : i < 12) : sdG (l * 12 + i) = ⟨(l : Int), (i : Int)⟩ := by
  unfold sdG
  rw [show (l * 12 + i) / 12 = l by omega, show (l * 12 + i) % 12 = i by omega]
theorem with_gb {n : Nat} {zs : List Rg} {pt pt' : Nat → Int} {op : Nat → Bool} {J : List Nat} (hz : ZOk n zs) (h : GB n zs op pt J) {k : Nat} (hk : k < n) (hok : op k = true) (g : Gro n zs (opW n zs op k) (ptW n zs pt op k) pt')
    (hce : ∀ j, j < (knw zs n pt op k 2).2.2.length → ∀ l i : Nat, gAt (knw zs n pt op k 2).2.2 j = ⟨(l : Int), (i : Int)⟩ → l < 2 → i < 12 → pt' (l * 12 + i) = -1 → Cert n zs (opW n zs op k) pt' l i) : GB n zs (opW n zs op k) pt' (k :: J) := by
  obtain ⟨c, c1, c2⟩ := h.kon
  obtain ⟨sA, sB⟩ := Kon.sharp hz h.cons c1 c2
  have hc := h.cons
  have k0 := hz.lt (l := 0) hk
  have k1 := hz.lt (l := 1) hk
  have pat : ∀ x, x < 24 → x ≠ eN zs 0 k → x ≠ 12 + eN zs 1 k → ptW n zs pt op k x = und zs pt k x := fun x hx n0 n1 => by
    have := ptW_at (op := op) hz hc hk (l := x / 12) (i := x % 12) (by omega) (by omega)
    rw [show x / 12 * 12 + x % 12 = x by omega] at this
    rw [this, if_neg]
    intro e
    rcases (by omega : x / 12 = 0 ∨ x / 12 = 1) with e2 | e2
    · rw [e2] at e; omega
    · rw [e2] at e; omega
  have hW := with_cons (op := op) hz hc hk
  have hOW := with_opi hz hc h.opi hk
  let c' : Nat → Bool := fun x => c x && !decide (x = eN zs 0 k) && !decide (x = 12 + eN zs 1 k)
  have hc' : ∀ x, c' x = true ↔ c x = true ∧ x ≠ eN zs 0 k ∧ x ≠ 12 + eN zs 1 k := fun x => by
    show (c x && !decide (x = eN zs 0 k) && !decide (x = 12 + eN zs 1 k)) = true ↔ _
    simp [and_assoc]
  have mem : ∀ x, x < 24 → c' x = true → ∃ q, q < n ∧ op q = true ∧ pt x = (q : Int) ∧ ((und zs pt k x = -1 ∧ mtB zs q k = true) ∨ (und zs pt k x = (q : Int) ∧ ¬ mtB zs q k = true)) := fun x hx hcx => by
    obtain ⟨q, q1, q2, q3⟩ := sA x hx ((hc' x).1 hcx).1
    refine ⟨q, q1, q2, q3, ?_⟩
    rcases und_cases hc k x hx with ⟨e, h2⟩ | ⟨e, h2⟩
    · rcases h2 with h2 | ⟨r, r1, r2⟩
      · omega
      · obtain rfl : q = r := by omega
        exact .inl ⟨e, r2⟩
    · exact .inr ⟨by rw [e]; exact q3, h2 q q3⟩
  refine gb_gro hz hW hOW g (fun q hq hoq e => ?_) (fun q hq => ?_) (List.nodup_cons.2 ⟨fun hm => (by have := (h.jk k hm).2.1; rw [hok] at this; cases this), h.jn⟩)
    (kon_step (c := c') hz hW hOW (fun j hj hoj => ?_) (fun x hx hcx => ?_) (fun j hj hoj hjj hb => ?_) (fun x y hx hy => ?_) g (fun l i hl hi hci h0 h1 => ?_))
  · rw [ptW_at hz hc hk (by omega) (hz.lt hq)] at e
    by_cases e2 : eN zs 0 q = eN zs 0 k
    · rw [if_pos e2] at e
      have : q = k := by omega
      rw [this]; simp
    · rw [if_neg e2] at e
      rcases und_cases hc k (0 * 12 + eN zs 0 q) (by have := hz.lt (l := 0) hq; omega) with ⟨e3, _⟩ | ⟨e3, h3⟩
      · omega
      · rw [e3] at e
        refine List.mem_cons_of_mem _ (h.jc q hq ?_ e)
        cases h5 : op q
        · rfl
        · have := (opW_iff (k := k) (zs := zs) hq).2 ⟨h5, h3 q e⟩
          rw [hoq] at this; cases this
  · rcases List.mem_cons.1 hq with rfl | hq
    · refine ⟨hk, ?_, ?_⟩
      · simp [opW, mtB_refl, hk]
      · rw [ptW_at hz hc hk (by omega) k0, if_pos rfl]
    · obtain ⟨q1, q2, q3⟩ := h.jk q hq
      refine ⟨q1, by simp [opW, q2], ?_⟩
      have hb := hc.both hz q1 (l := 0) (by omega) q3
      have nm : ∀ l, l < 2 → eN zs l q ≠ eN zs l k := fun l hl e => by
        have h4 := h.opi k hk hok l hl
        rw [← e, hb l hl] at h4
        rcases h4 with h4 | ⟨r, r1, r2, r3⟩
        · omega
        · obtain rfl : q = r := by omega
          rw [q2] at r3; cases r3
      rw [ptW_at hz hc hk (by omega) (hz.lt q1), if_neg (nm 0 (by omega))]
      rcases und_cases hc k (0 * 12 + eN zs 0 q) (by have := hz.lt (l := 0) q1; omega) with ⟨_, e3⟩ | ⟨e3, _⟩
      · rcases e3 with e3 | ⟨r, r1, r2⟩
        · omega
        · obtain rfl : q = r := by omega
          unfold mtB at r2
          rw [Bool.or_eq_true, decide_eq_true_eq, decide_eq_true_eq] at r2
          rcases r2 with r2 | r2
          · exact absurd r2 (nm 0 (by omega))
          · exact absurd r2 (nm 1 (by omega))
      · rw [e3]; exact q3
  · obtain ⟨h1, h2⟩ := (opW_iff hj).1 hoj
    obtain ⟨n0, n1⟩ := nomeet h2
    have j0 := hz.lt (l := 0) hj
    rcases c1 j hj h1 with h3 | h3
    · exact .inl ((hc' _).2 ⟨h3, n0, by omega⟩)
    · exact .inr ((hc' _).2 ⟨h3, by omega, by omega⟩)
  · obtain ⟨a1, a2, a3⟩ := (hc' x).1 hcx
    rw [pat x hx a2 a3]
    obtain ⟨q, q1, q2, q3, q4⟩ := mem x hx hcx
    rcases q4 with ⟨q4, _⟩ | ⟨q4, q5⟩
    · exact .inl q4
    · exact .inr ⟨q, q1, (opW_iff q1).2 ⟨q2, q5⟩, q4⟩
  · obtain ⟨h1, h2⟩ := (opW_iff hj).1 hoj
    obtain ⟨n0, n1⟩ := nomeet h2
    rw [ptW_at hz hc hk (by omega) (hz.lt hj), if_neg n0] at hjj
    refine sB j (mem_jL.2 ⟨hj, h1, ?_⟩) ⟨((hc' _).1 hb.1).1, ((hc' _).1 hb.2).1⟩
    rcases und_cases hc k (0 * 12 + eN zs 0 j) (by have := hz.lt (l := 0) hj; omega) with ⟨e3, _⟩ | ⟨e3, _⟩
    · omega
    · rw [← e3]; exact hjj
  · -- one free item at most
    have one : ∀ x, x ∈ frL (ptW n zs pt op k) c' → ∃ q : Nat, pt x = (q : Int) ∧ ((c (eN zs 0 k) = true ∧ pt (12 + eN zs 1 k) = (q : Int) ∧ x = eN zs 0 q) ∨ (c (eN zs 0 k) = false ∧ pt (eN zs 0 k) = (q : Int) ∧ x = 12 + eN zs 1 q)) := fun x hx => by
      obtain ⟨x1, x2, x3⟩ := mem_frL.1 hx
      obtain ⟨a1, a2, a3⟩ := (hc' x).1 x2
      rw [pat x x1 a2 a3] at x3
      obtain ⟨q, q1, q2, q3, q4⟩ := mem x x1 x2
      have hm : mtB zs q k = true := by
        rcases q4 with ⟨_, q5⟩ | ⟨q4, _⟩
        · exact q5
        · omega
      obtain ⟨_, e0, e1, e2⟩ := hc.end hz x1 q3
      rw [Nat.zero_mul, Nat.zero_add] at e0
      rw [Nat.one_mul] at e1
      have nb : ¬ (c (eN zs 0 q) = true ∧ c (12 + eN zs 1 q) = true) := sB q (mem_jL.2 ⟨q1, q2, by rw [Nat.zero_mul, Nat.zero_add]; exact e0⟩)
      refine ⟨q, q3, ?_⟩
      unfold mtB at hm
      rw [Bool.or_eq_true, decide_eq_true_eq, decide_eq_true_eq] at hm
      cases hck : c (eN zs 0 k) with
      | true =>
        refine .inl ⟨rfl, ?_⟩
        by_cases hm0 : eN zs 0 q = eN zs 0 k
        · exfalso
          rcases e2 with e2 | e2
          · exact a2 (by rw [e2, hm0])
          · exact nb ⟨by rw [hm0]; exact hck, by rw [← e2]; exact a1⟩
        · have hm1 := hm.resolve_left hm0
          refine ⟨by rw [← hm1]; exact e1, ?_⟩
          rcases e2 with e2 | e2
          · exact e2
          · exact absurd (by rw [e2, hm1]) a3
      | false =>
        refine .inr ⟨rfl, ?_⟩
        have hcr := (c1 k hk hok).resolve_left (by rw [hck]; simp)
        by_cases hm1 : eN zs 1 q = eN zs 1 k
        · exfalso
          rcases e2 with e2 | e2
          · exact nb ⟨by rw [← e2]; exact a1, by rw [hm1]; exact hcr⟩
          · exact a3 (by rw [e2, hm1])
        · have hm0 := hm.resolve_right hm1
          refine ⟨by rw [← hm0]; exact e0, ?_⟩
          rcases e2 with e2 | e2
          · exact absurd (by rw [e2, hm0]) a2
          · exact e2
    obtain ⟨q, _, q1⟩ := one x hx
    obtain ⟨r, _, r1⟩ := one y hy
    rcases q1 with ⟨a, b, d⟩ | ⟨a, b, d⟩ <;> rcases r1 with ⟨a', b', d'⟩ | ⟨a', b', d'⟩
    · have : q = r := by omega
      rw [d, d', this]
    · rw [a] at a'; cases a'
    · rw [a] at a'; cases a'
    · have : q = r := by omega
      rw [d, d', this]
  · have hx : l * 12 + i < 24 := by omega
    obtain ⟨a1, a2, a3⟩ := (hc' _).1 hci
    rw [pat _ hx a2 a3] at h0
    obtain ⟨q, q1, q2, q3, q4⟩ := mem _ hx hci
    obtain ⟨j, hj, e⟩ := gAt_mem (knw_mem (op := op) hz hc hk hx (by omega) h0)
    rw [sdG_at hi] at e
    exact hce j hj l i e hl hi h1
end Go.Proofs.Ytnodkgejggnehaa

namespace Go.Proofs.Ytnodkgejggnehaa
set_option linter.unusedSimpArgs false
set_option linter.unusedVariables false
/-- Partners without some links. -/
def remN (pt : Nat → Int) (ns : List Int) : Nat → Int := fun x => if pt x ≠ -1 ∧ pt x ∈ ns then -1 else pt x
/-- Open links without some. -/
def opX (op : Nat → Bool) (ns : List Int) : Nat → Bool := fun j => op j && !decide ((j : Int) ∈ ns)
theorem remN_cases {n : Nat} {zs : List Rg} {pt : Nat → Int} (hc : Cons n zs pt) (ns : List Int) : ∀ x, x < 24 → (remN pt ns x = -1 ∧ (pt x = -1 ∨ ∃ q : Nat, pt x = (q : Int) ∧ (q : Int) ∈ ns)) ∨ (remN pt ns x = pt x ∧ ∀ q : Nat, pt x = (q : Int) → ¬ (q : Int) ∈ ns) := by
  intro x hx
  unfold remN
  by_cases h : pt x ≠ -1 ∧ pt x ∈ ns
  · rw [if_pos h]
    obtain ⟨q, hq, e⟩ := (hc.ptOk x hx).resolve_left h.1
    exact .inl ⟨rfl, .inr ⟨q, e, by rw [← e]; exact h.2⟩⟩
  · rw [if_neg h]
    exact .inr ⟨rfl, fun q e hm => h ⟨by omega, by rw [e]; exact hm⟩⟩
/-- What a refusal of some links leaves. -/
structure RfS (n : Nat) (zs : List Rg) (pt : Nat → Int) (op : Nat → Bool) (ns : List Int) (s : (Nat → Int) × (Nat → Bool) × List Rg) : Prop where
  p : ∀ x, x < 24 → s.1 x = remN pt ns x
  o : s.2.1 = opX op ns
  sd : SdOk s.2.2
  mem : ∀ x, x < 24 → pt x ≠ -1 → remN pt ns x = -1 → sdG x ∈ s.2.2
theorem rfs_snocS {n : Nat} {zs : List Rg} {pt : Nat → Int} {op : Nat → Bool} {ns : List Int} {s : (Nat → Int) × (Nat → Bool) × List Rg} (hz : ZOk n zs) (hc : Cons n zs pt) (h : RfS n zs pt op ns s) {k : Nat} (hk : k < n) : RfS n zs pt op (ns ++ [(k : Int)]) (rf1 zs s k) := by
  have h0 := hz.lt (l := 0) hk
  have y0 : 0 * 12 + eN zs 0 k < 24 := by omega
  have hcs : Cons n zs s.1 := (hc.part hz (fun x hx => remN_cases hc ns x hx)).congr hz h.p
  have ho : (fun j => if j = k then false else s.2.1 j) = opX op (ns ++ [(k : Int)]) := by
    funext j
    rw [h.o]
    unfold opX
    by_cases e : j = k
    · rw [if_pos e, e]; simp
    · rw [if_neg e]
      have : ((j : Int) ∈ ns ++ [(k : Int)]) ↔ (j : Int) ∈ ns := by
        simp only [List.mem_append, List.mem_singleton]
        constructor
        · rintro (h | h)
          · exact h
          · exact absurd (by omega) e
        · exact .inl
      rw [decide_eq_decide.2 this]
  -- what the link's end has
  have hend : ∀ x, x < 24 → pt x = (k : Int) → pt (0 * 12 + eN zs 0 k) = (k : Int) := fun x hx e => (hc.end hz hx e).2.1
  have hmem : ∀ q : Nat, ((q : Int) ∈ ns ++ [(k : Int)]) ↔ ((q : Int) ∈ ns ∨ q = k) := fun q => by
    simp only [List.mem_append, List.mem_singleton]
    constructor
    · rintro (h | h)
      · exact .inl h
      · exact .inr (by omega)
    · rintro (h | h)
      · exact .inl h
      · exact .inr (by omega)
  unfold rf1
  by_cases hj : s.1 (0 * 12 + eN zs 0 k) = (k : Int)
  · rw [if_pos hj]
    have hp0 : pt (0 * 12 + eN zs 0 k) = (k : Int) ∧ ¬ (k : Int) ∈ ns := by
      rw [h.p _ y0] at hj
      rcases remN_cases hc ns _ y0 with ⟨e, _⟩ | ⟨e, h2⟩
      · omega
      · rw [e] at hj; exact ⟨hj, h2 k hj⟩
    refine ⟨fun x hx => ?_, ho, fun r hr => ?_, fun x hx h1 h2 => ?_⟩
    · show prtP zs s.1 (0 * 12 + eN zs 0 k) x = _
      rw [prtP_at hz hcs y0 x hx, hj, h.p x hx]
      rcases remN_cases hc ns x hx with ⟨e, h2⟩ | ⟨e, h2⟩
      · rw [e, if_neg (fun h3 => by have := h3.2; omega)]
        rcases remN_cases hc (ns ++ [(k : Int)]) x hx with ⟨e3, _⟩ | ⟨e3, h3⟩
        · exact e3.symm
        · rw [e3]
          rcases h2 with h2 | ⟨q, q1, q2⟩
          · exact h2.symm
          · exact absurd ((hmem q).2 (.inl q2)) (h3 q q1)
      · rw [e]
        by_cases e4 : pt x = (k : Int)
        · rw [if_pos ⟨by omega, e4⟩]
          rcases remN_cases hc (ns ++ [(k : Int)]) x hx with ⟨e3, _⟩ | ⟨e3, h3⟩
          · exact e3.symm
          · exact absurd ((hmem k).2 (.inr rfl)) (h3 k e4)
        · rw [if_neg (fun h3 => e4 h3.2)]
          rcases remN_cases hc (ns ++ [(k : Int)]) x hx with ⟨e3, h3⟩ | ⟨e3, _⟩
          · rw [e3]
            rcases h3 with h3 | ⟨q, q1, q2⟩
            · exact h3
            · rcases (hmem q).1 q2 with q3 | q3
              · exact absurd q3 (h2 q q1)
              · rw [q3] at q1; exact absurd q1 e4
          · exact e3.symm
    · rcases List.mem_append.1 hr with hr | hr
      · exact h.sd r hr
      · exact prtL_sd hz hcs.ptOk y0 r hr
    · show sdG x ∈ s.2.2 ++ prtL zs s.1 (0 * 12 + eN zs 0 k)
      rw [List.mem_append]
      rcases remN_cases hc ns x hx with ⟨e, _⟩ | ⟨e, h3⟩
      · exact .inl (h.mem x hx h1 e)
      · refine .inr (prtL_mem hz hcs y0 hx (by omega) ?_)
        rw [h.p x hx, e, hj]
        rcases remN_cases hc (ns ++ [(k : Int)]) x hx with ⟨_, h4⟩ | ⟨e4, _⟩
        · rcases h4 with h4 | ⟨q, q1, q2⟩
          · exact absurd h4 h1
          · rcases (hmem q).1 q2 with q3 | q3
            · exact absurd q3 (h3 q q1)
            · rw [← q3]; exact q1
        · rw [e4] at h2; exact absurd h2 h1
  · rw [if_neg hj]
    have hsame : ∀ x, x < 24 → remN pt (ns ++ [(k : Int)]) x = remN pt ns x := fun x hx => by
      rcases remN_cases hc ns x hx with ⟨e, h2⟩ | ⟨e, h2⟩
      · rw [e]
        rcases remN_cases hc (ns ++ [(k : Int)]) x hx with ⟨e3, _⟩ | ⟨e3, h3⟩
        · exact e3
        · rcases h2 with h2 | ⟨q, q1, q2⟩
          · rw [e3]; exact h2
          · exact absurd ((hmem q).2 (.inl q2)) (h3 q q1)
      · rw [e]
        rcases remN_cases hc (ns ++ [(k : Int)]) x hx with ⟨e3, h3⟩ | ⟨e3, _⟩
        · rcases h3 with h3 | ⟨q, q1, q2⟩
          · rw [e3]; exact h3.symm
          · rcases (hmem q).1 q2 with q3 | q3
            · exact absurd q3 (h2 q q1)
            · rw [q3] at q1
              have hp := hend x hx q1
              exfalso
              refine hj ?_
              rw [h.p _ y0]
              rcases remN_cases hc ns _ y0 with ⟨e5, h5⟩ | ⟨e5, _⟩
              · rcases h5 with h5 | ⟨r, r1, r2⟩
                · omega
                · obtain rfl : k = r := by omega
                  exact absurd r2 (h2 k q1)
              · rw [e5]; exact hp
        · exact e3
    refine ⟨fun x hx => by rw [hsame x hx]; exact h.p x hx, ho, h.sd, fun x hx h1 h2 => h.mem x hx h1 (by rw [← hsame x hx]; exact h2)⟩
theorem rfs_ok {n : Nat} {zs : List Rg} {pt : Nat → Int} {op : Nat → Bool} (hz : ZOk n zs) (hc : Cons n zs pt) (ns : List Int) (hn : NmOk n ns) : ∀ m, m ≤ ns.length → RfS n zs pt op (ns.take m) (rfs zs pt op (ns.take m)) := by
  intro m
  induction m with
  | zero =>
    intro _
    refine ⟨fun x hx => ?_, ?_, fun s hs => by simp [rfs] at hs, fun x hx h1 h2 => ?_⟩
    · simp [rfs, remN]
    · funext j; simp [rfs, opX]
    · simp [remN] at h2; exact absurd h2 h1
  | succ m ih =>
    intro hm
    obtain ⟨k, hk, e⟩ := hn ns[m] (List.getElem_mem _)
    have ht : ns.take (m + 1) = ns.take m ++ [(k : Int)] := by rw [List.take_succ_eq_append_getElem (by omega), e]
    rw [ht, rfs_snoc]
    exact rfs_snocS hz hc (ih (by omega)) hk
theorem rfs_all {n : Nat} {zs : List Rg} {pt : Nat → Int} {op : Nat → Bool} (hz : ZOk n zs) (hc : Cons n zs pt) (ns : List Int) (hn : NmOk n ns) : RfS n zs pt op ns (rfs zs pt op ns) := by
  have := rfs_ok (op := op) hz hc ns hn ns.length (Nat.le_refl _)
  rwa [List.take_length] at this
theorem rfs_len (zs : List Rg) (pt : Nat → Int) (op : Nat → Bool) (ns : List Int) : (rfs zs pt op ns).2.2.length ≤ 2 * ns.length := by
  have key : ∀ (ns : List Int) (s : (Nat → Int) × (Nat → Bool) × List Rg), (ns.foldl (fun s k => rf1 zs s k.toNat) s).2.2.length ≤ s.2.2.length + 2 * ns.length := by
    intro ns
    induction ns with
    | nil => intro s; simp
    | cons x ns ih =>
      intro s
      have h1 := ih (rf1 zs s x.toNat)
      have h2 := rf1_len zs s x.toNat
      simp only [List.foldl_cons, List.length_cons]
      omega
  have := key ns (pt, op, [])
  simpa [rfs] using this
theorem without_cons {n : Nat} {zs : List Rg} {pt : Nat → Int} {op : Nat → Bool} {ns : List Int} {s : (Nat → Int) × (Nat → Bool) × List Rg} (hz : ZOk n zs) (hc : Cons n zs pt) (h : RfS n zs pt op ns s) : Cons n zs s.1 := (hc.part hz (fun x hx => remN_cases hc ns x hx)).congr hz h.p
theorem opR_iff {op : Nat → Bool} {ns : List Int} {j : Nat} : opX op ns j = true ↔ op j = true ∧ ¬ (j : Int) ∈ ns := by simp [opX]
theorem without_opi {n : Nat} {zs : List Rg} {pt : Nat → Int} {op : Nat → Bool} {ns : List Int} {s : (Nat → Int) × (Nat → Bool) × List Rg} (hz : ZOk n zs) (hc : Cons n zs pt) (ho : OpI n zs op pt) (h : RfS n zs pt op ns s) : OpI n zs (opX op ns) s.1 := by
  intro j hj hoj l hl
  obtain ⟨h1, h2⟩ := opR_iff.1 hoj
  have h4 := hz.lt (l := l) hj
  have hx : l * 12 + eN zs l j < 24 := by omega
  rw [h.p _ hx]
  rcases remN_cases hc ns _ hx with ⟨e, _⟩ | ⟨e, h3⟩
  · exact .inl e
  · rw [e]
    rcases ho j hj h1 l hl with h6 | ⟨q, q1, q2, q3⟩
    · exact .inl h6
    · exact .inr ⟨q, q1, q2, opR_iff.2 ⟨q3, h3 q q2⟩⟩
/-- Links that are left out, of which one at most is joined. -/
theorem without_gb {n : Nat} {zs : List Rg} {pt pt' : Nat → Int} {op : Nat → Bool} {J : List Nat} {ns : List Int} {s : (Nat → Int) × (Nat → Bool) × List Rg} (hz : ZOk n zs) (h : GB n zs op pt J) (hs : RfS n zs pt op ns s)
    (h1j : ∀ j k : Nat, j < n → k < n → (j : Int) ∈ ns → (k : Int) ∈ ns → pt (0 * 12 + eN zs 0 j) = (j : Int) → pt (0 * 12 + eN zs 0 k) = (k : Int) → j = k) (g : Gro n zs (opX op ns) s.1 pt')
    (hce : ∀ j, j < s.2.2.length → ∀ l i : Nat, gAt s.2.2 j = ⟨(l : Int), (i : Int)⟩ → l < 2 → i < 12 → pt' (l * 12 + i) = -1 → Cert n zs (opX op ns) pt' l i) : GB n zs (opX op ns) pt' (J.filter fun k => !decide ((k : Int) ∈ ns)) := by
  obtain ⟨c, c1, c2⟩ := h.kon
  obtain ⟨sA, sB⟩ := Kon.sharp hz h.cons c1 c2
  have hc := h.cons
  have hW := without_cons hz hc hs
  have hOW := without_opi hz hc h.opi hs
  have stay : ∀ k : Nat, k < n → ¬ (k : Int) ∈ ns → pt (0 * 12 + eN zs 0 k) = (k : Int) → s.1 (0 * 12 + eN zs 0 k) = (k : Int) := fun k hk hm e => by
    have := hz.lt (l := 0) hk
    rw [hs.p _ (by omega)]
    rcases remN_cases hc ns (0 * 12 + eN zs 0 k) (by omega) with ⟨_, h3⟩ | ⟨e3, _⟩
    · rcases h3 with h3 | ⟨q, q1, q2⟩
      · omega
      · obtain rfl : k = q := by omega
        exact absurd q2 hm
    · rw [e3]; exact e
  have back : ∀ k : Nat, k < n → s.1 (0 * 12 + eN zs 0 k) = (k : Int) → pt (0 * 12 + eN zs 0 k) = (k : Int) ∧ ¬ (k : Int) ∈ ns := fun k hk e => by
    have := hz.lt (l := 0) hk
    rw [hs.p _ (by omega)] at e
    rcases remN_cases hc ns (0 * 12 + eN zs 0 k) (by omega) with ⟨e3, _⟩ | ⟨e3, h3⟩
    · omega
    · rw [e3] at e; exact ⟨e, h3 k e⟩
  refine gb_gro hz hW hOW g (fun q hq hoq e => ?_) (fun q hq => ?_) (List.Nodup.sublist List.filter_sublist h.jn)
    (kon_step (c := c) hz hW hOW (fun j hj hoj => c1 j hj (opR_iff.1 hoj).1) (fun x hx hcx => ?_) (fun j hj hoj hjj => sB j (mem_jL.2 ⟨hj, (opR_iff.1 hoj).1, (back j hj hjj).1⟩)) (fun x y hx hy => ?_) g (fun l i hl hi hci h0 h1 => ?_))
  · obtain ⟨e1, e2⟩ := back q hq e
    refine List.mem_filter.2 ⟨h.jc q hq ?_ e1, by simp [e2]⟩
    cases h5 : op q
    · rfl
    · have := opR_iff.2 ⟨h5, e2⟩
      rw [hoq] at this; cases this
  · obtain ⟨q1, q2⟩ := List.mem_filter.1 hq
    obtain ⟨a1, a2, a3⟩ := h.jk q q1
    simp only [Bool.not_eq_true', decide_eq_false_iff_not] at q2
    exact ⟨a1, by simp [opX, a2], stay q a1 q2 a3⟩
  · obtain ⟨q, q1, q2, q3⟩ := sA x hx hcx
    rw [hs.p x hx]
    rcases remN_cases hc ns x hx with ⟨e, _⟩ | ⟨e, h3⟩
    · exact .inl e
    · rw [e]; exact .inr ⟨q, q1, opR_iff.2 ⟨q2, h3 q q3⟩, q3⟩
  · have one : ∀ x, x ∈ frL s.1 c → ∃ q : Nat, q < n ∧ op q = true ∧ (q : Int) ∈ ns ∧ pt (0 * 12 + eN zs 0 q) = (q : Int) ∧ c x = true ∧ (x = eN zs 0 q ∨ x = 12 + eN zs 1 q) := fun x hx => by
      obtain ⟨x1, x2, x3⟩ := mem_frL.1 hx
      obtain ⟨q, q1, q2, q3⟩ := sA x x1 x2
      obtain ⟨_, e0, e1, e2⟩ := hc.end hz x1 q3
      rw [hs.p x x1] at x3
      rcases remN_cases hc ns x x1 with ⟨_, h3⟩ | ⟨e, _⟩
      · rcases h3 with h3 | ⟨r, r1, r2⟩
        · omega
        · obtain rfl : q = r := by omega
          exact ⟨q, q1, q2, r2, e0, x2, e2⟩
      · omega
    obtain ⟨q, a1, a2, a3, a4, a5, a6⟩ := one x hx
    obtain ⟨r, b1, b2, b3, b4, b5, b6⟩ := one y hy
    obtain rfl := h1j q r a1 b1 a3 b3 a4 b4
    have nb := sB q (mem_jL.2 ⟨a1, a2, a4⟩)
    rcases a6 with a6 | a6 <;> rcases b6 with b6 | b6
    · rw [a6, b6]
    · exact absurd ⟨by rw [← a6]; exact a5, by rw [← b6]; exact b5⟩ nb
    · exact absurd ⟨by rw [← b6]; exact b5, by rw [← a6]; exact a5⟩ nb
    · rw [a6, b6]
  · have hx : l * 12 + i < 24 := by omega
    obtain ⟨q, q1, q2, q3⟩ := sA _ hx hci
    rw [hs.p _ hx] at h0
    obtain ⟨j, hj, e⟩ := gAt_mem (hs.mem _ hx (by omega) h0)
    rw [sdG_at hi] at e
    exact hce j hj l i e hl hi h1
end Go.Proofs.Ytnodkgejggnehaa
