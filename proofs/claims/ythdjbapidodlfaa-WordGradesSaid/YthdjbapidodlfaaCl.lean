/- Stage 4: the document's classes of words, and its Alike. -/
import Derived.Test.YthdjbapidodlfaaBase
import Derived.Test.YthdjbapidodlfaaLn
import Derived.BigQuiet
import Derived.Deep.QuietTactic
namespace Go.Proofs.Ythdjbapidodlfaa
set_option linter.unusedSimpArgs false
set_option linter.unusedVariables false

theorem iAt_set9 {l : List Int} {i j : Nat} (v : Int) (hi : i < l.length) : iAt (l.set i v) j = if i = j then v else iAt l j := by
  unfold iAt
  rw [List.getD_eq_getElem?_getD, List.getD_eq_getElem?_getD, List.getElem?_set]
  split
  · next e => subst e; simp [hi]
  · rfl
/-- Words are alike. -/
inductive Alk (ps : List (Nat × Nat)) : Nat → Nat → Prop
  | rfl (a : Nat) : Alk ps a a
  | fwd {a b c : Nat} : (a, b) ∈ ps → Alk ps b c → Alk ps a c
  | bwd {a b c : Nat} : (b, a) ∈ ps → Alk ps b c → Alk ps a c
theorem Alk.trans {ps : List (Nat × Nat)} {a b c : Nat} (h : Alk ps a b) (h' : Alk ps b c) : Alk ps a c := by
  induction h with
  | rfl => exact h'
  | fwd hp _ ih => exact .fwd hp (ih h')
  | bwd hp _ ih => exact .bwd hp (ih h')
theorem Alk.symm {ps : List (Nat × Nat)} {a b : Nat} (h : Alk ps a b) : Alk ps b a := by
  induction h with
  | rfl => exact .rfl _
  | fwd hp _ ih => exact ih.trans (.bwd hp (.rfl _))
  | bwd hp _ ih => exact ih.trans (.fwd hp (.rfl _))
theorem Alk.mono {ps qs : List (Nat × Nat)} (hs : ∀ p ∈ ps, p ∈ qs) {a b : Nat} (h : Alk ps a b) : Alk qs a b := by
  induction h with
  | rfl => exact .rfl _
  | fwd hp _ ih => exact .fwd (hs _ hp) ih
  | bwd hp _ ih => exact .bwd (hs _ hp) ih
theorem alk_nil {a b : Nat} (h : Alk [] a b) : a = b := by
  cases h with
  | rfl => rfl
  | fwd h => cases h
  | bwd h => cases h
/-- One pair more. -/
theorem alk_snoc {ps : List (Nat × Nat)} {x y a b : Nat} : Alk (ps ++ [(x, y)]) a b ↔ Alk ps a b ∨ (Alk ps a x ∧ Alk ps y b) ∨ (Alk ps a y ∧ Alk ps x b) := by
  constructor
  · intro h
    induction h with
    | rfl => exact .inl (.rfl _)
    | @fwd a c b hp _ ih =>
      rcases List.mem_append.1 hp with h | h
      · rcases ih with ih | ⟨i1, i2⟩ | ⟨i1, i2⟩
        · exact .inl (.fwd h ih)
        · exact .inr (.inl ⟨.fwd h i1, i2⟩)
        · exact .inr (.inr ⟨.fwd h i1, i2⟩)
      · simp only [List.mem_singleton, Prod.mk.injEq] at h
        obtain ⟨rfl, rfl⟩ := h
        rcases ih with ih | ⟨i1, i2⟩ | ⟨i1, i2⟩
        · exact .inr (.inl ⟨.rfl _, ih⟩)
        · exact .inr (.inl ⟨.rfl _, i2⟩)
        · exact .inl i2
    | @bwd a c b hp _ ih =>
      rcases List.mem_append.1 hp with h | h
      · rcases ih with ih | ⟨i1, i2⟩ | ⟨i1, i2⟩
        · exact .inl (.bwd h ih)
        · exact .inr (.inl ⟨.bwd h i1, i2⟩)
        · exact .inr (.inr ⟨.bwd h i1, i2⟩)
      · simp only [List.mem_singleton, Prod.mk.injEq] at h
        obtain ⟨rfl, rfl⟩ := h
        rcases ih with ih | ⟨i1, i2⟩ | ⟨i1, i2⟩
        · exact .inr (.inr ⟨.rfl _, ih⟩)
        · exact .inl i2
        · exact .inr (.inr ⟨.rfl _, i2⟩)
  · have hm : ∀ {a b}, Alk ps a b → Alk (ps ++ [(x, y)]) a b := fun h => h.mono (fun p hp => by simp [hp])
    rintro (h | ⟨h1, h2⟩ | ⟨h1, h2⟩)
    · exact hm h
    · exact (hm h1).trans (.fwd (by simp) (hm h2))
    · exact (hm h1).trans (.bwd (by simp) (hm h2))
/-- The names of classes: each word is its own one at first. -/
def nm0 : List Int := (List.range 101).map (fun i : Nat => (i : Int))
theorem nm0_len : nm0.length = 101 := by simp [nm0]
theorem nm0_at {w : Nat} (h : w ≤ 100) : iAt nm0 w = (w : Int) := by
  rw [iAt_eq (by rw [nm0_len]; omega)]
  simp [nm0]
/-- The class b has the name a from now on. -/
def ren (nm : List Int) (a b : Int) : List Int := nm.map (fun c => if c = b then a else c)
theorem ren_len (nm : List Int) (a b : Int) : (ren nm a b).length = nm.length := by simp [ren]
theorem ren_at {nm : List Int} (a b : Int) {w : Nat} (h : w < nm.length) : iAt (ren nm a b) w = if iAt nm w = b then a else iAt nm w := by
  rw [iAt_eq (by rw [ren_len]; exact h), iAt_eq h]; simp [ren]
theorem ren_same (nm : List Int) (a : Int) : ren nm a a = nm := by
  unfold ren
  conv => rhs; rw [← List.map_id nm]
  exact List.map_congr_left fun c _ => by simp only [id]; split <;> simp_all
def jn (nm : List Int) (p : Nat × Nat) : List Int := ren nm (iAt nm p.1) (iAt nm p.2)
def cls (ps : List (Nat × Nat)) : List Int := ps.foldl jn nm0
theorem cls_snoc (ps : List (Nat × Nat)) (p : Nat × Nat) : cls (ps ++ [p]) = jn (cls ps) p := by simp [cls, List.foldl_append]
def inW (ps : List (Nat × Nat)) : Prop := ∀ p ∈ ps, p.1 ≤ 100 ∧ p.2 ≤ 100
theorem cls_len (ps : List (Nat × Nat)) : (cls ps).length = 101 := by
  have : ∀ (l : List (Nat × Nat)) (nm : List Int), (l.foldl jn nm).length = nm.length := by
    intro l
    induction l with
    | nil => intro nm; rfl
    | cons p l ih => intro nm; rw [List.foldl_cons, ih]; simp [jn, ren_len]
  unfold cls
  rw [this, nm0_len]
/-- What the names tell: whether words are alike; each name is a word of its class. -/
theorem cls_ok : ∀ (n : Nat) (ps : List (Nat × Nat)), ps.length = n → inW ps → (∀ a b, a ≤ 100 → b ≤ 100 → (iAt (cls ps) a = iAt (cls ps) b ↔ Alk ps a b)) ∧ ∀ a, a ≤ 100 → ∃ r : Nat, r ≤ 100 ∧ iAt (cls ps) a = (r : Int) ∧ Alk ps a r := by
  intro n
  induction n with
  | zero =>
    intro ps hl _
    have : ps = [] := List.length_eq_zero_iff.1 hl
    subst this
    have e : cls [] = nm0 := rfl
    rw [e]
    refine ⟨fun a b ha hb => ?_, fun a ha => ⟨a, ha, nm0_at ha, .rfl _⟩⟩
    rw [nm0_at ha, nm0_at hb]
    constructor
    · intro h; have : a = b := by omega
      subst this; exact .rfl _
    · intro h; rw [alk_nil h]
  | succ n ih =>
    intro ps hl hin
    rcases List.eq_nil_or_concat ps with rfl | ⟨qs, ⟨x, y⟩, rfl⟩
    · simp at hl
    · simp only [List.concat_eq_append] at hl hin ⊢
      have hlq : qs.length = n := by simp at hl; exact hl
      have hinq : inW qs := fun p hp => hin p (by simp [hp])
      obtain ⟨hx, hy⟩ := hin (x, y) (by simp)
      dsimp only at hx hy
      obtain ⟨h1, h2⟩ := ih qs hlq hinq
      have hlen := cls_len qs
      rw [cls_snoc]
      have hat : ∀ a, a ≤ 100 → iAt (jn (cls qs) (x, y)) a = if iAt (cls qs) a = iAt (cls qs) y then iAt (cls qs) x else iAt (cls qs) a := fun a ha => ren_at _ _ (by omega)
      refine ⟨fun a b ha hb => ?_, fun a ha => ?_⟩
      · rw [hat a ha, hat b hb, alk_snoc, ← h1 a b ha hb, ← h1 a x ha hx, ← h1 y b hy hb, ← h1 a y ha hy, ← h1 x b hx hb]
        generalize iAt (cls qs) a = α
        generalize iAt (cls qs) b = β
        generalize iAt (cls qs) x = ξ
        generalize iAt (cls qs) y = η
        split <;> split <;> omega
      · rw [hat a ha]
        split
        · next e =>
          obtain ⟨r, hr, e1, e2⟩ := h2 x hx
          refine ⟨r, hr, e1, ?_⟩
          have hay := (h1 a y ha hy).1 e
          exact alk_snoc.2 (.inr (.inr ⟨hay, e2⟩))
        · obtain ⟨r, hr, e1, e2⟩ := h2 a ha
          exact ⟨r, hr, e1, alk_snoc.2 (.inl e2)⟩
theorem cls_alk {ps : List (Nat × Nat)} (hin : inW ps) {a b : Nat} (ha : a ≤ 100) (hb : b ≤ 100) : iAt (cls ps) a = iAt (cls ps) b ↔ Alk ps a b := (cls_ok _ ps rfl hin).1 a b ha hb
end Go.Proofs.Ythdjbapidodlfaa
namespace Go.Proofs.Ythdjbapidodlfaa
/-! The document's classes: each pair has the lesser one of both, again and again. -/
def sr (o : List Int) (p : Nat × Nat) : List Int := (o.set p.1 (min (iAt o p.1) (iAt o p.2))).set p.2 (min (iAt o p.1) (iAt o p.2))
def rnd (ps : List (Nat × Nat)) (o : List Int) : List Int := ps.foldl sr o
def rnds (ps : List (Nat × Nat)) : Nat → List Int
  | 0 => nm0
  | r + 1 => rnd ps (rnds ps r)
def refC (ps : List (Nat × Nat)) : List Int := rnds ps ps.length
theorem sr_len (o : List Int) (p : Nat × Nat) : (sr o p).length = o.length := by simp [sr]
theorem sr_at {o : List Int} {p : Nat × Nat} (h1 : p.1 < o.length) (h2 : p.2 < o.length) (w : Nat) : iAt (sr o p) w = if w = p.1 ∨ w = p.2 then min (iAt o p.1) (iAt o p.2) else iAt o w := by
  unfold sr
  rw [iAt_set9 _ (by simp; exact h2), iAt_set9 _ h1]
  by_cases e2 : p.2 = w
  · simp [e2]
  · by_cases e1 : p.1 = w
    · simp [e1, e2]
    · simp [e1, e2, Ne.symm e1, Ne.symm e2]
/-- What stays over the rounds: each number is a word that is alike. -/
def RI (ps : List (Nat × Nat)) (o : List Int) : Prop := o.length = 101 ∧ ∀ w, w ≤ 100 → ∃ r : Nat, r ≤ 100 ∧ iAt o w = (r : Int) ∧ Alk ps w r
theorem ri_start (ps : List (Nat × Nat)) : RI ps nm0 := ⟨nm0_len, fun w h => ⟨w, h, nm0_at h, .rfl _⟩⟩
theorem ri_sr {ps : List (Nat × Nat)} {o : List Int} (h : RI ps o) {p : Nat × Nat} (hp : p ∈ ps) (hin : inW ps) : RI ps (sr o p) := by
  obtain ⟨h1, h2⟩ := h
  obtain ⟨b1, b2⟩ := hin p hp
  refine ⟨by rw [sr_len, h1], fun w hw => ?_⟩
  rw [sr_at (by omega) (by omega)]
  obtain ⟨r1, q1, e1, a1⟩ := h2 p.1 b1
  obtain ⟨r2, q2, e2, a2⟩ := h2 p.2 b2
  have h12 : Alk ps p.1 p.2 := .fwd hp (.rfl _)
  split
  · next hc =>
    have hw1 : Alk ps w p.1 := by
      rcases hc with rfl | rfl
      · exact .rfl _
      · exact h12.symm
    rcases Nat.le_total r1 r2 with hl | hl
    · exact ⟨r1, q1, by rw [e1, e2]; omega, hw1.trans a1⟩
    · exact ⟨r2, q2, by rw [e1, e2]; omega, (hw1.trans h12).trans a2⟩
  · exact h2 w hw
/-- The number m, the least one of its class, stays where it is. -/
def Least (ps : List (Nat × Nat)) (m : Nat) : Prop := m ≤ 100 ∧ ∀ a, a ≤ 100 → Alk ps m a → m ≤ a
theorem ri_ge {ps : List (Nat × Nat)} {o : List Int} (h : RI ps o) {m : Nat} (hm : Least ps m) {w : Nat} (hw : w ≤ 100) (ha : Alk ps m w) : (m : Int) ≤ iAt o w := by
  obtain ⟨r, q, e, a⟩ := h.2 w hw
  have := hm.2 r q (ha.trans a)
  omega
theorem sr_keep {ps : List (Nat × Nat)} {o : List Int} (h : RI ps o) (hin : inW ps) {m : Nat} (hm : Least ps m) {p : Nat × Nat} (hp : p ∈ ps) {w : Nat} (hw : w ≤ 100) (ha : Alk ps m w) (he : iAt o w = m) : iAt (sr o p) w = m := by
  obtain ⟨b1, b2⟩ := hin p hp
  have h1 := h.1
  rw [sr_at (by omega) (by omega)]
  split
  · next hc =>
    have h12 : Alk ps p.1 p.2 := .fwd hp (.rfl _)
    have g1 : (m : Int) ≤ iAt o p.1 := ri_ge h hm b1 (by rcases hc with rfl | rfl; exact ha; exact ha.trans h12.symm)
    have g2 : (m : Int) ≤ iAt o p.2 := ri_ge h hm b2 (by rcases hc with rfl | rfl; exact ha.trans h12; exact ha)
    rcases hc with rfl | rfl <;> omega
  · exact he
theorem fold_keep {ps : List (Nat × Nat)} (hin : inW ps) {m : Nat} (hm : Least ps m) : ∀ (l : List (Nat × Nat)) (o : List Int), (∀ p ∈ l, p ∈ ps) → RI ps o → RI ps (l.foldl sr o) ∧ ∀ w, w ≤ 100 → Alk ps m w → iAt o w = m → iAt (l.foldl sr o) w = m := by
  intro l
  induction l with
  | nil => intro o _ h; exact ⟨h, fun w _ _ h => h⟩
  | cons p l ih =>
    intro o hs h
    have hp := hs p (by simp)
    obtain ⟨i1, i2⟩ := ih (sr o p) (fun q hq => hs q (by simp [hq])) (ri_sr h hp hin)
    exact ⟨i1, fun w hw ha he => i2 w hw ha (sr_keep h hin hm hp hw ha he)⟩
/-- A pair one of which has m has it at both ends behind the round. -/
theorem fold_edge {ps : List (Nat × Nat)} (hin : inW ps) {m : Nat} (hm : Least ps m) {p : Nat × Nat} (hp : p ∈ ps) : ∀ (l : List (Nat × Nat)) (o : List Int), (∀ q ∈ l, q ∈ ps) → p ∈ l → RI ps o → Alk ps m p.1 → (iAt o p.1 = m ∨ iAt o p.2 = m) → iAt (l.foldl sr o) p.1 = m ∧ iAt (l.foldl sr o) p.2 = m := by
  intro l
  obtain ⟨b1, b2⟩ := hin p hp
  have h12 : Alk ps p.1 p.2 := .fwd hp (.rfl _)
  induction l with
  | nil => intro o _ h; cases h
  | cons q l ih =>
    intro o hs hpl h ha he
    have hq := hs q (by simp)
    have hri := ri_sr h hq hin
    have hs' : ∀ q ∈ l, q ∈ ps := fun r hr => hs r (by simp [hr])
    by_cases e : q = p
    · subst e
      have g1 := ri_ge h hm b1 ha
      have g2 := ri_ge h hm b2 (ha.trans h12)
      have h1 := h.1
      have k1 : iAt (sr o q) q.1 = m := by rw [sr_at (by omega) (by omega), if_pos (.inl rfl)]; omega
      have k2 : iAt (sr o q) q.2 = m := by rw [sr_at (by omega) (by omega), if_pos (.inr rfl)]; omega
      obtain ⟨_, i2⟩ := fold_keep hin hm l (sr o q) hs' hri
      exact ⟨i2 _ b1 ha k1, i2 _ b2 (ha.trans h12) k2⟩
    · refine ih (sr o q) hs' ?_ hri ha ?_
      · rcases List.mem_cons.1 hpl with h | h
        · exact absurd h.symm e
        · exact h
      · rcases he with he | he
        · exact .inl (sr_keep h hin hm hq b1 ha he)
        · exact .inr (sr_keep h hin hm hq b2 (ha.trans h12) he)
/-- At how many pairs both ends have m. -/
def bothN (ps : List (Nat × Nat)) (o : List Int) (m : Nat) : Nat := ps.countP (fun p => decide (iAt o p.1 = m) && decide (iAt o p.2 = m))
/-- All words that are alike to m have it. -/
def Full (ps : List (Nat × Nat)) (o : List Int) (m : Nat) : Prop := ∀ w, w ≤ 100 → Alk ps m w → iAt o w = m
theorem alk_in {ps : List (Nat × Nat)} (hin : inW ps) {a b : Nat} (h : Alk ps a b) (ha : a ≤ 100) : b ≤ 100 := by
  induction h with
  | rfl => exact ha
  | fwd hp _ ih => exact ih (hin _ hp).2
  | bwd hp _ ih => exact ih (hin _ hp).1
/-- Where not all have m, some pair has it at one end alone. -/
theorem edge_of {ps : List (Nat × Nat)} {o : List Int} {m : Nat} : ∀ {a w : Nat}, Alk ps a w → iAt o a = m → iAt o w ≠ m → ∃ p ∈ ps, (iAt o p.1 = m ∨ iAt o p.2 = m) ∧ ¬ (iAt o p.1 = m ∧ iAt o p.2 = m) ∧ Alk ps a p.1 := by
  intro a w h
  induction h with
  | rfl a => intro h1 h2; exact absurd h1 h2
  | @fwd a b c hp hb ih =>
    intro h1 h2
    by_cases e : iAt o b = m
    · obtain ⟨p, q1, q2, q3, q4⟩ := ih e h2
      exact ⟨p, q1, q2, q3, .fwd hp q4⟩
    · exact ⟨(a, b), hp, .inl h1, fun h => e h.2, .rfl _⟩
  | @bwd a b c hp hb ih =>
    intro h1 h2
    by_cases e : iAt o b = m
    · obtain ⟨p, q1, q2, q3, q4⟩ := ih e h2
      exact ⟨p, q1, q2, q3, .bwd hp q4⟩
    · exact ⟨(b, a), hp, .inr h1, fun h => e h.1, .bwd hp (.rfl _)⟩
theorem countP_lt {α : Type} {p q : α → Bool} : ∀ {l : List α}, (∀ x ∈ l, p x = true → q x = true) → (∃ x ∈ l, q x = true ∧ p x = false) → l.countP p < l.countP q := by
  intro l
  induction l with
  | nil => intro _ h; obtain ⟨x, hx, _⟩ := h; cases hx
  | cons a l ih =>
    intro h1 h2
    have hle : l.countP p ≤ l.countP q := List.countP_mono_left fun x hx => h1 x (by simp [hx])
    rw [List.countP_cons, List.countP_cons]
    obtain ⟨x, hx, q1, q2⟩ := h2
    rcases List.mem_cons.1 hx with rfl | hx
    · rw [q1, q2]; simp; omega
    · have := ih (fun x hx => h1 x (by simp [hx])) ⟨x, hx, q1, q2⟩
      have := h1 a (by simp)
      cases hpa : p a <;> cases hqa : q a <;> simp_all <;> omega
theorem round_more {ps : List (Nat × Nat)} (hin : inW ps) {m : Nat} (hm : Least ps m) {o : List Int} (h : RI ps o) (hself : iAt o m = m) : RI ps (rnd ps o) ∧ iAt (rnd ps o) m = m ∧ (Full ps o m → Full ps (rnd ps o) m) ∧ (¬ Full ps o m → bothN ps o m < bothN ps (rnd ps o) m) := by
  obtain ⟨i1, i2⟩ := fold_keep hin hm ps o (fun p h => h) h
  refine ⟨i1, i2 m hm.1 (.rfl _) hself, fun hf w hw ha => i2 w hw ha (hf w hw ha), fun hf => ?_⟩
  have hex : ∃ w, w ≤ 100 ∧ Alk ps m w ∧ iAt o w ≠ m := by
    apply Classical.byContradiction
    intro hne
    refine hf fun w hw ha => ?_
    apply Classical.byContradiction
    intro h2
    exact hne ⟨w, hw, ha, h2⟩
  obtain ⟨w, hw, ha, hne⟩ := hex
  obtain ⟨p, hp, q2, q3, q4⟩ := edge_of ha hself hne
  refine countP_lt (fun x hx hh => ?_) ⟨p, hp, ?_, ?_⟩
  · simp only [Bool.and_eq_true, decide_eq_true_eq] at hh ⊢
    obtain ⟨b1, b2⟩ := hin x hx
    have : Alk ps m x.1 := by
      obtain ⟨r, _, e, a⟩ := h.2 x.1 b1
      have e2 : r = m := by omega
      subst e2
      exact a.symm
    exact ⟨i2 _ b1 this hh.1, i2 _ b2 (this.trans (.fwd hx (.rfl _))) hh.2⟩
  · have := fold_edge hin hm hp ps o (fun p h => h) hp h q4 q2
    simp only [Bool.and_eq_true, decide_eq_true_eq]
    exact this
  · rw [Bool.eq_false_iff]
    intro hh
    simp only [Bool.and_eq_true, decide_eq_true_eq] at hh
    exact q3 hh
theorem rnds_more {ps : List (Nat × Nat)} (hin : inW ps) {m : Nat} (hm : Least ps m) (r : Nat) : RI ps (rnds ps r) ∧ iAt (rnds ps r) m = m ∧ (Full ps (rnds ps r) m ∨ r ≤ bothN ps (rnds ps r) m) := by
  induction r with
  | zero => exact ⟨ri_start ps, nm0_at hm.1, .inr (Nat.zero_le _)⟩
  | succ r ih =>
    obtain ⟨h1, h2, h3⟩ := ih
    obtain ⟨i1, i2, i3, i4⟩ := round_more hin hm h1 h2
    refine ⟨i1, i2, ?_⟩
    by_cases hf : Full ps (rnds ps r) m
    · exact .inl (i3 hf)
    · have := i4 hf
      rcases h3 with h | h
      · exact absurd h hf
      · right
        show r + 1 ≤ bothN ps (rnd ps (rnds ps r)) m
        omega
theorem refC_full {ps : List (Nat × Nat)} (hin : inW ps) {m : Nat} (hm : Least ps m) : Full ps (refC ps) m := by
  obtain ⟨h1, h2, h3⟩ := rnds_more hin hm ps.length
  rcases h3 with h | h
  · exact h
  · intro w hw ha
    apply Classical.byContradiction
    intro hne
    obtain ⟨p, hp, _, q3, _⟩ := edge_of (o := refC ps) ha h2 hne
    have hall : bothN ps (refC ps) m = ps.length := Nat.le_antisymm List.countP_le_length h
    unfold bothN at hall
    rw [List.countP_eq_length] at hall
    have := hall p hp
    simp only [Bool.and_eq_true, decide_eq_true_eq] at this
    exact q3 this
theorem least_of (ps : List (Nat × Nat)) {a : Nat} (ha : a ≤ 100) : ∃ m, Least ps m ∧ Alk ps m a := by
  have : ∀ n a : Nat, a ≤ n → a ≤ 100 → ∃ m, Least ps m ∧ Alk ps m a := by
    intro n
    induction n with
    | zero =>
      intro a h0 ha
      obtain rfl : a = 0 := by omega
      exact ⟨0, ⟨by omega, fun b _ _ => Nat.zero_le _⟩, .rfl _⟩
    | succ n ih =>
      intro a h0 ha
      by_cases h : ∃ b, b < a ∧ Alk ps a b
      · obtain ⟨b, hb, hab⟩ := h
        obtain ⟨m, h1, h2⟩ := ih b (by omega) (by omega)
        exact ⟨m, h1, h2.trans hab.symm⟩
      · refine ⟨a, ⟨ha, fun b _ hab => ?_⟩, .rfl _⟩
        apply Classical.byContradiction
        intro hlt
        exact h ⟨b, by omega, hab⟩
  exact this a a (Nat.le_refl _) ha
theorem refC_alk {ps : List (Nat × Nat)} (hin : inW ps) {a b : Nat} (ha : a ≤ 100) (hb : b ≤ 100) : iAt (refC ps) a = iAt (refC ps) b ↔ Alk ps a b := by
  obtain ⟨m, hm, h1⟩ := least_of ps ha
  obtain ⟨m', hm', h2⟩ := least_of ps hb
  have e1 := refC_full hin hm a ha h1
  have e2 := refC_full hin hm' b hb h2
  constructor
  · intro h
    have : m = m' := by omega
    subst this
    exact h1.symm.trans h2
  · intro h
    rw [e1, refC_full hin hm b hb (h1.trans h)]
theorem refC_cls {ps : List (Nat × Nat)} (hin : inW ps) {a b : Nat} (ha : a ≤ 100) (hb : b ≤ 100) : (iAt (refC ps) a = iAt (refC ps) b) ↔ (iAt (cls ps) a = iAt (cls ps) b) := (refC_alk hin ha hb).trans (cls_alk hin ha hb).symm
end Go.Proofs.Ythdjbapidodlfaa

namespace Go.Proofs.Ythdjbapidodlfaa
set_option linter.unusedSimpArgs false
set_option linter.unusedVariables false
open Go.RowKit Go.Shelf

def flatI (l : List Int) : List Value := l.map (Value.int .i64)
theorem flatI_snoc (l : List Int) (x : Int) : flatI (l ++ [x]) = flatI l ++ [.int .i64 x] := by simp [flatI]
theorem flatI_len (l : List Int) : (flatI l).length = l.length := by simp [flatI]
theorem ints_own {W : World} {e : TypeId} {v : Value} {l : List Int} {n : Nat} (hl : l.length = n) (h : W.ownsRow 0 e 1 v n (flatI l)) : ∃ C cap, v = .slice C n cap ∧ n ≤ cap ∧ Ints W C n l ∧ (∀ b o, C = some ⟨b, o, none⟩ → v.ownBlock = some b ∧ o = 0) := by
  subst hl
  rcases h.2 with ⟨rfl, h0⟩ | ⟨g, cap, cur, rfl, hb, hg, hc, _, hsz, htake⟩
  · rw [h0]
    exact ⟨none, 0, rfl, Nat.le_refl _, ⟨h0, by omega⟩, by intro b o e; cases e⟩
  · refine ⟨_, cap, rfl, hc, ⟨rfl, fun _ => ⟨g, 0, rfl, fun j hj => ?_⟩⟩, by rintro b o e; cases e; exact ⟨rfl, rfl⟩⟩
    rw [Nat.zero_add, cell_row hg, ← Array.getElem?_toList, ← List.getElem?_take_of_lt (show j < l.length * 1 by omega), htake]
    simp [flatI, iAt_eq hj, hj]
/-- A block of numbers. -/
def RowI (W : World) (g : Nat) (o : List Int) : Prop := ∃ rest : List Value, W.heap[g]? = some (.cells (flatI o ++ rest).toArray 3 (0, 0))
theorem RowI.cell {W : World} {g : Nat} {o : List Int} (h : RowI W g o) {j : Nat} (hj : j < o.length) : W.cell? ⟨g, j, none⟩ = some (.int .i64 (iAt o j)) := by
  obtain ⟨rest, h⟩ := h
  rw [cell_row h, List.getElem?_toArray, List.getElem?_append_left (by rw [flatI_len]; exact hj), iAt_eq hj]
  simp [flatI, hj]
theorem RowI.fz {W : World} {g : Nat} {o : List Int} (h : RowI W g o) (j : Nat) : W.frozen? ⟨g, j, none⟩ = false := by
  obtain ⟨rest, h⟩ := h; exact frozen_row h
theorem RowI.put {W : World} {g : Nat} {o : List Int} (h : RowI W g o) {j : Nat} (hj : j < o.length) (v : Int) : RowI (W.setCell ⟨g, j, none⟩ (.int .i64 v)) g (o.set j v) := by
  obtain ⟨rest, h⟩ := h
  refine ⟨rest, ?_⟩
  rw [set_same _ _ h]
  simp only [List.setIfInBounds_toArray]
  rw [List.set_append_left _ _ (by rw [flatI_len]; exact hj)]
  simp [flatI, List.map_set]
theorem RowI.keep {W W' : World} {g : Nat} {o : List Int} {Mut : Nat → Prop} (h : RowI W g o) (hK : Keeps Mut W W') (hm : ¬ Mut g) : RowI W' g o := by
  obtain ⟨rest, h⟩ := h
  exact ⟨rest, (hK.block _ (lt_of_block h) hm).trans h⟩
theorem RowI.ints {W : World} {g : Nat} {o : List Int} (h : RowI W g o) : Ints W (some ⟨g, 0, none⟩) o.length o :=
  ⟨rfl, fun _ => ⟨g, 0, rfl, fun j hj => by rw [Nat.zero_add]; exact h.cell hj⟩⟩
theorem rowI_own {W : World} {g n cp : Nat} {ts : List Int} (hl : ts.length = n) (h : W.ownsRow 0 3 1 (.slice (some ⟨g, 0, none⟩) n cp) n (flatI ts)) : RowI W g ts := by
  rcases h.2 with ⟨e, _⟩ | ⟨g', cap, cur, e, hb, hg, hc, _, hsz, htake⟩
  · cases e
  · cases e
    refine ⟨cur.toList.drop (n * 1), ?_⟩
    rw [← htake, List.take_append_drop]
    exact hg
theorem info3_ : (Try.prog.info? 3).map (fun i => (i.zero, i.size, i.bytes)) = some (some (.int .i64 0), 1, 8) := by kernel_rfl
/-- The pairs of a dictionary, as words. -/
def prW (r : Rg) : Nat × Nat := (r.lo.toNat, r.hi.toNat)
def prs (zs : List Rg) : List (Nat × Nat) := zs.map prW
theorem prs_take (zs : List Rg) {k : Nat} (h : k < zs.length) : (prs zs).take (k + 1) = (prs zs).take k ++ [prW (gAt zs k)] := by
  unfold prs
  rw [← List.map_take, ← List.map_take, List.take_succ_eq_append_getElem h, List.map_append, gAt_eq h]; rfl
theorem okP_of {zs : List Rg} (h : okB zs = true) {k : Nat} (hk : k < zs.length) : ∃ a b : Nat, gAt zs k = ⟨(a : Int), (b : Int)⟩ ∧ 1 ≤ a ∧ a ≤ 100 ∧ 1 ≤ b ∧ b ≤ 100 := by
  have h1 := List.all_eq_true.1 h _ (List.getElem_mem hk)
  rw [gAt_eq hk]
  obtain ⟨r, hr⟩ : ∃ r, zs[k] = r := ⟨_, rfl⟩
  rw [hr] at h1 ⊢
  obtain ⟨lo, hi⟩ := r
  simp only [okP, Bool.and_eq_true, inB_iff] at h1
  exact ⟨lo.toNat, hi.toNat, by simp only [Rg.mk.injEq]; omega, by omega, by omega, by omega, by omega⟩
theorem inW_prs {zs : List Rg} (h : okB zs = true) : inW (prs zs) := by
  intro p hp
  obtain ⟨r, hr, rfl⟩ := List.mem_map.1 hp
  have h1 := List.all_eq_true.1 h r hr
  simp only [okP, Bool.and_eq_true, inB_iff] at h1
  simp only [prW]
  omega
def nmK (k : Nat) : List Int := (List.range k).map (fun i : Nat => (i : Int))
theorem nmK_succ (k : Nat) : nmK (k + 1) = nmK k ++ [(k : Int)] := by simp [nmK, List.range_succ]
theorem nmK_len (k : Nat) : (nmK k).length = k := by simp [nmK]
theorem rnds_len (ps : List (Nat × Nat)) (r : Nat) : (rnds ps r).length = 101 := by
  have hf : ∀ (l : List (Nat × Nat)) (o : List Int), (l.foldl sr o).length = o.length := by
    intro l
    induction l with
    | nil => intro o; rfl
    | cons p l ih => intro o; rw [List.foldl_cons, ih, sr_len]
  induction r with
  | zero => exact nm0_len
  | succ r ih => show (rnd ps (rnds ps r)).length = 101; unfold rnd; rw [hf, ih]
def fdS (ps : List (Nat × Nat)) (o : List Int) (k : Nat) : List Int := (ps.take k).foldl sr o
theorem fdS_succ {zs : List Rg} (o : List Int) {k : Nat} (h : k < zs.length) : fdS (prs zs) o (k + 1) = sr (fdS (prs zs) o k) (prW (gAt zs k)) := by
  unfold fdS
  rw [prs_take zs h, List.foldl_append]; rfl
theorem fdS_len (ps : List (Nat × Nat)) (o : List Int) (k : Nat) : (fdS ps o k).length = o.length := by
  have hf : ∀ (l : List (Nat × Nat)) (o : List Int), (l.foldl sr o).length = o.length := by
    intro l
    induction l with
    | nil => intro o; rfl
    | cons p l ih => intro o; rw [List.foldl_cons, ih, sr_len]
  exact hf _ _
/-- The numbers of a table of names stay from 0 to 100. -/
def N100 (o : List Int) : Prop := ∀ w, w < o.length → 0 ≤ iAt o w ∧ iAt o w ≤ 100
theorem n100_nm0 : N100 nm0 := fun w h => by rw [nm0_len] at h; rw [nm0_at (by omega)]; omega
theorem n100_sr {o : List Int} (h : N100 o) {a b : Nat} (ha : a < o.length) (hb : b < o.length) : N100 (sr o (a, b)) := fun w hw => by
  rw [sr_len] at hw
  rw [sr_at ha hb]
  have h1 := h a ha
  have h2 := h b hb
  have h3 := h w hw
  dsimp only
  split <;> omega
theorem n100_fd {ps : List (Nat × Nat)} (hin : inW ps) {o : List Int} (hl : o.length = 101) (h : N100 o) : N100 (ps.foldl sr o) := by
  induction ps generalizing o with
  | nil => exact h
  | cons p l ih =>
    obtain ⟨b1, b2⟩ := hin p (by simp)
    exact ih (fun q hq => hin q (by simp [hq])) (by rw [sr_len, hl]) (n100_sr h (by omega) (by omega))
theorem n100_rnds {ps : List (Nat × Nat)} (hin : inW ps) (r : Nat) : N100 (rnds ps r) := by
  induction r with
  | zero => exact n100_nm0
  | succ r ih => exact n100_fd hin (rnds_len ps r) ih
theorem n100_fdS {ps : List (Nat × Nat)} (hin : inW ps) {o : List Int} (hl : o.length = 101) (h : N100 o) (k : Nat) : N100 (fdS ps o k) :=
  n100_fd (fun p hp => hin p (List.mem_of_mem_take hp)) hl h
attribute [local go_sem ↓] exec_app
set_option maxRecDepth 100000 in
set_option maxHeartbeats 8000000 in
theorem classes51 (A : Option Addr) (n cap : Nat) (zs : List Rg) (w : World) (h : Rgs w A n zs) (hz : chkB zs = 0) :
    Calls Try.prog 51 #[.agg #[.slice A n cap]] w fun e w' => ∃ g c, e = .returned (.slice (some ⟨g, 0, none⟩) 101 c) ∧ Ints w' (some ⟨g, 0, none⟩) 101 (refC (prs zs)) ∧ w.heap.size ≤ g ∧ Below w.heap.size w w' := by
  have Hlen := Lib.hid h.1
  have HZ := Lib.hid (chkB_zero.1 hz)
  have hn40 : n ≤ 40 := by have := HZ.out.1; rw [h.1] at this; exact this
  have hb0 := below_alloc_ w (.cells #[.slice A n cap] 24)
  have hr0 := heap_alloc_new_ w (.cells #[.slice A n cap] 24)
  obtain ⟨W0, hW0⟩ : ∃ W0, w.alloc (.cells #[.slice A n cap] 24) = W0 := ⟨_, rfl⟩
  obtain ⟨R, hR⟩ : ∃ R, w.heap.size = R := ⟨_, rfl⟩
  rw [hW0] at hb0 hr0
  rw [hR] at hr0
  have S := Lib.hid (h.below hb0 (Nat.le_refl _))
  have HA := Lib.hid (show 0 < n → ∃ b o, A = some ⟨b, o, none⟩ ∧ b < R from fun hp => by
    obtain ⟨b, o, e, hc⟩ := h.2 hp
    have := lt_of_cell (hc 0 hp).1
    exact ⟨b, o, e, by omega⟩)
  have B0 := Lib.hid hb0
  have R0 := Lib.hid hr0
  have HW0 := Lib.hid hW0
  have HR := Lib.hid hR
  clear h hb0 hr0 hW0 hR hz
  go_enter Try.func51, Try.ntmps51
  go_wp2_with fail
  rw [HW0.out]
  try rw [HR.out]
  go_loopw [3, 4] (fun v i wr => ∃ k : Nat, k ≤ 101 ∧ i = .int .i64 (k : Int) ∧ wr.ownsRow 0 3 1 v k (flatI (nmK k)) ∧ (∀ j, v.ownBlock = some j → W0.heap.size ≤ j) ∧ Below W0.heap.size W0 wr) (fun v i _ => 101 - (intOf i).toNat)
  case atStart => exact ⟨0, Nat.zero_le _, rfl, own_nil _ _ _, fun j e => (by cases e), Below.refl _ _⟩
  case round =>
    obtain ⟨k, hk, rfl, ho, hob, hB⟩ := hrel
    obtain ⟨wk, rfl⟩ : ∃ wk, wk = wr := ⟨_, rfl⟩
    by_cases hlt : k < 101
    · have i5 : (k : Int) ≤ 100 := by omega
      have hbz := below_alloc_ wk (.cells #[.int .i64 (k : Int)] 3)
      have hzz := heap_alloc_new_ wk (.cells #[.int .i64 (k : Int)] 3)
      have ho3 := own_keep (Mut := fun _ => False) ho (Keeps.of_new hbz) (fun _ _ e => e)
      obtain ⟨v', W3, hrun, hown3, hK3, hv3⟩ := app_one (n := k) Try.underlying38 info3_ rfl (by omega) (by omega) ho3 (vals := [.int .i64 (k : Int)]) rfl hzz (by simp [Value.oneCell']) (by omega)
      have hB2 := hB.trans (hbz.mono hB.size)
      have hB3 : Below W0.heap.size W0 W3 := hB2.trans (hK3.below hB2.size (fun j hj e => by have := hob j e; omega))
      have hv4 : ∀ j, v'.ownBlock = some j → W0.heap.size ≤ j := by
        intro j hj
        rcases hv3 with e | ⟨e, _⟩
        · rw [e] at hj; exact hob j hj
        · rw [e] at hj; cases hj; exact hB2.size
      have hrun := run_app hrun
      have HB3 := Lib.hid hB3
      have HV4 := Lib.hid hv4
      have HO3 := Lib.hid hown3
      clear hbz hzz ho3 hown3 hK3 hv3 hB3 hv4 hB2 ho hob hB
      go_wp2_with fail
      go_roundw
      case rel => exact ⟨k + 1, by omega, by go_num, by rw [nmK_succ, flatI_snoc]; exact HO3.out, HV4.out, HB3.out⟩
      case measure => simp [intOf]; omega
    · obtain rfl : k = 101 := by omega
      have e101 : nmK 101 = nm0 := rfl
      rw [e101] at ho
      obtain ⟨Cg, cg, rfl, hcg, hig, hCg⟩ := ints_own nm0_len ho
      obtain ⟨g, og, rfl, -⟩ := hig.2 (by omega)
      obtain ⟨hg1, rfl⟩ := hCg g og rfl
      have hrow := rowI_own nm0_len ho
      have hgW := hob g hg1
      have Row := Lib.hid hrow
      have HgW := Lib.hid hgW
      have HB := Lib.hid hB
      obtain ⟨ps, hps⟩ : ∃ ps, prs zs = ps := ⟨_, rfl⟩
      have Hps := Lib.hid hps
      have HIN := Lib.hid (show inW ps by rw [← hps]; exact inW_prs HZ.out.2)
      have hgR : ¬ R = g := by have := lt_of_block R0.out; omega
      have HgR := Lib.hid hgR
      clear ho hob hig hCg hg1 hrow hgW hB hlt hk hps e101 hgR
      have HI0 : Hid (RowI wk g (rnds ps 0) ∧ Keeps (fun j => j = g) wk wk) := Lib.hid ⟨Row.out, Keeps.refl _ _⟩
      have RK := Lib.hid (show ∀ W, Keeps (fun j => j = g) wk W → W.cell? ⟨R, 0, none⟩ = some (.slice A n cap) from fun W hK => by
        have h1 := (HB.out.block _ (lt_of_block R0.out)).trans R0.out
        have h2 := (hK.block _ (lt_of_block h1) HgR.out).trans h1
        rw [cell_row h2]; rfl)
      have SK := Lib.hid (show ∀ W, Keeps (fun j => j = g) wk W → 0 < n → ∃ b o, A = some ⟨b, o, none⟩ ∧ b ≠ g ∧ ∀ j, j < n → W.cell? ⟨b, o + j * 2, none⟩ = some (.int .i64 (gAt zs j).lo) ∧ W.cell? ⟨b, o + j * 2 + 1, none⟩ = some (.int .i64 (gAt zs j).hi) from fun W hK hp => by
        obtain ⟨b, o, e, hb⟩ := HA.out hp
        obtain ⟨b2, o2, e2, hc⟩ := (S.out.below HB.out (Nat.le_refl _)).2 hp
        rw [e] at e2
        cases e2
        have hne : ¬ b = g := by have := lt_of_block R0.out; have := HgW.out; omega
        have hl := lt_of_cell (hc 0 hp).1
        exact ⟨b, o, e, hne, fun j hj => ⟨(keep_cells hK hl hne _).trans (hc j hj).1, (keep_cells hK hl hne _).trans (hc j hj).2⟩⟩)
      go_wp2_with fail
      go_loopw [5, 6, 7, 8, 9] (fun r i x y l wr => ∃ q : Nat, q ≤ n ∧ r = .int .i64 (q : Int) ∧ Hid (RowI wr g (rnds ps q) ∧ Keeps (fun j => j = g) wk wr)) (fun r i x y l _ => n - (intOf r).toNat)
      case atStart => exact ⟨0, Nat.zero_le _, rfl, HI0⟩
      case round =>
        obtain ⟨q, hq, rfl, HI⟩ := hrel
        obtain ⟨wq, rfl⟩ : ∃ wq, wq = wr := ⟨_, rfl⟩
        have r0 := RK.out _ HI.out.2
        by_cases hql : q < n
        · obtain ⟨o0, ho0⟩ : ∃ o0, rnds ps q = o0 := ⟨_, rfl⟩
          have Ho0 := Lib.hid ho0
          have HL0 := Lib.hid (show o0.length = 101 by rw [← ho0]; exact rnds_len _ _)
          have HN0 := Lib.hid (show N100 o0 by rw [← ho0]; exact n100_rnds HIN.out q)
          have HJ0 : Hid (RowI wq g (fdS ps o0 0) ∧ Keeps (fun j => j = g) wk wq) := Lib.hid ⟨by rw [← ho0]; exact HI.out.1, HI.out.2⟩
          clear ho0
          go_wp2_with fail
          clear r0
          go_loopw [6, 7, 8, 9] (fun i x y l wr => ∃ t : Nat, t ≤ n ∧ i = .int .i64 (t : Int) ∧ Hid (RowI wr g (fdS ps o0 t) ∧ Keeps (fun j => j = g) wk wr)) (fun i x y l _ => n - (intOf i).toNat)
          case atStart => exact ⟨0, Nat.zero_le _, rfl, HJ0⟩
          case round =>
            obtain ⟨t, ht, rfl, HJ⟩ := hrel
            obtain ⟨wj, rfl⟩ : ∃ wj, wj = wr := ⟨_, rfl⟩
            have r0 := RK.out _ HJ.out.2
            by_cases htl : t < n
            · obtain ⟨a, b, hab, a1, a2, b1, b2⟩ := okP_of HZ.out.2 (k := t) (by rw [Hlen.out]; exact htl)
              obtain ⟨bb, oo, rfl, hbg, hcc⟩ := SK.out _ HJ.out.2 (by omega)
              obtain ⟨c0, c1⟩ := hcc t htl
              have Hst := Lib.hid (fdS_succ (zs := zs) o0 (k := t) (by rw [Hlen.out]; exact htl))
              rw [hab] at c0 c1 Hst
              dsimp only at c0 c1
              have ew : prW ⟨(a : Int), (b : Int)⟩ = (a, b) := rfl
              rw [ew, Hps.out] at Hst
              obtain ⟨o1, ho1⟩ : ∃ o1, fdS ps o0 t = o1 := ⟨_, rfl⟩
              have HL1 := Lib.hid (show o1.length = 101 by rw [← ho1, fdS_len, HL0.out])
              have HN1 := Lib.hid (show N100 o1 by rw [← ho1]; exact n100_fdS HIN.out HL0.out HN0.out t)
              rw [ho1] at Hst HJ
              have x0 := HJ.out.1.cell (j := a) (by rw [HL1.out]; omega)
              have y0 := HJ.out.1.cell (j := b) (by rw [HL1.out]; omega)
              have nx := HN1.out a (by rw [HL1.out]; omega)
              have ny := HN1.out b (by rw [HL1.out]; omega)
              obtain ⟨xv, hxv⟩ : ∃ xv, iAt o1 a = xv := ⟨_, rfl⟩
              obtain ⟨yv, hyv⟩ : ∃ yv, iAt o1 b = yv := ⟨_, rfl⟩
              have Hsr := Lib.hid (show sr o1 (a, b) = (o1.set a (min xv yv)).set b (min xv yv) by unfold sr; rw [hxv, hyv])
              rw [hxv] at x0 nx
              rw [hyv] at y0 ny
              have i0 : (0 : Int) ≤ (t : Int) := by omega
              have i1 : (t : Int) < (n : Int) := by omega
              have i2 : (t : Int) ≤ 40 := by omega
              have k0 : (0 : Int) ≤ (a : Int) := by omega
              have k1 : (a : Int) < 101 := by omega
              have k2 : (0 : Int) ≤ (b : Int) := by omega
              have k3 : (b : Int) < 101 := by omega
              have da : (a : Int).toNat = a := by omega
              have db : (b : Int).toNat = b := by omega
              have dt : (t : Int).toNat = t := by omega
              clear hcc hab ew ho1 hxv hyv
              go_wp2_with fail
              go_quiet (fail)
              have hbX := drew_b wj nq
              obtain ⟨X, hX⟩ : ∃ X, wj.drewN nq = X := ⟨_, rfl⟩
              rw [hX] at hbX ⊢
              have HX := Lib.hid hbX
              replace x0 := (hbX.cell (p := ⟨g, a, none⟩) (lt_of_cell x0)).trans x0
              replace y0 := (hbX.cell (p := ⟨g, b, none⟩) (lt_of_cell y0)).trans y0
              clear hbX hX c0 c1 r0
              go_wp2_with fail
              go_quiet (fail)
              obtain ⟨X2, hX2⟩ : ∃ X2, X.drewN nq = X2 := ⟨_, rfl⟩
              have hbX2 := drew_b X nq
              rw [hX2] at hbX2
              rw [hX2]
              obtain ⟨mv, hmv⟩ : ∃ mv, (if yv < xv then yv else xv) = mv := ⟨_, rfl⟩
              have hmm : mv = min xv yv := by rw [← hmv]; split <;> omega
              rw [hmv]
              have hrow := (HJ.out.1.keep (Mut := fun _ => False) (Keeps.of_new HX.out) (fun e => e)).keep (Mut := fun _ => False) (Keeps.of_new hbX2) (fun e => e)
              have hk2 := HJ.out.2.trans ((Keeps.of_new (Mut := fun j => j = g) HX.out).trans (Keeps.of_new hbX2))
              rw [← hmm] at Hsr
              have z0 := hrow.cell (j := a) (by rw [HL1.out]; omega)
              have z1 := hrow.cell (j := b) (by rw [HL1.out]; omega)
              have zf0 := hrow.fz a
              have zf1 := hrow.fz b
              obtain ⟨za, hza⟩ : ∃ za, iAt o1 a = za := ⟨_, rfl⟩
              obtain ⟨zb, hzb⟩ : ∃ zb, iAt o1 b = zb := ⟨_, rfl⟩
              rw [hza] at z0
              rw [hzb] at z1
              have HFIN := Lib.hid (show RowI ((X2.setCell ⟨g, a, none⟩ (.int .i64 mv)).setCell ⟨g, b, none⟩ (.int .i64 mv)) g (fdS ps o0 (t + 1)) by
                rw [Hst.out, Hsr.out]
                exact (hrow.put (by rw [HL1.out]; omega) mv).put (by rw [List.length_set, HL1.out]; omega) mv)
              have HKF := Lib.hid (hk2.trans ((keeps_setCell X2 g a (.int .i64 mv)).trans (keeps_setCell _ g b (.int .i64 mv))))
              clear hrow hk2 hza hzb hmm hmv hX2 hbX2 x0 y0
              by_cases hab2 : a = b
              · subst hab2
                go_wp2_with fail
                go_roundw
                case rel => exact ⟨t + 1, by omega, by go_num, Lib.hid ⟨HFIN.out, HKF.out⟩⟩
                case measure => simp [intOf]; omega
              · have hba2 : ¬ b = a := fun e => hab2 e.symm
                go_wp2_with fail
                go_roundw
                case rel => exact ⟨t + 1, by omega, by go_num, Lib.hid ⟨HFIN.out, HKF.out⟩⟩
                case measure => simp [intOf]; omega
            · obtain rfl : t = n := by omega
              have HN2 : Hid (RowI wj g (rnds ps (q + 1)) ∧ Keeps (fun j => j = g) wk wj) := Lib.hid ⟨by
                have e : rnds ps (q + 1) = fdS ps o0 t := by
                  show rnd ps (rnds ps q) = _
                  rw [Ho0.out]
                  unfold rnd fdS
                  rw [List.take_of_length_le (by rw [← Hps.out]; unfold prs; rw [List.length_map, Hlen.out]; omega)]
                rw [e]; exact HJ.out.1, HJ.out.2⟩
              clear HJ
              go_wp2_with fail
              go_roundw
              case rel => exact ⟨q + 1, by omega, by go_num, HN2⟩
              case measure => simp [intOf]; omega
        · obtain rfl : q = n := by omega
          have hi := HI.out.1.ints
          rw [rnds_len] at hi
          have HFI := Lib.hid (show Ints wq (some ⟨g, 0, none⟩) 101 (refC ps) by
            unfold refC
            rw [show ps.length = q by rw [← Hps.out]; unfold prs; rw [List.length_map, Hlen.out]]
            exact hi)
          have HBF := Lib.hid (show Below w.heap.size w wq from B0.out.trans ((HB.out.mono B0.out.size).trans (HI.out.2.below (Nat.le_trans B0.out.size HB.out.size) (fun k hk e => by have := HgW.out; have := B0.out.size; omega))))
          have HFG := Lib.hid (show w.heap.size ≤ g from Nat.le_trans B0.out.size HgW.out)
          clear hi HI
          go_wp2_with fail
          go_ret
          exact ⟨g, cg, by first | rfl | trivial, by rw [Hps.out]; exact HFI.out, HFG.out, HBF.out⟩
end Go.Proofs.Ythdjbapidodlfaa
