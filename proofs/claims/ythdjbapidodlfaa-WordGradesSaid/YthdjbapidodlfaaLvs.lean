/- Stage 4: levels and counts are those of chains (mathematics). -/
import Derived.Test.YthdjbapidodlfaaOr
import Derived.Test.YthdjbapidodlfaaChn
namespace Go.Proofs.Ythdjbapidodlfaa
set_option linter.unusedSimpArgs false
set_option linter.unusedVariables false
open Go.RowKit Go.Shelf

theorem orK_comm (x y : Int × Int) : orK x y = orK y x := by
  unfold orK
  rcases Int.lt_trichotomy x.1 y.1 with h | h | h
  · rw [if_neg (by omega), if_pos h, if_pos h]
  · rw [if_neg (by omega), if_neg (by omega), if_neg (by omega), if_neg (by omega), h, Int.add_comm]
  · rw [if_pos h, if_neg (by omega), if_pos h]
theorem orK_gt {x y : Int × Int} (h : y.1 < x.1) : orK x y = x := by unfold orK; rw [if_pos h]
theorem orK_lt {x y : Int × Int} (h : x.1 < y.1) : orK x y = y := by unfold orK; rw [if_neg (by omega), if_pos h]
theorem orK_eq {x y : Int × Int} (h : x.1 = y.1) : orK x y = (x.1, x.2 + y.2) := by unfold orK; rw [if_neg (by omega), if_neg (by omega)]
theorem orK_ge (x y : Int × Int) : y.1 ≤ (orK x y).1 ∧ x.1 ≤ (orK x y).1 := by
  rcases Int.lt_trichotomy x.1 y.1 with h | h | h
  · rw [orK_lt h]; omega
  · rw [orK_eq h]; dsimp only; omega
  · rw [orK_gt h]; omega
theorem orK_assoc (x y z : Int × Int) : orK (orK x y) z = orK x (orK y z) := by
  rcases Int.lt_trichotomy x.1 y.1 with h | h | h
  · rw [orK_lt h, orK_lt (x := x) (y := orK y z) (by have := (orK_ge y z).2; omega)]
  · rw [orK_eq h]
    rcases Int.lt_trichotomy y.1 z.1 with h2 | h2 | h2
    · rw [orK_lt h2, orK_lt (by dsimp only; omega), orK_lt (by omega)]
    · rw [orK_eq h2, orK_eq (by dsimp only; omega), orK_eq (by dsimp only; omega)]
      simp only [Prod.mk.injEq, true_and]
      omega
    · rw [orK_gt h2, orK_gt (by dsimp only; omega), orK_eq h]
  · rw [orK_gt h]
    rcases Int.lt_trichotomy y.1 z.1 with h2 | h2 | h2
    · rw [orK_lt h2]
    · rw [orK_eq h2, orK_gt (by omega), orK_gt (by dsimp only; omega)]
    · rw [orK_gt h2, orK_gt (by omega), orK_gt h]
theorem orK_zero {y : Int × Int} (h : 0 ≤ y.1) : orK y (0, 0) = y := by
  obtain ⟨a, b⟩ := y
  unfold orK
  dsimp only at h ⊢
  by_cases h0 : 0 < a
  · rw [if_pos h0]
  · rw [if_neg h0, if_neg (by omega)]
    simp
theorem orK_nil : orK (0, 0) (0, 0) = (0, 0) := rfl
/-- What is known of several together. -/
def sumK (ks : List (Int × Int)) : Int × Int := ks.foldr orK (0, 0)
theorem sumK_cons (a : Int × Int) (t : List (Int × Int)) : sumK (a :: t) = orK a (sumK t) := rfl
theorem sumK_split {α : Type} (E : α → Int × Int) (l : List α) (f g h : α → Bool) (he : ∀ x ∈ l, h x = (f x || g x)) (hd : ∀ x ∈ l, f x = true → g x = true → False) :
    sumK ((l.filter h).map E) = orK (sumK ((l.filter f).map E)) (sumK ((l.filter g).map E)) := by
  induction l with
  | nil => rfl
  | cons a t ih =>
    have i1 := ih (fun x hx => he x (by simp [hx])) (fun x hx => hd x (by simp [hx]))
    have h1 := he a (by simp)
    have h2 := hd a (by simp)
    rw [List.filter_cons, List.filter_cons, List.filter_cons, h1]
    cases hf : f a with
    | true =>
      cases hg : g a with
      | true => exact (h2 hf hg).elim
      | false => simp only [Bool.or_false, if_true, Bool.false_eq_true, if_false, List.map_cons, sumK_cons, i1, orK_assoc]
    | false =>
      cases hg : g a with
      | true =>
        simp only [Bool.or_true, if_true, Bool.false_eq_true, if_false, List.map_cons, sumK_cons, i1]
        rw [← orK_assoc, ← orK_assoc, orK_comm (E a)]
      | false => simp only [Bool.or_false, Bool.false_eq_true, if_false, i1]
/-- Levels and counts of several together, in natural numbers. -/
theorem sumK_nat {α : Type} (E : α → Int × Int) (l : List α) (h : ∀ x ∈ l, 1 ≤ (E x).1 ∧ 0 ≤ (E x).2) :
    (l = [] → sumK (l.map E) = (0, 0)) ∧ (l ≠ [] → 1 ≤ (sumK (l.map E)).1 ∧ (∀ x ∈ l, (E x).1 ≤ (sumK (l.map E)).1) ∧ (∃ x ∈ l, (E x).1 = (sumK (l.map E)).1)) ∧
      (sumK (l.map E)).2 = (sumN l (fun x => if (E x).1 = (sumK (l.map E)).1 then (E x).2.toNat else 0) : Nat) := by
  induction l with
  | nil => exact ⟨fun _ => rfl, fun e => absurd rfl e, rfl⟩
  | cons a t ih =>
    obtain ⟨i1, i2, i3⟩ := ih (fun x hx => h x (by simp [hx]))
    obtain ⟨ha1, ha2⟩ := h a (by simp)
    refine ⟨fun e => (by cases e), ?_⟩
    rw [List.map_cons, sumK_cons]
    obtain ⟨S, hS⟩ : ∃ S, sumK (t.map E) = S := ⟨_, rfl⟩
    rw [hS] at i1 i2 i3 ⊢
    by_cases ht : t = []
    · subst ht
      rw [i1 rfl, orK_zero (by omega)]
      refine ⟨fun _ => ⟨ha1, fun x hx => by rw [List.mem_singleton.1 hx]; exact Int.le_refl _, a, by simp, rfl⟩, ?_⟩
      rw [sumN_cons, sumN_nil, if_pos rfl]
      omega
    · obtain ⟨j1, j2, j3⟩ := i2 ht
      rcases Int.lt_trichotomy (E a).1 S.1 with h0 | h0 | h0
      · have e : orK (E a) S = S := by unfold orK; rw [if_neg (by omega), if_pos h0]
        rw [e]
        refine ⟨fun _ => ⟨j1, fun x hx => ?_, ?_⟩, ?_⟩
        · rcases List.mem_cons.1 hx with rfl | hx
          · omega
          · exact j2 x hx
        · obtain ⟨x, hx, hx2⟩ := j3
          exact ⟨x, by simp [hx], hx2⟩
        · rw [sumN_cons, if_neg (by omega), i3]; omega
      · have e : orK (E a) S = ((E a).1, (E a).2 + S.2) := by unfold orK; rw [if_neg (by omega), if_neg (by omega)]
        rw [e]
        refine ⟨fun _ => ⟨ha1, fun x hx => ?_, a, by simp, rfl⟩, ?_⟩
        · dsimp only
          rcases List.mem_cons.1 hx with rfl | hx
          · exact Int.le_refl _
          · rw [h0]; exact j2 x hx
        · dsimp only
          rw [sumN_cons, if_pos rfl, h0, i3]; omega
      · have e : orK (E a) S = E a := by unfold orK; rw [if_pos h0]
        rw [e]
        refine ⟨fun _ => ⟨ha1, fun x hx => ?_, a, by simp, rfl⟩, ?_⟩
        · rcases List.mem_cons.1 hx with rfl | hx
          · exact Int.le_refl _
          · have := j2 x hx; omega
        · rw [sumN_cons, if_pos rfl, sumN_congr (g := fun _ => 0) (fun x hx => if_neg (by have := j2 x hx; omega)), sumN_zero]; omega
theorem sumK_le {α : Type} (E : α → Int × Int) (f : α → Nat) (l : List α) (h : ∀ x ∈ l, 0 ≤ (E x).1 ∧ 0 ≤ (E x).2 ∧ (E x).2 ≤ f x) (b : Int) (hb : 0 ≤ b) (h1 : ∀ x ∈ l, (E x).1 ≤ b) :
    0 ≤ (sumK (l.map E)).1 ∧ (sumK (l.map E)).1 ≤ b ∧ 0 ≤ (sumK (l.map E)).2 ∧ (sumK (l.map E)).2 ≤ (sumN l f : Nat) := by
  induction l with
  | nil => exact ⟨Int.le_refl _, hb, Int.le_refl _, Int.le_refl _⟩
  | cons a t ih =>
    obtain ⟨i1, i2, i3, i4⟩ := ih (fun x hx => h x (by simp [hx])) (fun x hx => h1 x (by simp [hx]))
    obtain ⟨a1, a2, a3⟩ := h a (by simp)
    have a4 := h1 a (by simp)
    rw [List.map_cons, sumK_cons, sumN_cons]
    unfold orK
    split
    · omega
    · split
      · omega
      · dsimp only; omega

/-- A match is in front of a place, and just by one for the first h hearers. -/
def frB (m : Nat) (p : List Int) (h : Nat) (x : List Int) : Bool := (List.range m).all fun i => if i < h then decide (iAt x i = iAt p i - 1) else decide (iAt x i < iAt p i)
theorem frB_iff {m : Nat} {p : List Int} {h : Nat} {x : List Int} : frB m p h x = true ↔ ∀ i, i < m → (i < h → iAt x i = iAt p i - 1) ∧ (¬ i < h → iAt x i < iAt p i) := by
  unfold frB
  rw [List.all_eq_true]
  constructor
  · intro H i hi
    have := H i (List.mem_range.2 hi)
    by_cases hh : i < h
    · rw [if_pos hh, decide_eq_true_iff] at this
      exact ⟨fun _ => this, fun e => absurd hh e⟩
    · rw [if_neg hh, decide_eq_true_iff] at this
      exact ⟨fun e => absurd e hh, fun _ => this⟩
  · intro H i hi
    have := H i (List.mem_range.1 hi)
    by_cases hh : i < h
    · rw [if_pos hh, decide_eq_true_iff]; exact this.1 hh
    · rw [if_neg hh, decide_eq_true_iff]; exact this.2 hh
theorem frB_zero (m : Nat) (p x : List Int) : frB m p 0 x = befB x p m := by
  unfold frB befB
  congr 1
theorem bool_iff {a b : Bool} (h : a = true ↔ b = true) : a = b := by
  cases a <;> cases b <;> simp at h ⊢
theorem frB_split {m : Nat} {p : List Int} {h : Nat} (hh : h < m) (hp : h < p.length) (x : List Int) :
    frB m p h x = (frB m p (h + 1) x || frB m (p.set h (iAt p h - 1)) h x) ∧ (frB m p (h + 1) x = true → frB m (p.set h (iAt p h - 1)) h x = true → False) := by
  have e : ∀ j, iAt (p.set h (iAt p h - 1)) j = if h = j then iAt p h - 1 else iAt p j := fun j => iAt_set9 _ hp
  constructor
  · apply bool_iff
    rw [Bool.or_eq_true, frB_iff, frB_iff, frB_iff]
    constructor
    · intro H
      by_cases hx : iAt x h = iAt p h - 1
      · left
        intro i hi
        refine ⟨fun h1 => ?_, fun h1 => (H i hi).2 (by omega)⟩
        by_cases hih : i = h
        · rw [hih]; exact hx
        · exact (H i hi).1 (by omega)
      · right
        intro i hi
        rw [e]
        by_cases hih : h = i
        · subst hih
          rw [if_pos rfl]
          have := (H h hi).2 (by omega)
          exact ⟨fun h1 => by omega, fun _ => by omega⟩
        · rw [if_neg hih]; exact H i hi
    · rintro (H | H)
      · intro i hi
        refine ⟨fun h1 => (H i hi).1 (by omega), fun h1 => ?_⟩
        by_cases hih : i = h
        · have := (H i hi).1 (by omega); omega
        · exact (H i hi).2 (by omega)
      · intro i hi
        have := H i hi
        rw [e] at this
        by_cases hih : h = i
        · subst hih
          rw [if_pos rfl] at this
          have := this.2 (by omega)
          exact ⟨fun h1 => by omega, fun _ => by omega⟩
        · rw [if_neg hih] at this; exact this
  · intro h1 h2
    rw [frB_iff] at h1 h2
    have a := (h1 h hh).1 (by omega)
    have b := (h2 h hh).2 (by omega)
    rw [e, if_pos rfl] at b
    omega
/-- What is known of the matches in front of a place. -/
def frK (E : List Int → Int × Int) (mt : List (List Int)) (m : Nat) (p : List Int) (h : Nat) : Int × Int := sumK ((mt.filter (frB m p h)).map E)
theorem frK_split (E : List Int → Int × Int) (mt : List (List Int)) {m : Nat} {p : List Int} {h : Nat} (hh : h < m) (hp : h < p.length) :
    frK E mt m p h = orK (frK E mt m p (h + 1)) (frK E mt m (p.set h (iAt p h - 1)) h) :=
  sumK_split E mt _ _ _ (fun x _ => (frB_split hh hp x).1) (fun x _ => (frB_split hh hp x).2)
theorem filter_none {α : Type} {l : List α} {f : α → Bool} (h : ∀ x ∈ l, f x = false) : l.filter f = [] := by
  rw [List.filter_eq_nil_iff]
  intro x hx
  rw [h x hx]
  simp
theorem frK_zero (E : List Int → Int × Int) {mt : List (List Int)} {m : Nat} {p : List Int} {h : Nat} (hh : h < m) (h0 : iAt p h ≤ 0) (hx : ∀ x ∈ mt, 0 ≤ iAt x h) : frK E mt m p h = (0, 0) := by
  unfold frK
  rw [filter_none (fun x hxm => ?_)]
  · rfl
  · cases e : frB m p h x with
    | false => rfl
    | true =>
      have := (frB_iff.1 e h hh).2 (by omega)
      have := hx x hxm
      omega
/-- A place with one less for the first k hearers. -/
def dK (p : List Int) (k : Nat) : List Int := (List.range k).foldl (fun q h => q.set h (iAt p h - 1)) p
theorem dK_succ (p : List Int) (k : Nat) : dK p (k + 1) = (dK p k).set k (iAt p k - 1) := by simp [dK, List.range_succ, List.foldl_append]
theorem dK_len (p : List Int) (k : Nat) : (dK p k).length = p.length := by
  induction k with
  | zero => rfl
  | succ k ih => rw [dK_succ, List.length_set, ih]
theorem dK_at {p : List Int} {k : Nat} (hk : k ≤ p.length) (i : Nat) : iAt (dK p k) i = if i < k then iAt p i - 1 else iAt p i := by
  induction k with
  | zero => rw [if_neg (by omega)]; rfl
  | succ k ih =>
    rw [dK_succ, iAt_set9 _ (by rw [dK_len]; omega), ih (by omega)]
    by_cases h : k = i
    · subst h; rw [if_pos rfl, if_pos (by omega)]
    · rw [if_neg h]
      by_cases h2 : i < k
      · rw [if_pos h2, if_pos (by omega)]
      · rw [if_neg h2, if_neg (by omega)]
theorem ext_iAt {a b : List Int} (hl : a.length = b.length) (h : ∀ i, i < a.length → iAt a i = iAt b i) : a = b := by
  apply List.ext_getElem hl
  intro i h1 h2
  have := h i h1
  rwa [iAt_eq h1, iAt_eq h2] at this
/-- A place: an index for each hearer, 0 for those that there are not. -/
structure WPl (m : Nat) (p : List Int) : Prop where
  len : p.length = 4
  zero : ∀ i, m ≤ i → iAt p i = 0
  rng : ∀ i, i < m → 0 ≤ iAt p i ∧ iAt p i ≤ 8
theorem frK_end (E : List Int → Int × Int) {mt : List (List Int)} (hn : mt.Nodup) {m : Nat} (hm : m ≤ 4) (hw : ∀ x ∈ mt, WPl m x) {p : List Int} (hp : WPl m p) (h0 : ∀ x ∈ mt, 0 ≤ (E x).1) :
    frK E mt m p m = if dK p m ∈ mt then E (dK p m) else (0, 0) := by
  have key : ∀ x ∈ mt, frB m p m x = decide (x = dK p m) := by
    intro x hx
    apply bool_iff
    rw [frB_iff, decide_eq_true_iff]
    constructor
    · intro H
      apply ext_iAt
      · rw [dK_len, (hw x hx).len, hp.len]
      · intro i hi
        rw [dK_at (by rw [hp.len]; exact hm)]
        by_cases him : i < m
        · rw [if_pos him]; exact (H i him).1 him
        · rw [if_neg him, (hw x hx).zero i (by omega), hp.zero i (by omega)]
    · rintro rfl i hi
      rw [dK_at (by rw [hp.len]; exact hm), if_pos hi]
      exact ⟨fun _ => rfl, fun e => absurd hi e⟩
  unfold frK
  rw [List.filter_congr key]
  clear key hw hp
  by_cases hin : dK p m ∈ mt
  · rw [if_pos hin]
    generalize dK p m = d at hin ⊢
    have hz := h0 d hin
    have : mt.filter (fun x => decide (x = d)) = [d] := by
      clear h0
      induction mt with
      | nil => simp at hin
      | cons a t ih =>
        rw [List.nodup_cons] at hn
        rw [List.filter_cons]
        by_cases ha : a = d
        · subst ha
          rw [if_pos (by simp)]
          rw [filter_none (fun x hx => by rw [decide_eq_false_iff_not]; rintro rfl; exact hn.1 hx)]
        · rw [if_neg (by simpa using ha)]
          exact ih hn.2 (by rcases List.mem_cons.1 hin with e | e; exact absurd e.symm ha; exact e)
    rw [this]
    exact orK_zero hz
  · rw [if_neg hin, filter_none (fun x hx => by rw [decide_eq_false_iff_not]; rintro rfl; exact hin hx)]
    rfl
/-- What a match alone weighs, to bound counts. -/
def wgt (m : Nat) (x : List Int) : Nat := 2 ^ sumN (List.range m) fun i => (iAt x i).toNat
def expo (m : Nat) (p : List Int) (h : Nat) : Nat := sumN (List.range m) fun i => if i < h then (iAt p i - 1).toNat else (iAt p i).toNat
theorem sumN_upd {m h : Nat} (hh : h < m) {f g : Nat → Nat} (hfg : ∀ i, i ≠ h → f i = g i) (he : f h = g h + 1) : sumN (List.range m) f = sumN (List.range m) g + 1 := by
  have h1 : ∀ i ∈ List.range m, f i = g i + if i = h then 1 else 0 := by
    intro i _
    by_cases hi : i = h
    · rw [if_pos hi, hi, he]
    · rw [if_neg hi, hfg i hi]; rfl
  rw [sumN_congr h1, sumN_add]
  have := sumN_single (List.nodup_range (n := m)) (List.mem_range.2 hh) (fun _ => 1)
  rw [this]
theorem tot_bnd {mt : List (List Int)} (hn : mt.Nodup) {m : Nat} (hm : m ≤ 4) (hw : ∀ x ∈ mt, WPl m x) : ∀ (d h : Nat), h + d = m → ∀ (n : Nat) (p : List Int), WPl m p → (∀ i, i < h → 1 ≤ iAt p i) → (h < m → (iAt p h).toNat = n) → sumN (mt.filter (frB m p h)) (wgt m) ≤ 2 ^ expo m p h := by
  intro d
  induction d with
  | zero =>
    intro h hd n p hp h1 _
    obtain rfl : h = m := by omega
    have e : sumN (mt.filter (frB h p h)) (wgt h) ≤ sumN mt (fun x => if x = dK p h then wgt h x else 0) := by
      rw [sumN_filter]
      apply sumN_le
      intro x hx
      by_cases hf : frB h p h x = true
      · rw [if_pos hf, if_pos]
        · exact Nat.le_refl _
        · apply ext_iAt
          · rw [dK_len, (hw x hx).len, hp.len]
          · intro i hi
            rw [dK_at (by rw [hp.len]; exact hm)]
            by_cases him : i < h
            · rw [if_pos him]; exact (frB_iff.1 hf i him).1 him
            · rw [if_neg him, (hw x hx).zero i (by omega), hp.zero i (by omega)]
      · rw [if_neg hf]; exact Nat.zero_le _
    by_cases hin : dK p h ∈ mt
    · rw [sumN_single hn hin] at e
      refine Nat.le_trans e (Nat.le_of_eq ?_)
      unfold wgt expo
      congr 1
      apply sumN_congr
      intro i hi
      have hi := List.mem_range.1 hi
      rw [dK_at (by rw [hp.len]; exact hm), if_pos hi, if_pos hi]
    · rw [sumN_none hin] at e
      exact Nat.le_trans e (Nat.zero_le _)
  | succ d ihd =>
    intro h hd n
    induction n with
    | zero =>
      intro p hp h1 h2
      have hz := h2 (by omega)
      rw [filter_none (fun x hx => ?_)]
      · exact Nat.zero_le _
      · cases e : frB m p h x with
        | false => rfl
        | true =>
          have a := (frB_iff.1 e h (by omega)).2 (by omega)
          have := ((hw x hx).rng h (by omega)).1
          omega
    | succ n ihn =>
      intro p hp h1 h2
      have hz := h2 (by omega)
      have hlen := hp.len
      have e : ∀ j, iAt (p.set h (iAt p h - 1)) j = if h = j then iAt p h - 1 else iAt p j := fun j => iAt_set9 _ (by omega)
      have b1 := ihd (h + 1) (by omega) (iAt p (h + 1)).toNat p hp (fun i hi => by
        rcases Nat.lt_or_ge i h with hh | hh
        · exact h1 i hh
        · obtain rfl : i = h := by omega
          omega) (fun _ => rfl)
      have b2 := ihn (p.set h (iAt p h - 1)) ⟨by rw [List.length_set]; exact hlen, fun i hi => by rw [e, if_neg (by omega)]; exact hp.zero i hi, fun i hi => by
        have := hp.rng i hi
        rw [e]
        by_cases hih : h = i
        · subst hih; rw [if_pos rfl]; omega
        · rw [if_neg hih]; exact this⟩ (fun i hi => by rw [e, if_neg (by omega)]; exact h1 i hi) (fun _ => by rw [e, if_pos rfl]; omega)
      have e1 : expo m p h = expo m p (h + 1) + 1 := by
        unfold expo
        apply sumN_upd (h := h) (by omega)
        · intro i hi
          by_cases h3 : i < h
          · rw [if_pos h3, if_pos (by omega)]
          · rw [if_neg h3, if_neg (by omega)]
        · rw [if_neg (by omega), if_pos (by omega)]; omega
      have e2 : expo m p h = expo m (p.set h (iAt p h - 1)) h + 1 := by
        unfold expo
        apply sumN_upd (h := h) (by omega)
        · intro i hi
          rw [e, if_neg (show ¬ h = i from fun q => hi q.symm)]
        · rw [if_neg (by omega), if_neg (by omega), e, if_pos rfl]; omega
      have e3 : sumN (mt.filter (frB m p h)) (wgt m) = sumN (mt.filter (frB m p (h + 1))) (wgt m) + sumN (mt.filter (frB m (p.set h (iAt p h - 1)) h)) (wgt m) := by
        rw [sumN_filter, sumN_filter, sumN_filter, ← sumN_add]
        apply sumN_congr
        intro x _
        obtain ⟨q1, q2⟩ := frB_split (m := m) (p := p) (h := h) (by omega) (by omega) x
        rw [q1]
        cases hA : frB m p (h + 1) x with
        | true =>
          cases hB : frB m (p.set h (iAt p h - 1)) h x with
          | true => exact (q2 hA hB).elim
          | false => simp
        | false => simp
      rw [e3]
      have e4 : expo m (p.set h (iAt p h - 1)) h = expo m p (h + 1) := by omega
      rw [e4] at b2
      rw [e1, Nat.pow_succ]
      omega
end Go.Proofs.Ythdjbapidodlfaa

namespace Go.Proofs.Ythdjbapidodlfaa
set_option linter.unusedSimpArgs false
set_option linter.unusedVariables false
open Go.RowKit Go.Shelf

theorem ext4 {a b : List Int} (ha : a.length = 4) (hb : b.length = 4) (h : ∀ i, i < 4 → iAt a i = iAt b i) : a = b := ext_iAt (by omega) (fun i hi => h i (by omega))
theorem mem_cmpS {nm : List Int} {L : List (List Int)} {cl : Int} {m : Nat} (hm : m ≤ 4) : ∀ (d h : Nat) (p x : List Int), h + d = m → p.length = 4 →
    (x ∈ cmpS nm L cl d p h ↔ x.length = 4 ∧ (∀ j, (j < h ∨ m ≤ j) → iAt x j = iAt p j) ∧ ∀ j, h ≤ j → j < m → 0 ≤ iAt x j ∧ iAt x j < ((lAt L j).length : Int) ∧ iAt nm (wdA L j (iAt x j).toNat) = cl) := by
  intro d
  induction d with
  | zero =>
    intro h p x hd hp
    simp only [cmpS, List.mem_singleton]
    constructor
    · rintro rfl
      exact ⟨hp, fun _ _ => rfl, fun j h1 h2 => by omega⟩
    · rintro ⟨h1, h2, _⟩
      exact ext4 h1 hp (fun i _ => h2 i (by omega))
  | succ d ih =>
    intro h p x hd hp
    have e : ∀ (v : Int) j, iAt (p.set h v) j = if h = j then v else iAt p j := fun v j => iAt_set9 v (by omega)
    simp only [cmpS, List.mem_flatMap, List.mem_range]
    constructor
    · rintro ⟨i, hi, hx⟩
      split at hx
      · rename_i hc
        obtain ⟨h1, h2, h3⟩ := (ih (h + 1) (p.set h (i : Int)) x (by omega) (by rw [List.length_set]; exact hp)).1 hx
        refine ⟨h1, fun j hj => ?_, fun j hj1 hj2 => ?_⟩
        · rw [h2 j (by omega), e, if_neg (by omega)]
        · rcases Nat.eq_or_lt_of_le hj1 with rfl | hj
          · have := h2 h (by omega)
            rw [e, if_pos rfl] at this
            rw [this]
            exact ⟨by omega, by omega, by rw [Int.toNat_natCast]; exact hc⟩
          · exact h3 j hj hj2
      · simp at hx
    · rintro ⟨h1, h2, h3⟩
      obtain ⟨q1, q2, q3⟩ := h3 h (Nat.le_refl _) (by omega)
      refine ⟨(iAt x h).toNat, by omega, ?_⟩
      rw [if_pos q3]
      refine (ih (h + 1) _ x (by omega) (by rw [List.length_set]; exact hp)).2 ⟨h1, fun j hj => ?_, fun j hj1 hj2 => h3 j (by omega) hj2⟩
      rw [e]
      by_cases hj2 : h = j
      · subst hj2; rw [if_pos rfl]; omega
      · rw [if_neg hj2]; exact h2 j (by omega)
/-- A match of lines. -/
structure OkM (nm : List Int) (L : List (List Int)) (m : Nat) (x : List Int) : Prop where
  len : x.length = 4
  zero : ∀ i, m ≤ i → iAt x i = 0
  rng : ∀ h, h < m → 0 ≤ iAt x h ∧ iAt x h < ((lAt L h).length : Int)
  kin : ∀ h, h < m → iAt nm (wdA L h (iAt x h).toNat) = iAt nm (wdA L 0 (iAt x 0).toNat)
theorem at0000 (k : Int) (j : Nat) : iAt [k, 0, 0, 0] j = if j = 0 then k else 0 := by
  match j with
  | 0 => rfl
  | 1 => rfl
  | 2 => rfl
  | 3 => rfl
  | j + 4 => simp [iAt]
theorem mem_mtS {nm : List Int} {L : List (List Int)} {m : Nat} (hL : LV L m) (x : List Int) : x ∈ mtS nm L ↔ OkM nm L m x := by
  have hlo := hL.lo
  have hhi := hL.hi
  have hlen : L.length - 1 = m - 1 := by rw [hL.len]
  unfold mtS mtK
  simp only [List.mem_flatMap, List.mem_range, hlen]
  constructor
  · rintro ⟨k, hk, hx⟩
    obtain ⟨h1, h2, h3⟩ := (mem_cmpS hhi (m - 1) 1 [(k : Int), 0, 0, 0] x (by omega) rfl).1 hx
    have h0 := h2 0 (by omega)
    rw [at0000, if_pos rfl] at h0
    refine ⟨h1, fun i hi => by rw [h2 i (by omega), at0000, if_neg (by omega)], fun h hh => ?_, fun h hh => ?_⟩
    · rcases Nat.eq_zero_or_pos h with rfl | hp
      · rw [h0]; omega
      · exact ⟨(h3 h hp hh).1, (h3 h hp hh).2.1⟩
    · rcases Nat.eq_zero_or_pos h with rfl | hp
      · rfl
      · rw [(h3 h hp hh).2.2, h0, Int.toNat_natCast]
  · intro H
    obtain ⟨r1, r2⟩ := H.rng 0 (by omega)
    refine ⟨(iAt x 0).toNat, by omega, ?_⟩
    refine (mem_cmpS hhi (m - 1) 1 _ x (by omega) rfl).2 ⟨H.len, fun j hj => ?_, fun j hj1 hj2 => ⟨(H.rng j hj2).1, (H.rng j hj2).2, H.kin j hj2⟩⟩
    rw [at0000]
    by_cases hj0 : j = 0
    · subst hj0; rw [if_pos rfl]; omega
    · rw [if_neg hj0]; exact H.zero j (by omega)
/-- In lexicographic order. -/
def lexP (a b : List Int) : Prop := ∃ i, i < 4 ∧ iAt a i < iAt b i ∧ ∀ j, j < i → iAt a j = iAt b j
theorem cmpS_lex {nm : List Int} {L : List (List Int)} {cl : Int} {m : Nat} (hm : m ≤ 4) : ∀ (d h : Nat) (p : List Int), h + d = m → p.length = 4 → (cmpS nm L cl d p h).Pairwise lexP := by
  intro d
  induction d with
  | zero => intro h p _ _; simp [cmpS]
  | succ d ih =>
    intro h p hd hp
    have e : ∀ (v : Int) j, iAt (p.set h v) j = if h = j then v else iAt p j := fun v j => iAt_set9 v (by omega)
    simp only [cmpS]
    rw [List.pairwise_flatMap]
    constructor
    · intro i _
      split
      · exact ih (h + 1) _ (by omega) (by rw [List.length_set]; exact hp)
      · exact List.Pairwise.nil
    · refine List.Pairwise.imp ?_ List.pairwise_lt_range
      intro i k hik x hx y hy
      split at hx
      · split at hy
        · obtain ⟨_, h2, _⟩ := (mem_cmpS hm d (h + 1) (p.set h (i : Int)) x (by omega) (by rw [List.length_set]; exact hp)).1 hx
          obtain ⟨_, k2, _⟩ := (mem_cmpS hm d (h + 1) (p.set h (k : Int)) y (by omega) (by rw [List.length_set]; exact hp)).1 hy
          refine ⟨h, by omega, ?_, fun j hj => ?_⟩
          · rw [h2 h (by omega), k2 h (by omega), e, e, if_pos rfl, if_pos rfl]; omega
          · rw [h2 j (by omega), k2 j (by omega), e, e, if_neg (by omega), if_neg (by omega)]
        · simp at hy
      · simp at hx
theorem mtS_lex {nm : List Int} {L : List (List Int)} {m : Nat} (hL : LV L m) : (mtS nm L).Pairwise lexP := by
  have hlo := hL.lo
  have hhi := hL.hi
  have hlen : L.length - 1 = m - 1 := by rw [hL.len]
  unfold mtS mtK
  rw [List.pairwise_flatMap, hlen]
  constructor
  · intro i _
    exact cmpS_lex hhi (m - 1) 1 _ (by omega) rfl
  · refine List.Pairwise.imp ?_ List.pairwise_lt_range
    intro i k hik x hx y hy
    obtain ⟨_, h2, _⟩ := (mem_cmpS hhi (m - 1) 1 _ x (by omega) rfl).1 hx
    obtain ⟨_, k2, _⟩ := (mem_cmpS hhi (m - 1) 1 _ y (by omega) rfl).1 hy
    refine ⟨0, by omega, ?_, fun j hj => by omega⟩
    rw [h2 0 (by omega), k2 0 (by omega)]
    simp only [at0000, if_true]
    omega
theorem mtS_nodup {nm : List Int} {L : List (List Int)} {m : Nat} (hL : LV L m) : (mtS nm L).Nodup := by
  refine List.Pairwise.imp ?_ (mtS_lex hL)
  rintro a b ⟨i, _, h, _⟩ rfl
  omega
theorem befB_iff {a b : List Int} {m : Nat} : befB a b m = true ↔ ∀ i, i < m → iAt a i < iAt b i := by
  unfold befB
  rw [List.all_eq_true]
  constructor
  · intro h i hi; simpa using h i (List.mem_range.2 hi)
  · intro h i hi; simpa using h i (List.mem_range.1 hi)
theorem befB_irr {m : Nat} (hm : 1 ≤ m) (a : List Int) : befB a a m = false := by
  cases e : befB a a m with
  | false => rfl
  | true => have := befB_iff.1 e 0 (by omega); omega
theorem befB_tr {m : Nat} {a b c : List Int} (h : befB a b m = true) (h2 : befB b c m = true) : befB a c m = true := by
  rw [befB_iff] at *
  intro i hi
  have := h i hi
  have := h2 i hi
  omega
theorem okM_wpl {nm : List Int} {L : List (List Int)} {m : Nat} (hL : LV L m) {x : List Int} (h : OkM nm L m x) : WPl m x :=
  ⟨h.len, h.zero, fun i hi => by
    have := h.rng i hi
    have := hL.le8 i hi
    omega⟩
/-- What comes later does not come before. -/
theorem mtS_sorted {nm : List Int} {L : List (List Int)} {m : Nat} (hL : LV L m) : (mtS nm L).Pairwise (fun a b => befB b a m = false) := by
  refine (List.Pairwise.and_mem.1 (mtS_lex hL)).imp ?_
  rintro a b ⟨ha, hb, i, hi, h1, h2⟩
  have wa := okM_wpl hL ((mem_mtS hL a).1 ha)
  have wb := okM_wpl hL ((mem_mtS hL b).1 hb)
  cases e : befB b a m with
  | false => rfl
  | true =>
    rw [befB_iff] at e
    rcases Nat.lt_or_ge i m with h | h
    · have := e i h; omega
    · rw [wa.zero i h, wb.zero i h] at h1; omega
theorem mtS_wpl {nm : List Int} {L : List (List Int)} {m : Nat} (hL : LV L m) : ∀ x ∈ mtS nm L, WPl m x := fun x hx => okM_wpl hL ((mem_mtS hL x).1 hx)

/-! The least levels, and how many passages have so many matches. -/
def eF (mt : List (List Int)) (m : Nat) : Nat → List Int → Int × Int
  | 0, _ => (0, 0)
  | n + 1, x => longK (frK (eF mt m n) mt m x 0)
def eS (mt : List (List Int)) (m : Nat) : List Int → Int × Int := eF mt m 10
theorem frK_congr {E E2 : List Int → Int × Int} {mt : List (List Int)} {m : Nat} {p : List Int} {h : Nat} (he : ∀ x ∈ mt, frB m p h x = true → E x = E2 x) : frK E mt m p h = frK E2 mt m p h := by
  unfold frK
  congr 1
  apply List.map_congr_left
  intro x hx
  obtain ⟨h1, h2⟩ := List.mem_filter.1 hx
  exact he x h1 h2
theorem eF_stable {mt : List (List Int)} {m : Nat} (hm : 1 ≤ m) (hw : ∀ x ∈ mt, WPl m x) : ∀ (n n2 : Nat) (x : List Int), 1 ≤ n → 1 ≤ n2 → iAt x 0 < n → iAt x 0 < n2 → eF mt m n x = eF mt m n2 x := by
  intro n
  induction n with
  | zero => intro n2 x h; omega
  | succ n ih =>
    intro n2 x _ h2 h3 h4
    obtain ⟨k, rfl⟩ : ∃ k, n2 = k + 1 := ⟨n2 - 1, by omega⟩
    simp only [eF]
    congr 1
    apply frK_congr
    intro y hy hf
    have h5 := (frB_iff.1 hf 0 (by omega)).2 (by omega)
    have h6 := ((hw y hy).rng 0 (by omega)).1
    exact ih k y (by omega) (by omega) (by omega) (by omega)
theorem eS_eq {mt : List (List Int)} {m : Nat} (hm : 1 ≤ m) (hw : ∀ x ∈ mt, WPl m x) {x : List Int} (hx : iAt x 0 ≤ 8) : eS mt m x = longK (frK (eS mt m) mt m x 0) := by
  show longK (frK (eF mt m 9) mt m x 0) = _
  congr 1
  apply frK_congr
  intro y hy hf
  have h5 := (frB_iff.1 hf 0 (by omega)).2 (by omega)
  exact eF_stable hm hw 9 10 y (by omega) (by omega) (by omega) (by omega)
theorem expo_zero_le {m : Nat} {p : List Int} : expo m p 0 = sumN (List.range m) fun i => (iAt p i).toNat := by
  unfold expo
  apply sumN_congr
  intro i _
  rw [if_neg (by omega)]
theorem eS_bnd {mt : List (List Int)} (hn : mt.Nodup) {m : Nat} (hm : 1 ≤ m) (hm4 : m ≤ 4) (hw : ∀ x ∈ mt, WPl m x) : ∀ (n : Nat) (x : List Int), x ∈ mt → iAt x 0 < n → 1 ≤ (eS mt m x).1 ∧ (eS mt m x).1 ≤ iAt x 0 + 1 ∧ 1 ≤ (eS mt m x).2 ∧ (eS mt m x).2 ≤ (wgt m x : Nat) := by
  intro n
  induction n with
  | zero => intro x hx h; have := ((hw x hx).rng 0 (by omega)).1; omega
  | succ n ih =>
    intro x hx hlt
    have hr := (hw x hx).rng 0 (by omega)
    rw [eS_eq hm hw hr.2]
    have hsub : ∀ y ∈ mt.filter (frB m x 0), 1 ≤ (eS mt m y).1 ∧ (eS mt m y).1 ≤ iAt x 0 ∧ 1 ≤ (eS mt m y).2 ∧ (eS mt m y).2 ≤ (wgt m y : Nat) := by
      intro y hy
      obtain ⟨h1, h2⟩ := List.mem_filter.1 hy
      have h5 := (frB_iff.1 h2 0 (by omega)).2 (by omega)
      have := ih y h1 (by omega)
      omega
    have hle := sumK_le (eS mt m) (wgt m) (mt.filter (frB m x 0)) (fun y hy => by have := hsub y hy; omega) (iAt x 0) hr.1 (fun y hy => (hsub y hy).2.1)
    have hnat := sumK_nat (eS mt m) (mt.filter (frB m x 0)) (fun y hy => by have := hsub y hy; omega)
    have htot := tot_bnd hn hm4 hw m 0 (by omega) _ x (hw x hx) (fun i hi => by omega) (fun _ => rfl)
    rw [expo_zero_le] at htot
    have hpos : (1 : Nat) ≤ wgt m x := Nat.one_le_two_pow
    have htot' : sumN (mt.filter (frB m x 0)) (wgt m) ≤ wgt m x := htot
    show 1 ≤ (longK (sumK _)).1 ∧ _
    unfold frK
    obtain ⟨S, hS⟩ : ∃ S, sumK ((mt.filter (frB m x 0)).map (eS mt m)) = S := ⟨_, rfl⟩
    rw [hS] at hle hnat ⊢
    unfold longK
    by_cases h0 : S = (0, 0)
    · rw [if_pos h0]; dsimp only; omega
    · rw [if_neg h0]
      dsimp only
      have hne : mt.filter (frB m x 0) ≠ [] := fun e => h0 (hnat.1 e)
      obtain ⟨a1, a2, y, hy, a3⟩ := hnat.2.1 hne
      have h2 : 1 ≤ S.2 := by
        rw [hnat.2.2]
        have : 0 < sumN (mt.filter (frB m x 0)) (fun x => if (eS mt m x).1 = S.1 then (eS mt m x).2.toNat else 0) := sumN_pos.2 ⟨y, hy, by rw [if_pos a3]; have := hsub y hy; omega⟩
        omega
      omega
end Go.Proofs.Ythdjbapidodlfaa

namespace Go.Proofs.Ythdjbapidodlfaa
set_option linter.unusedSimpArgs false
set_option linter.unusedVariables false
open Go.RowKit Go.Shelf

def lv (mt : List (List Int)) (m : Nat) (x : List Int) : Nat := (eS mt m x).1.toNat
def ct (mt : List (List Int)) (m : Nat) (x : List Int) : Nat := (eS mt m x).2.toNat
def bef (m : Nat) : List Int → List Int → Bool := fun a b => befB a b m
def allK (mt : List (List Int)) (m : Nat) : Int × Int := sumK (mt.map (eS mt m))
section
variable {mt : List (List Int)} {m : Nat}
theorem eS_pos (hn : mt.Nodup) (hm : 1 ≤ m) (hm4 : m ≤ 4) (hw : ∀ x ∈ mt, WPl m x) {x : List Int} (hx : x ∈ mt) : 1 ≤ (eS mt m x).1 ∧ (eS mt m x).1 ≤ iAt x 0 + 1 ∧ 1 ≤ (eS mt m x).2 ∧ (eS mt m x).2 ≤ (wgt m x : Nat) :=
  eS_bnd hn hm hm4 hw ((iAt x 0).toNat + 1) x hx (by have := ((hw x hx).rng 0 (by omega)).1; omega)
theorem eS_lab (hn : mt.Nodup) (hm : 1 ≤ m) (hm4 : m ≤ 4) (hw : ∀ x ∈ mt, WPl m x) : Lab mt (bef m) (lv mt m) (ct mt m) := by
  intro x hx
  have he := eS_eq hm hw ((hw x hx).rng 0 (by omega)).2
  have hsub : ∀ y ∈ mt.filter (frB m x 0), 1 ≤ (eS mt m y).1 ∧ 0 ≤ (eS mt m y).2 := fun y hy => by
    have := eS_pos hn hm hm4 hw (List.mem_filter.1 hy).1
    omega
  have hmem : ∀ y, y ∈ mt.filter (frB m x 0) ↔ y ∈ mt ∧ bef m y x = true := fun y => by
    rw [List.mem_filter, frB_zero]; exact Iff.rfl
  have hnat := sumK_nat (eS mt m) (mt.filter (frB m x 0)) hsub
  unfold lv ct
  rw [he]
  unfold frK
  constructor
  · intro h
    have : mt.filter (frB m x 0) = [] := filter_none (fun y hy => by rw [frB_zero]; exact h y hy)
    rw [this]
    exact ⟨rfl, rfl⟩
  · rintro ⟨y0, hy0, hl0⟩
    have hne : mt.filter (frB m x 0) ≠ [] := List.ne_nil_of_mem ((hmem y0).2 ⟨hy0, hl0⟩)
    obtain ⟨a1, a2, y1, hy1, a3⟩ := hnat.2.1 hne
    have a4 := hnat.2.2
    obtain ⟨S, hS⟩ : ∃ S, sumK ((mt.filter (frB m x 0)).map (eS mt m)) = S := ⟨_, rfl⟩
    rw [hS] at a1 a2 a3 a4 ⊢
    have h0 : S ≠ (0, 0) := by rintro rfl; omega
    unfold longK
    rw [if_neg h0]
    refine ⟨S.1.toNat, fun y hy hly => ?_, ⟨y1, ((hmem y1).1 hy1).1, ((hmem y1).1 hy1).2, by rw [a3]⟩, by dsimp only; omega, ?_⟩
    · have := a2 y ((hmem y).2 ⟨hy, hly⟩)
      omega
    · dsimp only
      rw [a4, Int.toNat_natCast, sumN_filter]
      apply sumN_congr
      intro y hy
      by_cases hb : befB y x m = true
      · rw [if_pos (by rw [frB_zero]; exact hb)]
        have := eS_pos hn hm hm4 hw hy
        by_cases hc : (eS mt m y).1 = S.1
        · rw [if_pos hc, if_pos ⟨hb, by rw [hc]⟩]
        · rw [if_neg hc, if_neg (fun e => hc (by have := e.2; omega))]
      · rw [if_neg (by rw [frB_zero]; exact hb), if_neg (fun e => hb e.1)]
theorem eS_lev (hn : mt.Nodup) (hm : 1 ≤ m) (hm4 : m ≤ 4) (hw : ∀ x ∈ mt, WPl m x) : Lev mt (bef m) (lv mt m) (ct mt m) :=
  lev_of hn (eS_lab hn hm hm4 hw) (fun x => (iAt x 0).toNat) (fun x hx y hy h => by
    have := befB_iff.1 h 0 (by omega)
    have := ((hw x hx).rng 0 (by omega)).1
    have := ((hw y hy).rng 0 (by omega)).1
    omega)
theorem allK_top (hn : mt.Nodup) (hm : 1 ≤ m) (hm4 : m ≤ 4) (hw : ∀ x ∈ mt, WPl m x) :
    Top mt (lv mt m) (allK mt m).1.toNat ∧ (mt = [] → allK mt m = (0, 0)) ∧ (mt ≠ [] → 1 ≤ (allK mt m).1 ∧ 1 ≤ (allK mt m).2 ∧ ((chs mt (bef m) (allK mt m).1.toNat).length : Int) = (allK mt m).2) := by
  have hnat := sumK_nat (eS mt m) mt (fun x hx => by have := eS_pos hn hm hm4 hw hx; omega)
  unfold allK
  obtain ⟨S, hS⟩ : ∃ S, sumK (mt.map (eS mt m)) = S := ⟨_, rfl⟩
  rw [hS] at hnat ⊢
  have hT : Top mt (lv mt m) S.1.toNat := by
    by_cases hne : mt = []
    · rw [hnat.1 hne, hne]
      exact ⟨fun x hx => by simp at hx, .inl rfl⟩
    · obtain ⟨a1, a2, y, hy, a3⟩ := hnat.2.1 hne
      exact ⟨fun x hx => by have := a2 x hx; unfold lv; omega, .inr ⟨y, hy, by unfold lv; rw [a3]⟩⟩
  refine ⟨hT, hnat.1, fun hne => ?_⟩
  obtain ⟨a1, a2, y, hy, a3⟩ := hnat.2.1 hne
  have hc := chs_count hn (eS_lev hn hm hm4 hw) hT (by omega)
  have e : sumN mt (fun x => if lv mt m x = S.1.toNat then ct mt m x else 0) = sumN mt (fun x => if (eS mt m x).1 = S.1 then (eS mt m x).2.toNat else 0) := by
    apply sumN_congr
    intro x hx
    have := eS_pos hn hm hm4 hw hx
    unfold lv ct
    by_cases h : (eS mt m x).1 = S.1
    · rw [if_pos h, if_pos (by rw [h])]
    · rw [if_neg h, if_neg (by omega)]
  rw [e] at hc
  refine ⟨a1, ?_, by rw [hc, hnat.2.2]⟩
  rw [hnat.2.2]
  have := eS_pos hn hm hm4 hw hy
  have h3 : 0 < sumN mt (fun x => if (eS mt m x).1 = S.1 then (eS mt m x).2.toNat else 0) := sumN_pos.2 ⟨y, hy, by rw [if_pos a3]; omega⟩
  omega
end
theorem whK_facts {L : List (List Int)} {m : Nat} (hm : m ≤ 4) : ∀ k, k ≤ m → (whK L k).length = 4 ∧ ∀ i, iAt (whK L k) i = if i < k then ((lAt L i).length : Int) else 0 := by
  intro k
  induction k with
  | zero =>
    intro _
    refine ⟨rfl, fun i => ?_⟩
    rw [if_neg (by omega)]
    match i with
    | 0 => rfl
    | 1 => rfl
    | 2 => rfl
    | 3 => rfl
    | i + 4 => simp [iAt, whK]
  | succ k ih =>
    intro hk
    obtain ⟨h1, h2⟩ := ih (by omega)
    rw [whK_succ]
    refine ⟨by rw [List.length_set]; exact h1, fun i => ?_⟩
    rw [iAt_set9 _ (by omega), h2]
    by_cases hi : k = i
    · subst hi; rw [if_pos rfl, if_pos (by omega)]
    · rw [if_neg hi]
      by_cases h3 : i < k
      · rw [if_pos h3, if_pos (by omega)]
      · rw [if_neg h3, if_neg (by omega)]
theorem whK_wpl {L : List (List Int)} {m : Nat} (hL : LV L m) : WPl m (whK L m) := by
  obtain ⟨h1, h2⟩ := whK_facts (L := L) hL.hi m (Nat.le_refl _)
  refine ⟨h1, fun i hi => by rw [h2, if_neg (by omega)], fun i hi => ?_⟩
  have := hL.le8 i hi
  rw [h2, if_pos hi]
  omega
theorem frK_whole {nm : List Int} {L : List (List Int)} {m : Nat} (hL : LV L m) (E : List Int → Int × Int) : frK E (mtS nm L) m (whK L m) 0 = sumK ((mtS nm L).map E) := by
  unfold frK
  rw [List.filter_eq_self.2]
  intro x hx
  rw [frB_iff]
  intro i hi
  refine ⟨fun h => by omega, fun _ => ?_⟩
  rw [(whK_facts hL.hi m (Nat.le_refl _)).2, if_pos hi]
  exact (((mem_mtS hL x).1 hx).rng i hi).2
/-- Counts stay small. -/
theorem frK_small {mt : List (List Int)} (hn : mt.Nodup) {m : Nat} (hm : 1 ≤ m) (hm4 : m ≤ 4) (hw : ∀ x ∈ mt, WPl m x) {p : List Int} {h : Nat} (hh : h ≤ m) (hp : WPl m p) (h1 : ∀ i, i < h → 1 ≤ iAt p i) :
    0 ≤ (frK (eS mt m) mt m p h).1 ∧ (frK (eS mt m) mt m p h).1 ≤ 9 ∧ 0 ≤ (frK (eS mt m) mt m p h).2 ∧ (frK (eS mt m) mt m p h).2 ≤ 1000000000000 := by
  have hle := sumK_le (eS mt m) (wgt m) (mt.filter (frB m p h)) (fun y hy => by have := eS_pos hn hm hm4 hw (List.mem_filter.1 hy).1; omega) 9 (by omega) (fun y hy => by
    have := eS_pos hn hm hm4 hw (List.mem_filter.1 hy).1
    have := ((hw y (List.mem_filter.1 hy).1).rng 0 (by omega)).2
    omega)
  have htot := tot_bnd hn hm4 hw (m - h) h (by omega) _ p hp h1 (fun _ => rfl)
  have hexp : expo m p h ≤ 32 := by
    unfold expo
    have : sumN (List.range m) (fun i => if i < h then (iAt p i - 1).toNat else (iAt p i).toNat) ≤ sumN (List.range m) (fun _ => 1 * 8) := sumN_le (fun i hi => by
      have := hp.rng i (List.mem_range.1 hi)
      split <;> omega)
    rw [sumN_mul, sumN_one, List.length_range] at this
    omega
  have h2 : 2 ^ expo m p h ≤ 2 ^ 32 := Nat.pow_le_pow_right (by omega) hexp
  unfold frK
  omega
end Go.Proofs.Ythdjbapidodlfaa
