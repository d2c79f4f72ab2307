/- Stage 4: chains of a finite order (mathematics): how long they are, how many end with an element, begin with one, or have one. -/
namespace Go.Proofs.Ythdjbapidodlfaa
set_option linter.unusedSimpArgs false
set_option linter.unusedVariables false

/-! Sums over lists. -/
def sumN {α : Type} (l : List α) (f : α → Nat) : Nat := (l.map f).sum
section sums
variable {α β : Type}
theorem sumN_nil (f : α → Nat) : sumN [] f = 0 := rfl
theorem sumN_cons (a : α) (l : List α) (f : α → Nat) : sumN (a :: l) f = f a + sumN l f := rfl
theorem sumN_app (l l2 : List α) (f : α → Nat) : sumN (l ++ l2) f = sumN l f + sumN l2 f := by
  induction l with
  | nil => simp [sumN_nil]
  | cons a t ih => simp only [List.cons_append, sumN_cons, ih]; omega
theorem sumN_congr {l : List α} {f g : α → Nat} (h : ∀ x ∈ l, f x = g x) : sumN l f = sumN l g := by
  induction l with
  | nil => rfl
  | cons a t ih => rw [sumN_cons, sumN_cons, h a (by simp), ih (fun x hx => h x (by simp [hx]))]
theorem sumN_zero (l : List α) : sumN l (fun _ => 0) = 0 := by
  induction l with
  | nil => rfl
  | cons a t ih => rw [sumN_cons, ih]
theorem sumN_add (l : List α) (f g : α → Nat) : sumN l (fun x => f x + g x) = sumN l f + sumN l g := by
  induction l with
  | nil => rfl
  | cons a t ih => simp only [sumN_cons, ih]; omega
theorem sumN_mul (l : List α) (f : α → Nat) (c : Nat) : sumN l (fun x => f x * c) = sumN l f * c := by
  induction l with
  | nil => simp [sumN_nil]
  | cons a t ih => simp only [sumN_cons, ih, Nat.add_mul]
theorem sumN_comm (l : List α) (l2 : List β) (f : α → β → Nat) : sumN l (fun x => sumN l2 (f x)) = sumN l2 (fun y => sumN l (fun x => f x y)) := by
  induction l with
  | nil => simp only [sumN_nil, sumN_zero]
  | cons a t ih => simp only [sumN_cons, ih, sumN_add]
theorem sumN_map (l : List α) (g : α → β) (f : β → Nat) : sumN (l.map g) f = sumN l (fun x => f (g x)) := by
  induction l with
  | nil => rfl
  | cons a t ih => simp only [List.map_cons, sumN_cons, ih]
theorem sumN_flatMap (l : List α) (g : α → List β) (f : β → Nat) : sumN (l.flatMap g) f = sumN l (fun x => sumN (g x) f) := by
  induction l with
  | nil => rfl
  | cons a t ih => simp only [List.flatMap_cons, sumN_app, sumN_cons, ih]
theorem sumN_filter (l : List α) (p : α → Bool) (f : α → Nat) : sumN (l.filter p) f = sumN l (fun x => if p x = true then f x else 0) := by
  induction l with
  | nil => rfl
  | cons a t ih =>
    rw [List.filter_cons, sumN_cons]
    by_cases h : p a = true
    · rw [if_pos h, if_pos h, sumN_cons, ih]
    · rw [if_neg h, if_neg h, ih]; omega
theorem sumN_one (l : List α) : sumN l (fun _ => 1) = l.length := by
  induction l with
  | nil => rfl
  | cons a t ih => rw [sumN_cons, ih, List.length_cons]; omega
theorem sumN_le {l : List α} {f g : α → Nat} (h : ∀ x ∈ l, f x ≤ g x) : sumN l f ≤ sumN l g := by
  induction l with
  | nil => exact Nat.le_refl _
  | cons a t ih =>
    rw [sumN_cons, sumN_cons]
    have := h a (by simp)
    have := ih (fun x hx => h x (by simp [hx]))
    omega
theorem sumN_pos {l : List α} {f : α → Nat} : 0 < sumN l f ↔ ∃ x ∈ l, 0 < f x := by
  induction l with
  | nil => simp [sumN_nil]
  | cons a t ih =>
    rw [sumN_cons]
    constructor
    · intro h
      by_cases h0 : 0 < f a
      · exact ⟨a, by simp, h0⟩
      · obtain ⟨x, hx, h2⟩ := ih.1 (by omega)
        exact ⟨x, by simp [hx], h2⟩
    · rintro ⟨x, hx, h⟩
      rcases List.mem_cons.1 hx with rfl | hx
      · omega
      · have := ih.2 ⟨x, hx, h⟩; omega
theorem sumN_single [DecidableEq α] {l : List α} (hn : l.Nodup) {x : α} (hx : x ∈ l) (f : α → Nat) : sumN l (fun y => if y = x then f y else 0) = f x := by
  induction l with
  | nil => simp at hx
  | cons a t ih =>
    rw [sumN_cons]
    rw [List.nodup_cons] at hn
    by_cases h : a = x
    · subst h
      have : sumN t (fun y => if y = a then f y else 0) = 0 := by
        rw [sumN_congr (g := fun _ => 0) (fun y hy => if_neg (fun e => hn.1 (by rw [← e]; exact hy))), sumN_zero]
      rw [if_pos rfl, this]; rfl
    · rw [if_neg h, ih hn.2 (by rcases List.mem_cons.1 hx with e | e; exact absurd e.symm h; exact e)]
      omega
theorem sumN_none [DecidableEq α] {l : List α} {x : α} (hx : x ∉ l) (f : α → Nat) : sumN l (fun y => if y = x then f y else 0) = 0 := by
  rw [sumN_congr (g := fun _ => 0) (fun y hy => if_neg (fun e => hx (by rw [← e]; exact hy))), sumN_zero]
/-- Of 0 and 1, with all of them 1 just if the sum is how many there are. -/
theorem sumN_full {l : List α} {p : α → Prop} [DecidablePred p] : sumN l (fun x => if p x then 1 else 0) = l.length ↔ ∀ x ∈ l, p x := by
  induction l with
  | nil => simp [sumN_nil]
  | cons a t ih =>
    have hle : sumN t (fun x => if p x then 1 else 0) ≤ t.length := by
      rw [← sumN_one t]; exact sumN_le (fun x _ => by split <;> omega)
    rw [sumN_cons, List.length_cons]
    constructor
    · intro h x hx
      by_cases ha : p a
      · rw [if_pos ha] at h
        rcases List.mem_cons.1 hx with rfl | hx
        · exact ha
        · exact ih.1 (by omega) x hx
      · rw [if_neg ha] at h; omega
    · intro h
      rw [if_pos (h a (by simp)), ih.2 (fun x hx => h x (by simp [hx]))]; omega
end sums

/-! Chains. -/
section chains
variable {α : Type} (l : List α) (lt : α → α → Bool)
/-- An element can go on behind a chain. -/
def ext (p : List α) (x : α) : Bool := match p.getLast? with
  | none => true
  | some y => lt y x
/-- The chains of so many elements, in order. -/
def chs : Nat → List (List α)
  | 0 => [[]]
  | k + 1 => (chs k).flatMap fun p => (l.filter (ext lt p)).map fun x => p ++ [x]
/-- How many chains end with an element. -/
def cE [DecidableEq α] (k : Nat) (x : α) : Nat := sumN (chs l lt k) fun p => if p.getLast? = some x then 1 else 0
def lastv (p : List α) (g : α → Nat) : Nat := match p.getLast? with
  | none => 0
  | some y => g y
variable {l lt}
theorem ext_snoc (p : List α) (y x : α) : ext lt (p ++ [y]) x = lt y x := by simp [ext]
theorem ext_nil (x : α) : ext lt [] x = true := rfl
theorem mem_chs {k : Nat} {q : List α} : q ∈ chs l lt (k + 1) ↔ ∃ p ∈ chs l lt k, ∃ x ∈ l, ext lt p x = true ∧ q = p ++ [x] := by
  simp only [chs, List.mem_flatMap, List.mem_map, List.mem_filter]
  constructor
  · rintro ⟨p, hp, x, ⟨hx, he⟩, rfl⟩; exact ⟨p, hp, x, hx, he, rfl⟩
  · rintro ⟨p, hp, x, hx, he, rfl⟩; exact ⟨p, hp, x, ⟨hx, he⟩, rfl⟩
theorem chs_len {k : Nat} : ∀ {q : List α}, q ∈ chs l lt k → q.length = k := by
  induction k with
  | zero => intro q hq; simp only [chs, List.mem_singleton] at hq; rw [hq]; rfl
  | succ k ih =>
    intro q hq
    obtain ⟨p, hp, x, _, _, rfl⟩ := mem_chs.1 hq
    rw [List.length_append, ih hp]; rfl
theorem chs_mem {k : Nat} : ∀ {q : List α}, q ∈ chs l lt k → ∀ x ∈ q, x ∈ l := by
  induction k with
  | zero => intro q hq; simp only [chs, List.mem_singleton] at hq; rw [hq]; simp
  | succ k ih =>
    intro q hq
    obtain ⟨p, hp, x, hx, _, rfl⟩ := mem_chs.1 hq
    intro y hy
    rcases List.mem_append.1 hy with h | h
    · exact ih hp y h
    · rw [List.mem_singleton.1 h]; exact hx
theorem chs_last {k : Nat} {q : List α} (hq : q ∈ chs l lt (k + 1)) : ∃ y ∈ l, q.getLast? = some y := by
  obtain ⟨p, _, x, hx, _, rfl⟩ := mem_chs.1 hq
  exact ⟨x, hx, by simp⟩
/-- A chain, by its elements. -/
def Chain' (lt : α → α → Bool) (q : List α) : Prop := q.Pairwise (fun a b => lt a b = true)
theorem chs_pair (htr : ∀ a b c, lt a b = true → lt b c = true → lt a c = true) {k : Nat} : ∀ {q : List α}, q ∈ chs l lt k → Chain' lt q := by
  induction k with
  | zero => intro q hq; simp only [chs, List.mem_singleton] at hq; rw [hq]; exact List.Pairwise.nil
  | succ k ih =>
    intro q hq
    obtain ⟨p, hp, x, hx, he, rfl⟩ := mem_chs.1 hq
    have h1 := ih hp
    refine List.pairwise_append.2 ⟨h1, by simp, ?_⟩
    intro a ha b hb
    rw [List.mem_singleton.1 hb]
    rcases List.eq_nil_or_concat p with rfl | ⟨p', y, rfl⟩
    · simp at ha
    · rw [List.concat_eq_append] at ha h1 he
      rw [ext_snoc] at he
      rcases List.mem_append.1 ha with h | h
      · exact htr a y x ((List.pairwise_append.1 h1).2.2 a h y (by simp)) he
      · rw [List.mem_singleton.1 h]; exact he
/-- All chains are there. -/
theorem chs_all {q : List α} (hq : Chain' lt q) (hm : ∀ x ∈ q, x ∈ l) : q ∈ chs l lt q.length := by
  obtain ⟨n, hn⟩ : ∃ n, q.length = n := ⟨_, rfl⟩
  rw [hn]
  induction n generalizing q with
  | zero => rw [List.length_eq_zero_iff.1 hn]; simp [chs]
  | succ n ih =>
    rcases List.eq_nil_or_concat q with rfl | ⟨p, x, rfl⟩
    · simp at hn
    · rw [List.concat_eq_append] at hq hm hn ⊢
      obtain ⟨h1, _, h3⟩ := List.pairwise_append.1 hq
      refine mem_chs.2 ⟨p, ih h1 (fun y hy => hm y (by simp [hy])) (by rw [List.length_append] at hn; simpa using hn), x, hm x (by simp), ?_, rfl⟩
      rcases List.eq_nil_or_concat p with rfl | ⟨p', y, rfl⟩
      · rfl
      · rw [List.concat_eq_append] at h3 ⊢
        rw [ext_snoc]
        exact h3 y (by simp) x (by simp)
theorem sum_chs_succ (k : Nat) (f : List α → Nat) : sumN (chs l lt (k + 1)) f = sumN (chs l lt k) fun p => sumN l fun x => if ext lt p x = true then f (p ++ [x]) else 0 := by
  simp only [chs, sumN_flatMap, sumN_map, sumN_filter]
theorem nodup_of_chain (hir : ∀ a, lt a a = false) {q : List α} (h : Chain' lt q) : q.Nodup := by
  refine List.Pairwise.imp ?_ h
  intro a b hab e
  subst e
  rw [hir] at hab; cases hab
variable [DecidableEq α]
theorem last_split (hn : l.Nodup) (k : Nat) (h : α → Nat) : sumN (chs l lt (k + 1)) (fun p => lastv p h) = sumN l fun y => cE l lt (k + 1) y * h y := by
  have e : (fun y => cE l lt (k + 1) y * h y) = fun y => sumN (chs l lt (k + 1)) fun p => if p.getLast? = some y then h y else 0 := by
    funext y
    unfold cE
    rw [← sumN_mul]
    apply sumN_congr
    intro p _
    split <;> simp
  rw [e, sumN_comm]
  apply sumN_congr
  intro p hp
  obtain ⟨y, hy, hl⟩ := chs_last hp
  unfold lastv
  rw [hl]
  refine Eq.trans (sumN_single hn hy h).symm ?_
  apply sumN_congr
  intro z _
  by_cases hz : z = y
  · rw [if_pos hz, if_pos (by rw [hz])]
  · rw [if_neg hz, if_neg (fun e => hz (Option.some.inj e).symm)]
theorem cE_zero (x : α) : cE l lt 0 x = 0 := by simp [cE, chs, sumN]
theorem cE_one (hn : l.Nodup) {x : α} (hx : x ∈ l) : cE l lt 1 x = 1 := by
  unfold cE
  rw [sum_chs_succ]
  simp only [chs, sumN_cons, sumN_nil, ext_nil, if_true, Nat.add_zero]
  refine Eq.trans ?_ (sumN_single hn hx (fun _ => 1))
  apply sumN_congr
  intro z _
  by_cases hz : z = x
  · simp [hz]
  · simp [hz]
theorem cE_succ (hn : l.Nodup) {x : α} (hx : x ∈ l) (k : Nat) : cE l lt (k + 2) x = sumN l fun y => if lt y x = true then cE l lt (k + 1) y else 0 := by
  have h1 : cE l lt (k + 2) x = sumN (chs l lt (k + 1)) (fun p => lastv p (fun y => if lt y x = true then 1 else 0)) := by
    unfold cE
    rw [sum_chs_succ]
    apply sumN_congr
    intro p hp
    obtain ⟨y, hy, hl⟩ := chs_last hp
    unfold lastv
    rw [hl]
    have e : ∀ z, ext lt p z = lt y z := fun z => by simp only [ext, hl]
    refine Eq.trans ?_ (sumN_single hn hx (fun z => if lt y z = true then 1 else 0))
    apply sumN_congr
    intro z _
    rw [e]
    by_cases hz : z = x
    · subst hz; simp
    · simp [hz]
  rw [h1, last_split hn]
  apply sumN_congr
  intro y _
  split <;> simp
theorem sum_chs_ext (hn : l.Nodup) (r : Nat) : ∀ (k : Nat) (f : List α → Nat), sumN (chs l lt (k + 1 + r)) (fun q => f (q.take (k + 1))) = sumN (chs l lt (k + 1)) fun p => f p * lastv p (cE l (fun a b => lt b a) (r + 1)) := by
  induction r with
  | zero =>
    intro k f
    apply sumN_congr
    intro p hp
    obtain ⟨y, hy, hl⟩ := chs_last hp
    rw [List.take_of_length_le (by rw [chs_len hp]; exact Nat.le_refl _)]
    simp only [lastv, hl, cE_one hn hy, Nat.mul_one]
  | succ r ih =>
    intro k f
    have h1 := ih (k + 1) (fun q => f (q.take (k + 1)))
    rw [show k + 1 + (r + 1) = k + 1 + 1 + r by omega]
    have e : (fun q : List α => f ((q.take (k + 1 + 1)).take (k + 1))) = fun q => f (q.take (k + 1)) := by
      funext q
      rw [List.take_take, show min (k + 1) (k + 1 + 1) = k + 1 by omega]
    rw [e] at h1
    rw [h1, sum_chs_succ]
    apply sumN_congr
    intro p hp
    obtain ⟨y, hy, hl⟩ := chs_last hp
    have ep : ∀ z, ext lt p z = lt y z := fun z => by simp only [ext, hl]
    have hlen := chs_len hp
    simp only [lastv, hl]
    rw [cE_succ hn hy]
    rw [Nat.mul_comm, ← sumN_mul]
    apply sumN_congr
    intro z _
    rw [ep]
    by_cases hz : lt y z = true
    · rw [if_pos hz, if_pos hz, List.take_append_of_le_length (by omega), List.take_of_length_le (by omega)]
      simp [Nat.mul_comm]
    · rw [if_neg hz, if_neg hz]; simp
/-- How many of the chains of K elements have an element. -/
def nE (l : List α) (lt : α → α → Bool) (K : Nat) (x : α) : Nat := sumN (chs l lt K) fun q => if x ∈ q then 1 else 0
theorem mem_places {q : List α} (h : q.Nodup) (x : α) : (if x ∈ q then 1 else 0) = sumN (List.range q.length) fun i => if (q.take (i + 1)).getLast? = some x then 1 else 0 := by
  induction q with
  | nil => simp [sumN]
  | cons a t ih =>
    rw [List.nodup_cons] at h
    rw [List.length_cons, List.range_succ_eq_map, sumN_cons, sumN_map]
    have e : ∀ i ∈ List.range t.length, (if (List.take (i.succ + 1) (a :: t)).getLast? = some x then 1 else 0) = if (t.take (i + 1)).getLast? = some x then 1 else 0 := by
      intro i hi
      have hi := List.mem_range.1 hi
      rw [List.take_succ_cons]
      have : (t.take (i + 1)) ≠ [] := by
        intro e
        have := congrArg List.length e
        rw [List.length_take, List.length_nil] at this
        omega
      obtain ⟨b, s, hbs⟩ := List.exists_cons_of_ne_nil this
      rw [hbs, List.getLast?_cons_cons]
    rw [sumN_congr e, ← ih h.2]
    simp only [List.take_succ_cons, List.take_zero, List.getLast?_singleton, Option.some.injEq, List.mem_cons]
    by_cases hx : a = x
    · subst hx
      simp [h.1]
    · have : ¬ x = a := fun e => hx e.symm
      simp [hx, this]
theorem nE_eq (hn : l.Nodup) (hir : ∀ a, lt a a = false) (htr : ∀ a b c, lt a b = true → lt b c = true → lt a c = true) (K : Nat) (x : α) :
    nE l lt K x = sumN (List.range K) fun i => cE l lt (i + 1) x * cE l (fun a b => lt b a) (K - i) x := by
  unfold nE
  have e1 : sumN (chs l lt K) (fun q => if x ∈ q then 1 else 0) = sumN (chs l lt K) fun q => sumN (List.range K) fun i => if (q.take (i + 1)).getLast? = some x then 1 else 0 := by
    apply sumN_congr
    intro q hq
    have := mem_places (nodup_of_chain hir (chs_pair htr hq)) x
    rw [chs_len hq] at this
    exact this
  rw [e1, sumN_comm]
  apply sumN_congr
  intro i hi
  have hi := List.mem_range.1 hi
  have h2 := sum_chs_ext (l := l) (lt := lt) hn (K - i - 1) i (fun p => if p.getLast? = some x then 1 else 0)
  rw [show i + 1 + (K - i - 1) = K by omega, show K - i - 1 + 1 = K - i by omega] at h2
  rw [h2]
  have e3 : (fun p : List α => (if p.getLast? = some x then 1 else 0) * lastv p (cE l (fun a b => lt b a) (K - i))) = fun p => (if p.getLast? = some x then 1 else 0) * cE l (fun a b => lt b a) (K - i) x := by
    funext p
    by_cases hp : p.getLast? = some x
    · simp only [lastv, hp]
    · simp [hp]
  rw [e3, sumN_mul]
  rfl
end chains

/-! Levels and counts. -/
section levels
variable {α : Type} [DecidableEq α] {l : List α} {lt : α → α → Bool}
/-- What the levels and counts of elements are told by. -/
def Lab (l : List α) (lt : α → α → Bool) (lev cnt : α → Nat) : Prop := ∀ x ∈ l,
  ((∀ y ∈ l, lt y x = false) → lev x = 1 ∧ cnt x = 1) ∧
  ((∃ y ∈ l, lt y x = true) → ∃ M, (∀ y ∈ l, lt y x = true → lev y ≤ M) ∧ (∃ y ∈ l, lt y x = true ∧ lev y = M) ∧ lev x = M + 1 ∧ cnt x = sumN l fun y => if lt y x = true ∧ lev y = M then cnt y else 0)
theorem lab_ok (hn : l.Nodup) {lev cnt : α → Nat} (h : Lab l lt lev cnt) (r : α → Nat) (hr : ∀ x ∈ l, ∀ y ∈ l, lt y x = true → r y < r x) :
    ∀ (n : Nat) (x : α), x ∈ l → r x < n → 1 ≤ lev x ∧ 1 ≤ cnt x ∧ (∀ k, 0 < cE l lt (k + 1) x ↔ k + 1 ≤ lev x) ∧ cE l lt (lev x) x = cnt x := by
  intro n
  induction n with
  | zero => intro x _ h0; omega
  | succ n ih =>
    intro x hx hrx
    by_cases hp : ∃ y ∈ l, lt y x = true
    · obtain ⟨M, h1, ⟨y0, hy0, hl0, hm0⟩, h3, h4⟩ := (h x hx).2 hp
      have ih0 := ih y0 hy0 (by have := hr x hx y0 hy0 hl0; omega)
      have hM : 1 ≤ M := by omega
      have hcE : ∀ k, 0 < cE l lt (k + 2) x ↔ k + 1 ≤ M := fun k => by
        rw [cE_succ hn hx, sumN_pos]
        constructor
        · rintro ⟨y, hy, h5⟩
          by_cases hyx : lt y x = true
          · rw [if_pos hyx] at h5
            have := ((ih y hy (by have := hr x hx y hy hyx; omega)).2.2.1 k).1 h5
            have := h1 y hy hyx
            omega
          · rw [if_neg hyx] at h5; omega
        · intro hk
          exact ⟨y0, hy0, by rw [if_pos hl0]; exact (ih0.2.2.1 k).2 (by omega)⟩
      have hcnt : cE l lt (M + 1) x = cnt x := by
        obtain ⟨M', rfl⟩ : ∃ M', M = M' + 1 := ⟨M - 1, by omega⟩
        rw [h4, cE_succ hn hx]
        apply sumN_congr
        intro y hy
        by_cases hyx : lt y x = true
        · have ihy := ih y hy (by have := hr x hx y hy hyx; omega)
          by_cases hly : lev y = M' + 1
          · rw [if_pos hyx, if_pos ⟨hyx, hly⟩, ← ihy.2.2.2, hly]
          · rw [if_pos hyx, if_neg (fun e => hly e.2)]
            have h6 := h1 y hy hyx
            rcases Nat.eq_zero_or_pos (cE l lt (M' + 1) y) with e | e
            · exact e
            · have := (ihy.2.2.1 M').1 e; omega
        · rw [if_neg hyx, if_neg (fun e => hyx e.1)]
      refine ⟨by omega, ?_, ?_, by rw [h3]; exact hcnt⟩
      · rw [← hcnt]
        obtain ⟨M', rfl⟩ : ∃ M', M = M' + 1 := ⟨M - 1, by omega⟩
        exact (hcE M').2 (by omega)
      · intro k
        rcases Nat.eq_zero_or_pos k with rfl | hk
        · rw [Nat.zero_add, cE_one hn hx]; omega
        · obtain ⟨k', rfl⟩ : ∃ k', k = k' + 1 := ⟨k - 1, by omega⟩
          rw [hcE k']; omega
    · have hp' : ∀ y ∈ l, lt y x = false := fun y hy => by
        cases e : lt y x with
        | false => rfl
        | true => exact absurd ⟨y, hy, e⟩ hp
      obtain ⟨h1, h2⟩ := (h x hx).1 hp'
      refine ⟨by omega, by omega, ?_, by rw [h1, cE_one hn hx, h2]⟩
      intro k
      rcases Nat.eq_zero_or_pos k with rfl | hk
      · rw [Nat.zero_add, cE_one hn hx]; omega
      · obtain ⟨k', rfl⟩ : ∃ k', k = k' + 1 := ⟨k - 1, by omega⟩
        rw [cE_succ hn hx, sumN_congr (g := fun _ => 0) (fun y hy => by rw [if_neg (by rw [hp' y hy]; simp)]), sumN_zero]
        omega
/-- The order, and levels and counts from both ends. -/
structure Lev (l : List α) (lt : α → α → Bool) (lev cnt : α → Nat) : Prop where
  one : ∀ x ∈ l, 1 ≤ lev x ∧ 1 ≤ cnt x
  pos : ∀ x ∈ l, ∀ k, 0 < cE l lt (k + 1) x ↔ k + 1 ≤ lev x
  num : ∀ x ∈ l, cE l lt (lev x) x = cnt x
theorem lev_of (hn : l.Nodup) {lev cnt : α → Nat} (h : Lab l lt lev cnt) (r : α → Nat) (hr : ∀ x ∈ l, ∀ y ∈ l, lt y x = true → r y < r x) : Lev l lt lev cnt :=
  ⟨fun x hx => ⟨(lab_ok hn h r hr _ x hx (Nat.lt_succ_self _)).1, (lab_ok hn h r hr _ x hx (Nat.lt_succ_self _)).2.1⟩, fun x hx => (lab_ok hn h r hr _ x hx (Nat.lt_succ_self _)).2.2.1, fun x hx => (lab_ok hn h r hr _ x hx (Nat.lt_succ_self _)).2.2.2⟩
/-- K is the greatest level. -/
def Top (l : List α) (lev : α → Nat) (K : Nat) : Prop := (∀ x ∈ l, lev x ≤ K) ∧ (K = 0 ∨ ∃ x ∈ l, lev x = K)
theorem chs_none {lev cnt : α → Nat} (hL : Lev l lt lev cnt) {K : Nat} (hK : Top l lev K) {k : Nat} (hk : K < k) : chs l lt k = [] := by
  obtain ⟨k', rfl⟩ : ∃ k', k = k' + 1 := ⟨k - 1, by omega⟩
  rcases h : chs l lt (k' + 1) with _ | ⟨q, t⟩
  · rfl
  · have hq : q ∈ chs l lt (k' + 1) := by rw [h]; simp
    obtain ⟨y, hy, hl⟩ := chs_last hq
    have h1 : 0 < cE l lt (k' + 1) y := sumN_pos.2 ⟨q, hq, by rw [if_pos hl]; omega⟩
    have := (hL.pos y hy k').1 h1
    have := hK.1 y hy
    omega
theorem chs_some {lev cnt : α → Nat} (hL : Lev l lt lev cnt) {K : Nat} (hK : Top l lev K) : chs l lt K ≠ [] := by
  rcases hK.2 with rfl | ⟨x, hx, h⟩
  · simp [chs]
  · intro e
    have h1 := hL.num x hx
    have h2 := (hL.one x hx).2
    rw [h] at h1
    unfold cE at h1
    rw [e, sumN_nil] at h1
    omega
theorem chs_count (hn : l.Nodup) {lev cnt : α → Nat} (hL : Lev l lt lev cnt) {K : Nat} (hK : Top l lev K) (h1 : 1 ≤ K) : (chs l lt K).length = sumN l fun x => if lev x = K then cnt x else 0 := by
  obtain ⟨K', rfl⟩ : ∃ K', K = K' + 1 := ⟨K - 1, by omega⟩
  rw [← sumN_one]
  have e : sumN (chs l lt (K' + 1)) (fun _ => 1) = sumN (chs l lt (K' + 1)) (fun p => lastv p (fun _ => 1)) := by
    apply sumN_congr
    intro p hp
    obtain ⟨y, _, hl⟩ := chs_last hp
    simp only [lastv, hl]
  rw [e, last_split hn]
  apply sumN_congr
  intro x hx
  rw [Nat.mul_one]
  by_cases hx2 : lev x = K' + 1
  · rw [if_pos hx2, ← hL.num x hx, hx2]
  · rw [if_neg hx2]
    rcases Nat.eq_zero_or_pos (cE l lt (K' + 1) x) with e | e
    · exact e
    · have := (hL.pos x hx K').1 e
      have := hK.1 x hx
      omega
theorem chs_both (hn : l.Nodup) {K : Nat} {a b : Nat} {x : α} (h1 : 0 < cE l lt (a + 1) x) (h2 : 0 < cE l (fun u v => lt v u) (b + 1) x) : chs l lt (a + 1 + b) ≠ [] := by
  have h := sum_chs_ext (l := l) (lt := lt) hn b a (fun p => if p.getLast? = some x then 1 else 0)
  intro e
  rw [e, sumN_nil] at h
  obtain ⟨p, hp, h3⟩ := sumN_pos.1 h1
  have h4 : 0 < sumN (chs l lt (a + 1)) (fun p => (if p.getLast? = some x then 1 else 0) * lastv p (cE l (fun a b => lt b a) (b + 1))) := by
    refine sumN_pos.2 ⟨p, hp, ?_⟩
    by_cases hpx : p.getLast? = some x
    · rw [if_pos hpx]
      simp only [lastv, hpx, Nat.one_mul]
      exact h2
    · rw [if_neg hpx] at h3; omega
  omega
theorem lev_sum (hn : l.Nodup) {lev cnt blev bcnt : α → Nat} (hL : Lev l lt lev cnt) (hB : Lev l (fun u v => lt v u) blev bcnt) {K : Nat} (hK : Top l lev K) {x : α} (hx : x ∈ l) : lev x + blev x ≤ K + 1 := by
  have h1 := (hL.one x hx).1
  have h2 := (hB.one x hx).1
  have h3 := chs_both hn (K := K) ((hL.pos x hx (lev x - 1)).2 (by omega)) ((hB.pos x hx (blev x - 1)).2 (by omega))
  rcases Nat.lt_or_ge K (lev x - 1 + 1 + (blev x - 1)) with h | h
  · exact absurd (chs_none hL hK h) h3
  · omega
/-- How many of the longest chains have an element. -/
theorem nE_lev (hn : l.Nodup) (hir : ∀ a, lt a a = false) (htr : ∀ a b c, lt a b = true → lt b c = true → lt a c = true) {lev cnt blev bcnt : α → Nat} (hL : Lev l lt lev cnt) (hB : Lev l (fun u v => lt v u) blev bcnt) {K : Nat} (hK : Top l lev K) {x : α} (hx : x ∈ l) :
    nE l lt K x = if lev x + blev x < K + 1 then 0 else cnt x * bcnt x := by
  rw [nE_eq hn hir htr]
  have h1 := (hL.one x hx).1
  have h2 := (hB.one x hx).1
  have h3 := lev_sum hn hL hB hK hx
  have h0 : ∀ i ∈ List.range K, i ≠ lev x - 1 ∨ lev x + blev x < K + 1 → cE l lt (i + 1) x * cE l (fun a b => lt b a) (K - i) x = 0 := by
    intro i hi hc
    have hi := List.mem_range.1 hi
    rcases Nat.eq_zero_or_pos (cE l lt (i + 1) x) with e | e
    · rw [e, Nat.zero_mul]
    · have h4 := (hL.pos x hx i).1 e
      rcases Nat.eq_zero_or_pos (cE l (fun a b => lt b a) (K - i) x) with e2 | e2
      · rw [e2, Nat.mul_zero]
      · have h5 := (hB.pos x hx (K - i - 1)).1 (by rw [show K - i - 1 + 1 = K - i by omega]; exact e2)
        omega
  by_cases hlt : lev x + blev x < K + 1
  · rw [if_pos hlt, sumN_congr (g := fun _ => 0) (fun i hi => h0 i hi (.inr hlt)), sumN_zero]
  · rw [if_neg hlt]
    have hin : lev x - 1 ∈ List.range K := List.mem_range.2 (by omega)
    have := sumN_single (List.nodup_range (n := K)) hin (fun i => cE l lt (i + 1) x * cE l (fun a b => lt b a) (K - i) x)
    rw [show lev x - 1 + 1 = lev x by omega, show K - (lev x - 1) = blev x by omega, hL.num x hx, hB.num x hx] at this
    rw [← this]
    apply sumN_congr
    intro i hi
    by_cases hie : i = lev x - 1
    · rw [if_pos hie]
    · rw [if_neg hie, h0 i hi (.inl hie)]
end levels

/-! The first of the longest chains. -/
section first
variable {α : Type} {l : List α} {lt : α → α → Bool}
/-- Chains that go on for r elements. -/
def goOn (l : List α) (lt : α → α → Bool) : Nat → List α → List (List α)
  | 0, p => [p]
  | r + 1, p => (l.filter (ext lt p)).flatMap fun x => goOn l lt r (p ++ [x])
theorem goOn_chs (r : Nat) : ∀ n, (chs l lt n).flatMap (goOn l lt r) = chs l lt (n + r) := by
  induction r with
  | zero => intro n; simp [goOn]
  | succ r ih =>
    intro n
    rw [show n + (r + 1) = n + 1 + r by omega, ← ih (n + 1)]
    simp only [chs, List.flatMap_assoc]
    congr 1
    funext p
    simp only [goOn, List.flatMap_map]
variable [DecidableEq α]
theorem goOn_ne {lev blev bcnt : α → Nat} (hn : l.Nodup) (hB : Lev l (fun u v => lt v u) blev bcnt) (r : Nat) : ∀ (p : List α) (x : α), x ∈ l → (goOn l lt r (p ++ [x]) ≠ [] ↔ r + 1 ≤ blev x) := by
  induction r with
  | zero => intro p x hx; simp [goOn, (hB.one x hx).1]
  | succ r ih =>
    intro p x hx
    rw [← hB.pos x hx (r + 1), cE_succ hn hx, sumN_pos]
    simp only [goOn]
    constructor
    · intro h
      obtain ⟨q, hq⟩ := List.exists_mem_of_ne_nil _ h
      obtain ⟨y, hy, hq2⟩ := List.mem_flatMap.1 hq
      obtain ⟨hy1, hy2⟩ := List.mem_filter.1 hy
      rw [ext_snoc] at hy2
      exact ⟨y, hy1, by rw [if_pos hy2]; exact (hB.pos y hy1 r).2 ((ih _ y hy1).1 (List.ne_nil_of_mem hq2))⟩
    · rintro ⟨y, hy, h⟩
      by_cases hxy : lt x y = true
      · rw [if_pos hxy] at h
        obtain ⟨q, hq⟩ := List.exists_mem_of_ne_nil _ ((ih (p ++ [x]) y hy).2 ((hB.pos y hy r).1 h))
        exact List.ne_nil_of_mem (List.mem_flatMap.2 ⟨y, List.mem_filter.2 ⟨hy, by rw [ext_snoc]; exact hxy⟩, hq⟩)
      · rw [if_neg hxy] at h; omega
/-- What the search does with one element. -/
def grd (lt : α → α → Bool) (blev : α → Nat) (K : Nat) (g : List α) (x : α) : List α := if blev x + g.length = K ∧ ext lt g x = true then g ++ [x] else g
theorem grd_ok (hn : l.Nodup) (hir : ∀ a, lt a a = false) (hs : l.Pairwise (fun a b => lt b a = false)) {lev cnt blev bcnt : α → Nat} (hL : Lev l lt lev cnt) (hB : Lev l (fun u v => lt v u) blev bcnt) {K : Nat} (hK : Top l lev K) :
    ∀ (suf pre g : List α), l = pre ++ suf → g ∈ chs l lt g.length → g.length ≤ K → (chs l lt K).head? = (goOn l lt (K - g.length) g).head? → (∀ x ∈ pre, ext lt g x = true → blev x + g.length < K) →
      (chs l lt K).head? = some (suf.foldl (grd lt blev K) g) := by
  intro suf
  induction suf with
  | nil =>
    intro pre g hl hg hgK hh hp
    rw [List.append_nil] at hl
    subst hl
    obtain ⟨r, hr⟩ : ∃ r, K - g.length = r := ⟨_, rfl⟩
    rw [hr] at hh
    have hne := chs_some hL hK
    cases r with
    | zero => rw [hh]; rfl
    | succ r =>
      exfalso
      have h2 : goOn l lt (r + 1) g ≠ [] := by
        intro e
        rw [e] at hh
        simp only [List.head?_nil, List.head?_eq_none_iff] at hh
        exact hne hh
      obtain ⟨q, hq⟩ := List.exists_mem_of_ne_nil _ h2
      obtain ⟨y, hy, hq2⟩ := List.mem_flatMap.1 hq
      obtain ⟨hy1, hy2⟩ := List.mem_filter.1 hy
      have h3 := (goOn_ne (lev := lev) hn hB r g y hy1).1 (List.ne_nil_of_mem hq2)
      have h4 := hp y hy1 hy2
      omega
  | cons x suf ih =>
    intro pre g hl hg hgK hh hp
    have hx : x ∈ l := by rw [hl]; simp
    have hcap : ext lt g x = true → blev x + g.length ≤ K := by
      intro he
      have h1 : g ++ [x] ∈ chs l lt (g.length + 1) := mem_chs.2 ⟨g, hg, x, hx, he, rfl⟩
      have h2 : 0 < cE l lt (g.length + 1) x := sumN_pos.2 ⟨_, h1, by simp⟩
      have h3 := (hL.pos x hx _).1 h2
      have h4 := lev_sum hn hL hB hK hx
      omega
    rw [List.foldl_cons]
    by_cases hc : blev x + g.length = K ∧ ext lt g x = true
    · have hgx : grd lt blev K g x = g ++ [x] := if_pos hc
      rw [hgx]
      have hb1 := (hB.one x hx).1
      refine ih (pre ++ [x]) (g ++ [x]) (by rw [hl]; simp) ?_ (by rw [List.length_append]; simp; omega) ?_ ?_
      · rw [List.length_append]
        exact mem_chs.2 ⟨g, hg, x, hx, hc.2, rfl⟩
      · rw [hh]
        obtain ⟨r, hr⟩ : ∃ r, K - g.length = r + 1 := ⟨K - g.length - 1, by omega⟩
        rw [hr, show K - (g ++ [x]).length = r by rw [List.length_append]; simp; omega]
        simp only [goOn]
        rw [hl, List.filter_append, List.flatMap_append, List.filter_cons, if_pos hc.2, List.flatMap_cons]
        have h0 : (List.filter (ext lt g) pre).flatMap (fun x => goOn l lt r (g ++ [x])) = [] := by
          rw [List.flatMap_eq_nil_iff]
          intro y hy
          obtain ⟨hy1, hy2⟩ := List.mem_filter.1 hy
          have hyl : y ∈ l := by rw [hl]; simp [hy1]
          have := hp y hy1 hy2
          by_cases hne : goOn l lt r (g ++ [y]) = []
          · exact hne
          · have := (goOn_ne (lev := lev) hn hB r g y hyl).1 hne
            omega
        have h1 := (goOn_ne (lev := lev) hn hB r g x hx).2 (by omega)
        rw [← hl]
        rw [h0, List.nil_append]
        obtain ⟨q, t, hqt⟩ := List.exists_cons_of_ne_nil h1
        rw [hqt]
        rfl
      · intro y hy he
        rw [ext_snoc] at he
        rcases List.mem_append.1 hy with h | h
        · rw [hl] at hs
          have := (List.pairwise_append.1 hs).2.2 y h x (by simp)
          rw [this] at he; cases he
        · rw [List.mem_singleton.1 h, hir] at he; cases he
    · have hgx : grd lt blev K g x = g := if_neg hc
      rw [hgx]
      refine ih (pre ++ [x]) g (by rw [hl]; simp) hg hgK hh ?_
      intro y hy he
      rcases List.mem_append.1 hy with h | h
      · exact hp y h he
      · rw [List.mem_singleton.1 h] at he ⊢
        have := hcap he
        have : ¬ (blev x + g.length = K) := fun e => hc ⟨e, he⟩
        omega
theorem grd_first (hn : l.Nodup) (hir : ∀ a, lt a a = false) (hs : l.Pairwise (fun a b => lt b a = false)) {lev cnt blev bcnt : α → Nat} (hL : Lev l lt lev cnt) (hB : Lev l (fun u v => lt v u) blev bcnt) {K : Nat} (hK : Top l lev K) :
    (chs l lt K).head? = some (l.foldl (grd lt blev K) []) := by
  refine grd_ok hn hir hs hL hB hK l [] [] rfl (by simp [chs]) (Nat.zero_le _) ?_ (fun x hx => by simp at hx)
  have := goOn_chs (l := l) (lt := lt) K 0
  rw [Nat.zero_add] at this
  rw [← this]
  simp [chs]
end first
end Go.Proofs.Ythdjbapidodlfaa
