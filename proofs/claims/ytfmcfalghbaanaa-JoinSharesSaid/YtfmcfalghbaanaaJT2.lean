/- Stage 2: the mathematics of joins, second part: they are in lexicographic order, each once; states in the order of a search. -/

namespace Go.Proofs.Ytfmcfalghbaanaa

/-- The last step's code, and the set of pieces. -/
structure Sta where
  last : Nat
  pcs : Nat
deriving DecidableEq, Inhabited

/-- Can the step s come behind a state? -/
def can (T : Nat → Nat → Bool) (a : Sta) (s : Nat) : Bool := !a.pcs.testBit (s / 2) && (decide (a.pcs = 0) || T a.last s)
def goS (a : Sta) (s : Nat) : Sta := ⟨s, a.pcs ||| 2 ^ (s / 2)⟩
def nexts (T : Nat → Nat → Bool) (cs : List Nat) (a : Sta) : List Sta := (cs.filter (can T a)).map (goS a)
/-- The ways to go on from a state, if k pieces are left. -/
def ways (T : Nat → Nat → Bool) (cs : List Nat) : Nat → Sta → List (List Nat)
  | 0, _ => [[]]
  | k + 1, a => (cs.filter (can T a)).flatMap fun s => (ways T cs k (goS a s)).map (s :: ·)
/-- How many pieces are left. -/
def left (n : Nat) (a : Sta) : Nat := (List.range n).countP fun i => !a.pcs.testBit i
def cntA (T : Nat → Nat → Bool) (cs : List Nat) (n : Nat) (a : Sta) : Nat := (ways T cs (left n a) a).length
/-- Codes of steps of n pieces. -/
def Codes (n : Nat) (cs : List Nat) : Prop := ∀ s ∈ cs, s < 2 * n

theorem go_bit (a : Sta) (s i : Nat) : (goS a s).pcs.testBit i = (a.pcs.testBit i || decide (s / 2 = i)) := by
  unfold goS
  rw [Nat.testBit_or, Nat.testBit_two_pow]
theorem countP_one (p q : Nat → Bool) (n k : Nat) (hk : k < n) (h1 : p k = true) (h2 : q k = false) (h3 : ∀ i, i ≠ k → q i = p i) : (List.range n).countP q + 1 = (List.range n).countP p := by
  induction n with
  | zero => omega
  | succ n ih =>
    rw [List.range_succ, List.countP_append, List.countP_append]
    rcases Nat.lt_or_ge k n with h | h
    · have := ih h
      have e : q n = p n := h3 n (by omega)
      simp only [List.countP_cons, List.countP_nil, e]
      omega
    · obtain rfl : k = n := by omega
      have e : (List.range k).countP q = (List.range k).countP p := List.countP_congr (fun i hi => by
        have := List.mem_range.1 hi
        rw [h3 i (by omega)])
      simp [h1, h2, e]
theorem left_go {n : Nat} {T : Nat → Nat → Bool} {a : Sta} {s : Nat} (hs : s < 2 * n) (hc : can T a s = true) : left n (goS a s) + 1 = left n a := by
  unfold can at hc
  simp only [Bool.and_eq_true, Bool.not_eq_true'] at hc
  refine countP_one _ _ n (s / 2) (by omega) (by simp [hc.1]) (by simp [go_bit]) (fun i hi => ?_)
  rw [go_bit]
  simp [Ne.symm hi]
theorem pow_two_bit {n i : Nat} : (2 ^ n - 1).testBit i = decide (i < n) := Nat.testBit_two_pow_sub_one n i
theorem left_zero {n : Nat} {a : Sta} (ha : a.pcs < 2 ^ n) : left n a = 0 ↔ a.pcs = 2 ^ n - 1 := by
  unfold left
  rw [List.countP_eq_zero]
  constructor
  · intro h
    refine Nat.eq_of_testBit_eq (fun i => ?_)
    rw [pow_two_bit]
    rcases Nat.lt_or_ge i n with hi | hi
    · have := h i (List.mem_range.2 hi)
      simp only [Bool.not_eq_true, Bool.not_eq_false'] at this
      rw [this]; simp [hi]
    · rw [Nat.testBit_lt_two_pow (Nat.lt_of_lt_of_le ha (Nat.pow_le_pow_right (by omega) hi))]
      simp; omega
  · intro h i hi
    rw [h, pow_two_bit]
    simpa using List.mem_range.1 hi
theorem go_lt {n : Nat} {a : Sta} {s : Nat} (ha : a.pcs < 2 ^ n) (hs : s < 2 * n) : (goS a s).pcs < 2 ^ n := by
  unfold goS
  exact Nat.or_lt_two_pow ha (Nat.pow_lt_pow_right (by omega) (by omega))
theorem left_le (n : Nat) (a : Sta) : left n a ≤ n := by
  have := List.countP_le_length (p := fun i => !a.pcs.testBit i) (l := List.range n)
  simpa [left] using this
theorem left_start (n l : Nat) : left n ⟨l, 0⟩ = n := by
  unfold left
  simp

theorem sum_len (l : List (List (List Nat))) : (l.flatten).length = (l.map List.length).sum := by
  rw [List.length_flatten]
theorem ways_len_succ (T : Nat → Nat → Bool) (cs : List Nat) (k : Nat) (a : Sta) : (ways T cs (k + 1) a).length = ((nexts T cs a).map fun b => (ways T cs k b).length).sum := by
  show ((cs.filter (can T a)).flatMap fun s => (ways T cs k (goS a s)).map (s :: ·)).length = _
  rw [List.length_flatMap]
  unfold nexts
  rw [List.map_map]
  congr 1
  refine List.map_congr_left (fun s _ => ?_)
  simp
theorem nexts_full {n : Nat} {T : Nat → Nat → Bool} {cs : List Nat} {a : Sta} (hc : Codes n cs) (h : a.pcs = 2 ^ n - 1) : nexts T cs a = [] := by
  unfold nexts
  rw [List.map_eq_nil_iff, List.filter_eq_nil_iff]
  intro s hs h2
  have := hc s hs
  unfold can at h2
  rw [h, pow_two_bit] at h2
  simp only [Bool.and_eq_true, Bool.not_eq_true', decide_eq_false_iff_not] at h2
  omega
/-- Count's recurrence. -/
theorem cntA_eq {n : Nat} {T : Nat → Nat → Bool} {cs : List Nat} {a : Sta} (hc : Codes n cs) (ha : a.pcs < 2 ^ n) :
    cntA T cs n a = (if a.pcs = 2 ^ n - 1 then 1 else 0) + ((nexts T cs a).map (cntA T cs n)).sum := by
  by_cases hf : a.pcs = 2 ^ n - 1
  · rw [if_pos hf, nexts_full hc hf]
    unfold cntA
    rw [(left_zero ha).2 hf]
    rfl
  · rw [if_neg hf, Nat.zero_add]
    have hl : left n a ≠ 0 := fun h => hf ((left_zero ha).1 h)
    obtain ⟨k, hk⟩ := Nat.exists_eq_succ_of_ne_zero hl
    unfold cntA
    rw [hk, ways_len_succ]
    congr 1
    refine List.map_congr_left (fun b hb => ?_)
    unfold nexts at hb
    obtain ⟨s, hs, rfl⟩ := List.mem_map.1 hb
    obtain ⟨h1, h2⟩ := List.mem_filter.1 hs
    have := left_go (hc s h1) h2
    rw [show left n (goS a s) = k by omega]
theorem sum_le (l : List Nat) (m : Nat) (h : ∀ x ∈ l, x ≤ m) : l.sum ≤ l.length * m := by
  induction l with
  | nil => simp
  | cons x l ih =>
    have h1 := h x (by simp)
    have h2 := ih (fun y hy => h y (by simp [hy]))
    simp only [List.sum_cons, List.length_cons, Nat.add_mul, Nat.one_mul]
    omega
theorem ways_le (T : Nat → Nat → Bool) (cs : List Nat) (h : cs.length ≤ 16) (k : Nat) (a : Sta) : (ways T cs k a).length ≤ 16 ^ k := by
  induction k generalizing a with
  | zero => simp [ways]
  | succ k ih =>
    rw [ways_len_succ]
    have h1 : (nexts T cs a).length ≤ 16 := by
      unfold nexts
      rw [List.length_map]
      exact Nat.le_trans (List.length_filter_le _ _) h
    have h2 := sum_le ((nexts T cs a).map fun b => (ways T cs k b).length) (16 ^ k) (fun x hx => by
      obtain ⟨b, _, rfl⟩ := List.mem_map.1 hx
      exact ih b)
    rw [List.length_map] at h2
    rw [Nat.pow_succ, Nat.mul_comm]
    exact Nat.le_trans h2 (Nat.mul_le_mul_right _ h1)
theorem cntA_le {T : Nat → Nat → Bool} {cs : List Nat} {n : Nat} (hn : n ≤ 8) (h : cs.length ≤ 16) (a : Sta) : cntA T cs n a ≤ 4294967296 :=
  Nat.le_trans (ways_le T cs h _ a) ((show 16 ^ left n a ≤ 16 ^ 8 from Nat.pow_le_pow_right (by omega) (Nat.le_trans (left_le n a) hn)))

/-- The joins, in order. -/
def joins (T : Nat → Nat → Bool) (cs : List Nat) (n : Nat) : List (List Nat) := ways T cs n ⟨0, 0⟩
/-- The joins that begin with some steps, which come to a state, begin at a number. -/
def AtJ (T : Nat → Nat → Bool) (cs : List Nat) (n : Nat) (g : List Nat) (k : Nat) (a : Sta) (base : Nat) : Prop :=
  ∀ m, m < (ways T cs k a).length → (joins T cs n)[base + m]? = (ways T cs k a)[m]?.map (g ++ ·)
theorem AtJ.start (T : Nat → Nat → Bool) (cs : List Nat) (n : Nat) : AtJ T cs n [] n ⟨0, 0⟩ 0 := fun m _ => by
  rw [Nat.zero_add]
  show (joins T cs n)[m]? = (joins T cs n)[m]?.map ([] ++ ·)
  simp
theorem flat_at {α β : Type} (f : α → List β) (pre : List α) (s : α) (post : List α) (m : Nat) (hm : m < (f s).length) : ((pre ++ s :: post).flatMap f)[(pre.map fun x => (f x).length).sum + m]? = (f s)[m]? := by
  rw [List.flatMap_append, List.flatMap_cons, List.getElem?_append_right (by rw [List.length_flatMap]; omega), List.length_flatMap]
  rw [show (pre.map fun x => (f x).length).sum + m - (pre.map fun a => (f a).length).sum = m by omega]
  exact List.getElem?_append_left hm
theorem flat_lt {α β : Type} (f : α → List β) (pre : List α) (s : α) (post : List α) (m : Nat) (hm : m < (f s).length) : (pre.map fun x => (f x).length).sum + m < ((pre ++ s :: post).flatMap f).length := by
  rw [List.length_flatMap]
  simp only [List.map_append, List.map_cons, List.sum_append, List.sum_cons]
  omega
theorem AtJ.step {T : Nat → Nat → Bool} {cs : List Nat} {n k base : Nat} {g : List Nat} {a b : Sta} {pre post : List Sta} (h : AtJ T cs n g (k + 1) a base) (hx : nexts T cs a = pre ++ b :: post) :
    AtJ T cs n (g ++ [b.last]) k b (base + (pre.map fun x => (ways T cs k x).length).sum) := by
  unfold nexts at hx
  obtain ⟨p1, p2, e1, e2, e3⟩ := List.map_eq_append_iff.1 hx
  obtain ⟨s, p3, e4, e5, e6⟩ := List.map_eq_cons_iff.1 e3
  subst e2 e5 e6 e4
  intro m hm
  have hf : (ways T cs (k + 1) a) = ((p1 ++ s :: p3).flatMap fun s => (ways T cs k (goS a s)).map (s :: ·)) := by rw [← e1]; rfl
  have hs : (List.map (fun x => ((ways T cs k (goS a x)).map (x :: ·)).length) p1).sum = (List.map (fun x => (ways T cs k x).length) (List.map (goS a) p1)).sum := by
    rw [List.map_map]
    congr 1
    refine List.map_congr_left (fun x _ => ?_)
    simp
  have h1 := flat_at (fun s => (ways T cs k (goS a s)).map (s :: ·)) p1 s p3 m (by simpa using hm)
  have h2 := flat_lt (fun s => (ways T cs k (goS a s)).map (s :: ·)) p1 s p3 m (by simpa using hm)
  rw [← hf, hs] at h1 h2
  rw [Nat.add_assoc, h _ h2, h1, List.getElem?_map, Option.map_map]
  congr 1
  funext l
  simp [goS]

/-- A way, step by step. -/
def IsWay (T : Nat → Nat → Bool) (cs : List Nat) : Sta → List Nat → Prop
  | _, [] => True
  | a, s :: l => s ∈ cs ∧ can T a s = true ∧ IsWay T cs (goS a s) l
theorem mem_ways (T : Nat → Nat → Bool) (cs : List Nat) (k : Nat) (a : Sta) (l : List Nat) : l ∈ ways T cs k a ↔ l.length = k ∧ IsWay T cs a l := by
  induction k generalizing a l with
  | zero =>
    show l ∈ [[]] ↔ _
    cases l <;> simp [IsWay]
  | succ k ih =>
    show l ∈ (cs.filter (can T a)).flatMap (fun s => (ways T cs k (goS a s)).map (s :: ·)) ↔ _
    simp only [List.mem_flatMap, List.mem_map, List.mem_filter]
    constructor
    · rintro ⟨s, ⟨h1, h2⟩, l2, h3, rfl⟩
      have := (ih _ _).1 h3
      exact ⟨by simp [this.1], h1, h2, this.2⟩
    · rintro ⟨h1, h2⟩
      cases l with
      | nil => simp at h1
      | cons s l2 => exact ⟨s, ⟨h2.1, h2.2.1⟩, l2, (ih _ _).2 ⟨by simpa using h1, h2.2.2⟩, rfl⟩
/-- Does a list have a pair? -/
def hasP : List Nat → Nat → Nat → Bool
  | a :: b :: l, x, y => (decide (a = x) && decide (b = y)) || hasP (b :: l) x y
  | _, _, _ => false
theorem hasP_iff (l : List Nat) (x y : Nat) : hasP l x y = true ↔ ∃ l0 l2, l = l0 ++ x :: y :: l2 := by
  induction l with
  | nil => simp [hasP]
  | cons a l ih =>
    cases l with
    | nil =>
      simp only [hasP, Bool.false_eq_true, false_iff]
      rintro ⟨l0, l2, e⟩
      have := congrArg List.length e
      simp at this
      omega
    | cons b l =>
      simp only [hasP, Bool.or_eq_true, Bool.and_eq_true, decide_eq_true_eq, ih]
      constructor
      · rintro (⟨rfl, rfl⟩ | ⟨l0, l2, e⟩)
        · exact ⟨[], l, rfl⟩
        · exact ⟨a :: l0, l2, by rw [e]; rfl⟩
      · rintro ⟨l0, l2, e⟩
        cases l0 with
        | nil =>
          simp only [List.nil_append, List.cons.injEq] at e
          exact .inl ⟨e.1, e.2.1⟩
        | cons c l0 =>
          simp only [List.cons_append, List.cons.injEq] at e
          exact .inr ⟨l0, l2, e.2⟩
/-- A table without a pair. -/
def cut (T : Nat → Nat → Bool) (x y : Nat) : Nat → Nat → Bool := fun a b => T a b && !(decide (a = x) && decide (b = y))
theorem go_ne (a : Sta) (s : Nat) : (goS a s).pcs ≠ 0 := by
  intro h
  have h1 := go_bit a s (s / 2)
  rw [h] at h1
  simp at h1
theorem way_cut (T : Nat → Nat → Bool) (cs : List Nat) (x y : Nat) (l : List Nat) (a : Sta) (ha : a.pcs ≠ 0) : IsWay (cut T x y) cs a l ↔ IsWay T cs a l ∧ hasP (a.last :: l) x y = false := by
  induction l generalizing a with
  | nil => simp [IsWay, hasP]
  | cons s l ih =>
    have h1 := ih (goS a s) (go_ne a s)
    show s ∈ cs ∧ can (cut T x y) a s = true ∧ IsWay (cut T x y) cs (goS a s) l ↔ (s ∈ cs ∧ can T a s = true ∧ IsWay T cs (goS a s) l) ∧ _
    rw [h1]
    show s ∈ cs ∧ can (cut T x y) a s = true ∧ IsWay T cs (goS a s) l ∧ hasP (s :: l) x y = false ↔ _
    have h2 : can (cut T x y) a s = (can T a s && !(decide (a.last = x) && decide (s = y))) := by
      unfold can cut
      simp only [ha, decide_false, Bool.false_or, Bool.and_assoc]
    have h3 : hasP (a.last :: s :: l) x y = ((decide (a.last = x) && decide (s = y)) || hasP (s :: l) x y) := rfl
    rw [h2, h3]
    cases can T a s <;> cases (decide (a.last = x) && decide (s = y)) <;> cases hasP (s :: l) x y <;> simp
theorem join_cut (T : Nat → Nat → Bool) (cs : List Nat) (n x y : Nat) (l : List Nat) : l ∈ joins (cut T x y) cs n ↔ l ∈ joins T cs n ∧ hasP l x y = false := by
  unfold joins
  rw [mem_ways, mem_ways]
  cases l with
  | nil => simp [IsWay, hasP]
  | cons s l =>
    have h1 := way_cut T cs x y l (goS ⟨0, 0⟩ s) (go_ne _ s)
    show _ ∧ (s ∈ cs ∧ can (cut T x y) ⟨0, 0⟩ s = true ∧ IsWay (cut T x y) cs (goS ⟨0, 0⟩ s) l) ↔ (_ ∧ (s ∈ cs ∧ can T ⟨0, 0⟩ s = true ∧ IsWay T cs (goS ⟨0, 0⟩ s) l)) ∧ _
    rw [h1]
    have h2 : can (cut T x y) ⟨0, 0⟩ s = can T ⟨0, 0⟩ s := by simp [can]
    rw [h2]
    show _ ∧ s ∈ cs ∧ _ ∧ _ ∧ hasP (s :: l) x y = false ↔ _
    simp only [and_assoc]
/-- Do all joins have a pair? -/
def sharedB (T : Nat → Nat → Bool) (cs : List Nat) (n x y : Nat) : Bool := (joins T cs n).all fun l => hasP l x y
theorem shared_iff (T : Nat → Nat → Bool) (cs : List Nat) (n x y : Nat) : sharedB T cs n x y = true ↔ joins (cut T x y) cs n = [] := by
  unfold sharedB
  rw [List.all_eq_true, List.eq_nil_iff_forall_not_mem]
  constructor
  · intro h l hl
    have := (join_cut T cs n x y l).1 hl
    rw [h l this.1] at this
    cases this.2
  · intro h l hl
    cases e : hasP l x y with
    | true => rfl
    | false => exact absurd ((join_cut T cs n x y l).2 ⟨hl, e⟩) (h l)

/-- Where steps come to. -/
def runS (a : Sta) (l : List Nat) : Sta := l.foldl goS a
theorem way_append (T : Nat → Nat → Bool) (cs : List Nat) (l1 l2 : List Nat) (a : Sta) : IsWay T cs a (l1 ++ l2) ↔ IsWay T cs a l1 ∧ IsWay T cs (runS a l1) l2 := by
  induction l1 generalizing a with
  | nil => simp [IsWay, runS]
  | cons s l ih =>
    show s ∈ cs ∧ can T a s = true ∧ IsWay T cs (goS a s) (l ++ l2) ↔ (s ∈ cs ∧ can T a s = true ∧ IsWay T cs (goS a s) l) ∧ IsWay T cs (runS (goS a s) l) l2
    rw [ih]
    simp only [and_assoc]
theorem run_left {n : Nat} {T : Nat → Nat → Bool} {cs : List Nat} (hc : Codes n cs) (l : List Nat) (a : Sta) (h : IsWay T cs a l) : left n (runS a l) + l.length = left n a := by
  induction l generalizing a with
  | nil => rfl
  | cons s l ih =>
    have h1 := ih (goS a s) h.2.2
    have h2 := left_go (hc s h.1) h.2.1
    show left n (runS (goS a s) l) + (l.length + 1) = _
    omega
theorem run_lt {n : Nat} {T : Nat → Nat → Bool} {cs : List Nat} (hc : Codes n cs) (l : List Nat) (a : Sta) (ha : a.pcs < 2 ^ n) (h : IsWay T cs a l) : (runS a l).pcs < 2 ^ n := by
  induction l generalizing a with
  | nil => exact ha
  | cons s l ih => exact ih (goS a s) (go_lt ha (hc s h.1)) h.2.2
/-- Is a state reached from the beginning? -/
def Reach (T : Nat → Nat → Bool) (cs : List Nat) (a : Sta) : Prop := ∃ l, IsWay T cs ⟨0, 0⟩ l ∧ a = runS ⟨0, 0⟩ l
theorem Reach.start (T : Nat → Nat → Bool) (cs : List Nat) : Reach T cs ⟨0, 0⟩ := ⟨[], trivial, rfl⟩
theorem Reach.step {T : Nat → Nat → Bool} {cs : List Nat} {a : Sta} (h : Reach T cs a) {b : Sta} (hb : b ∈ nexts T cs a) : Reach T cs b := by
  obtain ⟨l, hl, rfl⟩ := h
  obtain ⟨s, hs, rfl⟩ := List.mem_map.1 hb
  obtain ⟨h1, h2⟩ := List.mem_filter.1 hs
  exact ⟨l ++ [s], (way_append T cs l [s] _).2 ⟨hl, h1, h2, trivial⟩, by simp [runS]⟩
theorem cnt_pos {n : Nat} {T : Nat → Nat → Bool} {cs : List Nat} {a : Sta} : 0 < cntA T cs n a ↔ ∃ l, l.length = left n a ∧ IsWay T cs a l := by
  unfold cntA
  rw [List.length_pos_iff_exists_mem]
  simp only [mem_ways]
/-- A step has a rival in some join just if it is found behind a state that is reached. -/
theorem rival_iff {n : Nat} {T : Nat → Nat → Bool} {cs : List Nat} (hc : Codes n cs) (s t : Nat) :
    (∃ a, Reach T cs a ∧ a.pcs ≠ 0 ∧ a.last = s ∧ ∃ b ∈ nexts T cs a, b.last = t ∧ 0 < cntA T cs n b) ↔ ∃ l ∈ joins T cs n, hasP l s t = true := by
  constructor
  · rintro ⟨a, ⟨l, hl, rfl⟩, h0, h1, b, hb, h2, h3⟩
    obtain ⟨s2, hs, rfl⟩ := List.mem_map.1 hb
    obtain ⟨h4, h5⟩ := List.mem_filter.1 hs
    obtain ⟨l2, h6, h7⟩ := cnt_pos.1 h3
    obtain rfl : s2 = t := h2
    rcases List.eq_nil_or_concat l with rfl | ⟨l0, x, rfl⟩
    · exact absurd rfl h0
    · have hx : x = s := by
        rw [List.concat_eq_append] at h1
        simpa [runS, goS] using h1
      subst hx
      rw [List.concat_eq_append] at *
      have h8 : IsWay T cs ⟨0, 0⟩ ((l0 ++ [x]) ++ s2 :: l2) := (way_append T cs _ _ _).2 ⟨hl, h4, h5, h7⟩
      have h9 := run_left hc _ _ h8
      refine ⟨(l0 ++ [x]) ++ s2 :: l2, (mem_ways T cs n _ _).2 ⟨?_, h8⟩, (hasP_iff _ _ _).2 ⟨l0, l2, by simp⟩⟩
      have h10 := run_left hc _ _ hl
      have h11 := left_go (hc s2 h4) h5
      rw [left_start] at h10
      simp only [List.length_append, List.length_cons, List.length_nil] at h10 ⊢
      omega
  · rintro ⟨l, hl, h⟩
    obtain ⟨l0, l2, rfl⟩ := (hasP_iff _ _ _).1 h
    obtain ⟨h1, h2⟩ := (mem_ways T cs n _ _).1 hl
    rw [show l0 ++ s :: t :: l2 = (l0 ++ [s]) ++ t :: l2 by simp] at h2
    obtain ⟨h3, h4, h5, h6⟩ := (way_append T cs _ _ _).1 h2
    have h7 := run_left hc _ _ h3
    have h8 := left_go (hc t h4) h5
    rw [left_start] at h7
    refine ⟨runS ⟨0, 0⟩ (l0 ++ [s]), ⟨_, h3, rfl⟩, by simpa [runS] using go_ne _ s, by simp [runS, goS], goS (runS ⟨0, 0⟩ (l0 ++ [s])) t, List.mem_map.2 ⟨t, List.mem_filter.2 ⟨h4, h5⟩, rfl⟩, rfl, cnt_pos.2 ⟨l2, ?_, h6⟩⟩
    simp only [List.length_append, List.length_cons, List.length_nil] at h1 h7
    omega
/-- A step is in some join just if it is the last one of a state that is reached, and that goes on. -/
theorem some_iff {n : Nat} {T : Nat → Nat → Bool} {cs : List Nat} (hc : Codes n cs) (s : Nat) :
    (∃ a, Reach T cs a ∧ a.pcs ≠ 0 ∧ a.last = s ∧ 0 < cntA T cs n a) ↔ ∃ l ∈ joins T cs n, s ∈ l := by
  constructor
  · rintro ⟨a, ⟨l, hl, rfl⟩, h0, h1, h3⟩
    obtain ⟨l2, h6, h7⟩ := cnt_pos.1 h3
    have h8 : IsWay T cs ⟨0, 0⟩ (l ++ l2) := (way_append T cs _ _ _).2 ⟨hl, h7⟩
    have h10 := run_left hc _ _ hl
    rw [left_start] at h10
    refine ⟨l ++ l2, (mem_ways T cs n _ _).2 ⟨by simp only [List.length_append]; omega, h8⟩, ?_⟩
    rcases List.eq_nil_or_concat l with rfl | ⟨l0, x, rfl⟩
    · exact absurd rfl h0
    · have hx : x = s := by
        rw [List.concat_eq_append] at h1
        simpa [runS, goS] using h1
      subst hx
      simp
  · rintro ⟨l, hl, h⟩
    obtain ⟨l0, l2, rfl⟩ := List.append_of_mem h
    obtain ⟨h1, h2⟩ := (mem_ways T cs n _ _).1 hl
    rw [show l0 ++ s :: l2 = (l0 ++ [s]) ++ l2 by simp] at h2
    obtain ⟨h3, h4⟩ := (way_append T cs _ _ _).1 h2
    have h7 := run_left hc _ _ h3
    rw [left_start] at h7
    refine ⟨runS ⟨0, 0⟩ (l0 ++ [s]), ⟨_, h3, rfl⟩, by simpa [runS] using go_ne _ s, by simp [runS, goS], cnt_pos.2 ⟨l2, ?_, h4⟩⟩
    simp only [List.length_append, List.length_cons, List.length_nil] at h1 h7
    omega
end Go.Proofs.Ytfmcfalghbaanaa

namespace Go.Proofs.Ytfmcfalghbaanaa
set_option linter.unusedSimpArgs false
set_option linter.unusedVariables false

/-- Lexicographic order of lists that are equally long. -/
def lexL : List Nat → List Nat → Prop
  | a :: l, b :: m => a < b ∨ (a = b ∧ lexL l m)
  | _, _ => False
theorem lexL_irr (l : List Nat) : ¬ lexL l l := by
  induction l with
  | nil => simp [lexL]
  | cons a l ih => simp only [lexL, Nat.lt_irrefl, true_and, false_or]; exact ih
theorem ways_sorted {T : Nat → Nat → Bool} {cs : List Nat} (hcs : cs.Pairwise (· < ·)) (k : Nat) (a : Sta) : (ways T cs k a).Pairwise lexL := by
  induction k generalizing a with
  | zero => simp [ways]
  | succ k ih =>
    show ((cs.filter (can T a)).flatMap fun s => (ways T cs k (goS a s)).map (s :: ·)).Pairwise lexL
    rw [List.pairwise_flatMap]
    refine ⟨fun s _ => ?_, ?_⟩
    · rw [List.pairwise_map]
      exact (ih (goS a s)).imp (fun h => .inr ⟨rfl, h⟩)
    · refine (hcs.filter _).imp (fun {s t} h => ?_)
      intro x hx y hy
      obtain ⟨x2, _, rfl⟩ := List.mem_map.1 hx
      obtain ⟨y2, _, rfl⟩ := List.mem_map.1 hy
      exact .inl h
theorem joins_sorted {T : Nat → Nat → Bool} {cs : List Nat} {n : Nat} (hcs : cs.Pairwise (· < ·)) {i j : Nat} {x y : List Nat} (hx : (joins T cs n)[i]? = some x) (hy : (joins T cs n)[j]? = some y) (h : i < j) : lexL x y := by
  have h1 := ways_sorted (T := T) hcs n ⟨0, 0⟩
  rw [List.pairwise_iff_getElem] at h1
  obtain ⟨a1, a2⟩ := List.getElem?_eq_some_iff.1 hx
  obtain ⟨b1, b2⟩ := List.getElem?_eq_some_iff.1 hy
  have h2 := h1 i j a1 b1 h
  unfold joins at a2 b2
  rwa [a2, b2] at h2
/-- A join has one number. -/
theorem joins_inj {T : Nat → Nat → Bool} {cs : List Nat} {n : Nat} (hcs : cs.Pairwise (· < ·)) {i j : Nat} {x : List Nat} (hx : (joins T cs n)[i]? = some x) (hy : (joins T cs n)[j]? = some x) : i = j := by
  rcases Nat.lt_trichotomy i j with h | h | h
  · exact absurd (joins_sorted hcs hx hy h) (lexL_irr x)
  · exact h
  · exact absurd (joins_sorted hcs hy hx h) (lexL_irr x)
theorem AtJ.nil {T : Nat → Nat → Bool} {cs : List Nat} {n base : Nat} {g : List Nat} {a : Sta} (h : AtJ T cs n g 0 a base) : (joins T cs n)[base]? = some g := by
  have h1 := h 0 (by simp [ways])
  simpa [ways] using h1
theorem cnt_at {T : Nat → Nat → Bool} {cs : List Nat} {n k : Nat} {a : Sta} (h : left n a = k) : cntA T cs n a = (ways T cs k a).length := by
  unfold cntA; rw [h]
/-- What is left behind a step. -/
theorem nexts_left {n : Nat} {T : Nat → Nat → Bool} {cs : List Nat} (hc : Codes n cs) {a b : Sta} {k : Nat} (h : left n a = k + 1) (hb : b ∈ nexts T cs a) : left n b = k := by
  obtain ⟨s, hs, rfl⟩ := List.mem_map.1 hb
  obtain ⟨h1, h2⟩ := List.mem_filter.1 hs
  have := left_go (hc s h1) h2
  omega
theorem cnt_sum {n : Nat} {T : Nat → Nat → Bool} {cs : List Nat} (hc : Codes n cs) {a : Sta} {k : Nat} (h : left n a = k + 1) (l : List Sta) (hl : ∀ b ∈ l, b ∈ nexts T cs a) : (l.map (cntA T cs n)).sum = (l.map fun x => (ways T cs k x).length).sum := by
  congr 1
  exact List.map_congr_left (fun b hb => cnt_at (nexts_left hc h (hl b hb)))
/-- One step more of a way, by the states in front of it. -/
theorem AtJ.next {n : Nat} {T : Nat → Nat → Bool} {cs : List Nat} (hc : Codes n cs) {a b : Sta} {k base : Nat} {g : List Nat} {pre post : List Sta} (hk : left n a = k + 1) (h : AtJ T cs n g (k + 1) a base) (hx : nexts T cs a = pre ++ b :: post) :
    AtJ T cs n (g ++ [b.last]) k b (base + (pre.map (cntA T cs n)).sum) := by
  rw [cnt_sum hc hk pre (fun x hx2 => by rw [hx]; simp [hx2])]
  exact h.step hx
theorem nexts_len {T : Nat → Nat → Bool} {cs : List Nat} {a : Sta} (h : cs.length ≤ 16) : (nexts T cs a).length ≤ 16 := by
  unfold nexts
  rw [List.length_map]
  exact Nat.le_trans (List.length_filter_le _ _) h
theorem next_mem {T : Nat → Nat → Bool} {cs : List Nat} {a : Sta} {s : Nat} (h : s ∈ cs) (hc : can T a s = true) : goS a s ∈ nexts T cs a :=
  List.mem_map.2 ⟨s, List.mem_filter.2 ⟨h, hc⟩, rfl⟩
theorem next_last {T : Nat → Nat → Bool} {cs : List Nat} {a b : Sta} (h : b ∈ nexts T cs a) : b = goS a b.last ∧ b.last ∈ cs ∧ can T a b.last = true := by
  obtain ⟨s, hs, rfl⟩ := List.mem_map.1 h
  obtain ⟨h1, h2⟩ := List.mem_filter.1 hs
  exact ⟨rfl, h1, h2⟩

/-! The order of a search. -/
/-- States that are new go to the end. -/
def addN (S : List Sta) : List Sta → List Sta
  | [] => S
  | b :: l => addN (if b ∈ S then S else S ++ [b]) l
/-- The states that were found, those with numbers below i looked at. -/
def bfs (T : Nat → Nat → Bool) (cs : List Nat) : Nat → Nat → List Sta → List Sta
  | 0, _, S => S
  | f + 1, i, S => if i < S.length + 1 then bfs T cs f (i + 1) (addN S (nexts T cs ((⟨0, 0⟩ :: S).getD i ⟨0, 0⟩))) else S
theorem addN_prefix (S l : List Sta) : S <+: addN S l := by
  induction l generalizing S with
  | nil => exact List.prefix_refl _
  | cons b l ih =>
    refine List.IsPrefix.trans ?_ (ih _)
    split
    · exact List.prefix_refl _
    · exact List.prefix_append _ _
theorem mem_addN (S l : List Sta) (x : Sta) : x ∈ addN S l ↔ x ∈ S ∨ x ∈ l := by
  induction l generalizing S with
  | nil => simp [addN]
  | cons b l ih =>
    show x ∈ addN _ l ↔ _
    rw [ih]
    split
    · rename_i h
      simp only [List.mem_cons]
      constructor
      · rintro (h1 | h1)
        · exact .inl h1
        · exact .inr (.inr h1)
      · rintro (h1 | rfl | h1)
        · exact .inl h1
        · exact .inl h
        · exact .inr h1
    · simp only [List.mem_append, List.mem_cons, List.not_mem_nil, or_false, or_assoc]
theorem addN_nodup (S l : List Sta) (h : S.Nodup) : (addN S l).Nodup := by
  induction l generalizing S with
  | nil => exact h
  | cons b l ih =>
    refine ih _ ?_
    split
    · exact h
    · rename_i hb
      rw [List.nodup_append]
      exact ⟨h, by simp, fun x hx y hy => by simp only [List.mem_singleton] at hy; subst hy; exact fun e => hb (e ▸ hx)⟩
theorem bfs_prefix (T : Nat → Nat → Bool) (cs : List Nat) (f i : Nat) (S : List Sta) : S <+: bfs T cs f i S := by
  induction f generalizing i S with
  | zero => exact List.prefix_refl _
  | succ f ih =>
    show S <+: if _ then _ else _
    split
    · exact (addN_prefix _ _).trans (ih _ _)
    · exact List.prefix_refl _
/-- A state that fits into the cells. -/
def Small (a : Sta) : Prop := a.last < 16 ∧ a.pcs < 256
theorem small_len (S : List Sta) (h : S.Nodup) (hs : ∀ a ∈ S, Small a) : S.length ≤ 4096 := by
  have h1 : (S.map fun a => a.last * 256 + a.pcs).Nodup := by
    rw [List.nodup_iff_pairwise_ne] at h ⊢
    rw [List.pairwise_map]
    refine List.Pairwise.imp_of_mem (fun {a b} ha hb hab e => ?_) h
    obtain ⟨_, a2⟩ := hs a ha
    obtain ⟨_, b2⟩ := hs b hb
    apply hab
    cases a; cases b
    simp only [Sta.mk.injEq] at e a2 b2 ⊢
    omega
  have h2 : (S.map fun a => a.last * 256 + a.pcs) ⊆ List.range 4096 := by
    intro x hx
    obtain ⟨a, ha, rfl⟩ := List.mem_map.1 hx
    have := hs a ha
    rw [List.mem_range]
    have h3 := this.1
    have h4 := this.2
    omega
  have h3 := List.Nodup.length_le_of_subset h1 h2
  simpa using h3
end Go.Proofs.Ytfmcfalghbaanaa
