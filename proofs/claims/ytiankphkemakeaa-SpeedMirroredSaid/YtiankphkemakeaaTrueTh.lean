/- True speeds by numbers: what the document's own helper makes, and that it is true. Plain mathematics. -/
import Derived.Test.YtiankphkemakeaaWayTh
namespace Go.Proofs.Ytiankphkemakeaa
set_option linter.unusedSimpArgs false
set_option linter.unusedVariables false
open Go.RowKit Go.Shelf

/-- The least and the greatest speed of the turn t that the first m speeds allow. -/
def loF (d : Tab) (t : Nat) (xs : List Int) : Nat → Int
  | 0 => -(d t 0)
  | m + 1 => max (loF d t xs m) (nth xs m - d t (m + 1))
def hiF (d : Tab) (t : Nat) (xs : List Int) : Nat → Int
  | 0 => d 0 t
  | m + 1 => min (hiF d t xs m) (nth xs m + d (m + 1) t)
def pickB (bs : List Int) (lo hi : Int) (t : Nat) : Int := if bs.length = 0 then lo else lo + nth bs (t % bs.length) % (hi - lo + 1)
def trueL (d : Tab) (bs : List Int) : Nat → List Int
  | 0 => []
  | k + 1 => trueL d bs k ++ [pickB bs (loF d (k + 1) (trueL d bs k) k) (hiF d (k + 1) (trueL d bs k) k) (k + 1)]
theorem trueL_len (d : Tab) (bs : List Int) : ∀ k, (trueL d bs k).length = k
  | 0 => rfl
  | k + 1 => by simp [trueL, trueL_len d bs k]

theorem qOf_succ (xs : List Int) (m : Nat) : qOf xs (m + 1) = nth xs m := by simp [qOf, nth, List.getD]
theorem loF_ge (d : Tab) (t : Nat) (xs : List Int) : ∀ m i, i ≤ m → qOf xs i - d t i ≤ loF d t xs m
  | 0, i, h => by
    obtain rfl : i = 0 := by omega
    simp [loF, qOf, nth]
  | m + 1, i, h => by
    unfold loF
    by_cases e : i = m + 1
    · subst e
      rw [qOf_succ]
      omega
    · have := loF_ge d t xs m i (by omega)
      omega
theorem loF_is (d : Tab) (t : Nat) (xs : List Int) : ∀ m, ∃ i, i ≤ m ∧ loF d t xs m = qOf xs i - d t i
  | 0 => ⟨0, by omega, by simp [loF, qOf, nth]⟩
  | m + 1 => by
    obtain ⟨i, hi, he⟩ := loF_is d t xs m
    unfold loF
    by_cases e : loF d t xs m ≤ nth xs m - d t (m + 1)
    · exact ⟨m + 1, by omega, by rw [qOf_succ]; omega⟩
    · exact ⟨i, by omega, by omega⟩
theorem hiF_le (d : Tab) (t : Nat) (xs : List Int) : ∀ m i, i ≤ m → hiF d t xs m ≤ qOf xs i + d i t
  | 0, i, h => by
    obtain rfl : i = 0 := by omega
    simp [hiF, qOf, nth]
  | m + 1, i, h => by
    unfold hiF
    by_cases e : i = m + 1
    · subst e
      rw [qOf_succ]
      omega
    · have := hiF_le d t xs m i (by omega)
      omega
theorem hiF_is (d : Tab) (t : Nat) (xs : List Int) : ∀ m, ∃ i, i ≤ m ∧ hiF d t xs m = qOf xs i + d i t
  | 0 => ⟨0, by omega, by simp [hiF, qOf, nth]⟩
  | m + 1 => by
    obtain ⟨i, hi, he⟩ := hiF_is d t xs m
    unfold hiF
    by_cases e : nth xs m + d (m + 1) t ≤ hiF d t xs m
    · exact ⟨m + 1, by omega, by rw [qOf_succ]; omega⟩
    · exact ⟨i, by omega, by omega⟩

/-- The first k speeds keep the table. -/
def KeepT (d : Tab) (k : Nat) (xs : List Int) : Prop := xs.length = k ∧ ∀ i j, i ≤ k → j ≤ k → qOf xs j - qOf xs i ≤ d i j
/-- The table's facts. -/
structure TabOk (T : Nat) (d : Tab) : Prop where
  diag : ∀ i, i ≤ T → d i i = 0
  bd : ∀ a b, a ≤ T → b ≤ T → -209715200000 ≤ d a b ∧ d a b ≤ 209715200000
  tri : ∀ a j b, a ≤ T → j ≤ T → b ≤ T → d a b ≤ d a j + d j b

theorem lo_le_hi {T k : Nat} {d : Tab} {xs : List Int} (g : TabOk T d) (h : KeepT d k xs) (hk : k < T) : loF d (k + 1) xs k ≤ hiF d (k + 1) xs k := by
  obtain ⟨i, hi, e1⟩ := loF_is d (k + 1) xs k
  obtain ⟨j, hj, e2⟩ := hiF_is d (k + 1) xs k
  rw [e1, e2]
  have := h.2 j i hj hi
  have := g.tri j (k + 1) i (by omega) (by omega) (by omega)
  omega
theorem pick_in {bs : List Int} {lo hi : Int} (h : lo ≤ hi) (t : Nat) : lo ≤ pickB bs lo hi t ∧ pickB bs lo hi t ≤ hi := by
  unfold pickB
  split
  · omega
  · have h1 := Int.emod_nonneg (nth bs (t % bs.length)) (show hi - lo + 1 ≠ 0 by omega)
    have h2 := Int.emod_lt_of_pos (nth bs (t % bs.length)) (show 0 < hi - lo + 1 by omega)
    omega
theorem qOf_old (xs : List Int) (x : Int) {i : Nat} (h : i ≤ xs.length) : qOf (xs ++ [x]) i = qOf xs i := by
  cases i with
  | zero => rfl
  | succ i =>
    rw [qOf_succ, qOf_succ, nth_eq _ i (by simp; omega), nth_eq _ i (by omega), List.getElem_append_left (by omega)]
theorem qOf_new (xs : List Int) (x : Int) : qOf (xs ++ [x]) (xs.length + 1) = x := by
  rw [qOf_succ, nth_eq _ _ (by simp)]
  simp
theorem keep_next {T k : Nat} {d : Tab} {xs : List Int} (g : TabOk T d) (h : KeepT d k xs) (hk : k < T) {x : Int} (h1 : loF d (k + 1) xs k ≤ x) (h2 : x ≤ hiF d (k + 1) xs k) : KeepT d (k + 1) (xs ++ [x]) := by
  obtain ⟨hl, h⟩ := h
  refine ⟨by simp [hl], fun i j hi hj => ?_⟩
  have hn : qOf (xs ++ [x]) (k + 1) = x := by rw [← hl]; exact qOf_new xs x
  have hold : ∀ i, i ≤ k → qOf (xs ++ [x]) i = qOf xs i := fun i hi => qOf_old xs x (by omega)
  by_cases ei : i = k + 1
  · subst ei
    rw [hn]
    by_cases ej : j = k + 1
    · subst ej
      rw [hn, g.diag (k + 1) (by omega)]
      omega
    · rw [hold j (by omega)]
      have := loF_ge d (k + 1) xs k j (by omega)
      omega
  · rw [hold i (by omega)]
    by_cases ej : j = k + 1
    · subst ej
      rw [hn]
      have := hiF_le d (k + 1) xs k i (by omega)
      omega
    · rw [hold j (by omega)]
      exact h i j (by omega) (by omega)
theorem true_keep {T : Nat} {d : Tab} (g : TabOk T d) (bs : List Int) : ∀ k, k ≤ T → KeepT d k (trueL d bs k)
  | 0, _ => ⟨rfl, fun i j hi hj => by
    obtain rfl : i = 0 := by omega
    obtain rfl : j = 0 := by omega
    rw [g.diag 0 (by omega)]
    omega⟩
  | k + 1, h => by
    have hk := true_keep g bs k (by omega)
    have hb := pick_in (bs := bs) (lo_le_hi g hk (by omega)) (k + 1)
    exact keep_next g hk (by omega) hb.1 hb.2
/-- What the walk reckons with is small. -/
theorem keep_small {T k : Nat} {d : Tab} {xs : List Int} (g : TabOk T d) (h : KeepT d k xs) (hk : k ≤ T) {i : Nat} (hi : i ≤ k) : -209715200000 ≤ qOf xs i ∧ qOf xs i ≤ 209715200000 := by
  have h1 := h.2 0 i (by omega) hi
  have h2 := h.2 i 0 hi (by omega)
  have b1 := g.bd 0 i (by omega) (by omega)
  have b2 := g.bd i 0 (by omega) (by omega)
  have h0 : qOf xs 0 = 0 := rfl
  omega
theorem loF_small {T k : Nat} {d : Tab} {xs : List Int} (g : TabOk T d) (h : KeepT d k xs) (hk : k < T) {m : Nat} (hm : m ≤ k) : -500000000000 ≤ loF d (k + 1) xs m ∧ loF d (k + 1) xs m ≤ 500000000000 := by
  obtain ⟨i, hi, e⟩ := loF_is d (k + 1) xs m
  have b1 := g.bd (k + 1) i (by omega) (by omega)
  have b2 := keep_small g h (by omega) (show i ≤ k by omega)
  omega
theorem hiF_small {T k : Nat} {d : Tab} {xs : List Int} (g : TabOk T d) (h : KeepT d k xs) (hk : k < T) {m : Nat} (hm : m ≤ k) : -500000000000 ≤ hiF d (k + 1) xs m ∧ hiF d (k + 1) xs m ≤ 500000000000 := by
  obtain ⟨i, hi, e⟩ := hiF_is d (k + 1) xs m
  have b1 := g.bd i (k + 1) (by omega) (by omega)
  have b2 := keep_small g h (by omega) (show i ≤ k by omega)
  omega
theorem far_ok {T : Nat} {rs : List R} (he : chk T rs = 0) (hs : Some_ T rs) : TabOk T (farM T rs) :=
  ⟨(far_facts he hs).1, (far_facts he hs).2.1, (far_facts he hs).2.2.1⟩
/-- The speeds made are true. -/
theorem true_true {T : Nat} {rs : List R} (he : chk T rs = 0) (hs : Some_ T rs) (bs : List Int) : checkSpeeds T rs (trueL (farM T rs) bs T) = 0 := by
  obtain ⟨g1, g2, g3, g4, g5⟩ := far_facts he hs
  have hk := true_keep (far_ok he hs) bs T (Nat.le_refl _)
  refine (checkSpeeds_iff he _).2 ⟨hk.1, fun r hr => ?_⟩
  have f := (good_whole he).fit r hr
  have h1 := hk.2 r.f.toNat r.t.toNat (by omega) (by omega)
  have h2 := g4 r.f.toNat (by omega) r hr
  rw [g1 _ (by omega)] at h2
  omega
end Go.Proofs.Ytiankphkemakeaa

/-! Rules turned round; the speeds farthest above those of a turn. -/
namespace Go.Proofs.Ytiankphkemakeaa
set_option linter.unusedSimpArgs false
set_option linter.unusedVariables false
open Go.RowKit Go.Shelf

def inner (r : R) : Bool := decide (0 < r.f) && decide (0 < r.t)
def turned (r : R) : R := ⟨r.t, r.f, r.m⟩
theorem inner_iff (r : R) : inner r = true ↔ 0 < r.f ∧ 0 < r.t := by simp [inner]
theorem chk_mk {T : Int} {rs : List R} (h1 : rs.length ≤ 60) (h2 : 1 ≤ T) (h3 : T ≤ 20) (h4 : ∀ r ∈ rs, chkR T r = true) : chk T rs = 0 := by
  unfold chk
  rw [if_neg (by omega), if_pos (by simp [within]; omega), if_pos (List.all_eq_true.2 h4)]
theorem inner_chk {T : Int} {rs : List R} (he : chk T rs = 0) : chk T (rs.filter inner) = 0 := by
  obtain ⟨h1, h2, h3, h4⟩ := chk_ok he
  refine chk_mk (Nat.le_trans (List.length_filter_le _ _) h1) h2 h3 fun r hr => List.all_eq_true.1 h4 r (List.mem_filter.1 hr).1
theorem turned_chk {T : Int} {rs : List R} (he : chk T rs = 0) : chk T (rs.map turned) = 0 := by
  obtain ⟨h1, h2, h3, h4⟩ := chk_ok he
  refine chk_mk (by simpa using h1) h2 h3 fun r hr => ?_
  obtain ⟨s, hs, rfl⟩ := List.mem_map.1 hr
  have := (chkR_iff _ _).1 (List.all_eq_true.1 h4 s hs)
  refine (chkR_iff _ _).2 ?_
  show 0 ≤ s.t ∧ s.t ≤ T ∧ 0 ≤ s.f ∧ s.f ≤ T ∧ s.t ≠ s.f ∧ -100000 ≤ s.m ∧ s.m ≤ 100000
  omega
theorem turned_turned (rs : List R) : (rs.map turned).map turned = rs := by
  rw [List.map_map]
  exact (List.map_congr_left fun r _ => rfl).trans (List.map_id _)
/-- The speeds MaxSpeed - v. -/
def mirQ (q : Nat → Int) : Nat → Int := fun v => if v = 0 then 0 else 100000 - (q v - q 0)
theorem mirQ_succ (q : Nat → Int) {v : Nat} (h : 0 < v) : mirQ q v = 100000 - (q v - q 0) := if_neg (by omega)
theorem mir_feas {T : Nat} {rs : List R} (hi : ∀ r ∈ rs, 0 < r.f ∧ 0 < r.t) {q : Nat → Int} (h : Feas (whole T rs) q) : Feas (whole T (rs.map turned)) (mirQ q) := by
  have h0 : Feas (whole T rs) fun v => q v + -(q 0) := fun r hr => by
    have := h r hr
    show q r.t.toNat + -(q 0) ≤ q r.f.toNat + -(q 0) + r.m
    omega
  have hb := (feas_turn (T := T) (q := fun v => q v + -(q 0)) (by show q 0 + -(q 0) = 0; omega)).1 fun r hr => h0 r (List.mem_append_right _ hr)
  have hb2 := (feas_turn (T := T) (q := mirQ q) rfl).2 fun t h1 h2 => by
    have := hb t h1 h2
    rw [mirQ_succ q (by omega)]
    omega
  intro r hr
  rcases List.mem_append.1 hr with hr | hr
  · obtain ⟨s, hs, rfl⟩ := List.mem_map.1 hr
    have hp := hi s hs
    have := h s (List.mem_append_left _ hs)
    show mirQ q s.f.toNat ≤ mirQ q s.t.toNat + s.m
    rw [mirQ_succ q (by omega), mirQ_succ q (by omega)]
    omega
  · exact hb2 r hr
theorem turned_inner {rs : List R} (hi : ∀ r ∈ rs, 0 < r.f ∧ 0 < r.t) : ∀ r ∈ rs.map turned, 0 < r.f ∧ 0 < r.t := fun r hr => by
  obtain ⟨s, hs, rfl⟩ := List.mem_map.1 hr
  exact ⟨(hi s hs).2, (hi s hs).1⟩
theorem mir_some {T : Nat} {rs : List R} (hi : ∀ r ∈ rs, 0 < r.f ∧ 0 < r.t) : Some_ T (rs.map turned) ↔ Some_ T rs := by
  constructor
  · rintro ⟨q, hq⟩
    have := mir_feas (turned_inner hi) hq
    rw [turned_turned] at this
    exact ⟨_, this⟩
  · rintro ⟨q, hq⟩
    exact ⟨_, mir_feas hi hq⟩
theorem mir_le {T : Nat} {rs : List R} (he : chk T rs = 0) (hi : ∀ r ∈ rs, 0 < r.f ∧ 0 < r.t) (hs : Some_ T rs) {t : Nat} (h1 : 1 ≤ t) (h2 : t ≤ T) :
    100000 + farM T rs t 0 ≤ farM T (rs.map turned) 0 t ∧ farM T rs 0 t - 100000 ≤ farM T (rs.map turned) t 0 := by
  obtain ⟨g1, g2, g3, g4, g5⟩ := far_facts he hs
  obtain ⟨k1, k2, k3, k4, k5⟩ := far_facts (turned_chk he) ((mir_some hi).2 hs)
  have a1 := k5 _ (mir_feas hi (g4 t h2)) 0 t (by omega) h2
  have a2 := k5 _ (mir_feas hi (g4 0 (by omega))) t 0 h2 (by omega)
  rw [mirQ_succ (v := t) _ (by omega), g1 t h2] at a1
  rw [mirQ_succ (v := t) _ (by omega), g1 0 (by omega)] at a2
  have z1 : mirQ (farM T rs t) 0 = 0 := rfl
  have z2 : mirQ (farM T rs 0) 0 = 0 := rfl
  rw [z1] at a1
  rw [z2] at a2
  omega
/-- The span is mirrored. -/
theorem mir_far {T : Nat} {rs : List R} (he : chk T rs = 0) (hi : ∀ r ∈ rs, 0 < r.f ∧ 0 < r.t) (hs : Some_ T rs) {t : Nat} (h1 : 1 ≤ t) (h2 : t ≤ T) :
    farM T (rs.map turned) 0 t = 100000 + farM T rs t 0 ∧ farM T (rs.map turned) t 0 = farM T rs 0 t - 100000 := by
  have a := mir_le he hi hs h1 h2
  have b := mir_le (turned_chk he) (turned_inner hi) ((mir_some hi).2 hs) h1 h2
  rw [turned_turned] at b
  omega
/-- True speeds mirrored are true. -/
theorem mir_true {T : Nat} {rs : List R} (he : chk T rs = 0) (hi : ∀ r ∈ rs, 0 < r.f ∧ 0 < r.t) {vs : List Int} (h : checkSpeeds T rs vs = 0) : checkSpeeds T (rs.map turned) (vs.map fun v => 100000 - v) = 0 := by
  obtain ⟨h1, h2⟩ := (checkSpeeds_iff he vs).1 h
  refine (checkSpeeds_iff (turned_chk he) _).2 ⟨by simpa using h1, fun r hr => ?_⟩
  have f := (good_whole (turned_chk he)).fit r hr
  have hm := mir_feas hi h2 r hr
  have e : ∀ v, v ≤ T → qOf (vs.map fun v => 100000 - v) v = mirQ (qOf vs) v := fun v hv => by
    cases v with
    | zero => rfl
    | succ v =>
      rw [mirQ_succ _ (by omega)]
      simp [qOf, nth, List.getD, show v < vs.length by omega]
  rw [e _ (by omega), e _ (by omega)]
  exact hm

/-- The speeds that are as far above that of the turn a as can be. -/
def topL (d : Tab) (a T : Nat) : List Int := (List.range T).map fun i => d a (i + 1) - d a 0
theorem top_at (d : Tab) (a T : Nat) {v : Nat} (h : v ≤ T) : qOf (topL d a T) v = d a v - d a 0 := by
  cases v with
  | zero =>
    show (0 : Int) = d a 0 - d a 0
    omega
  | succ v => simp [topL, qOf, nth, List.getD, show v < T by omega]
theorem top_true {T : Nat} {rs : List R} (he : chk T rs = 0) (hs : Some_ T rs) {a : Nat} (ha : a ≤ T) : checkSpeeds T rs (topL (farM T rs) a T) = 0 := by
  obtain ⟨g1, g2, g3, g4, g5⟩ := far_facts he hs
  refine (checkSpeeds_iff he _).2 ⟨by simp [topL], fun r hr => ?_⟩
  have f := (good_whole he).fit r hr
  have := g4 a ha r hr
  rw [top_at _ _ _ (by omega), top_at _ _ _ (by omega)]
  omega
theorem top_far {T : Nat} {rs : List R} (he : chk T rs = 0) (hs : Some_ T rs) {a c : Nat} (ha : a ≤ T) (hc : c ≤ T) : qOf (topL (farM T rs) a T) c - qOf (topL (farM T rs) a T) a = farM T rs a c := by
  rw [top_at _ _ _ hc, top_at _ _ _ ha, (far_facts he hs).1 a ha]
  omega
/-- True speeds differ by at most what the cheapest way costs. -/
theorem true_le {T : Nat} {rs : List R} (he : chk T rs = 0) {vs : List Int} (h : checkSpeeds T rs vs = 0) {a c : Nat} (ha : a ≤ T) (hc : c ≤ T) : qOf vs c - qOf vs a ≤ farM T rs a c := by
  have hf := ((checkSpeeds_iff he vs).1 h).2
  exact (far_facts he ⟨_, hf⟩).2.2.2.2 _ hf a c ha hc
/-- Each true speed is in the span of its turn. -/
theorem true_span {T : Nat} {rs : List R} (he : chk T rs = 0) {vs : List Int} (h : checkSpeeds T rs vs = 0) {t : Nat} (ht : t ≤ T) : -(farM T rs t 0) ≤ qOf vs t ∧ qOf vs t ≤ farM T rs 0 t := by
  have a1 := true_le he h ht (Nat.zero_le T)
  have a2 := true_le he h (Nat.zero_le T) ht
  have z : qOf vs 0 = 0 := rfl
  omega
end Go.Proofs.Ytiankphkemakeaa
