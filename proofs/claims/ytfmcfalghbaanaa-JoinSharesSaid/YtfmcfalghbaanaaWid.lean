/- Stage 2: cylinders that are wider, reversed, or whose pieces have other numbers. -/
import Derived.Test.YtfmcfalghbaanaaAlo
namespace Go.Proofs.Ytfmcfalghbaanaa
set_option linter.unusedSimpArgs false
set_option linter.unusedVariables false

theorem joins_nodup (c : Cy) : (joinsC c).Nodup := by
  rw [List.nodup_iff_pairwise_ne]
  unfold joinsC joins
  refine (ways_sorted (T := tabOf c) (codes_sorted c.ps) c.ps.length ⟨0, 0⟩).imp (fun {a b} h e => ?_)
  rw [e] at h
  exact lexL_irr _ h
theorem codes_iff {ps : List Pc} {x : Nat} : x ∈ codesL ps ↔ x / 2 < ps.length ∧ (x % 2 = 1 → (pAt ps (x / 2)).loose = true) := by
  unfold codesL codesK
  rw [List.mem_flatMap]
  constructor
  · rintro ⟨i, hi, hx⟩
    rw [List.mem_range] at hi
    split at hx
    · rename_i hl
      simp only [List.mem_cons, List.mem_nil_iff, or_false] at hx
      have : x / 2 = i := by omega
      rw [this]
      exact ⟨hi, fun _ => hl⟩
    · simp only [List.mem_cons, List.mem_nil_iff, or_false] at hx
      exact ⟨by omega, fun h => by omega⟩
  · rintro ⟨h1, h2⟩
    refine ⟨x / 2, List.mem_range.2 h1, ?_⟩
    split
    · simp; omega
    · rename_i hl
      have : ¬ x % 2 = 1 := fun h => hl (h2 h)
      simp; omega
theorem join_iff {c : Cy} {l : List Nat} : l ∈ joinsC c ↔ l.length = c.ps.length ∧ (∀ s ∈ l, s ∈ codesL c.ps) ∧ (l.map (· / 2)).Nodup ∧ chainT (tabOf c) l := by
  unfold joinsC joins
  rw [mem_ways, way_iff]
  simp
theorem tab_mem {c : Cy} {x y : Nat} : tabOf c x y = true ↔ x ∈ codesL c.ps ∧ y ∈ codesL c.ps ∧ fitsB c (stC x) (stC y) = true := by
  constructor
  · intro h
    have h1 : x ∈ codesL c.ps ∧ y ∈ codesL c.ps := by
      unfold tabOf at h
      simp only [Bool.and_eq_true, decide_eq_true_eq] at h
      exact h.1
    rw [tab_codes h1.1 h1.2] at h
    exact ⟨h1.1, h1.2, h⟩
  · rintro ⟨h1, h2, h3⟩
    rw [tab_codes h1 h2, h3]
theorem chain_mono {T T' : Nat → Nat → Bool} {l : List Nat} (h : ∀ x ∈ l, ∀ y ∈ l, T x y = true → T' x y = true) (hc : chainT T l) : chainT T' l := by
  induction l with
  | nil => exact hc
  | cons a l ih =>
    cases l with
    | nil => exact hc
    | cons b l =>
      obtain ⟨h1, h2⟩ := hc
      exact ⟨h _ (by simp) _ (by simp) h1, ih (fun x hx y hy => h x (by simp [List.mem_cons.1 hx]) y (by simp [List.mem_cons.1 hy])) h2⟩

/-! Wider -/
def WidE (e f : En) : Prop := f.d.lo ≤ e.d.lo ∧ e.d.hi ≤ f.d.hi ∧ f.p = e.p
def WidP (p q : Pc) : Prop := (p.loose = true → q.loose = true) ∧ WidE p.a q.a ∧ WidE p.b q.b
def WidC (c w : Cy) : Prop := w.ps.length = c.ps.length ∧ (∀ k, WidP (pAt c.ps k) (pAt w.ps k)) ∧ c.off ≤ w.off ∧ w.step.lo ≤ c.step.lo ∧ c.step.hi ≤ w.step.hi
theorem WidP.refl (p : Pc) : WidP p p := ⟨id, ⟨Int.le_refl _, Int.le_refl _, rfl⟩, ⟨Int.le_refl _, Int.le_refl _, rfl⟩⟩
theorem wid_codes {c w : Cy} (h : WidC c w) {x : Nat} (hx : x ∈ codesL c.ps) : x ∈ codesL w.ps := by
  rw [codes_iff] at hx ⊢
  exact ⟨by rw [h.1]; exact hx.1, fun e => (h.2.1 _).1 (hx.2 e)⟩
theorem wid_fits {c w : Cy} (h : WidC c w) {s t : St} (hf : fitsB c s t = true) : fitsB w s t = true := by
  obtain ⟨_, h2, h3, h4, h5⟩ := h
  have hb : WidE (begE c.ps t) (begE w.ps t) := by
    unfold begE
    split
    · exact (h2 _).2.2
    · exact (h2 _).2.1
  have hd : WidE (endE c.ps s) (endE w.ps s) := by
    unfold endE
    split
    · exact (h2 _).2.1
    · exact (h2 _).2.2
  obtain ⟨b1, b2, b3⟩ := hb
  obtain ⟨d1, d2, d3⟩ := hd
  unfold fitsB at hf ⊢
  simp only [Bool.and_eq_true, decide_eq_true_eq] at hf ⊢
  rw [b3, d3]
  obtain ⟨⟨⟨⟨f1, f2⟩, f3⟩, f4⟩, f5⟩ := hf
  exact ⟨⟨⟨⟨f1, by omega⟩, by omega⟩, by omega⟩, by omega⟩
theorem wid_join {c w : Cy} (h : WidC c w) {l : List Nat} (hl : l ∈ joinsC c) : l ∈ joinsC w := by
  rw [join_iff] at hl ⊢
  obtain ⟨h1, h2, h3, h4⟩ := hl
  refine ⟨by rw [h.1]; exact h1, fun s hs => wid_codes h (h2 s hs), h3, chain_mono (fun x _ y _ ht => ?_) h4⟩
  rw [tab_mem] at ht ⊢
  exact ⟨wid_codes h ht.1, wid_codes h ht.2.1, wid_fits h ht.2.2⟩
theorem wid_count {c w : Cy} (h : WidC c w) : (joinsC c).length ≤ (joinsC w).length :=
  List.Nodup.length_le_of_subset (joins_nodup c) (fun _ hl => wid_join h hl)

/-! Reversed -/
def swP (p : Pc) : Pc := ⟨p.b, p.a, p.loose⟩
def revC (c : Cy) : Cy := ⟨c.ps.map swP, c.off, ⟨-c.step.hi, -c.step.lo⟩⟩
theorem rev_at (ps : List Pc) (k : Nat) : pAt (ps.map swP) k = swP (pAt ps k) := by
  unfold pAt
  by_cases h : k < ps.length
  · simp [List.getD, h]
  · simp [List.getD, show ps.length ≤ k by omega, swP]
theorem rev_beg (ps : List Pc) (t : St) : begE (ps.map swP) t = endE ps t := by
  unfold begE endE
  rw [rev_at]
  split <;> rfl
theorem rev_end (ps : List Pc) (t : St) : endE (ps.map swP) t = begE ps t := by
  unfold begE endE
  rw [rev_at]
  split <;> rfl
theorem rev_fits (c : Cy) (s t : St) : fitsB (revC c) t s = fitsB c s t := by
  unfold fitsB revC
  simp only [rev_beg, rev_end]
  rw [Bool.eq_iff_iff]
  simp only [Bool.and_eq_true, decide_eq_true_eq]
  constructor
  · rintro ⟨⟨⟨⟨f1, f2⟩, f3⟩, f4⟩, f5⟩
    exact ⟨⟨⟨⟨fun e => f1 e.symm, by omega⟩, by omega⟩, by omega⟩, by omega⟩
  · rintro ⟨⟨⟨⟨f1, f2⟩, f3⟩, f4⟩, f5⟩
    exact ⟨⟨⟨⟨fun e => f1 e.symm, by omega⟩, by omega⟩, by omega⟩, by omega⟩
theorem rev_codes (c : Cy) (x : Nat) : x ∈ codesL (revC c).ps ↔ x ∈ codesL c.ps := by
  rw [codes_iff, codes_iff]
  show x / 2 < (c.ps.map swP).length ∧ (_ → (pAt (c.ps.map swP) _).loose = true) ↔ _
  rw [rev_at, List.length_map]
  rfl
theorem rev_tab (c : Cy) (x y : Nat) : tabOf (revC c) y x = tabOf c x y := by
  rw [Bool.eq_iff_iff, tab_mem, tab_mem, rev_codes, rev_codes, rev_fits]
  constructor <;> rintro ⟨h1, h2, h3⟩ <;> exact ⟨h2, h1, h3⟩
theorem chain_snoc {T : Nat → Nat → Bool} (l : List Nat) (a b : Nat) : chainT T (l ++ [a, b]) ↔ chainT T (l ++ [a]) ∧ T a b = true := by
  induction l with
  | nil => simp [chainT]
  | cons x l ih =>
    cases l with
    | nil => simp [chainT, and_assoc]
    | cons y l =>
      show T x y = true ∧ chainT T ((y :: l) ++ [a, b]) ↔ (T x y = true ∧ chainT T ((y :: l) ++ [a])) ∧ _
      rw [ih, and_assoc]
theorem chain_rev {T T' : Nat → Nat → Bool} (h : ∀ x y, T' y x = T x y) (l : List Nat) : chainT T' l.reverse ↔ chainT T l := by
  induction l with
  | nil => simp [chainT]
  | cons a l ih =>
    cases l with
    | nil => simp [chainT]
    | cons b l =>
      have e : (a :: b :: l).reverse = l.reverse ++ [b, a] := by simp
      have e2 : (b :: l).reverse = l.reverse ++ [b] := by simp
      rw [e, chain_snoc, ← e2, ih, h]
      show chainT T (b :: l) ∧ _ ↔ T a b = true ∧ chainT T (b :: l)
      exact and_comm
theorem rev_join {c : Cy} {l : List Nat} : l.reverse ∈ joinsC (revC c) ↔ l ∈ joinsC c := by
  rw [join_iff, join_iff, chain_rev (fun x y => rev_tab c x y)]
  simp only [List.length_reverse, List.mem_reverse, rev_codes, List.map_reverse]
  have h1 : (revC c).ps.length = c.ps.length := List.length_map _
  have h2 : (l.map (· / 2)).reverse.Nodup ↔ (l.map (· / 2)).Nodup := by
    rw [List.nodup_iff_pairwise_ne, List.nodup_iff_pairwise_ne, List.pairwise_reverse]
    exact ⟨fun h => h.imp Ne.symm, fun h => h.imp Ne.symm⟩
  rw [h1, h2]
theorem rev_rev (c : Cy) : revC (revC c) = c := by
  obtain ⟨ps, off, lo, hi⟩ := c
  unfold revC
  simp only [List.map_map, Int.neg_neg]
  rw [show swP ∘ swP = id from rfl, List.map_id]
theorem rev_le (c : Cy) : (joinsC c).length ≤ (joinsC (revC c)).length := by
  have h1 : ((joinsC c).map List.reverse).Nodup := by
    have := joins_nodup c
    rw [List.nodup_iff_pairwise_ne] at this ⊢
    exact List.pairwise_map.2 (this.imp (fun h e => h (List.reverse_inj.1 e)))
  have := List.Nodup.length_le_of_subset h1 (l₂ := joinsC (revC c)) (fun l hl => by
    obtain ⟨m, hm, rfl⟩ := List.mem_map.1 hl
    exact rev_join.2 hm)
  simpa using this
theorem rev_count (c : Cy) : (joinsC (revC c)).length = (joinsC c).length := by
  refine Nat.le_antisymm ?_ (rev_le c)
  have := rev_le (revC c)
  rwa [rev_rev] at this
theorem hasP_rev (l : List Nat) (x y : Nat) : hasP l.reverse y x = hasP l x y := by
  have key : ∀ (l : List Nat) (x y : Nat), hasP l x y = true → hasP l.reverse y x = true := by
    intro l x y h
    obtain ⟨l0, l2, rfl⟩ := (hasP_iff _ _ _).1 h
    refine (hasP_iff _ _ _).2 ⟨l2.reverse, l0.reverse, ?_⟩
    simp
  rw [Bool.eq_iff_iff]
  refine ⟨fun h => ?_, key l x y⟩
  have := key _ _ _ h
  rwa [List.reverse_reverse] at this
theorem rev_pass {c : Cy} {x y : Nat} (h : (x, y) ∈ passL c) : (y, x) ∈ passL (revC c) := by
  obtain ⟨h1, h2, h3⟩ := pass_mem.1 h
  refine pass_mem.2 ⟨(rev_codes c y).2 h2, (rev_codes c x).2 h1, fun l hl => ?_⟩
  have := h3 l.reverse (by rw [← rev_join, List.reverse_reverse]; exact hl)
  rwa [← hasP_rev, List.reverse_reverse] at this
theorem rev_pass_le (c : Cy) : (passL c).length ≤ (passL (revC c)).length := by
  have h1 : ((passL c).map fun p => (p.2, p.1)).Nodup := by
    have := pass_nodup c
    rw [List.nodup_iff_pairwise_ne] at this ⊢
    refine List.pairwise_map.2 (this.imp (fun {a b} h e => h ?_))
    simp only [Prod.mk.injEq] at e
    exact Prod.ext e.2 e.1
  have := List.Nodup.length_le_of_subset h1 (l₂ := passL (revC c)) (fun p hp => by
    obtain ⟨⟨x, y⟩, hm, rfl⟩ := List.mem_map.1 hp
    exact rev_pass hm)
  simpa using this
theorem rev_pass_len (c : Cy) : (passL (revC c)).length = (passL c).length := by
  refine Nat.le_antisymm ?_ (rev_pass_le c)
  have := rev_pass_le (revC c)
  rwa [rev_rev] at this
theorem rev_chk {c : Cy} (h : chkC c = 0) : chkC (revC c) = 0 := by
  unfold chkC at h ⊢
  have h0 : (revC c).ps.length = c.ps.length := List.length_map _
  have h1 : (revC c).ps.all okPc = c.ps.all okPc := by
    show (c.ps.map swP).all okPc = _
    rw [List.all_map]
    congr 1
    funext p
    show okPc (swP p) = okPc p
    unfold okPc swP
    exact Bool.and_comm _ _
  rw [h0, h1]
  split at h
  · cases h
  · rename_i g1
    rw [if_neg g1]
    split at h
    · rename_i g2
      rw [if_pos]
      simp only [Bool.and_eq_true, decide_eq_true_eq, okRg_iff] at g2 ⊢
      refine ⟨g2.1, ?_⟩
      show -100000 ≤ -c.step.hi ∧ -c.step.hi ≤ -c.step.lo ∧ -c.step.lo ≤ 100000
      omega
    · cases h

/-! Renamed -/
def addE (d : Int) (e : En) : En := ⟨e.d, e.p + d⟩
def addP (d : Int) (p : Pc) : Pc := ⟨addE d p.a, addE d p.b, p.loose⟩
def rotPs (ps : List Pc) (b : Nat) (d : Int) : List Pc := (List.range ps.length).map fun i => addP d (pAt ps ((i + b) % ps.length))
def rotC (c : Cy) (b : Nat) (d : Int) : Cy := ⟨rotPs c.ps b d, c.off, c.step⟩
def phi (k b x : Nat) : Nat := 2 * ((x / 2 + b) % k) + x % 2
theorem rot_at (ps : List Pc) (b : Nat) (d : Int) {k : Nat} (h : k < ps.length) : pAt (rotPs ps b d) k = addP d (pAt ps ((k + b) % ps.length)) := by
  unfold rotPs
  rw [show pAt (List.map (fun i => addP d (pAt ps ((i + b) % ps.length))) (List.range ps.length)) k = ((List.map (fun i => addP d (pAt ps ((i + b) % ps.length))) (List.range ps.length)).getD k ⟨⟨⟨0, 0⟩, 0⟩, ⟨⟨0, 0⟩, 0⟩, false⟩) from rfl]
  simp [List.getD, h]
theorem rot_len (ps : List Pc) (b : Nat) (d : Int) : (rotPs ps b d).length = ps.length := by simp [rotPs]
theorem phi_div (k b x : Nat) : phi k b x / 2 = (x / 2 + b) % k := by unfold phi; omega
theorem phi_mod (k b x : Nat) : phi k b x % 2 = x % 2 := by unfold phi; omega
theorem mod_inj {k b i j : Nat} (hi : i < k) (hj : j < k) (h : (i + b) % k = (j + b) % k) : i = j := by
  have hb : b % k < k := Nat.mod_lt _ (by omega)
  have key : ∀ i, i < k → (i + b) % k = if i + b % k < k then i + b % k else i + b % k - k := by
    intro i hi
    rw [Nat.add_mod, Nat.mod_eq_of_lt hi]
    split
    · exact Nat.mod_eq_of_lt (by omega)
    · rw [Nat.mod_eq_sub_mod (by omega), Nat.mod_eq_of_lt (by omega)]
  rw [key i hi, key j hj] at h
  split at h <;> split at h <;> omega
theorem phi_inj {k b x y : Nat} (hx : x / 2 < k) (hy : y / 2 < k) (h : phi k b x = phi k b y) : x = y := by
  have h1 := congrArg (· / 2) h
  have h2 := congrArg (· % 2) h
  simp only [phi_div, phi_mod] at h1 h2
  have := mod_inj hx hy h1
  omega
theorem rot_codes (c : Cy) (b : Nat) (d : Int) {x : Nat} (hx : x / 2 < c.ps.length) : x ∈ codesL (rotC c b d).ps ↔ phi c.ps.length b x ∈ codesL c.ps := by
  rw [codes_iff, codes_iff, phi_div, phi_mod]
  show x / 2 < (rotPs c.ps b d).length ∧ (_ → (pAt (rotPs c.ps b d) _).loose = true) ↔ _
  rw [rot_len, rot_at _ _ _ hx]
  have : (x / 2 + b) % c.ps.length < c.ps.length := Nat.mod_lt _ (by omega)
  simp only [hx, this, true_and]
  rfl
theorem stC_turned (x : Nat) : (stC x).turned = decide (x % 2 = 1) := rfl
theorem stC_p (x : Nat) : (stC x).p = ((x / 2 : Nat) : Int) := rfl
theorem rot_beg (c : Cy) (b : Nat) (d : Int) {x : Nat} (hx : x / 2 < c.ps.length) : begE (rotC c b d).ps (stC x) = addE d (begE c.ps (stC (phi c.ps.length b x))) := by
  unfold begE
  rw [stC_turned, stC_turned, stC_p, stC_p, phi_mod, phi_div, Int.toNat_natCast, Int.toNat_natCast]
  rw [show (rotC c b d).ps = rotPs c.ps b d from rfl, rot_at _ _ _ hx]
  split <;> rfl
theorem rot_end (c : Cy) (b : Nat) (d : Int) {x : Nat} (hx : x / 2 < c.ps.length) : endE (rotC c b d).ps (stC x) = addE d (endE c.ps (stC (phi c.ps.length b x))) := by
  unfold endE
  rw [stC_turned, stC_turned, stC_p, stC_p, phi_mod, phi_div, Int.toNat_natCast, Int.toNat_natCast]
  rw [show (rotC c b d).ps = rotPs c.ps b d from rfl, rot_at _ _ _ hx]
  split <;> rfl
theorem fitsB_iff {c : Cy} {s t : St} : fitsB c s t = true ↔ s.p ≠ t.p ∧ (endE c.ps s).d.lo - (begE c.ps t).d.hi ≤ c.off ∧ (begE c.ps t).d.lo - (endE c.ps s).d.hi ≤ c.off ∧ c.step.lo ≤ (begE c.ps t).p - (endE c.ps s).p ∧ (begE c.ps t).p - (endE c.ps s).p ≤ c.step.hi := by
  unfold fitsB
  simp only [Bool.and_eq_true, decide_eq_true_eq, and_assoc]
theorem rot_fits (c : Cy) (b : Nat) (d : Int) {x y : Nat} (hx : x / 2 < c.ps.length) (hy : y / 2 < c.ps.length) : fitsB (rotC c b d) (stC x) (stC y) = true ↔ fitsB c (stC (phi c.ps.length b x)) (stC (phi c.ps.length b y)) = true := by
  rw [fitsB_iff, fitsB_iff, rot_beg c b d hy, rot_end c b d hx, stC_p, stC_p, stC_p, stC_p, phi_div, phi_div]
  have hp : ((x / 2 : Nat) : Int) ≠ ((y / 2 : Nat) : Int) ↔ (((x / 2 + b) % c.ps.length : Nat) : Int) ≠ (((y / 2 + b) % c.ps.length : Nat) : Int) := by
    constructor
    · intro h e; exact h (by have := mod_inj hx hy (Int.ofNat.inj e); omega)
    · intro h e; exact h (by have : x / 2 = y / 2 := Int.ofNat.inj e; rw [this])
  rw [hp]
  show _ ∧ _ ≤ c.off ∧ _ ≤ c.off ∧ c.step.lo ≤ (begE c.ps (stC (phi c.ps.length b y))).p + d - ((endE c.ps (stC (phi c.ps.length b x))).p + d) ∧ (begE c.ps (stC (phi c.ps.length b y))).p + d - ((endE c.ps (stC (phi c.ps.length b x))).p + d) ≤ c.step.hi ↔ _
  constructor
  · rintro ⟨f1, f2, f3, f4, f5⟩
    exact ⟨f1, f2, f3, by omega, by omega⟩
  · rintro ⟨f1, f2, f3, f4, f5⟩
    exact ⟨f1, f2, f3, by omega, by omega⟩
theorem chain_map {T T' : Nat → Nat → Bool} (f : Nat → Nat) (l : List Nat) (h : ∀ x ∈ l, ∀ y ∈ l, T' x y = T (f x) (f y)) : chainT T' l ↔ chainT T (l.map f) := by
  induction l with
  | nil => simp [chainT]
  | cons a l ih =>
    cases l with
    | nil => simp [chainT]
    | cons b l =>
      show T' a b = true ∧ chainT T' (b :: l) ↔ T (f a) (f b) = true ∧ chainT T ((b :: l).map f)
      rw [ih (fun x hx y hy => h x (List.mem_cons_of_mem _ hx) y (List.mem_cons_of_mem _ hy)), h a (by simp) b (by simp)]
theorem nodup_map_inj {f : Nat → Nat} {l : List Nat} (h : ∀ x ∈ l, ∀ y ∈ l, f x = f y → x = y) (hn : l.Nodup) : (l.map f).Nodup := by
  rw [List.nodup_iff_pairwise_ne] at hn ⊢
  rw [List.pairwise_map]
  exact List.Pairwise.imp_of_mem (fun {a b} ha hb hab e => hab (h a ha b hb e)) hn
theorem nodup_of_map {f : Nat → Nat} {l : List Nat} (hn : (l.map f).Nodup) : l.Nodup := by
  rw [List.nodup_iff_pairwise_ne] at hn ⊢
  exact (List.pairwise_map.1 hn).imp (fun h e => h (by rw [e]))
theorem rot_join {c : Cy} (b : Nat) (d : Int) {l : List Nat} (hl : ∀ x ∈ l, x / 2 < c.ps.length) : l ∈ joinsC (rotC c b d) ↔ l.map (phi c.ps.length b) ∈ joinsC c := by
  rw [join_iff, join_iff, chain_map (T := tabOf c) (phi c.ps.length b) l, List.length_map, show (rotC c b d).ps.length = c.ps.length from rot_len _ _ _]
  · have h2 : (∀ s ∈ l, s ∈ codesL (rotC c b d).ps) ↔ ∀ s ∈ l.map (phi c.ps.length b), s ∈ codesL c.ps := by
      simp only [List.mem_map, forall_exists_index, and_imp, forall_apply_eq_imp_iff₂]
      exact ⟨fun h s hs => (rot_codes c b d (hl s hs)).1 (h s hs), fun h s hs => (rot_codes c b d (hl s hs)).2 (h s hs)⟩
    have h3 : (l.map (· / 2)).Nodup ↔ ((l.map (phi c.ps.length b)).map (· / 2)).Nodup := by
      rw [List.map_map]
      have e : ((fun x => x / 2) ∘ phi c.ps.length b) = ((fun i => (i + b) % c.ps.length) ∘ fun x => x / 2) := by
        funext x
        exact phi_div _ _ _
      rw [e, ← List.map_map]
      constructor
      · refine nodup_map_inj (fun x hx y hy h => ?_)
        obtain ⟨x2, hx2, rfl⟩ := List.mem_map.1 hx
        obtain ⟨y2, hy2, rfl⟩ := List.mem_map.1 hy
        exact mod_inj (hl _ hx2) (hl _ hy2) h
      · exact nodup_of_map
    rw [h2, h3]
  · intro x hx y hy
    rw [Bool.eq_iff_iff, tab_mem, tab_mem, rot_codes c b d (hl x hx), rot_codes c b d (hl y hy), rot_fits c b d (hl x hx) (hl y hy)]
theorem join_half {c : Cy} {l : List Nat} (h : l ∈ joinsC c) : ∀ x ∈ l, x / 2 < c.ps.length := fun x hx => (codes_iff.1 ((join_way h).2.1 x hx)).1
theorem rot_join1 {c : Cy} {b : Nat} {d : Int} {l : List Nat} (h : l ∈ joinsC (rotC c b d)) : l.map (phi c.ps.length b) ∈ joinsC c :=
  (rot_join b d (fun x hx => by have := join_half h x hx; rwa [show (rotC c b d).ps.length = c.ps.length from rot_len _ _ _] at this)).1 h
theorem map_inj_on {f : Nat → Nat} {l m : List Nat} (h : ∀ x ∈ l, ∀ y ∈ m, f x = f y → x = y) (e : l.map f = m.map f) : l = m := by
  induction l generalizing m with
  | nil => cases m with
    | nil => rfl
    | cons b m => simp at e
  | cons a l ih =>
    cases m with
    | nil => simp at e
    | cons b m =>
      simp only [List.map_cons, List.cons.injEq] at e
      rw [h a (by simp) b (by simp) e.1, ih (fun x hx y hy => h x (List.mem_cons_of_mem _ hx) y (List.mem_cons_of_mem _ hy)) e.2]
theorem phi_back {k b x : Nat} (hx : x / 2 < k) : phi k b (phi k (k - b % k) x) = x := by
  have hb : b % k < k := Nat.mod_lt _ (by omega)
  unfold phi
  have h1 : (2 * ((x / 2 + (k - b % k)) % k) + x % 2) / 2 = (x / 2 + (k - b % k)) % k := by omega
  have h2 : (2 * ((x / 2 + (k - b % k)) % k) + x % 2) % 2 = x % 2 := by omega
  rw [h1, h2]
  have h3 : ((x / 2 + (k - b % k)) % k + b) % k = x / 2 := by
    rw [Nat.mod_add_mod]
    have : x / 2 + (k - b % k) + b = x / 2 + k * (1 + b / k) := by
      have := Nat.div_add_mod b k
      rw [Nat.mul_add, Nat.mul_one]
      omega
    rw [this, Nat.add_mul_mod_self_left, Nat.mod_eq_of_lt hx]
  rw [h3]
  omega
theorem rot_count (c : Cy) (b : Nat) (d : Int) : (joinsC (rotC c b d)).length = (joinsC c).length := by
  have hlen : (rotC c b d).ps.length = c.ps.length := rot_len _ _ _
  refine Nat.le_antisymm ?_ ?_
  · have h1 : ((joinsC (rotC c b d)).map (List.map (phi c.ps.length b))).Nodup := by
      have := joins_nodup (rotC c b d)
      rw [List.nodup_iff_pairwise_ne] at this ⊢
      refine List.pairwise_map.2 (List.Pairwise.imp_of_mem (fun {l m} hl hm h e => h ?_) this)
      refine map_inj_on (fun x hx y hy e => phi_inj ?_ ?_ e) e
      · have := join_half hl x hx; rwa [hlen] at this
      · have := join_half hm y hy; rwa [hlen] at this
    have := List.Nodup.length_le_of_subset h1 (l₂ := joinsC c) (fun l hl => by
      obtain ⟨m, hm, rfl⟩ := List.mem_map.1 hl
      exact rot_join1 hm)
    simpa using this
  · have h1 : ((joinsC c).map (List.map (phi c.ps.length (c.ps.length - b % c.ps.length)))).Nodup := by
      have := joins_nodup c
      rw [List.nodup_iff_pairwise_ne] at this ⊢
      refine List.pairwise_map.2 (List.Pairwise.imp_of_mem (fun {l m} hl hm h e => h ?_) this)
      exact map_inj_on (fun x hx y hy e => phi_inj (join_half hl x hx) (join_half hm y hy) e) e
    have := List.Nodup.length_le_of_subset h1 (l₂ := joinsC (rotC c b d)) (fun l hl => by
      obtain ⟨m, hm, rfl⟩ := List.mem_map.1 hl
      have hh := join_half hm
      rw [rot_join]
      · rw [List.map_map]
        have : m.map (phi c.ps.length b ∘ phi c.ps.length (c.ps.length - b % c.ps.length)) = m := by
          conv => rhs; rw [← List.map_id m]
          refine List.map_congr_left (fun x hx => ?_)
          exact phi_back (hh x hx)
        rw [this]
        exact hm
      · intro x hx
        obtain ⟨y, hy, rfl⟩ := List.mem_map.1 hx
        rw [phi_div]
        have := hh y hy
        exact Nat.mod_lt _ (by omega))
    simpa using this
end Go.Proofs.Ytfmcfalghbaanaa
