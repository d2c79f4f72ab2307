/- What spread finds: the greatest speeds that keep all rules, or that there are none. Plain mathematics. -/
import Derived.Test.YtiankphkemakeaaFW
import Derived.Test.YtiankphkemakeaaCircle
namespace Go.Proofs.Ytiankphkemakeaa
set_option linter.unusedSimpArgs false
set_option linter.unusedVariables false
open Go.RowKit Go.Shelf

theorem vw_true (r : R) : vw true r = r := rfl
theorem sweep_map (high : Bool) : ∀ (ws : List R) (k : Nat) (s : St), sweep high k ws s = sweep true k (ws.map (vw high)) s
  | [], _, _ => rfl
  | r :: ws, k, s => by rw [List.map_cons, sweep, sweep, vw_true]; exact sweep_map high ws _ _
theorem rounds_map (high : Bool) (ws : List R) : ∀ (n : Nat) (s : St), rounds high ws n s = rounds true (ws.map (vw high)) n s
  | 0, _ => rfl
  | n + 1, s => by rw [rounds, rounds, ← sweep_map, rounds_map high ws n]
theorem spread_map (high : Bool) (T : Nat) (ws : List R) (x : Nat) : spread high T ws x = spread true T (ws.map (vw high)) x := rounds_map high ws _ _
theorem good_flip {T : Nat} {ws : List R} (g : GoodE T ws) : GoodE T (ws.map (vw false)) := by
  refine ⟨fun r hr => ?_, fun t h1 h2 => ?_, fun t h1 h2 => ?_⟩
  · obtain ⟨r', hr', rfl⟩ := List.mem_map.1 hr
    have := g.fit r' hr'
    exact ⟨this.2.2.1, this.2.2.2.1, this.1, this.2.1, this.2.2.2.2.1.symm, this.2.2.2.2.2⟩
  · obtain ⟨r, hr, hf, ht⟩ := g.down t h1 h2
    exact ⟨vw false r, List.mem_map_of_mem hr, ht, hf⟩
  · obtain ⟨r, hr, hf, ht⟩ := g.up t h1 h2
    exact ⟨vw false r, List.mem_map_of_mem hr, ht, hf⟩
theorem feas_flip {ws : List R} {q : Nat → Int} : Feas (ws.map (vw false)) q ↔ Feas ws (fun v => -(q v)) := by
  constructor
  · intro h r hr
    have := h (vw false r) (List.mem_map_of_mem hr)
    change q r.f.toNat ≤ q r.t.toNat + r.m at this
    show -(q r.t.toNat) ≤ -(q r.f.toNat) + r.m
    omega
  · intro h r hr
    obtain ⟨r', hr', rfl⟩ := List.mem_map.1 hr
    have := h r' hr'
    change -(q r'.t.toNat) ≤ -(q r'.f.toNat) + r'.m at this
    show q r'.f.toNat ≤ q r'.t.toNat + r'.m
    omega
theorem map_true (ws : List R) : ws.map (vw true) = ws := by
  have : (vw true) = (id : R → R) := rfl
  rw [this, List.map_id]

theorem keep_eq (p : List Int) (r : R) : keep p r = decide (nth p r.t.toNat ≤ nth p r.f.toNat + r.m) := rfl
theorem big_val : big = 1099511627776 := rfl

/-- One rule is looked at: what may become of it. -/
theorem relax_cases (s : St) (k : Nat) (r : R) : relax s k r = s ∧ (nth s.1 r.f.toNat < big → nth s.1 r.t.toNat ≤ nth s.1 r.f.toNat + r.m) ∨
    relax s k r = (s.1.set r.t.toNat (nth s.1 r.f.toNat + r.m), s.2.set r.t.toNat (k : Int)) ∧ nth s.1 r.f.toNat < big ∧ nth s.1 r.f.toNat + r.m < nth s.1 r.t.toNat := by
  have hb : big = 1099511627776 := rfl
  unfold relax
  rw [keep_eq]
  split
  · rename_i h
    right
    have h2 := h.2
    rw [decide_eq_false_iff_not] at h2
    exact ⟨rfl, by omega, by omega⟩
  · rename_i h
    left
    refine ⟨rfl, fun h1 => ?_⟩
    by_cases hc : nth s.1 r.t.toNat ≤ nth s.1 r.f.toNat + r.m
    · exact hc
    · exact absurd ⟨by omega, decide_eq_false hc⟩ h

/-- What holds of the speeds and names at all times. -/
structure Inv (T : Nat) (E : List R) (x : Nat) (s : St) : Prop where
  lp : s.1.length = 21
  lc : s.2.length = 21
  top : ∀ v, v < 21 → nth s.1 v ≤ big
  px : nth s.1 x ≤ 0
  low : ∀ q, Feas E q → ∀ v, v ≤ T → nth s.1 v = big ∨ q v - q x ≤ nth s.1 v
  c1 : ∀ v, v ≤ T → nth s.2 v < 0 → (v = x ∧ nth s.1 v = 0) ∨ nth s.1 v = big
  c2 : ∀ v, v < 21 → 0 ≤ nth s.2 v → ∃ r, E[(nth s.2 v).toNat]? = some r ∧ r.t.toNat = v ∧ nth s.1 r.f.toNat < big ∧ nth s.1 r.f.toNat + r.m ≤ nth s.1 v ∧ nth s.1 v < big
  tau : ∃ τ : Nat → Nat, ∀ v, v < 21 → 0 ≤ nth s.2 v → ∀ r, E[(nth s.2 v).toNat]? = some r → nth s.1 v = nth s.1 r.f.toNat + r.m → τ r.f.toNat < τ v

theorem inv_start {T x : Nat} (hx : x ≤ T) (hT : T ≤ 20) (E : List R) : Inv T E x (start0 x) := by
  have hl : ((List.replicate 21 (1099511627776 : Int)).set x 0).length = 21 := by simp
  have hv : ∀ v, v < 21 → nth (start0 x).1 v = if v = x then 0 else big := fun v hv => by
    show nth ((List.replicate 21 (1099511627776 : Int)).set x 0) v = _
    by_cases e : v = x
    · subst e; rw [nth_set_same _ _ _ (by simpa using hv), if_pos rfl]
    · rw [nth_set_other _ _ _ _ e, nth_replicate _ _ _ hv, if_neg e]; rfl
  have hc : ∀ v, v < 21 → nth (start0 x).2 v = -1 := fun v hv => nth_replicate 21 (-1) v hv
  refine ⟨hl, by simp [start0], fun v h => ?_, ?_, fun q hq v h => ?_, fun v h _ => ?_, fun v h h0 => ?_, fun _ => 0, fun v h h0 => ?_⟩
  · rw [hv v h]; rw [big_val]; split <;> omega
  · rw [hv x (by omega), if_pos rfl]; omega
  · rw [hv v (by omega)]
    by_cases e : v = x
    · subst e; right; rw [if_pos rfl]; omega
    · left; rw [if_neg e]
  · rw [hv v (by omega)]
    by_cases e : v = x
    · left; exact ⟨e, by rw [if_pos e]⟩
    · right; rw [if_neg e]
  · rw [hc v h] at h0; omega
  · rw [hc v h] at h0; omega

theorem inv_relax {T x : Nat} (hx : x ≤ T) (hT : T ≤ 20) {E : List R} (g : GoodE T E) {s : St} (h : Inv T E x s) {k : Nat} {r : R} (hk : E[k]? = some r) : Inv T E x (relax s k r) := by
  rcases relax_cases s k r with ⟨e, _⟩ | ⟨e, hf, hlt⟩
  · rw [e]; exact h
  · have hmem : r ∈ E := List.mem_of_getElem? hk
    have fit := g.fit r hmem
    obtain ⟨f, hff⟩ : ∃ f, r.f.toNat = f := ⟨_, rfl⟩
    obtain ⟨t, htt⟩ : ∃ t, r.t.toNat = t := ⟨_, rfl⟩
    have hft : f ≠ t := by omega
    have ht20 : t < 21 := by omega
    have hfT : f ≤ T := by omega
    have htT : t ≤ T := by omega
    rw [hff] at e hf hlt
    rw [htt] at e hlt
    rw [e]
    have p1 : nth (s.1.set t (nth s.1 f + r.m)) t = nth s.1 f + r.m := nth_set_same _ _ _ (by rw [h.lp]; exact ht20)
    have p2 : ∀ v, v ≠ t → nth (s.1.set t (nth s.1 f + r.m)) v = nth s.1 v := fun v hv => nth_set_other _ _ _ _ hv
    have q1 : nth (s.2.set t (k : Int)) t = k := nth_set_same _ _ _ (by rw [h.lc]; exact ht20)
    have q2 : ∀ v, v ≠ t → nth (s.2.set t (k : Int)) v = nth s.2 v := fun v hv => nth_set_other _ _ _ _ hv
    have htop := h.top t ht20
    refine ⟨by simp [h.lp], by simp [h.lc], fun v hv => ?_, ?_, fun q hq v hv => ?_, fun v hv h0 => ?_, fun v hv h0 => ?_, ?_⟩
    · show nth (s.1.set t _) v ≤ _
      by_cases ev : v = t
      · subst ev; rw [p1]; omega
      · rw [p2 v ev]; exact h.top v hv
    · show nth (s.1.set t _) x ≤ _
      by_cases ev : x = t
      · subst ev; rw [p1]; have := h.px; omega
      · rw [p2 x ev]; exact h.px
    · show nth (s.1.set t _) v = _ ∨ _ ≤ nth (s.1.set t _) v
      by_cases ev : v = t
      · subst ev
        rw [p1]
        right
        have l1 := h.low q hq f hfT
        have l2 := hq r hmem
        rw [hff, htt] at l2
        omega
      · rw [p2 v ev]; exact h.low q hq v hv
    · change nth (s.2.set t _) v < 0 at h0
      show (v = x ∧ nth (s.1.set t _) v = 0) ∨ nth (s.1.set t _) v = big
      by_cases ev : v = t
      · subst ev; rw [q1] at h0; omega
      · rw [q2 v ev] at h0
        rw [p2 v ev]
        exact h.c1 v hv h0
    · change 0 ≤ nth (s.2.set t _) v at h0
      show ∃ r', E[(nth (s.2.set t _) v).toNat]? = some r' ∧ r'.t.toNat = v ∧ nth (s.1.set t _) r'.f.toNat < big ∧ nth (s.1.set t _) r'.f.toNat + r'.m ≤ nth (s.1.set t _) v ∧ nth (s.1.set t _) v < big
      by_cases ev : v = t
      · subst ev
        rw [q1, p1]
        refine ⟨r, by simpa using hk, htt, ?_, ?_, by omega⟩
        · rw [hff, p2 f hft]; exact hf
        · rw [hff, p2 f hft]; exact Int.le_refl _
      · rw [q2 v ev] at h0 ⊢
        rw [p2 v ev]
        obtain ⟨r', e1, e2, e3, e4, e5⟩ := h.c2 v hv h0
        refine ⟨r', e1, e2, ?_, ?_, e5⟩
        · by_cases ef : r'.f.toNat = t
          · rw [ef, p1]; omega
          · rw [p2 _ ef]; exact e3
        · by_cases ef : r'.f.toNat = t
          · rw [ef] at e4 ⊢; rw [p1]; omega
          · rw [p2 _ ef]; exact e4
    · obtain ⟨τ, hτ⟩ := h.tau
      refine ⟨fun v => if v = t then τ f + 1 else τ v, fun v hv h0 r' hr' heq => ?_⟩
      change 0 ≤ nth (s.2.set t _) v at h0
      change E[(nth (s.2.set t _) v).toNat]? = some r' at hr'
      change nth (s.1.set t _) v = nth (s.1.set t _) r'.f.toNat + r'.m at heq
      by_cases ev : v = t
      · subst ev
        rw [q1] at hr'
        have : r' = r := by simpa [hk] using hr'.symm
        subst this
        simp [hff, hft]
      · rw [q2 v ev] at h0 hr'
        rw [p2 v ev] at heq
        obtain ⟨r2, e1, e2, e3, e4, e5⟩ := h.c2 v hv h0
        have er : r2 = r' := by rw [e1] at hr'; injection hr'
        subst er
        by_cases ef : r2.f.toNat = t
        · exfalso
          rw [ef] at e4 heq
          rw [p1] at heq
          omega
        · rw [p2 _ ef] at heq
          have := hτ v hv h0 r2 e1 heq
          simp [ev, ef, this]

theorem relax_le (s : St) (hl : s.1.length = 21) (k : Nat) (r : R) (ht : r.t.toNat < 21) (v : Nat) : nth (relax s k r).1 v ≤ nth s.1 v := by
  rcases relax_cases s k r with ⟨e, _⟩ | ⟨e, hf, hlt⟩
  · rw [e]; exact Int.le_refl _
  · rw [e]
    by_cases ev : v = r.t.toNat
    · subst ev
      show nth (s.1.set _ _) _ ≤ _
      rw [nth_set_same _ _ _ (by rw [hl]; exact ht)]
      omega
    · show nth (s.1.set _ _) _ ≤ _
      rw [nth_set_other _ _ _ _ ev]
      exact Int.le_refl _

/-- Sweeping over the rules from the k-th one on. -/
theorem sweep_all {T x : Nat} (hx : x ≤ T) (hT : T ≤ 20) {E : List R} (g : GoodE T E) : ∀ (es : List R) (k : Nat) (s : St), (∀ i r, es[i]? = some r → E[k + i]? = some r) → Inv T E x s →
    Inv T E x (sweep true k es s) ∧ (∀ v, nth (sweep true k es s).1 v ≤ nth s.1 v) ∧ (∀ r ∈ es, nth s.1 r.f.toNat < big → nth (sweep true k es s).1 r.t.toNat ≤ nth s.1 r.f.toNat + r.m) ∧
      ((sweep true k es s).1 = s.1 → sweep true k es s = s)
  | [], k, s, _, h => ⟨h, fun _ => Int.le_refl _, fun r hr => by simp at hr, fun _ => rfl⟩
  | r :: es, k, s, he, h => by
    have hk : E[k]? = some r := by have := he 0 r rfl; simpa using this
    have hfit := g.fit r (List.mem_of_getElem? hk)
    have h1 := inv_relax hx hT g h hk
    have hle := relax_le s h.lp k r (by omega)
    obtain ⟨i1, i2, i3, i4⟩ := sweep_all hx hT g es (k + 1) (relax s k r) (fun i r' hr' => by have := he (i + 1) r' (by simpa using hr'); rw [← this]; congr 1; omega) h1
    rw [sweep, vw_true]
    refine ⟨i1, fun v => Int.le_trans (i2 v) (hle v), fun r' hr' hf => ?_, fun heq => ?_⟩
    · rcases List.mem_cons.1 hr' with rfl | hr'
      · refine Int.le_trans (i2 _) ?_
        rcases relax_cases s k r' with ⟨e, hk'⟩ | ⟨e, _, hlt⟩
        · rw [e]; exact hk' hf
        · rw [e]
          show nth (s.1.set _ _) _ ≤ _
          rw [nth_set_same _ _ _ (by rw [h.lp]; omega)]
          exact Int.le_refl _
      · have a1 := hle r'.f.toNat
        have a2 := i3 r' hr' (by omega)
        omega
    · rcases relax_cases s k r with ⟨e, _⟩ | ⟨e, _, hlt⟩
      · rw [e] at i4 heq ⊢
        exact i4 heq
      · exfalso
        have a1 := i2 r.t.toNat
        rw [heq, e] at a1
        have a2 : nth (s.1.set r.t.toNat (nth s.1 r.f.toNat + r.m)) r.t.toNat = nth s.1 r.f.toNat + r.m := nth_set_same _ _ _ (by rw [h.lp]; omega)
        change nth s.1 r.t.toNat ≤ nth (s.1.set r.t.toNat (nth s.1 r.f.toNat + r.m)) r.t.toNat at a1
        omega

theorem sweep0 {T x : Nat} (hx : x ≤ T) (hT : T ≤ 20) {E : List R} (g : GoodE T E) {s : St} (h : Inv T E x s) :
    Inv T E x (sweep true 0 E s) ∧ (∀ v, nth (sweep true 0 E s).1 v ≤ nth s.1 v) ∧ (∀ r ∈ E, nth s.1 r.f.toNat < big → nth (sweep true 0 E s).1 r.t.toNat ≤ nth s.1 r.f.toNat + r.m) ∧
      ((sweep true 0 E s).1 = s.1 → sweep true 0 E s = s) :=
  sweep_all hx hT g E 0 s (fun i r hr => by simpa using hr) h

/-- All rules whose beginning has been come to are kept. -/
def Fix (E : List R) (s : St) : Prop := ∀ r ∈ E, nth s.1 r.f.toNat < big → nth s.1 r.t.toNat ≤ nth s.1 r.f.toNat + r.m

theorem rounds_inv {T x : Nat} (hx : x ≤ T) (hT : T ≤ 20) {E : List R} (g : GoodE T E) : ∀ (n : Nat) (s : St), Inv T E x s → Inv T E x (rounds true E n s).1 ∧ ((rounds true E n s).2 = true → Fix E (rounds true E n s).1)
  | 0, s, h => ⟨h, fun h => by cases h⟩
  | n + 1, s, h => by
    obtain ⟨i1, i2, i3, i4⟩ := sweep0 hx hT g h
    rw [rounds]
    split
    · rename_i heq
      refine ⟨i1, fun _ r hr hf => ?_⟩
      show nth (sweep true 0 E s).1 r.t.toNat ≤ nth (sweep true 0 E s).1 r.f.toNat + r.m
      change nth (sweep true 0 E s).1 r.f.toNat < big at hf
      have := i3 r hr (by rw [heq] at hf; exact hf)
      rw [heq] at this ⊢
      exact this
    · exact rounds_inv hx hT g n _ i1

/-- The end, if there are speeds: they are the greatest ones. -/
theorem fix_end {T x : Nat} (hx : x ≤ T) (hT : T ≤ 20) {E : List R} (g : GoodE T E) {s : St} (h : Inv T E x s) (hF : Fix E s) :
    (∀ v, v ≤ T → nth s.1 v < big) ∧ Feas E (nth s.1) ∧ nth s.1 x = 0 ∧ ∀ q, Feas E q → ∀ v, v ≤ T → q v - q x ≤ nth s.1 v := by
  have hb : big = 1099511627776 := rfl
  have h0 : nth s.1 0 ≤ 100000 := by
    by_cases e : x = 0
    · subst e; have := h.px; omega
    · obtain ⟨r, hr, hf, ht⟩ := g.down x (by omega) hx
      have a1 := h.px
      have a2 := (g.fit r hr).2.2.2.2.2.2
      have := hF r hr (by rw [hf]; simp; omega)
      rw [hf, ht] at this
      simp at this
      omega
  have hfin : ∀ v, v ≤ T → nth s.1 v < big := fun v hv => by
    by_cases e : v = 0
    · subst e; omega
    · obtain ⟨r, hr, hf, ht⟩ := g.up v (by omega) hv
      have a2 := (g.fit r hr).2.2.2.2.2.2
      have := hF r hr (by rw [hf]; simp; omega)
      rw [hf, ht] at this
      simp at this
      omega
  have hfeas : Feas E (nth s.1) := fun r hr => hF r hr (hfin _ (by have := g.fit r hr; omega))
  have hx0 : nth s.1 x = 0 := by
    have := h.low _ hfeas x hx
    have := hfin x hx
    have := h.px
    omega
  refine ⟨hfin, hfeas, hx0, fun q hq v hv => ?_⟩
  rcases h.low q hq v hv with e | e
  · have := hfin v hv; omega
  · exact e

theorem countP_lt {α : Type} (p q : α → Bool) : ∀ (l : List α), (∀ v ∈ l, p v = true → q v = true) → (∃ v ∈ l, q v = true ∧ p v = false) → l.countP p < l.countP q
  | [], _, h => by obtain ⟨v, hv, _⟩ := h; simp at hv
  | a :: l, hi, h => by
    have hle : l.countP p ≤ l.countP q := List.countP_mono_left (fun v hv => hi v (List.mem_cons_of_mem _ hv))
    obtain ⟨v, hv, h1, h2⟩ := h
    rcases List.mem_cons.1 hv with rfl | hv
    · rw [List.countP_cons_of_pos h1, List.countP_cons_of_neg (by simp [h2])]
      omega
    · have ih := countP_lt p q l (fun v hv => hi v (List.mem_cons_of_mem _ hv)) ⟨v, hv, h1, h2⟩
      by_cases ha : p a = true
      · rw [List.countP_cons_of_pos ha, List.countP_cons_of_pos (hi a (List.mem_cons_self ..) ha)]; omega
      · rw [List.countP_cons_of_neg ha]
        have : l.countP q ≤ (a :: l).countP q := by rw [List.countP_cons]; omega
        omega

/-- If some speeds keep all rules, so many rounds end with one that lowers nothing. -/
theorem rounds_ok {T x : Nat} (hx : x ≤ T) (hT : T ≤ 20) {E : List R} (g : GoodE T E) {q0 : Nat → Int} (hq0 : Feas E q0) :
    ∀ (n : Nat) (s : St), Inv T E x s → T + 1 < n + (List.range (T + 1)).countP (fun v => decide (nth s.1 v = stg (T + 1) (tabRs E) (T + 1) x v)) → (rounds true E n s).2 = true := by
  have hd := (far_clash hT g).1 ⟨q0, hq0⟩
  obtain ⟨hz, hbd, htri, hfe⟩ := far_end hT g hd
  obtain ⟨D, hD⟩ : ∃ D : Nat → Int, stg (T + 1) (tabRs E) (T + 1) x = D := ⟨_, rfl⟩
  have hDf : Feas E D := by rw [← hD]; exact hfe x hx
  have hDx : D x = 0 := by rw [← hD]; exact hz x hx
  have hDb : ∀ v, v ≤ T → D v ≤ 209715200000 := fun v hv => by rw [← hD]; exact (hbd x v hx hv).2
  have hDg : ∀ q, Feas E q → ∀ v, v ≤ T → q v - q x ≤ D v := fun q hq v hv => by
    have := ind_stg (fun d m i k => abv_stp q d m i k) (abv_foldl q E _ (abv_tab0 q) hq) (T + 1) (T + 1) x v
    have e : stg (T + 1) (List.foldl tabR tab0 E) (T + 1) x v = D v := by rw [← hD]; rfl
    rw [e] at this
    have hb : big = 1099511627776 := rfl
    have := hDb v hv
    omega
  rw [hD]
  have hb : big = 1099511627776 := rfl
  have hge : ∀ s, Inv T E x s → ∀ v, v ≤ T → D v ≤ nth s.1 v := fun s h v hv => by
    have := hDb v hv
    rcases h.low D hDf v hv with e | e
    · omega
    · omega
  intro n
  induction n with
  | zero =>
    intro s h hc
    have := List.countP_le_length (l := List.range (T + 1)) (p := fun v => decide (nth s.1 v = D v))
    simp at this
    omega
  | succ n ih =>
    intro s h hc
    obtain ⟨i1, i2, i3, i4⟩ := sweep0 hx hT g h
    rw [rounds]
    split
    · rfl
    · rename_i hne
      refine ih _ i1 ?_
      -- not all are final: or nothing would be lowered
      have hsome : ∃ v, v ≤ T ∧ nth s.1 v ≠ D v := by
        apply Classical.byContradiction
        intro hno
        apply hne
        have hall : ∀ v, v ≤ T → nth s.1 v = D v := fun v hv => Classical.byContradiction fun hc => hno ⟨v, hv, hc⟩
        -- a sweep lowers nothing where all rules are kept
        have key : ∀ (es : List R) (k : Nat), (∀ r ∈ es, r ∈ E) → sweep true k es s = s := by
          intro es
          induction es with
          | nil => intro k _; rfl
          | cons r es ih2 =>
            intro k hes
            rw [sweep, vw_true]
            have hr := hes r (List.mem_cons_self ..)
            have fit := g.fit r hr
            have hk := hDf r hr
            rcases relax_cases s k r with ⟨e, _⟩ | ⟨e, _, hlt⟩
            · rw [e]; exact ih2 _ (fun r' hr' => hes r' (List.mem_cons_of_mem _ hr'))
            · exfalso
              rw [hall _ (by omega), hall _ (by omega)] at hlt
              omega
        rw [key E 0 (fun r hr => hr)]
      obtain ⟨v0, hv0, hv0n⟩ := hsome
      -- a tight rule leads out of the final turns
      have hedge : ∃ r ∈ E, nth s.1 r.f.toNat = D r.f.toNat ∧ nth s.1 r.t.toNat ≠ D r.t.toNat ∧ D r.t.toNat = D r.f.toNat + r.m := by
        apply Classical.byContradiction
        intro hno
        have hno' : ∀ r ∈ E, nth s.1 r.f.toNat = D r.f.toNat → nth s.1 r.t.toNat ≠ D r.t.toNat → D r.t.toNat ≠ D r.f.toNat + r.m := fun r hr h1 h2 h3 => hno ⟨r, hr, h1, h2, h3⟩
        have hF2 : Feas E (fun v => if nth s.1 v = D v then D v else D v + 1) := fun r hr => by
          have h1 := hDf r hr
          show (if nth s.1 r.t.toNat = D r.t.toNat then D r.t.toNat else D r.t.toNat + 1) ≤ (if nth s.1 r.f.toNat = D r.f.toNat then D r.f.toNat else D r.f.toNat + 1) + r.m
          by_cases ef : nth s.1 r.f.toNat = D r.f.toNat <;> by_cases et : nth s.1 r.t.toNat = D r.t.toNat
          · rw [if_pos ef, if_pos et]; omega
          · have := hno' r hr ef et
            rw [if_pos ef, if_neg et]; omega
          · rw [if_neg ef, if_pos et]; omega
          · rw [if_neg ef, if_neg et]; omega
        have hxf : nth s.1 x = D x := by
          have := hge s h x hx
          have := h.px
          omega
        have := hDg _ hF2 v0 hv0
        simp only [hxf, hDx, if_true, if_neg hv0n] at this
        omega
      obtain ⟨r, hr, ef, et, hti⟩ := hedge
      have fit := g.fit r hr
      have hlt : (List.range (T + 1)).countP (fun v => decide (nth s.1 v = D v)) < (List.range (T + 1)).countP (fun v => decide (nth (sweep true 0 E s).1 v = D v)) := by
        refine countP_lt _ _ _ (fun v hv hp => ?_) ⟨r.t.toNat, by simp; omega, ?_, by simpa using et⟩
        · have hv : v ≤ T := by simp at hv; omega
          have hp : nth s.1 v = D v := by simpa using hp
          have a1 := i2 v
          have a2 := hge _ i1 v hv
          simp
          omega
        · have a1 := i3 r hr (by rw [ef]; have := hDb r.f.toNat (by omega); omega)
          have a2 := hge _ i1 r.t.toNat (by omega)
          simp
          omega
      omega

/-- What spread finds. -/
theorem spread_end {T x : Nat} (hx : x ≤ T) (hT : T ≤ 20) {E : List R} (g : GoodE T E) :
    Inv T E x (spread true T E x).1 ∧ ((spread true T E x).2 = true → Fix E (spread true T E x).1) ∧ ((spread true T E x).2 = true ↔ ∃ q, Feas E q) := by
  have h0 := inv_start hx hT E
  obtain ⟨h1, h2⟩ := rounds_inv hx hT g (T + 1) (start0 x) h0
  refine ⟨h1, h2, fun h => ?_, fun ⟨q, hq⟩ => ?_⟩
  · exact ⟨_, (fix_end hx hT g h1 (h2 h)).2.1⟩
  · refine rounds_ok hx hT g hq (T + 1) (start0 x) h0 ?_
    have hd := (far_clash hT g).1 ⟨q, hq⟩
    have hz := (far_end hT g hd).1 x hx
    have hp : nth (start0 x).1 x = 0 := by
      show nth ((List.replicate 21 (1099511627776 : Int)).set x 0) x = 0
      exact nth_set_same _ _ _ (by simp; omega)
    have : 0 < (List.range (T + 1)).countP (fun v => decide (nth (start0 x).1 v = stg (T + 1) (tabRs E) (T + 1) x v)) := List.countP_pos_iff.2 ⟨x, by simp; omega, by rw [hp, hz]; simp⟩
    omega
end Go.Proofs.Ytiankphkemakeaa
