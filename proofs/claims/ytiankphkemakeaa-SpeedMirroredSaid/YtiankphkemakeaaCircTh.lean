/- A circle is found if no speeds keep all rules. Plain mathematics. -/
import Derived.Test.YtiankphkemakeaaWayTh
namespace Go.Proofs.Ytiankphkemakeaa
set_option linter.unusedSimpArgs false
set_option linter.unusedVariables false
open Go.RowKit Go.Shelf

/-- A name by which a turn came. -/
def Came (ws : List R) (c : List Int) (k : Int) : Prop := 0 ≤ k ∧ k < (ws.length : Int) ∧ nth c (rt ws k.toNat).toNat = k ∧ (rt ws k.toNat).toNat < 21

/-- Along names by which turns came, speeds rise by no less than what they cost. -/
theorem came_cost {T x : Nat} {ws : List R} {s : St} (h : Inv T ws x s) {τ : Nat → Nat}
    (hτ : ∀ v, v < 21 → 0 ≤ nth s.2 v → ∀ r, ws[(nth s.2 v).toNat]? = some r → nth s.1 v = nth s.1 r.f.toNat + r.m → τ r.f.toNat < τ v) :
    ∀ (ks : List Int) (u c y cost : Int), (∀ k ∈ ks, Came ws s.2 k) → follow ws u c ks = (y, cost, true) →
      cost - c ≤ nth s.1 y.toNat - nth s.1 u.toNat ∧ (cost - c = nth s.1 y.toNat - nth s.1 u.toNat → (ks = [] ∧ y = u) ∨ τ u.toNat < τ y.toNat)
  | [], u, c, y, cost, _, hf => by
    simp only [follow, Prod.mk.injEq] at hf
    obtain ⟨rfl, rfl, _⟩ := hf
    exact ⟨by omega, fun _ => .inl ⟨rfl, rfl⟩⟩
  | k :: ks, u, c, y, cost, hc, hf => by
    obtain ⟨k1, k2, k3, k4⟩ := hc k (List.mem_cons_self ..)
    rw [follow, rl_name ⟨k1, k2⟩] at hf
    split at hf
    · rename_i hu
      obtain ⟨i1, i2⟩ := came_cost h hτ ks _ _ _ _ (fun k hk => hc k (List.mem_cons_of_mem _ hk)) hf
      obtain ⟨r, r1, r2, r3, r4, r5⟩ := h.c2 _ k4 (by rw [k3]; exact k1)
      rw [k3] at r1
      have hr : rAt ws k.toNat = r := rAt_get r1
      have htr : (rt ws k.toNat).toNat = r.t.toNat := by unfold rt; rw [hr]
      rw [hr] at hu i1 i2
      rw [htr] at r4
      rw [← hu]
      refine ⟨by omega, fun heq => .inr ?_⟩
      have h1 : nth s.1 r.t.toNat = nth s.1 r.f.toNat + r.m := by omega
      have h2 : cost - (c + r.m) = nth s.1 y.toNat - nth s.1 r.t.toNat := by omega
      have h3 := hτ (rt ws k.toNat).toNat k4 (by rw [k3]; exact k1) r (by rw [k3]; exact r1) (by rw [htr]; exact h1)
      rw [htr] at h3
      rcases i2 h2 with ⟨_, rfl⟩ | h4
      · exact h3
      · omega
    · simp at hf

theorem follow_take {ws : List R} : ∀ (ks : List Int) (i : Nat) (u c y cost : Int), i < ks.length → follow ws u c ks = (y, cost, true) → ∃ c', follow ws u c (ks.take (i + 1)) = ((rl ws (nth ks i)).t, c', true)
  | [], i, _, _, _, _, hi, _ => by simp at hi
  | k :: ks, i, u, c, y, cost, hi, hf => by
    rw [follow] at hf
    split at hf
    · rename_i hu
      cases i with
      | zero => exact ⟨c + (rl ws k).m, by rw [List.take_succ_cons, List.take_zero, follow, if_pos hu, follow]; rfl⟩
      | succ i =>
        obtain ⟨c', h⟩ := follow_take ks i _ _ _ _ (by simpa using hi) hf
        exact ⟨c', by rw [List.take_succ_cons, follow, if_pos hu, h]; rfl⟩
    · simp at hf

/-- A chain back to a turn without a name, of a certain length. -/
def Grd (ws : List R) (c : List Int) : Nat → Nat → Prop
  | 0, v => nth c v < 0
  | d + 1, v => 0 ≤ nth c v ∧ Grd ws c d (rf ws (nth c v).toNat).toNat
def Grounded (ws : List R) (c : List Int) (v : Nat) : Prop := ∃ d, Grd ws c d v
theorem grd_unique {ws : List R} {c : List Int} : ∀ {d d' v : Nat}, Grd ws c d v → Grd ws c d' v → d = d'
  | 0, 0, _, _, _ => rfl
  | 0, d' + 1, v, h, h' => by have h : nth c v < 0 := h; have := h'.1; omega
  | d + 1, 0, v, h, h' => by have h' : nth c v < 0 := h'; have := h.1; omega
  | d + 1, d' + 1, v, h, h' => by rw [grd_unique h.2 h'.2]

/-- What a walk back does: names that lead from its end to where it began; what it takes out of the map. -/
theorem backFrom_walk {T x : Nat} {ws : List R} (g : GoodE T ws) (hT : T ≤ 20) {s : St} (h : Inv T ws x s) :
    ∀ (f : Nat) (c : List Int) (t : Nat) (acc : List Int), t ≤ T → c.length = 21 → cnt c < f → (∀ v, v < 21 → nth c v = nth s.2 v ∨ nth c v = -1) →
      ∃ (u : Nat) (pre : List Int), u ≤ T ∧ (backFrom ws f c t acc).1 = pre ++ acc ∧ nth (backFrom ws f c t acc).2 u < 0 ∧ (backFrom ws f c t acc).2.length = 21 ∧
        (∀ v, v < 21 → nth (backFrom ws f c t acc).2 v = nth s.2 v ∨ nth (backFrom ws f c t acc).2 v = -1) ∧
        (∀ k ∈ pre, Came ws s.2 k) ∧ (∃ cost, follow ws (u : Int) 0 pre = ((t : Int), cost, true)) ∧
        (Grounded ws s.2 u → Grounded ws s.2 t) ∧
        (∀ v, v < 21 → nth (backFrom ws f c t acc).2 v = nth c v ∨ ((∃ k ∈ pre, (rt ws k.toNat).toNat = v) ∧ (Grounded ws s.2 u → Grounded ws s.2 v))) ∧
        (nth c t < 0 → u = t) := by
  intro f
  induction f with
  | zero => intro c t acc _ _ hc; omega
  | succ f ih =>
    intro c t acc ht hl hc hD
    rw [backFrom]
    split
    · rename_i hneg
      exact ⟨t, [], ht, rfl, hneg, hl, hD, fun k hk => by simp at hk, ⟨0, rfl⟩, id, fun v _ => .inl rfl, fun _ => rfl⟩
    · rename_i hpos
      have hct : nth c t = nth s.2 t := by rcases hD t (by omega) with e | e <;> omega
      have hpos' : 0 ≤ nth s.2 t := by omega
      obtain ⟨r, r1, r2, r3, r4, r5⟩ := h.c2 t (by omega) hpos'
      have hlt : (nth s.2 t).toNat < ws.length := (List.getElem?_eq_some_iff.1 r1).1
      have fit := g.fit r (List.mem_of_getElem? r1)
      have hrr : rAt ws (nth s.2 t).toNat = r := rAt_get r1
      have hf : rf ws (nth c t).toNat = r.f := by rw [hct]; unfold rf; rw [hrr]
      have htt : rt ws (nth c t).toNat = r.t := by rw [hct]; unfold rt; rw [hrr]
      have hcnt := cnt_set c t (by omega) (by omega)
      obtain ⟨u, pre, hu, e1, e2, e3, e4, e5, ⟨cost, e6⟩, e7, e8, e9⟩ := ih (c.set t (-1)) r.f.toNat (nth c t :: acc) (by omega) (by simp [hl]) (by omega) (fun v hv => by
        by_cases e : v = t
        · subst e; right; exact nth_set_same _ _ _ (by omega)
        · rw [nth_set_other _ _ _ _ e]; exact hD v hv)
      rw [hf]
      have hgr : Grounded ws s.2 u → Grounded ws s.2 t := fun hgu => by
        obtain ⟨d, hd⟩ := e7 hgu
        refine ⟨d + 1, hpos', ?_⟩
        rw [show rf ws (nth s.2 t).toNat = r.f by rw [← hct]; exact hf]
        exact hd
      refine ⟨u, pre ++ [nth c t], hu, by rw [e1]; simp, e2, e3, e4, fun k hk => ?_, ⟨cost + r.m, ?_⟩, hgr, fun v hv => ?_, fun hneg => absurd hneg hpos⟩
      · rcases List.mem_append.1 hk with hk | hk
        · exact e5 k hk
        · simp at hk
          subst hk
          refine ⟨by omega, by omega, ?_, ?_⟩
          · rw [htt, r2, hct]
          · rw [htt]; omega
      · -- one name more at the end
        have key : ∀ (ks : List Int) (a b y c2 : Int), follow ws a b ks = (y, c2, true) → y = r.f → follow ws a b (ks ++ [nth c t]) = ((t : Int), c2 + r.m, true) := by
          intro ks
          induction ks with
          | nil =>
            intro a b y c2 hh hy
            simp only [follow, Prod.mk.injEq] at hh
            obtain ⟨rfl, rfl, _⟩ := hh
            rw [List.nil_append, follow, rl_name ⟨by omega, by omega⟩]
            have : rAt ws (nth c t).toNat = r := by rw [hct]; exact hrr
            rw [this, if_pos hy.symm, follow, show r.t = (t : Int) by omega]
          | cons k ks ihk =>
            intro a b y c2 hh hy
            rw [List.cons_append, follow] at *
            split at hh
            · rename_i hk
              rw [if_pos hk]
              exact ihk _ _ _ _ hh hy
            · simp at hh
        exact key pre _ _ _ _ e6 (by omega)
      · rcases e8 v hv with e | ⟨⟨k, hk, hkv⟩, e'⟩
        · by_cases hvt : v = t
          · right
            subst hvt
            exact ⟨⟨nth c v, by simp, by rw [htt]; exact r2⟩, hgr⟩
          · left
            rw [e, nth_set_other _ _ _ _ hvt]
        · right
          exact ⟨⟨k, List.mem_append_left _ hk, hkv⟩, e'⟩

/-! ### If all chains end, some round lowers nothing -/
def itr (E : List R) (s : St) : Nat → St
  | 0 => s
  | k + 1 => sweep true 0 E (itr E s k)
theorem itr_succ' (E : List R) (s : St) : ∀ k, itr E (sweep true 0 E s) k = itr E s (k + 1)
  | 0 => rfl
  | k + 1 => by rw [itr, itr_succ' E s k]; rfl
theorem rounds_false {E : List R} : ∀ (n : Nat) (s : St), (rounds true E n s).2 = false → (rounds true E n s).1 = itr E s n ∧ ∀ k, k < n → (itr E s (k + 1)).1 ≠ (itr E s k).1
  | 0, s, _ => ⟨rfl, fun k hk => absurd hk (by omega)⟩
  | n + 1, s, h => by
    rw [rounds] at h ⊢
    split at h
    · simp at h
    · rename_i hne
      rw [if_neg hne]
      obtain ⟨i1, i2⟩ := rounds_false n _ h
      rw [itr_succ'] at i1
      refine ⟨i1, fun k hk => ?_⟩
      cases k with
      | zero => exact hne
      | succ k => have := i2 k (by omega); rw [itr_succ', itr_succ'] at this; exact this
theorem itr_inv {T x : Nat} (hx : x ≤ T) (hT : T ≤ 20) {E : List R} (g : GoodE T E) {s : St} (h : Inv T E x s) : ∀ k, Inv T E x (itr E s k)
  | 0 => h
  | k + 1 => (sweep0 hx hT g (itr_inv hx hT g h k)).1
theorem sweep_out {T : Nat} {E : List R} (g : GoodE T E) {v : Nat} (hv : T < v) : ∀ (es : List R) (k : Nat) (s : St), (∀ r ∈ es, r ∈ E) → nth (sweep true k es s).1 v = nth s.1 v
  | [], _, _, _ => rfl
  | r :: es, k, s, he => by
    rw [sweep, vw_true, sweep_out g hv es _ _ (fun r hr => he r (List.mem_cons_of_mem _ hr))]
    have fit := g.fit r (he r (List.mem_cons_self ..))
    rcases relax_cases s k r with ⟨e, _⟩ | ⟨e, _, _⟩
    · rw [e]
    · rw [e]
      exact nth_set_other _ _ _ _ (by omega)

theorem grd_low {T x : Nat} (hx : x ≤ T) (hT : T ≤ 20) {E : List R} (g : GoodE T E) {s0 s : St} (h0 : Inv T E x s0) (h : Inv T E x s) :
    ∀ (d v : Nat), v ≤ T → Grd E s.2 d v → ∀ k, d ≤ k → nth (itr E s0 k).1 v ≤ nth s.1 v
  | 0, v, hv, hg, k, _ => by
    rcases h.c1 v hv hg with ⟨rfl, e⟩ | e
    · rw [e]; exact (itr_inv hx hT g h0 k).px
    · rw [e]; exact (itr_inv hx hT g h0 k).top v (by omega)
  | d + 1, v, hv, hg, k, hk => by
    obtain ⟨hp, hg⟩ := hg
    obtain ⟨r, r1, r2, r3, r4, r5⟩ := h.c2 v (by omega) hp
    have fit := g.fit r (List.mem_of_getElem? r1)
    have hf : rf E (nth s.2 v).toNat = r.f := by unfold rf; rw [rAt_get r1]
    rw [hf] at hg
    obtain ⟨k, rfl⟩ : ∃ k', k = k' + 1 := ⟨k - 1, by omega⟩
    have ih := grd_low hx hT g h0 h d r.f.toNat (by omega) hg k (by omega)
    have := (sweep0 hx hT g (itr_inv hx hT g h0 k)).2.2.1 r (List.mem_of_getElem? r1) (by omega)
    rw [r2] at this
    change nth (itr E s0 (k + 1)).1 v ≤ _ at this
    omega

theorem grd_chain {T x : Nat} (hT : T ≤ 20) {E : List R} (g : GoodE T E) {s : St} (h : Inv T E x s) : ∀ (d v : Nat), v ≤ T → Grd E s.2 d v → ∀ e, e ≤ d → ∃ w, w ≤ T ∧ Grd E s.2 e w
  | 0, v, hv, hg, e, he => ⟨v, hv, by rw [show e = 0 by omega]; exact hg⟩
  | d + 1, v, hv, hg, e, he => by
    by_cases h1 : e = d + 1
    · subst h1; exact ⟨v, hv, hg⟩
    · obtain ⟨hp, hg⟩ := hg
      obtain ⟨r, r1, r2, r3, r4, r5⟩ := h.c2 v (by omega) hp
      have fit := g.fit r (List.mem_of_getElem? r1)
      have hf : rf E (nth s.2 v).toNat = r.f := by unfold rf; rw [rAt_get r1]
      rw [hf] at hg
      exact grd_chain hT g h d r.f.toNat (by omega) hg e (by omega)
/-- A chain of at most so many steps. -/
def DepthLe (ws : List R) (c : List Int) (e w : Nat) : Prop := ∃ e', e' ≤ e ∧ Grd ws c e' w
open Classical in
theorem grd_depth {T x : Nat} (hT : T ≤ 20) {E : List R} (g : GoodE T E) {s : St} (h : Inv T E x s) {d v : Nat} (hv : v ≤ T) (hg : Grd E s.2 d v) : d ≤ T := by
  have key : ∀ e, e ≤ d → e + 1 ≤ (List.range (T + 1)).countP (fun w => decide (DepthLe E s.2 e w)) := by
    intro e
    induction e with
    | zero =>
      intro _
      obtain ⟨w, hw, hgw⟩ := grd_chain hT g h d v hv hg 0 (by omega)
      have : 0 < (List.range (T + 1)).countP (fun w => decide (DepthLe E s.2 0 w)) := List.countP_pos_iff.2 ⟨w, by simp; omega, decide_eq_true ⟨0, Nat.le_refl _, hgw⟩⟩
      exact this
    | succ e ih =>
      intro he
      have i := ih (by omega)
      obtain ⟨w, hw, hgw⟩ := grd_chain hT g h d v hv hg (e + 1) he
      have : (List.range (T + 1)).countP (fun w => decide (DepthLe E s.2 e w)) < (List.range (T + 1)).countP (fun w => decide (DepthLe E s.2 (e + 1) w)) := by
        refine countP_lt _ _ _ (fun w _ hp => ?_) ⟨w, by simp; omega, ?_, ?_⟩
        · obtain ⟨e', h1, h2⟩ := of_decide_eq_true hp
          exact decide_eq_true ⟨e', by omega, h2⟩
        · exact decide_eq_true ⟨e + 1, Nat.le_refl _, hgw⟩
        · refine decide_eq_false ?_
          rintro ⟨e', h1, h2⟩
          have := grd_unique h2 hgw
          omega
      omega
  have := key d (Nat.le_refl _)
  have h2 := List.countP_le_length (l := List.range (T + 1)) (p := fun w => decide (DepthLe E s.2 d w))
  simp only [List.length_range] at h2
  omega

theorem not_all_grounded {T x : Nat} (hx : x ≤ T) (hT : T ≤ 20) {E : List R} (g : GoodE T E) (hno : (spread true T E x).2 = false) : ¬ ∀ v, v ≤ T → Grounded E (spread true T E x).1.2 v := by
  intro hall
  have h0 := inv_start hx hT E
  obtain ⟨e1, e2⟩ := rounds_false (T + 1) (start0 x) hno
  have hI := (spread_end hx hT g).1
  have heq : (spread true T E x).1 = itr E (start0 x) (T + 1) := e1
  apply e2 T (by omega)
  have hIT := itr_inv hx hT g h0 T
  have hI1 := itr_inv hx hT g h0 (T + 1)
  refine eq_of_nth (by rw [hI1.lp, hIT.lp]) (fun v hv => ?_)
  by_cases hvT : v ≤ T
  · obtain ⟨d, hd⟩ := hall v hvT
    have hdT := grd_depth hT g hI hvT hd
    have a1 := grd_low hx hT g h0 hI d v hvT hd T hdT
    rw [heq] at a1
    have a2 := (sweep0 hx hT g hIT).2.1 v
    change nth (itr E (start0 x) (T + 1)).1 v ≤ _ at a2
    omega
  · exact sweep_out g (by omega) E 0 _ (fun r hr => hr)

/-- A circle of rules that costs less than 0. -/
def IsCirc (ws : List R) (C : List Int) : Prop := (∀ k ∈ C, 0 ≤ k ∧ k < (ws.length : Int)) ∧ 1 ≤ C.length ∧ C.length ≤ 22 ∧ ∃ u cost : Int, (rl ws (nth C 0)).f = u ∧ follow ws u 0 C = (u, cost, true) ∧ cost < 0

theorem closes_is {ws : List R} {way : List Int} {i : Nat} (h : closes ws way = some i) : i < way.length ∧ rt ws (nth way i).toNat = rf ws (nth way 0).toNat := by
  unfold closes at h
  have h1 := List.find?_some h
  have h2 := List.mem_of_find?_eq_some h
  exact ⟨by simpa using h2, by simpa using h1⟩
theorem closes_not {ws : List R} {way : List Int} (h : closes ws way = none) : ∀ i, i < way.length → rt ws (nth way i).toNat ≠ rf ws (nth way 0).toNat := by
  unfold closes at h
  rw [List.find?_eq_none] at h
  intro i hi e
  exact h i (by simpa using hi) (by simpa using e)

theorem circleFrom_spec {T x : Nat} (hT : T ≤ 20) {ws : List R} (g : GoodE T ws) {s : St} (h : Inv T ws x s) :
    ∀ (n t : Nat) (c : List Int), t + n = T + 1 → c.length = 21 → (∀ v, v < 21 → nth c v = nth s.2 v ∨ nth c v = -1) → (∀ v, v < 21 → nth c v = nth s.2 v ∨ Grounded ws s.2 v) → (∀ v, v < t → Grounded ws s.2 v) →
      IsCirc ws (circleFrom ws n t c) ∨ ∀ v, v ≤ T → Grounded ws s.2 v
  | 0, t, c, ht, _, _, _, hg => .inr fun v hv => hg v (by omega)
  | n + 1, t, c, ht, hl, hD, hG, hg => by
    obtain ⟨u, pre, hu, e1, e2, e3, e4, e5, ⟨cost, e6⟩, e7, e8, e9⟩ := backFrom_walk g hT h 22 c t [] (by omega) hl (by have := cnt_le c; omega) hD
    have hb1 : (back ws c t).1 = pre := by unfold back; rw [e1]; simp
    have hlen : pre.length ≤ 22 := by
      have := backFrom_len ws 22 c t []
      rw [e1] at this
      simpa using this
    rw [circleFrom]
    split
    · rename_i i hcl
      left
      rw [hb1] at hcl ⊢
      obtain ⟨c1, c2⟩ := closes_is hcl
      obtain ⟨cc, hcc⟩ := follow_take pre i _ _ _ _ c1 e6
      have hci := e5 (nth pre i) (nth_mem c1)
      have hc0 := e5 (nth pre 0) (nth_mem (by omega))
      have hne : ∃ a ks, pre = a :: ks := by
        cases pre with
        | nil => simp at c1
        | cons a ks => exact ⟨a, ks, rfl⟩
      obtain ⟨a, ks, rfl⟩ := hne
      have hfu : (rl ws a).f = (u : Int) := by
        rw [follow] at e6
        split at e6
        · assumption
        · simp at e6
      have h0 : nth (a :: ks) 0 = a := rfl
      have hru : (rl ws (nth (a :: ks) i)).t = (u : Int) := by
        rw [rl_name ⟨hci.1, hci.2.1⟩]
        show rt ws (nth (a :: ks) i).toNat = _
        rw [c2, h0]
        rw [rl_name (by have := hc0; rw [h0] at this; exact ⟨this.1, this.2.1⟩)] at hfu
        exact hfu
      rw [hru] at hcc
      obtain ⟨τ, hτ⟩ := h.tau
      have hcame := came_cost h hτ ((a :: ks).take (i + 1)) _ _ _ _ (fun k hk => e5 k (List.mem_of_mem_take hk)) hcc
      refine ⟨fun k hk => ⟨(e5 k (List.mem_of_mem_take hk)).1, (e5 k (List.mem_of_mem_take hk)).2.1⟩, by simp, by simp at hlen ⊢; omega, u, cc, ?_, hcc, ?_⟩
      · rw [show nth ((a :: ks).take (i + 1)) 0 = a by simp [nth, List.getD]]
        exact hfu
      · have k1 := hcame.1
        by_cases hz : cc - 0 = nth s.1 (u : Int).toNat - nth s.1 (u : Int).toNat
        · rcases hcame.2 hz with ⟨k2, _⟩ | k2
          · simp at k2
          · omega
        · omega
    · rename_i hcl
      rw [hb1] at hcl
      have hno := closes_not hcl
      have hnu : ¬ ∃ k ∈ pre, (rt ws k.toNat).toNat = u := by
        rintro ⟨k, hk, hku⟩
        obtain ⟨i, hi, rfl⟩ := List.mem_iff_getElem.1 hk
        have hni : nth pre i = pre[i] := nth_eq pre i hi
        rw [← hni] at hku
        apply hno i hi
        have hci := e5 (nth pre i) (nth_mem hi)
        have hc0 := e5 (nth pre 0) (nth_mem (by omega))
        have hfu : (rl ws (nth pre 0)).f = (u : Int) := by
          cases pre with
          | nil => simp at hi
          | cons a ks =>
            rw [follow] at e6
            split at e6
            · assumption
            · simp at e6
        rw [rl_name ⟨hc0.1, hc0.2.1⟩] at hfu
        have f1 := g.fit _ (rAt_mem (show (nth pre i).toNat < ws.length by have := hci.2.1; have := hci.1; omega))
        have f2 : 0 ≤ rt ws (nth pre i).toNat := f1.2.2.1
        show _ = (rAt ws (nth pre 0).toNat).f
        rw [hfu]
        omega
      have hcu : nth c u < 0 := by
        rcases e8 u (by omega) with e | ⟨e, _⟩
        · rw [← e]; exact e2
        · exact absurd e hnu
      have hGu : Grounded ws s.2 u := by
        rcases hG u (by omega) with e | e
        · exact ⟨0, by show nth s.2 u < 0; rw [← e]; exact hcu⟩
        · exact e
      refine circleFrom_spec hT g h n (t + 1) _ (by omega) e3 e4 (fun v hv => ?_) (fun v hv => ?_)
      · show nth (backFrom ws 22 c t []).2 v = _ ∨ _
        rcases e8 v hv with e | ⟨_, e⟩
        · rcases hG v hv with e' | e'
          · left; rw [e, e']
          · exact .inr e'
        · exact .inr (e hGu)
      · by_cases e : v = t
        · subst e; exact e7 hGu
        · exact hg v (by omega)

/-- What Circle returns. -/
theorem circleR_some {T : Nat} {rs : List R} (he : chk T rs = 0) (hs : Some_ T rs) : circleR T rs = ([], 5) := by
  unfold circleR
  rw [if_neg (by simpa using he), Int.toNat_natCast, (clash_some he).2 hs, if_pos rfl]
theorem circleR_none {T : Nat} {rs : List R} (he : chk T rs = 0) (hs : ¬ Some_ T rs) : ∃ C, circleR T rs = (C, 0) ∧ IsCirc (whole T rs) C := by
  have hT : T ≤ 20 := by have := chk_ok he; omega
  have hno : (spread true T (whole T rs) 0).2 = false := by
    cases h : (spread true T (whole T rs) 0).2 with
    | false => rfl
    | true => exact absurd ((clash_some he).1 h) hs
  refine ⟨circleOf (whole T rs) T (spread true T (whole T rs) 0).1.2, ?_, ?_⟩
  · unfold circleR
    rw [if_neg (by simpa using he), Int.toNat_natCast, hno]
    rfl
  · have hI := (spread_end (Nat.zero_le T) hT (good_whole he)).1
    rcases circleFrom_spec hT (good_whole he) hI (T + 1) 0 (spread true T (whole T rs) 0).1.2 (by omega) hI.lc (fun v _ => .inl rfl) (fun v _ => .inl rfl) (fun v hv => absurd hv (by omega)) with h | h
    · exact h
    · exact absurd h (not_all_grounded (Nat.zero_le T) hT (good_whole he) hno)
end Go.Proofs.Ytiankphkemakeaa
