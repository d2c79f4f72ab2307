/- Ways and circles of rules: what they cost, and what Way returns. Plain mathematics. -/
import Derived.Test.YtiankphkemakeaaSpanTh
import Derived.Test.YtiankphkemakeaaRCirc
namespace Go.Proofs.Ytiankphkemakeaa
set_option linter.unusedSimpArgs false
set_option linter.unusedVariables false
open Go.RowKit Go.Shelf

theorem rl_name {ws : List R} {k : Int} (h : 0 ≤ k ∧ k < (ws.length : Int)) : rl ws k = rAt ws k.toNat := by
  unfold rl isName
  rw [if_pos (by simp [within]; omega)]
theorem rl_not {ws : List R} {k : Int} (h : ¬ (0 ≤ k ∧ k < (ws.length : Int))) : rl ws k = ⟨0, 0, 0⟩ := by
  unfold rl isName
  rw [if_neg (by simp [within]; omega)]
theorem rAt_mem {ws : List R} {k : Nat} (h : k < ws.length) : rAt ws k ∈ ws := by rw [rAt_eq ws k h]; exact List.getElem_mem h
theorem rAt_get {ws : List R} {k : Nat} {r : R} (h : ws[k]? = some r) : rAt ws k = r := by simp [rAt, List.getD, h]
theorem get_rAt {ws : List R} {k : Nat} (h : k < ws.length) : ws[k]? = some (rAt ws k) := by rw [rAt_eq ws k h]; exact List.getElem?_eq_getElem h

/-- What a way costs is no less than what speeds differ by. -/
theorem follow_tel {ws : List R} {q : Nat → Int} (hq : Feas ws q) : ∀ (ks : List Int) (x c y cost : Int), follow ws x c ks = (y, cost, true) → q y.toNat - q x.toNat ≤ cost - c
  | [], x, c, y, cost, h => by
    simp only [follow, Prod.mk.injEq] at h
    obtain ⟨rfl, rfl, _⟩ := h
    omega
  | k :: ks, x, c, y, cost, h => by
    rw [follow] at h
    split at h
    · rename_i hx
      have ih := follow_tel hq ks _ _ _ _ h
      have h1 : q (rl ws k).t.toNat ≤ q (rl ws k).f.toNat + (rl ws k).m := by
        by_cases hk : 0 ≤ k ∧ k < (ws.length : Int)
        · rw [rl_name hk]; exact hq _ (rAt_mem (by omega))
        · rw [rl_not hk]; simp
      rw [hx] at h1
      omega
    · simp at h

/-- The way back from a turn at the end. -/
theorem backFrom_way {T x : Nat} (hx : x ≤ T) (hT : T ≤ 20) {ws : List R} (g : GoodE T ws) {s : St} (h : Inv T ws x s) (hF : Fix ws s) {τ : Nat → Nat}
    (hτ : ∀ v, v < 21 → 0 ≤ nth s.2 v → ∀ r, ws[(nth s.2 v).toNat]? = some r → nth s.1 v = nth s.1 r.f.toNat + r.m → τ r.f.toNat < τ v) (v0 : Nat) :
    ∀ (f : Nat) (c : List Int) (t : Nat) (acc : List Int), t ≤ T → c.length = 21 → cnt c < f → (∀ v, v < 21 → nth c v = nth s.2 v ∨ (nth c v = -1 ∧ τ t < τ v)) →
      follow ws (t : Int) (nth s.1 t) acc = ((v0 : Int), nth s.1 v0, true) → (∀ k ∈ acc, 0 ≤ k ∧ k < (ws.length : Int)) →
        follow ws (x : Int) 0 (backFrom ws f c t acc).1 = ((v0 : Int), nth s.1 v0, true) ∧ ∀ k ∈ (backFrom ws f c t acc).1, 0 ≤ k ∧ k < (ws.length : Int) := by
  obtain ⟨e1, e2, e3, e4⟩ := fix_end hx hT g h hF
  intro f
  induction f with
  | zero => intro c t acc _ _ hc; omega
  | succ f ih =>
    intro c t acc ht hl hc hD hfo hn
    have hct : nth c t = nth s.2 t := by rcases hD t (by omega) with e | e <;> omega
    rw [backFrom]
    split
    · rename_i hneg
      rw [hct] at hneg
      rcases h.c1 t ht hneg with ⟨rfl, e⟩ | e
      · rw [e] at hfo
        exact ⟨hfo, hn⟩
      · have := e1 t ht; omega
    · rename_i hpos
      have hpos' : 0 ≤ nth s.2 t := by omega
      obtain ⟨r, r1, r2, r3, r4, r5⟩ := h.c2 t (by omega) hpos'
      have hlt : (nth s.2 t).toNat < ws.length := (List.getElem?_eq_some_iff.1 r1).1
      have hmem : r ∈ ws := List.mem_of_getElem? r1
      have fit := g.fit r hmem
      have hrr : rAt ws (nth s.2 t).toNat = r := rAt_get r1
      have htight : nth s.1 t = nth s.1 r.f.toNat + r.m := by
        have := hF r hmem r3
        rw [r2] at this
        omega
      have hlow := hτ t (by omega) hpos' r r1 htight
      have hf : rf ws (nth c t).toNat = r.f := by rw [hct]; unfold rf; rw [hrr]
      rw [hf]
      have hcnt := cnt_set c t (by omega) (by omega)
      refine ih (c.set t (-1)) r.f.toNat (nth c t :: acc) (by omega) (by simp [hl]) (by omega) (fun v hv => ?_) ?_ (fun k hk => ?_)
      · by_cases e : v = t
        · subst e; right; exact ⟨nth_set_same _ _ _ (by omega), hlow⟩
        · rw [nth_set_other _ _ _ _ e]
          rcases hD v hv with e' | ⟨e', e''⟩
          · exact .inl e'
          · exact .inr ⟨e', by omega⟩
      · rw [hct, follow, rl_name ⟨hpos', by omega⟩, hrr, if_pos (by omega), ← htight, show r.t = (t : Int) by omega]
        exact hfo
      · rcases List.mem_cons.1 hk with rfl | hk
        · rw [hct]; exact ⟨hpos', by omega⟩
        · exact hn k hk

theorem named_of {T : Nat} {ws : List R} (g : GoodE T ws) {ks : List Int} : named ws ks = true ↔ ∀ k ∈ ks, 0 ≤ k ∧ k < (ws.length : Int) := by
  unfold named
  rw [List.all_eq_true]
  constructor
  · intro h k hk
    have := h k hk
    apply Classical.byContradiction
    intro hn
    rw [rl_not hn] at this
    simp at this
  · intro h k hk
    have hk' := h k hk
    rw [rl_name hk']
    have := g.fit _ (rAt_mem (show k.toNat < ws.length by omega))
    simp
    intro e
    rw [e] at this
    simp at this

/-- What Way returns, if there are speeds: a way that costs what the table says. -/
theorem wayR_far {T : Nat} {rs : List R} (he : chk T rs = 0) (hs : Some_ T rs) {x y : Nat} (hx : x ≤ T) (hy : y ≤ T) :
    ∃ W, wayR T rs x y = (W, farM T rs x y, 0) ∧ follow (whole T rs) x 0 W = ((y : Int), farM T rs x y, true) ∧ (∀ k ∈ W, 0 ≤ k ∧ k < ((whole T rs).length : Int)) ∧ W.length ≤ 22 := by
  have hT : T ≤ 20 := by have := chk_ok he; omega
  obtain ⟨h1, h2, h3⟩ := spread_end hx hT (good_whole he)
  have hok := h3.2 hs
  obtain ⟨τ, hτ⟩ := h1.tau
  have hrow := (spread_row he hx).2 hs
  have hb := backFrom_way hx hT (good_whole he) h1 (h2 hok) hτ y 22 _ y [] hy h1.lc (by have := cnt_le (spread true T (whole T rs) x).1.2; rw [h1.lc] at this; omega) (fun v _ => .inl rfl) rfl (fun k hk => by simp at hk)
  refine ⟨(back (whole T rs) (spread true T (whole T rs) x).1.2 y).1, ?_, ?_, hb.2, ?_⟩
  · unfold wayR
    rw [if_neg (by simpa using he), Int.toNat_natCast, Int.toNat_natCast, Int.toNat_natCast, show within 0 (T : Int) [(x : Int), (y : Int)] = true by simp [within]; omega, if_pos rfl, hok, if_pos rfl, hrow y hy]
  · rw [← hrow y hy]; exact hb.1
  · have := backFrom_len (whole T rs) 22 (spread true T (whole T rs) x).1.2 y []
    simpa [back] using this
theorem wayR_clash {T : Nat} {rs : List R} (he : chk T rs = 0) (hs : ¬ Some_ T rs) {x y : Nat} (hx : x ≤ T) (hy : y ≤ T) : wayR T rs x y = ([], 0, 21) := by
  unfold wayR
  rw [if_neg (by simpa using he), Int.toNat_natCast, Int.toNat_natCast, show within 0 (T : Int) [(x : Int), (y : Int)] = true by simp [within]; omega, if_pos rfl]
  have : (spread true T (whole T rs) x).2 = false := by
    cases h : (spread true T (whole T rs) x).2 with
    | false => rfl
    | true => exact absurd ((spread_row he hx).1.1 h) hs
  rw [this]
  rfl
theorem wayR_arg {T : Nat} {rs : List R} (he : chk T rs = 0) {x y : Int} (h : x < 0 ∨ T < x ∨ y < 0 ∨ T < y) : wayR T rs x y = ([], 0, 2) := by
  unfold wayR
  rw [if_neg (by simpa using he), show within 0 (T : Int) [x, y] = false by simp [within]; omega]
  rfl

/-- Speeds that are true are speeds that keep all whole rules. -/
def qOf (vs : List Int) : Nat → Int := fun v => nth (0 :: vs) v
theorem pace_at (vs : List Int) (v : Nat) (h : v ≤ vs.length) : nth (paceOf vs) v = qOf vs v := by
  unfold qOf
  cases v with
  | zero => rfl
  | succ v => rw [paceOf_succ vs v (by omega)]; simp [nth, List.getD]
theorem feas_turn {T : Nat} {q : Nat → Int} (h0 : q 0 = 0) : (∀ r ∈ turnRules T, q r.t.toNat ≤ q r.f.toNat + r.m) ↔ ∀ t, 1 ≤ t → t ≤ T → 0 ≤ q t ∧ q t ≤ 100000 := by
  constructor
  · intro h t h1 h2
    have a1 := h _ (turnRules_mem T t h1 h2).1
    have a2 := h _ (turnRules_mem T t h1 h2).2
    simp at a1 a2
    omega
  · intro h r hr
    rcases turnRules_fit T r hr with ⟨a1, a2, a3, a4⟩ | ⟨a1, a2, a3, a4⟩
    · have := h r.t.toNat (by omega) (by omega)
      rw [a1, a4]
      simp
      omega
    · have := h r.f.toNat (by omega) (by omega)
      rw [a1, a4]
      simp
      omega
theorem within_all {lo hi : Int} {vs : List Int} : within lo hi vs = true ↔ ∀ j, j < vs.length → lo ≤ nth vs j ∧ nth vs j ≤ hi := by
  unfold within
  rw [List.all_eq_true]
  constructor
  · intro h j hj
    have := h (nth vs j) (nth_mem hj)
    simpa using this
  · intro h z hz
    obtain ⟨j, hj, rfl⟩ := List.mem_iff_getElem.1 hz
    have := h j hj
    rw [nth_eq vs j hj] at this
    simpa using this
theorem checkSpeeds_iff {T : Nat} {rs : List R} (he : chk T rs = 0) (vs : List Int) : checkSpeeds T rs vs = 0 ↔ vs.length = T ∧ Feas (whole T rs) (qOf vs) := by
  have hfit := (chk_ok he).2.2.2
  unfold checkSpeeds
  rw [if_neg (by simpa using he)]
  by_cases hl : (vs.length : Int) = T
  · have hl' : vs.length = T := by omega
    rw [if_neg (by simpa using hl)]
    have hturn := feas_turn (T := T) (q := qOf vs) rfl
    have hw : within 0 100000 vs = true ↔ ∀ t, 1 ≤ t → t ≤ T → 0 ≤ qOf vs t ∧ qOf vs t ≤ 100000 := by
      rw [within_all]
      constructor
      · intro h t h1 h2
        have := h (t - 1) (by omega)
        obtain ⟨k, rfl⟩ : ∃ k, t = k + 1 := ⟨t - 1, by omega⟩
        simpa [qOf, nth, List.getD] using this
      · intro h j hj
        have := h (j + 1) (by omega) (by omega)
        simpa [qOf, nth, List.getD] using this
    have hk : rs.all (keep (paceOf vs)) = true ↔ ∀ r ∈ rs, qOf vs r.t.toNat ≤ qOf vs r.f.toNat + r.m := by
      rw [List.all_eq_true]
      have : ∀ r ∈ rs, keep (paceOf vs) r = true ↔ qOf vs r.t.toNat ≤ qOf vs r.f.toNat + r.m := fun r hr => by
        have f := (chkR_iff _ _).1 (List.all_eq_true.1 hfit r hr)
        rw [keep_eq, pace_at vs _ (by omega), pace_at vs _ (by omega)]
        simp
      exact ⟨fun h r hr => (this r hr).1 (h r hr), fun h r hr => (this r hr).2 (h r hr)⟩
    have hfe : Feas (whole T rs) (qOf vs) ↔ within 0 100000 vs = true ∧ rs.all (keep (paceOf vs)) = true := by
      rw [hw, hk, ← hturn]
      unfold Feas whole
      constructor
      · intro h; exact ⟨fun r hr => h r (List.mem_append_right _ hr), fun r hr => h r (List.mem_append_left _ hr)⟩
      · rintro ⟨h1, h2⟩ r hr
        rcases List.mem_append.1 hr with hr | hr
        · exact h2 r hr
        · exact h1 r hr
    rw [hfe]
    cases within 0 100000 vs
    · simp
    · cases rs.all (keep (paceOf vs)) <;> simp [hl']
  · rw [if_pos hl]
    constructor
    · intro h; simp at h
    · rintro ⟨h, _⟩; omega
end Go.Proofs.Ytiankphkemakeaa
