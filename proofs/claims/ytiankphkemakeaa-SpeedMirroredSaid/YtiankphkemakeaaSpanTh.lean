/- What Span, Ends, Way and Circle return, said by the document's table. Plain mathematics. -/
import Derived.Test.YtiankphkemakeaaBF
import Derived.Test.YtiankphkemakeaaSung
import Derived.Test.YtiankphkemakeaaFuncB
import Derived.Test.YtiankphkemakeaaFuncE
namespace Go.Proofs.Ytiankphkemakeaa
set_option linter.unusedSimpArgs false
set_option linter.unusedVariables false
open Go.RowKit Go.Shelf

/-- Some speeds keep all whole rules. -/
def Some_ (T : Nat) (rs : List R) : Prop := ∃ q, Feas (whole T rs) q

theorem some_iff_diag {T : Nat} {rs : List R} (he : chk T rs = 0) : Some_ T rs ↔ ∀ i, i ≤ T → 0 ≤ farM T rs i i :=
  far_clash (by have := chk_ok he; omega) (good_whole he)

/-- The table, if there are speeds. -/
theorem far_facts {T : Nat} {rs : List R} (he : chk T rs = 0) (hs : Some_ T rs) :
    (∀ i, i ≤ T → farM T rs i i = 0) ∧ (∀ a b, a ≤ T → b ≤ T → -209715200000 ≤ farM T rs a b ∧ farM T rs a b ≤ 209715200000) ∧
      (∀ a j b, a ≤ T → j ≤ T → b ≤ T → farM T rs a b ≤ farM T rs a j + farM T rs j b) ∧ (∀ x, x ≤ T → Feas (whole T rs) (farM T rs x)) ∧
        ∀ q, Feas (whole T rs) q → ∀ x v, x ≤ T → v ≤ T → q v - q x ≤ farM T rs x v := by
  obtain ⟨h1, h2, h3, h4⟩ := far_end (by have := chk_ok he; omega) (good_whole he) ((some_iff_diag he).1 hs)
  refine ⟨h1, h2, h3, h4, fun q hq x v hx hv => ?_⟩
  have := abv_far hq x v
  have hb : big = 1099511627776 := rfl
  have h5 : farM T rs x v ≤ 209715200000 := (h2 x v hx hv).2
  rcases this with e | e
  · omega
  · exact e

/-- spread from a turn: the row of the table. -/
theorem spread_row {T : Nat} {rs : List R} (he : chk T rs = 0) {x : Nat} (hx : x ≤ T) :
    ((spread true T (whole T rs) x).2 = true ↔ Some_ T rs) ∧ (Some_ T rs → ∀ v, v ≤ T → nth (spread true T (whole T rs) x).1.1 v = farM T rs x v) := by
  have hT : T ≤ 20 := by have := chk_ok he; omega
  obtain ⟨h1, h2, h3⟩ := spread_end hx hT (good_whole he)
  refine ⟨h3, fun hs v hv => ?_⟩
  obtain ⟨f1, f2, f3, f4⟩ := fix_end hx hT (good_whole he) h1 (h2 (h3.2 hs))
  obtain ⟨g1, g2, g3, g4, g5⟩ := far_facts he hs
  have a1 := f4 _ (g4 x hx) v hv
  have a2 := g5 _ f2 x v hx hv
  rw [g1 x hx] at a1
  rw [f3] at a2
  omega
theorem spread_back {T : Nat} {rs : List R} (he : chk T rs = 0) :
    ((spread false T (whole T rs) 0).2 = true ↔ Some_ T rs) ∧ (Some_ T rs → ∀ v, v ≤ T → nth (spread false T (whole T rs) 0).1.1 v = farM T rs v 0) := by
  have hT : T ≤ 20 := by have := chk_ok he; omega
  have gg := good_flip (good_whole he)
  rw [spread_map]
  obtain ⟨h1, h2, h3⟩ := spread_end (Nat.zero_le T) hT gg
  have hiff : (∃ q, Feas ((whole T rs).map (vw false)) q) ↔ Some_ T rs := by
    constructor
    · rintro ⟨q, hq⟩; exact ⟨_, feas_flip.1 hq⟩
    · rintro ⟨q, hq⟩
      refine ⟨fun v => -(q v), feas_flip.2 ?_⟩
      have : (fun v => - -(q v)) = q := by funext v; omega
      rw [this]; exact hq
  refine ⟨h3.trans hiff, fun hs v hv => ?_⟩
  obtain ⟨f1, f2, f3, f4⟩ := fix_end (Nat.zero_le T) hT gg h1 (h2 (h3.2 (hiff.2 hs)))
  obtain ⟨g1, g2, g3, g4, g5⟩ := far_facts he hs
  have a0 : Feas ((whole T rs).map (vw false)) (fun u => -(farM T rs v u)) := by
    refine feas_flip.2 ?_
    have : (fun u => - -(farM T rs v u)) = farM T rs v := by funext u; omega
    rw [this]; exact g4 v hv
  have a1 := f4 _ a0 v hv
  have a2 := g5 _ (feas_flip.1 f2) v 0 hv (Nat.zero_le T)
  rw [f3] at a2
  have := g1 v hv
  omega

theorem clash_some {T : Nat} {rs : List R} (he : chk T rs = 0) : (spread true T (whole T rs) 0).2 = true ↔ Some_ T rs := (spread_row he (Nat.zero_le T)).1

theorem endsOf_low (T : Nat) (ws : List R) : (endsOf false T ws).1 = negs 21 (spread false T ws 0).1.1 := by unfold endsOf; simp only [Bool.false_eq_true, if_false]
theorem endsOf_high (T : Nat) (ws : List R) : (endsOf true T ws).1 = (spread true T ws 0).1.1 := by unfold endsOf; simp only [if_true]
theorem endsOf_ok (high : Bool) (T : Nat) (ws : List R) : (endsOf high T ws).2 = (spread high T ws 0).2 := by unfold endsOf; rfl
/-- Span by the table. -/
theorem spanR_far {T : Nat} {rs : List R} (he : chk T rs = 0) (hs : Some_ T rs) {t : Nat} (h1 : 1 ≤ t) (h2 : t ≤ T) : spanR T rs t = (-(farM T rs t 0), farM T rs 0 t, 0) := by
  have hT : T ≤ 20 := by have := chk_ok he; omega
  have hlen : (spread false T (whole T rs) 0).1.1.length = 21 := (spread_within false T 0 (whole T rs) (fit_whole he) (by rw [whole_len2]; have := chk_ok he; omega) hT).1
  unfold spanR
  rw [if_neg (by simpa using he), Int.toNat_natCast, Int.toNat_natCast]
  rw [show within 1 (T : Int) [(t : Int)] = true by simp [within]; omega, if_pos rfl]
  have e1 : (endsOf true T (whole T rs)).2 = true := by rw [endsOf_ok]; exact (clash_some he).2 hs
  rw [e1, if_pos rfl]
  have e2 : nth (endsOf true T (whole T rs)).1 t = farM T rs 0 t := by rw [endsOf_high]; exact (spread_row he (Nat.zero_le T)).2 hs t h2
  have e3 : nth (endsOf false T (whole T rs)).1 t = -(farM T rs t 0) := by
    rw [endsOf_low, negs_at _ _ _ (by rw [hlen]; exact Nat.le_refl _), if_pos (by omega), (spread_back he).2 hs t h2]
  rw [e2, e3]
theorem spanR_clash {T : Nat} {rs : List R} (he : chk T rs = 0) (hs : ¬ Some_ T rs) {t : Nat} (h1 : 1 ≤ t) (h2 : t ≤ T) : spanR T rs t = (0, 0, 21) := by
  unfold spanR
  rw [if_neg (by simpa using he), Int.toNat_natCast]
  rw [show within 1 (T : Int) [(t : Int)] = true by simp [within]; omega, if_pos rfl]
  have e1 : (endsOf true T (whole T rs)).2 = false := by
    cases h : (endsOf true T (whole T rs)).2 with
    | false => rfl
    | true => rw [endsOf_ok] at h; exact absurd ((clash_some he).1 h) hs
  rw [e1]
  rfl
theorem spanR_range {T : Nat} {rs : List R} (he : chk T rs = 0) {t : Int} (h : t < 1 ∨ T < t) : spanR T rs t = (0, 0, 3) := by
  unfold spanR
  rw [if_neg (by simpa using he)]
  rw [show within 1 (T : Int) [t] = false by simp [within]; omega]
  rfl

/-- Ends by the table. -/
def endM (T : Nat) (rs : List R) (high : Bool) (v : Nat) : Int := if high then farM T rs 0 v else -(farM T rs v 0)
theorem endsR_far {T : Nat} {rs : List R} (he : chk T rs = 0) (hs : Some_ T rs) (high : Bool) : endsR T rs high = ((List.range T).map fun i => endM T rs high (i + 1), 0) := by
  have hT : T ≤ 20 := by have := chk_ok he; omega
  have hlen : ∀ b, (spread b T (whole T rs) 0).1.1.length = 21 := fun b => (spread_within b T 0 (whole T rs) (fit_whole he) (by rw [whole_len2]; have := chk_ok he; omega) hT).1
  have hl2 : (endsOf high T (whole T rs)).1.length = 21 := endsOf_length high T _ (fit_whole he) (by rw [whole_len2]; have := chk_ok he; omega) hT
  have hat : ∀ v, v ≤ T → nth (endsOf high T (whole T rs)).1 v = endM T rs high v := fun v hv => by
    cases high
    · rw [endsOf_low, negs_at _ _ _ (by rw [hlen]; exact Nat.le_refl _), if_pos (by omega), (spread_back he).2 hs v hv]
      rfl
    · rw [endsOf_high]; exact (spread_row he (Nat.zero_le T)).2 hs v hv
  unfold endsR
  rw [if_neg (by simpa using he), Int.toNat_natCast]
  have e1 : (endsOf high T (whole T rs)).2 = true := by
    rw [endsOf_ok]
    cases high
    · exact (spread_back he).1.2 hs
    · exact (clash_some he).2 hs
  rw [e1, if_pos rfl]
  congr 1
  refine eq_of_nth (by simp [hl2]; omega) (fun j hj => ?_)
  have hj : j < T := by simp at hj; omega
  rw [show nth (((endsOf high T (whole T rs)).1.drop 1).take T) j = nth (endsOf high T (whole T rs)).1 (j + 1) by
    simp [nth, List.getD, List.getElem?_take, hj, List.getElem?_drop, Nat.add_comm], hat _ (by omega)]
  simp [nth, List.getD, hj]
theorem endsR_clash {T : Nat} {rs : List R} (he : chk T rs = 0) (hs : ¬ Some_ T rs) (high : Bool) : endsR T rs high = ([], 21) := by
  unfold endsR
  rw [if_neg (by simpa using he), Int.toNat_natCast]
  have e1 : (endsOf high T (whole T rs)).2 = false := by
    cases h : (endsOf high T (whole T rs)).2 with
    | false => rfl
    | true =>
      exfalso
      rw [endsOf_ok] at h
      cases high
      · exact hs ((spread_back he).1.1 h)
      · exact hs ((clash_some he).1 h)
  rw [e1]
  rfl
end Go.Proofs.Ytiankphkemakeaa
