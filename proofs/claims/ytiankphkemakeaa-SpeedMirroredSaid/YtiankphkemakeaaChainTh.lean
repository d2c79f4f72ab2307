/- The program's CheckWay and CheckCircle say what the document's say. Plain mathematics. -/
import Derived.Test.YtiankphkemakeaaCircTh
namespace Go.Proofs.Ytiankphkemakeaa
set_option linter.unusedSimpArgs false
set_option linter.unusedVariables false
open Go.RowKit Go.Shelf

theorem follow_snoc (ws : List R) (k : Int) : ∀ (A : List Int) (x c : Int), follow ws x c (A ++ [k]) =
    if (follow ws x c A).2.2 = true then (if (rl ws k).f = (follow ws x c A).1 then ((rl ws k).t, (follow ws x c A).2.1 + (rl ws k).m, true) else (0, 0, false)) else (0, 0, false)
  | [], x, c => by
    rw [List.nil_append]
    simp only [follow, if_true]
    first | rfl | (split <;> rfl)
  | a :: A, x, c => by
    rw [List.cons_append, follow, follow]
    split
    · exact follow_snoc ws k A _ _
    · simp

theorem inAll_iff {ws : List R} {ks : List Int} : inAll ws ks = true ↔ ∀ k ∈ ks, 0 ≤ k ∧ k < (ws.length : Int) := by
  unfold inAll
  rw [List.all_eq_true]
  simp
theorem follow_chain {ws : List R} {ks : List Int} (hn : ∀ k ∈ ks, 0 ≤ k ∧ k < (ws.length : Int)) (x : Int) : ∀ k, 1 ≤ k → k ≤ ks.length →
    follow ws x 0 (ks.take k) = if rf ws (nth ks 0).toNat = x ∧ okTo ws ks k = true then (rt ws (nth ks (k - 1)).toNat, sumTo ws ks k, true) else (0, 0, false) := by
  intro k
  induction k with
  | zero => intro h; omega
  | succ k ih =>
    intro _ hk
    have hnk := hn _ (nth_mem (show k < ks.length by omega))
    rw [List.take_succ_eq_append_getElem (by omega), ← nth_eq ks k (by omega), follow_snoc, rl_name hnk]
    by_cases h0 : k = 0
    · subst h0
      rw [List.take_zero]
      simp only [follow, if_true]
      rw [okTo_succ]
      have e1 : okTo ws ks 0 = true := rfl
      rw [e1]
      simp only [Bool.true_and, beq_self_eq_true, Bool.true_or, and_true]
      show (if rf ws (nth ks 0).toNat = x then _ else _) = _
      by_cases hx : rf ws (nth ks 0).toNat = x
      · rw [if_pos hx, if_pos hx]; rfl
      · rw [if_neg hx, if_neg hx]
    · rw [ih (by omega) (by omega), okTo_succ]
      have hb : (k == 0) = false := by simpa using h0
      rw [hb]
      by_cases h1 : rf ws (nth ks 0).toNat = x ∧ okTo ws ks k = true
      · rw [if_pos h1]
        simp only [if_true]
        rw [h1.2]
        show (if rf ws (nth ks k).toNat = _ then _ else _) = _
        by_cases h2 : rf ws (nth ks k).toNat = rt ws (nth ks (k - 1)).toNat
        · rw [if_pos h2, if_pos ⟨h1.1, by simp [h2]⟩]
          rfl
        · rw [if_neg h2, if_neg (fun h => by simp [h2] at h)]
      · rw [if_neg h1]
        simp only [Bool.false_eq_true, if_false]
        rw [if_neg (fun h => h1 ⟨h.1, by have := h.2; rw [Bool.and_eq_true] at this; exact this.1⟩)]
theorem follow_all {ws : List R} {ks : List Int} (hn : ∀ k ∈ ks, 0 ≤ k ∧ k < (ws.length : Int)) (x : Int) (h : 1 ≤ ks.length) :
    follow ws x 0 ks = if rf ws (nth ks 0).toNat = x ∧ okTo ws ks ks.length = true then (rt ws (nth ks (ks.length - 1)).toNat, sumTo ws ks ks.length, true) else (0, 0, false) := by
  have := follow_chain hn x ks.length h (Nat.le_refl _)
  rwa [List.take_length] at this

/-- What the document's CheckWay returns. -/
def checkWayD (T : Int) (rs : List R) (x y : Int) (ks : List Int) : Int × Int :=
  if chk T rs ≠ 0 then (0, chk T rs) else
  if x < 0 ∨ T < x ∨ y < 0 ∨ T < y then (0, 2) else
  if 60 < ks.length then (0, 6) else
  if (chainR (whole T.toNat rs) ks).2 ≠ 0 then (0, (chainR (whole T.toNat rs) ks).2) else
  if ks.length = 0 then (if x ≠ y then (0, 16) else (0, 0)) else
  if rf (whole T.toNat rs) (nth ks 0).toNat ≠ x ∨ rt (whole T.toNat rs) (nth ks (ks.length - 1)).toNat ≠ y then (0, 16) else ((chainR (whole T.toNat rs) ks).1, 0)

theorem named_inAll {T : Nat} {rs : List R} (he : chk T rs = 0) (ks : List Int) : named (whole T rs) ks = inAll (whole T rs) ks := by
  have h1 := named_of (good_whole he) (ks := ks)
  have h2 := inAll_iff (ws := whole T rs) (ks := ks)
  cases h3 : named (whole T rs) ks <;> cases h4 : inAll (whole T rs) ks
  · rfl
  · rw [h3] at h1; rw [h4] at h2; exact absurd (h1.2 (h2.1 rfl)) (by simp)
  · rw [h3] at h1; rw [h4] at h2; exact absurd (h2.2 (h1.1 rfl)) (by simp)
  · rfl
theorem checkWay_same (T x y : Int) (rs : List R) (ks : List Int) : checkWay T rs x y ks = checkWayD T rs x y ks := by
  unfold checkWay checkWayD
  by_cases he : chk T rs = 0
  · have hne : ¬ (chk T rs ≠ 0) := fun h => h he
    rw [if_neg hne, if_neg hne]
    clear hne
    obtain ⟨_, hT1, hT2, _⟩ := chk_ok he
    obtain ⟨T, rfl⟩ := Int.eq_ofNat_of_zero_le (show 0 ≤ T by omega)
    rw [Int.toNat_natCast]
    by_cases hxy : x < 0 ∨ T < x ∨ y < 0 ∨ T < y
    · rw [if_pos hxy, show within 0 (T : Int) [x, y] = false by simp [within]; omega]; rfl
    · rw [if_neg hxy, show within 0 (T : Int) [x, y] = true by simp [within]; omega, if_pos rfl]
      by_cases h60 : 60 < ks.length
      · rw [if_pos h60, if_pos h60]
      · rw [if_neg h60, if_neg h60, named_inAll he]
        unfold chainR
        cases hin : inAll (whole T rs) ks with
        | false => simp
        | true =>
          have hn := inAll_iff.1 hin
          simp only [if_true]
          by_cases h0 : ks.length = 0
          · have : ks = [] := List.eq_nil_of_length_eq_zero h0
            subst this
            simp only [follow, List.length_nil]
            have e1 : okTo (whole T rs) [] 0 = true := rfl
            rw [e1]
            simp only [if_true]
            by_cases hxy2 : x = y
            · subst hxy2; simp
            · simp [hxy2]
          · by_cases h1 : rf (whole T rs) (nth ks 0).toNat = x
            · by_cases hok : okTo (whole T rs) ks ks.length = true
              · have hfo : follow (whole T rs) x 0 ks = (rt (whole T rs) (nth ks (ks.length - 1)).toNat, sumTo (whole T rs) ks ks.length, true) := by rw [follow_all hn x (by omega), if_pos ⟨h1, hok⟩]
                rw [hfo]
                by_cases h2 : rt (whole T rs) (nth ks (ks.length - 1)).toNat = y <;> simp [hok, h0, h1, h2]
              · have hfo : follow (whole T rs) x 0 ks = (0, 0, false) := by rw [follow_all hn x (by omega), if_neg (fun h => hok h.2)]
                rw [hfo]
                simp [hok]
            · have hfo : follow (whole T rs) x 0 ks = (0, 0, false) := by rw [follow_all hn x (by omega), if_neg (fun h => h1 h.1)]
              rw [hfo]
              by_cases hok : okTo (whole T rs) ks ks.length = true <;> simp [hok, h0, h1]
  · rw [if_pos he, if_pos he]
theorem checkCircle_same (T : Int) (rs : List R) (ks : List Int) : checkCircle T rs ks = checkCircleD T rs ks := by
  unfold checkCircle checkCircleD
  by_cases he : chk T rs = 0
  · have hne : ¬ (chk T rs ≠ 0) := fun h => h he
    rw [if_neg hne, if_neg hne]
    clear hne
    obtain ⟨_, hT1, hT2, _⟩ := chk_ok he
    obtain ⟨T, rfl⟩ := Int.eq_ofNat_of_zero_le (show 0 ≤ T by omega)
    rw [Int.toNat_natCast]
    by_cases hl : ks.length < 1 ∨ 60 < ks.length
    · rw [if_pos hl, show within 1 60 [(ks.length : Int)] = false by simp [within]; omega]; rfl
    · rw [if_neg hl, show within 1 60 [(ks.length : Int)] = true by simp [within]; omega, if_pos rfl, named_inAll he]
      unfold chainR
      cases hin : inAll (whole T rs) ks with
      | false => simp
      | true =>
        have hn := inAll_iff.1 hin
        simp only [if_true]
        have hst : start (whole T rs) ks = rf (whole T rs) (nth ks 0).toNat := by
          unfold start
          rw [rl_name (hn _ (nth_mem (by omega)))]
          rfl
        rw [hst]
        by_cases hok : okTo (whole T rs) ks ks.length = true
        · have hfo : follow (whole T rs) (rf (whole T rs) (nth ks 0).toNat) 0 ks = (rt (whole T rs) (nth ks (ks.length - 1)).toNat, sumTo (whole T rs) ks ks.length, true) := by rw [follow_all hn _ (by omega), if_pos ⟨rfl, hok⟩]
          rw [hfo]
          by_cases h2 : rt (whole T rs) (nth ks (ks.length - 1)).toNat = rf (whole T rs) (nth ks 0).toNat
          · simp [hok, h2]
          · have h3 : ¬ rf (whole T rs) (nth ks 0).toNat = rt (whole T rs) (nth ks (ks.length - 1)).toNat := fun h => h2 h.symm
            simp [hok, h2, h3]
        · have hfo : follow (whole T rs) (rf (whole T rs) (nth ks 0).toNat) 0 ks = (0, 0, false) := by rw [follow_all hn _ (by omega), if_neg (fun h => hok h.2)]
          rw [hfo]
          simp [hok]
  · rw [if_pos he, if_pos he]

/-- A circle by the document's check. -/
theorem isCirc_check {T : Nat} {rs : List R} (he : chk T rs = 0) {C : List Int} (h : IsCirc (whole T rs) C) : checkCircle T rs C = 0 := by
  obtain ⟨hn, h1, h2, u, cost, hu, hf, hc⟩ := h
  unfold checkCircle
  rw [if_neg (by simpa using he), Int.toNat_natCast, show within 1 60 [(C.length : Int)] = true by simp [within]; omega, if_pos rfl, (named_of (good_whole he)).2 hn, if_pos rfl]
  have : start (whole T rs) C = u := hu
  rw [this, hf]
  simp
  omega
/-- If some speeds keep all rules, no names are a circle. -/
theorem no_circ {T : Nat} {rs : List R} (he : chk T rs = 0) (hs : Some_ T rs) (ks : List Int) : checkCircle T rs ks ≠ 0 := by
  intro h
  obtain ⟨q, hq⟩ := hs
  unfold checkCircle at h
  rw [if_neg (by simpa using he), Int.toNat_natCast] at h
  obtain ⟨fa, fb, fc, hfe⟩ : ∃ a b c, follow (whole T rs) (start (whole T rs) ks) 0 ks = (a, b, c) := ⟨_, _, _, rfl⟩
  rw [hfe] at h
  split at h
  · split at h
    · split at h
      · rename_i hf
        obtain ⟨hf1, hf2⟩ := hf
        dsimp only at hf1 hf2
        subst hf1 hf2
        split at h
        · simp at h
        · rename_i hc
          have := follow_tel hq ks _ 0 _ _ hfe
          dsimp only at hc
          omega
      · simp at h
    · simp at h
  · simp at h
/-- A given way costs no less than the table says. -/
theorem way_least {T : Nat} {rs : List R} (he : chk T rs = 0) (hs : Some_ T rs) {x y : Nat} (hx : x ≤ T) (hy : y ≤ T) {ks : List Int} {m : Int} (h : checkWay T rs x y ks = (m, 0)) : farM T rs x y ≤ m := by
  unfold checkWay at h
  rw [if_neg (by simpa using he), Int.toNat_natCast] at h
  obtain ⟨fa, fb, fc, hfe⟩ : ∃ a b c, follow (whole T rs) x 0 ks = (a, b, c) := ⟨_, _, _, rfl⟩
  rw [hfe] at h
  split at h
  · split at h
    · simp at h
    · split at h
      · split at h
        · rename_i hf
          obtain ⟨hf1, hf2⟩ := hf
          dsimp only at hf1 hf2
          subst hf1 hf2
          obtain ⟨g1, g2, g3, g4, g5⟩ := far_facts he hs
          have := follow_tel (g4 x hx) ks x 0 _ _ hfe
          simp at h this
          rw [h, g1 x hx] at this
          omega
        · simp at h
      · simp at h
  · simp at h
/-- The way that is returned, by the check. -/
theorem way_check {T : Nat} {rs : List R} (he : chk T rs = 0) {x y : Nat} (hx : x ≤ T) (hy : y ≤ T) {W : List Int} {c : Int} (hf : follow (whole T rs) x 0 W = ((y : Int), c, true)) (hn : ∀ k ∈ W, 0 ≤ k ∧ k < ((whole T rs).length : Int)) (hl : W.length ≤ 22) : checkWay T rs x y W = (c, 0) := by
  unfold checkWay
  rw [if_neg (by simpa using he), Int.toNat_natCast, show within 0 (T : Int) [(x : Int), (y : Int)] = true by simp [within]; omega, if_pos rfl, if_neg (by omega), (named_of (good_whole he)).2 hn, if_pos rfl, hf]
  simp
end Go.Proofs.Ytiankphkemakeaa
