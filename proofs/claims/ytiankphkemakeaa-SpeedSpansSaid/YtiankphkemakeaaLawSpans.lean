/- The walk of SpeedSpans. -/
import Derived.Test.YtiankphkemakeaaRCost
namespace Go.Proofs.Ytiankphkemakeaa
set_option linter.unusedSimpArgs false
set_option linter.unusedVariables false
open Go.RowKit Go.Shelf

theorem endsR_len (T : Int) (rs : List R) (high : Bool) : (endsR T rs high).1.length ≤ 20 := by
  unfold endsR
  by_cases he : chk T rs = 0
  · rw [if_neg (by simpa using he)]
    have := chk_ok he
    split
    · simp; omega
    · simp
  · rw [if_pos he]; simp
/-- What a way that is returned is. -/
theorem way_cases {T x y : Int} {rs : List R} {wy : List Int} {nn e : Int} (h : wayR T rs x y = (wy, nn, e)) : (e = 0 → checkWay T rs x y wy = (nn, 0) ∧ wy.length ≤ 22) ∧ (e ≠ 0 → wy = []) := by
  by_cases he : chk T rs = 0
  · obtain ⟨_, hT1, _, _⟩ := chk_ok he
    obtain ⟨T, rfl⟩ := Int.eq_ofNat_of_zero_le (show 0 ≤ T by omega)
    by_cases hxy : x < 0 ∨ T < x ∨ y < 0 ∨ T < y
    · rw [wayR_arg he hxy] at h
      simp only [Prod.mk.injEq] at h
      obtain ⟨rfl, rfl, rfl⟩ := h
      exact ⟨fun h => by simp at h, fun _ => rfl⟩
    · obtain ⟨x, rfl⟩ := Int.eq_ofNat_of_zero_le (show 0 ≤ x by omega)
      obtain ⟨y, rfl⟩ := Int.eq_ofNat_of_zero_le (show 0 ≤ y by omega)
      by_cases hs : Some_ T rs
      · obtain ⟨W, h1, h2, h3, h4⟩ := wayR_far he hs (x := x) (y := y) (by omega) (by omega)
        rw [h1] at h
        simp only [Prod.mk.injEq] at h
        obtain ⟨rfl, rfl, rfl⟩ := h
        exact ⟨fun _ => ⟨way_check he (by omega) (by omega) h2 h3 h4, h4⟩, fun h => absurd rfl h⟩
      · rw [wayR_clash he hs (by omega) (by omega)] at h
        simp only [Prod.mk.injEq] at h
        obtain ⟨rfl, rfl, rfl⟩ := h
        exact ⟨fun h => by simp at h, fun _ => rfl⟩
  · have : wayR T rs x y = ([], 0, chk T rs) := by unfold wayR; rw [if_pos he]
    rw [this] at h
    simp only [Prod.mk.injEq] at h
    obtain ⟨rfl, rfl, rfl⟩ := h
    exact ⟨fun h => absurd h he, fun _ => rfl⟩

set_option maxRecDepth 100000 in
set_option maxHeartbeats 4000000 in
theorem spans5_big (HW : Hid WorksOk) (T t y hd : Int) (high : Bool) (A : Option Addr) (n cap : Nat) (rs : List R) (w : World) (h : Rules w A n rs) (hn : n ≤ maxLen) (h70 : 70 < n) :
    Calls Try.prog 5 #[.agg #[.int .i64 T, .slice A n cap], .int .i64 t, .int .i64 y, .bool high, .int .i64 hd] w fun e w' => e = .returned (.bool true) ∧ Below w.heap.size w w' := by
  have X := Bx.new (T := T) (cap := cap) h
  have Hn := Lib.hid hn
  clear h hn
  go_enter Try.func5, Try.ntmps5
  go_wp2_with fail
  refine (great14 T A n cap _ Hn.out).mono ?_
  rintro e w' ⟨rfl, rfl⟩
  have hb := below_alloc_ (w.alloc (.cells #[.int .i64 T, .slice A n cap] 24)) (.cells #[.int .i64 T, .slice A n cap] 24)
  have X' := X.next hb
  clear X
  have X := X'
  clear X'
  obtain ⟨B, hB⟩ : ∃ B, w.heap.size = B := ⟨_, rfl⟩
  obtain ⟨W1, hW1⟩ : ∃ W1, (w.alloc (.cells #[.int .i64 T, .slice A n cap] 24)).alloc (.cells #[.int .i64 T, .slice A n cap] 24) = W1 := ⟨_, rfl⟩
  rw [hW1] at X ⊢
  rw [hB] at X ⊢
  clear hW1 hB hb
  rw [decide_eq_true h70]
  clear h70
  have c0 := X.c0
  have c1 := X.c1
  have hlt := X.hi
  go_wp2_with fail
  clear hlt
  refine (HW.out _).mono ?_
  rintro e w' ⟨rfl, hb⟩
  have X' := X.next hb
  clear X
  have X := X'
  clear X'
  clear hb c0 c1
  go_wp2_with fail
  go_ret
  exact ⟨rfl, X.below⟩

set_option maxRecDepth 100000 in
set_option maxHeartbeats 4000000 in
theorem spans5_small (HW : Hid WorksOk) (T t y hd : Int) (high : Bool) (A : Option Addr) (n cap : Nat) (rs : List R) (w : World) (h : Rules w A n rs) (hn : n ≤ 70) :
    Calls Try.prog 5 #[.agg #[.int .i64 T, .slice A n cap], .int .i64 t, .int .i64 y, .bool high, .int .i64 hd] w fun e w' => e = .returned (.bool true) ∧ Below w.heap.size w w' := by
  have X := Bx.new (T := T) (cap := cap) h
  have Hn := Lib.hid (show n ≤ maxLen by unfold maxLen; omega)
  clear h
  go_enter Try.func5, Try.ntmps5
  go_wp2_with fail
  refine (great14 T A n cap _ Hn.out).mono ?_
  rintro e w' ⟨rfl, rfl⟩
  have hb := below_alloc_ (w.alloc (.cells #[.int .i64 T, .slice A n cap] 24)) (.cells #[.int .i64 T, .slice A n cap] 24)
  have X' := X.next hb
  clear X
  have X := X'
  clear X'
  obtain ⟨B, hB⟩ : ∃ B, w.heap.size = B := ⟨_, rfl⟩
  obtain ⟨W1, hW1⟩ : ∃ W1, (w.alloc (.cells #[.int .i64 T, .slice A n cap] 24)).alloc (.cells #[.int .i64 T, .slice A n cap] 24) = W1 := ⟨_, rfl⟩
  rw [hW1] at X ⊢
  rw [hB] at X ⊢
  clear hW1 hB hb
  rw [decide_eq_false (by omega)]
  have c0 := X.c0
  have c1 := X.c1
  have hlt := X.hi
  go_wp2_with fail
  clear hlt
  refine (span29 A n cap T t rs _ X.rules (by omega)).mono ?_
  rintro e w' ⟨rfl, hb⟩
  have X' := X.next hb
  clear X
  have X := X'
  clear X'
  clear hb c0 c1
  obtain ⟨lo, hi, e1, hs1⟩ : ∃ lo hi e1, spanR T rs t = (lo, hi, e1) := ⟨_, _, _, rfl⟩
  have Hs1 := Lib.hid hs1
  rw [hs1]
  clear hs1
  dsimp only
  have c0 := X.c0
  have c1 := X.c1
  have hlt := X.hi
  go_wp2_with fail
  clear hlt
  have hb := below_alloc_ w' (.cells #[.int .i64 lo, .int .i64 hi] 43)
  have X' := X.next hb
  clear X
  have X := X'
  clear X'
  have Q1 := Lib.hid (Rb.mk (heap_last (W := w') (o := .cells #[.int .i64 lo, .int .i64 hi] 43) rfl))
  clear hb c0 c1
  obtain ⟨V1, hV1⟩ : ∃ V, w'.alloc (.cells #[.int .i64 lo, .int .i64 hi] 43) = V := ⟨_, rfl⟩
  rw [hV1] at X Q1 ⊢
  obtain ⟨q1, hq1⟩ : ∃ q, w'.heap.size = q := ⟨_, rfl⟩
  rw [hq1] at Q1 ⊢
  clear hV1 hq1
  have c0 := X.c0
  have c1 := X.c1
  refine (span30 A n cap T t rs _ X.rules (by omega)).mono ?_
  rintro e w' ⟨rfl, hb⟩
  have X' := X.next hb
  clear X
  have X := X'
  clear X'
  have Q1' := Lib.hid (Rb.next hb Q1.out)
  clear Q1
  have Q1 := Q1'
  clear Q1'
  clear hb c0 c1
  rw [Hs1.out]
  dsimp only
  have c0 := X.c0
  have c1 := X.c1
  have hlt := X.hi
  go_wp2_with fail
  clear hlt
  have hb := below_alloc_ w' (.cells #[.int .i64 lo, .int .i64 hi] 43)
  have X' := X.next hb
  clear X
  have X := X'
  clear X'
  have Q1' := Lib.hid (Rb.next hb Q1.out)
  clear Q1
  have Q1 := Q1'
  clear Q1'
  have Q2 := Lib.hid (Rb.mk (heap_last (W := w') (o := .cells #[.int .i64 lo, .int .i64 hi] 43) rfl))
  clear hb c0 c1
  obtain ⟨V2, hV2⟩ : ∃ V, w'.alloc (.cells #[.int .i64 lo, .int .i64 hi] 43) = V := ⟨_, rfl⟩
  rw [hV2] at X Q1 Q2 ⊢
  obtain ⟨q2, hq2⟩ : ∃ q, w'.heap.size = q := ⟨_, rfl⟩
  rw [hq2] at Q2 ⊢
  clear hV2 hq2
  have c0 := X.c0
  have c1 := X.c1
  refine (ends31 A n cap T high rs _ X.rules (by omega)).mono ?_
  rintro e w' ⟨C3, k3, r3, rfl, hi3, hb⟩
  have X' := X.next hb
  clear X
  have X := X'
  clear X'
  have Q1' := Lib.hid (Rb.next hb Q1.out)
  clear Q1
  have Q1 := Q1'
  clear Q1'
  have Q2' := Lib.hid (Rb.next hb Q2.out)
  clear Q2
  have Q2 := Q2'
  clear Q2'
  clear hb c0 c1
  obtain ⟨e3, he3⟩ : ∃ e3, (endsR T rs high).2 = e3 := ⟨_, rfl⟩
  have He3 := Lib.hid he3
  rw [he3]
  clear he3
  have I3 := Lib.hid hi3
  clear hi3
  have c0 := X.c0
  have c1 := X.c1
  have hlt := X.hi
  go_wp2_with fail
  clear hlt
  refine (ends32 A n cap T high rs _ X.rules (by omega)).mono ?_
  rintro e w' ⟨C4, k4, r4, rfl, hi4, hb⟩
  have X' := X.next hb
  clear X
  have X := X'
  clear X'
  have Q1' := Lib.hid (Rb.next hb Q1.out)
  clear Q1
  have Q1 := Q1'
  clear Q1'
  have Q2' := Lib.hid (Rb.next hb Q2.out)
  clear Q2
  have Q2 := Q2'
  clear Q2'
  have I3' := Lib.hid (I3.out.below hb (Nat.le_refl _))
  clear I3
  have I3 := I3'
  clear I3'
  clear hb c0 c1
  rw [He3.out]
  have I4 := Lib.hid hi4
  clear hi4
  have c0 := X.c0
  have c1 := X.c1
  have hlt := X.hi
  go_wp2_with fail
  clear hlt
  refine (sung33 A n cap T t hd rs _ X.rules (by omega)).mono ?_
  rintro e w' ⟨rfl, hb⟩
  have X' := X.next hb
  clear X
  have X := X'
  clear X'
  have Q1' := Lib.hid (Rb.next hb Q1.out)
  clear Q1
  have Q1 := Q1'
  clear Q1'
  have Q2' := Lib.hid (Rb.next hb Q2.out)
  clear Q2
  have Q2 := Q2'
  clear Q2'
  have I3' := Lib.hid (I3.out.below hb (Nat.le_refl _))
  clear I3
  have I3 := I3'
  clear I3'
  have I4' := Lib.hid (I4.out.below hb (Nat.le_refl _))
  clear I4
  have I4 := I4'
  clear I4'
  clear hb c0 c1
  obtain ⟨slo, shi, e5, hs5⟩ : ∃ lo hi e1, sungR T rs t hd = (lo, hi, e1) := ⟨_, _, _, rfl⟩
  have Hs5 := Lib.hid hs5
  rw [hs5]
  clear hs5
  dsimp only
  have c0 := X.c0
  have c1 := X.c1
  have hlt := X.hi
  go_wp2_with fail
  clear hlt
  have hb := below_alloc_ w' (.cells #[.int .i64 slo, .int .i64 shi] 43)
  have X' := X.next hb
  clear X
  have X := X'
  clear X'
  have Q1' := Lib.hid (Rb.next hb Q1.out)
  clear Q1
  have Q1 := Q1'
  clear Q1'
  have Q2' := Lib.hid (Rb.next hb Q2.out)
  clear Q2
  have Q2 := Q2'
  clear Q2'
  have I3' := Lib.hid (I3.out.below hb (Nat.le_refl _))
  clear I3
  have I3 := I3'
  clear I3'
  have I4' := Lib.hid (I4.out.below hb (Nat.le_refl _))
  clear I4
  have I4 := I4'
  clear I4'
  have Q5 := Lib.hid (Rb.mk (heap_last (W := w') (o := .cells #[.int .i64 slo, .int .i64 shi] 43) rfl))
  clear hb c0 c1
  obtain ⟨V5, hV5⟩ : ∃ V, w'.alloc (.cells #[.int .i64 slo, .int .i64 shi] 43) = V := ⟨_, rfl⟩
  rw [hV5] at X Q1 Q2 I3 I4 Q5 ⊢
  obtain ⟨q5, hq5⟩ : ∃ q, w'.heap.size = q := ⟨_, rfl⟩
  rw [hq5] at Q5 ⊢
  clear hV5 hq5
  have c0 := X.c0
  have c1 := X.c1
  refine (sung34 A n cap T t hd rs _ X.rules (by omega)).mono ?_
  rintro e w' ⟨rfl, hb⟩
  have X' := X.next hb
  clear X
  have X := X'
  clear X'
  have Q1' := Lib.hid (Rb.next hb Q1.out)
  clear Q1
  have Q1 := Q1'
  clear Q1'
  have Q2' := Lib.hid (Rb.next hb Q2.out)
  clear Q2
  have Q2 := Q2'
  clear Q2'
  have I3' := Lib.hid (I3.out.below hb (Nat.le_refl _))
  clear I3
  have I3 := I3'
  clear I3'
  have I4' := Lib.hid (I4.out.below hb (Nat.le_refl _))
  clear I4
  have I4 := I4'
  clear I4'
  have Q5' := Lib.hid (Rb.next hb Q5.out)
  clear Q5
  have Q5 := Q5'
  clear Q5'
  clear hb c0 c1
  rw [Hs5.out]
  dsimp only
  have c0 := X.c0
  have c1 := X.c1
  have hlt := X.hi
  go_wp2_with fail
  clear hlt
  have hb := below_alloc_ w' (.cells #[.int .i64 slo, .int .i64 shi] 43)
  have X' := X.next hb
  clear X
  have X := X'
  clear X'
  have Q1' := Lib.hid (Rb.next hb Q1.out)
  clear Q1
  have Q1 := Q1'
  clear Q1'
  have Q2' := Lib.hid (Rb.next hb Q2.out)
  clear Q2
  have Q2 := Q2'
  clear Q2'
  have I3' := Lib.hid (I3.out.below hb (Nat.le_refl _))
  clear I3
  have I3 := I3'
  clear I3'
  have I4' := Lib.hid (I4.out.below hb (Nat.le_refl _))
  clear I4
  have I4 := I4'
  clear I4'
  have Q5' := Lib.hid (Rb.next hb Q5.out)
  clear Q5
  have Q5 := Q5'
  clear Q5'
  have Q6 := Lib.hid (Rb.mk (heap_last (W := w') (o := .cells #[.int .i64 slo, .int .i64 shi] 43) rfl))
  clear hb c0 c1
  obtain ⟨V6, hV6⟩ : ∃ V, w'.alloc (.cells #[.int .i64 slo, .int .i64 shi] 43) = V := ⟨_, rfl⟩
  rw [hV6] at X Q1 Q2 I3 I4 Q5 Q6 ⊢
  obtain ⟨q6, hq6⟩ : ∃ q, w'.heap.size = q := ⟨_, rfl⟩
  rw [hq6] at Q6 ⊢
  clear hV6 hq6
  have c0 := X.c0
  have c1 := X.c1
  refine (way35 A n cap T t y rs _ X.rules (by omega)).mono ?_
  rintro e w' ⟨C7, k7, r7, rfl, hi7, hb⟩
  have X' := X.next hb
  clear X
  have X := X'
  clear X'
  have Q1' := Lib.hid (Rb.next hb Q1.out)
  clear Q1
  have Q1 := Q1'
  clear Q1'
  have Q2' := Lib.hid (Rb.next hb Q2.out)
  clear Q2
  have Q2 := Q2'
  clear Q2'
  have I3' := Lib.hid (I3.out.below hb (Nat.le_refl _))
  clear I3
  have I3 := I3'
  clear I3'
  have I4' := Lib.hid (I4.out.below hb (Nat.le_refl _))
  clear I4
  have I4 := I4'
  clear I4'
  have Q5' := Lib.hid (Rb.next hb Q5.out)
  clear Q5
  have Q5 := Q5'
  clear Q5'
  have Q6' := Lib.hid (Rb.next hb Q6.out)
  clear Q6
  have Q6 := Q6'
  clear Q6'
  clear hb c0 c1
  obtain ⟨wy, nn, e7, hs7⟩ : ∃ a b c, wayR T rs t y = (a, b, c) := ⟨_, _, _, rfl⟩
  have Hs7 := Lib.hid hs7
  rw [hs7] at hi7 ⊢
  clear hs7
  dsimp only at hi7 ⊢
  have I7 := Lib.hid hi7
  clear hi7
  have c0 := X.c0
  have c1 := X.c1
  have hlt := X.hi
  go_wp2_with fail
  clear hlt
  refine (cost36 A n cap T t y rs _ X.rules (by omega)).mono ?_
  rintro e w' ⟨rfl, hb⟩
  have X' := X.next hb
  clear X
  have X := X'
  clear X'
  have Q1' := Lib.hid (Rb.next hb Q1.out)
  clear Q1
  have Q1 := Q1'
  clear Q1'
  have Q2' := Lib.hid (Rb.next hb Q2.out)
  clear Q2
  have Q2 := Q2'
  clear Q2'
  have I3' := Lib.hid (I3.out.below hb (Nat.le_refl _))
  clear I3
  have I3 := I3'
  clear I3'
  have I4' := Lib.hid (I4.out.below hb (Nat.le_refl _))
  clear I4
  have I4 := I4'
  clear I4'
  have Q5' := Lib.hid (Rb.next hb Q5.out)
  clear Q5
  have Q5 := Q5'
  clear Q5'
  have Q6' := Lib.hid (Rb.next hb Q6.out)
  clear Q6
  have Q6 := Q6'
  clear Q6'
  have I7' := Lib.hid (I7.out.below hb (Nat.le_refl _))
  clear I7
  have I7 := I7'
  clear I7'
  clear hb c0 c1
  rw [Hs7.out]
  dsimp only
  have hk3 : k3 ≤ 20 := by rw [← I3.out.1]; exact endsR_len T rs high
  have hk4 : k4 ≤ 20 := by rw [← I4.out.1]; exact endsR_len T rs high
  have a0 := Q1.out.c0
  have a1 := Q1.out.c1
  have b0 := Q2.out.c0
  have b1 := Q2.out.c1
  have c0 := X.c0
  have c1 := X.c1
  have hlt := X.hi
  go_wp2_with fail
  clear hlt
  refine (longs37 C3 C4 k3 _ k4 _ (endsR T rs high).1 (endsR T rs high).1 _ I3.out I4.out (by omega) (by omega)).mono ?_
  rintro e w' ⟨rfl, hb⟩
  have X' := X.next hb
  clear X
  have X := X'
  clear X'
  have Q1' := Lib.hid (Rb.next hb Q1.out)
  clear Q1
  have Q1 := Q1'
  clear Q1'
  have Q2' := Lib.hid (Rb.next hb Q2.out)
  clear Q2
  have Q2 := Q2'
  clear Q2'
  have I3' := Lib.hid (I3.out.below hb (Nat.le_refl _))
  clear I3
  have I3 := I3'
  clear I3'
  have I4' := Lib.hid (I4.out.below hb (Nat.le_refl _))
  clear I4
  have I4 := I4'
  clear I4'
  have Q5' := Lib.hid (Rb.next hb Q5.out)
  clear Q5
  have Q5 := Q5'
  clear Q5'
  have Q6' := Lib.hid (Rb.next hb Q6.out)
  clear Q6
  have Q6 := Q6'
  clear Q6'
  have I7' := Lib.hid (I7.out.below hb (Nat.le_refl _))
  clear I7
  have I7 := I7'
  clear I7'
  clear hb c0 c1 a0 a1 b0 b1
  rw [decide_eq_true rfl]
  have a0 := Q5.out.c0
  have a1 := Q5.out.c1
  have b0 := Q6.out.c0
  have b1 := Q6.out.c1
  have Hwc := way_cases (T := T) (rs := rs) (x := t) (y := y) Hs7.out
  have HWC := Lib.hid Hwc
  clear Hwc
  by_cases h7 : e7 = 0
  · have Hz := Lib.hid (HWC.out.1 h7)
    have hl7 : k7 ≤ 22 := by rw [← I7.out.1]; exact (HWC.out.1 h7).2
    subst h7
    have c0 := X.c0
    have c1 := X.c1
    have hlt := X.hi
    go_wp2_with fail
    clear hlt
    refine (checkWay24 A C7 n cap k7 _ T t y rs wy _ X.rules I7.out (by omega) (by omega)).mono ?_
    rintro e w' ⟨rfl, hb⟩
    have X' := X.next hb
    clear X
    have X := X'
    clear X'
    clear hb c0 c1 a0 a1 b0 b1
    rw [← checkWay_same, Hz.out.1]
    dsimp only
    have c0 := X.c0
    have c1 := X.c1
    have hlt := X.hi
    go_wp2_with fail
    clear hlt
    refine (HW.out _).mono ?_
    rintro e w' ⟨rfl, hb⟩
    have X' := X.next hb
    clear X
    have X := X'
    clear X'
    clear hb c0 c1
    go_wp2_with fail
    go_ret
    exact ⟨rfl, X.below⟩
  · have hwy : wy = [] := HWC.out.2 h7
    subst hwy
    obtain rfl : 0 = k7 := I7.out.1
    have h7d : (e7 != 0) = true := by rw [bne_iff_ne]; exact h7
    clear h7
    have c0 := X.c0
    have c1 := X.c1
    have hlt := X.hi
    go_wp2_with fail
    clear hlt
    refine (HW.out _).mono ?_
    rintro e w' ⟨rfl, hb⟩
    have X' := X.next hb
    clear X
    have X := X'
    clear X'
    clear hb c0 c1 a0 a1 b0 b1
    go_wp2_with fail
    go_ret
    exact ⟨rfl, X.below⟩

theorem speedSpans5 (HW : Hid WorksOk) (T t y hd : Int) (high : Bool) (A : Option Addr) (n cap : Nat) (rs : List R) (w : World) (h : Rules w A n rs) (hn : n ≤ maxLen) :
    Calls Try.prog 5 #[.agg #[.int .i64 T, .slice A n cap], .int .i64 t, .int .i64 y, .bool high, .int .i64 hd] w fun e w' => e = .returned (.bool true) ∧ Below w.heap.size w w' := by
  by_cases h70 : 70 < n
  · exact spans5_big HW T t y hd high A n cap rs w h hn h70
  · exact spans5_small HW T t y hd high A n cap rs w h (by omega)
end Go.Proofs.Ytiankphkemakeaa
