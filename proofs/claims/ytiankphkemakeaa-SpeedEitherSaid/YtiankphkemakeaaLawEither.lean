/- The walk of SpeedEither. -/
import Derived.Test.YtiankphkemakeaaRWay
import Derived.Test.YtiankphkemakeaaFuncE
namespace Go.Proofs.Ytiankphkemakeaa
set_option linter.unusedSimpArgs false
set_option linter.unusedVariables false
open Go.RowKit Go.Shelf

/-- The ends are true speeds. -/
theorem ends_true {T : Nat} {rs : List R} (he : chk T rs = 0) (hs : Some_ T rs) (high : Bool) : checkSpeeds T rs (endsR T rs high).1 = 0 := by
  obtain ⟨g1, g2, g3, g4, g5⟩ := far_facts he hs
  rw [endsR_far he hs]
  refine (checkSpeeds_iff he _).2 ⟨by simp, fun r hr => ?_⟩
  have f := (good_whole he).fit r hr
  have hq : ∀ v, v ≤ T → qOf ((List.range T).map fun i => endM T rs high (i + 1)) v = endM T rs high v := fun v hv => by
    cases v with
    | zero => unfold endM; rw [g1 0 (by omega)]; cases high <;> rfl
    | succ v => simp [qOf, nth, List.getD, show v < T by omega]
  show qOf ((List.range T).map fun i => endM T rs high (i + 1)) r.t.toNat ≤ qOf ((List.range T).map fun i => endM T rs high (i + 1)) r.f.toNat + r.m
  rw [hq _ (by omega), hq _ (by omega)]
  cases high
  · have a1 := g3 r.f.toNat r.t.toNat 0 (by omega) (by omega) (by omega)
    have a2 := g4 r.f.toNat (by omega) r hr
    rw [g1 _ (by omega)] at a2
    show -(farM T rs r.t.toNat 0) ≤ -(farM T rs r.f.toNat 0) + r.m
    omega
  · exact g4 0 (by omega) r hr
theorem speeds_clash {T : Nat} {rs : List R} (he : chk T rs = 0) (hs : ¬ Some_ T rs) (vs : List Int) : checkSpeeds T rs vs ≠ 0 := fun h => hs ⟨_, ((checkSpeeds_iff he vs).1 h).2⟩
theorem endsR_len (T : Int) (rs : List R) (high : Bool) : (endsR T rs high).1.length ≤ 20 := by
  unfold endsR
  by_cases he : chk T rs = 0
  · rw [if_neg (by simpa using he)]
    have := chk_ok he
    split
    · simp; omega
    · simp
  · rw [if_pos he]; simp

set_option maxRecDepth 100000 in
set_option maxHeartbeats 4000000 in
theorem either8_big (HW : Hid WorksOk) (T : Int) (A C D : Option Addr) (n cap m capm k capk : Nat) (rs : List R) (zs ks : List Int) (w : World) (h : Rules w A n rs) (hz : Ints w C m zs) (hk : Ints w D k ks) (hn : n ≤ maxLen) (hm : m ≤ maxLen) (hkm : k ≤ maxLen) (hbig : 70 < n ∨ chk T rs ≠ 0 ∨ 40 < m ∨ 60 < k) :
    Calls Try.prog 8 #[.agg #[.int .i64 T, .slice A n cap], .slice C m capm, .slice D k capk] w fun e w' => e = .returned (.bool true) ∧ Below w.heap.size w w' := by
  have X := Bx.new (T := T) (cap := cap) h
  have Z := Lib.hid (hz.below (below_alloc_ w (.cells #[.int .i64 T, .slice A n cap] 24)) (Nat.le_refl _))
  have K := Lib.hid (hk.below (below_alloc_ w (.cells #[.int .i64 T, .slice A n cap] 24)) (Nat.le_refl _))
  have Hn := Lib.hid hn
  clear h hz hk hn
  unfold maxLen at hm hkm
  go_enter Try.func8, Try.ntmps8
  go_wp2_with fail
  refine (great14 T A n cap _ Hn.out).mono ?_
  rintro e w' ⟨rfl, rfl⟩
  have hb := below_alloc_ (w.alloc (.cells #[.int .i64 T, .slice A n cap] 24)) (.cells #[.int .i64 T, .slice A n cap] 24)
  have X' := X.next hb
  clear X
  have X := X'
  clear X'
  have Z' := Lib.hid (Z.out.below hb (Nat.le_refl _))
  clear Z
  have Z := Z'
  clear Z'
  have K' := Lib.hid (K.out.below hb (Nat.le_refl _))
  clear K
  have K := K'
  clear K'
  obtain ⟨B, hB⟩ : ∃ B, w.heap.size = B := ⟨_, rfl⟩
  obtain ⟨W1, hW1⟩ : ∃ W1, (w.alloc (.cells #[.int .i64 T, .slice A n cap] 24)).alloc (.cells #[.int .i64 T, .slice A n cap] 24) = W1 := ⟨_, rfl⟩
  rw [hW1] at X Z K ⊢
  rw [hB] at X ⊢
  clear hW1 hB hb
  by_cases h70 : 70 < n
  · rw [decide_eq_true h70]
    clear hbig h70
    have c0 := X.c0
    have c1 := X.c1
    have hlt := X.hi
    go_wp2_with fail
    clear hlt
    refine (HW.out _).mono ?_
    rintro e w' ⟨rfl, hb⟩
    have X' := X.next hb
    clear X
    have X := X'
    clear X'
    clear hb c0 c1
    go_wp2_with fail
    go_ret
    exact ⟨rfl, X.below⟩
  · rw [decide_eq_false h70]
    have hnn : n ≤ 140737488355328 := by omega
    have c0 := X.c0
    have c1 := X.c1
    have hlt := X.hi
    go_wp2_with fail
    clear hlt
    refine (checkSheet19 A n cap rs T _ X.rules hnn).mono ?_
    rintro e w' ⟨rfl, hb⟩
    have X' := X.next hb
    clear X
    have X := X'
    clear X'
    have Z' := Lib.hid (Z.out.below hb (Nat.le_refl _))
    clear Z
    have Z := Z'
    clear Z'
    have K' := Lib.hid (K.out.below hb (Nat.le_refl _))
    clear K
    have K := K'
    clear K'
    clear hb c0 c1
    by_cases he : chk T rs = 0
    · have hbig2 : 40 < m ∨ 60 < k := by rcases hbig with h | h | h; exact absurd h h70; exact absurd he h; exact h
      rw [he]
      clear hbig
      by_cases h40 : 40 < m
      · have d1 : decide ((40 : Int) < (m : Int)) = true := decide_eq_true (by omega)
        clear hbig2 h40 he
        have c0 := X.c0
        have c1 := X.c1
        have hlt := X.hi
        go_wp2_with fail
        clear hlt
        refine (HW.out _).mono ?_
        rintro e w' ⟨rfl, hb⟩
        have X' := X.next hb
        clear X
        have X := X'
        clear X'
        clear hb c0 c1
        go_wp2_with fail
        go_ret
        exact ⟨rfl, X.below⟩
      · have d1 : decide ((40 : Int) < (m : Int)) = false := decide_eq_false (by omega)
        have d2 : decide ((60 : Int) < (k : Int)) = true := decide_eq_true (by omega)
        clear hbig2 h40 he
        have c0 := X.c0
        have c1 := X.c1
        have hlt := X.hi
        go_wp2_with fail
        clear hlt
        refine (HW.out _).mono ?_
        rintro e w' ⟨rfl, hb⟩
        have X' := X.next hb
        clear X
        have X := X'
        clear X'
        clear hb c0 c1
        go_wp2_with fail
        go_ret
        exact ⟨rfl, X.below⟩
    · have he2 : (chk T rs != 0) = true := by rw [bne_iff_ne]; exact he
      clear hbig he h70
      have c0 := X.c0
      have c1 := X.c1
      have hlt := X.hi
      go_wp2_with fail
      clear hlt
      refine (HW.out _).mono ?_
      rintro e w' ⟨rfl, hb⟩
      have X' := X.next hb
      clear X
      have X := X'
      clear X'
      clear hb c0 c1
      go_wp2_with fail
      go_ret
      exact ⟨rfl, X.below⟩

set_option maxRecDepth 100000 in
set_option maxHeartbeats 4000000 in
theorem either8_small (HW : Hid WorksOk) (T : Int) (A C D : Option Addr) (n cap m capm k capk : Nat) (rs : List R) (zs ks : List Int) (w : World) (h : Rules w A n rs) (hz : Ints w C m zs) (hk : Ints w D k ks) (hn : n ≤ 70) (he : chk T rs = 0) (hm : m ≤ 40) (hkm : k ≤ 60) :
    Calls Try.prog 8 #[.agg #[.int .i64 T, .slice A n cap], .slice C m capm, .slice D k capk] w fun e w' => e = .returned (.bool true) ∧ Below w.heap.size w w' := by
  have d1 : decide ((40 : Int) < (m : Int)) = false := decide_eq_false (by omega)
  have d2 : decide ((60 : Int) < (k : Int)) = false := decide_eq_false (by omega)
  have X := Bx.new (T := T) (cap := cap) h
  have Z := Lib.hid (hz.below (below_alloc_ w (.cells #[.int .i64 T, .slice A n cap] 24)) (Nat.le_refl _))
  have K := Lib.hid (hk.below (below_alloc_ w (.cells #[.int .i64 T, .slice A n cap] 24)) (Nat.le_refl _))
  have Hn := Lib.hid (show n ≤ maxLen by unfold maxLen; omega)
  clear h hz hk
  go_enter Try.func8, Try.ntmps8
  go_wp2_with fail
  refine (great14 T A n cap _ Hn.out).mono ?_
  rintro e w' ⟨rfl, rfl⟩
  have hb := below_alloc_ (w.alloc (.cells #[.int .i64 T, .slice A n cap] 24)) (.cells #[.int .i64 T, .slice A n cap] 24)
  have X' := X.next hb
  clear X
  have X := X'
  clear X'
  have Z' := Lib.hid (Z.out.below hb (Nat.le_refl _))
  clear Z
  have Z := Z'
  clear Z'
  have K' := Lib.hid (K.out.below hb (Nat.le_refl _))
  clear K
  have K := K'
  clear K'
  obtain ⟨B, hB⟩ : ∃ B, w.heap.size = B := ⟨_, rfl⟩
  obtain ⟨W1, hW1⟩ : ∃ W1, (w.alloc (.cells #[.int .i64 T, .slice A n cap] 24)).alloc (.cells #[.int .i64 T, .slice A n cap] 24) = W1 := ⟨_, rfl⟩
  rw [hW1] at X Z K ⊢
  rw [hB] at X ⊢
  clear hW1 hB hb
  rw [decide_eq_false (by omega)]
  have c0 := X.c0
  have c1 := X.c1
  have hlt := X.hi
  go_wp2_with fail
  clear hlt
  refine (checkSheet19 A n cap rs T _ X.rules (by omega)).mono ?_
  rintro e w' ⟨rfl, hb⟩
  have X' := X.next hb
  clear X
  have X := X'
  clear X'
  have Z' := Lib.hid (Z.out.below hb (Nat.le_refl _))
  clear Z
  have Z := Z'
  clear Z'
  have K' := Lib.hid (K.out.below hb (Nat.le_refl _))
  clear K
  have K := K'
  clear K'
  clear hb c0 c1
  rw [he]
  have c0 := X.c0
  have c1 := X.c1
  have hlt := X.hi
  go_wp2_with fail
  clear hlt
  obtain ⟨hl60, hT1, hT20, hall⟩ := chk_ok he
  have He := Lib.hid he
  clear he hall hl60
  obtain ⟨T, rfl⟩ := Int.eq_ofNat_of_zero_le (show 0 ≤ T by omega)
  by_cases hs : Some_ T rs
  · have Hs_ := Lib.hid hs
    clear hs
    refine (circle27 A n cap T rs _ X.rules (by omega)).mono ?_
    rintro e w' ⟨C5, k5, q5, rfl, _, hb⟩
    have X' := X.next hb
    clear X
    have X := X'
    clear X'
    have Z' := Lib.hid (Z.out.below hb (Nat.le_refl _))
    clear Z
    have Z := Z'
    clear Z'
    have K' := Lib.hid (K.out.below hb (Nat.le_refl _))
    clear K
    have K := K'
    clear K'
    clear hb c0 c1
    rw [circleR_some He.out Hs_.out]
    have c0 := X.c0
    have c1 := X.c1
    have hlt := X.hi
    go_wp2_with fail
    clear hlt
    refine (ends31 A n cap T false rs _ X.rules (by omega)).mono ?_
    rintro e w' ⟨C6, k6, q6, rfl, hi6, hb⟩
    have X' := X.next hb
    clear X
    have X := X'
    clear X'
    have Z' := Lib.hid (Z.out.below hb (Nat.le_refl _))
    clear Z
    have Z := Z'
    clear Z'
    have K' := Lib.hid (K.out.below hb (Nat.le_refl _))
    clear K
    have K := K'
    clear K'
    clear hb c0 c1
    have he6 : (endsR T rs false).2 = 0 := by rw [endsR_far He.out Hs_.out]
    rw [he6]
    clear he6
    have E6 := Lib.hid hi6
    clear hi6
    have hk6 : k6 ≤ 20 := by rw [← E6.out.1]; exact endsR_len T rs false
    have c0 := X.c0
    have c1 := X.c1
    have hlt := X.hi
    go_wp2_with fail
    clear hlt
    refine (checkSpeeds22 A C6 n cap k6 _ T rs (endsR T rs false).1 _ X.rules E6.out (by omega) (by omega)).mono ?_
    rintro e w' ⟨rfl, hb⟩
    have X' := X.next hb
    clear X
    have X := X'
    clear X'
    have Z' := Lib.hid (Z.out.below hb (Nat.le_refl _))
    clear Z
    have Z := Z'
    clear Z'
    have K' := Lib.hid (K.out.below hb (Nat.le_refl _))
    clear K
    have K := K'
    clear K'
    clear hb c0 c1
    rw [ends_true He.out Hs_.out]
    have c0 := X.c0
    have c1 := X.c1
    have hlt := X.hi
    go_wp2_with fail
    clear hlt
    refine (checkCircle25 A D n cap k capk T rs ks _ X.rules K.out (by omega) (by omega)).mono ?_
    rintro e w' ⟨rfl, hb⟩
    have X' := X.next hb
    clear X
    have X := X'
    clear X'
    clear hb c0 c1
    have hcc : (checkCircle T rs ks != 0) = true := by rw [bne_iff_ne]; exact no_circ He.out Hs_.out ks
    have c0 := X.c0
    have c1 := X.c1
    have hlt := X.hi
    go_wp2_with fail
    clear hlt
    refine (HW.out _).mono ?_
    rintro e w' ⟨rfl, hb⟩
    have X' := X.next hb
    clear X
    have X := X'
    clear X'
    clear hb c0 c1
    go_wp2_with fail
    go_ret
    exact ⟨rfl, X.below⟩
  · have Hs_ := Lib.hid hs
    obtain ⟨cc, hcc1, hcc2⟩ := circleR_none He.out hs
    have Hc1 := Lib.hid hcc1
    have Hc2 := Lib.hid (isCirc_check He.out hcc2)
    have hcl : cc.length ≤ 22 := hcc2.2.2.1
    clear hs hcc1 hcc2
    refine (circle27 A n cap T rs _ X.rules (by omega)).mono ?_
    rintro e w' ⟨C5, k5, q5, rfl, hi5, hb⟩
    have X' := X.next hb
    clear X
    have X := X'
    clear X'
    have Z' := Lib.hid (Z.out.below hb (Nat.le_refl _))
    clear Z
    have Z := Z'
    clear Z'
    have K' := Lib.hid (K.out.below hb (Nat.le_refl _))
    clear K
    have K := K'
    clear K'
    clear hb c0 c1
    rw [Hc1.out] at hi5 ⊢
    have I5 := Lib.hid hi5
    clear hi5
    have hk5 : k5 ≤ 22 := by rw [← I5.out.1]; exact hcl
    have c0 := X.c0
    have c1 := X.c1
    have hlt := X.hi
    go_wp2_with fail
    clear hlt
    refine (ends31 A n cap T false rs _ X.rules (by omega)).mono ?_
    rintro e w' ⟨C6, k6, q6, rfl, hi6, hb⟩
    have X' := X.next hb
    clear X
    have X := X'
    clear X'
    have Z' := Lib.hid (Z.out.below hb (Nat.le_refl _))
    clear Z
    have Z := Z'
    clear Z'
    have K' := Lib.hid (K.out.below hb (Nat.le_refl _))
    clear K
    have K := K'
    clear K'
    have I5' := Lib.hid (I5.out.below hb (Nat.le_refl _))
    clear I5
    have I5 := I5'
    clear I5'
    clear hb c0 c1
    rw [endsR_clash He.out Hs_.out] at hi6 ⊢
    obtain rfl : 0 = k6 := hi6.1
    clear hi6
    have c0 := X.c0
    have c1 := X.c1
    have hlt := X.hi
    go_wp2_with fail
    clear hlt
    refine (checkCircle25 A C5 n cap k5 _ T rs cc _ X.rules I5.out (by omega) (by omega)).mono ?_
    rintro e w' ⟨rfl, hb⟩
    have X' := X.next hb
    clear X
    have X := X'
    clear X'
    have Z' := Lib.hid (Z.out.below hb (Nat.le_refl _))
    clear Z
    have Z := Z'
    clear Z'
    have K' := Lib.hid (K.out.below hb (Nat.le_refl _))
    clear K
    have K := K'
    clear K'
    have I5' := Lib.hid (I5.out.below hb (Nat.le_refl _))
    clear I5
    have I5 := I5'
    clear I5'
    clear hb c0 c1
    rw [Hc2.out]
    have c0 := X.c0
    have c1 := X.c1
    have hlt := X.hi
    go_wp2_with fail
    clear hlt
    refine (checkCircle26 A C5 n cap k5 _ T rs cc _ X.rules I5.out (by omega) (by omega)).mono ?_
    rintro e w' ⟨rfl, hb⟩
    have X' := X.next hb
    clear X
    have X := X'
    clear X'
    have Z' := Lib.hid (Z.out.below hb (Nat.le_refl _))
    clear Z
    have Z := Z'
    clear Z'
    have K' := Lib.hid (K.out.below hb (Nat.le_refl _))
    clear K
    have K := K'
    clear K'
    clear hb c0 c1
    rw [← checkCircle_same, Hc2.out]
    have c0 := X.c0
    have c1 := X.c1
    have hlt := X.hi
    go_wp2_with fail
    clear hlt
    refine (checkSpeeds21 A C n cap m capm T rs zs _ X.rules Z.out (by omega) (by omega)).mono ?_
    rintro e w' ⟨rfl, hb⟩
    have X' := X.next hb
    clear X
    have X := X'
    clear X'
    clear hb c0 c1
    have hss : (checkSpeeds T rs zs != 0) = true := by rw [bne_iff_ne]; exact speeds_clash He.out Hs_.out zs
    have c0 := X.c0
    have c1 := X.c1
    have hlt := X.hi
    go_wp2_with fail
    clear hlt
    refine (HW.out _).mono ?_
    rintro e w' ⟨rfl, hb⟩
    have X' := X.next hb
    clear X
    have X := X'
    clear X'
    clear hb c0 c1
    go_wp2_with fail
    go_ret
    exact ⟨rfl, X.below⟩

theorem speedEither8 (HW : Hid WorksOk) (T : Int) (A C D : Option Addr) (n cap m capm k capk : Nat) (rs : List R) (zs ks : List Int) (w : World) (h : Rules w A n rs) (hz : Ints w C m zs) (hk : Ints w D k ks) (hn : n ≤ maxLen) (hm : m ≤ maxLen) (hkm : k ≤ maxLen) :
    Calls Try.prog 8 #[.agg #[.int .i64 T, .slice A n cap], .slice C m capm, .slice D k capk] w fun e w' => e = .returned (.bool true) ∧ Below w.heap.size w w' := by
  by_cases hb : 70 < n ∨ chk T rs ≠ 0 ∨ 40 < m ∨ 60 < k
  · exact either8_big HW T A C D n cap m capm k capk rs zs ks w h hz hk hn hm hkm hb
  · have he : chk T rs = 0 := Classical.byContradiction fun h => hb (.inr (.inl h))
    exact either8_small HW T A C D n cap m capm k capk rs zs ks w h hz hk (by omega) he (by omega) (by omega)
end Go.Proofs.Ytiankphkemakeaa
