/- The walk of SpeedProofs. -/
import Derived.Test.YtiankphkemakeaaRWay
import Derived.Test.YtiankphkemakeaaClash
import Derived.Deep.RegionHeld3
namespace Go.Proofs.Ytiankphkemakeaa
set_option linter.unusedSimpArgs false
set_option linter.unusedVariables false
open Go.RowKit Go.Shelf

/-- What the test of SpeedProofs reads. -/
structure Pf (w : World) (B : Nat) (T : Int) (A D : Option Addr) (n cap k : Nat) (rs : List R) (ks : List Int) (W : World) : Prop where
  bx : Bx w B T A n cap rs W
  iz : Ints W D k ks
theorem Pf.next {w : World} {B : Nat} {T : Int} {A D : Option Addr} {n cap k : Nat} {rs : List R} {ks : List Int} {W W' : World} (hb : Below W.heap.size W W') (h : Pf w B T A D n cap k rs ks W) : Pf w B T A D n cap k rs ks W' :=
  ⟨h.bx.next hb, h.iz.below hb (Nat.le_refl _)⟩
theorem Pf.all {w : World} {B : Nat} {T : Int} {A D : Option Addr} {n cap k : Nat} {rs : List R} {ks : List Int} {W : World} (h : Pf w B T A D n cap k rs ks W) :
    Pf w B T A D n cap k rs ks W ∧ W.cell? ⟨B, 0, none⟩ = some (.int .i64 T) ∧ W.cell? ⟨B, 1, none⟩ = some (.slice A n cap) := ⟨h, h.bx.c0, h.bx.c1⟩
theorem clash_some_iff {T : Nat} {rs : List R} (he : chk T rs = 0) : clashM T rs = false ↔ Some_ T rs := by
  rw [clashM_iff, some_iff_diag he]

set_option maxRecDepth 100000 in
set_option maxHeartbeats 4000000 in
theorem proofs4_big (HW : Hid WorksOk) (T x y : Int) (A D : Option Addr) (n cap k capk : Nat) (rs : List R) (ks : List Int) (w : World) (h : Rules w A n rs) (hk : Ints w D k ks) (hn : n ≤ maxLen) (hkm : k ≤ maxLen) (hbig : 70 < n ∨ 80 < k) :
    Calls Try.prog 4 #[.agg #[.int .i64 T, .slice A n cap], .int .i64 x, .int .i64 y, .slice D k capk] w fun e w' => e = .returned (.bool true) ∧ Below w.heap.size w w' := by
  have X := Bx.new (T := T) (cap := cap) h
  have K := Lib.hid (hk.below (below_alloc_ w (.cells #[.int .i64 T, .slice A n cap] 24)) (Nat.le_refl _))
  have Hn := Lib.hid hn
  clear h hk hn
  unfold maxLen at hkm
  go_enter Try.func4, Try.ntmps4
  go_wp2_with fail
  refine (great14 T A n cap _ Hn.out).mono ?_
  rintro e w' ⟨rfl, rfl⟩
  have hb := below_alloc_ (w.alloc (.cells #[.int .i64 T, .slice A n cap] 24)) (.cells #[.int .i64 T, .slice A n cap] 24)
  have X' := X.next hb
  clear X
  have X := X'
  clear X'
  have K' := Lib.hid (K.out.below hb (Nat.le_refl _))
  clear K
  have K := K'
  clear K'
  obtain ⟨B, hB⟩ : ∃ B, w.heap.size = B := ⟨_, rfl⟩
  obtain ⟨W1, hW1⟩ : ∃ W1, (w.alloc (.cells #[.int .i64 T, .slice A n cap] 24)).alloc (.cells #[.int .i64 T, .slice A n cap] 24) = W1 := ⟨_, rfl⟩
  rw [hW1] at X K ⊢
  rw [hB] at X ⊢
  clear hW1 hB hb
  by_cases h70 : 70 < n
  · rw [decide_eq_true h70]
    clear hbig h70
    have c0 := X.c0
    have c1 := X.c1
    have hlt := X.hi
    go_wp2_with fail
    clear hlt
    refine (HW.out _).mono ?_
    rintro e w' ⟨rfl, hb⟩
    have X' := X.next hb
    clear X
    have X := X'
    clear X'
    clear hb c0 c1
    go_wp2_with fail
    go_ret
    exact ⟨rfl, X.below⟩
  · have d1 : decide ((80 : Int) < (k : Int)) = true := decide_eq_true (by omega)
    rw [decide_eq_false h70]
    clear hbig h70
    have c0 := X.c0
    have c1 := X.c1
    have hlt := X.hi
    go_wp2_with fail
    clear hlt
    refine (HW.out _).mono ?_
    rintro e w' ⟨rfl, hb⟩
    have X' := X.next hb
    clear X
    have X := X'
    clear X'
    clear hb c0 c1
    go_wp2_with fail
    go_ret
    exact ⟨rfl, X.below⟩

set_option maxRecDepth 100000 in
set_option maxHeartbeats 4000000 in
theorem proofs4_small (HW : Hid WorksOk) (T x y : Int) (A D : Option Addr) (n cap k capk : Nat) (rs : List R) (ks : List Int) (w : World) (h : Rules w A n rs) (hk : Ints w D k ks) (hn : n ≤ 70) (hkm : k ≤ 80) :
    Calls Try.prog 4 #[.agg #[.int .i64 T, .slice A n cap], .int .i64 x, .int .i64 y, .slice D k capk] w fun e w' => e = .returned (.bool true) ∧ Below w.heap.size w w' := by
  have d1 : decide ((80 : Int) < (k : Int)) = false := decide_eq_false (by omega)
  have X := Bx.new (T := T) (cap := cap) h
  have K := Lib.hid (hk.below (below_alloc_ w (.cells #[.int .i64 T, .slice A n cap] 24)) (Nat.le_refl _))
  have Hn := Lib.hid (show n ≤ maxLen by unfold maxLen; omega)
  clear h hk
  go_enter Try.func4, Try.ntmps4
  go_wp2_with fail
  refine (great14 T A n cap _ Hn.out).mono ?_
  rintro e w' ⟨rfl, rfl⟩
  have hb := below_alloc_ (w.alloc (.cells #[.int .i64 T, .slice A n cap] 24)) (.cells #[.int .i64 T, .slice A n cap] 24)
  have X' := X.next hb
  clear X
  have X := X'
  clear X'
  have K' := Lib.hid (K.out.below hb (Nat.le_refl _))
  clear K
  have K := K'
  clear K'
  obtain ⟨B, hB⟩ : ∃ B, w.heap.size = B := ⟨_, rfl⟩
  obtain ⟨W1, hW1⟩ : ∃ W1, (w.alloc (.cells #[.int .i64 T, .slice A n cap] 24)).alloc (.cells #[.int .i64 T, .slice A n cap] 24) = W1 := ⟨_, rfl⟩
  rw [hW1] at X K ⊢
  rw [hB] at X ⊢
  clear hW1 hB hb
  rw [decide_eq_false (by omega)]
  have c0 := X.c0
  have c1 := X.c1
  have hlt := X.hi
  go_wp2_with fail
  clear hlt
  refine (checkWay23 A D n cap k capk T x y rs ks _ X.rules K.out (by omega) (by omega)).mono ?_
  rintro e w' ⟨rfl, hb⟩
  have X' := X.next hb
  clear X
  have X := X'
  clear X'
  have K' := Lib.hid (K.out.below hb (Nat.le_refl _))
  clear K
  have K := K'
  clear K'
  clear hb c0 c1
  obtain ⟨c, er, hce⟩ : ∃ c er, checkWay T rs x y ks = (c, er) := ⟨_, _, rfl⟩
  have Hce := Lib.hid hce
  rw [hce]
  clear hce
  dsimp only
  have c0 := X.c0
  have c1 := X.c1
  have hlt := X.hi
  go_wp2_with fail
  clear hlt
  refine (checkWay24 A D n cap k capk T x y rs ks _ X.rules K.out (by omega) (by omega)).mono ?_
  rintro e w' ⟨rfl, hb⟩
  have X' := X.next hb
  clear X
  have X := X'
  clear X'
  have K' := Lib.hid (K.out.below hb (Nat.le_refl _))
  clear K
  have K := K'
  clear K'
  clear hb c0 c1
  rw [← checkWay_same, Hce.out]
  dsimp only
  have c0 := X.c0
  have c1 := X.c1
  have hlt := X.hi
  have G : Pf w B T A D n cap k rs ks w' := ⟨X, K.out⟩
  have G2 := G.all
  clear X K
  go_wp2_with fail
  clear hlt c0 c1
  go_region_held3 (fun w' => Pf w B T A D n cap k rs ks w' ∧ w'.cell? ⟨B, 0, none⟩ = some (.int .i64 T) ∧ w'.cell? ⟨B, 1, none⟩ = some (.slice A n cap))
    (first | (go_split_ands; exact Pf.all (Pf.next (by assumption) (by assumption))) | (go_split_ands; exact Pf.all (Pf.next (below_alloc_ _ _) (by assumption))) | (go_split_ands; exact Pf.all (Pf.next (below_drew_ _) (by assumption))))
    (first
      | (go_at_call 25; go_split_ands; refine (checkCircle25 A D n cap k capk T rs ks _ ?_ ?_ (by omega) (by omega)).mono ?_; (exact Bx.rules (Pf.bx (by assumption))); (exact Pf.iz (by assumption)); rintro e w' ⟨rfl, hb⟩)
      | (go_at_call 26; go_split_ands; refine (checkCircle26 A D n cap k capk T rs ks _ ?_ ?_ (by omega) (by omega)).mono ?_; (exact Bx.rules (Pf.bx (by assumption))); (exact Pf.iz (by assumption)); rintro e w' ⟨rfl, hb⟩; rw [← checkCircle_same]))
  have hfin : Pf w B T A D n cap k rs ks w' := And.left (b := w'.cell? ⟨B, 0, none⟩ = some (.int .i64 T) ∧ w'.cell? ⟨B, 1, none⟩ = some (.slice A n cap)) (by assumption)
  obtain ⟨w9, h9⟩ : ∃ w9, w' = w9 := ⟨_, rfl⟩
  rw [h9] at hfin ⊢
  have X := hfin.bx
  clear hfin h9
  by_cases he : chk T rs = 0
  · obtain ⟨hl60, hT1, hT20, hall⟩ := chk_ok he
    have He := Lib.hid he
    clear he hall hl60
    obtain ⟨T, rfl⟩ := Int.eq_ofNat_of_zero_le (show 0 ≤ T by omega)
    by_cases hs : Some_ T rs
    · have Hs_ := Lib.hid hs
      have Hcl := Lib.hid ((clash_some_iff He.out).2 hs)
      clear hs
      have c0 := X.c0
      have c1 := X.c1
      have hlt := X.hi
      go_wp2_with fail
      clear hlt
      refine (circle27 A n cap T rs _ X.rules (by omega)).mono ?_
      rintro e w' ⟨C5, k5, q5, rfl, hi5, hb⟩
      have X' := X.next hb
      clear X
      have X := X'
      clear X'
      clear hb c0 c1
      rw [circleR_some He.out Hs_.out] at hi5 ⊢
      obtain rfl : 0 = k5 := hi5.1
      clear hi5
      have c0 := X.c0
      have c1 := X.c1
      have hlt := X.hi
      go_wp2_with fail
      clear hlt
      refine (checkSheet19 A n cap rs T _ X.rules (by omega)).mono ?_
      rintro e w' ⟨rfl, hb⟩
      have X' := X.next hb
      clear X
      have X := X'
      clear X'
      clear hb c0 c1
      rw [He.out]
      have c0 := X.c0
      have c1 := X.c1
      have hlt := X.hi
      go_wp2_with fail
      clear hlt
      refine (clashes28 A n cap T rs _ X.rules He.out).mono ?_
      rintro e w' ⟨rfl, hb⟩
      have X' := X.next hb
      clear X
      have X := X'
      clear X'
      clear hb c0 c1
      rw [Hcl.out]
      have c0 := X.c0
      have c1 := X.c1
      have hlt := X.hi
      go_wp2_with fail
      clear hlt
      refine (HW.out _).mono ?_
      rintro e w' ⟨rfl, hb⟩
      have X' := X.next hb
      clear X
      have X := X'
      clear X'
      clear hb c0 c1
      go_wp2_with fail
      go_ret
      exact ⟨rfl, X.below⟩
    · have Hs_ := Lib.hid hs
      have Hcl := Lib.hid (show clashM T rs = true by
        cases hc : clashM T rs with
        | true => rfl
        | false => exact absurd ((clash_some_iff He.out).1 hc) hs)
      obtain ⟨cc, hcc1, hcc2⟩ := circleR_none He.out hs
      have Hc1 := Lib.hid hcc1
      have Hc2 := Lib.hid (isCirc_check He.out hcc2)
      have hcl : cc.length ≤ 22 := hcc2.2.2.1
      clear hs hcc1 hcc2
      have c0 := X.c0
      have c1 := X.c1
      have hlt := X.hi
      go_wp2_with fail
      clear hlt
      refine (circle27 A n cap T rs _ X.rules (by omega)).mono ?_
      rintro e w' ⟨C5, k5, q5, rfl, hi5, hb⟩
      have X' := X.next hb
      clear X
      have X := X'
      clear X'
      clear hb c0 c1
      rw [Hc1.out] at hi5 ⊢
      have I5 := Lib.hid hi5
      clear hi5
      have hk5 : k5 ≤ 22 := by rw [← I5.out.1]; exact hcl
      have c0 := X.c0
      have c1 := X.c1
      have hlt := X.hi
      go_wp2_with fail
      clear hlt
      refine (checkSheet19 A n cap rs T _ X.rules (by omega)).mono ?_
      rintro e w' ⟨rfl, hb⟩
      have X' := X.next hb
      clear X
      have X := X'
      clear X'
      have I5' := Lib.hid (I5.out.below hb (Nat.le_refl _))
      clear I5
      have I5 := I5'
      clear I5'
      clear hb c0 c1
      rw [He.out]
      have c0 := X.c0
      have c1 := X.c1
      have hlt := X.hi
      go_wp2_with fail
      clear hlt
      refine (clashes28 A n cap T rs _ X.rules He.out).mono ?_
      rintro e w' ⟨rfl, hb⟩
      have X' := X.next hb
      clear X
      have X := X'
      clear X'
      have I5' := Lib.hid (I5.out.below hb (Nat.le_refl _))
      clear I5
      have I5 := I5'
      clear I5'
      clear hb c0 c1
      rw [Hcl.out]
      have c0 := X.c0
      have c1 := X.c1
      have hlt := X.hi
      go_wp2_with fail
      clear hlt
      refine (checkCircle26 A C5 n cap k5 _ T rs cc _ X.rules I5.out (by omega) (by omega)).mono ?_
      rintro e w' ⟨rfl, hb⟩
      have X' := X.next hb
      clear X
      have X := X'
      clear X'
      clear hb c0 c1
      rw [← checkCircle_same, Hc2.out]
      have c0 := X.c0
      have c1 := X.c1
      have hlt := X.hi
      go_wp2_with fail
      clear hlt
      refine (HW.out _).mono ?_
      rintro e w' ⟨rfl, hb⟩
      have X' := X.next hb
      clear X
      have X := X'
      clear X'
      clear hb c0 c1
      go_wp2_with fail
      go_ret
      exact ⟨rfl, X.below⟩
  · have he2 : (chk T rs != 0) = true := by rw [bne_iff_ne]; exact he
    have Hcr := Lib.hid (show circleR T rs = ([], chk T rs) by unfold circleR; rw [if_pos he])
    obtain ⟨er2, her2⟩ : ∃ er2, chk T rs = er2 := ⟨_, rfl⟩
    have Her2 := Lib.hid her2
    rw [her2] at Hcr he2
    clear he her2
    have c0 := X.c0
    have c1 := X.c1
    have hlt := X.hi
    go_wp2_with fail
    clear hlt
    refine (circle27 A n cap T rs _ X.rules (by omega)).mono ?_
    rintro e w' ⟨C5, k5, q5, rfl, hi5, hb⟩
    have X' := X.next hb
    clear X
    have X := X'
    clear X'
    clear hb c0 c1
    rw [Hcr.out] at hi5 ⊢
    obtain rfl : 0 = k5 := hi5.1
    clear hi5
    have c0 := X.c0
    have c1 := X.c1
    have hlt := X.hi
    go_wp2_with fail
    clear hlt
    refine (checkSheet19 A n cap rs T _ X.rules (by omega)).mono ?_
    rintro e w' ⟨rfl, hb⟩
    have X' := X.next hb
    clear X
    have X := X'
    clear X'
    clear hb c0 c1
    rw [Her2.out]
    have c0 := X.c0
    have c1 := X.c1
    have hlt := X.hi
    go_wp2_with fail
    clear hlt
    refine (checkSheet19 A n cap rs T _ X.rules (by omega)).mono ?_
    rintro e w' ⟨rfl, hb⟩
    have X' := X.next hb
    clear X
    have X := X'
    clear X'
    clear hb c0 c1
    rw [Her2.out]
    have c0 := X.c0
    have c1 := X.c1
    have hlt := X.hi
    go_wp2_with fail
    clear hlt
    refine (HW.out _).mono ?_
    rintro e w' ⟨rfl, hb⟩
    have X' := X.next hb
    clear X
    have X := X'
    clear X'
    clear hb c0 c1
    go_wp2_with fail
    go_ret
    exact ⟨rfl, X.below⟩

theorem speedProofs4 (HW : Hid WorksOk) (T x y : Int) (A D : Option Addr) (n cap k capk : Nat) (rs : List R) (ks : List Int) (w : World) (h : Rules w A n rs) (hk : Ints w D k ks) (hn : n ≤ maxLen) (hkm : k ≤ maxLen) :
    Calls Try.prog 4 #[.agg #[.int .i64 T, .slice A n cap], .int .i64 x, .int .i64 y, .slice D k capk] w fun e w' => e = .returned (.bool true) ∧ Below w.heap.size w w' := by
  by_cases hb : 70 < n ∨ 80 < k
  · exact proofs4_big HW T x y A D n cap k capk rs ks w h hk hn hkm hb
  · exact proofs4_small HW T x y A D n cap k capk rs ks w h hk (by omega) (by omega)
end Go.Proofs.Ytiankphkemakeaa
