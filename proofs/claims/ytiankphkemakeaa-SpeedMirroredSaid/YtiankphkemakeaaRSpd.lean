/- The contracts of the document's Of and CheckSpeeds. -/
import Derived.Test.YtiankphkemakeaaSpd
namespace Go.Proofs.Ytiankphkemakeaa
set_option linter.unusedSimpArgs false
set_option linter.unusedVariables false
open Go.RowKit

set_option maxHeartbeats 400000 in
theorem of45 (C : Option Addr) (m capm : Nat) (vs : List Int) (k : Int) (w : World) (h : Ints w C m vs) (hm : m ≤ 20) (hk : 0 ≤ k ∧ k ≤ m) :
    Calls Try.prog 45 #[.slice C m capm, .int .i64 k] w fun e w' => e = .returned (.int .i64 (nth (paceOf vs) k.toNat)) ∧ w' = w := by
  obtain ⟨k, rfl⟩ := Int.eq_ofNat_of_zero_le hk.1
  simp only [Int.toNat_natCast]
  cases k with
  | zero =>
    have h0 : (((0 : Nat) : Int) == 0) = true := rfl
    have Hp := Lib.hid (paceOf_zero vs)
    go_enter Try.func45, Try.ntmps45
    go_wp2
    go_ret
    exact ⟨ret_int Hp.out.symm, rfl⟩
  | succ k =>
    have hl := h.1
    obtain ⟨b, o, rfl, hc⟩ := h.2 (by omega)
    have c0 := hc k (by omega)
    have Hp := Lib.hid (paceOf_succ vs k (by omega))
    have h0 : (((k : Int) + 1) == 0) = false := by rw [beq_eq_false_iff_ne]; omega
    have hk2 : (k : Int) < (m : Int) := by omega
    rw [show ((k + 1 : Nat) : Int) = (k : Int) + 1 from by omega]
    clear hc h hk hl
    go_enter Try.func45, Try.ntmps45
    go_wp2
    go_ret
    exact ⟨ret_int Hp.out.symm, rfl⟩

set_option maxHeartbeats 400000 in
theorem checkSpeeds22_bad (A C : Option Addr) (n cap m capm : Nat) (T : Int) (rs : List R) (vs : List Int) (w : World) (h : Rules w A n rs) (hn : n ≤ 140737488355328) (he : chk T rs ≠ 0) :
    Calls Try.prog 22 #[.agg #[.int .i64 T, .slice A n cap], .slice C m capm] w fun e w' => e = .returned (.int .i64 (checkSpeeds T rs vs)) ∧ Below w.heap.size w w' := by
  have HB0 := Lib.hid (show Below w.heap.size w (w.alloc (.cells #[.int .i64 T, .slice A n cap] 24)) from (Below.refl _ _).alloc (Nat.le_refl _) _)
  have H0 := Lib.hid (h.below HB0.out (Nat.le_refl _))
  have he2 : (chk T rs != 0) = true := by rw [bne_iff_ne]; exact he
  have Hm := Lib.hid (show checkSpeeds T rs vs = chk T rs by unfold checkSpeeds; rw [if_pos he])
  clear h he
  go_enter Try.func22, Try.ntmps22
  go_wp2_with fail
  refine (checkSheet19 A n cap rs T _ H0.out hn).mono ?_
  rintro e w1 ⟨rfl, hb⟩
  have hz : w.heap.size < w1.heap.size := by have := hb.size; simp at this; omega
  have c0 : w1.cell? ⟨w.heap.size, 0, none⟩ = some (.int .i64 T) := by rw [(bcell hb).1 _ _ (by simp)]; go_simp
  have c1 : w1.cell? ⟨w.heap.size, 1, none⟩ = some (.slice A n cap) := by rw [(bcell hb).1 _ _ (by simp)]; go_simp
  have H1 := Lib.hid (H0.out.below hb (Nat.le_refl _))
  have Hb := Lib.hid (HB0.out.trans (hb.mono (by simp)))
  clear hb
  go_wp2_with fail
  refine (checkSheet19 A n cap rs T _ H1.out hn).mono ?_
  rintro e w2 ⟨rfl, hb⟩
  have Hb2 := Lib.hid (Hb.out.trans (hb.mono (by omega)))
  clear hb
  go_wp2_with fail
  go_ret
  exact ⟨by rw [Hm.out]; rfl, Hb2.out⟩

set_option maxRecDepth 100000 in
set_option maxHeartbeats 1000000 in
theorem checkSpeeds22_ok (A C : Option Addr) (n cap T m capm : Nat) (rs : List R) (vs : List Int) (w : World) (h : Rules w A n rs) (hk : Ints w C m vs) (hm : m ≤ 1000) (he : chk T rs = 0) :
    Calls Try.prog 22 #[.agg #[.int .i64 (T : Int), .slice A n cap], .slice C m capm] w fun e w' => e = .returned (.int .i64 (checkSpeeds T rs vs)) ∧ Below w.heap.size w w' := by
  obtain ⟨hl60, hT1, hT20, _⟩ := chk_ok he
  have hn60 : n ≤ 60 := by rw [← h.1]; exact hl60
  have Hm := Lib.hid (show checkSpeeds T rs vs = if (m : Int) ≠ (T : Int) then 15 else if within 0 100000 vs then (if rs.all (keep (paceOf vs)) then 0 else 17) else 3 by unfold checkSpeeds; rw [if_neg (by simpa using he), hk.1])
  have HB0 := Lib.hid (show Below w.heap.size w (w.alloc (.cells #[.int .i64 (T : Int), .slice A n cap] 24)) from (Below.refl _ _).alloc (Nat.le_refl _) _)
  have H0 := Lib.hid (h.below HB0.out (Nat.le_refl _))
  have Hk0 := Lib.hid (hk.below HB0.out (Nat.le_refl _))
  have He := Lib.hid he
  clear h hk he
  go_enter Try.func22, Try.ntmps22
  go_wp2_with fail
  refine (checkSheet19 A n cap rs T _ H0.out (by omega)).mono ?_
  rintro e w1 ⟨rfl, hb⟩
  rw [He.out]
  have hz : w.heap.size < w1.heap.size := by have := hb.size; simp at this; omega
  have c0 : w1.cell? ⟨w.heap.size, 0, none⟩ = some (.int .i64 (T : Int)) := by rw [(bcell hb).1 _ _ (by simp)]; go_simp
  have c1 : w1.cell? ⟨w.heap.size, 1, none⟩ = some (.slice A n cap) := by rw [(bcell hb).1 _ _ (by simp)]; go_simp
  have H1 := Lib.hid (H0.out.below hb (Nat.le_refl _))
  have Hk1 := Lib.hid (Hk0.out.below hb (Nat.le_refl _))
  have Hb := Lib.hid (HB0.out.trans (hb.mono (by simp)))
  clear hb
  by_cases hmT : m = T
  · have hmT2 : ((m : Int) != (T : Int)) = false := by rw [bne_eq_false_iff_eq]; omega
    have hm20 : m ≤ 20 := by omega
    have HmT := Lib.hid hmT
    clear hmT
    go_wp2_with fail
    go_loop [5] (fun i => ∃ k : Nat, k ≤ m ∧ i = .int .i64 k ∧ within 0 100000 (vs.take k) = true) (fun i => m - (intOf i).toNat)
    case atStart => exact ⟨0, Nat.zero_le _, rfl, rfl⟩
    case round =>
      obtain ⟨k, hkm, rfl, hw⟩ := hrel
      obtain ⟨hl, hc⟩ := Hk1.out
      have Hl := Lib.hid hl
      by_cases hlt : k < m
      · obtain ⟨b, o, rfl, hc2⟩ := hc (by omega)
        have hck := hc2 k hlt
        have Hs := Lib.hid (within_take 0 100000 vs k (by omega))
        have Hf := Lib.hid (within_stop 0 100000 vs k (by omega))
        have Hw := Lib.hid hw
        have Hbad := Lib.hid (show within 0 100000 vs = false → checkSpeeds T rs vs = 3 from fun hq => by rw [Hm.out, if_neg (by rw [HmT.out]; simp), hq]; rfl)
        clear hc hc2 hw hl
        go_wp2_with fail
        · have h1 : 0 ≤ nth vs k := by assumption
          have h2 : nth vs k < 0 ∨ 100000 < nth vs k := by assumption
          go_ret
          exact ⟨ret_int (Hbad.out (Hf.out h2)).symm, Hb.out⟩
        · go_round
          case rel => exact ⟨k + 1, by omega, by go_num, by rw [Hs.out, Hw.out]; simp; omega⟩
          case measure => simp [intOf]; omega
        · have h2 : nth vs k < 0 := by assumption
          go_ret
          exact ⟨ret_int (Hbad.out (Hf.out (.inl h2))).symm, Hb.out⟩
      · have hq : within 0 100000 vs = true := by rw [← hw, List.take_of_length_le (by omega)]
        have Hq := Lib.hid hq
        clear hq hw hc hl
        go_wp2_with fail
        have Ht := Lib.hid (paceOf_tame vs Hq.out)
        have Hfit := Lib.hid (fit_of_chk He.out)
        go_loopw [6] (fun i wr => ∃ k : Nat, k ≤ n ∧ i = .int .i64 k ∧ (rs.take k).all (keep (paceOf vs)) = true ∧ Below w1.heap.size w1 wr) (fun i _ => n - (intOf i).toNat)
        case atStart => exact ⟨0, Nat.zero_le _, rfl, rfl, Below.refl _ _⟩
        case round =>
          obtain ⟨q, hqn, rfl, hall, hB⟩ := hrel
          have d1 := ((bcell hB).1 _ _ hz).trans c1
          have hz2 : w.heap.size < wr.heap.size := by have := hB.size; omega
          have Hall := Lib.hid hall
          have HB := Lib.hid hB
          by_cases hlt : q < n
          · obtain ⟨hl2, hcs⟩ := H1.out.below hB (Nat.le_refl _)
            obtain ⟨b, o, rfl, hc⟩ := hcs (by omega)
            obtain ⟨e0, e1, e2⟩ := hc q hlt
            have Hl2 := Lib.hid hl2
            have hfit : FitR (rAt rs q) := by rw [rAt_eq _ _ (by omega)]; exact Hfit.out _ (List.getElem_mem _)
            have Hchk := Lib.hid ((chkR_iff _ _).1 (show chkR T (rAt rs q) = true by rw [rAt_eq _ _ (by omega)]; exact List.all_eq_true.1 (chk_ok He.out).2.2.2 _ (List.getElem_mem _)))
            have hf0 : 0 ≤ rf rs q := Hchk.out.1
            have hf1 : rf rs q ≤ (T : Int) := Hchk.out.2.1
            have ht0 : 0 ≤ rt rs q := Hchk.out.2.2.1
            have ht1 : rt rs q ≤ (T : Int) := Hchk.out.2.2.2.1
            have hm0 : -100000 ≤ rm rs q := Hchk.out.2.2.2.2.2.1
            have hm1 : rm rs q ≤ 100000 := Hchk.out.2.2.2.2.2.2
            obtain ⟨p0, p1⟩ := Ht.out (rf rs q).toNat
            obtain ⟨p2, p3⟩ := Ht.out (rt rs q).toNat
            have Hk2 := Lib.hid ((Hk1.out.below hB (Nat.le_refl _)).below ((Below.refl _ wr).alloc (Nat.le_refl _) (.cells #[.int .i64 (rf rs q), .int .i64 (rt rs q), .int .i64 (rm rs q)] 68)) (Nat.le_refl _))
            have Hkeep := Lib.hid (show keep (paceOf vs) (rAt rs q) = decide (nth (paceOf vs) (rt rs q).toNat ≤ nth (paceOf vs) (rf rs q).toNat + rm rs q) from rfl)
            have hTm := HmT.out
            have hf2 : rf rs q ≤ (m : Int) := by omega
            have ht2 : rt rs q ≤ (m : Int) := by omega
            clear hfit hcs hc hl2 hall hB hTm
            go_wp2_with fail
            go_quiet ((go_at_call 45; exact Calls.quiet_of_same (of45 _ _ _ vs _ _ Hk2.out (by omega) (by omega))))
            go_wp2_with fail
            · have h1 : nth (paceOf vs) (rf rs q).toNat + rm rs q < nth (paceOf vs) (rt rs q).toNat := by assumption
              go_ret
              exact ⟨ret_int (by rw [Hm.out, if_neg (by rw [HmT.out]; simp), Hq.out, all_stop_r _ _ q (by rw [Hl2.out]; exact hlt) (by rw [Hkeep.out, decide_eq_false_iff_not]; omega)]; rfl), Hb.out.trans ((below_drewN (HB.out.alloc HB.out.size _) _).mono (by omega))⟩
            · have h1 : nth (paceOf vs) (rt rs q).toNat ≤ nth (paceOf vs) (rf rs q).toNat + rm rs q := by assumption
              go_roundw
              case rel => exact ⟨q + 1, by omega, by go_num, by rw [all_take_r _ _ q (by rw [Hl2.out]; exact hlt), Hall.out, Hkeep.out, decide_eq_true h1]; rfl, below_drewN (HB.out.alloc HB.out.size _) _⟩
              case measure => simp [intOf]; omega
          · have hl := H1.out.1
            have hall' : rs.all (keep (paceOf vs)) = true := by rw [← hall, List.take_of_length_le (by omega)]
            have Hall := Lib.hid hall'
            clear hall hall' hB
            go_wp2_with fail
            go_ret
            exact ⟨ret_int (by rw [Hm.out, if_neg (by rw [HmT.out]; simp), Hq.out, Hall.out]; rfl), Hb.out.trans (HB.out.mono (by omega))⟩
  · have hmT2 : ((m : Int) != (T : Int)) = true := by rw [bne_iff_ne]; omega
    have HmT := Lib.hid hmT
    clear hmT
    go_wp2_with fail
    go_ret
    exact ⟨ret_int (by rw [Hm.out, if_pos (by have := HmT.out; omega)]), Hb.out⟩

theorem checkSpeeds22 (A C : Option Addr) (n cap m capm : Nat) (T : Int) (rs : List R) (vs : List Int) (w : World) (h : Rules w A n rs) (hk : Ints w C m vs) (hn : n ≤ 140737488355328) (hm : m ≤ 1000) :
    Calls Try.prog 22 #[.agg #[.int .i64 T, .slice A n cap], .slice C m capm] w fun e w' => e = .returned (.int .i64 (checkSpeeds T rs vs)) ∧ Below w.heap.size w w' := by
  by_cases he : chk T rs = 0
  · obtain ⟨_, hT1, _, _⟩ := chk_ok he
    obtain ⟨k, rfl⟩ := Int.eq_ofNat_of_zero_le (show 0 ≤ T by omega)
    exact checkSpeeds22_ok A C n cap k m capm rs vs w h hk hm he
  · exact checkSpeeds22_bad A C n cap m capm T rs vs w h hn he

end Go.Proofs.Ytiankphkemakeaa
