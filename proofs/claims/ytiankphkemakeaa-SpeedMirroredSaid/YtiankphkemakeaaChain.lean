/- The contracts of the document's chain and CheckCircle. -/
import Derived.Test.YtiankphkemakeaaFuncC
namespace Go.Proofs.Ytiankphkemakeaa
set_option linter.unusedSimpArgs false
set_option linter.unusedVariables false
open Go.RowKit Go.Shelf

def inAll (ws : List R) (ks : List Int) : Bool := ks.all fun k => decide (0 ≤ k) && decide (k < (ws.length : Int))
def okTo (ws : List R) (ks : List Int) (k : Nat) : Bool := (List.range k).all fun i => i == 0 || decide (rf ws (nth ks i).toNat = rt ws (nth ks (i - 1)).toNat)
def sumTo (ws : List R) (ks : List Int) : Nat → Int
  | 0 => 0
  | k + 1 => sumTo ws ks k + rm ws (nth ks k).toNat
/-- What chain returns. -/
def chainR (ws : List R) (ks : List Int) : Int × Int :=
  if inAll ws ks then (if okTo ws ks ks.length then (sumTo ws ks ks.length, 0) else (0, 16)) else (0, 3)

theorem sumTo_bound (ws : List R) (ks : List Int) (h : ∀ i, -100000 ≤ rm ws i ∧ rm ws i ≤ 100000) : ∀ k : Nat, -100000 * (k : Int) ≤ sumTo ws ks k ∧ sumTo ws ks k ≤ 100000 * (k : Int)
  | 0 => by simp [sumTo]
  | k + 1 => by
    have := sumTo_bound ws ks h k
    have := h (nth ks k).toNat
    simp only [sumTo]
    omega
theorem okTo_succ (ws : List R) (ks : List Int) (k : Nat) : okTo ws ks (k + 1) = (okTo ws ks k && (k == 0 || decide (rf ws (nth ks k).toNat = rt ws (nth ks (k - 1)).toNat))) := by
  unfold okTo
  rw [List.range_succ, List.all_append]
  simp
theorem okTo_stop (ws : List R) (ks : List Int) (k n : Nat) (hk : k < n) (h0 : k ≠ 0) (h : rf ws (nth ks k).toNat ≠ rt ws (nth ks (k - 1)).toNat) : okTo ws ks n = false := by
  unfold okTo
  rw [List.all_eq_false]
  exact ⟨k, by simpa using hk, by simp [h0, h]⟩
theorem small_rm {T : Nat} {rs : List R} (he : chk T rs = 0) : ∀ i, -100000 ≤ rm (whole T rs) i ∧ rm (whole T rs) i ≤ 100000 := by
  intro i
  have hs := small_whole he (i : Int)
  unfold rl isName at hs
  rcases Nat.lt_or_ge i (whole T rs).length with h | h
  · rw [within_one, if_pos (by simp; omega), Int.toNat_natCast] at hs
    exact hs
  · have : rAt (whole T rs) i = ⟨0, 0, 0⟩ := by simp [rAt, List.getD, List.getElem?_eq_none h]
    unfold rm
    rw [this]
    simp

set_option maxRecDepth 100000 in
set_option maxHeartbeats 1000000 in
theorem chain62 (A C : Option Addr) (n cap T m capm : Nat) (rs : List R) (ks : List Int) (w : World) (h : Rules w A n rs) (hk : Ints w C m ks) (hm : m ≤ 1000) (he : chk T rs = 0) :
    Calls Try.prog 62 #[.agg #[.int .i64 (T : Int), .slice A n cap], .slice C m capm] w fun e w' => e = .returned (.tuple #[.int .i64 (chainR (whole T rs) ks).1, .int .i64 (chainR (whole T rs) ks).2]) ∧ Below w.heap.size w w' := by
  obtain ⟨hl60, hT1, hT20, _⟩ := chk_ok he
  have hn60 : n ≤ 60 := by rw [← h.1]; exact hl60
  have hT2 : T ≤ 20 := by omega
  have HB0 := Lib.hid (show Below w.heap.size w (w.alloc (.cells #[.int .i64 (T : Int), .slice A n cap] 24)) from (Below.refl _ _).alloc (Nat.le_refl _) _)
  have H0 := Lib.hid (h.below HB0.out (Nat.le_refl _))
  have Hk0 := Lib.hid (hk.below HB0.out (Nat.le_refl _))
  have Hlen := Lib.hid (show (whole T rs).length = n + 2 * T by rw [whole_len2, h.1])
  have Hrm := Lib.hid (small_rm he)
  obtain ⟨ws, hws⟩ : ∃ ws, whole T rs = ws := ⟨_, rfl⟩
  rw [hws] at Hlen Hrm ⊢
  have Hws := Lib.hid hws
  clear h hk he hT1 hT20 hl60 hws
  go_enter Try.func62, Try.ntmps62
  go_wp2_with fail
  refine (all54 A n cap T rs _ H0.out (by omega) (by omega)).mono ?_
  rintro e w1 ⟨A1, cap1, rfl, hown, hb⟩
  have Hb := Lib.hid (HB0.out.trans (hb.mono (by simp)))
  have Hr1 := Lib.hid (Rules.of_own hown)
  have Hk1 := Lib.hid (Hk0.out.below hb (Nat.le_refl _))
  clear hb hown
  rw [Hws.out] at Hr1
  clear Hws H0 Hk0
  go_wp2_with fail
  go_loopw [7] (fun v wr => ∃ k : Nat, k ≤ m ∧ v = .int .i64 (k : Int) ∧ inAll ws (ks.take k) = true ∧ wr = w1) (fun v _ => m - (intOf v).toNat)
  case atStart => exact ⟨0, Nat.zero_le _, rfl, rfl, rfl⟩
  case round =>
    obtain ⟨k, hkm, rfl, hall, rfl⟩ := hrel
    have Hall := Lib.hid hall
    clear hall
    by_cases hlt : k < m
    · have hlt2 : (k : Int) < (m : Int) := by omega
      obtain ⟨hl, hcs⟩ := Hk1.out
      obtain ⟨b, o, rfl, hc⟩ := hcs (by omega)
      have ck := hc k hlt
      have Hl := Lib.hid hl
      clear hcs hc hl
      by_cases hneg : nth ks k < 0
      · go_wp2_with fail
        go_ret2
        have hm : chainR ws ks = (0, 3) := by
          unfold chainR
          rw [show inAll ws ks = false by unfold inAll; exact all_stop_i _ _ k (by rw [Hl.out]; exact hlt) (by simp; omega)]
          rfl
        exact ⟨by rw [hm]; rfl, Hb.out⟩
      · have hneg2 : decide (nth ks k < 0) = false := decide_eq_false hneg
        by_cases hbig : ((n + 2 * T : Nat) : Int) ≤ nth ks k
        · have hbig1 : (n : Int) + 2 * (T : Int) ≤ nth ks k := by omega
          go_wp2_with fail
          go_ret2
          have hm : chainR ws ks = (0, 3) := by
            unfold chainR
            rw [show inAll ws ks = false by unfold inAll; exact all_stop_i _ _ k (by rw [Hl.out]; exact hlt) (by have := Hlen.out; simp; omega)]
            rfl
          exact ⟨by rw [hm]; rfl, Hb.out⟩
        · have hbig1 : ¬ ((n : Int) + 2 * (T : Int) ≤ nth ks k) := by omega
          go_wp2_with fail
          go_roundw
          case rel => exact ⟨k + 1, by omega, by go_num, by unfold inAll; rw [all_take_i _ _ k (by rw [Hl.out]; exact hlt)]; have := Hall.out; unfold inAll at this; rw [this]; have := Hlen.out; simp; omega, trivial⟩
          case measure => simp [intOf]; omega
    · have hlt2 : ¬ ((k : Int) < (m : Int)) := by omega
      have hin : inAll ws ks = true := by rw [← Hall.out, List.take_of_length_le (by have := Hk1.out.1; omega)]
      have Hin := Lib.hid hin
      clear hin
      go_wp2_with fail
      go_loopw [8, 9] (fun v8 v9 wr' => ∃ k : Nat, k ≤ m ∧ v9 = .int .i64 (k : Int) ∧ v8 = .int .i64 (sumTo ws ks k) ∧ okTo ws ks k = true ∧ Below wr.heap.size wr wr') (fun _ v9 _ => m - (intOf v9).toNat)
      case atStart => exact ⟨0, Nat.zero_le _, rfl, rfl, rfl, Below.refl _ _⟩
      case round =>
        obtain ⟨k, hkm, rfl, rfl, hok, hB⟩ := hrel
        have Hok := Lib.hid hok
        have HB := Lib.hid hB
        clear hok hB
        by_cases hlt : k < m
        · have hlt2 : (k : Int) < (m : Int) := by omega
          obtain ⟨hl, hcs⟩ := Hk1.out.below HB.out (Nat.le_refl _)
          obtain ⟨b, o, rfl, hc⟩ := hcs (by omega)
          have ck := hc k hlt
          have hnam : ∀ i, i < m → 0 ≤ nth ks i ∧ nth ks i < ((n + 2 * T : Nat) : Int) := fun i hi => by
            have := List.all_eq_true.1 Hin.out (nth ks i) (nth_mem (by omega))
            have := Hlen.out
            simp at *
            omega
          obtain ⟨nk, hnk⟩ := Int.eq_ofNat_of_zero_le (hnam k hlt).1
          have hnkN := (hnam k hlt).2
          rw [hnk] at ck hnkN
          have Hnk := Lib.hid hnk
          have Hr := Lib.hid (Hr1.out.below HB.out (Nat.le_refl _))
          obtain ⟨br, ro, rfl, hcells⟩ := Hr.out.2 (by omega)
          obtain ⟨r0, r1, r2⟩ := hcells nk (by omega)
          have hnk0 : (0 : Int) ≤ (nk : Int) := by omega
          have hnkN2 : (nk : Int) < (n : Int) + 2 * (T : Int) := by omega
          have hsb := sumTo_bound ws ks Hrm.out k
          have hmb := Hrm.out nk
          have Hl := Lib.hid hl
          rcases Nat.eq_zero_or_pos k with hk0 | hk0
          · have hk0d : decide ((0 : Int) < (k : Int)) = false := decide_eq_false (by omega)
            have hk0i : ¬ (0 < k) := by omega
            have Hk0 := Lib.hid hk0
            clear hcs hc hnk hnam hcells hl hk0
            go_wp2_with fail
            go_quiet (fail)
            go_wp2_with fail
            go_roundw
            case rel =>
              refine ⟨k + 1, by omega, by go_num, ?_, ?_, HB.out.trans (drew_below _ _ _)⟩
              · rw [sumTo, Hnk.out, Int.toNat_natCast]
              · rw [okTo_succ, Hok.out, Hk0.out]; rfl
            case measure => simp [intOf]; omega
          · have hk0i : (0 : Int) < (k : Int) := by omega
            obtain ⟨np, hnp⟩ := Int.eq_ofNat_of_zero_le (hnam (k - 1) (by omega)).1
            have hnpN := (hnam (k - 1) (by omega)).2
            have cp := hc (k - 1) (by omega)
            obtain ⟨p0, p1, p2⟩ := hcells np (by omega)
            rw [hnp] at cp hnpN
            have Hnp := Lib.hid hnp
            have hnp0 : (0 : Int) ≤ (np : Int) := by omega
            have hnpN2 : (np : Int) < (n : Int) + 2 * (T : Int) := by omega
            have hkm1 : (k : Int) - 1 = ((k - 1 : Nat) : Int) := by omega
            clear hcs hc hnk hnp hnam hcells hl
            by_cases heq : rf ws nk = rt ws np
            · have Heq := Lib.hid heq
              go_wp2_with fail
              go_quiet (fail)
              go_wp2_with fail
              go_roundw
              case rel =>
                refine ⟨k + 1, by omega, by go_num, ?_, ?_, HB.out.trans (drew_below _ _ _)⟩
                · rw [sumTo, Hnk.out, Int.toNat_natCast]
                · rw [okTo_succ, Hok.out, Hnk.out, Hnp.out, Int.toNat_natCast, Int.toNat_natCast, decide_eq_true Heq.out]; simp
              case measure => simp [intOf]; omega
            · have heq2 : (rf ws nk != rt ws np) = true := by rw [bne_iff_ne]; exact heq
              have Heq := Lib.hid heq
              clear heq
              go_wp2_with fail
              go_quiet (fail)
              go_wp2_with fail
              go_ret2
              have hmo : chainR ws ks = (0, 16) := by
                unfold chainR
                rw [Hin.out, okTo_stop ws ks k ks.length (by rw [Hl.out]; exact hlt) (by omega) (by rw [Hnk.out, Hnp.out, Int.toNat_natCast, Int.toNat_natCast]; exact Heq.out)]
                rfl
              exact ⟨by rw [hmo]; rfl, Hb.out.trans ((HB.out.trans (drew_below _ nq _)).mono Hb.out.size)⟩
        · have hlt2 : ¬ ((k : Int) < (m : Int)) := by omega
          obtain rfl : k = m := by omega
          have Hl := Lib.hid Hk1.out.1
          go_wp2_with fail
          go_ret2
          have hmo : chainR ws ks = (sumTo ws ks k, 0) := by
            unfold chainR
            rw [Hin.out, Hl.out, Hok.out]
            rfl
          exact ⟨by rw [hmo]; rfl, Hb.out.trans (HB.out.mono Hb.out.size)⟩
end Go.Proofs.Ytiankphkemakeaa
