/- The contracts of the document's tone, Pipe and Spring. -/
import Derived.Test.YtiankphkemakeaaLaw1
namespace Go.Proofs.Ytiankphkemakeaa
set_option linter.unusedSimpArgs false
set_option linter.unusedVariables false
open Go.RowKit Go.Shelf

theorem within_no {lo hi n : Int} (h : n < lo ∨ hi < n) : within lo hi [n] = false := by simp [within]; omega
theorem within_yes {lo hi n : Int} (h : lo ≤ n) (h' : n ≤ hi) : within lo hi [n] = true := by simp [within]; omega

theorem tone69 (n : Int) (w : World) : Calls Try.prog 69 #[.int .i64 n] w fun e w' => e = .returned (.bool (within 1 1000000 [n])) ∧ w = w' := by
  by_cases h1 : n < 1
  · have Hq := Lib.hid (within_no (lo := 1) (hi := 1000000) (n := n) (.inl h1))
    have h1' : decide (1 ≤ n) = false := decide_eq_false (by omega)
    go_enter Try.func69, Try.ntmps69
    go_wp2
    go_ret
    exact ⟨ret_bool Hq.out.symm, rfl⟩
  · by_cases h2 : 1000000 < n
    · have Hq := Lib.hid (within_no (lo := 1) (hi := 1000000) (n := n) (.inr h2))
      have h1' : decide (1 ≤ n) = true := decide_eq_true (by omega)
      have h2' : decide (n ≤ 1000000) = false := decide_eq_false (by omega)
      go_enter Try.func69, Try.ntmps69
      go_wp2
      go_ret
      exact ⟨ret_bool Hq.out.symm, rfl⟩
    · have Hq := Lib.hid (within_yes (lo := 1) (hi := 1000000) (n := n) (by omega) (by omega))
      have h1' : decide (1 ≤ n) = true := decide_eq_true (by omega)
      have h2' : decide (n ≤ 1000000) = true := decide_eq_true (by omega)
      go_enter Try.func69, Try.ntmps69
      go_wp2
      go_ret
      exact ⟨ret_bool Hq.out.symm, rfl⟩

theorem ceil_form (x h : Int) (hh : 0 < h) : (x + h - 1) / h = (x - 1) / h + 1 := by
  have := Int.add_mul_ediv_right (x - 1) 1 (c := h) (by omega)
  rw [show x + h - 1 = x - 1 + 1 * h by omega, this]

set_option maxRecDepth 100000 in
set_option maxHeartbeats 1000000 in
theorem pipe39 (t p lo hi : Int) (w : World) :
    Calls Try.prog 39 #[.int .i64 t, .int .i64 p, .agg #[.int .i64 lo, .int .i64 hi]] w (RetR w (pipeR t p lo hi)) := by
  have HB0 := Lib.hid (show Below w.heap.size w (w.alloc (.cells #[.int .i64 lo, .int .i64 hi] 43)) from (Below.refl _ _).alloc (Nat.le_refl _) _)
  by_cases hbad : t < 1 ∨ 20 < t
  · have Hm := Lib.hid (show pipeR t p lo hi = ([], 2) by unfold pipeR; rw [within_no hbad]; rfl)
    by_cases h1 : t < 1
    · have h1' : decide (t < 1) = true := decide_eq_true h1
      clear hbad
      go_enter Try.func39, Try.ntmps39
      go_wp2_with fail
      go_ret2
      rw [Hm.out]
      exact RetR.none HB0.out
    · have h1' : decide (t < 1) = false := decide_eq_false h1
      have h2' : decide (20 < t) = true := decide_eq_true (by omega)
      clear hbad
      go_enter Try.func39, Try.ntmps39
      go_wp2_with fail
      go_ret2
      rw [Hm.out]
      exact RetR.none HB0.out
  · have h1' : decide (t < 1) = false := decide_eq_false (by omega)
    have h2' : decide (20 < t) = false := decide_eq_false (by omega)
    have Hq := Lib.hid (within_yes (lo := 1) (hi := 20) (n := t) (by omega) (by omega))
    have Hno := Lib.hid (show ¬ (within 1 1000000 [p, lo, hi] = true ∧ lo ≤ hi) → pipeR t p lo hi = ([], 3) from fun h => by unfold pipeR; rw [Hq.out, if_pos rfl, if_neg h])
    have Hall := Lib.hid (show within 1 1000000 [p, lo, hi] = (within 1 1000000 [p] && within 1 1000000 [lo] && within 1 1000000 [hi]) by simp [within, Bool.and_assoc])
    clear hbad
    go_enter Try.func39, Try.ntmps39
    go_wp2_with fail
    refine (tone69 p _).mono ?_
    rintro e w2 ⟨rfl, rfl⟩
    cases hp : within 1 1000000 [p] with
    | false =>
      have Hp := Lib.hid hp
      clear hp
      go_wp2_with fail
      go_ret2
      rw [Hno.out (by rw [Hall.out, Hp.out]; simp)]
      exact RetR.none HB0.out
    | true =>
      have Hp := Lib.hid hp
      clear hp
      go_wp2_with fail
      refine (tone69 lo _).mono ?_
      rintro e w2 ⟨rfl, rfl⟩
      cases hl : within 1 1000000 [lo] with
      | false =>
        have Hl := Lib.hid hl
        clear hl
        go_wp2_with fail
        go_ret2
        rw [Hno.out (by rw [Hall.out, Hl.out]; simp)]
        exact RetR.none HB0.out
      | true =>
        have Hl := Lib.hid hl
        clear hl
        go_wp2_with fail
        refine (tone69 hi _).mono ?_
        rintro e w2 ⟨rfl, rfl⟩
        cases hh : within 1 1000000 [hi] with
        | false =>
          have Hh := Lib.hid hh
          clear hh
          go_wp2_with fail
          go_ret2
          rw [Hno.out (by rw [Hall.out, Hh.out]; simp)]
          exact RetR.none HB0.out
        | true =>
          have Hh := Lib.hid hh
          clear hh
          by_cases hlh : hi < lo
          · go_wp2_with fail
            go_ret2
            rw [Hno.out (fun h => by omega)]
            exact RetR.none HB0.out
          · have hlh2 : decide (hi < lo) = false := decide_eq_false hlh
            have hp : 1 ≤ p ∧ p ≤ 1000000 := by simpa [within] using Hp.out
            have hl : 1 ≤ lo ∧ lo ≤ 1000000 := by simpa [within] using Hl.out
            have hh : 1 ≤ hi ∧ hi ≤ 1000000 := by simpa [within] using Hh.out
            obtain ⟨hp1, hp2⟩ := hp
            obtain ⟨hl1, hl2⟩ := hl
            obtain ⟨hh1, hh2⟩ := hh
            have hm : pipeR t p lo hi = if (p * 16000 + hi - 1) / hi ≤ min (p * 16000 / lo) 100000 then ([⟨0, t, min (p * 16000 / lo) 100000⟩, ⟨t, 0, -((p * 16000 + hi - 1) / hi)⟩], 0) else ([], 17) := by unfold pipeR; rw [Hq.out, if_pos rfl, if_pos ⟨by rw [Hall.out, Hp.out, Hl.out, Hh.out]; rfl, by omega⟩, ceil_form _ _ (by omega)]
            have Hm := Lib.hid hm
            have q1 : 0 ≤ (p * 16000 + hi - 1) / hi := Int.ediv_nonneg (by omega) (by omega)
            have q2 : (p * 16000 + hi - 1) / hi ≤ p * 16000 + hi - 1 := Int.ediv_le_self _ (by omega)
            have q3 : 0 ≤ p * 16000 / lo := Int.ediv_nonneg (by omega) (by omega)
            clear hm
            go_wp2_with fail
            all_goals (try (exfalso; omega))
            all_goals go_ret2
            all_goals rw [Hm.out]
            all_goals first
              | (rw [if_neg (by omega)]; exact RetR.none HB0.out)
              | (rw [if_pos (by omega), Int.min_eq_right (by omega)]; exact ⟨_, _, _, rfl, rules_two (heap_last (by simp)), HB0.out.alloc (by simp) _⟩)
              | (rw [if_pos (by omega), Int.min_eq_left (by omega)]; exact ⟨_, _, _, rfl, rules_two (heap_last (by simp)), HB0.out.alloc (by simp) _⟩)

theorem spring_arg {f l d : Int} (h : f < 1 ∨ 20 < f ∨ l < 1 ∨ 20 < l ∨ l ≤ f) : springR f l d = ([], 2) := by
  unfold springR
  rw [if_neg]
  simp [within]
  omega

set_option maxRecDepth 100000 in
set_option maxHeartbeats 1000000 in
theorem spring41_bad (f l d : Int) (w : World) (h : f < 1 ∨ 20 < f ∨ l < 1 ∨ 20 < l ∨ l ≤ f) : Calls Try.prog 41 #[.int .i64 f, .int .i64 l, .int .i64 d] w (RetR w (springR f l d)) := by
  rw [spring_arg h]
  by_cases h1 : f < 1
  · have d1 : decide (f < 1) = true := decide_eq_true h1
    clear h
    go_enter Try.func41, Try.ntmps41
    go_wp2_with fail
    go_ret2
    exact RetR.none (Below.refl _ _)
  · have d1 : decide (f < 1) = false := decide_eq_false h1
    by_cases h2 : 20 < f
    · have d2 : decide (20 < f) = true := decide_eq_true h2
      clear h
      go_enter Try.func41, Try.ntmps41
      go_wp2_with fail
      go_ret2
      exact RetR.none (Below.refl _ _)
    · have d2 : decide (20 < f) = false := decide_eq_false h2
      by_cases h3 : l < 1
      · have d3 : decide (l < 1) = true := decide_eq_true h3
        clear h
        go_enter Try.func41, Try.ntmps41
        go_wp2_with fail
        go_ret2
        exact RetR.none (Below.refl _ _)
      · have d3 : decide (l < 1) = false := decide_eq_false h3
        by_cases h4 : 20 < l
        · have d4 : decide (20 < l) = true := decide_eq_true h4
          clear h
          go_enter Try.func41, Try.ntmps41
          go_wp2_with fail
          go_ret2
          exact RetR.none (Below.refl _ _)
        · have d4 : decide (20 < l) = false := decide_eq_false h4
          have h5 : l ≤ f := by omega
          have d5 : decide (l ≤ f) = true := decide_eq_true h5
          clear h
          go_enter Try.func41, Try.ntmps41
          go_wp2_with fail
          go_ret2
          exact RetR.none (Below.refl _ _)

set_option maxRecDepth 100000 in
set_option maxHeartbeats 1000000 in
theorem spring41_ok (a b : Nat) (d : Int) (w : World) (h1 : 1 ≤ a) (h2 : a ≤ 20) (h3 : 1 ≤ b) (h4 : b ≤ 20) (h5 : a < b) : Calls Try.prog 41 #[.int .i64 (a : Int), .int .i64 (b : Int), .int .i64 d] w (RetR w (springR a b d)) := by
  have Hq := Lib.hid (show within 1 20 [(a : Int), (b : Int)] = true by simp [within]; omega)
  have d1 : decide ((a : Int) < 1) = false := decide_eq_false (by omega)
  have d2 : decide (20 < (a : Int)) = false := decide_eq_false (by omega)
  have d3 : decide ((b : Int) < 1) = false := decide_eq_false (by omega)
  have d4 : decide (20 < (b : Int)) = false := decide_eq_false (by omega)
  have d5 : decide (b ≤ a) = false := decide_eq_false (by omega)
  by_cases hd : d < 0 ∨ 100000 < d
  · have Hm := Lib.hid (show springR a b d = ([], 3) by unfold springR; rw [if_pos ⟨Hq.out, by omega⟩, within_no hd]; rfl)
    by_cases e1 : d < 0
    · have e1' : decide (d < 0) = true := decide_eq_true e1
      clear hd
      go_enter Try.func41, Try.ntmps41
      go_wp2_with fail
      go_ret2
      rw [Hm.out]
      exact RetR.none (Below.refl _ _)
    · have e1' : decide (d < 0) = false := decide_eq_false e1
      have e2' : decide (100000 < d) = true := decide_eq_true (by omega)
      clear hd
      go_enter Try.func41, Try.ntmps41
      go_wp2_with fail
      go_ret2
      rw [Hm.out]
      exact RetR.none (Below.refl _ _)
  · have e1' : decide (d < 0) = false := decide_eq_false (by omega)
    have e2' : decide (100000 < d) = false := decide_eq_false (by omega)
    have Hm := Lib.hid (show springR a b d = (springRules d a (b - a), 0) by
      unfold springR
      rw [if_pos ⟨Hq.out, by omega⟩, within_yes (by omega) (by omega), if_pos rfl, Int.toNat_natCast, show ((b : Int) - (a : Int)).toNat = b - a by omega])
    clear hd
    go_enter Try.func41, Try.ntmps41
    go_wp2_with fail
    go_loopw [8, 9] (fun v8 v9 wr => ∃ (k : Nat) (A1 : Option Addr) (cap1 : Nat), a + k ≤ b ∧ v9 = .int .i64 ((a + k : Nat) : Int) ∧ v8 = .slice A1 (2 * k) cap1 ∧ wr.ownsRow w.heap.size 68 3 (.slice A1 (2 * k) cap1) (2 * k) (flat (springRules d a k)) ∧ Below w.heap.size w wr) (fun _ v9 _ => b - (intOf v9).toNat)
    case atStart => exact ⟨0, none, 0, by omega, rfl, rfl, World.ownsRow_nil _ _ _ _, Below.refl _ _⟩
    case round =>
      obtain ⟨k, A1, cap1, hk, rfl, rfl, hown, hB⟩ := hrel
      have Hown := Lib.hid hown
      have HB := Lib.hid hB
      have hwz := hB.size
      clear hown hB d1 d2 d3 d4 d5 e1' e2'
      by_cases hlt : a + k < b
      · have hlt2 : ((a + k : Nat) : Int) < (b : Int) := by omega
        have h20 : ((a + k : Nat) : Int) ≤ 20 := by omega
        have h00 : 0 ≤ ((a + k : Nat) : Int) := by omega
        obtain ⟨t, ht⟩ : ∃ t, a + k = t := ⟨_, rfl⟩
        rw [ht] at hlt2 h20 h00 ⊢
        go_wp2_with (at_builtin; refine wpList_append_rules rfl (.tmp 41) (.tmp 51) rfl w.heap.size _ (2 * k) (springRules d a k) rfl (own_keep Hown.out _) (some ⟨wr.heap.size, 0, none⟩) 2 2 [⟨(t : Int), (t : Int) + 1, 0⟩, ⟨(t : Int) + 1, (t : Int), d⟩] rfl (rules_two (heap_alloc_new _ _)) (by omega) (by simp; omega) ?_; intro A2 cap2 w3 hown2 hb2)
        have Hown2 := Lib.hid hown2
        have Hb2 := Lib.hid hb2
        clear hown2 hb2
        go_roundw
        case rel =>
          refine ⟨k + 1, A2, cap2, by omega, ?_, rfl, ?_, (HB.out.alloc hwz _).trans Hb2.out⟩
          · rw [show a + (k + 1) = t + 1 by omega]; rfl
          · have := Hown2.out
            rw [springRules, ht]
            exact this
        case measure => simp [intOf]; omega
      · obtain rfl : a + k = b := by omega
        go_wp2_with fail
        go_ret2
        rw [Hm.out, show a + k - a = k by omega]
        exact ⟨_, _, _, rfl, Rules.of_own Hown.out, HB.out⟩

theorem spring41 (f l d : Int) (w : World) : Calls Try.prog 41 #[.int .i64 f, .int .i64 l, .int .i64 d] w (RetR w (springR f l d)) := by
  by_cases h : f < 1 ∨ 20 < f ∨ l < 1 ∨ 20 < l ∨ l ≤ f
  · exact spring41_bad f l d w h
  · obtain ⟨a, rfl⟩ := Int.eq_ofNat_of_zero_le (show 0 ≤ f by omega)
    obtain ⟨b, rfl⟩ := Int.eq_ofNat_of_zero_le (show 0 ≤ l by omega)
    exact spring41_ok a b d w (by omega) (by omega) (by omega) (by omega) (by omega)
end Go.Proofs.Ytiankphkemakeaa
