/- The contracts of bounds, Pipe and Spring. -/
import Derived.Test.YtiankphkemakeaaFuncD
namespace Go.Proofs.Ytiankphkemakeaa
set_option linter.unusedSimpArgs false
set_option linter.unusedVariables false
open Go.RowKit Go.Shelf

set_option maxRecDepth 100000 in
theorem bounds71 (p l h : Int) (w : World) (hp : 1 ≤ p ∧ p ≤ 1000000000000) (hl : 1 ≤ l ∧ l ≤ 1000000) (hh : 1 ≤ h ∧ h ≤ 1000000) :
    Calls Try.prog 71 #[.int .i64 p, .int .i64 l, .int .i64 h] w fun e w' => e = .returned (.tuple #[.int .i64 ((p - 1) / h + 1), .int .i64 (p / l)]) ∧ Below w.heap.size w w' := by
  obtain ⟨hp0, hp1⟩ := hp
  obtain ⟨hl0, hl1⟩ := hl
  obtain ⟨hh0, hh1⟩ := hh
  have q1 : 0 ≤ (p - 1) / h := Int.ediv_nonneg (by omega) (by omega)
  have q2 : (p - 1) / h ≤ p - 1 := Int.ediv_le_self _ (by omega)
  go_enter Try.func71, Try.ntmps71
  go_wp2_with fail
  go_quiet (fail)
  go_wp2_with fail
  go_ret2
  exact ⟨rfl, drew_below _ _ _⟩

/-- What Pipe returns. -/
def pipeR (t p lo hi : Int) : List R × Int :=
  if within 1 20 [t] then
    if within 1 1000000 [p, lo, hi] = true ∧ lo ≤ hi then
      if (p * 16000 - 1) / hi + 1 ≤ min (p * 16000 / lo) 100000 then ([⟨0, t, min (p * 16000 / lo) 100000⟩, ⟨t, 0, -((p * 16000 - 1) / hi + 1)⟩], 0) else ([], 17)
    else ([], 3)
  else ([], 2)

/-- Rules and an error are returned. -/
def RetR (w : World) (r : List R × Int) (e : Ending) (w' : World) : Prop := ∃ C k capk, e = .returned (.tuple #[.slice C k capk, .int .i64 r.2]) ∧ Rules w' C k r.1 ∧ Below w.heap.size w w'
theorem RetR.none {w w' : World} {er : Int} (h : Below w.heap.size w w') : RetR w ([], er) (.returned (.tuple #[.slice none 0 0, .int .i64 er])) w' := ⟨_, _, _, rfl, ⟨rfl, fun h => absurd h (by omega)⟩, h⟩

set_option maxRecDepth 100000 in
set_option maxHeartbeats 1000000 in
theorem pipe38 (t p lo hi : Int) (w : World) :
    Calls Try.prog 38 #[.int .i64 t, .int .i64 p, .agg #[.int .i64 lo, .int .i64 hi]] w (RetR w (pipeR t p lo hi)) := by
  have HB0 := Lib.hid (show Below w.heap.size w ((w.alloc (.cells #[.int .i64 lo, .int .i64 hi] 43)).alloc (.cells #[.int .i64 t] 3)) from ((Below.refl _ _).alloc (Nat.le_refl _) _).alloc (by simp) _)
  go_enter Try.func38, Try.ntmps38
  go_wp2_with fail
  refine (within55_1 _ _ t _ _ _ ?c1).mono ?_
  case c1 => go_simp
  rintro e w2 ⟨rfl, rfl⟩
  cases hq : within 1 20 [t] with
  | false =>
    have Hq := Lib.hid hq
    clear hq
    go_wp2_with fail
    go_ret2
    have hm : pipeR t p lo hi = ([], 2) := by unfold pipeR; rw [Hq.out]; rfl
    rw [hm]
    exact RetR.none HB0.out
  | true =>
    have Hq := Lib.hid hq
    have ht : 1 ≤ t ∧ t ≤ 20 := by simpa [within] using hq
    obtain ⟨ht1, ht2⟩ := ht
    clear hq
    go_wp2_with fail
    refine (within56 _ 3 _ [p, lo, hi] _ _ _ (ints_three ?c1 ?c2 ?c3) (by omega)).mono ?_
    case c1 => go_simp
    case c2 => go_simp
    case c3 => go_simp
    rintro e w2 ⟨rfl, rfl⟩
    cases hq2 : within 1 1000000 [p, lo, hi] with
    | false =>
      have Hq2 := Lib.hid hq2
      clear hq2
      go_wp2_with fail
      go_ret2
      have hm : pipeR t p lo hi = ([], 3) := by unfold pipeR; rw [Hq.out, Hq2.out]; simp
      rw [hm]
      exact RetR.none (HB0.out.alloc (by simp; omega) _)
    | true =>
      have Hq2 := Lib.hid hq2
      have hpl : (1 ≤ p ∧ p ≤ 1000000) ∧ (1 ≤ lo ∧ lo ≤ 1000000) ∧ 1 ≤ hi ∧ hi ≤ 1000000 := by simpa [within] using hq2
      obtain ⟨⟨hp1, hp2⟩, ⟨hl1, hl2⟩, hh1, hh2⟩ := hpl
      clear hq2
      by_cases hlh : hi < lo
      · go_wp2_with fail
        go_ret2
        have hm : pipeR t p lo hi = ([], 3) := by unfold pipeR; rw [Hq.out, if_pos rfl, if_neg (fun h => by omega)]
        rw [hm]
        exact RetR.none (HB0.out.alloc (by simp; omega) _)
      · have hlh2 : decide (hi < lo) = false := decide_eq_false hlh
        go_wp2_with fail
        refine (bounds71 (p * 16000) lo hi _ ⟨by omega, by omega⟩ ⟨hl1, hl2⟩ ⟨hh1, hh2⟩).mono ?_
        rintro e w3 ⟨rfl, hb3⟩
        have hm : pipeR t p lo hi = if (p * 16000 - 1) / hi + 1 ≤ min (p * 16000 / lo) 100000 then ([⟨0, t, min (p * 16000 / lo) 100000⟩, ⟨t, 0, -((p * 16000 - 1) / hi + 1)⟩], 0) else ([], 17) := by unfold pipeR; rw [Hq.out, if_pos rfl, if_pos ⟨Hq2.out, by omega⟩]
        have Hm := Lib.hid hm
        have q1 : 0 ≤ (p * 16000 - 1) / hi := Int.ediv_nonneg (by omega) (by omega)
        have q2 : (p * 16000 - 1) / hi ≤ p * 16000 - 1 := Int.ediv_le_self _ (by omega)
        have q3 : 0 ≤ p * 16000 / lo := Int.ediv_nonneg (by omega) (by omega)
        obtain ⟨a, ha⟩ : ∃ a, (p * 16000 - 1) / hi + 1 = a := ⟨_, rfl⟩
        obtain ⟨b, hb⟩ : ∃ b, p * 16000 / lo = b := ⟨_, rfl⟩
        rw [ha, hb] at Hm
        rw [ha, hb]
        have a1 : 1 ≤ a := by omega
        have a2 : a ≤ 16000000000 := by omega
        rw [hb] at q3
        have Hb3 := Lib.hid hb3
        have hz3 : w.heap.size ≤ w3.heap.size := by have := hb3.size; simp at this; omega
        have HBA := Lib.hid (show Below w.heap.size w w3 from (HB0.out.alloc (by simp; omega) _).trans (hb3.mono (by simp; omega)))
        clear hm ha hb q1 q2 hb3
        go_wp2_with fail
        all_goals (try (exfalso; omega))
        all_goals go_ret2
        all_goals rw [Hm.out]
        all_goals first
          | (rw [if_neg (by omega)]; exact RetR.none HBA.out)
          | (rw [if_pos (by omega), Int.min_eq_right (by omega)]; exact ⟨_, _, _, rfl, rules_two (heap_alloc_new _ _), HBA.out.alloc hz3 _⟩)
          | (rw [if_pos (by omega), Int.min_eq_left (by omega)]; exact ⟨_, _, _, rfl, rules_two (heap_alloc_new _ _), HBA.out.alloc hz3 _⟩)

/-- What Spring returns. -/
def springRules (d : Int) : Nat → Nat → List R
  | _, 0 => []
  | f, k + 1 => springRules d f k ++ [⟨(f + k : Nat), (f + k : Nat) + 1, 0⟩, ⟨(f + k : Nat) + 1, (f + k : Nat), d⟩]
def springR (f l d : Int) : List R × Int :=
  if within 1 20 [f, l] = true ∧ f < l then
    if within 0 100000 [d] then (springRules d f.toNat (l - f).toNat, 0) else ([], 3)
  else ([], 2)
theorem springRules_length (d : Int) (f : Nat) : ∀ k, (springRules d f k).length = 2 * k
  | 0 => rfl
  | k + 1 => by simp only [springRules, List.length_append, springRules_length d f k, List.length_cons, List.length_nil]; omega
theorem own_keep {w : World} {base : Nat} {A : Option Addr} {n cap : Nat} {rs : List R} (h : w.ownsRow base 68 3 (.slice A n cap) n (flat rs)) (o : Obj) : (w.alloc o).ownsRow base 68 3 (.slice A n cap) n (flat rs) :=
  own_below h ((Below.refl _ _).alloc (Nat.le_refl _) o) (Nat.le_refl _)

set_option maxRecDepth 100000 in
set_option maxHeartbeats 1000000 in
theorem spring40 (f l d : Int) (w : World) : Calls Try.prog 40 #[.int .i64 f, .int .i64 l, .int .i64 d] w (RetR w (springR f l d)) := by
  have HB0 := Lib.hid (show Below w.heap.size w (w.alloc (.cells #[.int .i64 f, .int .i64 l] 3)) from (Below.refl _ _).alloc (Nat.le_refl _) _)
  go_enter Try.func40, Try.ntmps40
  go_wp2_with fail
  refine (within55_2 _ _ f l _ _ _ ?c1 ?c2).mono ?_
  case c1 => go_simp
  case c2 => go_simp
  rintro e w2 ⟨rfl, rfl⟩
  cases hq : within 1 20 [f, l] with
  | false =>
    have Hq := Lib.hid hq
    clear hq
    go_wp2_with fail
    go_ret2
    have hm : springR f l d = ([], 2) := by unfold springR; rw [Hq.out]; simp
    rw [hm]
    exact RetR.none HB0.out
  | true =>
    have Hq := Lib.hid hq
    have hfl : (1 ≤ f ∧ f ≤ 20) ∧ 1 ≤ l ∧ l ≤ 20 := by simpa [within] using hq
    obtain ⟨⟨hf1, hf2⟩, hl1, hl2⟩ := hfl
    clear hq
    by_cases hge : l ≤ f
    · have hge2 : decide (l ≤ f) = true := decide_eq_true hge
      go_wp2_with fail
      go_ret2
      have hm : springR f l d = ([], 2) := by unfold springR; rw [if_neg (fun h => by omega)]
      rw [hm]
      exact RetR.none HB0.out
    · have hge2 : decide (l ≤ f) = false := decide_eq_false hge
      go_wp2_with fail
      refine (within56_1 _ _ d _ _ _ ?c3).mono ?_
      case c3 => go_simp
      rintro e w2 ⟨rfl, rfl⟩
      cases hq2 : within 0 100000 [d] with
      | false =>
        have Hq2 := Lib.hid hq2
        clear hq2
        go_wp2_with fail
        go_ret2
        have hm : springR f l d = ([], 3) := by unfold springR; rw [if_pos ⟨Hq.out, by omega⟩, Hq2.out]; rfl
        rw [hm]
        exact RetR.none (HB0.out.alloc (by simp) _)
      | true =>
        have Hq2 := Lib.hid hq2
        have hd : 0 ≤ d ∧ d ≤ 100000 := by simpa [within] using hq2
        obtain ⟨hd1, hd2⟩ := hd
        clear hq2
        obtain ⟨a, rfl⟩ := Int.eq_ofNat_of_zero_le (show 0 ≤ f by omega)
        obtain ⟨b, rfl⟩ := Int.eq_ofNat_of_zero_le (show 0 ≤ l by omega)
        have Hm := Lib.hid (show springR a b d = (springRules d a (b - a), 0) by
          unfold springR
          rw [if_pos ⟨Hq.out, by omega⟩, Hq2.out, if_pos rfl, Int.toNat_natCast, show ((b : Int) - (a : Int)).toNat = b - a by omega])
        have HB1 := Lib.hid (HB0.out.alloc (show w.heap.size ≤ (w.alloc (.cells #[.int .i64 (a : Int), .int .i64 (b : Int)] 3)).heap.size by simp) (.cells #[.int .i64 d] 2))
        obtain ⟨W1, hW1⟩ : ∃ W1, (w.alloc (.cells #[.int .i64 (a : Int), .int .i64 (b : Int)] 3)).alloc (.cells #[.int .i64 d] 2) = W1 := ⟨_, rfl⟩
        rw [hW1] at HB1
        go_wp2_with fail
        try rw [hW1]
        clear hW1
        go_loopw [8, 9] (fun v8 v9 wr => ∃ (k : Nat) (A1 : Option Addr) (cap1 : Nat), a + k ≤ b ∧ v9 = .int .i64 ((a + k : Nat) : Int) ∧ v8 = .slice A1 (2 * k) cap1 ∧ wr.ownsRow w.heap.size 68 3 (.slice A1 (2 * k) cap1) (2 * k) (flat (springRules d a k)) ∧ Below w.heap.size w wr) (fun _ v9 _ => b - (intOf v9).toNat)
        case atStart => exact ⟨0, none, 0, by omega, rfl, rfl, World.ownsRow_nil _ _ _ _, HB1.out⟩
        case round =>
          obtain ⟨k, A1, cap1, hk, rfl, rfl, hown, hB⟩ := hrel
          have Hown := Lib.hid hown
          have HB := Lib.hid hB
          have hwz := hB.size
          clear hown hB
          by_cases hlt : a + k < b
          · have hlt2 : ((a + k : Nat) : Int) < (b : Int) := by omega
            have h20 : ((a + k : Nat) : Int) ≤ 20 := by omega
            have h00 : 0 ≤ ((a + k : Nat) : Int) := by omega
            obtain ⟨t, ht⟩ : ∃ t, a + k = t := ⟨_, rfl⟩
            rw [ht] at hlt2 h20 h00 ⊢
            go_wp2_with (at_builtin; refine wpList_append_rules rfl (.tmp 30) (.tmp 40) rfl w.heap.size _ (2 * k) (springRules d a k) rfl (own_keep Hown.out _) (some ⟨wr.heap.size, 0, none⟩) 2 2 [⟨(t : Int), (t : Int) + 1, 0⟩, ⟨(t : Int) + 1, (t : Int), d⟩] rfl (rules_two (heap_alloc_new _ _)) (by omega) (by simp; omega) ?_; intro A2 cap2 w3 hown2 hb2)
            have Hown2 := Lib.hid hown2
            have Hb2 := Lib.hid hb2
            clear hown2 hb2
            go_roundw
            case rel =>
              refine ⟨k + 1, A2, cap2, by omega, ?_, rfl, ?_, (HB.out.alloc hwz _).trans Hb2.out⟩
              · rw [show a + (k + 1) = t + 1 by omega]; rfl
              · have := Hown2.out
                rw [springRules, ht]
                exact this
            case measure => simp [intOf]; omega
          · obtain rfl : a + k = b := by omega
            go_wp2_with fail
            go_ret2
            rw [Hm.out, show a + k - a = k by omega]
            exact ⟨_, _, _, rfl, Rules.of_own Hown.out, HB.out⟩
end Go.Proofs.Ytiankphkemakeaa
