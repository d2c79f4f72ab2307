/- The contract of the document's CheckSheet and IsRule. -/
import Derived.Test.YtiankphkemakeaaChk
import Derived.StillTailTactics
import Derived.BigQuiet
namespace Go.Proofs.Ytiankphkemakeaa
set_option linter.unusedSimpArgs false
set_option linter.unusedVariables false
open Go.RowKit

theorem chkR_iff (T : Int) (r : R) : chkR T r = true ↔ 0 ≤ r.f ∧ r.f ≤ T ∧ 0 ≤ r.t ∧ r.t ≤ T ∧ r.f ≠ r.t ∧ -100000 ≤ r.m ∧ r.m ≤ 100000 := by
  simp [chkR, within]; omega

theorem chkR_yes {T : Int} {r : R} (h : 0 ≤ r.f ∧ r.f ≤ T ∧ 0 ≤ r.t ∧ r.t ≤ T ∧ r.f ≠ r.t ∧ -100000 ≤ r.m ∧ r.m ≤ 100000) : chkR T r = true := (chkR_iff T r).2 h
theorem chkR_no {T : Int} {r : R} (h : ¬ (0 ≤ r.f ∧ r.f ≤ T ∧ 0 ≤ r.t ∧ r.t ≤ T ∧ r.f ≠ r.t ∧ -100000 ≤ r.m ∧ r.m ≤ 100000)) : chkR T r = false := by
  cases hc : chkR T r with
  | false => rfl
  | true => exact absurd ((chkR_iff T r).1 hc) h

set_option maxHeartbeats 400000 in
theorem isRule57 (f t m T : Int) (w : World) :
    Calls Try.prog 57 #[.agg #[.int .i64 f, .int .i64 t, .int .i64 m], .int .i64 T] w fun e w' => e = .returned (.bool (chkR T ⟨f, t, m⟩)) ∧ Below w.heap.size w w' := by
  have hy : Hid ((0 ≤ f ∧ f ≤ T ∧ 0 ≤ t ∧ t ≤ T ∧ f ≠ t ∧ -100000 ≤ m) → chkR T ⟨f, t, m⟩ = decide (m ≤ 100000)) := fun h => by
    by_cases hm : m ≤ 100000
    · rw [decide_eq_true hm]; exact chkR_yes ⟨h.1, h.2.1, h.2.2.1, h.2.2.2.1, h.2.2.2.2.1, h.2.2.2.2.2, hm⟩
    · rw [decide_eq_false hm]; exact chkR_no (fun h' => hm h'.2.2.2.2.2.2)
  have hn : Hid (¬ (0 ≤ f ∧ f ≤ T ∧ 0 ≤ t ∧ t ≤ T ∧ f ≠ t ∧ -100000 ≤ m) → chkR T ⟨f, t, m⟩ = false) := fun h => chkR_no (fun h' => h ⟨h'.1, h'.2.1, h'.2.2.1, h'.2.2.2.1, h'.2.2.2.2.1, h'.2.2.2.2.2.1⟩)
  go_enter Try.func57, Try.ntmps57
  go_wp2
  all_goals
    go_ret
    exact ⟨ret_bool (by first | (rw [hn.out (by omega)]; done) | (rw [hy.out (by omega)]; done) | (rw [hy.out (by omega), bne_iff_ne.2 (by assumption)]; rfl)), (Below.refl _ _).alloc (Nat.le_refl _) _⟩

set_option maxHeartbeats 400000 in
theorem checkSheet19_many (A : Option Addr) (n cap : Nat) (rs : List R) (T : Int) (w : World) (h : Rules w A n rs) (hn : n ≤ 140737488355328) (h60 : 60 < n) :
    Calls Try.prog 19 #[.agg #[.int .i64 T, .slice A n cap]] w fun e w' => e = .returned (.int .i64 (chk T rs)) ∧ Below w.heap.size w w' := by
  have Hc := Lib.hid (show chk T rs = 6 by unfold chk; rw [if_pos (by rw [h.1]; exact h60)])
  go_enter Try.func19, Try.ntmps19
  go_wp2
  go_ret
  exact ⟨ret_int Hc.out.symm, (Below.refl _ _).alloc (Nat.le_refl _) _⟩

theorem within_one (lo hi a : Int) : within lo hi [a] = (decide (lo ≤ a) && decide (a ≤ hi)) := by simp [within]

set_option maxHeartbeats 400000 in
theorem checkSheet19_arg (A : Option Addr) (n cap : Nat) (rs : List R) (T : Int) (w : World) (h : Rules w A n rs) (h60 : n ≤ 60) (hT : within 1 20 [T] = false) :
    Calls Try.prog 19 #[.agg #[.int .i64 T, .slice A n cap]] w fun e w' => e = .returned (.int .i64 (chk T rs)) ∧ Below w.heap.size w w' := by
  have Hc := Lib.hid (show chk T rs = 2 by unfold chk; rw [if_neg (by rw [h.1]; omega), hT]; rfl)
  have hT2 : T < 1 ∨ 20 < T := by rw [within_one] at hT; simp at hT; omega
  clear hT
  rcases hT2 with hT | hT
  all_goals
    go_enter Try.func19, Try.ntmps19
    go_wp2
    go_ret
    exact ⟨ret_int Hc.out.symm, (Below.refl _ _).alloc (Nat.le_refl _) _⟩

set_option maxRecDepth 100000 in
set_option maxHeartbeats 400000 in
theorem checkSheet19_loop (A : Option Addr) (n cap : Nat) (rs : List R) (T : Int) (w : World) (h : Rules w A n rs) (h60 : n ≤ 60) (hT : within 1 20 [T] = true) :
    Calls Try.prog 19 #[.agg #[.int .i64 T, .slice A n cap]] w fun e w' => e = .returned (.int .i64 (chk T rs)) ∧ Below w.heap.size w w' := by
  have Hc := Lib.hid (show chk T rs = if rs.all (chkR T) then 0 else 3 by unfold chk; rw [if_neg (by rw [h.1]; omega), hT]; rfl)
  have hT2 : 1 ≤ T ∧ T ≤ 20 := by rw [within_one] at hT; simp at hT; omega
  obtain ⟨hT1, hT2⟩ := hT2
  clear hT
  go_enter Try.func19, Try.ntmps19
  go_wp2_with fail
  have hB0 : Below w.heap.size w (w.alloc (.cells #[.int .i64 T, .slice A n cap] 24)) := (Below.refl _ _).alloc (Nat.le_refl _) _
  have h0 := h.below hB0 (Nat.le_refl _)
  have hbox0 : (w.alloc (.cells #[.int .i64 T, .slice A n cap] 24)).cell? ⟨w.heap.size, 0, none⟩ = some (.int .i64 T) := by go_simp
  have hbox1 : (w.alloc (.cells #[.int .i64 T, .slice A n cap] 24)).cell? ⟨w.heap.size, 1, none⟩ = some (.slice A n cap) := by go_simp
  have hsz0 : (w.alloc (.cells #[.int .i64 T, .slice A n cap] 24)).heap.size = w.heap.size + 1 := by simp
  obtain ⟨W0, hW0⟩ : ∃ W0, (w.alloc (.cells #[.int .i64 T, .slice A n cap] 24)) = W0 := ⟨_, rfl⟩
  rw [hW0] at hB0 h0 hbox0 hbox1 hsz0 ⊢
  clear hW0
  go_loopw [3] (fun i wr => ∃ k : Nat, k ≤ n ∧ i = .int .i64 k ∧ (rs.take k).all (chkR T) = true ∧ Below W0.heap.size W0 wr) (fun i _ => n - (intOf i).toNat)
  case atStart => exact ⟨0, Nat.zero_le _, rfl, rfl, Below.refl _ _⟩
  case round =>
    obtain ⟨k, hk, rfl, hall, hB⟩ := hrel
    have Hend : Hid (Below w.heap.size w wr) := hB0.trans (hB.mono (by omega))
    have hz : w.heap.size < wr.heap.size := by have := hB.size; omega
    have cb := (hB.cell (p := ⟨w.heap.size, 0, none⟩) (by simp; omega)).trans hbox0
    have cb1 := (hB.cell (p := ⟨w.heap.size, 1, none⟩) (by simp; omega)).trans hbox1
    by_cases hlt : k < n
    · obtain ⟨hl, hcs⟩ := h0.below hB (Nat.le_refl _)
      obtain ⟨b, o, rfl, hc⟩ := hcs (by omega)
      obtain ⟨c0, c1, c2⟩ := hc k hlt
      have Hl := Lib.hid hl
      have Hall := Lib.hid hall
      have HB := Lib.hid hB
      have Hsz := Lib.hid hsz0
      have Hstop : Hid (chkR T (rAt rs k) = false → chk T rs = 3) := fun hf => by rw [Hc.out, all_stop_r _ _ _ (by rw [Hl.out]; exact hlt) hf]; rfl
      have Hr : Hid (chkR T (rAt rs k) = chkR T ⟨rf rs k, rt rs k, rm rs k⟩) := rfl
      clear hl hcs hc hbox0 hbox1 h0 h hB0 hsz0 hB hall
      go_wp2_with fail
      have hi0 : (0 : Int) ≤ (k : Int) := by omega
      have hi1 : (k : Int) < (n : Int) := by omega
      go_still_tail 7, (by kernel_rfl)
      go_wp2_with fail
      refine (isRule57 _ _ _ _ _).mono ?_
      rintro e w1 ⟨rfl, hb1⟩
      have HB1 := Lib.hid hb1
      clear hb1
      have hc1 : Hid (Below w.heap.size w w1) := (Hend.out.drew).trans (HB1.out.mono (by simp; omega))
      have hc2 : Hid (Below W0.heap.size W0 w1) := (HB.out.drew).trans (HB1.out.mono HB.out.size)
      cases hq : chkR T ⟨rf rs k, rt rs k, rm rs k⟩ with
      | false =>
        have Hq := Lib.hid hq
        clear hq
        go_wp2_with fail
        go_ret
        exact ⟨ret_int (Hstop.out (by rw [Hr.out, Hq.out])).symm, hc1.out⟩
      | true =>
        have Hq := Lib.hid hq
        clear hq
        go_wp2_with fail
        go_roundw
        case rel => exact ⟨k + 1, by omega, by go_num, by rw [all_take_r _ _ _ (by rw [Hl.out]; exact hlt), Hall.out, Hr.out, Hq.out]; rfl, hc2.out⟩
        case measure => simp [intOf]; omega
    · have hall' : rs.all (chkR T) = true := by rw [← hall, List.take_of_length_le (by rw [h0.1]; omega)]
      have Hall := Lib.hid hall'
      clear hall hall' hB hB0 hsz0 hbox0 hbox1 h0 h
      go_wp2_with fail
      go_ret
      exact ⟨ret_int (by rw [Hc.out, Hall.out]; rfl), Hend.out⟩

theorem checkSheet19 (A : Option Addr) (n cap : Nat) (rs : List R) (T : Int) (w : World) (h : Rules w A n rs) (hn : n ≤ 140737488355328) :
    Calls Try.prog 19 #[.agg #[.int .i64 T, .slice A n cap]] w fun e w' => e = .returned (.int .i64 (chk T rs)) ∧ Below w.heap.size w w' := by
  by_cases h60 : 60 < n
  · exact checkSheet19_many A n cap rs T w h hn h60
  · cases hT : within 1 20 [T] with
    | false => exact checkSheet19_arg A n cap rs T w h (by omega) hT
    | true => exact checkSheet19_loop A n cap rs T w h (by omega) hT

end Go.Proofs.Ytiankphkemakeaa
