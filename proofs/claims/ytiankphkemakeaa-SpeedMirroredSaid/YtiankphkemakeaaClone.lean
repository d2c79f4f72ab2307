/- The contracts of slices.Clone at rules and at numbers, and of complete. -/
import Derived.Test.YtiankphkemakeaaAll
import Derived.Lib.SliceRun
namespace Go.Proofs.Ytiankphkemakeaa
set_option linter.unusedSimpArgs false
set_option linter.unusedVariables false
open Go.RowKit

set_option maxHeartbeats 400000 in
theorem clone72 (A : Option Addr) (n cap : Nat) (rs : List R) (w : World) (h : Rules w A n rs) (hn : n ≤ 1000000) :
    Calls Try.prog 72 #[.slice A n cap] w fun e w' => ∃ A' cap', e = .returned (.slice A' n cap') ∧ w'.ownsRow w.heap.size 68 3 (.slice A' n cap') n (flat rs) ∧ Below w.heap.size w w' := by
  have q22 : ∀ (w : World) (a : Option Addr) (n c n' c' : Nat), (binOp .eql 22 (.slice a n c) (.slice none n' c')).run Try.prog w = .ok (.bool a.isNone) w := fun w a n c n' c' => Lib.run_eql_slice_nil w _ _ a n c n' c' Try.underlying22
  cases A with
  | none =>
    have hn0 : n = 0 := by
      rcases Nat.eq_zero_or_pos n with h0 | h0
      · exact h0
      · obtain ⟨b, o, e, _⟩ := h.2 h0
        cases e
    subst hn0
    have hr : rs = [] := List.eq_nil_of_length_eq_zero h.1
    subst hr
    go_enter Try.func72, Try.ntmps72
    go_wp2
    go_ret
    exact ⟨none, 0, rfl, World.ownsRow_nil _ _ _ _, Below.refl _ _⟩
  | some a =>
    have hown0 : (w.alloc (.cells #[] 68)).ownsRow w.heap.size 68 3 (.slice (some ⟨w.heap.size, 0, none⟩) 0 0) 0 (flat []) := own_empty (heap_alloc_new w _) (Nat.le_refl _)
    have Hown0 := Lib.hid hown0
    have HB0 := Lib.hid ((Below.refl w.heap.size w).alloc (Nat.le_refl _) (.cells #[] 68))
    have H0 := Lib.hid (h.below HB0.out (Nat.le_refl _))
    clear hown0 h
    go_enter Try.func72, Try.ntmps72
    go_wp2_with (at_builtin; refine wpList_append_rules rfl (.tmp 5) (.tmp 6) rfl w.heap.size _ 0 [] rfl Hown0.out (some a) n cap rs rfl H0.out (by omega) (by simp) ?_; intro A1 cap1 w1 hown1 hb1)
    go_ret
    exact ⟨A1, cap1, rfl, by simpa using hown1, HB0.out.trans hb1⟩

theorem chk_ok {T : Int} {rs : List R} (h : chk T rs = 0) : rs.length ≤ 60 ∧ 1 ≤ T ∧ T ≤ 20 ∧ rs.all (chkR T) = true := by
  unfold chk at h
  by_cases h1 : 60 < rs.length
  · rw [if_pos h1] at h; omega
  · rw [if_neg h1] at h
    cases h2 : within 1 20 [T] with
    | false => rw [h2] at h; simp at h
    | true =>
      rw [h2] at h
      cases h3 : rs.all (chkR T) with
      | false => rw [h3] at h; simp at h
      | true =>
        rw [within_one] at h2
        simp at h2
        exact ⟨by omega, h2.1, h2.2, rfl⟩

set_option maxHeartbeats 400000 in
theorem complete53_bad (A : Option Addr) (n cap : Nat) (T : Int) (rs : List R) (w : World) (h : Rules w A n rs) (hn : n ≤ 140737488355328) (he : chk T rs ≠ 0) :
    Calls Try.prog 53 #[.agg #[.int .i64 T, .slice A n cap]] w fun e w' => e = .returned (.tuple #[.agg #[.int .i64 0, .slice none 0 0, .slice none 0 0], .int .i64 (chk T rs)]) ∧ Below w.heap.size w w' := by
  have he2 : (chk T rs != 0) = true := by rw [bne_iff_ne]; exact he
  have HB0 := Lib.hid (show Below w.heap.size w ((w.alloc (.cells #[.int .i64 T, .slice A n cap] 24)).alloc (.cells #[.int .i64 0, .slice none 0 0, .slice none 0 0] 79)) from ((Below.refl _ _).alloc (Nat.le_refl _) _).alloc (by simp) _)
  have H0 := Lib.hid (h.below HB0.out (Nat.le_refl _))
  clear h he
  go_enter Try.func53, Try.ntmps53
  go_wp2_with fail
  refine (checkSheet18 A n cap rs T _ H0.out hn).mono ?_
  rintro e w1 ⟨rfl, hb⟩
  have hz : w.heap.size + 1 < w1.heap.size := by have := hb.size; simp at this; omega
  have hc := (bcell hb).1
  have hf := (bcell hb).2
  have Hb := Lib.hid hb
  clear hb
  go_wp2
  refine bodyPost_ret (v := .tuple #[.agg #[.int .i64 0, .slice none 0 0, .slice none 0 0], .int .i64 (chk T rs)]) (by simp [results, Try.results53, go_sem, hc, hz]) rfl ⟨rfl, ?_⟩
  exact (((HB0.out.trans (Hb.out.mono (by simp; omega))).setCell (by simp) _).setCell (by simp) _).setCell (by simp) _

theorem own_base {W : World} {base base' t s n : Nat} {v : Value} {xs : List Value} (h : W.ownsRow base t s v n xs) (hb : base' ≤ base) : W.ownsRow base' t s v n xs :=
  ⟨h.1, h.2.imp id (fun ⟨g, c, cur, h1, h2, r⟩ => ⟨g, c, cur, h1, Nat.le_trans hb h2, r⟩)⟩

theorem own_setCell {W : World} {base t s n : Nat} {v : Value} {xs : List Value} (h : W.ownsRow base t s v n xs) {p : Addr} (hp : p.block < base) (u : Value) : (W.setCell p u).ownsRow base t s v n xs :=
  ownsRow_setCell_below h hp u

set_option maxRecDepth 100000 in
set_option maxHeartbeats 800000 in
theorem complete53_ok (A : Option Addr) (n cap T : Nat) (rs : List R) (w : World) (h : Rules w A n rs) (he : chk T rs = 0) :
    Calls Try.prog 53 #[.agg #[.int .i64 (T : Int), .slice A n cap]] w fun e w' => ∃ A' cap', e = .returned (.tuple #[.agg #[.int .i64 (T : Int), .slice A n cap, .slice A' (n + 2 * T) cap'], .int .i64 0]) ∧
      w'.ownsRow w.heap.size 68 3 (.slice A' (n + 2 * T) cap') (n + 2 * T) (flat (whole T rs)) ∧ Below w.heap.size w w' := by
  obtain ⟨hl60, hT1, hT20, _⟩ := chk_ok he
  have hn60 : n ≤ 60 := by rw [← h.1]; exact hl60
  have He := Lib.hid he
  have HB0 := Lib.hid (show Below w.heap.size w ((w.alloc (.cells #[.int .i64 (T : Int), .slice A n cap] 24)).alloc (.cells #[.int .i64 0, .slice none 0 0, .slice none 0 0] 79)) from ((Below.refl _ _).alloc (Nat.le_refl _) _).alloc (by simp) _)
  have H0 := Lib.hid (h.below HB0.out (Nat.le_refl _))
  clear h he hl60
  go_enter Try.func53, Try.ntmps53
  go_wp2_with fail
  refine (checkSheet18 A n cap rs T _ H0.out (by omega)).mono ?_
  rintro e w1 ⟨rfl, hb⟩
  rw [He.out]
  have hz : w.heap.size + 1 < w1.heap.size := by have := hb.size; simp at this; omega
  have c0 : w1.cell? ⟨w.heap.size, 0, none⟩ = some (.int .i64 (T : Int)) := by rw [(bcell hb).1 _ _ (by simp; omega)]; go_simp
  have c1 : w1.cell? ⟨w.heap.size, 1, none⟩ = some (.slice A n cap) := by rw [(bcell hb).1 _ _ (by simp; omega)]; go_simp
  have d0 : w1.cell? ⟨w.heap.size + 1, 0, none⟩ = some (.int .i64 0) := by rw [(bcell hb).1 _ _ (by simp)]; go_simp
  have d1 : w1.cell? ⟨w.heap.size + 1, 1, none⟩ = some (.slice none 0 0) := by rw [(bcell hb).1 _ _ (by simp)]; go_simp
  have d2 : w1.cell? ⟨w.heap.size + 1, 2, none⟩ = some (.slice none 0 0) := by rw [(bcell hb).1 _ _ (by simp)]; go_simp
  have d3 : w1.frozen? ⟨w.heap.size + 1, 0, none⟩ = false := by rw [(bcell hb).2 _ _ (by simp)]; go_simp
  have d4 : w1.frozen? ⟨w.heap.size + 1, 1, none⟩ = false := by rw [(bcell hb).2 _ _ (by simp)]; go_simp
  have d5 : w1.frozen? ⟨w.heap.size + 1, 2, none⟩ = false := by rw [(bcell hb).2 _ _ (by simp)]; go_simp
  have H1 := Lib.hid (H0.out.below hb (Nat.le_refl _))
  have Hb := Lib.hid (HB0.out.trans (hb.mono (by simp; omega)))
  clear hb
  go_wp2_with fail
  refine (clone72 A n cap rs _ H1.out (by omega)).mono ?_
  rintro e w2 ⟨A1, cap1, rfl, hown, hb⟩
  have Hown := Lib.hid hown
  have Hc0 := Lib.hid (((bcell hb).1 _ _ (by omega)).trans c0)
  have Hc1 := Lib.hid (((bcell hb).1 _ _ (by omega)).trans c1)
  have Hd0 := Lib.hid (((bcell hb).1 _ _ (by omega)).trans d0)
  have Hd1 := Lib.hid (((bcell hb).1 _ _ (by omega)).trans d1)
  have Hd2 := Lib.hid (((bcell hb).1 _ _ (by omega)).trans d2)
  have Hd3 := Lib.hid (((bcell hb).2 _ _ (by omega)).trans d3)
  have Hd4 := Lib.hid (((bcell hb).2 _ _ (by omega)).trans d4)
  have Hd5 := Lib.hid (((bcell hb).2 _ _ (by omega)).trans d5)
  have hz2 : w1.heap.size ≤ w2.heap.size := hb.size
  have Hb2 := Lib.hid (Hb.out.trans (hb.mono (by omega)))
  clear hb hown c0 c1 d0 d1 d2 d3 d4 d5
  go_wp2_with fail
  go_loopw [5, 6] (fun v i wr => ∃ (k : Nat) (A2 : Option Addr) (cap2 : Nat), k ≤ T ∧ i = .int .i64 ((k : Int) + 1) ∧ v = .slice A2 (n + 2 * k) cap2 ∧ wr.ownsRow w1.heap.size 68 3 (.slice A2 (n + 2 * k) cap2) (n + 2 * k) (flat (whole k rs)) ∧ Below w1.heap.size w2 wr) (fun _ i _ => T + 1 - (intOf i).toNat)
  case atStart => exact ⟨0, A1, cap1, Nat.zero_le _, rfl, rfl, by simpa [whole, turnRules] using Hown.out, Below.refl _ _⟩
  case round =>
    obtain ⟨k, A2, cap2, hk, rfl, rfl, hown, hb⟩ := hrel
    have c0 := ((bcell hb).1 _ _ (by omega)).trans Hc0.out
    have c1 := ((bcell hb).1 _ _ (by omega)).trans Hc1.out
    have d0 := ((bcell hb).1 _ _ (by omega)).trans Hd0.out
    have d1 := ((bcell hb).1 _ _ (by omega)).trans Hd1.out
    have d2 := ((bcell hb).1 _ _ (by omega)).trans Hd2.out
    have d3 := ((bcell hb).2 _ _ (by omega)).trans Hd3.out
    have d4 := ((bcell hb).2 _ _ (by omega)).trans Hd4.out
    have d5 := ((bcell hb).2 _ _ (by omega)).trans Hd5.out
    have hz3 : w.heap.size + 1 < wr.heap.size := by have := hb.size; omega
    have hz4 : w1.heap.size ≤ wr.heap.size := by have := hb.size; omega
    have Hown := Lib.hid hown
    have Hb := Lib.hid hb
    clear hown hb
    by_cases hlt : k < T
    · go_wp2_with (at_builtin; refine wpList_append_rules rfl (.tmp 22) (.tmp 27) rfl w1.heap.size _ (n + 2 * k) (whole k rs) rfl (Hown.out.alloc _) (some ⟨wr.heap.size, 0, none⟩) 2 2 [⟨0, (k : Int) + 1, 100000⟩, ⟨(k : Int) + 1, 0, 0⟩] rfl (rules_two (heap_alloc_new _ _)) (by omega) (by have := Hb.out.size; simp; omega) ?_; intro A3 cap3 w3 hown3 hb3)
      go_roundw
      case rel => exact ⟨k + 1, A3, cap3, by omega, by go_num, by rw [Nat.mul_succ, ← Nat.add_assoc], by rw [whole_succ, Nat.mul_succ, ← Nat.add_assoc]; exact hown3, (Hb.out.alloc (by omega) _).trans hb3⟩
      case measure => simp [intOf]; omega
    · obtain rfl : k = T := by omega
      go_wp2_with fail
      refine bodyPost_ret (v := .tuple #[.agg #[.int .i64 (k : Int), .slice A n cap, .slice A2 (n + 2 * k) cap2], .int .i64 0]) (by simp [results, Try.results53, go_sem, d0, d1, d2]) rfl ⟨A2, cap2, rfl, ?_, ?_⟩
      · exact own_base (own_setCell (own_setCell (own_setCell Hown.out (by simp; omega) _) (by simp; omega) _) (by simp; omega) _) (by omega)
      · exact (((Hb2.out.trans (Hb.out.mono (by omega))).setCell (by simp) _).setCell (by simp) _).setCell (by simp) _
end Go.Proofs.Ytiankphkemakeaa
