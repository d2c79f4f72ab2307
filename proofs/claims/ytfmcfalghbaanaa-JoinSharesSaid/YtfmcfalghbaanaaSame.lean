/- Stage 2: the document's Same, Before; many, fine of the laws. -/
import Derived.Test.YtfmcfalghbaanaaJoinR
namespace Go.Proofs.Ytfmcfalghbaanaa
set_option linter.unusedSimpArgs false
set_option linter.unusedVariables false
open Go.RowKit

theorem take_eq {xs ys : List St} {k : Nat} (hx : k < xs.length) (hy : k < ys.length) (h : xs.take k = ys.take k) (he : sAt xs k = sAt ys k) : xs.take (k + 1) = ys.take (k + 1) := by
  rw [List.take_succ_eq_append_getElem hx, List.take_succ_eq_append_getElem hy, h]
  rw [sAt_get hx, sAt_get hy] at he
  rw [he]

set_option maxRecDepth 100000 in
set_option maxHeartbeats 2000000 in
theorem same29 (A C : Option Addr) (n cap m capm : Nat) (xs ys : List St) (w : World) (h : Sts w A n xs) (h2 : Sts w C m ys) (hn : n ≤ 1000000) (hm : m ≤ 1000000) :
    Calls Try.prog 29 #[.slice A n cap, .slice C m capm] w fun e w' => e = .returned (.bool (decide (xs = ys))) ∧ Below w.heap.size w w' := by
  have Hx := Lib.hid h.1
  have Hy := Lib.hid h2.1
  by_cases hlen : n = m
  · subst hlen
    have d1 : ((n : Int) != (n : Int)) = false := by simp
    go_enter Try.func29, Try.ntmps29
    go_wp2_with fail
    go_loopw [5] (fun i wr => ∃ k : Nat, k ≤ n ∧ i = .int .i64 (k : Int) ∧ xs.take k = ys.take k ∧ Below w.heap.size w wr) (fun i _ => n - (intOf i).toNat)
    case atStart => exact ⟨0, Nat.zero_le _, rfl, rfl, Below.refl _ _⟩
    case round =>
      obtain ⟨k, hk, rfl, heq, hB⟩ := hrel
      have HB := Lib.hid hB
      have Heq := Lib.hid heq
      by_cases hlt : k < n
      · have hx := h.below hB (Nat.le_refl _)
        have hy := h2.below hB (Nat.le_refl _)
        obtain ⟨b, o, rfl, hc⟩ := hx.2 (by omega)
        obtain ⟨b2, o2, rfl, hc2⟩ := hy.2 (by omega)
        obtain ⟨e0, e1⟩ := hc k hlt
        obtain ⟨e2, e3⟩ := hc2 k hlt
        have i0 : (0 : Int) ≤ (k : Int) := by omega
        have i1 : (k : Int) < (n : Int) := by omega
        have HBd := Lib.hid (show ∀ q, Below w.heap.size w (wr.drewN q) from fun q => hB.trans ((drew_b wr q).mono hB.size))
        have Hgo := Lib.hid (show sAt xs k = sAt ys k → xs.take (k + 1) = ys.take (k + 1) from take_eq (by have := Hx.out; omega) (by have := Hy.out; omega) heq)
        have Hno := Lib.hid (show sAt xs k ≠ sAt ys k → decide (xs = ys) = false from fun hne => decide_eq_false (fun e => hne (by rw [e])))
        obtain ⟨s, hs⟩ : ∃ s, sAt xs k = s := ⟨_, rfl⟩
        obtain ⟨t, ht⟩ : ∃ t, sAt ys k = t := ⟨_, rfl⟩
        rw [hs] at e0 e1 Hgo Hno
        rw [ht] at e2 e3 Hgo Hno
        obtain ⟨sp, st⟩ := s
        obtain ⟨tp, tt⟩ := t
        simp only at e0 e1 e2 e3
        clear hc hc2 hx hy hs ht heq hB h h2
        by_cases hp : sp = tp
        · subst hp
          by_cases hq : st = tt
          · subst hq
            have He := Lib.hid (Hgo.out rfl)
            go_wp2_with fail
            go_quiet (fail)
            go_wp2_with fail
            go_roundw
            case rel => exact ⟨k + 1, by omega, by go_num, He.out, HBd.out _⟩
            case measure => simp [intOf]; omega
          · have He := Lib.hid (Hno.out (fun e => hq (congrArg St.turned e)))
            have hq2 : (st == tt) = false := by rw [beq_eq_false_iff_ne]; exact hq
            go_wp2_with fail
            go_quiet (fail)
            go_wp2_with fail
            go_ret
            exact ⟨ret_bool He.out.symm, HBd.out _⟩
        · have He := Lib.hid (Hno.out (fun e => hp (congrArg St.p e)))
          have hp2 : (sp == tp) = false := by rw [beq_eq_false_iff_ne]; exact hp
          go_wp2_with fail
          go_quiet (fail)
          go_wp2_with fail
          go_ret
          exact ⟨ret_bool He.out.symm, HBd.out _⟩
      · have He := Lib.hid (show decide (xs = ys) = true from decide_eq_true (by
          have h1 := Hx.out
          have h2 := Hy.out
          rw [List.take_of_length_le (by omega), List.take_of_length_le (by omega)] at heq
          exact heq))
        clear heq
        go_wp2_with fail
        go_ret
        exact ⟨ret_bool He.out.symm, HB.out⟩
  · have d1 : ((n : Int) != (m : Int)) = true := by rw [bne_iff_ne]; omega
    have He := Lib.hid (show decide (xs = ys) = false from decide_eq_false (fun e => hlen (by rw [← Hx.out, ← Hy.out, e])))
    clear hlen h h2
    go_enter Try.func29, Try.ntmps29
    go_wp2_with fail
    go_ret
    exact ⟨ret_bool He.out.symm, Below.refl _ _⟩

/-- Does the step s come before the step t? -/
def befB (s t : St) : Bool := decide (s.p < t.p) || (decide (s.p = t.p) && !s.turned && t.turned)
set_option maxRecDepth 100000 in
set_option maxHeartbeats 2000000 in
theorem before63 (p q : Int) (u v : Bool) (w : World) :
    Calls Try.prog 63 #[.agg #[.int .i64 p, .bool u], .agg #[.int .i64 q, .bool v]] w fun e w' => e = .returned (.bool (befB ⟨p, u⟩ ⟨q, v⟩)) ∧ Below w.heap.size w w' := by
  have HB := Lib.hid ((below_alloc_ w (.cells #[.int .i64 p, .bool u] 28)).trans ((below_alloc_ (w.alloc (.cells #[.int .i64 p, .bool u] 28)) (.cells #[.int .i64 q, .bool v] 28)).mono (by simp)))
  have Hr := Lib.hid (show befB ⟨p, u⟩ ⟨q, v⟩ = (decide (p < q) || (decide (p = q) && !u && v)) from rfl)
  by_cases h1 : p < q
  · have d1 : decide (p < q) = true := decide_eq_true h1
    have He := Lib.hid (show befB ⟨p, u⟩ ⟨q, v⟩ = true by rw [Hr.out, d1]; rfl)
    clear h1
    go_enter Try.func63, Try.ntmps63
    go_wp2_with fail
    go_ret
    exact ⟨ret_bool He.out.symm, HB.out⟩
  · have d1 : decide (p < q) = false := decide_eq_false h1
    by_cases h2 : p = q
    · have d2 : (p == q) = true := by rw [beq_iff_eq]; exact h2
      have He := Lib.hid (show befB ⟨p, u⟩ ⟨q, v⟩ = (!u && v) by rw [Hr.out, d1, decide_eq_true h2]; simp)
      clear h1 h2
      cases u <;> cases v
      all_goals (
        go_enter Try.func63, Try.ntmps63
        go_wp2_with fail
        go_ret
        exact ⟨ret_bool He.out.symm, HB.out⟩)
    · have d2 : (p == q) = false := by rw [beq_eq_false_iff_ne]; exact h2
      have He := Lib.hid (show befB ⟨p, u⟩ ⟨q, v⟩ = false by rw [Hr.out, d1, decide_eq_false h2]; simp)
      clear h1 h2
      go_enter Try.func63, Try.ntmps63
      go_wp2_with fail
      go_ret
      exact ⟨ret_bool He.out.symm, HB.out⟩
end Go.Proofs.Ytfmcfalghbaanaa
