/- Stage 3: the law ScaleSpans. -/
import Derived.Test.YtdfdlklglbefiaaWk
import Derived.Test.YtdfdlklglbefiaaS31
namespace Go.Proofs.Ytdfdlklglbefiaa
set_option linter.unusedSimpArgs false
set_option linter.unusedVariables false
open Go.RowKit Go.Shelf
theorem run_eqS2 (a b c d : Bool) (h : a = c ∧ b = d) (W : World) : (binOp .eql 43 (.agg #[.bool a, .bool b]) (.agg #[.bool c, .bool d])).run Try.prog W = .ok (.bool true) W := by
  obtain ⟨rfl, rfl⟩ := h
  cases a <;> cases b <;> kernel_rfl
attribute [local go_sem ↓] exec_app

set_option maxRecDepth 100000 in
set_option maxHeartbeats 40000000 in
theorem spans5 (A : Option Addr) (n cap : Nat) (zs : List Rg) (i k : Int) (w : World) (h : Rgs w A n zs) (hn : n ≤ 9223372036854775807) : Calls Try.prog 5 #[.slice A n cap, .int .i64 i, .int .i64 k] w fun en w' => en = .returned (.bool true) ∧ Below w.heap.size w w' := by
  have S := Lib.hid h
  have HZl := Lib.hid h.1
  clear h
  by_cases h1 : 30 < n
  · have d1 : decide ((30 : Int) < (n : Int)) = true := decide_eq_true (by omega)
    go_enter Try.func5, Try.ntmps5
    go_wp2_with fail
    have hc := fun W => great14 A n cap W
    simp only [d1] at hc
    refine (hc _).mono ?_
    rintro en w' ⟨rfl, rfl⟩
    clear hc
    clear d1
    go_wp2_with fail
    refine (works15 _).mono ?_
    rintro en wz ⟨rfl, hb⟩
    have B := Lib.hid hb
    clear hb
    go_wp2_with fail
    go_ret
    exact ⟨rfl, B.out⟩
  have d1 : decide ((30 : Int) < (n : Int)) = false := decide_eq_false (by omega)
  go_enter Try.func5, Try.ntmps5
  go_wp2_with fail
  have hc := fun W => great14 A n cap W
  simp only [d1] at hc
  refine (hc _).mono ?_
  rintro en w' ⟨rfl, rfl⟩
  clear hc
  clear d1
  go_wp2_with fail
  have B := Lib.hid (Below.refl w'.heap.size w')
  obtain ⟨c, hc⟩ : ∃ c, chkS zs = c := ⟨_, rfl⟩
  have Hc := Lib.hid hc
  clear hc
  refine (spans28 A n cap zs w' S.out).mono ?_
  rintro en w1 ⟨hb, hor⟩
  replace S := Lib.hid (S.out.below hb (Nat.le_refl _))
  replace B := Lib.hid (B.out.trans (hb.mono B.out.size))
  clear hb
  have hor2 : ∃ (L : List Rg) (D : Option Addr) (m cp : Nat), en = .returned (.tuple #[.slice D m cp, .int .i64 c]) ∧ Rgs w1 D m L ∧ m ≤ 30 ∧ (c ≠ 0 → L = [] ∧ m = 0) ∧ (c = 0 → ∃ x y, IsDn zs x ∧ IsUp zs y ∧ L = spnL x y m ∧ x.length = m) := by
    obtain ⟨hz, x, y, D, cp, hx, hy, e, hi, -⟩ | ⟨h0, e⟩ := hor
    · have hc := Hc.out
      rw [hz] at hc
      have h1 := hx.dn (chkS_ok hz).1
      have h2 := hy.up (ok_of hz)
      have h3 := dn_up_len (ok_of hz) h1 h2
      have h4 := up_len hz h2
      have := HZl.out
      exact ⟨_, D, x.length, cp, by rw [e, ← hc], hi, by omega, fun h => absurd hc.symm h, fun _ => ⟨x, y, h1, h2, rfl, rfl⟩⟩
    · exact ⟨[], none, 0, 0, by rw [e, Hc.out], ⟨rfl, fun h => absurd h (by omega)⟩, by omega, fun _ => ⟨rfl, rfl⟩, fun h => absurd (Hc.out.trans h) h0⟩
  obtain ⟨L1, D1, m1, cp1, rfl, hi, hm, hn0, hy0⟩ := hor2
  clear hor
  have R1 := Lib.hid hi
  have N1 := Lib.hid hn0
  have Y1 := Lib.hid hy0
  have M1 := Lib.hid hm
  clear hi hn0 hy0 hm
  go_wp2_with fail
  refine (refSpans29 A n cap zs w1 S.out hn).mono ?_
  rintro en w2 ⟨hb, hor⟩
  replace S := Lib.hid (S.out.below hb (Nat.le_refl _))
  replace B := Lib.hid (B.out.trans (hb.mono B.out.size))
  replace R1 := Lib.hid (R1.out.below hb (Nat.le_refl _))
  clear hb
  have hor2 : ∃ (D : Option Addr) (cp : Nat), en = .returned (.tuple #[.slice D m1 cp, .int .i64 c]) ∧ Rgs w2 D m1 L1 := by
    obtain ⟨hz, x, y, D, cp, hx, hy, e, hi⟩ | ⟨h0, e⟩ := hor
    · have hc := Hc.out
      rw [hz] at hc
      obtain ⟨x', y', a1, a2, a3, a4⟩ := Y1.out hc.symm
      have e1 := IsDn.eq (ok_of hz) a1 hx
      have e2 := IsUp.eq (ok_of hz) a2 hy
      have h3 := dn_up_len (ok_of hz) hx hy
      subst e1 e2
      have e3 : y'.length = m1 := by omega
      rw [e3] at hi e
      exact ⟨D, cp, by rw [e, ← hc], by rw [a3]; exact hi⟩
    · obtain ⟨a1, a2⟩ := N1.out (fun h => h0 (Hc.out.trans h))
      refine ⟨none, 0, by rw [e, Hc.out, a2], ?_⟩
      rw [a1, a2]
      exact ⟨rfl, fun h => absurd h (by omega)⟩
  obtain ⟨D2, cp2, rfl, hi⟩ := hor2
  clear hor
  have R2 := Lib.hid hi
  clear hi N1 Y1
  go_wp2_with fail
  refine (share30 A n cap zs i k w2 S.out).mono ?_
  rintro en w3 ⟨hb, ma0, mu0, e0, hs, rfl⟩
  replace S := Lib.hid (S.out.below hb (Nat.le_refl _))
  replace B := Lib.hid (B.out.trans (hb.mono B.out.size))
  replace R1 := Lib.hid (R1.out.below hb (Nat.le_refl _))
  replace R2 := Lib.hid (R2.out.below hb (Nat.le_refl _))
  have HS0 := Lib.hid hs
  clear hb hs
  go_wp2_with fail
  have hr9 := heap_alloc_new_ w3 (.cells #[.bool ma0, .bool mu0] 43)
  have hb := below_alloc_ w3 (.cells #[.bool ma0, .bool mu0] 43)
  obtain ⟨w4, hV⟩ : ∃ w4, w3.alloc (.cells #[.bool ma0, .bool mu0] 43) = w4 := ⟨_, rfl⟩
  rw [hV] at hr9 hb ⊢
  clear hV
  replace S := Lib.hid (S.out.below hb (Nat.le_refl _))
  replace B := Lib.hid (B.out.trans (hb.mono B.out.size))
  replace R1 := Lib.hid (R1.out.below hb (Nat.le_refl _))
  replace R2 := Lib.hid (R2.out.below hb (Nat.le_refl _))
  obtain ⟨P0, hP⟩ : ∃ P, w3.heap.size = P := ⟨_, rfl⟩
  rw [hP] at hr9 ⊢
  have X0 := Lib.hid hr9
  clear hb hP hr9
  go_wp2_with fail
  refine (refShare31 A n cap zs i k w4 S.out hn).mono ?_
  rintro en w5 ⟨hb, ma1, mu1, e1, hs, rfl⟩
  replace S := Lib.hid (S.out.below hb (Nat.le_refl _))
  replace B := Lib.hid (B.out.trans (hb.mono B.out.size))
  replace R1 := Lib.hid (R1.out.below hb (Nat.le_refl _))
  replace R2 := Lib.hid (R2.out.below hb (Nat.le_refl _))
  replace X0 := Lib.hid ((hb.block _ (lt_of_block X0.out)).trans X0.out)
  obtain ⟨he1, he2, he3⟩ := sr_uniq HS0.out hs
  obtain rfl := he1
  obtain rfl := he2
  obtain rfl := he3
  clear hb hs HS0
  go_wp2_with fail
  have hr9 := heap_alloc_new_ w5 (.cells #[.bool ma0, .bool mu0] 43)
  have hb := below_alloc_ w5 (.cells #[.bool ma0, .bool mu0] 43)
  obtain ⟨w6, hV⟩ : ∃ w6, w5.alloc (.cells #[.bool ma0, .bool mu0] 43) = w6 := ⟨_, rfl⟩
  rw [hV] at hr9 hb ⊢
  clear hV
  replace S := Lib.hid (S.out.below hb (Nat.le_refl _))
  replace B := Lib.hid (B.out.trans (hb.mono B.out.size))
  replace R1 := Lib.hid (R1.out.below hb (Nat.le_refl _))
  replace R2 := Lib.hid (R2.out.below hb (Nat.le_refl _))
  replace X0 := Lib.hid ((hb.block _ (lt_of_block X0.out)).trans X0.out)
  obtain ⟨P1, hP⟩ : ∃ P, w5.heap.size = P := ⟨_, rfl⟩
  rw [hP] at hr9 ⊢
  have X1 := Lib.hid hr9
  clear hb hP hr9
  go_wp2_with fail
  have hc := ranges32 D1 m1 cp1 L1 D2 m1 cp2 L1 w6 R1.out R2.out (by have := M1.out; omega) (by have := M1.out; omega)
  rw [decide_eq_true rfl] at hc
  refine hc.mono ?_
  clear hc
  rintro en w7 ⟨rfl, hb⟩
  replace S := Lib.hid (S.out.below hb (Nat.le_refl _))
  replace B := Lib.hid (B.out.trans (hb.mono B.out.size))
  replace R1 := Lib.hid (R1.out.below hb (Nat.le_refl _))
  replace R2 := Lib.hid (R2.out.below hb (Nat.le_refl _))
  replace X0 := Lib.hid ((hb.block _ (lt_of_block X0.out)).trans X0.out)
  replace X1 := Lib.hid ((hb.block _ (lt_of_block X1.out)).trans X1.out)
  clear hb
  have x00 : w7.cell? ⟨P0, 0, none⟩ = some (.bool ma0) := by rw [cell_row X0.out]; rfl
  have x01 : w7.cell? ⟨P0, 1, none⟩ = some (.bool mu0) := by rw [cell_row X0.out]; rfl
  have x10 : w7.cell? ⟨P1, 0, none⟩ = some (.bool ma0) := by rw [cell_row X1.out]; rfl
  have x11 : w7.cell? ⟨P1, 1, none⟩ = some (.bool mu0) := by rw [cell_row X1.out]; rfl
  have q1 : ∀ W, (binOp .eql 43 (.agg #[.bool ma0, .bool mu0]) (.agg #[.bool ma0, .bool mu0])).run Try.prog W = .ok (.bool true) W := fun W => run_eqS2 ma0 mu0 ma0 mu0 ⟨rfl, rfl⟩ W
  have b1 : (c == c) = true := by simp
  have b2 : (e0 == e0) = true := by simp
  go_wp2_with fail
  clear x00 x01 x10 x11 q1 b1 b2
  refine (works15 _).mono ?_
  rintro en wz ⟨rfl, hb⟩
  replace B := Lib.hid (B.out.trans (hb.mono B.out.size))
  clear hb
  go_wp2_with fail
  go_ret
  exact ⟨rfl, B.out⟩
end Go.Proofs.Ytdfdlklglbefiaa
