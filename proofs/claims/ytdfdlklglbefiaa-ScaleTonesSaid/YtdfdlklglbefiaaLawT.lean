/- Stage 3: the law ScaleTones. -/
import Derived.Test.YtdfdlklglbefiaaWk
namespace Go.Proofs.Ytdfdlklglbefiaa
set_option linter.unusedSimpArgs false
set_option linter.unusedVariables false
open Go.RowKit Go.Shelf

set_option maxRecDepth 100000 in
set_option maxHeartbeats 40000000 in
theorem tones3 (A : Option Addr) (n cap : Nat) (zs : List Rg) (C : Option Addr) (m cap2 : Nat) (st : List Int) (w : World) (h : Rgs w A n zs) (hs : Ints w C m st) (hn : n ≤ 9223372036854775807) (hm : m ≤ 9223372036854775807) :
    Calls Try.prog 3 #[.slice A n cap, .slice C m cap2] w fun en w' => en = .returned (.bool true) ∧ Below w.heap.size w w' := by
  have S := Lib.hid h
  have T := Lib.hid hs
  clear h hs
  by_cases h1 : 30 < n
  · have d1 : decide ((30 : Int) < (n : Int)) = true := decide_eq_true (by omega)
    go_enter Try.func3, Try.ntmps3
    go_wp2_with fail
    have hc := great14 A n cap w
    rw [d1] at hc
    refine hc.mono ?_
    rintro en w' ⟨rfl, rfl⟩
    clear hc d1
    go_wp2_with fail
    refine (works15 _).mono ?_
    rintro en w1 ⟨rfl, hb⟩
    have B := Lib.hid hb
    clear hb
    go_wp2_with fail
    go_ret
    exact ⟨rfl, B.out⟩
  · have d1 : decide ((30 : Int) < (n : Int)) = false := decide_eq_false (by omega)
    by_cases h2 : 40 < m
    · have d2 : (40 : Int) < (m : Int) := by omega
      go_enter Try.func3, Try.ntmps3
      go_wp2_with fail
      have hc := great14 A n cap w
      rw [d1] at hc
      refine hc.mono ?_
      rintro en w' ⟨rfl, rfl⟩
      clear hc d1
      go_wp2_with fail
      refine (works15 _).mono ?_
      rintro en w1 ⟨rfl, hb⟩
      have B := Lib.hid hb
      clear hb
      go_wp2_with fail
      go_ret
      exact ⟨rfl, B.out⟩
    · have d2 : ¬ (40 : Int) < (m : Int) := by omega
      go_enter Try.func3, Try.ntmps3
      go_wp2_with fail
      have hc := great14 A n cap w
      rw [d1] at hc
      refine hc.mono ?_
      rintro en w' ⟨rfl, rfl⟩
      clear hc d1
      go_wp2_with fail
      refine (met16 A n cap zs C m cap2 st _ S.out T.out).mono ?_
      rintro en w1 ⟨D1, cp1, rfl, hi, hf, hb⟩
      replace S := Lib.hid (S.out.below hb (Nat.le_refl _))
      replace T := Lib.hid (T.out.below hb (Nat.le_refl _))
      have I1 := Lib.hid hi
      have B := Lib.hid hb
      clear hi hf hb
      obtain ⟨L, hL⟩ : ∃ L, metR zs st = L := ⟨_, rfl⟩
      rw [hL] at I1
      rw [hL]
      obtain ⟨ll, hll⟩ : ∃ ll, L.length = ll := ⟨_, rfl⟩
      rw [hll] at I1
      rw [hll]
      have HL := Lib.hid hL
      have Hll := Lib.hid hll
      have hll2 : ll ≤ 30 := by
        rw [← hll, ← hL]
        unfold metR
        split
        · have := metL_len zs st zs.length; have := S.out.1; omega
        · simp
      clear hL hll
      go_wp2_with fail
      refine (refMet17 A n cap zs C m cap2 st w1 S.out T.out hn).mono ?_
      rintro en w2 ⟨D2, cp2, rfl, hi, hf, hb⟩
      replace S := Lib.hid (S.out.below hb (Nat.le_refl _))
      replace T := Lib.hid (T.out.below hb (Nat.le_refl _))
      replace I1 := Lib.hid (I1.out.below hb (Nat.le_refl _))
      replace B := Lib.hid (B.out.trans (hb.mono B.out.size))
      rw [HL.out, Hll.out] at hi
      rw [HL.out, Hll.out]
      have I2 := Lib.hid hi
      clear hi hf hb
      go_wp2_with fail
      refine (checkSong18 A n cap zs w2 S.out).mono ?_
      rintro en w3 ⟨rfl, hb⟩
      replace S := Lib.hid (S.out.below hb (Nat.le_refl _))
      replace T := Lib.hid (T.out.below hb (Nat.le_refl _))
      replace I1 := Lib.hid (I1.out.below hb (Nat.le_refl _))
      replace I2 := Lib.hid (I2.out.below hb (Nat.le_refl _))
      replace B := Lib.hid (B.out.trans (hb.mono B.out.size))
      clear hb
      go_wp2_with fail
      refine (refSong19 A n cap zs w3 S.out hn).mono ?_
      rintro en w4 ⟨rfl, hb⟩
      replace S := Lib.hid (S.out.below hb (Nat.le_refl _))
      replace T := Lib.hid (T.out.below hb (Nat.le_refl _))
      replace I1 := Lib.hid (I1.out.below hb (Nat.le_refl _))
      replace I2 := Lib.hid (I2.out.below hb (Nat.le_refl _))
      replace B := Lib.hid (B.out.trans (hb.mono B.out.size))
      clear hb
      go_wp2_with fail
      refine (checkScale20 A n cap zs C m cap2 st w4 S.out T.out).mono ?_
      rintro en w5 ⟨rfl, hb⟩
      replace S := Lib.hid (S.out.below hb (Nat.le_refl _))
      replace T := Lib.hid (T.out.below hb (Nat.le_refl _))
      replace I1 := Lib.hid (I1.out.below hb (Nat.le_refl _))
      replace I2 := Lib.hid (I2.out.below hb (Nat.le_refl _))
      replace B := Lib.hid (B.out.trans (hb.mono B.out.size))
      clear hb
      go_wp2_with fail
      refine (refScale21 A n cap zs C m cap2 st w5 S.out T.out hn).mono ?_
      rintro en w6 ⟨rfl, hb⟩
      replace I1 := Lib.hid (I1.out.below hb (Nat.le_refl _))
      replace I2 := Lib.hid (I2.out.below hb (Nat.le_refl _))
      replace B := Lib.hid (B.out.trans (hb.mono B.out.size))
      clear hb
      go_wp2_with fail
      have hc := ints22 D1 ll cp1 L D2 ll cp2 L w6 I1.out I2.out (by omega) (by omega)
      rw [show decide (L = L) = true from by simp] at hc
      refine hc.mono ?_
      rintro en w7 ⟨rfl, hb⟩
      replace B := Lib.hid (B.out.trans (hb.mono B.out.size))
      clear hb hc
      go_wp2_with fail
      refine (works15 _).mono ?_
      rintro en w8 ⟨rfl, hb⟩
      replace B := Lib.hid (B.out.trans (hb.mono B.out.size))
      clear hb
      go_wp2_with fail
      go_ret
      exact ⟨rfl, B.out⟩
end Go.Proofs.Ytdfdlklglbefiaa
