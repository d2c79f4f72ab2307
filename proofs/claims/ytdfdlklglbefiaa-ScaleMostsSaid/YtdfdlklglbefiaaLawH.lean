/- Stage 3: the law ScaleMosts. -/
import Derived.Test.YtdfdlklglbefiaaWk
import Derived.Test.YtdfdlklglbefiaaFin
import Derived.Test.YtdfdlklglbefiaaBs4
namespace Go.Proofs.Ytdfdlklglbefiaa
set_option linter.unusedSimpArgs false
set_option linter.unusedVariables false
open Go.RowKit Go.Shelf
theorem rd24 {k : Int} (h : k < 0 ∨ 24 < k) : withI 0 24 [k] = false := by
  cases hw : withI 0 24 [k] with
  | false => rfl
  | true => simp [withI, inB] at hw; omega
theorem rd24t {k : Int} (h : ¬ k < 0) (h2 : ¬ 24 < k) : withI 0 24 [k] = true := by simp [withI, inB]; omega
attribute [local go_sem ↓] exec_app

set_option maxRecDepth 100000 in
set_option maxHeartbeats 40000000 in
theorem mosts6 (A : Option Addr) (n cap : Nat) (zs : List Rg) (kk : Int) (w : World) (h : Rgs w A n zs) (hn : n ≤ 9223372036854775807) : Calls Try.prog 6 #[.slice A n cap, .int .i64 kk] w fun en w' => en = .returned (.bool true) ∧ Below w.heap.size w w' := by
  have S := Lib.hid h
  have HZl := Lib.hid h.1
  clear h
  by_cases h1 : 30 < n
  · skip
    have d1 : decide ((30 : Int) < (n : Int)) = true := decide_eq_true (by omega)
    go_enter Try.func6, Try.ntmps6
    go_wp2_with fail
    have hc := fun W => great14 A n cap W
    simp only [d1] at hc
    refine (hc _).mono ?_
    rintro en w' ⟨rfl, rfl⟩
    clear hc
    clear d1
    go_wp2_with fail
    refine (works15 _).mono ?_
    rintro en wz ⟨rfl, hb⟩
    have B := Lib.hid hb
    clear hb
    go_wp2_with fail
    go_ret
    exact ⟨rfl, B.out⟩
  by_cases h2 : 9 < n ∧ n ≤ 24
  · obtain ⟨h2, h3⟩ := h2
    have d1 : decide ((30 : Int) < (n : Int)) = false := decide_eq_false (by omega)
    have d2 : (9 : Int) < (n : Int) := by omega
    have d3 : (n : Int) ≤ 24 := by omega
    go_enter Try.func6, Try.ntmps6
    go_wp2_with fail
    have hc := fun W => great14 A n cap W
    simp only [d1] at hc
    refine (hc _).mono ?_
    rintro en w' ⟨rfl, rfl⟩
    clear hc
    clear d1
    go_wp2_with fail
    refine (works15 _).mono ?_
    rintro en wz ⟨rfl, hb⟩
    have B := Lib.hid hb
    clear hb
    go_wp2_with fail
    go_ret
    exact ⟨rfl, B.out⟩
  by_cases h3 : 9 < n
  · skip
    have d1 : decide ((30 : Int) < (n : Int)) = false := decide_eq_false (by omega)
    have d2 : (9 : Int) < (n : Int) := by omega
    have d3 : ¬ (n : Int) ≤ 24 := by omega
    go_enter Try.func6, Try.ntmps6
    go_wp2_with fail
    have hc := fun W => great14 A n cap W
    simp only [d1] at hc
    refine (hc _).mono ?_
    rintro en w' ⟨rfl, rfl⟩
    clear hc
    clear d1
    go_wp2_with fail
    have B := Lib.hid (Below.refl w'.heap.size w')
    obtain ⟨c, hc⟩ : ∃ c, chkS zs = c := ⟨_, rfl⟩
    have Hc := Lib.hid hc
    clear hc
    refine (most33 most58 A n cap zs kk w' S.out).mono ?_
    rintro en w1 ⟨hb, hor⟩
    replace S := Lib.hid (S.out.below hb (Nat.le_refl _))
    replace B := Lib.hid (B.out.trans (hb.mono B.out.size))
    clear hb
    obtain ⟨h0, rfl⟩ | ⟨hz, hk0, rfl⟩ | ⟨hz, hk0, st, D, cp, m, hmr, rfl, hi, -⟩ := hor
    · rw [Hc.out] at h0
      rw [Hc.out]
      have d0 : (c != 0) = true := by rw [bne_iff_ne]; exact h0
      have dc : (c == c) = true := by simp
      go_wp2_with fail
      have hc := refSong19 A n cap zs w1 S.out hn
      rw [Hc.out] at hc
      refine hc.mono ?_
      rintro en w2 ⟨rfl, hb⟩
      clear hc
      replace S := Lib.hid (S.out.below hb (Nat.le_refl _))
      replace B := Lib.hid (B.out.trans (hb.mono B.out.size))
      clear hb
      go_wp2_with fail
      have hc := refSong19 A n cap zs w2 S.out hn
      rw [Hc.out] at hc
      refine hc.mono ?_
      rintro en w3 ⟨rfl, hb⟩
      clear hc
      replace S := Lib.hid (S.out.below hb (Nat.le_refl _))
      replace B := Lib.hid (B.out.trans (hb.mono B.out.size))
      clear hb
      go_wp2_with fail
      refine (works15 _).mono ?_
      rintro en wz ⟨rfl, hb⟩
      replace B := Lib.hid (B.out.trans (hb.mono B.out.size))
      clear hb
      go_wp2_with fail
      go_ret
      exact ⟨rfl, B.out⟩
    · have hkk : kk < 0 ∨ 24 < kk := by
        by_cases a : kk < 0
        · exact .inl a
        · by_cases b : 24 < kk
          · exact .inr b
          · rw [rd24t a b] at hk0; cases hk0
      obtain rfl : c = 0 := Hc.out.symm.trans hz
      clear hz hk0
      go_wp2_with fail
      have hc := refSong19 A n cap zs w1 S.out hn
      rw [Hc.out] at hc
      refine hc.mono ?_
      rintro en w12 ⟨rfl, hb⟩
      clear hc
      replace S := Lib.hid (S.out.below hb (Nat.le_refl _))
      replace B := Lib.hid (B.out.trans (hb.mono B.out.size))
      clear hb
      by_cases a : kk < 0
      · skip
        clear hkk
        go_wp2_with fail
        refine (works15 _).mono ?_
        rintro en wz ⟨rfl, hb⟩
        replace B := Lib.hid (B.out.trans (hb.mono B.out.size))
        clear hb
        go_wp2_with fail
        go_ret
        exact ⟨rfl, B.out⟩
      · have b : 24 < kk := by omega
        clear hkk
        go_wp2_with fail
        refine (works15 _).mono ?_
        rintro en wz ⟨rfl, hb⟩
        replace B := Lib.hid (B.out.trans (hb.mono B.out.size))
        clear hb
        go_wp2_with fail
        go_ret
        exact ⟨rfl, B.out⟩
    · have := len_of hz
      have := HZl.out
      omega
  · skip
    have d1 : decide ((30 : Int) < (n : Int)) = false := decide_eq_false (by omega)
    have d2 : ¬ (9 : Int) < (n : Int) := by omega
    go_enter Try.func6, Try.ntmps6
    go_wp2_with fail
    have hc := fun W => great14 A n cap W
    simp only [d1] at hc
    refine (hc _).mono ?_
    rintro en w' ⟨rfl, rfl⟩
    clear hc
    clear d1
    go_wp2_with fail
    have B := Lib.hid (Below.refl w'.heap.size w')
    obtain ⟨c, hc⟩ : ∃ c, chkS zs = c := ⟨_, rfl⟩
    have Hc := Lib.hid hc
    clear hc
    refine (most33 most58 A n cap zs kk w' S.out).mono ?_
    rintro en w1 ⟨hb, hor⟩
    replace S := Lib.hid (S.out.below hb (Nat.le_refl _))
    replace B := Lib.hid (B.out.trans (hb.mono B.out.size))
    clear hb
    obtain ⟨h0, rfl⟩ | ⟨hz, hk0, rfl⟩ | ⟨hz, hk0, st, D, cp, m, hmr, rfl, hi, -⟩ := hor
    · rw [Hc.out] at h0
      rw [Hc.out]
      have d0 : (c != 0) = true := by rw [bne_iff_ne]; exact h0
      have dc : (c == c) = true := by simp
      go_wp2_with fail
      have hc := refSong19 A n cap zs w1 S.out hn
      rw [Hc.out] at hc
      refine hc.mono ?_
      rintro en w2 ⟨rfl, hb⟩
      clear hc
      replace S := Lib.hid (S.out.below hb (Nat.le_refl _))
      replace B := Lib.hid (B.out.trans (hb.mono B.out.size))
      clear hb
      go_wp2_with fail
      have hc := refSong19 A n cap zs w2 S.out hn
      rw [Hc.out] at hc
      refine hc.mono ?_
      rintro en w3 ⟨rfl, hb⟩
      clear hc
      replace S := Lib.hid (S.out.below hb (Nat.le_refl _))
      replace B := Lib.hid (B.out.trans (hb.mono B.out.size))
      clear hb
      go_wp2_with fail
      refine (works15 _).mono ?_
      rintro en wz ⟨rfl, hb⟩
      replace B := Lib.hid (B.out.trans (hb.mono B.out.size))
      clear hb
      go_wp2_with fail
      go_ret
      exact ⟨rfl, B.out⟩
    · have hkk : kk < 0 ∨ 24 < kk := by
        by_cases a : kk < 0
        · exact .inl a
        · by_cases b : 24 < kk
          · exact .inr b
          · rw [rd24t a b] at hk0; cases hk0
      obtain rfl : c = 0 := Hc.out.symm.trans hz
      clear hz hk0
      go_wp2_with fail
      have hc := refSong19 A n cap zs w1 S.out hn
      rw [Hc.out] at hc
      refine hc.mono ?_
      rintro en w12 ⟨rfl, hb⟩
      clear hc
      replace S := Lib.hid (S.out.below hb (Nat.le_refl _))
      replace B := Lib.hid (B.out.trans (hb.mono B.out.size))
      clear hb
      by_cases a : kk < 0
      · skip
        clear hkk
        go_wp2_with fail
        refine (works15 _).mono ?_
        rintro en wz ⟨rfl, hb⟩
        replace B := Lib.hid (B.out.trans (hb.mono B.out.size))
        clear hb
        go_wp2_with fail
        go_ret
        exact ⟨rfl, B.out⟩
      · have b : 24 < kk := by omega
        clear hkk
        go_wp2_with fail
        refine (works15 _).mono ?_
        rintro en wz ⟨rfl, hb⟩
        replace B := Lib.hid (B.out.trans (hb.mono B.out.size))
        clear hb
        go_wp2_with fail
        go_ret
        exact ⟨rfl, B.out⟩
    · have a : ¬ kk < 0 := fun h => by rw [rd24 (.inl h)] at hk0; cases hk0
      have b : ¬ 24 < kk := fun h => by rw [rd24 (.inr h)] at hk0; cases hk0
      obtain rfl : c = 0 := Hc.out.symm.trans hz
      have HM := Lib.hid hmr
      have HIS := Lib.hid (mostR_sc hmr (by omega) hz)
      have hl24 := len_of hz
      rw [HZl.out] at hl24
      obtain ⟨ls, hls⟩ : ∃ ls, st.length = ls := ⟨_, rfl⟩
      have hlk : (ls : Int) ≤ kk := by rw [← hls]; exact hmr.len
      have HB := Lib.hid (most_best hmr)
      have hcn := hmr.cnt
      rw [hls] at hi ⊢
      have F := Lib.hid hi
      clear hk0 hmr hz hi
      obtain ⟨mn, hmn⟩ : ∃ mn, cntM zs st = mn := ⟨_, rfl⟩
      rw [hmn] at hcn
      subst hcn
      have Hmn := Lib.hid hmn
      clear hmn hls
      go_wp2_with fail
      have hc := refSong19 A n cap zs w1 S.out hn
      rw [Hc.out] at hc
      refine hc.mono ?_
      rintro en w22 ⟨rfl, hb⟩
      clear hc
      replace S := Lib.hid (S.out.below hb (Nat.le_refl _))
      replace B := Lib.hid (B.out.trans (hb.mono B.out.size))
      replace F := Lib.hid (F.out.below hb (Nat.le_refl _))
      clear hb
      go_wp2_with fail
      refine (refMet17 A n cap zs D ls cp st w22 S.out F.out hn).mono ?_
      rintro en w23 hor
      have hor2 : Below w22.heap.size w22 w23 ∧ ∃ (D2 : Option Addr) (cp2 : Nat), en = .returned (.tuple #[.slice D2 mn cp2, .int .i64 0]) := by
        have hml := metL_cnt zs st
        rw [Hmn.out] at hml
        unfold NamesPost metR at hor
        simp only [HIS.out, if_true] at hor
        obtain ⟨C, cp2, e, -, -, hb⟩ := hor
        rw [hml] at e
        exact ⟨hb, C, cp2, e⟩
      obtain ⟨hb, D2, cp2, rfl⟩ := hor2
      clear hor
      replace S := Lib.hid (S.out.below hb (Nat.le_refl _))
      replace B := Lib.hid (B.out.trans (hb.mono B.out.size))
      replace F := Lib.hid (F.out.below hb (Nat.le_refl _))
      clear hb
      have dl : (mn == mn) = true := by simp
      have HN9 := Lib.hid (show n ≤ 9 by omega)
      go_wp2_with fail
      have hc := best34 A n cap zs kk w23 S.out HN9.out
      rw [show (bst zs kk (2 ^ n) : Int) = (mn : Int) from by rw [← HZl.out]; exact HB.out.symm] at hc
      refine hc.mono ?_
      rintro en w24 ⟨rfl, hb⟩
      clear hc
      replace S := Lib.hid (S.out.below hb (Nat.le_refl _))
      replace B := Lib.hid (B.out.trans (hb.mono B.out.size))
      replace F := Lib.hid (F.out.below hb (Nat.le_refl _))
      clear hb
      go_wp2_with fail
      refine (works15 _).mono ?_
      rintro en wz ⟨rfl, hb⟩
      replace B := Lib.hid (B.out.trans (hb.mono B.out.size))
      clear hb
      go_wp2_with fail
      go_ret
      exact ⟨rfl, B.out⟩
end Go.Proofs.Ytdfdlklglbefiaa
