/- Stage 3: the law ScaleProofs. -/
import Derived.Test.YtdfdlklglbefiaaWk
import Derived.Test.YtdfdlklglbefiaaCk23
import Derived.Test.YtdfdlklglbefiaaBlw
namespace Go.Proofs.Ytdfdlklglbefiaa
set_option linter.unusedSimpArgs false
set_option linter.unusedVariables false
open Go.RowKit Go.Shelf

set_option maxRecDepth 100000 in
set_option maxHeartbeats 40000000 in
theorem proofs4 (A : Option Addr) (n cap : Nat) (zs : List Rg) (C : Option Addr) (m cap2 : Nat) (ns : List Int) (w : World) (h : Rgs w A n zs) (hs : Ints w C m ns) (hn : n ≤ 9223372036854775807) (hm : m ≤ 9223372036854775807) (hmc : m ≤ cap2) : Calls Try.prog 4 #[.slice A n cap, .slice C m cap2] w fun en w' => en = .returned (.bool true) ∧ Below w.heap.size w w' := by
  have S := Lib.hid h
  have N := Lib.hid hs
  have HZl := Lib.hid h.1
  clear h hs
  by_cases h1 : 30 < n
  · have d1 : decide ((30 : Int) < (n : Int)) = true := decide_eq_true (by omega)
    go_enter Try.func4, Try.ntmps4
    go_wp2_with fail
    have hc := fun W => great14 A n cap W
    simp only [d1] at hc
    refine (hc _).mono ?_
    rintro en w' ⟨rfl, rfl⟩
    clear hc
    go_wp2_with fail
    have hc := fun W => great14 A n cap W
    simp only [d1] at hc
    refine (hc _).mono ?_
    rintro en w' ⟨rfl, rfl⟩
    clear hc
    clear d1
    go_wp2_with fail
    refine (works15 _).mono ?_
    rintro en wz ⟨rfl, hb⟩
    have B := Lib.hid hb
    clear hb
    go_wp2_with fail
    go_ret
    exact ⟨rfl, B.out⟩
  · have d1 : decide ((30 : Int) < (n : Int)) = false := decide_eq_false (by omega)
    by_cases h2 : 40 < m
    · have d2 : (40 : Int) < (m : Int) := by omega
      go_enter Try.func4, Try.ntmps4
      go_wp2_with fail
      have hc := fun W => great14 A n cap W
      simp only [d1] at hc
      refine (hc _).mono ?_
      rintro en w' ⟨rfl, rfl⟩
      clear hc
      go_wp2_with fail
      have hc := fun W => great14 A n cap W
      simp only [d1] at hc
      refine (hc _).mono ?_
      rintro en w' ⟨rfl, rfl⟩
      clear hc
      clear d1
      go_wp2_with fail
      refine (works15 _).mono ?_
      rintro en wz ⟨rfl, hb⟩
      have B := Lib.hid hb
      clear hb
      go_wp2_with fail
      go_ret
      exact ⟨rfl, B.out⟩
    · have d2 : ¬ (40 : Int) < (m : Int) := by omega
      go_enter Try.func4, Try.ntmps4
      go_wp2_with fail
      have hc := fun W => great14 A n cap W
      simp only [d1] at hc
      refine (hc _).mono ?_
      rintro en w' ⟨rfl, rfl⟩
      clear hc
      clear d1
      go_wp2_with fail
      refine (checkApart23 A n cap zs C m cap2 ns _ S.out N.out (by omega) hmc).mono ?_
      rintro en w1 ⟨rfl, hb⟩
      have B := Lib.hid hb
      replace S := Lib.hid (S.out.below hb (Nat.le_refl _))
      replace N := Lib.hid (N.out.below hb (Nat.le_refl _))
      clear hb
      go_wp2_with fail
      obtain ⟨ck, hck⟩ : ∃ ck, ckAp zs ns = ck := ⟨_, rfl⟩
      have Hck := Lib.hid hck
      refine (refApart24 A n cap zs C m cap2 ns w1 S.out N.out hn (by omega)).mono ?_
      rintro en w2 ⟨rfl, hb⟩
      replace S := Lib.hid (S.out.below hb (Nat.le_refl _))
      replace N := Lib.hid (N.out.below hb (Nat.le_refl _))
      replace B := Lib.hid (B.out.trans (hb.mono B.out.size))
      rw [hck]
      clear hb hck
      go_wp2_with fail
      refine (fewest25 A n cap zs w2 S.out).mono ?_
      rintro en w3 ⟨hb, hor⟩
      replace S := Lib.hid (S.out.below hb (Nat.le_refl _))
      replace B := Lib.hid (B.out.trans (hb.mono B.out.size))
      clear hb
      obtain ⟨hz, x, Df, cpf, hx, rfl, hi, hf⟩ | ⟨h0, rfl⟩ := hor
      · have HZ := Lib.hid hz
        have hup := hx.up (ok_of hz)
        have HX := Lib.hid (show ckSc zs x = 0 ∧ LenU zs x.length from ⟨up_right hz hup, up_lenU hup⟩)
        obtain ⟨lx, hlx⟩ : ∃ lx, x.length = lx := ⟨_, rfl⟩
        rw [hlx] at hi HX
        rw [hlx]
        have hl24 := len_of hz
        rw [HZl.out] at hl24
        have F := Lib.hid hi
        clear hi hf hx hup hz hlx
        go_wp2_with fail
        refine (apart26 A n cap zs w3 S.out).mono ?_
        rintro en w4 ⟨hb, hor⟩
        replace S := Lib.hid (S.out.below hb (Nat.le_refl _))
        replace B := Lib.hid (B.out.trans (hb.mono B.out.size))
        replace F := Lib.hid (F.out.below hb (Nat.le_refl _))
        clear hb
        obtain ⟨hz, y, Da, cpa, hy, rfl, hi, hf⟩ | ⟨h0, _⟩ := hor
        rotate_left
        · exact absurd HZ.out h0
        have HY := Lib.hid (apart_ok hz hy)
        obtain ⟨ly, hly⟩ : ∃ ly, y.length = ly := ⟨_, rfl⟩
        rw [hly] at hi HY
        rw [hly]
        have G := Lib.hid hi
        clear hi hf hy hz hly
        have hll : ly = lx := lenU_eq (ok_of HZ.out) HY.out.2 HX.out.2
        subst hll
        go_wp2_with fail
        have hc := refSong19 A n cap zs w4 S.out hn
        rw [HZ.out] at hc
        refine hc.mono ?_
        clear hc
        rintro en w5 ⟨rfl, hb⟩
        replace S := Lib.hid (S.out.below hb (Nat.le_refl _))
        replace B := Lib.hid (B.out.trans (hb.mono B.out.size))
        replace F := Lib.hid (F.out.below hb (Nat.le_refl _))
        replace G := Lib.hid (G.out.below hb (Nat.le_refl _))
        clear hb
        go_wp2_with fail
        refine (short27 A n cap zs w5 S.out (by omega) (by omega) (ok_of HZ.out)).mono ?_
        rintro en w6 ⟨a, ha, han, rfl, hb⟩
        replace S := Lib.hid (S.out.below hb (Nat.le_refl _))
        replace B := Lib.hid (B.out.trans (hb.mono B.out.size))
        replace F := Lib.hid (F.out.below hb (Nat.le_refl _))
        replace G := Lib.hid (G.out.below hb (Nat.le_refl _))
        have hal : a = ly := lenU_eq (ok_of HZ.out) ha HX.out.2
        subst hal
        clear hb ha
        go_wp2_with fail
        have hc := refScale21 A n cap zs Df a cpf x w6 S.out F.out hn
        rw [HX.out.1] at hc
        refine hc.mono ?_
        clear hc
        rintro en w7 ⟨rfl, hb⟩
        replace S := Lib.hid (S.out.below hb (Nat.le_refl _))
        replace B := Lib.hid (B.out.trans (hb.mono B.out.size))
        replace F := Lib.hid (F.out.below hb (Nat.le_refl _))
        replace G := Lib.hid (G.out.below hb (Nat.le_refl _))
        clear hb
        go_wp2_with fail
        have hc := refApart24 A n cap zs Da a cpa y w7 S.out G.out hn (by omega)
        rw [HY.out.1] at hc
        refine hc.mono ?_
        clear hc
        rintro en w8 ⟨rfl, hb⟩
        replace S := Lib.hid (S.out.below hb (Nat.le_refl _))
        replace B := Lib.hid (B.out.trans (hb.mono B.out.size))
        replace F := Lib.hid (F.out.below hb (Nat.le_refl _))
        replace G := Lib.hid (G.out.below hb (Nat.le_refl _))
        clear hb
        go_wp2_with fail
        have hc := works15 w8
        refine hc.mono ?_
        clear hc
        rintro en w9 ⟨rfl, hb⟩
        replace S := Lib.hid (S.out.below hb (Nat.le_refl _))
        replace B := Lib.hid (B.out.trans (hb.mono B.out.size))
        replace F := Lib.hid (F.out.below hb (Nat.le_refl _))
        replace G := Lib.hid (G.out.below hb (Nat.le_refl _))
        clear hb
        go_wp2_with fail
        go_ret
        exact ⟨rfl, B.out⟩
      · obtain ⟨c, hc⟩ : ∃ c, chkS zs = c := ⟨_, rfl⟩
        rw [hc] at h0
        rw [hc]
        have Hc := Lib.hid hc
        have H0 := Lib.hid h0
        have d0 : (c != 0) = true := by rw [bne_iff_ne]; exact h0
        clear hc h0
        go_wp2_with fail
        refine (apart26 A n cap zs w3 S.out).mono ?_
        rintro en w44 ⟨hb, hor⟩
        replace S := Lib.hid (S.out.below hb (Nat.le_refl _))
        replace B := Lib.hid (B.out.trans (hb.mono B.out.size))
        clear hb
        obtain ⟨hz, _⟩ | ⟨_, rfl⟩ := hor
        · rw [Hc.out] at hz; exact absurd hz H0.out
        rw [Hc.out]
        go_wp2_with fail
        have hc := refSong19 A n cap zs w44 S.out hn
        rw [Hc.out] at hc
        refine hc.mono ?_
        clear hc
        rintro en w45 ⟨rfl, hb⟩
        replace S := Lib.hid (S.out.below hb (Nat.le_refl _))
        replace B := Lib.hid (B.out.trans (hb.mono B.out.size))
        clear hb
        go_wp2_with fail
        have hc := refSong19 A n cap zs w45 S.out hn
        rw [Hc.out] at hc
        refine hc.mono ?_
        clear hc
        rintro en w46 ⟨rfl, hb⟩
        replace S := Lib.hid (S.out.below hb (Nat.le_refl _))
        replace B := Lib.hid (B.out.trans (hb.mono B.out.size))
        clear hb
        go_wp2_with fail
        have hc := works15 w46
        refine hc.mono ?_
        clear hc
        rintro en w47 ⟨rfl, hb⟩
        replace S := Lib.hid (S.out.below hb (Nat.le_refl _))
        replace B := Lib.hid (B.out.trans (hb.mono B.out.size))
        clear hb
        go_wp2_with fail
        go_ret
        exact ⟨rfl, B.out⟩
end Go.Proofs.Ytdfdlklglbefiaa
