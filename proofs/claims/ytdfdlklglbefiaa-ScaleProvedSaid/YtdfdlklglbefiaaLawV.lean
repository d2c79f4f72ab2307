/- Stage 3: the law ScaleProved. -/
import Derived.Test.YtdfdlklglbefiaaBy
import Derived.Test.YtdfdlklglbefiaaCk23
import Derived.Test.YtdfdlklglbefiaaApx
namespace Go.Proofs.Ytdfdlklglbefiaa
set_option linter.unusedSimpArgs false
set_option linter.unusedVariables false
open Go.RowKit Go.Shelf
theorem IntsU.below {w w' : World} {A : Option Addr} {n B : Nat} {zs : List Int} (h : IntsU w A n zs) (hb : Below B w w') (hB : w.heap.size ≤ B) : IntsU w' A n zs := by
  refine ⟨h.1, h.2.1, fun hn => ?_⟩
  obtain ⟨b, o, e, hc⟩ := h.2.2 hn
  have hl := lt_of_cell (hc 0 hn)
  exact ⟨b, o, e, fun j hj => (hb.cell (p := ⟨b, o + j, none⟩) (by simp; omega)).trans (hc j hj)⟩

set_option maxRecDepth 100000 in
set_option maxHeartbeats 40000000 in
theorem proved7 (A : Option Addr) (n cap : Nat) (zs : List Rg) (C1 : Option Addr) (m1 cap1 : Nat) (us : List Int) (C2 : Option Addr) (m2 cap2 : Nat) (gv : List Int) (C3 : Option Addr) (m3 cap3 : Nat) (ns : List Int) (w : World) (h : Rgs w A n zs) (hu : IntsU w C1 m1 us) (hg : Ints w C2 m2 gv) (hq : Ints w C3 m3 ns) (hn : n ≤ 9223372036854775807) (hm1 : m1 ≤ 9223372036854775807) (hm2 : m2 ≤ 9223372036854775807) (hm3 : m3 ≤ 9223372036854775807) (hmc : m3 ≤ cap3) : Calls Try.prog 7 #[.slice A n cap, .slice C1 m1 cap1, .slice C2 m2 cap2, .slice C3 m3 cap3] w fun en w' => en = .returned (.bool true) ∧ Below w.heap.size w w' := by
  have S := Lib.hid h
  have U := Lib.hid hu
  have N := Lib.hid hg
  have Q := Lib.hid hq
  have HZl := Lib.hid h.1
  have HNl := Lib.hid hg.1
  have HQl := Lib.hid hq.1
  clear h hu hg hq
  by_cases hz : chkS zs = 0
  rotate_left
  · have d1 : decide (chkS zs = 0) = false := decide_eq_false hz
    clear hz
    go_enter Try.func7, Try.ntmps7
    go_wp2_with fail
    have hc := fine35 A n cap zs w S.out hn
    rw [d1] at hc
    refine hc.mono ?_
    rintro en w1 ⟨rfl, hb⟩
    replace S := Lib.hid (S.out.below hb (Nat.le_refl _))
    replace N := Lib.hid (N.out.below hb (Nat.le_refl _))
    replace Q := Lib.hid (Q.out.below hb (Nat.le_refl _))
    have B := Lib.hid hb
    clear hc hb d1
    go_wp2_with fail
    refine (works15 _).mono ?_
    rintro en wz ⟨rfl, hb⟩
    have B2 := Lib.hid (B.out.trans (hb.mono B.out.size))
    clear hb
    go_wp2_with fail
    go_ret
    exact ⟨rfl, B2.out⟩
  · have d1 : decide (chkS zs = 0) = true := decide_eq_true hz
    have HZ := Lib.hid hz
    have hl24 := len_of hz
    rw [HZl.out] at hl24
    clear hz
    by_cases h1 : 40 < m1
    · have d2 : (40 : Int) < (m1 : Int) := by omega
      go_enter Try.func7, Try.ntmps7
      go_wp2_with fail
      have hc := fine35 A n cap zs w S.out hn
      rw [d1] at hc
      refine hc.mono ?_
      rintro en w12 ⟨rfl, hb⟩
      replace S := Lib.hid (S.out.below hb (Nat.le_refl _))
      replace N := Lib.hid (N.out.below hb (Nat.le_refl _))
      replace Q := Lib.hid (Q.out.below hb (Nat.le_refl _))
      have B := Lib.hid hb
      clear hc hb d1
      go_wp2_with fail
      refine (works15 _).mono ?_
      rintro en wz ⟨rfl, hb⟩
      have B2 := Lib.hid (B.out.trans (hb.mono B.out.size))
      clear hb
      go_wp2_with fail
      go_ret
      exact ⟨rfl, B2.out⟩
    by_cases h2 : 40 < m2
    · have d2 : ¬ (40 : Int) < (m1 : Int) := by omega
      have d3 : (40 : Int) < (m2 : Int) := by omega
      go_enter Try.func7, Try.ntmps7
      go_wp2_with fail
      have hc := fine35 A n cap zs w S.out hn
      rw [d1] at hc
      refine hc.mono ?_
      rintro en w23 ⟨rfl, hb⟩
      replace S := Lib.hid (S.out.below hb (Nat.le_refl _))
      replace N := Lib.hid (N.out.below hb (Nat.le_refl _))
      replace Q := Lib.hid (Q.out.below hb (Nat.le_refl _))
      have B := Lib.hid hb
      clear hc hb d1
      go_wp2_with fail
      refine (works15 _).mono ?_
      rintro en wz ⟨rfl, hb⟩
      have B2 := Lib.hid (B.out.trans (hb.mono B.out.size))
      clear hb
      go_wp2_with fail
      go_ret
      exact ⟨rfl, B2.out⟩
    by_cases h3 : 40 < m3
    · have d2 : ¬ (40 : Int) < (m1 : Int) := by omega
      have d3 : ¬ (40 : Int) < (m2 : Int) := by omega
      have d4 : (40 : Int) < (m3 : Int) := by omega
      go_enter Try.func7, Try.ntmps7
      go_wp2_with fail
      have hc := fine35 A n cap zs w S.out hn
      rw [d1] at hc
      refine hc.mono ?_
      rintro en w34 ⟨rfl, hb⟩
      replace S := Lib.hid (S.out.below hb (Nat.le_refl _))
      replace N := Lib.hid (N.out.below hb (Nat.le_refl _))
      replace Q := Lib.hid (Q.out.below hb (Nat.le_refl _))
      have B := Lib.hid hb
      clear hc hb d1
      go_wp2_with fail
      refine (works15 _).mono ?_
      rintro en wz ⟨rfl, hb⟩
      have B2 := Lib.hid (B.out.trans (hb.mono B.out.size))
      clear hb
      go_wp2_with fail
      go_ret
      exact ⟨rfl, B2.out⟩
    have d2 : ¬ (40 : Int) < (m1 : Int) := by omega
    have d3 : ¬ (40 : Int) < (m2 : Int) := by omega
    have d4 : ¬ (40 : Int) < (m3 : Int) := by omega
    go_enter Try.func7, Try.ntmps7
    go_wp2_with fail
    have hc := fine35 A n cap zs w S.out hn
    rw [d1] at hc
    refine hc.mono ?_
    rintro en w45 ⟨rfl, hb⟩
    replace S := Lib.hid (S.out.below hb (Nat.le_refl _))
    replace N := Lib.hid (N.out.below hb (Nat.le_refl _))
    replace Q := Lib.hid (Q.out.below hb (Nat.le_refl _))
    have B := Lib.hid hb
    clear hc hb d1
    go_wp2_with fail
    clear d2 d3 d4
    refine (fewest25 A n cap zs w45 S.out).mono ?_
    rintro en w46 ⟨hb, hor⟩
    replace S := Lib.hid (S.out.below hb (Nat.le_refl _))
    replace N := Lib.hid (N.out.below hb (Nat.le_refl _))
    replace Q := Lib.hid (Q.out.below hb (Nat.le_refl _))
    replace B := Lib.hid (B.out.trans (hb.mono B.out.size))
    clear hb
    obtain ⟨hz, x, Df, cpf, hx, rfl, hi, hf⟩ | ⟨h0, rfl⟩ := hor
    rotate_left
    · exact absurd HZ.out h0
    have hup := hx.up (ok_of hz)
    have HX := Lib.hid (show IsUp zs x ∧ ckSc zs x = 0 ∧ LenU zs x.length from ⟨hup, up_right hz hup, up_lenU hup⟩)
    obtain ⟨lx, hlx⟩ : ∃ lx, x.length = lx := ⟨_, rfl⟩
    rw [hlx] at hi HX
    rw [hlx]
    have Hlx := Lib.hid hlx
    have F := Lib.hid hi
    clear hi hf hx hup hz hlx
    go_wp2_with fail
    refine (apart26c A n cap zs w46 S.out).mono ?_
    rintro en w47 ⟨hb, hor⟩
    replace S := Lib.hid (S.out.below hb (Nat.le_refl _))
    replace N := Lib.hid (N.out.below hb (Nat.le_refl _))
    replace Q := Lib.hid (Q.out.below hb (Nat.le_refl _))
    replace B := Lib.hid (B.out.trans (hb.mono B.out.size))
    replace F := Lib.hid (F.out.below hb (Nat.le_refl _))
    clear hb
    obtain ⟨hz, y, Da, cpa, hy, rfl, hcpa, hi, hf⟩ | ⟨h0, rfl⟩ := hor
    rotate_left
    · exact absurd HZ.out h0
    have HY := Lib.hid (apart_ok hz hy)
    obtain ⟨ly, hly⟩ : ∃ ly, y.length = ly := ⟨_, rfl⟩
    rw [hly] at hi HY hcpa
    rw [hly]
    have G := Lib.hid hi
    clear hi hf hy hz hly
    have hll : ly = lx := lenU_eq (ok_of HZ.out) HY.out.2 HX.out.2.2
    subst hll
    have hly24 : ly ≤ 24 := by have := up_len HZ.out HX.out.1; have := Hlx.out; have := HZl.out; omega
    go_wp2_with fail
    have hc := checkScale20 A n cap zs Df ly cpf x w47 S.out F.out
    rw [HX.out.2.1] at hc
    refine hc.mono ?_
    clear hc
    rintro en w48 ⟨rfl, hb⟩
    replace S := Lib.hid (S.out.below hb (Nat.le_refl _))
    replace N := Lib.hid (N.out.below hb (Nat.le_refl _))
    replace Q := Lib.hid (Q.out.below hb (Nat.le_refl _))
    replace B := Lib.hid (B.out.trans (hb.mono B.out.size))
    replace F := Lib.hid (F.out.below hb (Nat.le_refl _))
    replace G := Lib.hid (G.out.below hb (Nat.le_refl _))
    clear hb
    go_wp2_with fail
    have hc := refScale21 A n cap zs Df ly cpf x w48 S.out F.out hn
    rw [HX.out.2.1] at hc
    refine hc.mono ?_
    clear hc
    rintro en w49 ⟨rfl, hb⟩
    replace S := Lib.hid (S.out.below hb (Nat.le_refl _))
    replace N := Lib.hid (N.out.below hb (Nat.le_refl _))
    replace Q := Lib.hid (Q.out.below hb (Nat.le_refl _))
    replace B := Lib.hid (B.out.trans (hb.mono B.out.size))
    replace F := Lib.hid (F.out.below hb (Nat.le_refl _))
    replace G := Lib.hid (G.out.below hb (Nat.le_refl _))
    clear hb
    go_wp2_with fail
    have hc := checkApart23 A n cap zs Da ly cpa y w49 S.out G.out (by omega) hcpa
    rw [HY.out.1] at hc
    refine hc.mono ?_
    clear hc
    rintro en w50 ⟨rfl, hb⟩
    replace S := Lib.hid (S.out.below hb (Nat.le_refl _))
    replace N := Lib.hid (N.out.below hb (Nat.le_refl _))
    replace Q := Lib.hid (Q.out.below hb (Nat.le_refl _))
    replace B := Lib.hid (B.out.trans (hb.mono B.out.size))
    replace F := Lib.hid (F.out.below hb (Nat.le_refl _))
    replace G := Lib.hid (G.out.below hb (Nat.le_refl _))
    clear hb
    go_wp2_with fail
    have hc := refApart24 A n cap zs Da ly cpa y w50 S.out G.out hn (by omega)
    rw [HY.out.1] at hc
    refine hc.mono ?_
    clear hc
    rintro en w51 ⟨rfl, hb⟩
    replace S := Lib.hid (S.out.below hb (Nat.le_refl _))
    replace N := Lib.hid (N.out.below hb (Nat.le_refl _))
    replace Q := Lib.hid (Q.out.below hb (Nat.le_refl _))
    replace B := Lib.hid (B.out.trans (hb.mono B.out.size))
    replace F := Lib.hid (F.out.below hb (Nat.le_refl _))
    replace G := Lib.hid (G.out.below hb (Nat.le_refl _))
    clear hb
    go_wp2_with fail
    refine (by36 A n cap zs C1 m1 cap1 us w51 S.out (U.out.below B.out (Nat.le_refl _)) HZ.out hm1).mono ?_
    rintro en w52 ⟨z, Dz, cpz, hzc, rfl, hlz, hi, hf, hb⟩
    replace S := Lib.hid (S.out.below hb (Nat.le_refl _))
    replace N := Lib.hid (N.out.below hb (Nat.le_refl _))
    replace Q := Lib.hid (Q.out.below hb (Nat.le_refl _))
    replace B := Lib.hid (B.out.trans (hb.mono B.out.size))
    obtain ⟨lz, hlz2⟩ : ∃ lz, z.length = lz := ⟨_, rfl⟩
    rw [hlz2] at hi
    rw [hlz2]
    have hle : ly ≤ lz := by have := up_least HZ.out HX.out.1 hzc; have := Hlx.out; omega
    have G := Lib.hid hi
    have Hzc := Lib.hid hzc
    clear hb hi hf hlz hlz2 hzc
    go_wp2_with fail
    have hc := checkScale20 A n cap zs Dz lz cpz z w52 S.out G.out
    rw [Hzc.out] at hc
    refine hc.mono ?_
    clear hc
    rintro en w53 ⟨rfl, hb⟩
    replace S := Lib.hid (S.out.below hb (Nat.le_refl _))
    replace N := Lib.hid (N.out.below hb (Nat.le_refl _))
    replace Q := Lib.hid (Q.out.below hb (Nat.le_refl _))
    replace B := Lib.hid (B.out.trans (hb.mono B.out.size))
    have dz : ¬ (lz : Int) < (ly : Int) := by omega
    clear hb
    go_wp2_with fail
    refine (checkScale20 A n cap zs C2 m2 cap2 gv w53 S.out N.out).mono ?_
    rintro en w54 ⟨rfl, hb⟩
    replace S := Lib.hid (S.out.below hb (Nat.le_refl _))
    replace N := Lib.hid (N.out.below hb (Nat.le_refl _))
    replace Q := Lib.hid (Q.out.below hb (Nat.le_refl _))
    replace B := Lib.hid (B.out.trans (hb.mono B.out.size))
    clear hb dz
    obtain ⟨eg, heg⟩ : ∃ eg, ckSc zs gv = eg := ⟨_, rfl⟩
    rw [heg]
    have hg : eg = 0 → ly ≤ m2 := fun h => by
      have := up_least HZ.out HX.out.1 (heg.trans h); have := Hlx.out; have := HNl.out; omega
    clear heg
    by_cases hg0 : eg = 0
    · have r0 : ¬ (m2 : Int) < (ly : Int) := by have := hg hg0; omega
      subst hg0
      clear hg
      go_wp2_with fail
      refine (checkApart23 A n cap zs C3 m3 cap3 ns w54 S.out Q.out (by omega) hmc).mono ?_
      rintro en w58 ⟨rfl, hb⟩
      replace S := Lib.hid (S.out.below hb (Nat.le_refl _))
      replace N := Lib.hid (N.out.below hb (Nat.le_refl _))
      replace Q := Lib.hid (Q.out.below hb (Nat.le_refl _))
      replace B := Lib.hid (B.out.trans (hb.mono B.out.size))
      clear hb
      obtain ⟨en2, hen⟩ : ∃ en2, ckAp zs ns = en2 := ⟨_, rfl⟩
      rw [hen]
      have hq : en2 = 0 → m3 ≤ ly := fun h => by
        have := apart_least HZ.out (hen.trans h) HX.out.1.right; have := Hlx.out; have := HQl.out; omega
      clear hen
      by_cases hn0 : en2 = 0
      · have r1 : ¬ (ly : Int) < (m3 : Int) := by have := hq hn0; omega
        subst hn0
        clear hq
        go_wp2_with fail
        have hc := works15 w58
        refine hc.mono ?_
        clear hc
        rintro en w81 ⟨rfl, hb⟩
        replace B := Lib.hid (B.out.trans (hb.mono B.out.size))
        clear hb
        go_wp2_with fail
        go_ret
        exact ⟨rfl, B.out⟩
      · have d0 : (en2 == 0) = false := by rw [beq_eq_false_iff_ne]; exact hn0
        clear hn0 hq
        go_wp2_with fail
        have hc := works15 w58
        refine hc.mono ?_
        clear hc
        rintro en w81 ⟨rfl, hb⟩
        replace B := Lib.hid (B.out.trans (hb.mono B.out.size))
        clear hb
        go_wp2_with fail
        go_ret
        exact ⟨rfl, B.out⟩
    · have d5 : (eg == 0) = false := by rw [beq_eq_false_iff_ne]; exact hg0
      clear hg0 hg
      go_wp2_with fail
      refine (checkApart23 A n cap zs C3 m3 cap3 ns w54 S.out Q.out (by omega) hmc).mono ?_
      rintro en w58 ⟨rfl, hb⟩
      replace S := Lib.hid (S.out.below hb (Nat.le_refl _))
      replace N := Lib.hid (N.out.below hb (Nat.le_refl _))
      replace Q := Lib.hid (Q.out.below hb (Nat.le_refl _))
      replace B := Lib.hid (B.out.trans (hb.mono B.out.size))
      clear hb
      obtain ⟨en2, hen⟩ : ∃ en2, ckAp zs ns = en2 := ⟨_, rfl⟩
      rw [hen]
      have hq : en2 = 0 → m3 ≤ ly := fun h => by
        have := apart_least HZ.out (hen.trans h) HX.out.1.right; have := Hlx.out; have := HQl.out; omega
      clear hen
      by_cases hn0 : en2 = 0
      · have r1 : ¬ (ly : Int) < (m3 : Int) := by have := hq hn0; omega
        subst hn0
        clear hq
        go_wp2_with fail
        have hc := works15 w58
        refine hc.mono ?_
        clear hc
        rintro en w81 ⟨rfl, hb⟩
        replace B := Lib.hid (B.out.trans (hb.mono B.out.size))
        clear hb
        go_wp2_with fail
        go_ret
        exact ⟨rfl, B.out⟩
      · have d0 : (en2 == 0) = false := by rw [beq_eq_false_iff_ne]; exact hn0
        clear hn0 hq
        go_wp2_with fail
        have hc := works15 w58
        refine hc.mono ?_
        clear hc
        rintro en w81 ⟨rfl, hb⟩
        replace B := Lib.hid (B.out.trans (hb.mono B.out.size))
        clear hb
        go_wp2_with fail
        go_ret
        exact ⟨rfl, B.out⟩
end Go.Proofs.Ytdfdlklglbefiaa
