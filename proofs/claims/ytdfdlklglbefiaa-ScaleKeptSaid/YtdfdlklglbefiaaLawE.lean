/- Stage 3: the law ScaleKept. -/
import Derived.Test.YtdfdlklglbefiaaFin
namespace Go.Proofs.Ytdfdlklglbefiaa
set_option linter.unusedSimpArgs false
set_option linter.unusedVariables false
open Go.RowKit Go.Shelf

set_option maxRecDepth 100000 in
set_option maxHeartbeats 40000000 in
theorem kept12 (A : Option Addr) (n cap : Nat) (zs : List Rg) (x : Nat) (C : Option Addr) (m cap2 : Nat) (gv : List Int) (w : World) (h : Rgs w A n zs) (hs : Ints w C m gv) (hn : n ≤ 9223372036854775807) (hm : m ≤ 9223372036854775807) (hxx : x ≤ 255) : Calls Try.prog 12 #[.slice A n cap, .int .u8 (x : Int), .slice C m cap2] w fun en w' => en = .returned (.bool true) ∧ Below w.heap.size w w' := by
  have S := Lib.hid h
  have N := Lib.hid hs
  have HZl := Lib.hid h.1
  have HNl := Lib.hid hs.1
  clear h hs
  by_cases hz : chkS zs = 0
  rotate_left
  · have d1 : decide (chkS zs = 0) = false := decide_eq_false hz
    clear hz
    go_enter Try.func12, Try.ntmps12
    go_wp2_with fail
    have hc := fine35 A n cap zs w S.out hn
    rw [d1] at hc
    refine hc.mono ?_
    rintro en w1 ⟨rfl, hb⟩
    replace S := Lib.hid (S.out.below hb (Nat.le_refl _))
    replace N := Lib.hid (N.out.below hb (Nat.le_refl _))
    have B := Lib.hid hb
    clear hc hb d1
    go_wp2_with fail
    refine (works15 _).mono ?_
    rintro en wz ⟨rfl, hb⟩
    have B2 := Lib.hid (B.out.trans (hb.mono B.out.size))
    clear hb
    go_wp2_with fail
    go_ret
    exact ⟨rfl, B2.out⟩
  · have d1 : decide (chkS zs = 0) = true := decide_eq_true hz
    have HZ := Lib.hid hz
    have hl24 := len_of hz
    rw [HZl.out] at hl24
    clear hz
    by_cases h2 : 40 < m
    · have d2 : (40 : Int) < (m : Int) := by omega
      go_enter Try.func12, Try.ntmps12
      go_wp2_with fail
      have hc := fine35 A n cap zs w S.out hn
      rw [d1] at hc
      refine hc.mono ?_
      rintro en w21 ⟨rfl, hb⟩
      replace S := Lib.hid (S.out.below hb (Nat.le_refl _))
      replace N := Lib.hid (N.out.below hb (Nat.le_refl _))
      have B := Lib.hid hb
      clear hc hb d1
      go_wp2_with fail
      refine (works15 _).mono ?_
      rintro en wz ⟨rfl, hb⟩
      have B2 := Lib.hid (B.out.trans (hb.mono B.out.size))
      clear hb
      go_wp2_with fail
      go_ret
      exact ⟨rfl, B2.out⟩
    · have d2 : ¬ (40 : Int) < (m : Int) := by omega
      obtain ⟨k, hk⟩ : ∃ k : Nat, k = x % 24 := ⟨_, rfl⟩
      have hk24 : k < 24 := by omega
      have k1 : (x : Int) % 24 = (k : Int) := by omega
      have k2 : (x : Int).tmod 24 = (k : Int) := by rw [Int.tmod_eq_emod_of_nonneg (by omega)]; exact k1
      have hx0 : (0 : Int) ≤ (x : Int) := by omega
      clear hk
      go_enter Try.func12, Try.ntmps12
      go_wp2_with fail
      have hc := fine35 A n cap zs w S.out hn
      rw [d1] at hc
      refine hc.mono ?_
      rintro en w41 ⟨rfl, hb⟩
      replace S := Lib.hid (S.out.below hb (Nat.le_refl _))
      replace N := Lib.hid (N.out.below hb (Nat.le_refl _))
      have B := Lib.hid hb
      clear hc hb d1
      go_wp2_with fail
      refine (most33 most58 A n cap zs (k : Int) w41 S.out).mono ?_
      rintro en w42 ⟨hb, hor⟩
      replace S := Lib.hid (S.out.below hb (Nat.le_refl _))
      replace N := Lib.hid (N.out.below hb (Nat.le_refl _))
      replace B := Lib.hid (B.out.trans (hb.mono B.out.size))
      clear hb
      obtain ⟨h0, _⟩ | ⟨_, h0, _⟩ | ⟨_, _, s1, Cs1, cps1, m1, hm, rfl, hi, hf⟩ := hor
      · exact absurd HZ.out h0
      · exact absurd h0 (by simp [withI, inB]; omega)
      have H1 := Lib.hid hm
      obtain rfl := hm.cnt
      obtain ⟨c1, hc1⟩ : ∃ c1, cntM zs s1 = c1 := ⟨_, rfl⟩
      rw [hc1]
      obtain ⟨l1, hl1⟩ : ∃ l1, s1.length = l1 := ⟨_, rfl⟩
      have hlk : l1 ≤ k := by have := hm.len; omega
      have hcn : c1 ≤ n := by rw [← hc1, ← HZl.out]; exact List.countP_le_length
      rw [hl1] at hi
      rw [hl1]
      have Hc1 := Lib.hid hc1
      have Hl1 := Lib.hid hl1
      have I1 := Lib.hid hi
      clear hm hi hf hc1 hl1
      go_wp2_with fail
      refine (most33 most58 A n cap zs ((k : Int) + 1) w42 S.out).mono ?_
      rintro en w43 ⟨hb, hor⟩
      replace S := Lib.hid (S.out.below hb (Nat.le_refl _))
      replace N := Lib.hid (N.out.below hb (Nat.le_refl _))
      replace B := Lib.hid (B.out.trans (hb.mono B.out.size))
      replace I1 := Lib.hid (I1.out.below hb (Nat.le_refl _))
      clear hb
      obtain ⟨h0, _⟩ | ⟨_, h0, _⟩ | ⟨_, _, s2, Cs2, cps2, m2, hm, rfl, hi, hf⟩ := hor
      · exact absurd HZ.out h0
      · exact absurd h0 (by simp [withI, inB]; omega)
      have H2 := Lib.hid hm
      obtain rfl := hm.cnt
      obtain ⟨c2, hc2⟩ : ∃ c2, cntM zs s2 = c2 := ⟨_, rfl⟩
      rw [hc2]
      have Hc2 := Lib.hid hc2
      obtain ⟨l2, hl2⟩ : ∃ l2, s2.length = l2 := ⟨_, rfl⟩
      rw [hl2]
      clear hm hi hf hc2 hl2
      go_wp2_with fail
      refine (fewest25 A n cap zs w43 S.out).mono ?_
      rintro en w44 ⟨hb, hor⟩
      replace S := Lib.hid (S.out.below hb (Nat.le_refl _))
      replace N := Lib.hid (N.out.below hb (Nat.le_refl _))
      replace B := Lib.hid (B.out.trans (hb.mono B.out.size))
      replace I1 := Lib.hid (I1.out.below hb (Nat.le_refl _))
      clear hb
      obtain ⟨hz, f, Df, cpf, hx, rfl, hi, hf⟩ | ⟨h0, rfl⟩ := hor
      rotate_left
      · exact absurd HZ.out h0
      have HX := Lib.hid (hx.up (ok_of hz))
      obtain ⟨lf, hlf⟩ : ∃ lf, f.length = lf := ⟨_, rfl⟩
      rw [hlf]
      have Hlf := Lib.hid hlf
      clear hi hf hx hz hlf
      go_wp2_with fail
      refine (met16 A n cap zs Cs1 l1 cps1 s1 w44 S.out I1.out).mono ?_
      rintro en w45 ⟨Cn, cpn, rfl, hi, hf, hb⟩
      replace S := Lib.hid (S.out.below hb (Nat.le_refl _))
      replace N := Lib.hid (N.out.below hb (Nat.le_refl _))
      replace B := Lib.hid (B.out.trans (hb.mono B.out.size))
      replace I1 := Lib.hid (I1.out.below hb (Nat.le_refl _))
      have hsc := mostR_sc H1.out (by omega) HZ.out
      rw [hsc]
      have hml : (metR zs s1).length = c1 := by unfold metR; rw [if_pos hsc, metL_cnt, Hc1.out]
      rw [hml]
      clear hi hf hb hsc hml
      have h12 : c1 ≤ c2 := by have := H2.out.best s1 H1.out.incr (by have := H1.out.len; omega); have := Hc1.out; have := Hc2.out; omega
      have hstr : c1 < n → c1 < c2 := fun hlt => by
        obtain ⟨s3, h3, h4, h5⟩ := one_more H1.out.incr (ok_of HZ.out) (by rw [Hc1.out, HZl.out]; exact hlt)
        have := H2.out.best s3 h3 (by have := H1.out.len; omega); have := Hc1.out; have := Hc2.out; omega
      have hful : c1 = n ↔ lf ≤ k := by
        constructor
        · intro h
          have hr : right zs s1 := cnt_right.1 (by rw [Hc1.out, HZl.out]; exact h)
          have := HX.out.len_le H1.out.incr hr
          have := Hlf.out; have := Hl1.out; omega
        · intro h
          have h1 := H1.out.best f (HX.out.incr (ok_of HZ.out)) (by have := Hlf.out; omega)
          rw [cnt_right.2 HX.out.right, Hc1.out, HZl.out] at h1; omega
      have q1 : ¬ (k : Int) < (l1 : Int) := by omega
      have q2 : ¬ (n : Int) < (c1 : Int) := by omega
      have q3 : ¬ (c2 : Int) < (c1 : Int) := by omega
      have hcase : (c1 < n ∧ ¬ lf ≤ k ∧ c1 < c2) ∨ (c1 = n ∧ lf ≤ k) := by
        by_cases h : c1 < n
        · exact .inl ⟨h, fun h2 => by have := hful.2 h2; omega, hstr h⟩
        · exact .inr ⟨by omega, hful.1 (by omega)⟩
      clear h12 hstr hful
      rcases hcase with ⟨p1, p2, p3⟩ | ⟨p1, p2⟩
      · have r1 : (c1 : Int) < (n : Int) := by omega
        have r2 : ¬ ((lf : Int) ≤ (k : Int)) := by omega
        have r3 : ((c2 : Int) == (c1 : Int)) = false := by rw [beq_eq_false_iff_ne]; omega
        have r4 : ((c1 : Int) == (n : Int)) = false := by rw [beq_eq_false_iff_ne]; omega
        have r5 : (c2 == c1) = false := by rw [beq_eq_false_iff_ne]; omega
        have r6 : (c1 == n) = false := by rw [beq_eq_false_iff_ne]; omega
        go_wp2_with fail
        refine (met16 A n cap zs C m cap2 gv w45 S.out N.out).mono ?_
        rintro en w49 ⟨Cg, cpg, rfl, hi, hf, hb⟩
        replace S := Lib.hid (S.out.below hb (Nat.le_refl _))
        replace N := Lib.hid (N.out.below hb (Nat.le_refl _))
        replace B := Lib.hid (B.out.trans (hb.mono B.out.size))
        obtain ⟨e, he⟩ : ∃ e, isSc zs gv = e := ⟨_, rfl⟩
        rw [he]
        obtain ⟨lg, hlg⟩ : ∃ lg, (metR zs gv).length = lg := ⟨_, rfl⟩
        rw [hlg]
        have hres : e ≠ 0 ∨ k < m ∨ lg ≤ c1 := by
          by_cases h0 : e = 0
          · by_cases hkm : k < m
            · exact .inr (.inl hkm)
            · right; right
              subst h0
              have := H1.out.best gv (isSc_incr he) (by have := HNl.out; omega)
              have h3 : lg = cntM zs gv := by rw [← hlg]; unfold metR; rw [if_pos he, metL_cnt]
              have := Hc1.out; omega
          · exact .inl h0
        clear hi hf hb he hlg
        have Hres := Lib.hid hres
        clear hres
        by_cases h0 : e = 0
        · subst h0
          by_cases hkm : k < m
          · have r1 : (k : Int) < (m : Int) := by omega
            clear hkm
            go_wp2_with fail
            have hc := works15 w49
            refine hc.mono ?_
            clear hc
            rintro en w71 ⟨rfl, hb⟩
            replace B := Lib.hid (B.out.trans (hb.mono B.out.size))
            clear hb
            go_wp2_with fail
            go_ret
            exact ⟨rfl, B.out⟩
          · have r1 : ¬ (k : Int) < (m : Int) := by omega
            have r2 : (lg : Int) ≤ (c1 : Int) := by have := Hres.out; omega
            have r3 : lg ≤ c1 := by omega
            clear hkm
            go_wp2_with fail
            have hc := works15 w49
            refine hc.mono ?_
            clear hc
            rintro en w71 ⟨rfl, hb⟩
            replace B := Lib.hid (B.out.trans (hb.mono B.out.size))
            clear hb
            go_wp2_with fail
            go_ret
            exact ⟨rfl, B.out⟩
        · have d0 : (e != 0) = true := by rw [bne_iff_ne]; exact h0
          clear h0
          go_wp2_with fail
          have hc := works15 w49
          refine hc.mono ?_
          clear hc
          rintro en w71 ⟨rfl, hb⟩
          replace B := Lib.hid (B.out.trans (hb.mono B.out.size))
          clear hb
          go_wp2_with fail
          go_ret
          exact ⟨rfl, B.out⟩
      · have r1 : ((lf : Int) ≤ (k : Int)) := by omega
        have r2 : ((c1 : Int) == (n : Int)) = true := by rw [beq_iff_eq]; omega
        have r3 : (c1 == n) = true := by rw [beq_iff_eq]; exact p1
        have r4 : ¬ ((c1 : Int) < (n : Int)) := by omega
        have r5 : ¬ (c1 < n) := by omega
        clear p1
        go_wp2_with fail
        refine (met16 A n cap zs C m cap2 gv w45 S.out N.out).mono ?_
        rintro en w49 ⟨Cg, cpg, rfl, hi, hf, hb⟩
        replace S := Lib.hid (S.out.below hb (Nat.le_refl _))
        replace N := Lib.hid (N.out.below hb (Nat.le_refl _))
        replace B := Lib.hid (B.out.trans (hb.mono B.out.size))
        obtain ⟨e, he⟩ : ∃ e, isSc zs gv = e := ⟨_, rfl⟩
        rw [he]
        obtain ⟨lg, hlg⟩ : ∃ lg, (metR zs gv).length = lg := ⟨_, rfl⟩
        rw [hlg]
        have hres : e ≠ 0 ∨ k < m ∨ lg ≤ c1 := by
          by_cases h0 : e = 0
          · by_cases hkm : k < m
            · exact .inr (.inl hkm)
            · right; right
              subst h0
              have := H1.out.best gv (isSc_incr he) (by have := HNl.out; omega)
              have h3 : lg = cntM zs gv := by rw [← hlg]; unfold metR; rw [if_pos he, metL_cnt]
              have := Hc1.out; omega
          · exact .inl h0
        clear hi hf hb he hlg
        have Hres := Lib.hid hres
        clear hres
        by_cases h0 : e = 0
        · subst h0
          by_cases hkm : k < m
          · have r1 : (k : Int) < (m : Int) := by omega
            clear hkm
            go_wp2_with fail
            have hc := works15 w49
            refine hc.mono ?_
            clear hc
            rintro en w71 ⟨rfl, hb⟩
            replace B := Lib.hid (B.out.trans (hb.mono B.out.size))
            clear hb
            go_wp2_with fail
            go_ret
            exact ⟨rfl, B.out⟩
          · have r1 : ¬ (k : Int) < (m : Int) := by omega
            have r2 : (lg : Int) ≤ (c1 : Int) := by have := Hres.out; omega
            have r3 : lg ≤ c1 := by omega
            clear hkm
            go_wp2_with fail
            have hc := works15 w49
            refine hc.mono ?_
            clear hc
            rintro en w71 ⟨rfl, hb⟩
            replace B := Lib.hid (B.out.trans (hb.mono B.out.size))
            clear hb
            go_wp2_with fail
            go_ret
            exact ⟨rfl, B.out⟩
        · have d0 : (e != 0) = true := by rw [bne_iff_ne]; exact h0
          clear h0
          go_wp2_with fail
          have hc := works15 w49
          refine hc.mono ?_
          clear hc
          rintro en w71 ⟨rfl, hb⟩
          replace B := Lib.hid (B.out.trans (hb.mono B.out.size))
          clear hb
          go_wp2_with fail
          go_ret
          exact ⟨rfl, B.out⟩
end Go.Proofs.Ytdfdlklglbefiaa
