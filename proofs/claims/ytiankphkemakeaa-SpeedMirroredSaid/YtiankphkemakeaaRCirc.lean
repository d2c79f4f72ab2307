/- The contract of the document's CheckCircle. -/
import Derived.Test.YtiankphkemakeaaChain
namespace Go.Proofs.Ytiankphkemakeaa
set_option linter.unusedSimpArgs false
set_option linter.unusedVariables false
open Go.RowKit Go.Shelf

/-- What the document's CheckCircle returns. -/
def checkCircleD (T : Int) (rs : List R) (ks : List Int) : Int :=
  if chk T rs ≠ 0 then chk T rs else
  if ks.length < 1 ∨ 60 < ks.length then 6 else
  if (chainR (whole T.toNat rs) ks).2 ≠ 0 then (chainR (whole T.toNat rs) ks).2 else
  if rf (whole T.toNat rs) (nth ks 0).toNat ≠ rt (whole T.toNat rs) (nth ks (ks.length - 1)).toNat then 16 else
  if 0 ≤ (chainR (whole T.toNat rs) ks).1 then 14 else 0

theorem chainR_names {ws : List R} {ks : List Int} (h : (chainR ws ks).2 = 0) : ∀ i, i < ks.length → 0 ≤ nth ks i ∧ nth ks i < (ws.length : Int) := by
  intro i hi
  have hin : inAll ws ks = true := by
    unfold chainR at h
    cases hq : inAll ws ks with
    | true => rfl
    | false => rw [hq] at h; simp at h
  have := List.all_eq_true.1 hin (nth ks i) (nth_mem hi)
  simp at this
  exact this

set_option maxRecDepth 100000 in
set_option maxHeartbeats 1000000 in
theorem checkCircle26 (A C : Option Addr) (n cap m capm : Nat) (T : Int) (rs : List R) (ks : List Int) (w : World) (h : Rules w A n rs) (hk : Ints w C m ks) (hn : n ≤ 140737488355328) (hm : m ≤ 1000) :
    Calls Try.prog 26 #[.agg #[.int .i64 T, .slice A n cap], .slice C m capm] w fun e w' => e = .returned (.int .i64 (checkCircleD T rs ks)) ∧ Below w.heap.size w w' := by
  have HB0 := Lib.hid (show Below w.heap.size w (w.alloc (.cells #[.int .i64 T, .slice A n cap] 24)) from (Below.refl _ _).alloc (Nat.le_refl _) _)
  have H0 := Lib.hid (h.below HB0.out (Nat.le_refl _))
  have Hk0 := Lib.hid (hk.below HB0.out (Nat.le_refl _))
  clear h hk
  go_enter Try.func26, Try.ntmps26
  go_wp2_with fail
  refine (checkSheet19 A n cap rs T _ H0.out hn).mono ?_
  rintro e w1 ⟨rfl, hb⟩
  have hz : w.heap.size < w1.heap.size := by have := hb.size; simp at this; omega
  have c0 : w1.cell? ⟨w.heap.size, 0, none⟩ = some (.int .i64 T) := by rw [(bcell hb).1 _ _ (by simp)]; go_simp
  have c1 : w1.cell? ⟨w.heap.size, 1, none⟩ = some (.slice A n cap) := by rw [(bcell hb).1 _ _ (by simp)]; go_simp
  have H1 := Lib.hid (H0.out.below hb (Nat.le_refl _))
  have Hk1 := Lib.hid (Hk0.out.below hb (Nat.le_refl _))
  have Hb := Lib.hid (HB0.out.trans (hb.mono (by simp)))
  clear hb
  by_cases he : chk T rs = 0
  · obtain ⟨hl60, hT1, hT20, _⟩ := chk_ok he
    obtain ⟨T, rfl⟩ := Int.eq_ofNat_of_zero_le (show 0 ≤ T by omega)
    have hT2 : T ≤ 20 := by omega
    have hn60 : n ≤ 60 := by rw [← H1.out.1]; exact hl60
    have Hlen := Lib.hid (show (whole T rs).length = n + 2 * T by rw [whole_len2, H1.out.1])
    have Hlk := Lib.hid Hk1.out.1
    have Hm := Lib.hid (show checkCircleD T rs ks = if m < 1 ∨ 60 < m then 6 else if (chainR (whole T rs) ks).2 ≠ 0 then (chainR (whole T rs) ks).2 else if rf (whole T rs) (nth ks 0).toNat ≠ rt (whole T rs) (nth ks (m - 1)).toNat then 16 else if 0 ≤ (chainR (whole T rs) ks).1 then 14 else 0 by
      unfold checkCircleD
      rw [if_neg (by simpa using he), Int.toNat_natCast, Hlk.out])
    have He := Lib.hid he
    rw [he]
    clear he hT1 hT20 hl60
    by_cases hm1 : m < 1
    · have hm1d : decide ((m : Int) < 1) = true := decide_eq_true (by omega)
      have Hm1 := Lib.hid hm1
      clear hm1
      go_wp2_with fail
      go_ret
      exact ⟨ret_int (by rw [Hm.out, if_pos (.inl Hm1.out)]), Hb.out⟩
    · have hm1d : decide ((m : Int) < 1) = false := decide_eq_false (by omega)
      by_cases hm60 : 60 < m
      · have hm60d : decide ((60 : Int) < (m : Int)) = true := decide_eq_true (by omega)
        have Hm60 := Lib.hid hm60
        clear hm60 hm1
        go_wp2_with fail
        go_ret
        exact ⟨ret_int (by rw [Hm.out, if_pos (.inr Hm60.out)]), Hb.out⟩
      · have hm60d : decide ((60 : Int) < (m : Int)) = false := decide_eq_false (by omega)
        have Hmb := Lib.hid (show ¬ (m < 1 ∨ 60 < m) by omega)
        clear hm60 hm1
        go_wp2_with fail
        refine (chain62 A C n cap T m capm rs ks w1 H1.out Hk1.out hm He.out).mono ?_
        rintro e w2 ⟨rfl, hb2⟩
        obtain ⟨cost, er, hch⟩ : ∃ cost er, chainR (whole T rs) ks = (cost, er) := ⟨_, _, rfl⟩
        have hnam := chainR_names (ws := whole T rs) (ks := ks)
        rw [hch] at hnam ⊢
        have Hnam := Lib.hid hnam
        have Hch := Lib.hid hch
        have hz2 : w1.heap.size ≤ w2.heap.size := hb2.size
        have d0 := ((bcell hb2).1 w.heap.size 0 hz).trans c0
        have d1 := ((bcell hb2).1 w.heap.size 1 hz).trans c1
        have H2 := Lib.hid (H1.out.below hb2 (Nat.le_refl _))
        have Hk2 := Lib.hid (Hk1.out.below hb2 (Nat.le_refl _))
        have Hb2 := Lib.hid (Hb.out.trans (hb2.mono (by omega)))
        clear hb2 hch hnam c0 c1
        dsimp only
        by_cases her : er = 0
        · subst her
          go_wp2_with fail
          refine (all54 A n cap T rs _ H2.out (by omega) (by omega)).mono ?_
          rintro e w3 ⟨A1, cap1, rfl, hown, hb3⟩
          obtain ⟨br, ro, rfl, hcells⟩ := (Rules.of_own hown).2 (by have := Hmb.out; have := Hnam.out trivial 0 (by have := Hlk.out; omega); have := Hlen.out; omega)
          obtain ⟨bk, ko, rfl, hc⟩ := (Hk2.out.below hb3 (Nat.le_refl _)).2 (by have := Hmb.out; omega)
          have cz := hc 0 (by have := Hmb.out; omega)
          have cl := hc (m - 1) (by have := Hmb.out; omega)
          obtain ⟨hz0, hzN⟩ := Hnam.out trivial 0 (by have := Hmb.out; have := Hlk.out; omega)
          obtain ⟨hq0, hqN⟩ := Hnam.out trivial (m - 1) (by have := Hmb.out; have := Hlk.out; omega)
          obtain ⟨nz, hnz⟩ := Int.eq_ofNat_of_zero_le hz0
          obtain ⟨nq, hnq⟩ := Int.eq_ofNat_of_zero_le hq0
          rw [hnz] at cz hz0 hzN
          rw [hnq] at cl hq0 hqN
          rw [Nat.add_zero] at cz
          rw [Hlen.out] at hzN hqN
          have Hnz := Lib.hid hnz
          have Hnq := Lib.hid hnq
          have r1 := (hcells nz (by omega)).1
          have r2 := (hcells nq (by omega)).2.1
          have hzN2 : (nz : Int) < (n : Int) + 2 * (T : Int) := by omega
          have hqN2 : (nq : Int) < (n : Int) + 2 * (T : Int) := by omega
          have hmm : (m : Int) - 1 = ((m - 1 : Nat) : Int) := by have := Hmb.out; omega
          have hm0 : (0 : Int) < (m : Int) := by have := Hmb.out; omega
          have hmm2 : ((m - 1 : Nat) : Int) < (m : Int) := by omega
          have Hb3 := Lib.hid (Hb2.out.trans (hb3.mono (by have := Hb2.out.size; omega)))
          clear hown hb3 hcells hc hnz hnq d0 d1
          by_cases heq : rf (whole T rs) nz = rt (whole T rs) nq
          · have heq2 : (rf (whole T rs) nz != rt (whole T rs) nq) = false := by rw [bne_eq_false_iff_eq]; exact heq
            have Heq := Lib.hid heq
            clear heq
            have Hm3 := Lib.hid (show checkCircleD T rs ks = if 0 ≤ cost then 14 else 0 by rw [Hm.out, if_neg Hmb.out, Hch.out, if_neg (by simp), Hnz.out, Hnq.out, Int.toNat_natCast, Int.toNat_natCast, if_neg (by simpa using Heq.out)])
            by_cases hco : 0 ≤ cost
            · go_wp2_with fail
              go_quiet (fail)
              go_wp2_with fail
              go_ret
              exact ⟨ret_int (by rw [Hm3.out, if_pos hco]), Hb3.out.trans (drew_below _ _ _)⟩
            · go_wp2_with fail
              go_quiet (fail)
              go_wp2_with fail
              go_ret
              exact ⟨ret_int (by rw [Hm3.out, if_neg (by omega)]), Hb3.out.trans (drew_below _ _ _)⟩
          · have heq2 : (rf (whole T rs) nz != rt (whole T rs) nq) = true := by rw [bne_iff_ne]; exact heq
            have Heq := Lib.hid heq
            clear heq
            have Hm3 := Lib.hid (show checkCircleD T rs ks = 16 by rw [Hm.out, if_neg Hmb.out, Hch.out, if_neg (by simp), Hnz.out, Hnq.out, Int.toNat_natCast, Int.toNat_natCast, if_pos Heq.out])
            go_wp2_with fail
            go_quiet (fail)
            go_wp2_with fail
            go_ret
            exact ⟨ret_int Hm3.out.symm, Hb3.out.trans (drew_below _ _ _)⟩
        · have her2 : (er != 0) = true := by rw [bne_iff_ne]; exact her
          have Her := Lib.hid her
          clear her
          go_wp2_with fail
          go_ret
          exact ⟨ret_int (by rw [Hm.out, if_neg Hmb.out, Hch.out, if_pos Her.out]), Hb2.out⟩
  · have he2 : (chk T rs != 0) = true := by rw [bne_iff_ne]; exact he
    have Hm := Lib.hid (show checkCircleD T rs ks = chk T rs by unfold checkCircleD; rw [if_pos he])
    go_wp2_with fail
    refine (checkSheet19 A n cap rs T _ H1.out hn).mono ?_
    rintro e w2 ⟨rfl, hb2⟩
    have Hb2 := Lib.hid (Hb.out.trans (hb2.mono (by omega)))
    clear hb2
    go_wp2_with fail
    go_ret
    exact ⟨ret_int Hm.out.symm, Hb2.out⟩
end Go.Proofs.Ytiankphkemakeaa
