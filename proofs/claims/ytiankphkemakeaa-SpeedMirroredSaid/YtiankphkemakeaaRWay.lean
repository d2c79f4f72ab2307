/- The contract of the document's CheckWay. -/
import Derived.Test.YtiankphkemakeaaChainTh
import Derived.Test.YtiankphkemakeaaLawSheets
namespace Go.Proofs.Ytiankphkemakeaa
set_option linter.unusedSimpArgs false
set_option linter.unusedVariables false
open Go.RowKit Go.Shelf

/-- A number and an error are returned. -/
def RetN (w : World) (r : Int × Int) (e : Ending) (w' : World) : Prop := e = .returned (.tuple #[.int .i64 r.1, .int .i64 r.2]) ∧ Below w.heap.size w w'

set_option maxRecDepth 100000 in
set_option maxHeartbeats 2000000 in
theorem checkWay24 (A C : Option Addr) (n cap m capm : Nat) (T x y : Int) (rs : List R) (ks : List Int) (w : World) (h : Rules w A n rs) (hk : Ints w C m ks) (hn : n ≤ 140737488355328) (hm : m ≤ 1000) :
    Calls Try.prog 24 #[.agg #[.int .i64 T, .slice A n cap], .int .i64 x, .int .i64 y, .slice C m capm] w (RetN w (checkWayD T rs x y ks)) := by
  have X0 := Bx.new (T := T) (cap := cap) h
  have K0 := Lib.hid (hk.below (below_alloc_ w (.cells #[.int .i64 T, .slice A n cap] 24)) (Nat.le_refl _))
  clear h hk
  go_enter Try.func24, Try.ntmps24
  go_wp2_with fail
  refine (checkSheet19 A n cap rs T _ X0.rules hn).mono ?_
  rintro e w1 ⟨rfl, hb⟩
  have X1 := X0.next hb
  have K1 := Lib.hid (K0.out.below hb (Nat.le_refl _))
  obtain ⟨B, hB⟩ : ∃ B, w.heap.size = B := ⟨_, rfl⟩
  rw [hB] at X1
  try rw [hB]
  clear hb X0 K0 hB
  have c0 := X1.c0
  have c1 := X1.c1
  by_cases he : chk T rs = 0
  · have hne : ¬ (chk T rs ≠ 0) := fun h => h he
    have Hm := Lib.hid (show checkWayD T rs x y ks = if x < 0 ∨ T < x ∨ y < 0 ∨ T < y then (0, 2) else if 60 < ks.length then (0, 6) else if (chainR (whole T.toNat rs) ks).2 ≠ 0 then (0, (chainR (whole T.toNat rs) ks).2) else
      if ks.length = 0 then (if x ≠ y then (0, 16) else (0, 0)) else if rf (whole T.toNat rs) (nth ks 0).toNat ≠ x ∨ rt (whole T.toNat rs) (nth ks (ks.length - 1)).toNat ≠ y then (0, 16) else ((chainR (whole T.toNat rs) ks).1, 0) by unfold checkWayD; rw [if_neg hne])
    clear hne
    obtain ⟨hl60, hT1, hT20, _⟩ := chk_ok he
    have He := Lib.hid he
    rw [he]
    clear he
    obtain ⟨T, rfl⟩ := Int.eq_ofNat_of_zero_le (show 0 ≤ T by omega)
    rw [Int.toNat_natCast] at Hm
    have hn60 : n ≤ 60 := by rw [← X1.rules.1]; exact hl60
    clear hl60 hT1
    by_cases h1 : x < 0
    · have d1 : decide (x < 0) = true := decide_eq_true h1
      go_wp2_with fail
      go_ret2
      exact ⟨by rw [Hm.out, if_pos (.inl h1)]; rfl, X1.below⟩
    · have d1 : decide (x < 0) = false := decide_eq_false h1
      by_cases h2 : (T : Int) < x
      · have d2 : decide ((T : Int) < x) = true := decide_eq_true h2
        go_wp2_with fail
        go_ret2
        exact ⟨by rw [Hm.out, if_pos (.inr (.inl h2))]; rfl, X1.below⟩
      · have d2 : decide ((T : Int) < x) = false := decide_eq_false h2
        by_cases h3 : y < 0
        · have d3 : decide (y < 0) = true := decide_eq_true h3
          go_wp2_with fail
          go_ret2
          exact ⟨by rw [Hm.out, if_pos (.inr (.inr (.inl h3)))]; rfl, X1.below⟩
        · have d3 : decide (y < 0) = false := decide_eq_false h3
          by_cases h4 : (T : Int) < y
          · have d4 : decide ((T : Int) < y) = true := decide_eq_true h4
            go_wp2_with fail
            go_ret2
            exact ⟨by rw [Hm.out, if_pos (.inr (.inr (.inr h4)))]; rfl, X1.below⟩
          · have d4 : decide ((T : Int) < y) = false := decide_eq_false h4
            have Hm2 := Lib.hid (Hm.out.trans (if_neg (by omega)))
            obtain ⟨x, rfl⟩ := Int.eq_ofNat_of_zero_le (show 0 ≤ x by omega)
            obtain ⟨y, rfl⟩ := Int.eq_ofNat_of_zero_le (show 0 ≤ y by omega)
            have d2 : decide (T < x) = false := decide_eq_false (by omega)
            have d4 : decide (T < y) = false := decide_eq_false (by omega)
            have hml := K1.out.1
            have Hml := Lib.hid hml
            clear hml
            by_cases h60 : 60 < m
            · have d5 : decide ((60 : Int) < (m : Int)) = true := decide_eq_true (by omega)
              go_wp2_with fail
              go_ret2
              exact ⟨by rw [Hm2.out, if_pos (by rw [Hml.out]; exact h60)]; rfl, X1.below⟩
            · have d5 : decide ((60 : Int) < (m : Int)) = false := decide_eq_false (by omega)
              have Hm3 := Lib.hid (Hm2.out.trans (if_neg (by rw [Hml.out]; exact h60)))
              clear Hm Hm2
              go_wp2_with fail
              refine (chain62 A C n cap T m capm rs ks w1 X1.rules K1.out hm He.out).mono ?_
              rintro e w2 ⟨rfl, hb⟩
              have X2 := X1.next hb
              have K2 := Lib.hid (K1.out.below hb (Nat.le_refl _))
              clear hb X1 K1 c0 c1
              have c0 := X2.c0
              have c1 := X2.c1
              obtain ⟨cost, er, hch⟩ : ∃ cost er, chainR (whole T rs) ks = (cost, er) := ⟨_, _, rfl⟩
              have hnam := chainR_names (ws := whole T rs) (ks := ks)
              rw [hch] at hnam ⊢
              have Hnam := Lib.hid hnam
              have Hch := Lib.hid hch
              clear hch hnam
              dsimp only
              by_cases her : er = 0
              · subst her
                have Hm4 := Lib.hid (show checkWayD T rs x y ks = if ks.length = 0 then (if (x : Int) ≠ y then (0, 16) else (0, 0)) else if rf (whole T rs) (nth ks 0).toNat ≠ x ∨ rt (whole T rs) (nth ks (ks.length - 1)).toNat ≠ y then (0, 16) else (cost, 0) by rw [Hm3.out, Hch.out, if_neg (by simp)])
                clear Hm3
                by_cases h0 : m = 0
                · subst h0
                  by_cases hxy : x = y
                  · subst hxy
                    go_wp2_with fail
                    go_ret2
                    exact ⟨by rw [Hm4.out, if_pos Hml.out, if_neg (by simp)]; rfl, X2.below⟩
                  · have d6 : (x != y) = true := by rw [bne_iff_ne]; exact hxy
                    go_wp2_with fail
                    go_ret2
                    exact ⟨by rw [Hm4.out, if_pos Hml.out, if_pos (by omega)]; rfl, X2.below⟩
                · have d6 : (m == 0) = false := by simpa using h0
                  have Hm5 := Lib.hid (Hm4.out.trans (if_neg (by rw [Hml.out]; exact h0)))
                  clear Hm4
                  go_wp2_with fail
                  refine (all54 A n cap T rs _ X2.rules (by omega) (by omega)).mono ?_
                  rintro e w3 ⟨A1, cap1, rfl, hown, hb3⟩
                  have HBe := Lib.hid (X2.below.trans (hb3.mono X2.below.size))
                  have Hlen := Lib.hid (show (whole T rs).length = n + 2 * T by rw [whole_len2, X2.rules.1])
                  obtain ⟨hz0, hzN⟩ := Hnam.out trivial 0 (by rw [Hml.out]; omega)
                  obtain ⟨hq0, hqN⟩ := Hnam.out trivial (m - 1) (by rw [Hml.out]; omega)
                  obtain ⟨br, ro, rfl, hcells⟩ := (Rules.of_own hown).2 (by have := Hlen.out; omega)
                  obtain ⟨bk, ko, rfl, hc⟩ := (K2.out.below hb3 (Nat.le_refl _)).2 (by omega)
                  have cz := hc 0 (by omega)
                  have cl := hc (m - 1) (by omega)
                  obtain ⟨nz, hnz⟩ := Int.eq_ofNat_of_zero_le hz0
                  obtain ⟨nq, hnq⟩ := Int.eq_ofNat_of_zero_le hq0
                  rw [hnz] at cz hz0 hzN
                  rw [hnq] at cl hq0 hqN
                  rw [Nat.add_zero] at cz
                  rw [Hlen.out] at hzN hqN
                  have Hnz := Lib.hid hnz
                  have Hnq := Lib.hid hnq
                  have r1 := (hcells nz (by omega)).1
                  have r2 := (hcells nq (by omega)).2.1
                  have hzN2 : (nz : Int) < (n : Int) + 2 * (T : Int) := by omega
                  have hqN2 : (nq : Int) < (n : Int) + 2 * (T : Int) := by omega
                  have hmm : (m : Int) - 1 = ((m - 1 : Nat) : Int) := by omega
                  have hm0 : (0 : Int) < (m : Int) := by omega
                  have hmm2 : ((m - 1 : Nat) : Int) < (m : Int) := by omega
                  clear hown hb3 hcells hc hnz hnq c0 c1 X2 K2 h0
                  have Hm6 := Lib.hid (show checkWayD T rs x y ks = if rf (whole T rs) nz ≠ x ∨ rt (whole T rs) nq ≠ y then (0, 16) else (cost, 0) by rw [Hm5.out, Hml.out, Hnz.out, Hnq.out, Int.toNat_natCast, Int.toNat_natCast])
                  clear Hm5
                  by_cases e1 : rf (whole T rs) nz = x
                  · have e1d : (rf (whole T rs) nz != (x : Int)) = false := by rw [bne_eq_false_iff_eq]; exact e1
                    have E1 := Lib.hid e1
                    clear e1
                    by_cases e2 : rt (whole T rs) nq = y
                    · have e2d : (rt (whole T rs) nq != (y : Int)) = false := by rw [bne_eq_false_iff_eq]; exact e2
                      have E2 := Lib.hid e2
                      clear e2
                      go_wp2_with fail
                      go_ret2
                      exact ⟨by rw [Hm6.out, if_neg (fun h => h.elim (fun h => h E1.out) (fun h => h E2.out))]; rfl, HBe.out⟩
                    · have e2d : (rt (whole T rs) nq != (y : Int)) = true := by rw [bne_iff_ne]; exact e2
                      have E2 := Lib.hid e2
                      clear e2
                      go_wp2_with fail
                      go_ret2
                      exact ⟨by rw [Hm6.out, if_pos (.inr E2.out)]; rfl, HBe.out⟩
                  · have e1d : (rf (whole T rs) nz != (x : Int)) = true := by rw [bne_iff_ne]; exact e1
                    have E1 := Lib.hid e1
                    clear e1
                    go_wp2_with fail
                    go_ret2
                    exact ⟨by rw [Hm6.out, if_pos (.inl E1.out)]; rfl, HBe.out⟩
              · have her2 : (er != 0) = true := by rw [bne_iff_ne]; exact her
                have Her := Lib.hid her
                clear her
                go_wp2_with fail
                go_ret2
                exact ⟨by rw [Hm3.out, Hch.out, if_pos Her.out]; rfl, X2.below⟩
  · have he2 : (chk T rs != 0) = true := by rw [bne_iff_ne]; exact he
    have Hm := Lib.hid (show checkWayD T rs x y ks = (0, chk T rs) by unfold checkWayD; rw [if_pos he])
    go_wp2_with fail
    refine (checkSheet19 A n cap rs T _ X1.rules hn).mono ?_
    rintro e w2 ⟨rfl, hb⟩
    have X2 := X1.next hb
    clear hb X1 c0 c1
    go_wp2_with fail
    go_ret2
    exact ⟨by rw [Hm.out]; rfl, X2.below⟩
end Go.Proofs.Ytiankphkemakeaa
