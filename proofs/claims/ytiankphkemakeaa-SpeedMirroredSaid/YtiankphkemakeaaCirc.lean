/- The contract of the program's CheckCircle. -/
import Derived.Test.YtiankphkemakeaaWhole
namespace Go.Proofs.Ytiankphkemakeaa
set_option linter.unusedSimpArgs false
set_option linter.unusedVariables false
open Go.RowKit

theorem run_field68 (W : World) (a b c : Int) : (Instr.field 68 (.agg #[.int .i64 a, .int .i64 b, .int .i64 c]) 0).run Try.prog W = .ok (.int .i64 a) W := by kernel_rfl

/-- Where a list of names begins. -/
def start (ws : List R) (ks : List Int) : Int := (rl ws (nth ks 0)).f
/-- The error of CheckCircle. -/
def checkCircle (T : Int) (rs : List R) (ks : List Int) : Int :=
  if chk T rs ≠ 0 then chk T rs else
  if within 1 60 [(ks.length : Int)] then
    if named (whole T.toNat rs) ks then
      if (follow (whole T.toNat rs) (start (whole T.toNat rs) ks) 0 ks).2.2 = true ∧ (follow (whole T.toNat rs) (start (whole T.toNat rs) ks) 0 ks).1 = start (whole T.toNat rs) ks then
        if 0 ≤ (follow (whole T.toNat rs) (start (whole T.toNat rs) ks) 0 ks).2.1 then 14 else 0
      else 16
    else 3
  else 6

set_option maxHeartbeats 400000 in
theorem checkCircle25_bad (A C : Option Addr) (n cap m capm : Nat) (T : Int) (rs : List R) (ks : List Int) (w : World) (h : Rules w A n rs) (hn : n ≤ 140737488355328) (he : chk T rs ≠ 0) :
    Calls Try.prog 25 #[.agg #[.int .i64 T, .slice A n cap], .slice C m capm] w fun e w' => e = .returned (.int .i64 (checkCircle T rs ks)) ∧ Below w.heap.size w w' := by
  have HB0 := Lib.hid (show Below w.heap.size w (w.alloc (.cells #[.int .i64 T, .slice A n cap] 24)) from (Below.refl _ _).alloc (Nat.le_refl _) _)
  have H0 := Lib.hid (h.below HB0.out (Nat.le_refl _))
  have He := Lib.hid he
  have he2 : (chk T rs != 0) = true := by rw [bne_iff_ne]; exact he
  have Hm := Lib.hid (show checkCircle T rs ks = chk T rs by unfold checkCircle; rw [if_pos he])
  clear h he
  go_enter Try.func25, Try.ntmps25
  go_wp2_with fail
  refine (complete53_bad A n cap T rs _ H0.out hn He.out).mono ?_
  rintro e w1 ⟨rfl, hb⟩
  have Hb := Lib.hid hb
  clear hb
  go_wp2_with fail
  go_ret
  exact ⟨by rw [Hm.out]; rfl, (HB0.out.trans (Hb.out.mono (by simp))).alloc (by have := Hb.out.size; simp at this; omega) _⟩

set_option maxRecDepth 100000 in
set_option maxHeartbeats 1000000 in
theorem checkCircle25_ok (A C : Option Addr) (n cap T m capm : Nat) (rs : List R) (ks : List Int) (w : World) (h : Rules w A n rs) (hk : Ints w C m ks) (hm : m ≤ 1000) (he : chk T rs = 0) :
    Calls Try.prog 25 #[.agg #[.int .i64 (T : Int), .slice A n cap], .slice C m capm] w fun e w' => e = .returned (.int .i64 (checkCircle T rs ks)) ∧ Below w.heap.size w w' := by
  obtain ⟨hl60, hT1, hT20, _⟩ := chk_ok he
  have hn60 : n ≤ 60 := by rw [← h.1]; exact hl60
  have Hm := Lib.hid (show checkCircle T rs ks = if within 1 60 [(m : Int)] then (if named (whole T rs) ks then (if (follow (whole T rs) (start (whole T rs) ks) 0 ks).2.2 = true ∧ (follow (whole T rs) (start (whole T rs) ks) 0 ks).1 = start (whole T rs) ks then (if 0 ≤ (follow (whole T rs) (start (whole T rs) ks) 0 ks).2.1 then 14 else 0) else 16) else 3) else 6 by unfold checkCircle; rw [if_neg (by simpa using he), Int.toNat_natCast, hk.1])
  have HB0 := Lib.hid (show Below w.heap.size w (w.alloc (.cells #[.int .i64 (T : Int), .slice A n cap] 24)) from (Below.refl _ _).alloc (Nat.le_refl _) _)
  have H0 := Lib.hid (h.below HB0.out (Nat.le_refl _))
  have Hk0 := Lib.hid (hk.below HB0.out (Nat.le_refl _))
  have He := Lib.hid he
  have Hs := Lib.hid (small_whole he)
  clear h hk he
  go_enter Try.func25, Try.ntmps25
  go_wp2_with fail
  refine (complete53_ok A n cap T rs _ H0.out He.out).mono ?_
  rintro e w1 ⟨A1, cap1, rfl, hown, hb⟩
  have Hb := Lib.hid (HB0.out.trans (hb.mono (by simp)))
  have Hr1 := Lib.hid ((Rules.of_own hown).below ((Below.refl _ _).alloc (Nat.le_refl _) (.cells #[.int .i64 (T : Int), .slice A n cap, .slice A1 (n + 2 * T) cap1] 79)) (Nat.le_refl _))
  have Hk1 := Lib.hid ((Hk0.out.below hb (Nat.le_refl _)).below ((Below.refl _ _).alloc (Nat.le_refl _) (.cells #[.int .i64 (T : Int), .slice A n cap, .slice A1 (n + 2 * T) cap1] 79)) (Nat.le_refl _))
  have hz : w.heap.size < w1.heap.size := by have := hb.size; simp at this; omega
  clear hb hown
  go_wp2_with fail
  refine (within55_1 _ _ (m : Int) _ _ _ ?c1).mono ?_
  case c1 => go_simp
  rintro e w2 ⟨rfl, rfl⟩
  cases hq : within 1 60 [(m : Int)] with
  | false =>
    have Hq := Lib.hid hq
    clear hq
    go_wp2_with fail
    go_ret
    exact ⟨ret_int (by rw [Hm.out, Hq.out]; rfl), (Hb.out.alloc (by omega) _).alloc (by simp; omega) _⟩
  | true =>
    have hm1 : 1 ≤ m := by rw [within_one] at hq; simp at hq; omega
    have Hq := Lib.hid hq
    clear hq
    go_wp2_with fail
    refine (named60 _ _ _ _ _ _ _ _ _ _ (whole T rs) ks _ (Hr1.out.below ((Below.refl _ _).alloc (Nat.le_refl _) _) (Nat.le_refl _)) (Hk1.out.below ((Below.refl _ _).alloc (Nat.le_refl _) _) (Nat.le_refl _)) (by omega) (by omega)).mono ?_
    rintro e w2 ⟨rfl, hb2⟩
    have hz2 : w1.heap.size < w2.heap.size := by have := hb2.size; simp at this; omega
    have c0 : w2.cell? ⟨w1.heap.size, 0, none⟩ = some (.int .i64 (T : Int)) := by rw [(bcell hb2).1 _ _ (by simp; omega)]; go_simp
    have c1 : w2.cell? ⟨w1.heap.size, 1, none⟩ = some (.slice A n cap) := by rw [(bcell hb2).1 _ _ (by simp; omega)]; go_simp
    have c2 : w2.cell? ⟨w1.heap.size, 2, none⟩ = some (.slice A1 (n + 2 * T) cap1) := by rw [(bcell hb2).1 _ _ (by simp; omega)]; go_simp
    have Hb2 := Lib.hid (((Hb.out.alloc (by omega) _).alloc (by simp; omega) _).trans (hb2.mono (by simp; omega)))
    have Hr2 := Lib.hid ((Hr1.out.below ((Below.refl _ _).alloc (Nat.le_refl _) _) (Nat.le_refl _)).below hb2 (Nat.le_refl _))
    have Hk2 := Lib.hid ((Hk1.out.below ((Below.refl _ _).alloc (Nat.le_refl _) _) (Nat.le_refl _)).below hb2 (Nat.le_refl _))
    clear hb2
    cases hq2 : named (whole T rs) ks with
    | false =>
      have Hq2 := Lib.hid hq2
      clear hq2
      go_wp2_with fail
      go_ret
      exact ⟨ret_int (by rw [Hm.out, Hq.out, if_pos (show true = true from rfl), Hq2.out]; rfl), Hb2.out⟩
    | true =>
      have Hq2 := Lib.hid hq2
      clear hq2
      obtain ⟨_, hcs⟩ := Hk2.out
      obtain ⟨b, o, rfl, hc⟩ := hcs (by omega)
      have ck := hc 0 (by omega)
      rw [Nat.add_zero] at ck
      have hi1 : (0 : Int) < (m : Int) := by omega
      have hi2 : 0 < m := by omega
      clear hcs hc
      go_wp2_with fail
      go_still_tail 4, (by kernel_rfl)
      go_wp2_with fail
      refine (rule63 _ _ _ _ _ _ _ _ (whole T rs) _ (show Rules w2.drew A1 (n + 2 * T) (whole T rs) from Hr2.out) (by omega)).mono ?_
      rintro e w3 ⟨rfl, hb3⟩
      have hz3 : w1.heap.size < w3.heap.size := by have := hb3.size; simp at this; omega
      have d0 : w3.cell? ⟨w1.heap.size, 0, none⟩ = some (.int .i64 (T : Int)) := ((bcell hb3).1 _ _ (by simp; omega)).trans c0
      have d1 : w3.cell? ⟨w1.heap.size, 1, none⟩ = some (.slice A n cap) := ((bcell hb3).1 _ _ (by simp; omega)).trans c1
      have d2 : w3.cell? ⟨w1.heap.size, 2, none⟩ = some (.slice A1 (n + 2 * T) cap1) := ((bcell hb3).1 _ _ (by simp; omega)).trans c2
      have Hr3 := Lib.hid (Rules.below (show Rules w2.drew A1 (n + 2 * T) (whole T rs) from Hr2.out) hb3 (Nat.le_refl _))
      have Hk3 := Lib.hid (Ints.below (show Ints w2.drew (some ⟨b, o, none⟩) m ks from Hk2.out) hb3 (Nat.le_refl _))
      have Hb3 := Lib.hid (Hb2.out.drew.trans (hb3.mono (by simp; omega)))
      clear hb3
      have hfld := fun W : World => run_field68 W (rl (whole T rs) (nth ks 0)).f (rl (whole T rs) (nth ks 0)).t (rl (whole T rs) (nth ks 0)).m
      go_wp2_with fail
      clear hfld
      refine (follow61 _ _ _ _ _ _ _ _ _ _ _ (whole T rs) ks _ Hr3.out Hk3.out Hs.out (by omega) (by omega)).mono ?_
      rintro e w4 ⟨rfl, hb4⟩
      have Hb4 := Lib.hid (Hb3.out.trans (hb4.mono (by omega)))
      clear hb4
      obtain ⟨S, hS⟩ : ∃ S, start (whole T rs) ks = S := ⟨_, rfl⟩
      have hS2 : (rl (whole T rs) (nth ks 0)).f = S := hS
      obtain ⟨t, c, ok, hf⟩ : ∃ t c ok, follow (whole T rs) S 0 ks = (t, c, ok) := ⟨_, _, _, rfl⟩
      rw [hS2, hf]
      have Hg := Lib.hid (show checkCircle (T : Int) rs ks = if ok = true ∧ t = S then (if 0 ≤ c then 14 else 0) else 16 by rw [Hm.out, Hq.out, if_pos (show true = true from rfl), Hq2.out, hS, hf]; rfl)
      clear hS hS2 hf
      cases ok with
      | false =>
        go_wp2_with fail
        go_ret
        exact ⟨ret_int (by rw [Hg.out]; rfl), Hb4.out⟩
      | true =>
        by_cases hy : t = S
        · have hy2 : (t != S) = false := by rw [bne_eq_false_iff_eq]; exact hy
          have Hy := Lib.hid hy
          clear hy
          by_cases hc : 0 ≤ c
          · go_wp2_with fail
            go_ret
            exact ⟨ret_int (by rw [Hg.out, if_pos ⟨by trivial, Hy.out⟩, if_pos (by omega)]), Hb4.out⟩
          · go_wp2_with fail
            go_ret
            exact ⟨ret_int (by rw [Hg.out, if_pos ⟨by trivial, Hy.out⟩, if_neg (by omega)]), Hb4.out⟩
        · have hy2 : (t != S) = true := by rw [bne_iff_ne]; exact hy
          have Hy := Lib.hid hy
          clear hy
          go_wp2_with fail
          go_ret
          exact ⟨ret_int (by rw [Hg.out, if_neg (fun h => Hy.out h.2)]), Hb4.out⟩

theorem checkCircle25 (A C : Option Addr) (n cap m capm : Nat) (T : Int) (rs : List R) (ks : List Int) (w : World) (h : Rules w A n rs) (hk : Ints w C m ks) (hn : n ≤ 140737488355328) (hm : m ≤ 1000) :
    Calls Try.prog 25 #[.agg #[.int .i64 T, .slice A n cap], .slice C m capm] w fun e w' => e = .returned (.int .i64 (checkCircle T rs ks)) ∧ Below w.heap.size w w' := by
  by_cases he : chk T rs = 0
  · obtain ⟨_, hT1, _, _⟩ := chk_ok he
    obtain ⟨k, rfl⟩ := Int.eq_ofNat_of_zero_le (show 0 ≤ T by omega)
    exact checkCircle25_ok A C n cap k m capm rs ks w h hk hm he
  · exact checkCircle25_bad A C n cap m capm T rs ks w h hn he
end Go.Proofs.Ytiankphkemakeaa
