/- The contracts of Whole (the program's and the document's) and of the program's CheckWay and CheckCircle. -/
import Derived.Test.YtiankphkemakeaaRule
namespace Go.Proofs.Ytiankphkemakeaa
set_option linter.unusedSimpArgs false
set_option linter.unusedVariables false
open Go.RowKit

set_option maxHeartbeats 400000 in
theorem whole16_bad (A : Option Addr) (n cap : Nat) (T : Int) (rs : List R) (w : World) (h : Rules w A n rs) (hn : n ≤ 140737488355328) (he : chk T rs ≠ 0) :
    Calls Try.prog 16 #[.agg #[.int .i64 T, .slice A n cap]] w fun e w' => e = .returned (.tuple #[.slice none 0 0, .int .i64 (chk T rs)]) ∧ Below w.heap.size w w' := by
  have HB0 := Lib.hid (show Below w.heap.size w (w.alloc (.cells #[.int .i64 T, .slice A n cap] 24)) from (Below.refl _ _).alloc (Nat.le_refl _) _)
  have H0 := Lib.hid (h.below HB0.out (Nat.le_refl _))
  have He := Lib.hid he
  clear h he
  go_enter Try.func16, Try.ntmps16
  go_wp2_with fail
  refine (complete53_bad A n cap T rs _ H0.out hn He.out).mono ?_
  rintro e w1 ⟨rfl, hb⟩
  have Hb := Lib.hid hb
  clear hb
  go_wp2_with fail
  go_ret2
  exact ⟨rfl, (HB0.out.trans (Hb.out.mono (by simp))).alloc (by have := Hb.out.size; simp at this; omega) _⟩

set_option maxHeartbeats 400000 in
theorem whole16_ok (A : Option Addr) (n cap T : Nat) (rs : List R) (w : World) (h : Rules w A n rs) (he : chk T rs = 0) :
    Calls Try.prog 16 #[.agg #[.int .i64 (T : Int), .slice A n cap]] w fun e w' => ∃ A' cap', e = .returned (.tuple #[.slice A' (n + 2 * T) cap', .int .i64 0]) ∧ Rules w' A' (n + 2 * T) (whole T rs) ∧ Below w.heap.size w w' := by
  have HB0 := Lib.hid (show Below w.heap.size w (w.alloc (.cells #[.int .i64 (T : Int), .slice A n cap] 24)) from (Below.refl _ _).alloc (Nat.le_refl _) _)
  have H0 := Lib.hid (h.below HB0.out (Nat.le_refl _))
  have He := Lib.hid he
  clear h he
  go_enter Try.func16, Try.ntmps16
  go_wp2_with fail
  refine (complete53_ok A n cap T rs _ H0.out He.out).mono ?_
  rintro e w1 ⟨A1, cap1, rfl, hown, hb⟩
  have Hown := Lib.hid hown
  have Hb := Lib.hid hb
  clear hb hown
  go_wp2_with fail
  go_ret2
  exact ⟨A1, cap1, rfl, (Rules.of_own Hown.out).below ((Below.refl _ _).alloc (Nat.le_refl _) _) (Nat.le_refl _), (HB0.out.trans (Hb.out.mono (by simp))).alloc (by have := Hb.out.size; simp at this; omega) _⟩

set_option maxHeartbeats 400000 in
theorem whole17_bad (A : Option Addr) (n cap : Nat) (T : Int) (rs : List R) (w : World) (h : Rules w A n rs) (hn : n ≤ 140737488355328) (he : chk T rs ≠ 0) :
    Calls Try.prog 17 #[.agg #[.int .i64 T, .slice A n cap]] w fun e w' => e = .returned (.tuple #[.slice none 0 0, .int .i64 (chk T rs)]) ∧ Below w.heap.size w w' := by
  have HB0 := Lib.hid (show Below w.heap.size w (w.alloc (.cells #[.int .i64 T, .slice A n cap] 24)) from (Below.refl _ _).alloc (Nat.le_refl _) _)
  have H0 := Lib.hid (h.below HB0.out (Nat.le_refl _))
  have he2 : (chk T rs != 0) = true := by rw [bne_iff_ne]; exact he
  clear h he
  go_enter Try.func17, Try.ntmps17
  go_wp2_with fail
  refine (checkSheet19 A n cap rs T _ H0.out hn).mono ?_
  rintro e w1 ⟨rfl, hb⟩
  have hz : w.heap.size < w1.heap.size := by have := hb.size; simp at this; omega
  have c0 : w1.cell? ⟨w.heap.size, 0, none⟩ = some (.int .i64 T) := by rw [(bcell hb).1 _ _ (by simp)]; go_simp
  have c1 : w1.cell? ⟨w.heap.size, 1, none⟩ = some (.slice A n cap) := by rw [(bcell hb).1 _ _ (by simp)]; go_simp
  have H1 := Lib.hid (H0.out.below hb (Nat.le_refl _))
  have Hb := Lib.hid hb
  clear hb
  go_wp2_with fail
  refine (checkSheet19 A n cap rs T _ H1.out hn).mono ?_
  rintro e w2 ⟨rfl, hb2⟩
  have Hb2 := Lib.hid hb2
  clear hb2
  go_wp2_with fail
  go_ret2
  exact ⟨rfl, (HB0.out.trans (Hb.out.mono (by simp))).trans (Hb2.out.mono (by omega))⟩

set_option maxHeartbeats 400000 in
theorem whole17_ok (A : Option Addr) (n cap T : Nat) (rs : List R) (w : World) (h : Rules w A n rs) (he : chk T rs = 0) :
    Calls Try.prog 17 #[.agg #[.int .i64 (T : Int), .slice A n cap]] w fun e w' => ∃ A' cap', e = .returned (.tuple #[.slice A' (n + 2 * T) cap', .int .i64 0]) ∧ Rules w' A' (n + 2 * T) (whole T rs) ∧ Below w.heap.size w w' := by
  obtain ⟨hl60, hT1, hT20, _⟩ := chk_ok he
  have hn60 : n ≤ 60 := by rw [← h.1]; exact hl60
  have HB0 := Lib.hid (show Below w.heap.size w (w.alloc (.cells #[.int .i64 (T : Int), .slice A n cap] 24)) from (Below.refl _ _).alloc (Nat.le_refl _) _)
  have H0 := Lib.hid (h.below HB0.out (Nat.le_refl _))
  have He := Lib.hid he
  clear h he
  go_enter Try.func17, Try.ntmps17
  go_wp2_with fail
  refine (checkSheet19 A n cap rs T _ H0.out (by omega)).mono ?_
  rintro e w1 ⟨rfl, hb⟩
  rw [He.out]
  have hz : w.heap.size < w1.heap.size := by have := hb.size; simp at this; omega
  have c0 : w1.cell? ⟨w.heap.size, 0, none⟩ = some (.int .i64 (T : Int)) := by rw [(bcell hb).1 _ _ (by simp)]; go_simp
  have c1 : w1.cell? ⟨w.heap.size, 1, none⟩ = some (.slice A n cap) := by rw [(bcell hb).1 _ _ (by simp)]; go_simp
  have H1 := Lib.hid (H0.out.below hb (Nat.le_refl _))
  have Hb := Lib.hid hb
  clear hb
  go_wp2_with fail
  refine (all54 A n cap T rs _ H1.out (by omega) (by omega)).mono ?_
  rintro e w2 ⟨A1, cap1, rfl, hown, hb2⟩
  have Hb2 := Lib.hid hb2
  have Hown := Lib.hid hown
  clear hb2 hown
  go_wp2_with fail
  go_ret2
  exact ⟨A1, cap1, rfl, Rules.of_own Hown.out, (HB0.out.trans (Hb.out.mono (by simp))).trans (Hb2.out.mono (by omega))⟩

theorem small_whole {T : Nat} {rs : List R} (he : chk T rs = 0) : Small (whole T rs) := by
  obtain ⟨_, _, _, hall⟩ := chk_ok he
  have hm : ∀ r ∈ whole T rs, -100000 ≤ r.m ∧ r.m ≤ 100000 := by
    have ht : ∀ k, ∀ r ∈ turnRules k, -100000 ≤ r.m ∧ r.m ≤ 100000 := by
      intro k
      induction k with
      | zero => simp [turnRules]
      | succ k ih =>
        intro r hr
        simp only [turnRules, List.mem_append, List.mem_cons, List.not_mem_nil, or_false] at hr
        rcases hr with hr | rfl | rfl
        · exact ih r hr
        · simp
        · simp
    intro r hr
    rcases List.mem_append.1 hr with hr | hr
    · have := List.all_eq_true.1 hall r hr
      have := (chkR_iff _ _).1 this
      exact ⟨this.2.2.2.2.2.1, this.2.2.2.2.2.2⟩
    · exact ht T r hr
  intro k
  unfold rl
  split
  · rename_i h
    unfold isName at h
    rw [within_one] at h
    simp at h
    rw [rAt_eq _ _ (by omega)]
    exact hm _ (List.getElem_mem _)
  · simp

/-- What CheckWay returns. -/
def checkWay (T : Int) (rs : List R) (x y : Int) (ks : List Int) : Int × Int :=
  if chk T rs ≠ 0 then (0, chk T rs) else
  if within 0 T [x, y] then
    if 60 < ks.length then (0, 6) else
    if named (whole T.toNat rs) ks then
      if (follow (whole T.toNat rs) x 0 ks).2.2 = true ∧ (follow (whole T.toNat rs) x 0 ks).1 = y then ((follow (whole T.toNat rs) x 0 ks).2.1, 0) else (0, 16)
    else (0, 3)
  else (0, 2)

set_option maxHeartbeats 400000 in
theorem checkWay23_bad (A C : Option Addr) (n cap m capm : Nat) (T x y : Int) (rs : List R) (ks : List Int) (w : World) (h : Rules w A n rs) (hn : n ≤ 140737488355328) (he : chk T rs ≠ 0) :
    Calls Try.prog 23 #[.agg #[.int .i64 T, .slice A n cap], .int .i64 x, .int .i64 y, .slice C m capm] w fun e w' => e = .returned (.tuple #[.int .i64 (checkWay T rs x y ks).1, .int .i64 (checkWay T rs x y ks).2]) ∧ Below w.heap.size w w' := by
  have HB0 := Lib.hid (show Below w.heap.size w (w.alloc (.cells #[.int .i64 T, .slice A n cap] 24)) from (Below.refl _ _).alloc (Nat.le_refl _) _)
  have H0 := Lib.hid (h.below HB0.out (Nat.le_refl _))
  have He := Lib.hid he
  have he2 : (chk T rs != 0) = true := by rw [bne_iff_ne]; exact he
  have Hm := Lib.hid (show checkWay T rs x y ks = (0, chk T rs) by unfold checkWay; rw [if_pos he])
  clear h he
  go_enter Try.func23, Try.ntmps23
  go_wp2_with fail
  refine (complete53_bad A n cap T rs _ H0.out hn He.out).mono ?_
  rintro e w1 ⟨rfl, hb⟩
  have Hb := Lib.hid hb
  clear hb
  go_wp2_with fail
  go_ret2
  exact ⟨by rw [Hm.out]; rfl, (HB0.out.trans (Hb.out.mono (by simp))).alloc (by have := Hb.out.size; simp at this; omega) _⟩

set_option maxHeartbeats 1000000 in
theorem checkWay23_ok (A C : Option Addr) (n cap T m capm : Nat) (x y : Int) (rs : List R) (ks : List Int) (w : World) (h : Rules w A n rs) (hk : Ints w C m ks) (hm : m ≤ 1000) (he : chk T rs = 0) :
    Calls Try.prog 23 #[.agg #[.int .i64 (T : Int), .slice A n cap], .int .i64 x, .int .i64 y, .slice C m capm] w fun e w' => e = .returned (.tuple #[.int .i64 (checkWay T rs x y ks).1, .int .i64 (checkWay T rs x y ks).2]) ∧ Below w.heap.size w w' := by
  obtain ⟨hl60, hT1, hT20, _⟩ := chk_ok he
  have hn60 : n ≤ 60 := by rw [← h.1]; exact hl60
  have Hm := Lib.hid (show checkWay T rs x y ks = if within 0 T [x, y] then (if 60 < ks.length then (0, 6) else if named (whole T rs) ks then (if (follow (whole T rs) x 0 ks).2.2 = true ∧ (follow (whole T rs) x 0 ks).1 = y then ((follow (whole T rs) x 0 ks).2.1, 0) else (0, 16)) else (0, 3)) else (0, 2) by unfold checkWay; rw [if_neg (by simpa using he), Int.toNat_natCast])
  have Hlm := Lib.hid hk.1
  have HB0 := Lib.hid (show Below w.heap.size w (w.alloc (.cells #[.int .i64 (T : Int), .slice A n cap] 24)) from (Below.refl _ _).alloc (Nat.le_refl _) _)
  have H0 := Lib.hid (h.below HB0.out (Nat.le_refl _))
  have Hk0 := Lib.hid (hk.below HB0.out (Nat.le_refl _))
  have He := Lib.hid he
  have Hs := Lib.hid (small_whole he)
  clear h hk he
  go_enter Try.func23, Try.ntmps23
  go_wp2_with fail
  refine (complete53_ok A n cap T rs _ H0.out He.out).mono ?_
  rintro e w1 ⟨A1, cap1, rfl, hown, hb⟩
  have Hb := Lib.hid (HB0.out.trans (hb.mono (by simp)))
  have Hr1 := Lib.hid ((Rules.of_own hown).below ((Below.refl _ _).alloc (Nat.le_refl _) (.cells #[.int .i64 (T : Int), .slice A n cap, .slice A1 (n + 2 * T) cap1] 79)) (Nat.le_refl _))
  have Hk1 := Lib.hid ((Hk0.out.below hb (Nat.le_refl _)).below ((Below.refl _ _).alloc (Nat.le_refl _) (.cells #[.int .i64 (T : Int), .slice A n cap, .slice A1 (n + 2 * T) cap1] 79)) (Nat.le_refl _))
  have hz : w.heap.size < w1.heap.size := by have := hb.size; simp at this; omega
  clear hb hown
  go_wp2_with fail
  refine (within55_2 _ _ x y _ _ _ ?c1 ?c2).mono ?_
  case c1 => go_simp
  case c2 => go_simp
  rintro e w2 ⟨rfl, rfl⟩
  cases hq : within 0 (T : Int) [x, y] with
  | false =>
    have Hq := Lib.hid hq
    clear hq
    go_wp2_with fail
    go_ret2
    exact ⟨by rw [Hm.out, Hq.out]; rfl, (Hb.out.alloc (by omega) _).alloc (by simp; omega) _⟩
  | true =>
    have Hq := Lib.hid hq
    clear hq
    by_cases h60 : 60 < m
    · go_wp2_with fail
      go_ret2
      exact ⟨by rw [Hm.out, Hq.out, if_pos (show true = true from rfl), if_pos (by rw [Hlm.out]; exact h60)]; rfl, (Hb.out.alloc (by omega) _).alloc (by simp; omega) _⟩
    · go_wp2_with fail
      refine (named60 _ _ _ _ _ _ _ _ _ _ (whole T rs) ks _ (Hr1.out.below ((Below.refl _ _).alloc (Nat.le_refl _) _) (Nat.le_refl _)) (Hk1.out.below ((Below.refl _ _).alloc (Nat.le_refl _) _) (Nat.le_refl _)) (by omega) (by omega)).mono ?_
      rintro e w2 ⟨rfl, hb2⟩
      have hz2 : w1.heap.size < w2.heap.size := by have := hb2.size; simp at this; omega
      have c0 : w2.cell? ⟨w1.heap.size, 0, none⟩ = some (.int .i64 (T : Int)) := by rw [(bcell hb2).1 _ _ (by simp; omega)]; go_simp
      have c1 : w2.cell? ⟨w1.heap.size, 1, none⟩ = some (.slice A n cap) := by rw [(bcell hb2).1 _ _ (by simp; omega)]; go_simp
      have c2 : w2.cell? ⟨w1.heap.size, 2, none⟩ = some (.slice A1 (n + 2 * T) cap1) := by rw [(bcell hb2).1 _ _ (by simp; omega)]; go_simp
      have Hb2 := Lib.hid (((Hb.out.alloc (by omega) _).alloc (by simp; omega) _).trans (hb2.mono (by simp; omega)))
      have Hr2 := Lib.hid ((Hr1.out.below ((Below.refl _ _).alloc (Nat.le_refl _) _) (Nat.le_refl _)).below hb2 (Nat.le_refl _))
      have Hk2 := Lib.hid ((Hk1.out.below ((Below.refl _ _).alloc (Nat.le_refl _) _) (Nat.le_refl _)).below hb2 (Nat.le_refl _))
      clear hb2
      cases hq2 : named (whole T rs) ks with
      | false =>
        have Hq2 := Lib.hid hq2
        clear hq2
        go_wp2_with fail
        go_ret2
        exact ⟨by rw [Hm.out, Hq.out, if_pos (show true = true from rfl), if_neg (by rw [Hlm.out]; exact h60), Hq2.out]; rfl, Hb2.out⟩
      | true =>
        have Hq2 := Lib.hid hq2
        clear hq2
        go_wp2_with fail
        refine (follow61 _ _ _ _ _ _ _ _ _ _ _ (whole T rs) ks _ Hr2.out Hk2.out Hs.out (by omega) (by omega)).mono ?_
        rintro e w3 ⟨rfl, hb3⟩
        have Hb3 := Lib.hid (Hb2.out.trans (hb3.mono (by omega)))
        clear hb3
        obtain ⟨t, c, ok, hf⟩ : ∃ t c ok, follow (whole T rs) x 0 ks = (t, c, ok) := ⟨_, _, _, rfl⟩
        have Hf := Lib.hid hf
        rw [hf]
        clear hf
        have Hg := Lib.hid (show checkWay (T : Int) rs x y ks = if ok = true ∧ t = y then (c, 0) else (0, 16) by rw [Hm.out, Hq.out, if_pos (show true = true from rfl), if_neg (by rw [Hlm.out]; exact h60), Hq2.out, Hf.out]; rfl)
        cases ok with
        | false =>
          go_wp2_with fail
          go_ret2
          exact ⟨by rw [Hg.out]; rfl, Hb3.out⟩
        | true =>
          by_cases hy : t = y
          · have hy2 : (t != y) = false := by rw [bne_eq_false_iff_eq]; exact hy
            have Hy := Lib.hid hy
            clear hy
            go_wp2_with fail
            go_ret2
            exact ⟨by rw [Hg.out, if_pos ⟨by trivial, Hy.out⟩]; rfl, Hb3.out⟩
          · have hy2 : (t != y) = true := by rw [bne_iff_ne]; exact hy
            have Hy := Lib.hid hy
            clear hy
            go_wp2_with fail
            go_ret2
            exact ⟨by rw [Hg.out, if_neg (fun h => Hy.out h.2)]; rfl, Hb3.out⟩

theorem checkWay23 (A C : Option Addr) (n cap m capm : Nat) (T x y : Int) (rs : List R) (ks : List Int) (w : World) (h : Rules w A n rs) (hk : Ints w C m ks) (hn : n ≤ 140737488355328) (hm : m ≤ 1000) :
    Calls Try.prog 23 #[.agg #[.int .i64 T, .slice A n cap], .int .i64 x, .int .i64 y, .slice C m capm] w fun e w' => e = .returned (.tuple #[.int .i64 (checkWay T rs x y ks).1, .int .i64 (checkWay T rs x y ks).2]) ∧ Below w.heap.size w w' := by
  by_cases he : chk T rs = 0
  · obtain ⟨_, hT1, _, _⟩ := chk_ok he
    obtain ⟨k, rfl⟩ := Int.eq_ofNat_of_zero_le (show 0 ≤ T by omega)
    exact checkWay23_ok A C n cap k m capm x y rs ks w h hk hm he
  · exact checkWay23_bad A C n cap m capm T x y rs ks w h hn he
end Go.Proofs.Ytiankphkemakeaa
