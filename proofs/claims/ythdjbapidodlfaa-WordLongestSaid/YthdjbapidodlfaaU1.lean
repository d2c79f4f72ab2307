/- Stage 4: what the laws compare. -/
import Derived.Test.YthdjbapidodlfaaFi
import Derived.Test.YthdjbapidodlfaaM58
namespace Go.Proofs.Ythdjbapidodlfaa
set_option linter.unusedSimpArgs false
set_option linter.unusedVariables false
open Go.RowKit Go.Shelf
attribute [local go_sem ↓] exec_app at_app
attribute [local go_sem] Oper.semAt_some

set_option maxRecDepth 100000 in
set_option maxHeartbeats 8000000 in
theorem longest32 (A : Option Addr) (n cap : Nat) (zs : List Rg) (A2 : Option Addr) (m cap2 : Nat) (L : List (List Int)) (w : World) (h : Rgs w A n zs) (hL : Lns w A2 m L) (hm : m ≤ 9223372036854775807) :
    Calls Try.prog 32 #[.agg #[.slice A n cap], .slice A2 m cap2] w fun e w' => Below w.heap.size w w' ∧
      ((chkL zs L = 0 ∧ ∃ C N c, e = .returned (.tuple #[.slice C N c, .int .i64 0]) ∧ Lns w' C N ((fstS (cls (prs zs)) L m (mtS (cls (prs zs)) L)).map (·.take m)) ∧ N ≤ c) ∨
       (chkL zs L ≠ 0 ∧ e = .returned (.tuple #[.slice none 0 0, .int .i64 (chkL zs L)]))) := by
  have Hlen := Lib.hid hL.1
  have hb0 := below_alloc_ w (.cells #[.slice A n cap] 24)
  have hr0 := heap_alloc_new_ w (.cells #[.slice A n cap] 24)
  obtain ⟨W0, hW0⟩ : ∃ W0, w.alloc (.cells #[.slice A n cap] 24) = W0 := ⟨_, rfl⟩
  obtain ⟨R, hR⟩ : ∃ R, w.heap.size = R := ⟨_, rfl⟩
  rw [hW0] at hb0 hr0
  rw [hR] at hr0
  have S := Lib.hid (h.below hb0 (Nat.le_refl _))
  have X := Lib.hid (hL.below hb0 (Nat.le_refl _))
  have B0 := Lib.hid hb0
  have HW0 := Lib.hid hW0
  have HR := Lib.hid hR
  have r0 : W0.cell? ⟨R, 0, none⟩ = some (.slice A n cap) := by rw [cell_row hr0]; rfl
  have Hm := Lib.hid hm
  clear h hL hb0 hr0 hW0 hR hm
  go_enter Try.func32, Try.ntmps32
  go_wp2_with fail
  rw [HW0.out]
  try rw [HR.out]
  try go_wp2_with fail
  refine (lay52 A n cap zs A2 m cap2 L W0 S.out X.out Hm.out).mono ?_
  rintro en w1 ⟨hb, (⟨h0, B, D, M, rfl, hbo, hB1, hD1⟩ | ⟨h0, rfl⟩)⟩
  rotate_left
  · obtain ⟨c, hc⟩ : ∃ c, chkL zs L = c := ⟨_, rfl⟩
    rw [hc] at h0 ⊢
    have Hc := Lib.hid hc
    clear hc
    have d0 : (c != 0) = true := by rw [bne_iff_ne]; exact h0
    have HB := Lib.hid (B0.out.trans (hb.mono B0.out.size))
    clear hb r0
    go_wp2_with fail
    refine bodyPost_ret (v := .tuple #[.slice none 0 0, .int .i64 c]) (by simp [results, Try.results32, go_sem]) rfl ?_
    exact ⟨HB.out, .inr ⟨by rw [Hc.out]; exact h0, by rw [Hc.out]⟩⟩
  have HB := Lib.hid (B0.out.trans (hb.mono B0.out.size))
  have Hbo := Lib.hid hbo
  have H0 := Lib.hid h0
  have HLV := Lib.hid (lv_of Hlen.out h0)
  obtain ⟨nm, hnm⟩ : ∃ nm, cls (prs zs) = nm := ⟨_, rfl⟩
  rw [hnm] at Hbo
  have Hnm := Lib.hid hnm
  clear hb r0 hbo h0 hnm hB1 hD1
  have Hbt := Lib.hid (both65 B D A n cap nm M A2 m cap2 L w1 Hbo.out HLV.out)
  go_wp2_with fail
  refine Hbt.out.mono ?_
  rintro en w2 ⟨Vp, Cf, Cb, Bt, Me, Me2, Ms, Ms2, nn, nn2, rfl, hv, hb2⟩
  have HB2 := Lib.hid (Hbo.out.below hb2 (Nat.le_refl _))
  have HBw2 := Lib.hid (HB.out.trans (hb2.mono HB.out.size))
  have key := first66 B D A n cap nm M A2 m cap2 L Vp Cf Cb Bt Me Me2 Ms Ms2 nn nn2 w2 HB2.out HLV.out hv
  have Key := Lib.hid key
  clear hv hb2 key Hbt
  go_wp2_with fail
  refine Key.out.mono ?_
  rintro en w3 ⟨Rr, rfl, hle, hp3, hb3⟩
  obtain ⟨N, hNe⟩ : ∃ N, (fstS nm L m (mtS nm L)).length = N := ⟨_, rfl⟩
  rw [hNe] at hp3 hle ⊢
  obtain ⟨K, hK⟩ : ∃ K, topK nm L m = K := ⟨_, rfl⟩
  have hK9 : K ≤ 9 := by have := (all_nn (nm := nm) HLV.out); rw [← hK]; unfold topK; omega
  rw [hK] at hle ⊢
  clear hK
  have HB3 := Lib.hid (HB2.out.below hb3 (Nat.le_refl _))
  have HBw3 := Lib.hid (HBw2.out.trans (hb3.mono HBw2.out.size))
  have hsub := (show (fstS nm L m (mtS nm L)).length ≤ 5000 ∧ ∀ p ∈ fstS nm L m (mtS nm L), p ∈ mtS nm L from ⟨by rw [hNe]; omega, (fstS_ok (nm := nm) HLV.out (mtS nm L) (fun y hy => hy)).2⟩)
  clear hNe
  obtain ⟨ms, hms⟩ : ∃ ms, fstS nm L m (mtS nm L) = ms := ⟨_, rfl⟩
  rw [hms] at hsub hp3
  have Hms := Lib.hid hms
  have hN : ms.length = N := hp3.1
  have HN5 : N ≤ 5000 := by have := hsub.1; omega
  have Htel := Lib.hid (tell53 B D A n cap nm M A2 m cap2 L (some ⟨Rr, 0, none⟩) N K ms w3 HB3.out HLV.out.lo HLV.out.hi hp3 (fun p hp => (mtS_wpl HLV.out p (hsub.2 p hp)).len) HN5)
  clear hp3 hb3 Key hms hsub
  go_wp2_with fail
  refine Htel.out.mono ?_
  rintro en w4 ⟨C', c', rfl, hl, hc', hb4⟩
  have HL4 := Lib.hid hl
  have HB4 := Lib.hid (HBw3.out.trans (hb4.mono HBw3.out.size))
  clear hl hb4 Htel
  go_wp2_with fail
  refine bodyPost_ret (v := .tuple #[.slice C' N c', .int .i64 0]) (by simp [results, Try.results32, go_sem]) rfl ?_
  exact ⟨HB4.out, .inl ⟨H0.out, C', N, c', rfl, by rw [Hnm.out, Hms.out]; exact HL4.out, hc'⟩⟩
set_option maxRecDepth 100000 in
set_option maxHeartbeats 8000000 in
theorem certain36 (A : Option Addr) (n cap : Nat) (zs : List Rg) (A2 : Option Addr) (m cap2 : Nat) (L : List (List Int)) (w : World) (h : Rgs w A n zs) (hL : Lns w A2 m L) (hm : m ≤ 9223372036854775807) :
    Calls Try.prog 36 #[.agg #[.slice A n cap], .slice A2 m cap2] w fun e w' => Below w.heap.size w w' ∧
      ((chkL zs L = 0 ∧ ∃ C N c, e = .returned (.tuple #[.slice C N c, .int .i64 0]) ∧ Lns w' C N ((crtS (cls (prs zs)) L m (mtS (cls (prs zs)) L)).map (·.take m)) ∧ N ≤ c) ∨
       (chkL zs L ≠ 0 ∧ e = .returned (.tuple #[.slice none 0 0, .int .i64 (chkL zs L)]))) := by
  have Hlen := Lib.hid hL.1
  have hb0 := below_alloc_ w (.cells #[.slice A n cap] 24)
  have hr0 := heap_alloc_new_ w (.cells #[.slice A n cap] 24)
  obtain ⟨W0, hW0⟩ : ∃ W0, w.alloc (.cells #[.slice A n cap] 24) = W0 := ⟨_, rfl⟩
  obtain ⟨R, hR⟩ : ∃ R, w.heap.size = R := ⟨_, rfl⟩
  rw [hW0] at hb0 hr0
  rw [hR] at hr0
  have S := Lib.hid (h.below hb0 (Nat.le_refl _))
  have X := Lib.hid (hL.below hb0 (Nat.le_refl _))
  have B0 := Lib.hid hb0
  have HW0 := Lib.hid hW0
  have HR := Lib.hid hR
  have r0 : W0.cell? ⟨R, 0, none⟩ = some (.slice A n cap) := by rw [cell_row hr0]; rfl
  have Hm := Lib.hid hm
  clear h hL hb0 hr0 hW0 hR hm
  go_enter Try.func36, Try.ntmps36
  go_wp2_with fail
  rw [HW0.out]
  try rw [HR.out]
  try go_wp2_with fail
  refine (lay52 A n cap zs A2 m cap2 L W0 S.out X.out Hm.out).mono ?_
  rintro en w1 ⟨hb, (⟨h0, B, D, M, rfl, hbo, hB1, hD1⟩ | ⟨h0, rfl⟩)⟩
  rotate_left
  · obtain ⟨c, hc⟩ : ∃ c, chkL zs L = c := ⟨_, rfl⟩
    rw [hc] at h0 ⊢
    have Hc := Lib.hid hc
    clear hc
    have d0 : (c != 0) = true := by rw [bne_iff_ne]; exact h0
    have HB := Lib.hid (B0.out.trans (hb.mono B0.out.size))
    clear hb r0
    go_wp2_with fail
    refine bodyPost_ret (v := .tuple #[.slice none 0 0, .int .i64 c]) (by simp [results, Try.results36, go_sem]) rfl ?_
    exact ⟨HB.out, .inr ⟨by rw [Hc.out]; exact h0, by rw [Hc.out]⟩⟩
  have HB := Lib.hid (B0.out.trans (hb.mono B0.out.size))
  have Hbo := Lib.hid hbo
  have H0 := Lib.hid h0
  have HLV := Lib.hid (lv_of Hlen.out h0)
  obtain ⟨nm, hnm⟩ : ∃ nm, cls (prs zs) = nm := ⟨_, rfl⟩
  rw [hnm] at Hbo
  have Hnm := Lib.hid hnm
  clear hb r0 hbo h0 hnm hB1 hD1
  have Hbt := Lib.hid (both65 B D A n cap nm M A2 m cap2 L w1 Hbo.out HLV.out)
  go_wp2_with fail
  refine Hbt.out.mono ?_
  rintro en w2 ⟨Vp, Cf, Cb, Bt, Me, Me2, Ms, Ms2, nn, nn2, rfl, hv, hb2⟩
  have HB2 := Lib.hid (Hbo.out.below hb2 (Nat.le_refl _))
  have HBw2 := Lib.hid (HB.out.trans (hb2.mono HB.out.size))
  have key := certain68 B D A n cap nm M A2 m cap2 L Vp Cf Cb Bt Me Me2 Ms Ms2 nn nn2 w2 HB2.out HLV.out hv
  have Key := Lib.hid key
  clear hv hb2 key Hbt
  go_wp2_with fail
  refine Key.out.mono ?_
  rintro en w3 ⟨C3, N, c3, rfl, hle, hp3, hb3⟩
  have HB3 := Lib.hid (HB2.out.below hb3 (Nat.le_refl _))
  have HBw3 := Lib.hid (HBw2.out.trans (hb3.mono HBw2.out.size))
  have hsub := (show (crtS nm L m (mtS nm L)).length ≤ 5000 ∧ ∀ p ∈ crtS nm L m (mtS nm L), p ∈ mtS nm L from ⟨by
    have h1 : (crtS nm L m (mtS nm L)).length ≤ (mtS nm L).length := List.length_filter_le _ _
    have h2 := (mtS_len (nm := nm) HLV.out).1
    omega, fun p hp => (List.mem_filter.1 hp).1⟩)
  obtain ⟨ms, hms⟩ : ∃ ms, crtS nm L m (mtS nm L) = ms := ⟨_, rfl⟩
  rw [hms] at hsub hp3
  have Hms := Lib.hid hms
  have hN : ms.length = N := hp3.1
  have HN5 : N ≤ 5000 := by have := hsub.1; omega
  have Htel := Lib.hid (tell53 B D A n cap nm M A2 m cap2 L C3 N c3 ms w3 HB3.out HLV.out.lo HLV.out.hi hp3 (fun p hp => (mtS_wpl HLV.out p (hsub.2 p hp)).len) HN5)
  clear hp3 hb3 Key hms hsub
  go_wp2_with fail
  refine Htel.out.mono ?_
  rintro en w4 ⟨C', c', rfl, hl, hc', hb4⟩
  have HL4 := Lib.hid hl
  have HB4 := Lib.hid (HBw3.out.trans (hb4.mono HBw3.out.size))
  clear hl hb4 Htel
  go_wp2_with fail
  refine bodyPost_ret (v := .tuple #[.slice C' N c', .int .i64 0]) (by simp [results, Try.results36, go_sem]) rfl ?_
  exact ⟨HB4.out, .inl ⟨H0.out, C', N, c', rfl, by rw [Hnm.out, Hms.out]; exact HL4.out, hc'⟩⟩
end Go.Proofs.Ythdjbapidodlfaa

namespace Go.Proofs.Ythdjbapidodlfaa
set_option linter.unusedSimpArgs false
set_option linter.unusedVariables false
open Go.RowKit Go.Shelf
attribute [local go_sem ↓] exec_app at_app
attribute [local go_sem] Oper.semAt_some

set_option maxRecDepth 100000 in
set_option maxHeartbeats 8000000 in
theorem grades38 (A : Option Addr) (n cap : Nat) (zs : List Rg) (A2 : Option Addr) (m cap2 : Nat) (L : List (List Int)) (hv : Int) (w : World) (h : Rgs w A n zs) (hL : Lns w A2 m L) (hm : m ≤ 9223372036854775807) :
    Calls Try.prog 38 #[.agg #[.slice A n cap], .slice A2 m cap2, .int .i64 hv] w fun e w' => Below w.heap.size w w' ∧
      ((chkL zs L = 0 ∧ ((∃ (h : Nat) (C : Option Addr) (c : Nat), hv = (h : Int) ∧ h < m ∧ e = .returned (.tuple #[.slice C (lAt L h).length c, .int .i64 0]) ∧ Ints w' C (lAt L h).length (grS (cls (prs zs)) L m h) ∧ (lAt L h).length ≤ c) ∨ (¬ (0 ≤ hv ∧ hv < (m : Int)) ∧ e = .returned (.tuple #[.slice none 0 0, .int .i64 3])))) ∨
       (chkL zs L ≠ 0 ∧ e = .returned (.tuple #[.slice none 0 0, .int .i64 (chkL zs L)]))) := by
  have Hlen := Lib.hid hL.1
  have hb0 := below_alloc_ w (.cells #[.slice A n cap] 24)
  have hr0 := heap_alloc_new_ w (.cells #[.slice A n cap] 24)
  obtain ⟨W0, hW0⟩ : ∃ W0, w.alloc (.cells #[.slice A n cap] 24) = W0 := ⟨_, rfl⟩
  obtain ⟨R, hR⟩ : ∃ R, w.heap.size = R := ⟨_, rfl⟩
  rw [hW0] at hb0 hr0
  rw [hR] at hr0
  have S := Lib.hid (h.below hb0 (Nat.le_refl _))
  have X := Lib.hid (hL.below hb0 (Nat.le_refl _))
  have B0 := Lib.hid hb0
  have HW0 := Lib.hid hW0
  have HR := Lib.hid hR
  have r0 : W0.cell? ⟨R, 0, none⟩ = some (.slice A n cap) := by rw [cell_row hr0]; rfl
  have Hm := Lib.hid hm
  clear h hL hb0 hr0 hW0 hR hm
  go_enter Try.func38, Try.ntmps38
  go_wp2_with fail
  rw [HW0.out]
  try rw [HR.out]
  try go_wp2_with fail
  refine (lay52 A n cap zs A2 m cap2 L W0 S.out X.out Hm.out).mono ?_
  rintro en w1 ⟨hb, (⟨h0, B, D, M, rfl, hbo, hB1, hD1⟩ | ⟨h0, rfl⟩)⟩
  rotate_left
  · obtain ⟨c, hc⟩ : ∃ c, chkL zs L = c := ⟨_, rfl⟩
    rw [hc] at h0 ⊢
    have Hc := Lib.hid hc
    clear hc
    have d0 : (c != 0) = true := by rw [bne_iff_ne]; exact h0
    have HB := Lib.hid (B0.out.trans (hb.mono B0.out.size))
    clear hb r0
    go_wp2_with fail
    refine bodyPost_ret (v := .tuple #[.slice none 0 0, .int .i64 c]) (by simp [results, Try.results38, go_sem]) rfl ?_
    exact ⟨HB.out, .inr ⟨by rw [Hc.out]; exact h0, by rw [Hc.out]⟩⟩
  have HB := Lib.hid (B0.out.trans (hb.mono B0.out.size))
  have Hbo := Lib.hid hbo
  have H0 := Lib.hid h0
  have HLV := Lib.hid (lv_of Hlen.out h0)
  obtain ⟨nm, hnm⟩ : ∃ nm, cls (prs zs) = nm := ⟨_, rfl⟩
  rw [hnm] at Hbo
  have Hnm := Lib.hid hnm
  clear hb r0 hbo h0 hnm hB1 hD1
  have hbz := below_alloc_ w1 (.cells #[.int .i64 hv] 3)
  have hiz : Ints (w1.alloc (.cells #[.int .i64 hv] 3)) (some ⟨w1.heap.size, 0, none⟩) 1 [hv] := ⟨rfl, fun _ => ⟨_, 0, rfl, fun j hj => by
    obtain rfl : j = 0 := by omega
    rw [cell_row (heap_alloc_new_ _ _)]; rfl⟩⟩
  have hm4 := HLV.out.hi
  have hm2 := HLV.out.lo
  have hwk := within47 (some ⟨w1.heap.size, 0, none⟩) 1 1 [hv] 0 ((m : Int) - 1) (w1.alloc (.cells #[.int .i64 hv] 3)) hiz (by omega)
  have hwv : withI 0 ((m : Int) - 1) [hv] = (decide (0 ≤ hv) && decide (hv ≤ (m : Int) - 1)) := by simp [withI, inB]
  rw [hwv] at hwk
  have HBz := Lib.hid hbz
  have Hbo2 := Lib.hid (Hbo.out.below hbz (Nat.le_refl _))
  have HB2z := Lib.hid (HB.out.trans (hbz.mono HB.out.size))
  by_cases hok : 0 ≤ hv ∧ hv < (m : Int)
  rotate_left
  · have hfl : (decide (0 ≤ hv) && decide (hv ≤ (m : Int) - 1)) = false := by
      rw [Bool.and_eq_false_iff, decide_eq_false_iff_not, decide_eq_false_iff_not]
      by_cases h0 : 0 ≤ hv
      · right; intro h1; exact hok ⟨h0, by omega⟩
      · left; exact h0
    rw [hfl] at hwk
    have Hwk := Lib.hid hwk
    have HNo := Lib.hid hok
    clear hbz hiz hwk hwv hok hfl
    go_wp2_with fail
    refine Hwk.out.mono ?_
    rintro en wy ⟨rfl, rfl⟩
    clear Hwk
    go_wp2_with fail
    refine bodyPost_ret (v := .tuple #[.slice none 0 0, .int .i64 3]) (by simp [results, Try.results38, go_sem]) rfl ?_
    exact ⟨HB2z.out, .inl ⟨H0.out, .inr ⟨HNo.out, rfl⟩⟩⟩
  have htr : (decide (0 ≤ hv) && decide (hv ≤ (m : Int) - 1)) = true := by
    rw [Bool.and_eq_true, decide_eq_true_iff, decide_eq_true_iff]; omega
  rw [htr] at hwk
  have Hwk := Lib.hid hwk
  obtain ⟨h, rfl⟩ : ∃ h : Nat, hv = (h : Int) := ⟨hv.toNat, by omega⟩
  have hhm : h < m := by omega
  clear hbz hiz hwk hwv hok htr
  go_wp2_with fail
  refine Hwk.out.mono ?_
  rintro en wy ⟨rfl, hwy⟩
  rw [← hwy] at HBz Hbo2 HB2z
  replace Hbo := Hbo2
  replace HB := HB2z
  obtain ⟨w1, rfl⟩ : ∃ w1, w1 = wy := ⟨_, rfl⟩
  clear Hwk hwy HBz
  have Hbt := Lib.hid (both65 B D A n cap nm M A2 m cap2 L w1 Hbo.out HLV.out)
  go_wp2_with fail
  refine Hbt.out.mono ?_
  rintro en w2 ⟨Vp, Cf, Cb, Bt, Me, Me2, Ms, Ms2, nn, nn2, rfl, hv, hb2⟩
  have HB2 := Lib.hid (Hbo.out.below hb2 (Nat.le_refl _))
  have HBw2 := Lib.hid (HB.out.trans (hb2.mono HB.out.size))
  have key := grades69 B D A n cap nm M A2 m cap2 L Vp Cf Cb Bt Me Me2 Ms Ms2 nn nn2 h w2 HB2.out HLV.out hv hhm
  have Key := Lib.hid key
  clear hv hb2 key Hbt
  go_wp2_with fail
  refine Key.out.mono ?_
  rintro en w3 ⟨C, c, rfl, hc, hi3, hb3⟩
  have HI3 := Lib.hid hi3
  have HBw3 := Lib.hid (HBw2.out.trans (hb3.mono HBw2.out.size))
  obtain ⟨N, hN⟩ : ∃ N, (lAt L h).length = N := ⟨_, rfl⟩
  rw [hN] at HI3 hc ⊢
  have HN := Lib.hid hN
  clear hi3 hb3 Key hN
  go_wp2_with fail
  refine bodyPost_ret (v := .tuple #[.slice C N c, .int .i64 0]) (by simp [results, Try.results38, go_sem]) rfl ?_
  exact ⟨HBw3.out, .inl ⟨H0.out, .inl ⟨h, C, c, rfl, hhm, by rw [HN.out], by rw [Hnm.out, HN.out]; exact HI3.out, by rw [HN.out]; exact hc⟩⟩⟩
end Go.Proofs.Ythdjbapidodlfaa

namespace Go.Proofs.Ythdjbapidodlfaa
set_option linter.unusedSimpArgs false
set_option linter.unusedVariables false
open Go.RowKit Go.Shelf
attribute [local go_sem ↓] exec_app at_app
attribute [local go_sem] Oper.semAt_some

/-- A dictionary and lines have too many parts. -/
def grtB (n : Nat) (L : List (List Int)) : Bool := decide (50 < n) || decide (8 < L.length) || L.any (fun l => decide (12 < l.length))
theorem any_take {l : List (List Int)} {k : Nat} (hk : k < l.length) : (l.take (k + 1)).any (fun l => decide (12 < l.length)) = ((l.take k).any (fun l => decide (12 < l.length)) || decide (12 < (lAt l k).length)) := by
  rw [List.take_succ_eq_append_getElem hk, List.any_append, lAt_eq hk]
  simp
theorem any_at {l : List (List Int)} {k : Nat} (hk : k < l.length) (h : 12 < (lAt l k).length) : l.any (fun l => decide (12 < l.length)) = true := by
  rw [List.any_eq_true]
  exact ⟨l[k], List.getElem_mem hk, by rw [lAt_eq hk] at h; simpa using h⟩
set_option maxRecDepth 100000 in
set_option maxHeartbeats 8000000 in
theorem great13 (A : Option Addr) (n cap : Nat) (A2 : Option Addr) (m cap2 : Nat) (L : List (List Int)) (w : World) (hL : Lns w A2 m L) :
    Calls Try.prog 13 #[.agg #[.slice A n cap], .slice A2 m cap2] w fun e w' => e = .returned (.bool (grtB n L)) ∧ Below w.heap.size w w' := by
  have HL := Lib.hid hL
  have hb0 := below_alloc_ w (.cells #[.slice A n cap] 24)
  have hr0 := heap_alloc_new_ w (.cells #[.slice A n cap] 24)
  have r0 : (w.alloc (.cells #[.slice A n cap] 24)).cell? ⟨w.heap.size, 0, none⟩ = some (.slice A n cap) := by rw [cell_row hr0]; rfl
  have HB := Lib.hid hb0
  clear hL hb0 hr0
  by_cases h1 : 50 < n
  · have HF := Lib.hid (show grtB n L = true by unfold grtB; rw [decide_eq_true h1]; rfl)
    have d1 : (50 : Int) < (n : Int) := by omega
    go_enter Try.func13, Try.ntmps13
    go_wp2_with fail
    go_ret
    exact ⟨by rw [HF.out]; rfl, HB.out⟩
  have d1 : ¬ (50 : Int) < (n : Int) := by omega
  by_cases h2 : 8 < m
  · have HF := Lib.hid (show grtB n L = true by unfold grtB; rw [decide_eq_true (show 8 < L.length by rw [HL.out.1]; exact h2), Bool.or_true]; rfl)
    have d2 : (8 : Int) < (m : Int) := by omega
    go_enter Try.func13, Try.ntmps13
    go_wp2_with fail
    go_ret
    exact ⟨by rw [HF.out]; rfl, HB.out⟩
  have d2 : ¬ (8 : Int) < (m : Int) := by omega
  have HG := Lib.hid (show grtB n L = L.any (fun l => decide (12 < l.length)) by unfold grtB; rw [decide_eq_false h1, decide_eq_false (show ¬ 8 < L.length by rw [HL.out.1]; exact h2)]; rfl)
  clear h1
  go_enter Try.func13, Try.ntmps13
  go_wp2_with fail
  go_loopw [5] (fun i wr => ∃ k : Nat, k ≤ m ∧ i = .int .i64 (k : Int) ∧ Hid ((L.take k).any (fun l => decide (12 < l.length)) = false) ∧ Below w.heap.size w wr) (fun i _ => m - (intOf i).toNat)
  case atStart => exact ⟨0, Nat.zero_le _, rfl, Lib.hid rfl, HB.out⟩
  case round =>
    obtain ⟨k, hk, rfl, HT, hb⟩ := hrel
    by_cases hlt : k < m
    · have hkl : k < L.length := by rw [HL.out.1]; exact hlt
      obtain ⟨b, o, rfl, hc⟩ := HL.out.2 (by omega)
      obtain ⟨C, c, x0, -, -⟩ := hc k hlt
      replace x0 := (hb.cell (p := ⟨b, o + k, none⟩) (lt_of_cell x0)).trans x0
      have hs := any_take hkl
      rw [HT.out, Bool.false_or] at hs
      have hat := any_at hkl
      obtain ⟨ll, hll⟩ : ∃ ll, (lAt L k).length = ll := ⟨_, rfl⟩
      rw [hll] at x0 hs hat
      have HS := Lib.hid hs
      have HAt := Lib.hid hat
      have HB0 := Lib.hid hb
      have i0 : (0 : Int) ≤ (k : Int) := by omega
      have i1 : (k : Int) < (m : Int) := by omega
      clear hc hs hat hll hb HT hkl
      by_cases h12 : 12 < ll
      · have HF := Lib.hid (HAt.out h12)
        have d3 : (12 : Int) < (ll : Int) := by omega
        clear h12 HAt HS
        go_wp2_with fail
        go_ret
        exact ⟨by rw [HG.out, HF.out]; rfl, HB0.out⟩
      · have HN := Lib.hid (show (L.take (k + 1)).any (fun l => decide (12 < l.length)) = false by rw [HS.out, decide_eq_false h12])
        have d3 : ¬ (12 : Int) < (ll : Int) := by omega
        clear h12 HAt HS
        go_wp2_with fail
        go_roundw
        case rel => exact ⟨k + 1, by omega, by go_num, HN, HB0.out⟩
        case measure => simp [intOf]; omega
    · obtain rfl : k = m := by omega
      have HF := Lib.hid (show L.any (fun l => decide (12 < l.length)) = false by
        have := HT.out
        rw [List.take_of_length_le (by rw [HL.out.1]; exact Nat.le_refl _)] at this
        exact this)
      have HB0 := Lib.hid hb
      clear hb HT
      go_wp2_with fail
      go_ret
      exact ⟨by rw [HG.out, HF.out]; rfl, HB0.out⟩
set_option maxRecDepth 100000 in
set_option maxHeartbeats 8000000 in
theorem ints31 (A : Option Addr) (n c : Nat) (a : List Int) (A2 : Option Addr) (n2 c2 : Nat) (b : List Int) (w : World) (h : Ints w A n a) (h2 : Ints w A2 n2 b) (hn8 : n ≤ 10000) :
    Calls Try.prog 31 #[.slice A n c, .slice A2 n2 c2] w fun e w' => e = .returned (.bool (decide (a = b))) ∧ Below w.heap.size w w' := by
  have HA := Lib.hid h
  have HB := Lib.hid h2
  clear h h2
  by_cases hnn : n = n2
  rotate_left
  · have d0 : ((n : Int) != (n2 : Int)) = true := by rw [bne_iff_ne]; omega
    have HF := Lib.hid (show decide (a = b) = false from decide_eq_false (fun e => hnn (by rw [← HA.out.1, ← HB.out.1, e])))
    clear hnn
    go_enter Try.func31, Try.ntmps31
    go_wp2_with fail
    go_ret
    exact ⟨by rw [HF.out]; rfl, Below.refl _ _⟩
  subst hnn
  have Heq := Lib.hid (eqB_iff HA.out.1 HB.out.1)
  go_enter Try.func31, Try.ntmps31
  go_wp2_with fail
  go_loopw [5] (fun i wr => ∃ k : Nat, k ≤ n ∧ i = .int .i64 (k : Int) ∧ Hid (eqB a b k = true) ∧ Below w.heap.size w wr) (fun i _ => n - (intOf i).toNat)
  case atStart => exact ⟨0, Nat.zero_le _, rfl, Lib.hid rfl, Below.refl _ _⟩
  case round =>
    obtain ⟨k, hk, rfl, HT, hb⟩ := hrel
    by_cases hlt : k < n
    · obtain ⟨ab, ao, rfl, ac⟩ := HA.out.2 (by omega)
      obtain ⟨bb, bo, rfl, bc⟩ := HB.out.2 (by omega)
      have x0 := (hb.cell (p := ⟨ab, ao + k, none⟩) (lt_of_cell (ac k hlt))).trans (ac k hlt)
      have y0 := (hb.cell (p := ⟨bb, bo + k, none⟩) (lt_of_cell (bc k hlt))).trans (bc k hlt)
      have Hs := Lib.hid (eqB_succ a b k)
      rw [HT.out, Bool.true_and] at Hs
      obtain ⟨x, hx⟩ : ∃ x, iAt a k = x := ⟨_, rfl⟩
      obtain ⟨y, hy⟩ : ∃ y, iAt b k = y := ⟨_, rfl⟩
      have Hf := Lib.hid (show x ≠ y → a ≠ b from fun e e2 => e (by rw [← hx, ← hy, e2]))
      rw [hx] at x0 Hs
      rw [hy] at y0 Hs
      have HB0 := Lib.hid hb
      have i0 : (0 : Int) ≤ (k : Int) := by omega
      have i1 : (k : Int) < (n : Int) := by omega
      clear ac bc hx hy hb HT
      by_cases hxy : x = y
      · rw [decide_eq_true hxy] at Hs
        subst hxy
        clear Hf
        go_wp2_with fail
        go_quiet (fail)
        have HN := Lib.hid (HB0.out.trans ((drew_b wr nq).mono HB0.out.size))
        go_wp2_with fail
        go_roundw
        case rel => exact ⟨k + 1, by omega, by go_num, Lib.hid Hs.out, HN.out⟩
        case measure => simp [intOf]; omega
      · have HF := Lib.hid (show decide (a = b) = false from decide_eq_false (Hf.out hxy))
        have d1 : (x != y) = true := by rw [bne_iff_ne]; exact hxy
        clear Hf Hs
        go_wp2_with fail
        go_quiet (fail)
        have HN := Lib.hid (HB0.out.trans ((drew_b wr nq).mono HB0.out.size))
        go_wp2_with fail
        go_ret
        exact ⟨by rw [HF.out]; rfl, HN.out⟩
    · obtain rfl : k = n := by omega
      have HB0 := Lib.hid hb
      clear hb
      go_wp2_with fail
      go_ret
      exact ⟨by rw [decide_eq_true (Heq.out.1 HT.out)]; rfl, HB0.out⟩
def eqK (p q : List (List Int)) (k : Nat) : Bool := (List.range k).all fun i => decide (lAt p i = lAt q i)
theorem eqK_succ (p q : List (List Int)) (k : Nat) : eqK p q (k + 1) = (eqK p q k && decide (lAt p k = lAt q k)) := by simp [eqK, List.range_succ]
theorem eqK_iff {p q : List (List Int)} {n : Nat} (hp : p.length = n) (hq : q.length = n) : eqK p q n = true ↔ p = q := by
  unfold eqK
  rw [List.all_eq_true]
  constructor
  · intro h
    apply List.ext_getElem (by omega)
    intro i h1 h2
    have := h i (List.mem_range.2 (by omega))
    rw [decide_eq_true_iff, lAt_eq h1, lAt_eq h2] at this
    exact this
  · rintro rfl i _
    simp
set_option maxRecDepth 100000 in
set_option maxHeartbeats 8000000 in
theorem matches23 (A : Option Addr) (n c : Nat) (p : List (List Int)) (A2 : Option Addr) (n2 c2 : Nat) (q : List (List Int)) (w : World) (h : Lns w A n p) (h2 : Lns w A2 n2 q) (hl : ∀ j, j < n → (lAt p j).length ≤ 1000) (hn8 : n ≤ 10000) :
    Calls Try.prog 23 #[.slice A n c, .slice A2 n2 c2] w fun e w' => e = .returned (.bool (decide (p = q))) ∧ Below w.heap.size w w' := by
  have HA := Lib.hid h
  have HB := Lib.hid h2
  have Hl := Lib.hid hl
  clear h h2 hl
  by_cases hnn : n = n2
  rotate_left
  · have d0 : ((n : Int) != (n2 : Int)) = true := by rw [bne_iff_ne]; omega
    have HF := Lib.hid (show decide (p = q) = false from decide_eq_false (fun e => hnn (by rw [← HA.out.1, ← HB.out.1, e])))
    clear hnn
    go_enter Try.func23, Try.ntmps23
    go_wp2_with fail
    go_ret
    exact ⟨by rw [HF.out]; rfl, Below.refl _ _⟩
  subst hnn
  have Heq := Lib.hid (eqK_iff HA.out.1 HB.out.1)
  go_enter Try.func23, Try.ntmps23
  go_wp2_with fail
  go_loopw [5] (fun i wr => ∃ k : Nat, k ≤ n ∧ i = .int .i64 (k : Int) ∧ Hid (eqK p q k = true) ∧ Below w.heap.size w wr) (fun i _ => n - (intOf i).toNat)
  case atStart => exact ⟨0, Nat.zero_le _, rfl, Lib.hid rfl, Below.refl _ _⟩
  case round =>
    obtain ⟨k, hk, rfl, HT, hb⟩ := hrel
    obtain ⟨wj, rfl⟩ : ∃ wj, wj = wr := ⟨_, rfl⟩
    by_cases hlt : k < n
    · obtain ⟨ab, ao, rfl, ac⟩ := HA.out.2 (by omega)
      obtain ⟨bb, bo, rfl, bc⟩ := HB.out.2 (by omega)
      obtain ⟨Ca, ca, x0, xI, -⟩ := ac k hlt
      obtain ⟨Cb, cb, y0, yI, -⟩ := bc k hlt
      replace x0 := (hb.cell (p := ⟨ab, ao + k, none⟩) (lt_of_cell x0)).trans x0
      replace y0 := (hb.cell (p := ⟨bb, bo + k, none⟩) (lt_of_cell y0)).trans y0
      have key := fun (V : World) (hV : Below wj.heap.size wj V) => same57 Ca (lAt p k).length ca (lAt p k) Cb (lAt q k).length cb (lAt q k) V ((xI.below hb (Nat.le_refl _)).below hV (Nat.le_refl _)) ((yI.below hb (Nat.le_refl _)).below hV (Nat.le_refl _)) (Hl.out k hlt)
      have Hs := Lib.hid (eqK_succ p q k)
      rw [HT.out, Bool.true_and] at Hs
      obtain ⟨x, hx⟩ : ∃ x, lAt p k = x := ⟨_, rfl⟩
      obtain ⟨y, hy⟩ : ∃ y, lAt q k = y := ⟨_, rfl⟩
      have Hf := Lib.hid (show x ≠ y → p ≠ q from fun e e2 => e (by rw [← hx, ← hy, e2]))
      rw [hx] at x0 key Hs
      rw [hy] at y0 key Hs
      obtain ⟨lx, hlx⟩ : ∃ lx, x.length = lx := ⟨_, rfl⟩
      obtain ⟨ly, hly⟩ : ∃ ly, y.length = ly := ⟨_, rfl⟩
      rw [hlx] at x0 key
      rw [hly] at y0 key
      have Key := Lib.hid key
      have HB0 := Lib.hid hb
      have i0 : (0 : Int) ≤ (k : Int) := by omega
      have i1 : (k : Int) < (n : Int) := by omega
      clear ac bc hx hy hb HT xI yI key hlx hly
      by_cases hxy : x = y
      · have HN0 := Lib.hid (show eqK p q (k + 1) = true by rw [Hs.out, decide_eq_true hxy])
        have HD := Lib.hid (decide_eq_true hxy)
        clear Hf Hs hxy
        go_wp2_with fail
        refine wp_region_held_drew (S := fun w2 => Below wj.heap.size wj w2) (by kernel_rfl) (drew_b _ _) (fun hS0 => ?_)
        refine wpAnyH_take (i := 0) (oi := { dst := some 17, op := Go.Op.move (Go.Operand.tmp 0), type := 31, pos := "law.go:54", after := #[], guard := none }) (v := .slice (some ⟨ab, ao, none⟩) n c) rfl (by kernel_rfl) (by kernel_rfl) (by kernel_rfl) (fun _ _ _ h => h) (Or.inl ⟨by rfl, by intro w2 hSw; (try dsimp only at hSw); go_simp⟩) hS0 ?_
        try simp only [Act.put, List.setIfInBounds_toArray, List.set_cons_zero, List.set_cons_succ]
        refine wpAnyH_take (i := 1) (oi := { dst := some 18, op := Go.Op.move (Go.Operand.tmp 5), type := 3, pos := "law.go:54", after := #[], guard := none }) (v := .int .i64 (k : Int)) rfl (by kernel_rfl) (by kernel_rfl) (by kernel_rfl) (fun _ _ _ h => h) (Or.inl ⟨by rfl, by intro w2 hSw; (try dsimp only at hSw); go_simp⟩) hS0 ?_
        try simp only [Act.put, List.setIfInBounds_toArray, List.set_cons_zero, List.set_cons_succ]
        refine wpAnyH_take (i := 2) (oi := { dst := some 19, op := Go.Op.indexAddr 31 (Go.Operand.tmp 17) (Go.Operand.tmp 18), type := 0, pos := "law.go:54", after := #[{ on := 0, ground := Go.Ground.data }, { on := 1, ground := Go.Ground.data }], guard := none }) (v := .pointer (some ⟨ab, ao + k, none⟩)) rfl (by kernel_rfl) (by kernel_rfl) (by kernel_rfl) (fun _ _ _ h => h) (Or.inl ⟨by rfl, by intro w2 hSw; (try dsimp only at hSw); go_simp⟩) hS0 ?_
        try simp only [Act.put, List.setIfInBounds_toArray, List.set_cons_zero, List.set_cons_succ]
        refine wpAnyH_take (i := 3) (oi := { dst := some 20, op := Go.Op.load 40 (Go.Operand.tmp 19), type := 40, pos := "law.go:54", after := #[{ on := 2, ground := Go.Ground.data }], guard := none }) (v := .slice Ca lx ca) rfl (by kernel_rfl) (by kernel_rfl) (by kernel_rfl) (fun _ _ _ h => h) (Or.inl ⟨by rfl, by intro w2 hSw; (try dsimp only at hSw); have q_x0 := (hSw.cell (lt_of_cell x0)).trans x0; go_simp⟩) hS0 ?_
        try simp only [Act.put, List.setIfInBounds_toArray, List.set_cons_zero, List.set_cons_succ]
        refine wpAnyH_take (i := 4) (oi := { dst := some 21, op := Go.Op.move (Go.Operand.tmp 1), type := 31, pos := "law.go:54", after := #[], guard := none }) (v := .slice (some ⟨bb, bo, none⟩) n c2) rfl (by kernel_rfl) (by kernel_rfl) (by kernel_rfl) (fun _ _ _ h => h) (Or.inl ⟨by rfl, by intro w2 hSw; (try dsimp only at hSw); go_simp⟩) hS0 ?_
        try simp only [Act.put, List.setIfInBounds_toArray, List.set_cons_zero, List.set_cons_succ]
        refine wpAnyH_take (i := 5) (oi := { dst := some 22, op := Go.Op.move (Go.Operand.tmp 5), type := 3, pos := "law.go:54", after := #[], guard := none }) (v := .int .i64 (k : Int)) rfl (by kernel_rfl) (by kernel_rfl) (by kernel_rfl) (fun _ _ _ h => h) (Or.inl ⟨by rfl, by intro w2 hSw; (try dsimp only at hSw); go_simp⟩) hS0 ?_
        try simp only [Act.put, List.setIfInBounds_toArray, List.set_cons_zero, List.set_cons_succ]
        refine wpAnyH_take (i := 6) (oi := { dst := some 23, op := Go.Op.indexAddr 31 (Go.Operand.tmp 21) (Go.Operand.tmp 22), type := 0, pos := "law.go:54", after := #[{ on := 4, ground := Go.Ground.data }, { on := 5, ground := Go.Ground.data }], guard := none }) (v := .pointer (some ⟨bb, bo + k, none⟩)) rfl (by kernel_rfl) (by kernel_rfl) (by kernel_rfl) (fun _ _ _ h => h) (Or.inl ⟨by rfl, by intro w2 hSw; (try dsimp only at hSw); go_simp⟩) hS0 ?_
        try simp only [Act.put, List.setIfInBounds_toArray, List.set_cons_zero, List.set_cons_succ]
        refine wpAnyH_take (i := 7) (oi := { dst := some 24, op := Go.Op.load 40 (Go.Operand.tmp 23), type := 40, pos := "law.go:54", after := #[{ on := 6, ground := Go.Ground.data }], guard := none }) (v := .slice Cb ly cb) rfl (by kernel_rfl) (by kernel_rfl) (by kernel_rfl) (fun _ _ _ h => h) (Or.inl ⟨by rfl, by intro w2 hSw; (try dsimp only at hSw); have q_y0 := (hSw.cell (lt_of_cell y0)).trans y0; go_simp⟩) hS0 ?_
        try simp only [Act.put, List.setIfInBounds_toArray, List.set_cons_zero, List.set_cons_succ]
        refine wpAnyH_ready (rs := [8]) (by kernel_rfl) (by simp) ?_
        refine AllReadyH.cons (o := { dst := some 25, op := Go.Op.call { callee := Go.Callee.value (Go.Operand.func 57), args := #[Go.Operand.tmp 20, Go.Operand.tmp 24], argTypes := #[40, 40] }, type := 4, pos := "law.go:54", after := #[{ on := 3, ground := Go.Ground.data }, { on := 7, ground := Go.Ground.data }], guard := none }) rfl (fun K2 hK => ?_) AllReadyH.nil
        go_simp
        have key := Key.out _ hS0
        rw [HD.out] at key
        refine key.mono ?_
        rintro e9 V9 ⟨rfl, hV9⟩
        try go_simp
        refine hK.out _ _ (hS0.trans (hV9.mono hS0.size)) (fun hS1 => ?_)
        clear hK K2 key hV9
        try simp only [Act.put, List.setIfInBounds_toArray, List.set_cons_zero, List.set_cons_succ]
        refine wpAnyH_take (i := 9) (oi := { dst := some 26, op := Go.Op.unOp Go.UnOp.not 4 (Go.Operand.tmp 25), type := 4, pos := "law.go:54", after := #[{ on := 8, ground := Go.Ground.data }], guard := none }) (v := .bool false) rfl (by kernel_rfl) (by kernel_rfl) (by kernel_rfl) (fun _ _ _ h => h) (Or.inl ⟨by rfl, by intro w2 hSw; (try dsimp only at hSw); go_simp⟩) hS1 ?_
        try simp only [Act.put, List.setIfInBounds_toArray, List.set_cons_zero, List.set_cons_succ]
        refine wpAnyH_done (by kernel_rfl) ?_ _
        have HBn := Lib.hid (HB0.out.trans (hS1.mono HB0.out.size))
        go_wp2_with fail
        go_roundw
        case rel => exact ⟨k + 1, by omega, by go_num, HN0, HBn.out⟩
        case measure => simp [intOf]; omega
      · have HF := Lib.hid (show decide (p = q) = false from decide_eq_false (Hf.out hxy))
        have HD := Lib.hid (decide_eq_false hxy)
        clear Hf Hs hxy
        go_wp2_with fail
        refine wp_region_held_drew (S := fun w2 => Below wj.heap.size wj w2) (by kernel_rfl) (drew_b _ _) (fun hS0 => ?_)
        refine wpAnyH_take (i := 0) (oi := { dst := some 17, op := Go.Op.move (Go.Operand.tmp 0), type := 31, pos := "law.go:54", after := #[], guard := none }) (v := .slice (some ⟨ab, ao, none⟩) n c) rfl (by kernel_rfl) (by kernel_rfl) (by kernel_rfl) (fun _ _ _ h => h) (Or.inl ⟨by rfl, by intro w2 hSw; (try dsimp only at hSw); go_simp⟩) hS0 ?_
        try simp only [Act.put, List.setIfInBounds_toArray, List.set_cons_zero, List.set_cons_succ]
        refine wpAnyH_take (i := 1) (oi := { dst := some 18, op := Go.Op.move (Go.Operand.tmp 5), type := 3, pos := "law.go:54", after := #[], guard := none }) (v := .int .i64 (k : Int)) rfl (by kernel_rfl) (by kernel_rfl) (by kernel_rfl) (fun _ _ _ h => h) (Or.inl ⟨by rfl, by intro w2 hSw; (try dsimp only at hSw); go_simp⟩) hS0 ?_
        try simp only [Act.put, List.setIfInBounds_toArray, List.set_cons_zero, List.set_cons_succ]
        refine wpAnyH_take (i := 2) (oi := { dst := some 19, op := Go.Op.indexAddr 31 (Go.Operand.tmp 17) (Go.Operand.tmp 18), type := 0, pos := "law.go:54", after := #[{ on := 0, ground := Go.Ground.data }, { on := 1, ground := Go.Ground.data }], guard := none }) (v := .pointer (some ⟨ab, ao + k, none⟩)) rfl (by kernel_rfl) (by kernel_rfl) (by kernel_rfl) (fun _ _ _ h => h) (Or.inl ⟨by rfl, by intro w2 hSw; (try dsimp only at hSw); go_simp⟩) hS0 ?_
        try simp only [Act.put, List.setIfInBounds_toArray, List.set_cons_zero, List.set_cons_succ]
        refine wpAnyH_take (i := 3) (oi := { dst := some 20, op := Go.Op.load 40 (Go.Operand.tmp 19), type := 40, pos := "law.go:54", after := #[{ on := 2, ground := Go.Ground.data }], guard := none }) (v := .slice Ca lx ca) rfl (by kernel_rfl) (by kernel_rfl) (by kernel_rfl) (fun _ _ _ h => h) (Or.inl ⟨by rfl, by intro w2 hSw; (try dsimp only at hSw); have q_x0 := (hSw.cell (lt_of_cell x0)).trans x0; go_simp⟩) hS0 ?_
        try simp only [Act.put, List.setIfInBounds_toArray, List.set_cons_zero, List.set_cons_succ]
        refine wpAnyH_take (i := 4) (oi := { dst := some 21, op := Go.Op.move (Go.Operand.tmp 1), type := 31, pos := "law.go:54", after := #[], guard := none }) (v := .slice (some ⟨bb, bo, none⟩) n c2) rfl (by kernel_rfl) (by kernel_rfl) (by kernel_rfl) (fun _ _ _ h => h) (Or.inl ⟨by rfl, by intro w2 hSw; (try dsimp only at hSw); go_simp⟩) hS0 ?_
        try simp only [Act.put, List.setIfInBounds_toArray, List.set_cons_zero, List.set_cons_succ]
        refine wpAnyH_take (i := 5) (oi := { dst := some 22, op := Go.Op.move (Go.Operand.tmp 5), type := 3, pos := "law.go:54", after := #[], guard := none }) (v := .int .i64 (k : Int)) rfl (by kernel_rfl) (by kernel_rfl) (by kernel_rfl) (fun _ _ _ h => h) (Or.inl ⟨by rfl, by intro w2 hSw; (try dsimp only at hSw); go_simp⟩) hS0 ?_
        try simp only [Act.put, List.setIfInBounds_toArray, List.set_cons_zero, List.set_cons_succ]
        refine wpAnyH_take (i := 6) (oi := { dst := some 23, op := Go.Op.indexAddr 31 (Go.Operand.tmp 21) (Go.Operand.tmp 22), type := 0, pos := "law.go:54", after := #[{ on := 4, ground := Go.Ground.data }, { on := 5, ground := Go.Ground.data }], guard := none }) (v := .pointer (some ⟨bb, bo + k, none⟩)) rfl (by kernel_rfl) (by kernel_rfl) (by kernel_rfl) (fun _ _ _ h => h) (Or.inl ⟨by rfl, by intro w2 hSw; (try dsimp only at hSw); go_simp⟩) hS0 ?_
        try simp only [Act.put, List.setIfInBounds_toArray, List.set_cons_zero, List.set_cons_succ]
        refine wpAnyH_take (i := 7) (oi := { dst := some 24, op := Go.Op.load 40 (Go.Operand.tmp 23), type := 40, pos := "law.go:54", after := #[{ on := 6, ground := Go.Ground.data }], guard := none }) (v := .slice Cb ly cb) rfl (by kernel_rfl) (by kernel_rfl) (by kernel_rfl) (fun _ _ _ h => h) (Or.inl ⟨by rfl, by intro w2 hSw; (try dsimp only at hSw); have q_y0 := (hSw.cell (lt_of_cell y0)).trans y0; go_simp⟩) hS0 ?_
        try simp only [Act.put, List.setIfInBounds_toArray, List.set_cons_zero, List.set_cons_succ]
        refine wpAnyH_ready (rs := [8]) (by kernel_rfl) (by simp) ?_
        refine AllReadyH.cons (o := { dst := some 25, op := Go.Op.call { callee := Go.Callee.value (Go.Operand.func 57), args := #[Go.Operand.tmp 20, Go.Operand.tmp 24], argTypes := #[40, 40] }, type := 4, pos := "law.go:54", after := #[{ on := 3, ground := Go.Ground.data }, { on := 7, ground := Go.Ground.data }], guard := none }) rfl (fun K2 hK => ?_) AllReadyH.nil
        go_simp
        have key := Key.out _ hS0
        rw [HD.out] at key
        refine key.mono ?_
        rintro e9 V9 ⟨rfl, hV9⟩
        try go_simp
        refine hK.out _ _ (hS0.trans (hV9.mono hS0.size)) (fun hS1 => ?_)
        clear hK K2 key hV9
        try simp only [Act.put, List.setIfInBounds_toArray, List.set_cons_zero, List.set_cons_succ]
        refine wpAnyH_take (i := 9) (oi := { dst := some 26, op := Go.Op.unOp Go.UnOp.not 4 (Go.Operand.tmp 25), type := 4, pos := "law.go:54", after := #[{ on := 8, ground := Go.Ground.data }], guard := none }) (v := .bool true) rfl (by kernel_rfl) (by kernel_rfl) (by kernel_rfl) (fun _ _ _ h => h) (Or.inl ⟨by rfl, by intro w2 hSw; (try dsimp only at hSw); go_simp⟩) hS1 ?_
        try simp only [Act.put, List.setIfInBounds_toArray, List.set_cons_zero, List.set_cons_succ]
        refine wpAnyH_done (by kernel_rfl) ?_ _
        have HBn := Lib.hid (HB0.out.trans (hS1.mono HB0.out.size))
        go_wp2_with fail
        go_ret
        exact ⟨by rw [HF.out]; rfl, HBn.out⟩
    · obtain rfl : k = n := by omega
      have HB0 := Lib.hid hb
      clear hb
      go_wp2_with fail
      go_ret
      exact ⟨by rw [decide_eq_true (Heq.out.1 HT.out)]; rfl, HB0.out⟩
end Go.Proofs.Ythdjbapidodlfaa
