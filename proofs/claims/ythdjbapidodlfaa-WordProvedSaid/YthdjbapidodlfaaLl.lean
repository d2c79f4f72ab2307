/- Stage 4: the document's Levels and CheckLevels; WordLevels. -/
import Derived.Test.YthdjbapidodlfaaLvm
import Derived.Test.YthdjbapidodlfaaLb
import Derived.Deep.RegionHeld3
namespace Go.Proofs.Ythdjbapidodlfaa
set_option linter.unusedSimpArgs false
set_option linter.unusedVariables false
open Go.RowKit Go.Shelf
theorem take_lens {nm : List Int} {L : List (List Int)} {m : Nat} (hL : LV L m) : ∀ j, j < (mtS nm L).length → (lAt ((mtS nm L).map (·.take m)) j).length = m := by
  intro j hj
  rw [lAt_take, List.length_take, lAt_eq hj, (mtS_len hL).2 _ (List.getElem_mem hj)]
  have := hL.hi
  omega
section
attribute [local go_sem ↓] exec_app at_app
attribute [local go_sem] Oper.semAt_some
set_option maxRecDepth 100000 in
set_option maxHeartbeats 8000000 in
theorem refLevels26 (A : Option Addr) (n cap : Nat) (zs : List Rg) (A2 : Option Addr) (m cap2 : Nat) (L : List (List Int)) (w : World) (h : Rgs w A n zs) (hL : Lns w A2 m L) (hm : m ≤ 9223372036854775807) :
    Calls Try.prog 26 #[.agg #[.slice A n cap], .slice A2 m cap2] w fun e w' => Below w.heap.size w w' ∧
      ((chkL zs L = 0 ∧ ∃ C N c, e = .returned (.tuple #[.slice C N c, .int .i64 0]) ∧ Ints w' C N (lvsS (mtS (cls (prs zs)) L) m) ∧ N ≤ c) ∨
       (chkL zs L ≠ 0 ∧ e = .returned (.tuple #[.slice none 0 0, .int .i64 (chkL zs L)]))) := by
  have Hlen := Lib.hid hL.1
  have hb0 := below_alloc_ w (.cells #[.slice A n cap] 24)
  have hr0 := heap_alloc_new_ w (.cells #[.slice A n cap] 24)
  obtain ⟨W0, hW0⟩ : ∃ W0, w.alloc (.cells #[.slice A n cap] 24) = W0 := ⟨_, rfl⟩
  obtain ⟨R, hR⟩ : ∃ R, w.heap.size = R := ⟨_, rfl⟩
  rw [hW0] at hb0 hr0
  rw [hR] at hr0
  have S := Lib.hid (h.below hb0 (Nat.le_refl _))
  have X := Lib.hid (hL.below hb0 (Nat.le_refl _))
  have B0 := Lib.hid hb0
  have R0 := Lib.hid hr0
  have HW0 := Lib.hid hW0
  have HR := Lib.hid hR
  have r0 : W0.cell? ⟨R, 0, none⟩ = some (.slice A n cap) := by rw [cell_row hr0]; rfl
  have Hm := Lib.hid hm
  clear h hL hb0 hr0 hW0 hR hm
  go_enter Try.func26, Try.ntmps26
  go_wp2_with fail
  rw [HW0.out]
  try rw [HR.out]
  try go_wp2_with fail
  have hcb := refLines22 A n cap zs A2 m cap2 L W0 S.out X.out Hm.out
  by_cases h0 : chkL zs L = 0
  rotate_left
  · have hcb2 := fun w2 (hb : Below W0.heap.size W0 w2) => refLines22 A n cap zs A2 m cap2 L w2 (S.out.below hb (Nat.le_refl _)) (X.out.below hb (Nat.le_refl _)) Hm.out
    obtain ⟨c, hc⟩ : ∃ c, chkL zs L = c := ⟨_, rfl⟩
    rw [hc] at h0 hcb
    simp only [hc] at hcb2
    have Hcb2 := Lib.hid hcb2
    have Hc := Lib.hid hc
    have H0 := Lib.hid h0
    have d0 : (c != 0) = true := by rw [bne_iff_ne]; exact h0
    clear hc hcb2 h0
    refine hcb.mono ?_
    rintro en w1 ⟨rfl, hb⟩
    have r1 : w1.cell? ⟨R, 0, none⟩ = some (.slice A n cap) := by rw [cell_row ((hb.block _ (lt_of_block R0.out)).trans R0.out)]; rfl
    have hcb3 := Hcb2.out w1 hb
    have HB := Lib.hid (B0.out.trans (hb.mono B0.out.size))
    clear hb r0 hcb Hcb2
    go_wp2_with fail
    refine hcb3.mono ?_
    rintro en w2 ⟨rfl, hb⟩
    have HB2 := Lib.hid (HB.out.trans (hb.mono HB.out.size))
    clear hb hcb3 r1
    go_wp2_with fail
    refine bodyPost_ret (v := .tuple #[.slice none 0 0, .int .i64 c]) (by simp [results, Try.results26, go_sem]) rfl ?_
    exact ⟨HB2.out, .inr ⟨by rw [Hc.out]; exact H0.out, by rw [Hc.out]⟩⟩
  rw [h0] at hcb
  refine hcb.mono ?_
  rintro en w1 ⟨rfl, hb⟩
  have r1 : w1.cell? ⟨R, 0, none⟩ = some (.slice A n cap) := by rw [cell_row ((hb.block _ (lt_of_block R0.out)).trans R0.out)]; rfl
  have key := all56 A n cap zs A2 m cap2 L w1 (S.out.below hb (Nat.le_refl _)) (X.out.below hb (Nat.le_refl _)) h0
  rw [allS_all Hlen.out h0] at key
  obtain ⟨l, hl⟩ : ∃ l, (mtS (cls (prs zs)) L).map (·.take m) = l := ⟨_, rfl⟩
  rw [hl] at key
  have Hl := Lib.hid hl
  have H0 := Lib.hid h0
  have HB := Lib.hid (B0.out.trans (hb.mono B0.out.size))
  clear hb r0 hcb hl h0
  go_wp2_with fail
  refine key.mono ?_
  rintro en w2 ⟨C, c, rfl, hl, hc, hb⟩
  have HL2 := Lib.hid hl
  have HB2 := Lib.hid (HB.out.trans (hb.mono HB.out.size))
  have HLV := Lib.hid (lv_of Hlen.out H0.out)
  have hlen : l.length = (mtS (cls (prs zs)) L).length := by rw [← Hl.out, List.length_map]
  have hN5 : l.length ≤ 5000 := by rw [hlen]; exact Nat.le_trans (mtS_len HLV.out).1 (by omega)
  have hls : ∀ j, j < l.length → (lAt l j).length = m := by
    rw [← Hl.out, List.length_map]
    exact take_lens HLV.out
  have hlv : lvL m l l.length = lvsS (mtS (cls (prs zs)) L) m := by
    rw [hlen, ← Hl.out]
    exact lvL_all HLV.out
  have Key := Lib.hid (levels60 C l.length c l m w2 hl hls hN5 HLV.out.hi)
  have Hlv := Lib.hid hlv
  obtain ⟨N, hN⟩ : ∃ N, l.length = N := ⟨_, rfl⟩
  rw [hN] at Key Hlv ⊢
  clear hl hb key hN r1 hc hlen hN5 hls hlv HL2
  go_wp2_with fail
  refine Key.out.mono ?_
  rintro en w3 ⟨D, cp, rfl, hi, hc, hb⟩
  have HI := Lib.hid hi
  have HB3 := Lib.hid (HB2.out.trans (hb.mono HB2.out.size))
  clear hi hb Key
  go_wp2_with fail
  refine bodyPost_ret (v := .tuple #[.slice D N cp, .int .i64 0]) (by simp [results, Try.results26, go_sem]) rfl ?_
  exact ⟨HB3.out, .inl ⟨H0.out, D, N, cp, rfl, by rw [← Hlv.out]; exact HI.out, hc⟩⟩
set_option maxRecDepth 100000 in
set_option maxHeartbeats 8000000 in
theorem refCheckLevels28 (A : Option Addr) (n cap : Nat) (zs : List Rg) (A2 : Option Addr) (m cap2 : Nat) (L : List (List Int)) (G : Option Addr) (ng cg : Nat) (gs : List Int) (w : World) (h : Rgs w A n zs) (hL : Lns w A2 m L) (hm : m ≤ 9223372036854775807) (hG : Ints w G ng gs) :
    Calls Try.prog 28 #[.agg #[.slice A n cap], .slice A2 m cap2, .slice G ng cg] w fun e w' => Below w.heap.size w w' ∧
      ((chkL zs L = 0 ∧ e = .returned (.tuple #[.int .i64 (ckLv (mtS (cls (prs zs)) L) m gs).1, .int .i64 (ckLv (mtS (cls (prs zs)) L) m gs).2])) ∨
       (chkL zs L ≠ 0 ∧ e = .returned (.tuple #[.int .i64 0, .int .i64 (chkL zs L)]))) := by
  have Hlen := Lib.hid hL.1
  have hb0 := below_alloc_ w (.cells #[.slice A n cap] 24)
  have hr0 := heap_alloc_new_ w (.cells #[.slice A n cap] 24)
  obtain ⟨W0, hW0⟩ : ∃ W0, w.alloc (.cells #[.slice A n cap] 24) = W0 := ⟨_, rfl⟩
  obtain ⟨R, hR⟩ : ∃ R, w.heap.size = R := ⟨_, rfl⟩
  rw [hW0] at hb0 hr0
  rw [hR] at hr0
  have Y := Lib.hid (hG.below hb0 (Nat.le_refl _))
  have HGl := Lib.hid hG.1
  have S := Lib.hid (h.below hb0 (Nat.le_refl _))
  have X := Lib.hid (hL.below hb0 (Nat.le_refl _))
  have B0 := Lib.hid hb0
  have R0 := Lib.hid hr0
  have HW0 := Lib.hid hW0
  have HR := Lib.hid hR
  have r0 : W0.cell? ⟨R, 0, none⟩ = some (.slice A n cap) := by rw [cell_row hr0]; rfl
  have Hm := Lib.hid hm
  clear h hL hG hb0 hr0 hW0 hR hm
  go_enter Try.func28, Try.ntmps28
  go_wp2_with fail
  rw [HW0.out]
  try rw [HR.out]
  try go_wp2_with fail
  have hcb := refLines22 A n cap zs A2 m cap2 L W0 S.out X.out Hm.out
  by_cases h0 : chkL zs L = 0
  rotate_left
  · have hcb2 := fun w2 (hb : Below W0.heap.size W0 w2) => refLines22 A n cap zs A2 m cap2 L w2 (S.out.below hb (Nat.le_refl _)) (X.out.below hb (Nat.le_refl _)) Hm.out
    obtain ⟨c, hc⟩ : ∃ c, chkL zs L = c := ⟨_, rfl⟩
    rw [hc] at h0 hcb
    simp only [hc] at hcb2
    have Hcb2 := Lib.hid hcb2
    have Hc := Lib.hid hc
    have H0 := Lib.hid h0
    have d0 : (c != 0) = true := by rw [bne_iff_ne]; exact h0
    clear hc hcb2 h0
    refine hcb.mono ?_
    rintro en w1 ⟨rfl, hb⟩
    have r1 : w1.cell? ⟨R, 0, none⟩ = some (.slice A n cap) := by rw [cell_row ((hb.block _ (lt_of_block R0.out)).trans R0.out)]; rfl
    have hcb3 := Hcb2.out w1 hb
    have HB := Lib.hid (B0.out.trans (hb.mono B0.out.size))
    clear hb r0 hcb Hcb2
    go_wp2_with fail
    refine hcb3.mono ?_
    rintro en w2 ⟨rfl, hb⟩
    have HB2 := Lib.hid (HB.out.trans (hb.mono HB.out.size))
    clear hb hcb3 r1
    go_wp2_with fail
    refine bodyPost_ret (v := .tuple #[.int .i64 0, .int .i64 c]) (by simp [results, Try.results28, go_sem]) rfl ?_
    exact ⟨HB2.out, .inr ⟨by rw [Hc.out]; exact H0.out, by rw [Hc.out]⟩⟩
  rw [h0] at hcb
  refine hcb.mono ?_
  rintro en w1 ⟨rfl, hb⟩
  have r1 : w1.cell? ⟨R, 0, none⟩ = some (.slice A n cap) := by rw [cell_row ((hb.block _ (lt_of_block R0.out)).trans R0.out)]; rfl
  have key := all56 A n cap zs A2 m cap2 L w1 (S.out.below hb (Nat.le_refl _)) (X.out.below hb (Nat.le_refl _)) h0
  rw [allS_all Hlen.out h0] at key
  obtain ⟨l, hl⟩ : ∃ l, (mtS (cls (prs zs)) L).map (·.take m) = l := ⟨_, rfl⟩
  rw [hl] at key
  have Hl := Lib.hid hl
  have H0 := Lib.hid h0
  have HB := Lib.hid (B0.out.trans (hb.mono B0.out.size))
  have HY1 := Lib.hid (Y.out.below hb (Nat.le_refl _))
  clear hb r0 hcb hl h0
  go_wp2_with fail
  refine key.mono ?_
  rintro en w2 ⟨C, c, rfl, hl, hc, hb2⟩
  have HL2 := Lib.hid hl
  have HBW := Lib.hid (HB.out.trans (hb2.mono HB.out.size))
  have HLV := Lib.hid (lv_of Hlen.out H0.out)
  have HY2 := Lib.hid (HY1.out.below hb2 (Nat.le_refl _))
  obtain ⟨nm, hnm⟩ : ∃ nm, cls (prs zs) = nm := ⟨_, rfl⟩
  have Hnm := Lib.hid hnm
  have hl9 := Hl.out
  rw [hnm] at hl9
  have Hl9 := Lib.hid hl9
  have hlen : l.length = (mtS nm L).length := by rw [← hl9, List.length_map]
  have hN5 : l.length ≤ 5000 := by rw [hlen]; exact Nat.le_trans (mtS_len HLV.out).1 (by omega)
  have hls : ∀ j, j < l.length → (lAt l j).length = m := by
    rw [← hl9, List.length_map]
    exact take_lens HLV.out
  have hm4 := HLV.out.hi
  obtain ⟨N, hN⟩ : ∃ N, l.length = N := ⟨_, rfl⟩
  have HRG := Lib.hid (show dkK l m gs N N = rgK (mtS nm L) m gs N by rw [← hN, hlen, ← hl9]; exact dk_rg HLV.out gs)
  have HNl := Lib.hid (show (mtS nm L).length = N by rw [← hN, hlen])
  rw [hN] at HL2 hN5 hls ⊢
  have Hls := Lib.hid hls
  clear hl hb2 key hN r1 hc hlen hls hl9 hnm
  by_cases hgn : ng = N
  rotate_left
  · have d0 : ((ng : Int) != (N : Int)) = true := by rw [bne_iff_ne]; omega
    have HF := Lib.hid (show ckLv (mtS nm L) m gs = (0, 15) by unfold ckLv; rw [if_pos (by rw [HGl.out, HNl.out]; exact hgn)])
    clear hgn
    go_wp2_with fail
    refine bodyPost_ret (v := .tuple #[.int .i64 0, .int .i64 15]) (by simp [results, Try.results28, go_sem]) rfl ?_
    exact ⟨HBW.out, .inl ⟨H0.out, by rw [Hnm.out, HF.out]⟩⟩
  subst hgn
  have HCk := Lib.hid (show ckLv (mtS nm L) m gs = if rgK (mtS nm L) m gs ng = false then (0, 14) else (mxK gs ng, 0) by unfold ckLv; rw [if_neg (by rw [HGl.out, HNl.out]; simp), HNl.out])
  obtain ⟨N, rfl⟩ : ∃ N, N = ng := ⟨_, rfl⟩
  go_wp2_with fail
  go_loopw [9, 10, 11] (fun x i q wr => ∃ k : Nat, k ≤ N ∧ i = .int .i64 (k : Int) ∧ x = .int .i64 (mxK gs k) ∧ Hid (dkK l m gs N k = true ∧ Below w2.heap.size w2 wr)) (fun x i q _ => N - (intOf i).toNat)
  case atStart => exact ⟨0, Nat.zero_le _, rfl, rfl, Lib.hid ⟨rfl, Below.refl _ _⟩⟩
  case round =>
    obtain ⟨k, hk, rfl, rfl, HI⟩ := hrel
    obtain ⟨wq, rfl⟩ : ∃ wq, wq = wr := ⟨_, rfl⟩
    have HBl := Lib.hid HI.out.2
    have HdkK := Lib.hid HI.out.1
    clear HI
    by_cases hlt : k < N
    · obtain ⟨b, o, rfl, hc⟩ := HL2.out.2 (by omega)
      obtain ⟨gb, go, rfl, hg⟩ := HY2.out.2 (by omega)
      obtain ⟨Cb, cb, b0, bI, -⟩ := hc k hlt
      rw [Hls.out k hlt] at b0 bI
      have Hc := Lib.hid hc
      have Hg := Lib.hid hg
      have HB0 := Lib.hid ((HBl.out.cell (p := ⟨b, o + k, none⟩) (lt_of_cell b0)).trans b0)
      have HBI := Lib.hid (bI.below HBl.out (Nat.le_refl _))
      have g0 := (HBl.out.cell (p := ⟨gb, go + k, none⟩) (lt_of_cell (hg k hlt))).trans (hg k hlt)
      have HdkS := Lib.hid (dkK_succ l m gs N k)
      have HmxS := Lib.hid (mxK_succ gs k)
      obtain ⟨gv, hgv⟩ : ∃ gv, iAt gs k = gv := ⟨_, rfl⟩
      obtain ⟨mx, hmx⟩ : ∃ mx, mxK gs k = mx := ⟨_, rfl⟩
      have Hgv := Lib.hid hgv
      rw [hgv] at g0 HdkS HmxS
      rw [hmx] at HmxS
      try rw [hmx]
      have G0 := Lib.hid g0
      have i0 : (0 : Int) ≤ (k : Int) := by omega
      have i1 : (k : Int) < (N : Int) := by omega
      clear hc b0 bI hg hgv hmx
      by_cases hg1 : gv < 1
      · have HBz := Lib.hid (HBW.out.trans (HBl.out.mono HBW.out.size))
        have hfin : ckLv (mtS nm L) m gs = (0, 14) := by
          rw [HCk.out, if_pos]
          rw [← HRG.out]
          exact dkK_stop (i := k) (by rw [Hgv.out, decide_eq_false (by omega)]; rfl) hlt
        have Hfin := Lib.hid hfin
        clear hfin
        go_wp2_with fail
        refine bodyPost_ret (v := .tuple #[.int .i64 0, .int .i64 14]) (by simp [results, Try.results28, go_sem]) rfl ?_
        exact ⟨HBz.out, .inl ⟨H0.out, by rw [Hnm.out, Hfin.out]⟩⟩
      go_wp2_with fail
      clear g0
      go_loopw [11] (fun y wr => ∃ j : Nat, j ≤ N ∧ y = .int .i64 (j : Int) ∧ Hid (okJ l m gs k j = true ∧ Below wq.heap.size wq wr)) (fun y _ => N - (intOf y).toNat)
      case atStart => exact ⟨0, Nat.zero_le _, rfl, Lib.hid ⟨rfl, Below.refl _ _⟩⟩
      case round =>
        obtain ⟨j, hj, rfl, HBj0⟩ := hrel
        obtain ⟨wj, rfl⟩ : ∃ wj, wj = wr := ⟨_, rfl⟩
        have HBj2 := Lib.hid HBj0.out.2
        have HokJ := Lib.hid HBj0.out.1
        clear HBj0
        by_cases hjl : j < N
        · obtain ⟨Ca, ca, a0, aI, -⟩ := Hc.out j hjl
          rw [Hls.out j hjl] at a0 aI
          have hbw := HBl.out.trans (HBj2.out.mono HBl.out.size)
          replace a0 := (hbw.cell (p := ⟨b, o + j, none⟩) (lt_of_cell a0)).trans a0
          have b0 := (HBj2.out.cell (p := ⟨b, o + k, none⟩) (lt_of_cell HB0.out)).trans HB0.out
          have g0 := (HBj2.out.cell (p := ⟨gb, go + k, none⟩) (lt_of_cell G0.out)).trans G0.out
          have x0 := (hbw.cell (p := ⟨gb, go + j, none⟩) (lt_of_cell (Hg.out j hjl))).trans (Hg.out j hjl)
          have HA := Lib.hid (aI.below hbw (Nat.le_refl _))
          have HBq := Lib.hid (HBI.out.below HBj2.out (Nat.le_refl _))
          obtain ⟨la, hla⟩ : ∃ la, lAt l j = la := ⟨_, rfl⟩
          obtain ⟨lb, hlb⟩ : ∃ lb, lAt l k = lb := ⟨_, rfl⟩
          obtain ⟨xv, hxv⟩ : ∃ xv, iAt gs j = xv := ⟨_, rfl⟩
          have Hla := Lib.hid hla
          have Hlb := Lib.hid hlb
          have Hxv := Lib.hid hxv
          rw [hla] at HA
          rw [hlb] at HBq
          rw [hxv] at x0
          have j0 : (0 : Int) ≤ (j : Int) := by omega
          have j1 : (j : Int) < (N : Int) := by omega
          have k5 : (k : Int) ≤ 5000 := by omega
          clear hbw aI hla hlb hxv
          cases hbb : befB la lb m with
          | true =>
            have HBe := Lib.hid hbb
            clear hbb
            by_cases hge : gv ≤ xv
            · have Hle := Lib.hid hge
              have dg : decide (gv ≤ xv) = true := decide_eq_true hge
              go_wp2_with fail
              refine wp_region_held_drew (S := fun w2 => Below wj.heap.size wj w2) (by kernel_rfl) (drew_b _ _) (fun hS0 => ?_)
              refine wpAnyH_take (i := 0) (oi := { dst := some 44, op := Go.Op.move (Go.Operand.tmp 8), type := 31, pos := "ref.go:186", after := #[], guard := none }) (v := .slice (some ⟨b, o, none⟩) N c) rfl (by kernel_rfl) (by kernel_rfl) (by kernel_rfl) (fun _ _ _ h => h) (Or.inl ⟨by rfl, by intro w2 hSw; (try dsimp only at hSw); go_simp⟩) hS0 ?_
              try simp only [Act.put, List.setIfInBounds_toArray, List.set_cons_zero, List.set_cons_succ]
              refine wpAnyH_take (i := 1) (oi := { dst := some 45, op := Go.Op.move (Go.Operand.tmp 11), type := 3, pos := "ref.go:186", after := #[], guard := none }) (v := .int .i64 (j : Int)) rfl (by kernel_rfl) (by kernel_rfl) (by kernel_rfl) (fun _ _ _ h => h) (Or.inl ⟨by rfl, by intro w2 hSw; (try dsimp only at hSw); go_simp⟩) hS0 ?_
              try simp only [Act.put, List.setIfInBounds_toArray, List.set_cons_zero, List.set_cons_succ]
              refine wpAnyH_take (i := 2) (oi := { dst := some 46, op := Go.Op.indexAddr 31 (Go.Operand.tmp 44) (Go.Operand.tmp 45), type := 0, pos := "ref.go:186", after := #[{ on := 0, ground := Go.Ground.data }, { on := 1, ground := Go.Ground.data }], guard := none }) (v := .pointer (some ⟨b, o + j, none⟩)) rfl (by kernel_rfl) (by kernel_rfl) (by kernel_rfl) (fun _ _ _ h => h) (Or.inl ⟨by rfl, by intro w2 hSw; (try dsimp only at hSw); go_simp⟩) hS0 ?_
              try simp only [Act.put, List.setIfInBounds_toArray, List.set_cons_zero, List.set_cons_succ]
              refine wpAnyH_take (i := 3) (oi := { dst := some 47, op := Go.Op.load 40 (Go.Operand.tmp 46), type := 40, pos := "ref.go:186", after := #[{ on := 2, ground := Go.Ground.data }], guard := none }) (v := .slice Ca m ca) rfl (by kernel_rfl) (by kernel_rfl) (by kernel_rfl) (fun _ _ _ h => h) (Or.inl ⟨by rfl, by intro w2 hSw; (try dsimp only at hSw); have y0 := (hSw.cell (p := _) (lt_of_cell a0)).trans a0; go_simp⟩) hS0 ?_
              try simp only [Act.put, List.setIfInBounds_toArray, List.set_cons_zero, List.set_cons_succ]
              refine wpAnyH_take (i := 4) (oi := { dst := some 48, op := Go.Op.move (Go.Operand.tmp 8), type := 31, pos := "ref.go:186", after := #[], guard := none }) (v := .slice (some ⟨b, o, none⟩) N c) rfl (by kernel_rfl) (by kernel_rfl) (by kernel_rfl) (fun _ _ _ h => h) (Or.inl ⟨by rfl, by intro w2 hSw; (try dsimp only at hSw); go_simp⟩) hS0 ?_
              try simp only [Act.put, List.setIfInBounds_toArray, List.set_cons_zero, List.set_cons_succ]
              refine wpAnyH_take (i := 5) (oi := { dst := some 49, op := Go.Op.move (Go.Operand.tmp 10), type := 3, pos := "ref.go:186", after := #[], guard := none }) (v := .int .i64 (k : Int)) rfl (by kernel_rfl) (by kernel_rfl) (by kernel_rfl) (fun _ _ _ h => h) (Or.inl ⟨by rfl, by intro w2 hSw; (try dsimp only at hSw); go_simp⟩) hS0 ?_
              try simp only [Act.put, List.setIfInBounds_toArray, List.set_cons_zero, List.set_cons_succ]
              refine wpAnyH_take (i := 6) (oi := { dst := some 50, op := Go.Op.indexAddr 31 (Go.Operand.tmp 48) (Go.Operand.tmp 49), type := 0, pos := "ref.go:186", after := #[{ on := 4, ground := Go.Ground.data }, { on := 5, ground := Go.Ground.data }], guard := none }) (v := .pointer (some ⟨b, o + k, none⟩)) rfl (by kernel_rfl) (by kernel_rfl) (by kernel_rfl) (fun _ _ _ h => h) (Or.inl ⟨by rfl, by intro w2 hSw; (try dsimp only at hSw); go_simp⟩) hS0 ?_
              try simp only [Act.put, List.setIfInBounds_toArray, List.set_cons_zero, List.set_cons_succ]
              refine wpAnyH_take (i := 7) (oi := { dst := some 51, op := Go.Op.load 40 (Go.Operand.tmp 50), type := 40, pos := "ref.go:186", after := #[{ on := 6, ground := Go.Ground.data }], guard := none }) (v := .slice Cb m cb) rfl (by kernel_rfl) (by kernel_rfl) (by kernel_rfl) (fun _ _ _ h => h) (Or.inl ⟨by rfl, by intro w2 hSw; (try dsimp only at hSw); have y0 := (hSw.cell (p := _) (lt_of_cell b0)).trans b0; go_simp⟩) hS0 ?_
              try simp only [Act.put, List.setIfInBounds_toArray, List.set_cons_zero, List.set_cons_succ]
              refine wpAnyH_ready (rs := [8]) (by kernel_rfl) (by simp) ?_
              refine AllReadyH.cons (o := { dst := some 52, op := Go.Op.call { callee := Go.Callee.value (Go.Operand.func 63), args := #[Go.Operand.tmp 47, Go.Operand.tmp 51], argTypes := #[40, 40] }, type := 4, pos := "ref.go:186", after := #[{ on := 3, ground := Go.Ground.data }, { on := 7, ground := Go.Ground.data }], guard := none }) rfl (fun K hK => ?_) AllReadyH.nil
              go_simp
              have key := before63 Ca m ca la Cb m cb lb _ (HA.out.below hS0 (Nat.le_refl _)) (HBq.out.below hS0 (Nat.le_refl _)) (Nat.le_refl _) (by omega)
              rw [HBe.out] at key
              refine key.mono ?_
              rintro e9 V9 ⟨rfl, hV9⟩
              try go_simp
              refine hK.out _ _ (hS0.trans (hV9.mono hS0.size)) (fun hS1 => ?_)
              clear hK
              try simp only [Act.put, List.setIfInBounds_toArray, List.set_cons_zero, List.set_cons_succ]
              refine wpAnyH_take (i := 9) (oi := { dst := some 53, op := Go.Op.move (Go.Operand.tmp 52), type := 4, pos := "ref.go:186", after := #[{ on := 8, ground := Go.Ground.data }, { on := 8, ground := Go.Ground.chain }], guard := none }) (v := .bool true) rfl (by kernel_rfl) (by kernel_rfl) (by kernel_rfl) (fun _ _ _ h => h) (Or.inl ⟨by rfl, by intro w2 hSw; (try dsimp only at hSw); go_simp⟩) hS1 ?_
              try simp only [Act.put, List.setIfInBounds_toArray, List.set_cons_zero, List.set_cons_succ]
              refine wpAnyH_take (i := 10) (oi := { dst := some 54, op := Go.Op.move (Go.Operand.tmp 2), type := 38, pos := "ref.go:186", after := #[{ on := 9, ground := Go.Ground.guard }], guard := some (9, true) }) (v := .slice (some ⟨gb, go, none⟩) N cg) rfl (by kernel_rfl) (by kernel_rfl) (by kernel_rfl) (fun _ _ _ h => h) (Or.inl ⟨by rfl, by intro w2 hSw; (try dsimp only at hSw); go_simp⟩) hS1 ?_
              try simp only [Act.put, List.setIfInBounds_toArray, List.set_cons_zero, List.set_cons_succ]
              refine wpAnyH_take (i := 11) (oi := { dst := some 55, op := Go.Op.move (Go.Operand.tmp 11), type := 3, pos := "ref.go:186", after := #[{ on := 9, ground := Go.Ground.guard }], guard := some (9, true) }) (v := .int .i64 (j : Int)) rfl (by kernel_rfl) (by kernel_rfl) (by kernel_rfl) (fun _ _ _ h => h) (Or.inl ⟨by rfl, by intro w2 hSw; (try dsimp only at hSw); go_simp⟩) hS1 ?_
              try simp only [Act.put, List.setIfInBounds_toArray, List.set_cons_zero, List.set_cons_succ]
              refine wpAnyH_take (i := 12) (oi := { dst := some 56, op := Go.Op.indexAddr 38 (Go.Operand.tmp 54) (Go.Operand.tmp 55), type := 0, pos := "ref.go:186", after := #[{ on := 10, ground := Go.Ground.data }, { on := 11, ground := Go.Ground.data }, { on := 9, ground := Go.Ground.guard }], guard := some (9, true) }) (v := .pointer (some ⟨gb, go + j, none⟩)) rfl (by kernel_rfl) (by kernel_rfl) (by kernel_rfl) (fun _ _ _ h => h) (Or.inl ⟨by rfl, by intro w2 hSw; (try dsimp only at hSw); go_simp⟩) hS1 ?_
              try simp only [Act.put, List.setIfInBounds_toArray, List.set_cons_zero, List.set_cons_succ]
              refine wpAnyH_take (i := 13) (oi := { dst := some 57, op := Go.Op.load 3 (Go.Operand.tmp 56), type := 3, pos := "ref.go:186", after := #[{ on := 12, ground := Go.Ground.data }, { on := 9, ground := Go.Ground.guard }], guard := some (9, true) }) (v := .int .i64 xv) rfl (by kernel_rfl) (by kernel_rfl) (by kernel_rfl) (fun _ _ _ h => h) (Or.inl ⟨by rfl, by intro w2 hSw; (try dsimp only at hSw); have y0 := (hSw.cell (p := _) (lt_of_cell x0)).trans x0; go_simp⟩) hS1 ?_
              try simp only [Act.put, List.setIfInBounds_toArray, List.set_cons_zero, List.set_cons_succ]
              refine wpAnyH_take (i := 14) (oi := { dst := some 58, op := Go.Op.move (Go.Operand.tmp 2), type := 38, pos := "ref.go:186", after := #[{ on := 9, ground := Go.Ground.guard }], guard := some (9, true) }) (v := .slice (some ⟨gb, go, none⟩) N cg) rfl (by kernel_rfl) (by kernel_rfl) (by kernel_rfl) (fun _ _ _ h => h) (Or.inl ⟨by rfl, by intro w2 hSw; (try dsimp only at hSw); go_simp⟩) hS1 ?_
              try simp only [Act.put, List.setIfInBounds_toArray, List.set_cons_zero, List.set_cons_succ]
              refine wpAnyH_take (i := 15) (oi := { dst := some 59, op := Go.Op.move (Go.Operand.tmp 10), type := 3, pos := "ref.go:186", after := #[{ on := 9, ground := Go.Ground.guard }], guard := some (9, true) }) (v := .int .i64 (k : Int)) rfl (by kernel_rfl) (by kernel_rfl) (by kernel_rfl) (fun _ _ _ h => h) (Or.inl ⟨by rfl, by intro w2 hSw; (try dsimp only at hSw); go_simp⟩) hS1 ?_
              try simp only [Act.put, List.setIfInBounds_toArray, List.set_cons_zero, List.set_cons_succ]
              refine wpAnyH_take (i := 16) (oi := { dst := some 60, op := Go.Op.indexAddr 38 (Go.Operand.tmp 58) (Go.Operand.tmp 59), type := 0, pos := "ref.go:186", after := #[{ on := 14, ground := Go.Ground.data }, { on := 15, ground := Go.Ground.data }, { on := 9, ground := Go.Ground.guard }], guard := some (9, true) }) (v := .pointer (some ⟨gb, go + k, none⟩)) rfl (by kernel_rfl) (by kernel_rfl) (by kernel_rfl) (fun _ _ _ h => h) (Or.inl ⟨by rfl, by intro w2 hSw; (try dsimp only at hSw); go_simp⟩) hS1 ?_
              try simp only [Act.put, List.setIfInBounds_toArray, List.set_cons_zero, List.set_cons_succ]
              refine wpAnyH_take (i := 17) (oi := { dst := some 61, op := Go.Op.load 3 (Go.Operand.tmp 60), type := 3, pos := "ref.go:186", after := #[{ on := 16, ground := Go.Ground.data }, { on := 9, ground := Go.Ground.guard }], guard := some (9, true) }) (v := .int .i64 gv) rfl (by kernel_rfl) (by kernel_rfl) (by kernel_rfl) (fun _ _ _ h => h) (Or.inl ⟨by rfl, by intro w2 hSw; (try dsimp only at hSw); have y0 := (hSw.cell (p := _) (lt_of_cell g0)).trans g0; go_simp⟩) hS1 ?_
              try simp only [Act.put, List.setIfInBounds_toArray, List.set_cons_zero, List.set_cons_succ]
              refine wpAnyH_take (i := 18) (oi := { dst := some 62, op := Go.Op.binOp Go.BinOp.geq 3 (Go.Operand.tmp 57) (Go.Operand.tmp 61) 3, type := 4, pos := "ref.go:186", after := #[{ on := 13, ground := Go.Ground.data }, { on := 17, ground := Go.Ground.data }, { on := 9, ground := Go.Ground.guard }], guard := some (9, true) }) (v := .bool true) rfl (by kernel_rfl) (by kernel_rfl) (by kernel_rfl) (fun _ _ _ h => h) (Or.inl ⟨by rfl, by intro w2 hSw; (try dsimp only at hSw); go_simp⟩) hS1 ?_
              try simp only [Act.put, List.setIfInBounds_toArray, List.set_cons_zero, List.set_cons_succ]
              refine wpAnyH_take (i := 19) (oi := { dst := some 63, op := Go.Op.pick (Go.Operand.tmp 53) (Go.Operand.tmp 62) (Go.Operand.const (Go.Value.bool false)), type := 4, pos := "ref.go:186", after := #[{ on := 9, ground := Go.Ground.data }, { on := 18, ground := Go.Ground.data }], guard := none }) (v := .bool true) rfl (by kernel_rfl) (by kernel_rfl) (by kernel_rfl) (fun _ _ _ h => h) (Or.inl ⟨by rfl, by intro w2 hSw; (try dsimp only at hSw); go_simp⟩) hS1 ?_
              try simp only [Act.put, List.setIfInBounds_toArray, List.set_cons_zero, List.set_cons_succ]
              refine wpAnyH_done (by kernel_rfl) ?_ _
              have HB3 := Lib.hid (HBj2.out.trans (hS1.mono HBj2.out.size))
              have HBz := Lib.hid (HBW.out.trans (HBl.out.mono HBW.out.size))
              have HBy := Lib.hid (HBz.out.trans (HB3.out.mono HBz.out.size))
              have hfin : ckLv (mtS nm L) m gs = (0, 14) := by
                rw [HCk.out, if_pos]
                rw [← HRG.out]
                exact dkK_stop (i := k) (by rw [okJ_stop (k := j) (by rw [Hla.out, Hlb.out, HBe.out]; simp; rw [Hxv.out, Hgv.out]; exact Hle.out) hjl]; simp) hlt
              have Hfin := Lib.hid hfin
              clear hfin
              go_wp2_with fail
              refine bodyPost_ret (v := .tuple #[.int .i64 0, .int .i64 14]) (by simp [results, Try.results28, go_sem]) rfl ?_
              exact ⟨HBy.out, .inl ⟨H0.out, by rw [Hnm.out, Hfin.out]⟩⟩
            · have Hle := Lib.hid hge
              have dg : decide (gv ≤ xv) = false := decide_eq_false hge
              go_wp2_with fail
              refine wp_region_held_drew (S := fun w2 => Below wj.heap.size wj w2) (by kernel_rfl) (drew_b _ _) (fun hS0 => ?_)
              refine wpAnyH_take (i := 0) (oi := { dst := some 44, op := Go.Op.move (Go.Operand.tmp 8), type := 31, pos := "ref.go:186", after := #[], guard := none }) (v := .slice (some ⟨b, o, none⟩) N c) rfl (by kernel_rfl) (by kernel_rfl) (by kernel_rfl) (fun _ _ _ h => h) (Or.inl ⟨by rfl, by intro w2 hSw; (try dsimp only at hSw); go_simp⟩) hS0 ?_
              try simp only [Act.put, List.setIfInBounds_toArray, List.set_cons_zero, List.set_cons_succ]
              refine wpAnyH_take (i := 1) (oi := { dst := some 45, op := Go.Op.move (Go.Operand.tmp 11), type := 3, pos := "ref.go:186", after := #[], guard := none }) (v := .int .i64 (j : Int)) rfl (by kernel_rfl) (by kernel_rfl) (by kernel_rfl) (fun _ _ _ h => h) (Or.inl ⟨by rfl, by intro w2 hSw; (try dsimp only at hSw); go_simp⟩) hS0 ?_
              try simp only [Act.put, List.setIfInBounds_toArray, List.set_cons_zero, List.set_cons_succ]
              refine wpAnyH_take (i := 2) (oi := { dst := some 46, op := Go.Op.indexAddr 31 (Go.Operand.tmp 44) (Go.Operand.tmp 45), type := 0, pos := "ref.go:186", after := #[{ on := 0, ground := Go.Ground.data }, { on := 1, ground := Go.Ground.data }], guard := none }) (v := .pointer (some ⟨b, o + j, none⟩)) rfl (by kernel_rfl) (by kernel_rfl) (by kernel_rfl) (fun _ _ _ h => h) (Or.inl ⟨by rfl, by intro w2 hSw; (try dsimp only at hSw); go_simp⟩) hS0 ?_
              try simp only [Act.put, List.setIfInBounds_toArray, List.set_cons_zero, List.set_cons_succ]
              refine wpAnyH_take (i := 3) (oi := { dst := some 47, op := Go.Op.load 40 (Go.Operand.tmp 46), type := 40, pos := "ref.go:186", after := #[{ on := 2, ground := Go.Ground.data }], guard := none }) (v := .slice Ca m ca) rfl (by kernel_rfl) (by kernel_rfl) (by kernel_rfl) (fun _ _ _ h => h) (Or.inl ⟨by rfl, by intro w2 hSw; (try dsimp only at hSw); have y0 := (hSw.cell (p := _) (lt_of_cell a0)).trans a0; go_simp⟩) hS0 ?_
              try simp only [Act.put, List.setIfInBounds_toArray, List.set_cons_zero, List.set_cons_succ]
              refine wpAnyH_take (i := 4) (oi := { dst := some 48, op := Go.Op.move (Go.Operand.tmp 8), type := 31, pos := "ref.go:186", after := #[], guard := none }) (v := .slice (some ⟨b, o, none⟩) N c) rfl (by kernel_rfl) (by kernel_rfl) (by kernel_rfl) (fun _ _ _ h => h) (Or.inl ⟨by rfl, by intro w2 hSw; (try dsimp only at hSw); go_simp⟩) hS0 ?_
              try simp only [Act.put, List.setIfInBounds_toArray, List.set_cons_zero, List.set_cons_succ]
              refine wpAnyH_take (i := 5) (oi := { dst := some 49, op := Go.Op.move (Go.Operand.tmp 10), type := 3, pos := "ref.go:186", after := #[], guard := none }) (v := .int .i64 (k : Int)) rfl (by kernel_rfl) (by kernel_rfl) (by kernel_rfl) (fun _ _ _ h => h) (Or.inl ⟨by rfl, by intro w2 hSw; (try dsimp only at hSw); go_simp⟩) hS0 ?_
              try simp only [Act.put, List.setIfInBounds_toArray, List.set_cons_zero, List.set_cons_succ]
              refine wpAnyH_take (i := 6) (oi := { dst := some 50, op := Go.Op.indexAddr 31 (Go.Operand.tmp 48) (Go.Operand.tmp 49), type := 0, pos := "ref.go:186", after := #[{ on := 4, ground := Go.Ground.data }, { on := 5, ground := Go.Ground.data }], guard := none }) (v := .pointer (some ⟨b, o + k, none⟩)) rfl (by kernel_rfl) (by kernel_rfl) (by kernel_rfl) (fun _ _ _ h => h) (Or.inl ⟨by rfl, by intro w2 hSw; (try dsimp only at hSw); go_simp⟩) hS0 ?_
              try simp only [Act.put, List.setIfInBounds_toArray, List.set_cons_zero, List.set_cons_succ]
              refine wpAnyH_take (i := 7) (oi := { dst := some 51, op := Go.Op.load 40 (Go.Operand.tmp 50), type := 40, pos := "ref.go:186", after := #[{ on := 6, ground := Go.Ground.data }], guard := none }) (v := .slice Cb m cb) rfl (by kernel_rfl) (by kernel_rfl) (by kernel_rfl) (fun _ _ _ h => h) (Or.inl ⟨by rfl, by intro w2 hSw; (try dsimp only at hSw); have y0 := (hSw.cell (p := _) (lt_of_cell b0)).trans b0; go_simp⟩) hS0 ?_
              try simp only [Act.put, List.setIfInBounds_toArray, List.set_cons_zero, List.set_cons_succ]
              refine wpAnyH_ready (rs := [8]) (by kernel_rfl) (by simp) ?_
              refine AllReadyH.cons (o := { dst := some 52, op := Go.Op.call { callee := Go.Callee.value (Go.Operand.func 63), args := #[Go.Operand.tmp 47, Go.Operand.tmp 51], argTypes := #[40, 40] }, type := 4, pos := "ref.go:186", after := #[{ on := 3, ground := Go.Ground.data }, { on := 7, ground := Go.Ground.data }], guard := none }) rfl (fun K hK => ?_) AllReadyH.nil
              go_simp
              have key := before63 Ca m ca la Cb m cb lb _ (HA.out.below hS0 (Nat.le_refl _)) (HBq.out.below hS0 (Nat.le_refl _)) (Nat.le_refl _) (by omega)
              rw [HBe.out] at key
              refine key.mono ?_
              rintro e9 V9 ⟨rfl, hV9⟩
              try go_simp
              refine hK.out _ _ (hS0.trans (hV9.mono hS0.size)) (fun hS1 => ?_)
              clear hK
              try simp only [Act.put, List.setIfInBounds_toArray, List.set_cons_zero, List.set_cons_succ]
              refine wpAnyH_take (i := 9) (oi := { dst := some 53, op := Go.Op.move (Go.Operand.tmp 52), type := 4, pos := "ref.go:186", after := #[{ on := 8, ground := Go.Ground.data }, { on := 8, ground := Go.Ground.chain }], guard := none }) (v := .bool true) rfl (by kernel_rfl) (by kernel_rfl) (by kernel_rfl) (fun _ _ _ h => h) (Or.inl ⟨by rfl, by intro w2 hSw; (try dsimp only at hSw); go_simp⟩) hS1 ?_
              try simp only [Act.put, List.setIfInBounds_toArray, List.set_cons_zero, List.set_cons_succ]
              refine wpAnyH_take (i := 10) (oi := { dst := some 54, op := Go.Op.move (Go.Operand.tmp 2), type := 38, pos := "ref.go:186", after := #[{ on := 9, ground := Go.Ground.guard }], guard := some (9, true) }) (v := .slice (some ⟨gb, go, none⟩) N cg) rfl (by kernel_rfl) (by kernel_rfl) (by kernel_rfl) (fun _ _ _ h => h) (Or.inl ⟨by rfl, by intro w2 hSw; (try dsimp only at hSw); go_simp⟩) hS1 ?_
              try simp only [Act.put, List.setIfInBounds_toArray, List.set_cons_zero, List.set_cons_succ]
              refine wpAnyH_take (i := 11) (oi := { dst := some 55, op := Go.Op.move (Go.Operand.tmp 11), type := 3, pos := "ref.go:186", after := #[{ on := 9, ground := Go.Ground.guard }], guard := some (9, true) }) (v := .int .i64 (j : Int)) rfl (by kernel_rfl) (by kernel_rfl) (by kernel_rfl) (fun _ _ _ h => h) (Or.inl ⟨by rfl, by intro w2 hSw; (try dsimp only at hSw); go_simp⟩) hS1 ?_
              try simp only [Act.put, List.setIfInBounds_toArray, List.set_cons_zero, List.set_cons_succ]
              refine wpAnyH_take (i := 12) (oi := { dst := some 56, op := Go.Op.indexAddr 38 (Go.Operand.tmp 54) (Go.Operand.tmp 55), type := 0, pos := "ref.go:186", after := #[{ on := 10, ground := Go.Ground.data }, { on := 11, ground := Go.Ground.data }, { on := 9, ground := Go.Ground.guard }], guard := some (9, true) }) (v := .pointer (some ⟨gb, go + j, none⟩)) rfl (by kernel_rfl) (by kernel_rfl) (by kernel_rfl) (fun _ _ _ h => h) (Or.inl ⟨by rfl, by intro w2 hSw; (try dsimp only at hSw); go_simp⟩) hS1 ?_
              try simp only [Act.put, List.setIfInBounds_toArray, List.set_cons_zero, List.set_cons_succ]
              refine wpAnyH_take (i := 13) (oi := { dst := some 57, op := Go.Op.load 3 (Go.Operand.tmp 56), type := 3, pos := "ref.go:186", after := #[{ on := 12, ground := Go.Ground.data }, { on := 9, ground := Go.Ground.guard }], guard := some (9, true) }) (v := .int .i64 xv) rfl (by kernel_rfl) (by kernel_rfl) (by kernel_rfl) (fun _ _ _ h => h) (Or.inl ⟨by rfl, by intro w2 hSw; (try dsimp only at hSw); have y0 := (hSw.cell (p := _) (lt_of_cell x0)).trans x0; go_simp⟩) hS1 ?_
              try simp only [Act.put, List.setIfInBounds_toArray, List.set_cons_zero, List.set_cons_succ]
              refine wpAnyH_take (i := 14) (oi := { dst := some 58, op := Go.Op.move (Go.Operand.tmp 2), type := 38, pos := "ref.go:186", after := #[{ on := 9, ground := Go.Ground.guard }], guard := some (9, true) }) (v := .slice (some ⟨gb, go, none⟩) N cg) rfl (by kernel_rfl) (by kernel_rfl) (by kernel_rfl) (fun _ _ _ h => h) (Or.inl ⟨by rfl, by intro w2 hSw; (try dsimp only at hSw); go_simp⟩) hS1 ?_
              try simp only [Act.put, List.setIfInBounds_toArray, List.set_cons_zero, List.set_cons_succ]
              refine wpAnyH_take (i := 15) (oi := { dst := some 59, op := Go.Op.move (Go.Operand.tmp 10), type := 3, pos := "ref.go:186", after := #[{ on := 9, ground := Go.Ground.guard }], guard := some (9, true) }) (v := .int .i64 (k : Int)) rfl (by kernel_rfl) (by kernel_rfl) (by kernel_rfl) (fun _ _ _ h => h) (Or.inl ⟨by rfl, by intro w2 hSw; (try dsimp only at hSw); go_simp⟩) hS1 ?_
              try simp only [Act.put, List.setIfInBounds_toArray, List.set_cons_zero, List.set_cons_succ]
              refine wpAnyH_take (i := 16) (oi := { dst := some 60, op := Go.Op.indexAddr 38 (Go.Operand.tmp 58) (Go.Operand.tmp 59), type := 0, pos := "ref.go:186", after := #[{ on := 14, ground := Go.Ground.data }, { on := 15, ground := Go.Ground.data }, { on := 9, ground := Go.Ground.guard }], guard := some (9, true) }) (v := .pointer (some ⟨gb, go + k, none⟩)) rfl (by kernel_rfl) (by kernel_rfl) (by kernel_rfl) (fun _ _ _ h => h) (Or.inl ⟨by rfl, by intro w2 hSw; (try dsimp only at hSw); go_simp⟩) hS1 ?_
              try simp only [Act.put, List.setIfInBounds_toArray, List.set_cons_zero, List.set_cons_succ]
              refine wpAnyH_take (i := 17) (oi := { dst := some 61, op := Go.Op.load 3 (Go.Operand.tmp 60), type := 3, pos := "ref.go:186", after := #[{ on := 16, ground := Go.Ground.data }, { on := 9, ground := Go.Ground.guard }], guard := some (9, true) }) (v := .int .i64 gv) rfl (by kernel_rfl) (by kernel_rfl) (by kernel_rfl) (fun _ _ _ h => h) (Or.inl ⟨by rfl, by intro w2 hSw; (try dsimp only at hSw); have y0 := (hSw.cell (p := _) (lt_of_cell g0)).trans g0; go_simp⟩) hS1 ?_
              try simp only [Act.put, List.setIfInBounds_toArray, List.set_cons_zero, List.set_cons_succ]
              refine wpAnyH_take (i := 18) (oi := { dst := some 62, op := Go.Op.binOp Go.BinOp.geq 3 (Go.Operand.tmp 57) (Go.Operand.tmp 61) 3, type := 4, pos := "ref.go:186", after := #[{ on := 13, ground := Go.Ground.data }, { on := 17, ground := Go.Ground.data }, { on := 9, ground := Go.Ground.guard }], guard := some (9, true) }) (v := .bool false) rfl (by kernel_rfl) (by kernel_rfl) (by kernel_rfl) (fun _ _ _ h => h) (Or.inl ⟨by rfl, by intro w2 hSw; (try dsimp only at hSw); go_simp⟩) hS1 ?_
              try simp only [Act.put, List.setIfInBounds_toArray, List.set_cons_zero, List.set_cons_succ]
              refine wpAnyH_take (i := 19) (oi := { dst := some 63, op := Go.Op.pick (Go.Operand.tmp 53) (Go.Operand.tmp 62) (Go.Operand.const (Go.Value.bool false)), type := 4, pos := "ref.go:186", after := #[{ on := 9, ground := Go.Ground.data }, { on := 18, ground := Go.Ground.data }], guard := none }) (v := .bool false) rfl (by kernel_rfl) (by kernel_rfl) (by kernel_rfl) (fun _ _ _ h => h) (Or.inl ⟨by rfl, by intro w2 hSw; (try dsimp only at hSw); go_simp⟩) hS1 ?_
              try simp only [Act.put, List.setIfInBounds_toArray, List.set_cons_zero, List.set_cons_succ]
              refine wpAnyH_done (by kernel_rfl) ?_ _
              have HB3 := Lib.hid (HBj2.out.trans (hS1.mono HBj2.out.size))
              have hnx : okJ l m gs k (j + 1) = true := by
                rw [okJ_succ, HokJ.out, Hla.out, Hlb.out, Hxv.out, Hgv.out]
                rw [HBe.out]; have := Hle.out; simp; omega
              have Hnx := Lib.hid hnx
              clear hnx
              go_wp2_with fail
              go_roundw
              case rel => exact ⟨j + 1, by omega, by go_num, Lib.hid ⟨Hnx.out, HB3.out⟩⟩
              case measure => simp [intOf]; omega
          | false =>
            have HBe := Lib.hid hbb
            clear hbb
            go_wp2_with fail
            refine wp_region_held_drew (S := fun w2 => Below wj.heap.size wj w2) (by kernel_rfl) (drew_b _ _) (fun hS0 => ?_)
            refine wpAnyH_take (i := 0) (oi := { dst := some 44, op := Go.Op.move (Go.Operand.tmp 8), type := 31, pos := "ref.go:186", after := #[], guard := none }) (v := .slice (some ⟨b, o, none⟩) N c) rfl (by kernel_rfl) (by kernel_rfl) (by kernel_rfl) (fun _ _ _ h => h) (Or.inl ⟨by rfl, by intro w2 hSw; (try dsimp only at hSw); go_simp⟩) hS0 ?_
            try simp only [Act.put, List.setIfInBounds_toArray, List.set_cons_zero, List.set_cons_succ]
            refine wpAnyH_take (i := 1) (oi := { dst := some 45, op := Go.Op.move (Go.Operand.tmp 11), type := 3, pos := "ref.go:186", after := #[], guard := none }) (v := .int .i64 (j : Int)) rfl (by kernel_rfl) (by kernel_rfl) (by kernel_rfl) (fun _ _ _ h => h) (Or.inl ⟨by rfl, by intro w2 hSw; (try dsimp only at hSw); go_simp⟩) hS0 ?_
            try simp only [Act.put, List.setIfInBounds_toArray, List.set_cons_zero, List.set_cons_succ]
            refine wpAnyH_take (i := 2) (oi := { dst := some 46, op := Go.Op.indexAddr 31 (Go.Operand.tmp 44) (Go.Operand.tmp 45), type := 0, pos := "ref.go:186", after := #[{ on := 0, ground := Go.Ground.data }, { on := 1, ground := Go.Ground.data }], guard := none }) (v := .pointer (some ⟨b, o + j, none⟩)) rfl (by kernel_rfl) (by kernel_rfl) (by kernel_rfl) (fun _ _ _ h => h) (Or.inl ⟨by rfl, by intro w2 hSw; (try dsimp only at hSw); go_simp⟩) hS0 ?_
            try simp only [Act.put, List.setIfInBounds_toArray, List.set_cons_zero, List.set_cons_succ]
            refine wpAnyH_take (i := 3) (oi := { dst := some 47, op := Go.Op.load 40 (Go.Operand.tmp 46), type := 40, pos := "ref.go:186", after := #[{ on := 2, ground := Go.Ground.data }], guard := none }) (v := .slice Ca m ca) rfl (by kernel_rfl) (by kernel_rfl) (by kernel_rfl) (fun _ _ _ h => h) (Or.inl ⟨by rfl, by intro w2 hSw; (try dsimp only at hSw); have y0 := (hSw.cell (p := _) (lt_of_cell a0)).trans a0; go_simp⟩) hS0 ?_
            try simp only [Act.put, List.setIfInBounds_toArray, List.set_cons_zero, List.set_cons_succ]
            refine wpAnyH_take (i := 4) (oi := { dst := some 48, op := Go.Op.move (Go.Operand.tmp 8), type := 31, pos := "ref.go:186", after := #[], guard := none }) (v := .slice (some ⟨b, o, none⟩) N c) rfl (by kernel_rfl) (by kernel_rfl) (by kernel_rfl) (fun _ _ _ h => h) (Or.inl ⟨by rfl, by intro w2 hSw; (try dsimp only at hSw); go_simp⟩) hS0 ?_
            try simp only [Act.put, List.setIfInBounds_toArray, List.set_cons_zero, List.set_cons_succ]
            refine wpAnyH_take (i := 5) (oi := { dst := some 49, op := Go.Op.move (Go.Operand.tmp 10), type := 3, pos := "ref.go:186", after := #[], guard := none }) (v := .int .i64 (k : Int)) rfl (by kernel_rfl) (by kernel_rfl) (by kernel_rfl) (fun _ _ _ h => h) (Or.inl ⟨by rfl, by intro w2 hSw; (try dsimp only at hSw); go_simp⟩) hS0 ?_
            try simp only [Act.put, List.setIfInBounds_toArray, List.set_cons_zero, List.set_cons_succ]
            refine wpAnyH_take (i := 6) (oi := { dst := some 50, op := Go.Op.indexAddr 31 (Go.Operand.tmp 48) (Go.Operand.tmp 49), type := 0, pos := "ref.go:186", after := #[{ on := 4, ground := Go.Ground.data }, { on := 5, ground := Go.Ground.data }], guard := none }) (v := .pointer (some ⟨b, o + k, none⟩)) rfl (by kernel_rfl) (by kernel_rfl) (by kernel_rfl) (fun _ _ _ h => h) (Or.inl ⟨by rfl, by intro w2 hSw; (try dsimp only at hSw); go_simp⟩) hS0 ?_
            try simp only [Act.put, List.setIfInBounds_toArray, List.set_cons_zero, List.set_cons_succ]
            refine wpAnyH_take (i := 7) (oi := { dst := some 51, op := Go.Op.load 40 (Go.Operand.tmp 50), type := 40, pos := "ref.go:186", after := #[{ on := 6, ground := Go.Ground.data }], guard := none }) (v := .slice Cb m cb) rfl (by kernel_rfl) (by kernel_rfl) (by kernel_rfl) (fun _ _ _ h => h) (Or.inl ⟨by rfl, by intro w2 hSw; (try dsimp only at hSw); have y0 := (hSw.cell (p := _) (lt_of_cell b0)).trans b0; go_simp⟩) hS0 ?_
            try simp only [Act.put, List.setIfInBounds_toArray, List.set_cons_zero, List.set_cons_succ]
            refine wpAnyH_ready (rs := [8]) (by kernel_rfl) (by simp) ?_
            refine AllReadyH.cons (o := { dst := some 52, op := Go.Op.call { callee := Go.Callee.value (Go.Operand.func 63), args := #[Go.Operand.tmp 47, Go.Operand.tmp 51], argTypes := #[40, 40] }, type := 4, pos := "ref.go:186", after := #[{ on := 3, ground := Go.Ground.data }, { on := 7, ground := Go.Ground.data }], guard := none }) rfl (fun K hK => ?_) AllReadyH.nil
            go_simp
            have key := before63 Ca m ca la Cb m cb lb _ (HA.out.below hS0 (Nat.le_refl _)) (HBq.out.below hS0 (Nat.le_refl _)) (Nat.le_refl _) (by omega)
            rw [HBe.out] at key
            refine key.mono ?_
            rintro e9 V9 ⟨rfl, hV9⟩
            try go_simp
            refine hK.out _ _ (hS0.trans (hV9.mono hS0.size)) (fun hS1 => ?_)
            clear hK
            try simp only [Act.put, List.setIfInBounds_toArray, List.set_cons_zero, List.set_cons_succ]
            refine wpAnyH_take (i := 9) (oi := { dst := some 53, op := Go.Op.move (Go.Operand.tmp 52), type := 4, pos := "ref.go:186", after := #[{ on := 8, ground := Go.Ground.data }, { on := 8, ground := Go.Ground.chain }], guard := none }) (v := .bool false) rfl (by kernel_rfl) (by kernel_rfl) (by kernel_rfl) (fun _ _ _ h => h) (Or.inl ⟨by rfl, by intro w2 hSw; (try dsimp only at hSw); go_simp⟩) hS1 ?_
            try simp only [Act.put, List.setIfInBounds_toArray, List.set_cons_zero, List.set_cons_succ]
            refine wpAnyH_take (i := 10) (oi := { dst := some 54, op := Go.Op.move (Go.Operand.tmp 2), type := 38, pos := "ref.go:186", after := #[{ on := 9, ground := Go.Ground.guard }], guard := some (9, true) }) (v := undef) rfl (by kernel_rfl) (by kernel_rfl) (by kernel_rfl) (fun _ _ _ h => h) (Or.inr ⟨by rfl, rfl⟩) hS1 ?_
            try simp only [Act.put, List.setIfInBounds_toArray, List.set_cons_zero, List.set_cons_succ]
            refine wpAnyH_take (i := 11) (oi := { dst := some 55, op := Go.Op.move (Go.Operand.tmp 11), type := 3, pos := "ref.go:186", after := #[{ on := 9, ground := Go.Ground.guard }], guard := some (9, true) }) (v := undef) rfl (by kernel_rfl) (by kernel_rfl) (by kernel_rfl) (fun _ _ _ h => h) (Or.inr ⟨by rfl, rfl⟩) hS1 ?_
            try simp only [Act.put, List.setIfInBounds_toArray, List.set_cons_zero, List.set_cons_succ]
            refine wpAnyH_take (i := 12) (oi := { dst := some 56, op := Go.Op.indexAddr 38 (Go.Operand.tmp 54) (Go.Operand.tmp 55), type := 0, pos := "ref.go:186", after := #[{ on := 10, ground := Go.Ground.data }, { on := 11, ground := Go.Ground.data }, { on := 9, ground := Go.Ground.guard }], guard := some (9, true) }) (v := undef) rfl (by kernel_rfl) (by kernel_rfl) (by kernel_rfl) (fun _ _ _ h => h) (Or.inr ⟨by rfl, rfl⟩) hS1 ?_
            try simp only [Act.put, List.setIfInBounds_toArray, List.set_cons_zero, List.set_cons_succ]
            refine wpAnyH_take (i := 13) (oi := { dst := some 57, op := Go.Op.load 3 (Go.Operand.tmp 56), type := 3, pos := "ref.go:186", after := #[{ on := 12, ground := Go.Ground.data }, { on := 9, ground := Go.Ground.guard }], guard := some (9, true) }) (v := undef) rfl (by kernel_rfl) (by kernel_rfl) (by kernel_rfl) (fun _ _ _ h => h) (Or.inr ⟨by rfl, rfl⟩) hS1 ?_
            try simp only [Act.put, List.setIfInBounds_toArray, List.set_cons_zero, List.set_cons_succ]
            refine wpAnyH_take (i := 14) (oi := { dst := some 58, op := Go.Op.move (Go.Operand.tmp 2), type := 38, pos := "ref.go:186", after := #[{ on := 9, ground := Go.Ground.guard }], guard := some (9, true) }) (v := undef) rfl (by kernel_rfl) (by kernel_rfl) (by kernel_rfl) (fun _ _ _ h => h) (Or.inr ⟨by rfl, rfl⟩) hS1 ?_
            try simp only [Act.put, List.setIfInBounds_toArray, List.set_cons_zero, List.set_cons_succ]
            refine wpAnyH_take (i := 15) (oi := { dst := some 59, op := Go.Op.move (Go.Operand.tmp 10), type := 3, pos := "ref.go:186", after := #[{ on := 9, ground := Go.Ground.guard }], guard := some (9, true) }) (v := undef) rfl (by kernel_rfl) (by kernel_rfl) (by kernel_rfl) (fun _ _ _ h => h) (Or.inr ⟨by rfl, rfl⟩) hS1 ?_
            try simp only [Act.put, List.setIfInBounds_toArray, List.set_cons_zero, List.set_cons_succ]
            refine wpAnyH_take (i := 16) (oi := { dst := some 60, op := Go.Op.indexAddr 38 (Go.Operand.tmp 58) (Go.Operand.tmp 59), type := 0, pos := "ref.go:186", after := #[{ on := 14, ground := Go.Ground.data }, { on := 15, ground := Go.Ground.data }, { on := 9, ground := Go.Ground.guard }], guard := some (9, true) }) (v := undef) rfl (by kernel_rfl) (by kernel_rfl) (by kernel_rfl) (fun _ _ _ h => h) (Or.inr ⟨by rfl, rfl⟩) hS1 ?_
            try simp only [Act.put, List.setIfInBounds_toArray, List.set_cons_zero, List.set_cons_succ]
            refine wpAnyH_take (i := 17) (oi := { dst := some 61, op := Go.Op.load 3 (Go.Operand.tmp 60), type := 3, pos := "ref.go:186", after := #[{ on := 16, ground := Go.Ground.data }, { on := 9, ground := Go.Ground.guard }], guard := some (9, true) }) (v := undef) rfl (by kernel_rfl) (by kernel_rfl) (by kernel_rfl) (fun _ _ _ h => h) (Or.inr ⟨by rfl, rfl⟩) hS1 ?_
            try simp only [Act.put, List.setIfInBounds_toArray, List.set_cons_zero, List.set_cons_succ]
            refine wpAnyH_take (i := 18) (oi := { dst := some 62, op := Go.Op.binOp Go.BinOp.geq 3 (Go.Operand.tmp 57) (Go.Operand.tmp 61) 3, type := 4, pos := "ref.go:186", after := #[{ on := 13, ground := Go.Ground.data }, { on := 17, ground := Go.Ground.data }, { on := 9, ground := Go.Ground.guard }], guard := some (9, true) }) (v := undef) rfl (by kernel_rfl) (by kernel_rfl) (by kernel_rfl) (fun _ _ _ h => h) (Or.inr ⟨by rfl, rfl⟩) hS1 ?_
            try simp only [Act.put, List.setIfInBounds_toArray, List.set_cons_zero, List.set_cons_succ]
            refine wpAnyH_take (i := 19) (oi := { dst := some 63, op := Go.Op.pick (Go.Operand.tmp 53) (Go.Operand.tmp 62) (Go.Operand.const (Go.Value.bool false)), type := 4, pos := "ref.go:186", after := #[{ on := 9, ground := Go.Ground.data }, { on := 18, ground := Go.Ground.data }], guard := none }) (v := .bool false) rfl (by kernel_rfl) (by kernel_rfl) (by kernel_rfl) (fun _ _ _ h => h) (Or.inl ⟨by rfl, by intro w2 hSw; (try dsimp only at hSw); go_simp⟩) hS1 ?_
            try simp only [Act.put, List.setIfInBounds_toArray, List.set_cons_zero, List.set_cons_succ]
            refine wpAnyH_done (by kernel_rfl) ?_ _
            have HB3 := Lib.hid (HBj2.out.trans (hS1.mono HBj2.out.size))
            have hnx : okJ l m gs k (j + 1) = true := by
              rw [okJ_succ, HokJ.out, Hla.out, Hlb.out, Hxv.out, Hgv.out]
              rw [HBe.out]; rfl
            have Hnx := Lib.hid hnx
            clear hnx
            go_wp2_with fail
            go_roundw
            case rel => exact ⟨j + 1, by omega, by go_num, Lib.hid ⟨Hnx.out, HB3.out⟩⟩
            case measure => simp [intOf]; omega
        · obtain rfl : j = N := by omega
          have HB4 := Lib.hid (HBl.out.trans (HBj2.out.mono HBl.out.size))
          have g0 := (HBj2.out.cell (p := ⟨gb, go + k, none⟩) (lt_of_cell G0.out)).trans G0.out
          have hdk : dkK l m gs j (k + 1) = true := by
            rw [HdkS.out, HdkK.out, HokJ.out, decide_eq_true (by omega)]
            rfl
          have Hdk := Lib.hid hdk
          clear hdk
          go_wp2_with fail
          go_roundw
          case rel => exact ⟨k + 1, by omega, by go_num, by rw [HmxS.out]; congr 1; rw [Int.max_def]; split <;> split <;> omega, Lib.hid ⟨Hdk.out, HB4.out⟩⟩
          case measure => simp [intOf]; omega
    · obtain rfl : k = N := by omega
      have HBz := Lib.hid (HBW.out.trans (HBl.out.mono HBW.out.size))
      have hfin : ckLv (mtS nm L) m gs = (mxK gs k, 0) := by
        rw [HCk.out, if_neg]
        rw [← HRG.out, HdkK.out]
        simp
      have Hfin := Lib.hid hfin
      obtain ⟨mx, hmx⟩ : ∃ mx, mxK gs k = mx := ⟨_, rfl⟩
      rw [hmx] at Hfin
      try rw [hmx]
      clear hfin hmx
      go_wp2_with fail
      refine bodyPost_ret (v := .tuple #[.int .i64 mx, .int .i64 0]) (by simp [results, Try.results28, go_sem]) rfl ?_
      exact ⟨HBz.out, .inl ⟨H0.out, by rw [Hnm.out, Hfin.out]⟩⟩
end
end Go.Proofs.Ythdjbapidodlfaa
