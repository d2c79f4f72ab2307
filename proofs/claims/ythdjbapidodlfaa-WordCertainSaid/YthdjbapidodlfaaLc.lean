/- Stage 4: WordCertain. -/
import Derived.Test.YthdjbapidodlfaaWcf
namespace Go.Proofs.Ythdjbapidodlfaa
set_option linter.unusedSimpArgs false
set_option linter.unusedVariables false
open Go.RowKit Go.Shelf
section
attribute [local go_sem ↓] exec_app at_app
attribute [local go_sem] Oper.semAt_some
set_option maxRecDepth 100000 in
set_option maxHeartbeats 40000000 in
theorem certain8 (A : Option Addr) (n cap : Nat) (zs : List Rg) (A2 : Option Addr) (m cap2 : Nat) (L : List (List Int)) (A3 : Option Addr) (nb cb x3 : Nat) (w : World) (h : Rgs w A n zs) (hL : Lns w A2 m L) (hU : ByU w A3 nb) (h3 : x3 ≤ 255) :
    Calls Try.prog 8 #[.agg #[.slice A n cap], .slice A2 m cap2, .slice A3 nb cb, .int .u8 (x3 : Int)] w fun e w' => e = .returned (.bool true) ∧ Below w.heap.size w w' := by
  have U0 := Lib.hid hU
  clear hU
  have Hlen := Lib.hid hL.1
  have hb0 := below_alloc_ w (.cells #[.slice A n cap] 24)
  have hr0 := heap_alloc_new_ w (.cells #[.slice A n cap] 24)
  obtain ⟨w0, hW0⟩ : ∃ w0, w.alloc (.cells #[.slice A n cap] 24) = w0 := ⟨_, rfl⟩
  obtain ⟨R, hR⟩ : ∃ R, w.heap.size = R := ⟨_, rfl⟩
  rw [hW0] at hb0 hr0
  rw [hR] at hr0
  have S := Lib.hid (h.below hb0 (Nat.le_refl _))
  have X := Lib.hid (hL.below hb0 (Nat.le_refl _))
  have B := Lib.hid hb0
  have U := Lib.hid (U0.out.below hb0 (Nat.le_refl _))
  clear U0
  have HW0 := Lib.hid hW0
  have HR := Lib.hid hR
  have rc : w0.cell? ⟨R, 0, none⟩ = some (.slice A n cap) := by rw [cell_row hr0]; rfl
  have hrow := Lib.hid hr0
  clear h hL hb0 hr0 hW0 hR
  go_enter Try.func8, Try.ntmps8
  go_wp2_with fail
  rw [HW0.out]
  try rw [HR.out]
  try go_wp2_with fail
  refine (fine40 A n cap zs A2 m cap2 L w0 S.out X.out).mono ?_
  rintro en w1 ⟨rfl, hb⟩
  replace S := Lib.hid (S.out.below hb (Nat.le_refl _))
  replace X := Lib.hid (X.out.below hb (Nat.le_refl _))
  replace U := Lib.hid (U.out.below hb (Nat.le_refl _))
  replace B := Lib.hid (B.out.trans (hb.mono B.out.size))
  replace hrow := Lib.hid ((hb.block R (lt_of_block hrow.out)).trans hrow.out)
  clear hb rc
  obtain ⟨fn, hfn⟩ : ∃ fn, fnB n zs L = fn := ⟨_, rfl⟩
  rw [hfn]
  cases fn
  · clear hfn
    go_wp2_with fail
    try clear rc
    refine (works14 w1).mono ?_
    rintro en w2 ⟨rfl, hb⟩
    replace B := Lib.hid (B.out.trans (hb.mono B.out.size))
    clear hb
    go_wp2_with fail
    go_ret
    exact ⟨rfl, B.out⟩
  have hck := fnB_ok hfn
  have Hck := Lib.hid hck
  have HLV := Lib.hid (lv_of Hlen.out hck)
  have hlo := HLV.out.lo
  have hhi := HLV.out.hi
  clear hfn hck
  by_cases h6 : 20 < nb
  · have d6 : (20 : Int) < (nb : Int) := by omega
    go_wp2_with fail
    try clear rc
    refine (works14 w1).mono ?_
    rintro en w2 ⟨rfl, hb⟩
    replace B := Lib.hid (B.out.trans (hb.mono B.out.size))
    clear hb
    go_wp2_with fail
    go_ret
    exact ⟨rfl, B.out⟩
  have d6 : ¬ (20 : Int) < (nb : Int) := by omega
  obtain ⟨bo, oo, hA2, -⟩ := X.out.2 (by omega)
  subst hA2
  have rc : w1.cell? ⟨R, 0, none⟩ = some (.slice A n cap) := by rw [cell_row hrow.out]; rfl
  go_wp2_with fail
  have Hnb := Lib.hid h6
  clear d6 h6
  obtain ⟨nm, hnm⟩ : ∃ nm, cls (prs zs) = nm := ⟨_, rfl⟩
  have Hnm := Lib.hid hnm
  clear hnm
  obtain ⟨K, hK⟩ : ∃ K, topK nm L m = K := ⟨_, rfl⟩
  have HK := Lib.hid hK
  have hK9 : K ≤ 9 := by rw [← hK]; exact topK_le HLV.out
  clear hK
  obtain ⟨p, hp⟩ : ∃ p, (fstS nm L m (mtS nm L)).map (·.take m) = p := ⟨_, rfl⟩
  have Hp := Lib.hid hp
  have HpQ := Lib.hid (show ChQ ((mtS nm L).map (·.take m)) m p by rw [← hp]; exact (fst_chQ HLV.out).1)
  have HpL := Lib.hid (show p.length = K by rw [← hp, ← HK.out]; exact (fst_chQ HLV.out).2)
  have HpC := Lib.hid (show ckPs zs L p = 0 from (chQ_ok Hlen.out Hck.out (by rw [Hnm.out]; exact HpQ.out)).1)
  have HpG := Lib.hid (show Lg nm L m p from ⟨_, fst_lng HLV.out, hp.symm⟩)
  have HpM := Lib.hid (chQ_lens HLV.out HpQ.out)
  clear hp
  refine (longest32 A n cap zs (some ⟨bo, oo, none⟩) m cap2 L w1 S.out X.out (by omega)).mono ?_
  rintro en w2 ⟨hb, hor⟩
  replace S := Lib.hid (S.out.below hb (Nat.le_refl _))
  replace X := Lib.hid (X.out.below hb (Nat.le_refl _))
  replace U := Lib.hid (U.out.below hb (Nat.le_refl _))
  replace B := Lib.hid (B.out.trans (hb.mono B.out.size))
  replace hrow := Lib.hid ((hb.block R (lt_of_block hrow.out)).trans hrow.out)
  try clear rc
  obtain ⟨-, C1, N1, c1, rfl, hl1, -⟩ | ⟨h0, -⟩ := hor
  rotate_left
  · exact absurd Hck.out h0
  rw [Hnm.out, Hp.out] at hl1
  have hn1 := hl1.1
  rw [HpL.out] at hn1
  subst hn1
  have P1 := Lib.hid hl1
  clear hl1
  clear hb
  have rc : w2.cell? ⟨R, 0, none⟩ = some (.slice A n cap) := by rw [cell_row hrow.out]; rfl
  go_wp2_with fail
  refine (count34 A n cap zs (some ⟨bo, oo, none⟩) m cap2 L w2 S.out X.out (by omega)).mono ?_
  rintro en w3 ⟨hb, hor⟩
  replace S := Lib.hid (S.out.below hb (Nat.le_refl _))
  replace X := Lib.hid (X.out.below hb (Nat.le_refl _))
  replace U := Lib.hid (U.out.below hb (Nat.le_refl _))
  replace P1 := Lib.hid (P1.out.below hb (Nat.le_refl _))
  replace B := Lib.hid (B.out.trans (hb.mono B.out.size))
  replace hrow := Lib.hid ((hb.block R (lt_of_block hrow.out)).trans hrow.out)
  try clear rc
  obtain ⟨-, rfl⟩ | ⟨h0, -⟩ := hor
  rotate_left
  · exact absurd Hck.out h0
  rw [Hnm.out]
  have Hcp := Lib.hid (cnt_pos (nm := nm) HLV.out)
  obtain ⟨cn, hcn⟩ : ∃ cn, cntS (allK (mtS nm L) m) = cn := ⟨_, rfl⟩
  rw [hcn] at Hcp ⊢
  have Hcn := Lib.hid hcn
  clear hcn
  clear hb
  have rc : w3.cell? ⟨R, 0, none⟩ = some (.slice A n cap) := by rw [cell_row hrow.out]; rfl
  go_wp2_with fail
  refine (certain36 A n cap zs (some ⟨bo, oo, none⟩) m cap2 L w3 S.out X.out (by omega)).mono ?_
  rintro en w4 ⟨hb, hor⟩
  replace S := Lib.hid (S.out.below hb (Nat.le_refl _))
  replace X := Lib.hid (X.out.below hb (Nat.le_refl _))
  replace U := Lib.hid (U.out.below hb (Nat.le_refl _))
  replace P1 := Lib.hid (P1.out.below hb (Nat.le_refl _))
  replace B := Lib.hid (B.out.trans (hb.mono B.out.size))
  replace hrow := Lib.hid ((hb.block R (lt_of_block hrow.out)).trans hrow.out)
  try clear rc
  obtain ⟨-, C2, N2, c2, rfl, hl2, -⟩ | ⟨h0, -⟩ := hor
  rotate_left
  · exact absurd Hck.out h0
  rw [Hnm.out] at hl2
  have HcQ := Lib.hid (crt_chQ (nm := nm) HLV.out)
  have HcH := Lib.hid (fun (p' : List (List Int)) (hp' : Lg nm L m p') (i : Nat) (hi : i < ((crtS nm L m (mtS nm L)).map (·.take m)).length) => lg_has HLV.out hp' hi)
  have HcA := Lib.hid (fun (h i : Nat) (hh : h < m) (hi : i < ((crtS nm L m (mtS nm L)).map (·.take m)).length) => crt_at HLV.out hh hi)
  have HcO := Lib.hid (show cn = 1 → (crtS nm L m (mtS nm L)).map (·.take m) = p from fun e => by rw [← Hp.out, crt_one HLV.out (by rw [Hcn.out]; exact e)])
  obtain ⟨cq, hcq⟩ : ∃ cq, (crtS nm L m (mtS nm L)).map (·.take m) = cq := ⟨_, rfl⟩
  rw [hcq] at hl2 HcQ HcH HcA HcO
  clear hcq
  have hcc := chQ_ok Hlen.out Hck.out (by rw [Hnm.out]; exact HcQ.out)
  rw [Hnm.out, HK.out, hl2.1] at hcc
  have HcC := Lib.hid hcc.1
  have hN2 : N2 ≤ 9 := by have := hcc.2; omega
  have HcM := Lib.hid (chQ_lens HLV.out HcQ.out)
  have P2 := Lib.hid hl2
  clear hl2 hcc
  obtain ⟨hh, hhh⟩ : ∃ hh : Nat, hh = x3 % m := ⟨_, rfl⟩
  have lh : hh < m := by rw [hhh]; exact Nat.mod_lt _ (by omega)
  have eh : (x3 : Int) % (m : Int) = (hh : Int) := by rw [hhh]; exact (Int.natCast_emod x3 m).symm
  have fh : (x3 : Int).tmod (m : Int) = (hh : Int) := by rw [Int.tmod_eq_emod_of_nonneg (by omega)]; exact eh
  have gh : IntKind.i64.wrap (x3 : Int) = x3 := IntWalk.i64_in _ (by omega)
  have jh : IntKind.i64.wrap (hh : Int) = hh := IntWalk.i64_in _ (by omega)
  have dm : ((m : Int) == 0) = false := by rw [beq_eq_false_iff_ne]; omega
  clear hhh
  clear hb
  have rc : w4.cell? ⟨R, 0, none⟩ = some (.slice A n cap) := by rw [cell_row hrow.out]; rfl
  go_wp2_with fail
  clear eh fh gh jh dm
  refine (grades38 A n cap zs (some ⟨bo, oo, none⟩) m cap2 L (hh : Int) w4 S.out X.out (by omega)).mono ?_
  rintro en w5 ⟨hb, hor⟩
  replace S := Lib.hid (S.out.below hb (Nat.le_refl _))
  replace X := Lib.hid (X.out.below hb (Nat.le_refl _))
  replace U := Lib.hid (U.out.below hb (Nat.le_refl _))
  replace P1 := Lib.hid (P1.out.below hb (Nat.le_refl _))
  replace P2 := Lib.hid (P2.out.below hb (Nat.le_refl _))
  replace B := Lib.hid (B.out.trans (hb.mono B.out.size))
  replace hrow := Lib.hid ((hb.block R (lt_of_block hrow.out)).trans hrow.out)
  try clear rc
  obtain ⟨-, ⟨h', C4, c4, he, -, rfl, hg, -⟩ | ⟨hr, -⟩⟩ | ⟨h0, -⟩ := hor
  rotate_left
  · exact absurd (by omega) hr
  · exact absurd Hck.out h0
  obtain rfl : hh = h' := by omega
  clear he hb
  rw [Hnm.out] at hg
  have HgR := Lib.hid (fun (i : Nat) (hi : i < (lAt L hh).length) => gr_rng (nm := nm) (m := m) hi)
  have HgS := Lib.hid (fun (p' : List (List Int)) (hp' : Lg nm L m p') (i : Nat) (hi : i < (lAt L hh).length) => lg_says HLV.out lh hi hp')
  have h08 := HLV.out.le8 hh lh
  have HcG := Lib.hid (fun (i : Nat) (hi : i < cq.length) => HcA.out hh i lh hi)
  obtain ⟨gs, hgs⟩ : ∃ gs, grS nm L m hh = gs := ⟨_, rfl⟩
  rw [hgs] at hg HgR HgS HcG
  clear hgs HcA
  obtain ⟨bo', oo', e, hcx⟩ := X.out.2 (by omega)
  cases e
  obtain ⟨Ch, ch, y0, -, -⟩ := hcx hh lh
  obtain ⟨gl, hgl⟩ : ∃ gl, (lAt L hh).length = gl := ⟨_, rfl⟩
  rw [hgl] at hg HgR HgS HcG y0 h08
  rw [hgl]
  clear hgl hcx
  have P4 := Lib.hid hg
  clear hg
  have i0 : (0 : Int) ≤ (hh : Int) := by omega
  have i1 : (hh : Int) < (m : Int) := by omega
  have dcn : ¬ cn < 1 := by have := Hcp.out; omega
  have rc : w5.cell? ⟨R, 0, none⟩ = some (.slice A n cap) := by rw [cell_row hrow.out]; rfl
  go_wp2_with fail
  clear y0 dcn
  refine (refPassage30 A n cap zs (some ⟨bo, oo, none⟩) m cap2 L C2 N2 c2 cq w5 S.out X.out P2.out (by omega)).mono ?_
  rintro en w6 ⟨rfl, hb⟩
  replace S := Lib.hid (S.out.below hb (Nat.le_refl _))
  replace X := Lib.hid (X.out.below hb (Nat.le_refl _))
  replace U := Lib.hid (U.out.below hb (Nat.le_refl _))
  replace P1 := Lib.hid (P1.out.below hb (Nat.le_refl _))
  replace P2 := Lib.hid (P2.out.below hb (Nat.le_refl _))
  replace P4 := Lib.hid (P4.out.below hb (Nat.le_refl _))
  replace B := Lib.hid (B.out.trans (hb.mono B.out.size))
  replace hrow := Lib.hid ((hb.block R (lt_of_block hrow.out)).trans hrow.out)
  try clear rc
  rw [HcC.out]
  clear hb
  have rc : w6.cell? ⟨R, 0, none⟩ = some (.slice A n cap) := by rw [cell_row hrow.out]; rfl
  go_wp2_with fail
  refine (refPassage30 A n cap zs (some ⟨bo, oo, none⟩) m cap2 L C1 K c1 p w6 S.out X.out P1.out (by omega)).mono ?_
  rintro en w7 ⟨rfl, hb⟩
  replace S := Lib.hid (S.out.below hb (Nat.le_refl _))
  replace X := Lib.hid (X.out.below hb (Nat.le_refl _))
  replace U := Lib.hid (U.out.below hb (Nat.le_refl _))
  replace P1 := Lib.hid (P1.out.below hb (Nat.le_refl _))
  replace P2 := Lib.hid (P2.out.below hb (Nat.le_refl _))
  replace P4 := Lib.hid (P4.out.below hb (Nat.le_refl _))
  replace B := Lib.hid (B.out.trans (hb.mono B.out.size))
  replace hrow := Lib.hid ((hb.block R (lt_of_block hrow.out)).trans hrow.out)
  rw [HpC.out]
  clear hb rc
  by_cases hc1 : cn = 1
  case' pos =>
    have hcp := HcO.out hc1
    have dc1 : (cn == 1) = true := by rw [beq_iff_eq]; exact hc1
    have rc : w7.cell? ⟨R, 0, none⟩ = some (.slice A n cap) := by rw [cell_row hrow.out]; rfl
    clear hc1
    go_wp2_with fail
    refine (matches23 C2 N2 c2 cq C1 K c1 p w7 P2.out P1.out (fun j hj => by rw [HcM.out j (by rw [P2.out.1]; exact hj)]; omega) (by omega)).mono ?_
    rintro en w8 ⟨rfl, hb⟩
    rw [decide_eq_true hcp]
    replace S := Lib.hid (S.out.below hb (Nat.le_refl _))
    replace X := Lib.hid (X.out.below hb (Nat.le_refl _))
    replace U := Lib.hid (U.out.below hb (Nat.le_refl _))
    replace P1 := Lib.hid (P1.out.below hb (Nat.le_refl _))
    replace P2 := Lib.hid (P2.out.below hb (Nat.le_refl _))
    replace P4 := Lib.hid (P4.out.below hb (Nat.le_refl _))
    replace B := Lib.hid (B.out.trans (hb.mono B.out.size))
    replace hrow := Lib.hid ((hb.block R (lt_of_block hrow.out)).trans hrow.out)
    clear hb rc hcp dc1
    have rc : w8.cell? ⟨R, 0, none⟩ = some (.slice A n cap) := by rw [cell_row hrow.out]; rfl
    go_wp2_with fail
  case' neg =>
    have dc1 : (cn == 1) = false := by rw [beq_eq_false_iff_ne]; exact hc1
    obtain ⟨w8, rfl⟩ : ∃ w8, w8 = w7 := ⟨_, rfl⟩
    have rc : w8.cell? ⟨R, 0, none⟩ = some (.slice A n cap) := by rw [cell_row hrow.out]; rfl
    clear hc1
    go_wp2_with fail
    clear dc1
  all_goals
  · refine (climb41 A n cap zs (some ⟨bo, oo, none⟩) m cap2 L A3 nb cb w8 S.out X.out Hck.out U.out (by have := Hnb.out; omega)).mono ?_
    rintro en w9 ⟨hb, C3, N3, c3, q, rfl, hl3, -, hq3⟩
    replace S := Lib.hid (S.out.below hb (Nat.le_refl _))
    replace X := Lib.hid (X.out.below hb (Nat.le_refl _))
    replace U := Lib.hid (U.out.below hb (Nat.le_refl _))
    replace P1 := Lib.hid (P1.out.below hb (Nat.le_refl _))
    replace P2 := Lib.hid (P2.out.below hb (Nat.le_refl _))
    replace P4 := Lib.hid (P4.out.below hb (Nat.le_refl _))
    replace B := Lib.hid (B.out.trans (hb.mono B.out.size))
    replace hrow := Lib.hid ((hb.block R (lt_of_block hrow.out)).trans hrow.out)
    try clear rc
    rw [Hnm.out] at hq3
    have hq5 := (chQ_ok Hlen.out Hck.out (by rw [Hnm.out]; exact hq3)).2
    rw [Hnm.out, HK.out, hl3.1] at hq5
    have HqM := Lib.hid (chQ_lens HLV.out hq3)
    have HqG := Lib.hid (show N3 = K → Lg nm L m q from fun e => chQ_lng HLV.out hq3 (by rw [hl3.1, HK.out]; exact e))
    have P3 := Lib.hid hl3
    clear hl3 hq3
    clear hb
    have rc : w9.cell? ⟨R, 0, none⟩ = some (.slice A n cap) := by rw [cell_row hrow.out]; rfl
    go_wp2_with fail
    go_loopw [19] (fun i wr => ∃ k : Nat, k ≤ N2 ∧ i = .int .i64 (k : Int) ∧ Hid (Below w9.heap.size w9 wr)) (fun i _ => N2 - (intOf i).toNat)
    case atStart => exact ⟨0, Nat.zero_le _, rfl, Lib.hid (Below.refl _ _)⟩
    case round =>
      obtain ⟨k, hk, rfl, HBl⟩ := hrel
      obtain ⟨wk, rfl⟩ : ∃ wk, wk = wr := ⟨_, rfl⟩
      by_cases hlt : k < N2
      · obtain ⟨b2, o2, rfl, hc2⟩ := (P2.out.below HBl.out (Nat.le_refl _)).2 (by omega)
        obtain ⟨Cx, cx, x0, hi, -⟩ := hc2 k hlt
        obtain ⟨hle, u, hu, hul, hg2⟩ := HcG.out k (by rw [P2.out.1]; exact hlt)
        have hH1 := HcH.out p HpG.out k (by rw [P2.out.1]; exact hlt)
        have hH2 : N3 = K → hasB q (lAt cq k) = true := fun e => HcH.out q (HqG.out e) k (by rw [P2.out.1]; exact hlt)
        obtain ⟨y, hy⟩ : ∃ y, lAt cq k = y := ⟨_, rfl⟩
        rw [hy] at hu hle x0 hi hH1 hH2
        rw [hle] at x0 hi
        obtain ⟨b4, o4, rfl, hc4⟩ := (P4.out.below HBl.out (Nat.le_refl _)).2 (by omega)
        have z0 := hc4 u hul
        rw [hg2] at z0
        obtain ⟨b5, o5, rfl, hc5⟩ := hi.2 (by omega)
        have y1 := hc5 hh lh
        rw [hu] at y1
        have HH1 := Lib.hid hH1
        have HH2 := Lib.hid hH2
        have HI := Lib.hid hi
        have i2 : (0 : Int) ≤ (k : Int) := by omega
        have i3 : (k : Int) < (N2 : Int) := by omega
        have i4 : (0 : Int) ≤ (u : Int) := by omega
        have i5 : (u : Int) < (gl : Int) := by omega
        clear hc2 hle hu hg2 hy hc4 hc5 hi hH1 hH2
        go_wp2_with fail
        refine (has42 C1 K c1 p (some ⟨b5, o5, none⟩) m cx y wk (P1.out.below HBl.out (Nat.le_refl _)) HI.out (fun j hj => by rw [HpM.out j (by rw [HpL.out]; exact hj)]; omega) (by omega)).mono ?_
        rintro en wl ⟨rfl, hb⟩
        rw [HH1.out]
        have x0 := (hb.cell (p := ⟨b2, o2 + k, none⟩) (lt_of_cell x0)).trans x0
        have y1 := (hb.cell (p := ⟨b5, o5 + hh, none⟩) (lt_of_cell y1)).trans y1
        have z0 := (hb.cell (p := ⟨b4, o4 + u, none⟩) (lt_of_cell z0)).trans z0
        replace HI := Lib.hid (HI.out.below hb (Nat.le_refl _))
        replace HBl := Lib.hid (HBl.out.trans (hb.mono HBl.out.size))
        clear hb
        by_cases hqk : N3 = K
        case' pos =>
          have dq : (N3 == K) = true := by rw [beq_iff_eq]; exact hqk
          have dq2 : ((N3 : Int) == (K : Int)) = true := by rw [beq_iff_eq]; omega
          have hQ := HH2.out hqk
          clear hqk
          go_wp2_with fail
          refine (has42 C3 N3 c3 q (some ⟨b5, o5, none⟩) m cx y wl (P3.out.below HBl.out (Nat.le_refl _)) HI.out (fun j hj => by rw [HqM.out j (by rw [P3.out.1]; exact hj)]; omega) (by omega)).mono ?_
          rintro en wm ⟨rfl, hb⟩
          rw [hQ]
          have x0 := (hb.cell (p := ⟨b2, o2 + k, none⟩) (lt_of_cell x0)).trans x0
          have y1 := (hb.cell (p := ⟨b5, o5 + hh, none⟩) (lt_of_cell y1)).trans y1
          have z0 := (hb.cell (p := ⟨b4, o4 + u, none⟩) (lt_of_cell z0)).trans z0
          replace HBl := Lib.hid (HBl.out.trans (hb.mono HBl.out.size))
          clear hb dq dq2 hQ
        case' neg =>
          have dq : (N3 == K) = false := by rw [beq_eq_false_iff_ne]; exact hqk
          have dq2 : ((N3 : Int) == (K : Int)) = false := by rw [beq_eq_false_iff_ne]; omega
          obtain ⟨wm, rfl⟩ : ∃ wm, wm = wl := ⟨_, rfl⟩
          clear hqk
        all_goals (go_wp2_with fail; go_roundw)
        all_goals first | (case rel => exact ⟨k + 1, by omega, by go_num, HBl⟩) | skip
        all_goals (simp [intOf]; omega)
      · obtain rfl : k = N2 := by omega
        go_wp2_with fail
        replace B := Lib.hid (B.out.trans (HBl.out.mono B.out.size))
        replace P3 := Lib.hid (P3.out.below HBl.out (Nat.le_refl _))
        replace P1 := Lib.hid (P1.out.below HBl.out (Nat.le_refl _))
        replace P4 := Lib.hid (P4.out.below HBl.out (Nat.le_refl _))
        clear HBl S X U hrow
        go_loopw [20] (fun i wr => ∃ j : Nat, j ≤ gl ∧ i = .int .i64 (j : Int) ∧ Hid (Below wk.heap.size wk wr)) (fun i _ => gl - (intOf i).toNat)
        case atStart => exact ⟨0, Nat.zero_le _, rfl, Lib.hid (Below.refl _ _)⟩
        case round =>
          obtain ⟨j, hj, rfl, HBl⟩ := hrel
          obtain ⟨v0, rfl⟩ : ∃ v0, v0 = wr := ⟨_, rfl⟩
          by_cases hlt : j < gl
          · obtain ⟨b4, o4, rfl, hc4⟩ := (P4.out.below HBl.out (Nat.le_refl _)).2 (by omega)
            have z0 := hc4 j hlt
            have hr := HgR.out j hlt
            have hs := HgS.out p HpG.out j hlt
            rw [HpL.out] at hs
            have hs2 : N3 = K → (iAt gs j = 2 → hrsB q hh (j : Int) N3 = true) ∧ (iAt gs j = 0 → hrsB q hh (j : Int) N3 = false) := fun e => by
              have := HgS.out q (HqG.out e) j hlt
              rw [P3.out.1] at this
              exact this
            obtain ⟨gv, hgv⟩ : ∃ gv, iAt gs j = gv := ⟨_, rfl⟩
            rw [hgv] at z0 hr hs hs2
            have i2 : (0 : Int) ≤ (j : Int) := by omega
            have i3 : (j : Int) < (gl : Int) := by omega
            have HS1 := Lib.hid hs
            have HS2 := Lib.hid hs2
            obtain rfl | rfl | rfl : gv = 0 ∨ gv = 1 ∨ gv = 2 := by omega
            all_goals clear hc4 hr hgv hs hs2
            · go_wp2_with fail
              refine (hears43 C1 K c1 p hh (j : Int) v0 (P1.out.below HBl.out (Nat.le_refl _)) (fun i hi => by rw [HpM.out i (by rw [HpL.out]; exact hi)]; exact lh) (by omega) (by omega)).mono ?_
              rintro en v1 ⟨rfl, hb⟩
              rw [HS1.out.2 (by trivial)]
              have z0 := (hb.cell (p := ⟨b4, o4 + j, none⟩) (lt_of_cell z0)).trans z0
              replace HBl := Lib.hid (HBl.out.trans (hb.mono HBl.out.size))
              clear hb
              by_cases hqk : N3 = K
              · have dq : (N3 == K) = true := by rw [beq_iff_eq]; exact hqk
                have dq2 : ((N3 : Int) == (K : Int)) = true := by rw [beq_iff_eq]; omega
                have hQ := HS2.out hqk
                clear hqk
                go_wp2_with fail
                refine (hears43 C3 N3 c3 q hh (j : Int) v1 (P3.out.below HBl.out (Nat.le_refl _)) (fun i hi => by rw [HqM.out i (by rw [P3.out.1]; exact hi)]; exact lh) (by omega) (by omega)).mono ?_
                rintro en v2 ⟨rfl, hb⟩
                rw [hQ.2 (by trivial)]
                have z0 := (hb.cell (p := ⟨b4, o4 + j, none⟩) (lt_of_cell z0)).trans z0
                replace HBl := Lib.hid (HBl.out.trans (hb.mono HBl.out.size))
                clear hb
                clear dq dq2 hQ
                go_wp2_with fail
                go_roundw
                case rel => exact ⟨j + 1, by omega, by go_num, HBl⟩
                case measure => simp [intOf]; omega
              · have dq : (N3 == K) = false := by rw [beq_eq_false_iff_ne]; exact hqk
                have dq2 : ((N3 : Int) == (K : Int)) = false := by rw [beq_eq_false_iff_ne]; omega
                clear hqk
                go_wp2_with fail
                go_roundw
                case rel => exact ⟨j + 1, by omega, by go_num, HBl⟩
                case measure => simp [intOf]; omega
            · obtain ⟨v1, rfl⟩ : ∃ v1, v1 = v0 := ⟨_, rfl⟩
              by_cases hqk : N3 = K
              · have dq : (N3 == K) = true := by rw [beq_iff_eq]; exact hqk
                have dq2 : ((N3 : Int) == (K : Int)) = true := by rw [beq_iff_eq]; omega
                have hQ := HS2.out hqk
                clear hqk
                go_wp2_with fail
                go_roundw
                case rel => exact ⟨j + 1, by omega, by go_num, HBl⟩
                case measure => simp [intOf]; omega
              · have dq : (N3 == K) = false := by rw [beq_eq_false_iff_ne]; exact hqk
                have dq2 : ((N3 : Int) == (K : Int)) = false := by rw [beq_eq_false_iff_ne]; omega
                clear hqk
                go_wp2_with fail
                go_roundw
                case rel => exact ⟨j + 1, by omega, by go_num, HBl⟩
                case measure => simp [intOf]; omega
            · go_wp2_with fail
              refine (hears43 C1 K c1 p hh (j : Int) v0 (P1.out.below HBl.out (Nat.le_refl _)) (fun i hi => by rw [HpM.out i (by rw [HpL.out]; exact hi)]; exact lh) (by omega) (by omega)).mono ?_
              rintro en v1 ⟨rfl, hb⟩
              rw [HS1.out.1 (by trivial)]
              have z0 := (hb.cell (p := ⟨b4, o4 + j, none⟩) (lt_of_cell z0)).trans z0
              replace HBl := Lib.hid (HBl.out.trans (hb.mono HBl.out.size))
              clear hb
              by_cases hqk : N3 = K
              · have dq : (N3 == K) = true := by rw [beq_iff_eq]; exact hqk
                have dq2 : ((N3 : Int) == (K : Int)) = true := by rw [beq_iff_eq]; omega
                have hQ := HS2.out hqk
                clear hqk
                go_wp2_with fail
                refine (hears43 C3 N3 c3 q hh (j : Int) v1 (P3.out.below HBl.out (Nat.le_refl _)) (fun i hi => by rw [HqM.out i (by rw [P3.out.1]; exact hi)]; exact lh) (by omega) (by omega)).mono ?_
                rintro en v2 ⟨rfl, hb⟩
                rw [hQ.1 (by trivial)]
                have z0 := (hb.cell (p := ⟨b4, o4 + j, none⟩) (lt_of_cell z0)).trans z0
                replace HBl := Lib.hid (HBl.out.trans (hb.mono HBl.out.size))
                clear hb
                clear dq dq2 hQ
                go_wp2_with fail
                go_roundw
                case rel => exact ⟨j + 1, by omega, by go_num, HBl⟩
                case measure => simp [intOf]; omega
              · have dq : (N3 == K) = false := by rw [beq_eq_false_iff_ne]; exact hqk
                have dq2 : ((N3 : Int) == (K : Int)) = false := by rw [beq_eq_false_iff_ne]; omega
                clear hqk
                go_wp2_with fail
                go_roundw
                case rel => exact ⟨j + 1, by omega, by go_num, HBl⟩
                case measure => simp [intOf]; omega
          · obtain rfl : j = gl := by omega
            replace B := Lib.hid (B.out.trans (HBl.out.mono B.out.size))
            go_wp2_with fail
            refine (works14 v0).mono ?_
            rintro en v9 ⟨rfl, hb⟩
            replace B := Lib.hid (B.out.trans (hb.mono B.out.size))
            clear hb
            go_wp2_with fail
            go_ret
            exact ⟨rfl, B.out⟩
end
end Go.Proofs.Ythdjbapidodlfaa
