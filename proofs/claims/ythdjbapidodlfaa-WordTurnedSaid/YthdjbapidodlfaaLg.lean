/- Stage 4: WordTurned. -/
import Derived.Test.YthdjbapidodlfaaXb
import Derived.Test.YthdjbapidodlfaaHr
import Derived.Deep.RegionHeld3
import Derived.BigQuiet
import Derived.Deep.QuietTactic
namespace Go.Proofs.Ythdjbapidodlfaa
set_option linter.unusedSimpArgs false
set_option linter.unusedVariables false
open Go.RowKit Go.Shelf
section
attribute [local go_sem ↓] exec_app at_app
attribute [local go_sem] Oper.semAt_some
set_option maxRecDepth 100000 in
set_option maxHeartbeats 40000000 in
theorem turned10 (A : Option Addr) (n cap : Nat) (zs : List Rg) (A2 : Option Addr) (m cap2 : Nat) (L : List (List Int)) (x2 x3 : Nat) (w : World) (h : Rgs w A n zs) (hL : Lns w A2 m L) (h2 : x2 ≤ 255) (h3 : x3 ≤ 255) :
    Calls Try.prog 10 #[.agg #[.slice A n cap], .slice A2 m cap2, .int .u8 (x2 : Int), .int .u8 (x3 : Int)] w fun e w' => e = .returned (.bool true) ∧ Below w.heap.size w w' := by
  have Hlen := Lib.hid hL.1
  have hb0 := below_alloc_ w (.cells #[.slice A n cap] 24)
  have hr0 := heap_alloc_new_ w (.cells #[.slice A n cap] 24)
  obtain ⟨w0, hW0⟩ : ∃ w0, w.alloc (.cells #[.slice A n cap] 24) = w0 := ⟨_, rfl⟩
  obtain ⟨R, hR⟩ : ∃ R, w.heap.size = R := ⟨_, rfl⟩
  rw [hW0] at hb0 hr0
  rw [hR] at hr0
  have S := Lib.hid (h.below hb0 (Nat.le_refl _))
  have X := Lib.hid (hL.below hb0 (Nat.le_refl _))
  have B := Lib.hid hb0
  have HW0 := Lib.hid hW0
  have HR := Lib.hid hR
  have rc : w0.cell? ⟨R, 0, none⟩ = some (.slice A n cap) := by rw [cell_row hr0]; rfl
  have hrow := Lib.hid hr0
  clear h hL hb0 hr0 hW0 hR
  go_enter Try.func10, Try.ntmps10
  go_wp2_with fail
  rw [HW0.out]
  try rw [HR.out]
  try go_wp2_with fail
  refine (fine40 A n cap zs A2 m cap2 L w0 S.out X.out).mono ?_
  rintro en w1 ⟨rfl, hb⟩
  replace S := Lib.hid (S.out.below hb (Nat.le_refl _))
  replace X := Lib.hid (X.out.below hb (Nat.le_refl _))
  replace B := Lib.hid (B.out.trans (hb.mono B.out.size))
  replace hrow := Lib.hid ((hb.block R (lt_of_block hrow.out)).trans hrow.out)
  clear hb rc
  obtain ⟨fn, hfn⟩ : ∃ fn, fnB n zs L = fn := ⟨_, rfl⟩
  rw [hfn]
  cases fn
  · clear hfn
    go_wp2_with fail
    try clear rc
    refine (works14 w1).mono ?_
    rintro en w2 ⟨rfl, hb⟩
    replace B := Lib.hid (B.out.trans (hb.mono B.out.size))
    clear hb
    go_wp2_with fail
    go_ret
    exact ⟨rfl, B.out⟩
  have hck := fnB_ok hfn
  have Hck := Lib.hid hck
  have HLV := Lib.hid (lv_of Hlen.out hck)
  clear hfn hck
  have hlo := HLV.out.lo
  have hhi := HLV.out.hi
  obtain ⟨bo, oo, hA2, -⟩ := X.out.2 (by omega)
  subst hA2
  obtain ⟨hh, hhh⟩ : ∃ hh : Nat, hh = x3 % m := ⟨_, rfl⟩
  have lh : hh < m := by rw [hhh]; exact Nat.mod_lt _ (by omega)
  have eh : (x3 : Int) % (m : Int) = (hh : Int) := by rw [hhh]; exact (Int.natCast_emod x3 m).symm
  have fh : (x3 : Int).tmod (m : Int) = (hh : Int) := by rw [Int.tmod_eq_emod_of_nonneg (by omega)]; exact eh
  have gh : IntKind.i64.wrap (x3 : Int) = x3 := IntWalk.i64_in _ (by omega)
  have jh : IntKind.i64.wrap (hh : Int) = hh := IntWalk.i64_in _ (by omega)
  have dm : ((m : Int) == 0) = false := by rw [beq_eq_false_iff_ne]; omega
  clear hhh
  have rc : w1.cell? ⟨R, 0, none⟩ = some (.slice A n cap) := by rw [cell_row hrow.out]; rfl
  go_wp2_with fail
  go_quiet (fail)
  have hb := drew_b w1 nq
  obtain ⟨w2, hwq⟩ : ∃ w2, w1.drewN nq = w2 := ⟨_, rfl⟩
  rw [hwq] at hb
  rw [hwq]
  replace S := Lib.hid (S.out.below hb (Nat.le_refl _))
  replace X := Lib.hid (X.out.below hb (Nat.le_refl _))
  replace B := Lib.hid (B.out.trans (hb.mono B.out.size))
  replace hrow := Lib.hid ((hb.block R (lt_of_block hrow.out)).trans hrow.out)
  clear hb hwq rc eh fh gh jh dm
  go_wp2_with fail
  go_loopw [11, 12, 13, 14, 15] (fun x y i l5 m5 wr => ∃ j : Nat, j ≤ m ∧ i = .int .i64 (j : Int) ∧ Hid (XY w2 wr L m x2 j j x y)) (fun x y i l5 m5 _ => m - (intOf i).toNat)
  case atStart => exact ⟨0, Nat.zero_le _, rfl, Lib.hid (XY.nil _ _ _ _)⟩
  case round =>
    obtain ⟨j, hj, rfl, HI⟩ := hrel
    obtain ⟨wk, rfl⟩ : ∃ wk, wk = wr := ⟨_, rfl⟩
    by_cases hlt : j < m
    · obtain ⟨bo', oo', e, hcs⟩ := (X.out.below HI.out.below (Nat.le_refl _)).2 (by omega)
      cases e
      obtain ⟨Cj, cj, y0, hIj, hcj⟩ := hcs j hlt
      have h08 := HLV.out.le8 j hlt
      obtain ⟨lj, hlj⟩ : ∃ lj, (lAt L j).length = lj := ⟨_, rfl⟩
      rw [hlj] at y0 hIj hcj h08
      have Hlj := Lib.hid hlj
      have HIj := Lib.hid hIj
      have i0 : (0 : Int) ≤ (j : Int) := by omega
      have i1 : (j : Int) < (m : Int) := by omega
      have k0 : IntKind.i64.wrap ((lj : Int) - 1) = (lj : Int) - 1 := IntWalk.i64_in _ (by omega)
      have Hhh := Lib.hid lh
      clear hcs hlj hIj lh
      go_wp2_with fail
      go_loopw [14, 15] (fun l i wr => ∃ (k : Nat) (q : Int), k ≤ lj ∧ i = .int .i64 q ∧ q = (lj : Int) - 1 - (k : Int) ∧ Hid (wr.ownsRow 0 3 1 l k (flatI ((lAt L j).reverse.take k)) ∧ (∀ g, l.ownBlock = some g → wk.heap.size ≤ g) ∧ Below wk.heap.size wk wr)) (fun l i _ => (intOf i + 1).toNat)
      case atStart => exact ⟨0, _, Nat.zero_le _, rfl, by omega, Lib.hid ⟨⟨rfl, .inl ⟨rfl, rfl⟩⟩, fun g e => (by cases e), Below.refl _ _⟩⟩
      case round =>
        obtain ⟨k, q, hk, rfl, hq, HJ⟩ := hrel
        obtain ⟨wl, rfl⟩ : ∃ wl, wl = wr := ⟨_, rfl⟩
        by_cases hkl : k < lj
        · obtain ⟨u, hu⟩ : ∃ u : Nat, q = (u : Int) := ⟨q.toNat, by omega⟩
          subst hu
          obtain ⟨b1, o1, rfl, hc1⟩ := HIj.out.2 (by omega)
          have hul : u < lj := by omega
          obtain ⟨hj1, hj2, hj3⟩ := HJ.out
          have z0 := (hj3.cell (p := ⟨b1, o1 + u, none⟩) (lt_of_cell (hc1 u hul))).trans (hc1 u hul)
          have y1 := (hj3.cell (p := ⟨bo, oo + j, none⟩) (lt_of_cell y0)).trans y0
          obtain ⟨xv, hxv⟩ : ∃ xv, iAt (lAt L j) u = xv := ⟨_, rfl⟩
          rw [hxv] at z0
          obtain ⟨C5, c5, W5, r5, o5, k5, d5⟩ := app_int hj1 xv (by omega)
          have hbE := below_alloc_ wl (.cells #[.int .i64 xv] 3)
          have HN := Lib.hid (show W5.ownsRow 0 3 1 (.slice C5 (k + 1) c5) (k + 1) (flatI ((lAt L j).reverse.take (k + 1))) ∧ (∀ g, (Value.slice C5 (k + 1) c5).ownBlock = some g → wk.heap.size ≤ g) ∧ Below wk.heap.size wk W5 from by
            refine ⟨?_, fun g e => ?_, hj3.trans (k5.below hj3.size (fun i hi e => by have := hj2 i e; omega))⟩
            · have e1 : (lAt L j).reverse.take (k + 1) = (lAt L j).reverse.take k ++ [xv] := by
                rw [List.take_succ_eq_append_getElem (by rw [List.length_reverse, Hlj.out]; exact hkl), List.getElem_reverse, ← hxv, iAt_eq (by rw [Hlj.out]; exact hul)]
                congr 3
                rw [Hlj.out]
                omega
              rw [e1]
              exact o5
            · have := hj3.size
              rcases d5 g e with h9 | h9
              · exact hj2 g h9
              · omega)
          have i2 : (0 : Int) ≤ (u : Int) := by omega
          have i3 : (u : Int) < (lj : Int) := by omega
          have HK := Lib.hid (And.intro hkl hq)
          have k6 : IntKind.i64.wrap ((u : Int) - 1) = (u : Int) - 1 := IntWalk.i64_in _ (by omega)
          clear hc1 hj1 hj2 hj3 o5 k5 d5 hbE hxv hq HJ
          go_wp2_with fail
          go_roundw
          case rel => exact ⟨k + 1, _, by omega, rfl, by have := HK.out; omega, HN⟩
          case measure => first | (simp [intOf]; omega) | simp [intOf]
        · obtain rfl : k = lj := by omega
          have hq2 : ¬ (0 : Int) ≤ q := by omega
          have hq3 : q < 0 := by omega
          obtain ⟨hj1, hj2, hj3⟩ := HJ.out
          rw [List.take_of_length_le (by rw [List.length_reverse, Hlj.out]; exact Nat.le_refl _)] at hj1
          obtain ⟨C5, c5, C6, c6, W1, rfl, r1, hxy⟩ := HI.out.x hj3 hj1 hj2 Hlj.out (by omega)
          have hm1 := Nat.mod_lt (j + x2) (show 0 < m by omega)
          obtain ⟨rr, hrr⟩ : ∃ rr, (j + x2) % m = rr := ⟨_, rfl⟩
          obtain ⟨bo', oo', e, hcs⟩ := X.out.2 (by omega)
          cases e
          obtain ⟨Cr, cr, yr, hIr, hcr⟩ := hcs ((j + x2) % m) hm1
          obtain ⟨C7, c7, W2, r2, hxy2⟩ := hxy.y hIr hcr (by omega)
          have yr1 := (hxy.below.cell (p := ⟨bo, oo + (j + x2) % m, none⟩) (lt_of_cell yr)).trans yr
          rw [hrr] at yr1 r2 hm1
          have e4 : ((j : Int) + (x2 : Int)) % (m : Int) = (rr : Int) := by rw [← hrr]; exact (Int.natCast_emod (j + x2) m).symm
          have f4 : ((j : Int) + (x2 : Int)).tmod (m : Int) = (rr : Int) := by rw [Int.tmod_eq_emod_of_nonneg (by omega)]; exact e4
          have g4 : IntKind.i64.wrap (x2 : Int) = x2 := IntWalk.i64_in _ (by omega)
          have h4 : IntKind.i64.wrap ((j : Int) + (x2 : Int)) = (j : Int) + x2 := IntWalk.i64_in _ (by omega)
          have j4 : IntKind.i64.wrap (rr : Int) = rr := IntWalk.i64_in _ (by omega)
          have dm : ((m : Int) == 0) = false := by rw [beq_eq_false_iff_ne]; omega
          have i2 : (0 : Int) ≤ (rr : Int) := by omega
          have i3 : (rr : Int) < (m : Int) := by omega
          have HXY := Lib.hid hxy2
          clear hj1 hj2 hj3 hxy hrr hcs yr hIr hcr hxy2 HJ hq HI y0
          go_wp2_with fail
          go_roundw
          case rel => exact ⟨j + 1, by omega, by go_num, HXY⟩
          case measure => simp [intOf]; omega
    · obtain rfl : j = m := by omega
      obtain ⟨Cx, cx, Cy, cy, ex, ey, hx, hy, hb⟩ := HI.out.done
      subst ex ey
      obtain ⟨w3, rfl⟩ : ∃ w3, w3 = wk := ⟨_, rfl⟩
      replace S := Lib.hid (S.out.below hb (Nat.le_refl _))
      replace X := Lib.hid (X.out.below hb (Nat.le_refl _))
      replace B := Lib.hid (B.out.trans (hb.mono B.out.size))
      replace hrow := Lib.hid ((hb.block R (lt_of_block hrow.out)).trans hrow.out)
      have PX := Lib.hid hx
      have PY := Lib.hid hy
      clear hb hx hy HI hlt hj
      have rc : w3.cell? ⟨R, 0, none⟩ = some (.slice A n cap) := by rw [cell_row hrow.out]; rfl
      obtain ⟨q1, q2, q3, q4, q5, q6⟩ := turn_all (t := x2) Hck.out Hlen.out lh
      have KX := Lib.hid (reL_chk Hck.out Hlen.out)
      have KY := Lib.hid (roL_chk (t := x2) Hck.out Hlen.out (by omega))
      have HX := Lib.hid (lv_of (reL_len L j) KX.out)
      have Hrx := Lib.hid (show (lAt (reL L j) hh).length = (lAt L hh).length from by rw [reL_at L lh, List.length_reverse])
      have h08 := HLV.out.le8 hh lh
      obtain ⟨nm, hnm⟩ : ∃ nm, cls (prs zs) = nm := ⟨_, rfl⟩
      rw [hnm] at q1 q2 q3 q4 q5 q6
      have Hnm := Lib.hid hnm
      obtain ⟨K, hK⟩ : ∃ K, topK nm L j = K := ⟨_, rfl⟩
      rw [hK] at q1 q2
      have HK := Lib.hid hK
      obtain ⟨cn, hcn⟩ : ∃ cn, cntS (allK (mtS nm L) j) = cn := ⟨_, rfl⟩
      rw [hcn] at q3 q4
      have Hcn := Lib.hid hcn
      obtain ⟨gs, hgs⟩ : ∃ gs, grS nm L j hh = gs := ⟨_, rfl⟩
      rw [hgs] at q5 q6
      have Hgs := Lib.hid hgs
      obtain ⟨gr, hgr⟩ : ∃ gr, grS nm (reL L j) j hh = gr := ⟨_, rfl⟩
      rw [hgr] at q5
      have Hgr := Lib.hid hgr
      obtain ⟨gl, hgl⟩ : ∃ gl, (lAt L hh).length = gl := ⟨_, rfl⟩
      rw [hgl] at q5 Hrx h08
      have Hgl := Lib.hid hgl
      have Q1 := Lib.hid q1
      have Q2 := Lib.hid q2
      have Q3 := Lib.hid q3
      have Q4 := Lib.hid q4
      have Q5 := Lib.hid q5
      have Q6 := Lib.hid q6
      clear hnm hK hcn hgs hgr hgl q1 q2 q3 q4 q5 q6
      go_wp2_with fail
      refine (long44 A n cap zs (some ⟨bo, oo, none⟩) j cap2 L w3 S.out X.out Hck.out).mono ?_
      rintro en w4 ⟨rfl, hb⟩
      replace S := Lib.hid (S.out.below hb (Nat.le_refl _))
      replace X := Lib.hid (X.out.below hb (Nat.le_refl _))
      replace PX := Lib.hid (PX.out.below hb (Nat.le_refl _))
      replace PY := Lib.hid (PY.out.below hb (Nat.le_refl _))
      replace B := Lib.hid (B.out.trans (hb.mono B.out.size))
      replace hrow := Lib.hid ((hb.block R (lt_of_block hrow.out)).trans hrow.out)
      try clear rc
      rw [Hnm.out, HK.out]
      clear hb
      have rc : w4.cell? ⟨R, 0, none⟩ = some (.slice A n cap) := by rw [cell_row hrow.out]; rfl
      go_wp2_with fail
      refine (long44 A n cap zs Cx j cx (reL L j) w4 S.out PX.out KX.out).mono ?_
      rintro en w5 ⟨rfl, hb⟩
      replace S := Lib.hid (S.out.below hb (Nat.le_refl _))
      replace X := Lib.hid (X.out.below hb (Nat.le_refl _))
      replace PX := Lib.hid (PX.out.below hb (Nat.le_refl _))
      replace PY := Lib.hid (PY.out.below hb (Nat.le_refl _))
      replace B := Lib.hid (B.out.trans (hb.mono B.out.size))
      replace hrow := Lib.hid ((hb.block R (lt_of_block hrow.out)).trans hrow.out)
      try clear rc
      rw [Hnm.out, Q1.out]
      clear hb
      have rc : w5.cell? ⟨R, 0, none⟩ = some (.slice A n cap) := by rw [cell_row hrow.out]; rfl
      go_wp2_with fail
      refine (long44 A n cap zs Cy j cy (roL L j x2 j) w5 S.out PY.out KY.out).mono ?_
      rintro en w6 ⟨rfl, hb⟩
      replace S := Lib.hid (S.out.below hb (Nat.le_refl _))
      replace X := Lib.hid (X.out.below hb (Nat.le_refl _))
      replace PX := Lib.hid (PX.out.below hb (Nat.le_refl _))
      replace PY := Lib.hid (PY.out.below hb (Nat.le_refl _))
      replace B := Lib.hid (B.out.trans (hb.mono B.out.size))
      replace hrow := Lib.hid ((hb.block R (lt_of_block hrow.out)).trans hrow.out)
      try clear rc
      rw [Hnm.out, Q2.out]
      clear hb
      have rc : w6.cell? ⟨R, 0, none⟩ = some (.slice A n cap) := by rw [cell_row hrow.out]; rfl
      go_wp2_with fail
      refine (count34 A n cap zs (some ⟨bo, oo, none⟩) j cap2 L w6 S.out X.out (by omega)).mono ?_
      rintro en w7 ⟨hb, hor⟩
      replace S := Lib.hid (S.out.below hb (Nat.le_refl _))
      replace X := Lib.hid (X.out.below hb (Nat.le_refl _))
      replace PX := Lib.hid (PX.out.below hb (Nat.le_refl _))
      replace PY := Lib.hid (PY.out.below hb (Nat.le_refl _))
      replace B := Lib.hid (B.out.trans (hb.mono B.out.size))
      replace hrow := Lib.hid ((hb.block R (lt_of_block hrow.out)).trans hrow.out)
      try clear rc
      obtain ⟨-, rfl⟩ | ⟨h0, -⟩ := hor
      rotate_left
      · exact absurd Hck.out h0
      rw [Hnm.out, Hcn.out]
      clear hb
      have rc : w7.cell? ⟨R, 0, none⟩ = some (.slice A n cap) := by rw [cell_row hrow.out]; rfl
      go_wp2_with fail
      refine (count34 A n cap zs Cx j cx (reL L j) w7 S.out PX.out (by omega)).mono ?_
      rintro en w8 ⟨hb, hor⟩
      replace S := Lib.hid (S.out.below hb (Nat.le_refl _))
      replace X := Lib.hid (X.out.below hb (Nat.le_refl _))
      replace PX := Lib.hid (PX.out.below hb (Nat.le_refl _))
      replace PY := Lib.hid (PY.out.below hb (Nat.le_refl _))
      replace B := Lib.hid (B.out.trans (hb.mono B.out.size))
      replace hrow := Lib.hid ((hb.block R (lt_of_block hrow.out)).trans hrow.out)
      try clear rc
      obtain ⟨-, rfl⟩ | ⟨h0, -⟩ := hor
      rotate_left
      · exact absurd KX.out h0
      rw [Hnm.out, Q3.out]
      clear hb
      have rc : w8.cell? ⟨R, 0, none⟩ = some (.slice A n cap) := by rw [cell_row hrow.out]; rfl
      go_wp2_with fail
      refine (count34 A n cap zs Cy j cy (roL L j x2 j) w8 S.out PY.out (by omega)).mono ?_
      rintro en w9 ⟨hb, hor⟩
      replace S := Lib.hid (S.out.below hb (Nat.le_refl _))
      replace X := Lib.hid (X.out.below hb (Nat.le_refl _))
      replace PX := Lib.hid (PX.out.below hb (Nat.le_refl _))
      replace PY := Lib.hid (PY.out.below hb (Nat.le_refl _))
      replace B := Lib.hid (B.out.trans (hb.mono B.out.size))
      replace hrow := Lib.hid ((hb.block R (lt_of_block hrow.out)).trans hrow.out)
      try clear rc
      obtain ⟨-, rfl⟩ | ⟨h0, -⟩ := hor
      rotate_left
      · exact absurd KY.out h0
      rw [Hnm.out, Q4.out]
      clear hb
      have rc : w9.cell? ⟨R, 0, none⟩ = some (.slice A n cap) := by rw [cell_row hrow.out]; rfl
      go_wp2_with fail
      refine (grades38 A n cap zs (some ⟨bo, oo, none⟩) j cap2 L (hh : Int) w9 S.out X.out (by omega)).mono ?_
      rintro en w10 ⟨hb, hor⟩
      replace S := Lib.hid (S.out.below hb (Nat.le_refl _))
      replace X := Lib.hid (X.out.below hb (Nat.le_refl _))
      replace PX := Lib.hid (PX.out.below hb (Nat.le_refl _))
      replace PY := Lib.hid (PY.out.below hb (Nat.le_refl _))
      replace B := Lib.hid (B.out.trans (hb.mono B.out.size))
      replace hrow := Lib.hid ((hb.block R (lt_of_block hrow.out)).trans hrow.out)
      try clear rc
      obtain ⟨-, ⟨h', D0, d0, he, -, rfl, hg, -⟩ | ⟨hr, -⟩⟩ | ⟨h0, -⟩ := hor
      rotate_left
      · exact absurd (by omega) hr
      · exact absurd Hck.out h0
      obtain rfl : hh = h' := by omega
      clear he
      rw [Hnm.out, Hgs.out, Hgl.out] at hg
      rw [Hgl.out]
      have G0 := Lib.hid hg
      clear hg
      clear hb
      have rc : w10.cell? ⟨R, 0, none⟩ = some (.slice A n cap) := by rw [cell_row hrow.out]; rfl
      go_wp2_with fail
      refine (grades38 A n cap zs Cx j cx (reL L j) (hh : Int) w10 S.out PX.out (by omega)).mono ?_
      rintro en w11 ⟨hb, hor⟩
      replace S := Lib.hid (S.out.below hb (Nat.le_refl _))
      replace X := Lib.hid (X.out.below hb (Nat.le_refl _))
      replace PX := Lib.hid (PX.out.below hb (Nat.le_refl _))
      replace PY := Lib.hid (PY.out.below hb (Nat.le_refl _))
      replace G0 := Lib.hid (G0.out.below hb (Nat.le_refl _))
      replace B := Lib.hid (B.out.trans (hb.mono B.out.size))
      replace hrow := Lib.hid ((hb.block R (lt_of_block hrow.out)).trans hrow.out)
      try clear rc
      obtain ⟨-, ⟨h', D1, d1, he, -, rfl, hg, -⟩ | ⟨hr, -⟩⟩ | ⟨h0, -⟩ := hor
      rotate_left
      · exact absurd (by omega) hr
      · exact absurd KX.out h0
      obtain rfl : hh = h' := by omega
      clear he
      rw [Hnm.out, Hgr.out, Hrx.out] at hg
      rw [Hrx.out]
      have G1 := Lib.hid hg
      clear hg
      clear hb
      have rc : w11.cell? ⟨R, 0, none⟩ = some (.slice A n cap) := by rw [cell_row hrow.out]; rfl
      obtain ⟨tt, htt⟩ : ∃ tt, x2 % j = tt := ⟨_, rfl⟩
      have lt_ : tt < j := by rw [← htt]; exact Nat.mod_lt _ (by omega)
      have e4 : (x2 : Int) % (j : Int) = (tt : Int) := by rw [← htt]; exact (Int.natCast_emod x2 j).symm
      have f4 : (x2 : Int).tmod (j : Int) = (tt : Int) := by rw [Int.tmod_eq_emod_of_nonneg (by omega)]; exact e4
      have g4 : IntKind.i64.wrap (x2 : Int) = x2 := IntWalk.i64_in _ (by omega)
      have j4 : IntKind.i64.wrap (tt : Int) = tt := IntWalk.i64_in _ (by omega)
      have dm : ((j : Int) == 0) = false := by rw [beq_eq_false_iff_ne]; omega
      obtain ⟨h2', hh2⟩ : ∃ h2', (hh + (j - tt)) % j = h2' := ⟨_, rfl⟩
      have l2 : h2' < j := by rw [← hh2]; exact Nat.mod_lt _ (by omega)
      obtain ⟨sv, hsv⟩ : ∃ sv : Int, (hh : Int) - (tt : Int) = sv := ⟨_, rfl⟩
      have e5 : (sv + (j : Int)) % (j : Int) = (h2' : Int) := by rw [← hh2, Int.natCast_emod]; congr 1; omega
      have f5 : (sv + (j : Int)).tmod (j : Int) = (h2' : Int) := by rw [Int.tmod_eq_emod_of_nonneg (by omega)]; exact e5
      have g5 : IntKind.i64.wrap ((hh : Int) - (tt : Int)) = sv := by rw [hsv]; exact IntWalk.i64_in _ (by omega)
      have h5 : IntKind.i64.wrap (sv + (j : Int)) = sv + j := IntWalk.i64_in _ (by omega)
      have hj0 : ¬ j = 0 := by omega
      have g6 : IntKind.i64.wrap sv = sv := by rw [← hsv]; exact IntWalk.i64_in _ (by omega)
      have j5 : IntKind.i64.wrap (h2' : Int) = h2' := IntWalk.i64_in _ (by omega)
      have q6 := Q6.out
      rw [htt, hh2] at q6
      have HQ6 := Lib.hid q6
      have HlY := Lib.hid (show (lAt (roL L j x2 j) h2').length = gl from by rw [← grS_len (nm := nm) (L := roL L j x2 j) (m := j) h2', q6, ← Hgs.out, grS_len, Hgl.out])
      clear q6 hh2 htt
      go_upto_region 23 with fail
      refine wp_region_held_drew (S := fun w2 => Below w11.heap.size w11 w2) (by kernel_rfl) (drew_b _ _) (fun hS0 => ?_)
      refine wpAnyH_take (i := 0) (oi := { dst := some 139, op := Go.Op.load 24 (Go.Operand.tmp 4), type := 24, pos := "outright.go:166", after := #[], guard := none }) (v := .agg #[.slice A n cap]) rfl (by kernel_rfl) (by kernel_rfl) (by kernel_rfl) (fun _ _ _ h => h) (Or.inl ⟨by rfl, by intro w2 hSw; (try dsimp only at hSw); have e0 := (hSw.cell (p := _) (lt_of_cell rc)).trans rc; go_simp⟩) hS0 ?_
      try simp only [Act.put, List.setIfInBounds_toArray, List.set_cons_zero, List.set_cons_succ]
      refine wpAnyH_take (i := 1) (oi := { dst := some 140, op := Go.Op.move (Go.Operand.tmp 12), type := 25, pos := "outright.go:166", after := #[], guard := none }) (v := .slice Cy j cy) rfl (by kernel_rfl) (by kernel_rfl) (by kernel_rfl) (fun _ _ _ h => h) (Or.inl ⟨by rfl, by intro w2 hSw; (try dsimp only at hSw); go_simp⟩) hS0 ?_
      try simp only [Act.put, List.setIfInBounds_toArray, List.set_cons_zero, List.set_cons_succ]
      refine wpAnyH_take (i := 2) (oi := { dst := some 141, op := Go.Op.move (Go.Operand.tmp 10), type := 3, pos := "outright.go:166", after := #[], guard := none }) (v := .int .i64 (hh : Int)) rfl (by kernel_rfl) (by kernel_rfl) (by kernel_rfl) (fun _ _ _ h => h) (Or.inl ⟨by rfl, by intro w2 hSw; (try dsimp only at hSw); go_simp⟩) hS0 ?_
      try simp only [Act.put, List.setIfInBounds_toArray, List.set_cons_zero, List.set_cons_succ]
      refine wpAnyH_take (i := 3) (oi := { dst := some 142, op := Go.Op.move (Go.Operand.tmp 2), type := 5, pos := "outright.go:166", after := #[], guard := none }) (v := .int .u8 (x2 : Int)) rfl (by kernel_rfl) (by kernel_rfl) (by kernel_rfl) (fun _ _ _ h => h) (Or.inl ⟨by rfl, by intro w2 hSw; (try dsimp only at hSw); go_simp⟩) hS0 ?_
      try simp only [Act.put, List.setIfInBounds_toArray, List.set_cons_zero, List.set_cons_succ]
      refine wpAnyH_take (i := 4) (oi := { dst := some 143, op := Go.Op.convert 5 3 (Go.Operand.tmp 142), type := 3, pos := "outright.go:166", after := #[{ on := 3, ground := Go.Ground.data }], guard := none }) (v := .int .i64 (x2 : Int)) rfl (by kernel_rfl) (by kernel_rfl) (by kernel_rfl) (fun _ _ _ h => h) (Or.inl ⟨by rfl, by intro w2 hSw; (try dsimp only at hSw); go_simp⟩) hS0 ?_
      try simp only [Act.put, List.setIfInBounds_toArray, List.set_cons_zero, List.set_cons_succ]
      refine wpAnyH_take (i := 5) (oi := { dst := some 144, op := Go.Op.move (Go.Operand.tmp 9), type := 3, pos := "outright.go:166", after := #[], guard := none }) (v := .int .i64 (j : Int)) rfl (by kernel_rfl) (by kernel_rfl) (by kernel_rfl) (fun _ _ _ h => h) (Or.inl ⟨by rfl, by intro w2 hSw; (try dsimp only at hSw); go_simp⟩) hS0 ?_
      try simp only [Act.put, List.setIfInBounds_toArray, List.set_cons_zero, List.set_cons_succ]
      refine wpAnyH_take (i := 6) (oi := { dst := some 145, op := Go.Op.binOp Go.BinOp.rem 3 (Go.Operand.tmp 143) (Go.Operand.tmp 144) 3, type := 3, pos := "outright.go:166", after := #[{ on := 4, ground := Go.Ground.data }, { on := 5, ground := Go.Ground.data }], guard := none }) (v := .int .i64 (tt : Int)) rfl (by kernel_rfl) (by kernel_rfl) (by kernel_rfl) (fun _ _ _ h => h) (Or.inl ⟨by rfl, by intro w2 hSw; (try dsimp only at hSw); go_simp⟩) hS0 ?_
      try simp only [Act.put, List.setIfInBounds_toArray, List.set_cons_zero, List.set_cons_succ]
      refine wpAnyH_take (i := 7) (oi := { dst := some 146, op := Go.Op.binOp Go.BinOp.sub 3 (Go.Operand.tmp 141) (Go.Operand.tmp 145) 3, type := 3, pos := "outright.go:166", after := #[{ on := 2, ground := Go.Ground.data }, { on := 6, ground := Go.Ground.data }], guard := none }) (v := .int .i64 sv) rfl (by kernel_rfl) (by kernel_rfl) (by kernel_rfl) (fun _ _ _ h => h) (Or.inl ⟨by rfl, by intro w2 hSw; (try dsimp only at hSw); go_simp⟩) hS0 ?_
      try simp only [Act.put, List.setIfInBounds_toArray, List.set_cons_zero, List.set_cons_succ]
      refine wpAnyH_take (i := 8) (oi := { dst := some 147, op := Go.Op.move (Go.Operand.tmp 9), type := 3, pos := "outright.go:166", after := #[], guard := none }) (v := .int .i64 (j : Int)) rfl (by kernel_rfl) (by kernel_rfl) (by kernel_rfl) (fun _ _ _ h => h) (Or.inl ⟨by rfl, by intro w2 hSw; (try dsimp only at hSw); go_simp⟩) hS0 ?_
      try simp only [Act.put, List.setIfInBounds_toArray, List.set_cons_zero, List.set_cons_succ]
      refine wpAnyH_take (i := 9) (oi := { dst := some 148, op := Go.Op.binOp Go.BinOp.add 3 (Go.Operand.tmp 146) (Go.Operand.tmp 147) 3, type := 3, pos := "outright.go:166", after := #[{ on := 7, ground := Go.Ground.data }, { on := 8, ground := Go.Ground.data }], guard := none }) (v := .int .i64 (sv + (j : Int))) rfl (by kernel_rfl) (by kernel_rfl) (by kernel_rfl) (fun _ _ _ h => h) (Or.inl ⟨by rfl, by intro w2 hSw; (try dsimp only at hSw); go_simp⟩) hS0 ?_
      try simp only [Act.put, List.setIfInBounds_toArray, List.set_cons_zero, List.set_cons_succ]
      refine wpAnyH_take (i := 10) (oi := { dst := some 149, op := Go.Op.move (Go.Operand.tmp 9), type := 3, pos := "outright.go:166", after := #[], guard := none }) (v := .int .i64 (j : Int)) rfl (by kernel_rfl) (by kernel_rfl) (by kernel_rfl) (fun _ _ _ h => h) (Or.inl ⟨by rfl, by intro w2 hSw; (try dsimp only at hSw); go_simp⟩) hS0 ?_
      try simp only [Act.put, List.setIfInBounds_toArray, List.set_cons_zero, List.set_cons_succ]
      refine wpAnyH_take (i := 11) (oi := { dst := some 150, op := Go.Op.binOp Go.BinOp.rem 3 (Go.Operand.tmp 148) (Go.Operand.tmp 149) 3, type := 3, pos := "outright.go:166", after := #[{ on := 9, ground := Go.Ground.data }, { on := 10, ground := Go.Ground.data }], guard := none }) (v := .int .i64 (h2' : Int)) rfl (by kernel_rfl) (by kernel_rfl) (by kernel_rfl) (fun _ _ _ h => h) (Or.inl ⟨by rfl, by intro w2 hSw; (try dsimp only at hSw); go_simp⟩) hS0 ?_
      try simp only [Act.put, List.setIfInBounds_toArray, List.set_cons_zero, List.set_cons_succ]
      refine wpAnyH_ready (rs := [12]) (by kernel_rfl) (by simp) ?_
      refine AllReadyH.cons (o := { dst := some 151, op := Go.Op.call { callee := Go.Callee.value (Go.Operand.func 38), args := #[Go.Operand.tmp 139, Go.Operand.tmp 140, Go.Operand.tmp 150], argTypes := #[24, 25, 3] }, type := 41, pos := "outright.go:166", after := #[{ on := 0, ground := Go.Ground.data }, { on := 1, ground := Go.Ground.data }, { on := 11, ground := Go.Ground.data }], guard := none }) rfl (fun K2 hK => ?_) AllReadyH.nil
      go_simp
      refine (grades38 A n cap zs Cy j cy (roL L j x2 j) (h2' : Int) _ (S.out.below hS0 (Nat.le_refl _)) (PY.out.below hS0 (Nat.le_refl _)) (by omega)).mono ?_
      rintro e9 V1 ⟨hb9, hor⟩
      obtain ⟨-, ⟨h', D2, d2, he, -, rfl, hg, -⟩ | ⟨hr, -⟩⟩ | ⟨h0, -⟩ := hor
      rotate_left
      · exact absurd (by omega) hr
      · exact absurd KY.out h0
      obtain rfl : h2' = h' := by omega
      clear he
      rw [Hnm.out, HQ6.out, HlY.out] at hg
      rw [HlY.out]
      have G2 := Lib.hid hg
      clear hg
      (try go_simp)
      refine hK.out _ _ (hS0.trans (hb9.mono hS0.size)) (fun hS1 => ?_)
      clear hK K2 hb9
      try simp only [Act.put, List.setIfInBounds_toArray, List.set_cons_zero, List.set_cons_succ]
      refine wpAnyH_take (i := 13) (oi := { dst := some 138, op := Go.Op.move (Go.Operand.tmp 151), type := 41, pos := "outright.go:166", after := #[{ on := 12, ground := Go.Ground.data }], guard := none }) (v := .tuple #[.slice D2 gl d2, .int .i64 0]) rfl (by kernel_rfl) (by kernel_rfl) (by kernel_rfl) (fun _ _ _ h => h) (Or.inl ⟨by rfl, by intro w2 hSw; (try dsimp only at hSw); go_simp⟩) hS1 ?_
      try simp only [Act.put, List.setIfInBounds_toArray, List.set_cons_zero, List.set_cons_succ]
      refine wpAnyH_take (i := 14) (oi := { dst := some 152, op := Go.Op.extract (Go.Operand.tmp 138) 0, type := 38, pos := "outright.go:166", after := #[{ on := 13, ground := Go.Ground.data }], guard := none }) (v := .slice D2 gl d2) rfl (by kernel_rfl) (by kernel_rfl) (by kernel_rfl) (fun _ _ _ h => h) (Or.inl ⟨by rfl, by intro w2 hSw; (try dsimp only at hSw); go_simp⟩) hS1 ?_
      try simp only [Act.put, List.setIfInBounds_toArray, List.set_cons_zero, List.set_cons_succ]
      refine wpAnyH_take (i := 15) (oi := { dst := some 153, op := Go.Op.extract (Go.Operand.tmp 138) 1, type := 28, pos := "outright.go:166", after := #[{ on := 13, ground := Go.Ground.data }, { on := 16, ground := Go.Ground.gcOnly Go.Departure.lateStores }], guard := none }) (v := .int .i64 0) rfl (by kernel_rfl) (by kernel_rfl) (by kernel_rfl) (fun _ _ _ h => h) (Or.inl ⟨by rfl, by intro w2 hSw; (try dsimp only at hSw); go_simp⟩) hS1 ?_
      try simp only [Act.put, List.setIfInBounds_toArray, List.set_cons_zero, List.set_cons_succ]
      refine wpAnyH_take (i := 16) (oi := { dst := some 32, op := Go.Op.assign (Go.Operand.tmp 152), type := 38, pos := "outright.go:166", after := #[{ on := 14, ground := Go.Ground.data }, { on := 12, ground := Go.Ground.chain }, { on := 0, ground := Go.Ground.phase }, { on := 1, ground := Go.Ground.phase }, { on := 2, ground := Go.Ground.phase }, { on := 3, ground := Go.Ground.phase }, { on := 4, ground := Go.Ground.phase }, { on := 5, ground := Go.Ground.phase }, { on := 6, ground := Go.Ground.phase }, { on := 7, ground := Go.Ground.phase }, { on := 8, ground := Go.Ground.phase }, { on := 9, ground := Go.Ground.phase }, { on := 10, ground := Go.Ground.phase }, { on := 11, ground := Go.Ground.phase }, { on := 12, ground := Go.Ground.phase }, { on := 13, ground := Go.Ground.phase }, { on := 14, ground := Go.Ground.phase }, { on := 15, ground := Go.Ground.textOnly Go.Departure.lateStores }], guard := none }) (v := .slice D2 gl d2) rfl (by kernel_rfl) (by kernel_rfl) (by kernel_rfl) (fun _ _ _ h => h) (Or.inl ⟨by rfl, by intro w2 hSw; (try dsimp only at hSw); go_simp⟩) hS1 ?_
      try simp only [Act.put, List.setIfInBounds_toArray, List.set_cons_zero, List.set_cons_succ]
      refine wpAnyH_take (i := 17) (oi := { dst := some 33, op := Go.Op.assign (Go.Operand.tmp 153), type := 28, pos := "outright.go:166", after := #[{ on := 15, ground := Go.Ground.data }, { on := 16, ground := Go.Ground.chain }, { on := 0, ground := Go.Ground.phase }, { on := 1, ground := Go.Ground.phase }, { on := 2, ground := Go.Ground.phase }, { on := 3, ground := Go.Ground.phase }, { on := 4, ground := Go.Ground.phase }, { on := 5, ground := Go.Ground.phase }, { on := 6, ground := Go.Ground.phase }, { on := 7, ground := Go.Ground.phase }, { on := 8, ground := Go.Ground.phase }, { on := 9, ground := Go.Ground.phase }, { on := 10, ground := Go.Ground.phase }, { on := 11, ground := Go.Ground.phase }, { on := 12, ground := Go.Ground.phase }, { on := 13, ground := Go.Ground.phase }, { on := 14, ground := Go.Ground.phase }, { on := 15, ground := Go.Ground.phase }, { on := 16, ground := Go.Ground.phase }], guard := none }) (v := .int .i64 0) rfl (by kernel_rfl) (by kernel_rfl) (by kernel_rfl) (fun _ _ _ h => h) (Or.inl ⟨by rfl, by intro w2 hSw; (try dsimp only at hSw); go_simp⟩) hS1 ?_
      try simp only [Act.put, List.setIfInBounds_toArray, List.set_cons_zero, List.set_cons_succ]
      refine wpAnyH_done (by kernel_rfl) ?_ _
      have hb := hS1
      clear rc hS0 hS1 e4 f4 g4 j4 dm e5 f5 g5 h5 j5
      obtain ⟨w12, rfl⟩ : ∃ w12, w12 = V1 := ⟨_, rfl⟩
      replace S := Lib.hid (S.out.below hb (Nat.le_refl _))
      replace X := Lib.hid (X.out.below hb (Nat.le_refl _))
      replace PX := Lib.hid (PX.out.below hb (Nat.le_refl _))
      replace PY := Lib.hid (PY.out.below hb (Nat.le_refl _))
      replace G0 := Lib.hid (G0.out.below hb (Nat.le_refl _))
      replace G1 := Lib.hid (G1.out.below hb (Nat.le_refl _))
      replace B := Lib.hid (B.out.trans (hb.mono B.out.size))
      replace hrow := Lib.hid ((hb.block R (lt_of_block hrow.out)).trans hrow.out)
      clear hb
      try simp only [List.append, List.nil_append, List.cons_append]
      have rc : w12.cell? ⟨R, 0, none⟩ = some (.slice A n cap) := by rw [cell_row hrow.out]; rfl
      go_wp2_with fail
      refine (ints31 D0 gl d0 gs D2 gl d2 gs w12 G0.out G2.out (by omega)).mono ?_
      rintro en w13 ⟨rfl, hb⟩
      replace S := Lib.hid (S.out.below hb (Nat.le_refl _))
      replace X := Lib.hid (X.out.below hb (Nat.le_refl _))
      replace PX := Lib.hid (PX.out.below hb (Nat.le_refl _))
      replace PY := Lib.hid (PY.out.below hb (Nat.le_refl _))
      replace G0 := Lib.hid (G0.out.below hb (Nat.le_refl _))
      replace G1 := Lib.hid (G1.out.below hb (Nat.le_refl _))
      replace G2 := Lib.hid (G2.out.below hb (Nat.le_refl _))
      replace B := Lib.hid (B.out.trans (hb.mono B.out.size))
      replace hrow := Lib.hid ((hb.block R (lt_of_block hrow.out)).trans hrow.out)
      try clear rc
      rw [decide_eq_true (rfl : gs = gs)]
      clear hb
      have rc : w13.cell? ⟨R, 0, none⟩ = some (.slice A n cap) := by rw [cell_row hrow.out]; rfl
      go_wp2_with fail
      go_loopw [34] (fun i wr => ∃ k : Nat, k ≤ gl ∧ i = .int .i64 (k : Int) ∧ Hid (Below w13.heap.size w13 wr)) (fun i _ => gl - (intOf i).toNat)
      case atStart => exact ⟨0, Nat.zero_le _, rfl, Lib.hid (Below.refl _ _)⟩
      case round =>
        obtain ⟨k, hk, rfl, HBl⟩ := hrel
        obtain ⟨wk, rfl⟩ : ∃ wk, wk = wr := ⟨_, rfl⟩
        by_cases hlt : k < gl
        · obtain ⟨b1, o1, rfl, hc1⟩ := (G0.out.below HBl.out (Nat.le_refl _)).2 (by omega)
          obtain ⟨b2, o2, rfl, hc2⟩ := (G1.out.below HBl.out (Nat.le_refl _)).2 (by omega)
          obtain ⟨u, hu⟩ : ∃ u : Nat, u = gl - 1 - k := ⟨_, rfl⟩
          have x0 := hc1 k hlt
          have y0 := hc2 u (by omega)
          have h3 := Q5.out k hlt
          rw [← hu] at h3
          rw [h3] at y0
          obtain ⟨xv, hxv⟩ : ∃ xv, iAt gs k = xv := ⟨_, rfl⟩
          rw [hxv] at x0 y0
          have qx : ∀ n9, (wk.drewN n9).cell? ⟨b1, o1 + k, none⟩ = some (.int .i64 xv) := fun n9 => x0
          have qy : ∀ n9, (wk.drewN n9).cell? ⟨b2, o2 + u, none⟩ = some (.int .i64 xv) := fun n9 => y0
          have i0 : (0 : Int) ≤ (k : Int) := by omega
          have i1 : (k : Int) < (gl : Int) := by omega
          have i2 : (0 : Int) ≤ (u : Int) := by omega
          have i3 : (u : Int) < (gl : Int) := by omega
          have k1 : IntKind.i64.wrap ((gl : Int) - 1) = (gl : Int) - 1 := IntWalk.i64_in _ (by omega)
          have k2 : IntKind.i64.wrap ((gl : Int) - 1 - (k : Int)) = (u : Int) := by rw [show (gl : Int) - 1 - (k : Int) = (u : Int) by omega]; exact IntWalk.i64_in _ (by omega)
          clear hc1 hc2 h3 hxv hu
          go_wp2_with fail
          go_quiet (fail)
          have HN := Lib.hid (HBl.out.trans ((drew_b wk nq).mono HBl.out.size))
          go_wp2_with fail
          go_roundw
          case rel => exact ⟨k + 1, by omega, by go_num, HN⟩
          case measure => simp [intOf]; omega
        · obtain rfl : k = gl := by omega
          replace B := Lib.hid (B.out.trans (HBl.out.mono B.out.size))
          go_wp2_with fail
          refine (works14 wk).mono ?_
          rintro en w99 ⟨rfl, hb⟩
          replace B := Lib.hid (B.out.trans (hb.mono B.out.size))
          clear hb
          go_wp2_with fail
          go_ret
          exact ⟨rfl, B.out⟩
end
end Go.Proofs.Ythdjbapidodlfaa
