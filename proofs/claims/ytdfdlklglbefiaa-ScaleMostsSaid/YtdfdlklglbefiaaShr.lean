/- Stage 3: Share. -/
import Derived.Test.YtdfdlklglbefiaaWho
import Derived.Laws.ResultCell
import Derived.Deep.RegionWith
import Derived.Deep.Cut
import Derived.Deep.CutRange
namespace Go.Proofs.Ytdfdlklglbefiaa
set_option linter.unusedSimpArgs false
set_option linter.unusedVariables false
open Go.RowKit Go.Shelf Go.Sort
attribute [local go_sem] Oper.semAt_some

/-- How many steps a short scale has. -/
def LenU (zs : List Rg) (a : Nat) : Prop := ∃ gs, IsG gs zs ∧ gs.length = a
theorem lenU_of {zs : List Rg} (ho : Ok zs) {ys : List Tn} (h : GoodO (plE true) (tnOf zs) zs.length ys) : LenU zs (grE true [] ys).length := ⟨_, (up_short ho h).1, by simp⟩
/-- What Share tells. -/
def SrR (zs : List Rg) (i k : Int) (may must : Bool) (e : Int) : Prop :=
  (chkS zs ≠ 0 ∧ e = chkS zs ∧ may = false ∧ must = false) ∨
  (chkS zs = 0 ∧ withI 0 ((zs.length : Int) - 1) [i, k] = false ∧ e = 3 ∧ may = false ∧ must = false) ∨
  (chkS zs = 0 ∧ withI 0 ((zs.length : Int) - 1) [i, k] = true ∧ okZ (comm (gAt zs i.toNat) (gAt zs k.toNat)) = false ∧ e = 0 ∧ may = false ∧ must = false) ∨
  (chkS zs = 0 ∧ withI 0 ((zs.length : Int) - 1) [i, k] = true ∧ okZ (comm (gAt zs i.toNat) (gAt zs k.toNat)) = true ∧ e = 0 ∧
    ∃ a b, LenU zs a ∧ LenU (zs.set i.toNat (comm (gAt zs i.toNat) (gAt zs k.toNat))) b ∧ may = decide (b = a) ∧
      ((validZ (zs.map (woR (comm (gAt zs i.toNat) (gAt zs k.toNat)))) = false ∧ must = true) ∨
       (validZ (zs.map (woR (comm (gAt zs i.toNat) (gAt zs k.toNat)))) = true ∧ ∃ c, LenU (zs.map (woR (comm (gAt zs i.toNat) (gAt zs k.toNat)))) c ∧ must = decide (a < c))))
def SrPost (zs : List Rg) (i k : Int) (w : World) (en : Ending) (w' : World) : Prop :=
  Below w.heap.size w w' ∧ ∃ may must e, SrR zs i k may must e ∧ en = .returned (.tuple #[.agg #[.bool may, .bool must], .int .i64 e])
theorem res30 {tmps : Array Value} {W : World} {Z : Nat} {a b : Bool} {e : Int} (h6 : tmps.getD 6 undef = .pointer (some ⟨Z, 0, none⟩)) (h7 : tmps.getD 7 undef = .int .i64 e) (hZ : W.heap[Z]? = some (.cells #[.bool a, .bool b] 43 (0, 0))) :
    (results Try.f30 tmps).run Try.prog W = .ok (.tuple #[.agg #[.bool a, .bool b], .int .i64 e]) W := by
  have z0 : W.cell? ⟨Z, 0, none⟩ = some (.bool a) := by rw [cell_row hZ]; rfl
  have z1 : W.cell? ⟨Z, 1, none⟩ = some (.bool b) := by rw [cell_row hZ]; rfl
  rw [results_cell_tmp Try.results30, h6, h7]
  simp [go_sem, z0, z1]
theorem rgs_one {W : World} {Z : Nat} {g : Rg} {t : TypeId} (h : W.heap[Z]? = some (.cells #[.int .i64 g.lo, .int .i64 g.hi] t (0, 0))) : Rgs W (some ⟨Z, 0, none⟩) 1 [g] :=
  ⟨rfl, fun _ => ⟨Z, 0, rfl, fun j hj => by
    obtain rfl : j = 0 := by omega
    rw [cell_row h, cell_row h]
    exact ⟨rfl, rfl⟩⟩⟩
theorem validZ_one (g : Rg) : validZ [g] = okZ g := by simp [validZ]
theorem RowR.fz {W : World} {S : Nat} {ys : List Rg} (h : RowR W S ys) (q : Nat) : W.frozen? ⟨S, q, none⟩ = false := by
  obtain ⟨rest, h⟩ := h
  exact frozen_row h
theorem Rgs.keep {W W' : World} {A : Option Addr} {n : Nat} {zs : List Rg} {Mut : Nat → Prop} (h : Rgs W A n zs) (hK : Keeps Mut W W') (hm : ∀ b o, A = some ⟨b, o, none⟩ → ¬ Mut b) : Rgs W' A n zs := by
  refine ⟨h.1, fun hn => ?_⟩
  obtain ⟨b, o, e, hc⟩ := h.2 hn
  have hl := lt_of_cell (hc 0 hn).1
  exact ⟨b, o, e, fun j hj => ⟨(keep_cells hK hl (hm _ _ e) _).trans (hc j hj).1, (keep_cells hK hl (hm _ _ e) _).trans (hc j hj).2⟩⟩
theorem withI_two {lo hi a b : Int} (h : withI lo hi [a, b] = true) : (lo ≤ a ∧ a ≤ hi) ∧ lo ≤ b ∧ b ≤ hi := by
  simpa [withI, inB] using h
set_option maxRecDepth 100000 in
set_option maxHeartbeats 4000000 in
theorem share30 (A : Option Addr) (n cap : Nat) (zs : List Rg) (i k : Int) (w : World) (h : Rgs w A n zs) :
    Calls Try.prog 30 #[.slice A n cap, .int .i64 i, .int .i64 k] w (SrPost zs i k w) := by
  have Hn := Lib.hid h.1
  have hb0 := below_alloc_ w (.cells #[.bool false, .bool false] 43)
  have hc0 := heap_alloc_new_ w (.cells #[.bool false, .bool false] 43)
  obtain ⟨W0, hW0⟩ : ∃ W0, w.alloc (.cells #[.bool false, .bool false] 43) = W0 := ⟨_, rfl⟩
  rw [hW0] at hb0 hc0
  have h' := h.below hb0 (Nat.le_refl _)
  have Hb0 := Lib.hid hb0
  have Hc0 := Lib.hid hc0
  have HW0 := Lib.hid hW0
  have H' := Lib.hid h'
  clear h hb0 hc0 hW0 h'
  go_enter Try.func30, Try.ntmps30
  go_wp2_with fail
  rw [HW0.out]
  obtain ⟨Z, hZ⟩ : ∃ Z, w.heap.size = Z := ⟨_, rfl⟩
  have Hc : Hid (W0.heap[Z]? = some (.cells #[.bool false, .bool false] 43 (0, 0))) := Lib.hid (by rw [← hZ]; exact Hc0.out)
  have HZ := Lib.hid hZ
  rw [hZ]
  clear HW0 Hc0 hZ
  refine (lay46 A n cap zs W0 H'.out).mono ?_
  rintro e w1 ⟨hb, ⟨h0, B, C, cp, rfl, hB, hC, hd⟩ | ⟨h0, rfl⟩⟩
  · have Hd := Lib.hid hd
    have Hb := Lib.hid hb
    have HBs := Lib.hid hB
    have H0 := Lib.hid h0
    have Hch := Lib.hid (chkS_zero.1 h0)
    have HA := Lib.hid (H'.out.below hb (Nat.le_refl _))
    have HcA := Lib.hid ((hb.block _ (lt_of_block Hc.out)).trans Hc.out)
    have z0 : w1.cell? ⟨Z, 0, none⟩ = some (.bool false) := by rw [cell_row HcA.out]; rfl
    have z1 : w1.cell? ⟨Z, 1, none⟩ = some (.bool false) := by rw [cell_row HcA.out]; rfl
    have zf0 : w1.frozen? ⟨Z, 0, none⟩ = false := frozen_row HcA.out
    have zf1 : w1.frozen? ⟨Z, 1, none⟩ = false := frozen_row HcA.out
    have hZl := lt_of_block HcA.out
    have n24 : n ≤ 24 := by have := Hch.out.2.1; have := Hn.out; omega
    have n1 : 1 ≤ n := by have := Hch.out.1; have := Hn.out; omega
    clear hb hd hC hB h0
    go_wp2_with fail
    have hb2 := below_alloc_ w1 (.cells #[.int .i64 i, .int .i64 k] 3)
    have hi2 := ints_two (heap_alloc_new_ w1 (.cells #[.int .i64 i, .int .i64 k] 3))
    obtain ⟨w2, hw2⟩ : ∃ w2, w1.alloc (.cells #[.int .i64 i, .int .i64 k] 3) = w2 := ⟨_, rfl⟩
    rw [hw2] at hb2 hi2 ⊢
    clear hw2
    refine (within42 (some ⟨w1.heap.size, 0, none⟩) 2 2 [i, k] 0 ((n : Int) - 1) w2 hi2 (by omega)).mono ?_
    rintro e W ⟨rfl, hW⟩
    obtain rfl : W = w2 := hW
    have Hb2 := Lib.hid hb2
    have HcB := Lib.hid ((hb2.block _ hZl).trans HcA.out)
    have hZ2 := lt_of_block HcB.out
    have y0 : W.cell? ⟨Z, 0, none⟩ = some (.bool false) := by rw [cell_row HcB.out]; rfl
    have y1 : W.cell? ⟨Z, 1, none⟩ = some (.bool false) := by rw [cell_row HcB.out]; rfl
    have yf0 : W.frozen? ⟨Z, 0, none⟩ = false := frozen_row HcB.out
    have yf1 : W.frozen? ⟨Z, 1, none⟩ = false := frozen_row HcB.out
    clear z0 z1 zf0 zf1 hi2 hb2
    cases hw : withI 0 ((n : Int) - 1) [i, k] with
    | false =>
      have Hw := Lib.hid hw
      clear hw
      go_wp2_with fail
      have hV := set_same 1 (.bool false) (set_same 0 (.bool false) HcB.out)
      have hKV := (keeps_setCell W Z 0 (.bool false)).trans (keeps_setCell _ Z 1 (.bool false))
      obtain ⟨V, hVe⟩ : ∃ V, (W.setCell ⟨Z, 0, none⟩ (.bool false)).setCell ⟨Z, 1, none⟩ (.bool false) = V := ⟨_, rfl⟩
      rw [hVe] at hV hKV ⊢
      have hB9 : Below w.heap.size w V := Hb0.out.trans (((Hb.out.trans (Hb2.out.mono Hb.out.size)).mono Hb0.out.size).trans (hKV.below (Nat.le_trans Hb0.out.size (Nat.le_trans Hb.out.size Hb2.out.size)) (fun k hk e => by have := HZ.out; omega)))
      refine bodyPost_ret (v := .tuple #[.agg #[.bool false, .bool false], .int .i64 3]) (res30 (by rfl) (by rfl) hV) rfl ?_
      exact ⟨hB9, false, false, 3, .inr (.inl ⟨H0.out, by rw [Hn.out]; exact Hw.out, rfl, rfl, rfl⟩), rfl⟩
    | true =>
      have Hw := Lib.hid hw
      have hr := withI_two hw
      obtain ⟨⟨a0, a1⟩, b0, b1⟩ := hr
      obtain ⟨p, rfl⟩ : ∃ p : Nat, i = (p : Int) := ⟨i.toNat, by omega⟩
      obtain ⟨q, rfl⟩ : ∃ q : Nat, k = (q : Int) := ⟨k.toNat, by omega⟩
      have i1 : (p : Int) < (n : Int) := by omega
      have k1 : (q : Int) < (n : Int) := by omega
      have dp : (p : Int).toNat = p := by omega
      have dq : (q : Int).toNat = q := by omega
      obtain ⟨ba, oa, eA, hcA⟩ := (HA.out.below Hb2.out (Nat.le_refl _)).2 (by omega)
      obtain ⟨x0, x1⟩ := hcA p (by omega)
      obtain ⟨u0, u1⟩ := hcA q (by omega)
      subst eA
      have hbaL := lt_of_cell x0
      clear hcA hw a1 b1
      obtain ⟨g1, hg1⟩ : ∃ g, gAt zs p = g := ⟨_, rfl⟩
      obtain ⟨g2, hg2⟩ : ∃ g, gAt zs q = g := ⟨_, rfl⟩
      rw [hg1] at x0 x1
      rw [hg2] at u0 u1
      have Hg1 := Lib.hid hg1
      have Hg2 := Lib.hid hg2
      clear hg1 hg2
      have hcm := fun W => common45 g1 g2 W
      obtain ⟨g3, hg3⟩ : ∃ g3, comm g1 g2 = g3 := ⟨_, rfl⟩
      rw [hg3] at hcm
      have Hg3 := Lib.hid hg3
      clear hg3
      go_wp2_with fail
      go_cut [10] from 32 to 40 (fun v10 wx => ∃ P : Nat, v10 = .pointer (some ⟨P, 0, none⟩) ∧ wx.heap[P]? = some (.cells #[.int .i64 g3.lo, .int .i64 g3.hi] 56 (0, 0)) ∧ Below W.heap.size W wx ∧ W.heap.size ≤ P)
      case first =>
        go_region_with (refine (hcm _).mono ?_; rintro e3 V3 ⟨rfl, hb3⟩; try (
          have hz3 : V3.heap[W.heap.size]? = some (.cells #[.int .i64 0, .int .i64 0] 56 (0, 0)) := (hb3.block _ (by simp)).trans (heap_alloc_new_ _ _)
          have cz0 : V3.cell? ⟨W.heap.size, 0, none⟩ = some (.int .i64 0) := by rw [cell_row hz3]; rfl
          have cz1 : V3.cell? ⟨W.heap.size, 1, none⟩ = some (.int .i64 0) := by rw [cell_row hz3]; rfl
          have fz0 : V3.frozen? ⟨W.heap.size, 0, none⟩ = false := frozen_row hz3
          have fz1 : V3.frozen? ⟨W.heap.size, 1, none⟩ = false := frozen_row hz3))
        all_goals (
          go_wp2_with fail
          go_meet
          case rel => first
            | exact ⟨_, rfl, hal_new rfl, (drew_b W 1).trans (hb3.trans ((below_alloc_ _ _).mono hb3.size)), hb3.size⟩
            | exact ⟨_, rfl, set_same _ _ (set_same _ _ hz3), ((drew_b W 1).trans ((below_alloc_ W.drew _).trans (hb3.mono (by simp)))).trans (((keeps_setCell V3 W.heap.size 0 _).trans (keeps_setCell _ W.heap.size 1 _)).below (Nat.le_trans (Nat.le_succ _) (by have := hb3.size; simpa using this)) (fun k hk e => by omega)), Nat.le_refl _⟩)
      case rest =>
        obtain ⟨P, rfl, rP, hBx, hPl⟩ := hcut
        have HrP := Lib.hid rP
        have HBx := Lib.hid hBx
        have HPl := Lib.hid hPl
        have p0 : wc.cell? ⟨P, 0, none⟩ = some (.int .i64 g3.lo) := by rw [cell_row rP]; rfl
        have p1 : wc.cell? ⟨P, 1, none⟩ = some (.int .i64 g3.hi) := by rw [cell_row rP]; rfl
        clear rP hBx y0 y1 yf0 yf1 x0 x1 u0 u1
        go_wp2_with fail
        have hb4 := below_alloc_ wc (.cells #[.int .i64 g3.lo, .int .i64 g3.hi] 56)
        have hr4 := rgs_one (heap_alloc_new_ wc (.cells #[.int .i64 g3.lo, .int .i64 g3.hi] 56))
        obtain ⟨w4, hw4⟩ : ∃ w4, wc.alloc (.cells #[.int .i64 g3.lo, .int .i64 g3.hi] 56) = w4 := ⟨_, rfl⟩
        rw [hw4] at hb4 hr4 ⊢
        clear hw4 p0 p1
        refine (valid43 (some ⟨wc.heap.size, 0, none⟩) 1 1 [g3] w4 hr4 (by omega)).mono ?_
        rintro e5 w5 ⟨rfl, hb5⟩
        rw [validZ_one]
        have HB5 : Hid (Below w1.heap.size w1 w5) := Hb2.out.trans ((HBx.out.trans ((hb4.trans (hb5.mono hb4.size)).mono HBx.out.size)).mono Hb2.out.size)
        have HrP5 := Lib.hid ((hb5.block _ (Nat.lt_of_lt_of_le (lt_of_block HrP.out) hb4.size)).trans ((hb4.block _ (lt_of_block HrP.out)).trans HrP.out))
        have HcC := Lib.hid ((HB5.out.block _ hZl).trans HcA.out)
        have hZ5 := lt_of_block HcC.out
        have y0 : w5.cell? ⟨Z, 0, none⟩ = some (.bool false) := by rw [cell_row HcC.out]; rfl
        have y1 : w5.cell? ⟨Z, 1, none⟩ = some (.bool false) := by rw [cell_row HcC.out]; rfl
        have yf0 : w5.frozen? ⟨Z, 0, none⟩ = false := frozen_row HcC.out
        have yf1 : w5.frozen? ⟨Z, 1, none⟩ = false := frozen_row HcC.out
        clear hr4 hb4 hb5
        cases hok : okZ g3 with
        | false =>
          have Hok := Lib.hid hok
          clear hok
          go_wp2_with fail
          have hV := set_same 1 (.bool false) (set_same 0 (.bool false) HcC.out)
          have hKV := (keeps_setCell w5 Z 0 (.bool false)).trans (keeps_setCell _ Z 1 (.bool false))
          obtain ⟨V, hVe⟩ : ∃ V, (w5.setCell ⟨Z, 0, none⟩ (.bool false)).setCell ⟨Z, 1, none⟩ (.bool false) = V := ⟨_, rfl⟩
          rw [hVe] at hV hKV ⊢
          have hB9 : Below w.heap.size w V := Hb0.out.trans (((Hb.out.trans (HB5.out.mono Hb.out.size)).mono Hb0.out.size).trans (hKV.below (Nat.le_trans Hb0.out.size (Nat.le_trans Hb.out.size HB5.out.size)) (fun k hk e => by have := HZ.out; omega)))
          refine bodyPost_ret (v := .tuple #[.agg #[.bool false, .bool false], .int .i64 0]) (res30 (by rfl) (by rfl) hV) rfl ?_
          exact ⟨hB9, false, false, 0, .inr (.inr (.inl ⟨H0.out, by rw [Hn.out]; exact Hw.out, by rw [dp, dq, Hg1.out, Hg2.out, Hg3.out]; exact Hok.out, rfl, rfl, rfl⟩)), rfl⟩
        | true =>
          have Hok := Lib.hid hok
          clear hok y0 y1 yf0 yf1
          have HA5 := Lib.hid (HA.out.below HB5.out (Nat.le_refl _))
          go_wp2_with fail
          refine (clone53 _ n cap zs w5 HA5.out n1 (by omega)).mono ?_
          rintro e6 w6 ⟨gB, cp6, rfl, hrow6, hg6, hb6⟩
          have Hg6 := Lib.hid hg6
          have Hb6 := Lib.hid hb6
          have HR6 := Lib.hid hrow6
          have HrP6 := (hb6.block _ (lt_of_block HrP5.out)).trans HrP5.out
          have q0 : w6.cell? ⟨P, 0, none⟩ = some (.int .i64 g3.lo) := by rw [cell_row HrP6]; rfl
          have q1 : w6.cell? ⟨P, 1, none⟩ = some (.int .i64 g3.hi) := by rw [cell_row HrP6]; rfl
          obtain ⟨rb, ro, re, rc⟩ := hrow6.rgs.2 (by have := Hn.out; omega)
          cases re
          obtain ⟨r0, r1⟩ := rc p (by have := Hn.out; omega)
          rw [Nat.zero_add] at r0 r1
          have rf0 := hrow6.fz (p * 2)
          have rf1 := hrow6.fz (p * 2 + 1)
          have HrP6' := Lib.hid HrP6
          have hPg : P < gB := Nat.lt_of_lt_of_le (lt_of_block HrP5.out) hg6
          have hPg2 : P ≠ gB := by omega
          have hPg3 : gB ≠ P := by omega
          clear hg6 hb6 hrow6 HrP6 rc
          go_wp2_with fail
          have hrow7 := HR6.out.put (j := p) (by have := Hn.out; omega) g3
          have hk7 := putR_keeps w6 gB p g3
          unfold putR at hrow7 hk7
          obtain ⟨w7, hw7⟩ : ∃ w7, (w6.setCell ⟨gB, p * 2, none⟩ (.int .i64 g3.lo)).setCell ⟨gB, p * 2 + 1, none⟩ (.int .i64 g3.hi) = w7 := ⟨_, rfl⟩
          rw [hw7] at hrow7 hk7 ⊢
          have HK67 := Lib.hid hk7
          have HR7 := Lib.hid hrow7
          clear hrow7 hk7 hw7 r0 r1 rf0 rf1 q0 q1
          have hgB1 : w5.heap.size ≤ gB := Hg6.out
          have HB7 : Hid (Below w5.heap.size w5 w7) := Hb6.out.trans (HK67.out.below Hb6.out.size (fun k hk e => by omega))
          have hA7 := HA5.out.below HB7.out (Nat.le_refl _)
          refine (without54 _ n cap zs g3 w7 hA7 n24 Hok.out).mono ?_
          rintro e8 w8 ⟨D8, cp8, rfl, hr8, hf8, hb8⟩
          have Hr8 := Lib.hid hr8
          have HB8 : Hid (Below w5.heap.size w5 w8) := HB7.out.trans (hb8.mono HB7.out.size)
          have HR8 : Hid (RowR w8 gB (zs.set p g3)) := by
            obtain ⟨rest, hh⟩ := HR7.out
            exact ⟨rest, (hb8.block _ (lt_of_block hh)).trans hh⟩
          have Hf8 := Lib.hid hf8
          have H78 := Lib.hid HB7.out.size
          clear hr8 hf8 hb8 hA7
          go_wp2_with fail
          have HBw1 := Lib.hid (lt_of_block Hd.out.row)
          refine (fewest55 B C n cp zs _ w8 (Hd.out.below (HB5.out.trans (HB8.out.mono HB5.out.size)) (Nat.le_refl _)) n1 n24).mono ?_
          rintro e9 w9 ⟨ys, hg9, rfl, -, hK9⟩
          obtain ⟨a, ha⟩ : ∃ a, (grE true [] ys).length = a := ⟨_, rfl⟩
          have ha24 : a ≤ 24 := by have := grE_len true [] ys; have := hg9.2.2; simp at *; omega
          have HLa := Lib.hid (show LenU zs a by rw [← ha]; exact lenU_of (chkS_ok H0.out).2 (by rw [Hn.out]; exact hg9))
          rw [ha]
          have hBne : B < w5.heap.size := Nat.lt_of_lt_of_le HBw1.out HB5.out.size
          have hgne : ¬ (gB = B) := by omega
          have HR9 : Hid (Rgs w9 (some ⟨gB, 0, none⟩) n (zs.set p g3)) := by
            obtain ⟨rest, hh⟩ := HR8.out
            have := RowR.rgs (W := w9) ⟨rest, (hK9.block _ (lt_of_block hh) hgne).trans hh⟩
            rwa [List.length_set, Hn.out] at this
          have HD9 : Hid (Rgs w9 D8 n (zs.map (woR g3))) := Hr8.out.keep hK9 (fun b o e => by have := Hf8.out b o e; have := H78.out; omega)
          have HZ9 := Lib.hid ((hK9.block Z (Nat.lt_of_lt_of_le hZ5 HB8.out.size) (by have := lt_of_block Hc.out; have := HBs.out; omega)).trans ((HB8.out.block _ hZ5).trans HcC.out))
          have HK9 : Hid (Keeps (fun k => k = B) w5 w9) := (Keeps.of_new HB8.out).trans hK9
          have hokn : Ok (zs.set p g3) := fun r hr => by
            rcases List.mem_or_eq_of_mem_set hr with h | h
            · exact (chkS_ok H0.out).2 r h
            · rw [h]; exact (okZ_iff.1 Hok.out).2.1
          have Hokn := Lib.hid hokn
          clear hK9 hg9 ha hokn
          go_wp2_with fail
          refine (set56 _ n cp6 (zs.set p g3) w9 HR9.out n24).mono ?_
          rintro e10 w10 ⟨B2, C2, cp10, rfl, hb10, hB10, -, hd10⟩
          have Hd10 := Lib.hid hd10
          have Hb10 := Lib.hid hb10
          have HB10 := Lib.hid hB10
          clear hb10 hB10 hd10
          go_wp2_with fail
          refine (fewest55 B2 C2 n cp10 (zs.set p g3) _ w10 Hd10.out n1 n24).mono ?_
          rintro e11 w11 ⟨ys2, hg11, rfl, -, hK11⟩
          obtain ⟨b, hb⟩ : ∃ a, (grE true [] ys2).length = a := ⟨_, rfl⟩
          have hb24 : b ≤ 24 := by have := grE_len true [] ys2; have := hg11.2.2; simp at *; omega
          have HLb := Lib.hid (show LenU (zs.set p g3) b by rw [← hb]; exact lenU_of Hokn.out (by rw [List.length_set, Hn.out]; exact hg11))
          rw [hb]
          have Hb11 : Hid (Below w9.heap.size w9 w11) := Hb10.out.trans (hK11.below Hb10.out.size (fun k hk e => by have := HB10.out; omega))
          clear hK11 hg11 hb
          go_wp2_with fail
          refine (valid43 D8 n cp8 (zs.map (woR g3)) w11 (HD9.out.below Hb11.out (Nat.le_refl _)) (by omega)).mono ?_
          rintro e12 w12 ⟨rfl, hb12⟩
          have Hb12 : Hid (Below w9.heap.size w9 w12) := Hb11.out.trans (hb12.mono Hb11.out.size)
          clear hb12
          cases hv : validZ (zs.map (woR g3)) with
          | false =>
            have Hv := Lib.hid hv
            have HZf := Lib.hid ((Hb12.out.block _ (lt_of_block HZ9.out)).trans HZ9.out)
            have y0 : w12.cell? ⟨Z, 0, none⟩ = some (.bool false) := by rw [cell_row HZf.out]; rfl
            have y1 : w12.cell? ⟨Z, 1, none⟩ = some (.bool false) := by rw [cell_row HZf.out]; rfl
            have yf0 : w12.frozen? ⟨Z, 0, none⟩ = false := frozen_row HZf.out
            have yf1 : w12.frozen? ⟨Z, 1, none⟩ = false := frozen_row HZf.out
            clear hv
            go_wp2_with fail
            have hV := set_same 1 (.bool true) (set_same 0 (.bool ((b : Int) == (a : Int))) HZf.out)
            have hKV := (keeps_setCell w12 Z 0 (.bool ((b : Int) == (a : Int)))).trans (keeps_setCell _ Z 1 (.bool true))
            obtain ⟨V, hVe⟩ : ∃ V, (w12.setCell ⟨Z, 0, none⟩ (.bool ((b : Int) == (a : Int)))).setCell ⟨Z, 1, none⟩ (.bool true) = V := ⟨_, rfl⟩
            rw [hVe] at hV hKV ⊢
            have hs1 := Nat.le_trans Hb0.out.size Hb.out.size
            have hs5 := Nat.le_trans hs1 HB5.out.size
            have hs9 := Nat.le_trans hs5 HK9.out.size
            have hs12 := Nat.le_trans hs9 Hb12.out.size
            have hBf : Below w.heap.size w w12 := ((Hb0.out.trans ((Hb.out.trans (HB5.out.mono Hb.out.size)).mono Hb0.out.size)).trans (HK9.out.below hs5 (fun k hk e => by have := HBs.out; have := Hb0.out.size; omega))).trans (Hb12.out.mono hs9)
            have hB9 : Below w.heap.size w V := hBf.trans (hKV.below hs12 (fun k hk e => by have := HZ.out; omega))
            have eab : ((b : Int) == (a : Int)) = decide (b = a) := by
              by_cases h : b = a
              · subst h; simp
              · rw [decide_eq_false h, beq_eq_false_iff_ne]; omega
            refine bodyPost_ret (v := .tuple #[.agg #[.bool ((b : Int) == (a : Int)), .bool true], .int .i64 0]) (res30 (by rfl) (by rfl) hV) rfl ?_
            exact ⟨hB9, _, _, 0, .inr (.inr (.inr ⟨H0.out, by rw [Hn.out]; exact Hw.out, by rw [dp, dq, Hg1.out, Hg2.out, Hg3.out]; exact Hok.out, rfl, a, b, HLa.out, by rw [dp, dq, Hg1.out, Hg2.out, Hg3.out]; exact HLb.out, eab, .inl ⟨by rw [dp, dq, Hg1.out, Hg2.out, Hg3.out]; exact Hv.out, rfl⟩⟩)), rfl⟩
          | true =>
            have Hv := Lib.hid hv
            clear hv
            go_wp2_with fail
            refine (set56 D8 n cp8 (zs.map (woR g3)) w12 (HD9.out.below Hb12.out (Nat.le_refl _)) n24).mono ?_
            rintro e13 w13 ⟨B3, C3, cp13, rfl, hb13, hB13, -, hd13⟩
            have Hd13 := Lib.hid hd13
            have Hb13 := Lib.hid hb13
            have HB13 := Lib.hid hB13
            clear hb13 hB13 hd13
            go_wp2_with fail
            refine (fewest55 B3 C3 n cp13 (zs.map (woR g3)) _ w13 Hd13.out n1 n24).mono ?_
            rintro e14 w14 ⟨ys3, hg14, rfl, -, hK14⟩
            obtain ⟨c, hc⟩ : ∃ a, (grE true [] ys3).length = a := ⟨_, rfl⟩
            have hc24 : c ≤ 24 := by have := grE_len true [] ys3; have := hg14.2.2; simp at *; omega
            have HLc := Lib.hid (show LenU (zs.map (woR g3)) c by
              rw [← hc]
              refine lenU_of (fun r hr => ?_) (by rw [List.length_map, Hn.out]; exact hg14)
              exact (okZ_iff.1 (List.all_eq_true.1 Hv.out r hr)).2.1)
            rw [hc]
            have Hb14 : Hid (Below w9.heap.size w9 w14) := Hb12.out.trans ((Hb13.out.trans (hK14.below Hb13.out.size (fun k hk e => by have := HB13.out; omega))).mono Hb12.out.size)
            have HZf := Lib.hid ((Hb14.out.block _ (lt_of_block HZ9.out)).trans HZ9.out)
            have y0 : w14.cell? ⟨Z, 0, none⟩ = some (.bool false) := by rw [cell_row HZf.out]; rfl
            have y1 : w14.cell? ⟨Z, 1, none⟩ = some (.bool false) := by rw [cell_row HZf.out]; rfl
            have yf0 : w14.frozen? ⟨Z, 0, none⟩ = false := frozen_row HZf.out
            have yf1 : w14.frozen? ⟨Z, 1, none⟩ = false := frozen_row HZf.out
            clear hK14 hg14 hc
            go_wp2_with fail
            have hV := set_same 1 (.bool (decide (a < c))) (set_same 0 (.bool ((b : Int) == (a : Int))) HZf.out)
            have hKV := (keeps_setCell w14 Z 0 (.bool ((b : Int) == (a : Int)))).trans (keeps_setCell _ Z 1 (.bool (decide (a < c))))
            obtain ⟨V, hVe⟩ : ∃ V, (w14.setCell ⟨Z, 0, none⟩ (.bool ((b : Int) == (a : Int)))).setCell ⟨Z, 1, none⟩ (.bool (decide (a < c))) = V := ⟨_, rfl⟩
            rw [hVe] at hV hKV ⊢
            have hs1 := Nat.le_trans Hb0.out.size Hb.out.size
            have hs5 := Nat.le_trans hs1 HB5.out.size
            have hs9 := Nat.le_trans hs5 HK9.out.size
            have hs12 := Nat.le_trans hs9 Hb14.out.size
            have hBf : Below w.heap.size w w14 := ((Hb0.out.trans ((Hb.out.trans (HB5.out.mono Hb.out.size)).mono Hb0.out.size)).trans (HK9.out.below hs5 (fun k hk e => by have := HBs.out; have := Hb0.out.size; omega))).trans (Hb14.out.mono hs9)
            have hB9 : Below w.heap.size w V := hBf.trans (hKV.below hs12 (fun k hk e => by have := HZ.out; omega))
            have eab : ((b : Int) == (a : Int)) = decide (b = a) := by
              by_cases h : b = a
              · subst h; simp
              · rw [decide_eq_false h, beq_eq_false_iff_ne]; omega
            refine bodyPost_ret (v := .tuple #[.agg #[.bool ((b : Int) == (a : Int)), .bool (decide (a < c))], .int .i64 0]) (res30 (by rfl) (by rfl) hV) rfl ?_
            exact ⟨hB9, _, _, 0, .inr (.inr (.inr ⟨H0.out, by rw [Hn.out]; exact Hw.out, by rw [dp, dq, Hg1.out, Hg2.out, Hg3.out]; exact Hok.out, rfl, a, b, HLa.out, by rw [dp, dq, Hg1.out, Hg2.out, Hg3.out]; exact HLb.out, eab, .inr ⟨by rw [dp, dq, Hg1.out, Hg2.out, Hg3.out]; exact Hv.out, c, by rw [dp, dq, Hg1.out, Hg2.out, Hg3.out]; exact HLc.out, rfl⟩⟩)), rfl⟩
  · have Hb := Lib.hid hb
    obtain ⟨c, hc⟩ : ∃ c, chkS zs = c := ⟨_, rfl⟩
    rw [hc] at h0 ⊢
    have d0 : (c != 0) = true := by rw [bne_iff_ne]; exact h0
    have Hcc := Lib.hid hc
    have H0 := Lib.hid h0
    have HcA := Lib.hid ((hb.block _ (lt_of_block Hc.out)).trans Hc.out)
    have z0 : w1.cell? ⟨Z, 0, none⟩ = some (.bool false) := by rw [cell_row HcA.out]; rfl
    have z1 : w1.cell? ⟨Z, 1, none⟩ = some (.bool false) := by rw [cell_row HcA.out]; rfl
    have zf0 : w1.frozen? ⟨Z, 0, none⟩ = false := frozen_row HcA.out
    have zf1 : w1.frozen? ⟨Z, 1, none⟩ = false := frozen_row HcA.out
    clear hb h0 hc
    go_wp2_with fail
    have hV := set_same 1 (.bool false) (set_same 0 (.bool false) HcA.out)
    have hKV := (keeps_setCell w1 Z 0 (.bool false)).trans (keeps_setCell _ Z 1 (.bool false))
    obtain ⟨V, hVe⟩ : ∃ V, (w1.setCell ⟨Z, 0, none⟩ (.bool false)).setCell ⟨Z, 1, none⟩ (.bool false) = V := ⟨_, rfl⟩
    rw [hVe] at hV hKV ⊢
    have hB9 : Below w.heap.size w V := Hb0.out.trans ((Hb.out.mono Hb0.out.size).trans (hKV.below (Nat.le_trans Hb0.out.size Hb.out.size) (fun k hk e => by have := HZ.out; omega)))
    refine bodyPost_ret (v := .tuple #[.agg #[.bool false, .bool false], .int .i64 c]) (res30 (by rfl) (by rfl) hV) rfl ?_
    exact ⟨hB9, false, false, c, .inl ⟨by rw [Hcc.out]; exact H0.out, Hcc.out.symm, rfl, rfl⟩, rfl⟩
end Go.Proofs.Ytdfdlklglbefiaa
