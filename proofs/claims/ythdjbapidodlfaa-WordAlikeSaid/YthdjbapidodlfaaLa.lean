/- Stage 4: WordAlike. -/
import Derived.Test.YthdjbapidodlfaaOth
import Derived.Deep.RegionHeld3
import Derived.BigQuiet
import Derived.Deep.QuietTactic
namespace Go.Proofs.Ythdjbapidodlfaa
set_option linter.unusedSimpArgs false
set_option linter.unusedVariables false
open Go.RowKit Go.Shelf
/-- How three words can be alike. -/
theorem alk3 (p q r : Int) : (decide (p = q) = true ∧ decide (q = p) = true ∧ decide (q = r) = true ∧ decide (p = r) = true) ∨ (decide (p = q) = true ∧ decide (q = p) = true ∧ decide (q = r) = false ∧ decide (p = r) = false) ∨
    (decide (p = q) = false ∧ decide (q = p) = false ∧ decide (q = r) = true ∧ decide (p = r) = false) ∨ (decide (p = q) = false ∧ decide (q = p) = false ∧ decide (q = r) = false ∧ decide (p = r) = true) ∨
    (decide (p = q) = false ∧ decide (q = p) = false ∧ decide (q = r) = false ∧ decide (p = r) = false) := by
  by_cases h1 : p = q
  · subst h1
    by_cases h2 : p = r
    · subst h2; simp
    · simp [h2]
  · have h1' : ¬ q = p := fun e => h1 e.symm
    by_cases h2 : q = r
    · subst h2; simp [h1, h1']
    · by_cases h3 : p = r
      · subst h3; simp [h1, h1']
      · simp [h1, h1', h2, h3]
theorem fnB_facts {n : Nat} {zs : List Rg} {L : List (List Int)} (h : fnB n zs L = true) : grtB n L = false ∧ chkL zs L = 0 ∧ (mtS (cls (prs zs)) L).length ≤ 1000 := by
  simp only [fnB, Bool.and_eq_true, decide_eq_true_eq, Bool.not_eq_true'] at h
  exact ⟨h.1.1, h.1.2, by omega⟩
theorem alk_two {zs : List Rg} {x y : Int} (h : chkB zs = 0) (hx : 1 ≤ x ∧ x ≤ 100) (hy : 1 ≤ y ∧ y ≤ 100) : alkR zs x y = (decide (iAt (cls (prs zs)) x.toNat = iAt (cls (prs zs)) y.toNat), 0) :=
  alkR_in h (by simp [inB]; omega)
section
attribute [local go_sem ↓] exec_app at_app
attribute [local go_sem] Oper.semAt_some
set_option maxRecDepth 100000 in
set_option maxHeartbeats 40000000 in
theorem alike11 (A : Option Addr) (n cap : Nat) (zs : List Rg) (a b c : Nat) (A2 : Option Addr) (m cap2 : Nat) (L : List (List Int)) (x3 x4 : Nat) (w : World) (h : Rgs w A n zs) (hL : Lns w A2 m L) (ha : a ≤ 255) (hb9 : b ≤ 255) (hc9 : c ≤ 255) (h3 : x3 ≤ 255) (h4 : x4 ≤ 255) :
    Calls Try.prog 11 #[.agg #[.slice A n cap], .agg #[.int .u8 (a : Int), .int .u8 (b : Int), .int .u8 (c : Int)], .slice A2 m cap2, .int .u8 (x3 : Int), .int .u8 (x4 : Int)] w fun e w' => e = .returned (.bool true) ∧ Below w.heap.size w w' := by
  have Hlen := Lib.hid hL.1
  have HZl := Lib.hid h.1
  have hb0 := below_alloc_ w (.cells #[.slice A n cap] 24)
  have hr0 := heap_alloc_new_ w (.cells #[.slice A n cap] 24)
  have hs0 := al_sz w (.cells #[.slice A n cap] 24)
  obtain ⟨wa, hW0⟩ : ∃ wa, w.alloc (.cells #[.slice A n cap] 24) = wa := ⟨_, rfl⟩
  obtain ⟨R, hR⟩ : ∃ R, w.heap.size = R := ⟨_, rfl⟩
  rw [hW0] at hb0 hr0 hs0
  rw [hR] at hr0 hs0
  have hb1 := below_alloc_ wa (.cells #[.int .u8 (a : Int), .int .u8 (b : Int), .int .u8 (c : Int)] 62)
  have hr1 := heap_alloc_new_ wa (.cells #[.int .u8 (a : Int), .int .u8 (b : Int), .int .u8 (c : Int)] 62)
  have hr2 := (hb1.block R (by omega)).trans hr0
  obtain ⟨w0, hW1⟩ : ∃ w0, wa.alloc (.cells #[.int .u8 (a : Int), .int .u8 (b : Int), .int .u8 (c : Int)] 62) = w0 := ⟨_, rfl⟩
  rw [hW1] at hb1 hr1 hr2
  rw [hs0] at hr1
  have hb := hb0.trans (hb1.mono hb0.size)
  have S := Lib.hid (h.below hb (Nat.le_refl _))
  have X := Lib.hid (hL.below hb (Nat.le_refl _))
  have B := Lib.hid hb
  have HW0 := Lib.hid hW0
  have HW1 := Lib.hid hW1
  have HR := Lib.hid hR
  have Hs0 := Lib.hid hs0
  have rc : w0.cell? ⟨R, 0, none⟩ = some (.slice A n cap) := by rw [cell_row hr2]; rfl
  have hrow := Lib.hid hr2
  have hrow1 := Lib.hid hr1
  clear h hL hb hb0 hb1 hr0 hr1 hr2 hW0 hW1 hR hs0
  by_cases h50 : 50 < n
  · have d2 : (50 : Int) < (n : Int) := by omega
    go_enter Try.func11, Try.ntmps11
    go_wp2_with fail
    rw [HW0.out]
    try rw [HR.out]
    try rw [Hs0.out]
    try rw [HW1.out]
    try go_wp2_with fail
    try clear rc
    refine (works14 w0).mono ?_
    rintro en w1 ⟨rfl, hb⟩
    replace B := Lib.hid (B.out.trans (hb.mono B.out.size))
    clear hb
    go_wp2_with fail
    go_ret
    exact ⟨rfl, B.out⟩
  have d2 : ¬ (50 : Int) < (n : Int) := by omega
  go_enter Try.func11, Try.ntmps11
  go_wp2_with fail
  rw [HW0.out]
  try rw [HR.out]
  try rw [Hs0.out]
  try rw [HW1.out]
  try go_wp2_with fail
  refine (refBook20 A n cap zs w0 S.out).mono ?_
  rintro en w1 ⟨rfl, hb⟩
  replace S := Lib.hid (S.out.below hb (Nat.le_refl _))
  replace X := Lib.hid (X.out.below hb (Nat.le_refl _))
  replace B := Lib.hid (B.out.trans (hb.mono B.out.size))
  replace hrow := Lib.hid ((hb.block R (lt_of_block hrow.out)).trans hrow.out)
  replace hrow1 := Lib.hid ((hb.block (R + 1) (lt_of_block hrow1.out)).trans hrow1.out)
  clear hb rc d2
  obtain ⟨cb, hcb⟩ : ∃ cb, chkB zs = cb := ⟨_, rfl⟩
  rw [hcb]
  have Hcb := Lib.hid hcb
  clear hcb
  by_cases h0 : cb = 0
  rotate_left
  · have d0 : (cb != 0) = true := by rw [bne_iff_ne]; exact h0
    clear h0
    go_wp2_with fail
    try clear rc
    refine (works14 w1).mono ?_
    rintro en w2 ⟨rfl, hb⟩
    replace B := Lib.hid (B.out.trans (hb.mono B.out.size))
    clear hb
    go_wp2_with fail
    go_ret
    exact ⟨rfl, B.out⟩
  subst h0
  obtain ⟨tx, htx⟩ : ∃ tx : Nat, tx = a % 100 := ⟨_, rfl⟩
  have lx : tx < 100 := by rw [htx]; exact Nat.mod_lt _ (by omega)
  have ex : (a : Int) % 100 = (tx : Int) := by rw [htx]; exact (Int.natCast_emod a 100).symm
  have fx : (a : Int).tmod 100 = (tx : Int) := by rw [Int.tmod_eq_emod_of_nonneg (by omega)]; exact ex
  have gx : IntKind.i64.wrap (a : Int) = a := IntWalk.i64_in _ (by omega)
  have jx : IntKind.i64.wrap (tx : Int) = tx := IntWalk.i64_in _ (by omega)
  have ix : IntKind.i64.wrap (1 + (tx : Int)) = 1 + tx := IntWalk.i64_in _ (by omega)
  have px : w1.cell? ⟨R + 1, 0, none⟩ = some (.int .u8 (a : Int)) := by rw [cell_row hrow1.out]; rfl
  have qx : ∀ u, (w1.drewN u).cell? ⟨R + 1, 0, none⟩ = some (.int .u8 (a : Int)) := fun u => px
  clear htx
  obtain ⟨ty, hty⟩ : ∃ ty : Nat, ty = b % 100 := ⟨_, rfl⟩
  have ly : ty < 100 := by rw [hty]; exact Nat.mod_lt _ (by omega)
  have ey : (b : Int) % 100 = (ty : Int) := by rw [hty]; exact (Int.natCast_emod b 100).symm
  have fy : (b : Int).tmod 100 = (ty : Int) := by rw [Int.tmod_eq_emod_of_nonneg (by omega)]; exact ey
  have gy : IntKind.i64.wrap (b : Int) = b := IntWalk.i64_in _ (by omega)
  have jy : IntKind.i64.wrap (ty : Int) = ty := IntWalk.i64_in _ (by omega)
  have iy : IntKind.i64.wrap (1 + (ty : Int)) = 1 + ty := IntWalk.i64_in _ (by omega)
  have py : w1.cell? ⟨R + 1, 1, none⟩ = some (.int .u8 (b : Int)) := by rw [cell_row hrow1.out]; rfl
  have qy : ∀ u, (w1.drewN u).cell? ⟨R + 1, 1, none⟩ = some (.int .u8 (b : Int)) := fun u => py
  clear hty
  obtain ⟨tz, htz⟩ : ∃ tz : Nat, tz = c % 100 := ⟨_, rfl⟩
  have lz : tz < 100 := by rw [htz]; exact Nat.mod_lt _ (by omega)
  have ez : (c : Int) % 100 = (tz : Int) := by rw [htz]; exact (Int.natCast_emod c 100).symm
  have fz : (c : Int).tmod 100 = (tz : Int) := by rw [Int.tmod_eq_emod_of_nonneg (by omega)]; exact ez
  have gz : IntKind.i64.wrap (c : Int) = c := IntWalk.i64_in _ (by omega)
  have jz : IntKind.i64.wrap (tz : Int) = tz := IntWalk.i64_in _ (by omega)
  have iz : IntKind.i64.wrap (1 + (tz : Int)) = 1 + tz := IntWalk.i64_in _ (by omega)
  have pz : w1.cell? ⟨R + 1, 2, none⟩ = some (.int .u8 (c : Int)) := by rw [cell_row hrow1.out]; rfl
  have qz : ∀ u, (w1.drewN u).cell? ⟨R + 1, 2, none⟩ = some (.int .u8 (c : Int)) := fun u => pz
  clear htz
  go_wp2_with fail
  go_quiet (fail)
  have hb := drew_b w1 nq
  obtain ⟨w2, hwq⟩ : ∃ w2, w1.drewN nq = w2 := ⟨_, rfl⟩
  rw [hwq] at hb
  rw [hwq]
  replace S := Lib.hid (S.out.below hb (Nat.le_refl _))
  replace X := Lib.hid (X.out.below hb (Nat.le_refl _))
  replace B := Lib.hid (B.out.trans (hb.mono B.out.size))
  replace hrow := Lib.hid ((hb.block R (lt_of_block hrow.out)).trans hrow.out)
  clear hb hwq hrow1 ex fx gx jx ix px qx ey fy gy jy iy py qy ez fz gz jz iz pz qz
  obtain ⟨x, hx⟩ : ∃ x : Int, 1 + (tx : Int) = x := ⟨_, rfl⟩
  have rx : 1 ≤ x ∧ x ≤ 100 := by omega
  rw [hx]
  have Rx := Lib.hid rx
  clear hx rx lx
  obtain ⟨y, hy⟩ : ∃ y : Int, 1 + (ty : Int) = y := ⟨_, rfl⟩
  have ry : 1 ≤ y ∧ y ≤ 100 := by omega
  rw [hy]
  have Ry := Lib.hid ry
  clear hy ry ly
  obtain ⟨z, hz⟩ : ∃ z : Int, 1 + (tz : Int) = z := ⟨_, rfl⟩
  have rz : 1 ≤ z ∧ z ≤ 100 := by omega
  rw [hz]
  have Rz := Lib.hid rz
  clear hz rz lz
  have rc : w2.cell? ⟨R, 0, none⟩ = some (.slice A n cap) := by rw [cell_row hrow.out]; rfl
  go_wp2_with fail
  have hc := alike15 A n cap zs x x w2 S.out
  rw [alk_two Hcb.out Rx.out Rx.out] at hc
  rw [decide_eq_true rfl] at hc
  refine hc.mono ?_
  clear hc
  rintro en w3 ⟨rfl, hb⟩
  replace S := Lib.hid (S.out.below hb (Nat.le_refl _))
  replace X := Lib.hid (X.out.below hb (Nat.le_refl _))
  replace B := Lib.hid (B.out.trans (hb.mono B.out.size))
  replace hrow := Lib.hid ((hb.block R (lt_of_block hrow.out)).trans hrow.out)
  clear hb rc
  have rc : w3.cell? ⟨R, 0, none⟩ = some (.slice A n cap) := by rw [cell_row hrow.out]; rfl
  go_wp2_with fail
  have hc := alike15 A n cap zs x y w3 S.out
  rw [alk_two Hcb.out Rx.out Ry.out] at hc
  obtain ⟨ab, hab⟩ : ∃ ab, decide (iAt (cls (prs zs)) x.toNat = iAt (cls (prs zs)) y.toNat) = ab := ⟨_, rfl⟩
  rw [hab] at hc
  have Hab := Lib.hid hab
  clear hab
  refine hc.mono ?_
  clear hc
  rintro en w4 ⟨rfl, hb⟩
  replace S := Lib.hid (S.out.below hb (Nat.le_refl _))
  replace X := Lib.hid (X.out.below hb (Nat.le_refl _))
  replace B := Lib.hid (B.out.trans (hb.mono B.out.size))
  replace hrow := Lib.hid ((hb.block R (lt_of_block hrow.out)).trans hrow.out)
  clear hb rc
  have rc : w4.cell? ⟨R, 0, none⟩ = some (.slice A n cap) := by rw [cell_row hrow.out]; rfl
  go_wp2_with fail
  have hc := alike15 A n cap zs y x w4 S.out
  rw [alk_two Hcb.out Ry.out Rx.out] at hc
  obtain ⟨cb2, hcb2⟩ : ∃ cb2, decide (iAt (cls (prs zs)) y.toNat = iAt (cls (prs zs)) x.toNat) = cb2 := ⟨_, rfl⟩
  rw [hcb2] at hc
  have Hcb2 := Lib.hid hcb2
  clear hcb2
  refine hc.mono ?_
  clear hc
  rintro en w5 ⟨rfl, hb⟩
  replace S := Lib.hid (S.out.below hb (Nat.le_refl _))
  replace X := Lib.hid (X.out.below hb (Nat.le_refl _))
  replace B := Lib.hid (B.out.trans (hb.mono B.out.size))
  replace hrow := Lib.hid ((hb.block R (lt_of_block hrow.out)).trans hrow.out)
  clear hb rc
  have rc : w5.cell? ⟨R, 0, none⟩ = some (.slice A n cap) := by rw [cell_row hrow.out]; rfl
  go_wp2_with fail
  have hc := alike15 A n cap zs y z w5 S.out
  rw [alk_two Hcb.out Ry.out Rz.out] at hc
  obtain ⟨db, hdb⟩ : ∃ db, decide (iAt (cls (prs zs)) y.toNat = iAt (cls (prs zs)) z.toNat) = db := ⟨_, rfl⟩
  rw [hdb] at hc
  have Hdb := Lib.hid hdb
  clear hdb
  refine hc.mono ?_
  clear hc
  rintro en w6 ⟨rfl, hb⟩
  replace S := Lib.hid (S.out.below hb (Nat.le_refl _))
  replace X := Lib.hid (X.out.below hb (Nat.le_refl _))
  replace B := Lib.hid (B.out.trans (hb.mono B.out.size))
  replace hrow := Lib.hid ((hb.block R (lt_of_block hrow.out)).trans hrow.out)
  clear hb rc
  have rc : w6.cell? ⟨R, 0, none⟩ = some (.slice A n cap) := by rw [cell_row hrow.out]; rfl
  go_wp2_with fail
  have hc := alike15 A n cap zs x z w6 S.out
  rw [alk_two Hcb.out Rx.out Rz.out] at hc
  obtain ⟨fb, hfb⟩ : ∃ fb, decide (iAt (cls (prs zs)) x.toNat = iAt (cls (prs zs)) z.toNat) = fb := ⟨_, rfl⟩
  rw [hfb] at hc
  have Hfb := Lib.hid hfb
  clear hfb
  refine hc.mono ?_
  clear hc
  rintro en w7 ⟨rfl, hb⟩
  replace S := Lib.hid (S.out.below hb (Nat.le_refl _))
  replace X := Lib.hid (X.out.below hb (Nat.le_refl _))
  replace B := Lib.hid (B.out.trans (hb.mono B.out.size))
  replace hrow := Lib.hid ((hb.block R (lt_of_block hrow.out)).trans hrow.out)
  clear hb rc
  have rc : w7.cell? ⟨R, 0, none⟩ = some (.slice A n cap) := by rw [cell_row hrow.out]; rfl
  have hk := alk3 (iAt (cls (prs zs)) x.toNat) (iAt (cls (prs zs)) y.toNat) (iAt (cls (prs zs)) z.toNat)
  rw [Hab.out, Hcb2.out, Hdb.out, Hfb.out] at hk
  clear Hab Hcb2 Hdb Hfb
  obtain ⟨rfl, rfl, rfl, rfl⟩ | ⟨rfl, rfl, rfl, rfl⟩ | ⟨rfl, rfl, rfl, rfl⟩ | ⟨rfl, rfl, rfl, rfl⟩ | ⟨rfl, rfl, rfl, rfl⟩ := hk
  all_goals (go_wp2_with fail)
  all_goals
    refine (fine40 A n cap zs A2 m cap2 L w7 S.out X.out).mono ?_
    rintro en w8 ⟨rfl, hb⟩
    replace S := Lib.hid (S.out.below hb (Nat.le_refl _))
    replace X := Lib.hid (X.out.below hb (Nat.le_refl _))
    replace B := Lib.hid (B.out.trans (hb.mono B.out.size))
    replace hrow := Lib.hid ((hb.block R (lt_of_block hrow.out)).trans hrow.out)
    clear hb rc
    obtain ⟨fn, hfn⟩ : ∃ fn, fnB n zs L = fn := ⟨_, rfl⟩
    rw [hfn]
    cases fn
    · clear hfn
      go_wp2_with fail
      try clear rc
      refine (works14 w8).mono ?_
      rintro en w9 ⟨rfl, hb⟩
      replace B := Lib.hid (B.out.trans (hb.mono B.out.size))
      clear hb
      go_wp2_with fail
      go_ret
      exact ⟨rfl, B.out⟩
    obtain ⟨hgr, hck, -⟩ := fnB_facts hfn
    have Hck := Lib.hid hck
    have HLV := Lib.hid (lv_of Hlen.out hck)
    clear hfn hgr hck
    have hlo := HLV.out.lo
    have hhi := HLV.out.hi
    obtain ⟨hh, hhh⟩ : ∃ hh : Nat, hh = x3 % m := ⟨_, rfl⟩
    have lh : hh < m := by rw [hhh]; exact Nat.mod_lt _ (by omega)
    have eh : (x3 : Int) % (m : Int) = (hh : Int) := by rw [hhh]; exact (Int.natCast_emod x3 m).symm
    have fh : (x3 : Int).tmod (m : Int) = (hh : Int) := by rw [Int.tmod_eq_emod_of_nonneg (by omega)]; exact eh
    have gh : IntKind.i64.wrap (x3 : Int) = x3 := IntWalk.i64_in _ (by omega)
    have jh : IntKind.i64.wrap (hh : Int) = hh := IntWalk.i64_in _ (by omega)
    have dm : ((m : Int) == 0) = false := by rw [beq_eq_false_iff_ne]; omega
    clear hhh
    obtain ⟨bo, oo, hA2, hcx⟩ := X.out.2 (by omega)
    obtain ⟨Ch, ch, y0, hIh, hch⟩ := hcx hh lh
    subst hA2
    have h08 := HLV.out.le8 hh lh
    obtain ⟨ll, hll⟩ : ∃ ll, (lAt L hh).length = ll := ⟨_, rfl⟩
    rw [hll] at y0 hIh hch h08
    have Hll := Lib.hid hll
    have HI := Lib.hid hIh
    have HY0 := Lib.hid y0
    have i0 : (0 : Int) ≤ (hh : Int) := by omega
    have i1 : (hh : Int) < (m : Int) := by omega
    clear hcx hIh hll
    by_cases hl0 : ll = 0
    · have d5 : ((ll : Int) == 0) = true := by rw [beq_iff_eq]; omega
      have rc : w8.cell? ⟨R, 0, none⟩ = some (.slice A n cap) := by rw [cell_row hrow.out]; rfl
      go_wp2_with fail
      try clear rc
      refine (works14 w8).mono ?_
      rintro en w9 ⟨rfl, hb⟩
      replace B := Lib.hid (B.out.trans (hb.mono B.out.size))
      clear hb
      go_wp2_with fail
      go_ret
      exact ⟨rfl, B.out⟩
    have d5 : ((ll : Int) == 0) = false := by rw [beq_eq_false_iff_ne]; omega
    obtain ⟨ii, hii⟩ : ∃ ii : Nat, ii = x4 % ll := ⟨_, rfl⟩
    have li : ii < ll := by rw [hii]; exact Nat.mod_lt _ (by omega)
    have ei : (x4 : Int) % (ll : Int) = (ii : Int) := by rw [hii]; exact (Int.natCast_emod x4 ll).symm
    have fi : (x4 : Int).tmod (ll : Int) = (ii : Int) := by rw [Int.tmod_eq_emod_of_nonneg (by omega)]; exact ei
    have gi : IntKind.i64.wrap (x4 : Int) = x4 := IntWalk.i64_in _ (by omega)
    have ji : IntKind.i64.wrap (ii : Int) = ii := IntWalk.i64_in _ (by omega)
    clear hii
    obtain ⟨bh, oh, hCh, hch2⟩ := HI.out.2 (by omega)
    subst hCh
    have z0 := hch2 ii li
    obtain ⟨wv, hwv⟩ : ∃ wv, iAt (lAt L hh) ii = wv := ⟨_, rfl⟩
    rw [hwv] at z0
    have Hwv := Lib.hid hwv
    have Rw : Hid (1 ≤ wv ∧ wv ≤ 100) := Lib.hid (by
      have hm1 : wv ∈ lAt L hh := by rw [← hwv, iAt_eq (by rw [Hll.out]; exact li)]; exact List.getElem_mem _
      obtain ⟨u, rfl, h1, h2⟩ := HLV.out.wd hh lh wv hm1
      omega)
    have i2 : (0 : Int) ≤ (ii : Int) := by omega
    have i3 : (ii : Int) < (ll : Int) := by omega
    clear hch2 hwv
    have rc : w8.cell? ⟨R, 0, none⟩ = some (.slice A n cap) := by rw [cell_row hrow.out]; rfl
    go_wp2_with fail
    clear eh fh gh jh dm ei fi gi ji d5
    refine wp_region_held_drew (S := fun w2 => Below w8.heap.size w8 w2) (by kernel_rfl) (drew_b _ _) (fun hS0 => ?_)
    refine wpAnyH_take (i := 0) (oi := { dst := some 164, op := Go.Op.load 24 (Go.Operand.tmp 5), type := 24, pos := "outright.go:200", after := #[], guard := none }) (v := .agg #[.slice A n cap]) rfl (by kernel_rfl) (by kernel_rfl) (by kernel_rfl) (fun _ _ _ h => h) (Or.inl ⟨by rfl, by intro w2 hSw; (try dsimp only at hSw); have e0 := (hSw.cell (p := _) (lt_of_cell rc)).trans rc; go_simp⟩) hS0 ?_
    try simp only [Act.put, List.setIfInBounds_toArray, List.set_cons_zero, List.set_cons_succ]
    refine wpAnyH_take (i := 1) (oi := { dst := some 165, op := Go.Op.move (Go.Operand.tmp 2), type := 25, pos := "outright.go:200", after := #[], guard := none }) (v := .slice (some ⟨bo, oo, none⟩) m cap2) rfl (by kernel_rfl) (by kernel_rfl) (by kernel_rfl) (fun _ _ _ h => h) (Or.inl ⟨by rfl, by intro w2 hSw; (try dsimp only at hSw); go_simp⟩) hS0 ?_
    try simp only [Act.put, List.setIfInBounds_toArray, List.set_cons_zero, List.set_cons_succ]
    refine wpAnyH_take (i := 2) (oi := { dst := some 166, op := Go.Op.move (Go.Operand.tmp 24), type := 3, pos := "outright.go:200", after := #[], guard := none }) (v := .int .i64 (hh : Int)) rfl (by kernel_rfl) (by kernel_rfl) (by kernel_rfl) (fun _ _ _ h => h) (Or.inl ⟨by rfl, by intro w2 hSw; (try dsimp only at hSw); go_simp⟩) hS0 ?_
    try simp only [Act.put, List.setIfInBounds_toArray, List.set_cons_zero, List.set_cons_succ]
    refine wpAnyH_take (i := 3) (oi := { dst := some 167, op := Go.Op.indexAddr 25 (Go.Operand.tmp 165) (Go.Operand.tmp 166), type := 0, pos := "outright.go:200", after := #[{ on := 1, ground := Go.Ground.data }, { on := 2, ground := Go.Ground.data }], guard := none }) (v := .pointer (some ⟨bo, oo + hh, none⟩)) rfl (by kernel_rfl) (by kernel_rfl) (by kernel_rfl) (fun _ _ _ h => h) (Or.inl ⟨by rfl, by intro w2 hSw; (try dsimp only at hSw); go_simp⟩) hS0 ?_
    try simp only [Act.put, List.setIfInBounds_toArray, List.set_cons_zero, List.set_cons_succ]
    refine wpAnyH_take (i := 4) (oi := { dst := some 168, op := Go.Op.load 38 (Go.Operand.tmp 167), type := 38, pos := "outright.go:200", after := #[{ on := 3, ground := Go.Ground.data }], guard := none }) (v := .slice (some ⟨bh, oh, none⟩) ll ch) rfl (by kernel_rfl) (by kernel_rfl) (by kernel_rfl) (fun _ _ _ h => h) (Or.inl ⟨by rfl, by intro w2 hSw; (try dsimp only at hSw); have e0 := (hSw.cell (p := _) (lt_of_cell y0)).trans y0; go_simp⟩) hS0 ?_
    try simp only [Act.put, List.setIfInBounds_toArray, List.set_cons_zero, List.set_cons_succ]
    refine wpAnyH_take (i := 5) (oi := { dst := some 169, op := Go.Op.move (Go.Operand.tmp 25), type := 3, pos := "outright.go:200", after := #[], guard := none }) (v := .int .i64 (ii : Int)) rfl (by kernel_rfl) (by kernel_rfl) (by kernel_rfl) (fun _ _ _ h => h) (Or.inl ⟨by rfl, by intro w2 hSw; (try dsimp only at hSw); go_simp⟩) hS0 ?_
    try simp only [Act.put, List.setIfInBounds_toArray, List.set_cons_zero, List.set_cons_succ]
    refine wpAnyH_take (i := 6) (oi := { dst := some 170, op := Go.Op.indexAddr 38 (Go.Operand.tmp 168) (Go.Operand.tmp 169), type := 0, pos := "outright.go:200", after := #[{ on := 4, ground := Go.Ground.data }, { on := 5, ground := Go.Ground.data }], guard := none }) (v := .pointer (some ⟨bh, oh + ii, none⟩)) rfl (by kernel_rfl) (by kernel_rfl) (by kernel_rfl) (fun _ _ _ h => h) (Or.inl ⟨by rfl, by intro w2 hSw; (try dsimp only at hSw); go_simp⟩) hS0 ?_
    try simp only [Act.put, List.setIfInBounds_toArray, List.set_cons_zero, List.set_cons_succ]
    refine wpAnyH_take (i := 7) (oi := { dst := some 171, op := Go.Op.load 3 (Go.Operand.tmp 170), type := 3, pos := "outright.go:200", after := #[{ on := 6, ground := Go.Ground.data }], guard := none }) (v := .int .i64 wv) rfl (by kernel_rfl) (by kernel_rfl) (by kernel_rfl) (fun _ _ _ h => h) (Or.inl ⟨by rfl, by intro w2 hSw; (try dsimp only at hSw); have e0 := (hSw.cell (p := _) (lt_of_cell z0)).trans z0; go_simp⟩) hS0 ?_
    try simp only [Act.put, List.setIfInBounds_toArray, List.set_cons_zero, List.set_cons_succ]
    refine wpAnyH_take (i := 8) (oi := { dst := some 172, op := Go.Op.move (Go.Operand.tmp 11), type := 3, pos := "outright.go:200", after := #[], guard := none }) (v := .int .i64 x) rfl (by kernel_rfl) (by kernel_rfl) (by kernel_rfl) (fun _ _ _ h => h) (Or.inl ⟨by rfl, by intro w2 hSw; (try dsimp only at hSw); go_simp⟩) hS0 ?_
    try simp only [Act.put, List.setIfInBounds_toArray, List.set_cons_zero, List.set_cons_succ]
    refine wpAnyH_ready (rs := [9]) (by kernel_rfl) (by simp) ?_
    refine AllReadyH.cons (o := { dst := some 173, op := Go.Op.call { callee := Go.Callee.value (Go.Operand.func 15), args := #[Go.Operand.tmp 164, Go.Operand.tmp 171, Go.Operand.tmp 172], argTypes := #[24, 3, 3] }, type := 29, pos := "outright.go:200", after := #[{ on := 0, ground := Go.Ground.data }, { on := 7, ground := Go.Ground.data }, { on := 8, ground := Go.Ground.data }], guard := none }) rfl (fun K2 hK => ?_) AllReadyH.nil
    go_simp
    have hc := alike15 A n cap zs wv x _ (S.out.below hS0 (Nat.le_refl _))
    rw [alk_two Hcb.out Rw.out Rx.out] at hc
    obtain ⟨gb, hgb⟩ : ∃ gb, decide (iAt (cls (prs zs)) wv.toNat = iAt (cls (prs zs)) x.toNat) = gb := ⟨_, rfl⟩
    rw [hgb] at hc
    have Hgb := Lib.hid hgb
    clear hgb
    refine hc.mono ?_
    rintro e9 V1 ⟨rfl, hb9⟩
    (try go_simp)
    refine hK.out _ _ (hS0.trans (hb9.mono hS0.size)) (fun hS1 => ?_)
    clear hK K2 hb9 hc
    try simp only [Act.put, List.setIfInBounds_toArray, List.set_cons_zero, List.set_cons_succ]
    refine wpAnyH_take (i := 10) (oi := { dst := some 163, op := Go.Op.move (Go.Operand.tmp 173), type := 29, pos := "outright.go:200", after := #[{ on := 9, ground := Go.Ground.data }], guard := none }) (v := .tuple #[.bool gb, .int .i64 0]) rfl (by kernel_rfl) (by kernel_rfl) (by kernel_rfl) (fun _ _ _ h => h) (Or.inl ⟨by rfl, by intro w2 hSw; (try dsimp only at hSw); go_simp⟩) hS1 ?_
    try simp only [Act.put, List.setIfInBounds_toArray, List.set_cons_zero, List.set_cons_succ]
    refine wpAnyH_take (i := 11) (oi := { dst := some 174, op := Go.Op.extract (Go.Operand.tmp 163) 0, type := 4, pos := "outright.go:200", after := #[{ on := 10, ground := Go.Ground.data }], guard := none }) (v := .bool gb) rfl (by kernel_rfl) (by kernel_rfl) (by kernel_rfl) (fun _ _ _ h => h) (Or.inl ⟨by rfl, by intro w2 hSw; (try dsimp only at hSw); go_simp⟩) hS1 ?_
    try simp only [Act.put, List.setIfInBounds_toArray, List.set_cons_zero, List.set_cons_succ]
    refine wpAnyH_take (i := 12) (oi := { dst := some 175, op := Go.Op.extract (Go.Operand.tmp 163) 1, type := 28, pos := "outright.go:200", after := #[{ on := 10, ground := Go.Ground.data }, { on := 13, ground := Go.Ground.gcOnly Go.Departure.lateStores }], guard := none }) (v := .int .i64 0) rfl (by kernel_rfl) (by kernel_rfl) (by kernel_rfl) (fun _ _ _ h => h) (Or.inl ⟨by rfl, by intro w2 hSw; (try dsimp only at hSw); go_simp⟩) hS1 ?_
    try simp only [Act.put, List.setIfInBounds_toArray, List.set_cons_zero, List.set_cons_succ]
    refine wpAnyH_take (i := 13) (oi := { dst := some 26, op := Go.Op.assign (Go.Operand.tmp 174), type := 4, pos := "outright.go:200", after := #[{ on := 11, ground := Go.Ground.data }, { on := 9, ground := Go.Ground.chain }, { on := 0, ground := Go.Ground.phase }, { on := 1, ground := Go.Ground.phase }, { on := 2, ground := Go.Ground.phase }, { on := 3, ground := Go.Ground.phase }, { on := 4, ground := Go.Ground.phase }, { on := 5, ground := Go.Ground.phase }, { on := 6, ground := Go.Ground.phase }, { on := 7, ground := Go.Ground.phase }, { on := 8, ground := Go.Ground.phase }, { on := 9, ground := Go.Ground.phase }, { on := 10, ground := Go.Ground.phase }, { on := 11, ground := Go.Ground.phase }, { on := 12, ground := Go.Ground.textOnly Go.Departure.lateStores }], guard := none }) (v := .bool gb) rfl (by kernel_rfl) (by kernel_rfl) (by kernel_rfl) (fun _ _ _ h => h) (Or.inl ⟨by rfl, by intro w2 hSw; (try dsimp only at hSw); go_simp⟩) hS1 ?_
    try simp only [Act.put, List.setIfInBounds_toArray, List.set_cons_zero, List.set_cons_succ]
    refine wpAnyH_take (i := 14) (oi := { dst := some 27, op := Go.Op.assign (Go.Operand.tmp 175), type := 28, pos := "outright.go:200", after := #[{ on := 12, ground := Go.Ground.data }, { on := 13, ground := Go.Ground.chain }, { on := 0, ground := Go.Ground.phase }, { on := 1, ground := Go.Ground.phase }, { on := 2, ground := Go.Ground.phase }, { on := 3, ground := Go.Ground.phase }, { on := 4, ground := Go.Ground.phase }, { on := 5, ground := Go.Ground.phase }, { on := 6, ground := Go.Ground.phase }, { on := 7, ground := Go.Ground.phase }, { on := 8, ground := Go.Ground.phase }, { on := 9, ground := Go.Ground.phase }, { on := 10, ground := Go.Ground.phase }, { on := 11, ground := Go.Ground.phase }, { on := 12, ground := Go.Ground.phase }, { on := 13, ground := Go.Ground.phase }], guard := none }) (v := .int .i64 0) rfl (by kernel_rfl) (by kernel_rfl) (by kernel_rfl) (fun _ _ _ h => h) (Or.inl ⟨by rfl, by intro w2 hSw; (try dsimp only at hSw); go_simp⟩) hS1 ?_
    try simp only [Act.put, List.setIfInBounds_toArray, List.set_cons_zero, List.set_cons_succ]
    refine wpAnyH_done (by kernel_rfl) ?_ _
    have hb := hS1
    clear rc y0 z0
    replace S := Lib.hid (S.out.below hb (Nat.le_refl _))
    replace X := Lib.hid (X.out.below hb (Nat.le_refl _))
    replace HI := Lib.hid (HI.out.below hb (Nat.le_refl _))
    replace B := Lib.hid (B.out.trans (hb.mono B.out.size))
    replace hrow := Lib.hid ((hb.block R (lt_of_block hrow.out)).trans hrow.out)
    have HY1 := Lib.hid ((hb.cell (p := ⟨bo, oo + hh, none⟩) (lt_of_cell HY0.out)).trans HY0.out)
    clear hb hS0 hS1 HY0
    obtain ⟨w9, rfl⟩ : ∃ w9, w9 = V1 := ⟨_, rfl⟩
    cases gb
    · clear Hgb
      go_wp2_with fail
      try clear rc
      refine (works14 w9).mono ?_
      rintro en w10 ⟨rfl, hb⟩
      replace B := Lib.hid (B.out.trans (hb.mono B.out.size))
      clear hb
      go_wp2_with fail
      go_ret
      exact ⟨rfl, B.out⟩
    have Heq := Lib.hid (of_decide_eq_true Hgb.out)
    clear Hgb
    have hbE := below_alloc_ w9 (.cells #[] 38)
    have hrE := heap_alloc_new_ w9 (.cells #[] 38)
    obtain ⟨g, cp, cs, wA, r1, hgA, hgs, hmc, hcs, hbA⟩ := app_cpL (cap2 := cap2) hrE (X.out.below hbE (Nat.le_refl _)) (by omega) (by omega)
    have hbE2 := below_alloc_ wA (.cells #[] 3)
    have hsE2 := al_sz wA (.cells #[] 3)
    obtain ⟨g2, cp2, wB, r2, hRB, hg2s, hlc, hbB⟩ := app_cpI (E0 := wA.heap.size) (cap2 := ch) (((HI.out.below hbE (Nat.le_refl _)).below hbA (Nat.le_refl _)).below hbE2 (Nat.le_refl _)) (by omega) (by omega)
    have hsA := hbA.size
    have hbEB := hbA.trans ((hbE2.trans (hbB.mono hbE2.size)).mono hbA.size)
    have hglt := lt_of_block hgA
    have hgB : wB.heap[g]? = some (.cells cs 38 (0, 0)) := (hbB.block g (by omega)).trans ((hbE2.block g hglt).trans hgA)
    obtain ⟨q1, q2, q3, q4⟩ := oth_done (x := x) (cp2 := cp2) (h := hh) (i := ii) hbEB hgB hgs hcs hRB (by omega) (by omega) lh Hlen.out li Hll.out hlc
    obtain ⟨C9, c9, hv9, -, -⟩ := hcs hh lh
    have cgB : wB.cell? ⟨g, hh, none⟩ = some (.slice C9 (lAt L hh).length c9) := by rw [cell_row hgB]; exact hv9
    have fgB : wB.frozen? ⟨g, hh, none⟩ = false := frozen_row hgB
    have y1 : (wA.alloc (.cells #[] 3)).cell? ⟨bo, oo + hh, none⟩ = some (.slice (some ⟨bh, oh, none⟩) ll ch) := ((hbE.trans ((hbA.trans (hbE2.mono hbA.size)).mono hbE.size)).cell (p := ⟨bo, oo + hh, none⟩) (lt_of_cell HY1.out)).trans HY1.out
    have cq2 := q2.cell (j := ii) (by rw [Hll.out]; exact li)
    have fq2 := q2.fz ii
    have hb := hbE.trans (q4.mono hbE.size)
    obtain ⟨wC, hWC⟩ : ∃ wC, wB.setCell ⟨g, hh, none⟩ (.slice (some ⟨g2, 0, none⟩) ll cp2) = wC := ⟨_, rfl⟩
    rw [hWC] at q1 cq2 fq2 q3 q4 hb
    obtain ⟨w10, hWD⟩ : ∃ w10, wC.setCell ⟨g2, ii, none⟩ (.int .i64 x) = w10 := ⟨_, rfl⟩
    rw [hWD] at q3 q4 hb
    have R1 := Lib.hid r1
    have R2 := Lib.hid r2
    have Q3 := Lib.hid q3
    clear hbE hrE r1 hgA hgs hcs hbA hbE2 hsE2 r2 hRB hg2s hbB hsA hbEB hglt hgB q2 q3 q4 hv9
    replace S := Lib.hid (S.out.below hb (Nat.le_refl _))
    replace X := Lib.hid (X.out.below hb (Nat.le_refl _))
    replace HI := Lib.hid (HI.out.below hb (Nat.le_refl _))
    replace B := Lib.hid (B.out.trans (hb.mono B.out.size))
    replace hrow := Lib.hid ((hb.block R (lt_of_block hrow.out)).trans hrow.out)
    clear hb HY1 HI
    have rc : w10.cell? ⟨R, 0, none⟩ = some (.slice A n cap) := by rw [cell_row hrow.out]; rfl
    go_wp2_with fail
    try rw [R1.out]
    try go_wp2_with fail
    try rw [R2.out]
    try go_wp2_with fail
    clear hWC hWD cgB fgB y1 cq2 fq2 q1 R1 R2
    refine (matchesQ (matches17 A n cap zs (some ⟨bo, oo, none⟩) m cap2 L w10 S.out X.out (by omega))).mono ?_
    rintro en w11 ⟨hb, C1, N1, c1, rfl, hl1, -⟩
    replace S := Lib.hid (S.out.below hb (Nat.le_refl _))
    replace X := Lib.hid (X.out.below hb (Nat.le_refl _))
    replace Q3 := Lib.hid (Q3.out.below hb (Nat.le_refl _))
    replace B := Lib.hid (B.out.trans (hb.mono B.out.size))
    replace hrow := Lib.hid ((hb.block R (lt_of_block hrow.out)).trans hrow.out)
    try clear rc
    have P1 := Lib.hid hl1
    clear hl1
    rw [Hck.out]
    clear hb
    have rc : w11.cell? ⟨R, 0, none⟩ = some (.slice A n cap) := by rw [cell_row hrow.out]; rfl
    go_wp2_with fail
    refine (matchesQ (matches17 A n cap zs (some ⟨g, 0, none⟩) m cp (othL L hh ii x) w11 S.out Q3.out (by omega))).mono ?_
    rintro en w12 ⟨hb, C2, N2, c2, rfl, hl2, -⟩
    replace S := Lib.hid (S.out.below hb (Nat.le_refl _))
    replace X := Lib.hid (X.out.below hb (Nat.le_refl _))
    replace Q3 := Lib.hid (Q3.out.below hb (Nat.le_refl _))
    replace P1 := Lib.hid (P1.out.below hb (Nat.le_refl _))
    replace B := Lib.hid (B.out.trans (hb.mono B.out.size))
    replace hrow := Lib.hid ((hb.block R (lt_of_block hrow.out)).trans hrow.out)
    try clear rc
    rw [mtR_oth Hck.out (by rw [Hlen.out]; exact lh) (by rw [Hll.out]; exact li) Rx.out (by rw [Hwv.out]; exact Heq.out)] at hl2
    have P2 := Lib.hid hl2
    clear hl2
    rw [chkL_oth Hck.out (by rw [Hlen.out]; exact lh) Rx.out]
    clear hb
    have rc : w12.cell? ⟨R, 0, none⟩ = some (.slice A n cap) := by rw [cell_row hrow.out]; rfl
    go_wp2_with fail
    refine (matches23 C1 N1 c1 (mtR zs L m) C2 N2 c2 (mtR zs L m) w12 P1.out P2.out (fun j _ => Nat.le_trans (lAt_le (mtR_len Hlen.out).2 j) (by omega)) (by rw [← P1.out.1]; exact Nat.le_trans (mtR_len Hlen.out).1 (by omega))).mono ?_
    rintro en w13 ⟨rfl, hb⟩
    replace S := Lib.hid (S.out.below hb (Nat.le_refl _))
    replace X := Lib.hid (X.out.below hb (Nat.le_refl _))
    replace Q3 := Lib.hid (Q3.out.below hb (Nat.le_refl _))
    replace P1 := Lib.hid (P1.out.below hb (Nat.le_refl _))
    replace P2 := Lib.hid (P2.out.below hb (Nat.le_refl _))
    replace B := Lib.hid (B.out.trans (hb.mono B.out.size))
    replace hrow := Lib.hid ((hb.block R (lt_of_block hrow.out)).trans hrow.out)
    try clear rc
    rw [decide_eq_true (rfl : mtR zs L m = mtR zs L m)]
    clear hb
    have rc : w13.cell? ⟨R, 0, none⟩ = some (.slice A n cap) := by rw [cell_row hrow.out]; rfl
    go_wp2_with fail
    try clear rc
    refine (works14 w13).mono ?_
    rintro en w14 ⟨rfl, hb⟩
    replace B := Lib.hid (B.out.trans (hb.mono B.out.size))
    clear hb
    go_wp2_with fail
    go_ret
    exact ⟨rfl, B.out⟩
end
end Go.Proofs.Ythdjbapidodlfaa
