/- Stage 5: ListItems. -/
import Derived.Test.YtnodkgejggnehaaIm
import Derived.Test.YtnodkgejggnehaaWo
import Derived.Test.YtnodkgejggnehaaZed
import Derived.Deep.QuietTactic
namespace Go.Proofs.Ytnodkgejggnehaa
set_option linter.unusedSimpArgs false
set_option linter.unusedVariables false
open Go.RowKit Go.Shelf
section
attribute [local go_sem ↓] exec_app at_app
attribute [local go_sem] Oper.semAt_some
set_option maxRecDepth 100000 in
set_option maxHeartbeats 40000000 in
theorem items12 (sl sr : Int) (A : Option Addr) (n cap : Nat) (zs : List Rg) (A2 : Option Addr) (kn kc : Nat) (ks : List Int) (lk : Nat) (w : World) (h : Rgs w A n zs) (hI : Ints w A2 kn ks) (hc9 : n ≤ cap) (hlk : lk ≤ 255) :
    Calls Try.prog 12 #[.agg #[.int .i64 sl, .int .i64 sr, .slice A n cap, .slice A2 kn kc], .int .u8 (lk : Int)] w fun e w' => e = .returned (.bool true) ∧ Below w.heap.size w w' := by
  have hzl := h.1
  have Hzl := Lib.hid hzl
  have Hc9 := Lib.hid hc9
  have Hlk := Lib.hid hlk
  clear hzl hc9 hlk hI
  obtain ⟨R, hR⟩ : ∃ v, w.heap.size = v := ⟨_, rfl⟩
  have hb0 := below_alloc_ w (.cells #[.int .i64 sl, .int .i64 sr, .slice A n cap, .slice none 0 0] 25)
  have hr0 := heap_alloc_new_ w (.cells #[.int .i64 sl, .int .i64 sr, .slice A n cap, .slice none 0 0] 25)
  have hz0 : (w.alloc (.cells #[.int .i64 sl, .int .i64 sr, .slice A n cap, .slice none 0 0] 25)).heap.size = w.heap.size + 1 := by simp
  obtain ⟨w0, hw0⟩ : ∃ v, w.alloc (.cells #[.int .i64 sl, .int .i64 sr, .slice A n cap, .slice none 0 0] 25) = v := ⟨_, rfl⟩
  rw [hw0] at hb0 hr0 hz0
  rw [hR] at hr0 hz0
  have hB := hb0
  have X := Lib.hid (h.below hB (Nat.le_refl _))
  have HS := Lib.hid hr0
  have HW0 := Lib.hid hw0
  have B := Lib.hid hB
  have HR := Lib.hid hR
  clear hB hR hb0 hr0 hz0 hw0 h
  have zHS0 : w0.cell? ⟨R, 0, none⟩ = some (.int .i64 sl) := by rw [cell_row HS.out]; rfl
  have zHS1 : w0.cell? ⟨R, 1, none⟩ = some (.int .i64 sr) := by rw [cell_row HS.out]; rfl
  have zHS2 : w0.cell? ⟨R, 2, none⟩ = some (.slice A n cap) := by rw [cell_row HS.out]; rfl
  have zHS3 : w0.cell? ⟨R, 3, none⟩ = some (.slice none 0 0) := by rw [cell_row HS.out]; rfl
  have HRw := HR
  go_enter Try.func12, Try.ntmps12
  go_wp2_with fail
  try rw [HW0.out]
  try rw [HR.out]
  try simp only [Nat.add_assoc, Nat.reduceAdd]
  try go_wp2_with fail
  clear zHS0 zHS1 zHS2 zHS3
  refine (fine32 sl sr A n cap zs none 0 0 [] w0 X.out (ints_nil_ _) Hc9.out).mono ?_
  rintro en w1 ⟨rfl, hb⟩
  replace X := Lib.hid (X.out.below hb (Nat.le_refl _))
  replace HS := Lib.hid ((hb.block _ (lt_of_block HS.out)).trans HS.out)
  replace B := Lib.hid (B.out.trans (hb.mono B.out.size))
  cases hf : finB sl sr n 0 zs []
  try clear hb
  · clear hf
    have zHS0 : w1.cell? ⟨R, 0, none⟩ = some (.int .i64 sl) := by rw [cell_row HS.out]; rfl
    have zHS1 : w1.cell? ⟨R, 1, none⟩ = some (.int .i64 sr) := by rw [cell_row HS.out]; rfl
    have zHS2 : w1.cell? ⟨R, 2, none⟩ = some (.slice A n cap) := by rw [cell_row HS.out]; rfl
    have zHS3 : w1.cell? ⟨R, 3, none⟩ = some (.slice none 0 0) := by rw [cell_row HS.out]; rfl
    go_wp2_with fail
    clear zHS0 zHS1 zHS2 zHS3
    refine (works15 w1).mono ?_
    rintro en w2 ⟨rfl, hb⟩
    replace B := Lib.hid (B.out.trans (hb.mono B.out.size))
    clear hb
    go_wp2_with fail
    go_ret
    exact ⟨rfl, B.out⟩
  obtain ⟨hn50, -, he⟩ := fin_yes hf
  clear hf
  have hrg := (shg_of he).rng
  obtain ⟨c, hc, hc12, hc1⟩ : ∃ c : Nat, sl = (c : Int) ∧ c ≤ 12 ∧ 1 ≤ c := ⟨sl.toNat, by omega, by omega, by omega⟩
  subst hc
  have hk50 : (0 : Nat) ≤ 50 := by omega
  obtain ⟨sN, hsN⟩ : ∃ v, siz n zs [] = v := ⟨_, rfl⟩
  have HsN := Lib.hid hsN
  have hs12 : sN ≤ 10000 := by
    rw [← hsN]
    obtain ⟨p, hp⟩ := gre_ex (shn_of he Hzl.out)
    rw [← hp.2]
    unfold cntP
    have := List.length_filter_le p (List.range n)
    rw [List.length_range] at this
    omega
  have Hs12 := Lib.hid hs12
  have He := Lib.hid he
  have Hn := Lib.hid hn50
  have Hk := Lib.hid hk50
  have HSh := Lib.hid (shn_of he Hzl.out)
  clear hs12 hsN he hn50 hk50
  have hlkb := Hlk.out
  have hcp : (0 : Int) < (c : Int) := by omega
  have hci : ¬ (c : Int) = 0 := by omega
  obtain ⟨i, hi, hic⟩ : ∃ i : Nat, (lk : Int) % (c : Int) = (i : Int) ∧ i < c := ⟨lk % c, by omega, Nat.mod_lt _ (by omega)⟩
  have hit : (lk : Int).tmod (c : Int) = (i : Int) := by rw [Int.tmod_eq_emod_of_nonneg (by omega)]; exact hi
  have Hic := Lib.hid hic
  have zHS0 : w1.cell? ⟨R, 0, none⟩ = some (.int .i64 (c : Int)) := by rw [cell_row HS.out]; rfl
  have zHS1 : w1.cell? ⟨R, 1, none⟩ = some (.int .i64 sr) := by rw [cell_row HS.out]; rfl
  have zHS2 : w1.cell? ⟨R, 2, none⟩ = some (.slice A n cap) := by rw [cell_row HS.out]; rfl
  have zHS3 : w1.cell? ⟨R, 3, none⟩ = some (.slice none 0 0) := by rw [cell_row HS.out]; rfl
  go_wp2_with fail
  clear zHS0 zHS1 zHS2 zHS3
  refine (items27 (c : Int) sr A n cap zs none 0 0 [] false w1 X.out (ints_nil_ _) Hc9.out (by have := Hn.out; omega) (by omega) He.out).mono ?_
  rintro en w2 ⟨CI, c', ci, hc', rfl, hci', hii, -, hb⟩
  replace X := Lib.hid (X.out.below hb (Nat.le_refl _))
  replace HS := Lib.hid ((hb.block _ (lt_of_block HS.out)).trans HS.out)
  replace B := Lib.hid (B.out.trans (hb.mono B.out.size))
  obtain rfl : c = c' := by rw [if_neg (by simp)] at hc'; omega
  rw [if_neg (by simp)] at hii
  have HP := Lib.hid hii
  clear hii hc' hci' hi hit
  try clear hb
  have zHS0 : w2.cell? ⟨R, 0, none⟩ = some (.int .i64 (c : Int)) := by rw [cell_row HS.out]; rfl
  have zHS1 : w2.cell? ⟨R, 1, none⟩ = some (.int .i64 sr) := by rw [cell_row HS.out]; rfl
  have zHS2 : w2.cell? ⟨R, 2, none⟩ = some (.slice A n cap) := by rw [cell_row HS.out]; rfl
  have zHS3 : w2.cell? ⟨R, 3, none⟩ = some (.slice none 0 0) := by rw [cell_row HS.out]; rfl
  go_wp2_with fail
  clear zHS0 zHS1 zHS2 zHS3
  refine (kinds25 (c : Int) sr A n cap zs none 0 0 [] w2 X.out (ints_nil_ _) Hc9.out (by have := Hn.out; omega) (by omega) He.out).mono ?_
  rintro en w3 ⟨CK, ck, rfl, hck, hik, -, hb⟩
  replace X := Lib.hid (X.out.below hb (Nat.le_refl _))
  replace HP := Lib.hid (HP.out.below hb (Nat.le_refl _))
  replace HS := Lib.hid ((hb.block _ (lt_of_block HS.out)).trans HS.out)
  replace B := Lib.hid (B.out.trans (hb.mono B.out.size))
  have HKA := Lib.hid hik
  clear hik hck
  try clear hb
  have zHS0 : w3.cell? ⟨R, 0, none⟩ = some (.int .i64 (c : Int)) := by rw [cell_row HS.out]; rfl
  have zHS1 : w3.cell? ⟨R, 1, none⟩ = some (.int .i64 sr) := by rw [cell_row HS.out]; rfl
  have zHS2 : w3.cell? ⟨R, 2, none⟩ = some (.slice A n cap) := by rw [cell_row HS.out]; rfl
  have zHS3 : w3.cell? ⟨R, 3, none⟩ = some (.slice none 0 0) := by rw [cell_row HS.out]; rfl
  go_wp2_with fail
  clear zHS0 zHS1 zHS2 zHS3
  refine (greatest22 (c : Int) sr A n cap zs none 0 0 [] w3 X.out (ints_nil_ _) Hc9.out (by have := Hn.out; omega) (by omega) He.out).mono ?_
  rintro en w4 ⟨QG, pt, rfl, hgb, hQ8, hig, hb⟩
  replace X := Lib.hid (X.out.below hb (Nat.le_refl _))
  replace HP := Lib.hid (HP.out.below hb (Nat.le_refl _))
  replace HKA := Lib.hid (HKA.out.below hb (Nat.le_refl _))
  replace HS := Lib.hid ((hb.block _ (lt_of_block HS.out)).trans HS.out)
  replace B := Lib.hid (B.out.trans (hb.mono B.out.size))
  have hlen := gb_len He.out Hzl.out hgb
  have hch := gb_chk He.out Hzl.out hgb
  change _ = siz n zs [] at hlen
  rw [HsN.out] at hlen
  obtain ⟨gl, hgl⟩ : ∃ v, jI n zs pt = v := ⟨_, rfl⟩
  rw [hgl] at hlen hch hig ⊢
  rw [hlen] at hig ⊢
  have HG := Lib.hid hig
  have Hch := Lib.hid hch
  clear hgb hQ8 hig hch hlen hgl
  try clear hb
  clear HG Hch
  have dn : ((n : Int) != (n : Int)) = false := by simp
  have dc : ((c : Int) != (c : Int)) = false := by simp
  have zHS0 : w4.cell? ⟨R, 0, none⟩ = some (.int .i64 (c : Int)) := by rw [cell_row HS.out]; rfl
  have zHS1 : w4.cell? ⟨R, 1, none⟩ = some (.int .i64 sr) := by rw [cell_row HS.out]; rfl
  have zHS2 : w4.cell? ⟨R, 2, none⟩ = some (.slice A n cap) := by rw [cell_row HS.out]; rfl
  have zHS3 : w4.cell? ⟨R, 3, none⟩ = some (.slice none 0 0) := by rw [cell_row HS.out]; rfl
  have hzl := lt_of_block HS.out
  have XA := X
  have PA := HP
  have KA := HKA
  have SA := HS
  have BA := B
  have hb := below_alloc_ w4 (.cells #[.int .i64 (c : Int), .int .i64 sr, .slice none 0 0, .slice none 0 0] 25)
  have hr := heap_alloc_new_ w4 (.cells #[.int .i64 (c : Int), .int .i64 sr, .slice none 0 0, .slice none 0 0] 25)
  obtain ⟨w5, hw5⟩ : ∃ v, w4.alloc (.cells #[.int .i64 (c : Int), .int .i64 sr, .slice none 0 0, .slice none 0 0] 25) = v := ⟨_, rfl⟩
  obtain ⟨Y, hY⟩ : ∃ v, w4.heap.size = v := ⟨_, rfl⟩
  rw [hw5] at hb hr
  rw [hY] at hr
  have Hw5 := Lib.hid hw5
  have HY := Lib.hid hY
  clear hw5 hY
  replace X := Lib.hid (X.out.below hb (Nat.le_refl _))
  replace HP := Lib.hid (HP.out.below hb (Nat.le_refl _))
  replace HKA := Lib.hid (HKA.out.below hb (Nat.le_refl _))
  replace HS := Lib.hid ((hb.block _ (lt_of_block HS.out)).trans HS.out)
  replace B := Lib.hid (B.out.trans (hb.mono B.out.size))
  clear hb
  have hsz1 : w5.heap.size = Y + 1 := by rw [← Hw5.out, ← HY.out]; simp
  have hzA : w4.heap.size = Y := HY.out
  have hab : Below Y w4 w5 := by have h9 := below_alloc_ w4 (.cells #[.int .i64 (c : Int), .int .i64 sr, .slice none 0 0, .slice none 0 0] 25); rw [Hw5.out, HY.out] at h9; exact h9
  have hRY : R < Y := by rw [← HY.out]; exact lt_of_block SA.out
  have hwR : w.heap.size ≤ Y := by rw [← HY.out]; exact BA.out.size
  have hw0 : WoI Y (Y + 1) (c : Int) sr w5 (nwP zs i 0) [] w5 := ⟨⟨.slice none 0 0, .slice none 0 0, hr, own_nil _ _ _, own_nil _ _ _, fun g e => (by cases e), fun g e => (by cases e), fun g e => (by cases e)⟩, Keeps.refl _ _⟩
  have Hsz1 := Lib.hid (eq_le hsz1)
  have HzA := Lib.hid (eq_le hzA)
  have HbA := Lib.hid hab
  have HW0 := Lib.hid hw0
  clear hsz1 hzA hab hw0 hr
  go_wp2_with fail
  try rw [Hw5.out]
  try rw [HY.out]
  try go_wp2_with fail
  clear hzl HY Hw5
  clear zHS0 zHS1 zHS2 zHS3
  clear X HP HKA HS B dn dc
  go_loopw [13, 14] (fun mv v wr => ∃ (q : Nat) (mo : Int), q ≤ n ∧ mv = .int .i64 mo ∧ v = .int .i64 (q : Int) ∧ Hid (WoI Y (Y + 1) (c : Int) sr w5 (nwP zs i q) [] wr ∧ IsMx n zs (opnL n zs []) (kNt []) i q mo)) (fun _ v _ => n - (intOf v).toNat)
  case atStart => exact ⟨0, 0, Nat.zero_le _, rfl, rfl, Lib.hid ⟨HW0.out, IsMx.start _ _ _ _ _⟩⟩
  case round =>
    obtain ⟨q, mo, hq, rfl, rfl, HV⟩ := hrel
    obtain ⟨w6, rfl⟩ : ∃ v, v = wr := ⟨_, rfl⟩
    have HM := Lib.hid HV.out.2
    have hb : Below Y w4 w6 := HbA.out.trans (HV.out.1.keep.below (by have := Hsz1.out.2; omega) (fun j hj e => by omega))
    have X := Lib.hid (XA.out.below hb (by have := HzA.out; omega))
    have HP := Lib.hid (PA.out.below hb (by have := HzA.out; omega))
    have HKA := Lib.hid (KA.out.below hb (by have := HzA.out; omega))
    have HS := Lib.hid ((hb.block _ hRY).trans SA.out)
    have B := Lib.hid (BA.out.trans (hb.mono hwR))
    clear hb
    by_cases hlt : q < n
    · have zHS0 : w6.cell? ⟨R, 0, none⟩ = some (.int .i64 (c : Int)) := by rw [cell_row HS.out]; rfl
      have zHS1 : w6.cell? ⟨R, 1, none⟩ = some (.int .i64 sr) := by rw [cell_row HS.out]; rfl
      have zHS2 : w6.cell? ⟨R, 2, none⟩ = some (.slice A n cap) := by rw [cell_row HS.out]; rfl
      have zHS3 : w6.cell? ⟨R, 3, none⟩ = some (.slice none 0 0) := by rw [cell_row HS.out]; rfl
      have hnb := Hn.out
      obtain ⟨bz, oz, eZ, hcz⟩ := X.out.2 (by omega)
      have hbz : bz < Y := by
        obtain ⟨b9, o9, e9, hc9⟩ := XA.out.2 (by omega)
        rw [eZ] at e9; cases e9
        have h1 := lt_of_cell (hc9 0 (by omega)).1
        have h2 := HzA.out; omega
      subst eZ
      have Hbz := Lib.hid hbz
      clear hbz
      have hzat := (HSh.out.z.at hlt).1
      have cA := (hcz q hlt).1
      have cB := (hcz q hlt).2
      rw [hzat] at cA cB
      simp only at cA cB
      obtain ⟨ga, hga⟩ : ∃ v, eN zs 0 q = v := ⟨_, rfl⟩
      obtain ⟨gb, hgb⟩ : ∃ v, eN zs 1 q = v := ⟨_, rfl⟩
      rw [hga, hgb] at hzat
      rw [hga] at cA
      rw [hgb] at cB
      have i0 : (0 : Int) ≤ (q : Int) := by omega
      have i1 : (q : Int) < (n : Int) := by omega
      have Hga := Lib.hid hga
      have Hzat := Lib.hid hzat
      clear hcz hga hgb hzat
      by_cases he : ga = i
      · have d1 : ((ga : Int) == (i : Int)) = true := by simp [he]
        have d2 : (ga == i) = true := by simp [he]
        have hmx := HM.out.yes (Hga.out.trans he)
        have hno := nwP_no (zs := zs) (Hga.out.trans he)
        obtain ⟨bk, ok, rfl, hck⟩ := HKA.out.2 (by omega)
        have x0 := hck q hlt
        rw [kindsK_at hlt] at x0
        obtain ⟨kk, hkk⟩ : ∃ v, kindS n zs (opnL n zs []) (kNt []) q = v := ⟨_, rfl⟩
        rw [hkk] at x0 hmx
        have HN := Lib.hid (show WoI Y (Y + 1) (c : Int) sr w5 (nwP zs i (q + 1)) [] w6 ∧ IsMx n zs (opnL n zs []) (kNt []) i (q + 1) (max mo kk) from ⟨by rw [hno]; exact HV.out.1, hmx⟩)
        clear hmx hno hck hkk he
        go_wp2_with fail
        go_roundw
        case rel => exact ⟨q + 1, _, by omega, rfl, by go_num, HN⟩
        case measure => simp [intOf]; omega
      · have d1 : ((ga : Int) == (i : Int)) = false := by rw [beq_eq_false_iff_ne]; omega
        have d2 : (ga == i) = false := by rw [beq_eq_false_iff_ne]; exact he
        have hmx := HM.out.no (fun e => he (Hga.out.symm.trans e))
        have hys := nwP_yes (zs := zs) (fun e => he (Hga.out.symm.trans e))
        rw [Hzat.out] at hys
        obtain ⟨vL, vK, hX0, hvL, hnext⟩ := HV.out.1.link (by omega) (by have := Hsz1.out; omega) (by have := nwP_len (zs := zs) i q; omega) (ga : Int) (gb : Int)
        have Hmx := Lib.hid hmx
        have Hys := Lib.hid hys
        have HX0 := Lib.hid hX0
        have Hnext := Lib.hid hnext
        clear hmx hys hX0 hvL hnext
        go_wp2_with fail
        have hwY : Y + 1 ≤ w6.heap.size := by have := HV.out.1.keep.size; have := Hsz1.out; omega
        refine Zed.region_z (z := 10) (S := fun W' => Keeps (fun j => Y + 1 ≤ j) w6 W') (by kernel_rfl) (Keeps.of_new (drew_b w6 1)) (fun hS0 => ?_)
        refine Zed.anyZ_take (i := 0) (oi := { dst := some 93, op := Go.Op.fieldAddr 25 (Go.Operand.tmp 12) 2, type := 0, pos := "outright.go:216", after := #[], guard := none }) (v := .pointer (some ⟨Y, 2, none⟩)) rfl (by decide) (by kernel_rfl) (by kernel_rfl) (by kernel_rfl) (by kernel_rfl) (fun _ _ _ h => h) (Or.inl ⟨by rfl, by intro w2 hSw; (try dsimp only at hSw); go_simp⟩) hS0 ?_
        try simp only [Act.put, List.setIfInBounds_toArray, List.set_cons_zero, List.set_cons_succ]
        refine Zed.anyZ_take (i := 1) (oi := { dst := some 94, op := Go.Op.load 22 (Go.Operand.tmp 93), type := 22, pos := "outright.go:216", after := #[{ on := 0, ground := Go.Ground.data }], guard := none }) (v := vL) rfl (by decide) (by kernel_rfl) (by kernel_rfl) (by kernel_rfl) (by kernel_rfl) (fun _ _ _ h => h) (Or.inl ⟨by rfl, by intro w2 hSw; (try dsimp only at hSw); have y0 := (hSw.block _ (lt_of_block HX0.out) (by omega)).trans HX0.out; have y1 : w2.cell? ⟨Y, 2, none⟩ = some vL := by {rw [cell_row y0]; rfl}; go_simp⟩) hS0 ?_
        try simp only [Act.put, List.setIfInBounds_toArray, List.set_cons_zero, List.set_cons_succ]
        refine Zed.anyZ_take (i := 2) (oi := { dst := some 95, op := Go.Op.fieldAddr 25 (Go.Operand.tmp 2) 2, type := 0, pos := "outright.go:216", after := #[], guard := none }) (v := .pointer (some ⟨R, 2, none⟩)) rfl (by decide) (by kernel_rfl) (by kernel_rfl) (by kernel_rfl) (by kernel_rfl) (fun _ _ _ h => h) (Or.inl ⟨by rfl, by intro w2 hSw; (try dsimp only at hSw); go_simp⟩) hS0 ?_
        try simp only [Act.put, List.setIfInBounds_toArray, List.set_cons_zero, List.set_cons_succ]
        refine Zed.anyZ_take (i := 3) (oi := { dst := some 96, op := Go.Op.load 22 (Go.Operand.tmp 95), type := 22, pos := "outright.go:216", after := #[{ on := 2, ground := Go.Ground.data }], guard := none }) (v := .slice (some ⟨bz, oz, none⟩) n cap) rfl (by decide) (by kernel_rfl) (by kernel_rfl) (by kernel_rfl) (by kernel_rfl) (fun _ _ _ h => h) (Or.inl ⟨by rfl, by intro w2 hSw; (try dsimp only at hSw); have y0 := (hSw.block _ (lt_of_block HS.out) (by omega)).trans HS.out; have y1 : w2.cell? ⟨R, 2, none⟩ = some (.slice (some ⟨bz, oz, none⟩) n cap) := by {rw [cell_row y0]; rfl}; go_simp⟩) hS0 ?_
        try simp only [Act.put, List.setIfInBounds_toArray, List.set_cons_zero, List.set_cons_succ]
        refine Zed.anyZ_take (i := 4) (oi := { dst := some 97, op := Go.Op.move (Go.Operand.tmp 14), type := 3, pos := "outright.go:216", after := #[], guard := none }) (v := .int .i64 (q : Int)) rfl (by decide) (by kernel_rfl) (by kernel_rfl) (by kernel_rfl) (by kernel_rfl) (fun _ _ _ h => h) (Or.inl ⟨by rfl, by intro w2 hSw; (try dsimp only at hSw); go_simp⟩) hS0 ?_
        try simp only [Act.put, List.setIfInBounds_toArray, List.set_cons_zero, List.set_cons_succ]
        refine Zed.anyZ_take (i := 5) (oi := { dst := some 98, op := Go.Op.indexAddr 22 (Go.Operand.tmp 96) (Go.Operand.tmp 97), type := 0, pos := "outright.go:216", after := #[{ on := 3, ground := Go.Ground.data }, { on := 4, ground := Go.Ground.data }], guard := none }) (v := .pointer (some ⟨bz, oz + q * 2, none⟩)) rfl (by decide) (by kernel_rfl) (by kernel_rfl) (by kernel_rfl) (by kernel_rfl) (fun _ _ _ h => h) (Or.inl ⟨by rfl, by intro w2 hSw; (try dsimp only at hSw); go_simp⟩) hS0 ?_
        try simp only [Act.put, List.setIfInBounds_toArray, List.set_cons_zero, List.set_cons_succ]
        refine Zed.anyZ_take (i := 6) (oi := { dst := some 99, op := Go.Op.load 55 (Go.Operand.tmp 98), type := 55, pos := "outright.go:216", after := #[{ on := 5, ground := Go.Ground.data }], guard := none }) (v := .agg #[.int .i64 (ga : Int), .int .i64 (gb : Int)]) rfl (by decide) (by kernel_rfl) (by kernel_rfl) (by kernel_rfl) (by kernel_rfl) (fun _ _ _ h => h) (Or.inl ⟨by rfl, by intro w2 hSw; (try dsimp only at hSw); have y0 := (keep_cells hSw (lt_of_cell cA) (by have := Hbz.out; omega) _).trans cA; have y1 := (keep_cells hSw (lt_of_cell cB) (by have := Hbz.out; omega) _).trans cB; go_simp⟩) hS0 ?_
        try simp only [Act.put, List.setIfInBounds_toArray, List.set_cons_zero, List.set_cons_succ]
        obtain ⟨X2, hX2⟩ : ∃ v, w6.drew = v := ⟨_, rfl⟩
        have hkX : Keeps (fun _ => False) w6 X2 := by rw [← hX2]; exact Keeps.of_new (drew_b w6 1)
        rw [hX2] at hS0 ⊢
        clear hX2
        refine Zed.anyZ_ready (rs := [7]) (by kernel_rfl) (by simp) ?_
        refine Zed.AllZ.cons (o := { dst := some 100, op := Go.Op.buildSlice 22 1 #[(0, Go.Operand.tmp 99)], type := 22, pos := "outright.go:216", after := #[{ on := 6, ground := Go.Ground.data }], guard := none }) rfl (fun K hK => ?_) Zed.AllZ.nil
        go_simp
        have hrE := heap_alloc_new_ X2 (.cells #[.int .i64 (ga : Int), .int .i64 (gb : Int)] 55)
        have hkE : Keeps (fun _ => False) X2 (X2.alloc (.cells #[.int .i64 (ga : Int), .int .i64 (gb : Int)] 55)) := keep_alloc _ _ _
        obtain ⟨V, hV⟩ : ∃ V, X2.alloc (.cells #[.int .i64 (ga : Int), .int .i64 (gb : Int)] 55) = V := ⟨_, rfl⟩
        obtain ⟨P, hP⟩ : ∃ P, X2.heap.size = P := ⟨_, rfl⟩
        rw [hV] at hrE hkE ⊢
        rw [hP] at hrE ⊢
        clear hV hP
        refine hK.out _ _ (fun _ => (hS0.trans hkE.none)) (fun hS10 => ?_)
        have hS1 := hS10 (by decide)
        clear hK K hS10
        try simp only [Act.put, List.setIfInBounds_toArray, List.set_cons_zero, List.set_cons_succ]
        obtain ⟨C9, c9, W1, hrun, hW1, hkW1, hNX⟩ := Hnext.out V P (hkX.trans hkE) hrE
        refine Zed.anyZ_ready (rs := [8]) (by kernel_rfl) (by simp) ?_
        refine Zed.AllZ.cons (o := { dst := some 101, op := Go.Op.call { callee := Go.Callee.builtin Go.Builtin.append, args := #[Go.Operand.tmp 94, Go.Operand.tmp 100], argTypes := #[22, 22] }, type := 22, pos := "outright.go:216", after := #[{ on := 1, ground := Go.Ground.data }, { on := 7, ground := Go.Ground.data }], guard := none }) rfl (fun K hK => ?_) Zed.AllZ.nil
        go_simp
        try rw [hrun]
        try go_simp
        refine hK.out _ _ (fun _ => hkW1) (fun hS20 => ?_)
        have hS2 := hS20 (by decide)
        clear hK K hS20
        try simp only [Act.put, List.setIfInBounds_toArray, List.set_cons_zero, List.set_cons_succ]
        refine Zed.anyZ_take (i := 9) (oi := { dst := some 102, op := Go.Op.fieldAddr 25 (Go.Operand.tmp 12) 2, type := 0, pos := "outright.go:216", after := #[{ on := 0, ground := Go.Ground.phase }, { on := 1, ground := Go.Ground.phase }, { on := 2, ground := Go.Ground.phase }, { on := 3, ground := Go.Ground.phase }, { on := 4, ground := Go.Ground.phase }, { on := 5, ground := Go.Ground.phase }, { on := 6, ground := Go.Ground.phase }, { on := 7, ground := Go.Ground.phase }, { on := 8, ground := Go.Ground.phase }], guard := none }) (v := .pointer (some ⟨Y, 2, none⟩)) rfl (by decide) (by kernel_rfl) (by kernel_rfl) (by kernel_rfl) (by kernel_rfl) (fun _ _ _ h => h) (Or.inl ⟨by rfl, by intro w2 hSw; (try dsimp only at hSw); go_simp⟩) hS2 ?_
        try simp only [Act.put, List.setIfInBounds_toArray, List.set_cons_zero, List.set_cons_succ]
        refine Zed.anyZ_ready (rs := [10]) (by kernel_rfl) (by simp) ?_
        refine Zed.AllZ.cons (o := { dst := none, op := Go.Op.store 22 (Go.Operand.tmp 102) (Go.Operand.tmp 101), type := 0, pos := "outright.go:216", after := #[{ on := 9, ground := Go.Ground.data }, { on := 8, ground := Go.Ground.data }, { on := 8, ground := Go.Ground.chain }, { on := 0, ground := Go.Ground.phase }, { on := 1, ground := Go.Ground.phase }, { on := 2, ground := Go.Ground.phase }, { on := 3, ground := Go.Ground.phase }, { on := 4, ground := Go.Ground.phase }, { on := 5, ground := Go.Ground.phase }, { on := 6, ground := Go.Ground.phase }, { on := 7, ground := Go.Ground.phase }, { on := 8, ground := Go.Ground.phase }], guard := none }) rfl (fun K hK => ?_) Zed.AllZ.nil
        have s1 : W1.cell? ⟨Y, 2, none⟩ = some vL := by rw [cell_row hW1]; rfl
        have fS := fun o : Nat => frozen_row (k := o) hW1
        go_simp
        refine hK.out _ _ (fun h => absurd rfl h) (fun _ => ?_)
        clear hK K
        try simp only [Act.put, List.setIfInBounds_toArray, List.set_cons_zero, List.set_cons_succ]
        refine Zed.anyZ_done (by kernel_rfl) ?_ _
        have HNX := Lib.hid hNX
        obtain ⟨W9, hW9⟩ : ∃ W9, W1.setCell ⟨Y, 2, none⟩ (.slice C9 ((nwP zs i q).length + 1) c9) = W9 := ⟨_, rfl⟩
        rw [hW9] at HNX ⊢
        have HN := Lib.hid (show WoI Y (Y + 1) (c : Int) sr w5 (nwP zs i (q + 1)) [] W9 ∧ IsMx n zs (opnL n zs []) (kNt []) i (q + 1) mo from ⟨by rw [Hys.out]; exact HNX.out, Hmx.out⟩)
        clear hNX hW1 hkW1 hrun hS2 hS1 hrE hkE hS0 hkX hW9
        go_wp2_with fail
        go_roundw
        case rel => exact ⟨q + 1, mo, by omega, rfl, by go_num, HN⟩
        case measure => simp [intOf]; omega
    · obtain rfl : n = q := by omega
      obtain ⟨vL, vK, h1, h2, h3, -, -, -⟩ := HV.out.1.ex
      obtain ⟨C2, c2, rfl, hc2, hr2, -⟩ := rgs_own rfl h2
      obtain ⟨C3, c3, rfl, hc3, hi3, -⟩ := ints_own rfl h3
      have hch := nw_chk (i := i) He.out Hzl.out
      have H2 := shn_of hch (nw_len i)
      have hit := ik_item HSh.out H2
      have hmt := mx_two HSh.out HM.out
      have hmp := mx_pos HSh.out HM.out
      have hle := nwP_len (zs := zs) i n
      have hl2 := nw_len (n := n) (zs := zs) i
      obtain ⟨n2, hn2⟩ : ∃ v, (nwP zs i n).length = v := ⟨_, rfl⟩
      rw [hn2] at h1 hr2 hle hl2 hc2
      rw [← hl2, HsN.out] at hit
      obtain ⟨s2, hs2⟩ : ∃ v, siz n2 (nwP zs i n) [] = v := ⟨_, rfl⟩
      rw [hs2] at hit
      have Hs2 := Lib.hid hs2
      have HY2 := Lib.hid h1
      have HX2 := Lib.hid hr2
      have HI2 := Lib.hid hi3
      have Hc2 := Lib.hid hc2
      have Hn2 := Lib.hid hn2
      have Hch2 := Lib.hid hch
      have Hle := Lib.hid hle
      have Hit := Lib.hid hit
      have Hmt := Lib.hid hmt
      have Hmp := Lib.hid hmp
      have Hmo := Lib.hid HM.out.2.2
      clear h1 h2 h3 hr2 hi3 hch H2 hit hmt hmp hle hl2 hn2 hs2 HV HM HKA X hc2 hc3
      have zHS0 : w6.cell? ⟨R, 0, none⟩ = some (.int .i64 (c : Int)) := by rw [cell_row HS.out]; rfl
      have zHS1 : w6.cell? ⟨R, 1, none⟩ = some (.int .i64 sr) := by rw [cell_row HS.out]; rfl
      have zHS2 : w6.cell? ⟨R, 2, none⟩ = some (.slice A n cap) := by rw [cell_row HS.out]; rfl
      have zHS3 : w6.cell? ⟨R, 3, none⟩ = some (.slice none 0 0) := by rw [cell_row HS.out]; rfl
      have zHY20 : w6.cell? ⟨Y, 0, none⟩ = some (.int .i64 (c : Int)) := by rw [cell_row HY2.out]; rfl
      have zHY21 : w6.cell? ⟨Y, 1, none⟩ = some (.int .i64 sr) := by rw [cell_row HY2.out]; rfl
      have zHY22 : w6.cell? ⟨Y, 2, none⟩ = some (.slice C2 n2 c2) := by rw [cell_row HY2.out]; rfl
      have zHY23 : w6.cell? ⟨Y, 3, none⟩ = some (.slice C3 ([] : List Int).length c3) := by rw [cell_row HY2.out]; rfl
      go_wp2_with fail
      clear zHS0 zHS1 zHS2 zHS3 zHY20 zHY21 zHY22 zHY23
      refine (greatest22 (c : Int) sr C2 n2 c2 (nwP zs i n) C3 ([] : List Int).length c3 [] w6 HX2.out HI2.out Hc2.out (by have := Hn.out; have := Hle.out; omega) (by simp) Hch2.out).mono ?_
      rintro en w7 ⟨QW, pt, rfl, hgb, hQ8, hig, hb⟩
      replace HP := Lib.hid (HP.out.below hb (Nat.le_refl _))
      replace HX2 := Lib.hid (HX2.out.below hb (Nat.le_refl _))
      replace HI2 := Lib.hid (HI2.out.below hb (Nat.le_refl _))
      replace HS := Lib.hid ((hb.block _ (lt_of_block HS.out)).trans HS.out)
      replace HY2 := Lib.hid ((hb.block _ (lt_of_block HY2.out)).trans HY2.out)
      replace B := Lib.hid (B.out.trans (hb.mono B.out.size))
      have hlen := gb_len Hch2.out Hn2.out hgb
      have hch := gb_chk Hch2.out Hn2.out hgb
      change _ = siz n2 (nwP zs i n) [] at hlen
      rw [Hs2.out] at hlen
      obtain ⟨wl, hgl⟩ : ∃ v, jI n2 (nwP zs i n) pt = v := ⟨_, rfl⟩
      rw [hgl] at hlen hch hig ⊢
      rw [hlen] at hig ⊢
      have HW := Lib.hid hig
      have Hcw := Lib.hid hch
      clear hgb hQ8 hig hch hlen hgl
      try clear hb
      clear HW Hcw HX2 HI2 HY2 HS
      obtain ⟨bp, op, rfl, hcp⟩ := HP.out.2 (by have := Hic.out; omega)
      have x0 := hcp i Hic.out
      have hpi : iAt (ikL n zs (opnL n zs []) (kNt []) 0 c) i = ikS n zs (opnL n zs []) (kNt []) 0 i := by
        rw [iAt_eq (by rw [ikL_len]; exact Hic.out)]; simp [ikL]
      rw [hpi] at x0
      have hpm := ik_may n zs (opnL n zs []) (kNt []) 0 i
      have hit := Hit.out
      have hmt := Hmt.out
      have hmp := Hmp.out
      obtain ⟨pv, hpv⟩ : ∃ v, ikS n zs (opnL n zs []) (kNt []) 0 i = v := ⟨_, rfl⟩
      rw [hpv] at x0 hpm hit hmt hmp
      have hmo := Hmo.out
      have i0 : (0 : Int) ≤ (i : Int) := by omega
      have i1 : (i : Int) < (c : Int) := by have := Hic.out; omega
      clear hcp hpi hpv HP
      rcases hpm with rfl | rfl | rfl
      · have hnl : ¬ s2 < sN := fun e => by have := hit.2 e; omega
        have hnl2 : ¬ (s2 : Int) < (sN : Int) := by omega
        have hm0 : mo = 0 := by
          have : ¬ 0 < mo := fun e => hmp.1 e rfl
          omega
        subst hm0
        clear hit hmt hmp hmo
        go_wp2_with fail
        refine (works15 w7).mono ?_
        rintro en w8 ⟨rfl, hb⟩
        replace B := Lib.hid (B.out.trans (hb.mono B.out.size))
        clear hb
        go_wp2_with fail
        go_ret
        exact ⟨rfl, B.out⟩
      · have hnl : ¬ s2 < sN := fun e => by have := hit.2 e; omega
        have hnl2 : ¬ (s2 : Int) < (sN : Int) := by omega
        have hp : 0 < mo := hmp.2 (by decide)
        have hm2 : mo ≠ 2 := fun e => by have := hmt e; omega
        have d1 : (mo != 2) = true := by rw [bne_iff_ne]; exact hm2
        clear hit hmt hmp hmo hm2
        go_wp2_with fail
        refine (works15 w7).mono ?_
        rintro en w8 ⟨rfl, hb⟩
        replace B := Lib.hid (B.out.trans (hb.mono B.out.size))
        clear hb
        go_wp2_with fail
        go_ret
        exact ⟨rfl, B.out⟩
      · have hnl : s2 < sN := hit.1 rfl
        have hnl2 : (s2 : Int) < (sN : Int) := by omega
        have hp : 0 < mo := hmp.2 (by decide)
        clear hit hmt hmp hmo
        by_cases hm2 : mo = 2
        · subst hm2
          go_wp2_with fail
          refine (works15 w7).mono ?_
          rintro en w8 ⟨rfl, hb⟩
          replace B := Lib.hid (B.out.trans (hb.mono B.out.size))
          clear hb
          go_wp2_with fail
          go_ret
          exact ⟨rfl, B.out⟩
        · have d1 : (mo != 2) = true := by rw [bne_iff_ne]; exact hm2
          clear hm2
          go_wp2_with fail
          refine (works15 w7).mono ?_
          rintro en w8 ⟨rfl, hb⟩
          replace B := Lib.hid (B.out.trans (hb.mono B.out.size))
          clear hb
          go_wp2_with fail
          go_ret
          exact ⟨rfl, B.out⟩
end
end Go.Proofs.Ytnodkgejggnehaa
