/- Stage 5: ListCertain. -/
import Derived.Test.YtnodkgejggnehaaKx
import Derived.Test.YtnodkgejggnehaaWu
import Derived.Deep.RegionHeld3
namespace Go.Proofs.Ytnodkgejggnehaa
set_option linter.unusedSimpArgs false
set_option linter.unusedVariables false
open Go.RowKit Go.Shelf
section
attribute [local go_sem ↓] exec_app at_app
attribute [local go_sem] Oper.semAt_some
set_option maxRecDepth 100000 in
set_option maxHeartbeats 40000000 in
theorem certain8 (sl sr : Int) (A : Option Addr) (n cap : Nat) (zs : List Rg) (A2 : Option Addr) (kn kc : Nat) (ks : List Int) (U : Option Addr) (nu cu : Nat) (us : List Int) (J : Option Addr) (m mc : Nat) (js : List Int) (lk : Nat) (w : World) (h : Rgs w A n zs) (hI : Ints w A2 kn ks) (hU : IntsU w U nu us) (hJ : Ints w J m js) (hc9 : n ≤ cap) (hlk : lk ≤ 255) :
    Calls Try.prog 8 #[.agg #[.int .i64 sl, .int .i64 sr, .slice A n cap, .slice A2 kn kc], .slice U nu cu, .slice J m mc, .int .u8 (lk : Int)] w fun e w' => e = .returned (.bool true) ∧ Below w.heap.size w w' := by
  have hzl := h.1
  have hkl := hI.1
  have Hzl := Lib.hid hzl
  have Hkl := Lib.hid hkl
  have Hc9 := Lib.hid hc9
  have Hlk := Lib.hid hlk
  clear hzl hkl hc9 hlk
  obtain ⟨R, hR⟩ : ∃ v, w.heap.size = v := ⟨_, rfl⟩
  have hb0 := below_alloc_ w (.cells #[.int .i64 sl, .int .i64 sr, .slice A n cap, .slice A2 kn kc] 25)
  have hr0 := heap_alloc_new_ w (.cells #[.int .i64 sl, .int .i64 sr, .slice A n cap, .slice A2 kn kc] 25)
  have hz0 : (w.alloc (.cells #[.int .i64 sl, .int .i64 sr, .slice A n cap, .slice A2 kn kc] 25)).heap.size = w.heap.size + 1 := by simp
  obtain ⟨w0, hw0⟩ : ∃ v, w.alloc (.cells #[.int .i64 sl, .int .i64 sr, .slice A n cap, .slice A2 kn kc] 25) = v := ⟨_, rfl⟩
  rw [hw0] at hb0 hr0 hz0
  rw [hR] at hr0 hz0
  have hB := hb0
  have X := Lib.hid (h.below hB (Nat.le_refl _))
  have XI := Lib.hid (hI.below hB (Nat.le_refl _))
  have XU := Lib.hid (hU.below hB (Nat.le_refl _))
  have XJ := Lib.hid (hJ.below hB (Nat.le_refl _))
  have HS := Lib.hid hr0
  have HW0 := Lib.hid hw0
  have B := Lib.hid hB
  have HR := Lib.hid hR
  clear hB hR hb0 hr0 hz0 hw0 h hI hU hJ
  have zHS0 : w0.cell? ⟨R, 0, none⟩ = some (.int .i64 sl) := by rw [cell_row HS.out]; rfl
  have zHS1 : w0.cell? ⟨R, 1, none⟩ = some (.int .i64 sr) := by rw [cell_row HS.out]; rfl
  have zHS2 : w0.cell? ⟨R, 2, none⟩ = some (.slice A n cap) := by rw [cell_row HS.out]; rfl
  have zHS3 : w0.cell? ⟨R, 3, none⟩ = some (.slice A2 kn kc) := by rw [cell_row HS.out]; rfl
  go_enter Try.func8, Try.ntmps8
  go_wp2_with fail
  try rw [HW0.out]
  try rw [HR.out]
  try simp only [Nat.add_assoc, Nat.reduceAdd]
  try go_wp2_with fail
  clear zHS0 zHS1 zHS2 zHS3
  refine (fine32 sl sr A n cap zs A2 kn kc ks w0 X.out XI.out Hc9.out).mono ?_
  rintro en w1 ⟨rfl, hb⟩
  replace X := Lib.hid (X.out.below hb (Nat.le_refl _))
  replace XI := Lib.hid (XI.out.below hb (Nat.le_refl _))
  replace XU := Lib.hid (XU.out.below hb (Nat.le_refl _))
  replace XJ := Lib.hid (XJ.out.below hb (Nat.le_refl _))
  replace HS := Lib.hid ((hb.block _ (lt_of_block HS.out)).trans HS.out)
  replace B := Lib.hid (B.out.trans (hb.mono B.out.size))
  cases hf : finB sl sr n kn zs ks
  try clear hb
  · clear hf
    have zHS0 : w1.cell? ⟨R, 0, none⟩ = some (.int .i64 sl) := by rw [cell_row HS.out]; rfl
    have zHS1 : w1.cell? ⟨R, 1, none⟩ = some (.int .i64 sr) := by rw [cell_row HS.out]; rfl
    have zHS2 : w1.cell? ⟨R, 2, none⟩ = some (.slice A n cap) := by rw [cell_row HS.out]; rfl
    have zHS3 : w1.cell? ⟨R, 3, none⟩ = some (.slice A2 kn kc) := by rw [cell_row HS.out]; rfl
    go_wp2_with fail
    clear zHS0 zHS1 zHS2 zHS3
    refine (works15 w1).mono ?_
    rintro en w2 ⟨rfl, hb⟩
    replace B := Lib.hid (B.out.trans (hb.mono B.out.size))
    clear hb
    go_wp2_with fail
    go_ret
    exact ⟨rfl, B.out⟩
  obtain ⟨hn50, hk50, he⟩ := fin_yes hf
  clear hf
  by_cases h0 : 60 < nu
  · have d0 : (60 : Int) < (nu : Int) := by omega
    have zHS0 : w1.cell? ⟨R, 0, none⟩ = some (.int .i64 sl) := by rw [cell_row HS.out]; rfl
    have zHS1 : w1.cell? ⟨R, 1, none⟩ = some (.int .i64 sr) := by rw [cell_row HS.out]; rfl
    have zHS2 : w1.cell? ⟨R, 2, none⟩ = some (.slice A n cap) := by rw [cell_row HS.out]; rfl
    have zHS3 : w1.cell? ⟨R, 3, none⟩ = some (.slice A2 kn kc) := by rw [cell_row HS.out]; rfl
    go_wp2_with fail
    clear zHS0 zHS1 zHS2 zHS3
    refine (works15 w1).mono ?_
    rintro en w2 ⟨rfl, hb⟩
    replace B := Lib.hid (B.out.trans (hb.mono B.out.size))
    clear hb
    go_wp2_with fail
    go_ret
    exact ⟨rfl, B.out⟩
  have d0 : ¬ (60 : Int) < (nu : Int) := by omega
  by_cases h1 : 60 < m
  · have d1 : (60 : Int) < (m : Int) := by omega
    have zHS0 : w1.cell? ⟨R, 0, none⟩ = some (.int .i64 sl) := by rw [cell_row HS.out]; rfl
    have zHS1 : w1.cell? ⟨R, 1, none⟩ = some (.int .i64 sr) := by rw [cell_row HS.out]; rfl
    have zHS2 : w1.cell? ⟨R, 2, none⟩ = some (.slice A n cap) := by rw [cell_row HS.out]; rfl
    have zHS3 : w1.cell? ⟨R, 3, none⟩ = some (.slice A2 kn kc) := by rw [cell_row HS.out]; rfl
    go_wp2_with fail
    clear zHS0 zHS1 zHS2 zHS3
    refine (works15 w1).mono ?_
    rintro en w2 ⟨rfl, hb⟩
    replace B := Lib.hid (B.out.trans (hb.mono B.out.size))
    clear hb
    go_wp2_with fail
    go_ret
    exact ⟨rfl, B.out⟩
  have d1 : ¬ (60 : Int) < (m : Int) := by omega
  have zHS0 : w1.cell? ⟨R, 0, none⟩ = some (.int .i64 sl) := by rw [cell_row HS.out]; rfl
  have zHS1 : w1.cell? ⟨R, 1, none⟩ = some (.int .i64 sr) := by rw [cell_row HS.out]; rfl
  have zHS2 : w1.cell? ⟨R, 2, none⟩ = some (.slice A n cap) := by rw [cell_row HS.out]; rfl
  have zHS3 : w1.cell? ⟨R, 3, none⟩ = some (.slice A2 kn kc) := by rw [cell_row HS.out]; rfl
  go_wp2_with fail
  clear zHS0 zHS1 zHS2 zHS3
  have Hu := Lib.hid (show nu ≤ 60 by omega)
  have Hm := Lib.hid (show m ≤ 60 by omega)
  clear h0 h1 d0 d1
  obtain ⟨sN, hsN⟩ : ∃ v, siz n zs ks = v := ⟨_, rfl⟩
  have HsN := Lib.hid hsN
  have hs12 : sN ≤ 10000 := by
    rw [← hsN]
    obtain ⟨p, hp⟩ := gre_ex (shn_of he Hzl.out)
    rw [← hp.2]
    unfold cntP
    have := List.length_filter_le p (List.range n)
    rw [List.length_range] at this
    omega
  have Hs12 := Lib.hid hs12
  have He := Lib.hid he
  have Hn := Lib.hid hn50
  have Hk := Lib.hid hk50
  have HSh := Lib.hid (shn_of he Hzl.out)
  clear hs12 hsN he hn50 hk50
  refine (greatest22 sl sr A n cap zs A2 kn kc ks w1 X.out XI.out Hc9.out (by have := Hn.out; omega) (by have := Hk.out; omega) He.out).mono ?_
  rintro en w2 ⟨QG, pt, rfl, hgb, hQ8, hig, hb⟩
  replace X := Lib.hid (X.out.below hb (Nat.le_refl _))
  replace XI := Lib.hid (XI.out.below hb (Nat.le_refl _))
  replace XU := Lib.hid (XU.out.below hb (Nat.le_refl _))
  replace XJ := Lib.hid (XJ.out.below hb (Nat.le_refl _))
  replace HS := Lib.hid ((hb.block _ (lt_of_block HS.out)).trans HS.out)
  replace B := Lib.hid (B.out.trans (hb.mono B.out.size))
  have hlen := gb_len He.out Hzl.out hgb
  have hch := gb_chk He.out Hzl.out hgb
  change _ = siz n zs ks at hlen
  rw [HsN.out] at hlen
  obtain ⟨gl, hgl⟩ : ∃ v, jI n zs pt = v := ⟨_, rfl⟩
  rw [hgl] at hlen hch hig ⊢
  rw [hlen] at hig ⊢
  have HG := Lib.hid hig
  have Hch := Lib.hid hch
  clear hgb hQ8 hig hch hlen hgl
  try clear hb
  have zHS0 : w2.cell? ⟨R, 0, none⟩ = some (.int .i64 sl) := by rw [cell_row HS.out]; rfl
  have zHS1 : w2.cell? ⟨R, 1, none⟩ = some (.int .i64 sr) := by rw [cell_row HS.out]; rfl
  have zHS2 : w2.cell? ⟨R, 2, none⟩ = some (.slice A n cap) := by rw [cell_row HS.out]; rfl
  have zHS3 : w2.cell? ⟨R, 3, none⟩ = some (.slice A2 kn kc) := by rw [cell_row HS.out]; rfl
  go_wp2_with fail
  clear zHS0 zHS1 zHS2 zHS3
  refine (kinds25 sl sr A n cap zs A2 kn kc ks w2 X.out XI.out Hc9.out (by have := Hn.out; omega) (by have := Hk.out; omega) He.out).mono ?_
  rintro en w3 ⟨CK, ck, rfl, hck, hik, -, hb⟩
  replace X := Lib.hid (X.out.below hb (Nat.le_refl _))
  replace XI := Lib.hid (XI.out.below hb (Nat.le_refl _))
  replace XU := Lib.hid (XU.out.below hb (Nat.le_refl _))
  replace XJ := Lib.hid (XJ.out.below hb (Nat.le_refl _))
  replace HG := Lib.hid (HG.out.below hb (Nat.le_refl _))
  replace HS := Lib.hid ((hb.block _ (lt_of_block HS.out)).trans HS.out)
  replace B := Lib.hid (B.out.trans (hb.mono B.out.size))
  have HKI := Lib.hid hik
  have dn : ((n : Int) != (n : Int)) = false := by simp
  clear hik hck
  try clear hb
  have zHS0 : w3.cell? ⟨R, 0, none⟩ = some (.int .i64 sl) := by rw [cell_row HS.out]; rfl
  have zHS1 : w3.cell? ⟨R, 1, none⟩ = some (.int .i64 sr) := by rw [cell_row HS.out]; rfl
  have zHS2 : w3.cell? ⟨R, 2, none⟩ = some (.slice A n cap) := by rw [cell_row HS.out]; rfl
  have zHS3 : w3.cell? ⟨R, 3, none⟩ = some (.slice A2 kn kc) := by rw [cell_row HS.out]; rfl
  go_wp2_with fail
  clear zHS0 zHS1 zHS2 zHS3
  refine (checkJoining21 sl sr A n cap zs A2 kn kc ks (some ⟨QG, 0, none⟩) sN sN gl w3 X.out XI.out HG.out (by have := Hn.out; omega) (by have := Hk.out; omega) (by have := Hs12.out; omega)).mono ?_
  rintro en w4 ⟨rfl, hb⟩
  replace X := Lib.hid (X.out.below hb (Nat.le_refl _))
  replace XI := Lib.hid (XI.out.below hb (Nat.le_refl _))
  replace XU := Lib.hid (XU.out.below hb (Nat.le_refl _))
  replace XJ := Lib.hid (XJ.out.below hb (Nat.le_refl _))
  replace HG := Lib.hid (HG.out.below hb (Nat.le_refl _))
  replace HKI := Lib.hid (HKI.out.below hb (Nat.le_refl _))
  replace HS := Lib.hid ((hb.block _ (lt_of_block HS.out)).trans HS.out)
  replace B := Lib.hid (B.out.trans (hb.mono B.out.size))
  rw [Hch.out]
  clear dn
  try clear hb
  have zHS0 : w4.cell? ⟨R, 0, none⟩ = some (.int .i64 sl) := by rw [cell_row HS.out]; rfl
  have zHS1 : w4.cell? ⟨R, 1, none⟩ = some (.int .i64 sr) := by rw [cell_row HS.out]; rfl
  have zHS2 : w4.cell? ⟨R, 2, none⟩ = some (.slice A n cap) := by rw [cell_row HS.out]; rfl
  have zHS3 : w4.cell? ⟨R, 3, none⟩ = some (.slice A2 kn kc) := by rw [cell_row HS.out]; rfl
  go_wp2_with fail
  clear zHS0 zHS1 zHS2 zHS3
  refine (by33 sl sr A n cap zs A2 kn kc ks U nu cu us w4 X.out XI.out XU.out Hc9.out Hn.out Hk.out Hu.out He.out).mono ?_
  rintro en w5 ⟨CJ, cj, p, rfl, hcj, hij, hjp, hb⟩
  replace X := Lib.hid (X.out.below hb (Nat.le_refl _))
  replace XI := Lib.hid (XI.out.below hb (Nat.le_refl _))
  replace XU := Lib.hid (XU.out.below hb (Nat.le_refl _))
  replace XJ := Lib.hid (XJ.out.below hb (Nat.le_refl _))
  replace HG := Lib.hid (HG.out.below hb (Nat.le_refl _))
  replace HKI := Lib.hid (HKI.out.below hb (Nat.le_refl _))
  replace HS := Lib.hid ((hb.block _ (lt_of_block HS.out)).trans HS.out)
  replace B := Lib.hid (B.out.trans (hb.mono B.out.size))
  have hle := chj_len (chj_of He.out Hzl.out hjp) Hzl.out
  rw [HsN.out] at hle
  obtain ⟨jl, hjl⟩ : ∃ v, fI p n = v := ⟨_, rfl⟩
  rw [hjl] at hle hij hcj ⊢
  obtain ⟨jn, hjn⟩ : ∃ v, jl.length = v := ⟨_, rfl⟩
  rw [hjn] at hle hij hcj ⊢
  have HJ := Lib.hid hij
  have Hle := Lib.hid hle
  clear hjp hij hle hjl hjn hcj XU
  try clear hb
  go_wp2_with fail
  have hb := below_alloc_ w5 (.cells #[.slice (some ⟨QG, 0, none⟩) sN sN, .slice CJ jn cj, .slice J m mc] 23)
  have hr := heap_alloc_new_ w5 (.cells #[.slice (some ⟨QG, 0, none⟩) sN sN, .slice CJ jn cj, .slice J m mc] 23)
  obtain ⟨w6, hw6⟩ : ∃ v, w5.alloc (.cells #[.slice (some ⟨QG, 0, none⟩) sN sN, .slice CJ jn cj, .slice J m mc] 23) = v := ⟨_, rfl⟩
  obtain ⟨L, hL⟩ : ∃ v, w5.heap.size = v := ⟨_, rfl⟩
  rw [hw6] at hb hr
  rw [hL] at hr
  have Hw6 := Lib.hid hw6
  have HL0 := Lib.hid hL
  clear hw6 hL
  replace X := Lib.hid (X.out.below hb (Nat.le_refl _))
  replace XI := Lib.hid (XI.out.below hb (Nat.le_refl _))
  replace XJ := Lib.hid (XJ.out.below hb (Nat.le_refl _))
  replace HG := Lib.hid (HG.out.below hb (Nat.le_refl _))
  replace HKI := Lib.hid (HKI.out.below hb (Nat.le_refl _))
  replace HJ := Lib.hid (HJ.out.below hb (Nat.le_refl _))
  replace HS := Lib.hid ((hb.block _ (lt_of_block HS.out)).trans HS.out)
  replace B := Lib.hid (B.out.trans (hb.mono B.out.size))
  clear hb
  have HL := Lib.hid hr
  clear hr
  rw [Hw6.out]
  rw [HL0.out]
  go_loopw [14] (fun i wr => ∃ q : Nat, q ≤ 3 ∧ i = .int .i64 (q : Int) ∧ Hid (Below w6.heap.size w6 wr)) (fun i _ => 3 - (intOf i).toNat)
  case atStart => exact ⟨0, by omega, rfl, Lib.hid (Below.refl _ _)⟩
  case round =>
    obtain ⟨q, hq, rfl, HBl⟩ := hrel
    obtain ⟨w7, rfl⟩ : ∃ v, v = wr := ⟨_, rfl⟩
    have hb := HBl.out
    replace X := Lib.hid (X.out.below hb (Nat.le_refl _))
    replace XI := Lib.hid (XI.out.below hb (Nat.le_refl _))
    replace XJ := Lib.hid (XJ.out.below hb (Nat.le_refl _))
    replace HG := Lib.hid (HG.out.below hb (Nat.le_refl _))
    replace HKI := Lib.hid (HKI.out.below hb (Nat.le_refl _))
    replace HJ := Lib.hid (HJ.out.below hb (Nat.le_refl _))
    replace HS := Lib.hid ((hb.block _ (lt_of_block HS.out)).trans HS.out)
    replace HL := Lib.hid ((hb.block _ (lt_of_block HL.out)).trans HL.out)
    replace B := Lib.hid (B.out.trans (hb.mono B.out.size))
    clear hb
    by_cases hlt : q < 3
    · obtain ⟨LA, ll, lc, lv, cL, hlv, hll⟩ : ∃ LA ll lc lv, w7.cell? ⟨L, q, none⟩ = some (.slice LA ll lc) ∧ Ints w7 LA ll lv ∧ ll ≤ 100000 := by
        rcases (by omega : q = 0 ∨ q = 1 ∨ q = 2) with rfl | rfl | rfl
        · exact ⟨_, _, _, _, by rw [cell_row HL.out]; rfl, HG.out, by have := Hs12.out; omega⟩
        · exact ⟨_, _, _, _, by rw [cell_row HL.out]; rfl, HJ.out, by have := Hs12.out; have := Hle.out; omega⟩
        · exact ⟨_, _, _, _, by rw [cell_row HL.out]; rfl, XJ.out, by have := Hm.out; omega⟩
      have XL := Lib.hid hlv
      have HLc0 := cL
      have Hll := Lib.hid hll
      have q0 : (0 : Int) ≤ (q : Int) := by omega
      have q3 : (q : Int) < 3 := by omega
      clear hlv hll
      have zHS0 : w7.cell? ⟨R, 0, none⟩ = some (.int .i64 sl) := by rw [cell_row HS.out]; rfl
      have zHS1 : w7.cell? ⟨R, 1, none⟩ = some (.int .i64 sr) := by rw [cell_row HS.out]; rfl
      have zHS2 : w7.cell? ⟨R, 2, none⟩ = some (.slice A n cap) := by rw [cell_row HS.out]; rfl
      have zHS3 : w7.cell? ⟨R, 3, none⟩ = some (.slice A2 kn kc) := by rw [cell_row HS.out]; rfl
      go_wp2_with fail
      by_cases hls : ll = sN
      rotate_left
      · have d1 : ((ll : Int) != (sN : Int)) = true := by rw [bne_iff_ne]; omega
        clear hls
        refine wp_region_held_drew (S := fun w2 => Below w7.heap.size w7 w2) (by kernel_rfl) (drew_b _ _) (fun hS0 => ?_)
        refine wpAnyH_take (i := 0) (oi := { dst := some 74, op := Go.Op.move (Go.Operand.tmp 13), type := 49, pos := "outright.go:77", after := #[], guard := none }) (v := .slice (some ⟨L, 0, none⟩) 3 3) rfl (by kernel_rfl) (by kernel_rfl) (by kernel_rfl) (fun _ _ _ h => h) (Or.inl ⟨by rfl, by intro w2 hSw; (try dsimp only at hSw); go_simp⟩) hS0 ?_
        try simp only [Act.put, List.setIfInBounds_toArray, List.set_cons_zero, List.set_cons_succ]
        refine wpAnyH_take (i := 1) (oi := { dst := some 75, op := Go.Op.move (Go.Operand.tmp 14), type := 3, pos := "outright.go:77", after := #[], guard := none }) (v := .int .i64 (q : Int)) rfl (by kernel_rfl) (by kernel_rfl) (by kernel_rfl) (fun _ _ _ h => h) (Or.inl ⟨by rfl, by intro w2 hSw; (try dsimp only at hSw); go_simp⟩) hS0 ?_
        try simp only [Act.put, List.setIfInBounds_toArray, List.set_cons_zero, List.set_cons_succ]
        refine wpAnyH_take (i := 2) (oi := { dst := some 76, op := Go.Op.indexAddr 49 (Go.Operand.tmp 74) (Go.Operand.tmp 75), type := 0, pos := "outright.go:77", after := #[{ on := 0, ground := Go.Ground.data }, { on := 1, ground := Go.Ground.data }], guard := none }) (v := .pointer (some ⟨L, q, none⟩)) rfl (by kernel_rfl) (by kernel_rfl) (by kernel_rfl) (fun _ _ _ h => h) (Or.inl ⟨by rfl, by intro w2 hSw; (try dsimp only at hSw); go_simp⟩) hS0 ?_
        try simp only [Act.put, List.setIfInBounds_toArray, List.set_cons_zero, List.set_cons_succ]
        refine wpAnyH_take (i := 3) (oi := { dst := some 77, op := Go.Op.load 23 (Go.Operand.tmp 76), type := 23, pos := "outright.go:77", after := #[{ on := 2, ground := Go.Ground.data }], guard := none }) (v := .slice LA ll lc) rfl (by kernel_rfl) (by kernel_rfl) (by kernel_rfl) (fun _ _ _ h => h) (Or.inl ⟨by rfl, by intro w2 hSw; (try dsimp only at hSw); have y0 := (hSw.cell (lt_of_cell zHS0)).trans zHS0; have y1 := (hSw.cell (lt_of_cell zHS1)).trans zHS1; have y2 := (hSw.cell (lt_of_cell zHS2)).trans zHS2; have y3 := (hSw.cell (lt_of_cell zHS3)).trans zHS3; have y9 := (hSw.cell (lt_of_cell cL)).trans cL; go_simp⟩) hS0 ?_
        try simp only [Act.put, List.setIfInBounds_toArray, List.set_cons_zero, List.set_cons_succ]
        refine wpAnyH_take (i := 4) (oi := { dst := some 78, op := Go.Op.call { callee := Go.Callee.builtin Go.Builtin.len, args := #[Go.Operand.tmp 77], argTypes := #[23] }, type := 3, pos := "outright.go:77", after := #[{ on := 3, ground := Go.Ground.data }], guard := none }) (v := .int .i64 (ll : Int)) rfl (by kernel_rfl) (by kernel_rfl) (by kernel_rfl) (fun _ _ _ h => h) (Or.inl ⟨by rfl, by intro w2 hSw; (try dsimp only at hSw); go_simp⟩) hS0 ?_
        try simp only [Act.put, List.setIfInBounds_toArray, List.set_cons_zero, List.set_cons_succ]
        refine wpAnyH_take (i := 5) (oi := { dst := some 79, op := Go.Op.move (Go.Operand.tmp 9), type := 23, pos := "outright.go:77", after := #[], guard := none }) (v := .slice (some ⟨QG, 0, none⟩) sN sN) rfl (by kernel_rfl) (by kernel_rfl) (by kernel_rfl) (fun _ _ _ h => h) (Or.inl ⟨by rfl, by intro w2 hSw; (try dsimp only at hSw); go_simp⟩) hS0 ?_
        try simp only [Act.put, List.setIfInBounds_toArray, List.set_cons_zero, List.set_cons_succ]
        refine wpAnyH_take (i := 6) (oi := { dst := some 80, op := Go.Op.call { callee := Go.Callee.builtin Go.Builtin.len, args := #[Go.Operand.tmp 79], argTypes := #[23] }, type := 3, pos := "outright.go:77", after := #[{ on := 5, ground := Go.Ground.data }], guard := none }) (v := .int .i64 (sN : Int)) rfl (by kernel_rfl) (by kernel_rfl) (by kernel_rfl) (fun _ _ _ h => h) (Or.inl ⟨by rfl, by intro w2 hSw; (try dsimp only at hSw); go_simp⟩) hS0 ?_
        try simp only [Act.put, List.setIfInBounds_toArray, List.set_cons_zero, List.set_cons_succ]
        refine wpAnyH_take (i := 7) (oi := { dst := some 81, op := Go.Op.binOp Go.BinOp.neq 3 (Go.Operand.tmp 78) (Go.Operand.tmp 80) 3, type := 4, pos := "outright.go:77", after := #[{ on := 4, ground := Go.Ground.data }, { on := 6, ground := Go.Ground.data }], guard := none }) (v := .bool true) rfl (by kernel_rfl) (by kernel_rfl) (by kernel_rfl) (fun _ _ _ h => h) (Or.inl ⟨by rfl, by intro w2 hSw; (try dsimp only at hSw); go_simp⟩) hS0 ?_
        try simp only [Act.put, List.setIfInBounds_toArray, List.set_cons_zero, List.set_cons_succ]
        refine wpAnyH_take (i := 8) (oi := { dst := some 82, op := Go.Op.move (Go.Operand.tmp 81), type := 4, pos := "outright.go:77", after := #[{ on := 7, ground := Go.Ground.data }], guard := none }) (v := .bool true) rfl (by kernel_rfl) (by kernel_rfl) (by kernel_rfl) (fun _ _ _ h => h) (Or.inl ⟨by rfl, by intro w2 hSw; (try dsimp only at hSw); go_simp⟩) hS0 ?_
        try simp only [Act.put, List.setIfInBounds_toArray, List.set_cons_zero, List.set_cons_succ]
        refine wpAnyH_take (i := 9) (oi := { dst := some 83, op := Go.Op.load 25 (Go.Operand.tmp 4), type := 25, pos := "outright.go:77", after := #[{ on := 8, ground := Go.Ground.guard }], guard := some (8, false) }) (v := undef) rfl (by kernel_rfl) (by kernel_rfl) (by kernel_rfl) (fun _ _ _ h => h) (Or.inr ⟨by rfl, rfl⟩) hS0 ?_
        try simp only [Act.put, List.setIfInBounds_toArray, List.set_cons_zero, List.set_cons_succ]
        refine wpAnyH_take (i := 10) (oi := { dst := some 84, op := Go.Op.move (Go.Operand.tmp 13), type := 49, pos := "outright.go:77", after := #[{ on := 8, ground := Go.Ground.guard }], guard := some (8, false) }) (v := undef) rfl (by kernel_rfl) (by kernel_rfl) (by kernel_rfl) (fun _ _ _ h => h) (Or.inr ⟨by rfl, rfl⟩) hS0 ?_
        try simp only [Act.put, List.setIfInBounds_toArray, List.set_cons_zero, List.set_cons_succ]
        refine wpAnyH_take (i := 11) (oi := { dst := some 85, op := Go.Op.move (Go.Operand.tmp 14), type := 3, pos := "outright.go:77", after := #[{ on := 8, ground := Go.Ground.guard }], guard := some (8, false) }) (v := undef) rfl (by kernel_rfl) (by kernel_rfl) (by kernel_rfl) (fun _ _ _ h => h) (Or.inr ⟨by rfl, rfl⟩) hS0 ?_
        try simp only [Act.put, List.setIfInBounds_toArray, List.set_cons_zero, List.set_cons_succ]
        refine wpAnyH_take (i := 12) (oi := { dst := some 86, op := Go.Op.indexAddr 49 (Go.Operand.tmp 84) (Go.Operand.tmp 85), type := 0, pos := "outright.go:77", after := #[{ on := 10, ground := Go.Ground.data }, { on := 11, ground := Go.Ground.data }, { on := 8, ground := Go.Ground.guard }], guard := some (8, false) }) (v := undef) rfl (by kernel_rfl) (by kernel_rfl) (by kernel_rfl) (fun _ _ _ h => h) (Or.inr ⟨by rfl, rfl⟩) hS0 ?_
        try simp only [Act.put, List.setIfInBounds_toArray, List.set_cons_zero, List.set_cons_succ]
        refine wpAnyH_take (i := 13) (oi := { dst := some 87, op := Go.Op.load 23 (Go.Operand.tmp 86), type := 23, pos := "outright.go:77", after := #[{ on := 12, ground := Go.Ground.data }, { on := 8, ground := Go.Ground.guard }], guard := some (8, false) }) (v := undef) rfl (by kernel_rfl) (by kernel_rfl) (by kernel_rfl) (fun _ _ _ h => h) (Or.inr ⟨by rfl, rfl⟩) hS0 ?_
        try simp only [Act.put, List.setIfInBounds_toArray, List.set_cons_zero, List.set_cons_succ]
        refine wpAnyH_take (i := 14) (oi := { dst := some 88, op := Go.Op.call { callee := Go.Callee.value (Go.Operand.func 21), args := #[Go.Operand.tmp 83, Go.Operand.tmp 87], argTypes := #[25, 23] }, type := 30, pos := "outright.go:77", after := #[{ on := 9, ground := Go.Ground.data }, { on := 13, ground := Go.Ground.data }, { on := 8, ground := Go.Ground.chain }, { on := 8, ground := Go.Ground.guard }], guard := some (8, false) }) (v := undef) rfl (by kernel_rfl) (by kernel_rfl) (by kernel_rfl) (fun _ _ _ h => h) (Or.inr ⟨by rfl, rfl⟩) hS0 ?_
        try simp only [Act.put, List.setIfInBounds_toArray, List.set_cons_zero, List.set_cons_succ]
        refine wpAnyH_take (i := 15) (oi := { dst := some 89, op := Go.Op.binOp Go.BinOp.neq 30 (Go.Operand.tmp 88) (Go.Operand.const (Go.Value.int Go.IntKind.i64 0)) 30, type := 4, pos := "outright.go:77", after := #[{ on := 14, ground := Go.Ground.data }, { on := 8, ground := Go.Ground.guard }], guard := some (8, false) }) (v := undef) rfl (by kernel_rfl) (by kernel_rfl) (by kernel_rfl) (fun _ _ _ h => h) (Or.inr ⟨by rfl, rfl⟩) hS0 ?_
        try simp only [Act.put, List.setIfInBounds_toArray, List.set_cons_zero, List.set_cons_succ]
        refine wpAnyH_take (i := 16) (oi := { dst := some 90, op := Go.Op.pick (Go.Operand.tmp 82) (Go.Operand.const (Go.Value.bool true)) (Go.Operand.tmp 89), type := 4, pos := "outright.go:77", after := #[{ on := 8, ground := Go.Ground.data }, { on := 15, ground := Go.Ground.data }], guard := none }) (v := .bool true) rfl (by kernel_rfl) (by kernel_rfl) (by kernel_rfl) (fun _ _ _ h => h) (Or.inl ⟨by rfl, by intro w2 hSw; (try dsimp only at hSw); go_simp⟩) hS0 ?_
        try simp only [Act.put, List.setIfInBounds_toArray, List.set_cons_zero, List.set_cons_succ]
        refine wpAnyH_done (by kernel_rfl) ?_ _
        have HF := Lib.hid (HBl.out.trans (hS0.mono HBl.out.size))
        clear hS0 cL
        clear zHS0 zHS1 zHS2 zHS3
        go_wp2_with fail
        go_roundw
        case rel => exact ⟨q + 1, by omega, by go_num, HF⟩
        case measure => simp [intOf]; omega
      subst hls
      by_cases hq0 : chkJ sl sr zs ks lv = 0
      rotate_left
      · obtain ⟨qv, hqv⟩ : ∃ v, chkJ sl sr zs ks lv = v := ⟨_, rfl⟩
        rw [hqv] at hq0
        have Hqv := Lib.hid hqv
        have d2 : (qv != 0) = true := by rw [bne_iff_ne]; exact hq0
        clear hqv hq0
        refine wp_region_held_drew (S := fun w2 => Below w7.heap.size w7 w2) (by kernel_rfl) (drew_b _ _) (fun hS0 => ?_)
        refine wpAnyH_take (i := 0) (oi := { dst := some 74, op := Go.Op.move (Go.Operand.tmp 13), type := 49, pos := "outright.go:77", after := #[], guard := none }) (v := .slice (some ⟨L, 0, none⟩) 3 3) rfl (by kernel_rfl) (by kernel_rfl) (by kernel_rfl) (fun _ _ _ h => h) (Or.inl ⟨by rfl, by intro w2 hSw; (try dsimp only at hSw); go_simp⟩) hS0 ?_
        try simp only [Act.put, List.setIfInBounds_toArray, List.set_cons_zero, List.set_cons_succ]
        refine wpAnyH_take (i := 1) (oi := { dst := some 75, op := Go.Op.move (Go.Operand.tmp 14), type := 3, pos := "outright.go:77", after := #[], guard := none }) (v := .int .i64 (q : Int)) rfl (by kernel_rfl) (by kernel_rfl) (by kernel_rfl) (fun _ _ _ h => h) (Or.inl ⟨by rfl, by intro w2 hSw; (try dsimp only at hSw); go_simp⟩) hS0 ?_
        try simp only [Act.put, List.setIfInBounds_toArray, List.set_cons_zero, List.set_cons_succ]
        refine wpAnyH_take (i := 2) (oi := { dst := some 76, op := Go.Op.indexAddr 49 (Go.Operand.tmp 74) (Go.Operand.tmp 75), type := 0, pos := "outright.go:77", after := #[{ on := 0, ground := Go.Ground.data }, { on := 1, ground := Go.Ground.data }], guard := none }) (v := .pointer (some ⟨L, q, none⟩)) rfl (by kernel_rfl) (by kernel_rfl) (by kernel_rfl) (fun _ _ _ h => h) (Or.inl ⟨by rfl, by intro w2 hSw; (try dsimp only at hSw); go_simp⟩) hS0 ?_
        try simp only [Act.put, List.setIfInBounds_toArray, List.set_cons_zero, List.set_cons_succ]
        refine wpAnyH_take (i := 3) (oi := { dst := some 77, op := Go.Op.load 23 (Go.Operand.tmp 76), type := 23, pos := "outright.go:77", after := #[{ on := 2, ground := Go.Ground.data }], guard := none }) (v := .slice LA ll lc) rfl (by kernel_rfl) (by kernel_rfl) (by kernel_rfl) (fun _ _ _ h => h) (Or.inl ⟨by rfl, by intro w2 hSw; (try dsimp only at hSw); have y0 := (hSw.cell (lt_of_cell zHS0)).trans zHS0; have y1 := (hSw.cell (lt_of_cell zHS1)).trans zHS1; have y2 := (hSw.cell (lt_of_cell zHS2)).trans zHS2; have y3 := (hSw.cell (lt_of_cell zHS3)).trans zHS3; have y9 := (hSw.cell (lt_of_cell cL)).trans cL; go_simp⟩) hS0 ?_
        try simp only [Act.put, List.setIfInBounds_toArray, List.set_cons_zero, List.set_cons_succ]
        refine wpAnyH_take (i := 4) (oi := { dst := some 78, op := Go.Op.call { callee := Go.Callee.builtin Go.Builtin.len, args := #[Go.Operand.tmp 77], argTypes := #[23] }, type := 3, pos := "outright.go:77", after := #[{ on := 3, ground := Go.Ground.data }], guard := none }) (v := .int .i64 (ll : Int)) rfl (by kernel_rfl) (by kernel_rfl) (by kernel_rfl) (fun _ _ _ h => h) (Or.inl ⟨by rfl, by intro w2 hSw; (try dsimp only at hSw); go_simp⟩) hS0 ?_
        try simp only [Act.put, List.setIfInBounds_toArray, List.set_cons_zero, List.set_cons_succ]
        refine wpAnyH_take (i := 5) (oi := { dst := some 79, op := Go.Op.move (Go.Operand.tmp 9), type := 23, pos := "outright.go:77", after := #[], guard := none }) (v := .slice (some ⟨QG, 0, none⟩) ll ll) rfl (by kernel_rfl) (by kernel_rfl) (by kernel_rfl) (fun _ _ _ h => h) (Or.inl ⟨by rfl, by intro w2 hSw; (try dsimp only at hSw); go_simp⟩) hS0 ?_
        try simp only [Act.put, List.setIfInBounds_toArray, List.set_cons_zero, List.set_cons_succ]
        refine wpAnyH_take (i := 6) (oi := { dst := some 80, op := Go.Op.call { callee := Go.Callee.builtin Go.Builtin.len, args := #[Go.Operand.tmp 79], argTypes := #[23] }, type := 3, pos := "outright.go:77", after := #[{ on := 5, ground := Go.Ground.data }], guard := none }) (v := .int .i64 (ll : Int)) rfl (by kernel_rfl) (by kernel_rfl) (by kernel_rfl) (fun _ _ _ h => h) (Or.inl ⟨by rfl, by intro w2 hSw; (try dsimp only at hSw); go_simp⟩) hS0 ?_
        try simp only [Act.put, List.setIfInBounds_toArray, List.set_cons_zero, List.set_cons_succ]
        refine wpAnyH_take (i := 7) (oi := { dst := some 81, op := Go.Op.binOp Go.BinOp.neq 3 (Go.Operand.tmp 78) (Go.Operand.tmp 80) 3, type := 4, pos := "outright.go:77", after := #[{ on := 4, ground := Go.Ground.data }, { on := 6, ground := Go.Ground.data }], guard := none }) (v := .bool false) rfl (by kernel_rfl) (by kernel_rfl) (by kernel_rfl) (fun _ _ _ h => h) (Or.inl ⟨by rfl, by intro w2 hSw; (try dsimp only at hSw); go_simp⟩) hS0 ?_
        try simp only [Act.put, List.setIfInBounds_toArray, List.set_cons_zero, List.set_cons_succ]
        refine wpAnyH_take (i := 8) (oi := { dst := some 82, op := Go.Op.move (Go.Operand.tmp 81), type := 4, pos := "outright.go:77", after := #[{ on := 7, ground := Go.Ground.data }], guard := none }) (v := .bool false) rfl (by kernel_rfl) (by kernel_rfl) (by kernel_rfl) (fun _ _ _ h => h) (Or.inl ⟨by rfl, by intro w2 hSw; (try dsimp only at hSw); go_simp⟩) hS0 ?_
        try simp only [Act.put, List.setIfInBounds_toArray, List.set_cons_zero, List.set_cons_succ]
        refine wpAnyH_take (i := 9) (oi := { dst := some 83, op := Go.Op.load 25 (Go.Operand.tmp 4), type := 25, pos := "outright.go:77", after := #[{ on := 8, ground := Go.Ground.guard }], guard := some (8, false) }) (v := .agg #[.int .i64 sl, .int .i64 sr, .slice A n cap, .slice A2 kn kc]) rfl (by kernel_rfl) (by kernel_rfl) (by kernel_rfl) (fun _ _ _ h => h) (Or.inl ⟨by rfl, by intro w2 hSw; (try dsimp only at hSw); have y0 := (hSw.cell (lt_of_cell zHS0)).trans zHS0; have y1 := (hSw.cell (lt_of_cell zHS1)).trans zHS1; have y2 := (hSw.cell (lt_of_cell zHS2)).trans zHS2; have y3 := (hSw.cell (lt_of_cell zHS3)).trans zHS3; have y9 := (hSw.cell (lt_of_cell cL)).trans cL; go_simp⟩) hS0 ?_
        try simp only [Act.put, List.setIfInBounds_toArray, List.set_cons_zero, List.set_cons_succ]
        refine wpAnyH_take (i := 10) (oi := { dst := some 84, op := Go.Op.move (Go.Operand.tmp 13), type := 49, pos := "outright.go:77", after := #[{ on := 8, ground := Go.Ground.guard }], guard := some (8, false) }) (v := .slice (some ⟨L, 0, none⟩) 3 3) rfl (by kernel_rfl) (by kernel_rfl) (by kernel_rfl) (fun _ _ _ h => h) (Or.inl ⟨by rfl, by intro w2 hSw; (try dsimp only at hSw); go_simp⟩) hS0 ?_
        try simp only [Act.put, List.setIfInBounds_toArray, List.set_cons_zero, List.set_cons_succ]
        refine wpAnyH_take (i := 11) (oi := { dst := some 85, op := Go.Op.move (Go.Operand.tmp 14), type := 3, pos := "outright.go:77", after := #[{ on := 8, ground := Go.Ground.guard }], guard := some (8, false) }) (v := .int .i64 (q : Int)) rfl (by kernel_rfl) (by kernel_rfl) (by kernel_rfl) (fun _ _ _ h => h) (Or.inl ⟨by rfl, by intro w2 hSw; (try dsimp only at hSw); go_simp⟩) hS0 ?_
        try simp only [Act.put, List.setIfInBounds_toArray, List.set_cons_zero, List.set_cons_succ]
        refine wpAnyH_take (i := 12) (oi := { dst := some 86, op := Go.Op.indexAddr 49 (Go.Operand.tmp 84) (Go.Operand.tmp 85), type := 0, pos := "outright.go:77", after := #[{ on := 10, ground := Go.Ground.data }, { on := 11, ground := Go.Ground.data }, { on := 8, ground := Go.Ground.guard }], guard := some (8, false) }) (v := .pointer (some ⟨L, q, none⟩)) rfl (by kernel_rfl) (by kernel_rfl) (by kernel_rfl) (fun _ _ _ h => h) (Or.inl ⟨by rfl, by intro w2 hSw; (try dsimp only at hSw); go_simp⟩) hS0 ?_
        try simp only [Act.put, List.setIfInBounds_toArray, List.set_cons_zero, List.set_cons_succ]
        refine wpAnyH_take (i := 13) (oi := { dst := some 87, op := Go.Op.load 23 (Go.Operand.tmp 86), type := 23, pos := "outright.go:77", after := #[{ on := 12, ground := Go.Ground.data }, { on := 8, ground := Go.Ground.guard }], guard := some (8, false) }) (v := .slice LA ll lc) rfl (by kernel_rfl) (by kernel_rfl) (by kernel_rfl) (fun _ _ _ h => h) (Or.inl ⟨by rfl, by intro w2 hSw; (try dsimp only at hSw); have y0 := (hSw.cell (lt_of_cell zHS0)).trans zHS0; have y1 := (hSw.cell (lt_of_cell zHS1)).trans zHS1; have y2 := (hSw.cell (lt_of_cell zHS2)).trans zHS2; have y3 := (hSw.cell (lt_of_cell zHS3)).trans zHS3; have y9 := (hSw.cell (lt_of_cell cL)).trans cL; go_simp⟩) hS0 ?_
        try simp only [Act.put, List.setIfInBounds_toArray, List.set_cons_zero, List.set_cons_succ]
        refine wpAnyH_ready (rs := [14]) (by kernel_rfl) (by simp) ?_
        refine AllReadyH.cons (o := { dst := some 88, op := Go.Op.call { callee := Go.Callee.value (Go.Operand.func 21), args := #[Go.Operand.tmp 83, Go.Operand.tmp 87], argTypes := #[25, 23] }, type := 30, pos := "outright.go:77", after := #[{ on := 9, ground := Go.Ground.data }, { on := 13, ground := Go.Ground.data }, { on := 8, ground := Go.Ground.chain }, { on := 8, ground := Go.Ground.guard }], guard := some (8, false) }) rfl (fun K hK => ?_) AllReadyH.nil
        go_simp
        refine (checkJoining21 sl sr A n cap zs A2 kn kc ks LA ll lc lv _ (X.out.below hS0 (Nat.le_refl _)) (XI.out.below hS0 (Nat.le_refl _)) (XL.out.below hS0 (Nat.le_refl _)) (by have := Hn.out; omega) (by have := Hk.out; omega) Hll.out).mono ?_
        rintro e9 V1 ⟨rfl, hb9⟩
        rw [Hqv.out]
        (try go_simp)
        refine hK.out _ _ (hS0.trans (hb9.mono hS0.size)) (fun hS1 => ?_)
        clear hK K hb9
        try simp only [Act.put, List.setIfInBounds_toArray, List.set_cons_zero, List.set_cons_succ]
        refine wpAnyH_take (i := 15) (oi := { dst := some 89, op := Go.Op.binOp Go.BinOp.neq 30 (Go.Operand.tmp 88) (Go.Operand.const (Go.Value.int Go.IntKind.i64 0)) 30, type := 4, pos := "outright.go:77", after := #[{ on := 14, ground := Go.Ground.data }, { on := 8, ground := Go.Ground.guard }], guard := some (8, false) }) (v := .bool true) rfl (by kernel_rfl) (by kernel_rfl) (by kernel_rfl) (fun _ _ _ h => h) (Or.inl ⟨by rfl, by intro w2 hSw; (try dsimp only at hSw); go_simp⟩) hS1 ?_
        try simp only [Act.put, List.setIfInBounds_toArray, List.set_cons_zero, List.set_cons_succ]
        refine wpAnyH_take (i := 16) (oi := { dst := some 90, op := Go.Op.pick (Go.Operand.tmp 82) (Go.Operand.const (Go.Value.bool true)) (Go.Operand.tmp 89), type := 4, pos := "outright.go:77", after := #[{ on := 8, ground := Go.Ground.data }, { on := 15, ground := Go.Ground.data }], guard := none }) (v := .bool true) rfl (by kernel_rfl) (by kernel_rfl) (by kernel_rfl) (fun _ _ _ h => h) (Or.inl ⟨by rfl, by intro w2 hSw; (try dsimp only at hSw); go_simp⟩) hS1 ?_
        try simp only [Act.put, List.setIfInBounds_toArray, List.set_cons_zero, List.set_cons_succ]
        refine wpAnyH_done (by kernel_rfl) ?_ _
        have HF := Lib.hid (HBl.out.trans (hS1.mono HBl.out.size))
        clear hS0 hS1 cL
        clear zHS0 zHS1 zHS2 zHS3
        go_wp2_with fail
        go_roundw
        case rel => exact ⟨q + 1, by omega, by go_num, HF⟩
        case measure => simp [intOf]; omega
      · have Hq0 := Lib.hid hq0
        clear hq0
        refine wp_region_held_drew (S := fun w2 => Below w7.heap.size w7 w2) (by kernel_rfl) (drew_b _ _) (fun hS0 => ?_)
        refine wpAnyH_take (i := 0) (oi := { dst := some 74, op := Go.Op.move (Go.Operand.tmp 13), type := 49, pos := "outright.go:77", after := #[], guard := none }) (v := .slice (some ⟨L, 0, none⟩) 3 3) rfl (by kernel_rfl) (by kernel_rfl) (by kernel_rfl) (fun _ _ _ h => h) (Or.inl ⟨by rfl, by intro w2 hSw; (try dsimp only at hSw); go_simp⟩) hS0 ?_
        try simp only [Act.put, List.setIfInBounds_toArray, List.set_cons_zero, List.set_cons_succ]
        refine wpAnyH_take (i := 1) (oi := { dst := some 75, op := Go.Op.move (Go.Operand.tmp 14), type := 3, pos := "outright.go:77", after := #[], guard := none }) (v := .int .i64 (q : Int)) rfl (by kernel_rfl) (by kernel_rfl) (by kernel_rfl) (fun _ _ _ h => h) (Or.inl ⟨by rfl, by intro w2 hSw; (try dsimp only at hSw); go_simp⟩) hS0 ?_
        try simp only [Act.put, List.setIfInBounds_toArray, List.set_cons_zero, List.set_cons_succ]
        refine wpAnyH_take (i := 2) (oi := { dst := some 76, op := Go.Op.indexAddr 49 (Go.Operand.tmp 74) (Go.Operand.tmp 75), type := 0, pos := "outright.go:77", after := #[{ on := 0, ground := Go.Ground.data }, { on := 1, ground := Go.Ground.data }], guard := none }) (v := .pointer (some ⟨L, q, none⟩)) rfl (by kernel_rfl) (by kernel_rfl) (by kernel_rfl) (fun _ _ _ h => h) (Or.inl ⟨by rfl, by intro w2 hSw; (try dsimp only at hSw); go_simp⟩) hS0 ?_
        try simp only [Act.put, List.setIfInBounds_toArray, List.set_cons_zero, List.set_cons_succ]
        refine wpAnyH_take (i := 3) (oi := { dst := some 77, op := Go.Op.load 23 (Go.Operand.tmp 76), type := 23, pos := "outright.go:77", after := #[{ on := 2, ground := Go.Ground.data }], guard := none }) (v := .slice LA ll lc) rfl (by kernel_rfl) (by kernel_rfl) (by kernel_rfl) (fun _ _ _ h => h) (Or.inl ⟨by rfl, by intro w2 hSw; (try dsimp only at hSw); have y0 := (hSw.cell (lt_of_cell zHS0)).trans zHS0; have y1 := (hSw.cell (lt_of_cell zHS1)).trans zHS1; have y2 := (hSw.cell (lt_of_cell zHS2)).trans zHS2; have y3 := (hSw.cell (lt_of_cell zHS3)).trans zHS3; have y9 := (hSw.cell (lt_of_cell cL)).trans cL; go_simp⟩) hS0 ?_
        try simp only [Act.put, List.setIfInBounds_toArray, List.set_cons_zero, List.set_cons_succ]
        refine wpAnyH_take (i := 4) (oi := { dst := some 78, op := Go.Op.call { callee := Go.Callee.builtin Go.Builtin.len, args := #[Go.Operand.tmp 77], argTypes := #[23] }, type := 3, pos := "outright.go:77", after := #[{ on := 3, ground := Go.Ground.data }], guard := none }) (v := .int .i64 (ll : Int)) rfl (by kernel_rfl) (by kernel_rfl) (by kernel_rfl) (fun _ _ _ h => h) (Or.inl ⟨by rfl, by intro w2 hSw; (try dsimp only at hSw); go_simp⟩) hS0 ?_
        try simp only [Act.put, List.setIfInBounds_toArray, List.set_cons_zero, List.set_cons_succ]
        refine wpAnyH_take (i := 5) (oi := { dst := some 79, op := Go.Op.move (Go.Operand.tmp 9), type := 23, pos := "outright.go:77", after := #[], guard := none }) (v := .slice (some ⟨QG, 0, none⟩) ll ll) rfl (by kernel_rfl) (by kernel_rfl) (by kernel_rfl) (fun _ _ _ h => h) (Or.inl ⟨by rfl, by intro w2 hSw; (try dsimp only at hSw); go_simp⟩) hS0 ?_
        try simp only [Act.put, List.setIfInBounds_toArray, List.set_cons_zero, List.set_cons_succ]
        refine wpAnyH_take (i := 6) (oi := { dst := some 80, op := Go.Op.call { callee := Go.Callee.builtin Go.Builtin.len, args := #[Go.Operand.tmp 79], argTypes := #[23] }, type := 3, pos := "outright.go:77", after := #[{ on := 5, ground := Go.Ground.data }], guard := none }) (v := .int .i64 (ll : Int)) rfl (by kernel_rfl) (by kernel_rfl) (by kernel_rfl) (fun _ _ _ h => h) (Or.inl ⟨by rfl, by intro w2 hSw; (try dsimp only at hSw); go_simp⟩) hS0 ?_
        try simp only [Act.put, List.setIfInBounds_toArray, List.set_cons_zero, List.set_cons_succ]
        refine wpAnyH_take (i := 7) (oi := { dst := some 81, op := Go.Op.binOp Go.BinOp.neq 3 (Go.Operand.tmp 78) (Go.Operand.tmp 80) 3, type := 4, pos := "outright.go:77", after := #[{ on := 4, ground := Go.Ground.data }, { on := 6, ground := Go.Ground.data }], guard := none }) (v := .bool false) rfl (by kernel_rfl) (by kernel_rfl) (by kernel_rfl) (fun _ _ _ h => h) (Or.inl ⟨by rfl, by intro w2 hSw; (try dsimp only at hSw); go_simp⟩) hS0 ?_
        try simp only [Act.put, List.setIfInBounds_toArray, List.set_cons_zero, List.set_cons_succ]
        refine wpAnyH_take (i := 8) (oi := { dst := some 82, op := Go.Op.move (Go.Operand.tmp 81), type := 4, pos := "outright.go:77", after := #[{ on := 7, ground := Go.Ground.data }], guard := none }) (v := .bool false) rfl (by kernel_rfl) (by kernel_rfl) (by kernel_rfl) (fun _ _ _ h => h) (Or.inl ⟨by rfl, by intro w2 hSw; (try dsimp only at hSw); go_simp⟩) hS0 ?_
        try simp only [Act.put, List.setIfInBounds_toArray, List.set_cons_zero, List.set_cons_succ]
        refine wpAnyH_take (i := 9) (oi := { dst := some 83, op := Go.Op.load 25 (Go.Operand.tmp 4), type := 25, pos := "outright.go:77", after := #[{ on := 8, ground := Go.Ground.guard }], guard := some (8, false) }) (v := .agg #[.int .i64 sl, .int .i64 sr, .slice A n cap, .slice A2 kn kc]) rfl (by kernel_rfl) (by kernel_rfl) (by kernel_rfl) (fun _ _ _ h => h) (Or.inl ⟨by rfl, by intro w2 hSw; (try dsimp only at hSw); have y0 := (hSw.cell (lt_of_cell zHS0)).trans zHS0; have y1 := (hSw.cell (lt_of_cell zHS1)).trans zHS1; have y2 := (hSw.cell (lt_of_cell zHS2)).trans zHS2; have y3 := (hSw.cell (lt_of_cell zHS3)).trans zHS3; have y9 := (hSw.cell (lt_of_cell cL)).trans cL; go_simp⟩) hS0 ?_
        try simp only [Act.put, List.setIfInBounds_toArray, List.set_cons_zero, List.set_cons_succ]
        refine wpAnyH_take (i := 10) (oi := { dst := some 84, op := Go.Op.move (Go.Operand.tmp 13), type := 49, pos := "outright.go:77", after := #[{ on := 8, ground := Go.Ground.guard }], guard := some (8, false) }) (v := .slice (some ⟨L, 0, none⟩) 3 3) rfl (by kernel_rfl) (by kernel_rfl) (by kernel_rfl) (fun _ _ _ h => h) (Or.inl ⟨by rfl, by intro w2 hSw; (try dsimp only at hSw); go_simp⟩) hS0 ?_
        try simp only [Act.put, List.setIfInBounds_toArray, List.set_cons_zero, List.set_cons_succ]
        refine wpAnyH_take (i := 11) (oi := { dst := some 85, op := Go.Op.move (Go.Operand.tmp 14), type := 3, pos := "outright.go:77", after := #[{ on := 8, ground := Go.Ground.guard }], guard := some (8, false) }) (v := .int .i64 (q : Int)) rfl (by kernel_rfl) (by kernel_rfl) (by kernel_rfl) (fun _ _ _ h => h) (Or.inl ⟨by rfl, by intro w2 hSw; (try dsimp only at hSw); go_simp⟩) hS0 ?_
        try simp only [Act.put, List.setIfInBounds_toArray, List.set_cons_zero, List.set_cons_succ]
        refine wpAnyH_take (i := 12) (oi := { dst := some 86, op := Go.Op.indexAddr 49 (Go.Operand.tmp 84) (Go.Operand.tmp 85), type := 0, pos := "outright.go:77", after := #[{ on := 10, ground := Go.Ground.data }, { on := 11, ground := Go.Ground.data }, { on := 8, ground := Go.Ground.guard }], guard := some (8, false) }) (v := .pointer (some ⟨L, q, none⟩)) rfl (by kernel_rfl) (by kernel_rfl) (by kernel_rfl) (fun _ _ _ h => h) (Or.inl ⟨by rfl, by intro w2 hSw; (try dsimp only at hSw); go_simp⟩) hS0 ?_
        try simp only [Act.put, List.setIfInBounds_toArray, List.set_cons_zero, List.set_cons_succ]
        refine wpAnyH_take (i := 13) (oi := { dst := some 87, op := Go.Op.load 23 (Go.Operand.tmp 86), type := 23, pos := "outright.go:77", after := #[{ on := 12, ground := Go.Ground.data }, { on := 8, ground := Go.Ground.guard }], guard := some (8, false) }) (v := .slice LA ll lc) rfl (by kernel_rfl) (by kernel_rfl) (by kernel_rfl) (fun _ _ _ h => h) (Or.inl ⟨by rfl, by intro w2 hSw; (try dsimp only at hSw); have y0 := (hSw.cell (lt_of_cell zHS0)).trans zHS0; have y1 := (hSw.cell (lt_of_cell zHS1)).trans zHS1; have y2 := (hSw.cell (lt_of_cell zHS2)).trans zHS2; have y3 := (hSw.cell (lt_of_cell zHS3)).trans zHS3; have y9 := (hSw.cell (lt_of_cell cL)).trans cL; go_simp⟩) hS0 ?_
        try simp only [Act.put, List.setIfInBounds_toArray, List.set_cons_zero, List.set_cons_succ]
        refine wpAnyH_ready (rs := [14]) (by kernel_rfl) (by simp) ?_
        refine AllReadyH.cons (o := { dst := some 88, op := Go.Op.call { callee := Go.Callee.value (Go.Operand.func 21), args := #[Go.Operand.tmp 83, Go.Operand.tmp 87], argTypes := #[25, 23] }, type := 30, pos := "outright.go:77", after := #[{ on := 9, ground := Go.Ground.data }, { on := 13, ground := Go.Ground.data }, { on := 8, ground := Go.Ground.chain }, { on := 8, ground := Go.Ground.guard }], guard := some (8, false) }) rfl (fun K hK => ?_) AllReadyH.nil
        go_simp
        refine (checkJoining21 sl sr A n cap zs A2 kn kc ks LA ll lc lv _ (X.out.below hS0 (Nat.le_refl _)) (XI.out.below hS0 (Nat.le_refl _)) (XL.out.below hS0 (Nat.le_refl _)) (by have := Hn.out; omega) (by have := Hk.out; omega) Hll.out).mono ?_
        rintro e9 V1 ⟨rfl, hb9⟩
        rw [Hq0.out]
        (try go_simp)
        refine hK.out _ _ (hS0.trans (hb9.mono hS0.size)) (fun hS1 => ?_)
        clear hK K hb9
        try simp only [Act.put, List.setIfInBounds_toArray, List.set_cons_zero, List.set_cons_succ]
        refine wpAnyH_take (i := 15) (oi := { dst := some 89, op := Go.Op.binOp Go.BinOp.neq 30 (Go.Operand.tmp 88) (Go.Operand.const (Go.Value.int Go.IntKind.i64 0)) 30, type := 4, pos := "outright.go:77", after := #[{ on := 14, ground := Go.Ground.data }, { on := 8, ground := Go.Ground.guard }], guard := some (8, false) }) (v := .bool false) rfl (by kernel_rfl) (by kernel_rfl) (by kernel_rfl) (fun _ _ _ h => h) (Or.inl ⟨by rfl, by intro w2 hSw; (try dsimp only at hSw); go_simp⟩) hS1 ?_
        try simp only [Act.put, List.setIfInBounds_toArray, List.set_cons_zero, List.set_cons_succ]
        refine wpAnyH_take (i := 16) (oi := { dst := some 90, op := Go.Op.pick (Go.Operand.tmp 82) (Go.Operand.const (Go.Value.bool true)) (Go.Operand.tmp 89), type := 4, pos := "outright.go:77", after := #[{ on := 8, ground := Go.Ground.data }, { on := 15, ground := Go.Ground.data }], guard := none }) (v := .bool false) rfl (by kernel_rfl) (by kernel_rfl) (by kernel_rfl) (fun _ _ _ h => h) (Or.inl ⟨by rfl, by intro w2 hSw; (try dsimp only at hSw); go_simp⟩) hS1 ?_
        try simp only [Act.put, List.setIfInBounds_toArray, List.set_cons_zero, List.set_cons_succ]
        refine wpAnyH_done (by kernel_rfl) ?_ _
        clear zHS0 zHS1 zHS2 zHS3
        obtain ⟨w8, rfl⟩ : ∃ v, v = V1 := ⟨_, rfl⟩
        have hb := hS1
        clear hS0 hS1
        replace X := Lib.hid (X.out.below hb (Nat.le_refl _))
        replace XI := Lib.hid (XI.out.below hb (Nat.le_refl _))
        replace XJ := Lib.hid (XJ.out.below hb (Nat.le_refl _))
        replace HG := Lib.hid (HG.out.below hb (Nat.le_refl _))
        replace HKI := Lib.hid (HKI.out.below hb (Nat.le_refl _))
        replace HJ := Lib.hid (HJ.out.below hb (Nat.le_refl _))
        replace XL := Lib.hid (XL.out.below hb (Nat.le_refl _))
        replace HS := Lib.hid ((hb.block _ (lt_of_block HS.out)).trans HS.out)
        replace HL := Lib.hid ((hb.block _ (lt_of_block HL.out)).trans HL.out)
        replace B := Lib.hid (B.out.trans (hb.mono B.out.size))
        have HLc := Lib.hid ((hb.cell (lt_of_cell cL)).trans cL)
        clear cL HLc0
        replace HBl := Lib.hid (HBl.out.trans (hb.mono HBl.out.size))
        clear hb
        have hjp := chj_jop Hq0.out Hzl.out
        have hgr : Gre n zs ks (inP lv) := ⟨hjp.1, by rw [← fI_cnt, ← hjp.2, XL.out.1]; exact HsN.out.symm⟩
        have Hgr := Lib.hid hgr
        clear hjp hgr Hq0
        go_wp2_with fail
        go_loopw [15] (fun i wr => ∃ k0 : Nat, k0 ≤ n ∧ i = .int .i64 (k0 : Int) ∧ Hid (Below w8.heap.size w8 wr)) (fun i _ => n - (intOf i).toNat)
        case atStart => exact ⟨0, Nat.zero_le _, rfl, Lib.hid (Below.refl _ _)⟩
        case round =>
          obtain ⟨k0, hk0, rfl, HBi⟩ := hrel
          obtain ⟨w9, rfl⟩ : ∃ v, v = wr := ⟨_, rfl⟩
          have hb := HBi.out
          replace X := Lib.hid (X.out.below hb (Nat.le_refl _))
          replace XI := Lib.hid (XI.out.below hb (Nat.le_refl _))
          replace XJ := Lib.hid (XJ.out.below hb (Nat.le_refl _))
          replace HG := Lib.hid (HG.out.below hb (Nat.le_refl _))
          replace HKI := Lib.hid (HKI.out.below hb (Nat.le_refl _))
          replace HJ := Lib.hid (HJ.out.below hb (Nat.le_refl _))
          replace XL := Lib.hid (XL.out.below hb (Nat.le_refl _))
          replace HS := Lib.hid ((hb.block _ (lt_of_block HS.out)).trans HS.out)
          replace HL := Lib.hid ((hb.block _ (lt_of_block HL.out)).trans HL.out)
          replace B := Lib.hid (B.out.trans (hb.mono B.out.size))
          clear hb
          by_cases hlt2 : k0 < n
          · obtain ⟨bk, ok, rfl, hck⟩ := HKI.out.2 (by omega)
            have x0 := hck k0 hlt2
            have hnb := Hn.out
            rw [kindsK_at hlt2] at x0
            have hal := kind_always HSh.out hlt2
            have hnv := kind_never HSh.out hlt2
            have hmy := kind_may n zs (opnL n zs ks) (kNt ks) k0
            obtain ⟨kk, hkk⟩ : ∃ v, kindS n zs (opnL n zs ks) (kNt ks) k0 = v := ⟨_, rfl⟩
            rw [hkk] at x0 hal hnv hmy
            have cL : w9.cell? ⟨L, q, none⟩ = some (.slice LA ll lc) := by
              have h9 := HLc.out
              exact (HBi.out.cell (lt_of_cell h9)).trans h9
            have i0 : (0 : Int) ≤ (k0 : Int) := by omega
            have i1 : (k0 : Int) < (n : Int) := by omega
            have Hin := Lib.hid (show (decide ((k0 : Int) ∈ lv) = true → kk ≠ 0) ∧ (decide ((k0 : Int) ∈ lv) = false → kk ≠ 2) from
              ⟨fun e1 e2 => (by have h1 := hnv.1 e2 _ Hgr.out; unfold inP at h1; rw [e1] at h1; cases h1), fun e1 e2 => (by have h1 := hal.1 e2 _ Hgr.out; unfold inP at h1; rw [e1] at h1; cases h1)⟩)
            obtain ⟨bi, hbi⟩ : ∃ v, decide ((k0 : Int) ∈ lv) = v := ⟨_, rfl⟩
            rw [hbi] at Hin
            have Hbi := Lib.hid hbi
            clear hck hal hnv hkk hbi
            go_wp2_with fail
            refine (in34 LA ll lc lv (k0 : Int) w9 XL.out (by have := Hll.out; omega)).mono ?_
            rintro en w9 ⟨rfl, rfl⟩
            rw [Hbi.out]
            clear Hbi cL
            rcases hmy with rfl | rfl | rfl
            · obtain rfl : bi = false := by
                cases bi
                · rfl
                · exact absurd rfl (Hin.out.1 rfl)
              go_wp2_with fail
              go_roundw
              case rel => exact ⟨k0 + 1, by omega, by go_num, HBi⟩
              case measure => simp [intOf]; omega
            · cases bi
              · go_wp2_with fail
                go_roundw
                case rel => exact ⟨k0 + 1, by omega, by go_num, HBi⟩
                case measure => simp [intOf]; omega
              · go_wp2_with fail
                go_roundw
                case rel => exact ⟨k0 + 1, by omega, by go_num, HBi⟩
                case measure => simp [intOf]; omega
            · obtain rfl : bi = true := by
                cases bi
                · exact absurd rfl (Hin.out.2 rfl)
                · rfl
              go_wp2_with fail
              go_roundw
              case rel => exact ⟨k0 + 1, by omega, by go_num, HBi⟩
              case measure => simp [intOf]; omega
          · obtain rfl : k0 = n := by omega
            have HF := Lib.hid (HBl.out.trans (HBi.out.mono HBl.out.size))
            go_wp2_with fail
            go_roundw
            case rel => exact ⟨q + 1, by omega, by go_num, HF⟩
            case measure => simp [intOf]; omega
    · obtain rfl : q = 3 := by omega
      clear HL HJ XJ HBl Hle Hm
      by_cases hn0 : n = 0
      · have d1 : (n == 0) = true := by simp [hn0]
        have d2 : ((n : Int) == 0) = true := by simp [hn0]
        clear hn0
        have zHS0 : w7.cell? ⟨R, 0, none⟩ = some (.int .i64 sl) := by rw [cell_row HS.out]; rfl
        have zHS1 : w7.cell? ⟨R, 1, none⟩ = some (.int .i64 sr) := by rw [cell_row HS.out]; rfl
        have zHS2 : w7.cell? ⟨R, 2, none⟩ = some (.slice A n cap) := by rw [cell_row HS.out]; rfl
        have zHS3 : w7.cell? ⟨R, 3, none⟩ = some (.slice A2 kn kc) := by rw [cell_row HS.out]; rfl
        go_wp2_with fail
        clear zHS0 zHS1 zHS2 zHS3
        refine (works15 w7).mono ?_
        rintro en w8 ⟨rfl, hb⟩
        replace B := Lib.hid (B.out.trans (hb.mono B.out.size))
        clear hb
        go_wp2_with fail
        go_ret
        exact ⟨rfl, B.out⟩
      have d1 : (n == 0) = false := by simp [hn0]
      have d2 : ((n : Int) == 0) = false := by simp [hn0]
      have hnp : (0 : Int) < (n : Int) := by omega
      have hni : ¬ (n : Int) = 0 := by omega
      have hlkb := Hlk.out
      obtain ⟨k, hk, hkn⟩ : ∃ k : Nat, (lk : Int) % (n : Int) = (k : Int) ∧ k < n := ⟨lk % n, by omega, Nat.mod_lt _ (by omega)⟩
      have hkt : (lk : Int).tmod (n : Int) = (k : Int) := by rw [Int.tmod_eq_emod_of_nonneg (by omega)]; exact hk
      obtain ⟨bk, ok, rfl, hck⟩ := HKI.out.2 (by omega)
      have x0 := hck k hkn
      rw [kindsK_at hkn] at x0
      have hal := kind_always HSh.out hkn
      have hnv := kind_never HSh.out hkn
      have i0 : (0 : Int) ≤ (k : Int) := by omega
      have i1 : (k : Int) < (n : Int) := by omega
      have hko : kindS n zs (opnL n zs ks) (kNt ks) k = 1 → opnL n zs ks k = true := kind_open
      obtain ⟨kk, hkk⟩ : ∃ v, kindS n zs (opnL n zs ks) (kNt ks) k = v := ⟨_, rfl⟩
      rw [hkk] at x0 hal hnv hko
      have Hkn := Lib.hid hkn
      clear hck hkk hlt
      by_cases hk1 : kk = 1
      rotate_left
      · have d1 : (kk != 1) = true := by rw [bne_iff_ne]; exact hk1
        clear hk1 hal hnv hko
        have zHS0 : w7.cell? ⟨R, 0, none⟩ = some (.int .i64 sl) := by rw [cell_row HS.out]; rfl
        have zHS1 : w7.cell? ⟨R, 1, none⟩ = some (.int .i64 sr) := by rw [cell_row HS.out]; rfl
        have zHS2 : w7.cell? ⟨R, 2, none⟩ = some (.slice A n cap) := by rw [cell_row HS.out]; rfl
        have zHS3 : w7.cell? ⟨R, 3, none⟩ = some (.slice A2 kn kc) := by rw [cell_row HS.out]; rfl
        go_wp2_with fail
        clear zHS0 zHS1 zHS2 zHS3
        refine (works15 w7).mono ?_
        rintro en w8 ⟨rfl, hb⟩
        replace B := Lib.hid (B.out.trans (hb.mono B.out.size))
        clear hb
        go_wp2_with fail
        go_ret
        exact ⟨rfl, B.out⟩
      subst hk1
      have hop := hko rfl
      have hkks : (k : Int) ∉ ks := open_known HSh.out hkn hop
      have hy : ∃ p, Gre n zs ks p ∧ p k = true := by
        apply Classical.byContradiction
        intro hno
        have := hnv.2 (fun p hp => by
          cases e : p k
          · rfl
          · exact absurd ⟨p, hp, e⟩ hno)
        cases this
      have hz : ∃ p, Gre n zs ks p ∧ p k = false := by
        apply Classical.byContradiction
        intro hno
        have := hal.2 (fun p hp => by
          cases e : p k
          · exact absurd ⟨p, hp, e⟩ hno
          · rfl)
        cases this
      have hke := knw_chk He.out Hzl.out hkn hop
      have hwe := wo_chk He.out Hzl.out hkn hkks
      have hks := (gre_knw HSh.out (shn_knw He.out Hzl.out hkn hop) hy).1
      have hws := (gre_wo HSh.out (shn_wo He.out Hzl.out hkn hkks) hkn hkks hz).1
      rw [Hkl.out] at hwe hws
      rw [HsN.out] at hks hws
      have hwl := wzP_lenE zs hkn
      have hkb : ∀ q, q < kn → -1000000 ≤ iAt ks q ∧ iAt ks q ≤ 1000000 := fun q hq => by
        have := Hn.out
        have h1 := ris_rng (shg_of He.out).ris (iAt ks q) (by rw [iAt_eq (by rw [Hkl.out]; exact hq)]; exact List.getElem_mem _)
        rw [Hzl.out] at h1
        omega
      have Hke := Lib.hid hke
      have Hwe := Lib.hid hwe
      have Hks := Lib.hid hks
      have Hws := Lib.hid hws
      have Hwl := Lib.hid hwl
      have Hkb := Lib.hid hkb
      have Hnk := Lib.hid (show decide ((k : Int) ∈ ks) = false from decide_eq_false hkks)
      clear hal hnv hko hop hkks hy hz hke hwe hks hws hwl hkb
      have zHS0 : w7.cell? ⟨R, 0, none⟩ = some (.int .i64 sl) := by rw [cell_row HS.out]; rfl
      have zHS1 : w7.cell? ⟨R, 1, none⟩ = some (.int .i64 sr) := by rw [cell_row HS.out]; rfl
      have zHS2 : w7.cell? ⟨R, 2, none⟩ = some (.slice A n cap) := by rw [cell_row HS.out]; rfl
      have zHS3 : w7.cell? ⟨R, 3, none⟩ = some (.slice A2 kn kc) := by rw [cell_row HS.out]; rfl
      go_wp2_with fail
      refine (in34 A2 kn kc ks (k : Int) w7 XI.out (by have := Hk.out; omega)).mono ?_
      rintro en w9 ⟨rfl, e9⟩
      rw [Hnk.out, e9]
      clear e9 w9
      go_wp2_with fail
      clear zHS0 zHS1 zHS2 zHS3
      refine (knowing35 sl sr A n cap zs A2 kn kc ks (k : Int) w7 XI.out (by have := Hk.out; omega)).mono ?_
      rintro en w8 ⟨C1, c1, rfl, hc1, hi1, -, hb⟩
      replace X := Lib.hid (X.out.below hb (Nat.le_refl _))
      replace XI := Lib.hid (XI.out.below hb (Nat.le_refl _))
      replace HG := Lib.hid (HG.out.below hb (Nat.le_refl _))
      replace HKI := Lib.hid (HKI.out.below hb (Nat.le_refl _))
      replace HS := Lib.hid ((hb.block _ (lt_of_block HS.out)).trans HS.out)
      replace B := Lib.hid (B.out.trans (hb.mono B.out.size))
      have HK1 := Lib.hid hi1
      have Hc1 := Lib.hid hc1
      clear hi1 hc1
      try clear hb
      go_wp2_with fail
      refine (checkSheet19 sl sr A n cap zs C1 (kn + 1) c1 (knwL (k : Int) ks) w8 X.out HK1.out (by have := Hn.out; omega) (by have := Hk.out; omega)).mono ?_
      rintro en w9 ⟨rfl, hb⟩
      replace X := Lib.hid (X.out.below hb (Nat.le_refl _))
      replace XI := Lib.hid (XI.out.below hb (Nat.le_refl _))
      replace HG := Lib.hid (HG.out.below hb (Nat.le_refl _))
      replace HKI := Lib.hid (HKI.out.below hb (Nat.le_refl _))
      replace HK1 := Lib.hid (HK1.out.below hb (Nat.le_refl _))
      replace HS := Lib.hid ((hb.block _ (lt_of_block HS.out)).trans HS.out)
      replace B := Lib.hid (B.out.trans (hb.mono B.out.size))
      rw [Hke.out]
      clear HK1 Hc1
      try clear hb
      have zHS0 : w9.cell? ⟨R, 0, none⟩ = some (.int .i64 sl) := by rw [cell_row HS.out]; rfl
      have zHS1 : w9.cell? ⟨R, 1, none⟩ = some (.int .i64 sr) := by rw [cell_row HS.out]; rfl
      have zHS2 : w9.cell? ⟨R, 2, none⟩ = some (.slice A n cap) := by rw [cell_row HS.out]; rfl
      have zHS3 : w9.cell? ⟨R, 3, none⟩ = some (.slice A2 kn kc) := by rw [cell_row HS.out]; rfl
      go_wp2_with fail
      clear zHS0 zHS1 zHS2 zHS3
      refine (knowing35 sl sr A n cap zs A2 kn kc ks (k : Int) w9 XI.out (by have := Hk.out; omega)).mono ?_
      rintro en w10 ⟨C1, c1, rfl, hc1, hi1, -, hb⟩
      replace X := Lib.hid (X.out.below hb (Nat.le_refl _))
      replace XI := Lib.hid (XI.out.below hb (Nat.le_refl _))
      replace HG := Lib.hid (HG.out.below hb (Nat.le_refl _))
      replace HKI := Lib.hid (HKI.out.below hb (Nat.le_refl _))
      replace HS := Lib.hid ((hb.block _ (lt_of_block HS.out)).trans HS.out)
      replace B := Lib.hid (B.out.trans (hb.mono B.out.size))
      have HK1 := Lib.hid hi1
      clear hi1 hc1
      try clear hb
      go_wp2_with fail
      refine (greatest22 sl sr A n cap zs C1 (kn + 1) c1 (knwL (k : Int) ks) w10 X.out HK1.out Hc9.out (by have := Hn.out; omega) (by have := Hk.out; omega) Hke.out).mono ?_
      rintro en w11 ⟨QA, pt, rfl, hgb, hQ8, hig, hb⟩
      replace X := Lib.hid (X.out.below hb (Nat.le_refl _))
      replace XI := Lib.hid (XI.out.below hb (Nat.le_refl _))
      replace HG := Lib.hid (HG.out.below hb (Nat.le_refl _))
      replace HKI := Lib.hid (HKI.out.below hb (Nat.le_refl _))
      replace HK1 := Lib.hid (HK1.out.below hb (Nat.le_refl _))
      replace HS := Lib.hid ((hb.block _ (lt_of_block HS.out)).trans HS.out)
      replace B := Lib.hid (B.out.trans (hb.mono B.out.size))
      have hlen := gb_len Hke.out Hzl.out hgb
      have hch := gb_chk Hke.out Hzl.out hgb
      change _ = siz n zs (knwL (k : Int) ks) at hlen
      rw [Hks.out] at hlen
      obtain ⟨al, hgl⟩ : ∃ v, jI n zs pt = v := ⟨_, rfl⟩
      rw [hgl] at hlen hch hig ⊢
      rw [hlen] at hig ⊢
      have HA := Lib.hid hig
      have Hca := Lib.hid hch
      clear hgb hQ8 hig hch hlen hgl
      try clear hb
      clear HK1
      have zHS0 : w11.cell? ⟨R, 0, none⟩ = some (.int .i64 sl) := by rw [cell_row HS.out]; rfl
      have zHS1 : w11.cell? ⟨R, 1, none⟩ = some (.int .i64 sr) := by rw [cell_row HS.out]; rfl
      have zHS2 : w11.cell? ⟨R, 2, none⟩ = some (.slice A n cap) := by rw [cell_row HS.out]; rfl
      have zHS3 : w11.cell? ⟨R, 3, none⟩ = some (.slice A2 kn kc) := by rw [cell_row HS.out]; rfl
      go_wp2_with fail
      clear zHS0 zHS1 zHS2 zHS3
      refine (without36 sl sr A n cap zs A2 kn kc ks k w11 X.out XI.out (by have := Hn.out; omega) (by have := Hk.out; omega) Hkb.out).mono ?_
      rintro en w12 ⟨C1, c1, C2, c2, rfl, hc1, hc2, hr1, hi1, hb⟩
      replace X := Lib.hid (X.out.below hb (Nat.le_refl _))
      replace XI := Lib.hid (XI.out.below hb (Nat.le_refl _))
      replace HG := Lib.hid (HG.out.below hb (Nat.le_refl _))
      replace HKI := Lib.hid (HKI.out.below hb (Nat.le_refl _))
      replace HA := Lib.hid (HA.out.below hb (Nat.le_refl _))
      replace HS := Lib.hid ((hb.block _ (lt_of_block HS.out)).trans HS.out)
      replace B := Lib.hid (B.out.trans (hb.mono B.out.size))
      rw [Hwl.out] at hc1 hr1 ⊢
      have HX2 := Lib.hid hr1
      have HK2 := Lib.hid hi1
      have Hc1 := Lib.hid hc1
      clear hi1 hr1 hc1 hc2
      try clear hb
      go_wp2_with fail
      refine (greatest22 sl sr C1 (n - 1) c1 (wzP k zs n) C2 kn c2 (wkP k ks kn) w12 HX2.out HK2.out Hc1.out (by have := Hn.out; omega) (by have := Hk.out; omega) Hwe.out).mono ?_
      rintro en w13 ⟨QW, pt, rfl, hgb, hQ8, hig, hb⟩
      replace X := Lib.hid (X.out.below hb (Nat.le_refl _))
      replace XI := Lib.hid (XI.out.below hb (Nat.le_refl _))
      replace HG := Lib.hid (HG.out.below hb (Nat.le_refl _))
      replace HKI := Lib.hid (HKI.out.below hb (Nat.le_refl _))
      replace HA := Lib.hid (HA.out.below hb (Nat.le_refl _))
      replace HX2 := Lib.hid (HX2.out.below hb (Nat.le_refl _))
      replace HK2 := Lib.hid (HK2.out.below hb (Nat.le_refl _))
      replace HS := Lib.hid ((hb.block _ (lt_of_block HS.out)).trans HS.out)
      replace B := Lib.hid (B.out.trans (hb.mono B.out.size))
      have hlen := gb_len Hwe.out Hwl.out hgb
      have hch := gb_chk Hwe.out Hwl.out hgb
      change _ = siz (n - 1) (wzP k zs n) (wkP k ks kn) at hlen
      rw [Hws.out] at hlen
      obtain ⟨wl, hgl⟩ : ∃ v, jI (n - 1) (wzP k zs n) pt = v := ⟨_, rfl⟩
      rw [hgl] at hlen hch hig ⊢
      rw [hlen] at hig ⊢
      have HW := Lib.hid hig
      have Hcw := Lib.hid hch
      clear hgb hQ8 hig hch hlen hgl
      try clear hb
      clear HX2 HK2 HW Hcw
      have hjp := chj_jop Hca.out Hzl.out
      have hin : decide ((k : Int) ∈ al) = true := (jop_knw.1 hjp.1).2
      have hca : chkJ sl sr zs ks al = 0 := by
        rw [hjp.2]
        exact chj_of He.out Hzl.out (jop_knw.1 hjp.1).1
      have Hin := Lib.hid hin
      have Hca2 := Lib.hid hca
      clear hjp hin hca Hca
      have zHS0 : w13.cell? ⟨R, 0, none⟩ = some (.int .i64 sl) := by rw [cell_row HS.out]; rfl
      have zHS1 : w13.cell? ⟨R, 1, none⟩ = some (.int .i64 sr) := by rw [cell_row HS.out]; rfl
      have zHS2 : w13.cell? ⟨R, 2, none⟩ = some (.slice A n cap) := by rw [cell_row HS.out]; rfl
      have zHS3 : w13.cell? ⟨R, 3, none⟩ = some (.slice A2 kn kc) := by rw [cell_row HS.out]; rfl
      go_wp2_with fail
      refine (in34 (some ⟨QA, 0, none⟩) sN sN al (k : Int) w13 HA.out (by have := Hs12.out; omega)).mono ?_
      rintro en w9 ⟨rfl, e9⟩
      rw [Hin.out, e9]
      clear e9 w9
      go_wp2_with fail
      clear zHS0 zHS1 zHS2 zHS3
      refine (checkJoining21 sl sr A n cap zs A2 kn kc ks (some ⟨QA, 0, none⟩) sN sN al w13 X.out XI.out HA.out (by have := Hn.out; omega) (by have := Hk.out; omega) (by have := Hs12.out; omega)).mono ?_
      rintro en w14 ⟨rfl, hb⟩
      replace X := Lib.hid (X.out.below hb (Nat.le_refl _))
      replace XI := Lib.hid (XI.out.below hb (Nat.le_refl _))
      replace HG := Lib.hid (HG.out.below hb (Nat.le_refl _))
      replace HKI := Lib.hid (HKI.out.below hb (Nat.le_refl _))
      replace HA := Lib.hid (HA.out.below hb (Nat.le_refl _))
      replace HS := Lib.hid ((hb.block _ (lt_of_block HS.out)).trans HS.out)
      replace B := Lib.hid (B.out.trans (hb.mono B.out.size))
      rw [Hca2.out]
      try clear hb
      go_wp2_with fail
      refine (works15 w14).mono ?_
      rintro en w15 ⟨rfl, hb⟩
      replace B := Lib.hid (B.out.trans (hb.mono B.out.size))
      clear hb
      go_wp2_with fail
      go_ret
      exact ⟨rfl, B.out⟩
end
end Go.Proofs.Ytnodkgejggnehaa
