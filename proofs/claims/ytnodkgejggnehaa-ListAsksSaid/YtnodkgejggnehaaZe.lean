/- Stage 5: Size, of the document: how many links a greatest joining has. -/
import Derived.Test.YtnodkgejggnehaaTb
import Derived.Test.YtnodkgejggnehaaSm
import Derived.Test.YtnodkgejggnehaaCv
import Derived.Test.YtnodkgejggnehaaZed
import Derived.Deep.RegionHeld3
import Derived.Deep.CutRange
import Derived.Deep.QuietTactic
import Derived.IntWalk
namespace Go.Proofs.Ytnodkgejggnehaa
set_option linter.unusedSimpArgs false
set_option linter.unusedVariables false
open Go.RowKit Go.Shelf
section
attribute [local go_sem ↓] exec_app at_app
attribute [local go_sem] Oper.semAt_some
set_option maxRecDepth 100000 in
set_option maxHeartbeats 40000000 in
theorem size24_ (c d : Nat) (A : Option Addr) (n cap : Nat) (zs : List Rg) (A2 : Option Addr) (kn kc : Nat) (ks : List Int) (w : World) (h : Rgs w A n zs) (hI : Ints w A2 kn ks) (hk : kn ≤ 100000) (he : chkS (c : Int) (d : Int) zs ks = 0) :
    Calls Try.prog 24 #[.agg #[.int .i64 (c : Int), .int .i64 (d : Int), .slice A n cap, .slice A2 kn kc]] w fun e w' => e = .returned (.int .i64 (siz n zs ks : Int)) ∧ Below w.heap.size w w' := by
  have hzl := h.1
  have hkl := hI.1
  have S0 := shg_of he
  have S0 : Shg (c : Int) (d : Int) zs ks := S0
  have hrng := S0.rng
  have hc12 : c ≤ 12 := by omega
  have hd12 : d ≤ 12 := by omega
  have hn40 := (show n ≤ 40 by rw [← hzl]; exact S0.n40)
  have Hsh := Lib.hid (shn_of he hzl)
  have Hin := Lib.hid (show ∀ j, j < kn → 0 ≤ iAt ks j ∧ iAt ks j < (n : Int) from fun j hj => by
    have hm : iAt ks j ∈ ks := by rw [iAt_eq (by omega)]; exact List.getElem_mem _
    obtain ⟨k, h1, h2⟩ := S0.nm _ hm
    rw [hzl] at h1
    omega)
  have He0 := Lib.hid (show ∀ k, k < n → eN zs 0 k < c from fun k hk => by have := S0.e0 k (by omega); omega)
  have He1 := Lib.hid (show ∀ k, k < n → eN zs 1 k < d from fun k hk => by have := S0.e1 k (by omega); omega)
  have hM : 2 ^ d ≤ 2 ^ 12 := Nat.pow_le_pow_right (by omega) hd12
  have hM1 : 1 ≤ 2 ^ d := Nat.one_le_two_pow
  obtain ⟨M, hMd⟩ : ∃ M, 2 ^ d = M := ⟨_, rfl⟩
  rw [hMd] at hM hM1
  have hshl : IntKind.i64.wrap (2 ^ d) = (M : Int) := by rw [show ((2 : Int) ^ d) = ((2 ^ d : Nat) : Int) by simp, hMd]; exact IntWalk.i64_in _ (by omega)
  have hmk := fn_make M (by omega)
  have HMd := Lib.hid hMd
  have hmin : min d 64 = d := by omega
  have Hsiz := Lib.hid (show ((siz n zs ks : Nat) : Int) = mxF (dpS n zs (opnL n zs ks) c) M + (kn : Int) by
    rw [← hMd, dp_mx (op := opnL n zs ks) He0.out He1.out]; unfold siz sizeF; rw [hkl]; simp)
  have Hn := Lib.hid hn40
  have Hk := Lib.hid hk
  clear hMd hzl hkl S0 hrng he hn40 hk
  obtain ⟨R, hR⟩ : ∃ v, w.heap.size = v := ⟨_, rfl⟩
  have hb0 := below_alloc_ w (.cells #[.int .i64 (c : Int), .int .i64 (d : Int), .slice A n cap, .slice A2 kn kc] 25)
  have hr0 := heap_alloc_new_ w (.cells #[.int .i64 (c : Int), .int .i64 (d : Int), .slice A n cap, .slice A2 kn kc] 25)
  have hz0 : (w.alloc (.cells #[.int .i64 (c : Int), .int .i64 (d : Int), .slice A n cap, .slice A2 kn kc] 25)).heap.size = w.heap.size + 1 := by simp
  obtain ⟨w0, hw0⟩ : ∃ v, w.alloc (.cells #[.int .i64 (c : Int), .int .i64 (d : Int), .slice A n cap, .slice A2 kn kc] 25) = v := ⟨_, rfl⟩
  rw [hw0] at hb0 hr0 hz0
  rw [hR] at hr0 hz0
  have hB := hb0
  have X := Lib.hid (h.below hB (Nat.le_refl _))
  have XI := Lib.hid (hI.below hB (Nat.le_refl _))
  have HS := Lib.hid hr0
  have HW0 := Lib.hid hw0
  have B := Lib.hid hB
  have HR := Lib.hid hR
  clear hB hR hb0 hr0 hz0 hw0 h hI
  have zHS0 : w0.cell? ⟨R, 0, none⟩ = some (.int .i64 (c : Int)) := by rw [cell_row HS.out]; rfl
  have zHS1 : w0.cell? ⟨R, 1, none⟩ = some (.int .i64 (d : Int)) := by rw [cell_row HS.out]; rfl
  have zHS2 : w0.cell? ⟨R, 2, none⟩ = some (.slice A n cap) := by rw [cell_row HS.out]; rfl
  have zHS3 : w0.cell? ⟨R, 3, none⟩ = some (.slice A2 kn kc) := by rw [cell_row HS.out]; rfl
  go_enter Try.func24, Try.ntmps24
  go_wp2_with fail
  try rw [HW0.out]
  try rw [HR.out]
  try simp only [Nat.add_assoc, Nat.reduceAdd]
  try go_wp2_with fail
  clear zHS0 zHS1 zHS2 zHS3
  have hb := below_alloc_ w0 (.cells (flatI (List.replicate M 0)).toArray 3)
  have hf := fn_new w0 M
  obtain ⟨w1, hw1⟩ : ∃ v, w0.alloc (.cells (flatI (List.replicate M 0)).toArray 3) = v := ⟨_, rfl⟩
  obtain ⟨G, hG⟩ : ∃ v, w0.heap.size = v := ⟨_, rfl⟩
  have hR1 : R + 1 = G := by rw [← hG, ← HW0.out, ← HR.out]; simp
  rw [hw1] at hb hf ⊢
  rw [hR1]
  rw [hG] at hb hf
  have HRG := Lib.hid (show R < G by omega)
  have HwG := Lib.hid (show w.heap.size ≤ G by rw [← hG]; exact B.out.size)
  have HzA := Lib.hid (eq_le hG)
  have HV1 := Lib.hid (show FnR w1 G M (fun j => if j < 0 then -1 else 0) ∧ Below G w0 w1 from ⟨hf.ext (fun j _ => if_neg (by omega)), hb⟩)
  have XA := X
  have IA := XI
  have SA := HS
  have BA := B
  clear hb hf hw1 hG hR1 X XI HS B hmk hshl
  go_loopw [4] (fun v wr => ∃ b : Nat, b ≤ M ∧ v = .int .i64 (b : Int) ∧ Hid (FnR wr G M (fun j => if j < b then -1 else 0) ∧ Below G w0 wr)) (fun v _ => M - (intOf v).toNat)
  case atStart => exact ⟨0, Nat.zero_le _, rfl, HV1⟩
  case round =>
    obtain ⟨b, hb, rfl, HV⟩ := hrel
    obtain ⟨w2, rfl⟩ : ∃ v, v = wr := ⟨_, rfl⟩
    by_cases hlt : b < M
    · have y0 := HV.out.1.cell hlt
      have fG := fun o : Nat => HV.out.1.fr o
      have k1 : (0 : Int) ≤ (b : Int) := by omega
      have k2 : (b : Int) < (M : Int) := by omega
      have hN := HV.out.1.set hlt (-1) (g := fun j => if j < b + 1 then -1 else 0) (fun j hj => by
        by_cases e : j = b
        · rw [if_pos e, if_pos (by omega)]
        · rw [if_neg e]
          by_cases e2 : j < b
          · rw [if_pos e2, if_pos (by omega)]
          · rw [if_neg e2, if_neg (by omega)])
      have HN := Lib.hid (show FnR (w2.setCell ⟨G, b, none⟩ (.int .i64 (-1))) G M (fun j => if j < b + 1 then -1 else 0) ∧ Below G w0 (w2.setCell ⟨G, b, none⟩ (.int .i64 (-1))) from ⟨hN, HV.out.2.trans ((keeps_setCell w2 G b (.int .i64 (-1))).below (Nat.le_of_lt HV.out.1.lt) (fun j hj (e : j = G) => by omega))⟩)
      clear hN
      go_wp2_with fail
      go_roundw
      case rel => exact ⟨b + 1, by omega, by go_num, HN⟩
      case measure => simp [intOf]; omega
    · obtain rfl : M = b := by omega
      have hp0 : 0 < M := by omega
      have hp1 : (0 : Int) < (M : Int) := by omega
      have y0 := HV.out.1.cell hp0
      have fG := fun o : Nat => HV.out.1.fr o
      have hN := HV.out.1.set hp0 0 (g := dpS n zs (opnL n zs ks) 0) (fun j hj => by
        unfold dpS
        by_cases e : j = 0
        · rw [if_pos e, if_pos e]
        · rw [if_neg e, if_neg e, if_pos hj])
      have hN2 := HV.out.2.trans ((keeps_setCell w2 G 0 (.int .i64 0)).below (Nat.le_of_lt HV.out.1.lt) (fun j hj (e : j = G) => by omega))
      clear hlt hb
      go_wp2_with fail
      obtain ⟨w3, hw3⟩ : ∃ v, w2.setCell ⟨G, 0, none⟩ (.int .i64 0) = v := ⟨_, rfl⟩
      rw [hw3] at hN hN2 ⊢
      have HV3 := Lib.hid (show FnR w3 G M (dpS n zs (opnL n zs ks) 0) ∧ G ≤ G ∧ Below G w0 w3 from ⟨hN, Nat.le_refl _, hN2⟩)
      clear hN hN2 hw3 y0 fG HV HV1
      go_loopw [3, 5] (fun tv iv wr => ∃ (i G1 cp : Nat), i ≤ c ∧ M ≤ cp ∧ tv = .slice (some ⟨G1, 0, none⟩) M cp ∧ iv = .int .i64 (i : Int) ∧ Hid (FnR wr G1 M (dpS n zs (opnL n zs ks) i) ∧ G ≤ G1 ∧ Below G w0 wr)) (fun _ v _ => c - (intOf v).toNat)
      case atStart => exact ⟨0, G, M, Nat.zero_le _, Nat.le_refl _, rfl, rfl, HV3⟩
      case round =>
        obtain ⟨i, G1, cp, hi, hcp, rfl, rfl, HV⟩ := hrel
        obtain ⟨w4, rfl⟩ : ∃ v, v = wr := ⟨_, rfl⟩
        clear HV3
        have hb := HV.out.2.2
        have X := Lib.hid (XA.out.below hb (by have := HzA.out; omega))
        have XI := Lib.hid (IA.out.below hb (by have := HzA.out; omega))
        have HS := Lib.hid ((hb.block _ HRG.out).trans SA.out)
        have B := Lib.hid (BA.out.trans (hb.mono HwG.out))
        clear hb
        by_cases hlt : i < c
        · have hE := heap_alloc_new_ w4 (.cells #[] 3)
          have hbE := below_alloc_ w4 (.cells #[] 3)
          obtain ⟨G2, cp2, w5, hrun, hcp2, hF2, hkE, hG2⟩ := app_fn (cp := cp) hE (HV.out.1.below hbE) (by omega) hM1
          have hE1 : (w4.alloc (.cells #[] 3)).heap.size = w4.heap.size + 1 := by simp
          have hG1 := HV.out.1.lt
          have Hne := Lib.hid (show G1 ≠ G2 by omega)
          have HG2 := Lib.hid (show G ≤ G2 by have := HV.out.2.1; omega)
          have HN := Lib.hid (show FnR w5 G1 M (dpS n zs (opnL n zs ks) i) ∧ FnR w5 G2 M (nxS zs (opnL n zs ks) (dpS n zs (opnL n zs ks) i) i 0) ∧ Below G w0 w5 from ⟨(HV.out.1.below hbE).keep hkE (fun e => by omega), hF2, (HV.out.2.2.trans (hbE.mono (by have := HV.out.2.1; omega))).trans (hkE.below (by have := HV.out.2.1; omega) (fun j hj (e : j = _) => by have := HV.out.2.1; omega))⟩)
          have HG1 := Lib.hid HV.out.2.1
          have HDl := Lib.hid (fun m => dp_le (n := n) (zs := zs) (op := (opnL n zs ks)) i m)
          clear hE hbE hF2 hkE hG2 hE1 hG1 HV
          have zHS0 : w4.cell? ⟨R, 0, none⟩ = some (.int .i64 (c : Int)) := by rw [cell_row HS.out]; rfl
          have zHS1 : w4.cell? ⟨R, 1, none⟩ = some (.int .i64 (d : Int)) := by rw [cell_row HS.out]; rfl
          have zHS2 : w4.cell? ⟨R, 2, none⟩ = some (.slice A n cap) := by rw [cell_row HS.out]; rfl
          have zHS3 : w4.cell? ⟨R, 3, none⟩ = some (.slice A2 kn kc) := by rw [cell_row HS.out]; rfl
          go_wp2_with fail
          try (rw [hrun]; go_wp2_with fail)
          clear zHS0 zHS1 zHS2 zHS3
          clear hrun X XI HS B
          obtain ⟨D, hD⟩ : ∃ v, dpS n zs (opnL n zs ks) i = v := ⟨_, rfl⟩
          rw [hD] at HN HDl
          have HD := Lib.hid hD
          clear hD
          go_loopw [7] (fun v wr => ∃ q : Nat, q ≤ n ∧ v = .int .i64 (q : Int) ∧ Hid (FnR wr G1 M D ∧ FnR wr G2 M (nxS zs (opnL n zs ks) D i q) ∧ Below G w0 wr)) (fun v _ => n - (intOf v).toNat)
          case atStart => exact ⟨0, Nat.zero_le _, rfl, HN⟩
          case round =>
            obtain ⟨q, hq, rfl, HV⟩ := hrel
            obtain ⟨w6, rfl⟩ : ∃ v, v = wr := ⟨_, rfl⟩
            clear HN
            have hb := HV.out.2.2
            have X := Lib.hid (XA.out.below hb (by have := HzA.out; omega))
            have XI := Lib.hid (IA.out.below hb (by have := HzA.out; omega))
            have HS := Lib.hid ((hb.block _ HRG.out).trans SA.out)
            have B := Lib.hid (BA.out.trans (hb.mono HwG.out))
            clear hb
            by_cases hlq : q < n
            · have hnb := Hn.out
              obtain ⟨bz, oz, eZ, hcz⟩ := X.out.2 (by omega)
              subst eZ
              have hzq := (Hsh.out.z.at hlq).1
              have hz12 := (Hsh.out.z.at hlq).2
              have hrd := He1.out q hlq
              have cA := (hcz q hlq).1
              have cB := (hcz q hlq).2
              rw [hzq] at cA cB
              simp only at cA cB
              obtain ⟨ga, hga⟩ : ∃ v, eN zs 0 q = v := ⟨_, rfl⟩
              obtain ⟨gb, hgb⟩ : ∃ v, eN zs 1 q = v := ⟨_, rfl⟩
              rw [hga, hgb] at hz12
              rw [hga] at cA
              rw [hgb] at cB hrd
              have Hga := Lib.hid hga
              have Hgb := Lib.hid hgb
              have i0 : (0 : Int) ≤ (q : Int) := by omega
              have i1 : (q : Int) < (n : Int) := by omega
              clear hcz hzq hga hgb
              by_cases hgi : ga = i
              · have d1 : ((ga : Int) != (i : Int)) = false := by simp [hgi]
                have d2 : (ga != i) = false := by simp [hgi]
                have zHS0 : w6.cell? ⟨R, 0, none⟩ = some (.int .i64 (c : Int)) := by rw [cell_row HS.out]; rfl
                have zHS1 : w6.cell? ⟨R, 1, none⟩ = some (.int .i64 (d : Int)) := by rw [cell_row HS.out]; rfl
                have zHS2 : w6.cell? ⟨R, 2, none⟩ = some (.slice (some ⟨bz, oz, none⟩) n cap) := by rw [cell_row HS.out]; rfl
                have zHS3 : w6.cell? ⟨R, 3, none⟩ = some (.slice A2 kn kc) := by rw [cell_row HS.out]; rfl
                go_wp2_with fail
                clear zHS0 zHS1 zHS2 zHS3
                refine (taken44 (c : Int) (d : Int) (some ⟨bz, oz, none⟩) n cap zs A2 kn kc ks q w6 X.out XI.out Hin.out hlq (by omega) Hk.out).mono ?_
                rintro en w7 ⟨rfl, hb⟩
                replace X := Lib.hid (X.out.below hb (Nat.le_refl _))
                replace XI := Lib.hid (XI.out.below hb (Nat.le_refl _))
                replace HS := Lib.hid ((hb.block _ (lt_of_block HS.out)).trans HS.out)
                replace B := Lib.hid (B.out.trans (hb.mono B.out.size))
                have HV7 := Lib.hid (show FnR w7 G1 M D ∧ FnR w7 G2 M (nxS zs (opnL n zs ks) D i q) ∧ Below G w0 w7 from ⟨HV.out.1.below hb, HV.out.2.1.below hb, HV.out.2.2.trans (hb.mono (show G ≤ w6.heap.size by have := HG1.out; have := HV.out.1.lt; omega))⟩)
                replace cB := (hb.cell (lt_of_cell cB)).trans cB
                have hop : (opnL n zs ks) q = !tkB zs ks q := by unfold opnL; rw [decide_eq_true hlq]; rfl
                clear HV
                cases htk : tkB zs ks q
                try clear hb
                · rw [htk] at hop
                  have Hop := Lib.hid hop
                  clear hop htk
                  have zHS0 : w7.cell? ⟨R, 0, none⟩ = some (.int .i64 (c : Int)) := by rw [cell_row HS.out]; rfl
                  have zHS1 : w7.cell? ⟨R, 1, none⟩ = some (.int .i64 (d : Int)) := by rw [cell_row HS.out]; rfl
                  have zHS2 : w7.cell? ⟨R, 2, none⟩ = some (.slice (some ⟨bz, oz, none⟩) n cap) := by rw [cell_row HS.out]; rfl
                  have zHS3 : w7.cell? ⟨R, 3, none⟩ = some (.slice A2 kn kc) := by rw [cell_row HS.out]; rfl
                  go_wp2_with fail
                  clear zHS0 zHS1 zHS2 zHS3
                  have hmb : min gb 64 = gb := by omega
                  have HV8 := Lib.hid (show FnR w7 G1 M D ∧ FnR w7 G2 M (midS zs (opnL n zs ks) D i q 0) ∧ Below G w0 w7 from ⟨HV7.out.1, HV7.out.2.1.ext (fun m _ => mid_0 m), HV7.out.2.2⟩)
                  clear HV7 X XI HS B cA cB
                  go_loopw [9] (fun v wr => ∃ b : Nat, b ≤ M ∧ v = .int .i64 (b : Int) ∧ Hid (FnR wr G1 M D ∧ FnR wr G2 M (midS zs (opnL n zs ks) D i q b) ∧ Below G w0 wr)) (fun v _ => M - (intOf v).toNat)
                  case atStart => exact ⟨0, Nat.zero_le _, rfl, HV8⟩
                  case round =>
                    obtain ⟨b, hb, rfl, HV⟩ := hrel
                    obtain ⟨w8, rfl⟩ : ∃ v, v = wr := ⟨_, rfl⟩
                    clear HV8
                    by_cases hlb : b < M
                    · have y0 := HV.out.1.cell hlb
                      have k1 : (0 : Int) ≤ (b : Int) := by omega
                      have k2 : (b : Int) < (M : Int) := by omega
                      have hsb := shr_bit b gb
                      have hdl := HDl.out b
                      have hno := fun h j => mid_no (zs := zs) (op := (opnL n zs ks)) (D := D) (i := i) (q := q) (b := b) h j
                      have hys := fun h h2 j => mid_yes (zs := zs) (op := (opnL n zs ks)) (D := D) (i := i) (q := q) (b := b) Hop.out (Hga.out.trans hgi) h h2 j
                      rw [Hgb.out] at hno hys
                      obtain ⟨x, hx⟩ : ∃ x, D b = x := ⟨_, rfl⟩
                      rw [hx] at y0 hno hys hdl
                      have Hx := Lib.hid hx
                      have Hno := Lib.hid hno
                      have Hys := Lib.hid hys
                      clear hx hno hys
                      by_cases hx0 : 0 ≤ x
                      · have hx1 : x ≥ 0 := hx0
                        cases hbt : b.testBit gb
                        · rw [hbt, if_neg (by simp)] at hsb
                          have d1 : (((b : Int) / 2 ^ gb).tmod 2 == 0) = true := by rw [hsb]; rfl
                          obtain ⟨P, hP⟩ : ∃ P, 2 ^ gb = P := ⟨_, rfl⟩
                          have hPM : P < M := by rw [← hP, ← HMd.out]; exact Nat.pow_lt_pow_right (by omega) hrd
                          have hshp : IntKind.i64.wrap (2 ^ gb) = (P : Int) := by rw [show ((2 : Int) ^ gb) = ((2 ^ gb : Nat) : Int) by simp, hP]; exact IntWalk.i64_in _ (by omega)
                          obtain ⟨t, ht⟩ : ∃ t, b ||| P = t := ⟨_, rfl⟩
                          have htM : t < M := by rw [← ht, ← HMd.out]; rw [← HMd.out] at hlb hPM; exact Nat.or_lt_two_pow hlb hPM
                          have hor : bits .or .i64 (b : Int) (P : Int) = (t : Int) := by rw [or_i64 b P (by omega) (by omega), ht]
                          have hys := Hys.out hx0 hbt
                          rw [hP, ht] at hys
                          have y1 := HV.out.2.1.cell htM
                          have fG := fun o : Nat => HV.out.2.1.fr o
                          obtain ⟨y, hy⟩ : ∃ y, midS zs (opnL n zs ks) D i q b t = y := ⟨_, rfl⟩
                          rw [hy] at hys y1
                          have Hys2 := Lib.hid hys
                          have t0 : (0 : Int) ≤ (t : Int) := by omega
                          have t1 : (t : Int) < (M : Int) := by omega
                          clear hP ht hys hy
                          go_wp2_with fail
                          refine Zed.region_z (z := 19) (S := fun W' => Below w8.heap.size w8 W') (by kernel_rfl) (drew_b w8 1) (fun hS0 => ?_)
                          refine Zed.anyZ_take (i := 0) (oi := { dst := some 80, op := Go.Op.move (Go.Operand.tmp 6), type := 23, pos := "ref.go:129", after := #[], guard := none }) (v := .slice (some ⟨G2, 0, none⟩) M cp2) rfl (by decide) (by kernel_rfl) (by kernel_rfl) (by kernel_rfl) (by kernel_rfl) (fun _ _ _ h => h) (Or.inl ⟨by rfl, by intro w2 hSw; (try dsimp only at hSw); go_simp⟩) hS0 ?_
                          try simp only [Act.put, List.setIfInBounds_toArray, List.set_cons_zero, List.set_cons_succ]
                          refine Zed.anyZ_take (i := 1) (oi := { dst := some 81, op := Go.Op.move (Go.Operand.tmp 9), type := 3, pos := "ref.go:129", after := #[], guard := none }) (v := .int .i64 (b : Int)) rfl (by decide) (by kernel_rfl) (by kernel_rfl) (by kernel_rfl) (by kernel_rfl) (fun _ _ _ h => h) (Or.inl ⟨by rfl, by intro w2 hSw; (try dsimp only at hSw); go_simp⟩) hS0 ?_
                          try simp only [Act.put, List.setIfInBounds_toArray, List.set_cons_zero, List.set_cons_succ]
                          refine Zed.anyZ_take (i := 2) (oi := { dst := some 82, op := Go.Op.move (Go.Operand.tmp 8), type := 3, pos := "ref.go:129", after := #[], guard := none }) (v := .int .i64 (gb : Int)) rfl (by decide) (by kernel_rfl) (by kernel_rfl) (by kernel_rfl) (by kernel_rfl) (fun _ _ _ h => h) (Or.inl ⟨by rfl, by intro w2 hSw; (try dsimp only at hSw); go_simp⟩) hS0 ?_
                          try simp only [Act.put, List.setIfInBounds_toArray, List.set_cons_zero, List.set_cons_succ]
                          refine Zed.anyZ_take (i := 3) (oi := { dst := some 83, op := Go.Op.binOp Go.BinOp.shl 3 (Go.Operand.const (Go.Value.int Go.IntKind.i64 1)) (Go.Operand.tmp 82) 3, type := 3, pos := "ref.go:129", after := #[{ on := 2, ground := Go.Ground.data }], guard := none }) (v := .int .i64 (P : Int)) rfl (by decide) (by kernel_rfl) (by kernel_rfl) (by kernel_rfl) (by kernel_rfl) (fun _ _ _ h => h) (Or.inl ⟨by rfl, by intro w2 hSw; (try dsimp only at hSw); go_simp⟩) hS0 ?_
                          try simp only [Act.put, List.setIfInBounds_toArray, List.set_cons_zero, List.set_cons_succ]
                          refine Zed.anyZ_take (i := 4) (oi := { dst := some 84, op := Go.Op.binOp Go.BinOp.or 3 (Go.Operand.tmp 81) (Go.Operand.tmp 83) 3, type := 3, pos := "ref.go:129", after := #[{ on := 1, ground := Go.Ground.data }, { on := 3, ground := Go.Ground.data }], guard := none }) (v := .int .i64 (t : Int)) rfl (by decide) (by kernel_rfl) (by kernel_rfl) (by kernel_rfl) (by kernel_rfl) (fun _ _ _ h => h) (Or.inl ⟨by rfl, by intro w2 hSw; (try dsimp only at hSw); go_simp⟩) hS0 ?_
                          try simp only [Act.put, List.setIfInBounds_toArray, List.set_cons_zero, List.set_cons_succ]
                          refine Zed.anyZ_take (i := 5) (oi := { dst := some 85, op := Go.Op.move (Go.Operand.tmp 6), type := 23, pos := "ref.go:129", after := #[], guard := none }) (v := .slice (some ⟨G2, 0, none⟩) M cp2) rfl (by decide) (by kernel_rfl) (by kernel_rfl) (by kernel_rfl) (by kernel_rfl) (fun _ _ _ h => h) (Or.inl ⟨by rfl, by intro w2 hSw; (try dsimp only at hSw); go_simp⟩) hS0 ?_
                          try simp only [Act.put, List.setIfInBounds_toArray, List.set_cons_zero, List.set_cons_succ]
                          refine Zed.anyZ_take (i := 6) (oi := { dst := some 86, op := Go.Op.move (Go.Operand.tmp 9), type := 3, pos := "ref.go:129", after := #[], guard := none }) (v := .int .i64 (b : Int)) rfl (by decide) (by kernel_rfl) (by kernel_rfl) (by kernel_rfl) (by kernel_rfl) (fun _ _ _ h => h) (Or.inl ⟨by rfl, by intro w2 hSw; (try dsimp only at hSw); go_simp⟩) hS0 ?_
                          try simp only [Act.put, List.setIfInBounds_toArray, List.set_cons_zero, List.set_cons_succ]
                          refine Zed.anyZ_take (i := 7) (oi := { dst := some 87, op := Go.Op.move (Go.Operand.tmp 8), type := 3, pos := "ref.go:129", after := #[], guard := none }) (v := .int .i64 (gb : Int)) rfl (by decide) (by kernel_rfl) (by kernel_rfl) (by kernel_rfl) (by kernel_rfl) (fun _ _ _ h => h) (Or.inl ⟨by rfl, by intro w2 hSw; (try dsimp only at hSw); go_simp⟩) hS0 ?_
                          try simp only [Act.put, List.setIfInBounds_toArray, List.set_cons_zero, List.set_cons_succ]
                          refine Zed.anyZ_take (i := 8) (oi := { dst := some 88, op := Go.Op.binOp Go.BinOp.shl 3 (Go.Operand.const (Go.Value.int Go.IntKind.i64 1)) (Go.Operand.tmp 87) 3, type := 3, pos := "ref.go:129", after := #[{ on := 7, ground := Go.Ground.data }], guard := none }) (v := .int .i64 (P : Int)) rfl (by decide) (by kernel_rfl) (by kernel_rfl) (by kernel_rfl) (by kernel_rfl) (fun _ _ _ h => h) (Or.inl ⟨by rfl, by intro w2 hSw; (try dsimp only at hSw); go_simp⟩) hS0 ?_
                          try simp only [Act.put, List.setIfInBounds_toArray, List.set_cons_zero, List.set_cons_succ]
                          refine Zed.anyZ_take (i := 9) (oi := { dst := some 89, op := Go.Op.binOp Go.BinOp.or 3 (Go.Operand.tmp 86) (Go.Operand.tmp 88) 3, type := 3, pos := "ref.go:129", after := #[{ on := 6, ground := Go.Ground.data }, { on := 8, ground := Go.Ground.data }], guard := none }) (v := .int .i64 (t : Int)) rfl (by decide) (by kernel_rfl) (by kernel_rfl) (by kernel_rfl) (by kernel_rfl) (fun _ _ _ h => h) (Or.inl ⟨by rfl, by intro w2 hSw; (try dsimp only at hSw); go_simp⟩) hS0 ?_
                          try simp only [Act.put, List.setIfInBounds_toArray, List.set_cons_zero, List.set_cons_succ]
                          refine Zed.anyZ_take (i := 10) (oi := { dst := some 90, op := Go.Op.indexAddr 23 (Go.Operand.tmp 85) (Go.Operand.tmp 89), type := 0, pos := "ref.go:129", after := #[{ on := 5, ground := Go.Ground.data }, { on := 9, ground := Go.Ground.data }], guard := none }) (v := .pointer (some ⟨G2, t, none⟩)) rfl (by decide) (by kernel_rfl) (by kernel_rfl) (by kernel_rfl) (by kernel_rfl) (fun _ _ _ h => h) (Or.inl ⟨by rfl, by intro w2 hSw; (try dsimp only at hSw); go_simp⟩) hS0 ?_
                          try simp only [Act.put, List.setIfInBounds_toArray, List.set_cons_zero, List.set_cons_succ]
                          refine Zed.anyZ_take (i := 11) (oi := { dst := some 91, op := Go.Op.load 3 (Go.Operand.tmp 90), type := 3, pos := "ref.go:129", after := #[{ on := 10, ground := Go.Ground.data }], guard := none }) (v := .int .i64 y) rfl (by decide) (by kernel_rfl) (by kernel_rfl) (by kernel_rfl) (by kernel_rfl) (fun _ _ _ h => h) (Or.inl ⟨by rfl, by intro w2 hSw; (try dsimp only at hSw); have z1 := (hSw.cell (lt_of_cell y1)).trans y1; go_simp⟩) hS0 ?_
                          try simp only [Act.put, List.setIfInBounds_toArray, List.set_cons_zero, List.set_cons_succ]
                          refine Zed.anyZ_take (i := 12) (oi := { dst := some 92, op := Go.Op.move (Go.Operand.tmp 3), type := 23, pos := "ref.go:129", after := #[], guard := none }) (v := .slice (some ⟨G1, 0, none⟩) M cp) rfl (by decide) (by kernel_rfl) (by kernel_rfl) (by kernel_rfl) (by kernel_rfl) (fun _ _ _ h => h) (Or.inl ⟨by rfl, by intro w2 hSw; (try dsimp only at hSw); go_simp⟩) hS0 ?_
                          try simp only [Act.put, List.setIfInBounds_toArray, List.set_cons_zero, List.set_cons_succ]
                          refine Zed.anyZ_take (i := 13) (oi := { dst := some 93, op := Go.Op.move (Go.Operand.tmp 9), type := 3, pos := "ref.go:129", after := #[], guard := none }) (v := .int .i64 (b : Int)) rfl (by decide) (by kernel_rfl) (by kernel_rfl) (by kernel_rfl) (by kernel_rfl) (fun _ _ _ h => h) (Or.inl ⟨by rfl, by intro w2 hSw; (try dsimp only at hSw); go_simp⟩) hS0 ?_
                          try simp only [Act.put, List.setIfInBounds_toArray, List.set_cons_zero, List.set_cons_succ]
                          refine Zed.anyZ_take (i := 14) (oi := { dst := some 94, op := Go.Op.indexAddr 23 (Go.Operand.tmp 92) (Go.Operand.tmp 93), type := 0, pos := "ref.go:129", after := #[{ on := 12, ground := Go.Ground.data }, { on := 13, ground := Go.Ground.data }], guard := none }) (v := .pointer (some ⟨G1, b, none⟩)) rfl (by decide) (by kernel_rfl) (by kernel_rfl) (by kernel_rfl) (by kernel_rfl) (fun _ _ _ h => h) (Or.inl ⟨by rfl, by intro w2 hSw; (try dsimp only at hSw); go_simp⟩) hS0 ?_
                          try simp only [Act.put, List.setIfInBounds_toArray, List.set_cons_zero, List.set_cons_succ]
                          refine Zed.anyZ_take (i := 15) (oi := { dst := some 95, op := Go.Op.load 3 (Go.Operand.tmp 94), type := 3, pos := "ref.go:129", after := #[{ on := 14, ground := Go.Ground.data }], guard := none }) (v := .int .i64 x) rfl (by decide) (by kernel_rfl) (by kernel_rfl) (by kernel_rfl) (by kernel_rfl) (fun _ _ _ h => h) (Or.inl ⟨by rfl, by intro w2 hSw; (try dsimp only at hSw); have z0 := (hSw.cell (lt_of_cell y0)).trans y0; go_simp⟩) hS0 ?_
                          try simp only [Act.put, List.setIfInBounds_toArray, List.set_cons_zero, List.set_cons_succ]
                          refine Zed.anyZ_take (i := 16) (oi := { dst := some 96, op := Go.Op.binOp Go.BinOp.add 3 (Go.Operand.tmp 95) (Go.Operand.const (Go.Value.int Go.IntKind.i64 1)) 3, type := 3, pos := "ref.go:129", after := #[{ on := 15, ground := Go.Ground.data }], guard := none }) (v := .int .i64 (x + 1)) rfl (by decide) (by kernel_rfl) (by kernel_rfl) (by kernel_rfl) (by kernel_rfl) (fun _ _ _ h => h) (Or.inl ⟨by rfl, by intro w2 hSw; (try dsimp only at hSw); go_simp; exact IntWalk.i64_in _ (by omega)⟩) hS0 ?_
                          try simp only [Act.put, List.setIfInBounds_toArray, List.set_cons_zero, List.set_cons_succ]
                          refine Zed.anyZ_take (i := 17) (oi := { dst := some 97, op := Go.Op.call { callee := Go.Callee.builtin Go.Builtin.max, args := #[Go.Operand.tmp 91, Go.Operand.tmp 96], argTypes := #[3, 3] }, type := 3, pos := "ref.go:129", after := #[{ on := 11, ground := Go.Ground.data }, { on := 16, ground := Go.Ground.data }], guard := none }) (v := .int .i64 (max y (x + 1))) rfl (by decide) (by kernel_rfl) (by kernel_rfl) (by kernel_rfl) (by kernel_rfl) (fun _ _ _ h => h) (Or.inl ⟨by rfl, by intro w2 hSw; (try dsimp only at hSw); go_simp⟩) hS0 ?_
                          try simp only [Act.put, List.setIfInBounds_toArray, List.set_cons_zero, List.set_cons_succ]
                          refine Zed.anyZ_take (i := 18) (oi := { dst := some 98, op := Go.Op.indexAddr 23 (Go.Operand.tmp 80) (Go.Operand.tmp 84), type := 0, pos := "ref.go:129", after := #[{ on := 0, ground := Go.Ground.data }, { on := 4, ground := Go.Ground.data }, { on := 0, ground := Go.Ground.phase }, { on := 1, ground := Go.Ground.phase }, { on := 2, ground := Go.Ground.phase }, { on := 3, ground := Go.Ground.phase }, { on := 4, ground := Go.Ground.phase }, { on := 5, ground := Go.Ground.phase }, { on := 6, ground := Go.Ground.phase }, { on := 7, ground := Go.Ground.phase }, { on := 8, ground := Go.Ground.phase }, { on := 9, ground := Go.Ground.phase }, { on := 10, ground := Go.Ground.phase }, { on := 11, ground := Go.Ground.phase }, { on := 12, ground := Go.Ground.phase }, { on := 13, ground := Go.Ground.phase }, { on := 14, ground := Go.Ground.phase }, { on := 15, ground := Go.Ground.phase }, { on := 16, ground := Go.Ground.phase }, { on := 17, ground := Go.Ground.phase }], guard := none }) (v := .pointer (some ⟨G2, t, none⟩)) rfl (by decide) (by kernel_rfl) (by kernel_rfl) (by kernel_rfl) (by kernel_rfl) (fun _ _ _ h => h) (Or.inl ⟨by rfl, by intro w2 hSw; (try dsimp only at hSw); go_simp⟩) hS0 ?_
                          try simp only [Act.put, List.setIfInBounds_toArray, List.set_cons_zero, List.set_cons_succ]
                          obtain ⟨X2, hX2⟩ : ∃ v, w8.drew = v := ⟨_, rfl⟩
                          rw [hX2] at hS0 ⊢
                          clear hX2
                          have hF1 := HV.out.1.below hS0
                          have hF2 := HV.out.2.1.below hS0
                          refine Zed.anyZ_ready (rs := [19]) (by kernel_rfl) (by simp) ?_
                          refine Zed.AllZ.cons (o := { dst := none, op := Go.Op.store 3 (Go.Operand.tmp 98) (Go.Operand.tmp 97), type := 0, pos := "ref.go:129", after := #[{ on := 18, ground := Go.Ground.data }, { on := 17, ground := Go.Ground.data }, { on := 0, ground := Go.Ground.phase }, { on := 1, ground := Go.Ground.phase }, { on := 2, ground := Go.Ground.phase }, { on := 3, ground := Go.Ground.phase }, { on := 4, ground := Go.Ground.phase }, { on := 5, ground := Go.Ground.phase }, { on := 6, ground := Go.Ground.phase }, { on := 7, ground := Go.Ground.phase }, { on := 8, ground := Go.Ground.phase }, { on := 9, ground := Go.Ground.phase }, { on := 10, ground := Go.Ground.phase }, { on := 11, ground := Go.Ground.phase }, { on := 12, ground := Go.Ground.phase }, { on := 13, ground := Go.Ground.phase }, { on := 14, ground := Go.Ground.phase }, { on := 15, ground := Go.Ground.phase }, { on := 16, ground := Go.Ground.phase }, { on := 17, ground := Go.Ground.phase }], guard := none }) rfl (fun K hK => ?_) Zed.AllZ.nil
                          have z1 := hF2.cell htM
                          have fS := fun o : Nat => hF2.fr o
                          go_simp
                          refine hK.out _ _ (fun h => absurd rfl h) (fun _ => ?_)
                          clear hK K
                          try simp only [Act.put, List.setIfInBounds_toArray, List.set_cons_zero, List.set_cons_succ]
                          refine Zed.anyZ_done (by kernel_rfl) ?_ _
                          have hkk := keeps_setCell X2 G2 t (.int .i64 (max y (x + 1)))
                          have HN := Lib.hid (show FnR (X2.setCell ⟨G2, t, none⟩ (.int .i64 (max y (x + 1)))) G1 M D ∧ FnR (X2.setCell ⟨G2, t, none⟩ (.int .i64 (max y (x + 1)))) G2 M (midS zs (opnL n zs ks) D i q (b + 1)) ∧ Below G w0 (X2.setCell ⟨G2, t, none⟩ (.int .i64 (max y (x + 1)))) from ⟨hF1.keep hkk (fun e => Hne.out e), hF2.set htM (max y (x + 1)) (fun j _ => Hys2.out j), (HV.out.2.2.trans (hS0.mono (by have := HG1.out; have := HV.out.1.lt; omega))).trans (hkk.below (by have := HG1.out; have := hF1.lt; omega) (fun j hj (e : j = G2) => by have := HG2.out; omega))⟩)
                          obtain ⟨w9, hw9⟩ : ∃ v, X2.setCell ⟨G2, t, none⟩ (.int .i64 (max y (x + 1))) = v := ⟨_, rfl⟩
                          rw [hw9] at HN ⊢
                          clear hkk hF1 hF2 hw9 hS0
                          go_wp2_with fail
                          go_roundw
                          case rel => exact ⟨b + 1, by omega, by go_num, HN⟩
                          case measure => simp [intOf]; omega
                        · rw [hbt, if_pos rfl] at hsb
                          have d1 : (((b : Int) / 2 ^ gb).tmod 2 == 0) = false := by rw [hsb]; rfl
                          have HN := Lib.hid (show FnR w8 G1 M D ∧ FnR w8 G2 M (midS zs (opnL n zs ks) D i q (b + 1)) ∧ Below G w0 w8 from ⟨HV.out.1, HV.out.2.1.ext (fun j _ => Hno.out (.inr hbt) j), HV.out.2.2⟩)
                          go_wp2_with fail
                          go_roundw
                          case rel => exact ⟨b + 1, by omega, by go_num, HN⟩
                          case measure => simp [intOf]; omega
                      · have hx1 : ¬ x ≥ 0 := hx0
                        have hx2 : x < 0 := by omega
                        have HN := Lib.hid (show FnR w8 G1 M D ∧ FnR w8 G2 M (midS zs (opnL n zs ks) D i q (b + 1)) ∧ Below G w0 w8 from ⟨HV.out.1, HV.out.2.1.ext (fun j _ => Hno.out (.inl hx0) j), HV.out.2.2⟩)
                        go_wp2_with fail
                        go_roundw
                        case rel => exact ⟨b + 1, by omega, by go_num, HN⟩
                        case measure => simp [intOf]; omega
                    · obtain rfl : M = b := by omega
                      have HN := Lib.hid (show FnR w8 G1 M D ∧ FnR w8 G2 M (nxS zs (opnL n zs ks) D i (q + 1)) ∧ Below G w0 w8 from ⟨HV.out.1, HV.out.2.1.ext (fun m hm => by
                        have h9 := mid_all (zs := zs) (op := (opnL n zs ks)) (D := D) (i := i) (q := q) (d := d) (by rw [Hgb.out]; exact hrd) (m := m) (by rw [HMd.out]; exact hm)
                        rw [HMd.out] at h9; exact h9), HV.out.2.2⟩)
                      go_wp2_with fail
                      go_roundw
                      case rel => exact ⟨q + 1, by omega, by go_num, HN⟩
                      case measure => simp [intOf]; omega
                · have HN := Lib.hid (show FnR w7 G1 M D ∧ FnR w7 G2 M (nxS zs (opnL n zs ks) D i (q + 1)) ∧ Below G w0 w7 from ⟨HV7.out.1, HV7.out.2.1.ext (fun m _ => nx_skip (fun e => by rw [hop, htk] at e; cases e.1) m), HV7.out.2.2⟩)
                  have zHS0 : w7.cell? ⟨R, 0, none⟩ = some (.int .i64 (c : Int)) := by rw [cell_row HS.out]; rfl
                  have zHS1 : w7.cell? ⟨R, 1, none⟩ = some (.int .i64 (d : Int)) := by rw [cell_row HS.out]; rfl
                  have zHS2 : w7.cell? ⟨R, 2, none⟩ = some (.slice (some ⟨bz, oz, none⟩) n cap) := by rw [cell_row HS.out]; rfl
                  have zHS3 : w7.cell? ⟨R, 3, none⟩ = some (.slice A2 kn kc) := by rw [cell_row HS.out]; rfl
                  go_wp2_with fail
                  clear zHS0 zHS1 zHS2 zHS3
                  go_roundw
                  case rel => exact ⟨q + 1, by omega, by go_num, HN⟩
                  case measure => simp [intOf]; omega
              · have d1 : ((ga : Int) != (i : Int)) = true := by simp; omega
                have d2 : (ga != i) = true := by simp [hgi]
                have HN := Lib.hid (show FnR w6 G1 M D ∧ FnR w6 G2 M (nxS zs (opnL n zs ks) D i (q + 1)) ∧ Below G w0 w6 from ⟨HV.out.1, HV.out.2.1.ext (fun m _ => nx_skip (fun e => hgi (Hga.out.symm.trans e.2)) m), HV.out.2.2⟩)
                have zHS0 : w6.cell? ⟨R, 0, none⟩ = some (.int .i64 (c : Int)) := by rw [cell_row HS.out]; rfl
                have zHS1 : w6.cell? ⟨R, 1, none⟩ = some (.int .i64 (d : Int)) := by rw [cell_row HS.out]; rfl
                have zHS2 : w6.cell? ⟨R, 2, none⟩ = some (.slice (some ⟨bz, oz, none⟩) n cap) := by rw [cell_row HS.out]; rfl
                have zHS3 : w6.cell? ⟨R, 3, none⟩ = some (.slice A2 kn kc) := by rw [cell_row HS.out]; rfl
                go_wp2_with fail
                clear zHS0 zHS1 zHS2 zHS3
                go_roundw
                case rel => exact ⟨q + 1, by omega, by go_num, HN⟩
                case measure => simp [intOf]; omega
            · obtain rfl : n = q := by omega
              have HN := Lib.hid (show FnR w6 G2 M (dpS n zs (opnL n zs ks) (i + 1)) ∧ G ≤ G2 ∧ Below G w0 w6 from ⟨by show FnR w6 G2 M (nxS zs (opnL n zs ks) (dpS n zs (opnL n zs ks) i) i n); rw [HD.out]; exact HV.out.2.1, HG2.out, HV.out.2.2⟩)
              have zHS0 : w6.cell? ⟨R, 0, none⟩ = some (.int .i64 (c : Int)) := by rw [cell_row HS.out]; rfl
              have zHS1 : w6.cell? ⟨R, 1, none⟩ = some (.int .i64 (d : Int)) := by rw [cell_row HS.out]; rfl
              have zHS2 : w6.cell? ⟨R, 2, none⟩ = some (.slice A n cap) := by rw [cell_row HS.out]; rfl
              have zHS3 : w6.cell? ⟨R, 3, none⟩ = some (.slice A2 kn kc) := by rw [cell_row HS.out]; rfl
              go_wp2_with fail
              clear zHS0 zHS1 zHS2 zHS3
              go_roundw
              case rel => exact ⟨i + 1, G2, cp2, by omega, hcp2, rfl, by go_num, HN⟩
              case measure => simp [intOf]; omega
        · obtain rfl : c = i := by omega
          obtain ⟨D, hD⟩ : ∃ v, dpS n zs (opnL n zs ks) c = v := ⟨_, rfl⟩
          have hdl := fun m => dp_le (n := n) (zs := zs) (op := (opnL n zs ks)) c m
          have hms := fun b (h : ∀ m, D m ≤ 12) => mxF_le (D := D) (x := 12) (by omega) h b
          have hm0 := fun b => mxF_0 D b
          have hsi := Hsiz.out
          rw [hD] at HV hdl hsi
          have Hsi2 := Lib.hid hsi
          have HV2 := Lib.hid HV.out.1
          have Hms := Lib.hid (fun b => (⟨hm0 b, hms b (fun m => by have := (hdl m).2; omega)⟩ : 0 ≤ mxF D b ∧ mxF D b ≤ 12))
          clear hD hdl hms hm0 hsi HV Hsiz
          have zHS0 : w4.cell? ⟨R, 0, none⟩ = some (.int .i64 (c : Int)) := by rw [cell_row HS.out]; rfl
          have zHS1 : w4.cell? ⟨R, 1, none⟩ = some (.int .i64 (d : Int)) := by rw [cell_row HS.out]; rfl
          have zHS2 : w4.cell? ⟨R, 2, none⟩ = some (.slice A n cap) := by rw [cell_row HS.out]; rfl
          have zHS3 : w4.cell? ⟨R, 3, none⟩ = some (.slice A2 kn kc) := by rw [cell_row HS.out]; rfl
          go_wp2_with fail
          clear zHS0 zHS1 zHS2 zHS3
          go_loopw [10, 11] (fun mv v wr => ∃ b : Nat, b ≤ M ∧ mv = .int .i64 (mxF D b) ∧ v = .int .i64 (b : Int) ∧ Hid (wr = w4)) (fun _ v _ => M - (intOf v).toNat)
          case atStart => exact ⟨0, Nat.zero_le _, rfl, rfl, Lib.hid rfl⟩
          case round =>
            obtain ⟨b, hb, rfl, rfl, HE⟩ := hrel
            obtain rfl : w4 = wr := HE.out.symm
            by_cases hlb : b < M
            · have y0 := HV2.out.cell hlb
              have k1 : (0 : Int) ≤ (b : Int) := by omega
              have k2 : (b : Int) < (M : Int) := by omega
              have hnx : mxF D (b + 1) = max (mxF D b) (D b) := rfl
              obtain ⟨x, hx⟩ : ∃ x, D b = x := ⟨_, rfl⟩
              obtain ⟨y, hy⟩ : ∃ y, mxF D b = y := ⟨_, rfl⟩
              rw [hx, hy] at hnx
              rw [hx] at y0
              have Hnx := Lib.hid hnx
              clear hnx hx
              try rw [hy]
              clear hy
              go_wp2_with fail
              go_roundw
              case rel => exact ⟨b + 1, by omega, by rw [Hnx.out], by go_num, (by first | exact Lib.hid rfl | exact Lib.hid trivial)⟩
              case measure => simp [intOf]; omega
            · obtain rfl : M = b := by omega
              have hm := Hms.out M
              have hsi := Hsi2.out
              obtain ⟨y, hy⟩ : ∃ y, mxF D M = y := ⟨_, rfl⟩
              rw [hy] at hm hsi
              have Hsi := Lib.hid hsi
              have hkb := Hk.out
              have hwr : IntKind.i64.wrap (y + (kn : Int)) = y + (kn : Int) := IntWalk.i64_in _ (by omega)
              clear hsi
              try rw [hy]
              clear hy
              have zHS0 : w4.cell? ⟨R, 0, none⟩ = some (.int .i64 (c : Int)) := by rw [cell_row HS.out]; rfl
              have zHS1 : w4.cell? ⟨R, 1, none⟩ = some (.int .i64 (d : Int)) := by rw [cell_row HS.out]; rfl
              have zHS2 : w4.cell? ⟨R, 2, none⟩ = some (.slice A n cap) := by rw [cell_row HS.out]; rfl
              have zHS3 : w4.cell? ⟨R, 3, none⟩ = some (.slice A2 kn kc) := by rw [cell_row HS.out]; rfl
              go_wp2_with fail
              go_ret
              exact ⟨by rw [Hsi.out]; rfl, B.out⟩
theorem size24 (sl sr : Int) (A : Option Addr) (n cap : Nat) (zs : List Rg) (A2 : Option Addr) (kn kc : Nat) (ks : List Int) (w : World) (h : Rgs w A n zs) (hI : Ints w A2 kn ks) (hk : kn ≤ 100000) (he : chkS sl sr zs ks = 0) :
    Calls Try.prog 24 #[.agg #[.int .i64 sl, .int .i64 sr, .slice A n cap, .slice A2 kn kc]] w fun e w' => e = .returned (.int .i64 (siz n zs ks : Int)) ∧ Below w.heap.size w w' := by
  have hr := (shg_of he).rng
  obtain ⟨c, rfl⟩ : ∃ c : Nat, sl = (c : Int) := ⟨sl.toNat, by omega⟩
  obtain ⟨d, rfl⟩ : ∃ d : Nat, sr = (d : Int) := ⟨sr.toNat, by omega⟩
  exact size24_ c d A n cap zs A2 kn kc ks w h hI hk he
end
end Go.Proofs.Ytnodkgejggnehaa
