/- Stage 6: NameMet. -/
import Derived.Test.YtigohccehllmnaaSde
import Derived.Test.YtigohccehllmnaaG3
namespace Go.Proofs.Ytigohccehllmnaa
set_option linter.unusedSimpArgs false
set_option linter.unusedVariables false
open Go.RowKit Go.Shelf

theorem fine_yes {l : NL} (h : fineL l = true) : grtL l = false ∧ chkL l = 0 := by
  unfold fineL at h
  simpa using h
/-- The given side. -/
def gvP (R R' : Int → Bool) (x : Nat) : Int → Bool := fun y => R y || (!R' y && x.testBit y.toNat)
theorem sdL_at (R R' : Int → Bool) {n x : Nat} (h : x < n) : iAt (sdL R R' n) x = sdV R R' (x : Int) := by
  rw [iAt_eq (by rw [sdL_len]; exact h)]; simp [sdL]
section
variable {l : NL} {R R' : Int → Bool}
theorem none_right (hN : NoneC l R') {y : Int} (h : y ∈ l.rs) : R' y = true := (hN y).2 fun S hS => hS.1.2 y h
theorem not_both (hR : Cheap l.zs l.ls l.rs R) (hN : NoneC l R') {y : Int} (h : R' y = true) : R y = false := (hN y).1 h R hR
theorem gv_side (hR : Cheap l.zs l.ls l.rs R) (hN : NoneC l R') (x : Nat) : IsSd l.ls l.rs (gvP R R' x) := by
  refine ⟨fun y hy => by unfold gvP; rw [hR.1.1 y hy, Bool.true_or], fun y hy => ?_⟩
  unfold gvP
  rw [hR.1.2 y hy, none_right hN hy]
  simp
theorem and_side {A B : Int → Bool} (hA : IsSd l.ls l.rs A) (hB : IsSd l.ls l.rs B) : IsSd l.ls l.rs (fun y => A y && B y) ∧ IsSd l.ls l.rs (fun y => A y || B y) :=
  ⟨⟨fun y hy => by simp [hA.1 y hy, hB.1 y hy], fun y hy => by simp [hA.2 y hy]⟩, ⟨fun y hy => by simp [hA.1 y hy], fun y hy => by simp [hA.2 y hy, hB.2 y hy]⟩⟩
theorem and_cost {N : Nat} (hz : OkL N l.zs) {A B : Int → Bool} (hA : IsSd l.ls l.rs A) (hB : Cheap l.zs l.ls l.rs B) : costS l.zs (fun y => A y && B y) ≤ costS l.zs A ∧ costS l.zs (fun y => A y || B y) ≤ costS l.zs A := by
  have h1 := cost_sub hz A B
  have h2 := hB.2 _ (and_side hA hB.1).1
  have h3 := hB.2 _ (and_side hA hB.1).2
  omega
end
/-- What a name is told. -/
theorem sd_cases {l : NL} {R R' : Int → Bool} (hR : Cheap l.zs l.ls l.rs R) (hN : NoneC l R') (y : Int) :
    (R y = true ∧ R' y = false ∧ y ∉ l.rs ∧ sdV R R' y = 1) ∨ (R y = false ∧ R' y = true ∧ y ∉ l.ls ∧ sdV R R' y = -1) ∨ (R y = false ∧ R' y = false ∧ y ∉ l.ls ∧ y ∉ l.rs ∧ sdV R R' y = 0) := by
  cases e1 : R y <;> cases e2 : R' y
  · refine .inr (.inr ⟨rfl, rfl, fun h => ?_, fun h => ?_, ?_⟩)
    · rw [hR.1.1 y h] at e1; cases e1
    · rw [none_right hN h] at e2; cases e2
    · unfold sdV; rw [e1, e2]; rfl
  · refine .inr (.inl ⟨rfl, rfl, fun h => ?_, ?_⟩)
    · rw [hR.1.1 y h] at e1; cases e1
    · unfold sdV; rw [e1, e2]; rfl
  · refine .inl ⟨rfl, rfl, fun h => ?_, ?_⟩
    · rw [hR.1.2 y h] at e1; cases e1
    · unfold sdV; rw [e1]; rfl
  · rw [not_both hR hN e2] at e1; cases e1
section
attribute [local go_sem ↓] exec_app at_app
attribute [local go_sem] Oper.semAt_some
set_option maxRecDepth 100000 in
set_option maxHeartbeats 40000000 in
theorem met9 (l : NL) (x : Nat) (w : World) (h : NLo w l) (hx : x ≤ 18446744073709551615) :
    Calls Try.prog 9 #[.agg #[.int .i64 l.N, .slice l.A l.n l.cap, .slice l.LA l.ln l.lc, .slice l.RA l.rn l.rc], .int .u64 (x : Int)] w fun e w' => e = .returned (.bool true) ∧ Below w.heap.size w w' := by
  obtain ⟨R, hR⟩ : ∃ v, w.heap.size = v := ⟨_, rfl⟩
  have hb0 := below_alloc_ w (.cells #[.int .i64 l.N, .slice l.A l.n l.cap, .slice l.LA l.ln l.lc, .slice l.RA l.rn l.rc] 25)
  have hr0 := heap_alloc_new_ w (.cells #[.int .i64 l.N, .slice l.A l.n l.cap, .slice l.LA l.ln l.lc, .slice l.RA l.rn l.rc] 25)
  have hz0 : (w.alloc (.cells #[.int .i64 l.N, .slice l.A l.n l.cap, .slice l.LA l.ln l.lc, .slice l.RA l.rn l.rc] 25)).heap.size = w.heap.size + 1 := by simp
  obtain ⟨w0, hw0⟩ : ∃ v, w.alloc (.cells #[.int .i64 l.N, .slice l.A l.n l.cap, .slice l.LA l.ln l.lc, .slice l.RA l.rn l.rc] 25) = v := ⟨_, rfl⟩
  rw [hw0] at hb0 hr0 hz0
  rw [hR] at hr0 hz0
  have hB := hb0
  have LO := Lib.hid (h.below hB (Nat.le_refl _))
  have X := Lib.hid hr0
  have HW0 := Lib.hid hw0
  have B := Lib.hid hB
  have HR := Lib.hid hR
  clear hB hR hb0 hr0 hz0 hw0 h
  have Hx := Lib.hid hx
  clear hx
  have ltX : R < w0.heap.size := lt_of_block X.out
  have zX0 : w0.cell? ⟨R, 0, none⟩ = some (.int .i64 l.N) := by rw [cell_row X.out]; rfl
  have zX1 : w0.cell? ⟨R, 1, none⟩ = some (.slice l.A l.n l.cap) := by rw [cell_row X.out]; rfl
  have zX2 : w0.cell? ⟨R, 2, none⟩ = some (.slice l.LA l.ln l.lc) := by rw [cell_row X.out]; rfl
  have zX3 : w0.cell? ⟨R, 3, none⟩ = some (.slice l.RA l.rn l.rc) := by rw [cell_row X.out]; rfl
  go_enter Try.func9, Try.ntmps9
  go_wp2_with fail
  try rw [HW0.out]
  try rw [HR.out]
  try simp only [Nat.add_assoc, Nat.reduceAdd]
  try go_wp2_with fail
  clear zX0 zX1 zX2 zX3 ltX
  refine (fineO l w0 LO.out).mono ?_
  rintro en w1 ⟨rfl, hb⟩
  replace LO := Lib.hid (LO.out.below hb (Nat.le_refl _))
  replace X := Lib.hid ((hb.block _ (lt_of_block X.out)).trans X.out)
  replace B := Lib.hid (B.out.trans (hb.mono B.out.size))
  cases hg : fineL l
  try clear hb
  · clear hg
    have ltX : R < w1.heap.size := lt_of_block X.out
    have zX0 : w1.cell? ⟨R, 0, none⟩ = some (.int .i64 l.N) := by rw [cell_row X.out]; rfl
    have zX1 : w1.cell? ⟨R, 1, none⟩ = some (.slice l.A l.n l.cap) := by rw [cell_row X.out]; rfl
    have zX2 : w1.cell? ⟨R, 2, none⟩ = some (.slice l.LA l.ln l.lc) := by rw [cell_row X.out]; rfl
    have zX3 : w1.cell? ⟨R, 3, none⟩ = some (.slice l.RA l.rn l.rc) := by rw [cell_row X.out]; rfl
    go_wp2_with fail
    clear zX0 zX1 zX2 zX3 ltX
    refine (works14 w1).mono ?_
    rintro en w2 ⟨rfl, hb⟩
    replace B := Lib.hid (B.out.trans (hb.mono B.out.size))
    clear hb
    go_wp2_with fail
    go_ret
    exact ⟨rfl, B.out⟩
  have S := Lib.hid (LO.out.nls (fine_yes hg).1)
  have HCH := Lib.hid (fine_yes hg).2
  clear hg
  have hN := (chk_zero HCH.out).1
  obtain ⟨c, hcN⟩ : ∃ c : Nat, l.N = (c : Int) := ⟨l.N.toNat, by omega⟩
  have HCN := Lib.hid hcN
  have HTO := Lib.hid (show l.N.toNat = c by omega)
  have HC40 := Lib.hid (show c ≤ 40 by omega)
  have HN12 := Lib.hid (chk_zero HCH.out).2.1
  clear hN hcN
  have ltX : R < w1.heap.size := lt_of_block X.out
  have zX0 : w1.cell? ⟨R, 0, none⟩ = some (.int .i64 l.N) := by rw [cell_row X.out]; rfl
  have zX1 : w1.cell? ⟨R, 1, none⟩ = some (.slice l.A l.n l.cap) := by rw [cell_row X.out]; rfl
  have zX2 : w1.cell? ⟨R, 2, none⟩ = some (.slice l.LA l.ln l.lc) := by rw [cell_row X.out]; rfl
  have zX3 : w1.cell? ⟨R, 3, none⟩ = some (.slice l.RA l.rn l.rc) := by rw [cell_row X.out]; rfl
  go_wp2_with fail
  clear zX0 zX1 zX2 zX3 ltX
  refine (leastA l w1 S.out HCH.out).mono ?_
  rintro en w2 ⟨QL, R1, rfl, hI, hCh, hAl, hb⟩
  replace LO := Lib.hid (LO.out.below hb (Nat.le_refl _))
  replace S := Lib.hid (S.out.below hb (Nat.le_refl _))
  replace X := Lib.hid ((hb.block _ (lt_of_block X.out)).trans X.out)
  replace B := Lib.hid (B.out.trans (hb.mono B.out.size))
  rw [HTO.out] at hI ⊢
  have HQ := Lib.hid hI
  have HCR := Lib.hid hCh
  have HAR := Lib.hid hAl
  obtain ⟨sR, hsR⟩ : ∃ v, nmK R1 c = v := ⟨_, rfl⟩
  obtain ⟨nR, hnR⟩ : ∃ v, sR.length = v := ⟨_, rfl⟩
  rw [hsR, hnR] at HQ ⊢
  have HSR := Lib.hid hsR
  obtain ⟨q, hq⟩ : ∃ v, costS l.zs R1 = v := ⟨_, rfl⟩
  rw [hq]
  have HQV := Lib.hid hq
  clear hI hCh hAl hsR hnR hq
  try clear hb
  have ltX : R < w2.heap.size := lt_of_block X.out
  have zX0 : w2.cell? ⟨R, 0, none⟩ = some (.int .i64 l.N) := by rw [cell_row X.out]; rfl
  have zX1 : w2.cell? ⟨R, 1, none⟩ = some (.slice l.A l.n l.cap) := by rw [cell_row X.out]; rfl
  have zX2 : w2.cell? ⟨R, 2, none⟩ = some (.slice l.LA l.ln l.lc) := by rw [cell_row X.out]; rfl
  have zX3 : w2.cell? ⟨R, 3, none⟩ = some (.slice l.RA l.rn l.rc) := by rw [cell_row X.out]; rfl
  go_wp2_with fail
  clear zX0 zX1 zX2 zX3 ltX
  refine (sidesA l w2 S.out HCH.out).mono ?_
  rintro en w3 ⟨CK, ck, R2, R3, rfl, hck, hI, hA2, hN3, hC2, hC3, hb⟩
  replace LO := Lib.hid (LO.out.below hb (Nat.le_refl _))
  replace S := Lib.hid (S.out.below hb (Nat.le_refl _))
  replace HQ := Lib.hid (HQ.out.below hb (Nat.le_refl _))
  replace X := Lib.hid ((hb.block _ (lt_of_block X.out)).trans X.out)
  replace B := Lib.hid (B.out.trans (hb.mono B.out.size))
  obtain rfl := AllC.uniq HAR.out hA2
  rw [HTO.out] at hI ⊢
  have HK := Lib.hid hI
  have HN3 := Lib.hid hN3
  have HC3 := Lib.hid hC3
  have HMQ := Lib.hid (show costS l.zs (fun y => !R3 y) = q by rw [← HQV.out]; exact Cheap.same hC3 HCR.out)
  clear hI hA2 hN3 hC2 hC3 hck
  try clear hb
  have ltX : R < w3.heap.size := lt_of_block X.out
  have zX0 : w3.cell? ⟨R, 0, none⟩ = some (.int .i64 l.N) := by rw [cell_row X.out]; rfl
  have zX1 : w3.cell? ⟨R, 1, none⟩ = some (.slice l.A l.n l.cap) := by rw [cell_row X.out]; rfl
  have zX2 : w3.cell? ⟨R, 2, none⟩ = some (.slice l.LA l.ln l.lc) := by rw [cell_row X.out]; rfl
  have zX3 : w3.cell? ⟨R, 3, none⟩ = some (.slice l.RA l.rn l.rc) := by rw [cell_row X.out]; rfl
  have zN : w3.cell? ⟨R, 0, none⟩ = some (.int .i64 (c : Int)) := by rw [← HCN.out]; exact zX0
  clear zX0
  have zX0 := zN
  clear zN
  go_wp2_with fail
  clear zX0 zX1 zX2 zX3 ltX
  go_loopw [10, 11, 12, 13] (fun v1 v2 v3 i wr => ∃ k : Nat, k ≤ c ∧ i = .int .i64 (k : Int) ∧ Hid (∃ u1 u2 u3 : Value, v1 = u1 ∧ v2 = u2 ∧ v3 = u3 ∧ Gr3 w3 wr u1 u2 u3 (nmK R1 k) (nmK (fun y => !R3 y) k) (nmK (gvP R1 R3 x) k))) (fun v1 v2 v3 i _ => c - (intOf i).toNat)
  case atStart => exact ⟨0, Nat.zero_le _, rfl, Lib.hid ⟨_, _, _, rfl, rfl, rfl, Gr3.nil _⟩⟩
  case round =>
    obtain ⟨k, hk9, rfl, HX⟩ := hrel
    obtain ⟨wk, rfl⟩ : ∃ wk, wk = wr := ⟨_, rfl⟩
    obtain ⟨u1, u2, u3, e1, e2, e3, hG⟩ := HX.out
    obtain rfl : u1 = _ := e1.symm
    obtain rfl : u2 = _ := e2.symm
    obtain rfl : u3 = _ := e3.symm
    clear HX e1 e2 e3
    have hbk := hG.g1.2.2
    have Xk := Lib.hid ((hbk.block _ (lt_of_block X.out)).trans X.out)
    have Sk := Lib.hid (S.out.below hbk (Nat.le_refl _))
    have zX0 : wk.cell? ⟨R, 0, none⟩ = some (.int .i64 (c : Int)) := by rw [cell_row Xk.out, ← HCN.out]; rfl
    have hc40 := HC40.out
    by_cases hlt : k < c
    · have zX2 : wk.cell? ⟨R, 2, none⟩ = some (.slice l.LA l.ln l.lc) := by rw [cell_row Xk.out]; rfl
      have zX3 : wk.cell? ⟨R, 3, none⟩ = some (.slice l.RA l.rn l.rc) := by rw [cell_row Xk.out]; rfl
      have HKk := HK.out.below hbk (Nat.le_refl _)
      obtain ⟨bk, ok, hAk, hck⟩ := HKk.2 (by omega)
      have r1 := hck k hlt
      subst hAk
      rw [sdL_at R1 R3 hlt] at r1
      have hcs := sd_cases HCR.out HN3.out (k : Int)
      have HR1 := Lib.hid (show ∀ W, Below wk.heap.size wk W → W.cell? ⟨bk, ok + k, none⟩ = wk.cell? ⟨bk, ok + k, none⟩ from fun W hW => hW.cell (lt_of_cell r1))
      have i0 : (0 : Int) ≤ (k : Int) := by omega
      have i1 : (k : Int) < (c : Int) := by omega
      have i2 : ¬ (k : Int) < 0 := by omega
      have i3 : (k : Int) < 64 := by omega
      have K1 := Lib.hid (in38 l.LA l.ln l.lc l.ls (k : Int) wk Sk.out.ls Sk.out.l6)
      have K2 := Lib.hid (in38 l.RA l.rn l.rc l.rs (k : Int) wk Sk.out.rs Sk.out.r6)
      have hl1 := nmK_len R1 k
      have hl2 := nmK_len (fun y => !R3 y) k
      have hl3 := nmK_len (gvP R1 R3 x) k
      have Hlt := Lib.hid hlt
      have HLE := Lib.hid (show (nmK R1 k).length ≤ 100000 ∧ (nmK (fun y => !R3 y) k).length ≤ 100000 ∧ (nmK (gvP R1 R3 x) k).length ≤ 100000 by omega)
      have HG := Lib.hid hG
      have hbk2 : bk < w3.heap.size := ints_lt HK.out (by omega) rfl
      have Hbk2 := Lib.hid hbk2
      clear hG hbk HKk hck hl1 hl2 hl3 hbk2
      rcases hcs with ⟨ha, hb9, hnr, hv⟩ | ⟨ha, hb9, hnl, hv⟩ | ⟨ha, hb9, hnl, hnr, hv⟩
      · rw [hv] at r1
        clear hv
        have E1 := Lib.hid (nmK_yes (p := R1) (k := k) ha)
        have E2 := Lib.hid (nmK_yes (p := fun y => !R3 y) (k := k) (by simp only [hb9]; rfl))
        have E3 := Lib.hid (nmK_yes (p := gvP R1 R3 x) (k := k) (by unfold gvP; rw [ha, Bool.true_or]))
        rw [decide_eq_false hnr] at K2
        obtain ⟨a1, ha1⟩ : ∃ v, decide ((k : Int) ∈ l.ls) = v := ⟨_, rfl⟩
        rw [ha1] at K1
        obtain ⟨C1, d1, V1, hrun1, hG1, hk1⟩ := HG.out.app (k : Int) HLE.out.1
        have r2 : V1.cell? ⟨bk, ok + k, none⟩ = some (.int .i64 1) := (keep_cells hk1 (lt_of_cell r1) (fun e => by have := HG.out.g1.2.1 _ e; have := Hbk2.out; omega) (ok + k)).trans r1
        obtain ⟨C2, d2, V2, hrun2, hG2, hk2⟩ := hG1.rot.app (k : Int) HLE.out.2.1
        have r3 : V2.cell? ⟨bk, ok + k, none⟩ = some (.int .i64 1) := (keep_cells hk2 (lt_of_cell r2) (fun e => by have := hG1.g2.2.1 _ e; have := Hbk2.out; omega) (ok + k)).trans r2
        obtain ⟨C3, d3, V3, hrun3, hG3, hk3⟩ := hG2.rot.app (k : Int) HLE.out.2.2
        have HG3 := Lib.hid hG3.rot
        clear hG1 hG2 hG3 hk1 hk2 hk3 ha hb9 hnr ha1
        go_wp2_with fail
        refine K1.out.mono ?_
        rintro en w9 ⟨rfl, hw9⟩
        subst w9
        rcases a1 with _ | _
        · go_wp2_with fail
          refine K2.out.mono ?_
          rintro en w9 ⟨rfl, hw9⟩
          subst w9
          go_wp2_with fail
          go_roundw
          case rel => exact ⟨k + 1, by have := Hlt.out; omega, by go_num, Lib.hid ⟨_, _, _, rfl, rfl, rfl, by rw [E1.out, E2.out, E3.out]; exact HG3.out⟩⟩
          case measure => have := Hlt.out; simp [intOf]; omega
        · go_wp2_with fail
          refine K2.out.mono ?_
          rintro en w9 ⟨rfl, hw9⟩
          subst w9
          go_wp2_with fail
          go_roundw
          case rel => exact ⟨k + 1, by have := Hlt.out; omega, by go_num, Lib.hid ⟨_, _, _, rfl, rfl, rfl, by rw [E1.out, E2.out, E3.out]; exact HG3.out⟩⟩
          case measure => have := Hlt.out; simp [intOf]; omega
      · rw [hv] at r1
        clear hv
        have E1 := Lib.hid (nmK_no (p := R1) (k := k) ha)
        have E2 := Lib.hid (nmK_no (p := fun y => !R3 y) (k := k) (by simp only [hb9]; rfl))
        have E3 := Lib.hid (nmK_no (p := gvP R1 R3 x) (k := k) (by unfold gvP; rw [ha, hb9]; rfl))
        rw [decide_eq_false hnl] at K1
        obtain ⟨a1, ha1⟩ : ∃ v, decide ((k : Int) ∈ l.rs) = v := ⟨_, rfl⟩
        rw [ha1] at K2
        clear ha hb9 hnl ha1
        go_wp2_with fail
        refine K1.out.mono ?_
        rintro en w9 ⟨rfl, hw9⟩
        subst w9
        go_wp2_with fail
        refine K2.out.mono ?_
        rintro en w9 ⟨rfl, hw9⟩
        subst w9
        rcases a1 with _ | _
        · go_wp2_with fail
          go_roundw
          case rel => exact ⟨k + 1, by have := Hlt.out; omega, by go_num, Lib.hid ⟨_, _, _, rfl, rfl, rfl, by rw [E1.out, E2.out, E3.out]; exact HG.out⟩⟩
          case measure => have := Hlt.out; simp [intOf]; omega
        · go_wp2_with fail
          go_roundw
          case rel => exact ⟨k + 1, by have := Hlt.out; omega, by go_num, Lib.hid ⟨_, _, _, rfl, rfl, rfl, by rw [E1.out, E2.out, E3.out]; exact HG.out⟩⟩
          case measure => have := Hlt.out; simp [intOf]; omega
      · rw [hv] at r1
        clear hv
        have E1 := Lib.hid (nmK_no (p := R1) (k := k) ha)
        have E2 := Lib.hid (nmK_yes (p := fun y => !R3 y) (k := k) (by simp only [hb9]; rfl))
        have hab := and_bit x k Hx.out
        have hpe : gvP R1 R3 x (k : Int) = x.testBit k := by unfold gvP; rw [ha, hb9, Int.toNat_natCast]; simp
        rw [decide_eq_false hnl] at K1
        rw [decide_eq_false hnr] at K2
        obtain ⟨C2, d2, V2, hrun2, hG2, hk2⟩ := HG.out.rot.app (k : Int) HLE.out.2.1
        have r3 : V2.cell? ⟨bk, ok + k, none⟩ = some (.int .i64 0) := (keep_cells hk2 (lt_of_cell r1) (fun e => by have := HG.out.g2.2.1 _ e; have := Hbk2.out; omega) (ok + k)).trans r1
        clear ha hb9 hnl hnr
        go_wp2_with fail
        refine K1.out.mono ?_
        rintro en w9 ⟨rfl, hw9⟩
        subst w9
        go_wp2_with fail
        refine K2.out.mono ?_
        rintro en w9 ⟨rfl, hw9⟩
        subst w9
        cases hbt : x.testBit k
        · rw [hbt] at hpe
          have E3 := Lib.hid (nmK_no (p := gvP R1 R3 x) (k := k) hpe)
          rw [hbt, if_neg (by simp)] at hab
          have d1 : ¬ bits BinOp.and IntKind.u64 ((x : Int) / 2 ^ k) 1 = 1 := by rw [hab]; decide
          have HG3 := Lib.hid hG2.rot.rot
          clear hab hbt hpe hG2 hk2
          go_wp2_with fail
          go_roundw
          case rel => exact ⟨k + 1, by have := Hlt.out; omega, by go_num, Lib.hid ⟨_, _, _, rfl, rfl, rfl, by rw [E1.out, E2.out, E3.out]; exact HG3.out⟩⟩
          case measure => have := Hlt.out; simp [intOf]; omega
        · rw [hbt] at hpe
          have E3 := Lib.hid (nmK_yes (p := gvP R1 R3 x) (k := k) hpe)
          rw [hbt, if_pos rfl] at hab
          have d1 : bits BinOp.and IntKind.u64 ((x : Int) / 2 ^ k) 1 = 1 := hab
          obtain ⟨C3, d3, V3, hrun3, hG3, hk3⟩ := hG2.rot.app (k : Int) HLE.out.2.2
          have HG3 := Lib.hid hG3.rot
          clear hab hbt hpe hG2 hk2 hG3 hk3
          go_wp2_with fail
          go_roundw
          case rel => exact ⟨k + 1, by have := Hlt.out; omega, by go_num, Lib.hid ⟨_, _, _, rfl, rfl, rfl, by rw [E1.out, E2.out, E3.out]; exact HG3.out⟩⟩
          case measure => have := Hlt.out; simp [intOf]; omega
    · obtain rfl : k = c := by omega
      obtain ⟨C1, d1, rfl, hd1, hI1, -⟩ := ints_own rfl hG.g1.1
      obtain ⟨C2, d2, rfl, hd2, hI2, -⟩ := ints_own rfl hG.g2.1
      obtain ⟨C3, d3, rfl, hd3, hI3, -⟩ := ints_own rfl hG.g3.1
      rw [HSR.out] at hI1 hd1 ⊢
      obtain ⟨n1, hn1⟩ : ∃ v, sR.length = v := ⟨_, rfl⟩
      obtain ⟨n2, hn2⟩ : ∃ v, (nmK (fun y => !R3 y) k).length = v := ⟨_, rfl⟩
      obtain ⟨n3, hn3⟩ : ∃ v, (nmK (gvP R1 R3 x) k).length = v := ⟨_, rfl⟩
      have hl1 := nmK_len R1 k
      rw [HSR.out] at hl1
      rw [hn1] at hl1 hI1 hd1 ⊢
      rw [hn2] at hI2 hd2 ⊢
      rw [hn3] at hI3 hd3 ⊢
      have hb := hbk
      have H1 := Lib.hid hI1
      have H2 := Lib.hid hI2
      have H3 := Lib.hid hI3
      have Hd := Lib.hid (And.intro hd1 (And.intro hd2 hd3))
      have HN8 := Lib.hid (show n1 ≤ 10000 by omega)
      clear hd1 hI1 hd2 hI2 hd3 hI3 hn1 hn2 hn3 hl1 hG hbk Sk
      replace LO := Lib.hid (LO.out.below hb (Nat.le_refl _))
      replace S := Lib.hid (S.out.below hb (Nat.le_refl _))
      replace HQ := Lib.hid (HQ.out.below hb (Nat.le_refl _))
      replace HK := Lib.hid (HK.out.below hb (Nat.le_refl _))
      replace X := Xk
      replace B := Lib.hid (B.out.trans (hb.mono B.out.size))
      clear hb hk9 hlt hc40 zX0
      have ltX : R < wk.heap.size := lt_of_block X.out
      have zX0 : wk.cell? ⟨R, 0, none⟩ = some (.int .i64 l.N) := by rw [cell_row X.out]; rfl
      have zX1 : wk.cell? ⟨R, 1, none⟩ = some (.slice l.A l.n l.cap) := by rw [cell_row X.out]; rfl
      have zX2 : wk.cell? ⟨R, 2, none⟩ = some (.slice l.LA l.ln l.lc) := by rw [cell_row X.out]; rfl
      have zX3 : wk.cell? ⟨R, 3, none⟩ = some (.slice l.RA l.rn l.rc) := by rw [cell_row X.out]; rfl
      have zN : wk.cell? ⟨R, 0, none⟩ = some (.int .i64 (k : Int)) := by rw [← HCN.out]; exact zX0
      clear zX0
      have zX0 := zN
      clear zN
      go_upto_region 19 with fail
      clear zX0 zX1 zX2 zX3 ltX
      have ltX : R < wk.heap.size := lt_of_block X.out
      have zX0 : wk.cell? ⟨R, 0, none⟩ = some (.int .i64 l.N) := by rw [cell_row X.out]; rfl
      have zX1 : wk.cell? ⟨R, 1, none⟩ = some (.slice l.A l.n l.cap) := by rw [cell_row X.out]; rfl
      have zX2 : wk.cell? ⟨R, 2, none⟩ = some (.slice l.LA l.ln l.lc) := by rw [cell_row X.out]; rfl
      have zX3 : wk.cell? ⟨R, 3, none⟩ = some (.slice l.RA l.rn l.rc) := by rw [cell_row X.out]; rfl
      go_wp2_with fail
      clear zX0 zX1 zX2 zX3 ltX
      refine (cutS l (fun y => !R3 y) k C2 n2 d2 (nmK (fun y => !R3 y) k) wk S.out HCH.out HCN.out rfl H2.out Hd.out.2.1 HC3.out.1).mono ?_
      rintro en wk1 ⟨CY, cY, rfl, -, -, hb⟩
      replace LO := Lib.hid (LO.out.below hb (Nat.le_refl _))
      replace S := Lib.hid (S.out.below hb (Nat.le_refl _))
      replace HQ := Lib.hid (HQ.out.below hb (Nat.le_refl _))
      replace HK := Lib.hid (HK.out.below hb (Nat.le_refl _))
      replace H1 := Lib.hid (H1.out.below hb (Nat.le_refl _))
      replace H2 := Lib.hid (H2.out.below hb (Nat.le_refl _))
      replace H3 := Lib.hid (H3.out.below hb (Nat.le_refl _))
      replace X := Lib.hid ((hb.block _ (lt_of_block X.out)).trans X.out)
      replace B := Lib.hid (B.out.trans (hb.mono B.out.size))
      rw [HMQ.out]
      obtain ⟨nY, hnY⟩ : ∃ v, (ctS l (fun y => !R3 y)).length = v := ⟨_, rfl⟩
      rw [hnY]
      clear hnY
      try clear hb
      have ltX : R < wk1.heap.size := lt_of_block X.out
      have zX0 : wk1.cell? ⟨R, 0, none⟩ = some (.int .i64 l.N) := by rw [cell_row X.out]; rfl
      have zX1 : wk1.cell? ⟨R, 1, none⟩ = some (.slice l.A l.n l.cap) := by rw [cell_row X.out]; rfl
      have zX2 : wk1.cell? ⟨R, 2, none⟩ = some (.slice l.LA l.ln l.lc) := by rw [cell_row X.out]; rfl
      have zX3 : wk1.cell? ⟨R, 3, none⟩ = some (.slice l.RA l.rn l.rc) := by rw [cell_row X.out]; rfl
      go_wp2_with fail
      clear zX0 zX1 zX2 zX3 ltX
      refine (ints28 C1 n1 d1 sR (some ⟨QL, 0, none⟩) nR nR sR wk1 H1.out HQ.out HN8.out).mono ?_
      rintro en wk2 ⟨rfl, hb⟩
      replace LO := Lib.hid (LO.out.below hb (Nat.le_refl _))
      replace S := Lib.hid (S.out.below hb (Nat.le_refl _))
      replace HQ := Lib.hid (HQ.out.below hb (Nat.le_refl _))
      replace HK := Lib.hid (HK.out.below hb (Nat.le_refl _))
      replace H1 := Lib.hid (H1.out.below hb (Nat.le_refl _))
      replace H2 := Lib.hid (H2.out.below hb (Nat.le_refl _))
      replace H3 := Lib.hid (H3.out.below hb (Nat.le_refl _))
      replace X := Lib.hid ((hb.block _ (lt_of_block X.out)).trans X.out)
      replace B := Lib.hid (B.out.trans (hb.mono B.out.size))
      rw [decide_eq_true (rfl : sR = sR)]
      try clear hb
      have ltX : R < wk2.heap.size := lt_of_block X.out
      have zX0 : wk2.cell? ⟨R, 0, none⟩ = some (.int .i64 l.N) := by rw [cell_row X.out]; rfl
      have zX1 : wk2.cell? ⟨R, 1, none⟩ = some (.slice l.A l.n l.cap) := by rw [cell_row X.out]; rfl
      have zX2 : wk2.cell? ⟨R, 2, none⟩ = some (.slice l.LA l.ln l.lc) := by rw [cell_row X.out]; rfl
      have zX3 : wk2.cell? ⟨R, 3, none⟩ = some (.slice l.RA l.rn l.rc) := by rw [cell_row X.out]; rfl
      go_wp2_with fail
      clear zX0 zX1 zX2 zX3 ltX
      refine (cutS l (gvP R1 R3 x) k C3 n3 d3 (nmK (gvP R1 R3 x) k) wk2 S.out HCH.out HCN.out rfl H3.out Hd.out.2.2 (gv_side HCR.out HN3.out x)).mono ?_
      rintro en wk3 ⟨CZ, cZ, rfl, -, -, hb⟩
      replace LO := Lib.hid (LO.out.below hb (Nat.le_refl _))
      replace S := Lib.hid (S.out.below hb (Nat.le_refl _))
      replace HQ := Lib.hid (HQ.out.below hb (Nat.le_refl _))
      replace HK := Lib.hid (HK.out.below hb (Nat.le_refl _))
      replace H1 := Lib.hid (H1.out.below hb (Nat.le_refl _))
      replace H2 := Lib.hid (H2.out.below hb (Nat.le_refl _))
      replace H3 := Lib.hid (H3.out.below hb (Nat.le_refl _))
      replace X := Lib.hid ((hb.block _ (lt_of_block X.out)).trans X.out)
      replace B := Lib.hid (B.out.trans (hb.mono B.out.size))
      have hge := HCR.out.2 _ (gv_side HCR.out HN3.out x)
      rw [HQV.out] at hge
      obtain ⟨zq, hzq⟩ : ∃ v, costS l.zs (gvP R1 R3 x) = v := ⟨_, rfl⟩
      rw [hzq] at hge ⊢
      obtain ⟨nY, hnY⟩ : ∃ v, (ctS l (gvP R1 R3 x)).length = v := ⟨_, rfl⟩
      rw [hnY]
      clear hnY
      have pge : ¬ zq < q := by omega
      have dge : decide (zq < q) = false := decide_eq_false pge
      clear hge hzq
      try clear hb
      have ltX : R < wk3.heap.size := lt_of_block X.out
      have zX0 : wk3.cell? ⟨R, 0, none⟩ = some (.int .i64 l.N) := by rw [cell_row X.out]; rfl
      have zX1 : wk3.cell? ⟨R, 1, none⟩ = some (.slice l.A l.n l.cap) := by rw [cell_row X.out]; rfl
      have zX2 : wk3.cell? ⟨R, 2, none⟩ = some (.slice l.LA l.ln l.lc) := by rw [cell_row X.out]; rfl
      have zX3 : wk3.cell? ⟨R, 3, none⟩ = some (.slice l.RA l.rn l.rc) := by rw [cell_row X.out]; rfl
      go_wp2_with fail
      clear zX0 zX1 zX2 zX3 ltX
      clear pge dge
      clear H3
      refine (side36 l x k wk3 S.out HCH.out HCN.out Hx.out).mono ?_
      rintro en wk4 ⟨C6, c6, rfl, hc6, hI6, hb⟩
      replace LO := Lib.hid (LO.out.below hb (Nat.le_refl _))
      replace S := Lib.hid (S.out.below hb (Nat.le_refl _))
      replace HQ := Lib.hid (HQ.out.below hb (Nat.le_refl _))
      replace HK := Lib.hid (HK.out.below hb (Nat.le_refl _))
      replace H1 := Lib.hid (H1.out.below hb (Nat.le_refl _))
      replace H2 := Lib.hid (H2.out.below hb (Nat.le_refl _))
      replace X := Lib.hid ((hb.block _ (lt_of_block X.out)).trans X.out)
      replace B := Lib.hid (B.out.trans (hb.mono B.out.size))
      obtain ⟨n6, hn6⟩ : ∃ v, (nmK (sdP l x) k).length = v := ⟨_, rfl⟩
      have hl6 := nmK_len (sdP l x) k
      rw [hn6] at hI6 hc6 hl6 ⊢
      have H6 := Lib.hid hI6
      have Hc6 := Lib.hid hc6
      have HN6 := Lib.hid (show n6 ≤ 1000000 by have := HC40.out; omega)
      have HN2 := Lib.hid (show n2 ≤ 1000000 by have := nmK_len (fun y => !R3 y) k; have := H2.out.1; have := HC40.out; omega)
      clear hI6 hc6 hn6 hl6
      try clear hb
      have ltX : R < wk4.heap.size := lt_of_block X.out
      have zX0 : wk4.cell? ⟨R, 0, none⟩ = some (.int .i64 l.N) := by rw [cell_row X.out]; rfl
      have zX1 : wk4.cell? ⟨R, 1, none⟩ = some (.slice l.A l.n l.cap) := by rw [cell_row X.out]; rfl
      have zX2 : wk4.cell? ⟨R, 2, none⟩ = some (.slice l.LA l.ln l.lc) := by rw [cell_row X.out]; rfl
      have zX3 : wk4.cell? ⟨R, 3, none⟩ = some (.slice l.RA l.rn l.rc) := by rw [cell_row X.out]; rfl
      go_wp2_with fail
      clear zX0 zX1 zX2 zX3 ltX
      go_loopw [21, 22, 23] (fun v1 v2 i wr => ∃ m : Nat, m ≤ k ∧ i = .int .i64 (m : Int) ∧ Hid (∃ u1 u2 : Value, v1 = u1 ∧ v2 = u2 ∧ Gr3 wk4 wr u1 u2 (.slice none 0 0) (nmK (fun y => sdP l x y && !R3 y) m) (nmK (fun y => sdP l x y || R1 y) m) [])) (fun v1 v2 i _ => k - (intOf i).toNat)
      case atStart => exact ⟨0, Nat.zero_le _, rfl, Lib.hid ⟨_, _, rfl, rfl, Gr3.nil _⟩⟩
      case round =>
        obtain ⟨m, hm9, rfl, HX⟩ := hrel
        obtain ⟨wm, rfl⟩ : ∃ wm, wm = wr := ⟨_, rfl⟩
        obtain ⟨u1, u2, e1, e2, hG⟩ := HX.out
        obtain rfl : u1 = _ := e1.symm
        obtain rfl : u2 = _ := e2.symm
        clear HX e1 e2
        have hbk := hG.g1.2.2
        have Xm := Lib.hid ((hbk.block _ (lt_of_block X.out)).trans X.out)
        have zX0 : wm.cell? ⟨R, 0, none⟩ = some (.int .i64 (k : Int)) := by rw [cell_row Xm.out, ← HCN.out]; rfl
        have hc40 := HC40.out
        by_cases hlt : m < k
        · have p1 : decide ((m : Int) ∈ nmK (sdP l x) k) = sdP l x (m : Int) := by
            rw [Bool.eq_iff_iff, decide_eq_true_iff, mem_nmK]; exact ⟨fun h => h.2.2, fun h => ⟨by omega, by omega, h⟩⟩
          have p2 : decide ((m : Int) ∈ nmK (fun y => !R3 y) k) = !R3 (m : Int) := by
            rw [Bool.eq_iff_iff, decide_eq_true_iff, mem_nmK]; exact ⟨fun h => h.2.2, fun h => ⟨by omega, by omega, h⟩⟩
          have p3 : decide ((m : Int) ∈ sR) = R1 (m : Int) := by
            rw [← HSR.out, Bool.eq_iff_iff, decide_eq_true_iff, mem_nmK]; exact ⟨fun h => h.2.2, fun h => ⟨by omega, by omega, h⟩⟩
          have K1 := in38 C6 n6 c6 (nmK (sdP l x) k) (m : Int) wm (H6.out.below hbk (Nat.le_refl _)) HN6.out
          have K2 := in38 C2 n2 d2 (nmK (fun y => !R3 y) k) (m : Int) wm (H2.out.below hbk (Nat.le_refl _)) HN2.out
          have hl1 := nmK_len (fun y => sdP l x y && !R3 y) m
          have hl2 := nmK_len (fun y => sdP l x y || R1 y) m
          have HLE := Lib.hid (show (nmK (fun y => sdP l x y && !R3 y) m).length ≤ 100000 ∧ (nmK (fun y => sdP l x y || R1 y) m).length ≤ 100000 by omega)
          rw [p1] at K1
          rw [p2] at K2
          have eA := nmK_yes (p := (fun y => sdP l x y && !R3 y)) (k := m)
          have eA' := nmK_no (p := (fun y => sdP l x y && !R3 y)) (k := m)
          have eO := nmK_yes (p := (fun y => sdP l x y || R1 y)) (k := m)
          have eO' := nmK_no (p := (fun y => sdP l x y || R1 y)) (k := m)
          obtain ⟨a, ha⟩ : ∃ v, sdP l x (m : Int) = v := ⟨_, rfl⟩
          obtain ⟨b, hb⟩ : ∃ v, R3 (m : Int) = v := ⟨_, rfl⟩
          obtain ⟨d, hd⟩ : ∃ v, R1 (m : Int) = v := ⟨_, rfl⟩
          rw [ha] at K1 eA eA' eO eO'
          rw [hb] at K2 eA eA'
          rw [hd] at eO eO' p3
          have KK1 := Lib.hid K1
          have KK2 := Lib.hid K2
          have P3 := Lib.hid p3
          have PM0 := Lib.hid (show decide ((m : Int) ∈ nmK (sdP l x) k) = a by rw [p1]; exact ha)
          have EA := Lib.hid eA
          have EA' := Lib.hid eA'
          have EO := Lib.hid eO
          have EO' := Lib.hid eO'
          have HG := Lib.hid hG
          have Hlt := Lib.hid hlt
          have i0 : (0 : Int) ≤ (m : Int) := by omega
          clear p1 p2 p3 K1 K2 hl1 hl2 eA eA' eO eO' ha hb hd hG
          have HBk := Lib.hid hbk
          clear hbk
          go_wp2_with fail
          refine KK1.out.mono ?_
          rintro en w9 ⟨rfl, hw9⟩
          subst w9
          rcases a with _ | _
          · go_wp2_with fail
            refine KK1.out.mono ?_
            rintro en w9 ⟨rfl, hw9⟩
            subst w9
            have K3 := Lib.hid (in38 C1 n1 d1 sR (m : Int) wm (H1.out.below HBk.out (Nat.le_refl _)) (by have := HN8.out; omega))
            rw [P3.out] at K3
            go_wp2_with fail
            refine K3.out.mono ?_
            rintro en w9 ⟨rfl, hw9⟩
            subst w9
            rcases d with _ | _
            · go_wp2_with fail
              go_roundw
              case rel => exact ⟨m + 1, by have := Hlt.out; omega, by go_num, Lib.hid ⟨_, _, rfl, rfl, by rw [EA'.out (by rfl), EO'.out (by rfl)]; exact HG.out⟩⟩
              case measure => have := Hlt.out; simp [intOf]; omega
            · obtain ⟨C5, d5, V5, hrun, hG5, hk5⟩ := HG.out.rot.app (m : Int) HLE.out.2
              have HG5 := Lib.hid hG5.rot.rot
              clear hG5 hk5
              go_wp2_with fail
              go_roundw
              case rel => exact ⟨m + 1, by have := Hlt.out; omega, by go_num, Lib.hid ⟨_, _, rfl, rfl, by rw [EA'.out (by rfl), EO.out (by rfl)]; exact HG5.out⟩⟩
              case measure => have := Hlt.out; simp [intOf]; omega
          · go_wp2_with fail
            refine KK2.out.mono ?_
            rintro en w9 ⟨rfl, hw9⟩
            subst w9
            rcases b with _ | _
            · obtain ⟨C4, d4, V4, hrun4, hG4, hk4⟩ := HG.out.app (m : Int) HLE.out.1
              have KK3 := Lib.hid (show Calls Try.prog 38 #[.slice C6 n6 c6, .int .i64 (m : Int)] V4 fun e w' => e = .returned (.bool true) ∧ w' = V4 from by
                have h := in38 C6 n6 c6 (nmK (sdP l x) k) (m : Int) V4 (H6.out.below (hG4.g1.2.2) (Nat.le_refl _)) HN6.out
                rw [show decide ((m : Int) ∈ nmK (sdP l x) k) = true from PM0.out] at h
                exact h)
              obtain ⟨C5, d5, V5, hrun5, hG5, hk5⟩ := hG4.rot.app (m : Int) HLE.out.2
              have HG5 := Lib.hid hG5.rot.rot
              clear hG4 hk4 hG5 hk5
              go_wp2_with fail
              refine KK3.out.mono ?_
              rintro en w9 ⟨rfl, hw9⟩
              subst w9
              go_wp2_with fail
              go_roundw
              case rel => exact ⟨m + 1, by have := Hlt.out; omega, by go_num, Lib.hid ⟨_, _, rfl, rfl, by rw [EA.out (by rfl), EO.out (by rfl)]; exact HG5.out⟩⟩
              case measure => have := Hlt.out; simp [intOf]; omega
            · obtain ⟨C5, d5, V5, hrun5, hG5, hk5⟩ := HG.out.rot.app (m : Int) HLE.out.2
              have HG5 := Lib.hid hG5.rot.rot
              clear hG5 hk5
              go_wp2_with fail
              refine KK1.out.mono ?_
              rintro en w9 ⟨rfl, hw9⟩
              subst w9
              go_wp2_with fail
              go_roundw
              case rel => exact ⟨m + 1, by have := Hlt.out; omega, by go_num, Lib.hid ⟨_, _, rfl, rfl, by rw [EA'.out (by rfl), EO.out (by rfl)]; exact HG5.out⟩⟩
              case measure => have := Hlt.out; simp [intOf]; omega
        · obtain rfl : m = k := by omega
          obtain ⟨C4, d4, rfl, hd4, hI4, -⟩ := ints_own rfl hG.g1.1
          obtain ⟨C5, d5, rfl, hd5, hI5, -⟩ := ints_own rfl hG.g2.1
          obtain ⟨n4, hn4⟩ : ∃ v, (nmK (fun y => sdP l x y && !R3 y) m).length = v := ⟨_, rfl⟩
          obtain ⟨n5, hn5⟩ : ∃ v, (nmK (fun y => sdP l x y || R1 y) m).length = v := ⟨_, rfl⟩
          rw [hn4] at hI4 hd4 ⊢
          rw [hn5] at hI5 hd5 ⊢
          have hb := hbk
          have H4 := Lib.hid hI4
          have H5 := Lib.hid hI5
          have Hd4 := Lib.hid hd4
          have Hd5 := Lib.hid hd5
          clear hd4 hI4 hd5 hI5 hn4 hn5 hG hbk
          replace LO := Lib.hid (LO.out.below hb (Nat.le_refl _))
          replace S := Lib.hid (S.out.below hb (Nat.le_refl _))
          replace HQ := Lib.hid (HQ.out.below hb (Nat.le_refl _))
          replace HK := Lib.hid (HK.out.below hb (Nat.le_refl _))
          replace H1 := Lib.hid (H1.out.below hb (Nat.le_refl _))
          replace H2 := Lib.hid (H2.out.below hb (Nat.le_refl _))
          replace H6 := Lib.hid (H6.out.below hb (Nat.le_refl _))
          replace X := Xm
          replace B := Lib.hid (B.out.trans (hb.mono B.out.size))
          clear hb hm9 hlt hc40 zX0
          have ltX : R < wm.heap.size := lt_of_block X.out
          have zX0 : wm.cell? ⟨R, 0, none⟩ = some (.int .i64 l.N) := by rw [cell_row X.out]; rfl
          have zX1 : wm.cell? ⟨R, 1, none⟩ = some (.slice l.A l.n l.cap) := by rw [cell_row X.out]; rfl
          have zX2 : wm.cell? ⟨R, 2, none⟩ = some (.slice l.LA l.ln l.lc) := by rw [cell_row X.out]; rfl
          have zX3 : wm.cell? ⟨R, 3, none⟩ = some (.slice l.RA l.rn l.rc) := by rw [cell_row X.out]; rfl
          have zN : wm.cell? ⟨R, 0, none⟩ = some (.int .i64 (m : Int)) := by rw [← HCN.out]; exact zX0
          clear zX0
          have zX0 := zN
          clear zN
          go_upto_region 34 with fail
          clear zX0 zX1 zX2 zX3 ltX
          have ltX : R < wm.heap.size := lt_of_block X.out
          have zX0 : wm.cell? ⟨R, 0, none⟩ = some (.int .i64 l.N) := by rw [cell_row X.out]; rfl
          have zX1 : wm.cell? ⟨R, 1, none⟩ = some (.slice l.A l.n l.cap) := by rw [cell_row X.out]; rfl
          have zX2 : wm.cell? ⟨R, 2, none⟩ = some (.slice l.LA l.ln l.lc) := by rw [cell_row X.out]; rfl
          have zX3 : wm.cell? ⟨R, 3, none⟩ = some (.slice l.RA l.rn l.rc) := by rw [cell_row X.out]; rfl
          go_wp2_with fail
          clear zX0 zX1 zX2 zX3 ltX
          refine (cutS l (sdP l x) m C6 n6 c6 (nmK (sdP l x) m) wm S.out HCH.out HCN.out rfl H6.out Hc6.out (sdP_side HCH.out x)).mono ?_
          rintro en wm1 ⟨CA, cA, rfl, -, -, hb⟩
          replace LO := Lib.hid (LO.out.below hb (Nat.le_refl _))
          replace S := Lib.hid (S.out.below hb (Nat.le_refl _))
          replace HQ := Lib.hid (HQ.out.below hb (Nat.le_refl _))
          replace HK := Lib.hid (HK.out.below hb (Nat.le_refl _))
          replace H1 := Lib.hid (H1.out.below hb (Nat.le_refl _))
          replace H2 := Lib.hid (H2.out.below hb (Nat.le_refl _))
          replace H6 := Lib.hid (H6.out.below hb (Nat.le_refl _))
          replace H4 := Lib.hid (H4.out.below hb (Nat.le_refl _))
          replace H5 := Lib.hid (H5.out.below hb (Nat.le_refl _))
          replace X := Lib.hid ((hb.block _ (lt_of_block X.out)).trans X.out)
          replace B := Lib.hid (B.out.trans (hb.mono B.out.size))
          obtain ⟨z1, hz1⟩ : ∃ v, costS l.zs (sdP l x) = v := ⟨_, rfl⟩
          rw [hz1]
          have HZ1 := Lib.hid hz1
          clear hz1
          obtain ⟨nY, hnY⟩ : ∃ v, (ctS l (sdP l x)).length = v := ⟨_, rfl⟩
          rw [hnY]
          clear hnY
          try clear hb
          have ltX : R < wm1.heap.size := lt_of_block X.out
          have zX0 : wm1.cell? ⟨R, 0, none⟩ = some (.int .i64 l.N) := by rw [cell_row X.out]; rfl
          have zX1 : wm1.cell? ⟨R, 1, none⟩ = some (.slice l.A l.n l.cap) := by rw [cell_row X.out]; rfl
          have zX2 : wm1.cell? ⟨R, 2, none⟩ = some (.slice l.LA l.ln l.lc) := by rw [cell_row X.out]; rfl
          have zX3 : wm1.cell? ⟨R, 3, none⟩ = some (.slice l.RA l.rn l.rc) := by rw [cell_row X.out]; rfl
          go_wp2_with fail
          clear zX0 zX1 zX2 zX3 ltX
          refine (cutS l (fun y => sdP l x y && !R3 y) m C4 n4 d4 (nmK (fun y => sdP l x y && !R3 y) m) wm1 S.out HCH.out HCN.out rfl H4.out Hd4.out (and_side (sdP_side HCH.out x) HC3.out.1).1).mono ?_
          rintro en wm2 ⟨CBb, cB, rfl, -, -, hb⟩
          replace LO := Lib.hid (LO.out.below hb (Nat.le_refl _))
          replace S := Lib.hid (S.out.below hb (Nat.le_refl _))
          replace HQ := Lib.hid (HQ.out.below hb (Nat.le_refl _))
          replace HK := Lib.hid (HK.out.below hb (Nat.le_refl _))
          replace H1 := Lib.hid (H1.out.below hb (Nat.le_refl _))
          replace H2 := Lib.hid (H2.out.below hb (Nat.le_refl _))
          replace H6 := Lib.hid (H6.out.below hb (Nat.le_refl _))
          replace H4 := Lib.hid (H4.out.below hb (Nat.le_refl _))
          replace H5 := Lib.hid (H5.out.below hb (Nat.le_refl _))
          replace X := Lib.hid ((hb.block _ (lt_of_block X.out)).trans X.out)
          replace B := Lib.hid (B.out.trans (hb.mono B.out.size))
          have hle := (and_cost (okl_list S.out HCH.out) (sdP_side HCH.out x) HC3.out).1
          rw [HZ1.out] at hle
          obtain ⟨z2, hz2⟩ : ∃ v, costS l.zs (fun y => sdP l x y && !R3 y) = v := ⟨_, rfl⟩
          rw [hz2] at hle ⊢
          have HLE2 := Lib.hid hle
          clear hle hz2
          obtain ⟨nY, hnY⟩ : ∃ v, (ctS l (fun y => sdP l x y && !R3 y)).length = v := ⟨_, rfl⟩
          rw [hnY]
          clear hnY
          try clear hb
          have ltX : R < wm2.heap.size := lt_of_block X.out
          have zX0 : wm2.cell? ⟨R, 0, none⟩ = some (.int .i64 l.N) := by rw [cell_row X.out]; rfl
          have zX1 : wm2.cell? ⟨R, 1, none⟩ = some (.slice l.A l.n l.cap) := by rw [cell_row X.out]; rfl
          have zX2 : wm2.cell? ⟨R, 2, none⟩ = some (.slice l.LA l.ln l.lc) := by rw [cell_row X.out]; rfl
          have zX3 : wm2.cell? ⟨R, 3, none⟩ = some (.slice l.RA l.rn l.rc) := by rw [cell_row X.out]; rfl
          go_wp2_with fail
          clear zX0 zX1 zX2 zX3 ltX
          refine (cutS l (fun y => sdP l x y || R1 y) m C5 n5 d5 (nmK (fun y => sdP l x y || R1 y) m) wm2 S.out HCH.out HCN.out rfl H5.out Hd5.out (and_side (sdP_side HCH.out x) HCR.out.1).2).mono ?_
          rintro en wm3 ⟨CDd, cD, rfl, -, -, hb⟩
          replace LO := Lib.hid (LO.out.below hb (Nat.le_refl _))
          replace S := Lib.hid (S.out.below hb (Nat.le_refl _))
          replace HQ := Lib.hid (HQ.out.below hb (Nat.le_refl _))
          replace HK := Lib.hid (HK.out.below hb (Nat.le_refl _))
          replace H1 := Lib.hid (H1.out.below hb (Nat.le_refl _))
          replace H2 := Lib.hid (H2.out.below hb (Nat.le_refl _))
          replace H6 := Lib.hid (H6.out.below hb (Nat.le_refl _))
          replace H4 := Lib.hid (H4.out.below hb (Nat.le_refl _))
          replace H5 := Lib.hid (H5.out.below hb (Nat.le_refl _))
          replace X := Lib.hid ((hb.block _ (lt_of_block X.out)).trans X.out)
          replace B := Lib.hid (B.out.trans (hb.mono B.out.size))
          have hle := (and_cost (okl_list S.out HCH.out) (sdP_side HCH.out x) HCR.out).2
          rw [HZ1.out] at hle
          obtain ⟨z3, hz3⟩ : ∃ v, costS l.zs (fun y => sdP l x y || R1 y) = v := ⟨_, rfl⟩
          rw [hz3] at hle ⊢
          have p2 : z2 ≤ z1 := HLE2.out
          have p3 : z3 ≤ z1 := hle
          have d2 : decide (z2 ≤ z1) = true := decide_eq_true p2
          have d3 : decide (z3 ≤ z1) = true := decide_eq_true p3
          clear hle hz3
          obtain ⟨nY, hnY⟩ : ∃ v, (ctS l (fun y => sdP l x y || R1 y)).length = v := ⟨_, rfl⟩
          rw [hnY]
          clear hnY
          try clear hb
          have ltX : R < wm3.heap.size := lt_of_block X.out
          have zX0 : wm3.cell? ⟨R, 0, none⟩ = some (.int .i64 l.N) := by rw [cell_row X.out]; rfl
          have zX1 : wm3.cell? ⟨R, 1, none⟩ = some (.slice l.A l.n l.cap) := by rw [cell_row X.out]; rfl
          have zX2 : wm3.cell? ⟨R, 2, none⟩ = some (.slice l.LA l.ln l.lc) := by rw [cell_row X.out]; rfl
          have zX3 : wm3.cell? ⟨R, 3, none⟩ = some (.slice l.RA l.rn l.rc) := by rw [cell_row X.out]; rfl
          go_wp2_with fail
          clear zX0 zX1 zX2 zX3 ltX
          clear p2 p3 d2 d3
          refine (works14 wm3).mono ?_
          rintro en wm4 ⟨rfl, hb⟩
          replace B := Lib.hid (B.out.trans (hb.mono B.out.size))
          clear hb
          go_wp2_with fail
          go_ret
          exact ⟨rfl, B.out⟩
end
end Go.Proofs.Ytigohccehllmnaa
