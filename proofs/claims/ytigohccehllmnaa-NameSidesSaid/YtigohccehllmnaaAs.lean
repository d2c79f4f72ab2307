/- Stage 6: the document's sides. -/
import Derived.Test.YtigohccehllmnaaG69
import Derived.Test.YtigohccehllmnaaDj9
namespace Go.Proofs.Ytigohccehllmnaa
set_option linter.unusedSimpArgs false
set_option linter.unusedVariables false
open Go.RowKit Go.Shelf

theorem shr_bit (m r : Nat) : ((m : Int) / 2 ^ r).tmod 2 = if m.testBit r = true then 1 else 0 := by
  rw [show ((2 : Int) ^ r) = ((2 ^ r : Nat) : Int) by simp, ← Int.natCast_ediv, Int.tmod_eq_emod_of_nonneg (Int.natCast_nonneg _)]
  rw [Nat.testBit_eq_decide_div_mod_eq]
  obtain ⟨y, hy⟩ : ∃ y, m / 2 ^ r = y := ⟨_, rfl⟩
  rw [hy]
  have := Nat.mod_two_eq_zero_or_one y
  rcases this with e | e
  · rw [if_neg (by simp [e])]; omega
  · rw [if_pos (by simp [e])]; omega
/-- A name is in a mask. -/
def bitP (s : Nat) : Int → Bool := fun x => s.testBit x.toNat
theorem bitP_nat (s q : Nat) : bitP s (q : Int) = s.testBit q := by simp [bitP]
/-- The sides of the first masks. -/
def asK (l : NL) (c : Nat) : Nat → List (List Int)
  | 0 => []
  | s + 1 => if sideB l (nmK (bitP s) c) = true then asK l c s ++ [nmK (bitP s) c] else asK l c s
theorem asK_len (l : NL) (c : Nat) : ∀ s, (asK l c s).length ≤ s
  | 0 => Nat.le_refl _
  | s + 1 => by
    have := asK_len l c s
    simp only [asK]
    split
    · rw [List.length_append]; simp; omega
    · omega
section
attribute [local go_sem ↓] exec_app at_app
attribute [local go_sem] Oper.semAt_some
set_option maxRecDepth 100000 in
set_option maxHeartbeats 16000000 in
theorem allSides80 (l : NL) (c : Nat) (w : World) (h : NLs w l) (hcN : l.N = (c : Int)) (hc1 : 1 ≤ c) (hc9 : c ≤ 9) :
    Calls Try.prog 80 #[.agg #[.int .i64 l.N, .slice l.A l.n l.cap, .slice l.LA l.ln l.lc, .slice l.RA l.rn l.rc]] w fun e w' => ∃ C cap, e = .returned (.slice C (asK l c (2 ^ c)).length cap) ∧ (asK l c (2 ^ c)).length ≤ cap ∧ Rows w' C (asK l c (2 ^ c)).length (asK l c (2 ^ c)) ∧ Below w.heap.size w w' := by
  obtain ⟨R, hR⟩ : ∃ v, w.heap.size = v := ⟨_, rfl⟩
  have hb0 := below_alloc_ w (.cells #[.int .i64 l.N, .slice l.A l.n l.cap, .slice l.LA l.ln l.lc, .slice l.RA l.rn l.rc] 25)
  have hr0 := heap_alloc_new_ w (.cells #[.int .i64 l.N, .slice l.A l.n l.cap, .slice l.LA l.ln l.lc, .slice l.RA l.rn l.rc] 25)
  have hz0 : (w.alloc (.cells #[.int .i64 l.N, .slice l.A l.n l.cap, .slice l.LA l.ln l.lc, .slice l.RA l.rn l.rc] 25)).heap.size = w.heap.size + 1 := by simp
  obtain ⟨w0, hw0⟩ : ∃ v, w.alloc (.cells #[.int .i64 l.N, .slice l.A l.n l.cap, .slice l.LA l.ln l.lc, .slice l.RA l.rn l.rc] 25) = v := ⟨_, rfl⟩
  rw [hw0] at hb0 hr0 hz0
  rw [hR] at hr0 hz0
  have hB := hb0
  have S := Lib.hid (h.below hB (Nat.le_refl _))
  have X := Lib.hid hr0
  have HW0 := Lib.hid hw0
  have B := Lib.hid hB
  have HR := Lib.hid hR
  clear hB hR hb0 hr0 hz0 hw0 h
  have Hc9 := Lib.hid hc9
  have Hc1 := Lib.hid hc1
  have HCN := Lib.hid hcN
  clear hc9 hc1 hcN
  have ltX : R < w0.heap.size := lt_of_block X.out
  have zX0 : w0.cell? ⟨R, 0, none⟩ = some (.int .i64 l.N) := by rw [cell_row X.out]; rfl
  have zX1 : w0.cell? ⟨R, 1, none⟩ = some (.slice l.A l.n l.cap) := by rw [cell_row X.out]; rfl
  have zX2 : w0.cell? ⟨R, 2, none⟩ = some (.slice l.LA l.ln l.lc) := by rw [cell_row X.out]; rfl
  have zX3 : w0.cell? ⟨R, 3, none⟩ = some (.slice l.RA l.rn l.rc) := by rw [cell_row X.out]; rfl
  go_enter Try.func80, Try.ntmps80
  go_wp2_with fail
  try rw [HW0.out]
  try rw [HR.out]
  try simp only [Nat.add_assoc, Nat.reduceAdd]
  try go_wp2_with fail
  clear zX0 zX1 zX2 zX3 ltX
  obtain ⟨M, hM⟩ : ∃ M : Nat, 2 ^ c = M := ⟨_, rfl⟩
  have hM5 : M ≤ 512 := by rw [← hM]; exact (Nat.le_trans (Nat.pow_le_pow_right (n := 2) (by omega) Hc9.out) (by decide : 2 ^ 9 ≤ 512))
  have hshl0 : IntKind.i64.wrap (2 ^ c) = (M : Int) := by rw [show ((2 : Int) ^ c) = ((2 ^ c : Nat) : Int) by simp, hM]; exact IntWalk.i64_in _ (by omega)
  have HSH := Lib.hid hshl0
  have HM := Lib.hid hM
  have HM5 := Lib.hid hM5
  clear hM hM5 hshl0
  go_loopw [3, 4, 5, 6] (fun v i a1 a2 wr => ∃ s : Nat, s ≤ M ∧ i = .int .i64 (s : Int) ∧ Hid (∃ v0 : Value, v = v0 ∧ GrR w0 wr v0 (asK l c s) ∧ Below w0.heap.size w0 wr)) (fun v i a1 a2 _ => M - (intOf i).toNat)
  case atStart => exact ⟨0, Nat.zero_le _, rfl, Lib.hid ⟨_, rfl, GrR.nil _ _, Below.refl _ _⟩⟩
  case round =>
    obtain ⟨s, hs9, rfl, HX⟩ := hrel
    obtain ⟨wk, rfl⟩ : ∃ wk, wk = wr := ⟨_, rfl⟩
    obtain ⟨v0, hv, hG, hbk⟩ := HX.out
    obtain rfl : v0 = _ := hv.symm
    clear HX hv
    have Xk := Lib.hid ((hbk.block _ (lt_of_block X.out)).trans X.out)
    have zX0 : wk.cell? ⟨R, 0, none⟩ = some (.int .i64 (c : Int)) := by rw [cell_row Xk.out, ← HCN.out]; rfl
    have hc9 := Hc9.out
    have hM5 := HM5.out
    have hshl := HSH.out
    have j0 : ¬ (c : Int) < 0 := by omega
    by_cases hlt : s < M
    · have HG := Lib.hid hG
      have HBk := Lib.hid hbk
      have Hlt := Lib.hid hlt
      have Sk := Lib.hid (S.out.below hbk (Nat.le_refl _))
      clear hG hbk
      go_wp2_with fail
      clear zX0 hshl
      go_loopw [5, 6] (fun v i wr => ∃ q : Nat, q ≤ c ∧ i = .int .i64 (q : Int) ∧ Hid (∃ v1 : Value, v = v1 ∧ GrL wk wr v1 (nmK (bitP s) q))) (fun v i _ => c - (intOf i).toNat)
      case atStart => exact ⟨0, Nat.zero_le _, rfl, Lib.hid ⟨_, rfl, GrI.nil _⟩⟩
      case round =>
        obtain ⟨q, hq9, rfl, HY⟩ := hrel
        obtain ⟨wq, rfl⟩ : ∃ wk, wk = wr := ⟨_, rfl⟩
        obtain ⟨v1, hv, hL⟩ := HY.out
        obtain rfl : v1 = _ := hv.symm
        clear HY hv
        have hbq := hL.2.2
        have Xq := Lib.hid ((hbq.block _ (lt_of_block Xk.out)).trans Xk.out)
        have zX0 : wq.cell? ⟨R, 0, none⟩ = some (.int .i64 (c : Int)) := by rw [cell_row Xq.out, ← HCN.out]; rfl
        by_cases hlt2 : q < c
        · have hlen := nmK_len (bitP s) q
          have HL := Lib.hid hL
          have hsb := shr_bit s q
          obtain ⟨C, cc, W', hrun, hG2, hkp⟩ := GrI.app2 hL (q : Int) (by omega)
          have HG2 := Lib.hid (show GrL wk W' (.slice C ((nmK (bitP s) q).length + 1) cc) (nmK (bitP s) q ++ [(q : Int)]) from by unfold GrL; rw [List.length_append]; exact hG2)
          have i0 : ¬ (q : Int) < 0 := by omega
          have i1 : (q : Int) < 64 := by omega
          clear hL hG2 hbq hlen hkp
          cases hbt : s.testBit q
          · rw [hbt, if_neg (by simp)] at hsb
            have HN := Lib.hid (nmK_no (p := bitP s) (k := q) (by rw [bitP_nat]; exact hbt))
            have d1 : (((s : Int) / 2 ^ q).tmod 2 == 1) = false := by rw [hsb]; rfl
            clear hbt hrun
            go_wp2_with fail
            go_roundw
            case rel => exact ⟨q + 1, by omega, by go_num, Lib.hid ⟨_, rfl, by rw [HN.out]; exact HL.out⟩⟩
            case measure => simp [intOf]; omega
          · rw [hbt, if_pos rfl] at hsb
            have HN := Lib.hid (nmK_yes (p := bitP s) (k := q) (by rw [bitP_nat]; exact hbt))
            have d1 : (((s : Int) / 2 ^ q).tmod 2 == 1) = true := by rw [hsb]; rfl
            clear hbt
            go_wp2_with fail
            go_roundw
            case rel => exact ⟨q + 1, by omega, by go_num, Lib.hid ⟨_, rfl, by rw [HN.out]; exact HG2.out⟩⟩
            case measure => simp [intOf]; omega
        · obtain rfl : q = c := by omega
          have hlen := nmK_len (bitP s) q
          have hdl := asK_len l q s
          obtain ⟨C, cc, rfl, hcc, hI9, -⟩ := ints_own rfl hL.1
          have HB9 := Lib.hid hbq
          have HI9 := Lib.hid hI9
          have HNew := Lib.hid hL.2.1
          have Hcc := Lib.hid hcc
          have SQ := Lib.hid (Sk.out.below hbq (Nat.le_refl _))
          have hrw := isSide55 l C (nmK (bitP s) q).length cc (nmK (bitP s) q) wq SQ.out hI9 (by omega)
          have hsy : sideB l (nmK (bitP s) q) = true → asK l q (s + 1) = asK l q s ++ [nmK (bitP s) q] := fun e => by simp only [asK]; rw [if_pos e]
          have hsn : sideB l (nmK (bitP s) q) = false → asK l q (s + 1) = asK l q s := fun e => by simp only [asK]; rw [if_neg (by rw [e]; decide)]
          obtain ⟨j, hj⟩ : ∃ v, sideB l (nmK (bitP s) q) = v := ⟨_, rfl⟩
          rw [hj] at hrw hsy hsn
          have Hsy := Lib.hid hsy
          have Hsn := Lib.hid hsn
          have K55 := Lib.hid hrw
          have Hlen := Lib.hid hlen
          have Hdl := Lib.hid hdl
          have zX1 : wq.cell? ⟨R, 1, none⟩ = some (.slice l.A l.n l.cap) := by rw [cell_row Xq.out]; rfl
          have zX2 : wq.cell? ⟨R, 2, none⟩ = some (.slice l.LA l.ln l.lc) := by rw [cell_row Xq.out]; rfl
          have zX3 : wq.cell? ⟨R, 3, none⟩ = some (.slice l.RA l.rn l.rc) := by rw [cell_row Xq.out]; rfl
          rw [HCN.out] at K55
          clear hlen hdl hI9 hL hbq hrw hsy hsn hj hcc
          go_wp2_with fail
          refine K55.out.mono ?_
          rintro en wz ⟨rfl, hbz⟩
          clear zX0 zX1 zX2 zX3
          have hbA := HB9.out.trans (hbz.mono HB9.out.size)
          have hG9 := HG.out.below hbA (Nat.le_refl _)
          have HBz := Lib.hid (HBk.out.trans (hbA.mono HBk.out.size))
          rcases j with _ | _
          · have HN := Lib.hid (Hsn.out rfl)
            have HG9 := Lib.hid hG9
            clear hG9 hbA hbz
            go_wp2_with fail
            go_roundw
            case rel => exact ⟨s + 1, by omega, by go_num, Lib.hid ⟨_, rfl, by rw [HN.out]; exact HG9.out, HBz.out⟩⟩
            case measure => simp [intOf]; omega
          · have HN := Lib.hid (Hsy.out rfl)
            obtain ⟨C8, c8, W8, hrun, hG8, hk8⟩ := GrR.app hG9 (HI9.out.below hbz (Nat.le_refl _)) Hcc.out (by have := Hlen.out; omega) (fun hm a e1 e2 => by
              have h1 := HG.out.ownlt a.block e2
              have h2 := HNew.out a.block (by
                obtain ⟨b9, o9, e9, -⟩ := HI9.out.2 hm
                rw [e9] at e1
                cases e1
                rw [e9]; rfl)
              omega) (by have := HBz.out.size; omega) (by have := Hdl.out; omega)
            have HG8 := Lib.hid (show GrR w0 W8 (.slice C8 ((asK l q s).length + 1) c8) (asK l q s ++ [nmK (bitP s) q]) ∧ Below w0.heap.size w0 W8 from ⟨hG8, HBz.out.trans (hk8.below HBz.out.size (fun j hj e => by have := hG9.new j e; omega))⟩)
            clear hG8 hG9 hk8 hbA hbz
            go_wp2_with fail
            go_roundw
            case rel => exact ⟨s + 1, by omega, by go_num, Lib.hid ⟨_, rfl, by rw [HN.out]; exact HG8.out.1, HG8.out.2⟩⟩
            case measure => simp [intOf]; omega
    · obtain rfl : s = M := by omega
      obtain ⟨C, cp, rfl, hcp, hR⟩ := hG.rows
      have HR9 := Lib.hid (And.intro hcp hR)
      have HB := Lib.hid (B.out.trans (hbk.mono B.out.size))
      clear hcp hR hG hbk
      go_wp2_with fail
      go_ret
      exact ⟨C, cp, by rw [HM.out] <;> rfl, by rw [HM.out]; exact HR9.out.1, by rw [HM.out]; exact HR9.out.2, HB.out⟩
end
end Go.Proofs.Ytigohccehllmnaa
