/- Stage 6: a side by bits. -/
import Derived.Test.YtigohccehllmnaaLw
namespace Go.Proofs.Ytigohccehllmnaa
set_option linter.unusedSimpArgs false
set_option linter.unusedVariables false
open Go.RowKit Go.Shelf

/-- Whether a name is on the side that bits tell. -/
def sdP (l : NL) (x : Nat) : Int → Bool := fun n => decide (n ∈ l.ls) || (x.testBit n.toNat && !decide (n ∈ l.rs))
theorem sdP_side {l : NL} (hch : chkL l = 0) (x : Nat) : IsSd l.ls l.rs (sdP l x) := by
  refine ⟨fun y hy => by unfold sdP; rw [decide_eq_true hy, Bool.true_or], fun y hy => ?_⟩
  unfold sdP
  rw [decide_eq_false (fun h => (chk_zero hch).2.2.2.2.2.2.2 y h hy), decide_eq_true hy]
  simp
theorem and_bit (x n : Nat) (hx : x ≤ 18446744073709551615) : bits .and .u64 ((x : Int) / 2 ^ n) 1 = if x.testBit n = true then 1 else 0 := by
  rw [show ((2 : Int) ^ n) = ((2 ^ n : Nat) : Int) by simp, ← Int.natCast_ediv]
  have hle : x / 2 ^ n ≤ x := Nat.div_le_self _ _
  rw [Nat.testBit_eq_decide_div_mod_eq]
  obtain ⟨y, hy⟩ : ∃ y, x / 2 ^ n = y := ⟨_, rfl⟩
  rw [hy] at hle ⊢
  show IntKind.u64.wrap (((BitVec.ofInt 64 (y : Int) &&& BitVec.ofInt 64 1).toNat : Nat) : Int) = _
  rw [BitVec.ofInt_natCast, BitVec.toNat_and, BitVec.toNat_ofNat, Nat.mod_eq_of_lt (by omega), show (BitVec.ofInt 64 1).toNat = 1 from rfl, Nat.and_one_is_mod]
  rcases Nat.mod_two_eq_zero_or_one y with e | e
  · rw [e]; rfl
  · rw [e]; rfl
section
attribute [local go_sem ↓] exec_app at_app
attribute [local go_sem] Oper.semAt_some
set_option maxRecDepth 100000 in
set_option maxHeartbeats 16000000 in
theorem fineG (l : NL) (w : World) (hg : grtL l = true) : Calls Try.prog 34 #[.agg #[.int .i64 l.N, .slice l.A l.n l.cap, .slice l.LA l.ln l.lc, .slice l.RA l.rn l.rc]] w fun e w' => e = .returned (.bool (fineL l)) ∧ Below w.heap.size w w' := by
  have hf : fineL l = false := by unfold fineL; rw [hg]; rfl
  rw [hf]
  clear hf
  obtain ⟨R, hR⟩ : ∃ v, w.heap.size = v := ⟨_, rfl⟩
  have hb0 := below_alloc_ w (.cells #[.int .i64 l.N, .slice l.A l.n l.cap, .slice l.LA l.ln l.lc, .slice l.RA l.rn l.rc] 25)
  have hr0 := heap_alloc_new_ w (.cells #[.int .i64 l.N, .slice l.A l.n l.cap, .slice l.LA l.ln l.lc, .slice l.RA l.rn l.rc] 25)
  have hz0 : (w.alloc (.cells #[.int .i64 l.N, .slice l.A l.n l.cap, .slice l.LA l.ln l.lc, .slice l.RA l.rn l.rc] 25)).heap.size = w.heap.size + 1 := by simp
  obtain ⟨w0, hw0⟩ : ∃ v, w.alloc (.cells #[.int .i64 l.N, .slice l.A l.n l.cap, .slice l.LA l.ln l.lc, .slice l.RA l.rn l.rc] 25) = v := ⟨_, rfl⟩
  rw [hw0] at hb0 hr0 hz0
  rw [hR] at hr0 hz0
  have hB := hb0
  have X := Lib.hid hr0
  have HW0 := Lib.hid hw0
  have B := Lib.hid hB
  have HR := Lib.hid hR
  clear hB hR hb0 hr0 hz0 hw0 
  have ltX : R < w0.heap.size := lt_of_block X.out
  have zX0 : w0.cell? ⟨R, 0, none⟩ = some (.int .i64 l.N) := by rw [cell_row X.out]; rfl
  have zX1 : w0.cell? ⟨R, 1, none⟩ = some (.slice l.A l.n l.cap) := by rw [cell_row X.out]; rfl
  have zX2 : w0.cell? ⟨R, 2, none⟩ = some (.slice l.LA l.ln l.lc) := by rw [cell_row X.out]; rfl
  have zX3 : w0.cell? ⟨R, 3, none⟩ = some (.slice l.RA l.rn l.rc) := by rw [cell_row X.out]; rfl
  go_enter Try.func34, Try.ntmps34
  go_wp2_with fail
  try rw [HW0.out]
  try rw [HR.out]
  try simp only [Nat.add_assoc, Nat.reduceAdd]
  try go_wp2_with fail
  clear zX0 zX1 zX2 zX3 ltX
  refine (great13 l w0).mono ?_
  rintro en w1 ⟨rfl, hb⟩
  replace X := Lib.hid ((hb.block _ (lt_of_block X.out)).trans X.out)
  replace B := Lib.hid (B.out.trans (hb.mono B.out.size))
  rw [hg]
  try clear hb
  go_wp2_with fail
  go_ret
  exact ⟨rfl, B.out⟩
theorem fineO (l : NL) (w : World) (h : NLo w l) : Calls Try.prog 34 #[.agg #[.int .i64 l.N, .slice l.A l.n l.cap, .slice l.LA l.ln l.lc, .slice l.RA l.rn l.rc]] w fun e w' => e = .returned (.bool (fineL l)) ∧ Below w.heap.size w w' := by
  cases hg : grtL l
  · exact fine34 l w (h.nls hg)
  · exact fineG l w hg
set_option maxRecDepth 100000 in
set_option maxHeartbeats 16000000 in
theorem side36 (l : NL) (x c : Nat) (w : World) (h : NLs w l) (hch : chkL l = 0) (hcN : l.N = (c : Int)) (hx : x ≤ 18446744073709551615) :
    Calls Try.prog 36 #[.agg #[.int .i64 l.N, .slice l.A l.n l.cap, .slice l.LA l.ln l.lc, .slice l.RA l.rn l.rc], .int .u64 (x : Int)] w fun e w' => ∃ C cap, e = .returned (.slice C (nmK (sdP l x) c).length cap) ∧ (nmK (sdP l x) c).length ≤ cap ∧ Ints w' C (nmK (sdP l x) c).length (nmK (sdP l x) c) ∧ Below w.heap.size w w' := by
  obtain ⟨R, hR⟩ : ∃ v, w.heap.size = v := ⟨_, rfl⟩
  have hb0 := below_alloc_ w (.cells #[.int .i64 l.N, .slice l.A l.n l.cap, .slice l.LA l.ln l.lc, .slice l.RA l.rn l.rc] 25)
  have hr0 := heap_alloc_new_ w (.cells #[.int .i64 l.N, .slice l.A l.n l.cap, .slice l.LA l.ln l.lc, .slice l.RA l.rn l.rc] 25)
  have hz0 : (w.alloc (.cells #[.int .i64 l.N, .slice l.A l.n l.cap, .slice l.LA l.ln l.lc, .slice l.RA l.rn l.rc] 25)).heap.size = w.heap.size + 1 := by simp
  obtain ⟨w0, hw0⟩ : ∃ v, w.alloc (.cells #[.int .i64 l.N, .slice l.A l.n l.cap, .slice l.LA l.ln l.lc, .slice l.RA l.rn l.rc] 25) = v := ⟨_, rfl⟩
  rw [hw0] at hb0 hr0 hz0
  rw [hR] at hr0 hz0
  have hB := hb0
  have S := Lib.hid (h.below hB (Nat.le_refl _))
  have X := Lib.hid hr0
  have HW0 := Lib.hid hw0
  have B := Lib.hid hB
  have HR := Lib.hid hR
  clear hB hR hb0 hr0 hz0 hw0 h
  have Hch := Lib.hid hch
  have HCN := Lib.hid hcN
  have Hx := Lib.hid hx
  clear hch hcN hx
  have ltX : R < w0.heap.size := lt_of_block X.out
  have zX0 : w0.cell? ⟨R, 0, none⟩ = some (.int .i64 l.N) := by rw [cell_row X.out]; rfl
  have zX1 : w0.cell? ⟨R, 1, none⟩ = some (.slice l.A l.n l.cap) := by rw [cell_row X.out]; rfl
  have zX2 : w0.cell? ⟨R, 2, none⟩ = some (.slice l.LA l.ln l.lc) := by rw [cell_row X.out]; rfl
  have zX3 : w0.cell? ⟨R, 3, none⟩ = some (.slice l.RA l.rn l.rc) := by rw [cell_row X.out]; rfl
  go_enter Try.func36, Try.ntmps36
  go_wp2_with fail
  try rw [HW0.out]
  try rw [HR.out]
  try simp only [Nat.add_assoc, Nat.reduceAdd]
  try go_wp2_with fail
  clear zX0 zX1 zX2 zX3 ltX
  have hN := (chk_zero Hch.out).1
  have HC40 := Lib.hid (show c ≤ 40 by have := HCN.out; omega)
  clear hN
  go_loopw [5, 6] (fun v i wr => ∃ q : Nat, q ≤ c ∧ i = .int .i64 (q : Int) ∧ Hid (∃ v1 : Value, v = v1 ∧ GrL w0 wr v1 (nmK (sdP l x) q))) (fun v i _ => c - (intOf i).toNat)
  case atStart => exact ⟨0, Nat.zero_le _, rfl, Lib.hid ⟨_, rfl, GrI.nil _⟩⟩
  case round =>
    obtain ⟨q, hq9, rfl, HY⟩ := hrel
    obtain ⟨wq, rfl⟩ : ∃ wk, wk = wr := ⟨_, rfl⟩
    obtain ⟨v1, hv, hL⟩ := HY.out
    obtain rfl : v1 = _ := hv.symm
    clear HY hv
    have hbq := hL.2.2
    have Xq := Lib.hid ((hbq.block _ (lt_of_block X.out)).trans X.out)
    have Sq := Lib.hid (S.out.below hbq (Nat.le_refl _))
    have zX0 : wq.cell? ⟨R, 0, none⟩ = some (.int .i64 (c : Int)) := by rw [cell_row Xq.out, ← HCN.out]; rfl
    have zX2 : wq.cell? ⟨R, 2, none⟩ = some (.slice l.LA l.ln l.lc) := by rw [cell_row Xq.out]; rfl
    have zX3 : wq.cell? ⟨R, 3, none⟩ = some (.slice l.RA l.rn l.rc) := by rw [cell_row Xq.out]; rfl
    have hc40 := HC40.out
    by_cases hlt2 : q < c
    · have hlen := nmK_len (sdP l x) q
      have HL := Lib.hid hL
      have hab := and_bit x q Hx.out
      have K1 := Lib.hid (in38 l.LA l.ln l.lc l.ls (q : Int) wq Sq.out.ls Sq.out.l6)
      have K2 := Lib.hid (in38 l.RA l.rn l.rc l.rs (q : Int) wq Sq.out.rs Sq.out.r6)
      have hpe : sdP l x (q : Int) = (decide ((q : Int) ∈ l.ls) || (x.testBit q && !decide ((q : Int) ∈ l.rs))) := by simp [sdP]
      obtain ⟨a1, ha1⟩ : ∃ v, decide ((q : Int) ∈ l.ls) = v := ⟨_, rfl⟩
      obtain ⟨a2, ha2⟩ : ∃ v, decide ((q : Int) ∈ l.rs) = v := ⟨_, rfl⟩
      rw [ha1] at K1 hpe
      rw [ha2] at K2 hpe
      have hy := fun e => nmK_yes (p := sdP l x) (k := q) e
      have hno := fun e => nmK_no (p := sdP l x) (k := q) e
      rw [hpe] at hy hno
      have Hy := Lib.hid hy
      have Hno := Lib.hid hno
      obtain ⟨C, cc, W', hrun, hG2, hkp⟩ := GrI.app2 hL (q : Int) (by omega)
      have HG2 := Lib.hid (show GrL w0 W' (.slice C ((nmK (sdP l x) q).length + 1) cc) (nmK (sdP l x) q ++ [(q : Int)]) from by unfold GrL; rw [List.length_append]; exact hG2)
      have i0 : (0 : Int) ≤ (q : Int) := by omega
      have i1 : ¬ (q : Int) < 0 := by omega
      have i2 : (q : Int) < 64 := by omega
      clear hL hG2 hbq hlen hkp ha1 ha2 hpe hy hno
      go_wp2_with fail
      refine K1.out.mono ?_
      rintro en w9 ⟨rfl, hw9⟩
      subst w9
      rcases a1 with _ | _
      rotate_left
      · have HN := Lib.hid (Hy.out rfl)
        go_wp2_with fail
        go_roundw
        case rel => exact ⟨q + 1, by omega, by go_num, Lib.hid ⟨_, rfl, by rw [HN.out]; exact HG2.out⟩⟩
        case measure => simp [intOf]; omega
      cases hbt : x.testBit q
      · rw [hbt, if_neg (by simp)] at hab
        have HN := Lib.hid (Hno.out (by rw [hbt]; rfl))
        have d1 : ¬ bits BinOp.and IntKind.u64 ((x : Int) / 2 ^ q) 1 = 1 := by rw [hab]; decide
        clear hab hbt
        go_wp2_with fail
        go_roundw
        case rel => exact ⟨q + 1, by omega, by go_num, Lib.hid ⟨_, rfl, by rw [HN.out]; exact HL.out⟩⟩
        case measure => simp [intOf]; omega
      rw [hbt, if_pos rfl] at hab
      have d1 : bits BinOp.and IntKind.u64 ((x : Int) / 2 ^ q) 1 = 1 := hab
      rw [hbt] at Hy Hno
      clear hab hbt
      go_wp2_with fail
      refine K2.out.mono ?_
      rintro en w9 ⟨rfl, hw9⟩
      subst w9
      rcases a2 with _ | _
      · have HN := Lib.hid (Hy.out rfl)
        go_wp2_with fail
        go_roundw
        case rel => exact ⟨q + 1, by omega, by go_num, Lib.hid ⟨_, rfl, by rw [HN.out]; exact HG2.out⟩⟩
        case measure => simp [intOf]; omega
      · have HN := Lib.hid (Hno.out rfl)
        go_wp2_with fail
        go_roundw
        case rel => exact ⟨q + 1, by omega, by go_num, Lib.hid ⟨_, rfl, by rw [HN.out]; exact HL.out⟩⟩
        case measure => simp [intOf]; omega
    · obtain rfl : q = c := by omega
      obtain ⟨C, cc, rfl, hcc, hI9, -⟩ := ints_own rfl hL.1
      have HI9 := Lib.hid (And.intro hcc hI9)
      have HB9 := Lib.hid (B.out.trans (hbq.mono B.out.size))
      clear hcc hI9 hL hbq
      go_wp2_with fail
      go_ret
      exact ⟨C, cc, rfl, HI9.out.1, HI9.out.2, HB9.out⟩
end
end Go.Proofs.Ytigohccehllmnaa
