/- Stage 6: what the document says of a side and of chains. -/
import Derived.Test.YtigohccehllmnaaDj
namespace Go.Proofs.Ytigohccehllmnaa
set_option linter.unusedSimpArgs false
set_option linter.unusedVariables false
open Go.RowKit Go.Shelf
section
attribute [local go_sem ↓] exec_app at_app
attribute [local go_sem] Oper.semAt_some
set_option maxRecDepth 100000 in
set_option maxHeartbeats 16000000 in
theorem isSide55 (l : NL) (SA : Option Addr) (sn sc : Nat) (ss : List Int) (w : World) (h : NLs w l) (hS : Ints w SA sn ss) (hs6 : sn ≤ 1000000) :
    Calls Try.prog 55 #[.agg #[.int .i64 l.N, .slice l.A l.n l.cap, .slice l.LA l.ln l.lc, .slice l.RA l.rn l.rc], .slice SA sn sc] w fun e w' => e = .returned (.bool (sideB l ss)) ∧ Below w.heap.size w w' := by
  obtain ⟨R, hR⟩ : ∃ v, w.heap.size = v := ⟨_, rfl⟩
  have hb0 := below_alloc_ w (.cells #[.int .i64 l.N, .slice l.A l.n l.cap, .slice l.LA l.ln l.lc, .slice l.RA l.rn l.rc] 25)
  have hr0 := heap_alloc_new_ w (.cells #[.int .i64 l.N, .slice l.A l.n l.cap, .slice l.LA l.ln l.lc, .slice l.RA l.rn l.rc] 25)
  have hz0 : (w.alloc (.cells #[.int .i64 l.N, .slice l.A l.n l.cap, .slice l.LA l.ln l.lc, .slice l.RA l.rn l.rc] 25)).heap.size = w.heap.size + 1 := by simp
  obtain ⟨w0, hw0⟩ : ∃ v, w.alloc (.cells #[.int .i64 l.N, .slice l.A l.n l.cap, .slice l.LA l.ln l.lc, .slice l.RA l.rn l.rc] 25) = v := ⟨_, rfl⟩
  rw [hw0] at hb0 hr0 hz0
  rw [hR] at hr0 hz0
  have hB := hb0
  have S := Lib.hid (h.below hB (Nat.le_refl _))
  have SS := Lib.hid (hS.below hB (Nat.le_refl _))
  have X := Lib.hid hr0
  have HW0 := Lib.hid hw0
  have B := Lib.hid hB
  have HR := Lib.hid hR
  clear hB hR hb0 hr0 hz0 hw0 h hS
  have ltX : R < w0.heap.size := lt_of_block X.out
  have zX0 : w0.cell? ⟨R, 0, none⟩ = some (.int .i64 l.N) := by rw [cell_row X.out]; rfl
  have zX1 : w0.cell? ⟨R, 1, none⟩ = some (.slice l.A l.n l.cap) := by rw [cell_row X.out]; rfl
  have zX2 : w0.cell? ⟨R, 2, none⟩ = some (.slice l.LA l.ln l.lc) := by rw [cell_row X.out]; rfl
  have zX3 : w0.cell? ⟨R, 3, none⟩ = some (.slice l.RA l.rn l.rc) := by rw [cell_row X.out]; rfl
  go_enter Try.func55, Try.ntmps55
  go_wp2_with fail
  try rw [HW0.out]
  try rw [HR.out]
  try simp only [Nat.add_assoc, Nat.reduceAdd]
  try go_wp2_with fail
  clear zX0 zX1 zX2 zX3 ltX
  have zX0 : w0.cell? ⟨R, 0, none⟩ = some (.int .i64 l.N) := by rw [cell_row X.out]; rfl
  have zX1 : w0.cell? ⟨R, 1, none⟩ = some (.slice l.A l.n l.cap) := by rw [cell_row X.out]; rfl
  have zX2 : w0.cell? ⟨R, 2, none⟩ = some (.slice l.LA l.ln l.lc) := by rw [cell_row X.out]; rfl
  have zX3 : w0.cell? ⟨R, 3, none⟩ = some (.slice l.RA l.rn l.rc) := by rw [cell_row X.out]; rfl
  go_loopw [5] (fun i wr => ∃ k : Nat, k ≤ l.ln ∧ i = .int .i64 (k : Int) ∧ Hid (allT (fun x => decide (x ∈ ss)) l.ls k = true) ∧ wr = w0) (fun i _ => l.ln - (intOf i).toNat)
  case atStart => exact ⟨0, Nat.zero_le _, rfl, Lib.hid rfl, rfl⟩
  case round =>
    obtain ⟨k, hk9, rfl, HT, hw9⟩ := hrel
    subst wr
    have hl6 := S.out.l6
    by_cases hlt : k < l.ln
    · obtain ⟨bz, oz, hA, hcz⟩ := S.out.ls.2 (by omega)
      have z0 := hcz k hlt
      have Hs := Lib.hid (allT_succ (fun x => decide (x ∈ ss)) (zs := l.ls) (k := k) (by rw [S.out.ls.1]; exact hlt))
      have Hn := Lib.hid (fun e => allT_no (fun x => decide (x ∈ ss)) (zs := l.ls) (k := k) (by rw [S.out.ls.1]; exact hlt) e)
      rw [HT.out, Bool.true_and] at Hs
      obtain ⟨x, hx⟩ : ∃ x, iAt l.ls k = x := ⟨_, rfl⟩
      rw [hx] at z0 Hs Hn
      obtain ⟨j, hj⟩ : ∃ v, decide (x ∈ ss) = v := ⟨_, rfl⟩
      simp only [hj] at Hs Hn
      have K := Lib.hid (in38 SA sn sc ss x w0 SS.out hs6)
      rw [hj] at K
      have i0 : (0 : Int) ≤ (k : Int) := by omega
      have i1 : (k : Int) < (l.ln : Int) := by omega
      rw [hA] at zX2
      clear hcz hx hj hA HT
      go_wp2_with fail
      refine K.out.mono ?_
      rintro en w9 ⟨rfl, hw9⟩
      subst w9
      rcases j with _ | _
      · go_wp2_with fail
        go_ret
        exact ⟨by unfold sideB; rw [Hn.out (by simp)] <;> rfl, B.out⟩
      · go_wp2_with fail
        go_roundw
        case rel => exact ⟨k + 1, by omega, by go_num, Lib.hid (by rw [Hs.out] <;> rfl), trivial⟩
        case measure => simp [intOf]; omega
    · obtain rfl : k = l.ln := by omega
      have HF := Lib.hid (show l.ls.all (fun x => decide (x ∈ ss)) = true by rw [← allT_full (fun x => decide (x ∈ ss)) S.out.ls.1]; exact HT.out)
      clear HT hk9 hlt hl6
      have HL := HF
      clear HF
      go_wp2_with fail
      go_loopw [6] (fun i wr => ∃ k : Nat, k ≤ l.rn ∧ i = .int .i64 (k : Int) ∧ Hid (allT (fun x => !decide (x ∈ ss)) l.rs k = true) ∧ wr = w0) (fun i _ => l.rn - (intOf i).toNat)
      case atStart => exact ⟨0, Nat.zero_le _, rfl, Lib.hid rfl, rfl⟩
      case round =>
        obtain ⟨k, hk9, rfl, HT, hw9⟩ := hrel
        subst wr
        have hl6 := S.out.r6
        by_cases hlt : k < l.rn
        · obtain ⟨bz, oz, hA, hcz⟩ := S.out.rs.2 (by omega)
          have z0 := hcz k hlt
          have Hs := Lib.hid (allT_succ (fun x => !decide (x ∈ ss)) (zs := l.rs) (k := k) (by rw [S.out.rs.1]; exact hlt))
          have Hn := Lib.hid (fun e => allT_no (fun x => !decide (x ∈ ss)) (zs := l.rs) (k := k) (by rw [S.out.rs.1]; exact hlt) e)
          rw [HT.out, Bool.true_and] at Hs
          obtain ⟨x, hx⟩ : ∃ x, iAt l.rs k = x := ⟨_, rfl⟩
          rw [hx] at z0 Hs Hn
          obtain ⟨j, hj⟩ : ∃ v, decide (x ∈ ss) = v := ⟨_, rfl⟩
          simp only [hj] at Hs Hn
          have K := Lib.hid (in38 SA sn sc ss x w0 SS.out hs6)
          rw [hj] at K
          have i0 : (0 : Int) ≤ (k : Int) := by omega
          have i1 : (k : Int) < (l.rn : Int) := by omega
          rw [hA] at zX3
          clear hcz hx hj hA HT
          go_wp2_with fail
          refine K.out.mono ?_
          rintro en w9 ⟨rfl, hw9⟩
          subst w9
          rcases j with _ | _
          · go_wp2_with fail
            go_roundw
            case rel => exact ⟨k + 1, by omega, by go_num, Lib.hid (by rw [Hs.out] <;> rfl), trivial⟩
            case measure => simp [intOf]; omega
          · have HQ := Lib.hid (show l.rs.any (fun x => decide (x ∈ ss)) = true by
              have := Hn.out (by simp)
              rw [← Bool.not_eq_true, List.all_eq_true] at this
              exact List.any_eq_true.2 (Classical.byContradiction fun e => this fun y hy => by simp only [Bool.not_eq_true', ← Bool.not_eq_true]; exact fun e2 => e ⟨y, hy, e2⟩))
            go_wp2_with fail
            go_ret
            exact ⟨by unfold sideB; rw [HL.out, HQ.out] <;> rfl, B.out⟩
        · obtain rfl : k = l.rn := by omega
          have HF := Lib.hid (show l.rs.all (fun x => !decide (x ∈ ss)) = true by rw [← allT_full (fun x => !decide (x ∈ ss)) S.out.rs.1]; exact HT.out)
          clear HT hk9 hlt hl6
          have HQ := Lib.hid (show l.rs.any (fun x => decide (x ∈ ss)) = false by
            rw [List.any_eq_false]
            intro y hy
            have := List.all_eq_true.1 HF.out y hy
            simpa using this)
          go_wp2_with fail
          go_ret
          exact ⟨by unfold sideB; rw [HL.out, HQ.out] <;> rfl, B.out⟩
end
end Go.Proofs.Ytigohccehllmnaa
