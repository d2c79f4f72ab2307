/- Stage 3: the document's fewest steps without a gap. -/
import Derived.Test.YtdfdlklglbefiaaSp2
import Derived.Deep.Cut
import Derived.Deep.CutRange
namespace Go.Proofs.Ytdfdlklglbefiaa
set_option linter.unusedSimpArgs false
set_option linter.unusedVariables false
open Go.RowKit Go.Shelf
attribute [local go_sem ↓] exec_app
attribute [local go_sem] Oper.semAt_some

theorem make26b (n : Nat) (hn : n ≤ 100000) (W : World) : (Instr.makeSlice 26 (.int .i64 (n : Int)) (.int .i64 (n : Int))).run Try.prog W = .ok (.slice (some ⟨W.heap.size, 0, none⟩) n n) (W.alloc (.cells (flatI (List.replicate n 0)).toArray 3)) := by
  obtain ⟨i, hi, hz, hs, hb⟩ := info_parts info3_
  have h := run_makeSlice (P := Try.prog) W 26 3 i _ Try.underlying26 hi hz .i64 .i64 (n : Int) (n : Int) (by omega) (by omega) (by rw [hs]; omega) (by rw [hb]; omega) (by omega)
  simp only [Int.toNat_natCast, hs, Nat.mul_one] at h
  rw [h]
  have e : madeCells (Value.int IntKind.i64 0).cells n = (flatI (List.replicate n 0)).toArray := by
    apply Array.ext'
    have : (Value.int IntKind.i64 0).cells = #[Value.int IntKind.i64 0] := rfl
    rw [this, toList_madeCells_one]
    simp [flatI]
  rw [e]
/-- Whether a step may be here, told over the first j tones. -/
def gdK (zs : List Rg) (g : Rg) (p : Int) (j : Nat) : Bool := decide (p = g.lo - 1) || decide (p = g.hi + 1) || (zs.take j).any (fun t => decide (p = t.hi) || decide (p = t.lo))
theorem gdK_succ {zs : List Rg} (g : Rg) (p : Int) {j : Nat} (h : j < zs.length) : gdK zs g p (j + 1) = (gdK zs g p j || (decide (p = (gAt zs j).hi) || decide (p = (gAt zs j).lo))) := by
  unfold gdK
  rw [List.take_succ_eq_append_getElem h, List.any_append, gAt_eq h]
  simp [Bool.or_assoc]
theorem gdK_all (zs : List Rg) (g : Rg) (p : Int) : gdK zs g p zs.length = gdP zs g p := by
  unfold gdK gdP
  rw [List.take_length]
structure TbI (zs : List Rg) (L : List Int) (D k m : Nat) (w1 : World) (W : World) (o : List Int) : Prop where
  row : RowK W D o
  len : o.length = m
  ok : ∀ j, j < k → DpOk zs L j (iAt o j)
  kp : Keeps (fun j => j = D) w1 W
theorem dp_ge {zs : List Rg} {L : List Int} {j : Nat} {v : Int} (h : DpOk zs L j v) : 0 ≤ v ∧ v ≤ 1000 := by
  refine ⟨?_, h.le⟩
  rcases h.ex with h | ⟨st, _, h⟩ <;> omega
theorem mny_ge {zs : List Rg} {L o : List Int} {k q : Nat} (h : ∀ j, j < k → DpOk zs L j (iAt o j)) (hq : q ≤ k) : 0 ≤ mny o q ∧ mny o q ≤ 1000 := by
  unfold mny
  split
  · omega
  · exact dp_ge (h (q - 1) (by omega))
theorem inn_ge {zs : List Rg} {L o : List Int} {k q : Nat} (h : ∀ j, j < k → DpOk zs L j (iAt o j)) (hq : q ≤ k + 1) : 0 ≤ inn zs L o k q := by
  rcases inn_ex zs L o k q with h1 | ⟨q', a, _, b, _⟩
  · omega
  · have := mny_ge (q := q') h (by omega); omega
set_option maxRecDepth 100000 in
set_option maxHeartbeats 40000000 in
theorem without57 (P : Nat) (hP : P = 10001) (A : Option Addr) (n cap : Nat) (zs : List Rg) (g : Rg) (w : World) (h : Rgs w A n zs) (hz : chkS zs = 0) (hg : okZ g = true) :
    Calls Try.prog 57 #[.slice A n cap, .agg #[.int .i64 g.lo, .int .i64 g.hi]] w fun e w' => ∃ b : Int, BsI zs (plcs zs g P) (plcs zs g P).length b ∧ e = .returned (.int .i64 b) ∧ Below w.heap.size w w' := by
  have Hlen := Lib.hid h.1
  have HZ := Lib.hid hz
  have hl24 := len_of hz
  rw [h.1] at hl24
  have Hgo := Lib.hid (okZ_iff.1 hg)
  obtain ⟨glo, hglo⟩ : ∃ x, g.lo = x := ⟨_, rfl⟩
  obtain ⟨ghi, hghi⟩ : ∃ x, g.hi = x := ⟨_, rfl⟩
  have g1 : 0 ≤ glo := by have := Hgo.out; omega
  have g2 : ghi ≤ 10000 := by have := Hgo.out; omega
  have g3 : glo ≤ ghi := by have := Hgo.out; omega
  have HP := Lib.hid hP
  rw [hglo, hghi]
  have Hglo := Lib.hid hglo
  have Hghi := Lib.hid hghi
  have hb0 := below_alloc_ w (.cells #[.int .i64 glo, .int .i64 ghi] 56)
  have hR0 := heap_alloc_new_ w (.cells #[.int .i64 glo, .int .i64 ghi] 56)
  obtain ⟨W0, hW0⟩ : ∃ W0, w.alloc (.cells #[.int .i64 glo, .int .i64 ghi] 56) = W0 := ⟨_, rfl⟩
  rw [hW0] at hb0 hR0
  obtain ⟨R, hR⟩ : ∃ R, w.heap.size = R := ⟨_, rfl⟩
  have S := Lib.hid (h.below hb0 (Nat.le_refl _))
  have B0 := Lib.hid hb0
  rw [hR] at hR0
  have R0 := Lib.hid hR0
  have HR := Lib.hid hR
  have HW0 := Lib.hid hW0
  clear h hz hg hb0 hR0 hR hW0 hglo hghi hP
  go_enter Try.func57, Try.ntmps57
  go_wp2_with fail
  rw [HW0.out]
  try rw [HR.out]
  go_loopw [5, 6, 7, 8] (fun v p gd i wr => ∃ q : Nat, q ≤ P ∧ p = .int .i64 (q : Int) ∧ wr.ownsRow 0 2 1 v (plcs zs g q).length (flatI (plcs zs g q)) ∧ (∀ j, v.ownBlock = some j → W0.heap.size ≤ j) ∧ Below W0.heap.size W0 wr) (fun v p gd i _ => P - (intOf p).toNat)
  case atStart => exact ⟨0, Nat.zero_le _, rfl, own_nil _ _ _, fun j e => (by cases e), Below.refl _ _⟩
  case round =>
    obtain ⟨q, hq, rfl, ho, hob, hB⟩ := hrel
    obtain ⟨wk, rfl⟩ : ∃ wk, wk = wr := ⟨_, rfl⟩
    have Ho := Lib.hid ho
    have Hob := Lib.hid hob
    have HB := Lib.hid hB
    clear ho hob hB
    by_cases hlt : q < P
    · have i5 : (q : Int) ≤ 10000 := by have := HP.out; omega
      have hRk := (HB.out.block _ (lt_of_block R0.out)).trans R0.out
      have r0 : wk.cell? ⟨R, 0, none⟩ = some (.int .i64 glo) := by rw [cell_row hRk]; rfl
      have r1 : wk.cell? ⟨R, 1, none⟩ = some (.int .i64 ghi) := by rw [cell_row hRk]; rfl
      clear hRk
      by_cases e1 : (q : Int) = glo - 1
      · skip
        have HG0 := Lib.hid (show true = gdK zs g (q : Int) 0 by unfold gdK; rw [Hglo.out, decide_eq_true e1]; rfl)
        have d1 : ((q : Int) == glo - 1) = true := by rw [beq_iff_eq]; exact e1
        clear e1
        go_wp2_with fail
        go_loopw [7, 8] (fun gd i wr => ∃ j : Nat, j ≤ n ∧ i = .int .i64 (j : Int) ∧ (∃ bl, gd = .bool bl ∧ Hid (bl = gdK zs g (q : Int) j)) ∧ Below wk.heap.size wk wr) (fun gd i _ => n - (intOf i).toNat)
        case atStart => exact ⟨0, Nat.zero_le _, rfl, ⟨_, rfl, HG0⟩, Below.refl _ _⟩
        case round =>
          obtain ⟨j, hj, rfl, ⟨bl, rfl, HG⟩, hBj⟩ := hrel
          obtain ⟨wj, rfl⟩ : ∃ wj, wj = wr := ⟨_, rfl⟩
          have HBj := Lib.hid hBj
          by_cases hjl : j < n
          · have hb3 := HB.out.trans (hBj.mono HB.out.size)
            obtain ⟨b1, o1, rfl, hc1⟩ := (S.out.below hb3 (Nat.le_refl _)).2 (by omega)
            obtain ⟨c0, c1⟩ := hc1 j hjl
            have Hst := Lib.hid (gdK_succ (zs := zs) g (q : Int) (j := j) (by rw [Hlen.out]; exact hjl))
            rw [← HG.out] at Hst
            obtain ⟨t, ht⟩ : ∃ t, gAt zs j = t := ⟨_, rfl⟩
            rw [ht] at c0 c1 Hst
            obtain ⟨lo, hi⟩ := t
            dsimp only at c0 c1 Hst
            have j0 : (0 : Int) ≤ (j : Int) := by omega
            have j1 : (j : Int) < (n : Int) := by omega
            clear hc1 ht hBj hb3 HG
            cases bl with
            | true =>
              have HT := Lib.hid (show true = gdK zs g (q : Int) (j + 1) by rw [Hst.out]; rfl)
              go_wp2_with fail
              go_roundw
              case rel => exact ⟨j + 1, by omega, by go_num, ⟨_, rfl, HT⟩, HBj.out⟩
              case measure => simp [intOf]; omega
            | false =>
              by_cases e1 : (q : Int) = hi
              · have HT := Lib.hid (show true = gdK zs g (q : Int) (j + 1) by rw [Hst.out, decide_eq_true e1]; rfl)
                have d1 : ((q : Int) == hi) = true := by rw [beq_iff_eq]; exact e1
                clear e1
                go_wp2_with fail
                go_roundw
                case rel => exact ⟨j + 1, by omega, by go_num, ⟨_, rfl, HT⟩, HBj.out⟩
                case measure => simp [intOf]; omega
              · have d1 : ((q : Int) == hi) = false := by rw [beq_eq_false_iff_ne]; exact e1
                by_cases e2 : (q : Int) = lo
                · have HT := Lib.hid (show true = gdK zs g (q : Int) (j + 1) by rw [Hst.out, decide_eq_false e1, decide_eq_true e2]; rfl)
                  have d2 : ((q : Int) == lo) = true := by rw [beq_iff_eq]; exact e2
                  clear e1 e2
                  go_wp2_with fail
                  go_roundw
                  case rel => exact ⟨j + 1, by omega, by go_num, ⟨_, rfl, HT⟩, HBj.out⟩
                  case measure => simp [intOf]; omega
                · have HT := Lib.hid (show false = gdK zs g (q : Int) (j + 1) by rw [Hst.out, decide_eq_false e1, decide_eq_false e2]; rfl)
                  have d2 : ((q : Int) == lo) = false := by rw [beq_eq_false_iff_ne]; exact e2
                  clear e1 e2
                  go_wp2_with fail
                  go_roundw
                  case rel => exact ⟨j + 1, by omega, by go_num, ⟨_, rfl, HT⟩, HBj.out⟩
                  case measure => simp [intOf]; omega
          · obtain rfl : j = n := by omega
            have HGP := Lib.hid (show bl = gdP zs g (q : Int) by rw [HG.out, ← Hlen.out, gdK_all])
            have Hsx := Lib.hid (plcs_succ zs g q)
            rw [← HGP.out] at Hsx
            have hRk := ((HB.out.trans (hBj.mono HB.out.size)).block _ (lt_of_block R0.out)).trans R0.out
            have s0 : wj.cell? ⟨R, 0, none⟩ = some (.int .i64 glo) := by rw [cell_row hRk]; rfl
            have s1 : wj.cell? ⟨R, 1, none⟩ = some (.int .i64 ghi) := by rw [cell_row hRk]; rfl
            have Hob2 := Hob
            clear hRk hBj HG HGP r0 r1
            cases bl with
            | false =>
              have HT := Lib.hid (show plcs zs g (q + 1) = plcs zs g q by rw [Hsx.out]; simp)
              go_wp2_with fail
              go_roundw
              case rel => exact ⟨q + 1, by omega, by go_num, by rw [HT.out]; exact own_keep Ho.out (Keeps.of_new (Mut := fun _ => False) HBj.out) (fun _ _ e => e), Hob.out, HB.out.trans (HBj.out.mono HB.out.size)⟩
              case measure => simp [intOf]; omega
            | true =>
              by_cases e1 : (q : Int) < glo
              · have HT := Lib.hid (show plcs zs g (q + 1) = plcs zs g q ++ [(q : Int)] by rw [Hsx.out]; simp [outP, Hglo.out, e1])
                have hbz := below_alloc_ wj (.cells #[.int .i64 (q : Int)] 2)
                have hzz := heap_alloc_new_ wj (.cells #[.int .i64 (q : Int)] 2)
                have ho3 := own_keep (Mut := fun _ => False) Ho.out (Keeps.of_new (HBj.out.trans (hbz.mono HBj.out.size))) (fun _ _ e => e)
                obtain ⟨v', W3, hrun, hown3, hK3, hv3⟩ := app_one Try.underlying23 info2s_ rfl (by omega) (by omega) ho3 (vals := [.int .i64 (q : Int)]) rfl hzz (by simp [Value.oneCell']) (by have := plcs_len zs g q; have := HP.out; omega)
                have hB2 := HB.out.trans ((HBj.out.trans (hbz.mono HBj.out.size)).mono HB.out.size)
                have hB3 : Below W0.heap.size W0 W3 := hB2.trans (hK3.below hB2.size (fun j hj e => by have := Hob.out j e; omega))
                have hv4 : ∀ j, v'.ownBlock = some j → W0.heap.size ≤ j := by
                  intro j hj
                  rcases hv3 with e | ⟨e, _⟩
                  · rw [e] at hj; exact Hob.out j hj
                  · rw [e] at hj; cases hj; exact hB2.size
                have hrun := run_app hrun
                have HB3 := Lib.hid hB3
                have HV4 := Lib.hid hv4
                have HO3 := Lib.hid hown3
                clear hbz hzz ho3 hown3 hK3 hv3 hB3 hv4 hB2
                obtain ⟨lq, hlq⟩ : ∃ lq, (plcs zs g q).length = lq := ⟨_, rfl⟩
                have Hlq := Lib.hid hlq
                rw [hlq] at HO3
                clear hlq
                go_wp2_with fail
                go_roundw
                case rel => exact ⟨q + 1, by omega, by go_num, by rw [HT.out, flatI_snoc, List.length_append, Hlq.out]; exact HO3.out, HV4.out, HB3.out⟩
                case measure => simp [intOf]; omega
              · by_cases e2 : ghi < (q : Int)
                · have HT := Lib.hid (show plcs zs g (q + 1) = plcs zs g q ++ [(q : Int)] by rw [Hsx.out]; simp [outP, Hghi.out, e2])
                  have hbz := below_alloc_ wj (.cells #[.int .i64 (q : Int)] 2)
                  have hzz := heap_alloc_new_ wj (.cells #[.int .i64 (q : Int)] 2)
                  have ho3 := own_keep (Mut := fun _ => False) Ho.out (Keeps.of_new (HBj.out.trans (hbz.mono HBj.out.size))) (fun _ _ e => e)
                  obtain ⟨v', W3, hrun, hown3, hK3, hv3⟩ := app_one Try.underlying23 info2s_ rfl (by omega) (by omega) ho3 (vals := [.int .i64 (q : Int)]) rfl hzz (by simp [Value.oneCell']) (by have := plcs_len zs g q; have := HP.out; omega)
                  have hB2 := HB.out.trans ((HBj.out.trans (hbz.mono HBj.out.size)).mono HB.out.size)
                  have hB3 : Below W0.heap.size W0 W3 := hB2.trans (hK3.below hB2.size (fun j hj e => by have := Hob.out j e; omega))
                  have hv4 : ∀ j, v'.ownBlock = some j → W0.heap.size ≤ j := by
                    intro j hj
                    rcases hv3 with e | ⟨e, _⟩
                    · rw [e] at hj; exact Hob.out j hj
                    · rw [e] at hj; cases hj; exact hB2.size
                  have hrun := run_app hrun
                  have HB3 := Lib.hid hB3
                  have HV4 := Lib.hid hv4
                  have HO3 := Lib.hid hown3
                  clear hbz hzz ho3 hown3 hK3 hv3 hB3 hv4 hB2
                  obtain ⟨lq, hlq⟩ : ∃ lq, (plcs zs g q).length = lq := ⟨_, rfl⟩
                  have Hlq := Lib.hid hlq
                  rw [hlq] at HO3
                  clear hlq
                  go_wp2_with fail
                  go_roundw
                  case rel => exact ⟨q + 1, by omega, by go_num, by rw [HT.out, flatI_snoc, List.length_append, Hlq.out]; exact HO3.out, HV4.out, HB3.out⟩
                  case measure => simp [intOf]; omega
                · have HT := Lib.hid (show plcs zs g (q + 1) = plcs zs g q by rw [Hsx.out]; simp [outP, Hglo.out, Hghi.out, e1, e2])
                  go_wp2_with fail
                  go_roundw
                  case rel => exact ⟨q + 1, by omega, by go_num, by rw [HT.out]; exact own_keep Ho.out (Keeps.of_new (Mut := fun _ => False) HBj.out) (fun _ _ e => e), Hob.out, HB.out.trans (HBj.out.mono HB.out.size)⟩
                  case measure => simp [intOf]; omega
      · by_cases e2 : (q : Int) = ghi + 1
        · skip
          have HG0 := Lib.hid (show true = gdK zs g (q : Int) 0 by unfold gdK; rw [Hglo.out, Hghi.out, decide_eq_false e1, decide_eq_true e2]; rfl)
          have d1 : ((q : Int) == glo - 1) = false := by rw [beq_eq_false_iff_ne]; exact e1
          have d2 : ((q : Int) == ghi + 1) = true := by rw [beq_iff_eq]; exact e2
          clear e1 e2
          go_wp2_with fail
          go_loopw [7, 8] (fun gd i wr => ∃ j : Nat, j ≤ n ∧ i = .int .i64 (j : Int) ∧ (∃ bl, gd = .bool bl ∧ Hid (bl = gdK zs g (q : Int) j)) ∧ Below wk.heap.size wk wr) (fun gd i _ => n - (intOf i).toNat)
          case atStart => exact ⟨0, Nat.zero_le _, rfl, ⟨_, rfl, HG0⟩, Below.refl _ _⟩
          case round =>
            obtain ⟨j, hj, rfl, ⟨bl, rfl, HG⟩, hBj⟩ := hrel
            obtain ⟨wj, rfl⟩ : ∃ wj, wj = wr := ⟨_, rfl⟩
            have HBj := Lib.hid hBj
            by_cases hjl : j < n
            · have hb3 := HB.out.trans (hBj.mono HB.out.size)
              obtain ⟨b1, o1, rfl, hc1⟩ := (S.out.below hb3 (Nat.le_refl _)).2 (by omega)
              obtain ⟨c0, c1⟩ := hc1 j hjl
              have Hst := Lib.hid (gdK_succ (zs := zs) g (q : Int) (j := j) (by rw [Hlen.out]; exact hjl))
              rw [← HG.out] at Hst
              obtain ⟨t, ht⟩ : ∃ t, gAt zs j = t := ⟨_, rfl⟩
              rw [ht] at c0 c1 Hst
              obtain ⟨lo, hi⟩ := t
              dsimp only at c0 c1 Hst
              have j0 : (0 : Int) ≤ (j : Int) := by omega
              have j1 : (j : Int) < (n : Int) := by omega
              clear hc1 ht hBj hb3 HG
              cases bl with
              | true =>
                have HT := Lib.hid (show true = gdK zs g (q : Int) (j + 1) by rw [Hst.out]; rfl)
                go_wp2_with fail
                go_roundw
                case rel => exact ⟨j + 1, by omega, by go_num, ⟨_, rfl, HT⟩, HBj.out⟩
                case measure => simp [intOf]; omega
              | false =>
                by_cases e1 : (q : Int) = hi
                · have HT := Lib.hid (show true = gdK zs g (q : Int) (j + 1) by rw [Hst.out, decide_eq_true e1]; rfl)
                  have d1 : ((q : Int) == hi) = true := by rw [beq_iff_eq]; exact e1
                  clear e1
                  go_wp2_with fail
                  go_roundw
                  case rel => exact ⟨j + 1, by omega, by go_num, ⟨_, rfl, HT⟩, HBj.out⟩
                  case measure => simp [intOf]; omega
                · have d1 : ((q : Int) == hi) = false := by rw [beq_eq_false_iff_ne]; exact e1
                  by_cases e2 : (q : Int) = lo
                  · have HT := Lib.hid (show true = gdK zs g (q : Int) (j + 1) by rw [Hst.out, decide_eq_false e1, decide_eq_true e2]; rfl)
                    have d2 : ((q : Int) == lo) = true := by rw [beq_iff_eq]; exact e2
                    clear e1 e2
                    go_wp2_with fail
                    go_roundw
                    case rel => exact ⟨j + 1, by omega, by go_num, ⟨_, rfl, HT⟩, HBj.out⟩
                    case measure => simp [intOf]; omega
                  · have HT := Lib.hid (show false = gdK zs g (q : Int) (j + 1) by rw [Hst.out, decide_eq_false e1, decide_eq_false e2]; rfl)
                    have d2 : ((q : Int) == lo) = false := by rw [beq_eq_false_iff_ne]; exact e2
                    clear e1 e2
                    go_wp2_with fail
                    go_roundw
                    case rel => exact ⟨j + 1, by omega, by go_num, ⟨_, rfl, HT⟩, HBj.out⟩
                    case measure => simp [intOf]; omega
            · obtain rfl : j = n := by omega
              have HGP := Lib.hid (show bl = gdP zs g (q : Int) by rw [HG.out, ← Hlen.out, gdK_all])
              have Hsx := Lib.hid (plcs_succ zs g q)
              rw [← HGP.out] at Hsx
              have hRk := ((HB.out.trans (hBj.mono HB.out.size)).block _ (lt_of_block R0.out)).trans R0.out
              have s0 : wj.cell? ⟨R, 0, none⟩ = some (.int .i64 glo) := by rw [cell_row hRk]; rfl
              have s1 : wj.cell? ⟨R, 1, none⟩ = some (.int .i64 ghi) := by rw [cell_row hRk]; rfl
              have Hob2 := Hob
              clear hRk hBj HG HGP r0 r1
              cases bl with
              | false =>
                have HT := Lib.hid (show plcs zs g (q + 1) = plcs zs g q by rw [Hsx.out]; simp)
                go_wp2_with fail
                go_roundw
                case rel => exact ⟨q + 1, by omega, by go_num, by rw [HT.out]; exact own_keep Ho.out (Keeps.of_new (Mut := fun _ => False) HBj.out) (fun _ _ e => e), Hob.out, HB.out.trans (HBj.out.mono HB.out.size)⟩
                case measure => simp [intOf]; omega
              | true =>
                by_cases e1 : (q : Int) < glo
                · have HT := Lib.hid (show plcs zs g (q + 1) = plcs zs g q ++ [(q : Int)] by rw [Hsx.out]; simp [outP, Hglo.out, e1])
                  have hbz := below_alloc_ wj (.cells #[.int .i64 (q : Int)] 2)
                  have hzz := heap_alloc_new_ wj (.cells #[.int .i64 (q : Int)] 2)
                  have ho3 := own_keep (Mut := fun _ => False) Ho.out (Keeps.of_new (HBj.out.trans (hbz.mono HBj.out.size))) (fun _ _ e => e)
                  obtain ⟨v', W3, hrun, hown3, hK3, hv3⟩ := app_one Try.underlying23 info2s_ rfl (by omega) (by omega) ho3 (vals := [.int .i64 (q : Int)]) rfl hzz (by simp [Value.oneCell']) (by have := plcs_len zs g q; have := HP.out; omega)
                  have hB2 := HB.out.trans ((HBj.out.trans (hbz.mono HBj.out.size)).mono HB.out.size)
                  have hB3 : Below W0.heap.size W0 W3 := hB2.trans (hK3.below hB2.size (fun j hj e => by have := Hob.out j e; omega))
                  have hv4 : ∀ j, v'.ownBlock = some j → W0.heap.size ≤ j := by
                    intro j hj
                    rcases hv3 with e | ⟨e, _⟩
                    · rw [e] at hj; exact Hob.out j hj
                    · rw [e] at hj; cases hj; exact hB2.size
                  have hrun := run_app hrun
                  have HB3 := Lib.hid hB3
                  have HV4 := Lib.hid hv4
                  have HO3 := Lib.hid hown3
                  clear hbz hzz ho3 hown3 hK3 hv3 hB3 hv4 hB2
                  obtain ⟨lq, hlq⟩ : ∃ lq, (plcs zs g q).length = lq := ⟨_, rfl⟩
                  have Hlq := Lib.hid hlq
                  rw [hlq] at HO3
                  clear hlq
                  go_wp2_with fail
                  go_roundw
                  case rel => exact ⟨q + 1, by omega, by go_num, by rw [HT.out, flatI_snoc, List.length_append, Hlq.out]; exact HO3.out, HV4.out, HB3.out⟩
                  case measure => simp [intOf]; omega
                · by_cases e2 : ghi < (q : Int)
                  · have HT := Lib.hid (show plcs zs g (q + 1) = plcs zs g q ++ [(q : Int)] by rw [Hsx.out]; simp [outP, Hghi.out, e2])
                    have hbz := below_alloc_ wj (.cells #[.int .i64 (q : Int)] 2)
                    have hzz := heap_alloc_new_ wj (.cells #[.int .i64 (q : Int)] 2)
                    have ho3 := own_keep (Mut := fun _ => False) Ho.out (Keeps.of_new (HBj.out.trans (hbz.mono HBj.out.size))) (fun _ _ e => e)
                    obtain ⟨v', W3, hrun, hown3, hK3, hv3⟩ := app_one Try.underlying23 info2s_ rfl (by omega) (by omega) ho3 (vals := [.int .i64 (q : Int)]) rfl hzz (by simp [Value.oneCell']) (by have := plcs_len zs g q; have := HP.out; omega)
                    have hB2 := HB.out.trans ((HBj.out.trans (hbz.mono HBj.out.size)).mono HB.out.size)
                    have hB3 : Below W0.heap.size W0 W3 := hB2.trans (hK3.below hB2.size (fun j hj e => by have := Hob.out j e; omega))
                    have hv4 : ∀ j, v'.ownBlock = some j → W0.heap.size ≤ j := by
                      intro j hj
                      rcases hv3 with e | ⟨e, _⟩
                      · rw [e] at hj; exact Hob.out j hj
                      · rw [e] at hj; cases hj; exact hB2.size
                    have hrun := run_app hrun
                    have HB3 := Lib.hid hB3
                    have HV4 := Lib.hid hv4
                    have HO3 := Lib.hid hown3
                    clear hbz hzz ho3 hown3 hK3 hv3 hB3 hv4 hB2
                    obtain ⟨lq, hlq⟩ : ∃ lq, (plcs zs g q).length = lq := ⟨_, rfl⟩
                    have Hlq := Lib.hid hlq
                    rw [hlq] at HO3
                    clear hlq
                    go_wp2_with fail
                    go_roundw
                    case rel => exact ⟨q + 1, by omega, by go_num, by rw [HT.out, flatI_snoc, List.length_append, Hlq.out]; exact HO3.out, HV4.out, HB3.out⟩
                    case measure => simp [intOf]; omega
                  · have HT := Lib.hid (show plcs zs g (q + 1) = plcs zs g q by rw [Hsx.out]; simp [outP, Hglo.out, Hghi.out, e1, e2])
                    go_wp2_with fail
                    go_roundw
                    case rel => exact ⟨q + 1, by omega, by go_num, by rw [HT.out]; exact own_keep Ho.out (Keeps.of_new (Mut := fun _ => False) HBj.out) (fun _ _ e => e), Hob.out, HB.out.trans (HBj.out.mono HB.out.size)⟩
                    case measure => simp [intOf]; omega
        · skip
          have HG0 := Lib.hid (show false = gdK zs g (q : Int) 0 by unfold gdK; rw [Hglo.out, Hghi.out, decide_eq_false e1, decide_eq_false e2]; rfl)
          have d1 : ((q : Int) == glo - 1) = false := by rw [beq_eq_false_iff_ne]; exact e1
          have d2 : ((q : Int) == ghi + 1) = false := by rw [beq_eq_false_iff_ne]; exact e2
          clear e1 e2
          go_wp2_with fail
          go_loopw [7, 8] (fun gd i wr => ∃ j : Nat, j ≤ n ∧ i = .int .i64 (j : Int) ∧ (∃ bl, gd = .bool bl ∧ Hid (bl = gdK zs g (q : Int) j)) ∧ Below wk.heap.size wk wr) (fun gd i _ => n - (intOf i).toNat)
          case atStart => exact ⟨0, Nat.zero_le _, rfl, ⟨_, rfl, HG0⟩, Below.refl _ _⟩
          case round =>
            obtain ⟨j, hj, rfl, ⟨bl, rfl, HG⟩, hBj⟩ := hrel
            obtain ⟨wj, rfl⟩ : ∃ wj, wj = wr := ⟨_, rfl⟩
            have HBj := Lib.hid hBj
            by_cases hjl : j < n
            · have hb3 := HB.out.trans (hBj.mono HB.out.size)
              obtain ⟨b1, o1, rfl, hc1⟩ := (S.out.below hb3 (Nat.le_refl _)).2 (by omega)
              obtain ⟨c0, c1⟩ := hc1 j hjl
              have Hst := Lib.hid (gdK_succ (zs := zs) g (q : Int) (j := j) (by rw [Hlen.out]; exact hjl))
              rw [← HG.out] at Hst
              obtain ⟨t, ht⟩ : ∃ t, gAt zs j = t := ⟨_, rfl⟩
              rw [ht] at c0 c1 Hst
              obtain ⟨lo, hi⟩ := t
              dsimp only at c0 c1 Hst
              have j0 : (0 : Int) ≤ (j : Int) := by omega
              have j1 : (j : Int) < (n : Int) := by omega
              clear hc1 ht hBj hb3 HG
              cases bl with
              | true =>
                have HT := Lib.hid (show true = gdK zs g (q : Int) (j + 1) by rw [Hst.out]; rfl)
                go_wp2_with fail
                go_roundw
                case rel => exact ⟨j + 1, by omega, by go_num, ⟨_, rfl, HT⟩, HBj.out⟩
                case measure => simp [intOf]; omega
              | false =>
                by_cases e1 : (q : Int) = hi
                · have HT := Lib.hid (show true = gdK zs g (q : Int) (j + 1) by rw [Hst.out, decide_eq_true e1]; rfl)
                  have d1 : ((q : Int) == hi) = true := by rw [beq_iff_eq]; exact e1
                  clear e1
                  go_wp2_with fail
                  go_roundw
                  case rel => exact ⟨j + 1, by omega, by go_num, ⟨_, rfl, HT⟩, HBj.out⟩
                  case measure => simp [intOf]; omega
                · have d1 : ((q : Int) == hi) = false := by rw [beq_eq_false_iff_ne]; exact e1
                  by_cases e2 : (q : Int) = lo
                  · have HT := Lib.hid (show true = gdK zs g (q : Int) (j + 1) by rw [Hst.out, decide_eq_false e1, decide_eq_true e2]; rfl)
                    have d2 : ((q : Int) == lo) = true := by rw [beq_iff_eq]; exact e2
                    clear e1 e2
                    go_wp2_with fail
                    go_roundw
                    case rel => exact ⟨j + 1, by omega, by go_num, ⟨_, rfl, HT⟩, HBj.out⟩
                    case measure => simp [intOf]; omega
                  · have HT := Lib.hid (show false = gdK zs g (q : Int) (j + 1) by rw [Hst.out, decide_eq_false e1, decide_eq_false e2]; rfl)
                    have d2 : ((q : Int) == lo) = false := by rw [beq_eq_false_iff_ne]; exact e2
                    clear e1 e2
                    go_wp2_with fail
                    go_roundw
                    case rel => exact ⟨j + 1, by omega, by go_num, ⟨_, rfl, HT⟩, HBj.out⟩
                    case measure => simp [intOf]; omega
            · obtain rfl : j = n := by omega
              have HGP := Lib.hid (show bl = gdP zs g (q : Int) by rw [HG.out, ← Hlen.out, gdK_all])
              have Hsx := Lib.hid (plcs_succ zs g q)
              rw [← HGP.out] at Hsx
              have hRk := ((HB.out.trans (hBj.mono HB.out.size)).block _ (lt_of_block R0.out)).trans R0.out
              have s0 : wj.cell? ⟨R, 0, none⟩ = some (.int .i64 glo) := by rw [cell_row hRk]; rfl
              have s1 : wj.cell? ⟨R, 1, none⟩ = some (.int .i64 ghi) := by rw [cell_row hRk]; rfl
              have Hob2 := Hob
              clear hRk hBj HG HGP r0 r1
              cases bl with
              | false =>
                have HT := Lib.hid (show plcs zs g (q + 1) = plcs zs g q by rw [Hsx.out]; simp)
                go_wp2_with fail
                go_roundw
                case rel => exact ⟨q + 1, by omega, by go_num, by rw [HT.out]; exact own_keep Ho.out (Keeps.of_new (Mut := fun _ => False) HBj.out) (fun _ _ e => e), Hob.out, HB.out.trans (HBj.out.mono HB.out.size)⟩
                case measure => simp [intOf]; omega
              | true =>
                by_cases e1 : (q : Int) < glo
                · have HT := Lib.hid (show plcs zs g (q + 1) = plcs zs g q ++ [(q : Int)] by rw [Hsx.out]; simp [outP, Hglo.out, e1])
                  have hbz := below_alloc_ wj (.cells #[.int .i64 (q : Int)] 2)
                  have hzz := heap_alloc_new_ wj (.cells #[.int .i64 (q : Int)] 2)
                  have ho3 := own_keep (Mut := fun _ => False) Ho.out (Keeps.of_new (HBj.out.trans (hbz.mono HBj.out.size))) (fun _ _ e => e)
                  obtain ⟨v', W3, hrun, hown3, hK3, hv3⟩ := app_one Try.underlying23 info2s_ rfl (by omega) (by omega) ho3 (vals := [.int .i64 (q : Int)]) rfl hzz (by simp [Value.oneCell']) (by have := plcs_len zs g q; have := HP.out; omega)
                  have hB2 := HB.out.trans ((HBj.out.trans (hbz.mono HBj.out.size)).mono HB.out.size)
                  have hB3 : Below W0.heap.size W0 W3 := hB2.trans (hK3.below hB2.size (fun j hj e => by have := Hob.out j e; omega))
                  have hv4 : ∀ j, v'.ownBlock = some j → W0.heap.size ≤ j := by
                    intro j hj
                    rcases hv3 with e | ⟨e, _⟩
                    · rw [e] at hj; exact Hob.out j hj
                    · rw [e] at hj; cases hj; exact hB2.size
                  have hrun := run_app hrun
                  have HB3 := Lib.hid hB3
                  have HV4 := Lib.hid hv4
                  have HO3 := Lib.hid hown3
                  clear hbz hzz ho3 hown3 hK3 hv3 hB3 hv4 hB2
                  obtain ⟨lq, hlq⟩ : ∃ lq, (plcs zs g q).length = lq := ⟨_, rfl⟩
                  have Hlq := Lib.hid hlq
                  rw [hlq] at HO3
                  clear hlq
                  go_wp2_with fail
                  go_roundw
                  case rel => exact ⟨q + 1, by omega, by go_num, by rw [HT.out, flatI_snoc, List.length_append, Hlq.out]; exact HO3.out, HV4.out, HB3.out⟩
                  case measure => simp [intOf]; omega
                · by_cases e2 : ghi < (q : Int)
                  · have HT := Lib.hid (show plcs zs g (q + 1) = plcs zs g q ++ [(q : Int)] by rw [Hsx.out]; simp [outP, Hghi.out, e2])
                    have hbz := below_alloc_ wj (.cells #[.int .i64 (q : Int)] 2)
                    have hzz := heap_alloc_new_ wj (.cells #[.int .i64 (q : Int)] 2)
                    have ho3 := own_keep (Mut := fun _ => False) Ho.out (Keeps.of_new (HBj.out.trans (hbz.mono HBj.out.size))) (fun _ _ e => e)
                    obtain ⟨v', W3, hrun, hown3, hK3, hv3⟩ := app_one Try.underlying23 info2s_ rfl (by omega) (by omega) ho3 (vals := [.int .i64 (q : Int)]) rfl hzz (by simp [Value.oneCell']) (by have := plcs_len zs g q; have := HP.out; omega)
                    have hB2 := HB.out.trans ((HBj.out.trans (hbz.mono HBj.out.size)).mono HB.out.size)
                    have hB3 : Below W0.heap.size W0 W3 := hB2.trans (hK3.below hB2.size (fun j hj e => by have := Hob.out j e; omega))
                    have hv4 : ∀ j, v'.ownBlock = some j → W0.heap.size ≤ j := by
                      intro j hj
                      rcases hv3 with e | ⟨e, _⟩
                      · rw [e] at hj; exact Hob.out j hj
                      · rw [e] at hj; cases hj; exact hB2.size
                    have hrun := run_app hrun
                    have HB3 := Lib.hid hB3
                    have HV4 := Lib.hid hv4
                    have HO3 := Lib.hid hown3
                    clear hbz hzz ho3 hown3 hK3 hv3 hB3 hv4 hB2
                    obtain ⟨lq, hlq⟩ : ∃ lq, (plcs zs g q).length = lq := ⟨_, rfl⟩
                    have Hlq := Lib.hid hlq
                    rw [hlq] at HO3
                    clear hlq
                    go_wp2_with fail
                    go_roundw
                    case rel => exact ⟨q + 1, by omega, by go_num, by rw [HT.out, flatI_snoc, List.length_append, Hlq.out]; exact HO3.out, HV4.out, HB3.out⟩
                    case measure => simp [intOf]; omega
                  · have HT := Lib.hid (show plcs zs g (q + 1) = plcs zs g q by rw [Hsx.out]; simp [outP, Hglo.out, Hghi.out, e1, e2])
                    go_wp2_with fail
                    go_roundw
                    case rel => exact ⟨q + 1, by omega, by go_num, by rw [HT.out]; exact own_keep Ho.out (Keeps.of_new (Mut := fun _ => False) HBj.out) (fun _ _ e => e), Hob.out, HB.out.trans (HBj.out.mono HB.out.size)⟩
                    case measure => simp [intOf]; omega
    · obtain rfl : q = P := by omega
      have i5 : ¬ (q : Int) ≤ 10000 := by have := HP.out; omega
      obtain ⟨L, hL⟩ : ∃ L, plcs zs g q = L := ⟨_, rfl⟩
      have hLi := plcs_incr zs g q
      have hLl := plcs_len zs g q
      have ho := Ho.out
      rw [hL] at hLi hLl ho
      have HLe := Lib.hid hL
      obtain ⟨m, hm⟩ : ∃ m, L.length = m := ⟨_, rfl⟩
      rw [hm] at ho hLl
      obtain ⟨Cl, cl, rfl, hcl, hil, -⟩ := ints_own hm ho
      have hm1 : m ≤ 10001 := by have := HP.out; omega
      have HLI := Lib.hid hLi
      have HM := Lib.hid hm
      have HIL := Lib.hid hil
      have hmk := make26b m (by omega) wk
      have hk0 := keep_alloc (fun _ => False) wk (.cells (flatI (List.replicate m 0)).toArray 3)
      have hr0 : RowK (wk.alloc (.cells (flatI (List.replicate m 0)).toArray 3)) wk.heap.size (List.replicate m 0) := heap_alloc_new_ _ _
      obtain ⟨w1, hw1⟩ : ∃ w1, wk.alloc (.cells (flatI (List.replicate m 0)).toArray 3) = w1 := ⟨_, rfl⟩
      obtain ⟨D, hD⟩ : ∃ D, wk.heap.size = D := ⟨_, rfl⟩
      rw [hw1] at hmk hk0 hr0
      rw [hD] at hmk hr0
      have HK0 := Lib.hid hk0
      have HR0 := Lib.hid hr0
      have HD := Lib.hid hD
      have hdl : List.replicate m (0 : Int) = List.replicate m 0 := rfl
      clear hL hLi hLl ho hm hcl hil hk0 hr0 hw1 hD hdl Ho Hob hlt hq
      go_wp2_with fail
      clear hmk i5
      have HI0 : Hid (∃ o, TbI zs L D 0 m w1 w1 o ∧ BsI zs L 0 1000) := Lib.hid ⟨_, ⟨HR0.out, by simp, fun j h => absurd h (by omega), Keeps.refl _ _⟩, bs_start _ _⟩
      go_loopw [10, 11, 12, 13, 14] (fun bb kk jj ff mm wr => ∃ k : Nat, k ≤ m ∧ kk = .int .i64 (k : Int) ∧ (∃ bv : Int, bb = .int .i64 bv ∧ Hid (∃ o, TbI zs L D k m w1 wr o ∧ BsI zs L k bv))) (fun bb kk jj ff mm _ => m - (intOf kk).toNat)
      case atStart => exact ⟨0, Nat.zero_le _, rfl, _, rfl, HI0⟩
      case round =>
        obtain ⟨k, hk, rfl, bv, rfl, HI⟩ := hrel
        obtain ⟨wq, rfl⟩ : ∃ wq, wq = wr := ⟨_, rfl⟩
        by_cases hlt : k < m
        · obtain ⟨o, hT, hbs⟩ := HI.out
          have HBS := Lib.hid hbs
          have HTb := Lib.hid hT
          have x0 := hT.row.cell (j := k) (by rw [hT.len]; exact hlt)
          have z0 := hT.row.fz k
          obtain ⟨v9, hv9⟩ : ∃ v, iAt o k = v := ⟨_, rfl⟩
          rw [hv9] at x0
          have i0 : (0 : Int) ≤ (k : Int) := by omega
          have i1 : (k : Int) < (m : Int) := by omega
          clear hT hbs hv9 HI
          have HJ0 : Hid (RowK (wq.setCell ⟨D, k, none⟩ (.int .i64 1000)) D (o.set k (inn zs L o k 0)) ∧ Keeps (fun j => j = D) w1 (wq.setCell ⟨D, k, none⟩ (.int .i64 1000))) := Lib.hid ⟨HTb.out.row.put k 1000, HTb.out.kp.trans (keeps_setCell _ _ _ _)⟩
          have HOK := Lib.hid HTb.out.ok
          have HOL := Lib.hid HTb.out.len
          go_wp2_with fail
          clear x0 z0
          go_loopw [12, 13, 14] (fun jj ff mm wr => ∃ q : Nat, q ≤ k + 1 ∧ (∃ jv : Int, jj = .int .i64 jv ∧ -1 ≤ jv ∧ jv ≤ k ∧ Hid (jv = (q : Int) - 1)) ∧ Hid (RowK wr D (o.set k (inn zs L o k q)) ∧ Keeps (fun j => j = D) w1 wr)) (fun jj ff mm _ => k + 1 - (intOf jj + 1).toNat)
          case atStart => exact ⟨0, Nat.zero_le _, ⟨_, rfl, by omega, by omega, Lib.hid (by omega)⟩, HJ0⟩
          case round =>
            obtain ⟨q2, hq2, ⟨jv, rfl, hj1, hj2, HJV⟩, HJ⟩ := hrel
            obtain ⟨wj, rfl⟩ : ∃ wj, wj = wr := ⟨_, rfl⟩
            by_cases hjk : jv < (k : Int)
            · have hq2k : q2 < k + 1 := by have := HJV.out; omega
              have Hst := Lib.hid (show inn zs L o k (q2 + 1) = if missd zs (frm L q2) (iAt L k) then inn zs L o k q2 else min (inn zs L o k q2) (mny o q2 + 1) from rfl)
              have HFM := Lib.hid (mny_ge (zs := zs) (L := L) (q := q2) HOK.out (by omega))
              have hRS := S.out.below HB.out (Nat.le_refl _)
              have hRz := hRS.keep (HK0.out.none.trans HJ.out.2) (fun b o e h => by
                obtain ⟨b2, o2, e2, hcc⟩ := hRS.2 (by omega)
                rw [e2] at e
                cases e
                have := lt_of_cell (hcc 0 (by omega)).1
                have := HD.out
                omega)
              have hRl : Ints wj Cl m L := by
                refine ⟨HM.out, fun hm0 => ?_⟩
                obtain ⟨b, o9, e, hc⟩ := HIL.out.2 hm0
                refine ⟨b, o9, e, fun j hj => ?_⟩
                have h1 := hc j hj
                have h2 := lt_of_cell h1
                exact (keep_cells (HK0.out.none.trans HJ.out.2) h2 (fun e => by have := HD.out; omega) _).trans h1
              obtain ⟨bl, ol, rfl, hcl⟩ := hRl.2 (by omega)
              have y0 := hcl k hlt
              obtain ⟨pk, hpk⟩ : ∃ pk, iAt L k = pk := ⟨_, rfl⟩
              rw [hpk] at y0 Hst
              have HRZ := Lib.hid hRz
              have HYK := Lib.hid y0
              clear hRS hRz hRl hpk
              by_cases hneg : jv = -1
              · subst hneg
                have hq0 : q2 = 0 := by have := HJV.out; omega
                have hfr : frm L q2 = -1 := by rw [hq0]; rfl
                have hmn : mny o q2 = 0 := by rw [hq0]; rfl
                rw [hfr, hmn] at Hst
                clear hq0 hfr hmn hcl
                go_wp2_with fail
                refine (missed69 A n cap zs (-1) pk wj (HRZ.out) (by omega)).mono ?_
                rintro en W2 ⟨rfl, hb⟩
                have HB5 := Lib.hid hb
                have hrow := HJ.out.1.keep (Mut := fun _ => False) (Keeps.of_new HB5.out) (fun e => e)
                have y5 := hrow.cell (j := k) (by rw [List.length_set, HOL.out]; exact hlt)
                rw [iAt_set _ (by rw [HOL.out]; exact hlt), if_pos rfl] at y5
                have y6 := hrow.fz k
                have HP5 := Lib.hid (fun v => hrow.put k v)
                obtain ⟨iv, hiv⟩ : ∃ iv, inn zs L o k q2 = iv := ⟨_, rfl⟩
                have hib := inn_ge (zs := zs) (L := L) (q := q2) HOK.out (by omega)
                have hic := inn_le zs L o k q2
                rw [hiv] at y5 Hst hib hic HP5
                simp only [List.set_set] at HP5
                have HRI := Lib.hid (show RowK W2 D (o.set k iv) by rw [← hiv]; exact hrow)
                have HK5 := Lib.hid (HJ.out.2.trans (Keeps.of_new HB5.out))
                clear hb hrow hiv y0
                cases hms : missd zs (-1) pk with
                | true =>
                  rw [hms, if_pos rfl] at Hst
                  clear hms
                  go_wp2_with fail
                  go_roundw
                  case rel => exact ⟨q2 + 1, by omega, ⟨_, rfl, by omega, by omega, Lib.hid (by have := HJV.out; omega)⟩, Lib.hid ⟨by rw [Hst.out]; exact HRI.out, HK5.out⟩⟩
                  case measure => (simp [intOf]; try omega)
                | false =>
                  rw [hms, if_neg (by simp)] at Hst
                  clear hms
                  go_wp2_with fail
                  go_roundw
                  case rel => exact ⟨q2 + 1, by omega, ⟨_, rfl, by omega, by omega, Lib.hid (by have := HJV.out; omega)⟩, Lib.hid ⟨by rw [Hst.out]; exact HP5.out _, HK5.out.trans (keeps_setCell _ _ _ _)⟩⟩
                  case measure => (simp [intOf]; try omega)
              · obtain ⟨q3, rfl⟩ : ∃ q3 : Nat, jv = (q3 : Int) := ⟨jv.toNat, by omega⟩
                have hq3 : q2 = q3 + 1 := by have := HJV.out; omega
                have hfr : frm L q2 = iAt L q3 := by rw [hq3]; simp [frm]
                have hmn : mny o q2 = iAt o q3 := by rw [hq3]; simp [mny]
                rw [hmn] at HFM
                rw [hfr, hmn] at Hst
                have y1 := hcl q3 (by omega)
                have y2 := HJ.out.1.cell (j := q3) (by rw [List.length_set, HOL.out]; omega)
                rw [iAt_set _ (by rw [HOL.out]; exact hlt), if_neg (by omega)] at y2
                obtain ⟨fv, hfv⟩ : ∃ fv, iAt L q3 = fv := ⟨_, rfl⟩
                obtain ⟨mv, hmv⟩ : ∃ mv, iAt o q3 = mv := ⟨_, rfl⟩
                rw [hfv] at y1 Hst
                rw [hmv] at y2 Hst HFM
                obtain ⟨mb1, mb2⟩ : 0 ≤ mv ∧ mv ≤ 1000 := HFM.out
                have i3 : (0 : Int) ≤ (q3 : Int) := by omega
                have i4 : (q3 : Int) < (m : Int) := by omega
                clear hq3 hfr hmn hfv hmv hcl hneg hj1
                go_wp2_with fail
                go_quiet (fail)
                clear y1 y2
                go_wp2_with fail
                refine (missed69 A n cap zs fv pk _ (HRZ.out.below (drew_b _ nq) (Nat.le_refl _)) (by omega)).mono ?_
                rintro en W2 ⟨rfl, hb⟩
                have HB5 := Lib.hid ((drew_b wj nq).trans (hb.mono (drew_b wj nq).size))
                have hrow := HJ.out.1.keep (Mut := fun _ => False) (Keeps.of_new HB5.out) (fun e => e)
                have y5 := hrow.cell (j := k) (by rw [List.length_set, HOL.out]; exact hlt)
                rw [iAt_set _ (by rw [HOL.out]; exact hlt), if_pos rfl] at y5
                have y6 := hrow.fz k
                have HP5 := Lib.hid (fun v => hrow.put k v)
                obtain ⟨iv, hiv⟩ : ∃ iv, inn zs L o k q2 = iv := ⟨_, rfl⟩
                have hib := inn_ge (zs := zs) (L := L) (q := q2) HOK.out (by omega)
                have hic := inn_le zs L o k q2
                rw [hiv] at y5 Hst hib hic HP5
                simp only [List.set_set] at HP5
                have HRI := Lib.hid (show RowK W2 D (o.set k iv) by rw [← hiv]; exact hrow)
                have HK5 := Lib.hid (HJ.out.2.trans (Keeps.of_new HB5.out))
                clear hb hrow hiv y0
                cases hms : missd zs fv pk with
                | true =>
                  rw [hms, if_pos rfl] at Hst
                  clear hms
                  go_wp2_with fail
                  go_roundw
                  case rel => exact ⟨q2 + 1, by omega, ⟨_, rfl, by omega, by omega, Lib.hid (by have := HJV.out; omega)⟩, Lib.hid ⟨by rw [Hst.out]; exact HRI.out, HK5.out⟩⟩
                  case measure => (simp [intOf]; try omega)
                | false =>
                  rw [hms, if_neg (by simp)] at Hst
                  clear hms
                  go_wp2_with fail
                  go_roundw
                  case rel => exact ⟨q2 + 1, by omega, ⟨_, rfl, by omega, by omega, Lib.hid (by have := HJV.out; omega)⟩, Lib.hid ⟨by rw [Hst.out]; exact HP5.out _, HK5.out.trans (keeps_setCell _ _ _ _)⟩⟩
                  case measure => (simp [intOf]; try omega)
            · have hqe : q2 = k + 1 := by have := HJV.out; omega
              have HJ2 : Hid (RowK wj D (o.set k (inn zs L o k (k + 1))) ∧ Keeps (fun j => j = D) w1 wj) := by rw [← hqe]; exact HJ
              have HDP := Lib.hid (dp_step (zs := zs) (S := o) HLI.out (by rw [HM.out]; exact hlt) HOK.out)
              obtain ⟨nv, hnv⟩ : ∃ nv, inn zs L o k (k + 1) = nv := ⟨_, rfl⟩
              rw [hnv] at HJ2 HDP
              have hRS := S.out.below HB.out (Nat.le_refl _)
              have hRz := hRS.keep (HK0.out.none.trans HJ2.out.2) (fun b o e h => by
                obtain ⟨b2, o2, e2, hcc⟩ := hRS.2 (by omega)
                rw [e2] at e
                cases e
                have := lt_of_cell (hcc 0 (by omega)).1
                have := HD.out
                omega)
              have hRl : Ints wj Cl m L := by
                refine ⟨HM.out, fun hm0 => ?_⟩
                obtain ⟨b, o9, e, hc⟩ := HIL.out.2 hm0
                refine ⟨b, o9, e, fun j hj => ?_⟩
                have h1 := hc j hj
                have h2 := lt_of_cell h1
                exact (keep_cells (HK0.out.none.trans HJ2.out.2) h2 (fun e => by have := HD.out; omega) _).trans h1
              obtain ⟨bl, ol, rfl, hcl⟩ := hRl.2 (by omega)
              have y0 := hcl k hlt
              have HS2 := Lib.hid (fun h => bs_skip (zs := zs) (L := L) (k := k) HBS.out h)
              have HT2 := Lib.hid (fun h => bs_take (zs := zs) (L := L) (k := k) HBS.out h HDP.out)
              obtain ⟨pk, hpk⟩ : ∃ pk, iAt L k = pk := ⟨_, rfl⟩
              rw [hpk] at y0 HS2 HT2
              have HRZ := Lib.hid hRz
              have HNEW : Hid (∀ W, Below wj.heap.size wj W → TbI zs L D (k + 1) m w1 W (o.set k nv)) := Lib.hid (fun W hW => ⟨HJ2.out.1.keep (Mut := fun _ => False) (Keeps.of_new hW) (fun e => e), by rw [List.length_set]; exact HOL.out, fun j hj => by
                rw [iAt_set _ (by rw [HOL.out]; exact hlt)]
                split
                · next e => subst e; exact HDP.out
                · next e => exact HOK.out j (by omega), HJ2.out.2.trans (Keeps.of_new hW)⟩)
              have HRW := Lib.hid HJ2.out.1
              clear hRS hRz hRl hpk hcl hqe hnv HJ HJ2
              go_wp2_with fail
              refine (missed69 A n cap zs pk 10001 wj HRZ.out (by omega)).mono ?_
              rintro en W2 ⟨rfl, hb⟩
              have HB5 := Lib.hid hb
              have y5 := (HRW.out.keep (Mut := fun _ => False) (Keeps.of_new hb) (fun e => e)).cell (j := k) (by rw [List.length_set, HOL.out]; exact hlt)
              rw [iAt_set _ (by rw [HOL.out]; exact hlt), if_pos rfl] at y5
              clear hb y0
              cases hms : missd zs pk 10001 with
              | true =>
                have HBN := Lib.hid (HS2.out hms)
                clear hms HS2 HT2
                go_wp2_with fail
                go_roundw
                case rel => exact ⟨k + 1, by omega, by go_num, _, rfl, Lib.hid ⟨_, HNEW.out _ HB5.out, HBN.out⟩⟩
                case measure => simp [intOf]; omega
              | false =>
                have HBN := Lib.hid (HT2.out hms)
                clear hms HS2 HT2
                go_wp2_with fail
                go_roundw
                case rel => exact ⟨k + 1, by omega, by go_num, _, rfl, Lib.hid ⟨_, HNEW.out _ HB5.out, HBN.out⟩⟩
                case measure => simp [intOf]; omega
        · obtain rfl : k = m := by omega
          obtain ⟨o, hT, hbs⟩ := HI.out
          have HF := Lib.hid (show BsI zs (plcs zs g q) (plcs zs g q).length bv by rw [HLe.out, HM.out]; exact hbs)
          have HKF := Lib.hid (HK0.out.none.trans hT.kp)
          clear hT hbs HI
          go_wp2_with fail
          go_ret
          refine ⟨bv, HF.out, rfl, B0.out.trans ((HB.out.mono B0.out.size).trans (HKF.out.below (Nat.le_trans B0.out.size HB.out.size) (fun k hk e => ?_)))⟩
          have := HD.out; have := B0.out.size; have := HB.out.size; omega
end Go.Proofs.Ytdfdlklglbefiaa
