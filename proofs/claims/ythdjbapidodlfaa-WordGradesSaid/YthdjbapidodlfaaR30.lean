/- Stage 4: CheckPassage, of the document. -/
import Derived.Test.YthdjbapidodlfaaCp
namespace Go.Proofs.Ythdjbapidodlfaa
set_option linter.unusedSimpArgs false
set_option linter.unusedVariables false
open Go.RowKit Go.Shelf
attribute [local go_sem ↓] exec_app at_app
attribute [local go_sem] Oper.semAt_some

/-- What CheckPassage tells. -/
def ckPs (zs : List Rg) (L p : List (List Int)) : Int := if chkL zs L ≠ 0 then chkL zs L else chkP (cls (prs zs)) L L.length p
set_option maxRecDepth 100000 in
set_option maxHeartbeats 4000000 in
theorem checkPassage29 (A : Option Addr) (n cap : Nat) (zs : List Rg) (A2 : Option Addr) (m cap2 : Nat) (L : List (List Int)) (A3 : Option Addr) (N c3 : Nat) (p : List (List Int)) (w : World) (h : Rgs w A n zs) (hL : Lns w A2 m L) (hP : Lns w A3 N p) (hm : m ≤ 9223372036854775807) :
    Calls Try.prog 29 #[.agg #[.slice A n cap], .slice A2 m cap2, .slice A3 N c3] w fun e w' => e = .returned (.int .i64 (ckPs zs L p)) ∧ Below w.heap.size w w' := by
  have Hlen := Lib.hid hL.1
  have hb0 := below_alloc_ w (.cells #[.slice A n cap] 24)
  have hr0 := heap_alloc_new_ w (.cells #[.slice A n cap] 24)
  obtain ⟨W0, hW0⟩ : ∃ W0, w.alloc (.cells #[.slice A n cap] 24) = W0 := ⟨_, rfl⟩
  obtain ⟨R, hR⟩ : ∃ R, w.heap.size = R := ⟨_, rfl⟩
  rw [hW0] at hb0 hr0
  rw [hR] at hr0
  have S := Lib.hid (h.below hb0 (Nat.le_refl _))
  have X := Lib.hid (hL.below hb0 (Nat.le_refl _))
  have Y := Lib.hid (hP.below hb0 (Nat.le_refl _))
  have B0 := Lib.hid hb0
  have HW0 := Lib.hid hW0
  have HR := Lib.hid hR
  have r0 : W0.cell? ⟨R, 0, none⟩ = some (.slice A n cap) := by rw [cell_row hr0]; rfl
  have Hm := Lib.hid hm
  clear h hL hP hb0 hr0 hW0 hR hm
  go_enter Try.func29, Try.ntmps29
  go_wp2_with fail
  rw [HW0.out]
  try rw [HR.out]
  try go_wp2_with fail
  refine (lay52 A n cap zs A2 m cap2 L W0 S.out X.out Hm.out).mono ?_
  rintro en w1 ⟨hb, (⟨h0, B, D, M, rfl, hbo, hB1, hD1⟩ | ⟨h0, rfl⟩)⟩
  rotate_left
  · have HC := Lib.hid (show ckPs zs L p = chkL zs L by unfold ckPs; rw [if_pos h0])
    obtain ⟨c, hc⟩ : ∃ c, chkL zs L = c := ⟨_, rfl⟩
    rw [hc] at h0 HC ⊢
    have d0 : (c != 0) = true := by rw [bne_iff_ne]; exact h0
    have HB := Lib.hid (B0.out.trans (hb.mono B0.out.size))
    clear hb r0 hc
    go_wp2_with fail
    go_ret
    exact ⟨by rw [HC.out]; rfl, HB.out⟩
  have HB := Lib.hid (B0.out.trans (hb.mono B0.out.size))
  have HC := Lib.hid (show ckPs zs L p = chkP (cls (prs zs)) L m p by unfold ckPs; rw [if_neg (by simpa using h0), Hlen.out])
  have key := Lib.hid (check64 B D A n cap (cls (prs zs)) M A2 m cap2 L A3 N c3 p w1 hbo (lv_of Hlen.out h0) (Y.out.below hb (Nat.le_refl _)))
  clear hb r0 hbo h0 hB1 hD1
  go_wp2_with fail
  refine key.out.mono ?_
  rintro en w2 ⟨rfl, hb2⟩
  have HB2 := Lib.hid (HB.out.trans (hb2.mono HB.out.size))
  clear hb2 key
  go_wp2_with fail
  go_ret
  exact ⟨by rw [HC.out]; rfl, HB2.out⟩
end Go.Proofs.Ythdjbapidodlfaa

namespace Go.Proofs.Ythdjbapidodlfaa
set_option linter.unusedSimpArgs false
set_option linter.unusedVariables false
open Go.RowKit Go.Shelf
attribute [local go_sem ↓] exec_app at_app
attribute [local go_sem] Oper.semAt_some

/-- The word of the hearer h in a match. -/
def wdQ (L : List (List Int)) (q : List Int) (h : Nat) : Int := iAt (lAt L h) (iAt q h).toNat
/-- The document's classes of the words of the first k hearers are that of the first one. -/
def refS (rc : List Int) (L : List (List Int)) (q : List Int) (k : Nat) : Bool := (List.range k).all fun h => decide (iAt rc (wdQ L q h).toNat = iAt rc (wdQ L q 0).toNat)
theorem refS_one (rc : List Int) (L : List (List Int)) (q : List Int) : refS rc L q 1 = true := by simp [refS]
theorem refS_succ (rc : List Int) (L : List (List Int)) (q : List Int) (k : Nat) : refS rc L q (k + 1) = (refS rc L q k && decide (iAt rc (wdQ L q k).toNat = iAt rc (wdQ L q 0).toNat)) := by simp [refS, List.range_succ]
theorem refS_stop (rc : List Int) (L : List (List Int)) (q : List Int) {k m : Nat} (h : iAt rc (wdQ L q k).toNat ≠ iAt rc (wdQ L q 0).toNat) (hk : k < m) : refS rc L q m = false := by
  unfold refS
  rw [List.all_eq_false]
  exact ⟨k, List.mem_range.2 hk, by simpa using h⟩
theorem wdQ_in {L : List (List Int)} {m : Nat} (hL : LV L m) {q : List Int} (h : rngK L q m = true) {k : Nat} (hk : k < m) : ∃ u : Nat, wdQ L q k = (u : Int) ∧ u ≤ 100 := by
  obtain ⟨h1, h2⟩ := rngK_at h hk
  have h3 : (iAt q k).toNat < (lAt L k).length := by omega
  obtain ⟨u, e, _, h4⟩ := hL.wd k hk (iAt (lAt L k) (iAt q k).toNat) (by rw [iAt_eq h3]; exact List.getElem_mem _)
  exact ⟨u, e, h4⟩
theorem wdsK_zero (L : List (List Int)) (q : List Int) {m : Nat} (hm : 0 < m) : iAt (wdsK L q m) 0 = wdQ L q 0 := by
  rw [iAt_eq (by rw [wdsK_len]; exact hm)]
  simp [wdsK, wdQ]
theorem refS_f3 {ps : List (Nat × Nat)} (hin : inW ps) {L : List (List Int)} {m : Nat} (hL : LV L m) {q : List Int} (h : rngK L q m = true) : refS (refC ps) L q m = f3 (cls ps) L m q := by
  have hm := hL.lo
  unfold refS f3 sameB
  rw [wdsK_zero L q (by omega)]
  have e : wdsK L q m = (List.range m).map (wdQ L q) := rfl
  rw [e, List.all_map]
  rw [Bool.eq_iff_iff, List.all_eq_true, List.all_eq_true]
  have key : ∀ k, k < m → ((iAt (refC ps) (wdQ L q k).toNat = iAt (refC ps) (wdQ L q 0).toNat) ↔ (iAt (cls ps) (wdQ L q k).toNat = iAt (cls ps) (wdQ L q 0).toNat)) := fun k hk => by
    obtain ⟨u, e1, h1⟩ := wdQ_in hL h hk
    obtain ⟨v, e2, h2⟩ := wdQ_in hL h (show 0 < m by omega)
    rw [e1, e2, Int.toNat_natCast, Int.toNat_natCast]
    exact refC_cls hin h1 h2
  constructor
  · intro hh k hk
    have := hh k hk
    rw [decide_eq_true_iff] at this
    simpa using (key k (List.mem_range.1 hk)).1 this
  · intro hh k hk
    have := hh k hk
    rw [decide_eq_true_iff]
    exact (key k (List.mem_range.1 hk)).2 (by simpa using this)
set_option maxRecDepth 100000 in
set_option maxHeartbeats 32000000 in
theorem refPassage30 (A : Option Addr) (n cap : Nat) (zs : List Rg) (A2 : Option Addr) (m cap2 : Nat) (L : List (List Int)) (A3 : Option Addr) (N c3 : Nat) (p : List (List Int)) (w : World) (h : Rgs w A n zs) (hL : Lns w A2 m L) (hP : Lns w A3 N p) (hm : m ≤ 9223372036854775807) :
    Calls Try.prog 30 #[.agg #[.slice A n cap], .slice A2 m cap2, .slice A3 N c3] w fun e w' => e = .returned (.int .i64 (ckPs zs L p)) ∧ Below w.heap.size w w' := by
  have Hlen := Lib.hid hL.1
  have HPl := Lib.hid hP.1
  have hb0 := below_alloc_ w (.cells #[.slice A n cap] 24)
  have hr0 := heap_alloc_new_ w (.cells #[.slice A n cap] 24)
  obtain ⟨W0, hW0⟩ : ∃ W0, w.alloc (.cells #[.slice A n cap] 24) = W0 := ⟨_, rfl⟩
  obtain ⟨R, hR⟩ : ∃ R, w.heap.size = R := ⟨_, rfl⟩
  rw [hW0] at hb0 hr0
  rw [hR] at hr0
  have S := Lib.hid (h.below hb0 (Nat.le_refl _))
  have X := Lib.hid (hL.below hb0 (Nat.le_refl _))
  have Y := Lib.hid (hP.below hb0 (Nat.le_refl _))
  have B0 := Lib.hid hb0
  have R0 := Lib.hid hr0
  have HW0 := Lib.hid hW0
  have HR := Lib.hid hR
  have r0 : W0.cell? ⟨R, 0, none⟩ = some (.slice A n cap) := by rw [cell_row hr0]; rfl
  have Hm := Lib.hid hm
  clear h hL hP hb0 hr0 hW0 hR hm
  go_enter Try.func30, Try.ntmps30
  go_wp2_with fail
  rw [HW0.out]
  try rw [HR.out]
  try go_wp2_with fail
  have hcb := refLines22 A n cap zs A2 m cap2 L W0 S.out X.out Hm.out
  by_cases h0 : chkL zs L = 0
  rotate_left
  · have HC := Lib.hid (show ckPs zs L p = chkL zs L by unfold ckPs; rw [if_pos h0])
    have hcb2 := fun w2 (hb : Below W0.heap.size W0 w2) => refLines22 A n cap zs A2 m cap2 L w2 (S.out.below hb (Nat.le_refl _)) (X.out.below hb (Nat.le_refl _)) Hm.out
    obtain ⟨c, hc⟩ : ∃ c, chkL zs L = c := ⟨_, rfl⟩
    rw [hc] at h0 HC hcb
    simp only [hc] at hcb2
    have Hcb2 := Lib.hid hcb2
    have d0 : (c != 0) = true := by rw [bne_iff_ne]; exact h0
    clear hc hcb2
    refine hcb.mono ?_
    rintro en w1 ⟨rfl, hb⟩
    have r1 : w1.cell? ⟨R, 0, none⟩ = some (.slice A n cap) := by rw [cell_row ((hb.block _ (lt_of_block R0.out)).trans R0.out)]; rfl
    have hcb3 := Hcb2.out w1 hb
    have HB := Lib.hid (B0.out.trans (hb.mono B0.out.size))
    clear hb r0 hcb Hcb2
    go_wp2_with fail
    refine hcb3.mono ?_
    rintro en w2 ⟨rfl, hb⟩
    have HB2 := Lib.hid (HB.out.trans (hb.mono HB.out.size))
    clear hb hcb3 r1
    go_wp2_with fail
    go_ret
    exact ⟨by rw [HC.out]; rfl, HB2.out⟩
  rw [h0] at hcb
  have HC0 := Lib.hid (show ckPs zs L p = chkP (cls (prs zs)) L m p by unfold ckPs; rw [if_neg (by simpa using h0), Hlen.out])
  have HL := Lib.hid (lv_of Hlen.out h0)
  have HZ0 := Lib.hid (chkL_zero.1 h0).1
  have HInW := Lib.hid (inW_prs (chkB_zero.1 HZ0.out).2)
  refine hcb.mono ?_
  rintro en w1 ⟨rfl, hb⟩
  replace S := Lib.hid (S.out.below hb (Nat.le_refl _))
  replace X := Lib.hid (X.out.below hb (Nat.le_refl _))
  replace Y := Lib.hid (Y.out.below hb (Nat.le_refl _))
  replace R0 := Lib.hid ((hb.block _ (lt_of_block R0.out)).trans R0.out)
  replace B0 := Lib.hid (B0.out.trans (hb.mono B0.out.size))
  have hm2 := HL.out.lo
  have hm4 := HL.out.hi
  clear hb r0 hcb h0
  by_cases h8 : 8 < N
  · have HC := Lib.hid (show ckPs zs L p = 6 by rw [HC0.out]; unfold chkP; rw [if_pos (by rw [HPl.out]; exact h8)])
    have d1 : (8 : Int) < (N : Int) := by omega
    go_wp2_with fail
    go_ret
    exact ⟨by rw [HC.out]; rfl, B0.out⟩
  have HN8 := Lib.hid (show ¬ 8 < p.length by rw [HPl.out]; exact h8)
  have d1 : ¬ (8 : Int) < (N : Int) := by omega
  go_wp2_with fail
  clear d1
  go_loopw [7] (fun i wr => ∃ k : Nat, k ≤ N ∧ i = .int .i64 (k : Int) ∧ Hid ((p.take k).all (f1 m) = true) ∧ wr = w1) (fun i _ => N - (intOf i).toNat)
  case atStart => exact ⟨0, Nat.zero_le _, rfl, Lib.hid rfl, rfl⟩
  case round =>
    obtain ⟨k, hk, rfl, HT, hwr⟩ := hrel
    obtain ⟨w9, hw9⟩ : ∃ w9, w9 = wr := ⟨_, rfl⟩
    rw [← hwr] at S X Y R0 B0
    rw [← hw9] at S X Y R0 B0 ⊢
    have HW9 := Lib.hid (hw9.trans hwr)
    clear hwr hw9
    by_cases hlt : k < N
    · obtain ⟨b, o, rfl, hc⟩ := Y.out.2 (by omega)
      obtain ⟨C, cq, x0, -, -⟩ := hc k hlt
      have Hs := Lib.hid (all_take (f1 m) p k [] (by rw [HPl.out]; exact hlt))
      have Hf := Lib.hid (fun q => all_stop (f1 m) p k [] (by rw [HPl.out]; exact hlt) q)
      rw [HT.out, Bool.true_and] at Hs
      obtain ⟨ll, hll⟩ : ∃ ll, (lAt p k).length = ll := ⟨_, rfl⟩
      have Hfe := Lib.hid (show f1 m (p.getD k []) = decide (ll = m) by unfold f1; rw [← hll]; rfl)
      rw [hll] at x0
      have i0 : (0 : Int) ≤ (k : Int) := by omega
      have i1 : (k : Int) < (N : Int) := by omega
      clear hc hll HT
      by_cases hq : ll = m
      · rw [Hfe.out, decide_eq_true hq] at Hs
        subst hq
        clear Hf Hfe
        go_wp2_with fail
        go_roundw
        case rel => exact ⟨k + 1, by omega, by go_num, Lib.hid Hs.out, HW9.out⟩
        case measure => simp [intOf]; omega
      · have HC := Lib.hid (show ckPs zs L p = 15 by
          rw [HC0.out]
          unfold chkP
          rw [if_neg HN8.out, if_pos (Hf.out (by rw [Hfe.out, decide_eq_false hq]))])
        have d1 : ((ll : Int) != (m : Int)) = true := by rw [bne_iff_ne]; omega
        clear Hf Hfe Hs hq
        go_wp2_with fail
        go_ret
        exact ⟨by rw [HC.out]; rfl, B0.out⟩
    · have HA1 := Lib.hid (show p.all (f1 m) = true by
        have := HT.out
        rwa [List.take_of_length_le (by have := HPl.out; omega)] at this)
      clear HT HW9
      have HLen := Lib.hid (show ∀ j, j < N → (lAt p j).length = m from fun j hj => by
        have hjl : j < p.length := by have := HPl.out; omega
        have := List.all_eq_true.1 HA1.out (p[j]) (List.getElem_mem hjl)
        rw [lAt_eq hjl]
        simpa [f1] using this)
      go_wp2_with fail
      go_loopw [8, 9] (fun i t wr => ∃ k : Nat, k ≤ N ∧ i = .int .i64 (k : Int) ∧ Hid ((p.take k).all (fun q => rngK L q m) = true) ∧ Hid (Below w9.heap.size w9 wr)) (fun i t _ => N - (intOf i).toNat)
      case atStart => exact ⟨0, Nat.zero_le _, rfl, Lib.hid rfl, Lib.hid (Below.refl _ _)⟩
      case round =>
        obtain ⟨k, hk, rfl, HT, HBl⟩ := hrel
        by_cases hlt : k < N
        · obtain ⟨b, o, hA3, hc⟩ := Y.out.2 (by omega)
          obtain ⟨C, cq, x0, xI, -⟩ := hc k hlt
          rw [HLen.out k hlt] at x0 xI
          have HX0 := Lib.hid x0
          have HI := Lib.hid xI
          have Hs := Lib.hid (all_take (fun q => rngK L q m) p k [] (by rw [HPl.out]; exact hlt))
          have Hf := Lib.hid (fun q => all_stop (fun q => rngK L q m) p k [] (by rw [HPl.out]; exact hlt) q)
          rw [HT.out, Bool.true_and] at Hs
          obtain ⟨q, hq⟩ : ∃ q, lAt p k = q := ⟨_, rfl⟩
          have hq' : p.getD k [] = q := hq
          rw [hq'] at Hs Hf
          rw [hq] at HI
          subst hA3
          have i0 : (0 : Int) ≤ (k : Int) := by omega
          have i1 : (k : Int) < (N : Int) := by omega
          clear hc xI hq hq' HT x0
          go_wp2_with fail
          go_loopw [9] (fun i wr' => ∃ j : Nat, j ≤ m ∧ i = .int .i64 (j : Int) ∧ Hid (rngK L q j = true) ∧ Hid (Below w9.heap.size w9 wr')) (fun i _ => m - (intOf i).toNat)
          case atStart => exact ⟨0, Nat.zero_le _, rfl, Lib.hid rfl, HBl⟩
          case round =>
            obtain ⟨j, hj, rfl, HU, HBj⟩ := hrel
            by_cases hjl : j < m
            · have x0 := (HBj.out.cell (p := ⟨b, o + k, none⟩) (lt_of_cell HX0.out)).trans HX0.out
              obtain ⟨bq, oq, rfl, cqq⟩ := HI.out.2 (by omega)
              have y0 := (HBj.out.cell (p := ⟨bq, oq + j, none⟩) (lt_of_cell (cqq j hjl))).trans (cqq j hjl)
              obtain ⟨bL, oL, rfl, hcL⟩ := X.out.2 (by omega)
              obtain ⟨CL, cL, u0, -, -⟩ := hcL j hjl
              have z0 := (HBj.out.cell (p := ⟨bL, oL + j, none⟩) (lt_of_cell u0)).trans u0
              have l8 := HL.out.le8 j hjl
              obtain ⟨ll, hll⟩ : ∃ ll, (lAt L j).length = ll := ⟨_, rfl⟩
              obtain ⟨x, hx⟩ : ∃ x, iAt q j = x := ⟨_, rfl⟩
              have Ks := Lib.hid (rngK_succ L q j)
              have Kf := Lib.hid (fun e => rngK_stop L q (k := j) (m := m) e hjl)
              rw [HU.out, Bool.true_and] at Ks
              rw [hll] at z0 l8 Ks Kf
              rw [hx] at y0 Ks Kf
              have j0 : (0 : Int) ≤ (j : Int) := by omega
              have j1 : (j : Int) < (m : Int) := by omega
              have q0 : (0 : Int) ≤ (ll : Int) := by omega
              have q8 : (ll : Int) ≤ 8 := by omega
              clear cqq hcL u0 hll hx HU
              cases hok : inB 0 ((ll : Int) - 1) x with
              | true =>
                rw [hok] at Ks
                have hxx := inB_iff.1 hok
                have d1 : ¬ x < 0 := by omega
                have d2 : ¬ (ll : Int) ≤ x := by omega
                clear hok Kf hxx
                go_wp2_with fail
                go_quiet (fail)
                have HBn := Lib.hid (HBj.out.trans ((drew_b _ nq).mono HBj.out.size))
                go_wp2_with fail
                go_roundw
                case rel => exact ⟨j + 1, by omega, by go_num, Lib.hid Ks.out, HBn⟩
                case measure => simp [intOf]; omega
              | false =>
                have HC := Lib.hid (show ckPs zs L p = 3 by
                  rw [HC0.out]
                  unfold chkP
                  rw [if_neg HN8.out, if_neg (by rw [HA1.out]; simp), if_pos (Hf.out (Kf.out hok))])
                clear Kf Ks
                by_cases hx0 : x < 0
                · clear hok
                  go_wp2_with fail
                  go_quiet (fail)
                  have HBn := Lib.hid (HBj.out.trans ((drew_b _ nq).mono HBj.out.size))
                  go_wp2_with fail
                  go_ret
                  exact ⟨by rw [HC.out]; rfl, B0.out.trans (HBn.out.mono B0.out.size)⟩
                · have d2 : (ll : Int) ≤ x := by
                    rcases Int.lt_or_le x ll with e | e
                    · rw [inB_iff.2 ⟨by omega, by omega⟩] at hok; cases hok
                    · exact e
                  clear hok
                  go_wp2_with fail
                  go_quiet (fail)
                  have HBn := Lib.hid (HBj.out.trans ((drew_b _ nq).mono HBj.out.size))
                  go_wp2_with fail
                  go_ret
                  exact ⟨by rw [HC.out]; rfl, B0.out.trans (HBn.out.mono B0.out.size)⟩
            · obtain rfl : j = m := by omega
              have HN := Lib.hid (show (p.take (k + 1)).all (fun q => rngK L q j) = true by rw [Hs.out]; exact HU.out)
              clear HU
              go_wp2_with fail
              go_roundw
              case rel => exact ⟨k + 1, by omega, by go_num, HN, HBj⟩
              case measure => simp [intOf]; omega
        · obtain rfl : k = N := by omega
          have HA2 := Lib.hid (show p.all (fun q => rngK L q m) = true by
            have := HT.out
            rwa [List.take_of_length_le (by have := HPl.out; omega)] at this)
          have r0 : wr.cell? ⟨R, 0, none⟩ = some (.slice A n cap) := by rw [cell_row ((HBl.out.block _ (lt_of_block R0.out)).trans R0.out)]; rfl
          have hcl := classes51 A n cap zs wr (S.out.below HBl.out (Nat.le_refl _)) HZ0.out
          have HBl' := HBl
          clear HT HBl
          go_wp2_with fail
          refine hcl.mono ?_
          rintro en w4 ⟨g, cg, rfl, hi, hgw, hb4⟩
          have HBV := Lib.hid (HBl'.out.trans (hb4.mono HBl'.out.size))
          have HI := Lib.hid hi
          obtain ⟨rc, hrc⟩ : ∃ rc, refC (prs zs) = rc := ⟨_, rfl⟩
          have HF3 := Lib.hid (fun q (hq : rngK L q m = true) => refS_f3 HInW.out HL.out hq)
          rw [hrc] at HI
          simp only [hrc] at HF3
          clear hi hgw hb4 hcl r0 hrc HBl'
          go_wp2_with fail
          go_loopw [11, 12] (fun i t wr => ∃ k' : Nat, k' ≤ k ∧ i = .int .i64 (k' : Int) ∧ Hid ((p.take k').all (fun q => refS rc L q m) = true) ∧ Hid (Below w4.heap.size w4 wr)) (fun i t _ => k - (intOf i).toNat)
          case atStart => exact ⟨0, Nat.zero_le _, rfl, Lib.hid rfl, Lib.hid (Below.refl _ _)⟩
          case round =>
            obtain ⟨N, hN⟩ : ∃ N, k = N := ⟨_, rfl⟩
            subst hN
            obtain ⟨e, he, rfl, HT, HBl⟩ := hrel
            by_cases hlt : e < k
            · obtain ⟨b, o, hA3, hc⟩ := Y.out.2 (by omega)
              obtain ⟨C, cq, x0, xI, -⟩ := hc e hlt
              rw [HLen.out e hlt] at x0 xI
              have HX0 := Lib.hid ((HBV.out.cell (p := ⟨b, o + e, none⟩) (lt_of_cell x0)).trans x0)
              have HQ := Lib.hid (xI.below HBV.out (Nat.le_refl _))
              have Hs := Lib.hid (all_take (fun q => refS rc L q m) p e [] (by rw [HPl.out]; exact hlt))
              have Hf := Lib.hid (fun q => all_stop (f3 (cls (prs zs)) L m) p e [] (by rw [HPl.out]; exact hlt) q)
              rw [HT.out, Bool.true_and] at Hs
              have hrq : rngK L (lAt p e) m = true := by
                have hkl : e < p.length := by have := HPl.out; omega
                rw [lAt_eq hkl]; exact List.all_eq_true.1 HA2.out _ (List.getElem_mem hkl)
              obtain ⟨q, hq⟩ : ∃ q, lAt p e = q := ⟨_, rfl⟩
              have hq' : p.getD e [] = q := hq
              rw [hq'] at Hs Hf
              rw [hq] at HQ hrq
              have HRq := Lib.hid hrq
              subst hA3
              have i0 : (0 : Int) ≤ (e : Int) := by omega
              have i1 : (e : Int) < (k : Int) := by omega
              clear hc xI hq hq' HT x0 hrq
              go_wp2_with fail
              go_loopw [12] (fun i wr' => ∃ j : Nat, 1 ≤ j ∧ j ≤ m ∧ i = .int .i64 (j : Int) ∧ Hid (refS rc L q j = true) ∧ Hid (Below w4.heap.size w4 wr')) (fun i _ => m - (intOf i).toNat)
              case atStart => exact ⟨1, Nat.le_refl _, by omega, rfl, Lib.hid (refS_one _ _ _), HBl⟩
              case round =>
                obtain ⟨j, hj1, hj, rfl, HU, HBj⟩ := hrel
                by_cases hjl : j < m
                · have x0 := (HBj.out.cell (p := ⟨b, o + e, none⟩) (lt_of_cell HX0.out)).trans HX0.out
                  obtain ⟨bq, oq, rfl, cqq⟩ := HQ.out.2 (by omega)
                  have y0 := (HBj.out.cell (p := ⟨bq, oq + j, none⟩) (lt_of_cell (cqq j hjl))).trans (cqq j hjl)
                  have y1 := (HBj.out.cell (p := ⟨bq, oq + 0, none⟩) (lt_of_cell (cqq 0 (by omega)))).trans (cqq 0 (by omega))
                  rw [Nat.add_zero] at y1
                  obtain ⟨bL, oL, rfl, hcL⟩ := X.out.2 (by omega)
                  obtain ⟨CL, cL, u0, uI, -⟩ := hcL j hjl
                  obtain ⟨CM, cM, v0, vI, -⟩ := hcL 0 (by omega)
                  have hBw := HBV.out.trans (HBj.out.mono HBV.out.size)
                  have z0 := (hBw.cell (p := ⟨bL, oL + j, none⟩) (lt_of_cell u0)).trans u0
                  have z1 := (hBw.cell (p := ⟨bL, oL + 0, none⟩) (lt_of_cell v0)).trans v0
                  rw [Nat.add_zero] at z1
                  obtain ⟨h1, h2⟩ := rngK_at HRq.out hjl
                  obtain ⟨h3, h4⟩ := rngK_at HRq.out (show 0 < m by omega)
                  obtain ⟨a, e1, ha⟩ := wdQ_in HL.out HRq.out hjl
                  obtain ⟨a', e2, ha'⟩ := wdQ_in HL.out HRq.out (show 0 < m by omega)
                  have Ks := Lib.hid (refS_succ rc L q j)
                  have Kf := Lib.hid (fun e => refS_stop rc L q (k := j) (m := m) e hjl)
                  rw [HU.out, Bool.true_and] at Ks
                  rw [e1, e2, Int.toNat_natCast, Int.toNat_natCast] at Ks Kf
                  obtain ⟨t, ht⟩ : ∃ t : Nat, iAt q j = (t : Int) := ⟨(iAt q j).toNat, by omega⟩
                  obtain ⟨t', ht'⟩ : ∃ t : Nat, iAt q 0 = (t : Int) := ⟨(iAt q 0).toNat, by omega⟩
                  unfold wdQ at e1 e2
                  rw [ht, Int.toNat_natCast] at e1
                  rw [ht', Int.toNat_natCast] at e2
                  rw [ht] at y0 h2
                  rw [ht'] at y1 h4
                  obtain ⟨ll, hll⟩ : ∃ ll, (lAt L j).length = ll := ⟨_, rfl⟩
                  obtain ⟨l0, hl0⟩ : ∃ ll, (lAt L 0).length = ll := ⟨_, rfl⟩
                  rw [hll] at z0 uI h2
                  rw [hl0] at z1 vI h4
                  obtain ⟨bu, ou, rfl, hcu⟩ := uI.2 (by omega)
                  obtain ⟨bv, ov, rfl, hcv⟩ := vI.2 (by omega)
                  have s0 := (hBw.cell (p := ⟨bu, ou + t, none⟩) (lt_of_cell (hcu t (by omega)))).trans (hcu t (by omega))
                  have s1 := (hBw.cell (p := ⟨bv, ov + t', none⟩) (lt_of_cell (hcv t' (by omega)))).trans (hcv t' (by omega))
                  rw [e1] at s0
                  rw [e2] at s1
                  obtain ⟨bg, og, eg, hcg⟩ := HI.out.2 (by omega)
                  cases eg
                  have g0 := (HBj.out.cell (p := ⟨g, 0 + a, none⟩) (lt_of_cell (hcg a (by omega)))).trans (hcg a (by omega))
                  have g1 := (HBj.out.cell (p := ⟨g, 0 + a', none⟩) (lt_of_cell (hcg a' (by omega)))).trans (hcg a' (by omega))
                  rw [Nat.zero_add] at g0 g1
                  obtain ⟨x, hx⟩ : ∃ x, iAt rc a = x := ⟨_, rfl⟩
                  obtain ⟨y, hy⟩ : ∃ y, iAt rc a' = y := ⟨_, rfl⟩
                  rw [hx] at g0 Ks Kf
                  rw [hy] at g1 Ks Kf
                  have j0 : (0 : Int) ≤ (j : Int) := by omega
                  have j1 : (j : Int) < (m : Int) := by omega
                  have j2 : (0 : Int) < (m : Int) := by omega
                  have k0 : (0 : Int) ≤ (t : Int) := by omega
                  have k0' : (0 : Int) ≤ (t' : Int) := by omega
                  have n0 : (0 : Int) ≤ (a : Int) := by omega
                  have n1 : (a : Int) < 101 := by omega
                  have n0' : (0 : Int) ≤ (a' : Int) := by omega
                  have n1' : (a' : Int) < 101 := by omega
                  clear cqq hcL u0 uI v0 vI hBw h1 h3 e1 e2 ht ht' hll hl0 hcu hcv hcg hx hy HU
                  by_cases hxy : x = y
                  · rw [decide_eq_true hxy] at Ks
                    subst hxy
                    clear Kf
                    go_wp2_with fail
                    go_quiet (fail)
                    have HBn := Lib.hid (HBj.out.trans ((drew_b _ nq).mono HBj.out.size))
                    go_wp2_with fail
                    go_roundw
                    case rel => exact ⟨j + 1, by omega, by omega, by go_num, Lib.hid Ks.out, HBn⟩
                    case measure => simp [intOf]; omega
                  · have HC := Lib.hid (show ckPs zs L p = 20 by
                      rw [HC0.out]
                      unfold chkP
                      rw [if_neg HN8.out, if_neg (by rw [HA1.out]; simp), if_neg (by rw [HA2.out]; simp), if_pos (Hf.out (by rw [← HF3.out q HRq.out]; exact Kf.out hxy))])
                    have d1 : (x != y) = true := by rw [bne_iff_ne]; exact hxy
                    clear Kf Ks
                    go_wp2_with fail
                    go_quiet (fail)
                    have HBn := Lib.hid (HBV.out.trans ((HBj.out.trans ((drew_b _ nq).mono HBj.out.size)).mono HBV.out.size))
                    go_wp2_with fail
                    go_ret
                    exact ⟨by rw [HC.out]; rfl, B0.out.trans (HBn.out.mono B0.out.size)⟩
                · obtain rfl : j = m := by omega
                  have HN := Lib.hid (show (p.take (e + 1)).all (fun q => refS rc L q j) = true by rw [Hs.out]; exact HU.out)
                  clear HU
                  go_wp2_with fail
                  go_roundw
                  case rel => exact ⟨e + 1, by omega, by go_num, HN, HBj⟩
                  case measure => simp [intOf]; omega
            · have HA3 := Lib.hid (show p.all (f3 (cls (prs zs)) L m) = true by
                have h1 := HT.out
                rw [List.take_of_length_le (by have := HPl.out; omega)] at h1
                rw [List.all_eq_true] at h1 ⊢
                intro q hq
                rw [← HF3.out q (List.all_eq_true.1 HA2.out q hq)]
                exact h1 q hq)
              have HPN := Lib.hid (show p.length - 1 = k - 1 by rw [HPl.out])
              have HCR := Lib.hid (fun b (hb : risK p m (k - 1) = b) => show ckPs zs L p = (if b = false then 24 else 0) by
                rw [HC0.out]
                unfold chkP
                rw [if_neg HN8.out, if_neg (by rw [HA1.out]; simp), if_neg (by rw [HA2.out]; simp), if_neg (by rw [HA3.out]; simp), HPN.out, hb])
              clear HT
              go_wp2_with fail
              go_loopw [13] (fun i wr' => ∃ e' : Nat, 1 ≤ e' ∧ (e' ≤ k ∨ e' = 1) ∧ i = .int .i64 (e' : Int) ∧ Hid (risK p m (e' - 1) = true) ∧ Hid (Below w4.heap.size w4 wr')) (fun i _ => k - (intOf i).toNat)
              case atStart => exact ⟨1, Nat.le_refl _, .inr rfl, rfl, Lib.hid rfl, HBl⟩
              clear HBl
              case round =>
                obtain ⟨kk, hk1, hkN, rfl, HT, HBl⟩ := hrel
                by_cases hlt : kk < k
                · obtain ⟨b, o, rfl, hc⟩ := Y.out.2 (by omega)
                  obtain ⟨t, ht⟩ : ∃ t, kk = t + 1 := ⟨kk - 1, by omega⟩
                  obtain ⟨C1, c1, u0, uI, uc⟩ := hc kk hlt
                  obtain ⟨C0, c0, v0, vI, vc⟩ := hc t (by omega)
                  rw [HLen.out kk hlt] at u0 uI
                  rw [HLen.out t (by omega)] at v0 vI
                  have hBw := HBV.out.trans (HBl.out.mono HBV.out.size)
                  replace u0 := (hBw.cell (p := ⟨b, o + kk, none⟩) (lt_of_cell u0)).trans u0
                  replace v0 := (hBw.cell (p := ⟨b, o + t, none⟩) (lt_of_cell v0)).trans v0
                  have hsub : (kk : Int) - 1 = (t : Int) := by omega
                  have t8 : (t : Int) ≤ 8 := by omega
                  have Hs := Lib.hid (show risK p m kk = befB (lAt p t) (lAt p kk) m by
                    have := risK_succ p m t
                    rw [show kk = t + 1 from ht, this, show risK p m t = true by have := HT.out; rwa [show kk - 1 = t by omega] at this, Bool.true_and])
                  have Hf := Lib.hid (show befB (lAt p t) (lAt p kk) m = false → risK p m (k - 1) = false from fun e => risK_stop p (k := t) (by rw [← ht]; exact e) (by omega))
                  have HU := Lib.hid (uI.below hBw (Nat.le_refl _))
                  have HV := Lib.hid (vI.below hBw (Nat.le_refl _))
                  obtain ⟨la, hla⟩ : ∃ la, lAt p t = la := ⟨_, rfl⟩
                  obtain ⟨lb, hlb⟩ : ∃ lb, lAt p kk = lb := ⟨_, rfl⟩
                  rw [hla] at HV Hs Hf
                  rw [hlb] at HU Hs Hf
                  have i0 : (0 : Int) ≤ (kk : Int) := by omega
                  have i1 : (kk : Int) < (k : Int) := by omega
                  have k0 : (0 : Int) ≤ (t : Int) := by omega
                  have k1 : (t : Int) < (k : Int) := by omega
                  clear hc uI vI hla hlb ht HT uc vc hBw
                  cases hbb : befB la lb m with
                  | true =>
                    have HBe := Lib.hid hbb
                    have HN := Lib.hid (show risK p m (kk + 1 - 1) = true by rw [Nat.add_sub_cancel, Hs.out]; exact hbb)
                    clear hbb Hf Hs
                    go_wp2_with fail
                    refine wp_region_held_drew (S := fun w2 => Below wr.heap.size wr w2) (by kernel_rfl) (drew_b _ _) (fun hS0 => ?_)
                    refine wpAnyH_take (i := 0) (oi := { dst := some 124, op := Go.Op.move (Go.Operand.tmp 2), type := 31, pos := "ref.go:141", after := #[], guard := none }) (v := .slice (some ⟨b, o, none⟩) k c3) rfl (by kernel_rfl) (by kernel_rfl) (by kernel_rfl) (fun _ _ _ h => h) (Or.inl ⟨by rfl, by intro w2 hSw; (try dsimp only at hSw); go_simp⟩) hS0 ?_
                    try simp only [Act.put, List.setIfInBounds_toArray, List.set_cons_zero, List.set_cons_succ]
                    refine wpAnyH_take (i := 1) (oi := { dst := some 125, op := Go.Op.move (Go.Operand.tmp 13), type := 3, pos := "ref.go:141", after := #[], guard := none }) (v := .int .i64 (kk : Int)) rfl (by kernel_rfl) (by kernel_rfl) (by kernel_rfl) (fun _ _ _ h => h) (Or.inl ⟨by rfl, by intro w2 hSw; (try dsimp only at hSw); go_simp⟩) hS0 ?_
                    try simp only [Act.put, List.setIfInBounds_toArray, List.set_cons_zero, List.set_cons_succ]
                    refine wpAnyH_take (i := 2) (oi := { dst := some 126, op := Go.Op.binOp Go.BinOp.sub 3 (Go.Operand.tmp 125) (Go.Operand.const (Go.Value.int Go.IntKind.i64 1)) 3, type := 3, pos := "ref.go:141", after := #[{ on := 1, ground := Go.Ground.data }], guard := none }) (v := .int .i64 (t : Int)) rfl (by kernel_rfl) (by kernel_rfl) (by kernel_rfl) (fun _ _ _ h => h) (Or.inl ⟨by rfl, by intro w2 hSw; (try dsimp only at hSw); go_simp; try exact IntWalk.i64_in _ (by omega)⟩) hS0 ?_
                    try simp only [Act.put, List.setIfInBounds_toArray, List.set_cons_zero, List.set_cons_succ]
                    refine wpAnyH_take (i := 3) (oi := { dst := some 127, op := Go.Op.indexAddr 31 (Go.Operand.tmp 124) (Go.Operand.tmp 126), type := 0, pos := "ref.go:141", after := #[{ on := 0, ground := Go.Ground.data }, { on := 2, ground := Go.Ground.data }], guard := none }) (v := .pointer (some ⟨b, o + t, none⟩)) rfl (by kernel_rfl) (by kernel_rfl) (by kernel_rfl) (fun _ _ _ h => h) (Or.inl ⟨by rfl, by intro w2 hSw; (try dsimp only at hSw); go_simp⟩) hS0 ?_
                    try simp only [Act.put, List.setIfInBounds_toArray, List.set_cons_zero, List.set_cons_succ]
                    refine wpAnyH_take (i := 4) (oi := { dst := some 128, op := Go.Op.load 40 (Go.Operand.tmp 127), type := 40, pos := "ref.go:141", after := #[{ on := 3, ground := Go.Ground.data }], guard := none }) (v := .slice C0 m c0) rfl (by kernel_rfl) (by kernel_rfl) (by kernel_rfl) (fun _ _ _ h => h) (Or.inl ⟨by rfl, by intro w2 hSw; (try dsimp only at hSw); have y0 := (hSw.cell (p := _) (lt_of_cell v0)).trans v0; go_simp⟩) hS0 ?_
                    try simp only [Act.put, List.setIfInBounds_toArray, List.set_cons_zero, List.set_cons_succ]
                    refine wpAnyH_take (i := 5) (oi := { dst := some 129, op := Go.Op.move (Go.Operand.tmp 2), type := 31, pos := "ref.go:141", after := #[], guard := none }) (v := .slice (some ⟨b, o, none⟩) k c3) rfl (by kernel_rfl) (by kernel_rfl) (by kernel_rfl) (fun _ _ _ h => h) (Or.inl ⟨by rfl, by intro w2 hSw; (try dsimp only at hSw); go_simp⟩) hS0 ?_
                    try simp only [Act.put, List.setIfInBounds_toArray, List.set_cons_zero, List.set_cons_succ]
                    refine wpAnyH_take (i := 6) (oi := { dst := some 130, op := Go.Op.move (Go.Operand.tmp 13), type := 3, pos := "ref.go:141", after := #[], guard := none }) (v := .int .i64 (kk : Int)) rfl (by kernel_rfl) (by kernel_rfl) (by kernel_rfl) (fun _ _ _ h => h) (Or.inl ⟨by rfl, by intro w2 hSw; (try dsimp only at hSw); go_simp⟩) hS0 ?_
                    try simp only [Act.put, List.setIfInBounds_toArray, List.set_cons_zero, List.set_cons_succ]
                    refine wpAnyH_take (i := 7) (oi := { dst := some 131, op := Go.Op.indexAddr 31 (Go.Operand.tmp 129) (Go.Operand.tmp 130), type := 0, pos := "ref.go:141", after := #[{ on := 5, ground := Go.Ground.data }, { on := 6, ground := Go.Ground.data }], guard := none }) (v := .pointer (some ⟨b, o + kk, none⟩)) rfl (by kernel_rfl) (by kernel_rfl) (by kernel_rfl) (fun _ _ _ h => h) (Or.inl ⟨by rfl, by intro w2 hSw; (try dsimp only at hSw); go_simp⟩) hS0 ?_
                    try simp only [Act.put, List.setIfInBounds_toArray, List.set_cons_zero, List.set_cons_succ]
                    refine wpAnyH_take (i := 8) (oi := { dst := some 132, op := Go.Op.load 40 (Go.Operand.tmp 131), type := 40, pos := "ref.go:141", after := #[{ on := 7, ground := Go.Ground.data }], guard := none }) (v := .slice C1 m c1) rfl (by kernel_rfl) (by kernel_rfl) (by kernel_rfl) (fun _ _ _ h => h) (Or.inl ⟨by rfl, by intro w2 hSw; (try dsimp only at hSw); have y0 := (hSw.cell (p := _) (lt_of_cell u0)).trans u0; go_simp⟩) hS0 ?_
                    try simp only [Act.put, List.setIfInBounds_toArray, List.set_cons_zero, List.set_cons_succ]
                    refine wpAnyH_ready (rs := [9]) (by kernel_rfl) (by simp) ?_
                    refine AllReadyH.cons (o := { dst := some 133, op := Go.Op.call { callee := Go.Callee.value (Go.Operand.func 63), args := #[Go.Operand.tmp 128, Go.Operand.tmp 132], argTypes := #[40, 40] }, type := 4, pos := "ref.go:141", after := #[{ on := 4, ground := Go.Ground.data }, { on := 8, ground := Go.Ground.data }], guard := none }) rfl (fun K hK => ?_) AllReadyH.nil
                    go_simp
                    have key := before63 C0 m c0 la C1 m c1 lb _ (HV.out.below hS0 (Nat.le_refl _)) (HU.out.below hS0 (Nat.le_refl _)) (Nat.le_refl _) (by omega)
                    rw [HBe.out] at key
                    refine key.mono ?_
                    rintro e9 V9 ⟨rfl, hV9⟩
                    try go_simp
                    refine hK.out _ _ (hS0.trans (hV9.mono hS0.size)) (fun hS1 => ?_)
                    clear hK
                    try simp only [Act.put, List.setIfInBounds_toArray, List.set_cons_zero, List.set_cons_succ]
                    refine wpAnyH_take (i := 10) (oi := { dst := some 134, op := Go.Op.unOp Go.UnOp.not 4 (Go.Operand.tmp 133), type := 4, pos := "ref.go:141", after := #[{ on := 9, ground := Go.Ground.data }], guard := none }) (v := .bool false) rfl (by kernel_rfl) (by kernel_rfl) (by kernel_rfl) (fun _ _ _ h => h) (Or.inl ⟨by rfl, by intro w2 hSw; (try dsimp only at hSw); go_simp⟩) hS1 ?_
                    try simp only [Act.put, List.setIfInBounds_toArray, List.set_cons_zero, List.set_cons_succ]
                    refine wpAnyH_done (by kernel_rfl) ?_ _
                    go_wp2_with fail
                    go_roundw
                    case rel => exact ⟨kk + 1, by omega, .inl (by omega), by go_num, HN, Lib.hid (HBl.out.trans (hS1.mono HBl.out.size))⟩
                    case measure => simp [intOf]; omega
                  | false =>
                    have HBe := Lib.hid hbb
                    have HC := Lib.hid (show ckPs zs L p = 24 by rw [HCR.out false (Hf.out hbb)]; rfl)
                    clear hbb Hf Hs
                    go_wp2_with fail
                    refine wp_region_held_drew (S := fun w2 => Below wr.heap.size wr w2) (by kernel_rfl) (drew_b _ _) (fun hS0 => ?_)
                    refine wpAnyH_take (i := 0) (oi := { dst := some 124, op := Go.Op.move (Go.Operand.tmp 2), type := 31, pos := "ref.go:141", after := #[], guard := none }) (v := .slice (some ⟨b, o, none⟩) k c3) rfl (by kernel_rfl) (by kernel_rfl) (by kernel_rfl) (fun _ _ _ h => h) (Or.inl ⟨by rfl, by intro w2 hSw; (try dsimp only at hSw); go_simp⟩) hS0 ?_
                    try simp only [Act.put, List.setIfInBounds_toArray, List.set_cons_zero, List.set_cons_succ]
                    refine wpAnyH_take (i := 1) (oi := { dst := some 125, op := Go.Op.move (Go.Operand.tmp 13), type := 3, pos := "ref.go:141", after := #[], guard := none }) (v := .int .i64 (kk : Int)) rfl (by kernel_rfl) (by kernel_rfl) (by kernel_rfl) (fun _ _ _ h => h) (Or.inl ⟨by rfl, by intro w2 hSw; (try dsimp only at hSw); go_simp⟩) hS0 ?_
                    try simp only [Act.put, List.setIfInBounds_toArray, List.set_cons_zero, List.set_cons_succ]
                    refine wpAnyH_take (i := 2) (oi := { dst := some 126, op := Go.Op.binOp Go.BinOp.sub 3 (Go.Operand.tmp 125) (Go.Operand.const (Go.Value.int Go.IntKind.i64 1)) 3, type := 3, pos := "ref.go:141", after := #[{ on := 1, ground := Go.Ground.data }], guard := none }) (v := .int .i64 (t : Int)) rfl (by kernel_rfl) (by kernel_rfl) (by kernel_rfl) (fun _ _ _ h => h) (Or.inl ⟨by rfl, by intro w2 hSw; (try dsimp only at hSw); go_simp; try exact IntWalk.i64_in _ (by omega)⟩) hS0 ?_
                    try simp only [Act.put, List.setIfInBounds_toArray, List.set_cons_zero, List.set_cons_succ]
                    refine wpAnyH_take (i := 3) (oi := { dst := some 127, op := Go.Op.indexAddr 31 (Go.Operand.tmp 124) (Go.Operand.tmp 126), type := 0, pos := "ref.go:141", after := #[{ on := 0, ground := Go.Ground.data }, { on := 2, ground := Go.Ground.data }], guard := none }) (v := .pointer (some ⟨b, o + t, none⟩)) rfl (by kernel_rfl) (by kernel_rfl) (by kernel_rfl) (fun _ _ _ h => h) (Or.inl ⟨by rfl, by intro w2 hSw; (try dsimp only at hSw); go_simp⟩) hS0 ?_
                    try simp only [Act.put, List.setIfInBounds_toArray, List.set_cons_zero, List.set_cons_succ]
                    refine wpAnyH_take (i := 4) (oi := { dst := some 128, op := Go.Op.load 40 (Go.Operand.tmp 127), type := 40, pos := "ref.go:141", after := #[{ on := 3, ground := Go.Ground.data }], guard := none }) (v := .slice C0 m c0) rfl (by kernel_rfl) (by kernel_rfl) (by kernel_rfl) (fun _ _ _ h => h) (Or.inl ⟨by rfl, by intro w2 hSw; (try dsimp only at hSw); have y0 := (hSw.cell (p := _) (lt_of_cell v0)).trans v0; go_simp⟩) hS0 ?_
                    try simp only [Act.put, List.setIfInBounds_toArray, List.set_cons_zero, List.set_cons_succ]
                    refine wpAnyH_take (i := 5) (oi := { dst := some 129, op := Go.Op.move (Go.Operand.tmp 2), type := 31, pos := "ref.go:141", after := #[], guard := none }) (v := .slice (some ⟨b, o, none⟩) k c3) rfl (by kernel_rfl) (by kernel_rfl) (by kernel_rfl) (fun _ _ _ h => h) (Or.inl ⟨by rfl, by intro w2 hSw; (try dsimp only at hSw); go_simp⟩) hS0 ?_
                    try simp only [Act.put, List.setIfInBounds_toArray, List.set_cons_zero, List.set_cons_succ]
                    refine wpAnyH_take (i := 6) (oi := { dst := some 130, op := Go.Op.move (Go.Operand.tmp 13), type := 3, pos := "ref.go:141", after := #[], guard := none }) (v := .int .i64 (kk : Int)) rfl (by kernel_rfl) (by kernel_rfl) (by kernel_rfl) (fun _ _ _ h => h) (Or.inl ⟨by rfl, by intro w2 hSw; (try dsimp only at hSw); go_simp⟩) hS0 ?_
                    try simp only [Act.put, List.setIfInBounds_toArray, List.set_cons_zero, List.set_cons_succ]
                    refine wpAnyH_take (i := 7) (oi := { dst := some 131, op := Go.Op.indexAddr 31 (Go.Operand.tmp 129) (Go.Operand.tmp 130), type := 0, pos := "ref.go:141", after := #[{ on := 5, ground := Go.Ground.data }, { on := 6, ground := Go.Ground.data }], guard := none }) (v := .pointer (some ⟨b, o + kk, none⟩)) rfl (by kernel_rfl) (by kernel_rfl) (by kernel_rfl) (fun _ _ _ h => h) (Or.inl ⟨by rfl, by intro w2 hSw; (try dsimp only at hSw); go_simp⟩) hS0 ?_
                    try simp only [Act.put, List.setIfInBounds_toArray, List.set_cons_zero, List.set_cons_succ]
                    refine wpAnyH_take (i := 8) (oi := { dst := some 132, op := Go.Op.load 40 (Go.Operand.tmp 131), type := 40, pos := "ref.go:141", after := #[{ on := 7, ground := Go.Ground.data }], guard := none }) (v := .slice C1 m c1) rfl (by kernel_rfl) (by kernel_rfl) (by kernel_rfl) (fun _ _ _ h => h) (Or.inl ⟨by rfl, by intro w2 hSw; (try dsimp only at hSw); have y0 := (hSw.cell (p := _) (lt_of_cell u0)).trans u0; go_simp⟩) hS0 ?_
                    try simp only [Act.put, List.setIfInBounds_toArray, List.set_cons_zero, List.set_cons_succ]
                    refine wpAnyH_ready (rs := [9]) (by kernel_rfl) (by simp) ?_
                    refine AllReadyH.cons (o := { dst := some 133, op := Go.Op.call { callee := Go.Callee.value (Go.Operand.func 63), args := #[Go.Operand.tmp 128, Go.Operand.tmp 132], argTypes := #[40, 40] }, type := 4, pos := "ref.go:141", after := #[{ on := 4, ground := Go.Ground.data }, { on := 8, ground := Go.Ground.data }], guard := none }) rfl (fun K hK => ?_) AllReadyH.nil
                    go_simp
                    have key := before63 C0 m c0 la C1 m c1 lb _ (HV.out.below hS0 (Nat.le_refl _)) (HU.out.below hS0 (Nat.le_refl _)) (Nat.le_refl _) (by omega)
                    rw [HBe.out] at key
                    refine key.mono ?_
                    rintro e9 V9 ⟨rfl, hV9⟩
                    try go_simp
                    refine hK.out _ _ (hS0.trans (hV9.mono hS0.size)) (fun hS1 => ?_)
                    clear hK
                    try simp only [Act.put, List.setIfInBounds_toArray, List.set_cons_zero, List.set_cons_succ]
                    refine wpAnyH_take (i := 10) (oi := { dst := some 134, op := Go.Op.unOp Go.UnOp.not 4 (Go.Operand.tmp 133), type := 4, pos := "ref.go:141", after := #[{ on := 9, ground := Go.Ground.data }], guard := none }) (v := .bool true) rfl (by kernel_rfl) (by kernel_rfl) (by kernel_rfl) (fun _ _ _ h => h) (Or.inl ⟨by rfl, by intro w2 hSw; (try dsimp only at hSw); go_simp⟩) hS1 ?_
                    try simp only [Act.put, List.setIfInBounds_toArray, List.set_cons_zero, List.set_cons_succ]
                    refine wpAnyH_done (by kernel_rfl) ?_ _
                    go_wp2_with fail
                    go_ret
                    exact ⟨by rw [HC.out]; rfl, B0.out.trans ((HBV.out.trans ((HBl.out.trans (hS1.mono HBl.out.size)).mono HBV.out.size)).mono B0.out.size)⟩
                · have HC := Lib.hid (show ckPs zs L p = 0 by
                    rw [HCR.out true (by
                      rcases hkN with e | e
                      · have e2 : kk = k := by omega
                        rw [← e2]; exact HT.out
                      · have e2 : k - 1 = 0 := by omega
                        rw [e2]; rfl)]
                    rfl)
                  have d1 : ¬ (kk : Int) < (k : Int) := by omega
                  clear HT
                  go_wp2_with fail
                  go_ret
                  exact ⟨by rw [HC.out]; rfl, B0.out.trans ((HBV.out.trans (HBl.out.mono HBV.out.size)).mono B0.out.size)⟩
end Go.Proofs.Ythdjbapidodlfaa
