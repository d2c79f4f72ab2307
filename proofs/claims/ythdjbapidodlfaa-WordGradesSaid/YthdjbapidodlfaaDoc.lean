/- Stage 4: the document's Longest, Count, Certain and Grades. -/
import Derived.Test.YthdjbapidodlfaaZm
import Derived.Test.YthdjbapidodlfaaAl67
import Derived.Deep.RegionHeld3
namespace Go.Proofs.Ythdjbapidodlfaa
set_option linter.unusedSimpArgs false
set_option linter.unusedVariables false
open Go.RowKit Go.Shelf
section
attribute [local go_sem ↓] exec_app at_app
attribute [local go_sem] Oper.semAt_some
theorem lng_bound {nm : List Int} {L : List (List Int)} {m : Nat} (hL : LV L m) (h : (mtS nm L).length ≤ 16) : (lngS nm L m).length ≤ 68719476736 := by
 have h1 := chs_bound (l := (mtS nm L).map (·.take m)) (m := m) (by rw [List.length_map]; exact h) (topK nm L m)
 rw [chs_map, List.length_map] at h1
 exact Nat.le_trans h1 (Nat.le_trans (Nat.pow_le_pow_right (by omega) (topK_le9 hL)) (by decide))
set_option maxRecDepth 100000 in
set_option maxHeartbeats 40000000 in
theorem refLongest33 (A : Option Addr) (n cap : Nat) (zs : List Rg) (A2 : Option Addr) (m cap2 : Nat) (L : List (List Int)) (w : World) (h : Rgs w A n zs) (hL : Lns w A2 m L) (hm : m ≤ 9223372036854775807) (h16 : chkL zs L = 0 → (mtS (cls (prs zs)) L).length ≤ 16) :
  Calls Try.prog 33 #[.agg #[.slice A n cap], .slice A2 m cap2] w fun e w' => Below w.heap.size w w' ∧
   ((chkL zs L = 0 ∧ ∃ C N c, e = .returned (.tuple #[.slice C N c, .int .i64 0]) ∧ Lns w' C N ((fstS (cls (prs zs)) L m (mtS (cls (prs zs)) L)).map (·.take m))) ∨
   (chkL zs L ≠ 0 ∧ e = .returned (.tuple #[.slice none 0 0, .int .i64 (chkL zs L)]))) := by
 have Hlen := Lib.hid hL.1
 have hb0 := below_alloc_ w (.cells #[.slice A n cap] 24)
 have hr0 := heap_alloc_new_ w (.cells #[.slice A n cap] 24)
 obtain ⟨W0, hW0⟩ : ∃ W0, w.alloc (.cells #[.slice A n cap] 24) = W0 := ⟨_, rfl⟩
 obtain ⟨R, hR⟩ : ∃ R, w.heap.size = R := ⟨_, rfl⟩
 rw [hW0] at hb0 hr0
 rw [hR] at hr0
 have S := Lib.hid (h.below hb0 (Nat.le_refl _))
 have X := Lib.hid (hL.below hb0 (Nat.le_refl _))
 have B0 := Lib.hid hb0
 have R0 := Lib.hid hr0
 have HW0 := Lib.hid hW0
 have HR := Lib.hid hR
 have r0 : W0.cell? ⟨R, 0, none⟩ = some (.slice A n cap) := by rw [cell_row hr0]; rfl
 have Hm := Lib.hid hm
 have H16 := Lib.hid h16
 clear h hL hb0 hr0 hW0 hR hm h16
 go_enter Try.func33, Try.ntmps33
 go_wp2_with fail
 rw [HW0.out]
 try rw [HR.out]
 try go_wp2_with fail
 have hcb := refLines22 A n cap zs A2 m cap2 L W0 S.out X.out Hm.out
 by_cases h0 : chkL zs L = 0
 rotate_left
 ·have hcb2 := fun w2 (hb : Below W0.heap.size W0 w2) => refLines22 A n cap zs A2 m cap2 L w2 (S.out.below hb (Nat.le_refl _)) (X.out.below hb (Nat.le_refl _)) Hm.out
  obtain ⟨c, hc⟩ : ∃ c, chkL zs L = c := ⟨_, rfl⟩
  rw [hc] at h0 hcb
  simp only [hc] at hcb2
  have Hcb2 := Lib.hid hcb2
  have Hc := Lib.hid hc
  have H0 := Lib.hid h0
  have d0 : (c != 0) = true := by rw [bne_iff_ne]; exact h0
  clear hc hcb2 h0
  refine hcb.mono ?_
  rintro en w1 ⟨rfl, hb⟩
  have r1 : w1.cell? ⟨R, 0, none⟩ = some (.slice A n cap) := by rw [cell_row ((hb.block _ (lt_of_block R0.out)).trans R0.out)]; rfl
  have hcb3 := Hcb2.out w1 hb
  have HB := Lib.hid (B0.out.trans (hb.mono B0.out.size))
  clear hb r0 hcb Hcb2
  go_wp2_with fail
  refine hcb3.mono ?_
  rintro en w2 ⟨rfl, hb⟩
  have HB2 := Lib.hid (HB.out.trans (hb.mono HB.out.size))
  clear hb hcb3 r1
  go_wp2_with fail
  refine bodyPost_ret (v := .tuple #[.slice none 0 0, .int .i64 c]) (by simp [results, Try.results33, go_sem]) rfl ?_
  exact ⟨HB2.out, .inr ⟨by rw [Hc.out]; exact H0.out, by rw [Hc.out]⟩⟩
 rw [h0] at hcb
 refine hcb.mono ?_
 rintro en w1 ⟨rfl, hb⟩
 have r1 : w1.cell? ⟨R, 0, none⟩ = some (.slice A n cap) := by rw [cell_row ((hb.block _ (lt_of_block R0.out)).trans R0.out)]; rfl
 replace S := Lib.hid (S.out.below hb (Nat.le_refl _))
 replace X := Lib.hid (X.out.below hb (Nat.le_refl _))
 have H0 := Lib.hid h0
 have HB := Lib.hid (B0.out.trans (hb.mono B0.out.size))
 have HLV := Lib.hid (lv_of Hlen.out h0)
 have hm4 := HLV.out.hi
 have hm2 := HLV.out.lo
 obtain ⟨nm, hnm⟩ : ∃ nm, cls (prs zs) = nm := ⟨_, rfl⟩
 have Hnm := Lib.hid hnm
 clear hb r0 hcb h0 hnm
 have key := allLongest67 A n cap zs A2 m cap2 L w1 S.out X.out H0.out (H16.out H0.out)
 rw [Hnm.out] at key
 have Key := Lib.hid key
 clear key
 go_wp2_with fail
 refine Key.out.mono ?_
 rintro en w2 ⟨C, N, c, rfl, hp0, hb⟩
 have hp : Pss w2 C N (aLp nm L m) := hp0
 have HP := Lib.hid hp
 have HB2 := Lib.hid (HB.out.trans (hb.mono HB.out.size))
 have hpos := aLp_pos (nm := nm) HLV.out
 rw [hp.1] at hpos
 obtain ⟨b, rfl, hc⟩ := hp.2 hpos
 obtain ⟨D, c2, q0, hl, -⟩ := hc 0 hpos
 rw [aLp_head HLV.out] at q0 hl
 obtain ⟨pq, hpq⟩ : ∃ pq, (fstS nm L m (mtS nm L)).map (·.take m) = pq := ⟨_, rfl⟩
 rw [hpq] at q0 hl
 obtain ⟨K, hK⟩ : ∃ K, pq.length = K := ⟨_, rfl⟩
 rw [hK] at q0 hl
 have Hpq := Lib.hid hpq
 have HLp := Lib.hid hl
 have i1 : (0 : Int) < (N : Int) := by omega
 clear hp hp0 hb hc hl hpq hK Key
 go_wp2_with fail
 refine bodyPost_ret (v := .tuple #[.slice D K c2, .int .i64 0]) (by simp [results, Try.results33, go_sem]) rfl ?_
 exact ⟨HB2.out, .inl ⟨H0.out, D, K, c2, rfl, by rw [Hnm.out, Hpq.out]; exact HLp.out⟩⟩
set_option maxRecDepth 100000 in
set_option maxHeartbeats 40000000 in
theorem refCount35 (A : Option Addr) (n cap : Nat) (zs : List Rg) (A2 : Option Addr) (m cap2 : Nat) (L : List (List Int)) (w : World) (h : Rgs w A n zs) (hL : Lns w A2 m L) (hm : m ≤ 9223372036854775807) (h16 : chkL zs L = 0 → (mtS (cls (prs zs)) L).length ≤ 16) :
  Calls Try.prog 35 #[.agg #[.slice A n cap], .slice A2 m cap2] w fun e w' => Below w.heap.size w w' ∧
   ((chkL zs L = 0 ∧ e = .returned (.tuple #[.int .i64 (cntS (allK (mtS (cls (prs zs)) L) m)), .int .i64 0])) ∨
   (chkL zs L ≠ 0 ∧ e = .returned (.tuple #[.int .i64 0, .int .i64 (chkL zs L)]))) := by
 have Hlen := Lib.hid hL.1
 have hb0 := below_alloc_ w (.cells #[.slice A n cap] 24)
 have hr0 := heap_alloc_new_ w (.cells #[.slice A n cap] 24)
 obtain ⟨W0, hW0⟩ : ∃ W0, w.alloc (.cells #[.slice A n cap] 24) = W0 := ⟨_, rfl⟩
 obtain ⟨R, hR⟩ : ∃ R, w.heap.size = R := ⟨_, rfl⟩
 rw [hW0] at hb0 hr0
 rw [hR] at hr0
 have S := Lib.hid (h.below hb0 (Nat.le_refl _))
 have X := Lib.hid (hL.below hb0 (Nat.le_refl _))
 have B0 := Lib.hid hb0
 have R0 := Lib.hid hr0
 have HW0 := Lib.hid hW0
 have HR := Lib.hid hR
 have r0 : W0.cell? ⟨R, 0, none⟩ = some (.slice A n cap) := by rw [cell_row hr0]; rfl
 have Hm := Lib.hid hm
 have H16 := Lib.hid h16
 clear h hL hb0 hr0 hW0 hR hm h16
 go_enter Try.func35, Try.ntmps35
 go_wp2_with fail
 rw [HW0.out]
 try rw [HR.out]
 try go_wp2_with fail
 have hcb := refLines22 A n cap zs A2 m cap2 L W0 S.out X.out Hm.out
 by_cases h0 : chkL zs L = 0
 rotate_left
 ·have hcb2 := fun w2 (hb : Below W0.heap.size W0 w2) => refLines22 A n cap zs A2 m cap2 L w2 (S.out.below hb (Nat.le_refl _)) (X.out.below hb (Nat.le_refl _)) Hm.out
  obtain ⟨c, hc⟩ : ∃ c, chkL zs L = c := ⟨_, rfl⟩
  rw [hc] at h0 hcb
  simp only [hc] at hcb2
  have Hcb2 := Lib.hid hcb2
  have Hc := Lib.hid hc
  have H0 := Lib.hid h0
  have d0 : (c != 0) = true := by rw [bne_iff_ne]; exact h0
  clear hc hcb2 h0
  refine hcb.mono ?_
  rintro en w1 ⟨rfl, hb⟩
  have r1 : w1.cell? ⟨R, 0, none⟩ = some (.slice A n cap) := by rw [cell_row ((hb.block _ (lt_of_block R0.out)).trans R0.out)]; rfl
  have hcb3 := Hcb2.out w1 hb
  have HB := Lib.hid (B0.out.trans (hb.mono B0.out.size))
  clear hb r0 hcb Hcb2
  go_wp2_with fail
  refine hcb3.mono ?_
  rintro en w2 ⟨rfl, hb⟩
  have HB2 := Lib.hid (HB.out.trans (hb.mono HB.out.size))
  clear hb hcb3 r1
  go_wp2_with fail
  refine bodyPost_ret (v := .tuple #[.int .i64 0, .int .i64 c]) (by simp [results, Try.results35, go_sem]) rfl ?_
  exact ⟨HB2.out, .inr ⟨by rw [Hc.out]; exact H0.out, by rw [Hc.out]⟩⟩
 rw [h0] at hcb
 refine hcb.mono ?_
 rintro en w1 ⟨rfl, hb⟩
 have r1 : w1.cell? ⟨R, 0, none⟩ = some (.slice A n cap) := by rw [cell_row ((hb.block _ (lt_of_block R0.out)).trans R0.out)]; rfl
 replace S := Lib.hid (S.out.below hb (Nat.le_refl _))
 replace X := Lib.hid (X.out.below hb (Nat.le_refl _))
 have H0 := Lib.hid h0
 have HB := Lib.hid (B0.out.trans (hb.mono B0.out.size))
 have HLV := Lib.hid (lv_of Hlen.out h0)
 have hm4 := HLV.out.hi
 have hm2 := HLV.out.lo
 obtain ⟨nm, hnm⟩ : ∃ nm, cls (prs zs) = nm := ⟨_, rfl⟩
 have Hnm := Lib.hid hnm
 clear hb r0 hcb h0 hnm
 have key := allLongest67 A n cap zs A2 m cap2 L w1 S.out X.out H0.out (H16.out H0.out)
 rw [Hnm.out] at key
 have Key := Lib.hid key
 clear key
 go_wp2_with fail
 refine Key.out.mono ?_
 rintro en w2 ⟨C, N, c, rfl, hp0, hb⟩
 have hp : Pss w2 C N (aLp nm L m) := hp0
 have HP := Lib.hid hp
 have HB2 := Lib.hid (HB.out.trans (hb.mono HB.out.size))
 have hcn : (N : Int) = cntS (allK (mtS nm L) m) := by rw [← lng_cnt HLV.out, ← aLp_len, hp.1]
 have Hcn := Lib.hid hcn
 clear hp hp0 hb hcn Key
 go_wp2_with fail
 refine bodyPost_ret (v := .tuple #[.int .i64 (N : Int), .int .i64 0]) (by simp [results, Try.results35, go_sem]) rfl ?_
 exact ⟨HB2.out, .inl ⟨H0.out, by rw [Hnm.out, ← Hcn.out]⟩⟩
set_option maxRecDepth 100000 in
set_option maxHeartbeats 40000000 in
theorem refCertain37 (A : Option Addr) (n cap : Nat) (zs : List Rg) (A2 : Option Addr) (m cap2 : Nat) (L : List (List Int)) (w : World) (h : Rgs w A n zs) (hL : Lns w A2 m L) (hm : m ≤ 9223372036854775807) (h16 : chkL zs L = 0 → (mtS (cls (prs zs)) L).length ≤ 16) :
  Calls Try.prog 37 #[.agg #[.slice A n cap], .slice A2 m cap2] w fun e w' => Below w.heap.size w w' ∧
   ((chkL zs L = 0 ∧ ∃ C N c, e = .returned (.tuple #[.slice C N c, .int .i64 0]) ∧ Lns w' C N ((crtS (cls (prs zs)) L m (mtS (cls (prs zs)) L)).map (·.take m))) ∨
   (chkL zs L ≠ 0 ∧ e = .returned (.tuple #[.slice none 0 0, .int .i64 (chkL zs L)]))) := by
 have Hlen := Lib.hid hL.1
 have hb0 := below_alloc_ w (.cells #[.slice A n cap] 24)
 have hr0 := heap_alloc_new_ w (.cells #[.slice A n cap] 24)
 obtain ⟨W0, hW0⟩ : ∃ W0, w.alloc (.cells #[.slice A n cap] 24) = W0 := ⟨_, rfl⟩
 obtain ⟨R, hR⟩ : ∃ R, w.heap.size = R := ⟨_, rfl⟩
 rw [hW0] at hb0 hr0
 rw [hR] at hr0
 have S := Lib.hid (h.below hb0 (Nat.le_refl _))
 have X := Lib.hid (hL.below hb0 (Nat.le_refl _))
 have B0 := Lib.hid hb0
 have R0 := Lib.hid hr0
 have HW0 := Lib.hid hW0
 have HR := Lib.hid hR
 have r0 : W0.cell? ⟨R, 0, none⟩ = some (.slice A n cap) := by rw [cell_row hr0]; rfl
 have Hm := Lib.hid hm
 have H16 := Lib.hid h16
 clear h hL hb0 hr0 hW0 hR hm h16
 go_enter Try.func37, Try.ntmps37
 go_wp2_with fail
 rw [HW0.out]
 try rw [HR.out]
 try go_wp2_with fail
 have hcb := refLines22 A n cap zs A2 m cap2 L W0 S.out X.out Hm.out
 by_cases h0 : chkL zs L = 0
 rotate_left
 ·have hcb2 := fun w2 (hb : Below W0.heap.size W0 w2) => refLines22 A n cap zs A2 m cap2 L w2 (S.out.below hb (Nat.le_refl _)) (X.out.below hb (Nat.le_refl _)) Hm.out
  obtain ⟨c, hc⟩ : ∃ c, chkL zs L = c := ⟨_, rfl⟩
  rw [hc] at h0 hcb
  simp only [hc] at hcb2
  have Hcb2 := Lib.hid hcb2
  have Hc := Lib.hid hc
  have H0 := Lib.hid h0
  have d0 : (c != 0) = true := by rw [bne_iff_ne]; exact h0
  clear hc hcb2 h0
  refine hcb.mono ?_
  rintro en w1 ⟨rfl, hb⟩
  have r1 : w1.cell? ⟨R, 0, none⟩ = some (.slice A n cap) := by rw [cell_row ((hb.block _ (lt_of_block R0.out)).trans R0.out)]; rfl
  have hcb3 := Hcb2.out w1 hb
  have HB := Lib.hid (B0.out.trans (hb.mono B0.out.size))
  clear hb r0 hcb Hcb2
  go_wp2_with fail
  refine hcb3.mono ?_
  rintro en w2 ⟨rfl, hb⟩
  have HB2 := Lib.hid (HB.out.trans (hb.mono HB.out.size))
  clear hb hcb3 r1
  go_wp2_with fail
  refine bodyPost_ret (v := .tuple #[.slice none 0 0, .int .i64 c]) (by simp [results, Try.results37, go_sem]) rfl ?_
  exact ⟨HB2.out, .inr ⟨by rw [Hc.out]; exact H0.out, by rw [Hc.out]⟩⟩
 rw [h0] at hcb
 refine hcb.mono ?_
 rintro en w1 ⟨rfl, hb⟩
 have r1 : w1.cell? ⟨R, 0, none⟩ = some (.slice A n cap) := by rw [cell_row ((hb.block _ (lt_of_block R0.out)).trans R0.out)]; rfl
 replace S := Lib.hid (S.out.below hb (Nat.le_refl _))
 replace X := Lib.hid (X.out.below hb (Nat.le_refl _))
 have H0 := Lib.hid h0
 have HB := Lib.hid (B0.out.trans (hb.mono B0.out.size))
 have HLV := Lib.hid (lv_of Hlen.out h0)
 have hm4 := HLV.out.hi
 have hm2 := HLV.out.lo
 obtain ⟨nm, hnm⟩ : ∃ nm, cls (prs zs) = nm := ⟨_, rfl⟩
 have Hnm := Lib.hid hnm
 clear hb r0 hcb h0 hnm
 obtain ⟨l, hl⟩ : ∃ l, (mtS nm L).map (·.take m) = l := ⟨_, rfl⟩
 have Hl := Lib.hid hl
 have hls : ∀ j, j < l.length → (lAt l j).length = m := by
  rw [← hl, List.length_map]
  exact take_lens HLV.out
 have hcd := crt_doc (nm := nm) HLV.out
 rw [hl] at hcd
 have hN16 : l.length ≤ 16 := by
  rw [← hl, List.length_map]
  have := H16.out H0.out
  rw [Hnm.out] at this
  exact this
 obtain ⟨N, hN⟩ : ∃ N, l.length = N := ⟨_, rfl⟩
 rw [hN] at hls hcd hN16
 have Hll := Lib.hid hN
 have Hls := Lib.hid hls
 have Hcd := Lib.hid hcd
 clear hl hN hls hcd
 go_wp2_with fail
 refine wp_region_held_drew (S := fun w2 => Below w1.heap.size w1 w2) (by kernel_rfl) (drew_b _ _) (fun hS0 => ?_)
 refine wpAnyH_take (i := 0) (oi := { dst := some 19, op := Go.Op.load 24 (Go.Operand.tmp 2), type := 24, pos := "ref.go:260", after := #[], guard := none }) (v := .agg #[.slice A n cap]) rfl (by kernel_rfl) (by kernel_rfl) (by kernel_rfl) (fun _ _ _ h => h) (Or.inl ⟨by rfl, by intro w2 hSw; (try dsimp only at hSw); have e0 := (hSw.cell (p := _) (lt_of_cell r1)).trans r1; go_simp⟩) hS0 ?_
 try simp only [Act.put, List.setIfInBounds_toArray, List.set_cons_zero, List.set_cons_succ]
 refine wpAnyH_take (i := 1) (oi := { dst := some 20, op := Go.Op.move (Go.Operand.tmp 1), type := 25, pos := "ref.go:260", after := #[], guard := none }) (v := .slice A2 m cap2) rfl (by kernel_rfl) (by kernel_rfl) (by kernel_rfl) (fun _ _ _ h => h) (Or.inl ⟨by rfl, by intro w2 hSw; (try dsimp only at hSw); go_simp⟩) hS0 ?_
 try simp only [Act.put, List.setIfInBounds_toArray, List.set_cons_zero, List.set_cons_succ]
 refine wpAnyH_take (i := 3) (oi := { dst := some 22, op := Go.Op.load 24 (Go.Operand.tmp 2), type := 24, pos := "ref.go:260", after := #[], guard := none }) (v := .agg #[.slice A n cap]) rfl (by kernel_rfl) (by kernel_rfl) (by kernel_rfl) (fun _ _ _ h => h) (Or.inl ⟨by rfl, by intro w2 hSw; (try dsimp only at hSw); have e0 := (hSw.cell (p := _) (lt_of_cell r1)).trans r1; go_simp⟩) hS0 ?_
 try simp only [Act.put, List.setIfInBounds_toArray, List.set_cons_zero, List.set_cons_succ]
 refine wpAnyH_take (i := 4) (oi := { dst := some 23, op := Go.Op.move (Go.Operand.tmp 1), type := 25, pos := "ref.go:260", after := #[], guard := none }) (v := .slice A2 m cap2) rfl (by kernel_rfl) (by kernel_rfl) (by kernel_rfl) (fun _ _ _ h => h) (Or.inl ⟨by rfl, by intro w2 hSw; (try dsimp only at hSw); go_simp⟩) hS0 ?_
 try simp only [Act.put, List.setIfInBounds_toArray, List.set_cons_zero, List.set_cons_succ]
 refine wpAnyH_ready (rs := [2]) (by kernel_rfl) (by simp) ?_
 refine AllReadyH.cons (o := { dst := some 21, op := Go.Op.call { callee := Go.Callee.value (Go.Operand.func 56), args := #[Go.Operand.tmp 19, Go.Operand.tmp 20], argTypes := #[24, 25] }, type := 31, pos := "ref.go:260", after := #[{ on := 0, ground := Go.Ground.data }, { on := 1, ground := Go.Ground.data }], guard := none }) rfl (fun K2 hK => ?_) AllReadyH.nil
 go_simp
 have key := all56 A n cap zs A2 m cap2 L _ (S.out.below hS0 (Nat.le_refl _)) (X.out.below hS0 (Nat.le_refl _)) H0.out
 rw [allS_all Hlen.out H0.out, Hnm.out, Hl.out] at key
 refine key.mono ?_
 rintro e9 V1 ⟨Cl, cl, rfl, hl9, -, hb9⟩
 rw [Hll.out] at hl9 ⊢
 have HL2 := Lib.hid hl9
 (try go_simp)
 refine hK.out _ _ (hS0.trans (hb9.mono hS0.size)) (fun hS1 => ?_)
 clear hK K2 hb9 hl9 key
 try simp only [Act.put, List.setIfInBounds_toArray, List.set_cons_zero, List.set_cons_succ]
 refine wpAnyH_ready (rs := [5]) (by kernel_rfl) (by simp) ?_
 refine AllReadyH.cons (o := { dst := some 24, op := Go.Op.call { callee := Go.Callee.value (Go.Operand.func 67), args := #[Go.Operand.tmp 22, Go.Operand.tmp 23], argTypes := #[24, 25] }, type := 101, pos := "ref.go:260", after := #[{ on := 3, ground := Go.Ground.data }, { on := 4, ground := Go.Ground.data }, { on := 2, ground := Go.Ground.chain }], guard := none }) rfl (fun K2 hK => ?_) AllReadyH.nil
 go_simp
 have key := allLongest67 A n cap zs A2 m cap2 L _ (S.out.below hS1 (Nat.le_refl _)) (X.out.below hS1 (Nat.le_refl _)) H0.out (H16.out H0.out)
 rw [Hnm.out] at key
 refine key.mono ?_
 rintro e9 V2 ⟨Ca, P, ca, rfl, hp, hb9⟩
 have HP2 := Lib.hid (show Pss V2 Ca P (aLp nm L m) from hp)
 replace HL2 := Lib.hid (HL2.out.below hb9 (Nat.le_refl _))
 (try go_simp)
 refine hK.out _ _ (hS1.trans (hb9.mono hS1.size)) (fun hS2 => ?_)
 clear hK K2 hb9 hp key
 try simp only [Act.put, List.setIfInBounds_toArray, List.set_cons_zero, List.set_cons_succ]
 refine wpAnyH_take (i := 6) (oi := { dst := some 6, op := Go.Op.assign (Go.Operand.tmp 21), type := 31, pos := "ref.go:260", after := #[{ on := 2, ground := Go.Ground.data }, { on := 5, ground := Go.Ground.chain }, { on := 0, ground := Go.Ground.phase }, { on := 1, ground := Go.Ground.phase }, { on := 2, ground := Go.Ground.phase }, { on := 3, ground := Go.Ground.textOnly Go.Departure.lateStores }, { on := 4, ground := Go.Ground.textOnly Go.Departure.lateStores }, { on := 5, ground := Go.Ground.textOnly Go.Departure.lateStoresUnsure }], guard := none }) (v := .slice Cl N cl) rfl (by kernel_rfl) (by kernel_rfl) (by kernel_rfl) (fun _ _ _ h => h) (Or.inl ⟨by rfl, by intro w2 hSw; (try dsimp only at hSw); go_simp⟩) hS2 ?_
 try simp only [Act.put, List.setIfInBounds_toArray, List.set_cons_zero, List.set_cons_succ]
 refine wpAnyH_take (i := 7) (oi := { dst := some 7, op := Go.Op.assign (Go.Operand.tmp 24), type := 101, pos := "ref.go:260", after := #[{ on := 5, ground := Go.Ground.data }, { on := 6, ground := Go.Ground.chain }, { on := 0, ground := Go.Ground.phase }, { on := 1, ground := Go.Ground.phase }, { on := 2, ground := Go.Ground.phase }, { on := 3, ground := Go.Ground.phase }, { on := 4, ground := Go.Ground.phase }, { on := 5, ground := Go.Ground.phase }, { on := 6, ground := Go.Ground.phase }], guard := none }) (v := .slice Ca P ca) rfl (by kernel_rfl) (by kernel_rfl) (by kernel_rfl) (fun _ _ _ h => h) (Or.inl ⟨by rfl, by intro w2 hSw; (try dsimp only at hSw); go_simp⟩) hS2 ?_
 try simp only [Act.put, List.setIfInBounds_toArray, List.set_cons_zero, List.set_cons_succ]
 refine wpAnyH_done (by kernel_rfl) ?_ _
 have HB2 := Lib.hid (HB.out.trans (hS2.mono HB.out.size))
 clear hS0 hS1 hS2 r1
 obtain ⟨ps, hps⟩ : ∃ ps, aLp nm L m = ps := ⟨_, rfl⟩
 have Hpq := Lib.hid (fun j (hj : j < ps.length) => lg_lens (p := psAt ps j) HLV.out (by rw [← hps] at hj ⊢; exact aLp_mem j hj))
 rw [hps] at HP2 Hcd
 have HPl := Lib.hid HP2.out.1
 have hPb : P ≤ 68719476736 := by rw [← HPl.out, ← hps, aLp_len]; exact lng_bound HLV.out (by have := H16.out H0.out; rw [Hnm.out] at this; exact this)
 clear hps
 obtain ⟨N0, hN0⟩ : ∃ N0, V2.heap.size = N0 := ⟨_, rfl⟩
 have HN0 := Lib.hid hN0
 clear hN0
 go_wp2_with fail
 go_loopw [8, 9, 10, 11] (fun o i b5 n5 wr => ∃ t : Nat, t ≤ N ∧ i = .int .i64 (t : Int) ∧ Hid (Cho N0 N0 wr o (filK ps l t) ∧ Below N0 V2 wr)) (fun o i b5 n5 _ => N - (intOf i).toNat)
 case atStart => exact ⟨0, Nat.zero_le _, rfl, Lib.hid ⟨by rw [filK_zero]; exact Cho.nil _ _ _, Below.refl _ _⟩⟩
 case round =>
  obtain ⟨t, ht, rfl, HI⟩ := hrel
  obtain ⟨wi, rfl⟩ : ∃ wi, wi = wr := ⟨_, rfl⟩
  by_cases htl : t < N
  ·obtain ⟨bl, ol, rfl, hcl⟩ := (HL2.out.below HI.out.2 (by rw [HN0.out]; exact Nat.le_refl _)).2 (by omega)
   obtain ⟨Cx, cx, x1, hIx, hcx⟩ := hcl t htl
   rw [Hls.out t htl] at x1 hIx hcx
   have HIx := Lib.hid hIx
   have Hcx := Lib.hid hcx
   have i0 : (0 : Int) ≤ (t : Int) := by omega
   have i1 : (t : Int) < (N : Int) := by omega
   have HNi := Lib.hid (show N0 ≤ wi.heap.size by have := HI.out.2.size; have := HN0.out; omega)
   have HCx := Lib.hid (show ∀ b o, Cx = some ⟨b, o, none⟩ → b < N0 by
    obtain ⟨bl', ol', e', hcl'⟩ := HL2.out.2 (by omega)
    cases e'
    obtain ⟨Cx', cx', x1', hIx', -⟩ := hcl' t htl
    have e3 := (HI.out.2.cell (p := ⟨bl, ol + t, none⟩) (by have := lt_of_cell x1'; have := HN0.out; show bl < N0; omega)).trans x1'
    rw [x1] at e3
    cases e3
    intro b o e
    obtain ⟨b', o', e', hcell⟩ := hIx'.2 (by rw [Hls.out t htl]; omega)
    rw [e] at e'
    cases e'
    have := lt_of_cell (hcell 0 (by rw [Hls.out t htl]; omega))
    have := HN0.out
    omega)
   clear hcl hIx hcx
   go_wp2_with fail
   go_loopw [10, 11] (fun b5 n5 wr => ∃ k : Nat, k ≤ P ∧ n5 = .int .i64 (k : Int) ∧ b5 = .bool (allB ps (lAt l t) k) ∧ Hid (Below wi.heap.size wi wr)) (fun b5 n5 _ => P - (intOf n5).toNat)
   case atStart => exact ⟨0, Nat.zero_le _, rfl, by rw [allB_zero], Lib.hid (Below.refl _ _)⟩
   case round =>
    obtain ⟨k, hk, rfl, hb5, HJ⟩ := hrel
    obtain ⟨wk, rfl⟩ : ∃ wk, wk = wr := ⟨_, rfl⟩
    by_cases hkl : k < P
    ·have hsx := allB_succ (ps := ps) (x := lAt l t) (k := k) (by rw [HPl.out]; exact hkl)
     obtain ⟨ba, rfl, hca⟩ := (HP2.out.below HI.out.2 (by rw [HN0.out]; exact Nat.le_refl _)).2 (by omega)
     obtain ⟨Dk, ck, q1, hLk, -⟩ := hca k hkl
     have hpm := Hpq.out k (by rw [HPl.out]; exact hkl)
     obtain ⟨pk, hpk⟩ : ∃ pk, (psAt ps k).length = pk := ⟨_, rfl⟩
     rw [hpk] at q1 hLk
     have q0 := (HJ.out.cell (p := ⟨ba, k, none⟩) (lt_of_cell q1)).trans q1
     have x0 := (HJ.out.cell (p := ⟨bl, ol + t, none⟩) (lt_of_cell x1)).trans x1
     have HLk := Lib.hid (hLk.below HJ.out (Nat.le_refl _))
     have HLx := Lib.hid (HIx.out.below HJ.out (Nat.le_refl _))
     have Hpm := Lib.hid hpm
     have Hpk := Lib.hid hpk
     have j0 : (0 : Int) ≤ (k : Int) := by omega
     have j1 : (k : Int) < (P : Int) := by omega
     obtain ⟨bk, hbk⟩ : ∃ bk, allB ps (lAt l t) k = bk := ⟨_, rfl⟩
     rw [hbk] at hb5 hsx
     subst hb5
     obtain ⟨bb, hbb⟩ : ∃ bb, hasB (psAt ps k) (lAt l t) = bb := ⟨_, rfl⟩
     rw [hbb] at hsx
     have Hhb := Lib.hid hbb
     have Hsx := Lib.hid hsx
     clear hca q1 hLk hpm hpk hbk hbb hsx
     cases bk with
     | false =>
      go_wp2_with fail
      refine wp_region_held_drew (S := fun w2 => Below wk.heap.size wk w2) (by kernel_rfl) (drew_b _ _) (fun hS0 => ?_)
      refine wpAnyH_take (i := 0) (oi := { dst := some 37, op := Go.Op.move (Go.Operand.tmp 10), type := 4, pos := "ref.go:265", after := #[], guard := none }) (v := .bool false) rfl (by kernel_rfl) (by kernel_rfl) (by kernel_rfl) (fun _ _ _ h => h) (Or.inl ⟨by rfl, by intro w2 hSw; (try dsimp only at hSw); go_simp⟩) hS0 ?_
      try simp only [Act.put, List.setIfInBounds_toArray, List.set_cons_zero, List.set_cons_succ]
      refine wpAnyH_take (i := 1) (oi := { dst := some 38, op := Go.Op.move (Go.Operand.tmp 37), type := 4, pos := "ref.go:265", after := #[{ on := 0, ground := Go.Ground.data }], guard := none }) (v := .bool false) rfl (by kernel_rfl) (by kernel_rfl) (by kernel_rfl) (fun _ _ _ h => h) (Or.inl ⟨by rfl, by intro w2 hSw; (try dsimp only at hSw); go_simp⟩) hS0 ?_
      try simp only [Act.put, List.setIfInBounds_toArray, List.set_cons_zero, List.set_cons_succ]
      refine wpAnyH_take (i := 2) (oi := { dst := some 39, op := Go.Op.move (Go.Operand.tmp 7), type := 101, pos := "ref.go:265", after := #[{ on := 1, ground := Go.Ground.guard }], guard := some (1, true) }) (v := undef) rfl (by kernel_rfl) (by kernel_rfl) (by kernel_rfl) (fun _ _ _ h => h) (Or.inr ⟨by rfl, rfl⟩) hS0 ?_
      try simp only [Act.put, List.setIfInBounds_toArray, List.set_cons_zero, List.set_cons_succ]
      refine wpAnyH_take (i := 3) (oi := { dst := some 40, op := Go.Op.move (Go.Operand.tmp 11), type := 3, pos := "ref.go:265", after := #[{ on := 1, ground := Go.Ground.guard }], guard := some (1, true) }) (v := undef) rfl (by kernel_rfl) (by kernel_rfl) (by kernel_rfl) (fun _ _ _ h => h) (Or.inr ⟨by rfl, rfl⟩) hS0 ?_
      try simp only [Act.put, List.setIfInBounds_toArray, List.set_cons_zero, List.set_cons_succ]
      refine wpAnyH_take (i := 4) (oi := { dst := some 41, op := Go.Op.indexAddr 101 (Go.Operand.tmp 39) (Go.Operand.tmp 40), type := 0, pos := "ref.go:265", after := #[{ on := 2, ground := Go.Ground.data }, { on := 3, ground := Go.Ground.data }, { on := 1, ground := Go.Ground.guard }], guard := some (1, true) }) (v := undef) rfl (by kernel_rfl) (by kernel_rfl) (by kernel_rfl) (fun _ _ _ h => h) (Or.inr ⟨by rfl, rfl⟩) hS0 ?_
      try simp only [Act.put, List.setIfInBounds_toArray, List.set_cons_zero, List.set_cons_succ]
      refine wpAnyH_take (i := 5) (oi := { dst := some 42, op := Go.Op.load 31 (Go.Operand.tmp 41), type := 31, pos := "ref.go:265", after := #[{ on := 4, ground := Go.Ground.data }, { on := 1, ground := Go.Ground.guard }], guard := some (1, true) }) (v := undef) rfl (by kernel_rfl) (by kernel_rfl) (by kernel_rfl) (fun _ _ _ h => h) (Or.inr ⟨by rfl, rfl⟩) hS0 ?_
      try simp only [Act.put, List.setIfInBounds_toArray, List.set_cons_zero, List.set_cons_succ]
      refine wpAnyH_take (i := 6) (oi := { dst := some 43, op := Go.Op.move (Go.Operand.tmp 6), type := 31, pos := "ref.go:265", after := #[{ on := 1, ground := Go.Ground.guard }], guard := some (1, true) }) (v := undef) rfl (by kernel_rfl) (by kernel_rfl) (by kernel_rfl) (fun _ _ _ h => h) (Or.inr ⟨by rfl, rfl⟩) hS0 ?_
      try simp only [Act.put, List.setIfInBounds_toArray, List.set_cons_zero, List.set_cons_succ]
      refine wpAnyH_take (i := 7) (oi := { dst := some 44, op := Go.Op.move (Go.Operand.tmp 9), type := 3, pos := "ref.go:265", after := #[{ on := 1, ground := Go.Ground.guard }], guard := some (1, true) }) (v := undef) rfl (by kernel_rfl) (by kernel_rfl) (by kernel_rfl) (fun _ _ _ h => h) (Or.inr ⟨by rfl, rfl⟩) hS0 ?_
      try simp only [Act.put, List.setIfInBounds_toArray, List.set_cons_zero, List.set_cons_succ]
      refine wpAnyH_take (i := 8) (oi := { dst := some 45, op := Go.Op.indexAddr 31 (Go.Operand.tmp 43) (Go.Operand.tmp 44), type := 0, pos := "ref.go:265", after := #[{ on := 6, ground := Go.Ground.data }, { on := 7, ground := Go.Ground.data }, { on := 1, ground := Go.Ground.guard }], guard := some (1, true) }) (v := undef) rfl (by kernel_rfl) (by kernel_rfl) (by kernel_rfl) (fun _ _ _ h => h) (Or.inr ⟨by rfl, rfl⟩) hS0 ?_
      try simp only [Act.put, List.setIfInBounds_toArray, List.set_cons_zero, List.set_cons_succ]
      refine wpAnyH_take (i := 9) (oi := { dst := some 46, op := Go.Op.load 40 (Go.Operand.tmp 45), type := 40, pos := "ref.go:265", after := #[{ on := 8, ground := Go.Ground.data }, { on := 1, ground := Go.Ground.guard }], guard := some (1, true) }) (v := undef) rfl (by kernel_rfl) (by kernel_rfl) (by kernel_rfl) (fun _ _ _ h => h) (Or.inr ⟨by rfl, rfl⟩) hS0 ?_
      try simp only [Act.put, List.setIfInBounds_toArray, List.set_cons_zero, List.set_cons_succ]
      refine wpAnyH_take (i := 10) (oi := { dst := some 47, op := Go.Op.call { callee := Go.Callee.value (Go.Operand.func 42), args := #[Go.Operand.tmp 42, Go.Operand.tmp 46], argTypes := #[31, 40] }, type := 4, pos := "ref.go:265", after := #[{ on := 5, ground := Go.Ground.data }, { on := 9, ground := Go.Ground.data }, { on := 1, ground := Go.Ground.chain }, { on := 1, ground := Go.Ground.guard }], guard := some (1, true) }) (v := undef) rfl (by kernel_rfl) (by kernel_rfl) (by kernel_rfl) (fun _ _ _ h => h) (Or.inr ⟨by rfl, rfl⟩) hS0 ?_
      try simp only [Act.put, List.setIfInBounds_toArray, List.set_cons_zero, List.set_cons_succ]
      refine wpAnyH_take (i := 11) (oi := { dst := some 48, op := Go.Op.pick (Go.Operand.tmp 38) (Go.Operand.tmp 47) (Go.Operand.const (Go.Value.bool false)), type := 4, pos := "ref.go:265", after := #[{ on := 1, ground := Go.Ground.data }, { on := 10, ground := Go.Ground.data }], guard := none }) (v := .bool false) rfl (by kernel_rfl) (by kernel_rfl) (by kernel_rfl) (fun _ _ _ h => h) (Or.inl ⟨by rfl, by intro w2 hSw; (try dsimp only at hSw); go_simp⟩) hS0 ?_
      try simp only [Act.put, List.setIfInBounds_toArray, List.set_cons_zero, List.set_cons_succ]
      refine wpAnyH_take (i := 12) (oi := { dst := some 10, op := Go.Op.assign (Go.Operand.tmp 48), type := 4, pos := "ref.go:265", after := #[{ on := 11, ground := Go.Ground.data }, { on := 10, ground := Go.Ground.chain }, { on := 0, ground := Go.Ground.phase }, { on := 1, ground := Go.Ground.phase }, { on := 2, ground := Go.Ground.phase }, { on := 3, ground := Go.Ground.phase }, { on := 4, ground := Go.Ground.phase }, { on := 5, ground := Go.Ground.phase }, { on := 6, ground := Go.Ground.phase }, { on := 7, ground := Go.Ground.phase }, { on := 8, ground := Go.Ground.phase }, { on := 9, ground := Go.Ground.phase }, { on := 10, ground := Go.Ground.phase }, { on := 11, ground := Go.Ground.phase }], guard := none }) (v := .bool false) rfl (by kernel_rfl) (by kernel_rfl) (by kernel_rfl) (fun _ _ _ h => h) (Or.inl ⟨by rfl, by intro w2 hSw; (try dsimp only at hSw); go_simp⟩) hS0 ?_
      try simp only [Act.put, List.setIfInBounds_toArray, List.set_cons_zero, List.set_cons_succ]
      refine wpAnyH_done (by kernel_rfl) ?_ _
      have HJ2 := Lib.hid (HJ.out.trans (hS0.mono HJ.out.size))
      clear hS0 q0 x0
      go_wp2_with fail
      go_roundw
      case rel => exact ⟨k + 1, by omega, by go_num, by rw [Hsx.out]; rfl, HJ2⟩
      case measure => simp [intOf]; omega
     | true =>
      go_wp2_with fail
      refine wp_region_held_drew (S := fun w2 => Below wk.heap.size wk w2) (by kernel_rfl) (drew_b _ _) (fun hS0 => ?_)
      refine wpAnyH_take (i := 0) (oi := { dst := some 37, op := Go.Op.move (Go.Operand.tmp 10), type := 4, pos := "ref.go:265", after := #[], guard := none }) (v := .bool true) rfl (by kernel_rfl) (by kernel_rfl) (by kernel_rfl) (fun _ _ _ h => h) (Or.inl ⟨by rfl, by intro w2 hSw; (try dsimp only at hSw); go_simp⟩) hS0 ?_
      try simp only [Act.put, List.setIfInBounds_toArray, List.set_cons_zero, List.set_cons_succ]
      refine wpAnyH_take (i := 1) (oi := { dst := some 38, op := Go.Op.move (Go.Operand.tmp 37), type := 4, pos := "ref.go:265", after := #[{ on := 0, ground := Go.Ground.data }], guard := none }) (v := .bool true) rfl (by kernel_rfl) (by kernel_rfl) (by kernel_rfl) (fun _ _ _ h => h) (Or.inl ⟨by rfl, by intro w2 hSw; (try dsimp only at hSw); go_simp⟩) hS0 ?_
      try simp only [Act.put, List.setIfInBounds_toArray, List.set_cons_zero, List.set_cons_succ]
      refine wpAnyH_take (i := 2) (oi := { dst := some 39, op := Go.Op.move (Go.Operand.tmp 7), type := 101, pos := "ref.go:265", after := #[{ on := 1, ground := Go.Ground.guard }], guard := some (1, true) }) (v := .slice (some ⟨ba, 0, none⟩) P ca) rfl (by kernel_rfl) (by kernel_rfl) (by kernel_rfl) (fun _ _ _ h => h) (Or.inl ⟨by rfl, by intro w2 hSw; (try dsimp only at hSw); go_simp⟩) hS0 ?_
      try simp only [Act.put, List.setIfInBounds_toArray, List.set_cons_zero, List.set_cons_succ]
      refine wpAnyH_take (i := 3) (oi := { dst := some 40, op := Go.Op.move (Go.Operand.tmp 11), type := 3, pos := "ref.go:265", after := #[{ on := 1, ground := Go.Ground.guard }], guard := some (1, true) }) (v := .int .i64 (k : Int)) rfl (by kernel_rfl) (by kernel_rfl) (by kernel_rfl) (fun _ _ _ h => h) (Or.inl ⟨by rfl, by intro w2 hSw; (try dsimp only at hSw); go_simp⟩) hS0 ?_
      try simp only [Act.put, List.setIfInBounds_toArray, List.set_cons_zero, List.set_cons_succ]
      refine wpAnyH_take (i := 4) (oi := { dst := some 41, op := Go.Op.indexAddr 101 (Go.Operand.tmp 39) (Go.Operand.tmp 40), type := 0, pos := "ref.go:265", after := #[{ on := 2, ground := Go.Ground.data }, { on := 3, ground := Go.Ground.data }, { on := 1, ground := Go.Ground.guard }], guard := some (1, true) }) (v := .pointer (some ⟨ba, k, none⟩)) rfl (by kernel_rfl) (by kernel_rfl) (by kernel_rfl) (fun _ _ _ h => h) (Or.inl ⟨by rfl, by intro w2 hSw; (try dsimp only at hSw); go_simp⟩) hS0 ?_
      try simp only [Act.put, List.setIfInBounds_toArray, List.set_cons_zero, List.set_cons_succ]
      refine wpAnyH_take (i := 5) (oi := { dst := some 42, op := Go.Op.load 31 (Go.Operand.tmp 41), type := 31, pos := "ref.go:265", after := #[{ on := 4, ground := Go.Ground.data }, { on := 1, ground := Go.Ground.guard }], guard := some (1, true) }) (v := .slice Dk pk ck) rfl (by kernel_rfl) (by kernel_rfl) (by kernel_rfl) (fun _ _ _ h => h) (Or.inl ⟨by rfl, by intro w2 hSw; (try dsimp only at hSw); have e0 := (hSw.cell (p := _) (lt_of_cell q0)).trans q0; go_simp⟩) hS0 ?_
      try simp only [Act.put, List.setIfInBounds_toArray, List.set_cons_zero, List.set_cons_succ]
      refine wpAnyH_take (i := 6) (oi := { dst := some 43, op := Go.Op.move (Go.Operand.tmp 6), type := 31, pos := "ref.go:265", after := #[{ on := 1, ground := Go.Ground.guard }], guard := some (1, true) }) (v := .slice (some ⟨bl, ol, none⟩) N cl) rfl (by kernel_rfl) (by kernel_rfl) (by kernel_rfl) (fun _ _ _ h => h) (Or.inl ⟨by rfl, by intro w2 hSw; (try dsimp only at hSw); go_simp⟩) hS0 ?_
      try simp only [Act.put, List.setIfInBounds_toArray, List.set_cons_zero, List.set_cons_succ]
      refine wpAnyH_take (i := 7) (oi := { dst := some 44, op := Go.Op.move (Go.Operand.tmp 9), type := 3, pos := "ref.go:265", after := #[{ on := 1, ground := Go.Ground.guard }], guard := some (1, true) }) (v := .int .i64 (t : Int)) rfl (by kernel_rfl) (by kernel_rfl) (by kernel_rfl) (fun _ _ _ h => h) (Or.inl ⟨by rfl, by intro w2 hSw; (try dsimp only at hSw); go_simp⟩) hS0 ?_
      try simp only [Act.put, List.setIfInBounds_toArray, List.set_cons_zero, List.set_cons_succ]
      refine wpAnyH_take (i := 8) (oi := { dst := some 45, op := Go.Op.indexAddr 31 (Go.Operand.tmp 43) (Go.Operand.tmp 44), type := 0, pos := "ref.go:265", after := #[{ on := 6, ground := Go.Ground.data }, { on := 7, ground := Go.Ground.data }, { on := 1, ground := Go.Ground.guard }], guard := some (1, true) }) (v := .pointer (some ⟨bl, ol + t, none⟩)) rfl (by kernel_rfl) (by kernel_rfl) (by kernel_rfl) (fun _ _ _ h => h) (Or.inl ⟨by rfl, by intro w2 hSw; (try dsimp only at hSw); go_simp⟩) hS0 ?_
      try simp only [Act.put, List.setIfInBounds_toArray, List.set_cons_zero, List.set_cons_succ]
      refine wpAnyH_take (i := 9) (oi := { dst := some 46, op := Go.Op.load 40 (Go.Operand.tmp 45), type := 40, pos := "ref.go:265", after := #[{ on := 8, ground := Go.Ground.data }, { on := 1, ground := Go.Ground.guard }], guard := some (1, true) }) (v := .slice Cx m cx) rfl (by kernel_rfl) (by kernel_rfl) (by kernel_rfl) (fun _ _ _ h => h) (Or.inl ⟨by rfl, by intro w2 hSw; (try dsimp only at hSw); have e0 := (hSw.cell (p := _) (lt_of_cell x0)).trans x0; go_simp⟩) hS0 ?_
      try simp only [Act.put, List.setIfInBounds_toArray, List.set_cons_zero, List.set_cons_succ]
      refine wpAnyH_ready (rs := [10]) (by kernel_rfl) (by simp) ?_
      refine AllReadyH.cons (o := { dst := some 47, op := Go.Op.call { callee := Go.Callee.value (Go.Operand.func 42), args := #[Go.Operand.tmp 42, Go.Operand.tmp 46], argTypes := #[31, 40] }, type := 4, pos := "ref.go:265", after := #[{ on := 5, ground := Go.Ground.data }, { on := 9, ground := Go.Ground.data }, { on := 1, ground := Go.Ground.chain }, { on := 1, ground := Go.Ground.guard }], guard := some (1, true) }) rfl (fun K2 hK => ?_) AllReadyH.nil
      go_simp
      refine (has42 Dk pk ck (psAt ps k) Cx m cx (lAt l t) _ (HLk.out.below hS0 (Nat.le_refl _)) (HLx.out.below hS0 (Nat.le_refl _)) (fun j hj => by rw [Hpm.out.2 j (by rw [Hpk.out]; exact hj)]; omega) (by have := Hpm.out.1; rw [Hpk.out] at this; omega)).mono ?_
      rintro e9 V9 ⟨rfl, hb9⟩
      rw [Hhb.out]
      (try go_simp)
      refine hK.out _ _ (hS0.trans (hb9.mono hS0.size)) (fun hS1 => ?_)
      clear hK K2 hb9
      try simp only [Act.put, List.setIfInBounds_toArray, List.set_cons_zero, List.set_cons_succ]
      refine wpAnyH_take (i := 11) (oi := { dst := some 48, op := Go.Op.pick (Go.Operand.tmp 38) (Go.Operand.tmp 47) (Go.Operand.const (Go.Value.bool false)), type := 4, pos := "ref.go:265", after := #[{ on := 1, ground := Go.Ground.data }, { on := 10, ground := Go.Ground.data }], guard := none }) (v := .bool bb) rfl (by kernel_rfl) (by kernel_rfl) (by kernel_rfl) (fun _ _ _ h => h) (Or.inl ⟨by rfl, by intro w2 hSw; (try dsimp only at hSw); go_simp⟩) hS1 ?_
      try simp only [Act.put, List.setIfInBounds_toArray, List.set_cons_zero, List.set_cons_succ]
      refine wpAnyH_take (i := 12) (oi := { dst := some 10, op := Go.Op.assign (Go.Operand.tmp 48), type := 4, pos := "ref.go:265", after := #[{ on := 11, ground := Go.Ground.data }, { on := 10, ground := Go.Ground.chain }, { on := 0, ground := Go.Ground.phase }, { on := 1, ground := Go.Ground.phase }, { on := 2, ground := Go.Ground.phase }, { on := 3, ground := Go.Ground.phase }, { on := 4, ground := Go.Ground.phase }, { on := 5, ground := Go.Ground.phase }, { on := 6, ground := Go.Ground.phase }, { on := 7, ground := Go.Ground.phase }, { on := 8, ground := Go.Ground.phase }, { on := 9, ground := Go.Ground.phase }, { on := 10, ground := Go.Ground.phase }, { on := 11, ground := Go.Ground.phase }], guard := none }) (v := .bool bb) rfl (by kernel_rfl) (by kernel_rfl) (by kernel_rfl) (fun _ _ _ h => h) (Or.inl ⟨by rfl, by intro w2 hSw; (try dsimp only at hSw); go_simp⟩) hS1 ?_
      try simp only [Act.put, List.setIfInBounds_toArray, List.set_cons_zero, List.set_cons_succ]
      refine wpAnyH_done (by kernel_rfl) ?_ _
      have HJ2 := Lib.hid (HJ.out.trans (hS1.mono HJ.out.size))
      clear hS0 hS1 q0 x0
      go_wp2_with fail
      go_roundw
      case rel => exact ⟨k + 1, by omega, by go_num, by rw [Hsx.out, Bool.true_and], HJ2⟩
      case measure => simp [intOf]; omega
    ·obtain rfl : k = P := by omega
     have hfs := filK_succ (ps := ps) (l := l) (i := t) (by rw [Hll.out]; exact htl)
     rw [HPl.out] at hfs
     obtain ⟨bk, hbk⟩ : ∃ bk, allB ps (lAt l t) k = bk := ⟨_, rfl⟩
     rw [hbk] at hb5 hfs
     subst hb5
     clear hbk
     have x0 := (HJ.out.cell (p := ⟨bl, ol + t, none⟩) (lt_of_cell x1)).trans x1
     have HC1 := Lib.hid (HI.out.1.below HJ.out)
     have HB7 := Lib.hid (HI.out.2.trans (HJ.out.mono HNi.out))
     have hNk : N0 ≤ wk.heap.size := Nat.le_trans HNi.out HJ.out.size
     cases bk with
     | false =>
      have HF := Lib.hid (show filK ps l (t + 1) = filK ps l t by rw [hfs]; simp)
      clear hfs hNk
      go_wp2_with fail
      go_roundw
      case rel => exact ⟨t + 1, by omega, by go_num, Lib.hid ⟨by rw [HF.out]; exact HC1.out, HB7.out⟩⟩
      case measure => simp [intOf]; omega
     | true =>
      have HF := Lib.hid (show filK ps l (t + 1) = filK ps l t ++ [lAt l t] by rw [hfs]; simp)
      have hfl := filK_len ps l t
      obtain ⟨C', c', W', r1', hch, hbs⟩ := HC1.out.snoc (cap := cx) (y := lAt l t) (by rw [Hls.out t htl]; exact HIx.out.below HJ.out (Nat.le_refl _)) HCx.out (by rw [Hls.out t htl]; exact Hcx.out) (by omega) hNk (Nat.le_refl _)
      rw [Hls.out t htl] at r1'
      rw [← HF.out] at hch
      have HN9 := Lib.hid (And.intro hch (HB7.out.trans hbs))
      clear hfs hNk hch hbs hfl
      go_wp2_with fail
      go_roundw
      case rel => exact ⟨t + 1, by omega, by go_num, HN9⟩
      case measure => simp [intOf]; omega
  ·obtain rfl : t = N := by omega
   obtain ⟨Co, co, rfl, -, hlo, -⟩ := HI.out.1.open
   rw [Hcd.out] at hlo ⊢
   obtain ⟨cr, hcr⟩ : ∃ cr, (crtS nm L m (mtS nm L)).map (·.take m) = cr := ⟨_, rfl⟩
   rw [hcr] at hlo ⊢
   obtain ⟨cN, hcN⟩ : ∃ cN, cr.length = cN := ⟨_, rfl⟩
   rw [hcN] at hlo ⊢
   have HLo := Lib.hid hlo
   have Hcr := Lib.hid hcr
   have HB8 := Lib.hid (HB2.out.trans (HI.out.2.mono (by have := HB2.out.size; have := HN0.out; omega)))
   clear hlo hcr hcN
   go_wp2_with fail
   refine bodyPost_ret (v := .tuple #[.slice Co cN co, .int .i64 0]) (by simp [results, Try.results37, go_sem]) rfl ?_
   exact ⟨HB8.out, .inl ⟨H0.out, Co, cN, co, rfl, by rw [Hnm.out, Hcr.out]; exact HLo.out⟩⟩
set_option maxRecDepth 100000 in
set_option maxHeartbeats 40000000 in
theorem refGrades39 (A : Option Addr) (n cap : Nat) (zs : List Rg) (A2 : Option Addr) (m cap2 : Nat) (L : List (List Int)) (hv : Int) (w : World) (h : Rgs w A n zs) (hL : Lns w A2 m L) (hm : m ≤ 9223372036854775807) (h16 : chkL zs L = 0 → (mtS (cls (prs zs)) L).length ≤ 16) :
  Calls Try.prog 39 #[.agg #[.slice A n cap], .slice A2 m cap2, .int .i64 hv] w fun e w' => Below w.heap.size w w' ∧
   ((chkL zs L = 0 ∧ ((∃ (h : Nat) (C : Option Addr) (c : Nat), hv = (h : Int) ∧ h < m ∧ e = .returned (.tuple #[.slice C (lAt L h).length c, .int .i64 0]) ∧ Ints w' C (lAt L h).length (grS (cls (prs zs)) L m h)) ∨ (¬ (0 ≤ hv ∧ hv < (m : Int)) ∧ e = .returned (.tuple #[.slice none 0 0, .int .i64 3])))) ∨
   (chkL zs L ≠ 0 ∧ e = .returned (.tuple #[.slice none 0 0, .int .i64 (chkL zs L)]))) := by
 have Hlen := Lib.hid hL.1
 have hb0 := below_alloc_ w (.cells #[.slice A n cap] 24)
 have hr0 := heap_alloc_new_ w (.cells #[.slice A n cap] 24)
 obtain ⟨W0, hW0⟩ : ∃ W0, w.alloc (.cells #[.slice A n cap] 24) = W0 := ⟨_, rfl⟩
 obtain ⟨R, hR⟩ : ∃ R, w.heap.size = R := ⟨_, rfl⟩
 rw [hW0] at hb0 hr0
 rw [hR] at hr0
 have S := Lib.hid (h.below hb0 (Nat.le_refl _))
 have X := Lib.hid (hL.below hb0 (Nat.le_refl _))
 have B0 := Lib.hid hb0
 have R0 := Lib.hid hr0
 have HW0 := Lib.hid hW0
 have HR := Lib.hid hR
 have r0 : W0.cell? ⟨R, 0, none⟩ = some (.slice A n cap) := by rw [cell_row hr0]; rfl
 have Hm := Lib.hid hm
 have H16 := Lib.hid h16
 clear h hL hb0 hr0 hW0 hR hm h16
 go_enter Try.func39, Try.ntmps39
 go_wp2_with fail
 rw [HW0.out]
 try rw [HR.out]
 try go_wp2_with fail
 have hcb := refLines22 A n cap zs A2 m cap2 L W0 S.out X.out Hm.out
 by_cases h0 : chkL zs L = 0
 rotate_left
 ·have hcb2 := fun w2 (hb : Below W0.heap.size W0 w2) => refLines22 A n cap zs A2 m cap2 L w2 (S.out.below hb (Nat.le_refl _)) (X.out.below hb (Nat.le_refl _)) Hm.out
  obtain ⟨c, hc⟩ : ∃ c, chkL zs L = c := ⟨_, rfl⟩
  rw [hc] at h0 hcb
  simp only [hc] at hcb2
  have Hcb2 := Lib.hid hcb2
  have Hc := Lib.hid hc
  have H0 := Lib.hid h0
  have d0 : (c != 0) = true := by rw [bne_iff_ne]; exact h0
  clear hc hcb2 h0
  refine hcb.mono ?_
  rintro en w1 ⟨rfl, hb⟩
  have r1 : w1.cell? ⟨R, 0, none⟩ = some (.slice A n cap) := by rw [cell_row ((hb.block _ (lt_of_block R0.out)).trans R0.out)]; rfl
  have hcb3 := Hcb2.out w1 hb
  have HB := Lib.hid (B0.out.trans (hb.mono B0.out.size))
  clear hb r0 hcb Hcb2
  go_wp2_with fail
  refine hcb3.mono ?_
  rintro en w2 ⟨rfl, hb⟩
  have HB2 := Lib.hid (HB.out.trans (hb.mono HB.out.size))
  clear hb hcb3 r1
  go_wp2_with fail
  refine bodyPost_ret (v := .tuple #[.slice none 0 0, .int .i64 c]) (by simp [results, Try.results39, go_sem]) rfl ?_
  exact ⟨HB2.out, .inr ⟨by rw [Hc.out]; exact H0.out, by rw [Hc.out]⟩⟩
 rw [h0] at hcb
 refine hcb.mono ?_
 rintro en w1 ⟨rfl, hb⟩
 have r1 : w1.cell? ⟨R, 0, none⟩ = some (.slice A n cap) := by rw [cell_row ((hb.block _ (lt_of_block R0.out)).trans R0.out)]; rfl
 replace S := Lib.hid (S.out.below hb (Nat.le_refl _))
 replace X := Lib.hid (X.out.below hb (Nat.le_refl _))
 have H0 := Lib.hid h0
 have HB := Lib.hid (B0.out.trans (hb.mono B0.out.size))
 have HLV := Lib.hid (lv_of Hlen.out h0)
 have hm4 := HLV.out.hi
 have hm2 := HLV.out.lo
 obtain ⟨nm, hnm⟩ : ∃ nm, cls (prs zs) = nm := ⟨_, rfl⟩
 have Hnm := Lib.hid hnm
 clear hb r0 hcb h0 hnm
 by_cases hv0 : hv < 0
 ·have HV := Lib.hid hv0
  go_wp2_with fail
  refine bodyPost_ret (v := .tuple #[.slice none 0 0, .int .i64 3]) (by simp [results, Try.results39, go_sem]) rfl ?_
  exact ⟨HB.out, .inl ⟨H0.out, .inr ⟨by have := HV.out; omega, rfl⟩⟩⟩
 obtain ⟨hh, rfl⟩ : ∃ hh : Nat, hv = (hh : Int) := ⟨hv.toNat, by omega⟩
 by_cases hvm : m ≤ hh
 ·have hg : (m : Int) ≤ (hh : Int) := by omega
  have HV := Lib.hid hvm
  have i0 : ¬ (hh : Int) < 0 := by omega
  go_wp2_with fail
  refine bodyPost_ret (v := .tuple #[.slice none 0 0, .int .i64 3]) (by simp [results, Try.results39, go_sem]) rfl ?_
  exact ⟨HB.out, .inl ⟨H0.out, .inr ⟨by have := HV.out; omega, rfl⟩⟩⟩
 have hg : ¬ (m : Int) ≤ (hh : Int) := by omega
 have lh : hh < m := by omega
 have i0 : ¬ (hh : Int) < 0 := by omega
 have key := allLongest67 A n cap zs A2 m cap2 L w1 S.out X.out H0.out (H16.out H0.out)
 rw [Hnm.out] at key
 have Key := Lib.hid key
 clear key
 go_wp2_with fail
 refine Key.out.mono ?_
 rintro en w2 ⟨C, N, c, rfl, hp0, hb⟩
 have hp : Pss w2 C N (aLp nm L m) := hp0
 have HP := Lib.hid hp
 replace X := Lib.hid (X.out.below hb (Nat.le_refl _))
 have HB2 := Lib.hid (HB.out.trans (hb.mono HB.out.size))
 obtain ⟨bo, oo, rfl, hcs⟩ := X.out.2 (by omega)
 obtain ⟨Ch, ch, y1, -, -⟩ := hcs hh lh
 have h08 := HLV.out.le8 hh lh
 have hgd := fun t (ht : t < (lAt L hh).length) => gr_doc (nm := nm) (i := t) HLV.out lh ht
 have hgn := grS_len (nm := nm) (L := L) (m := m) hh
 obtain ⟨gs, hgs⟩ : ∃ gs, grS nm L m hh = gs := ⟨_, rfl⟩
 obtain ⟨ps, hps⟩ : ∃ ps, aLp nm L m = ps := ⟨_, rfl⟩
 have Hpq := Lib.hid (fun j (hj : j < ps.length) => lg_lens (p := psAt ps j) HLV.out (by rw [← hps] at hj ⊢; exact aLp_mem j hj))
 rw [hps] at HP hgd
 rw [hgs] at hgd hgn
 obtain ⟨gl, hgl⟩ : ∃ gl, (lAt L hh).length = gl := ⟨_, rfl⟩
 rw [hgl] at y1 h08 hgd hgn
 have Hgl := Lib.hid hgl
 have Hgs := Lib.hid hgs
 have HPl := Lib.hid HP.out.1
 have hcl := fun t k => cnH_le ps hh t k
 rw [HPl.out] at hgd hcl
 have hNb : N ≤ 68719476736 := by rw [← HPl.out, ← hps, aLp_len]; exact lng_bound HLV.out (by have := H16.out H0.out; rw [Hnm.out] at this; exact this)
 have Hgd := Lib.hid hgd
 have Hgn := Lib.hid hgn
 have Hcl := Lib.hid hcl
 obtain ⟨N0, hN0⟩ : ∃ N0, w2.heap.size = N0 := ⟨_, rfl⟩
 have HN0 := Lib.hid hN0
 have i4 : (0 : Int) ≤ (hh : Int) := by omega
 have i5 : (hh : Int) < (m : Int) := by omega
 clear hp hp0 hb hcs hgs hps hgl hgd hgn hcl hN0 Key
 go_wp2_with fail
 go_loopw [9, 10, 11, 12] (fun o i m5 n5 wr => ∃ t : Nat, t ≤ gl ∧ i = .int .i64 (t : Int) ∧ Hid (wr.ownsRow 0 3 1 o t (flatI (gs.take t)) ∧ (∀ g, o.ownBlock = some g → N0 ≤ g) ∧ Below N0 w2 wr)) (fun o i m5 n5 _ => gl - (intOf i).toNat)
 case atStart => exact ⟨0, Nat.zero_le _, rfl, Lib.hid ⟨⟨rfl, .inl ⟨rfl, rfl⟩⟩, fun g e => (by cases e), Below.refl _ _⟩⟩
 case round =>
  obtain ⟨t, ht, rfl, HI⟩ := hrel
  obtain ⟨wi, rfl⟩ : ∃ wi, wi = wr := ⟨_, rfl⟩
  have y0 := (HI.out.2.2.cell (p := ⟨bo, oo + hh, none⟩) (by have := lt_of_cell y1; have := HN0.out; show bo < N0; omega)).trans y1
  by_cases htl : t < gl
  ·have HNi := Lib.hid (show N0 ≤ wi.heap.size by have := HI.out.2.2.size; have := HN0.out; omega)
   go_wp2_with fail
   go_loopw [11, 12] (fun m5 n5 wr => ∃ k : Nat, k ≤ N ∧ n5 = .int .i64 (k : Int) ∧ m5 = .int .i64 (cnH ps hh t k : Int) ∧ Hid (Below wi.heap.size wi wr)) (fun m5 n5 _ => N - (intOf n5).toNat)
   case atStart => exact ⟨0, Nat.zero_le _, rfl, by rw [cnH_zero]; rfl, Lib.hid (Below.refl _ _)⟩
   case round =>
    obtain ⟨k, hk, rfl, hm5, HJ⟩ := hrel
    obtain ⟨wk, rfl⟩ : ∃ wk, wk = wr := ⟨_, rfl⟩
    have hcb := Hcl.out t k
    obtain ⟨cn, hcn⟩ : ∃ cn, cnH ps hh t k = cn := ⟨_, rfl⟩
    rw [hcn] at hm5 hcb
    subst hm5
    by_cases hkl : k < N
    ·have hsx := cnH_succ (ps := ps) (h := hh) (i := t) (k := k) (by rw [HPl.out]; exact hkl)
     rw [hcn] at hsx
     obtain ⟨ba, rfl, hca⟩ := (HP.out.below HI.out.2.2 (by rw [HN0.out]; exact Nat.le_refl _)).2 (by omega)
     obtain ⟨Dk, ck, q1, hLk, -⟩ := hca k hkl
     have hpm := Hpq.out k (by rw [HPl.out]; exact hkl)
     obtain ⟨pk, hpk⟩ : ∃ pk, (psAt ps k).length = pk := ⟨_, rfl⟩
     rw [hpk] at q1 hLk hpm hsx
     have q0 := (HJ.out.cell (p := ⟨ba, k, none⟩) (lt_of_cell q1)).trans q1
     have HLk := Lib.hid (hLk.below HJ.out (Nat.le_refl _))
     have Hpm := Lib.hid hpm
     have j0 : (0 : Int) ≤ (k : Int) := by omega
     have j1 : (k : Int) < (N : Int) := by omega
     obtain ⟨bb, hbb⟩ : ∃ bb, hrsB (psAt ps k) hh (t : Int) pk = bb := ⟨_, rfl⟩
     rw [hbb] at hsx
     have Hhb := Lib.hid hbb
     have Hsx := Lib.hid hsx
     have w7 : IntKind.i64.wrap ((cn : Int) + 1) = (cn : Int) + 1 := IntWalk.i64_in _ (by omega)
     clear hca q1 hLk hpm hpk hbb hsx hcn y0
     go_wp2_with fail
     refine (hears43 Dk pk ck (psAt ps k) hh (t : Int) wk HLk.out (fun j hj => by rw [Hpm.out.2 j hj]; exact lh) (by have := Hpm.out.1; omega) (by omega)).mono ?_
     rintro en wl ⟨rfl, hb⟩
     rw [Hhb.out]
     have HJ2 := Lib.hid (HJ.out.trans (hb.mono HJ.out.size))
     clear hb q0
     cases bb with
     | false =>
      go_wp2_with fail
      go_roundw
      case rel => exact ⟨k + 1, by omega, by go_num, by rw [Hsx.out]; rfl, HJ2⟩
      case measure => simp [intOf]; omega
     | true =>
      go_wp2_with fail
      go_roundw
      case rel => exact ⟨k + 1, by omega, by go_num, by rw [Hsx.out]; go_num, HJ2⟩
      case measure => simp [intOf]; omega
    ·obtain rfl : k = N := by omega
     have hgt := Hgd.out t htl
     rw [hcn] at hgt
     have hts : gs.take (t + 1) = gs.take t ++ [iAt gs t] := by rw [List.take_succ_eq_append_getElem (by rw [Hgn.out]; exact htl), iAt_eq (by rw [Hgn.out]; exact htl)]
     obtain ⟨o1, o2, o3⟩ := HI.out
     have o4 := own_keep o1 (Keeps.of_new (Mut := fun _ => False) HJ.out) (fun _ _ e => e)
     obtain ⟨C5, c5, W5, r5, o5, k5, d5⟩ := app_int o4 (iAt gs t) (by omega)
     rw [← hts] at o5
     have hs1 := HJ.out.size
     have HN9 := Lib.hid (show W5.ownsRow 0 3 1 (.slice C5 (t + 1) c5) (t + 1) (flatI (gs.take (t + 1))) ∧ (∀ g, (Value.slice C5 (t + 1) c5).ownBlock = some g → N0 ≤ g) ∧ Below N0 w2 W5 from
      ⟨o5, fun g e => (d5 g e).elim (fun h9 => o2 g h9) (fun h9 => by have := HNi.out; omega), (o3.trans (HJ.out.mono HNi.out)).trans (k5.below (Nat.le_trans HNi.out hs1) (fun i hi e => by have := o2 i e; omega))⟩)
     clear hts o1 o2 o3 o4 o5 k5 d5 hcn y0
     unfold grD at hgt
     by_cases h0' : cn = 0
     ·rw [if_pos h0'] at hgt
      rw [hgt] at r5
      have dz : ((cn : Int) == 0) = true := by rw [beq_iff_eq]; omega
      clear h0' hgt
      go_wp2_with fail
      go_roundw
      case rel => exact ⟨t + 1, by omega, by go_num, HN9⟩
      case measure => simp [intOf]; omega
     rw [if_neg h0'] at hgt
     have dz : ((cn : Int) == 0) = false := by rw [beq_eq_false_iff_ne]; omega
     by_cases h1' : cn < k
     ·rw [if_pos h1'] at hgt
      rw [hgt] at r5
      have dy : (cn : Int) < (k : Int) := by omega
      clear h0' hgt
      go_wp2_with fail
      go_roundw
      case rel => exact ⟨t + 1, by omega, by go_num, HN9⟩
      case measure => simp [intOf]; omega
     rw [if_neg h1'] at hgt
     rw [hgt] at r5
     have dy : ¬ (cn : Int) < (k : Int) := by omega
     clear h0' hgt
     go_wp2_with fail
     go_roundw
     case rel => exact ⟨t + 1, by omega, by go_num, HN9⟩
     case measure => simp [intOf]; omega
  ·obtain rfl : t = gl := by omega
   obtain ⟨o1, o2, o3⟩ := HI.out
   rw [List.take_of_length_le (by rw [Hgn.out]; exact Nat.le_refl _)] at o1
   obtain ⟨C5, c5, rfl, -, hi5, -⟩ := ints_own Hgn.out o1
   have HI5 := Lib.hid hi5
   have HB8 := Lib.hid (HB2.out.trans (o3.mono (by have := HB2.out.size; have := HN0.out; omega)))
   clear o1 o2 o3 hi5
   go_wp2_with fail
   refine bodyPost_ret (v := .tuple #[.slice C5 t c5, .int .i64 0]) (by simp [results, Try.results39, go_sem]) rfl ?_
   exact ⟨HB8.out, .inl ⟨H0.out, .inl ⟨hh, C5, c5, rfl, lh, by rw [Hgl.out], by rw [Hgl.out, Hnm.out, Hgs.out]; exact HI5.out⟩⟩⟩
end
end Go.Proofs.Ythdjbapidodlfaa
