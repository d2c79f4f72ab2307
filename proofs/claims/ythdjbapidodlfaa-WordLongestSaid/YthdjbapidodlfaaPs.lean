/- Stage 4: the chart with the least levels. -/
import Derived.Test.YthdjbapidodlfaaBl
import Derived.Test.YthdjbapidodlfaaRnd
namespace Go.Proofs.Ythdjbapidodlfaa
set_option linter.unusedSimpArgs false
set_option linter.unusedVariables false
open Go.RowKit Go.Shelf
attribute [local go_sem ↓] exec_app at_app
attribute [local go_sem] Oper.semAt_some

open Classical in
/-- What is known of the matches that have been dealt with. -/
noncomputable def SeP (E : List Int → Int × Int) (pre : List (List Int)) : List Int → Option Value := fun x => if x ∈ pre then some (knV (E x)) else none
theorem SeP_nil (E : List Int → Int × Int) : SeP E [] = fun _ => none := by
  funext x
  unfold SeP
  rw [if_neg (by simp)]
theorem SeP_snoc (E : List Int → Int × Int) (pre : List (List Int)) (x : List Int) : putS (SeP E pre) x (some (knV (E x))) = SeP E (pre ++ [x]) := by
  funext y
  by_cases h : y = x
  · subst h
    rw [putS_same]
    unfold SeP
    rw [if_pos (by simp)]
  · rw [putS_other _ h]
    unfold SeP
    by_cases h2 : y ∈ pre
    · rw [if_pos h2, if_pos (by simp [h2])]
    · rw [if_neg h2, if_neg (by simp [h2, h])]
theorem frH_eS {nm : List Int} {L : List (List Int)} {m : Nat} (hL : LV L m) : FrH (eS (mtS nm L) m) (mtS nm L) m := by
  have hlo := hL.lo
  have hn := mtS_nodup (nm := nm) hL
  have hw := mtS_wpl (nm := nm) hL
  exact ⟨hn, by omega, hL.hi, hw, fun x hx => by have := eS_pos hn (by omega) hL.hi hw hx; omega, fun q h hh hq h1 => by
    have := frK_small hn (by omega) hL.hi hw hh hq h1
    omega⟩
theorem dealt_pre {nm : List Int} {L : List (List Int)} {m : Nat} (hL : LV L m) (E : List Int → Int × Int) {pre post : List (List Int)} {x : List Int} (hxs : mtS nm L = pre ++ x :: post) : Dealt E (mtS nm L) m x (SeP E pre) := by
  have hlo := hL.lo
  have hs := mtS_sorted (nm := nm) hL
  rw [hxs] at hs
  refine ⟨fun y hy hb => ?_, fun y v _ hv => ?_⟩
  · rw [hxs] at hy
    unfold SeP
    rcases List.mem_append.1 hy with h | h
    · rw [if_pos h]
    · exfalso
      rcases List.mem_cons.1 h with rfl | h
      · rw [befB_irr (by omega)] at hb; cases hb
      · have := (List.pairwise_cons.1 (List.pairwise_append.1 hs).2.1).1 y h
        rw [this] at hb; cases hb
  · unfold SeP at hv
    by_cases h : y ∈ pre
    · rw [if_pos h] at hv
      cases hv
      exact ⟨by rw [hxs]; simp [h], rfl⟩
    · rw [if_neg h] at hv; cases hv
theorem dealt_all {nm : List Int} {L : List (List Int)} {m : Nat} (E : List Int → Int × Int) (p : List Int) : Dealt E (mtS nm L) m p (SeP E (mtS nm L)) := by
  refine ⟨fun y hy hb => by unfold SeP; rw [if_pos hy], fun y v _ hv => ?_⟩
  unfold SeP at hv
  by_cases h : y ∈ mtS nm L
  · rw [if_pos h] at hv; cases hv; exact ⟨h, rfl⟩
  · rw [if_neg h] at hv; cases hv
theorem Cht.putAll {W : World} {Cb B Me : Nat} {Ms : Nat → Nat} {nn : Nat} {ak : Int × Int} {Se : List Int → Option Value} {F : Nat → List Int → Int × Int} (h : Cht W Cb B Me Ms nn ak Se F) (a b : Int) :
    Cht ((W.setCell ⟨Cb, 6, none⟩ (.int .i64 a)).setCell ⟨Cb, 7, none⟩ (.int .i64 b)) Cb B Me Ms nn (a, b) Se F := by
  have hK := (keeps_setCell W Cb 6 (.int .i64 a)).trans (keeps_setCell (W.setCell ⟨Cb, 6, none⟩ (.int .i64 a)) Cb 7 (.int .i64 b))
  refine ⟨?_, h.ends.keep hK (fun e => h.ne1 e.symm), fun k hk => ?_, h.ne1, h.ne2, h.ne3⟩
  · have := set_same 7 (.int .i64 b) (set_same (W := W) 6 (.int .i64 a) h.row)
    exact this
  · obtain ⟨S, q1, q2⟩ := h.fr k hk
    exact ⟨S, q1.keep hK (fun e => (h.ne2 k hk).1 e.symm), q2⟩
/-- What the rounds keep. -/
structure PsI (V : World) (Cb B Me : Nat) (Ms : Nat → Nat) (E : List Int → Int × Int) (mt : List (List Int)) (m : Nat) (pre : List (List Int)) (W : World) : Prop where
  cht : Cht W Cb B Me Ms (pre.length * 4681) (0, 0) (SeP E pre) (fun h p => frK E mt m p h)
  keep : Keeps (fun k => V.heap.size ≤ k ∨ mutF Ms k ∨ k = Me) V W
theorem PsI.abides {V : World} {Cb B Me : Nat} {Ms : Nat → Nat} {E : List Int → Int × Int} {mt : List (List Int)} {m : Nat} {pre : List (List Int)} (hC : Cb < V.heap.size) (hM : Me < V.heap.size) (hF : ∀ k, k < 4 → Ms k < V.heap.size) : AbO V.heap.size (fun _ W => PsI V Cb B Me Ms E mt m pre W) := by
  intro O W1 W2 h hK
  refine ⟨h.cht.keep hK (fun e => by omega) (fun e => by omega) (fun k hk e => by have := hF k hk; omega), h.keep.trans (hK.mono (fun k _ e => .inl e.1))⟩
set_option maxRecDepth 100000 in
set_option maxHeartbeats 16000000 in
theorem passages59 (B D : Nat) (A : Option Addr) (n cap : Nat) (nm : List Int) (M : Nat) (A2 : Option Addr) (m cap2 : Nat) (L : List (List Int)) (w : World) (hBo : Bo w B D A n cap nm M A2 m cap2 L) (hL : LV L m) :
    Calls Try.prog 59 #[.pointer (some ⟨B, 0, none⟩)] w fun e w' => ∃ (Cb Me : Nat) (Ms : Nat → Nat) (nn : Nat), e = .returned (.pointer (some ⟨Cb, 0, none⟩)) ∧ Cht w' Cb B Me Ms nn (allK (mtS nm L) m) (SeP (eS (mtS nm L) m) (mtS nm L)) (fun h p => frK (eS (mtS nm L) m) (mtS nm L) m p h) ∧ Below w.heap.size w w' ∧ w.heap.size ≤ Cb ∧ w.heap.size ≤ Me ∧ ∀ h, h < 4 → w.heap.size ≤ Ms h := by
  obtain ⟨mt, hmt⟩ : ∃ mt, mtS nm L = mt := ⟨_, rfl⟩
  obtain ⟨E, hE⟩ : ∃ E, eS mt m = E := ⟨_, rfl⟩
  have HMt := Lib.hid hmt
  have HE := Lib.hid hE
  have HB := Lib.hid hBo
  have HL := Lib.hid hL
  rw [hmt, hE]
  have Hfr := Lib.hid (show FrH E mt m by have := frH_eS (nm := nm) hL; rw [hmt, hE] at this; exact this)
  clear hmt hE hBo hL
  refine (callsIn_wide (n := 5)).1 ?_
  refine callsIn_of_wp_marks Try.func59 rfl trivial ?_ rfl
  simp only [Try.ntmps59, List.size_toArray, List.length_cons, List.length_nil, Nat.reduceAdd, Nat.reduceSub, Array.replicate_succ, Array.replicate_zero, List.push_toArray, List.append_toArray, List.nil_append, List.cons_append]
  gi_wp2_with fail
  refine ⟨trivial, (callsIn_wide.2 (blank77 B (fun h p => frK E mt m p h) w)).mono ?_⟩
  rintro en w1 ⟨Cb, Me, Ms, rfl, hc1, hb1, hCb, hMe, hMs⟩
  have k1 : Keeps (fun _ => False) w1 (w1.alloc (.cells #[.pointer (some ⟨Cb, 0, none⟩)] 86)) := keep_alloc _ _ _
  have e1 : (w1.alloc (.cells #[.pointer (some ⟨Cb, 0, none⟩)] 86)).heap[w1.heap.size]? = some (.cells #[.pointer (some ⟨Cb, 0, none⟩)] 86 (0, 0)) := heap_alloc_new_ _ _
  have HLt := Lib.hid (show Cb < w1.heap.size ∧ Me < w1.heap.size ∧ ∀ j, j < 4 → Ms j < w1.heap.size from ⟨lt_of_block hc1.row, hc1.ends.lt, fun j hj => hc1.ltF hj⟩)
  have hc2 := hc1.below k1.new (Nat.le_refl _)
  have c0 := hc2.c0
  have HC1 := Lib.hid hc2
  have HK1 := Lib.hid k1
  have HB1 := Lib.hid hb1
  have HE1 := Lib.hid e1
  have HGe := Lib.hid (show w.heap.size ≤ Cb ∧ w.heap.size ≤ Me ∧ ∀ h, h < 4 → w.heap.size ≤ Ms h from ⟨hCb, hMe, hMs⟩)
  have g0 : (w1.alloc (.cells #[.pointer (some ⟨Cb, 0, none⟩)] 86)).cell? ⟨w1.heap.size, 0, none⟩ = some (.pointer (some ⟨Cb, 0, none⟩)) := by rw [cell_row e1]; rfl
  clear k1 hc1 hc2 hb1 hCb hMe hMs e1
  gi_wp2_with fail
  obtain ⟨V0, hV0⟩ : ∃ V0, w1.alloc (.cells #[.pointer (some ⟨Cb, 0, none⟩)] 86) = V0 := ⟨_, rfl⟩
  obtain ⟨T, hT⟩ : ∃ T, w1.heap.size = T := ⟨_, rfl⟩
  have hc1 := HC1.out
  have hk1 := HK1.out
  have he1 := HE1.out
  rw [hV0] at hc1 hk1 he1 ⊢
  rw [hT] at he1 ⊢
  have HTw := Lib.hid (show w.heap.size ≤ T ∧ (∀ j, j < 4 → Ms j < V0.heap.size) ∧ Me < V0.heap.size ∧ Cb < V0.heap.size from ⟨by rw [← hT]; exact HB1.out.size, fun j hj => hc1.ltF hj, hc1.ends.lt, lt_of_block hc1.row⟩)
  have HNt := Lib.hid (show Cb ≠ T ∧ Me ≠ T ∧ ∀ j, j < 4 → Ms j ≠ T from by
    have := HLt.out
    exact ⟨by omega, by omega, fun j hj => by have := HLt.out.2.2 j hj; omega⟩)
  replace HB1 := Lib.hid (HB1.out.trans (hk1.new.mono HB1.out.size))
  replace HC1 := Lib.hid hc1
  replace HE1 := Lib.hid he1
  clear hV0 hT hc1 hk1 he1 g0 c0 HK1
  refine ⟨trivial, (callsIn_wide.2 (matches55 B V0)).mono ?_⟩
  rintro en w2 ⟨P1, rfl, cP, hP1, hP2, hb2⟩
  have hseq := matches74 HL.out w w2 HB.out (HB1.out.trans (hb2.mono HB1.out.size)) P1 cP
  rw [HMt.out] at hseq
  have Hseq := Lib.hid hseq
  have HC2 := Lib.hid (HC1.out.below hb2 (Nat.le_refl _))
  have HE2 := Lib.hid ((hb2.block _ (lt_of_block HE1.out)).trans HE1.out)
  have HB2 := Lib.hid (HB1.out.trans (hb2.mono HB1.out.size))
  have HP1 := Lib.hid (show V0.heap.size ≤ P1 ∧ P1 < w2.heap.size ∧ V0.heap.size ≤ w2.heap.size from ⟨hP1, hP2, hb2.size⟩)
  clear hseq cP hP1 hP2 hb2
  gi_wp2_with fail
  have hTl : T < w2.heap.size := lt_of_block HE2.out
  have hCl : Cb < w2.heap.size := lt_of_block HC2.out.row
  have hMl : Me < w2.heap.size := HC2.out.ends.lt
  have hFl : ∀ j, j < 4 → Ms j < w2.heap.size := fun j hj => HC2.out.ltF hj
  refine wpIn_rangeO (gf := 74) (lb := #[.pointer (some ⟨P1, 0, none⟩)]) rfl (enters_of Try.func74 (by kernel_rfl) rfl) Hseq.out (fun k h => by have := HB2.out.size; have := HP1.out; rcases h with h | h <;> omega) (fun _ => rfl) (fun k => mutF Ms k ∨ k = Me) (fun k hk => by
      have hg := HGe.out
      have hp := HP1.out
      have ht := HTw.out
      rcases hk with ⟨j, hj, rfl⟩ | rfl
      · have := hg.2.2 j hj; have := ht.2.1 j hj; exact ⟨hFl j hj, by rintro (e | e) <;> omega⟩
      · exact ⟨hMl, by rintro (e | e) <;> omega⟩)
    (fun pre _ W => PsI w2 Cb B Me Ms E mt m pre W) (fun _ _ _ _ => False) (fun pre => PsI.abides hCl hMl hFl) (fun _ _ _ _ _ h _ => h.elim) ⟨by rw [SeP_nil]; exact HC2.out, Keeps.refl _ _⟩ ?round ?done ?stop
  case stop => intro D c pre x post W O _ _ _ _ _ h _; exact h.elim
  case round =>
    intro l pre x post W O hxs hl1 hl2 hr hO hI mm
    have Hby := Lib.hid (heap_alloc_new_ W (.cells #[.int .i64 (iAt x 0), .int .i64 (iAt x 1), .int .i64 (iAt x 2), .int .i64 (iAt x 3)] 79))
    have Hxs := Lib.hid hxs
    unfold plA
    clear hxs hr hI hO hTl hCl hMl hFl
    gi_wp2_with fail
    refine ⟨keep_alloc _ _ _, ?_⟩
    intro W2 hB2 hI2
    have FT := (hB2.keeps.block _ (by simp) (by omega)).trans Hby.out
    obtain ⟨U, hU⟩ : ∃ U, W.heap.size = U := ⟨_, rfl⟩
    rw [hU] at FT ⊢
    have HU := Lib.hid (show w2.heap.size ≤ U from by omega)
    have HI2 := Lib.hid hI2
    have HFT := Lib.hid FT
    clear hU hB2 hI2 FT Hby
    have hk2 := HI2.out.keep
    have hns := HNt.out
    have hgs := HGe.out
    have hps := HP1.out
    have hts := HTw.out
    have HnT := Lib.hid (show ¬ (mutF Ms T ∨ T = Me) from by
      rintro (⟨j, hj, e⟩ | e)
      · exact hns.2.2 j hj e.symm
      · exact hns.2.1 e.symm)
    have hT2 := (hk2.block _ (lt_of_block HE2.out) (by rintro (e | e); have := lt_of_block HE2.out; omega; exact HnT.out e)).trans HE2.out
    have g0 : W2.cell? ⟨T, 0, none⟩ = some (.pointer (some ⟨Cb, 0, none⟩)) := by rw [cell_row hT2]; rfl
    have HnC := Lib.hid (show ¬ (mutF Ms Cb ∨ Cb = Me) from by
      rintro (⟨j, hj, e⟩ | e)
      · exact (HC2.out.ne2 j hj).1 e
      · exact HC2.out.ne1 e)
    have HnU := Lib.hid (show ¬ (mutF Ms U ∨ U = Me) from by
      have := HU.out
      rintro (⟨j, hj, e⟩ | e)
      · have := hts.2.1 j hj; omega
      · omega)
    have c1 := HI2.out.cht.c1
    have hFT := HFT.out
    have x0 : W2.cell? ⟨U, 0, none⟩ = some (.int .i64 (iAt x 0)) := by rw [cell_row hFT]; rfl
    have x1 : W2.cell? ⟨U, 1, none⟩ = some (.int .i64 (iAt x 1)) := by rw [cell_row hFT]; rfl
    have x2 : W2.cell? ⟨U, 2, none⟩ = some (.int .i64 (iAt x 2)) := by rw [cell_row hFT]; rfl
    have x3 : W2.cell? ⟨U, 3, none⟩ = some (.int .i64 (iAt x 3)) := by rw [cell_row hFT]; rfl
    have hbw : Below w.heap.size w W2 := HB2.out.trans (hk2.below HB2.out.size (fun k hk e => by
      rcases e with e | ⟨j, hj, e⟩ | e
      · have := HB2.out.size; omega
      · have := hgs.2.2 j hj; omega
      · omega))
    have b1 := (HB.out.below hbw (Nat.le_refl _)).c1
    have Hb1 := Lib.hid b1
    have HnB := Lib.hid (show ¬ (mutF Ms B ∨ B = Me) from by
      have := lt_of_block HB.out.row
      rintro (⟨j, hj, e⟩ | e)
      · have := hgs.2.2 j hj; omega
      · omega)
    have HwP := Lib.hid (Hfr.out.wpl x (by rw [Hxs.out]; simp))
    have Hde := Lib.hid (show Dealt E mt m x (SeP E pre) by have h := dealt_pre HL.out E (nm := nm) (pre := pre) (post := post) (x := x) (by rw [HMt.out]; exact Hxs.out); rw [HMt.out] at h; exact h)
    have HEx := Lib.hid (show longK (frK E mt m x 0) = E x by rw [← HE.out]; exact (eS_eq Hfr.out.lo Hfr.out.wpl (by have := (Hfr.out.wpl x (by rw [Hxs.out]; simp)).rng 0 (by have := Hfr.out.lo; omega); omega)).symm)
    have Hsm := Lib.hid (show 0 ≤ (frK E mt m x 0).1 ∧ (frK E mt m x 0).1 ≤ 1000000 by
      have h := frK_small (mtS_nodup (nm := nm) HL.out) (by have := HL.out.lo; omega) HL.out.hi (mtS_wpl (nm := nm) HL.out) (p := x) (h := 0) (Nat.zero_le _) HwP.out (fun i hi => by omega)
      rw [HMt.out, HE.out] at h
      omega)
    have Hpl := Lib.hid (show pre.length ≤ 4096 by
      have h := (mtS_len (nm := nm) HL.out).1
      rw [HMt.out, Hxs.out] at h
      simp at h; omega)
    have hS0 : Keeps (fun k => mutF Ms k ∨ k = Me) W2 W2.drew := Keeps.of_new (drew_b _ _)
    clear hk2 hns hgs hps hts hT2 hFT hbw b1
    gi_wp2_with fail
    refine region_R (z := 100) (S := fun W9 => Keeps (fun k => mutF Ms k ∨ k = Me) W2 W9) (by kernel_rfl) ?_
    refine anyR_take (i := 0) (oi := { dst := some 13, op := Go.Op.load 86 (Go.Operand.tmp 3), type := 86, pos := "chart.go:77", after := #[], guard := none }) (v := .pointer (some ⟨Cb, 0, none⟩)) rfl (by decide) (by kernel_rfl) (by kernel_rfl) (by kernel_rfl) (by kernel_rfl) (fun _ _ _ h => h) (Or.inl ⟨by rfl, by intro W9 hSw; (try dsimp only at hSw); have q_g0 := (keep_cells hSw (lt_of_cell g0) HnT.out _).trans g0; go_simp⟩) hS0 ?_
    try simp only [Act.put, List.setIfInBounds_toArray, List.set_cons_zero, List.set_cons_succ]
    refine anyR_take (i := 1) (oi := { dst := some 14, op := Go.Op.nilCheck (Go.Operand.tmp 13), type := 0, pos := "chart.go:77", after := #[{ on := 0, ground := Go.Ground.data }], guard := none }) (v := .pointer (some ⟨Cb, 0, none⟩)) rfl (by decide) (by kernel_rfl) (by kernel_rfl) (by kernel_rfl) (by kernel_rfl) (fun _ _ _ h => h) (Or.inl ⟨by rfl, by intro W9 hSw; (try dsimp only at hSw); go_simp⟩) hS0 ?_
    try simp only [Act.put, List.setIfInBounds_toArray, List.set_cons_zero, List.set_cons_succ]
    refine anyR_take (i := 2) (oi := { dst := some 15, op := Go.Op.fieldAddr 93 (Go.Operand.tmp 14) 1, type := 0, pos := "chart.go:77", after := #[{ on := 1, ground := Go.Ground.data }], guard := none }) (v := .pointer (some ⟨Cb, 1, none⟩)) rfl (by decide) (by kernel_rfl) (by kernel_rfl) (by kernel_rfl) (by kernel_rfl) (fun _ _ _ h => h) (Or.inl ⟨by rfl, by intro W9 hSw; (try dsimp only at hSw); go_simp⟩) hS0 ?_
    try simp only [Act.put, List.setIfInBounds_toArray, List.set_cons_zero, List.set_cons_succ]
    refine anyR_take (i := 3) (oi := { dst := some 16, op := Go.Op.load 88 (Go.Operand.tmp 15), type := 88, pos := "chart.go:77", after := #[{ on := 2, ground := Go.Ground.data }], guard := none }) (v := .map (some Me)) rfl (by decide) (by kernel_rfl) (by kernel_rfl) (by kernel_rfl) (by kernel_rfl) (fun _ _ _ h => h) (Or.inl ⟨by rfl, by intro W9 hSw; (try dsimp only at hSw); have q_c1 := (keep_cells hSw (lt_of_cell c1) HnC.out _).trans c1; go_simp⟩) hS0 ?_
    try simp only [Act.put, List.setIfInBounds_toArray, List.set_cons_zero, List.set_cons_succ]
    refine anyR_take (i := 4) (oi := { dst := some 17, op := Go.Op.load 79 (Go.Operand.tmp 4), type := 79, pos := "chart.go:77", after := #[], guard := none }) (v := .agg #[.int .i64 (iAt x 0), .int .i64 (iAt x 1), .int .i64 (iAt x 2), .int .i64 (iAt x 3)]) rfl (by decide) (by kernel_rfl) (by kernel_rfl) (by kernel_rfl) (by kernel_rfl) (fun _ _ _ h => h) (Or.inl ⟨by rfl, by intro W9 hSw; (try dsimp only at hSw); have q_x0 := (keep_cells hSw (lt_of_cell x0) HnU.out _).trans x0; have q_x1 := (keep_cells hSw (lt_of_cell x1) HnU.out _).trans x1; have q_x2 := (keep_cells hSw (lt_of_cell x2) HnU.out _).trans x2; have q_x3 := (keep_cells hSw (lt_of_cell x3) HnU.out _).trans x3; go_simp⟩) hS0 ?_
    try simp only [Act.put, List.setIfInBounds_toArray, List.set_cons_zero, List.set_cons_succ]
    refine anyR_take (i := 5) (oi := { dst := some 18, op := Go.Op.load 86 (Go.Operand.tmp 3), type := 86, pos := "chart.go:77", after := #[], guard := none }) (v := .pointer (some ⟨Cb, 0, none⟩)) rfl (by decide) (by kernel_rfl) (by kernel_rfl) (by kernel_rfl) (by kernel_rfl) (fun _ _ _ h => h) (Or.inl ⟨by rfl, by intro W9 hSw; (try dsimp only at hSw); have q_g0 := (keep_cells hSw (lt_of_cell g0) HnT.out _).trans g0; go_simp⟩) hS0 ?_
    try simp only [Act.put, List.setIfInBounds_toArray, List.set_cons_zero, List.set_cons_succ]
    refine anyR_take (i := 6) (oi := { dst := some 19, op := Go.Op.load 79 (Go.Operand.tmp 4), type := 79, pos := "chart.go:77", after := #[], guard := none }) (v := .agg #[.int .i64 (iAt x 0), .int .i64 (iAt x 1), .int .i64 (iAt x 2), .int .i64 (iAt x 3)]) rfl (by decide) (by kernel_rfl) (by kernel_rfl) (by kernel_rfl) (by kernel_rfl) (fun _ _ _ h => h) (Or.inl ⟨by rfl, by intro W9 hSw; (try dsimp only at hSw); have q_x0 := (keep_cells hSw (lt_of_cell x0) HnU.out _).trans x0; have q_x1 := (keep_cells hSw (lt_of_cell x1) HnU.out _).trans x1; have q_x2 := (keep_cells hSw (lt_of_cell x2) HnU.out _).trans x2; have q_x3 := (keep_cells hSw (lt_of_cell x3) HnU.out _).trans x3; go_simp⟩) hS0 ?_
    try simp only [Act.put, List.setIfInBounds_toArray, List.set_cons_zero, List.set_cons_succ]
    obtain ⟨X0, hX0⟩ : ∃ X0, W2.drew = X0 := ⟨_, rfl⟩
    have hd0 : Below W2.heap.size W2 X0 := by rw [← hX0]; exact drew_b W2 1
    rw [hX0] at hS0 ⊢
    have HS0 := Lib.hid hS0
    have HX0 := Lib.hid (HI2.out.cht.below hd0 (Nat.le_refl _))
    clear hX0 hS0 hd0 g0 c1 x0 x1 x2 x3
    refine anyR_one (i := 7) (by kernel_rfl) rfl (by rfl) ?_
    intro K hK
    have HKK := Lib.hid hK
    clear hK
    have hbX := (keep_cells HS0.out (lt_of_cell Hb1.out) HnB.out 1).trans Hb1.out
    go_simp
    refine ⟨trivial, wide_d, CallsIn.inRound l ((callsIn_wide.2 (front78_0 Hfr.out Cb B Me Ms (0, 0) (SeP E pre) A2 cap2 (fun k hk e => HnB.out (.inl (e ▸ hk))) x HwP.out Hde.out (pre.length * 4681) X0 HX0.out hbX (by have := Hpl.out; omega))).mono ?_)⟩
    rintro en X1 ⟨rfl, hc3, hk3⟩
    have HS1 := Lib.hid (HS0.out.trans (hk3.mono (fun k _ e => (.inl e : mutF Ms k ∨ k = Me))))
    have HX1 := Lib.hid hc3
    refine HKK.out _ _ (fun _ _ => HS1.out) ?_
    clear HKK K hc3 hk3 hbX
    try simp only [Act.put, List.setIfInBounds_toArray, List.set_cons_zero, List.set_cons_succ]
    refine anyR_one (i := 8) (by kernel_rfl) rfl (by rfl) ?_
    intro K hK
    have HKK := Lib.hid hK
    clear hK
    go_simp
    refine ⟨trivial, wide_d, CallsIn.inRound l ((callsIn_wide.2 (longer79 (frK E mt m x 0) X1 Hsm.out)).mono ?_)⟩
    rintro en X2 ⟨rfl, hb4⟩
    rw [HEx.out]
    have HS2 := Lib.hid (HS1.out.trans (Keeps.of_new hb4))
    have HX2 := Lib.hid (HX1.out.below hb4 (Nat.le_refl _))
    refine HKK.out _ _ (fun _ _ => HS2.out) ?_
    clear HKK K hb4
    try simp only [Act.put, List.setIfInBounds_toArray, List.set_cons_zero, List.set_cons_succ]
    refine anyR_one (i := 9) (by kernel_rfl) rfl (by rfl) ?_
    intro K hK
    have HKK := Lib.hid hK
    clear hK
    obtain ⟨X3, hput, hc5, hk5⟩ := HX2.out.putE HwP.out.dom (knV (E x)) (by have := Hpl.out; omega)
    rw [SeP_snoc] at hc5
    unfold plA at hput
    have HS3 := Lib.hid (HS2.out.trans (hk5.mono (fun k _ e => (.inr e : mutF Ms k ∨ k = Me))))
    have HX3 := Lib.hid hc5
    clear hc5 hk5
    go_simp
    try rw [hput]
    try go_simp
    refine HKK.out _ _ (fun _ _ => HS3.out) ?_
    clear HKK K hput
    try simp only [Act.put, List.setIfInBounds_toArray, List.set_cons_zero, List.set_cons_succ]
    refine anyR_done (by kernel_rfl) ?_ _
    gi_wp2_with fail
    refine ⟨O, Grow.refl _ _ _, HS3.out.mono (fun _ _ e => .inl e), ⟨?_, HI2.out.keep.trans (HS3.out.mono (fun k _ e => .inr e))⟩⟩
    rw [List.length_append]
    exact HX3.out.mono (by simp; omega)
  case done =>
    intro D2 W9 O hD2 hDW hDO hO hI9 hKd
    have hk2 := hI9.keep
    have hns := HNt.out
    have hgs := HGe.out
    have hts := HTw.out
    have HnT := Lib.hid (show ¬ (mutF Ms T ∨ T = Cb) from by
      rintro (⟨j, hj, e⟩ | e)
      · exact hns.2.2 j hj e.symm
      · exact hns.1 e.symm)
    have hT2 := (hk2.block _ (lt_of_block HE2.out) (by
      rintro (e | ⟨j, hj, e⟩ | e)
      · have := lt_of_block HE2.out; omega
      · exact hns.2.2 j hj e.symm
      · exact hns.2.1 e.symm)).trans HE2.out
    have g0 : W9.cell? ⟨T, 0, none⟩ = some (.pointer (some ⟨Cb, 0, none⟩)) := by rw [cell_row hT2]; rfl
    have c0 := hI9.cht.c0
    have hbw : Below w.heap.size w W9 := HB2.out.trans (hk2.below HB2.out.size (fun k hk e => by
      rcases e with e | ⟨j, hj, e⟩ | e
      · have := HB2.out.size; omega
      · have := hgs.2.2 j hj; omega
      · omega))
    have HnCF := Lib.hid (show ¬ mutF Ms Cb from fun ⟨j, hj, e⟩ => (HC2.out.ne2 j hj).1 e)
    have HnB := Lib.hid (show ¬ (mutF Ms B ∨ B = Cb) from by
      have := lt_of_block HB.out.row
      rintro (⟨j, hj, e⟩ | e)
      · have := hgs.2.2 j hj; omega
      · omega)
    have HnD := Lib.hid (show ¬ (mutF Ms D2 ∨ D2 = Cb) from by
      rintro (⟨j, hj, e⟩ | e)
      · have := hts.2.1 j hj; have := HP1.out; omega
      · have := HP1.out; omega)
    have Hbel := Lib.hid (fun (W' : World) (h : Keeps (fun k => mutF Ms k ∨ k = Cb) W9 W') => (show Below w.heap.size w W' from hbw.trans (h.below hbw.size (fun k hk e => by
      rcases e with ⟨j, hj, e⟩ | e
      · have := hgs.2.2 j hj; omega
      · omega))))
    have Hbo := Lib.hid (fun (W' : World) (h : Keeps (mutF Ms) W9 W') => HB.out.below (Hbel.out W' (h.mono (fun k _ e => .inl e))) (Nat.le_refl _))
    have HwP := Lib.hid (whK_wpl HL.out)
    have Hde := Lib.hid (show Dealt E mt m (whK L m) (SeP E mt) by have h := dealt_all (nm := nm) (L := L) (m := m) E (whK L m); rw [HMt.out] at h; exact h)
    have HAll := Lib.hid (show frK E mt m (whK L m) 0 = allK mt m by
      have h := frK_whole (nm := nm) HL.out E
      rw [HMt.out] at h
      rw [h]; unfold allK; rw [HE.out])
    have Hpl := Lib.hid (show mt.length ≤ 4096 by
      have h := (mtS_len (nm := nm) HL.out).1
      rw [HMt.out] at h
      omega)
    have hlo := HL.out.lo
    have hhi := HL.out.hi
    have HnTF := Lib.hid (show ¬ mutF Ms T from fun e => HnT.out (.inl e))
    have hS0 : Keeps (mutF Ms) W9 W9.drew := Keeps.of_new (drew_b _ _)
    have HI9 := Lib.hid hI9
    have HKd := Lib.hid hKd
    have HD2 := Lib.hid (show w2.heap.size ≤ D2 ∧ D2 < W9.heap.size from ⟨hD2, hDW⟩)
    clear hk2 hns hgs hts hT2 hbw hO hDO hKd hI9 hD2 hDW
    gi_wp2_with fail
    rename_i K0 hK0
    have HK0 := Lib.hid hK0
    clear hK0
    refine Code.wpIn_mono (Q := Exit.then K0 (fun _ _ _ => False)) (fun e a w h => by
      cases e with
      | normal => exact h
      | ret => exact h.elim
      | exit id => exact h.elim
      | goto l => exact h.elim
      | panic c => exact h.elim
      | outgrown => exact h.elim) ?_
    refine Out.region_R (z := 10) (S := fun W' => Keeps (mutF Ms) W9 W') (by kernel_rfl) ?_
    refine Out.anyR_take (i := 0) (oi := { dst := some 22, op := Go.Op.load 86 (Go.Operand.tmp 3), type := 86, pos := "chart.go:79", after := #[], guard := none }) (v := .pointer (some ⟨Cb, 0, none⟩)) rfl (by decide) (by kernel_rfl) (by kernel_rfl) (by kernel_rfl) (by kernel_rfl) (fun _ _ _ h => h) (Or.inl ⟨by rfl, by intro V9 hSw; (try dsimp only at hSw); have q_g0 := (keep_cells hSw (lt_of_cell g0) HnTF.out _).trans g0; go_simp⟩) hS0 ?_
    try simp only [Act.put, List.setIfInBounds_toArray, List.set_cons_zero, List.set_cons_succ]
    refine Out.anyR_take (i := 1) (oi := { dst := some 23, op := Go.Op.load 86 (Go.Operand.tmp 3), type := 86, pos := "chart.go:79", after := #[], guard := none }) (v := .pointer (some ⟨Cb, 0, none⟩)) rfl (by decide) (by kernel_rfl) (by kernel_rfl) (by kernel_rfl) (by kernel_rfl) (fun _ _ _ h => h) (Or.inl ⟨by rfl, by intro V9 hSw; (try dsimp only at hSw); have q_g0 := (keep_cells hSw (lt_of_cell g0) HnTF.out _).trans g0; go_simp⟩) hS0 ?_
    try simp only [Act.put, List.setIfInBounds_toArray, List.set_cons_zero, List.set_cons_succ]
    refine Out.anyR_take (i := 2) (oi := { dst := some 24, op := Go.Op.load 86 (Go.Operand.tmp 3), type := 86, pos := "chart.go:79", after := #[], guard := none }) (v := .pointer (some ⟨Cb, 0, none⟩)) rfl (by decide) (by kernel_rfl) (by kernel_rfl) (by kernel_rfl) (by kernel_rfl) (fun _ _ _ h => h) (Or.inl ⟨by rfl, by intro V9 hSw; (try dsimp only at hSw); have q_g0 := (keep_cells hSw (lt_of_cell g0) HnTF.out _).trans g0; go_simp⟩) hS0 ?_
    try simp only [Act.put, List.setIfInBounds_toArray, List.set_cons_zero, List.set_cons_succ]
    refine Out.anyR_take (i := 3) (oi := { dst := some 25, op := Go.Op.nilCheck (Go.Operand.tmp 24), type := 0, pos := "chart.go:79", after := #[{ on := 2, ground := Go.Ground.data }], guard := none }) (v := .pointer (some ⟨Cb, 0, none⟩)) rfl (by decide) (by kernel_rfl) (by kernel_rfl) (by kernel_rfl) (by kernel_rfl) (fun _ _ _ h => h) (Or.inl ⟨by rfl, by intro V9 hSw; (try dsimp only at hSw); go_simp⟩) hS0 ?_
    try simp only [Act.put, List.setIfInBounds_toArray, List.set_cons_zero, List.set_cons_succ]
    refine Out.anyR_take (i := 4) (oi := { dst := some 26, op := Go.Op.fieldAddr 93 (Go.Operand.tmp 25) 0, type := 0, pos := "chart.go:79", after := #[{ on := 3, ground := Go.Ground.data }], guard := none }) (v := .pointer (some ⟨Cb, 0, none⟩)) rfl (by decide) (by kernel_rfl) (by kernel_rfl) (by kernel_rfl) (by kernel_rfl) (fun _ _ _ h => h) (Or.inl ⟨by rfl, by intro V9 hSw; (try dsimp only at hSw); go_simp⟩) hS0 ?_
    try simp only [Act.put, List.setIfInBounds_toArray, List.set_cons_zero, List.set_cons_succ]
    obtain ⟨X0, hX0⟩ : ∃ X0, W9.drew = X0 := ⟨_, rfl⟩
    have hd0 : Below W9.heap.size W9 X0 := by rw [← hX0]; exact drew_b W9 1
    have HCX := Lib.hid (HI9.out.cht.below hd0 (Nat.le_refl _))
    clear hd0
    rw [hX0] at hS0 ⊢
    clear hX0
    refine Out.anyR_take (i := 5) (oi := { dst := some 27, op := Go.Op.load 72 (Go.Operand.tmp 26), type := 72, pos := "chart.go:79", after := #[{ on := 4, ground := Go.Ground.data }], guard := none }) (v := .pointer (some ⟨B, 0, none⟩)) rfl (by decide) (by kernel_rfl) (by kernel_rfl) (by kernel_rfl) (by kernel_rfl) (fun _ _ _ h => h) (Or.inl ⟨by rfl, by intro V9 hSw; (try dsimp only at hSw); have q_c0 := (keep_cells hSw (lt_of_cell c0) HnCF.out _).trans c0; go_simp⟩) hS0 ?_
    try simp only [Act.put, List.setIfInBounds_toArray, List.set_cons_zero, List.set_cons_succ]
    have HS0 := Lib.hid hS0
    clear hS0
    refine Out.anyR_one (i := 6) (by kernel_rfl) rfl (by rfl) ?_
    intro K hK
    have HKK := Lib.hid hK
    clear hK
    gi_wp2_with fail
    refine ⟨trivial, (callsIn_wide.2 (whole80 B D A n cap nm M A2 m cap2 L X0 (Hbo.out X0 HS0.out) hhi (by omega))).mono ?_⟩
    rintro en X1 ⟨rfl, hb1⟩
    have HS1 := Lib.hid (HS0.out.trans (Keeps.of_new hb1))
    have HX1 := Lib.hid (HCX.out.below hb1 (Nat.le_refl _))
    refine HKK.out _ _ (fun _ _ => HS1.out) ?_
    clear HKK K hb1
    try simp only [Act.put, List.setIfInBounds_toArray, List.set_cons_zero, List.set_cons_succ]
    refine Out.anyR_one (i := 7) (by kernel_rfl) rfl (by rfl) ?_
    intro K hK
    have HKK := Lib.hid hK
    clear hK
    gi_wp2_with fail
    refine ⟨trivial, (callsIn_wide.2 (front78_0 Hfr.out Cb B Me Ms (0, 0) (SeP E mt) A2 cap2 (fun k hk e => HnB.out (.inl (e ▸ hk))) (whK L m) HwP.out Hde.out (mt.length * 4681) X1 HX1.out (Hbo.out X1 HS1.out).c1 (by have := Hpl.out; omega))).mono ?_⟩
    rintro en X2 ⟨rfl, hc3, hk3⟩
    rw [HAll.out]
    obtain ⟨R, hR⟩ : ∃ R, allK mt m = R := ⟨_, rfl⟩
    rw [hR]
    have HR := Lib.hid hR
    have HS2 := Lib.hid (HS1.out.trans (hk3))
    have HX2 := Lib.hid hc3
    refine HKK.out _ _ (fun _ _ => HS2.out) ?_
    clear HKK K hc3 hk3 hR
    unfold knV
    try simp only [Act.put, List.setIfInBounds_toArray, List.set_cons_zero, List.set_cons_succ]
    refine Out.anyR_free (i := 8) (oi := { dst := some 30, op := Go.Op.nilCheck (Go.Operand.tmp 22), type := 0, pos := "chart.go:79", after := #[{ on := 0, ground := Go.Ground.data }, { on := 0, ground := Go.Ground.phase }, { on := 1, ground := Go.Ground.phase }, { on := 2, ground := Go.Ground.phase }, { on := 3, ground := Go.Ground.phase }, { on := 4, ground := Go.Ground.phase }, { on := 5, ground := Go.Ground.phase }, { on := 6, ground := Go.Ground.phase }, { on := 7, ground := Go.Ground.phase }], guard := none }) (v := .pointer (some ⟨Cb, 0, none⟩)) rfl (by decide) (by kernel_rfl) (by kernel_rfl) (by kernel_rfl) (fun _ _ _ h => h) (Or.inl ⟨by rfl, by intro V9 hSw; (try dsimp only at hSw); go_simp⟩) HS2.out ?_
    try simp only [Act.put, List.setIfInBounds_toArray, List.set_cons_zero, List.set_cons_succ]
    refine Out.anyR_free (i := 9) (oi := { dst := some 31, op := Go.Op.fieldAddr 93 (Go.Operand.tmp 30) 3, type := 0, pos := "chart.go:79", after := #[{ on := 8, ground := Go.Ground.data }, { on := 0, ground := Go.Ground.phase }, { on := 1, ground := Go.Ground.phase }, { on := 2, ground := Go.Ground.phase }, { on := 3, ground := Go.Ground.phase }, { on := 4, ground := Go.Ground.phase }, { on := 5, ground := Go.Ground.phase }, { on := 6, ground := Go.Ground.phase }, { on := 7, ground := Go.Ground.phase }], guard := none }) (v := .pointer (some ⟨Cb, 6, none⟩)) rfl (by decide) (by kernel_rfl) (by kernel_rfl) (by kernel_rfl) (fun _ _ _ h => h) (Or.inl ⟨by rfl, by intro V9 hSw; (try dsimp only at hSw); go_simp⟩) HS2.out ?_
    try simp only [Act.put, List.setIfInBounds_toArray, List.set_cons_zero, List.set_cons_succ]
    refine Out.anyR_one (i := 10) (by kernel_rfl) rfl (by rfl) ?_
    intro K hK
    have HKK := Lib.hid hK
    clear hK
    have hc9 := HX2.out.putAll R.1 R.2
    obtain ⟨z6, z7⟩ := HX2.out.c6
    have f6 := HX2.out.fz 6
    have f7 := HX2.out.fz 7
    have hk9 : Keeps (fun k => mutF Ms k ∨ k = Cb) X2 ((X2.setCell ⟨Cb, 6, none⟩ (.int .i64 R.1)).setCell ⟨Cb, 7, none⟩ (.int .i64 R.2)) := ((keeps_setCell X2 Cb 6 (.int .i64 R.1)).trans (keeps_setCell (X2.setCell ⟨Cb, 6, none⟩ (.int .i64 R.1)) Cb 7 (.int .i64 R.2))).mono (fun k _ e => .inr e)
    have HC9 := Lib.hid hc9
    have HS9 := Lib.hid ((HS2.out.mono (fun k _ e => (.inl e : mutF Ms k ∨ k = Cb))).trans hk9)
    clear hc9 hk9
    gi_wp2_with fail
    refine HKK.out _ _ (fun h _ => absurd rfl h) ?_
    clear HKK K z6 z7 f6 f7
    try simp only [Act.put, List.setIfInBounds_toArray, List.set_cons_zero, List.set_cons_succ]
    refine Out.anyR_done (by kernel_rfl) ?_ _
    refine HK0.out _ _ ?_
    clear HK0 K0
    have hc9 := HC9.out
    have hs9 := HS9.out
    obtain ⟨X3, hX3⟩ : ∃ X3, (X2.setCell ⟨Cb, 6, none⟩ (.int .i64 R.1)).setCell ⟨Cb, 7, none⟩ (.int .i64 R.2) = X3 := ⟨_, rfl⟩
    rw [hX3] at hc9 hs9 ⊢
    have g3 := (keep_cells hs9 (lt_of_cell g0) HnT.out 0).trans g0
    have HKd3 := Lib.hid ((hs9.block _ HD2.out.2 HnD.out).trans HKd.out)
    have Hc9 := Lib.hid hc9
    have Hs9 := Lib.hid hs9
    clear hc9 hs9 hX3 g0 c0
    gi_wp2_with fail
    refine ⟨by simp, .inl ⟨_, _, rfl, run_takeDeferred HKd3.out, ?_⟩⟩
    have hput : Keeps (fun j => j = D2) X3 (X3.putObj D2 (.deferred none)) := Keeps.putObj _ _ _ rfl
    refine ⟨_, results_tmp rfl _ _ _, ?_⟩
    have hlt := HTw.out
    have hd2 := HD2.out
    have hp1 := HP1.out
    refine ⟨Cb, Me, Ms, mt.length * 4681 + 4680, rfl, ?_, (Hbel.out X3 Hs9.out).trans (hput.below (Hbel.out X3 Hs9.out).size (fun k hk e => by have := HB2.out.size; omega)), HGe.out⟩
    rw [HR.out]
    exact Hc9.out.keep hput (by show ¬ _ = _; omega) (by show ¬ _ = _; omega) (fun j hj => by have := hlt.2.1 j hj; show ¬ _ = _; omega)
end Go.Proofs.Ythdjbapidodlfaa
