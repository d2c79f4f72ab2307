/- Stage 4: Matches, of the document. -/
import Derived.Test.YthdjbapidodlfaaAll
import Derived.Test.YthdjbapidodlfaaR30
namespace Go.Proofs.Ythdjbapidodlfaa
set_option linter.unusedSimpArgs false
set_option linter.unusedVariables false
open Go.RowKit Go.Shelf
attribute [local go_sem ↓] exec_app at_app
attribute [local go_sem] Oper.semAt_some

theorem allS_all {zs : List Rg} {L : List (List Int)} {m : Nat} (hl : L.length = m) (h : chkL zs L = 0) : allS (refC (prs zs)) L m = (mtS (cls (prs zs)) L).map (·.take m) :=
  (allS_mtS (lv_of hl h) (fun a b ha hb => refC_cls (inW_prs (chkB_zero.1 (chkL_zero.1 h).1).2) ha hb)).symm
set_option maxRecDepth 100000 in
set_option maxHeartbeats 8000000 in
theorem refMatches18 (A : Option Addr) (n cap : Nat) (zs : List Rg) (A2 : Option Addr) (m cap2 : Nat) (L : List (List Int)) (w : World) (h : Rgs w A n zs) (hL : Lns w A2 m L) (hm : m ≤ 9223372036854775807) :
    Calls Try.prog 18 #[.agg #[.slice A n cap], .slice A2 m cap2] w fun e w' => Below w.heap.size w w' ∧
      ((chkL zs L = 0 ∧ ∃ C N c, e = .returned (.tuple #[.slice C N c, .int .i64 0]) ∧ Lns w' C N ((mtS (cls (prs zs)) L).map (·.take m)) ∧ N ≤ c) ∨
       (chkL zs L ≠ 0 ∧ e = .returned (.tuple #[.slice none 0 0, .int .i64 (chkL zs L)]))) := by
  have Hlen := Lib.hid hL.1
  have hb0 := below_alloc_ w (.cells #[.slice A n cap] 24)
  have hr0 := heap_alloc_new_ w (.cells #[.slice A n cap] 24)
  obtain ⟨W0, hW0⟩ : ∃ W0, w.alloc (.cells #[.slice A n cap] 24) = W0 := ⟨_, rfl⟩
  obtain ⟨R, hR⟩ : ∃ R, w.heap.size = R := ⟨_, rfl⟩
  rw [hW0] at hb0 hr0
  rw [hR] at hr0
  have S := Lib.hid (h.below hb0 (Nat.le_refl _))
  have X := Lib.hid (hL.below hb0 (Nat.le_refl _))
  have B0 := Lib.hid hb0
  have R0 := Lib.hid hr0
  have HW0 := Lib.hid hW0
  have HR := Lib.hid hR
  have r0 : W0.cell? ⟨R, 0, none⟩ = some (.slice A n cap) := by rw [cell_row hr0]; rfl
  have Hm := Lib.hid hm
  clear h hL hb0 hr0 hW0 hR hm
  go_enter Try.func18, Try.ntmps18
  go_wp2_with fail
  rw [HW0.out]
  try rw [HR.out]
  try go_wp2_with fail
  have hcb := refLines22 A n cap zs A2 m cap2 L W0 S.out X.out Hm.out
  by_cases h0 : chkL zs L = 0
  rotate_left
  · have hcb2 := fun w2 (hb : Below W0.heap.size W0 w2) => refLines22 A n cap zs A2 m cap2 L w2 (S.out.below hb (Nat.le_refl _)) (X.out.below hb (Nat.le_refl _)) Hm.out
    obtain ⟨c, hc⟩ : ∃ c, chkL zs L = c := ⟨_, rfl⟩
    rw [hc] at h0 hcb
    simp only [hc] at hcb2
    have Hcb2 := Lib.hid hcb2
    have Hc := Lib.hid hc
    have H0 := Lib.hid h0
    have d0 : (c != 0) = true := by rw [bne_iff_ne]; exact h0
    clear hc hcb2 h0
    refine hcb.mono ?_
    rintro en w1 ⟨rfl, hb⟩
    have r1 : w1.cell? ⟨R, 0, none⟩ = some (.slice A n cap) := by rw [cell_row ((hb.block _ (lt_of_block R0.out)).trans R0.out)]; rfl
    have hcb3 := Hcb2.out w1 hb
    have HB := Lib.hid (B0.out.trans (hb.mono B0.out.size))
    clear hb r0 hcb Hcb2
    go_wp2_with fail
    refine hcb3.mono ?_
    rintro en w2 ⟨rfl, hb⟩
    have HB2 := Lib.hid (HB.out.trans (hb.mono HB.out.size))
    clear hb hcb3 r1
    go_wp2_with fail
    refine bodyPost_ret (v := .tuple #[.slice none 0 0, .int .i64 c]) (by simp [results, Try.results18, go_sem]) rfl ?_
    exact ⟨HB2.out, .inr ⟨by rw [Hc.out]; exact H0.out, by rw [Hc.out]⟩⟩
  rw [h0] at hcb
  refine hcb.mono ?_
  rintro en w1 ⟨rfl, hb⟩
  have r1 : w1.cell? ⟨R, 0, none⟩ = some (.slice A n cap) := by rw [cell_row ((hb.block _ (lt_of_block R0.out)).trans R0.out)]; rfl
  have key := all56 A n cap zs A2 m cap2 L w1 (S.out.below hb (Nat.le_refl _)) (X.out.below hb (Nat.le_refl _)) h0
  rw [allS_all Hlen.out h0] at key
  obtain ⟨l, hl⟩ : ∃ l, (mtS (cls (prs zs)) L).map (·.take m) = l := ⟨_, rfl⟩
  rw [hl] at key
  have Hl := Lib.hid hl
  have H0 := Lib.hid h0
  have HB := Lib.hid (B0.out.trans (hb.mono B0.out.size))
  clear hb r0 hcb hl h0
  go_wp2_with fail
  refine key.mono ?_
  rintro en w2 ⟨C, c, rfl, hl, hc, hb⟩
  have HL2 := Lib.hid hl
  have HB2 := Lib.hid (HB.out.trans (hb.mono HB.out.size))
  obtain ⟨N, hN⟩ : ∃ N, l.length = N := ⟨_, rfl⟩
  rw [hN] at HL2 hc ⊢
  clear hl hb key hN r1
  go_wp2_with fail
  refine bodyPost_ret (v := .tuple #[.slice C N c, .int .i64 0]) (by simp [results, Try.results18, go_sem]) rfl ?_
  exact ⟨HB2.out, .inl ⟨H0.out, C, N, c, rfl, by rw [Hl.out]; exact HL2.out, hc⟩⟩
end Go.Proofs.Ythdjbapidodlfaa
