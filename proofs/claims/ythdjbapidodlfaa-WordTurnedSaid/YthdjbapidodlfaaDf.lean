/- Stage 4: dense, fine. -/
import Derived.Test.YthdjbapidodlfaaU1
namespace Go.Proofs.Ythdjbapidodlfaa
set_option linter.unusedSimpArgs false
set_option linter.unusedVariables false
open Go.RowKit Go.Shelf
theorem grtB_facts {n : Nat} {L : List (List Int)} (h : grtB n L = false) : n ≤ 50 ∧ L.length ≤ 8 ∧ ∀ l ∈ L, l.length ≤ 12 := by
  simp only [grtB, Bool.or_eq_false_iff, decide_eq_false_iff_not, Nat.not_lt, List.any_eq_false, decide_eq_true_eq] at h
  exact ⟨h.1.1, h.1.2, h.2⟩
theorem grtB_m {n : Nat} {L : List (List Int)} (h : grtB n L = false) : L.length ≤ 8 := (grtB_facts h).2.1
def fnB (n : Nat) (zs : List Rg) (L : List (List Int)) : Bool := !grtB n L && decide (chkL zs L = 0) && decide (((mtS (cls (prs zs)) L).length : Int) ≤ 1000)
section
attribute [local go_sem ↓] exec_app at_app
attribute [local go_sem] Oper.semAt_some
set_option maxRecDepth 100000 in
set_option maxHeartbeats 4000000 in
theorem fine40 (A : Option Addr) (n cap : Nat) (zs : List Rg) (A2 : Option Addr) (m cap2 : Nat) (L : List (List Int)) (w : World) (h : Rgs w A n zs) (hL : Lns w A2 m L) :
    Calls Try.prog 40 #[.agg #[.slice A n cap], .slice A2 m cap2] w fun e w' => e = .returned (.bool (fnB n zs L)) ∧ Below w.heap.size w w' := by
  have Hlen := Lib.hid hL.1
  have hb0 := below_alloc_ w (.cells #[.slice A n cap] 24)
  have hr0 := heap_alloc_new_ w (.cells #[.slice A n cap] 24)
  obtain ⟨W0, hW0⟩ : ∃ W0, w.alloc (.cells #[.slice A n cap] 24) = W0 := ⟨_, rfl⟩
  obtain ⟨R, hR⟩ : ∃ R, w.heap.size = R := ⟨_, rfl⟩
  rw [hW0] at hb0 hr0
  rw [hR] at hr0
  have S := Lib.hid (h.below hb0 (Nat.le_refl _))
  have X := Lib.hid (hL.below hb0 (Nat.le_refl _))
  have B := Lib.hid hb0
  have HW0 := Lib.hid hW0
  have HR := Lib.hid hR
  have rc : W0.cell? ⟨R, 0, none⟩ = some (.slice A n cap) := by rw [cell_row hr0]; rfl
  have hrow := Lib.hid hr0
  clear h hL hb0 hr0 hW0 hR
  go_enter Try.func40, Try.ntmps40
  go_wp2_with fail
  rw [HW0.out]
  try rw [HR.out]
  try go_wp2_with fail
  refine (great13 A n cap A2 m cap2 L W0 X.out).mono ?_
  rintro en w1 ⟨rfl, hb⟩
  replace S := Lib.hid (S.out.below hb (Nat.le_refl _))
  replace X := Lib.hid (X.out.below hb (Nat.le_refl _))
  replace B := Lib.hid (B.out.trans (hb.mono B.out.size))
  replace hrow := Lib.hid ((hb.block R (lt_of_block hrow.out)).trans hrow.out)
  clear hb rc
  cases hg : grtB n L
  rotate_left
  · have HG := Lib.hid hg
    clear hg
    go_wp2_with fail
    go_ret
    exact ⟨by unfold fnB; rw [HG.out]; rfl, B.out⟩
  have HG := Lib.hid hg
  have hm : m ≤ 9223372036854775807 := by
    have h8 := grtB_m hg
    rw [Hlen.out] at h8
    omega
  have Hm := Lib.hid hm
  clear hg hm
  have rc : w1.cell? ⟨R, 0, none⟩ = some (.slice A n cap) := by rw [cell_row hrow.out]; rfl
  go_wp2_with fail
  refine (refLines22 A n cap zs A2 m cap2 L w1 S.out X.out Hm.out).mono ?_
  rintro en w2 ⟨rfl, hb⟩
  replace S := Lib.hid (S.out.below hb (Nat.le_refl _))
  replace X := Lib.hid (X.out.below hb (Nat.le_refl _))
  replace B := Lib.hid (B.out.trans (hb.mono B.out.size))
  replace hrow := Lib.hid ((hb.block R (lt_of_block hrow.out)).trans hrow.out)
  clear hb rc
  obtain ⟨c, hc⟩ : ∃ c, chkL zs L = c := ⟨_, rfl⟩
  rw [hc]
  have HC := Lib.hid hc
  clear hc
  by_cases h0 : c = 0
  rotate_left
  · have d0 : (c == 0) = false := by simpa using h0
    have H0 := Lib.hid h0
    clear h0
    go_wp2_with fail
    go_ret
    exact ⟨by unfold fnB; rw [HG.out, HC.out]; simp [H0.out], B.out⟩
  subst h0
  have rc : w2.cell? ⟨R, 0, none⟩ = some (.slice A n cap) := by rw [cell_row hrow.out]; rfl
  go_wp2_with fail
  refine (many58 A n cap zs A2 m cap2 L w2 S.out X.out HC.out).mono ?_
  rintro en w3 ⟨rfl, hb⟩
  replace B := Lib.hid (B.out.trans (hb.mono B.out.size))
  clear hb rc
  obtain ⟨q, hq⟩ : ∃ q : Int, ((mtS (cls (prs zs)) L).length : Int) = q := ⟨_, rfl⟩
  rw [hq]
  have HQ := Lib.hid hq
  clear hq
  go_wp2_with fail
  go_ret
  refine ⟨?_, B.out⟩
  unfold fnB
  rw [HG.out, HC.out, HQ.out]
  simp
end
end Go.Proofs.Ythdjbapidodlfaa
