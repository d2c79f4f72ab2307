/- Stage 4: how many matches there are, in the document. -/
import Derived.Test.YthdjbapidodlfaaM18
namespace Go.Proofs.Ythdjbapidodlfaa
set_option linter.unusedSimpArgs false
set_option linter.unusedVariables false
open Go.RowKit Go.Shelf
attribute [local go_sem ↓] exec_app at_app
attribute [local go_sem] Oper.semAt_some

set_option maxRecDepth 100000 in
set_option maxHeartbeats 4000000 in
theorem many58 (A : Option Addr) (n cap : Nat) (zs : List Rg) (A2 : Option Addr) (m cap2 : Nat) (L : List (List Int)) (w : World) (h : Rgs w A n zs) (hL : Lns w A2 m L) (hz : chkL zs L = 0) :
    Calls Try.prog 58 #[.agg #[.slice A n cap], .slice A2 m cap2] w fun e w' => e = .returned (.int .i64 ((mtS (cls (prs zs)) L).length : Int)) ∧ Below w.heap.size w w' := by
  have hb0 := below_alloc_ w (.cells #[.slice A n cap] 24)
  have hr0 := heap_alloc_new_ w (.cells #[.slice A n cap] 24)
  obtain ⟨W0, hW0⟩ : ∃ W0, w.alloc (.cells #[.slice A n cap] 24) = W0 := ⟨_, rfl⟩
  obtain ⟨R, hR⟩ : ∃ R, w.heap.size = R := ⟨_, rfl⟩
  rw [hW0] at hb0 hr0
  rw [hR] at hr0
  have key := all56 A n cap zs A2 m cap2 L W0 (h.below hb0 (Nat.le_refl _)) (hL.below hb0 (Nat.le_refl _)) hz
  rw [allS_all hL.1 hz] at key
  have e : ((mtS (cls (prs zs)) L).map (·.take m)).length = (mtS (cls (prs zs)) L).length := List.length_map _
  rw [e] at key
  obtain ⟨N, hN⟩ : ∃ N, (mtS (cls (prs zs)) L).length = N := ⟨_, rfl⟩
  rw [hN] at key
  have HN := Lib.hid hN
  have B0 := Lib.hid hb0
  have HW0 := Lib.hid hW0
  have HR := Lib.hid hR
  have r0 : W0.cell? ⟨R, 0, none⟩ = some (.slice A n cap) := by rw [cell_row hr0]; rfl
  clear h hL hb0 hr0 hW0 hR hz e hN
  go_enter Try.func58, Try.ntmps58
  go_wp2_with fail
  rw [HW0.out]
  try rw [HR.out]
  try go_wp2_with fail
  refine key.mono ?_
  rintro en w2 ⟨C, c, rfl, hl, hc, hb⟩
  have HB2 := Lib.hid (B0.out.trans (hb.mono B0.out.size))
  clear hl hb key r0
  go_wp2_with fail
  go_ret
  exact ⟨by rw [HN.out]; rfl, HB2.out⟩
end Go.Proofs.Ythdjbapidodlfaa
