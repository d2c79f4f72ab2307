/- For every sheet and three small numbers ListOrder returns true, and its arguments read as before. No condition. -/
import Derived.Test.YtnodkgejggnehaaLift
import Derived.Test.YtnodkgejggnehaaLift
import Derived.Test.YtnodkgejggnehaaLo
namespace Go.Proofs.Ytnodkgejggnehaa.listOrder
set_option linter.unusedSimpArgs false
set_option linter.unusedVariables false
open Go.Joins Go.ChangeShapes Go.WideShapes Go.ChangeAt Go.RowKit Go.Deep

set_option maxRecDepth 100000 in
theorem lifted (os : Os) (started : os.Started) (H : Type) (enc : TypeId × Value → H) :
    ReturnsInHanded {} Try.checked os 9 .any (Rows.listOrderSpec.pre6 enc Try.prog Try.f9 Rows.listOrderRow.domain false) (Rows.listOrderSpec.post enc Try.prog Try.f9 false true false false) := by
  refine returnsInHanded_of_change (C := Try.checked) own0 started (by kernel_rfl) Try.func9
    (ChangeSpec.witness6 (enc := enc) (C := Try.checked) false ⟨#[], #[.agg #[.int .i64 0, .int .i64 0, .slice none 0 0, .slice none 0 0], .agg #[.int .u8 0, .int .u8 0, .int .u8 0]], []⟩ 8 (by kernel_rfl) (by kernel_rfl) (by kernel_rfl) (by kernel_rfl)) ?_
  intro W base args ds gs before hval0 hW hcnd _
  have hval : ∀ (j : Nat) t v, Try.f9.params[j]? = some t → args[j]? = some v → Value.okWide Try.prog W .any base t v := hval0
  have hW' := hW
  obtain ⟨p, q, hA0, hV, rfl, hfz, hnd⟩ := hW
  have hA : DataW.TrodAll enc Try.prog W 0 (fun _ => true) true Try.f9.params.toList args.toList ds p := hA0
  have hargs := hA
  have hlt : ∀ x ∈ p, x.block < W.heap.size := fun x hx => by simpa using hW'.lt x (List.mem_append_left _ hx)
  rw [Try.params9] at hA hval
  obtain ⟨v0, vs0, d0, ds0, p0, q0, hvs, rfl, rfl, h0, r0⟩ := trodAll_cons hA
  obtain ⟨v1, vs1, d1, ds1, p1, q1, rfl, rfl, rfl, h1, r1⟩ := trodAll_cons r0
  obtain ⟨rfl, rfl, rfl⟩ := trodAll_nil r1
  obtain rfl : args = #[v0, v1] := by cases args; simp_all
  obtain ⟨rfl, rfl⟩ := trodVars_none hV
  simp only [List.append_nil] at hW'
  obtain ⟨sl0, sr0, A0, n0, cap0, zs0, AK0, kn0, kc0, ks0, rfl, hR0, hK0, hc0, hkc0, hn0, hkn0⟩ := open_sheet (hval 0 25 v0 rfl rfl) h0
  obtain ⟨ax1, ay1, az1, rfl, wx1, wy1, wz1⟩ := open_arr3 Try.underlying53 Try.underlying5 (by kernel_rfl) (by kernel_rfl) (hval 1 53 v1 rfl rfl) h1
  have e1 : IntKind.u8.min = 0 := rfl
  have g1 : IntKind.u8.max = 255 := rfl
  have bx1 : 0 ≤ ax1 ∧ ax1 ≤ 255 := by simpa [Lit.wf, e1, g1] using wx1
  have by1 : 0 ≤ ay1 ∧ ay1 ≤ 255 := by simpa [Lit.wf, e1, g1] using wy1
  have bz1 : 0 ≤ az1 ∧ az1 ≤ 255 := by simpa [Lit.wf, e1, g1] using wz1
  obtain ⟨xa1, rfl⟩ := Int.eq_ofNat_of_zero_le bx1.1
  obtain ⟨xb1, rfl⟩ := Int.eq_ofNat_of_zero_le by1.1
  obtain ⟨xc1, rfl⟩ := Int.eq_ofNat_of_zero_le bz1.1
  refine (order9 sl0 sr0 A0 n0 cap0 zs0 AK0 kn0 kc0 ks0 xa1 xb1 xc1 W hR0 hK0 hc0 (by omega) (by omega) (by omega)).mono fun e W' ⟨he, hb⟩ => ?_
  subst he
  refine ⟨_, rfl, _, _, _, [], _, [], hW', trodAll_cons_mk (shut_bool Try.underlying4 _) trodAll_mk0, below_args laid hb (by kernel_rfl) hargs hlt, rfl, hb.frame _, fun h => by cases h⟩

theorem over : Rows.listOrderRow.holds Try.pinned (OpenSpec.ofChange Rows.listOrderSpec) :=
  OpenClaim.holds_of_wide 9 Try.f9 rfl rfl rfl rfl rfl rfl rfl ⟨rfl, rfl, rfl, rfl, rfl⟩ rfl rfl rfl rfl rfl (by kernel_rfl) Try.func9 (by kernel_rfl)
    (of_decide_eq_true (by kernel_rfl)) (by unfold Func.isWrapper; first | (rw [if_pos (by decide +kernel)]; kernel_rfl) | (rw [if_neg (by decide +kernel)]; exact ⟨rfl, rfl⟩))
    (fun os started H enc _ => lifted os started H enc)

theorem proved : Rows.ListOrderSaid := over
end Go.Proofs.Ytnodkgejggnehaa.listOrder
