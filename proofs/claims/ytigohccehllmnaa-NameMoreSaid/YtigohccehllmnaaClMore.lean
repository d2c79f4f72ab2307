/- For every list, link, two numbers and two numbers more NameMore returns true, and its arguments read as before. No condition. -/
import Derived.Test.YtigohccehllmnaaLift
import Derived.Test.YtigohccehllmnaaLmo
namespace Go.Proofs.Ytigohccehllmnaa.nameMore
set_option linter.unusedSimpArgs false
set_option linter.unusedVariables false
open Go.Joins Go.ChangeShapes Go.WideShapes Go.ChangeAt Go.RowKit Go.Deep

set_option maxRecDepth 100000 in
theorem lifted (os : Os) (started : os.Started) (H : Type) (enc : TypeId × Value → H) :
    ReturnsInHanded {} Try.checked os 11 .any (Rows.nameMoreSpec.pre6 enc Try.prog Try.f11 Rows.nameMoreRow.domain false) (Rows.nameMoreSpec.post enc Try.prog Try.f11 false true false false) := by
  refine returnsInHanded_of_change (C := Try.checked) own0 started (by kernel_rfl) Try.func11
    (ChangeSpec.witness6 (enc := enc) (C := Try.checked) false ⟨#[], #[.agg #[.int .i64 0, .slice none 0 0, .slice none 0 0, .slice none 0 0], .agg #[.int .i64 0, .int .i64 0, .int .i64 0], .int .u8 0, .int .u32 0, .agg #[.int .u64 0, .int .u64 0]], []⟩ 8 (by kernel_rfl) (by kernel_rfl) (by kernel_rfl) (by kernel_rfl)) ?_
  intro W base args ds gs before hval0 hW hcnd _
  have hval : ∀ (j : Nat) t v, Try.f11.params[j]? = some t → args[j]? = some v → Value.okWide Try.prog W .any base t v := hval0
  have hW' := hW
  obtain ⟨p, q, hA0, hV, rfl, hfz, hnd⟩ := hW
  have hA : DataW.TrodAll enc Try.prog W 0 (fun _ => true) true Try.f11.params.toList args.toList ds p := hA0
  have hargs := hA
  have hlt : ∀ x ∈ p, x.block < W.heap.size := fun x hx => by simpa using hW'.lt x (List.mem_append_left _ hx)
  rw [Try.params11] at hA hval
  obtain ⟨v0, vs0, d0, ds0, p0, q0, hvs, rfl, rfl, h0, r0⟩ := trodAll_cons hA
  obtain ⟨v1, vs1, d1, ds1, p1, q1, rfl, rfl, rfl, h1, r1⟩ := trodAll_cons r0
  obtain ⟨v2, vs2, d2, ds2, p2, q2, rfl, rfl, rfl, h2, r2⟩ := trodAll_cons r1
  obtain ⟨v3, vs3, d3, ds3, p3, q3, rfl, rfl, rfl, h3, r3⟩ := trodAll_cons r2
  obtain ⟨v4, vs4, d4, ds4, p4, q4, rfl, rfl, rfl, h4, r4⟩ := trodAll_cons r3
  obtain ⟨rfl, rfl, rfl⟩ := trodAll_nil r4
  obtain rfl : args = #[v0, v1, v2, v3, v4] := by cases args; simp_all
  obtain ⟨rfl, rfl⟩ := trodVars_none hV
  simp only [List.append_nil] at hW'
  obtain ⟨l0, rfl, hL0⟩ := open_nlist (hval 0 25 v0 rfl rfl) h0
  obtain ⟨z1, rfl, ra1, rb1⟩ := open_nlink (hval 1 60 v1 rfl rfl) h1
  obtain ⟨u2, rfl, rfl, rfl, w2⟩ := open_int Try.underlying5 (hval 2 5 v2 rfl rfl) h2
  have e2 : IntKind.u8.min = 0 := rfl
  have g2 : IntKind.u8.max = 255 := rfl
  have b2 : 0 ≤ u2 ∧ u2 ≤ 255 := by simpa [Lit.wf, e2, g2] using w2
  obtain ⟨x2, rfl⟩ := Int.eq_ofNat_of_zero_le b2.1
  obtain ⟨u3, rfl, rfl, rfl, w3⟩ := open_int Try.underlying61 (hval 3 61 v3 rfl rfl) h3
  have e3 : IntKind.u32.min = 0 := rfl
  have g3 : IntKind.u32.max = 4294967295 := rfl
  have b3 : 0 ≤ u3 ∧ u3 ≤ 4294967295 := by simpa [Lit.wf, e3, g3] using w3
  obtain ⟨x3, rfl⟩ := Int.eq_ofNat_of_zero_le b3.1
  obtain ⟨ax4, ay4, rfl, wx4, wy4⟩ := open_arr2 Try.underlying56 Try.underlying52 (by kernel_rfl) (by kernel_rfl) (hval 4 56 v4 rfl rfl) h4
  have e4 : IntKind.u64.min = 0 := rfl
  have g4 : IntKind.u64.max = 18446744073709551615 := rfl
  have bx4 : 0 ≤ ax4 ∧ ax4 ≤ 18446744073709551615 := by simpa [Lit.wf, e4, g4] using wx4
  have by4 : 0 ≤ ay4 ∧ ay4 ≤ 18446744073709551615 := by simpa [Lit.wf, e4, g4] using wy4
  obtain ⟨xa4, rfl⟩ := Int.eq_ofNat_of_zero_le bx4.1
  obtain ⟨xb4, rfl⟩ := Int.eq_ofNat_of_zero_le by4.1
  refine (more11 l0 z1 x2 x3 xa4 xb4 W hL0 ra1 rb1 (by omega) (by omega) (by omega) (by omega)).mono fun e W' ⟨he, hb⟩ => ?_
  subst he
  refine ⟨_, rfl, _, _, _, [], _, [], hW', trodAll_cons_mk (shut_bool Try.underlying4 _) trodAll_mk0, below_args laid hb (by kernel_rfl) hargs hlt, rfl, hb.frame _, fun h => by cases h⟩

theorem over : Rows.nameMoreRow.holds Try.pinned (OpenSpec.ofChange Rows.nameMoreSpec) :=
  OpenClaim.holds_of_wide 11 Try.f11 rfl rfl rfl rfl rfl rfl rfl ⟨rfl, rfl, rfl, rfl, rfl⟩ rfl rfl rfl rfl rfl (by kernel_rfl) Try.func11 (by kernel_rfl)
    (of_decide_eq_true (by kernel_rfl)) (by unfold Func.isWrapper; first | (rw [if_pos (by decide +kernel)]; kernel_rfl) | (rw [if_neg (by decide +kernel)]; exact ⟨rfl, rfl⟩))
    (fun os started H enc _ => lifted os started H enc)

theorem proved : Rows.NameMoreSaid := over
end Go.Proofs.Ytigohccehllmnaa.nameMore
