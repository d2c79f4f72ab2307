/- For every list of tones, pair of numbers, list of numbers and list of steps ScaleShared returns true, and its arguments read as before. No condition. -/
import Derived.Test.YtdfdlklglbefiaaLift
import Derived.Test.YtdfdlklglbefiaaLawS
namespace Go.Proofs.Ytdfdlklglbefiaa.scaleShared
set_option linter.unusedSimpArgs false
set_option linter.unusedVariables false
open Go.Joins Go.ChangeShapes Go.WideShapes Go.ChangeAt Go.RowKit Go.Deep

set_option maxRecDepth 100000 in
theorem lifted (os : Os) (started : os.Started) (H : Type) (enc : TypeId × Value → H) :
    ReturnsInHanded {} Try.checked os 11 .any (Rows.scaleSharedSpec.pre6 enc Try.prog Try.f11 Rows.scaleSharedRow.domain false) (Rows.scaleSharedSpec.post enc Try.prog Try.f11 false true false false) := by
  refine returnsInHanded_of_change (C := Try.checked) own0 started (by kernel_rfl) Try.func11
    (ChangeSpec.witness6 (enc := enc) (C := Try.checked) false ⟨#[], #[.slice none 0 0, .agg #[.int .u8 0, .int .u8 0], .slice none 0 0, .slice none 0 0], []⟩ 8 (by kernel_rfl) (by kernel_rfl) (by kernel_rfl) (by kernel_rfl)) ?_
  intro W base args ds gs before hval0 hW hcnd _
  have hval : ∀ (j : Nat) t v, Try.f11.params[j]? = some t → args[j]? = some v → Value.okWide Try.prog W .any base t v := hval0
  have hW' := hW
  obtain ⟨p, q, hA0, hV, rfl, hfz, hnd⟩ := hW
  have hA : DataW.TrodAll enc Try.prog W 0 (fun _ => true) true Try.f11.params.toList args.toList ds p := hA0
  have hargs := hA
  have hlt : ∀ x ∈ p, x.block < W.heap.size := fun x hx => by simpa using hW'.lt x (List.mem_append_left _ hx)
  rw [Try.params11] at hA hval
  obtain ⟨v0, vs0, d0, ds0, p0, q0, hvs, rfl, rfl, h0, r0⟩ := trodAll_cons hA
  obtain ⟨v1, vs1, d1, ds1, p1, q1, rfl, rfl, rfl, h1, r1⟩ := trodAll_cons r0
  obtain ⟨v2, vs2, d2, ds2, p2, q2, rfl, rfl, rfl, h2, r2⟩ := trodAll_cons r1
  obtain ⟨v3, vs3, d3, ds3, p3, q3, rfl, rfl, rfl, h3, r3⟩ := trodAll_cons r2
  obtain ⟨rfl, rfl, rfl⟩ := trodAll_nil r3
  obtain rfl : args = #[v0, v1, v2, v3] := by cases args; simp_all
  obtain ⟨rfl, rfl⟩ := trodVars_none hV
  simp only [List.append_nil] at hW'
  obtain ⟨A0, n0, cap0, zs0, rfl, hR0, hn0, hc0⟩ := open_rgs (hval 0 22 v0 rfl rfl) h0
  obtain ⟨ax1, ay1, rfl, wx1, wy1⟩ := open_arr2 Try.underlying62 Try.underlying5 (by kernel_rfl) (by kernel_rfl) (hval 1 62 v1 rfl rfl) h1
  have e1 : IntKind.u8.min = 0 := rfl
  have g1 : IntKind.u8.max = 255 := rfl
  have bx1 : 0 ≤ ax1 ∧ ax1 ≤ 255 := by simpa [Lit.wf, e1, g1] using wx1
  have by1 : 0 ≤ ay1 ∧ ay1 ≤ 255 := by simpa [Lit.wf, e1, g1] using wy1
  obtain ⟨xa1, rfl⟩ := Int.eq_ofNat_of_zero_le bx1.1
  obtain ⟨xb1, rfl⟩ := Int.eq_ofNat_of_zero_le by1.1
  obtain ⟨C2, m2, cap2, st2, rfl, hi2, hm2⟩ := open_listU Try.underlying52 Try.underlying59 (by kernel_rfl) (hval 2 52 v2 rfl rfl) h2
  obtain ⟨C3, m3, cap3, st3, rfl, hi3, hm3, hc3, w3⟩ := open_list Try.underlying23 Try.underlying2 (by kernel_rfl) (hval 3 23 v3 rfl rfl) h3
  refine (shared11 A0 n0 cap0 zs0 xa1 xb1 C2 m2 cap2 st2 C3 m3 cap3 st3 W hR0 hi2 hi3 hn0 hm2 hm3 (by omega) (by omega)).mono fun e W' ⟨he, hb⟩ => ?_
  subst he
  refine ⟨_, rfl, _, _, _, [], _, [], hW', trodAll_cons_mk (shut_bool Try.underlying4 _) trodAll_mk0, below_args laid hb (by kernel_rfl) hargs hlt, rfl, hb.frame _, fun h => by cases h⟩

theorem over : Rows.scaleSharedRow.holds Try.pinned (OpenSpec.ofChange Rows.scaleSharedSpec) :=
  OpenClaim.holds_of_wide 11 Try.f11 rfl rfl rfl rfl rfl rfl rfl ⟨rfl, rfl, rfl, rfl, rfl⟩ rfl rfl rfl rfl rfl (by kernel_rfl) Try.func11 (by kernel_rfl)
    (of_decide_eq_true (by kernel_rfl)) (by unfold Func.isWrapper; first | (rw [if_pos (by decide +kernel)]; kernel_rfl) | (rw [if_neg (by decide +kernel)]; exact ⟨rfl, rfl⟩))
    (fun os started H enc _ => lifted os started H enc)

theorem proved : Rows.ScaleSharedSaid := over
end Go.Proofs.Ytdfdlklglbefiaa.scaleShared
