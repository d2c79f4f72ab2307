/- For every dictionary, lines, line, pair, two indexes and a word WordMore returns true, and its arguments read as before. No condition. -/
import Derived.Test.YthdjbapidodlfaaLift
import Derived.Test.YthdjbapidodlfaaLe
namespace Go.Proofs.Ythdjbapidodlfaa.wordMore
set_option linter.unusedSimpArgs false
set_option linter.unusedVariables false
open Go.Joins Go.ChangeShapes Go.WideShapes Go.ChangeAt Go.RowKit Go.Deep

set_option maxRecDepth 100000 in
theorem lifted (os : Os) (started : os.Started) (H : Type) (enc : TypeId × Value → H) :
    ReturnsInHanded {} Try.checked os 9 .any (Rows.wordMoreSpec.pre6 enc Try.prog Try.f9 Rows.wordMoreRow.domain false) (Rows.wordMoreSpec.post enc Try.prog Try.f9 false true false false) := by
  refine returnsInHanded_of_change (C := Try.checked) own0 started (by kernel_rfl) Try.func9
    (ChangeSpec.witness6 (enc := enc) (C := Try.checked) false ⟨#[], #[.agg #[.slice none 0 0], .slice none 0 0, .slice none 0 0, .agg #[.int .i64 0, .int .i64 0], .int .u8 0, .int .u8 0, .int .i64 0], []⟩ 8 (by kernel_rfl) (by kernel_rfl) (by kernel_rfl) (by kernel_rfl)) ?_
  intro W base args ds gs before hval0 hW hcnd _
  have hval : ∀ (j : Nat) t v, Try.f9.params[j]? = some t → args[j]? = some v → Value.okWide Try.prog W .any base t v := hval0
  have hW' := hW
  obtain ⟨p, q, hA0, hV, rfl, hfz, hnd⟩ := hW
  have hA : DataW.TrodAll enc Try.prog W 0 (fun _ => true) true Try.f9.params.toList args.toList ds p := hA0
  have hargs := hA
  have hlt : ∀ x ∈ p, x.block < W.heap.size := fun x hx => by simpa using hW'.lt x (List.mem_append_left _ hx)
  rw [Try.params9] at hA hval
  obtain ⟨v0, vs0, d0, ds0, p0, q0, hvs, rfl, rfl, h0, r0⟩ := trodAll_cons hA
  obtain ⟨v1, vs1, d1, ds1, p1, q1, rfl, rfl, rfl, h1, r1⟩ := trodAll_cons r0
  obtain ⟨v2, vs2, d2, ds2, p2, q2, rfl, rfl, rfl, h2, r2⟩ := trodAll_cons r1
  obtain ⟨v3, vs3, d3, ds3, p3, q3, rfl, rfl, rfl, h3, r3⟩ := trodAll_cons r2
  obtain ⟨v4, vs4, d4, ds4, p4, q4, rfl, rfl, rfl, h4, r4⟩ := trodAll_cons r3
  obtain ⟨v5, vs5, d5, ds5, p5, q5, rfl, rfl, rfl, h5, r5⟩ := trodAll_cons r4
  obtain ⟨v6, vs6, d6, ds6, p6, q6, rfl, rfl, rfl, h6, r6⟩ := trodAll_cons r5
  obtain ⟨rfl, rfl, rfl⟩ := trodAll_nil r6
  obtain rfl : args = #[v0, v1, v2, v3, v4, v5, v6] := by cases args; simp_all
  obtain ⟨rfl, rfl⟩ := trodVars_none hV
  simp only [List.append_nil] at hW'
  obtain ⟨A0, n0, cap0, zs0, rfl, hR0, hn0, hc0⟩ := open_book (hval 0 24 v0 rfl rfl) h0
  obtain ⟨C1, m1, cap1, L1, rfl, hL1, hm1, hc1⟩ := open_lines Try.underlying25 Try.underlying38 (by kernel_rfl) (hval 1 25 v1 rfl rfl) h1
  obtain ⟨C2, m2, cap2, st2, rfl, hi2, hm2, hc2, w2⟩ := open_list Try.underlying38 Try.underlying3 (by kernel_rfl) (hval 2 38 v2 rfl rfl) h2
  obtain ⟨ax3, ay3, rfl, wx3, wy3⟩ := open_arr2 Try.underlying57 Try.underlying3 (by kernel_rfl) (by kernel_rfl) (hval 3 57 v3 rfl rfl) h3
  obtain ⟨u4, rfl, rfl, rfl, w4⟩ := open_int Try.underlying5 (hval 4 5 v4 rfl rfl) h4
  have e4 : IntKind.u8.min = 0 := rfl
  have g4 : IntKind.u8.max = 255 := rfl
  have b4 : 0 ≤ u4 ∧ u4 ≤ 255 := by simpa [Lit.wf, e4, g4] using w4
  obtain ⟨x4, rfl⟩ := Int.eq_ofNat_of_zero_le b4.1
  obtain ⟨u5, rfl, rfl, rfl, w5⟩ := open_int Try.underlying5 (hval 5 5 v5 rfl rfl) h5
  have e5 : IntKind.u8.min = 0 := rfl
  have g5 : IntKind.u8.max = 255 := rfl
  have b5 : 0 ≤ u5 ∧ u5 ≤ 255 := by simpa [Lit.wf, e5, g5] using w5
  obtain ⟨x5, rfl⟩ := Int.eq_ofNat_of_zero_le b5.1
  obtain ⟨u6, rfl, rfl, rfl, w6⟩ := open_int Try.underlying3 (hval 6 3 v6 rfl rfl) h6
  refine (more9 A0 n0 cap0 zs0 C1 m1 cap1 L1 C2 m2 cap2 st2 ax3 ay3 x4 x5 u6 W hR0 hL1 hi2 hc2 (by omega) (by omega)).mono fun e W' ⟨he, hb⟩ => ?_
  subst he
  refine ⟨_, rfl, _, _, _, [], _, [], hW', trodAll_cons_mk (shut_bool Try.underlying4 _) trodAll_mk0, below_args laid hb (by kernel_rfl) hargs hlt, rfl, hb.frame _, fun h => by cases h⟩

theorem over : Rows.wordMoreRow.holds Try.pinned (OpenSpec.ofChange Rows.wordMoreSpec) :=
  OpenClaim.holds_of_wide 9 Try.f9 rfl rfl rfl rfl rfl rfl rfl ⟨rfl, rfl, rfl, rfl, rfl⟩ rfl rfl rfl rfl rfl (by kernel_rfl) Try.func9 (by kernel_rfl)
    (of_decide_eq_true (by kernel_rfl)) (by unfold Func.isWrapper; first | (rw [if_pos (by decide +kernel)]; kernel_rfl) | (rw [if_neg (by decide +kernel)]; exact ⟨rfl, rfl⟩))
    (fun os started H enc _ => lifted os started H enc)

theorem proved : Rows.WordMoreSaid := over
end Go.Proofs.Ythdjbapidodlfaa.wordMore
