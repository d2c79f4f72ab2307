/- For every cylinder, by how much its pieces are turned round, what is added and number of a join JoinRenamed returns true, and its arguments read as before. No condition. -/
import Derived.Test.YtfmcfalghbaanaaLift
import Derived.Test.YtfmcfalghbaanaaLawN
namespace Go.Proofs.Ytfmcfalghbaanaa.joinRenamed
set_option linter.unusedSimpArgs false
set_option linter.unusedVariables false
open Go.Joins Go.ChangeShapes Go.WideShapes Go.ChangeAt Go.RowKit Go.Deep

set_option maxRecDepth 100000 in
theorem lifted (os : Os) (started : os.Started) (H : Type) (enc : TypeId × Value → H) :
    ReturnsInHanded {} Try.checked os 11 .any (Rows.joinRenamedSpec.pre6 enc Try.prog Try.f11 Rows.joinRenamedRow.domain false) (Rows.joinRenamedSpec.post enc Try.prog Try.f11 false true false false) := by
  refine returnsInHanded_of_change (C := Try.checked) own0 started (by kernel_rfl) Try.func11
    (ChangeSpec.witness6 (enc := enc) (C := Try.checked) false ⟨#[], #[.agg #[.slice none 0 0, .int .i64 0, .int .i64 0, .int .i64 0], .int .u8 0, .int .u16 0, .int .u32 0], []⟩ 8 (by kernel_rfl) (by kernel_rfl) (by kernel_rfl) (by kernel_rfl)) ?_
  intro W base args ds gs before hval0 hW hcnd _
  have hval : ∀ (j : Nat) t v, Try.f11.params[j]? = some t → args[j]? = some v → Value.okWide Try.prog W .any base t v := hval0
  have hW' := hW
  obtain ⟨p, q, hA0, hV, rfl, hfz, hnd⟩ := hW
  have hA : DataW.TrodAll enc Try.prog W 0 (fun _ => true) true Try.f11.params.toList args.toList ds p := hA0
  have hargs := hA
  have hlt : ∀ x ∈ p, x.block < W.heap.size := fun x hx => by simpa using hW'.lt x (List.mem_append_left _ hx)
  rw [Try.params11] at hA hval
  obtain ⟨v0, vs0, d0, ds0, p0, q0, hvs, rfl, rfl, h0, r0⟩ := trodAll_cons hA
  obtain ⟨v1, vs1, d1, ds1, p1, q1, rfl, rfl, rfl, h1, r1⟩ := trodAll_cons r0
  obtain ⟨v2, vs2, d2, ds2, p2, q2, rfl, rfl, rfl, h2, r2⟩ := trodAll_cons r1
  obtain ⟨v3, vs3, d3, ds3, p3, q3, rfl, rfl, rfl, h3, r3⟩ := trodAll_cons r2
  obtain ⟨rfl, rfl, rfl⟩ := trodAll_nil r3
  obtain rfl : args = #[v0, v1, v2, v3] := by cases args; simp_all
  obtain ⟨rfl, rfl⟩ := trodVars_none hV
  simp only [List.append_nil] at hW'
  obtain ⟨A0, n0, cap0, off0, lo0, hi0, ps0, rfl, hP0, hn0⟩ := open_cyl (hval 0 26 v0 rfl rfl) h0
  obtain ⟨u1, rfl, rfl, rfl, w1⟩ := open_int Try.underlying5 (hval 1 5 v1 rfl rfl) h1
  have e1 : IntKind.u8.min = 0 := rfl
  have g1 : IntKind.u8.max = 255 := rfl
  have b1 : 0 ≤ u1 ∧ u1 ≤ 255 := by simpa [Lit.wf, e1, g1] using w1
  obtain ⟨x1, rfl⟩ := Int.eq_ofNat_of_zero_le b1.1
  obtain ⟨u2, rfl, rfl, rfl, w2⟩ := open_int Try.underlying68 (hval 2 68 v2 rfl rfl) h2
  have e2 : IntKind.u16.min = 0 := rfl
  have g2 : IntKind.u16.max = 65535 := rfl
  have b2 : 0 ≤ u2 ∧ u2 ≤ 65535 := by simpa [Lit.wf, e2, g2] using w2
  obtain ⟨x2, rfl⟩ := Int.eq_ofNat_of_zero_le b2.1
  obtain ⟨u3, rfl, rfl, rfl, w3⟩ := open_int Try.underlying52 (hval 3 52 v3 rfl rfl) h3
  have e3 : IntKind.u32.min = 0 := rfl
  have g3 : IntKind.u32.max = 4294967295 := rfl
  have b3 : 0 ≤ u3 ∧ u3 ≤ 4294967295 := by simpa [Lit.wf, e3, g3] using w3
  obtain ⟨x3, rfl⟩ := Int.eq_ofNat_of_zero_le b3.1
  refine (renamed11 A0 n0 cap0 off0 lo0 hi0 x1 x2 x3 ps0 W hP0 hn0 (by omega) (by omega) (by omega)).mono fun e W' ⟨he, hb⟩ => ?_
  subst he
  refine ⟨_, rfl, _, _, _, [], _, [], hW', trodAll_cons_mk (shut_bool Try.underlying4 _) trodAll_mk0, below_args laid hb (by kernel_rfl) hargs hlt, rfl, hb.frame _, fun h => by cases h⟩

theorem over : Rows.joinRenamedRow.holds Try.pinned (OpenSpec.ofChange Rows.joinRenamedSpec) :=
  OpenClaim.holds_of_wide 11 Try.f11 rfl rfl rfl rfl rfl rfl rfl ⟨rfl, rfl, rfl, rfl, rfl⟩ rfl rfl rfl rfl rfl (by kernel_rfl) Try.func11 (by kernel_rfl)
    (of_decide_eq_true (by kernel_rfl)) (by unfold Func.isWrapper; first | (rw [if_pos (by decide +kernel)]; kernel_rfl) | (rw [if_neg (by decide +kernel)]; exact ⟨rfl, rfl⟩))
    (fun os started H enc _ => lifted os started H enc)

theorem proved : Rows.JoinRenamedSaid := over
end Go.Proofs.Ytfmcfalghbaanaa.joinRenamed
