/- For every sheet, three turns, speeds and names SpeedWays returns true, and its arguments read as before. No condition. -/
import Derived.Test.YtiankphkemakeaaLift
import Derived.Test.YtiankphkemakeaaWaysAll
import Derived.Test.YtiankphkemakeaaWorks
namespace Go.Proofs.Ytiankphkemakeaa.speedWays
set_option linter.unusedSimpArgs false
set_option linter.unusedVariables false
open Go.Joins Go.ChangeShapes Go.WideShapes Go.ChangeAt Go.RowKit Go.Deep

set_option maxRecDepth 100000 in
theorem lifted (os : Os) (started : os.Started) (H : Type) (enc : TypeId × Value → H) :
    ReturnsInHanded {} Try.checked os 9 .any (Rows.speedWaysSpec.pre6 enc Try.prog Try.f9 Rows.speedWaysRow.domain false) (Rows.speedWaysSpec.post enc Try.prog Try.f9 false true false false) := by
  refine returnsInHanded_of_change (C := Try.checked) own0 started (by kernel_rfl) Try.func9
    (ChangeSpec.witness6 (enc := enc) (C := Try.checked) false ⟨#[], #[.agg #[.int .i64 0, .slice none 0 0], .agg #[.int .u8 0, .int .u8 0, .int .u8 0], .slice none 0 0, .slice none 0 0], []⟩ 8 (by kernel_rfl) (by kernel_rfl) (by kernel_rfl) (by kernel_rfl)) ?_
  intro W base args ds gs before hval0 hW hcnd _
  have hval : ∀ (j : Nat) t v, Try.f9.params[j]? = some t → args[j]? = some v → Value.okWide Try.prog W .any base t v := hval0
  have hW' := hW
  obtain ⟨p, q, hA0, hV, rfl, hfz, hnd⟩ := hW
  have hA : DataW.TrodAll enc Try.prog W 0 (fun _ => true) true Try.f9.params.toList args.toList ds p := hA0
  have hargs := hA
  have hlt : ∀ x ∈ p, x.block < W.heap.size := fun x hx => by simpa using hW'.lt x (List.mem_append_left _ hx)
  rw [Try.params9] at hA hval
  obtain ⟨v0, vs0, d0, ds0, p0, q0, hvs, rfl, rfl, h0, r0⟩ := trodAll_cons hA
  obtain ⟨v1, vs1, d1, ds1, p1, q1, rfl, rfl, rfl, h1, r1⟩ := trodAll_cons r0
  obtain ⟨v2, vs2, d2, ds2, p2, q2, rfl, rfl, rfl, h2, r2⟩ := trodAll_cons r1
  obtain ⟨v3, vs3, d3, ds3, p3, q3, rfl, rfl, rfl, h3, r3⟩ := trodAll_cons r2
  obtain ⟨rfl, rfl, rfl⟩ := trodAll_nil r3
  obtain rfl : args = #[v0, v1, v2, v3] := by cases args; simp_all
  obtain ⟨rfl, rfl⟩ := trodVars_none hV
  simp only [List.append_nil] at hW'
  obtain ⟨T0, A0, n0, cap0, rs0, rfl, hr0, hn0, w0⟩ := open_sheet (hval 0 24 v0 rfl rfl) h0
  obtain ⟨cs1, rfl, hsz1⟩ := okWide_array3 Try.underlying63 (hval 1 63 v1 rfl rfl)
  obtain ⟨c0, c1, c2, rfl⟩ := Go.Joins.array3 (hsz1.trans (by kernel_rfl))
  obtain ⟨fuel1, hf1⟩ := h1
  obtain ⟨y0, y1, y2, n1, hx1, t0, t1, t2⟩ := Go.ChangeShapes.trod_array3 Try.underlying63 (by kernel_rfl) hf1
  obtain ⟨u0, g0, _, w10⟩ := DataW.trod_int Try.underlying5 t0
  obtain ⟨u1, g1, _, w11⟩ := DataW.trod_int Try.underlying5 t1
  obtain ⟨u2, g2, _, w12⟩ := DataW.trod_int Try.underlying5 t2
  injection g0 with g0
  injection g1 with g1
  injection g2 with g2
  subst g0 g1 g2
  obtain ⟨D2, m2, capm2, bs2, rfl, hi2, hm2⟩ := open_listU Try.underlying57 Try.underlying109 (by kernel_rfl) (hval 2 57 v2 rfl rfl) h2
  obtain ⟨C3, m3, capm3, zs3, rfl, hi3, hm3, w3⟩ := open_list Try.underlying35 Try.underlying3 (by kernel_rfl) (hval 3 35 v3 rfl rfl) h3
  refine (speedWays9 (Lib.hid works15) T0 u0 u1 u2 A0 D2 C3 n0 cap0 m2 capm2 m3 capm3 rs0 bs2 zs3 W hr0 hi2 hi3 hn0 hm2 hm3 (u8_bounds w10) (u8_bounds w11) (u8_bounds w12)).mono fun e W' ⟨he, hb⟩ => ?_
  subst he
  refine ⟨_, rfl, _, _, _, [], _, [], hW', trodAll_cons_mk (shut_bool Try.underlying4 _) trodAll_mk0, below_args laid hb (by kernel_rfl) hargs hlt, rfl, hb.frame _, fun h => by cases h⟩

theorem over : Rows.speedWaysRow.holds Try.pinned (OpenSpec.ofChange Rows.speedWaysSpec) :=
  OpenClaim.holds_of_wide 9 Try.f9 rfl rfl rfl rfl rfl rfl rfl ⟨rfl, rfl, rfl, rfl, rfl⟩ rfl rfl rfl rfl rfl (by kernel_rfl) Try.func9 (by kernel_rfl)
    (of_decide_eq_true (by kernel_rfl)) (by unfold Func.isWrapper; first | (rw [if_pos (by decide +kernel)]; kernel_rfl) | (rw [if_neg (by decide +kernel)]; exact ⟨rfl, rfl⟩))
    (fun os started H enc _ => lifted os started H enc)

theorem proved : Rows.SpeedWaysSaid := over
end Go.Proofs.Ytiankphkemakeaa.speedWays
