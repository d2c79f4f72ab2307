/- For every sheet, rule, turn and speeds SpeedNarrower returns true, and its arguments read as before. No condition. -/
import Derived.Test.YtiankphkemakeaaLift
import Derived.Test.YtiankphkemakeaaNarAll
import Derived.Test.YtiankphkemakeaaWorks
namespace Go.Proofs.Ytiankphkemakeaa.speedNarrower
set_option linter.unusedSimpArgs false
set_option linter.unusedVariables false
open Go.Joins Go.ChangeShapes Go.WideShapes Go.ChangeAt Go.RowKit Go.Deep

set_option maxRecDepth 100000 in
/-- The rules of a sheet that came in leave room for one rule more. -/
theorem sheet_small {H : Type} {enc : TypeId × Value → H} {W : World} {b : Nat} {T : Int} {A : Option Addr} {n cap : Nat} {d : DataW H} {p : List MemPlace} (hv : Value.okWide Try.prog W .any b 24 (.agg #[.int .i64 T, .slice A n cap]))
    (h : DataW.Trod enc Try.prog W 0 (fun _ => true) true 24 (.agg #[.int .i64 T, .slice A n cap]) d p) (hz : ∀ q ∈ d.weights Try.prog 24, q ≤ reachBytes) : n * 24 + 24 ≤ 140737488355328 := by
  obtain ⟨v0, v1, y0, y1, fuel, hv', rfl, _, h0, h1⟩ := open_agg2 (P := Try.prog) Try.underlying24 (by kernel_rfl) (by kernel_rfl) hv h
  have e1 : v1 = .slice A n cap := by
    have := hv'
    simp at this
    exact this.2.symm
  subst e1
  rcases open_slice Try.underlying22 h1 with ⟨h2, _⟩ | ⟨a, len, cap', m, fu, D, Pl, hcs, _, hl, _, hm, hx, _⟩
  · simp at h2
    omega
  · simp at hcs
    obtain ⟨rfl, rfl, rfl⟩ := hcs
    have hby : Try.prog.bytesOf 68 = 24 := by kernel_rfl
    have hmem := hz ((n + (m - n)) * 24) (by
      rw [hx]
      simp [DataW.weights, DataW.weightsEach, Try.underlying24, Try.underlying22, hby])
    have hr : reachBytes + 24 ≤ 140737488355328 := by decide
    omega

set_option maxRecDepth 100000 in
theorem lifted (os : Os) (started : os.Started) (H : Type) (enc : TypeId × Value → H) :
    ReturnsInHanded {} Try.checked os 10 .any (Rows.speedNarrowerSpec.pre6 enc Try.prog Try.f10 Rows.speedNarrowerRow.domain false) (Rows.speedNarrowerSpec.post enc Try.prog Try.f10 false true false false) := by
  refine returnsInHanded_of_change_sized (C := Try.checked) own0 started (by kernel_rfl) Try.func10
    (ChangeSpec.witness6 (enc := enc) (C := Try.checked) false ⟨#[], #[.agg #[.int .i64 0, .slice none 0 0], .agg #[.int .i64 0, .int .i64 0, .int .i64 0], .int .u8 0, .slice none 0 0], []⟩ 8 (by kernel_rfl) (by kernel_rfl) (by kernel_rfl) (by kernel_rfl)) ?_
  intro W base args ds gs before hval0 hW hcnd hz _
  have hval : ∀ (j : Nat) t v, Try.f10.params[j]? = some t → args[j]? = some v → Value.okWide Try.prog W .any base t v := hval0
  have hW' := hW
  obtain ⟨p, q, hA0, hV, rfl, hfz, hnd⟩ := hW
  have hA : DataW.TrodAll enc Try.prog W 0 (fun _ => true) true Try.f10.params.toList args.toList ds p := hA0
  have hargs := hA
  have hlt : ∀ x ∈ p, x.block < W.heap.size := fun x hx => by simpa using hW'.lt x (List.mem_append_left _ hx)
  rw [Try.params10] at hA hval
  obtain ⟨v0, vs0, d0, ds0, p0, q0, hvs, rfl, rfl, h0, r0⟩ := trodAll_cons hA
  obtain ⟨v1, vs1, d1, ds1, p1, q1, rfl, rfl, rfl, h1, r1⟩ := trodAll_cons r0
  obtain ⟨v2, vs2, d2, ds2, p2, q2, rfl, rfl, rfl, h2, r2⟩ := trodAll_cons r1
  obtain ⟨v3, vs3, d3, ds3, p3, q3, rfl, rfl, rfl, h3, r3⟩ := trodAll_cons r2
  obtain ⟨rfl, rfl, rfl⟩ := trodAll_nil r3
  obtain rfl : args = #[v0, v1, v2, v3] := by cases args; simp_all
  obtain ⟨rfl, rfl⟩ := trodVars_none hV
  simp only [List.append_nil] at hW'
  have hz0 := List.all_eq_true.1 hz
  obtain ⟨T0, A0, n0, cap0, rs0, rfl, hr0, hn0, w0⟩ := open_sheet (hval 0 24 v0 rfl rfl) h0
  have hsm := sheet_small (hval 0 24 _ rfl rfl) h0 (fun q hq => of_decide_eq_true (hz0 q (DataW.weights_mem_each (j := 0) rfl rfl q hq)))
  obtain ⟨g0, g1, g2, y0, y1, y2, nn, rfl, _, _, k0, k1, k2⟩ := open_agg3 (P := Try.prog) Try.underlying68 (by kernel_rfl) (by kernel_rfl) (hval 1 68 v1 rfl rfl) h1
  obtain ⟨x0, e0, _, _⟩ := DataW.trod_int Try.underlying3 k0
  obtain ⟨x1, e1, _, _⟩ := DataW.trod_int Try.underlying3 k1
  obtain ⟨x2, e2, _, _⟩ := DataW.trod_int Try.underlying2 k2
  injection e0 with e0
  injection e1 with e1
  injection e2 with e2
  subst e0 e1 e2
  obtain ⟨a2, rfl, rfl, rfl, w2⟩ := open_int Try.underlying5 (hval 2 5 v2 rfl rfl) h2
  obtain ⟨C3, m3, capm3, zs3, rfl, hi3, hm3, w3⟩ := open_list Try.underlying25 Try.underlying2 (by kernel_rfl) (hval 3 25 v3 rfl rfl) h3
  refine (narrower_start (Lib.hid works15) T0 a2 A0 C3 n0 cap0 m3 capm3 rs0 ⟨x0, x1, x2⟩ zs3 W hr0 hi3 hsm (u8_bounds w2)).mono fun e W' ⟨he, hb⟩ => ?_
  subst he
  refine ⟨_, rfl, _, _, _, [], _, [], hW', trodAll_cons_mk (shut_bool Try.underlying4 _) trodAll_mk0, below_args laid hb (by kernel_rfl) hargs hlt, rfl, hb.frame _, fun h => by cases h⟩

theorem over : Rows.speedNarrowerRow.holds Try.pinned (OpenSpec.ofChange Rows.speedNarrowerSpec) :=
  OpenClaim.holds_of_wide 10 Try.f10 rfl rfl rfl rfl rfl rfl rfl ⟨rfl, rfl, rfl, rfl, rfl⟩ rfl rfl rfl rfl rfl (by kernel_rfl) Try.func10 (by kernel_rfl)
    (of_decide_eq_true (by kernel_rfl)) (by unfold Func.isWrapper; first | (rw [if_pos (by decide +kernel)]; kernel_rfl) | (rw [if_neg (by decide +kernel)]; exact ⟨rfl, rfl⟩))
    (fun os started H enc _ => lifted os started H enc)

theorem proved : Rows.SpeedNarrowerSaid := over
end Go.Proofs.Ytiankphkemakeaa.speedNarrower
