/- For every sheet, link and list of small numbers ListMore returns true, and its arguments read as before. No condition. -/
import Derived.Test.YtnodkgejggnehaaLift
import Derived.Test.YtnodkgejggnehaaLift
import Derived.Test.YtnodkgejggnehaaLmo
namespace Go.Proofs.Ytnodkgejggnehaa.listMore
set_option linter.unusedSimpArgs false
set_option linter.unusedVariables false
open Go.Joins Go.ChangeShapes Go.WideShapes Go.ChangeAt Go.RowKit Go.Deep

set_option maxRecDepth 100000 in
/-- The links of a sheet that came in leave room for one link more. -/
theorem sheet_small {H : Type} {enc : TypeId × Value → H} {W : World} {b : Nat} {T U : Int} {A A2 : Option Addr} {n cap n2 cap2 : Nat} {d : DataW H} {p : List MemPlace} (hv : Value.okWide Try.prog W .any b 25 (.agg #[.int .i64 T, .int .i64 U, .slice A n cap, .slice A2 n2 cap2]))
    (h : DataW.Trod enc Try.prog W 0 (fun _ => true) true 25 (.agg #[.int .i64 T, .int .i64 U, .slice A n cap, .slice A2 n2 cap2]) d p) (hz : ∀ q ∈ d.weights Try.prog 25, q ≤ reachBytes) : n * 16 + 16 ≤ 140737488355328 := by
  obtain ⟨v0, v1, v2, v3, y0, y1, y2, y3, fuel, hv', rfl, _, h0, h1, h2, h3⟩ := open_agg4 (P := Try.prog) Try.underlying25 (by kernel_rfl) (by kernel_rfl) hv h
  have e2 : v2 = .slice A n cap := by
    have := hv'
    simp at this
    exact this.2.2.1.symm
  subst e2
  rcases open_slice Try.underlying22 h2 with ⟨h9, _⟩ | ⟨a, len, cap', m, fu, D, Pl, hcs, _, hl, _, hm, hx, _⟩
  · simp at h9
    omega
  · simp at hcs
    obtain ⟨rfl, rfl, rfl⟩ := hcs
    have hby : Try.prog.bytesOf 55 = 16 := by kernel_rfl
    have hmem := hz ((n + (m - n)) * 16) (by
      rw [hx]
      simp [DataW.weights, DataW.weightsEach, Try.underlying25, Try.underlying22, hby])
    have hr : reachBytes + 16 ≤ 140737488355328 := by decide
    omega

set_option maxRecDepth 100000 in
theorem lifted (os : Os) (started : os.Started) (H : Type) (enc : TypeId × Value → H) :
    ReturnsInHanded {} Try.checked os 10 .any (Rows.listMoreSpec.pre6 enc Try.prog Try.f10 Rows.listMoreRow.domain false) (Rows.listMoreSpec.post enc Try.prog Try.f10 false true false false) := by
  refine returnsInHanded_of_change_sized (C := Try.checked) own0 started (by kernel_rfl) Try.func10
    (ChangeSpec.witness6 (enc := enc) (C := Try.checked) false ⟨#[], #[.agg #[.int .i64 0, .int .i64 0, .slice none 0 0, .slice none 0 0], .agg #[.int .i64 0, .int .i64 0], .slice none 0 0], []⟩ 8 (by kernel_rfl) (by kernel_rfl) (by kernel_rfl) (by kernel_rfl)) ?_
  intro W base args ds gs before hval0 hW hcnd hz _
  have hval : ∀ (j : Nat) t v, Try.f10.params[j]? = some t → args[j]? = some v → Value.okWide Try.prog W .any base t v := hval0
  have hW' := hW
  obtain ⟨p, q, hA0, hV, rfl, hfz, hnd⟩ := hW
  have hA : DataW.TrodAll enc Try.prog W 0 (fun _ => true) true Try.f10.params.toList args.toList ds p := hA0
  have hargs := hA
  have hlt : ∀ x ∈ p, x.block < W.heap.size := fun x hx => by simpa using hW'.lt x (List.mem_append_left _ hx)
  rw [Try.params10] at hA hval
  obtain ⟨v0, vs0, d0, ds0, p0, q0, hvs, rfl, rfl, h0, r0⟩ := trodAll_cons hA
  obtain ⟨v1, vs1, d1, ds1, p1, q1, rfl, rfl, rfl, h1, r1⟩ := trodAll_cons r0
  obtain ⟨v2, vs2, d2, ds2, p2, q2, rfl, rfl, rfl, h2, r2⟩ := trodAll_cons r1
  obtain ⟨rfl, rfl, rfl⟩ := trodAll_nil r2
  obtain rfl : args = #[v0, v1, v2] := by cases args; simp_all
  obtain ⟨rfl, rfl⟩ := trodVars_none hV
  simp only [List.append_nil] at hW'
  have hz0 := List.all_eq_true.1 hz
  obtain ⟨sl0, sr0, A0, n0, cap0, zs0, AK0, kn0, kc0, ks0, rfl, hR0, hK0, hc0, hkc0, hn0, hkn0⟩ := open_sheet (hval 0 25 v0 rfl rfl) h0
  have hsm := sheet_small (hval 0 25 _ rfl rfl) h0 (fun q hq => of_decide_eq_true (hz0 q (DataW.weights_mem_each (j := 0) rfl rfl q hq)))
  obtain ⟨x1, y1, rfl⟩ := open_link (hval 1 55 v1 rfl rfl) h1
  obtain ⟨C2, m2, cap2, st2, rfl, hi2, hm2⟩ := open_listU Try.underlying46 Try.underlying5 (by kernel_rfl) (hval 2 46 v2 rfl rfl) h2
  refine (more10 sl0 sr0 A0 n0 cap0 zs0 AK0 kn0 kc0 ks0 x1 y1 C2 m2 cap2 st2 W hR0 hK0 hi2 hc0 (by omega)).mono fun e W' ⟨he, hb⟩ => ?_
  subst he
  refine ⟨_, rfl, _, _, _, [], _, [], hW', trodAll_cons_mk (shut_bool Try.underlying4 _) trodAll_mk0, below_args laid hb (by kernel_rfl) hargs hlt, rfl, hb.frame _, fun h => by cases h⟩

theorem over : Rows.listMoreRow.holds Try.pinned (OpenSpec.ofChange Rows.listMoreSpec) :=
  OpenClaim.holds_of_wide 10 Try.f10 rfl rfl rfl rfl rfl rfl rfl ⟨rfl, rfl, rfl, rfl, rfl⟩ rfl rfl rfl rfl rfl (by kernel_rfl) Try.func10 (by kernel_rfl)
    (of_decide_eq_true (by kernel_rfl)) (by unfold Func.isWrapper; first | (rw [if_pos (by decide +kernel)]; kernel_rfl) | (rw [if_neg (by decide +kernel)]; exact ⟨rfl, rfl⟩))
    (fun os started H enc _ => lifted os started H enc)

theorem proved : Rows.ListMoreSaid := over
end Go.Proofs.Ytnodkgejggnehaa.listMore
