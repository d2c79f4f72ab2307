/- Stage 6: how arguments read: lists of names, lists of numbers; and that they read behind the call as before. No function of the program is walked here. -/
import Derived.Test.YtigohccehllmnaaRows
import Derived.Test.YtigohccehllmnaaLw
import Derived.ProofKit
import Derived.OpenShut
import Derived.SizedLaws
import Derived.Carry
import Derived.Lib.SmallJoins
import Derived.Deep.Slices
import Derived.Deep.Fields
import Derived.ChangeSame
namespace Go.Proofs.Ytigohccehllmnaa
set_option linter.unusedSimpArgs false
set_option linter.unusedVariables false
open Go.Joins Go.ChangeShapes Go.WideShapes Go.RowKit Go.Deep
set_option maxRecDepth 100000

theorem list_of {α : Type} [Inhabited α] (P : Nat → α → Prop) : ∀ n : Nat, (∀ i, i < n → ∃ r, P i r) → ∃ rs : List α, rs.length = n ∧ ∀ i, i < n → ∀ d, P i (rs.getD i d)
  | 0, _ => ⟨[], rfl, fun i h => absurd h (by omega)⟩
  | n + 1, h => by
    obtain ⟨rs, hl, hr⟩ := list_of P n (fun i hi => h i (by omega))
    obtain ⟨r, hp⟩ := h n (by omega)
    refine ⟨rs ++ [r], by simp [hl], fun i hi d => ?_⟩
    by_cases hin : i < n
    · have := hr i hin d
      rw [List.getD_eq_getElem?_getD, List.getElem?_append_left (by omega), ← List.getD_eq_getElem?_getD]
      exact this
    · obtain rfl : i = n := by omega
      rw [List.getD_eq_getElem?_getD, List.getElem?_append_right (by omega)]
      simpa [hl] using hp

section
variable {H : Type} {enc : TypeId × Value → H} {w : World} {base : Nat} {spare : Nat → Bool} {held : Bool}
theorem c2_ : Try.prog.cellsOf 2 = 1 := by kernel_rfl
theorem c3_ : Try.prog.cellsOf 3 = 1 := by kernel_rfl
theorem c22_ : Try.prog.cellsOf 22 = 1 := by kernel_rfl
theorem c23_ : Try.prog.cellsOf 23 = 1 := by kernel_rfl
theorem c25_ : Try.prog.cellsOf 25 = 4 := by kernel_rfl
theorem c60_ : Try.prog.cellsOf 60 = 3 := by kernel_rfl
theorem nl_of {fuel : Nat} {cs : List Value} {x : DataW H × List MemPlace} (h : DataW.trod enc Try.prog w base spare held fuel 60 cs = some x) : ∃ r : Nl, cs = [.int .i64 r.one, .int .i64 r.two, .int .i64 r.tr] ∧ (Lit.int .i64 r.tr).wf = true := by
  obtain ⟨xs, n, _, _, hl, hxl, hx⟩ := DataW.trod_struct Try.underlying60 h
  have hl3 : cs.length = 3 := by
    have h9 := hl
    rw [c60_] at h9
    exact h9
  match cs, hl3 with
  | [e0, e1, e2], _ =>
    have g0 := hx 0 _ rfl
    have g1 := hx 1 _ rfl
    have g2 := hx 2 _ rfl
    have hxl3 : xs.length = 3 := hxl
    rw [List.getElem?_eq_getElem (by omega)] at g0 g1 g2
    change DataW.trod enc Try.prog w base spare held n 3 (List.take (Try.prog.cellsOf 3) (List.drop 0 [e0, e1, e2])) = some xs[0] at g0
    change DataW.trod enc Try.prog w base spare held n 3 (List.take (Try.prog.cellsOf 3) (List.drop 1 [e0, e1, e2])) = some xs[1] at g1
    change DataW.trod enc Try.prog w base spare held n 2 (List.take (Try.prog.cellsOf 2) (List.drop 2 [e0, e1, e2])) = some xs[2] at g2
    rw [c3_] at g0 g1
    rw [c2_] at g2
    obtain ⟨a, h0, _⟩ := DataW.trod_int Try.underlying3 g0
    obtain ⟨b, h1, _⟩ := DataW.trod_int Try.underlying3 g1
    obtain ⟨c, h2, _, hw⟩ := DataW.trod_int Try.underlying2 g2
    simp at h0 h1 h2
    exact ⟨⟨a, b, c⟩, by rw [h0, h1, h2], hw⟩
theorem maxLen_le : maxLen ≤ 9223372036854775807 := by decide
/-- A slice of links. -/
theorem nls_of {fuel : Nat} {c0 : Value} {x : DataW H × List MemPlace} (h : DataW.trod enc Try.prog w base (fun _ => true) held fuel 22 [c0] = some x) :
    ∃ (A : Option Addr) (n cap : Nat) (zs : List Nl), c0 = .slice A n cap ∧ n ≤ 9223372036854775807 ∧ n ≤ cap ∧ Nls w A n zs := by
  rcases open_slice Try.underlying22 h with ⟨h0, _⟩ | ⟨a, len, cap, m, n, D, Pl, hcs, _, hl, hm, hmm, _, hi⟩
  · simp at h0
    exact ⟨none, 0, 0, [], h0, by omega, by omega, rfl, fun h => absurd h (by omega)⟩
  · simp at hcs
    simp only [if_true] at hmm
    subst hmm
    obtain ⟨zs, hrl, hrs⟩ := list_of (α := Nl) (fun i p => w.cell? (a.add (i * 3)) = some (.int .i64 p.one) ∧ w.cell? (a.add (i * 3 + 1)) = some (.int .i64 p.two) ∧ w.cell? (a.add (i * 3 + 2)) = some (.int .i64 p.tr)) len (fun i hin => by
      obtain ⟨cs', hc, ht⟩ := hi i (by omega)
      rw [c60_] at hc
      obtain ⟨_, hcl, hat⟩ := World.cells?_some hc
      obtain ⟨p, rfl, _⟩ := nl_of ht
      refine ⟨p, ?_⟩
      simp only [← Go.Deep.add_add]
      exact ⟨by simpa [Addr.add] using hat 0 (by omega), hat 1 (by omega), hat 2 (by omega)⟩)
    refine ⟨some a, len, _, zs, hcs, by have := maxLen_le; omega, hl, hrl, fun hn => ?_⟩
    obtain ⟨bb, off, spot⟩ := a
    have hspot : spot = none := by simpa [Addr.add] using World.cell?_spot (hrs 0 hn ⟨0, 0, 0⟩).1
    subst hspot
    refine ⟨bb, off, rfl, fun j hj => ?_⟩
    have := hrs j hj ⟨0, 0, 0⟩
    simp only [add_plain, ← Nat.add_assoc] at this
    exact this

/-- A slice of numbers. -/
theorem ints_of {t : TypeId} (ht : Try.prog.underlying t = some (.slice 3)) {fuel : Nat} {c0 : Value} {x : DataW H × List MemPlace} (h : DataW.trod enc Try.prog w base (fun _ => true) held fuel t [c0] = some x) :
    ∃ (A : Option Addr) (n cap : Nat) (zs : List Int), c0 = .slice A n cap ∧ Ints w A n zs ∧ n ≤ 9223372036854775807 ∧ n ≤ cap := by
  have hml := maxLen_le
  rcases open_ints ht Try.underlying3 (by kernel_rfl) h with ⟨hcs, hx⟩ | ⟨a, len, cap, zs, hcs, _, hl, hm, hz, hx, hcell, hwz⟩
  · simp at hcs
    exact ⟨none, 0, 0, [], hcs, ⟨rfl, fun h => absurd h (by omega)⟩, by omega, by omega⟩
  · simp at hcs
    simp only [if_true] at hz
    refine ⟨some a, len, cap, zs.take len, hcs, ⟨by simp; omega, fun hn => ?_⟩, by omega, hl⟩
    obtain ⟨bb, off, spot⟩ := a
    have hspot : spot = none := by simpa [Addr.add] using World.cell?_spot (hcell 0 (by omega))
    subst hspot
    refine ⟨bb, off, rfl, fun j hj => ?_⟩
    have := hcell j (by omega)
    rw [add_plain] at this
    rw [this]
    simp [iAt, List.getD, List.getElem?_take, hj]
end
/-- A list that came in. -/
theorem open_nlist {H : Type} {enc : TypeId × Value → H} {W : World} {b : Nat} {v : Value} {d : DataW H} {p : List MemPlace} (hv : Value.okWide Try.prog W .any b 25 v) (h : DataW.Trod enc Try.prog W 0 (fun _ => true) true 25 v d p) :
    ∃ l : NL, v = .agg #[.int .i64 l.N, .slice l.A l.n l.cap, .slice l.LA l.ln l.lc, .slice l.RA l.rn l.rc] ∧ NLo W l := by
  obtain ⟨cs, rfl, hsz⟩ := okWide_struct Try.underlying25 hv
  rw [c25_] at hsz
  obtain ⟨fuel, hf⟩ := h
  obtain ⟨l⟩ := cs
  match l, hsz with
  | [e0, e1, e2, e3], _ =>
    obtain ⟨xs, n, _, _, _, hxl, hx⟩ := DataW.trod_struct Try.underlying25 hf
    have g0 := hx 0 _ rfl
    have g1 := hx 1 _ rfl
    have g2 := hx 2 _ rfl
    have g3 := hx 3 _ rfl
    have hxl4 : xs.length = 4 := hxl
    rw [List.getElem?_eq_getElem (by omega)] at g0 g1 g2 g3
    change DataW.trod enc Try.prog W 0 (fun _ => true) true n 3 (List.take (Try.prog.cellsOf 3) (List.drop 0 [e0, e1, e2, e3])) = some xs[0] at g0
    change DataW.trod enc Try.prog W 0 (fun _ => true) true n 22 (List.take (Try.prog.cellsOf 22) (List.drop 1 [e0, e1, e2, e3])) = some xs[1] at g1
    change DataW.trod enc Try.prog W 0 (fun _ => true) true n 23 (List.take (Try.prog.cellsOf 23) (List.drop 2 [e0, e1, e2, e3])) = some xs[2] at g2
    change DataW.trod enc Try.prog W 0 (fun _ => true) true n 23 (List.take (Try.prog.cellsOf 23) (List.drop 3 [e0, e1, e2, e3])) = some xs[3] at g3
    rw [c3_] at g0
    rw [c22_] at g1
    rw [c23_] at g2 g3
    obtain ⟨sl, h0, _⟩ := DataW.trod_int Try.underlying3 g0
    obtain ⟨A, m, cap, zs, h1, hm, hmc, hP⟩ := nls_of g1
    obtain ⟨A2, kn, kc, ks, h2, hK, hkn, hkc⟩ := ints_of Try.underlying23 g2
    obtain ⟨A3, jn, jc, js, h3, hJ, hjn, hjc⟩ := ints_of Try.underlying23 g3
    simp at h0
    exact ⟨⟨sl, A, m, cap, zs, A2, kn, kc, ks, A3, jn, jc, js⟩, by rw [h0, h1, h2, h3], hP, hK, hJ, hmc, hkc, hjc⟩
/-- A link that came in. -/
theorem open_nlink {H : Type} {enc : TypeId × Value → H} {W : World} {b : Nat} {v : Value} {d : DataW H} {p : List MemPlace} (hv : Value.okWide Try.prog W .any b 60 v) (h : DataW.Trod enc Try.prog W 0 (fun _ => true) true 60 v d p) :
    ∃ r : Nl, v = .agg #[.int .i64 r.one, .int .i64 r.two, .int .i64 r.tr] ∧ -9223372036854775808 ≤ r.tr ∧ r.tr ≤ 9223372036854775807 := by
  obtain ⟨cs, rfl, hsz⟩ := okWide_struct Try.underlying60 hv
  obtain ⟨fuel, hf⟩ := h
  obtain ⟨r, e, hw⟩ := nl_of (show DataW.trod enc Try.prog W 0 (fun _ => true) true fuel 60 cs.toList = some (d, p) by simpa [Value.cells] using hf)
  have e1 : IntKind.i64.min = -9223372036854775808 := rfl
  have e2 : IntKind.i64.max = 9223372036854775807 := rfl
  have h5 : -9223372036854775808 ≤ r.tr ∧ r.tr ≤ 9223372036854775807 := by simpa [Lit.wf, e1, e2] using hw
  exact ⟨r, by rw [← e], h5.1, h5.2⟩
/-- Two numbers in an array that came in. -/
theorem open_arr2 {H : Type} {enc : TypeId × Value → H} {W : World} {b : Nat} {t e : TypeId} {k : IntKind} {v : Value} {d : DataW H} {p : List MemPlace} (ht : Try.prog.underlying t = some (.array 2 e)) (he : Try.prog.underlying e = some (.int k)) (hc : Try.prog.cellsOf e = 1) (hct : Try.prog.cellsOf t = 2)
    (hv : Value.okWide Try.prog W .any b t v) (h : DataW.Trod enc Try.prog W 0 (fun _ => true) true t v d p) :
    ∃ x y : Int, v = .agg #[.int k x, .int k y] ∧ (Lit.int k x).wf = true ∧ (Lit.int k y).wf = true := by
  simp only [Value.okWide, ht] at hv
  obtain ⟨cs, rfl, _, _⟩ := hv
  obtain ⟨fuel, hf⟩ := h
  obtain ⟨xs, m, _, _, hl, hxl, hx⟩ := DataW.trod_array (cs := cs.toList) ht (by simpa [Value.cells] using hf)
  rw [hct] at hl
  obtain ⟨l⟩ := cs
  match l, hl with
  | [c0, c1], _ =>
    have a0 := hx 0 (by omega)
    have a1 := hx 1 (by omega)
    rw [hc, List.getElem?_eq_getElem (by omega)] at a0 a1
    obtain ⟨u0, g0, _, w0⟩ := DataW.trod_int he (by simpa using a0)
    obtain ⟨u1, g1, _, w1⟩ := DataW.trod_int he (by simpa using a1)
    simp at g0 g1
    exact ⟨u0, u1, by rw [g0, g1], w0, w1⟩
/-- A list of numbers that came in. -/
theorem open_list {H : Type} {enc : TypeId × Value → H} {W : World} {b : Nat} {t e : TypeId} {v : Value} {d : DataW H} {p : List MemPlace} (ht : Try.prog.underlying t = some (.slice e)) (he : Try.prog.underlying e = some (.int .i64)) (hc : Try.prog.cellsOf e = 1)
    (hv : Value.okWide Try.prog W .any b t v) (h : DataW.Trod enc Try.prog W 0 (fun _ => true) true t v d p) :
    ∃ (A : Option Addr) (n cap : Nat) (zs : List Int), v = .slice A n cap ∧ Ints W A n zs ∧ n ≤ 9223372036854775807 ∧ n ≤ cap ∧ ∀ z ∈ zs, -9223372036854775808 ≤ z ∧ z ≤ 9223372036854775807 := by
  obtain ⟨a0, len0, cap0, rfl⟩ := okWide_slice ht hv
  obtain ⟨fuel, hf⟩ := h
  have hml := maxLen_le
  rcases open_ints ht he hc hf with ⟨hcs, hx⟩ | ⟨a, len, cap, zs, hcs, _, hl, hm, hz, hx, hcell, hwz⟩
  · simp [Value.cells] at hcs
    obtain ⟨rfl, rfl, rfl⟩ := hcs
    exact ⟨none, 0, 0, [], rfl, ⟨rfl, fun h => absurd h (by omega)⟩, Nat.zero_le _, Nat.zero_le _, fun z hz => by cases hz⟩
  · simp [Value.cells] at hcs
    obtain ⟨rfl, rfl, rfl⟩ := hcs
    simp only [if_true] at hz
    refine ⟨some a, len0, cap0, zs.take len0, rfl, ⟨by simp; omega, fun hn => ?_⟩, by omega, hl, fun z hz' => ?_⟩
    · obtain ⟨bb, off, spot⟩ := a
      have hspot : spot = none := by simpa [Addr.add] using World.cell?_spot (hcell 0 (by omega))
      subst hspot
      refine ⟨bb, off, rfl, fun j hj => ?_⟩
      have := hcell j (by omega)
      rw [add_plain] at this
      rw [this]
      simp [iAt, List.getD, List.getElem?_take, hj]
    · have h5 := hwz z (List.mem_of_mem_take hz')
      have e1 : IntKind.i64.min = -9223372036854775808 := rfl
      have e2 : IntKind.i64.max = 9223372036854775807 := rfl
      simpa [Lit.wf, e1, e2] using h5
theorem laid : laidOutB Try.prog = true := by kernel_rfl
theorem own0 : ownKnob Try.prog.godebug = none := by kernel_rfl

/-- All arguments read behind the call as before. -/
theorem below_args {H : Type} {enc : TypeId × Value → H} {P : Program} {W W' : World} (hl : laidOutB P = true) (hb : Below W.heap.size W W') : ∀ {ts : List TypeId} {vs : List Value} {ds : List (DataW H)} {ps : List MemPlace},
    (ts.all fun t => P.readableRec t && decide (t < P.types.size)) = true → DataW.TrodAll enc P W 0 (fun _ => true) true ts vs ds ps → (∀ x ∈ ps, x.block < W.heap.size) →
    DataW.TrodAll enc P W' 0 (fun b => decide (b < W.heap.size)) true ts vs ds ps
  | [], vs, ds, ps, _, h, _ => by
    obtain ⟨rfl, rfl, rfl⟩ := trodAll_nil h
    exact trodAll_mk0
  | t :: ts, vs, ds, ps, hr, h, hlt => by
    obtain ⟨v, vs', d, ds', p, q, rfl, rfl, rfl, hd, hrest⟩ := trodAll_cons h
    rw [List.all_cons, Bool.and_eq_true, Bool.and_eq_true] at hr
    exact trodAll_cons_mk (Below.trod hl hr.1.1 (of_decide_eq_true hr.1.2) hd hb (fun x hx => hlt x (List.mem_append_left _ hx))) (below_args hl hb hr.2 hrest (fun x hx => hlt x (List.mem_append_right _ hx)))
end Go.Proofs.Ytigohccehllmnaa
