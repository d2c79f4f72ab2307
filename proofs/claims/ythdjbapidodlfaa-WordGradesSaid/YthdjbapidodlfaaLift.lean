/- Stage 4: how arguments read: dictionaries, lines, lists of numbers; and that they read behind the call as before. No function of the program is walked here. -/
import Derived.Test.YthdjbapidodlfaaRows
import Derived.Test.YthdjbapidodlfaaLn
import Derived.ProofKit
import Derived.OpenShut
import Derived.SizedLaws
import Derived.Carry
import Derived.Lib.SmallJoins
import Derived.Deep.Slices
import Derived.Deep.Fields
import Derived.ChangeSame
namespace Go.Proofs.Ythdjbapidodlfaa
set_option linter.unusedSimpArgs false
set_option linter.unusedVariables false
open Go.Joins Go.ChangeShapes Go.WideShapes Go.RowKit Go.Deep
set_option maxRecDepth 100000

theorem list_of {α : Type} [Inhabited α] (P : Nat → α → Prop) : ∀ n : Nat, (∀ i, i < n → ∃ r, P i r) → ∃ rs : List α, rs.length = n ∧ ∀ i, i < n → ∀ d, P i (rs.getD i d)
  | 0, _ => ⟨[], rfl, fun i h => absurd h (by omega)⟩
  | n + 1, h => by
    obtain ⟨rs, hl, hr⟩ := list_of P n (fun i hi => h i (by omega))
    obtain ⟨r, hp⟩ := h n (by omega)
    refine ⟨rs ++ [r], by simp [hl], fun i hi d => ?_⟩
    by_cases hin : i < n
    · have := hr i hin d
      rw [List.getD_eq_getElem?_getD, List.getElem?_append_left (by omega), ← List.getD_eq_getElem?_getD]
      exact this
    · obtain rfl : i = n := by omega
      rw [List.getD_eq_getElem?_getD, List.getElem?_append_right (by omega)]
      simpa [hl] using hp

section
variable {H : Type} {enc : TypeId × Value → H} {w : World} {base : Nat} {spare : Nat → Bool} {held : Bool}
theorem c3_ : Try.prog.cellsOf 3 = 1 := by kernel_rfl
theorem c22_ : Try.prog.cellsOf 22 = 1 := by kernel_rfl
theorem c24_ : Try.prog.cellsOf 24 = 1 := by kernel_rfl
theorem c57_ : Try.prog.cellsOf 57 = 2 := by kernel_rfl
theorem rg_of {fuel : Nat} {cs : List Value} {x : DataW H × List MemPlace} (h : DataW.trod enc Try.prog w base spare held fuel 57 cs = some x) : ∃ r : Rg, cs = [.int .i64 r.lo, .int .i64 r.hi] ∧ (-9223372036854775808 ≤ r.lo ∧ r.lo ≤ 9223372036854775807) ∧ -9223372036854775808 ≤ r.hi ∧ r.hi ≤ 9223372036854775807 := by
  obtain ⟨xs, m, _, _, hl, hxl, hx⟩ := DataW.trod_array Try.underlying57 h
  rw [c57_] at hl
  match cs, hl with
  | [c0, c1], _ =>
    have a0 := hx 0 (by omega)
    have a1 := hx 1 (by omega)
    rw [c3_, List.getElem?_eq_getElem (by omega)] at a0 a1
    obtain ⟨u0, g0, _, w0⟩ := DataW.trod_int Try.underlying3 (by simpa using a0)
    obtain ⟨u1, g1, _, w1⟩ := DataW.trod_int Try.underlying3 (by simpa using a1)
    simp at g0 g1
    have e3 : IntKind.i64.min = -9223372036854775808 := rfl
    have e4 : IntKind.i64.max = 9223372036854775807 := rfl
    exact ⟨⟨u0, u1⟩, by rw [g0, g1], by simpa [Lit.wf, e3, e4] using w0, by simpa [Lit.wf, e3, e4] using w1⟩
theorem maxLen_le : maxLen ≤ 9223372036854775807 := by decide
/-- A slice of pairs. -/
theorem rgs_of {fuel : Nat} {c0 : Value} {x : DataW H × List MemPlace} (h : DataW.trod enc Try.prog w base (fun _ => true) held fuel 22 [c0] = some x) :
    ∃ (A : Option Addr) (n cap : Nat) (zs : List Rg), c0 = .slice A n cap ∧ n ≤ 9223372036854775807 ∧ n ≤ cap ∧ Rgs w A n zs := by
  rcases open_slice Try.underlying22 h with ⟨h0, _⟩ | ⟨a, len, cap, m, n, D, Pl, hcs, _, hl, hm, hmm, _, hi⟩
  · simp at h0
    exact ⟨none, 0, 0, [], h0, by omega, by omega, rfl, fun h => absurd h (by omega)⟩
  · simp at hcs
    simp only [if_true] at hmm
    subst hmm
    obtain ⟨zs, hrl, hrs⟩ := list_of (α := Rg) (fun i p => w.cell? (a.add (i * 2)) = some (.int .i64 p.lo) ∧ w.cell? (a.add (i * 2 + 1)) = some (.int .i64 p.hi)) len (fun i hin => by
      obtain ⟨cs', hc, ht⟩ := hi i (by omega)
      rw [c57_] at hc
      obtain ⟨_, hcl, hat⟩ := World.cells?_some hc
      obtain ⟨p, rfl, _⟩ := rg_of ht
      refine ⟨p, ?_⟩
      simp only [← Go.Deep.add_add]
      exact ⟨by simpa [Addr.add] using hat 0 (by omega), hat 1 (by omega)⟩)
    refine ⟨some a, len, _, zs, hcs, by have := maxLen_le; omega, hl, hrl, fun hn => ?_⟩
    obtain ⟨bb, off, spot⟩ := a
    have hspot : spot = none := by simpa [Addr.add] using World.cell?_spot (hrs 0 hn ⟨0, 0⟩).1
    subst hspot
    refine ⟨bb, off, rfl, fun j hj => ?_⟩
    have := hrs j hj ⟨0, 0⟩
    simp only [add_plain, ← Nat.add_assoc] at this
    exact this

/-- A slice of numbers. -/
theorem ints_of {t : TypeId} (ht : Try.prog.underlying t = some (.slice 3)) {fuel : Nat} {c0 : Value} {x : DataW H × List MemPlace} (h : DataW.trod enc Try.prog w base (fun _ => true) held fuel t [c0] = some x) :
    ∃ (A : Option Addr) (n cap : Nat) (zs : List Int), c0 = .slice A n cap ∧ Ints w A n zs ∧ n ≤ 9223372036854775807 ∧ n ≤ cap := by
  have hml := maxLen_le
  rcases open_ints ht Try.underlying3 (by kernel_rfl) h with ⟨hcs, hx⟩ | ⟨a, len, cap, zs, hcs, _, hl, hm, hz, hx, hcell, hwz⟩
  · simp at hcs
    exact ⟨none, 0, 0, [], hcs, ⟨rfl, fun h => absurd h (by omega)⟩, by omega, by omega⟩
  · simp at hcs
    simp only [if_true] at hz
    refine ⟨some a, len, cap, zs.take len, hcs, ⟨by simp; omega, fun hn => ?_⟩, by omega, hl⟩
    obtain ⟨bb, off, spot⟩ := a
    have hspot : spot = none := by simpa [Addr.add] using World.cell?_spot (hcell 0 (by omega))
    subst hspot
    refine ⟨bb, off, rfl, fun j hj => ?_⟩
    have := hcell j (by omega)
    rw [add_plain] at this
    rw [this]
    simp [iAt, List.getD, List.getElem?_take, hj]
/-- A slice of slices of numbers. -/
theorem lns_of {t e : TypeId} (ht : Try.prog.underlying t = some (.slice e)) (he : Try.prog.underlying e = some (.slice 3)) (hc : Try.prog.cellsOf e = 1) {fuel : Nat} {c0 : Value} {x : DataW H × List MemPlace} (h : DataW.trod enc Try.prog w base (fun _ => true) held fuel t [c0] = some x) :
    ∃ (A : Option Addr) (n cap : Nat) (L : List (List Int)), c0 = .slice A n cap ∧ n ≤ 9223372036854775807 ∧ n ≤ cap ∧ Lns w A n L := by
  rcases open_slice1 ht hc h with ⟨h0, _⟩ | ⟨a, len, cap, m, n, V, D, Pl, hcs, _, hl, hm, hmm, _, hi⟩
  · simp at h0
    exact ⟨none, 0, 0, [], h0, by omega, by omega, rfl, fun h => absurd h (by omega)⟩
  · simp at hcs
    simp only [if_true] at hmm
    subst hmm
    obtain ⟨L, hLl, hLs⟩ := list_of (α := List Int) (fun i l => ∃ C c, w.cell? (a.add i) = some (.slice C l.length c) ∧ Ints w C l.length l ∧ l.length ≤ c) len (fun i hin => by
      obtain ⟨hc1, ht1⟩ := hi i (by omega)
      obtain ⟨C, k, c, zs, hv, hz, _, hk⟩ := ints_of he ht1
      obtain rfl := hz.1
      exact ⟨zs, C, c, by rw [hc1, hv], hz, hk⟩)
    refine ⟨some a, len, _, L, hcs, by have := maxLen_le; omega, hl, hLl, fun hn => ?_⟩
    obtain ⟨bb, off, spot⟩ := a
    have hspot : spot = none := by
      obtain ⟨C, c, h1, _⟩ := hLs 0 hn []
      simpa [Addr.add] using World.cell?_spot h1
    subst hspot
    refine ⟨bb, off, rfl, fun j hj => ?_⟩
    obtain ⟨C, c, h1, h2, h3⟩ := hLs j hj []
    rw [add_plain] at h1
    exact ⟨C, c, h1, h2, h3⟩
end
/-- A dictionary that came in. -/
theorem open_book {H : Type} {enc : TypeId × Value → H} {W : World} {b : Nat} {v : Value} {d : DataW H} {p : List MemPlace} (hv : Value.okWide Try.prog W .any b 24 v) (h : DataW.Trod enc Try.prog W 0 (fun _ => true) true 24 v d p) :
    ∃ (A : Option Addr) (n cap : Nat) (zs : List Rg), v = .agg #[.slice A n cap] ∧ Rgs W A n zs ∧ n ≤ 9223372036854775807 ∧ n ≤ cap := by
  obtain ⟨cs, rfl, hsz⟩ := okWide_struct Try.underlying24 hv
  obtain ⟨fuel, hf⟩ := h
  obtain ⟨y0, n, _, hl, h0⟩ := trod_struct1 Try.underlying24 (show DataW.trod enc Try.prog W 0 (fun _ => true) true fuel 24 cs.toList = some (d, p) by simpa [Value.cells] using hf)
  rw [c24_] at hl
  obtain ⟨l⟩ := cs
  match l, hl with
  | [c0], _ =>
    dsimp only at h0
    rw [c22_] at h0
    obtain ⟨A, n, cap, zs, e, hn, hc, hs⟩ := rgs_of (c0 := c0) (by simpa using h0)
    exact ⟨A, n, cap, zs, by rw [e], hs, hn, hc⟩
/-- Lines, or matches, that came in. -/
theorem open_lines {H : Type} {enc : TypeId × Value → H} {W : World} {b : Nat} {t e : TypeId} {v : Value} {d : DataW H} {p : List MemPlace} (ht : Try.prog.underlying t = some (.slice e)) (he : Try.prog.underlying e = some (.slice 3)) (hc : Try.prog.cellsOf e = 1)
    (hv : Value.okWide Try.prog W .any b t v) (h : DataW.Trod enc Try.prog W 0 (fun _ => true) true t v d p) :
    ∃ (A : Option Addr) (n cap : Nat) (L : List (List Int)), v = .slice A n cap ∧ Lns W A n L ∧ n ≤ 9223372036854775807 ∧ n ≤ cap := by
  obtain ⟨a0, len0, cap0, rfl⟩ := okWide_slice ht hv
  obtain ⟨fuel, hf⟩ := h
  obtain ⟨A, n, cap, L, e, hn, hcp, hs⟩ := lns_of ht he hc (c0 := .slice a0 len0 cap0) (by simpa [Value.cells] using hf)
  exact ⟨A, n, cap, L, e, hs, hn, hcp⟩
/-- Two numbers in an array that came in. -/
theorem open_arr2 {H : Type} {enc : TypeId × Value → H} {W : World} {b : Nat} {t e : TypeId} {k : IntKind} {v : Value} {d : DataW H} {p : List MemPlace} (ht : Try.prog.underlying t = some (.array 2 e)) (he : Try.prog.underlying e = some (.int k)) (hc : Try.prog.cellsOf e = 1) (hct : Try.prog.cellsOf t = 2)
    (hv : Value.okWide Try.prog W .any b t v) (h : DataW.Trod enc Try.prog W 0 (fun _ => true) true t v d p) :
    ∃ x y : Int, v = .agg #[.int k x, .int k y] ∧ (Lit.int k x).wf = true ∧ (Lit.int k y).wf = true := by
  simp only [Value.okWide, ht] at hv
  obtain ⟨cs, rfl, _, _⟩ := hv
  obtain ⟨fuel, hf⟩ := h
  obtain ⟨xs, m, _, _, hl, hxl, hx⟩ := DataW.trod_array (cs := cs.toList) ht (by simpa [Value.cells] using hf)
  rw [hct] at hl
  obtain ⟨l⟩ := cs
  match l, hl with
  | [c0, c1], _ =>
    have a0 := hx 0 (by omega)
    have a1 := hx 1 (by omega)
    rw [hc, List.getElem?_eq_getElem (by omega)] at a0 a1
    obtain ⟨u0, g0, _, w0⟩ := DataW.trod_int he (by simpa using a0)
    obtain ⟨u1, g1, _, w1⟩ := DataW.trod_int he (by simpa using a1)
    simp at g0 g1
    exact ⟨u0, u1, by rw [g0, g1], w0, w1⟩
/-- A list of numbers that came in. -/
theorem open_list {H : Type} {enc : TypeId × Value → H} {W : World} {b : Nat} {t e : TypeId} {v : Value} {d : DataW H} {p : List MemPlace} (ht : Try.prog.underlying t = some (.slice e)) (he : Try.prog.underlying e = some (.int .i64)) (hc : Try.prog.cellsOf e = 1)
    (hv : Value.okWide Try.prog W .any b t v) (h : DataW.Trod enc Try.prog W 0 (fun _ => true) true t v d p) :
    ∃ (A : Option Addr) (n cap : Nat) (zs : List Int), v = .slice A n cap ∧ Ints W A n zs ∧ n ≤ 9223372036854775807 ∧ n ≤ cap ∧ ∀ z ∈ zs, -9223372036854775808 ≤ z ∧ z ≤ 9223372036854775807 := by
  obtain ⟨a0, len0, cap0, rfl⟩ := okWide_slice ht hv
  obtain ⟨fuel, hf⟩ := h
  have hml := maxLen_le
  rcases open_ints ht he hc hf with ⟨hcs, hx⟩ | ⟨a, len, cap, zs, hcs, _, hl, hm, hz, hx, hcell, hwz⟩
  · simp [Value.cells] at hcs
    obtain ⟨rfl, rfl, rfl⟩ := hcs
    exact ⟨none, 0, 0, [], rfl, ⟨rfl, fun h => absurd h (by omega)⟩, Nat.zero_le _, Nat.zero_le _, fun z hz => by cases hz⟩
  · simp [Value.cells] at hcs
    obtain ⟨rfl, rfl, rfl⟩ := hcs
    simp only [if_true] at hz
    refine ⟨some a, len0, cap0, zs.take len0, rfl, ⟨by simp; omega, fun hn => ?_⟩, by omega, hl, fun z hz' => ?_⟩
    · obtain ⟨bb, off, spot⟩ := a
      have hspot : spot = none := by simpa [Addr.add] using World.cell?_spot (hcell 0 (by omega))
      subst hspot
      refine ⟨bb, off, rfl, fun j hj => ?_⟩
      have := hcell j (by omega)
      rw [add_plain] at this
      rw [this]
      simp [iAt, List.getD, List.getElem?_take, hj]
    · have h5 := hwz z (List.mem_of_mem_take hz')
      have e1 : IntKind.i64.min = -9223372036854775808 := rfl
      have e2 : IntKind.i64.max = 9223372036854775807 := rfl
      simpa [Lit.wf, e1, e2] using h5
/-- A slice of n small numbers reads as zs. -/
def IntsU (w : World) (A : Option Addr) (n : Nat) (zs : List Int) : Prop :=
  zs.length = n ∧ (∀ j, 0 ≤ iAt zs j ∧ iAt zs j ≤ 255) ∧ (0 < n → ∃ b o, A = some ⟨b, o, none⟩ ∧ ∀ j, j < n → w.cell? ⟨b, o + j, none⟩ = some (.int .u8 (iAt zs j)))
theorem open_listU {H : Type} {enc : TypeId × Value → H} {W : World} {b : Nat} {t e : TypeId} {v : Value} {d : DataW H} {p : List MemPlace} (ht : Try.prog.underlying t = some (.slice e)) (he : Try.prog.underlying e = some (.int .u8)) (hc : Try.prog.cellsOf e = 1)
    (hv : Value.okWide Try.prog W .any b t v) (h : DataW.Trod enc Try.prog W 0 (fun _ => true) true t v d p) :
    ∃ (A : Option Addr) (n cap : Nat) (zs : List Int), v = .slice A n cap ∧ IntsU W A n zs ∧ n ≤ 9223372036854775807 := by
  obtain ⟨a0, len0, cap0, rfl⟩ := okWide_slice ht hv
  obtain ⟨fuel, hf⟩ := h
  have hml := maxLen_le
  rcases open_ints ht he hc hf with ⟨hcs, hx⟩ | ⟨a, len, cap, zs, hcs, _, hl, hm, hz, hx, hcell, hwz⟩
  · simp [Value.cells] at hcs
    obtain ⟨rfl, rfl, rfl⟩ := hcs
    exact ⟨none, 0, 0, [], rfl, ⟨rfl, fun j => by simp [iAt], fun h => absurd h (by omega)⟩, Nat.zero_le _⟩
  · simp [Value.cells] at hcs
    obtain ⟨rfl, rfl, rfl⟩ := hcs
    simp only [if_true] at hz
    refine ⟨some a, len0, cap0, zs.take len0, rfl, ⟨by simp; omega, fun j => ?_, fun hn => ?_⟩, by omega⟩
    · have e1 : IntKind.u8.min = 0 := by decide
      have e2 : IntKind.u8.max = 255 := by decide
      by_cases hj : j < (zs.take len0).length
      · have h5 := hwz _ (List.mem_of_mem_take (List.getElem_mem hj))
        rw [iAt_eq hj]
        simpa [Lit.wf, e1, e2] using h5
      · have : iAt (zs.take len0) j = 0 := by
          unfold iAt List.getD
          rw [List.getElem?_eq_none (by omega)]
          rfl
        omega
    · obtain ⟨bb, off, spot⟩ := a
      have hspot : spot = none := by simpa [Addr.add] using World.cell?_spot (hcell 0 (by omega))
      subst hspot
      refine ⟨bb, off, rfl, fun j hj => ?_⟩
      have := hcell j (by omega)
      rw [add_plain] at this
      rw [this]
      simp [iAt, List.getD, List.getElem?_take, hj]

theorem laid : laidOutB Try.prog = true := by kernel_rfl
theorem own0 : ownKnob Try.prog.godebug = none := by kernel_rfl

/-- All arguments read behind the call as before. -/
theorem below_args {H : Type} {enc : TypeId × Value → H} {P : Program} {W W' : World} (hl : laidOutB P = true) (hb : Below W.heap.size W W') : ∀ {ts : List TypeId} {vs : List Value} {ds : List (DataW H)} {ps : List MemPlace},
    (ts.all fun t => P.readableRec t && decide (t < P.types.size)) = true → DataW.TrodAll enc P W 0 (fun _ => true) true ts vs ds ps → (∀ x ∈ ps, x.block < W.heap.size) →
    DataW.TrodAll enc P W' 0 (fun b => decide (b < W.heap.size)) true ts vs ds ps
  | [], vs, ds, ps, _, h, _ => by
    obtain ⟨rfl, rfl, rfl⟩ := trodAll_nil h
    exact trodAll_mk0
  | t :: ts, vs, ds, ps, hr, h, hlt => by
    obtain ⟨v, vs', d, ds', p, q, rfl, rfl, rfl, hd, hrest⟩ := trodAll_cons h
    rw [List.all_cons, Bool.and_eq_true, Bool.and_eq_true] at hr
    exact trodAll_cons_mk (Below.trod hl hr.1.1 (of_decide_eq_true hr.1.2) hd hb (fun x hx => hlt x (List.mem_append_left _ hx))) (below_args hl hb hr.2 hrest (fun x hx => hlt x (List.mem_append_right _ hx)))
end Go.Proofs.Ythdjbapidodlfaa
