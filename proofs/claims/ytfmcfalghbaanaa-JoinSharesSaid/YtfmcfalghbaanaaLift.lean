/- Stage 2: how arguments read: cylinders, steps, lists of steps; and that they read behind the call as before. No function of the program is walked here. -/
import Derived.Test.YtfmcfalghbaanaaRows
import Derived.Test.YtfmcfalghbaanaaSame
import Derived.ProofKit
import Derived.OpenShut
import Derived.SizedLaws
import Derived.Carry
import Derived.Lib.SmallJoins
import Derived.Deep.Slices
import Derived.Deep.Fields
import Derived.ChangeSame
namespace Go.Proofs.Ytfmcfalghbaanaa
set_option linter.unusedSimpArgs false
set_option linter.unusedVariables false
open Go.Joins Go.ChangeShapes Go.WideShapes Go.RowKit Go.Deep
set_option maxRecDepth 100000

theorem list_of {α : Type} [Inhabited α] (P : Nat → α → Prop) : ∀ n : Nat, (∀ i, i < n → ∃ r, P i r) → ∃ rs : List α, rs.length = n ∧ ∀ i, i < n → ∀ d, P i (rs.getD i d)
  | 0, _ => ⟨[], rfl, fun i h => absurd h (by omega)⟩
  | n + 1, h => by
    obtain ⟨rs, hl, hr⟩ := list_of P n (fun i hi => h i (by omega))
    obtain ⟨r, hp⟩ := h n (by omega)
    refine ⟨rs ++ [r], by simp [hl], fun i hi d => ?_⟩
    by_cases hin : i < n
    · have := hr i hin d
      rw [List.getD_eq_getElem?_getD, List.getElem?_append_left (by omega), ← List.getD_eq_getElem?_getD]
      exact this
    · obtain rfl : i = n := by omega
      rw [List.getD_eq_getElem?_getD, List.getElem?_append_right (by omega)]
      simpa [hl] using hp

section
variable {H : Type} {enc : TypeId × Value → H} {w : World} {base : Nat} {spare : Nat → Bool} {held : Bool}
theorem c2_ : Try.prog.cellsOf 2 = 1 := by kernel_rfl
theorem c3_ : Try.prog.cellsOf 3 = 1 := by kernel_rfl
theorem c4_ : Try.prog.cellsOf 4 = 1 := by kernel_rfl
theorem c22_ : Try.prog.cellsOf 22 = 1 := by kernel_rfl
theorem c24_ : Try.prog.cellsOf 24 = 2 := by kernel_rfl
theorem c26_ : Try.prog.cellsOf 26 = 4 := by kernel_rfl
theorem c28_ : Try.prog.cellsOf 28 = 2 := by kernel_rfl
theorem c59_ : Try.prog.cellsOf 59 = 3 := by kernel_rfl
theorem c60_ : Try.prog.cellsOf 60 = 6 := by kernel_rfl
theorem c62_ : Try.prog.cellsOf 62 = 7 := by kernel_rfl
theorem rg_of {fuel : Nat} {cs : List Value} {x : DataW H × List MemPlace} (h : DataW.trod enc Try.prog w base spare held fuel 24 cs = some x) : ∃ a b : Int, cs = [.int .i64 a, .int .i64 b] := by
  obtain ⟨y0, y1, n, _, hl, h0, h1⟩ := trod_struct2 Try.underlying24 h
  rw [c24_] at hl
  match cs, hl with
  | [c0, c1], _ =>
    dsimp only at h0 h1
    rw [c2_] at h0 h1
    obtain ⟨a, e0, _⟩ := DataW.trod_int Try.underlying2 h0
    obtain ⟨b, e1, _⟩ := DataW.trod_int Try.underlying2 h1
    simp at e0 e1
    exact ⟨a, b, by rw [e0, e1]⟩
theorem en_of {fuel : Nat} {cs : List Value} {x : DataW H × List MemPlace} (h : DataW.trod enc Try.prog w base spare held fuel 59 cs = some x) : ∃ e : En, cs = [.int .i64 e.d.lo, .int .i64 e.d.hi, .int .i64 e.p] := by
  obtain ⟨y0, y1, n, _, hl, h0, h1⟩ := trod_struct2 Try.underlying59 h
  rw [c59_] at hl
  match cs, hl with
  | [c0, c1, c2], _ =>
    dsimp only at h0 h1
    rw [c24_] at h0
    rw [c2_] at h1
    obtain ⟨a, b, e0⟩ := rg_of h0
    obtain ⟨p, e1, _⟩ := DataW.trod_int Try.underlying2 h1
    simp at e0 e1
    exact ⟨⟨⟨a, b⟩, p⟩, by rw [e0.1, e0.2, e1]⟩
theorem pc_of {fuel : Nat} {cs : List Value} {x : DataW H × List MemPlace} (h : DataW.trod enc Try.prog w base spare held fuel 62 cs = some x) : ∃ p : Pc, cs = [.int .i64 p.a.d.lo, .int .i64 p.a.d.hi, .int .i64 p.a.p, .int .i64 p.b.d.lo, .int .i64 p.b.d.hi, .int .i64 p.b.p, .bool p.loose] := by
  obtain ⟨y0, y1, n, _, hl, h0, h1⟩ := trod_struct2 Try.underlying62 h
  rw [c62_] at hl
  match cs, hl with
  | [c0, c1, c2, c3, c4, c5, c6], _ =>
    dsimp only at h0 h1
    rw [c60_] at h0
    rw [c4_] at h1
    obtain ⟨l, e1, _⟩ := DataW.trod_bool Try.underlying4 h1
    obtain ⟨xs, m, _, _, _, hxl, hx⟩ := DataW.trod_array Try.underlying60 h0
    have g0 := hx 0 (by omega)
    have g1 := hx 1 (by omega)
    rw [c59_, List.getElem?_eq_getElem (by omega)] at g0 g1
    obtain ⟨a, ea⟩ := en_of g0
    obtain ⟨b, eb⟩ := en_of g1
    simp at e1 ea eb
    exact ⟨⟨a, b, l⟩, by rw [ea.1, ea.2.1, ea.2.2, eb.1, eb.2.1, eb.2.2, e1]⟩
theorem st_of {fuel : Nat} {cs : List Value} {x : DataW H × List MemPlace} (h : DataW.trod enc Try.prog w base spare held fuel 28 cs = some x) : ∃ s : St, cs = [.int .i64 s.p, .bool s.turned] := by
  obtain ⟨y0, y1, n, _, hl, h0, h1⟩ := trod_struct2 Try.underlying28 h
  rw [c28_] at hl
  match cs, hl with
  | [c0, c1], _ =>
    dsimp only at h0 h1
    rw [c3_] at h0
    rw [c4_] at h1
    obtain ⟨a, e0, _⟩ := DataW.trod_int Try.underlying3 h0
    obtain ⟨b, e1, _⟩ := DataW.trod_bool Try.underlying4 h1
    simp at e0 e1
    exact ⟨⟨a, b⟩, by rw [e0, e1]⟩
theorem maxLen_le : maxLen ≤ 9223372036854775807 := by decide
/-- A slice of pieces. -/
theorem pcs_of {fuel : Nat} {c0 : Value} {x : DataW H × List MemPlace} (h : DataW.trod enc Try.prog w base (fun _ => true) held fuel 22 [c0] = some x) :
    ∃ (A : Option Addr) (n cap : Nat) (ps : List Pc), c0 = .slice A n cap ∧ n ≤ 9223372036854775807 ∧ Pcs w A n ps := by
  rcases open_slice Try.underlying22 h with ⟨h0, _⟩ | ⟨a, len, cap, m, n, D, Pl, hcs, _, hl, hm, hmm, _, hi⟩
  · simp at h0
    exact ⟨none, 0, 0, [], h0, by omega, rfl, fun h => absurd h (by omega)⟩
  · simp at hcs
    simp only [if_true] at hmm
    subst hmm
    obtain ⟨ps, hrl, hrs⟩ := list_of (α := Pc) (fun i p => w.cell? (a.add (i * 7)) = some (.int .i64 p.a.d.lo) ∧ w.cell? (a.add (i * 7 + 1)) = some (.int .i64 p.a.d.hi) ∧ w.cell? (a.add (i * 7 + 2)) = some (.int .i64 p.a.p) ∧
        w.cell? (a.add (i * 7 + 3)) = some (.int .i64 p.b.d.lo) ∧ w.cell? (a.add (i * 7 + 4)) = some (.int .i64 p.b.d.hi) ∧ w.cell? (a.add (i * 7 + 5)) = some (.int .i64 p.b.p) ∧ w.cell? (a.add (i * 7 + 6)) = some (.bool p.loose)) len (fun i hin => by
      obtain ⟨cs', hc, ht⟩ := hi i (by omega)
      rw [c62_] at hc
      obtain ⟨_, hcl, hat⟩ := World.cells?_some hc
      obtain ⟨p, rfl⟩ := pc_of ht
      refine ⟨p, ?_⟩
      simp only [← Go.Deep.add_add]
      exact ⟨by simpa [Addr.add] using hat 0 (by omega), hat 1 (by omega), hat 2 (by omega), hat 3 (by omega), hat 4 (by omega), hat 5 (by omega), hat 6 (by omega)⟩)
    refine ⟨some a, len, _, ps, hcs, by have := maxLen_le; omega, hrl, fun hn => ?_⟩
    obtain ⟨bb, off, spot⟩ := a
    have hspot : spot = none := by simpa [Addr.add] using World.cell?_spot (hrs 0 hn ⟨⟨⟨0, 0⟩, 0⟩, ⟨⟨0, 0⟩, 0⟩, false⟩).1
    subst hspot
    refine ⟨bb, off, rfl, fun j hj => ?_⟩
    have := hrs j hj ⟨⟨⟨0, 0⟩, 0⟩, ⟨⟨0, 0⟩, 0⟩, false⟩
    simp only [add_plain, ← Nat.add_assoc] at this
    exact this
/-- A slice of steps. -/
theorem sts_of {fuel : Nat} {c0 : Value} {x : DataW H × List MemPlace} (h : DataW.trod enc Try.prog w base (fun _ => true) held fuel 29 [c0] = some x) :
    ∃ (A : Option Addr) (n cap : Nat) (ss : List St), c0 = .slice A n cap ∧ n ≤ 9223372036854775807 ∧ n ≤ cap ∧ Sts w A n ss := by
  rcases open_slice Try.underlying29 h with ⟨h0, _⟩ | ⟨a, len, cap, m, n, D, Pl, hcs, _, hl, hm, hmm, _, hi⟩
  · simp at h0
    exact ⟨none, 0, 0, [], h0, by omega, by omega, rfl, fun h => absurd h (by omega)⟩
  · simp at hcs
    simp only [if_true] at hmm
    subst hmm
    obtain ⟨ps, hrl, hrs⟩ := list_of (α := St) (fun i p => w.cell? (a.add (i * 2)) = some (.int .i64 p.p) ∧ w.cell? (a.add (i * 2 + 1)) = some (.bool p.turned)) len (fun i hin => by
      obtain ⟨cs', hc, ht⟩ := hi i (by omega)
      rw [c28_] at hc
      obtain ⟨_, hcl, hat⟩ := World.cells?_some hc
      obtain ⟨p, rfl⟩ := st_of ht
      refine ⟨p, ?_⟩
      simp only [← Go.Deep.add_add]
      exact ⟨by simpa [Addr.add] using hat 0 (by omega), hat 1 (by omega)⟩)
    refine ⟨some a, len, _, ps, hcs, by have := maxLen_le; omega, hl, hrl, fun hn => ?_⟩
    obtain ⟨bb, off, spot⟩ := a
    have hspot : spot = none := by simpa [Addr.add] using World.cell?_spot (hrs 0 hn ⟨0, false⟩).1
    subst hspot
    refine ⟨bb, off, rfl, fun j hj => ?_⟩
    have := hrs j hj ⟨0, false⟩
    simp only [add_plain, ← Nat.add_assoc] at this
    exact this
end


/-- A cylinder that came in. -/
theorem open_cyl {H : Type} {enc : TypeId × Value → H} {W : World} {b : Nat} {v : Value} {d : DataW H} {p : List MemPlace} (hv : Value.okWide Try.prog W .any b 26 v) (h : DataW.Trod enc Try.prog W 0 (fun _ => true) true 26 v d p) :
    ∃ (A : Option Addr) (n cap : Nat) (off lo hi : Int) (ps : List Pc), v = cyl A n cap off lo hi ∧ Pcs W A n ps ∧ n ≤ 9223372036854775807 := by
  obtain ⟨cs, rfl, hsz⟩ := okWide_struct Try.underlying26 hv
  rw [c26_] at hsz
  obtain ⟨fuel, hf⟩ := h
  obtain ⟨l⟩ := cs
  match l, hsz with
  | [e0, e1, e2, e3], _ =>
    obtain ⟨xs, n, _, _, _, hxl, hx⟩ := DataW.trod_struct Try.underlying26 hf
    have g0 := hx 0 _ rfl
    have g1 := hx 1 _ rfl
    have g2 := hx 2 _ rfl
    have hxl3 : xs.length = 3 := hxl
    rw [List.getElem?_eq_getElem (by omega)] at g0 g1 g2
    change DataW.trod enc Try.prog W 0 (fun _ => true) true n 22 (List.take (Try.prog.cellsOf 22) (List.drop 0 [e0, e1, e2, e3])) = some xs[0] at g0
    change DataW.trod enc Try.prog W 0 (fun _ => true) true n 2 (List.take (Try.prog.cellsOf 2) (List.drop 1 [e0, e1, e2, e3])) = some xs[1] at g1
    change DataW.trod enc Try.prog W 0 (fun _ => true) true n 24 (List.take (Try.prog.cellsOf 24) (List.drop 2 [e0, e1, e2, e3])) = some xs[2] at g2
    rw [c22_] at g0
    rw [c2_] at g1
    rw [c24_] at g2
    obtain ⟨A, m, cap, ps, h0, hm, hP⟩ := pcs_of g0
    obtain ⟨off, h1, _⟩ := DataW.trod_int Try.underlying2 g1
    obtain ⟨lo, hi, h2⟩ := rg_of g2
    simp at h0 h1 h2
    exact ⟨A, m, cap, off, lo, hi, ps, by rw [h0, h1, h2.1, h2.2]; rfl, hP, hm⟩
/-- A step that came in. -/
theorem open_step {H : Type} {enc : TypeId × Value → H} {W : World} {b : Nat} {v : Value} {d : DataW H} {p : List MemPlace} (hv : Value.okWide Try.prog W .any b 28 v) (h : DataW.Trod enc Try.prog W 0 (fun _ => true) true 28 v d p) :
    ∃ (q : Int) (t : Bool), v = .agg #[.int .i64 q, .bool t] := by
  obtain ⟨v0, v1, y0, y1, n, rfl, _, _, h0, h1⟩ := open_agg2 (P := Try.prog) Try.underlying28 (by kernel_rfl) (by kernel_rfl) hv h
  obtain ⟨q, e0, _, _⟩ := DataW.trod_int Try.underlying3 h0
  obtain ⟨t, e1, _⟩ := DataW.trod_bool Try.underlying4 h1
  injection e0 with e0
  injection e1 with e1
  exact ⟨q, t, by rw [e0, e1]⟩
/-- A list of steps that came in. -/
theorem open_steps {H : Type} {enc : TypeId × Value → H} {W : World} {b : Nat} {v : Value} {d : DataW H} {p : List MemPlace} (hv : Value.okWide Try.prog W .any b 29 v) (h : DataW.Trod enc Try.prog W 0 (fun _ => true) true 29 v d p) :
    ∃ (A : Option Addr) (n cap : Nat) (ss : List St), v = .slice A n cap ∧ Sts W A n ss ∧ n ≤ 9223372036854775807 ∧ n ≤ cap := by
  obtain ⟨a0, len0, cap0, rfl⟩ := okWide_slice Try.underlying29 hv
  obtain ⟨fuel, hf⟩ := h
  obtain ⟨A, n, cap, ss, e, hn, hc, hs⟩ := sts_of (c0 := .slice a0 len0 cap0) (by simpa [Value.cells] using hf)
  exact ⟨A, n, cap, ss, e, hs, hn, hc⟩

theorem laid : laidOutB Try.prog = true := by kernel_rfl
theorem own0 : ownKnob Try.prog.godebug = none := by kernel_rfl

/-- All arguments read behind the call as before. -/
theorem below_args {H : Type} {enc : TypeId × Value → H} {P : Program} {W W' : World} (hl : laidOutB P = true) (hb : Below W.heap.size W W') : ∀ {ts : List TypeId} {vs : List Value} {ds : List (DataW H)} {ps : List MemPlace},
    (ts.all fun t => P.readableRec t && decide (t < P.types.size)) = true → DataW.TrodAll enc P W 0 (fun _ => true) true ts vs ds ps → (∀ x ∈ ps, x.block < W.heap.size) →
    DataW.TrodAll enc P W' 0 (fun b => decide (b < W.heap.size)) true ts vs ds ps
  | [], vs, ds, ps, _, h, _ => by
    obtain ⟨rfl, rfl, rfl⟩ := trodAll_nil h
    exact trodAll_mk0
  | t :: ts, vs, ds, ps, hr, h, hlt => by
    obtain ⟨v, vs', d, ds', p, q, rfl, rfl, rfl, hd, hrest⟩ := trodAll_cons h
    rw [List.all_cons, Bool.and_eq_true, Bool.and_eq_true] at hr
    exact trodAll_cons_mk (Below.trod hl hr.1.1 (of_decide_eq_true hr.1.2) hd hb (fun x hx => hlt x (List.mem_append_left _ hx))) (below_args hl hb hr.2 hrest (fun x hx => hlt x (List.mem_append_right _ hx)))
end Go.Proofs.Ytfmcfalghbaanaa
