/- Stage 4: the chart of a board in memory. -/
import Derived.Test.YthdjbapidodlfaaLvs
import Derived.Carry
namespace Go.Proofs.Ythdjbapidodlfaa
set_option linter.unusedSimpArgs false
set_option linter.unusedVariables false
open Go.RowKit Go.Shelf

/-- Places as keys. -/
def domL (p : List Int) : Prop := p.length = 4 ∧ ∀ i, i < 4 → inP (iAt p i)
def kfL : KF 79 (List Int) where
  val := plA
  lit p := .string (keyBytes [.int .i64 (iAt p 0), .int .i64 (iAt p 1), .int .i64 (iAt p 2), .int .i64 (iAt p 3)])
  dom := domL
  keyed := key79
  key p hp := key_pl (wf_num (hp.2 0 (by omega)).1 (hp.2 0 (by omega)).2) (wf_num (hp.2 1 (by omega)).1 (hp.2 1 (by omega)).2) (wf_num (hp.2 2 (by omega)).1 (hp.2 2 (by omega)).2) (wf_num (hp.2 3 (by omega)).1 (hp.2 3 (by omega)).2)
  vinj x y hx hy h := by
    simp only [plA, Value.agg.injEq, Array.mk.injEq, List.cons.injEq, Value.int.injEq, and_true, true_and] at h
    obtain ⟨h0, h1, h2, h3⟩ := h
    exact ext4 hx.1 hy.1 (fun i hi => by
      match i, hi with
      | 0, _ => exact h0
      | 1, _ => exact h1
      | 2, _ => exact h2
      | 3, _ => exact h3)
theorem WPl.dom {m : Nat} {p : List Int} (h : WPl m p) : domL p := ⟨h.len, fun i _ => by
  unfold inP
  rcases Nat.lt_or_ge i m with hi | hi
  · have := h.rng i hi; omega
  · rw [h.zero i hi]; omega⟩
theorem zero91 (W : World) : (zeroValue 91).run Try.prog W = .ok (knV (0, 0)) W := by kernel_rfl
def chL (B Me : Nat) (Ms : Nat → Nat) (ak : Int × Int) : List Value := [.pointer (some ⟨B, 0, none⟩), .map (some Me), .map (some (Ms 0)), .map (some (Ms 1)), .map (some (Ms 2)), .map (some (Ms 3)), .int .i64 ak.1, .int .i64 ak.2]
/-- A chart: what is known of matches, and of those in front of places. -/
structure Cht (W : World) (Cb B Me : Nat) (Ms : Nat → Nat) (nn : Nat) (ak : Int × Int) (Se : List Int → Option Value) (F : Nat → List Int → Int × Int) : Prop where
  row : W.heap[Cb]? = some (.cells (chL B Me Ms ak).toArray 93 (0, 0))
  ends : MpH kfL (knV (0, 0)) W Me nn Se
  fr : ∀ h, h < 4 → ∃ S, MpH kfL (knV (0, 0)) W (Ms h) nn S ∧ ∀ p v, domL p → S p = some v → v = knV (F h p)
  ne1 : Cb ≠ Me
  ne2 : ∀ h, h < 4 → Cb ≠ Ms h ∧ Me ≠ Ms h
  ne3 : ∀ h k, h < 4 → k < 4 → h ≠ k → Ms h ≠ Ms k
/-- The blocks of what is known in front of places. -/
def mutF (Ms : Nat → Nat) (k : Nat) : Prop := ∃ h, h < 4 ∧ k = Ms h
section
variable {W W' : World} {Cb B Me : Nat} {Ms : Nat → Nat} {nn : Nat} {ak : Int × Int} {Se : List Int → Option Value} {F : Nat → List Int → Int × Int}
theorem Cht.mono {nn' : Nat} (h : Cht W Cb B Me Ms nn ak Se F) (hn : nn ≤ nn') : Cht W Cb B Me Ms nn' ak Se F :=
  ⟨h.row, h.ends.mono hn, fun k hk => by obtain ⟨S, h1, h2⟩ := h.fr k hk; exact ⟨S, h1.mono hn, h2⟩, h.ne1, h.ne2, h.ne3⟩
theorem Cht.keep {Mut : Nat → Prop} (h : Cht W Cb B Me Ms nn ak Se F) (hK : Keeps Mut W W') (h1 : ¬ Mut Cb) (h2 : ¬ Mut Me) (h3 : ∀ k, k < 4 → ¬ Mut (Ms k)) : Cht W' Cb B Me Ms nn ak Se F :=
  ⟨(hK.block _ (lt_of_block h.row) h1).trans h.row, h.ends.keep hK h2, fun k hk => by obtain ⟨S, q1, q2⟩ := h.fr k hk; exact ⟨S, q1.keep hK (h3 k hk), q2⟩, h.ne1, h.ne2, h.ne3⟩
theorem Cht.below {L : Nat} (h : Cht W Cb B Me Ms nn ak Se F) (hB : Below L W W') (hL : W.heap.size ≤ L) : Cht W' Cb B Me Ms nn ak Se F :=
  h.keep (Mut := fun _ => False) (Keeps.of_new (hB.mono hL)) (fun e => e) (fun e => e) (fun _ _ e => e)
theorem Cht.c0 (h : Cht W Cb B Me Ms nn ak Se F) : W.cell? ⟨Cb, 0, none⟩ = some (.pointer (some ⟨B, 0, none⟩)) := by rw [cell_row h.row]; rfl
theorem Cht.c1 (h : Cht W Cb B Me Ms nn ak Se F) : W.cell? ⟨Cb, 1, none⟩ = some (.map (some Me)) := by rw [cell_row h.row]; rfl
theorem Cht.cF (h : Cht W Cb B Me Ms nn ak Se F) {k : Nat} (hk : k < 4) : W.cell? ⟨Cb, 2 + k, none⟩ = some (.map (some (Ms k))) := by
  rw [cell_row h.row]
  match k, hk with
  | 0, _ => rfl
  | 1, _ => rfl
  | 2, _ => rfl
  | 3, _ => rfl
theorem Cht.c6 (h : Cht W Cb B Me Ms nn ak Se F) : W.cell? ⟨Cb, 6, none⟩ = some (.int .i64 ak.1) ∧ W.cell? ⟨Cb, 7, none⟩ = some (.int .i64 ak.2) := by rw [cell_row h.row, cell_row h.row]; exact ⟨rfl, rfl⟩
theorem Cht.fz (h : Cht W Cb B Me Ms nn ak Se F) (j : Nat) : W.frozen? ⟨Cb, j, none⟩ = false := frozen_row h.row
theorem Cht.ltF (h : Cht W Cb B Me Ms nn ak Se F) {k : Nat} (hk : k < 4) : Ms k < W.heap.size := by
  obtain ⟨S, h1, _⟩ := h.fr k hk
  exact h1.lt
/-- What is known of a match alone. -/
theorem Cht.lookE (h : Cht W Cb B Me Ms nn ak Se F) {p : List Int} (hp : domL p) : (Instr.lookup 88 (.map (some Me)) (plA p) false).run Try.prog W = .ok ((Se p).getD (knV (0, 0))) W :=
  h.ends.look (t := 88) (e := 91) Try.underlying88 (zero91 W) (x := p) hp
theorem Cht.lookF (h : Cht W Cb B Me Ms nn ak Se F) {k : Nat} (hk : k < 4) {p : List Int} (hp : domL p) :
    (Instr.lookup 88 (.map (some (Ms k))) (plA p) true).run Try.prog W = .ok (.tuple #[knV (F k p), .bool true]) W ∨ (Instr.lookup 88 (.map (some (Ms k))) (plA p) true).run Try.prog W = .ok (.tuple #[knV (0, 0), .bool false]) W := by
  obtain ⟨S, h1, h2⟩ := h.fr k hk
  have hl := h1.look_ok (t := 88) (e := 91) Try.underlying88 (zero91 W) (x := p) hp
  cases hS : S p with
  | some v =>
    rw [hS] at hl
    rw [← h2 p v hp hS]
    exact .inl hl
  | none =>
    rw [hS] at hl
    exact .inr hl
theorem Cht.lookG (h : Cht W Cb B Me Ms nn ak Se F) {k : Nat} (hk : k < 4) {p : List Int} (hp : domL p) :
    ∃ (ok : Bool) (L0 : Int × Int), (ok = true → L0 = F k p) ∧ ∀ W', Below W.heap.size W W' → (Instr.lookup 88 (.map (some (Ms k))) (plA p) true).run Try.prog W' = .ok (.tuple #[knV L0, .bool ok]) W' := by
  obtain ⟨S, h1, h2⟩ := h.fr k hk
  have hl := fun (W' : World) (hb : Below W.heap.size W W') => (h1.below hb (Nat.le_refl _)).look_ok (t := 88) (e := 91) Try.underlying88 (zero91 W') (x := p) hp
  cases hS : S p with
  | some v =>
    refine ⟨true, F k p, fun _ => rfl, fun W' hb => ?_⟩
    have := hl W' hb
    rw [hS] at this
    rw [← h2 p v hp hS]
    exact this
  | none =>
    refine ⟨false, (0, 0), fun e => (by cases e), fun W' hb => ?_⟩
    have := hl W' hb
    rw [hS] at this
    exact this
theorem Cht.putF (h : Cht W Cb B Me Ms nn ak Se F) {k : Nat} (hk : k < 4) {p : List Int} (hp : domL p) (hnn : nn < 1000000000) :
    ∃ W', (Instr.mapUpdate 88 (.map (some (Ms k))) (plA p) (knV (F k p))).run Try.prog W = .ok () W' ∧ Cht W' Cb B Me Ms (nn + 1) ak Se F ∧ Keeps (fun j => j = Ms k) W W' := by
  obtain ⟨S, h1, h2⟩ := h.fr k hk
  obtain ⟨W', hrun, hm, hK⟩ := h1.put (t := 88) (e := 91) Try.underlying88 (x := p) hp (knV (F k p)) hnn
  refine ⟨W', hrun, ⟨(hK.block _ (lt_of_block h.row) (fun e => (h.ne2 k hk).1 e)).trans h.row, (h.ends.mono (Nat.le_succ _)).keep hK (fun e => (h.ne2 k hk).2 e), fun j hj => ?_, h.ne1, h.ne2, h.ne3⟩, hK⟩
  by_cases hjk : j = k
  · subst hjk
    refine ⟨_, hm, fun q v hq hv => ?_⟩
    by_cases hqp : q = p
    · subst hqp
      rw [putS_same] at hv
      cases hv; rfl
    · rw [putS_other _ hqp] at hv
      exact h2 q v hq hv
  · obtain ⟨S2, q1, q2⟩ := h.fr j hj
    exact ⟨S2, (q1.mono (Nat.le_succ _)).keep hK (fun e => h.ne3 j k hj hk hjk e), q2⟩
theorem Cht.putE (h : Cht W Cb B Me Ms nn ak Se F) {p : List Int} (hp : domL p) (v : Value) (hnn : nn < 1000000000) :
    ∃ W', (Instr.mapUpdate 88 (.map (some Me)) (plA p) v).run Try.prog W = .ok () W' ∧ Cht W' Cb B Me Ms (nn + 1) ak (putS Se p (some v)) F ∧ Keeps (fun j => j = Me) W W' := by
  obtain ⟨W', hrun, hm, hK⟩ := h.ends.put (t := 88) (e := 91) Try.underlying88 (x := p) hp v hnn
  refine ⟨W', hrun, ⟨(hK.block _ (lt_of_block h.row) (fun e => h.ne1 e)).trans h.row, hm, fun j hj => ?_, h.ne1, h.ne2, h.ne3⟩, hK⟩
  obtain ⟨S2, q1, q2⟩ := h.fr j hj
  exact ⟨S2, (q1.mono (Nat.le_succ _)).keep hK (fun e => (h.ne2 j hj).2 e.symm), q2⟩
end
end Go.Proofs.Ythdjbapidodlfaa
