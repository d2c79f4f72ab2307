/- Stage 2: a list of steps grows in room, is made and copied. -/
import Derived.Test.YtfmcfalghbaanaaRgf
import Derived.Scope
import Derived.ControlIn
import Derived.Test.YtfmcfalghbaanaaRank
import Derived.ArgAppend
import Derived.Laws.CopyRow
import Derived.Laws.MakeOwn
namespace Go.Proofs.Ytfmcfalghbaanaa
set_option linter.unusedSimpArgs false
set_option linter.unusedVariables false
open Go.RowKit Go.Shelf
variable {F : Fence} {n : Nat} {P : Program} {b : Frame} {a : Act} {k : List Item} {cs : List Frame} {w : World} {Q : Exit → Act → World → Prop}
theorem stepR_scope_ {c : Code} : step P (lone (b.atR a (.code (.scope c) :: k)) cs w) = .next (lone (b.atR a (.code c :: .inScope c :: k)) cs w) :=
  step_lone_go (by simp [stepG, stepG.exec, Frame.atR])
theorem stepR_inScope_ {c : Code} : step P (lone (b.atR a (.inScope c :: k)) cs w) = .next (lone (b.atR a k) cs w) :=
  step_lone_go (by simp [stepG, stepG.exec, Frame.atR])
theorem wpIn_scope_ {c : Code} (h : c.wpIn F n P (Exit.noGoto Q) a w) : (Code.scope c).wpIn F n P Q a w := by
  intro b k cs hro hb hr
  have h0 : (lone (b.atR a (.code (.scope c) :: k)) cs w).fenced P F := fenced_calm hb hr rfl
  obtain ⟨e, a₁, w₁, hq, harr⟩ := h b (.inScope c :: k) cs hro hb hr
  cases e with
  | normal => exact ⟨.normal, a₁, w₁, hq, .head h0 stepR_scope_ (StepsIn.trans harr (.one (fenced_calm hb hr rfl) stepR_inScope_))⟩
  | exit id =>
    have hx : exitTo id (.inScope c :: k) = exitTo id k := by simp [exitTo]
    exact ⟨.exit id, a₁, w₁, hq, fun k' hk => .head h0 stepR_scope_ (harr.1 k' (by rw [hx]; exact hk)),
      fun hr' hk => let ⟨k₁, h1, h2⟩ := harr.2 hr' (by rw [hx]; exact hk); ⟨k₁, h1, .head h0 stepR_scope_ h2⟩⟩
  | goto l => exact hq.elim
  | ret => exact ⟨_, a₁, w₁, hq, .of_steps (.one h0 stepR_scope_) harr⟩
  | panic ch => exact ⟨_, a₁, w₁, hq, .of_steps (.one h0 stepR_scope_) harr⟩
  | outgrown => exact ⟨_, a₁, w₁, hq, .of_steps (.one h0 stepR_scope_) harr⟩
end Go.Proofs.Ytfmcfalghbaanaa

namespace Go.Proofs.Ytfmcfalghbaanaa
set_option linter.unusedSimpArgs false
set_option linter.unusedVariables false
open Go.RowKit Go.Shelf

theorem arrayLen123 : Try.prog.arrayLen 123 = 8 := by kernel_rfl
theorem elem123 : Try.prog.elem 123 = 28 := by kernel_rfl
theorem info28_ : (Try.prog.info? 28).map (fun i => (i.zero, i.size, i.bytes)) = some (some (.agg #[.int .i64 0, .bool false]), 2, 16) := by kernel_rfl
theorem slice123 (B n : Nat) (hn : n ≤ 8) (W : World) : (Instr.sliceAt 123 (.pointer (some ⟨B, 0, none⟩)) none (some (.int .i64 0)) (some (.int .i64 (n : Int)))).run Try.prog W = .ok (.slice (some ⟨B, 0, none⟩) 0 n) W := by
  rw [run_sliceAt_array_hm W 123 ⟨B, 0, none⟩ (by rw [arrayLen123, elem123]; exact Try.underlying123) .i64 .i64 0 (n : Int) (by omega) (by omega) (by rw [arrayLen123]; omega)]
  rw [elem123]
  obtain ⟨i, hi, hz, hs, hb⟩ := info_parts info28_
  simp [sizeOf, typeInfo, hi, slicedAt, Addr.add_lit]
theorem append29 (B W0 k n : Nat) (p : Int) (t : Bool) (W : World) (hk : k < n) (h0 : W.cell? ⟨W0, 0, none⟩ = some (.int .i64 p)) (h1 : W.cell? ⟨W0, 1, none⟩ = some (.bool t))
    (hc : ∀ j, j < 2 → (W.cell? ⟨B, k * 2 + j, none⟩).isSome = true) (hf : ∀ j, j < 2 → W.frozen? ⟨B, k * 2 + j, none⟩ = false) :
    (Builtin.append_ #[29, 29] 29 #[.slice (some ⟨B, 0, none⟩) k n, .slice (some ⟨W0, 0, none⟩) 1 1]).run Try.prog W = .ok (.slice (some ⟨B, 0, none⟩) (k + 1) n) ((W.setCell ⟨B, k * 2, none⟩ (.int .i64 p)).setCell ⟨B, k * 2 + 1, none⟩ (.bool t)) := by
  obtain ⟨i, hi, hz, hs, hb⟩ := info_parts info28_
  have h := run_append_room_cells (P := Try.prog) W 29 29 28 i Try.underlying29 hi B 0 k n ⟨W0, 0, none⟩ 1 1 [.int .i64 p, .bool t] (by rw [hs]; rfl) (by
      intro j u hj
      match j with
      | 0 => simp at hj; subst hj; exact h0
      | 1 => simp at hj; subst hj; simpa [Addr.add_lit] using h1
      | j + 2 => simp at hj) (by simp [Value.oneCell']) (by omega) (by rw [hs]; simpa using hc) (by rw [hs]; simpa using hf)
  rw [h, hs]
  simp [World.setCells]
theorem make29 (n : Nat) (hn : n ≤ 8) (W : World) : ∃ R : Array Value, R.size = n * 2 ∧ (Instr.makeSlice 29 (.int .i64 (n : Int)) (.int .i64 (n : Int))).run Try.prog W = .ok (.slice (some ⟨W.heap.size, 0, none⟩) n n) (W.alloc (.cells R 28)) := by
  obtain ⟨i, hi, hz, hs, hb⟩ := info_parts info28_
  have h := run_makeSlice (P := Try.prog) W 29 28 i _ Try.underlying29 hi hz .i64 .i64 (n : Int) (n : Int) (by omega) (by omega) (by rw [hs]; omega) (by rw [hb]; omega) (by omega)
  simp only [Int.toNat_natCast] at h
  refine ⟨_, ?_, h⟩
  rw [size_madeCells, hs]
theorem copy29 (G B n k : Nat) (cur : Array Value) (cs : List Value) (W : World) (hg : W.heap[G]? = some (.cells cur 28 (0, 0))) (hcs : cs.length = n * 2) (hcur : cur.size = n * 2)
    (hsrc : ∀ j v, cs[j]? = some v → W.cell? ⟨B, j, none⟩ = some v) (h1 : ∀ v ∈ cs, v.oneCell' = true) :
    (Builtin.copy_ #[29, 29] 3 #[.slice (some ⟨G, 0, none⟩) n n, .slice (some ⟨B, 0, none⟩) n k]).run Try.prog W = .ok (.int .i64 (n : Int)) (W.setRow G cs.toArray) := by
  obtain ⟨i, hi, hz, hs, hb⟩ := info_parts info28_
  have hl := run_loadCells_list (P := Try.prog) W ⟨B, 0, none⟩ cs (fun j v hj => by simpa [Addr.add_lit] using hsrc j v hj)
  have hst := run_storeCells_at Try.prog G 0 28 cs 0 cur W hg (by omega) h1
  have hm : Nat.min n n = n := Nat.min_self n
  simp [Builtin.copy_, run_underlying Try.underlying29, Builtin.lenOf, Builtin.firstCells, sizeOf, typeInfo, hi, hs, ← hcs, hl, hst, goInt]
  have hd : List.drop cs.length cur.toList = [] := List.drop_eq_nil_of_le (by simp; omega)
  rw [hd, List.append_nil]
end Go.Proofs.Ytfmcfalghbaanaa
