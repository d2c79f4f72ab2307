/- Stage 2: a slice of the call's own grows by one element. -/
import Derived.Test.YtfmcfalghbaanaaBho
import Derived.Test.YtfmcfalghbaanaaTops
import Derived.Maps.AppendAt
namespace Go.Proofs.Ytfmcfalghbaanaa
set_option linter.unusedSimpArgs false
set_option linter.unusedVariables false
open Go.RowKit Go.Shelf

theorem own_keep {W W' : World} {Mut : Nat → Prop} {e : TypeId} {size n : Nat} {v : Value} {xs : List Value} (h : W.ownsRow 0 e size v n xs) (hK : Keeps Mut W W') (hm : ∀ k, v.ownBlock = some k → ¬ Mut k) : W'.ownsRow 0 e size v n xs := by
  obtain ⟨h1, h2⟩ := h
  refine ⟨h1, ?_⟩
  rcases h2 with h2 | ⟨g, cap, cur, rfl, hb, hg, rest⟩
  · exact .inl h2
  · exact .inr ⟨g, cap, cur, rfl, hb, (hK.block g (lt_of_block hg) (hm g rfl)).trans hg, rest⟩
theorem own_lt {W : World} {e : TypeId} {size n : Nat} {v : Value} {xs : List Value} (h : W.ownsRow 0 e size v n xs) : ∀ k, v.ownBlock = some k → k < W.heap.size := by
  intro k hk
  rcases h.2 with ⟨rfl, _⟩ | ⟨g, cap, cur, rfl, hb, hg, rest⟩
  · cases hk
  · have : g = k := Option.some.inj hk
    subst this
    exact lt_of_block hg
theorem app_one {t e : TypeId} {size bytes : Nat} {z : Value} (ht : Try.prog.underlying t = some (.slice e)) (hinfo : (Try.prog.info? e).map (fun i => (i.zero, i.size, i.bytes)) = some (some z, size, bytes)) (hzs : z.cells.size = size) (hs0 : 0 < size) (hby : bytes ≤ 1000)
    {W : World} {v : Value} {n : Nat} {xs : List Value} (hown : W.ownsRow 0 e size v n xs) {vals : List Value} (hl : vals.length = size) {Z : Nat} (hZ : W.heap[Z]? = some (.cells vals.toArray e (0, 0))) (h1 : ∀ u ∈ vals, u.oneCell' = true) (hn : n ≤ 100000) :
    ∃ v' W', (Builtin.append_ #[t, t] t #[v, .slice (some ⟨Z, 0, none⟩) 1 1]).run Try.prog W = .ok v' W' ∧ W'.ownsRow 0 e size v' (n + 1) (xs ++ vals) ∧ Keeps (fun k => v.ownBlock = some k) W W' ∧ (v'.ownBlock = v.ownBlock ∨ (v'.ownBlock = some W.heap.size ∧ W.heap.size < W'.heap.size)) := by
  obtain ⟨i, hi, hz, hs, hb⟩ := info_parts hinfo
  obtain ⟨v', W', h2, h3, h4, _, h5⟩ := run_append_own_at (P := Try.prog) W 0 t t e i z size bytes ht hi hz hs hb hzs hs0 v n xs hown ⟨Z, 0, none⟩ 1 1 vals (by omega) (fun j u hj => by
    rw [Addr.add_lit, cell_row hZ]; simpa using hj) h1 (by unfold maxLen; omega) (by
      have : (n + 1) * bytes ≤ 100001 * 1000 := Nat.mul_le_mul (by omega) hby
      omega) (Nat.zero_le _)
  refine ⟨v', W', h2, h3, ⟨h4.os, h4.tape, h4.output, h4.size, fun k hk hm => h4.block k hk (fun e => hm e.symm)⟩, ?_⟩
  rcases h5 with h5 | h5
  · exact .inl h5
  · exact .inr ⟨h5, own_lt h3 _ h5⟩
theorem info57_ : (Try.prog.info? 57).map (fun i => (i.zero, i.size, i.bytes)) = some (some (.agg #[.int .i64 0, .bool false, .int .i64 0, .bool false]), 4, 32) := by kernel_rfl
theorem info91_ : (Try.prog.info? 91).map (fun i => (i.zero, i.size, i.bytes)) = some (some (.agg #[.int .i64 0, .bool false, .int .u64 0]), 3, 24) := by kernel_rfl
/-- A nil slice owns nothing. -/
theorem own_nil (W : World) (e : TypeId) (size : Nat) : W.ownsRow 0 e size (.slice none 0 0) 0 [] := World.ownsRow_nil W 0 e size
/-- The cells of steps. -/
def cellS (x : Nat) : List Value := [.int .i64 ((x / 2 : Nat) : Int), .bool (decide (x % 2 = 1))]
def flatS (l : List Nat) : List Value := l.flatMap cellS
def cellP (a : Nat × Nat) : List Value := cellS a.1 ++ cellS a.2
def flatP (l : List (Nat × Nat)) : List Value := l.flatMap cellP
theorem flatS_len (l : List Nat) : (flatS l).length = l.length * 2 := by
  induction l with
  | nil => rfl
  | cons x l ih => simp [flatS, cellS] at ih ⊢; omega
theorem flatS_at (l : List Nat) (j : Nat) (h : j < l.length) : (flatS l)[j * 2]? = some (.int .i64 ((l[j] / 2 : Nat) : Int)) ∧ (flatS l)[j * 2 + 1]? = some (.bool (decide (l[j] % 2 = 1))) := by
  induction l generalizing j with
  | nil => simp at h
  | cons x l ih =>
    cases j with
    | zero => simp [flatS, cellS]
    | succ j =>
      have := ih j (by simpa using h)
      rw [show (j + 1) * 2 = j * 2 + 1 + 1 by omega]
      simp only [flatS, cellS, List.flatMap_cons, List.cons_append, List.nil_append, List.getElem?_cons_succ, List.getElem_cons_succ] at this ⊢
      exact this
/-- What is owned reads as steps. -/
theorem sts_own {W : World} {v : Value} {l : List Nat} (h : W.ownsRow 0 28 2 v l.length (flatS l)) : ∃ C cap, v = .slice C l.length cap ∧ l.length ≤ cap ∧ Sts W C l.length (l.map stC) := by
  rcases h.2 with ⟨rfl, h0⟩ | ⟨g, cap, cur, rfl, hb, hg, hc, _, hsz, htake⟩
  · rw [h0]
    exact ⟨none, 0, rfl, Nat.le_refl _, by rw [List.length_map]; exact h0, by omega⟩
  · refine ⟨_, cap, rfl, hc, by rw [List.length_map], fun _ => ⟨g, 0, rfl, fun j hj => ?_⟩⟩
    have h1 := flatS_at l j hj
    have hlt : ∀ i, i < l.length * 2 → W.cell? ⟨g, i, none⟩ = (flatS l)[i]? := fun i hi => by
      rw [cell_row hg, ← htake, List.getElem?_take_of_lt hi, Array.getElem?_toList]
    rw [sAt_map hj, Nat.zero_add, hlt _ (by omega), hlt _ (by omega)]
    exact h1
theorem store1 (B o : Nat) (v : Value) (W : World) (hc : (W.cell? ⟨B, o, none⟩).isSome = true) (hf : W.frozen? ⟨B, o, none⟩ = false) (h1 : v.oneCell' = true) :
    (storeCells ⟨B, o, none⟩ [v] 0).run Try.prog W = .ok () (W.setCell ⟨B, o, none⟩ v) := by
  have h := run_storeCells_cells (P := Try.prog) B o [v] 0 W (by intro j hj; simp at hj; subst hj; simpa using hc) (by intro j hj; simp at hj; subst hj; simpa using hf) (by simpa using h1)
  rw [h]
  simp [World.setCells]
/-! The operation, kept whole in walks. -/
def runA (P : Program) (t : TypeId) (x y : Value) (W : World) : Result Next :=
  (execOp (fun o => match o with | .tmp 0 => x | _ => y) { dst := none, op := Op.call { callee := .builtin .append, args := #[.tmp 0, .tmp 1], argTypes := #[t, t] }, type := t, pos := "", after := #[], guard := none }).run P W
theorem exec_app (t : TypeId) (ρ : Operand → Value) (d : Option Tmp) (i j : Tmp) (pos : String) (af : Array Edge) (g : Option (Nat × Bool)) (W : World) :
    (execOp ρ { dst := d, op := Op.call { callee := Callee.builtin Builtin.append, args := #[.tmp i, .tmp j], argTypes := #[t, t] }, type := t, pos := pos, after := af, guard := g }).run Try.prog W = runA Try.prog t (ρ (.tmp i)) (ρ (.tmp j)) W := by
  unfold runA execOp
  simp only [resolve, invoke, builtin, List.map_toArray, List.map_cons, List.map_nil]
theorem at_app (t : TypeId) (r : Option Nat) (ρ : Operand → Value) (d : Option Tmp) (i j : Tmp) (pos : String) (af : Array Edge) (g : Option (Nat × Bool)) (W : World) :
    (Oper.semAt r ρ { dst := d, op := Op.call { callee := Callee.builtin Builtin.append, args := #[.tmp i, .tmp j], argTypes := #[t, t] }, type := t, pos := pos, after := af, guard := g }).run Try.prog W = runA Try.prog t (ρ (.tmp i)) (ρ (.tmp j)) W := by
  rw [at_plain _ _ _ (fun c => by simp)]; exact exec_app t ρ d i j pos af g W
theorem run_app {t : TypeId} {x y v : Value} {W W' : World} (h : (Builtin.append_ #[t, t] t #[x, y]).run Try.prog W = .ok v W') : runA Try.prog t x y W = .ok (.value v) W' := by
  unfold runA execOp
  simp only [resolve, invoke, builtin, Sem.run_bind, Sem.run_pure, Result.andThen_ok, List.map_toArray, List.map_cons, List.map_nil, h]
end Go.Proofs.Ytfmcfalghbaanaa
