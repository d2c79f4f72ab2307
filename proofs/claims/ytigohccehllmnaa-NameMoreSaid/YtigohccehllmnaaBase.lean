/- Stage 6: what lists of pairs and of numbers hold in memory. -/
import Derived.RangeFuncNested
import Derived.RangeFuncLeaves
import Derived.WalkKit
import Derived.Shelf.Abstract
import Derived.Test.YtigohccehllmnaaProg
import Derived.WalkSpells
import Derived.WalkLawsBesides
import Derived.Lib.Hide
import Derived.Maps.AppendAt
import Derived.IntWalk
namespace Go.Proofs.Ytigohccehllmnaa
set_option linter.unusedSimpArgs false
set_option linter.unusedVariables false
open Go.RowKit Go.Shelf

/-- Nothing outside some blocks has changed. -/
structure Keeps (Mut : Nat → Prop) (W W' : World) : Prop where
  os : W'.os = W.os
  tape : W'.tape = W.tape
  output : W'.output = W.output
  size : W.heap.size ≤ W'.heap.size
  block : ∀ k, k < W.heap.size → ¬ Mut k → W'.heap[k]? = W.heap[k]?
theorem Keeps.refl (Mut : Nat → Prop) (W : World) : Keeps Mut W W := ⟨rfl, rfl, rfl, Nat.le_refl _, fun _ _ _ => rfl⟩
theorem Keeps.trans {Mut : Nat → Prop} {A B C : World} (h : Keeps Mut A B) (k : Keeps Mut B C) : Keeps Mut A C :=
  ⟨k.os.trans h.os, k.tape.trans h.tape, k.output.trans h.output, Nat.le_trans h.size k.size, fun i hi hm => (k.block i (Nat.lt_of_lt_of_le hi h.size) hm).trans (h.block i hi hm)⟩
theorem Keeps.mono {Mut Mut' : Nat → Prop} {A B : World} (h : Keeps Mut A B) (hm : ∀ k, k < A.heap.size → Mut k → Mut' k) : Keeps Mut' A B :=
  ⟨h.os, h.tape, h.output, h.size, fun i hi hn => h.block i hi (fun e => hn (hm i hi e))⟩
theorem Keeps.of_below {B : Nat} {W W' : World} (h : Below B W W') (hB : B ≤ W.heap.size) : Keeps (fun k => B ≤ k) W W' :=
  ⟨h.os, h.tape, h.output, h.size, fun i hi hn => h.block i (by omega)⟩
theorem Keeps.below {Mut : Nat → Prop} {B : Nat} {W W' : World} (h : Keeps Mut W W') (hB : B ≤ W.heap.size) (hm : ∀ k, k < B → ¬ Mut k) : Below B W W' :=
  ⟨h.os, h.tape, h.output, h.size, fun i hi => h.block i (by omega) (hm i hi)⟩
theorem Keeps.none {Mut : Nat → Prop} {W W' : World} (h : Keeps (fun _ => False) W W') : Keeps Mut W W' := h.mono (fun _ _ e => e.elim)
theorem Keeps.of_new {Mut : Nat → Prop} {W W' : World} (h : Below W.heap.size W W') : Keeps Mut W W' := ⟨h.os, h.tape, h.output, h.size, fun i hi _ => h.block i hi⟩
theorem Keeps.new {W W' : World} (h : Keeps (fun _ => False) W W') : Below W.heap.size W W' := h.below (Nat.le_refl _) (fun _ _ e => e)
theorem Keeps.of_grown {Mut : Nat → Prop} {W W' : World} {row : Option Nat} (h : W.grownBy W' row) (hm : ∀ r, row = some r → Mut r) : Keeps Mut W W' :=
  ⟨h.os, h.tape, h.output, h.size, fun i hi hn => h.block i hi (fun e => hn (hm i e.symm))⟩
theorem Keeps.putObj {Mut : Nat → Prop} (W : World) (l : Nat) (o : Obj) (h : Mut l) : Keeps Mut W (W.putObj l o) := Keeps.of_grown (grownBy_putObj' W l o) (fun r e => by cases e; exact h)

/-- What hangs on the blocks below B alone. -/
def Abides (B : Nat) (J : World → Prop) : Prop := ∀ W W', J W → Keeps (fun k => B ≤ k) W W' → J W'
/-- A call of yield, at whatever depth. -/
def Yld (P : Program) (l : Nat) (args : Array Value) (W : World) (R : Ending → World → Prop) : Prop := ∀ m, YieldAt Fence.wide m P l args W R

/-- A round has begun: its loop's record alone has changed. -/
structure Begun (l : Nat) (w1 w2 : World) : Prop where
  keeps : Keeps (fun k => k = l) w1 w2
  size : w2.heap.size = w1.heap.size
  rcd : ∃ r, w2.heap[l]? = some (.loop r)
end Go.Proofs.Ytigohccehllmnaa

namespace Go.Proofs.Ytigohccehllmnaa
set_option linter.unusedSimpArgs false
set_option linter.unusedVariables false
open Go.RowKit Go.Shelf

/-- A pair of numbers. -/
structure Rg where
  lo : Int
  hi : Int
deriving DecidableEq, Inhabited
def gAt (zs : List Rg) (k : Nat) : Rg := zs.getD k ⟨0, 0⟩
/-- A slice of n ranges reads as zs. -/
def Rgs (w : World) (A : Option Addr) (n : Nat) (zs : List Rg) : Prop :=
  zs.length = n ∧ (0 < n → ∃ b o, A = some ⟨b, o, none⟩ ∧ ∀ j, j < n → w.cell? ⟨b, o + j * 2, none⟩ = some (.int .i64 (gAt zs j).lo) ∧ w.cell? ⟨b, o + j * 2 + 1, none⟩ = some (.int .i64 (gAt zs j).hi))
def iAt (zs : List Int) (k : Nat) : Int := zs.getD k 0
/-- A slice of n numbers reads as zs. -/
def Ints (w : World) (A : Option Addr) (n : Nat) (zs : List Int) : Prop :=
  zs.length = n ∧ (0 < n → ∃ b o, A = some ⟨b, o, none⟩ ∧ ∀ j, j < n → w.cell? ⟨b, o + j, none⟩ = some (.int .i64 (iAt zs j)))
theorem lt_of_cell {w : World} {b o : Nat} {v : Value} (h : w.cell? ⟨b, o, none⟩ = some v) : b < w.heap.size := by
  rcases Nat.lt_or_ge b w.heap.size with hl | hl
  · exact hl
  · simp [World.cell?, Array.getElem?_eq_none hl] at h
theorem below_alloc_ (W : World) (o : Obj) : Below W.heap.size W (W.alloc o) := (Below.refl _ _).alloc (Nat.le_refl _) _
theorem Rgs.below {w w' : World} {A : Option Addr} {n B : Nat} {zs : List Rg} (h : Rgs w A n zs) (hb : Below B w w') (hB : w.heap.size ≤ B) : Rgs w' A n zs := by
  refine ⟨h.1, fun hn => ?_⟩
  obtain ⟨b, o, e, hc⟩ := h.2 hn
  have hl := lt_of_cell (hc 0 hn).1
  exact ⟨b, o, e, fun j hj => ⟨(hb.cell (p := ⟨b, o + j * 2, none⟩) (by simp; omega)).trans (hc j hj).1, (hb.cell (p := ⟨b, o + j * 2 + 1, none⟩) (by simp; omega)).trans (hc j hj).2⟩⟩

theorem ret_bool {a b : Bool} (h : a = b) : Ending.returned (.bool a) = .returned (.bool b) := by rw [h]

theorem Ints.below {w w' : World} {A : Option Addr} {n B : Nat} {zs : List Int} (h : Ints w A n zs) (hb : Below B w w') (hB : w.heap.size ≤ B) : Ints w' A n zs := by
  refine ⟨h.1, fun hn => ?_⟩
  obtain ⟨b, o, e, hc⟩ := h.2 hn
  have hl := lt_of_cell (hc 0 hn)
  exact ⟨b, o, e, fun j hj => (hb.cell (p := ⟨b, o + j, none⟩) (by simp; omega)).trans (hc j hj)⟩
theorem iAt_eq {zs : List Int} {k : Nat} (hk : k < zs.length) : iAt zs k = zs[k] := by simp [iAt, List.getD, hk]
theorem heap_alloc_new_ (W : World) (o : Obj) : (W.alloc o).heap[W.heap.size]? = some o := by
  show (W.heap.push o)[W.heap.size]? = some o
  simp
theorem lt_of_block {W : World} {b : Nat} {x : Obj} (h : W.heap[b]? = some x) : b < W.heap.size := by
  rcases Nat.lt_or_ge b W.heap.size with hl | hl
  · exact hl
  · rw [Array.getElem?_eq_none hl] at h; cases h
theorem cell_row {W : World} {b k : Nat} {c : Array Value} {t : TypeId} {fr : Nat × Nat} (h : W.heap[b]? = some (.cells c t fr)) : W.cell? ⟨b, k, none⟩ = c[k]? := by
  simp [World.cell?, h]
theorem all_take {α : Type} [Inhabited α] (p : α → Bool) (xs : List α) (k : Nat) (d : α) (hk : k < xs.length) : (xs.take (k + 1)).all p = ((xs.take k).all p && p (xs.getD k d)) := by
  rw [List.take_succ_eq_append_getElem hk, List.all_append]
  simp [List.getD, hk]
theorem all_stop {α : Type} (p : α → Bool) (xs : List α) (k : Nat) (d : α) (hk : k < xs.length) (h : p (xs.getD k d) = false) : xs.all p = false := by
  rw [List.all_eq_false]
  refine ⟨xs[k], List.getElem_mem hk, ?_⟩
  have e : xs.getD k d = xs[k] := by simp [List.getD, hk]
  rw [e] at h
  simp [h]
theorem hal_new {W : World} {o : Obj} {k : Nat} (h : k = W.heap.size) : (W.alloc o).heap[k]? = some o := by subst h; exact heap_alloc_new_ _ _
theorem hal_old {W : World} {o x : Obj} {k : Nat} (h : W.heap[k]? = some x) : (W.alloc o).heap[k]? = some x := ((below_alloc_ W o).block _ (lt_of_block h)).trans h
theorem frozen_row {W : World} {b k : Nat} {c : Array Value} {t : TypeId} (h : W.heap[b]? = some (.cells c t (0, 0))) : W.frozen? ⟨b, k, none⟩ = false := by
  simp [World.frozen?, h]
theorem three_cells {W : World} {k : Nat} {u v x : Value} {t : TypeId} (h : W.heap[k]? = some (.cells #[u, v, x] t (0, 0))) : W.cell? ⟨k, 0, none⟩ = some u ∧ W.cell? ⟨k, 1, none⟩ = some v ∧ W.cell? ⟨k, 2, none⟩ = some x ∧ W.frozen? ⟨k, 0, none⟩ = false ∧ W.frozen? ⟨k, 1, none⟩ = false ∧ W.frozen? ⟨k, 2, none⟩ = false :=
  ⟨by rw [cell_row h]; rfl, by rw [cell_row h]; rfl, by rw [cell_row h]; rfl, frozen_row h, frozen_row h, frozen_row h⟩
theorem set_same {W : World} {k : Nat} {c : Array Value} {t : TypeId} (o : Nat) (v : Value) (h : W.heap[k]? = some (.cells c t (0, 0))) : (W.setCell ⟨k, o, none⟩ v).heap[k]? = some (.cells (c.setIfInBounds o v) t (0, 0)) := by
  simp [World.setCell, Array.getElem?_modify, h]
def runO (P : Program) (o : Oper) (p : Value) (W : World) : Result Next := (execOp (fun _ => p) o).run P W
def ld (t : TypeId) : Oper := { dst := none, op := Op.load t (.tmp 0), type := t, pos := "", after := #[], guard := none }
theorem keep_cells {Mut : Nat → Prop} {W W' : World} {b : Nat} (h : Keeps Mut W W') (hb : b < W.heap.size) (hm : ¬ Mut b) (j : Nat) : W'.cell? ⟨b, j, none⟩ = W.cell? ⟨b, j, none⟩ := by
  simp [World.cell?, h.block b hb hm]
theorem keep_alloc (Mut : Nat → Prop) (W : World) (o : Obj) : Keeps Mut W (W.alloc o) := Keeps.of_new (below_alloc_ W o)

def runV (P : Program) (o : Oper) (p v : Value) (W : World) : Result Next := (execOp (fun x => match x with | .tmp 0 => p | _ => v) o).run P W
def st (t : TypeId) : Oper := { dst := none, op := Op.store t (.tmp 0) (.tmp 1), type := t, pos := "", after := #[], guard := none }
theorem setRow_same {W : World} {B : Nat} {Y : Array Value} {t : TypeId} {fr : Nat × Nat} (X : Array Value) (h : W.heap[B]? = some (.cells Y t fr)) : (W.setRow B X).heap[B]? = some (.cells X t fr) := by
  simp [World.setRow, Array.getElem?_modify, h]
theorem keeps_setRow (W : World) (B : Nat) (X : Array Value) : Keeps (fun k => k = B) W (W.setRow B X) :=
  ⟨rfl, rfl, rfl, by simp [World.setRow], fun k _ hk => by simp [World.setRow, Array.getElem?_modify, Ne.symm hk]⟩
theorem keeps_abides {Mut : Nat → Prop} {W0 : World} {B0 : Nat} (h : W0.heap.size ≤ B0) : Abides B0 (Keeps Mut W0) := fun W W' hK hK' =>
  ⟨hK'.os.trans hK.os, hK'.tape.trans hK.tape, hK'.output.trans hK.output, Nat.le_trans hK.size hK'.size, fun k hk hm => (hK'.block k (Nat.lt_of_lt_of_le hk hK.size) (by omega)).trans (hK.block k hk hm)⟩
theorem keeps_setCell (W : World) (b o : Nat) (v : Value) : Keeps (fun k => k = b) W (W.setCell ⟨b, o, none⟩ v) :=
  ⟨rfl, rfl, rfl, by simp [World.setCell], fun k _ hk => Below.heap_setCell _ _ _ _ hk⟩
theorem eq_le {a b : Nat} (h : a = b) : a ≤ b ∧ b ≤ a := ⟨by omega, by omega⟩
theorem wide_d {m : Nat} : Fence.wide.depth.isSome = true → 1 ≤ m := fun h => by simp [Fence.wide] at h

theorem drew_b (W : World) (q : Nat) : Below W.heap.size W (W.drewN q) := ⟨rfl, rfl, rfl, Nat.le_refl _, fun _ _ => rfl⟩
theorem at_plain (r : Option Nat) (ρ : Operand → Value) (o : Oper) (h : ∀ c, o.op ≠ .defer c) : Oper.semAt r ρ o = execOp ρ o := by
  cases r with
  | none => rfl
  | some l => exact Oper.semAt_some l ρ o h
theorem own_keep {W W' : World} {Mut : Nat → Prop} {e : TypeId} {size n : Nat} {v : Value} {xs : List Value} (h : W.ownsRow 0 e size v n xs) (hK : Keeps Mut W W') (hm : ∀ k, v.ownBlock = some k → ¬ Mut k) : W'.ownsRow 0 e size v n xs := by
  obtain ⟨h1, h2⟩ := h
  refine ⟨h1, ?_⟩
  rcases h2 with h2 | ⟨g, cap, cur, rfl, hb, hg, rest⟩
  · exact .inl h2
  · exact .inr ⟨g, cap, cur, rfl, hb, (hK.block g (lt_of_block hg) (hm g rfl)).trans hg, rest⟩
theorem own_lt {W : World} {e : TypeId} {size n : Nat} {v : Value} {xs : List Value} (h : W.ownsRow 0 e size v n xs) : ∀ k, v.ownBlock = some k → k < W.heap.size := by
  intro k hk
  rcases h.2 with ⟨rfl, _⟩ | ⟨g, cap, cur, rfl, hb, hg, rest⟩
  · cases hk
  · have : g = k := Option.some.inj hk
    subst this
    exact lt_of_block hg
theorem app_one {t e : TypeId} {size bytes : Nat} {z : Value} (ht : Try.prog.underlying t = some (.slice e)) (hinfo : (Try.prog.info? e).map (fun i => (i.zero, i.size, i.bytes)) = some (some z, size, bytes)) (hzs : z.cells.size = size) (hs0 : 0 < size) (hby : bytes ≤ 1000)
    {W : World} {v : Value} {n : Nat} {xs : List Value} (hown : W.ownsRow 0 e size v n xs) {vals : List Value} (hl : vals.length = size) {Z : Nat} (hZ : W.heap[Z]? = some (.cells vals.toArray e (0, 0))) (h1 : ∀ u ∈ vals, u.oneCell' = true) (hn : n ≤ 100000) :
    ∃ v' W', (Builtin.append_ #[t, t] t #[v, .slice (some ⟨Z, 0, none⟩) 1 1]).run Try.prog W = .ok v' W' ∧ W'.ownsRow 0 e size v' (n + 1) (xs ++ vals) ∧ Keeps (fun k => v.ownBlock = some k) W W' ∧ (v'.ownBlock = v.ownBlock ∨ (v'.ownBlock = some W.heap.size ∧ W.heap.size < W'.heap.size)) := by
  obtain ⟨i, hi, hz, hs, hb⟩ := info_parts hinfo
  obtain ⟨v', W', h2, h3, h4, _, h5⟩ := run_append_own_at (P := Try.prog) W 0 t t e i z size bytes ht hi hz hs hb hzs hs0 v n xs hown ⟨Z, 0, none⟩ 1 1 vals (by omega) (fun j u hj => by
    rw [Addr.add_lit, cell_row hZ]; simpa using hj) h1 (by unfold maxLen; omega) (by
      have : (n + 1) * bytes ≤ 100001 * 1000 := Nat.mul_le_mul (by omega) hby
      omega) (Nat.zero_le _)
  refine ⟨v', W', h2, h3, ⟨h4.os, h4.tape, h4.output, h4.size, fun k hk hm => h4.block k hk (fun e => hm e.symm)⟩, ?_⟩
  rcases h5 with h5 | h5
  · exact .inl h5
  · exact .inr ⟨h5, own_lt h3 _ h5⟩
theorem own_nil (W : World) (e : TypeId) (size : Nat) : W.ownsRow 0 e size (.slice none 0 0) 0 [] := World.ownsRow_nil W 0 e size
/-! The operation, kept whole in walks. -/
def runA (P : Program) (t : TypeId) (x y : Value) (W : World) : Result Next :=
  (execOp (fun o => match o with | .tmp 0 => x | _ => y) { dst := none, op := Op.call { callee := .builtin .append, args := #[.tmp 0, .tmp 1], argTypes := #[t, t] }, type := t, pos := "", after := #[], guard := none }).run P W
theorem exec_app (t : TypeId) (ρ : Operand → Value) (d : Option Tmp) (i j : Tmp) (pos : String) (af : Array Edge) (g : Option (Nat × Bool)) (W : World) :
    (execOp ρ { dst := d, op := Op.call { callee := Callee.builtin Builtin.append, args := #[.tmp i, .tmp j], argTypes := #[t, t] }, type := t, pos := pos, after := af, guard := g }).run Try.prog W = runA Try.prog t (ρ (.tmp i)) (ρ (.tmp j)) W := by
  unfold runA execOp
  simp only [resolve, invoke, builtin, List.map_toArray, List.map_cons, List.map_nil]
theorem at_app (t : TypeId) (r : Option Nat) (ρ : Operand → Value) (d : Option Tmp) (i j : Tmp) (pos : String) (af : Array Edge) (g : Option (Nat × Bool)) (W : World) :
    (Oper.semAt r ρ { dst := d, op := Op.call { callee := Callee.builtin Builtin.append, args := #[.tmp i, .tmp j], argTypes := #[t, t] }, type := t, pos := pos, after := af, guard := g }).run Try.prog W = runA Try.prog t (ρ (.tmp i)) (ρ (.tmp j)) W := by
  rw [at_plain _ _ _ (fun c => by simp)]; exact exec_app t ρ d i j pos af g W
theorem run_app {t : TypeId} {x y v : Value} {W W' : World} (h : (Builtin.append_ #[t, t] t #[x, y]).run Try.prog W = .ok v W') : runA Try.prog t x y W = .ok (.value v) W' := by
  unfold runA execOp
  simp only [resolve, invoke, builtin, Sem.run_bind, Sem.run_pure, Result.andThen_ok, List.map_toArray, List.map_cons, List.map_nil, h]
end Go.Proofs.Ytigohccehllmnaa
