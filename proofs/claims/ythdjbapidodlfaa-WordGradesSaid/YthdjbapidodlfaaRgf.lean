/- A range over a function that yields a known list, walked once: what may change is named by its blocks. -/
import Derived.RangeFuncNested
import Derived.RangeFuncLeaves
import Derived.WalkKit
import Derived.Shelf.Abstract
namespace Go.Proofs.Ythdjbapidodlfaa
set_option linter.unusedSimpArgs false
set_option linter.unusedVariables false
open Go.RowKit Go.Shelf

/-- Nothing outside some blocks has changed. -/
structure Keeps (Mut : Nat → Prop) (W W' : World) : Prop where
  os : W'.os = W.os
  tape : W'.tape = W.tape
  output : W'.output = W.output
  size : W.heap.size ≤ W'.heap.size
  block : ∀ k, k < W.heap.size → ¬ Mut k → W'.heap[k]? = W.heap[k]?
theorem Keeps.refl (Mut : Nat → Prop) (W : World) : Keeps Mut W W := ⟨rfl, rfl, rfl, Nat.le_refl _, fun _ _ _ => rfl⟩
theorem Keeps.trans {Mut : Nat → Prop} {A B C : World} (h : Keeps Mut A B) (k : Keeps Mut B C) : Keeps Mut A C :=
  ⟨k.os.trans h.os, k.tape.trans h.tape, k.output.trans h.output, Nat.le_trans h.size k.size, fun i hi hm => (k.block i (Nat.lt_of_lt_of_le hi h.size) hm).trans (h.block i hi hm)⟩
theorem Keeps.mono {Mut Mut' : Nat → Prop} {A B : World} (h : Keeps Mut A B) (hm : ∀ k, k < A.heap.size → Mut k → Mut' k) : Keeps Mut' A B :=
  ⟨h.os, h.tape, h.output, h.size, fun i hi hn => h.block i hi (fun e => hn (hm i hi e))⟩
theorem Keeps.of_below {B : Nat} {W W' : World} (h : Below B W W') (hB : B ≤ W.heap.size) : Keeps (fun k => B ≤ k) W W' :=
  ⟨h.os, h.tape, h.output, h.size, fun i hi hn => h.block i (by omega)⟩
theorem Keeps.below {Mut : Nat → Prop} {B : Nat} {W W' : World} (h : Keeps Mut W W') (hB : B ≤ W.heap.size) (hm : ∀ k, k < B → ¬ Mut k) : Below B W W' :=
  ⟨h.os, h.tape, h.output, h.size, fun i hi => h.block i (by omega) (hm i hi)⟩
theorem Keeps.none {Mut : Nat → Prop} {W W' : World} (h : Keeps (fun _ => False) W W') : Keeps Mut W W' := h.mono (fun _ _ e => e.elim)
theorem Keeps.of_new {Mut : Nat → Prop} {W W' : World} (h : Below W.heap.size W W') : Keeps Mut W W' := ⟨h.os, h.tape, h.output, h.size, fun i hi _ => h.block i hi⟩
theorem Keeps.new {W W' : World} (h : Keeps (fun _ => False) W W') : Below W.heap.size W W' := h.below (Nat.le_refl _) (fun _ _ e => e)
theorem Keeps.of_grown {Mut : Nat → Prop} {W W' : World} {row : Option Nat} (h : W.grownBy W' row) (hm : ∀ r, row = some r → Mut r) : Keeps Mut W W' :=
  ⟨h.os, h.tape, h.output, h.size, fun i hi hn => h.block i hi (fun e => hn (hm i e.symm))⟩
theorem Keeps.putObj {Mut : Nat → Prop} (W : World) (l : Nat) (o : Obj) (h : Mut l) : Keeps Mut W (W.putObj l o) := Keeps.of_grown (grownBy_putObj' W l o) (fun r e => by cases e; exact h)

/-- A call of yield, at whatever depth. -/
def Yld (P : Program) (l : Nat) (args : Array Value) (W : World) (R : Ending → World → Prop) : Prop := ∀ m, YieldAt Fence.wide m P l args W R

/-- A round has begun: its loop's record alone has changed. -/
structure Begun (l : Nat) (w1 w2 : World) : Prop where
  keeps : Keeps (fun k => k = l) w1 w2
  size : w2.heap.size = w1.heap.size
  rcd : ∃ r, w2.heap[l]? = some (.loop r)
end Go.Proofs.Ythdjbapidodlfaa
