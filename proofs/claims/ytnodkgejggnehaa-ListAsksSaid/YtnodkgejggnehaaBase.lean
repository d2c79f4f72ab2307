/- Stage 5: what lists of pairs and of numbers hold in memory. -/
import Derived.RangeFuncNested
import Derived.RangeFuncLeaves
import Derived.WalkKit
import Derived.Shelf.Abstract
import Derived.Test.YtnodkgejggnehaaProg
import Derived.WalkSpells
import Derived.WalkLawsBesides
import Derived.Lib.Hide
import Derived.Maps.AppendAt
import Derived.IntWalk
namespace Go.Proofs.Ytnodkgejggnehaa
set_option linter.unusedSimpArgs false
set_option linter.unusedVariables false
open Go.RowKit Go.Shelf

/-- Nothing outside some blocks has changed. -/
structure Keeps (Mut : Nat → Prop) (W W' : World) : Prop where
  os : W'.os = W.os
  tape : W'.tape = W.tape
  output : W'.output = W.output
  size : W.heap.size ≤ W'.heap.size
  block : ∀ k, k < W.heap.size → ¬ Mut k → W'.heap[k]? = W.heap[k]?
theorem Keeps.refl (Mut : Nat → Prop) (W : World) : Keeps Mut W W := ⟨rfl, rfl, rfl, Nat.le_refl _, fun _ _ _ => rfl⟩
theorem Keeps.trans {Mut : Nat → Prop} {A B C : World} (h : Keeps Mut A B) (k : Keeps Mut B C) : Keeps Mut A C :=
  ⟨k.os.trans h.os, k.tape.trans h.tape, k.output.trans h.output, Nat.le_trans h.size k.size, fun i hi hm => (k.block i (Nat.lt_of_lt_of_le hi h.size) hm).trans (h.block i hi hm)⟩
theorem Keeps.mono {Mut Mut' : Nat → Prop} {A B : World} (h : Keeps Mut A B) (hm : ∀ k, k < A.heap.size → Mut k → Mut' k) : Keeps Mut' A B :=
  ⟨h.os, h.tape, h.output, h.size, fun i hi hn => h.block i hi (fun e => hn (hm i hi e))⟩
theorem Keeps.of_below {B : Nat} {W W' : World} (h : Below B W W') (hB : B ≤ W.heap.size) : Keeps (fun k => B ≤ k) W W' :=
  ⟨h.os, h.tape, h.output, h.size, fun i hi hn => h.block i (by omega)⟩
theorem Keeps.below {Mut : Nat → Prop} {B : Nat} {W W' : World} (h : Keeps Mut W W') (hB : B ≤ W.heap.size) (hm : ∀ k, k < B → ¬ Mut k) : Below B W W' :=
  ⟨h.os, h.tape, h.output, h.size, fun i hi => h.block i (by omega) (hm i hi)⟩
theorem Keeps.none {Mut : Nat → Prop} {W W' : World} (h : Keeps (fun _ => False) W W') : Keeps Mut W W' := h.mono (fun _ _ e => e.elim)
theorem Keeps.of_new {Mut : Nat → Prop} {W W' : World} (h : Below W.heap.size W W') : Keeps Mut W W' := ⟨h.os, h.tape, h.output, h.size, fun i hi _ => h.block i hi⟩
theorem Keeps.new {W W' : World} (h : Keeps (fun _ => False) W W') : Below W.heap.size W W' := h.below (Nat.le_refl _) (fun _ _ e => e)
theorem Keeps.of_grown {Mut : Nat → Prop} {W W' : World} {row : Option Nat} (h : W.grownBy W' row) (hm : ∀ r, row = some r → Mut r) : Keeps Mut W W' :=
  ⟨h.os, h.tape, h.output, h.size, fun i hi hn => h.block i hi (fun e => hn (hm i e.symm))⟩
theorem Keeps.putObj {Mut : Nat → Prop} (W : World) (l : Nat) (o : Obj) (h : Mut l) : Keeps Mut W (W.putObj l o) := Keeps.of_grown (grownBy_putObj' W l o) (fun r e => by cases e; exact h)

/-- What hangs on the blocks below B alone. -/
def Abides (B : Nat) (J : World → Prop) : Prop := ∀ W W', J W → Keeps (fun k => B ≤ k) W W' → J W'
/-- A call of yield, at whatever depth. -/
def Yld (P : Program) (l : Nat) (args : Array Value) (W : World) (R : Ending → World → Prop) : Prop := ∀ m, YieldAt Fence.wide m P l args W R

/-- The function g yields the list xs, and needs some blocks as they are. -/
def SeqL {α : Type} (P : Program) (g : Nat) (lb : Array Value) (encs : α → Array Value) (xs : List α) (Need : Nat → Prop) (w : World) : Prop :=
  ∀ (l : Nat) (Mut : Nat → Prop) (J Jx : List α → World → Prop) (W : World),
    Keeps (fun _ => False) w W → (∀ k, Mut k → k < W.heap.size ∧ ¬ Need k) → (∀ pre, Abides W.heap.size (J pre)) → (∀ pre, Abides W.heap.size (Jx pre)) →
    (∀ pre x post W1, xs = pre ++ x :: post → W.heap.size ≤ W1.heap.size → J pre W1 → Yld P l (encs x) W1 fun e W' =>
      (e = .returned (.bool true) ∧ J (pre ++ [x]) W' ∧ Keeps Mut W1 W') ∨ (e = .returned (.bool false) ∧ Jx (pre ++ [x]) W' ∧ Keeps Mut W1 W')) →
    J [] W →
    Calls P g (#[.func (.yield l) #[] #[]] ++ lb) W fun e W' => (∃ v, e = .returned v) ∧ (J xs W' ∨ ∃ pre x post, xs = pre ++ x :: post ∧ Jx (pre ++ [x]) W')

/-- How a round may be left. -/
def rndPost {α : Type} (Mut : Nat → Prop) (I : List α → World → Prop) (Ix : Code → List α → World → Prop) (xs : List α) (W : World) : Exit → Act → World → Prop
  | .normal, _, W' => Keeps Mut W W' ∧ I xs W'
  | .ret, _, W' => Keeps Mut W W' ∧ Ix .ret xs W'
  | .exit id, _, W' => Keeps Mut W W' ∧ Ix (.exit id) xs W'
  | .goto t, _, W' => Keeps Mut W W' ∧ Ix (.goto t) xs W'
  | .panic _, _, _ => False
  | .outgrown, _, _ => False
/-- A round has begun: its loop's record alone has changed. -/
structure Begun (l : Nat) (w1 w2 : World) : Prop where
  keeps : Keeps (fun k => k = l) w1 w2
  size : w2.heap.size = w1.heap.size
  rcd : ∃ r, w2.heap[l]? = some (.loop r)
/-- What a round owes: its assignments, which may make blocks, and then its body. -/
def Round {α : Type} (P : Program) (l : Nat) (assign body : Code) (tmps : Array Value) (Mut : Nat → Prop) (I : List α → World → Prop) (Ix : Code → List α → World → Prop) (pre : List α) (x : α) (W : World) : Prop :=
  ∀ m, assign.wpIn (Fence.wide.inRound l) m P (Exit.then (fun a1 w1 => Keeps (fun _ => False) W w1 ∧
    ∀ w2, Begun l w1 w2 → I pre w2 → body.wpIn (Fence.wide.inRound l) m P (rndPost Mut I Ix (pre ++ [x]) w2) a1 w2) (fun _ _ _ => False))
    { tmps := tmps, defers := [] } W

/-- The calls of the rounds of one loop, whose record is laid. -/
theorem range_mid {α : Type} {P : Program} {gf : Nat} {lb : Array Value} {encs : α → Array Value} {xs : List α} {Need : Nat → Prop} {w W1 : World} (hseq : SeqL P gf lb encs xs Need w) {Mut : Nat → Prop} (hMut : ∀ k, Mut k → k < w.heap.size ∧ ¬ Need k) (hNeed : ∀ k, Need k → k < w.heap.size)
    (I : List α → World → Prop) (Ix : Code → List α → World → Prop) (hI : ∀ pre, Abides w.heap.size (I pre)) (hIx : ∀ c pre, Abides w.heap.size (Ix c pre)) (hI1 : I [] W1)
    (l : Nat) (r : Loop) (hr : r.state = .ready) (hp : r.pending = none) (hl : W1.heap[l]? = some (.loop r)) (hlw : w.heap.size ≤ l) (hW1 : Keeps (fun _ => False) w W1) (hps : ∀ x, (encs x).size = r.params.size)
    (hround : ∀ pre x post W, xs = pre ++ x :: post → l < W.heap.size → (∃ r, W.heap[l]? = some (.loop r)) → I pre W → Round P l r.assign r.body ((r.params.zip (encs x)).foldl (fun t (p, v) => t.setIfInBounds p v) r.tmps) Mut I Ix pre x W) :
    Calls P gf (#[.func (.yield l) #[] #[]] ++ lb) W1 fun e W2 => (∃ v, e = .returned v) ∧
      ((I xs W2 ∧ W2.heap[l]? = some (.loop r) ∧ ∀ k, w.heap.size ≤ k → k < W1.heap.size → k ≠ l → W2.heap[k]? = W1.heap[k]?) ∨
        ∃ pre x post c, xs = pre ++ x :: post ∧ Ix c (pre ++ [x]) W2 ∧ W2.heap[l]? = some (.loop { r with state := .done, pending := some c }) ∧ ∀ k, w.heap.size ≤ k → k < W1.heap.size → k ≠ l → W2.heap[k]? = W1.heap[k]?) := by
  have hl1 : l < W1.heap.size := (Array.getElem?_eq_some_iff.1 hl).1
  have hsz := hW1.size
  -- what hangs on blocks below W1's end abides
  have hab : ∀ {A B : World} {k : Nat} {x : Option Obj}, k < W1.heap.size → W1.heap.size ≤ A.heap.size → A.heap[k]? = x → Keeps (fun k => W1.heap.size ≤ k) A B → B.heap[k]? = x := fun hk hA hx hK => (hK.block _ (by omega) (by simp; omega)).trans hx
  refine (hseq l (fun k => Mut k ∨ k = l)
    (fun pre W => (I pre W ∧ W1.heap.size ≤ W.heap.size) ∧ W.heap[l]? = some (.loop r) ∧ ∀ k, w.heap.size ≤ k → k < W1.heap.size → k ≠ l → W.heap[k]? = W1.heap[k]?)
    (fun pre W => (∃ c, (Ix c pre W ∧ W1.heap.size ≤ W.heap.size) ∧ W.heap[l]? = some (.loop { r with state := .done, pending := some c })) ∧ ∀ k, w.heap.size ≤ k → k < W1.heap.size → k ≠ l → W.heap[k]? = W1.heap[k]?)
    W1 hW1 ?_ ?_ ?_ ?_ ⟨⟨hI1, Nat.le_refl _⟩, hl, fun _ _ _ _ => rfl⟩).mono ?_
  · rintro k (h | rfl)
    · exact ⟨by have := (hMut k h).1; omega, (hMut k h).2⟩
    · exact ⟨hl1, fun hn => by have := hNeed _ hn; omega⟩
  · rintro pre A B ⟨⟨h1, h0⟩, h2, h3⟩ hK
    exact ⟨⟨hI pre A B h1 (hK.mono (fun k _ e => by omega)), Nat.le_trans h0 hK.size⟩, hab hl1 h0 h2 hK, fun k a b c => hab b h0 (h3 k a b c) hK⟩
  · rintro pre A B ⟨⟨c, ⟨h1, h0⟩, h2⟩, h3⟩ hK
    exact ⟨⟨c, ⟨hIx c pre A B h1 (hK.mono (fun k _ e => by omega)), Nat.le_trans h0 hK.size⟩, hab hl1 h0 h2 hK⟩, fun k a b c => hab b h0 (h3 k a b c) hK⟩
  · rintro pre x post W hx hle ⟨⟨hi, h0⟩, hlW, hD⟩ m
    have hlt : l < W.heap.size := by omega
    have hy := run_yield (P := P) (args := encs x) hlW (hps x)
    refine ⟨r.fn, _, r.assign, r.body, hy, roundIn_of_wpIn trivial (Code.wpIn_mono ?_ (hround pre x post W hx hlt ⟨r, hlW⟩ hi m))⟩
    rintro e a1 w1 hq
    cases e with
    | normal =>
      obtain ⟨hKa, hb⟩ := hq
      have hlw1 : w1.heap[l]? = some (.loop r) := (hKa.block l hlt (fun e => e)).trans hlW
      have hlt1 : l < w1.heap.size := (Array.getElem?_eq_some_iff.1 hlw1).1
      refine ⟨_, run_beginRound hlw1 hr, ?_⟩
      have hl2 : (w1.putObj l (.loop { r with state := .busy })).heap[l]? = some (.loop { r with state := .busy }) := World.putObj_heap_same hlt1
      have hK2 : Keeps (fun k => k = l) w1 (w1.putObj l (.loop { r with state := .busy })) := Keeps.putObj _ _ _ rfl
      have hi2 : I pre (w1.putObj l (.loop { r with state := .busy })) := hI pre _ _ (hI pre _ _ hi hKa.none) (hK2.mono (fun k _ e => by omega))
      refine Code.wpIn_mono ?_ (hb _ ⟨hK2, by simp [World.putObj], _, hl2⟩ hi2)
      have fin : ∀ (jump : Option Code) (W3 : World), Keeps Mut (w1.putObj l (.loop { r with state := .busy })) W3 →
          (Instr.endRound l jump).run P W3 = .ok (.bool jump.isNone) (W3.putObj l (.loop { r with state := if jump.isNone then .ready else .done, pending := jump })) ∧
          (W3.putObj l (.loop { r with state := if jump.isNone then .ready else .done, pending := jump })).heap[l]? = some (.loop { r with state := if jump.isNone then .ready else .done, pending := jump }) ∧
          Keeps (fun k => Mut k ∨ k = l) W (W3.putObj l (.loop { r with state := if jump.isNone then .ready else .done, pending := jump })) ∧
          Keeps (fun k => w.heap.size ≤ k) W3 (W3.putObj l (.loop { r with state := if jump.isNone then .ready else .done, pending := jump })) := fun jump W3 hK3 => by
        have hl3 : W3.heap[l]? = some (.loop { r with state := .busy }) := (hK3.block l (by simp [World.putObj]; omega) (fun e => by have := (hMut l e).1; omega)).trans hl2
        have h9 := run_endRound (P := P) jump hl3
        exact ⟨h9, World.putObj_heap_same (Array.getElem?_eq_some_iff.1 hl3).1,
          ((hKa.none.trans (hK2.mono (fun k _ e => .inr e))).trans (hK3.mono (fun k _ e => .inl e))).trans (Keeps.putObj _ _ _ (.inr rfl)), Keeps.putObj _ _ _ hlw⟩
      have keepD : ∀ W4, Keeps (fun k => Mut k ∨ k = l) W W4 → ∀ k, w.heap.size ≤ k → k < W1.heap.size → k ≠ l → W4.heap[k]? = W1.heap[k]? := fun W4 hK4 k h1 h2 h3 =>
        (hK4.block k (by omega) (by rintro (e | e); · have := (hMut k e).1; omega
                                    · exact h3 e)).trans (hD k h1 h2 h3)
      rintro e a3 W3 hq3
      cases e with
      | normal =>
        obtain ⟨hK3, hi3⟩ := hq3
        obtain ⟨f1, f2, f3, f4⟩ := fin none W3 hK3
        exact ⟨_, _, f1, .inl ⟨rfl, ⟨⟨hI _ _ _ hi3 f4, Nat.le_trans h0 f3.size⟩, f2.trans (by cases r; simp_all), keepD _ f3⟩, f3⟩⟩
      | ret =>
        obtain ⟨hK3, hi3⟩ := hq3
        obtain ⟨f1, f2, f3, f4⟩ := fin (some .ret) W3 hK3
        exact ⟨_, _, f1, .inr ⟨rfl, ⟨⟨.ret, ⟨hIx _ _ _ _ hi3 f4, Nat.le_trans h0 f3.size⟩, f2⟩, keepD _ f3⟩, f3⟩⟩
      | exit id =>
        obtain ⟨hK3, hi3⟩ := hq3
        obtain ⟨f1, f2, f3, f4⟩ := fin (some (.exit id)) W3 hK3
        exact ⟨_, _, f1, .inr ⟨rfl, ⟨⟨.exit id, ⟨hIx _ _ _ _ hi3 f4, Nat.le_trans h0 f3.size⟩, f2⟩, keepD _ f3⟩, f3⟩⟩
      | goto t =>
        obtain ⟨hK3, hi3⟩ := hq3
        obtain ⟨f1, f2, f3, f4⟩ := fin (some (.goto t)) W3 hK3
        exact ⟨_, _, f1, .inr ⟨rfl, ⟨⟨.goto t, ⟨hIx _ _ _ _ hi3 f4, Nat.le_trans h0 f3.size⟩, f2⟩, keepD _ f3⟩, f3⟩⟩
      | panic ch => exact hq3.elim
      | outgrown => exact hq3.elim
    | ret => exact hq.elim
    | exit id => exact hq.elim
    | goto t => exact hq.elim
    | panic ch => exact hq.elim
    | outgrown => exact hq.elim
  · rintro e W2 ⟨hv, (⟨⟨h1, _⟩, h2, h3⟩ | ⟨pre, x, post, hx, ⟨c, ⟨h1, _⟩, h2⟩, h3⟩)⟩
    · exact ⟨hv, .inl ⟨h1, h2, h3⟩⟩
    · exact ⟨hv, .inr ⟨pre, x, post, c, hx, h1, h2, h3⟩⟩

/-- A range over a function that yields a known list, outside of any round. -/
theorem wpIn_rangeL {α : Type} {P : Program} {n : Nat} {g : Operand} {ps : Array Tmp} {assign body : Code} {Q : Exit → Act → World → Prop} {a : Act} {w : World} {gf : Nat} {lb : Array Value} (hg : a.eval g = .func (.func gf) #[] lb) (eg : ∀ args w, (callFunc gf args).run P w = .ok (.enter gf args) w)
    {encs : α → Array Value} {xs : List α} {Need : Nat → Prop} (hseq : SeqL P gf lb encs xs Need w) (hNeed : ∀ k, Need k → k < w.heap.size) (hps : ∀ x, (encs x).size = ps.size)
    (Mut : Nat → Prop) (hMut : ∀ k, Mut k → k < w.heap.size ∧ ¬ Need k)
    (I : List α → World → Prop) (Ix : Code → List α → World → Prop) (hI : ∀ pre, Abides w.heap.size (I pre)) (hIx : ∀ c pre, Abides w.heap.size (Ix c pre)) (h0 : I [] w)
    (hround : ∀ l pre x post W, xs = pre ++ x :: post → w.heap.size ≤ l → l < W.heap.size → (∃ r, W.heap[l]? = some (.loop r)) → I pre W → Round P l assign body ((ps.zip (encs x)).foldl (fun t (p, v) => t.setIfInBounds p v) a.tmps) Mut I Ix pre x W)
    (hdone : ∀ (D : Nat) (W : World), w.heap.size ≤ D → D < W.heap.size → I xs W → W.heap[D]? = some (.deferred (some [])) → Q .normal { a with defers := { target := .collected D, args := #[] } :: a.defers } W)
    (hstop : ∀ (D : Nat) (c : Code) (pre : List α) (x : α) (post : List α) (W : World), w.heap.size ≤ D → D < W.heap.size → xs = pre ++ x :: post → Ix c (pre ++ [x]) W → W.heap[D]? = some (.deferred (some [])) →
      c.wpIn Fence.wide n P Q { a with defers := { target := .collected D, args := #[] } :: a.defers } W) :
    (Code.rangeFunc g ps assign body).wpIn Fence.wide n P Q a w := by
  refine wpIn_rangeFunc ?_
  intro fn hfn
  obtain ⟨r, hr⟩ : ∃ r : Loop, r = { state := .ready, pending := none, fn, tmps := a.tmps, params := ps, assign, body, defers := w.heap.size } := ⟨_, rfl⟩
  obtain ⟨W1, hW1⟩ : ∃ W1, (w.alloc (.deferred (some []))).alloc (.loop r) = W1 := ⟨_, rfl⟩
  have hL1 : W1.heap[w.heap.size + 1]? = some (.loop r) := by
    rw [← hW1]; have := World.alloc_heap_new (w.alloc (.deferred (some []))) (.loop r); rwa [World.size_alloc] at this
  have hK1 : W1.heap[w.heap.size]? = some (.deferred (some [])) := by
    rw [← hW1]; exact (Below.heap_alloc _ _ _ (by simp)).trans (World.alloc_heap_new w _)
  have hsz : W1.heap.size = w.heap.size + 2 := by rw [← hW1]; simp
  have hb1 : Keeps (fun _ => False) w W1 := by
    rw [← hW1]; exact Keeps.of_new (((Below.refl _ w).alloc (Nat.le_refl _) _).alloc (by simp) _)
  have hI1 : I [] W1 := hI [] _ _ h0 hb1.none
  refine ⟨w.heap.size + 1, [{ target := .collected w.heap.size, args := #[] }], W1, { target := .fn (.func gf) lb, args := #[.func (.yield (w.heap.size + 1)) #[] #[]] }, W1, gf,
    #[.func (.yield (w.heap.size + 1)) #[] #[]] ++ lb, W1, ?_, ?_, ?_, ?_, fun h => by simp [Fence.wide] at h, ?_⟩
  · rw [← hW1, hr]; exact run_enterLoop_outer _ _ _ _ _
  · simp only [resolve, hg]
    simp [go_sem]
  · intro _ _; trivial
  · simp [invoke, go_sem, eg]
  · refine (callsIn_wide.2 (range_mid hseq hMut hNeed I Ix hI hIx hI1 (w.heap.size + 1) r (by rw [hr]) (by rw [hr]) hL1 (by omega) hb1 (by rw [hr]; exact hps) (by
      intro pre x post W hx hl hrl hi
      rw [hr]
      exact hround _ pre x post W hx (by omega) hl hrl hi))).mono ?_
    rintro e W2 ⟨⟨v, rfl⟩, (⟨h1, h2, h3⟩ | ⟨pre, x, post, c, hx, h1, h2, h3⟩)⟩
    · have hlt := (Array.getElem?_eq_some_iff.1 h2).1
      have he := run_endLoop (P := P) h2 (by rw [hr]; simp)
      rw [show r.pending = none by rw [hr]] at he
      refine ⟨none, _, he, hdone w.heap.size _ (Nat.le_refl _) (by simp [World.putObj]; omega) (hI _ _ _ h1 (Keeps.putObj _ _ _ (by simp))) ?_⟩
      exact (World.putObj_heap_other (by omega)).trans ((h3 _ (Nat.le_refl _) (by omega) (by omega)).trans hK1)
    · have hlt := (Array.getElem?_eq_some_iff.1 h2).1
      refine ⟨some c, _, run_endLoop h2 (by simp), hstop w.heap.size c pre x post _ (Nat.le_refl _) (by simp [World.putObj]; omega) hx (hIx _ _ _ _ h1 (Keeps.putObj _ _ _ (by simp))) ?_⟩
      exact (World.putObj_heap_other (by omega)).trans ((h3 _ (Nat.le_refl _) (by omega) (by omega)).trans hK1)

/-- The same inside a round of a loop. -/
theorem wpIn_rangeN {α : Type} {P : Program} {n l₀ : Nat} {r₀ : Loop} {g : Operand} {ps : Array Tmp} {assign body : Code} {Q : Exit → Act → World → Prop} {a : Act} {w : World} (hl₀ : w.heap[l₀]? = some (.loop r₀)) {gf : Nat} {lb : Array Value} (hg : a.eval g = .func (.func gf) #[] lb) (eg : ∀ args w, (callFunc gf args).run P w = .ok (.enter gf args) w)
    {encs : α → Array Value} {xs : List α} {Need : Nat → Prop} (hseq : SeqL P gf lb encs xs Need w) (hNeed : ∀ k, Need k → k < w.heap.size) (hps : ∀ x, (encs x).size = ps.size)
    (Mut : Nat → Prop) (hMut : ∀ k, Mut k → k < w.heap.size ∧ ¬ Need k)
    (I : List α → World → Prop) (Ix : Code → List α → World → Prop) (hI : ∀ pre, Abides w.heap.size (I pre)) (hIx : ∀ c pre, Abides w.heap.size (Ix c pre)) (h0 : I [] w)
    (hround : ∀ l pre x post W, xs = pre ++ x :: post → w.heap.size ≤ l → l < W.heap.size → (∃ r, W.heap[l]? = some (.loop r)) → I pre W → Round P l assign body ((ps.zip (encs x)).foldl (fun t (p, v) => t.setIfInBounds p v) a.tmps) Mut I Ix pre x W)
    (hdone : ∀ (W : World), w.heap.size ≤ W.heap.size → I xs W → Q .normal a W)
    (hstop : ∀ (c : Code) (pre : List α) (x : α) (post : List α) (W : World), xs = pre ++ x :: post → Ix c (pre ++ [x]) W → c.wpIn (Fence.wide.inRound l₀) n P Q a W) :
    (Code.rangeFunc g ps assign body).wpIn (Fence.wide.inRound l₀) n P Q a w := by
  refine wpIn_rangeFunc ?_
  intro fn hfn
  obtain ⟨r, hr⟩ : ∃ r : Loop, r = { state := .ready, pending := none, fn, tmps := a.tmps, params := ps, assign, body, defers := r₀.defers } := ⟨_, rfl⟩
  obtain ⟨W1, hW1⟩ : ∃ W1, w.alloc (.loop r) = W1 := ⟨_, rfl⟩
  have hL1 : W1.heap[w.heap.size]? = some (.loop r) := by rw [← hW1]; exact World.alloc_heap_new w _
  have hsz : W1.heap.size = w.heap.size + 1 := by rw [← hW1]; simp
  have hb1 : Keeps (fun _ => False) w W1 := by
    rw [← hW1]; exact Keeps.of_new ((Below.refl _ w).alloc (Nat.le_refl _) _)
  have hI1 : I [] W1 := hI [] _ _ h0 hb1.none
  refine ⟨w.heap.size, [], W1, { target := .fn (.func gf) lb, args := #[.func (.yield w.heap.size) #[] #[]] }, W1, gf,
    #[.func (.yield w.heap.size) #[] #[]] ++ lb, W1, ?_, ?_, ?_, ?_, fun h => by simp [Fence.wide, Fence.inRound] at h, ?_⟩
  · rw [← hW1, hr]; exact run_enterLoop_inner hl₀ _ _ _ _ _
  · simp only [resolve, hg]
    simp [go_sem]
  · intro _ _; trivial
  · simp [invoke, go_sem, eg]
  · refine (CallsIn.inRound l₀ (callsIn_wide.2 (range_mid hseq hMut hNeed I Ix hI hIx hI1 w.heap.size r (by rw [hr]) (by rw [hr]) hL1 (Nat.le_refl _) hb1 (by rw [hr]; exact hps) (by
      intro pre x post W hx hl hrl hi
      rw [hr]
      exact hround _ pre x post W hx (by omega) hl hrl hi)))).mono ?_
    rintro e W2 ⟨⟨v, rfl⟩, (⟨h1, h2, h3⟩ | ⟨pre, x, post, c, hx, h1, h2, h3⟩)⟩
    · have hlt := (Array.getElem?_eq_some_iff.1 h2).1
      have he := run_endLoop (P := P) h2 (by rw [hr]; simp)
      rw [show r.pending = none by rw [hr]] at he
      exact ⟨none, _, he, hdone _ (by simp [World.putObj]; omega) (hI _ _ _ h1 (Keeps.putObj _ _ _ (by simp)))⟩
    · exact ⟨some c, _, run_endLoop h2 (by simp), hstop c pre x post _ hx (hIx _ _ _ _ h1 (Keeps.putObj _ _ _ (by simp)))⟩
end Go.Proofs.Ytnodkgejggnehaa

namespace Go.Proofs.Ytnodkgejggnehaa
set_option linter.unusedSimpArgs false
set_option linter.unusedVariables false
open Go.RowKit Go.Shelf

/-- A pair of numbers. -/
structure Rg where
  lo : Int
  hi : Int
deriving DecidableEq, Inhabited
def gAt (zs : List Rg) (k : Nat) : Rg := zs.getD k ⟨0, 0⟩
/-- A slice of n ranges reads as zs. -/
def Rgs (w : World) (A : Option Addr) (n : Nat) (zs : List Rg) : Prop :=
  zs.length = n ∧ (0 < n → ∃ b o, A = some ⟨b, o, none⟩ ∧ ∀ j, j < n → w.cell? ⟨b, o + j * 2, none⟩ = some (.int .i64 (gAt zs j).lo) ∧ w.cell? ⟨b, o + j * 2 + 1, none⟩ = some (.int .i64 (gAt zs j).hi))
def iAt (zs : List Int) (k : Nat) : Int := zs.getD k 0
/-- A slice of n numbers reads as zs. -/
def Ints (w : World) (A : Option Addr) (n : Nat) (zs : List Int) : Prop :=
  zs.length = n ∧ (0 < n → ∃ b o, A = some ⟨b, o, none⟩ ∧ ∀ j, j < n → w.cell? ⟨b, o + j, none⟩ = some (.int .i64 (iAt zs j)))
theorem lt_of_cell {w : World} {b o : Nat} {v : Value} (h : w.cell? ⟨b, o, none⟩ = some v) : b < w.heap.size := by
  rcases Nat.lt_or_ge b w.heap.size with hl | hl
  · exact hl
  · simp [World.cell?, Array.getElem?_eq_none hl] at h
theorem below_alloc_ (W : World) (o : Obj) : Below W.heap.size W (W.alloc o) := (Below.refl _ _).alloc (Nat.le_refl _) _
theorem Rgs.below {w w' : World} {A : Option Addr} {n B : Nat} {zs : List Rg} (h : Rgs w A n zs) (hb : Below B w w') (hB : w.heap.size ≤ B) : Rgs w' A n zs := by
  refine ⟨h.1, fun hn => ?_⟩
  obtain ⟨b, o, e, hc⟩ := h.2 hn
  have hl := lt_of_cell (hc 0 hn).1
  exact ⟨b, o, e, fun j hj => ⟨(hb.cell (p := ⟨b, o + j * 2, none⟩) (by simp; omega)).trans (hc j hj).1, (hb.cell (p := ⟨b, o + j * 2 + 1, none⟩) (by simp; omega)).trans (hc j hj).2⟩⟩

theorem ret_bool {a b : Bool} (h : a = b) : Ending.returned (.bool a) = .returned (.bool b) := by rw [h]

theorem Ints.below {w w' : World} {A : Option Addr} {n B : Nat} {zs : List Int} (h : Ints w A n zs) (hb : Below B w w') (hB : w.heap.size ≤ B) : Ints w' A n zs := by
  refine ⟨h.1, fun hn => ?_⟩
  obtain ⟨b, o, e, hc⟩ := h.2 hn
  have hl := lt_of_cell (hc 0 hn)
  exact ⟨b, o, e, fun j hj => (hb.cell (p := ⟨b, o + j, none⟩) (by simp; omega)).trans (hc j hj)⟩
theorem gAt_eq {zs : List Rg} {k : Nat} (hk : k < zs.length) : gAt zs k = zs[k] := by simp [gAt, List.getD, hk]
theorem iAt_eq {zs : List Int} {k : Nat} (hk : k < zs.length) : iAt zs k = zs[k] := by simp [iAt, List.getD, hk]
theorem heap_alloc_new_ (W : World) (o : Obj) : (W.alloc o).heap[W.heap.size]? = some o := by
  show (W.heap.push o)[W.heap.size]? = some o
  simp
theorem lt_of_block {W : World} {b : Nat} {x : Obj} (h : W.heap[b]? = some x) : b < W.heap.size := by
  rcases Nat.lt_or_ge b W.heap.size with hl | hl
  · exact hl
  · rw [Array.getElem?_eq_none hl] at h; cases h
theorem cell_row {W : World} {b k : Nat} {c : Array Value} {t : TypeId} {fr : Nat × Nat} (h : W.heap[b]? = some (.cells c t fr)) : W.cell? ⟨b, k, none⟩ = c[k]? := by
  simp [World.cell?, h]
theorem all_take {α : Type} [Inhabited α] (p : α → Bool) (xs : List α) (k : Nat) (d : α) (hk : k < xs.length) : (xs.take (k + 1)).all p = ((xs.take k).all p && p (xs.getD k d)) := by
  rw [List.take_succ_eq_append_getElem hk, List.all_append]
  simp [List.getD, hk]
theorem all_stop {α : Type} (p : α → Bool) (xs : List α) (k : Nat) (d : α) (hk : k < xs.length) (h : p (xs.getD k d) = false) : xs.all p = false := by
  rw [List.all_eq_false]
  refine ⟨xs[k], List.getElem_mem hk, ?_⟩
  have e : xs.getD k d = xs[k] := by simp [List.getD, hk]
  rw [e] at h
  simp [h]
theorem ret_int {a b : Int} (h : a = b) : Ending.returned (.int .i64 a) = .returned (.int .i64 b) := by rw [h]
theorem hal_new {W : World} {o : Obj} {k : Nat} (h : k = W.heap.size) : (W.alloc o).heap[k]? = some o := by subst h; exact heap_alloc_new_ _ _
theorem hal_old {W : World} {o x : Obj} {k : Nat} (h : W.heap[k]? = some x) : (W.alloc o).heap[k]? = some x := ((below_alloc_ W o).block _ (lt_of_block h)).trans h
theorem frozen_row {W : World} {b k : Nat} {c : Array Value} {t : TypeId} (h : W.heap[b]? = some (.cells c t (0, 0))) : W.frozen? ⟨b, k, none⟩ = false := by
  simp [World.frozen?, h]
theorem three_cells {W : World} {k : Nat} {u v x : Value} {t : TypeId} (h : W.heap[k]? = some (.cells #[u, v, x] t (0, 0))) : W.cell? ⟨k, 0, none⟩ = some u ∧ W.cell? ⟨k, 1, none⟩ = some v ∧ W.cell? ⟨k, 2, none⟩ = some x ∧ W.frozen? ⟨k, 0, none⟩ = false ∧ W.frozen? ⟨k, 1, none⟩ = false ∧ W.frozen? ⟨k, 2, none⟩ = false :=
  ⟨by rw [cell_row h]; rfl, by rw [cell_row h]; rfl, by rw [cell_row h]; rfl, frozen_row h, frozen_row h, frozen_row h⟩
theorem set_same {W : World} {k : Nat} {c : Array Value} {t : TypeId} (o : Nat) (v : Value) (h : W.heap[k]? = some (.cells c t (0, 0))) : (W.setCell ⟨k, o, none⟩ v).heap[k]? = some (.cells (c.setIfInBounds o v) t (0, 0)) := by
  simp [World.setCell, Array.getElem?_modify, h]
def runO (P : Program) (o : Oper) (p : Value) (W : World) : Result Next := (execOp (fun _ => p) o).run P W
def ld (t : TypeId) : Oper := { dst := none, op := Op.load t (.tmp 0), type := t, pos := "", after := #[], guard := none }
theorem keep_cells {Mut : Nat → Prop} {W W' : World} {b : Nat} (h : Keeps Mut W W') (hb : b < W.heap.size) (hm : ¬ Mut b) (j : Nat) : W'.cell? ⟨b, j, none⟩ = W.cell? ⟨b, j, none⟩ := by
  simp [World.cell?, h.block b hb hm]
theorem keep_alloc (Mut : Nat → Prop) (W : World) (o : Obj) : Keeps Mut W (W.alloc o) := Keeps.of_new (below_alloc_ W o)

def runV (P : Program) (o : Oper) (p v : Value) (W : World) : Result Next := (execOp (fun x => match x with | .tmp 0 => p | _ => v) o).run P W
def st (t : TypeId) : Oper := { dst := none, op := Op.store t (.tmp 0) (.tmp 1), type := t, pos := "", after := #[], guard := none }
theorem setRow_same {W : World} {B : Nat} {Y : Array Value} {t : TypeId} {fr : Nat × Nat} (X : Array Value) (h : W.heap[B]? = some (.cells Y t fr)) : (W.setRow B X).heap[B]? = some (.cells X t fr) := by
  simp [World.setRow, Array.getElem?_modify, h]
theorem keeps_setRow (W : World) (B : Nat) (X : Array Value) : Keeps (fun k => k = B) W (W.setRow B X) :=
  ⟨rfl, rfl, rfl, by simp [World.setRow], fun k _ hk => by simp [World.setRow, Array.getElem?_modify, Ne.symm hk]⟩
theorem setRow_size (W : World) (B : Nat) (X : Array Value) : (W.setRow B X).heap.size = W.heap.size := by simp [World.setRow]
theorem keeps_abides {Mut : Nat → Prop} {W0 : World} {B0 : Nat} (h : W0.heap.size ≤ B0) : Abides B0 (Keeps Mut W0) := fun W W' hK hK' =>
  ⟨hK'.os.trans hK.os, hK'.tape.trans hK.tape, hK'.output.trans hK.output, Nat.le_trans hK.size hK'.size, fun k hk hm => (hK'.block k (Nat.lt_of_lt_of_le hk hK.size) (by omega)).trans (hK.block k hk hm)⟩
theorem keeps_setCell (W : World) (b o : Nat) (v : Value) : Keeps (fun k => k = b) W (W.setCell ⟨b, o, none⟩ v) :=
  ⟨rfl, rfl, rfl, by simp [World.setCell], fun k _ hk => Below.heap_setCell _ _ _ _ hk⟩
theorem eq_le {a b : Nat} (h : a = b) : a ≤ b ∧ b ≤ a := ⟨by omega, by omega⟩
theorem wide_d {m : Nat} : Fence.wide.depth.isSome = true → 1 ≤ m := fun h => by simp [Fence.wide] at h

theorem drew_b (W : World) (q : Nat) : Below W.heap.size W (W.drewN q) := ⟨rfl, rfl, rfl, Nat.le_refl _, fun _ _ => rfl⟩
theorem at_plain (r : Option Nat) (ρ : Operand → Value) (o : Oper) (h : ∀ c, o.op ≠ .defer c) : Oper.semAt r ρ o = execOp ρ o := by
  cases r with
  | none => rfl
  | some l => exact Oper.semAt_some l ρ o h
theorem own_keep {W W' : World} {Mut : Nat → Prop} {e : TypeId} {size n : Nat} {v : Value} {xs : List Value} (h : W.ownsRow 0 e size v n xs) (hK : Keeps Mut W W') (hm : ∀ k, v.ownBlock = some k → ¬ Mut k) : W'.ownsRow 0 e size v n xs := by
  obtain ⟨h1, h2⟩ := h
  refine ⟨h1, ?_⟩
  rcases h2 with h2 | ⟨g, cap, cur, rfl, hb, hg, rest⟩
  · exact .inl h2
  · exact .inr ⟨g, cap, cur, rfl, hb, (hK.block g (lt_of_block hg) (hm g rfl)).trans hg, rest⟩
theorem own_lt {W : World} {e : TypeId} {size n : Nat} {v : Value} {xs : List Value} (h : W.ownsRow 0 e size v n xs) : ∀ k, v.ownBlock = some k → k < W.heap.size := by
  intro k hk
  rcases h.2 with ⟨rfl, _⟩ | ⟨g, cap, cur, rfl, hb, hg, rest⟩
  · cases hk
  · have : g = k := Option.some.inj hk
    subst this
    exact lt_of_block hg
theorem app_one {t e : TypeId} {size bytes : Nat} {z : Value} (ht : Try.prog.underlying t = some (.slice e)) (hinfo : (Try.prog.info? e).map (fun i => (i.zero, i.size, i.bytes)) = some (some z, size, bytes)) (hzs : z.cells.size = size) (hs0 : 0 < size) (hby : bytes ≤ 1000)
    {W : World} {v : Value} {n : Nat} {xs : List Value} (hown : W.ownsRow 0 e size v n xs) {vals : List Value} (hl : vals.length = size) {Z : Nat} (hZ : W.heap[Z]? = some (.cells vals.toArray e (0, 0))) (h1 : ∀ u ∈ vals, u.oneCell' = true) (hn : n ≤ 100000) :
    ∃ v' W', (Builtin.append_ #[t, t] t #[v, .slice (some ⟨Z, 0, none⟩) 1 1]).run Try.prog W = .ok v' W' ∧ W'.ownsRow 0 e size v' (n + 1) (xs ++ vals) ∧ Keeps (fun k => v.ownBlock = some k) W W' ∧ (v'.ownBlock = v.ownBlock ∨ (v'.ownBlock = some W.heap.size ∧ W.heap.size < W'.heap.size)) := by
  obtain ⟨i, hi, hz, hs, hb⟩ := info_parts hinfo
  obtain ⟨v', W', h2, h3, h4, _, h5⟩ := run_append_own_at (P := Try.prog) W 0 t t e i z size bytes ht hi hz hs hb hzs hs0 v n xs hown ⟨Z, 0, none⟩ 1 1 vals (by omega) (fun j u hj => by
    rw [Addr.add_lit, cell_row hZ]; simpa using hj) h1 (by unfold maxLen; omega) (by
      have : (n + 1) * bytes ≤ 100001 * 1000 := Nat.mul_le_mul (by omega) hby
      omega) (Nat.zero_le _)
  refine ⟨v', W', h2, h3, ⟨h4.os, h4.tape, h4.output, h4.size, fun k hk hm => h4.block k hk (fun e => hm e.symm)⟩, ?_⟩
  rcases h5 with h5 | h5
  · exact .inl h5
  · exact .inr ⟨h5, own_lt h3 _ h5⟩
theorem own_nil (W : World) (e : TypeId) (size : Nat) : W.ownsRow 0 e size (.slice none 0 0) 0 [] := World.ownsRow_nil W 0 e size
theorem store1 (B o : Nat) (v : Value) (W : World) (hc : (W.cell? ⟨B, o, none⟩).isSome = true) (hf : W.frozen? ⟨B, o, none⟩ = false) (h1 : v.oneCell' = true) :
    (storeCells ⟨B, o, none⟩ [v] 0).run Try.prog W = .ok () (W.setCell ⟨B, o, none⟩ v) := by
  have h := run_storeCells_cells (P := Try.prog) B o [v] 0 W (by intro j hj; simp at hj; subst hj; simpa using hc) (by intro j hj; simp at hj; subst hj; simpa using hf) (by simpa using h1)
  rw [h]
  simp [World.setCells]
/-! The operation, kept whole in walks. -/
def runA (P : Program) (t : TypeId) (x y : Value) (W : World) : Result Next :=
  (execOp (fun o => match o with | .tmp 0 => x | _ => y) { dst := none, op := Op.call { callee := .builtin .append, args := #[.tmp 0, .tmp 1], argTypes := #[t, t] }, type := t, pos := "", after := #[], guard := none }).run P W
theorem exec_app (t : TypeId) (ρ : Operand → Value) (d : Option Tmp) (i j : Tmp) (pos : String) (af : Array Edge) (g : Option (Nat × Bool)) (W : World) :
    (execOp ρ { dst := d, op := Op.call { callee := Callee.builtin Builtin.append, args := #[.tmp i, .tmp j], argTypes := #[t, t] }, type := t, pos := pos, after := af, guard := g }).run Try.prog W = runA Try.prog t (ρ (.tmp i)) (ρ (.tmp j)) W := by
  unfold runA execOp
  simp only [resolve, invoke, builtin, List.map_toArray, List.map_cons, List.map_nil]
theorem at_app (t : TypeId) (r : Option Nat) (ρ : Operand → Value) (d : Option Tmp) (i j : Tmp) (pos : String) (af : Array Edge) (g : Option (Nat × Bool)) (W : World) :
    (Oper.semAt r ρ { dst := d, op := Op.call { callee := Callee.builtin Builtin.append, args := #[.tmp i, .tmp j], argTypes := #[t, t] }, type := t, pos := pos, after := af, guard := g }).run Try.prog W = runA Try.prog t (ρ (.tmp i)) (ρ (.tmp j)) W := by
  rw [at_plain _ _ _ (fun c => by simp)]; exact exec_app t ρ d i j pos af g W
theorem run_app {t : TypeId} {x y v : Value} {W W' : World} (h : (Builtin.append_ #[t, t] t #[x, y]).run Try.prog W = .ok v W') : runA Try.prog t x y W = .ok (.value v) W' := by
  unfold runA execOp
  simp only [resolve, invoke, builtin, Sem.run_bind, Sem.run_pure, Result.andThen_ok, List.map_toArray, List.map_cons, List.map_nil, h]
end Go.Proofs.Ytnodkgejggnehaa
