/- A range over a function that yields some of the first numbers, each of which is told when its turn comes; rounds may change what tells. -/
import Derived.Test.YtigohccehllmnaaBase
namespace Go.Proofs.Ytigohccehllmnaa
set_option linter.unusedSimpArgs false
set_option linter.unusedVariables false
open Go.RowKit Go.Shelf

/-- What hangs on the blocks below B, and on those of O, alone. -/
def AbO (B : Nat) (J : (Nat → Prop) → World → Prop) : Prop := ∀ O W W', J O W → Keeps (fun k => B ≤ k ∧ ¬ O k) W W' → J O W'
/-- Rounds have come to own more blocks, all new. -/
def Grow (O O' : Nat → Prop) (W W' : World) : Prop := (∀ k, O k → O' k) ∧ ∀ k, O' k → O k ∨ (W.heap.size ≤ k ∧ k < W'.heap.size)
theorem Grow.refl (O : Nat → Prop) (W W' : World) : Grow O O W W' := ⟨fun _ h => h, fun _ h => .inl h⟩
/-- The function g yields the list xs, and needs some blocks as they are; rounds may own blocks. -/
def SeqO {α : Type} (P : Program) (g : Nat) (lb : Array Value) (encs : α → Array Value) (xs : List α) (Need : Nat → Prop) (w : World) : Prop :=
  ∀ (l : Nat) (Mut : Nat → Prop) (J Jx : List α → (Nat → Prop) → World → Prop) (W : World),
    Keeps (fun _ => False) w W → (∀ k, Mut k → k < W.heap.size ∧ ¬ Need k) → (∀ pre, AbO W.heap.size (J pre)) → (∀ pre, AbO W.heap.size (Jx pre)) →
    (∀ pre x post W1 O, xs = pre ++ x :: post → W.heap.size ≤ W1.heap.size → (∀ k, O k → W.heap.size ≤ k ∧ k < W1.heap.size) → J pre O W1 → Yld P l (encs x) W1 fun e W' =>
      (e = .returned (.bool true) ∧ ∃ O', Grow O O' W1 W' ∧ J (pre ++ [x]) O' W' ∧ Keeps (fun k => Mut k ∨ O k) W1 W') ∨ (e = .returned (.bool false) ∧ ∃ O', Grow O O' W1 W' ∧ Jx (pre ++ [x]) O' W' ∧ Keeps (fun k => Mut k ∨ O k) W1 W')) →
    J [] (fun _ => False) W →
    Calls P g (#[.func (.yield l) #[] #[]] ++ lb) W fun e W' => (∃ v, e = .returned v) ∧ ∃ O : Nat → Prop, (∀ k, O k → W.heap.size ≤ k ∧ k < W'.heap.size) ∧ (J xs O W' ∨ ∃ pre x post, xs = pre ++ x :: post ∧ Jx (pre ++ [x]) O W')
/-- How a round may be left. -/
def rndPostO {α : Type} (Mut : Nat → Prop) (I : List α → (Nat → Prop) → World → Prop) (Ix : Code → List α → (Nat → Prop) → World → Prop) (O : Nat → Prop) (xs : List α) (W : World) : Exit → Act → World → Prop
  | .normal, _, W' => ∃ O', Grow O O' W W' ∧ Keeps (fun k => Mut k ∨ O k) W W' ∧ I xs O' W'
  | .ret, _, W' => ∃ O', Grow O O' W W' ∧ Keeps (fun k => Mut k ∨ O k) W W' ∧ Ix .ret xs O' W'
  | .exit id, _, W' => ∃ O', Grow O O' W W' ∧ Keeps (fun k => Mut k ∨ O k) W W' ∧ Ix (.exit id) xs O' W'
  | .goto t, _, W' => ∃ O', Grow O O' W W' ∧ Keeps (fun k => Mut k ∨ O k) W W' ∧ Ix (.goto t) xs O' W'
  | .panic _, _, _ => False
  | .outgrown, _, _ => False
/-- What a round owes. -/
def RoundO {α : Type} (P : Program) (l : Nat) (assign body : Code) (tmps : Array Value) (Mut : Nat → Prop) (I : List α → (Nat → Prop) → World → Prop) (Ix : Code → List α → (Nat → Prop) → World → Prop) (O : Nat → Prop) (pre : List α) (x : α) (W : World) : Prop :=
  ∀ m, assign.wpIn (Fence.wide.inRound l) m P (Exit.then (fun a1 w1 => Keeps (fun _ => False) W w1 ∧
    ∀ w2, Begun l w1 w2 → I pre O w2 → body.wpIn (Fence.wide.inRound l) m P (rndPostO Mut I Ix O (pre ++ [x]) w2) a1 w2) (fun _ _ _ => False))
    { tmps := tmps, defers := [] } W

theorem range_midO {α : Type} {P : Program} {gf : Nat} {lb : Array Value} {encs : α → Array Value} {xs : List α} {Need : Nat → Prop} {w W1 : World} (hseq : SeqO P gf lb encs xs Need w) {Mut : Nat → Prop} (hMut : ∀ k, Mut k → k < w.heap.size ∧ ¬ Need k) (hNeed : ∀ k, Need k → k < w.heap.size)
    (I : List α → (Nat → Prop) → World → Prop) (Ix : Code → List α → (Nat → Prop) → World → Prop) (hI : ∀ pre, AbO w.heap.size (I pre)) (hIx : ∀ c pre, AbO w.heap.size (Ix c pre)) (hI1 : I [] (fun _ => False) W1)
    (l : Nat) (r : Loop) (hr : r.state = .ready) (hp : r.pending = none) (hl : W1.heap[l]? = some (.loop r)) (hlw : w.heap.size ≤ l) (hW1 : Keeps (fun _ => False) w W1) (hps : ∀ x, (encs x).size = r.params.size)
    (hround : ∀ pre x post W O, xs = pre ++ x :: post → l < W.heap.size → (∃ r, W.heap[l]? = some (.loop r)) → (∀ k, O k → W1.heap.size ≤ k ∧ k < W.heap.size) → I pre O W → RoundO P l r.assign r.body ((r.params.zip (encs x)).foldl (fun t (p, v) => t.setIfInBounds p v) r.tmps) Mut I Ix O pre x W) :
    Calls P gf (#[.func (.yield l) #[] #[]] ++ lb) W1 fun e W2 => (∃ v, e = .returned v) ∧ ∃ O : Nat → Prop, (∀ k, O k → W1.heap.size ≤ k ∧ k < W2.heap.size) ∧
      ((I xs O W2 ∧ W2.heap[l]? = some (.loop r) ∧ ∀ k, w.heap.size ≤ k → k < W1.heap.size → k ≠ l → W2.heap[k]? = W1.heap[k]?) ∨
        ∃ pre x post c, xs = pre ++ x :: post ∧ Ix c (pre ++ [x]) O W2 ∧ W2.heap[l]? = some (.loop { r with state := .done, pending := some c }) ∧ ∀ k, w.heap.size ≤ k → k < W1.heap.size → k ≠ l → W2.heap[k]? = W1.heap[k]?) := by
  have hl1 : l < W1.heap.size := (Array.getElem?_eq_some_iff.1 hl).1
  have hsz := hW1.size
  have hab : ∀ {O : Nat → Prop} {A B : World} {k : Nat} {x : Option Obj}, k < W1.heap.size → W1.heap.size ≤ A.heap.size → A.heap[k]? = x → Keeps (fun k => W1.heap.size ≤ k ∧ ¬ O k) A B → B.heap[k]? = x := fun hk hA hx hK => (hK.block _ (by omega) (by simp; omega)).trans hx
  refine (hseq l (fun k => Mut k ∨ k = l)
    (fun pre O W => (I pre O W ∧ W1.heap.size ≤ W.heap.size) ∧ W.heap[l]? = some (.loop r) ∧ ∀ k, w.heap.size ≤ k → k < W1.heap.size → k ≠ l → W.heap[k]? = W1.heap[k]?)
    (fun pre O W => (∃ c, (Ix c pre O W ∧ W1.heap.size ≤ W.heap.size) ∧ W.heap[l]? = some (.loop { r with state := .done, pending := some c })) ∧ ∀ k, w.heap.size ≤ k → k < W1.heap.size → k ≠ l → W.heap[k]? = W1.heap[k]?)
    W1 hW1 ?_ ?_ ?_ ?_ ⟨⟨hI1, Nat.le_refl _⟩, hl, fun _ _ _ _ => rfl⟩).mono ?_
  · rintro k (h | rfl)
    · exact ⟨by have := (hMut k h).1; omega, (hMut k h).2⟩
    · exact ⟨hl1, fun hn => by have := hNeed _ hn; omega⟩
  · rintro pre O A B ⟨⟨h1, h0⟩, h2, h3⟩ hK
    exact ⟨⟨hI pre O A B h1 (hK.mono (fun k _ e => ⟨by have := e.1; omega, e.2⟩)), Nat.le_trans h0 hK.size⟩, hab hl1 h0 h2 hK, fun k a b c => hab b h0 (h3 k a b c) hK⟩
  · rintro pre O A B ⟨⟨c, ⟨h1, h0⟩, h2⟩, h3⟩ hK
    exact ⟨⟨c, ⟨hIx c pre O A B h1 (hK.mono (fun k _ e => ⟨by have := e.1; omega, e.2⟩)), Nat.le_trans h0 hK.size⟩, hab hl1 h0 h2 hK⟩, fun k a b c => hab b h0 (h3 k a b c) hK⟩
  · rintro pre x post W O hx hle hO ⟨⟨hi, h0⟩, hlW, hD⟩ m
    have hlt : l < W.heap.size := by omega
    have hlO : ¬ O l := fun e => by have := (hO l e).1; omega
    have hy := run_yield (P := P) (args := encs x) hlW (hps x)
    refine ⟨r.fn, _, r.assign, r.body, hy, roundIn_of_wpIn trivial (Code.wpIn_mono ?_ (hround pre x post W O hx hlt ⟨r, hlW⟩ hO hi m))⟩
    rintro e a1 w1 hq
    cases e with
    | normal =>
      obtain ⟨hKa, hb⟩ := hq
      have hlw1 : w1.heap[l]? = some (.loop r) := (hKa.block l hlt (fun e => e)).trans hlW
      have hlt1 : l < w1.heap.size := (Array.getElem?_eq_some_iff.1 hlw1).1
      refine ⟨_, run_beginRound hlw1 hr, ?_⟩
      have hl2 : (w1.putObj l (.loop { r with state := .busy })).heap[l]? = some (.loop { r with state := .busy }) := World.putObj_heap_same hlt1
      have hK2 : Keeps (fun k => k = l) w1 (w1.putObj l (.loop { r with state := .busy })) := Keeps.putObj _ _ _ rfl
      have hi2 : I pre O (w1.putObj l (.loop { r with state := .busy })) := hI pre _ _ _ (hI pre _ _ _ hi hKa.none) (hK2.mono (fun k _ e => ⟨by omega, by subst e; exact hlO⟩))
      have hs12 : W.heap.size ≤ (w1.putObj l (.loop { r with state := .busy })).heap.size := Nat.le_trans hKa.size hK2.size
      refine Code.wpIn_mono ?_ (hb _ ⟨hK2, by simp [World.putObj], _, hl2⟩ hi2)
      have fin : ∀ (jump : Option Code) (W3 : World), Keeps (fun k => Mut k ∨ O k) (w1.putObj l (.loop { r with state := .busy })) W3 →
          (Instr.endRound l jump).run P W3 = .ok (.bool jump.isNone) (W3.putObj l (.loop { r with state := if jump.isNone then .ready else .done, pending := jump })) ∧
          (W3.putObj l (.loop { r with state := if jump.isNone then .ready else .done, pending := jump })).heap[l]? = some (.loop { r with state := if jump.isNone then .ready else .done, pending := jump }) ∧
          Keeps (fun k => (Mut k ∨ k = l) ∨ O k) W (W3.putObj l (.loop { r with state := if jump.isNone then .ready else .done, pending := jump })) ∧
          Keeps (fun k => k = l) W3 (W3.putObj l (.loop { r with state := if jump.isNone then .ready else .done, pending := jump })) := fun jump W3 hK3 => by
        have hl3 : W3.heap[l]? = some (.loop { r with state := .busy }) := (hK3.block l (by simp [World.putObj]; omega) (by
          rintro (e | e)
          · have := (hMut l e).1; omega
          · exact hlO e)).trans hl2
        have h9 := run_endRound (P := P) jump hl3
        exact ⟨h9, World.putObj_heap_same (Array.getElem?_eq_some_iff.1 hl3).1,
          ((hKa.none.trans (hK2.mono (fun k _ e => .inl (.inr e)))).trans (hK3.mono (fun k _ e => e.elim (fun e => .inl (.inl e)) .inr))).trans (Keeps.putObj _ _ _ (.inl (.inr rfl))), Keeps.putObj _ _ _ rfl⟩
      have keepD : ∀ W4, Keeps (fun k => (Mut k ∨ k = l) ∨ O k) W W4 → ∀ k, w.heap.size ≤ k → k < W1.heap.size → k ≠ l → W4.heap[k]? = W1.heap[k]? := fun W4 hK4 k h1 h2 h3 =>
        (hK4.block k (by omega) (by
          rintro ((e | e) | e)
          · have := (hMut k e).1; omega
          · exact h3 e
          · have := (hO k e).1; omega)).trans (hD k h1 h2 h3)
      have grow : ∀ (O' : Nat → Prop) (W3 W4 : World), Grow O O' (w1.putObj l (.loop { r with state := .busy })) W3 → W3.heap.size ≤ W4.heap.size → Grow O O' W W4 ∧ ¬ O' l := fun O' W3 W4 hg hs =>
        ⟨⟨hg.1, fun k hk => (hg.2 k hk).imp id (fun e => ⟨by omega, by omega⟩)⟩, fun hk => (hg.2 l hk).elim hlO (fun e => by omega)⟩
      rintro e a3 W3 hq3
      cases e with
      | normal =>
        obtain ⟨O', hg, hK3, hi3⟩ := hq3
        obtain ⟨f1, f2, f3, f4⟩ := fin none W3 hK3
        obtain ⟨g1, g2⟩ := grow O' W3 _ hg f4.size
        exact ⟨_, _, f1, .inl ⟨rfl, O', g1, ⟨⟨hI _ _ _ _ hi3 (f4.mono (fun k _ e => ⟨by omega, by subst e; exact g2⟩)), Nat.le_trans h0 f3.size⟩, f2.trans (by cases r; simp_all), keepD _ f3⟩, f3⟩⟩
      | ret =>
        obtain ⟨O', hg, hK3, hi3⟩ := hq3
        obtain ⟨f1, f2, f3, f4⟩ := fin (some .ret) W3 hK3
        obtain ⟨g1, g2⟩ := grow O' W3 _ hg f4.size
        exact ⟨_, _, f1, .inr ⟨rfl, O', g1, ⟨⟨.ret, ⟨hIx _ _ _ _ _ hi3 (f4.mono (fun k _ e => ⟨by omega, by subst e; exact g2⟩)), Nat.le_trans h0 f3.size⟩, f2⟩, keepD _ f3⟩, f3⟩⟩
      | exit id =>
        obtain ⟨O', hg, hK3, hi3⟩ := hq3
        obtain ⟨f1, f2, f3, f4⟩ := fin (some (.exit id)) W3 hK3
        obtain ⟨g1, g2⟩ := grow O' W3 _ hg f4.size
        exact ⟨_, _, f1, .inr ⟨rfl, O', g1, ⟨⟨.exit id, ⟨hIx _ _ _ _ _ hi3 (f4.mono (fun k _ e => ⟨by omega, by subst e; exact g2⟩)), Nat.le_trans h0 f3.size⟩, f2⟩, keepD _ f3⟩, f3⟩⟩
      | goto t =>
        obtain ⟨O', hg, hK3, hi3⟩ := hq3
        obtain ⟨f1, f2, f3, f4⟩ := fin (some (.goto t)) W3 hK3
        obtain ⟨g1, g2⟩ := grow O' W3 _ hg f4.size
        exact ⟨_, _, f1, .inr ⟨rfl, O', g1, ⟨⟨.goto t, ⟨hIx _ _ _ _ _ hi3 (f4.mono (fun k _ e => ⟨by omega, by subst e; exact g2⟩)), Nat.le_trans h0 f3.size⟩, f2⟩, keepD _ f3⟩, f3⟩⟩
      | panic ch => exact hq3.elim
      | outgrown => exact hq3.elim
    | ret => exact hq.elim
    | exit id => exact hq.elim
    | goto t => exact hq.elim
    | panic ch => exact hq.elim
    | outgrown => exact hq.elim
  · rintro e W2 ⟨hv, O, hO, (⟨⟨h1, _⟩, h2, h3⟩ | ⟨pre, x, post, hx, ⟨c, ⟨h1, _⟩, h2⟩, h3⟩)⟩
    · exact ⟨hv, O, hO, .inl ⟨h1, h2, h3⟩⟩
    · exact ⟨hv, O, hO, .inr ⟨pre, x, post, c, hx, h1, h2, h3⟩⟩

theorem wpIn_rangeO {α : Type} {P : Program} {n : Nat} {g : Operand} {ps : Array Tmp} {assign body : Code} {Q : Exit → Act → World → Prop} {a : Act} {w : World} {gf : Nat} {lb : Array Value} (hg : a.eval g = .func (.func gf) #[] lb) (eg : ∀ args w, (callFunc gf args).run P w = .ok (.enter gf args) w)
    {encs : α → Array Value} {xs : List α} {Need : Nat → Prop} (hseq : SeqO P gf lb encs xs Need w) (hNeed : ∀ k, Need k → k < w.heap.size) (hps : ∀ x, (encs x).size = ps.size)
    (Mut : Nat → Prop) (hMut : ∀ k, Mut k → k < w.heap.size ∧ ¬ Need k)
    (I : List α → (Nat → Prop) → World → Prop) (Ix : Code → List α → (Nat → Prop) → World → Prop) (hI : ∀ pre, AbO w.heap.size (I pre)) (hIx : ∀ c pre, AbO w.heap.size (Ix c pre)) (h0 : I [] (fun _ => False) w)
    (hround : ∀ l pre x post W O, xs = pre ++ x :: post → w.heap.size ≤ l → l < W.heap.size → (∃ r, W.heap[l]? = some (.loop r)) → (∀ k, O k → w.heap.size ≤ k ∧ l < k ∧ k < W.heap.size) → I pre O W → RoundO P l assign body ((ps.zip (encs x)).foldl (fun t (p, v) => t.setIfInBounds p v) a.tmps) Mut I Ix O pre x W)
    (hdone : ∀ (D : Nat) (W : World) (O : Nat → Prop), w.heap.size ≤ D → D < W.heap.size → ¬ O D → (∀ k, O k → w.heap.size ≤ k ∧ k < W.heap.size) → I xs O W → W.heap[D]? = some (.deferred (some [])) → Q .normal { a with defers := { target := .collected D, args := #[] } :: a.defers } W)
    (hstop : ∀ (D : Nat) (c : Code) (pre : List α) (x : α) (post : List α) (W : World) (O : Nat → Prop), w.heap.size ≤ D → D < W.heap.size → ¬ O D → (∀ k, O k → w.heap.size ≤ k ∧ k < W.heap.size) → xs = pre ++ x :: post → Ix c (pre ++ [x]) O W → W.heap[D]? = some (.deferred (some [])) →
      c.wpIn Fence.wide n P Q { a with defers := { target := .collected D, args := #[] } :: a.defers } W) :
    (Code.rangeFunc g ps assign body).wpIn Fence.wide n P Q a w := by
  refine wpIn_rangeFunc ?_
  intro fn hfn
  obtain ⟨r, hr⟩ : ∃ r : Loop, r = { state := .ready, pending := none, fn, tmps := a.tmps, params := ps, assign, body, defers := w.heap.size } := ⟨_, rfl⟩
  obtain ⟨W1, hW1⟩ : ∃ W1, (w.alloc (.deferred (some []))).alloc (.loop r) = W1 := ⟨_, rfl⟩
  have hL1 : W1.heap[w.heap.size + 1]? = some (.loop r) := by
    rw [← hW1]; have := World.alloc_heap_new (w.alloc (.deferred (some []))) (.loop r); rwa [World.size_alloc] at this
  have hK1 : W1.heap[w.heap.size]? = some (.deferred (some [])) := by
    rw [← hW1]; exact (Below.heap_alloc _ _ _ (by simp)).trans (World.alloc_heap_new w _)
  have hsz : W1.heap.size = w.heap.size + 2 := by rw [← hW1]; simp
  have hb1 : Keeps (fun _ => False) w W1 := by
    rw [← hW1]; exact Keeps.of_new (((Below.refl _ w).alloc (Nat.le_refl _) _).alloc (by simp) _)
  have hI1 : I [] (fun _ => False) W1 := hI [] _ _ _ h0 hb1.none
  refine ⟨w.heap.size + 1, [{ target := .collected w.heap.size, args := #[] }], W1, { target := .fn (.func gf) lb, args := #[.func (.yield (w.heap.size + 1)) #[] #[]] }, W1, gf,
    #[.func (.yield (w.heap.size + 1)) #[] #[]] ++ lb, W1, ?_, ?_, ?_, ?_, fun h => by simp [Fence.wide] at h, ?_⟩
  · rw [← hW1, hr]; exact run_enterLoop_outer _ _ _ _ _
  · simp only [resolve, hg]
    simp [go_sem]
  · intro _ _; trivial
  · simp [invoke, go_sem, eg]
  · refine (callsIn_wide.2 (range_midO hseq hMut hNeed I Ix hI hIx hI1 (w.heap.size + 1) r (by rw [hr]) (by rw [hr]) hL1 (by omega) hb1 (by rw [hr]; exact hps) (by
      intro pre x post W O hx hl hrl hO hi
      rw [hr]
      exact hround _ pre x post W O hx (by omega) hl hrl (fun k hk => by have := hO k hk; omega) hi))).mono ?_
    rintro e W2 ⟨⟨v, rfl⟩, O, hO, (⟨h1, h2, h3⟩ | ⟨pre, x, post, c, hx, h1, h2, h3⟩)⟩
    · have hlt := (Array.getElem?_eq_some_iff.1 h2).1
      have he := run_endLoop (P := P) h2 (by rw [hr]; simp)
      rw [show r.pending = none by rw [hr]] at he
      refine ⟨none, _, he, hdone w.heap.size _ O (Nat.le_refl _) (by simp [World.putObj]; omega) (fun e => by have := (hO _ e).1; omega) (fun k hk => by have := hO k hk; simp [World.putObj]; omega) (hI _ _ _ _ h1 (Keeps.putObj _ _ _ ⟨by omega, fun e => by have := (hO _ e).1; omega⟩)) ?_⟩
      exact (World.putObj_heap_other (by omega)).trans ((h3 _ (Nat.le_refl _) (by omega) (by omega)).trans hK1)
    · have hlt := (Array.getElem?_eq_some_iff.1 h2).1
      refine ⟨some c, _, run_endLoop h2 (by simp), hstop w.heap.size c pre x post _ O (Nat.le_refl _) (by simp [World.putObj]; omega) (fun e => by have := (hO _ e).1; omega) (fun k hk => by have := hO k hk; simp [World.putObj]; omega) hx (hIx _ _ _ _ _ h1 (Keeps.putObj _ _ _ ⟨by omega, fun e => by have := (hO _ e).1; omega⟩)) ?_⟩
      exact (World.putObj_heap_other (by omega)).trans ((h3 _ (Nat.le_refl _) (by omega) (by omega)).trans hK1)

end Go.Proofs.Ytigohccehllmnaa

namespace Go.Proofs.Ytigohccehllmnaa
set_option linter.unusedSimpArgs false
set_option linter.unusedVariables false
open Go.RowKit Go.Shelf
end Go.Proofs.Ytigohccehllmnaa
