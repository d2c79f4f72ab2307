/- A frame that leaves with marks of several ranges over functions; what one range keeps; the iterator's contract as the range asks it. -/
import Derived.Test.YtiankphkemakeaaCame
namespace Go.Proofs.Ytiankphkemakeaa
set_option linter.unusedSimpArgs false
set_option linter.unusedVariables false
open Go.RowKit Go.Shelf

/-- The marks that ranges have left in a frame, the last one first. -/
def marks (Ds : List Nat) : List Deferred := Ds.map fun D => { target := .collected D, args := #[] }
/-- Each mark's block is there, and open; no block stands twice. -/
def MarksOk (w : World) (lo : Nat) (Ds : List Nat) : Prop := Ds.Nodup ∧ ∀ D ∈ Ds, lo ≤ D ∧ w.heap[D]? = some (.deferred (some []))

theorem leaves_marks {F : Fence} {n : Nat} {P : Program} {fn : Func} {tmps : Array Value} {R : Ending → World → Prop} (lo : Nat) : ∀ (Ds : List Nat) (w : World), MarksOk w lo Ds →
    (∀ w', w'.os = w.os → w'.tape = w.tape → w'.output = w.output → w'.heap.size = w.heap.size → (∀ k, k ∉ Ds → w'.heap[k]? = w.heap[k]?) → ∃ v, (results fn tmps).run P w' = .ok v w' ∧ R (.returned v) w') →
    LeavesInM F n P fn tmps R (marks Ds) .returning w
  | [], w, _, h => h w rfl rfl rfl rfl (fun _ _ => rfl)
  | D :: Ds, w, hm, h => by
    obtain ⟨hnd, hD⟩ := hm
    obtain ⟨hn1, hn2⟩ := List.nodup_cons.1 hnd
    refine ⟨by simp, .inl ⟨D, _, rfl, run_takeDeferred (hD D (by simp)).2, ?_⟩⟩
    refine leaves_marks lo Ds _ ⟨hn2, fun E hE => ?_⟩ ?_
    · have hne : E ≠ D := fun e => hn1 (e ▸ hE)
      exact ⟨(hD E (by simp [hE])).1, (World.putObj_heap_other hne).trans (hD E (by simp [hE])).2⟩
    · intro w' h1 h2 h3 h4 h5
      refine h w' h1 h2 h3 (by rw [h4]; simp) (fun k hk => ?_)
      simp only [List.mem_cons, not_or] at hk
      rw [h5 k hk.2]
      exact World.putObj_heap_other hk.1

/-- Since the world A nothing below its size has turned, but for the blocks G and M. -/
structure But (G M : Nat) (A W : World) : Prop where
  os : W.os = A.os
  tape : W.tape = A.tape
  output : W.output = A.output
  size : A.heap.size ≤ W.heap.size
  block : ∀ k, k < A.heap.size → k ≠ G → k ≠ M → W.heap[k]? = A.heap[k]?
theorem But.refl (G M : Nat) (A : World) : But G M A A := ⟨rfl, rfl, rfl, Nat.le_refl _, fun _ _ _ _ => rfl⟩
theorem But.grown {G M : Nat} {A W W' : World} {row : Option Nat} (h : But G M A W) (hg : W.grownBy W' row) (hr : ∀ r, row = some r → r = G ∨ r = M ∨ A.heap.size ≤ r) : But G M A W' :=
  ⟨hg.os.trans h.os, hg.tape.trans h.tape, hg.output.trans h.output, Nat.le_trans h.size hg.size, fun k hk h1 h2 => (hg.block k (Nat.lt_of_lt_of_le hk h.size) (fun e => by
    rcases hr k e.symm with h3 | h3 | h3
    · exact h1 h3
    · exact h2 h3
    · omega)).trans (h.block k hk h1 h2)⟩
theorem But.below {G M : Nat} {A W W' : World} (h : But G M A W) (hb : Below W.heap.size W W') : But G M A W' := h.grown (grown_of_below hb) (fun r e => by cases e)

theorem grown_setCell (W : World) (b i : Nat) (v : Value) : W.grownBy (W.setCell ⟨b, i, none⟩ v) (some b) :=
  ⟨rfl, rfl, rfl, by simp [World.setCell], fun k _ hk => Below.heap_setCell _ _ _ k (fun e => hk (by rw [e]))⟩

/-- What a view is: ahead, or the closure in ends over a Bool that lies in a block. -/
def IsView (w : World) (g : Nat) (lb : Array Value) (high : Bool) (H : Nat) : Prop :=
  (g = 65 ∧ lb = #[] ∧ high = true) ∨ (g = 74 ∧ lb = #[.pointer (some ⟨H, 0, none⟩)] ∧ w.cell? ⟨H, 0, none⟩ = some (.bool high))
/-- The blocks that the iterator reads. -/
def Reads4 (Bs Bv : Nat) (lb : Array Value) (H : Nat) (A' : Option Addr) (k : Nat) : Prop := k = Bs ∨ k = Bv ∨ (lb ≠ #[] ∧ k = H) ∨ ∃ o, A' = some ⟨k, o, none⟩

theorem stops_view (Bs Bv g H : Nat) (lb : Array Value) (high : Bool) (T : Int) (A A' : Option Addr) (n cap N cap' : Nat) (ws : List R) (hN : N ≤ 1000000) (hfit : ∀ r ∈ ws, FitR r) (w : World)
    (hv : IsView w g lb high H) (hbox : Box79 w Bs T A n cap A' N cap') (hbv : w.cell? ⟨Bv, 0, none⟩ = some (.func (.func g) #[] lb)) (hr : Rules w A' N ws) (hN0 : N = 0 → ∀ b o, A' = some ⟨b, o, none⟩ → b < w.heap.size) :
    SeqStopsK Fence.wide 4 Try.prog 76 #[.pointer (some ⟨Bs, 0, none⟩), .pointer (some ⟨Bv, 0, none⟩)] encI (KeepB (Reads4 Bs Bv lb H A')) (fun ys => ys = items high ws N) (fun pre => ∃ k, k ≤ N ∧ pre = items high ws k) N w := by
  intro l J Jx W hW hJ _ hY h0
  have hlt : ∀ k, Reads4 Bs Bv lb H A' k → k < w.heap.size := by
    intro k hk
    rcases hk with rfl | rfl | ⟨hl, rfl⟩ | ⟨o, ho⟩
    · exact lt_of_cell hbox.1
    · exact lt_of_cell hbv
    · rcases hv with ⟨_, h2, _⟩ | ⟨_, _, h3⟩
      · exact absurd h2 hl
      · exact lt_of_cell h3
    · rcases Nat.eq_zero_or_pos N with h1 | h1
      · exact hN0 h1 _ _ ho
      · obtain ⟨b, o', e, hc⟩ := hr.2 h1
        rw [ho] at e
        cases e
        exact lt_of_cell (hc 0 h1).1
  have hS : ∀ k, Reads4 Bs Bv lb H A' k → k < W.heap.size := fun k hk => Nat.lt_of_lt_of_le (hlt k hk) hW.size
  have hbox' : Box79 W Bs T A n cap A' N cap' := hbox.below hW (lt_of_cell hbox.1)
  have hbv' := ((bcell hW).1 Bv 0 (lt_of_cell hbv)).trans hbv
  have hr' := hr.below hW (Nat.le_refl _)
  rcases hv with ⟨rfl, rfl, rfl⟩ | ⟨rfl, rfl, h3⟩
  · exact each76_ahead 4 l Bs Bv T A A' n cap N cap' ws hN hfit J Jx (Reads4 Bs Bv #[] H A') hY W hJ (.inl rfl) (.inr (.inl rfl)) hS hbox' hbv' hr' (fun b o e => .inr (.inr (.inr ⟨o, e⟩))) h0
  · exact each76_ends 4 l Bs Bv H high T A A' n cap N cap' ws hN hfit J Jx (Reads4 Bs Bv _ H A') hY W hJ (.inl rfl) (.inr (.inl rfl)) hS hbox' hbv' (.inr (.inr (.inl ⟨by simp, rfl⟩))) (((bcell hW).1 H 0 (lt_of_cell h3)).trans h3) hr' (fun b o e => .inr (.inr (.inr ⟨o, e⟩))) h0
end Go.Proofs.Ytiankphkemakeaa
