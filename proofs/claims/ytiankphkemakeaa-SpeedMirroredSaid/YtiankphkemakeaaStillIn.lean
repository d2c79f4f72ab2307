/- A region that draws its order inside a round over a function: reads first, one write last. -/
import Derived.StillTailTactics
import Derived.OrdersIn
import Derived.TacticsIn
import Derived.Test.YtiankphkemakeaaSprInv
namespace Go.Proofs.Ytiankphkemakeaa
set_option linter.unusedSimpArgs false
set_option linter.unusedVariables false
open Go.RowKit Go.Shelf

section
variable {P : Program} {ops : Array Oper} {w : World} {n : Nat}

/-- A fence that fences nothing. -/
def OpenF (F : Fence) : Prop := (∀ f, F.fn f) ∧ F.depth = none ∧ ∀ (f : FuncId) (args : Array Value) (w : World) (R : Ending → World → Prop), Calls P f args w R → CallsIn F (n - 1) P f args w R

theorem openF_round (l : Nat) : OpenF (P := P) (n := n) (Fence.wide.inRound l) :=
  ⟨fun _ => trivial, rfl, fun _ _ _ _ h => CallsIn.inRound l (callsIn_wide.2 h)⟩

theorem opIn_of_still {F : Fence} (hF : OpenF (P := P) (n := n) F) {o : Oper} (hd : ∀ c, o.op ≠ .defer c) {a : Act} {K : Act → Prop} {K' : Act → World → Prop} {Q : Exit → Act → World → Prop} (h : ∀ a, K a → K' a w) (hh : o.still P a w K) : o.wpIn F n P a w K' Q := by
  refine ⟨fun f _ => hF.1 f, ?_⟩
  rw [Oper.semAt_eq _ _ _ hd]
  unfold Oper.still at hh
  revert hh
  cases (execOp a.eval o).run P w with
  | halt x w' => intro hh; simp only [Oper.stillUpon] at hh
  | ok x w' =>
    cases x <;> intro hh <;> simp only [Oper.stillUpon] at hh
    case value u => obtain ⟨rfl, h2⟩ := hh; exact h _ h2
    case skip => obtain ⟨rfl, h2⟩ := hh; exact h _ h2
    case enter f args =>
      obtain ⟨rfl, v, hc, h2⟩ := hh
      refine ⟨fun hs => (by rw [hF.2.1] at hs; cases hs), ?_⟩
      refine (hF.2.2 f args _ _ hc).mono ?_
      rintro e w'' ⟨rfl, rfl⟩
      exact h _ h2
    all_goals exact hh.elim

theorem wpOpIn_of_st {F : Fence} (hF : OpenF (P := P) (n := n) F) (hd : ∀ (i : Nat) (o : Oper) c, ops[i]? = some o → o.op ≠ .defer c) {i : Nat} {a : Act} {K : Act → Prop} {K' : Act → World → Prop} {Q : Exit → Act → World → Prop} (h : ∀ a, K a → K' a w) (hh : stOp P ops w i K a) : wpOpIn F n P ops Q i K' a w := by
  unfold stOp at hh
  unfold wpOpIn
  cases ho : ops[i]? with
  | none => simp only [ho] at hh ⊢; exact h _ hh
  | some o =>
    simp only [ho] at hh ⊢
    by_cases hw : Region.wanted o (yielded ops a.tmps) = true
    · rw [if_pos hw] at hh ⊢
      exact opIn_of_still hF (fun c => hd i o c ho) h hh
    · rw [if_neg hw] at hh ⊢
      exact ⟨fun f _ => hF.1 f, h _ hh⟩

theorem anyIn_head {F : Fence} (hF : OpenF (P := P) (n := n) F) (hd : ∀ (i : Nat) (o : Oper) c, ops[i]? = some o → o.op ≠ .defer c) {m g : Nat} {L : Array Bool → Act → Prop} {Q : Exit → Act → World → Prop}
    (hL : ∀ listed a, L listed a → wpAnyIn F n P .any ops Q g listed a w) : ∀ (f : Nat) (listed : Array Bool) (a : Act), wpAnyL P .any ops w m L f listed a → wpAnyIn F n P .any ops Q (f + g) listed a w := by
  intro f
  induction f with
  | zero => intro listed a h; rw [Nat.zero_add]; exact hL _ _ h
  | succ f ih =>
    intro listed a h
    rw [show f + 1 + g = (f + g) + 1 by omega]
    exact ⟨fun h0 => absurd h0 h.1, fun i hi => wpOpIn_of_st hF hd (fun a' h' => ih _ a' h') (h.2 i hi).2⟩

theorem anyIn_seq {F : Fence} {Q : Exit → Act → World → Prop} : ∀ (l : List Oper) (k : Nat) (listed : Array Bool) (a : Act) (w : World), (∀ j, l[j]? = ops[k + j]?) →
    Region.seqB .any ops l.length k listed = true → wpListIn F n P ops Q l a w → wpAnyIn F n P .any ops Q l.length listed a w := by
  intro l
  induction l with
  | nil => intro k listed a w _ hB h; exact ⟨by simpa [Region.seqB] using hB, h⟩
  | cons o l ih =>
    intro k listed a w hl hB h
    have h0 : ops[k]? = some o := by have := hl 0; simpa using this.symm
    simp only [List.length_cons, Region.seqB, Bool.and_eq_true, decide_eq_true_eq] at hB
    refine ⟨fun h1 => (by rw [hB.1] at h1; cases h1), fun i hi => ?_⟩
    obtain rfl : i = k := by rw [hB.1] at hi; simpa using hi
    refine wpOpIn_mono (K := wpListIn F n P ops Q l) (fun a' w' h' => ih (i + 1) _ a' w' (fun j => ?_) hB.2 h') ?_
    · have := hl (j + 1)
      simpa [Nat.add_assoc, Nat.add_comm 1 j] using this
    · unfold wpOpIn
      simp only [h0]
      exact h

/-- The law for reads first and one write last, in whatever fence that fences nothing. -/
theorem region_still_tail_in {F : Fence} (hF : OpenF (P := P) (n := n) F) {id : Nat} {Q : Exit → Act → World → Prop} {a : Act} {l : List Oper} (k : Nat) (hm : P.follows .mixedOrders = true) (hB : Region.lexTailB .any l.toArray k = true)
    (hd : l.all (fun o => match o.op with | .defer _ => false | _ => true) = true)
    (h : wpStill P l.toArray w.drew (fun a' => wpListIn F n P l.toArray Q (l.drop k) a' w.drew) (l.take k) a) : (Code.region id l.toArray true).wpIn F n P Q a w := by
  have hd' : ∀ (i : Nat) (o : Oper) c, l.toArray[i]? = some o → o.op ≠ .defer c := by
    intro i o c ho e
    have hmem : o ∈ l := List.mem_of_getElem? (by simpa using ho)
    have := List.all_eq_true.1 hd o hmem
    rw [e] at this
    cases this
  unfold Region.lexTailB at hB
  simp only [Bool.and_eq_true, decide_eq_true_eq] at hB
  obtain ⟨⟨⟨⟨hsel, hk⟩, hs⟩, hc⟩, hlex⟩ := hB
  have hk' : k < l.length := by simpa using hk
  have e1 : (l.take k).length = k := by rw [List.length_take]; omega
  have e2 : (l.drop k).length = l.toArray.size - k := by simp
  have inv : HeadInv .any l.toArray k (Array.replicate l.toArray.size false) := by
    refine ⟨by simp, fun j oj _ hl => ?_, fun t _ ht => getD_in (by simpa using ht) (getD_replicate_false _ _)⟩
    rw [getD_replicate_false] at hl
    cases hl
  have H := wpAnyL_lex (P := P) (md := .any) (g := l.toArray.size - k) hsel hs hc hk (l.take k) 0 _ a (fun j hj => by rw [e1] at hj; simp [hj]) (by omega) inv (by rw [e1]; exact hlex) h
  have H2 := anyIn_head (Q := Q) (g := l.toArray.size - k) hF hd' (fun listed a' hL => by
    have := anyIn_seq (F := F) (n := n) (P := P) (Q := Q) (l.drop k) k listed a' _ (fun j => by simp [List.getElem?_drop]) (by rw [e2]; exact hL.1) hL.2
    rwa [e2] at this) _ _ _ H
  rw [e1, show k + (l.toArray.size - k) = l.toArray.size by omega] at H2
  exact wpIn_region_any hm H2
end
end Go.Proofs.Ytiankphkemakeaa
