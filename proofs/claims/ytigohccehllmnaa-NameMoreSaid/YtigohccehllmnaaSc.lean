/- Stage 6: scopes of labels; regions of which two operations may come up. -/
import Derived.Deep.RegionHeld3
import Derived.Test.YtigohccehllmnaaBase
import Derived.OrdersHeld
import Derived.OrdersIn
import Derived.OwnWalkIn
import Derived.Scope
import Derived.ControlIn
namespace Go.Proofs.Ytigohccehllmnaa.Zed
set_option linter.unusedSimpArgs false
set_option linter.unusedVariables false

section
variable {z : Nat} {P : Program} {ops : Array Oper} {Q : Exit → Act → World → Prop} {md : Region.Mode} {S : World → Prop}
/-- In whatever order operations come up, the condition holds behind each but the last one, z. -/
def anyZ (P : Program) (md : Region.Mode) (ops : Array Oper) (Q : Exit → Act → World → Prop) (S : World → Prop) (z : Nat) : Nat → Array Bool → Act → World → Prop
  | 0, listed, a, w => Region.ready md ops listed = [] ∧ Q .normal a w
  | fuel + 1, listed, a, w => (Region.ready md ops listed = [] → Q .normal a w) ∧
    ∀ i ∈ Region.ready md ops listed, wpOp P ops Q i (fun a' w' => (i ≠ z → S w') ∧ anyZ P md ops Q S z fuel (listed.setIfInBounds i true) a' w') a w
theorem any_of_z : ∀ (fuel : Nat) (listed : Array Bool) (a : Act) (w : World), anyZ P md ops Q S z fuel listed a w → wpAny P md ops Q fuel listed a w
  | 0, _, _, _, h => h
  | fuel + 1, _, _, _, h => ⟨h.1, fun i hi => wpOp_mono (fun a' w' h' => any_of_z fuel _ a' w' h'.2) (h.2 i hi)⟩
theorem region_z {id : Nat} {a : Act} {w : World} (hm : P.follows .mixedOrders = true) (hS : S w.drew) (h : S w.drew → anyZ P .any ops Q S z ops.size (Array.replicate ops.size false) a w.drew) : (Code.region id ops true).wp P Q a w :=
  wp_region_any hm (any_of_z _ _ _ _ (h hS))
/-- The operation z waits for the operation i. -/
def lastB (md : Region.Mode) (ops : Array Oper) (z i : Nat) : Bool := match ops[z]? with
  | none => true
  | some o => o.after.any fun e => Region.binds md e && decide (e.on = i)
theorem anyZ_first {i : Nat} (hiz : i ≠ z) {oi : Oper} {v : Value} (hi : ops[i]? = some oi) (hsel : ∀ (j : Nat) (o : Oper) cs b, ops[j]? = some o → o.op ≠ .select cs b) (hQ : ∀ c a w, Q (.panic c) (a.put oi.dst v) w → Q (.panic c) a w) (hz : lastB md ops z i = true) :
    ∀ (fuel : Nat) (listed : Array Bool) (a : Act) (w : World),
      (∀ j oj, ops[j]? = some oj → j ≠ i → listed.getD j true = false → (∀ e ∈ oj.after, Region.binds md e = true → e.on ≠ i) → oi.apart ops oj = true) →
      i ∈ Region.ready md ops listed → YieldsIf P ops S oi v a → S w →
      anyZ P md ops Q S z fuel (listed.setIfInBounds i true) (a.put oi.dst v) w → anyZ P md ops Q S z (fuel + 1) listed a w
  | 0, listed, a, w, _, hr, hy, hS, H => by
    refine ⟨fun h => (by rw [h] at hr; cases hr), fun j hj => ?_⟩
    by_cases hji : j = i
    · subst hji; exact hy.wpOp hi hS ⟨fun _ => hS, H⟩
    · have := ready_mono hj hji
      rw [H.1] at this
      cases this
  | fuel + 1, listed, a, w, hfree, hr, hy, hS, H => by
    refine ⟨fun h => (by rw [h] at hr; cases hr), fun j hj => ?_⟩
    by_cases hji : j = i
    · subst hji; exact hy.wpOp hi hS ⟨fun _ => hS, H⟩
    · have h1 := H.2 j (ready_mono hj hji)
      obtain ⟨hjun, oj, hoj, hall⟩ := mem_ready.1 hj
      have hnot : ∀ e ∈ oj.after, Region.binds md e = true → e.on ≠ i := fun e he hb heq => by
        have h1 := hall e he hb
        have h0 := (mem_ready.1 hr).1
        rw [heq] at h1
        rcases Nat.lt_or_ge i listed.size with h' | h'
        · simp [h'] at h0 h1; rw [h0] at h1; cases h1
        · simp [Array.getElem?_eq_none h'] at h1
      have hjz : j ≠ z := by
        rintro rfl
        unfold lastB at hz
        rw [hoj] at hz
        simp only [Array.any_eq_true] at hz
        obtain ⟨q, hq, h10⟩ := hz
        simp only [Bool.and_eq_true, decide_eq_true_eq] at h10
        exact hnot _ (Array.getElem_mem hq) h10.1 h10.2
      have h2 := wpOp_putIf hoj (hfree j oj hoj hji hjun hnot) (fun cs b => hsel i oi cs b hi) (fun cs b => hsel j oj cs b hoj) hQ hy h1
      refine wpOp_mono (fun a' w' h3 => ?_) h2
      have hS' : S w' := h3.2.1 hjz
      refine ⟨fun _ => hS', anyZ_first hiz hi hsel hQ hz fuel (listed.setIfInBounds j true) a' w' (fun k ok hk hki hun hno => ?_) (ready_mono hr (Ne.symm hji)) h3.1 hS' ?_⟩
      · refine hfree k ok hk hki ?_ hno
        by_cases hjk : j = k
        · subst hjk; exact hjun
        · rw [getD_set_ne true hjk] at hun; exact hun
      · rw [Array.setIfInBounds_comm _ _ hji]
        exact h3.2.2
theorem anyZ_take {i : Nat} {oi : Oper} {v : Value} {fuel : Nat} {listed : Array Bool} {a : Act} {w : World} (hi : ops[i]? = some oi) (hiz : i ≠ z)
    (hs : Region.noSelect ops = true) (hz : lastB md ops z i = true) (hf : Region.free md ops listed i = true) (hr : (Region.ready md ops listed).contains i = true)
    (hQ : ∀ c a w, Q (.panic c) (a.put oi.dst v) w → Q (.panic c) a w) (hy : YieldsIf P ops S oi v a) (hS : S w)
    (h : anyZ P md ops Q S z fuel (listed.setIfInBounds i true) (a.put oi.dst v) w) : anyZ P md ops Q S z (fuel + 1) listed a w :=
  anyZ_first hiz hi (Region.noSelect_spec hs) hQ hz fuel listed a w (Region.free_spec hi hf) (by simpa using hr) hy hS h
/-- Each of some operations comes up next. -/
def AllZ (P : Program) (md : Region.Mode) (ops : Array Oper) (Q : Exit → Act → World → Prop) (S : World → Prop) (z fuel : Nat) (listed : Array Bool) (a : Act) (w : World) (rs : List Nat) : Prop :=
  ∀ i ∈ rs, wpOp P ops Q i (fun a' w' => (i ≠ z → S w') ∧ anyZ P md ops Q S z fuel (listed.setIfInBounds i true) a' w') a w
theorem AllZ.nil {fuel : Nat} {listed : Array Bool} {a : Act} {w : World} : AllZ P md ops Q S z fuel listed a w [] := fun _ h => by cases h
theorem AllZ.cons {fuel : Nat} {listed : Array Bool} {a : Act} {w : World} {i : Nat} {o : Oper} {rs : List Nat} (ho : ops[i]? = some o)
    (h : ∀ K' : Act → World → Prop, Shut (∀ a w, (i ≠ z → S w) → ((i ≠ z → S w) → anyZ P md ops Q S z fuel (listed.setIfInBounds i true) a w) → K' a w) → if Region.wanted o (yielded ops a.tmps) = true then Oper.wp P o a w K' Q else K' (a.put o.dst undef) w)
    (hs : AllZ P md ops Q S z fuel listed a w rs) : AllZ P md ops Q S z fuel listed a w (i :: rs) := fun j hj => by
  rcases List.mem_cons.1 hj with rfl | hj
  · exact wpOp_step ho (fun K' hK => h K' (fun a w hS hW => hK a w ⟨hS, hW hS⟩))
  · exact hs j hj
theorem anyZ_ready {rs : List Nat} {fuel : Nat} {listed : Array Bool} {a : Act} {w : World} (hr : Region.ready md ops listed = rs) (hne : rs ≠ []) (h : AllZ P md ops Q S z fuel listed a w rs) : anyZ P md ops Q S z (fuel + 1) listed a w :=
  ⟨fun h0 => absurd (hr ▸ h0) hne, hr ▸ h⟩
theorem anyZ_done {listed : Array Bool} {a : Act} {w : World} (hr : Region.ready md ops listed = []) (h : Q .normal a w) : ∀ fuel, anyZ P md ops Q S z fuel listed a w
  | 0 => ⟨hr, h⟩
  | _ + 1 => ⟨fun _ => h, by rw [hr]; simp⟩
end
end Go.Proofs.Ytigohccehllmnaa.Zed

namespace Go.Proofs.Ytigohccehllmnaa.Out
set_option linter.unusedSimpArgs false
set_option linter.unusedVariables false
open Go.RowKit

section
variable {n z : Nat} {P : Program} {ops : Array Oper} {Q : Exit → Act → World → Prop} {md : Region.Mode} {S : World → Prop}

/-- Operation number i of a region, in a round. -/
def opR (n : Nat) (P : Program) (ops : Array Oper) (Q : Exit → Act → World → Prop) (i : Nat) (K : Act → World → Prop) (a : Act) (w : World) : Prop := wpOpIn Fence.wide n P ops Q i K a w
/-- In whatever order they come up, the condition holds behind each that comes before the last one, z. -/
def anyR (n : Nat) (P : Program) (md : Region.Mode) (ops : Array Oper) (Q : Exit → Act → World → Prop) (S : World → Prop) (z : Nat) : Nat → Array Bool → Act → World → Prop
  | 0, listed, a, w => Region.ready md ops listed = [] ∧ Q .normal a w
  | fuel + 1, listed, a, w => (Region.ready md ops listed = [] → Q .normal a w) ∧
    ∀ i ∈ Region.ready md ops listed, opR n P ops Q i (fun a' w' => (i ≠ z → listed.getD z false = false → S w') ∧ anyR n P md ops Q S z fuel (listed.setIfInBounds i true) a' w') a w
theorem anyIn_of_anyR : ∀ (fuel : Nat) (listed : Array Bool) (a : Act) (w : World), anyR n P md ops Q S z fuel listed a w → wpAnyIn Fence.wide n P md ops Q fuel listed a w
  | 0, _, _, _, h => h
  | fuel + 1, _, _, _, h => ⟨h.1, fun i hi => wpOpIn_mono (fun a' w' h' => anyIn_of_anyR fuel _ a' w' h'.2) (h.2 i hi)⟩
theorem region_R {id : Nat} {a : Act} {w : World} (hm : P.follows .mixedOrders = true) (h : anyR n P .any ops Q S z ops.size (Array.replicate ops.size false) a w.drew) : (Code.region id ops true).wpIn Fence.wide n P Q a w :=
  wpIn_region_any hm (anyIn_of_anyR _ _ _ _ h)

/-- No operation is a defer statement or a select statement. -/
def tame (ops : Array Oper) : Bool := ops.all fun o => match o.op with | .defer _ => false | .select _ _ => false | _ => true
theorem tame_at (h : tame ops = true) {j : Nat} {o : Oper} (hj : ops[j]? = some o) : (∀ c, o.op ≠ .defer c) ∧ (∀ cs b, o.op ≠ .select cs b) := by
  have h1 := Array.all_eq_true_iff_forall_mem.1 h o (Array.mem_of_getElem? hj)
  constructor
  · intro c e; rw [e] at h1; cases h1
  · intro cs b e; rw [e] at h1; cases h1
theorem wpIn_R {o : Oper} {a : Act} {w : World} {K : Act → World → Prop} (hd : ∀ c, o.op ≠ .defer c) : o.wpIn Fence.wide n P a w K Q ↔ o.uponIn Fence.wide n P a K Q ((execOp a.eval o).run P w) := by
  unfold Oper.wpIn
  rw [show Fence.wide.round = none from rfl]
  exact ⟨fun h => h.2, fun h => ⟨fun _ _ => trivial, h⟩⟩

theorem yields_opR (ht : tame ops = true) {i : Nat} {o : Oper} {v : Value} {a : Act} (hi : ops[i]? = some o) (hy : YieldsIf P ops S o v a) {K : Act → World → Prop} {w : World} (hS : S w) (h : K (a.put o.dst v) w) : opR n P ops Q i K a w := by
  unfold opR wpOpIn
  simp only [hi]
  rcases hy with ⟨hw, hv⟩ | ⟨hw, rfl⟩
  · simp only [hw, if_true]
    exact (wpIn_R (tame_at ht hi).1).2 (by rw [hv w hS]; exact h)
  · simp only [hw, Bool.false_eq_true, if_false]
    exact ⟨fun _ _ => trivial, h⟩

/-- The operation z waits for the operation i. -/
def lastB (md : Region.Mode) (ops : Array Oper) (z i : Nat) : Bool := match ops[z]? with
  | none => true
  | some o => o.after.any fun e => Region.binds md e && decide (e.on = i)
theorem opR_put (ht : tame ops = true) {i j : Nat} {oi oj : Oper} {v : Value} (hi : ops[i]? = some oi) (hj : ops[j]? = some oj) (hap : oi.apart ops oj = true)
    (hQ : ∀ c a w, Q (.panic c) (a.put oi.dst v) w → Q (.panic c) a w) {K : Act → World → Prop} {a : Act} {w : World}
    (hy : YieldsIf P ops S oi v a) (h : opR n P ops Q j K (a.put oi.dst v) w) :
    opR n P ops Q j (fun a' w' => YieldsIf P ops S oi v a' ∧ K (a'.put oi.dst v) w') a w := by
  obtain ⟨h1, h2, h3⟩ := Oper.apart_spec hap
  have hsi := (tame_at ht hi).2
  have hsj := (tame_at ht hj).2
  have hdj := (tame_at ht hj).1
  have stay : ∀ (a : Act), YieldsIf P ops S oi v a → ∀ u, YieldsIf P ops S oi v (a.put oj.dst u) := fun a hy u => hy.of_same (execOp_put oi hsi a oj.dst u h3) (wanted_put oi a oj.dst u h3)
  unfold opR wpOpIn at *
  simp only [hj] at *
  rw [wanted_put oj a oi.dst v h1] at h
  split
  · rename_i hw
    simp only [hw, if_true] at h
    rw [wpIn_R hdj] at h ⊢
    rw [execOp_put oj hsj a oi.dst v h1] at h
    generalize hr : (execOp a.eval oj).run P w = r at *
    cases r with
    | ok x w' =>
      cases x with
      | value u =>
        have h : K ((a.put oi.dst v).put oj.dst u) w' := h
        exact ⟨stay a hy u, by rw [← Act.put_comm a v u h2]; exact h⟩
      | skip =>
        have h : K ((a.put oi.dst v).put oj.dst undef) w' := h
        exact ⟨stay a hy _, by rw [← Act.put_comm a v undef h2]; exact h⟩
      | defer d =>
        have h : K ({ (a.put oi.dst v) with defers := d :: (a.put oi.dst v).defers }.put oj.dst undef) w' := h
        refine ⟨hy.of_same (a' := { a with defers := d :: a.defers }.put oj.dst undef) (execOp_put oi hsi { a with defers := d :: a.defers } oj.dst undef h3) (wanted_put oi { a with defers := d :: a.defers } oj.dst undef h3), ?_⟩
        rw [← Act.put_comm _ v undef h2, ← Act.put_defers]
        exact h
      | enter f args =>
        refine ⟨h.1, CallsIn.mono h.2 fun e w'' he => ?_⟩
        cases e with
        | returned u => exact ⟨stay a hy u, by rw [← Act.put_comm a v u h2]; exact he⟩
        | panicked c => exact hQ _ _ _ he
        | outgrown => exact he
      | row row args => exact ⟨h.1, RowsIn.mono h.2 fun u w'' he => ⟨stay a hy u, by rw [← Act.put_comm a v u h2]; exact he⟩⟩
      | round l f tmps assign body =>
        refine ⟨h.1, RoundIn.mono h.2 fun e w'' he => ?_⟩
        cases e with
        | returned u => exact ⟨stay a hy u, by rw [← Act.put_comm a v u h2]; exact he⟩
        | panicked c => exact hQ _ _ _ he
        | outgrown => exact he
      | _ => exact h.elim
    | halt x w' =>
      cases x with
      | panic u => exact hQ _ _ _ h
      | _ => exact h.elim
  · rename_i hw
    simp only [hw] at h
    exact ⟨fun _ _ => trivial, stay a hy _, by rw [← Act.put_comm a v undef h2]; exact h.2⟩

theorem getD_set_z {listed : Array Bool} {j z : Nat} (h : j ≠ z) : (listed.setIfInBounds j true).getD z false = listed.getD z false := by
  simp only [Array.getD_eq_getD_getElem?, Array.getElem?_setIfInBounds_ne h]
/-- Number i may be taken first. -/
theorem anyR_first (ht : tame ops = true) {i : Nat} (hiz : i ≠ z) {oi : Oper} {v : Value} {S' : World → Prop} (hSS : ∀ w, S w → S' w) (hi : ops[i]? = some oi) (hQ : ∀ c a w, Q (.panic c) (a.put oi.dst v) w → Q (.panic c) a w) :
    ∀ (fuel : Nat) (listed : Array Bool) (a : Act) (w : World), ((∀ w, S' w) ∨ lastB md ops z i = true ∧ listed.getD z false = false) →
      (∀ j oj, ops[j]? = some oj → j ≠ i → listed.getD j true = false → (∀ e ∈ oj.after, Region.binds md e = true → e.on ≠ i) → oi.apart ops oj = true) →
      i ∈ Region.ready md ops listed → YieldsIf P ops S' oi v a → S' w → (i ≠ z → listed.getD z false = false → S w) →
      anyR n P md ops Q S z fuel (listed.setIfInBounds i true) (a.put oi.dst v) w → anyR n P md ops Q S z (fuel + 1) listed a w
  | 0, listed, a, w, _, _, hr, hy, hS, hS2, H => by
    refine ⟨fun h => (by rw [h] at hr; cases hr), fun j hj => ?_⟩
    by_cases hji : j = i
    · subst hji; exact yields_opR ht hi hy hS ⟨hS2, H⟩
    · have := ready_mono hj hji
      rw [H.1] at this
      cases this
  | fuel + 1, listed, a, w, hz, hfree, hr, hy, hS, hS2, H => by
    refine ⟨fun h => (by rw [h] at hr; cases hr), fun j hj => ?_⟩
    by_cases hji : j = i
    · subst hji; exact yields_opR ht hi hy hS ⟨hS2, H⟩
    · have h1 := H.2 j (ready_mono hj hji)
      obtain ⟨hjun, oj, hoj, hall⟩ := mem_ready.1 hj
      have hnot : ∀ e ∈ oj.after, Region.binds md e = true → e.on ≠ i := fun e he hb heq => by
        have h1 := hall e he hb
        have h0 := (mem_ready.1 hr).1
        rw [heq] at h1
        rcases Nat.lt_or_ge i listed.size with h' | h'
        · simp [h'] at h0 h1; rw [h0] at h1; cases h1
        · simp [Array.getElem?_eq_none h'] at h1
      have hjz : (∀ w, S' w) ∨ (j ≠ z ∧ listed.getD z false = false) := by
        rcases hz with hz | ⟨hz, hz2⟩
        · exact .inl hz
        · refine .inr ⟨?_, hz2⟩
          rintro rfl
          unfold lastB at hz
          rw [hoj] at hz
          simp only [Array.any_eq_true] at hz
          obtain ⟨q, hq, h10⟩ := hz
          simp only [Bool.and_eq_true, decide_eq_true_eq] at h10
          exact hnot _ (Array.getElem_mem hq) h10.1 h10.2
      have h2 := opR_put ht hi hoj (hfree j oj hoj hji hjun hnot) hQ hy h1
      refine wpOpIn_mono (fun a' w' h3 => ?_) h2
      have hpre : j ≠ z → listed.getD z false = false → S w' := fun e1 e2 => h3.2.1 e1 (by rw [getD_set_z hiz]; exact e2)
      have hS'' : S' w' := by
        rcases hjz with e | ⟨e1, e2⟩
        · exact e w'
        · exact hSS _ (hpre e1 e2)
      refine ⟨hpre, anyR_first ht hiz hSS hi hQ fuel (listed.setIfInBounds j true) a' w' ?_ (fun k ok hk hki hun hno => ?_) (ready_mono hr (Ne.symm hji)) h3.1 hS'' (fun e1 e2 => ?_) ?_⟩
      · rcases hz with hz | ⟨hz, hz2⟩
        · exact .inl hz
        · rcases hjz with e | ⟨e1, e2⟩
          · exact .inl e
          · exact .inr ⟨hz, by rw [getD_set_z e1]; exact e2⟩
      · refine hfree k ok hk hki ?_ hno
        by_cases hjk : j = k
        · subst hjk; exact hjun
        · rw [getD_set_ne true hjk] at hun; exact hun
      · by_cases hj0 : j = z
        · subst hj0
          exfalso
          rw [Array.getD_eq_getD_getElem?, Array.getElem?_setIfInBounds_self] at e2
          have h0 : j < listed.size := by
            rcases Nat.lt_or_ge j listed.size with h' | h'
            · exact h'
            · simp [Array.getElem?_eq_none h'] at hjun
          simp [h0] at e2
        · exact hpre hj0 (by rw [getD_set_z hj0] at e2; exact e2)
      · rw [Array.setIfInBounds_comm _ _ hji]
        exact h3.2.2
theorem anyR_take {i : Nat} {oi : Oper} {v : Value} {fuel : Nat} {listed : Array Bool} {a : Act} {w : World} (hi : ops[i]? = some oi)
    (hiz : i ≠ z) (ht : tame ops = true) (hz : (lastB md ops z i && !listed.getD z false) = true) (hf : Region.free md ops listed i = true) (hr : (Region.ready md ops listed).contains i = true)
    (hQ : ∀ c a w, Q (.panic c) (a.put oi.dst v) w → Q (.panic c) a w) (hy : YieldsIf P ops S oi v a) (hS : S w)
    (h : anyR n P md ops Q S z fuel (listed.setIfInBounds i true) (a.put oi.dst v) w) : anyR n P md ops Q S z (fuel + 1) listed a w :=
  anyR_first ht hiz (fun _ h => h) hi hQ fuel listed a w (.inr (by simpa using hz)) (Region.free_spec hi hf) (by simpa using hr) hy hS (fun _ _ => hS) h
/-- What yields in every world may be taken first, in whatever world. -/
theorem anyR_free {i : Nat} {oi : Oper} {v : Value} {fuel : Nat} {listed : Array Bool} {a : Act} {w : World} (hi : ops[i]? = some oi)
    (hiz : i ≠ z) (ht : tame ops = true) (hf : Region.free md ops listed i = true) (hr : (Region.ready md ops listed).contains i = true)
    (hQ : ∀ c a w, Q (.panic c) (a.put oi.dst v) w → Q (.panic c) a w) (hy : YieldsIf P ops (fun _ => True) oi v a) (hS : S w)
    (h : anyR n P md ops Q S z fuel (listed.setIfInBounds i true) (a.put oi.dst v) w) : anyR n P md ops Q S z (fuel + 1) listed a w :=
  anyR_first ht hiz (fun _ _ => trivial) hi hQ fuel listed a w (.inl fun _ => trivial) (Region.free_spec hi hf) (by simpa using hr) hy trivial (fun _ _ => hS) h
/-- Only number i may come up. -/
theorem anyR_one {i : Nat} {o : Oper} {fuel : Nat} {listed : Array Bool} {a : Act} {w : World} (hr : Region.ready md ops listed = [i]) (ho : ops[i]? = some o)
    (hw : Region.wanted o (yielded ops a.tmps) = true)
    (h : ∀ K : Act → World → Prop, (∀ a w, (i ≠ z → listed.getD z false = false → S w) → anyR n P md ops Q S z fuel (listed.setIfInBounds i true) a w → K a w) → o.wpIn Fence.wide n P a w K Q) : anyR n P md ops Q S z (fuel + 1) listed a w := by
  refine ⟨fun h0 => (by rw [hr] at h0; cases h0), fun j hj => ?_⟩
  rw [hr] at hj
  obtain rfl : j = i := by simpa using hj
  unfold opR wpOpIn
  simp only [ho, hw, if_true]
  exact h _ (fun a w hS hA => ⟨hS, hA⟩)
theorem anyR_done {listed : Array Bool} {a : Act} {w : World} (hr : Region.ready md ops listed = []) (h : Q .normal a w) : ∀ fuel, anyR n P md ops Q S z fuel listed a w
  | 0 => ⟨hr, h⟩
  | _ + 1 => ⟨fun _ => h, by rw [hr]; simp⟩
end
end Go.Proofs.Ytigohccehllmnaa.Out

namespace Go.Proofs.Ytigohccehllmnaa
set_option linter.unusedSimpArgs false
set_option linter.unusedVariables false
open Go.RowKit

section
variable {n l z : Nat} {P : Program} {ops : Array Oper} {Q : Exit → Act → World → Prop} {md : Region.Mode} {S : World → Prop}

/-- Operation number i of a region, in a round. -/
def opR (n l : Nat) (P : Program) (ops : Array Oper) (Q : Exit → Act → World → Prop) (i : Nat) (K : Act → World → Prop) (a : Act) (w : World) : Prop := wpOpIn (Fence.wide.inRound l) n P ops Q i K a w
/-- In whatever order they come up, the condition holds behind each that comes before the last one, z. -/
def anyR (n l : Nat) (P : Program) (md : Region.Mode) (ops : Array Oper) (Q : Exit → Act → World → Prop) (S : World → Prop) (z : Nat) : Nat → Array Bool → Act → World → Prop
  | 0, listed, a, w => Region.ready md ops listed = [] ∧ Q .normal a w
  | fuel + 1, listed, a, w => (Region.ready md ops listed = [] → Q .normal a w) ∧
    ∀ i ∈ Region.ready md ops listed, opR n l P ops Q i (fun a' w' => (i ≠ z → listed.getD z false = false → S w') ∧ anyR n l P md ops Q S z fuel (listed.setIfInBounds i true) a' w') a w
theorem anyIn_of_anyR : ∀ (fuel : Nat) (listed : Array Bool) (a : Act) (w : World), anyR n l P md ops Q S z fuel listed a w → wpAnyIn (Fence.wide.inRound l) n P md ops Q fuel listed a w
  | 0, _, _, _, h => h
  | fuel + 1, _, _, _, h => ⟨h.1, fun i hi => wpOpIn_mono (fun a' w' h' => anyIn_of_anyR fuel _ a' w' h'.2) (h.2 i hi)⟩
theorem region_R {id : Nat} {a : Act} {w : World} (hm : P.follows .mixedOrders = true) (h : anyR n l P .any ops Q S z ops.size (Array.replicate ops.size false) a w.drew) : (Code.region id ops true).wpIn (Fence.wide.inRound l) n P Q a w :=
  wpIn_region_any hm (anyIn_of_anyR _ _ _ _ h)

/-- No operation is a defer statement or a select statement. -/
def tame (ops : Array Oper) : Bool := ops.all fun o => match o.op with | .defer _ => false | .select _ _ => false | _ => true
theorem tame_at (h : tame ops = true) {j : Nat} {o : Oper} (hj : ops[j]? = some o) : (∀ c, o.op ≠ .defer c) ∧ (∀ cs b, o.op ≠ .select cs b) := by
  have h1 := Array.all_eq_true_iff_forall_mem.1 h o (Array.mem_of_getElem? hj)
  constructor
  · intro c e; rw [e] at h1; cases h1
  · intro cs b e; rw [e] at h1; cases h1
theorem wpIn_R {o : Oper} {a : Act} {w : World} {K : Act → World → Prop} (hd : ∀ c, o.op ≠ .defer c) : o.wpIn (Fence.wide.inRound l) n P a w K Q ↔ o.uponIn (Fence.wide.inRound l) n P a K Q ((execOp a.eval o).run P w) := by
  unfold Oper.wpIn
  rw [Fence.inRound_round, Oper.semAt_some l _ o hd]
  exact ⟨fun h => h.2, fun h => ⟨fun _ _ => trivial, h⟩⟩

theorem yields_opR (ht : tame ops = true) {i : Nat} {o : Oper} {v : Value} {a : Act} (hi : ops[i]? = some o) (hy : YieldsIf P ops S o v a) {K : Act → World → Prop} {w : World} (hS : S w) (h : K (a.put o.dst v) w) : opR n l P ops Q i K a w := by
  unfold opR wpOpIn
  simp only [hi]
  rcases hy with ⟨hw, hv⟩ | ⟨hw, rfl⟩
  · simp only [hw, if_true]
    exact (wpIn_R (tame_at ht hi).1).2 (by rw [hv w hS]; exact h)
  · simp only [hw, Bool.false_eq_true, if_false]
    exact ⟨fun _ _ => trivial, h⟩

/-- The operation z waits for the operation i. -/
def lastB (md : Region.Mode) (ops : Array Oper) (z i : Nat) : Bool := match ops[z]? with
  | none => true
  | some o => o.after.any fun e => Region.binds md e && decide (e.on = i)
theorem opR_put (ht : tame ops = true) {i j : Nat} {oi oj : Oper} {v : Value} (hi : ops[i]? = some oi) (hj : ops[j]? = some oj) (hap : oi.apart ops oj = true)
    (hQ : ∀ c a w, Q (.panic c) (a.put oi.dst v) w → Q (.panic c) a w) {K : Act → World → Prop} {a : Act} {w : World}
    (hy : YieldsIf P ops S oi v a) (h : opR n l P ops Q j K (a.put oi.dst v) w) :
    opR n l P ops Q j (fun a' w' => YieldsIf P ops S oi v a' ∧ K (a'.put oi.dst v) w') a w := by
  obtain ⟨h1, h2, h3⟩ := Oper.apart_spec hap
  have hsi := (tame_at ht hi).2
  have hsj := (tame_at ht hj).2
  have hdj := (tame_at ht hj).1
  have stay : ∀ (a : Act), YieldsIf P ops S oi v a → ∀ u, YieldsIf P ops S oi v (a.put oj.dst u) := fun a hy u => hy.of_same (execOp_put oi hsi a oj.dst u h3) (wanted_put oi a oj.dst u h3)
  unfold opR wpOpIn at *
  simp only [hj] at *
  rw [wanted_put oj a oi.dst v h1] at h
  split
  · rename_i hw
    simp only [hw, if_true] at h
    rw [wpIn_R hdj] at h ⊢
    rw [execOp_put oj hsj a oi.dst v h1] at h
    generalize hr : (execOp a.eval oj).run P w = r at *
    cases r with
    | ok x w' =>
      cases x with
      | value u =>
        have h : K ((a.put oi.dst v).put oj.dst u) w' := h
        exact ⟨stay a hy u, by rw [← Act.put_comm a v u h2]; exact h⟩
      | skip =>
        have h : K ((a.put oi.dst v).put oj.dst undef) w' := h
        exact ⟨stay a hy _, by rw [← Act.put_comm a v undef h2]; exact h⟩
      | defer d =>
        have h : K ({ (a.put oi.dst v) with defers := d :: (a.put oi.dst v).defers }.put oj.dst undef) w' := h
        refine ⟨hy.of_same (a' := { a with defers := d :: a.defers }.put oj.dst undef) (execOp_put oi hsi { a with defers := d :: a.defers } oj.dst undef h3) (wanted_put oi { a with defers := d :: a.defers } oj.dst undef h3), ?_⟩
        rw [← Act.put_comm _ v undef h2, ← Act.put_defers]
        exact h
      | enter f args =>
        refine ⟨h.1, CallsIn.mono h.2 fun e w'' he => ?_⟩
        cases e with
        | returned u => exact ⟨stay a hy u, by rw [← Act.put_comm a v u h2]; exact he⟩
        | panicked c => exact hQ _ _ _ he
        | outgrown => exact he
      | row row args => exact ⟨h.1, RowsIn.mono h.2 fun u w'' he => ⟨stay a hy u, by rw [← Act.put_comm a v u h2]; exact he⟩⟩
      | round l f tmps assign body =>
        refine ⟨h.1, RoundIn.mono h.2 fun e w'' he => ?_⟩
        cases e with
        | returned u => exact ⟨stay a hy u, by rw [← Act.put_comm a v u h2]; exact he⟩
        | panicked c => exact hQ _ _ _ he
        | outgrown => exact he
      | _ => exact h.elim
    | halt x w' =>
      cases x with
      | panic u => exact hQ _ _ _ h
      | _ => exact h.elim
  · rename_i hw
    simp only [hw] at h
    exact ⟨fun _ _ => trivial, stay a hy _, by rw [← Act.put_comm a v undef h2]; exact h.2⟩

theorem getD_set_z {listed : Array Bool} {j z : Nat} (h : j ≠ z) : (listed.setIfInBounds j true).getD z false = listed.getD z false := by
  simp only [Array.getD_eq_getD_getElem?, Array.getElem?_setIfInBounds_ne h]
/-- Number i may be taken first. -/
theorem anyR_first (ht : tame ops = true) {i : Nat} (hiz : i ≠ z) {oi : Oper} {v : Value} {S' : World → Prop} (hSS : ∀ w, S w → S' w) (hi : ops[i]? = some oi) (hQ : ∀ c a w, Q (.panic c) (a.put oi.dst v) w → Q (.panic c) a w) :
    ∀ (fuel : Nat) (listed : Array Bool) (a : Act) (w : World), ((∀ w, S' w) ∨ lastB md ops z i = true ∧ listed.getD z false = false) →
      (∀ j oj, ops[j]? = some oj → j ≠ i → listed.getD j true = false → (∀ e ∈ oj.after, Region.binds md e = true → e.on ≠ i) → oi.apart ops oj = true) →
      i ∈ Region.ready md ops listed → YieldsIf P ops S' oi v a → S' w → (i ≠ z → listed.getD z false = false → S w) →
      anyR n l P md ops Q S z fuel (listed.setIfInBounds i true) (a.put oi.dst v) w → anyR n l P md ops Q S z (fuel + 1) listed a w
  | 0, listed, a, w, _, _, hr, hy, hS, hS2, H => by
    refine ⟨fun h => (by rw [h] at hr; cases hr), fun j hj => ?_⟩
    by_cases hji : j = i
    · subst hji; exact yields_opR ht hi hy hS ⟨hS2, H⟩
    · have := ready_mono hj hji
      rw [H.1] at this
      cases this
  | fuel + 1, listed, a, w, hz, hfree, hr, hy, hS, hS2, H => by
    refine ⟨fun h => (by rw [h] at hr; cases hr), fun j hj => ?_⟩
    by_cases hji : j = i
    · subst hji; exact yields_opR ht hi hy hS ⟨hS2, H⟩
    · have h1 := H.2 j (ready_mono hj hji)
      obtain ⟨hjun, oj, hoj, hall⟩ := mem_ready.1 hj
      have hnot : ∀ e ∈ oj.after, Region.binds md e = true → e.on ≠ i := fun e he hb heq => by
        have h1 := hall e he hb
        have h0 := (mem_ready.1 hr).1
        rw [heq] at h1
        rcases Nat.lt_or_ge i listed.size with h' | h'
        · simp [h'] at h0 h1; rw [h0] at h1; cases h1
        · simp [Array.getElem?_eq_none h'] at h1
      have hjz : (∀ w, S' w) ∨ (j ≠ z ∧ listed.getD z false = false) := by
        rcases hz with hz | ⟨hz, hz2⟩
        · exact .inl hz
        · refine .inr ⟨?_, hz2⟩
          rintro rfl
          unfold lastB at hz
          rw [hoj] at hz
          simp only [Array.any_eq_true] at hz
          obtain ⟨q, hq, h10⟩ := hz
          simp only [Bool.and_eq_true, decide_eq_true_eq] at h10
          exact hnot _ (Array.getElem_mem hq) h10.1 h10.2
      have h2 := opR_put ht hi hoj (hfree j oj hoj hji hjun hnot) hQ hy h1
      refine wpOpIn_mono (fun a' w' h3 => ?_) h2
      have hpre : j ≠ z → listed.getD z false = false → S w' := fun e1 e2 => h3.2.1 e1 (by rw [getD_set_z hiz]; exact e2)
      have hS'' : S' w' := by
        rcases hjz with e | ⟨e1, e2⟩
        · exact e w'
        · exact hSS _ (hpre e1 e2)
      refine ⟨hpre, anyR_first ht hiz hSS hi hQ fuel (listed.setIfInBounds j true) a' w' ?_ (fun k ok hk hki hun hno => ?_) (ready_mono hr (Ne.symm hji)) h3.1 hS'' (fun e1 e2 => ?_) ?_⟩
      · rcases hz with hz | ⟨hz, hz2⟩
        · exact .inl hz
        · rcases hjz with e | ⟨e1, e2⟩
          · exact .inl e
          · exact .inr ⟨hz, by rw [getD_set_z e1]; exact e2⟩
      · refine hfree k ok hk hki ?_ hno
        by_cases hjk : j = k
        · subst hjk; exact hjun
        · rw [getD_set_ne true hjk] at hun; exact hun
      · by_cases hj0 : j = z
        · subst hj0
          exfalso
          rw [Array.getD_eq_getD_getElem?, Array.getElem?_setIfInBounds_self] at e2
          have h0 : j < listed.size := by
            rcases Nat.lt_or_ge j listed.size with h' | h'
            · exact h'
            · simp [Array.getElem?_eq_none h'] at hjun
          simp [h0] at e2
        · exact hpre hj0 (by rw [getD_set_z hj0] at e2; exact e2)
      · rw [Array.setIfInBounds_comm _ _ hji]
        exact h3.2.2
theorem anyR_take {i : Nat} {oi : Oper} {v : Value} {fuel : Nat} {listed : Array Bool} {a : Act} {w : World} (hi : ops[i]? = some oi)
    (hiz : i ≠ z) (ht : tame ops = true) (hz : (lastB md ops z i && !listed.getD z false) = true) (hf : Region.free md ops listed i = true) (hr : (Region.ready md ops listed).contains i = true)
    (hQ : ∀ c a w, Q (.panic c) (a.put oi.dst v) w → Q (.panic c) a w) (hy : YieldsIf P ops S oi v a) (hS : S w)
    (h : anyR n l P md ops Q S z fuel (listed.setIfInBounds i true) (a.put oi.dst v) w) : anyR n l P md ops Q S z (fuel + 1) listed a w :=
  anyR_first ht hiz (fun _ h => h) hi hQ fuel listed a w (.inr (by simpa using hz)) (Region.free_spec hi hf) (by simpa using hr) hy hS (fun _ _ => hS) h
/-- What yields in every world may be taken first, in whatever world. -/
theorem anyR_free {i : Nat} {oi : Oper} {v : Value} {fuel : Nat} {listed : Array Bool} {a : Act} {w : World} (hi : ops[i]? = some oi)
    (hiz : i ≠ z) (ht : tame ops = true) (hf : Region.free md ops listed i = true) (hr : (Region.ready md ops listed).contains i = true)
    (hQ : ∀ c a w, Q (.panic c) (a.put oi.dst v) w → Q (.panic c) a w) (hy : YieldsIf P ops (fun _ => True) oi v a) (hS : S w)
    (h : anyR n l P md ops Q S z fuel (listed.setIfInBounds i true) (a.put oi.dst v) w) : anyR n l P md ops Q S z (fuel + 1) listed a w :=
  anyR_first ht hiz (fun _ _ => trivial) hi hQ fuel listed a w (.inl fun _ => trivial) (Region.free_spec hi hf) (by simpa using hr) hy trivial (fun _ _ => hS) h
/-- Only number i may come up. -/
theorem anyR_one {i : Nat} {o : Oper} {fuel : Nat} {listed : Array Bool} {a : Act} {w : World} (hr : Region.ready md ops listed = [i]) (ho : ops[i]? = some o)
    (hw : Region.wanted o (yielded ops a.tmps) = true)
    (h : ∀ K : Act → World → Prop, (∀ a w, (i ≠ z → listed.getD z false = false → S w) → anyR n l P md ops Q S z fuel (listed.setIfInBounds i true) a w → K a w) → o.wpIn (Fence.wide.inRound l) n P a w K Q) : anyR n l P md ops Q S z (fuel + 1) listed a w := by
  refine ⟨fun h0 => (by rw [hr] at h0; cases h0), fun j hj => ?_⟩
  rw [hr] at hj
  obtain rfl : j = i := by simpa using hj
  unfold opR wpOpIn
  simp only [ho, hw, if_true]
  exact h _ (fun a w hS hA => ⟨hS, hA⟩)
theorem anyR_done {listed : Array Bool} {a : Act} {w : World} (hr : Region.ready md ops listed = []) (h : Q .normal a w) : ∀ fuel, anyR n l P md ops Q S z fuel listed a w
  | 0 => ⟨hr, h⟩
  | _ + 1 => ⟨fun _ => h, by rw [hr]; simp⟩
end
end Go.Proofs.Ytigohccehllmnaa

namespace Go.Proofs.Ytigohccehllmnaa
set_option linter.unusedSimpArgs false
set_option linter.unusedVariables false
open Go.RowKit Go.Shelf
section
variable {F : Fence} {n : Nat} {P : Program} {b : Frame} {a : Act} {k : List Item} {cs : List Frame} {w : World} {Q : Exit → Act → World → Prop}
theorem stepR_scope_ {c : Code} : step P (lone (b.atR a (.code (.scope c) :: k)) cs w) = .next (lone (b.atR a (.code c :: .inScope c :: k)) cs w) :=
  step_lone_go (by simp [stepG, stepG.exec, Frame.atR])
theorem stepR_inScope_ {c : Code} : step P (lone (b.atR a (.inScope c :: k)) cs w) = .next (lone (b.atR a k) cs w) :=
  step_lone_go (by simp [stepG, stepG.exec, Frame.atR])
theorem wpIn_scope_ {c : Code} (h : c.wpIn F n P (Exit.noGoto Q) a w) : (Code.scope c).wpIn F n P Q a w := by
  intro b k cs hro hb hr
  have h0 : (lone (b.atR a (.code (.scope c) :: k)) cs w).fenced P F := fenced_calm hb hr rfl
  obtain ⟨e, a₁, w₁, hq, harr⟩ := h b (.inScope c :: k) cs hro hb hr
  cases e with
  | normal => exact ⟨.normal, a₁, w₁, hq, .head h0 stepR_scope_ (StepsIn.trans harr (.one (fenced_calm hb hr rfl) stepR_inScope_))⟩
  | exit id =>
    have hx : exitTo id (.inScope c :: k) = exitTo id k := by simp [exitTo]
    exact ⟨.exit id, a₁, w₁, hq, fun k' hk => .head h0 stepR_scope_ (harr.1 k' (by rw [hx]; exact hk)),
      fun hr' hk => let ⟨k₁, h1, h2⟩ := harr.2 hr' (by rw [hx]; exact hk); ⟨k₁, h1, .head h0 stepR_scope_ h2⟩⟩
  | goto l => exact hq.elim
  | ret => exact ⟨_, a₁, w₁, hq, .of_steps (.one h0 stepR_scope_) harr⟩
  | panic ch => exact ⟨_, a₁, w₁, hq, .of_steps (.one h0 stepR_scope_) harr⟩
  | outgrown => exact ⟨_, a₁, w₁, hq, .of_steps (.one h0 stepR_scope_) harr⟩
end
end Go.Proofs.Ytigohccehllmnaa
