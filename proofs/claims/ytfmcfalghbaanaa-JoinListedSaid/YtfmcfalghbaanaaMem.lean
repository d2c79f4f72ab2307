/- Stage 2: the map of counts: its keys, and what it holds. -/
import Derived.Test.YtfmcfalghbaanaaBeh
import Derived.Maps.OwnIn
import Derived.Maps.Views
import Derived.DeepKeys4
import Derived.Sort.QuietIn
namespace Go.Proofs.Ytfmcfalghbaanaa
set_option linter.unusedSimpArgs false
set_option linter.unusedVariables false
open Go.RowKit Go.Shelf Go.WideMaps Go.MapKept
open Go.Maps (Keyed)

theorem Try.laid_ : laidOutB Try.prog = true := by kernel_rfl
theorem key91 : Keyed Try.prog 91 := Keyed.of_law (deep_law_laid Try.laid_ (m := 3) (by omega) (of_decide_eq_true (by kernel_rfl)) (by kernel_rfl) (by kernel_rfl))
/-- The key of a state. -/
def klG (P : Program) (p : Nat) (t : Bool) (q : Nat) : Lit := (keyOf P 91 (.agg (staV p t q))).getD (.bool false)
theorem key_some_ : ∀ p : Fin 8, ∀ t : Bool, ∀ q : Fin 256, (keyOf Try.prog 91 (.agg (staV p t q))).isSome = true := by decide +kernel
theorem key_some {p q : Nat} (hp : p < 8) (hq : q < 256) (t : Bool) : keyOf Try.prog 91 (.agg (staV p t q)) = some (klG Try.prog p t q) := by
  have h := key_some_ ⟨p, hp⟩ t ⟨q, hq⟩
  unfold klG
  obtain ⟨l, hl⟩ := Option.isSome_iff_exists.1 h
  simp only at hl
  rw [hl]; rfl
theorem kl_inj {p q p' q' : Nat} {t t' : Bool} (hp : p < 8) (hq : q < 256) (hp' : p' < 8) (hq' : q' < 256) (h : klG Try.prog p t q = klG Try.prog p' t' q') : p = p' ∧ t = t' ∧ q = q' := by
  have h1 := key_some hp hq t
  have h2 := key_some hp' hq' t'
  rw [← h] at h2
  have h3 := key91.inj h1 h2
  unfold staV at h3
  injection h3 with h3
  simp only [Array.mk.injEq, List.cons.injEq, Value.int.injEq, Value.bool.injEq, and_true, true_and] at h3
  exact ⟨by have := h3.1; omega, h3.2.1, by have := h3.2.2; omega⟩
/-- The key of a state, by its code. -/
def klS (P : Program) (a : Sta) : Lit := klG P (a.last / 2) (decide (a.last % 2 = 1)) a.pcs
/-- A state that can be a key. -/
def InK (a : Sta) : Prop := a.last < 16 ∧ a.pcs < 256
theorem kls_inj {a b : Sta} (ha : InK a) (hb : InK b) (h : klS Try.prog a = klS Try.prog b) : a = b := by
  obtain ⟨h1, h2, h3⟩ := kl_inj (by have := ha.1; omega) ha.2 (by have := hb.1; omega) hb.2 h
  obtain ⟨l, q⟩ := a
  obtain ⟨l', q'⟩ := b
  simp only at h1 h2 h3
  have h4 : l % 2 = l' % 2 := by
    rcases Nat.mod_two_eq_zero_or_one l with e | e <;> rcases Nat.mod_two_eq_zero_or_one l' with e' | e' <;> simp [e, e'] at h2 ⊢
  rw [show l = l' by omega, h3]
/-- The map M holds counts alone that are right. -/
def Memo (W : World) (M nn : Nat) (T : Nat → Nat → Bool) (cs : List Nat) (n : Nat) : Prop :=
  ∃ D : DataW Unit, W.ownsMap Try.prog 91 (plainElem Try.prog 2) M nn D ∧ ∀ a, InK a → Maps.has D (klS Try.prog a) = true → D.atKey (klS Try.prog a) (.lit (.int .i64 0)) = .lit (.int .i64 (cntA T cs n a : Int))
theorem Memo.new {W : World} {M : Nat} (h : W.heap[M]? = some (.map #[] 0)) (T : Nat → Nat → Bool) (cs : List Nat) (n : Nat) : Memo W M 0 T cs n :=
  ⟨.map [], ⟨#[], 0, h, ⟨by simp, stamped_empty 0, by simp⟩, Nat.le_refl _, rfl⟩, fun a _ h => by simp [Maps.has] at h⟩
theorem Memo.mono {W : World} {M nn nn' : Nat} {T : Nat → Nat → Bool} {cs : List Nat} {n : Nat} (h : Memo W M nn T cs n) (hn : nn ≤ nn') : Memo W M nn' T cs n := by
  obtain ⟨D, h1, h2⟩ := h
  exact ⟨D, h1.mono hn, h2⟩
theorem Memo.keep {W W' : World} {M nn : Nat} {T : Nat → Nat → Bool} {cs : List Nat} {n : Nat} {Mut : Nat → Prop} (h : Memo W M nn T cs n) (hK : Keeps Mut W W') (hm : ¬ Mut M) : Memo W' M nn T cs n := by
  obtain ⟨D, h1, h2⟩ := h
  have hlt := h1.lt
  obtain ⟨es, clock, hb, F, hs, hD⟩ := h1
  exact ⟨D, ⟨es, clock, (hK.block M hlt hm).trans hb, F, hs, hD⟩, h2⟩
theorem Memo.lt {W : World} {M nn : Nat} {T : Nat → Nat → Bool} {cs : List Nat} {n : Nat} (h : Memo W M nn T cs n) : M < W.heap.size := by
  obtain ⟨D, h1, _⟩ := h
  exact h1.lt
theorem Memo.isMap {W : World} {M nn : Nat} {T : Nat → Nat → Bool} {cs : List Nat} {n : Nat} (h : Memo W M nn T cs n) : ∃ es clock, W.heap[M]? = some (.map es clock) := by
  obtain ⟨D, ⟨es, clock, hb, _⟩, _⟩ := h
  exact ⟨es, clock, hb⟩
theorem cell_block {W : World} {b o : Nat} {v : Value} (h : W.cell? ⟨b, o, none⟩ = some v) : ∃ c t f, W.heap[b]? = some (.cells c t f) := by
  unfold World.cell? at h
  simp only at h
  split at h
  · rename_i c t f e; exact ⟨c, t, f, e⟩
  · cases h
/-- The pieces do not lie in a map. -/
theorem pcs_not_map {W : World} {A : Option Addr} {n M nn : Nat} {ps : List Pc} {T : Nat → Nat → Bool} {cs : List Nat} {n' : Nat} (h : Pcs W A n ps) (hn : 0 < n) (hm : Memo W M nn T cs n') (o : Nat) : A ≠ some ⟨M, o, none⟩ := by
  intro e
  obtain ⟨b, o2, e2, hc⟩ := h.2 hn
  rw [e2] at e
  injection e with e
  injection e with e _
  subst e
  obtain ⟨c, t, f, h1⟩ := cell_block (hc 0 hn).1
  obtain ⟨es, clock, h2⟩ := hm.isMap
  rw [h1] at h2
  cases h2
theorem Pcs.keep {W W' : World} {A : Option Addr} {n : Nat} {ps : List Pc} {Mut : Nat → Prop} (h : Pcs W A n ps) (hK : Keeps Mut W W') (hm : ∀ k o, Mut k → A ≠ some ⟨k, o, none⟩) : Pcs W' A n ps := by
  refine ⟨h.1, fun hn => ?_⟩
  obtain ⟨b, o, e, hc⟩ := h.2 hn
  have hb := lt_of_cell (hc 0 hn).1
  have hk : ∀ j, W'.cell? ⟨b, j, none⟩ = W.cell? ⟨b, j, none⟩ := keep_cells hK hb (fun hm2 => hm b o hm2 e)
  exact ⟨b, o, e, fun j hj => by simp only [hk]; exact hc j hj⟩
set_option maxRecDepth 100000 in
/-- One more count is kept. -/
theorem Memo.put {W' : World} {M nn : Nat} {T : Nat → Nat → Bool} {cs : List Nat} {n : Nat} {D : DataW Unit} (hD : Maps.IsMap D)
    (h2 : ∀ a, InK a → Maps.has D (klS Try.prog a) = true → D.atKey (klS Try.prog a) (.lit (.int .i64 0)) = .lit (.int .i64 (cntA T cs n a : Int))) {a : Sta} (ha : InK a) (hk : WideAt.IsKeyLit (klS Try.prog a))
    (h' : W'.ownsMap Try.prog 91 (plainElem Try.prog 2) M nn (D.put (klS Try.prog a) (.lit (.int .i64 (cntA T cs n a : Int))))) : Memo W' M nn T cs n := by
  refine ⟨_, h', fun b hb hh => ?_⟩
  by_cases e : b = a
  · rw [e]
    obtain ⟨kl, hkl⟩ : ∃ kl, klS Try.prog a = kl := ⟨_, rfl⟩
    rw [hkl] at hk ⊢
    exact Maps.atKey_put_same hD hk _ _
  · have hne : klS Try.prog b ≠ klS Try.prog a := fun h => e (kls_inj hb ha h)
    rw [Maps.has_put_other hne] at hh
    rw [Maps.atKey_put_other hne]
    exact h2 b hb hh
end Go.Proofs.Ytfmcfalghbaanaa
