/- Stage 2: count: in how many ways steps can follow a state. -/
import Derived.Test.YtfmcfalghbaanaaBeh
import Derived.Maps.OwnIn
import Derived.Maps.Views
import Derived.DeepKeys4
import Derived.Sort.QuietIn
namespace Go.Proofs.Ytfmcfalghbaanaa
set_option linter.unusedSimpArgs false
set_option linter.unusedVariables false
open Go.RowKit Go.Shelf Go.WideMaps Go.MapKept
open Go.Maps (Keyed)

theorem Try.laid_ : laidOutB Try.prog = true := by kernel_rfl
theorem key91 : Keyed Try.prog 91 := Keyed.of_law (deep_law_laid Try.laid_ (m := 3) (by omega) (of_decide_eq_true (by kernel_rfl)) (by kernel_rfl) (by kernel_rfl))
/-- The key of a state. -/
def klG (P : Program) (p : Nat) (t : Bool) (q : Nat) : Lit := (keyOf P 91 (.agg (staV p t q))).getD (.bool false)
theorem key_some_ : ∀ p : Fin 8, ∀ t : Bool, ∀ q : Fin 256, (keyOf Try.prog 91 (.agg (staV p t q))).isSome = true := by decide +kernel
theorem key_some {p q : Nat} (hp : p < 8) (hq : q < 256) (t : Bool) : keyOf Try.prog 91 (.agg (staV p t q)) = some (klG Try.prog p t q) := by
  have h := key_some_ ⟨p, hp⟩ t ⟨q, hq⟩
  unfold klG
  obtain ⟨l, hl⟩ := Option.isSome_iff_exists.1 h
  simp only at hl
  rw [hl]; rfl
theorem kl_inj {p q p' q' : Nat} {t t' : Bool} (hp : p < 8) (hq : q < 256) (hp' : p' < 8) (hq' : q' < 256) (h : klG Try.prog p t q = klG Try.prog p' t' q') : p = p' ∧ t = t' ∧ q = q' := by
  have h1 := key_some hp hq t
  have h2 := key_some hp' hq' t'
  rw [← h] at h2
  have h3 := key91.inj h1 h2
  unfold staV at h3
  injection h3 with h3
  simp only [Array.mk.injEq, List.cons.injEq, Value.int.injEq, Value.bool.injEq, and_true, true_and] at h3
  exact ⟨by have := h3.1; omega, h3.2.1, by have := h3.2.2; omega⟩
/-- The key of a state, by its code. -/
def klS (P : Program) (a : Sta) : Lit := klG P (a.last / 2) (decide (a.last % 2 = 1)) a.pcs
/-- A state that can be a key. -/
def InK (a : Sta) : Prop := a.last < 16 ∧ a.pcs < 256
theorem kls_inj {a b : Sta} (ha : InK a) (hb : InK b) (h : klS Try.prog a = klS Try.prog b) : a = b := by
  obtain ⟨h1, h2, h3⟩ := kl_inj (by have := ha.1; omega) ha.2 (by have := hb.1; omega) hb.2 h
  obtain ⟨l, q⟩ := a
  obtain ⟨l', q'⟩ := b
  simp only at h1 h2 h3
  have h4 : l % 2 = l' % 2 := by
    rcases Nat.mod_two_eq_zero_or_one l with e | e <;> rcases Nat.mod_two_eq_zero_or_one l' with e' | e' <;> simp [e, e'] at h2 ⊢
  rw [show l = l' by omega, h3]
/-- The map M holds counts alone that are right. -/
def Memo (W : World) (M nn : Nat) (T : Nat → Nat → Bool) (cs : List Nat) (n : Nat) : Prop :=
  ∃ D : DataW Unit, W.ownsMap Try.prog 91 (plainElem Try.prog 2) M nn D ∧ ∀ a, InK a → Maps.has D (klS Try.prog a) = true → D.atKey (klS Try.prog a) (.lit (.int .i64 0)) = .lit (.int .i64 (cntA T cs n a : Int))
theorem Memo.new {W : World} {M : Nat} (h : W.heap[M]? = some (.map #[] 0)) (T : Nat → Nat → Bool) (cs : List Nat) (n : Nat) : Memo W M 0 T cs n :=
  ⟨.map [], ⟨#[], 0, h, ⟨by simp, stamped_empty 0, by simp⟩, Nat.le_refl _, rfl⟩, fun a _ h => by simp [Maps.has] at h⟩
theorem Memo.mono {W : World} {M nn nn' : Nat} {T : Nat → Nat → Bool} {cs : List Nat} {n : Nat} (h : Memo W M nn T cs n) (hn : nn ≤ nn') : Memo W M nn' T cs n := by
  obtain ⟨D, h1, h2⟩ := h
  exact ⟨D, h1.mono hn, h2⟩
theorem Memo.keep {W W' : World} {M nn : Nat} {T : Nat → Nat → Bool} {cs : List Nat} {n : Nat} {Mut : Nat → Prop} (h : Memo W M nn T cs n) (hK : Keeps Mut W W') (hm : ¬ Mut M) : Memo W' M nn T cs n := by
  obtain ⟨D, h1, h2⟩ := h
  have hlt := h1.lt
  obtain ⟨es, clock, hb, F, hs, hD⟩ := h1
  exact ⟨D, ⟨es, clock, (hK.block M hlt hm).trans hb, F, hs, hD⟩, h2⟩
theorem Memo.lt {W : World} {M nn : Nat} {T : Nat → Nat → Bool} {cs : List Nat} {n : Nat} (h : Memo W M nn T cs n) : M < W.heap.size := by
  obtain ⟨D, h1, _⟩ := h
  exact h1.lt
theorem Memo.isMap {W : World} {M nn : Nat} {T : Nat → Nat → Bool} {cs : List Nat} {n : Nat} (h : Memo W M nn T cs n) : ∃ es clock, W.heap[M]? = some (.map es clock) := by
  obtain ⟨D, ⟨es, clock, hb, _⟩, _⟩ := h
  exact ⟨es, clock, hb⟩
theorem cell_block {W : World} {b o : Nat} {v : Value} (h : W.cell? ⟨b, o, none⟩ = some v) : ∃ c t f, W.heap[b]? = some (.cells c t f) := by
  unfold World.cell? at h
  simp only at h
  split at h
  · rename_i c t f e; exact ⟨c, t, f, e⟩
  · cases h
/-- The pieces do not lie in a map. -/
theorem pcs_not_map {W : World} {A : Option Addr} {n M nn : Nat} {ps : List Pc} {T : Nat → Nat → Bool} {cs : List Nat} {n' : Nat} (h : Pcs W A n ps) (hn : 0 < n) (hm : Memo W M nn T cs n') (o : Nat) : A ≠ some ⟨M, o, none⟩ := by
  intro e
  obtain ⟨b, o2, e2, hc⟩ := h.2 hn
  rw [e2] at e
  injection e with e
  injection e with e _
  subst e
  obtain ⟨c, t, f, h1⟩ := cell_block (hc 0 hn).1
  obtain ⟨es, clock, h2⟩ := hm.isMap
  rw [h1] at h2
  cases h2
theorem Pcs.keep {W W' : World} {A : Option Addr} {n : Nat} {ps : List Pc} {Mut : Nat → Prop} (h : Pcs W A n ps) (hK : Keeps Mut W W') (hm : ∀ k o, Mut k → A ≠ some ⟨k, o, none⟩) : Pcs W' A n ps := by
  refine ⟨h.1, fun hn => ?_⟩
  obtain ⟨b, o, e, hc⟩ := h.2 hn
  have hb := lt_of_cell (hc 0 hn).1
  have hk : ∀ j, W'.cell? ⟨b, j, none⟩ = W.cell? ⟨b, j, none⟩ := keep_cells hK hb (fun hm2 => hm b o hm2 e)
  exact ⟨b, o, e, fun j hj => by simp only [hk]; exact hc j hj⟩
set_option maxRecDepth 100000 in
/-- One more count is kept. -/
theorem Memo.put {W' : World} {M nn : Nat} {T : Nat → Nat → Bool} {cs : List Nat} {n : Nat} {D : DataW Unit} (hD : Maps.IsMap D)
    (h2 : ∀ a, InK a → Maps.has D (klS Try.prog a) = true → D.atKey (klS Try.prog a) (.lit (.int .i64 0)) = .lit (.int .i64 (cntA T cs n a : Int))) {a : Sta} (ha : InK a) (hk : WideAt.IsKeyLit (klS Try.prog a))
    (h' : W'.ownsMap Try.prog 91 (plainElem Try.prog 2) M nn (D.put (klS Try.prog a) (.lit (.int .i64 (cntA T cs n a : Int))))) : Memo W' M nn T cs n := by
  refine ⟨_, h', fun b hb hh => ?_⟩
  by_cases e : b = a
  · rw [e]
    obtain ⟨kl, hkl⟩ : ∃ kl, klS Try.prog a = kl := ⟨_, rfl⟩
    rw [hkl] at hk ⊢
    exact Maps.atKey_put_same hD hk _ _
  · have hne : klS Try.prog b ≠ klS Try.prog a := fun h => e (kls_inj hb ha h)
    rw [Maps.has_put_other hne] at hh
    rw [Maps.atKey_put_other hne]
    exact h2 b hb hh
end Go.Proofs.Ytfmcfalghbaanaa

namespace Go.Proofs.Ytfmcfalghbaanaa
set_option linter.unusedSimpArgs false
set_option linter.unusedVariables false
open Go.RowKit Go.Shelf
attribute [local go_sem] Oper.semAt_some
attribute [local go_sem ↓] exec_load78
attribute [local go_sem ↓] at_load78

/-- What count answers. -/
def CntPost (v : Nat) (w : World) (M nn : Nat) (T : Nat → Nat → Bool) (cs : List Nat) (n : Nat) (e : Ending) (w' : World) : Prop :=
  e = .returned (.int .i64 (v : Int)) ∧ Memo w' M nn T cs n ∧ Keeps (fun j => j = M) w w'
/-- What its loop keeps. -/
def CI (b7 M nn k v0 : Nat) (T : Nat → Nat → Bool) (cs : List Nat) (n : Nat) (W3 : World) (pre : List Sta) (W : World) : Prop :=
  W.heap[b7]? = some (.cells #[.int .i64 ((v0 + (pre.map (cntA T cs n)).sum : Nat) : Int)] 2 (0, 0)) ∧ Memo W M (nn + pre.length * 17 ^ k) T cs n ∧ Keeps (fun j => j = b7 ∨ j = M) W3 W
theorem CI.abides {b7 M nn k v0 B0 n : Nat} {T : Nat → Nat → Bool} {cs : List Nat} {W3 : World} {pre : List Sta} (h1 : b7 < B0) (h2 : M < B0) (h3 : W3.heap.size ≤ B0) : Abides B0 (CI b7 M nn k v0 T cs n W3 pre) := fun A B h hK =>
  ⟨(hK.block _ (lt_of_block h.1) (by omega)).trans h.1, h.2.1.keep hK (by omega), keeps_abides h3 _ _ h.2.2 hK⟩
theorem staE_form (b : Sta) : ∃ (p : Nat) (t : Bool), staE b = #[.agg #[.int .i64 (p : Int), .bool t, .int .u64 (b.pcs : Int)]] ∧ b.last = (if t then 2 * p + 1 else 2 * p) := by
  refine ⟨b.last / 2, decide (b.last % 2 = 1), rfl, ?_⟩
  by_cases h : b.last % 2 = 1
  · rw [decide_eq_true h, if_pos rfl]; omega
  · rw [decide_eq_false h, if_neg (by simp)]; omega
theorem kls_form {p q x : Nat} {t : Bool} (hx : x = if t then 2 * p + 1 else 2 * p) : klS Try.prog ⟨x, q⟩ = klG Try.prog p t q := by
  unfold klS
  subst hx
  cases t
  · simp only [Bool.false_eq_true, if_false]; rw [show 2 * p / 2 = p by omega, show decide (2 * p % 2 = 1) = false from decide_eq_false (by omega)]
  · simp only [if_true]; rw [show (2 * p + 1) / 2 = p by omega, show decide ((2 * p + 1) % 2 = 1) = true from decide_eq_true (by omega)]
theorem pow_int_ : ∀ n : Fin 9, IntKind.u64.wrap (2 ^ (n : Nat)) = 2 ^ (n : Nat) ∧ IntKind.u64.wrap (2 ^ (n : Nat) - 1) = 2 ^ (n : Nat) - 1 := by decide +kernel
theorem pow_lt_ : ∀ n : Fin 9, 2 ^ (n : Nat) ≤ 256 := by decide +kernel

theorem codes_len_ (ps : List Pc) (k : Nat) : (codesK ps k).length ≤ 2 * k := by
  induction k with
  | zero => simp [codesK]
  | succ k ih =>
    rw [codesK_succ, List.length_append]
    split <;> simp <;> omega
/-- The contract of count at states of which k pieces are left. -/
def CntHyp (X : Array Value) (A : Option Addr) (n : Nat) (T : Nat → Nat → Bool) (M : Nat) (ps : List Pc) (k : Nat) : Prop :=
  ∀ (p q x nn : Nat) (t : Bool) (w : World), Pcs w A n ps → Memo w M nn T (codesL ps) n → nn + 17 ^ (k + 1) ≤ 1000000000000000000 → q < 2 ^ n → x < 16 → (x = if t then 2 * p + 1 else 2 * p) → left n ⟨x, q⟩ = k →
    Calls Try.prog 51 #[.agg X, .agg #[.int .i64 (p : Int), .bool t, .int .u64 (q : Int)]] w (CntPost (cntA T (codesL ps) n ⟨x, q⟩) w M (nn + 17 ^ (k + 1)) T (codesL ps) n)

set_option maxRecDepth 100000 in
set_option maxHeartbeats 2000000 in
theorem count_step (X : Array Value) (A : Option Addr) (n cap : Nat) (off lo hi : Int) (T : Nat → Nat → Bool) (M : Nat) (ps : List Pc) (hX : Brd X A n cap off lo hi T M) (hn1 : 1 ≤ n) (hn : n ≤ 8) (k : Nat) (ih : ∀ k', k = k' + 1 → CntHyp X A n T M ps k') : CntHyp X A n T M ps k := by
  intro p q x nn t w hp hm hnn hq hx16 hx hleft
  have hp8 : p < 8 := by cases t <;> simp at hx <;> omega
  have hq256 : q < 256 := Nat.lt_of_lt_of_le hq (pow_lt_ ⟨n, by omega⟩)
  obtain ⟨D, hown, hD⟩ := hm
  have hMw := hown.lt
  have hkey := key_some hp8 hq256 t
  have hkl := kls_form (q := q) hx
  have hown1 : ((w.alloc (.cells X 78)).alloc (.cells #[.int .i64 (p : Int), .bool t, .int .u64 (q : Int)] 91)).ownsMap Try.prog 91 (plainElem Try.prog 2) M nn D := (hown.alloc _).alloc _
  obtain ⟨v, vp, hrun, hv⟩ := hown1.look_ok key91 Try.underlying76 (Try.zeroValue2 _) (plainElem_int Try.underlying2 (by decide)) hkey
  obtain ⟨c, rfl, hc, hwc⟩ := plainElem_int_inv Try.underlying2 hv
  have hlit : WideAt.IsKeyLit (klG Try.prog p t q) := key91.key hkey
  have hc2 : Maps.has D (klG Try.prog p t q) = true → c = (cntA T (codesL ps) n ⟨x, q⟩ : Int) := fun h => by
    have h1 := hD ⟨x, q⟩ ⟨hx16, hq256⟩ (by rw [hkl]; exact h)
    rw [hkl] at h1
    have h2 := congrArg Prod.fst hc
    simp only at h2
    rw [h1] at h2
    injection h2 with h2
    injection h2 with _ h2
    exact h2.symm
  unfold staV at hrun
  have hk1 : Keeps (fun _ => False) w ((w.alloc (.cells X 78)).alloc (.cells #[.int .i64 (p : Int), .bool t, .int .u64 (q : Int)] 91)) := (keep_alloc _ _ _).trans (keep_alloc _ _ _)
  have eB : ((w.alloc (.cells X 78)).alloc (.cells #[.int .i64 (p : Int), .bool t, .int .u64 (q : Int)] 91)).heap[w.heap.size]? = some (.cells X 78 (0, 0)) := hal_old (heap_alloc_new_ _ _)
  have eS : ((w.alloc (.cells X 78)).alloc (.cells #[.int .i64 (p : Int), .bool t, .int .u64 (q : Int)] 91)).heap[w.heap.size + 1]? = some (.cells #[.int .i64 (p : Int), .bool t, .int .u64 (q : Int)] 91 (0, 0)) := hal_new (by simp)
  have c260 : ((w.alloc (.cells X 78)).alloc (.cells #[.int .i64 (p : Int), .bool t, .int .u64 (q : Int)] 91)).cell? ⟨w.heap.size, 260, none⟩ = some (.map (some M)) := by rw [cell_row eB]; exact hX.map
  have Hp := Lib.hid hp
  have Hmw := Lib.hid (show Memo w M nn T (codesL ps) n from ⟨D, hown, hD⟩)
  have Hnn := Lib.hid hnn
  have Hq := Lib.hid hq
  have Hx := Lib.hid hx
  have Hleft := Lib.hid hleft
  have Hih := Lib.hid ih
  have Hc2 := Lib.hid hc2
  have Hk1 := Lib.hid hk1
  have EB := Lib.hid eB
  have ES := Lib.hid eS
  clear hp hnn hq hx hleft ih hc2 hk1 eB eS hown hD hown1 hv hc hwc hkey hkl hlit
  refine (callsIn_wide (n := 5)).1 ?_
  refine callsIn_of_wp_marks Try.func51 rfl trivial ?_ rfl
  simp only [Try.ntmps51, List.size_toArray, List.length_cons, List.length_nil, Nat.reduceAdd, Nat.reduceSub, Array.replicate_succ, Array.replicate_zero, List.push_toArray, List.append_toArray, List.nil_append, List.cons_append]
  cases hhas : Maps.has D (klG Try.prog p t q) with
  | true =>
    have hce := Hc2.out hhas
    subst hce
    rw [hhas] at hrun
    clear hhas
    gi_wp2_with fail
    exact ⟨_, results_tmp rfl _ _ _, rfl, (Hmw.out.mono (Nat.le_add_right _ _)).keep Hk1.out (fun e => e), Hk1.out.none⟩
  | false =>
    rw [hhas] at hrun
    clear hhas
    gi_wp2_with fail
    have e7 : (((w.alloc (.cells X 78)).alloc (.cells #[.int .i64 (p : Int), .bool t, .int .u64 (q : Int)] 91)).alloc (.cells #[.int .i64 0] 2)).heap[w.heap.size + 1 + 1]? = some (.cells #[.int .i64 0] 2 (0, 0)) := hal_new (by simp)
    have Hk2 := Lib.hid (Hk1.out.trans (keep_alloc _ _ (.cells #[.int .i64 0] 2)))
    have EB2 := Lib.hid (hal_old (o := .cells #[.int .i64 0] 2) EB.out)
    have ES2 := Lib.hid (hal_old (o := .cells #[.int .i64 0] 2) ES.out)
    have hs2 := eq_le (show (((w.alloc (.cells X 78)).alloc (.cells #[.int .i64 (p : Int), .bool t, .int .u64 (q : Int)] 91)).alloc (.cells #[.int .i64 0] 2)).heap.size = w.heap.size + 3 by simp)
    obtain ⟨W2, hW2⟩ : ∃ W2, ((w.alloc (.cells X 78)).alloc (.cells #[.int .i64 (p : Int), .bool t, .int .u64 (q : Int)] 91)).alloc (.cells #[.int .i64 0] 2) = W2 := ⟨_, rfl⟩
    rw [hW2] at e7 Hk2 EB2 ES2 hs2 ⊢
    have E7 := Lib.hid e7
    have c1 : W2.cell? ⟨w.heap.size + 1, 2, none⟩ = some (.int .u64 (q : Int)) := by rw [cell_row ES2.out]; rfl
    have c2 : W2.cell? ⟨w.heap.size, 0, none⟩ = some (.slice A n cap) := by rw [cell_row EB2.out]; exact hX.c0
    obtain ⟨hw1, hw2⟩ := pow_int_ ⟨n, by omega⟩
    simp only at hw1 hw2
    clear hW2 e7 hrun c260
    have c7 : W2.cell? ⟨w.heap.size + 1 + 1, 0, none⟩ = some (.int .i64 0) := by rw [cell_row E7.out]; rfl
    have fr7 : W2.frozen? ⟨w.heap.size + 1 + 1, 0, none⟩ = false := frozen_row E7.out
    have s0 : W2.cell? ⟨w.heap.size + 1, 0, none⟩ = some (.int .i64 (p : Int)) := by rw [cell_row ES2.out]; rfl
    have s1 : W2.cell? ⟨w.heap.size + 1, 1, none⟩ = some (.bool t) := by rw [cell_row ES2.out]; rfl
    have hcl : (codesL ps).length ≤ 16 := Nat.le_trans (codes_len_ ps ps.length) (by have := Hp.out.1; omega)
    by_cases hfull : (q : Int) = 2 ^ n - 1
    · have d0 : ((q : Int) == 2 ^ n - 1) = true := by rw [beq_iff_eq]; exact hfull
      have hkq : ∀ a, Keeps (fun k => k = w.heap.size + 1 + 1) W2 ((W2.drewN a).setCell ⟨w.heap.size + 1 + 1, 0, none⟩ (.int .i64 1)) := fun a => (Keeps.of_new (drew_b W2 a)).trans (keeps_setCell _ _ _ _)
      have h78 : ∀ a, runO Try.prog (ld 78) (.pointer (some ⟨w.heap.size, 0, none⟩)) ((W2.drewN a).setCell ⟨w.heap.size + 1 + 1, 0, none⟩ (.int .i64 1)) = .ok (.value (.agg X)) ((W2.drewN a).setCell ⟨w.heap.size + 1 + 1, 0, none⟩ (.int .i64 1)) := fun a => run_ld78 (((hkq a).block _ (lt_of_block EB2.out) (by omega)).trans EB2.out) hX.size
      have Hfull := Lib.hid hfull
      have Hkq := Lib.hid hkq
      clear hfull hkq
      gi_quiet (fail)
      gi_wp2_with fail
      clear h78
      obtain ⟨v0, hv0⟩ : ∃ v0 : Nat, v0 = if q = 2 ^ n - 1 then 1 else 0 := ⟨_, rfl⟩
      have hv01 : v0 = 1 := by rw [hv0, if_pos]; have h1 := Hfull.out; have h2 := Nat.one_le_two_pow (n := n); have h3 : ((2 ^ n : Nat) : Int) = 2 ^ n := Int.natCast_pow 2 n; omega
      have hs1 := (Hkq.out nq).size
      obtain ⟨V, hV⟩ : ∃ V, (W2.drewN nq).setCell ⟨w.heap.size + 1 + 1, 0, none⟩ (.int .i64 1) = V := ⟨_, rfl⟩
      have EV7 := Lib.hid (show V.heap[w.heap.size + 1 + 1]? = some (.cells #[.int .i64 (v0 : Int)] 2 (0, 0)) by rw [hv01, ← hV]; exact set_same (W := W2.drewN nq) 0 _ E7.out)
      have EVB := Lib.hid (show V.heap[w.heap.size]? = some (.cells X 78 (0, 0)) by rw [← hV]; exact ((Hkq.out nq).block _ (lt_of_block EB2.out) (by omega)).trans EB2.out)
      have EVS := Lib.hid (show V.heap[w.heap.size + 1]? = some (.cells #[.int .i64 (p : Int), .bool t, .int .u64 (q : Int)] 91 (0, 0)) by rw [← hV]; exact ((Hkq.out nq).block _ (lt_of_block ES2.out) (by omega)).trans ES2.out)
      have HkV := Lib.hid (show Keeps (fun _ => False) w V by rw [← hV]; exact (Hk2.out.none.trans (Hkq.out nq)).mono (fun k hk e => by omega))
      have hsV : w.heap.size + 3 ≤ V.heap.size := by rw [← hV]; omega
      rw [hV]
      have Hv0 := Lib.hid hv0
      clear hV hv0 hv01 hs1 c7 fr7 s0 s1 d0 hw1 hw2
      refine ⟨trivial, (callsIn_wide.2 (behind70 _ _ _)).mono ?_⟩
      rintro e w5 ⟨rfl, rfl⟩
      gi_wp2_with fail
      have hk5 : Keeps (fun _ => False) V ((V.alloc (.cells X 78)).alloc (.cells #[.int .i64 (p : Int), .bool t, .int .u64 (q : Int)] 91)) := (keep_alloc _ _ _).trans (keep_alloc _ _ _)
      have e8 : ((V.alloc (.cells X 78)).alloc (.cells #[.int .i64 (p : Int), .bool t, .int .u64 (q : Int)] 91)).heap[V.heap.size]? = some (.cells X 78 (0, 0)) := hal_old (heap_alloc_new_ _ _)
      have e9 : ((V.alloc (.cells X 78)).alloc (.cells #[.int .i64 (p : Int), .bool t, .int .u64 (q : Int)] 91)).heap[V.heap.size + 1]? = some (.cells (staV p t q) 91 (0, 0)) := hal_new (by simp)
      have hs5 := eq_le (show ((V.alloc (.cells X 78)).alloc (.cells #[.int .i64 (p : Int), .bool t, .int .u64 (q : Int)] 91)).heap.size = V.heap.size + 2 by simp)
      obtain ⟨W5, hW5⟩ : ∃ W5, (V.alloc (.cells X 78)).alloc (.cells #[.int .i64 (p : Int), .bool t, .int .u64 (q : Int)] 91) = W5 := ⟨_, rfl⟩
      rw [hW5] at hk5 e8 e9 hs5 ⊢
      have f7 := (hk5.block _ (lt_of_block EV7.out) (fun e => e)).trans EV7.out
      have fB := (hk5.block _ (lt_of_block EVB.out) (fun e => e)).trans EVB.out
      have fS := (hk5.block _ (lt_of_block EVS.out) (fun e => e)).trans EVS.out
      have hkw : Keeps (fun _ => False) w W5 := HkV.out.trans hk5
      have hpc5 := Hp.out.below hkw.new (Nat.le_refl _)
      have hm5 := Hmw.out.keep hkw (fun e => e)
      have hneedM : ∀ k o, k = w.heap.size + 1 + 1 ∨ k = M → A ≠ some ⟨k, o, none⟩ := by
        rintro k o (rfl | rfl)
        · intro e
          obtain ⟨b, o2, e2, hc⟩ := Hp.out.2 (by omega)
          have := lt_of_cell (hc 0 (by omega)).1
          rw [e2] at e
          injection e with e
          injection e with e _
          omega
        · exact pcs_not_map Hp.out (by omega) Hmw.out o
      have hneed : ∀ k, (∃ o, A = some ⟨k, o, none⟩) → k < w.heap.size := by
        rintro k ⟨o, e⟩
        obtain ⟨b, o2, e2, hc⟩ := Hp.out.2 (by omega)
        have := lt_of_cell (hc 0 (by omega)).1
        rw [e2] at e
        injection e with e
        injection e with e _
        omega
      have hlen := eq_le Hp.out.1
      clear hW5 c1 c2
      refine wpIn_rangeL (gf := 77) (lb := #[.pointer (some ⟨V.heap.size + 1, 0, none⟩), .pointer (some ⟨V.heap.size, 0, none⟩)]) rfl (enters_of Try.func77 (by kernel_rfl) rfl) (behind_seq X A n cap off lo hi T M V.heap.size (V.heap.size + 1) p q x t ps W5 e8 hX e9 hpc5 hn1 hn hq256 Hx.out hx16)
        (by rintro k (rfl | rfl | h); omega; omega; have := hneed k h; omega) (fun _ => rfl) (fun j => j = w.heap.size + 1 + 1 ∨ j = M) (by
          rintro k (rfl | rfl)
          · refine ⟨by omega, ?_⟩
            rintro (h | h | h); omega; omega; have := hneed _ h; omega
          · refine ⟨by omega, ?_⟩
            rintro (h | h | ⟨o, h⟩)
            · omega
            · omega
            · exact hneedM _ o (.inr rfl) h)
        (CI (w.heap.size + 1 + 1) M nn k v0 T (codesL ps) n W5) (fun _ _ _ => False) (fun pre => CI.abides (by omega) (by omega) (Nat.le_refl _)) (fun _ _ _ _ h _ => h) ?start ?round ?done ?stop
      case start => exact ⟨by simpa using f7, by simpa using hm5, Keeps.refl _ _⟩
      case stop => rintro D2 cd pre b post W' _ _ _ h; exact h.elim
      case round =>
        intro l pre b post W6 hxs hl1 hl2 hr hI m
        obtain ⟨p2, t2, hE, hbl⟩ := staE_form b
        rw [hE]
        have hbm : b ∈ nexts T (codesL ps) ⟨x, q⟩ := by rw [hxs]; simp
        obtain ⟨s, hs, hgo⟩ := List.mem_map.1 hbm
        obtain ⟨hsc, hcan⟩ := List.mem_filter.1 hs
        have hs16 := codes_ok ps s hsc
        have hbl2 : b.last = s := by rw [← hgo]; rfl
        have hbq : b.pcs < 2 ^ n := by rw [← hgo]; exact go_lt Hq.out (by omega)
        have hlb : left n b + 1 = k := by rw [← hgo, ← Hleft.out]; exact left_go (by omega) hcan
        have hp2 : p2 < 8 := by cases t2 <;> simp at hbl <;> omega
        have hb16 : b.last < 16 := by omega
        have hprelen : pre.length + 1 ≤ 16 := by
          have h1 := congrArg List.length hxs
          unfold nexts at h1
          rw [List.length_map, List.length_append, List.length_cons] at h1
          have h2 := List.length_filter_le (can T ⟨x, q⟩) (codesL ps)
          have h3 := hcl
          omega
        have Hby := Lib.hid (heap_alloc_new_ W6 (.cells #[.int .i64 (p2 : Int), .bool t2, .int .u64 (b.pcs : Int)] 91))
        have HXS := Lib.hid hxs
        have Hbl := Lib.hid hbl
        have Hlb := Lib.hid hlb
        have Hpl := Lib.hid hprelen
        have Hbq := Lib.hid hbq
        clear hE hxs hbm hs hgo hsc hcan hbl2 hbl hlb hprelen hbq hr
        gi_wp2_with fail
        refine ⟨keep_alloc _ _ _, ?_⟩
        intro W9 hB9 hI9
        obtain ⟨c9, hc9⟩ : ∃ c9, v0 + (pre.map (cntA T (codesL ps) n)).sum = c9 := ⟨_, rfl⟩
        have F7 := Lib.hid (show W9.heap[w.heap.size + 1 + 1]? = some (.cells #[.int .i64 (c9 : Int)] 2 (0, 0)) by rw [← hc9]; exact hI9.1)
        have FM := Lib.hid hI9.2.1
        have FK := Lib.hid hI9.2.2
        have FB := Lib.hid ((hI9.2.2.block _ (lt_of_block fB) (by omega)).trans fB)
        have F8 := Lib.hid ((hB9.keeps.block _ (by simp) (by omega)).trans Hby.out)
        have hs9 := hB9.keeps.size
        simp only [World.size_alloc] at hs9
        have FP := Lib.hid (hpc5.keep hI9.2.2 (fun k o h => hneedM k o h))
        have Hc9 := Lib.hid hc9
        have hc9b : c9 ≤ 1 + 16 * 4294967296 := by
          rw [← hc9]
          have h1 := sum_le (pre.map (cntA T (codesL ps) n)) 4294967296 (fun y hy => by
            obtain ⟨z, _, rfl⟩ := List.mem_map.1 hy
            exact cntA_le hn (hcl) z)
          rw [List.length_map] at h1
          have h2 := Hpl.out
          have h3 : pre.length * 4294967296 ≤ 16 * 4294967296 := Nat.mul_le_mul_right _ (by omega)
          have h4 := Hv0.out
          have h5 : v0 ≤ 1 := by rw [h4]; split <;> omega
          omega
        have hcb : cntA T (codesL ps) n b ≤ 4294967296 := cntA_le hn (hcl) b
        clear hI hI9 hB9 f7 fB fS hc9
        have HS := Lib.hid (show ∀ W', Keeps (fun j => j = M) W9 W' → (fun W' => Keeps (fun j => j = M) W9 W' ∧ W'.cell? ⟨w.heap.size + 1 + 1, 0, none⟩ = some (.int .i64 (c9 : Int)) ∧ runO Try.prog (ld 78) (.pointer (some ⟨w.heap.size, 0, none⟩)) W' = .ok (.value (.agg X)) W' ∧ W'.cell? ⟨W6.heap.size, 0, none⟩ = some (.int .i64 (p2 : Int)) ∧ W'.cell? ⟨W6.heap.size, 1, none⟩ = some (.bool t2) ∧ W'.cell? ⟨W6.heap.size, 2, none⟩ = some (.int .u64 (b.pcs : Int))) W' from fun W' hk => by
          have g7 := (hk.block _ (lt_of_block F7.out) (by omega)).trans F7.out
          have g8 := (hk.block _ (lt_of_block F8.out) (by omega)).trans F8.out
          have gB := (hk.block _ (lt_of_block FB.out) (by omega)).trans FB.out
          exact ⟨hk, by rw [cell_row g7]; rfl, run_ld78 gB hX.size, by rw [cell_row g8]; rfl, by rw [cell_row g8]; rfl, by rw [cell_row g8]; rfl⟩)
        gi_wp2_with fail
        refine region_R (z := 5) (S := (fun W' => Keeps (fun j => j = M) W9 W' ∧ W'.cell? ⟨w.heap.size + 1 + 1, 0, none⟩ = some (.int .i64 (c9 : Int)) ∧ runO Try.prog (ld 78) (.pointer (some ⟨w.heap.size, 0, none⟩)) W' = .ok (.value (.agg X)) W' ∧ W'.cell? ⟨W6.heap.size, 0, none⟩ = some (.int .i64 (p2 : Int)) ∧ W'.cell? ⟨W6.heap.size, 1, none⟩ = some (.bool t2) ∧ W'.cell? ⟨W6.heap.size, 2, none⟩ = some (.int .u64 (b.pcs : Int)))) (by kernel_rfl) ?_
        have hS0 := HS.out W9.drew (Keeps.of_new (drew_b W9 1))
        refine anyR_take (i := 0) (v := .int .i64 (c9 : Int)) rfl (by decide) (by kernel_rfl) (by kernel_rfl) (by kernel_rfl) (by kernel_rfl) (fun _ _ _ h => h) (Or.inl ⟨by rfl, by intro W' hSw; (try dsimp only at hSw); go_simp⟩) hS0 ?_
        simp only [Act.put, List.setIfInBounds_toArray, List.set_cons_zero, List.set_cons_succ]
        refine anyR_take (i := 1) (oi := { dst := some 32, op := Op.load 78 (Operand.tmp 2), type := 78, pos := "state.go:50", after := #[], guard := none }) (v := .agg X) rfl (by decide) (by kernel_rfl) (by kernel_rfl) (by kernel_rfl) (by kernel_rfl) (fun _ _ _ h => h) (Or.inl ⟨by rfl, by intro W' hSw; (try dsimp only at hSw); go_simp⟩) hS0 ?_
        simp only [Act.put, List.setIfInBounds_toArray, List.set_cons_zero, List.set_cons_succ]
        refine anyR_take (i := 2) (v := .agg #[.int .i64 (p2 : Int), .bool t2, .int .u64 (b.pcs : Int)]) rfl (by decide) (by kernel_rfl) (by kernel_rfl) (by kernel_rfl) (by kernel_rfl) (fun _ _ _ h => h) (Or.inl ⟨by rfl, by intro W' hSw; (try dsimp only at hSw); go_simp⟩) hS0 ?_
        simp only [Act.put, List.setIfInBounds_toArray, List.set_cons_zero, List.set_cons_succ]
        refine anyR_one (i := 3) (by kernel_rfl) rfl (by rfl) ?_
        intro K hK
        have HKK := Lib.hid hK
        clear hK hS0
        go_simp
        obtain ⟨k', hk'⟩ : ∃ k', k = k' + 1 := ⟨left n b, Hlb.out.symm⟩
        have hbud : nn + pre.length * 17 ^ k + 17 ^ (k' + 1) ≤ 1000000000000000000 := by
          have h1 := Hnn.out
          have h2 : pre.length * 17 ^ k ≤ 15 * 17 ^ k := Nat.mul_le_mul_right _ (by have := Hpl.out; omega)
          rw [← hk']
          rw [Nat.pow_succ] at h1
          omega
        refine ⟨trivial, wide_d, CallsIn.inRound l ((callsIn_wide.2 (Hih.out k' hk' p2 b.pcs b.last _ t2 _ (FP.out.below (drew_b W9 1) (Nat.le_refl _)) (FM.out.keep (Mut := fun _ => False) (Keeps.of_new (drew_b W9 1)) (fun e => e)) hbud Hbq.out hb16 Hbl.out (show left n b = k' by have h1 := Hlb.out; rw [hk'] at h1; exact Nat.succ.inj h1))).mono ?_)⟩
        rintro e W10 ⟨rfl, hm10, hk10⟩
        have hk11 : Keeps (fun j => j = M) W9 W10 := (Keeps.of_new (drew_b W9 1)).trans hk10
        have hS0 := HS.out W10 hk11
        refine HKK.out _ _ (fun _ _ => hS0) ?_
        have HM10 := Lib.hid hm10
        have HK11 := Lib.hid hk11
        clear hm10 hk10 hk11 HKK K
        obtain ⟨d9, hd9⟩ : ∃ d9, cntA T (codesL ps) n b = d9 := ⟨_, rfl⟩
        have hcb2 : d9 ≤ 4294967296 := by rw [← hd9]; exact hcb
        rw [show cntA T (codesL ps) n { last := b.last, pcs := b.pcs } = d9 from hd9]
        have Hd9 := Lib.hid hd9
        clear hd9 hcb
        have hwr : IntKind.i64.wrap ((c9 : Int) + (d9 : Int)) = (c9 : Int) + (d9 : Int) := IntWalk.i64_in _ (by omega)
        refine anyR_free (i := 4) (v := .int .i64 ((c9 : Int) + (d9 : Int))) rfl (by decide) (by kernel_rfl) (by kernel_rfl) (by kernel_rfl) (fun _ _ _ h => h) (Or.inl ⟨by rfl, by intro W' _; go_simp⟩) hS0 ?_
        simp only [Act.put, List.setIfInBounds_toArray, List.set_cons_zero, List.set_cons_succ]
        refine anyR_one (i := 5) (by kernel_rfl) rfl (by rfl) ?_
        intro K hK
        have HKK := Lib.hid hK
        clear hK hS0 hwr
        have h710 := (HK11.out.block _ (lt_of_block F7.out) (by omega)).trans F7.out
        have hcell : W10.cell? ⟨w.heap.size + 1 + 1, 0, none⟩ = some (.int .i64 (c9 : Int)) := by rw [cell_row h710]; rfl
        have hfroz : W10.frozen? ⟨w.heap.size + 1 + 1, 0, none⟩ = false := frozen_row h710
        go_simp
        refine HKK.out _ _ (fun e => absurd rfl e) ?_
        refine anyR_done (by kernel_rfl) ?_ _
        have hset := keeps_setCell W10 (w.heap.size + 1 + 1) 0 (.int .i64 ((c9 : Int) + (d9 : Int)))
        have hK : Keeps (fun j => j = w.heap.size + 1 + 1 ∨ j = M) W9 (W10.setCell ⟨w.heap.size + 1 + 1, 0, none⟩ (.int .i64 ((c9 : Int) + (d9 : Int)))) := (HK11.out.mono (fun _ _ e => .inr e)).trans (hset.mono (fun _ _ e => .inl e))
        have hfin : CI (w.heap.size + 1 + 1) M nn k v0 T (codesL ps) n W5 (pre ++ [b]) (W10.setCell ⟨w.heap.size + 1 + 1, 0, none⟩ (.int .i64 ((c9 : Int) + (d9 : Int)))) := by
          refine ⟨?_, ?_, FK.out.trans hK⟩
          · rw [set_same 0 _ h710, List.map_append, List.sum_append]
            have e1 : v0 + ((pre.map (cntA T (codesL ps) n)).sum + ([b].map (cntA T (codesL ps) n)).sum) = c9 + d9 := by
              rw [← Nat.add_assoc, Hc9.out]; simp [Hd9.out]
            rw [e1]
            simp
          · refine (HM10.out.mono ?_).keep hset (by omega)
            rw [List.length_append, List.length_singleton, hk', Nat.add_mul]
            omega
        clear hcell hfroz
        gi_wp2_with fail
        exact ⟨hK, hfin⟩
      case done =>
        intro D2 W9 hD2 hDW hI9 hKd
        have hcnt := cntA_eq (T := T) (cs := codesL ps) (a := ⟨x, q⟩) (n := n) (by have := codes_ok ps; rw [Hp.out.1] at this; exact this) Hq.out
        obtain ⟨c9, hc9⟩ : ∃ c9, v0 + ((nexts T (codesL ps) ⟨x, q⟩).map (cntA T (codesL ps) n)).sum = c9 := ⟨_, rfl⟩
        have hval : cntA T (codesL ps) n ⟨x, q⟩ = c9 := by rw [hcnt, ← hc9, Hv0.out]
        have F7 := Lib.hid (show W9.heap[w.heap.size + 1 + 1]? = some (.cells #[.int .i64 (c9 : Int)] 2 (0, 0)) by rw [← hc9]; exact hI9.1)
        have FK := Lib.hid hI9.2.2
        have FB := Lib.hid ((hI9.2.2.block _ (lt_of_block fB) (by omega)).trans fB)
        have FS := Lib.hid ((hI9.2.2.block _ (lt_of_block fS) (by omega)).trans fS)
        obtain ⟨D3, hown3, hD3⟩ := hI9.2.1
        have hc9b : c9 ≤ 4294967296 := by rw [← hval]; exact cntA_le hn (hcl) _
        have hnexts : (nexts T (codesL ps) ⟨x, q⟩).length ≤ 16 := by
          unfold nexts
          rw [List.length_map]
          exact Nat.le_trans (List.length_filter_le _ _) (hcl)
        have hbudget : nn + (nexts T (codesL ps) ⟨x, q⟩).length * 17 ^ k + 1 ≤ nn + 17 ^ (k + 1) := by
          have h2 : (nexts T (codesL ps) ⟨x, q⟩).length * 17 ^ k ≤ 16 * 17 ^ k := Nat.mul_le_mul_right _ hnexts
          have h3 : 1 ≤ 17 ^ k := Nat.one_le_pow _ _ (by omega)
          rw [Nat.pow_succ]
          omega
        obtain ⟨W10, hrun3, hown4, hgr⟩ := hown3.update key91 Try.underlying76 (by have := Hnn.out; unfold maxLen; omega) (key_some hp8 hq256 t) (plainElem_int Try.underlying2 (WalkArith.wf_i64 (n := (c9 : Int)) (by omega)))
        unfold staV at hrun3
        have HM10 := Lib.hid (show Memo W10 M (nn + 17 ^ (k + 1)) T (codesL ps) n by
          have h1 := Memo.put (a := ⟨x, q⟩) hown3.isMap hD3 ⟨hx16, hq256⟩ (by rw [kls_form Hx.out]; exact key91.key (key_some hp8 hq256 t)) (by rw [hval, kls_form Hx.out]; exact hown4)
          exact h1.mono hbudget)
        have HG := Lib.hid (Keeps.of_grown (Mut := fun j => j = M) hgr (fun r e => by cases e; rfl))
        have HKd := Lib.hid hKd
        have Hval := Lib.hid hval
        have c260 : W9.cell? ⟨w.heap.size, 260, none⟩ = some (.map (some M)) := by rw [cell_row FB.out]; exact hX.map
        have s0 : W9.cell? ⟨w.heap.size + 1, 0, none⟩ = some (.int .i64 (p : Int)) := by rw [cell_row FS.out]; rfl
        have s1 : W9.cell? ⟨w.heap.size + 1, 1, none⟩ = some (.bool t) := by rw [cell_row FS.out]; rfl
        have s2 : W9.cell? ⟨w.heap.size + 1, 2, none⟩ = some (.int .u64 (q : Int)) := by rw [cell_row FS.out]; rfl
        have c7 : W9.cell? ⟨w.heap.size + 1 + 1, 0, none⟩ = some (.int .i64 (c9 : Int)) := by rw [cell_row F7.out]; rfl
        have c7b : W10.cell? ⟨w.heap.size + 1 + 1, 0, none⟩ = some (.int .i64 (c9 : Int)) := by rw [cell_row ((HG.out.block _ (lt_of_block F7.out) (by omega)).trans F7.out)]; rfl
        clear hcnt hc9 hval hI9 hown3 hD3 hown4 hgr hKd f7 fB fS hbudget hnexts
        gi_wp2_with fail
        have hKd2 := (HG.out.block _ hDW (by omega)).trans HKd.out
        have hp2 := Keeps.putObj (Mut := fun j => j = D2) W10 D2 (.deferred none) rfl
        refine ⟨by simp, .inl ⟨_, _, rfl, run_takeDeferred hKd2, ?_⟩⟩
        refine ⟨_, results_tmp rfl _ _ _, by rw [Hval.out]; rfl, HM10.out.keep hp2 (by omega), ?_⟩
        have h1 : Keeps (fun j => j = w.heap.size + 1 + 1 ∨ j = M ∨ j = D2) W5 (W10.putObj D2 (.deferred none)) := ((FK.out.mono (fun _ _ e => by rcases e with e | e <;> simp [e])).trans (HG.out.mono (fun _ _ e => by simp [e]))).trans (hp2.mono (fun _ _ e => by simp [e]))
        have h2 := hkw.none.trans h1
        exact h2.mono (fun j hj e => by rcases e with e | e | e <;> omega)
    · have d0 : ((q : Int) == 2 ^ n - 1) = false := by rw [beq_eq_false_iff_ne]; exact hfull
      have hkq : ∀ a, Keeps (fun k => k = w.heap.size + 1 + 1) W2 (W2.drewN a) := fun a => Keeps.of_new (drew_b W2 a)
      have h78 : ∀ a, runO Try.prog (ld 78) (.pointer (some ⟨w.heap.size, 0, none⟩)) (W2.drewN a) = .ok (.value (.agg X)) (W2.drewN a) := fun a => run_ld78 (((hkq a).block _ (lt_of_block EB2.out) (by omega)).trans EB2.out) hX.size
      have Hfull := Lib.hid hfull
      have Hkq := Lib.hid hkq
      clear hfull hkq
      gi_quiet (fail)
      gi_wp2_with fail
      clear h78
      obtain ⟨v0, hv0⟩ : ∃ v0 : Nat, v0 = if q = 2 ^ n - 1 then 1 else 0 := ⟨_, rfl⟩
      have hv01 : v0 = 0 := by rw [hv0, if_neg]; have h1 := Hfull.out; have h2 := Nat.one_le_two_pow (n := n); have h3 : ((2 ^ n : Nat) : Int) = 2 ^ n := Int.natCast_pow 2 n; omega
      have hs1 := (Hkq.out nq).size
      obtain ⟨V, hV⟩ : ∃ V, W2.drewN nq = V := ⟨_, rfl⟩
      have EV7 := Lib.hid (show V.heap[w.heap.size + 1 + 1]? = some (.cells #[.int .i64 (v0 : Int)] 2 (0, 0)) by rw [hv01, ← hV]; exact E7.out)
      have EVB := Lib.hid (show V.heap[w.heap.size]? = some (.cells X 78 (0, 0)) by rw [← hV]; exact ((Hkq.out nq).block _ (lt_of_block EB2.out) (by omega)).trans EB2.out)
      have EVS := Lib.hid (show V.heap[w.heap.size + 1]? = some (.cells #[.int .i64 (p : Int), .bool t, .int .u64 (q : Int)] 91 (0, 0)) by rw [← hV]; exact ((Hkq.out nq).block _ (lt_of_block ES2.out) (by omega)).trans ES2.out)
      have HkV := Lib.hid (show Keeps (fun _ => False) w V by rw [← hV]; exact (Hk2.out.none.trans (Hkq.out nq)).mono (fun k hk e => by omega))
      have hsV : w.heap.size + 3 ≤ V.heap.size := by rw [← hV]; omega
      rw [hV]
      have Hv0 := Lib.hid hv0
      clear hV hv0 hv01 hs1 c7 fr7 s0 s1 d0 hw1 hw2
      refine ⟨trivial, (callsIn_wide.2 (behind70 _ _ _)).mono ?_⟩
      rintro e w5 ⟨rfl, rfl⟩
      gi_wp2_with fail
      have hk5 : Keeps (fun _ => False) V ((V.alloc (.cells X 78)).alloc (.cells #[.int .i64 (p : Int), .bool t, .int .u64 (q : Int)] 91)) := (keep_alloc _ _ _).trans (keep_alloc _ _ _)
      have e8 : ((V.alloc (.cells X 78)).alloc (.cells #[.int .i64 (p : Int), .bool t, .int .u64 (q : Int)] 91)).heap[V.heap.size]? = some (.cells X 78 (0, 0)) := hal_old (heap_alloc_new_ _ _)
      have e9 : ((V.alloc (.cells X 78)).alloc (.cells #[.int .i64 (p : Int), .bool t, .int .u64 (q : Int)] 91)).heap[V.heap.size + 1]? = some (.cells (staV p t q) 91 (0, 0)) := hal_new (by simp)
      have hs5 := eq_le (show ((V.alloc (.cells X 78)).alloc (.cells #[.int .i64 (p : Int), .bool t, .int .u64 (q : Int)] 91)).heap.size = V.heap.size + 2 by simp)
      obtain ⟨W5, hW5⟩ : ∃ W5, (V.alloc (.cells X 78)).alloc (.cells #[.int .i64 (p : Int), .bool t, .int .u64 (q : Int)] 91) = W5 := ⟨_, rfl⟩
      rw [hW5] at hk5 e8 e9 hs5 ⊢
      have f7 := (hk5.block _ (lt_of_block EV7.out) (fun e => e)).trans EV7.out
      have fB := (hk5.block _ (lt_of_block EVB.out) (fun e => e)).trans EVB.out
      have fS := (hk5.block _ (lt_of_block EVS.out) (fun e => e)).trans EVS.out
      have hkw : Keeps (fun _ => False) w W5 := HkV.out.trans hk5
      have hpc5 := Hp.out.below hkw.new (Nat.le_refl _)
      have hm5 := Hmw.out.keep hkw (fun e => e)
      have hneedM : ∀ k o, k = w.heap.size + 1 + 1 ∨ k = M → A ≠ some ⟨k, o, none⟩ := by
        rintro k o (rfl | rfl)
        · intro e
          obtain ⟨b, o2, e2, hc⟩ := Hp.out.2 (by omega)
          have := lt_of_cell (hc 0 (by omega)).1
          rw [e2] at e
          injection e with e
          injection e with e _
          omega
        · exact pcs_not_map Hp.out (by omega) Hmw.out o
      have hneed : ∀ k, (∃ o, A = some ⟨k, o, none⟩) → k < w.heap.size := by
        rintro k ⟨o, e⟩
        obtain ⟨b, o2, e2, hc⟩ := Hp.out.2 (by omega)
        have := lt_of_cell (hc 0 (by omega)).1
        rw [e2] at e
        injection e with e
        injection e with e _
        omega
      have hlen := eq_le Hp.out.1
      clear hW5 c1 c2
      refine wpIn_rangeL (gf := 77) (lb := #[.pointer (some ⟨V.heap.size + 1, 0, none⟩), .pointer (some ⟨V.heap.size, 0, none⟩)]) rfl (enters_of Try.func77 (by kernel_rfl) rfl) (behind_seq X A n cap off lo hi T M V.heap.size (V.heap.size + 1) p q x t ps W5 e8 hX e9 hpc5 hn1 hn hq256 Hx.out hx16)
        (by rintro k (rfl | rfl | h); omega; omega; have := hneed k h; omega) (fun _ => rfl) (fun j => j = w.heap.size + 1 + 1 ∨ j = M) (by
          rintro k (rfl | rfl)
          · refine ⟨by omega, ?_⟩
            rintro (h | h | h); omega; omega; have := hneed _ h; omega
          · refine ⟨by omega, ?_⟩
            rintro (h | h | ⟨o, h⟩)
            · omega
            · omega
            · exact hneedM _ o (.inr rfl) h)
        (CI (w.heap.size + 1 + 1) M nn k v0 T (codesL ps) n W5) (fun _ _ _ => False) (fun pre => CI.abides (by omega) (by omega) (Nat.le_refl _)) (fun _ _ _ _ h _ => h) ?start2 ?round2 ?done2 ?stop2
      case start2 => exact ⟨by simpa using f7, by simpa using hm5, Keeps.refl _ _⟩
      case stop2 => rintro D2 cd pre b post W' _ _ _ h; exact h.elim
      case round2 =>
        intro l pre b post W6 hxs hl1 hl2 hr hI m
        obtain ⟨p2, t2, hE, hbl⟩ := staE_form b
        rw [hE]
        have hbm : b ∈ nexts T (codesL ps) ⟨x, q⟩ := by rw [hxs]; simp
        obtain ⟨s, hs, hgo⟩ := List.mem_map.1 hbm
        obtain ⟨hsc, hcan⟩ := List.mem_filter.1 hs
        have hs16 := codes_ok ps s hsc
        have hbl2 : b.last = s := by rw [← hgo]; rfl
        have hbq : b.pcs < 2 ^ n := by rw [← hgo]; exact go_lt Hq.out (by omega)
        have hlb : left n b + 1 = k := by rw [← hgo, ← Hleft.out]; exact left_go (by omega) hcan
        have hp2 : p2 < 8 := by cases t2 <;> simp at hbl <;> omega
        have hb16 : b.last < 16 := by omega
        have hprelen : pre.length + 1 ≤ 16 := by
          have h1 := congrArg List.length hxs
          unfold nexts at h1
          rw [List.length_map, List.length_append, List.length_cons] at h1
          have h2 := List.length_filter_le (can T ⟨x, q⟩) (codesL ps)
          have h3 := hcl
          omega
        have Hby := Lib.hid (heap_alloc_new_ W6 (.cells #[.int .i64 (p2 : Int), .bool t2, .int .u64 (b.pcs : Int)] 91))
        have HXS := Lib.hid hxs
        have Hbl := Lib.hid hbl
        have Hlb := Lib.hid hlb
        have Hpl := Lib.hid hprelen
        have Hbq := Lib.hid hbq
        clear hE hxs hbm hs hgo hsc hcan hbl2 hbl hlb hprelen hbq hr
        gi_wp2_with fail
        refine ⟨keep_alloc _ _ _, ?_⟩
        intro W9 hB9 hI9
        obtain ⟨c9, hc9⟩ : ∃ c9, v0 + (pre.map (cntA T (codesL ps) n)).sum = c9 := ⟨_, rfl⟩
        have F7 := Lib.hid (show W9.heap[w.heap.size + 1 + 1]? = some (.cells #[.int .i64 (c9 : Int)] 2 (0, 0)) by rw [← hc9]; exact hI9.1)
        have FM := Lib.hid hI9.2.1
        have FK := Lib.hid hI9.2.2
        have FB := Lib.hid ((hI9.2.2.block _ (lt_of_block fB) (by omega)).trans fB)
        have F8 := Lib.hid ((hB9.keeps.block _ (by simp) (by omega)).trans Hby.out)
        have hs9 := hB9.keeps.size
        simp only [World.size_alloc] at hs9
        have FP := Lib.hid (hpc5.keep hI9.2.2 (fun k o h => hneedM k o h))
        have Hc9 := Lib.hid hc9
        have hc9b : c9 ≤ 1 + 16 * 4294967296 := by
          rw [← hc9]
          have h1 := sum_le (pre.map (cntA T (codesL ps) n)) 4294967296 (fun y hy => by
            obtain ⟨z, _, rfl⟩ := List.mem_map.1 hy
            exact cntA_le hn (hcl) z)
          rw [List.length_map] at h1
          have h2 := Hpl.out
          have h3 : pre.length * 4294967296 ≤ 16 * 4294967296 := Nat.mul_le_mul_right _ (by omega)
          have h4 := Hv0.out
          have h5 : v0 ≤ 1 := by rw [h4]; split <;> omega
          omega
        have hcb : cntA T (codesL ps) n b ≤ 4294967296 := cntA_le hn (hcl) b
        clear hI hI9 hB9 f7 fB fS hc9
        have HS := Lib.hid (show ∀ W', Keeps (fun j => j = M) W9 W' → (fun W' => Keeps (fun j => j = M) W9 W' ∧ W'.cell? ⟨w.heap.size + 1 + 1, 0, none⟩ = some (.int .i64 (c9 : Int)) ∧ runO Try.prog (ld 78) (.pointer (some ⟨w.heap.size, 0, none⟩)) W' = .ok (.value (.agg X)) W' ∧ W'.cell? ⟨W6.heap.size, 0, none⟩ = some (.int .i64 (p2 : Int)) ∧ W'.cell? ⟨W6.heap.size, 1, none⟩ = some (.bool t2) ∧ W'.cell? ⟨W6.heap.size, 2, none⟩ = some (.int .u64 (b.pcs : Int))) W' from fun W' hk => by
          have g7 := (hk.block _ (lt_of_block F7.out) (by omega)).trans F7.out
          have g8 := (hk.block _ (lt_of_block F8.out) (by omega)).trans F8.out
          have gB := (hk.block _ (lt_of_block FB.out) (by omega)).trans FB.out
          exact ⟨hk, by rw [cell_row g7]; rfl, run_ld78 gB hX.size, by rw [cell_row g8]; rfl, by rw [cell_row g8]; rfl, by rw [cell_row g8]; rfl⟩)
        gi_wp2_with fail
        refine region_R (z := 5) (S := (fun W' => Keeps (fun j => j = M) W9 W' ∧ W'.cell? ⟨w.heap.size + 1 + 1, 0, none⟩ = some (.int .i64 (c9 : Int)) ∧ runO Try.prog (ld 78) (.pointer (some ⟨w.heap.size, 0, none⟩)) W' = .ok (.value (.agg X)) W' ∧ W'.cell? ⟨W6.heap.size, 0, none⟩ = some (.int .i64 (p2 : Int)) ∧ W'.cell? ⟨W6.heap.size, 1, none⟩ = some (.bool t2) ∧ W'.cell? ⟨W6.heap.size, 2, none⟩ = some (.int .u64 (b.pcs : Int)))) (by kernel_rfl) ?_
        have hS0 := HS.out W9.drew (Keeps.of_new (drew_b W9 1))
        refine anyR_take (i := 0) (v := .int .i64 (c9 : Int)) rfl (by decide) (by kernel_rfl) (by kernel_rfl) (by kernel_rfl) (by kernel_rfl) (fun _ _ _ h => h) (Or.inl ⟨by rfl, by intro W' hSw; (try dsimp only at hSw); go_simp⟩) hS0 ?_
        simp only [Act.put, List.setIfInBounds_toArray, List.set_cons_zero, List.set_cons_succ]
        refine anyR_take (i := 1) (oi := { dst := some 32, op := Op.load 78 (Operand.tmp 2), type := 78, pos := "state.go:50", after := #[], guard := none }) (v := .agg X) rfl (by decide) (by kernel_rfl) (by kernel_rfl) (by kernel_rfl) (by kernel_rfl) (fun _ _ _ h => h) (Or.inl ⟨by rfl, by intro W' hSw; (try dsimp only at hSw); go_simp⟩) hS0 ?_
        simp only [Act.put, List.setIfInBounds_toArray, List.set_cons_zero, List.set_cons_succ]
        refine anyR_take (i := 2) (v := .agg #[.int .i64 (p2 : Int), .bool t2, .int .u64 (b.pcs : Int)]) rfl (by decide) (by kernel_rfl) (by kernel_rfl) (by kernel_rfl) (by kernel_rfl) (fun _ _ _ h => h) (Or.inl ⟨by rfl, by intro W' hSw; (try dsimp only at hSw); go_simp⟩) hS0 ?_
        simp only [Act.put, List.setIfInBounds_toArray, List.set_cons_zero, List.set_cons_succ]
        refine anyR_one (i := 3) (by kernel_rfl) rfl (by rfl) ?_
        intro K hK
        have HKK := Lib.hid hK
        clear hK hS0
        go_simp
        obtain ⟨k', hk'⟩ : ∃ k', k = k' + 1 := ⟨left n b, Hlb.out.symm⟩
        have hbud : nn + pre.length * 17 ^ k + 17 ^ (k' + 1) ≤ 1000000000000000000 := by
          have h1 := Hnn.out
          have h2 : pre.length * 17 ^ k ≤ 15 * 17 ^ k := Nat.mul_le_mul_right _ (by have := Hpl.out; omega)
          rw [← hk']
          rw [Nat.pow_succ] at h1
          omega
        refine ⟨trivial, wide_d, CallsIn.inRound l ((callsIn_wide.2 (Hih.out k' hk' p2 b.pcs b.last _ t2 _ (FP.out.below (drew_b W9 1) (Nat.le_refl _)) (FM.out.keep (Mut := fun _ => False) (Keeps.of_new (drew_b W9 1)) (fun e => e)) hbud Hbq.out hb16 Hbl.out (show left n b = k' by have h1 := Hlb.out; rw [hk'] at h1; exact Nat.succ.inj h1))).mono ?_)⟩
        rintro e W10 ⟨rfl, hm10, hk10⟩
        have hk11 : Keeps (fun j => j = M) W9 W10 := (Keeps.of_new (drew_b W9 1)).trans hk10
        have hS0 := HS.out W10 hk11
        refine HKK.out _ _ (fun _ _ => hS0) ?_
        have HM10 := Lib.hid hm10
        have HK11 := Lib.hid hk11
        clear hm10 hk10 hk11 HKK K
        obtain ⟨d9, hd9⟩ : ∃ d9, cntA T (codesL ps) n b = d9 := ⟨_, rfl⟩
        have hcb2 : d9 ≤ 4294967296 := by rw [← hd9]; exact hcb
        rw [show cntA T (codesL ps) n { last := b.last, pcs := b.pcs } = d9 from hd9]
        have Hd9 := Lib.hid hd9
        clear hd9 hcb
        have hwr : IntKind.i64.wrap ((c9 : Int) + (d9 : Int)) = (c9 : Int) + (d9 : Int) := IntWalk.i64_in _ (by omega)
        refine anyR_free (i := 4) (v := .int .i64 ((c9 : Int) + (d9 : Int))) rfl (by decide) (by kernel_rfl) (by kernel_rfl) (by kernel_rfl) (fun _ _ _ h => h) (Or.inl ⟨by rfl, by intro W' _; go_simp⟩) hS0 ?_
        simp only [Act.put, List.setIfInBounds_toArray, List.set_cons_zero, List.set_cons_succ]
        refine anyR_one (i := 5) (by kernel_rfl) rfl (by rfl) ?_
        intro K hK
        have HKK := Lib.hid hK
        clear hK hS0 hwr
        have h710 := (HK11.out.block _ (lt_of_block F7.out) (by omega)).trans F7.out
        have hcell : W10.cell? ⟨w.heap.size + 1 + 1, 0, none⟩ = some (.int .i64 (c9 : Int)) := by rw [cell_row h710]; rfl
        have hfroz : W10.frozen? ⟨w.heap.size + 1 + 1, 0, none⟩ = false := frozen_row h710
        go_simp
        refine HKK.out _ _ (fun e => absurd rfl e) ?_
        refine anyR_done (by kernel_rfl) ?_ _
        have hset := keeps_setCell W10 (w.heap.size + 1 + 1) 0 (.int .i64 ((c9 : Int) + (d9 : Int)))
        have hK : Keeps (fun j => j = w.heap.size + 1 + 1 ∨ j = M) W9 (W10.setCell ⟨w.heap.size + 1 + 1, 0, none⟩ (.int .i64 ((c9 : Int) + (d9 : Int)))) := (HK11.out.mono (fun _ _ e => .inr e)).trans (hset.mono (fun _ _ e => .inl e))
        have hfin : CI (w.heap.size + 1 + 1) M nn k v0 T (codesL ps) n W5 (pre ++ [b]) (W10.setCell ⟨w.heap.size + 1 + 1, 0, none⟩ (.int .i64 ((c9 : Int) + (d9 : Int)))) := by
          refine ⟨?_, ?_, FK.out.trans hK⟩
          · rw [set_same 0 _ h710, List.map_append, List.sum_append]
            have e1 : v0 + ((pre.map (cntA T (codesL ps) n)).sum + ([b].map (cntA T (codesL ps) n)).sum) = c9 + d9 := by
              rw [← Nat.add_assoc, Hc9.out]; simp [Hd9.out]
            rw [e1]
            simp
          · refine (HM10.out.mono ?_).keep hset (by omega)
            rw [List.length_append, List.length_singleton, hk', Nat.add_mul]
            omega
        clear hcell hfroz
        gi_wp2_with fail
        exact ⟨hK, hfin⟩
      case done2 =>
        intro D2 W9 hD2 hDW hI9 hKd
        have hcnt := cntA_eq (T := T) (cs := codesL ps) (a := ⟨x, q⟩) (n := n) (by have := codes_ok ps; rw [Hp.out.1] at this; exact this) Hq.out
        obtain ⟨c9, hc9⟩ : ∃ c9, v0 + ((nexts T (codesL ps) ⟨x, q⟩).map (cntA T (codesL ps) n)).sum = c9 := ⟨_, rfl⟩
        have hval : cntA T (codesL ps) n ⟨x, q⟩ = c9 := by rw [hcnt, ← hc9, Hv0.out]
        have F7 := Lib.hid (show W9.heap[w.heap.size + 1 + 1]? = some (.cells #[.int .i64 (c9 : Int)] 2 (0, 0)) by rw [← hc9]; exact hI9.1)
        have FK := Lib.hid hI9.2.2
        have FB := Lib.hid ((hI9.2.2.block _ (lt_of_block fB) (by omega)).trans fB)
        have FS := Lib.hid ((hI9.2.2.block _ (lt_of_block fS) (by omega)).trans fS)
        obtain ⟨D3, hown3, hD3⟩ := hI9.2.1
        have hc9b : c9 ≤ 4294967296 := by rw [← hval]; exact cntA_le hn (hcl) _
        have hnexts : (nexts T (codesL ps) ⟨x, q⟩).length ≤ 16 := by
          unfold nexts
          rw [List.length_map]
          exact Nat.le_trans (List.length_filter_le _ _) (hcl)
        have hbudget : nn + (nexts T (codesL ps) ⟨x, q⟩).length * 17 ^ k + 1 ≤ nn + 17 ^ (k + 1) := by
          have h2 : (nexts T (codesL ps) ⟨x, q⟩).length * 17 ^ k ≤ 16 * 17 ^ k := Nat.mul_le_mul_right _ hnexts
          have h3 : 1 ≤ 17 ^ k := Nat.one_le_pow _ _ (by omega)
          rw [Nat.pow_succ]
          omega
        obtain ⟨W10, hrun3, hown4, hgr⟩ := hown3.update key91 Try.underlying76 (by have := Hnn.out; unfold maxLen; omega) (key_some hp8 hq256 t) (plainElem_int Try.underlying2 (WalkArith.wf_i64 (n := (c9 : Int)) (by omega)))
        unfold staV at hrun3
        have HM10 := Lib.hid (show Memo W10 M (nn + 17 ^ (k + 1)) T (codesL ps) n by
          have h1 := Memo.put (a := ⟨x, q⟩) hown3.isMap hD3 ⟨hx16, hq256⟩ (by rw [kls_form Hx.out]; exact key91.key (key_some hp8 hq256 t)) (by rw [hval, kls_form Hx.out]; exact hown4)
          exact h1.mono hbudget)
        have HG := Lib.hid (Keeps.of_grown (Mut := fun j => j = M) hgr (fun r e => by cases e; rfl))
        have HKd := Lib.hid hKd
        have Hval := Lib.hid hval
        have c260 : W9.cell? ⟨w.heap.size, 260, none⟩ = some (.map (some M)) := by rw [cell_row FB.out]; exact hX.map
        have s0 : W9.cell? ⟨w.heap.size + 1, 0, none⟩ = some (.int .i64 (p : Int)) := by rw [cell_row FS.out]; rfl
        have s1 : W9.cell? ⟨w.heap.size + 1, 1, none⟩ = some (.bool t) := by rw [cell_row FS.out]; rfl
        have s2 : W9.cell? ⟨w.heap.size + 1, 2, none⟩ = some (.int .u64 (q : Int)) := by rw [cell_row FS.out]; rfl
        have c7 : W9.cell? ⟨w.heap.size + 1 + 1, 0, none⟩ = some (.int .i64 (c9 : Int)) := by rw [cell_row F7.out]; rfl
        have c7b : W10.cell? ⟨w.heap.size + 1 + 1, 0, none⟩ = some (.int .i64 (c9 : Int)) := by rw [cell_row ((HG.out.block _ (lt_of_block F7.out) (by omega)).trans F7.out)]; rfl
        clear hcnt hc9 hval hI9 hown3 hD3 hown4 hgr hKd f7 fB fS hbudget hnexts
        gi_wp2_with fail
        have hKd2 := (HG.out.block _ hDW (by omega)).trans HKd.out
        have hp2 := Keeps.putObj (Mut := fun j => j = D2) W10 D2 (.deferred none) rfl
        refine ⟨by simp, .inl ⟨_, _, rfl, run_takeDeferred hKd2, ?_⟩⟩
        refine ⟨_, results_tmp rfl _ _ _, by rw [Hval.out]; rfl, HM10.out.keep hp2 (by omega), ?_⟩
        have h1 : Keeps (fun j => j = w.heap.size + 1 + 1 ∨ j = M ∨ j = D2) W5 (W10.putObj D2 (.deferred none)) := ((FK.out.mono (fun _ _ e => by rcases e with e | e <;> simp [e])).trans (HG.out.mono (fun _ _ e => by simp [e]))).trans (hp2.mono (fun _ _ e => by simp [e]))
        have h2 := hkw.none.trans h1
        exact h2.mono (fun j hj e => by rcases e with e | e | e <;> omega)
end Go.Proofs.Ytfmcfalghbaanaa
