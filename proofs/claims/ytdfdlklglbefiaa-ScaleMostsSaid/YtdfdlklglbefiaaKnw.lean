/- Stage 3: the map of choices, in memory. -/
import Derived.Test.YtdfdlklglbefiaaPlx
import Derived.Test.YtdfdlklglbefiaaBase
import Derived.Maps.OwnIn
import Derived.Maps.Views
import Derived.DeepKeys4
namespace Go.Proofs.Ytdfdlklglbefiaa
set_option linter.unusedSimpArgs false
set_option linter.unusedVariables false

/-- A scale, where its row lies, and how many tones it meets. -/
structure Chc where
  st : List Int
  A : Option Addr
  cp : Nat
  m : Nat
/-- A choice with one more step that is not yet in its scale. -/
def cand (zs : List Rg) (p : Int) (S : Int → Option Chc) (last : Int) : Option Chc := (S last).map fun c => { c with m := c.m + zs.countP (newT last p) }
def cands (zs : List Rg) (p : Int) (S : Int → Option Chc) (before : List Int) : List Chc := before.filterMap (cand zs p S)
theorem cands_snoc (zs : List Rg) (p : Int) (S : Int → Option Chc) (before : List Int) (q : Int) : cands zs p S (before ++ [q]) = cands zs p S before ++ (cand zs p S q).toList := by
  unfold cands
  rw [List.filterMap_append]
  cases h : cand zs p S q <;> simp [h]
def grtF (o : Option Chc) (x : Chc) : Option Chc := match o with
  | none => some x
  | some b => if b.m < x.m then some x else some b
/-- The first of the greatest ones. -/
def grt (xs : List Chc) : Option Chc := xs.foldl grtF none
theorem grt_snoc (pre : List Chc) (x : Chc) : grt (pre ++ [x]) = grtF (grt pre) x := by simp [grt, List.foldl_append]
theorem grt_go (xs : List Chc) : ∀ (o : Option Chc) (b : Chc), xs.foldl grtF o = some b → (o = some b ∨ b ∈ xs) ∧ (∀ x ∈ xs, x.m ≤ b.m) ∧ (∀ c, o = some c → c.m ≤ b.m) := by
  induction xs with
  | nil => intro o b h; exact ⟨.inl h, by simp, fun c hc => by rw [hc] at h; cases h; exact Nat.le_refl _⟩
  | cons x l ih =>
    intro o b h
    rw [List.foldl_cons] at h
    obtain ⟨h1, h2, h3⟩ := ih _ _ h
    cases o with
    | none =>
      have hx := h3 x rfl
      refine ⟨.inr ?_, fun y hy => ?_, by simp⟩
      · rcases h1 with h1 | h1
        · cases h1; simp
        · exact List.mem_cons_of_mem _ h1
      · rcases List.mem_cons.1 hy with rfl | hy
        · exact hx
        · exact h2 y hy
    | some c =>
      by_cases hc : c.m < x.m
      · have e : grtF (some c) x = some x := by simp [grtF, hc]
        rw [e] at h1 h3
        have hx := h3 x rfl
        refine ⟨.inr ?_, fun y hy => ?_, fun d hd => ?_⟩
        · rcases h1 with h1 | h1
          · cases h1; simp
          · exact List.mem_cons_of_mem _ h1
        · rcases List.mem_cons.1 hy with rfl | hy
          · exact hx
          · exact h2 y hy
        · cases hd; omega
      · have e : grtF (some c) x = some c := by simp [grtF, hc]
        rw [e] at h1 h3
        have hx := h3 c rfl
        refine ⟨?_, fun y hy => ?_, fun d hd => ?_⟩
        · rcases h1 with h1 | h1
          · exact .inl h1
          · exact .inr (List.mem_cons_of_mem _ h1)
        · rcases List.mem_cons.1 hy with rfl | hy
          · omega
          · exact h2 y hy
        · cases hd; exact hx
theorem grt_some {xs : List Chc} {b : Chc} (h : grt xs = some b) : b ∈ xs ∧ ∀ x ∈ xs, x.m ≤ b.m := by
  obtain ⟨h1, h2, _⟩ := grt_go xs none b h
  exact ⟨by simpa using h1, h2⟩
theorem grt_go_none (xs : List Chc) : ∀ o : Option Chc, xs.foldl grtF o = none → xs = [] := by
  induction xs with
  | nil => intro _ _; rfl
  | cons x l ih =>
    intro o h
    rw [List.foldl_cons] at h
    have hl := ih _ h
    subst hl
    cases o with
    | none => cases h
    | some c => simp only [List.foldl_nil, grtF] at h; split at h <;> cases h
theorem grt_none {xs : List Chc} (h : grt xs = none) : xs = [] := grt_go_none xs none h

/-- What is known of the scales with n steps that end at p. -/
def GoodK (zs : List Rg) (L : List Int) (n : Nat) (p : Int) : Option Chc → Prop
  | some c => AtL L c.st ∧ c.st.length = n ∧ lastS c.st = p ∧ c.m = cntM zs c.st ∧ ∀ st', AtL L st' → st'.length = n → lastS st' = p → cntM zs st' ≤ c.m
  | none => ∀ st', AtL L st' → st'.length = n → lastS st' ≠ p
theorem cand_of {zs : List Rg} {L pre post : List Int} {p : Int} {n : Nat} {S : Int → Option Chc} (hL : PlcOk zs L) (ho : validZ zs = true) (e : L = pre ++ p :: post) (hS : ∀ q ∈ L, GoodK zs L n q (S q)) {st' : List Int} (h1 : AtL L st') (h2 : st'.length = n + 1) (h3 : lastS st' = p) :
    ∃ x ∈ cands zs p S pre, cntM zs st' ≤ x.m := by
  have hne : st' ≠ [] := by rintro rfl; simp at h2
  obtain ⟨s0, q, rfl, ha, hlt, hq, hq1, hlast⟩ := h1.cut (hL.ge ho) hne
  rw [h3] at hlast
  subst hlast
  have hm : lastS s0 ∈ L := by
    rcases ha.last with ⟨e1, _⟩ | ⟨e1, _⟩
    · rw [e1]; exact hL.low
    · exact e1
  have hpre : lastS s0 ∈ pre := by
    have hi := hL.incr
    rw [e] at hm hi
    rcases List.mem_append.1 hm with hm | hm
    · exact hm
    · unfold Incr at hi
      rw [List.pairwise_append] at hi
      rcases List.mem_cons.1 hm with hm | hm
      · omega
      · have := (List.pairwise_cons.1 hi.2.1).1 _ hm
        omega
  have hg := hS _ hm
  cases hc : S (lastS s0) with
  | none =>
    rw [hc] at hg
    exact absurd rfl (hg s0 ha (by simp at h2; omega))
  | some c =>
    rw [hc] at hg
    refine ⟨{ c with m := c.m + zs.countP (newT (lastS s0) p) }, List.mem_filterMap.2 ⟨_, hpre, by simp [cand, hc]⟩, ?_⟩
    have := hg.2.2.2.2 s0 ha (by simp at h2; omega) rfl
    rw [cntM_snoc ho ha.1 hlt]
    simp only
    omega
theorem cand_some {zs : List Rg} {L pre post : List Int} {p : Int} {n : Nat} {S : Int → Option Chc} (hL : PlcOk zs L) (ho : validZ zs = true) (e : L = pre ++ p :: post) (hS : ∀ q ∈ L, GoodK zs L n q (S q)) {b : Chc} (hb : b ∈ cands zs p S pre) :
    AtL L (b.st ++ [p]) ∧ b.st.length = n ∧ b.m = cntM zs (b.st ++ [p]) ∧ ∃ q c, S q = some c ∧ q ∈ L ∧ c.st = b.st ∧ c.A = b.A ∧ c.cp = b.cp := by
  obtain ⟨q, hq, hc⟩ := List.mem_filterMap.1 hb
  unfold cand at hc
  rw [Option.map_eq_some_iff] at hc
  obtain ⟨c, hc, rfl⟩ := hc
  have hqL : q ∈ L := by rw [e]; exact List.mem_append_left _ hq
  have hpL : p ∈ L := by rw [e]; simp
  have hg := hS q hqL
  rw [hc] at hg
  obtain ⟨g1, g2, g3, g4, g5⟩ := hg
  have hi := hL.incr
  have hqp : q < p := by
    rw [e] at hi
    unfold Incr at hi
    rw [List.pairwise_append] at hi
    exact hi.2.2 q hq p (by simp)
  have hq1 := hL.ge ho q hqL
  have hlt : lastS c.st < p := by omega
  refine ⟨⟨incr_snoc g1.1 hlt, fun x hx => ?_⟩, g2, ?_, q, c, hc, hqL, rfl, rfl, rfl⟩
  · rcases List.mem_append.1 hx with hx | hx
    · exact g1.2 x hx
    · obtain rfl := List.mem_singleton.1 hx
      exact ⟨hpL, by omega⟩
  · simp only
    rw [cntM_snoc ho g1.1 hlt, g3, g4]
theorem step_some {zs : List Rg} {L pre post : List Int} {p : Int} {n : Nat} {S : Int → Option Chc} (hL : PlcOk zs L) (ho : validZ zs = true) (e : L = pre ++ p :: post) (hS : ∀ q ∈ L, GoodK zs L n q (S q)) {b : Chc} (hb : grt (cands zs p S pre) = some b) (A : Option Addr) (cp : Nat) :
    GoodK zs L (n + 1) p (some ⟨b.st ++ [p], A, cp, b.m⟩) := by
  obtain ⟨h1, h2⟩ := grt_some hb
  obtain ⟨g1, g2, g3, _⟩ := cand_some hL ho e hS h1
  refine ⟨g1, by simp [g2], lastS_snoc _ _, g3, fun st' a1 a2 a3 => ?_⟩
  obtain ⟨x, hx, hle⟩ := cand_of hL ho e hS a1 a2 a3
  exact Nat.le_trans hle (h2 x hx)
theorem step_none {zs : List Rg} {L pre post : List Int} {p : Int} {n : Nat} {S : Int → Option Chc} (hL : PlcOk zs L) (ho : validZ zs = true) (e : L = pre ++ p :: post) (hS : ∀ q ∈ L, GoodK zs L n q (S q)) (hb : grt (cands zs p S pre) = none) :
    GoodK zs L (n + 1) p none := by
  intro st' a1 a2 a3
  obtain ⟨x, hx, hle⟩ := cand_of hL ho e hS a1 a2 a3
  rw [grt_none hb] at hx
  cases hx
/-- The best one so far: of all scales with at most n steps, and of those with one more that end at some places. -/
structure BestK (zs : List Rg) (L : List Int) (n : Nat) (pre : List Int) (b : Chc) : Prop where
  atL : AtL L b.st
  m : b.m = cntM zs b.st
  len : b.st.length ≤ n ∨ (b.st.length = n + 1 ∧ pre ≠ [])
  best : ∀ st', AtL L st' → (st'.length ≤ n ∨ (st'.length = n + 1 ∧ lastS st' ∈ pre)) → cntM zs st' ≤ b.m
theorem cntM_nil (zs : List Rg) : cntM zs [] = 0 := by
  unfold cntM
  rw [List.countP_eq_zero]
  intro r _
  simp [meets]
theorem BestK.start (zs : List Rg) (L : List Int) : BestK zs L 0 [] ⟨[], none, 0, 0⟩ :=
  ⟨⟨by simp [Incr], by simp⟩, (cntM_nil zs).symm, .inl (by simp), fun st' _ h => by
    have : st' = [] := by
      rcases h with h | h
      · exact List.length_eq_zero_iff.1 (by omega)
      · simp at h
    subst this
    simp [cntM_nil]⟩
theorem BestK.next {zs : List Rg} {L : List Int} {n : Nat} {b : Chc} (h : BestK zs L n L b) : BestK zs L (n + 1) [] b :=
  ⟨h.atL, h.m, .inl (by rcases h.len with h | h <;> omega), fun st' h1 h2 => h.best st' h1 (by
    rcases h2 with h2 | h2
    · rcases Nat.lt_or_ge n st'.length with h3 | h3
      · have e : st'.length = n + 1 := by omega
        refine .inr ⟨e, ?_⟩
        rcases lastS_mem (st := st') with ⟨_, e2⟩ | e2
        · rw [e2] at e; simp at e
        · exact (h1.2 _ e2).1
      · exact .inl h3
    · simp at h2)⟩
theorem BestK.skip {zs : List Rg} {L pre : List Int} {n : Nat} {p : Int} {b : Chc} (h : BestK zs L n pre b) (hk : GoodK zs L (n + 1) p none) : BestK zs L n (pre ++ [p]) b :=
  ⟨h.atL, h.m, by rcases h.len with h | h
                  · exact .inl h
                  · exact .inr ⟨h.1, by simp⟩, fun st' h1 h2 => h.best st' h1 (by
    rcases h2 with h2 | ⟨h2, h3⟩
    · exact .inl h2
    · rcases List.mem_append.1 h3 with h3 | h3
      · exact .inr ⟨h2, h3⟩
      · exact absurd (List.mem_singleton.1 h3) (hk st' h1 h2))⟩
theorem BestK.keep {zs : List Rg} {L pre : List Int} {n : Nat} {p : Int} {b c : Chc} (h : BestK zs L n pre b) (hk : GoodK zs L (n + 1) p (some c)) (hle : c.m ≤ b.m) : BestK zs L n (pre ++ [p]) b :=
  ⟨h.atL, h.m, by rcases h.len with h | h
                  · exact .inl h
                  · exact .inr ⟨h.1, by simp⟩, fun st' h1 h2 => by
    rcases h2 with h2 | ⟨h2, h3⟩
    · exact h.best st' h1 (.inl h2)
    · rcases List.mem_append.1 h3 with h3 | h3
      · exact h.best st' h1 (.inr ⟨h2, h3⟩)
      · exact Nat.le_trans (hk.2.2.2.2 st' h1 h2 (List.mem_singleton.1 h3)) hle⟩
theorem BestK.take {zs : List Rg} {L pre : List Int} {n : Nat} {p : Int} {b c : Chc} (h : BestK zs L n pre b) (hk : GoodK zs L (n + 1) p (some c)) (hlt : b.m < c.m) : BestK zs L n (pre ++ [p]) c :=
  ⟨hk.1, hk.2.2.2.1, .inr ⟨hk.2.1, by simp⟩, fun st' h1 h2 => by
    rcases h2 with h2 | ⟨h2, h3⟩
    · exact Nat.le_trans (h.best st' h1 (.inl h2)) (by omega)
    · rcases List.mem_append.1 h3 with h3 | h3
      · exact Nat.le_trans (h.best st' h1 (.inr ⟨h2, h3⟩)) (by omega)
      · exact hk.2.2.2.2 st' h1 h2 (List.mem_singleton.1 h3)⟩
theorem BestK.fin {zs : List Rg} {L : List Int} {n : Nat} {b : Chc} {steps : Int} (hL : PlcOk zs L) (ho : validZ zs = true) (h : BestK zs L n [] b) (hs : steps = (n : Int)) : MostR zs steps b.st (b.m : Int) := by
  have hl : b.st.length ≤ n := by
    rcases h.len with h | h
    · exact h
    · exact absurd rfl h.2
  rw [h.m]
  exact most_fin hL ho h.atL (by omega) (fun st' h1 h2 => by rw [← h.m]; exact h.best st' h1 (.inl (by omega)))
/-- The first round's choices. -/
def known0 (n : Nat) (p : Int) : Option Chc := if n = 0 ∧ p = -1 then some ⟨[], none, 0, 0⟩ else none
theorem known0_good {zs : List Rg} {L : List Int} (p : Int) : GoodK zs L 0 p (known0 0 p) := by
  unfold known0
  by_cases h : p = -1
  · rw [if_pos ⟨rfl, h⟩]
    refine ⟨⟨by simp [Incr], by simp⟩, rfl, by rw [h]; rfl, (cntM_nil zs).symm, fun st' _ h2 _ => ?_⟩
    have : st' = [] := List.length_eq_zero_iff.1 h2
    subst this
    simp [cntM_nil]
  · rw [if_neg (fun e => h e.2)]
    intro st' _ h2 h3
    have : st' = [] := List.length_eq_zero_iff.1 h2
    subst this
    exact h (by rw [← h3]; rfl)
end Go.Proofs.Ytdfdlklglbefiaa

namespace Go.Proofs.Ytdfdlklglbefiaa
set_option linter.unusedSimpArgs false
set_option linter.unusedVariables false
open Go.RowKit Go.Shelf Go.WideMaps Go.MapKept
open Go.Maps (Keyed)

theorem Try.laid_ : laidOutB Try.prog = true := by kernel_rfl
theorem key115 : Keyed Try.prog 115 := Keyed.of_law (deep_law_laid Try.laid_ (m := 3) (by omega) (of_decide_eq_true (by kernel_rfl)) (by kernel_rfl) (by kernel_rfl))
theorem key_st {a b : Int} (wa : (Lit.int .i64 a).wf = true) (wb : (Lit.int .i64 b).wf = true) :
    keyOf Try.prog 115 (.agg #[.int .i64 a, .int .i64 b]) = some (.string (keyBytes [.int .i64 a, .int .i64 b])) := by
  have hkt : Try.prog.keyType 115 = true := by kernel_rfl
  have hf : (Value.agg #[.int .i64 a, .int .i64 b]).formed Try.prog 115 = true := by kernel_rfl
  have hl : Try.prog.keyLits (Try.prog.types.size + 1) 115 [.int .i64 a, .int .i64 b] = some [.int .i64 a, .int .i64 b] := by
    have h3 : Try.prog.cellsOf 3 = 1 := by kernel_rfl
    have h2 : Try.prog.cellsOf 2 = 1 := by kernel_rfl
    have h115 : Try.prog.cellsOf 115 = 2 := by kernel_rfl
    obtain ⟨m, hm⟩ : ∃ m, Try.prog.types.size = m + 1 := ⟨Try.prog.types.size - 1, by kernel_rfl⟩
    rw [hm]
    unfold Program.keyLits
    simp only [Try.underlying115]
    simp [h115, h2, h3, Program.keyLits, Try.underlying2, Try.underlying3, wa, wb]
  unfold keyOf
  simp only [Try.underlying115]
  rw [hkt, hf]
  simp only [Bool.and_self, if_true]
  have hc : (Value.agg #[.int .i64 a, .int .i64 b]).cells.toList = [.int .i64 a, .int .i64 b] := rfl
  rw [hc, hl]
  rfl
end Go.Proofs.Ytdfdlklglbefiaa

namespace Go.Proofs.Ytdfdlklglbefiaa
set_option linter.unusedSimpArgs false
set_option linter.unusedVariables false
open Go.RowKit Go.Shelf Go.WideMaps Go.MapKept
open Go.Maps (Keyed)

theorem wf_num {a : Int} (h1 : -1 ≤ a) (h2 : a ≤ 10000) : (Lit.int .i64 a).wf = true := by
  have e1 : IntKind.i64.min = -9223372036854775808 := by decide
  have e2 : IntKind.i64.max = 9223372036854775807 := by decide
  simp only [Lit.wf, e1, e2, Bool.and_eq_true, decide_eq_true_eq]
  omega
/-- The key of a state. -/
def kSt (n : Nat) (p : Int) : Lit := .string (keyBytes [.int .i64 (n : Int), .int .i64 p])
theorem key_kst {n : Nat} {p : Int} (hn : n ≤ 30) (h1 : -1 ≤ p) (h2 : p ≤ 10000) : keyOf Try.prog 115 (.agg #[.int .i64 (n : Int), .int .i64 p]) = some (kSt n p) :=
  key_st (wf_num (by omega) (by omega)) (wf_num h1 h2)
theorem kst_inj {n m : Nat} {p q : Int} (hn : n ≤ 30) (h1 : -1 ≤ p) (h2 : p ≤ 10000) (hm : m ≤ 30) (h3 : -1 ≤ q) (h4 : q ≤ 10000) (h : kSt n p = kSt m q) : n = m ∧ p = q := by
  have a := key_kst hn h1 h2
  have b := key_kst hm h3 h4
  rw [← h] at b
  have c := key115.inj a b
  simp only [Value.agg.injEq, Array.mk.injEq, List.cons.injEq, Value.int.injEq, and_true, true_and] at c
  omega
/-- Elements are held as they are. -/
def heldE (v : Value) : Option (DataW Value × List MemPlace) := some (.held v, [])
def zCh : Value := .agg #[.slice none 0 0, .int .i64 0]
def chV (c : Chc) : Value := .agg #[.slice c.A c.st.length c.cp, .int .i64 (c.m : Int)]
/-- The map M holds the choices S. -/
def Knw (W : World) (M nn : Nat) (S : Nat → Int → Option Chc) : Prop :=
  ∃ D : DataW Value, W.ownsMap Try.prog 115 heldE M nn D ∧ ∀ n p, n ≤ 30 → -1 ≤ p → p ≤ 10000 →
    (∀ c, S n p = some c → Maps.has D (kSt n p) = true ∧ D.atKey (kSt n p) (.held zCh) = .held (chV c) ∧ Ints W c.A c.st.length c.st) ∧ (S n p = none → Maps.has D (kSt n p) = false)
theorem Knw.lt {W : World} {M nn : Nat} {S : Nat → Int → Option Chc} (h : Knw W M nn S) : M < W.heap.size := by
  obtain ⟨D, h1, _⟩ := h
  exact h1.lt
theorem Knw.mono {W : World} {M nn nn' : Nat} {S : Nat → Int → Option Chc} (h : Knw W M nn S) (hn : nn ≤ nn') : Knw W M nn' S := by
  obtain ⟨D, h1, h2⟩ := h
  exact ⟨D, h1.mono hn, h2⟩
theorem owns_keep {H : Type} {P : Program} {k : TypeId} {R : Value → Option (DataW H × List MemPlace)} {W W' : World} {M nn : Nat} {D : DataW H} {Mut : Nat → Prop} (h : W.ownsMap P k R M nn D) (hK : Keeps Mut W W') (hm : ¬ Mut M) : W'.ownsMap P k R M nn D := by
  have hlt := h.lt
  obtain ⟨es, clock, hb, F, hs, hD⟩ := h
  exact ⟨es, clock, (hK.block M hlt hm).trans hb, F, hs, hD⟩
theorem Knw.below {W W' : World} {M nn L : Nat} {S : Nat → Int → Option Chc} (h : Knw W M nn S) (hB : Below L W W') (hL : W.heap.size ≤ L) : Knw W' M nn S := by
  obtain ⟨D, h1, h2⟩ := h
  refine ⟨D, owns_keep h1 (Keeps.of_below (hB.mono hL) (Nat.le_refl _)) (by have := h1.lt; omega), fun n p a b c => ⟨fun ch hc => ?_, (h2 n p a b c).2⟩⟩
  obtain ⟨g1, g2, g3⟩ := (h2 n p a b c).1 ch hc
  exact ⟨g1, g2, g3.below hB hL⟩
/-- A row does not lie in a map. -/
theorem row_not_map {W : World} {A : Option Addr} {l : List Int} {M : Nat} {es : Array MapEntry} {clock : Nat} (h : Ints W A l.length l) (hm : W.heap[M]? = some (.map es clock)) (hl : l ≠ []) (o : Nat) : A ≠ some ⟨M, o, none⟩ := by
  intro e
  obtain ⟨b, o2, e2, hc⟩ := h.2 (List.length_pos_iff.2 hl)
  rw [e2] at e
  injection e with e
  injection e with e _
  subst e
  have h1 := hc 0 (List.length_pos_iff.2 hl)
  simp [World.cell?, hm] at h1
theorem Ints.keep_map {W W' : World} {A : Option Addr} {l : List Int} {M : Nat} {es : Array MapEntry} {clock : Nat} (h : Ints W A l.length l) (hm : W.heap[M]? = some (.map es clock)) (hK : Keeps (fun k => k = M) W W') : Ints W' A l.length l := by
  by_cases hl : l = []
  · subst hl; exact ⟨rfl, fun h => by simp at h⟩
  · exact h.keep hK (fun b o e hb => row_not_map h hm hl o (by rw [e, hb]))
/-- What is looked up. -/
theorem Knw.look {W : World} {M nn : Nat} {S : Nat → Int → Option Chc} (h : Knw W M nn S) {n : Nat} {p : Int} (hn : n ≤ 30) (h1 : -1 ≤ p) (h2 : p ≤ 10000) :
    (∀ c, S n p = some c → (Instr.lookup 116 (.map (some M)) (.agg #[.int .i64 (n : Int), .int .i64 p]) true).run Try.prog W = .ok (.tuple #[chV c, .bool true]) W ∧ Ints W c.A c.st.length c.st) ∧
    (S n p = none → (Instr.lookup 116 (.map (some M)) (.agg #[.int .i64 (n : Int), .int .i64 p]) true).run Try.prog W = .ok (.tuple #[zCh, .bool false]) W) := by
  obtain ⟨D, ho, hD⟩ := h
  obtain ⟨v, ps, hrun, hv⟩ := ho.look_ok key115 Try.underlying116 (z := zCh) (by kernel_rfl) (zd := .held zCh) (zp := []) rfl (key_kst hn h1 h2)
  obtain ⟨a, b⟩ := hD n p hn h1 h2
  refine ⟨fun c hc => ?_, fun hc => ?_⟩
  · obtain ⟨g1, g2, g3⟩ := a c hc
    rw [g1] at hrun
    rw [g2] at hv
    simp only [heldE, Option.some.injEq, Prod.mk.injEq, DataW.held.injEq] at hv
    rw [hv.1] at hrun
    exact ⟨hrun, g3⟩
  · have g1 := b hc
    rw [g1] at hrun
    rw [Maps.atKey_of_not_has g1] at hv
    simp only [heldE, Option.some.injEq, Prod.mk.injEq, DataW.held.injEq] at hv
    rw [hv.1] at hrun
    exact hrun
def putS (S : Nat → Int → Option Chc) (n : Nat) (p : Int) (o : Option Chc) : Nat → Int → Option Chc := fun m q => if m = n ∧ q = p then o else S m q
/-- One more choice is kept. -/
theorem Knw.put {W : World} {M nn : Nat} {S : Nat → Int → Option Chc} (h : Knw W M nn S) {n : Nat} {p : Int} (hn : n ≤ 30) (h1 : -1 ≤ p) (h2 : p ≤ 10000) (c : Chc) (hc : Ints W c.A c.st.length c.st) (hnn : nn < 1000000000) :
    ∃ W', (Instr.mapUpdate 116 (.map (some M)) (.agg #[.int .i64 (n : Int), .int .i64 p]) (chV c)).run Try.prog W = .ok () W' ∧ Knw W' M (nn + 1) (putS S n p (some c)) ∧ Keeps (fun k => k = M) W W' := by
  obtain ⟨D, ho, hD⟩ := h
  obtain ⟨W', hrun, ho', hg⟩ := ho.update key115 Try.underlying116 (by unfold maxLen; omega) (key_kst hn h1 h2) (val := chV c) (d := .held (chV c)) (ps := []) rfl
  have hK : Keeps (fun k => k = M) W W' := Keeps.of_grown hg (fun r e => by cases e; rfl)
  obtain ⟨es, clock, hb, _⟩ := id ho
  refine ⟨W', hrun, ⟨_, ho', fun m q a b d => ?_⟩, hK⟩
  by_cases e : m = n ∧ q = p
  · obtain ⟨rfl, rfl⟩ := e
    refine ⟨fun c' hc' => ?_, fun hc' => ?_⟩
    · simp only [putS, and_self, if_true, Option.some.injEq] at hc'
      subst hc'
      exact ⟨Maps.has_put_same ho.isMap (key115.key (key_kst a b d)) _, Maps.atKey_put_same ho.isMap (key115.key (key_kst a b d)) _ _, hc.keep_map hb hK⟩
    · simp [putS] at hc'
  · have hne : kSt m q ≠ kSt n p := fun e' => e (kst_inj a b d hn h1 h2 e')
    have e2 : putS S n p (some c) m q = S m q := by simp [putS, e]
    rw [e2, Maps.has_put_other hne, Maps.atKey_put_other hne]
    obtain ⟨x, y⟩ := hD m q a b d
    exact ⟨fun c' hc' => ⟨(x c' hc').1, (x c' hc').2.1, (x c' hc').2.2.keep_map hb hK⟩, y⟩
/-- One choice is struck. -/
theorem Knw.del {W : World} {M nn : Nat} {S : Nat → Int → Option Chc} (h : Knw W M nn S) {n : Nat} {p : Int} (hn : n ≤ 30) (h1 : -1 ≤ p) (h2 : p ≤ 10000) (ty : TypeId) :
    ∃ W', (Builtin.delete_ #[116, 115] ty #[.map (some M), .agg #[.int .i64 (n : Int), .int .i64 p]]).run Try.prog W = .ok (.tuple #[]) W' ∧ Knw W' M nn (putS S n p none) ∧ Keeps (fun k => k = M) W W' := by
  obtain ⟨D, ho, hD⟩ := h
  obtain ⟨W', hrun, ho', ht⟩ := ho.drop key115 Try.underlying116 (key_kst hn h1 h2) ty
  have hK : Keeps (fun k => k = M) W W' := Keeps.of_grown ht.grown (fun r e => by cases e; rfl)
  obtain ⟨es, clock, hb, _⟩ := id ho
  refine ⟨W', hrun, ⟨_, ho', fun m q a b d => ?_⟩, hK⟩
  by_cases e : m = n ∧ q = p
  · obtain ⟨rfl, rfl⟩ := e
    refine ⟨fun c' hc' => ?_, fun hc' => Maps.has_del_same⟩
    simp [putS] at hc'
  · have hne : kSt m q ≠ kSt n p := fun e' => e (kst_inj a b d hn h1 h2 e')
    have e2 : putS S n p none m q = S m q := by simp [putS, e]
    rw [e2, Maps.has_del_other hne, Maps.atKey_del_other hne]
    obtain ⟨x, y⟩ := hD m q a b d
    exact ⟨fun c' hc' => ⟨(x c' hc').1, (x c' hc').2.1, (x c' hc').2.2.keep_map hb hK⟩, y⟩
theorem Knw.new {W : World} {M : Nat} (h : W.heap[M]? = some (.map #[] 0)) : Knw W M 0 (fun _ _ => none) :=
  ⟨.map [], ⟨#[], 0, h, ⟨by simp, stamped_empty 0, by simp⟩, Nat.le_refl _, rfl⟩, fun n p _ _ _ => ⟨fun c hc => by simp at hc, fun _ => rfl⟩⟩
end Go.Proofs.Ytdfdlklglbefiaa
