/- Stage 4: a dictionary with its classes. -/
import Derived.Test.YthdjbapidodlfaaCl
import Derived.Maps.OwnIn
import Derived.Maps.Views
import Derived.DeepKeys4
import Derived.Carry
namespace Go.Proofs.Ythdjbapidodlfaa
set_option linter.unusedSimpArgs false
set_option linter.unusedVariables false
open Go.RowKit Go.Shelf Go.WideMaps Go.MapKept
open Go.Maps (Keyed)

def heldE (v : Value) : Option (DataW Value × List MemPlace) := some (.held v, [])
theorem owns_keep {H : Type} {P : Program} {k : TypeId} {R : Value → Option (DataW H × List MemPlace)} {W W' : World} {M nn : Nat} {D : DataW H} {Mut : Nat → Prop} (h : W.ownsMap P k R M nn D) (hK : Keeps Mut W W') (hm : ¬ Mut M) : W'.ownsMap P k R M nn D := by
  have hlt := h.lt
  obtain ⟨es, clock, hb, F, hs, hD⟩ := h
  exact ⟨es, clock, (hK.block M hlt hm).trans hb, F, hs, hD⟩
/-- A family of keys. -/
structure KF (k : TypeId) (κ : Type) where
  val : κ → Value
  lit : κ → Lit
  dom : κ → Prop
  keyed : Keyed Try.prog k
  key : ∀ x, dom x → keyOf Try.prog k (val x) = some (lit x)
  vinj : ∀ x y, dom x → dom y → val x = val y → x = y
theorem KF.inj {k : TypeId} {κ : Type} (F : KF k κ) {x y : κ} (hx : F.dom x) (hy : F.dom y) (h : F.lit x = F.lit y) : x = y := by
  have a := F.key x hx
  have b := F.key y hy
  rw [← h] at b
  exact F.vinj x y hx hy (F.keyed.inj a b)
/-- The map M holds S; z is read where there is nothing. -/
def MpH {k : TypeId} {κ : Type} (F : KF k κ) (z : Value) (W : World) (M nn : Nat) (S : κ → Option Value) : Prop :=
  ∃ D : DataW Value, W.ownsMap Try.prog k heldE M nn D ∧ ∀ x, F.dom x →
    (∀ v, S x = some v → Maps.has D (F.lit x) = true ∧ D.atKey (F.lit x) (.held z) = .held v) ∧ (S x = none → Maps.has D (F.lit x) = false)
section
variable {k : TypeId} {κ : Type} {F : KF k κ} {z : Value} {W W' : World} {M nn : Nat} {S : κ → Option Value}
theorem MpH.lt (h : MpH F z W M nn S) : M < W.heap.size := by
  obtain ⟨D, h1, _⟩ := h
  exact h1.lt
theorem MpH.mono {nn' : Nat} (h : MpH F z W M nn S) (hn : nn ≤ nn') : MpH F z W M nn' S := by
  obtain ⟨D, h1, h2⟩ := h
  exact ⟨D, h1.mono hn, h2⟩
theorem MpH.keep {Mut : Nat → Prop} (h : MpH F z W M nn S) (hK : Keeps Mut W W') (hm : ¬ Mut M) : MpH F z W' M nn S := by
  obtain ⟨D, h1, h2⟩ := h
  exact ⟨D, owns_keep h1 hK hm, h2⟩
theorem MpH.below {L : Nat} (h : MpH F z W M nn S) (hB : Below L W W') (hL : W.heap.size ≤ L) : MpH F z W' M nn S :=
  h.keep (Keeps.of_below (hB.mono hL) (Nat.le_refl _)) (by have := h.lt; omega)
theorem MpH.look_ok {t e : TypeId} (h : MpH F z W M nn S) (ht : Try.prog.underlying t = some (.map k e)) (hz : (zeroValue e).run Try.prog W = .ok z W) {x : κ} (hx : F.dom x) :
    (Instr.lookup t (.map (some M)) (F.val x) true).run Try.prog W = .ok (.tuple #[(S x).getD z, .bool (S x).isSome]) W := by
  obtain ⟨D, ho, hD⟩ := h
  obtain ⟨v, ps, hrun, hv⟩ := ho.look_ok F.keyed ht (z := z) hz (zd := .held z) (zp := []) rfl (F.key x hx)
  obtain ⟨a, b⟩ := hD x hx
  cases hc : S x with
  | some c =>
    obtain ⟨g1, g2⟩ := a c hc
    rw [g1] at hrun
    rw [g2] at hv
    simp only [heldE, Option.some.injEq, Prod.mk.injEq, DataW.held.injEq] at hv
    rw [hv.1] at hrun
    exact hrun
  | none =>
    have g1 := b hc
    rw [g1] at hrun
    rw [Maps.atKey_of_not_has g1] at hv
    simp only [heldE, Option.some.injEq, Prod.mk.injEq, DataW.held.injEq] at hv
    rw [hv.1] at hrun
    exact hrun
theorem MpH.look {t e : TypeId} (h : MpH F z W M nn S) (ht : Try.prog.underlying t = some (.map k e)) (hz : (zeroValue e).run Try.prog W = .ok z W) {x : κ} (hx : F.dom x) :
    (Instr.lookup t (.map (some M)) (F.val x) false).run Try.prog W = .ok ((S x).getD z) W := by
  obtain ⟨D, ho, hD⟩ := h
  obtain ⟨v, ps, hrun, hv⟩ := ho.lookup F.keyed ht (z := z) hz (zd := .held z) (zp := []) rfl (F.key x hx)
  obtain ⟨a, b⟩ := hD x hx
  cases hc : S x with
  | some c =>
    obtain ⟨g1, g2⟩ := a c hc
    rw [g2] at hv
    simp only [heldE, Option.some.injEq, Prod.mk.injEq, DataW.held.injEq] at hv
    rw [hv.1] at hrun
    exact hrun
  | none =>
    have g1 := b hc
    rw [Maps.atKey_of_not_has g1] at hv
    simp only [heldE, Option.some.injEq, Prod.mk.injEq, DataW.held.injEq] at hv
    rw [hv.1] at hrun
    exact hrun
open Classical in
noncomputable def putS (S : κ → Option Value) (x : κ) (o : Option Value) : κ → Option Value := fun y => if y = x then o else S y
theorem putS_same (x : κ) (o : Option Value) : putS S x o x = o := by simp [putS]
theorem putS_other {x y : κ} (o : Option Value) (h : y ≠ x) : putS S x o y = S y := by simp [putS, h]
theorem MpH.put {t e : TypeId} (h : MpH F z W M nn S) (ht : Try.prog.underlying t = some (.map k e)) {x : κ} (hx : F.dom x) (c : Value) (hnn : nn < 1000000000) :
    ∃ W', (Instr.mapUpdate t (.map (some M)) (F.val x) c).run Try.prog W = .ok () W' ∧ MpH F z W' M (nn + 1) (putS S x (some c)) ∧ Keeps (fun k => k = M) W W' := by
  obtain ⟨D, ho, hD⟩ := h
  obtain ⟨W', hrun, ho', hg⟩ := ho.update F.keyed ht (by unfold maxLen; omega) (F.key x hx) (val := c) (d := .held c) (ps := []) rfl
  have hK : Keeps (fun k => k = M) W W' := Keeps.of_grown hg (fun r e => by cases e; rfl)
  refine ⟨W', hrun, ⟨_, ho', fun y hy => ?_⟩, hK⟩
  by_cases e : y = x
  · subst e
    rw [putS_same]
    refine ⟨fun c' hc' => ?_, fun hc' => (by cases hc')⟩
    cases hc'
    exact ⟨Maps.has_put_same ho.isMap (F.keyed.key (F.key y hy)) _, Maps.atKey_put_same ho.isMap (F.keyed.key (F.key y hy)) _ _⟩
  · have hne : F.lit y ≠ F.lit x := fun e' => e (F.inj hy hx e')
    rw [putS_other _ e, Maps.has_put_other hne, Maps.atKey_put_other hne]
    exact hD y hy
theorem MpH.del {t e : TypeId} (h : MpH F z W M nn S) (ht : Try.prog.underlying t = some (.map k e)) {x : κ} (hx : F.dom x) (ty : TypeId) :
    ∃ W', (Builtin.delete_ #[t, k] ty #[.map (some M), F.val x]).run Try.prog W = .ok (.tuple #[]) W' ∧ MpH F z W' M nn (putS S x none) ∧ Keeps (fun k => k = M) W W' := by
  obtain ⟨D, ho, hD⟩ := h
  obtain ⟨W', hrun, ho', htu⟩ := ho.drop F.keyed ht (F.key x hx) ty
  have hK : Keeps (fun k => k = M) W W' := Keeps.of_grown htu.grown (fun r e => by cases e; rfl)
  refine ⟨W', hrun, ⟨_, ho', fun y hy => ?_⟩, hK⟩
  by_cases e : y = x
  · subst e
    rw [putS_same]
    exact ⟨fun c' hc' => (by cases hc'), fun hc' => Maps.has_del_same⟩
  · have hne : F.lit y ≠ F.lit x := fun e' => e (F.inj hy hx e')
    rw [putS_other _ e, Maps.has_del_other hne, Maps.atKey_del_other hne]
    exact hD y hy
theorem MpH.new (h : W.heap[M]? = some (.map #[] 0)) : MpH F z W M 0 (fun _ => none) :=
  ⟨.map [], ⟨#[], 0, h, ⟨by simp, stamped_empty 0, by simp⟩, Nat.le_refl _, rfl⟩, fun x _ => ⟨fun c hc => (by cases hc), fun _ => rfl⟩⟩
end
theorem wf_num {a : Int} (h1 : -1 ≤ a) (h2 : a ≤ 10000) : (Lit.int .i64 a).wf = true := by
  have e1 : IntKind.i64.min = -9223372036854775808 := by decide
  have e2 : IntKind.i64.max = 9223372036854775807 := by decide
  simp only [Lit.wf, e1, e2, Bool.and_eq_true, decide_eq_true_eq]
  omega
/-- Words as keys. -/
def kfW : KF 3 Nat where
  val n := .int .i64 (n : Int)
  lit n := .int .i64 (n : Int)
  dom n := n ≤ 1000
  keyed := Maps.int_keyed Try.underlying3
  key n hn := Maps.keyOf_int_mk Try.underlying3 (wf_num (by omega) (by omega))
  vinj x y _ _ h := by simp only [Value.int.injEq, true_and] at h; omega
theorem Try.laid_ : laidOutB Try.prog = true := by kernel_rfl
theorem key79 : Keyed Try.prog 79 := Keyed.of_law (deep_law_laid Try.laid_ (m := 3) (by omega) (of_decide_eq_true (by kernel_rfl)) (by kernel_rfl) (by kernel_rfl))
theorem key_pl {a b c d : Int} (wa : (Lit.int .i64 a).wf = true) (wb : (Lit.int .i64 b).wf = true) (wc : (Lit.int .i64 c).wf = true) (wd : (Lit.int .i64 d).wf = true) :
    keyOf Try.prog 79 (.agg #[.int .i64 a, .int .i64 b, .int .i64 c, .int .i64 d]) = some (.string (keyBytes [.int .i64 a, .int .i64 b, .int .i64 c, .int .i64 d])) := by
  have hkt : Try.prog.keyType 79 = true := by kernel_rfl
  have hf : (Value.agg #[.int .i64 a, .int .i64 b, .int .i64 c, .int .i64 d]).formed Try.prog 79 = true := by kernel_rfl
  have hl : Try.prog.keyLits (Try.prog.types.size + 1) 79 [.int .i64 a, .int .i64 b, .int .i64 c, .int .i64 d] = some [.int .i64 a, .int .i64 b, .int .i64 c, .int .i64 d] := by
    have h3 : Try.prog.cellsOf 3 = 1 := by kernel_rfl
    have h79 : Try.prog.cellsOf 79 = 4 := by kernel_rfl
    obtain ⟨m, hm⟩ : ∃ m, Try.prog.types.size = m + 1 := ⟨Try.prog.types.size - 1, by kernel_rfl⟩
    rw [hm]
    unfold Program.keyLits
    simp only [Try.underlying79]
    have hr : List.range 4 = [0, 1, 2, 3] := rfl
    simp [h79, h3, Program.keyLits, Try.underlying3, wa, wb, wc, wd, hr]
  unfold keyOf
  simp only [Try.underlying79]
  rw [hkt, hf]
  simp only [Bool.and_self, if_true]
  have hc : (Value.agg #[.int .i64 a, .int .i64 b, .int .i64 c, .int .i64 d]).cells.toList = [.int .i64 a, .int .i64 b, .int .i64 c, .int .i64 d] := rfl
  rw [hc, hl]
  rfl
/-- A place: an index for each of four hearers. -/
structure Plc where
  a : Int
  b : Int
  c : Int
  d : Int
deriving DecidableEq, Inhabited
def plV (p : Plc) : Value := .agg #[.int .i64 p.a, .int .i64 p.b, .int .i64 p.c, .int .i64 p.d]
def inP (x : Int) : Prop := -1 ≤ x ∧ x ≤ 10000
/-- Places as keys. -/
def kfP : KF 79 Plc where
  val := plV
  lit p := .string (keyBytes [.int .i64 p.a, .int .i64 p.b, .int .i64 p.c, .int .i64 p.d])
  dom p := inP p.a ∧ inP p.b ∧ inP p.c ∧ inP p.d
  keyed := key79
  key p hp := key_pl (wf_num hp.1.1 hp.1.2) (wf_num hp.2.1.1 hp.2.1.2) (wf_num hp.2.2.1.1 hp.2.2.1.2) (wf_num hp.2.2.2.1 hp.2.2.2.2)
  vinj x y _ _ h := by
    cases x; cases y
    simp only [plV, Value.agg.injEq, Array.mk.injEq, List.cons.injEq, Value.int.injEq, and_true, true_and] at h
    simp only [Plc.mk.injEq]
    exact h
end Go.Proofs.Ythdjbapidodlfaa

namespace Go.Proofs.Ythdjbapidodlfaa
set_option linter.unusedSimpArgs false
set_option linter.unusedVariables false
open Go.RowKit Go.Shelf

/-- One row behind another one. -/
theorem app_rows {W : World} {v : Value} {n m c2 : Nat} {xs ts : List Int} {A2 : Option Addr} (h : W.ownsRow 0 3 1 v n (flatI xs)) (h2 : Ints W A2 m ts) (hm1 : 1 ≤ m) (hm : m ≤ 10000) (hn : n ≤ 10000) :
    ∃ g cp W', runA Try.prog 38 v (.slice A2 m c2) W = .ok (.value (.slice (some ⟨g, 0, none⟩) (n + m) cp)) W' ∧ W'.ownsRow 0 3 1 (.slice (some ⟨g, 0, none⟩) (n + m) cp) (n + m) (flatI (xs ++ ts)) ∧
      Keeps (fun j => v.ownBlock = some j) W W' ∧ (v.ownBlock = some g ∨ (g = W.heap.size ∧ W.heap.size < W'.heap.size)) := by
  obtain ⟨i, hi, hz, hs, hb⟩ := info_parts info3_
  obtain ⟨b, o, rfl, hc⟩ := h2.2 (by omega)
  have hl := h2.1
  obtain ⟨v', W', q2, q3, q4, _, q5⟩ := run_append_own_at (P := Try.prog) W 0 38 38 3 i _ 1 8 Try.underlying38 hi hz hs hb rfl (by omega) v n (flatI xs) h ⟨b, o, none⟩ m c2 (flatI ts) (by rw [flatI_len, hl]; omega) (fun j u hj => by
      have hjl : j < m := by
        have := (List.getElem?_eq_some_iff.1 hj).1
        rw [flatI_len, hl] at this
        exact this
      rw [Addr.add_lit, hc j hjl, ← hj, iAt_eq (by omega)]
      simp [flatI, hl, hjl]) (by
      intro u hu
      obtain ⟨x, _, rfl⟩ := List.mem_map.1 hu
      rfl) (by unfold maxLen; omega) (by omega) (Nat.zero_le _)
  have e1 : flatI xs ++ flatI ts = flatI (xs ++ ts) := by simp [flatI]
  rw [e1] at q3
  rcases q3.2 with ⟨_, e⟩ | ⟨g, cp, cur, rfl, _⟩
  · omega
  · refine ⟨g, cp, W', run_app q2, q3, ⟨q4.os, q4.tape, q4.output, q4.size, fun k hk hmm => q4.block k hk (fun e => hmm e.symm)⟩, ?_⟩
    rcases q5 with q5 | q5
    · exact .inl q5.symm
    · exact .inr ⟨Option.some.inj q5, own_lt q3 _ q5⟩
/-- The cells of a dictionary with its classes. -/
def dicL (A : Option Addr) (n cap : Nat) (nm : List Int) (M : Nat) : List Value := .slice A n cap :: (flatI nm ++ [.map (some M)])
structure Dic (W : World) (D : Nat) (A : Option Addr) (n cap : Nat) (nm : List Int) (M : Nat) : Prop where
  row : W.heap[D]? = some (.cells (dicL A n cap nm M).toArray 107 (0, 0))
  len : nm.length = 101
section
variable {W W' : World} {D : Nat} {A : Option Addr} {n cap : Nat} {nm : List Int} {M : Nat}
theorem Dic.likes (h : Dic W D A n cap nm M) : W.cell? ⟨D, 0, none⟩ = some (.slice A n cap) := by rw [cell_row h.row]; rfl
theorem Dic.name (h : Dic W D A n cap nm M) {j : Nat} (hj : j ≤ 100) : W.cell? ⟨D, 1 + j, none⟩ = some (.int .i64 (iAt nm j)) := by
  have hl := h.len
  rw [cell_row h.row, iAt_eq (by omega), List.getElem?_toArray]
  unfold dicL
  rw [Nat.add_comm 1 j, List.getElem?_cons_succ, List.getElem?_append_left (by rw [flatI_len]; omega)]
  simp [flatI, show j < nm.length by omega]
theorem Dic.map (h : Dic W D A n cap nm M) : W.cell? ⟨D, 102, none⟩ = some (.map (some M)) := by
  have hl := h.len
  rw [cell_row h.row, List.getElem?_toArray]
  unfold dicL
  rw [show 102 = 101 + 1 from rfl, List.getElem?_cons_succ, List.getElem?_append_right (by rw [flatI_len]; omega), flatI_len, hl]
  rfl
theorem Dic.fz (h : Dic W D A n cap nm M) (j : Nat) : W.frozen? ⟨D, j, none⟩ = false := frozen_row h.row
theorem Dic.put (h : Dic W D A n cap nm M) {j : Nat} (hj : j ≤ 100) (v : Int) : Dic (W.setCell ⟨D, 1 + j, none⟩ (.int .i64 v)) D A n cap (nm.set j v) M := by
  have hl := h.len
  refine ⟨?_, by rw [List.length_set]; exact hl⟩
  rw [set_same _ _ h.row]
  unfold dicL
  simp only [List.setIfInBounds_toArray]
  rw [Nat.add_comm 1 j, List.set_cons_succ, List.set_append_left _ _ (by rw [flatI_len]; omega)]
  simp [flatI, List.map_set]
theorem Dic.keep {Mut : Nat → Prop} (h : Dic W D A n cap nm M) (hK : Keeps Mut W W') (hm : ¬ Mut D) : Dic W' D A n cap nm M :=
  ⟨(hK.block _ (lt_of_block h.row) hm).trans h.row, h.len⟩
theorem Dic.below {B : Nat} (h : Dic W D A n cap nm M) (hb : Below B W W') (hB : W.heap.size ≤ B) : Dic W' D A n cap nm M :=
  ⟨(hb.block _ (by have := lt_of_block h.row; omega)).trans h.row, h.len⟩
end
set_option maxRecDepth 100000 in
set_option maxHeartbeats 1000000 in
theorem class71 (D : Nat) (A : Option Addr) (n cap : Nat) (nm : List Int) (M : Nat) (u : Nat) (w : World) (h : Dic w D A n cap nm M) (hu : u ≤ 100) :
    Calls Try.prog 71 #[.pointer (some ⟨D, 0, none⟩), .int .i64 (u : Int)] w fun e w' => e = .returned (.int .i64 (iAt nm u)) ∧ w' = w := by
  have c0 := h.name hu
  obtain ⟨v, hv⟩ : ∃ v, iAt nm u = v := ⟨_, rfl⟩
  rw [hv] at c0 ⊢
  have i0 : (0 : Int) ≤ (u : Int) := by omega
  have i1 : (u : Int) < 101 := by omega
  clear h hv
  go_enter Try.func71, Try.ntmps71
  go_wp2_with fail
  go_ret
  exact ⟨rfl, rfl⟩
/-- A row of words. -/
structure Row where
  g : Nat
  cp : Nat
  l : List Int
def rowV (r : Row) : Value := .slice (some ⟨r.g, 0, none⟩) r.l.length r.cp
def zSl : Value := .slice none 0 0
/-- The map of classes: each name has a row with its words. -/
structure CMap (W : World) (M B0 nn : Nat) (WS : Nat → Prop) (nm : List Int) (S : Nat → Option Row) : Prop where
  mp : MpH kfW zSl W M nn (fun c => (S c).map rowV)
  own : ∀ c r, S c = some r → W.ownsRow 0 3 1 (rowV r) r.l.length (flatI r.l) ∧ B0 ≤ r.g
  sep : ∀ c c' r r', S c = some r → S c' = some r' → r.g = r'.g → c = c'
  mem : ∀ c r, S c = some r → ∀ x, x ∈ r.l ↔ ∃ u : Nat, x = (u : Int) ∧ WS u ∧ iAt nm u = (c : Int)
  nd : ∀ c r, S c = some r → r.l.Nodup
  has : ∀ u, WS u → ∃ c r, S c = some r ∧ iAt nm u = (c : Int)
  ws : ∀ u, WS u → u ≤ 100
  nmW : ∀ u, WS u → ∃ v, WS v ∧ iAt nm u = (v : Int)
  oth : ∀ u, u ≤ 100 → ¬ WS u → iAt nm u = (u : Int)
section
variable {W W' : World} {M B0 nn : Nat} {WS : Nat → Prop} {nm : List Int} {S : Nat → Option Row}
theorem rowV_block (r : Row) : (rowV r).ownBlock = some r.g := rfl
/-- The map stays while neither it nor a row of it changes. -/
theorem CMap.keep {Mut : Nat → Prop} (h : CMap W M B0 nn WS nm S) (hK : Keeps Mut W W') (hm : ¬ Mut M) (hr : ∀ k, B0 ≤ k → k < W.heap.size → ¬ Mut k) : CMap W' M B0 nn WS nm S :=
  ⟨h.mp.keep hK hm, fun c r hc => ⟨own_keep (h.own c r hc).1 hK (fun k e => hr k (by rw [rowV_block] at e; cases e; exact (h.own c r hc).2) (own_lt (h.own c r hc).1 k e)), (h.own c r hc).2⟩, h.sep, h.mem, h.nd, h.has, h.ws, h.nmW, h.oth⟩
theorem nodup_sub_len {α : Type} [DecidableEq α] (l m : List α) (h : l.Nodup) (hs : ∀ x ∈ l, x ∈ m) : l.length ≤ m.length := by
  induction l generalizing m with
  | nil => simp
  | cons a l ih =>
    rw [List.nodup_cons] at h
    have ha := hs a (by simp)
    have := ih (m.erase a) h.2 (fun x hx => by
      have hne : x ≠ a := fun e => h.1 (e ▸ hx)
      exact (List.mem_erase_of_ne hne).2 (hs x (by simp [hx])))
    have hl := List.length_erase_of_mem ha
    have hp := List.length_pos_of_mem ha
    simp only [List.length_cons]
    omega
theorem CMap.len (h : CMap W M B0 nn WS nm S) {c : Nat} {r : Row} (hc : S c = some r) : r.l.length ≤ 101 := by
  have := nodup_sub_len r.l ((List.range 101).map (fun i : Nat => (i : Int))) (h.nd c r hc) (fun x hx => by
    obtain ⟨u, rfl, hu, _⟩ := (h.mem c r hc x).1 hx
    exact List.mem_map.2 ⟨u, List.mem_range.2 (by have := h.ws u hu; omega), rfl⟩)
  simpa using this
end
open Classical in
noncomputable def putR (S : Nat → Option Row) (c : Nat) (o : Option Row) : Nat → Option Row := fun d => if d = c then o else S d
theorem putR_same (S : Nat → Option Row) (c : Nat) (o : Option Row) : putR S c o c = o := by simp [putR]
theorem putR_other (S : Nat → Option Row) {c d : Nat} (o : Option Row) (h : d ≠ c) : putR S c o d = S d := by simp [putR, h]
theorem putR_map (S : Nat → Option Row) (c : Nat) (o : Option Row) : (fun d => (putR S c o d).map rowV) = putS (fun d => (S d).map rowV) c (o.map rowV) := by
  funext d
  by_cases h : d = c
  · subst h; rw [putR_same, putS_same]
  · rw [putR_other _ _ h, putS_other _ h]
/-- All stores of a name, one after another. -/
def setL (nm : List Int) (one : Int) (xs : List Int) : List Int := xs.foldl (fun o x => o.set x.toNat one) nm
theorem setL_snoc (nm : List Int) (one : Int) (xs : List Int) (x : Int) : setL nm one (xs ++ [x]) = (setL nm one xs).set x.toNat one := by simp [setL, List.foldl_append]
theorem setL_len (nm : List Int) (one : Int) (xs : List Int) : (setL nm one xs).length = nm.length := by
  unfold setL
  induction xs generalizing nm with
  | nil => rfl
  | cons x l ih => rw [List.foldl_cons, ih, List.length_set]
theorem setL_at {nm : List Int} {one : Int} {xs : List Int} (hx : ∀ x ∈ xs, ∃ u : Nat, x = (u : Int) ∧ u < nm.length) (w : Nat) : iAt (setL nm one xs) w = if (w : Int) ∈ xs then one else iAt nm w := by
  unfold setL
  induction xs generalizing nm with
  | nil => simp
  | cons x l ih =>
    obtain ⟨u, rfl, hu⟩ := hx x (by simp)
    rw [List.foldl_cons, ih (fun y hy => by rw [List.length_set]; exact hx y (by simp [hy])), Int.toNat_natCast, iAt_set9 _ hu]
    by_cases h1 : (w : Int) ∈ l
    · simp [h1]
    · by_cases h2 : u = w
      · subst h2; simp [h1]
      · have : ¬ (w : Int) = (u : Int) := by omega
        simp [h1, h2, this]
/-- The names, when the words of the class two have the name one. -/
theorem CMap.names {W : World} {M B0 nn : Nat} {WS : Nat → Prop} {nm : List Int} {S : Nat → Option Row} (h : CMap W M B0 nn WS nm S) (hl : nm.length = 101) {one two : Nat} {r2 : Row} (h2 : S two = some r2) (h2W : WS two) :
    setL nm one r2.l = ren nm one two := by
  refine List.ext_getElem (by rw [setL_len, ren_len]) fun w h3 h4 => ?_
  rw [setL_len] at h3
  have e1 := setL_at (nm := nm) (one := (one : Int)) (xs := r2.l) (fun x hx => by
    obtain ⟨u, rfl, hu, _⟩ := (h.mem two r2 h2 x).1 hx
    exact ⟨u, rfl, by have := h.ws u hu; omega⟩) w
  have e2 := ren_at (nm := nm) (one : Int) (two : Int) h3
  rw [iAt_eq (by rw [setL_len]; exact h3)] at e1
  rw [iAt_eq h4] at e2
  rw [e1, e2]
  by_cases hw : (w : Int) ∈ r2.l
  · obtain ⟨u, hu, _, hn⟩ := (h.mem two r2 h2 _).1 hw
    have : u = w := by omega
    subst this
    rw [if_pos hw, if_pos hn]
  · rw [if_neg hw, if_neg]
    intro hn
    by_cases hWS : WS w
    · exact hw ((h.mem two r2 h2 _).2 ⟨w, rfl, hWS, hn⟩)
    · have h9 := h.oth w (by omega) hWS
      have : w = two := by omega
      subst this
      exact hWS h2W
/-- Two classes have become one. -/
theorem CMap.joined {W W9 : World} {M B0 nn : Nat} {WS : Nat → Prop} {nm : List Int} {S : Nat → Option Row} (h : CMap W M B0 nn WS nm S) (hl : nm.length = 101) {one two : Nat} {r1 r2 : Row} (h1 : S one = some r1) (h2 : S two = some r2) (hne : one ≠ two) (h1W : WS one) (h2W : WS two)
    {g cp : Nat} (hrow : W9.ownsRow 0 3 1 (.slice (some ⟨g, 0, none⟩) (r1.l.length + r2.l.length) cp) (r1.l.length + r2.l.length) (flatI (r1.l ++ r2.l))) (hg : g = r1.g ∨ W.heap.size ≤ g) (hgB : B0 ≤ g)
    (hmp : MpH kfW zSl W9 M (nn + 1) (fun c => (putR (putR S one (some ⟨g, cp, r1.l ++ r2.l⟩)) two none c).map rowV)) (hown : ∀ c r, S c = some r → c ≠ one → W9.ownsRow 0 3 1 (rowV r) r.l.length (flatI r.l)) :
    CMap W9 M B0 (nn + 1) WS (ren nm one two) (putR (putR S one (some ⟨g, cp, r1.l ++ r2.l⟩)) two none) := by
  have hS : ∀ c r, putR (putR S one (some ⟨g, cp, r1.l ++ r2.l⟩)) two none c = some r → (c = one ∧ r = ⟨g, cp, r1.l ++ r2.l⟩) ∨ (c ≠ one ∧ c ≠ two ∧ S c = some r) := by
    intro c r hc
    by_cases e2 : c = two
    · subst e2; rw [putR_same] at hc; cases hc
    · rw [putR_other _ _ e2] at hc
      by_cases e1 : c = one
      · subst e1; rw [putR_same] at hc; cases hc; exact .inl ⟨rfl, rfl⟩
      · rw [putR_other _ _ e1] at hc; exact .inr ⟨e1, e2, hc⟩
  have hat : ∀ u, WS u → iAt (ren nm one two) u = if iAt nm u = (two : Int) then (one : Int) else iAt nm u := fun u hu => ren_at _ _ (by have := h.ws u hu; omega)
  have hlt : ∀ c r, S c = some r → r.g < W.heap.size := fun c r hc => own_lt (h.own c r hc).1 _ rfl
  have hdis : ∀ x, x ∈ r1.l → x ∈ r2.l → False := by
    intro x hx1 hx2
    obtain ⟨u, e1, _, n1⟩ := (h.mem one r1 h1 x).1 hx1
    obtain ⟨v, e2, _, n2⟩ := (h.mem two r2 h2 x).1 hx2
    have : u = v := by omega
    subst this
    omega
  refine ⟨hmp, ?_, ?_, ?_, ?_, ?_, h.ws, ?_, ?_⟩
  · intro c r hc
    rcases hS c r hc with ⟨rfl, rfl⟩ | ⟨e1, e2, hc⟩
    · refine ⟨?_, hgB⟩
      simpa [rowV] using hrow
    · exact ⟨hown c r hc e1, (h.own c r hc).2⟩
  · intro c c' r r' hc hc' hgg
    have k1 := hS c r hc
    have k2 := hS c' r' hc'
    clear hc hc'
    rcases k1 with ⟨rfl, rfl⟩ | ⟨e1, e2, hc⟩
    · rcases k2 with ⟨rfl, rfl⟩ | ⟨e1', e2', hc'⟩
      · rfl
      · dsimp only at hgg
        rcases hg with q | q
        · exact h.sep _ _ _ _ h1 hc' (by rw [← q]; exact hgg)
        · have := hlt c' r' hc'; omega
    · rcases k2 with ⟨rfl, rfl⟩ | ⟨e1', e2', hc'⟩
      · dsimp only at hgg
        rcases hg with q | q
        · exact (h.sep _ _ _ _ h1 hc (by rw [← q]; exact hgg.symm)).symm
        · have := hlt c r hc; omega
      · exact h.sep _ _ _ _ hc hc' hgg
  · intro c r hc x
    rcases hS c r hc with ⟨rfl, rfl⟩ | ⟨e1, e2, hc⟩
    · dsimp only
      rw [List.mem_append, h.mem _ _ h1, h.mem _ _ h2]
      constructor
      · rintro (⟨u, e, hu, hn⟩ | ⟨u, e, hu, hn⟩)
        · exact ⟨u, e, hu, by rw [hat u hu, if_neg (by omega)]; exact hn⟩
        · exact ⟨u, e, hu, by rw [hat u hu, if_pos hn]⟩
      · rintro ⟨u, e, hu, hn⟩
        rw [hat u hu] at hn
        split at hn
        · next hn2 => exact .inr ⟨u, e, hu, hn2⟩
        · exact .inl ⟨u, e, hu, hn⟩
    · rw [h.mem c r hc]
      constructor
      · rintro ⟨u, e, hu, hn⟩
        exact ⟨u, e, hu, by rw [hat u hu, if_neg (by omega)]; exact hn⟩
      · rintro ⟨u, e, hu, hn⟩
        rw [hat u hu] at hn
        split at hn
        · next hn2 => exact absurd (by omega : c = one) e1
        · exact ⟨u, e, hu, hn⟩
  · intro c r hc
    rcases hS c r hc with ⟨rfl, rfl⟩ | ⟨e1, e2, hc⟩
    · dsimp only
      rw [List.nodup_append]
      exact ⟨h.nd _ _ h1, h.nd _ _ h2, fun a ha b hb e => hdis a ha (e ▸ hb)⟩
    · exact h.nd c r hc
  · intro u hu
    rw [hat u hu]
    split
    · exact ⟨one, ⟨g, cp, r1.l ++ r2.l⟩, by rw [putR_other _ _ hne, putR_same], rfl⟩
    · next hn =>
      obtain ⟨c, r, hc, hn2⟩ := h.has u hu
      by_cases e1 : c = one
      · subst e1
        exact ⟨c, ⟨g, cp, r1.l ++ r2.l⟩, by rw [putR_other _ _ hne, putR_same], hn2⟩
      · have e2 : c ≠ two := fun e => hn (by rw [hn2, e])
        exact ⟨c, r, by rw [putR_other _ _ e2, putR_other _ _ e1]; exact hc, hn2⟩
  · intro u hu
    rw [hat u hu]
    split
    · exact ⟨one, h1W, rfl⟩
    · exact h.nmW u hu
  · intro u hu hnW
    rw [ren_at _ _ (by omega)]
    have h9 := h.oth u hu hnW
    rw [if_neg]
    · exact h9
    · intro e
      have : u = two := by omega
      subst this
      exact hnW h2W
end Go.Proofs.Ythdjbapidodlfaa
