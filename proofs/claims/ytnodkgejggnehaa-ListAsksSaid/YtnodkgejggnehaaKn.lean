/- Stage 5: a link that is known. -/
import Derived.Test.YtnodkgejggnehaaLk
import Derived.Test.YtnodkgejggnehaaSz
import Derived.Laws.OwnMore
import Derived.Test.YtnodkgejggnehaaBase
import Derived.ControlIn
import Derived.Laws.EntriesVeiled
namespace Go.Proofs.Ytnodkgejggnehaa
set_option linter.unusedSimpArgs false
set_option linter.unusedVariables false
open Go.RowKit Go.Shelf

/-- The names of partners are names. -/
def PtOk (n : Nat) (pt : Nat → Int) : Prop := ∀ x, x < 24 → pt x = -1 ∨ ∃ k, k < n ∧ pt x = (k : Int)
/-- The ends of links are items. -/
def ZOk (n : Nat) (zs : List Rg) : Prop := ∀ k, k < n → ∃ a b : Nat, gAt zs k = ⟨(a : Int), (b : Int)⟩ ∧ a < 12 ∧ b < 12
/-- An end of a link, as a number. -/
def eN (zs : List Rg) (l k : Nat) : Nat := (endI zs l k).toNat
theorem ZOk.at {n : Nat} {zs : List Rg} (h : ZOk n zs) {k : Nat} (hk : k < n) : gAt zs k = ⟨(eN zs 0 k : Int), (eN zs 1 k : Int)⟩ ∧ eN zs 0 k < 12 ∧ eN zs 1 k < 12 := by
  obtain ⟨a, b, h1, h2, h3⟩ := h k hk
  simp [eN, endI, h1, h2, h3]
theorem ZOk.end_eq {n : Nat} {zs : List Rg} (h : ZOk n zs) {l k : Nat} (hk : k < n) : endI zs l k = (eN zs l k : Int) := by
  obtain ⟨a, b, h1, h2, h3⟩ := h k hk
  unfold eN endI
  rw [h1]
  split <;> simp
theorem ZOk.lt {n : Nat} {zs : List Rg} (h : ZOk n zs) {l k : Nat} (hk : k < n) : eN zs l k < 12 := by
  obtain ⟨a, b, h1, h2, h3⟩ := h k hk
  unfold eN endI
  rw [h1]
  split <;> simp <;> omega
/-- What a parting of the item x gives. -/
def prtL (zs : List Rg) (pt : Nat → Int) (x : Nat) : List Rg := if pt x = -1 then [] else [⟨0, (eN zs 0 (pt x).toNat : Int)⟩, ⟨1, (eN zs 1 (pt x).toNat : Int)⟩]
/-- The partners behind it. -/
def prtP (zs : List Rg) (pt : Nat → Int) (x : Nat) : Nat → Int := if pt x = -1 then pt else unP pt (eN zs 0 (pt x).toNat) (eN zs 1 (pt x).toNat) 2
theorem prtP_ok {n : Nat} {zs : List Rg} {pt : Nat → Int} (h : PtOk n pt) (x : Nat) : PtOk n (prtP zs pt x) := by
  intro y hy
  unfold prtP
  split
  · exact h y hy
  · simp only [unP]
    split
    · exact .inl rfl
    · split
      · exact .inl rfl
      · exact h y hy
theorem app_sl {W : World} {v : Value} {q : Nat} {xs ys : List Rg} {C : Option Addr} {m cp : Nat} (h : W.ownsRow 0 100 2 v q (flatR xs)) (hq : q ≤ 1000) (hm : m ≤ 1000) (hC : (m = 0 ∧ C = none ∧ cp = 0) ∨ ∃ E, C = some ⟨E, 0, none⟩) (hy : Rgs W C m ys) :
    ∃ C2 c2 W', runA Try.prog 92 v (.slice C m cp) W = .ok (.value (.slice C2 (q + m) c2)) W' ∧ W'.ownsRow 0 100 2 (.slice C2 (q + m) c2) (q + m) (flatR (xs ++ ys)) ∧ Keeps (fun k => v.ownBlock = some k) W W' ∧
      ∀ g, (Value.slice C2 (q + m) c2).ownBlock = some g → v.ownBlock = some g ∨ (W.heap.size ≤ g ∧ g < W'.heap.size) := by
  have hfl : ∀ l : List Rg, (flatR l).length = l.length * 2 := fun l => by
    induction l with
    | nil => rfl
    | cons x l ih => simp only [flatR, List.flatMap_cons, List.length_append, List.length_cons] at ih ⊢; simp only [cellR, List.length_cons, List.length_nil]; omega
  rcases hC with ⟨rfl, rfl, rfl⟩ | ⟨E, rfl⟩
  · obtain ⟨i, hi, _⟩ := info_parts info100_
    have h0 := run_append_owned_none (P := Try.prog) (w := W) 0 92 92 100 i 2 Try.underlying92 hi v q (flatR xs) h
    have hy0 : ys = [] := List.length_eq_zero_iff.1 hy.1
    subst hy0
    obtain ⟨C2, c2, e, -⟩ := rgs_own (n := q) (l := xs) (by have := h.1; rw [hfl] at this; omega) h
    subst e
    rw [List.append_nil]
    exact ⟨C2, c2, W, run_app h0, h, Keeps.refl _ _, fun g hg => .inl hg⟩
  · obtain ⟨i, hi, hz, hs, hb⟩ := info_parts info100_
    have hc : ∀ (j : Nat) (u : Value), (flatR ys)[j]? = some u → W.cell? ((⟨E, 0, none⟩ : Addr).add j) = some u := by
      intro j u hj
      have hjl : j < ys.length * 2 := by
        have := (List.getElem?_eq_some_iff.1 hj).1
        rwa [hfl] at this
      have hm0 : 0 < m := by have := hy.1; omega
      obtain ⟨b, o, e, hcells⟩ := hy.2 hm0
      cases e
      rw [Addr.add_lit]
      obtain ⟨t, ht⟩ : ∃ t, t = j / 2 := ⟨_, rfl⟩
      obtain ⟨c0, c1⟩ := hcells t (by have := hy.1; omega)
      obtain ⟨f0, f1⟩ := flatR_at ys t (by omega)
      rcases (by omega : j = t * 2 ∨ j = t * 2 + 1) with rfl | rfl
      · rw [f0] at hj; rw [c0, hj]
      · rw [f1] at hj; rw [← hj, ← c1]; congr 2
    obtain ⟨v', W', h2, h3, h4, _, h5⟩ := run_append_own_at (P := Try.prog) W 0 92 92 100 i _ 2 16 Try.underlying92 hi hz hs hb rfl (by omega) v q (flatR xs) h ⟨E, 0, none⟩ m cp (flatR ys) (by rw [hfl, hy.1]) hc (by
      intro u hu
      simp only [flatR, List.mem_flatMap, cellR, List.mem_cons, List.not_mem_nil, or_false] at hu
      obtain ⟨r, _, rfl | rfl⟩ := hu <;> rfl) (by unfold maxLen; omega) (by omega) (Nat.zero_le _)
    have e1 : flatR xs ++ flatR ys = flatR (xs ++ ys) := by simp [flatR]
    rw [e1] at h3
    obtain ⟨C2, c2, e, -⟩ := rgs_own (n := q + m) (l := xs ++ ys) (by have h8 := h.1; have h9 := hy.1; rw [hfl] at h8; simp; omega) h3
    subst e
    refine ⟨C2, c2, W', run_app h2, h3, ⟨h4.os, h4.tape, h4.output, h4.size, fun k hk hm => h4.block k hk (fun e => hm e.symm)⟩, fun g hg => ?_⟩
    have hlt := own_lt h3 g hg
    rcases h5 with h5 | h5
    · rw [h5] at hg; exact .inl hg
    · rw [h5] at hg; have := Option.some.inj hg; exact .inr ⟨by omega, hlt⟩
/-- An item is parted. -/
theorem part83 (B : Nat) (sl sr : Int) (A : Option Addr) (n cap : Nat) (zs : List Rg) (A2 : Option Addr) (kn kc : Nat) (ks : List Int) (pt : Nat → Int) (op : Nat → Bool) (mp : Value) (l i : Nat) (w : World) (h : Brd w B sl sr A n cap zs A2 kn kc ks pt op mp) (hl : l < 2) (hi : i < 12) (hz : ZOk n zs) (hp : pt (l * 12 + i) = -1 ∨ ∃ k, k < n ∧ pt (l * 12 + i) = (k : Int)) :
    Calls Try.prog 83 #[.pointer (some ⟨B, 0, none⟩), .agg #[.int .i64 (l : Int), .int .i64 (i : Int)]] w fun e w' => ∃ C m cp, e = .returned (.slice C m cp) ∧ m ≤ 2 ∧ ((m = 0 ∧ C = none ∧ cp = 0) ∨ ∃ E, C = some ⟨E, 0, none⟩) ∧ Rgs w' C m (prtL zs pt (l * 12 + i)) ∧ Brd w' B sl sr A n cap zs A2 kn kc ks (prtP zs pt (l * 12 + i)) op mp ∧ Keeps (fun j => j = B) w w' := by
  by_cases h0 : pt (l * 12 + i) = -1
  · refine (part83n B sl sr A n cap zs A2 kn kc ks pt op mp l i w h hl hi h0).mono ?_
    rintro e w' ⟨rfl, hb⟩
    refine ⟨none, 0, 0, rfl, by omega, .inl ⟨rfl, rfl, rfl⟩, ?_, ?_, Keeps.of_new hb⟩
    · rw [prtL, if_pos h0]; exact ⟨rfl, fun h => by omega⟩
    · rw [prtP, if_pos h0]; exact h.below hb (Nat.le_refl _)
  · obtain ⟨k, hk, e⟩ := hp.resolve_left h0
    obtain ⟨hg, ha, hb⟩ := hz.at hk
    refine (part83y B sl sr A n cap zs A2 kn kc ks pt op mp l i w h hl hi k _ _ e hk hg ha hb).mono ?_
    rintro e2 w' ⟨E, rfl, h1, h2, h3, h4⟩
    have et : (pt (l * 12 + i)).toNat = k := by rw [e]; simp
    refine ⟨some ⟨E, 0, none⟩, 2, 2, rfl, by omega, .inr ⟨E, rfl⟩, ?_, ?_, h4⟩
    · rw [prtL, if_neg h0, et]; exact h2
    · rw [prtP, if_neg h0, et]; exact h3
end Go.Proofs.Ytnodkgejggnehaa

namespace Go.Proofs.Ytnodkgejggnehaa
set_option linter.unusedSimpArgs false
set_option linter.unusedVariables false
open Go.RowKit Go.Shelf

/-- The deferred calls are marks, each on a block of its own, from lo on. -/
def Marks (lo : Nat) (W : World) : List Deferred → Prop
  | [] => True
  | d :: ds => (∃ D, d = { target := .collected D, args := #[] } ∧ lo ≤ D ∧ D < W.heap.size ∧ W.heap[D]? = some (.deferred (some [])) ∧ (∀ d' ∈ ds, d' ≠ { target := .collected D, args := #[] })) ∧ Marks lo W ds
theorem Marks.keep {lo : Nat} {Mut : Nat → Prop} {W W' : World} {ds : List Deferred} (h : Marks lo W ds) (hK : Keeps Mut W W') (hm : ∀ k, Mut k → k < lo) : Marks lo W' ds := by
  induction ds with
  | nil => trivial
  | cons d ds ih =>
    obtain ⟨⟨D, h1, h2, h3, h4, h5⟩, h6⟩ := h
    exact ⟨⟨D, h1, h2, Nat.lt_of_lt_of_le h3 hK.size, (hK.block D h3 (fun e => by have := hm D e; omega)).trans h4, h5⟩, ih h6⟩
theorem Marks.old {lo : Nat} {W : World} {ds : List Deferred} (h : Marks lo W ds) : ∀ d ∈ ds, ∀ D, W.heap.size ≤ D → d ≠ { target := .collected D, args := #[] } := by
  induction ds with
  | nil => simp
  | cons d ds ih =>
    obtain ⟨⟨D, h1, h2, h3, h4, h5⟩, h6⟩ := h
    intro d' hd D' hD e
    rcases List.mem_cons.1 hd with rfl | hd
    · rw [h1] at e
      simp only [Deferred.mk.injEq, Target.collected.injEq, and_true] at e
      omega
    · exact ih h6 d' hd D' hD e
theorem Marks.push {lo D : Nat} {W0 W : World} {ds : List Deferred} (h0 : Marks lo W0 ds) (h : Marks lo W ds) (hlo : lo ≤ W0.heap.size) (hD : W0.heap.size ≤ D) (hDW : D < W.heap.size) (hd : W.heap[D]? = some (.deferred (some []))) :
    Marks lo W ({ target := .collected D, args := #[] } :: ds) :=
  ⟨⟨D, rfl, Nat.le_trans hlo hD, hDW, hd, fun d' hd' => h0.old d' hd' D hD⟩, h⟩
/-- What is no mark stays when the marks are taken. -/
theorem Marks.leaves {F : Fence} {n : Nat} {P : Program} {fn : Func} {tmps : Array Value} {R : Ending → World → Prop} {lo : Nat} (ds : List Deferred) (W : World) (h : Marks lo W ds)
    (hR : ∀ W', Keeps (fun j => lo ≤ j ∧ W.heap[j]? = some (.deferred (some []))) W W' → LeavesInM F n P fn tmps R [] .returning W') : LeavesInM F n P fn tmps R ds .returning W := by
  induction ds generalizing W with
  | nil => exact hR W (Keeps.refl _ _)
  | cons d ds ih =>
    obtain ⟨⟨D, rfl, h2, h3, h4, h5⟩, h6⟩ := h
    refine ⟨by simp, .inl ⟨D, _, rfl, run_takeDeferred h4, ?_⟩⟩
    have hp : Keeps (fun j => j = D) W (W.putObj D (.deferred none)) := Keeps.putObj _ _ _ rfl
    have hm : Marks lo (W.putObj D (.deferred none)) ds := by
      clear ih hR
      induction ds with
      | nil => trivial
      | cons d ds ih2 =>
        obtain ⟨⟨E, e1, e2, e3, e4, e5⟩, e6⟩ := h6
        have hE : E ≠ D := fun e => h5 d (by simp) (by rw [e1, e])
        exact ⟨⟨E, e1, e2, Nat.lt_of_lt_of_le e3 hp.size, (hp.block E e3 hE).trans e4, e5⟩, ih2 e6 (fun d' hd => h5 d' (List.mem_cons_of_mem _ hd))⟩
    refine ih _ hm (fun W' hK => hR W' ?_)
    refine (hp.mono (fun k _ e => by subst e; exact ⟨h2, h4⟩)).trans (hK.mono (fun k hk e => ?_))
    by_cases hkD : k = D
    · subst hkD; exact ⟨h2, h4⟩
    · refine ⟨e.1, ?_⟩
      have := World.putObj_heap_other (w := W) (o := Obj.deferred none) hkD
      rw [← this]; exact e.2
end Go.Proofs.Ytnodkgejggnehaa

namespace Go.Proofs.Ytnodkgejggnehaa
set_option linter.unusedSimpArgs false
set_option linter.unusedVariables false
open Go.RowKit Go.Shelf

attribute [local go_sem ↓] exec_app at_app
attribute [local go_sem] Oper.semAt_some
/-- The links of an item are closed. -/
def clsO (zs : List Rg) (n l i : Nat) (op : Nat → Bool) (k : Nat) : Nat → Bool := fun j => op j && !(decide (j < k) && decide (j < n) && decide (eN zs l j = i))
/-- Partners, open links and parted items, as a link becomes known. -/
def knw (zs : List Rg) (n : Nat) (pt : Nat → Int) (op : Nat → Bool) (k : Nat) : Nat → (Nat → Int) × (Nat → Bool) × List Rg
  | 0 => (pt, op, [])
  | q + 1 => (prtP zs (knw zs n pt op k q).1 (q * 12 + eN zs q k), clsO zs n q (eN zs q k) (knw zs n pt op k q).2.1 n, (knw zs n pt op k q).2.2 ++ prtL zs (knw zs n pt op k q).1 (q * 12 + eN zs q k))
theorem knw_ok {n : Nat} {zs : List Rg} {pt : Nat → Int} {op : Nat → Bool} {k : Nat} (h : PtOk n pt) (q : Nat) : PtOk n (knw zs n pt op k q).1 := by
  induction q with
  | zero => exact h
  | succ q ih => exact prtP_ok ih _
theorem prtL_len (zs : List Rg) (pt : Nat → Int) (x : Nat) : (prtL zs pt x).length ≤ 2 := by
  unfold prtL; split <;> simp
/-- Marks stay where no mark is changed. -/
theorem Marks.keepC {lo : Nat} {Mut : Nat → Prop} {W W' : World} {ds : List Deferred} (h : Marks lo W ds) (hK : Keeps Mut W W') (hm : ∀ k, Mut k → W.heap[k]? ≠ some (.deferred (some []))) : Marks lo W' ds := by
  induction ds with
  | nil => trivial
  | cons d ds ih =>
    obtain ⟨⟨D, h1, h2, h3, h4, h5⟩, h6⟩ := h
    exact ⟨⟨D, h1, h2, Nat.lt_of_lt_of_le h3 hK.size, (hK.block D h3 (fun e => hm D e h4)).trans h4, h5⟩, ih h6⟩
/-- What changes behind a board's making does not reach it. -/
theorem Brd.abide {W5 W W' : World} {B : Nat} {sl sr : Int} {A : Option Addr} {n cap : Nat} {zs : List Rg} {A2 : Option Addr} {kn kc : Nat} {ks : List Int} {pt pt5 : Nat → Int} {op op5 : Nat → Bool} {mp mp5 : Value} {Mut : Nat → Prop} (h5 : Brd W5 B sl sr A n cap zs A2 kn kc ks pt5 op5 mp5) (h : Brd W B sl sr A n cap zs A2 kn kc ks pt op mp) (hK : Keeps Mut W W') (hm : ∀ k, Mut k → W5.heap.size ≤ k) : Brd W' B sl sr A n cap zs A2 kn kc ks pt op mp := by
  obtain ⟨X, hX, hs⟩ := h.row
  obtain ⟨X5, hX5, _⟩ := h5.row
  have hl5 := lt_of_block hX5
  have hl := lt_of_block hX
  have hB : ¬ Mut B := fun e => by have := hm B e; omega
  have k : ∀ o v, W.cell? ⟨B, o, none⟩ = some v → W'.cell? ⟨B, o, none⟩ = some v := fun o v hv => (keep_cells hK hl hB o).trans hv
  refine ⟨k _ _ h.c0, k _ _ h.c1, k _ _ h.c2, k _ _ h.c3, fun j hj => k _ _ (h.hp j hj), fun j hj => k _ _ (h.ho j hj), k _ _ h.cm, ⟨h.rs.1, fun hn => ?_⟩, ⟨h.is.1, fun hn => ?_⟩, ⟨X, (hK.block B hl hB).trans hX, hs⟩, h.da, h.dk⟩
  · obtain ⟨b, o, e, hc⟩ := h.rs.2 hn
    obtain ⟨b5, o5, e5, hc5⟩ := h5.rs.2 hn
    rw [e] at e5
    cases e5
    have h1 := lt_of_cell (hc5 0 hn).1
    have h2 := lt_of_cell (hc 0 hn).1
    have hb : ¬ Mut b := fun e => by have := hm b e; omega
    exact ⟨b, o, e, fun j hj => ⟨(keep_cells hK h2 hb _).trans (hc j hj).1, (keep_cells hK h2 hb _).trans (hc j hj).2⟩⟩
  · obtain ⟨b, o, e, hc⟩ := h.is.2 hn
    obtain ⟨b5, o5, e5, hc5⟩ := h5.is.2 hn
    rw [e] at e5
    cases e5
    have h1 := lt_of_cell (hc5 0 hn)
    have h2 := lt_of_cell (hc 0 hn)
    have hb : ¬ Mut b := fun e => by have := hm b e; omega
    exact ⟨b, o, e, fun j hj => (keep_cells hK h2 hb _).trans (hc j hj)⟩
theorem keeps_old3 {Mut : Nat → Prop} {w A C : World} (h1 : Keeps Mut w A) (h2 : Keeps (fun k => w.heap.size ≤ k ∨ Mut k) A C) : Keeps Mut w C :=
  ⟨h2.os.trans h1.os, h2.tape.trans h1.tape, h2.output.trans h1.output, Nat.le_trans h1.size h2.size, fun k hk hm => (h2.block k (Nat.lt_of_lt_of_le hk h1.size) (fun e => e.elim (fun e => by omega) hm)).trans (h1.block k hk hm)⟩
theorem clsO_zero (zs : List Rg) (n l i : Nat) (op : Nat → Bool) : clsO zs n l i op 0 = op := by
  funext j; simp [clsO]
theorem clsO_self (zs : List Rg) (n l i : Nat) (op : Nat → Bool) (x : Nat) : clsO zs n l i op x x = op x := by
  simp [clsO]
theorem clsO_skip {zs : List Rg} {n l i : Nat} {op : Nat → Bool} {x : Nat} (hx : x < n) (h : (decide (eN zs l x = i) && op x) = false) : clsO zs n l i op (x + 1) = clsO zs n l i op x := by
  funext j
  unfold clsO
  by_cases e : j = x
  · subst e
    simp only [Bool.and_eq_false_iff, decide_eq_false_iff_not] at h
    rcases h with h | h
    · simp [h]
    · simp [h]
  · have : (j < x + 1) ↔ (j < x) := by omega
    simp [this]
theorem clsO_step {zs : List Rg} {n l i : Nat} {op : Nat → Bool} {x : Nat} (hx : x < n) (h : (decide (eN zs l x = i) && op x) = true) : clsO zs n l i op (x + 1) = fun j => if j = x then false else clsO zs n l i op x j := by
  funext j
  unfold clsO
  simp only [Bool.and_eq_true, decide_eq_true_eq] at h
  by_cases e : j = x
  · subst e
    simp [h.1, hx]
  · have : (j < x + 1) ↔ (j < x) := by omega
    simp [this, e]
/-- What a round of know finds. -/
structure KnI (B : Nat) (sl sr : Int) (A : Option Addr) (n cap : Nat) (zs : List Rg) (A2 : Option Addr) (kn kc : Nat) (ks : List Int) (mp : Value) (w : World) (ptq : Nat → Int) (opq : Nat → Bool) (Lq : List Rg) (v5 : Value) (q : Nat) (W : World) : Prop where
  brd : Brd W B sl sr A n cap zs A2 kn kc ks ptq opq mp
  own : W.ownsRow 0 100 2 v5 Lq.length (flatR Lq)
  len : Lq.length ≤ 2 * q
  new : ∀ g, v5.ownBlock = some g → w.heap.size < g
  box : W.heap[w.heap.size]? = some (.cells #[.pointer (some ⟨B, 0, none⟩)] 61 (0, 0))
  keep : Keeps (fun j => j = B) w W
set_option maxRecDepth 100000 in
set_option maxHeartbeats 16000000 in
theorem know61 (B : Nat) (sl sr : Int) (A : Option Addr) (n cap : Nat) (zs : List Rg) (A2 : Option Addr) (kn kc : Nat) (ks : List Int) (pt : Nat → Int) (op : Nat → Bool) (mp : Value) (k : Nat) (w : World) (h : Brd w B sl sr A n cap zs A2 kn kc ks pt op mp) (hn : n ≤ 40) (hz : ZOk n zs) (hp : PtOk n pt) (hk : k < n) :
    Calls Try.prog 61 #[.pointer (some ⟨B, 0, none⟩), .int .i64 (k : Int)] w fun e w' => ∃ C cp, e = .returned (.slice C (knw zs n pt op k 2).2.2.length cp) ∧ Rgs w' C (knw zs n pt op k 2).2.2.length (knw zs n pt op k 2).2.2 ∧ (∀ a, C = some a → w.heap.size ≤ a.block) ∧ Brd w' B sl sr A n cap zs A2 kn kc ks (prP (knw zs n pt op k 2).1 (eN zs 0 k) (eN zs 1 k) k 2) (knw zs n pt op k 2).2.1 mp ∧ Keeps (fun j => j = B) w w' := by
  obtain ⟨X0, hX0, -⟩ := h.row
  have hBw := lt_of_block hX0
  have hb0 := below_alloc_ w (.cells #[.pointer (some ⟨B, 0, none⟩)] 61)
  have hr0 := heap_alloc_new_ w (.cells #[.pointer (some ⟨B, 0, none⟩)] 61)
  obtain ⟨w0, hw0⟩ : ∃ w0, w.alloc (.cells #[.pointer (some ⟨B, 0, none⟩)] 61) = w0 := ⟨_, rfl⟩
  rw [hw0] at hb0 hr0
  have hB0 := h.below hb0 (Nat.le_refl _)
  have HBo := Lib.hid h
  have ke := ends72 B sl sr A n cap zs A2 kn kc ks pt op mp k w0 hB0 hk
  obtain ⟨hg, ha, hb⟩ := hz.at hk
  obtain ⟨a, hea⟩ : ∃ a, eN zs 0 k = a := ⟨_, rfl⟩
  obtain ⟨b, heb⟩ : ∃ b, eN zs 1 k = b := ⟨_, rfl⟩
  rw [hg] at ke
  simp only at ke
  have ix0 : ∀ (x y : Int) (W : World), (Instr.index 103 (.agg #[.int .i64 0, .int .i64 x, .int .i64 1, .int .i64 y]) (.int .i64 0)).run Try.prog W = .ok (.agg #[.int .i64 0, .int .i64 x]) W := fun _ _ _ => by kernel_rfl
  have ix1 : ∀ (x y : Int) (W : World), (Instr.index 103 (.agg #[.int .i64 0, .int .i64 x, .int .i64 1, .int .i64 y]) (.int .i64 1)).run Try.prog W = .ok (.agg #[.int .i64 1, .int .i64 y]) W := fun _ _ _ => by kernel_rfl
  rw [hea, heb] at ke
  rw [hea] at ha
  rw [heb] at hb
  have HKe := Lib.hid ke
  have Hea := Lib.hid hea
  have Heb := Lib.hid heb
  have HB := Lib.hid hB0
  have Hb0 := Lib.hid hb0
  have HR0 := Lib.hid hr0
  have Hz := Lib.hid hz
  have Hp := Lib.hid hp
  have Hg := Lib.hid hg
  have Hw0 := Lib.hid hw0
  have HBw := Lib.hid hBw
  have Hhn := Lib.hid hn
  clear ke hea heb h hb0 hr0 hz hp hg hB0 hw0 hX0 hBw X0
  refine (callsIn_wide (n := 5)).1 ?_
  refine callsIn_of_wp_marks Try.func61 rfl trivial ?_ rfl
  simp only [Try.ntmps61, List.size_toArray, List.length_cons, List.length_nil, Nat.reduceAdd, Nat.reduceSub, Array.replicate_succ, Array.replicate_zero, List.push_toArray, List.append_toArray, List.nil_append, List.cons_append]
  have c0 : w0.cell? ⟨w.heap.size, 0, none⟩ = some (.pointer (some ⟨B, 0, none⟩)) := by rw [cell_row HR0.out]; rfl
  gi_wp2_with fail
  rw [Hw0.out]
  try gi_wp2_with fail
  refine ⟨trivial, (callsIn_wide.2 HKe.out).mono ?_⟩
  rintro e w1 ⟨rfl, hb1⟩
  have HB1 := Lib.hid (HB.out.below hb1 (Nat.le_refl _))
  have HK1 := Lib.hid (Keeps.of_new (Mut := fun j => j = B) (Hb0.out.trans (hb1.mono Hb0.out.size)))
  have HR1 := Lib.hid ((hb1.block _ (lt_of_block HR0.out)).trans HR0.out)
  clear HKe hb1 c0 HB
  gi_wp2_with fail
  rename_i Q' K' hK'
  refine wpIn_loop (fun ac W => ∃ (q : Nat) (v5 v7 v8 v13 v14 v15 v16 v17 v18 v19 v20 v21 v22 v23 v24 v25 v26 v27 v28 v29 v30 v31 : Value) (ds : List Deferred), ac = { tmps := #[.pointer (some ⟨B, 0, none⟩), .int .i64 (k : Int), .pointer (some ⟨w.heap.size, 0, none⟩), undef, .slice none 0 0, v5, undef, v7, v8, .pointer (some ⟨B, 0, none⟩), .int .i64 (k : Int), .agg #[.int .i64 0, .int .i64 (a : Int), .int .i64 1, .int .i64 (b : Int)], .int .i64 (q : Int), v13, v14, v15, v16, v17, v18, v19, v20, v21, v22, v23, v24, v25, v26, v27, v28, v29, v30, v31, undef, undef, undef, undef], defers := ds } ∧ q ≤ 2 ∧ KnI B sl sr A n cap zs A2 kn kc ks mp w (knw zs n pt op k q).1 (knw zs n pt op k q).2.1 (knw zs n pt op k q).2.2 v5 q W ∧ Marks (w.heap.size + 1) W ds)
    (fun ac _ => 2 - (intOf (ac.tmps.getD 12 undef)).toNat) ?start ?round
  case start =>
    refine ⟨0, _, _, _, _, _, _, _, _, _, _, _, _, _, _, _, _, _, _, _, _, _, _, [], rfl, by omega, ⟨HB1.out, own_nil _ _ _, by simp [knw], fun g hg => by simp [Value.ownBlock] at hg, HR1.out, HK1.out⟩, trivial⟩
  case round =>
    rintro ac W ⟨q, v5, v7, v8, v13, v14, v15, v16, v17, v18, v19, v20, v21, v22, v23, v24, v25, v26, v27, v28, v29, v30, v31, ds, rfl, hq, hI, hD⟩
    rcases (by omega : q = 0 ∨ q = 1 ∨ q = 2) with rfl | rfl | rfl
    · have hI1 := hI.brd
      have x0 := hI.box
      have hwW := lt_of_block x0
      have cA : (W.alloc (.cells #[.int .i64 0, .int .i64 (a : Int)] 100)).cell? ⟨w.heap.size, 0, none⟩ = some (.pointer (some ⟨B, 0, none⟩)) := by rw [cell_row (hal_old x0)]; rfl
      have hbV := below_alloc_ W (.cells #[.int .i64 0, .int .i64 (a : Int)] 100)
      have hrV := heap_alloc_new_ W (.cells #[.int .i64 0, .int .i64 (a : Int)] 100)
      have k83 := part83 B sl sr A n cap zs A2 kn kc ks (knw zs n pt op k 0).1 (knw zs n pt op k 0).2.1 mp 0 a (W.alloc (.cells #[.int .i64 0, .int .i64 (a : Int)] 100)) (hI1.below hbV (Nat.le_refl _)) (by omega) ha Hz.out (knw_ok Hp.out 0 _ (by omega))
      simp only [Int.natCast_zero, Int.natCast_one] at k83
      have hxL : prtL zs (knw zs n pt op k 0).1 (0 * 12 + a) = prtL zs (knw zs n pt op k 0).1 (0 * 12 + eN zs 0 k) := by rw [Hea.out]
      have hxP : prtP zs (knw zs n pt op k 0).1 (0 * 12 + a) = (knw zs n pt op k (0 + 1)).1 := by show _ = prtP zs _ _; rw [Hea.out]
      have hxO : clsO zs n 0 a (knw zs n pt op k 0).2.1 n = (knw zs n pt op k (0 + 1)).2.1 := by show _ = clsO zs n 0 _ _ n; rw [Hea.out]
      have hxS : (knw zs n pt op k 0).2.2 ++ prtL zs (knw zs n pt op k 0).1 (0 * 12 + a) = (knw zs n pt op k (0 + 1)).2.2 := by rw [hxL]; rfl
      have hpl := prtL_len zs (knw zs n pt op k 0).1 (0 * 12 + a)
      obtain ⟨L0, hL0⟩ : ∃ L, (knw zs n pt op k 0).2.2 = L := ⟨_, rfl⟩
      obtain ⟨L1, hL1⟩ : ∃ L, prtL zs (knw zs n pt op k 0).1 (0 * 12 + a) = L := ⟨_, rfl⟩
      obtain ⟨p1, hp1⟩ : ∃ p, (knw zs n pt op k (0 + 1)).1 = p := ⟨_, rfl⟩
      obtain ⟨o0, ho0⟩ : ∃ o, (knw zs n pt op k 0).2.1 = o := ⟨_, rfl⟩
      rw [hxP, hp1, hL1, ho0] at k83
      rw [ho0] at hxO
      rw [hL1] at hpl
      rw [hL0, hL1] at hxS
      have hown0 := hI.own
      rw [hL0] at hown0
      have hlen0 := hI.len
      rw [hL0] at hlen0
      have hnew0 := hI.new
      have hkeep0 := hI.keep
      have HxO := Lib.hid hxO
      have HxS := Lib.hid hxS
      have Hxp := Lib.hid hp1
      have Hown := Lib.hid (own_keep (Mut := fun _ => False) hown0 (Keeps.of_new hbV) (fun _ _ e => e))
      have Hlen := Lib.hid hlen0
      have Hvlt := Lib.hid (own_lt hown0)
      have Hnew := Lib.hid hnew0
      have HKV := Lib.hid (hkeep0.trans (Keeps.of_new hbV))
      have HbxV := Lib.hid ((hbV.block _ (lt_of_block x0)).trans x0)
      have HrV := Lib.hid hrV
      have HK83 := Lib.hid k83
      have HDV := Lib.hid (hD.keep (Keeps.of_new (Mut := fun _ => False) hbV) (fun _ e => e.elim))
      have Hpl := Lib.hid hpl
      clear hI hI1 hbV hrV k83 hxL hxP hxO hxS hpl hL0 hL1 hp1 ho0 hown0 hlen0 hnew0 hkeep0 hD
      gi_wp2_with fail
      refine ⟨trivial, (callsIn_wide.2 HK83.out).mono ?_⟩
      rintro e W2 ⟨C, m, cp, rfl, hm, hC, hrg, hbrd, hk2⟩
      have hm2 := hrg.1
      have hBw := HBw.out
      have hWw := HKV.out.size
      obtain ⟨C2, c2, W3, hrun, hown3, hk3, hnew3⟩ := app_sl (own_keep Hown.out hk2 (fun g hg e => by have := Hnew.out g hg; have := HBw.out; omega)) (by have := Hlen.out; omega) (by omega) hC hrg
      have hown2 := own_keep Hown.out hk2 (fun g hg e => by have := Hnew.out g hg; have := HBw.out; omega)
      have hk3' : Keeps (fun j => w.heap.size < j ∧ v5.ownBlock = some j) W2 W3 := hk3.mono (fun j _ e => ⟨Hnew.out j e, e⟩)
      have hx2 := (hk2.block _ (lt_of_block HbxV.out) (by omega)).trans HbxV.out
      have hx3 := (hk3'.block _ (lt_of_block hx2) (by omega)).trans hx2
      have c3 : W3.cell? ⟨w.heap.size, 0, none⟩ = some (.pointer (some ⟨B, 0, none⟩)) := by rw [cell_row hx3]; rfl
      have hWP : B < W.heap.size := by have := lt_of_block x0; omega
      have hV2 := (hk2.block _ (lt_of_block HrV.out) (by omega)).trans HrV.out
      have h3P := (hk3'.block _ (lt_of_block hV2) (fun e => by have := Hvlt.out _ e.2; omega)).trans hV2
      have y0 : W3.cell? ⟨W.heap.size, 0, none⟩ = some (.int .i64 0) := by rw [cell_row h3P]; rfl
      have y1 : W3.cell? ⟨W.heap.size, 1, none⟩ = some (.int .i64 (a : Int)) := by rw [cell_row h3P]; rfl
      have hb3 := Brd.abide HBo.out hbrd hk3' (fun j e => Nat.le_of_lt e.1)
      have kl := links77 B sl sr A n cap zs A2 kn kc ks p1 o0 mp 0 a 84 #[.pointer (some ⟨B, 0, none⟩)] #[] (enters_of Try.func84 (by kernel_rfl) rfl) W3 hb3 (by omega) ha Hhn.out
      simp only [Int.natCast_zero, Int.natCast_one] at kl
      have HKl := Lib.hid kl
      have HB3 := Lib.hid hb3
      have Hown3 := Lib.hid hown3
      have Hnew3 := Lib.hid (show ∀ g, (Value.slice C2 (L0.length + m) c2).ownBlock = some g → w.heap.size < g from fun g e => by
        rcases hnew3 g e with e | e
        · exact Hnew.out g e
        · have := hwW; have := hk2.size; have h9 := (below_alloc_ W (.cells #[.int .i64 0, .int .i64 (a : Int)] 100)).size; omega)
      have Hlt3 := Lib.hid (own_lt hown3)
      have Hx3 := Lib.hid hx3
      have HK3 := Lib.hid (keeps_old3 (HKV.out.trans hk2) (hk3'.mono (fun j _ e => .inl (by omega))))
      have HDr := Lib.hid ((HDV.out.keep hk2 (fun j e => by have := HBw.out; omega)).keepC hk3' (fun j e => by
        intro e2
        rcases hown2.2 with ⟨e3, _⟩ | ⟨g, cpx, cur, e3, _, hg, _⟩
        · rw [e3] at e; cases e.2
        · rw [e3] at e
          cases (Option.some.inj e.2)
          rw [hg] at e2; cases e2))
      have Hm := Lib.hid hm2
      have Hm2 := Lib.hid hm
      clear hk2 hk3 hk3' hown3 hnew3 hb3 hbrd hx2 hx3 hV2 h3P hown2 hm hm2 hrg kl
      gi_wp2_with fail
      refine ⟨trivial, (callsIn_wide.2 HKl.out).mono ?_⟩
      rintro e W4 ⟨b1, rfl, rfl, hsz4, hb4, hseq⟩
      have HB4 := Lib.hid (HB3.out.below hb4 (Nat.le_refl _))
      have HK4 := Lib.hid (HK3.out.trans (Keeps.of_new hb4))
      have HD4 := Lib.hid (HDr.out.keep (Keeps.of_new (Mut := fun _ => False) hb4) (fun _ e => e.elim))
      have Hown4 := Lib.hid (own_keep (Mut := fun _ => False) Hown3.out (Keeps.of_new hb4) (fun _ _ e => e))
      have Hx4 := Lib.hid ((hb4.block _ (lt_of_block Hx3.out)).trans Hx3.out)
      have Hlt4 := Lib.hid (show ∀ g, (Value.slice C2 (L0.length + m) c2).ownBlock = some g → g < W4.heap.size from own_lt Hown4.out)
      have Hsq := Lib.hid hseq
      have hW3B : B < W3.heap.size := by have := lt_of_block Hx3.out; have := HBw.out; omega
      clear HKl hseq c3 y0 y1 hrun
      gi_wp2_with fail
      refine wpIn_rangeB (gf := 91) rfl (enters_of Try.func91 (by kernel_rfl) rfl) Hsq.out (fun j e => by omega) rfl (fun j => j = B) (fun j e => ⟨by omega, by omega⟩)
        (fun x O U => Brd U B sl sr A n cap zs A2 kn kc ks p1 (clsO zs n 0 a o0 x) mp ∧ Keeps (fun j => j = B) W4 U) (fun _ _ _ _ => False) (fun x O U U' hI hK => ⟨Brd.abide HB4.out hI.1 hK (fun j e => e.1), keeps_old3 hI.2 (hK.mono (fun j _ e => .inl e.1))⟩) (fun _ _ _ _ _ hI _ => hI) ?start ?round ?done ?stop
      case start => exact ⟨by rw [clsO_zero]; exact HB4.out, Keeps.refl _ _⟩
      case stop => rintro D c x U O _ _ _ _ _ hI; exact hI.elim
      case round =>
        intro l2 x U O hx hl1 hl2 hr hO hI
        obtain ⟨hbU, hkU⟩ := hI
        refine ⟨decide (eN zs 0 x = a) && o0 x, ⟨p1, _, hbU, fun he W2 hK => ?_, fun hne => ?_⟩, fun hq => ⟨?_, hkU⟩, fun hq W2 hK2 => ?_⟩
        · rw [Hz.out.end_eq hx] at he
          have he2 : decide (eN zs 0 x = a) = true := decide_eq_true (by omega)
          refine (isOpen84 B sl sr A n cap zs A2 kn kc ks p1 (clsO zs n 0 a o0 x) mp x W2 (hbU.keep hK (fun e => e) (fun _ _ e => e) (fun _ _ e => e)) (by have := Hhn.out; omega)).mono ?_
          rintro e V ⟨rfl, rfl⟩
          exact ⟨by rw [he2, clsO_self]; rfl, Below.refl _ _⟩
        · rw [Hz.out.end_eq hx] at hne
          rw [decide_eq_false (fun e => hne (by rw [e]))]; rfl
        · rw [clsO_skip hx hq]; exact hbU
        · have hbW := hbU.keep hK2 (fun e => e) (fun _ _ e => e) (fun _ _ e => e)
          have hkW := hkU.trans hK2.none
          have hxU := (hkU.block _ (lt_of_block Hx4.out) (by have := HBw.out; omega)).trans Hx4.out
          have hxW := (hK2.block _ (lt_of_block hxU) (fun e => e)).trans hxU
          have Hst := Lib.hid (clsO_step hx hq)
          have HkW := Lib.hid hkW
          have HxW := Lib.hid hxW
          have HlW := Lib.hid (show l2 < W2.heap.size from Nat.lt_of_lt_of_le hl2 hK2.size)
          have hx40 : (x : Int) < 40 := by have := Hhn.out; omega
          have hx40n : x < 40 := by have := Hhn.out; omega
          have hx0 : (0 : Int) ≤ (x : Int) := by omega
          clear hbU hkU hq hxU hxW hK2 hkW hr hO
          intro mm
          simp only [nmE]
          gi_wp2_with fail
          refine ⟨Keeps.refl _ _, ?_⟩
          rintro w2 ⟨hk2, hs2, hr2⟩ ⟨hb2, hkk2⟩
          have hx2 := (hk2.block _ (lt_of_block HxW.out) (by have := HxW.out; have := lt_of_block Hx4.out; omega)).trans HxW.out
          have c2 : w2.cell? ⟨w.heap.size, 0, none⟩ = some (.pointer (some ⟨B, 0, none⟩)) := by rw [cell_row hx2]; rfl
          have xo := hb2.ho x hx40n
          have fo := hb2.frozen (28 + x)
          have hso := hb2.setO x false hx40n
          rw [← Hst.out] at hso
          have HSo := Lib.hid hso
          have Hkk2 := Lib.hid hkk2
          clear hb2 hso hkk2
          gi_wp2_with fail
          exact ⟨O, Grow.refl _ _ _, (keeps_setCell _ _ _ _).mono (fun j _ e => .inl e), HSo.out, Hkk2.out.trans (keeps_setCell _ _ _ _)⟩
      case done =>
        rintro D U O hD hDU hDO hOs ⟨hbU, hkU⟩ hKd
        have HU := Lib.hid hbU
        have HkU := Lib.hid hkU
        have Hxx := Lib.hid ((hkU.block _ (lt_of_block Hx4.out) (by have := HBw.out; omega)).trans Hx4.out)
        have Hoo := Lib.hid (own_keep Hown4.out hkU (fun g hg e => by have := Hnew3.out g hg; have := HBw.out; omega))
        have HM := Lib.hid (Marks.push HD4.out (HD4.out.keep hkU (fun j e => by have := HBw.out; omega)) (by have := lt_of_block Hx4.out; omega) hD hDU hKd)
        clear hbU hkU hKd
        gi_wp2_with fail
        refine ⟨⟨0 + 1, _, _, _, _, _, _, _, _, _, _, _, _, _, _, _, _, _, _, _, _, _, _, _, rfl, by omega, ⟨by rw [Hxp.out, ← HxO.out]; exact HU.out, by rw [← HxS.out, List.length_append, Hm.out]; exact Hoo.out, by rw [← HxS.out, List.length_append, Hm.out]; have := Hlen.out; have := Hm2.out; omega, Hnew3.out, Hxx.out, HK4.out.trans HkU.out⟩, HM.out⟩, by simp [intOf]⟩
    · have hI1 := hI.brd
      have x0 := hI.box
      have hwW := lt_of_block x0
      have cA : (W.alloc (.cells #[.int .i64 1, .int .i64 (b : Int)] 100)).cell? ⟨w.heap.size, 0, none⟩ = some (.pointer (some ⟨B, 0, none⟩)) := by rw [cell_row (hal_old x0)]; rfl
      have hbV := below_alloc_ W (.cells #[.int .i64 1, .int .i64 (b : Int)] 100)
      have hrV := heap_alloc_new_ W (.cells #[.int .i64 1, .int .i64 (b : Int)] 100)
      have k83 := part83 B sl sr A n cap zs A2 kn kc ks (knw zs n pt op k 1).1 (knw zs n pt op k 1).2.1 mp 1 b (W.alloc (.cells #[.int .i64 1, .int .i64 (b : Int)] 100)) (hI1.below hbV (Nat.le_refl _)) (by omega) hb Hz.out (knw_ok Hp.out 1 _ (by omega))
      simp only [Int.natCast_zero, Int.natCast_one] at k83
      have hxL : prtL zs (knw zs n pt op k 1).1 (1 * 12 + b) = prtL zs (knw zs n pt op k 1).1 (1 * 12 + eN zs 1 k) := by rw [Heb.out]
      have hxP : prtP zs (knw zs n pt op k 1).1 (1 * 12 + b) = (knw zs n pt op k (1 + 1)).1 := by show _ = prtP zs _ _; rw [Heb.out]
      have hxO : clsO zs n 1 b (knw zs n pt op k 1).2.1 n = (knw zs n pt op k (1 + 1)).2.1 := by show _ = clsO zs n 1 _ _ n; rw [Heb.out]
      have hxS : (knw zs n pt op k 1).2.2 ++ prtL zs (knw zs n pt op k 1).1 (1 * 12 + b) = (knw zs n pt op k (1 + 1)).2.2 := by rw [hxL]; rfl
      have hpl := prtL_len zs (knw zs n pt op k 1).1 (1 * 12 + b)
      obtain ⟨L0, hL0⟩ : ∃ L, (knw zs n pt op k 1).2.2 = L := ⟨_, rfl⟩
      obtain ⟨L1, hL1⟩ : ∃ L, prtL zs (knw zs n pt op k 1).1 (1 * 12 + b) = L := ⟨_, rfl⟩
      obtain ⟨p1, hp1⟩ : ∃ p, (knw zs n pt op k (1 + 1)).1 = p := ⟨_, rfl⟩
      obtain ⟨o0, ho0⟩ : ∃ o, (knw zs n pt op k 1).2.1 = o := ⟨_, rfl⟩
      rw [hxP, hp1, hL1, ho0] at k83
      rw [ho0] at hxO
      rw [hL1] at hpl
      rw [hL0, hL1] at hxS
      have hown0 := hI.own
      rw [hL0] at hown0
      have hlen0 := hI.len
      rw [hL0] at hlen0
      have hnew0 := hI.new
      have hkeep0 := hI.keep
      have HxO := Lib.hid hxO
      have HxS := Lib.hid hxS
      have Hxp := Lib.hid hp1
      have Hown := Lib.hid (own_keep (Mut := fun _ => False) hown0 (Keeps.of_new hbV) (fun _ _ e => e))
      have Hlen := Lib.hid hlen0
      have Hvlt := Lib.hid (own_lt hown0)
      have Hnew := Lib.hid hnew0
      have HKV := Lib.hid (hkeep0.trans (Keeps.of_new hbV))
      have HbxV := Lib.hid ((hbV.block _ (lt_of_block x0)).trans x0)
      have HrV := Lib.hid hrV
      have HK83 := Lib.hid k83
      have HDV := Lib.hid (hD.keep (Keeps.of_new (Mut := fun _ => False) hbV) (fun _ e => e.elim))
      have Hpl := Lib.hid hpl
      clear hI hI1 hbV hrV k83 hxL hxP hxO hxS hpl hL0 hL1 hp1 ho0 hown0 hlen0 hnew0 hkeep0 hD
      gi_wp2_with fail
      refine ⟨trivial, (callsIn_wide.2 HK83.out).mono ?_⟩
      rintro e W2 ⟨C, m, cp, rfl, hm, hC, hrg, hbrd, hk2⟩
      have hm2 := hrg.1
      have hBw := HBw.out
      have hWw := HKV.out.size
      obtain ⟨C2, c2, W3, hrun, hown3, hk3, hnew3⟩ := app_sl (own_keep Hown.out hk2 (fun g hg e => by have := Hnew.out g hg; have := HBw.out; omega)) (by have := Hlen.out; omega) (by omega) hC hrg
      have hown2 := own_keep Hown.out hk2 (fun g hg e => by have := Hnew.out g hg; have := HBw.out; omega)
      have hk3' : Keeps (fun j => w.heap.size < j ∧ v5.ownBlock = some j) W2 W3 := hk3.mono (fun j _ e => ⟨Hnew.out j e, e⟩)
      have hx2 := (hk2.block _ (lt_of_block HbxV.out) (by omega)).trans HbxV.out
      have hx3 := (hk3'.block _ (lt_of_block hx2) (by omega)).trans hx2
      have c3 : W3.cell? ⟨w.heap.size, 0, none⟩ = some (.pointer (some ⟨B, 0, none⟩)) := by rw [cell_row hx3]; rfl
      have hWP : B < W.heap.size := by have := lt_of_block x0; omega
      have hV2 := (hk2.block _ (lt_of_block HrV.out) (by omega)).trans HrV.out
      have h3P := (hk3'.block _ (lt_of_block hV2) (fun e => by have := Hvlt.out _ e.2; omega)).trans hV2
      have y0 : W3.cell? ⟨W.heap.size, 0, none⟩ = some (.int .i64 1) := by rw [cell_row h3P]; rfl
      have y1 : W3.cell? ⟨W.heap.size, 1, none⟩ = some (.int .i64 (b : Int)) := by rw [cell_row h3P]; rfl
      have hb3 := Brd.abide HBo.out hbrd hk3' (fun j e => Nat.le_of_lt e.1)
      have kl := links77 B sl sr A n cap zs A2 kn kc ks p1 o0 mp 1 b 84 #[.pointer (some ⟨B, 0, none⟩)] #[] (enters_of Try.func84 (by kernel_rfl) rfl) W3 hb3 (by omega) hb Hhn.out
      simp only [Int.natCast_zero, Int.natCast_one] at kl
      have HKl := Lib.hid kl
      have HB3 := Lib.hid hb3
      have Hown3 := Lib.hid hown3
      have Hnew3 := Lib.hid (show ∀ g, (Value.slice C2 (L0.length + m) c2).ownBlock = some g → w.heap.size < g from fun g e => by
        rcases hnew3 g e with e | e
        · exact Hnew.out g e
        · have := hwW; have := hk2.size; have h9 := (below_alloc_ W (.cells #[.int .i64 1, .int .i64 (b : Int)] 100)).size; omega)
      have Hlt3 := Lib.hid (own_lt hown3)
      have Hx3 := Lib.hid hx3
      have HK3 := Lib.hid (keeps_old3 (HKV.out.trans hk2) (hk3'.mono (fun j _ e => .inl (by omega))))
      have HDr := Lib.hid ((HDV.out.keep hk2 (fun j e => by have := HBw.out; omega)).keepC hk3' (fun j e => by
        intro e2
        rcases hown2.2 with ⟨e3, _⟩ | ⟨g, cpx, cur, e3, _, hg, _⟩
        · rw [e3] at e; cases e.2
        · rw [e3] at e
          cases (Option.some.inj e.2)
          rw [hg] at e2; cases e2))
      have Hm := Lib.hid hm2
      have Hm2 := Lib.hid hm
      clear hk2 hk3 hk3' hown3 hnew3 hb3 hbrd hx2 hx3 hV2 h3P hown2 hm hm2 hrg kl
      gi_wp2_with fail
      refine ⟨trivial, (callsIn_wide.2 HKl.out).mono ?_⟩
      rintro e W4 ⟨b1, rfl, rfl, hsz4, hb4, hseq⟩
      have HB4 := Lib.hid (HB3.out.below hb4 (Nat.le_refl _))
      have HK4 := Lib.hid (HK3.out.trans (Keeps.of_new hb4))
      have HD4 := Lib.hid (HDr.out.keep (Keeps.of_new (Mut := fun _ => False) hb4) (fun _ e => e.elim))
      have Hown4 := Lib.hid (own_keep (Mut := fun _ => False) Hown3.out (Keeps.of_new hb4) (fun _ _ e => e))
      have Hx4 := Lib.hid ((hb4.block _ (lt_of_block Hx3.out)).trans Hx3.out)
      have Hlt4 := Lib.hid (show ∀ g, (Value.slice C2 (L0.length + m) c2).ownBlock = some g → g < W4.heap.size from own_lt Hown4.out)
      have Hsq := Lib.hid hseq
      have hW3B : B < W3.heap.size := by have := lt_of_block Hx3.out; have := HBw.out; omega
      clear HKl hseq c3 y0 y1 hrun
      gi_wp2_with fail
      refine wpIn_rangeB (gf := 91) rfl (enters_of Try.func91 (by kernel_rfl) rfl) Hsq.out (fun j e => by omega) rfl (fun j => j = B) (fun j e => ⟨by omega, by omega⟩)
        (fun x O U => Brd U B sl sr A n cap zs A2 kn kc ks p1 (clsO zs n 1 b o0 x) mp ∧ Keeps (fun j => j = B) W4 U) (fun _ _ _ _ => False) (fun x O U U' hI hK => ⟨Brd.abide HB4.out hI.1 hK (fun j e => e.1), keeps_old3 hI.2 (hK.mono (fun j _ e => .inl e.1))⟩) (fun _ _ _ _ _ hI _ => hI) ?start ?round ?done ?stop
      case start => exact ⟨by rw [clsO_zero]; exact HB4.out, Keeps.refl _ _⟩
      case stop => rintro D c x U O _ _ _ _ _ hI; exact hI.elim
      case round =>
        intro l2 x U O hx hl1 hl2 hr hO hI
        obtain ⟨hbU, hkU⟩ := hI
        refine ⟨decide (eN zs 1 x = b) && o0 x, ⟨p1, _, hbU, fun he W2 hK => ?_, fun hne => ?_⟩, fun hq => ⟨?_, hkU⟩, fun hq W2 hK2 => ?_⟩
        · rw [Hz.out.end_eq hx] at he
          have he2 : decide (eN zs 1 x = b) = true := decide_eq_true (by omega)
          refine (isOpen84 B sl sr A n cap zs A2 kn kc ks p1 (clsO zs n 1 b o0 x) mp x W2 (hbU.keep hK (fun e => e) (fun _ _ e => e) (fun _ _ e => e)) (by have := Hhn.out; omega)).mono ?_
          rintro e V ⟨rfl, rfl⟩
          exact ⟨by rw [he2, clsO_self]; rfl, Below.refl _ _⟩
        · rw [Hz.out.end_eq hx] at hne
          rw [decide_eq_false (fun e => hne (by rw [e]))]; rfl
        · rw [clsO_skip hx hq]; exact hbU
        · have hbW := hbU.keep hK2 (fun e => e) (fun _ _ e => e) (fun _ _ e => e)
          have hkW := hkU.trans hK2.none
          have hxU := (hkU.block _ (lt_of_block Hx4.out) (by have := HBw.out; omega)).trans Hx4.out
          have hxW := (hK2.block _ (lt_of_block hxU) (fun e => e)).trans hxU
          have Hst := Lib.hid (clsO_step hx hq)
          have HkW := Lib.hid hkW
          have HxW := Lib.hid hxW
          have HlW := Lib.hid (show l2 < W2.heap.size from Nat.lt_of_lt_of_le hl2 hK2.size)
          have hx40 : (x : Int) < 40 := by have := Hhn.out; omega
          have hx40n : x < 40 := by have := Hhn.out; omega
          have hx0 : (0 : Int) ≤ (x : Int) := by omega
          clear hbU hkU hq hxU hxW hK2 hkW hr hO
          intro mm
          simp only [nmE]
          gi_wp2_with fail
          refine ⟨Keeps.refl _ _, ?_⟩
          rintro w2 ⟨hk2, hs2, hr2⟩ ⟨hb2, hkk2⟩
          have hx2 := (hk2.block _ (lt_of_block HxW.out) (by have := HxW.out; have := lt_of_block Hx4.out; omega)).trans HxW.out
          have c2 : w2.cell? ⟨w.heap.size, 0, none⟩ = some (.pointer (some ⟨B, 0, none⟩)) := by rw [cell_row hx2]; rfl
          have xo := hb2.ho x hx40n
          have fo := hb2.frozen (28 + x)
          have hso := hb2.setO x false hx40n
          rw [← Hst.out] at hso
          have HSo := Lib.hid hso
          have Hkk2 := Lib.hid hkk2
          clear hb2 hso hkk2
          gi_wp2_with fail
          exact ⟨O, Grow.refl _ _ _, (keeps_setCell _ _ _ _).mono (fun j _ e => .inl e), HSo.out, Hkk2.out.trans (keeps_setCell _ _ _ _)⟩
      case done =>
        rintro D U O hD hDU hDO hOs ⟨hbU, hkU⟩ hKd
        have HU := Lib.hid hbU
        have HkU := Lib.hid hkU
        have Hxx := Lib.hid ((hkU.block _ (lt_of_block Hx4.out) (by have := HBw.out; omega)).trans Hx4.out)
        have Hoo := Lib.hid (own_keep Hown4.out hkU (fun g hg e => by have := Hnew3.out g hg; have := HBw.out; omega))
        have HM := Lib.hid (Marks.push HD4.out (HD4.out.keep hkU (fun j e => by have := HBw.out; omega)) (by have := lt_of_block Hx4.out; omega) hD hDU hKd)
        clear hbU hkU hKd
        gi_wp2_with fail
        refine ⟨⟨1 + 1, _, _, _, _, _, _, _, _, _, _, _, _, _, _, _, _, _, _, _, _, _, _, _, rfl, by omega, ⟨by rw [Hxp.out, ← HxO.out]; exact HU.out, by rw [← HxS.out, List.length_append, Hm.out]; exact Hoo.out, by rw [← HxS.out, List.length_append, Hm.out]; have := Hlen.out; have := Hm2.out; omega, Hnew3.out, Hxx.out, HK4.out.trans HkU.out⟩, HM.out⟩, by simp [intOf]⟩
    · have hbrd := hI.brd
      have x0 := hI.box
      have c0 : W.cell? ⟨w.heap.size, 0, none⟩ = some (.pointer (some ⟨B, 0, none⟩)) := by rw [cell_row x0]; rfl
      have kp := pair85 B sl sr A n cap zs A2 kn kc ks (knw zs n pt op k 2).1 (knw zs n pt op k 2).2.1 mp k a b W hbrd hk (by rw [Hg.out, Hea.out, Heb.out]) ha hb
      have HI := Lib.hid hI
      have HD := Lib.hid hD
      have HKp := Lib.hid kp
      clear hI hD hbrd kp x0
      gi_wp2_with fail
      refine ⟨trivial, (callsIn_wide.2 HKp.out).mono ?_⟩
      rintro e W2 ⟨rfl, hb2, hk2⟩
      have HD2 := Lib.hid (HD.out.keep hk2 (fun j e => by have := HBw.out; omega))
      have Hb2 := Lib.hid hb2
      have Hk2 := Lib.hid (HI.out.keep.trans hk2)
      have Ho2 := Lib.hid (own_keep HI.out.own hk2 (fun g hg e => by have := HI.out.new g hg; have := HBw.out; omega))
      clear c0 HKp hb2 hk2
      gi_wp2_with fail
      refine Marks.leaves ds W2 HD2.out (fun W' hK' => ?_)
      have hown := own_keep Ho2.out hK' (fun j e e2 => by
        rcases Ho2.out.2 with ⟨e3, _⟩ | ⟨g, cpx, cur, e3, _, hg, _⟩
        · rw [e3] at e; cases e
        · rw [e3] at e
          cases (Option.some.inj e)
          rw [hg] at e2; cases e2.2)
      obtain ⟨C, cp, e, hcap, hrgs, hblk⟩ := rgs_own rfl hown
      have hnew := HI.out.new
      subst e
      refine ⟨_, results_tmp rfl _ _ _, C, cp, rfl, hrgs, fun ad ha => ?_, ?_, ?_⟩
      · rcases hown.2 with ⟨e3, _⟩ | ⟨g, cpx, cur, e3, _, hg, _⟩
        · simp only [Value.slice.injEq] at e3; rw [e3.1] at ha; cases ha
        · simp only [Value.slice.injEq] at e3
          obtain ⟨rfl, -, -⟩ := e3
          cases ha
          exact Nat.le_of_lt (hnew g rfl)
      · rw [Hea.out, Heb.out]
        exact Brd.abide HBo.out Hb2.out hK' (fun j e => by omega)
      · exact keeps_old3 Hk2.out (hK'.mono (fun j _ e => .inl (by omega)))
end Go.Proofs.Ytnodkgejggnehaa
