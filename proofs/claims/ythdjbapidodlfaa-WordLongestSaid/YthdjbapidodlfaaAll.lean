/- Stage 4: all matches, in the document. -/
import Derived.Test.YthdjbapidodlfaaM17
import Derived.Test.YthdjbapidodlfaaOr
namespace Go.Proofs.Ythdjbapidodlfaa
set_option linter.unusedSimpArgs false
set_option linter.unusedVariables false
open Go.RowKit Go.Shelf

/-- The matches of one hearer more that begin with q. -/
def extK (rc : List Int) (L : List (List Int)) (h : Nat) (q : List Int) (n : Nat) : List (List Int) :=
  (List.range n).flatMap fun k => if h = 0 ∨ iAt rc (wdA L h k) = iAt rc (wdA L 0 (iAt q 0).toNat) then [q ++ [(k : Int)]] else []
def extS (rc : List Int) (L : List (List Int)) (h : Nat) (q : List Int) : List (List Int) := extK rc L h q (lAt L h).length
/-- The matches of the first hearers. -/
def allS (rc : List Int) (L : List (List Int)) : Nat → List (List Int)
  | 0 => [[]]
  | h + 1 => (allS rc L h).flatMap (extS rc L h)
def extD (rc : List Int) (L : List (List Int)) : Nat → Nat → List Int → List (List Int)
  | 0, _, q => [q]
  | d + 1, h, q => (extS rc L h q).flatMap (extD rc L d (h + 1))
theorem fm_congr {α β : Type} {l : List α} {f g : α → List β} (h : ∀ a ∈ l, f a = g a) : l.flatMap f = l.flatMap g := by
  induction l with
  | nil => rfl
  | cons a t ih =>
    simp only [List.flatMap_cons]
    rw [h a (by simp), ih (fun b hb => h b (by simp [hb]))]
theorem extK_succ (rc : List Int) (L : List (List Int)) (h : Nat) (q : List Int) (k : Nat) : extK rc L h q (k + 1) = extK rc L h q k ++ (if h = 0 ∨ iAt rc (wdA L h k) = iAt rc (wdA L 0 (iAt q 0).toNat) then [q ++ [(k : Int)]] else []) := by
  simp [extK, List.range_succ]
theorem allS_ext (rc : List Int) (L : List (List Int)) (d : Nat) : ∀ h, (allS rc L h).flatMap (extD rc L d h) = allS rc L (h + d) := by
  induction d with
  | zero => intro h; simp [extD]
  | succ d ih =>
    intro h
    have e : extD rc L (d + 1) h = fun q => (extS rc L h q).flatMap (extD rc L d (h + 1)) := rfl
    rw [e, ← List.flatMap_assoc]
    have := ih (h + 1)
    rw [show h + (d + 1) = h + 1 + d by omega, ← this]
    rfl
theorem take_set_succ {p : List Int} {h : Nat} (hh : h < p.length) (v : Int) : (p.set h v).take (h + 1) = p.take h ++ [v] := by
  rw [List.take_succ_eq_append_getElem (by simpa using hh)]
  rw [List.take_set_of_le (Nat.le_refl _)]
  simp
theorem cmpS_ext {rc nm : List Int} {L : List (List Int)} {m : Nat} (hL : LV L m) (hE : ∀ a b, a ≤ 100 → b ≤ 100 → (iAt rc a = iAt rc b ↔ iAt nm a = iAt nm b)) {u : Nat} (hu : u ≤ 100) :
    ∀ (d h : Nat) (p : List Int), h + d = m → 1 ≤ h → p.length = 4 → wdA L 0 (iAt p 0).toNat = u → (cmpS nm L (iAt nm u) d p h).map (·.take m) = extD rc L d h (p.take h) := by
  intro d
  induction d with
  | zero =>
    intro h p hd _ _ _
    obtain rfl : h = m := by omega
    simp [cmpS, extD]
  | succ d ih =>
    intro h p hd h1 hp hw
    have hm := hL.hi
    have e0 : iAt (p.take h) 0 = iAt p 0 := by
      unfold iAt
      rw [List.getD_eq_getElem?_getD, List.getElem?_take_of_lt (by omega), ← List.getD_eq_getElem?_getD]
    simp only [cmpS, extD, extS, extK, List.map_flatMap, List.flatMap_assoc]
    apply fm_congr
    intro k hk
    have hk2 := List.mem_range.1 hk
    obtain ⟨a, ha, _, ha2⟩ := hL.wd h (by omega) (iAt (lAt L h) k) (by rw [iAt_eq hk2]; exact List.getElem_mem _)
    have hwk : wdA L h k ≤ 100 := by unfold wdA; rw [ha]; simpa using ha2
    have hiff := hE (wdA L h k) u hwk hu
    rw [e0, hw]
    by_cases hc : iAt nm (wdA L h k) = iAt nm u
    · rw [if_pos hc, if_pos (.inr (hiff.2 hc))]
      have := ih (h + 1) (p.set h (k : Int)) (by omega) (by omega) (by rw [List.length_set]; exact hp) (by
        unfold iAt
        rw [List.getD_eq_getElem?_getD, List.getElem?_set_ne (by omega), ← List.getD_eq_getElem?_getD]
        exact hw)
      rw [this, take_set_succ (by omega)]
      simp
    · rw [if_neg hc, if_neg (by
        rintro (e | e)
        · omega
        · exact hc (hiff.1 e))]
      simp
/-- The document's list is the program's. -/
theorem allS_mtS {rc nm : List Int} {L : List (List Int)} {m : Nat} (hL : LV L m) (hE : ∀ a b, a ≤ 100 → b ≤ 100 → (iAt rc a = iAt rc b ↔ iAt nm a = iAt nm b)) :
    (mtS nm L).map (·.take m) = allS rc L m := by
  have hlo := hL.lo
  have h0 := allS_ext rc L m 0
  rw [Nat.zero_add] at h0
  rw [← h0]
  obtain ⟨d, rfl⟩ : ∃ d, m = d + 1 := ⟨m - 1, by omega⟩
  have hlen : L.length - 1 = d := by rw [hL.len]; omega
  simp only [allS, List.flatMap_cons, List.flatMap_nil, List.append_nil, extD, extS, extK, List.flatMap_assoc, mtS, mtK, hlen, List.map_flatMap]
  apply fm_congr
  intro k hk
  have hk2 := List.mem_range.1 hk
  obtain ⟨a, ha, _, ha2⟩ := hL.wd 0 (by omega) (iAt (lAt L 0) k) (by rw [iAt_eq hk2]; exact List.getElem_mem _)
  have hwk : wdA L 0 k ≤ 100 := by unfold wdA; rw [ha]; simpa using ha2
  have := cmpS_ext (rc := rc) hL hE hwk d 1 [(k : Int), 0, 0, 0] (by omega) (Nat.le_refl _) rfl (by simp [iAt])
  rw [this]
  simp
end Go.Proofs.Ythdjbapidodlfaa

namespace Go.Proofs.Ythdjbapidodlfaa
set_option linter.unusedSimpArgs false
set_option linter.unusedVariables false
open Go.RowKit Go.Shelf

/-- A row of matches, each in a block of its own. -/
def RwO (N0 : Nat) (W : World) (v : Value) (l : List (List Int)) : Prop :=
  ∃ cs : List Value, W.ownsRow 0 40 1 v l.length cs ∧ (∀ g, v.ownBlock = some g → N0 ≤ g ∧ g < W.heap.size) ∧
    ∀ j, j < l.length → ∃ Z cap, cs[j]? = some (.slice (some ⟨Z, 0, none⟩) (lAt l j).length cap) ∧ (lAt l j).length ≤ cap ∧ N0 ≤ Z ∧ v.ownBlock ≠ some Z ∧ RowI W Z (lAt l j)
theorem RowI.lt {W : World} {g : Nat} {o : List Int} (h : RowI W g o) : g < W.heap.size := by
  obtain ⟨rest, h⟩ := h
  exact lt_of_block h
theorem RwO.below {N0 B : Nat} {W W' : World} {v : Value} {l : List (List Int)} (h : RwO N0 W v l) (hb : Below B W W') (hB : W.heap.size ≤ B) : RwO N0 W' v l := by
  obtain ⟨cs, h1, h2, h3⟩ := h
  have hK : Keeps (fun _ => False) W W' := Keeps.of_new (hb.mono hB)
  exact ⟨cs, own_keep h1 hK (fun _ _ e => e), fun g e => ⟨(h2 g e).1, Nat.lt_of_lt_of_le (h2 g e).2 hK.size⟩, fun j hj => by
    obtain ⟨Z, cap, q1, q2, q3, q4, q5⟩ := h3 j hj
    exact ⟨Z, cap, q1, q2, q3, q4, q5.keep hK (fun e => e)⟩⟩
theorem RwO.nil (N0 : Nat) (W : World) : RwO N0 W (.slice none 0 0) [] :=
  ⟨[], ⟨rfl, .inl ⟨rfl, rfl⟩⟩, fun g e => (by cases e), fun j hj => by simp at hj⟩
/-- The row of the empty match alone. -/
theorem RwO.one {N0 : Nat} {W : World} {E T : Nat} (hE : W.heap[E]? = some (.cells #[] 3 (0, 0))) (hT : W.heap[T]? = some (.cells #[.slice (some ⟨E, 0, none⟩) 0 0] 40 (0, 0))) (hne : T ≠ E) (h1 : N0 ≤ E) (h2 : N0 ≤ T) : RwO N0 W (.slice (some ⟨T, 0, none⟩) 1 1) [[]] :=
  ⟨[.slice (some ⟨E, 0, none⟩) 0 0], ⟨rfl, .inr ⟨T, 1, _, rfl, Nat.zero_le _, hT, Nat.le_refl _, by unfold maxLen; omega, rfl, rfl⟩⟩, fun g e => by
    cases e; exact ⟨h2, lt_of_block hT⟩, fun j hj => by
    obtain rfl : j = 0 := by simpa using hj
    exact ⟨E, 0, rfl, Nat.le_refl _, h1, fun e => hne (Option.some.inj e), [], hE⟩⟩
/-- A match more. -/
theorem RwO.snoc {N0 Z cap : Nat} {W W2 W3 : World} {v v' : Value} {l : List (List Int)} {q : List Int} (h : RwO N0 W v l) (hK : Keeps (fun _ => False) W W2) (hZ : RowI W2 Z q) (hZ1 : N0 ≤ Z) (hZ2 : W.heap.size ≤ Z) (hcap : q.length ≤ cap)
    (hown : ∀ cs, W2.ownsRow 0 40 1 v l.length cs → W3.ownsRow 0 40 1 v' (l.length + 1) (cs ++ [.slice (some ⟨Z, 0, none⟩) q.length cap])) (hK3 : Keeps (fun k => v.ownBlock = some k) W2 W3)
    (hv : v'.ownBlock = v.ownBlock ∨ (v'.ownBlock = some W2.heap.size ∧ W2.heap.size < W3.heap.size)) (hN : N0 ≤ W2.heap.size) : RwO N0 W3 v' (l ++ [q]) := by
  obtain ⟨cs, h1, h2, h3⟩ := h
  have hz2 := hZ.lt
  have hs := hK.size
  have hs3 := hK3.size
  have hlen : cs.length = l.length := by have := h1.1; omega
  have hbig : ∀ g, v'.ownBlock = some g → v.ownBlock = some g ∨ g = W2.heap.size := fun g e => by
    rcases hv with e' | ⟨e', _⟩
    · rw [e'] at e; exact .inl e
    · rw [e'] at e; exact .inr (Option.some.inj e).symm
  refine ⟨cs ++ [.slice (some ⟨Z, 0, none⟩) q.length cap], by rw [List.length_append]; exact hown cs (own_keep h1 hK (fun _ _ e => e)), fun g e => ?_, fun j hj => ?_⟩
  · rcases hv with e' | ⟨e', e2⟩
    · rw [e'] at e; have := h2 g e; omega
    · rw [e'] at e; have := Option.some.inj e; omega
  · rcases Nat.lt_or_ge j l.length with hjl | hjl
    · obtain ⟨Y, cp, q1, q2, q3, q4, q5⟩ := h3 j hjl
      have e1 : lAt (l ++ [q]) j = lAt l j := by
        rw [lAt_eq (by rw [List.length_append]; omega), lAt_eq hjl, List.getElem_append_left hjl]
      rw [e1]
      refine ⟨Y, cp, by rw [List.getElem?_append_left (by omega)]; exact q1, q2, q3, fun e => ?_, (q5.keep hK (fun e => e)).keep hK3 q4⟩
      rcases hbig Y e with e2 | e2
      · exact q4 e2
      · have := q5.lt; omega
    · have hje : j = l.length := by simp at hj; omega
      subst hje
      have e1 : lAt (l ++ [q]) l.length = q := by
        rw [lAt_eq (by simp), List.getElem_append_right (Nat.le_refl _)]
        simp
      rw [e1]
      refine ⟨Z, cap, by rw [List.getElem?_append_right (by omega), hlen]; simp, hcap, hZ1, fun e => ?_, hZ.keep hK3 (fun e => by have := h2 _ e; omega)⟩
      rcases hbig Z e with e2 | e2
      · have := h2 _ e2; omega
      · omega
theorem RwO.lns {N0 : Nat} {W : World} {v : Value} {l : List (List Int)} (h : RwO N0 W v l) : ∃ C cap, v = .slice C l.length cap ∧ l.length ≤ cap ∧ Lns W C l.length l := by
  obtain ⟨cs, ho, _, hr⟩ := h
  rcases ho.2 with ⟨rfl, h0⟩ | ⟨g, cap, cur, rfl, hb, hg, hc, _, hsz, htake⟩
  · rw [h0]
    exact ⟨none, 0, rfl, Nat.le_refl _, h0, by omega⟩
  · refine ⟨_, cap, rfl, hc, rfl, fun _ => ⟨g, 0, rfl, fun j hj => ?_⟩⟩
    obtain ⟨Z, cp, q1, q2, q3, q4, q5⟩ := hr j hj
    refine ⟨some ⟨Z, 0, none⟩, cp, ?_, q5.ints, q2⟩
    rw [Nat.zero_add, cell_row hg, ← Array.getElem?_toList, ← List.getElem?_take_of_lt (show j < l.length * 1 by omega), htake]
    exact q1
end Go.Proofs.Ythdjbapidodlfaa

namespace Go.Proofs.Ythdjbapidodlfaa
set_option linter.unusedSimpArgs false
set_option linter.unusedVariables false
open Go.RowKit Go.Shelf

theorem app_rows40 {W : World} {v : Value} {n m c2 : Nat} {xs ts : List Int} {A2 : Option Addr} (h : W.ownsRow 0 3 1 v n (flatI xs)) (h2 : Ints W A2 m ts) (hm1 : 1 ≤ m) (hm : m ≤ 10000) (hn : n ≤ 10000) :
    ∃ g cp W', runA Try.prog 40 v (.slice A2 m c2) W = .ok (.value (.slice (some ⟨g, 0, none⟩) (n + m) cp)) W' ∧ W'.ownsRow 0 3 1 (.slice (some ⟨g, 0, none⟩) (n + m) cp) (n + m) (flatI (xs ++ ts)) ∧
      Keeps (fun j => v.ownBlock = some j) W W' ∧ (v.ownBlock = some g ∨ (g = W.heap.size ∧ W.heap.size < W'.heap.size)) := by
  obtain ⟨i, hi, hz, hs, hb⟩ := info_parts info3_
  obtain ⟨b, o, rfl, hc⟩ := h2.2 (by omega)
  have hl := h2.1
  obtain ⟨v', W', q2, q3, q4, _, q5⟩ := run_append_own_at (P := Try.prog) W 0 40 40 3 i _ 1 8 Try.underlying40 hi hz hs hb rfl (by omega) v n (flatI xs) h ⟨b, o, none⟩ m c2 (flatI ts) (by rw [flatI_len, hl]; omega) (fun j u hj => by
      have hjl : j < m := by
        have := (List.getElem?_eq_some_iff.1 hj).1
        rw [flatI_len, hl] at this
        exact this
      rw [Addr.add_lit, hc j hjl, ← hj, iAt_eq (by omega)]
      simp [flatI, hl, hjl]) (by
      intro u hu
      obtain ⟨x, _, rfl⟩ := List.mem_map.1 hu
      rfl) (by unfold maxLen; omega) (by omega) (Nat.zero_le _)
  have e1 : flatI xs ++ flatI ts = flatI (xs ++ ts) := by simp [flatI]
  rw [e1] at q3
  rcases q3.2 with ⟨_, e⟩ | ⟨g, cp, cur, rfl, _⟩
  · omega
  · refine ⟨g, cp, W', run_app q2, q3, ⟨q4.os, q4.tape, q4.output, q4.size, fun k hk hmm => q4.block k hk (fun e => hmm e.symm)⟩, ?_⟩
    rcases q5 with q5 | q5
    · exact .inl q5.symm
    · exact .inr ⟨Option.some.inj q5, own_lt q3 _ q5⟩
/-- Nothing is appended. -/
theorem app_zero40 {W : World} {E c2 : Nat} {A2 : Option Addr} (hE : W.heap[E]? = some (.cells #[] 3 (0, 0))) :
    runA Try.prog 40 (.slice (some ⟨E, 0, none⟩) 0 0) (.slice A2 0 c2) W = .ok (.value (.slice (some ⟨E, 0, none⟩) 0 0)) W := by
  obtain ⟨i, hi, hz, hs, hb⟩ := info_parts info3_
  refine run_app ?_
  cases A2 <;> simp [Builtin.append_, run_underlying Try.underlying40, Builtin.lenOf, sizeOf, typeInfo, hi, hs, Builtin.firstCells, loadCells, loadCellsFrom, storeCells, Addr.add]
end Go.Proofs.Ythdjbapidodlfaa

namespace Go.Proofs.Ythdjbapidodlfaa
set_option linter.unusedSimpArgs false
set_option linter.unusedVariables false
open Go.RowKit Go.Shelf

theorem fm_len {α β : Type} (l : List α) (f : α → List β) (b : Nat) (h : ∀ x ∈ l, (f x).length ≤ b) : (l.flatMap f).length ≤ l.length * b := by
  induction l with
  | nil => simp
  | cons a t ih =>
    simp only [List.flatMap_cons, List.length_append, List.length_cons]
    have h1 := h a (by simp)
    have h2 := ih (fun x hx => h x (by simp [hx]))
    rw [Nat.add_mul]
    omega
theorem extK_len (rc : List Int) (L : List (List Int)) (h : Nat) (q : List Int) (n : Nat) : (extK rc L h q n).length ≤ n := by
  have := fm_len (List.range n) (fun k => if h = 0 ∨ iAt rc (wdA L h k) = iAt rc (wdA L 0 (iAt q 0).toNat) then [q ++ [(k : Int)]] else []) 1 (fun k _ => by split <;> simp)
  rw [List.length_range, Nat.mul_one] at this
  exact this
theorem extK_mem {rc : List Int} {L : List (List Int)} {h : Nat} {q x : List Int} {n : Nat} (hx : x ∈ extK rc L h q n) : ∃ k, k < n ∧ x = q ++ [(k : Int)] := by
  obtain ⟨k, hk, hx2⟩ := List.mem_flatMap.1 hx
  split at hx2
  · exact ⟨k, List.mem_range.1 hk, by simpa using hx2⟩
  · simp at hx2
theorem allS_facts {rc : List Int} {L : List (List Int)} {m : Nat} (hL : LV L m) : ∀ h, h ≤ m → (allS rc L h).length ≤ 8 ^ h ∧ ∀ q ∈ allS rc L h, q.length = h ∧ (1 ≤ h → ∃ t : Nat, iAt q 0 = (t : Int) ∧ t < (lAt L 0).length) := by
  intro h
  induction h with
  | zero => intro _; exact ⟨by simp [allS], fun q hq => by simp only [allS, List.mem_singleton] at hq; rw [hq]; exact ⟨rfl, by omega⟩⟩
  | succ h ih =>
    intro hm
    obtain ⟨h1, h2⟩ := ih (by omega)
    constructor
    · have h3 := fm_len (allS rc L h) (extS rc L h) 8 (fun q _ => Nat.le_trans (extK_len rc L h q _) (hL.le8 h (by omega)))
      have h4 : (allS rc L h).length * 8 ≤ 8 ^ h * 8 := Nat.mul_le_mul_right _ h1
      rw [Nat.pow_succ]
      exact Nat.le_trans h3 h4
    · intro x hx
      obtain ⟨q, hq, hx2⟩ := List.mem_flatMap.1 hx
      obtain ⟨k, hk, rfl⟩ := extK_mem hx2
      obtain ⟨h5, h6⟩ := h2 q hq
      refine ⟨by rw [List.length_append, h5]; rfl, fun _ => ?_⟩
      rcases Nat.eq_zero_or_pos h with e | e
      · subst e
        have : q = [] := List.length_eq_zero_iff.1 h5
        subst this
        exact ⟨k, rfl, hk⟩
      · obtain ⟨t, ht, ht2⟩ := h6 e
        refine ⟨t, ?_, ht2⟩
        rw [← ht]
        unfold iAt
        rw [List.getD_eq_getElem?_getD, List.getElem?_append_left (by omega), ← List.getD_eq_getElem?_getD]
/-- What the first i matches become. -/
def nextK (rc : List Int) (L : List (List Int)) (h : Nat) (l : List (List Int)) (i : Nat) : List (List Int) := (List.range i).flatMap fun j => extS rc L h (lAt l j)
theorem nextK_succ (rc : List Int) (L : List (List Int)) (h : Nat) (l : List (List Int)) (i : Nat) : nextK rc L h l (i + 1) = nextK rc L h l i ++ extS rc L h (lAt l i) := by simp [nextK, List.range_succ]
theorem nextK_all (rc : List Int) (L : List (List Int)) (h : Nat) : ∀ (l : List (List Int)), nextK rc L h l l.length = l.flatMap (extS rc L h) := by
  intro l
  have e : l = (List.range l.length).map (lAt l) := by
    apply List.ext_getElem (by simp)
    intro j h1 h2
    rw [List.getElem_map, List.getElem_range, lAt_eq h1]
  unfold nextK
  conv => rhs; rw [e]
  rw [List.flatMap_map]
theorem nextK_len {rc : List Int} {L : List (List Int)} {m : Nat} (hL : LV L m) {h : Nat} (hm : h < m) (l : List (List Int)) (i : Nat) : (nextK rc L h l i).length ≤ i * 8 := by
  have := fm_len (List.range i) (fun j => extS rc L h (lAt l j)) 8 (fun j _ => Nat.le_trans (extK_len rc L h _ _) (hL.le8 h hm))
  rw [List.length_range] at this
  exact this
end Go.Proofs.Ythdjbapidodlfaa

namespace Go.Proofs.Ythdjbapidodlfaa
set_option linter.unusedSimpArgs false
set_option linter.unusedVariables false
open Go.RowKit Go.Shelf
attribute [local go_sem ↓] exec_app at_app
attribute [local go_sem] Oper.semAt_some

theorem app_any40 {W : World} {E h cq : Nat} {Cq : Option Addr} {q : List Int} (hE : W.heap[E]? = some (.cells #[] 3 (0, 0))) (hq : Ints W Cq h q) (hh : h ≤ 4) :
    ∃ g cp W', runA Try.prog 40 (.slice (some ⟨E, 0, none⟩) 0 0) (.slice Cq h cq) W = .ok (.value (.slice (some ⟨g, 0, none⟩) h cp)) W' ∧ W'.ownsRow 0 3 1 (.slice (some ⟨g, 0, none⟩) h cp) h (flatI q) ∧ Keeps (fun j => j = E) W W' ∧ (g = E ∨ (g = W.heap.size ∧ W.heap.size < W'.heap.size)) := by
  have hrow : W.ownsRow 0 3 1 (.slice (some ⟨E, 0, none⟩) 0 0) 0 (flatI []) := ⟨rfl, .inr ⟨E, 0, _, rfl, Nat.zero_le _, hE, Nat.le_refl _, Nat.zero_le _, rfl, rfl⟩⟩
  rcases Nat.eq_zero_or_pos h with e | e
  · subst e
    have : q = [] := List.length_eq_zero_iff.1 hq.1
    subst this
    exact ⟨E, 0, W, app_zero40 hE, hrow, Keeps.refl _ _, .inl rfl⟩
  · obtain ⟨g, cp, W', h1, h2, h3, h4⟩ := app_rows40 (c2 := cq) hrow hq e (by omega) (by omega)
    rw [Nat.zero_add] at h1 h2
    exact ⟨g, cp, W', h1, h2, h3.mono (fun j _ e => by cases e; rfl), h4.imp (fun e => by cases e; rfl) (fun e => e)⟩
theorem grow14 {N0 N h cq k : Nat} {V1 : World} {nx : Value} {Cq : Option Addr} {l : List (List Int)} {q : List Int} (hN : l.length = N) (hR : RwO N0 V1 nx l) (hq : Ints V1 Cq h q) (hh : h ≤ 4) (hN0 : N0 ≤ V1.heap.size) (hl : N ≤ 90000) :
    ∃ g2 cp W3 C5 m5 c5 W5 C7 m7 c7 W7, runA Try.prog 40 (.slice (some ⟨V1.heap.size, 0, none⟩) 0 0) (.slice Cq h cq) (V1.alloc (.cells #[] 3)) = .ok (.value (.slice (some ⟨g2, 0, none⟩) h cp)) W3 ∧
      runA Try.prog 40 (.slice (some ⟨g2, 0, none⟩) h cp) (.slice (some ⟨W3.heap.size, 0, none⟩) 1 1) (W3.alloc (.cells #[.int .i64 (k : Int)] 3)) = .ok (.value (.slice C5 m5 c5)) W5 ∧
      runA Try.prog 31 nx (.slice (some ⟨W5.heap.size, 0, none⟩) 1 1) (W5.alloc (.cells #[.slice C5 m5 c5] 40)) = .ok (.value (.slice C7 m7 c7)) W7 ∧
      RwO N0 W7 (.slice C7 m7 c7) (l ++ [q ++ [(k : Int)]]) ∧ Keeps (fun j => N0 ≤ j) V1 W7 := by
  have kE : Keeps (fun _ => False) V1 (V1.alloc (.cells #[] 3)) := keep_alloc _ _ _
  have sE : (V1.alloc (.cells #[] 3)).heap.size = V1.heap.size + 1 := by simp
  obtain ⟨g2, cp, W3, h1, h2, h3, h4⟩ := app_any40 (cq := cq) (E := V1.heap.size) (heap_alloc_new_ V1 (.cells #[] 3)) (hq.below kE.new (Nat.le_refl _)) hh
  have hg2 : V1.heap.size ≤ g2 := by omega
  have hg2b := own_lt h2 g2 rfl
  have k4 : Keeps (fun _ => False) W3 (W3.alloc (.cells #[.int .i64 (k : Int)] 3)) := keep_alloc _ _ _
  obtain ⟨v5, W5, a1, a2, a3, a4⟩ := app_one (n := h) Try.underlying40 info3_ rfl (by omega) (by omega) (own_keep h2 k4 (fun _ _ e => e)) (vals := [.int .i64 (k : Int)]) rfl (heap_alloc_new_ W3 (.cells #[.int .i64 (k : Int)] 3)) (by simp [Value.oneCell']) (by omega)
  rw [← flatI_snoc] at a2
  obtain ⟨C5, c5, rfl, hc5, hi5, hC5⟩ := ints_own (n := h + 1) (by rw [List.length_append, hq.1]; rfl) a2
  have hs3 := h3.size
  have hs4 := k4.size
  have hs5 := a3.size
  have kb : Keeps (fun _ => False) V1 W5 := by
    have e1 : Keeps (fun j => False ∨ V1.heap.size ≤ j) V1 W5 := ((kE.none.trans (h3.mono (fun j _ e => .inr (by omega)))).trans k4.none).trans (a3.mono (fun j _ e => .inr (by cases e; exact hg2)))
    exact keeps_old e1
  obtain ⟨b5, o5, e5, _⟩ := hi5.2 (by omega)
  obtain ⟨hb5, ho5⟩ := hC5 b5 o5 e5
  subst ho5
  subst e5
  have hrow5 := rowI_own (by rw [List.length_append, hq.1]; rfl) a2
  have hb5g : V1.heap.size ≤ b5 := by
    rcases a4 with e | ⟨e, _⟩
    · have := e.symm.trans rfl
      cases e; exact hg2
    · have e2 : some b5 = some (W3.alloc (.cells #[.int .i64 (k : Int)] 3)).heap.size := e
      have := Option.some.inj e2
      omega
  have k6 : Keeps (fun _ => False) V1 (W5.alloc (.cells #[.slice (some ⟨b5, 0, none⟩) (h + 1) c5] 40)) := kb.trans (keep_alloc _ _ _)
  have hR6 := hR.below k6.new (Nat.le_refl _)
  obtain ⟨cs, r1, r2, r3⟩ := hR6
  have r1' := r1
  rw [hN] at r1'
  obtain ⟨v7, W7, b1, b2, b3, b4⟩ := app_one (n := N) Try.underlying31 info40_ rfl (by omega) (by omega) r1' (vals := [.slice (some ⟨b5, 0, none⟩) (h + 1) c5]) rfl (heap_alloc_new_ W5 (.cells #[.slice (some ⟨b5, 0, none⟩) (h + 1) c5] 40)) (by simp [Value.oneCell']) (by omega)
  obtain ⟨C7, m7, c7, rfl⟩ : ∃ C m cp, v7 = .slice C m cp := by
    rcases b2.2 with ⟨e, _⟩ | ⟨_, _, _, e, _⟩
    · exact ⟨_, _, _, e⟩
    · exact ⟨_, _, _, e⟩
  have hql : (q ++ [(k : Int)]).length = h + 1 := by rw [List.length_append, hq.1]; rfl
  refine ⟨g2, cp, W3, _, _, _, W5, C7, m7, c7, W7, h1, run_app a1, run_app b1, ?_, ?_⟩
  · refine RwO.snoc (Z := b5) (cap := c5) hR k6 (hrow5.keep (keep_alloc (fun _ => False) _ _) (fun e => e)) (by omega) hb5g (by rw [hql]; exact hc5) (fun cs' hcs' => ?_) b3 b4 (by have := k6.size; omega)
    obtain ⟨v8, W8, d1, d2, _, _⟩ := app_one (n := l.length) Try.underlying31 info40_ rfl (by omega) (by omega) hcs' (vals := [.slice (some ⟨b5, 0, none⟩) (h + 1) c5]) rfl (heap_alloc_new_ W5 (.cells #[.slice (some ⟨b5, 0, none⟩) (h + 1) c5] 40)) (by simp [Value.oneCell']) (by omega)
    rw [b1] at d1
    cases d1
    rw [hql]
    exact d2
  · exact (k6.none (Mut := fun j => N0 ≤ j)).trans (b3.mono (fun j _ e => (r2 j e).1))
end Go.Proofs.Ythdjbapidodlfaa

namespace Go.Proofs.Ythdjbapidodlfaa
set_option linter.unusedSimpArgs false
set_option linter.unusedVariables false
open Go.RowKit Go.Shelf
attribute [local go_sem ↓] exec_app at_app
attribute [local go_sem] Oper.semAt_some

set_option maxRecDepth 100000 in
set_option maxHeartbeats 16000000 in
theorem all56 (A : Option Addr) (n cap : Nat) (zs : List Rg) (A2 : Option Addr) (m cap2 : Nat) (L : List (List Int)) (w : World) (h : Rgs w A n zs) (hL : Lns w A2 m L) (hz : chkL zs L = 0) :
    Calls Try.prog 56 #[.agg #[.slice A n cap], .slice A2 m cap2] w fun e w' => ∃ C c, e = .returned (.slice C (allS (refC (prs zs)) L m).length c) ∧ Lns w' C (allS (refC (prs zs)) L m).length (allS (refC (prs zs)) L m) ∧ (allS (refC (prs zs)) L m).length ≤ c ∧ Below w.heap.size w w' := by
  have HL := Lib.hid (lv_of hL.1 hz)
  have hb0 := below_alloc_ w (.cells #[.slice A n cap] 24)
  have hr0 := heap_alloc_new_ w (.cells #[.slice A n cap] 24)
  obtain ⟨W0, hW0⟩ : ∃ W0, w.alloc (.cells #[.slice A n cap] 24) = W0 := ⟨_, rfl⟩
  obtain ⟨R, hR⟩ : ∃ R, w.heap.size = R := ⟨_, rfl⟩
  rw [hW0] at hb0 hr0
  rw [hR] at hr0
  have S := Lib.hid (h.below hb0 (Nat.le_refl _))
  have X := Lib.hid (hL.below hb0 (Nat.le_refl _))
  have B0 := Lib.hid hb0
  have HW0 := Lib.hid hW0
  have HR := Lib.hid hR
  have HZ0 := Lib.hid (chkL_zero.1 hz).1
  have r0 : W0.cell? ⟨R, 0, none⟩ = some (.slice A n cap) := by rw [cell_row hr0]; rfl
  clear h hL hb0 hr0 hW0 hR hz
  go_enter Try.func56, Try.ntmps56
  go_wp2_with fail
  rw [HW0.out]
  try rw [HR.out]
  try go_wp2_with fail
  refine (classes51 A n cap zs W0 S.out HZ0.out).mono ?_
  rintro en w1 ⟨g, cg, rfl, hi, hgw, hb⟩
  obtain ⟨rc, hrc⟩ : ∃ rc, refC (prs zs) = rc := ⟨_, rfl⟩
  rw [hrc] at hi
  have HRc := Lib.hid hrc
  replace X := Lib.hid (X.out.below hb (Nat.le_refl _))
  replace B0 := Lib.hid (B0.out.trans (hb.mono B0.out.size))
  have kV : Keeps (fun _ => False) w1 ((w1.alloc (.cells #[] 3)).alloc (.cells #[.slice (some ⟨w1.heap.size, 0, none⟩) 0 0] 40)) := (keep_alloc _ _ _).trans (keep_alloc _ _ _)
  have hone : RwO w1.heap.size ((w1.alloc (.cells #[] 3)).alloc (.cells #[.slice (some ⟨w1.heap.size, 0, none⟩) 0 0] 40)) (.slice (some ⟨w1.heap.size + 1, 0, none⟩) 1 1) [[]] := RwO.one (hal_old (heap_alloc_new_ _ _)) (hal_new (by simp)) (by omega) (Nat.le_refl _) (by omega)
  have HOne := Lib.hid hone
  have KV := Lib.hid kV
  have HI := Lib.hid hi
  have hm2 := HL.out.lo
  have hm4 := HL.out.hi
  clear hi hgw hb r0 kV hone hrc
  go_wp2_with fail
  obtain ⟨w1, hw1⟩ : ∃ x, x = w1 := ⟨_, rfl⟩
  rw [← hw1] at X B0 HOne KV HI ⊢
  clear hw1
  go_loopw [6, 7, 8, 9, 10] (fun v i nx x y wr => ∃ h : Nat, h ≤ m ∧ i = .int .i64 (h : Int) ∧ Hid (RwO w1.heap.size wr v (allS rc L h) ∧ Below w1.heap.size w1 wr)) (fun v i nx x y _ => m - (intOf i).toNat)
  case atStart => exact ⟨0, Nat.zero_le _, rfl, Lib.hid ⟨HOne.out, KV.out.new⟩⟩
  case round =>
    obtain ⟨h, hh, rfl, HJ⟩ := hrel
    obtain ⟨wq, rfl⟩ : ∃ wq, wq = wr := ⟨_, rfl⟩
    by_cases hlt : h < m
    · obtain ⟨Co, co, hve, hco, hlo⟩ := HJ.out.1.lns
      have HF := Lib.hid (allS_facts (rc := rc) HL.out h hh)
      obtain ⟨l, hl⟩ : ∃ l, allS rc L h = l := ⟨_, rfl⟩
      have Hnx := Lib.hid (show allS rc L (h + 1) = nextK rc L h l l.length by rw [nextK_all, ← hl]; rfl)
      rw [hl] at HJ HF hlo hve hco
      obtain ⟨N, hN⟩ : ∃ N, l.length = N := ⟨_, rfl⟩
      rw [hN] at hve hco hlo
      have HNl := Lib.hid hN
      have hN5 : N ≤ 512 := by
        have h1 := HF.out.1
        rw [hN] at h1
        have h2 : (8 : Nat) ^ h ≤ 8 ^ 3 := Nat.pow_le_pow_right (by omega) (by omega)
        omega
      have HLo := Lib.hid hlo
      have i0 : (0 : Int) ≤ (h : Int) := by omega
      have i1 : (h : Int) < (m : Int) := by omega
      subst hve
      clear hl hlo hN
      go_wp2_with fail
      go_loopw [8, 9, 10] (fun nx x y wr => ∃ i : Nat, i ≤ N ∧ x = .int .i64 (i : Int) ∧ Hid (RwO wq.heap.size wr nx (nextK rc L h l i) ∧ Below wq.heap.size wq wr)) (fun nx x y _ => N - (intOf x).toNat)
      case atStart => exact ⟨0, Nat.zero_le _, rfl, Lib.hid ⟨RwO.nil _ _, Below.refl _ _⟩⟩
      case round =>
        obtain ⟨i, hiN, rfl, HM⟩ := hrel
        obtain ⟨we, rfl⟩ : ∃ we, we = wr := ⟨_, rfl⟩
        by_cases hil : i < N
        · obtain ⟨bo, oo, rfl, hco2⟩ := HLo.out.2 (by omega)
          obtain ⟨Cq, cq, x0, xI, -⟩ := hco2 i hil
          have hil2 : i < l.length := by have := HNl.out; omega
          obtain ⟨hq1, hq2⟩ := HF.out.2 (lAt l i) (by rw [lAt_eq hil2]; exact List.getElem_mem _)
          have Hsu := Lib.hid (nextK_succ rc L h l i)
          have Hle := Lib.hid (nextK_len (rc := rc) HL.out hlt l i)
          obtain ⟨q, hq⟩ : ∃ q, lAt l i = q := ⟨_, rfl⟩
          rw [hq] at x0 xI hq1 hq2 Hsu
          rw [hq1] at x0 xI
          have HX0 := Lib.hid x0
          have HXI := Lib.hid xI
          have HQ2 := Lib.hid hq2
          have HQ1 := Lib.hid hq1
          obtain ⟨bL, oL, hA2, hcL⟩ := X.out.2 (by omega)
          obtain ⟨CL, cL, u0, uI, -⟩ := hcL h hlt
          have HU0 := Lib.hid u0
          have HUI := Lib.hid uI
          have hl8 := HL.out.le8 h hlt
          obtain ⟨ll, hll⟩ : ∃ ll, (lAt L h).length = ll := ⟨_, rfl⟩
          have Hll := Lib.hid hll
          rw [hll] at HU0 HUI hl8
          subst hA2
          have j0 : (0 : Int) ≤ (i : Int) := by omega
          have j1 : (i : Int) < (N : Int) := by omega
          clear hco2 x0 xI hq hq1 hq2 hcL u0 uI hll
          go_wp2_with fail
          go_loopw [8, 10] (fun nx y wr => ∃ k : Nat, k ≤ ll ∧ y = .int .i64 (k : Int) ∧ Hid (RwO wq.heap.size wr nx (nextK rc L h l i ++ extK rc L h q k) ∧ Below wq.heap.size wq wr)) (fun nx y _ => ll - (intOf y).toNat)
          case atStart => exact ⟨0, Nat.zero_le _, rfl, Lib.hid ⟨by have := HM.out.1; simpa [extK] using this, HM.out.2⟩⟩
          case round =>
            obtain ⟨k, hkl, rfl, HK⟩ := hrel
            obtain ⟨wk, rfl⟩ : ∃ wk, wk = wr := ⟨_, rfl⟩
            have hBw := HJ.out.2.trans (HK.out.2.mono HJ.out.2.size)
            have z0 := (hBw.cell (p := ⟨bL, oL + h, none⟩) (lt_of_cell HU0.out)).trans HU0.out
            by_cases hkk : k < ll
            · have HQk := Lib.hid (HXI.out.below HK.out.2 (Nat.le_refl _))
              have x0 := (HK.out.2.cell (p := ⟨bo, oo + i, none⟩) (lt_of_cell HX0.out)).trans HX0.out
              obtain ⟨bu, ou, rfl, hcu⟩ := HUI.out.2 (by omega)
              have t0 := (hBw.cell (p := ⟨bu, ou + k, none⟩) (lt_of_cell (hcu k hkk))).trans (hcu k hkk)
              obtain ⟨u, hu, _, hu2⟩ := HL.out.wd h hlt (iAt (lAt L h) k) (by rw [iAt_eq (by rw [Hll.out]; exact hkk)]; exact List.getElem_mem _)
              rw [hu] at t0
              have hw : wdA L h k = u := by unfold wdA; rw [hu]; simp
              obtain ⟨bg, og, eg, hcg⟩ := HI.out.2 (by omega)
              cases eg
              have g0 := (hBw.cell (p := ⟨g, 0 + u, none⟩) (lt_of_cell (hcg u (by omega)))).trans (hcg u (by omega))
              rw [Nat.zero_add] at g0
              have Hext := Lib.hid (extK_succ rc L h q k)
              rw [hw] at Hext
              have Hlen := Lib.hid (show (nextK rc L h l i ++ extK rc L h q k).length ≤ 5000 by
                have h1 := Hle.out
                have h2 := extK_len rc L h q k
                rw [List.length_append]
                omega)
              have k0 : (0 : Int) ≤ (k : Int) := by omega
              have k1 : (k : Int) < (ll : Int) := by omega
              have n0 : (0 : Int) ≤ (u : Int) := by omega
              have n1 : (u : Int) < 101 := by omega
              clear hcu hu hw
              by_cases h0 : h = 0
              · have dh : ((h : Int) == 0) = true := by rw [beq_iff_eq]; omega
                rw [if_pos (.inl h0)] at Hext
                clear h0 hcg hBw
                go_wp2_with fail
                go_quiet (fail)
                have hbV := drew_b wk nq
                obtain ⟨V1, hV1⟩ : ∃ V1, wk.drewN nq = V1 := ⟨_, rfl⟩
                rw [hV1] at hbV ⊢
                clear hV1
                have hsV := hbV.size
                have x1 := ((hbV.trans ((keep_alloc (fun _ => False) V1 (.cells #[] 3)).new.mono hsV)).cell (p := ⟨bo, oo + i, none⟩) (lt_of_cell x0)).trans x0
                obtain ⟨g2, cp, W3, C5, m5, c5, W5, C7, m7, c7, W7, r1, r2, r3, hR7, hK7⟩ := grow14 (N0 := wq.heap.size) (cq := cq) (k := k) rfl (HK.out.1.below hbV (Nat.le_refl _)) (HQk.out.below hbV (Nat.le_refl _)) (by omega) (by have := HK.out.2.size; omega) (by have := Hlen.out; omega)
                have HN := Lib.hid (show RwO wq.heap.size W7 (.slice C7 m7 c7) (nextK rc L h l i ++ extK rc L h q (k + 1)) ∧ Below wq.heap.size wq W7 from ⟨by rw [Hext.out, ← List.append_assoc]; exact hR7, HK.out.2.trans ((hbV.mono HK.out.2.size).trans (hK7.below (by have := HK.out.2.size; omega) (fun j hj e => by omega)))⟩)
                clear hR7 hK7 hbV HK x0
                go_wp2_with fail
                try rw [r1]
                try go_wp2_with fail
                try rw [r2]
                try go_wp2_with fail
                try rw [r3]
                try go_wp2_with fail
                go_roundw
                case rel => exact ⟨k + 1, by omega, by go_num, HN⟩
                case measure => simp [intOf]; omega
              · have dh : ((h : Int) == 0) = false := by rw [beq_eq_false_iff_ne]; omega
                obtain ⟨t, ht, ht2⟩ := HQ2.out (by omega)
                obtain ⟨bq, oq, rfl, hcq⟩ := HQk.out.2 (by omega)
                have y0 := hcq 0 (by omega)
                rw [Nat.add_zero, ht] at y0
                obtain ⟨bL', oL', eL, hcL⟩ := X.out.2 (by omega)
                cases eL
                obtain ⟨CM, cM, v0, vI, -⟩ := hcL 0 (by omega)
                have z1 := (hBw.cell (p := ⟨bL, oL + 0, none⟩) (lt_of_cell v0)).trans v0
                rw [Nat.add_zero] at z1
                obtain ⟨bv, ov, rfl, hcv⟩ := vI.2 (by omega)
                have t1 := (hBw.cell (p := ⟨bv, ov + t, none⟩) (lt_of_cell (hcv t ht2))).trans (hcv t ht2)
                obtain ⟨u', hu', _, hu2'⟩ := HL.out.wd 0 (by omega) (iAt (lAt L 0) t) (by rw [iAt_eq ht2]; exact List.getElem_mem _)
                rw [hu'] at t1
                have hw' : wdA L 0 (iAt q 0).toNat = u' := by unfold wdA; rw [ht, Int.toNat_natCast, hu']; simp
                rw [hw'] at Hext
                have g1 := (hBw.cell (p := ⟨g, 0 + u', none⟩) (lt_of_cell (hcg u' (by omega)))).trans (hcg u' (by omega))
                rw [Nat.zero_add] at g1
                obtain ⟨l0, hl0⟩ : ∃ l0, (lAt L 0).length = l0 := ⟨_, rfl⟩
                rw [hl0] at z1 ht2
                obtain ⟨xa, hxa⟩ : ∃ xa, iAt rc u = xa := ⟨_, rfl⟩
                obtain ⟨ya, hya⟩ : ∃ ya, iAt rc u' = ya := ⟨_, rfl⟩
                rw [hxa] at g0 Hext
                rw [hya] at g1 Hext
                have m0 : (0 : Int) < (m : Int) := by omega
                have q0 : (0 : Int) < (h : Int) := by omega
                have a0 : (0 : Int) ≤ (t : Int) := by omega
                have a1 : (t : Int) < (l0 : Int) := by omega
                have n2 : (0 : Int) ≤ (u' : Int) := by omega
                have n3 : (u' : Int) < 101 := by omega
                clear hcq hcL v0 vI hcv hu' hw' hl0 hxa hya hcg hBw ht
                by_cases hxy : xa = ya
                · rw [if_pos (.inr hxy)] at Hext
                  subst hxy
                  clear h0
                  go_wp2_with fail
                  go_quiet (fail)
                  have hbV := drew_b wk nq
                  obtain ⟨V1, hV1⟩ : ∃ V1, wk.drewN nq = V1 := ⟨_, rfl⟩
                  rw [hV1] at hbV ⊢
                  clear hV1
                  have hsV := hbV.size
                  have x1 := ((hbV.trans ((keep_alloc (fun _ => False) V1 (.cells #[] 3)).new.mono hsV)).cell (p := ⟨bo, oo + i, none⟩) (lt_of_cell x0)).trans x0
                  obtain ⟨g2, cp, W3, C5, m5, c5, W5, C7, m7, c7, W7, r1, r2, r3, hR7, hK7⟩ := grow14 (N0 := wq.heap.size) (cq := cq) (k := k) rfl (HK.out.1.below hbV (Nat.le_refl _)) (HQk.out.below hbV (Nat.le_refl _)) (by omega) (by have := HK.out.2.size; omega) (by have := Hlen.out; omega)
                  have HN := Lib.hid (show RwO wq.heap.size W7 (.slice C7 m7 c7) (nextK rc L h l i ++ extK rc L h q (k + 1)) ∧ Below wq.heap.size wq W7 from ⟨by rw [Hext.out, ← List.append_assoc]; exact hR7, HK.out.2.trans ((hbV.mono HK.out.2.size).trans (hK7.below (by have := HK.out.2.size; omega) (fun j hj e => by omega)))⟩)
                  clear hR7 hK7 hbV HK x0
                  go_wp2_with fail
                  try rw [r1]
                  try go_wp2_with fail
                  try rw [r2]
                  try go_wp2_with fail
                  try rw [r3]
                  try go_wp2_with fail
                  go_roundw
                  case rel => exact ⟨k + 1, by omega, by go_num, HN⟩
                  case measure => simp [intOf]; omega
                · rw [if_neg (by rintro (e | e); exact h0 e; exact hxy e), List.append_nil] at Hext
                  have d1 : (xa == ya) = false := by rw [beq_eq_false_iff_ne]; exact hxy
                  clear h0 hxy
                  go_wp2_with fail
                  go_quiet (fail)
                  have HN := Lib.hid (show RwO wq.heap.size (wk.drewN nq) u8 (nextK rc L h l i ++ extK rc L h q (k + 1)) ∧ Below wq.heap.size wq (wk.drewN nq) from ⟨by rw [Hext.out]; exact HK.out.1.below (drew_b wk nq) (Nat.le_refl _), HK.out.2.trans ((drew_b wk nq).mono HK.out.2.size)⟩)
                  clear HK
                  go_wp2_with fail
                  go_roundw
                  case rel => exact ⟨k + 1, by omega, by go_num, HN⟩
                  case measure => simp [intOf]; omega
            · obtain rfl : k = ll := by omega
              have HN := Lib.hid (show RwO wq.heap.size wk u8 (nextK rc L h l (i + 1)) ∧ Below wq.heap.size wq wk by
                refine ⟨?_, HK.out.2⟩
                have := HK.out.1
                rw [Hsu.out]
                unfold extS
                rw [Hll.out]
                exact this)
              clear HK hBw
              go_wp2_with fail
              go_roundw
              case rel => exact ⟨i + 1, by omega, by go_num, HN⟩
              case measure => simp [intOf]; omega
        · obtain rfl : i = N := by omega
          have HN := Lib.hid (show RwO w1.heap.size we u8 (allS rc L (h + 1)) ∧ Below w1.heap.size w1 we by
            rw [Hnx.out, HNl.out]
            obtain ⟨cs, q1, q2, q3⟩ := HM.out.1
            have hs := HJ.out.2.size
            exact ⟨⟨cs, q1, fun g e => ⟨Nat.le_trans hs (q2 g e).1, (q2 g e).2⟩, fun j hj => by
              obtain ⟨Z, cap, p1, p2, p3, p4, p5⟩ := q3 j hj
              exact ⟨Z, cap, p1, p2, Nat.le_trans hs p3, p4, p5⟩⟩, HJ.out.2.trans (HM.out.2.mono hs)⟩)
          clear HM
          go_wp2_with fail
          go_roundw
          case rel => exact ⟨h + 1, by omega, by go_num, HN⟩
          case measure => simp [intOf]; omega
    · obtain rfl : h = m := by omega
      obtain ⟨C, c, rfl, hc, hl⟩ := HJ.out.1.lns
      have HLn := Lib.hid hl
      have HBl := Lib.hid (B0.out.trans (HJ.out.2.mono B0.out.size))
      have Hc := Lib.hid hc
      obtain ⟨N, hN⟩ : ∃ N, (allS rc L h).length = N := ⟨_, rfl⟩
      rw [hN] at HLn Hc ⊢
      have HN := Lib.hid hN
      clear hl HJ hc hN
      go_wp2_with fail
      go_ret
      exact ⟨C, c, by rw [HRc.out, HN.out]; rfl, by rw [HRc.out, HN.out]; exact HLn.out, by rw [HRc.out, HN.out]; exact Hc.out, HBl.out⟩
end Go.Proofs.Ythdjbapidodlfaa
