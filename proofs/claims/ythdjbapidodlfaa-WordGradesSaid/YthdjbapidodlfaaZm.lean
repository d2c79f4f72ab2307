/- Stage 4: what is reached of Lvm, Df, Nl, Apl, Pvm, Cm, Pvn, Ctm, Mor, Apm, Grm, Tum, Pss, Or9, Ctm9, Grf9, Hr, Wcf, Dm, Df9. -/
import Derived.Test.YthdjbapidodlfaaU1
import Derived.Test.YthdjbapidodlfaaWk
import Derived.ArgAppend
import Derived.Test.YthdjbapidodlfaaAll
import Derived.Deep.RegionHeld3
import Derived.Test.YthdjbapidodlfaaOr
import Derived.Test.YthdjbapidodlfaaR30
namespace Go.Proofs.Ythdjbapidodlfaa
set_option linter.unusedSimpArgs false
set_option linter.unusedVariables false
open Go.RowKit Go.Shelf
theorem lAt_take {mt : List (List Int)} {m j : Nat} : lAt (mt.map (·.take m)) j = (lAt mt j).take m := by
  unfold lAt
  rw [List.getD_eq_getElem?_getD, List.getD_eq_getElem?_getD, List.getElem?_map]
  cases mt[j]? <;> simp
end Go.Proofs.Ythdjbapidodlfaa
namespace Go.Proofs.Ythdjbapidodlfaa
set_option linter.unusedSimpArgs false
set_option linter.unusedVariables false
open Go.RowKit Go.Shelf
theorem grtB_facts {n : Nat} {L : List (List Int)} (h : grtB n L = false) : n ≤ 50 ∧ L.length ≤ 8 ∧ ∀ l ∈ L, l.length ≤ 12 := by
  simp only [grtB, Bool.or_eq_false_iff, decide_eq_false_iff_not, Nat.not_lt, List.any_eq_false, decide_eq_true_eq] at h
  exact ⟨h.1.1, h.1.2, h.2⟩
theorem grtB_m {n : Nat} {L : List (List Int)} (h : grtB n L = false) : L.length ≤ 8 := (grtB_facts h).2.1
section
attribute [local go_sem ↓] exec_app at_app
attribute [local go_sem] Oper.semAt_some
end
end Go.Proofs.Ythdjbapidodlfaa
namespace Go.Proofs.Ythdjbapidodlfaa
set_option linter.unusedSimpArgs false
set_option linter.unusedVariables false
open Go.RowKit Go.Shelf
theorem lns_nil (w : World) : Lns w none 0 [] := ⟨rfl, fun h => absurd h (by omega)⟩
theorem ints_nil (w : World) : Ints w none 0 [] := ⟨rfl, fun h => absurd h (by omega)⟩
theorem lAt_le {l : List (List Int)} {k : Nat} (h : ∀ x ∈ l, x.length ≤ k) (j : Nat) : (lAt l j).length ≤ k := by
  unfold lAt
  rw [List.getD_eq_getElem?_getD]
  rcases Nat.lt_or_ge j l.length with hj | hj
  · rw [List.getElem?_eq_getElem hj]
    exact h _ (List.getElem_mem hj)
  · rw [List.getElem?_eq_none hj]
    simp
theorem take_lens {nm : List Int} {L : List (List Int)} {m : Nat} (hL : LV L m) : ∀ j, j < (mtS nm L).length → (lAt ((mtS nm L).map (·.take m)) j).length = m := by
  intro j hj
  rw [lAt_take, List.length_take, lAt_eq hj, (mtS_len hL).2 _ (List.getElem_mem hj)]
  have := hL.hi
  omega
/-- Small numbers that came in. -/
def ByU (w : World) (A3 : Option Addr) (nb : Nat) : Prop := ∀ j, j < nb → ∃ (b o u : Nat), A3 = some ⟨b, o, none⟩ ∧ u ≤ 255 ∧ w.cell? ⟨b, o + j, none⟩ = some (.int .u8 (u : Int))
theorem ByU.below {w w' : World} {A3 : Option Addr} {nb B : Nat} (h : ByU w A3 nb) (hb : Below B w w') (hB : w.heap.size ≤ B) : ByU w' A3 nb := fun j hj => by
  obtain ⟨b, o, u, h1, h2, h3⟩ := h j hj
  exact ⟨b, o, u, h1, h2, (hb.cell (p := ⟨b, o + j, none⟩) (Nat.lt_of_lt_of_le (lt_of_cell h3) hB)).trans h3⟩
end Go.Proofs.Ythdjbapidodlfaa
namespace Go.Proofs.Ythdjbapidodlfaa
set_option linter.unusedSimpArgs false
set_option linter.unusedVariables false
open Go.RowKit Go.Shelf
/-- Passages are no longer than the greatest level. -/
theorem chain_len {nm : List Int} {L : List (List Int)} {m : Nat} (hL : LV L m) {K : Nat} (hK : Top (mtS nm L) (lv (mtS nm L) m) K) {q : List (List Int)} (hq : Chain' (bef m) q) (hm : ∀ x ∈ q, x ∈ mtS nm L) : q.length ≤ K := by
  rcases Nat.lt_or_ge K q.length with h | h
  · have h1 := chs_all hq hm
    rw [chs_none (eS_lev (mtS_nodup hL) (by have := hL.lo; omega) hL.hi (mtS_wpl hL)) hK h] at h1
    cases h1
  · exact h
end Go.Proofs.Ythdjbapidodlfaa
namespace Go.Proofs.Ythdjbapidodlfaa
set_option linter.unusedSimpArgs false
set_option linter.unusedVariables false
open Go.RowKit Go.Shelf
/-- A row of matches that is built (its block is M or behind it) of matches that lie elsewhere (before N0). -/
def Cho (M N0 : Nat) (W : World) (v : Value) (q : List (List Int)) : Prop :=
  ∃ cs : List Value, W.ownsRow 0 40 1 v q.length cs ∧ (∀ g, v.ownBlock = some g → M ≤ g) ∧ ∀ j, j < q.length → ∃ C cap, cs[j]? = some (.slice C (lAt q j).length cap) ∧ (lAt q j).length ≤ cap ∧ Ints W C (lAt q j).length (lAt q j) ∧
    ∀ b o, C = some ⟨b, o, none⟩ → b < N0
theorem Cho.nil (M N0 : Nat) (W : World) : Cho M N0 W (.slice none 0 0) [] := ⟨[], ⟨rfl, .inl ⟨rfl, rfl⟩⟩, fun g e => (by cases e), fun j hj => by simp at hj⟩
theorem Cho.below {M N0 : Nat} {W W' : World} {v : Value} {q : List (List Int)} (h : Cho M N0 W v q) (hb : Below W.heap.size W W') : Cho M N0 W' v q := by
  obtain ⟨cs, h1, h2, h3⟩ := h
  refine ⟨cs, own_keep h1 (Keeps.of_new hb (Mut := fun _ => False)) (fun _ _ e => e), h2, fun j hj => ?_⟩
  obtain ⟨C, cap, q1, q2, q3, q4⟩ := h3 j hj
  exact ⟨C, cap, q1, q2, q3.below hb (Nat.le_refl _), q4⟩
theorem Cho.open {M N0 : Nat} {W : World} {v : Value} {q : List (List Int)} (h : Cho M N0 W v q) : ∃ C cap, v = .slice C q.length cap ∧ q.length ≤ cap ∧ Lns W C q.length q ∧
    (0 < q.length → ∃ b, C = some ⟨b, 0, none⟩ ∧ ∀ j, j < q.length → ∃ C' c', W.cell? ⟨b, 0 + j, none⟩ = some (.slice C' (lAt q j).length c') ∧ Ints W C' (lAt q j).length (lAt q j) ∧ (lAt q j).length ≤ c' ∧ ∀ b' o', C' = some ⟨b', o', none⟩ → b' < N0) := by
  obtain ⟨cs, ho, _, hr⟩ := h
  rcases ho.2 with ⟨rfl, h0⟩ | ⟨g, cap, cur, rfl, hb, hg, hc, _, hsz, htake⟩
  · rw [h0]
    exact ⟨none, 0, rfl, Nat.le_refl _, ⟨h0, fun h => absurd h (by omega)⟩, fun h => absurd h (by omega)⟩
  · have key : ∀ j, j < q.length → ∃ C' c', W.cell? ⟨g, 0 + j, none⟩ = some (.slice C' (lAt q j).length c') ∧ Ints W C' (lAt q j).length (lAt q j) ∧ (lAt q j).length ≤ c' ∧ ∀ b' o', C' = some ⟨b', o', none⟩ → b' < N0 := by
      intro j hj
      obtain ⟨C, c, q1, q2, q3, q4⟩ := hr j hj
      refine ⟨C, c, ?_, q3, q2, q4⟩
      have hcell := ho.cells (g := g) rfl j _ q1
      rw [Addr.add_lit] at hcell
      exact hcell
    refine ⟨_, cap, rfl, hc, ⟨rfl, fun _ => ⟨g, 0, rfl, fun j hj => ?_⟩⟩, fun _ => ⟨g, rfl, key⟩⟩
    obtain ⟨C', c', q1, q2, q3, _⟩ := key j hj
    exact ⟨C', c', q1, q2, q3⟩
theorem Cho.snoc {M N0 cap : Nat} {W : World} {v : Value} {q : List (List Int)} {C : Option Addr} {y : List Int} (h : Cho M N0 W v q) (hq : Ints W C y.length y) (hC : ∀ b o, C = some ⟨b, o, none⟩ → b < N0) (hcap : y.length ≤ cap) (hn : q.length ≤ 10000) (hM : M ≤ W.heap.size) (hNM : N0 ≤ M) :
    ∃ C' c' W', runA Try.prog 31 v (.slice (some ⟨W.heap.size, 0, none⟩) 1 1) (W.alloc (.cells #[.slice C y.length cap] 40)) = .ok (.value (.slice C' (q.length + 1) c')) W' ∧ Cho M N0 W' (.slice C' (q.length + 1) c') (q ++ [y]) ∧ Below M W W' := by
  have hb0 := below_alloc_ W (.cells #[.slice C y.length cap] 40)
  obtain ⟨cs, h1, h2, h3⟩ := h.below hb0
  obtain ⟨v', W', a1, a2, a3, a4⟩ := app_one (n := q.length) Try.underlying31 info40_ rfl (by omega) (by omega) h1 (vals := [.slice C y.length cap]) rfl (heap_alloc_new_ W (.cells #[.slice C y.length cap] 40)) (by simp [Value.oneCell']) (by omega)
  have hbM : Below M W W' := (hb0.mono hM).trans (a3.below (Nat.le_trans hM hb0.size) (fun k hk e => by have := h2 k e; omega))
  have hI : ∀ {C' : Option Addr} {u : List Int}, Ints (W.alloc (.cells #[.slice C y.length cap] 40)) C' u.length u → (∀ b o, C' = some ⟨b, o, none⟩ → b < N0) → Ints W' C' u.length u := fun hi hl => hi.keep a3 (fun b o e e' => by have := hl b o e; have := h2 b e'; omega)
  have a2' : W'.ownsRow 0 40 1 v' (q ++ [y]).length (cs ++ [.slice C y.length cap]) := by rw [List.length_append]; exact a2
  have hcl : cs.length = q.length := by have := h1.1; omega
  have hch : Cho M N0 W' v' (q ++ [y]) := by
    refine ⟨_, a2', fun g e => ?_, fun j hj => ?_⟩
    · rcases a4 with a4 | ⟨a4, _⟩
      · exact h2 g (by rw [← a4]; exact e)
      · rw [a4] at e; cases e; exact Nat.le_trans hM hb0.size
    · rw [List.length_append] at hj
      simp only [List.length_cons, List.length_nil] at hj
      rcases Nat.lt_or_ge j q.length with hjq | hjq
      · obtain ⟨C', c', p1, p2, p3, p4⟩ := h3 j hjq
        have e1 : lAt (q ++ [y]) j = lAt q j := by
          unfold lAt
          rw [List.getD_eq_getElem?_getD, List.getElem?_append_left hjq, ← List.getD_eq_getElem?_getD]
        rw [e1]
        exact ⟨C', c', by rw [List.getElem?_append_left (by omega)]; exact p1, p2, hI p3 p4, p4⟩
      · obtain rfl : j = q.length := by omega
        have e1 : lAt (q ++ [y]) q.length = y := by
          unfold lAt
          rw [List.getD_eq_getElem?_getD, List.getElem?_append_right (Nat.le_refl _)]
          simp
        rw [e1]
        exact ⟨C, cap, by rw [List.getElem?_append_right (by omega), hcl]; simp, hcap, hI (hq.below hb0 (Nat.le_refl _)) hC, hC⟩
  rcases a2.2 with ⟨_, e⟩ | ⟨g, cp, cur, rfl, _⟩
  · omega
  · exact ⟨_, _, W', run_app a1, hch, hbM⟩
/-- A passage of matches out of l. -/
def ChQ (l : List (List Int)) (m : Nat) (q : List (List Int)) : Prop := (∀ j, j < q.length → lAt q j ∈ l) ∧ ∀ j, j + 1 < q.length → befB (lAt q j) (lAt q (j + 1)) m = true
theorem lAt_snoc {q : List (List Int)} {y : List Int} (j : Nat) : lAt (q ++ [y]) j = if j < q.length then lAt q j else if j = q.length then y else [] := by
  unfold lAt
  rw [List.getD_eq_getElem?_getD]
  by_cases h : j < q.length
  · rw [if_pos h, List.getElem?_append_left h, List.getD_eq_getElem?_getD]
  · rw [if_neg h, List.getElem?_append_right (by omega)]
    by_cases e : j = q.length
    · subst e; simp
    · rw [if_neg e, List.getElem?_eq_none (by simp; omega)]; rfl
theorem ChQ.snoc {l : List (List Int)} {m : Nat} {q : List (List Int)} {y : List Int} (h : ChQ l m q) (hy : y ∈ l) (hb : 0 < q.length → befB (lAt q (q.length - 1)) y m = true) : ChQ l m (q ++ [y]) := by
  refine ⟨fun j hj => ?_, fun j hj => ?_⟩
  · rw [lAt_snoc]
    rw [List.length_append] at hj
    simp only [List.length_cons, List.length_nil] at hj
    split
    · rename_i h1; exact h.1 j h1
    · rw [if_pos (by omega)]; exact hy
  · rw [List.length_append] at hj
    simp only [List.length_cons, List.length_nil] at hj
    rw [lAt_snoc, lAt_snoc, if_pos (show j < q.length by omega)]
    split
    · rename_i h1; exact h.2 j h1
    · rw [if_pos (by omega)]
      have := hb (by omega)
      rwa [show q.length - 1 = j by omega] at this
theorem ChQ.len {l : List (List Int)} {m : Nat} {q : List (List Int)} (h : ChQ l m q) (hm : 1 ≤ m) (hl : ∀ y ∈ l, 0 ≤ iAt y 0 ∧ iAt y 0 ≤ 8) : q.length ≤ 9 := by
  have key : ∀ j, j < q.length → (j : Int) ≤ iAt (lAt q j) 0 := by
    intro j
    induction j with
    | zero => intro hj; have := hl _ (h.1 0 hj); omega
    | succ j ih =>
      intro hj
      have h1 := ih (by omega)
      have h2 := befB_iff.1 (h.2 j hj) 0 (by omega)
      omega
  rcases Nat.lt_or_ge 9 q.length with hq | hq
  · have h1 := key 9 hq
    have h2 := hl _ (h.1 9 hq)
    omega
  · exact hq
section
attribute [local go_sem ↓] exec_app at_app
attribute [local go_sem] Oper.semAt_some
end
end Go.Proofs.Ythdjbapidodlfaa
namespace Go.Proofs.Ythdjbapidodlfaa
set_option linter.unusedSimpArgs false
set_option linter.unusedVariables false
open Go.RowKit Go.Shelf
theorem iAt_take2 {x : List Int} {m h : Nat} (hh : h < m) : iAt (x.take m) h = iAt x h := by
  unfold iAt
  rw [List.getD_eq_getElem?_getD, List.getElem?_take, if_pos hh, ← List.getD_eq_getElem?_getD]
end Go.Proofs.Ythdjbapidodlfaa
namespace Go.Proofs.Ythdjbapidodlfaa
set_option linter.unusedSimpArgs false
set_option linter.unusedVariables false
open Go.RowKit Go.Shelf
theorem fst_lng {nm : List Int} {L : List (List Int)} {m : Nat} (hL : LV L m) : fstS nm L m (mtS nm L) ∈ lngS nm L m :=
  List.mem_of_mem_head? (grd_first (mtS_nodup (nm := nm) hL) (bef_irr hL) (mtS_sorted hL) (lev_ok hL) (bS_lev hL) (top_ok hL))
end Go.Proofs.Ythdjbapidodlfaa
namespace Go.Proofs.Ythdjbapidodlfaa
set_option linter.unusedSimpArgs false
set_option linter.unusedVariables false
open Go.RowKit Go.Shelf
/-- If chains go over to chains that are as long, longest ones do not become shorter. -/
theorem topK_of {nm nm' : List Int} {L L' : List (List Int)} {m m' : Nat} (hL : LV L m) (hL' : LV L' m') (F : List (List Int) → List (List Int)) (hF : ∀ q, Chain' (bef m) q → (∀ x ∈ q, x ∈ mtS nm L) → Chain' (bef m') (F q) ∧ (∀ x ∈ F q, x ∈ mtS nm' L') ∧ (F q).length = q.length) : topK nm L m ≤ topK nm' L' m' := by
  have hq := fst_lng (nm := nm) hL
  obtain ⟨h1, h2, h3⟩ := hF _ (chs_pair bef_tr hq) (chs_mem (show _ ∈ chs (mtS nm L) (bef m) (topK nm L m) from hq))
  have h4 := chain_len hL' (top_ok hL') h1 h2
  rw [h3, chs_len hq] at h4
  exact h4
theorem lAt_app {L : List (List Int)} {l : List Int} {m : Nat} (hl : L.length = m) (j : Nat) : lAt (L ++ [l]) j = if j < m then lAt L j else if j = m then l else [] := by
  unfold lAt
  rw [List.getD_eq_getElem?_getD]
  by_cases h : j < m
  · rw [if_pos h, List.getElem?_append_left (by omega), ← List.getD_eq_getElem?_getD]
  · rw [if_neg h, List.getElem?_append_right (by omega)]
    by_cases h2 : j = m
    · subst h2; rw [if_pos rfl, hl]; simp
    · rw [if_neg h2, List.getElem?_eq_none (by simp; omega)]
      rfl
end Go.Proofs.Ythdjbapidodlfaa
namespace Go.Proofs.Ythdjbapidodlfaa
set_option linter.unusedSimpArgs false
set_option linter.unusedVariables false
open Go.RowKit Go.Shelf
theorem app_own {t e : TypeId} {size bytes : Nat} {z : Value} (ht : Try.prog.underlying t = some (.slice e)) (hinf : (Try.prog.info? e).map (fun i => (i.zero, i.size, i.bytes)) = some (some z, size, bytes)) (hzs : z.cells.size = size) (h0 : 0 < size) (hb : bytes ≤ 100)
    {W : World} {v : Value} {n m c2 : Nat} {xs news : List Value} {A2 : Option Addr} (h : W.ownsRow 0 e size v n xs) (hl : news.length = m * size) (hn : 0 < m → ∃ b o, A2 = some ⟨b, o, none⟩ ∧ ∀ j u, news[j]? = some u → W.cell? ⟨b, o + j, none⟩ = some u) (h1 : ∀ u ∈ news, u.oneCell' = true) (h63 : n + m ≤ 100000) :
    ∃ v' W', runA Try.prog t v (.slice A2 m c2) W = .ok (.value v') W' ∧ W'.ownsRow 0 e size v' (n + m) (xs ++ news) ∧ Keeps (fun j => v.ownBlock = some j) W W' ∧ (v'.ownBlock = v.ownBlock ∨ v'.ownBlock = some W.heap.size) := by
  obtain ⟨i, hif, hz, hs, hby⟩ := info_parts hinf
  have hb8 : (n + m) * bytes ≤ 140737488355328 := Nat.le_trans (Nat.mul_le_mul h63 hb) (by omega)
  rcases A2 with _ | a
  · have hm : m = 0 := by
      rcases Nat.eq_zero_or_pos m with e | e
      · exact e
      · obtain ⟨b, o, e2, _⟩ := hn e; cases e2
    subst hm
    have hnw : news = [] := List.eq_nil_of_length_eq_zero (by simpa using hl)
    subst hnw
    refine ⟨v, W, run_app ?_, by simpa using h, Keeps.refl _ _, .inl rfl⟩
    rcases h.2 with ⟨rfl, rfl⟩ | ⟨g, cap, cur, rfl, _, _, hnc, _⟩
    · simp [Builtin.append_, run_underlying ht, Builtin.lenOf, sizeOf, typeInfo, hif, hs, Builtin.firstCells, loadCells, loadCellsFrom]
    · simp [Builtin.append_, run_underlying ht, Builtin.lenOf, sizeOf, typeInfo, hif, hs, Builtin.firstCells, loadCells, loadCellsFrom, storeCells, Addr.add, hnc]
  · obtain ⟨v', W', q2, q3, q4, _, q5⟩ := run_append_own_at (P := Try.prog) W 0 t t e i _ size bytes ht hif hz hs hby hzs h0 v n xs h a m c2 news hl (fun j u hj => by
      rcases Nat.eq_zero_or_pos m with e | e
      · subst e
        have : news = [] := List.eq_nil_of_length_eq_zero (by simpa using hl)
        subst this
        simp at hj
      · obtain ⟨b, o, e2, hc⟩ := hn e
        cases e2
        rw [Addr.add_lit]
        exact hc j u hj) h1 (by unfold maxLen; omega) hb8 (Nat.zero_le _)
    exact ⟨v', W', run_app q2, q3, ⟨q4.os, q4.tape, q4.output, q4.size, fun k hk hmm => q4.block k hk (fun e => hmm e.symm)⟩, q5⟩
/-- The rows of lines, as values. -/
def RwV (w : World) (L : List (List Int)) (vs : List Value) : Prop := vs.length = L.length ∧ ∀ j, j < L.length → ∃ C c, vs[j]? = some (.slice C (lAt L j).length c) ∧ Ints w C (lAt L j).length (lAt L j) ∧ (lAt L j).length ≤ c
theorem RwV.below {w w' : World} {L : List (List Int)} {vs : List Value} {B : Nat} (h : RwV w L vs) (hb : Below B w w') (hB : w.heap.size ≤ B) : RwV w' L vs := ⟨h.1, fun j hj => by
  obtain ⟨C, c, h1, h2, h3⟩ := h.2 j hj
  exact ⟨C, c, h1, h2.below hb hB, h3⟩⟩
theorem rwv_snoc {w : World} {L : List (List Int)} {vs : List Value} {l : List Int} {C : Option Addr} {c : Nat} (h : RwV w L vs) (hi : Ints w C l.length l) (hc : l.length ≤ c) : RwV w (L ++ [l]) (vs ++ [.slice C l.length c]) := by
  refine ⟨by simp [h.1], fun j hj => ?_⟩
  rw [lAt_app rfl]
  by_cases e : j < L.length
  · rw [if_pos e, List.getElem?_append_left (by rw [h.1]; exact e)]
    exact h.2 j e
  · have e2 : j = L.length := by simp at hj; omega
    rw [if_neg e, if_pos e2]
    refine ⟨C, c, ?_, hi, hc⟩
    rw [List.getElem?_append_right (by rw [h.1]; omega), h.1, e2]
    simp
/-- An empty row that was just made. -/
theorem own_empty {W : World} {E : Nat} {e : TypeId} {size : Nat} (h : W.heap[E]? = some (.cells #[] e (0, 0))) : W.ownsRow 0 e size (.slice (some ⟨E, 0, none⟩) 0 0) 0 [] :=
  ⟨by rw [Nat.zero_mul]; rfl, .inr ⟨E, 0, #[], rfl, Nat.zero_le _, h, Nat.le_refl _, Nat.zero_le _, by rw [Nat.zero_mul]; rfl, by rw [Nat.zero_mul]; rfl⟩⟩
end Go.Proofs.Ythdjbapidodlfaa
namespace Go.Proofs.Ythdjbapidodlfaa
set_option linter.unusedSimpArgs false
set_option linter.unusedVariables false
open Go.RowKit Go.Shelf
/-- A passage hears the word i of the hearer h. -/
def hrQ (h i : Nat) (q : List (List Int)) : Bool := q.any fun x => decide (iAt x h = (i : Int))
theorem smK_sum {nm : List Int} {L : List (List Int)} {m h : Nat} (hL : LV L m) (hh : h < m) (i : Nat) : ∀ pre : List (List Int), (∀ x ∈ pre, x ∈ mtS nm L) → iAt (smK nm L m h pre) i = ((sumN pre fun x => if iAt x h = (i : Int) then nE (mtS nm L) (bef m) (topK nm L m) x else 0 : Nat) : Int) := by
  intro pre
  obtain ⟨n, hn⟩ : ∃ n, pre.length = n := ⟨_, rfl⟩
  induction n generalizing pre with
  | zero =>
    intro _
    rw [List.length_eq_zero_iff.1 hn]
    have : smK nm L m h [] = List.replicate (lAt L h).length 0 := rfl
    rw [this, iAt_rep]
    rfl
  | succ n ih =>
    intro hp
    rcases List.eq_nil_or_concat pre with rfl | ⟨p, x, rfl⟩
    · simp at hn
    · rw [List.concat_eq_append] at hn hp ⊢
      have hx := hp x (by simp)
      have hpn : p.length = n := by rw [List.length_append] at hn; simpa using hn
      have ih2 := ih p hpn (fun y hy => hp y (by simp [hy]))
      have hr := ((mem_mtS hL x).1 hx).rng h hh
      rw [smK_snoc, sumN_app]
      unfold smF
      rw [iAt_set9 _ (by rw [smK_len]; omega), shS_nE hL hx]
      rw [sumN_cons, sumN_nil]
      by_cases e : iAt x h = (i : Int)
      · rw [if_pos e]
        have e2 : (iAt x h).toNat = i := by omega
        rw [e2, if_pos rfl, ih2]
        omega
      · rw [if_neg e, if_neg (by omega), ih2]
        omega
theorem hr_one {m h i : Nat} (hh : h < m) : ∀ q : List (List Int), Chain' (bef m) q → (sumN q fun x => if iAt x h = (i : Int) then 1 else 0) = if hrQ h i q = true then 1 else 0
  | [], _ => rfl
  | x :: t, hc => by
    obtain ⟨c1, c2⟩ := List.pairwise_cons.1 hc
    have ih := hr_one (i := i) hh t c2
    rw [sumN_cons, ih]
    have e : hrQ h i (x :: t) = (decide (iAt x h = (i : Int)) || hrQ h i t) := by simp [hrQ]
    rw [e]
    by_cases hx : iAt x h = (i : Int)
    · rw [if_pos hx, decide_eq_true hx, Bool.true_or, if_pos rfl]
      have : hrQ h i t = false := by
        unfold hrQ
        rw [List.any_eq_false]
        intro y hy
        have h2 := befB_iff.1 (c1 y hy) h hh
        rw [decide_eq_true_eq]
        omega
      rw [this]
      rfl
    · rw [if_neg hx, decide_eq_false hx, Bool.false_or, Nat.zero_add]
/-- The sum of a word is how many longest passages hear it. -/
theorem sm_hear {nm : List Int} {L : List (List Int)} {m h : Nat} (hL : LV L m) (hh : h < m) (i : Nat) : iAt (smK nm L m h (mtS nm L)) i = ((sumN (lngS nm L m) fun q => if hrQ h i q = true then 1 else 0 : Nat) : Int) := by
  rw [smK_sum hL hh i _ (fun x hx => hx)]
  congr 1
  have e1 : (sumN (mtS nm L) fun x => if iAt x h = (i : Int) then nE (mtS nm L) (bef m) (topK nm L m) x else 0) = sumN (mtS nm L) fun x => sumN (lngS nm L m) fun q => if x ∈ q ∧ iAt x h = (i : Int) then 1 else 0 := by
    refine sumN_congr fun x hx => ?_
    by_cases e : iAt x h = (i : Int)
    · rw [if_pos e]
      unfold nE lngS
      exact sumN_congr fun q _ => by by_cases h : x ∈ q <;> simp [h, e]
    · rw [if_neg e]
      have h0 : (sumN (lngS nm L m) fun q => if x ∈ q ∧ iAt x h = (i : Int) then 1 else 0) = sumN (lngS nm L m) fun _ => 0 := sumN_congr fun q _ => if_neg (fun e' => e e'.2)
      rw [h0, sumN_zero]
  rw [e1, sumN_comm]
  refine sumN_congr fun q hq => ?_
  have hc : Chain' (bef m) q := chs_pair bef_tr hq
  have hm : ∀ x ∈ q, x ∈ mtS nm L := chs_mem (show q ∈ chs (mtS nm L) (bef m) (topK nm L m) from hq)
  rw [← hr_one hh q hc]
  have hnq : q.Nodup := nodup_of_chain (bef_irr hL) hc
  have hnm := mtS_nodup (nm := nm) hL
  have h1 : (sumN (mtS nm L) fun x => if x ∈ q ∧ iAt x h = (i : Int) then 1 else 0) = sumN ((mtS nm L).filter fun x => decide (x ∈ q)) fun x => if iAt x h = (i : Int) then 1 else 0 := by
    rw [sumN_filter]
    exact sumN_congr fun x _ => by by_cases h : x ∈ q <;> simp [h]
  rw [h1]
  have hp : List.Perm ((mtS nm L).filter fun x => decide (x ∈ q)) q := (List.perm_ext_iff_of_nodup (hnm.filter _) hnq).2 fun x => by
    rw [List.mem_filter, decide_eq_true_eq]
    exact ⟨fun h => h.2, fun h => ⟨hm x h, h⟩⟩
  unfold sumN
  exact (hp.map _).sum_nat
theorem grS_at {nm : List Int} {L : List (List Int)} {m h i : Nat} (hi : i < (lAt L h).length) : iAt (grS nm L m h) i = grV (allK (mtS nm L) m).2 (iAt (smK nm L m h (mtS nm L)) i) := by
  unfold grS
  rw [iAt_eq (by rw [List.length_map, smK_len]; exact hi), iAt_eq (by rw [smK_len]; exact hi)]
  simp
end Go.Proofs.Ythdjbapidodlfaa
namespace Go.Proofs.Ythdjbapidodlfaa
set_option linter.unusedSimpArgs false
set_option linter.unusedVariables false
open Go.RowKit Go.Shelf
theorem chs_nodup {α : Type} {l : List α} {lt : α → α → Bool} (hn : l.Nodup) : ∀ k, (chs l lt k).Nodup
  | 0 => by simp [chs]
  | k + 1 => by
    have ih := chs_nodup (lt := lt) hn k
    unfold chs List.Nodup
    rw [List.pairwise_flatMap]
    refine ⟨fun p _ => ?_, ih.imp fun {a b} hab x hx y hy e => ?_⟩
    · rw [List.pairwise_map]
      exact (hn.filter _).imp fun hab e => hab (by simpa using e)
    · obtain ⟨u, _, rfl⟩ := List.mem_map.1 hx
      obtain ⟨v, _, rfl⟩ := List.mem_map.1 hy
      exact hab (List.append_inj_left' e rfl)
theorem mem_lng {nm : List Int} {L q : List (List Int)} {m : Nat} (hL : LV L m) : q ∈ lngS nm L m ↔ Chain' (bef m) q ∧ (∀ x ∈ q, x ∈ mtS nm L) ∧ q.length = topK nm L m := by
  constructor
  · intro h
    exact ⟨chs_pair bef_tr h, chs_mem (show q ∈ chs (mtS nm L) (bef m) (topK nm L m) from h), chs_len h⟩
  · rintro ⟨h1, h2, h3⟩
    have := chs_all h1 h2
    rw [h3] at this
    exact this
/-- Chains of one list go over to chains of another one by F, and back by G. -/
structure Goes (nm : List Int) (L L' : List (List Int)) (m : Nat) (F G : List (List Int) → List (List Int)) : Prop where
  fore : ∀ q, Chain' (bef m) q → (∀ x ∈ q, x ∈ mtS nm L) → Chain' (bef m) (F q) ∧ (∀ x ∈ F q, x ∈ mtS nm L') ∧ (F q).length = q.length ∧ G (F q) = q
  back : ∀ q, Chain' (bef m) q → (∀ x ∈ q, x ∈ mtS nm L') → Chain' (bef m) (G q) ∧ (∀ x ∈ G q, x ∈ mtS nm L) ∧ (G q).length = q.length ∧ F (G q) = q
section
variable {nm : List Int} {L L' : List (List Int)} {m : Nat} {F G : List (List Int) → List (List Int)}
theorem Goes.top (h : Goes nm L L' m F G) (hL : LV L m) (hL' : LV L' m) : topK nm L m = topK nm L' m :=
  Nat.le_antisymm (topK_of hL hL' F fun q h1 h2 => ⟨(h.fore q h1 h2).1, (h.fore q h1 h2).2.1, (h.fore q h1 h2).2.2.1⟩) (topK_of hL' hL G fun q h1 h2 => ⟨(h.back q h1 h2).1, (h.back q h1 h2).2.1, (h.back q h1 h2).2.2.1⟩)
theorem Goes.perm (h : Goes nm L L' m F G) (hL : LV L m) (hL' : LV L' m) : List.Perm ((lngS nm L m).map F) (lngS nm L' m) := by
  have hn : (lngS nm L m).Nodup := chs_nodup (mtS_nodup hL) _
  have hn' : (lngS nm L' m).Nodup := chs_nodup (mtS_nodup hL') _
  refine (List.perm_ext_iff_of_nodup ?_ hn').2 fun y => ?_
  · unfold List.Nodup
    rw [List.pairwise_map]
    refine (List.Pairwise.and_mem.1 hn).imp ?_
    rintro a b ⟨ha, hb, hab⟩ e
    obtain ⟨a1, a2, _⟩ := (mem_lng hL).1 ha
    obtain ⟨b1, b2, _⟩ := (mem_lng hL).1 hb
    rw [← (h.fore a a1 a2).2.2.2, ← (h.fore b b1 b2).2.2.2, e] at hab
    exact hab rfl
  · rw [List.mem_map]
    constructor
    · rintro ⟨a, ha, rfl⟩
      obtain ⟨a1, a2, a3⟩ := (mem_lng hL).1 ha
      obtain ⟨c1, c2, c3, _⟩ := h.fore a a1 a2
      exact (mem_lng hL').2 ⟨c1, c2, by rw [c3, a3, h.top hL hL']⟩
    · intro hy
      obtain ⟨a1, a2, a3⟩ := (mem_lng hL').1 hy
      obtain ⟨c1, c2, c3, c4⟩ := h.back y a1 a2
      exact ⟨G y, (mem_lng hL).2 ⟨c1, c2, by rw [c3, a3, h.top hL hL']⟩, c4⟩
theorem Goes.cnt (h : Goes nm L L' m F G) (hL : LV L m) (hL' : LV L' m) : cntS (allK (mtS nm L) m) = cntS (allK (mtS nm L') m) := by
  rw [← lng_cnt hL, ← lng_cnt hL', ← (h.perm hL hL').length_eq, List.length_map]
theorem Goes.symm (h : Goes nm L L' m F G) : Goes nm L' L m G F := ⟨h.back, h.fore⟩
theorem Goes.none (h : Goes nm L L' m F G) (e : mtS nm L = []) : mtS nm L' = [] := by
  refine List.eq_nil_iff_forall_not_mem.2 fun y hy => ?_
  obtain ⟨_, h2, h3, _⟩ := h.back [y] (List.pairwise_singleton ..) (fun x hx => by rw [List.mem_singleton.1 hx]; exact hy)
  obtain ⟨x, hx⟩ : ∃ x, x ∈ G [y] := by
    rcases hg : G [y] with _ | ⟨x, t⟩
    · rw [hg] at h3; cases h3
    · exact ⟨x, List.mem_cons_self ..⟩
  have := h2 x hx
  rw [e] at this
  cases this
theorem Goes.all (h : Goes nm L L' m F G) (hL : LV L m) (hL' : LV L' m) : (allK (mtS nm L) m).2 = (allK (mtS nm L') m).2 := by
  by_cases e : mtS nm L = []
  · rw [e, h.none e]
  · have e' : mtS nm L' ≠ [] := fun e2 => e (h.symm.none e2)
    rw [← lng_len hL e, ← lng_len hL' e', ← (h.perm hL hL').length_eq, List.length_map]
theorem Goes.grade (h : Goes nm L L' m F G) (hL : LV L m) (hL' : LV L' m) {u u' i i' : Nat} (hu : u < m) (hu' : u' < m) (hi : i < (lAt L u).length) (hi' : i' < (lAt L' u').length)
    (hh : ∀ q, (∀ x ∈ q, x ∈ mtS nm L) → hrQ u' i' (F q) = hrQ u i q) : iAt (grS nm L' m u') i' = iAt (grS nm L m u) i := by
  rw [grS_at hi', grS_at hi, h.all hL hL', sm_hear hL' hu', sm_hear hL hu]
  congr 2
  have e1 : sumN (lngS nm L' m) (fun q => if hrQ u' i' q = true then 1 else 0) = sumN ((lngS nm L m).map F) fun q => if hrQ u' i' q = true then 1 else 0 := by
    unfold sumN
    exact (((h.perm hL hL').map _).sum_nat).symm
  rw [e1, sumN_map]
  exact sumN_congr fun q hq => by rw [hh q ((mem_lng hL).1 hq).2.1]
end
/-- Lists of numbers are equal if they are as long, and equal at each index. -/
theorem list_iAt {a b : List Int} (hl : a.length = b.length) (h : ∀ i, i < a.length → iAt a i = iAt b i) : a = b := by
  refine List.ext_getElem hl fun i h1 h2 => ?_
  have := h i h1
  rw [iAt_eq h1, iAt_eq h2] at this
  exact this
section
variable {nm : List Int} {L L' : List (List Int)} {m : Nat}
/-- All lines are read from their ends. -/
def Revs (L L' : List (List Int)) (m : Nat) : Prop := ∀ j, j < m → lAt L' j = (lAt L j).reverse
theorem Revs.symm (h : Revs L L' m) : Revs L' L m := fun j hj => by rw [h j hj, List.reverse_reverse]
/-- Hearers change their places. -/
def Rots (L L' : List (List Int)) (m t : Nat) : Prop := ∀ j, j < m → lAt L' j = lAt L ((j + t) % m)
theorem mod_back {m t j : Nat} (h2 : 2 ≤ m) (h4 : m ≤ 4) (ht : t < m) (hj : j < m) : ((j + t) % m + (m - t)) % m = j ∧ ((j + (m - t)) % m + t) % m = j := by
  obtain rfl | rfl | rfl : m = 2 ∨ m = 3 ∨ m = 4 := by omega
  all_goals omega
theorem Rots.symm (hL : LV L m) {t : Nat} (ht : t < m) (h : Rots L L' m t) : Rots L' L m (m - t) := fun j hj => by
  have hlo := hL.lo
  rw [h _ (Nat.mod_lt _ (by omega)), (mod_back hlo hL.hi ht hj).2]
theorem grS_len (h : Nat) : (grS nm L m h).length = (lAt L h).length := by unfold grS; rw [List.length_map, smK_len]
end
end Go.Proofs.Ythdjbapidodlfaa
namespace Go.Proofs.Ythdjbapidodlfaa
set_option linter.unusedSimpArgs false
set_option linter.unusedVariables false
open Go.RowKit Go.Shelf
def psAt (ps : List (List (List Int))) (j : Nat) : List (List Int) := ps.getD j []
theorem psAt_eq {ps : List (List (List Int))} {j : Nat} (hj : j < ps.length) : psAt ps j = ps[j] := by simp [psAt, List.getD, hj]
theorem psAt_app {ps : List (List (List Int))} {q : List (List Int)} (j : Nat) : psAt (ps ++ [q]) j = if j < ps.length then psAt ps j else if j = ps.length then q else [] := by
  unfold psAt
  rw [List.getD_eq_getElem?_getD]
  by_cases h : j < ps.length
  · rw [if_pos h, List.getElem?_append_left h, ← List.getD_eq_getElem?_getD]
  · rw [if_neg h, List.getElem?_append_right (by omega)]
    by_cases h2 : j = ps.length
    · subst h2; rw [if_pos rfl]; simp
    · rw [if_neg h2, List.getElem?_eq_none (by simp; omega)]
      rfl
theorem info31_ : (Try.prog.info? 31).map (fun i => (i.zero, i.size, i.bytes)) = some (some (.slice none 0 0), 1, 24) := by kernel_rfl
/-- A row that holds a passage whose matches lie in the world w0. -/
def PgR (w0 W : World) (C : Option Addr) (q : List (List Int)) : Prop := ∃ vs, RwV w0 q vs ∧ (0 < q.length → ∃ b o, C = some ⟨b, o, none⟩ ∧ ∀ i u, vs[i]? = some u → W.cell? ⟨b, o + i, none⟩ = some u)
theorem PgR.lns {w0 W : World} {C : Option Addr} {q : List (List Int)} (h : PgR w0 W C q) (hb : Below w0.heap.size w0 W) : Lns W C q.length q := by
  obtain ⟨vs, h1, h2⟩ := h
  refine ⟨rfl, fun hq => ?_⟩
  obtain ⟨b, o, e, hc⟩ := h2 hq
  refine ⟨b, o, e, fun j hj => ?_⟩
  obtain ⟨C, c, q1, q2, q3⟩ := h1.2 j hj
  exact ⟨C, c, hc j _ q1, q2.below hb (Nat.le_refl _), q3⟩
theorem PgR.keep {w0 W W' : World} {C : Option Addr} {q : List (List Int)} {Mut : Nat → Prop} (h : PgR w0 W C q) (hK : Keeps Mut W W') (hm : ∀ b o, C = some ⟨b, o, none⟩ → ¬ Mut b) : PgR w0 W' C q := by
  obtain ⟨vs, h1, h2⟩ := h
  refine ⟨vs, h1, fun hq => ?_⟩
  obtain ⟨b, o, e, hc⟩ := h2 hq
  exact ⟨b, o, e, fun i u hi => (keep_cells hK (lt_of_cell (hc i u hi)) (hm b o e) _).trans (hc i u hi)⟩
/-- A list of passages that is built, with its rows, in the blocks of Z. -/
def PB (w0 W : World) (Z : Nat → Prop) (v : Value) (ps : List (List (List Int))) : Prop :=
  ∃ cs : List Value, W.ownsRow 0 31 1 v ps.length cs ∧ (∀ g, v.ownBlock = some g → Z g) ∧ ∀ j, j < ps.length → ∃ C cap, cs[j]? = some (.slice C (psAt ps j).length cap) ∧ (psAt ps j).length ≤ cap ∧ PgR w0 W C (psAt ps j) ∧
    ∀ b o, C = some ⟨b, o, none⟩ → Z b ∧ v.ownBlock ≠ some b
theorem PB.nil (w0 W : World) (Z : Nat → Prop) : PB w0 W Z (.slice none 0 0) [] := ⟨[], ⟨rfl, .inl ⟨rfl, rfl⟩⟩, fun g e => (by cases e), fun j hj => by simp at hj⟩
theorem PB.keep {w0 : World} {Z : Nat → Prop} {W W' : World} {v : Value} {ps : List (List (List Int))} {Mut : Nat → Prop} (h : PB w0 W Z v ps) (hK : Keeps Mut W W') (hm : ∀ k, Z k → ¬ Mut k) : PB w0 W' Z v ps := by
  obtain ⟨cs, h1, h2, h3⟩ := h
  refine ⟨cs, own_keep h1 hK (fun g e => hm g (h2 g e)), h2, fun j hj => ?_⟩
  obtain ⟨C, cap, q1, q2, q3, q4⟩ := h3 j hj
  exact ⟨C, cap, q1, q2, q3.keep hK (fun b o e => hm b (q4 b o e).1), q4⟩
theorem PB.mono {w0 W : World} {Z Z' : Nat → Prop} {v : Value} {ps : List (List (List Int))} (h : PB w0 W Z v ps) (hz : ∀ k, Z k → Z' k) : PB w0 W Z' v ps := by
  obtain ⟨cs, h1, h2, h3⟩ := h
  refine ⟨cs, h1, fun g e => hz g (h2 g e), fun j hj => ?_⟩
  obtain ⟨C, cap, q1, q2, q3, q4⟩ := h3 j hj
  exact ⟨C, cap, q1, q2, q3, fun b o e => ⟨hz b (q4 b o e).1, (q4 b o e).2⟩⟩
/-- What is read of a list of passages. -/
theorem PB.read {w0 W : World} {Z : Nat → Prop} {v : Value} {ps : List (List (List Int))} (h : PB w0 W Z v ps) : ∃ C cap, v = .slice C ps.length cap ∧ ps.length ≤ cap ∧ (0 < ps.length → ∃ b, C = some ⟨b, 0, none⟩ ∧
    ∀ j, j < ps.length → ∃ D c, W.cell? ⟨b, j, none⟩ = some (.slice D (psAt ps j).length c) ∧ PgR w0 W D (psAt ps j) ∧ (psAt ps j).length ≤ c) := by
  obtain ⟨cs, ho, _, hr⟩ := h
  rcases ho.2 with ⟨rfl, h0⟩ | ⟨g, cap, cur, rfl, hb, hg, hc, _, hsz, htake⟩
  · rw [h0]
    exact ⟨none, 0, rfl, Nat.le_refl _, fun h => by omega⟩
  · refine ⟨_, cap, rfl, hc, fun _ => ⟨g, rfl, fun j hj => ?_⟩⟩
    obtain ⟨C, c, q1, q2, q3, _⟩ := hr j hj
    refine ⟨C, c, ?_, q3, q2⟩
    rw [cell_row hg, ← Array.getElem?_toList, ← List.getElem?_take_of_lt (show j < ps.length * 1 by omega), htake]
    exact q1
theorem app_big {t e : TypeId} {size bytes : Nat} {z : Value} (ht : Try.prog.underlying t = some (.slice e)) (hinf : (Try.prog.info? e).map (fun i => (i.zero, i.size, i.bytes)) = some (some z, size, bytes)) (hzs : z.cells.size = size) (h0 : 0 < size) (hb : bytes ≤ 100)
    {W : World} {v : Value} {n T : Nat} {xs news : List Value} (h : W.ownsRow 0 e size v n xs) (hl : news.length = size) (hT : W.heap[T]? = some (.cells news.toArray e (0, 0))) (h1 : ∀ u ∈ news, u.oneCell' = true) (h63 : n + 1 ≤ 1400000000000) :
    ∃ v' W', runA Try.prog t v (.slice (some ⟨T, 0, none⟩) 1 1) W = .ok (.value v') W' ∧ W'.ownsRow 0 e size v' (n + 1) (xs ++ news) ∧ Keeps (fun j => v.ownBlock = some j) W W' ∧ (v'.ownBlock = v.ownBlock ∨ v'.ownBlock = some W.heap.size) := by
  obtain ⟨i, hif, hz, hs, hby⟩ := info_parts hinf
  have hb8 : (n + 1) * bytes ≤ 140737488355328 := Nat.le_trans (Nat.mul_le_mul h63 hb) (by omega)
  obtain ⟨v', W', q2, q3, q4, _, q5⟩ := run_append_own_at (P := Try.prog) W 0 t t e i _ size bytes ht hif hz hs hby hzs h0 v n xs h ⟨T, 0, none⟩ 1 1 news (by omega) (fun j u hj => by
      rw [Addr.add_lit, Nat.zero_add, cell_row hT, List.getElem?_toArray]
      exact hj) h1 (by unfold maxLen; omega) hb8 (Nat.zero_le _)
  exact ⟨v', W', run_app q2, q3, ⟨q4.os, q4.tape, q4.output, q4.size, fun k hk hmm => q4.block k hk (fun e => hmm e.symm)⟩, q5⟩
theorem PB.snoc {w0 : World} {B0 cap : Nat} {Z : Nat → Prop} {W : World} {v : Value} {ps : List (List (List Int))} {C : Option Addr} {q : List (List Int)} (h : PB w0 W Z v ps) (hZ : ∀ k, Z k → k < B0) (hq : PgR w0 W C q) (hC : ∀ b o, C = some ⟨b, o, none⟩ → B0 ≤ b ∧ b < W.heap.size) (hcap : q.length ≤ cap) (hn : ps.length ≤ 1300000000000) (hB : B0 ≤ W.heap.size) :
    ∃ C' c' W', runA Try.prog 101 v (.slice (some ⟨W.heap.size, 0, none⟩) 1 1) (W.alloc (.cells #[.slice C q.length cap] 31)) = .ok (.value (.slice C' (ps.length + 1) c')) W' ∧ PB w0 W' (fun k => Z k ∨ (B0 ≤ k ∧ k < W'.heap.size)) (.slice C' (ps.length + 1) c') (ps ++ [q]) ∧ Keeps Z W W' := by
  obtain ⟨cs, g1, g2, g3⟩ := h
  have hbT := below_alloc_ W (.cells #[.slice C q.length cap] 31)
  have hrT := heap_alloc_new_ W (.cells #[.slice C q.length cap] 31)
  have hkT := Keeps.of_new (Mut := fun _ => False) hbT
  have hsT : (W.alloc (.cells #[.slice C q.length cap] 31)).heap.size = W.heap.size + 1 := by simp
  obtain ⟨v', W', r2, o3, k2, d2⟩ := app_big (T := W.heap.size) (news := [.slice C q.length cap]) Try.underlying101 info31_ rfl (by omega) (by omega) (own_keep g1 hkT (fun _ _ e => e)) rfl hrT (fun u hu => by rw [List.mem_singleton.1 hu]; rfl) (by omega)
  obtain ⟨C', c', rfl⟩ : ∃ C' c', v' = .slice C' (ps.length + 1) c' := by
    rcases o3.2 with ⟨e, e2⟩ | ⟨g, cp, cur, e, _⟩
    · omega
    · exact ⟨_, _, e⟩
  have hlen : cs.length = ps.length := by have := g1.1; omega
  have hs2 := k2.size
  have hown' : ∀ g, (Value.slice C' (ps.length + 1) c').ownBlock = some g → v.ownBlock = some g ∨ g = W.heap.size + 1 ∧ g < W'.heap.size := fun g e => by
    rcases d2 with e' | e'
    · rw [e'] at e; exact .inl e
    · have h9 := own_lt o3 g e
      rw [e'] at e
      have := Option.some.inj e
      exact .inr ⟨by omega, h9⟩
  have hkW : Keeps Z W W' := hkT.none.trans (k2.mono (fun k _ e => g2 k e))
  refine ⟨C', c', W', r2, ⟨cs ++ [.slice C q.length cap], by rw [List.length_append]; exact o3, fun g e => ?_, fun j hj => ?_⟩, hkW⟩
  · rcases hown' g e with e | ⟨e, e2⟩
    · exact .inl (g2 g e)
    · exact .inr ⟨by omega, e2⟩
  · have hnew : ∀ b : Nat, b < W.heap.size → v.ownBlock ≠ some b → (Value.slice C' (ps.length + 1) c').ownBlock ≠ some b := fun b hb hv e => by
      rcases hown' b e with e | ⟨e, _⟩
      · exact hv e
      · omega
    rcases Nat.lt_or_ge j ps.length with hjl | hjl
    · obtain ⟨Y, cp, q1, q2, q3, q4⟩ := g3 j hjl
      have e1 : psAt (ps ++ [q]) j = psAt ps j := by rw [psAt_app, if_pos hjl]
      rw [e1]
      refine ⟨Y, cp, by rw [List.getElem?_append_left (by omega)]; exact q1, q2, (q3.keep hkT (fun _ _ _ e => e)).keep k2 (fun b o e => (q4 b o e).2), fun b o e => ?_⟩
      obtain ⟨s1, s2⟩ := q4 b o e
      have := hZ b s1
      exact ⟨.inl s1, hnew b (by omega) s2⟩
    · have hje : j = ps.length := by simp at hj; omega
      subst hje
      have e1 : psAt (ps ++ [q]) ps.length = q := by rw [psAt_app, if_neg (Nat.lt_irrefl _), if_pos rfl]
      rw [e1]
      have hne : ∀ b o, C = some ⟨b, o, none⟩ → v.ownBlock ≠ some b := fun b o e e2 => by have := hZ b (g2 b e2); have := (hC b o e).1; omega
      refine ⟨C, cap, by rw [List.getElem?_append_right (by omega), hlen]; simp, hcap, (hq.keep hkT (fun _ _ _ e => e)).keep k2 (fun b o e => hne b o e), fun b o e => ?_⟩
      have := hC b o e
      exact ⟨.inr ⟨this.1, by omega⟩, hnew b this.2 (hne b o e)⟩
/-- What is read of a list of passages, elsewhere. -/
def Pss (w : World) (C : Option Addr) (N : Nat) (ps : List (List (List Int))) : Prop := ps.length = N ∧ (0 < N → ∃ b, C = some ⟨b, 0, none⟩ ∧
    ∀ j, j < N → ∃ D c, w.cell? ⟨b, j, none⟩ = some (.slice D (psAt ps j).length c) ∧ Lns w D (psAt ps j).length (psAt ps j) ∧ (psAt ps j).length ≤ c)
theorem Pss.below {w w' : World} {C : Option Addr} {N B : Nat} {ps : List (List (List Int))} (h : Pss w C N ps) (hb : Below B w w') (hB : w.heap.size ≤ B) : Pss w' C N ps := ⟨h.1, fun hN => by
  obtain ⟨b, e, hc⟩ := h.2 hN
  refine ⟨b, e, fun j hj => ?_⟩
  obtain ⟨D, c, q1, q2, q3⟩ := hc j hj
  exact ⟨D, c, (hb.cell (p := ⟨b, j, none⟩) (Nat.lt_of_lt_of_le (lt_of_cell q1) hB)).trans q1, q2.below hb hB, q3⟩⟩
theorem PB.pss {w0 W : World} {Z : Nat → Prop} {v : Value} {ps : List (List (List Int))} (h : PB w0 W Z v ps) (hb : Below w0.heap.size w0 W) : ∃ C cap, v = .slice C ps.length cap ∧ Pss W C ps.length ps := by
  obtain ⟨C, cap, e, _, hr⟩ := h.read
  refine ⟨C, cap, e, rfl, fun hN => ?_⟩
  obtain ⟨b, e2, hc⟩ := hr hN
  refine ⟨b, e2, fun j hj => ?_⟩
  obtain ⟨D, c, q1, q2, q3⟩ := hc j hj
  exact ⟨D, c, q1, q2.lns hb, q3⟩
/-- The list with the empty passage alone. -/
theorem PB.one {w0 W : World} {E Q : Nat} (hQ : W.heap[Q]? = some (.cells #[.slice (some ⟨E, 0, none⟩) 0 0] 31 (0, 0))) (hne : Q ≠ E) : PB w0 W (fun _ => True) (.slice (some ⟨Q, 0, none⟩) 1 1) [[]] := by
  refine ⟨[.slice (some ⟨E, 0, none⟩) 0 0], ⟨rfl, .inr ⟨Q, 1, _, rfl, Nat.zero_le _, hQ, Nat.le_refl _, by unfold maxLen; omega, rfl, rfl⟩⟩, fun _ _ => trivial, fun j hj => ?_⟩
  obtain rfl : j = 0 := by simpa using hj
  refine ⟨some ⟨E, 0, none⟩, 0, rfl, Nat.le_refl _, ⟨[], ⟨rfl, fun j hj => by simp [psAt] at hj⟩, fun h => by simp [psAt] at h⟩, fun b o e => ?_⟩
  cases e
  exact ⟨trivial, fun e => hne (Option.some.inj e)⟩
/-- The next list, while it is built. -/
def NX (w1 wq W : World) (nx : Value) (qs : List (List (List Int))) : Prop := ∃ Z : Nat → Prop, PB w1 W Z nx qs ∧ (∀ k, Z k → wq.heap.size ≤ k ∧ k < W.heap.size) ∧ Below wq.heap.size wq W
theorem NX.nil (w1 wq : World) : NX w1 wq wq (.slice none 0 0) [] := ⟨fun _ => False, PB.nil _ _ _, fun k h => h.elim, Below.refl _ _⟩
theorem NX.below {w1 wq W : World} {nx : Value} {qs : List (List (List Int))} (h : NX w1 wq W nx qs) : Below wq.heap.size wq W := by obtain ⟨_, _, _, h⟩ := h; exact h
theorem NX.next {w1 wq W V : World} {nx : Value} {qs : List (List (List Int))} (h : NX w1 wq W nx qs) (hV : Below W.heap.size W V) : NX w1 wq V nx qs := by
  obtain ⟨Z, h1, h2, h3⟩ := h
  have := hV.size
  exact ⟨Z, h1.keep (Keeps.of_new (Mut := fun _ => False) hV) (fun _ _ e => e), fun k hk => by have := h2 k hk; omega, h3.trans (hV.mono h3.size)⟩
theorem NX.snoc {w1 wq W V : World} {nx : Value} {qs : List (List (List Int))} {C : Option Addr} {cap pl : Nat} {q : List (List Int)} (h : NX w1 wq W nx qs) (hV : Below W.heap.size W V) (hl : q.length = pl) (hq : PgR w1 V C q) (hC : ∀ b o, C = some ⟨b, o, none⟩ → W.heap.size ≤ b ∧ b < V.heap.size) (hcap : pl ≤ cap) (hn : qs.length ≤ 1300000000000) :
    ∃ C' c' V', runA Try.prog 101 nx (.slice (some ⟨V.heap.size, 0, none⟩) 1 1) (V.alloc (.cells #[.slice C pl cap] 31)) = .ok (.value (.slice C' (qs.length + 1) c')) V' ∧ NX w1 wq V' (.slice C' (qs.length + 1) c') (qs ++ [q]) := by
  obtain ⟨Z, h1, h2, h3⟩ := h
  subst hl
  have hk : Keeps (fun _ => False) W V := Keeps.of_new hV
  obtain ⟨C', c', V', r1, p1, k1⟩ := (h1.keep hk (fun _ _ e => e)).snoc (B0 := W.heap.size) (fun k h => (h2 k h).2) hq hC hcap hn hV.size
  have hs := h3.size
  have hs1 := k1.size
  have hs2 := hV.size
  refine ⟨C', c', V', r1, _, p1, fun k h => ?_, h3.trans ((hV.mono h3.size).trans (k1.below (by omega) (fun k hk e => by have := (h2 k e).1; omega)))⟩
  rcases h with h | h
  · have := h2 k h; omega
  · omega
/-- A row of matches that lie elsewhere, behind an empty one. -/
theorem app_psg {w1 W V : World} {Z c2 : Nat} {C : Option Addr} {q : List (List Int)} (h : PgR w1 W C q) (hV : Below W.heap.size W V) (hown : V.ownsRow 0 40 1 (.slice (some ⟨Z, 0, none⟩) 0 0) 0 []) (hq : q.length ≤ 1000) :
    ∃ v vs V', runA Try.prog 31 (.slice (some ⟨Z, 0, none⟩) 0 0) (.slice C q.length c2) V = .ok (.value v) V' ∧ RwV w1 q vs ∧ V'.ownsRow 0 40 1 v (0 + q.length) ([] ++ vs) ∧ Keeps (fun j => (Value.slice (some ⟨Z, 0, none⟩) 0 0).ownBlock = some j) V V' ∧ (v.ownBlock = (Value.slice (some ⟨Z, 0, none⟩) 0 0).ownBlock ∨ v.ownBlock = some V.heap.size) := by
  obtain ⟨vs, h1, h2⟩ := h
  obtain ⟨v, V', a, b, c, d⟩ := app_own (c2 := c2) (A2 := C) (m := q.length) (news := vs) Try.underlying31 info40_ rfl (by omega) (by omega) hown (by rw [h1.1]; omega) (fun h0 => by
    obtain ⟨b, o, e, hc⟩ := h2 h0
    exact ⟨b, o, e, fun j u hj => (hV.cell (p := ⟨b, o + j, none⟩) (lt_of_cell (hc j u hj))).trans (hc j u hj)⟩) (fun u hu => by
    obtain ⟨j, hj, rfl⟩ := List.getElem_of_mem hu
    obtain ⟨C, c, q1, _⟩ := h1.2 j (by rw [← h1.1]; exact hj)
    rw [List.getElem?_eq_getElem hj] at q1
    rw [Option.some.inj q1]; rfl) (by omega)
  exact ⟨v, vs, V', a, h1, b, c, d⟩
/-- One match more behind it. -/
theorem app_psg1 {w1 V : World} {v : Value} {n T c : Nat} {vs : List Value} {C : Option Addr} {q : List (List Int)} {x : List Int} (hown : V.ownsRow 0 40 1 v n ([] ++ vs)) (hv : RwV w1 q vs) (hT : V.heap[T]? = some (.cells #[.slice C x.length c] 40 (0, 0))) (hi : Ints w1 C x.length x) (hc : x.length ≤ c) (hn : n ≤ 1000) :
    ∃ v' V', runA Try.prog 31 v (.slice (some ⟨T, 0, none⟩) 1 1) V = .ok (.value v') V' ∧ V'.ownsRow 0 40 1 v' (n + 1) (vs ++ [.slice C x.length c]) ∧ Keeps (fun j => v.ownBlock = some j) V V' ∧ (v'.ownBlock = v.ownBlock ∨ v'.ownBlock = some V.heap.size) := by
  rw [List.nil_append] at hown
  exact app_big Try.underlying31 info40_ rfl (by omega) (by omega) hown rfl hT (fun u hu => by rw [List.mem_singleton.1 hu]; rfl) (by omega)
theorem pgr_own {w1 W : World} {v : Value} {n : Nat} {vs : List Value} {q : List (List Int)} (h : W.ownsRow 0 40 1 v n vs) (hv : RwV w1 q vs) (hl : q.length = n) : ∃ C cap, v = .slice C n cap ∧ n ≤ cap ∧ PgR w1 W C q ∧ (∀ b o, C = some ⟨b, o, none⟩ → v.ownBlock = some b ∧ o = 0) := by
  rcases h.2 with ⟨rfl, h0⟩ | ⟨g, cap, cur, rfl, hb, hg, hc, _, hsz, htake⟩
  · subst h0
    exact ⟨none, 0, rfl, Nat.le_refl _, ⟨vs, hv, fun h => by omega⟩, by intro b o e; cases e⟩
  · refine ⟨_, cap, rfl, hc, ⟨vs, hv, fun _ => ⟨g, 0, rfl, fun i u hi => ?_⟩⟩, by rintro b o e; cases e; exact ⟨rfl, rfl⟩⟩
    have hi2 : i < vs.length := (List.getElem?_eq_some_iff.1 hi).1
    rw [Nat.zero_add, cell_row hg, ← Array.getElem?_toList, ← List.getElem?_take_of_lt (show i < n * 1 by rw [hv.1] at hi2; omega), htake]
    exact hi
def ltM (m : Nat) : List Int → List Int → Bool := fun a b => befB a b m
theorem ext_at {m : Nat} (p : List (List Int)) (x : List Int) : ext (ltM m) p x = (decide (p.length = 0) || befB (lAt p (p.length - 1)) x m) := by
  unfold ext ltM
  rcases List.eq_nil_or_concat p with rfl | ⟨q, y, rfl⟩
  · rfl
  · rw [List.concat_eq_append]
    have e : lAt (q ++ [y]) ((q ++ [y]).length - 1) = y := by
      rw [lAt_app rfl]
      simp
    rw [e]
    simp
/-- The chains that are longer by one, of the first i chains, and of the next one by the first k matches. -/
def stepK (l : List (List Int)) (m : Nat) (p : List (List Int)) (k : Nat) : List (List (List Int)) := ((l.take k).filter (ext (ltM m) p)).map fun x => p ++ [x]
def stepI (l : List (List Int)) (m : Nat) (ps : List (List (List Int))) (i : Nat) : List (List (List Int)) := (ps.take i).flatMap fun p => stepK l m p l.length
theorem stepK_zero (l : List (List Int)) (m : Nat) (p : List (List Int)) : stepK l m p 0 = [] := by simp [stepK]
theorem stepK_succ {l : List (List Int)} {m : Nat} {p : List (List Int)} {k : Nat} (hk : k < l.length) : stepK l m p (k + 1) = stepK l m p k ++ (if ext (ltM m) p (lAt l k) = true then [p ++ [lAt l k]] else []) := by
  unfold stepK
  rw [List.take_succ_eq_append_getElem hk, List.filter_append, List.map_append, lAt_eq hk]
  by_cases h : ext (ltM m) p l[k] = true
  · rw [if_pos h]; simp [h]
  · rw [if_neg h]; simp [h]
theorem stepI_zero (l : List (List Int)) (m : Nat) (ps : List (List (List Int))) : stepI l m ps 0 = [] := by simp [stepI]
theorem stepI_succ {l : List (List Int)} {m : Nat} {ps : List (List (List Int))} {i : Nat} (hi : i < ps.length) : stepI l m ps (i + 1) = stepI l m ps i ++ stepK l m (psAt ps i) l.length := by
  unfold stepI
  rw [List.take_succ_eq_append_getElem hi, List.flatMap_append, psAt_eq hi]
  simp
theorem stepI_all (l : List (List Int)) (m s : Nat) : stepI l m (chs l (ltM m) s) (chs l (ltM m) s).length = chs l (ltM m) (s + 1) := by
  unfold stepI
  rw [List.take_length]
  show _ = (chs l (ltM m) s).flatMap fun p => (l.filter (ext (ltM m) p)).map fun x => p ++ [x]
  unfold stepK
  rw [List.take_length]
theorem topK_le9 {nm : List Int} {L : List (List Int)} {m : Nat} (hL : LV L m) : topK nm L m ≤ 9 := by
  have := all_nn (nm := nm) hL
  unfold topK
  omega
theorem chs_up {α : Type} {l : List α} {lt : α → α → Bool} {s : Nat} (h : chs l lt s = []) : ∀ d, chs l lt (s + d) = []
  | 0 => h
  | d + 1 => by
    show ((chs l lt (s + d)).flatMap fun p => (l.filter (ext lt p)).map fun x => p ++ [x]) = []
    rw [chs_up h d]
    rfl
theorem stepK_len (l : List (List Int)) (m : Nat) (p : List (List Int)) (k : Nat) : (stepK l m p k).length ≤ l.length := by
  unfold stepK
  rw [List.length_map]
  exact Nat.le_trans (List.length_filter_le ..) (by rw [List.length_take]; omega)
theorem stepI_len (l : List (List Int)) (m : Nat) (ps : List (List (List Int))) (i : Nat) : (stepI l m ps i).length ≤ ps.length * l.length := by
  unfold stepI
  refine Nat.le_trans (fm_len _ _ l.length fun p _ => stepK_len l m p _) (Nat.mul_le_mul_right _ (by rw [List.length_take]; omega))
theorem chs_bound {l : List (List Int)} {m : Nat} (hl : l.length ≤ 16) : ∀ s, (chs l (ltM m) s).length ≤ 16 ^ s
  | 0 => by simp [chs]
  | s + 1 => by
    rw [← stepI_all]
    exact Nat.le_trans (stepI_len ..) (Nat.le_trans (Nat.mul_le_mul (chs_bound hl s) hl) (by rw [Nat.pow_succ]; exact Nat.le_refl _))
/-- The chains of matches as they are answered. -/
theorem chs_map {l : List (List Int)} {m : Nat} : ∀ s, chs (l.map (·.take m)) (ltM m) s = (chs l (bef m) s).map (List.map (·.take m))
  | 0 => rfl
  | s + 1 => by
    show ((chs (l.map (·.take m)) (ltM m) s).flatMap fun p => ((l.map (·.take m)).filter (ext (ltM m) p)).map fun x => p ++ [x]) = ((chs l (bef m) s).flatMap fun p => (l.filter (ext (bef m) p)).map fun x => p ++ [x]).map (List.map (·.take m))
    rw [chs_map s, List.flatMap_map, List.map_flatMap]
    congr 1
    funext p
    rw [List.map_map, List.filter_map, List.map_map]
    have e : ∀ x, ext (ltM m) (p.map (·.take m)) (x.take m) = ext (bef m) p x := fun x => by
      rcases List.eq_nil_or_concat p with rfl | ⟨q, y, rfl⟩
      · rfl
      · rw [List.concat_eq_append, List.map_append]
        unfold ext ltM bef
        simp
        exact befB_take
    have e2 : (ext (ltM m) (p.map (·.take m))) ∘ (fun x : List Int => x.take m) = ext (bef m) p := funext e
    rw [e2]
    refine List.map_congr_left fun x _ => ?_
    simp
end Go.Proofs.Ythdjbapidodlfaa
namespace Go.Proofs.Ythdjbapidodlfaa
set_option linter.unusedSimpArgs false
set_option linter.unusedVariables false
open Go.RowKit Go.Shelf
attribute [local go_sem ↓] exec_app at_app
attribute [local go_sem] Oper.semAt_some
end Go.Proofs.Ythdjbapidodlfaa
namespace Go.Proofs.Ythdjbapidodlfaa
set_option linter.unusedSimpArgs false
set_option linter.unusedVariables false
open Go.RowKit Go.Shelf
attribute [local go_sem ↓] exec_app at_app
attribute [local go_sem] Oper.semAt_some
end Go.Proofs.Ythdjbapidodlfaa
namespace Go.Proofs.Ythdjbapidodlfaa
set_option linter.unusedSimpArgs false
set_option linter.unusedVariables false
open Go.RowKit Go.Shelf
attribute [local go_sem ↓] exec_app at_app
attribute [local go_sem] Oper.semAt_some
def hasB (l : List (List Int)) (q : List Int) : Bool := l.any fun x => decide (x = q)
def nonK (l : List (List Int)) (q : List Int) (k : Nat) : Bool := (l.take k).all fun x => !decide (x = q)
theorem hasB_non {l : List (List Int)} {q : List Int} (h : nonK l q l.length = true) : hasB l q = false := by
  unfold nonK at h
  rw [List.take_of_length_le (Nat.le_refl _)] at h
  unfold hasB
  rw [List.any_eq_false]
  intro x hx
  have := List.all_eq_true.1 h x hx
  simpa using this
theorem hasB_at {l : List (List Int)} {q : List Int} {k : Nat} (hk : k < l.length) (h : lAt l k = q) : hasB l q = true := by
  unfold hasB
  rw [List.any_eq_true]
  exact ⟨l[k], List.getElem_mem hk, by rw [lAt_eq hk] at h; simpa using h⟩
set_option maxRecDepth 100000 in
set_option maxHeartbeats 8000000 in
theorem has42 (A : Option Addr) (N c : Nat) (l : List (List Int)) (A2 : Option Addr) (n2 c2 : Nat) (q : List Int) (w : World) (h : Lns w A N l) (hq : Ints w A2 n2 q) (hl : ∀ j, j < N → (lAt l j).length ≤ 1000) (hN : N ≤ 100000) :
    Calls Try.prog 42 #[.slice A N c, .slice A2 n2 c2] w fun e w' => e = .returned (.bool (hasB l q)) ∧ Below w.heap.size w w' := by
  have H := Lib.hid h
  have HQ := Lib.hid hq
  have Hl := Lib.hid hl
  have HNl := Lib.hid h.1
  clear h hq hl
  go_enter Try.func42, Try.ntmps42
  go_wp2_with fail
  go_loopw [5] (fun i wr => ∃ k : Nat, k ≤ N ∧ i = .int .i64 (k : Int) ∧ Hid (nonK l q k = true) ∧ Hid (Below w.heap.size w wr)) (fun i _ => N - (intOf i).toNat)
  case atStart => exact ⟨0, Nat.zero_le _, rfl, Lib.hid rfl, Lib.hid (Below.refl _ _)⟩
  case round =>
    obtain ⟨k, hk, rfl, HT, HBl⟩ := hrel
    by_cases hlt : k < N
    · obtain ⟨b, o, rfl, hc⟩ := H.out.2 (by omega)
      obtain ⟨C, cq, x0, xI, -⟩ := hc k hlt
      have hle := Hl.out k hlt
      replace x0 := (HBl.out.cell (p := ⟨b, o + k, none⟩) (lt_of_cell x0)).trans x0
      have hkl : k < l.length := by have := HNl.out; omega
      have Hs := Lib.hid (all_take (fun x => !decide (x = q)) l k [] hkl)
      have key := same57 C (lAt l k).length cq (lAt l k) A2 n2 c2 q wr (xI.below HBl.out (Nat.le_refl _)) (HQ.out.below HBl.out (Nat.le_refl _)) hle
      have Hat := Lib.hid (fun e => hasB_at (q := q) hkl e)
      have Hnn := Lib.hid (show nonK l q (k + 1) = (nonK l q k && !decide (lAt l k = q)) from Hs.out)
      obtain ⟨x, hx⟩ : ∃ x, lAt l k = x := ⟨_, rfl⟩
      rw [hx] at x0 key Hat Hnn
      rw [HT.out, Bool.true_and] at Hnn
      obtain ⟨ll, hll⟩ : ∃ ll, x.length = ll := ⟨_, rfl⟩
      rw [hll] at x0 key
      have i0 : (0 : Int) ≤ (k : Int) := by omega
      have i1 : (k : Int) < (N : Int) := by omega
      clear hc xI hx hle hll HT Hs hkl
      by_cases hxq : x = q
      · rw [decide_eq_true hxq] at key
        have HC := Lib.hid (Hat.out hxq)
        clear hxq Hat Hnn
        go_wp2_with fail
        refine key.mono ?_
        rintro e V ⟨rfl, hV⟩
        have HBn := Lib.hid (HBl.out.trans (hV.mono HBl.out.size))
        clear hV key
        go_wp2_with fail
        go_ret
        exact ⟨by rw [HC.out]; rfl, HBn.out⟩
      · rw [decide_eq_false hxq] at key Hnn
        clear hxq Hat
        go_wp2_with fail
        refine key.mono ?_
        rintro e V ⟨rfl, hV⟩
        have HBn := Lib.hid (HBl.out.trans (hV.mono HBl.out.size))
        clear hV key
        go_wp2_with fail
        go_roundw
        case rel => exact ⟨k + 1, by omega, by go_num, Lib.hid Hnn.out, HBn⟩
        case measure => simp [intOf]; omega
    · obtain rfl : k = N := by omega
      have HC := Lib.hid (show hasB l q = false from hasB_non (by rw [HNl.out]; exact HT.out))
      clear HT
      go_wp2_with fail
      go_ret
      exact ⟨by rw [HC.out]; rfl, HBl.out⟩
end Go.Proofs.Ythdjbapidodlfaa
namespace Go.Proofs.Ythdjbapidodlfaa
set_option linter.unusedSimpArgs false
set_option linter.unusedVariables false
open Go.RowKit Go.Shelf
attribute [local go_sem ↓] exec_app at_app
attribute [local go_sem] Oper.semAt_some
end Go.Proofs.Ythdjbapidodlfaa
namespace Go.Proofs.Ythdjbapidodlfaa
set_option linter.unusedSimpArgs false
set_option linter.unusedVariables false
open Go.RowKit Go.Shelf
/-- A match is certain that all longest passages have. -/
theorem mem_crt {nm : List Int} {L : List (List Int)} {m : Nat} (hL : LV L m) (x : List Int) : x ∈ crtS nm L m (mtS nm L) ↔ x ∈ mtS nm L ∧ ∀ q ∈ lngS nm L m, x ∈ q := by
  unfold crtS
  rw [List.mem_filter, decide_eq_true_eq]
  refine and_congr_right fun hx => ?_
  have hne : mtS nm L ≠ [] := fun e => by rw [e] at hx; cases hx
  rw [shS_nE hL hx, ← lng_len hL hne]
  have h1 := sumN_full (l := lngS nm L m) (p := fun q => x ∈ q)
  have e : nE (mtS nm L) (bef m) (topK nm L m) x = sumN (lngS nm L m) (fun q => if x ∈ q then 1 else 0) := by
    unfold nE lngS
    exact sumN_congr (fun q _ => by by_cases h : x ∈ q <;> simp [h])
  rw [e]
  constructor
  · intro h
    exact h1.1 (by omega)
  · intro h
    have h2 := h1.2 h
    omega
end Go.Proofs.Ythdjbapidodlfaa
namespace Go.Proofs.Ythdjbapidodlfaa
set_option linter.unusedSimpArgs false
set_option linter.unusedVariables false
open Go.RowKit Go.Shelf
/-- One of the first k matches has the index ii at the hearer h. -/
def hrsB (p : List (List Int)) (h : Nat) (ii : Int) (k : Nat) : Bool := (List.range k).any fun j => decide (iAt (lAt p j) h = ii)
theorem hrsB_succ (p : List (List Int)) (h : Nat) (ii : Int) (k : Nat) : hrsB p h ii (k + 1) = (hrsB p h ii k || decide (iAt (lAt p k) h = ii)) := by simp [hrsB, List.range_succ]
theorem hrsB_stop {p : List (List Int)} {h : Nat} {ii : Int} {k n : Nat} (he : iAt (lAt p k) h = ii) (hk : k < n) : hrsB p h ii n = true := by
  unfold hrsB
  rw [List.any_eq_true]
  exact ⟨k, List.mem_range.2 hk, decide_eq_true he⟩
section
attribute [local go_sem ↓] exec_app at_app
attribute [local go_sem] Oper.semAt_some
set_option maxRecDepth 100000 in
set_option maxHeartbeats 40000000 in
theorem hears43 (A : Option Addr) (N c : Nat) (p : List (List Int)) (h : Nat) (ii : Int) (w : World) (hp : Lns w A N p) (hh : ∀ j, j < N → h < (lAt p j).length) (hN : N ≤ 100000) (h9 : h ≤ 1000) :
    Calls Try.prog 43 #[.slice A N c, .int .i64 (h : Int), .int .i64 ii] w fun e w' => e = .returned (.bool (hrsB p h ii N)) ∧ Below w.heap.size w w' := by
  have HP := Lib.hid hp
  have HH := Lib.hid hh
  clear hp hh
  go_enter Try.func43, Try.ntmps43
  go_wp2_with fail
  go_loopw [7] (fun i wr => ∃ k : Nat, k ≤ N ∧ i = .int .i64 (k : Int) ∧ Hid (hrsB p h ii k = false ∧ Below w.heap.size w wr)) (fun i _ => N - (intOf i).toNat)
  case atStart => exact ⟨0, Nat.zero_le _, rfl, Lib.hid ⟨rfl, Below.refl _ _⟩⟩
  case round =>
    obtain ⟨k, hk, rfl, HI⟩ := hrel
    obtain ⟨wk, rfl⟩ : ∃ wk, wk = wr := ⟨_, rfl⟩
    have HB := Lib.hid HI.out.2
    have HF := Lib.hid HI.out.1
    clear HI
    by_cases hlt : k < N
    · obtain ⟨b, o, rfl, hc⟩ := (HP.out.below HB.out (Nat.le_refl _)).2 (by omega)
      obtain ⟨C, c1, x0, hi, -⟩ := hc k hlt
      have hhk := HH.out k hlt
      obtain ⟨b2, o2, rfl, hc2⟩ := hi.2 (by omega)
      have y0 := hc2 h hhk
      have Hs := Lib.hid (hrsB_succ p h ii k)
      obtain ⟨ll, hll⟩ : ∃ ll, (lAt p k).length = ll := ⟨_, rfl⟩
      rw [hll] at x0 hhk
      obtain ⟨v, hv⟩ : ∃ v, iAt (lAt p k) h = v := ⟨_, rfl⟩
      rw [hv] at y0 Hs
      have Hv := Lib.hid hv
      have i0 : (0 : Int) ≤ (k : Int) := by omega
      have i1 : (k : Int) < (N : Int) := by omega
      have i2 : (0 : Int) ≤ (h : Int) := by omega
      have i3 : (h : Int) < (ll : Int) := by omega
      clear hc hi hc2 hll hv
      by_cases he : v = ii
      · have HR := Lib.hid (hrsB_stop (p := p) (h := h) (ii := ii) (n := N) (by rw [Hv.out]; exact he) hlt)
        have de : (v == ii) = true := by rw [beq_iff_eq]; exact he
        clear he
        go_wp2_with fail
        go_ret
        exact ⟨by rw [HR.out]; rfl, HB.out⟩
      · have HR := Lib.hid (show hrsB p h ii (k + 1) = false by rw [Hs.out, HF.out, decide_eq_false he]; rfl)
        have de : (v == ii) = false := by rw [beq_eq_false_iff_ne]; exact he
        clear he
        go_wp2_with fail
        go_roundw
        case rel => exact ⟨k + 1, by omega, by go_num, Lib.hid ⟨HR.out, HB.out⟩⟩
        case measure => simp [intOf]; omega
    · obtain rfl : k = N := by omega
      go_wp2_with fail
      go_ret
      exact ⟨by rw [HF.out]; rfl, HB.out⟩
end
end Go.Proofs.Ythdjbapidodlfaa
namespace Go.Proofs.Ythdjbapidodlfaa
set_option linter.unusedSimpArgs false
set_option linter.unusedVariables false
open Go.RowKit Go.Shelf
/-- One of the longest passages, as it is answered. -/
def Lg (nm : List Int) (L : List (List Int)) (m : Nat) (p : List (List Int)) : Prop := ∃ q ∈ lngS nm L m, p = q.map (·.take m)
theorem hasB_mem {l : List (List Int)} {x : List Int} (h : x ∈ l) : hasB l x = true := by
  unfold hasB
  rw [List.any_eq_true]
  exact ⟨x, h, decide_eq_true rfl⟩
theorem hrs_hr {q : List (List Int)} {m h : Nat} (hh : h < m) (i : Nat) : hrsB (q.map (·.take m)) h (i : Int) q.length = hrQ h i q := by
  rw [Bool.eq_iff_iff]
  unfold hrsB hrQ
  rw [List.any_eq_true, List.any_eq_true]
  constructor
  · rintro ⟨j, hj, he⟩
    rw [List.mem_range] at hj
    rw [lAt_take, lAt_eq hj, iAt_take2 hh] at he
    exact ⟨_, List.getElem_mem hj, he⟩
  · rintro ⟨x, hx, he⟩
    obtain ⟨j, hj, rfl⟩ := List.getElem_of_mem hx
    exact ⟨j, List.mem_range.2 hj, by rw [lAt_take, lAt_eq hj, iAt_take2 hh]; exact he⟩
theorem topK_le {nm : List Int} {L : List (List Int)} {m : Nat} (hL : LV L m) : topK nm L m ≤ 9 := by
  have := all_nn (nm := nm) hL
  unfold topK
  omega
end Go.Proofs.Ythdjbapidodlfaa
namespace Go.Proofs.Ythdjbapidodlfaa
set_option linter.unusedSimpArgs false
set_option linter.unusedVariables false
open Go.RowKit Go.Shelf
/-- All longest passages, as they are answered. -/
def aLp (nm : List Int) (L : List (List Int)) (m : Nat) : List (List (List Int)) := (lngS nm L m).map (List.map (·.take m))
section
variable {nm : List Int} {L : List (List Int)} {m : Nat}
theorem aLp_len : (aLp nm L m).length = (lngS nm L m).length := List.length_map ..
theorem aLp_pos (hL : LV L m) : 0 < (aLp nm L m).length := by rw [aLp_len]; exact List.length_pos_of_mem (fst_lng hL)
theorem aLp_head (hL : LV L m) : psAt (aLp nm L m) 0 = (fstS nm L m (mtS nm L)).map (·.take m) := by
  have h := grd_first (mtS_nodup (nm := nm) hL) (bef_irr hL) (mtS_sorted hL) (lev_ok hL) (bS_lev hL) (top_ok hL)
  have h2 : (lngS nm L m).head? = some (fstS nm L m (mtS nm L)) := h
  unfold psAt aLp
  rcases e : lngS nm L m with _ | ⟨q, t⟩
  · rw [e] at h2; cases h2
  · rw [e] at h2
    rw [← Option.some.inj h2]
    rfl
theorem aLp_mem (j : Nat) (hj : j < (aLp nm L m).length) : Lg nm L m (psAt (aLp nm L m) j) := by
  rw [psAt_eq hj]
  obtain ⟨q, hq, e⟩ := List.mem_map.1 (List.getElem_mem hj)
  exact ⟨q, hq, e.symm⟩
theorem lg_lens (hL : LV L m) {p : List (List Int)} (h : Lg nm L m p) : p.length ≤ 9 ∧ ∀ j, j < p.length → (lAt p j).length = m := by
  obtain ⟨q, hq, rfl⟩ := h
  have h1 := (mem_lng hL).1 hq
  refine ⟨by rw [List.length_map, h1.2.2]; exact topK_le hL, fun j hj => ?_⟩
  rw [List.length_map] at hj
  rw [lAt_take, List.length_take, lAt_eq hj, (mtS_len hL).2 _ (h1.2.1 _ (List.getElem_mem hj))]
  have := hL.hi
  omega
theorem take_inj (hL : LV L m) {x y : List Int} (hx : x ∈ mtS nm L) (hy : y ∈ mtS nm L) (h : x.take m = y.take m) : x = y := by
  have ox := (mem_mtS hL x).1 hx
  have oy := (mem_mtS hL y).1 hy
  refine list_iAt (by rw [ox.len, oy.len]) fun i hi => ?_
  by_cases hm : i < m
  · rw [← iAt_take2 (x := x) hm, h, iAt_take2 hm]
  · rw [ox.zero i (by omega), oy.zero i (by omega)]
/-- All of the first k passages have a match. -/
def allB (ps : List (List (List Int))) (x : List Int) (k : Nat) : Bool := (ps.take k).all fun p => hasB p x
theorem allB_zero (ps : List (List (List Int))) (x : List Int) : allB ps x 0 = true := by simp [allB]
theorem allB_succ {ps : List (List (List Int))} {x : List Int} {k : Nat} (hk : k < ps.length) : allB ps x (k + 1) = (allB ps x k && hasB (psAt ps k) x) := by
  unfold allB
  rw [List.take_succ_eq_append_getElem hk, List.all_append, psAt_eq hk]
  simp
def filK (ps : List (List (List Int))) (l : List (List Int)) (i : Nat) : List (List Int) := (l.take i).filter fun x => allB ps x ps.length
theorem filK_zero (ps : List (List (List Int))) (l : List (List Int)) : filK ps l 0 = [] := by simp [filK]
theorem filK_succ {ps : List (List (List Int))} {l : List (List Int)} {i : Nat} (hi : i < l.length) : filK ps l (i + 1) = filK ps l i ++ (if allB ps (lAt l i) ps.length = true then [lAt l i] else []) := by
  unfold filK
  rw [List.take_succ_eq_append_getElem hi, List.filter_append, lAt_eq hi]
  by_cases h : allB ps l[i] ps.length = true
  · rw [if_pos h]; simp [h]
  · rw [if_neg h]; simp [h]
theorem filK_len (ps : List (List (List Int))) (l : List (List Int)) (i : Nat) : (filK ps l i).length ≤ i := by
  unfold filK
  exact Nat.le_trans (List.length_filter_le ..) (by rw [List.length_take]; omega)
theorem crt_doc (hL : LV L m) : filK (aLp nm L m) ((mtS nm L).map (·.take m)) ((mtS nm L).map (·.take m)).length = (crtS nm L m (mtS nm L)).map (·.take m) := by
  unfold filK
  rw [List.take_length, List.filter_map]
  unfold crtS
  congr 1
  refine List.filter_congr fun x hx => ?_
  have h1 := mem_crt hL (nm := nm) x
  unfold crtS at h1
  rw [List.mem_filter] at h1
  rw [Bool.eq_iff_iff]
  have h2 : decide (shS nm L m x = (allK (mtS nm L) m).2) = true ↔ ∀ q ∈ lngS nm L m, x ∈ q := ⟨fun h => (h1.1 ⟨hx, h⟩).2, fun h => (h1.2 ⟨hx, h⟩).2⟩
  rw [h2]
  simp only [Function.comp]
  unfold allB
  rw [List.take_length, List.all_eq_true]
  constructor
  · intro h q hq
    have h3 := h _ (List.mem_map.2 ⟨q, hq, rfl⟩)
    unfold hasB at h3
    rw [List.any_eq_true] at h3
    obtain ⟨y, hy, e⟩ := h3
    obtain ⟨z, hz, rfl⟩ := List.mem_map.1 hy
    have hzm := ((mem_lng hL).1 hq).2.1 z hz
    rw [← take_inj hL hzm hx (of_decide_eq_true e)]
    exact hz
  · intro h p hp
    obtain ⟨q, hq, rfl⟩ := List.mem_map.1 hp
    exact hasB_mem (List.mem_map.2 ⟨x, h q hq, rfl⟩)
/-- How many of the first k passages hear a word. -/
def cnH (ps : List (List (List Int))) (h i k : Nat) : Nat := (ps.take k).countP fun p => hrsB p h (i : Int) p.length
theorem cnH_zero (ps : List (List (List Int))) (h i : Nat) : cnH ps h i 0 = 0 := by simp [cnH]
theorem cnH_succ {ps : List (List (List Int))} {h i k : Nat} (hk : k < ps.length) : cnH ps h i (k + 1) = cnH ps h i k + if hrsB (psAt ps k) h (i : Int) (psAt ps k).length = true then 1 else 0 := by
  unfold cnH
  rw [List.take_succ_eq_append_getElem hk, List.countP_append, psAt_eq hk]
  by_cases e : hrsB ps[k] h (i : Int) ps[k].length = true <;> simp [e]
theorem cnH_le (ps : List (List (List Int))) (h i k : Nat) : cnH ps h i k ≤ ps.length := by
  unfold cnH
  exact Nat.le_trans List.countP_le_length (by rw [List.length_take]; omega)
def grD (many all : Nat) : Int := if many = 0 then 0 else if many < all then 1 else 2
theorem countP_sumN {α : Type} (l : List α) (p : α → Bool) : l.countP p = sumN l fun x => if p x = true then 1 else 0 := by
  induction l with
  | nil => rfl
  | cons a t ih => rw [List.countP_cons, sumN_cons, ih, Nat.add_comm]
theorem gr_doc (hL : LV L m) {h i : Nat} (hh : h < m) (hi : i < (lAt L h).length) : iAt (grS nm L m h) i = grD (cnH (aLp nm L m) h i (aLp nm L m).length) (aLp nm L m).length := by
  have e1 : cnH (aLp nm L m) h i (aLp nm L m).length = sumN (lngS nm L m) fun q => if hrQ h i q = true then 1 else 0 := by
    unfold cnH
    rw [List.take_length, countP_sumN]
    unfold aLp
    rw [sumN_map]
    exact sumN_congr fun q _ => by rw [List.length_map, hrs_hr hh]
  rw [e1, grS_at hi, sm_hear hL hh, aLp_len]
  have hle : (sumN (lngS nm L m) fun q => if hrQ h i q = true then 1 else 0) ≤ (lngS nm L m).length := by
    rw [← sumN_one]
    exact sumN_le fun q _ => by split <;> omega
  obtain ⟨s, hs⟩ : ∃ s, (sumN (lngS nm L m) fun q => if hrQ h i q = true then 1 else 0) = s := ⟨_, rfl⟩
  rw [hs] at hle ⊢
  unfold grV grD
  by_cases h0 : s = 0
  · rw [if_pos (by omega), if_pos h0]
  · rw [if_neg (by omega), if_neg h0]
    have hne : mtS nm L ≠ [] := fun e => by
      apply h0
      rw [← hs]
      refine (sumN_congr (g := fun _ => 0) fun q hq => ?_).trans (sumN_zero _)
      have h2 := ((mem_lng hL).1 hq).2.1
      have hq0 : q = [] := List.eq_nil_iff_forall_not_mem.2 fun x hx => by have := h2 x hx; rw [e] at this; cases this
      rw [hq0]
      rfl
    rw [← lng_len hL hne]
    by_cases h1 : s < (lngS nm L m).length
    · rw [if_pos h1, if_neg (by omega)]
    · rw [if_neg h1, if_pos (by omega)]
end
end Go.Proofs.Ythdjbapidodlfaa
namespace Go.Proofs.Ythdjbapidodlfaa
set_option linter.unusedSimpArgs false
set_option linter.unusedVariables false
open Go.RowKit Go.Shelf
/-- Dictionary and lines are not too great, they are valid, and have more than so many matches. -/
def dnB (n : Nat) (zs : List Rg) (L : List (List Int)) (most : Int) : Bool := !grtB n L && decide (chkL zs L = 0) && decide (most < ((mtS (cls (prs zs)) L).length : Int))
section
attribute [local go_sem ↓] exec_app at_app
attribute [local go_sem] Oper.semAt_some
set_option maxRecDepth 100000 in
set_option maxHeartbeats 4000000 in
theorem dense24 (A : Option Addr) (n cap : Nat) (zs : List Rg) (A2 : Option Addr) (m cap2 : Nat) (L : List (List Int)) (most : Int) (w : World) (h : Rgs w A n zs) (hL : Lns w A2 m L) :
    Calls Try.prog 24 #[.agg #[.slice A n cap], .slice A2 m cap2, .int .i64 most] w fun e w' => e = .returned (.bool (dnB n zs L most)) ∧ Below w.heap.size w w' := by
  have Hlen := Lib.hid hL.1
  have hb0 := below_alloc_ w (.cells #[.slice A n cap] 24)
  have hr0 := heap_alloc_new_ w (.cells #[.slice A n cap] 24)
  obtain ⟨W0, hW0⟩ : ∃ W0, w.alloc (.cells #[.slice A n cap] 24) = W0 := ⟨_, rfl⟩
  obtain ⟨R, hR⟩ : ∃ R, w.heap.size = R := ⟨_, rfl⟩
  rw [hW0] at hb0 hr0
  rw [hR] at hr0
  have S := Lib.hid (h.below hb0 (Nat.le_refl _))
  have X := Lib.hid (hL.below hb0 (Nat.le_refl _))
  have B := Lib.hid hb0
  have HW0 := Lib.hid hW0
  have HR := Lib.hid hR
  have rc : W0.cell? ⟨R, 0, none⟩ = some (.slice A n cap) := by rw [cell_row hr0]; rfl
  have hrow := Lib.hid hr0
  clear h hL hb0 hr0 hW0 hR
  go_enter Try.func24, Try.ntmps24
  go_wp2_with fail
  rw [HW0.out]
  try rw [HR.out]
  try go_wp2_with fail
  refine (great13 A n cap A2 m cap2 L W0 X.out).mono ?_
  rintro en w1 ⟨rfl, hb⟩
  replace S := Lib.hid (S.out.below hb (Nat.le_refl _))
  replace X := Lib.hid (X.out.below hb (Nat.le_refl _))
  replace B := Lib.hid (B.out.trans (hb.mono B.out.size))
  replace hrow := Lib.hid ((hb.block R (lt_of_block hrow.out)).trans hrow.out)
  clear hb rc
  cases hg : grtB n L
  rotate_left
  · have HG := Lib.hid hg
    clear hg
    go_wp2_with fail
    go_ret
    exact ⟨by unfold dnB; rw [HG.out]; rfl, B.out⟩
  have HG := Lib.hid hg
  have hm : m ≤ 9223372036854775807 := by
    have h8 := grtB_m hg
    rw [Hlen.out] at h8
    omega
  have Hm := Lib.hid hm
  clear hg hm
  have rc : w1.cell? ⟨R, 0, none⟩ = some (.slice A n cap) := by rw [cell_row hrow.out]; rfl
  go_wp2_with fail
  refine (refLines22 A n cap zs A2 m cap2 L w1 S.out X.out Hm.out).mono ?_
  rintro en w2 ⟨rfl, hb⟩
  replace S := Lib.hid (S.out.below hb (Nat.le_refl _))
  replace X := Lib.hid (X.out.below hb (Nat.le_refl _))
  replace B := Lib.hid (B.out.trans (hb.mono B.out.size))
  replace hrow := Lib.hid ((hb.block R (lt_of_block hrow.out)).trans hrow.out)
  clear hb rc
  obtain ⟨c, hc⟩ : ∃ c, chkL zs L = c := ⟨_, rfl⟩
  rw [hc]
  have HC := Lib.hid hc
  clear hc
  by_cases h0 : c = 0
  rotate_left
  · have d0 : (c == 0) = false := by simpa using h0
    have H0 := Lib.hid h0
    clear h0
    go_wp2_with fail
    go_ret
    exact ⟨by unfold dnB; rw [HG.out, HC.out]; simp [H0.out], B.out⟩
  subst h0
  have rc : w2.cell? ⟨R, 0, none⟩ = some (.slice A n cap) := by rw [cell_row hrow.out]; rfl
  go_wp2_with fail
  refine (many58 A n cap zs A2 m cap2 L w2 S.out X.out HC.out).mono ?_
  rintro en w3 ⟨rfl, hb⟩
  replace B := Lib.hid (B.out.trans (hb.mono B.out.size))
  clear hb rc
  obtain ⟨q, hq⟩ : ∃ q : Int, ((mtS (cls (prs zs)) L).length : Int) = q := ⟨_, rfl⟩
  rw [hq]
  have HQ := Lib.hid hq
  clear hq
  go_wp2_with fail
  go_ret
  refine ⟨?_, B.out⟩
  unfold dnB
  rw [HG.out, HC.out, HQ.out]
  simp
end
end Go.Proofs.Ythdjbapidodlfaa
