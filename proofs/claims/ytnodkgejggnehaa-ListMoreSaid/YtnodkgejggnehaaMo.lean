/- Stage 5: a sheet with one link more: appends, the store, mathematics. -/
import Derived.Test.YtnodkgejggnehaaKx
import Derived.Test.YtnodkgejggnehaaWo
namespace Go.Proofs.Ytnodkgejggnehaa
set_option linter.unusedSimpArgs false
set_option linter.unusedVariables false
open Go.RowKit Go.Shelf
theorem flatR_len (l : List Rg) : (flatR l).length = l.length * 2 := by
  induction l with
  | nil => rfl
  | cons x l ih => simp only [flatR, List.flatMap_cons, List.length_append, cellR, List.length_cons, List.length_nil] at ih ⊢; omega
/-- Links behind links. -/
theorem app_rgs {W : World} {v : Value} {n m c2 : Nat} {xs ys : List Rg} {A2 : Option Addr} (h : W.ownsRow 0 55 2 v n (flatR xs)) (h2 : Rgs W A2 m ys) (hb8 : (n + m) * 16 ≤ 140737488355328) :
    ∃ v' W', runA Try.prog 22 v (.slice A2 m c2) W = .ok (.value v') W' ∧ W'.ownsRow 0 55 2 v' (n + m) (flatR (xs ++ ys)) ∧ Keeps (fun j => v.ownBlock = some j) W W' ∧ (v'.ownBlock = v.ownBlock ∨ v'.ownBlock = some W.heap.size) := by
  obtain ⟨i, hif, hz, hs, hby⟩ := info_parts info55_
  have e1 : flatR (xs ++ ys) = flatR xs ++ flatR ys := by simp [flatR]
  have hl := h2.1
  rw [e1]
  rcases A2 with _ | a
  · have hm : m = 0 := by
      rcases Nat.eq_zero_or_pos m with e | e
      · exact e
      · obtain ⟨b, o, e2, _⟩ := h2.2 e; cases e2
    subst hm
    have hnw : ys = [] := List.eq_nil_of_length_eq_zero hl
    subst hnw
    refine ⟨v, W, run_app ?_, by simpa [flatR] using h, Keeps.refl _ _, .inl rfl⟩
    rcases h.2 with ⟨rfl, rfl⟩ | ⟨g, cap, cur, rfl, _, _, hnc, _⟩
    · simp [Builtin.append_, run_underlying Try.underlying22, Builtin.lenOf, sizeOf, typeInfo, hif, hs, Builtin.firstCells, loadCells, loadCellsFrom]
    · simp [Builtin.append_, run_underlying Try.underlying22, Builtin.lenOf, sizeOf, typeInfo, hif, hs, Builtin.firstCells, loadCells, loadCellsFrom, storeCells, Addr.add, hnc]
  · obtain ⟨v', W', q2, q3, q4, _, q5⟩ := run_append_own_at (P := Try.prog) W 0 22 22 55 i _ 2 16 Try.underlying22 hif hz hs hby rfl (by omega) v n (flatR xs) h a m c2 (flatR ys) (by rw [flatR_len, hl]) (fun j u hj => by
      have hj2 := (List.getElem?_eq_some_iff.1 hj).1
      rw [flatR_len, hl] at hj2
      obtain ⟨b, o, e2, hc⟩ := h2.2 (by omega)
      cases e2
      rw [Addr.add_lit]
      have hq := hc (j / 2) (by omega)
      obtain ⟨g1, g2⟩ := flatR_at ys (j / 2) (by omega)
      rcases (by omega : j = j / 2 * 2 ∨ j = j / 2 * 2 + 1) with e | e
      · rw [e] at hj
        rw [g1] at hj
        rw [e, ← hj]; exact hq.1
      · rw [e] at hj
        rw [g2] at hj
        rw [e, ← hj, ← Nat.add_assoc]; exact hq.2) (fun u hu => by
      unfold flatR at hu
      obtain ⟨r, _, hr⟩ := List.mem_flatMap.1 hu
      unfold cellR at hr
      simp at hr
      rcases hr with rfl | rfl <;> rfl) (by unfold maxLen; omega) hb8 (Nat.zero_le _)
    exact ⟨v', W', run_app q2, q3, ⟨q4.os, q4.tape, q4.output, q4.size, fun k hk hmm => q4.block k hk (fun e => hmm e.symm)⟩, q5⟩
theorem one_rgs {W : World} {P : Nat} {x y : Int} (h : W.heap[P]? = some (.cells #[.int .i64 x, .int .i64 y] 55 (0, 0))) : Rgs W (some ⟨P, 0, none⟩) 1 [⟨x, y⟩] := by
  refine ⟨rfl, fun _ => ⟨P, 0, rfl, fun j hj => ?_⟩⟩
  obtain rfl : j = 0 := by omega
  exact ⟨by rw [cell_row h]; rfl, by rw [cell_row h]; rfl⟩
theorem app_1r {W : World} {v : Value} {n : Nat} {xs : List Rg} {T : Nat} {x y : Int} (h : W.ownsRow 0 55 2 v n (flatR xs)) (hT : W.heap[T]? = some (.cells #[.int .i64 x, .int .i64 y] 55 (0, 0))) (hb8 : (n + 1) * 16 ≤ 140737488355328) :
    ∃ v' W', runA Try.prog 22 v (.slice (some ⟨T, 0, none⟩) 1 1) W = .ok (.value v') W' ∧ W'.ownsRow 0 55 2 v' (n + 1) (flatR (xs ++ [⟨x, y⟩])) ∧ Keeps (fun j => v.ownBlock = some j) W W' ∧ (v'.ownBlock = v.ownBlock ∨ v'.ownBlock = some W.heap.size) := app_rgs h (one_rgs hT) hb8
theorem own_empty {W : World} {size : Nat} {g : Nat} {e : TypeId} (h : W.heap[g]? = some (.cells #[] e (0, 0))) : W.ownsRow 0 e size (.slice (some ⟨g, 0, none⟩) 0 0) 0 [] := ⟨by simp, .inr ⟨g, 0, #[], rfl, Nat.zero_le _, h, Nat.le_refl _, by unfold maxLen; omega, by simp, by simp⟩⟩
/-- The sheet that is stored. -/
theorem more_sheet {W0 W : World} {D m c8 : Nat} {C8 : Option Addr} {zs : List Rg} {sl sr : Int} {v3 : Value} (hb : Below W0.heap.size W0 W) (hD : W.heap[D]? = some (.cells #[.int .i64 0, .int .i64 0, .slice none 0 0, .slice none 0 0] 25 (0, 0))) (hD0 : W0.heap.size ≤ D) (hr : Rgs W C8 m zs) (hne : ∀ b o, C8 = some ⟨b, o, none⟩ → b ≠ D) :
    ((((W.setCell ⟨D, 0, none⟩ (.int .i64 sl)).setCell ⟨D, 1, none⟩ (.int .i64 sr)).setCell ⟨D, 2, none⟩ (.slice C8 m c8)).setCell ⟨D, 3, none⟩ v3).heap[D]? = some (.cells #[.int .i64 sl, .int .i64 sr, .slice C8 m c8, v3] 25 (0, 0)) ∧
    Rgs ((((W.setCell ⟨D, 0, none⟩ (.int .i64 sl)).setCell ⟨D, 1, none⟩ (.int .i64 sr)).setCell ⟨D, 2, none⟩ (.slice C8 m c8)).setCell ⟨D, 3, none⟩ v3) C8 m zs ∧
    Below W0.heap.size W0 ((((W.setCell ⟨D, 0, none⟩ (.int .i64 sl)).setCell ⟨D, 1, none⟩ (.int .i64 sr)).setCell ⟨D, 2, none⟩ (.slice C8 m c8)).setCell ⟨D, 3, none⟩ v3) := by
  have k1 := ((keeps_setCell W D 0 (.int .i64 sl)).trans (keeps_setCell _ D 1 (.int .i64 sr))).trans ((keeps_setCell _ D 2 (.slice C8 m c8)).trans (keeps_setCell _ D 3 v3))
  have r1 := set_same 3 v3 (set_same 2 (.slice C8 m c8) (set_same 1 (.int .i64 sr) (set_same 0 (.int .i64 sl) hD)))
  refine ⟨r1, ⟨hr.1, fun hm => ?_⟩, hb.trans (k1.below hb.size (fun j hj e => by omega))⟩
  obtain ⟨b, o, rfl, hcell⟩ := hr.2 hm
  refine ⟨b, o, rfl, fun j hj => ?_⟩
  have hcj := hcell j hj
  have hbD : ¬ b = D := hne b o rfl
  exact ⟨(keep_cells k1 (lt_of_cell hcj.1) hbD _).trans hcj.1, (keep_cells k1 (lt_of_cell hcj.1) hbD _).trans hcj.2⟩
section
variable {n : Nat} {zs : List Rg} {ks : List Int} {r : Rg}
theorem gAt_more (hn : zs.length = n) {j : Nat} (hj : j < n) : gAt (zs ++ [r]) j = gAt zs j := by
  unfold gAt
  rw [List.getD_eq_getElem?_getD, List.getElem?_append_left (by omega), ← List.getD_eq_getElem?_getD]
theorem mt_more (hn : zs.length = n) {j k : Nat} (hj : j < n) (hk : k < n) : mtB (zs ++ [r]) j k = mtB zs j k := by
  unfold mtB eN endI
  rw [gAt_more hn hj, gAt_more hn hk]
def cutP (n : Nat) (p : Nat → Bool) : Nat → Bool := fun k => decide (k < n) && p k
theorem cutP_lt {p : Nat → Bool} {k : Nat} (hk : k < n) : cutP n p k = p k := by unfold cutP; rw [decide_eq_true hk]; rfl
theorem jop_more (H : ShN n zs ks) (hn : zs.length = n) {p : Nat → Bool} (h : JoP n zs ks p) : JoP (n + 1) (zs ++ [r]) ks (cutP n p) := by
  refine ⟨fun j k hj hk h1 h2 hne => ?_, fun k hk => ?_⟩
  · unfold cutP at h1 h2
    rw [Bool.and_eq_true, decide_eq_true_eq] at h1 h2
    rw [mt_more hn h1.1 h2.1]
    exact h.ap j k h1.1 h2.1 h1.2 h2.2 hne
  · obtain ⟨q, hq, e⟩ := H.nm _ hk
    obtain rfl : k = q := by omega
    rw [cutP_lt hq]; exact h.kn k hk
theorem cut_fI (p : Nat → Bool) : fI (cutP n p) (n + 1) = fI p n := by
  rw [fI_snoc, if_neg (by unfold cutP; simp)]
  exact fI_congr (fun k hk => cutP_lt hk)
theorem jop_fewer (hn : zs.length = n) {p : Nat → Bool} (h : JoP (n + 1) (zs ++ [r]) ks p) : JoP n zs ks p := by
  refine ⟨fun j k hj hk h1 h2 hne => ?_, h.kn⟩
  have := h.ap j k (by omega) (by omega) h1 h2 hne
  rw [mt_more hn hj hk] at this; exact this
theorem siz_more (H : ShN n zs ks) (H2 : ShN (n + 1) (zs ++ [r]) ks) (hn : zs.length = n) : siz n zs ks ≤ siz (n + 1) (zs ++ [r]) ks ∧ siz (n + 1) (zs ++ [r]) ks ≤ siz n zs ks + 1 := by
  constructor
  · obtain ⟨p, hp⟩ := gre_ex H
    rw [← hp.2, ← fI_cnt, ← cut_fI, fI_cnt]
    exact (jop_more H hn hp.1).le H2
  · obtain ⟨p, hp⟩ := gre_ex H2
    rw [← hp.2]
    have h1 := (jop_fewer hn hp.1).le H
    have h2 : cntP (n + 1) p ≤ cntP n p + 1 := by
      rw [← fI_cnt, ← fI_cnt, fI_snoc]
      split
      · simp
      · omega
    omega
theorem chj_more {sl sr : Int} (he : chkS sl sr zs ks = 0) (he2 : chkS sl sr (zs ++ [r]) ks = 0) (hn : zs.length = n) {p : Nat → Bool} (h : JoP n zs ks p) : chkJ sl sr (zs ++ [r]) ks (fI p n) = 0 := by
  rw [← cut_fI]
  exact chj_of he2 (by simp [hn]) (jop_more (shn_of he hn) hn h)
end
end Go.Proofs.Ytnodkgejggnehaa
