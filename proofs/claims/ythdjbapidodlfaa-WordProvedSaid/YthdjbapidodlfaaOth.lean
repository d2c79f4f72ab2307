/- Stage 4: lines with one word written otherwise. -/
import Derived.Test.YthdjbapidodlfaaLk
import Derived.Test.YthdjbapidodlfaaLb
namespace Go.Proofs.Ythdjbapidodlfaa
set_option linter.unusedSimpArgs false
set_option linter.unusedVariables false
open Go.RowKit Go.Shelf
theorem cmpS_congr {nm : List Int} {L L' : List (List Int)} (h1 : ∀ h, (lAt L' h).length = (lAt L h).length) (h2 : ∀ h i, iAt nm (wdA L' h i) = iAt nm (wdA L h i)) (cl : Int) : ∀ (d : Nat) (p : List Int) (h : Nat), cmpS nm L' cl d p h = cmpS nm L cl d p h
  | 0, _, _ => rfl
  | d + 1, p, h => by simp only [cmpS, h1, h2, cmpS_congr h1 h2 cl d]
theorem mtS_congr {nm : List Int} {L L' : List (List Int)} (h0 : L'.length = L.length) (h1 : ∀ h, (lAt L' h).length = (lAt L h).length) (h2 : ∀ h i, iAt nm (wdA L' h i) = iAt nm (wdA L h i)) : mtS nm L' = mtS nm L := by
  simp only [mtS, mtK, h0, h1, h2, cmpS_congr h1 h2]
/-- One word is written otherwise. -/
def othL (L : List (List Int)) (h i : Nat) (x : Int) : List (List Int) := L.set h ((lAt L h).set i x)
theorem lAt_oth {L : List (List Int)} {h i : Nat} {x : Int} (hh : h < L.length) (k : Nat) : lAt (othL L h i x) k = if k = h then (lAt L h).set i x else lAt L k := by
  unfold othL lAt
  rw [List.getD_eq_getElem?_getD, List.getElem?_set]
  by_cases e : h = k
  · subst e
    rw [if_pos rfl, if_pos hh, if_pos rfl]
    rfl
  · rw [if_neg e, if_neg (fun e' => e e'.symm), List.getD_eq_getElem?_getD]
theorem iAt_set2 {l : List Int} {i j : Nat} {x : Int} (hi : i < l.length) : iAt (l.set i x) j = if j = i then x else iAt l j := by
  unfold iAt
  rw [List.getD_eq_getElem?_getD, List.getElem?_set]
  by_cases e : i = j
  · subst e
    rw [if_pos rfl, if_pos hi, if_pos rfl]
    rfl
  · rw [if_neg e, if_neg (fun e' => e e'.symm), List.getD_eq_getElem?_getD]
theorem mtS_oth {nm : List Int} {L : List (List Int)} {h i : Nat} {x : Int} (hh : h < L.length) (hi : i < (lAt L h).length) (hx : iAt nm (iAt (lAt L h) i).toNat = iAt nm x.toNat) : mtS nm (othL L h i x) = mtS nm L := by
  refine mtS_congr (by simp [othL]) (fun k => ?_) (fun k j => ?_)
  · rw [lAt_oth hh]
    split
    · rename_i e; subst e; rw [List.length_set]
    · rfl
  · unfold wdA
    rw [lAt_oth hh]
    split
    · rename_i e
      subst e
      rw [iAt_set2 hi]
      split
      · rename_i e; subst e; exact hx.symm
      · rfl
    · rfl
theorem chkL_oth {zs : List Rg} {L : List (List Int)} {h i : Nat} {x : Int} (hz : chkL zs L = 0) (hh : h < L.length) (hx : 1 ≤ x ∧ x ≤ 100) : chkL zs (othL L h i x) = 0 := by
  obtain ⟨h1, h2, h3, h4, h5⟩ := chkL_zero.1 hz
  refine chkL_zero.2 ⟨h1, by simpa [othL] using h2, by simpa [othL] using h3, ?_, ?_⟩
  · rw [List.all_eq_true] at h4 ⊢
    intro y hy
    rcases List.mem_or_eq_of_mem_set hy with hy | rfl
    · exact h4 y hy
    · have := h4 (lAt L h) (by rw [lAt_eq hh]; exact List.getElem_mem hh)
      unfold le8 at this ⊢
      simpa using this
  · rw [List.all_eq_true] at h5 ⊢
    intro y hy
    rcases List.mem_or_eq_of_mem_set hy with hy | rfl
    · exact h5 y hy
    · have h6 := h5 (lAt L h) (by rw [lAt_eq hh]; exact List.getElem_mem hh)
      unfold withI at h6 ⊢
      rw [List.all_eq_true] at h6 ⊢
      intro u hu
      rcases List.mem_or_eq_of_mem_set hu with hu | rfl
      · exact h6 u hu
      · simp [inB]; omega
theorem mtR_oth {zs : List Rg} {L : List (List Int)} {m h i : Nat} {x : Int} (hz : chkL zs L = 0) (hh : h < L.length) (hi : i < (lAt L h).length) (hx : 1 ≤ x ∧ x ≤ 100) (he : iAt (cls (prs zs)) (iAt (lAt L h) i).toNat = iAt (cls (prs zs)) x.toNat) : mtR zs (othL L h i x) m = mtR zs L m := by
  rw [mtR_ok hz, mtR_ok (chkL_oth hz hh hx), mtS_oth hh hi he]
/-- All lines behind an empty list. -/
theorem app_cpL {W : World} {E0 m cap2 : Nat} {A2 : Option Addr} {L : List (List Int)} (hE : W.heap[E0]? = some (.cells #[] 38 (0, 0))) (hL : Lns W A2 m L) (hm0 : 0 < m) (hm : m ≤ 1000) :
    ∃ g cp cs W', runA Try.prog 25 (.slice (some ⟨E0, 0, none⟩) 0 0) (.slice A2 m cap2) W = .ok (.value (.slice (some ⟨g, 0, none⟩) m cp)) W' ∧ W'.heap[g]? = some (.cells cs 38 (0, 0)) ∧ W.heap.size ≤ g ∧ m ≤ cp ∧
      (∀ j, j < m → ∃ C c, cs[j]? = some (.slice C (lAt L j).length c) ∧ Ints W C (lAt L j).length (lAt L j) ∧ (lAt L j).length ≤ c) ∧ Below W.heap.size W W' := by
  obtain ⟨b, o, rfl, hcs⟩ := hL.2 hm0
  obtain ⟨news, hnl, hns⟩ := list_ex (fun j (v : Value) => ∃ C c, v = .slice C (lAt L j).length c ∧ W.cell? ⟨b, o + j, none⟩ = some v ∧ Ints W C (lAt L j).length (lAt L j) ∧ (lAt L j).length ≤ c) m (fun j hj => by
    obtain ⟨C, c, q1, q2, q3⟩ := hcs j hj
    exact ⟨_, C, c, rfl, q1, q2, q3⟩)
  obtain ⟨i, hif, hz, hs, hby⟩ := info_parts info38_
  obtain ⟨v', W', q2, q3, q4⟩ := run_append_arg_grows (P := Try.prog) W 25 25 38 i _ 1 24 Try.underlying25 hif hz hs hby rfl (by omega) ⟨E0, 0, none⟩ 0 0 [] rfl (fun j u hj => by simp at hj) ⟨b, o, none⟩ m cap2 news (by omega) (fun j u hj => by
      obtain ⟨hjl, rfl⟩ := List.getElem?_eq_some_iff.1 hj
      obtain ⟨C, c, _, q, _, _⟩ := hns j hjl
      rw [Addr.add_lit]
      exact q) (by omega) (by unfold maxLen; omega) (by omega)
  rw [Nat.zero_add, List.nil_append] at q3
  rcases q3.2 with ⟨_, e⟩ | ⟨g, cp, cur, rfl, hgs, hg, hcp, _, hsz, htake⟩
  · omega
  · have hb : Below W.heap.size W W' := ⟨q4.os, q4.tape, q4.output, q4.size, fun k hk => q4.block k hk (fun e => by cases e)⟩
    refine ⟨g, cp, cur, W', run_app q2, hg, hgs, hcp, fun j hj => ?_, hb⟩
    obtain ⟨C, c, p1, _, p3, p4⟩ := hns j (by omega)
    refine ⟨C, c, ?_, p3, p4⟩
    have e1 : news[j]? = some (.slice C (lAt L j).length c) := by rw [List.getElem?_eq_getElem (by omega), p1]
    rw [← htake, List.getElem?_take, if_pos (by omega), Array.getElem?_toList] at e1
    exact e1
/-- All numbers behind an empty list. -/
theorem app_cpI {W : World} {E0 m cap2 : Nat} {A2 : Option Addr} {l : List Int} (hL : Ints W A2 m l) (hm0 : 0 < m) (hm : m ≤ 1000) :
    ∃ g cp W', runA Try.prog 38 (.slice (some ⟨E0, 0, none⟩) 0 0) (.slice A2 m cap2) W = .ok (.value (.slice (some ⟨g, 0, none⟩) m cp)) W' ∧ RowI W' g l ∧ W.heap.size ≤ g ∧ m ≤ cp ∧ Below W.heap.size W W' := by
  obtain ⟨b, o, rfl, hcs⟩ := hL.2 hm0
  have hl := hL.1
  obtain ⟨i, hif, hz, hs, hby⟩ := info_parts info3_
  obtain ⟨v', W', q2, q3, q4⟩ := run_append_arg_grows (P := Try.prog) W 38 38 3 i _ 1 8 Try.underlying38 hif hz hs hby rfl (by omega) ⟨E0, 0, none⟩ 0 0 [] rfl (fun j u hj => by simp at hj) ⟨b, o, none⟩ m cap2 (flatI l) (by rw [flatI_len, hl]; omega) (fun j u hj => by
      have hjl : j < m := by
        have := (List.getElem?_eq_some_iff.1 hj).1
        rw [flatI_len, hl] at this
        exact this
      rw [Addr.add_lit, hcs j hjl, ← hj, iAt_eq (by omega)]
      simp [flatI, hl, hjl]) (by omega) (by unfold maxLen; omega) (by omega)
  rw [Nat.zero_add, List.nil_append] at q3
  rcases q3.2 with ⟨_, e⟩ | ⟨g, cp, cur, rfl, hgs, hg, hcp, _, hsz, htake⟩
  · omega
  · have hb : Below W.heap.size W W' := ⟨q4.os, q4.tape, q4.output, q4.size, fun k hk => q4.block k hk (fun e => by cases e)⟩
    refine ⟨g, cp, W', run_app q2, ⟨cur.toList.drop (m * 1), ?_⟩, hgs, hcp, hb⟩
    rw [← htake, List.take_append_drop, Array.toArray_toList]
    exact hg
/-- What is stored: the copy, and the word in it. -/
theorem oth_done {W W3 : World} {g g2 m cp2 h i ll : Nat} {x : Int} {cs : Array Value} {L : List (List Int)} (hb : Below W.heap.size W W3) (hg : W3.heap[g]? = some (.cells cs 38 (0, 0))) (hgs : W.heap.size ≤ g)
    (hcs : ∀ j, j < m → ∃ C c, cs[j]? = some (.slice C (lAt L j).length c) ∧ Ints W C (lAt L j).length (lAt L j) ∧ (lAt L j).length ≤ c) (hR : RowI W3 g2 (lAt L h)) (hg2 : W.heap.size ≤ g2) (hne : g ≠ g2) (hh : h < m) (hl : L.length = m) (hi : i < ll) (hll : (lAt L h).length = ll) (hcp : ll ≤ cp2) :
    (W3.setCell ⟨g, h, none⟩ (.slice (some ⟨g2, 0, none⟩) ll cp2)).cell? ⟨g, h, none⟩ = some (.slice (some ⟨g2, 0, none⟩) ll cp2) ∧ RowI (W3.setCell ⟨g, h, none⟩ (.slice (some ⟨g2, 0, none⟩) ll cp2)) g2 (lAt L h) ∧
      Lns ((W3.setCell ⟨g, h, none⟩ (.slice (some ⟨g2, 0, none⟩) ll cp2)).setCell ⟨g2, i, none⟩ (.int .i64 x)) (some ⟨g, 0, none⟩) m (othL L h i x) ∧ Below W.heap.size W ((W3.setCell ⟨g, h, none⟩ (.slice (some ⟨g2, 0, none⟩) ll cp2)).setCell ⟨g2, i, none⟩ (.int .i64 x)) := by
  obtain ⟨Ch, ch, hch, _, _⟩ := hcs h hh
  have hsz : h < cs.size := by
    rcases Nat.lt_or_ge h cs.size with e | e
    · exact e
    · rw [Array.getElem?_eq_none e] at hch; cases hch
  have r1 := set_same h (.slice (some ⟨g2, 0, none⟩) ll cp2) hg
  have k1 := keeps_setCell W3 g h (.slice (some ⟨g2, 0, none⟩) ll cp2)
  have hRk : RowI (W3.setCell ⟨g, h, none⟩ (.slice (some ⟨g2, 0, none⟩) ll cp2)) g2 (lAt L h) := hR.keep k1 (fun e => hne e.symm)
  obtain ⟨W4, hW4⟩ : ∃ W4, W3.setCell ⟨g, h, none⟩ (.slice (some ⟨g2, 0, none⟩) ll cp2) = W4 := ⟨_, rfl⟩
  rw [hW4] at r1 k1 hRk ⊢
  have k2 := keeps_setCell W4 g2 i (.int .i64 x)
  have r2 := (k2.block g (lt_of_block r1) (fun e => hne e)).trans r1
  have hR2 := hRk.put (j := i) (by omega) x
  obtain ⟨W5, hW5⟩ : ∃ W5, W4.setCell ⟨g2, i, none⟩ (.int .i64 x) = W5 := ⟨_, rfl⟩
  rw [hW5] at r2 k2 hR2 ⊢
  have b4 : Below W.heap.size W W4 := hb.trans (k1.below hb.size (fun k hk e => by omega))
  have b5 : Below W.heap.size W W5 := b4.trans (k2.below b4.size (fun k hk e => by omega))
  refine ⟨by rw [cell_row r1]; simp [hsz], hRk, ⟨by simp [othL, hl], fun _ => ⟨g, 0, rfl, fun j hj => ?_⟩⟩, b5⟩
  rw [Nat.zero_add, lAt_oth (by omega)]
  by_cases e : j = h
  · subst e
    rw [if_pos rfl, List.length_set, hll]
    refine ⟨some ⟨g2, 0, none⟩, cp2, by rw [cell_row r2]; simp [hsz], ⟨by rw [List.length_set, hll], fun _ => ⟨g2, 0, rfl, fun q hq => ?_⟩⟩, hcp⟩
    rw [Nat.zero_add]
    exact hR2.cell (by rw [List.length_set]; omega)
  · rw [if_neg e]
    obtain ⟨C, c, p1, p2, p3⟩ := hcs j hj
    refine ⟨C, c, ?_, p2.below b5 (Nat.le_refl _), p3⟩
    rw [cell_row r2, Array.getElem?_setIfInBounds, if_neg (fun e' => e e'.symm)]
    exact p1
end Go.Proofs.Ythdjbapidodlfaa
