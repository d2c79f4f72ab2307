/- Stage 4: matches of the lines that are read from their ends (mathematics). -/
import Derived.Test.YthdjbapidodlfaaTn
namespace Go.Proofs.Ythdjbapidodlfaa
set_option linter.unusedSimpArgs false
set_option linter.unusedVariables false
open Go.RowKit Go.Shelf
attribute [local go_sem ↓] exec_app at_app
attribute [local go_sem] Oper.semAt_some

set_option maxRecDepth 100000 in
set_option maxHeartbeats 4000000 in
theorem reverse90_all (C : Option Addr) (n cp : Nat) (zs : List Int) (w : World) (h : Ints w C n zs) (hr : 0 < n → ∃ g, C = some ⟨g, 0, none⟩ ∧ RowI w g zs) (hn8 : n ≤ 1000) :
    Calls Try.prog 90 #[.slice C n cp] w fun e w' => (∃ v, e = .returned v) ∧ Ints w' C n zs.reverse ∧ Keeps (fun k => ∃ o, C = some ⟨k, o, none⟩) w w' := by
  rcases Nat.eq_zero_or_pos n with e | e
  · subst e
    have HZ := Lib.hid (show zs = [] from List.length_eq_zero_iff.1 h.1)
    clear h hr
    refine (callsIn_wide (n := 3)).1 ?_
    refine callsIn_of_wp Try.func90 rfl trivial ?_ rfl
    simp only [Try.ntmps90, List.size_toArray, List.length_cons, List.length_nil, Nat.reduceAdd, Nat.reduceSub, Array.replicate_succ, Array.replicate_zero, List.push_toArray, List.append_toArray, List.nil_append, List.cons_append]
    gi_wp2_with fail
    gi_loopw [2, 3] (fun i j wr => i = .int .i64 0 ∧ j = .int .i64 (-1) ∧ wr = w) (fun i j _ => 0)
    case atStart => exact ⟨rfl, by simp, rfl⟩
    case round =>
      obtain ⟨rfl, rfl, rfl⟩ := hrel
      gi_wp2_with fail
      go_end0
      exact ⟨⟨_, rfl⟩, ⟨by rw [HZ.out]; rfl, fun h => by omega⟩, Keeps.refl _ _⟩
  · obtain ⟨g, rfl, hrow⟩ := hr e
    have hl := h.1
    refine (reverse90 g n cp zs w hl hrow hn8).mono ?_
    rintro e w' ⟨he, hrow', hK⟩
    have := hrow'.ints
    rw [List.length_reverse, hl] at this
    exact ⟨he, this, hK.mono (fun k _ e => ⟨0, by rw [e]⟩)⟩
theorem info38_ : (Try.prog.info? 38).map (fun i => (i.zero, i.size, i.bytes)) = some (some (.slice none 0 0), 1, 24) := by kernel_rfl
/-- A row of lines that is built. -/
def LnB (N0 : Nat) (W : World) (v : Value) (ls : List (List Int)) : Prop :=
  ∃ cs : List Value, W.ownsRow 0 38 1 v ls.length cs ∧ (∀ g, v.ownBlock = some g → N0 ≤ g) ∧ ∀ j, j < ls.length → ∃ C cap, cs[j]? = some (.slice C (lAt ls j).length cap) ∧ (lAt ls j).length ≤ cap ∧ Ints W C (lAt ls j).length (lAt ls j) ∧
    ∀ b o, C = some ⟨b, o, none⟩ → N0 ≤ b ∧ v.ownBlock ≠ some b ∧ b < W.heap.size
theorem LnB.nil (N0 : Nat) (W : World) : LnB N0 W (.slice none 0 0) [] := ⟨[], ⟨rfl, .inl ⟨rfl, rfl⟩⟩, fun g e => (by cases e), fun j hj => by simp at hj⟩
theorem LnB.keep {N0 : Nat} {W W' : World} {v : Value} {ls : List (List Int)} {Mut : Nat → Prop} (h : LnB N0 W v ls) (hK : Keeps Mut W W') (hm : ∀ k, N0 ≤ k → k < W.heap.size → ¬ Mut k) : LnB N0 W' v ls := by
  obtain ⟨cs, h1, h2, h3⟩ := h
  refine ⟨cs, own_keep h1 hK (fun g e => hm g (h2 g e) (own_lt h1 g e)), h2, fun j hj => ?_⟩
  obtain ⟨C, cap, q1, q2, q3, q4⟩ := h3 j hj
  exact ⟨C, cap, q1, q2, q3.keep hK (fun b o e => hm b (q4 b o e).1 (q4 b o e).2.2), fun b o e => ⟨(q4 b o e).1, (q4 b o e).2.1, Nat.lt_of_lt_of_le (q4 b o e).2.2 hK.size⟩⟩
theorem LnB.snoc {N0 cap : Nat} {W : World} {v : Value} {ls : List (List Int)} {C : Option Addr} {q : List Int} (h : LnB N0 W v ls) (hq : Ints W C q.length q) (hC : ∀ b o, C = some ⟨b, o, none⟩ → N0 ≤ b ∧ v.ownBlock ≠ some b ∧ b < W.heap.size) (hcap : q.length ≤ cap) (hn : ls.length ≤ 1000) (hN : N0 ≤ W.heap.size) :
    ∃ C' c' W', runA Try.prog 25 v (.slice (some ⟨W.heap.size, 0, none⟩) 1 1) (W.alloc (.cells #[.slice C q.length cap] 38)) = .ok (.value (.slice C' (ls.length + 1) c')) W' ∧ LnB N0 W' (.slice C' (ls.length + 1) c') (ls ++ [q]) ∧ Keeps (fun k => N0 ≤ k) W W' := by
  have hk := keep_alloc (fun _ => False) W (.cells #[.slice C q.length cap] 38)
  have h' := h.keep hk (fun _ _ _ e => e)
  obtain ⟨cs, h1, h2, h3⟩ := h'
  obtain ⟨cs0, h10, _, _⟩ := h
  have hown := own_lt h10
  obtain ⟨v', W', a1, a2, a3, a4⟩ := app_one (n := ls.length) Try.underlying25 info38_ rfl (by omega) (by omega) h1 (vals := [.slice C q.length cap]) rfl (heap_alloc_new_ W (.cells #[.slice C q.length cap] 38)) (by simp [Value.oneCell']) (by omega)
  obtain ⟨C', c', rfl⟩ : ∃ C' c', v' = .slice C' (ls.length + 1) c' := by
    rcases a2.2 with ⟨e, e2⟩ | ⟨g, cp, cur, e, _⟩
    · omega
    · exact ⟨_, _, e⟩
  have hs := hk.size
  have hs1 : (W.alloc (.cells #[.slice C q.length cap] 38)).heap.size = W.heap.size + 1 := by simp
  have hs3 := a3.size
  have hob : ∀ g, (Value.slice C' (ls.length + 1) c').ownBlock = some g → v.ownBlock = some g ∨ g = W.heap.size + 1 := fun g e => by
    rcases a4 with e' | ⟨e', _⟩
    · rw [e'] at e; exact .inl e
    · rw [e'] at e; have := Option.some.inj e; exact .inr (by omega)
  have hlen : cs.length = ls.length := by have := h1.1; omega
  refine ⟨C', c', W', run_app a1, ⟨cs ++ [.slice C q.length cap], by rw [List.length_append]; exact a2, fun g e => ?_, fun j hj => ?_⟩, hk.none.trans (a3.mono (fun k _ e => h2 k e))⟩
  · rcases hob g e with e | e
    · exact h2 g e
    · omega
  · rcases Nat.lt_or_ge j ls.length with hjl | hjl
    · obtain ⟨Y, cp, q1, q2, q3, q4⟩ := h3 j hjl
      have e1 : lAt (ls ++ [q]) j = lAt ls j := by
        rw [lAt_eq (by rw [List.length_append]; omega), lAt_eq hjl, List.getElem_append_left hjl]
      rw [e1]
      refine ⟨Y, cp, by rw [List.getElem?_append_left (by omega)]; exact q1, q2, q3.keep a3 (fun b o e => (q4 b o e).2.1), fun b o e => ?_⟩
      obtain ⟨r1, r2, r3⟩ := q4 b o e
      refine ⟨r1, fun e2 => ?_, by omega⟩
      rcases hob b e2 with e3 | e3
      · exact r2 e3
      · omega
    · have hje : j = ls.length := by simp at hj; omega
      subst hje
      have e1 : lAt (ls ++ [q]) ls.length = q := by
        rw [lAt_eq (by simp), List.getElem_append_right (Nat.le_refl _)]
        simp
      rw [e1]
      refine ⟨C, cap, by rw [List.getElem?_append_right (by omega), hlen]; simp, hcap, (hq.keep hk (fun _ _ _ e => e)).keep a3 (fun b o e => (hC b o e).2.1), fun b o e => ?_⟩
      obtain ⟨r1, r2, r3⟩ := hC b o e
      refine ⟨r1, fun e2 => ?_, by omega⟩
      rcases hob b e2 with e3 | e3
      · exact r2 e3
      · omega
theorem LnB.lns {N0 : Nat} {W : World} {v : Value} {ls : List (List Int)} (h : LnB N0 W v ls) : ∃ C cap, v = .slice C ls.length cap ∧ ls.length ≤ cap ∧ Lns W C ls.length ls := by
  obtain ⟨cs, ho, _, hr⟩ := h
  rcases ho.2 with ⟨rfl, h0⟩ | ⟨g, cap, cur, rfl, hb, hg, hc, _, hsz, htake⟩
  · rw [h0]
    exact ⟨none, 0, rfl, Nat.le_refl _, h0, by omega⟩
  · refine ⟨_, cap, rfl, hc, rfl, fun _ => ⟨g, 0, rfl, fun j hj => ?_⟩⟩
    obtain ⟨C, cp, q1, q2, q3, _⟩ := hr j hj
    refine ⟨C, cp, ?_, q3, q2⟩
    rw [Nat.zero_add, cell_row hg, ← Array.getElem?_toList, ← List.getElem?_take_of_lt (show j < ls.length * 1 by omega), htake]
    exact q1
/-- Lines read from their ends. -/
def trL (L : List (List Int)) : List (List Int) := L.map List.reverse
theorem trL_take (L : List (List Int)) {k : Nat} (hk : k < L.length) : trL (L.take (k + 1)) = trL (L.take k) ++ [(lAt L k).reverse] := by
  unfold trL
  rw [List.take_succ_eq_append_getElem hk, List.map_append, lAt_eq hk]; rfl
set_option maxRecDepth 100000 in
set_option maxHeartbeats 8000000 in
theorem turned83 (B D : Nat) (A : Option Addr) (n cap : Nat) (nm : List Int) (M : Nat) (A2 : Option Addr) (m cap2 : Nat) (L : List (List Int)) (w : World) (hBo : Bo w B D A n cap nm M A2 m cap2 L) (hL : LV L m) :
    Calls Try.prog 83 #[.pointer (some ⟨B, 0, none⟩)] w fun e w' => ∃ Bt C cp, e = .returned (.pointer (some ⟨Bt, 0, none⟩)) ∧ Bo w' Bt D A n cap nm M C m cp (trL L) ∧ w.heap.size ≤ Bt ∧ Below w.heap.size w w' := by
  have HB := Lib.hid hBo
  have HL := Lib.hid hL
  have hm4 := hL.hi
  have c0 := hBo.c0
  have k1 : Keeps (fun _ => False) w (w.alloc (.cells #[.pointer (some ⟨D, 0, none⟩), .slice none 0 0] 112)) := keep_alloc _ _ _
  have e1 : (w.alloc (.cells #[.pointer (some ⟨D, 0, none⟩), .slice none 0 0] 112)).heap[w.heap.size]? = some (.cells #[.pointer (some ⟨D, 0, none⟩), .slice none 0 0] 112 (0, 0)) := heap_alloc_new_ _ _
  have c1 := (hBo.below k1.new (Nat.le_refl _)).c1
  have s1 : (w.alloc (.cells #[.pointer (some ⟨D, 0, none⟩), .slice none 0 0] 112)).heap.size = w.heap.size + 1 := by simp
  have K1 := Lib.hid k1
  have E1 := Lib.hid e1
  have S1 := Lib.hid s1
  clear hBo hL k1 e1 s1
  go_enter Try.func83, Try.ntmps83
  go_wp2_with fail
  obtain ⟨V, hV⟩ : ∃ V, w.alloc (.cells #[.pointer (some ⟨D, 0, none⟩), .slice none 0 0] 112) = V := ⟨_, rfl⟩
  obtain ⟨Bt, hBt⟩ : ∃ Bt, w.heap.size = Bt := ⟨_, rfl⟩
  have k1 := K1.out
  have e1 := E1.out
  have s1 := S1.out
  rw [hV] at k1 e1 s1 ⊢
  rw [hBt] at e1 s1 ⊢
  have HBt := Lib.hid hBt
  have HVw := Lib.hid k1.new
  have HVs := Lib.hid s1
  have HE1 := Lib.hid e1
  clear hV hBt k1 e1 s1 c0 c1 K1 E1 S1
  go_loopw [5, 17] (fun x i wr => ∃ k : Nat, k ≤ m ∧ i = .int .i64 (k : Int) ∧ Hid (∃ v, wr.heap[Bt]? = some (.cells #[.pointer (some ⟨D, 0, none⟩), v] 112 (0, 0)) ∧ LnB (Bt + 1) wr v (trL (L.take k)) ∧ Below w.heap.size w wr ∧ Bt + 1 ≤ wr.heap.size)) (fun x i _ => m - (intOf i).toNat)
  case atStart => exact ⟨0, Nat.zero_le _, rfl, Lib.hid ⟨_, HE1.out, LnB.nil _ _, HVw.out, by rw [HVs.out]; exact Nat.le_refl _⟩⟩
  case round =>
    obtain ⟨k, hk, rfl, HI⟩ := hrel
    obtain ⟨wq, rfl⟩ : ∃ wq, wq = wr := ⟨_, rfl⟩
    by_cases hlt : k < m
    · obtain ⟨v, hrow, hln, hbl, hsz⟩ := HI.out
      have hbo := HB.out.below hbl (Nat.le_refl _)
      have hkl : k < L.length := by rw [HL.out.len]; exact hlt
      obtain ⟨b, o, rfl, hc⟩ := hbo.lns.2 (by omega)
      obtain ⟨C1, c1, x0, x1, -⟩ := hc k hlt
      have hl8 := HL.out.le8 k hlt
      have Htk := Lib.hid (trL_take L hkl)
      obtain ⟨ln, hln2⟩ : ∃ ln, lAt L k = ln := ⟨_, rfl⟩
      rw [hln2] at x0 x1 hl8 Htk
      obtain ⟨ll, hll⟩ : ∃ ll, ln.length = ll := ⟨_, rfl⟩
      rw [hll] at x0 x1 hl8
      have hkc := clone89 C1 ll c1 ln wq x1 (by omega)
      have Hkc := Lib.hid hkc
      have HR := Lib.hid hrow
      have HLn := Lib.hid hln
      have HBl := Lib.hid hbl
      have HSz := Lib.hid hsz
      have Hll := Lib.hid hll
      have hlk : (trL (L.take k)).length = k := by unfold trL; rw [List.length_map, List.length_take]; omega
      obtain ⟨ls, hls⟩ : ∃ ls, trL (L.take k) = ls := ⟨_, rfl⟩
      rw [hls] at HLn Htk hlk
      have Hlk := Lib.hid hlk
      have i0 : (0 : Int) ≤ (k : Int) := by omega
      have i1 : (k : Int) < (m : Int) := by omega
      clear hbo hc x1 hrow hln hbl hsz hln2 hkc HI hkl hls hlk hll
      go_wp2_with fail
      refine Hkc.out.mono ?_
      rintro en w2 ⟨C2, cp2, rfl, hi2, hr2, hb2, hcp2, hbel2⟩
      have HI2 := Lib.hid hi2
      have HB2 := Lib.hid hb2
      have HBel2 := Lib.hid hbel2
      have HCp2 := Lib.hid hcp2
      have hrv := reverse90_all C2 ll cp2 ln w2 hi2 (fun h => by obtain ⟨g, e1, e2, _⟩ := hr2 h; exact ⟨g, e1, e2⟩) (by omega)
      have Hrv := Lib.hid hrv
      clear hi2 hr2 hb2 hbel2 hrv Hkc x0 hcp2
      go_wp2_with fail
      refine Hrv.out.mono ?_
      rintro en w3 ⟨⟨rv, rfl⟩, hi3, hk3⟩
      have hK13 : Keeps (fun _ => False) wq w3 := keeps_old (((Keeps.of_new HBel2.out).trans hk3).mono (fun q hq e => by
        obtain ⟨oo, e⟩ := e
        exact .inr (HB2.out q oo e).1))
      have hrow3 := (hK13.block _ (lt_of_block HR.out) (fun e => e)).trans HR.out
      have hrl : ln.reverse.length = ll := by rw [List.length_reverse]; exact Hll.out
      have Htk2 := Lib.hid Htk.out
      obtain ⟨rl, hrle⟩ : ∃ rl, ln.reverse = rl := ⟨_, rfl⟩
      rw [hrle] at hrl hi3 Htk2
      have hln3 := HLn.out.keep hK13 (fun _ _ _ e => e)
      have hobv : ∀ b9 o9, C2 = some ⟨b9, o9, none⟩ → Bt + 1 ≤ b9 ∧ v.ownBlock ≠ some b9 ∧ b9 < w3.heap.size := fun b9 o9 e => by
        have h1 := HB2.out b9 o9 e
        have h2 := HSz.out
        obtain ⟨cs, q1, _, _⟩ := HLn.out
        refine ⟨by omega, fun e2 => by have := own_lt q1 b9 e2; omega, ?_⟩
        exact Nat.lt_of_lt_of_le h1.2 hk3.size
      have hsn := hln3.snoc (C := C2) (q := rl) (cap := cp2) (by rw [hrl]; exact hi3) hobv (by rw [hrl]; exact HCp2.out) (by rw [Hlk.out]; omega) (by have := hK13.size; have := HSz.out; omega)
      rw [hrl, Hlk.out, ← Htk2.out] at hsn
      obtain ⟨C4, cp4, W4, hrun, hln4, hk4⟩ := hsn
      have t1 : w3.cell? ⟨Bt, 1, none⟩ = some v := by rw [cell_row hrow3]; rfl
      have hrow4 := (hk4.block _ (lt_of_block hrow3) (by omega)).trans hrow3
      have y1 : W4.cell? ⟨Bt, 1, none⟩ = some v := by rw [cell_row hrow4]; rfl
      have f1 : W4.frozen? ⟨Bt, 1, none⟩ = false := frozen_row hrow4
      have hrow5 := set_same 1 (.slice C4 (k + 1) cp4) hrow4
      have hk5 := keeps_setCell W4 Bt 1 (.slice C4 (k + 1) cp4)
      have hbt := HBt.out
      have HN := Lib.hid (show ∃ v, (W4.setCell ⟨Bt, 1, none⟩ (.slice C4 (k + 1) cp4)).heap[Bt]? = some (.cells #[.pointer (some ⟨D, 0, none⟩), v] 112 (0, 0)) ∧ LnB (Bt + 1) (W4.setCell ⟨Bt, 1, none⟩ (.slice C4 (k + 1) cp4)) v (trL (L.take (k + 1))) ∧ Below w.heap.size w (W4.setCell ⟨Bt, 1, none⟩ (.slice C4 (k + 1) cp4)) ∧ Bt + 1 ≤ (W4.setCell ⟨Bt, 1, none⟩ (.slice C4 (k + 1) cp4)).heap.size from
        ⟨_, hrow5, hln4.keep hk5 (fun q h1 _ e => by have e : q = Bt := e; omega), HBl.out.trans (((hK13.none (Mut := fun q => w.heap.size ≤ q)).trans ((hk4.mono (fun q _ e => by omega)).trans (hk5.mono (fun q _ e => by have e : q = Bt := e; omega)))).below HBl.out.size (fun q hq e => by omega)), by
          have h1 := hK13.size
          have h2 := hk4.size
          have h3 := hk5.size
          have h4 := HSz.out
          omega⟩)
      clear hK13 hrow3 hrl hrle hln3 hobv hln4 hk4 hrow4 hrow5 hk5 hi3 hk3 hbt Hrv
      go_wp2_with fail
      try rw [hrun]
      try go_wp2_with fail
      go_roundw
      case rel => exact ⟨k + 1, by omega, by go_num, HN⟩
      case measure => simp [intOf]; omega
    · obtain rfl : k = m := by omega
      obtain ⟨v, hrow, hln, hbl, hsz⟩ := HI.out
      rw [List.take_of_length_le (by rw [HL.out.len]; exact Nat.le_refl _)] at hln
      obtain ⟨C, cp, rfl, hcp, hL9⟩ := hln.lns
      have hlk : (trL L).length = k := by unfold trL; rw [List.length_map, HL.out.len]
      rw [hlk] at hrow hL9
      have HF := Lib.hid (show Bo wq Bt D A n cap nm M C k cp (trL L) from ⟨hrow, HB.out.dic.below hbl (Nat.le_refl _), hL9⟩)
      have HBl := Lib.hid hbl
      clear hrow hln hbl hsz hL9 HI
      go_wp2_with fail
      go_ret
      exact ⟨Bt, C, cp, rfl, HF.out, by rw [HBt.out]; exact Nat.le_refl _, HBl.out⟩
end Go.Proofs.Ythdjbapidodlfaa

namespace Go.Proofs.Ythdjbapidodlfaa
set_option linter.unusedSimpArgs false
set_option linter.unusedVariables false
open Go.RowKit Go.Shelf

theorem trL_at (L : List (List Int)) (k : Nat) : lAt (trL L) k = (lAt L k).reverse := by
  unfold lAt trL
  rcases Nat.lt_or_ge k L.length with h | h
  · simp [List.getD, h]
  · simp [List.getD, List.getElem?_eq_none h]
theorem trL_lv {L : List (List Int)} {m : Nat} (hL : LV L m) : LV (trL L) m := by
  refine ⟨by unfold trL; rw [List.length_map]; exact hL.len, hL.lo, hL.hi, fun j hj => ?_, fun j hj x hx => ?_⟩
  · rw [trL_at, List.length_reverse]; exact hL.le8 j hj
  · rw [trL_at, List.mem_reverse] at hx; exact hL.wd j hj x hx
theorem trL_trL (L : List (List Int)) : trL (trL L) = L := by
  unfold trL
  rw [List.map_map]
  have : (List.reverse ∘ List.reverse : List Int → List Int) = id := by funext x; simp
  rw [this, List.map_id]
theorem trK_len (L : List (List Int)) (p : List Int) (k : Nat) : (trK L p k).length = p.length := by
  induction k with
  | zero => rfl
  | succ k ih => rw [trK_succ, List.length_set, ih]
theorem trK_at {L : List (List Int)} {p : List Int} {k : Nat} (hk : k ≤ p.length) (i : Nat) : iAt (trK L p k) i = if i < k then ((lAt L i).length : Int) - 1 - iAt p i else iAt p i := by
  induction k with
  | zero => rw [if_neg (by omega)]; rfl
  | succ k ih =>
    rw [trK_succ, iAt_set9 _ (by rw [trK_len]; omega), ih (by omega)]
    by_cases h : k = i
    · subst h; rw [if_pos rfl, if_pos (by omega)]
    · rw [if_neg h]
      by_cases h2 : i < k
      · rw [if_pos h2, if_pos (by omega)]
      · rw [if_neg h2, if_neg (by omega)]
theorem iAt_rev {l : List Int} {i : Nat} (hi : i < l.length) : iAt l.reverse i = iAt l (l.length - 1 - i) := by
  rw [iAt_eq (by rw [List.length_reverse]; exact hi), List.getElem_reverse, iAt_eq]
theorem wdA_tr {nm : List Int} {L : List (List Int)} {m : Nat} (hL : LV L m) {x : List Int} (hx : OkM nm L m x) {h : Nat} (hh : h < m) : wdA (trL L) h (iAt (trK L x m) h).toNat = wdA L h (iAt x h).toNat := by
  have hr := hx.rng h hh
  have hm := hL.hi
  unfold wdA
  rw [trL_at, trK_at (by rw [hx.len]; omega), if_pos hh]
  congr 1
  rw [iAt_rev (by omega)]
  congr 1
  omega
theorem okM_tr {nm : List Int} {L : List (List Int)} {m : Nat} (hL : LV L m) {x : List Int} (hx : OkM nm L m x) : OkM nm (trL L) m (trK L x m) := by
  have hm := hL.hi
  have hlo := hL.lo
  refine ⟨by rw [trK_len]; exact hx.len, fun i hi => by rw [trK_at (by rw [hx.len]; omega), if_neg (by omega)]; exact hx.zero i hi, fun h hh => ?_, fun h hh => ?_⟩
  · have hr := hx.rng h hh
    rw [trK_at (by rw [hx.len]; omega), if_pos hh, trL_at, List.length_reverse]
    omega
  · rw [wdA_tr hL hx hh, wdA_tr hL hx (show 0 < m by omega)]
    exact hx.kin h hh
theorem trK_trK {L : List (List Int)} {m : Nat} (hm : m ≤ 4) {x : List Int} (hx : x.length = 4) : trK (trL L) (trK L x m) m = x := by
  apply ext4 (by rw [trK_len, trK_len]; exact hx) hx
  intro i hi
  rw [trK_at (by rw [trK_len]; omega), trK_at (by omega)]
  by_cases h : i < m
  · rw [if_pos h, if_pos h, trL_at, List.length_reverse]; omega
  · rw [if_neg h, if_neg h]
theorem mem_tr {nm : List Int} {L : List (List Int)} {m : Nat} (hL : LV L m) (y : List Int) : y ∈ mtS nm (trL L) ↔ ∃ x ∈ mtS nm L, trK L x m = y := by
  constructor
  · intro hy
    have h1 := (mem_mtS (trL_lv hL) y).1 hy
    have h2 := okM_tr (trL_lv hL) h1
    rw [trL_trL] at h2
    refine ⟨trK (trL L) y m, (mem_mtS hL _).2 h2, ?_⟩
    have := trK_trK (L := trL L) hL.hi h1.len
    rw [trL_trL] at this
    exact this
  · rintro ⟨x, hx, rfl⟩
    exact (mem_mtS (trL_lv hL) _).2 (okM_tr hL ((mem_mtS hL x).1 hx))
theorem befB_tr' {L : List (List Int)} {m : Nat} (hm : m ≤ 4) {x y : List Int} (hx : x.length = 4) (hy : y.length = 4) : befB (trK L x m) (trK L y m) m = befB y x m := by
  apply bool_iff
  rw [befB_iff, befB_iff]
  constructor
  · intro h i hi
    have := h i hi
    rw [trK_at (by omega), trK_at (by omega), if_pos hi, if_pos hi] at this
    omega
  · intro h i hi
    have := h i hi
    rw [trK_at (by omega), trK_at (by omega), if_pos hi, if_pos hi]
    omega
theorem sumN_mem {α : Type} [DecidableEq α] (F : α → Nat) : ∀ (l l' : List α), l.Nodup → l'.Nodup → (∀ x, x ∈ l ↔ x ∈ l') → sumN l F = sumN l' F := by
  intro l
  induction l with
  | nil =>
    intro l' _ _ h
    have : l' = [] := by
      rcases l' with _ | ⟨a, t⟩
      · rfl
      · have := (h a).2 (by simp)
        simp at this
    rw [this]
  | cons a t ih =>
    intro l' hn hn' h
    rw [List.nodup_cons] at hn
    have ha : a ∈ l' := (h a).1 (by simp)
    have h1 : sumN l' F = sumN l' (fun x => (if x = a then F x else 0) + (if x = a then 0 else F x)) := sumN_congr (fun x _ => by
      by_cases hx : x = a
      · rw [if_pos hx, if_pos hx]; rfl
      · rw [if_neg hx, if_neg hx]; omega)
    rw [h1, sumN_add, sumN_single hn' ha F, sumN_cons]
    have h2 : sumN l' (fun x => if x = a then 0 else F x) = sumN (l'.filter (fun x => !decide (x = a))) F := by
      rw [sumN_filter]
      exact sumN_congr (fun x _ => by
        by_cases hx : x = a
        · rw [if_pos hx, if_neg (by simp [hx])]
        · rw [if_neg hx, if_pos (by simp [hx])])
    rw [h2, ih (l'.filter (fun x => !decide (x = a))) hn.2 (List.Pairwise.filter _ hn') (fun x => ?_)]
    rw [List.mem_filter]
    constructor
    · intro hx
      refine ⟨(h x).1 (by simp [hx]), ?_⟩
      have : ¬ x = a := fun e => hn.1 (by rw [← e]; exact hx)
      simp [this]
    · rintro ⟨h3, h4⟩
      have : ¬ x = a := by simpa using h4
      rcases List.mem_cons.1 ((h x).2 h3) with e | e
      · exact absurd e this
      · exact e
theorem sumN_tr {nm : List Int} {L : List (List Int)} {m : Nat} (hL : LV L m) (F : List Int → Nat) : sumN (mtS nm (trL L)) F = sumN (mtS nm L) (fun x => F (trK L x m)) := by
  refine Eq.trans ?_ (sumN_map (mtS nm L) (fun x => trK L x m) F)
  refine sumN_mem F _ _ (mtS_nodup (trL_lv hL)) ?_ (fun y => ?_)
  · have hw := mtS_wpl (nm := nm) hL
    refine List.pairwise_map.2 (List.Pairwise.imp ?_ (List.Pairwise.and_mem.1 (mtS_nodup (nm := nm) hL)))
    rintro a b ⟨ha, hb, hab⟩ e
    apply hab
    rw [← trK_trK (L := L) hL.hi (hw a ha).len, ← trK_trK (L := L) hL.hi (hw b hb).len, e]
  · rw [mem_tr hL, List.mem_map]
/-- What is known of a match if passages are read from their ends. -/
def bS (nm : List Int) (L : List (List Int)) (m : Nat) (x : List Int) : Int × Int := eS (mtS nm (trL L)) m (trK L x m)
def blv (nm : List Int) (L : List (List Int)) (m : Nat) (x : List Int) : Nat := (bS nm L m x).1.toNat
def bct (nm : List Int) (L : List (List Int)) (m : Nat) (x : List Int) : Nat := (bS nm L m x).2.toNat
theorem bS_lab {nm : List Int} {L : List (List Int)} {m : Nat} (hL : LV L m) : Lab (mtS nm L) (fun a b => bef m b a) (blv nm L m) (bct nm L m) := by
  have hlo := hL.lo
  have hw := mtS_wpl (nm := nm) hL
  have hlab := eS_lab (mtS_nodup (nm := nm) (trL_lv hL)) (by omega) hL.hi (mtS_wpl (nm := nm) (trL_lv hL))
  intro x hx
  have hb : ∀ y ∈ mtS nm L, bef m (trK L y m) (trK L x m) = bef m x y := fun y hy => befB_tr' hL.hi (hw y hy).len (hw x hx).len
  obtain ⟨h1, h2⟩ := hlab (trK L x m) ((mem_tr hL _).2 ⟨x, hx, rfl⟩)
  constructor
  · intro h
    exact h1 (fun y' hy' => by
      obtain ⟨y, hy, rfl⟩ := (mem_tr hL _).1 hy'
      rw [hb y hy]; exact h y hy)
  · rintro ⟨y, hy, hyx⟩
    obtain ⟨M, a1, ⟨y', hy', a2, a3⟩, a4, a5⟩ := h2 ⟨trK L y m, (mem_tr hL _).2 ⟨y, hy, rfl⟩, by rw [hb y hy]; exact hyx⟩
    obtain ⟨y2, hy2, rfl⟩ := (mem_tr hL _).1 hy'
    rw [hb y2 hy2] at a2
    refine ⟨M, fun z hz hzx => a1 (trK L z m) ((mem_tr hL _).2 ⟨z, hz, rfl⟩) (by rw [hb z hz]; exact hzx), ⟨y2, hy2, a2, a3⟩, a4, ?_⟩
    show ct (mtS nm (trL L)) m (trK L x m) = _
    rw [a5, sumN_tr hL]
    exact sumN_congr (fun z hz => by rw [hb z hz]; rfl)
theorem bS_lev {nm : List Int} {L : List (List Int)} {m : Nat} (hL : LV L m) : Lev (mtS nm L) (fun a b => bef m b a) (blv nm L m) (bct nm L m) := by
  have hlo := hL.lo
  have hw := mtS_wpl (nm := nm) hL
  exact lev_of (mtS_nodup hL) (bS_lab hL) (fun x => 8 - (iAt x 0).toNat) (fun x hx y hy h => by
    have h0 : befB x y m = true := h
    have := befB_iff.1 h0 0 (by omega)
    have := (hw x hx).rng 0 (by omega)
    have := (hw y hy).rng 0 (by omega)
    omega)
/-- Begins stay in their bounds. -/
theorem bS_pos {nm : List Int} {L : List (List Int)} {m : Nat} (hL : LV L m) {x : List Int} (hx : x ∈ mtS nm L) : 1 ≤ (bS nm L m x).1 ∧ (bS nm L m x).1 ≤ 9 ∧ 1 ≤ (bS nm L m x).2 ∧ (bS nm L m x).2 ≤ 4294967296 := by
  have hlo := hL.lo
  have hin := (mem_tr (nm := nm) hL (trK L x m)).2 ⟨x, hx, rfl⟩
  have hw := mtS_wpl (nm := nm) (trL_lv hL) _ hin
  have h := eS_pos (mtS_nodup (nm := nm) (trL_lv hL)) (by omega) hL.hi (mtS_wpl (nm := nm) (trL_lv hL)) hin
  have h8 := (hw.rng 0 (by omega)).2
  have hg : wgt m (trK L x m) ≤ 2 ^ 32 := by
    unfold wgt
    refine Nat.pow_le_pow_right (by omega) ?_
    have : sumN (List.range m) (fun i => (iAt (trK L x m) i).toNat) ≤ sumN (List.range m) (fun _ => 1 * 8) := sumN_le (fun i hi => by
      have := hw.rng i (List.mem_range.1 hi)
      omega)
    rw [sumN_mul, sumN_one, List.length_range] at this
    have := hL.hi
    omega
  unfold bS
  omega
theorem eS_pos2 {nm : List Int} {L : List (List Int)} {m : Nat} (hL : LV L m) {x : List Int} (hx : x ∈ mtS nm L) : 1 ≤ (eS (mtS nm L) m x).1 ∧ (eS (mtS nm L) m x).1 ≤ 9 ∧ 1 ≤ (eS (mtS nm L) m x).2 ∧ (eS (mtS nm L) m x).2 ≤ 4294967296 := by
  have hlo := hL.lo
  have hw := mtS_wpl (nm := nm) hL x hx
  have h := eS_pos (mtS_nodup (nm := nm) hL) (by omega) hL.hi (mtS_wpl (nm := nm) hL) hx
  have h8 := (hw.rng 0 (by omega)).2
  have hg : wgt m x ≤ 2 ^ 32 := by
    unfold wgt
    refine Nat.pow_le_pow_right (by omega) ?_
    have : sumN (List.range m) (fun i => (iAt x i).toNat) ≤ sumN (List.range m) (fun _ => 1 * 8) := sumN_le (fun i hi => by
      have := hw.rng i (List.mem_range.1 hi)
      omega)
    rw [sumN_mul, sumN_one, List.length_range] at this
    have := hL.hi
    omega
  omega
end Go.Proofs.Ythdjbapidodlfaa
