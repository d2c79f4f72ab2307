/- Stage 6: a list is laid on a board. -/
import Derived.Test.YtigohccehllmnaaFi
import Derived.Laws.CopyRow
namespace Go.Proofs.Ytigohccehllmnaa
set_option linter.unusedSimpArgs false
set_option linter.unusedVariables false
open Go.RowKit Go.Shelf

theorem run_copy_rowS {P : Program} (w : World) (dT sT ty elem : TypeId) (g dLen dCap : Nat) (a : Addr) (sLen sCap : Nat) (cur : Array Value) (t : TypeId) (cs : List Value) (s : Nat)
    (hu : P.underlying dT = some (.slice elem)) (hs : (P.info? elem).map (·.size) = some s)
    (hg : w.heap[g]? = some (.cells cur t (0, 0))) (hn : cs.length = Nat.min sLen dLen * s)
    (hsrc : ∀ j v, cs[j]? = some v → w.cell? (a.add j) = some v) (hfit : cs.length ≤ cur.size) (h1 : ∀ v ∈ cs, v.oneCell' = true) :
    (Builtin.copy_ #[dT, sT] ty #[.slice (some ⟨g, 0, none⟩) dLen dCap, .slice (some a) sLen sCap]).run P w =
      .ok (goInt (Nat.min sLen dLen)) (w.setRow g (cs ++ cur.toList.drop cs.length).toArray) := by
  have hl := run_loadCells_list (P := P) w a cs hsrc
  have hst := run_storeCells_at P g 0 t cs 0 cur w hg (by simpa using hfit) h1
  cases hq : P.info? elem with
  | none => simp [hq] at hs
  | some i =>
    have hi : i.size = s := by simpa [hq] using hs
    simp [Builtin.copy_, run_underlying hu, Builtin.lenOf, Builtin.firstCells, sizeOf, typeInfo, hq, hi, ← hn, hl, hst]
theorem info60_ : (Try.prog.info? 60).map (fun i => (i.zero, i.size, i.bytes)) = some (some (.agg #[.int .i64 0, .int .i64 0, .int .i64 0]), 3, 24) := by kernel_rfl
theorem info2_ : (Try.prog.info? 2).map (fun i => (i.zero, i.size, i.bytes)) = some (some (.int .i64 0), 1, 8) := by kernel_rfl
def cellN (r : Nl) : List Value := [.int .i64 r.one, .int .i64 r.two, .int .i64 r.tr]
def flatN (l : List Nl) : List Value := l.flatMap cellN
theorem flatN_len (l : List Nl) : (flatN l).length = l.length * 3 := by
  induction l with
  | nil => rfl
  | cons x l ih => simp only [flatN, cellN, List.flatMap_cons, List.length_append, List.length_cons, List.length_nil] at ih ⊢; omega
theorem flatN_at (l : List Nl) (j : Nat) (h : j < l.length) : (flatN l)[j * 3]? = some (.int .i64 (lAt l j).one) ∧ (flatN l)[j * 3 + 1]? = some (.int .i64 (lAt l j).two) ∧ (flatN l)[j * 3 + 2]? = some (.int .i64 (lAt l j).tr) := by
  induction l generalizing j with
  | nil => simp at h
  | cons x l ih =>
    cases j with
    | zero => simp [flatN, cellN, lAt]
    | succ j =>
      have := ih j (by simpa using h)
      rw [show (j + 1) * 3 = j * 3 + 1 + 1 + 1 by omega]
      simp only [flatN, cellN, List.flatMap_cons, List.cons_append, List.nil_append, List.getElem?_cons_succ] at this ⊢
      exact this
theorem flatN_one (l : List Nl) : ∀ v ∈ flatN l, v.oneCell' = true := by
  intro v hv
  unfold flatN at hv
  rw [List.mem_flatMap] at hv
  obtain ⟨x, _, h⟩ := hv
  simp only [cellN, List.mem_cons, List.mem_nil_iff, or_false] at h
  rcases h with rfl | rfl | rfl <;> rfl
theorem flatN_set (l : List Nl) (j : Nat) (h : j < l.length) (r : Nl) (ho : r.one = (lAt l j).one) (hw : r.two = (lAt l j).two) : (flatN l).set (j * 3 + 2) (.int .i64 r.tr) = flatN (l.set j r) := by
  induction l generalizing j with
  | nil => simp at h
  | cons x l ih =>
    cases j with
    | zero =>
      simp only [lAt, List.getD_cons_zero] at ho hw
      simp [flatN, cellN, ho, hw]
    | succ j =>
      have := ih j (by simpa using h) (by simpa [lAt] using ho) (by simpa [lAt] using hw)
      rw [show (j + 1) * 3 + 2 = j * 3 + 2 + 1 + 1 + 1 by omega]
      simp only [flatN, cellN, List.flatMap_cons, List.cons_append, List.nil_append, List.set_cons_succ] at this ⊢
      rw [this]
theorem make22 (n : Nat) (hn : n ≤ 1000) (W : World) : (Instr.makeSlice 22 (.int .i64 (n : Int)) (.int .i64 (n : Int))).run Try.prog W = .ok (.slice (some ⟨W.heap.size, 0, none⟩) n n) (W.alloc (.cells (madeCells (Value.agg #[.int .i64 0, .int .i64 0, .int .i64 0]).cells (n * 3)) 60)) := by
  obtain ⟨i, hi, hz, hs, hb⟩ := info_parts info60_
  have h := run_makeSlice (P := Try.prog) W 22 60 i _ Try.underlying22 hi hz .i64 .i64 (n : Int) (n : Int) (by omega) (by omega) (by rw [hs]; omega) (by rw [hb]; omega) (by omega)
  simp only [Int.toNat_natCast, hs] at h
  rw [h]
theorem make41 (n : Nat) (hn : n ≤ 1000) (W : World) : (Instr.makeSlice 41 (.int .i64 (n : Int)) (.int .i64 (n : Int))).run Try.prog W = .ok (.slice (some ⟨W.heap.size, 0, none⟩) n n) (W.alloc (.cells (flatI (List.replicate n 0)).toArray 2)) := by
  obtain ⟨i, hi, hz, hs, hb⟩ := info_parts info2_
  have h := run_makeSlice (P := Try.prog) W 41 2 i _ Try.underlying41 hi hz .i64 .i64 (n : Int) (n : Int) (by omega) (by omega) (by rw [hs]; omega) (by rw [hb]; omega) (by omega)
  simp only [Int.toNat_natCast, hs, Nat.mul_one] at h
  rw [h]
  have e : madeCells (Value.int IntKind.i64 0).cells n = (flatI (List.replicate n 0)).toArray := by
    apply Array.ext'
    have : (Value.int IntKind.i64 0).cells = #[Value.int IntKind.i64 0] := rfl
    rw [this, toList_madeCells_one]
    simp [flatI]
  rw [e]
theorem copy22 (Z n cap : Nat) (A : Option Addr) (zs : List Nl) (cur : Array Value) (ty : TypeId) (W : World) (hZ : W.heap[Z]? = some (.cells cur 60 (0, 0))) (hc : cur.size = n * 3) (h : Nls W A n zs) :
    ∃ W', (Builtin.copy_ #[22, 22] ty #[.slice (some ⟨Z, 0, none⟩) n n, .slice A n cap]).run Try.prog W = .ok (.int .i64 (n : Int)) W' ∧ W'.heap[Z]? = some (.cells (flatN zs).toArray 60 (0, 0)) ∧ Keeps (fun k => k = Z) W W' := by
  obtain ⟨i, hi, hz, hs, hb⟩ := info_parts info60_
  have hmm : Nat.min n n = n := Nat.min_self n
  have hl : (flatN zs).length = n * 3 := by rw [flatN_len, h.1]
  rcases Nat.eq_zero_or_pos n with e0 | e0
  · subst e0
    have hz0 : zs = [] := List.length_eq_zero_iff.1 h.1
    have hc0 : cur = #[] := Array.eq_empty_of_size_eq_zero (by omega)
    refine ⟨W, ?_, by rw [hZ, hc0, hz0]; rfl, Keeps.refl _ _⟩
    cases A with
    | none => simp [Builtin.copy_, run_underlying Try.underlying22, Builtin.lenOf, Builtin.firstCells, sizeOf, typeInfo, hi, hs, storeCells]; rfl
    | some a => simp [Builtin.copy_, run_underlying Try.underlying22, Builtin.lenOf, Builtin.firstCells, sizeOf, typeInfo, hi, hs, loadCells, loadCellsFrom, storeCells]; rfl
  · obtain ⟨b, o, rfl, hcz⟩ := h.2 e0
    have h2 := run_copy_rowS (P := Try.prog) W 22 22 ty 60 Z n n ⟨b, o, none⟩ n cap cur 60 (flatN zs) 3 Try.underlying22 (by rw [hi]; simp [hs]) hZ (by rw [hl, hmm]) (fun j v hj => by
      have hjl : j < n * 3 := by
        have := (List.getElem?_eq_some_iff.1 hj).1
        omega
      rw [Addr.add_lit]
      obtain ⟨a1, a2, a3⟩ := flatN_at zs (j / 3) (by rw [h.1]; omega)
      obtain ⟨c1, c2, c3⟩ := hcz (j / 3) (by omega)
      rcases (by omega : j = j / 3 * 3 ∨ j = j / 3 * 3 + 1 ∨ j = j / 3 * 3 + 2) with e | e | e
      · rw [e] at hj ⊢; rw [a1] at hj; cases hj; exact c1
      · rw [e] at hj ⊢; rw [a2] at hj; cases hj; rw [← Nat.add_assoc]; exact c2
      · rw [e] at hj ⊢; rw [a3] at hj; cases hj; rw [← Nat.add_assoc]; exact c3) (by rw [hl, hc]; exact Nat.le_refl _) (flatN_one zs)
    rw [hmm] at h2
    refine ⟨_, h2, ?_, keeps_setRow _ _ _⟩
    have := setRow_same ((flatN zs ++ cur.toList.drop (flatN zs).length).toArray) hZ
    rw [this, List.drop_of_length_le (by rw [hl]; simp [hc]), List.append_nil]
theorem bd_new {l : NL} {V : World} {Z : Nat} {zs : List Nl} (hZ : V.heap[Z]? = some (.cells (flatN zs).toArray 60 (0, 0))) (hzl : zs.length = l.n) (hL : Ints V l.LA l.ln l.ls) (hR : Ints V l.RA l.rn l.rs) :
    Bd ((V.alloc (.cells (flatI (List.replicate l.n 0)).toArray 2)).alloc (.cells #[.int .i64 l.N, .slice (some ⟨Z, 0, none⟩) l.n l.n, .slice l.LA l.ln l.lc, .slice l.RA l.rn l.rc, .slice (some ⟨V.heap.size, 0, none⟩) l.n l.n] 87)) ⟨V.heap.size + 1, V.heap.size, Z, l, zs⟩ (fun _ => 0) := by
  have hb1 := below_alloc_ V (.cells (flatI (List.replicate l.n 0)).toArray 2)
  have hr1 := heap_alloc_new_ V (.cells (flatI (List.replicate l.n 0)).toArray 2)
  have hs1 : (V.alloc (.cells (flatI (List.replicate l.n 0)).toArray 2)).heap.size = V.heap.size + 1 := by simp
  generalize V.alloc (.cells (flatI (List.replicate l.n 0)).toArray 2) = V1 at *
  have hb2 := below_alloc_ V1 (.cells #[.int .i64 l.N, .slice (some ⟨Z, 0, none⟩) l.n l.n, .slice l.LA l.ln l.lc, .slice l.RA l.rn l.rc, .slice (some ⟨V.heap.size, 0, none⟩) l.n l.n] 87)
  have hr2 := heap_alloc_new_ V1 (.cells #[.int .i64 l.N, .slice (some ⟨Z, 0, none⟩) l.n l.n, .slice l.LA l.ln l.lc, .slice l.RA l.rn l.rc, .slice (some ⟨V.heap.size, 0, none⟩) l.n l.n] 87)
  generalize V1.alloc (.cells #[.int .i64 l.N, .slice (some ⟨Z, 0, none⟩) l.n l.n, .slice l.LA l.ln l.lc, .slice l.RA l.rn l.rc, .slice (some ⟨V.heap.size, 0, none⟩) l.n l.n] 87) = V2 at *
  rw [hs1] at hr2
  have hZl := lt_of_block hZ
  have hZ2 := (hb2.block _ (by omega)).trans ((hb1.block _ hZl).trans hZ)
  have hF2 := (hb2.block _ (by omega)).trans hr1
  refine ⟨by rw [cell_row hr2]; rfl, by rw [cell_row hr2]; rfl, by rw [cell_row hr2]; rfl, by rw [cell_row hr2]; rfl, by rw [cell_row hr2]; rfl, fun j hj => ?_, fun j hj => ?_, ⟨_, hF2, by simp [flatI]⟩, (hL.below hb1 (Nat.le_refl _)).below hb2 (Nat.le_refl _), (hR.below hb1 (Nat.le_refl _)).below hb2 (Nat.le_refl _), by simp, by simp; omega, fun hn a ha => ?_, fun hn a ha => ?_⟩
  · have hj2 : j < l.n := hj
    obtain ⟨a1, a2, a3⟩ := flatN_at zs j (by omega)
    exact ⟨by rw [cell_row hZ2, List.getElem?_toArray]; exact a1, by rw [cell_row hZ2, List.getElem?_toArray]; exact a2, by rw [cell_row hZ2, List.getElem?_toArray]; exact a3⟩
  · rw [cell_row hF2, List.getElem?_toArray]
    simp only [flatI, List.getElem?_map, List.getElem?_replicate]
    rw [if_pos hj]; rfl
  · obtain ⟨b, o, e, hc⟩ := hL.2 hn
    have := lt_of_cell (hc 0 hn)
    have hae : a = ⟨b, o, none⟩ := Option.some.inj (ha.symm.trans e)
    rw [hae]
    exact Nat.ne_of_lt this
  · obtain ⟨b, o, e, hc⟩ := hR.2 hn
    have := lt_of_cell (hc 0 hn)
    have hae : a = ⟨b, o, none⟩ := Option.some.inj (ha.symm.trans e)
    rw [hae]
    exact Nat.ne_of_lt this
/-- The links without some. -/
def dropF (zs : List Nl) (ds : List Int) : List Nl := ds.foldl (fun z d => z.set d.toNat ⟨(lAt z d.toNat).one, (lAt z d.toNat).two, 0⟩) zs
theorem dropF_len (ds : List Int) : ∀ zs : List Nl, (dropF zs ds).length = zs.length := by
  induction ds with
  | nil => intro zs; rfl
  | cons d ds ih => intro zs; show (dropF (zs.set d.toNat _) ds).length = _; rw [ih, List.length_set]
theorem dropF_snoc (zs : List Nl) (ds : List Int) (d : Int) : dropF zs (ds ++ [d]) = (dropF zs ds).set d.toNat ⟨(lAt (dropF zs ds) d.toNat).one, (lAt (dropF zs ds) d.toNat).two, 0⟩ := by simp [dropF]
theorem lAt_set (l : List Nl) {j : Nat} (hj : j < l.length) (v : Nl) (i : Nat) : lAt (l.set j v) i = if j = i then v else lAt l i := by
  unfold lAt
  rw [List.getD_eq_getElem?_getD, List.getD_eq_getElem?_getD, List.getElem?_set]
  split
  · rename_i e; subst e; simp [hj]
  · rfl
theorem lAt_dropF (ds : List Int) : ∀ (zs : List Nl), (∀ d ∈ ds, 0 ≤ d ∧ d < zs.length) → ∀ k, k < zs.length → lAt (dropF zs ds) k = if (k : Int) ∈ ds then ⟨(lAt zs k).one, (lAt zs k).two, 0⟩ else lAt zs k := by
  induction ds with
  | nil => intro zs _ k _; simp [dropF]
  | cons d ds ih =>
    intro zs hd k hk
    have h0 := hd d (by simp)
    show lAt (dropF (zs.set d.toNat _) ds) k = _
    rw [ih _ (fun x hx => by rw [List.length_set]; exact hd x (List.mem_cons_of_mem _ hx)) k (by rw [List.length_set]; exact hk), lAt_set _ (by omega)]
    by_cases e : d.toNat = k
    · subst e
      rw [if_pos rfl]
      have : ((d.toNat : Nat) : Int) = d := by omega
      rw [if_pos (show ((d.toNat : Nat) : Int) ∈ d :: ds by rw [this]; simp)]
      split <;> rfl
    · rw [if_neg e]
      have hne : (k : Int) ≠ d := by omega
      by_cases e2 : (k : Int) ∈ ds
      · rw [if_pos e2, if_pos (List.mem_cons_of_mem _ e2)]
      · rw [if_neg e2, if_neg (by simp [hne, e2])]
theorem chk_zero {l : NL} (h : chkL l = 0) : (2 ≤ l.N ∧ l.N ≤ 40) ∧ l.n ≤ 120 ∧ (1 ≤ l.ln ∧ l.ln ≤ 10) ∧ (1 ≤ l.rn ∧ l.rn ≤ 10) ∧ l.zs.all (okN l.N) = true ∧ risI l.N l.ls = true ∧ risI l.N l.rs = true ∧ ∀ y ∈ l.ls, y ∉ l.rs := by
  unfold chkL at h
  by_cases h1 : (inB 2 40 l.N && decide (l.n ≤ 120) && (inB 1 10 l.ln && inB 1 10 l.rn)) = false
  · rw [if_pos h1] at h; exact absurd h (by decide)
  by_cases h2 : l.zs.all (okN l.N) = false
  · rw [if_neg h1, if_pos h2] at h; exact absurd h (by decide)
  by_cases h3 : (risI l.N l.ls && risI l.N l.rs) = false
  · rw [if_neg h1, if_neg h2, if_pos h3] at h; exact absurd h (by decide)
  by_cases h4 : l.ls.any (fun x => decide (x ∈ l.rs)) = true
  · rw [if_neg h1, if_neg h2, if_neg h3, if_pos h4] at h; exact absurd h (by decide)
  rw [Bool.not_eq_false] at h1 h2 h3
  simp only [Bool.and_eq_true, inB_iff, decide_eq_true_eq] at h1 h3
  refine ⟨h1.1.1, h1.1.2, ⟨by omega, by omega⟩, ⟨by omega, by omega⟩, h2, h3.1, h3.2, fun y hy hy2 => h4 (List.any_eq_true.2 ⟨y, hy, decide_eq_true hy2⟩)⟩
theorem bd_ok {l : NL} {W : World} (h : chkL l = 0) (hn : NLs W l) (ds : List Int) (hd : risI (l.n : Int) ds = true) (B F Z : Nat) : BdOk ⟨B, F, Z, l, dropF l.zs ds⟩ := by
  obtain ⟨a, b, c, d, e, f, g, i⟩ := chk_zero h
  have hl := hn.zs.1
  refine ⟨a, b, c, d, hn.lc, hn.rc, by rw [dropF_len]; exact hl, fun k hk => ?_, f, g, hn.ls.1, hn.rs.1, i⟩
  have hk2 : k < l.zs.length := by rw [hl]; exact hk
  rw [lAt_dropF ds l.zs (fun x hx => by have := ris_mem hd x hx; rw [hl]; exact this) k hk2]
  have h9 := List.all_eq_true.1 e (lAt l.zs k) (by rw [lAt_eq hk2]; exact List.getElem_mem _)
  unfold okN at h9
  simp only [Bool.and_eq_true, inB_iff, Bool.not_eq_true', decide_eq_false_iff_not] at h9
  split
  · simp only; exact ⟨⟨by omega, by omega⟩, ⟨by omega, by omega⟩, h9.1.2, by omega, by omega⟩
  · simp only; exact ⟨⟨by omega, by omega⟩, ⟨by omega, by omega⟩, h9.1.2, by omega, by omega⟩
section
attribute [local go_sem ↓] exec_app at_app
attribute [local go_sem] Oper.semAt_some
set_option maxRecDepth 100000 in
set_option maxHeartbeats 16000000 in
theorem lay41 (l : NL) (DA : Option Addr) (dn dc : Nat) (ds : List Int) (w : World) (h : NLs w l) (hD : Ints w DA dn ds) (hdc : dn ≤ dc) (hd6 : dn ≤ 1000000) :
    Calls Try.prog 41 #[.agg #[.int .i64 l.N, .slice l.A l.n l.cap, .slice l.LA l.ln l.lc, .slice l.RA l.rn l.rc], .slice DA dn dc] w fun e w' => (chkL l ≠ 0 ∧ e = .returned (.tuple #[.pointer none, .int .i64 (chkL l)]) ∨ chkL l = 0 ∧ risI (l.n : Int) ds = false ∧ e = .returned (.tuple #[.pointer none, .int .i64 3]) ∨
      chkL l = 0 ∧ risI (l.n : Int) ds = true ∧ ∃ B F Z, e = .returned (.tuple #[.pointer (some ⟨B, 0, none⟩), .int .i64 0]) ∧ Bd w' ⟨B, F, Z, l, dropF l.zs ds⟩ (fun _ => 0) ∧ w.heap.size ≤ F) ∧ Below w.heap.size w w' := by
  have HS0 := Lib.hid h
  obtain ⟨R, hR⟩ : ∃ v, w.heap.size = v := ⟨_, rfl⟩
  have hb0 := below_alloc_ w (.cells #[.int .i64 l.N, .slice l.A l.n l.cap, .slice l.LA l.ln l.lc, .slice l.RA l.rn l.rc] 25)
  have hr0 := heap_alloc_new_ w (.cells #[.int .i64 l.N, .slice l.A l.n l.cap, .slice l.LA l.ln l.lc, .slice l.RA l.rn l.rc] 25)
  have hz0 : (w.alloc (.cells #[.int .i64 l.N, .slice l.A l.n l.cap, .slice l.LA l.ln l.lc, .slice l.RA l.rn l.rc] 25)).heap.size = w.heap.size + 1 := by simp
  obtain ⟨w0, hw0⟩ : ∃ v, w.alloc (.cells #[.int .i64 l.N, .slice l.A l.n l.cap, .slice l.LA l.ln l.lc, .slice l.RA l.rn l.rc] 25) = v := ⟨_, rfl⟩
  rw [hw0] at hb0 hr0 hz0
  rw [hR] at hr0 hz0
  have hB := hb0
  have S := Lib.hid (h.below hB (Nat.le_refl _))
  have SD := Lib.hid (hD.below hB (Nat.le_refl _))
  have X := Lib.hid hr0
  have HW0 := Lib.hid hw0
  have B := Lib.hid hB
  have HR := Lib.hid hR
  clear hB hR hb0 hr0 hz0 hw0 h hD
  have ltX : R < w0.heap.size := lt_of_block X.out
  have zX0 : w0.cell? ⟨R, 0, none⟩ = some (.int .i64 l.N) := by rw [cell_row X.out]; rfl
  have zX1 : w0.cell? ⟨R, 1, none⟩ = some (.slice l.A l.n l.cap) := by rw [cell_row X.out]; rfl
  have zX2 : w0.cell? ⟨R, 2, none⟩ = some (.slice l.LA l.ln l.lc) := by rw [cell_row X.out]; rfl
  have zX3 : w0.cell? ⟨R, 3, none⟩ = some (.slice l.RA l.rn l.rc) := by rw [cell_row X.out]; rfl
  go_enter Try.func41, Try.ntmps41
  go_wp2_with fail
  try rw [HW0.out]
  try rw [HR.out]
  try simp only [Nat.add_assoc, Nat.reduceAdd]
  try go_wp2_with fail
  clear zX0 zX1 zX2 zX3 ltX
  refine (checkList17 l w0 S.out).mono ?_
  rintro en w1 ⟨rfl, hb⟩
  replace S := Lib.hid (S.out.below hb (Nat.le_refl _))
  replace SD := Lib.hid (SD.out.below hb (Nat.le_refl _))
  replace X := Lib.hid ((hb.block _ (lt_of_block X.out)).trans X.out)
  replace B := Lib.hid (B.out.trans (hb.mono B.out.size))
  obtain ⟨c, hc⟩ : ∃ v, chkL l = v := ⟨_, rfl⟩
  rw [hc]
  have HC := Lib.hid hc
  clear hc
  try clear hb
  have ltX : R < w1.heap.size := lt_of_block X.out
  have zX0 : w1.cell? ⟨R, 0, none⟩ = some (.int .i64 l.N) := by rw [cell_row X.out]; rfl
  have zX1 : w1.cell? ⟨R, 1, none⟩ = some (.slice l.A l.n l.cap) := by rw [cell_row X.out]; rfl
  have zX2 : w1.cell? ⟨R, 2, none⟩ = some (.slice l.LA l.ln l.lc) := by rw [cell_row X.out]; rfl
  have zX3 : w1.cell? ⟨R, 3, none⟩ = some (.slice l.RA l.rn l.rc) := by rw [cell_row X.out]; rfl
  by_cases h0 : c = 0
  rotate_left
  · have d0 : (c != 0) = true := by rw [bne_iff_ne]; exact h0
    have H0 := Lib.hid h0
    clear h0
    go_wp2_with fail
    go_ret2
    exact ⟨.inl ⟨by rw [HC.out]; exact H0.out, by rw [HC.out]; rfl⟩, B.out⟩
  subst h0
  obtain ⟨rs, hrs⟩ : ∃ v, risI (l.n : Int) ds = v := ⟨_, rfl⟩
  have Hrs := Lib.hid hrs
  have hr2 := heap_alloc_new_ w1 (.cells #[.slice DA dn dc] 23)
  have hb := below_alloc_ w1 (.cells #[.slice DA dn dc] 23)
  have k2 := rising47 (some ⟨w1.heap.size, 0, none⟩) 1 1 [ds] (l.n : Int) _ (rows_one hr2 (SD.out.below hb (Nat.le_refl _)) hdc hd6) (by omega)
  rw [show [ds].all (risI (l.n : Int)) = risI (l.n : Int) ds by simp, hrs] at k2
  have K2 := Lib.hid k2
  clear k2 hr2 hb hrs
  go_wp2_with fail
  refine K2.out.mono ?_
  rintro en w8 ⟨rfl, rfl⟩
  have hb := below_alloc_ w1 (.cells #[.slice DA dn dc] 23)
  obtain ⟨w5, hw5⟩ : ∃ v, w1.alloc (.cells #[.slice DA dn dc] 23) = v := ⟨_, rfl⟩
  rw [hw5] at hb ⊢
  clear hw5 K2
  clear zX0 zX1 zX2 zX3 ltX
  replace S := Lib.hid (S.out.below hb (Nat.le_refl _))
  replace SD := Lib.hid (SD.out.below hb (Nat.le_refl _))
  replace X := Lib.hid ((hb.block _ (lt_of_block X.out)).trans X.out)
  replace B := Lib.hid (B.out.trans (hb.mono B.out.size))
  clear hb
  have ltX : R < w5.heap.size := lt_of_block X.out
  have zX0 : w5.cell? ⟨R, 0, none⟩ = some (.int .i64 l.N) := by rw [cell_row X.out]; rfl
  have zX1 : w5.cell? ⟨R, 1, none⟩ = some (.slice l.A l.n l.cap) := by rw [cell_row X.out]; rfl
  have zX2 : w5.cell? ⟨R, 2, none⟩ = some (.slice l.LA l.ln l.lc) := by rw [cell_row X.out]; rfl
  have zX3 : w5.cell? ⟨R, 3, none⟩ = some (.slice l.RA l.rn l.rc) := by rw [cell_row X.out]; rfl
  rcases rs with _ | _
  · go_wp2_with fail
    go_ret2
    exact ⟨.inr (.inl ⟨HC.out, Hrs.out, rfl⟩), B.out⟩
  have hz := chk_zero HC.out
  have hn120 : l.n ≤ 120 := hz.2.1
  have Hz := Lib.hid hz
  have hmk := fun W => make22 l.n (by omega) W
  have hb := below_alloc_ w5 (.cells (madeCells (Value.agg #[.int .i64 0, .int .i64 0, .int .i64 0]).cells (l.n * 3)) 60)
  have hrZ := heap_alloc_new_ w5 (.cells (madeCells (Value.agg #[.int .i64 0, .int .i64 0, .int .i64 0]).cells (l.n * 3)) 60)
  obtain ⟨w6, hw6⟩ : ∃ v, w5.alloc (.cells (madeCells (Value.agg #[.int .i64 0, .int .i64 0, .int .i64 0]).cells (l.n * 3)) 60) = v := ⟨_, rfl⟩
  obtain ⟨Z, hZ⟩ : ∃ v, w5.heap.size = v := ⟨_, rfl⟩
  rw [hw6] at hb hrZ
  rw [hZ] at hrZ
  obtain ⟨w7, hcp, hr7, hk7⟩ := copy22 Z l.n l.cap l.A l.zs _ 3 w6 hrZ (size_madeCells _ _) (S.out.zs.below hb (Nat.le_refl _))
  have hRZ : R ≠ Z := by have := lt_of_block X.out; omega
  have HRZ := Lib.hid hRZ
  have hwZ : w.heap.size ≤ Z := by have := B.out.size; omega
  have hbX := Lib.hid ((hb.block _ (lt_of_block X.out)).trans X.out)
  have x1 : w6.cell? ⟨R, 1, none⟩ = some (.slice l.A l.n l.cap) := by rw [cell_row hbX.out]; rfl
  have HX7 := Lib.hid ((hk7.block _ (lt_of_block hbX.out) hRZ).trans hbX.out)
  have HZ := Lib.hid hZ
  have Hw6 := Lib.hid (show w5.alloc (.cells (madeCells #[Value.int .i64 0, .int .i64 0, .int .i64 0] (l.n * 3)) 60) = w6 from hw6)
  have Hr7 := Lib.hid hr7
  have H567 := Lib.hid (show Keeps (fun j => Z ≤ j) w5 w7 from (Keeps.of_below (hb.mono (Nat.le_refl _)) (Nat.le_refl _)).mono (fun j hj e => by omega) |>.trans (hk7.mono (fun j _ e => by omega)))
  clear hb hrZ hw6 hk7 hr7 hbX hRZ hz hZ
  go_upto_region 7 with fail
  go_wp2_with fail
  rw [Hw6.out, HZ.out]
  rw [hcp]
  go_wp2_with fail
  clear x1 hcp
  clear zX0 zX1 zX2 zX3 ltX
  go_loopw [9, 32] (fun x i wr => ∃ q : Nat, q ≤ dn ∧ i = .int .i64 (q : Int) ∧ Hid (wr.heap[Z]? = some (.cells (flatN (dropF l.zs (ds.take q))).toArray 60 (0, 0)) ∧ Keeps (fun j => j = Z) w7 wr)) (fun x i _ => dn - (intOf i).toNat)
  case atStart => exact ⟨0, Nat.zero_le _, rfl, Lib.hid ⟨Hr7.out, Keeps.refl _ _⟩⟩
  case round =>
    obtain ⟨q, hq, rfl, HE⟩ := hrel
    obtain ⟨wk, rfl⟩ : ∃ wk, wk = wr := ⟨_, rfl⟩
    have hdl := SD.out.1
    by_cases hlt : q < dn
    · obtain ⟨bz, oz, hDA, hcz⟩ := SD.out.2 (by omega)
      have hd0 := ris_mem Hrs.out (iAt ds q) (by rw [iAt_eq (by omega)]; exact List.getElem_mem _)
      have hcd := hcz q hlt
      have hbz5 : bz < w5.heap.size := lt_of_cell hcd
      have hkk := H567.out.trans (HE.out.2.mono (fun j _ e => by omega))
      have c0 := (keep_cells hkk hbz5 (by have := HZ.out; omega) _).trans hcd
      have hrw := HE.out.1
      have hlen := flatN_len (dropF l.zs (ds.take q))
      rw [dropF_len, S.out.zs.1] at hlen
      obtain ⟨d, hd⟩ : ∃ d : Nat, iAt ds q = (d : Int) := ⟨(iAt ds q).toNat, by omega⟩
      rw [hd] at c0 hd0
      have hdn : d < l.n := by omega
      have cz : wk.cell? ⟨Z, d * 3 + 2, none⟩ = some (.int .i64 (lAt (dropF l.zs (ds.take q)) d).tr) := by
        rw [cell_row hrw, List.getElem?_toArray]
        exact (flatN_at _ d (by rw [dropF_len, S.out.zs.1]; exact hdn)).2.2
      have fz := frozen_row (k := d * 3 + 2) hrw
      have HN := Lib.hid (show (wk.setCell ⟨Z, d * 3 + 2, none⟩ (.int .i64 0)).heap[Z]? = some (.cells (flatN (dropF l.zs (ds.take (q + 1)))).toArray 60 (0, 0)) ∧ Keeps (fun j => j = Z) w7 (wk.setCell ⟨Z, d * 3 + 2, none⟩ (.int .i64 0)) from by
        refine ⟨?_, HE.out.2.trans (keeps_setCell _ _ _ _)⟩
        rw [set_same _ _ hrw, List.take_succ_eq_append_getElem (by omega), dropF_snoc, ← iAt_eq, hd, Int.toNat_natCast]
        simp only [List.setIfInBounds_toArray]
        rw [flatN_set _ d (by rw [dropF_len, S.out.zs.1]; exact hdn) ⟨(lAt (dropF l.zs (ds.take q)) d).one, (lAt (dropF l.zs (ds.take q)) d).two, 0⟩ rfl rfl])
      have i0 : (0 : Int) ≤ (q : Int) := by omega
      have i1 : (q : Int) < (dn : Int) := by omega
      have j0 : (0 : Int) ≤ (d : Int) := by omega
      have j1 : (d : Int) < (l.n : Int) := by omega
      clear hcz hcd hbz5 hkk hrw hlen hd hd0 hdl HE
      rw [hDA]
      go_wp2_with fail
      go_roundw
      case rel => exact ⟨q + 1, by omega, by go_num, HN⟩
      case measure => simp [intOf]; omega
    · obtain rfl : q = dn := by omega
      have hkk := H567.out.trans (HE.out.2.mono (fun j _ e => by omega))
      have hsz : w5.heap.size ≤ wk.heap.size := hkk.size
      have hRk := (HE.out.2.block _ (lt_of_block HX7.out) (by have := HRZ.out; omega)).trans HX7.out
      have fR := frozen_row (k := 1) hRk
      have hV8 := set_same 1 (Value.slice (some ⟨Z, 0, none⟩) l.n l.n) hRk
      have hZ8 := (Below.heap_setCell wk ⟨R, 1, none⟩ (Value.slice (some ⟨Z, 0, none⟩) l.n l.n) Z (show Z ≠ R by have := HRZ.out; omega)).trans HE.out.1
      have hk8 : Below w.heap.size w (wk.setCell ⟨R, 1, none⟩ (Value.slice (some ⟨Z, 0, none⟩) l.n l.n)) := by
        have h1 : Keeps (fun j => w.heap.size ≤ j) w5 wk := hkk.mono (fun j hj e => by have := HZ.out; omega)
        have h2 : Keeps (fun j => w.heap.size ≤ j) wk (wk.setCell ⟨R, 1, none⟩ (Value.slice (some ⟨Z, 0, none⟩) l.n l.n)) := (keeps_setCell wk R 1 (Value.slice (some ⟨Z, 0, none⟩) l.n l.n)).mono (fun j _ e => by have := HR.out; omega)
        exact B.out.trans ((h1.trans h2).below B.out.size (fun j hj e => by omega))
      obtain ⟨V, hV⟩ : ∃ v, wk.setCell ⟨R, 1, none⟩ (Value.slice (some ⟨Z, 0, none⟩) l.n l.n) = v := ⟨_, rfl⟩
      rw [hV] at hV8 hZ8 hk8
      simp only [List.setIfInBounds_toArray, List.set_cons_succ, List.set_cons_zero] at hV8
      have i1 : ¬ ((q : Int) < (q : Int)) := by omega
      have HVL := Lib.hid (HS0.out.ls.below hk8 (Nat.le_refl _))
      have HVR := Lib.hid (HS0.out.rs.below hk8 (Nat.le_refl _))
      have HV8 := Lib.hid hV8
      have HZ8 := Lib.hid hZ8
      have HK8 := Lib.hid hk8
      have HV := Lib.hid hV
      have xk : wk.cell? ⟨R, 1, none⟩ = some (.slice l.A l.n l.cap) := by rw [cell_row hRk]; rfl
      clear hkk hRk hV8 hZ8 hk8 hsz hV hdl hlt
      go_wp2_with fail
      rw [HV.out]
      clear xk fR
      have y0 : V.cell? ⟨R, 0, none⟩ = some (.int .i64 l.N) := by rw [cell_row HV8.out]; rfl
      have y1 : V.cell? ⟨R, 1, none⟩ = some (.slice (some ⟨Z, 0, none⟩) l.n l.n) := by rw [cell_row HV8.out]; rfl
      have y2 : V.cell? ⟨R, 2, none⟩ = some (.slice l.LA l.ln l.lc) := by rw [cell_row HV8.out]; rfl
      have y3 : V.cell? ⟨R, 3, none⟩ = some (.slice l.RA l.rn l.rc) := by rw [cell_row HV8.out]; rfl
      have ltR := lt_of_block HV8.out
      refine wp_region_held_drew (S := fun w2 => Below V.heap.size V w2) (by kernel_rfl) (drew_b _ _) (fun hS0 => ?_)
      refine wpAnyH_take (i := 0) (oi := { dst := some 43, op := Go.Op.load 25 (Go.Operand.tmp 2), type := 25, pos := "board.go:33", after := #[], guard := none }) (v := .agg #[.int .i64 l.N, .slice (some ⟨Z, 0, none⟩) l.n l.n, .slice l.LA l.ln l.lc, .slice l.RA l.rn l.rc]) rfl (by kernel_rfl) (by kernel_rfl) (by kernel_rfl) (fun _ _ _ h => h) (Or.inl ⟨by rfl, by intro w2 hSw; (try dsimp only at hSw); have q0 := (hSw.cell ltR).trans y0; have q1 := (hSw.cell ltR).trans y1; have q2 := (hSw.cell ltR).trans y2; have q3 := (hSw.cell ltR).trans y3; go_simp⟩) hS0 ?_
      try simp only [Act.put, List.setIfInBounds_toArray, List.set_cons_zero, List.set_cons_succ]
      refine wpAnyH_take (i := 1) (oi := { dst := some 44, op := Go.Op.move (Go.Operand.tmp 7), type := 22, pos := "board.go:33", after := #[], guard := none }) (v := .slice (some ⟨Z, 0, none⟩) l.n l.n) rfl (by kernel_rfl) (by kernel_rfl) (by kernel_rfl) (fun _ _ _ h => h) (Or.inl ⟨by rfl, by intro w2 hSw; (try dsimp only at hSw); go_simp⟩) hS0 ?_
      try simp only [Act.put, List.setIfInBounds_toArray, List.set_cons_zero, List.set_cons_succ]
      refine wpAnyH_take (i := 2) (oi := { dst := some 45, op := Go.Op.call { callee := Go.Callee.builtin Go.Builtin.len, args := #[Go.Operand.tmp 44], argTypes := #[22] }, type := 3, pos := "board.go:33", after := #[{ on := 1, ground := Go.Ground.data }], guard := none }) (v := .int .i64 (l.n : Int)) rfl (by kernel_rfl) (by kernel_rfl) (by kernel_rfl) (fun _ _ _ h => h) (Or.inl ⟨by rfl, by intro w2 hSw; (try dsimp only at hSw); go_simp⟩) hS0 ?_
      try simp only [Act.put, List.setIfInBounds_toArray, List.set_cons_zero, List.set_cons_succ]
      have hdr : Below V.heap.size V V.drew := hS0
      generalize V.drew = Vg at hS0 hdr ⊢
      refine wpAnyH_ready (rs := [3]) (by kernel_rfl) (by simp) ?_
      refine AllReadyH.cons (o := { dst := some 46, op := Go.Op.makeSlice 41 (Go.Operand.tmp 45) (Go.Operand.tmp 45), type := 41, pos := "board.go:33", after := #[{ on := 2, ground := Go.Ground.data }, { on := 2, ground := Go.Ground.data }], guard := none }) rfl (fun K hK => ?_) AllReadyH.nil
      go_simp
      rw [make41 l.n (by omega) Vg]
      refine hK.out _ _ (hS0.trans ((below_alloc_ _ _).mono hS0.size)) (fun hS1 => ?_)
      clear hK K
      try simp only [Act.put, List.setIfInBounds_toArray, List.set_cons_zero, List.set_cons_succ]
      refine wpAnyH_take (i := 4) (oi := { dst := some 47, op := Go.Op.build 87 #[(0, Go.Operand.tmp 43), (1, Go.Operand.tmp 46)], type := 87, pos := "board.go:33", after := #[{ on := 0, ground := Go.Ground.data }, { on := 3, ground := Go.Ground.data }], guard := none }) (v := .agg #[.int .i64 l.N, .slice (some ⟨Z, 0, none⟩) l.n l.n, .slice l.LA l.ln l.lc, .slice l.RA l.rn l.rc, .slice (some ⟨Vg.heap.size, 0, none⟩) l.n l.n]) rfl (by kernel_rfl) (by kernel_rfl) (by kernel_rfl) (fun _ _ _ h => h) (Or.inl ⟨by rfl, by intro w2 hSw; (try dsimp only at hSw); go_simp⟩) hS1 ?_
      try simp only [Act.put, List.setIfInBounds_toArray, List.set_cons_zero, List.set_cons_succ]
      refine wpAnyH_ready (rs := [5]) (by kernel_rfl) (by simp) ?_
      refine AllReadyH.cons (o := { dst := some 48, op := Go.Op.box 87 (Go.Operand.tmp 47), type := 64, pos := "board.go:33", after := #[{ on := 4, ground := Go.Ground.data }], guard := none }) rfl (fun K hK => ?_) AllReadyH.nil
      go_simp
      refine hK.out _ _ (hS1.trans ((below_alloc_ _ _).mono hS1.size)) (fun hS2 => ?_)
      clear hK K
      try simp only [Act.put, List.setIfInBounds_toArray, List.set_cons_zero, List.set_cons_succ]
      refine wpAnyH_take (i := 6) (oi := { dst := some 4, op := Go.Op.assign (Go.Operand.tmp 48), type := 64, pos := "board.go:33", after := #[{ on := 5, ground := Go.Ground.data }, { on := 0, ground := Go.Ground.phase }, { on := 1, ground := Go.Ground.phase }, { on := 2, ground := Go.Ground.phase }, { on := 3, ground := Go.Ground.phase }, { on := 4, ground := Go.Ground.phase }, { on := 5, ground := Go.Ground.phase }], guard := none }) (v := .pointer (some ⟨Vg.heap.size + 1, 0, none⟩)) rfl (by kernel_rfl) (by kernel_rfl) (by kernel_rfl) (fun _ _ _ h => h) (Or.inl ⟨by rfl, by intro w2 hSw; (try dsimp only at hSw); go_simp⟩) hS2 ?_
      try simp only [Act.put, List.setIfInBounds_toArray, List.set_cons_zero, List.set_cons_succ]
      refine wpAnyH_take (i := 7) (oi := { dst := some 5, op := Go.Op.assign (Go.Operand.const (Go.Value.int Go.IntKind.i64 0)), type := 29, pos := "board.go:33", after := #[{ on := 6, ground := Go.Ground.chain }, { on := 0, ground := Go.Ground.phase }, { on := 1, ground := Go.Ground.phase }, { on := 2, ground := Go.Ground.phase }, { on := 3, ground := Go.Ground.phase }, { on := 4, ground := Go.Ground.phase }, { on := 5, ground := Go.Ground.phase }, { on := 6, ground := Go.Ground.phase }], guard := none }) (v := .int .i64 0) rfl (by kernel_rfl) (by kernel_rfl) (by kernel_rfl) (fun _ _ _ h => h) (Or.inl ⟨by rfl, by intro w2 hSw; (try dsimp only at hSw); go_simp⟩) hS2 ?_
      try simp only [Act.put, List.setIfInBounds_toArray, List.set_cons_zero, List.set_cons_succ]
      refine wpAnyH_done (by kernel_rfl) ?_ _
      have hn1 := ((List.take_of_length_le (show ds.length ≤ q by rw [SD.out.1]; exact Nat.le_refl _)) : ds.take q = ds)
      have hZg := (hdr.block _ (lt_of_block HZ8.out)).trans HZ8.out
      rw [hn1] at hZg
      have hbd := bd_new hZg (by rw [dropF_len, S.out.zs.1]) (HVL.out.below hdr (Nat.le_refl _)) (HVR.out.below hdr (Nat.le_refl _))
      have hle : w.heap.size ≤ Vg.heap.size := Nat.le_trans HK8.out.size hdr.size
      have hbl := HK8.out.trans (hS2.mono HK8.out.size)
      clear hdr hS0 hS1 hS2 hZg
      go_wp2_with fail
      go_ret2
      exact ⟨.inr (.inr ⟨HC.out, Hrs.out, _, _, _, rfl, hbd, hle⟩), hbl⟩
end
end Go.Proofs.Ytigohccehllmnaa
