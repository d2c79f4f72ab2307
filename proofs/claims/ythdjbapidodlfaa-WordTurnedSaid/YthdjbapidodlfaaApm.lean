/- Stage 4: appends to rows that grow (numbers, lines, pairs), parts of a line, a row that is stored. -/
import Derived.Test.YthdjbapidodlfaaApl
import Derived.Test.YthdjbapidodlfaaMor
namespace Go.Proofs.Ythdjbapidodlfaa
set_option linter.unusedSimpArgs false
set_option linter.unusedVariables false
open Go.RowKit Go.Shelf
theorem app_own {t e : TypeId} {size bytes : Nat} {z : Value} (ht : Try.prog.underlying t = some (.slice e)) (hinf : (Try.prog.info? e).map (fun i => (i.zero, i.size, i.bytes)) = some (some z, size, bytes)) (hzs : z.cells.size = size) (h0 : 0 < size) (hb : bytes ≤ 100)
    {W : World} {v : Value} {n m c2 : Nat} {xs news : List Value} {A2 : Option Addr} (h : W.ownsRow 0 e size v n xs) (hl : news.length = m * size) (hn : 0 < m → ∃ b o, A2 = some ⟨b, o, none⟩ ∧ ∀ j u, news[j]? = some u → W.cell? ⟨b, o + j, none⟩ = some u) (h1 : ∀ u ∈ news, u.oneCell' = true) (h63 : n + m ≤ 100000) :
    ∃ v' W', runA Try.prog t v (.slice A2 m c2) W = .ok (.value v') W' ∧ W'.ownsRow 0 e size v' (n + m) (xs ++ news) ∧ Keeps (fun j => v.ownBlock = some j) W W' ∧ (v'.ownBlock = v.ownBlock ∨ v'.ownBlock = some W.heap.size) := by
  obtain ⟨i, hif, hz, hs, hby⟩ := info_parts hinf
  have hb8 : (n + m) * bytes ≤ 140737488355328 := Nat.le_trans (Nat.mul_le_mul h63 hb) (by omega)
  rcases A2 with _ | a
  · have hm : m = 0 := by
      rcases Nat.eq_zero_or_pos m with e | e
      · exact e
      · obtain ⟨b, o, e2, _⟩ := hn e; cases e2
    subst hm
    have hnw : news = [] := List.eq_nil_of_length_eq_zero (by simpa using hl)
    subst hnw
    refine ⟨v, W, run_app ?_, by simpa using h, Keeps.refl _ _, .inl rfl⟩
    rcases h.2 with ⟨rfl, rfl⟩ | ⟨g, cap, cur, rfl, _, _, hnc, _⟩
    · simp [Builtin.append_, run_underlying ht, Builtin.lenOf, sizeOf, typeInfo, hif, hs, Builtin.firstCells, loadCells, loadCellsFrom]
    · simp [Builtin.append_, run_underlying ht, Builtin.lenOf, sizeOf, typeInfo, hif, hs, Builtin.firstCells, loadCells, loadCellsFrom, storeCells, Addr.add, hnc]
  · obtain ⟨v', W', q2, q3, q4, _, q5⟩ := run_append_own_at (P := Try.prog) W 0 t t e i _ size bytes ht hif hz hs hby hzs h0 v n xs h a m c2 news hl (fun j u hj => by
      rcases Nat.eq_zero_or_pos m with e | e
      · subst e
        have : news = [] := List.eq_nil_of_length_eq_zero (by simpa using hl)
        subst this
        simp at hj
      · obtain ⟨b, o, e2, hc⟩ := hn e
        cases e2
        rw [Addr.add_lit]
        exact hc j u hj) h1 (by unfold maxLen; omega) hb8 (Nat.zero_le _)
    exact ⟨v', W', run_app q2, q3, ⟨q4.os, q4.tape, q4.output, q4.size, fun k hk hmm => q4.block k hk (fun e => hmm e.symm)⟩, q5⟩
/-- Numbers behind numbers. -/
theorem app_ints {W : World} {v : Value} {n m c2 : Nat} {xs ts : List Int} {A2 : Option Addr} (h : W.ownsRow 0 3 1 v n (flatI xs)) (h2 : Ints W A2 m ts) (h63 : n + m ≤ 100000) :
    ∃ v' W', runA Try.prog 38 v (.slice A2 m c2) W = .ok (.value v') W' ∧ W'.ownsRow 0 3 1 v' (n + m) (flatI (xs ++ ts)) ∧ Keeps (fun j => v.ownBlock = some j) W W' ∧ (v'.ownBlock = v.ownBlock ∨ v'.ownBlock = some W.heap.size) := by
  have hl := h2.1
  have e1 : flatI (xs ++ ts) = flatI xs ++ flatI ts := by simp [flatI]
  rw [e1]
  refine app_own Try.underlying38 info3_ rfl (by omega) (by omega) h (by rw [flatI_len, hl]; omega) (fun hm => ?_) (fun u hu => ?_) h63
  · obtain ⟨b, o, e, hc⟩ := h2.2 hm
    refine ⟨b, o, e, fun j u hj => ?_⟩
    have hjl : j < m := by
      have := (List.getElem?_eq_some_iff.1 hj).1
      rw [flatI_len, hl] at this
      exact this
    rw [hc j hjl, ← hj, iAt_eq (by omega)]
    simp [flatI, hl, hjl]
  · obtain ⟨x, _, rfl⟩ := List.mem_map.1 hu
    rfl
/-- The rows of lines, as values. -/
def RwV (w : World) (L : List (List Int)) (vs : List Value) : Prop := vs.length = L.length ∧ ∀ j, j < L.length → ∃ C c, vs[j]? = some (.slice C (lAt L j).length c) ∧ Ints w C (lAt L j).length (lAt L j) ∧ (lAt L j).length ≤ c
theorem RwV.below {w w' : World} {L : List (List Int)} {vs : List Value} {B : Nat} (h : RwV w L vs) (hb : Below B w w') (hB : w.heap.size ≤ B) : RwV w' L vs := ⟨h.1, fun j hj => by
  obtain ⟨C, c, h1, h2, h3⟩ := h.2 j hj
  exact ⟨C, c, h1, h2.below hb hB, h3⟩⟩
theorem rwv_of {w : World} {A : Option Addr} {m : Nat} {L : List (List Int)} (h : Lns w A m L) : ∃ vs, RwV w L vs ∧ (0 < m → ∃ b o, A = some ⟨b, o, none⟩ ∧ ∀ j u, vs[j]? = some u → w.cell? ⟨b, o + j, none⟩ = some u) ∧ ∀ u ∈ vs, u.oneCell' = true := by
  have hl := h.1
  rcases Nat.eq_zero_or_pos m with e | e
  · subst e
    exact ⟨[], ⟨hl.symm, fun j hj => by omega⟩, fun h => by omega, fun u hu => by cases hu⟩
  · obtain ⟨b, o, e2, hc⟩ := h.2 e
    obtain ⟨vs, hvl, hvs⟩ := list_ex (fun j (v : Value) => ∃ C c, v = .slice C (lAt L j).length c ∧ w.cell? ⟨b, o + j, none⟩ = some v ∧ Ints w C (lAt L j).length (lAt L j) ∧ (lAt L j).length ≤ c) m (fun j hj => by
      obtain ⟨C, c, q1, q2, q3⟩ := hc j hj
      exact ⟨_, C, c, rfl, q1, q2, q3⟩)
    refine ⟨vs, ⟨by omega, fun j hj => ?_⟩, fun _ => ⟨b, o, e2, fun j u hj => ?_⟩, fun u hu => ?_⟩
    · obtain ⟨C, c, q1, q2, q3, q4⟩ := hvs j (by omega)
      exact ⟨C, c, by rw [List.getElem?_eq_getElem (by omega), q1], q3, q4⟩
    · obtain ⟨hjl, rfl⟩ := List.getElem?_eq_some_iff.1 hj
      obtain ⟨C, c, _, q, _, _⟩ := hvs j hjl
      exact q
    · obtain ⟨j, hj, rfl⟩ := List.getElem_of_mem hu
      obtain ⟨C, c, q, _, _, _⟩ := hvs j hj
      rw [q]; rfl
theorem rwv_snoc {w : World} {L : List (List Int)} {vs : List Value} {l : List Int} {C : Option Addr} {c : Nat} (h : RwV w L vs) (hi : Ints w C l.length l) (hc : l.length ≤ c) : RwV w (L ++ [l]) (vs ++ [.slice C l.length c]) := by
  refine ⟨by simp [h.1], fun j hj => ?_⟩
  rw [lAt_app rfl]
  by_cases e : j < L.length
  · rw [if_pos e, List.getElem?_append_left (by rw [h.1]; exact e)]
    exact h.2 j e
  · have e2 : j = L.length := by simp at hj; omega
    rw [if_neg e, if_pos e2]
    refine ⟨C, c, ?_, hi, hc⟩
    rw [List.getElem?_append_right (by rw [h.1]; omega), h.1, e2]
    simp
theorem lns_own {W : World} {v : Value} {m : Nat} {vs : List Value} {L : List (List Int)} (h : W.ownsRow 0 38 1 v m vs) (hr : RwV W L vs) (hl : L.length = m) : ∃ C cap, v = .slice C m cap ∧ m ≤ cap ∧ Lns W C m L ∧ (∀ b o, C = some ⟨b, o, none⟩ → v.ownBlock = some b ∧ o = 0) := by
  rcases h.2 with ⟨rfl, h0⟩ | ⟨g, cap, cur, rfl, hb, hg, hc, _, hsz, htake⟩
  · subst h0
    exact ⟨none, 0, rfl, Nat.le_refl _, ⟨hl, by omega⟩, by intro b o e; cases e⟩
  · refine ⟨_, cap, rfl, hc, ⟨hl, fun _ => ⟨g, 0, rfl, fun j hj => ?_⟩⟩, by rintro b o e; cases e; exact ⟨rfl, rfl⟩⟩
    obtain ⟨C, c, q1, q2, q3⟩ := hr.2 j (by omega)
    refine ⟨C, c, ?_, q2, q3⟩
    rw [Nat.zero_add, cell_row hg, ← Array.getElem?_toList, ← List.getElem?_take_of_lt (show j < m * 1 by omega), htake]
    exact q1
/-- Lines behind lines. -/
theorem app_lns {W : World} {v : Value} {n m c2 : Nat} {vs : List Value} {L L2 : List (List Int)} {A2 : Option Addr} (h : W.ownsRow 0 38 1 v n vs) (hr : RwV W L vs) (h2 : Lns W A2 m L2) (h63 : n + m ≤ 100000) (hf : ∀ u, RwV W L2 u → RwV W (L ++ L2) (vs ++ u)) :
    ∃ v' ws W', runA Try.prog 25 v (.slice A2 m c2) W = .ok (.value v') W' ∧ W'.ownsRow 0 38 1 v' (n + m) ws ∧ RwV W (L ++ L2) ws ∧ Keeps (fun j => v.ownBlock = some j) W W' ∧ (v'.ownBlock = v.ownBlock ∨ v'.ownBlock = some W.heap.size) := by
  obtain ⟨us, hu, hc, h1⟩ := rwv_of h2
  obtain ⟨v', W', a, b, c, d⟩ := app_own Try.underlying25 info38_ rfl (by omega) (by omega) (c2 := c2) h (by rw [hu.1, h2.1]; omega) hc h1 h63
  exact ⟨v', _, W', a, b, hf us hu, c, d⟩
theorem info57_ : (Try.prog.info? 57).map (fun i => (i.zero, i.size, i.bytes)) = some (some (.agg #[.int .i64 0, .int .i64 0]), 2, 16) := by kernel_rfl
/-- Pairs, as values. -/
def flatR (zs : List Rg) : List Value := zs.flatMap fun r => [.int .i64 r.lo, .int .i64 r.hi]
theorem flatR_len (zs : List Rg) : (flatR zs).length = zs.length * 2 := by
  induction zs with
  | nil => rfl
  | cons r t ih => unfold flatR at ih ⊢; rw [List.flatMap_cons, List.length_append, ih, List.length_cons]; simp; omega
theorem flatR_at : ∀ (zs : List Rg) (k : Nat), k < zs.length → (flatR zs)[k * 2]? = some (.int .i64 (gAt zs k).lo) ∧ (flatR zs)[k * 2 + 1]? = some (.int .i64 (gAt zs k).hi)
  | r :: t, 0, _ => ⟨rfl, rfl⟩
  | r :: t, k + 1, h => by
    have ih := flatR_at t k (by simpa using h)
    have e : flatR (r :: t) = .int .i64 r.lo :: .int .i64 r.hi :: flatR t := rfl
    have e2 : gAt (r :: t) (k + 1) = gAt t k := rfl
    rw [e, e2, show (k + 1) * 2 = k * 2 + 1 + 1 by omega]
    exact ih
theorem flatR_snoc (zs : List Rg) (r : Rg) : flatR (zs ++ [r]) = flatR zs ++ [.int .i64 r.lo, .int .i64 r.hi] := by unfold flatR; rw [List.flatMap_append]; rfl
theorem rgs_own {W : World} {v : Value} {n : Nat} {zs : List Rg} (h : W.ownsRow 0 57 2 v n (flatR zs)) (hl : zs.length = n) : ∃ C cap, v = .slice C n cap ∧ Rgs W C n zs ∧ (∀ b o, C = some ⟨b, o, none⟩ → v.ownBlock = some b ∧ o = 0) := by
  rcases h.2 with ⟨rfl, h0⟩ | ⟨g, cap, cur, rfl, hb, hg, hc, _, hsz, htake⟩
  · subst h0
    exact ⟨none, 0, rfl, ⟨hl, by omega⟩, by intro b o e; cases e⟩
  · refine ⟨_, cap, rfl, ⟨hl, fun _ => ⟨g, 0, rfl, fun j hj => ?_⟩⟩, by rintro b o e; cases e; exact ⟨rfl, rfl⟩⟩
    obtain ⟨q1, q2⟩ := flatR_at zs j (by omega)
    rw [Nat.zero_add, cell_row hg, cell_row hg, ← Array.getElem?_toList, ← Array.getElem?_toList, ← List.getElem?_take_of_lt (show j * 2 < n * 2 by omega), ← List.getElem?_take_of_lt (show j * 2 + 1 < n * 2 by omega), htake]
    exact ⟨q1, q2⟩
/-- Pairs behind pairs. -/
theorem app_rgs {W : World} {v : Value} {n m c2 : Nat} {xs ts : List Rg} {A2 : Option Addr} (h : W.ownsRow 0 57 2 v n (flatR xs)) (h2 : Rgs W A2 m ts) (h63 : n + m ≤ 100000) :
    ∃ v' W', runA Try.prog 22 v (.slice A2 m c2) W = .ok (.value v') W' ∧ W'.ownsRow 0 57 2 v' (n + m) (flatR (xs ++ ts)) ∧ Keeps (fun j => v.ownBlock = some j) W W' ∧ (v'.ownBlock = v.ownBlock ∨ v'.ownBlock = some W.heap.size) := by
  have hl := h2.1
  have e1 : flatR (xs ++ ts) = flatR xs ++ flatR ts := by unfold flatR; rw [List.flatMap_append]
  rw [e1]
  refine app_own Try.underlying22 info57_ rfl (by omega) (by omega) h (by rw [flatR_len, hl]) (fun hm => ?_) (fun u hu => ?_) h63
  · obtain ⟨b, o, e, hc⟩ := h2.2 hm
    refine ⟨b, o, e, fun j u hj => ?_⟩
    have hjl : j < m * 2 := by
      have := (List.getElem?_eq_some_iff.1 hj).1
      rw [flatR_len, hl] at this
      exact this
    obtain ⟨k, hk | hk⟩ : ∃ k, j = k * 2 ∨ j = k * 2 + 1 := ⟨j / 2, by omega⟩
    · subst hk
      have hkm : k < m := by omega
      rw [(hc k hkm).1, ← hj, (flatR_at ts k (by omega)).1]
    · subst hk
      have hkm : k < m := by omega
      rw [← Nat.add_assoc, (hc k hkm).2, ← hj, (flatR_at ts k (by omega)).2]
  · unfold flatR at hu
    obtain ⟨r, _, hr⟩ := List.mem_flatMap.1 hu
    simp at hr
    rcases hr with rfl | rfl <;> rfl
/-- An empty row that was just made. -/
theorem own_empty {W : World} {E : Nat} {e : TypeId} {size : Nat} (h : W.heap[E]? = some (.cells #[] e (0, 0))) : W.ownsRow 0 e size (.slice (some ⟨E, 0, none⟩) 0 0) 0 [] :=
  ⟨by rw [Nat.zero_mul]; rfl, .inr ⟨E, 0, #[], rfl, Nat.zero_le _, h, Nat.le_refl _, Nat.zero_le _, by rw [Nat.zero_mul]; rfl, by rw [Nat.zero_mul]; rfl⟩⟩
theorem elem38_ : Try.prog.underlying 38 = some (.slice (Try.prog.elem 38)) := by kernel_rfl
theorem size38_ (W : World) : (sizeOf (Try.prog.elem 38)).run Try.prog W = .ok 1 W := by kernel_rfl
/-- The first numbers of a line. -/
theorem cut_lo (C : Option Addr) {ll ch i : Nat} {l : List Int} (hl : l.length = ll) (hi : i ≤ ll) (hc : ll ≤ ch) : ∃ C1 c1, (∀ W, (Instr.slice 38 (.slice C ll ch) none (some (.int .i64 (i : Int))) none).run Try.prog W = .ok (.slice C1 i c1) W) ∧ ∀ W, Ints W C ll l → Ints W C1 i (l.take i) := by
  have e0 : sliced C 0 i ch 1 = .slice C i ch := by
    unfold sliced
    rcases C with _ | ⟨b, o, f⟩
    · simp
    · simp [Addr.add]
  refine ⟨C, ch, fun W => ?_, fun W h => ⟨by rw [List.length_take]; omega, fun hp => ?_⟩⟩
  · rw [run_slice_h (P := Try.prog) W 38 C ll ch elem38_ .i64 (i : Int) (by omega) (by omega), size38_]
    simp only [Result.andThen, Int.toNat_natCast]
    rw [e0]
  · obtain ⟨b, o, e, hcc⟩ := h.2 (by omega)
    refine ⟨b, o, e, fun j hj => ?_⟩
    rw [hcc j (by omega)]
    unfold iAt
    rw [List.getD_eq_getElem?_getD, List.getD_eq_getElem?_getD, List.getElem?_take, if_pos hj]
/-- The other ones. -/
theorem cut_hi (C : Option Addr) {ll ch i : Nat} {l : List Int} (hl : l.length = ll) (hi : i ≤ ll) (hc : ll ≤ ch) : ∃ C1 c1, (∀ W, (Instr.slice 38 (.slice C ll ch) (some (.int .i64 (i : Int))) none none).run Try.prog W = .ok (.slice C1 (ll - i) c1) W) ∧ ∀ W, Ints W C ll l → Ints W C1 (ll - i) (l.drop i) := by
  obtain ⟨C1, hC1⟩ : ∃ C1, (if ch = i then C else C.map (·.add (i * 1))) = C1 := ⟨_, rfl⟩
  have e0 : sliced C i ll ch 1 = .slice C1 (ll - i) (ch - i) := by
    unfold sliced
    rw [← hC1]
  refine ⟨C1, ch - i, fun W => ?_, fun W h => ⟨by rw [List.length_drop]; omega, fun hp => ?_⟩⟩
  · rw [run_slice_l (P := Try.prog) W 38 C ll ch elem38_ .i64 (i : Int) (by omega) (by omega), size38_]
    simp only [Result.andThen, Int.toNat_natCast]
    rw [e0]
  · obtain ⟨b, o, e, hcc⟩ := h.2 (by omega)
    subst e
    rw [if_neg (by omega)] at hC1
    refine ⟨b, o + i, by rw [← hC1]; simp [Addr.add], fun j hj => ?_⟩
    rw [Nat.add_assoc, hcc (i + j) (by omega)]
    unfold iAt
    rw [List.getD_eq_getElem?_getD, List.getD_eq_getElem?_getD, List.getElem?_drop]
theorem cut_lo_at {C C1 : Option Addr} {ll ch i c1 : Nat} (h : ∀ W, (Instr.slice 38 (.slice C ll ch) none (some (.int .i64 (i : Int))) none).run Try.prog W = .ok (.slice C1 i c1) W) (W : World) : (Instr.sliceAt 38 (.slice C ll ch) none (some (.int .i64 (i : Int))) none).run Try.prog W = .ok (.slice C1 i c1) W := by
  rw [run_sliceAt_slice _ _ _ _ _ _ elem38_]; exact h W
theorem cut_hi_at {C C1 : Option Addr} {ll ch i n1 c1 : Nat} (h : ∀ W, (Instr.slice 38 (.slice C ll ch) (some (.int .i64 (i : Int))) none none).run Try.prog W = .ok (.slice C1 n1 c1) W) (W : World) : (Instr.sliceAt 38 (.slice C ll ch) (some (.int .i64 (i : Int))) none none).run Try.prog W = .ok (.slice C1 n1 c1) W := by
  rw [run_sliceAt_slice _ _ _ _ _ _ elem38_]; exact h W
theorem keep_cell {Mut : Nat → Prop} {W W' : World} (h : Keeps Mut W W') {b o : Nat} (hb : b < W.heap.size) (hm : ¬ Mut b) : W'.cell? ⟨b, o, none⟩ = W.cell? ⟨b, o, none⟩ := by
  unfold World.cell?
  rw [h.block b hb hm]
theorem lAt_set {L : List (List Int)} {h : Nat} {l : List Int} (hh : h < L.length) (k : Nat) : lAt (L.set h l) k = if k = h then l else lAt L k := by
  unfold lAt
  rw [List.getD_eq_getElem?_getD, List.getElem?_set]
  by_cases e : h = k
  · subst e
    rw [if_pos rfl, if_pos hh, if_pos rfl]
    rfl
  · rw [if_neg e, if_neg (fun e' => e e'.symm), List.getD_eq_getElem?_getD]
/-- A row is stored into a copy of lines. -/
theorem ins_done {w W : World} {g m cp hh c3 : Nat} {L : List (List Int)} {vs : List Value} {l : List Int} {C3 : Option Addr} (hL : L.length = m) (hr : RwV w L vs) (hb : Below w.heap.size w W) (hgs : w.heap.size ≤ g) (ho : W.ownsRow 0 38 1 (.slice (some ⟨g, 0, none⟩) m cp) m vs)
    (hi : Ints W C3 l.length l) (hc : l.length ≤ c3) (hC : ∀ b o, C3 = some ⟨b, o, none⟩ → b ≠ g) (hm : hh < m) :
    Lns (W.setCell ⟨g, hh, none⟩ (.slice C3 l.length c3)) (some ⟨g, 0, none⟩) m (L.set hh l) ∧ Below w.heap.size w (W.setCell ⟨g, hh, none⟩ (.slice C3 l.length c3)) := by
  have k1 := keeps_setCell W g hh (.slice C3 l.length c3)
  have hb2 : Below w.heap.size w (W.setCell ⟨g, hh, none⟩ (.slice C3 l.length c3)) := hb.trans (k1.below hb.size (fun k hk e => by omega))
  have hr2 := hr.below hb2 (Nat.le_refl _)
  rcases ho.2 with ⟨e, _⟩ | ⟨g', cap, cur, e, _, hg, hcap, _, hsz, htake⟩
  · cases e
  · cases e
    have r1 := set_same hh (.slice C3 l.length c3) hg
    refine ⟨⟨by rw [List.length_set]; exact hL, fun _ => ⟨g, 0, rfl, fun j hj => ?_⟩⟩, hb2⟩
    rw [Nat.zero_add, cell_row r1, lAt_set (by omega)]
    by_cases ej : j = hh
    · subst ej
      rw [if_pos rfl]
      refine ⟨C3, c3, by rw [Array.getElem?_setIfInBounds_self, if_pos (by omega)], ⟨rfl, fun hp => ?_⟩, hc⟩
      obtain ⟨b, o, e, hcc⟩ := hi.2 hp
      refine ⟨b, o, e, fun i h9 => ?_⟩
      have h8 := hcc i h9
      have h7 := hC b o e
      rw [← h8]
      exact keep_cell k1 (lt_of_cell h8) h7
    · rw [if_neg ej]
      obtain ⟨C, c, q1, q2, q3⟩ := hr2.2 j (by omega)
      refine ⟨C, c, ?_, q2, q3⟩
      rw [← q1, ← htake]
      simp
      rw [Array.getElem?_setIfInBounds_ne (fun e => ej e.symm), List.getElem?_take_of_lt (by omega), Array.getElem?_toList]
/-- A copy of lines. -/
theorem app_copy {w : World} {A2 : Option Addr} {m cap2 : Nat} {L : List (List Int)} (hL : Lns w A2 m L) (hm : m ≤ 1000) :
    ∃ v vs V, runA Try.prog 25 (.slice (some ⟨w.heap.size, 0, none⟩) 0 0) (.slice A2 m cap2) (w.alloc (.cells #[] 38)) = .ok (.value v) V ∧ V.ownsRow 0 38 1 v m vs ∧ RwV w L vs ∧ Below w.heap.size w V ∧ (∀ j, v.ownBlock = some j → w.heap.size ≤ j) := by
  have hbE := below_alloc_ w (.cells #[] 38)
  have hrE := heap_alloc_new_ w (.cells #[] 38)
  obtain ⟨vs, hv, hc, h1⟩ := rwv_of hL
  obtain ⟨v, V, r1, o1, k1, d1⟩ := app_own (c2 := cap2) (A2 := A2) (m := m) (news := vs) Try.underlying25 info38_ rfl (by omega) (by omega) (own_empty hrE) (by rw [hv.1, hL.1]; omega) (fun h0 => by
    obtain ⟨b, o, e, hcc⟩ := hc h0
    exact ⟨b, o, e, fun j u hj => (hbE.cell (p := ⟨b, o + j, none⟩) (lt_of_cell (hcc j u hj))).trans (hcc j u hj)⟩) h1 (by omega)
  rw [Nat.zero_add, List.nil_append] at o1
  refine ⟨v, vs, V, r1, o1, hv, hbE.trans (k1.below hbE.size (fun j hj e => by have h9 : w.heap.size = j := Option.some.inj e; omega)), fun j e => ?_⟩
  have := hbE.size
  rcases d1 with h | h <;> rw [h] at e
  · have h9 : w.heap.size = j := Option.some.inj e
    omega
  · have h9 := Option.some.inj e
    omega
/-- A line more behind a copy of lines. -/
theorem app_more {w : World} {A2 A4 : Option Addr} {m cap2 cl : Nat} {L : List (List Int)} {l : List Int} (hL : Lns w A2 m L) (hI : Ints w A4 l.length l) (hcl : l.length ≤ cl) (hm : m ≤ 1000) :
    ∃ v W1 C2 c2 W2, runA Try.prog 25 (.slice (some ⟨w.heap.size, 0, none⟩) 0 0) (.slice A2 m cap2) (w.alloc (.cells #[] 38)) = .ok (.value v) W1 ∧
      runA Try.prog 25 v (.slice (some ⟨W1.heap.size, 0, none⟩) 1 1) (W1.alloc (.cells #[.slice A4 l.length cl] 38)) = .ok (.value (.slice C2 (m + 1) c2)) W2 ∧ Lns W2 C2 (m + 1) (L ++ [l]) ∧ m + 1 ≤ c2 ∧ Below w.heap.size w W2 := by
  obtain ⟨v, vs, W1, r1, o1, hv, hb1, hj1⟩ := app_copy (cap2 := cap2) hL hm
  have hbT := below_alloc_ W1 (.cells #[.slice A4 l.length cl] 38)
  have hrT := heap_alloc_new_ W1 (.cells #[.slice A4 l.length cl] 38)
  have o2 := own_keep o1 (Keeps.of_new (Mut := fun _ => False) hbT) (fun _ _ e => e)
  obtain ⟨v2, W2, r2, o3, k2, d2⟩ := app_own (c2 := 1) (A2 := some ⟨W1.heap.size, 0, none⟩) (m := 1) (news := [.slice A4 l.length cl]) Try.underlying25 info38_ rfl (by omega) (by omega) o2 rfl (fun _ => ⟨W1.heap.size, 0, rfl, fun j u hj => by
    obtain ⟨hjl, e⟩ := List.getElem?_eq_some_iff.1 hj
    obtain rfl : j = 0 := by simpa using hjl
    rw [← e, cell_row hrT]
    rfl⟩) (fun u hu => by rw [List.mem_singleton.1 hu]; rfl) (by omega)
  have hb2 : Below w.heap.size w W2 := hb1.trans ((hbT.mono hb1.size).trans (k2.below (Nat.le_trans hb1.size hbT.size) (fun j hj e => by have := hj1 j e; omega)))
  have q := (rwv_snoc hv hI hcl).below hb2 (Nat.le_refl _)
  obtain ⟨C2, c2, rfl, hc2, hl2, -⟩ := lns_own o3 q (by rw [List.length_append, hL.1]; rfl)
  exact ⟨v, W1, C2, c2, W2, r1, r2, hl2, hc2, hb2⟩
/-- A number behind a row of numbers. -/
theorem app_1 {W : World} {v : Value} {n T : Nat} {xs : List Int} {x : Int} (h : W.ownsRow 0 3 1 v n (flatI xs)) (hT : W.heap[T]? = some (.cells #[.int .i64 x] 3 (0, 0))) (h63 : n + 1 ≤ 100000) :
    ∃ v' W', runA Try.prog 38 v (.slice (some ⟨T, 0, none⟩) 1 1) W = .ok (.value v') W' ∧ W'.ownsRow 0 3 1 v' (n + 1) (flatI (xs ++ [x])) ∧ Keeps (fun j => v.ownBlock = some j) W W' ∧ (v'.ownBlock = v.ownBlock ∨ v'.ownBlock = some W.heap.size) :=
  app_ints h (ints_one hT) h63
/-- A pair behind pairs. -/
theorem app_1p {W : World} {v : Value} {n T : Nat} {xs : List Rg} {a b : Int} (h : W.ownsRow 0 57 2 v n (flatR xs)) (hT : W.heap[T]? = some (.cells #[.int .i64 a, .int .i64 b] 57 (0, 0))) (h63 : n + 1 ≤ 100000) :
    ∃ v' W', runA Try.prog 22 v (.slice (some ⟨T, 0, none⟩) 1 1) W = .ok (.value v') W' ∧ W'.ownsRow 0 57 2 v' (n + 1) (flatR (xs ++ [⟨a, b⟩])) ∧ Keeps (fun j => v.ownBlock = some j) W W' ∧ (v'.ownBlock = v.ownBlock ∨ v'.ownBlock = some W.heap.size) :=
  app_rgs h ⟨rfl, fun _ => ⟨T, 0, rfl, fun j hj => by
    obtain rfl : j = 0 := by omega
    rw [cell_row hT, cell_row hT]
    exact ⟨rfl, rfl⟩⟩⟩ h63
end Go.Proofs.Ythdjbapidodlfaa
