/- Stage 6: what a flow is told. -/
import Derived.Test.YtigohccehllmnaaDj
import Derived.Test.YtigohccehllmnaaPx
import Derived.Laws.CopyRow
namespace Go.Proofs.Ytigohccehllmnaa
set_option linter.unusedSimpArgs false
set_option linter.unusedVariables false
open Go.RowKit Go.Shelf

theorem chk_tr {l : NL} {W : World} (h : chkL l = 0) (hn : NLs W l) : ∀ k, k < l.n → 0 ≤ (lAt l.zs k).tr ∧ (lAt l.zs k).tr ≤ 1000000 := fun k hk =>
  (bd_ok h hn [] rfl 0 0 0).ok k hk |>.2.2.2
section
attribute [local go_sem ↓] exec_app at_app
attribute [local go_sem] Oper.semAt_some
end
end Go.Proofs.Ytigohccehllmnaa

namespace Go.Proofs.Ytigohccehllmnaa
set_option linter.unusedSimpArgs false
set_option linter.unusedVariables false
open Go.RowKit Go.Shelf

theorem Bd.fill {W W' : World} {b : BD} {g : Nat → Int} (h : Bd W b g) {l : List Int} (hK : Keeps (fun k => k = b.F) W W') (hr : W'.heap[b.F]? = some (.cells (flatI l).toArray 2 (0, 0))) (hl : l.length = b.l.n) : Bd W' b (fun j => iAt l j) := by
  have k : ∀ p o v', p ≠ b.F → W.cell? ⟨p, o, none⟩ = some v' → W'.cell? ⟨p, o, none⟩ = some v' := fun p o v' hp hv => (keep_cells hK (lt_of_cell hv) hp o).trans hv
  refine ⟨k _ _ _ h.nB h.c0, k _ _ _ h.nB h.c1, k _ _ _ h.nB h.c2, k _ _ _ h.nB h.c3, k _ _ _ h.nB h.c4, fun j hj => ⟨k _ _ _ h.nZ (h.z j hj).1, k _ _ _ h.nZ (h.z j hj).2.1, k _ _ _ h.nZ (h.z j hj).2.2⟩, fun j hj => ?_, ⟨_, hr, by simp [flatI, hl]⟩, h.ls.keepN hK h.nL, h.rs.keepN hK h.nR, h.nB, h.nZ, h.nL, h.nR⟩
  rw [cell_row hr, List.getElem?_toArray]
  simp [flatI, iAt_eq (show j < l.length by omega), show j < l.length by omega]
theorem copy41 (Z n cap : Nat) (A : Option Addr) (fs : List Int) (cur : Array Value) (ty : TypeId) (W : World) (hZ : W.heap[Z]? = some (.cells cur 2 (0, 0))) (hc : cur.size = n) (h : Ints W A n fs) :
    ∃ W', (Builtin.copy_ #[41, 41] ty #[.slice (some ⟨Z, 0, none⟩) n n, .slice A n cap]).run Try.prog W = .ok (.int .i64 (n : Int)) W' ∧ W'.heap[Z]? = some (.cells (flatI fs).toArray 2 (0, 0)) ∧ Keeps (fun k => k = Z) W W' := by
  obtain ⟨i, hi, hz, hs, hb⟩ := info_parts info2_
  have hl : (flatI fs).length = n := by rw [flatI_len, h.1]
  rcases Nat.eq_zero_or_pos n with e0 | e0
  · subst e0
    have hz0 : fs = [] := List.length_eq_zero_iff.1 h.1
    have hc0 : cur = #[] := Array.eq_empty_of_size_eq_zero (by omega)
    refine ⟨W, ?_, by rw [hZ, hc0, hz0]; rfl, Keeps.refl _ _⟩
    cases A with
    | none => simp [Builtin.copy_, run_underlying Try.underlying41, Builtin.lenOf, Builtin.firstCells, sizeOf, typeInfo, hi, hs, storeCells]; rfl
    | some a => simp [Builtin.copy_, run_underlying Try.underlying41, Builtin.lenOf, Builtin.firstCells, sizeOf, typeInfo, hi, hs, loadCells, loadCellsFrom, storeCells]; rfl
  · obtain ⟨b, o, rfl, hcz⟩ := h.2 e0
    have h2 := run_copy_row (P := Try.prog) W 41 41 ty 2 Z 0 n n ⟨b, o, none⟩ n cap cur 2 (flatI fs) Try.underlying41 (by rw [hi]; simp [hs]) hZ (by rw [hl]; exact (Nat.min_self n).symm) (fun j v hj => by
      have hjl : j < n := by have := (List.getElem?_eq_some_iff.1 hj).1; omega
      rw [Addr.add_lit]
      have e : v = .int .i64 (iAt fs j) := by simp [flatI, iAt_eq (show j < fs.length by rw [h.1]; exact hjl), show j < fs.length by rw [h.1]; exact hjl] at hj ⊢; exact hj.symm
      rw [e]; exact hcz j hjl) (by rw [hl, hc]; omega) (fun v hv => by
      unfold flatI at hv; obtain ⟨x, _, rfl⟩ := List.mem_map.1 hv; rfl)
    rw [hl] at h2
    refine ⟨_, h2, ?_, keeps_setRow _ _ _⟩
    have := setRow_same ((cur.toList.take 0 ++ flatI fs ++ cur.toList.drop (0 + n)).toArray) hZ
    rw [this, List.take_zero, List.nil_append, List.drop_of_length_le (by simp [hc]), List.append_nil]
/-- What a flow is told. -/
def flE (l : NL) (fn : Nat) (fs : List Int) : Int := if layE l [] ≠ 0 then layE l [] else if fn ≠ l.n then 15 else if (fitK l.zs (fun j => iAt fs j) l.n && rightB ⟨0, 0, 0, l, l.zs⟩ (fun j => iAt fs j)) = true then 0 else 14
def grE (l : NL) (fn : Nat) (fs : List Int) : Int := if flE l fn fs = 0 then greatF l.zs (fun j => iAt fs j) l.ls else 0
theorem grE_no {l : NL} {fn : Nat} {fs : List Int} {c : Int} (h : flE l fn fs = c) (hc : c ≠ 0) : grE l fn fs = 0 := by unfold grE; rw [h, if_neg hc]
section
attribute [local go_sem ↓] exec_app at_app
attribute [local go_sem] Oper.semAt_some
set_option maxRecDepth 100000 in
set_option maxHeartbeats 16000000 in
theorem checkFlow26 (l : NL) (FA : Option Addr) (fn fc : Nat) (fs : List Int) (w : World) (h : NLs w l) (hS : Ints w FA fn fs) (hfc : fn ≤ fc) :
    Calls Try.prog 26 #[.agg #[.int .i64 l.N, .slice l.A l.n l.cap, .slice l.LA l.ln l.lc, .slice l.RA l.rn l.rc], .slice FA fn fc] w fun e w' => e = .returned (.tuple #[.int .i64 (grE l fn fs), .int .i64 (flE l fn fs)]) ∧ Below w.heap.size w w' := by
  obtain ⟨R, hR⟩ : ∃ v, w.heap.size = v := ⟨_, rfl⟩
  have hb0 := below_alloc_ w (.cells #[.int .i64 l.N, .slice l.A l.n l.cap, .slice l.LA l.ln l.lc, .slice l.RA l.rn l.rc] 25)
  have hr0 := heap_alloc_new_ w (.cells #[.int .i64 l.N, .slice l.A l.n l.cap, .slice l.LA l.ln l.lc, .slice l.RA l.rn l.rc] 25)
  have hz0 : (w.alloc (.cells #[.int .i64 l.N, .slice l.A l.n l.cap, .slice l.LA l.ln l.lc, .slice l.RA l.rn l.rc] 25)).heap.size = w.heap.size + 1 := by simp
  obtain ⟨w0, hw0⟩ : ∃ v, w.alloc (.cells #[.int .i64 l.N, .slice l.A l.n l.cap, .slice l.LA l.ln l.lc, .slice l.RA l.rn l.rc] 25) = v := ⟨_, rfl⟩
  rw [hw0] at hb0 hr0 hz0
  rw [hR] at hr0 hz0
  have hB := hb0
  have S := Lib.hid (h.below hB (Nat.le_refl _))
  have SF := Lib.hid (hS.below hB (Nat.le_refl _))
  have X := Lib.hid hr0
  have HW0 := Lib.hid hw0
  have B := Lib.hid hB
  have HR := Lib.hid hR
  clear hB hR hb0 hr0 hz0 hw0 h hS
  have Hfc := Lib.hid hfc
  have SD := Lib.hid (show Ints w0 none 0 [] from ⟨rfl, fun h => by omega⟩)
  have Hdc := Lib.hid (Nat.le_refl 0)
  have Hd6 := Lib.hid (Nat.zero_le 1000000)
  have HWs := Lib.hid B.out.size
  clear hfc
  have ltX : R < w0.heap.size := lt_of_block X.out
  have zX0 : w0.cell? ⟨R, 0, none⟩ = some (.int .i64 l.N) := by rw [cell_row X.out]; rfl
  have zX1 : w0.cell? ⟨R, 1, none⟩ = some (.slice l.A l.n l.cap) := by rw [cell_row X.out]; rfl
  have zX2 : w0.cell? ⟨R, 2, none⟩ = some (.slice l.LA l.ln l.lc) := by rw [cell_row X.out]; rfl
  have zX3 : w0.cell? ⟨R, 3, none⟩ = some (.slice l.RA l.rn l.rc) := by rw [cell_row X.out]; rfl
  go_enter Try.func26, Try.ntmps26
  go_wp2_with fail
  try rw [HW0.out]
  try rw [HR.out]
  try simp only [Nat.add_assoc, Nat.reduceAdd]
  try go_wp2_with fail
  clear zX0 zX1 zX2 zX3 ltX
  refine (lay41E l none 0 0 [] w0 S.out SD.out Hdc.out Hd6.out).mono ?_
  rintro en w1 ⟨hh, hb⟩
  rcases hh with ⟨h0, rfl⟩ | ⟨h0, B1, F, Z, rfl, hbd, hok, hF⟩
  · obtain ⟨c, hc⟩ : ∃ v, layE l [] = v := ⟨_, rfl⟩
    rw [hc] at h0 ⊢
    have d0 : (c != 0) = true := by rw [bne_iff_ne]; exact h0
    have H0 := Lib.hid h0
    have HC := Lib.hid hc
    replace B := Lib.hid (B.out.trans (hb.mono B.out.size))
    clear h0 hc hb
    go_wp2_with fail
    go_ret2
    have HE2 := Lib.hid (show flE l fn fs = c by unfold flE; rw [if_pos (by rw [HC.out]; exact H0.out), HC.out])
    exact ⟨by rw [grE_no HE2.out H0.out, HE2.out] <;> rfl, B.out⟩
  · obtain ⟨b, hbe⟩ : ∃ b : BD, (⟨B1, F, Z, l, dropF l.zs []⟩ : BD) = b := ⟨_, rfl⟩
    have e1 : b.l = l := by rw [← hbe]
    have e2 : b.zs = dropF l.zs [] := by rw [← hbe]
    have e3 : b.B = B1 := by rw [← hbe]
    rw [hbe] at hbd hok
    have D := Lib.hid hbd
    have Hok := Lib.hid hok
    have H0 := Lib.hid h0
    have E1 := Lib.hid e1
    have E2 := Lib.hid e2
    have Hbe := Lib.hid hbe
    replace S := Lib.hid (S.out.below hb (Nat.le_refl _))
    replace SD := Lib.hid (SD.out.below hb (Nat.le_refl _))
    replace X := Lib.hid ((hb.block _ (lt_of_block X.out)).trans X.out)
    replace B := Lib.hid (B.out.trans (hb.mono B.out.size))
    have Hb1 := Lib.hid hb
    have HFF := Lib.hid (show w0.heap.size ≤ b.F from by rw [← hbe]; exact hF)
    rw [← e3]
    clear hbd hok h0 hb hF e1 e2 e3 hbe
    replace SF := Lib.hid (SF.out.below Hb1.out (Nat.le_refl _))
    have HE := Lib.hid (show flE l fn fs = if fn ≠ l.n then 15 else if (fitK l.zs (fun j => iAt fs j) l.n && rightB ⟨0, 0, 0, l, l.zs⟩ (fun j => iAt fs j)) = true then 0 else 14 by unfold flE; rw [H0.out]; rfl)
    have y1 : w1.cell? ⟨R, 1, none⟩ = some (.slice l.A l.n l.cap) := by rw [cell_row X.out]; rfl
    by_cases he : fn = l.n
    rotate_left
    · have d0 : ((fn : Int) != (l.n : Int)) = true := by rw [bne_iff_ne]; omega
      have HE2 := Lib.hid (show flE l fn fs = 15 by rw [HE.out, if_pos he])
      clear he
      go_wp2_with fail
      go_ret2
      exact ⟨by rw [grE_no HE2.out (by decide), HE2.out] <;> rfl, B.out⟩
    subst he
    have d0 : ((l.n : Int) != (l.n : Int)) = false := by rw [bne_eq_false_iff_eq]
    replace HE := Lib.hid (show flE l l.n fs = if (fitK l.zs (fun j => iAt fs j) l.n && rightB ⟨0, 0, 0, l, l.zs⟩ (fun j => iAt fs j)) = true then 0 else 14 by rw [HE.out, if_neg (fun e => e rfl)])
    have c4 := D.out.c4
    rw [E1.out] at c4
    obtain ⟨XR, hXR, hXs⟩ := D.out.row
    rw [E1.out] at hXs
    obtain ⟨w2, hcp, hr2, hk2⟩ := copy41 b.F l.n fc FA fs XR 3 w1 hXR hXs SF.out
    have hD2 := D.out.fill hk2 hr2 (by rw [SF.out.1, E1.out])
    replace D := Lib.hid hD2
    replace B := Lib.hid (B.out.trans (hk2.below B.out.size (fun j hj e => by have := HFF.out; have := HWs.out; omega)))
    clear hXR hXs hr2 hk2 hD2 XR
    go_wp2_with fail
    clear hcp c4 y1 d0
    obtain ⟨fl, hfl⟩ : ∃ f : Nat → Int, (fun j => iAt fs j) = f := ⟨_, rfl⟩
    rw [hfl] at D HE
    have HGr := Lib.hid (show ∀ c, flE l l.n fs = c → grE l l.n fs = if c = 0 then greatF l.zs fl l.ls else 0 from fun c e => by unfold grE; rw [e, hfl])
    clear hfl
    have k57 := fits57 b fl w2 D.out Hok.out
    obtain ⟨j1, hj1⟩ : ∃ v, fitK b.zs fl b.l.n = v := ⟨_, rfl⟩
    rw [hj1] at k57
    have K57 := Lib.hid k57
    have J1 := Lib.hid hj1
    have J1' := Lib.hid (show fitK l.zs fl l.n = j1 by rw [← hj1, E1.out, E2.out]; rfl)
    clear k57 hj1
    refine K57.out.mono ?_
    rintro en w3 ⟨rfl, hb⟩
    replace D := Lib.hid (D.out.below hb (Nat.le_refl _))
    replace B := Lib.hid (B.out.trans (hb.mono B.out.size))
    clear hb K57
    rcases j1 with _ | _
    · have HE2 := Lib.hid (show flE l l.n fs = 14 by rw [HE.out, J1'.out]; rfl)
      go_wp2_with fail
      go_ret2
      exact ⟨by rw [grE_no HE2.out (by decide), HE2.out] <;> rfl, B.out⟩
    have hsm := small_fit (b := b) Hok.out (show FitF b.zs fl from fun k hk => fitK_iff.1 J1.out k (by rw [← Hok.out.zl]; exact hk))
    have HSm := Lib.hid hsm
    have k58 := isRight58 b fl w3 D.out Hok.out hsm
    obtain ⟨j2, hj2⟩ : ∃ v, rightB b fl = v := ⟨_, rfl⟩
    rw [hj2] at k58
    have K58 := Lib.hid k58
    have J2 := Lib.hid (show rightB ⟨0, 0, 0, l, l.zs⟩ fl = j2 by rw [← hj2, ← Hbe.out]; rfl)
    clear k58 hj2 hsm
    go_wp2_with fail
    refine K58.out.mono ?_
    rintro en w4 ⟨rfl, hb⟩
    replace D := Lib.hid (D.out.below hb (Nat.le_refl _))
    replace B := Lib.hid (B.out.trans (hb.mono B.out.size))
    clear hb K58
    rcases j2 with _ | _
    · have HE2 := Lib.hid (show flE l l.n fs = 14 by rw [HE.out, J1'.out, J2.out]; rfl)
      go_wp2_with fail
      go_ret2
      exact ⟨by rw [grE_no HE2.out (by decide), HE2.out] <;> rfl, B.out⟩
    have HE2 := Lib.hid (show flE l l.n fs = 0 by rw [HE.out, J1'.out, J2.out]; rfl)
    have k59 := Lib.hid (great59 b fl w4 D.out Hok.out HSm.out)
    go_wp2_with fail
    refine k59.out.mono ?_
    rintro en w5 ⟨rfl, hb⟩
    replace B := Lib.hid (B.out.trans (hb.mono B.out.size))
    clear hb k59
    go_wp2_with fail
    go_ret2
    exact ⟨by rw [HGr.out 0 HE2.out, if_pos rfl, HE2.out, show l.zs = b.zs from E2.out.symm, ← E1.out] <;> rfl, B.out⟩
end
end Go.Proofs.Ytigohccehllmnaa
