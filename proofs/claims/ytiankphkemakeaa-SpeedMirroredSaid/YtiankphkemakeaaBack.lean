/- The contract of back: the way by which a turn was come to. -/
import Derived.Test.YtiankphkemakeaaEnds
import Derived.Laws.MakeOwn
import Derived.Laws.CopyOwn
namespace Go.Proofs.Ytiankphkemakeaa
set_option linter.unusedSimpArgs false
set_option linter.unusedVariables false
open Go.RowKit Go.Shelf

/-- The way back from a turn, in front of what there is; and what is left of the map. -/
def backFrom (ws : List R) : Nat → List Int → Nat → List Int → List Int × List Int
  | 0, c, _, acc => (acc, c)
  | k + 1, c, t, acc => if nth c t < 0 then (acc, c) else backFrom ws k (c.set t (-1)) (rf ws (nth c t).toNat).toNat (nth c t :: acc)
def cnt (c : List Int) : Nat := c.countP fun x => decide (0 ≤ x)
theorem cnt_le (c : List Int) : cnt c ≤ c.length := List.countP_le_length
theorem cnt_set (c : List Int) (t : Nat) (ht : t < c.length) (h : 0 ≤ nth c t) : cnt (c.set t (-1)) + 1 = cnt c := by
  unfold cnt
  have h1 : c[t] = nth c t := by simp [nth, List.getD, ht]
  rw [List.countP_set ht, h1]
  simp only [h, decide_true, if_true]
  have : 0 < c.countP fun x => decide (0 ≤ x) := List.countP_pos_iff.2 ⟨c[t], List.getElem_mem ht, by rw [h1]; simpa using h⟩
  simp
  omega
/-- Names of rules, or none. -/
def CameOk (N : Nat) (c : List Int) : Prop := c.length = 21 ∧ ∀ i, nth c i < (N : Int)
theorem CameOk.set {N : Nat} {c : List Int} (h : CameOk N c) (t : Nat) : CameOk N (c.set t (-1)) := by
  refine ⟨by rw [List.length_set]; exact h.1, fun i => ?_⟩
  rcases nth_set_cases c t i (-1) with e | e
  · rw [e]; omega
  · rw [e]; exact h.2 i
def back (ws : List R) (c : List Int) (t : Nat) : List Int × List Int := backFrom ws 22 c t []

/-- How much is left to find. -/
def left9 : Value → Nat
  | .slice _ l _ => 22 - l
  | _ => 0

theorem holdL {P : Program} {ops : Array Oper} {rest : List Oper} {o : Oper} {a : Act} {w : World} {Q : Exit → Act → World → Prop} (t : TypeId) (x y : Operand) (ho : o.op = .lookup t x y true) (h : Held (wpList P ops Q (o :: rest) a w)) : wpList P ops Q (o :: rest) a w := h
theorem holdS {P : Program} {ops : Array Oper} {rest : List Oper} {o : Oper} {a : Act} {w : World} {Q : Exit → Act → World → Prop} (t : TypeId) (x y z v : Operand) (ho : o.op = .slice t x (some y) (some z) (some v)) (h : Held (wpList P ops Q (o :: rest) a w)) : wpList P ops Q (o :: rest) a w := h
theorem holdMk {P : Program} {ops : Array Oper} {rest : List Oper} {o : Oper} {a : Act} {w : World} {Q : Exit → Act → World → Prop} (t : TypeId) (x y : Operand) (ho : o.op = .makeSlice t x y) (h : Held (wpList P ops Q (o :: rest) a w)) : wpList P ops Q (o :: rest) a w := h
theorem holdDel {P : Program} {ops : Array Oper} {rest : List Oper} {o : Oper} {a : Act} {w : World} {Q : Exit → Act → World → Prop} (x y : Operand) (ho : o.op = .call { callee := .builtin .delete, args := #[x, y], argTypes := #[95, 3] }) (h : Held (wpList P ops Q (o :: rest) a w)) : wpList P ops Q (o :: rest) a w := h
theorem holdCp {P : Program} {ops : Array Oper} {rest : List Oper} {o : Oper} {a : Act} {w : World} {Q : Exit → Act → World → Prop} (x y : Operand) (ho : o.op = .call { callee := .builtin .copy, args := #[x, y], argTypes := #[35, 35] }) (h : Held (wpList P ops Q (o :: rest) a w)) : wpList P ops Q (o :: rest) a w := h

theorem made_rep (v : Value) (n : Nat) : madeCells #[v] n = (List.replicate n v).toArray := by
  apply Array.ext
  · simp [madeCells]
  · intro i h1 h2
    simp [madeCells, Nat.mod_one]
theorem wpList_make35 {ops : Array Oper} {rest : List Oper} {o : Oper} {a : Act} {w : World} {Q : Exit → Act → World → Prop} (hg : o.guard = none) (x : Operand) (ho : o.op = .makeSlice 35 x x) (l : Nat) (hx : a.eval x = .int .i64 (l : Int)) (hl : l ≤ 1000)
    (h : wpList Try.prog ops Q rest (a.put o.dst (.slice (some ⟨w.heap.size, 0, none⟩) l l)) (w.alloc (.cells (List.replicate l (Value.int .i64 0)).toArray 3))) : wpList Try.prog ops Q (o :: rest) a w := by
  refine wpList_plain hg fun K hK => ?_
  obtain ⟨i, hi, hz0, hz1, hz2⟩ := info_parts Try.info3
  have hrun := run_make (P := Try.prog) w 35 3 i (.int .i64 0) Try.underlying35 hi hz0 .i64 .i64 (l : Int) (l : Int) (by omega) (by omega) (by rw [hz2]; omega) (by omega)
  unfold Oper.wp
  simp [execOp, ho, hx, hrun, Result.andThen]
  rw [hz1, Nat.mul_one, show (Value.int IntKind.i64 0).cells = #[.int .i64 0] from rfl, made_rep]
  exact hK _ _ h

set_option maxRecDepth 100000 in
set_option maxHeartbeats 2000000 in
theorem back70 (T : Int) (A A' : Option Addr) (n cap N cap' M nn t0 : Nat) (ws : List R) (c0 : List Int) (w : World) (hr : Rules w A' N ws) (hN : N ≤ 1000) (hfit : ∀ r ∈ ws, FitR r)
    (hc : CameAt w M c0 nn) (hok : CameOk N c0) (ht0 : t0 ≤ 20) :
    Calls Try.prog 70 #[.agg #[.int .i64 T, .slice A n cap, .slice A' N cap'], .map (some M), .int .i64 (t0 : Int)] w fun e w' =>
      ∃ C k capk, e = .returned (.slice C k capk) ∧ Ints w' C k (back ws c0 t0).1 ∧ CameAt w' M (back ws c0 t0).2 nn ∧ w.grownBy w' (some M) ∧ (∀ b o, C = some ⟨b, o, none⟩ → w.heap.size ≤ b) ∧ k ≤ capk := by
  have Hr := Lib.hid hr
  have Hfit := Lib.hid hfit
  have Hc := Lib.hid hc
  have Hok := Lib.hid hok
  clear hr hfit hc hok
  go_enter Try.func70, Try.ntmps70
  go_wp2_with (first | (with_reducible refine holdL 95 _ _ rfl ?_) | (with_reducible refine holdMk 35 _ _ rfl ?_) | (with_reducible refine holdDel _ _ rfl ?_) | (with_reducible refine holdCp _ _ rfl ?_))
  obtain ⟨W0, hW0⟩ : ∃ W0, (w.alloc (.cells #[.int .i64 T, .slice A n cap, .slice A' N cap'] 79)).alloc (.cells #[.int .i64 0, .int .i64 0, .int .i64 0, .int .i64 0, .int .i64 0, .int .i64 0, .int .i64 0, .int .i64 0, .int .i64 0, .int .i64 0, .int .i64 0, .int .i64 0, .int .i64 0, .int .i64 0, .int .i64 0, .int .i64 0, .int .i64 0, .int .i64 0, .int .i64 0, .int .i64 0, .int .i64 0] 114) = W0 := ⟨_, rfl⟩
  have HB0 := Lib.hid (show Below w.heap.size w W0 by rw [← hW0]; exact ((Below.refl _ _).alloc (Nat.le_refl _) _).alloc (by simp) _)
  have Hb2 := Lib.hid (show W0.cell? ⟨w.heap.size, 2, none⟩ = some (.slice A' N cap') by rw [← hW0, World.cell?_alloc_past _ _ _ (by simp), World.cell?_alloc_new]; rfl)
  have Hs0 := Lib.hid (show W0.heap.size = w.heap.size + 2 by rw [← hW0]; simp)
  have Hn0 := Lib.hid (show W0.heap[w.heap.size + 1]? = some (.cells ((List.replicate 21 (0 : Int)).map (Value.int .i64)).toArray 114 (0, 0)) by rw [← hW0]; exact heap_alloc2_new w _ _)
  have Hc0 := Lib.hid (Hc.out.kept (grown_of_below HB0.out) (by simp))
  have Hr0 := Lib.hid (Hr.out.below HB0.out (Nat.le_refl _))
  rw [hW0]
  clear hW0
  go_loopw [2, 9] (fun v2 v9 wr => ∃ (c : List Int) (t : Nat) (acc arr : List Int) (off f : Nat), v2 = .int .i64 (t : Int) ∧ v9 = .slice (some ⟨w.heap.size + 1, off, none⟩) acc.length acc.length ∧ t ≤ 20 ∧ (0 < acc.length → off + acc.length = 21) ∧ acc.length + cnt c ≤ 21 ∧ cnt c < f ∧
      back ws c0 t0 = backFrom ws f c t acc ∧ CameOk N c ∧ CameAt wr M c nn ∧ arr.length = 21 ∧ arr.drop (21 - acc.length) = acc ∧ wr.heap[w.heap.size + 1]? = some (.cells (arr.map (Value.int .i64)).toArray 114 (0, 0)) ∧ But (w.heap.size + 1) M W0 wr) (fun _ v9 _ => left9 v9)
  case atStart =>
    refine ⟨c0, t0, [], List.replicate 21 0, 0, 22, rfl, rfl, ht0, fun h => absurd h (by simp), ?_, ?_, rfl, Hok.out, Hc0.out, by simp, by simp, Hn0.out, But.refl _ _ _⟩
    · have := cnt_le c0; have := Hok.out.1; simp; omega
    · have := cnt_le c0; have := Hok.out.1; omega
  case round =>
    obtain ⟨c, t, acc, arr, off, f, rfl, rfl, ht, hoff, hcnt, hf, hback, hok, hcam, harr, hdrop, hblk, hbut⟩ := hrel
    have Hoff := Lib.hid hoff
    have Hcnt := Lib.hid hcnt
    have Hf := Lib.hid hf
    have Hback := Lib.hid hback
    have Hokc := Lib.hid hok
    have Harr := Lib.hid harr
    have Hdrop := Lib.hid hdrop
    have Hblk := Lib.hid hblk
    have Hbut := Lib.hid hbut
    have hMl : M < w.heap.size := Hc.out.lt
    obtain ⟨l, hl⟩ : ∃ l, acc.length = l := ⟨_, rfl⟩
    have Hl := Lib.hid hl
    have hl21 : l ≤ 21 := by omega
    rw [hl]
    obtain ⟨D, hD, hcl, hcc⟩ := hcam
    have HD := Lib.hid hD
    have Hcc := Lib.hid hcc
    clear hoff hcnt hf hback hok harr hdrop hblk hbut hD hcc hl
    go_wp2_with (first | (with_reducible refine holdL 95 _ _ rfl ?_) | (with_reducible refine holdMk 35 _ _ rfl ?_) | (with_reducible refine holdDel _ _ rfl ?_) | (with_reducible refine holdCp _ _ rfl ?_))
    unfold Held
    refine wpList_lookup_own_ok_int wr rfl (.tmp 19) (.tmp 20) 95 rfl 3 3 .i64 (Maps.int_keyed Try.underlying3) Try.underlying95 Try.underlying3 (by go_simp) M nn D rfl HD.out (.int .i64 (t : Int)) (.int .i64 (t : Int)) rfl (Maps.keyOf_int_mk Try.underlying3 (WalkArith.wf_i64 (by omega))) ?_
    intro y hy hwy
    obtain ⟨hno, hyes⟩ := Hcc.out t (by omega)
    by_cases hneg : nth c t < 0
    · rw [hno hneg]
      have Hneg := Lib.hid hneg
      clear hno hyes hneg hy hwy
      go_wp2_with (first | (with_reducible refine holdMk 35 _ _ rfl ?_) | (with_reducible refine holdDel _ _ rfl ?_) | (with_reducible refine holdCp _ _ rfl ?_))
      unfold Held
      refine wpList_make35 rfl (.tmp 47) rfl l rfl (by omega) ?_
      have hsz0 := Hs0.out
      have hbs := Hbut.out.size
      have HW3 := Lib.hid (show Below wr.heap.size wr (wr.alloc (.cells (List.replicate l (Value.int .i64 0)).toArray 3)) from (Below.refl _ _).alloc (Nat.le_refl _) _)
      have HC3 := Lib.hid (show (wr.alloc (.cells (List.replicate l (Value.int .i64 0)).toArray 3)).heap[wr.heap.size]? = some (.cells (List.replicate l (Value.int .i64 0)).toArray 3 (0, 0)) from heap_alloc_new _ _)
      obtain ⟨W3, hW3⟩ : ∃ W3, wr.alloc (.cells (List.replicate l (Value.int .i64 0)).toArray 3) = W3 := ⟨_, rfl⟩
      rw [hW3] at HW3 HC3 ⊢
      clear hW3
      have Hblk3 := Lib.hid ((HW3.out.block (w.heap.size + 1) (lt_of_block Hblk.out)).trans Hblk.out)
      go_wp2_with (with_reducible refine holdCp _ _ rfl ?_)
      unfold Held
      refine wpList_copy_splice rfl (.tmp 49) (.tmp 50) 35 35 rfl 3 Try.underlying35 (by kernel_rfl) (some ⟨wr.heap.size, 0, none⟩) (some ⟨w.heap.size + 1, off, none⟩) l l l l rfl rfl wr.heap.size 0 (List.replicate l (Value.int .i64 0)) 3 HC3.out (acc.map (Value.int .i64))
        (by rw [List.length_map, Hl.out]; exact (Nat.min_self l).symm) ?_ (by rw [List.length_map, Hl.out, List.length_replicate]; omega) (ints_oneCell _ _) wr.heap.size W3 (Below.refl _ _) (Nat.le_refl _) ?_
      · intro hpos
        refine ⟨rfl, _, rfl, fun j v hv => ?_⟩
        have hj : j < acc.length := by have := (List.getElem?_eq_some_iff.1 hv).1; simpa using this
        have ho := Hoff.out (by omega)
        have hl := Hl.out
        have ha := Harr.out
        have hd := Hdrop.out
        rw [Addr.add_lit, cell_of_row W3 _ _ _ _ _ Hblk3.out, ← hv]
        have e1 : off = 21 - acc.length := by omega
        rw [e1]
        conv => rhs; rw [← hd]
        simp [List.getElem?_drop]
      · intro W4 hb4 hB4
        have hl := Hl.out
        have HS4 := Lib.hid (show W4.heap[wr.heap.size]? = some (.cells (acc.map (Value.int .i64)).toArray 3 (0, 0)) by
          rw [hb4.out]
          unfold splice
          simp [hl])
        have HBel := Lib.hid (HW3.out.trans hB4)
        have Hres := Lib.hid (show back ws c0 t0 = (acc, c) by
          rw [Hback.out]
          obtain ⟨f', rfl⟩ : ∃ f', f = f' + 1 := ⟨f - 1, by have := Hf.out; omega⟩
          rw [backFrom, if_pos Hneg.out])
        have Hcamr := Lib.hid (show CameAt wr M c nn from ⟨D, HD.out, hcl, Hcc.out⟩)
        clear hb4 hB4
        go_wp2_with fail
        go_ret
        rw [Hres.out]
        refine ⟨some ⟨wr.heap.size, 0, none⟩, l, l, rfl, ⟨Hl.out, fun hp => ⟨wr.heap.size, 0, rfl, fun j hj => ?_⟩⟩, Hcamr.out.kept (grown_of_below HBel.out) (by simp), ?_, ?_, Nat.le_refl _⟩
        · have hl := Hl.out
          rw [cell_of_row W4 _ _ _ _ _ HS4.out, Nat.zero_add]
          simp [nth_eq acc j (by omega), show j < acc.length by omega]
        · have hb := Hbut.out
          have hB := HB0.out
          have h4 := HBel.out
          exact ⟨h4.os.trans (hb.os.trans hB.os), h4.tape.trans (hb.tape.trans hB.tape), h4.output.trans (hb.output.trans hB.output), by have := h4.size; omega, fun j hj hne => (h4.block j (by omega)).trans ((hb.block j (by omega) (by omega) (fun e => hne (by rw [e]))).trans (hB.block j hj))⟩
        · rintro b o e
          injection e with e
          injection e with e1 e2
          omega
    · obtain ⟨hhas, hat⟩ := hyes (by omega)
      rw [hhas]
      rw [hat] at hy
      obtain rfl : nth c t = y := by injection hy with h; injection h
      obtain ⟨nm, hnm⟩ := Int.eq_ofNat_of_zero_le (show 0 ≤ nth c t by omega)
      have hnmN : nm < N := by have := Hokc.out.2 t; omega
      have Hhas := Lib.hid hhas
      have Hnm := Lib.hid hnm
      rw [hnm]
      clear hno hyes hneg hy hwy hat hhas hnm
      go_wp2_with (first | (with_reducible refine holdMk 35 _ _ rfl ?_) | (with_reducible refine holdDel _ _ rfl ?_) | (with_reducible refine holdCp _ _ rfl ?_))
      unfold Held
      refine wpList_delete_own wr rfl (.tmp 26) (.tmp 27) 95 3 rfl 3 (Maps.int_keyed Try.underlying3) Try.underlying95 (plainElem Try.prog 3) M nn D rfl HD.out (.int .i64 (t : Int)) (.int .i64 (t : Int)) rfl (Maps.keyOf_int_mk Try.underlying3 (WalkArith.wf_i64 (by omega))) ?_
      intro w2 hD2 hturn
      have Hcam2 := Lib.hid (CameAt.del hcl Hcc.out (show t < 21 by omega) hD2)
      have hg2 := hturn.grown
      have hsz0 := Hs0.out
      have Hbut2 := Lib.hid (Hbut.out.grown hg2 (fun r e => by injection e with e; exact .inr (.inl e.symm)))
      have Hblk2 := Lib.hid ((hg2.block (w.heap.size + 1) (lt_of_block Hblk.out) (fun e => by injection e; omega)).trans Hblk.out)
      have e2 : w2.cell? ⟨w.heap.size, 2, none⟩ = some (.slice A' N cap') := (World.cell?_of_block (w := W0) (Hbut2.out.block w.heap.size (by omega) (by omega) (by omega))).trans Hb2.out
      obtain ⟨br, o, rfl, hcells⟩ := Hr.out.2 (by omega)
      obtain ⟨r0, _, _⟩ := hcells nm hnmN
      have hbr := lt_of_cell r0
      have hbrM : br ≠ M := by
        obtain ⟨D0, ⟨es, ck, hm, _⟩, _⟩ := Hc.out
        rintro rfl
        simp [World.cell?, hm] at r0
      have f0 : w2.cell? ⟨br, o + nm * 3, none⟩ = some (.int .i64 (rf ws nm)) := (World.cell?_of_block (w := w) ((Hbut2.out.block br (by omega) (by omega) hbrM).trans (HB0.out.block br hbr))).trans r0
      have hc1 : 1 ≤ cnt c := by have := cnt_set c t (by omega) (by rw [Hnm.out]; omega); omega
      obtain ⟨ff, hff⟩ : ∃ ff, ff + l = 20 := ⟨20 - l, by have := Hcnt.out; have := Hl.out; omega⟩
      have hff2 : (21 : Int) - (l : Int) - 1 = (ff : Int) := by omega
      have hff3 : (ff : Int) < 21 := by omega
      have hff4 : (0 : Int) ≤ (ff : Int) := by omega
      have hff5 : (ff : Int) ≤ 21 := by omega
      have ck : w2.cell? ⟨w.heap.size + 1, ff, none⟩ = some (.int .i64 (nth arr ff)) := by
        rw [cell_of_row w2 _ ff _ _ _ Hblk2.out]
        have : ff < arr.length := by have := Harr.out; omega
        simp [nth_eq arr ff this, this]
      have fk : w2.frozen? ⟨w.heap.size + 1, ff, none⟩ = false := frozen_of_row w2 _ ff _ _ Hblk2.out
      have hne1 : br ≠ w.heap.size + 1 := by omega
      have hnmi : (nm : Int) < (N : Int) := by omega
      have Hfitn := Lib.hid (show FitR (rAt ws nm) from Hfit.out _ (by rw [rAt_eq ws nm (by rw [Hr.out.1]; exact hnmN)]; exact List.getElem_mem _))
      clear hcells r0 hD2 hturn hg2 hsz0 hc1
      go_wp2_with (first | (with_reducible refine holdMk 35 _ _ rfl ?_) | (with_reducible refine holdDel _ _ rfl ?_) | (with_reducible refine holdCp _ _ rfl ?_))
      have hl := Hl.out
      have hcn := cnt_set c t (by omega) (by rw [Hnm.out]; omega)
      have hsg := grown_setCell w2 (w.heap.size + 1) ff (.int .i64 (nm : Int))
      obtain ⟨f', hf'⟩ : ∃ f', f = f' + 1 := ⟨f - 1, by have := Hf.out; omega⟩
      refine ⟨⟨c.set t (-1), (rf ws nm).toNat, (nm : Int) :: acc, arr.set ff (nm : Int), ff, f', ?_, ?_, ?_, fun _ => by simp only [List.length_cons]; omega, ?_, by have := Hf.out; omega, ?_, Hokc.out.set t, Hcam2.out.kept hsg (by intro e; injection e with e; omega), by rw [List.length_set]; exact Harr.out, ?_, ?_, ?_⟩, ?_⟩
      · rw [Int.toNat_of_nonneg (show 0 ≤ rf ws nm from Hfitn.out.1)]
      · rw [List.length_cons, hl, show 21 - ff = l + 1 by omega]
      · have := Hfitn.out.2.1; have := Hfitn.out.1; unfold rf; omega
      · have := Hcnt.out; simp only [List.length_cons]; omega
      · rw [Hback.out, hf', backFrom, if_neg (by rw [Hnm.out]; omega), Hnm.out, Int.toNat_natCast]
      · have hd := Hdrop.out
        have ha := Harr.out
        rw [List.length_cons, hl, show 21 - (l + 1) = ff by omega, List.drop_eq_getElem_cons (by rw [List.length_set]; omega), List.getElem_set_self, List.drop_set_of_lt (by omega)]
        rw [hl, show 21 - l = ff + 1 by omega] at hd
        rw [hd]
      · rw [heap_setCell_same w2 _ ff _ _ _ Hblk2.out]
        simp only [List.setIfInBounds_toArray, List.map_set]
      · exact Hbut2.out.grown hsg (fun r e => by injection e with e; exact .inl e.symm)
      · simp only [left9]; omega
end Go.Proofs.Ytiankphkemakeaa
