/- Stage 2: first, of steps that are strange. -/
import Derived.Test.YtfmcfalghbaanaaTop
import Derived.Laws.EntriesVeiled
import Derived.Sort.QuietIn
namespace Go.Proofs.Ytfmcfalghbaanaa
set_option linter.unusedSimpArgs false
set_option linter.unusedVariables false
open Go.RowKit Go.Shelf
attribute [local go_sem] Oper.semAt_some

/-- A step as what is yielded. -/
def stV (s : St) : Array Value := #[.agg #[.int .i64 s.p, .bool s.turned]]
set_option maxRecDepth 100000 in
theorem values68 (C : Option Addr) (m k : Nat) (w : World) :
    Calls Try.prog 68 #[.slice C m k] w fun e w' => e = .returned (.func (.func 75) #[] #[.pointer (some ⟨w.heap.size, 0, none⟩)]) ∧ w' = w.alloc (.cells #[.slice C m k] 29) := by
  go_enter Try.func68, Try.ntmps68
  go_wp2_with fail
  go_ret
  exact ⟨rfl, rfl⟩

set_option maxRecDepth 100000 in
set_option maxHeartbeats 1000000 in
theorem values_seq (C : Option Addr) (m cp B : Nat) (ss : List St) (w : World) (hB : w.cell? ⟨B, 0, none⟩ = some (.slice C m cp)) (hs : Sts w C m ss) (hm : m ≤ 9223372036854775807) :
    SeqL Try.prog 75 #[.pointer (some ⟨B, 0, none⟩)] stV ss (fun k => 0 < m ∧ ∃ o, C = some ⟨k, o, none⟩) w := by
  intro l Mut J Jx W hW hMut hJ hJx hY h0
  have c0 : W.cell? ⟨B, 0, none⟩ = some (.slice C m cp) := by
    rw [keep_cells hW (lt_of_cell hB) (fun e => e)]; exact hB
  have Hlen := Lib.hid hs.1
  refine (callsIn_wide (n := 3)).1 ?_
  refine callsIn_of_wp Try.func75 rfl trivial ?_ rfl
  simp only [Try.ntmps75, List.size_toArray, List.length_cons, List.length_nil, Nat.reduceAdd, Nat.reduceSub, Array.replicate_succ, Array.replicate_zero, List.push_toArray, List.append_toArray, List.nil_append, List.cons_append]
  gi_wp2_with fail
  clear c0
  gi_loopw [7] (fun i wr => ∃ k : Nat, k ≤ m ∧ i = .int .i64 (k : Int) ∧ J (ss.take k) wr ∧ Keeps (fun k => Mut k ∨ W.heap.size ≤ k) W wr) (fun i _ => m - (intOf i).toNat)
  case atStart => exact ⟨0, Nat.zero_le _, rfl, h0, Keeps.refl _ _⟩
  case round =>
    obtain ⟨k, hk, rfl, hj, hK⟩ := hrel
    have HK := Lib.hid hK
    have HJ := Lib.hid hj
    have HY := Lib.hid hY
    have HM := Lib.hid hMut
    by_cases hlt : k < m
    · obtain ⟨b, o, rfl, hc⟩ := hs.2 (by omega)
      have hbw := lt_of_cell (hc 0 (by omega)).1
      have hkb : ∀ j, wr.cell? ⟨b, j, none⟩ = w.cell? ⟨b, j, none⟩ := fun j => by
        have h1 : wr.heap[b]? = w.heap[b]? := (hK.block b (Nat.lt_of_lt_of_le hbw hW.size) (by
          rintro (e | e)
          · exact (hMut b e).2 ⟨by omega, o, rfl⟩
          · have := hW.size; omega)).trans (hW.block b hbw (fun e => e))
        simp [World.cell?, h1]
      obtain ⟨a0, a1⟩ := hc k hlt
      rw [← hkb] at a0 a1
      clear hkb hc
      have hkl : k < ss.length := by have := Hlen.out; omega
      have hsk : sAt ss k = ss[k] := by simp [sAt, List.getD_eq_getElem?_getD, hkl]
      have hsplit : ss = ss.take k ++ ss[k] :: ss.drop (k + 1) := by
        rw [← List.drop_eq_getElem_cons hkl, List.take_append_drop]
      have htk : ss.take (k + 1) = ss.take k ++ [ss[k]] := by rw [List.take_add_one, List.getElem?_eq_getElem hkl]; rfl
      obtain ⟨x, hx⟩ : ∃ x, ss[k] = x := ⟨_, rfl⟩
      rw [hsk, hx] at a0 a1
      rw [hx] at hsplit htk
      have HT := Lib.hid htk
      have HSp := Lib.hid hsplit
      have i0 : (0 : Int) ≤ (k : Int) := by omega
      have i1 : (k : Int) < (m : Int) := by omega
      have HK1 := Lib.hid (show Keeps (fun k => Mut k ∨ W.heap.size ≤ k) W (wr.alloc (.cells #[.int .i64 x.p, .bool x.turned] 28)) from hK.trans (keep_alloc _ _ _))
      have HJ1 := Lib.hid (hJ _ _ _ hj (keep_alloc _ wr (.cells #[.int .i64 x.p, .bool x.turned] 28)))
      have hwW := hK.size
      have hy0 := hY _ _ _ (wr.alloc (.cells #[.int .i64 x.p, .bool x.turned] 28)) hsplit (by simp; omega) HJ1.out (3 - 1)
      unfold stV at hy0
      obtain ⟨fn, tmps, assign, body, hy, hR⟩ := hy0
      clear hsplit htk hK hj hY hJ hMut hs hx hsk
      gi_wp2_with fail
      refine hR.mono ?_
      rintro e W2 (⟨rfl, hj2, hK2⟩ | ⟨rfl, hj2, hK2⟩)
      · have HJ2 := Lib.hid hj2
        have HK2 := Lib.hid (HK1.out.trans (hK2.mono (fun k _ e => .inl e)))
        clear hj2 hK2 hy
        gi_wp2_with fail
        go_roundw
        case rel => exact ⟨k + 1, by omega, by go_num, by rw [HT.out]; exact HJ2.out, HK2.out⟩
        case measure => simp [intOf]; omega
      · have HJ2 := Lib.hid hj2
        clear hj2 hK2 hy
        gi_wp2_with fail
        exact bodyPost_ret (results_none rfl _ _ _) rfl ⟨⟨_, rfl⟩, .inr ⟨_, _, _, HSp.out, HJ2.out⟩⟩
    · have hkn : ss.take k = ss := List.take_of_length_le (by have := Hlen.out; omega)
      have Hkn := Lib.hid hkn
      clear hK hj hY hJ hMut hs hkn
      gi_wp2_with fail
      go_end0
      exact ⟨⟨_, rfl⟩, .inl (by have := HJ.out; rw [Hkn.out] at this; exact this)⟩
end Go.Proofs.Ytfmcfalghbaanaa

namespace Go.Proofs.Ytfmcfalghbaanaa
set_option linter.unusedSimpArgs false
set_option linter.unusedVariables false
open Go.RowKit Go.Shelf
attribute [local go_sem] Oper.semAt_some

/-- All of some steps are steps. -/
def allB (ps : List Pc) (ss : List St) : Bool := ss.all (stepB ps)
/-- What its loop keeps. -/
def FI (ps : List Pc) (W5 : World) (pre : List St) (W : World) : Prop := allB ps pre = true ∧ Keeps (fun _ => False) W5 W
def FX (ps : List Pc) (F : Nat) (W5 : World) (c : Code) (pre : List St) (W : World) : Prop :=
  c = .ret ∧ allB ps pre = false ∧ (∃ s : St, W.heap[F]? = some (.cells #[.int .i64 s.p, .bool s.turned] 28 (0, 0))) ∧ W.heap[F + 1]? = some (.cells #[.bool true] 4 (0, 0)) ∧ Keeps (fun k => k = F ∨ k = F + 1) W5 W
theorem FI.abides {ps : List Pc} {W5 : World} {pre : List St} {B0 : Nat} (h : W5.heap.size ≤ B0) : Abides B0 (FI ps W5 pre) := fun A B hh hK => ⟨hh.1, keeps_abides h _ _ hh.2 hK⟩
theorem FX.abides {ps : List Pc} {F : Nat} {W5 : World} {c : Code} {pre : List St} {B0 : Nat} (h : W5.heap.size ≤ B0) (h2 : F + 1 < B0) : Abides B0 (FX ps F W5 c pre) := fun A B hh hK => by
  obtain ⟨h1, h3, ⟨s, h4⟩, h5, h6⟩ := hh
  exact ⟨h1, h3, ⟨s, (hK.block _ (lt_of_block h4) (by omega)).trans h4⟩, (hK.block _ (lt_of_block h5) (by omega)).trans h5, keeps_abides h _ _ h6 hK⟩

set_option maxRecDepth 100000 in
theorem res67 {tmps : Array Value} {W : World} {F O : Nat} {s : St} {b : Bool} (h4 : tmps.getD 4 undef = .pointer (some ⟨F, 0, none⟩)) (h5 : tmps.getD 5 undef = .pointer (some ⟨O, 0, none⟩)) (hF : W.heap[F]? = some (.cells #[.int .i64 s.p, .bool s.turned] 28 (0, 0))) (hO : W.heap[O]? = some (.cells #[.bool b] 4 (0, 0))) :
    (results Try.f67 tmps).run Try.prog W = .ok (.tuple #[.agg #[.int .i64 s.p, .bool s.turned], .bool b]) W := by
  obtain ⟨c0, c1⟩ := two_cells hF
  have c2 : W.cell? ⟨O, 0, none⟩ = some (.bool b) := by rw [cell_row hO]; rfl
  rw [Array.getD_eq_getD_getElem?] at h4 h5
  simp [results, Try.results67, go_sem, h4, h5, c0, c1, c2]

set_option maxRecDepth 100000 in
set_option maxHeartbeats 2000000 in
theorem first67 (Y : Array Value) (A : Option Addr) (n cap : Nat) (off lo hi : Int) (T : Nat → Nat → Bool) (M : Nat) (ps : List Pc) (C : Option Addr) (m cp B : Nat) (ss : List St) (w : World)
    (hY : Brd Y A n cap off lo hi T M) (hp : Pcs w A n ps) (hB : w.cell? ⟨B, 0, none⟩ = some (.slice C m cp)) (hs : Sts w C m ss) (hm : m ≤ 9223372036854775807) :
    Calls Try.prog 67 #[.func (.func 75) #[] #[.pointer (some ⟨B, 0, none⟩)], .func (.func 43) #[.agg Y] #[]] w fun e w' => (∃ s : St, e = .returned (.tuple #[.agg #[.int .i64 s.p, .bool s.turned], .bool (!allB ps ss)])) ∧ Below w.heap.size w w' := by
  have hBl := lt_of_cell hB
  have HY := Lib.hid hY
  have Hp := Lib.hid hp
  have HB := Lib.hid hB
  have Hs := Lib.hid hs
  clear hY hp hB hs
  refine (callsIn_wide (n := 3)).1 ?_
  refine callsIn_of_wp_marks Try.func67 rfl trivial ?_ rfl
  simp only [Try.ntmps67, List.size_toArray, List.length_cons, List.length_nil, Nat.reduceAdd, Nat.reduceSub, Array.replicate_succ, Array.replicate_zero, List.push_toArray, List.append_toArray, List.nil_append, List.cons_append]
  gi_wp2_with fail
  have hb5 := ((below_alloc_ w (.cells #[.func (.func 43) #[.agg Y] #[]] 81)).trans ((below_alloc_ _ (.cells #[.int .i64 0, .bool false] 28)).mono (by simp))).trans ((below_alloc_ _ (.cells #[.bool false] 4)).mono (by simp; omega))
  have eG : (((w.alloc (.cells #[.func (.func 43) #[.agg Y] #[]] 81)).alloc (.cells #[.int .i64 0, .bool false] 28)).alloc (.cells #[.bool false] 4)).heap[w.heap.size]? = some (.cells #[.func (.func 43) #[.agg Y] #[]] 81 (0, 0)) := hal_old (hal_old (heap_alloc_new_ _ _))
  have eF : (((w.alloc (.cells #[.func (.func 43) #[.agg Y] #[]] 81)).alloc (.cells #[.int .i64 0, .bool false] 28)).alloc (.cells #[.bool false] 4)).heap[w.heap.size + 1]? = some (.cells #[.int .i64 0, .bool false] 28 (0, 0)) := hal_old (hal_new (by simp))
  have eO : (((w.alloc (.cells #[.func (.func 43) #[.agg Y] #[]] 81)).alloc (.cells #[.int .i64 0, .bool false] 28)).alloc (.cells #[.bool false] 4)).heap[w.heap.size + 1 + 1]? = some (.cells #[.bool false] 4 (0, 0)) := hal_new (by simp)
  have hs5 := eq_le (show (((w.alloc (.cells #[.func (.func 43) #[.agg Y] #[]] 81)).alloc (.cells #[.int .i64 0, .bool false] 28)).alloc (.cells #[.bool false] 4)).heap.size = w.heap.size + 3 by simp)
  obtain ⟨W5, hW5⟩ : ∃ W5, ((w.alloc (.cells #[.func (.func 43) #[.agg Y] #[]] 81)).alloc (.cells #[.int .i64 0, .bool false] 28)).alloc (.cells #[.bool false] 4) = W5 := ⟨_, rfl⟩
  rw [hW5] at hb5 eG eF eO hs5 ⊢
  have HG := Lib.hid eG
  have HF := Lib.hid eF
  have HO := Lib.hid eO
  have Hb5 := Lib.hid hb5
  have hneed : ∀ k, (0 < m ∧ ∃ o, C = some ⟨k, o, none⟩) → k < w.heap.size := by
    rintro k ⟨h0, o, e⟩
    obtain ⟨b, o2, e2, hc⟩ := Hs.out.2 h0
    have := lt_of_cell (hc 0 h0).1
    rw [e2] at e
    injection e with e
    injection e with e _
    omega
  have hB5 : W5.cell? ⟨B, 0, none⟩ = some (.slice C m cp) := (hb5.cell (p := ⟨B, 0, none⟩) hBl).trans HB.out
  have hs55 := Hs.out.below hb5 (Nat.le_refl _)
  clear hW5 hb5 eG eF eO
  refine wpIn_rangeL (gf := 75) (lb := #[.pointer (some ⟨B, 0, none⟩)]) rfl (enters_of Try.func75 (by kernel_rfl) rfl) (values_seq C m cp B ss W5 hB5 hs55 hm)
    (fun k h => by have := hneed k h; omega) (fun _ => rfl) (fun j => j = w.heap.size + 1 ∨ j = w.heap.size + 1 + 1) (by
      rintro k (rfl | rfl)
      · exact ⟨by omega, fun h => by have := hneed _ h; omega⟩
      · exact ⟨by omega, fun h => by have := hneed _ h; omega⟩)
    (FI ps W5) (FX ps (w.heap.size + 1) W5) (fun pre => FI.abides (Nat.le_refl _)) (fun c pre => FX.abides (Nat.le_refl _) (by omega)) ?start ?round ?done ?stop
  case start => exact ⟨rfl, Keeps.refl _ _⟩
  case round =>
    intro l pre x post W6 hxs hl1 hl2 hr hI m2
    have HI := Lib.hid hI
    have HXS := Lib.hid hxs
    unfold stV
    clear hI hxs hr hB5 hs55
    gi_wp2_with fail
    refine ⟨keep_alloc _ _ _, ?_⟩
    intro w2 hbeg hI2
    have hk52 := hI2.2
    have cG : w2.cell? ⟨w.heap.size, 0, none⟩ = some (.func (.func 43) #[.agg Y] #[]) := by rw [cell_row ((hk52.block _ (by omega) (fun e => e)).trans HG.out)]; rfl
    have hxb : w2.heap[W6.heap.size]? = some (.cells #[.int .i64 x.p, .bool x.turned] 28 (0, 0)) := (hbeg.keeps.block _ (by simp) (by omega)).trans (heap_alloc_new_ _ _)
    have hbw2 : Below w.heap.size w w2 := Hb5.out.trans (hk52.below (by omega) (fun _ _ e => e))
    have hp2 := Hp.out.below hbw2 (Nat.le_refl _)
    have hw6 : W5.heap.size ≤ W6.heap.size := HI.out.2.size
    have hF2 := (hk52.block _ (by omega) (fun e => e)).trans HF.out
    have hO2 := (hk52.block _ (by omega) (fun e => e)).trans HO.out
    obtain ⟨cx0, cx1⟩ := two_cells hxb
    have HX := Lib.hid hxb
    have HK52 := Lib.hid hk52
    have HF2 := Lib.hid hF2
    have HO2 := Lib.hid hO2
    have HI2 := Lib.hid hI2.1
    clear hxb hk52 hbw2 hI2 hbeg HI hF2 hO2
    gi_wp2_with fail
    refine ⟨trivial, wide_d, CallsIn.inRound l ((callsIn_wide.2 (strange43 Y A n cap off lo hi T M ps x.p x.turned w2 HY.out hp2)).mono ?_)⟩
    rintro e W8 ⟨rfl, hb8⟩
    have hk8 : Keeps (fun _ => False) w2 W8 := Keeps.of_new hb8
    have HX8 := (hk8.block _ (lt_of_block HX.out) (fun e => e)).trans HX.out
    have HF8 := (hk8.block _ (lt_of_block HF2.out) (fun e => e)).trans HF2.out
    have HO8 := (hk8.block _ (lt_of_block HO2.out) (fun e => e)).trans HO2.out
    obtain ⟨dx0, dx1⟩ := two_cells HX8
    have fF0 : W8.frozen? ⟨w.heap.size + 1, 0, none⟩ = false := frozen_row HF8
    have fF1 : W8.frozen? ⟨w.heap.size + 1, 1, none⟩ = false := frozen_row HF8
    have fO0 : W8.frozen? ⟨w.heap.size + 1 + 1, 0, none⟩ = false := frozen_row HO8
    have gF0 : W8.cell? ⟨w.heap.size + 1, 0, none⟩ = some (.int .i64 0) := (two_cells HF8).1
    have gF1 : W8.cell? ⟨w.heap.size + 1, 1, none⟩ = some (.bool false) := (two_cells HF8).2
    have gO0 : W8.cell? ⟨w.heap.size + 1 + 1, 0, none⟩ = some (.bool false) := by rw [cell_row HO8]; rfl
    have HK8 := Lib.hid hk8
    have H8F := Lib.hid HF8
    have H8O := Lib.hid HO8
    have H8X := Lib.hid HX8
    clear HX8 HF8 HO8 hb8 hk8 cx0 cx1 cG
    cases hs1 : stepB ps ⟨x.p, x.turned⟩ with
    | true =>
      have Hs1 := Lib.hid (show allB ps (pre ++ [x]) = true by
        have h1 := HI2.out
        unfold allB at h1 ⊢
        rw [List.all_append, h1]; simpa using hs1)
      clear hs1
      gi_wp2_with fail
      exact ⟨HK8.out.none, Hs1.out, HK52.out.trans HK8.out⟩
    | false =>
      have Hs1 := Lib.hid (show allB ps (pre ++ [x]) = false by
        unfold allB
        rw [List.all_append]; simp [hs1])
      clear hs1
      gi_wp2_with fail
      have q1 := keeps_setCell W8 (w.heap.size + 1) 0 (.int .i64 x.p)
      have q2 := keeps_setCell (W8.setCell ⟨w.heap.size + 1, 0, none⟩ (.int .i64 x.p)) (w.heap.size + 1) 1 (.bool x.turned)
      have q3 := keeps_setCell ((W8.setCell ⟨w.heap.size + 1, 0, none⟩ (.int .i64 x.p)).setCell ⟨w.heap.size + 1, 1, none⟩ (.bool x.turned)) (w.heap.size + 1 + 1) 0 (.bool true)
      have q := (HK8.out.none (Mut := fun j => j = w.heap.size + 1 ∨ j = w.heap.size + 1 + 1)).trans (((q1.mono (fun _ _ e => .inl e)).trans (q2.mono (fun _ _ e => .inl e))).trans (q3.mono (fun _ _ e => .inr e)))
      refine ⟨q, rfl, Hs1.out, ⟨x, ?_⟩, ?_, HK52.out.none.trans q⟩
      · exact set_other _ (set_same 1 _ (set_same 0 _ H8F.out)) (by omega)
      · exact set_same 0 _ (set_other _ (set_other _ H8O.out (by omega)) (by omega))
  case done =>
    intro D W7 hD hDW hI hKd
    obtain ⟨h1, h2⟩ := hI
    have hF7 := (h2.block _ (by omega) (fun e => e)).trans HF.out
    have hO7 := (h2.block _ (by omega) (fun e => e)).trans HO.out
    obtain ⟨gF0, gF1⟩ := two_cells hF7
    have fF0 : W7.frozen? ⟨w.heap.size + 1, 0, none⟩ = false := frozen_row hF7
    have fF1 : W7.frozen? ⟨w.heap.size + 1, 1, none⟩ = false := frozen_row hF7
    have fO0 : W7.frozen? ⟨w.heap.size + 1 + 1, 0, none⟩ = false := frozen_row hO7
    have gO0 : W7.cell? ⟨w.heap.size + 1 + 1, 0, none⟩ = some (.bool false) := by rw [cell_row hO7]; rfl
    have H1 := Lib.hid h1
    have H2 := Lib.hid h2
    have HKd := Lib.hid hKd
    clear h1 h2 hF7 hO7 hKd hB5 hs55 hneed
    have H7F := Lib.hid ((H2.out.block _ (by omega) (fun e => e)).trans HF.out)
    have H7O := Lib.hid ((H2.out.block _ (by omega) (fun e => e)).trans HO.out)
    gi_wp2_with fail
    have q1 := keeps_setCell W7 (w.heap.size + 1) 0 (.int .i64 0)
    have q2 := keeps_setCell (W7.setCell ⟨w.heap.size + 1, 0, none⟩ (.int .i64 0)) (w.heap.size + 1) 1 (.bool false)
    have q3 := keeps_setCell ((W7.setCell ⟨w.heap.size + 1, 0, none⟩ (.int .i64 0)).setCell ⟨w.heap.size + 1, 1, none⟩ (.bool false)) (w.heap.size + 1 + 1) 0 (.bool false)
    have q := ((q1.mono (Mut' := fun j => j = w.heap.size + 1 ∨ j = w.heap.size + 1 + 1) (fun _ _ e => .inl e)).trans (q2.mono (fun _ _ e => .inl e))).trans (q3.mono (fun _ _ e => .inr e))
    have v1 := set_other (.bool false) (set_same 1 (.bool false) (set_same 0 (.int .i64 0) H7F.out)) (show w.heap.size + 1 ≠ w.heap.size + 1 + 1 by omega) (o := 0)
    have v2 := set_same 0 (.bool false) (set_other (.bool false) (set_other (.int .i64 0) H7O.out (show w.heap.size + 1 + 1 ≠ w.heap.size + 1 by omega) (o := 0)) (show w.heap.size + 1 + 1 ≠ w.heap.size + 1 by omega) (o := 1))
    have hd := (q.block D hDW (by omega)).trans HKd.out
    obtain ⟨V, hV⟩ : ∃ V, ((W7.setCell ⟨w.heap.size + 1, 0, none⟩ (.int .i64 0)).setCell ⟨w.heap.size + 1, 1, none⟩ (.bool false)).setCell ⟨w.heap.size + 1 + 1, 0, none⟩ (.bool false) = V := ⟨_, rfl⟩
    rw [hV] at q v1 v2 hd ⊢
    refine ⟨by simp, .inl ⟨_, _, rfl, run_takeDeferred hd, ?_⟩⟩
    have q4 := Keeps.putObj (Mut := fun j => j = D) V D (.deferred none) rfl
    have v1' := (q4.block _ (lt_of_block v1) (by omega)).trans v1
    have v2' := (q4.block _ (lt_of_block v2) (by omega)).trans v2
    refine ⟨_, res67 (s := ⟨0, false⟩) (b := false) rfl rfl v1' v2', ⟨⟨0, false⟩, by rw [H1.out]; rfl⟩, ?_⟩
    have hW5l := hs5.2
    have hsz7 := H2.out.size
    exact Hb5.out.trans (((H2.out.none.trans ((q.mono (Mut' := fun j => w.heap.size ≤ j) (fun _ _ e => by rcases e with e | e <;> omega)).trans (q4.mono (fun _ _ e => by omega))))).below (by omega) (fun k hk e => by omega))
  case stop =>
    rintro D c pre x post W7 hD hDW hxs ⟨rfl, h1, ⟨s, h2⟩, h3, h4⟩ hKd
    have H1 := Lib.hid h1
    have HKd := Lib.hid hKd
    have H4 := Lib.hid h4
    have H7F := Lib.hid h2
    have H7O := Lib.hid h3
    have HXS := Lib.hid hxs
    obtain ⟨gF0, gF1⟩ := two_cells h2
    have gO0 : W7.cell? ⟨w.heap.size + 1 + 1, 0, none⟩ = some (.bool true) := by rw [cell_row h3]; rfl
    clear h1 h2 h3 h4 hxs hKd hB5 hs55 hneed
    gi_wp2_with fail
    refine ⟨by simp, .inl ⟨_, _, rfl, run_takeDeferred HKd.out, ?_⟩⟩
    have q4 := Keeps.putObj (Mut := fun j => j = D) W7 D (.deferred none) rfl
    have v1' := (q4.block _ (lt_of_block H7F.out) (by omega)).trans H7F.out
    have v2' := (q4.block _ (lt_of_block H7O.out) (by omega)).trans H7O.out
    refine ⟨_, res67 (s := s) (b := true) rfl rfl v1' v2', ⟨s, ?_⟩, ?_⟩
    · have h1 := H1.out
      have h2 := HXS.out
      have h3 : allB ps ss = false := by
        rw [h2, show pre ++ x :: post = (pre ++ [x]) ++ post by simp]
        unfold allB at h1 ⊢
        rw [List.all_append, h1, Bool.false_and]
      rw [h3]; rfl
    · have hsz7 := H4.out.size
      exact Hb5.out.trans (((H4.out.mono (Mut' := fun j => w.heap.size ≤ j) (fun _ _ e => by rcases e with e | e <;> omega)).trans (q4.mono (fun _ _ e => by omega))).below (by omega) (fun k hk e => by omega))
end Go.Proofs.Ytfmcfalghbaanaa
