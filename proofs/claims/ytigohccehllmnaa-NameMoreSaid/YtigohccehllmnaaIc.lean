/- Stage 6: whether names are a chain. -/
import Derived.Test.YtigohccehllmnaaTh
import Derived.Deep.Cut
import Derived.Deep.CutRange
namespace Go.Proofs.Ytigohccehllmnaa
set_option linter.unusedSimpArgs false
set_option linter.unusedVariables false
open Go.RowKit Go.Shelf

theorem SeqO.keep {α : Type} {P : Program} {g : Nat} {lb : Array Value} {encs : α → Array Value} {xs : List α} {Need : Nat → Prop} {w w5 : World} (h : SeqO P g lb encs xs Need w) (hk : Keeps (fun _ => False) w w5) : SeqO P g lb encs xs Need w5 :=
  fun l Mut J Jx W hW hM hJ hX hY h0 => h l Mut J Jx W (hk.trans hW) hM hJ hX hY h0
/-- What its loop keeps. -/
def FsI (op : Wy → Bool) (W5 : World) (pre : List Wy) (O : Nat → Prop) (W : World) : Prop := pre.any op = false ∧ Keeps (fun _ => False) W5 W
def FsX (op : Wy → Bool) (F : Nat) (W5 : World) (c : Code) (pre : List Wy) (O : Nat → Prop) (W : World) : Prop :=
  c = .ret ∧ pre.any op = true ∧ (∃ a b d : Int, W.heap[F]? = some (.cells #[.int .i64 a, .int .i64 b, .int .i64 d] 79 (0, 0))) ∧ W.heap[F + 1]? = some (.cells #[.bool true] 4 (0, 0)) ∧ Keeps (fun k => k = F ∨ k = F + 1) W5 W
theorem FsI.ab {op : Wy → Bool} {W5 : World} {pre : List Wy} {B0 : Nat} (h : W5.heap.size ≤ B0) : AbO B0 (FsI op W5 pre) := fun O A B hh hK => ⟨hh.1, keeps_abides h _ _ hh.2 (hK.mono (fun _ _ e => e.1))⟩
theorem FsX.ab {op : Wy → Bool} {F : Nat} {W5 : World} {c : Code} {pre : List Wy} {B0 : Nat} (h : W5.heap.size ≤ B0) (h2 : F + 1 < B0) : AbO B0 (FsX op F W5 c pre) := fun O A B hh hK => by
  obtain ⟨h1, h3, ⟨a, b, d, h4⟩, h5, h6⟩ := hh
  exact ⟨h1, h3, ⟨a, b, d, (hK.block _ (lt_of_block h4) (by omega)).trans h4⟩, (hK.block _ (lt_of_block h5) (by omega)).trans h5, keeps_abides h _ _ h6 (hK.mono (fun _ _ e => e.1))⟩
theorem set_other {W : World} {j k : Nat} {c : Array Value} {t : TypeId} {o : Nat} (v : Value) (h : W.heap[j]? = some (.cells c t (0, 0))) (hne : j ≠ k) : (W.setCell ⟨k, o, none⟩ v).heap[j]? = some (.cells c t (0, 0)) := (Below.heap_setCell W ⟨k, o, none⟩ v j hne).trans h
theorem row3 {W : World} {F : Nat} {a b d : Value} {t : TypeId} (h : W.heap[F]? = some (.cells #[a, b, d] t (0, 0))) : W.cell? ⟨F, 0, none⟩ = some a ∧ W.cell? ⟨F, 1, none⟩ = some b ∧ W.cell? ⟨F, 2, none⟩ = some d :=
  ⟨by rw [cell_row h]; rfl, by rw [cell_row h]; rfl, by rw [cell_row h]; rfl⟩
set_option maxRecDepth 100000 in
theorem res75 {tmps : Array Value} {W : World} {F O : Nat} {x y z : Int} {b : Bool} (h4 : tmps.getD 4 undef = .pointer (some ⟨F, 0, none⟩)) (h5 : tmps.getD 5 undef = .pointer (some ⟨O, 0, none⟩)) (hF : W.heap[F]? = some (.cells #[.int .i64 x, .int .i64 y, .int .i64 z] 79 (0, 0))) (hO : W.heap[O]? = some (.cells #[.bool b] 4 (0, 0))) :
    (results Try.f75 tmps).run Try.prog W = .ok (.tuple #[.agg #[.int .i64 x, .int .i64 y, .int .i64 z], .bool b]) W := by
  obtain ⟨c0, c1, c3⟩ := row3 hF
  have c2 : W.cell? ⟨O, 0, none⟩ = some (.bool b) := by rw [cell_row hO]; rfl
  rw [Array.getD_eq_getD_getElem?] at h4 h5
  simp [results, Try.results75, go_sem, h4, h5, c0, c1, c2, c3]
section
attribute [local go_sem ↓] exec_app at_app
attribute [local go_sem] Oper.semAt_some
set_option maxRecDepth 100000 in
set_option maxHeartbeats 16000000 in
theorem first75 (b1 b2 : Nat) (xs : List Wy) (Need : Nat → Prop) (g2 : FuncId) (ra lb : Array Value) (op : Wy → Bool) (Dm : Wy → Prop) (w : World)
    (hseq : SeqO Try.prog 86 #[.pointer (some ⟨b1, 0, none⟩), .pointer (some ⟨b2, 0, none⟩)] wE xs Need w) (hNeed : ∀ k, Need k → k < w.heap.size) (hT : TellsW w (.func (.func g2) ra lb) Dm op) (hD : ∀ x ∈ xs, Dm x) :
    Calls Try.prog 75 #[.func (.func 86) #[] #[.pointer (some ⟨b1, 0, none⟩), .pointer (some ⟨b2, 0, none⟩)], .func (.func g2) ra lb] w fun e w' => (∃ a b d : Int, e = .returned (.tuple #[.agg #[.int .i64 a, .int .i64 b, .int .i64 d], .bool (xs.any op)])) ∧ Below w.heap.size w w' := by
  obtain ⟨g3, r3, l3, e3, eg, hT⟩ := hT
  cases e3
  have HT := Lib.hid hT
  have Heg := Lib.hid eg
  have HD := Lib.hid hD
  have Hseq := Lib.hid hseq
  clear hT eg hD hseq
  refine (callsIn_wide (n := 3)).1 ?_
  refine callsIn_of_wp_marks Try.func75 rfl trivial ?_ rfl
  simp only [Try.ntmps75, List.size_toArray, List.length_cons, List.length_nil, Nat.reduceAdd, Nat.reduceSub, Array.replicate_succ, Array.replicate_zero, List.push_toArray, List.append_toArray, List.nil_append, List.cons_append]
  gi_wp2_with fail
  have hb5 := ((below_alloc_ w (.cells #[.func (.func g2) ra lb] 96)).trans ((below_alloc_ _ (.cells #[.int .i64 0, .int .i64 0, .int .i64 0] 79)).mono (by simp))).trans ((below_alloc_ _ (.cells #[.bool false] 4)).mono (by simp; omega))
  have eG : (((w.alloc (.cells #[.func (.func g2) ra lb] 96)).alloc (.cells #[.int .i64 0, .int .i64 0, .int .i64 0] 79)).alloc (.cells #[.bool false] 4)).heap[w.heap.size]? = some (.cells #[.func (.func g2) ra lb] 96 (0, 0)) := hal_old (hal_old (heap_alloc_new_ _ _))
  have eF : (((w.alloc (.cells #[.func (.func g2) ra lb] 96)).alloc (.cells #[.int .i64 0, .int .i64 0, .int .i64 0] 79)).alloc (.cells #[.bool false] 4)).heap[w.heap.size + 1]? = some (.cells #[.int .i64 0, .int .i64 0, .int .i64 0] 79 (0, 0)) := hal_old (hal_new (by simp))
  have eO : (((w.alloc (.cells #[.func (.func g2) ra lb] 96)).alloc (.cells #[.int .i64 0, .int .i64 0, .int .i64 0] 79)).alloc (.cells #[.bool false] 4)).heap[w.heap.size + 1 + 1]? = some (.cells #[.bool false] 4 (0, 0)) := hal_new (by simp)
  have hs5 := eq_le (show (((w.alloc (.cells #[.func (.func g2) ra lb] 96)).alloc (.cells #[.int .i64 0, .int .i64 0, .int .i64 0] 79)).alloc (.cells #[.bool false] 4)).heap.size = w.heap.size + 3 by simp)
  obtain ⟨W5, hW5⟩ : ∃ W5, ((w.alloc (.cells #[.func (.func g2) ra lb] 96)).alloc (.cells #[.int .i64 0, .int .i64 0, .int .i64 0] 79)).alloc (.cells #[.bool false] 4) = W5 := ⟨_, rfl⟩
  rw [hW5] at hb5 eG eF eO hs5 ⊢
  have HG := Lib.hid eG
  have HF := Lib.hid eF
  have HO := Lib.hid eO
  have Hb5 := Lib.hid hb5
  clear hW5 hb5 eG eF eO
  refine wpIn_rangeO (gf := 86) (lb := #[.pointer (some ⟨b1, 0, none⟩), .pointer (some ⟨b2, 0, none⟩)]) rfl enters86 (Hseq.out.keep (Keeps.of_new Hb5.out))
    (fun k h => by have := hNeed k h; omega) (fun _ => rfl) (fun j => j = w.heap.size + 1 ∨ j = w.heap.size + 1 + 1) (by
      rintro k (rfl | rfl)
      · exact ⟨by omega, fun h => by have := hNeed _ h; omega⟩
      · exact ⟨by omega, fun h => by have := hNeed _ h; omega⟩)
    (FsI op W5) (FsX op (w.heap.size + 1) W5) (fun pre => FsI.ab (Nat.le_refl _)) (fun c pre => FsX.ab (Nat.le_refl _) (by omega)) ?start ?round ?done ?stop
  case start => exact ⟨rfl, Keeps.refl _ _⟩
  case round =>
    intro l pre x post W6 O6 hxs hl1 hl2 hr hOs hI m2
    have HI := Lib.hid hI
    have Hmx := Lib.hid (show Dm x from HD.out x (by rw [hxs]; simp))
    unfold wE wV
    clear hI hxs hr
    gi_wp2_with fail
    refine ⟨keep_alloc _ _ _, ?_⟩
    intro w2 hbeg hI2
    have hk52 := hI2.2
    have cG : w2.cell? ⟨w.heap.size, 0, none⟩ = some (.func (.func g2) ra lb) := by rw [cell_row ((hk52.block _ (by omega) (fun e => e)).trans HG.out)]; rfl
    have hxb : w2.heap[W6.heap.size]? = some (.cells #[.int .i64 (x.link : Int), .int .i64 x.fr, .int .i64 x.to] 79 (0, 0)) := (hbeg.keeps.block _ (by simp) (by omega)).trans (heap_alloc_new_ _ _)
    have hbw2 : Below w.heap.size w w2 := Hb5.out.trans (hk52.below (by omega) (fun _ _ e => e))
    have hw6 : W5.heap.size ≤ W6.heap.size := HI.out.2.size
    have hF2 := (hk52.block _ (by omega) (fun e => e)).trans HF.out
    have hO2 := (hk52.block _ (by omega) (fun e => e)).trans HO.out
    obtain ⟨cx0, cx1, cx2⟩ := row3 hxb
    have HX := Lib.hid hxb
    have HK52 := Lib.hid hk52
    have HF2 := Lib.hid hF2
    have HO2 := Lib.hid hO2
    have HI2 := Lib.hid hI2.1
    have kT := HT.out w2 x Hmx.out hbw2
    obtain ⟨j, hj⟩ : ∃ j, op x = j := ⟨_, rfl⟩
    rw [hj] at kT
    unfold wV at kT
    have KT := Lib.hid kT
    have HJ := Lib.hid hj
    have eg := Heg.out
    clear hxb hk52 hbw2 hI2 hbeg HI hF2 hO2 kT hj
    gi_wp2_with fail
    refine ⟨trivial, wide_d, CallsIn.inRound l ((callsIn_wide.2 KT.out).mono ?_)⟩
    rintro e W8 ⟨rfl, hb8⟩
    have hk8 : Keeps (fun _ => False) w2 W8 := Keeps.of_new hb8
    have HX8 := (hk8.block _ (lt_of_block HX.out) (fun e => e)).trans HX.out
    have HF8 := (hk8.block _ (lt_of_block HF2.out) (fun e => e)).trans HF2.out
    have HO8 := (hk8.block _ (lt_of_block HO2.out) (fun e => e)).trans HO2.out
    obtain ⟨dx0, dx1, dx2⟩ := row3 HX8
    have fF0 : W8.frozen? ⟨w.heap.size + 1, 0, none⟩ = false := frozen_row HF8
    have fF1 : W8.frozen? ⟨w.heap.size + 1, 1, none⟩ = false := frozen_row HF8
    have fF2 : W8.frozen? ⟨w.heap.size + 1, 2, none⟩ = false := frozen_row HF8
    have fO0 : W8.frozen? ⟨w.heap.size + 1 + 1, 0, none⟩ = false := frozen_row HO8
    obtain ⟨gF0, gF1, gF2⟩ := row3 HF8
    have gO0 : W8.cell? ⟨w.heap.size + 1 + 1, 0, none⟩ = some (.bool false) := by rw [cell_row HO8]; rfl
    have HK8 := Lib.hid hk8
    have H8F := Lib.hid HF8
    have H8O := Lib.hid HO8
    have H8X := Lib.hid HX8
    clear HX8 HF8 HO8 hb8 hk8 cx0 cx1 cx2 cG KT eg
    rcases j with _ | _
    · have Hs1 := Lib.hid (show (pre ++ [x]).any op = false by
        have h1 := HI2.out
        rw [List.any_append, h1]; simp [HJ.out])
      gi_wp2_with fail
      exact ⟨O6, Grow.refl _ _ _, HK8.out.none, Hs1.out, HK52.out.trans HK8.out⟩
    · have Hs1 := Lib.hid (show (pre ++ [x]).any op = true by rw [List.any_append]; simp [HJ.out])
      gi_wp2_with fail
      have q0 := keeps_setCell W8 (w.heap.size + 1) 0 (.int .i64 (x.link : Int))
      have q1 := keeps_setCell (W8.setCell ⟨w.heap.size + 1, 0, none⟩ (.int .i64 (x.link : Int))) (w.heap.size + 1) 1 (.int .i64 x.fr)
      have q2 := keeps_setCell ((W8.setCell ⟨w.heap.size + 1, 0, none⟩ (.int .i64 (x.link : Int))).setCell ⟨w.heap.size + 1, 1, none⟩ (.int .i64 x.fr)) (w.heap.size + 1) 2 (.int .i64 x.to)
      have q3 := keeps_setCell (((W8.setCell ⟨w.heap.size + 1, 0, none⟩ (.int .i64 (x.link : Int))).setCell ⟨w.heap.size + 1, 1, none⟩ (.int .i64 x.fr)).setCell ⟨w.heap.size + 1, 2, none⟩ (.int .i64 x.to)) (w.heap.size + 1 + 1) 0 (.bool true)
      have q := (((q0.mono (Mut' := fun j => j = w.heap.size + 1 ∨ j = w.heap.size + 1 + 1) (fun _ _ e => .inl e)).trans (q1.mono (fun _ _ e => .inl e))).trans (q2.mono (fun _ _ e => .inl e))).trans (q3.mono (fun _ _ e => .inr e))
      have qq := (HK8.out.none (Mut := fun j => j = w.heap.size + 1 ∨ j = w.heap.size + 1 + 1)).trans q
      refine ⟨O6, Grow.refl _ _ _, qq.mono (fun _ _ e => .inl e), rfl, Hs1.out, ⟨(x.link : Int), x.fr, x.to, ?_⟩, ?_, HK52.out.none.trans qq⟩
      · exact set_other _ (set_same 2 _ (set_same 1 _ (set_same 0 _ H8F.out))) (by omega)
      · exact set_same 0 _ (set_other _ (set_other _ (set_other _ H8O.out (by omega)) (by omega)) (by omega))
  case done =>
    intro D W7 O7 hD hDW hDO hOs hI hKd
    obtain ⟨h1, h2⟩ := hI
    have hF7 := (h2.block _ (by omega) (fun e => e)).trans HF.out
    have hO7 := (h2.block _ (by omega) (fun e => e)).trans HO.out
    obtain ⟨gF0, gF1, gF2⟩ := row3 hF7
    have fF0 : W7.frozen? ⟨w.heap.size + 1, 0, none⟩ = false := frozen_row hF7
    have fF1 : W7.frozen? ⟨w.heap.size + 1, 1, none⟩ = false := frozen_row hF7
    have fF2 : W7.frozen? ⟨w.heap.size + 1, 2, none⟩ = false := frozen_row hF7
    have fO0 : W7.frozen? ⟨w.heap.size + 1 + 1, 0, none⟩ = false := frozen_row hO7
    have gO0 : W7.cell? ⟨w.heap.size + 1 + 1, 0, none⟩ = some (.bool false) := by rw [cell_row hO7]; rfl
    have H1 := Lib.hid h1
    have H2 := Lib.hid h2
    have HKd := Lib.hid hKd
    have H7F := Lib.hid hF7
    have H7O := Lib.hid hO7
    clear h1 h2 hF7 hO7 hKd
    gi_wp2_with fail
    have q0 := keeps_setCell W7 (w.heap.size + 1) 0 (.int .i64 0)
    have q1 := keeps_setCell (W7.setCell ⟨w.heap.size + 1, 0, none⟩ (.int .i64 0)) (w.heap.size + 1) 1 (.int .i64 0)
    have q2 := keeps_setCell ((W7.setCell ⟨w.heap.size + 1, 0, none⟩ (.int .i64 0)).setCell ⟨w.heap.size + 1, 1, none⟩ (.int .i64 0)) (w.heap.size + 1) 2 (.int .i64 0)
    have q3 := keeps_setCell (((W7.setCell ⟨w.heap.size + 1, 0, none⟩ (.int .i64 0)).setCell ⟨w.heap.size + 1, 1, none⟩ (.int .i64 0)).setCell ⟨w.heap.size + 1, 2, none⟩ (.int .i64 0)) (w.heap.size + 1 + 1) 0 (.bool false)
    have q := (((q0.mono (Mut' := fun j => j = w.heap.size + 1 ∨ j = w.heap.size + 1 + 1) (fun _ _ e => .inl e)).trans (q1.mono (fun _ _ e => .inl e))).trans (q2.mono (fun _ _ e => .inl e))).trans (q3.mono (fun _ _ e => .inr e))
    have v1 := set_other (.bool false) (set_same 2 (.int .i64 0) (set_same 1 (.int .i64 0) (set_same 0 (.int .i64 0) H7F.out))) (show w.heap.size + 1 ≠ w.heap.size + 1 + 1 by omega) (o := 0)
    have v2 := set_same 0 (.bool false) (set_other (.int .i64 0) (set_other (.int .i64 0) (set_other (.int .i64 0) H7O.out (show w.heap.size + 1 + 1 ≠ w.heap.size + 1 by omega) (o := 0)) (show w.heap.size + 1 + 1 ≠ w.heap.size + 1 by omega) (o := 1)) (show w.heap.size + 1 + 1 ≠ w.heap.size + 1 by omega) (o := 2))
    have hd := (q.block D hDW (by omega)).trans HKd.out
    obtain ⟨V, hV⟩ : ∃ V, (((W7.setCell ⟨w.heap.size + 1, 0, none⟩ (.int .i64 0)).setCell ⟨w.heap.size + 1, 1, none⟩ (.int .i64 0)).setCell ⟨w.heap.size + 1, 2, none⟩ (.int .i64 0)).setCell ⟨w.heap.size + 1 + 1, 0, none⟩ (.bool false) = V := ⟨_, rfl⟩
    rw [hV] at q v1 v2 hd ⊢
    refine ⟨by simp, .inl ⟨_, _, rfl, run_takeDeferred hd, ?_⟩⟩
    have q4 := Keeps.putObj (Mut := fun j => j = D) V D (.deferred none) rfl
    have v1' := (q4.block _ (lt_of_block v1) (by omega)).trans v1
    have v2' := (q4.block _ (lt_of_block v2) (by omega)).trans v2
    refine ⟨_, res75 (x := 0) (y := 0) (z := 0) (b := false) rfl rfl v1' v2', ⟨0, 0, 0, by rw [H1.out]⟩, ?_⟩
    have hW5l := hs5.2
    have hsz7 := H2.out.size
    exact Hb5.out.trans (((H2.out.none.trans ((q.mono (Mut' := fun j => w.heap.size ≤ j) (fun _ _ e => by rcases e with e | e <;> omega)).trans (q4.mono (fun _ _ e => by omega))))).below (by omega) (fun k hk e => by omega))
  case stop =>
    rintro D c pre x post W7 O7 hD hDW hDO hOs hxs ⟨rfl, h1, ⟨y1, y2, y3, h2⟩, h3, h4⟩ hKd
    have H1 := Lib.hid h1
    have HKd := Lib.hid hKd
    have H4 := Lib.hid h4
    have H7F := Lib.hid h2
    have H7O := Lib.hid h3
    have HXS := Lib.hid hxs
    obtain ⟨gF0, gF1, gF2⟩ := row3 h2
    have gO0 : W7.cell? ⟨w.heap.size + 1 + 1, 0, none⟩ = some (.bool true) := by rw [cell_row h3]; rfl
    clear h1 h2 h3 h4 hxs hKd
    gi_wp2_with fail
    refine ⟨by simp, .inl ⟨_, _, rfl, run_takeDeferred HKd.out, ?_⟩⟩
    have q4 := Keeps.putObj (Mut := fun j => j = D) W7 D (.deferred none) rfl
    have v1' := (q4.block _ (lt_of_block H7F.out) (by omega)).trans H7F.out
    have v2' := (q4.block _ (lt_of_block H7O.out) (by omega)).trans H7O.out
    refine ⟨_, res75 (x := y1) (y := y2) (z := y3) (b := true) rfl rfl v1' v2', ⟨y1, y2, y3, ?_⟩, ?_⟩
    · have h1 := H1.out
      have h2 := HXS.out
      have h3 : xs.any op = true := by
        rw [h2, show pre ++ x :: post = (pre ++ [x]) ++ post by simp]
        rw [List.any_append, h1, Bool.true_or]
      rw [h3]
    · have hsz7 := H4.out.size
      exact Hb5.out.trans (((H4.out.mono (Mut' := fun j => w.heap.size ≤ j) (fun _ _ e => by rcases e with e | e <;> omega)).trans (q4.mono (fun _ _ e => by omega))).below (by omega) (fun k hk e => by omega))
end
end Go.Proofs.Ytigohccehllmnaa

namespace Go.Proofs.Ytigohccehllmnaa
set_option linter.unusedSimpArgs false
set_option linter.unusedVariables false
open Go.RowKit Go.Shelf
abbrev opIc0 : Oper := { dst := some 10, op := Go.Op.load 64 (Go.Operand.tmp 2), type := 64, pos := "search.go:93", after := #[], guard := none }
abbrev opIc1 : Oper := { dst := some 11, op := Go.Op.nilCheck (Go.Operand.tmp 10), type := 0, pos := "search.go:93", after := #[{ on := 0, ground := Go.Ground.data }], guard := none }
abbrev opIc2 : Oper := { dst := some 12, op := Go.Op.fieldAddr 87 (Go.Operand.tmp 11) 0, type := 0, pos := "search.go:93", after := #[{ on := 1, ground := Go.Ground.data }], guard := none }
abbrev opIc3 : Oper := { dst := some 13, op := Go.Op.fieldAddr 25 (Go.Operand.tmp 12) 2, type := 0, pos := "search.go:93", after := #[{ on := 2, ground := Go.Ground.data }], guard := none }
abbrev opIc4 : Oper := { dst := some 14, op := Go.Op.load 23 (Go.Operand.tmp 13), type := 23, pos := "search.go:93", after := #[{ on := 3, ground := Go.Ground.data }], guard := none }
abbrev opIc5 : Oper := { dst := some 15, op := Go.Op.move (Go.Operand.tmp 1), type := 23, pos := "search.go:93", after := #[], guard := none }
abbrev opIc6 : Oper := { dst := some 16, op := Go.Op.indexAddr 23 (Go.Operand.tmp 15) (Go.Operand.const (Go.Value.int Go.IntKind.i64 0)), type := 0, pos := "search.go:93", after := #[{ on := 5, ground := Go.Ground.data }], guard := none }
abbrev opIc7 : Oper := { dst := some 17, op := Go.Op.load 3 (Go.Operand.tmp 16), type := 3, pos := "search.go:93", after := #[{ on := 6, ground := Go.Ground.data }], guard := none }
abbrev opIc8 : Oper := { dst := some 18, op := Go.Op.call { callee := Go.Callee.value (Go.Operand.func 71), args := #[Go.Operand.tmp 14, Go.Operand.tmp 17], argTypes := #[23, 3] }, type := 4, pos := "search.go:93", after := #[{ on := 4, ground := Go.Ground.data }, { on := 7, ground := Go.Ground.data }], guard := none }
abbrev opIc9 : Oper := { dst := some 19, op := Go.Op.unOp Go.UnOp.not 4 (Go.Operand.tmp 18), type := 4, pos := "search.go:93", after := #[{ on := 8, ground := Go.Ground.data }], guard := none }
abbrev opIc10 : Oper := { dst := some 20, op := Go.Op.move (Go.Operand.tmp 19), type := 4, pos := "search.go:93", after := #[{ on := 9, ground := Go.Ground.data }, { on := 8, ground := Go.Ground.chain }], guard := none }
abbrev opIc11 : Oper := { dst := some 21, op := Go.Op.load 64 (Go.Operand.tmp 2), type := 64, pos := "search.go:93", after := #[{ on := 10, ground := Go.Ground.guard }], guard := some (10, false) }
abbrev opIc12 : Oper := { dst := some 22, op := Go.Op.nilCheck (Go.Operand.tmp 21), type := 0, pos := "search.go:93", after := #[{ on := 11, ground := Go.Ground.data }, { on := 10, ground := Go.Ground.guard }], guard := some (10, false) }
abbrev opIc13 : Oper := { dst := some 23, op := Go.Op.fieldAddr 87 (Go.Operand.tmp 22) 0, type := 0, pos := "search.go:93", after := #[{ on := 12, ground := Go.Ground.data }, { on := 10, ground := Go.Ground.guard }], guard := some (10, false) }
abbrev opIc14 : Oper := { dst := some 24, op := Go.Op.fieldAddr 25 (Go.Operand.tmp 23) 3, type := 0, pos := "search.go:93", after := #[{ on := 13, ground := Go.Ground.data }, { on := 10, ground := Go.Ground.guard }], guard := some (10, false) }
abbrev opIc15 : Oper := { dst := some 25, op := Go.Op.load 23 (Go.Operand.tmp 24), type := 23, pos := "search.go:93", after := #[{ on := 14, ground := Go.Ground.data }, { on := 10, ground := Go.Ground.guard }], guard := some (10, false) }
abbrev opIc16 : Oper := { dst := some 26, op := Go.Op.move (Go.Operand.tmp 1), type := 23, pos := "search.go:93", after := #[{ on := 10, ground := Go.Ground.guard }], guard := some (10, false) }
abbrev opIc17 : Oper := { dst := some 27, op := Go.Op.move (Go.Operand.tmp 1), type := 23, pos := "search.go:93", after := #[{ on := 10, ground := Go.Ground.guard }], guard := some (10, false) }
abbrev opIc18 : Oper := { dst := some 28, op := Go.Op.call { callee := Go.Callee.builtin Go.Builtin.len, args := #[Go.Operand.tmp 27], argTypes := #[23] }, type := 3, pos := "search.go:93", after := #[{ on := 17, ground := Go.Ground.data }, { on := 10, ground := Go.Ground.guard }], guard := some (10, false) }
abbrev opIc19 : Oper := { dst := some 29, op := Go.Op.binOp Go.BinOp.sub 3 (Go.Operand.tmp 28) (Go.Operand.const (Go.Value.int Go.IntKind.i64 1)) 3, type := 3, pos := "search.go:93", after := #[{ on := 18, ground := Go.Ground.data }, { on := 10, ground := Go.Ground.guard }], guard := some (10, false) }
abbrev opIc20 : Oper := { dst := some 30, op := Go.Op.indexAddr 23 (Go.Operand.tmp 26) (Go.Operand.tmp 29), type := 0, pos := "search.go:93", after := #[{ on := 16, ground := Go.Ground.data }, { on := 19, ground := Go.Ground.data }, { on := 10, ground := Go.Ground.guard }], guard := some (10, false) }
abbrev opIc21 : Oper := { dst := some 31, op := Go.Op.load 3 (Go.Operand.tmp 30), type := 3, pos := "search.go:93", after := #[{ on := 20, ground := Go.Ground.data }, { on := 10, ground := Go.Ground.guard }], guard := some (10, false) }
abbrev opIc22 : Oper := { dst := some 32, op := Go.Op.call { callee := Go.Callee.value (Go.Operand.func 71), args := #[Go.Operand.tmp 25, Go.Operand.tmp 31], argTypes := #[23, 3] }, type := 4, pos := "search.go:93", after := #[{ on := 15, ground := Go.Ground.data }, { on := 21, ground := Go.Ground.data }, { on := 10, ground := Go.Ground.chain }, { on := 10, ground := Go.Ground.guard }], guard := some (10, false) }
abbrev opIc23 : Oper := { dst := some 33, op := Go.Op.unOp Go.UnOp.not 4 (Go.Operand.tmp 32), type := 4, pos := "search.go:93", after := #[{ on := 22, ground := Go.Ground.data }, { on := 10, ground := Go.Ground.guard }], guard := some (10, false) }
abbrev opIc24 : Oper := { dst := some 34, op := Go.Op.pick (Go.Operand.tmp 20) (Go.Operand.const (Go.Value.bool true)) (Go.Operand.tmp 33), type := 4, pos := "search.go:93", after := #[{ on := 10, ground := Go.Ground.data }, { on := 23, ground := Go.Ground.data }], guard := none }
abbrev opIc25 : Oper := { dst := some 50, op := Go.Op.call { callee := Go.Callee.value (Go.Operand.func 76), args := #[Go.Operand.tmp 45, Go.Operand.tmp 49], argTypes := #[64, 3] }, type := 106, pos := "search.go:98", after := #[{ on := 0, ground := Go.Ground.data }, { on := 4, ground := Go.Ground.data }], guard := none }
abbrev opIc26 : Oper := { dst := some 52, op := Go.Op.call { callee := Go.Callee.value (Go.Operand.func 75), args := #[Go.Operand.tmp 50, Go.Operand.tmp 51], argTypes := #[106, 96] }, type := 103, pos := "search.go:98", after := #[{ on := 5, ground := Go.Ground.data }, { on := 6, ground := Go.Ground.data }, { on := 5, ground := Go.Ground.chain }], guard := none }
abbrev opIc27 : Oper := { dst := some 44, op := Go.Op.move (Go.Operand.tmp 52), type := 103, pos := "search.go:98", after := #[{ on := 7, ground := Go.Ground.data }], guard := none }
abbrev opIc28 : Oper := { dst := some 53, op := Go.Op.extract (Go.Operand.tmp 44) 0, type := 79, pos := "search.go:98", after := #[{ on := 8, ground := Go.Ground.data }], guard := none }
abbrev opIc29 : Oper := { dst := some 54, op := Go.Op.extract (Go.Operand.tmp 44) 1, type := 4, pos := "search.go:98", after := #[{ on := 8, ground := Go.Ground.data }, { on := 12, ground := Go.Ground.gcOnly Go.Departure.lateStores }], guard := none }
abbrev opIc30 : Oper := { dst := some 8, op := Go.Op.alloc 79, type := 0, pos := "search.go:98", after := #[], guard := none }
abbrev opIc31 : Oper := { dst := none, op := Go.Op.store 79 (Go.Operand.tmp 8) (Go.Operand.tmp 53), type := 0, pos := "search.go:98", after := #[{ on := 11, ground := Go.Ground.data }, { on := 9, ground := Go.Ground.data }, { on := 7, ground := Go.Ground.chain }, { on := 0, ground := Go.Ground.phase }, { on := 1, ground := Go.Ground.phase }, { on := 2, ground := Go.Ground.phase }, { on := 3, ground := Go.Ground.phase }, { on := 4, ground := Go.Ground.phase }, { on := 5, ground := Go.Ground.phase }, { on := 6, ground := Go.Ground.phase }, { on := 7, ground := Go.Ground.phase }, { on := 8, ground := Go.Ground.phase }, { on := 9, ground := Go.Ground.phase }, { on := 10, ground := Go.Ground.textOnly Go.Departure.lateStores }, { on := 11, ground := Go.Ground.phase }], guard := none }
abbrev opIc32 : Oper := { dst := some 9, op := Go.Op.assign (Go.Operand.tmp 54), type := 4, pos := "search.go:98", after := #[{ on := 10, ground := Go.Ground.data }, { on := 12, ground := Go.Ground.chain }, { on := 0, ground := Go.Ground.phase }, { on := 1, ground := Go.Ground.phase }, { on := 2, ground := Go.Ground.phase }, { on := 3, ground := Go.Ground.phase }, { on := 4, ground := Go.Ground.phase }, { on := 5, ground := Go.Ground.phase }, { on := 6, ground := Go.Ground.phase }, { on := 7, ground := Go.Ground.phase }, { on := 8, ground := Go.Ground.phase }, { on := 9, ground := Go.Ground.phase }, { on := 10, ground := Go.Ground.phase }, { on := 11, ground := Go.Ground.phase }, { on := 12, ground := Go.Ground.phase }], guard := none }

theorem enters74 : ∀ args w, (callFunc 74 args).run Try.prog w = .ok (.enter 74 args) w := enters_of Try.func74 (by kernel_rfl) rfl
section
attribute [local go_sem ↓] exec_app at_app
attribute [local go_sem] Oper.semAt_some
set_option maxRecDepth 100000 in
set_option maxHeartbeats 16000000 in
theorem join74 (b : BD) (f : Nat → Int) (P6 P2 : Nat) (nm : Int) (x : Wy) (w : World) (h : Bd w b f) (hok : BdOk b) (hf : Small b f) (hx : isWay b.zs x) (c6 : w.cell? ⟨P6, 0, none⟩ = some (.int .i64 nm)) (c2 : w.cell? ⟨P2, 0, none⟩ = some (.pointer (some ⟨b.B, 0, none⟩))) :
    Calls Try.prog 74 #[wV x, .pointer (some ⟨P6, 0, none⟩), .pointer (some ⟨P2, 0, none⟩)] w fun e w' => e = .returned (.bool (decide (x.to = nm) && opF b.zs f x)) ∧ Below w.heap.size w w' := by
  unfold wV
  have hb := below_alloc_ w (.cells #[.int .i64 (x.link : Int), .int .i64 x.fr, .int .i64 x.to] 79)
  have hr := heap_alloc_new_ w (.cells #[.int .i64 (x.link : Int), .int .i64 x.fr, .int .i64 x.to] 79)
  obtain ⟨w1, hw1⟩ : ∃ v, w.alloc (.cells #[.int .i64 (x.link : Int), .int .i64 x.fr, .int .i64 x.to] 79) = v := ⟨_, rfl⟩
  obtain ⟨R, hR⟩ : ∃ v, w.heap.size = v := ⟨_, rfl⟩
  rw [hw1] at hb hr
  rw [hR] at hr
  have k66 := open66 b f x.link x.fr x.to w1 (h.below hb (Nat.le_refl _)) hok (by have := hx.1; rw [hok.zl] at this; exact this) hf
  obtain ⟨j2, hj2⟩ : ∃ v, opF b.zs f x = v := ⟨_, rfl⟩
  rw [show opF b.zs f ⟨x.link, x.fr, x.to⟩ = j2 from hj2] at k66
  have K66 := Lib.hid k66
  have J2 := Lib.hid hj2
  have d6 := (hb.cell (p := ⟨P6, 0, none⟩) (lt_of_cell c6)).trans c6
  have d2 := (hb.cell (p := ⟨P2, 0, none⟩) (lt_of_cell c2)).trans c2
  obtain ⟨r0, r1, r2⟩ := row3 hr
  have HB := Lib.hid hb
  have HW1 := Lib.hid hw1
  have HR := Lib.hid hR
  clear h hok hf hx c6 c2 hb hr hw1 hR k66 hj2
  by_cases he : x.to = nm
  · have e2 : (x.to == nm) = true := by rw [beq_iff_eq]; exact he
    have He := Lib.hid he
    clear he
    go_enter Try.func74, Try.ntmps74
    go_upto_region 1 with fail
    rw [HW1.out]
    rw [HR.out]
    go_wp2_with fail
    refine K66.out.mono ?_
    rintro en w2 ⟨rfl, hb⟩
    have HB2 := Lib.hid (HB.out.trans (hb.mono HB.out.size))
    clear hb K66 d6 d2 r0 r1 r2 e2
    go_wp2_with fail
    go_ret
    exact ⟨by rw [J2.out, decide_eq_true He.out] <;> simp, HB2.out⟩
  · have e2 : (x.to == nm) = false := by rw [beq_eq_false_iff_ne]; exact he
    have He := Lib.hid he
    clear he
    go_enter Try.func74, Try.ntmps74
    go_upto_region 1 with fail
    rw [HW1.out]
    rw [HR.out]
    go_wp2_with fail
    go_ret
    exact ⟨by rw [decide_eq_false He.out] <;> rfl, HB.out⟩
/-- Two names that lie one behind the other are joined. -/
def joinB (b : BD) (f : Nat → Int) (x y : Int) : Bool := (wysK b.zs x b.l.n).any fun w => decide (w.to = y) && opF b.zs f w
/-- The first names of a chain are joined. -/
def chnK (b : BD) (f : Nat → Int) (ch : List Int) (n : Nat) : Bool := (List.range n).all fun k => joinB b f (iAt ch k) (iAt ch (k + 1))
theorem chnK_succ (b : BD) (f : Nat → Int) (ch : List Int) (n : Nat) : chnK b f ch (n + 1) = (chnK b f ch n && joinB b f (iAt ch n) (iAt ch (n + 1))) := by simp [chnK, List.range_succ]
theorem chnK_no {b : BD} {f : Nat → Int} {ch : List Int} {k n : Nat} (h : joinB b f (iAt ch k) (iAt ch (k + 1)) = false) (hk : k < n) : chnK b f ch n = false := by
  rw [← Bool.not_eq_true]
  intro e
  unfold chnK at e
  have := List.all_eq_true.1 e k (List.mem_range.2 hk)
  rw [h] at this; cases this
/-- Names are a chain. -/
def isCh (b : BD) (f : Nat → Int) (ch : List Int) (n : Nat) : Bool := decide (iAt ch 0 ∈ b.l.ls) && decide (iAt ch (n - 1) ∈ b.l.rs) && chnK b f ch (n - 1)
set_option maxRecDepth 100000 in
set_option maxHeartbeats 16000000 in
theorem isChain51 (b : BD) (f : Nat → Int) (A : Option Addr) (n cap : Nat) (ch : List Int) (w : World) (h : Bd w b f) (hok : BdOk b) (hf : Small b f) (hI : Ints w A n ch) (hn2 : 2 ≤ n) (hn : n ≤ 40) (hcap : n ≤ cap) :
    Calls Try.prog 51 #[.pointer (some ⟨b.B, 0, none⟩), .slice A n cap] w fun e w' => e = .returned (.bool (isCh b f ch n)) ∧ Below w.heap.size w w' := by
  obtain ⟨bz, oz, rfl, hcz⟩ := hI.2 (by omega)
  have hb := below_alloc_ w (.cells #[.pointer (some ⟨b.B, 0, none⟩)] 64)
  have hr := heap_alloc_new_ w (.cells #[.pointer (some ⟨b.B, 0, none⟩)] 64)
  obtain ⟨w1, hw1⟩ : ∃ v, w.alloc (.cells #[.pointer (some ⟨b.B, 0, none⟩)] 64) = v := ⟨_, rfl⟩
  obtain ⟨R, hR⟩ : ∃ v, w.heap.size = v := ⟨_, rfl⟩
  rw [hw1] at hb hr
  rw [hR] at hr
  have D := Lib.hid (h.below hb (Nat.le_refl _))
  have S := Lib.hid (hI.below hb (Nat.le_refl _))
  have X := Lib.hid hr
  have B := Lib.hid hb
  have Hok := Lib.hid hok
  have Hf := Lib.hid hf
  have HW1 := Lib.hid hw1
  have HR := Lib.hid hR
  have hbz : bz < w.heap.size := lt_of_cell (hcz 0 (by omega))
  have z0 : w1.cell? ⟨bz, oz, none⟩ = some (.int .i64 (iAt ch 0)) := (hb.cell (p := ⟨bz, oz, none⟩) hbz).trans (hcz 0 (by omega))
  have z1 := (hb.cell (p := ⟨bz, oz + (n - 1), none⟩) hbz).trans (hcz (n - 1) (by omega))
  have b2 := D.out.c2
  have b3 := D.out.c3
  have zX0 : w1.cell? ⟨R, 0, none⟩ = some (.pointer (some ⟨b.B, 0, none⟩)) := by rw [cell_row hr]; rfl
  have ltX : R < w1.heap.size := lt_of_block hr
  obtain ⟨j1, hj1⟩ : ∃ v, decide (iAt ch 0 ∈ b.l.ls) = v := ⟨_, rfl⟩
  obtain ⟨j2, hj2⟩ : ∃ v, decide (iAt ch (n - 1) ∈ b.l.rs) = v := ⟨_, rfl⟩
  have J1 := Lib.hid hj1
  have J2 := Lib.hid hj2
  have hwn : IntKind.i64.wrap ((n : Int) - 1) = (n : Int) - 1 := IntWalk.i64_in _ (by omega)
  have i0 : (0 : Int) ≤ (n : Int) - 1 := by omega
  have i1 : (n : Int) - 1 < (n : Int) := by omega
  have i2 : (0 : Int) < (n : Int) := by omega
  have ne0 : ¬ (n = 0) := by omega
  have lt1 : ¬ ((n : Int) < 1) := by omega
  have le1 : (1 : Int) ≤ (n : Int) := by omega
  have lec : (n : Int) ≤ (cap : Int) := by omega
  have i3 : ((n : Int) - 1).toNat = n - 1 := by omega
  clear h hok hf hI hb hr hw1 hR hj1 hj2 hcz
  go_enter Try.func51, Try.ntmps51
  go_upto_region 1 with fail
  rw [HW1.out]
  rw [HR.out]
  rcases j1 with _ | _
  · refine wp_region_held_drew (S := fun w2 => Below w1.heap.size w1 w2) (by kernel_rfl) (drew_b _ _) (fun hS0 => ?_)
    refine wpAnyH_take (i := 0) (oi := opIc0) (v := .pointer (some ⟨b.B, 0, none⟩)) rfl (by kernel_rfl) (by kernel_rfl) (by kernel_rfl) (fun _ _ _ h => h) (Or.inl ⟨by rfl, by intro w2 hSw; (try dsimp only at hSw); have yX0 := (hSw.cell (lt_of_cell zX0)).trans zX0; have yz0 := (hSw.cell (lt_of_cell z0)).trans z0; have yz1 := (hSw.cell (lt_of_cell z1)).trans z1; have yb2 := (hSw.cell (lt_of_cell b2)).trans b2; have yb3 := (hSw.cell (lt_of_cell b3)).trans b3;  go_simp⟩) hS0 ?_
    try simp only [Act.put, List.setIfInBounds_toArray, List.set_cons_zero, List.set_cons_succ]
    refine wpAnyH_take (i := 1) (oi := opIc1) (v := .pointer (some ⟨b.B, 0, none⟩)) rfl (by kernel_rfl) (by kernel_rfl) (by kernel_rfl) (fun _ _ _ h => h) (Or.inl ⟨by rfl, by intro w2 hSw; (try dsimp only at hSw); have yX0 := (hSw.cell (lt_of_cell zX0)).trans zX0; have yz0 := (hSw.cell (lt_of_cell z0)).trans z0; have yz1 := (hSw.cell (lt_of_cell z1)).trans z1; have yb2 := (hSw.cell (lt_of_cell b2)).trans b2; have yb3 := (hSw.cell (lt_of_cell b3)).trans b3;  go_simp⟩) hS0 ?_
    try simp only [Act.put, List.setIfInBounds_toArray, List.set_cons_zero, List.set_cons_succ]
    refine wpAnyH_take (i := 2) (oi := opIc2) (v := .pointer (some ⟨b.B, 0, none⟩)) rfl (by kernel_rfl) (by kernel_rfl) (by kernel_rfl) (fun _ _ _ h => h) (Or.inl ⟨by rfl, by intro w2 hSw; (try dsimp only at hSw); have yX0 := (hSw.cell (lt_of_cell zX0)).trans zX0; have yz0 := (hSw.cell (lt_of_cell z0)).trans z0; have yz1 := (hSw.cell (lt_of_cell z1)).trans z1; have yb2 := (hSw.cell (lt_of_cell b2)).trans b2; have yb3 := (hSw.cell (lt_of_cell b3)).trans b3;  go_simp⟩) hS0 ?_
    try simp only [Act.put, List.setIfInBounds_toArray, List.set_cons_zero, List.set_cons_succ]
    refine wpAnyH_take (i := 3) (oi := opIc3) (v := .pointer (some ⟨b.B, 2, none⟩)) rfl (by kernel_rfl) (by kernel_rfl) (by kernel_rfl) (fun _ _ _ h => h) (Or.inl ⟨by rfl, by intro w2 hSw; (try dsimp only at hSw); have yX0 := (hSw.cell (lt_of_cell zX0)).trans zX0; have yz0 := (hSw.cell (lt_of_cell z0)).trans z0; have yz1 := (hSw.cell (lt_of_cell z1)).trans z1; have yb2 := (hSw.cell (lt_of_cell b2)).trans b2; have yb3 := (hSw.cell (lt_of_cell b3)).trans b3;  go_simp⟩) hS0 ?_
    try simp only [Act.put, List.setIfInBounds_toArray, List.set_cons_zero, List.set_cons_succ]
    refine wpAnyH_take (i := 4) (oi := opIc4) (v := .slice b.l.LA b.l.ln b.l.lc) rfl (by kernel_rfl) (by kernel_rfl) (by kernel_rfl) (fun _ _ _ h => h) (Or.inl ⟨by rfl, by intro w2 hSw; (try dsimp only at hSw); have yX0 := (hSw.cell (lt_of_cell zX0)).trans zX0; have yz0 := (hSw.cell (lt_of_cell z0)).trans z0; have yz1 := (hSw.cell (lt_of_cell z1)).trans z1; have yb2 := (hSw.cell (lt_of_cell b2)).trans b2; have yb3 := (hSw.cell (lt_of_cell b3)).trans b3;  go_simp⟩) hS0 ?_
    try simp only [Act.put, List.setIfInBounds_toArray, List.set_cons_zero, List.set_cons_succ]
    refine wpAnyH_take (i := 5) (oi := opIc5) (v := .slice (some ⟨bz, oz, none⟩) n cap) rfl (by kernel_rfl) (by kernel_rfl) (by kernel_rfl) (fun _ _ _ h => h) (Or.inl ⟨by rfl, by intro w2 hSw; (try dsimp only at hSw); have yX0 := (hSw.cell (lt_of_cell zX0)).trans zX0; have yz0 := (hSw.cell (lt_of_cell z0)).trans z0; have yz1 := (hSw.cell (lt_of_cell z1)).trans z1; have yb2 := (hSw.cell (lt_of_cell b2)).trans b2; have yb3 := (hSw.cell (lt_of_cell b3)).trans b3;  go_simp⟩) hS0 ?_
    try simp only [Act.put, List.setIfInBounds_toArray, List.set_cons_zero, List.set_cons_succ]
    refine wpAnyH_take (i := 6) (oi := opIc6) (v := .pointer (some ⟨bz, oz, none⟩)) rfl (by kernel_rfl) (by kernel_rfl) (by kernel_rfl) (fun _ _ _ h => h) (Or.inl ⟨by rfl, by intro w2 hSw; (try dsimp only at hSw); have yX0 := (hSw.cell (lt_of_cell zX0)).trans zX0; have yz0 := (hSw.cell (lt_of_cell z0)).trans z0; have yz1 := (hSw.cell (lt_of_cell z1)).trans z1; have yb2 := (hSw.cell (lt_of_cell b2)).trans b2; have yb3 := (hSw.cell (lt_of_cell b3)).trans b3;  go_simp⟩) hS0 ?_
    try simp only [Act.put, List.setIfInBounds_toArray, List.set_cons_zero, List.set_cons_succ]
    refine wpAnyH_take (i := 7) (oi := opIc7) (v := .int .i64 (iAt ch 0)) rfl (by kernel_rfl) (by kernel_rfl) (by kernel_rfl) (fun _ _ _ h => h) (Or.inl ⟨by rfl, by intro w2 hSw; (try dsimp only at hSw); have yX0 := (hSw.cell (lt_of_cell zX0)).trans zX0; have yz0 := (hSw.cell (lt_of_cell z0)).trans z0; have yz1 := (hSw.cell (lt_of_cell z1)).trans z1; have yb2 := (hSw.cell (lt_of_cell b2)).trans b2; have yb3 := (hSw.cell (lt_of_cell b3)).trans b3;  go_simp⟩) hS0 ?_
    try simp only [Act.put, List.setIfInBounds_toArray, List.set_cons_zero, List.set_cons_succ]
    refine wpAnyH_ready (rs := [8]) (by kernel_rfl) (by simp) ?_
    refine AllReadyH.cons (o := opIc8) rfl (fun K2 hK => ?_) AllReadyH.nil
    go_simp
    refine (contains71 b.l.LA b.l.ln b.l.lc b.l.ls (iAt ch 0) _ (D.out.below hS0 (Nat.le_refl _)).ls (by have := Hok.out.ln; omega)).mono ?_
    rintro e9 w1v1 ⟨rfl, hb9⟩
    replace hb9 := below_eq hb9
    rw [J1.out]
    (try go_simp)
    refine hK.out _ _ (hS0.trans (hb9.mono hS0.size)) (fun hS1 => ?_)
    clear hK K2 hb9
    try simp only [Act.put, List.setIfInBounds_toArray, List.set_cons_zero, List.set_cons_succ]
    refine wpAnyH_take (i := 9) (oi := opIc9) (v := .bool true) rfl (by kernel_rfl) (by kernel_rfl) (by kernel_rfl) (fun _ _ _ h => h) (Or.inl ⟨by rfl, by intro w2 hSw; (try dsimp only at hSw); have yX0 := (hSw.cell (lt_of_cell zX0)).trans zX0; have yz0 := (hSw.cell (lt_of_cell z0)).trans z0; have yz1 := (hSw.cell (lt_of_cell z1)).trans z1; have yb2 := (hSw.cell (lt_of_cell b2)).trans b2; have yb3 := (hSw.cell (lt_of_cell b3)).trans b3;  go_simp⟩) hS1 ?_
    try simp only [Act.put, List.setIfInBounds_toArray, List.set_cons_zero, List.set_cons_succ]
    refine wpAnyH_take (i := 10) (oi := opIc10) (v := .bool true) rfl (by kernel_rfl) (by kernel_rfl) (by kernel_rfl) (fun _ _ _ h => h) (Or.inl ⟨by rfl, by intro w2 hSw; (try dsimp only at hSw); have yX0 := (hSw.cell (lt_of_cell zX0)).trans zX0; have yz0 := (hSw.cell (lt_of_cell z0)).trans z0; have yz1 := (hSw.cell (lt_of_cell z1)).trans z1; have yb2 := (hSw.cell (lt_of_cell b2)).trans b2; have yb3 := (hSw.cell (lt_of_cell b3)).trans b3;  go_simp⟩) hS1 ?_
    try simp only [Act.put, List.setIfInBounds_toArray, List.set_cons_zero, List.set_cons_succ]
    refine wpAnyH_take (i := 11) (oi := opIc11) (v := undef) rfl (by kernel_rfl) (by kernel_rfl) (by kernel_rfl) (fun _ _ _ h => h) (Or.inr ⟨by rfl, rfl⟩) hS1 ?_
    try simp only [Act.put, List.setIfInBounds_toArray, List.set_cons_zero, List.set_cons_succ]
    refine wpAnyH_take (i := 12) (oi := opIc12) (v := undef) rfl (by kernel_rfl) (by kernel_rfl) (by kernel_rfl) (fun _ _ _ h => h) (Or.inr ⟨by rfl, rfl⟩) hS1 ?_
    try simp only [Act.put, List.setIfInBounds_toArray, List.set_cons_zero, List.set_cons_succ]
    refine wpAnyH_take (i := 13) (oi := opIc13) (v := undef) rfl (by kernel_rfl) (by kernel_rfl) (by kernel_rfl) (fun _ _ _ h => h) (Or.inr ⟨by rfl, rfl⟩) hS1 ?_
    try simp only [Act.put, List.setIfInBounds_toArray, List.set_cons_zero, List.set_cons_succ]
    refine wpAnyH_take (i := 14) (oi := opIc14) (v := undef) rfl (by kernel_rfl) (by kernel_rfl) (by kernel_rfl) (fun _ _ _ h => h) (Or.inr ⟨by rfl, rfl⟩) hS1 ?_
    try simp only [Act.put, List.setIfInBounds_toArray, List.set_cons_zero, List.set_cons_succ]
    refine wpAnyH_take (i := 15) (oi := opIc15) (v := undef) rfl (by kernel_rfl) (by kernel_rfl) (by kernel_rfl) (fun _ _ _ h => h) (Or.inr ⟨by rfl, rfl⟩) hS1 ?_
    try simp only [Act.put, List.setIfInBounds_toArray, List.set_cons_zero, List.set_cons_succ]
    refine wpAnyH_take (i := 16) (oi := opIc16) (v := undef) rfl (by kernel_rfl) (by kernel_rfl) (by kernel_rfl) (fun _ _ _ h => h) (Or.inr ⟨by rfl, rfl⟩) hS1 ?_
    try simp only [Act.put, List.setIfInBounds_toArray, List.set_cons_zero, List.set_cons_succ]
    refine wpAnyH_take (i := 17) (oi := opIc17) (v := undef) rfl (by kernel_rfl) (by kernel_rfl) (by kernel_rfl) (fun _ _ _ h => h) (Or.inr ⟨by rfl, rfl⟩) hS1 ?_
    try simp only [Act.put, List.setIfInBounds_toArray, List.set_cons_zero, List.set_cons_succ]
    refine wpAnyH_take (i := 18) (oi := opIc18) (v := undef) rfl (by kernel_rfl) (by kernel_rfl) (by kernel_rfl) (fun _ _ _ h => h) (Or.inr ⟨by rfl, rfl⟩) hS1 ?_
    try simp only [Act.put, List.setIfInBounds_toArray, List.set_cons_zero, List.set_cons_succ]
    refine wpAnyH_take (i := 19) (oi := opIc19) (v := undef) rfl (by kernel_rfl) (by kernel_rfl) (by kernel_rfl) (fun _ _ _ h => h) (Or.inr ⟨by rfl, rfl⟩) hS1 ?_
    try simp only [Act.put, List.setIfInBounds_toArray, List.set_cons_zero, List.set_cons_succ]
    refine wpAnyH_take (i := 20) (oi := opIc20) (v := undef) rfl (by kernel_rfl) (by kernel_rfl) (by kernel_rfl) (fun _ _ _ h => h) (Or.inr ⟨by rfl, rfl⟩) hS1 ?_
    try simp only [Act.put, List.setIfInBounds_toArray, List.set_cons_zero, List.set_cons_succ]
    refine wpAnyH_take (i := 21) (oi := opIc21) (v := undef) rfl (by kernel_rfl) (by kernel_rfl) (by kernel_rfl) (fun _ _ _ h => h) (Or.inr ⟨by rfl, rfl⟩) hS1 ?_
    try simp only [Act.put, List.setIfInBounds_toArray, List.set_cons_zero, List.set_cons_succ]
    refine wpAnyH_take (i := 22) (oi := opIc22) (v := undef) rfl (by kernel_rfl) (by kernel_rfl) (by kernel_rfl) (fun _ _ _ h => h) (Or.inr ⟨by rfl, rfl⟩) hS1 ?_
    try simp only [Act.put, List.setIfInBounds_toArray, List.set_cons_zero, List.set_cons_succ]
    refine wpAnyH_take (i := 23) (oi := opIc23) (v := undef) rfl (by kernel_rfl) (by kernel_rfl) (by kernel_rfl) (fun _ _ _ h => h) (Or.inr ⟨by rfl, rfl⟩) hS1 ?_
    try simp only [Act.put, List.setIfInBounds_toArray, List.set_cons_zero, List.set_cons_succ]
    refine wpAnyH_take (i := 24) (oi := opIc24) (v := .bool true) rfl (by kernel_rfl) (by kernel_rfl) (by kernel_rfl) (fun _ _ _ h => h) (Or.inl ⟨by rfl, by intro w2 hSw; (try dsimp only at hSw); have yX0 := (hSw.cell (lt_of_cell zX0)).trans zX0; have yz0 := (hSw.cell (lt_of_cell z0)).trans z0; have yz1 := (hSw.cell (lt_of_cell z1)).trans z1; have yb2 := (hSw.cell (lt_of_cell b2)).trans b2; have yb3 := (hSw.cell (lt_of_cell b3)).trans b3;  go_simp⟩) hS1 ?_
    try simp only [Act.put, List.setIfInBounds_toArray, List.set_cons_zero, List.set_cons_succ]
    refine wpAnyH_done (by kernel_rfl) ?_ _
    clear zX0 ltX z0 z1 b2 b3
    have hb := hS1
    clear hS0 hS1
    replace D := Lib.hid (D.out.below hb (Nat.le_refl _))
    replace S := Lib.hid (S.out.below hb (Nat.le_refl _))
    replace X := Lib.hid ((hb.block _ (lt_of_block X.out)).trans X.out)
    replace B := Lib.hid (B.out.trans (hb.mono B.out.size))
    clear hb
    go_wp2_with fail
    go_ret
    exact ⟨by unfold isCh; rw [J1.out] <;> rfl, B.out⟩
  refine wp_region_held_drew (S := fun w2 => Below w1.heap.size w1 w2) (by kernel_rfl) (drew_b _ _) (fun hS0 => ?_)
  refine wpAnyH_take (i := 0) (oi := opIc0) (v := .pointer (some ⟨b.B, 0, none⟩)) rfl (by kernel_rfl) (by kernel_rfl) (by kernel_rfl) (fun _ _ _ h => h) (Or.inl ⟨by rfl, by intro w2 hSw; (try dsimp only at hSw); have yX0 := (hSw.cell (lt_of_cell zX0)).trans zX0; have yz0 := (hSw.cell (lt_of_cell z0)).trans z0; have yz1 := (hSw.cell (lt_of_cell z1)).trans z1; have yb2 := (hSw.cell (lt_of_cell b2)).trans b2; have yb3 := (hSw.cell (lt_of_cell b3)).trans b3;  go_simp⟩) hS0 ?_
  try simp only [Act.put, List.setIfInBounds_toArray, List.set_cons_zero, List.set_cons_succ]
  refine wpAnyH_take (i := 1) (oi := opIc1) (v := .pointer (some ⟨b.B, 0, none⟩)) rfl (by kernel_rfl) (by kernel_rfl) (by kernel_rfl) (fun _ _ _ h => h) (Or.inl ⟨by rfl, by intro w2 hSw; (try dsimp only at hSw); have yX0 := (hSw.cell (lt_of_cell zX0)).trans zX0; have yz0 := (hSw.cell (lt_of_cell z0)).trans z0; have yz1 := (hSw.cell (lt_of_cell z1)).trans z1; have yb2 := (hSw.cell (lt_of_cell b2)).trans b2; have yb3 := (hSw.cell (lt_of_cell b3)).trans b3;  go_simp⟩) hS0 ?_
  try simp only [Act.put, List.setIfInBounds_toArray, List.set_cons_zero, List.set_cons_succ]
  refine wpAnyH_take (i := 2) (oi := opIc2) (v := .pointer (some ⟨b.B, 0, none⟩)) rfl (by kernel_rfl) (by kernel_rfl) (by kernel_rfl) (fun _ _ _ h => h) (Or.inl ⟨by rfl, by intro w2 hSw; (try dsimp only at hSw); have yX0 := (hSw.cell (lt_of_cell zX0)).trans zX0; have yz0 := (hSw.cell (lt_of_cell z0)).trans z0; have yz1 := (hSw.cell (lt_of_cell z1)).trans z1; have yb2 := (hSw.cell (lt_of_cell b2)).trans b2; have yb3 := (hSw.cell (lt_of_cell b3)).trans b3;  go_simp⟩) hS0 ?_
  try simp only [Act.put, List.setIfInBounds_toArray, List.set_cons_zero, List.set_cons_succ]
  refine wpAnyH_take (i := 3) (oi := opIc3) (v := .pointer (some ⟨b.B, 2, none⟩)) rfl (by kernel_rfl) (by kernel_rfl) (by kernel_rfl) (fun _ _ _ h => h) (Or.inl ⟨by rfl, by intro w2 hSw; (try dsimp only at hSw); have yX0 := (hSw.cell (lt_of_cell zX0)).trans zX0; have yz0 := (hSw.cell (lt_of_cell z0)).trans z0; have yz1 := (hSw.cell (lt_of_cell z1)).trans z1; have yb2 := (hSw.cell (lt_of_cell b2)).trans b2; have yb3 := (hSw.cell (lt_of_cell b3)).trans b3;  go_simp⟩) hS0 ?_
  try simp only [Act.put, List.setIfInBounds_toArray, List.set_cons_zero, List.set_cons_succ]
  refine wpAnyH_take (i := 4) (oi := opIc4) (v := .slice b.l.LA b.l.ln b.l.lc) rfl (by kernel_rfl) (by kernel_rfl) (by kernel_rfl) (fun _ _ _ h => h) (Or.inl ⟨by rfl, by intro w2 hSw; (try dsimp only at hSw); have yX0 := (hSw.cell (lt_of_cell zX0)).trans zX0; have yz0 := (hSw.cell (lt_of_cell z0)).trans z0; have yz1 := (hSw.cell (lt_of_cell z1)).trans z1; have yb2 := (hSw.cell (lt_of_cell b2)).trans b2; have yb3 := (hSw.cell (lt_of_cell b3)).trans b3;  go_simp⟩) hS0 ?_
  try simp only [Act.put, List.setIfInBounds_toArray, List.set_cons_zero, List.set_cons_succ]
  refine wpAnyH_take (i := 5) (oi := opIc5) (v := .slice (some ⟨bz, oz, none⟩) n cap) rfl (by kernel_rfl) (by kernel_rfl) (by kernel_rfl) (fun _ _ _ h => h) (Or.inl ⟨by rfl, by intro w2 hSw; (try dsimp only at hSw); have yX0 := (hSw.cell (lt_of_cell zX0)).trans zX0; have yz0 := (hSw.cell (lt_of_cell z0)).trans z0; have yz1 := (hSw.cell (lt_of_cell z1)).trans z1; have yb2 := (hSw.cell (lt_of_cell b2)).trans b2; have yb3 := (hSw.cell (lt_of_cell b3)).trans b3;  go_simp⟩) hS0 ?_
  try simp only [Act.put, List.setIfInBounds_toArray, List.set_cons_zero, List.set_cons_succ]
  refine wpAnyH_take (i := 6) (oi := opIc6) (v := .pointer (some ⟨bz, oz, none⟩)) rfl (by kernel_rfl) (by kernel_rfl) (by kernel_rfl) (fun _ _ _ h => h) (Or.inl ⟨by rfl, by intro w2 hSw; (try dsimp only at hSw); have yX0 := (hSw.cell (lt_of_cell zX0)).trans zX0; have yz0 := (hSw.cell (lt_of_cell z0)).trans z0; have yz1 := (hSw.cell (lt_of_cell z1)).trans z1; have yb2 := (hSw.cell (lt_of_cell b2)).trans b2; have yb3 := (hSw.cell (lt_of_cell b3)).trans b3;  go_simp⟩) hS0 ?_
  try simp only [Act.put, List.setIfInBounds_toArray, List.set_cons_zero, List.set_cons_succ]
  refine wpAnyH_take (i := 7) (oi := opIc7) (v := .int .i64 (iAt ch 0)) rfl (by kernel_rfl) (by kernel_rfl) (by kernel_rfl) (fun _ _ _ h => h) (Or.inl ⟨by rfl, by intro w2 hSw; (try dsimp only at hSw); have yX0 := (hSw.cell (lt_of_cell zX0)).trans zX0; have yz0 := (hSw.cell (lt_of_cell z0)).trans z0; have yz1 := (hSw.cell (lt_of_cell z1)).trans z1; have yb2 := (hSw.cell (lt_of_cell b2)).trans b2; have yb3 := (hSw.cell (lt_of_cell b3)).trans b3;  go_simp⟩) hS0 ?_
  try simp only [Act.put, List.setIfInBounds_toArray, List.set_cons_zero, List.set_cons_succ]
  refine wpAnyH_ready (rs := [8]) (by kernel_rfl) (by simp) ?_
  refine AllReadyH.cons (o := opIc8) rfl (fun K2 hK => ?_) AllReadyH.nil
  go_simp
  refine (contains71 b.l.LA b.l.ln b.l.lc b.l.ls (iAt ch 0) _ (D.out.below hS0 (Nat.le_refl _)).ls (by have := Hok.out.ln; omega)).mono ?_
  rintro e9 w1v1 ⟨rfl, hb9⟩
  replace hb9 := below_eq hb9
  rw [J1.out]
  (try go_simp)
  refine hK.out _ _ (hS0.trans (hb9.mono hS0.size)) (fun hS1 => ?_)
  clear hK K2 hb9
  try simp only [Act.put, List.setIfInBounds_toArray, List.set_cons_zero, List.set_cons_succ]
  refine wpAnyH_take (i := 9) (oi := opIc9) (v := .bool false) rfl (by kernel_rfl) (by kernel_rfl) (by kernel_rfl) (fun _ _ _ h => h) (Or.inl ⟨by rfl, by intro w2 hSw; (try dsimp only at hSw); have yX0 := (hSw.cell (lt_of_cell zX0)).trans zX0; have yz0 := (hSw.cell (lt_of_cell z0)).trans z0; have yz1 := (hSw.cell (lt_of_cell z1)).trans z1; have yb2 := (hSw.cell (lt_of_cell b2)).trans b2; have yb3 := (hSw.cell (lt_of_cell b3)).trans b3;  go_simp⟩) hS1 ?_
  try simp only [Act.put, List.setIfInBounds_toArray, List.set_cons_zero, List.set_cons_succ]
  refine wpAnyH_take (i := 10) (oi := opIc10) (v := .bool false) rfl (by kernel_rfl) (by kernel_rfl) (by kernel_rfl) (fun _ _ _ h => h) (Or.inl ⟨by rfl, by intro w2 hSw; (try dsimp only at hSw); have yX0 := (hSw.cell (lt_of_cell zX0)).trans zX0; have yz0 := (hSw.cell (lt_of_cell z0)).trans z0; have yz1 := (hSw.cell (lt_of_cell z1)).trans z1; have yb2 := (hSw.cell (lt_of_cell b2)).trans b2; have yb3 := (hSw.cell (lt_of_cell b3)).trans b3;  go_simp⟩) hS1 ?_
  try simp only [Act.put, List.setIfInBounds_toArray, List.set_cons_zero, List.set_cons_succ]
  refine wpAnyH_take (i := 11) (oi := opIc11) (v := .pointer (some ⟨b.B, 0, none⟩)) rfl (by kernel_rfl) (by kernel_rfl) (by kernel_rfl) (fun _ _ _ h => h) (Or.inl ⟨by rfl, by intro w2 hSw; (try dsimp only at hSw); have yX0 := (hSw.cell (lt_of_cell zX0)).trans zX0; have yz0 := (hSw.cell (lt_of_cell z0)).trans z0; have yz1 := (hSw.cell (lt_of_cell z1)).trans z1; have yb2 := (hSw.cell (lt_of_cell b2)).trans b2; have yb3 := (hSw.cell (lt_of_cell b3)).trans b3;  go_simp⟩) hS1 ?_
  try simp only [Act.put, List.setIfInBounds_toArray, List.set_cons_zero, List.set_cons_succ]
  refine wpAnyH_take (i := 12) (oi := opIc12) (v := .pointer (some ⟨b.B, 0, none⟩)) rfl (by kernel_rfl) (by kernel_rfl) (by kernel_rfl) (fun _ _ _ h => h) (Or.inl ⟨by rfl, by intro w2 hSw; (try dsimp only at hSw); have yX0 := (hSw.cell (lt_of_cell zX0)).trans zX0; have yz0 := (hSw.cell (lt_of_cell z0)).trans z0; have yz1 := (hSw.cell (lt_of_cell z1)).trans z1; have yb2 := (hSw.cell (lt_of_cell b2)).trans b2; have yb3 := (hSw.cell (lt_of_cell b3)).trans b3;  go_simp⟩) hS1 ?_
  try simp only [Act.put, List.setIfInBounds_toArray, List.set_cons_zero, List.set_cons_succ]
  refine wpAnyH_take (i := 13) (oi := opIc13) (v := .pointer (some ⟨b.B, 0, none⟩)) rfl (by kernel_rfl) (by kernel_rfl) (by kernel_rfl) (fun _ _ _ h => h) (Or.inl ⟨by rfl, by intro w2 hSw; (try dsimp only at hSw); have yX0 := (hSw.cell (lt_of_cell zX0)).trans zX0; have yz0 := (hSw.cell (lt_of_cell z0)).trans z0; have yz1 := (hSw.cell (lt_of_cell z1)).trans z1; have yb2 := (hSw.cell (lt_of_cell b2)).trans b2; have yb3 := (hSw.cell (lt_of_cell b3)).trans b3;  go_simp⟩) hS1 ?_
  try simp only [Act.put, List.setIfInBounds_toArray, List.set_cons_zero, List.set_cons_succ]
  refine wpAnyH_take (i := 14) (oi := opIc14) (v := .pointer (some ⟨b.B, 3, none⟩)) rfl (by kernel_rfl) (by kernel_rfl) (by kernel_rfl) (fun _ _ _ h => h) (Or.inl ⟨by rfl, by intro w2 hSw; (try dsimp only at hSw); have yX0 := (hSw.cell (lt_of_cell zX0)).trans zX0; have yz0 := (hSw.cell (lt_of_cell z0)).trans z0; have yz1 := (hSw.cell (lt_of_cell z1)).trans z1; have yb2 := (hSw.cell (lt_of_cell b2)).trans b2; have yb3 := (hSw.cell (lt_of_cell b3)).trans b3;  go_simp⟩) hS1 ?_
  try simp only [Act.put, List.setIfInBounds_toArray, List.set_cons_zero, List.set_cons_succ]
  refine wpAnyH_take (i := 15) (oi := opIc15) (v := .slice b.l.RA b.l.rn b.l.rc) rfl (by kernel_rfl) (by kernel_rfl) (by kernel_rfl) (fun _ _ _ h => h) (Or.inl ⟨by rfl, by intro w2 hSw; (try dsimp only at hSw); have yX0 := (hSw.cell (lt_of_cell zX0)).trans zX0; have yz0 := (hSw.cell (lt_of_cell z0)).trans z0; have yz1 := (hSw.cell (lt_of_cell z1)).trans z1; have yb2 := (hSw.cell (lt_of_cell b2)).trans b2; have yb3 := (hSw.cell (lt_of_cell b3)).trans b3;  go_simp⟩) hS1 ?_
  try simp only [Act.put, List.setIfInBounds_toArray, List.set_cons_zero, List.set_cons_succ]
  refine wpAnyH_take (i := 16) (oi := opIc16) (v := .slice (some ⟨bz, oz, none⟩) n cap) rfl (by kernel_rfl) (by kernel_rfl) (by kernel_rfl) (fun _ _ _ h => h) (Or.inl ⟨by rfl, by intro w2 hSw; (try dsimp only at hSw); have yX0 := (hSw.cell (lt_of_cell zX0)).trans zX0; have yz0 := (hSw.cell (lt_of_cell z0)).trans z0; have yz1 := (hSw.cell (lt_of_cell z1)).trans z1; have yb2 := (hSw.cell (lt_of_cell b2)).trans b2; have yb3 := (hSw.cell (lt_of_cell b3)).trans b3;  go_simp⟩) hS1 ?_
  try simp only [Act.put, List.setIfInBounds_toArray, List.set_cons_zero, List.set_cons_succ]
  refine wpAnyH_take (i := 17) (oi := opIc17) (v := .slice (some ⟨bz, oz, none⟩) n cap) rfl (by kernel_rfl) (by kernel_rfl) (by kernel_rfl) (fun _ _ _ h => h) (Or.inl ⟨by rfl, by intro w2 hSw; (try dsimp only at hSw); have yX0 := (hSw.cell (lt_of_cell zX0)).trans zX0; have yz0 := (hSw.cell (lt_of_cell z0)).trans z0; have yz1 := (hSw.cell (lt_of_cell z1)).trans z1; have yb2 := (hSw.cell (lt_of_cell b2)).trans b2; have yb3 := (hSw.cell (lt_of_cell b3)).trans b3;  go_simp⟩) hS1 ?_
  try simp only [Act.put, List.setIfInBounds_toArray, List.set_cons_zero, List.set_cons_succ]
  refine wpAnyH_take (i := 18) (oi := opIc18) (v := .int .i64 (n : Int)) rfl (by kernel_rfl) (by kernel_rfl) (by kernel_rfl) (fun _ _ _ h => h) (Or.inl ⟨by rfl, by intro w2 hSw; (try dsimp only at hSw); have yX0 := (hSw.cell (lt_of_cell zX0)).trans zX0; have yz0 := (hSw.cell (lt_of_cell z0)).trans z0; have yz1 := (hSw.cell (lt_of_cell z1)).trans z1; have yb2 := (hSw.cell (lt_of_cell b2)).trans b2; have yb3 := (hSw.cell (lt_of_cell b3)).trans b3;  go_simp⟩) hS1 ?_
  try simp only [Act.put, List.setIfInBounds_toArray, List.set_cons_zero, List.set_cons_succ]
  refine wpAnyH_take (i := 19) (oi := opIc19) (v := .int .i64 ((n : Int) - 1)) rfl (by kernel_rfl) (by kernel_rfl) (by kernel_rfl) (fun _ _ _ h => h) (Or.inl ⟨by rfl, by intro w2 hSw; (try dsimp only at hSw); have yX0 := (hSw.cell (lt_of_cell zX0)).trans zX0; have yz0 := (hSw.cell (lt_of_cell z0)).trans z0; have yz1 := (hSw.cell (lt_of_cell z1)).trans z1; have yb2 := (hSw.cell (lt_of_cell b2)).trans b2; have yb3 := (hSw.cell (lt_of_cell b3)).trans b3;  go_simp⟩) hS1 ?_
  try simp only [Act.put, List.setIfInBounds_toArray, List.set_cons_zero, List.set_cons_succ]
  refine wpAnyH_take (i := 20) (oi := opIc20) (v := .pointer (some ⟨bz, oz + (n - 1), none⟩)) rfl (by kernel_rfl) (by kernel_rfl) (by kernel_rfl) (fun _ _ _ h => h) (Or.inl ⟨by rfl, by intro w2 hSw; (try dsimp only at hSw); have yX0 := (hSw.cell (lt_of_cell zX0)).trans zX0; have yz0 := (hSw.cell (lt_of_cell z0)).trans z0; have yz1 := (hSw.cell (lt_of_cell z1)).trans z1; have yb2 := (hSw.cell (lt_of_cell b2)).trans b2; have yb3 := (hSw.cell (lt_of_cell b3)).trans b3;  go_simp⟩) hS1 ?_
  try simp only [Act.put, List.setIfInBounds_toArray, List.set_cons_zero, List.set_cons_succ]
  refine wpAnyH_take (i := 21) (oi := opIc21) (v := .int .i64 (iAt ch (n - 1))) rfl (by kernel_rfl) (by kernel_rfl) (by kernel_rfl) (fun _ _ _ h => h) (Or.inl ⟨by rfl, by intro w2 hSw; (try dsimp only at hSw); have yX0 := (hSw.cell (lt_of_cell zX0)).trans zX0; have yz0 := (hSw.cell (lt_of_cell z0)).trans z0; have yz1 := (hSw.cell (lt_of_cell z1)).trans z1; have yb2 := (hSw.cell (lt_of_cell b2)).trans b2; have yb3 := (hSw.cell (lt_of_cell b3)).trans b3;  go_simp⟩) hS1 ?_
  try simp only [Act.put, List.setIfInBounds_toArray, List.set_cons_zero, List.set_cons_succ]
  refine wpAnyH_ready (rs := [22]) (by kernel_rfl) (by simp) ?_
  refine AllReadyH.cons (o := opIc22) rfl (fun K2 hK => ?_) AllReadyH.nil
  go_simp
  refine (contains71 b.l.RA b.l.rn b.l.rc b.l.rs (iAt ch (n - 1)) w1v1 (D.out.below hS1 (Nat.le_refl _)).rs (by have := Hok.out.rn; omega)).mono ?_
  rintro e9 w1v2 ⟨rfl, hb9⟩
  replace hb9 := below_eq hb9
  rw [J2.out]
  (try go_simp)
  refine hK.out _ _ (hS1.trans (hb9.mono hS1.size)) (fun hS2 => ?_)
  clear hK K2 hb9
  try simp only [Act.put, List.setIfInBounds_toArray, List.set_cons_zero, List.set_cons_succ]
  refine wpAnyH_take (i := 23) (oi := opIc23) (v := .bool (!j2)) rfl (by kernel_rfl) (by kernel_rfl) (by kernel_rfl) (fun _ _ _ h => h) (Or.inl ⟨by rfl, by intro w2 hSw; (try dsimp only at hSw); have yX0 := (hSw.cell (lt_of_cell zX0)).trans zX0; have yz0 := (hSw.cell (lt_of_cell z0)).trans z0; have yz1 := (hSw.cell (lt_of_cell z1)).trans z1; have yb2 := (hSw.cell (lt_of_cell b2)).trans b2; have yb3 := (hSw.cell (lt_of_cell b3)).trans b3;  go_simp⟩) hS2 ?_
  try simp only [Act.put, List.setIfInBounds_toArray, List.set_cons_zero, List.set_cons_succ]
  refine wpAnyH_take (i := 24) (oi := opIc24) (v := .bool (!j2)) rfl (by kernel_rfl) (by kernel_rfl) (by kernel_rfl) (fun _ _ _ h => h) (Or.inl ⟨by rfl, by intro w2 hSw; (try dsimp only at hSw); have yX0 := (hSw.cell (lt_of_cell zX0)).trans zX0; have yz0 := (hSw.cell (lt_of_cell z0)).trans z0; have yz1 := (hSw.cell (lt_of_cell z1)).trans z1; have yb2 := (hSw.cell (lt_of_cell b2)).trans b2; have yb3 := (hSw.cell (lt_of_cell b3)).trans b3;  go_simp⟩) hS2 ?_
  try simp only [Act.put, List.setIfInBounds_toArray, List.set_cons_zero, List.set_cons_succ]
  refine wpAnyH_done (by kernel_rfl) ?_ _
  clear zX0 ltX z0 z1 b2 b3
  have hb := hS2
  clear hS0 hS1 hS2
  replace D := Lib.hid (D.out.below hb (Nat.le_refl _))
  replace S := Lib.hid (S.out.below hb (Nat.le_refl _))
  replace X := Lib.hid ((hb.block _ (lt_of_block X.out)).trans X.out)
  replace B := Lib.hid (B.out.trans (hb.mono B.out.size))
  clear hb
  rcases j2 with _ | _
  · go_wp2_with fail
    go_ret
    exact ⟨by unfold isCh; rw [J1.out, J2.out] <;> rfl, B.out⟩
  go_wp2_with fail
  go_loopw [38] (fun i wr => ∃ k : Nat, k ≤ n - 1 ∧ i = .int .i64 (k : Int) ∧ Hid (chnK b f ch k = true) ∧ Hid (Below w1v2.heap.size w1v2 wr)) (fun i _ => n - (intOf i).toNat)
  case atStart => exact ⟨0, Nat.zero_le _, rfl, Lib.hid rfl, Lib.hid (Below.refl _ _)⟩
  case round =>
    obtain ⟨k, hk9, rfl, Hw, HBl⟩ := hrel
    obtain ⟨wk, rfl⟩ : ∃ wk, wk = wr := ⟨_, rfl⟩
    have hb := HBl.out
    have Q := HBl
    replace D := Lib.hid (D.out.below hb (Nat.le_refl _))
    replace S := Lib.hid (S.out.below hb (Nat.le_refl _))
    replace X := Lib.hid ((hb.block _ (lt_of_block X.out)).trans X.out)
    replace B := Lib.hid (B.out.trans (hb.mono B.out.size))
    clear hb
    by_cases hlt : k < n - 1
    · obtain ⟨b3, o3, e3, hcz⟩ := S.out.2 (by omega)
      cases e3
      have z0 := hcz k (by omega)
      have z1 := hcz (k + 1) (by omega)
      rw [show oz + (k + 1) = oz + 1 + k by omega] at z1
      obtain ⟨x, hx⟩ : ∃ x, iAt ch k = x := ⟨_, rfl⟩
      obtain ⟨y, hy⟩ : ∃ x, iAt ch (k + 1) = x := ⟨_, rfl⟩
      rw [hx] at z0
      rw [hy] at z1
      have Hs := Lib.hid (show chnK b f ch (k + 1) = joinB b f x y by rw [chnK_succ, Hw.out, hx, hy, Bool.true_and])
      have Hno := Lib.hid (show joinB b f x y = false → chnK b f ch (n - 1) = false from fun e => chnK_no (by rw [hx, hy]; exact e) hlt)
      have hb := below_alloc_ wk (.cells #[.int .i64 y] 3)
      have hrP := heap_alloc_new_ wk (.cells #[.int .i64 y] 3)
      obtain ⟨w3, hw3⟩ : ∃ v, wk.alloc (.cells #[.int .i64 y] 3) = v := ⟨_, rfl⟩
      obtain ⟨P, hP⟩ : ∃ v, wk.heap.size = v := ⟨_, rfl⟩
      rw [hw3] at hb hrP
      rw [hP] at hrP
      have HP := Lib.hid hrP
      have Hw3 := Lib.hid hw3
      have HPe := Lib.hid hP
      have z0' := (hb.cell (p := ⟨bz, oz + k, none⟩) (lt_of_cell z0)).trans z0
      replace D := Lib.hid (D.out.below hb (Nat.le_refl _))
      replace S := Lib.hid (S.out.below hb (Nat.le_refl _))
      replace X := Lib.hid ((hb.block _ (lt_of_block X.out)).trans X.out)
      replace B := Lib.hid (B.out.trans (hb.mono B.out.size))
      replace Q := Lib.hid (Q.out.trans (hb.mono Q.out.size))
      have HT3 := Lib.hid (show TellsW w3 (.func (.func 74) #[] #[.pointer (some ⟨P, 0, none⟩), .pointer (some ⟨R, 0, none⟩)]) (fun wy => isWay b.zs wy) (fun wy => decide (wy.to = y) && opF b.zs f wy) from
        ⟨74, #[], #[.pointer (some ⟨P, 0, none⟩), .pointer (some ⟨R, 0, none⟩)], rfl, enters74, fun W2 wy hwy hb2 => by
          have c6 : w3.cell? ⟨P, 0, none⟩ = some (.int .i64 y) := by rw [cell_row HP.out]; rfl
          have c2 : w3.cell? ⟨R, 0, none⟩ = some (.pointer (some ⟨b.B, 0, none⟩)) := by rw [cell_row X.out]; rfl
          exact join74 b f P R y wy W2 (D.out.below hb2 (Nat.le_refl _)) Hok.out Hf.out hwy ((hb2.cell (p := ⟨P, 0, none⟩) (lt_of_cell c6)).trans c6) ((hb2.cell (p := ⟨R, 0, none⟩) (lt_of_cell c2)).trans c2)⟩)
      have Hwy := Lib.hid (show ∀ wy ∈ wysK b.zs x b.l.n, isWay b.zs wy from fun wy hwy => by
        obtain ⟨a1, a2, a3⟩ := mem_wysK.1 hwy
        exact ⟨by rw [Hok.out.zl]; exact a1, a3.elim (fun e => .inr ⟨a2.trans e.1.symm, e.2⟩) (fun e => .inl ⟨a2.trans e.2.1.symm, e.2.2⟩)⟩)
      have i4 : (0 : Int) ≤ (k : Int) := by omega
      have i5 : (k : Int) < (n : Int) := by omega
      have i6 : (k : Int) < ((n - 1 : Nat) : Int) := by omega
      have i7 : (n : Int) ≤ 40 := by omega
      clear hb hrP hw3 hP hcz hx hy
      go_upto_region 7 with fail
      rw [Hw3.out]
      rw [HPe.out]
      clear z0 z1
      have zX0 : w3.cell? ⟨R, 0, none⟩ = some (.pointer (some ⟨b.B, 0, none⟩)) := by rw [cell_row X.out]; rfl
      have ltX := lt_of_block X.out
      go_cut [8, 9] from 44 to 54 (fun v8 v9 wx => ∃ P8 : Nat, v8 = .pointer (some ⟨P8, 0, none⟩) ∧ v9 = .bool (joinB b f x y) ∧ Below w3.heap.size w3 wx)
      case first =>
        refine wp_region_held_drew (S := fun w9 => Below w3.heap.size w3 w9) (by kernel_rfl) (drew_b _ _) (fun hS0 => ?_)
        refine wpAnyH_take (i := 0) (oi := { dst := some 45, op := Go.Op.load 64 (Go.Operand.tmp 2), type := 64, pos := "search.go:98", after := #[], guard := none }) (v := .pointer (some ⟨b.B, 0, none⟩)) rfl (by kernel_rfl) (by kernel_rfl) (by kernel_rfl) (fun _ _ _ h => h) (Or.inl ⟨by rfl, by intro w2 hSw; (try dsimp only at hSw); have q2 := (hSw.cell ltX).trans zX0; have q3 := (hSw.cell (lt_of_cell z0')).trans z0'; go_simp⟩) hS0 ?_
        try simp only [Act.put, List.setIfInBounds_toArray, List.set_cons_zero, List.set_cons_succ]
        refine wpAnyH_take (i := 1) (oi := { dst := some 46, op := Go.Op.move (Go.Operand.tmp 1), type := 23, pos := "search.go:98", after := #[], guard := none }) (v := .slice (some ⟨bz, oz, none⟩) n cap) rfl (by kernel_rfl) (by kernel_rfl) (by kernel_rfl) (fun _ _ _ h => h) (Or.inl ⟨by rfl, by intro w2 hSw; (try dsimp only at hSw); have q2 := (hSw.cell ltX).trans zX0; have q3 := (hSw.cell (lt_of_cell z0')).trans z0'; go_simp⟩) hS0 ?_
        try simp only [Act.put, List.setIfInBounds_toArray, List.set_cons_zero, List.set_cons_succ]
        refine wpAnyH_take (i := 2) (oi := { dst := some 47, op := Go.Op.move (Go.Operand.tmp 5), type := 3, pos := "search.go:98", after := #[], guard := none }) (v := .int .i64 (k : Int)) rfl (by kernel_rfl) (by kernel_rfl) (by kernel_rfl) (fun _ _ _ h => h) (Or.inl ⟨by rfl, by intro w2 hSw; (try dsimp only at hSw); have q2 := (hSw.cell ltX).trans zX0; have q3 := (hSw.cell (lt_of_cell z0')).trans z0'; go_simp⟩) hS0 ?_
        try simp only [Act.put, List.setIfInBounds_toArray, List.set_cons_zero, List.set_cons_succ]
        refine wpAnyH_take (i := 3) (oi := { dst := some 48, op := Go.Op.indexAddr 23 (Go.Operand.tmp 46) (Go.Operand.tmp 47), type := 0, pos := "search.go:98", after := #[{ on := 1, ground := Go.Ground.data }, { on := 2, ground := Go.Ground.data }], guard := none }) (v := .pointer (some ⟨bz, oz + k, none⟩)) rfl (by kernel_rfl) (by kernel_rfl) (by kernel_rfl) (fun _ _ _ h => h) (Or.inl ⟨by rfl, by intro w2 hSw; (try dsimp only at hSw); have q2 := (hSw.cell ltX).trans zX0; have q3 := (hSw.cell (lt_of_cell z0')).trans z0'; go_simp⟩) hS0 ?_
        try simp only [Act.put, List.setIfInBounds_toArray, List.set_cons_zero, List.set_cons_succ]
        refine wpAnyH_take (i := 4) (oi := { dst := some 49, op := Go.Op.load 3 (Go.Operand.tmp 48), type := 3, pos := "search.go:98", after := #[{ on := 3, ground := Go.Ground.data }], guard := none }) (v := .int .i64 x) rfl (by kernel_rfl) (by kernel_rfl) (by kernel_rfl) (fun _ _ _ h => h) (Or.inl ⟨by rfl, by intro w2 hSw; (try dsimp only at hSw); have q2 := (hSw.cell ltX).trans zX0; have q3 := (hSw.cell (lt_of_cell z0')).trans z0'; go_simp⟩) hS0 ?_
        try simp only [Act.put, List.setIfInBounds_toArray, List.set_cons_zero, List.set_cons_succ]
        refine wpAnyH_take (i := 6) (oi := { dst := some 51, op := Go.Op.move (Go.Operand.tmp 7), type := 96, pos := "search.go:98", after := #[], guard := none }) (v := .func (.func 74) #[] #[.pointer (some ⟨P, 0, none⟩), .pointer (some ⟨R, 0, none⟩)]) rfl (by kernel_rfl) (by kernel_rfl) (by kernel_rfl) (fun _ _ _ h => h) (Or.inl ⟨by rfl, by intro w2 hSw; (try dsimp only at hSw); have q2 := (hSw.cell ltX).trans zX0; have q3 := (hSw.cell (lt_of_cell z0')).trans z0'; go_simp⟩) hS0 ?_
        try simp only [Act.put, List.setIfInBounds_toArray, List.set_cons_zero, List.set_cons_succ]
        obtain ⟨X0, hX0⟩ : ∃ X0, w3.drew = X0 := ⟨_, rfl⟩
        rw [hX0] at hS0 ⊢
        have HS_0 := Lib.hid hS0
        clear hX0 hS0 zX0 z0'
        refine wpAnyH_ready (rs := [5, 11]) (by kernel_rfl) (by simp) ?_
        refine AllReadyH.cons (o := opIc25) rfl (fun K2 hK => ?_) ?_
        · skip
          go_simp
          refine (ways76 b f x X0 (D.out.below HS_0.out (Nat.le_refl _)) Hok.out).mono ?_
          rintro e9 X1 ⟨b1, b2, rfl, hb1e, hb2e, hsz4, hbV, hseq⟩
          have HQ_1 := Lib.hid hseq
          have HN_1 := Lib.hid (show ∀ k, (k = b1 ∨ k = b2 ∨ (k = b.Z ∧ 0 < b.l.n)) → k < X1.heap.size from fun k e => by
            rcases e with e | e | e
            · omega
            · omega
            · have h1 := lt_of_cell (D.out.z 0 e.2).1
              have h2 := HS_0.out.size
              have e1 := e.1
              try simp only at h1
              omega)
          clear hseq hb1e hb2e hsz4
          try go_simp
          have HS_1 := Lib.hid (HS_0.out.trans (hbV.mono HS_0.out.size))
          refine hK.out _ _ HS_1.out (fun hSc => ?_)
          clear hK K2 hbV
          try simp only [Act.put, List.setIfInBounds_toArray, List.set_cons_zero, List.set_cons_succ]
          clear hSc
          refine wpAnyH_ready (rs := [7, 11]) (by kernel_rfl) (by simp) ?_
          refine AllReadyH.cons (o := opIc26) rfl (fun K2 hK => ?_) ?_
          · skip
            go_simp
            refine (first75 b1 b2 (wysK b.zs x b.l.n) _ 74 #[] #[.pointer (some ⟨P, 0, none⟩), .pointer (some ⟨R, 0, none⟩)] (fun wy => decide (wy.to = y) && opF b.zs f wy) (fun wy => isWay b.zs wy) X1 HQ_1.out HN_1.out (HT3.out.below HS_1.out) (fun wy hwy => Hwy.out wy hwy)).mono ?_
            rintro e9 X2 ⟨⟨va, vb, vd, rfl⟩, hbV⟩
            rw [show ((wysK b.zs x b.l.n).any fun wy => decide (wy.to = y) && opF b.zs f wy) = joinB b f x y from rfl]
            try go_simp
            have HS_2 := Lib.hid (HS_1.out.trans (hbV.mono HS_1.out.size))
            refine hK.out _ _ HS_2.out (fun hSc => ?_)
            clear hK K2 hbV
            try simp only [Act.put, List.setIfInBounds_toArray, List.set_cons_zero, List.set_cons_succ]
            refine wpAnyH_take (i := 8) (oi := opIc27) (v := .tuple #[.agg #[.int .i64 va, .int .i64 vb, .int .i64 vd], .bool (joinB b f x y)]) rfl (by kernel_rfl) (by kernel_rfl) (by kernel_rfl) (fun _ _ _ h => h) (Or.inl ⟨by rfl, by intro w2 hSw; (try dsimp only at hSw); go_simp⟩) hSc ?_
            try simp only [Act.put, List.setIfInBounds_toArray, List.set_cons_zero, List.set_cons_succ]
            refine wpAnyH_take (i := 9) (oi := opIc28) (v := .agg #[.int .i64 va, .int .i64 vb, .int .i64 vd]) rfl (by kernel_rfl) (by kernel_rfl) (by kernel_rfl) (fun _ _ _ h => h) (Or.inl ⟨by rfl, by intro w2 hSw; (try dsimp only at hSw); go_simp⟩) hSc ?_
            try simp only [Act.put, List.setIfInBounds_toArray, List.set_cons_zero, List.set_cons_succ]
            refine wpAnyH_take (i := 10) (oi := opIc29) (v := .bool (joinB b f x y)) rfl (by kernel_rfl) (by kernel_rfl) (by kernel_rfl) (fun _ _ _ h => h) (Or.inl ⟨by rfl, by intro w2 hSw; (try dsimp only at hSw); go_simp⟩) hSc ?_
            try simp only [Act.put, List.setIfInBounds_toArray, List.set_cons_zero, List.set_cons_succ]
            clear hSc
            refine wpAnyH_ready (rs := [11]) (by kernel_rfl) (by simp) ?_
            refine AllReadyH.cons (o := opIc30) rfl (fun K2 hK => ?_) AllReadyH.nil
            go_simp
            have hbV := below_alloc_ X2 (.cells #[.int .i64 0, .int .i64 0, .int .i64 0] 79)
            have hrV := heap_alloc_new_ X2 (.cells #[.int .i64 0, .int .i64 0, .int .i64 0] 79)
            obtain ⟨X3, hW⟩ : ∃ W2, X2.alloc (.cells #[.int .i64 0, .int .i64 0, .int .i64 0] 79) = W2 := ⟨_, rfl⟩
            obtain ⟨P8, hKe⟩ : ∃ Kx, X2.heap.size = Kx := ⟨_, rfl⟩
            rw [hW] at hbV hrV ⊢
            have HP8 := Lib.hid (show w3.heap.size ≤ P8 from by rw [← hKe]; exact HS_2.out.size)
            rw [hKe] at hrV ⊢
            have HS_3 := Lib.hid (HS_2.out.trans (hbV.mono HS_2.out.size))
            have HR_3 := Lib.hid hrV
            clear hrV hW hKe
            refine hK.out _ _ HS_3.out (fun hSc => ?_)
            clear hK K2 hbV
            try simp only [Act.put, List.setIfInBounds_toArray, List.set_cons_zero, List.set_cons_succ]
            clear hSc
            refine wpAnyH_ready (rs := [12]) (by kernel_rfl) (by simp) ?_
            refine AllReadyH.cons (o := opIc31) rfl (fun K2 hK => ?_) AllReadyH.nil
            have hn0 := HR_3.out
            obtain ⟨g0, g1, g2⟩ := row3 hn0
            have fr0 : X3.frozen? ⟨P8, 0, none⟩ = false := frozen_row hn0
            have fr1 : X3.frozen? ⟨P8, 1, none⟩ = false := frozen_row hn0
            have fr2 : X3.frozen? ⟨P8, 2, none⟩ = false := frozen_row hn0
            go_simp
            have hk1 := keeps_setCell X3 P8 0 (.int .i64 va)
            have hk2 := keeps_setCell (X3.setCell ⟨P8, 0, none⟩ (.int .i64 va)) P8 1 (.int .i64 vb)
            have hk3 := keeps_setCell ((X3.setCell ⟨P8, 0, none⟩ (.int .i64 va)).setCell ⟨P8, 1, none⟩ (.int .i64 vb)) P8 2 (.int .i64 vd)
            have hk := (hk1.trans hk2).trans hk3
            refine hK.out _ _ (HS_3.out.trans (hk.below HS_3.out.size (fun q hq e => by have e : q = P8 := e; have := HP8.out; omega))) (fun hS9 => ?_)
            clear hK K2
            try simp only [Act.put, List.setIfInBounds_toArray, List.set_cons_zero, List.set_cons_succ]
            refine wpAnyH_take (i := 13) (oi := opIc32) (v := .bool (joinB b f x y)) rfl (by kernel_rfl) (by kernel_rfl) (by kernel_rfl) (fun _ _ _ h => h) (Or.inl ⟨by rfl, by intro w2 hSw; (try dsimp only at hSw); go_simp⟩) hS9 ?_
            try simp only [Act.put, List.setIfInBounds_toArray, List.set_cons_zero, List.set_cons_succ]
            refine wpAnyH_done (by kernel_rfl) ?_ _
            have HS9 := Lib.hid hS9
            clear hS9 g0 g1 g2 fr0 fr1 fr2 hn0 hk1 hk2 hk3 hk
            go_wp2_with fail
            go_meet
            case rel => exact ⟨P8, rfl, rfl, HS9.out⟩
          refine AllReadyH.cons (o := opIc30) rfl (fun K2 hK => ?_) AllReadyH.nil
          go_simp
          have hbV := below_alloc_ X1 (.cells #[.int .i64 0, .int .i64 0, .int .i64 0] 79)
          have hrV := heap_alloc_new_ X1 (.cells #[.int .i64 0, .int .i64 0, .int .i64 0] 79)
          obtain ⟨X4, hW⟩ : ∃ W2, X1.alloc (.cells #[.int .i64 0, .int .i64 0, .int .i64 0] 79) = W2 := ⟨_, rfl⟩
          obtain ⟨P8, hKe⟩ : ∃ Kx, X1.heap.size = Kx := ⟨_, rfl⟩
          rw [hW] at hbV hrV ⊢
          have HP8 := Lib.hid (show w3.heap.size ≤ P8 from by rw [← hKe]; exact HS_1.out.size)
          rw [hKe] at hrV ⊢
          have HQ_4 := Lib.hid (HQ_1.out.keep (Keeps.of_new hbV))
          have HN_4 := Lib.hid (show ∀ k, (k = b1 ∨ k = b2 ∨ (k = b.Z ∧ 0 < b.l.n)) → k < X4.heap.size from fun k e => Nat.lt_of_lt_of_le (HN_1.out k e) hbV.size)
          have HS_4 := Lib.hid (HS_1.out.trans (hbV.mono HS_1.out.size))
          have HR_4 := Lib.hid hrV
          clear hrV hW hKe
          refine hK.out _ _ HS_4.out (fun hSc => ?_)
          clear hK K2 hbV
          try simp only [Act.put, List.setIfInBounds_toArray, List.set_cons_zero, List.set_cons_succ]
          clear hSc
          refine wpAnyH_ready (rs := [7]) (by kernel_rfl) (by simp) ?_
          refine AllReadyH.cons (o := opIc26) rfl (fun K2 hK => ?_) AllReadyH.nil
          go_simp
          refine (first75 b1 b2 (wysK b.zs x b.l.n) _ 74 #[] #[.pointer (some ⟨P, 0, none⟩), .pointer (some ⟨R, 0, none⟩)] (fun wy => decide (wy.to = y) && opF b.zs f wy) (fun wy => isWay b.zs wy) X4 HQ_4.out HN_4.out (HT3.out.below HS_4.out) (fun wy hwy => Hwy.out wy hwy)).mono ?_
          rintro e9 X5 ⟨⟨va, vb, vd, rfl⟩, hbV⟩
          rw [show ((wysK b.zs x b.l.n).any fun wy => decide (wy.to = y) && opF b.zs f wy) = joinB b f x y from rfl]
          try go_simp
          have HS_5 := Lib.hid (HS_4.out.trans (hbV.mono HS_4.out.size))
          have HR_5 := Lib.hid ((hbV.block _ (lt_of_block HR_4.out)).trans HR_4.out)
          refine hK.out _ _ HS_5.out (fun hSc => ?_)
          clear hK K2 hbV
          try simp only [Act.put, List.setIfInBounds_toArray, List.set_cons_zero, List.set_cons_succ]
          refine wpAnyH_take (i := 8) (oi := opIc27) (v := .tuple #[.agg #[.int .i64 va, .int .i64 vb, .int .i64 vd], .bool (joinB b f x y)]) rfl (by kernel_rfl) (by kernel_rfl) (by kernel_rfl) (fun _ _ _ h => h) (Or.inl ⟨by rfl, by intro w2 hSw; (try dsimp only at hSw); go_simp⟩) hSc ?_
          try simp only [Act.put, List.setIfInBounds_toArray, List.set_cons_zero, List.set_cons_succ]
          refine wpAnyH_take (i := 9) (oi := opIc28) (v := .agg #[.int .i64 va, .int .i64 vb, .int .i64 vd]) rfl (by kernel_rfl) (by kernel_rfl) (by kernel_rfl) (fun _ _ _ h => h) (Or.inl ⟨by rfl, by intro w2 hSw; (try dsimp only at hSw); go_simp⟩) hSc ?_
          try simp only [Act.put, List.setIfInBounds_toArray, List.set_cons_zero, List.set_cons_succ]
          refine wpAnyH_take (i := 10) (oi := opIc29) (v := .bool (joinB b f x y)) rfl (by kernel_rfl) (by kernel_rfl) (by kernel_rfl) (fun _ _ _ h => h) (Or.inl ⟨by rfl, by intro w2 hSw; (try dsimp only at hSw); go_simp⟩) hSc ?_
          try simp only [Act.put, List.setIfInBounds_toArray, List.set_cons_zero, List.set_cons_succ]
          clear hSc
          refine wpAnyH_ready (rs := [12]) (by kernel_rfl) (by simp) ?_
          refine AllReadyH.cons (o := opIc31) rfl (fun K2 hK => ?_) AllReadyH.nil
          have hn0 := HR_5.out
          obtain ⟨g0, g1, g2⟩ := row3 hn0
          have fr0 : X5.frozen? ⟨P8, 0, none⟩ = false := frozen_row hn0
          have fr1 : X5.frozen? ⟨P8, 1, none⟩ = false := frozen_row hn0
          have fr2 : X5.frozen? ⟨P8, 2, none⟩ = false := frozen_row hn0
          go_simp
          have hk1 := keeps_setCell X5 P8 0 (.int .i64 va)
          have hk2 := keeps_setCell (X5.setCell ⟨P8, 0, none⟩ (.int .i64 va)) P8 1 (.int .i64 vb)
          have hk3 := keeps_setCell ((X5.setCell ⟨P8, 0, none⟩ (.int .i64 va)).setCell ⟨P8, 1, none⟩ (.int .i64 vb)) P8 2 (.int .i64 vd)
          have hk := (hk1.trans hk2).trans hk3
          refine hK.out _ _ (HS_5.out.trans (hk.below HS_5.out.size (fun q hq e => by have e : q = P8 := e; have := HP8.out; omega))) (fun hS9 => ?_)
          clear hK K2
          try simp only [Act.put, List.setIfInBounds_toArray, List.set_cons_zero, List.set_cons_succ]
          refine wpAnyH_take (i := 13) (oi := opIc32) (v := .bool (joinB b f x y)) rfl (by kernel_rfl) (by kernel_rfl) (by kernel_rfl) (fun _ _ _ h => h) (Or.inl ⟨by rfl, by intro w2 hSw; (try dsimp only at hSw); go_simp⟩) hS9 ?_
          try simp only [Act.put, List.setIfInBounds_toArray, List.set_cons_zero, List.set_cons_succ]
          refine wpAnyH_done (by kernel_rfl) ?_ _
          have HS9 := Lib.hid hS9
          clear hS9 g0 g1 g2 fr0 fr1 fr2 hn0 hk1 hk2 hk3 hk
          go_wp2_with fail
          go_meet
          case rel => exact ⟨P8, rfl, rfl, HS9.out⟩
        refine AllReadyH.cons (o := opIc30) rfl (fun K2 hK => ?_) AllReadyH.nil
        go_simp
        have hbV := below_alloc_ X0 (.cells #[.int .i64 0, .int .i64 0, .int .i64 0] 79)
        have hrV := heap_alloc_new_ X0 (.cells #[.int .i64 0, .int .i64 0, .int .i64 0] 79)
        obtain ⟨X6, hW⟩ : ∃ W2, X0.alloc (.cells #[.int .i64 0, .int .i64 0, .int .i64 0] 79) = W2 := ⟨_, rfl⟩
        obtain ⟨P8, hKe⟩ : ∃ Kx, X0.heap.size = Kx := ⟨_, rfl⟩
        rw [hW] at hbV hrV ⊢
        have HP8 := Lib.hid (show w3.heap.size ≤ P8 from by rw [← hKe]; exact HS_0.out.size)
        rw [hKe] at hrV ⊢
        have HS_6 := Lib.hid (HS_0.out.trans (hbV.mono HS_0.out.size))
        have HR_6 := Lib.hid hrV
        clear hrV hW hKe
        refine hK.out _ _ HS_6.out (fun hSc => ?_)
        clear hK K2 hbV
        try simp only [Act.put, List.setIfInBounds_toArray, List.set_cons_zero, List.set_cons_succ]
        clear hSc
        refine wpAnyH_ready (rs := [5]) (by kernel_rfl) (by simp) ?_
        refine AllReadyH.cons (o := opIc25) rfl (fun K2 hK => ?_) AllReadyH.nil
        go_simp
        refine (ways76 b f x X6 (D.out.below HS_6.out (Nat.le_refl _)) Hok.out).mono ?_
        rintro e9 X7 ⟨b1, b2, rfl, hb1e, hb2e, hsz4, hbV, hseq⟩
        have HQ_7 := Lib.hid hseq
        have HN_7 := Lib.hid (show ∀ k, (k = b1 ∨ k = b2 ∨ (k = b.Z ∧ 0 < b.l.n)) → k < X7.heap.size from fun k e => by
          rcases e with e | e | e
          · omega
          · omega
          · have h1 := lt_of_cell (D.out.z 0 e.2).1
            have h2 := HS_6.out.size
            have e1 := e.1
            try simp only at h1
            omega)
        clear hseq hb1e hb2e hsz4
        try go_simp
        have HS_7 := Lib.hid (HS_6.out.trans (hbV.mono HS_6.out.size))
        have HR_7 := Lib.hid ((hbV.block _ (lt_of_block HR_6.out)).trans HR_6.out)
        refine hK.out _ _ HS_7.out (fun hSc => ?_)
        clear hK K2 hbV
        try simp only [Act.put, List.setIfInBounds_toArray, List.set_cons_zero, List.set_cons_succ]
        clear hSc
        refine wpAnyH_ready (rs := [7]) (by kernel_rfl) (by simp) ?_
        refine AllReadyH.cons (o := opIc26) rfl (fun K2 hK => ?_) AllReadyH.nil
        go_simp
        refine (first75 b1 b2 (wysK b.zs x b.l.n) _ 74 #[] #[.pointer (some ⟨P, 0, none⟩), .pointer (some ⟨R, 0, none⟩)] (fun wy => decide (wy.to = y) && opF b.zs f wy) (fun wy => isWay b.zs wy) X7 HQ_7.out HN_7.out (HT3.out.below HS_7.out) (fun wy hwy => Hwy.out wy hwy)).mono ?_
        rintro e9 X8 ⟨⟨va, vb, vd, rfl⟩, hbV⟩
        rw [show ((wysK b.zs x b.l.n).any fun wy => decide (wy.to = y) && opF b.zs f wy) = joinB b f x y from rfl]
        try go_simp
        have HS_8 := Lib.hid (HS_7.out.trans (hbV.mono HS_7.out.size))
        have HR_8 := Lib.hid ((hbV.block _ (lt_of_block HR_7.out)).trans HR_7.out)
        refine hK.out _ _ HS_8.out (fun hSc => ?_)
        clear hK K2 hbV
        try simp only [Act.put, List.setIfInBounds_toArray, List.set_cons_zero, List.set_cons_succ]
        refine wpAnyH_take (i := 8) (oi := opIc27) (v := .tuple #[.agg #[.int .i64 va, .int .i64 vb, .int .i64 vd], .bool (joinB b f x y)]) rfl (by kernel_rfl) (by kernel_rfl) (by kernel_rfl) (fun _ _ _ h => h) (Or.inl ⟨by rfl, by intro w2 hSw; (try dsimp only at hSw); go_simp⟩) hSc ?_
        try simp only [Act.put, List.setIfInBounds_toArray, List.set_cons_zero, List.set_cons_succ]
        refine wpAnyH_take (i := 9) (oi := opIc28) (v := .agg #[.int .i64 va, .int .i64 vb, .int .i64 vd]) rfl (by kernel_rfl) (by kernel_rfl) (by kernel_rfl) (fun _ _ _ h => h) (Or.inl ⟨by rfl, by intro w2 hSw; (try dsimp only at hSw); go_simp⟩) hSc ?_
        try simp only [Act.put, List.setIfInBounds_toArray, List.set_cons_zero, List.set_cons_succ]
        refine wpAnyH_take (i := 10) (oi := opIc29) (v := .bool (joinB b f x y)) rfl (by kernel_rfl) (by kernel_rfl) (by kernel_rfl) (fun _ _ _ h => h) (Or.inl ⟨by rfl, by intro w2 hSw; (try dsimp only at hSw); go_simp⟩) hSc ?_
        try simp only [Act.put, List.setIfInBounds_toArray, List.set_cons_zero, List.set_cons_succ]
        clear hSc
        refine wpAnyH_ready (rs := [12]) (by kernel_rfl) (by simp) ?_
        refine AllReadyH.cons (o := opIc31) rfl (fun K2 hK => ?_) AllReadyH.nil
        have hn0 := HR_8.out
        obtain ⟨g0, g1, g2⟩ := row3 hn0
        have fr0 : X8.frozen? ⟨P8, 0, none⟩ = false := frozen_row hn0
        have fr1 : X8.frozen? ⟨P8, 1, none⟩ = false := frozen_row hn0
        have fr2 : X8.frozen? ⟨P8, 2, none⟩ = false := frozen_row hn0
        go_simp
        have hk1 := keeps_setCell X8 P8 0 (.int .i64 va)
        have hk2 := keeps_setCell (X8.setCell ⟨P8, 0, none⟩ (.int .i64 va)) P8 1 (.int .i64 vb)
        have hk3 := keeps_setCell ((X8.setCell ⟨P8, 0, none⟩ (.int .i64 va)).setCell ⟨P8, 1, none⟩ (.int .i64 vb)) P8 2 (.int .i64 vd)
        have hk := (hk1.trans hk2).trans hk3
        refine hK.out _ _ (HS_8.out.trans (hk.below HS_8.out.size (fun q hq e => by have e : q = P8 := e; have := HP8.out; omega))) (fun hS9 => ?_)
        clear hK K2
        try simp only [Act.put, List.setIfInBounds_toArray, List.set_cons_zero, List.set_cons_succ]
        refine wpAnyH_take (i := 13) (oi := opIc32) (v := .bool (joinB b f x y)) rfl (by kernel_rfl) (by kernel_rfl) (by kernel_rfl) (fun _ _ _ h => h) (Or.inl ⟨by rfl, by intro w2 hSw; (try dsimp only at hSw); go_simp⟩) hS9 ?_
        try simp only [Act.put, List.setIfInBounds_toArray, List.set_cons_zero, List.set_cons_succ]
        refine wpAnyH_done (by kernel_rfl) ?_ _
        have HS9 := Lib.hid hS9
        clear hS9 g0 g1 g2 fr0 fr1 fr2 hn0 hk1 hk2 hk3 hk
        go_wp2_with fail
        go_meet
        case rel => exact ⟨P8, rfl, rfl, HS9.out⟩
      case rest =>
        obtain ⟨P8, rfl, rfl, hbx⟩ := hcut
        have HBc := Lib.hid (B.out.trans (hbx.mono B.out.size))
        have HQc := Lib.hid (Q.out.trans (hbx.mono Q.out.size))
        obtain ⟨j, hj⟩ : ∃ v, joinB b f x y = v := ⟨_, rfl⟩
        have HJ := Lib.hid hj
        rw [hj]
        clear hbx hj zX0 z0' ltX
        rcases j with _ | _
        · go_wp2_with fail
          go_ret
          exact ⟨by unfold isCh; rw [J1.out, J2.out, Hno.out HJ.out] <;> rfl, HBc.out⟩
        · go_wp2_with fail
          go_roundw
          case rel => exact ⟨k + 1, by omega, by go_num, Lib.hid (by rw [Hs.out, HJ.out]), HQc⟩
          case measure => simp [intOf]; omega
    · obtain rfl : k = n - 1 := by omega
      go_wp2_with fail
      go_ret
      exact ⟨by unfold isCh; rw [J1.out, J2.out, Hw.out] <;> rfl, B.out⟩
end
end Go.Proofs.Ytigohccehllmnaa
