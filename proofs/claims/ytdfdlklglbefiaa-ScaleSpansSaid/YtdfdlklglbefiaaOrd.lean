/- Stage 3: the tones of a board, in the order of their places. -/
import Derived.Test.YtdfdlklglbefiaaClo
import Derived.Test.YtdfdlklglbefiaaStb
import Derived.Test.YtdfdlklglbefiaaRgh
import Derived.Lib.SliceRun
import Derived.LoopIn
namespace Go.Proofs.Ytdfdlklglbefiaa
set_option linter.unusedSimpArgs false
set_option linter.unusedVariables false
open Go.RowKit Go.Shelf

section
attribute [local go_sem ↓] exec_app
theorem app_cpT {W : World} {Z : Nat} (hZ : W.heap[Z]? = some (.cells #[] 78 (0, 0))) {A : Option Addr} {n cap : Nat} {ts : List Tn} (h : Tns W A n ts) (hn1 : 1 ≤ n) (hn : n ≤ 1000) :
    ∃ g cp W', runA Try.prog 72 (.slice (some ⟨Z, 0, none⟩) 0 0) (.slice A n cap) W = .ok (.value (.slice (some ⟨g, 0, none⟩) n cp)) W' ∧ W'.ownsRow 0 78 3 (.slice (some ⟨g, 0, none⟩) n cp) n (flatT ts) ∧
      Keeps (fun j => j = Z) W W' ∧ (g = Z ∨ (g = W.heap.size ∧ W.heap.size < W'.heap.size)) := by
  obtain ⟨i, hi, hz, hs, hb⟩ := info_parts info78_
  obtain ⟨b, o, rfl, hc⟩ := h.2 (by omega)
  have hown : W.ownsRow 0 78 3 (.slice (some ⟨Z, 0, none⟩) 0 0) 0 [] := ⟨rfl, .inr ⟨Z, 0, #[], rfl, Nat.zero_le _, hZ, Nat.le_refl _, Nat.zero_le _, rfl, rfl⟩⟩
  have hl := h.1
  obtain ⟨v', W', h2, h3, h4, _, h5⟩ := run_append_own_at (P := Try.prog) W 0 72 72 78 i _ 3 24 Try.underlying72 hi hz hs hb rfl (by omega) _ 0 [] hown ⟨b, o, none⟩ n cap (flatT ts) (by rw [flatT_len, hl]) (fun j u hj => by
      have hjl : j < n * 3 := by
        have := (List.getElem?_eq_some_iff.1 hj).1
        rw [flatT_len, hl] at this
        exact this
      rw [Addr.add_lit]
      have hd := hc (j / 3) (by omega)
      have hf := flatT_at ts (j / 3) (by omega)
      rcases (by omega : j = j / 3 * 3 ∨ j = j / 3 * 3 + 1 ∨ j = j / 3 * 3 + 2) with e | e | e
      · rw [e, hf.1] at hj; rw [e, ← hj]; exact hd.1
      · rw [e, hf.2.1] at hj; rw [e, ← hj]; exact hd.2.1
      · rw [e, hf.2.2] at hj; rw [e, ← hj]; exact hd.2.2) (by
      intro u hu
      unfold flatT at hu
      obtain ⟨p, _, hp⟩ := List.mem_flatMap.1 hu
      simp only [cellT, List.mem_cons, List.mem_nil_iff, or_false] at hp
      rcases hp with rfl | rfl | rfl <;> rfl) (by unfold maxLen; omega) (by omega) (Nat.zero_le _)
  rw [Nat.zero_add, List.nil_append] at h3
  rcases h3.2 with ⟨_, e⟩ | ⟨g, cp, cur, rfl, _⟩
  · omega
  · refine ⟨g, cp, W', run_app h2, h3, ⟨h4.os, h4.tape, h4.output, h4.size, fun k hk hm => h4.block k hk (fun e => hm (Option.some.inj e))⟩, ?_⟩
    rcases h5 with h5 | h5
    · exact .inl (Option.some.inj h5)
    · exact .inr ⟨Option.some.inj h5, own_lt h3 _ h5⟩
theorem rowT_own {W : World} {g n cp : Nat} {ts : List Tn} (hn : 1 ≤ n) (h : W.ownsRow 0 78 3 (.slice (some ⟨g, 0, none⟩) n cp) n (flatT ts)) : RowT W g ts := by
  rcases h.2 with ⟨e, _⟩ | ⟨g', cap, cur, e, hb, hg, hc, _, hsz, htake⟩
  · cases e
  · cases e
    refine ⟨cur.toList.drop (n * 3), ?_⟩
    rw [← htake, List.take_append_drop]
    exact hg

set_option maxRecDepth 100000 in
set_option maxHeartbeats 4000000 in
theorem clone76 (A : Option Addr) (n cap : Nat) (ts : List Tn) (w : World) (h : Tns w A n ts) (hn1 : 1 ≤ n) (hn : n ≤ 1000) :
    Calls Try.prog 76 #[.slice A n cap] w fun e w' => ∃ g cp, e = .returned (.slice (some ⟨g, 0, none⟩) n cp) ∧ RowT w' g ts ∧ w.heap.size ≤ g ∧ Below w.heap.size w w' := by
  have q72 : ∀ (w : World) (a : Option Addr) (n c n' c' : Nat), (binOp .eql 72 (.slice a n c) (.slice none n' c')).run Try.prog w = .ok (.bool a.isNone) w := fun w a n c n' c' => Lib.run_eql_slice_nil w 72 78 a n c n' c' Try.underlying72
  have hb := below_alloc_ w (.cells #[] 78)
  obtain ⟨g, cp, W', hrun, hown, hK, hg⟩ := app_cpT (cap := cap) (heap_alloc_new_ w (.cells #[] 78)) (h.below hb (Nat.le_refl _)) hn1 hn
  have hF : Below w.heap.size w W' := hb.trans (hK.below hb.size (fun k hk e => by omega))
  have HF := Lib.hid hF
  have HR := Lib.hid (rowT_own hn1 hown)
  have HG := Lib.hid (show w.heap.size ≤ g by
    rcases hg with e | ⟨e, _⟩
    · omega
    · simp at e; omega)
  obtain ⟨b, o, rfl, -⟩ := h.2 (by omega)
  clear hb hown hK hg hF h
  go_enter Try.func76, Try.ntmps76
  go_wp2_with fail
  go_ret
  exact ⟨g, cp, rfl, HR.out, HG.out, HF.out⟩
end

set_option maxRecDepth 100000 in
theorem order66A (B E : Nat) (w : World) : Calls Try.prog 66 #[.pointer (some ⟨B, 0, none⟩), .func (.func 65) #[] #[.pointer (some ⟨E, 0, none⟩)]] w fun e w' => e = .returned (.func (.func 75) #[] #[.pointer (some ⟨w.heap.size, 0, none⟩), .pointer (some ⟨w.heap.size + 1, 0, none⟩)]) ∧ w' = (w.alloc (.cells #[.pointer (some ⟨B, 0, none⟩)] 69)).alloc (.cells #[.func (.func 65) #[] #[.pointer (some ⟨E, 0, none⟩)]] 102) := by
  go_enter Try.func66, Try.ntmps66
  go_wp2_with fail
  go_ret
  exact ⟨rfl, rfl⟩
set_option maxRecDepth 100000 in
theorem order66B (B : Nat) (b : Bool) (w : World) : Calls Try.prog 66 #[.pointer (some ⟨B, 0, none⟩), .func (.func 63) #[.bool b] #[]] w fun e w' => e = .returned (.func (.func 75) #[] #[.pointer (some ⟨w.heap.size, 0, none⟩), .pointer (some ⟨w.heap.size + 1, 0, none⟩)]) ∧ w' = (w.alloc (.cells #[.pointer (some ⟨B, 0, none⟩)] 69)).alloc (.cells #[.func (.func 63) #[.bool b] #[]] 102) := by
  go_enter Try.func66, Try.ntmps66
  go_wp2_with fail
  go_ret
  exact ⟨rfl, rfl⟩

/-- What a tone is handed on as. -/
def encT (t : Tn) : Array Value := #[tnV t]
/-- The tones in the order of their places. -/
def GoodO (key : Tn → Int) (ts : List Tn) (n : Nat) (ys : List Tn) : Prop := ys.Perm ts ∧ Srt key 0 n ys ∧ ys.length = n
theorem take_snoc {ys : List Tn} {k : Nat} (h : k < ys.length) : ys.take (k + 1) = ys.take k ++ [tAt ys k] := by
  rw [List.take_succ_eq_append_getElem h, tAt_eq h]
theorem split_at {ys : List Tn} {k : Nat} (h : k < ys.length) : ys = ys.take k ++ tAt ys k :: ys.drop (k + 1) := by
  rw [tAt_eq h]
  conv => lhs; rw [← List.take_append_drop k ys, List.drop_eq_getElem_cons h]
set_option maxRecDepth 100000 in
set_option maxHeartbeats 4000000 in
theorem order_seq (Bb Pb B n cap : Nat) (C : Option Addr) (pv : Value) (key : Tn → Int) (ts : List Tn) (w : World) (hb : w.cell? ⟨Bb, 0, none⟩ = some (.pointer (some ⟨B, 0, none⟩))) (hc : w.cell? ⟨B, 0, none⟩ = some (.slice C n cap)) (ht : Tns w C n ts) (hn1 : 1 ≤ n) (hn : n ≤ 39)
    (hcmp : ∀ W, Keeps (fun _ => False) w W → ∀ S, w.heap.size ≤ S → CmpOK 78 #[.pointer (some ⟨Pb, 0, none⟩)] key S W) :
    SeqG Try.prog 75 #[.pointer (some ⟨Bb, 0, none⟩), .pointer (some ⟨Pb, 0, none⟩)] encT (GoodO key ts n) (fun _ => False) w := by
  intro l Mut J Jx W hW hMut hJ hJx hY h0
  have c0 := (hW.new.cell (p := ⟨Bb, 0, none⟩) (lt_of_cell hb)).trans hb
  have c1 := (hW.new.cell (p := ⟨B, 0, none⟩) (lt_of_cell hc)).trans hc
  have hT := ht.below hW.new (Nat.le_refl _)
  have HT := Lib.hid hT
  have HC := Lib.hid hcmp
  have HW := Lib.hid hW
  have HM := Lib.hid hMut
  have HJa := Lib.hid hJ
  have HJx := Lib.hid hJx
  have HY := Lib.hid hY
  have H0 := Lib.hid h0
  clear hb hc ht hT hcmp hW hMut hJ hJx hY h0
  refine (callsIn_wide (n := 3)).1 ?_
  refine callsIn_of_wp Try.func75 rfl trivial ?_ rfl
  simp only [Try.ntmps75, List.size_toArray, List.length_cons, List.length_nil, Nat.reduceAdd, Nat.reduceSub, Array.replicate_succ, Array.replicate_zero, List.push_toArray, List.append_toArray, List.nil_append, List.cons_append]
  gi_wp2_with fail
  refine ⟨trivial, (callsIn_wide.2 (clone76 C n cap ts W HT.out hn1 (by omega))).mono ?_⟩
  rintro e w2 ⟨S, cp, rfl, hr, hS, hb2⟩
  have HR := Lib.hid hr
  have HS := Lib.hid hS
  have HB2 := Lib.hid hb2
  clear c0 c1 hr hS hb2
  gi_wp2_with fail
  have HLt := Lib.hid HT.out.1
  have hcm := HC.out w2 (HW.out.trans (Keeps.of_new HB2.out)) S (by have := HS.out; have := HW.out.size; omega)
  refine ⟨trivial, (callsIn_wide.2 (sort77 S n cp 78 #[.pointer (some ⟨Pb, 0, none⟩)] key ts w2 HR.out HLt.out hn hcm (enters_of Try.func78 (by kernel_rfl) rfl))).mono ?_⟩
  rintro e w3 ⟨rfl, ys, hr3, hmv, hsr, hk3⟩
  have HR3 := Lib.hid hr3
  have HG := Lib.hid (show GoodO key ts n ys from ⟨hmv.perm, hsr, hmv.len.trans HLt.out⟩)
  have HK3 := Lib.hid (show Keeps (fun k => W.heap.size ≤ k) W w3 from (Keeps.of_new HB2.out).trans (hk3.mono (fun k hk e => by have := HS.out; omega)))
  clear hr3 hmv hsr hk3 hcm HR HB2
  gi_wp2_with fail
  gi_loopw [17] (fun i wr => ∃ k : Nat, k ≤ n ∧ i = .int .i64 (k : Int) ∧ Hid (J (ys.take k) wr ∧ RowT wr S ys ∧ Keeps (fun k => Mut k ∨ W.heap.size ≤ k) W wr)) (fun i _ => n - (intOf i).toNat)
  case atStart => exact ⟨0, Nat.zero_le _, rfl, Lib.hid ⟨HJa.out _ _ _ H0.out HK3.out, HR3.out, HK3.out.mono (fun _ _ e => .inr e)⟩⟩
  case round =>
    obtain ⟨k, hk, rfl, HI⟩ := hrel
    obtain ⟨wk, rfl⟩ : ∃ wk, wk = wr := ⟨_, rfl⟩
    have Hyl : Hid (ys.length = n) := HG.out.2.2
    by_cases hlt : k < n
    · obtain ⟨x0, x1, x2⟩ := HI.out.2.1.cells (j := k) (by rw [Hyl.out]; exact hlt)
      have Htk := Lib.hid (take_snoc (ys := ys) (k := k) (by rw [Hyl.out]; exact hlt))
      have Hsp := Lib.hid (split_at (ys := ys) (k := k) (by rw [Hyl.out]; exact hlt))
      obtain ⟨t, ht⟩ : ∃ t, tAt ys k = t := ⟨_, rfl⟩
      rw [ht] at x0 x1 x2 Htk Hsp
      have i0 : (0 : Int) ≤ (k : Int) := by omega
      have i1 : (k : Int) < (n : Int) := by omega
      have HJ1 := Lib.hid (HJa.out _ _ _ HI.out.1 (keep_alloc _ wk (.cells #[.int .i64 t.r.lo, .int .i64 t.r.hi, .int .i64 (t.nm : Int)] 78)))
      have HK1 := Lib.hid (show Keeps (fun k => Mut k ∨ W.heap.size ≤ k) W (wk.alloc (.cells #[.int .i64 t.r.lo, .int .i64 t.r.hi, .int .i64 (t.nm : Int)] 78)) from HI.out.2.2.trans (keep_alloc _ _ _))
      have hy0 := HY.out ys HG.out _ _ _ (wk.alloc (.cells #[.int .i64 t.r.lo, .int .i64 t.r.hi, .int .i64 (t.nm : Int)] 78)) Hsp.out HK1.out.size HJ1.out (3 - 1)
      unfold encT tnV at hy0
      obtain ⟨fn, tmps, assign, body, hy, hR⟩ := hy0
      clear ht
      gi_wp2_with fail
      refine hR.mono ?_
      rintro e W2 (⟨rfl, hj2, hK2⟩ | ⟨rfl, hj2, hK2⟩)
      · have HJ2 := Lib.hid hj2
        have HK2 := Lib.hid (HK1.out.trans (hK2.mono (fun k _ e => .inl e)))
        have HR2 : Hid (RowT W2 S ys) := by
          obtain ⟨rest, h1⟩ := HI.out.2.1.below (below_alloc_ wk (.cells #[.int .i64 t.r.lo, .int .i64 t.r.hi, .int .i64 (t.nm : Int)] 78))
          exact ⟨rest, (hK2.block _ (lt_of_block h1) (fun e => by have := (HM.out _ e).1; have := HS.out; omega)).trans h1⟩
        clear hj2 hK2 hy hR x0 x1 x2
        gi_wp2_with fail
        go_roundw
        case rel => exact ⟨k + 1, by omega, by go_num, Lib.hid ⟨by rw [Htk.out]; exact HJ2.out, HR2.out, HK2.out⟩⟩
        case measure => simp [intOf]; omega
      · have HJ2 := Lib.hid hj2
        clear hj2 hK2 hy hR x0 x1 x2
        gi_wp2_with fail
        exact bodyPost_ret (results_none rfl _ _ _) rfl ⟨⟨_, rfl⟩, ys, HG.out, .inr ⟨ys.take k, t, _, Hsp.out, HJ2.out⟩⟩
    · have e : k = n := by omega
      subst e
      gi_wp2_with fail
      go_end0
      exact ⟨⟨_, rfl⟩, ys, HG.out, .inl (by have := HI.out.1; rwa [List.take_of_length_le (by rw [Hyl.out]; exact Nat.le_refl _)] at this)⟩
end Go.Proofs.Ytdfdlklglbefiaa
