/- Stage 3: the places where the steps of a scale need to be looked for. -/
import Derived.Test.YtdfdlklglbefiaaOrd
import Derived.Test.YtdfdlklglbefiaaRgh
import Derived.Test.YtdfdlklglbefiaaShr
namespace Go.Proofs.Ytdfdlklglbefiaa
set_option linter.unusedSimpArgs false
set_option linter.unusedVariables false
open Go.RowKit Go.Shelf

set_option maxRecDepth 100000 in
set_option maxHeartbeats 4000000 in
theorem order_seqH (Bb Pb B n cap : Nat) (C : Option Addr) (pv : Value) (key : Tn → Int) (ts : List Tn) (w : World) (hb : w.cell? ⟨Bb, 0, none⟩ = some (.pointer (some ⟨B, 0, none⟩))) (hc : w.cell? ⟨B, 0, none⟩ = some (.slice C n cap)) (ht : Tns w C n ts) (hn1 : 1 ≤ n) (hn : n ≤ 39)
    (hcmp : ∀ W, Keeps (fun _ => False) w W → ∀ S, w.heap.size ≤ S → CmpOK 78 #[.pointer (some ⟨Pb, 0, none⟩)] key S W) :
    SeqH Try.prog 75 #[.pointer (some ⟨Bb, 0, none⟩), .pointer (some ⟨Pb, 0, none⟩)] encT (GoodO key ts n) (fun _ => False) w := by
  intro l Mut J W hW hMut hJ hY h0
  have c0 := (hW.new.cell (p := ⟨Bb, 0, none⟩) (lt_of_cell hb)).trans hb
  have c1 := (hW.new.cell (p := ⟨B, 0, none⟩) (lt_of_cell hc)).trans hc
  have hT := ht.below hW.new (Nat.le_refl _)
  have HT := Lib.hid hT
  have HC := Lib.hid hcmp
  have HW := Lib.hid hW
  have HM := Lib.hid hMut
  have HJa := Lib.hid hJ
  have HY := Lib.hid hY
  have H0 := Lib.hid h0
  clear hb hc ht hT hcmp hW hMut hJ hY h0
  refine (callsIn_wide (n := 3)).1 ?_
  refine callsIn_of_wp Try.func75 rfl trivial ?_ rfl
  simp only [Try.ntmps75, List.size_toArray, List.length_cons, List.length_nil, Nat.reduceAdd, Nat.reduceSub, Array.replicate_succ, Array.replicate_zero, List.push_toArray, List.append_toArray, List.nil_append, List.cons_append]
  gi_wp2_with fail
  refine ⟨trivial, (callsIn_wide.2 (clone76 C n cap ts W HT.out hn1 (by omega))).mono ?_⟩
  rintro e w2 ⟨S, cp, rfl, hr, hS, hb2⟩
  have HR := Lib.hid hr
  have HS := Lib.hid hS
  have HB2 := Lib.hid hb2
  clear c0 c1 hr hS hb2
  gi_wp2_with fail
  have HLt := Lib.hid HT.out.1
  have hcm := HC.out w2 (HW.out.trans (Keeps.of_new HB2.out)) S (by have := HS.out; have := HW.out.size; omega)
  refine ⟨trivial, (callsIn_wide.2 (sort77 S n cp 78 #[.pointer (some ⟨Pb, 0, none⟩)] key ts w2 HR.out HLt.out hn hcm (enters_of Try.func78 (by kernel_rfl) rfl))).mono ?_⟩
  rintro e w3 ⟨rfl, ys, hr3, hmv, hsr, hk3⟩
  have HR3 := Lib.hid hr3
  have HG := Lib.hid (show GoodO key ts n ys from ⟨hmv.perm, hsr, hmv.len.trans HLt.out⟩)
  have HK3 := Lib.hid (show Keeps (fun k => W.heap.size ≤ k) W w3 from (Keeps.of_new HB2.out).trans (hk3.mono (fun k hk e => by have := HS.out; omega)))
  clear hr3 hmv hsr hk3 hcm HR HB2
  gi_wp2_with fail
  obtain ⟨B1, hB1⟩ : ∃ B1, w3.heap.size = B1 := ⟨_, rfl⟩
  have HB1 : Hid (W.heap.size ≤ B1 ∧ S < B1 ∧ B1 = w3.heap.size) := Lib.hid ⟨by rw [← hB1]; exact HK3.out.size, by rw [← hB1]; exact HR3.out.lt, hB1.symm⟩
  clear hB1
  gi_loopw [17] (fun i wr => ∃ k : Nat, k ≤ n ∧ i = .int .i64 (k : Int) ∧ Hid (J B1 (ys.take k) wr ∧ RowT wr S ys ∧ Keeps (fun k => Mut k ∨ W.heap.size ≤ k) W wr ∧ B1 ≤ wr.heap.size)) (fun i _ => n - (intOf i).toNat)
  case atStart => exact ⟨0, Nat.zero_le _, rfl, Lib.hid ⟨H0.out _ _ HB1.out.1 (by rw [HB1.out.2.2]; exact Nat.le_refl _) HK3.out, HR3.out, HK3.out.mono (fun _ _ e => .inr e), by rw [HB1.out.2.2]; exact Nat.le_refl _⟩⟩
  case round =>
    obtain ⟨k, hk, rfl, HI⟩ := hrel
    obtain ⟨wk, rfl⟩ : ∃ wk, wk = wr := ⟨_, rfl⟩
    have Hyl : Hid (ys.length = n) := HG.out.2.2
    by_cases hlt : k < n
    · obtain ⟨x0, x1, x2⟩ := HI.out.2.1.cells (j := k) (by rw [Hyl.out]; exact hlt)
      have Htk := Lib.hid (take_snoc (ys := ys) (k := k) (by rw [Hyl.out]; exact hlt))
      have Hsp := Lib.hid (split_at (ys := ys) (k := k) (by rw [Hyl.out]; exact hlt))
      obtain ⟨t, ht⟩ : ∃ t, tAt ys k = t := ⟨_, rfl⟩
      rw [ht] at x0 x1 x2 Htk Hsp
      have i0 : (0 : Int) ≤ (k : Int) := by omega
      have i1 : (k : Int) < (n : Int) := by omega
      have HJ1 := Lib.hid (HJa.out _ _ _ _ HI.out.1 ((keep_alloc (fun _ => False) wk (.cells #[.int .i64 t.r.lo, .int .i64 t.r.hi, .int .i64 (t.nm : Int)] 78)).none))
      have HK1 := Lib.hid (show Keeps (fun k => Mut k ∨ W.heap.size ≤ k) W (wk.alloc (.cells #[.int .i64 t.r.lo, .int .i64 t.r.hi, .int .i64 (t.nm : Int)] 78)) from HI.out.2.2.1.trans (keep_alloc _ _ _))
      have hy0 := HY.out ys HG.out B1 _ _ _ (wk.alloc (.cells #[.int .i64 t.r.lo, .int .i64 t.r.hi, .int .i64 (t.nm : Int)] 78)) Hsp.out HB1.out.1 (Nat.le_trans HI.out.2.2.2 (by simp)) HJ1.out (3 - 1)
      unfold encT tnV at hy0
      obtain ⟨fn, tmps, assign, body, hy, hR⟩ := hy0
      clear ht
      gi_wp2_with fail
      refine hR.mono ?_
      rintro e W2 ⟨rfl, hj2, hK2⟩
      have HJ2 := Lib.hid hj2
      have HK2 := Lib.hid (HK1.out.trans (hK2.mono (fun k _ e => Or.elim e (fun e => .inl e) (fun e => .inr (Nat.le_trans HB1.out.1 e)))))
      have HS2 : Hid (B1 ≤ W2.heap.size) := Lib.hid (Nat.le_trans (Nat.le_trans HI.out.2.2.2 (by simp)) hK2.size)
      have HR2 : Hid (RowT W2 S ys) := by
        obtain ⟨rest, h1⟩ := HI.out.2.1.below (below_alloc_ wk (.cells #[.int .i64 t.r.lo, .int .i64 t.r.hi, .int .i64 (t.nm : Int)] 78))
        exact ⟨rest, (hK2.block _ (lt_of_block h1) (fun e => by
          rcases e with e | e
          · have := (HM.out _ e).1; have := HS.out; omega
          · have := HB1.out.2.1; omega)).trans h1⟩
      clear hj2 hK2 hy hR x0 x1 x2
      gi_wp2_with fail
      go_roundw
      case rel => exact ⟨k + 1, by omega, by go_num, Lib.hid ⟨by rw [Htk.out]; exact HJ2.out, HR2.out, HK2.out, HS2.out⟩⟩
      case measure => simp [intOf]; omega
    · have e : k = n := by omega
      subst e
      gi_wp2_with fail
      go_end0
      exact ⟨⟨_, rfl⟩, ys, B1, HG.out, HB1.out.1, by have := HI.out.1; rwa [List.take_of_length_le (by rw [Hyl.out]; exact Nat.le_refl _)] at this⟩
end Go.Proofs.Ytdfdlklglbefiaa

namespace Go.Proofs.Ytdfdlklglbefiaa
set_option linter.unusedSimpArgs false
set_option linter.unusedVariables false
open Go.RowKit Go.Shelf
attribute [local go_sem] Oper.semAt_some
attribute [local go_sem ↓] exec_app
attribute [local go_sem ↓] at_app

/-- What the rounds of places keep. -/
structure PlI (R T : Nat) (V : World) (B1 : Nat) (pre : List Tn) (W : World) : Prop where
  row : ∃ v, W.heap[T]? = some (.cells #[v] 23 (0, 0)) ∧ W.ownsRow 0 2 1 v (pre.length + 1) (flatI (-1 :: pre.map (·.r.lo))) ∧ ∀ g, v.ownBlock = some g → g = R ∨ B1 ≤ g
  keep : Keeps (fun k => V.heap.size ≤ k ∨ k = T ∨ k = R) V W
theorem PlI.abides {R T : Nat} {V : World} (hT : T < V.heap.size) (hR : R < V.heap.size) (B1 : Nat) (pre : List Tn) (W1 W2 : World) (h : PlI R T V B1 pre W1) (hK : Keeps (fun k => V.heap.size ≤ k ∧ k < B1) W1 W2) : PlI R T V B1 pre W2 := by
  obtain ⟨⟨v, h1, h2, h3⟩, h4⟩ := h
  exact ⟨⟨v, (hK.block _ (lt_of_block h1) (by omega)).trans h1, own_keep h2 hK (fun k e => by have := h3 k e; omega), h3⟩, h4.trans (hK.mono (fun k _ e => .inl e.1))⟩
/-- A list without repetitions of what stands before. -/
def cmpc : List Int → List Int
  | [] => []
  | [x] => [x]
  | x :: y :: l => if x = y then cmpc (y :: l) else x :: cmpc (y :: l)
theorem cmpc_len (l : List Int) : (cmpc l).length ≤ l.length := by
  induction l with
  | nil => simp [cmpc]
  | cons a t ih =>
    cases t with
    | nil => simp [cmpc]
    | cons b r =>
      simp only [cmpc]
      split
      · simp at ih ⊢; omega
      · simp at ih ⊢; omega
theorem Ints.keep {W W' : World} {A : Option Addr} {n : Nat} {zs : List Int} {Mut : Nat → Prop} (h : Ints W A n zs) (hK : Keeps Mut W W') (hm : ∀ b o, A = some ⟨b, o, none⟩ → ¬ Mut b) : Ints W' A n zs := by
  refine ⟨h.1, fun hn => ?_⟩
  obtain ⟨b, o, e, hc⟩ := h.2 hn
  have hl := lt_of_cell (hc 0 hn)
  exact ⟨b, o, e, fun j hj => (keep_cells hK hl (hm _ _ e) _).trans (hc j hj)⟩
/-- What Compact does to what is owned. -/
def Cmp91 : Prop := ∀ (W : World) (v : Value) (k : Nat) (l : List Int), l.length = k → 1 ≤ k → k ≤ 25 → W.ownsRow 0 2 1 v k (flatI l) →
  Calls Try.prog 91 #[v] W fun en W' => ∃ D cp, v.ownBlock = some D ∧ en = .returned (.slice (some ⟨D, 0, none⟩) (cmpc l).length cp) ∧ Ints W' (some ⟨D, 0, none⟩) (cmpc l).length (cmpc l) ∧ (cmpc l).length ≤ cp ∧ Keeps (fun j => j = D) W W'
/-- What places hands back. -/
def PlPost (n : Nat) (zs : List Rg) (w : World) (en : Ending) (w' : World) : Prop :=
  ∃ ys D cp, GoodO (ofE false) (tnOf zs) n ys ∧ en = .returned (.slice (some ⟨D, 0, none⟩) (cmpc (-1 :: ys.map (·.r.lo))).length cp) ∧ Ints w' (some ⟨D, 0, none⟩) (cmpc (-1 :: ys.map (·.r.lo))).length (cmpc (-1 :: ys.map (·.r.lo))) ∧ (cmpc (-1 :: ys.map (·.r.lo))).length ≤ cp ∧ w.heap.size ≤ D ∧ Below w.heap.size w w'
set_option maxRecDepth 100000 in
set_option maxHeartbeats 4000000 in
theorem places70 (h91 : Cmp91) (B : Nat) (C : Option Addr) (n cap : Nat) (zs : List Rg) (mt : Nat → Bool) (w : World) (h : Bd w B C n cap zs mt) (hn1 : 1 ≤ n) (hn : n ≤ 24) :
    Calls Try.prog 70 #[.pointer (some ⟨B, 0, none⟩)] w (PlPost n zs w) := by
  have hB := h.row
  have hlt := lt_of_block hB
  have Hbd := Lib.hid h
  have k1 : Keeps (fun _ => False) w ((w.alloc (.cells #[.int .i64 (-1)] 2)).alloc (.cells #[.slice (some ⟨w.heap.size, 0, none⟩) 1 1] 23)) := (keep_alloc _ _ _).trans (keep_alloc _ _ _)
  have e0 : ((w.alloc (.cells #[.int .i64 (-1)] 2)).alloc (.cells #[.slice (some ⟨w.heap.size, 0, none⟩) 1 1] 23)).heap[w.heap.size]? = some (.cells #[.int .i64 (-1)] 2 (0, 0)) := hal_old (heap_alloc_new_ _ _)
  have e1 : ((w.alloc (.cells #[.int .i64 (-1)] 2)).alloc (.cells #[.slice (some ⟨w.heap.size, 0, none⟩) 1 1] 23)).heap[w.heap.size + 1]? = some (.cells #[.slice (some ⟨w.heap.size, 0, none⟩) 1 1] 23 (0, 0)) := hal_new (by simp)
  have s1 : ((w.alloc (.cells #[.int .i64 (-1)] 2)).alloc (.cells #[.slice (some ⟨w.heap.size, 0, none⟩) 1 1] 23)).heap.size = w.heap.size + 2 := by simp
  have K1 := Lib.hid k1
  have E0 := Lib.hid e0
  have E1 := Lib.hid e1
  have S1 := Lib.hid s1
  clear h k1 e0 e1 s1
  refine (callsIn_wide (n := 5)).1 ?_
  refine callsIn_of_wp_marks Try.func70 rfl trivial ?_ rfl
  simp only [Try.ntmps70, List.size_toArray, List.length_cons, List.length_nil, Nat.reduceAdd, Nat.reduceSub, Array.replicate_succ, Array.replicate_zero, List.push_toArray, List.append_toArray, List.nil_append, List.cons_append]
  gi_wp2_with fail
  obtain ⟨V1, hV1⟩ : ∃ V1, (w.alloc (.cells #[.int .i64 (-1)] 2)).alloc (.cells #[.slice (some ⟨w.heap.size, 0, none⟩) 1 1] 23) = V1 := ⟨_, rfl⟩
  have k1 := K1.out
  have e0 := E0.out
  have e1 := E1.out
  have s1 := S1.out
  clear K1 E0 E1 S1
  rw [hV1] at k1 e0 e1 s1 ⊢
  clear hV1
  obtain ⟨R, hR⟩ : ∃ R, w.heap.size = R := ⟨_, rfl⟩
  have HR := Lib.hid hR
  rw [hR] at e0 e1 s1 ⊢
  have hRB : B < R := by rw [← hR]; exact hlt
  clear hR hlt hB
  obtain ⟨Q, hQ⟩ : ∃ Q, V1.heap.size = Q := ⟨_, rfl⟩
  have hQR := eq_le (show R + 2 = Q by omega)
  have HS1 := Lib.hid s1
  clear s1
  refine ⟨trivial, (callsIn_wide.2 (order66B B false V1)).mono ?_⟩
  rintro en w5 ⟨rfl, rfl⟩
  have hk5 : Keeps (fun _ => False) V1 ((V1.alloc (.cells #[.pointer (some ⟨B, 0, none⟩)] 69)).alloc (.cells #[.func (.func 63) #[.bool false] #[]] 102)) := (keep_alloc _ _ _).trans (keep_alloc _ _ _)
  have e4 : ((V1.alloc (.cells #[.pointer (some ⟨B, 0, none⟩)] 69)).alloc (.cells #[.func (.func 63) #[.bool false] #[]] 102)).heap[V1.heap.size]? = some (.cells #[.pointer (some ⟨B, 0, none⟩)] 69 (0, 0)) := hal_old (heap_alloc_new_ _ _)
  have e5 : ((V1.alloc (.cells #[.pointer (some ⟨B, 0, none⟩)] 69)).alloc (.cells #[.func (.func 63) #[.bool false] #[]] 102)).heap[V1.heap.size + 1]? = some (.cells #[.func (.func 63) #[.bool false] #[]] 102 (0, 0)) := hal_new (by simp)
  have hs5 := eq_le (show ((V1.alloc (.cells #[.pointer (some ⟨B, 0, none⟩)] 69)).alloc (.cells #[.func (.func 63) #[.bool false] #[]] 102)).heap.size = V1.heap.size + 2 by simp)
  rw [hQ] at e4 e5 hs5 ⊢
  have HQ := Lib.hid hQ
  clear hQ
  gi_wp2_with fail
  obtain ⟨V5, hV5⟩ : ∃ V5, (V1.alloc (.cells #[.pointer (some ⟨B, 0, none⟩)] 69)).alloc (.cells #[.func (.func 63) #[.bool false] #[]] 102) = V5 := ⟨_, rfl⟩
  rw [hV5] at hk5 e4 e5 hs5 ⊢
  clear hV5
  have D0 := (hk5.block _ (lt_of_block e0) (fun e => e)).trans e0
  have D1 := (hk5.block _ (lt_of_block e1) (fun e => e)).trans e1
  have hKw : Keeps (fun _ => False) w V5 := k1.trans hk5
  have hT5 : Tns V5 C n (tnOf zs) := Hbd.out.tns.keep hKw (fun k o h1 h2 => h1)
  have DB := (hKw.block _ (lt_of_block Hbd.out.row) (fun e => e)).trans Hbd.out.row
  have c4 : V5.cell? ⟨Q, 0, none⟩ = some (.pointer (some ⟨B, 0, none⟩)) := by rw [cell_row e4]; rfl
  have c5 : V5.cell? ⟨Q + 1, 0, none⟩ = some (.func (.func 63) #[.bool false] #[]) := by rw [cell_row e5]; rfl
  have cB : V5.cell? ⟨B, 0, none⟩ = some (.slice C n cap) := by rw [cell_row DB]; exact brdV_0 _ _ _
  have hcmp : ∀ W, Keeps (fun _ => False) V5 W → ∀ S, V5.heap.size ≤ S → CmpOK 78 #[.pointer (some ⟨Q + 1, 0, none⟩)] (ofE false) S W := by
    intro W hW S hS W' x y hW'
    have hk : Keeps (fun k => k = S) V5 W' := hW.none.trans hW'
    exact cmp78B x y false (Q + 1) W' (by rw [keep_cells hk (by omega) (by omega)]; exact c5)
  have hseq := order_seqH Q (Q + 1) B n cap C (.func (.func 63) #[.bool false] #[]) (ofE false) (tnOf zs) V5 c4 cB hT5 hn1 (by omega) hcmp
  have h0 : ∀ B1 W', V5.heap.size ≤ B1 → B1 ≤ W'.heap.size → Keeps (fun k => V5.heap.size ≤ k) V5 W' → PlI R (R + 1) V5 B1 [] W' := by
    intro B1 W' h1 h2 h3
    refine ⟨⟨.slice (some ⟨R, 0, none⟩) 1 1, (h3.block _ (lt_of_block D1) (by have := lt_of_block D1; omega)).trans D1, ?_, fun g e => by cases e; exact .inl rfl⟩, h3.mono (fun k _ e => .inl e)⟩
    have D0' := (h3.block _ (lt_of_block D0) (by have := lt_of_block D0; omega)).trans D0
    exact ⟨rfl, .inr ⟨R, 1, _, rfl, Nat.zero_le _, D0', by first | exact Nat.le_refl _ | decide, by first | exact Nat.le_refl _ | decide, rfl, rfl⟩⟩
  have hTl := lt_of_block D1
  have hRl := lt_of_block D0
  have Hk5 := Lib.hid hKw
  clear e4 e5 c4 c5 cB hcmp hT5 hKw hk5 k1 DB D0 D1 e0 e1
  refine wpIn_rangeH (gf := 75) (lb := #[.pointer (some ⟨Q, 0, none⟩), .pointer (some ⟨Q + 1, 0, none⟩)]) rfl (enters_of Try.func75 (by kernel_rfl) rfl) hseq (fun k h => h.elim) (fun _ => rfl) (fun k => k = R ∨ k = R + 1) (fun k hk => ⟨by omega, fun h => h⟩)
    (PlI R (R + 1) V5) (fun B1 pre W1 W2 => PlI.abides hTl hRl B1 pre W1 W2) h0 ?round ?done
  case round =>
    intro l ys hgood B1 pre t post W hxs hB1 hBW hl1 hl2 hr hI m
    have hpl : pre.length < n := by have := hgood.2.2; rw [hxs] at this; simp at this; omega
    have Hpl := Lib.hid hpl
    have Hby := Lib.hid (heap_alloc_new_ W (.cells #[.int .i64 t.r.lo, .int .i64 t.r.hi, .int .i64 (t.nm : Int)] 78))
    unfold encT tnV
    clear hxs hgood hr hI
    gi_wp2_with fail
    refine ⟨keep_alloc _ _ _, ?_⟩
    intro W2 hB2 hI2
    have FT := (hB2.keeps.block _ (by simp) (by omega)).trans Hby.out
    obtain ⟨T, hT⟩ : ∃ T, W.heap.size = T := ⟨_, rfl⟩
    have hT2 : W2.heap.size = W.heap.size + 1 := hB2.size.trans (by simp)
    rw [hT] at FT hT2 ⊢
    obtain ⟨⟨v, hv, ho, hob⟩, hk2⟩ := hI2
    have g0 : W2.cell? ⟨R + 1, 0, none⟩ = some v := by rw [cell_row hv]; rfl
    have t0 : W2.cell? ⟨T, 0, none⟩ = some (.int .i64 t.r.lo) := by rw [cell_row FT]; rfl
    have hTl2 := lt_of_block FT
    have hvl := lt_of_block hv
    obtain ⟨x, hx⟩ : ∃ x, t.r.lo = x := ⟨_, rfl⟩
    have hbz := below_alloc_ W2 (.cells #[.int .i64 x] 2)
    have hz := heap_alloc_new_ W2 (.cells #[.int .i64 x] 2)
    have hob2 : (W2.alloc (.cells #[.int .i64 x] 2)).ownsRow 0 2 1 v (pre.length + 1) (flatI (-1 :: pre.map (·.r.lo))) := own_keep (Mut := fun _ => False) ho (Keeps.of_new hbz) (fun _ _ e => e)
    obtain ⟨v', W3, hrun, hown3, hK3, hv3⟩ := app_one (n := pre.length + 1) Try.underlying23 info2_ rfl (by omega) (by omega) hob2 (vals := [.int .i64 x]) rfl hz (by simp [Value.oneCell']) (by omega)
    obtain ⟨C4, m4, cp4, rfl⟩ : ∃ C m cp, v' = .slice C m cp := by
      rcases hown3.2 with ⟨e, _⟩ | ⟨_, _, _, e, _⟩
      · exact ⟨_, _, _, e⟩
      · exact ⟨_, _, _, e⟩
    have hBT : B1 ≤ W2.heap.size := by omega
    have hneT : ¬ (v.ownBlock = some (R + 1)) := fun e => by have := hob _ e; omega
    have hneT' : ¬ ((Value.slice C4 m4 cp4).ownBlock = some (R + 1)) := fun e => by
      rcases hv3 with e' | ⟨e', _⟩
      · rw [e'] at e; exact hneT e
      · rw [e'] at e; have := hbz.size; have := Option.some.inj e; omega
    have hT3 := (hK3.block (R + 1) (Nat.lt_of_lt_of_le hvl hbz.size) hneT).trans ((hbz.block _ hvl).trans hv)
    have hob3 : ∀ g, (Value.slice C4 m4 cp4).ownBlock = some g → g = R ∨ B1 ≤ g := fun g e => by
      rcases hv3 with e' | ⟨e', _⟩
      · rw [e'] at e; exact hob g e
      · rw [e'] at e; have := hbz.size; have := Option.some.inj e; omega
    have hKa : Keeps (fun k => (k = R ∨ k = R + 1) ∨ B1 ≤ k) W2 W3 := (Keeps.of_new hbz).trans (hK3.mono (fun k _ e => by have := hob k e; omega))
    have c3 : W3.cell? ⟨R + 1, 0, none⟩ = some v := by rw [cell_row hT3]; rfl
    have f3 : W3.frozen? ⟨R + 1, 0, none⟩ = false := frozen_row hT3
    have hTs := set_same 0 (.slice C4 m4 cp4) hT3
    have hKs := keeps_setCell W3 (R + 1) 0 (.slice C4 m4 cp4)
    have hown4 := own_keep hown3 hKs (fun k e e' => hneT' (e' ▸ e))
    have HTs := Lib.hid hTs
    have HKs := Lib.hid hKs
    have HKa := Lib.hid hKa
    have Ho4 := Lib.hid hown4
    have Hob3 := Lib.hid hob3
    have Hk2 := Lib.hid hk2
    have Hx := Lib.hid hx
    replace hrun : runA Try.prog 23 v (.slice (some ⟨W2.heap.size, 0, none⟩) 1 1) (W2.alloc (.cells #[.int .i64 x] 2)) = .ok (.value (.slice C4 m4 cp4)) W3 := run_app hrun
    have HV5 := Lib.hid hB1
    rw [hx] at t0 ⊢
    rw [hT2] at hrun
    clear hbz hz hob2 hown3 hK3 hv3 hT3 hob3 hKa hTs hKs hown4 hk2 hx hv ho hob FT hneT hneT' hB2 hT hBW hBT
    gi_wp2_with fail
    try rw [hT2]
    try rw [hrun]
    gi_wp2_with fail
    refine ⟨HKa.out.trans (HKs.out.mono (fun k _ e => .inl (.inr e))), ⟨⟨(.slice C4 m4 cp4), HTs.out, ?_, Hob3.out⟩, Hk2.out.trans ((HKa.out.mono (fun k _ e => by omega)).trans (HKs.out.mono (fun k _ e => by omega)))⟩⟩
    have h4 := Ho4.out
    rw [← flatI_snoc] at h4
    rw [List.length_append, List.length_singleton, List.map_append, List.map_singleton, Hx.out]
    exact h4
  case done =>
    intro D2 B1 ys W9 hgood hD2 hDB _ hDW hI9 hKd
    obtain ⟨⟨v, hv, ho, hob⟩, hk9⟩ := hI9
    have g0 : W9.cell? ⟨R + 1, 0, none⟩ = some v := by rw [cell_row hv]; rfl
    have hl : ys.length = n := hgood.2.2
    obtain ⟨L, hL⟩ : ∃ L, (-1 :: ys.map (·.r.lo) : List Int) = L := ⟨_, rfl⟩
    have hc := h91 W9 v (ys.length + 1) L (by rw [← hL]; simp) (by omega) (by omega) (by rw [← hL]; exact ho)
    have HL := Lib.hid hL
    have Hg := Lib.hid hgood
    have Hob := Lib.hid hob
    have Hk9 := Lib.hid hk9
    have HKd := Lib.hid hKd
    clear hL hgood hob hk9 hKd hv ho hseq h0
    gi_wp2_with fail
    refine ⟨trivial, (callsIn_wide.2 hc).mono ?_⟩
    rintro en W10 ⟨D, cp, hD, rfl, hi, hcl, hK10⟩
    have HCL := Lib.hid hcl
    have Hi := Lib.hid hi
    have HK10 := Lib.hid hK10
    have HD := Lib.hid (Hob.out D hD)
    clear hi hK10 hc hD hcl
    gi_wp2_with fail
    have hne : ¬ (D2 = D) := by have := HD.out; omega
    have hKd2 := (HK10.out.block D2 hDW hne).trans HKd.out
    refine ⟨by simp, .inl ⟨_, _, rfl, run_takeDeferred hKd2, ?_⟩⟩
    have hput : Keeps (fun j => j = D2) W10 (W10.putObj D2 (.deferred none)) := Keeps.putObj _ _ _ rfl
    refine ⟨_, results_tmp rfl _ _ _, ?_⟩
    have hs5 := Hk5.out.size
    have hs9 := Hk9.out.size
    have hs10 := HK10.out.size
    have hR := HR.out
    have hDR : R ≤ D := by have := HD.out; omega
    refine ⟨ys, D, cp, Hg.out, by rw [HL.out]; rfl, by rw [HL.out]; exact Hi.out.keep hput (fun b o e => by cases e; exact fun e' => hne e'.symm), by rw [HL.out]; exact HCL.out, by omega, ?_⟩
    have h1 : Keeps (fun k => R ≤ k) w V5 := Hk5.out.none
    have h2 : Keeps (fun k => R ≤ k) V5 W9 := Hk9.out.mono (fun k _ e => by omega)
    have h3 : Keeps (fun k => R ≤ k) W9 W10 := HK10.out.mono (fun k _ e => by omega)
    have h4 : Keeps (fun k => R ≤ k) W10 (W10.putObj D2 (.deferred none)) := hput.mono (fun k _ e => by omega)
    exact (((h1.trans h2).trans h3).trans h4).below (Nat.le_refl _) (fun k hk e => by omega)
end Go.Proofs.Ytdfdlklglbefiaa
