/- Stage 5: the kinds of the items. -/
import Derived.Test.YtnodkgejggnehaaKn
import Derived.Test.YtnodkgejggnehaaAp
import Derived.ControlIn
import Derived.Laws.EntriesVeiled
import Derived.Test.YtnodkgejggnehaaKs
import Derived.Deep.Cut
import Derived.LoopIn
import Derived.Test.YtnodkgejggnehaaKa
namespace Go.Proofs.Ytnodkgejggnehaa
set_option linter.unusedSimpArgs false
set_option linter.unusedVariables false
open Go.RowKit Go.Shelf
attribute [local go_sem ↓] exec_app at_app
attribute [local go_sem] Oper.semAt_some
/-- The numbers that are chosen. -/
def selL (sel : Nat → Bool) (x : Nat) : List Int := ((List.range x).filter sel).map fun k : Nat => (k : Int)
theorem selL_yes {sel : Nat → Bool} {x : Nat} (h : sel x = true) : selL sel (x + 1) = selL sel x ++ [(x : Int)] := by
  unfold selL; rw [List.range_succ, List.filter_append, List.filter_cons, if_pos h]; simp
theorem selL_no {sel : Nat → Bool} {x : Nat} (h : sel x = false) : selL sel (x + 1) = selL sel x := by
  unfold selL; rw [List.range_succ, List.filter_append, List.filter_cons, if_neg (by rw [h]; simp)]; simp
theorem selL_len (sel : Nat → Bool) (x : Nat) : (selL sel x).length ≤ x := by
  unfold selL; rw [List.length_map]
  exact Nat.le_trans (List.length_filter_le _ _) (by simp)
/-- What a round of AppendSeq finds. -/
structure AqI (b : Nat) (w : World) (l : List Int) (O : Nat → Prop) (W : World) : Prop where
  ex : ∃ v, W.heap[b]? = some (.cells #[v] 23 (0, 0)) ∧ W.ownsRow 0 3 1 v l.length (flatI l) ∧ ∀ g, v.ownBlock = some g → O g
  keep : Keeps (fun j => j = b) w W
theorem AqI.abide {b N : Nat} {w W W' : World} {l : List Int} {O : Nat → Prop} (h : AqI b w l O W) (hb : b < N) (hs : w.heap.size ≤ N) (hK : Keeps (fun k => N ≤ k ∧ ¬ O k) W W') : AqI b w l O W' := by
  obtain ⟨v, h1, h2, h3⟩ := h.ex
  refine ⟨⟨v, (hK.block _ (lt_of_block h1) (by omega)).trans h1, own_keep h2 hK (fun g e e2 => e2.2 (h3 g e)), h3⟩, ?_⟩
  exact ⟨hK.os.trans h.keep.os, hK.tape.trans h.keep.tape, hK.output.trans h.keep.output, Nat.le_trans h.keep.size hK.size, fun j hj hm => (hK.block j (Nat.lt_of_lt_of_le hj h.keep.size) (by omega)).trans (h.keep.block j hj hm)⟩
set_option maxRecDepth 100000 in
set_option maxHeartbeats 16000000 in
theorem appSeq90 (g : FuncId) (lb : Array Value) (eg : ∀ args w, (callFunc g args).run Try.prog w = .ok (.enter g args) w) (N : Nat) (Sel : Nat → World → Bool → Prop) (sel : Nat → Bool) (Need : Nat → Prop) (w : World) (hN : N ≤ 1000) (hNd : ∀ j, Need j → j < w.heap.size)
    (hsel : ∀ x W, x < N → Below w.heap.size w W → Sel x W (sel x)) (hseq : ∀ W, Below w.heap.size w W → SeqB Try.prog g lb N Sel Need W) :
    Calls Try.prog 90 #[.slice none 0 0, .func (.func g) #[] lb] w fun e w' => ∃ C cp, e = .returned (.slice C (selL sel N).length cp) ∧ (selL sel N).length ≤ cp ∧ Ints w' C (selL sel N).length (selL sel N) ∧ (∀ a, C = some a → w.heap.size ≤ a.block) ∧ Below w.heap.size w w' := by
  have hb1 := below_alloc_ w (.cells #[.slice none 0 0] 23)
  have hr1 := heap_alloc_new_ w (.cells #[.slice none 0 0] 23)
  have hs1 : (w.alloc (.cells #[.slice none 0 0] 23)).heap.size = w.heap.size + 1 := by simp
  obtain ⟨w1, hw1⟩ : ∃ w1, w.alloc (.cells #[.slice none 0 0] 23) = w1 := ⟨_, rfl⟩
  rw [hw1] at hb1 hr1 hs1
  obtain ⟨b, hbn⟩ : ∃ b, w.heap.size = b := ⟨_, rfl⟩
  rw [hbn] at hr1 hs1
  have hsq := hseq w1 hb1
  have h0 : AqI b w1 (selL sel 0) (fun _ => False) w1 := ⟨⟨.slice none 0 0, hr1, ⟨rfl, .inl ⟨rfl, rfl⟩⟩, fun g e => by cases e⟩, Keeps.refl _ _⟩
  have Hw1 := Lib.hid hw1
  have H0 := Lib.hid h0
  have Hsq := Lib.hid hsq
  have Hbn := Lib.hid hbn
  have Hb1 := Lib.hid hb1
  have Hsel := Lib.hid hsel
  have HNd := Lib.hid (show ∀ j, Need j → j < b by rw [← hbn]; exact hNd)
  clear hw1 h0 hsq hbn hb1 hr1 hseq hNd hsel
  refine (callsIn_wide (n := 5)).1 ?_
  refine callsIn_of_wp_marks Try.func90 rfl trivial ?_ rfl
  simp only [Try.ntmps90, List.size_toArray, List.length_cons, List.length_nil, Nat.reduceAdd, Nat.reduceSub, Array.replicate_succ, Array.replicate_zero, List.push_toArray, List.append_toArray, List.nil_append, List.cons_append]
  gi_wp2_with fail
  try rw [Hw1.out]
  gi_wp2_with fail
  try rw [Hbn.out]
  refine wpIn_rangeB rfl eg Hsq.out (fun j e => by have := HNd.out j e; omega) rfl (fun j => j = b) (fun j e => ⟨by omega, fun h => by have := HNd.out j h; omega⟩)
    (fun x O U => AqI b w1 (selL sel x) O U) (fun _ _ _ _ => False) (fun x O U U' hI hK => hI.abide (by omega) (Nat.le_refl _) hK) (fun _ _ _ _ _ hI _ => hI) ?start ?round ?done ?stop
  case start => exact H0.out
  case stop => rintro D c x U O _ _ _ _ _ hI; exact hI.elim
  case done =>
    rintro D U O hD hDU hDO hOs hI hKd
    obtain ⟨v, h1, h2, h3⟩ := hI.ex
    have y0 : U.cell? ⟨b, 0, none⟩ = some v := by rw [cell_row h1]; rfl
    have hk := hI.keep
    have HKd := Lib.hid hKd
    have Hk := Lib.hid hk
    have H2 := Lib.hid h2
    have H3 := Lib.hid h3
    have HOs := Lib.hid hOs
    clear hI hKd hk h1 h2 h3 hOs
    gi_wp2_with fail
    refine ⟨by simp, .inl ⟨_, _, rfl, run_takeDeferred HKd.out, ?_⟩⟩
    have hp : Keeps (fun j => j = D) U (U.putObj D (.deferred none)) := Keeps.putObj _ _ _ rfl
    have hown := own_keep H2.out hp (fun j e e2 => hDO (by rw [← e2]; exact H3.out j e))
    obtain ⟨C, cp, e, hcap, hrgs, hblk⟩ := ints_own rfl hown
    subst e
    refine ⟨_, results_tmp rfl _ _ _, C, cp, rfl, hcap, hrgs, fun ad ha => ?_, ?_⟩
    · subst ha
      have h9 := (HOs.out _ (H3.out ad.block rfl)).1
      have := Hbn.out; omega
    · have hk9 : Keeps (fun j => j = b ∨ j = D) w1 (U.putObj D (.deferred none)) := (Hk.out.mono (fun _ _ e => .inl e)).trans (hp.mono (fun _ _ e => .inr e))
      exact Hb1.out.trans (hk9.below Hb1.out.size (fun j hj e => by have := Hbn.out; omega))
  case round =>
    intro l2 x U O hx hl1 hl2 hr hO hI
    have hbU : Below w.heap.size w U := Hb1.out.trans (hI.keep.below Hb1.out.size (fun j hj e => by have := Hbn.out; omega))
    refine ⟨sel x, Hsel.out x U hx hbU, fun hq => by rw [selL_no hq]; exact hI, fun hq W2 hK2 => ?_⟩
    have hyes := selL_yes hq
    have Hy := Lib.hid hyes
    have hl2W : l2 < W2.heap.size := Nat.lt_of_lt_of_le hl2 hK2.size
    clear hr hI hbU hyes
    intro mm
    simp only [nmE]
    gi_wp2_with fail
    refine ⟨Keeps.refl _ _, ?_⟩
    rintro w2 ⟨hk2, hs2, hr2⟩ hI2
    obtain ⟨v, h1, h2, h3⟩ := hI2.ex
    have y0 : w2.cell? ⟨b, 0, none⟩ = some v := by rw [cell_row h1]; rfl
    have hll := selL_len sel x
    obtain ⟨C, c, W1, hrun, o1, k1, d1⟩ := app_int h2 (x : Int) (by omega)
    have hvb : ∀ g, v.ownBlock = some g → w1.heap.size ≤ g ∧ g < w2.heap.size := fun g e => ⟨(hO g (h3 g e)).1, own_lt h2 g e⟩
    have h11 := (k1.block _ (lt_of_block h1) (fun e => by have := (hvb b e).1; omega)).trans h1
    have y1 : W1.cell? ⟨b, 0, none⟩ = some v := by rw [cell_row h11]; rfl
    have fS := fun o : Nat => frozen_row (k := o) h11
    have hkS := keeps_setCell W1 b 0 (.slice C ((selL sel x).length + 1) c)
    have o2 := own_keep o1 hkS (fun g e e2 => by
      rcases d1 g e with e3 | e3
      · have := (hvb g e3).1; omega
      · have := lt_of_block h1; omega)
    have hs3 := k1.size
    have hs4 := hkS.size
    have HF := Lib.hid (show ∃ O', Grow O O' w2 (W1.setCell ⟨b, 0, none⟩ (.slice C ((selL sel x).length + 1) c)) ∧ Keeps (fun k => k = b ∨ O k) w2 (W1.setCell ⟨b, 0, none⟩ (.slice C ((selL sel x).length + 1) c)) ∧ AqI b w1 (selL sel (x + 1)) O' (W1.setCell ⟨b, 0, none⟩ (.slice C ((selL sel x).length + 1) c)) from by
      refine ⟨fun j => O j ∨ (w2.heap.size ≤ j ∧ j < (W1.setCell ⟨b, 0, none⟩ (.slice C ((selL sel x).length + 1) c)).heap.size), ⟨fun k e => .inl e, fun k e => e⟩, (k1.mono (fun j _ e => .inr (h3 j e))).trans (hkS.mono (fun j _ e => .inl e)), ⟨⟨_, set_same 0 _ h11, ?_, fun g e => ?_⟩, ?_⟩⟩
      · rw [Hy.out, List.length_append]; exact o2
      · rcases d1 g e with e3 | e3
        · exact .inl (h3 g e3)
        · exact .inr ⟨e3.1, by omega⟩
      · have hkA : Keeps (fun j => w1.heap.size ≤ j ∨ j = b) w2 (W1.setCell ⟨b, 0, none⟩ (.slice C ((selL sel x).length + 1) c)) := (k1.mono (fun j _ e => .inl (hvb j e).1)).trans (hkS.mono (fun j _ e => .inr e))
        exact keeps_old3 hI2.keep hkA)
    clear hI2 h1 h2 h3 o1 k1 d1 h11 hkS o2 hvb hk2 hs2 hr2 hs3 hs4
    gi_wp2_with fail
    exact HF.out
theorem collect76 (g : FuncId) (lb : Array Value) (eg : ∀ args w, (callFunc g args).run Try.prog w = .ok (.enter g args) w) (N : Nat) (Sel : Nat → World → Bool → Prop) (sel : Nat → Bool) (Need : Nat → Prop) (w : World) (hN : N ≤ 1000) (hNd : ∀ j, Need j → j < w.heap.size)
    (hsel : ∀ x W, x < N → Below w.heap.size w W → Sel x W (sel x)) (hseq : ∀ W, Below w.heap.size w W → SeqB Try.prog g lb N Sel Need W) :
    Calls Try.prog 76 #[.func (.func g) #[] lb] w fun e w' => ∃ C cp, e = .returned (.slice C (selL sel N).length cp) ∧ (selL sel N).length ≤ cp ∧ Ints w' C (selL sel N).length (selL sel N) ∧ (∀ a, C = some a → w.heap.size ≤ a.block) ∧ Below w.heap.size w w' := by
  have K := Lib.hid (appSeq90 g lb eg N Sel sel Need w hN hNd hsel hseq)
  clear hsel hseq eg hNd
  go_enter Try.func76, Try.ntmps76
  go_wp2_with fail
  refine K.out.mono ?_
  rintro en w2 ⟨C, cp, rfl, h1, h2, h3, h4⟩
  have H2 := Lib.hid h2
  have H3 := Lib.hid h3
  have H4 := Lib.hid h4
  clear K h2 h3 h4
  go_wp2_with fail
  go_ret
  exact ⟨C, cp, rfl, h1, H2.out, H3.out, H4.out⟩
end Go.Proofs.Ytnodkgejggnehaa

namespace Go.Proofs.Ytnodkgejggnehaa
set_option linter.unusedSimpArgs false
set_option linter.unusedVariables false
open Go.RowKit Go.Shelf
attribute [local go_sem ↓] exec_app at_app
attribute [local go_sem] Oper.semAt_some
/-- The links of an item that are of another kind than ListNever. -/
def ikF (n : Nat) (zs : List Rg) (op : Nat → Bool) (J : List Nat) (l i : Nat) : Nat → Bool := fun k => decide (eN zs l k = i) && (kindS n zs op J k != 0)
def ikN (n : Nat) (zs : List Rg) (op : Nat → Bool) (J : List Nat) (l i : Nat) : List Int := selL (ikF n zs op J l i) n
/-- The kind of an item. -/
def ikS (n : Nat) (zs : List Rg) (op : Nat → Bool) (J : List Nat) (l i : Nat) : Int :=
  if (ikN n zs op J l i).length = 0 then 0 else if sizeF n zs (opX op (ikN n zs op J l i)) (lessJ J (ikN n zs op J l i)).length < sizeF n zs op J.length then 2 else 1
def ikL (n : Nat) (zs : List Rg) (op : Nat → Bool) (J : List Nat) (l c : Nat) : List Int := (List.range c).map (ikS n zs op J l)
theorem ikL_succ (n : Nat) (zs : List Rg) (op : Nat → Bool) (J : List Nat) (l c : Nat) : ikL n zs op J l (c + 1) = ikL n zs op J l c ++ [ikS n zs op J l c] := by simp [ikL, List.range_succ]
theorem ikL_len (n : Nat) (zs : List Rg) (op : Nat → Bool) (J : List Nat) (l c : Nat) : (ikL n zs op J l c).length = c := by simp [ikL]
theorem mem_selL {sel : Nat → Bool} {x : Nat} {y : Int} (h : y ∈ selL sel x) : ∃ k, k < x ∧ y = (k : Int) ∧ sel k = true := by
  unfold selL at h
  obtain ⟨k, hk, rfl⟩ := List.mem_map.1 h
  obtain ⟨h1, h2⟩ := List.mem_filter.1 hk
  exact ⟨k, List.mem_range.1 h1, rfl, h2⟩
theorem ikN_one {n : Nat} {zs : List Rg} {op : Nat → Bool} {J : List Nat} {pt : Nat → Int} {l i : Nat} (hz : ZOk n zs) (hc : Cons n zs pt) (hl : l < 2) : ∀ j k : Nat, j < n → k < n → (j : Int) ∈ ikN n zs op J l i → (k : Int) ∈ ikN n zs op J l i → pt (0 * 12 + eN zs 0 j) = (j : Int) → pt (0 * 12 + eN zs 0 k) = (k : Int) → j = k := by
  intro j k hj hk h1 h2 e1 e2
  have key : ∀ q : Nat, (q : Int) ∈ ikN n zs op J l i → eN zs l q = i := fun q hq => by
    obtain ⟨q2, _, e, hs⟩ := mem_selL hq
    obtain rfl : q = q2 := by omega
    unfold ikF at hs
    simp only [Bool.and_eq_true, decide_eq_true_eq] at hs
    exact hs.1
  have a1 := hc.both hz hj (l := 0) (by omega) e1 l hl
  have a2 := hc.both hz hk (l := 0) (by omega) e2 l hl
  rw [key j h1] at a1
  rw [key k h2] at a2
  omega
theorem SeqB.below {P : Program} {g : Nat} {lb : Array Value} {N : Nat} {Sel : Nat → World → Bool → Prop} {Need : Nat → Prop} {w W : World} (h : SeqB P g lb N Sel Need w) (hB : Below w.heap.size w W) : SeqB P g lb N Sel Need W :=
  fun l Mut J Jx X hX => h l Mut J Jx X ((Keeps.of_new hB).trans hX)
theorem used75 (Z : Nat) (CK : Option Addr) (n cp : Nat) (ls : List Int) (k : Nat) (w : World) (hz : w.cell? ⟨Z, 0, none⟩ = some (.slice CK n cp)) (hI : Ints w CK n ls) (hk : k < n) :
    Calls Try.prog 75 #[.int .i64 (k : Int), .pointer (some ⟨Z, 0, none⟩)] w fun e w' => e = .returned (.bool (iAt ls k != 0)) ∧ Below w.heap.size w w' := by
  obtain ⟨b, o, rfl, hc⟩ := hI.2 (by omega)
  have z0 := hc k hk
  have i0 : (0 : Int) ≤ (k : Int) := by omega
  have i1 : (k : Int) < (n : Int) := by omega
  obtain ⟨g, hg⟩ : ∃ g, iAt ls k = g := ⟨_, rfl⟩
  rw [hg] at z0
  clear hI hc
  go_enter Try.func75, Try.ntmps75
  go_wp2_with fail
  go_ret
  exact ⟨by rw [hg]; rfl, Below.refl _ _⟩
set_option maxRecDepth 100000 in
set_option maxHeartbeats 16000000 in
theorem itemKinds55 (B : Nat) (sl sr : Int) (A : Option Addr) (n cap : Nat) (zs : List Rg) (A2 : Option Addr) (kn kc : Nat) (ks : List Int) (pt : Nat → Int) (op : Nat → Bool) (M : Nat) (lk : Nat → Bool) (J : List Nat) (c0 l c : Nat) (w : World) (h : Brd w B sl sr A n cap zs A2 kn kc ks pt op (.map (some M))) (hm : LM w M lk) (hgb : GB n zs op pt J) (hn : n ≤ 40) (hz : ZOk n zs) (hc0 : sl = (c0 : Int)) (hc12 : c0 ≤ 12) (he : ∀ k, k < n → eN zs 0 k < c0) (hl : l < 2) (hc : (c : Int) = if l = 0 then sl else sr) (hcc : c ≤ 12) :
    Calls Try.prog 55 #[.pointer (some ⟨B, 0, none⟩), .int .i64 (l : Int)] w fun e w' => ∃ CR cr, e = .returned (.slice CR c cr) ∧ c ≤ cr ∧ Ints w' CR c (ikL n zs op J l c) ∧ (∀ a, CR = some a → w.heap.size ≤ a.block) ∧ Keeps (fun j => j = M) w w' := by
  have k53 := kinds53 B sl sr A n cap zs A2 kn kc ks pt op M lk J c0 w h hm hgb hn hz hc0 hc12 he
  have hMw := hm.lt
  have K53 := Lib.hid k53
  have Hbo := Lib.hid h
  have Hlm := Lib.hid hm
  have Hg := Lib.hid hgb
  have Hz := Lib.hid hz
  have Hc0 := Lib.hid hc0
  have He := Lib.hid he
  have Hc := Lib.hid hc
  clear h hm hgb hz hc0 he hc k53
  go_enter Try.func55, Try.ntmps55
  go_wp2_with fail
  refine K53.out.mono ?_
  rintro en w1 ⟨lk1, CK, cpk, rfl, hcpk, hIK, hCK, hm1, hk1⟩
  have hbA := below_alloc_ w1 (.cells #[.slice CK n cpk] 23)
  have hrA := heap_alloc_new_ w1 (.cells #[.slice CK n cpk] 23)
  obtain ⟨w2, hw2⟩ : ∃ w2, w1.alloc (.cells #[.slice CK n cpk] 23) = w2 := ⟨_, rfl⟩
  obtain ⟨Z, hZ⟩ : ∃ Z, w1.heap.size = Z := ⟨_, rfl⟩
  rw [hw2] at hbA hrA
  rw [hZ] at hrA
  have hb1 := Hbo.out.keepM Hlm.out hk1
  have hwZ : w.heap.size ≤ Z := by have := hk1.size; omega
  have hMZ : M < Z := by omega
  have hb2 := hb1.below hbA (Nat.le_refl _)
  have k67 := items67 B sl sr A n cap zs A2 kn kc ks pt op (.map (some M)) l c w2 hb2 hl Hc.out (by omega)
  have K67 := Lib.hid k67
  have Hb2 := Lib.hid hb2
  have Hm2 := Lib.hid (hm1.below hbA)
  have Hk2 := Lib.hid (hk1.trans (Keeps.of_new hbA))
  have HIK := Lib.hid (hIK.below hbA (Nat.le_refl _))
  have HCK := Lib.hid hCK
  have Hr2 := Lib.hid hrA
  have HW2 := Lib.hid hw2
  have HZ := Lib.hid hZ
  have HW2s := Lib.hid (show Z ≤ w2.heap.size ∧ w.heap.size ≤ w2.heap.size from ⟨by have := lt_of_block Hr2.out; omega, by have := lt_of_block Hr2.out; omega⟩)
  clear K53 hIK hCK hm1 hk1 hbA hrA hw2 hZ hb1 hb2 k67
  go_wp2_with fail
  try rw [HW2.out]
  try rw [HZ.out]
  try go_wp2_with fail
  refine K67.out.mono ?_
  rintro en w3 ⟨⟨C, cp, rfl, hcp, hrC, hCn⟩, hb3⟩
  have HrC := Lib.hid hrC
  have HCn := Lib.hid hCn
  have Hb3 := Lib.hid (Hb2.out.below hb3 (Nat.le_refl _))
  have Hm3 := Lib.hid (Hm2.out.below hb3)
  have Hk3 := Lib.hid (Hk2.out.trans (Keeps.of_new hb3))
  have HI3 := Lib.hid (HIK.out.below hb3 (Nat.le_refl _))
  have Hr3 := Lib.hid ((hb3.block _ (lt_of_block Hr2.out)).trans Hr2.out)
  have hlC := hrC.1
  clear K67 hrC hCn hb3 Hb2 Hm2 Hk2 HIK Hr2
  go_wp2_with fail
  go_loopw [7, 9, 10, 18] (fun v s p i wr => ∃ q : Nat, q ≤ c ∧ i = .int .i64 (q : Int) ∧ Hid (wr.ownsRow 0 3 1 v q (flatI (ikL n zs op J l q)) ∧ (∀ j, (v : Value).ownBlock = some j → w.heap.size ≤ j ∧ j ≠ Z ∧ (0 < n → ∀ a : Addr, CK = some a → j ≠ a.block) ∧ (0 < c → ∀ a : Addr, C = some a → j ≠ a.block)) ∧ (∃ lk', LM wr M lk') ∧ Keeps (fun j => j = M) w wr ∧ wr.heap[Z]? = some (.cells #[.slice CK n cpk] 23 (0, 0)) ∧ Ints wr CK n (kindsK n zs op J n) ∧ Rgs wr C c (itS l c))) (fun v s p i _ => c - (intOf i).toNat)
  case atStart => exact ⟨0, by omega, rfl, Lib.hid ⟨⟨rfl, .inl ⟨rfl, rfl⟩⟩, fun j e => (by cases e), ⟨_, Hm3.out⟩, Hk3.out, Hr3.out, HI3.out, HrC.out⟩⟩
  case round =>
    obtain ⟨q, hq9, rfl, HV⟩ := hrel
    obtain ⟨wk, rfl⟩ : ∃ wk, wk = wr := ⟨_, rfl⟩
    by_cases hlt : q < c
    · obtain ⟨hown, hnew, ⟨lkq, hmq⟩, hkq, hrq, hiq, hsq⟩ := HV.out
      have hsq0 := hsq
      obtain ⟨bz, oz, ez, hcz⟩ := hsq.2 (by omega)
      obtain ⟨z0, z1⟩ := hcz q hlt
      rw [itS_at hlt] at z0 z1
      simp only at z0 z1
      subst ez
      have Hsq0 := Lib.hid hsq0
      clear hcz hsq hsq0
      have i0 : (0 : Int) ≤ (q : Int) := by omega
      have i1 : (q : Int) < (c : Int) := by omega
      have hbV := below_alloc_ wk (.cells #[.int .i64 (l : Int), .int .i64 (q : Int)] 100)
      have hrV := heap_alloc_new_ wk (.cells #[.int .i64 (l : Int), .int .i64 (q : Int)] 100)
      go_upto_region 7 with fail
      obtain ⟨V, hV⟩ : ∃ V, wk.alloc (.cells #[.int .i64 (l : Int), .int .i64 (q : Int)] 100) = V := ⟨_, rfl⟩
      obtain ⟨P, hP⟩ : ∃ P, wk.heap.size = P := ⟨_, rfl⟩
      rw [hV] at hbV hrV ⊢
      rw [hP] at hrV ⊢
      have p0 : V.cell? ⟨P, 0, none⟩ = some (.int .i64 (l : Int)) := by rw [cell_row hrV]; rfl
      have p1 : V.cell? ⟨P, 1, none⟩ = some (.int .i64 (q : Int)) := by rw [cell_row hrV]; rfl
      have HO := Lib.hid (own_keep (Mut := fun _ => False) hown (Keeps.of_new hbV) (fun _ _ e => e))
      have HNw := Lib.hid hnew
      have HmV := Lib.hid (hmq.below hbV)
      have HkV := Lib.hid (hkq.trans (Keeps.of_new hbV))
      have HbV := Lib.hid (Hbo.out.keepM Hlm.out (hkq.trans (Keeps.of_new hbV)))
      have HrqV := Lib.hid ((hbV.block _ (lt_of_block hrq)).trans hrq)
      have HiV := Lib.hid (hiq.below hbV (Nat.le_refl _))
      have HsV := Lib.hid (Hsq0.out.below hbV (Nat.le_refl _))
      have k77 := links77 B sl sr A n cap zs A2 kn kc ks pt op (.map (some M)) l q 75 #[] #[.pointer (some ⟨Z, 0, none⟩)] (enters_of Try.func75 (by kernel_rfl) rfl) V HbV.out hl (by omega) hn
      have K77 := Lib.hid k77
      clear HV hown hnew hmq hkq hrq hiq z0 z1 hbV hrV hV hP k77
      go_wp2_with fail
      refine K77.out.mono ?_
      rintro en w4 ⟨b1, rfl, hb1e, hs4, hb4, hseq⟩
      have hb14 : ∀ W, Below w4.heap.size w4 W → Below V.heap.size V W := fun W hW => hb4.trans (hW.mono hb4.size)
      have k76 := collect76 91 #[.pointer (some ⟨b1, 0, none⟩), .pointer (some ⟨b1 + 1, 0, none⟩), .pointer (some ⟨b1 + 2, 0, none⟩)] (enters_of Try.func91 (by kernel_rfl) rfl) n (fun k W q9 => LSel B sl sr A n cap zs A2 kn kc ks (.map (some M)) l q 75 #[] #[.pointer (some ⟨Z, 0, none⟩)] k W q9) (ikF n zs op J l q) (fun k => k = b1 ∨ k = b1 + 1 ∨ k = b1 + 2) w4 (by omega) (fun j e => by omega)
        (fun x W hx hW => ⟨pt, op, HbV.out.below (hb14 W hW) (Nat.le_refl _), fun he W2 hK2 => by
          have hVW := (Keeps.of_new (Mut := fun _ => False) (hb14 W hW)).trans hK2
          have h75 := used75 Z CK n cpk (kindsK n zs op J n) x W2 (by rw [cell_row ((hVW.block _ (lt_of_block HrqV.out) (fun e => e)).trans HrqV.out)]; rfl) (HiV.out.keepN hVW (fun _ _ _ e => e)) hx
          rw [kindsK_at hx] at h75
          rw [Hz.out.end_eq hx] at he
          have he2 : decide (eN zs l x = q) = true := decide_eq_true (by omega)
          have e9 : ikF n zs op J l q x = (kindS n zs op J x != 0) := by unfold ikF; rw [he2]; rfl
          rw [e9]
          exact h75, fun hne => by
          rw [Hz.out.end_eq hx] at hne
          unfold ikF
          rw [decide_eq_false (fun e => hne (by rw [e]))]; rfl⟩)
        (fun W hW => hseq.below hW)
      have K76 := Lib.hid k76
      have Hb4 := Lib.hid hb4
      have Hb1e := Lib.hid hb1e
      have Hs4 := Lib.hid hs4
      clear hb1e hs4
      clear K77 hseq k76 p0 p1 hb14 hb4
      go_wp2_with fail
      refine K76.out.mono ?_
      rintro en w5 ⟨CN, cn, rfl, hcn, hIN, hCN, hb5⟩
      have hbN := hb5
      have NEXT := Lib.hid (show ∀ (W' : World) (val : Int), Keeps (fun j => j = M) V W' → (∃ lk', LM W' M lk') → ikS n zs op J l q = val → ∃ C9 c9 W1, runA Try.prog 23 u7 (.slice (some ⟨W'.heap.size, 0, none⟩) 1 1) (W'.alloc (.cells #[.int .i64 val] 3)) = .ok (.value (.slice C9 (q + 1) c9)) W1 ∧ W1.ownsRow 0 3 1 (.slice C9 (q + 1) c9) (q + 1) (flatI (ikL n zs op J l (q + 1))) ∧ (∀ j, ((.slice C9 (q + 1) c9) : Value).ownBlock = some j → w.heap.size ≤ j ∧ j ≠ Z ∧ (0 < n → ∀ a : Addr, CK = some a → j ≠ a.block) ∧ (0 < c → ∀ a : Addr, (some (⟨bz, oz, none⟩ : Addr)) = some a → j ≠ a.block)) ∧ (∃ lk', LM W1 M lk') ∧ Keeps (fun j => j = M) w W1 ∧ W1.heap[Z]? = some (.cells #[.slice CK n cpk] 23 (0, 0)) ∧ Ints W1 CK n (kindsK n zs op J n) ∧ Rgs W1 (some (⟨bz, oz, none⟩ : Addr)) c (itS l c) from by
        rintro W' val hkW ⟨lk', hmW⟩ hval
        have hMV := HmV.out.lt
        have own' := own_keep HO.out hkW (fun g e e2 => by have := (HNw.out g e).1; omega)
        have hi' := HiV.out.keepN hkW (fun h0 a e e2 => HCK.out a e |> fun h => by omega)
        have hs' := HsV.out.keepN hkW (fun h0 a e e2 => by cases e; have h9 := HCn.out _ rfl; have h8 := HW2s.out; change bz = M at e2; change w2.heap.size ≤ bz at h9; omega)
        have hz' := (hkW.block _ (lt_of_block HrqV.out) (by omega)).trans HrqV.out
        obtain ⟨C9, c9, W1, r1, o1, k1, d1⟩ := app_int own' val (by omega)
        have hwW : w.heap.size ≤ W'.heap.size := Nat.le_trans HkV.out.size hkW.size
        refine ⟨C9, c9, W1, r1, by rw [ikL_succ, hval]; exact o1, fun j e => ?_, ⟨lk', hmW.keep k1 (fun e => by have := (HNw.out M e).1; omega)⟩, keeps_old3 (HkV.out.trans hkW) (k1.mono (fun j _ e => .inl (HNw.out j e).1)), (k1.block _ (lt_of_block hz') (fun e => (HNw.out Z e).2.1 rfl)).trans hz', hi'.keepN k1 (fun h0 a e e2 => (HNw.out a.block e2).2.2.1 h0 a e rfl), hs'.keepN k1 (fun h0 a e e2 => (HNw.out a.block e2).2.2.2 h0 a e rfl)⟩
        rcases d1 j e with e3 | e3
        · exact HNw.out j e3
        · refine ⟨by omega, fun e4 => by have := lt_of_block hz'; omega, fun h0 a e4 e5 => ?_, fun h0 a e4 e5 => ?_⟩
          · obtain ⟨b9, o9, e6, hc9⟩ := hi'.2 h0
            rw [e6] at e4; cases e4
            have := lt_of_cell (hc9 0 h0)
            change j = b9 at e5; omega
          · obtain ⟨b9, o9, e6, hc9⟩ := hs'.2 h0
            rw [e6] at e4; cases e4
            have := lt_of_cell (hc9 0 h0).1
            change j = b9 at e5; omega)
      have hkN := (Keeps.of_new (Mut := fun j => j = M) Hb4.out).trans (Keeps.of_new hb5)
      have HkN := Lib.hid hkN
      have HmN := Lib.hid ((HmV.out.below Hb4.out).below hb5)
      obtain ⟨ns, hns⟩ : ∃ ns, ikN n zs op J l q = ns := ⟨_, rfl⟩
      have hnm : NmOk n ns := fun x hx => by
        rw [← hns] at hx
        obtain ⟨k, h1, h2, _⟩ := mem_selL hx
        exact ⟨k, h1, h2⟩
      have hlen : ns.length ≤ 40 := by rw [← hns]; exact Nat.le_trans (selL_len _ _) hn
      have h1j := ikN_one (J := J) (op := op) (i := q) Hz.out Hg.out.cons hl
      rw [hns] at h1j
      rw [show selL (ikF n zs op J l q) n = ns from hns] at hcn hIN ⊢
      obtain ⟨m, hm9⟩ : ∃ m, ns.length = m := ⟨_, rfl⟩
      rw [hm9] at hcn hIN hlen ⊢
      have Hik := Lib.hid (show ikS n zs op J l q = if m = 0 then 0 else if sizeF n zs (opX op ns) (lessJ J ns).length < sizeF n zs op J.length then 2 else 1 by unfold ikS; rw [hns, hm9])
      have HIN := Lib.hid hIN
      have Hnm := Lib.hid hnm
      have H1j := Lib.hid h1j
      clear hns hm9 hIN hnm h1j hCN hb5 hbN hkN K76 Hb4
      by_cases h0 : m = 0
      · have d0 : ((m : Int) == 0) = true := by rw [beq_iff_eq]; omega
        have hv : ikS n zs op J l q = 0 := by rw [Hik.out, if_pos h0]
        obtain ⟨C9, c9, W1, r1, HI⟩ := NEXT.out w5 0 HkN.out ⟨_, HmN.out⟩ hv
        have HI2 := Lib.hid HI
        clear HI hv h0
        go_wp2_with fail
        go_roundw
        case rel => exact ⟨q + 1, by omega, by go_num, HI2⟩
        case measure => simp [intOf]; omega
      · have d0 : ((m : Int) == 0) = false := by rw [beq_eq_false_iff_ne]; omega
        have hb5 := Hbo.out.keepM Hlm.out (HkV.out.trans HkN.out)
        have k78 := without78 B sl sr A n cap zs A2 kn kc ks pt op M lkq J CN m cn ns w5 hb5 HmN.out Hg.out hn Hz.out HIN.out hlen Hnm.out H1j.out
        have K78 := Lib.hid k78
        have Hb5 := Lib.hid hb5
        clear k78 hb5 HIN Hnm H1j
        go_wp2_with fail
        refine K78.out.mono ?_
        rintro en w6 ⟨C2, pt2, lk2, rfl, hC2, hb6, hm6, hg6, hk6⟩
        obtain ⟨s0, hs0⟩ : ∃ s, sizeF n zs op J.length = s := ⟨_, rfl⟩
        obtain ⟨s1, hs1⟩ : ∃ s, sizeF n zs (opX op ns) (lessJ J ns).length = s := ⟨_, rfl⟩
        have k79 := size79 C2 sl sr A n cap zs A2 kn kc ks pt2 (opX op ns) (.map (some M)) c0 w6 hb6 Hc0.out hc12
        rw [gb_size Hz.out hg6 hc12 He.out, show (J.filter fun (q : Nat) => !decide ((q : Int) ∈ ns)) = lessJ J ns from rfl, hs1] at k79
        have K79 := Lib.hid k79
        have Hk6 := Lib.hid (HkN.out.trans hk6)
        have Hb6 := Lib.hid (Hb5.out.keepM HmN.out hk6)
        have Hm6 := Lib.hid hm6
        have Hs0 := Lib.hid hs0
        have Hs1 := Lib.hid hs1
        clear K78 k79 hb6 hm6 hg6 hk6 hs0 hs1 hC2 Hb5 HkN HmN
        go_wp2_with fail
        refine K79.out.mono ?_
        rintro en w7 ⟨rfl, hb7⟩
        have k79 := size79 B sl sr A n cap zs A2 kn kc ks pt op (.map (some M)) c0 w7 (Hb6.out.below hb7 (Nat.le_refl _)) Hc0.out hc12
        rw [gb_size Hz.out Hg.out hc12 He.out, Hs0.out] at k79
        have K79b := Lib.hid k79
        have Hk7 := Lib.hid (Hk6.out.trans (Keeps.of_new hb7))
        have Hm7 := Lib.hid (Hm6.out.below hb7)
        clear K79 k79 hb7 Hk6 Hm6 Hb6
        go_wp2_with fail
        refine K79b.out.mono ?_
        rintro en w8 ⟨rfl, hb8⟩
        have Hk8 := Lib.hid (Hk7.out.trans (Keeps.of_new hb8))
        have Hm8 := Lib.hid (Hm7.out.below hb8)
        clear K79b hb8 Hk7 Hm7
        by_cases hcmp : s1 < s0
        · have d1 : (s1 : Int) < (s0 : Int) := by omega
          have hv : ikS n zs op J l q = 2 := by rw [Hik.out, if_neg h0, Hs1.out, Hs0.out, if_pos hcmp]
          obtain ⟨C9, c9, W1, r1, HI⟩ := NEXT.out w8 2 Hk8.out ⟨_, Hm8.out⟩ hv
          have HI2 := Lib.hid HI
          clear HI hv h0 hcmp
          go_wp2_with fail
          go_roundw
          case rel => exact ⟨q + 1, by omega, by go_num, HI2⟩
          case measure => simp [intOf]; omega
        · have d1 : (s0 : Int) ≤ (s1 : Int) := by omega
          have hv : ikS n zs op J l q = 1 := by rw [Hik.out, if_neg h0, Hs1.out, Hs0.out, if_neg hcmp]
          obtain ⟨C9, c9, W1, r1, HI⟩ := NEXT.out w8 1 Hk8.out ⟨_, Hm8.out⟩ hv
          have HI2 := Lib.hid HI
          clear HI hv h0 hcmp
          go_wp2_with fail
          go_roundw
          case rel => exact ⟨q + 1, by omega, by go_num, HI2⟩
          case measure => simp [intOf]; omega
    · obtain rfl : c = q := by omega
      obtain ⟨hown, hnew, -, hkq, -, -, -⟩ := HV.out
      obtain ⟨CR, cr, rfl, hcr, hI, -⟩ := ints_own (ikL_len n zs op J l c) hown
      have HI := Lib.hid hI
      have HC9 := Lib.hid (show ∀ a, CR = some a → w.heap.size ≤ a.block from fun a ha => (hnew a.block (by rw [ha]; rfl)).1)
      have Hkq := Lib.hid hkq
      clear HV hown hnew hkq hI
      go_wp2_with fail
      go_ret
      exact ⟨CR, cr, rfl, hcr, HI.out, HC9.out, Hkq.out⟩
end Go.Proofs.Ytnodkgejggnehaa

namespace Go.Proofs.Ytnodkgejggnehaa
set_option linter.unusedSimpArgs false
set_option linter.unusedVariables false
open Go.RowKit Go.Shelf
set_option maxRecDepth 100000 in
set_option maxHeartbeats 16000000 in
theorem items27_bad (sl sr : Int) (A : Option Addr) (n cap : Nat) (zs : List Rg) (A2 : Option Addr) (kn kc : Nat) (ks : List Int) (rt : Bool) (w : World) (h : Rgs w A n zs) (hI : Ints w A2 kn ks) (hc9 : n ≤ cap) (hn : n ≤ 1000000) (hk : kn ≤ 100000) (he : chkS sl sr zs ks ≠ 0) :
    Calls Try.prog 27 #[.agg #[.int .i64 sl, .int .i64 sr, .slice A n cap, .slice A2 kn kc], .bool rt] w fun e w' => e = .returned (.tuple #[.slice none 0 0, .int .i64 (chkS sl sr zs ks)]) ∧ Below w.heap.size w w' := by
  have hb0 := below_alloc_ w (.cells #[.int .i64 sl, .int .i64 sr, .slice A n cap, .slice A2 kn kc] 25)
  have hr0 := heap_alloc_new_ w (.cells #[.int .i64 sl, .int .i64 sr, .slice A n cap, .slice A2 kn kc] 25)
  obtain ⟨w0, hW0⟩ : ∃ w0, w.alloc (.cells #[.int .i64 sl, .int .i64 sr, .slice A n cap, .slice A2 kn kc] 25) = w0 := ⟨_, rfl⟩
  obtain ⟨R, hR⟩ : ∃ R, w.heap.size = R := ⟨_, rfl⟩
  rw [hW0] at hb0 hr0
  have k50 := join50_bad sl sr A n cap zs A2 kn kc ks w0 (h.below hb0 (Nat.le_refl _)) (hI.below hb0 (Nat.le_refl _)) hc9 hn hk he
  rw [hR] at hr0
  have x0 : w0.cell? ⟨R, 0, none⟩ = some (.int .i64 sl) := by rw [cell_row hr0]; rfl
  have x1 : w0.cell? ⟨R, 1, none⟩ = some (.int .i64 sr) := by rw [cell_row hr0]; rfl
  have x2 : w0.cell? ⟨R, 2, none⟩ = some (.slice A n cap) := by rw [cell_row hr0]; rfl
  have x3 : w0.cell? ⟨R, 3, none⟩ = some (.slice A2 kn kc) := by rw [cell_row hr0]; rfl
  have K50 := Lib.hid k50
  have HB := Lib.hid hb0
  have HW0 := Lib.hid hW0
  have HR := Lib.hid hR
  have Hne := Lib.hid he
  clear h hI hb0 hr0 hW0 hR k50
  go_enter Try.func27, Try.ntmps27
  go_wp2_with fail
  try rw [HW0.out]
  try rw [HR.out]
  try go_wp2_with fail
  refine K50.out.mono ?_
  rintro en w1 ⟨rfl, hb1⟩
  have HB1 := Lib.hid (HB.out.trans (hb1.mono HB.out.size))
  clear K50 hb1 x0 x1 x2 x3 he
  have d1 : (chkS sl sr zs ks != 0) = true := by rw [bne_iff_ne]; exact Hne.out
  obtain ⟨q, hq⟩ : ∃ q, chkS sl sr zs ks = q := ⟨_, rfl⟩
  rw [hq] at d1 ⊢
  have Hq := Lib.hid hq
  clear hq
  go_wp2_with fail
  go_ret2
  exact ⟨by rw [Hq.out]; rfl, HB1.out⟩
set_option maxRecDepth 100000 in
set_option maxHeartbeats 16000000 in
theorem items27 (sl sr : Int) (A : Option Addr) (n cap : Nat) (zs : List Rg) (A2 : Option Addr) (kn kc : Nat) (ks : List Int) (rt : Bool) (w : World) (h : Rgs w A n zs) (hI : Ints w A2 kn ks) (hc9 : n ≤ cap) (hn : n ≤ 1000000) (hk : kn ≤ 100000) (he : chkS sl sr zs ks = 0) :
    Calls Try.prog 27 #[.agg #[.int .i64 sl, .int .i64 sr, .slice A n cap, .slice A2 kn kc], .bool rt] w fun e w' => ∃ C c cp, (if rt = true then sr else sl) = ((c : Nat) : Int) ∧ e = .returned (.tuple #[.slice C c cp, .int .i64 0]) ∧ c ≤ cp ∧ Ints w' C c (ikL n zs (opnL n zs ks) (kNt ks) (if rt = true then 1 else 0) c) ∧ (∀ a, C = some a → w.heap.size ≤ a.block) ∧ Below w.heap.size w w' := by
  have hb0 := below_alloc_ w (.cells #[.int .i64 sl, .int .i64 sr, .slice A n cap, .slice A2 kn kc] 25)
  have hr0 := heap_alloc_new_ w (.cells #[.int .i64 sl, .int .i64 sr, .slice A n cap, .slice A2 kn kc] 25)
  obtain ⟨w0, hW0⟩ : ∃ w0, w.alloc (.cells #[.int .i64 sl, .int .i64 sr, .slice A n cap, .slice A2 kn kc] 25) = w0 := ⟨_, rfl⟩
  obtain ⟨R, hR⟩ : ∃ R, w.heap.size = R := ⟨_, rfl⟩
  rw [hW0] at hb0 hr0
  have k50 := join50 sl sr A n cap zs A2 kn kc ks w0 (h.below hb0 (Nat.le_refl _)) (hI.below hb0 (Nat.le_refl _)) hc9 hn hk he
  rw [hR] at hr0
  have x0 : w0.cell? ⟨R, 0, none⟩ = some (.int .i64 sl) := by rw [cell_row hr0]; rfl
  have x1 : w0.cell? ⟨R, 1, none⟩ = some (.int .i64 sr) := by rw [cell_row hr0]; rfl
  have x2 : w0.cell? ⟨R, 2, none⟩ = some (.slice A n cap) := by rw [cell_row hr0]; rfl
  have x3 : w0.cell? ⟨R, 3, none⟩ = some (.slice A2 kn kc) := by rw [cell_row hr0]; rfl
  have K50 := Lib.hid k50
  have HB := Lib.hid hb0
  have HW0 := Lib.hid hW0
  have HR := Lib.hid hR
  have hsg := shg_of he
  have hzl := h.1
  have Hsg := Lib.hid hsg
  have Hzl := Lib.hid hzl
  clear hsg hzl he
  clear h hI hb0 hr0 hW0 hR k50
  go_enter Try.func27, Try.ntmps27
  go_wp2_with fail
  try rw [HW0.out]
  try rw [HR.out]
  try go_wp2_with fail
  refine K50.out.mono ?_
  rintro en w1 ⟨B, M, pt, lk, rfl, hB, hM, hb, hm, hgb, hb1⟩
  have hz : ZOk n zs := by rw [← Hzl.out]; exact Hsg.out.zok
  have hn40 : n ≤ 40 := by have := Hsg.out.n40; have := Hzl.out; omega
  obtain ⟨c, hc, hc12⟩ : ∃ c : Nat, sl = (c : Int) ∧ c ≤ 12 := ⟨sl.toNat, by have := Hsg.out.rng; omega, by have := Hsg.out.rng; omega⟩
  have he0 : ∀ k, k < n → eN zs 0 k < c := fun k hk => by have := Hsg.out.e0 k (by rw [Hzl.out]; exact hk); omega
  obtain ⟨d, hd, hd12⟩ : ∃ d : Nat, sr = (d : Int) ∧ d ≤ 12 := ⟨sr.toNat, by have := Hsg.out.rng; omega, by have := Hsg.out.rng; omega⟩
  have HMs := Lib.hid hM
  have HB1 := Lib.hid (HB.out.trans (hb1.mono HB.out.size))
  have Hb := Lib.hid hb
  have Hm := Lib.hid hm
  have Hgb := Lib.hid hgb
  have Hz := Lib.hid hz
  have Hc := Lib.hid hc
  have Hd := Lib.hid hd
  have He0 := Lib.hid he0
  clear K50 hb1 x0 x1 x2 x3 hb hm hgb hz hc hd he0 hM hB
  rcases rt with _ | _
  · skip
    have k55 := itemKinds55 B sl sr A n cap zs A2 kn kc ks pt (opnL n zs ks) M lk (kNt ks) c 0 c w1 Hb.out Hm.out Hgb.out hn40 Hz.out Hc.out hc12 He0.out (by omega) (by rw [if_pos rfl]; exact Hc.out.symm) (by omega)
    simp only [Int.natCast_zero, Int.natCast_one] at k55
    have K55 := Lib.hid k55
    clear k55
    go_wp2_with fail
    refine K55.out.mono ?_
    rintro en w2 ⟨C, cp, rfl, hcp, hi, hC, hk2⟩
    have HI2 := Lib.hid hi
    have HC := Lib.hid hC
    have H2 := Lib.hid (show Below w.heap.size w w2 from HB1.out.trans (hk2.below HB1.out.size (fun j hj e => by have := HMs.out; have := HB.out.size; omega)))
    clear K55 hi hC hk2
    go_wp2_with fail
    go_ret2
    exact ⟨C, c, Hc.out, cp, rfl, hcp, HI2.out, fun a e => by have := HC.out a e; have := HB1.out.size; omega, H2.out⟩
  · skip
    have k55 := itemKinds55 B sl sr A n cap zs A2 kn kc ks pt (opnL n zs ks) M lk (kNt ks) c 1 d w1 Hb.out Hm.out Hgb.out hn40 Hz.out Hc.out hc12 He0.out (by omega) (by rw [if_neg (by omega)]; exact Hd.out.symm) (by omega)
    simp only [Int.natCast_zero, Int.natCast_one] at k55
    have K55 := Lib.hid k55
    clear k55
    go_wp2_with fail
    refine K55.out.mono ?_
    rintro en w2 ⟨C, cp, rfl, hcp, hi, hC, hk2⟩
    have HI2 := Lib.hid hi
    have HC := Lib.hid hC
    have H2 := Lib.hid (show Below w.heap.size w w2 from HB1.out.trans (hk2.below HB1.out.size (fun j hj e => by have := HMs.out; have := HB.out.size; omega)))
    clear K55 hi hC hk2
    go_wp2_with fail
    go_ret2
    exact ⟨C, d, Hd.out, cp, rfl, hcp, HI2.out, fun a e => by have := HC.out a e; have := HB1.out.size; omega, H2.out⟩
end Go.Proofs.Ytnodkgejggnehaa
