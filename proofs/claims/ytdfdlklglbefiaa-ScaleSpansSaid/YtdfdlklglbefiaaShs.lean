/- Stage 3: short and fewest. -/
import Derived.Test.YtdfdlklglbefiaaSor
import Derived.Test.YtdfdlklglbefiaaApa
namespace Go.Proofs.Ytdfdlklglbefiaa
set_option linter.unusedSimpArgs false
set_option linter.unusedVariables false
open Go.RowKit Go.Shelf Go.Sort
attribute [local go_sem ↓] exec_app

/-- A list of numbers, sorted. -/
def srtL (l : List Int) : List Int := l.mergeSort fun x y => decide (x ≤ y)
theorem srtL_perm (l : List Int) : (srtL l).Perm l := List.mergeSort_perm _ _
theorem srtL_len (l : List Int) : (srtL l).length = l.length := (srtL_perm l).length_eq
theorem srtL_sorted (l : List Int) : (srtL l).Pairwise (· ≤ ·) := by
  have h := List.pairwise_mergeSort (le := fun x y : Int => decide (x ≤ y)) (fun a b c h1 h2 => by simp at *; omega) (fun a b => by simp; omega) l
  exact h.imp (fun hh => by simpa using hh)
theorem holds_own {W : World} {e : TypeId} {g n cp : Nat} {l : List Int} (hl : l.length = n) (h : W.ownsRow 0 e 1 (.slice (some ⟨g, 0, none⟩) n cp) n (flatI l)) : Holds (Value.int .i64) W g 0 l.toArray := by
  subst hl
  rcases h.2 with ⟨e1, _⟩ | ⟨g', cap, cur, e1, hb, hg, hc, _, hsz, htake⟩
  · cases e1
  · cases e1
    intro j hj
    simp only [List.size_toArray] at hj
    rw [Nat.zero_add]
    refine ⟨?_, frozen_row hg⟩
    rw [cell_row hg, ← Array.getElem?_toList, ← List.getElem?_take_of_lt (show j < l.length * 1 by omega), htake]
    simp [flatI, hj]
theorem keeps_grow (W : World) (os : Array Obj) : Keeps (fun _ => False) W (grow W os) := ⟨rfl, rfl, rfl, by simp [grow], fun k hk _ => by simp [grow, Array.getElem?_append_left hk]⟩
theorem keeps_putRow (W : World) (n g : Nat) (d : Array Int) : Keeps (fun k => k = g) W (putRow (Value.int .i64) (Sort.ahead W n) g 0 d) := by
  refine ⟨rfl, rfl, rfl, ?_, fun k hk hm => ?_⟩
  · rw [size_putRow]; exact Nat.le_refl _
  · have hne : ¬ g = k := fun e => hm e.symm
    simp [putRow, mapBlock, Sort.ahead, Array.getElem?_modify, hne]
/-- What is owned is sorted. -/
theorem sort_own {e : TypeId} {F : Nat} {ren : Go.Shelf.Ren} (L : SlLaysN.n53 Try.prog ren) (hF : ren.f 53 = F) {W : World} {v : Value} {n : Nat} {l : List Int} (hl : l.length = n) (hn : n ≤ 1000000) (h : W.ownsRow 0 e 1 v n (flatI l)) :
    Calls Try.prog F #[v] W fun en W' => en = .returned (.tuple #[]) ∧ (∃ C cp, v = .slice C n cp ∧ Ints W' C n (srtL l)) ∧ Keeps (fun k => v.ownBlock = some k) W W' := by
  rw [← hF]
  have h' := h
  rcases h.2 with ⟨rfl, h0⟩ | ⟨g, cap, cur, rfl, hb, hg, hc, _, hsz, htake⟩
  · subst h0
    refine (AnyG.slices_Sort_int_none L none 0 W).mono ?_
    rintro en W' ⟨rfl, rfl⟩
    have e0 : l = [] := List.eq_nil_of_length_eq_zero hl
    exact ⟨rfl, ⟨none, 0, rfl, by rw [e0]; exact ⟨by simp [srtL], fun hc => absurd hc (by omega)⟩⟩, Keeps.refl _ _⟩
  · have hH := holds_own hl h'
    have hgl := lt_of_block hg
    subst hl
    refine (AnyG.slices_Sort_int L g 0 cap l W hH hgl (by omega)).mono ?_
    rintro en W' ⟨rfl, q, os, rfl⟩
    have hH2 : Holds (Value.int .i64) (putRow (Value.int .i64) (Sort.ahead W q) g 0 (srtL l).toArray) g 0 (srtL l).toArray := holds_putRow (Value.int .i64) (Sort.ahead W q) g 0 l.toArray (srtL l).toArray hH (by simp [srtL_len])
    have hK := keeps_putRow W q g (srtL l).toArray
    have hH3 := holds_grow (Value.int .i64) _ os g 0 _ (Nat.lt_of_lt_of_le hgl hK.size) hH2
    refine ⟨rfl, ⟨_, cap, rfl, srtL_len l, fun _ => ⟨g, 0, rfl, fun j hj => ?_⟩⟩, ?_⟩
    · have h1 := (hH3 j (by simp [srtL_len]; exact hj)).1
      refine Eq.trans h1 ?_
      have hj2 : j < (srtL l).length := by rw [srtL_len]; exact hj
      simp [iAt_eq hj2, hj2]
    · exact (hK.trans (keeps_grow _ _).none).mono (fun k _ e => by rw [e]; rfl)
end Go.Proofs.Ytdfdlklglbefiaa

namespace Go.Proofs.Ytdfdlklglbefiaa
set_option linter.unusedSimpArgs false
set_option linter.unusedVariables false
open Go.RowKit Go.Shelf Go.Sort
attribute [local go_sem ↓] exec_app
attribute [local go_sem] Oper.semAt_some

theorem fewest55 (B : Nat) (C : Option Addr) (n cap : Nat) (zs : List Rg) (mt : Nat → Bool) (w : World) (h : Bd w B C n cap zs mt) (hn1 : 1 ≤ n) (hn : n ≤ 24) :
    Calls Try.prog 55 #[.pointer (some ⟨B, 0, none⟩)] w fun en w' => ∃ ys, GoodO (plE true) (tnOf zs) n ys ∧ en = .returned (.int .i64 ((grE true [] ys).length : Int)) ∧ (∃ mt', Bd w' B C n cap zs mt') ∧ Keeps (fun k => k = B) w w' := by
  have H := Lib.hid h
  go_enter Try.func55, Try.ntmps55
  go_wp2_with fail
  refine (apart48 true B C n cap zs mt w H.out hn1 hn).mono ?_
  rintro en w2 ⟨ys, D, hg, rfl, hrow, hD, hbd, hK⟩
  have Hg := Lib.hid hg
  have Hbd := Lib.hid hbd
  have HK := Lib.hid hK
  obtain ⟨k, hk⟩ : ∃ k, (grE true [] ys).length = k := ⟨_, rfl⟩
  rw [hk]
  have Hk := Lib.hid hk
  clear h hg hrow hbd hK hk
  go_wp2_with fail
  refine bodyPost_ret (v := .int .i64 (k : Int)) (by simp [results, Try.results55, go_sem]) rfl ?_
  exact ⟨ys, Hg.out, by rw [Hk.out], ⟨_, Hbd.out⟩, HK.out⟩

/-- What short hands back. -/
def ShPost (e : Bool) (B : Nat) (C : Option Addr) (n cap : Nat) (zs : List Rg) (w : World) (en : Ending) (w' : World) : Prop :=
  ∃ ys D cp, GoodO (plE e) (tnOf zs) n ys ∧ en = .returned (.slice D (grE e [] ys).length cp) ∧ Ints w' D (grE e [] ys).length (srtL (ptsE e (grE e [] ys))) ∧ (∀ b o, D = some ⟨b, o, none⟩ → w.heap.size ≤ b) ∧ (∃ mt', Bd w' B C n cap zs mt') ∧ Keeps (fun k => k = B) w w'
theorem ptsE_take (e : Bool) (G : List Tn) (k : Nat) (hk : k < G.length) : ptsE e (G.take (k + 1)) = ptsE e (G.take k) ++ [ofE e (tAt G k)] := by
  rw [take_snoc hk, ptsE_snoc]
theorem ptsE_len (e : Bool) (G : List Tn) : (ptsE e G).length = G.length := by simp [ptsE]
set_option maxRecDepth 100000 in
set_option maxHeartbeats 4000000 in
theorem short47 (e : Bool) (B : Nat) (C : Option Addr) (n cap : Nat) (zs : List Rg) (mt : Nat → Bool) (w : World) (h : Bd w B C n cap zs mt) (hn1 : 1 ≤ n) (hn : n ≤ 24) :
    Calls Try.prog 47 #[.pointer (some ⟨B, 0, none⟩), .bool e] w (ShPost e B C n cap zs w) := by
  have H := Lib.hid h
  go_enter Try.func47, Try.ntmps47
  go_wp2_with fail
  refine (apart48 e B C n cap zs mt w H.out hn1 hn).mono ?_
  rintro en w2 ⟨ys, D, hg, rfl, hrow, hD, hbd, hK⟩
  have Hk24 := Lib.hid (show (grE e [] ys).length ≤ 24 by have := grE_len e [] ys; have := hg.2.2; simp at *; omega)
  have Hg := Lib.hid hg
  have Hbd := Lib.hid hbd
  have HK := Lib.hid hK
  have HD := Lib.hid hD
  have HR := Lib.hid hrow
  obtain ⟨G, hG⟩ : ∃ G, grE e [] ys = G := ⟨_, rfl⟩
  rw [hG] at HR Hk24 ⊢
  obtain ⟨m, hm⟩ : ∃ m, G.length = m := ⟨_, rfl⟩
  rw [hm] at Hk24 ⊢
  have HG := Lib.hid hG
  have Hm := Lib.hid hm
  clear h hg hrow hbd hK hD hG hm
  go_wp2_with fail
  go_loopw [5, 12] (fun v i wr => ∃ k : Nat, k ≤ m ∧ i = .int .i64 (k : Int) ∧ wr.ownsRow 0 2 1 v k (flatI (ptsE e (G.take k))) ∧ (∀ j, v.ownBlock = some j → w2.heap.size ≤ j) ∧ Below w2.heap.size w2 wr) (fun v i _ => m - (intOf i).toNat)
  case atStart => exact ⟨0, Nat.zero_le _, rfl, own_nil _ _ _, fun j e => (by cases e), Below.refl _ _⟩
  case round =>
    obtain ⟨k, hk, rfl, ho, hob, hB2⟩ := hrel
    obtain ⟨wk, rfl⟩ : ∃ wk, wk = wr := ⟨_, rfl⟩
    by_cases hlt : k < m
    · obtain ⟨rest, hr2⟩ := HR.out
      have hRk : RowT wk D G := ⟨rest, (hB2.block _ (lt_of_block hr2)).trans hr2⟩
      obtain ⟨x0, x1, x2⟩ := hRk.cells (j := k) (by rw [Hm.out]; exact hlt)
      have Hpt := Lib.hid (ptsE_take e G k (by rw [Hm.out]; exact hlt))
      obtain ⟨t, ht⟩ : ∃ t, tAt G k = t := ⟨_, rfl⟩
      rw [ht] at x0 x1 x2 Hpt
      have i0 : (0 : Int) ≤ (k : Int) := by omega
      have i1 : (k : Int) < (m : Int) := by omega
      have i2 : (k : Int) < 24 := by have := Hk24.out; omega
      have Ho := Lib.hid ho
      have Hob := Lib.hid hob
      have HB2 := Lib.hid hB2
      clear ho hob hB2 hr2 hRk ht
      go_wp2_with fail
      refine (of63 e t _).mono ?_
      rintro en3 W2 ⟨rfl, hb2⟩
      have hbt := (below_alloc_ wk (.cells #[.int .i64 t.r.lo, .int .i64 t.r.hi, .int .i64 (t.nm : Int)] 78)).trans (hb2.mono (by simp))
      obtain ⟨x, hx⟩ : ∃ x, ofE e t = x := ⟨_, rfl⟩
      rw [hx] at Hpt ⊢
      have Hbt := Lib.hid hbt
      have hbz := below_alloc_ W2 (.cells #[.int .i64 x] 2)
      have hz := heap_alloc_new_ W2 (.cells #[.int .i64 x] 2)
      have hob2 : (W2.alloc (.cells #[.int .i64 x] 2)).ownsRow 0 2 1 u5 k (flatI (ptsE e (G.take k))) := own_keep (Mut := fun _ => False) Ho.out ((Keeps.of_new hbt).trans (Keeps.of_new hbz)) (fun _ _ e => e)
      obtain ⟨v', W3, hrun, hown3, hK3, hv3⟩ := app_one (n := k) Try.underlying23 info2_ rfl (by omega) (by omega) hob2 (vals := [.int .i64 x]) rfl hz (by simp [Value.oneCell']) (by have := Hk24.out; omega)
      have hB3 : Below w2.heap.size w2 W3 := (HB2.out.trans ((Hbt.out.trans (hbz.mono Hbt.out.size)).mono HB2.out.size)).trans (hK3.below (by have := HB2.out.size; have := Hbt.out.size; have := hbz.size; simp at this ⊢; omega) (fun j hj e => by have := Hob.out j e; omega))
      have hv4 : ∀ j, v'.ownBlock = some j → w2.heap.size ≤ j := by
        intro j hj
        rcases hv3 with e | ⟨e, _⟩
        · rw [e] at hj; exact Hob.out j hj
        · rw [e] at hj; cases hj; have := HB2.out.size; have := Hbt.out.size; have := hbz.size; simp at this ⊢; omega
      replace hrun : runA Try.prog 23 u5 (.slice (some ⟨W2.heap.size, 0, none⟩) 1 1) (W2.alloc (.cells #[.int .i64 x] 2)) = .ok (.value v') W3 := run_app hrun
      have HB3 := Lib.hid hB3
      have HV4 := Lib.hid hv4
      have HO3 := Lib.hid hown3
      clear hbz hz hob2 hown3 hK3 hv3 hB3 hv4 hbt hb2 hx x0 x1 x2
      go_wp2_with fail
      go_roundw
      case rel =>
        refine ⟨k + 1, by omega, by go_num, ?_, HV4.out, HB3.out⟩
        rw [Hpt.out, flatI_snoc]
        exact HO3.out
      case measure => simp [intOf]; omega
    · have e' : k = m := by omega
      subst e'
      have HB2 := Lib.hid hB2
      have htk : G.take k = G := List.take_of_length_le (by rw [Hm.out]; exact Nat.le_refl _)
      rw [htk] at ho
      have HO := Lib.hid ho
      have HOB := Lib.hid hob
      have HL := Lib.hid (show (ptsE e G).length = k by rw [ptsE_len, Hm.out])
      clear ho hob hB2
      go_wp2_with fail
      refine (sort_own srtI (F := 64) rfl HL.out (by have := Hk24.out; omega) HO.out).mono ?_
      rintro en4 W4 ⟨rfl, ⟨D4, cp4, rfl, hi4⟩, hK4⟩
      have HI4 := Lib.hid hi4
      have HK4 := Lib.hid hK4
      clear hi4 hK4
      go_wp2_with fail
      refine bodyPost_ret (v := .slice D4 k cp4) (by simp [results, Try.results47, go_sem]) rfl ?_
      have hB5 : Below w2.heap.size w2 W4 := HB2.out.trans (HK4.out.below HB2.out.size (fun j hj e => by have := HOB.out j e; omega))
      unfold ShPost
      refine ⟨ys, D4, cp4, Hg.out, ?_, ?_, fun b o e => ?_, ⟨_, Hbd.out.below hB5 (Nat.le_refl _)⟩, HK.out.trans (Keeps.of_new hB5)⟩
      · rw [HG.out, Hm.out]
      · rw [HG.out, Hm.out]; exact HI4.out
      · have h1 := HOB.out b (by rw [e]; rfl)
        have := HK.out.size
        omega

/-- What Fewest, Apart and the like hand back where the song is wrong. -/
def ShortR (zs : List Rg) (e : Bool) (x : List Int) : Prop := ∃ ys, GoodO (plE e) (tnOf zs) zs.length ys ∧ x = srtL (ptsE e (grE e [] ys))
/-- What Fewest hands back. -/
def FwPost (zs : List Rg) (w : World) (en : Ending) (w' : World) : Prop :=
  Below w.heap.size w w' ∧ ((chkS zs = 0 ∧ ∃ x D cp, ShortR zs true x ∧ en = .returned (.tuple #[.slice D x.length cp, .int .i64 0]) ∧ Ints w' D x.length x ∧ (∀ b o, D = some ⟨b, o, none⟩ → w.heap.size ≤ b)) ∨ (chkS zs ≠ 0 ∧ en = .returned (.tuple #[.slice none 0 0, .int .i64 (chkS zs)])))
theorem fewest25 (A : Option Addr) (n cap : Nat) (zs : List Rg) (w : World) (h : Rgs w A n zs) :
    Calls Try.prog 25 #[.slice A n cap] w (FwPost zs w) := by
  have Hn := Lib.hid h.1
  go_enter Try.func25, Try.ntmps25
  go_wp2_with fail
  refine (lay46 A n cap zs w h).mono ?_
  rintro e w2 ⟨hb, ⟨h0, B, C, cp, rfl, hB, hC, hd⟩ | ⟨h0, rfl⟩⟩
  · have Hd := Lib.hid hd
    have Hb := Lib.hid hb
    have HBs := Lib.hid hB
    have H0 := Lib.hid h0
    have Hch := Lib.hid (chkS_zero.1 h0)
    clear h hb hd hC hB h0
    go_wp2_with fail
    refine (short47 true B C n cp zs _ w2 Hd.out (by have := Hch.out.1; have := Hn.out; omega) (by have := Hch.out.2.1; have := Hn.out; omega)).mono ?_
    rintro e3 w3 ⟨ys, D, cp3, hg, rfl, hi, hf, _, hK⟩
    have HK := Lib.hid hK
    have HF := Lib.hid hf
    have HI := Lib.hid hi
    have Hg := Lib.hid hg
    obtain ⟨m, hm⟩ : ∃ m, (grE true [] ys).length = m := ⟨_, rfl⟩
    rw [hm] at HI ⊢
    have HL := Lib.hid (show (srtL (ptsE true (grE true [] ys))).length = m by rw [srtL_len, ptsE_len, hm])
    clear hK hf hi hg hm
    go_wp2_with fail
    refine bodyPost_ret (v := .tuple #[.slice D m cp3, .int .i64 0]) (by simp [results, Try.results25, go_sem]) rfl ?_
    refine ⟨Hb.out.trans (HK.out.below Hb.out.size (fun k hk e => by have := HBs.out; omega)), .inl ⟨H0.out, _, D, cp3, ⟨ys, by rw [Hn.out]; exact Hg.out, rfl⟩, by rw [HL.out], by rw [HL.out]; exact HI.out, fun b o e => Nat.le_trans Hb.out.size (HF.out b o e)⟩⟩
  · have Hb := Lib.hid hb
    obtain ⟨c, hc⟩ : ∃ c, chkS zs = c := ⟨_, rfl⟩
    rw [hc] at h0 ⊢
    have d0 : (c != 0) = true := by rw [bne_iff_ne]; exact h0
    have Hc := Lib.hid hc
    have H0 := Lib.hid h0
    clear hb h h0 hc
    go_wp2_with fail
    refine bodyPost_ret (v := .tuple #[.slice none 0 0, .int .i64 c]) (by simp [results, Try.results25, go_sem]) rfl ?_
    exact ⟨Hb.out, .inr ⟨by rw [Hc.out]; exact H0.out, by rw [Hc.out]⟩⟩

/-- The names of tones. -/
def nmsE (G : List Tn) : List Int := G.map fun t => (t.nm : Int)
theorem nmsE_take (G : List Tn) (k : Nat) (hk : k < G.length) : nmsE (G.take (k + 1)) = nmsE (G.take k) ++ [((tAt G k).nm : Int)] := by
  rw [take_snoc hk]; simp [nmsE]
/-- What Apart hands back. -/
def ApartR (zs : List Rg) (x : List Int) : Prop := ∃ ys, GoodO (plE true) (tnOf zs) zs.length ys ∧ x = srtL (nmsE (grE true [] ys))
def AwPost (zs : List Rg) (w : World) (en : Ending) (w' : World) : Prop :=
  Below w.heap.size w w' ∧ ((chkS zs = 0 ∧ ∃ x D cp, ApartR zs x ∧ en = .returned (.tuple #[.slice D x.length cp, .int .i64 0]) ∧ Ints w' D x.length x ∧ (∀ b o, D = some ⟨b, o, none⟩ → w.heap.size ≤ b)) ∨ (chkS zs ≠ 0 ∧ en = .returned (.tuple #[.slice none 0 0, .int .i64 (chkS zs)])))
set_option maxRecDepth 100000 in
set_option maxHeartbeats 4000000 in
theorem apart26 (A : Option Addr) (n cap : Nat) (zs : List Rg) (w : World) (h : Rgs w A n zs) :
    Calls Try.prog 26 #[.slice A n cap] w (AwPost zs w) := by
  have Hn := Lib.hid h.1
  go_enter Try.func26, Try.ntmps26
  go_wp2_with fail
  refine (lay46 A n cap zs w h).mono ?_
  rintro e w1 ⟨hb, ⟨h0, B, C, cp, rfl, hB, hC, hd⟩ | ⟨h0, rfl⟩⟩
  · have Hd := Lib.hid hd
    have Hb := Lib.hid hb
    have HBs := Lib.hid hB
    have H0 := Lib.hid h0
    have Hch := Lib.hid (chkS_zero.1 h0)
    clear h hb hd hC hB h0
    go_wp2_with fail
    refine (apart48 true B C n cp zs _ w1 Hd.out (by have := Hch.out.1; have := Hn.out; omega) (by have := Hch.out.2.1; have := Hn.out; omega)).mono ?_
    rintro en w2 ⟨ys, D, hg, rfl, hrow, hD, hbd, hK⟩
    have Hk24 := Lib.hid (show (grE true [] ys).length ≤ 24 by have := grE_len true [] ys; have := hg.2.2; have := Hch.out.2.1; have := Hn.out; simp at *; omega)
    have Hg := Lib.hid hg
    have HK := Lib.hid hK
    have HD := Lib.hid hD
    have HR := Lib.hid hrow
    obtain ⟨G, hG⟩ : ∃ G, grE true [] ys = G := ⟨_, rfl⟩
    rw [hG] at HR Hk24 ⊢
    obtain ⟨m, hm⟩ : ∃ m, G.length = m := ⟨_, rfl⟩
    rw [hm] at Hk24 ⊢
    have HG := Lib.hid hG
    have Hm := Lib.hid hm
    clear hg hrow hbd hK hD hG hm
    go_wp2_with fail
    go_loopw [6, 20] (fun v i wr => ∃ k : Nat, k ≤ m ∧ i = .int .i64 (k : Int) ∧ wr.ownsRow 0 3 1 v k (flatI (nmsE (G.take k))) ∧ (∀ j, v.ownBlock = some j → w2.heap.size ≤ j) ∧ Below w2.heap.size w2 wr) (fun v i _ => m - (intOf i).toNat)
    case atStart => exact ⟨0, Nat.zero_le _, rfl, own_nil _ _ _, fun j e => (by cases e), Below.refl _ _⟩
    case round =>
      obtain ⟨k, hk, rfl, ho, hob, hB2⟩ := hrel
      obtain ⟨wk, rfl⟩ : ∃ wk, wk = wr := ⟨_, rfl⟩
      by_cases hlt : k < m
      · obtain ⟨rest, hr2⟩ := HR.out
        have hRk : RowT wk D G := ⟨rest, (hB2.block _ (lt_of_block hr2)).trans hr2⟩
        obtain ⟨x0, x1, x2⟩ := hRk.cells (j := k) (by rw [Hm.out]; exact hlt)
        have Hpt := Lib.hid (nmsE_take G k (by rw [Hm.out]; exact hlt))
        obtain ⟨t, ht⟩ : ∃ t, tAt G k = t := ⟨_, rfl⟩
        rw [ht] at x0 x1 x2 Hpt
        have i0 : (0 : Int) ≤ (k : Int) := by omega
        have i1 : (k : Int) < (m : Int) := by omega
        have i2 : (k : Int) < 24 := by have := Hk24.out; omega
        have Ho := Lib.hid ho
        have Hob := Lib.hid hob
        have HB2 := Lib.hid hB2
        clear ho hob hB2 hr2 hRk ht
        have hbt := below_alloc_ wk (.cells #[.int .i64 t.r.lo, .int .i64 t.r.hi, .int .i64 (t.nm : Int)] 78)
        obtain ⟨W2, hW2⟩ : ∃ W2, wk.alloc (.cells #[.int .i64 t.r.lo, .int .i64 t.r.hi, .int .i64 (t.nm : Int)] 78) = W2 := ⟨_, rfl⟩
        have hsz2 : W2.heap.size = wk.heap.size + 1 := by rw [← hW2]; simp
        rw [hW2] at hbt
        obtain ⟨x, hx⟩ : ∃ x : Int, (t.nm : Int) = x := ⟨_, rfl⟩
        have Hbt := Lib.hid hbt
        have hbz := below_alloc_ W2 (.cells #[.int .i64 x] 3)
        have hz := heap_alloc_new_ W2 (.cells #[.int .i64 x] 3)
        have hob2 : (W2.alloc (.cells #[.int .i64 x] 3)).ownsRow 0 3 1 u6 k (flatI (nmsE (G.take k))) := own_keep (Mut := fun _ => False) Ho.out ((Keeps.of_new hbt).trans (Keeps.of_new hbz)) (fun _ _ e => e)
        obtain ⟨v', W3, hrun, hown3, hK3, hv3⟩ := app_one (n := k) Try.underlying26 info3_ rfl (by omega) (by omega) hob2 (vals := [.int .i64 x]) rfl hz (by simp [Value.oneCell']) (by have := Hk24.out; omega)
        have hB3 : Below w2.heap.size w2 W3 := (HB2.out.trans ((Hbt.out.trans (hbz.mono Hbt.out.size)).mono HB2.out.size)).trans (hK3.below (by have := HB2.out.size; have := Hbt.out.size; have := hbz.size; simp at this ⊢; omega) (fun j hj e => by have := Hob.out j e; omega))
        have hv4 : ∀ j, v'.ownBlock = some j → w2.heap.size ≤ j := by
          intro j hj
          rcases hv3 with e | ⟨e, _⟩
          · rw [e] at hj; exact Hob.out j hj
          · rw [e] at hj; cases hj; have := HB2.out.size; have := Hbt.out.size; have := hbz.size; simp at this ⊢; omega
        replace hrun : runA Try.prog 26 u6 (.slice (some ⟨wk.heap.size + 1, 0, none⟩) 1 1) ((wk.alloc (.cells #[.int .i64 t.r.lo, .int .i64 t.r.hi, .int .i64 (t.nm : Int)] 78)).alloc (.cells #[.int .i64 (t.nm : Int)] 3)) = .ok (.value v') W3 := by rw [hW2, hx, ← hsz2]; exact run_app hrun
        have HB3 := Lib.hid hB3
        have HV4 := Lib.hid hv4
        have HO3 := Lib.hid hown3
        have Hx := Lib.hid hx
        clear hbz hz hob2 hown3 hK3 hv3 hB3 hv4 hbt hW2 hsz2 hx Hbt
        go_wp2_with fail
        go_roundw
        case rel =>
          refine ⟨k + 1, by omega, by go_num, ?_, HV4.out, HB3.out⟩
          rw [Hpt.out, Hx.out, flatI_snoc]
          exact HO3.out
        case measure => simp [intOf]; omega
      · have e' : k = m := by omega
        subst e'
        have HB2 := Lib.hid hB2
        have htk : G.take k = G := List.take_of_length_le (by rw [Hm.out]; exact Nat.le_refl _)
        rw [htk] at ho
        have HO := Lib.hid ho
        have HOB := Lib.hid hob
        have HL := Lib.hid (show (nmsE G).length = k by simp [nmsE, Hm.out])
        clear ho hob hB2
        go_wp2_with fail
        refine (sort_own srtJ (F := 49) rfl HL.out (by have := Hk24.out; omega) HO.out).mono ?_
        rintro en4 W4 ⟨rfl, ⟨D4, cp4, rfl, hi4⟩, hK4⟩
        have HI4 := Lib.hid hi4
        have HK4 := Lib.hid hK4
        clear hi4 hK4
        go_wp2_with fail
        refine bodyPost_ret (v := .tuple #[.slice D4 k cp4, .int .i64 0]) (by simp [results, Try.results26, go_sem]) rfl ?_
        have hB5 : Below w2.heap.size w2 W4 := HB2.out.trans (HK4.out.below HB2.out.size (fun j hj e => by have := HOB.out j e; omega))
        have hB6 := Hb.out.trans ((HK.out.trans (Keeps.of_new hB5)).below Hb.out.size (fun k hk e => by have := HBs.out; omega))
        have hl5 : (srtL (nmsE (grE true [] ys))).length = k := by rw [srtL_len, HG.out, HL.out]
        refine ⟨hB6, .inl ⟨H0.out, _, D4, cp4, ⟨ys, by rw [Hn.out]; exact Hg.out, rfl⟩, by rw [hl5], by rw [hl5, HG.out]; exact HI4.out, fun b o e => ?_⟩⟩
        have h1 := HOB.out b (by rw [e]; rfl)
        have := HK.out.size
        have := Hb.out.size
        omega
  · have Hb := Lib.hid hb
    obtain ⟨c, hc⟩ : ∃ c, chkS zs = c := ⟨_, rfl⟩
    rw [hc] at h0 ⊢
    have d0 : (c != 0) = true := by rw [bne_iff_ne]; exact h0
    have Hc := Lib.hid hc
    have H0 := Lib.hid h0
    clear hb h h0 hc
    go_wp2_with fail
    refine bodyPost_ret (v := .tuple #[.slice none 0 0, .int .i64 c]) (by simp [results, Try.results26, go_sem]) rfl ?_
    exact ⟨Hb.out, .inr ⟨by rw [Hc.out]; exact H0.out, by rw [Hc.out]⟩⟩
end Go.Proofs.Ytdfdlklglbefiaa
