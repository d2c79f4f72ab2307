/- Stage 3: places, whole. -/
import Derived.Test.YtdfdlklglbefiaaCmp
namespace Go.Proofs.Ytdfdlklglbefiaa
set_option linter.unusedSimpArgs false
set_option linter.unusedVariables false

theorem cmpc_mem (l : List Int) (x : Int) : x ∈ cmpc l ↔ x ∈ l := by
  induction l with
  | nil => simp [cmpc]
  | cons a t ih =>
    cases t with
    | nil => simp [cmpc]
    | cons b r =>
      simp only [cmpc]
      split
      · next e => rw [ih, e]; simp
      · rw [List.mem_cons, ih, List.mem_cons (a := x) (b := a)]
theorem cmpc_incr (l : List Int) (h : l.Pairwise (fun a b => a ≤ b)) : Incr (cmpc l) := by
  unfold Incr
  induction l with
  | nil => simp [cmpc]
  | cons a t ih =>
    cases t with
    | nil => simp [cmpc]
    | cons b r =>
      rw [List.pairwise_cons] at h
      simp only [cmpc]
      split
      · exact ih h.2
      · next e =>
        rw [List.pairwise_cons]
        refine ⟨fun x hx => ?_, ih h.2⟩
        have h1 := h.1 b (by simp)
        rcases List.mem_cons.1 ((cmpc_mem _ _).1 hx) with rfl | hx
        · omega
        · have h2 := (List.pairwise_cons.1 h.2).1 x hx
          omega
/-- The places of a song. -/
structure PlcOk (zs : List Rg) (L : List Int) : Prop where
  incr : Incr L
  low : -1 ∈ L
  all : ∀ r ∈ zs, r.lo ∈ L
  only : ∀ x ∈ L, x = -1 ∨ ∃ r ∈ zs, x = r.lo
  len : L.length ≤ zs.length + 1
theorem places_ok {zs : List Rg} (ho : validZ zs = true) {ys : List Tn} (h : GoodO (ofE false) (tnOf zs) zs.length ys) : PlcOk zs (cmpc (-1 :: ys.map (·.r.lo))) := by
  have hm : ∀ r, r ∈ ys.map (·.r) ↔ r ∈ zs := fun r => by
    have := (h.1.map (·.r)).mem_iff (a := r)
    rwa [map_tAt] at this
  have hs := h.2.1
  rw [← h.2.2] at hs
  have hp := srt_pair hs
  refine ⟨cmpc_incr _ ?_, (cmpc_mem _ _).2 (by simp), fun r hr => ?_, fun x hx => ?_, ?_⟩
  · rw [List.pairwise_cons, List.pairwise_map]
    refine ⟨fun x hx => ?_, hp.imp (fun h => by simpa [ofE] using h)⟩
    obtain ⟨t, ht, rfl⟩ := List.mem_map.1 hx
    have := okZ_iff.1 (List.all_eq_true.1 ho _ ((hm t.r).1 (List.mem_map.2 ⟨t, ht, rfl⟩)))
    omega
  · rw [cmpc_mem]
    obtain ⟨t, ht, rfl⟩ := List.mem_map.1 ((hm r).2 hr)
    exact List.mem_cons_of_mem _ (List.mem_map.2 ⟨t, ht, rfl⟩)
  · rw [cmpc_mem] at hx
    rcases List.mem_cons.1 hx with rfl | hx
    · exact .inl rfl
    · obtain ⟨t, ht, rfl⟩ := List.mem_map.1 hx
      exact .inr ⟨t.r, (hm t.r).1 (List.mem_map.2 ⟨t, ht, rfl⟩), rfl⟩
  · have := cmpc_len (-1 :: ys.map (·.r.lo))
    have := h.2.2
    simp at *
    omega
end Go.Proofs.Ytdfdlklglbefiaa

namespace Go.Proofs.Ytdfdlklglbefiaa
set_option linter.unusedSimpArgs false
set_option linter.unusedVariables false
open Go.RowKit Go.Shelf

theorem count73 (v : Option Addr) (n cp : Nat) (m : Int) (w : World) : Calls Try.prog 73 #[.agg #[.slice v n cp, .int .i64 m]] w fun en w' => en = .returned (.int .i64 m) ∧ Below w.heap.size w w' := by
  go_enter Try.func73, Try.ntmps73
  go_wp2_with fail
  go_ret
  exact ⟨rfl, below_alloc_ _ _⟩
set_option maxRecDepth 100000 in
theorem longer72 (B : Nat) (M : Nat) (s : Int) (A : Option Addr) (n cp : Nat) (p : Int) (w : World) :
    Calls Try.prog 72 #[.pointer (some ⟨B, 0, none⟩), .map (some M), .int .i64 s, .slice A n cp, .int .i64 p] w fun en w' =>
      en = .returned (.func (.func 92) #[] #[.pointer (some ⟨w.heap.size + 3, 0, none⟩), .pointer (some ⟨w.heap.size + 1, 0, none⟩), .pointer (some ⟨w.heap.size + 2, 0, none⟩), .pointer (some ⟨w.heap.size, 0, none⟩), .pointer (some ⟨w.heap.size + 4, 0, none⟩)]) ∧
      w' = ((((w.alloc (.cells #[.pointer (some ⟨B, 0, none⟩)] 69)).alloc (.cells #[.map (some M)] 116)).alloc (.cells #[.int .i64 s] 3)).alloc (.cells #[.slice A n cp] 23)).alloc (.cells #[.int .i64 p] 2) := by
  go_enter Try.func72, Try.ntmps72
  go_wp2_with fail
  go_ret
  exact ⟨rfl, rfl⟩
end Go.Proofs.Ytdfdlklglbefiaa

namespace Go.Proofs.Ytdfdlklglbefiaa
set_option linter.unusedSimpArgs false
set_option linter.unusedVariables false
open Go.RowKit Go.Shelf

/-- How many tones steps meet. -/
def cntM (zs : List Rg) (st : List Int) : Nat := zs.countP (fun r => meets st r)
/-- A scale with at most so many steps that meets as many tones as any. -/
structure MostR (zs : List Rg) (steps : Int) (st : List Int) (m : Int) : Prop where
  incr : Incr st
  rng : ∀ x ∈ st, 0 ≤ x ∧ x ≤ 10000
  len : (st.length : Int) ≤ steps
  cnt : m = (cntM zs st : Int)
  best : ∀ st', Incr st' → (st'.length : Int) ≤ steps → cntM zs st' ≤ cntM zs st
/-- What most does. -/
def Most58 : Prop := ∀ (B : Nat) (C : Option Addr) (n cap : Nat) (zs : List Rg) (mt : Nat → Bool) (steps : Int) (W : World), Bd W B C n cap zs mt → 1 ≤ n → n ≤ 24 → 0 ≤ steps → steps ≤ 24 → validZ zs = true →
  Calls Try.prog 58 #[.pointer (some ⟨B, 0, none⟩), .int .i64 steps] W fun en W' => ∃ st D cp m, MostR zs steps st m ∧ en = .returned (.agg #[.slice D st.length cp, .int .i64 m]) ∧ Ints W' D st.length st ∧ (∀ b o, D = some ⟨b, o, none⟩ → W.heap.size ≤ b) ∧ Below W.heap.size W W'
/-- What Most hands back. -/
def MsPost (zs : List Rg) (steps : Int) (w : World) (en : Ending) (w' : World) : Prop :=
  Below w.heap.size w w' ∧ ((chkS zs ≠ 0 ∧ en = .returned (.tuple #[.slice none 0 0, .int .i64 0, .int .i64 (chkS zs)])) ∨
    (chkS zs = 0 ∧ withI 0 24 [steps] = false ∧ en = .returned (.tuple #[.slice none 0 0, .int .i64 0, .int .i64 3])) ∨
    (chkS zs = 0 ∧ withI 0 24 [steps] = true ∧ ∃ st D cp m, MostR zs steps st m ∧ en = .returned (.tuple #[.slice D st.length cp, .int .i64 m, .int .i64 0]) ∧ Ints w' D st.length st ∧ (∀ b o, D = some ⟨b, o, none⟩ → w.heap.size ≤ b)))
theorem most33 (h58 : Most58) (A : Option Addr) (n cap : Nat) (zs : List Rg) (steps : Int) (w : World) (h : Rgs w A n zs) :
    Calls Try.prog 33 #[.slice A n cap, .int .i64 steps] w (MsPost zs steps w) := by
  have Hn := Lib.hid h.1
  go_enter Try.func33, Try.ntmps33
  go_wp2_with fail
  refine (lay46 A n cap zs w h).mono ?_
  rintro e w1 ⟨hb, ⟨h0, B, C, cp, rfl, hB, hC, hd⟩ | ⟨h0, rfl⟩⟩
  · have Hd := Lib.hid hd
    have Hb := Lib.hid hb
    have H0 := Lib.hid h0
    have Hch := Lib.hid (chkS_zero.1 h0)
    clear h hb hd hC hB h0
    go_wp2_with fail
    have hb2 := below_alloc_ w1 (.cells #[.int .i64 steps] 3)
    have hi2 := ints_one (heap_alloc_new_ w1 (.cells #[.int .i64 steps] 3))
    obtain ⟨w2, hw2⟩ : ∃ w2, w1.alloc (.cells #[.int .i64 steps] 3) = w2 := ⟨_, rfl⟩
    rw [hw2] at hb2 hi2 ⊢
    clear hw2
    refine (within42 (some ⟨w1.heap.size, 0, none⟩) 1 1 [steps] 0 24 w2 hi2 (by omega)).mono ?_
    rintro e W ⟨rfl, hW⟩
    obtain rfl : W = w2 := hW
    have Hb2 := Lib.hid hb2
    clear hi2 hb2
    cases hw : withI 0 24 [steps] with
    | false =>
      have Hw := Lib.hid hw
      clear hw
      go_wp2_with fail
      refine bodyPost_ret (v := .tuple #[.slice none 0 0, .int .i64 0, .int .i64 3]) (by simp [results, Try.results33, go_sem]) rfl ?_
      exact ⟨Hb.out.trans (Hb2.out.mono Hb.out.size), .inr (.inl ⟨H0.out, Hw.out, rfl⟩)⟩
    | true =>
      have Hw := Lib.hid hw
      have hr : 0 ≤ steps ∧ steps ≤ 24 := by simpa [withI, inB] using hw
      have Hr := Lib.hid hr
      clear hw hr
      go_wp2_with fail
      refine (h58 B C n cp zs _ steps W (Hd.out.below Hb2.out (Nat.le_refl _)) (by have := Hch.out.1; have := Hn.out; omega) (by have := Hch.out.2.1; have := Hn.out; omega) Hr.out.1 Hr.out.2 Hch.out.2.2).mono ?_
      rintro e3 w3 ⟨st, D, cp3, m, hm, rfl, hi, hf, hb3⟩
      have Hm := Lib.hid hm
      have Hf := Lib.hid hf
      have Hi := Lib.hid hi
      have Hb3 := Lib.hid hb3
      obtain ⟨k, hk⟩ : ∃ k, st.length = k := ⟨_, rfl⟩
      rw [hk] at Hi ⊢
      have Hk := Lib.hid hk
      clear hm hf hi hb3 hk
      go_wp2_with fail
      go_region
      all_goals (go_wp2_with fail)
      refine bodyPost_ret (v := .tuple #[.slice D k cp3, .int .i64 m, .int .i64 0]) (by simp [results, Try.results33, go_sem]) rfl ?_
      have hba := below_alloc_ w3 (.cells #[.slice D k cp3, .int .i64 m] 96)
      have hbd := hba.trans ((drew_b (w3.alloc (.cells #[.slice D k cp3, .int .i64 m] 96)) 1).mono hba.size)
      have hs := Nat.le_trans Hb.out.size Hb2.out.size
      have hB9 := (Hb.out.trans (Hb2.out.mono Hb.out.size)).trans ((Hb3.out.trans (hbd.mono Hb3.out.size)).mono hs)
      refine ⟨hB9, .inr (.inr ⟨H0.out, Hw.out, st, D, cp3, m, Hm.out, by rw [Hk.out], ?_, fun b o e => Nat.le_trans hs (Hf.out b o e)⟩)⟩
      rw [Hk.out]
      exact Hi.out.below hbd (Nat.le_refl _)
  · have Hb := Lib.hid hb
    obtain ⟨c, hc⟩ : ∃ c, chkS zs = c := ⟨_, rfl⟩
    rw [hc] at h0 ⊢
    have d0 : (c != 0) = true := by rw [bne_iff_ne]; exact h0
    have Hc := Lib.hid hc
    have H0 := Lib.hid h0
    clear hb h h0 hc
    go_wp2_with fail
    refine bodyPost_ret (v := .tuple #[.slice none 0 0, .int .i64 0, .int .i64 c]) (by simp [results, Try.results33, go_sem]) rfl ?_
    exact ⟨Hb.out, .inl ⟨by rw [Hc.out]; exact H0.out, by rw [Hc.out]⟩⟩
end Go.Proofs.Ytdfdlklglbefiaa

namespace Go.Proofs.Ytdfdlklglbefiaa
set_option linter.unusedSimpArgs false
set_option linter.unusedVariables false

/-- The greatest place that is not above. -/
def dn : List Int → Int → Int
  | [], _ => -1
  | y :: l, x => if y ≤ x then max y (dn l x) else dn l x
theorem dn_ge (L : List Int) (x y : Int) (h : y ∈ L) (hx : y ≤ x) : y ≤ dn L x := by
  induction L with
  | nil => simp at h
  | cons z l ih =>
    simp only [dn]
    rcases List.mem_cons.1 h with rfl | h
    · rw [if_pos hx]; omega
    · have := ih h
      split <;> omega
theorem dn_in (L : List Int) (x : Int) : dn L x = -1 ∨ (dn L x ∈ L ∧ dn L x ≤ x) := by
  induction L with
  | nil => exact .inl rfl
  | cons z l ih =>
    simp only [dn]
    split
    · next hz =>
      rcases Int.le_total z (dn l x) with hm | hm
      · rw [Int.max_eq_right hm]
        rcases ih with ih | ih
        · exact .inl ih
        · exact .inr ⟨List.mem_cons_of_mem _ ih.1, ih.2⟩
      · rw [Int.max_eq_left hm]
        exact .inr ⟨by simp, hz⟩
    · rcases ih with ih | ih
      · exact .inl ih
      · exact .inr ⟨List.mem_cons_of_mem _ ih.1, ih.2⟩
theorem incr_sub_len (l m : List Int) (h : Incr l) (hs : ∀ x ∈ l, x ∈ m) : l.length ≤ m.length := by
  induction l generalizing m with
  | nil => simp
  | cons x l ih =>
    unfold Incr at h
    rw [List.pairwise_cons] at h
    have hx := hs x (by simp)
    have h1 := ih (m.erase x) h.2 (fun y hy => (List.mem_erase_of_ne (by have := h.1 y hy; omega)).2 (hs y (by simp [hy])))
    rw [List.length_erase_of_mem hx] at h1
    have : 0 < m.length := List.length_pos_of_mem hx
    simp
    omega
theorem most_down {zs : List Rg} {L : List Int} (h : PlcOk zs L) (ho : validZ zs = true) (st : List Int) :
    ∃ st', Incr st' ∧ (∀ y ∈ st', y ∈ L ∧ y ≠ -1) ∧ st'.length ≤ st.length ∧ ∀ r ∈ zs, meets st r = true → meets st' r = true := by
  refine ⟨L.filter (fun y => decide (y ≠ -1) && (st.map (dn L)).contains y), ?_, ?_, ?_, ?_⟩
  · exact List.Pairwise.filter _ h.incr
  · intro y hy
    have := List.mem_filter.1 hy
    simp only [Bool.and_eq_true, decide_eq_true_eq] at this
    exact ⟨this.1, this.2.1⟩
  · have := incr_sub_len (L.filter (fun y => decide (y ≠ -1) && (st.map (dn L)).contains y)) (st.map (dn L)) (List.Pairwise.filter _ h.incr) (fun y hy => by
      have := List.mem_filter.1 hy
      simp only [Bool.and_eq_true, List.contains_iff_mem] at this
      exact this.2.2)
    simpa using this
  · intro r hr hm
    obtain ⟨x, hx, h1, h2⟩ := meets_iff.1 hm
    have hz := okZ_iff.1 (List.all_eq_true.1 ho r hr)
    have hg := dn_ge L x r.lo (h.all r hr) h1
    rcases dn_in L x with e | ⟨e1, e2⟩
    · omega
    · refine meets_iff.2 ⟨dn L x, List.mem_filter.2 ⟨e1, ?_⟩, hg, by omega⟩
      simp only [Bool.and_eq_true, decide_eq_true_eq, List.contains_iff_mem]
      exact ⟨by omega, List.mem_map.2 ⟨x, hx, rfl⟩⟩
theorem cntM_mono {zs : List Rg} {st st' : List Int} (h : ∀ r ∈ zs, meets st r = true → meets st' r = true) : cntM zs st ≤ cntM zs st' := by
  unfold cntM
  induction zs with
  | nil => simp
  | cons r l ih =>
    rw [List.countP_cons, List.countP_cons]
    have h1 := ih (fun q hq => h q (by simp [hq]))
    have h2 := h r (by simp)
    split
    · next e => rw [if_pos (h2 e)]; omega
    · split <;> omega
end Go.Proofs.Ytdfdlklglbefiaa

namespace Go.Proofs.Ytdfdlklglbefiaa
set_option linter.unusedSimpArgs false
set_option linter.unusedVariables false

/-- Where a scale ends, or below all. -/
def lastS (st : List Int) : Int := st.getLast?.getD (-1)
/-- A tone that one more step meets, and no step before. -/
def newT (last place : Int) (r : Rg) : Bool := decide (last + 1 ≤ r.lo) && decide (r.lo ≤ place) && decide (place ≤ r.hi)
theorem lastS_ge {st : List Int} (hi : Incr st) : ∀ x ∈ st, x ≤ lastS st := by
  intro x hx
  have hne : st ≠ [] := List.ne_nil_of_mem hx
  have e : lastS st = st.getLast hne := by simp [lastS, List.getLast?_eq_some_getLast hne]
  rw [e]
  have hlen : 0 < st.length := List.length_pos_of_mem hx
  obtain ⟨j, hj, rfl⟩ := List.mem_iff_getElem.1 hx
  rw [List.getLast_eq_getElem]
  exact incr_le hi (by omega) (by omega)
theorem lastS_mem {st : List Int} : lastS st = -1 ∧ st = [] ∨ lastS st ∈ st := by
  cases st with
  | nil => exact .inl ⟨rfl, rfl⟩
  | cons a l =>
    right
    have e : lastS (a :: l) = (a :: l).getLast (by simp) := by simp [lastS, List.getLast?_eq_some_getLast]
    rw [e]
    exact List.getLast_mem _
theorem meets_snoc {st : List Int} {p : Int} {r : Rg} (hi : Incr st) (hp : lastS st < p) (hr : 0 ≤ r.lo) : meets (st ++ [p]) r = (meets st r || newT (lastS st) p r) := by
  rw [Bool.eq_iff_iff, Bool.or_eq_true, meets_iff, meets_iff]
  simp only [newT, Bool.and_eq_true, decide_eq_true_eq]
  constructor
  · rintro ⟨x, hx, h1, h2⟩
    rcases List.mem_append.1 hx with hx | hx
    · exact .inl ⟨x, hx, h1, h2⟩
    · obtain rfl := List.mem_singleton.1 hx
      rcases Int.lt_or_le (lastS st) r.lo with hl | hl
      · exact .inr ⟨⟨by omega, h1⟩, h2⟩
      · rcases lastS_mem (st := st) with ⟨e, _⟩ | hm
        · omega
        · exact .inl ⟨lastS st, hm, hl, by omega⟩
  · rintro (⟨x, hx, h1, h2⟩ | ⟨⟨h0, h1⟩, h2⟩)
    · exact ⟨x, List.mem_append_left _ hx, h1, h2⟩
    · exact ⟨p, by simp, h1, h2⟩
theorem not_both {st : List Int} {p : Int} {r : Rg} (hi : Incr st) (hn : newT (lastS st) p r = true) : meets st r = false := by
  simp only [newT, Bool.and_eq_true, decide_eq_true_eq] at hn
  cases hm : meets st r with
  | false => rfl
  | true =>
    obtain ⟨x, hx, h1, h2⟩ := meets_iff.1 hm
    have := lastS_ge hi x hx
    omega
/-- How many tones one more step meets. -/
theorem cntM_snoc {zs : List Rg} (ho : validZ zs = true) {st : List Int} {p : Int} (hi : Incr st) (hp : lastS st < p) : cntM zs (st ++ [p]) = cntM zs st + zs.countP (newT (lastS st) p) := by
  unfold cntM
  induction zs with
  | nil => rfl
  | cons r l ih =>
    simp only [validZ, List.all_cons, Bool.and_eq_true] at ho
    have h0 := okZ_iff.1 ho.1
    have h1 := ih ho.2
    simp only [List.countP_cons, h1, meets_snoc hi hp h0.1]
    cases hn : newT (lastS st) p r with
    | true => rw [not_both hi hn]; simp; omega
    | false => simp; omega
theorem incr_snoc {st : List Int} {p : Int} (hi : Incr st) (hp : lastS st < p) : Incr (st ++ [p]) := by
  unfold Incr
  rw [List.pairwise_append]
  refine ⟨hi, by simp, fun x hx y hy => ?_⟩
  obtain rfl := List.mem_singleton.1 hy
  have := lastS_ge hi x hx
  omega
theorem lastS_snoc (st : List Int) (p : Int) : lastS (st ++ [p]) = p := by simp [lastS]
/-- Scales at lower ends. -/
def AtL (L st : List Int) : Prop := Incr st ∧ ∀ x ∈ st, x ∈ L ∧ x ≠ -1
theorem most_fin {zs : List Rg} {L : List Int} (h : PlcOk zs L) (ho : validZ zs = true) {st : List Int} {steps : Int} (hs : AtL L st) (hl : (st.length : Int) ≤ steps) (hb : ∀ st', AtL L st' → (st'.length : Int) ≤ steps → cntM zs st' ≤ cntM zs st) : MostR zs steps st (cntM zs st : Int) := by
  refine ⟨hs.1, fun x hx => ?_, hl, rfl, fun st' h1 h2 => ?_⟩
  · obtain ⟨h1, h2⟩ := hs.2 x hx
    rcases h.only x h1 with e | ⟨r, hr, rfl⟩
    · exact absurd e h2
    · have := okZ_iff.1 (List.all_eq_true.1 ho r hr)
      omega
  · obtain ⟨s2, g1, g2, g3, g4⟩ := most_down h ho st'
    exact Nat.le_trans (cntM_mono g4) (hb s2 ⟨g1, g2⟩ (by omega))
theorem cntM_swap {zs : List Rg} (ho : validZ zs = true) {s1 s2 : List Int} {p : Int} (h1 : Incr s1) (h2 : Incr s2) (e : lastS s1 = lastS s2) (hp : lastS s2 < p) (hc : cntM zs s1 ≤ cntM zs s2) : cntM zs (s1 ++ [p]) ≤ cntM zs (s2 ++ [p]) := by
  rw [cntM_snoc ho h1 (by omega), cntM_snoc ho h2 hp, e]; omega
theorem AtL.last {L st : List Int} (h : AtL L st) : lastS st = -1 ∧ st = [] ∨ lastS st ∈ L ∧ lastS st ≠ -1 := by
  rcases lastS_mem (st := st) with e | e
  · exact .inl e
  · exact .inr (h.2 _ e)
theorem PlcOk.ge {zs : List Rg} {L : List Int} (h : PlcOk zs L) (ho : validZ zs = true) : ∀ x ∈ L, -1 ≤ x := by
  intro x hx
  rcases h.only x hx with e | ⟨r, hr, rfl⟩
  · omega
  · have := okZ_iff.1 (List.all_eq_true.1 ho r hr)
    omega
/-- What is cut off a scale: its last step. -/
theorem AtL.cut {L st : List Int} (hL : ∀ x ∈ L, -1 ≤ x) (h : AtL L st) (hne : st ≠ []) : ∃ s0 p, st = s0 ++ [p] ∧ AtL L s0 ∧ lastS s0 < p ∧ p ∈ L ∧ p ≠ -1 ∧ lastS st = p := by
  refine ⟨st.dropLast, st.getLast hne, (List.dropLast_concat_getLast hne).symm, ?_, ?_, ?_⟩
  · have e := List.dropLast_concat_getLast hne
    have h1 := h.1
    unfold Incr at h1
    rw [← e, List.pairwise_append] at h1
    exact ⟨h1.1, fun x hx => h.2 x (List.dropLast_subset st hx)⟩
  · have e := List.dropLast_concat_getLast hne
    have h1 := h.1
    unfold Incr at h1
    rw [← e, List.pairwise_append] at h1
    rcases lastS_mem (st := st.dropLast) with ⟨e', _⟩ | e'
    · have h2 := h.2 _ (List.getLast_mem hne)
      have := hL _ h2.1
      have := h2.2
      omega
    · exact h1.2.2 _ e' _ (by simp)
  · have hm := h.2 _ (List.getLast_mem hne)
    exact ⟨hm.1, hm.2, by simp [lastS, List.getLast?_eq_some_getLast hne]⟩
end Go.Proofs.Ytdfdlklglbefiaa

namespace Go.Proofs.Ytdfdlklglbefiaa
set_option linter.unusedSimpArgs false
set_option linter.unusedVariables false
open Go.RowKit Go.Shelf

theorem places70_ok (B : Nat) (C : Option Addr) (n cap : Nat) (zs : List Rg) (mt : Nat → Bool) (w : World) (h : Bd w B C n cap zs mt) (hn1 : 1 ≤ n) (hn : n ≤ 24) (ho : validZ zs = true) :
    Calls Try.prog 70 #[.pointer (some ⟨B, 0, none⟩)] w fun en w' => ∃ L D cp, PlcOk zs L ∧ en = .returned (.slice (some ⟨D, 0, none⟩) L.length cp) ∧ Ints w' (some ⟨D, 0, none⟩) L.length L ∧ L.length ≤ cp ∧ w.heap.size ≤ D ∧ Below w.heap.size w w' := by
  have hl := h.len
  refine (places70 compact91 B C n cap zs mt w h hn1 hn).mono ?_
  rintro en w' ⟨ys, D, cp, hg, rfl, hi, hcp, hD, hb⟩
  exact ⟨_, D, cp, places_ok ho (by rw [hl]; exact hg), rfl, hi, hcp, hD, hb⟩
end Go.Proofs.Ytdfdlklglbefiaa
