/- Stage 2: the laws' less; numbers and joins; the walk of JoinListed. -/
import Derived.Test.YtfmcfalghbaanaaLawP
import Derived.Test.YtfmcfalghbaanaaLaw0
import Derived.Shelf.RegionOpen
namespace Go.Proofs.Ytfmcfalghbaanaa
set_option linter.unusedSimpArgs false
set_option linter.unusedVariables false
open Go.RowKit

section
/-- Does the list xs come before the list ys, where they first differ? -/
def lessB : List St → List St → Bool
  | s :: xs, t :: ys => if s = t then lessB xs ys else befB s t
  | _, _ => false
theorem less_nil_right (xs : List St) : lessB xs [] = false := by cases xs <;> rfl
/-- The cells that a round of less reads. -/
structure Lk (w : World) (b o b2 o2 k : Nat) (s t : St) (W : World) : Prop where
  below : Below w.heap.size w W
  e0 : W.cell? ⟨b, o + k * 2, none⟩ = some (.int .i64 s.p)
  e1 : W.cell? ⟨b, o + k * 2 + 1, none⟩ = some (.bool s.turned)
  e2 : W.cell? ⟨b2, o2 + k * 2, none⟩ = some (.int .i64 t.p)
  e3 : W.cell? ⟨b2, o2 + k * 2 + 1, none⟩ = some (.bool t.turned)
theorem Lk.next {w : World} {b o b2 o2 k : Nat} {s t : St} {W W' : World} (hb : Below W.heap.size W W') (h : Lk w b o b2 o2 k s t W) : Lk w b o b2 o2 k s t W' := by
  have h1 := lt_of_cell h.e0
  have h2 := lt_of_cell h.e2
  exact ⟨h.below.trans (hb.mono h.below.size), (hb.cell (p := ⟨b, o + k * 2, none⟩) h1).trans h.e0, (hb.cell (p := ⟨b, o + k * 2 + 1, none⟩) h1).trans h.e1, (hb.cell (p := ⟨b2, o2 + k * 2, none⟩) h2).trans h.e2, (hb.cell (p := ⟨b2, o2 + k * 2 + 1, none⟩) h2).trans h.e3⟩
theorem Lk.all {w : World} {b o b2 o2 k : Nat} {s t : St} {W : World} (h : Lk w b o b2 o2 k s t W) : Lk w b o b2 o2 k s t W ∧ W.cell? ⟨b, o + k * 2, none⟩ = some (.int .i64 s.p) ∧ W.cell? ⟨b, o + k * 2 + 1, none⟩ = some (.bool s.turned) ∧ W.cell? ⟨b2, o2 + k * 2, none⟩ = some (.int .i64 t.p) ∧ W.cell? ⟨b2, o2 + k * 2 + 1, none⟩ = some (.bool t.turned) :=
  ⟨h, h.e0, h.e1, h.e2, h.e3⟩
theorem sAt_drop {xs : List St} {k : Nat} (h : k < xs.length) : xs.drop k = sAt xs k :: xs.drop (k + 1) := by
  rw [sAt_get h]
  exact List.drop_eq_getElem_cons h

set_option maxRecDepth 100000 in
set_option maxHeartbeats 4000000 in
theorem less36 (A C : Option Addr) (n cap m capm : Nat) (xs ys : List St) (w : World) (h : Sts w A n xs) (h2 : Sts w C m ys) (hn : n ≤ 1000000) (hm : m ≤ 1000000) :
    Calls Try.prog 36 #[.slice A n cap, .slice C m capm] w fun e w' => e = .returned (.bool (lessB xs ys)) ∧ Below w.heap.size w w' := by
  have Hx := Lib.hid h.1
  have Hy := Lib.hid h2.1
  go_enter Try.func36, Try.ntmps36
  go_wp2_with fail
  go_loopw [5] (fun i wr => ∃ k : Nat, k ≤ n ∧ k ≤ m ∧ i = .int .i64 (k : Int) ∧ lessB xs ys = lessB (xs.drop k) (ys.drop k) ∧ Below w.heap.size w wr) (fun i _ => n - (intOf i).toNat)
  case atStart => exact ⟨0, Nat.zero_le _, Nat.zero_le _, rfl, rfl, Below.refl _ _⟩
  case round =>
    obtain ⟨k, hk, hkm, rfl, heq, hB⟩ := hrel
    have HB := Lib.hid hB
    have Heq := Lib.hid heq
    by_cases hlt : k < n
    · have d1 : decide ((k : Int) < (n : Int)) = true := decide_eq_true (by omega)
      by_cases hltm : k < m
      · have d2 : decide ((k : Int) < (m : Int)) = true := decide_eq_true (by omega)
        have hx := h.below hB (Nat.le_refl _)
        have hy := h2.below hB (Nat.le_refl _)
        obtain ⟨b, o, rfl, hc⟩ := hx.2 (by omega)
        obtain ⟨b2, o2, rfl, hc2⟩ := hy.2 (by omega)
        obtain ⟨e0, e1⟩ := hc k hlt
        obtain ⟨e2, e3⟩ := hc2 k hltm
        have i0 : (0 : Int) ≤ (k : Int) := by omega
        have i1 : (k : Int) < (n : Int) := by omega
        have i2 : (k : Int) < (m : Int) := by omega
        have hxd := sAt_drop (xs := xs) (k := k) (by have := Hx.out; omega)
        have hyd := sAt_drop (xs := ys) (k := k) (by have := Hy.out; omega)
        rw [hxd, hyd] at heq
        have Heq2 := Lib.hid heq
        obtain ⟨s, hs⟩ : ∃ s, sAt xs k = s := ⟨_, rfl⟩
        obtain ⟨t, ht⟩ : ∃ t, sAt ys k = t := ⟨_, rfl⟩
        rw [hs] at e0 e1 Heq2
        rw [ht] at e2 e3 Heq2
        have hK : Lk w b o b2 o2 k s t wr := ⟨hB, e0, e1, e2, e3⟩
        have HBd := Lib.hid (show ∀ q, Lk w b o b2 o2 k s t (wr.drewN q) from fun q => hK.next (drew_b wr q))
        obtain ⟨sp, st⟩ := s
        obtain ⟨tp, tt⟩ := t
        simp only at e0 e1 e2 e3
        clear hc hc2 hx hy hs ht heq hB h h2 Heq hK hxd hyd
        by_cases hst : (⟨sp, st⟩ : St) = ⟨tp, tt⟩
        · have He := Lib.hid (show lessB xs ys = lessB (xs.drop (k + 1)) (ys.drop (k + 1)) by rw [Heq2.out]; simp only [lessB]; rw [if_pos hst])
          injection hst with q1 q2
          subst q1 q2
          go_wp2_with fail
          go_quiet (fail)
          go_wp2_with fail
          go_roundw
          case rel => exact ⟨k + 1, by omega, by omega, by go_num, He.out, (HBd.out _).below⟩
          case measure => simp [intOf]; omega
        · have He := Lib.hid (show lessB xs ys = befB ⟨sp, st⟩ ⟨tp, tt⟩ by rw [Heq2.out]; simp only [lessB]; rw [if_neg hst])
          have Hst := Lib.hid hst
          clear hst
          by_cases hp : sp = tp
          · have hq2 : (st == tt) = false := by rw [beq_eq_false_iff_ne]; intro e; exact Hst.out (by rw [hp, e])
            have Hp := Lib.hid hp
            subst hp
            go_wp2_with fail
            go_quiet (fail)
            go_wp2_with fail
            generalize hq : wr.drewN _ = wq
            have G2 : Lk w b o b2 o2 k ⟨sp, st⟩ ⟨sp, tt⟩ wq := by rw [← hq]; exact HBd.out _
            replace G2 := G2.all
            clear hq HBd e0 e1 e2 e3
            go_region_held3 (fun w' => Lk w b o b2 o2 k ⟨sp, st⟩ ⟨sp, tt⟩ w' ∧ w'.cell? ⟨b, o + k * 2, none⟩ = some (.int .i64 sp) ∧ w'.cell? ⟨b, o + k * 2 + 1, none⟩ = some (.bool st) ∧ w'.cell? ⟨b2, o2 + k * 2, none⟩ = some (.int .i64 sp) ∧ w'.cell? ⟨b2, o2 + k * 2 + 1, none⟩ = some (.bool tt))
              (first | (go_split_ands; exact Lk.all (Lk.next (by assumption) (by assumption))) | (go_split_ands; exact Lk.all (Lk.next (drew_b _ _) (by assumption))))
              (first
                | (go_at_call 63; refine (before63 _ _ _ _ _).mono ?_; rintro e w' ⟨rfl, hb⟩))
            go_wp2
            go_ret
            have hfin : Lk w b o b2 o2 k ⟨sp, st⟩ ⟨sp, tt⟩ w' := And.left (by assumption)
            exact ⟨ret_bool He.out.symm, hfin.below⟩
          · have hp2 : (sp == tp) = false := by rw [beq_eq_false_iff_ne]; exact hp
            clear hp
            go_wp2_with fail
            go_quiet (fail)
            go_wp2_with fail
            generalize hq : wr.drewN _ = wq
            have G2 : Lk w b o b2 o2 k ⟨sp, st⟩ ⟨tp, tt⟩ wq := by rw [← hq]; exact HBd.out _
            replace G2 := G2.all
            clear hq HBd e0 e1 e2 e3
            go_region_held3 (fun w' => Lk w b o b2 o2 k ⟨sp, st⟩ ⟨tp, tt⟩ w' ∧ w'.cell? ⟨b, o + k * 2, none⟩ = some (.int .i64 sp) ∧ w'.cell? ⟨b, o + k * 2 + 1, none⟩ = some (.bool st) ∧ w'.cell? ⟨b2, o2 + k * 2, none⟩ = some (.int .i64 tp) ∧ w'.cell? ⟨b2, o2 + k * 2 + 1, none⟩ = some (.bool tt))
              (first | (go_split_ands; exact Lk.all (Lk.next (by assumption) (by assumption))) | (go_split_ands; exact Lk.all (Lk.next (drew_b _ _) (by assumption))))
              (first
                | (go_at_call 63; refine (before63 _ _ _ _ _).mono ?_; rintro e w' ⟨rfl, hb⟩))
            go_wp2
            go_ret
            have hfin : Lk w b o b2 o2 k ⟨sp, st⟩ ⟨tp, tt⟩ w' := And.left (by assumption)
            exact ⟨ret_bool He.out.symm, hfin.below⟩
      · have d2 : decide ((k : Int) < (m : Int)) = false := decide_eq_false (by omega)
        have He := Lib.hid (show lessB xs ys = false by
          rw [heq, show ys.drop k = [] from List.drop_eq_nil_of_le (by have := Hy.out; omega)]
          exact less_nil_right _)
        clear heq hB
        go_wp2_with fail
        go_ret
        exact ⟨ret_bool He.out.symm, HB.out⟩
    · have d1 : decide ((k : Int) < (n : Int)) = false := decide_eq_false (by omega)
      have He := Lib.hid (show lessB xs ys = false by
        rw [heq, show xs.drop k = [] from List.drop_eq_nil_of_le (by have := Hx.out; omega)]
        rfl)
      clear heq hB
      go_wp2_with fail
      go_ret
      exact ⟨ret_bool He.out.symm, HB.out⟩
end

section
theorem codeS_stC (x : Nat) : codeS (stC x) = x := by
  unfold codeS stC
  simp only [Int.toNat_natCast, decide_eq_true_eq]
  split <;> omega
theorem stC_inj {x y : Nat} (h : stC x = stC y) : x = y := by rw [← codeS_stC x, h, codeS_stC]
theorem code_map (l : List Nat) : (l.map stC).map codeS = l := by
  rw [List.map_map]
  conv => rhs; rw [← List.map_id l]
  exact List.map_congr_left (fun x _ => codeS_stC x)
theorem nth_at {c : Cy} {k : Nat} (hc : chkC c = 0) (hk : k < (joinsC c).length) : nthR c k = ((joinsC c)[k].map stC, 0) := by
  unfold nthR
  rw [if_neg (by simpa using hc), if_neg (by omega)]
  simp [hk]
theorem nth_over {c : Cy} {k : Int} (hc : chkC c = 0) (hk : k < 0 ∨ ((joinsC c).length : Int) ≤ k) : nthR c k = ([], 3) := by
  unfold nthR
  rw [if_neg (by simpa using hc), if_pos hk]
theorem join_mem {c : Cy} {k : Nat} (hc : chkC c = 0) (hk : k < (joinsC c).length) : ckJoin c ((joinsC c)[k].map stC) = 0 := ckJoin_of hc (List.getElem_mem hk)
theorem rank_at {c : Cy} {k : Nat} (hc : chkC c = 0) (hk : k < (joinsC c).length) : rankR c ((joinsC c)[k].map stC) = ((k : Int), 0) := by
  unfold rankR
  rw [if_neg (by rw [join_mem hc hk]; simp), code_map]
  have hm : (joinsC c)[k] ∈ joinsC c := List.getElem_mem hk
  have hi : (joinsC c).idxOf (joinsC c)[k] < (joinsC c).length := List.idxOf_lt_length_of_mem hm
  have hg : (joinsC c)[(joinsC c).idxOf (joinsC c)[k]]'hi = (joinsC c)[k] := List.getElem_idxOf hi
  have : (joinsC c).idxOf (joinsC c)[k] = k := joins_inj (codes_sorted c.ps) (T := tabOf c) (n := c.ps.length) (x := (joinsC c)[k]) (by
    show (joinsC c)[_]? = _
    rw [List.getElem?_eq_getElem hi, hg]) (by
    show (joinsC c)[k]? = _
    exact List.getElem?_eq_getElem hk)
  rw [this]
theorem rank_of {c : Cy} {ss : List St} (h : ckJoin c ss = 0) : ∃ k : Nat, ∃ hk : k < (joinsC c).length, ss = (joinsC c)[k].map stC := by
  obtain ⟨hc, l, rfl, hl⟩ := join_of_ck h
  obtain ⟨k, hk, e⟩ := List.getElem_of_mem hl
  exact ⟨k, hk, by show List.map stC l = List.map stC ((joinsC c)[k]'hk); rw [show (joinsC c)[k]'hk = l from e]⟩
theorem rank_bad {c : Cy} {ss : List St} (h : ckJoin c ss ≠ 0) : rankR c ss = (0, ckJoin c ss) := by
  unfold rankR
  rw [if_pos h]
theorem bef_of_lt {a b : Nat} (h : a < b) : befB (stC a) (stC b) = true := by
  unfold befB stC
  simp only [Bool.or_eq_true, Bool.and_eq_true, decide_eq_true_eq, Bool.not_eq_true', decide_eq_false_iff_not]
  omega
theorem less_of_lex {x y : List Nat} (h : lexL x y) : lessB (x.map stC) (y.map stC) = true := by
  induction x generalizing y with
  | nil => cases y <;> exact h.elim
  | cons a l ih =>
    cases y with
    | nil => exact h.elim
    | cons b m =>
      simp only [List.map_cons, lessB]
      rcases h with h | ⟨rfl, h⟩
      · rw [if_neg (fun e => by have := stC_inj e; omega)]
        exact bef_of_lt h
      · rw [if_pos rfl]
        exact ih h
theorem less_irr (xs : List St) : lessB xs xs = false := by
  induction xs with
  | nil => rfl
  | cons s l ih => simp only [lessB, if_true]; exact ih
theorem less_nth {c : Cy} {i j : Nat} (hj : j < (joinsC c).length) (h : i < j) : lessB ((joinsC c)[i].map stC) ((joinsC c)[j].map stC) = true :=
  less_of_lex (joins_sorted (codes_sorted c.ps) (T := tabOf c) (n := c.ps.length) (i := i) (j := j) (by
    show (joinsC c)[i]? = _
    exact List.getElem?_eq_getElem (by omega)) (by
    show (joinsC c)[j]? = _
    exact List.getElem?_eq_getElem hj) h)
theorem nth_eq {c : Cy} {i j : Nat} (hi : i < (joinsC c).length) (hj : j < (joinsC c).length) (h : (joinsC c)[i].map stC = (joinsC c)[j].map stC) : i = j := by
  have h2 := congrArg (List.map codeS) h
  rw [code_map, code_map] at h2
  exact joins_inj (codes_sorted c.ps) (T := tabOf c) (n := c.ps.length) (x := (joinsC c)[j]) (by
    show (joinsC c)[i]? = _
    rw [List.getElem?_eq_getElem hi, h2]) (by
    show (joinsC c)[j]? = _
    exact List.getElem?_eq_getElem hj)
end

section
open Go.Shelf
attribute [local go_sem] Oper.semAt_some

/-- What the laws with a cylinder and a list have taken over. -/
structure Kz (w : World) (B : Nat) (A : Option Addr) (n cap : Nat) (off lo hi : Int) (ps : List Pc) (C : Option Addr) (m : Nat) (ss : List St) (W : World) : Prop where
  below : Below w.heap.size w W
  r0 : W.heap[B]? = some (.cells #[.slice A n cap, .int .i64 off, .int .i64 lo, .int .i64 hi] 26 (0, 0))
  pcs : Pcs W A n ps
  st : Sts W C m ss
section
variable {w : World} {B : Nat} {A : Option Addr} {n cap : Nat} {off lo hi : Int} {ps : List Pc} {C : Option Addr} {m : Nat} {ss : List St} {W W' : World}
theorem Kz.next (h : Kz w B A n cap off lo hi ps C m ss W) (hb : Below W.heap.size W W') : Kz w B A n cap off lo hi ps C m ss W' :=
  ⟨h.below.trans (hb.mono h.below.size), (hb.block _ (lt_of_block h.r0)).trans h.r0, h.pcs.below hb (Nat.le_refl _), h.st.below hb (Nat.le_refl _)⟩
theorem Kz.c (h : Kz w B A n cap off lo hi ps C m ss W) :
    W.cell? ⟨B, 0, none⟩ = some (.slice A n cap) ∧ W.cell? ⟨B, 1, none⟩ = some (.int .i64 off) ∧ W.cell? ⟨B, 2, none⟩ = some (.int .i64 lo) ∧ W.cell? ⟨B, 3, none⟩ = some (.int .i64 hi) :=
  ⟨by rw [cell_row h.r0]; rfl, by rw [cell_row h.r0]; rfl, by rw [cell_row h.r0]; rfl, by rw [cell_row h.r0]; rfl⟩
theorem Kz.new (h : Pcs w A n ps) (hs : Sts w C m ss) : Kz w w.heap.size A n cap off lo hi ps C m ss (w.alloc (.cells #[.slice A n cap, .int .i64 off, .int .i64 lo, .int .i64 hi] 26)) := by
  have h1 := below_alloc_ w (.cells #[.slice A n cap, .int .i64 off, .int .i64 lo, .int .i64 hi] 26)
  exact ⟨h1, heap_alloc_new_ w _, h.below h1 (Nat.le_refl _), hs.below h1 (Nat.le_refl _)⟩
end

theorem join_len {c : Cy} {ss : List St} (hc : chkC c = 0) (h : ckJoin c ss = 0) : ss.length = c.ps.length := by
  by_cases he : ss.length = c.ps.length
  · exact he
  · have := ckJoin_len (ss := ss) hc he
    rw [h] at this
    cases this
set_option maxRecDepth 100000 in
set_option maxHeartbeats 20000000 in
theorem listed6 (A : Option Addr) (n cap : Nat) (off lo hi : Int) (a b : Nat) (ps : List Pc) (C : Option Addr) (m cp : Nat) (ss : List St) (w : World) (h : Pcs w A n ps) (hs : Sts w C m ss) (hn : n ≤ 9223372036854775807) (hm : m ≤ 9223372036854775807) (hcp : m ≤ cp) (ha : a ≤ 4294967295) (hb : b ≤ 4294967295) :
    Calls Try.prog 6 #[cyl A n cap off lo hi, .int .u32 (a : Int), .int .u32 (b : Int), .slice C m cp] w fun e w' => e = .returned (.bool true) ∧ Below w.heap.size w w' := by
  have hk : Kz w w.heap.size A n cap off lo hi ps C m ss _ := Kz.new (cap := cap) (off := off) (lo := lo) (hi := hi) h hs
  have K := Lib.hid hk
  have Hn := Lib.hid hn
  have Hm := Lib.hid hm
  have Hcp := Lib.hid hcp
  have Hab := Lib.hid (And.intro ha hb)
  clear h hs hn hm hcp hk ha hb
  unfold cyl
  go_enter Try.func6, Try.ntmps6
  go_wp2_with fail
  generalize (w.alloc (.cells #[.slice A n cap, .int .i64 off, .int .i64 lo, .int .i64 hi] 26)) = W0 at K ⊢
  obtain ⟨B, hB⟩ : ∃ B, w.heap.size = B := ⟨_, rfl⟩
  replace K := Lib.hid (show Kz w B A n cap off lo hi ps C m ss W0 from by rw [← hB]; exact K.out)
  rw [hB]
  clear hB
  refine (fine35 A n cap off lo hi ps W0 K.out.pcs Hn.out).mono ?_
  rintro e W1 ⟨rfl, hb⟩
  replace K := Lib.hid (K.out.next hb)
  clear hb
  obtain ⟨f, hf⟩ : ∃ f, fineB ⟨ps, off, ⟨lo, hi⟩⟩ = f := ⟨_, rfl⟩
  rw [hf]
  have Hf := Lib.hid hf
  clear hf
  cases f with
  | false =>
    go_wp2_with fail
    refine (works13 _).mono ?_
    rintro e W2 ⟨rfl, hb⟩
    have HB := Lib.hid (K.out.next hb)
    clear hb
    go_wp2_with fail
    go_ret
    exact ⟨rfl, HB.out.below⟩
  | true =>
    by_cases h12 : (12 : Int) < (m : Int)
    · have d12 : decide ((12 : Int) < (m : Int)) = true := decide_eq_true h12
      clear h12
      go_wp2_with fail
      refine (works13 _).mono ?_
      rintro e W2 ⟨rfl, hb⟩
      have HB := Lib.hid (K.out.next hb)
      clear hb
      go_wp2_with fail
      go_ret
      exact ⟨rfl, HB.out.below⟩
    · have d12 : decide ((12 : Int) < (m : Int)) = false := decide_eq_false h12
      clear h12
      have he : chkC ⟨ps, off, ⟨lo, hi⟩⟩ = 0 := by
        have := Hf.out
        unfold fineB at this
        simp only [Bool.and_eq_true, decide_eq_true_eq] at this
        exact this.2
      have He := Lib.hid he
      have H8 := Lib.hid (show ps.length ≤ 12 from by have := Hf.out; unfold fineB at this; simp only [Bool.and_eq_true, decide_eq_true_eq] at this; exact this.1)
      clear he
      obtain ⟨c0, c1, c2, c3⟩ := K.out.c
      go_wp2_with fail
      refine (count21 A n cap off lo hi ps _ K.out.pcs Hn.out).mono ?_
      rintro e W2 ⟨rfl, hb⟩
      rw [show countR ⟨ps, off, ⟨lo, hi⟩⟩ = (((joinsC ⟨ps, off, ⟨lo, hi⟩⟩).length : Int), 0) from by unfold countR; rw [if_neg (by rw [He.out]; simp)]; rfl]
      replace K := Lib.hid (K.out.next hb)
      clear hb c0 c1 c2 c3
      have H12 := Lib.hid (show m ≤ 12 from by have := of_decide_eq_false d12; omega)
      clear d12
      have HN := Lib.hid (show True from trivial)
      obtain ⟨N, hN⟩ : ∃ N, (joinsC ⟨ps, off, ⟨lo, hi⟩⟩).length = N := ⟨_, rfl⟩
      rw [hN]
      replace HN := Lib.hid hN
      clear hN
      obtain ⟨c0, c1, c2, c3⟩ := K.out.c
      go_wp2_with fail
      refine (nth23 A n cap off lo hi (N : Int) ps _ K.out.pcs Hn.out).mono ?_
      rintro e W3 ⟨C1, m1, rfl, -, hb⟩
      rw [nth_over He.out (.inr (by rw [HN.out]; exact Int.le_refl _))]
      replace K := Lib.hid (K.out.next hb)
      clear hb c0 c1 c2 c3
      obtain ⟨c0, c1, c2, c3⟩ := K.out.c
      go_wp2_with fail
      refine (nth23 A n cap off lo hi (-1) ps _ K.out.pcs Hn.out).mono ?_
      rintro e W4 ⟨C2, m2, rfl, -, hb⟩
      rw [nth_over He.out (.inl (by omega))]
      replace K := Lib.hid (K.out.next hb)
      clear hb c0 c1 c2 c3
      have dN : decide ((N : Int) < 0) = false := decide_eq_false (by omega)
      obtain ⟨c0, c1, c2, c3⟩ := K.out.c
      go_wp2_with fail
      refine (rank25 A C n cap m cp off lo hi ps ss _ K.out.pcs K.out.st Hn.out Hm.out Hcp.out).mono ?_
      rintro e W5 ⟨rfl, hb⟩
      replace K := Lib.hid (K.out.next hb)
      clear hb c0 c1 c2 c3
      obtain ⟨c0, c1, c2, c3⟩ := K.out.c
      go_wp2_with fail
      refine (checkJoin19 A C n cap m cp off lo hi ps ss _ K.out.pcs K.out.st Hn.out Hm.out).mono ?_
      rintro e W6 ⟨rfl, hb⟩
      replace K := Lib.hid (K.out.next hb)
      clear hb c0 c1 c2 c3
      by_cases hj : ckJoin ⟨ps, off, ⟨lo, hi⟩⟩ ss = 0
      · obtain ⟨k, hk, hss⟩ := rank_of hj
        have hrk : rankR ⟨ps, off, ⟨lo, hi⟩⟩ ss = ((k : Int), 0) := by rw [hss]; exact rank_at He.out hk
        have hnk : nthR ⟨ps, off, ⟨lo, hi⟩⟩ (k : Int) = (ss, 0) := by rw [hss]; exact nth_at He.out hk
        rw [hj, hrk]
        have hkN : k < N := by rw [← HN.out]; exact hk
        have hkN2 : ¬ N ≤ k := by omega
        have dk0 : decide ((k : Int) < 0) = false := decide_eq_false (by omega)
        have dk1 : decide ((N : Int) ≤ (k : Int)) = false := decide_eq_false (by omega)
        have dN0 : ((N : Int) == 0) = false := by rw [beq_eq_false_iff_ne]; omega
        have Hnk := Lib.hid hnk
        have Hj := Lib.hid hj
        have HNp := Lib.hid (show 0 < N from by omega)
        clear hj hnk hrk hss hk
        obtain ⟨c0, c1, c2, c3⟩ := K.out.c
        go_wp2_with fail
        refine (nth23 A n cap off lo hi (k : Int) ps _ K.out.pcs Hn.out).mono ?_
        rintro e W7 ⟨C3, m3, rfl, hs3, hb⟩
        rw [Hnk.out] at hs3 ⊢
        replace K := Lib.hid (K.out.next hb)
        obtain rfl : m = m3 := by rw [← hs3.1, ← K.out.st.1]
        have S3 := Lib.hid hs3
        clear hb c0 c1 c2 c3 hs3
        go_wp2_with fail
        refine (same29_eq C3 C m m cp ss _ S3.out K.out.st (by have := H12.out; omega)).mono ?_
        rintro e W8 ⟨rfl, hb⟩
        replace K := Lib.hid (K.out.next hb)
        clear hb S3
        go_wp2_with fail
        obtain ⟨x, hx⟩ : ∃ x, a % N = x := ⟨_, rfl⟩
        obtain ⟨y, hy⟩ : ∃ y, b % N = y := ⟨_, rfl⟩
        have hab := Hab.out
        have hxN : x < N := by rw [← hx]; exact Nat.mod_lt _ HNp.out
        have hyN : y < N := by rw [← hy]; exact Nat.mod_lt _ HNp.out
        have x1 : (a : Int) % (N : Int) = (x : Int) := by rw [← hx]; exact (Int.natCast_emod a N).symm
        have x2 : (a : Int).tmod (N : Int) = (x : Int) := by rw [Int.tmod_eq_emod_of_nonneg (by omega)]; exact x1
        have y1 : (b : Int) % (N : Int) = (y : Int) := by rw [← hy]; exact (Int.natCast_emod b N).symm
        have y2 : (b : Int).tmod (N : Int) = (y : Int) := by rw [Int.tmod_eq_emod_of_nonneg (by omega)]; exact y1
        have HX := Lib.hid (And.intro hxN hyN)
        clear hx hy hxN hyN
        obtain ⟨ha, hb⟩ := hab
        have HKd := Lib.hid (show ∀ q', Kz w B A n cap off lo hi ps C m ss (W8.drewN q') from fun q' => K.out.next (drew_b W8 q'))
        go_quiet (fail)
        clear K x1 x2 y1 y2 ha hb
        generalize hW9 : W8.drewN _ = W9
        have K := Lib.hid (show Kz w B A n cap off lo hi ps C m ss W9 from by rw [← hW9]; exact HKd.out _)
        clear hW9 HKd
        obtain ⟨c0, c1, c2, c3⟩ := K.out.c
        rcases Nat.lt_trichotomy x y with hxy | hxy | hxy
        · have z1 : (x : Int) < (y : Int) := by omega
          have z2 : ¬ (y : Int) < (x : Int) := by omega
          have z4 : ((x : Int) != (y : Int)) = true := by rw [bne_iff_ne]; omega
          have z5 : ((x : Int) == (y : Int)) = false := by rw [beq_eq_false_iff_ne]; omega
          obtain ⟨hP, hQ⟩ : x < N ∧ y < N := ⟨HX.out.1, HX.out.2⟩
          rw [← HN.out] at hP hQ
          have np := Lib.hid (nth_at He.out hP)
          have nq := Lib.hid (nth_at He.out hQ)
          have jp := Lib.hid (join_mem He.out hP)
          have jq := Lib.hid (join_mem He.out hQ)
          have rp := Lib.hid (rank_at He.out hP)
          have rq := Lib.hid (rank_at He.out hQ)
          have Hle := Lib.hid (less_nth hQ (show x < y by omega))
          have Hne := Lib.hid (show decide ((joinsC ⟨ps, off, ⟨lo, hi⟩⟩)[x].map stC = (joinsC ⟨ps, off, ⟨lo, hi⟩⟩)[y].map stC) = false from decide_eq_false (fun e => by have := nth_eq hP hQ e; omega))
          obtain ⟨sp, hsp⟩ : ∃ sp, (joinsC ⟨ps, off, ⟨lo, hi⟩⟩)[x].map stC = sp := ⟨_, rfl⟩
          obtain ⟨sq, hsq⟩ : ∃ sq, (joinsC ⟨ps, off, ⟨lo, hi⟩⟩)[y].map stC = sq := ⟨_, rfl⟩
          rw [hsp, hsq] at Hle Hne
          rw [hsp] at np jp rp
          rw [hsq] at nq jq rq
          have lq := Lib.hid (join_len He.out jq.out)
          have lp := Lib.hid (join_len He.out jp.out)
          clear hsp hP hQ hsq
          obtain ⟨c0, c1, c2, c3⟩ := K.out.c
          go_wp2_with fail
          refine (nth23 A n cap off lo hi (x : Int) ps _ K.out.pcs Hn.out).mono ?_
          rintro e WA ⟨C4, m4, rfl, hs4, hb⟩
          rw [np.out] at hs4 ⊢
          have S4 := Lib.hid hs4
          clear hs4
          replace K := Lib.hid (K.out.next hb)
          clear hb
          clear c0 c1 c2 c3
          obtain ⟨c0, c1, c2, c3⟩ := K.out.c
          go_wp2_with fail
          refine (nth23 A n cap off lo hi (y : Int) ps _ K.out.pcs Hn.out).mono ?_
          rintro e WB ⟨C5, m5, rfl, hs5, hb⟩
          rw [nq.out] at hs5 ⊢
          have S5 := Lib.hid hs5
          clear hs5
          replace S4 := Lib.hid (S4.out.below hb (Nat.le_refl _))
          replace K := Lib.hid (K.out.next hb)
          clear hb
          clear c0 c1 c2 c3
          have h4 := Lib.hid (show m4 ≤ 12 from by rw [← S4.out.1, lp.out]; exact H8.out)
          have h5 := Lib.hid (show m5 ≤ 12 from by rw [← S5.out.1, lq.out]; exact H8.out)
          obtain ⟨c0, c1, c2, c3⟩ := K.out.c
          go_wp2_with fail
          refine (checkJoin19 A C4 n cap m4 m4 off lo hi ps sp _ K.out.pcs S4.out Hn.out (by have := h4.out; omega)).mono ?_
          rintro e WC ⟨rfl, hb⟩
          rw [jp.out]
          replace S4 := Lib.hid (S4.out.below hb (Nat.le_refl _))
          replace S5 := Lib.hid (S5.out.below hb (Nat.le_refl _))
          replace K := Lib.hid (K.out.next hb)
          clear hb
          clear c0 c1 c2 c3
          obtain ⟨c0, c1, c2, c3⟩ := K.out.c
          go_wp2_with fail
          refine (checkJoin19 A C5 n cap m5 m5 off lo hi ps sq _ K.out.pcs S5.out Hn.out (by have := h5.out; omega)).mono ?_
          rintro e WD ⟨rfl, hb⟩
          rw [jq.out]
          replace S4 := Lib.hid (S4.out.below hb (Nat.le_refl _))
          replace S5 := Lib.hid (S5.out.below hb (Nat.le_refl _))
          replace K := Lib.hid (K.out.next hb)
          clear hb
          clear c0 c1 c2 c3
          obtain ⟨c0, c1, c2, c3⟩ := K.out.c
          go_wp2_with fail
          refine (less36 C4 C5 m4 m4 m5 m5 sp sq _ S4.out S5.out (by have := h4.out; omega) (by have := h5.out; omega)).mono ?_
          rintro e WE ⟨rfl, hb⟩
          rw [Hle.out]
          replace S4 := Lib.hid (S4.out.below hb (Nat.le_refl _))
          replace S5 := Lib.hid (S5.out.below hb (Nat.le_refl _))
          replace K := Lib.hid (K.out.next hb)
          clear hb
          go_wp2_with fail
          refine (same29 C4 C5 m4 m4 m5 m5 sp sq _ S4.out S5.out (by have := h4.out; omega) (by have := h5.out; omega)).mono ?_
          rintro e WF ⟨rfl, hb⟩
          rw [Hne.out]
          replace S4 := Lib.hid (S4.out.below hb (Nat.le_refl _))
          replace S5 := Lib.hid (S5.out.below hb (Nat.le_refl _))
          replace K := Lib.hid (K.out.next hb)
          clear hb
          clear c0 c1 c2 c3
          obtain ⟨c0, c1, c2, c3⟩ := K.out.c
          go_wp2_with fail
          refine (rank25 A C4 n cap m4 m4 off lo hi ps sp _ K.out.pcs S4.out Hn.out (by have := h4.out; omega) (Nat.le_refl _)).mono ?_
          rintro e WG ⟨rfl, hb⟩
          rw [rp.out]
          replace S5 := Lib.hid (S5.out.below hb (Nat.le_refl _))
          replace K := Lib.hid (K.out.next hb)
          clear hb
          clear c0 c1 c2 c3
          obtain ⟨c0, c1, c2, c3⟩ := K.out.c
          go_wp2_with fail
          refine (rank25 A C5 n cap m5 m5 off lo hi ps sq _ K.out.pcs S5.out Hn.out (by have := h5.out; omega) (Nat.le_refl _)).mono ?_
          rintro e WH ⟨rfl, hb⟩
          rw [rq.out]
          replace K := Lib.hid (K.out.next hb)
          clear hb
          clear c0 c1 c2 c3
          go_wp2_with fail
          refine (works13 _).mono ?_
          rintro e WI ⟨rfl, hb⟩
          replace K := Lib.hid (K.out.next hb)
          clear hb
          go_wp2_with fail
          go_ret
          exact ⟨rfl, K.out.below⟩
        · subst hxy
          obtain ⟨hP, hQ⟩ : x < N ∧ x < N := ⟨HX.out.1, HX.out.1⟩
          rw [← HN.out] at hP hQ
          have np := Lib.hid (nth_at He.out hP)
          have nq := Lib.hid (nth_at He.out hQ)
          have jp := Lib.hid (join_mem He.out hP)
          have jq := Lib.hid (join_mem He.out hQ)
          have rp := Lib.hid (rank_at He.out hP)
          have rq := Lib.hid (rank_at He.out hQ)
          have Hle := Lib.hid (less_irr ((joinsC ⟨ps, off, ⟨lo, hi⟩⟩)[x].map stC))
          obtain ⟨sp, hsp⟩ : ∃ sp, (joinsC ⟨ps, off, ⟨lo, hi⟩⟩)[x].map stC = sp := ⟨_, rfl⟩
          rw [hsp] at Hle np jp rp nq jq rq
          have lp := Lib.hid (join_len He.out jp.out)
          clear hsp hP hQ
          obtain ⟨c0, c1, c2, c3⟩ := K.out.c
          go_wp2_with fail
          refine (nth23 A n cap off lo hi (x : Int) ps _ K.out.pcs Hn.out).mono ?_
          rintro e WA ⟨C4, m4, rfl, hs4, hb⟩
          rw [np.out] at hs4 ⊢
          have S4 := Lib.hid hs4
          clear hs4
          replace K := Lib.hid (K.out.next hb)
          clear hb
          clear c0 c1 c2 c3
          obtain ⟨c0, c1, c2, c3⟩ := K.out.c
          go_wp2_with fail
          refine (nth23 A n cap off lo hi (x : Int) ps _ K.out.pcs Hn.out).mono ?_
          rintro e WB ⟨C5, m5, rfl, hs5, hb⟩
          rw [nq.out] at hs5 ⊢
          have S5 := Lib.hid hs5
          clear hs5
          replace S4 := Lib.hid (S4.out.below hb (Nat.le_refl _))
          replace K := Lib.hid (K.out.next hb)
          clear hb
          clear c0 c1 c2 c3
          have h4 := Lib.hid (show m4 ≤ 12 from by rw [← S4.out.1, lp.out]; exact H8.out)
          have h5 := Lib.hid (show m5 ≤ 12 from by rw [← S5.out.1, lp.out]; exact H8.out)
          obtain ⟨c0, c1, c2, c3⟩ := K.out.c
          go_wp2_with fail
          refine (checkJoin19 A C4 n cap m4 m4 off lo hi ps sp _ K.out.pcs S4.out Hn.out (by have := h4.out; omega)).mono ?_
          rintro e WC ⟨rfl, hb⟩
          rw [jp.out]
          replace S4 := Lib.hid (S4.out.below hb (Nat.le_refl _))
          replace S5 := Lib.hid (S5.out.below hb (Nat.le_refl _))
          replace K := Lib.hid (K.out.next hb)
          clear hb
          clear c0 c1 c2 c3
          obtain ⟨c0, c1, c2, c3⟩ := K.out.c
          go_wp2_with fail
          refine (checkJoin19 A C5 n cap m5 m5 off lo hi ps sp _ K.out.pcs S5.out Hn.out (by have := h5.out; omega)).mono ?_
          rintro e WD ⟨rfl, hb⟩
          rw [jq.out]
          replace S4 := Lib.hid (S4.out.below hb (Nat.le_refl _))
          replace S5 := Lib.hid (S5.out.below hb (Nat.le_refl _))
          replace K := Lib.hid (K.out.next hb)
          clear hb
          clear c0 c1 c2 c3
          obtain ⟨c0, c1, c2, c3⟩ := K.out.c
          go_wp2_with fail
          refine (less36 C4 C5 m4 m4 m5 m5 sp sp _ S4.out S5.out (by have := h4.out; omega) (by have := h5.out; omega)).mono ?_
          rintro e WE ⟨rfl, hb⟩
          rw [Hle.out]
          replace S4 := Lib.hid (S4.out.below hb (Nat.le_refl _))
          replace S5 := Lib.hid (S5.out.below hb (Nat.le_refl _))
          replace K := Lib.hid (K.out.next hb)
          clear hb
          go_wp2_with fail
          refine (same29 C4 C5 m4 m4 m5 m5 sp sp _ S4.out S5.out (by have := h4.out; omega) (by have := h5.out; omega)).mono ?_
          rintro e WF ⟨rfl, hb⟩
          rw [decide_eq_true rfl]
          replace S4 := Lib.hid (S4.out.below hb (Nat.le_refl _))
          replace S5 := Lib.hid (S5.out.below hb (Nat.le_refl _))
          replace K := Lib.hid (K.out.next hb)
          clear hb
          clear c0 c1 c2 c3
          obtain ⟨c0, c1, c2, c3⟩ := K.out.c
          go_wp2_with fail
          refine (rank25 A C4 n cap m4 m4 off lo hi ps sp _ K.out.pcs S4.out Hn.out (by have := h4.out; omega) (Nat.le_refl _)).mono ?_
          rintro e WG ⟨rfl, hb⟩
          rw [rp.out]
          replace S5 := Lib.hid (S5.out.below hb (Nat.le_refl _))
          replace K := Lib.hid (K.out.next hb)
          clear hb
          clear c0 c1 c2 c3
          obtain ⟨c0, c1, c2, c3⟩ := K.out.c
          go_wp2_with fail
          refine (rank25 A C5 n cap m5 m5 off lo hi ps sp _ K.out.pcs S5.out Hn.out (by have := h5.out; omega) (Nat.le_refl _)).mono ?_
          rintro e WH ⟨rfl, hb⟩
          rw [rq.out]
          replace K := Lib.hid (K.out.next hb)
          clear hb
          clear c0 c1 c2 c3
          go_wp2_with fail
          refine (works13 _).mono ?_
          rintro e WI ⟨rfl, hb⟩
          replace K := Lib.hid (K.out.next hb)
          clear hb
          go_wp2_with fail
          go_ret
          exact ⟨rfl, K.out.below⟩
        · have z1 : ¬ (x : Int) < (y : Int) := by omega
          have z2 : (y : Int) < (x : Int) := by omega
          have z4 : ((x : Int) != (y : Int)) = true := by rw [bne_iff_ne]; omega
          have z5 : ((x : Int) == (y : Int)) = false := by rw [beq_eq_false_iff_ne]; omega
          obtain ⟨hP, hQ⟩ : y < N ∧ x < N := ⟨HX.out.2, HX.out.1⟩
          rw [← HN.out] at hP hQ
          have np := Lib.hid (nth_at He.out hP)
          have nq := Lib.hid (nth_at He.out hQ)
          have jp := Lib.hid (join_mem He.out hP)
          have jq := Lib.hid (join_mem He.out hQ)
          have rp := Lib.hid (rank_at He.out hP)
          have rq := Lib.hid (rank_at He.out hQ)
          have Hle := Lib.hid (less_nth hQ (show y < x by omega))
          have Hne := Lib.hid (show decide ((joinsC ⟨ps, off, ⟨lo, hi⟩⟩)[y].map stC = (joinsC ⟨ps, off, ⟨lo, hi⟩⟩)[x].map stC) = false from decide_eq_false (fun e => by have := nth_eq hP hQ e; omega))
          obtain ⟨sp, hsp⟩ : ∃ sp, (joinsC ⟨ps, off, ⟨lo, hi⟩⟩)[y].map stC = sp := ⟨_, rfl⟩
          obtain ⟨sq, hsq⟩ : ∃ sq, (joinsC ⟨ps, off, ⟨lo, hi⟩⟩)[x].map stC = sq := ⟨_, rfl⟩
          rw [hsp, hsq] at Hle Hne
          rw [hsp] at np jp rp
          rw [hsq] at nq jq rq
          have lq := Lib.hid (join_len He.out jq.out)
          have lp := Lib.hid (join_len He.out jp.out)
          clear hsp hP hQ hsq
          obtain ⟨c0, c1, c2, c3⟩ := K.out.c
          go_wp2_with fail
          refine (nth23 A n cap off lo hi (y : Int) ps _ K.out.pcs Hn.out).mono ?_
          rintro e WA ⟨C4, m4, rfl, hs4, hb⟩
          rw [np.out] at hs4 ⊢
          have S4 := Lib.hid hs4
          clear hs4
          replace K := Lib.hid (K.out.next hb)
          clear hb
          clear c0 c1 c2 c3
          obtain ⟨c0, c1, c2, c3⟩ := K.out.c
          go_wp2_with fail
          refine (nth23 A n cap off lo hi (x : Int) ps _ K.out.pcs Hn.out).mono ?_
          rintro e WB ⟨C5, m5, rfl, hs5, hb⟩
          rw [nq.out] at hs5 ⊢
          have S5 := Lib.hid hs5
          clear hs5
          replace S4 := Lib.hid (S4.out.below hb (Nat.le_refl _))
          replace K := Lib.hid (K.out.next hb)
          clear hb
          clear c0 c1 c2 c3
          have h4 := Lib.hid (show m4 ≤ 12 from by rw [← S4.out.1, lp.out]; exact H8.out)
          have h5 := Lib.hid (show m5 ≤ 12 from by rw [← S5.out.1, lq.out]; exact H8.out)
          obtain ⟨c0, c1, c2, c3⟩ := K.out.c
          go_wp2_with fail
          refine (checkJoin19 A C4 n cap m4 m4 off lo hi ps sp _ K.out.pcs S4.out Hn.out (by have := h4.out; omega)).mono ?_
          rintro e WC ⟨rfl, hb⟩
          rw [jp.out]
          replace S4 := Lib.hid (S4.out.below hb (Nat.le_refl _))
          replace S5 := Lib.hid (S5.out.below hb (Nat.le_refl _))
          replace K := Lib.hid (K.out.next hb)
          clear hb
          clear c0 c1 c2 c3
          obtain ⟨c0, c1, c2, c3⟩ := K.out.c
          go_wp2_with fail
          refine (checkJoin19 A C5 n cap m5 m5 off lo hi ps sq _ K.out.pcs S5.out Hn.out (by have := h5.out; omega)).mono ?_
          rintro e WD ⟨rfl, hb⟩
          rw [jq.out]
          replace S4 := Lib.hid (S4.out.below hb (Nat.le_refl _))
          replace S5 := Lib.hid (S5.out.below hb (Nat.le_refl _))
          replace K := Lib.hid (K.out.next hb)
          clear hb
          clear c0 c1 c2 c3
          obtain ⟨c0, c1, c2, c3⟩ := K.out.c
          go_wp2_with fail
          refine (less36 C4 C5 m4 m4 m5 m5 sp sq _ S4.out S5.out (by have := h4.out; omega) (by have := h5.out; omega)).mono ?_
          rintro e WE ⟨rfl, hb⟩
          rw [Hle.out]
          replace S4 := Lib.hid (S4.out.below hb (Nat.le_refl _))
          replace S5 := Lib.hid (S5.out.below hb (Nat.le_refl _))
          replace K := Lib.hid (K.out.next hb)
          clear hb
          go_wp2_with fail
          refine (same29 C4 C5 m4 m4 m5 m5 sp sq _ S4.out S5.out (by have := h4.out; omega) (by have := h5.out; omega)).mono ?_
          rintro e WF ⟨rfl, hb⟩
          rw [Hne.out]
          replace S4 := Lib.hid (S4.out.below hb (Nat.le_refl _))
          replace S5 := Lib.hid (S5.out.below hb (Nat.le_refl _))
          replace K := Lib.hid (K.out.next hb)
          clear hb
          clear c0 c1 c2 c3
          obtain ⟨c0, c1, c2, c3⟩ := K.out.c
          go_wp2_with fail
          refine (rank25 A C4 n cap m4 m4 off lo hi ps sp _ K.out.pcs S4.out Hn.out (by have := h4.out; omega) (Nat.le_refl _)).mono ?_
          rintro e WG ⟨rfl, hb⟩
          rw [rp.out]
          replace S5 := Lib.hid (S5.out.below hb (Nat.le_refl _))
          replace K := Lib.hid (K.out.next hb)
          clear hb
          clear c0 c1 c2 c3
          obtain ⟨c0, c1, c2, c3⟩ := K.out.c
          go_wp2_with fail
          refine (rank25 A C5 n cap m5 m5 off lo hi ps sq _ K.out.pcs S5.out Hn.out (by have := h5.out; omega) (Nat.le_refl _)).mono ?_
          rintro e WH ⟨rfl, hb⟩
          rw [rq.out]
          replace K := Lib.hid (K.out.next hb)
          clear hb
          clear c0 c1 c2 c3
          go_wp2_with fail
          refine (works13 _).mono ?_
          rintro e WI ⟨rfl, hb⟩
          replace K := Lib.hid (K.out.next hb)
          clear hb
          go_wp2_with fail
          go_ret
          exact ⟨rfl, K.out.below⟩
      · have hrk := rank_bad hj
        obtain ⟨r, hr⟩ : ∃ r, ckJoin ⟨ps, off, ⟨lo, hi⟩⟩ ss = r := ⟨_, rfl⟩
        rw [hrk]
        rw [hr] at hj ⊢
        have dr : (r == 0) = false := by rw [beq_eq_false_iff_ne]; exact hj
        have Hr := Lib.hid hr
        clear hj hrk hr
        obtain ⟨c0, c1, c2, c3⟩ := K.out.c
        go_wp2_with fail
        refine (checkJoin19 A C n cap m cp off lo hi ps ss _ K.out.pcs K.out.st Hn.out Hm.out).mono ?_
        rintro e W9 ⟨rfl, hb⟩
        replace K := Lib.hid (K.out.next hb)
        rw [Hr.out]
        clear hb c0 c1 c2 c3
        by_cases hN0 : N = 0
        · subst hN0
          go_wp2_with fail
          refine (works13 _).mono ?_
          rintro e W10 ⟨rfl, hb⟩
          have HB := Lib.hid (K.out.next hb)
          clear hb
          go_wp2_with fail
          go_ret
          exact ⟨rfl, HB.out.below⟩
        · have dN0 : ((N : Int) == 0) = false := by rw [beq_eq_false_iff_ne]; omega
          have HNp := Lib.hid (show 0 < N from by omega)
          have hNi : ¬ (N : Int) = 0 := by omega
          have hNp : 0 < N := by omega
          go_wp2_with fail
          obtain ⟨x, hx⟩ : ∃ x, a % N = x := ⟨_, rfl⟩
          obtain ⟨y, hy⟩ : ∃ y, b % N = y := ⟨_, rfl⟩
          have hab := Hab.out
          have hxN : x < N := by rw [← hx]; exact Nat.mod_lt _ HNp.out
          have hyN : y < N := by rw [← hy]; exact Nat.mod_lt _ HNp.out
          have x1 : (a : Int) % (N : Int) = (x : Int) := by rw [← hx]; exact (Int.natCast_emod a N).symm
          have x2 : (a : Int).tmod (N : Int) = (x : Int) := by rw [Int.tmod_eq_emod_of_nonneg (by omega)]; exact x1
          have y1 : (b : Int) % (N : Int) = (y : Int) := by rw [← hy]; exact (Int.natCast_emod b N).symm
          have y2 : (b : Int).tmod (N : Int) = (y : Int) := by rw [Int.tmod_eq_emod_of_nonneg (by omega)]; exact y1
          have HX := Lib.hid (And.intro hxN hyN)
          clear hx hy hxN hyN
          obtain ⟨ha, hb⟩ := hab
          have HKd := Lib.hid (show ∀ q', Kz w B A n cap off lo hi ps C m ss (W9.drewN q') from fun q' => K.out.next (drew_b W9 q'))
          go_quiet (fail)
          clear K x1 x2 y1 y2 ha hb
          generalize hW9 : W9.drewN _ = WZ
          have K := Lib.hid (show Kz w B A n cap off lo hi ps C m ss WZ from by rw [← hW9]; exact HKd.out _)
          clear hW9 HKd
          obtain ⟨c0, c1, c2, c3⟩ := K.out.c
          rcases Nat.lt_trichotomy x y with hxy | hxy | hxy
          · have z1 : (x : Int) < (y : Int) := by omega
            have z2 : ¬ (y : Int) < (x : Int) := by omega
            have z4 : ((x : Int) != (y : Int)) = true := by rw [bne_iff_ne]; omega
            have z5 : ((x : Int) == (y : Int)) = false := by rw [beq_eq_false_iff_ne]; omega
            obtain ⟨hP, hQ⟩ : x < N ∧ y < N := ⟨HX.out.1, HX.out.2⟩
            rw [← HN.out] at hP hQ
            have np := Lib.hid (nth_at He.out hP)
            have nq := Lib.hid (nth_at He.out hQ)
            have jp := Lib.hid (join_mem He.out hP)
            have jq := Lib.hid (join_mem He.out hQ)
            have rp := Lib.hid (rank_at He.out hP)
            have rq := Lib.hid (rank_at He.out hQ)
            have Hle := Lib.hid (less_nth hQ (show x < y by omega))
            have Hne := Lib.hid (show decide ((joinsC ⟨ps, off, ⟨lo, hi⟩⟩)[x].map stC = (joinsC ⟨ps, off, ⟨lo, hi⟩⟩)[y].map stC) = false from decide_eq_false (fun e => by have := nth_eq hP hQ e; omega))
            obtain ⟨sp, hsp⟩ : ∃ sp, (joinsC ⟨ps, off, ⟨lo, hi⟩⟩)[x].map stC = sp := ⟨_, rfl⟩
            obtain ⟨sq, hsq⟩ : ∃ sq, (joinsC ⟨ps, off, ⟨lo, hi⟩⟩)[y].map stC = sq := ⟨_, rfl⟩
            rw [hsp, hsq] at Hle Hne
            rw [hsp] at np jp rp
            rw [hsq] at nq jq rq
            have lq := Lib.hid (join_len He.out jq.out)
            have lp := Lib.hid (join_len He.out jp.out)
            clear hsp hP hQ hsq
            obtain ⟨c0, c1, c2, c3⟩ := K.out.c
            go_wp2_with fail
            refine (nth23 A n cap off lo hi (x : Int) ps _ K.out.pcs Hn.out).mono ?_
            rintro e WA ⟨C4, m4, rfl, hs4, hb⟩
            rw [np.out] at hs4 ⊢
            have S4 := Lib.hid hs4
            clear hs4
            replace K := Lib.hid (K.out.next hb)
            clear hb
            clear c0 c1 c2 c3
            obtain ⟨c0, c1, c2, c3⟩ := K.out.c
            go_wp2_with fail
            refine (nth23 A n cap off lo hi (y : Int) ps _ K.out.pcs Hn.out).mono ?_
            rintro e WB ⟨C5, m5, rfl, hs5, hb⟩
            rw [nq.out] at hs5 ⊢
            have S5 := Lib.hid hs5
            clear hs5
            replace S4 := Lib.hid (S4.out.below hb (Nat.le_refl _))
            replace K := Lib.hid (K.out.next hb)
            clear hb
            clear c0 c1 c2 c3
            have h4 := Lib.hid (show m4 ≤ 12 from by rw [← S4.out.1, lp.out]; exact H8.out)
            have h5 := Lib.hid (show m5 ≤ 12 from by rw [← S5.out.1, lq.out]; exact H8.out)
            obtain ⟨c0, c1, c2, c3⟩ := K.out.c
            go_wp2_with fail
            refine (checkJoin19 A C4 n cap m4 m4 off lo hi ps sp _ K.out.pcs S4.out Hn.out (by have := h4.out; omega)).mono ?_
            rintro e WC ⟨rfl, hb⟩
            rw [jp.out]
            replace S4 := Lib.hid (S4.out.below hb (Nat.le_refl _))
            replace S5 := Lib.hid (S5.out.below hb (Nat.le_refl _))
            replace K := Lib.hid (K.out.next hb)
            clear hb
            clear c0 c1 c2 c3
            obtain ⟨c0, c1, c2, c3⟩ := K.out.c
            go_wp2_with fail
            refine (checkJoin19 A C5 n cap m5 m5 off lo hi ps sq _ K.out.pcs S5.out Hn.out (by have := h5.out; omega)).mono ?_
            rintro e WD ⟨rfl, hb⟩
            rw [jq.out]
            replace S4 := Lib.hid (S4.out.below hb (Nat.le_refl _))
            replace S5 := Lib.hid (S5.out.below hb (Nat.le_refl _))
            replace K := Lib.hid (K.out.next hb)
            clear hb
            clear c0 c1 c2 c3
            obtain ⟨c0, c1, c2, c3⟩ := K.out.c
            go_wp2_with fail
            refine (less36 C4 C5 m4 m4 m5 m5 sp sq _ S4.out S5.out (by have := h4.out; omega) (by have := h5.out; omega)).mono ?_
            rintro e WE ⟨rfl, hb⟩
            rw [Hle.out]
            replace S4 := Lib.hid (S4.out.below hb (Nat.le_refl _))
            replace S5 := Lib.hid (S5.out.below hb (Nat.le_refl _))
            replace K := Lib.hid (K.out.next hb)
            clear hb
            go_wp2_with fail
            refine (same29 C4 C5 m4 m4 m5 m5 sp sq _ S4.out S5.out (by have := h4.out; omega) (by have := h5.out; omega)).mono ?_
            rintro e WF ⟨rfl, hb⟩
            rw [Hne.out]
            replace S4 := Lib.hid (S4.out.below hb (Nat.le_refl _))
            replace S5 := Lib.hid (S5.out.below hb (Nat.le_refl _))
            replace K := Lib.hid (K.out.next hb)
            clear hb
            clear c0 c1 c2 c3
            obtain ⟨c0, c1, c2, c3⟩ := K.out.c
            go_wp2_with fail
            refine (rank25 A C4 n cap m4 m4 off lo hi ps sp _ K.out.pcs S4.out Hn.out (by have := h4.out; omega) (Nat.le_refl _)).mono ?_
            rintro e WG ⟨rfl, hb⟩
            rw [rp.out]
            replace S5 := Lib.hid (S5.out.below hb (Nat.le_refl _))
            replace K := Lib.hid (K.out.next hb)
            clear hb
            clear c0 c1 c2 c3
            obtain ⟨c0, c1, c2, c3⟩ := K.out.c
            go_wp2_with fail
            refine (rank25 A C5 n cap m5 m5 off lo hi ps sq _ K.out.pcs S5.out Hn.out (by have := h5.out; omega) (Nat.le_refl _)).mono ?_
            rintro e WH ⟨rfl, hb⟩
            rw [rq.out]
            replace K := Lib.hid (K.out.next hb)
            clear hb
            clear c0 c1 c2 c3
            go_wp2_with fail
            refine (works13 _).mono ?_
            rintro e WI ⟨rfl, hb⟩
            replace K := Lib.hid (K.out.next hb)
            clear hb
            go_wp2_with fail
            go_ret
            exact ⟨rfl, K.out.below⟩
          · subst hxy
            obtain ⟨hP, hQ⟩ : x < N ∧ x < N := ⟨HX.out.1, HX.out.1⟩
            rw [← HN.out] at hP hQ
            have np := Lib.hid (nth_at He.out hP)
            have nq := Lib.hid (nth_at He.out hQ)
            have jp := Lib.hid (join_mem He.out hP)
            have jq := Lib.hid (join_mem He.out hQ)
            have rp := Lib.hid (rank_at He.out hP)
            have rq := Lib.hid (rank_at He.out hQ)
            have Hle := Lib.hid (less_irr ((joinsC ⟨ps, off, ⟨lo, hi⟩⟩)[x].map stC))
            obtain ⟨sp, hsp⟩ : ∃ sp, (joinsC ⟨ps, off, ⟨lo, hi⟩⟩)[x].map stC = sp := ⟨_, rfl⟩
            rw [hsp] at Hle np jp rp nq jq rq
            have lp := Lib.hid (join_len He.out jp.out)
            clear hsp hP hQ
            obtain ⟨c0, c1, c2, c3⟩ := K.out.c
            go_wp2_with fail
            refine (nth23 A n cap off lo hi (x : Int) ps _ K.out.pcs Hn.out).mono ?_
            rintro e WA ⟨C4, m4, rfl, hs4, hb⟩
            rw [np.out] at hs4 ⊢
            have S4 := Lib.hid hs4
            clear hs4
            replace K := Lib.hid (K.out.next hb)
            clear hb
            clear c0 c1 c2 c3
            obtain ⟨c0, c1, c2, c3⟩ := K.out.c
            go_wp2_with fail
            refine (nth23 A n cap off lo hi (x : Int) ps _ K.out.pcs Hn.out).mono ?_
            rintro e WB ⟨C5, m5, rfl, hs5, hb⟩
            rw [nq.out] at hs5 ⊢
            have S5 := Lib.hid hs5
            clear hs5
            replace S4 := Lib.hid (S4.out.below hb (Nat.le_refl _))
            replace K := Lib.hid (K.out.next hb)
            clear hb
            clear c0 c1 c2 c3
            have h4 := Lib.hid (show m4 ≤ 12 from by rw [← S4.out.1, lp.out]; exact H8.out)
            have h5 := Lib.hid (show m5 ≤ 12 from by rw [← S5.out.1, lp.out]; exact H8.out)
            obtain ⟨c0, c1, c2, c3⟩ := K.out.c
            go_wp2_with fail
            refine (checkJoin19 A C4 n cap m4 m4 off lo hi ps sp _ K.out.pcs S4.out Hn.out (by have := h4.out; omega)).mono ?_
            rintro e WC ⟨rfl, hb⟩
            rw [jp.out]
            replace S4 := Lib.hid (S4.out.below hb (Nat.le_refl _))
            replace S5 := Lib.hid (S5.out.below hb (Nat.le_refl _))
            replace K := Lib.hid (K.out.next hb)
            clear hb
            clear c0 c1 c2 c3
            obtain ⟨c0, c1, c2, c3⟩ := K.out.c
            go_wp2_with fail
            refine (checkJoin19 A C5 n cap m5 m5 off lo hi ps sp _ K.out.pcs S5.out Hn.out (by have := h5.out; omega)).mono ?_
            rintro e WD ⟨rfl, hb⟩
            rw [jq.out]
            replace S4 := Lib.hid (S4.out.below hb (Nat.le_refl _))
            replace S5 := Lib.hid (S5.out.below hb (Nat.le_refl _))
            replace K := Lib.hid (K.out.next hb)
            clear hb
            clear c0 c1 c2 c3
            obtain ⟨c0, c1, c2, c3⟩ := K.out.c
            go_wp2_with fail
            refine (less36 C4 C5 m4 m4 m5 m5 sp sp _ S4.out S5.out (by have := h4.out; omega) (by have := h5.out; omega)).mono ?_
            rintro e WE ⟨rfl, hb⟩
            rw [Hle.out]
            replace S4 := Lib.hid (S4.out.below hb (Nat.le_refl _))
            replace S5 := Lib.hid (S5.out.below hb (Nat.le_refl _))
            replace K := Lib.hid (K.out.next hb)
            clear hb
            go_wp2_with fail
            refine (same29 C4 C5 m4 m4 m5 m5 sp sp _ S4.out S5.out (by have := h4.out; omega) (by have := h5.out; omega)).mono ?_
            rintro e WF ⟨rfl, hb⟩
            rw [decide_eq_true rfl]
            replace S4 := Lib.hid (S4.out.below hb (Nat.le_refl _))
            replace S5 := Lib.hid (S5.out.below hb (Nat.le_refl _))
            replace K := Lib.hid (K.out.next hb)
            clear hb
            clear c0 c1 c2 c3
            obtain ⟨c0, c1, c2, c3⟩ := K.out.c
            go_wp2_with fail
            refine (rank25 A C4 n cap m4 m4 off lo hi ps sp _ K.out.pcs S4.out Hn.out (by have := h4.out; omega) (Nat.le_refl _)).mono ?_
            rintro e WG ⟨rfl, hb⟩
            rw [rp.out]
            replace S5 := Lib.hid (S5.out.below hb (Nat.le_refl _))
            replace K := Lib.hid (K.out.next hb)
            clear hb
            clear c0 c1 c2 c3
            obtain ⟨c0, c1, c2, c3⟩ := K.out.c
            go_wp2_with fail
            refine (rank25 A C5 n cap m5 m5 off lo hi ps sp _ K.out.pcs S5.out Hn.out (by have := h5.out; omega) (Nat.le_refl _)).mono ?_
            rintro e WH ⟨rfl, hb⟩
            rw [rq.out]
            replace K := Lib.hid (K.out.next hb)
            clear hb
            clear c0 c1 c2 c3
            go_wp2_with fail
            refine (works13 _).mono ?_
            rintro e WI ⟨rfl, hb⟩
            replace K := Lib.hid (K.out.next hb)
            clear hb
            go_wp2_with fail
            go_ret
            exact ⟨rfl, K.out.below⟩
          · have z1 : ¬ (x : Int) < (y : Int) := by omega
            have z2 : (y : Int) < (x : Int) := by omega
            have z4 : ((x : Int) != (y : Int)) = true := by rw [bne_iff_ne]; omega
            have z5 : ((x : Int) == (y : Int)) = false := by rw [beq_eq_false_iff_ne]; omega
            obtain ⟨hP, hQ⟩ : y < N ∧ x < N := ⟨HX.out.2, HX.out.1⟩
            rw [← HN.out] at hP hQ
            have np := Lib.hid (nth_at He.out hP)
            have nq := Lib.hid (nth_at He.out hQ)
            have jp := Lib.hid (join_mem He.out hP)
            have jq := Lib.hid (join_mem He.out hQ)
            have rp := Lib.hid (rank_at He.out hP)
            have rq := Lib.hid (rank_at He.out hQ)
            have Hle := Lib.hid (less_nth hQ (show y < x by omega))
            have Hne := Lib.hid (show decide ((joinsC ⟨ps, off, ⟨lo, hi⟩⟩)[y].map stC = (joinsC ⟨ps, off, ⟨lo, hi⟩⟩)[x].map stC) = false from decide_eq_false (fun e => by have := nth_eq hP hQ e; omega))
            obtain ⟨sp, hsp⟩ : ∃ sp, (joinsC ⟨ps, off, ⟨lo, hi⟩⟩)[y].map stC = sp := ⟨_, rfl⟩
            obtain ⟨sq, hsq⟩ : ∃ sq, (joinsC ⟨ps, off, ⟨lo, hi⟩⟩)[x].map stC = sq := ⟨_, rfl⟩
            rw [hsp, hsq] at Hle Hne
            rw [hsp] at np jp rp
            rw [hsq] at nq jq rq
            have lq := Lib.hid (join_len He.out jq.out)
            have lp := Lib.hid (join_len He.out jp.out)
            clear hsp hP hQ hsq
            obtain ⟨c0, c1, c2, c3⟩ := K.out.c
            go_wp2_with fail
            refine (nth23 A n cap off lo hi (y : Int) ps _ K.out.pcs Hn.out).mono ?_
            rintro e WA ⟨C4, m4, rfl, hs4, hb⟩
            rw [np.out] at hs4 ⊢
            have S4 := Lib.hid hs4
            clear hs4
            replace K := Lib.hid (K.out.next hb)
            clear hb
            clear c0 c1 c2 c3
            obtain ⟨c0, c1, c2, c3⟩ := K.out.c
            go_wp2_with fail
            refine (nth23 A n cap off lo hi (x : Int) ps _ K.out.pcs Hn.out).mono ?_
            rintro e WB ⟨C5, m5, rfl, hs5, hb⟩
            rw [nq.out] at hs5 ⊢
            have S5 := Lib.hid hs5
            clear hs5
            replace S4 := Lib.hid (S4.out.below hb (Nat.le_refl _))
            replace K := Lib.hid (K.out.next hb)
            clear hb
            clear c0 c1 c2 c3
            have h4 := Lib.hid (show m4 ≤ 12 from by rw [← S4.out.1, lp.out]; exact H8.out)
            have h5 := Lib.hid (show m5 ≤ 12 from by rw [← S5.out.1, lq.out]; exact H8.out)
            obtain ⟨c0, c1, c2, c3⟩ := K.out.c
            go_wp2_with fail
            refine (checkJoin19 A C4 n cap m4 m4 off lo hi ps sp _ K.out.pcs S4.out Hn.out (by have := h4.out; omega)).mono ?_
            rintro e WC ⟨rfl, hb⟩
            rw [jp.out]
            replace S4 := Lib.hid (S4.out.below hb (Nat.le_refl _))
            replace S5 := Lib.hid (S5.out.below hb (Nat.le_refl _))
            replace K := Lib.hid (K.out.next hb)
            clear hb
            clear c0 c1 c2 c3
            obtain ⟨c0, c1, c2, c3⟩ := K.out.c
            go_wp2_with fail
            refine (checkJoin19 A C5 n cap m5 m5 off lo hi ps sq _ K.out.pcs S5.out Hn.out (by have := h5.out; omega)).mono ?_
            rintro e WD ⟨rfl, hb⟩
            rw [jq.out]
            replace S4 := Lib.hid (S4.out.below hb (Nat.le_refl _))
            replace S5 := Lib.hid (S5.out.below hb (Nat.le_refl _))
            replace K := Lib.hid (K.out.next hb)
            clear hb
            clear c0 c1 c2 c3
            obtain ⟨c0, c1, c2, c3⟩ := K.out.c
            go_wp2_with fail
            refine (less36 C4 C5 m4 m4 m5 m5 sp sq _ S4.out S5.out (by have := h4.out; omega) (by have := h5.out; omega)).mono ?_
            rintro e WE ⟨rfl, hb⟩
            rw [Hle.out]
            replace S4 := Lib.hid (S4.out.below hb (Nat.le_refl _))
            replace S5 := Lib.hid (S5.out.below hb (Nat.le_refl _))
            replace K := Lib.hid (K.out.next hb)
            clear hb
            go_wp2_with fail
            refine (same29 C4 C5 m4 m4 m5 m5 sp sq _ S4.out S5.out (by have := h4.out; omega) (by have := h5.out; omega)).mono ?_
            rintro e WF ⟨rfl, hb⟩
            rw [Hne.out]
            replace S4 := Lib.hid (S4.out.below hb (Nat.le_refl _))
            replace S5 := Lib.hid (S5.out.below hb (Nat.le_refl _))
            replace K := Lib.hid (K.out.next hb)
            clear hb
            clear c0 c1 c2 c3
            obtain ⟨c0, c1, c2, c3⟩ := K.out.c
            go_wp2_with fail
            refine (rank25 A C4 n cap m4 m4 off lo hi ps sp _ K.out.pcs S4.out Hn.out (by have := h4.out; omega) (Nat.le_refl _)).mono ?_
            rintro e WG ⟨rfl, hb⟩
            rw [rp.out]
            replace S5 := Lib.hid (S5.out.below hb (Nat.le_refl _))
            replace K := Lib.hid (K.out.next hb)
            clear hb
            clear c0 c1 c2 c3
            obtain ⟨c0, c1, c2, c3⟩ := K.out.c
            go_wp2_with fail
            refine (rank25 A C5 n cap m5 m5 off lo hi ps sq _ K.out.pcs S5.out Hn.out (by have := h5.out; omega) (Nat.le_refl _)).mono ?_
            rintro e WH ⟨rfl, hb⟩
            rw [rq.out]
            replace K := Lib.hid (K.out.next hb)
            clear hb
            clear c0 c1 c2 c3
            go_wp2_with fail
            refine (works13 _).mono ?_
            rintro e WI ⟨rfl, hb⟩
            replace K := Lib.hid (K.out.next hb)
            clear hb
            go_wp2_with fail
            go_ret
            exact ⟨rfl, K.out.below⟩
end
end Go.Proofs.Ytfmcfalghbaanaa
