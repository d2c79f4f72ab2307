/- Stage 2: the document's Fits, Same. -/
import Derived.Test.YtfmcfalghbaanaaFits
namespace Go.Proofs.Ytfmcfalghbaanaa
set_option linter.unusedSimpArgs false
set_option linter.unusedVariables false
open Go.RowKit

/-- What Fits returns. -/
def fitsR (c : Cy) (s t : St) : Bool × Int := if chkC c ≠ 0 then (false, chkC c) else if stepB c.ps s = true ∧ stepB c.ps t = true then (fitsB c s t, 0) else (false, 2)
theorem fitsR_bad {c : Cy} {s t : St} (h : chkC c ≠ 0) : fitsR c s t = (false, chkC c) := if_pos h
theorem fitsR_arg {c : Cy} {s t : St} (h : chkC c = 0) (h2 : stepB c.ps s = false ∨ stepB c.ps t = false) : fitsR c s t = (false, 2) := by
  unfold fitsR
  rw [if_neg (by simpa using h), if_neg]
  rintro ⟨a, b⟩
  rcases h2 with h2 | h2
  · rw [h2] at a; cases a
  · rw [h2] at b; cases b
theorem fitsR_ok {c : Cy} {s t : St} (h : chkC c = 0) (h1 : stepB c.ps s = true) (h2 : stepB c.ps t = true) : fitsR c s t = (fitsB c s t, 0) := by
  unfold fitsR
  rw [if_neg (by simpa using h), if_pos ⟨h1, h2⟩]
theorem step_facts {ps : List Pc} {s : St} (h : stepB ps s = true) : 0 ≤ s.p ∧ s.p < (ps.length : Int) := by
  unfold stepB at h
  simp only [Bool.and_eq_true, decide_eq_true_eq] at h
  exact h.1

set_option maxRecDepth 100000 in
set_option maxHeartbeats 4000000 in
theorem fits15 (A : Option Addr) (n cap : Nat) (off lo hi p q : Int) (u v : Bool) (ps : List Pc) (w : World) (h : Pcs w A n ps) (hn : n ≤ 9223372036854775807) :
    Calls Try.prog 15 #[cyl A n cap off lo hi, .agg #[.int .i64 p, .bool u], .agg #[.int .i64 q, .bool v]] w fun e w' => e = .returned (.tuple #[.bool (fitsR ⟨ps, off, ⟨lo, hi⟩⟩ ⟨p, u⟩ ⟨q, v⟩).1, .int .i64 (fitsR ⟨ps, off, ⟨lo, hi⟩⟩ ⟨p, u⟩ ⟨q, v⟩).2]) ∧ Below w.heap.size w w' := by
  have X := Fx.new (cap := cap) (off := off) (lo := lo) (hi := hi) (s := ⟨p, u⟩) (t := ⟨q, v⟩) h
  have Hlen := Lib.hid h.1
  have Hn := Lib.hid hn
  clear h hn
  unfold cyl
  obtain ⟨B, hB⟩ : ∃ B, w.heap.size = B := ⟨_, rfl⟩
  rw [hB] at X
  obtain ⟨W1, hW1⟩ : ∃ W1, (((w.alloc (.cells #[.slice A n cap, .int .i64 off, .int .i64 lo, .int .i64 hi] 26)).alloc (.cells #[.int .i64 p, .bool u] 28)).alloc (.cells #[.int .i64 q, .bool v] 28)) = W1 := ⟨_, rfl⟩
  rw [hW1] at X
  have HW1 := Lib.hid hW1
  clear hW1
  go_enter Try.func15, Try.ntmps15
  go_upto_region 1 with fail
  rw [HW1.out]
  clear hB
  obtain ⟨c0, c1, c2, c3, l0⟩ := X.cx.c
  go_wp2_with fail
  refine (checkCyl17 A n cap off lo hi ps _ X.cx.pcs Hn.out).mono ?_
  rintro e w2 ⟨rfl, hb⟩
  have X2 := X.next hb
  clear X hb c0 c1 c2 c3 l0
  obtain ⟨c0, c1, c2, c3, l0⟩ := X2.cx.c
  obtain ⟨s0, s1, t0, t1, l1, l2⟩ := X2.c
  by_cases he : chkC ⟨ps, off, ⟨lo, hi⟩⟩ = 0
  · rw [he]
    have He := Lib.hid he
    clear he
    go_wp2_with fail
    refine (isStep45 A n cap off lo hi p u ps _ X2.cx.pcs).mono ?_
    rintro e w3 ⟨rfl, hb⟩
    have X3 := X2.next hb
    clear X2 hb c0 c1 c2 c3 l0 s0 s1 t0 t1 l1 l2
    obtain ⟨c0, c1, c2, c3, l0⟩ := X3.cx.c
    obtain ⟨s0, s1, t0, t1, l1, l2⟩ := X3.c
    cases hs : stepB ps ⟨p, u⟩ with
    | false =>
      have Hr := Lib.hid (fitsR_arg (t := ⟨q, v⟩) He.out (.inl hs))
      clear hs
      go_wp2_with fail
      go_ret2
      exact ⟨by rw [Hr.out]; rfl, X3.cx.below⟩
    | true =>
      have Hs := Lib.hid hs
      clear hs
      go_wp2_with fail
      refine (isStep45 A n cap off lo hi q v ps _ X3.cx.pcs).mono ?_
      rintro e w4 ⟨rfl, hb⟩
      have X4 := X3.next hb
      clear X3 hb c0 c1 c2 c3 l0 s0 s1 t0 t1 l1 l2
      obtain ⟨c0, c1, c2, c3, l0⟩ := X4.cx.c
      obtain ⟨s0, s1, t0, t1, l1, l2⟩ := X4.c
      cases ht : stepB ps ⟨q, v⟩ with
      | false =>
        have Hr := Lib.hid (fitsR_arg (s := ⟨p, u⟩) He.out (.inr ht))
        clear ht
        go_wp2_with fail
        go_ret2
        exact ⟨by rw [Hr.out]; rfl, X4.cx.below⟩
      | true =>
        have Hr := Lib.hid (fitsR_ok He.out Hs.out ht)
        have f1 := step_facts Hs.out
        have f2 := step_facts ht
        obtain ⟨k, rfl⟩ := Int.eq_ofNat_of_zero_le f1.1
        obtain ⟨l, rfl⟩ := Int.eq_ofNat_of_zero_le f2.1
        have hk : k < n := by have := Hlen.out; have := f1.2; simp only at this; omega
        have hl : l < n := by have := Hlen.out; have := f2.2; simp only at this; omega
        have Hk := Lib.hid hk
        have Hl := Lib.hid hl
        clear ht f1 f2 hk hl
        go_wp2_with fail
        refine (fits46 A n cap k l off lo hi u v ps _ X4.cx.pcs Hk.out Hl.out He.out).mono ?_
        rintro e w5 ⟨rfl, hb⟩
        have X5 := X4.next hb
        clear X4 hb
        go_wp2_with fail
        go_ret2
        exact ⟨by rw [Hr.out]; rfl, X5.cx.below⟩
  · have Hr := Lib.hid (fitsR_bad (s := ⟨p, u⟩) (t := ⟨q, v⟩) he)
    have he2 : (chkC ⟨ps, off, ⟨lo, hi⟩⟩ != 0) = true := by rw [bne_iff_ne]; exact he
    clear he
    go_wp2_with fail
    refine (checkCyl17 A n cap off lo hi ps _ X2.cx.pcs Hn.out).mono ?_
    rintro e w3 ⟨rfl, hb⟩
    have X3 := X2.next hb
    clear X2 hb
    go_wp2_with fail
    go_ret2
    exact ⟨by rw [Hr.out]; rfl, X3.cx.below⟩

def sAt (ss : List St) (k : Nat) : St := ss.getD k ⟨0, false⟩
/-- A slice of n steps reads as ss: two cells each. -/
def Sts (w : World) (A : Option Addr) (n : Nat) (ss : List St) : Prop :=
  ss.length = n ∧ (0 < n → ∃ b o, A = some ⟨b, o, none⟩ ∧ ∀ j, j < n → w.cell? ⟨b, o + j * 2, none⟩ = some (.int .i64 (sAt ss j).p) ∧ w.cell? ⟨b, o + j * 2 + 1, none⟩ = some (.bool (sAt ss j).turned))
theorem Sts.below {w w' : World} {A : Option Addr} {n B : Nat} {ss : List St} (h : Sts w A n ss) (hb : Below B w w') (hB : w.heap.size ≤ B) : Sts w' A n ss := by
  refine ⟨h.1, fun hn => ?_⟩
  obtain ⟨b, o, e, hc⟩ := h.2 hn
  have hl := lt_of_cell (hc 0 hn).1
  exact ⟨b, o, e, fun j hj => ⟨(hb.cell (p := ⟨b, o + j * 2, none⟩) (by simp; omega)).trans (hc j hj).1, (hb.cell (p := ⟨b, o + j * 2 + 1, none⟩) (by simp; omega)).trans (hc j hj).2⟩⟩
end Go.Proofs.Ytfmcfalghbaanaa
