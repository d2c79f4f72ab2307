/- Stage 2: the walk of JoinCounts. -/
import Derived.Test.YtfmcfalghbaanaaRff
namespace Go.Proofs.Ytfmcfalghbaanaa
set_option linter.unusedSimpArgs false
set_option linter.unusedVariables false
open Go.RowKit Go.Shelf
attribute [local go_sem] Oper.semAt_some

theorem many_ok {n : Nat} {ps : List Pc} {off lo hi : Int} (hl : ps.length = n) (h : manyB n 5 = false) (he : chkC ⟨ps, off, ⟨lo, hi⟩⟩ = 0) : n ≤ 5 := by
  have h1 := (chkC_facts he).2.1
  have h2 : ps.length ≤ 8 := h1
  unfold manyB at h
  simp only [Bool.or_eq_false_iff, Bool.and_eq_false_iff, decide_eq_false_iff_not] at h
  omega
theorem nthR_len {c : Cy} {num : Int} (hl : c.ps.length ≤ 1000 ∨ chkC c ≠ 0) : (nthR c num).1.length ≤ 1000000 := by
  unfold nthR
  split
  · exact Nat.zero_le _
  · split
    · exact Nat.zero_le _
    · rename_i h1 h2
      have hk : num.toNat < (joinsC c).length := by omega
      have h3 := (join_way (List.getElem_mem hk)).1
      have h4 := (chkC_facts (c := c) (by simpa using h1)).2.1
      simp only [List.length_map, List.getD_eq_getElem?_getD, List.getElem?_eq_getElem hk, Option.getD_some]
      omega
theorem onlyR_len (c : Cy) : (onlyR c).1.length ≤ 1000000 := by
  unfold onlyR
  split
  · exact Nat.zero_le _
  · split
    · exact Nat.zero_le _
    · split
      · rename_i h1 h2 h5
        have hk : 0 < (joinsC c).length := by omega
        have h3 := (join_way (List.getElem_mem hk)).1
        have h4 := (chkC_facts (c := c) (by simpa using h1)).2.1
        simp only [List.length_map, List.getD_eq_getElem?_getD, List.getElem?_eq_getElem hk, Option.getD_some]
        omega
      · exact Nat.zero_le _
set_option maxRecDepth 100000 in
set_option maxHeartbeats 20000000 in
theorem counts4 (A : Option Addr) (n cap : Nat) (off lo hi num : Int) (ps : List Pc) (Cl : Option Addr) (m cl : Nat) (ss : List St) (w : World) (h : Pcs w A n ps) (hs : Sts w Cl m ss) (hn : n ≤ 9223372036854775807) (hm : m ≤ 9223372036854775807) (hcl : m ≤ cl) :
    Calls Try.prog 4 #[cyl A n cap off lo hi, .int .i64 num, .slice Cl m cl] w fun e w' => e = .returned (.bool true) ∧ Below w.heap.size w w' := by
  have hk : Kz w w.heap.size A n cap off lo hi ps Cl m ss _ := Kz.new (cap := cap) (off := off) (lo := lo) (hi := hi) h hs
  have K := Lib.hid hk
  have Hn := Lib.hid hn
  have Hm := Lib.hid hm
  have Hcl := Lib.hid hcl
  have Hpl := Lib.hid h.1
  clear h hn hk hs hm hcl
  unfold cyl
  go_enter Try.func4, Try.ntmps4
  go_wp2_with fail
  generalize (w.alloc (.cells #[.slice A n cap, .int .i64 off, .int .i64 lo, .int .i64 hi] 26)) = W0 at K ⊢
  obtain ⟨B, hB⟩ : ∃ B, w.heap.size = B := ⟨_, rfl⟩
  replace K := Lib.hid (show Kz w B A n cap off lo hi ps Cl m ss W0 from by rw [← hB]; exact K.out)
  rw [hB]
  clear hB
  refine (many20 A n cap off lo hi 5 ps W0 K.out.pcs Hn.out).mono ?_
  rintro e W1 ⟨rfl, hb⟩
  replace K := Lib.hid (K.out.next hb)
  clear hb
  obtain ⟨f, hf⟩ : ∃ f, manyB n 5 = f := ⟨_, rfl⟩
  rw [hf]
  have Hf := Lib.hid hf
  clear hf
  cases f with
  | true =>
    go_wp2_with fail
    refine (works13 _).mono ?_
    rintro e w9 ⟨rfl, hb⟩
    have HB := Lib.hid (K.out.next hb)
    clear hb
    go_wp2_with fail
    go_ret
    exact ⟨rfl, HB.out.below⟩
  | false =>
    by_cases h12 : (12 : Int) < (m : Int)
    · have d12 : decide ((12 : Int) < (m : Int)) = true := decide_eq_true h12
      clear h12
      go_wp2_with fail
      refine (works13 _).mono ?_
      rintro e w9 ⟨rfl, hb⟩
      have HB := Lib.hid (K.out.next hb)
      clear hb
      go_wp2_with fail
      go_ret
      exact ⟨rfl, HB.out.below⟩
    · have d12 : decide ((12 : Int) < (m : Int)) = false := decide_eq_false h12
      have H12 := Lib.hid (show m ≤ 12 from by omega)
      have Hc := Lib.hid (show chkC ⟨ps, off, ⟨lo, hi⟩⟩ = 0 → n ≤ 5 from fun he => many_ok Hpl.out Hf.out he)
      have Hnl := Lib.hid (nthR_len (c := ⟨ps, off, ⟨lo, hi⟩⟩) (num := num) (by
        by_cases he : chkC ⟨ps, off, ⟨lo, hi⟩⟩ = 0
        · left
          show ps.length ≤ 1000
          have := Hc.out he
          rw [Hpl.out]
          omega
        · exact .inr he))
      have Hol := Lib.hid (onlyR_len ⟨ps, off, ⟨lo, hi⟩⟩)
      clear h12
      obtain ⟨cr, hcr⟩ : ∃ cr, countR ⟨ps, off, ⟨lo, hi⟩⟩ = cr := ⟨_, rfl⟩
      obtain ⟨ca, ce⟩ := cr
      have Hcr := Lib.hid hcr
      clear hcr
      obtain ⟨nr, hnr⟩ : ∃ nr, nthR ⟨ps, off, ⟨lo, hi⟩⟩ num = nr := ⟨_, rfl⟩
      obtain ⟨nl, ne⟩ := nr
      have Hnr := Lib.hid hnr
      rw [hnr] at Hnl
      clear hnr
      obtain ⟨rr, hrr⟩ : ∃ rr, rankR ⟨ps, off, ⟨lo, hi⟩⟩ ss = rr := ⟨_, rfl⟩
      obtain ⟨ra, re⟩ := rr
      have Hrr := Lib.hid hrr
      clear hrr
      obtain ⟨orr, hor⟩ : ∃ orr, onlyR ⟨ps, off, ⟨lo, hi⟩⟩ = orr := ⟨_, rfl⟩
      obtain ⟨ol, oe⟩ := orr
      have Hor := Lib.hid hor
      rw [hor] at Hol
      clear hor
      obtain ⟨c0, c1, c2, c3⟩ := K.out.c
      go_wp2_with fail
      refine (count21 A n cap off lo hi ps _ K.out.pcs Hn.out).mono ?_
      rintro e2 W2 ⟨rfl, hb⟩
      rw [Hcr.out]
      replace K := Lib.hid (K.out.next hb)
      clear hb c0 c1 c2 c3
      obtain ⟨c0, c1, c2, c3⟩ := K.out.c
      go_wp2_with fail
      refine (count22 A n cap off lo hi ps _ K.out.pcs Hn.out Hc.out).mono ?_
      rintro e2 W3 ⟨rfl, hb⟩
      rw [Hcr.out]
      replace K := Lib.hid (K.out.next hb)
      clear hb c0 c1 c2 c3
      obtain ⟨c0, c1, c2, c3⟩ := K.out.c
      go_wp2_with fail
      refine (nth23 A n cap off lo hi num ps _ K.out.pcs Hn.out).mono ?_
      rintro e2 W4 ⟨X3, mx3, rfl, hs3, hb⟩
      rw [Hnr.out] at hs3 ⊢
      have S3 := Lib.hid hs3
      replace K := Lib.hid (K.out.next hb)
      clear hb c0 c1 c2 c3 hs3
      obtain ⟨c0, c1, c2, c3⟩ := K.out.c
      go_wp2_with fail
      refine (nth24 A n cap off lo hi num ps _ K.out.pcs Hn.out Hc.out).mono ?_
      rintro e2 W5 ⟨X4, mx4, cx4, rfl, hcx4, hs4, hb⟩
      rw [Hnr.out] at hs4 ⊢
      have Hcx4 := Lib.hid hcx4
      clear hcx4
      replace S3 := Lib.hid (S3.out.below hb (Nat.le_refl _))
      have S4 := Lib.hid hs4
      replace K := Lib.hid (K.out.next hb)
      clear hb c0 c1 c2 c3 hs4
      obtain ⟨c0, c1, c2, c3⟩ := K.out.c
      go_wp2_with fail
      refine (rank25 A Cl n cap m cl off lo hi ps ss _ K.out.pcs K.out.st Hn.out Hm.out Hcl.out).mono ?_
      rintro e2 W6 ⟨rfl, hb⟩
      rw [Hrr.out]
      replace S3 := Lib.hid (S3.out.below hb (Nat.le_refl _))
      replace S4 := Lib.hid (S4.out.below hb (Nat.le_refl _))
      replace K := Lib.hid (K.out.next hb)
      clear hb c0 c1 c2 c3
      obtain ⟨c0, c1, c2, c3⟩ := K.out.c
      go_wp2_with fail
      refine (rank26 A n cap off lo hi ps Cl m cl ss _ K.out.pcs K.out.st Hn.out (by have := H12.out; omega) Hc.out).mono ?_
      rintro e2 W7 ⟨rfl, hb⟩
      rw [Hrr.out]
      replace S3 := Lib.hid (S3.out.below hb (Nat.le_refl _))
      replace S4 := Lib.hid (S4.out.below hb (Nat.le_refl _))
      replace K := Lib.hid (K.out.next hb)
      clear hb c0 c1 c2 c3
      obtain ⟨c0, c1, c2, c3⟩ := K.out.c
      go_wp2_with fail
      refine (only27 A n cap off lo hi ps _ K.out.pcs Hn.out).mono ?_
      rintro e2 W8 ⟨X7, mx7, rfl, hs7, hb⟩
      rw [Hor.out] at hs7 ⊢
      replace S3 := Lib.hid (S3.out.below hb (Nat.le_refl _))
      replace S4 := Lib.hid (S4.out.below hb (Nat.le_refl _))
      have S7 := Lib.hid hs7
      replace K := Lib.hid (K.out.next hb)
      clear hb c0 c1 c2 c3 hs7
      obtain ⟨c0, c1, c2, c3⟩ := K.out.c
      go_wp2_with fail
      refine (only28 A n cap off lo hi ps _ K.out.pcs Hn.out Hc.out).mono ?_
      rintro e2 W9 ⟨X8, mx8, cx8, rfl, hcx8, hs8, hb⟩
      rw [Hor.out] at hs8 ⊢
      have Hcx8 := Lib.hid hcx8
      clear hcx8
      replace S3 := Lib.hid (S3.out.below hb (Nat.le_refl _))
      replace S4 := Lib.hid (S4.out.below hb (Nat.le_refl _))
      replace S7 := Lib.hid (S7.out.below hb (Nat.le_refl _))
      have S8 := Lib.hid hs8
      replace K := Lib.hid (K.out.next hb)
      clear hb c0 c1 c2 c3 hs8
      have q1 : (ca == ca) = true := by simp
      have q2 : (ce == ce) = true := by simp
      have q3 : (ne == ne) = true := by simp
      have q4 : (ra == ra) = true := by simp
      have q5 : (re == re) = true := by simp
      have q6 : (oe == oe) = true := by simp
      clear d12
      go_wp2_with fail
      refine (same29 X3 X4 mx3 mx3 mx4 cx4 nl nl _ S3.out S4.out (by rw [← S3.out.1]; exact Hnl.out) (by rw [← S4.out.1]; exact Hnl.out)).mono ?_
      rintro e9 w9 ⟨rfl, hb⟩
      rw [decide_eq_true rfl]
      replace S7 := Lib.hid (S7.out.below hb (Nat.le_refl _))
      replace S8 := Lib.hid (S8.out.below hb (Nat.le_refl _))
      replace K := Lib.hid (K.out.next hb)
      clear hb
      go_wp2_with fail
      refine (same29 X7 X8 mx7 mx7 mx8 cx8 ol ol _ S7.out S8.out (by rw [← S7.out.1]; exact Hol.out) (by rw [← S8.out.1]; exact Hol.out)).mono ?_
      rintro e9 w9 ⟨rfl, hb⟩
      rw [decide_eq_true rfl]
      replace K := Lib.hid (K.out.next hb)
      clear hb
      go_wp2_with fail
      refine (works13 _).mono ?_
      rintro e w9 ⟨rfl, hb⟩
      have HB := Lib.hid (K.out.next hb)
      clear hb
      go_wp2_with fail
      go_ret
      exact ⟨rfl, HB.out.below⟩
end Go.Proofs.Ytfmcfalghbaanaa
