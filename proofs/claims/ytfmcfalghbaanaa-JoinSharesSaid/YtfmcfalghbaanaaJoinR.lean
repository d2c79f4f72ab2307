/- Stage 2: the document's CheckJoin. -/
import Derived.Test.YtfmcfalghbaanaaFitsR
import Derived.StillTailTactics
import Derived.Deep.QuietTactic
import Derived.BigQuiet
import Derived.Deep.RegionHeld3
namespace Go.Proofs.Ytfmcfalghbaanaa
set_option linter.unusedSimpArgs false
set_option linter.unusedVariables false
open Go.RowKit

/-- What CheckJoin returns. -/
def fitAll (c : Cy) (ss : List St) (k : Nat) : Bool := (List.range k).all fun i => fitsB c (sAt ss i) (sAt ss (i + 1))
def ckJoin (c : Cy) (ss : List St) : Int :=
  if chkC c ≠ 0 then chkC c else if ss.length ≠ c.ps.length then 15 else if ss.all (stepB c.ps) = false then 2
  else if ¬ (ss.map St.p).Nodup then 11 else if fitAll c ss (ss.length - 1) = false then 18 else 0
theorem ckJoin_bad {c : Cy} {ss : List St} (h : chkC c ≠ 0) : ckJoin c ss = chkC c := if_pos h
theorem ckJoin_len {c : Cy} {ss : List St} (h : chkC c = 0) (h1 : ss.length ≠ c.ps.length) : ckJoin c ss = 15 := by
  unfold ckJoin; rw [if_neg (by simpa using h), if_pos h1]
theorem ckJoin_step {c : Cy} {ss : List St} (h : chkC c = 0) (h1 : ss.length = c.ps.length) (h2 : ss.all (stepB c.ps) = false) : ckJoin c ss = 2 := by
  unfold ckJoin; rw [if_neg (by simpa using h), if_neg (by simpa using h1), if_pos h2]
theorem ckJoin_have {c : Cy} {ss : List St} (h : chkC c = 0) (h1 : ss.length = c.ps.length) (h2 : ss.all (stepB c.ps) = true) (h3 : ¬ (ss.map St.p).Nodup) : ckJoin c ss = 11 := by
  unfold ckJoin; rw [if_neg (by simpa using h), if_neg (by simpa using h1), if_neg (by simp [h2]), if_pos h3]
theorem ckJoin_crack {c : Cy} {ss : List St} (h : chkC c = 0) (h1 : ss.length = c.ps.length) (h2 : ss.all (stepB c.ps) = true) (h3 : (ss.map St.p).Nodup) (h4 : fitAll c ss (ss.length - 1) = false) : ckJoin c ss = 18 := by
  unfold ckJoin; rw [if_neg (by simpa using h), if_neg (by simpa using h1), if_neg (by simp [h2]), if_neg (by simpa using h3), if_pos h4]
theorem ckJoin_ok {c : Cy} {ss : List St} (h : chkC c = 0) (h1 : ss.length = c.ps.length) (h2 : ss.all (stepB c.ps) = true) (h3 : (ss.map St.p).Nodup) (h4 : fitAll c ss (ss.length - 1) = true) : ckJoin c ss = 0 := by
  unfold ckJoin; rw [if_neg (by simpa using h), if_neg (by simpa using h1), if_neg (by simp [h2]), if_neg (by simpa using h3), if_neg (by simp [h4])]
theorem sAt_get {ss : List St} {k : Nat} (h : k < ss.length) : sAt ss k = ss[k] := by simp [sAt, List.getD, h]
theorem nodup_next {ss : List St} {i : Nat} (h : i < ss.length) (h1 : ((ss.take i).map St.p).Nodup) (h2 : ∀ j, j < i → (sAt ss j).p ≠ (sAt ss i).p) : ((ss.take (i + 1)).map St.p).Nodup := by
  rw [List.take_succ_eq_append_getElem h, List.map_append, List.map_singleton, List.nodup_append]
  refine ⟨h1, by simp, fun a ha b hb => ?_⟩
  simp at hb
  subst hb
  obtain ⟨s, hs, rfl⟩ := List.mem_map.1 ha
  obtain ⟨j, hj, rfl⟩ := List.getElem_of_mem hs
  rw [List.getElem_take]
  have hj2 : j < i := by simp at hj; omega
  have := h2 j hj2
  rw [sAt_get (by omega), sAt_get h] at this
  exact this
theorem nodup_not {ss : List St} {i j : Nat} (h : i < ss.length) (hj : j < i) (he : (sAt ss i).p = (sAt ss j).p) : ¬ (ss.map St.p).Nodup := by
  intro hn
  rw [sAt_get h, sAt_get (by omega)] at he
  have := (List.pairwise_iff_getElem.1 hn) j i (by simp; omega) (by simp; omega) hj
  simp at this
  exact this he.symm
theorem fitAll_next (c : Cy) (ss : List St) (k : Nat) : fitAll c ss (k + 1) = (fitAll c ss k && fitsB c (sAt ss k) (sAt ss (k + 1))) := by
  unfold fitAll
  rw [List.range_succ, List.all_append]
  simp
theorem fitAll_not {c : Cy} {ss : List St} {k n : Nat} (h : k < n) (hf : fitsB c (sAt ss k) (sAt ss (k + 1)) = false) : fitAll c ss n = false := by
  unfold fitAll
  rw [List.all_eq_false]
  exact ⟨k, by simp; omega, by simp [hf]⟩

structure Jx (w : World) (B : Nat) (A : Option Addr) (n cap : Nat) (off lo hi : Int) (ps : List Pc) (C : Option Addr) (m : Nat) (ss : List St) (W : World) : Prop where
  cx : Cx w B A n cap off lo hi ps W
  st : Sts W C m ss
theorem Jx.next {w : World} {B : Nat} {A : Option Addr} {n cap : Nat} {off lo hi : Int} {ps : List Pc} {C : Option Addr} {m : Nat} {ss : List St} {W W' : World} (h : Jx w B A n cap off lo hi ps C m ss W) (hb : Below W.heap.size W W') : Jx w B A n cap off lo hi ps C m ss W' :=
  ⟨h.cx.next hb, h.st.below hb (Nat.le_refl _)⟩
structure Jb (w : World) (B : Nat) (A : Option Addr) (n cap : Nat) (off lo hi : Int) (ps : List Pc) (C : Option Addr) (m : Nat) (ss : List St) (W0 W : World) : Prop where
  jx : Jx w B A n cap off lo hi ps C m ss W
  b : Below W0.heap.size W0 W
theorem Jb.next {w : World} {B : Nat} {A : Option Addr} {n cap : Nat} {off lo hi : Int} {ps : List Pc} {C : Option Addr} {m : Nat} {ss : List St} {W0 W W' : World} (h : Jb w B A n cap off lo hi ps C m ss W0 W) (hb : Below W.heap.size W W') : Jb w B A n cap off lo hi ps C m ss W0 W' :=
  ⟨h.jx.next hb, h.b.trans (hb.mono h.b.size)⟩
theorem drew_b (W : World) (q : Nat) : Below W.heap.size W (W.drewN q) := ⟨rfl, rfl, rfl, Nat.le_refl _, fun _ _ => rfl⟩
theorem sts_cell {W : World} {b o n : Nat} {ss : List St} (h : Sts W (some ⟨b, o, none⟩) n ss) {j : Nat} (hj : j < n) : W.cell? ⟨b, o + j * 2, none⟩ = some (.int .i64 (sAt ss j).p) ∧ W.cell? ⟨b, o + j * 2 + 1, none⟩ = some (.bool (sAt ss j).turned) := by
  obtain ⟨b2, o2, e, hc⟩ := h.2 (by omega)
  cases e
  exact hc j hj

set_option maxRecDepth 100000 in
set_option maxHeartbeats 1000000 in
theorem checkJoin19 (A C : Option Addr) (n cap m capm : Nat) (off lo hi : Int) (ps : List Pc) (ss : List St) (w : World) (h : Pcs w A n ps) (hst : Sts w C m ss) (hn : n ≤ 9223372036854775807) (hm : m ≤ 9223372036854775807) :
    Calls Try.prog 19 #[cyl A n cap off lo hi, .slice C m capm] w fun e w' => e = .returned (.int .i64 (ckJoin ⟨ps, off, ⟨lo, hi⟩⟩ ss)) ∧ Below w.heap.size w w' := by
  have X : Jx w w.heap.size A n cap off lo hi ps C m ss (w.alloc (.cells #[.slice A n cap, .int .i64 off, .int .i64 lo, .int .i64 hi] 26)) := ⟨Cx.new h, hst.below (below_alloc_ _ _) (Nat.le_refl _)⟩
  have Hl := Lib.hid h.1
  have Hm := Lib.hid hst.1
  have Hn := Lib.hid hn
  clear h hst hn
  unfold cyl
  obtain ⟨B, hB⟩ : ∃ B, w.heap.size = B := ⟨_, rfl⟩
  rw [hB] at X
  obtain ⟨c0, c1, c2, c3, l0⟩ := X.cx.c
  go_enter Try.func19, Try.ntmps19
  go_wp2_with fail
  clear hB
  refine (checkCyl17 A n cap off lo hi ps _ X.cx.pcs Hn.out).mono ?_
  rintro e w2 ⟨rfl, hb⟩
  have X2 := X.next hb
  clear X hb c0 c1 c2 c3 l0
  obtain ⟨c0, c1, c2, c3, l0⟩ := X2.cx.c
  by_cases he : chkC ⟨ps, off, ⟨lo, hi⟩⟩ = 0
  · rw [he]
    have He := Lib.hid he
    clear he
    by_cases hlen : m = n
    · have d1 : ((m : Int) != (n : Int)) = false := by rw [bne_eq_false_iff_eq]; omega
      have Hle := Lib.hid (show ss.length = ps.length by have := Hl.out; have := Hm.out; omega)
      have hn8 : n ≤ 8 := by have h1 : ps.length ≤ 8 := (chkC_facts He.out).2.1; have := Hl.out; omega
      have hn1 : 1 ≤ n := by have h1 : 1 ≤ ps.length := (chkC_facts He.out).1; have := Hl.out; omega
      subst hlen
      go_wp2_with fail
      go_loopw [5] (fun i wr => ∃ k : Nat, k ≤ m ∧ i = .int .i64 (k : Int) ∧ (ss.take k).all (stepB ps) = true ∧ Below w2.heap.size w2 wr) (fun i _ => m - (intOf i).toNat)
      case atStart => exact ⟨0, Nat.zero_le _, rfl, rfl, Below.refl _ _⟩
      case round =>
        obtain ⟨k, hk, rfl, hall, hBB⟩ := hrel
        have X3 := X2.next hBB
        obtain ⟨c0, c1, c2, c3, l0⟩ := X3.cx.c
        by_cases hlt : k < m
        · obtain ⟨b, o, rfl, hq0⟩ := X3.st.2 (by omega)
          clear hq0
          obtain ⟨e0, e1⟩ := sts_cell X3.st hlt
          have Hs := Lib.hid (all_take (stepB ps) ss k ⟨0, false⟩ (by have := Hm.out; omega))
          have Hf := Lib.hid (show stepB ps (sAt ss k) = false → ckJoin ⟨ps, off, ⟨lo, hi⟩⟩ ss = 2 from fun hf => ckJoin_step He.out Hle.out (all_stop (stepB ps) ss k ⟨0, false⟩ (by have := Hm.out; omega) hf))
          obtain ⟨s, hs⟩ : ∃ s, sAt ss k = s := ⟨_, rfl⟩
          have Hs2 := Lib.hid (show stepB ps (ss.getD k ⟨0, false⟩) = stepB ps s by rw [← hs]; rfl)
          rw [hs] at e0 e1 Hf
          have Hall := Lib.hid hall
          have HBB := Lib.hid hBB
          have i0 : (0 : Int) ≤ (k : Int) := by omega
          have i1 : (k : Int) < (m : Int) := by omega
          clear hs hall hBB
          go_wp2_with fail
          go_still_tail 5, (by kernel_rfl)
          go_wp2_with fail
          refine (isStep45 A m cap off lo hi s.p s.turned ps _ (X3.next (drew_b _ 1)).cx.pcs).mono ?_
          rintro e w3 ⟨rfl, hb⟩
          have X4 := (X3.next (drew_b _ 1)).next hb
          cases hv : stepB ps ⟨s.p, s.turned⟩ with
          | false =>
            have Hr := Lib.hid (Hf.out hv)
            clear hv
            go_wp2_with fail
            go_ret
            exact ⟨ret_int Hr.out.symm, X4.cx.below⟩
          | true =>
            have Hv := Lib.hid hv
            have HB4 := Lib.hid (HBB.out.trans (((drew_b wr 1).mono HBB.out.size).trans (hb.mono (by have := HBB.out.size; exact this))))
            clear hv hb
            go_wp2_with fail
            go_roundw
            case rel => exact ⟨k + 1, by omega, by go_num, by rw [Hs.out, Hall.out, Hs2.out]; exact Hv.out, HB4.out⟩
            case measure => simp [intOf]; omega
        · obtain rfl : k = m := by omega
          have hal : ss.all (stepB ps) = true := by rw [← hall, List.take_of_length_le (by have := Hm.out; omega)]
          have Hall := Lib.hid hal
          have HX3 := Lib.hid X3
          obtain ⟨b, o, rfl, hq0⟩ := X3.st.2 (by omega)
          obtain ⟨wA, rfl⟩ : ∃ x, x = wr := ⟨_, rfl⟩
          clear hall hal hk hlt hBB X3 X2 c0 c1 c2 c3 l0 hq0
          go_wp2_with fail
          go_loopw [6] (fun i wq => ∃ j : Nat, j ≤ k ∧ i = .int .i64 (j : Int) ∧ ((ss.take j).map St.p).Nodup ∧ Below wA.heap.size wA wq) (fun i _ => k - (intOf i).toNat)
          case atStart => exact ⟨0, Nat.zero_le _, rfl, by simp, Below.refl _ _⟩
          case round =>
            obtain ⟨j, hj, rfl, hnd, hB1⟩ := hrel
            obtain ⟨wB, rfl⟩ : ∃ x, x = wr := ⟨_, rfl⟩
            have HX4 := Lib.hid (HX3.out.next hB1)
            have HB1 := Lib.hid hB1
            have Hnd := Lib.hid hnd
            clear hB1 hnd
            by_cases hlt : j < k
            · go_wp2_with fail
              go_loopw [7] (fun i wq => ∃ q : Nat, q ≤ j ∧ i = .int .i64 (q : Int) ∧ (∀ t, t < q → (sAt ss t).p ≠ (sAt ss j).p) ∧ Below wB.heap.size wB wq) (fun i _ => j - (intOf i).toNat)
              case atStart => exact ⟨0, Nat.zero_le _, rfl, fun t ht => by omega, Below.refl _ _⟩
              case round =>
                obtain ⟨q, hq, rfl, hne, hB2⟩ := hrel
                have X5 := HX4.out.next hB2
                have Hne := Lib.hid hne
                have HB2 := Lib.hid hB2
                clear hne hB2
                by_cases hlt2 : q < j
                · obtain ⟨e0, _⟩ := sts_cell X5.st hlt
                  obtain ⟨e1, _⟩ := sts_cell X5.st (show q < k by omega)
                  have i0 : (0 : Int) ≤ (j : Int) := by omega
                  have i1 : (j : Int) < (k : Int) := by omega
                  have i2 : (0 : Int) ≤ (q : Int) := by omega
                  have i3 : (q : Int) < (k : Int) := by omega
                  have i4 : (q : Int) < (j : Int) := by omega
                  obtain ⟨pj, hpj⟩ : ∃ pj, (sAt ss j).p = pj := ⟨_, rfl⟩
                  obtain ⟨pq, hpq⟩ : ∃ pq, (sAt ss q).p = pq := ⟨_, rfl⟩
                  rw [hpj] at e0
                  rw [hpq] at e1
                  by_cases heq : pj = pq
                  · have dd : (pj == pq) = true := by rw [beq_iff_eq]; exact heq
                    have Hr := Lib.hid (ckJoin_have He.out Hle.out Hall.out (nodup_not (show j < ss.length by have := Hm.out; omega) hlt2 (by rw [hpj, hpq]; exact heq)))
                    clear heq hpj hpq
                    go_wp2_with fail
                    go_quiet (fail)
                    go_wp2_with fail
                    go_ret
                    exact ⟨ret_int Hr.out.symm, (X5.next (drew_b _ nq)).cx.below⟩
                  · have dd : (pj == pq) = false := by rw [beq_eq_false_iff_ne]; exact heq
                    have Hnq := Lib.hid (show ∀ t, t < q + 1 → (sAt ss t).p ≠ (sAt ss j).p from fun t ht => by
                      by_cases h : t < q
                      · exact Hne.out t h
                      · obtain rfl : t = q := by omega
                        rw [hpj, hpq]
                        exact fun e => heq e.symm)
                    clear heq hpj hpq
                    go_wp2_with fail
                    go_quiet (fail)
                    go_wp2_with fail
                    go_roundw
                    case rel => exact ⟨q + 1, by omega, by go_num, Hnq.out, HB2.out.trans ((drew_b wr nq).mono HB2.out.size)⟩
                    case measure => simp [intOf]; omega
                · obtain rfl : q = j := by omega
                  go_wp2_with fail
                  go_roundw
                  case rel => exact ⟨q + 1, by omega, by go_num, nodup_next (by have := Hm.out; omega) Hnd.out Hne.out, HB1.out.trans (HB2.out.mono HB1.out.size)⟩
                  case measure => simp [intOf]; omega
            · obtain rfl : j = k := by omega
              have Hnod := Lib.hid (show (ss.map St.p).Nodup by have h := Hnd.out; rw [List.take_of_length_le (by have := Hm.out; omega)] at h; exact h)
              clear hlt hj
              go_wp2_with fail
              go_loopw [8] (fun i wq => ∃ q : Nat, q + 1 ≤ j ∧ i = .int .i64 ((q + 1 : Nat) : Int) ∧ fitAll ⟨ps, off, ⟨lo, hi⟩⟩ ss q = true ∧ Below wB.heap.size wB wq) (fun i _ => j - (intOf i).toNat)
              case atStart => exact ⟨0, by omega, rfl, rfl, Below.refl _ _⟩
              case round =>
                obtain ⟨q, hq, rfl, hfit, hB2⟩ := hrel
                have X5 := HX4.out.next hB2
                have Hfit := Lib.hid hfit
                have HB2 := Lib.hid hB2
                clear hfit hB2
                obtain ⟨q1, hq1⟩ : ∃ q1, q + 1 = q1 := ⟨_, rfl⟩
                rw [hq1]
                have Hq1 := Lib.hid hq1
                by_cases hlt : q1 < j
                · obtain ⟨c0, c1, c2, c3, l0⟩ := X5.cx.c
                  obtain ⟨e0, e1⟩ := sts_cell X5.st (show q < j by omega)
                  obtain ⟨e2, e3⟩ := sts_cell X5.st hlt
                  have hall1 := List.all_eq_true.1 Hall.out
                  have f1 := step_facts (hall1 (sAt ss q) (by rw [sAt_get (by have := Hm.out; omega)]; exact List.getElem_mem _))
                  have f2 := step_facts (hall1 (sAt ss q1) (by rw [sAt_get (by have := Hm.out; omega)]; exact List.getElem_mem _))
                  obtain ⟨s, hs⟩ : ∃ s, sAt ss q = s := ⟨_, rfl⟩
                  obtain ⟨t, ht⟩ : ∃ t, sAt ss q1 = t := ⟨_, rfl⟩
                  rw [hs] at e0 e1 f1
                  rw [ht] at e2 e3 f2
                  have Hst := Lib.hid (show fitAll ⟨ps, off, ⟨lo, hi⟩⟩ ss q1 = (fitAll ⟨ps, off, ⟨lo, hi⟩⟩ ss q && fitsB ⟨ps, off, ⟨lo, hi⟩⟩ s t) by rw [← hq1, fitAll_next, hs, hq1, ht])
                  have Hno := Lib.hid (show fitsB ⟨ps, off, ⟨lo, hi⟩⟩ s t = false → ckJoin ⟨ps, off, ⟨lo, hi⟩⟩ ss = 18 from fun hf => ckJoin_crack He.out Hle.out Hall.out Hnod.out (fitAll_not (k := q) (by have := Hm.out; omega) (by rw [hs, hq1, ht]; exact hf)))
                  obtain ⟨sp, st⟩ := s
                  obtain ⟨tp, tt⟩ := t
                  simp only at e0 e1 e2 e3 f1 f2
                  obtain ⟨k1, rfl⟩ := Int.eq_ofNat_of_zero_le f1.1
                  obtain ⟨k2, rfl⟩ := Int.eq_ofNat_of_zero_le f2.1
                  have Hk1 := Lib.hid (show k1 < j by have := Hl.out; omega)
                  have Hk2 := Lib.hid (show k2 < j by have := Hl.out; omega)
                  have i0 : (0 : Int) ≤ (q : Int) := by omega
                  have i1 : (q : Int) < (j : Int) := by omega
                  have i2 : (0 : Int) ≤ (q1 : Int) := by omega
                  have i3 : (q1 : Int) < (j : Int) := by omega
                  have i4 : (q1 : Int) - 1 = (q : Int) := by omega
                  clear hall1 f1 f2 hs ht hq1
                  go_wp2_with fail
                  have Tall := Lib.hid (show ∀ W, Jb w B A j cap off lo hi ps (some ⟨b, o, none⟩) j ss wr W → Jb w B A j cap off lo hi ps (some ⟨b, o, none⟩) j ss wr W ∧ W.cell? ⟨B, 0, none⟩ = some (.slice A j cap) ∧ W.cell? ⟨B, 1, none⟩ = some (.int .i64 off) ∧ W.cell? ⟨B, 2, none⟩ = some (.int .i64 lo) ∧ W.cell? ⟨B, 3, none⟩ = some (.int .i64 hi) ∧ W.cell? ⟨b, o + q * 2, none⟩ = some (.int .i64 (k1 : Int)) ∧ W.cell? ⟨b, o + q * 2 + 1, none⟩ = some (.bool st) ∧ W.cell? ⟨b, o + q1 * 2, none⟩ = some (.int .i64 (k2 : Int)) ∧ W.cell? ⟨b, o + q1 * 2 + 1, none⟩ = some (.bool tt) from
                    fun W hW => ⟨hW, hW.jx.cx.c.1, hW.jx.cx.c.2.1, hW.jx.cx.c.2.2.1, hW.jx.cx.c.2.2.2.1, (hW.b.cell (p := ⟨b, o + q * 2, none⟩) (lt_of_cell e0)).trans e0, (hW.b.cell (p := ⟨b, o + q * 2 + 1, none⟩) (lt_of_cell e0)).trans e1, (hW.b.cell (p := ⟨b, o + q1 * 2, none⟩) (lt_of_cell e0)).trans e2, (hW.b.cell (p := ⟨b, o + q1 * 2 + 1, none⟩) (lt_of_cell e0)).trans e3⟩)
                  have HJ := Lib.hid (show Jb w B A j cap off lo hi ps (some ⟨b, o, none⟩) j ss wr wr from ⟨X5, Below.refl _ _⟩)
                  have i5 : IntKind.i64.wrap (q : Int) = (q : Int) := IntWalk.i64_in _ (by omega)
                  (go_region_held3 (fun W => Jb w B A j cap off lo hi ps (some ⟨b, o, none⟩) j ss wr W ∧ W.cell? ⟨B, 0, none⟩ = some (.slice A j cap) ∧ W.cell? ⟨B, 1, none⟩ = some (.int .i64 off) ∧ W.cell? ⟨B, 2, none⟩ = some (.int .i64 lo) ∧ W.cell? ⟨B, 3, none⟩ = some (.int .i64 hi) ∧ W.cell? ⟨b, o + q * 2, none⟩ = some (.int .i64 (k1 : Int)) ∧ W.cell? ⟨b, o + q * 2 + 1, none⟩ = some (.bool st) ∧ W.cell? ⟨b, o + q1 * 2, none⟩ = some (.int .i64 (k2 : Int)) ∧ W.cell? ⟨b, o + q1 * 2 + 1, none⟩ = some (.bool tt))
                    (first | (go_split_ands; exact Tall.out _ (by assumption)) | (go_split_ands; exact Tall.out _ (Jb.next (by assumption) (by assumption))) | (exact Tall.out _ (Jb.next HJ.out (drew_b _ 1))) | (go_split_ands; exact Tall.out _ (Jb.next (by assumption) (drew_b _ 1))))
                    (first
                      | (go_at_call 46; go_split_ands; refine (fits46 A j cap k1 k2 off lo hi st tt ps _ (Cx.pcs (Jx.cx (Jb.jx (by assumption)))) Hk1.out Hk2.out He.out).mono ?_; rintro e w7 ⟨rfl, hb⟩)))
                  have X7 : Jb w B A j cap off lo hi ps (some ⟨b, o, none⟩) j ss wr w7 := And.left (b := w7.cell? ⟨B, 0, none⟩ = some (.slice A j cap) ∧ w7.cell? ⟨B, 1, none⟩ = some (.int .i64 off) ∧ w7.cell? ⟨B, 2, none⟩ = some (.int .i64 lo) ∧ w7.cell? ⟨B, 3, none⟩ = some (.int .i64 hi) ∧ w7.cell? ⟨b, o + q * 2, none⟩ = some (.int .i64 (k1 : Int)) ∧ w7.cell? ⟨b, o + q * 2 + 1, none⟩ = some (.bool st) ∧ w7.cell? ⟨b, o + q1 * 2, none⟩ = some (.int .i64 (k2 : Int)) ∧ w7.cell? ⟨b, o + q1 * 2 + 1, none⟩ = some (.bool tt)) (by assumption)
                  have HB7 := Lib.hid (HB2.out.trans (X7.b.mono HB2.out.size))
                  cases hv : fitsB ⟨ps, off, ⟨lo, hi⟩⟩ ⟨(k1 : Int), st⟩ ⟨(k2 : Int), tt⟩ with
                  | false =>
                    have Hr := Lib.hid (Hno.out hv)
                    clear hv
                    go_wp2_with fail
                    go_ret
                    exact ⟨ret_int Hr.out.symm, X7.jx.cx.below⟩
                  | true =>
                    have Hv := Lib.hid hv
                    clear hv
                    go_wp2_with fail
                    go_roundw
                    case rel => exact ⟨q1, by omega, by go_num, by rw [Hst.out, Hfit.out]; exact Hv.out, HB7.out⟩
                    case measure => simp [intOf]; omega
                · have Hr := Lib.hid (ckJoin_ok He.out Hle.out Hall.out Hnod.out (by have h1 := Hfit.out; have h2 := Hm.out; rw [show ss.length - 1 = q by omega]; exact h1))
                  have hq3 : ¬ (q1 : Int) < (j : Int) := by omega
                  clear hq1
                  go_wp2_with fail
                  go_ret
                  exact ⟨ret_int Hr.out.symm, X5.cx.below⟩
    · have d1 : ((m : Int) != (n : Int)) = true := by rw [bne_iff_ne]; omega
      have Hr := Lib.hid (ckJoin_len (ss := ss) He.out (by have := Hl.out; have := Hm.out; show ss.length ≠ ps.length; omega))
      clear hlen
      go_wp2_with fail
      go_ret
      exact ⟨ret_int Hr.out.symm, X2.cx.below⟩
  · have Hr := Lib.hid (ckJoin_bad (ss := ss) he)
    have he2 : (chkC ⟨ps, off, ⟨lo, hi⟩⟩ != 0) = true := by rw [bne_iff_ne]; exact he
    clear he
    go_wp2_with fail
    refine (checkCyl17 A n cap off lo hi ps _ X2.cx.pcs Hn.out).mono ?_
    rintro e w3 ⟨rfl, hb⟩
    have X3 := X2.next hb
    clear X2 hb
    go_wp2_with fail
    go_ret
    exact ⟨ret_int Hr.out.symm, X3.cx.below⟩
end Go.Proofs.Ytfmcfalghbaanaa
