/- Stage 6: the document's sides of names, and its least side. -/
import Derived.Test.YtigohccehllmnaaCh
namespace Go.Proofs.Ytigohccehllmnaa
set_option linter.unusedSimpArgs false
set_option linter.unusedVariables false
open Go.RowKit Go.Shelf

/-- In how many of the first sides a name is. -/
def mnN (all : List (List Int)) (x : Int) : Nat → Nat
  | 0 => 0
  | i + 1 => if x ∈ all.getD i [] then mnN all x i + 1 else mnN all x i
theorem mnN_le (all : List (List Int)) (x : Int) : ∀ i, mnN all x i ≤ i
  | 0 => Nat.le_refl _
  | i + 1 => by
    have := mnN_le all x i
    simp only [mnN]
    split <;> omega
def skV (all : List (List Int)) (x : Int) : Int := if mnN all x all.length = all.length then 1 else if mnN all x all.length = 0 then -1 else 0
def skL (all : List (List Int)) (n : Nat) : List Int := flL (fun j => skV all (j : Int)) n
theorem skL_succ (all : List (List Int)) (n : Nat) : skL all (n + 1) = skL all n ++ [skV all (n : Int)] := flL_succ _ _
/-- All cheapest sides of the document. -/
def chL (l : NL) (c : Nat) : List (List Int) := otK l (asK l c (2 ^ c)) (asK l c (2 ^ c)).length
def chB (l : NL) (c : Nat) : Int := bsK l (asK l c (2 ^ c)) (asK l c (2 ^ c)).length
theorem chL_len (l : NL) {c : Nat} (h : c ≤ 9) : (chL l c).length ≤ 512 := by
  have h1 := otK_len l (asK l c (2 ^ c)) (asK l c (2 ^ c)).length
  have h2 := asK_len l c (2 ^ c)
  have h3 : 2 ^ c ≤ 512 := (Nat.le_trans (Nat.pow_le_pow_right (n := 2) (by omega) h) (by decide : 2 ^ 9 ≤ 512))
  unfold chL
  omega
theorem cheapestA (l : NL) (c : Nat) (w : World) (h : NLs w l) (hch : chkL l = 0) (hcN : l.N = (c : Int)) (hc1 : 1 ≤ c) (hc9 : c ≤ 9) :
    Calls Try.prog 62 #[.agg #[.int .i64 l.N, .slice l.A l.n l.cap, .slice l.LA l.ln l.lc, .slice l.RA l.rn l.rc]] w fun e w' => ∃ C cap, e = .returned (.tuple #[.slice C (chL l c).length cap, .int .i64 (chB l c)]) ∧ (chL l c).length ≤ cap ∧ Rows w' C (chL l c).length (chL l c) ∧ Below w.heap.size w w' := cheapest62 l c w h hch hcN hc1 hc9
section
attribute [local go_sem ↓] exec_app at_app
attribute [local go_sem] Oper.semAt_some
set_option maxRecDepth 100000 in
set_option maxHeartbeats 16000000 in
theorem refSides33 (l : NL) (w : World) (h : NLs w l) (hc9 : chkL l = 0 → l.N ≤ 9) :
    Calls Try.prog 33 #[.agg #[.int .i64 l.N, .slice l.A l.n l.cap, .slice l.LA l.ln l.lc, .slice l.RA l.rn l.rc]] w fun e w' => (chkL l ≠ 0 ∧ e = .returned (.tuple #[.slice none 0 0, .int .i64 (chkL l)]) ∨
      chkL l = 0 ∧ ∃ C cap, e = .returned (.tuple #[.slice C l.N.toNat cap, .int .i64 0]) ∧ l.N.toNat ≤ cap ∧ Ints w' C l.N.toNat (skL (chL l l.N.toNat) l.N.toNat)) ∧ Below w.heap.size w w' := by
  obtain ⟨R, hR⟩ : ∃ v, w.heap.size = v := ⟨_, rfl⟩
  have hb0 := below_alloc_ w (.cells #[.int .i64 l.N, .slice l.A l.n l.cap, .slice l.LA l.ln l.lc, .slice l.RA l.rn l.rc] 25)
  have hr0 := heap_alloc_new_ w (.cells #[.int .i64 l.N, .slice l.A l.n l.cap, .slice l.LA l.ln l.lc, .slice l.RA l.rn l.rc] 25)
  have hz0 : (w.alloc (.cells #[.int .i64 l.N, .slice l.A l.n l.cap, .slice l.LA l.ln l.lc, .slice l.RA l.rn l.rc] 25)).heap.size = w.heap.size + 1 := by simp
  obtain ⟨w0, hw0⟩ : ∃ v, w.alloc (.cells #[.int .i64 l.N, .slice l.A l.n l.cap, .slice l.LA l.ln l.lc, .slice l.RA l.rn l.rc] 25) = v := ⟨_, rfl⟩
  rw [hw0] at hb0 hr0 hz0
  rw [hR] at hr0 hz0
  have hB := hb0
  have S := Lib.hid (h.below hB (Nat.le_refl _))
  have X := Lib.hid hr0
  have HW0 := Lib.hid hw0
  have B := Lib.hid hB
  have HR := Lib.hid hR
  clear hB hR hb0 hr0 hz0 hw0 h
  have Hc9 := Lib.hid hc9
  clear hc9
  have ltX : R < w0.heap.size := lt_of_block X.out
  have zX0 : w0.cell? ⟨R, 0, none⟩ = some (.int .i64 l.N) := by rw [cell_row X.out]; rfl
  have zX1 : w0.cell? ⟨R, 1, none⟩ = some (.slice l.A l.n l.cap) := by rw [cell_row X.out]; rfl
  have zX2 : w0.cell? ⟨R, 2, none⟩ = some (.slice l.LA l.ln l.lc) := by rw [cell_row X.out]; rfl
  have zX3 : w0.cell? ⟨R, 3, none⟩ = some (.slice l.RA l.rn l.rc) := by rw [cell_row X.out]; rfl
  go_enter Try.func33, Try.ntmps33
  go_wp2_with fail
  try rw [HW0.out]
  try rw [HR.out]
  try simp only [Nat.add_assoc, Nat.reduceAdd]
  try go_wp2_with fail
  clear zX0 zX1 zX2 zX3 ltX
  refine (checkList18 l w0 S.out).mono ?_
  rintro en w1 ⟨rfl, hb⟩
  replace S := Lib.hid (S.out.below hb (Nat.le_refl _))
  replace X := Lib.hid ((hb.block _ (lt_of_block X.out)).trans X.out)
  replace B := Lib.hid (B.out.trans (hb.mono B.out.size))
  obtain ⟨c9, hc⟩ : ∃ v, chkL l = v := ⟨_, rfl⟩
  rw [hc]
  have HC := Lib.hid hc
  clear hc
  try clear hb
  have ltX : R < w1.heap.size := lt_of_block X.out
  have zX0 : w1.cell? ⟨R, 0, none⟩ = some (.int .i64 l.N) := by rw [cell_row X.out]; rfl
  have zX1 : w1.cell? ⟨R, 1, none⟩ = some (.slice l.A l.n l.cap) := by rw [cell_row X.out]; rfl
  have zX2 : w1.cell? ⟨R, 2, none⟩ = some (.slice l.LA l.ln l.lc) := by rw [cell_row X.out]; rfl
  have zX3 : w1.cell? ⟨R, 3, none⟩ = some (.slice l.RA l.rn l.rc) := by rw [cell_row X.out]; rfl
  by_cases h0 : c9 = 0
  rotate_left
  · have d0 : (c9 != 0) = true := by rw [bne_iff_ne]; exact h0
    have H0 := Lib.hid h0
    clear h0
    go_wp2_with fail
    refine (checkList18 l w1 S.out).mono ?_
    rintro en w2 ⟨rfl, hb⟩
    replace B := Lib.hid (B.out.trans (hb.mono B.out.size))
    clear hb
    go_wp2_with fail
    go_ret2
    exact ⟨.inl ⟨by rw [HC.out]; exact H0.out, by rw [HC.out] <;> rfl⟩, B.out⟩
  subst h0
  have hN := (chk_zero HC.out).1
  have h9 := Hc9.out HC.out
  obtain ⟨c, hcN⟩ : ∃ c : Nat, l.N = (c : Int) := ⟨l.N.toNat, by omega⟩
  have HB9 := Lib.hid (show 1 ≤ c ∧ c ≤ 9 by omega)
  have HCN := Lib.hid hcN
  have Hto := Lib.hid (show l.N.toNat = c by omega)
  clear hN h9 hcN
  go_wp2_with fail
  clear zX0 zX1 zX2 zX3 ltX
  refine (cheapestA l c w1 S.out HC.out HCN.out HB9.out.1 HB9.out.2).mono ?_
  rintro en w2 ⟨CA, ca, rfl, hca, hR, hb⟩
  replace S := Lib.hid (S.out.below hb (Nat.le_refl _))
  replace X := Lib.hid ((hb.block _ (lt_of_block X.out)).trans X.out)
  replace B := Lib.hid (B.out.trans (hb.mono B.out.size))
  have hn5 := chL_len l HB9.out.2
  obtain ⟨all, hal⟩ : ∃ v, chL l c = v := ⟨_, rfl⟩
  rw [hal] at hn5 hR ⊢
  have HAL := Lib.hid hal
  have HAL2 := Lib.hid (show ∀ n, skL all (n + 1) = skL all n ++ [skV all (n : Int)] from skL_succ all)
  have HSV := Lib.hid (show ∀ n : Nat, skV all (n : Int) = if mnN all (n : Int) all.length = all.length then 1 else if mnN all (n : Int) all.length = 0 then -1 else 0 from fun n => rfl)
  have HMI := Lib.hid (show ∀ (n : Nat) (i : Nat), mnN all (n : Int) (i + 1) = if (n : Int) ∈ all.getD i [] then mnN all (n : Int) i + 1 else mnN all (n : Int) i from fun n i => rfl)
  obtain ⟨n, hn⟩ : ∃ v, all.length = v := ⟨_, rfl⟩
  rw [hn] at hn5 hR HSV ⊢
  have HR := Lib.hid hR
  have Hn5 := Lib.hid hn5
  clear hR hal hn hn5 hca
  try clear hb
  have ltX : R < w2.heap.size := lt_of_block X.out
  have zX0 : w2.cell? ⟨R, 0, none⟩ = some (.int .i64 l.N) := by rw [cell_row X.out]; rfl
  have zX1 : w2.cell? ⟨R, 1, none⟩ = some (.slice l.A l.n l.cap) := by rw [cell_row X.out]; rfl
  have zX2 : w2.cell? ⟨R, 2, none⟩ = some (.slice l.LA l.ln l.lc) := by rw [cell_row X.out]; rfl
  have zX3 : w2.cell? ⟨R, 3, none⟩ = some (.slice l.RA l.rn l.rc) := by rw [cell_row X.out]; rfl
  go_wp2_with fail
  clear zX0 zX1 zX2 zX3 ltX
  go_loopw [6, 7, 8, 9] (fun v i a1 a2 wr => ∃ x : Nat, x ≤ c ∧ i = .int .i64 (x : Int) ∧ Hid (∃ v0 : Value, v = v0 ∧ GrI w2 wr v0 x (skL all x))) (fun v i a1 a2 _ => c - (intOf i).toNat)
  case atStart => exact ⟨0, Nat.zero_le _, rfl, Lib.hid ⟨_, rfl, GrI.nil _⟩⟩
  case round =>
    obtain ⟨x, hx9, rfl, HX⟩ := hrel
    obtain ⟨wk, rfl⟩ : ∃ wk, wk = wr := ⟨_, rfl⟩
    obtain ⟨v0, hv, hG⟩ := HX.out
    obtain rfl : v0 = _ := hv.symm
    clear HX hv
    have hbk := hG.2.2
    have Xk := Lib.hid ((hbk.block _ (lt_of_block X.out)).trans X.out)
    have zX0 : wk.cell? ⟨R, 0, none⟩ = some (.int .i64 (c : Int)) := by rw [cell_row Xk.out, ← HCN.out]; rfl
    have hb9 := HB9.out
    by_cases hlt : x < c
    · have HG := Lib.hid hG
      have HRk := Lib.hid (HR.out.below hbk (Nat.le_refl _))
      have Hlt := Lib.hid hlt
      clear hG hbk
      go_wp2_with fail
      clear zX0
      go_loopw [8, 9] (fun m i wr => ∃ q : Nat, q ≤ n ∧ i = .int .i64 (q : Int) ∧ m = .int .i64 ((mnN all (x : Int) q : Nat) : Int) ∧ wr = wk) (fun m i _ => n - (intOf i).toNat)
      case atStart => exact ⟨0, Nat.zero_le _, rfl, rfl, rfl⟩
      case round =>
        obtain ⟨q, hq9, rfl, rfl, hw9⟩ := hrel
        subst wr
        have hn5 := Hn5.out
        have hml := mnN_le all (x : Int) q
        by_cases hlt2 : q < n
        · obtain ⟨ba, oa, hA, hcz⟩ := HRk.out.2 (by omega)
          obtain ⟨Ci, mi, ci, hci, hIi, hmc, hm6⟩ := hcz q hlt2
          have hst := HMI.out x q
          obtain ⟨si, hsi⟩ : ∃ v, all.getD q [] = v := ⟨_, rfl⟩
          rw [hsi] at hst hIi
          subst hA
          have K := Lib.hid (in38 Ci mi ci si (x : Int) wk hIi hm6)
          obtain ⟨j, hj⟩ : ∃ v, decide ((x : Int) ∈ si) = v := ⟨_, rfl⟩
          rw [hj] at K
          have HJ := Lib.hid hj
          obtain ⟨m, hm⟩ : ∃ v, mnN all (x : Int) q = v := ⟨_, rfl⟩
          rw [hm] at hst hml ⊢
          have HST := Lib.hid hst
          have i0 : (0 : Int) ≤ (q : Int) := by omega
          have i1 : (q : Int) < (n : Int) := by omega
          clear hst hm hj hsi hIi hmc hm6 hcz
          go_wp2_with fail
          refine K.out.mono ?_
          rintro en w9 ⟨rfl, hw9⟩
          subst w9
          rcases j with _ | _
          · have HN := Lib.hid (show mnN all (x : Int) (q + 1) = m by rw [HST.out, if_neg (of_decide_eq_false HJ.out)])
            go_wp2_with fail
            go_roundw
            case rel => exact ⟨q + 1, by omega, by go_num, by rw [HN.out], trivial⟩
            case measure => simp [intOf]; omega
          · have HN := Lib.hid (show mnN all (x : Int) (q + 1) = m + 1 by rw [HST.out, if_pos (of_decide_eq_true HJ.out)])
            go_wp2_with fail
            go_roundw
            case rel => exact ⟨q + 1, by omega, by go_num, by rw [HN.out]; go_num, trivial⟩
            case measure => simp [intOf]; omega
        · obtain rfl : q = n := by omega
          have hst := HSV.out x
          obtain ⟨m, hm⟩ : ∃ v, mnN all (x : Int) q = v := ⟨_, rfl⟩
          rw [hm] at hst hml ⊢
          have HST := Lib.hid hst
          have HL2 := Lib.hid (HAL2.out x)
          clear hst hm
          by_cases h1 : m = q
          · obtain ⟨C, cc, W', hrun, hG2⟩ := GrI.app HG.out 1 (by have := Hlt.out; omega)
            have HG2 := Lib.hid (show GrI w2 W' (.slice C (x + 1) cc) (x + 1) (skL all (x + 1)) by rw [HL2.out, HST.out, if_pos h1]; exact hG2)
            have d1 : ((m : Int) == (q : Int)) = true := by rw [beq_iff_eq]; omega
            clear hG2 h1
            go_wp2_with fail
            go_roundw
            case rel => exact ⟨x + 1, by have := Hlt.out; omega, by go_num, Lib.hid ⟨_, rfl, HG2.out⟩⟩
            case measure => have := Hlt.out; simp [intOf]; omega
          have d1 : ((m : Int) == (q : Int)) = false := by rw [beq_eq_false_iff_ne]; omega
          by_cases h2 : m = 0
          · obtain ⟨C, cc, W', hrun, hG2⟩ := GrI.app HG.out (-1) (by have := Hlt.out; omega)
            have HG2 := Lib.hid (show GrI w2 W' (.slice C (x + 1) cc) (x + 1) (skL all (x + 1)) by rw [HL2.out, HST.out, if_neg h1, if_pos h2]; exact hG2)
            have d2 : ((m : Int) == 0) = true := by rw [beq_iff_eq]; omega
            clear hG2 h1 h2
            go_wp2_with fail
            go_roundw
            case rel => exact ⟨x + 1, by have := Hlt.out; omega, by go_num, Lib.hid ⟨_, rfl, HG2.out⟩⟩
            case measure => have := Hlt.out; simp [intOf]; omega
          obtain ⟨C, cc, W', hrun, hG2⟩ := GrI.app HG.out 0 (by have := Hlt.out; omega)
          have HG2 := Lib.hid (show GrI w2 W' (.slice C (x + 1) cc) (x + 1) (skL all (x + 1)) by rw [HL2.out, HST.out, if_neg h1, if_neg h2]; exact hG2)
          have d2 : ((m : Int) == 0) = false := by rw [beq_eq_false_iff_ne]; omega
          clear hG2 h1 h2
          go_wp2_with fail
          go_roundw
          case rel => exact ⟨x + 1, by have := Hlt.out; omega, by go_num, Lib.hid ⟨_, rfl, HG2.out⟩⟩
          case measure => have := Hlt.out; simp [intOf]; omega
    · obtain rfl : x = c := by omega
      have hl : (skL all x).length = x := flL_len _ _
      obtain ⟨C, cp, rfl, hcp, hI, -⟩ := ints_own hl hG.1
      have HI9 := Lib.hid (And.intro hcp hI)
      have HB := Lib.hid (B.out.trans (hbk.mono B.out.size))
      clear hcp hI hG hbk hl
      go_wp2_with fail
      go_ret2
      exact ⟨.inr ⟨HC.out, by rw [Hto.out, HAL.out]; exact ⟨C, cp, rfl, HI9.out.1, HI9.out.2⟩⟩, HB.out⟩
/-- The names with one. -/
def onB (zs : List Int) : Int → Bool := fun x => decide (iAt zs x.toNat = 1)
set_option maxRecDepth 100000 in
set_option maxHeartbeats 16000000 in
theorem refLeast31 (l : NL) (w : World) (h : NLs w l) (hc9 : chkL l = 0 → l.N ≤ 9) :
    Calls Try.prog 31 #[.agg #[.int .i64 l.N, .slice l.A l.n l.cap, .slice l.LA l.ln l.lc, .slice l.RA l.rn l.rc]] w fun e w' => (chkL l ≠ 0 ∧ e = .returned (.tuple #[.slice none 0 0, .int .i64 0, .int .i64 (chkL l)]) ∨
      chkL l = 0 ∧ ∃ C cap, e = .returned (.tuple #[.slice C (nmK (onB (skL (chL l l.N.toNat) l.N.toNat)) l.N.toNat).length cap, .int .i64 (chB l l.N.toNat), .int .i64 0]) ∧ (nmK (onB (skL (chL l l.N.toNat) l.N.toNat)) l.N.toNat).length ≤ cap ∧ Ints w' C (nmK (onB (skL (chL l l.N.toNat) l.N.toNat)) l.N.toNat).length (nmK (onB (skL (chL l l.N.toNat) l.N.toNat)) l.N.toNat)) ∧ Below w.heap.size w w' := by
  obtain ⟨R, hR⟩ : ∃ v, w.heap.size = v := ⟨_, rfl⟩
  have hb0 := below_alloc_ w (.cells #[.int .i64 l.N, .slice l.A l.n l.cap, .slice l.LA l.ln l.lc, .slice l.RA l.rn l.rc] 25)
  have hr0 := heap_alloc_new_ w (.cells #[.int .i64 l.N, .slice l.A l.n l.cap, .slice l.LA l.ln l.lc, .slice l.RA l.rn l.rc] 25)
  have hz0 : (w.alloc (.cells #[.int .i64 l.N, .slice l.A l.n l.cap, .slice l.LA l.ln l.lc, .slice l.RA l.rn l.rc] 25)).heap.size = w.heap.size + 1 := by simp
  obtain ⟨w0, hw0⟩ : ∃ v, w.alloc (.cells #[.int .i64 l.N, .slice l.A l.n l.cap, .slice l.LA l.ln l.lc, .slice l.RA l.rn l.rc] 25) = v := ⟨_, rfl⟩
  rw [hw0] at hb0 hr0 hz0
  rw [hR] at hr0 hz0
  have hB := hb0
  have S := Lib.hid (h.below hB (Nat.le_refl _))
  have X := Lib.hid hr0
  have HW0 := Lib.hid hw0
  have B := Lib.hid hB
  have HR := Lib.hid hR
  clear hB hR hb0 hr0 hz0 hw0 h
  have Hc9 := Lib.hid hc9
  clear hc9
  have ltX : R < w0.heap.size := lt_of_block X.out
  have zX0 : w0.cell? ⟨R, 0, none⟩ = some (.int .i64 l.N) := by rw [cell_row X.out]; rfl
  have zX1 : w0.cell? ⟨R, 1, none⟩ = some (.slice l.A l.n l.cap) := by rw [cell_row X.out]; rfl
  have zX2 : w0.cell? ⟨R, 2, none⟩ = some (.slice l.LA l.ln l.lc) := by rw [cell_row X.out]; rfl
  have zX3 : w0.cell? ⟨R, 3, none⟩ = some (.slice l.RA l.rn l.rc) := by rw [cell_row X.out]; rfl
  go_enter Try.func31, Try.ntmps31
  go_wp2_with fail
  try rw [HW0.out]
  try rw [HR.out]
  try simp only [Nat.add_assoc, Nat.reduceAdd]
  try go_wp2_with fail
  clear zX0 zX1 zX2 zX3 ltX
  refine (refSides33 l w0 S.out Hc9.out).mono ?_
  rintro en w1 ⟨hh, hb⟩
  rcases hh with ⟨h0, rfl⟩ | ⟨h0, CS, cs, rfl, hcs, hI⟩
  · obtain ⟨c, hc⟩ : ∃ v, chkL l = v := ⟨_, rfl⟩
    rw [hc] at h0 ⊢
    have d0 : (c != 0) = true := by rw [bne_iff_ne]; exact h0
    have H0 := Lib.hid h0
    have HC := Lib.hid hc
    replace B := Lib.hid (B.out.trans (hb.mono B.out.size))
    clear h0 hc hb
    go_wp2_with fail
    go_ret3
    exact ⟨.inl ⟨by rw [HC.out]; exact H0.out, by rw [HC.out] <;> rfl⟩, B.out⟩
  have hN := (chk_zero h0).1
  have h9 := Hc9.out h0
  obtain ⟨c, hcN⟩ : ∃ c : Nat, l.N = (c : Int) := ⟨l.N.toNat, by omega⟩
  have HB9 := Lib.hid (show 1 ≤ c ∧ c ≤ 9 by omega)
  have HCN := Lib.hid hcN
  have hto : l.N.toNat = c := by omega
  have HC := Lib.hid h0
  rw [hto] at hI ⊢
  have Hto := Lib.hid hto
  obtain ⟨sk, hsk⟩ : ∃ v, skL (chL l c) c = v := ⟨_, rfl⟩
  rw [hsk] at hI
  have HSK := Lib.hid hsk
  have HI := Lib.hid hI
  clear hI hsk h0 hN h9 hcN hto hcs
  replace S := Lib.hid (S.out.below hb (Nat.le_refl _))
  replace X := Lib.hid ((hb.block _ (lt_of_block X.out)).trans X.out)
  replace B := Lib.hid (B.out.trans (hb.mono B.out.size))
  clear hb
  have ltX : R < w1.heap.size := lt_of_block X.out
  have zX0 : w1.cell? ⟨R, 0, none⟩ = some (.int .i64 l.N) := by rw [cell_row X.out]; rfl
  have zX1 : w1.cell? ⟨R, 1, none⟩ = some (.slice l.A l.n l.cap) := by rw [cell_row X.out]; rfl
  have zX2 : w1.cell? ⟨R, 2, none⟩ = some (.slice l.LA l.ln l.lc) := by rw [cell_row X.out]; rfl
  have zX3 : w1.cell? ⟨R, 3, none⟩ = some (.slice l.RA l.rn l.rc) := by rw [cell_row X.out]; rfl
  go_wp2_with fail
  clear zX0 zX1 zX2 zX3 ltX
  refine (cheapestA l c w1 S.out HC.out HCN.out HB9.out.1 HB9.out.2).mono ?_
  rintro en w2 ⟨CA, ca, rfl, hca, hR, hb⟩
  replace S := Lib.hid (S.out.below hb (Nat.le_refl _))
  replace HI := Lib.hid (HI.out.below hb (Nat.le_refl _))
  replace X := Lib.hid ((hb.block _ (lt_of_block X.out)).trans X.out)
  replace B := Lib.hid (B.out.trans (hb.mono B.out.size))
  obtain ⟨cb, hcb⟩ : ∃ v, chB l c = v := ⟨_, rfl⟩
  rw [hcb]
  have HCB := Lib.hid hcb
  obtain ⟨nn, hnn⟩ : ∃ v, (chL l c).length = v := ⟨_, rfl⟩
  rw [hnn]
  clear hR hca hcb hnn
  try clear hb
  go_wp2_with fail
  go_loopw [9, 10] (fun v i wr => ∃ x : Nat, x ≤ c ∧ i = .int .i64 (x : Int) ∧ Hid (∃ v0 : Value, v = v0 ∧ GrL w2 wr v0 (nmK (onB sk) x))) (fun v i _ => c - (intOf i).toNat)
  case atStart => exact ⟨0, Nat.zero_le _, rfl, Lib.hid ⟨_, rfl, GrI.nil _⟩⟩
  case round =>
    obtain ⟨x, hx9, rfl, HX⟩ := hrel
    obtain ⟨wk, rfl⟩ : ∃ wk, wk = wr := ⟨_, rfl⟩
    obtain ⟨v0, hv, hG⟩ := HX.out
    obtain rfl : v0 = _ := hv.symm
    clear HX hv
    have hbk := hG.2.2
    have hb9 := HB9.out
    by_cases hlt : x < c
    · have HIk := HI.out.below hbk (Nat.le_refl _)
      obtain ⟨bs, os, hA, hcz⟩ := HIk.2 (by omega)
      have r1 := hcz x hlt
      subst hA
      have hy : iAt sk x = 1 → nmK (onB sk) (x + 1) = nmK (onB sk) x ++ [(x : Int)] := fun e => nmK_yes (by simp [onB, e])
      have hno : ¬ iAt sk x = 1 → nmK (onB sk) (x + 1) = nmK (onB sk) x := fun e => nmK_no (by simp [onB, e])
      obtain ⟨sv, hsv⟩ : ∃ v, iAt sk x = v := ⟨_, rfl⟩
      rw [hsv] at r1 hy hno
      have Hy := Lib.hid hy
      have Hno := Lib.hid hno
      have HG := Lib.hid hG
      have hlen := nmK_len (onB sk) x
      obtain ⟨C, cc, W', hrun, hG2, hkp⟩ := GrI.app2 hG (x : Int) (by omega)
      have HG2 := Lib.hid (show GrL w2 W' (.slice C ((nmK (onB sk) x).length + 1) cc) (nmK (onB sk) x ++ [(x : Int)]) from by unfold GrL; rw [List.length_append]; exact hG2)
      have i0 : (0 : Int) ≤ (x : Int) := by omega
      have i1 : (x : Int) < (c : Int) := by omega
      clear hy hno hsv hG hG2 hbk hlen hkp hcz HIk
      by_cases he : sv = 1
      · have d0 : (sv == 1) = true := by rw [beq_iff_eq]; exact he
        have HN := Lib.hid (Hy.out he)
        clear he
        go_wp2_with fail
        go_roundw
        case rel => exact ⟨x + 1, by omega, by go_num, Lib.hid ⟨_, rfl, by rw [HN.out]; exact HG2.out⟩⟩
        case measure => simp [intOf]; omega
      · have d0 : (sv == 1) = false := by rw [beq_eq_false_iff_ne]; exact he
        have HN := Lib.hid (Hno.out he)
        clear he hrun
        go_wp2_with fail
        go_roundw
        case rel => exact ⟨x + 1, by omega, by go_num, Lib.hid ⟨_, rfl, by rw [HN.out]; exact HG.out⟩⟩
        case measure => simp [intOf]; omega
    · obtain rfl : x = c := by omega
      obtain ⟨C, cp, rfl, hcp, hI, -⟩ := ints_own rfl hG.1
      have HI9 := Lib.hid (And.intro hcp hI)
      have HB := Lib.hid (B.out.trans (hbk.mono B.out.size))
      clear hcp hI hG hbk
      go_wp2_with fail
      go_ret3
      exact ⟨.inr ⟨HC.out, by rw [Hto.out, HSK.out, HCB.out]; exact ⟨C, cp, rfl, HI9.out.1, HI9.out.2⟩⟩, HB.out⟩
end
end Go.Proofs.Ytigohccehllmnaa
