/- Stage 2: Nth, Rank, Only. -/
import Derived.Test.YtfmcfalghbaanaaNth
import Derived.Test.YtfmcfalghbaanaaCkTop
namespace Go.Proofs.Ytfmcfalghbaanaa
set_option linter.unusedSimpArgs false
set_option linter.unusedVariables false
open Go.RowKit Go.Shelf
attribute [local go_sem] Oper.semAt_some
attribute [local go_sem ↓] exec_load78
attribute [local go_sem ↓] at_load78
attribute [local go_sem ↓] exec_store78
attribute [local go_sem ↓] at_store78

theorem codesK_sorted (ps : List Pc) (k : Nat) : (codesK ps k).Pairwise (· < ·) ∧ ∀ s ∈ codesK ps k, s < 2 * k := by
  induction k with
  | zero => simp [codesK]
  | succ k ih =>
    rw [codesK_succ]
    constructor
    · rw [List.pairwise_append]
      refine ⟨ih.1, by split <;> simp, fun x hx y hy => ?_⟩
      have h1 := ih.2 x hx
      split at hy
      · simp at hy; omega
      · simp at hy; omega
    · intro s hs
      rcases List.mem_append.1 hs with h | h
      · have := ih.2 s h; omega
      · split at h
        · simp at h; omega
        · simp at h; omega
theorem codes_sorted (ps : List Pc) : (codesL ps).Pairwise (· < ·) := (codesK_sorted ps ps.length).1
/-- The joins of a cylinder. -/
def joinsC (c : Cy) : List (List Nat) := joins (tabOf c) (codesL c.ps) c.ps.length
def nthR (c : Cy) (num : Int) : List St × Int :=
  if chkC c ≠ 0 then ([], chkC c) else if num < 0 ∨ ((joinsC c).length : Int) ≤ num then ([], 3) else (((joinsC c).getD num.toNat []).map stC, 0)
def rankR (c : Cy) (ss : List St) : Int × Int :=
  if ckJoin c ss ≠ 0 then (0, ckJoin c ss) else (((joinsC c).idxOf (ss.map codeS) : Nat), 0)
def onlyR (c : Cy) : List St × Int :=
  if chkC c ≠ 0 then ([], chkC c) else if (joinsC c).length = 0 then ([], 5) else if (joinsC c).length = 1 then (((joinsC c).getD 0 []).map stC, 0) else ([], 6)
theorem budn {n : Nat} (h : n ≤ 8) : 17 ^ (n + 1) ≤ 17 ^ 9 := Nat.pow_le_pow_right (by omega) (by omega)
theorem bud1 {n : Nat} (h : n ≤ 8) : 0 + 17 ^ (n + 1) ≤ 1000000000000000000 := by
  have h1 := budn h
  have h2 : 17 ^ 9 = 118587876497 := by decide
  omega
theorem bud2 {n : Nat} (h : n ≤ 8) : 0 + 17 ^ (n + 1) + 128 * 17 ^ 9 ≤ 1000000000000000000 := by
  have h1 := budn h
  have h2 : 17 ^ 9 = 118587876497 := by decide
  omega

set_option maxRecDepth 100000 in
set_option maxHeartbeats 4000000 in
theorem nth23_bad (A : Option Addr) (n cap : Nat) (off lo hi : Int) (num : Int) (ps : List Pc) (w : World) (h : Pcs w A n ps) (hn : n ≤ 9223372036854775807)  (he : chkC ⟨ps, off, ⟨lo, hi⟩⟩ ≠ 0) :
    Calls Try.prog 23 #[cyl A n cap off lo hi, .int .i64 num] w fun e w' => e = .returned (.tuple #[.slice none 0 0, .int .i64 (chkC ⟨ps, off, ⟨lo, hi⟩⟩)]) ∧ Below w.heap.size w w' := by
  have X := Cx.new (cap := cap) (off := off) (lo := lo) (hi := hi) h
  unfold cyl
  have X1 := X.next (below_alloc_ _ (.cells Try.zeroCells78 78))
  have Hn := Lib.hid hn
  go_enter Try.func23, Try.ntmps23
  obtain ⟨c0, c1, c2, c3, l0⟩ := X.c
  go_wp2_with fail
  refine (lay42_bad A n cap off lo hi ps _ X.pcs Hn.out he).mono ?_
  rintro e w2 ⟨rfl, hb⟩
  have X2 := (X.next hb).next (below_alloc_ _ (.cells Try.zeroCells78 78))
  have hz : (w2.alloc (.cells Try.zeroCells78 78)).heap[w2.heap.size]? = some (.cells Try.zeroCells78 78 (0, 0)) := hal_new rfl
  have hst := run_st78 hz zero_size zero_size zero_one
  have d : (chkC ⟨ps, off, ⟨lo, hi⟩⟩ != 0) = true := by rw [bne_iff_ne]; exact he
  have HX2 := Lib.hid X2.below
  have HB := Lib.hid (show w.heap.size ≤ w2.heap.size from Nat.le_trans X.below.size hb.size)
  clear c0 c1 c2 c3 l0 X X1 X2 hb hz he h hn
  go_wp2_with fail
  refine bodyPost_ret (v := .tuple #[.slice none 0 0, .int .i64 (chkC ⟨ps, off, ⟨lo, hi⟩⟩)]) (by simp [results, Try.results23, go_sem]) rfl ?_
  exact ⟨rfl, HX2.out.trans ((keeps_setRow _ _ _).below HX2.out.size (fun k hk e => by have := HB.out; omega))⟩

set_option maxRecDepth 100000 in
set_option maxHeartbeats 4000000 in
theorem nth23_ok (A : Option Addr) (n cap : Nat) (off lo hi : Int) (num : Int) (ps : List Pc) (w : World) (h : Pcs w A n ps) (hn : n ≤ 9223372036854775807)  (he : chkC ⟨ps, off, ⟨lo, hi⟩⟩ = 0) :
    Calls Try.prog 23 #[cyl A n cap off lo hi, .int .i64 num] w fun e w' => ∃ C m, e = .returned (.tuple #[.slice C m m, .int .i64 (nthR ⟨ps, off, ⟨lo, hi⟩⟩ num).2]) ∧ Sts w' C m (nthR ⟨ps, off, ⟨lo, hi⟩⟩ num).1 ∧ Below w.heap.size w w' := by
  have X := Cx.new (cap := cap) (off := off) (lo := lo) (hi := hi) h
  have hv := chkC_facts he
  have hlen := h.1
  unfold cyl
  have Hn := Lib.hid hn
  go_enter Try.func23, Try.ntmps23
  obtain ⟨c0, c1, c2, c3, l0⟩ := X.c
  go_wp2_with fail
  refine (lay42_ok A n cap off lo hi ps _ X.pcs Hn.out he).mono ?_
  rintro e w2 ⟨Y, M, rfl, hY, hM, hMl, hb⟩
  have X2 := (X.next hb).next (below_alloc_ _ (.cells Try.zeroCells78 78))
  have hz : (w2.alloc (.cells Try.zeroCells78 78)).heap[w2.heap.size]? = some (.cells Try.zeroCells78 78 (0, 0)) := hal_new rfl
  have hst := run_st78 hz zero_size hY.size hY.one
  have hYr := setRow_same Y hz
  have hl := run_ld78 hYr hY.size
  have hk1 := keeps_setRow (w2.alloc (.cells Try.zeroCells78 78)) w2.heap.size Y
  have hws : w.heap.size ≤ w2.heap.size := Nat.le_trans X.below.size hb.size
  have hb4 : Below w.heap.size w ((w2.alloc (.cells Try.zeroCells78 78)).setRow w2.heap.size Y) := X2.below.trans (hk1.below X2.below.size (fun k hk e => by omega))
  have hMlt := lt_of_block hM
  have hm : Memo ((w2.alloc (.cells Try.zeroCells78 78)).setRow w2.heap.size Y) M 0 (tabOf ⟨ps, off, ⟨lo, hi⟩⟩) (codesL ps) n := Memo.new ((hk1.block M (lt_of_block (hal_old hM)) (fun e => by omega)).trans (hal_old hM)) _ _ _
  have hp := h.below hb4 (Nat.le_refl _)
  have hMw : w.heap.size ≤ M := Nat.le_trans X.below.size hMl
  have hn1 : 1 ≤ n := by have := hv; omega
  have hn8 : n ≤ 8 := by have := hv; omega
  have d : ((chkC ⟨ps, off, ⟨lo, hi⟩⟩) != 0) = false := by rw [he]; rfl
  have hstart : left n ⟨0, 0⟩ = n := left_start n 0
  have hcnt : cntA (tabOf ⟨ps, off, ⟨lo, hi⟩⟩) (codesL ps) n ⟨0, 0⟩ = (joinsC ⟨ps, off, ⟨lo, hi⟩⟩).length := by
    unfold cntA joinsC joins
    rw [left_start, hlen]
  obtain ⟨W4, hW4⟩ : ∃ W4, (w2.alloc (.cells Try.zeroCells78 78)).setRow w2.heap.size Y = W4 := ⟨_, rfl⟩
  rw [hW4] at hst hl hYr hb4 hm hp
  have HY := Lib.hid hY
  have Hhe := Lib.hid he
  have Hp := Lib.hid hp
  have Hm := Lib.hid hm
  have Hb4 := Lib.hid hb4
  have HYr := Lib.hid hYr
  have Hlen := Lib.hid hlen
  have Hcnt := Lib.hid hcnt
  clear c0 c1 c2 c3 l0 X X2 hb hY hM hMl h hv hz hk1 hb4 hW4 hm hp hYr hlen hcnt hn hMlt
  by_cases h0 : num < 0
  · have d0 : decide (num < 0) = true := decide_eq_true h0
    have HR := Lib.hid (show nthR ⟨ps, off, ⟨lo, hi⟩⟩ num = ([], 3) by unfold nthR; rw [if_neg (by simpa using Hhe.out), if_pos (.inl h0)])
    clear h0 he
    go_wp2_with fail
    refine bodyPost_ret (v := .tuple #[.slice none 0 0, .int .i64 3]) (by simp [results, Try.results23, go_sem]) rfl ?_
    refine ⟨none, 0, by rw [HR.out], ⟨by rw [HR.out]; rfl, by omega⟩, Hb4.out⟩
  · have d0 : decide (num < 0) = false := decide_eq_false h0
    obtain ⟨k, rfl⟩ := Int.eq_ofNat_of_zero_le (by omega : 0 ≤ num)
    clear h0 he
    go_wp2_with fail
    refine (count51 Y A n cap off lo hi _ M ps HY.out hn1 hn8 n 0 0 0 0 false _ Hp.out Hm.out (bud1 hn8) (Nat.two_pow_pos n) (by omega) rfl hstart).mono ?_
    rintro e w3 ⟨rfl, hm3, hk3⟩
    rw [show cntA (tabOf ⟨ps, off, ⟨lo, hi⟩⟩) (codesL ps) n { last := 0, pcs := 0 } = (joinsC ⟨ps, off, ⟨lo, hi⟩⟩).length from Hcnt.out]
    obtain ⟨cn, hcn⟩ : ∃ cn, (joinsC ⟨ps, off, ⟨lo, hi⟩⟩).length = cn := ⟨_, rfl⟩
    rw [hcn]
    have Hcn := Lib.hid hcn
    have Hm3 := Lib.hid hm3
    have Hk3 := Lib.hid hk3
    have hM4 := Hm.out.lt
    have hl3 : runO Try.prog (ld 78) (.pointer (some ⟨w2.heap.size, 0, none⟩)) w3 = .ok (.value (.agg Y)) w3 := run_ld78 ((hk3.block _ (lt_of_block HYr.out) (fun e => by subst e; have h1 := HYr.out; obtain ⟨es, cl, h2⟩ := Hm.out.isMap; rw [h1] at h2; cases h2)).trans HYr.out) HY.out.size
    have hb5 : Below w.heap.size w w3 := Hb4.out.trans (hk3.below Hb4.out.size (fun j hj e => by omega))
    have Hb5 := Lib.hid hb5
    have hp5 := Hp.out.keep hk3 (fun j o e => by subst e; exact pcs_not_map Hp.out (by omega) Hm.out o)
    have Hp5 := Lib.hid hp5
    clear hcn hm3 hk3 hb5 hp5 hl hst
    by_cases h1 : (cn : Int) ≤ (k : Int)
    · have d1 : decide (cn ≤ k) = true := decide_eq_true (by omega)
      have HR := Lib.hid (show nthR ⟨ps, off, ⟨lo, hi⟩⟩ (k : Int) = ([], 3) by unfold nthR; rw [if_neg (by simpa using Hhe.out), if_pos (.inr (by rw [Hcn.out]; exact h1))])
      clear h1
      go_wp2_with fail
      refine bodyPost_ret (v := .tuple #[.slice none 0 0, .int .i64 3]) (by simp [results, Try.results23, go_sem]) rfl ?_
      refine ⟨none, 0, by rw [HR.out], ⟨by rw [HR.out]; rfl, by omega⟩, Hb5.out⟩
    · have d1 : decide (cn ≤ k) = false := decide_eq_false (by omega)
      have hkl : k < (joinsC ⟨ps, off, ⟨lo, hi⟩⟩).length := by rw [Hcn.out]; omega
      have hget : (joins (tabOf ⟨ps, off, ⟨lo, hi⟩⟩) (codesL ps) n)[k]? = some ((joinsC ⟨ps, off, ⟨lo, hi⟩⟩)[k]) := by
        have h2 : joinsC ⟨ps, off, ⟨lo, hi⟩⟩ = joins (tabOf ⟨ps, off, ⟨lo, hi⟩⟩) (codesL ps) n := by unfold joinsC; rw [Hlen.out]
        rw [← h2]; exact List.getElem?_eq_getElem hkl
      have HR := Lib.hid (show nthR ⟨ps, off, ⟨lo, hi⟩⟩ (k : Int) = (((joinsC ⟨ps, off, ⟨lo, hi⟩⟩)[k]).map stC, 0) by
        unfold nthR
        rw [if_neg (by simpa using Hhe.out), if_neg (by rw [Hcn.out]; omega)]
        simp [List.getD, hkl])
      have Hget := Lib.hid hget
      have Hkl := Lib.hid hkl
      clear h1 hget
      go_wp2_with fail
      refine (nth53 Y A n cap off lo hi _ M ps HY.out hn1 hn8 k _ _ Hp5.out Hm3.out (bud2 hn8) _ Hget.out).mono ?_
      rintro e w6 ⟨C, rfl, hC, hS, _, hk6⟩
      have HS := Lib.hid hS
      have Hk6 := Lib.hid hk6
      clear hS hk6
      go_wp2_with fail
      refine bodyPost_ret (v := .tuple #[.slice (some ⟨C, 0, none⟩) n n, .int .i64 0]) (by simp [results, Try.results23, go_sem]) rfl ?_
      refine ⟨_, n, by rw [HR.out], by rw [HR.out]; exact HS.out, Hb5.out.trans (Hk6.out.below Hb5.out.size (fun j hj e => by omega))⟩

theorem nth23 (A : Option Addr) (n cap : Nat) (off lo hi : Int) (num : Int) (ps : List Pc) (w : World) (h : Pcs w A n ps) (hn : n ≤ 9223372036854775807)  :
    Calls Try.prog 23 #[cyl A n cap off lo hi, .int .i64 num] w fun e w' => ∃ C m, e = .returned (.tuple #[.slice C m m, .int .i64 (nthR ⟨ps, off, ⟨lo, hi⟩⟩ num).2]) ∧ Sts w' C m (nthR ⟨ps, off, ⟨lo, hi⟩⟩ num).1 ∧ Below w.heap.size w w' := by
  by_cases he : chkC ⟨ps, off, ⟨lo, hi⟩⟩ = 0
  · exact nth23_ok A n cap off lo hi num ps w h hn  he
  · have hr : nthR ⟨ps, off, ⟨lo, hi⟩⟩ num = ([], chkC ⟨ps, off, ⟨lo, hi⟩⟩) := if_pos he
    refine (nth23_bad A n cap off lo hi num ps w h hn  he).mono ?_
    rintro e w' ⟨rfl, hb⟩
    exact ⟨none, 0, by rw [hr], ⟨by rw [hr]; rfl, by omega⟩, hb⟩

set_option maxRecDepth 100000 in
set_option maxHeartbeats 4000000 in
theorem only27_bad (A : Option Addr) (n cap : Nat) (off lo hi : Int)  (ps : List Pc) (w : World) (h : Pcs w A n ps) (hn : n ≤ 9223372036854775807)  (he : chkC ⟨ps, off, ⟨lo, hi⟩⟩ ≠ 0) :
    Calls Try.prog 27 #[cyl A n cap off lo hi] w fun e w' => e = .returned (.tuple #[.slice none 0 0, .int .i64 (chkC ⟨ps, off, ⟨lo, hi⟩⟩)]) ∧ Below w.heap.size w w' := by
  have X := Cx.new (cap := cap) (off := off) (lo := lo) (hi := hi) h
  unfold cyl
  have X1 := X.next (below_alloc_ _ (.cells Try.zeroCells78 78))
  have Hn := Lib.hid hn
  go_enter Try.func27, Try.ntmps27
  obtain ⟨c0, c1, c2, c3, l0⟩ := X.c
  go_wp2_with fail
  refine (lay42_bad A n cap off lo hi ps _ X.pcs Hn.out he).mono ?_
  rintro e w2 ⟨rfl, hb⟩
  have X2 := (X.next hb).next (below_alloc_ _ (.cells Try.zeroCells78 78))
  have hz : (w2.alloc (.cells Try.zeroCells78 78)).heap[w2.heap.size]? = some (.cells Try.zeroCells78 78 (0, 0)) := hal_new rfl
  have hst := run_st78 hz zero_size zero_size zero_one
  have d : (chkC ⟨ps, off, ⟨lo, hi⟩⟩ != 0) = true := by rw [bne_iff_ne]; exact he
  have HX2 := Lib.hid X2.below
  have HB := Lib.hid (show w.heap.size ≤ w2.heap.size from Nat.le_trans X.below.size hb.size)
  clear c0 c1 c2 c3 l0 X X1 X2 hb hz he h hn
  go_wp2_with fail
  refine bodyPost_ret (v := .tuple #[.slice none 0 0, .int .i64 (chkC ⟨ps, off, ⟨lo, hi⟩⟩)]) (by simp [results, Try.results27, go_sem]) rfl ?_
  exact ⟨rfl, HX2.out.trans ((keeps_setRow _ _ _).below HX2.out.size (fun k hk e => by have := HB.out; omega))⟩

set_option maxRecDepth 100000 in
set_option maxHeartbeats 4000000 in
theorem only27_ok (A : Option Addr) (n cap : Nat) (off lo hi : Int)  (ps : List Pc) (w : World) (h : Pcs w A n ps) (hn : n ≤ 9223372036854775807)  (he : chkC ⟨ps, off, ⟨lo, hi⟩⟩ = 0) :
    Calls Try.prog 27 #[cyl A n cap off lo hi] w fun e w' => ∃ C m, e = .returned (.tuple #[.slice C m m, .int .i64 (onlyR ⟨ps, off, ⟨lo, hi⟩⟩).2]) ∧ Sts w' C m (onlyR ⟨ps, off, ⟨lo, hi⟩⟩).1 ∧ Below w.heap.size w w' := by
  have X := Cx.new (cap := cap) (off := off) (lo := lo) (hi := hi) h
  have hv := chkC_facts he
  have hlen := h.1
  unfold cyl
  have Hn := Lib.hid hn
  go_enter Try.func27, Try.ntmps27
  obtain ⟨c0, c1, c2, c3, l0⟩ := X.c
  go_wp2_with fail
  refine (lay42_ok A n cap off lo hi ps _ X.pcs Hn.out he).mono ?_
  rintro e w2 ⟨Y, M, rfl, hY, hM, hMl, hb⟩
  have X2 := (X.next hb).next (below_alloc_ _ (.cells Try.zeroCells78 78))
  have hz : (w2.alloc (.cells Try.zeroCells78 78)).heap[w2.heap.size]? = some (.cells Try.zeroCells78 78 (0, 0)) := hal_new rfl
  have hst := run_st78 hz zero_size hY.size hY.one
  have hYr := setRow_same Y hz
  have hl := run_ld78 hYr hY.size
  have hk1 := keeps_setRow (w2.alloc (.cells Try.zeroCells78 78)) w2.heap.size Y
  have hws : w.heap.size ≤ w2.heap.size := Nat.le_trans X.below.size hb.size
  have hb4 : Below w.heap.size w ((w2.alloc (.cells Try.zeroCells78 78)).setRow w2.heap.size Y) := X2.below.trans (hk1.below X2.below.size (fun k hk e => by omega))
  have hMlt := lt_of_block hM
  have hm : Memo ((w2.alloc (.cells Try.zeroCells78 78)).setRow w2.heap.size Y) M 0 (tabOf ⟨ps, off, ⟨lo, hi⟩⟩) (codesL ps) n := Memo.new ((hk1.block M (lt_of_block (hal_old hM)) (fun e => by omega)).trans (hal_old hM)) _ _ _
  have hp := h.below hb4 (Nat.le_refl _)
  have hMw : w.heap.size ≤ M := Nat.le_trans X.below.size hMl
  have hn1 : 1 ≤ n := by have := hv; omega
  have hn8 : n ≤ 8 := by have := hv; omega
  have d : ((chkC ⟨ps, off, ⟨lo, hi⟩⟩) != 0) = false := by rw [he]; rfl
  have hstart : left n ⟨0, 0⟩ = n := left_start n 0
  have hcnt : cntA (tabOf ⟨ps, off, ⟨lo, hi⟩⟩) (codesL ps) n ⟨0, 0⟩ = (joinsC ⟨ps, off, ⟨lo, hi⟩⟩).length := by
    unfold cntA joinsC joins
    rw [left_start, hlen]
  obtain ⟨W4, hW4⟩ : ∃ W4, (w2.alloc (.cells Try.zeroCells78 78)).setRow w2.heap.size Y = W4 := ⟨_, rfl⟩
  rw [hW4] at hst hl hYr hb4 hm hp
  have HY := Lib.hid hY
  have Hhe := Lib.hid he
  have Hp := Lib.hid hp
  have Hm := Lib.hid hm
  have Hb4 := Lib.hid hb4
  have HYr := Lib.hid hYr
  have Hlen := Lib.hid hlen
  have Hcnt := Lib.hid hcnt
  clear c0 c1 c2 c3 l0 X X2 hb hY hM hMl h hv hz hk1 hb4 hW4 hm hp hYr hlen hcnt hn hMlt
  clear he
  go_wp2_with fail
  refine (count51 Y A n cap off lo hi _ M ps HY.out hn1 hn8 n 0 0 0 0 false _ Hp.out Hm.out (bud1 hn8) (Nat.two_pow_pos n) (by omega) rfl hstart).mono ?_
  rintro e w3 ⟨rfl, hm3, hk3⟩
  rw [show cntA (tabOf ⟨ps, off, ⟨lo, hi⟩⟩) (codesL ps) n { last := 0, pcs := 0 } = (joinsC ⟨ps, off, ⟨lo, hi⟩⟩).length from Hcnt.out]
  obtain ⟨cn, hcn⟩ : ∃ cn, (joinsC ⟨ps, off, ⟨lo, hi⟩⟩).length = cn := ⟨_, rfl⟩
  rw [hcn]
  have Hcn := Lib.hid hcn
  have Hm3 := Lib.hid hm3
  have Hk3 := Lib.hid hk3
  have hM4 := Hm.out.lt
  have hl3 : runO Try.prog (ld 78) (.pointer (some ⟨w2.heap.size, 0, none⟩)) w3 = .ok (.value (.agg Y)) w3 := run_ld78 ((hk3.block _ (lt_of_block HYr.out) (fun e => by subst e; have h1 := HYr.out; obtain ⟨es, cl, h2⟩ := Hm.out.isMap; rw [h1] at h2; cases h2)).trans HYr.out) HY.out.size
  have hb5 : Below w.heap.size w w3 := Hb4.out.trans (hk3.below Hb4.out.size (fun j hj e => by omega))
  have Hb5 := Lib.hid hb5
  have hp5 := Hp.out.keep hk3 (fun j o e => by subst e; exact pcs_not_map Hp.out (by omega) Hm.out o)
  have Hp5 := Lib.hid hp5
  clear hcn hm3 hk3 hb5 hp5 hl hst
  by_cases h0 : cn = 0
  · have d0 : ((cn : Int) == 0) = true := by rw [beq_iff_eq]; omega
    have HR := Lib.hid (show onlyR ⟨ps, off, ⟨lo, hi⟩⟩ = ([], 5) by unfold onlyR; rw [if_neg (by simpa using Hhe.out), if_pos (by rw [Hcn.out]; exact h0)])
    clear h0
    go_wp2_with fail
    refine bodyPost_ret (v := .tuple #[.slice none 0 0, .int .i64 5]) (by simp [results, Try.results27, go_sem]) rfl ?_
    exact ⟨none, 0, by rw [HR.out], ⟨by rw [HR.out]; rfl, by omega⟩, Hb5.out⟩
  · have d0 : ((cn : Int) == 0) = false := by rw [beq_eq_false_iff_ne]; omega
    by_cases h1 : cn = 1
    · have d1 : ((cn : Int) == 1) = true := by rw [beq_iff_eq]; omega
      have hkl : 0 < (joinsC ⟨ps, off, ⟨lo, hi⟩⟩).length := by rw [Hcn.out]; omega
      have hget : (joins (tabOf ⟨ps, off, ⟨lo, hi⟩⟩) (codesL ps) n)[0]? = some ((joinsC ⟨ps, off, ⟨lo, hi⟩⟩)[0]) := by
        have h2 : joinsC ⟨ps, off, ⟨lo, hi⟩⟩ = joins (tabOf ⟨ps, off, ⟨lo, hi⟩⟩) (codesL ps) n := by unfold joinsC; rw [Hlen.out]
        rw [← h2]; exact List.getElem?_eq_getElem hkl
      have HR := Lib.hid (show onlyR ⟨ps, off, ⟨lo, hi⟩⟩ = (((joinsC ⟨ps, off, ⟨lo, hi⟩⟩)[0]).map stC, 0) by
        unfold onlyR
        rw [if_neg (by simpa using Hhe.out), if_neg (by rw [Hcn.out]; omega), if_pos (by rw [Hcn.out]; exact h1)]
        simp [List.getD, hkl])
      have Hget := Lib.hid hget
      have Hkl := Lib.hid hkl
      clear h1 hget
      go_wp2_with fail
      refine (nth53 Y A n cap off lo hi _ M ps HY.out hn1 hn8 0 _ _ Hp5.out Hm3.out (bud2 hn8) _ Hget.out).mono ?_
      rintro e w6 ⟨C, rfl, hC, hS, _, hk6⟩
      have HS := Lib.hid hS
      have Hk6 := Lib.hid hk6
      clear hS hk6
      go_wp2_with fail
      refine bodyPost_ret (v := .tuple #[.slice (some ⟨C, 0, none⟩) n n, .int .i64 0]) (by simp [results, Try.results27, go_sem]) rfl ?_
      exact ⟨_, n, by rw [HR.out], by rw [HR.out]; exact HS.out, Hb5.out.trans (Hk6.out.below Hb5.out.size (fun j hj e => by omega))⟩
    · have d1 : ((cn : Int) == 1) = false := by rw [beq_eq_false_iff_ne]; omega
      have HR := Lib.hid (show onlyR ⟨ps, off, ⟨lo, hi⟩⟩ = ([], 6) by unfold onlyR; rw [if_neg (by simpa using Hhe.out), if_neg (by rw [Hcn.out]; omega), if_neg (by rw [Hcn.out]; omega)])
      clear h0 h1
      go_wp2_with fail
      refine bodyPost_ret (v := .tuple #[.slice none 0 0, .int .i64 6]) (by simp [results, Try.results27, go_sem]) rfl ?_
      exact ⟨none, 0, by rw [HR.out], ⟨by rw [HR.out]; rfl, by omega⟩, Hb5.out⟩

theorem only27 (A : Option Addr) (n cap : Nat) (off lo hi : Int)  (ps : List Pc) (w : World) (h : Pcs w A n ps) (hn : n ≤ 9223372036854775807)  :
    Calls Try.prog 27 #[cyl A n cap off lo hi] w fun e w' => ∃ C m, e = .returned (.tuple #[.slice C m m, .int .i64 (onlyR ⟨ps, off, ⟨lo, hi⟩⟩).2]) ∧ Sts w' C m (onlyR ⟨ps, off, ⟨lo, hi⟩⟩).1 ∧ Below w.heap.size w w' := by
  by_cases he : chkC ⟨ps, off, ⟨lo, hi⟩⟩ = 0
  · exact only27_ok A n cap off lo hi  ps w h hn  he
  · have hr : onlyR ⟨ps, off, ⟨lo, hi⟩⟩ = ([], chkC ⟨ps, off, ⟨lo, hi⟩⟩) := if_pos he
    refine (only27_bad A n cap off lo hi  ps w h hn  he).mono ?_
    rintro e w' ⟨rfl, hb⟩
    exact ⟨none, 0, by rw [hr], ⟨by rw [hr]; rfl, by omega⟩, hb⟩

set_option maxRecDepth 100000 in
set_option maxHeartbeats 4000000 in
theorem rank25_bad (A : Option Addr) (n cap : Nat) (off lo hi : Int) (C : Option Addr) (m cp : Nat) (ps : List Pc) (w : World) (h : Pcs w A n ps) (hn : n ≤ 9223372036854775807)  (he : chkC ⟨ps, off, ⟨lo, hi⟩⟩ ≠ 0) :
    Calls Try.prog 25 #[cyl A n cap off lo hi, .slice C m cp] w fun e w' => e = .returned (.tuple #[.int .i64 0, .int .i64 (chkC ⟨ps, off, ⟨lo, hi⟩⟩)]) ∧ Below w.heap.size w w' := by
  have X := Cx.new (cap := cap) (off := off) (lo := lo) (hi := hi) h
  unfold cyl
  have X1 := X.next (below_alloc_ _ (.cells Try.zeroCells78 78))
  have Hn := Lib.hid hn
  go_enter Try.func25, Try.ntmps25
  obtain ⟨c0, c1, c2, c3, l0⟩ := X.c
  go_wp2_with fail
  refine (lay42_bad A n cap off lo hi ps _ X.pcs Hn.out he).mono ?_
  rintro e w2 ⟨rfl, hb⟩
  have X2 := (X.next hb).next (below_alloc_ _ (.cells Try.zeroCells78 78))
  have hz : (w2.alloc (.cells Try.zeroCells78 78)).heap[w2.heap.size]? = some (.cells Try.zeroCells78 78 (0, 0)) := hal_new rfl
  have hst := run_st78 hz zero_size zero_size zero_one
  have d : (chkC ⟨ps, off, ⟨lo, hi⟩⟩ != 0) = true := by rw [bne_iff_ne]; exact he
  have HX2 := Lib.hid X2.below
  have HB := Lib.hid (show w.heap.size ≤ w2.heap.size from Nat.le_trans X.below.size hb.size)
  clear c0 c1 c2 c3 l0 X X1 X2 hb hz he h hn
  go_wp2_with fail
  refine bodyPost_ret (v := .tuple #[.int .i64 0, .int .i64 (chkC ⟨ps, off, ⟨lo, hi⟩⟩)]) (by simp [results, Try.results25, go_sem]) rfl ?_
  exact ⟨rfl, HX2.out.trans ((keeps_setRow _ _ _).below HX2.out.size (fun k hk e => by have := HB.out; omega))⟩

set_option maxRecDepth 100000 in
set_option maxHeartbeats 4000000 in
theorem rank25_ok (A : Option Addr) (n cap : Nat) (off lo hi : Int) (C : Option Addr) (m cp : Nat) (ss : List St) (ps : List Pc) (w : World) (h : Pcs w A n ps) (hn : n ≤ 9223372036854775807) (hs : Sts w C m ss) (hm9 : m ≤ 9223372036854775807) (hcp : m ≤ cp) (he : chkC ⟨ps, off, ⟨lo, hi⟩⟩ = 0) :
    Calls Try.prog 25 #[cyl A n cap off lo hi, .slice C m cp] w fun e w' => e = .returned (.tuple #[.int .i64 (rankR ⟨ps, off, ⟨lo, hi⟩⟩ ss).1, .int .i64 (rankR ⟨ps, off, ⟨lo, hi⟩⟩ ss).2]) ∧ Below w.heap.size w w' := by
  have X := Cx.new (cap := cap) (off := off) (lo := lo) (hi := hi) h
  have hv := chkC_facts he
  have hlen := h.1
  unfold cyl
  have Hn := Lib.hid hn
  go_enter Try.func25, Try.ntmps25
  obtain ⟨c0, c1, c2, c3, l0⟩ := X.c
  go_wp2_with fail
  refine (lay42_ok A n cap off lo hi ps _ X.pcs Hn.out he).mono ?_
  rintro e w2 ⟨Y, M, rfl, hY, hM, hMl, hb⟩
  have X2 := (X.next hb).next (below_alloc_ _ (.cells Try.zeroCells78 78))
  have hz : (w2.alloc (.cells Try.zeroCells78 78)).heap[w2.heap.size]? = some (.cells Try.zeroCells78 78 (0, 0)) := hal_new rfl
  have hst := run_st78 hz zero_size hY.size hY.one
  have hYr := setRow_same Y hz
  have hl := run_ld78 hYr hY.size
  have hk1 := keeps_setRow (w2.alloc (.cells Try.zeroCells78 78)) w2.heap.size Y
  have hws : w.heap.size ≤ w2.heap.size := Nat.le_trans X.below.size hb.size
  have hb4 : Below w.heap.size w ((w2.alloc (.cells Try.zeroCells78 78)).setRow w2.heap.size Y) := X2.below.trans (hk1.below X2.below.size (fun k hk e => by omega))
  have hMlt := lt_of_block hM
  have hm : Memo ((w2.alloc (.cells Try.zeroCells78 78)).setRow w2.heap.size Y) M 0 (tabOf ⟨ps, off, ⟨lo, hi⟩⟩) (codesL ps) n := Memo.new ((hk1.block M (lt_of_block (hal_old hM)) (fun e => by omega)).trans (hal_old hM)) _ _ _
  have hp := h.below hb4 (Nat.le_refl _)
  have hMw : w.heap.size ≤ M := Nat.le_trans X.below.size hMl
  have hn1 : 1 ≤ n := by have := hv; omega
  have hn8 : n ≤ 8 := by have := hv; omega
  have d : ((chkC ⟨ps, off, ⟨lo, hi⟩⟩) != 0) = false := by rw [he]; rfl
  have hstart : left n ⟨0, 0⟩ = n := left_start n 0
  have hcnt : cntA (tabOf ⟨ps, off, ⟨lo, hi⟩⟩) (codesL ps) n ⟨0, 0⟩ = (joinsC ⟨ps, off, ⟨lo, hi⟩⟩).length := by
    unfold cntA joinsC joins
    rw [left_start, hlen]
  obtain ⟨W4, hW4⟩ : ∃ W4, (w2.alloc (.cells Try.zeroCells78 78)).setRow w2.heap.size Y = W4 := ⟨_, rfl⟩
  rw [hW4] at hst hl hYr hb4 hm hp
  have HY := Lib.hid hY
  have Hhe := Lib.hid he
  have Hp := Lib.hid hp
  have Hm := Lib.hid hm
  have Hb4 := Lib.hid hb4
  have HYr := Lib.hid hYr
  have Hlen := Lib.hid hlen
  have Hcnt := Lib.hid hcnt
  have Hs4 := Lib.hid (hs.below Hb4.out (Nat.le_refl _))
  have Hsl := Lib.hid hs.1
  clear hs
  clear c0 c1 c2 c3 l0 X X2 hb hY hM hMl h hv hz hk1 hb4 hW4 hm hp hYr hlen hcnt hn hMlt
  clear he
  go_wp2_with fail
  by_cases hmn : m = n
  · subst hmn
    refine (check50_eq Y A C m cap cp off lo hi M ps ss _ HY.out Hp.out Hs4.out hn8 hn1 hcp Hhe.out).mono ?_
    rintro e w5 ⟨rfl, hb5⟩
    have hkb : Keeps (fun _ => False) W4 w5 := ⟨hb5.os, hb5.tape, hb5.output, hb5.size, fun k hk _ => hb5.block k hk⟩
    have HF := Lib.hid (Hb4.out.trans (hb5.mono Hb4.out.size))
    have Hb5 := Lib.hid hb5
    have Hkb := Lib.hid hkb
    have hl3 : runO Try.prog (ld 78) (.pointer (some ⟨w2.heap.size, 0, none⟩)) w5 = .ok (.value (.agg Y)) w5 := run_ld78 ((hb5.block _ (lt_of_block HYr.out)).trans HYr.out) HY.out.size
    obtain ⟨r, hr⟩ : ∃ r, ckJoin ⟨ps, off, ⟨lo, hi⟩⟩ ss = r := ⟨_, rfl⟩
    rw [hr]
    have Hr := Lib.hid hr
    clear hr hb5 hst hl hkb
    by_cases h0 : r = 0
    · subst h0
      obtain ⟨_, l, rfl, hl⟩ := join_of_ck Hr.out
      have hl2 : l ∈ joinsC ⟨ps, off, ⟨lo, hi⟩⟩ := hl
      obtain ⟨hl3b, hl4⟩ := (mem_ways _ _ _ _ _).1 hl
      have Hl2 := Lib.hid hl2
      have Hl3 := Lib.hid hl3b
      have Hl4 := Lib.hid hl4
      clear hl hl2 hl3b hl4
      go_wp2_with fail
      refine (rank54 Y A m cap off lo hi (tabOf ⟨ps, off, ⟨lo, hi⟩⟩) M ps HY.out hn1 hn8 C cp l 0 _ (Hp.out.keep Hkb.out (fun _ _ e => e.elim)) (Hm.out.keep Hkb.out (fun e => e)) (by decide) (Hs4.out.keep Hkb.out (fun _ _ e => e.elim)) (by rw [Hl3.out]; exact Hlen.out) Hl4.out).mono ?_
      rintro e w6 ⟨v, rfl, hj, _, hk6⟩
      have hv : v = (joinsC ⟨ps, off, ⟨lo, hi⟩⟩).idxOf l := by
        have h1 : (joins (tabOf ⟨ps, off, ⟨lo, hi⟩⟩) (codesL ps) m)[(joinsC ⟨ps, off, ⟨lo, hi⟩⟩).idxOf l]? = some l := by
          have h2 : joinsC ⟨ps, off, ⟨lo, hi⟩⟩ = joins (tabOf ⟨ps, off, ⟨lo, hi⟩⟩) (codesL ps) m := by unfold joinsC; rw [Hlen.out]
          rw [h2]
          have h3 := List.idxOf_lt_length_of_mem (h2 ▸ Hl2.out)
          rw [List.getElem?_eq_getElem h3, List.getElem_idxOf]
        exact joins_inj (codes_sorted ps) hj h1
      have HR := Lib.hid (show rankR ⟨ps, off, ⟨lo, hi⟩⟩ (l.map stC) = ((v : Int), 0) by
        unfold rankR
        rw [if_neg (by rw [Hr.out]; simp), hv, List.map_map]
        have : l.map (codeS ∘ stC) = l := by
          conv => rhs; rw [← List.map_id l]
          refine List.map_congr_left (fun x _ => ?_)
          show codeS (stC x) = x
          unfold codeS stC
          simp only [Int.toNat_natCast, decide_eq_true_eq]
          split <;> omega
        rw [this])
      have Hk6 := Lib.hid hk6
      clear hj hk6 hv
      go_wp2_with fail
      refine bodyPost_ret (v := .tuple #[.int .i64 (v : Int), .int .i64 0]) (by simp [results, Try.results25, go_sem]) rfl ?_
      rw [HR.out]
      exact ⟨rfl, HF.out.trans (Hk6.out.below HF.out.size (fun j hj e => by omega))⟩
    · have d0 : (r != 0) = true := by rw [bne_iff_ne]; exact h0
      have HR := Lib.hid (show rankR ⟨ps, off, ⟨lo, hi⟩⟩ ss = (0, r) by unfold rankR; rw [if_pos (by rw [Hr.out]; exact h0), Hr.out])
      clear h0
      go_wp2_with fail
      refine bodyPost_ret (v := .tuple #[.int .i64 0, .int .i64 r]) (by simp [results, Try.results25, go_sem]) rfl ?_
      rw [HR.out]
      exact ⟨rfl, HF.out⟩
  · have hck := ckJoin_len (ss := ss) Hhe.out (by have := Hsl.out; have := Hlen.out; simp only; omega)
    have HR := Lib.hid (show rankR ⟨ps, off, ⟨lo, hi⟩⟩ ss = (0, 15) by unfold rankR; rw [if_pos (by rw [hck]; decide), hck])
    refine (check50_len Y A C n cap m cp off lo hi _ M ps ss _ HY.out Hp.out Hs4.out hm9 hn8 hmn).mono ?_
    rintro e w5 ⟨rfl, hb5⟩
    have HF := Lib.hid (Hb4.out.trans (hb5.mono Hb4.out.size))
    clear hb5 hst hl hmn hck
    go_wp2_with fail
    refine bodyPost_ret (v := .tuple #[.int .i64 0, .int .i64 15]) (by simp [results, Try.results25, go_sem]) rfl ?_
    rw [HR.out]
    exact ⟨rfl, HF.out⟩

theorem rank25 (A C : Option Addr) (n cap m cp : Nat) (off lo hi : Int) (ps : List Pc) (ss : List St) (w : World) (h : Pcs w A n ps) (hs : Sts w C m ss) (hn : n ≤ 9223372036854775807) (hm : m ≤ 9223372036854775807) (hcp : m ≤ cp) :
    Calls Try.prog 25 #[cyl A n cap off lo hi, .slice C m cp] w fun e w' => e = .returned (.tuple #[.int .i64 (rankR ⟨ps, off, ⟨lo, hi⟩⟩ ss).1, .int .i64 (rankR ⟨ps, off, ⟨lo, hi⟩⟩ ss).2]) ∧ Below w.heap.size w w' := by
  by_cases he : chkC ⟨ps, off, ⟨lo, hi⟩⟩ = 0
  · exact rank25_ok A n cap off lo hi C m cp ss ps w h hn hs hm hcp he
  · have hr : rankR ⟨ps, off, ⟨lo, hi⟩⟩ ss = (0, chkC ⟨ps, off, ⟨lo, hi⟩⟩) := by
      unfold rankR
      rw [if_pos (by rw [ckJoin_bad he]; exact he), ckJoin_bad he]
    rw [hr]
    exact rank25_bad A n cap off lo hi C m cp ps w h hn he
end Go.Proofs.Ytfmcfalghbaanaa
