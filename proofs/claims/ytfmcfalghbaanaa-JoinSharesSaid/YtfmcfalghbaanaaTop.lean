/- Stage 2: Count, Fits. -/
import Derived.Test.YtfmcfalghbaanaaCnt
namespace Go.Proofs.Ytfmcfalghbaanaa
set_option linter.unusedSimpArgs false
set_option linter.unusedVariables false
open Go.RowKit Go.Shelf
attribute [local go_sem] Oper.semAt_some
attribute [local go_sem ↓] exec_load78
attribute [local go_sem ↓] at_load78

theorem count51 (X : Array Value) (A : Option Addr) (n cap : Nat) (off lo hi : Int) (T : Nat → Nat → Bool) (M : Nat) (ps : List Pc) (hX : Brd X A n cap off lo hi T M) (hn1 : 1 ≤ n) (hn : n ≤ 8) (k : Nat) : CntHyp X A n T M ps k := by
  induction k with
  | zero => exact count_step X A n cap off lo hi T M ps hX hn1 hn 0 (fun k' h => by omega)
  | succ k ih => exact count_step X A n cap off lo hi T M ps hX hn1 hn (k + 1) (fun k' h => by cases Nat.succ.inj h; exact ih)

set_option maxRecDepth 100000 in
theorem leads55 (X : Array Value) (A : Option Addr) (n cap : Nat) (off lo hi : Int) (T : Nat → Nat → Bool) (M : Nat) (ps : List Pc) (hX : Brd X A n cap off lo hi T M) (hn1 : 1 ≤ n) (hn : n ≤ 8) (k p q x nn : Nat) (t : Bool) (w : World) (hp : Pcs w A n ps) (hm : Memo w M nn T (codesL ps) n) (hnn : nn + 17 ^ (k + 1) ≤ 1000000000000000000) (hq : q < 2 ^ n) (hx16 : x < 16) (hx : x = if t then 2 * p + 1 else 2 * p) (hk : left n ⟨x, q⟩ = k) :
    Calls Try.prog 55 #[.agg X, .agg #[.int .i64 (p : Int), .bool t, .int .u64 (q : Int)]] w (fun e w' => e = .returned (.bool (decide (0 < cntA T (codesL ps) n ⟨x, q⟩))) ∧ Memo w' M (nn + 17 ^ (k + 1)) T (codesL ps) n ∧ Keeps (fun j => j = M) w w') := by
  have hMw := hm.lt
  have hs := hX.size
  have Hx := Lib.hid hx
  have HX := Lib.hid hX
  clear hx hX
  go_enter Try.func55, Try.ntmps55
  have l1 : runO Try.prog (ld 78) (.pointer (some ⟨w.heap.size, 0, none⟩)) ((w.alloc (.cells X 78)).alloc (.cells #[.int .i64 (p : Int), .bool t, .int .u64 (q : Int)] 91)) = .ok (.value (.agg X)) _ := run_ld78 (hal_old (heap_alloc_new_ _ _)) hs
  go_wp2_with fail
  have hb2 := (below_alloc_ w (.cells X 78)).trans ((below_alloc_ (w.alloc (.cells X 78)) (.cells #[.int .i64 (p : Int), .bool t, .int .u64 (q : Int)] 91)).mono (by simp))
  have hK0 : Keeps (fun _ => False) w ((w.alloc (.cells X 78)).alloc (.cells #[.int .i64 (p : Int), .bool t, .int .u64 (q : Int)] 91)) := Keeps.of_new hb2
  have HK0 := Lib.hid hK0
  refine (count51 X A n cap off lo hi T M ps HX.out hn1 hn k p q x nn t _ (hp.below hb2 (Nat.le_refl _)) (hm.keep hK0 (fun e => e)) hnn hq hx16 Hx.out hk).mono ?_
  rintro e W2 ⟨rfl, hm2, hk2⟩
  obtain ⟨c, hc⟩ : ∃ c, cntA T (codesL ps) n ⟨x, q⟩ = c := ⟨_, rfl⟩
  rw [hc]
  have Hc := Lib.hid hc
  clear hc hK0 hb2 l1 hp hm hnn hq hx16 hk
  go_wp2_with fail
  go_ret
  exact ⟨ret_bool (by rw [Hc.out]), hm2, HK0.out.none.trans hk2⟩

set_option maxRecDepth 100000 in
set_option maxHeartbeats 2000000 in
theorem strange43 (X : Array Value) (A : Option Addr) (n cap : Nat) (off lo hi : Int) (T : Nat → Nat → Bool) (M : Nat) (ps : List Pc) (p : Int) (t : Bool) (w : World) (hX : Brd X A n cap off lo hi T M) (h : Pcs w A n ps) :
    Calls Try.prog 43 #[.agg X, .agg #[.int .i64 p, .bool t]] w fun e w' => e = .returned (.bool (!stepB ps ⟨p, t⟩)) ∧ Below w.heap.size w w' := by
  have X := (Bx.new h hX).next (below_alloc_ _ (.cells #[.int .i64 p, .bool t] 28))
  have Hl := Lib.hid h.1
  have Hr := Lib.hid (show stepB ps ⟨p, t⟩ = (decide (0 ≤ p) && decide (p < (ps.length : Int)) && (!t || (pAt ps p.toNat).loose)) from rfl)
  obtain ⟨B, hB⟩ : ∃ B, w.heap.size = B := ⟨_, rfl⟩
  rw [hB] at X
  obtain ⟨c0, c1, c2, c3, c4, hlt0, l78⟩ := X.c
  by_cases h1 : 0 ≤ p
  · have d1 : decide (0 ≤ p) = true := decide_eq_true h1
    by_cases h2 : p < (n : Int)
    · have d2 : decide (p < (n : Int)) = true := decide_eq_true h2
      obtain ⟨k, rfl⟩ := Int.eq_ofNat_of_zero_le h1
      obtain ⟨b, o, rfl, hcs⟩ := X.pcs.2 (by omega)
      obtain ⟨_, _, _, _, _, _, b6⟩ := hcs k (by omega)
      obtain ⟨l, hl⟩ : ∃ l, (pAt ps k).loose = l := ⟨_, rfl⟩
      rw [hl] at b6
      have Hr2 := Lib.hid (show stepB ps ⟨(k : Int), t⟩ = (!t || l) by rw [Hr.out, Hl.out, d1, d2, Int.toNat_natCast, hl]; simp)
      clear hcs hl h1 Hr h hX
      cases t with
      | true =>
        go_enter Try.func43, Try.ntmps43
        go_wp2_with fail
        all_goals (go_ret; exact ⟨ret_bool (by rw [Hr2.out]; simp <;> omega), (by first | exact X.below | (rw [← hB]; exact X.below))⟩)
      | false =>
        go_enter Try.func43, Try.ntmps43
        go_wp2_with fail
        all_goals (go_ret; exact ⟨ret_bool (by rw [Hr2.out]; simp <;> omega), (by first | exact X.below | (rw [← hB]; exact X.below))⟩)
    · have d2 : decide (p < (n : Int)) = false := decide_eq_false h2
      have Hr2 := Lib.hid (show stepB ps ⟨p, t⟩ = false by rw [Hr.out, Hl.out, d2]; simp)
      clear Hr h hX
      go_enter Try.func43, Try.ntmps43
      go_wp2_with fail
      all_goals first | (exfalso; omega) | (go_ret; exact ⟨ret_bool (by rw [Hr2.out]; simp <;> omega), (by first | exact X.below | (rw [← hB]; exact X.below))⟩)
  · have d1 : decide (0 ≤ p) = false := decide_eq_false h1
    have Hr2 := Lib.hid (show stepB ps ⟨p, t⟩ = false by rw [Hr.out, d1]; simp)
    clear Hr h hX
    go_enter Try.func43, Try.ntmps43
    go_wp2_with fail
    all_goals first | (exfalso; omega) | (go_ret; exact ⟨ret_bool (by rw [Hr2.out]; simp <;> omega), (by first | exact X.below | (rw [← hB]; exact X.below))⟩)
end Go.Proofs.Ytfmcfalghbaanaa

namespace Go.Proofs.Ytfmcfalghbaanaa
set_option linter.unusedSimpArgs false
set_option linter.unusedVariables false
open Go.RowKit Go.Shelf
attribute [local go_sem] Oper.semAt_some
attribute [local go_sem ↓] exec_load78
attribute [local go_sem ↓] at_load78
attribute [local go_sem ↓] exec_store78
attribute [local go_sem ↓] at_store78

/-- How many joins a cylinder has. -/
def cntC (c : Cy) : Nat := (joins (tabOf c) (codesL c.ps) c.ps.length).length
/-- What Count returns. -/
def countR (c : Cy) : Int × Int := if chkC c ≠ 0 then (0, chkC c) else ((cntC c : Int), 0)

set_option maxRecDepth 100000 in
set_option maxHeartbeats 4000000 in
theorem count21_bad (A : Option Addr) (n cap : Nat) (off lo hi : Int) (ps : List Pc) (w : World) (h : Pcs w A n ps) (hn : n ≤ 9223372036854775807) (he : chkC ⟨ps, off, ⟨lo, hi⟩⟩ ≠ 0) :
    Calls Try.prog 21 #[cyl A n cap off lo hi] w fun e w' => e = .returned (.tuple #[.int .i64 0, .int .i64 (chkC ⟨ps, off, ⟨lo, hi⟩⟩)]) ∧ Below w.heap.size w w' := by
  have X := Cx.new (cap := cap) (off := off) (lo := lo) (hi := hi) h
  unfold cyl
  have X1 := X.next (below_alloc_ _ (.cells Try.zeroCells78 78))
  have Hn := Lib.hid hn
  go_enter Try.func21, Try.ntmps21
  obtain ⟨c0, c1, c2, c3, l0⟩ := X.c
  go_wp2_with fail
  refine (lay42_bad A n cap off lo hi ps _ X.pcs Hn.out he).mono ?_
  rintro e w2 ⟨rfl, hb⟩
  have X2 := (X.next hb).next (below_alloc_ _ (.cells Try.zeroCells78 78))
  have hz : (w2.alloc (.cells Try.zeroCells78 78)).heap[w2.heap.size]? = some (.cells Try.zeroCells78 78 (0, 0)) := hal_new rfl
  have hst := run_st78 hz zero_size zero_size zero_one
  have d : (chkC ⟨ps, off, ⟨lo, hi⟩⟩ != 0) = true := by rw [bne_iff_ne]; exact he
  have HX2 := Lib.hid X2.below
  have HB := Lib.hid (show w.heap.size ≤ w2.heap.size from Nat.le_trans X.below.size hb.size)
  clear c0 c1 c2 c3 l0 X X1 X2 hb hz he h hn
  go_wp2_with fail
  refine bodyPost_ret (v := .tuple #[.int .i64 0, .int .i64 (chkC ⟨ps, off, ⟨lo, hi⟩⟩)]) (by simp [results, Try.results21, go_sem]) rfl ?_
  exact ⟨rfl, HX2.out.trans ((keeps_setRow _ _ _).below HX2.out.size (fun k hk e => by have := HB.out; omega))⟩

/-- Count's answer of a valid cylinder, and that nothing older changes. -/
theorem count21_ok (A : Option Addr) (n cap : Nat) (off lo hi : Int) (ps : List Pc) (w : World) (h : Pcs w A n ps) (hn : n ≤ 9223372036854775807) (he : chkC ⟨ps, off, ⟨lo, hi⟩⟩ = 0) :
    Calls Try.prog 21 #[cyl A n cap off lo hi] w fun e w' => e = .returned (.tuple #[.int .i64 (cntC ⟨ps, off, ⟨lo, hi⟩⟩ : Int), .int .i64 0]) ∧ Below w.heap.size w w' := by
  have X := Cx.new (cap := cap) (off := off) (lo := lo) (hi := hi) h
  have hv := chkC_facts he
  have hlen := h.1
  unfold cyl
  have Hn := Lib.hid hn
  have Hv := Lib.hid hv
  go_enter Try.func21, Try.ntmps21
  obtain ⟨c0, c1, c2, c3, l0⟩ := X.c
  go_wp2_with fail
  refine (lay42_ok A n cap off lo hi ps _ X.pcs Hn.out he).mono ?_
  rintro e w2 ⟨Y, M, rfl, hY, hM, hMl, hb⟩
  have X2 := (X.next hb).next (below_alloc_ _ (.cells Try.zeroCells78 78))
  have hz : (w2.alloc (.cells Try.zeroCells78 78)).heap[w2.heap.size]? = some (.cells Try.zeroCells78 78 (0, 0)) := hal_new rfl
  have hst := run_st78 hz zero_size hY.size hY.one
  have hl := run_ld78 (setRow_same Y hz) hY.size
  have HX2 := Lib.hid X2
  have HB := Lib.hid (show w.heap.size ≤ w2.heap.size from Nat.le_trans X.below.size hb.size)
  have HY := Lib.hid hY
  have HM1 := Lib.hid (lt_of_block hM)
  have HM2 := Lib.hid (show w.heap.size ≤ M from Nat.le_trans X.below.size hMl)
  have Hh := Lib.hid h
  have HM := Lib.hid (show (w2.alloc (.cells Try.zeroCells78 78)).heap[M]? = some (.map #[] 0) from hal_old hM)
  clear c0 c1 c2 c3 l0 X X2 hb hz he h hn hY hM hMl hv
  go_wp2_with fail
  have hk1 := keeps_setRow (w2.alloc (.cells Try.zeroCells78 78)) w2.heap.size Y
  have hsz := setRow_size (w2.alloc (.cells Try.zeroCells78 78)) w2.heap.size Y
  have hb4 : Below w.heap.size w ((w2.alloc (.cells Try.zeroCells78 78)).setRow w2.heap.size Y) := HX2.out.below.trans (hk1.below HX2.out.below.size (fun k hk e => by have := HB.out; omega))
  have hm : Memo ((w2.alloc (.cells Try.zeroCells78 78)).setRow w2.heap.size Y) M 0 (tabOf ⟨ps, off, ⟨lo, hi⟩⟩) (codesL ps) n := Memo.new ((hk1.block M (lt_of_block HM.out) (fun e => by have := HM1.out; omega)).trans HM.out) _ _ _
  have hp := Hh.out.below hb4 (Nat.le_refl _)
  have hb17 : 0 + 17 ^ (n + 1) ≤ 1000000000000000000 := by
    have h1 : 17 ^ (n + 1) ≤ 17 ^ 9 := Nat.pow_le_pow_right (by omega) (by have := Hv.out; omega)
    have h2 : 17 ^ 9 = 118587876497 := by decide
    omega
  refine (count51 Y A n cap off lo hi _ M ps HY.out (by have := Hv.out; omega) (by have := Hv.out; omega) n 0 0 0 0 false _ hp hm hb17 (Nat.two_pow_pos n) (by omega) rfl (left_start n 0)).mono ?_
  rintro e w3 ⟨rfl, hm3, hk3⟩
  have hval : cntA (tabOf ⟨ps, off, ⟨lo, hi⟩⟩) (codesL ps) n ⟨0, 0⟩ = cntC ⟨ps, off, ⟨lo, hi⟩⟩ := by
    unfold cntA cntC joins
    rw [left_start, hlen]
  rw [hval]
  have HF := Lib.hid (hb4.trans (hk3.below hb4.size (fun k hk e => by have := HM2.out; omega)))
  clear hb4 hm hp hb17 hm3 hk3 hval hk1 hsz hst hl
  go_wp2_with fail
  refine bodyPost_ret (v := .tuple #[.int .i64 (cntC ⟨ps, off, ⟨lo, hi⟩⟩ : Int), .int .i64 0]) (by simp [results, Try.results21, go_sem]) rfl ?_
  exact ⟨rfl, HF.out⟩
/-- The program's Count, at any cylinder. -/
theorem count21 (A : Option Addr) (n cap : Nat) (off lo hi : Int) (ps : List Pc) (w : World) (h : Pcs w A n ps) (hn : n ≤ 9223372036854775807) :
    Calls Try.prog 21 #[cyl A n cap off lo hi] w fun e w' => e = .returned (.tuple #[.int .i64 (countR ⟨ps, off, ⟨lo, hi⟩⟩).1, .int .i64 (countR ⟨ps, off, ⟨lo, hi⟩⟩).2]) ∧ Below w.heap.size w w' := by
  by_cases he : chkC ⟨ps, off, ⟨lo, hi⟩⟩ = 0
  · rw [show countR ⟨ps, off, ⟨lo, hi⟩⟩ = ((cntC ⟨ps, off, ⟨lo, hi⟩⟩ : Int), 0) from if_neg (by simpa using he)]
    exact count21_ok A n cap off lo hi ps w h hn he
  · rw [show countR ⟨ps, off, ⟨lo, hi⟩⟩ = (0, chkC ⟨ps, off, ⟨lo, hi⟩⟩) from if_pos he]
    exact count21_bad A n cap off lo hi ps w h hn he

/-- A step's code is among the codes. -/
theorem mem_codes {ps : List Pc} {k : Nat} {t : Bool} (h : stepB ps ⟨(k : Int), t⟩ = true) : (if t then 2 * k + 1 else 2 * k) ∈ codesL ps := by
  have hk := (step_facts h).2
  simp only at hk
  unfold stepB at h
  simp only [Bool.and_eq_true, Bool.or_eq_true, Int.toNat_natCast] at h
  refine List.mem_flatMap.2 ⟨k, List.mem_range.2 (by omega), ?_⟩
  cases t with
  | false => split <;> simp
  | true =>
    have hl : (pAt ps k).loose = true := by simpa using h.2
    rw [if_pos hl]; simp
theorem stC_code (k : Nat) (t : Bool) : stC (if t then 2 * k + 1 else 2 * k) = ⟨(k : Int), t⟩ := by
  unfold stC
  cases t with
  | false =>
    rw [if_neg (by simp), show 2 * k / 2 = k by omega, decide_eq_false (by omega)]
  | true =>
    rw [if_pos rfl, show (2 * k + 1) / 2 = k by omega, decide_eq_true (by omega)]
theorem tab_step {c : Cy} {k l : Nat} {t u : Bool} (h1 : stepB c.ps ⟨(k : Int), t⟩ = true) (h2 : stepB c.ps ⟨(l : Int), u⟩ = true) :
    tabOf c (if t then 2 * k + 1 else 2 * k) (if u then 2 * l + 1 else 2 * l) = fitsB c ⟨(k : Int), t⟩ ⟨(l : Int), u⟩ := by
  unfold tabOf fitC
  rw [decide_eq_true (mem_codes h1), decide_eq_true (mem_codes h2), stC_code, stC_code]
  rfl

set_option maxRecDepth 100000 in
set_option maxHeartbeats 4000000 in
theorem fits14_bad (A : Option Addr) (n cap : Nat) (off lo hi p q : Int) (u v : Bool) (ps : List Pc) (w : World) (h : Pcs w A n ps) (hn : n ≤ 9223372036854775807) (he : chkC ⟨ps, off, ⟨lo, hi⟩⟩ ≠ 0) :
    Calls Try.prog 14 #[cyl A n cap off lo hi, .agg #[.int .i64 p, .bool u], .agg #[.int .i64 q, .bool v]] w fun e w' => e = .returned (.tuple #[.bool false, .int .i64 (chkC ⟨ps, off, ⟨lo, hi⟩⟩)]) ∧ Below w.heap.size w w' := by
  have X := ((Cx.new (cap := cap) (off := off) (lo := lo) (hi := hi) h).next (below_alloc_ _ (.cells #[.int .i64 p, .bool u] 28))).next (below_alloc_ _ (.cells #[.int .i64 q, .bool v] 28))
  unfold cyl
  have Hn := Lib.hid hn
  go_enter Try.func14, Try.ntmps14
  obtain ⟨c0, c1, c2, c3, l0⟩ := X.c
  go_wp2_with fail
  refine (lay42_bad A n cap off lo hi ps _ X.pcs Hn.out he).mono ?_
  rintro e w2 ⟨rfl, hb⟩
  have X2 := (X.next hb).next (below_alloc_ _ (.cells Try.zeroCells78 78))
  have hz : (w2.alloc (.cells Try.zeroCells78 78)).heap[w2.heap.size]? = some (.cells Try.zeroCells78 78 (0, 0)) := hal_new rfl
  have hst := run_st78 hz zero_size zero_size zero_one
  have d : (chkC ⟨ps, off, ⟨lo, hi⟩⟩ != 0) = true := by rw [bne_iff_ne]; exact he
  have HX2 := Lib.hid X2.below
  have HB := Lib.hid (show w.heap.size ≤ w2.heap.size from Nat.le_trans X.below.size hb.size)
  clear c0 c1 c2 c3 l0 X X2 hb hz he h hn
  go_wp2_with fail
  refine bodyPost_ret (v := .tuple #[.bool false, .int .i64 (chkC ⟨ps, off, ⟨lo, hi⟩⟩)]) (by simp [results, Try.results14, go_sem]) rfl ?_
  exact ⟨rfl, HX2.out.trans ((keeps_setRow _ _ _).below HX2.out.size (fun k hk e => by have := HB.out; omega))⟩

/-- The world of Fits behind lay. -/
structure Tx (w : World) (B B2 : Nat) (Y : Array Value) (A : Option Addr) (n : Nat) (ps : List Pc) (p q : Int) (u v : Bool) (W : World) : Prop where
  below : Below w.heap.size w W
  brd : W.heap[B2]? = some (.cells Y 78 (0, 0))
  r1 : W.heap[B + 1]? = some (.cells #[.int .i64 p, .bool u] 28 (0, 0))
  r2 : W.heap[B + 1 + 1]? = some (.cells #[.int .i64 q, .bool v] 28 (0, 0))
  pcs : Pcs W A n ps
theorem Tx.next {w : World} {B B2 : Nat} {Y : Array Value} {A : Option Addr} {n : Nat} {ps : List Pc} {p q : Int} {u v : Bool} {W W' : World} (h : Tx w B B2 Y A n ps p q u v W) (hb : Below W.heap.size W W') : Tx w B B2 Y A n ps p q u v W' :=
  ⟨h.below.trans (hb.mono h.below.size), (hb.block _ (lt_of_block h.brd)).trans h.brd, (hb.block _ (lt_of_block h.r1)).trans h.r1, (hb.block _ (lt_of_block h.r2)).trans h.r2, h.pcs.below hb (Nat.le_refl _)⟩
theorem Tx.c {w : World} {B B2 : Nat} {Y : Array Value} {A : Option Addr} {n : Nat} {ps : List Pc} {p q : Int} {u v : Bool} {W : World} (h : Tx w B B2 Y A n ps p q u v W) (hY : Y.size = 261) :
    runO Try.prog (ld 78) (.pointer (some ⟨B2, 0, none⟩)) W = .ok (.value (.agg Y)) W ∧ W.cell? ⟨B + 1, 0, none⟩ = some (.int .i64 p) ∧ W.cell? ⟨B + 1, 1, none⟩ = some (.bool u) ∧ W.cell? ⟨B + 1 + 1, 0, none⟩ = some (.int .i64 q) ∧ W.cell? ⟨B + 1 + 1, 1, none⟩ = some (.bool v) :=
  ⟨run_ld78 h.brd hY, (two_cells h.r1).1, (two_cells h.r1).2, (two_cells h.r2).1, (two_cells h.r2).2⟩

set_option maxRecDepth 100000 in
set_option maxHeartbeats 4000000 in
theorem fits14_ok (A : Option Addr) (n cap : Nat) (off lo hi p q : Int) (u v : Bool) (ps : List Pc) (w : World) (h : Pcs w A n ps) (hn : n ≤ 9223372036854775807) (he : chkC ⟨ps, off, ⟨lo, hi⟩⟩ = 0) :
    Calls Try.prog 14 #[cyl A n cap off lo hi, .agg #[.int .i64 p, .bool u], .agg #[.int .i64 q, .bool v]] w fun e w' => e = .returned (.tuple #[.bool (fitsR ⟨ps, off, ⟨lo, hi⟩⟩ ⟨p, u⟩ ⟨q, v⟩).1, .int .i64 (fitsR ⟨ps, off, ⟨lo, hi⟩⟩ ⟨p, u⟩ ⟨q, v⟩).2]) ∧ Below w.heap.size w w' := by
  have X := ((Cx.new (cap := cap) (off := off) (lo := lo) (hi := hi) h).next (below_alloc_ _ (.cells #[.int .i64 p, .bool u] 28))).next (below_alloc_ _ (.cells #[.int .i64 q, .bool v] 28))
  have hv := chkC_facts he
  have hlen := h.1
  unfold cyl
  have Hn := Lib.hid hn
  have Hv := Lib.hid hv
  have He := Lib.hid he
  have Hh := Lib.hid h
  obtain ⟨B, hB⟩ : ∃ B, w.heap.size = B := ⟨_, rfl⟩
  rw [hB] at X
  have r1 : (((w.alloc (.cells #[.slice A n cap, .int .i64 off, .int .i64 lo, .int .i64 hi] 26)).alloc (.cells #[.int .i64 p, .bool u] 28)).alloc (.cells #[.int .i64 q, .bool v] 28)).heap[B + 1]? = some (.cells #[.int .i64 p, .bool u] 28 (0, 0)) := by rw [← hB]; exact hal_old (hal_new (by simp))
  have r2 : (((w.alloc (.cells #[.slice A n cap, .int .i64 off, .int .i64 lo, .int .i64 hi] 26)).alloc (.cells #[.int .i64 p, .bool u] 28)).alloc (.cells #[.int .i64 q, .bool v] 28)).heap[B + 1 + 1]? = some (.cells #[.int .i64 q, .bool v] 28 (0, 0)) := by rw [← hB]; exact hal_new (by simp)
  go_enter Try.func14, Try.ntmps14
  obtain ⟨c0, c1, c2, c3, l0⟩ := X.c
  go_wp2_with fail
  refine (lay42_ok A n cap off lo hi ps _ X.pcs Hn.out he).mono ?_
  rintro e w2 ⟨Y, M, rfl, hY, hM, hMl, hb⟩
  have X2 := (X.next hb).next (below_alloc_ _ (.cells Try.zeroCells78 78))
  have hz : (w2.alloc (.cells Try.zeroCells78 78)).heap[w2.heap.size]? = some (.cells Try.zeroCells78 78 (0, 0)) := hal_new rfl
  have hst := run_st78 hz zero_size hY.size hY.one
  have hk1 := keeps_setRow (w2.alloc (.cells Try.zeroCells78 78)) w2.heap.size Y
  have hyb := setRow_same Y hz
  have hws : w.heap.size ≤ w2.heap.size := Nat.le_trans X.below.size hb.size
  have hb4 : Below w.heap.size w ((w2.alloc (.cells Try.zeroCells78 78)).setRow w2.heap.size Y) := X2.below.trans (hk1.below X2.below.size (fun k hk e => by omega))
  have l1 := Nat.lt_of_lt_of_le (lt_of_block r1) hb.size
  have l2 := Nat.lt_of_lt_of_le (lt_of_block r2) hb.size
  have g1 := (hk1.block (B + 1) (by simp; omega) (fun e => by omega)).trans (hal_old ((hb.block _ (lt_of_block r1)).trans r1))
  have g2 := (hk1.block (B + 1 + 1) (by simp; omega) (fun e => by omega)).trans (hal_old ((hb.block _ (lt_of_block r2)).trans r2))
  obtain ⟨W4, hW4⟩ : ∃ W4, (w2.alloc (.cells Try.zeroCells78 78)).setRow w2.heap.size Y = W4 := ⟨_, rfl⟩
  rw [hW4] at hst hyb hb4 g1 g2
  have T4 : Tx w B w2.heap.size Y A n ps p q u v W4 := ⟨hb4, hyb, g1, g2, h.below hb4 (Nat.le_refl _)⟩
  have HY := Lib.hid hY
  have hT := T4.c hY.size
  have HT := Lib.hid T4
  obtain ⟨z0, z1, z2, z3, z4⟩ := hT
  have HL := Lib.hid hlen
  clear c0 c1 c2 c3 l0 X X2 hb hz he h hn hY hM hMl hv hk1 hyb hws hb4 l1 l2 g1 g2 T4 r1 r2 hW4 hB hlen
  go_wp2_with fail
  refine (strange43 Y A n cap off lo hi _ M ps p u _ HY.out HT.out.pcs).mono ?_
  rintro e w5 ⟨rfl, hb5⟩
  have T5 := HT.out.next hb5
  have HT5 := Lib.hid T5
  obtain ⟨y0, y1, y2, y3, y4⟩ := T5.c HY.out.size
  cases hs1 : stepB ps ⟨p, u⟩ with
  | false =>
    have HR := Lib.hid (show fitsR ⟨ps, off, ⟨lo, hi⟩⟩ ⟨p, u⟩ ⟨q, v⟩ = (false, 2) from fitsR_arg He.out (.inl hs1))
    clear hs1 T5 hb5 z0 z1 z2 z3 z4
    go_wp2_with fail
    refine bodyPost_ret (v := .tuple #[.bool false, .int .i64 2]) (by simp [results, Try.results14, go_sem]) rfl ?_
    exact ⟨by rw [HR.out], HT5.out.below⟩
  | true =>
    have Hs1 := Lib.hid hs1
    clear hs1 T5 hb5 z0 z1 z2 z3 z4
    go_wp2_with fail
    refine (strange43 Y A n cap off lo hi _ M ps q v _ HY.out HT5.out.pcs).mono ?_
    rintro e w6 ⟨rfl, hb6⟩
    have T6 := HT5.out.next hb6
    have HT6 := Lib.hid T6
    obtain ⟨z0, z1, z2, z3, z4⟩ := T6.c HY.out.size
    cases hs2 : stepB ps ⟨q, v⟩ with
    | false =>
      have HR := Lib.hid (show fitsR ⟨ps, off, ⟨lo, hi⟩⟩ ⟨p, u⟩ ⟨q, v⟩ = (false, 2) from fitsR_arg He.out (.inr hs2))
      clear hs2 T6 hb6 y0 y1 y2 y3 y4
      go_wp2_with fail
      refine bodyPost_ret (v := .tuple #[.bool false, .int .i64 2]) (by simp [results, Try.results14, go_sem]) rfl ?_
      exact ⟨by rw [HR.out], HT6.out.below⟩
    | true =>
      have HR := Lib.hid (show fitsR ⟨ps, off, ⟨lo, hi⟩⟩ ⟨p, u⟩ ⟨q, v⟩ = (fitsB ⟨ps, off, ⟨lo, hi⟩⟩ ⟨p, u⟩ ⟨q, v⟩, 0) from fitsR_ok He.out Hs1.out hs2)
      obtain ⟨k, rfl⟩ := Int.eq_ofNat_of_zero_le (step_facts Hs1.out).1
      obtain ⟨l, rfl⟩ := Int.eq_ofNat_of_zero_le (step_facts hs2).1
      have HU := Lib.hid (tab_step (c := ⟨ps, off, ⟨lo, hi⟩⟩) Hs1.out hs2)
      have HE := Lib.hid (show k < n ∧ l < n ∧ n ≤ 8 from by
        have h1 := (step_facts Hs1.out).2
        have h2 := (step_facts hs2).2
        have h3 := HL.out
        have h4 := Hv.out
        simp only at h1 h2
        omega)
      clear hs2 T6 hb6 y0 y1 y2 y3 y4
      go_wp2_with fail
      refine (fits44 Y A n cap off lo hi _ M w2.heap.size k l _ _ u v _ HT6.out.brd HY.out rfl rfl (by have := HE.out; split <;> omega) (by have := HE.out; split <;> omega)).mono ?_
      rintro e w7 ⟨rfl, hb7⟩
      rw [HU.out]
      have HT7 := Lib.hid (HT6.out.next hb7)
      obtain ⟨fb, hfb⟩ : ∃ fb, fitsB ⟨ps, off, ⟨lo, hi⟩⟩ ⟨(k : Int), u⟩ ⟨(l : Int), v⟩ = fb := ⟨_, rfl⟩
      rw [hfb]
      have Hfb := Lib.hid hfb
      clear hb7 hfb z0 z1 z2 z3 z4
      go_wp2_with fail
      refine bodyPost_ret (v := .tuple #[.bool fb, .int .i64 0]) (by simp [results, Try.results14, go_sem]) rfl ?_
      exact ⟨by rw [HR.out, Hfb.out], HT7.out.below⟩

/-- The program's Fits, at any cylinder and steps. -/
theorem fits14 (A : Option Addr) (n cap : Nat) (off lo hi p q : Int) (u v : Bool) (ps : List Pc) (w : World) (h : Pcs w A n ps) (hn : n ≤ 9223372036854775807) :
    Calls Try.prog 14 #[cyl A n cap off lo hi, .agg #[.int .i64 p, .bool u], .agg #[.int .i64 q, .bool v]] w fun e w' => e = .returned (.tuple #[.bool (fitsR ⟨ps, off, ⟨lo, hi⟩⟩ ⟨p, u⟩ ⟨q, v⟩).1, .int .i64 (fitsR ⟨ps, off, ⟨lo, hi⟩⟩ ⟨p, u⟩ ⟨q, v⟩).2]) ∧ Below w.heap.size w w' := by
  by_cases he : chkC ⟨ps, off, ⟨lo, hi⟩⟩ = 0
  · exact fits14_ok A n cap off lo hi p q u v ps w h hn he
  · rw [fitsR_bad he]
    exact fits14_bad A n cap off lo hi p q u v ps w h hn he
end Go.Proofs.Ytfmcfalghbaanaa
