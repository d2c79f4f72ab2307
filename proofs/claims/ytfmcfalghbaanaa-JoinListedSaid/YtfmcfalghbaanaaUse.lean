/- Stage 2: count for all states; whether steps lead on; whether a step is strange. -/
import Derived.Test.YtfmcfalghbaanaaCnt
namespace Go.Proofs.Ytfmcfalghbaanaa
set_option linter.unusedSimpArgs false
set_option linter.unusedVariables false
open Go.RowKit Go.Shelf
attribute [local go_sem] Oper.semAt_some
attribute [local go_sem ↓] exec_load78
attribute [local go_sem ↓] at_load78

theorem count51 (X : Array Value) (A : Option Addr) (n cap : Nat) (off lo hi : Int) (T : Nat → Nat → Bool) (M : Nat) (ps : List Pc) (hX : Brd X A n cap off lo hi T M) (hn1 : 1 ≤ n) (hn : n ≤ 8) (k : Nat) : CntHyp X A n T M ps k := by
  induction k with
  | zero => exact count_step X A n cap off lo hi T M ps hX hn1 hn 0 (fun k' h => by omega)
  | succ k ih => exact count_step X A n cap off lo hi T M ps hX hn1 hn (k + 1) (fun k' h => by cases Nat.succ.inj h; exact ih)

set_option maxRecDepth 100000 in
theorem leads55 (X : Array Value) (A : Option Addr) (n cap : Nat) (off lo hi : Int) (T : Nat → Nat → Bool) (M : Nat) (ps : List Pc) (hX : Brd X A n cap off lo hi T M) (hn1 : 1 ≤ n) (hn : n ≤ 8) (k p q x nn : Nat) (t : Bool) (w : World) (hp : Pcs w A n ps) (hm : Memo w M nn T (codesL ps) n) (hnn : nn + 17 ^ (k + 1) ≤ 1000000000000000000) (hq : q < 2 ^ n) (hx16 : x < 16) (hx : x = if t then 2 * p + 1 else 2 * p) (hk : left n ⟨x, q⟩ = k) :
    Calls Try.prog 55 #[.agg X, .agg #[.int .i64 (p : Int), .bool t, .int .u64 (q : Int)]] w (fun e w' => e = .returned (.bool (decide (0 < cntA T (codesL ps) n ⟨x, q⟩))) ∧ Memo w' M (nn + 17 ^ (k + 1)) T (codesL ps) n ∧ Keeps (fun j => j = M) w w') := by
  have hMw := hm.lt
  have hs := hX.size
  have Hx := Lib.hid hx
  have HX := Lib.hid hX
  clear hx hX
  go_enter Try.func55, Try.ntmps55
  have l1 : runO Try.prog (ld 78) (.pointer (some ⟨w.heap.size, 0, none⟩)) ((w.alloc (.cells X 78)).alloc (.cells #[.int .i64 (p : Int), .bool t, .int .u64 (q : Int)] 91)) = .ok (.value (.agg X)) _ := run_ld78 (hal_old (heap_alloc_new_ _ _)) hs
  go_wp2_with fail
  have hb2 := (below_alloc_ w (.cells X 78)).trans ((below_alloc_ (w.alloc (.cells X 78)) (.cells #[.int .i64 (p : Int), .bool t, .int .u64 (q : Int)] 91)).mono (by simp))
  have hK0 : Keeps (fun _ => False) w ((w.alloc (.cells X 78)).alloc (.cells #[.int .i64 (p : Int), .bool t, .int .u64 (q : Int)] 91)) := Keeps.of_new hb2
  have HK0 := Lib.hid hK0
  refine (count51 X A n cap off lo hi T M ps HX.out hn1 hn k p q x nn t _ (hp.below hb2 (Nat.le_refl _)) (hm.keep hK0 (fun e => e)) hnn hq hx16 Hx.out hk).mono ?_
  rintro e W2 ⟨rfl, hm2, hk2⟩
  obtain ⟨c, hc⟩ : ∃ c, cntA T (codesL ps) n ⟨x, q⟩ = c := ⟨_, rfl⟩
  rw [hc]
  have Hc := Lib.hid hc
  clear hc hK0 hb2 l1 hp hm hnn hq hx16 hk
  go_wp2_with fail
  go_ret
  exact ⟨ret_bool (by rw [Hc.out]), hm2, HK0.out.none.trans hk2⟩

set_option maxRecDepth 100000 in
set_option maxHeartbeats 2000000 in
theorem strange43 (X : Array Value) (A : Option Addr) (n cap : Nat) (off lo hi : Int) (T : Nat → Nat → Bool) (M : Nat) (ps : List Pc) (p : Int) (t : Bool) (w : World) (hX : Brd X A n cap off lo hi T M) (h : Pcs w A n ps) :
    Calls Try.prog 43 #[.agg X, .agg #[.int .i64 p, .bool t]] w fun e w' => e = .returned (.bool (!stepB ps ⟨p, t⟩)) ∧ Below w.heap.size w w' := by
  have X := (Bx.new h hX).next (below_alloc_ _ (.cells #[.int .i64 p, .bool t] 28))
  have Hl := Lib.hid h.1
  have Hr := Lib.hid (show stepB ps ⟨p, t⟩ = (decide (0 ≤ p) && decide (p < (ps.length : Int)) && (!t || (pAt ps p.toNat).loose)) from rfl)
  obtain ⟨B, hB⟩ : ∃ B, w.heap.size = B := ⟨_, rfl⟩
  rw [hB] at X
  obtain ⟨c0, c1, c2, c3, c4, hlt0, l78⟩ := X.c
  by_cases h1 : 0 ≤ p
  · have d1 : decide (0 ≤ p) = true := decide_eq_true h1
    by_cases h2 : p < (n : Int)
    · have d2 : decide (p < (n : Int)) = true := decide_eq_true h2
      obtain ⟨k, rfl⟩ := Int.eq_ofNat_of_zero_le h1
      obtain ⟨b, o, rfl, hcs⟩ := X.pcs.2 (by omega)
      obtain ⟨_, _, _, _, _, _, b6⟩ := hcs k (by omega)
      obtain ⟨l, hl⟩ : ∃ l, (pAt ps k).loose = l := ⟨_, rfl⟩
      rw [hl] at b6
      have Hr2 := Lib.hid (show stepB ps ⟨(k : Int), t⟩ = (!t || l) by rw [Hr.out, Hl.out, d1, d2, Int.toNat_natCast, hl]; simp)
      clear hcs hl h1 Hr h hX
      cases t with
      | true =>
        go_enter Try.func43, Try.ntmps43
        go_wp2_with fail
        all_goals (go_ret; exact ⟨ret_bool (by rw [Hr2.out]; simp <;> omega), (by first | exact X.below | (rw [← hB]; exact X.below))⟩)
      | false =>
        go_enter Try.func43, Try.ntmps43
        go_wp2_with fail
        all_goals (go_ret; exact ⟨ret_bool (by rw [Hr2.out]; simp <;> omega), (by first | exact X.below | (rw [← hB]; exact X.below))⟩)
    · have d2 : decide (p < (n : Int)) = false := decide_eq_false h2
      have Hr2 := Lib.hid (show stepB ps ⟨p, t⟩ = false by rw [Hr.out, Hl.out, d2]; simp)
      clear Hr h hX
      go_enter Try.func43, Try.ntmps43
      go_wp2_with fail
      all_goals first | (exfalso; omega) | (go_ret; exact ⟨ret_bool (by rw [Hr2.out]; simp <;> omega), (by first | exact X.below | (rw [← hB]; exact X.below))⟩)
  · have d1 : decide (0 ≤ p) = false := decide_eq_false h1
    have Hr2 := Lib.hid (show stepB ps ⟨p, t⟩ = false by rw [Hr.out, d1]; simp)
    clear Hr h hX
    go_enter Try.func43, Try.ntmps43
    go_wp2_with fail
    all_goals first | (exfalso; omega) | (go_ret; exact ⟨ret_bool (by rw [Hr2.out]; simp <;> omega), (by first | exact X.below | (rw [← hB]; exact X.below))⟩)
end Go.Proofs.Ytfmcfalghbaanaa
