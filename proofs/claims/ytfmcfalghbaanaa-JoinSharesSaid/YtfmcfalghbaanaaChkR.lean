/- Stage 2: the contract of the document's CheckCylinder. -/
import Derived.Test.YtfmcfalghbaanaaCyl
namespace Go.Proofs.Ytfmcfalghbaanaa
set_option linter.unusedSimpArgs false
set_option linter.unusedVariables false
open Go.RowKit

theorem heap_alloc_new_ (W : World) (o : Obj) : (W.alloc o).heap[W.heap.size]? = some o := by
  show (W.heap.push o)[W.heap.size]? = some o
  simp
theorem lt_of_block {W : World} {b : Nat} {x : Obj} (h : W.heap[b]? = some x) : b < W.heap.size := by
  rcases Nat.lt_or_ge b W.heap.size with hl | hl
  · exact hl
  · rw [Array.getElem?_eq_none hl] at h; cases h
theorem cell_row {W : World} {b k : Nat} {c : Array Value} {t : TypeId} {fr : Nat × Nat} (h : W.heap[b]? = some (.cells c t fr)) : W.cell? ⟨b, k, none⟩ = c[k]? := by
  simp [World.cell?, h]
/-- A cylinder that a function has taken over. -/
structure Cx (w : World) (B : Nat) (A : Option Addr) (n cap : Nat) (off lo hi : Int) (ps : List Pc) (W : World) : Prop where
  below : Below w.heap.size w W
  lo_ : w.heap.size ≤ B
  row : W.heap[B]? = some (.cells #[.slice A n cap, .int .i64 off, .int .i64 lo, .int .i64 hi] 26 (0, 0))
  pcs : Pcs W A n ps
theorem Cx.next {w : World} {B : Nat} {A : Option Addr} {n cap : Nat} {off lo hi : Int} {ps : List Pc} {W W' : World} (h : Cx w B A n cap off lo hi ps W) (hb : Below W.heap.size W W') : Cx w B A n cap off lo hi ps W' :=
  ⟨h.below.trans (hb.mono h.below.size), h.lo_, (hb.block _ (lt_of_block h.row)).trans h.row, h.pcs.below hb (Nat.le_refl _)⟩
theorem Cx.new {w : World} {A : Option Addr} {n cap : Nat} {off lo hi : Int} {ps : List Pc} (h : Pcs w A n ps) : Cx w w.heap.size A n cap off lo hi ps (w.alloc (.cells #[.slice A n cap, .int .i64 off, .int .i64 lo, .int .i64 hi] 26)) :=
  ⟨below_alloc_ _ _, Nat.le_refl _, heap_alloc_new_ _ _, h.below (below_alloc_ _ _) (Nat.le_refl _)⟩
theorem Cx.c {w : World} {B : Nat} {A : Option Addr} {n cap : Nat} {off lo hi : Int} {ps : List Pc} {W : World} (h : Cx w B A n cap off lo hi ps W) :
    W.cell? ⟨B, 0, none⟩ = some (.slice A n cap) ∧ W.cell? ⟨B, 1, none⟩ = some (.int .i64 off) ∧ W.cell? ⟨B, 2, none⟩ = some (.int .i64 lo) ∧ W.cell? ⟨B, 3, none⟩ = some (.int .i64 hi) ∧ B < W.heap.size :=
  ⟨by rw [cell_row h.row]; rfl, by rw [cell_row h.row]; rfl, by rw [cell_row h.row]; rfl, by rw [cell_row h.row]; rfl, lt_of_block h.row⟩
theorem all_take {α : Type} [Inhabited α] (p : α → Bool) (xs : List α) (k : Nat) (d : α) (hk : k < xs.length) : (xs.take (k + 1)).all p = ((xs.take k).all p && p (xs.getD k d)) := by
  rw [List.take_succ_eq_append_getElem hk, List.all_append]
  simp [List.getD, hk]
theorem all_stop {α : Type} (p : α → Bool) (xs : List α) (k : Nat) (d : α) (hk : k < xs.length) (h : p (xs.getD k d) = false) : xs.all p = false := by
  rw [List.all_eq_false]
  refine ⟨xs[k], List.getElem_mem hk, ?_⟩
  have e : xs.getD k d = xs[k] := by simp [List.getD, hk]
  rw [e] at h
  simp [h]
theorem okEn_iff {e : En} : okEn e = (okRg 0 1000 e.d && decide (0 ≤ e.p) && decide (e.p ≤ 100000)) := rfl
/-- The end with a number. -/
def enAt (p : Pc) (k : Nat) : En := if k = 0 then p.a else p.b

theorem ret_int {a b : Int} (h : a = b) : Ending.returned (.int .i64 a) = .returned (.int .i64 b) := by rw [h]
theorem chkC_many {c : Cy} (h : c.ps.length < 1 ∨ 8 < c.ps.length) : chkC c = 6 := if_pos h
theorem chkC_arg {c : Cy} (h : ¬ (c.ps.length < 1 ∨ 8 < c.ps.length)) (h2 : (c.ps.all okPc && decide (0 ≤ c.off) && decide (c.off ≤ 1000) && okRg (-100000) 100000 c.step) = false) : chkC c = 2 := by
  unfold chkC
  rw [if_neg h, if_neg (by simp [h2])]
theorem chkC_ok {c : Cy} (h : ¬ (c.ps.length < 1 ∨ 8 < c.ps.length)) (h2 : (c.ps.all okPc && decide (0 ≤ c.off) && decide (c.off ≤ 1000) && okRg (-100000) 100000 c.step) = true) : chkC c = 0 := by
  unfold chkC
  rw [if_neg h, if_pos h2]

set_option maxRecDepth 100000 in
set_option maxHeartbeats 4000000 in
theorem checkCyl17 (A : Option Addr) (n cap : Nat) (off lo hi : Int) (ps : List Pc) (w : World) (h : Pcs w A n ps) (hn : n ≤ 9223372036854775807) :
    Calls Try.prog 17 #[cyl A n cap off lo hi] w fun e w' => e = .returned (.int .i64 (chkC ⟨ps, off, ⟨lo, hi⟩⟩)) ∧ Below w.heap.size w w' := by
  have X := Cx.new (cap := cap) (off := off) (lo := lo) (hi := hi) h
  have Hl := Lib.hid h.1
  unfold cyl
  obtain ⟨B, hB⟩ : ∃ B, w.heap.size = B := ⟨_, rfl⟩
  have HB := Lib.hid hB
  rw [hB] at X
  obtain ⟨c0, c1, c2, c3, hlt0⟩ := X.c
  by_cases h1 : n < 1
  · have d1 : decide ((n : Int) < 1) = true := decide_eq_true (by omega)
    have Hm := Lib.hid (chkC_many (c := ⟨ps, off, ⟨lo, hi⟩⟩) (.inl (by have := Hl.out; show ps.length < 1; omega)))
    clear h1 hn h
    go_enter Try.func17, Try.ntmps17
    go_wp2_with fail
    go_ret
    exact ⟨ret_int Hm.out.symm, X.below⟩
  · have d1 : decide ((n : Int) < 1) = false := decide_eq_false (by omega)
    by_cases h8 : 8 < n
    · have d8 : decide ((8 : Int) < (n : Int)) = true := decide_eq_true (by omega)
      have Hm := Lib.hid (chkC_many (c := ⟨ps, off, ⟨lo, hi⟩⟩) (.inr (by have := Hl.out; show 8 < ps.length; omega)))
      clear h1 h8 hn h
      go_enter Try.func17, Try.ntmps17
      go_wp2_with fail
      go_ret
      exact ⟨ret_int Hm.out.symm, X.below⟩
    · have d8 : decide ((8 : Int) < (n : Int)) = false := decide_eq_false (by omega)
      have hn8 : n ≤ 8 := by omega
      have Hb := Lib.hid (show ¬ (ps.length < 1 ∨ 8 < ps.length) by have := Hl.out; omega)
      clear h1 h8 hn h hlt0
      go_enter Try.func17, Try.ntmps17
      go_wp2_with fail
      obtain ⟨W0, hW0⟩ : ∃ W0, w.alloc (.cells #[.slice A n cap, .int .i64 off, .int .i64 lo, .int .i64 hi] 26) = W0 := ⟨_, rfl⟩
      rw [hW0] at X c0 c1 c2 c3 ⊢
      clear hW0 hB
      go_loopw [3] (fun i wr => ∃ k : Nat, k ≤ n ∧ i = .int .i64 (k : Int) ∧ (ps.take k).all okPc = true ∧ Below W0.heap.size W0 wr) (fun i _ => n - (intOf i).toNat)
      case atStart => exact ⟨0, Nat.zero_le _, rfl, rfl, Below.refl _ _⟩
      case round =>
        obtain ⟨k, hk, rfl, hall, hBB⟩ := hrel
        have X1 := X.next hBB
        obtain ⟨c0, c1, c2, c3, hlt0⟩ := X1.c
        by_cases hlt : k < n
        · obtain ⟨b, o, rfl, hcs⟩ := X1.pcs.2 (by omega)
          have Hcs := Lib.hid (show ∀ W, Below wr.heap.size wr W → ∀ q : Nat, q < 2 → W.cell? ⟨b, o + k * 7 + q * 3, none⟩ = some (.int .i64 (enAt (pAt ps k) q).d.lo) ∧ W.cell? ⟨b, o + k * 7 + q * 3 + 1, none⟩ = some (.int .i64 (enAt (pAt ps k) q).d.hi) ∧ W.cell? ⟨b, o + k * 7 + q * 3 + 2, none⟩ = some (.int .i64 (enAt (pAt ps k) q).p) from fun W hW q hq => by
            obtain ⟨a0, a1, a2, b0, b1, b2, _⟩ := hcs k hlt
            have hl := lt_of_cell a0
            have hk2 : ∀ m, W.cell? ⟨b, m, none⟩ = wr.cell? ⟨b, m, none⟩ := fun m => hW.cell (p := ⟨b, m, none⟩) (by simp; omega)
            rcases (by omega : q = 0 ∨ q = 1) with rfl | rfl
            · exact ⟨(hk2 _).trans a0, (hk2 _).trans a1, (hk2 _).trans a2⟩
            · exact ⟨(hk2 _).trans b0, (hk2 _).trans b1, (hk2 _).trans b2⟩)
          have Hs := Lib.hid (all_take okPc ps k ⟨⟨⟨0, 0⟩, 0⟩, ⟨⟨0, 0⟩, 0⟩, false⟩ (by have := Hl.out; omega))
          have Hf := Lib.hid (show ∀ q, q < 2 → okEn (enAt (pAt ps k) q) = false → chkC ⟨ps, off, ⟨lo, hi⟩⟩ = 2 from fun q hq he => chkC_arg Hb.out (by
            have e1 : okPc (pAt ps k) = false := by
              rcases (by omega : q = 0 ∨ q = 1) with rfl | rfl
              · show (okEn (pAt ps k).a && _) = false
                rw [show okEn (pAt ps k).a = false from he]; rfl
              · show (_ && okEn (pAt ps k).b) = false
                rw [show okEn (pAt ps k).b = false from he]; simp
            show (ps.all okPc && decide (0 ≤ off) && decide (off ≤ 1000) && okRg (-100000) 100000 ⟨lo, hi⟩) = false
            rw [all_stop okPc ps k _ (by have := Hl.out; omega) e1]; rfl))
          have Hall := Lib.hid hall
          have i0 : (0 : Int) ≤ (k : Int) := by omega
          have i1 : (k : Int) < (n : Int) := by omega
          clear hcs hall
          go_wp2_with fail
          go_loopw [4] (fun v4 wr2 => ∃ q : Nat, q ≤ 2 ∧ v4 = .int .i64 (q : Int) ∧ (1 ≤ q → okEn (pAt ps k).a = true) ∧ (2 ≤ q → okEn (pAt ps k).b = true) ∧ Below wr.heap.size wr wr2) (fun v4 _ => 2 - (intOf v4).toNat)
          case atStart => exact ⟨0, by omega, rfl, fun h => by omega, fun h => by omega, Below.refl _ _⟩
          case round =>
            obtain ⟨q, hq, rfl, hqa, hqb, hB2⟩ := hrel
            have X2 := X1.next hB2
            obtain ⟨c0, c1, c2, c3, hlt0⟩ := X2.c
            by_cases hq2 : q < 2
            · obtain ⟨e0, e1, e2⟩ := Hcs.out _ hB2 q hq2
              obtain ⟨e, he⟩ : ∃ e, enAt (pAt ps k) q = e := ⟨_, rfl⟩
              rw [he] at e0 e1 e2
              have He := Lib.hid he
              have Hq := Lib.hid (And.intro hqa hqb)
              have Hfq := Lib.hid (show okEn e = false → chkC ⟨ps, off, ⟨lo, hi⟩⟩ = 2 from fun h => Hf.out q hq2 (by rw [he]; exact h))
              have Hok := Lib.hid (show okEn e = (okRg 0 1000 ⟨e.d.lo, e.d.hi⟩ && decide (0 ≤ e.p) && decide (e.p ≤ 100000)) from rfl)
              have i2 : (0 : Int) ≤ (q : Int) := by omega
              have i3 : (q : Int) < 2 := by omega
              have X3 := X2.next (below_alloc_ _ (.cells #[.int .i64 e.d.lo, .int .i64 e.d.hi, .int .i64 e.p] 59))
              have X4 := X3.next (below_alloc_ _ (.cells #[.int .i64 e.d.lo, .int .i64 e.d.hi] 24))
              have HB3 := Lib.hid ((hB2.trans ((below_alloc_ _ (.cells #[.int .i64 e.d.lo, .int .i64 e.d.hi, .int .i64 e.p] 59)).mono hB2.size)).trans ((below_alloc_ _ (.cells #[.int .i64 e.d.lo, .int .i64 e.d.hi] 24)).mono (by have := hB2.size; simp; omega)))
              clear he hqa hqb hB2 X2
              go_wp2_with fail
              refine (valid49 e.d.lo e.d.hi 0 1000 _).mono ?_
              rintro e9 w2 ⟨rfl, rfl⟩
              cases hv : okRg 0 1000 ⟨e.d.lo, e.d.hi⟩ with
              | false =>
                have Hm := Lib.hid (Hfq.out (by rw [Hok.out, hv]; rfl))
                clear hv
                go_wp2_with fail
                go_ret
                exact ⟨ret_int Hm.out.symm, X4.below⟩
              | true =>
                by_cases g1 : e.p < 0
                · have f1 : decide (e.p < 0) = true := decide_eq_true g1
                  have Hm := Lib.hid (Hfq.out (by rw [Hok.out, show decide (0 ≤ e.p) = false from decide_eq_false (by omega)]; simp))
                  clear hv g1
                  go_wp2_with fail
                  go_ret
                  exact ⟨ret_int Hm.out.symm, X4.below⟩
                · have f1 : decide (e.p < 0) = false := decide_eq_false g1
                  by_cases g2 : 100000 < e.p
                  · have f2 : decide (100000 < e.p) = true := decide_eq_true g2
                    have Hm := Lib.hid (Hfq.out (by rw [Hok.out, show decide (e.p ≤ 100000) = false from decide_eq_false (by omega)]; simp))
                    clear hv g1 g2
                    go_wp2_with fail
                    go_ret
                    exact ⟨ret_int Hm.out.symm, X4.below⟩
                  · have f2 : decide (100000 < e.p) = false := decide_eq_false g2
                    have Hgood := Lib.hid (show okEn e = true by rw [Hok.out, hv, show decide (0 ≤ e.p) = true from decide_eq_true (by omega), show decide (e.p ≤ 100000) = true from decide_eq_true (by omega)]; rfl)
                    clear hv g1 g2
                    go_wp2_with fail
                    go_roundw
                    case rel =>
                      refine ⟨q + 1, by omega, by go_num, fun _ => ?_, fun h2 => ?_, HB3.out⟩
                      · rcases (by omega : q = 0 ∨ q = 1) with rfl | rfl
                        · exact (congrArg okEn He.out).trans Hgood.out
                        · exact Hq.out.1 (by omega)
                      · obtain rfl : q = 1 := by omega
                        exact (congrArg okEn He.out).trans Hgood.out
                    case measure => simp [intOf]; omega
            · obtain rfl : q = 2 := by omega
              have Hp := Lib.hid (show okPc (pAt ps k) = true by show (okEn (pAt ps k).a && okEn (pAt ps k).b) = true; rw [hqa (by omega), hqb (by omega)]; rfl)
              have HB3 := Lib.hid (hBB.trans (hB2.mono hBB.size))
              clear hqa hqb hB2
              go_wp2_with fail
              go_roundw
              case rel => exact ⟨k + 1, by omega, by go_num, by rw [Hs.out, Hall.out]; exact Hp.out, HB3.out⟩
              case measure => simp [intOf]; omega
        · obtain rfl : k = n := by omega
          rw [List.take_of_length_le (by have := Hl.out; omega)] at hall
          have Hall := Lib.hid hall
          clear hall
          by_cases g1 : off < 0
          · have e1 : decide (off < 0) = true := decide_eq_true g1
            have Hm := Lib.hid (chkC_arg (c := ⟨ps, off, ⟨lo, hi⟩⟩) Hb.out (by show (ps.all okPc && decide (0 ≤ off) && decide (off ≤ 1000) && okRg (-100000) 100000 ⟨lo, hi⟩) = false; rw [show decide (0 ≤ off) = false from decide_eq_false (by omega)]; simp))
            clear g1
            go_wp2_with fail
            go_ret
            exact ⟨ret_int Hm.out.symm, X1.below⟩
          · have e1 : decide (off < 0) = false := decide_eq_false g1
            by_cases g2 : 1000 < off
            · have e2 : decide (1000 < off) = true := decide_eq_true g2
              have Hm := Lib.hid (chkC_arg (c := ⟨ps, off, ⟨lo, hi⟩⟩) Hb.out (by show (ps.all okPc && decide (0 ≤ off) && decide (off ≤ 1000) && okRg (-100000) 100000 ⟨lo, hi⟩) = false; rw [show decide (off ≤ 1000) = false from decide_eq_false (by omega)]; simp))
              clear g1 g2
              go_wp2_with fail
              go_ret
              exact ⟨ret_int Hm.out.symm, X1.below⟩
            · have e2 : decide (1000 < off) = false := decide_eq_false g2
              have Hz := Lib.hid (show (ps.all okPc && decide (0 ≤ off) && decide (off ≤ 1000) && okRg (-100000) 100000 ⟨lo, hi⟩) = okRg (-100000) 100000 ⟨lo, hi⟩ by rw [Hall.out, show decide (0 ≤ off) = true from decide_eq_true (by omega), show decide (off ≤ 1000) = true from decide_eq_true (by omega)]; simp)
              clear g1 g2
              go_wp2_with fail
              refine (valid49 lo hi (-100000) 100000 _).mono ?_
              rintro e w2 ⟨rfl, rfl⟩
              have X2 := X1.next (below_alloc_ _ (.cells #[.int .i64 lo, .int .i64 hi] 24))
              cases hv : okRg (-100000) 100000 ⟨lo, hi⟩ with
              | true =>
                have Hm := Lib.hid (chkC_ok (c := ⟨ps, off, ⟨lo, hi⟩⟩) Hb.out (Hz.out.trans hv))
                clear hv
                go_wp2_with fail
                go_ret
                exact ⟨ret_int Hm.out.symm, X2.below⟩
              | false =>
                have Hm := Lib.hid (chkC_arg (c := ⟨ps, off, ⟨lo, hi⟩⟩) Hb.out (Hz.out.trans hv))
                clear hv
                go_wp2_with fail
                go_ret
                exact ⟨ret_int Hm.out.symm, X2.below⟩
end Go.Proofs.Ytfmcfalghbaanaa
