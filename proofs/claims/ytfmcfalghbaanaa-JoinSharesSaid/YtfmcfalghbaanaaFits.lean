/- Stage 2: the document's fits. -/
import Derived.Test.YtfmcfalghbaanaaRef
namespace Go.Proofs.Ytfmcfalghbaanaa
set_option linter.unusedSimpArgs false
set_option linter.unusedVariables false
open Go.RowKit

/-- Does the step t fit behind the step s? -/
def fitsB (c : Cy) (s t : St) : Bool :=
  decide (s.p ≠ t.p) && decide ((endE c.ps s).d.lo - (begE c.ps t).d.hi ≤ c.off) && decide ((begE c.ps t).d.lo - (endE c.ps s).d.hi ≤ c.off) &&
    decide (c.step.lo ≤ (begE c.ps t).p - (endE c.ps s).p) && decide ((begE c.ps t).p - (endE c.ps s).p ≤ c.step.hi)

/-- What a valid cylinder's numbers are. -/
theorem chkC_facts {c : Cy} (h : chkC c = 0) : 1 ≤ c.ps.length ∧ c.ps.length ≤ 8 ∧ 0 ≤ c.off ∧ c.off ≤ 1000 ∧ -100000 ≤ c.step.lo ∧ c.step.lo ≤ c.step.hi ∧ c.step.hi ≤ 100000 ∧ c.ps.all okPc = true := by
  unfold chkC at h
  split at h
  · cases h
  · rename_i h1
    split at h
    · rename_i h2
      simp only [Bool.and_eq_true, decide_eq_true_eq, okRg_iff] at h2
      obtain ⟨⟨⟨a, b⟩, c2⟩, d1, d2, d3⟩ := h2
      exact ⟨by omega, by omega, b, c2, d1, d2, d3, a⟩
    · cases h
theorem okEn_facts {e : En} (h : okEn e = true) : 0 ≤ e.d.lo ∧ e.d.lo ≤ e.d.hi ∧ e.d.hi ≤ 1000 ∧ 0 ≤ e.p ∧ e.p ≤ 100000 := by
  rw [okEn_iff] at h
  simp only [Bool.and_eq_true, decide_eq_true_eq, okRg_iff] at h
  omega
theorem pAt_ok {c : Cy} (h : chkC c = 0) {k : Nat} (hk : k < c.ps.length) : okEn (pAt c.ps k).a = true ∧ okEn (pAt c.ps k).b = true := by
  have h1 := (chkC_facts h).2.2.2.2.2.2.2
  have e : pAt c.ps k = c.ps[k] := by simp [pAt, List.getD, hk]
  have h2 := List.all_eq_true.1 h1 _ (List.getElem_mem hk)
  rw [← e] at h2
  simpa [okPc] using h2
theorem beg_ok {c : Cy} (h : chkC c = 0) {k : Nat} (hk : k < c.ps.length) (t : Bool) : okEn (begE c.ps ⟨k, t⟩) = true ∧ okEn (endE c.ps ⟨k, t⟩) = true := by
  have := pAt_ok h hk
  cases t
  · exact ⟨this.1, this.2⟩
  · exact ⟨this.2, this.1⟩

structure Fx (w : World) (B : Nat) (A : Option Addr) (n cap : Nat) (off lo hi : Int) (ps : List Pc) (s t : St) (W : World) : Prop where
  cx : Cx w B A n cap off lo hi ps W
  s0 : W.heap[B + 1]? = some (.cells #[.int .i64 s.p, .bool s.turned] 28 (0, 0))
  t0 : W.heap[B + 2]? = some (.cells #[.int .i64 t.p, .bool t.turned] 28 (0, 0))
theorem Fx.next {w : World} {B : Nat} {A : Option Addr} {n cap : Nat} {off lo hi : Int} {ps : List Pc} {s t : St} {W W' : World} (h : Fx w B A n cap off lo hi ps s t W) (hb : Below W.heap.size W W') : Fx w B A n cap off lo hi ps s t W' :=
  ⟨h.cx.next hb, (hb.block _ (lt_of_block h.s0)).trans h.s0, (hb.block _ (lt_of_block h.t0)).trans h.t0⟩
theorem Fx.new {w : World} {A : Option Addr} {n cap : Nat} {off lo hi : Int} {ps : List Pc} {s t : St} (h : Pcs w A n ps) :
    Fx w w.heap.size A n cap off lo hi ps s t (((w.alloc (.cells #[.slice A n cap, .int .i64 off, .int .i64 lo, .int .i64 hi] 26)).alloc (.cells #[.int .i64 s.p, .bool s.turned] 28)).alloc (.cells #[.int .i64 t.p, .bool t.turned] 28)) :=
  ⟨((Cx.new h).next (below_alloc_ _ _)).next (below_alloc_ _ _), hal_old (hal_new (by simp)), hal_new (by simp)⟩
theorem Fx.c {w : World} {B : Nat} {A : Option Addr} {n cap : Nat} {off lo hi : Int} {ps : List Pc} {s t : St} {W : World} (h : Fx w B A n cap off lo hi ps s t W) :
    W.cell? ⟨B + 1, 0, none⟩ = some (.int .i64 s.p) ∧ W.cell? ⟨B + 1, 1, none⟩ = some (.bool s.turned) ∧ W.cell? ⟨B + 2, 0, none⟩ = some (.int .i64 t.p) ∧ W.cell? ⟨B + 2, 1, none⟩ = some (.bool t.turned) ∧ B + 1 < W.heap.size ∧ B + 2 < W.heap.size :=
  ⟨by rw [cell_row h.s0]; rfl, by rw [cell_row h.s0]; rfl, by rw [cell_row h.t0]; rfl, by rw [cell_row h.t0]; rfl, lt_of_block h.s0, lt_of_block h.t0⟩

set_option maxRecDepth 100000 in
set_option maxHeartbeats 4000000 in
theorem fits46 (A : Option Addr) (n cap k l : Nat) (off lo hi : Int) (u v : Bool) (ps : List Pc) (w : World) (h : Pcs w A n ps) (hk : k < n) (hl : l < n) (hv : chkC ⟨ps, off, ⟨lo, hi⟩⟩ = 0) :
    Calls Try.prog 46 #[cyl A n cap off lo hi, .agg #[.int .i64 (k : Int), .bool u], .agg #[.int .i64 (l : Int), .bool v]] w fun e w' => e = .returned (.bool (fitsB ⟨ps, off, ⟨lo, hi⟩⟩ ⟨k, u⟩ ⟨l, v⟩)) ∧ Below w.heap.size w w' := by
  have X := Fx.new (cap := cap) (off := off) (lo := lo) (hi := hi) (s := ⟨k, u⟩) (t := ⟨l, v⟩) h
  have hlen := h.1
  have bx := okEn_facts (beg_ok hv (show k < ps.length by omega) u).2
  have bY := okEn_facts (beg_ok hv (show l < ps.length by omega) v).1
  obtain ⟨x, hx⟩ : ∃ x, endE ps ⟨k, u⟩ = x := ⟨_, rfl⟩
  obtain ⟨y, hy⟩ : ∃ y, begE ps ⟨l, v⟩ = y := ⟨_, rfl⟩
  have hfb := chkC_facts hv
  have Hf := Lib.hid (show fitsB ⟨ps, off, ⟨lo, hi⟩⟩ ⟨k, u⟩ ⟨l, v⟩ = (decide ((k : Int) ≠ (l : Int)) && decide (x.d.lo - y.d.hi ≤ off) && decide (y.d.lo - x.d.hi ≤ off) && decide (lo ≤ y.p - x.p) && decide (y.p - x.p ≤ hi)) by rw [← hx, ← hy]; rfl)
  simp only at bx bY hfb
  rw [hx] at bx
  rw [hy] at bY
  have Hx := Lib.hid hx
  have Hy := Lib.hid hy
  have Hk := Lib.hid hk
  have Hl := Lib.hid hl
  obtain ⟨u1, u2, u3, u4, u5⟩ := bx
  obtain ⟨v1, v2, v3, v4, v5⟩ := bY
  obtain ⟨_, _, g1, g2, g3, g4, g5, _⟩ := hfb
  have wp : IntKind.i64.wrap (y.p - x.p) = y.p - x.p := IntWalk.i64_in _ (by omega)
  have w1 : IntKind.i64.wrap (x.d.lo - y.d.hi) = x.d.lo - y.d.hi := IntWalk.i64_in _ (by omega)
  have w2 : IntKind.i64.wrap (y.d.lo - x.d.hi) = y.d.lo - x.d.hi := IntWalk.i64_in _ (by omega)
  clear h hk hl hv hlen hx hy
  unfold cyl
  obtain ⟨B, hB⟩ : ∃ B, w.heap.size = B := ⟨_, rfl⟩
  rw [hB] at X
  obtain ⟨W1, hW1⟩ : ∃ W1, (((w.alloc (.cells #[.slice A n cap, .int .i64 off, .int .i64 lo, .int .i64 hi] 26)).alloc (.cells #[.int .i64 (k : Int), .bool u] 28)).alloc (.cells #[.int .i64 (l : Int), .bool v] 28)) = W1 := ⟨_, rfl⟩
  rw [hW1] at X
  have HW1 := Lib.hid hW1
  clear hW1
  obtain ⟨c0, c1, c2, c3, l0⟩ := X.cx.c
  obtain ⟨s0, s1, t0, t1, l1, l2⟩ := X.c
  go_enter Try.func46, Try.ntmps46
  go_upto_region 1 with fail
  rw [HW1.out]
  clear hB
  go_wp2_with fail
  refine (ends66 A n cap k off lo hi u ps _ X.cx.pcs Hk.out).mono ?_
  rintro e w3 ⟨rfl, hb⟩
  rw [Hx.out]
  have X2 := X.next hb
  clear X hb c0 c1 c2 c3 s0 s1 t0 t1 l0 l1 l2
  obtain ⟨bg, hbg⟩ : ∃ bg, begE ps ⟨k, u⟩ = bg := ⟨_, rfl⟩
  rw [hbg]
  clear hbg
  unfold enV
  obtain ⟨c0, c1, c2, c3, l0⟩ := X2.cx.c
  obtain ⟨s0, s1, t0, t1, l1, l2⟩ := X2.c
  go_wp2_with fail
  have X3 := (X2.next (below_alloc_ w3 (.cells #[.int .i64 bg.d.lo, .int .i64 bg.d.hi, .int .i64 bg.p] 59))).next (below_alloc_ _ (.cells #[.int .i64 x.d.lo, .int .i64 x.d.hi, .int .i64 x.p] 59))
  have r3 : ((w3.alloc (.cells #[.int .i64 bg.d.lo, .int .i64 bg.d.hi, .int .i64 bg.p] 59)).alloc (.cells #[.int .i64 x.d.lo, .int .i64 x.d.hi, .int .i64 x.p] 59)).heap[w3.heap.size + 1]? = some (.cells #[.int .i64 x.d.lo, .int .i64 x.d.hi, .int .i64 x.p] 59 (0, 0)) := hal_new (by simp)
  obtain ⟨W4, hW4⟩ : ∃ W4, (w3.alloc (.cells #[.int .i64 bg.d.lo, .int .i64 bg.d.hi, .int .i64 bg.p] 59)).alloc (.cells #[.int .i64 x.d.lo, .int .i64 x.d.hi, .int .i64 x.p] 59) = W4 := ⟨_, rfl⟩
  rw [hW4] at X3 r3 ⊢
  obtain ⟨Qx, hQx⟩ : ∃ Qx, w3.heap.size + 1 = Qx := ⟨_, rfl⟩
  rw [hQx] at r3 ⊢
  clear X2 hW4 hQx c0 c1 c2 c3 s0 s1 t0 t1 l0 l1 l2
  refine (ends66 A n cap l off lo hi v ps _ X3.cx.pcs Hl.out).mono ?_
  rintro e w5 ⟨rfl, hb⟩
  rw [Hy.out]
  have X5 := X3.next hb
  have r5 := (hb.block _ (lt_of_block r3)).trans r3
  clear X3 hb r3
  obtain ⟨en, hen⟩ : ∃ en, endE ps ⟨l, v⟩ = en := ⟨_, rfl⟩
  rw [hen]
  clear hen
  unfold enV
  go_upto_region 3 with fail
  have X6 := (X5.next (below_alloc_ w5 (.cells #[.int .i64 y.d.lo, .int .i64 y.d.hi, .int .i64 y.p] 59))).next (below_alloc_ _ (.cells #[.int .i64 en.d.lo, .int .i64 en.d.hi, .int .i64 en.p] 59))
  have r6 : ((w5.alloc (.cells #[.int .i64 y.d.lo, .int .i64 y.d.hi, .int .i64 y.p] 59)).alloc (.cells #[.int .i64 en.d.lo, .int .i64 en.d.hi, .int .i64 en.p] 59)).heap[w5.heap.size]? = some (.cells #[.int .i64 y.d.lo, .int .i64 y.d.hi, .int .i64 y.p] 59 (0, 0)) := hal_old (hal_new rfl)
  have r7 := hal_old (o := .cells #[.int .i64 en.d.lo, .int .i64 en.d.hi, .int .i64 en.p] 59) (hal_old (o := .cells #[.int .i64 y.d.lo, .int .i64 y.d.hi, .int .i64 y.p] 59) r5)
  obtain ⟨W6, hW6⟩ : ∃ W6, (w5.alloc (.cells #[.int .i64 y.d.lo, .int .i64 y.d.hi, .int .i64 y.p] 59)).alloc (.cells #[.int .i64 en.d.lo, .int .i64 en.d.hi, .int .i64 en.p] 59) = W6 := ⟨_, rfl⟩
  rw [hW6] at X6 r6 r7 ⊢
  obtain ⟨Qy, hQy⟩ : ∃ Qy, w5.heap.size = Qy := ⟨_, rfl⟩
  rw [hQy] at r6 ⊢
  clear X5 hW6 hQy r5
  obtain ⟨c0, c1, c2, c3, l0⟩ := X6.cx.c
  obtain ⟨s0, s1, t0, t1, l1, l2⟩ := X6.c
  obtain ⟨x0, x1, x2, _⟩ := three_cells r7
  obtain ⟨y0, y1, y2, _⟩ := three_cells r6
  by_cases n1 : (k : Int) = (l : Int)
  · have D1 := Lib.hid (show decide ((k : Int) ≠ (l : Int)) = false from decide_eq_false (fun h => h n1))
    have d1 : ((k : Int) != (l : Int)) = false := by rw [bne_eq_false_iff_eq]; exact n1
    clear n1
    go_wp2_with fail
    go_ret
    exact ⟨ret_bool (by rw [Hf.out, D1.out]; simp), X6.cx.below⟩
  · have D1 := Lib.hid (show decide ((k : Int) ≠ (l : Int)) = true from decide_eq_true n1)
    have d1 : ((k : Int) != (l : Int)) = true := by rw [bne_iff_ne]; exact n1
    clear n1
    by_cases n2 : x.d.lo - y.d.hi ≤ off
    · have d2 : decide (x.d.lo - y.d.hi ≤ off) = true := decide_eq_true n2
      have D2 := Lib.hid d2
      clear n2
      by_cases n3 : y.d.lo - x.d.hi ≤ off
      · have d3 : decide (y.d.lo - x.d.hi ≤ off) = true := decide_eq_true n3
        have D3 := Lib.hid d3
        clear n3
        by_cases n4 : lo ≤ y.p - x.p
        · have d4 : decide (lo ≤ y.p - x.p) = true := decide_eq_true n4
          have D4 := Lib.hid d4
          clear n4
          by_cases n5 : y.p - x.p ≤ hi
          · have d5 : decide (y.p - x.p ≤ hi) = true := decide_eq_true n5
            have D5 := Lib.hid d5
            clear n5
            go_wp2_with fail
            go_ret
            exact ⟨ret_bool (by rw [Hf.out, D1.out, D2.out, D3.out, D4.out, D5.out]; simp), X6.cx.below⟩
          · have d5 : decide (y.p - x.p ≤ hi) = false := decide_eq_false n5
            have D5 := Lib.hid d5
            clear n5
            go_wp2_with fail
            go_ret
            exact ⟨ret_bool (by rw [Hf.out, D1.out, D2.out, D3.out, D4.out, D5.out]; simp), X6.cx.below⟩
        · have d4 : decide (lo ≤ y.p - x.p) = false := decide_eq_false n4
          have D4 := Lib.hid d4
          clear n4
          go_wp2_with fail
          go_ret
          exact ⟨ret_bool (by rw [Hf.out, D1.out, D2.out, D3.out, D4.out]; simp), X6.cx.below⟩
      · have d3 : decide (y.d.lo - x.d.hi ≤ off) = false := decide_eq_false n3
        have D3 := Lib.hid d3
        clear n3
        go_wp2_with fail
        go_ret
        exact ⟨ret_bool (by rw [Hf.out, D1.out, D2.out, D3.out]; simp), X6.cx.below⟩
    · have d2 : decide (x.d.lo - y.d.hi ≤ off) = false := decide_eq_false n2
      have D2 := Lib.hid d2
      clear n2
      go_wp2_with fail
      go_ret
      exact ⟨ret_bool (by rw [Hf.out, D1.out, D2.out]; simp), X6.cx.below⟩
end Go.Proofs.Ytfmcfalghbaanaa
