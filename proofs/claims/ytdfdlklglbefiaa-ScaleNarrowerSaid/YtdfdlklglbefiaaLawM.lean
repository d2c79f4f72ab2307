/- Stage 3: the law ScaleNarrower. -/
import Derived.Test.YtdfdlklglbefiaaBy
namespace Go.Proofs.Ytdfdlklglbefiaa
set_option linter.unusedSimpArgs false
set_option linter.unusedVariables false
open Go.RowKit Go.Shelf
/-! Mathematics. -/
theorem right_set {zs : List Rg} {k : Nat} {r : Rg} {st : List Int} (hk : k < zs.length) (h1 : (gAt zs k).lo ≤ r.lo) (h2 : r.hi ≤ (gAt zs k).hi) (h : right (zs.set k r) st) : right zs st := by
  rw [right_at] at h ⊢
  intro j hj
  have h3 := h j (by rw [List.length_set]; exact hj)
  rw [gAt_set _ hk] at h3
  by_cases e : k = j
  · subst e
    rw [if_pos rfl] at h3
    obtain ⟨y, hy, a, b⟩ := meets_iff.1 h3
    exact meets_iff.2 ⟨y, hy, by omega, by omega⟩
  · rwa [if_neg e] at h3
theorem meets_put {st : List Int} {q : Rg} {v : Int} (h : meets st q = true) : meets (putL st v) q = true := by
  obtain ⟨y, hy, a, b⟩ := meets_iff.1 h
  exact meets_iff.2 ⟨y, putL_mem.2 (.inr hy), a, b⟩
theorem right_put {zs : List Rg} {k : Nat} {r : Rg} {st : List Int} (hk : k < zs.length) (hr : r.lo ≤ r.hi) (h : right zs st) : right (zs.set k r) (putL st r.lo) := by
  rw [right_at] at h ⊢
  intro j hj
  rw [List.length_set] at hj
  rw [gAt_set _ hk]
  split
  · exact meets_iff.2 ⟨r.lo, putL_mem.2 (.inl rfl), Int.le_refl _, hr⟩
  · exact meets_put (h j hj)
theorem narrow_len {zs : List Rg} {k : Nat} {r : Rg} {a b : List Int} (ho : Ok zs) (hk : k < zs.length) (h1 : (gAt zs k).lo ≤ r.lo) (h2 : r.hi ≤ (gAt zs k).hi) (hr : r.lo ≤ r.hi) (ha : IsUp zs a) (hb : IsUp (zs.set k r) b) : a.length ≤ b.length ∧ b.length ≤ a.length + 1 := by
  have ho2 : Ok (zs.set k r) := fun q hq => by
    rcases List.mem_or_eq_of_mem_set hq with h | rfl
    · exact ho q h
    · exact hr
  refine ⟨ha.len_le (hb.incr ho2) (right_set hk h1 h2 hb.right), ?_⟩
  have := hb.len_le (putL_incr (ha.incr ho) r.lo) (right_put hk hr ha.right)
  have := putL_len a r.lo (ha.incr ho)
  omega
theorem more_len {zs : List Rg} {r : Rg} {a c : List Int} (ho : Ok (zs ++ [r])) (ha : IsUp zs a) (hc : IsUp (zs ++ [r]) c) : a.length ≤ c.length ∧ c.length ≤ a.length + 1 := by
  have ho1 : Ok zs := fun q hq => ho q (List.mem_append_left _ hq)
  refine ⟨ha.len_le (hc.incr ho) (fun q hq => hc.right q (List.mem_append_left _ hq)), ?_⟩
  have := hc.len_le (putL_incr (ha.incr ho1) r.lo) (fun q hq => by
    rcases List.mem_append.1 hq with h | h
    · exact meets_put (ha.right q h)
    · rw [List.mem_singleton.1 h]
      exact meets_iff.2 ⟨r.lo, putL_mem.2 (.inl rfl), Int.le_refl _, ho r (by simp)⟩)
  have := putL_len a r.lo (ha.incr ho1)
  omega
theorem chkS_set {zs : List Rg} {k : Nat} {r : Rg} (h : chkS zs = 0) (hr : okZ r = true) : chkS (zs.set k r) = 0 := by
  have := chkS_zero.1 h
  rw [chkS_zero, List.length_set]
  refine ⟨this.1, this.2.1, ?_⟩
  unfold validZ
  rw [List.all_eq_true]
  intro q hq
  rcases List.mem_or_eq_of_mem_set hq with h1 | rfl
  · exact List.all_eq_true.1 this.2.2 q h1
  · exact hr
theorem set_same_ {l : List Value} {i : Nat} {x : Value} (h : l[i]? = some x) : l.set i x = l := by
  refine List.ext_getElem? fun j => ?_
  rw [List.getElem?_set]
  split
  · next e => subst e; rw [if_pos (List.getElem?_eq_some_iff.1 h).1, h]
  · rfl
theorem RowR.putLo {W : World} {S : Nat} {ys : List Rg} (h : RowR W S ys) {j : Nat} (hj : j < ys.length) (v : Int) : RowR (W.setCell ⟨S, j * 2, none⟩ (.int .i64 v)) S (ys.set j ⟨v, (gAt ys j).hi⟩) := by
  obtain ⟨rest, h⟩ := h
  have hl := flatR_len ys
  refine ⟨rest, ?_⟩
  have hf := (flatR_at ys j hj).2
  have e : (flatR ys).set (j * 2) (.int .i64 v) = flatR (ys.set j ⟨v, (gAt ys j).hi⟩) := by
    rw [← flatR_set ys j _ hj]
    exact (set_same_ (by rw [List.getElem?_set_ne (by omega)]; exact hf)).symm
  rw [set_same _ _ h, ← e]
  simp only [List.setIfInBounds_toArray]
  rw [List.set_append_left _ _ (by omega)]
theorem RowR.putHi {W : World} {S : Nat} {ys : List Rg} (h : RowR W S ys) {j : Nat} (hj : j < ys.length) (v : Int) : RowR (W.setCell ⟨S, j * 2 + 1, none⟩ (.int .i64 v)) S (ys.set j ⟨(gAt ys j).lo, v⟩) := by
  obtain ⟨rest, h⟩ := h
  have hl := flatR_len ys
  refine ⟨rest, ?_⟩
  have hf := (flatR_at ys j hj).1
  have e : (flatR ys).set (j * 2 + 1) (.int .i64 v) = flatR (ys.set j ⟨(gAt ys j).lo, v⟩) := by
    rw [← flatR_set ys j _ hj]
    congr 1
    exact (set_same_ hf).symm
  rw [set_same _ _ h, ← e]
  simp only [List.setIfInBounds_toArray]
  rw [List.set_append_left _ _ (by omega)]
theorem RowR.lo_ {W : World} {S : Nat} {ys : List Rg} (h : RowR W S ys) {j : Nat} (hj : j < ys.length) : W.cell? ⟨S, j * 2, none⟩ = some (.int .i64 (gAt ys j).lo) := by
  obtain ⟨rest, h⟩ := h
  have hl := flatR_len ys
  rw [cell_row h, List.getElem?_toArray, List.getElem?_append_left (by omega)]
  exact (flatR_at ys j hj).1
theorem RowR.hi_ {W : World} {S : Nat} {ys : List Rg} (h : RowR W S ys) {j : Nat} (hj : j < ys.length) : W.cell? ⟨S, j * 2 + 1, none⟩ = some (.int .i64 (gAt ys j).hi) := by
  obtain ⟨rest, h⟩ := h
  have hl := flatR_len ys
  rw [cell_row h, List.getElem?_toArray, List.getElem?_append_left (by omega)]
  exact (flatR_at ys j hj).2
theorem narrow_rg {gl gh a b : Int} (h : gl ≤ gh) (ha : 0 ≤ a) (hb : 0 ≤ b) : gl ≤ min gh (gl + a) ∧ max (min gh (gl + a)) (gh - b) ≤ gh ∧ min gh (gl + a) ≤ max (min gh (gl + a)) (gh - b) := by omega
attribute [local go_sem ↓] exec_app

set_option maxRecDepth 100000 in
set_option maxHeartbeats 40000000 in
theorem narrower9 (A : Option Addr) (n cap : Nat) (zs : List Rg) (x : Nat) (a b : Int) (more : Rg) (w : World) (h : Rgs w A n zs) (hn : n ≤ 9223372036854775807) (hx : x ≤ 255) (ha : 0 ≤ a ∧ a ≤ 65535) (hb : 0 ≤ b ∧ b ≤ 65535) (hmr : True) : Calls Try.prog 9 #[.slice A n cap, .int .u8 (x : Int), .agg #[.int .u16 a, .int .u16 b], .agg #[.int .i64 more.lo, .int .i64 more.hi]] w fun en w' => en = .returned (.bool true) ∧ Below w.heap.size w w' := by
  have HZl := Lib.hid h.1
  obtain ⟨P, hP⟩ : ∃ P, w.heap.size = P := ⟨_, rfl⟩
  have hk0 : Keeps (fun _ => False) w ((w.alloc (.cells #[.int .u16 a, .int .u16 b] 60)).alloc (.cells #[.int .i64 more.lo, .int .i64 more.hi] 56)) := (keep_alloc _ _ _).trans (keep_alloc _ _ _)
  have r6 : ((w.alloc (.cells #[.int .u16 a, .int .u16 b] 60)).alloc (.cells #[.int .i64 more.lo, .int .i64 more.hi] 56)).heap[P]? = some (.cells #[.int .u16 a, .int .u16 b] 60 (0, 0)) := by rw [← hP]; exact hal_old (heap_alloc_new_ _ _)
  have r7 : ((w.alloc (.cells #[.int .u16 a, .int .u16 b] 60)).alloc (.cells #[.int .i64 more.lo, .int .i64 more.hi] 56)).heap[P + 1]? = some (.cells #[.int .i64 more.lo, .int .i64 more.hi] 56 (0, 0)) := by rw [← hP]; exact hal_new (by simp)
  obtain ⟨w0, hw0⟩ : ∃ w0, (w.alloc (.cells #[.int .u16 a, .int .u16 b] 60)).alloc (.cells #[.int .i64 more.lo, .int .i64 more.hi] 56) = w0 := ⟨_, rfl⟩
  rw [hw0] at hk0 r6 r7
  have S := Lib.hid (h.below hk0.new (Nat.le_refl _))
  have B0 := Lib.hid hk0.new
  have R6 := Lib.hid r6
  have R7 := Lib.hid r7
  have HP := Lib.hid hP
  have HW0 := Lib.hid hw0
  clear h hk0 r6 r7 hP hw0
  by_cases hz : chkS zs = 0
  rotate_left
  · have d1 : decide (chkS zs = 0) = false := decide_eq_false hz
    clear hz
    go_enter Try.func9, Try.ntmps9
    go_wp2_with fail
    rw [HW0.out]
    try rw [HP.out]
    have hc := fine35 A n cap zs w0 S.out hn
    rw [d1] at hc
    refine hc.mono ?_
    rintro en w1 ⟨rfl, hb⟩
    replace S := Lib.hid (S.out.below hb (Nat.le_refl _))
    replace B0 := Lib.hid (B0.out.trans (hb.mono B0.out.size))
    replace R6 := Lib.hid ((hb.block _ (lt_of_block R6.out)).trans R6.out)
    replace R7 := Lib.hid ((hb.block _ (lt_of_block R7.out)).trans R7.out)
    clear hc hb d1
    go_wp2_with fail
    refine (works15 _).mono ?_
    rintro en wz ⟨rfl, hb⟩
    have B2 := Lib.hid (B0.out.trans (hb.mono B0.out.size))
    clear hb
    go_wp2_with fail
    go_ret
    exact ⟨rfl, B2.out⟩
  · have d1 : decide (chkS zs = 0) = true := decide_eq_true hz
    have HZ := Lib.hid hz
    have hl24 := len_of hz
    rw [HZl.out] at hl24
    have hn1 : 1 ≤ n := hl24.1
    have hmk := Lib.hid hmr
    have S0 := S
    have B1 := Lib.hid (Below.refl w0.heap.size w0)
    clear hz hmr
    obtain ⟨k, hk⟩ : ∃ k : Nat, k = x % n := ⟨_, rfl⟩
    have hkn : k < n := by rw [hk]; exact Nat.mod_lt _ (by omega)
    have e1 : (x : Int) % (n : Int) = (k : Int) := by rw [hk]; exact (Int.natCast_emod x n).symm
    have e2 : (x : Int).tmod (n : Int) = (k : Int) := by rw [Int.tmod_eq_emod_of_nonneg (by omega)]; exact e1
    have dm : ((n : Int) == 0) = false := by rw [beq_eq_false_iff_ne]; omega
    have hx0 : (0 : Int) ≤ (x : Int) := by omega
    clear hk
    go_enter Try.func9, Try.ntmps9
    go_wp2_with fail
    rw [HW0.out]
    try rw [HP.out]
    have hc := fine35 A n cap zs w0 S.out hn
    rw [d1] at hc
    refine hc.mono ?_
    rintro en w11 ⟨rfl, hb⟩
    replace B1 := Lib.hid (B1.out.trans (hb.mono B1.out.size))
    clear hc hb d1
    go_wp2_with fail
    obtain ⟨g, cp, w12, hrun, hown, hKp, hg⟩ := app_cpR (cap := cap) (heap_alloc_new_ w11 (.cells #[] 56)) (S0.out.below (B1.out.trans ((below_alloc_ _ _).mono B1.out.size)) (Nat.le_refl _)) hn1 (by omega)
    have hb : Below w11.heap.size w11 w12 := (below_alloc_ w11 (.cells #[] 56)).trans (hKp.below (below_alloc_ w11 (.cells #[] 56)).size (fun j hj e => by omega))
    have HG := Lib.hid (show w0.heap.size ≤ g by have := B1.out.size; have := (below_alloc_ w11 (.cells #[] 56)).size; rcases hg with h | ⟨h, _⟩ <;> omega)
    have hrow := rowR_own hn1 hown
    have Row := Lib.hid hrow
    replace B1 := Lib.hid (B1.out.trans (hb.mono B1.out.size))
    clear hown hKp hg hrow hb
    go_wp2_with fail
    try rw [hrun]
    go_wp2_with fail
    clear hrun e1 e2 dm hx0
    have Hok := Lib.hid (okZ_iff.1 (List.all_eq_true.1 (chkS_ok HZ.out).1 (gAt zs k) (by rw [gAt_eq (by rw [HZl.out]; exact hkn)]; exact List.getElem_mem _)))
    have HKL := Lib.hid (show k < zs.length by rw [HZl.out]; exact hkn)
    obtain ⟨k0, k1, k2⟩ := Hok.out
    have i0 : (0 : Int) ≤ (k : Int) := by omega
    have i1 : (k : Int) < (n : Int) := by omega
    have z0 : w12.cell? ⟨g, k * 2, none⟩ = some (.int .i64 (gAt zs k).lo) := Row.out.lo_ HKL.out
    have z1 : w12.cell? ⟨g, k * 2 + 1, none⟩ = some (.int .i64 (gAt zs k).hi) := Row.out.hi_ HKL.out
    have zf := Row.out.fz (k * 2)
    have a0 : w12.cell? ⟨P, 0, none⟩ = some (.int .u16 a) := by rw [cell_row ((B1.out.block _ (lt_of_block R6.out)).trans R6.out)]; rfl
    obtain ⟨gl, hgl⟩ : ∃ gl, (gAt zs k).lo = gl := ⟨_, rfl⟩
    obtain ⟨gh, hgh⟩ : ∃ gh, (gAt zs k).hi = gh := ⟨_, rfl⟩
    rw [hgl] at z0 k0 k1
    rw [hgh] at z1 k1 k2
    have HGL := Lib.hid hgl
    have HGH := Lib.hid hgh
    clear hgl hgh
    go_still_tail 19, (by kernel_rfl)
    go_wp2_with fail
    have HM := narrow_rg (b := b) k1 ha.1 hb.1
    obtain ⟨lo, hlo⟩ : ∃ lo, min gh (gl + a) = lo := ⟨_, rfl⟩
    rw [hlo]
    have hrow := Row.out.putLo HKL.out lo
    have hkb := B1.out.trans ((keeps_setCell w12 g (k * 2) (.int .i64 lo)).below B1.out.size (fun j hj e => by have := HG.out; omega))
    obtain ⟨w13, hw⟩ : ∃ w13, (w12.setCell ⟨g, k * 2, none⟩ (.int .i64 lo)).drew = w13 := ⟨_, rfl⟩
    have hb1 : Below w0.heap.size w0 w13 := by rw [← hw]; exact hkb.trans ((drew_b _ 1).mono hkb.size)
    replace B1 := Lib.hid hb1
    clear hb1 hkb
    rw [hlo] at HM
    obtain ⟨m1, m2, m3⟩ := HM
    clear hlo
    replace hrow : RowR w13 g (zs.set k ⟨lo, (gAt zs k).hi⟩) := by rw [← hw]; exact hrow
    rw [hw]
    clear hw z0 z1 zf a0
    have HKS := Lib.hid (show k < (zs.set k ⟨lo, (gAt zs k).hi⟩).length by rw [List.length_set]; exact HKL.out)
    have z0 := hrow.lo_ HKS.out
    have z1 := hrow.hi_ HKS.out
    rw [gAt_set _ HKL.out, if_pos rfl] at z0 z1
    dsimp only at z0 z1
    rw [HGH.out] at z1
    replace Row := Lib.hid hrow
    clear hrow
    have zf := Row.out.fz (k * 2 + 1)
    have a1 : w13.cell? ⟨P, 1, none⟩ = some (.int .u16 b) := by rw [cell_row ((B1.out.block _ (lt_of_block R6.out)).trans R6.out)]; rfl
    have m4 : gl ≤ lo := m1
    have m5 : lo ≤ gh := Int.le_trans m3 m2
    have l0 : 0 ≤ lo := Int.le_trans k0 m1
    have l1 : lo ≤ 10000 := Int.le_trans m5 k2
    have h0 : 0 ≤ gh := Int.le_trans k0 k1
    go_still_tail 19, (by kernel_rfl)
    go_wp2_with fail
    obtain ⟨hi, hhi⟩ : ∃ hi, max lo (gh - b) = hi := ⟨_, rfl⟩
    rw [hhi]
    have hrow := Row.out.putHi HKS.out hi
    have hkb := B1.out.trans ((keeps_setCell w13 g (k * 2 + 1) (.int .i64 hi)).below B1.out.size (fun j hj e => by have := HG.out; omega))
    obtain ⟨w14, hw⟩ : ∃ w14, (w13.setCell ⟨g, k * 2 + 1, none⟩ (.int .i64 hi)).drew = w14 := ⟨_, rfl⟩
    have hb1 : Below w0.heap.size w0 w14 := by rw [← hw]; exact hkb.trans ((drew_b _ 1).mono hkb.size)
    replace B1 := Lib.hid hb1
    clear hb1 hkb
    rw [hhi] at m2 m3
    clear hhi
    replace hrow : RowR w14 g (zs.set k ⟨lo, hi⟩) := by
      rw [← hw]
      rw [gAt_set _ HKL.out, if_pos rfl, List.set_set] at hrow
      exact hrow
    rw [hw]
    clear hw z0 z1 zf a1 Row
    have HZ2 := Lib.hid (chkS_set (k := k) (r := ⟨lo, hi⟩) HZ.out (okZ_iff.2 ⟨l0, m3, Int.le_trans m2 k2⟩))
    have NL := Lib.hid (fun xa xb => narrow_len (r := ⟨lo, hi⟩) (a := xa) (b := xb) (ok_of HZ.out) HKL.out (by rw [HGL.out]; exact m1) (by rw [HGH.out]; exact m2) m3)
    have hrx := hrow.rgs
    rw [List.length_set, HZl.out] at hrx
    have X := Lib.hid hrx
    obtain ⟨zx, hzx⟩ : ∃ zx, zs.set k ⟨lo, hi⟩ = zx := ⟨_, rfl⟩
    rw [hzx] at HZ2 NL X
    clear hzx hrx hrow HKS Hok HGL HGH i0 i1 k0 k1 k2 m1 m2 m3 m4 m5 l0 l1 h0
    go_wp2_with fail
    refine (fewest25 A n cap zs w14 (S0.out.below B1.out (Nat.le_refl _))).mono ?_
    rintro en w15 ⟨hb9, hor⟩
    replace B1 := Lib.hid (B1.out.trans (hb9.mono B1.out.size))
    replace X := Lib.hid (X.out.below hb9 (Nat.le_refl _))
    clear hb9
    obtain ⟨hz, xa, Dxa, cpxa, hx9, rfl, hi9, hf9⟩ | ⟨h0, _⟩ := hor
    rotate_left
    · exact absurd HZ.out h0
    have Uxa := Lib.hid (hx9.up (ok_of hz))
    have lxa := up_len hz Uxa.out
    obtain ⟨nxa, hnxa⟩ : ∃ nxa, xa.length = nxa := ⟨_, rfl⟩
    rw [hnxa] at lxa ⊢
    have Hxa := Lib.hid hnxa
    clear hz hx9 hi9 hf9 hnxa
    rw [HZl.out] at lxa
    go_wp2_with fail
    refine (fewest25 (some ⟨g, 0, none⟩) n cp zx w15 X.out).mono ?_
    rintro en w16 ⟨hb9, hor⟩
    replace B1 := Lib.hid (B1.out.trans (hb9.mono B1.out.size))
    replace X := Lib.hid (X.out.below hb9 (Nat.le_refl _))
    clear hb9
    obtain ⟨hz, xb, Dxb, cpxb, hx9, rfl, hi9, hf9⟩ | ⟨h0, _⟩ := hor
    rotate_left
    · exact absurd HZ2.out h0
    have Uxb := Lib.hid (hx9.up (ok_of hz))
    have lxb := up_len hz Uxb.out
    obtain ⟨nxb, hnxb⟩ : ∃ nxb, xb.length = nxb := ⟨_, rfl⟩
    rw [hnxb] at lxb ⊢
    have Hxb := Lib.hid hnxb
    clear hz hx9 hi9 hf9 hnxb
    have hl := NL.out xa xb Uxa.out Uxb.out
    rw [Hxa.out, Hxb.out] at hl
    obtain ⟨hl1, hl2⟩ := hl
    clear lxb NL Uxb Hxb X HZ2
    have hl3 : nxb ≤ 25 := by omega
    have hl4 : nxa ≤ 24 := by omega
    have hl5 : ¬ (nxb : Int) < (nxa : Int) := by omega
    have hl6 : ¬ (nxa : Int) + 1 < (nxb : Int) := by omega
    have hl7 : (nxb : Int) ≤ (nxa : Int) + 1 := by omega
    go_wp2_with fail
    clear hl1 hl2 hl3 hl5 hl6 hl7
    have S1 := Lib.hid (S0.out.below B1.out (Nat.le_refl _))
    replace S := S1
    clear S1
    have r7 := (B1.out.block _ (lt_of_block R7.out)).trans R7.out
    have c0 : w16.cell? ⟨P + 1, 0, none⟩ = some (.int .i64 more.lo) := by rw [cell_row r7]; rfl
    have c1 : w16.cell? ⟨P + 1, 1, none⟩ = some (.int .i64 more.hi) := by rw [cell_row r7]; rfl
    clear r7
    generalize decide ((nxa : Int) + 1 < (nxb : Int)) = q2
    generalize decide (nxb < nxa) = q1
    generalize (q1 || q2) = q3
    go_cut [15] from 99 to 104 (fun v15 wx => ∃ C9 cp9, v15 = .slice C9 (n + 1) cp9 ∧ Rgs wx C9 (n + 1) (zs ++ [more]) ∧ Below w16.heap.size w16 wx)
    case first =>
      refine wp_region_held_drew (S := fun w2 => Below w16.heap.size w16 w2) (by kernel_rfl) (drew_b _ _) (fun hS0 => ?_)
      refine wpAnyH_take (i := 1) (oi := { dst := some 100, op := Go.Op.move (Go.Operand.tmp 0), type := 22, pos := "outright.go:116", after := #[], guard := none }) (v := .slice A n cap) rfl (by kernel_rfl) (by kernel_rfl) (by kernel_rfl) (fun _ _ _ h => h) (Or.inl ⟨by rfl, by intro w2 hSw; (try dsimp only at hSw); have e0 := (hSw.cell (p := ⟨P + 1, 0, none⟩) (lt_of_cell c0)).trans c0; have e1 := (hSw.cell (p := ⟨P + 1, 1, none⟩) (lt_of_cell c1)).trans c1; go_simp⟩) hS0 ?_
      try simp only [Act.put, List.setIfInBounds_toArray, List.set_cons_zero, List.set_cons_succ]
      refine wpAnyH_take (i := 3) (oi := { dst := some 102, op := Go.Op.load 56 (Go.Operand.tmp 7), type := 56, pos := "outright.go:116", after := #[], guard := none }) (v := .agg #[.int .i64 more.lo, .int .i64 more.hi]) rfl (by kernel_rfl) (by kernel_rfl) (by kernel_rfl) (fun _ _ _ h => h) (Or.inl ⟨by rfl, by intro w2 hSw; (try dsimp only at hSw); have e0 := (hSw.cell (p := ⟨P + 1, 0, none⟩) (lt_of_cell c0)).trans c0; have e1 := (hSw.cell (p := ⟨P + 1, 1, none⟩) (lt_of_cell c1)).trans c1; go_simp⟩) hS0 ?_
      try simp only [Act.put, List.setIfInBounds_toArray, List.set_cons_zero, List.set_cons_succ]
      generalize w16.drew = V0 at hS0 ⊢
      have hV0 := hS0
      clear hS0
      refine wpAnyH_ready (rs := [0, 4]) (by kernel_rfl) (by simp) ?_
      refine AllReadyH.cons (o := { dst := some 99, op := Go.Op.buildSlice 22 0 #[], type := 22, pos := "outright.go:116", after := #[], guard := none }) rfl (fun K2 hK => ?_) ?_
      · go_simp
        refine hK.out _ _ (hV0.trans ((below_alloc_ _ _).mono hV0.size)) (fun hV1 => ?_)
        clear hK K2
        have hz := heap_alloc_new_ V0 (.cells #[] 56)
        have hb := below_alloc_ V0 (.cells #[] 56)
        have hZl := Lib.hid (show w16.heap.size ≤ V0.heap.size from hV0.size)
        generalize V0.alloc (.cells #[] 56) = V1 at *
        obtain ⟨Z, hZ⟩ : ∃ Z, V0.heap.size = Z := ⟨_, rfl⟩
        rw [hZ] at hz hZl ⊢
        clear hZ hb
        try simp only [Act.put, List.setIfInBounds_toArray, List.set_cons_zero, List.set_cons_succ]
        refine wpAnyH_ready (rs := [2, 4]) (by kernel_rfl) (by simp) ?_
        refine AllReadyH.cons (o := { dst := some 101, op := Go.Op.call { callee := Go.Callee.builtin Go.Builtin.append, args := #[Go.Operand.tmp 99, Go.Operand.tmp 100], argTypes := #[22, 22] }, type := 22, pos := "outright.go:116", after := #[{ on := 0, ground := Go.Ground.data }, { on := 1, ground := Go.Ground.data }], guard := none }) rfl (fun K2 hK => ?_) ?_
        · obtain ⟨g2, cp2, V2, hrun, hown, hKp, hg⟩ := app_cpR (cap := cap) hz (S.out.below hV1 (Nat.le_refl _)) hn1 (by omega)
          have hV2h := Lib.hid (show Below w16.heap.size w16 V2 from hV1.trans (hKp.below hV1.size (fun j hj e => by have := hZl.out; omega)))
          have hgl := Lib.hid (show w16.heap.size ≤ g2 from by have := hZl.out; have := hV1.size; rcases hg with h | ⟨h, _⟩ <;> omega)
          clear hg hKp
          have Hown := Lib.hid hown
          clear hown
          go_simp
          try rw [hrun]
          try go_simp
          have hown := Hown.out
          clear Hown
          refine hK.out _ _ hV2h.out (fun hV2 => ?_)
          clear hK K2 hV2h hrun hz
          try simp only [Act.put, List.setIfInBounds_toArray, List.set_cons_zero, List.set_cons_succ]
          refine wpAnyH_ready (rs := [4]) (by kernel_rfl) (by simp) ?_
          refine AllReadyH.cons (o := { dst := some 103, op := Go.Op.buildSlice 22 1 #[(0, Go.Operand.tmp 102)], type := 22, pos := "outright.go:116", after := #[{ on := 3, ground := Go.Ground.data }], guard := none }) rfl (fun K2 hK => ?_) ?_
          · go_simp
            refine hK.out _ _ (hV2.trans ((below_alloc_ _ _).mono hV2.size)) (fun hV3 => ?_)
            clear hK K2
            have hd := heap_alloc_new_ V2 (.cells #[.int .i64 more.lo, .int .i64 more.hi] 56)
            have hb := below_alloc_ V2 (.cells #[.int .i64 more.lo, .int .i64 more.hi] 56)
            replace hown := own_keep hown (Keeps.of_new (Mut := fun _ => False) hb) (fun _ _ e => e)
            have HdL := Lib.hid (show V2.heap.size < (V2.alloc (.cells #[.int .i64 more.lo, .int .i64 more.hi] 56)).heap.size from lt_of_block hd)
            generalize V2.alloc (.cells #[.int .i64 more.lo, .int .i64 more.hi] 56) = V3 at *
            obtain ⟨D, hD⟩ : ∃ D, V2.heap.size = D := ⟨_, rfl⟩
            rw [hD] at hd HdL ⊢
            clear hD hb
            try simp only [Act.put, List.setIfInBounds_toArray, List.set_cons_zero, List.set_cons_succ]
            refine wpAnyH_ready (rs := [5]) (by kernel_rfl) (by simp) ?_
            refine AllReadyH.cons (o := { dst := some 104, op := Go.Op.call { callee := Go.Callee.builtin Go.Builtin.append, args := #[Go.Operand.tmp 101, Go.Operand.tmp 103], argTypes := #[22, 22] }, type := 22, pos := "outright.go:116", after := #[{ on := 2, ground := Go.Ground.data }, { on := 4, ground := Go.Ground.data }, { on := 2, ground := Go.Ground.chain }], guard := none }) rfl (fun K2 hK => ?_) AllReadyH.nil
            obtain ⟨v9, V4, hap, hown9, hK9, hv9⟩ := app_one Try.underlying22 info56_ rfl (by omega) (by omega) hown (vals := [.int .i64 more.lo, .int .i64 more.hi]) rfl hd (by simp [Value.oneCell']) (by omega)
            have hrun := run_app hap
            rw [← flatR_snoc] at hown9
            obtain ⟨C9, cp9, rfl, hcp9, hr9, -⟩ := rgs_own (by simp [HZl.out]) hown9
            have HR9 := Lib.hid hr9
            have HBW := Lib.hid (show Below w16.heap.size w16 V4 from hV3.trans (hK9.below hV3.size (fun j hj e => by have := hgl.out; have e2 : g2 = j := Option.some.inj e; omega)))
            clear hown9 hK9 hv9 hap hcp9 hr9 hd hown
            go_simp
            try rw [hrun]
            try go_simp
            refine hK.out _ _ HBW.out (fun hSf => ?_)
            clear hK K2
            try simp only [Act.put, List.setIfInBounds_toArray, List.set_cons_zero, List.set_cons_succ]
            refine wpAnyH_take (i := 6) (oi := { dst := some 15, op := Go.Op.assign (Go.Operand.tmp 104), type := 22, pos := "outright.go:116", after := #[{ on := 5, ground := Go.Ground.data }, { on := 5, ground := Go.Ground.chain }, { on := 0, ground := Go.Ground.phase }, { on := 1, ground := Go.Ground.phase }, { on := 2, ground := Go.Ground.phase }, { on := 3, ground := Go.Ground.phase }, { on := 4, ground := Go.Ground.phase }, { on := 5, ground := Go.Ground.phase }], guard := none }) (v := .slice C9 (n + 1) cp9) rfl (by kernel_rfl) (by kernel_rfl) (by kernel_rfl) (fun _ _ _ h => h) (Or.inl ⟨by rfl, by intro w2 hSw; (try dsimp only at hSw); have e0 := (hSw.cell (p := ⟨P + 1, 0, none⟩) (lt_of_cell c0)).trans c0; have e1 := (hSw.cell (p := ⟨P + 1, 1, none⟩) (lt_of_cell c1)).trans c1; go_simp⟩) hSf ?_
            try simp only [Act.put, List.setIfInBounds_toArray, List.set_cons_zero, List.set_cons_succ]
            refine wpAnyH_done (by kernel_rfl) ?_ _
            clear hSf hrun
            go_wp2_with fail
            go_meet
            case rel => exact ⟨_, _, rfl, HR9.out, HBW.out⟩
          exact AllReadyH.nil
        refine AllReadyH.cons (o := { dst := some 103, op := Go.Op.buildSlice 22 1 #[(0, Go.Operand.tmp 102)], type := 22, pos := "outright.go:116", after := #[{ on := 3, ground := Go.Ground.data }], guard := none }) rfl (fun K2 hK => ?_) ?_
        · go_simp
          refine hK.out _ _ (hV1.trans ((below_alloc_ _ _).mono hV1.size)) (fun hV2 => ?_)
          clear hK K2
          have hd := heap_alloc_new_ V1 (.cells #[.int .i64 more.lo, .int .i64 more.hi] 56)
          have hb := below_alloc_ V1 (.cells #[.int .i64 more.lo, .int .i64 more.hi] 56)
          have hDZ := Lib.hid (show Z ≠ V1.heap.size from by have := lt_of_block hz; omega)
          replace hz := (hb.block _ (lt_of_block hz)).trans hz
          have HdL := Lib.hid (show V1.heap.size < (V1.alloc (.cells #[.int .i64 more.lo, .int .i64 more.hi] 56)).heap.size from lt_of_block hd)
          generalize V1.alloc (.cells #[.int .i64 more.lo, .int .i64 more.hi] 56) = V2 at *
          obtain ⟨D, hD⟩ : ∃ D, V1.heap.size = D := ⟨_, rfl⟩
          rw [hD] at hd HdL hDZ ⊢
          clear hD hb
          try simp only [Act.put, List.setIfInBounds_toArray, List.set_cons_zero, List.set_cons_succ]
          refine wpAnyH_ready (rs := [2]) (by kernel_rfl) (by simp) ?_
          refine AllReadyH.cons (o := { dst := some 101, op := Go.Op.call { callee := Go.Callee.builtin Go.Builtin.append, args := #[Go.Operand.tmp 99, Go.Operand.tmp 100], argTypes := #[22, 22] }, type := 22, pos := "outright.go:116", after := #[{ on := 0, ground := Go.Ground.data }, { on := 1, ground := Go.Ground.data }], guard := none }) rfl (fun K2 hK => ?_) ?_
          · obtain ⟨g2, cp2, V3, hrun, hown, hKp, hg⟩ := app_cpR (cap := cap) hz (S.out.below hV2 (Nat.le_refl _)) hn1 (by omega)
            have hV3h := Lib.hid (show Below w16.heap.size w16 V3 from hV2.trans (hKp.below hV2.size (fun j hj e => by have := hZl.out; omega)))
            have hgl := Lib.hid (show w16.heap.size ≤ g2 from by have := hZl.out; have := hV2.size; rcases hg with h | ⟨h, _⟩ <;> omega)
            replace hd := (hKp.block _ (lt_of_block hd) (by have := hDZ.out; omega)).trans hd
            clear hg hKp
            have Hown := Lib.hid hown
            clear hown
            go_simp
            try rw [hrun]
            try go_simp
            have hown := Hown.out
            clear Hown
            refine hK.out _ _ hV3h.out (fun hV3 => ?_)
            clear hK K2 hV3h hrun hz
            try simp only [Act.put, List.setIfInBounds_toArray, List.set_cons_zero, List.set_cons_succ]
            refine wpAnyH_ready (rs := [5]) (by kernel_rfl) (by simp) ?_
            refine AllReadyH.cons (o := { dst := some 104, op := Go.Op.call { callee := Go.Callee.builtin Go.Builtin.append, args := #[Go.Operand.tmp 101, Go.Operand.tmp 103], argTypes := #[22, 22] }, type := 22, pos := "outright.go:116", after := #[{ on := 2, ground := Go.Ground.data }, { on := 4, ground := Go.Ground.data }, { on := 2, ground := Go.Ground.chain }], guard := none }) rfl (fun K2 hK => ?_) AllReadyH.nil
            obtain ⟨v9, V4, hap, hown9, hK9, hv9⟩ := app_one Try.underlying22 info56_ rfl (by omega) (by omega) hown (vals := [.int .i64 more.lo, .int .i64 more.hi]) rfl hd (by simp [Value.oneCell']) (by omega)
            have hrun := run_app hap
            rw [← flatR_snoc] at hown9
            obtain ⟨C9, cp9, rfl, hcp9, hr9, -⟩ := rgs_own (by simp [HZl.out]) hown9
            have HR9 := Lib.hid hr9
            have HBW := Lib.hid (show Below w16.heap.size w16 V4 from hV3.trans (hK9.below hV3.size (fun j hj e => by have := hgl.out; have e2 : g2 = j := Option.some.inj e; omega)))
            clear hown9 hK9 hv9 hap hcp9 hr9 hd hown
            go_simp
            try rw [hrun]
            try go_simp
            refine hK.out _ _ HBW.out (fun hSf => ?_)
            clear hK K2
            try simp only [Act.put, List.setIfInBounds_toArray, List.set_cons_zero, List.set_cons_succ]
            refine wpAnyH_take (i := 6) (oi := { dst := some 15, op := Go.Op.assign (Go.Operand.tmp 104), type := 22, pos := "outright.go:116", after := #[{ on := 5, ground := Go.Ground.data }, { on := 5, ground := Go.Ground.chain }, { on := 0, ground := Go.Ground.phase }, { on := 1, ground := Go.Ground.phase }, { on := 2, ground := Go.Ground.phase }, { on := 3, ground := Go.Ground.phase }, { on := 4, ground := Go.Ground.phase }, { on := 5, ground := Go.Ground.phase }], guard := none }) (v := .slice C9 (n + 1) cp9) rfl (by kernel_rfl) (by kernel_rfl) (by kernel_rfl) (fun _ _ _ h => h) (Or.inl ⟨by rfl, by intro w2 hSw; (try dsimp only at hSw); have e0 := (hSw.cell (p := ⟨P + 1, 0, none⟩) (lt_of_cell c0)).trans c0; have e1 := (hSw.cell (p := ⟨P + 1, 1, none⟩) (lt_of_cell c1)).trans c1; go_simp⟩) hSf ?_
            try simp only [Act.put, List.setIfInBounds_toArray, List.set_cons_zero, List.set_cons_succ]
            refine wpAnyH_done (by kernel_rfl) ?_ _
            clear hSf hrun
            go_wp2_with fail
            go_meet
            case rel => exact ⟨_, _, rfl, HR9.out, HBW.out⟩
          exact AllReadyH.nil
        exact AllReadyH.nil
      refine AllReadyH.cons (o := { dst := some 103, op := Go.Op.buildSlice 22 1 #[(0, Go.Operand.tmp 102)], type := 22, pos := "outright.go:116", after := #[{ on := 3, ground := Go.Ground.data }], guard := none }) rfl (fun K2 hK => ?_) ?_
      · go_simp
        refine hK.out _ _ (hV0.trans ((below_alloc_ _ _).mono hV0.size)) (fun hV1 => ?_)
        clear hK K2
        have hd := heap_alloc_new_ V0 (.cells #[.int .i64 more.lo, .int .i64 more.hi] 56)
        have hb := below_alloc_ V0 (.cells #[.int .i64 more.lo, .int .i64 more.hi] 56)
        have HdL := Lib.hid (show V0.heap.size < (V0.alloc (.cells #[.int .i64 more.lo, .int .i64 more.hi] 56)).heap.size from lt_of_block hd)
        generalize V0.alloc (.cells #[.int .i64 more.lo, .int .i64 more.hi] 56) = V1 at *
        obtain ⟨D, hD⟩ : ∃ D, V0.heap.size = D := ⟨_, rfl⟩
        rw [hD] at hd HdL ⊢
        clear hD hb
        try simp only [Act.put, List.setIfInBounds_toArray, List.set_cons_zero, List.set_cons_succ]
        refine wpAnyH_ready (rs := [0]) (by kernel_rfl) (by simp) ?_
        refine AllReadyH.cons (o := { dst := some 99, op := Go.Op.buildSlice 22 0 #[], type := 22, pos := "outright.go:116", after := #[], guard := none }) rfl (fun K2 hK => ?_) ?_
        · go_simp
          refine hK.out _ _ (hV1.trans ((below_alloc_ _ _).mono hV1.size)) (fun hV2 => ?_)
          clear hK K2
          have hz := heap_alloc_new_ V1 (.cells #[] 56)
          have hb := below_alloc_ V1 (.cells #[] 56)
          replace hd := (hb.block _ (lt_of_block hd)).trans hd
          have hDZ := Lib.hid (show D < V1.heap.size from HdL.out)
          have hZl := Lib.hid (show w16.heap.size ≤ V1.heap.size from hV1.size)
          generalize V1.alloc (.cells #[] 56) = V2 at *
          obtain ⟨Z, hZ⟩ : ∃ Z, V1.heap.size = Z := ⟨_, rfl⟩
          rw [hZ] at hz hZl hDZ ⊢
          clear hZ hb
          try simp only [Act.put, List.setIfInBounds_toArray, List.set_cons_zero, List.set_cons_succ]
          refine wpAnyH_ready (rs := [2]) (by kernel_rfl) (by simp) ?_
          refine AllReadyH.cons (o := { dst := some 101, op := Go.Op.call { callee := Go.Callee.builtin Go.Builtin.append, args := #[Go.Operand.tmp 99, Go.Operand.tmp 100], argTypes := #[22, 22] }, type := 22, pos := "outright.go:116", after := #[{ on := 0, ground := Go.Ground.data }, { on := 1, ground := Go.Ground.data }], guard := none }) rfl (fun K2 hK => ?_) ?_
          · obtain ⟨g2, cp2, V3, hrun, hown, hKp, hg⟩ := app_cpR (cap := cap) hz (S.out.below hV2 (Nat.le_refl _)) hn1 (by omega)
            have hV3h := Lib.hid (show Below w16.heap.size w16 V3 from hV2.trans (hKp.below hV2.size (fun j hj e => by have := hZl.out; omega)))
            have hgl := Lib.hid (show w16.heap.size ≤ g2 from by have := hZl.out; have := hV2.size; rcases hg with h | ⟨h, _⟩ <;> omega)
            replace hd := (hKp.block _ (lt_of_block hd) (by have := hDZ.out; omega)).trans hd
            clear hg hKp
            have Hown := Lib.hid hown
            clear hown
            go_simp
            try rw [hrun]
            try go_simp
            have hown := Hown.out
            clear Hown
            refine hK.out _ _ hV3h.out (fun hV3 => ?_)
            clear hK K2 hV3h hrun hz
            try simp only [Act.put, List.setIfInBounds_toArray, List.set_cons_zero, List.set_cons_succ]
            refine wpAnyH_ready (rs := [5]) (by kernel_rfl) (by simp) ?_
            refine AllReadyH.cons (o := { dst := some 104, op := Go.Op.call { callee := Go.Callee.builtin Go.Builtin.append, args := #[Go.Operand.tmp 101, Go.Operand.tmp 103], argTypes := #[22, 22] }, type := 22, pos := "outright.go:116", after := #[{ on := 2, ground := Go.Ground.data }, { on := 4, ground := Go.Ground.data }, { on := 2, ground := Go.Ground.chain }], guard := none }) rfl (fun K2 hK => ?_) AllReadyH.nil
            obtain ⟨v9, V4, hap, hown9, hK9, hv9⟩ := app_one Try.underlying22 info56_ rfl (by omega) (by omega) hown (vals := [.int .i64 more.lo, .int .i64 more.hi]) rfl hd (by simp [Value.oneCell']) (by omega)
            have hrun := run_app hap
            rw [← flatR_snoc] at hown9
            obtain ⟨C9, cp9, rfl, hcp9, hr9, -⟩ := rgs_own (by simp [HZl.out]) hown9
            have HR9 := Lib.hid hr9
            have HBW := Lib.hid (show Below w16.heap.size w16 V4 from hV3.trans (hK9.below hV3.size (fun j hj e => by have := hgl.out; have e2 : g2 = j := Option.some.inj e; omega)))
            clear hown9 hK9 hv9 hap hcp9 hr9 hd hown
            go_simp
            try rw [hrun]
            try go_simp
            refine hK.out _ _ HBW.out (fun hSf => ?_)
            clear hK K2
            try simp only [Act.put, List.setIfInBounds_toArray, List.set_cons_zero, List.set_cons_succ]
            refine wpAnyH_take (i := 6) (oi := { dst := some 15, op := Go.Op.assign (Go.Operand.tmp 104), type := 22, pos := "outright.go:116", after := #[{ on := 5, ground := Go.Ground.data }, { on := 5, ground := Go.Ground.chain }, { on := 0, ground := Go.Ground.phase }, { on := 1, ground := Go.Ground.phase }, { on := 2, ground := Go.Ground.phase }, { on := 3, ground := Go.Ground.phase }, { on := 4, ground := Go.Ground.phase }, { on := 5, ground := Go.Ground.phase }], guard := none }) (v := .slice C9 (n + 1) cp9) rfl (by kernel_rfl) (by kernel_rfl) (by kernel_rfl) (fun _ _ _ h => h) (Or.inl ⟨by rfl, by intro w2 hSw; (try dsimp only at hSw); have e0 := (hSw.cell (p := ⟨P + 1, 0, none⟩) (lt_of_cell c0)).trans c0; have e1 := (hSw.cell (p := ⟨P + 1, 1, none⟩) (lt_of_cell c1)).trans c1; go_simp⟩) hSf ?_
            try simp only [Act.put, List.setIfInBounds_toArray, List.set_cons_zero, List.set_cons_succ]
            refine wpAnyH_done (by kernel_rfl) ?_ _
            clear hSf hrun
            go_wp2_with fail
            go_meet
            case rel => exact ⟨_, _, rfl, HR9.out, HBW.out⟩
          exact AllReadyH.nil
        exact AllReadyH.nil
      exact AllReadyH.nil
    case rest =>
      obtain ⟨C9, cp9, rfl, hr9, hb9⟩ := hcut
      replace B1 := Lib.hid (B1.out.trans (hb9.mono B1.out.size))
      obtain ⟨n1, hn9⟩ : ∃ n1, n + 1 = n1 := ⟨_, rfl⟩
      rw [hn9] at hr9 ⊢
      have Y := Lib.hid hr9
      have hn25 : n1 ≤ 25 := by omega
      clear hr9 hb9 hn9 c0 c1
      by_cases hy : chkS (zs ++ [more]) = 0
      rotate_left
      · have d2 : decide (chkS (zs ++ [more]) = 0) = false := decide_eq_false hy
        clear hy
        go_wp2_with fail
        have hc := fine35 C9 n1 cp9 (zs ++ [more]) wc Y.out (by omega)
        rw [d2] at hc
        refine hc.mono ?_
        rintro en w17 ⟨rfl, hb9⟩
        replace B1 := Lib.hid (B1.out.trans (hb9.mono B1.out.size))
        replace Y := Lib.hid (Y.out.below hb9 (Nat.le_refl _))
        clear hb9 d2 hc
        go_wp2_with fail
        refine (works15 _).mono ?_
        rintro en wz ⟨rfl, hb9⟩
        replace B1 := Lib.hid (B1.out.trans (hb9.mono B1.out.size))
        clear hb9
        go_wp2_with fail
        go_ret
        exact ⟨rfl, B0.out.trans (B1.out.mono B0.out.size)⟩
      · have d2 : decide (chkS (zs ++ [more]) = 0) = true := decide_eq_true hy
        have HY := Lib.hid hy
        clear hy
        go_wp2_with fail
        have hc := fine35 C9 n1 cp9 (zs ++ [more]) wc Y.out (by omega)
        rw [d2] at hc
        refine hc.mono ?_
        rintro en w37 ⟨rfl, hb9⟩
        replace B1 := Lib.hid (B1.out.trans (hb9.mono B1.out.size))
        replace Y := Lib.hid (Y.out.below hb9 (Nat.le_refl _))
        clear hb9 d2 hc
        go_wp2_with fail
        refine (fewest25 C9 n1 cp9 (zs ++ [more]) w37 Y.out).mono ?_
        rintro en w38 ⟨hb9, hor⟩
        replace B1 := Lib.hid (B1.out.trans (hb9.mono B1.out.size))
        replace Y := Lib.hid (Y.out.below hb9 (Nat.le_refl _))
        clear hb9
        obtain ⟨hz, xc, Dxc, cpxc, hx9, rfl, hi9, hf9⟩ | ⟨h0, _⟩ := hor
        rotate_left
        · exact absurd HY.out h0
        have Uxc := Lib.hid (hx9.up (ok_of hz))
        have lxc := up_len hz Uxc.out
        obtain ⟨nxc, hnxc⟩ : ∃ nxc, xc.length = nxc := ⟨_, rfl⟩
        rw [hnxc] at lxc ⊢
        have Hxc := Lib.hid hnxc
        clear hz hx9 hi9 hf9 hnxc
        have hl := more_len (ok_of HY.out) Uxa.out Uxc.out
        rw [Hxa.out, Hxc.out] at hl
        obtain ⟨hl1, hl2⟩ := hl
        clear lxc
        have hl3 : nxc ≤ 25 := by omega
        have hl5 : (nxa : Int) ≤ (nxc : Int) := by omega
        have hl7 : (nxc : Int) ≤ (nxa : Int) + 1 := by omega
        go_wp2_with fail
        refine (works15 _).mono ?_
        rintro en wz ⟨rfl, hb9⟩
        replace B1 := Lib.hid (B1.out.trans (hb9.mono B1.out.size))
        clear hb9
        go_wp2_with fail
        go_ret
        exact ⟨rfl, B0.out.trans (B1.out.mono B0.out.size)⟩
end Go.Proofs.Ytdfdlklglbefiaa
