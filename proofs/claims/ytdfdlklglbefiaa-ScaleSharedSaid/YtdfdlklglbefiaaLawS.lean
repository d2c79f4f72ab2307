/- Stage 3: the law ScaleShared. -/
import Derived.Test.YtdfdlklglbefiaaBy
import Derived.Test.YtdfdlklglbefiaaShx
namespace Go.Proofs.Ytdfdlklglbefiaa
set_option linter.unusedSimpArgs false
set_option linter.unusedVariables false
open Go.RowKit Go.Shelf
/-- The first k of a list. -/
def tkI (x : List Int) (k : Nat) : List Int := (List.range k).map fun i => iAt x i
theorem tkI_succ (x : List Int) (k : Nat) : tkI x (k + 1) = tkI x k ++ [iAt x k] := by simp [tkI, List.range_succ]
theorem tkI_all (x : List Int) : tkI x x.length = x := by
 refine List.ext_getElem (by simp [tkI]) fun i h1 h2 => ?_
 simp [tkI, iAt, List.getD, h2]
/-- One more in one of two rows. -/
theorem app_two {W : World} {B0 : Nat} {va vb : Value} {k m : Nat} {xs ys : List Value} (ha : W.ownsRow 0 2 1 va k xs) (hb : W.ownsRow 0 2 1 vb m ys) (hD : ∀ j, va.ownBlock = some j → vb.ownBlock ≠ some j) {Z : Nat} {t : Int} (hZ : W.heap[Z]? = some (.cells #[.int .i64 t] 2 (0, 0))) (hl : ∀ j, va.ownBlock = some j → B0 ≤ j) (hB : B0 ≤ W.heap.size) (hk : k ≤ 100000) :
  ∃ va' W', (Builtin.append_ #[23, 23] 23 #[va, .slice (some ⟨Z, 0, none⟩) 1 1]).run Try.prog W = .ok va' W' ∧ W'.ownsRow 0 2 1 va' (k + 1) (xs ++ [.int .i64 t]) ∧ W'.ownsRow 0 2 1 vb m ys ∧ (∀ j, va'.ownBlock = some j → vb.ownBlock ≠ some j) ∧ (∀ j, va'.ownBlock = some j → B0 ≤ j) ∧ Below B0 W W' ∧
   (∀ (q : Nat) (u : Obj), W.heap[q]? = some u → va.ownBlock ≠ some q → W'.heap[q]? = some u) := by
 obtain ⟨v', W', hrun, hown, hK, hv⟩ := app_one Try.underlying23 info2b_ rfl (by omega) (by omega) ha (vals := [.int .i64 t]) rfl hZ (by simp [Value.oneCell']) (by omega)
 refine ⟨v', W', hrun, hown, own_keep hb hK (fun j e e2 => hD j e2 e), fun j e e2 => ?_, fun j e => ?_, hK.below hB (fun j hj e => by have := hl j e; omega), fun q u hu hq => (hK.block q (lt_of_block hu) (fun e => hq e)).trans hu⟩
 ·rcases hv with h | ⟨h, _⟩
  ·rw [h] at e; exact hD j e e2
  ·rw [h] at e; cases e; have := own_lt hb _ e2; omega
 ·rcases hv with h | ⟨h, _⟩
  ·rw [h] at e; exact hl j e
  ·rw [h] at e; cases e; exact hB
theorem gAt_spn (x y : List Int) {m k : Nat} (h : k < m) : gAt (spnL x y m) k = ⟨iAt x k, iAt y k⟩ := by simp [gAt, List.getD, spnL, h]
theorem IntsU.below {w w' : World} {A : Option Addr} {n B : Nat} {zs : List Int} (h : IntsU w A n zs) (hb : Below B w w') (hB : w.heap.size ≤ B) : IntsU w' A n zs := by
 refine ⟨h.1, h.2.1, fun hn => ?_⟩
 obtain ⟨b, o, e, hc⟩ := h.2.2 hn
 have hl := lt_of_cell (hc 0 hn)
 exact ⟨b, o, e, fun j hj => (hb.cell (p := ⟨b, o + j, none⟩) (by simp; omega)).trans (hc j hj)⟩
theorem run_neS (a b : Bool) (W : World) : (binOp .neq 43 (.agg #[.bool a, .bool b]) (.agg #[.bool a, .bool b])).run Try.prog W = .ok (.bool false) W := by
 cases a <;> cases b <;> kernel_rfl
attribute [local go_sem ↓] exec_app

set_option maxRecDepth 100000 in
set_option maxHeartbeats 40000000 in
theorem shared11 (A : Option Addr) (n cap : Nat) (zs : List Rg) (xa xb : Nat) (C1 : Option Addr) (m1 cap1 : Nat) (us : List Int) (C2 : Option Addr) (m2 cap2 : Nat) (gv : List Int) (w : World) (h : Rgs w A n zs) (hu : IntsU w C1 m1 us) (hg : Ints w C2 m2 gv) (hn : n ≤ 9223372036854775807) (hm1 : m1 ≤ 9223372036854775807) (hm2 : m2 ≤ 9223372036854775807) (hxa : xa ≤ 255) (hxb : xb ≤ 255) : Calls Try.prog 11 #[.slice A n cap, .agg #[.int .u8 (xa : Int), .int .u8 (xb : Int)], .slice C1 m1 cap1, .slice C2 m2 cap2] w fun en w' => en = .returned (.bool true) ∧ Below w.heap.size w w' := by
 have HZl := Lib.hid h.1
 have HNl := Lib.hid hg.1
 obtain ⟨P, hP⟩ : ∃ P, w.heap.size = P := ⟨_, rfl⟩
 have hk0 := below_alloc_ w (.cells #[.int .u8 (xa : Int), .int .u8 (xb : Int)] 62)
 have r6 : (w.alloc (.cells #[.int .u8 (xa : Int), .int .u8 (xb : Int)] 62)).heap[P]? = some (.cells #[.int .u8 (xa : Int), .int .u8 (xb : Int)] 62 (0, 0)) := by rw [← hP]; exact heap_alloc_new_ _ _
 obtain ⟨w0, hw0⟩ : ∃ w0, w.alloc (.cells #[.int .u8 (xa : Int), .int .u8 (xb : Int)] 62) = w0 := ⟨_, rfl⟩
 rw [hw0] at hk0 r6
 have S0 := Lib.hid (h.below hk0 (Nat.le_refl _))
 have U0 := Lib.hid (hu.below hk0 (Nat.le_refl _))
 have N0 := Lib.hid (hg.below hk0 (Nat.le_refl _))
 have B0 := Lib.hid hk0
 have R6 := Lib.hid r6
 have HP := Lib.hid hP
 have HW0 := Lib.hid hw0
 have B1 := Lib.hid (Below.refl w0.heap.size w0)
 clear h hu hg hk0 r6 hP hw0
 by_cases hz : chkS zs = 0
 rotate_left
 ·have d1 : decide (chkS zs = 0) = false := decide_eq_false hz
  clear hz
  go_enter Try.func11, Try.ntmps11
  go_wp2_with fail
  rw [HW0.out]
  try rw [HP.out]
  have hc := fine35 A n cap zs w0 S0.out hn
  rw [d1] at hc
  refine hc.mono ?_
  rintro en w1 ⟨rfl, hb⟩
  replace B1 := Lib.hid (B1.out.trans (hb.mono B1.out.size))
  clear hc hb d1
  go_wp2_with fail
  refine (works15 _).mono ?_
  rintro en wz ⟨rfl, hb9⟩
  replace B1 := Lib.hid (B1.out.trans (hb9.mono B1.out.size))
  clear hb9
  go_wp2_with fail
  go_ret
  exact ⟨rfl, B0.out.trans (B1.out.mono B0.out.size)⟩
 ·have d1 : decide (chkS zs = 0) = true := decide_eq_true hz
  have HZ := Lib.hid hz
  have hl24 := len_of hz
  rw [HZl.out] at hl24
  clear hz
  by_cases h1 : 40 < m1
  ·have d2 : (40 : Int) < (m1 : Int) := by omega
   go_enter Try.func11, Try.ntmps11
   go_wp2_with fail
   rw [HW0.out]
   try rw [HP.out]
   have hc := fine35 A n cap zs w0 S0.out hn
   rw [d1] at hc
   refine hc.mono ?_
   rintro en w2 ⟨rfl, hb⟩
   replace B1 := Lib.hid (B1.out.trans (hb.mono B1.out.size))
   clear hc hb d1
   go_wp2_with fail
   refine (works15 _).mono ?_
   rintro en wz ⟨rfl, hb9⟩
   replace B1 := Lib.hid (B1.out.trans (hb9.mono B1.out.size))
   clear hb9
   go_wp2_with fail
   go_ret
   exact ⟨rfl, B0.out.trans (B1.out.mono B0.out.size)⟩
  by_cases h2 : 40 < m2
  ·have d2 : ¬ (40 : Int) < (m1 : Int) := by omega
   have d3 : (40 : Int) < (m2 : Int) := by omega
   go_enter Try.func11, Try.ntmps11
   go_wp2_with fail
   rw [HW0.out]
   try rw [HP.out]
   have hc := fine35 A n cap zs w0 S0.out hn
   rw [d1] at hc
   refine hc.mono ?_
   rintro en w3 ⟨rfl, hb⟩
   replace B1 := Lib.hid (B1.out.trans (hb.mono B1.out.size))
   clear hc hb d1
   go_wp2_with fail
   refine (works15 _).mono ?_
   rintro en wz ⟨rfl, hb9⟩
   replace B1 := Lib.hid (B1.out.trans (hb9.mono B1.out.size))
   clear hb9
   go_wp2_with fail
   go_ret
   exact ⟨rfl, B0.out.trans (B1.out.mono B0.out.size)⟩
  have d2 : ¬ (40 : Int) < (m1 : Int) := by omega
  have d3 : ¬ (40 : Int) < (m2 : Int) := by omega
  go_enter Try.func11, Try.ntmps11
  go_wp2_with fail
  rw [HW0.out]
  try rw [HP.out]
  have hc := fine35 A n cap zs w0 S0.out hn
  rw [d1] at hc
  refine hc.mono ?_
  rintro en w4 ⟨rfl, hb⟩
  replace B1 := Lib.hid (B1.out.trans (hb.mono B1.out.size))
  clear hc hb d1
  go_wp2_with fail
  clear d2 d3
  obtain ⟨ti, hti⟩ : ∃ ti : Nat, ti = xa % n := ⟨_, rfl⟩
  have htin : ti < n := by rw [hti]; exact Nat.mod_lt _ (by omega)
  have eti : (xa : Int) % (n : Int) = (ti : Int) := by rw [hti]; exact (Int.natCast_emod xa n).symm
  have fti : (xa : Int).tmod (n : Int) = (ti : Int) := by rw [Int.tmod_eq_emod_of_nonneg (by omega)]; exact eti
  have gti : IntKind.i64.wrap (xa : Int) = xa := IntWalk.i64_in _ (by omega)
  have jti : IntKind.i64.wrap (ti : Int) = ti := IntWalk.i64_in _ (by omega)
  have pti : w4.cell? ⟨P, 0, none⟩ = some (.int .u8 (xa : Int)) := by rw [cell_row ((B1.out.block _ (lt_of_block R6.out)).trans R6.out)]; rfl
  have qti : ∀ a, (w4.drewN a).cell? ⟨P, 0, none⟩ = some (.int .u8 (xa : Int)) := fun a => pti
  clear hti
  obtain ⟨tk, htk⟩ : ∃ tk : Nat, tk = xb % n := ⟨_, rfl⟩
  have htkn : tk < n := by rw [htk]; exact Nat.mod_lt _ (by omega)
  have etk : (xb : Int) % (n : Int) = (tk : Int) := by rw [htk]; exact (Int.natCast_emod xb n).symm
  have ftk : (xb : Int).tmod (n : Int) = (tk : Int) := by rw [Int.tmod_eq_emod_of_nonneg (by omega)]; exact etk
  have gtk : IntKind.i64.wrap (xb : Int) = xb := IntWalk.i64_in _ (by omega)
  have jtk : IntKind.i64.wrap (tk : Int) = tk := IntWalk.i64_in _ (by omega)
  have ptk : w4.cell? ⟨P, 1, none⟩ = some (.int .u8 (xb : Int)) := by rw [cell_row ((B1.out.block _ (lt_of_block R6.out)).trans R6.out)]; rfl
  have qtk : ∀ a, (w4.drewN a).cell? ⟨P, 1, none⟩ = some (.int .u8 (xb : Int)) := fun a => ptk
  clear htk
  have dm : ((n : Int) == 0) = false := by rw [beq_eq_false_iff_ne]; omega
  go_wp2_with fail
  go_quiet (fail)
  have hbq := drew_b w4 nq
  obtain ⟨w5, hwq⟩ : ∃ w5, w4.drewN nq = w5 := ⟨_, rfl⟩
  rw [hwq] at hbq
  rw [hwq]
  replace B1 := Lib.hid (B1.out.trans (hbq.mono B1.out.size))
  clear hwq hbq eti etk fti ftk gti gtk jti jtk pti ptk qti qtk dm
  have HIK := Lib.hid (show ti < zs.length ∧ tk < zs.length by rw [HZl.out]; exact ⟨htin, htkn⟩)
  go_wp2_with fail
  refine (share30 A n cap zs (ti : Int) (tk : Int) w5 (S0.out.below B1.out (Nat.le_refl _))).mono ?_
  rintro en w6 ⟨hb, ma0, mu0, er, hs, rfl⟩
  replace B1 := Lib.hid (B1.out.trans (hb.mono B1.out.size))
  obtain rfl : er = 0 := (sr_sem HZ.out HIK.out.1 HIK.out.2 hs).1
  have HS0 := Lib.hid hs
  clear hb hs
  go_wp2_with fail
  have hr9 := heap_alloc_new_ w6 (.cells #[.bool ma0, .bool mu0] 43)
  have hb := below_alloc_ w6 (.cells #[.bool ma0, .bool mu0] 43)
  obtain ⟨w7, hV⟩ : ∃ w7, w6.alloc (.cells #[.bool ma0, .bool mu0] 43) = w7 := ⟨_, rfl⟩
  rw [hV] at hr9 hb ⊢
  clear hV
  replace B1 := Lib.hid (B1.out.trans (hb.mono B1.out.size))
  obtain ⟨P0, hP⟩ : ∃ P, w6.heap.size = P := ⟨_, rfl⟩
  rw [hP] at hr9 ⊢
  have X0 := Lib.hid hr9
  clear hb hP hr9
  go_wp2_with fail
  refine (share30 A n cap zs (tk : Int) (ti : Int) w7 (S0.out.below B1.out (Nat.le_refl _))).mono ?_
  rintro en w8 ⟨hb, ma1, mu1, er, hs, rfl⟩
  replace B1 := Lib.hid (B1.out.trans (hb.mono B1.out.size))
  replace X0 := Lib.hid ((hb.block _ (lt_of_block X0.out)).trans X0.out)
  obtain rfl : er = 0 := (sr_sem HZ.out HIK.out.2 HIK.out.1 hs).1
  have HS1 := Lib.hid hs
  clear hb hs
  go_wp2_with fail
  have hr9 := heap_alloc_new_ w8 (.cells #[.bool ma1, .bool mu1] 43)
  have hb := below_alloc_ w8 (.cells #[.bool ma1, .bool mu1] 43)
  obtain ⟨w9, hV⟩ : ∃ w9, w8.alloc (.cells #[.bool ma1, .bool mu1] 43) = w9 := ⟨_, rfl⟩
  rw [hV] at hr9 hb ⊢
  clear hV
  replace B1 := Lib.hid (B1.out.trans (hb.mono B1.out.size))
  replace X0 := Lib.hid ((hb.block _ (lt_of_block X0.out)).trans X0.out)
  obtain ⟨P1, hP⟩ : ∃ P, w8.heap.size = P := ⟨_, rfl⟩
  rw [hP] at hr9 ⊢
  have X1 := Lib.hid hr9
  clear hb hP hr9
  go_wp2_with fail
  refine (share30 A n cap zs (ti : Int) (ti : Int) w9 (S0.out.below B1.out (Nat.le_refl _))).mono ?_
  rintro en w10 ⟨hb, ma2, mu2, er, hs, rfl⟩
  replace B1 := Lib.hid (B1.out.trans (hb.mono B1.out.size))
  replace X0 := Lib.hid ((hb.block _ (lt_of_block X0.out)).trans X0.out)
  replace X1 := Lib.hid ((hb.block _ (lt_of_block X1.out)).trans X1.out)
  obtain rfl : er = 0 := (sr_sem HZ.out HIK.out.1 HIK.out.1 hs).1
  have HS2 := Lib.hid hs
  clear hb hs
  go_wp2_with fail
  have hr9 := heap_alloc_new_ w10 (.cells #[.bool ma2, .bool mu2] 43)
  have hb := below_alloc_ w10 (.cells #[.bool ma2, .bool mu2] 43)
  obtain ⟨w11, hV⟩ : ∃ w11, w10.alloc (.cells #[.bool ma2, .bool mu2] 43) = w11 := ⟨_, rfl⟩
  rw [hV] at hr9 hb ⊢
  clear hV
  replace B1 := Lib.hid (B1.out.trans (hb.mono B1.out.size))
  replace X0 := Lib.hid ((hb.block _ (lt_of_block X0.out)).trans X0.out)
  replace X1 := Lib.hid ((hb.block _ (lt_of_block X1.out)).trans X1.out)
  obtain ⟨P2, hP⟩ : ∃ P, w10.heap.size = P := ⟨_, rfl⟩
  rw [hP] at hr9 ⊢
  have X2 := Lib.hid hr9
  clear hb hP hr9
  go_wp2_with fail
  refine (fewest25 A n cap zs w11 (S0.out.below B1.out (Nat.le_refl _))).mono ?_
  rintro en w12 ⟨hb, hor⟩
  replace B1 := Lib.hid (B1.out.trans (hb.mono B1.out.size))
  replace X0 := Lib.hid ((hb.block _ (lt_of_block X0.out)).trans X0.out)
  replace X1 := Lib.hid ((hb.block _ (lt_of_block X1.out)).trans X1.out)
  replace X2 := Lib.hid ((hb.block _ (lt_of_block X2.out)).trans X2.out)
  clear hb
  obtain ⟨hz, s, Ds, cps, hs, rfl, hi, hf⟩ | ⟨h0, rfl⟩ := hor
  rotate_left
  ·exact absurd HZ.out h0
  have HSU := Lib.hid (hs.up (ok_of hz))
  have hm24 := up_len hz HSU.out
  rw [HZl.out] at hm24
  obtain ⟨m3, hm3⟩ : ∃ m3, s.length = m3 := ⟨_, rfl⟩
  rw [hm3] at hi hm24 ⊢
  have Hls := Lib.hid hm3
  have F := Lib.hid hi
  clear hi hf hs hz hm3
  obtain ⟨rfl, rfl⟩ := sr_self HZ.out HIK.out.1 HS2.out HSU.out
  obtain ⟨rfl, rfl⟩ := sr_swap HZ.out HIK.out.1 HIK.out.2 HS0.out HS1.out
  have HMM := Lib.hid (fun h : mu0 = true => sr_must HZ.out HIK.out.1 HIK.out.2 HS0.out HSU.out h)
  clear HS1 HS2
  go_wp2_with fail
  refine (spans28 A n cap zs w12 (S0.out.below B1.out (Nat.le_refl _))).mono ?_
  rintro en w13 ⟨hb, hor⟩
  replace B1 := Lib.hid (B1.out.trans (hb.mono B1.out.size))
  replace X0 := Lib.hid ((hb.block _ (lt_of_block X0.out)).trans X0.out)
  replace X1 := Lib.hid ((hb.block _ (lt_of_block X1.out)).trans X1.out)
  replace X2 := Lib.hid ((hb.block _ (lt_of_block X2.out)).trans X2.out)
  replace F := Lib.hid (F.out.below hb (Nat.le_refl _))
  clear hb
  obtain ⟨hz, x, y, Dr, cpr, hx, hy, rfl, hi, hf⟩ | ⟨h0, rfl⟩ := hor
  rotate_left
  ·exact absurd HZ.out h0
  have HX := Lib.hid (hx.dn (chkS_ok hz).1)
  have HY := Lib.hid (hy.up (ok_of hz))
  have hlen := dn_up_len (ok_of hz) HX.out HY.out
  have hly : y.length = m3 := by have := lenU_eq (ok_of hz) (up_lenU HSU.out) (up_lenU HY.out); have := Hls.out; omega
  have hlx : x.length = m3 := by omega
  rw [hlx] at hi ⊢
  have Hlx := Lib.hid hlx
  have Hly := Lib.hid hly
  have R := Lib.hid hi
  clear hi hf hx hy hz hlen hlx hly
  obtain ⟨rfl, rfl⟩ | ⟨rfl, rfl⟩ | ⟨rfl, rfl⟩ : (ma0 = true ∧ mu0 = true) ∨ (ma0 = true ∧ mu0 = false) ∨ (ma0 = false ∧ mu0 = false) := by
   cases mu0 with
   | true => exact .inl ⟨HMM.out rfl, rfl⟩
   | false => cases ma0 <;> simp
  ·clear HMM
   have x00 : w13.cell? ⟨P0, 0, none⟩ = some (.bool true) := by rw [cell_row X0.out]; rfl
   have x01 : w13.cell? ⟨P0, 1, none⟩ = some (.bool true) := by rw [cell_row X0.out]; rfl
   have x10 : w13.cell? ⟨P1, 0, none⟩ = some (.bool true) := by rw [cell_row X1.out]; rfl
   have x11 : w13.cell? ⟨P1, 1, none⟩ = some (.bool true) := by rw [cell_row X1.out]; rfl
   have x20 : w13.cell? ⟨P2, 0, none⟩ = some (.bool true) := by rw [cell_row X2.out]; rfl
   have x21 : w13.cell? ⟨P2, 1, none⟩ = some (.bool true) := by rw [cell_row X2.out]; rfl
   have q1 : ∀ W, (binOp .neq 43 (.agg #[.bool true, .bool true]) (.agg #[.bool true, .bool true])).run Try.prog W = .ok (.bool false) W := fun W => run_neS true true W
   have q2 : ∀ W, (binOp .neq 43 (.agg #[.bool true, .bool true]) (.agg #[.bool true, .bool true])).run Try.prog W = .ok (.bool false) W := fun W => run_neS true true W
   go_wp2_with fail
   clear x10 x11 x20 x21 q1 q2 X1 X2
   have hS9 := S0.out.below B1.out (Nat.le_refl _)
   obtain ⟨b9, o9, hA9, hcr⟩ := hS9.2 (by omega)
   obtain ⟨u0, u1⟩ := hcr ti htin
   obtain ⟨v0, v1⟩ := hcr tk htkn
   have hbaL := lt_of_cell u0
   clear hcr hS9
   obtain ⟨g1, hg1⟩ : ∃ g, gAt zs ti = g := ⟨_, rfl⟩
   obtain ⟨g2, hg2⟩ : ∃ g, gAt zs tk = g := ⟨_, rfl⟩
   rw [hg1] at u0 u1
   rw [hg2] at v0 v1
   have ti0 : (0 : Int) ≤ (ti : Int) := by omega
   have ti1 : (ti : Int) < (n : Int) := by omega
   have tk0 : (0 : Int) ≤ (tk : Int) := by omega
   have tk1 : (tk : Int) < (n : Int) := by omega
   have dti : (ti : Int).toNat = ti := by omega
   have dtk : (tk : Int).toNat = tk := by omega
   have hcm := fun W => rg37 (max g1.lo g2.lo) (min g1.hi g2.hi) W
   have ON := Lib.hid (fun st (a1 : ckSc zs st = 0) (a2 : st.length = s.length) => sr_on HZ.out HIK.out.1 HIK.out.2 HS0.out HSU.out a1 a2)
   have NO := Lib.hid (sr_none HZ.out HIK.out.1 HIK.out.2 HS0.out)
   rw [hg1, hg2] at ON NO
   clear hg1 hg2
   subst hA9
   go_cut [21] from 129 to 151 (fun v21 wx => ∃ Pb : Nat, v21 = .pointer (some ⟨Pb, 0, none⟩) ∧ wx.heap[Pb]? = some (.cells #[.int .i64 (max g1.lo g2.lo), .int .i64 (min g1.hi g2.hi)] 56 (0, 0)) ∧ Below w13.heap.size w13 wx)
   case first =>
    refine wp_region_held_drew (S := fun w2 => Below w13.heap.size w13 w2) (by kernel_rfl) (drew_b _ _) (fun hS0 => ?_)
    refine wpAnyH_take (i := 0) (oi := { dst := some 129, op := Op.move (Operand.tmp 0), type := 22, pos := "outright.go:182", after := #[], guard := none }) (v := .slice (some ⟨b9, o9, none⟩) n cap) rfl (by kernel_rfl) (by kernel_rfl) (by kernel_rfl) (fun _ _ _ h => h) (Or.inl ⟨by rfl, by intro w2 hSw; (try dsimp only at hSw); have y0 := (hSw.cell (p := ⟨b9, o9 + ti * 2, none⟩) (lt_of_cell u0)).trans u0; have y1 := (hSw.cell (p := ⟨b9, o9 + ti * 2 + 1, none⟩) (lt_of_cell u1)).trans u1; have y2 := (hSw.cell (p := ⟨b9, o9 + tk * 2, none⟩) (lt_of_cell v0)).trans v0; have y3 := (hSw.cell (p := ⟨b9, o9 + tk * 2 + 1, none⟩) (lt_of_cell v1)).trans v1; go_simp⟩) hS0 ?_
    try simp only [Act.put, List.setIfInBounds_toArray, List.set_cons_zero, List.set_cons_succ]
    refine wpAnyH_take (i := 1) (oi := { dst := some 130, op := Op.move (Operand.tmp 9), type := 3, pos := "outright.go:182", after := #[], guard := none }) (v := .int .i64 (ti : Int)) rfl (by kernel_rfl) (by kernel_rfl) (by kernel_rfl) (fun _ _ _ h => h) (Or.inl ⟨by rfl, by intro w2 hSw; (try dsimp only at hSw); have y0 := (hSw.cell (p := ⟨b9, o9 + ti * 2, none⟩) (lt_of_cell u0)).trans u0; have y1 := (hSw.cell (p := ⟨b9, o9 + ti * 2 + 1, none⟩) (lt_of_cell u1)).trans u1; have y2 := (hSw.cell (p := ⟨b9, o9 + tk * 2, none⟩) (lt_of_cell v0)).trans v0; have y3 := (hSw.cell (p := ⟨b9, o9 + tk * 2 + 1, none⟩) (lt_of_cell v1)).trans v1; go_simp⟩) hS0 ?_
    try simp only [Act.put, List.setIfInBounds_toArray, List.set_cons_zero, List.set_cons_succ]
    refine wpAnyH_take (i := 2) (oi := { dst := some 131, op := Op.indexAddr 22 (Operand.tmp 129) (Operand.tmp 130), type := 0, pos := "outright.go:182", after := #[{ on := 0, ground := Ground.data }, { on := 1, ground := Ground.data }], guard := none }) (v := .pointer (some ⟨b9, o9 + ti * 2, none⟩)) rfl (by kernel_rfl) (by kernel_rfl) (by kernel_rfl) (fun _ _ _ h => h) (Or.inl ⟨by rfl, by intro w2 hSw; (try dsimp only at hSw); have y0 := (hSw.cell (p := ⟨b9, o9 + ti * 2, none⟩) (lt_of_cell u0)).trans u0; have y1 := (hSw.cell (p := ⟨b9, o9 + ti * 2 + 1, none⟩) (lt_of_cell u1)).trans u1; have y2 := (hSw.cell (p := ⟨b9, o9 + tk * 2, none⟩) (lt_of_cell v0)).trans v0; have y3 := (hSw.cell (p := ⟨b9, o9 + tk * 2 + 1, none⟩) (lt_of_cell v1)).trans v1; go_simp⟩) hS0 ?_
    try simp only [Act.put, List.setIfInBounds_toArray, List.set_cons_zero, List.set_cons_succ]
    refine wpAnyH_take (i := 3) (oi := { dst := some 132, op := Op.fieldAddr 56 (Operand.tmp 131) 0, type := 0, pos := "outright.go:182", after := #[{ on := 2, ground := Ground.data }], guard := none }) (v := .pointer (some ⟨b9, o9 + ti * 2, none⟩)) rfl (by kernel_rfl) (by kernel_rfl) (by kernel_rfl) (fun _ _ _ h => h) (Or.inl ⟨by rfl, by intro w2 hSw; (try dsimp only at hSw); have y0 := (hSw.cell (p := ⟨b9, o9 + ti * 2, none⟩) (lt_of_cell u0)).trans u0; have y1 := (hSw.cell (p := ⟨b9, o9 + ti * 2 + 1, none⟩) (lt_of_cell u1)).trans u1; have y2 := (hSw.cell (p := ⟨b9, o9 + tk * 2, none⟩) (lt_of_cell v0)).trans v0; have y3 := (hSw.cell (p := ⟨b9, o9 + tk * 2 + 1, none⟩) (lt_of_cell v1)).trans v1; go_simp⟩) hS0 ?_
    try simp only [Act.put, List.setIfInBounds_toArray, List.set_cons_zero, List.set_cons_succ]
    refine wpAnyH_take (i := 4) (oi := { dst := some 133, op := Op.load 2 (Operand.tmp 132), type := 2, pos := "outright.go:182", after := #[{ on := 3, ground := Ground.data }], guard := none }) (v := .int .i64 g1.lo) rfl (by kernel_rfl) (by kernel_rfl) (by kernel_rfl) (fun _ _ _ h => h) (Or.inl ⟨by rfl, by intro w2 hSw; (try dsimp only at hSw); have y0 := (hSw.cell (p := ⟨b9, o9 + ti * 2, none⟩) (lt_of_cell u0)).trans u0; have y1 := (hSw.cell (p := ⟨b9, o9 + ti * 2 + 1, none⟩) (lt_of_cell u1)).trans u1; have y2 := (hSw.cell (p := ⟨b9, o9 + tk * 2, none⟩) (lt_of_cell v0)).trans v0; have y3 := (hSw.cell (p := ⟨b9, o9 + tk * 2 + 1, none⟩) (lt_of_cell v1)).trans v1; go_simp⟩) hS0 ?_
    try simp only [Act.put, List.setIfInBounds_toArray, List.set_cons_zero, List.set_cons_succ]
    refine wpAnyH_take (i := 5) (oi := { dst := some 134, op := Op.move (Operand.tmp 0), type := 22, pos := "outright.go:182", after := #[], guard := none }) (v := .slice (some ⟨b9, o9, none⟩) n cap) rfl (by kernel_rfl) (by kernel_rfl) (by kernel_rfl) (fun _ _ _ h => h) (Or.inl ⟨by rfl, by intro w2 hSw; (try dsimp only at hSw); have y0 := (hSw.cell (p := ⟨b9, o9 + ti * 2, none⟩) (lt_of_cell u0)).trans u0; have y1 := (hSw.cell (p := ⟨b9, o9 + ti * 2 + 1, none⟩) (lt_of_cell u1)).trans u1; have y2 := (hSw.cell (p := ⟨b9, o9 + tk * 2, none⟩) (lt_of_cell v0)).trans v0; have y3 := (hSw.cell (p := ⟨b9, o9 + tk * 2 + 1, none⟩) (lt_of_cell v1)).trans v1; go_simp⟩) hS0 ?_
    try simp only [Act.put, List.setIfInBounds_toArray, List.set_cons_zero, List.set_cons_succ]
    refine wpAnyH_take (i := 6) (oi := { dst := some 135, op := Op.move (Operand.tmp 10), type := 3, pos := "outright.go:182", after := #[], guard := none }) (v := .int .i64 (tk : Int)) rfl (by kernel_rfl) (by kernel_rfl) (by kernel_rfl) (fun _ _ _ h => h) (Or.inl ⟨by rfl, by intro w2 hSw; (try dsimp only at hSw); have y0 := (hSw.cell (p := ⟨b9, o9 + ti * 2, none⟩) (lt_of_cell u0)).trans u0; have y1 := (hSw.cell (p := ⟨b9, o9 + ti * 2 + 1, none⟩) (lt_of_cell u1)).trans u1; have y2 := (hSw.cell (p := ⟨b9, o9 + tk * 2, none⟩) (lt_of_cell v0)).trans v0; have y3 := (hSw.cell (p := ⟨b9, o9 + tk * 2 + 1, none⟩) (lt_of_cell v1)).trans v1; go_simp⟩) hS0 ?_
    try simp only [Act.put, List.setIfInBounds_toArray, List.set_cons_zero, List.set_cons_succ]
    refine wpAnyH_take (i := 7) (oi := { dst := some 136, op := Op.indexAddr 22 (Operand.tmp 134) (Operand.tmp 135), type := 0, pos := "outright.go:182", after := #[{ on := 5, ground := Ground.data }, { on := 6, ground := Ground.data }], guard := none }) (v := .pointer (some ⟨b9, o9 + tk * 2, none⟩)) rfl (by kernel_rfl) (by kernel_rfl) (by kernel_rfl) (fun _ _ _ h => h) (Or.inl ⟨by rfl, by intro w2 hSw; (try dsimp only at hSw); have y0 := (hSw.cell (p := ⟨b9, o9 + ti * 2, none⟩) (lt_of_cell u0)).trans u0; have y1 := (hSw.cell (p := ⟨b9, o9 + ti * 2 + 1, none⟩) (lt_of_cell u1)).trans u1; have y2 := (hSw.cell (p := ⟨b9, o9 + tk * 2, none⟩) (lt_of_cell v0)).trans v0; have y3 := (hSw.cell (p := ⟨b9, o9 + tk * 2 + 1, none⟩) (lt_of_cell v1)).trans v1; go_simp⟩) hS0 ?_
    try simp only [Act.put, List.setIfInBounds_toArray, List.set_cons_zero, List.set_cons_succ]
    refine wpAnyH_take (i := 8) (oi := { dst := some 137, op := Op.fieldAddr 56 (Operand.tmp 136) 0, type := 0, pos := "outright.go:182", after := #[{ on := 7, ground := Ground.data }], guard := none }) (v := .pointer (some ⟨b9, o9 + tk * 2, none⟩)) rfl (by kernel_rfl) (by kernel_rfl) (by kernel_rfl) (fun _ _ _ h => h) (Or.inl ⟨by rfl, by intro w2 hSw; (try dsimp only at hSw); have y0 := (hSw.cell (p := ⟨b9, o9 + ti * 2, none⟩) (lt_of_cell u0)).trans u0; have y1 := (hSw.cell (p := ⟨b9, o9 + ti * 2 + 1, none⟩) (lt_of_cell u1)).trans u1; have y2 := (hSw.cell (p := ⟨b9, o9 + tk * 2, none⟩) (lt_of_cell v0)).trans v0; have y3 := (hSw.cell (p := ⟨b9, o9 + tk * 2 + 1, none⟩) (lt_of_cell v1)).trans v1; go_simp⟩) hS0 ?_
    try simp only [Act.put, List.setIfInBounds_toArray, List.set_cons_zero, List.set_cons_succ]
    refine wpAnyH_take (i := 9) (oi := { dst := some 138, op := Op.load 2 (Operand.tmp 137), type := 2, pos := "outright.go:182", after := #[{ on := 8, ground := Ground.data }], guard := none }) (v := .int .i64 g2.lo) rfl (by kernel_rfl) (by kernel_rfl) (by kernel_rfl) (fun _ _ _ h => h) (Or.inl ⟨by rfl, by intro w2 hSw; (try dsimp only at hSw); have y0 := (hSw.cell (p := ⟨b9, o9 + ti * 2, none⟩) (lt_of_cell u0)).trans u0; have y1 := (hSw.cell (p := ⟨b9, o9 + ti * 2 + 1, none⟩) (lt_of_cell u1)).trans u1; have y2 := (hSw.cell (p := ⟨b9, o9 + tk * 2, none⟩) (lt_of_cell v0)).trans v0; have y3 := (hSw.cell (p := ⟨b9, o9 + tk * 2 + 1, none⟩) (lt_of_cell v1)).trans v1; go_simp⟩) hS0 ?_
    try simp only [Act.put, List.setIfInBounds_toArray, List.set_cons_zero, List.set_cons_succ]
    refine wpAnyH_take (i := 10) (oi := { dst := some 139, op := Op.call { callee := Callee.builtin Builtin.max, args := #[Operand.tmp 133, Operand.tmp 138], argTypes := #[2, 2] }, type := 2, pos := "outright.go:182", after := #[{ on := 4, ground := Ground.data }, { on := 9, ground := Ground.data }], guard := none }) (v := .int .i64 (max g1.lo g2.lo)) rfl (by kernel_rfl) (by kernel_rfl) (by kernel_rfl) (fun _ _ _ h => h) (Or.inl ⟨by rfl, by intro w2 hSw; (try dsimp only at hSw); have y0 := (hSw.cell (p := ⟨b9, o9 + ti * 2, none⟩) (lt_of_cell u0)).trans u0; have y1 := (hSw.cell (p := ⟨b9, o9 + ti * 2 + 1, none⟩) (lt_of_cell u1)).trans u1; have y2 := (hSw.cell (p := ⟨b9, o9 + tk * 2, none⟩) (lt_of_cell v0)).trans v0; have y3 := (hSw.cell (p := ⟨b9, o9 + tk * 2 + 1, none⟩) (lt_of_cell v1)).trans v1; go_simp⟩) hS0 ?_
    try simp only [Act.put, List.setIfInBounds_toArray, List.set_cons_zero, List.set_cons_succ]
    refine wpAnyH_take (i := 11) (oi := { dst := some 140, op := Op.move (Operand.tmp 0), type := 22, pos := "outright.go:182", after := #[], guard := none }) (v := .slice (some ⟨b9, o9, none⟩) n cap) rfl (by kernel_rfl) (by kernel_rfl) (by kernel_rfl) (fun _ _ _ h => h) (Or.inl ⟨by rfl, by intro w2 hSw; (try dsimp only at hSw); have y0 := (hSw.cell (p := ⟨b9, o9 + ti * 2, none⟩) (lt_of_cell u0)).trans u0; have y1 := (hSw.cell (p := ⟨b9, o9 + ti * 2 + 1, none⟩) (lt_of_cell u1)).trans u1; have y2 := (hSw.cell (p := ⟨b9, o9 + tk * 2, none⟩) (lt_of_cell v0)).trans v0; have y3 := (hSw.cell (p := ⟨b9, o9 + tk * 2 + 1, none⟩) (lt_of_cell v1)).trans v1; go_simp⟩) hS0 ?_
    try simp only [Act.put, List.setIfInBounds_toArray, List.set_cons_zero, List.set_cons_succ]
    refine wpAnyH_take (i := 12) (oi := { dst := some 141, op := Op.move (Operand.tmp 9), type := 3, pos := "outright.go:182", after := #[], guard := none }) (v := .int .i64 (ti : Int)) rfl (by kernel_rfl) (by kernel_rfl) (by kernel_rfl) (fun _ _ _ h => h) (Or.inl ⟨by rfl, by intro w2 hSw; (try dsimp only at hSw); have y0 := (hSw.cell (p := ⟨b9, o9 + ti * 2, none⟩) (lt_of_cell u0)).trans u0; have y1 := (hSw.cell (p := ⟨b9, o9 + ti * 2 + 1, none⟩) (lt_of_cell u1)).trans u1; have y2 := (hSw.cell (p := ⟨b9, o9 + tk * 2, none⟩) (lt_of_cell v0)).trans v0; have y3 := (hSw.cell (p := ⟨b9, o9 + tk * 2 + 1, none⟩) (lt_of_cell v1)).trans v1; go_simp⟩) hS0 ?_
    try simp only [Act.put, List.setIfInBounds_toArray, List.set_cons_zero, List.set_cons_succ]
    refine wpAnyH_take (i := 13) (oi := { dst := some 142, op := Op.indexAddr 22 (Operand.tmp 140) (Operand.tmp 141), type := 0, pos := "outright.go:182", after := #[{ on := 11, ground := Ground.data }, { on := 12, ground := Ground.data }], guard := none }) (v := .pointer (some ⟨b9, o9 + ti * 2, none⟩)) rfl (by kernel_rfl) (by kernel_rfl) (by kernel_rfl) (fun _ _ _ h => h) (Or.inl ⟨by rfl, by intro w2 hSw; (try dsimp only at hSw); have y0 := (hSw.cell (p := ⟨b9, o9 + ti * 2, none⟩) (lt_of_cell u0)).trans u0; have y1 := (hSw.cell (p := ⟨b9, o9 + ti * 2 + 1, none⟩) (lt_of_cell u1)).trans u1; have y2 := (hSw.cell (p := ⟨b9, o9 + tk * 2, none⟩) (lt_of_cell v0)).trans v0; have y3 := (hSw.cell (p := ⟨b9, o9 + tk * 2 + 1, none⟩) (lt_of_cell v1)).trans v1; go_simp⟩) hS0 ?_
    try simp only [Act.put, List.setIfInBounds_toArray, List.set_cons_zero, List.set_cons_succ]
    refine wpAnyH_take (i := 14) (oi := { dst := some 143, op := Op.fieldAddr 56 (Operand.tmp 142) 1, type := 0, pos := "outright.go:182", after := #[{ on := 13, ground := Ground.data }], guard := none }) (v := .pointer (some ⟨b9, o9 + ti * 2 + 1, none⟩)) rfl (by kernel_rfl) (by kernel_rfl) (by kernel_rfl) (fun _ _ _ h => h) (Or.inl ⟨by rfl, by intro w2 hSw; (try dsimp only at hSw); have y0 := (hSw.cell (p := ⟨b9, o9 + ti * 2, none⟩) (lt_of_cell u0)).trans u0; have y1 := (hSw.cell (p := ⟨b9, o9 + ti * 2 + 1, none⟩) (lt_of_cell u1)).trans u1; have y2 := (hSw.cell (p := ⟨b9, o9 + tk * 2, none⟩) (lt_of_cell v0)).trans v0; have y3 := (hSw.cell (p := ⟨b9, o9 + tk * 2 + 1, none⟩) (lt_of_cell v1)).trans v1; go_simp⟩) hS0 ?_
    try simp only [Act.put, List.setIfInBounds_toArray, List.set_cons_zero, List.set_cons_succ]
    refine wpAnyH_take (i := 15) (oi := { dst := some 144, op := Op.load 2 (Operand.tmp 143), type := 2, pos := "outright.go:182", after := #[{ on := 14, ground := Ground.data }], guard := none }) (v := .int .i64 g1.hi) rfl (by kernel_rfl) (by kernel_rfl) (by kernel_rfl) (fun _ _ _ h => h) (Or.inl ⟨by rfl, by intro w2 hSw; (try dsimp only at hSw); have y0 := (hSw.cell (p := ⟨b9, o9 + ti * 2, none⟩) (lt_of_cell u0)).trans u0; have y1 := (hSw.cell (p := ⟨b9, o9 + ti * 2 + 1, none⟩) (lt_of_cell u1)).trans u1; have y2 := (hSw.cell (p := ⟨b9, o9 + tk * 2, none⟩) (lt_of_cell v0)).trans v0; have y3 := (hSw.cell (p := ⟨b9, o9 + tk * 2 + 1, none⟩) (lt_of_cell v1)).trans v1; go_simp⟩) hS0 ?_
    try simp only [Act.put, List.setIfInBounds_toArray, List.set_cons_zero, List.set_cons_succ]
    refine wpAnyH_take (i := 16) (oi := { dst := some 145, op := Op.move (Operand.tmp 0), type := 22, pos := "outright.go:182", after := #[], guard := none }) (v := .slice (some ⟨b9, o9, none⟩) n cap) rfl (by kernel_rfl) (by kernel_rfl) (by kernel_rfl) (fun _ _ _ h => h) (Or.inl ⟨by rfl, by intro w2 hSw; (try dsimp only at hSw); have y0 := (hSw.cell (p := ⟨b9, o9 + ti * 2, none⟩) (lt_of_cell u0)).trans u0; have y1 := (hSw.cell (p := ⟨b9, o9 + ti * 2 + 1, none⟩) (lt_of_cell u1)).trans u1; have y2 := (hSw.cell (p := ⟨b9, o9 + tk * 2, none⟩) (lt_of_cell v0)).trans v0; have y3 := (hSw.cell (p := ⟨b9, o9 + tk * 2 + 1, none⟩) (lt_of_cell v1)).trans v1; go_simp⟩) hS0 ?_
    try simp only [Act.put, List.setIfInBounds_toArray, List.set_cons_zero, List.set_cons_succ]
    refine wpAnyH_take (i := 17) (oi := { dst := some 146, op := Op.move (Operand.tmp 10), type := 3, pos := "outright.go:182", after := #[], guard := none }) (v := .int .i64 (tk : Int)) rfl (by kernel_rfl) (by kernel_rfl) (by kernel_rfl) (fun _ _ _ h => h) (Or.inl ⟨by rfl, by intro w2 hSw; (try dsimp only at hSw); have y0 := (hSw.cell (p := ⟨b9, o9 + ti * 2, none⟩) (lt_of_cell u0)).trans u0; have y1 := (hSw.cell (p := ⟨b9, o9 + ti * 2 + 1, none⟩) (lt_of_cell u1)).trans u1; have y2 := (hSw.cell (p := ⟨b9, o9 + tk * 2, none⟩) (lt_of_cell v0)).trans v0; have y3 := (hSw.cell (p := ⟨b9, o9 + tk * 2 + 1, none⟩) (lt_of_cell v1)).trans v1; go_simp⟩) hS0 ?_
    try simp only [Act.put, List.setIfInBounds_toArray, List.set_cons_zero, List.set_cons_succ]
    refine wpAnyH_take (i := 18) (oi := { dst := some 147, op := Op.indexAddr 22 (Operand.tmp 145) (Operand.tmp 146), type := 0, pos := "outright.go:182", after := #[{ on := 16, ground := Ground.data }, { on := 17, ground := Ground.data }], guard := none }) (v := .pointer (some ⟨b9, o9 + tk * 2, none⟩)) rfl (by kernel_rfl) (by kernel_rfl) (by kernel_rfl) (fun _ _ _ h => h) (Or.inl ⟨by rfl, by intro w2 hSw; (try dsimp only at hSw); have y0 := (hSw.cell (p := ⟨b9, o9 + ti * 2, none⟩) (lt_of_cell u0)).trans u0; have y1 := (hSw.cell (p := ⟨b9, o9 + ti * 2 + 1, none⟩) (lt_of_cell u1)).trans u1; have y2 := (hSw.cell (p := ⟨b9, o9 + tk * 2, none⟩) (lt_of_cell v0)).trans v0; have y3 := (hSw.cell (p := ⟨b9, o9 + tk * 2 + 1, none⟩) (lt_of_cell v1)).trans v1; go_simp⟩) hS0 ?_
    try simp only [Act.put, List.setIfInBounds_toArray, List.set_cons_zero, List.set_cons_succ]
    refine wpAnyH_take (i := 19) (oi := { dst := some 148, op := Op.fieldAddr 56 (Operand.tmp 147) 1, type := 0, pos := "outright.go:182", after := #[{ on := 18, ground := Ground.data }], guard := none }) (v := .pointer (some ⟨b9, o9 + tk * 2 + 1, none⟩)) rfl (by kernel_rfl) (by kernel_rfl) (by kernel_rfl) (fun _ _ _ h => h) (Or.inl ⟨by rfl, by intro w2 hSw; (try dsimp only at hSw); have y0 := (hSw.cell (p := ⟨b9, o9 + ti * 2, none⟩) (lt_of_cell u0)).trans u0; have y1 := (hSw.cell (p := ⟨b9, o9 + ti * 2 + 1, none⟩) (lt_of_cell u1)).trans u1; have y2 := (hSw.cell (p := ⟨b9, o9 + tk * 2, none⟩) (lt_of_cell v0)).trans v0; have y3 := (hSw.cell (p := ⟨b9, o9 + tk * 2 + 1, none⟩) (lt_of_cell v1)).trans v1; go_simp⟩) hS0 ?_
    try simp only [Act.put, List.setIfInBounds_toArray, List.set_cons_zero, List.set_cons_succ]
    refine wpAnyH_take (i := 20) (oi := { dst := some 149, op := Op.load 2 (Operand.tmp 148), type := 2, pos := "outright.go:182", after := #[{ on := 19, ground := Ground.data }], guard := none }) (v := .int .i64 g2.hi) rfl (by kernel_rfl) (by kernel_rfl) (by kernel_rfl) (fun _ _ _ h => h) (Or.inl ⟨by rfl, by intro w2 hSw; (try dsimp only at hSw); have y0 := (hSw.cell (p := ⟨b9, o9 + ti * 2, none⟩) (lt_of_cell u0)).trans u0; have y1 := (hSw.cell (p := ⟨b9, o9 + ti * 2 + 1, none⟩) (lt_of_cell u1)).trans u1; have y2 := (hSw.cell (p := ⟨b9, o9 + tk * 2, none⟩) (lt_of_cell v0)).trans v0; have y3 := (hSw.cell (p := ⟨b9, o9 + tk * 2 + 1, none⟩) (lt_of_cell v1)).trans v1; go_simp⟩) hS0 ?_
    try simp only [Act.put, List.setIfInBounds_toArray, List.set_cons_zero, List.set_cons_succ]
    refine wpAnyH_take (i := 21) (oi := { dst := some 150, op := Op.call { callee := Callee.builtin Builtin.min, args := #[Operand.tmp 144, Operand.tmp 149], argTypes := #[2, 2] }, type := 2, pos := "outright.go:182", after := #[{ on := 15, ground := Ground.data }, { on := 20, ground := Ground.data }], guard := none }) (v := .int .i64 (min g1.hi g2.hi)) rfl (by kernel_rfl) (by kernel_rfl) (by kernel_rfl) (fun _ _ _ h => h) (Or.inl ⟨by rfl, by intro w2 hSw; (try dsimp only at hSw); have y0 := (hSw.cell (p := ⟨b9, o9 + ti * 2, none⟩) (lt_of_cell u0)).trans u0; have y1 := (hSw.cell (p := ⟨b9, o9 + ti * 2 + 1, none⟩) (lt_of_cell u1)).trans u1; have y2 := (hSw.cell (p := ⟨b9, o9 + tk * 2, none⟩) (lt_of_cell v0)).trans v0; have y3 := (hSw.cell (p := ⟨b9, o9 + tk * 2 + 1, none⟩) (lt_of_cell v1)).trans v1; go_simp⟩) hS0 ?_
    try simp only [Act.put, List.setIfInBounds_toArray, List.set_cons_zero, List.set_cons_succ]
    generalize w13.drew = V0 at hS0 ⊢
    refine wpAnyH_ready (rs := [22, 23]) (by kernel_rfl) (by simp) ?_
    refine AllReadyH.cons (o := { dst := some 151, op := Op.call { callee := Callee.value (Operand.func 37), args := #[Operand.tmp 139, Operand.tmp 150], argTypes := #[2, 2] }, type := 56, pos := "outright.go:182", after := #[{ on := 10, ground := Ground.data }, { on := 21, ground := Ground.data }], guard := none }) rfl (fun K2 hK => ?_) ?_
    ·go_simp
     refine (hcm _).mono ?_
     rintro e9 V1 ⟨rfl, hb6⟩
     try go_simp
     refine hK.out _ _ (hS0.trans (hb6.mono hS0.size)) (fun hV1 => ?_)
     clear hK K2
     clear hb6
     try simp only [Act.put, List.setIfInBounds_toArray, List.set_cons_zero, List.set_cons_succ]
     refine wpAnyH_ready (rs := [23]) (by kernel_rfl) (by simp) ?_
     refine AllReadyH.cons (o := { dst := some 21, op := Op.alloc 56, type := 0, pos := "outright.go:182", after := #[], guard := none }) rfl (fun K2 hK => ?_) AllReadyH.nil
     go_simp
     have hz := heap_alloc_new_ V1 (.cells #[.int .i64 0, .int .i64 0] 56)
     refine hK.out _ _ (hV1.trans ((below_alloc_ _ _).mono hV1.size)) (fun hV2 => ?_)
     clear hK K2
     have HPl := Lib.hid hV1.size
     generalize V1.alloc (.cells #[.int .i64 0, .int .i64 0] 56) = V2 at *
     obtain ⟨Pb, hPb⟩ : ∃ Pb, V1.heap.size = Pb := ⟨_, rfl⟩
     rw [hPb] at hz HPl ⊢
     clear hPb
     try simp only [Act.put, List.setIfInBounds_toArray, List.set_cons_zero, List.set_cons_succ]
     refine wpAnyH_ready (rs := [24]) (by kernel_rfl) (by simp) ?_
     refine AllReadyH.cons (o := { dst := none, op := Op.store 56 (Operand.tmp 21) (Operand.tmp 151), type := 0, pos := "outright.go:182", after := #[{ on := 23, ground := Ground.data }, { on := 22, ground := Ground.data }, { on := 22, ground := Ground.chain }, { on := 0, ground := Ground.phase }, { on := 1, ground := Ground.phase }, { on := 2, ground := Ground.phase }, { on := 3, ground := Ground.phase }, { on := 4, ground := Ground.phase }, { on := 5, ground := Ground.phase }, { on := 6, ground := Ground.phase }, { on := 7, ground := Ground.phase }, { on := 8, ground := Ground.phase }, { on := 9, ground := Ground.phase }, { on := 10, ground := Ground.phase }, { on := 11, ground := Ground.phase }, { on := 12, ground := Ground.phase }, { on := 13, ground := Ground.phase }, { on := 14, ground := Ground.phase }, { on := 15, ground := Ground.phase }, { on := 16, ground := Ground.phase }, { on := 17, ground := Ground.phase }, { on := 18, ground := Ground.phase }, { on := 19, ground := Ground.phase }, { on := 20, ground := Ground.phase }, { on := 21, ground := Ground.phase }, { on := 22, ground := Ground.phase }, { on := 23, ground := Ground.phase }], guard := none }) rfl (fun K2 hK => ?_) AllReadyH.nil
     have cz0 : V2.cell? ⟨Pb, 0, none⟩ = some (.int .i64 0) := by rw [cell_row hz]; rfl
     have cz1 : V2.cell? ⟨Pb, 1, none⟩ = some (.int .i64 0) := by rw [cell_row hz]; rfl
     have fz0 : V2.frozen? ⟨Pb, 0, none⟩ = false := frozen_row hz
     have fz1 : V2.frozen? ⟨Pb, 1, none⟩ = false := frozen_row hz
     have Hz := Lib.hid (set_same 1 (.int .i64 (min g1.hi g2.hi)) (set_same 0 (.int .i64 (max g1.lo g2.lo)) hz))
     have HS8 := Lib.hid (hV2.trans (((keeps_setCell V2 Pb 0 (.int .i64 (max g1.lo g2.lo))).trans (keeps_setCell _ Pb 1 (.int .i64 (min g1.hi g2.hi)))).below hV2.size (fun j hj e => by have := HPl.out; omega)))
     clear hz
     go_simp
     refine hK.out _ _ HS8.out (fun hS9 => ?_)
     clear hK K2 cz0 cz1 fz0 fz1
     try simp only [Act.put, List.setIfInBounds_toArray, List.set_cons_zero, List.set_cons_succ]
     refine wpAnyH_done (by kernel_rfl) ?_ _
     go_wp2_with fail
     go_meet
     case rel => exact ⟨_, rfl, Hz.out, HS8.out⟩
    refine AllReadyH.cons (o := { dst := some 21, op := Op.alloc 56, type := 0, pos := "outright.go:182", after := #[], guard := none }) rfl (fun K2 hK => ?_) ?_
    ·go_simp
     have hz := heap_alloc_new_ V0 (.cells #[.int .i64 0, .int .i64 0] 56)
     refine hK.out _ _ (hS0.trans ((below_alloc_ _ _).mono hS0.size)) (fun hV1 => ?_)
     clear hK K2
     have HPl := Lib.hid hS0.size
     generalize V0.alloc (.cells #[.int .i64 0, .int .i64 0] 56) = V1 at *
     obtain ⟨Pb, hPb⟩ : ∃ Pb, V0.heap.size = Pb := ⟨_, rfl⟩
     rw [hPb] at hz HPl ⊢
     clear hPb
     try simp only [Act.put, List.setIfInBounds_toArray, List.set_cons_zero, List.set_cons_succ]
     refine wpAnyH_ready (rs := [22]) (by kernel_rfl) (by simp) ?_
     refine AllReadyH.cons (o := { dst := some 151, op := Op.call { callee := Callee.value (Operand.func 37), args := #[Operand.tmp 139, Operand.tmp 150], argTypes := #[2, 2] }, type := 56, pos := "outright.go:182", after := #[{ on := 10, ground := Ground.data }, { on := 21, ground := Ground.data }], guard := none }) rfl (fun K2 hK => ?_) AllReadyH.nil
     go_simp
     refine (hcm _).mono ?_
     rintro e9 V2 ⟨rfl, hb6⟩
     try go_simp
     refine hK.out _ _ (hV1.trans (hb6.mono hV1.size)) (fun hV2 => ?_)
     clear hK K2
     replace hz := (hb6.block _ (lt_of_block hz)).trans hz
     clear hb6
     try simp only [Act.put, List.setIfInBounds_toArray, List.set_cons_zero, List.set_cons_succ]
     refine wpAnyH_ready (rs := [24]) (by kernel_rfl) (by simp) ?_
     refine AllReadyH.cons (o := { dst := none, op := Op.store 56 (Operand.tmp 21) (Operand.tmp 151), type := 0, pos := "outright.go:182", after := #[{ on := 23, ground := Ground.data }, { on := 22, ground := Ground.data }, { on := 22, ground := Ground.chain }, { on := 0, ground := Ground.phase }, { on := 1, ground := Ground.phase }, { on := 2, ground := Ground.phase }, { on := 3, ground := Ground.phase }, { on := 4, ground := Ground.phase }, { on := 5, ground := Ground.phase }, { on := 6, ground := Ground.phase }, { on := 7, ground := Ground.phase }, { on := 8, ground := Ground.phase }, { on := 9, ground := Ground.phase }, { on := 10, ground := Ground.phase }, { on := 11, ground := Ground.phase }, { on := 12, ground := Ground.phase }, { on := 13, ground := Ground.phase }, { on := 14, ground := Ground.phase }, { on := 15, ground := Ground.phase }, { on := 16, ground := Ground.phase }, { on := 17, ground := Ground.phase }, { on := 18, ground := Ground.phase }, { on := 19, ground := Ground.phase }, { on := 20, ground := Ground.phase }, { on := 21, ground := Ground.phase }, { on := 22, ground := Ground.phase }, { on := 23, ground := Ground.phase }], guard := none }) rfl (fun K2 hK => ?_) AllReadyH.nil
     have cz0 : V2.cell? ⟨Pb, 0, none⟩ = some (.int .i64 0) := by rw [cell_row hz]; rfl
     have cz1 : V2.cell? ⟨Pb, 1, none⟩ = some (.int .i64 0) := by rw [cell_row hz]; rfl
     have fz0 : V2.frozen? ⟨Pb, 0, none⟩ = false := frozen_row hz
     have fz1 : V2.frozen? ⟨Pb, 1, none⟩ = false := frozen_row hz
     have Hz := Lib.hid (set_same 1 (.int .i64 (min g1.hi g2.hi)) (set_same 0 (.int .i64 (max g1.lo g2.lo)) hz))
     have HS8 := Lib.hid (hV2.trans (((keeps_setCell V2 Pb 0 (.int .i64 (max g1.lo g2.lo))).trans (keeps_setCell _ Pb 1 (.int .i64 (min g1.hi g2.hi)))).below hV2.size (fun j hj e => by have := HPl.out; omega)))
     clear hz
     go_simp
     refine hK.out _ _ HS8.out (fun hS9 => ?_)
     clear hK K2 cz0 cz1 fz0 fz1
     try simp only [Act.put, List.setIfInBounds_toArray, List.set_cons_zero, List.set_cons_succ]
     refine wpAnyH_done (by kernel_rfl) ?_ _
     go_wp2_with fail
     go_meet
     case rel => exact ⟨_, rfl, Hz.out, HS8.out⟩
    exact AllReadyH.nil
   case rest =>
    obtain ⟨Pb, rfl, rP, hb⟩ := hcut
    replace B1 := Lib.hid (B1.out.trans (hb.mono B1.out.size))
    replace X0 := Lib.hid ((hb.block _ (lt_of_block X0.out)).trans X0.out)
    replace F := Lib.hid (F.out.below hb (Nat.le_refl _))
    replace R := Lib.hid (R.out.below hb (Nat.le_refl _))
    have PB := Lib.hid rP
    clear rP hb hcm u0 u1 v0 v1 ti0 ti1 tk0 tk1 dti dtk hbaL
    have p0 : wc.cell? ⟨Pb, 0, none⟩ = some (.int .i64 (max g1.lo g2.lo)) := by rw [cell_row PB.out]; rfl
    have p1 : wc.cell? ⟨Pb, 1, none⟩ = some (.int .i64 (min g1.hi g2.hi)) := by rw [cell_row PB.out]; rfl
    replace x00 : wc.cell? ⟨P0, 0, none⟩ = some (.bool true) := by rw [cell_row X0.out]; rfl
    clear x01
    have hlh : ¬ min g1.hi g2.hi < max g1.lo g2.lo := fun h => by have := NO.out h; cases this
    go_wp2_with fail
    clear p0 p1 x00
    obtain ⟨N3, hN3⟩ : ∃ N3, wc.heap.size = N3 := ⟨_, rfl⟩
    have HN3 := Lib.hid (show N3 = wc.heap.size from hN3.symm)
    clear hN3
    go_loopw [22, 23, 24] (fun va vb i wr => ∃ k : Nat, k ≤ m3 ∧ i = .int .i64 (k : Int) ∧ wr.ownsRow 0 2 1 va k (flatI (tkI x k)) ∧ wr.ownsRow 0 2 1 vb k (flatI (tkI y k)) ∧ (∀ j, va.ownBlock = some j → vb.ownBlock ≠ some j) ∧ (∀ j, va.ownBlock = some j → N3 ≤ j) ∧ (∀ j, vb.ownBlock = some j → N3 ≤ j) ∧ Below N3 wc wr) (fun va vb i _ => m3 - (intOf i).toNat)
    case atStart => exact ⟨0, Nat.zero_le _, rfl, own_nil _ _ _, own_nil _ _ _, fun j e => (by cases e), fun j e => (by cases e), fun j e => (by cases e), Below.refl _ _⟩
    case round =>
     obtain ⟨k, hk, rfl, hoa, hob, hD, hba, hbb, hS⟩ := hrel
     obtain ⟨wk, rfl⟩ : ∃ wk, wk = wr := ⟨_, rfl⟩
     have Hba := Lib.hid hba
     have Hbb := Lib.hid hbb
     have HS := Lib.hid hS
     clear hba hbb hS
     by_cases hlt : k < m3
     ·have Hkx := Lib.hid (tkI_succ x k)
      obtain ⟨b, o, rfl, hcr⟩ := R.out.2 (by omega)
      obtain ⟨c0, c1⟩ := hcr k hlt
      clear hcr
      have i0 : (0 : Int) ≤ (k : Int) := by omega
      have i1 : (k : Int) < (m3 : Int) := by omega
      have i2 : (k : Int) ≤ 24 := by omega
      have d3 : (k : Int).toNat = k := by omega
      rw [gAt_spn x y hlt] at c0 c1
      dsimp only at c0 c1
      have Hky := Lib.hid (tkI_succ y k)
      obtain ⟨lo, hlo⟩ : ∃ lo, iAt x k = lo := ⟨_, rfl⟩
      obtain ⟨hi, hhi⟩ : ∃ hi, iAt y k = hi := ⟨_, rfl⟩
      rw [hlo] at c0 Hkx
      rw [hhi] at c1 Hky
      clear hlo hhi
      obtain ⟨w3, hw3⟩ : ∃ w3, w3 = wc := ⟨_, rfl⟩
      rw [← hw3] at c0 c1 HS HN3
      have Hoa := Lib.hid hoa
      have Hob := Lib.hid hob
      have HD := Lib.hid hD
      clear hoa hob hD
      go_wp2_with fail
      have hoa := Hoa.out
      have hob := Hob.out
      have hD := HD.out
      clear Hoa Hob HD
      refine wp_region_held_drew (S := fun w2 => Below N3 w3 w2) (by kernel_rfl) (HS.out.trans ((drew_b _ _).mono (by have := HS.out.size; have := HN3.out; omega))) (fun hS0 => ?_)
      refine wpAnyH_take (i := 0) (oi := { dst := some 167, op := Op.move (Operand.tmp 22), type := 23, pos := "outright.go:188", after := #[], guard := none }) (v := u22) rfl (by kernel_rfl) (by kernel_rfl) (by kernel_rfl) (fun _ _ _ h => h) (Or.inl ⟨by rfl, by intro w2 hSw; (try dsimp only at hSw); have e0 := (hSw.cell (p := ⟨b, o + k * 2, none⟩) (Nat.lt_of_lt_of_eq (lt_of_cell c0) HN3.out.symm)).trans c0; have e1 := (hSw.cell (p := ⟨b, o + k * 2 + 1, none⟩) (Nat.lt_of_lt_of_eq (lt_of_cell c1) HN3.out.symm)).trans c1; go_simp⟩) hS0 ?_
      try simp only [Act.put, List.setIfInBounds_toArray, List.set_cons_zero, List.set_cons_succ]
      refine wpAnyH_take (i := 1) (oi := { dst := some 168, op := Op.move (Operand.tmp 19), type := 22, pos := "outright.go:188", after := #[], guard := none }) (v := .slice (some ⟨b, o, none⟩) m3 cpr) rfl (by kernel_rfl) (by kernel_rfl) (by kernel_rfl) (fun _ _ _ h => h) (Or.inl ⟨by rfl, by intro w2 hSw; (try dsimp only at hSw); have e0 := (hSw.cell (p := ⟨b, o + k * 2, none⟩) (Nat.lt_of_lt_of_eq (lt_of_cell c0) HN3.out.symm)).trans c0; have e1 := (hSw.cell (p := ⟨b, o + k * 2 + 1, none⟩) (Nat.lt_of_lt_of_eq (lt_of_cell c1) HN3.out.symm)).trans c1; go_simp⟩) hS0 ?_
      try simp only [Act.put, List.setIfInBounds_toArray, List.set_cons_zero, List.set_cons_succ]
      refine wpAnyH_take (i := 2) (oi := { dst := some 169, op := Op.move (Operand.tmp 24), type := 3, pos := "outright.go:188", after := #[], guard := none }) (v := .int .i64 (k : Int)) rfl (by kernel_rfl) (by kernel_rfl) (by kernel_rfl) (fun _ _ _ h => h) (Or.inl ⟨by rfl, by intro w2 hSw; (try dsimp only at hSw); have e0 := (hSw.cell (p := ⟨b, o + k * 2, none⟩) (Nat.lt_of_lt_of_eq (lt_of_cell c0) HN3.out.symm)).trans c0; have e1 := (hSw.cell (p := ⟨b, o + k * 2 + 1, none⟩) (Nat.lt_of_lt_of_eq (lt_of_cell c1) HN3.out.symm)).trans c1; go_simp⟩) hS0 ?_
      try simp only [Act.put, List.setIfInBounds_toArray, List.set_cons_zero, List.set_cons_succ]
      refine wpAnyH_take (i := 3) (oi := { dst := some 170, op := Op.indexAddr 22 (Operand.tmp 168) (Operand.tmp 169), type := 0, pos := "outright.go:188", after := #[{ on := 1, ground := Ground.data }, { on := 2, ground := Ground.data }], guard := none }) (v := .pointer (some ⟨b, o + k * 2, none⟩)) rfl (by kernel_rfl) (by kernel_rfl) (by kernel_rfl) (fun _ _ _ h => h) (Or.inl ⟨by rfl, by intro w2 hSw; (try dsimp only at hSw); have e0 := (hSw.cell (p := ⟨b, o + k * 2, none⟩) (Nat.lt_of_lt_of_eq (lt_of_cell c0) HN3.out.symm)).trans c0; have e1 := (hSw.cell (p := ⟨b, o + k * 2 + 1, none⟩) (Nat.lt_of_lt_of_eq (lt_of_cell c1) HN3.out.symm)).trans c1; go_simp⟩) hS0 ?_
      try simp only [Act.put, List.setIfInBounds_toArray, List.set_cons_zero, List.set_cons_succ]
      refine wpAnyH_take (i := 4) (oi := { dst := some 171, op := Op.fieldAddr 56 (Operand.tmp 170) 0, type := 0, pos := "outright.go:188", after := #[{ on := 3, ground := Ground.data }], guard := none }) (v := .pointer (some ⟨b, o + k * 2, none⟩)) rfl (by kernel_rfl) (by kernel_rfl) (by kernel_rfl) (fun _ _ _ h => h) (Or.inl ⟨by rfl, by intro w2 hSw; (try dsimp only at hSw); have e0 := (hSw.cell (p := ⟨b, o + k * 2, none⟩) (Nat.lt_of_lt_of_eq (lt_of_cell c0) HN3.out.symm)).trans c0; have e1 := (hSw.cell (p := ⟨b, o + k * 2 + 1, none⟩) (Nat.lt_of_lt_of_eq (lt_of_cell c1) HN3.out.symm)).trans c1; go_simp⟩) hS0 ?_
      try simp only [Act.put, List.setIfInBounds_toArray, List.set_cons_zero, List.set_cons_succ]
      refine wpAnyH_take (i := 5) (oi := { dst := some 172, op := Op.load 2 (Operand.tmp 171), type := 2, pos := "outright.go:188", after := #[{ on := 4, ground := Ground.data }], guard := none }) (v := .int .i64 lo) rfl (by kernel_rfl) (by kernel_rfl) (by kernel_rfl) (fun _ _ _ h => h) (Or.inl ⟨by rfl, by intro w2 hSw; (try dsimp only at hSw); have e0 := (hSw.cell (p := ⟨b, o + k * 2, none⟩) (Nat.lt_of_lt_of_eq (lt_of_cell c0) HN3.out.symm)).trans c0; have e1 := (hSw.cell (p := ⟨b, o + k * 2 + 1, none⟩) (Nat.lt_of_lt_of_eq (lt_of_cell c1) HN3.out.symm)).trans c1; go_simp⟩) hS0 ?_
      try simp only [Act.put, List.setIfInBounds_toArray, List.set_cons_zero, List.set_cons_succ]
      refine wpAnyH_take (i := 8) (oi := { dst := some 175, op := Op.move (Operand.tmp 23), type := 23, pos := "outright.go:188", after := #[], guard := none }) (v := u23) rfl (by kernel_rfl) (by kernel_rfl) (by kernel_rfl) (fun _ _ _ h => h) (Or.inl ⟨by rfl, by intro w2 hSw; (try dsimp only at hSw); have e0 := (hSw.cell (p := ⟨b, o + k * 2, none⟩) (Nat.lt_of_lt_of_eq (lt_of_cell c0) HN3.out.symm)).trans c0; have e1 := (hSw.cell (p := ⟨b, o + k * 2 + 1, none⟩) (Nat.lt_of_lt_of_eq (lt_of_cell c1) HN3.out.symm)).trans c1; go_simp⟩) hS0 ?_
      try simp only [Act.put, List.setIfInBounds_toArray, List.set_cons_zero, List.set_cons_succ]
      refine wpAnyH_take (i := 9) (oi := { dst := some 176, op := Op.move (Operand.tmp 19), type := 22, pos := "outright.go:188", after := #[], guard := none }) (v := .slice (some ⟨b, o, none⟩) m3 cpr) rfl (by kernel_rfl) (by kernel_rfl) (by kernel_rfl) (fun _ _ _ h => h) (Or.inl ⟨by rfl, by intro w2 hSw; (try dsimp only at hSw); have e0 := (hSw.cell (p := ⟨b, o + k * 2, none⟩) (Nat.lt_of_lt_of_eq (lt_of_cell c0) HN3.out.symm)).trans c0; have e1 := (hSw.cell (p := ⟨b, o + k * 2 + 1, none⟩) (Nat.lt_of_lt_of_eq (lt_of_cell c1) HN3.out.symm)).trans c1; go_simp⟩) hS0 ?_
      try simp only [Act.put, List.setIfInBounds_toArray, List.set_cons_zero, List.set_cons_succ]
      refine wpAnyH_take (i := 10) (oi := { dst := some 177, op := Op.move (Operand.tmp 24), type := 3, pos := "outright.go:188", after := #[], guard := none }) (v := .int .i64 (k : Int)) rfl (by kernel_rfl) (by kernel_rfl) (by kernel_rfl) (fun _ _ _ h => h) (Or.inl ⟨by rfl, by intro w2 hSw; (try dsimp only at hSw); have e0 := (hSw.cell (p := ⟨b, o + k * 2, none⟩) (Nat.lt_of_lt_of_eq (lt_of_cell c0) HN3.out.symm)).trans c0; have e1 := (hSw.cell (p := ⟨b, o + k * 2 + 1, none⟩) (Nat.lt_of_lt_of_eq (lt_of_cell c1) HN3.out.symm)).trans c1; go_simp⟩) hS0 ?_
      try simp only [Act.put, List.setIfInBounds_toArray, List.set_cons_zero, List.set_cons_succ]
      refine wpAnyH_take (i := 11) (oi := { dst := some 178, op := Op.indexAddr 22 (Operand.tmp 176) (Operand.tmp 177), type := 0, pos := "outright.go:188", after := #[{ on := 9, ground := Ground.data }, { on := 10, ground := Ground.data }], guard := none }) (v := .pointer (some ⟨b, o + k * 2, none⟩)) rfl (by kernel_rfl) (by kernel_rfl) (by kernel_rfl) (fun _ _ _ h => h) (Or.inl ⟨by rfl, by intro w2 hSw; (try dsimp only at hSw); have e0 := (hSw.cell (p := ⟨b, o + k * 2, none⟩) (Nat.lt_of_lt_of_eq (lt_of_cell c0) HN3.out.symm)).trans c0; have e1 := (hSw.cell (p := ⟨b, o + k * 2 + 1, none⟩) (Nat.lt_of_lt_of_eq (lt_of_cell c1) HN3.out.symm)).trans c1; go_simp⟩) hS0 ?_
      try simp only [Act.put, List.setIfInBounds_toArray, List.set_cons_zero, List.set_cons_succ]
      refine wpAnyH_take (i := 12) (oi := { dst := some 179, op := Op.fieldAddr 56 (Operand.tmp 178) 1, type := 0, pos := "outright.go:188", after := #[{ on := 11, ground := Ground.data }], guard := none }) (v := .pointer (some ⟨b, o + k * 2 + 1, none⟩)) rfl (by kernel_rfl) (by kernel_rfl) (by kernel_rfl) (fun _ _ _ h => h) (Or.inl ⟨by rfl, by intro w2 hSw; (try dsimp only at hSw); have e0 := (hSw.cell (p := ⟨b, o + k * 2, none⟩) (Nat.lt_of_lt_of_eq (lt_of_cell c0) HN3.out.symm)).trans c0; have e1 := (hSw.cell (p := ⟨b, o + k * 2 + 1, none⟩) (Nat.lt_of_lt_of_eq (lt_of_cell c1) HN3.out.symm)).trans c1; go_simp⟩) hS0 ?_
      try simp only [Act.put, List.setIfInBounds_toArray, List.set_cons_zero, List.set_cons_succ]
      refine wpAnyH_take (i := 13) (oi := { dst := some 180, op := Op.load 2 (Operand.tmp 179), type := 2, pos := "outright.go:188", after := #[{ on := 12, ground := Ground.data }], guard := none }) (v := .int .i64 hi) rfl (by kernel_rfl) (by kernel_rfl) (by kernel_rfl) (fun _ _ _ h => h) (Or.inl ⟨by rfl, by intro w2 hSw; (try dsimp only at hSw); have e0 := (hSw.cell (p := ⟨b, o + k * 2, none⟩) (Nat.lt_of_lt_of_eq (lt_of_cell c0) HN3.out.symm)).trans c0; have e1 := (hSw.cell (p := ⟨b, o + k * 2 + 1, none⟩) (Nat.lt_of_lt_of_eq (lt_of_cell c1) HN3.out.symm)).trans c1; go_simp⟩) hS0 ?_
      try simp only [Act.put, List.setIfInBounds_toArray, List.set_cons_zero, List.set_cons_succ]
      have hoa : wk.drew.ownsRow 0 2 1 u22 k (flatI (tkI x k)) := hoa
      have hob : wk.drew.ownsRow 0 2 1 u23 k (flatI (tkI y k)) := hob
      generalize wk.drew = V0 at hS0 hoa hob ⊢
      have hV0 := hS0
      clear hS0
      refine wpAnyH_ready (rs := [6, 14]) (by kernel_rfl) (by simp) ?_
      refine AllReadyH.cons (o := { dst := some 173, op := Op.buildSlice 23 1 #[(0, Operand.tmp 172)], type := 23, pos := "outright.go:188", after := #[{ on := 5, ground := Ground.data }], guard := none }) rfl (fun K2 hK => ?_) ?_
      ·go_simp
       have hs9 : N3 ≤ V0.heap.size := by have := hV0.size; have := HN3.out; omega
       refine hK.out _ _ (hV0.trans ((below_alloc_ _ _).mono hs9)) (fun hV1 => ?_)
       clear hK K2
       have hza := heap_alloc_new_ V0 (.cells #[.int .i64 lo] 2)
       have hb := below_alloc_ V0 (.cells #[.int .i64 lo] 2)
       have hnaa := Lib.hid (show ∀ j, u22.ownBlock = some j → j ≠ V0.heap.size from fun j e e2 => by have := own_lt hoa j e; omega)
       have hnba := Lib.hid (show ∀ j, u23.ownBlock = some j → j ≠ V0.heap.size from fun j e e2 => by have := own_lt hob j e; omega)
       replace hoa := own_keep hoa (Keeps.of_new (Mut := fun _ => False) hb) (fun _ _ e => e)
       replace hob := own_keep hob (Keeps.of_new (Mut := fun _ => False) hb) (fun _ _ e => e)
       generalize V0.alloc (.cells #[.int .i64 lo] 2) = V1 at *
       obtain ⟨Za, hZ⟩ : ∃ Za, V0.heap.size = Za := ⟨_, rfl⟩
       rw [hZ] at hza hnaa hnba ⊢
       clear hZ hb hs9
       try simp only [Act.put, List.setIfInBounds_toArray, List.set_cons_zero, List.set_cons_succ]
       refine wpAnyH_ready (rs := [7, 14]) (by kernel_rfl) (by simp) ?_
       refine AllReadyH.cons (o := { dst := some 174, op := Op.call { callee := Callee.builtin Builtin.append, args := #[Operand.tmp 167, Operand.tmp 173], argTypes := #[23, 23] }, type := 23, pos := "outright.go:188", after := #[{ on := 0, ground := Ground.data }, { on := 6, ground := Ground.data }], guard := none }) rfl (fun K2 hK => ?_) ?_
       ·have hs9 : N3 ≤ V1.heap.size := by have := hV1.size; have := HN3.out; omega
        obtain ⟨vva, V2, hap, hqa, hqb, hD2, hbl2, hB9, hkp⟩ := app_two hoa hob hD hza Hba.out hs9 (by omega)
        have hrun := run_app hap
        clear hap
        have hV2h := Lib.hid (hV1.trans hB9)
        replace hoa := hqa
        replace hob := hqb
        replace hD : ∀ j, vva.ownBlock = some j → u23.ownBlock ≠ some j := hD2
        have Hba := Lib.hid hbl2
        have Hoa := Lib.hid hoa
        have Hob := Lib.hid hob
        have HD := Lib.hid hD
        clear hqa hqb hD2 hbl2 hB9 hkp hs9 hoa hob hD hza
        go_simp
        try rw [hrun]
        try go_simp
        refine hK.out _ _ hV2h.out (fun hV2 => ?_)
        clear hK K2 hrun hV2h
        have hoa := Hoa.out
        have hob := Hob.out
        have hD := HD.out
        clear Hoa Hob HD
        try simp only [Act.put, List.setIfInBounds_toArray, List.set_cons_zero, List.set_cons_succ]
        refine wpAnyH_ready (rs := [14]) (by kernel_rfl) (by simp) ?_
        refine AllReadyH.cons (o := { dst := some 181, op := Op.buildSlice 23 1 #[(0, Operand.tmp 180)], type := 23, pos := "outright.go:188", after := #[{ on := 13, ground := Ground.data }], guard := none }) rfl (fun K2 hK => ?_) ?_
        ·go_simp
         have hs9 : N3 ≤ V2.heap.size := by have := hV2.size; have := HN3.out; omega
         refine hK.out _ _ (hV2.trans ((below_alloc_ _ _).mono hs9)) (fun hV3 => ?_)
         clear hK K2
         have hzb := heap_alloc_new_ V2 (.cells #[.int .i64 hi] 2)
         have hb := below_alloc_ V2 (.cells #[.int .i64 hi] 2)
         have hnbb := Lib.hid (show ∀ j, u23.ownBlock = some j → j ≠ V2.heap.size from fun j e e2 => by have := own_lt hob j e; omega)
         replace hoa := own_keep hoa (Keeps.of_new (Mut := fun _ => False) hb) (fun _ _ e => e)
         replace hob := own_keep hob (Keeps.of_new (Mut := fun _ => False) hb) (fun _ _ e => e)
         generalize V2.alloc (.cells #[.int .i64 hi] 2) = V3 at *
         obtain ⟨Zb, hZ⟩ : ∃ Zb, V2.heap.size = Zb := ⟨_, rfl⟩
         rw [hZ] at hzb hnbb ⊢
         clear hZ hb hs9
         try simp only [Act.put, List.setIfInBounds_toArray, List.set_cons_zero, List.set_cons_succ]
         refine wpAnyH_ready (rs := [15]) (by kernel_rfl) (by simp) ?_
         refine AllReadyH.cons (o := { dst := some 182, op := Op.call { callee := Callee.builtin Builtin.append, args := #[Operand.tmp 175, Operand.tmp 181], argTypes := #[23, 23] }, type := 23, pos := "outright.go:188", after := #[{ on := 8, ground := Ground.data }, { on := 14, ground := Ground.data }, { on := 7, ground := Ground.chain }], guard := none }) rfl (fun K2 hK => ?_) ?_
         ·have hs9 : N3 ≤ V3.heap.size := by have := hV3.size; have := HN3.out; omega
          obtain ⟨vvb, V4, hap, hqb, hqa, hD2, hbl2, hB9, hkp⟩ := app_two hob hoa (fun j e e2 => hD j e2 e) hzb Hbb.out hs9 (by omega)
          have hrun := run_app hap
          clear hap
          have hV4h := Lib.hid (hV3.trans hB9)
          replace hob := hqb
          replace hoa := hqa
          replace hD : ∀ j, vva.ownBlock = some j → vvb.ownBlock ≠ some j := fun j e e2 => hD2 j e2 e
          have Hbb := Lib.hid hbl2
          have Hoa := Lib.hid hoa
          have Hob := Lib.hid hob
          have HD := Lib.hid hD
          clear hqb hqa hD2 hbl2 hB9 hkp hs9 hoa hob hD hzb
          go_simp
          try rw [hrun]
          try go_simp
          refine hK.out _ _ hV4h.out (fun hV4 => ?_)
          clear hK K2 hrun hV4h
          have hoa := Hoa.out
          have hob := Hob.out
          have hD := HD.out
          clear Hoa Hob HD
          try simp only [Act.put, List.setIfInBounds_toArray, List.set_cons_zero, List.set_cons_succ]
          refine wpAnyH_take (i := 16) (oi := { dst := some 22, op := Op.assign (Operand.tmp 174), type := 23, pos := "outright.go:188", after := #[{ on := 7, ground := Ground.data }, { on := 15, ground := Ground.chain }, { on := 0, ground := Ground.phase }, { on := 1, ground := Ground.phase }, { on := 2, ground := Ground.phase }, { on := 3, ground := Ground.phase }, { on := 4, ground := Ground.phase }, { on := 5, ground := Ground.phase }, { on := 6, ground := Ground.phase }, { on := 7, ground := Ground.phase }, { on := 8, ground := Ground.textOnly Departure.lateStores }, { on := 9, ground := Ground.textOnly Departure.lateStores }, { on := 10, ground := Ground.textOnly Departure.lateStores }, { on := 11, ground := Ground.textOnly Departure.lateStores }, { on := 12, ground := Ground.textOnly Departure.lateStores }, { on := 13, ground := Ground.textOnly Departure.lateStores }, { on := 14, ground := Ground.textOnly Departure.lateStores }, { on := 15, ground := Ground.textOnly Departure.lateStoresUnsure }], guard := none }) (v := vva) rfl (by kernel_rfl) (by kernel_rfl) (by kernel_rfl) (fun _ _ _ h => h) (Or.inl ⟨by rfl, by intro w2 hSw; (try dsimp only at hSw);  go_simp⟩) hV4 ?_
          try simp only [Act.put, List.setIfInBounds_toArray, List.set_cons_zero, List.set_cons_succ]
          refine wpAnyH_take (i := 17) (oi := { dst := some 23, op := Op.assign (Operand.tmp 182), type := 23, pos := "outright.go:188", after := #[{ on := 15, ground := Ground.data }, { on := 16, ground := Ground.chain }, { on := 0, ground := Ground.phase }, { on := 1, ground := Ground.phase }, { on := 2, ground := Ground.phase }, { on := 3, ground := Ground.phase }, { on := 4, ground := Ground.phase }, { on := 5, ground := Ground.phase }, { on := 6, ground := Ground.phase }, { on := 7, ground := Ground.phase }, { on := 8, ground := Ground.phase }, { on := 9, ground := Ground.phase }, { on := 10, ground := Ground.phase }, { on := 11, ground := Ground.phase }, { on := 12, ground := Ground.phase }, { on := 13, ground := Ground.phase }, { on := 14, ground := Ground.phase }, { on := 15, ground := Ground.phase }, { on := 16, ground := Ground.phase }], guard := none }) (v := vvb) rfl (by kernel_rfl) (by kernel_rfl) (by kernel_rfl) (fun _ _ _ h => h) (Or.inl ⟨by rfl, by intro w2 hSw; (try dsimp only at hSw);  go_simp⟩) hV4 ?_
          try simp only [Act.put, List.setIfInBounds_toArray, List.set_cons_zero, List.set_cons_succ]
          have Hoa := Lib.hid hoa
          have Hob := Lib.hid hob
          have HD := Lib.hid hD
          have HS9 := Lib.hid hV4
          clear hoa hob hD
          refine wpAnyH_done (by kernel_rfl) ?_ _
          go_wp2_with fail
          go_roundw
          case rel => exact ⟨k + 1, by omega, by go_num, by rw [Hkx.out, flatI_snoc]; exact Hoa.out, by rw [Hky.out, flatI_snoc]; exact Hob.out, HD.out, Hba.out, Hbb.out, by rw [← hw3]; exact HS9.out⟩
          case measure => simp [intOf]; omega
         exact AllReadyH.nil
        exact AllReadyH.nil
       refine AllReadyH.cons (o := { dst := some 181, op := Op.buildSlice 23 1 #[(0, Operand.tmp 180)], type := 23, pos := "outright.go:188", after := #[{ on := 13, ground := Ground.data }], guard := none }) rfl (fun K2 hK => ?_) ?_
       ·go_simp
        have hs9 : N3 ≤ V1.heap.size := by have := hV1.size; have := HN3.out; omega
        refine hK.out _ _ (hV1.trans ((below_alloc_ _ _).mono hs9)) (fun hV2 => ?_)
        clear hK K2
        have hzb := heap_alloc_new_ V1 (.cells #[.int .i64 hi] 2)
        have hb := below_alloc_ V1 (.cells #[.int .i64 hi] 2)
        replace hza := (hb.block _ (lt_of_block hza)).trans hza
        have hnab := Lib.hid (show ∀ j, u22.ownBlock = some j → j ≠ V1.heap.size from fun j e e2 => by have := own_lt hoa j e; omega)
        have hnbb := Lib.hid (show ∀ j, u23.ownBlock = some j → j ≠ V1.heap.size from fun j e e2 => by have := own_lt hob j e; omega)
        replace hoa := own_keep hoa (Keeps.of_new (Mut := fun _ => False) hb) (fun _ _ e => e)
        replace hob := own_keep hob (Keeps.of_new (Mut := fun _ => False) hb) (fun _ _ e => e)
        generalize V1.alloc (.cells #[.int .i64 hi] 2) = V2 at *
        obtain ⟨Zb, hZ⟩ : ∃ Zb, V1.heap.size = Zb := ⟨_, rfl⟩
        rw [hZ] at hzb hnab hnbb ⊢
        clear hZ hb hs9
        try simp only [Act.put, List.setIfInBounds_toArray, List.set_cons_zero, List.set_cons_succ]
        refine wpAnyH_ready (rs := [7]) (by kernel_rfl) (by simp) ?_
        refine AllReadyH.cons (o := { dst := some 174, op := Op.call { callee := Callee.builtin Builtin.append, args := #[Operand.tmp 167, Operand.tmp 173], argTypes := #[23, 23] }, type := 23, pos := "outright.go:188", after := #[{ on := 0, ground := Ground.data }, { on := 6, ground := Ground.data }], guard := none }) rfl (fun K2 hK => ?_) ?_
        ·have hs9 : N3 ≤ V2.heap.size := by have := hV2.size; have := HN3.out; omega
         obtain ⟨vva, V3, hap, hqa, hqb, hD2, hbl2, hB9, hkp⟩ := app_two hoa hob hD hza Hba.out hs9 (by omega)
         have hrun := run_app hap
         clear hap
         replace hzb := hkp _ _ hzb (fun e => hnab.out _ e rfl)
         have hV3h := Lib.hid (hV2.trans hB9)
         replace hoa := hqa
         replace hob := hqb
         replace hD : ∀ j, vva.ownBlock = some j → u23.ownBlock ≠ some j := hD2
         have Hba := Lib.hid hbl2
         have Hoa := Lib.hid hoa
         have Hob := Lib.hid hob
         have HD := Lib.hid hD
         have Hzb := Lib.hid hzb
         clear hzb
         clear hqa hqb hD2 hbl2 hB9 hkp hs9 hoa hob hD hza
         go_simp
         try rw [hrun]
         try go_simp
         refine hK.out _ _ hV3h.out (fun hV3 => ?_)
         clear hK K2 hrun hV3h
         have hoa := Hoa.out
         have hob := Hob.out
         have hD := HD.out
         clear Hoa Hob HD
         have hzb := Hzb.out
         clear Hzb
         try simp only [Act.put, List.setIfInBounds_toArray, List.set_cons_zero, List.set_cons_succ]
         refine wpAnyH_ready (rs := [15]) (by kernel_rfl) (by simp) ?_
         refine AllReadyH.cons (o := { dst := some 182, op := Op.call { callee := Callee.builtin Builtin.append, args := #[Operand.tmp 175, Operand.tmp 181], argTypes := #[23, 23] }, type := 23, pos := "outright.go:188", after := #[{ on := 8, ground := Ground.data }, { on := 14, ground := Ground.data }, { on := 7, ground := Ground.chain }], guard := none }) rfl (fun K2 hK => ?_) ?_
         ·have hs9 : N3 ≤ V3.heap.size := by have := hV3.size; have := HN3.out; omega
          obtain ⟨vvb, V4, hap, hqb, hqa, hD2, hbl2, hB9, hkp⟩ := app_two hob hoa (fun j e e2 => hD j e2 e) hzb Hbb.out hs9 (by omega)
          have hrun := run_app hap
          clear hap
          have hV4h := Lib.hid (hV3.trans hB9)
          replace hob := hqb
          replace hoa := hqa
          replace hD : ∀ j, vva.ownBlock = some j → vvb.ownBlock ≠ some j := fun j e e2 => hD2 j e2 e
          have Hbb := Lib.hid hbl2
          have Hoa := Lib.hid hoa
          have Hob := Lib.hid hob
          have HD := Lib.hid hD
          clear hqb hqa hD2 hbl2 hB9 hkp hs9 hoa hob hD hzb
          go_simp
          try rw [hrun]
          try go_simp
          refine hK.out _ _ hV4h.out (fun hV4 => ?_)
          clear hK K2 hrun hV4h
          have hoa := Hoa.out
          have hob := Hob.out
          have hD := HD.out
          clear Hoa Hob HD
          try simp only [Act.put, List.setIfInBounds_toArray, List.set_cons_zero, List.set_cons_succ]
          refine wpAnyH_take (i := 16) (oi := { dst := some 22, op := Op.assign (Operand.tmp 174), type := 23, pos := "outright.go:188", after := #[{ on := 7, ground := Ground.data }, { on := 15, ground := Ground.chain }, { on := 0, ground := Ground.phase }, { on := 1, ground := Ground.phase }, { on := 2, ground := Ground.phase }, { on := 3, ground := Ground.phase }, { on := 4, ground := Ground.phase }, { on := 5, ground := Ground.phase }, { on := 6, ground := Ground.phase }, { on := 7, ground := Ground.phase }, { on := 8, ground := Ground.textOnly Departure.lateStores }, { on := 9, ground := Ground.textOnly Departure.lateStores }, { on := 10, ground := Ground.textOnly Departure.lateStores }, { on := 11, ground := Ground.textOnly Departure.lateStores }, { on := 12, ground := Ground.textOnly Departure.lateStores }, { on := 13, ground := Ground.textOnly Departure.lateStores }, { on := 14, ground := Ground.textOnly Departure.lateStores }, { on := 15, ground := Ground.textOnly Departure.lateStoresUnsure }], guard := none }) (v := vva) rfl (by kernel_rfl) (by kernel_rfl) (by kernel_rfl) (fun _ _ _ h => h) (Or.inl ⟨by rfl, by intro w2 hSw; (try dsimp only at hSw);  go_simp⟩) hV4 ?_
          try simp only [Act.put, List.setIfInBounds_toArray, List.set_cons_zero, List.set_cons_succ]
          refine wpAnyH_take (i := 17) (oi := { dst := some 23, op := Op.assign (Operand.tmp 182), type := 23, pos := "outright.go:188", after := #[{ on := 15, ground := Ground.data }, { on := 16, ground := Ground.chain }, { on := 0, ground := Ground.phase }, { on := 1, ground := Ground.phase }, { on := 2, ground := Ground.phase }, { on := 3, ground := Ground.phase }, { on := 4, ground := Ground.phase }, { on := 5, ground := Ground.phase }, { on := 6, ground := Ground.phase }, { on := 7, ground := Ground.phase }, { on := 8, ground := Ground.phase }, { on := 9, ground := Ground.phase }, { on := 10, ground := Ground.phase }, { on := 11, ground := Ground.phase }, { on := 12, ground := Ground.phase }, { on := 13, ground := Ground.phase }, { on := 14, ground := Ground.phase }, { on := 15, ground := Ground.phase }, { on := 16, ground := Ground.phase }], guard := none }) (v := vvb) rfl (by kernel_rfl) (by kernel_rfl) (by kernel_rfl) (fun _ _ _ h => h) (Or.inl ⟨by rfl, by intro w2 hSw; (try dsimp only at hSw);  go_simp⟩) hV4 ?_
          try simp only [Act.put, List.setIfInBounds_toArray, List.set_cons_zero, List.set_cons_succ]
          have Hoa := Lib.hid hoa
          have Hob := Lib.hid hob
          have HD := Lib.hid hD
          have HS9 := Lib.hid hV4
          clear hoa hob hD
          refine wpAnyH_done (by kernel_rfl) ?_ _
          go_wp2_with fail
          go_roundw
          case rel => exact ⟨k + 1, by omega, by go_num, by rw [Hkx.out, flatI_snoc]; exact Hoa.out, by rw [Hky.out, flatI_snoc]; exact Hob.out, HD.out, Hba.out, Hbb.out, by rw [← hw3]; exact HS9.out⟩
          case measure => simp [intOf]; omega
         exact AllReadyH.nil
        exact AllReadyH.nil
       exact AllReadyH.nil
      refine AllReadyH.cons (o := { dst := some 181, op := Op.buildSlice 23 1 #[(0, Operand.tmp 180)], type := 23, pos := "outright.go:188", after := #[{ on := 13, ground := Ground.data }], guard := none }) rfl (fun K2 hK => ?_) ?_
      ·go_simp
       have hs9 : N3 ≤ V0.heap.size := by have := hV0.size; have := HN3.out; omega
       refine hK.out _ _ (hV0.trans ((below_alloc_ _ _).mono hs9)) (fun hV1 => ?_)
       clear hK K2
       have hzb := heap_alloc_new_ V0 (.cells #[.int .i64 hi] 2)
       have hb := below_alloc_ V0 (.cells #[.int .i64 hi] 2)
       have hnab := Lib.hid (show ∀ j, u22.ownBlock = some j → j ≠ V0.heap.size from fun j e e2 => by have := own_lt hoa j e; omega)
       have hnbb := Lib.hid (show ∀ j, u23.ownBlock = some j → j ≠ V0.heap.size from fun j e e2 => by have := own_lt hob j e; omega)
       replace hoa := own_keep hoa (Keeps.of_new (Mut := fun _ => False) hb) (fun _ _ e => e)
       replace hob := own_keep hob (Keeps.of_new (Mut := fun _ => False) hb) (fun _ _ e => e)
       generalize V0.alloc (.cells #[.int .i64 hi] 2) = V1 at *
       obtain ⟨Zb, hZ⟩ : ∃ Zb, V0.heap.size = Zb := ⟨_, rfl⟩
       rw [hZ] at hzb hnab hnbb ⊢
       clear hZ hb hs9
       try simp only [Act.put, List.setIfInBounds_toArray, List.set_cons_zero, List.set_cons_succ]
       refine wpAnyH_ready (rs := [6]) (by kernel_rfl) (by simp) ?_
       refine AllReadyH.cons (o := { dst := some 173, op := Op.buildSlice 23 1 #[(0, Operand.tmp 172)], type := 23, pos := "outright.go:188", after := #[{ on := 5, ground := Ground.data }], guard := none }) rfl (fun K2 hK => ?_) ?_
       ·go_simp
        have hs9 : N3 ≤ V1.heap.size := by have := hV1.size; have := HN3.out; omega
        refine hK.out _ _ (hV1.trans ((below_alloc_ _ _).mono hs9)) (fun hV2 => ?_)
        clear hK K2
        have hza := heap_alloc_new_ V1 (.cells #[.int .i64 lo] 2)
        have hb := below_alloc_ V1 (.cells #[.int .i64 lo] 2)
        replace hzb := (hb.block _ (lt_of_block hzb)).trans hzb
        have hnaa := Lib.hid (show ∀ j, u22.ownBlock = some j → j ≠ V1.heap.size from fun j e e2 => by have := own_lt hoa j e; omega)
        have hnba := Lib.hid (show ∀ j, u23.ownBlock = some j → j ≠ V1.heap.size from fun j e e2 => by have := own_lt hob j e; omega)
        replace hoa := own_keep hoa (Keeps.of_new (Mut := fun _ => False) hb) (fun _ _ e => e)
        replace hob := own_keep hob (Keeps.of_new (Mut := fun _ => False) hb) (fun _ _ e => e)
        generalize V1.alloc (.cells #[.int .i64 lo] 2) = V2 at *
        obtain ⟨Za, hZ⟩ : ∃ Za, V1.heap.size = Za := ⟨_, rfl⟩
        rw [hZ] at hza hnaa hnba ⊢
        clear hZ hb hs9
        try simp only [Act.put, List.setIfInBounds_toArray, List.set_cons_zero, List.set_cons_succ]
        refine wpAnyH_ready (rs := [7]) (by kernel_rfl) (by simp) ?_
        refine AllReadyH.cons (o := { dst := some 174, op := Op.call { callee := Callee.builtin Builtin.append, args := #[Operand.tmp 167, Operand.tmp 173], argTypes := #[23, 23] }, type := 23, pos := "outright.go:188", after := #[{ on := 0, ground := Ground.data }, { on := 6, ground := Ground.data }], guard := none }) rfl (fun K2 hK => ?_) ?_
        ·have hs9 : N3 ≤ V2.heap.size := by have := hV2.size; have := HN3.out; omega
         obtain ⟨vva, V3, hap, hqa, hqb, hD2, hbl2, hB9, hkp⟩ := app_two hoa hob hD hza Hba.out hs9 (by omega)
         have hrun := run_app hap
         clear hap
         replace hzb := hkp _ _ hzb (fun e => hnab.out _ e rfl)
         have hV3h := Lib.hid (hV2.trans hB9)
         replace hoa := hqa
         replace hob := hqb
         replace hD : ∀ j, vva.ownBlock = some j → u23.ownBlock ≠ some j := hD2
         have Hba := Lib.hid hbl2
         have Hoa := Lib.hid hoa
         have Hob := Lib.hid hob
         have HD := Lib.hid hD
         have Hzb := Lib.hid hzb
         clear hzb
         clear hqa hqb hD2 hbl2 hB9 hkp hs9 hoa hob hD hza
         go_simp
         try rw [hrun]
         try go_simp
         refine hK.out _ _ hV3h.out (fun hV3 => ?_)
         clear hK K2 hrun hV3h
         have hoa := Hoa.out
         have hob := Hob.out
         have hD := HD.out
         clear Hoa Hob HD
         have hzb := Hzb.out
         clear Hzb
         try simp only [Act.put, List.setIfInBounds_toArray, List.set_cons_zero, List.set_cons_succ]
         refine wpAnyH_ready (rs := [15]) (by kernel_rfl) (by simp) ?_
         refine AllReadyH.cons (o := { dst := some 182, op := Op.call { callee := Callee.builtin Builtin.append, args := #[Operand.tmp 175, Operand.tmp 181], argTypes := #[23, 23] }, type := 23, pos := "outright.go:188", after := #[{ on := 8, ground := Ground.data }, { on := 14, ground := Ground.data }, { on := 7, ground := Ground.chain }], guard := none }) rfl (fun K2 hK => ?_) ?_
         ·have hs9 : N3 ≤ V3.heap.size := by have := hV3.size; have := HN3.out; omega
          obtain ⟨vvb, V4, hap, hqb, hqa, hD2, hbl2, hB9, hkp⟩ := app_two hob hoa (fun j e e2 => hD j e2 e) hzb Hbb.out hs9 (by omega)
          have hrun := run_app hap
          clear hap
          have hV4h := Lib.hid (hV3.trans hB9)
          replace hob := hqb
          replace hoa := hqa
          replace hD : ∀ j, vva.ownBlock = some j → vvb.ownBlock ≠ some j := fun j e e2 => hD2 j e2 e
          have Hbb := Lib.hid hbl2
          have Hoa := Lib.hid hoa
          have Hob := Lib.hid hob
          have HD := Lib.hid hD
          clear hqb hqa hD2 hbl2 hB9 hkp hs9 hoa hob hD hzb
          go_simp
          try rw [hrun]
          try go_simp
          refine hK.out _ _ hV4h.out (fun hV4 => ?_)
          clear hK K2 hrun hV4h
          have hoa := Hoa.out
          have hob := Hob.out
          have hD := HD.out
          clear Hoa Hob HD
          try simp only [Act.put, List.setIfInBounds_toArray, List.set_cons_zero, List.set_cons_succ]
          refine wpAnyH_take (i := 16) (oi := { dst := some 22, op := Op.assign (Operand.tmp 174), type := 23, pos := "outright.go:188", after := #[{ on := 7, ground := Ground.data }, { on := 15, ground := Ground.chain }, { on := 0, ground := Ground.phase }, { on := 1, ground := Ground.phase }, { on := 2, ground := Ground.phase }, { on := 3, ground := Ground.phase }, { on := 4, ground := Ground.phase }, { on := 5, ground := Ground.phase }, { on := 6, ground := Ground.phase }, { on := 7, ground := Ground.phase }, { on := 8, ground := Ground.textOnly Departure.lateStores }, { on := 9, ground := Ground.textOnly Departure.lateStores }, { on := 10, ground := Ground.textOnly Departure.lateStores }, { on := 11, ground := Ground.textOnly Departure.lateStores }, { on := 12, ground := Ground.textOnly Departure.lateStores }, { on := 13, ground := Ground.textOnly Departure.lateStores }, { on := 14, ground := Ground.textOnly Departure.lateStores }, { on := 15, ground := Ground.textOnly Departure.lateStoresUnsure }], guard := none }) (v := vva) rfl (by kernel_rfl) (by kernel_rfl) (by kernel_rfl) (fun _ _ _ h => h) (Or.inl ⟨by rfl, by intro w2 hSw; (try dsimp only at hSw);  go_simp⟩) hV4 ?_
          try simp only [Act.put, List.setIfInBounds_toArray, List.set_cons_zero, List.set_cons_succ]
          refine wpAnyH_take (i := 17) (oi := { dst := some 23, op := Op.assign (Operand.tmp 182), type := 23, pos := "outright.go:188", after := #[{ on := 15, ground := Ground.data }, { on := 16, ground := Ground.chain }, { on := 0, ground := Ground.phase }, { on := 1, ground := Ground.phase }, { on := 2, ground := Ground.phase }, { on := 3, ground := Ground.phase }, { on := 4, ground := Ground.phase }, { on := 5, ground := Ground.phase }, { on := 6, ground := Ground.phase }, { on := 7, ground := Ground.phase }, { on := 8, ground := Ground.phase }, { on := 9, ground := Ground.phase }, { on := 10, ground := Ground.phase }, { on := 11, ground := Ground.phase }, { on := 12, ground := Ground.phase }, { on := 13, ground := Ground.phase }, { on := 14, ground := Ground.phase }, { on := 15, ground := Ground.phase }, { on := 16, ground := Ground.phase }], guard := none }) (v := vvb) rfl (by kernel_rfl) (by kernel_rfl) (by kernel_rfl) (fun _ _ _ h => h) (Or.inl ⟨by rfl, by intro w2 hSw; (try dsimp only at hSw);  go_simp⟩) hV4 ?_
          try simp only [Act.put, List.setIfInBounds_toArray, List.set_cons_zero, List.set_cons_succ]
          have Hoa := Lib.hid hoa
          have Hob := Lib.hid hob
          have HD := Lib.hid hD
          have HS9 := Lib.hid hV4
          clear hoa hob hD
          refine wpAnyH_done (by kernel_rfl) ?_ _
          go_wp2_with fail
          go_roundw
          case rel => exact ⟨k + 1, by omega, by go_num, by rw [Hkx.out, flatI_snoc]; exact Hoa.out, by rw [Hky.out, flatI_snoc]; exact Hob.out, HD.out, Hba.out, Hbb.out, by rw [← hw3]; exact HS9.out⟩
          case measure => simp [intOf]; omega
         exact AllReadyH.nil
        exact AllReadyH.nil
       exact AllReadyH.nil
      exact AllReadyH.nil
     ·have e' : k = m3 := by omega
      subst e'
      have hxk : tkI x k = x := by have := tkI_all x; rwa [Hlx.out] at this
      have hyk : tkI y k = y := by have := tkI_all y; rwa [Hly.out] at this
      rw [hxk] at hoa
      rw [hyk] at hob
      obtain ⟨Ca, ca, rfl, hca, hia, -⟩ := ints_own Hlx.out hoa
      obtain ⟨Cb, cb, rfl, hcb, hib, -⟩ := ints_own Hly.out hob
      have hb : Below wc.heap.size wc wk := by rw [← HN3.out]; exact HS.out
      replace B1 := Lib.hid (B1.out.trans (hb.mono B1.out.size))
      replace X0 := Lib.hid ((hb.block _ (lt_of_block X0.out)).trans X0.out)
      replace F := Lib.hid (F.out.below hb (Nat.le_refl _))
      replace R := Lib.hid (R.out.below hb (Nat.le_refl _))
      replace PB := Lib.hid ((hb.block _ (lt_of_block PB.out)).trans PB.out)
      have LA := Lib.hid hia
      have LB := Lib.hid hib
      clear hb hoa hob hia hib hxk hyk hD Hba Hbb HS hca hcb hlt hk HN3
      go_wp2_with fail
      refine (by36 _ n cap zs C1 m1 cap1 us wk (S0.out.below B1.out (Nat.le_refl _)) (U0.out.below B1.out (Nat.le_refl _)) HZ.out hm1).mono ?_
      rintro en w14 ⟨z, Dz, cpz, hzc, rfl, hlz, hi, hf, hb⟩
      replace B1 := Lib.hid (B1.out.trans (hb.mono B1.out.size))
      replace X0 := Lib.hid ((hb.block _ (lt_of_block X0.out)).trans X0.out)
      replace F := Lib.hid (F.out.below hb (Nat.le_refl _))
      replace PB := Lib.hid ((hb.block _ (lt_of_block PB.out)).trans PB.out)
      replace LA := Lib.hid (LA.out.below hb (Nat.le_refl _))
      replace LB := Lib.hid (LB.out.below hb (Nat.le_refl _))
      obtain ⟨lz, hlz2⟩ : ∃ lz, z.length = lz := ⟨_, rfl⟩
      rw [hlz2] at hi
      rw [hlz2]
      have hlz24 : lz ≤ 24 := by have := ((ckSc_iff HZ.out).1 hzc).2.1; omega
      have LZ := Lib.hid hi
      clear hb hi hf hlz hlz2 hzc
      go_wp2_with fail
      have hrow := heap_alloc_new_ w14 (.cells #[.slice Ds k cps, .slice Ca k ca, .slice Cb k cb, .slice Dz lz cpz, .slice C2 m2 cap2] 23)
      have hb := below_alloc_ w14 (.cells #[.slice Ds k cps, .slice Ca k ca, .slice Cb k cb, .slice Dz lz cpz, .slice C2 m2 cap2] 23)
      obtain ⟨w15, hV⟩ : ∃ w15, w14.alloc (.cells #[.slice Ds k cps, .slice Ca k ca, .slice Cb k cb, .slice Dz lz cpz, .slice C2 m2 cap2] 23) = w15 := ⟨_, rfl⟩
      rw [hV] at hrow hb ⊢
      clear hV
      replace B1 := Lib.hid (B1.out.trans (hb.mono B1.out.size))
      replace X0 := Lib.hid ((hb.block _ (lt_of_block X0.out)).trans X0.out)
      replace F := Lib.hid (F.out.below hb (Nat.le_refl _))
      replace PB := Lib.hid ((hb.block _ (lt_of_block PB.out)).trans PB.out)
      replace LA := Lib.hid (LA.out.below hb (Nat.le_refl _))
      replace LB := Lib.hid (LB.out.below hb (Nat.le_refl _))
      replace LZ := Lib.hid (LZ.out.below hb (Nat.le_refl _))
      obtain ⟨Q, hQ⟩ : ∃ Q, w14.heap.size = Q := ⟨_, rfl⟩
      rw [hQ] at hrow ⊢
      have Row := Lib.hid hrow
      clear hb hQ hrow
      have HL := Lib.hid (show ∀ q : Nat, q < 5 → ∃ (Cg : Option Addr) (mg cg : Nat) (gs : List Int), w15.cell? ⟨Q, q, none⟩ = some (.slice Cg mg cg) ∧ Ints w15 Cg mg gs ∧ mg ≤ 9223372036854775807 from by
       intro q hq
       rcases (by omega : q = 0 ∨ q = 1 ∨ q = 2 ∨ q = 3 ∨ q = 4) with rfl | rfl | rfl | rfl | rfl
       ·exact ⟨Ds, k, cps, s, by rw [cell_row Row.out]; rfl, F.out, by omega⟩
       ·exact ⟨Ca, k, ca, x, by rw [cell_row Row.out]; rfl, LA.out, by omega⟩
       ·exact ⟨Cb, k, cb, y, by rw [cell_row Row.out]; rfl, LB.out, by omega⟩
       ·exact ⟨Dz, lz, cpz, z, by rw [cell_row Row.out]; rfl, LZ.out, by omega⟩
       ·exact ⟨C2, m2, cap2, gv, by rw [cell_row Row.out]; rfl, N0.out.below B1.out (Nat.le_refl _), hm2⟩)
      clear F LA LB LZ Row HNl
      go_loopw [26] (fun i wr => ∃ q : Nat, q ≤ 5 ∧ i = .int .i64 (q : Int) ∧ Below w15.heap.size w15 wr) (fun i _ => 5 - (intOf i).toNat)
      case atStart => exact ⟨0, by omega, rfl, Below.refl _ _⟩
      case round =>
       obtain ⟨q, hq, rfl, hB⟩ := hrel
       obtain ⟨wq, rfl⟩ : ∃ wq, wq = wr := ⟨_, rfl⟩
       have B7 := Lib.hid hB
       have B9 := Lib.hid (B1.out.trans (hB.mono B1.out.size))
       by_cases hlt : q < 5
       rotate_left
       ·clear HL
        go_wp2_with fail
        refine (works15 _).mono ?_
        rintro en wz ⟨rfl, hb9⟩
        replace B9 := Lib.hid (B9.out.trans (hb9.mono B9.out.size))
        clear hb9
        go_wp2_with fail
        go_ret
        exact ⟨rfl, B0.out.trans (B9.out.mono B0.out.size)⟩
       ·obtain ⟨Cg, mg, cg, gs, hcell, hgi, hgm⟩ := HL.out q hlt
        have c9 : wq.cell? ⟨Q, q, none⟩ = some (.slice Cg mg cg) := (hB.cell (p := ⟨Q, q, none⟩) (lt_of_cell hcell)).trans hcell
        have HC := Lib.hid hcell
        have G := Lib.hid (hgi.below hB (Nat.le_refl _))
        have S9 := Lib.hid (S0.out.below B9.out (Nat.le_refl _))
        have i0 : (0 : Int) ≤ (q : Int) := by omega
        have i1 : (q : Int) < 5 := by omega
        have d3 : (q : Int).toNat = q := by omega
        clear hB hcell hgi
        by_cases hmk : mg = k
        rotate_left
        ·have d5 : ((mg : Int) == (k : Int)) = false := by rw [beq_eq_false_iff_ne]; omega
         have d8 : (mg == k) = false := by rw [beq_eq_false_iff_ne]; exact hmk
         go_wp2_with fail
         go_roundw
         case rel => exact ⟨q + 1, by omega, by go_num, B7.out⟩
         case measure => simp [intOf]; omega
        ·have hmk' : k = mg := hmk.symm
         subst hmk'
         clear hmk
         go_wp2_with fail
         refine (refScale21 _ n cap zs Cg k cg gs wq S9.out G.out hn).mono ?_
         rintro en w16 ⟨rfl, hb⟩
         replace G := Lib.hid (G.out.below hb (Nat.le_refl _))
         replace B7 := Lib.hid (B7.out.trans (hb.mono B7.out.size))
         replace B9 := Lib.hid (B9.out.trans (hb.mono B9.out.size))
         clear hb
         by_cases he : ckSc zs gs = 0
         rotate_left
         ·obtain ⟨eg, heg⟩ : ∃ eg, ckSc zs gs = eg := ⟨_, rfl⟩
          rw [heg] at he ⊢
          have d7 : (eg == 0) = false := by rw [beq_eq_false_iff_ne]; exact he
          clear he heg
          go_wp2_with fail
          go_roundw
          case rel => exact ⟨q + 1, by omega, by go_num, B7.out⟩
          case measure => simp [intOf]; omega
         ·have ho9 := ON.out gs he (by have := G.out.1; have := Hls.out; omega)
          rw [he]
          clear he c9
          obtain ⟨on, hon⟩ : ∃ on, meets gs (comm g1 g2) = on := ⟨_, rfl⟩
          rw [hon] at ho9
          have Ho9 := Lib.hid ho9
          have hcm := fun W h => meets38 (comm g1 g2) Cg k cg gs W h (by omega)
          rw [hon] at hcm
          simp only [comm] at hcm
          clear hon ho9
          have c9 : w16.cell? ⟨Q, q, none⟩ = some (.slice Cg k cg) := (B7.out.cell (p := ⟨Q, q, none⟩) (lt_of_cell HC.out)).trans HC.out
          have rP := (B7.out.block _ (lt_of_block PB.out)).trans PB.out
          have rX := (B7.out.block _ (lt_of_block X0.out)).trans X0.out
          have p0 : w16.cell? ⟨Pb, 0, none⟩ = some (.int .i64 (max g1.lo g2.lo)) := by rw [cell_row rP]; rfl
          have p1 : w16.cell? ⟨Pb, 1, none⟩ = some (.int .i64 (min g1.hi g2.hi)) := by rw [cell_row rP]; rfl
          go_wp2_with fail
          refine wp_region_held_drew (S := fun w2 => Below w16.heap.size w16 w2) (by kernel_rfl) (drew_b _ _) (fun hS0 => ?_)
          refine wpAnyH_take (i := 0) (oi := { dst := some 212, op := Op.load 56 (Operand.tmp 21), type := 56, pos := "outright.go:195", after := #[], guard := none }) (v := .agg #[.int .i64 (max g1.lo g2.lo), .int .i64 (min g1.hi g2.hi)]) rfl (by kernel_rfl) (by kernel_rfl) (by kernel_rfl) (fun _ _ _ h => h) (Or.inl ⟨by rfl, by intro w2 hSw; (try dsimp only at hSw); have y0 := (hSw.cell (p := ⟨Pb, 0, none⟩) (lt_of_cell p0)).trans p0; have y1 := (hSw.cell (p := ⟨Pb, 1, none⟩) (lt_of_cell p1)).trans p1; have y2 := (hSw.cell (p := ⟨Q, q, none⟩) (lt_of_cell c9)).trans c9; go_simp⟩) hS0 ?_
          try simp only [Act.put, List.setIfInBounds_toArray, List.set_cons_zero, List.set_cons_succ]
          refine wpAnyH_take (i := 1) (oi := { dst := some 213, op := Op.move (Operand.tmp 25), type := 57, pos := "outright.go:195", after := #[], guard := none }) (v := .slice (some ⟨Q, 0, none⟩) 5 5) rfl (by kernel_rfl) (by kernel_rfl) (by kernel_rfl) (fun _ _ _ h => h) (Or.inl ⟨by rfl, by intro w2 hSw; (try dsimp only at hSw); have y0 := (hSw.cell (p := ⟨Pb, 0, none⟩) (lt_of_cell p0)).trans p0; have y1 := (hSw.cell (p := ⟨Pb, 1, none⟩) (lt_of_cell p1)).trans p1; have y2 := (hSw.cell (p := ⟨Q, q, none⟩) (lt_of_cell c9)).trans c9; go_simp⟩) hS0 ?_
          try simp only [Act.put, List.setIfInBounds_toArray, List.set_cons_zero, List.set_cons_succ]
          refine wpAnyH_take (i := 2) (oi := { dst := some 214, op := Op.move (Operand.tmp 26), type := 3, pos := "outright.go:195", after := #[], guard := none }) (v := .int .i64 (q : Int)) rfl (by kernel_rfl) (by kernel_rfl) (by kernel_rfl) (fun _ _ _ h => h) (Or.inl ⟨by rfl, by intro w2 hSw; (try dsimp only at hSw); have y0 := (hSw.cell (p := ⟨Pb, 0, none⟩) (lt_of_cell p0)).trans p0; have y1 := (hSw.cell (p := ⟨Pb, 1, none⟩) (lt_of_cell p1)).trans p1; have y2 := (hSw.cell (p := ⟨Q, q, none⟩) (lt_of_cell c9)).trans c9; go_simp⟩) hS0 ?_
          try simp only [Act.put, List.setIfInBounds_toArray, List.set_cons_zero, List.set_cons_succ]
          refine wpAnyH_take (i := 3) (oi := { dst := some 215, op := Op.indexAddr 57 (Operand.tmp 213) (Operand.tmp 214), type := 0, pos := "outright.go:195", after := #[{ on := 1, ground := Ground.data }, { on := 2, ground := Ground.data }], guard := none }) (v := .pointer (some ⟨Q, q, none⟩)) rfl (by kernel_rfl) (by kernel_rfl) (by kernel_rfl) (fun _ _ _ h => h) (Or.inl ⟨by rfl, by intro w2 hSw; (try dsimp only at hSw); have y0 := (hSw.cell (p := ⟨Pb, 0, none⟩) (lt_of_cell p0)).trans p0; have y1 := (hSw.cell (p := ⟨Pb, 1, none⟩) (lt_of_cell p1)).trans p1; have y2 := (hSw.cell (p := ⟨Q, q, none⟩) (lt_of_cell c9)).trans c9; go_simp⟩) hS0 ?_
          try simp only [Act.put, List.setIfInBounds_toArray, List.set_cons_zero, List.set_cons_succ]
          refine wpAnyH_take (i := 4) (oi := { dst := some 216, op := Op.load 23 (Operand.tmp 215), type := 23, pos := "outright.go:195", after := #[{ on := 3, ground := Ground.data }], guard := none }) (v := .slice Cg k cg) rfl (by kernel_rfl) (by kernel_rfl) (by kernel_rfl) (fun _ _ _ h => h) (Or.inl ⟨by rfl, by intro w2 hSw; (try dsimp only at hSw); have y0 := (hSw.cell (p := ⟨Pb, 0, none⟩) (lt_of_cell p0)).trans p0; have y1 := (hSw.cell (p := ⟨Pb, 1, none⟩) (lt_of_cell p1)).trans p1; have y2 := (hSw.cell (p := ⟨Q, q, none⟩) (lt_of_cell c9)).trans c9; go_simp⟩) hS0 ?_
          try simp only [Act.put, List.setIfInBounds_toArray, List.set_cons_zero, List.set_cons_succ]
          refine wpAnyH_ready (rs := [5]) (by kernel_rfl) (by simp) ?_
          refine AllReadyH.cons (o := { dst := some 217, op := Op.call { callee := Callee.value (Operand.func 38), args := #[Operand.tmp 212, Operand.tmp 216], argTypes := #[56, 23] }, type := 4, pos := "outright.go:195", after := #[{ on := 0, ground := Ground.data }, { on := 4, ground := Ground.data }], guard := none }) rfl (fun K2 hK => ?_) AllReadyH.nil
          go_simp
          refine (hcm _ (G.out.below hS0 (Nat.le_refl _))).mono ?_
          rintro e9 V1 ⟨rfl, hb6⟩
          try go_simp
          refine hK.out _ _ (hS0.trans (hb6.mono hS0.size)) (fun hS1 => ?_)
          clear hK K2 hb6
          try simp only [Act.put, List.setIfInBounds_toArray, List.set_cons_zero, List.set_cons_succ]
          refine wpAnyH_take (i := 6) (oi := { dst := some 27, op := Op.assign (Operand.tmp 217), type := 4, pos := "outright.go:195", after := #[{ on := 5, ground := Ground.data }, { on := 5, ground := Ground.chain }, { on := 0, ground := Ground.phase }, { on := 1, ground := Ground.phase }, { on := 2, ground := Ground.phase }, { on := 3, ground := Ground.phase }, { on := 4, ground := Ground.phase }, { on := 5, ground := Ground.phase }], guard := none }) (v := .bool on) rfl (by kernel_rfl) (by kernel_rfl) (by kernel_rfl) (fun _ _ _ h => h) (Or.inl ⟨by rfl, by intro w2 hSw; (try dsimp only at hSw); have y0 := (hSw.cell (p := ⟨Pb, 0, none⟩) (lt_of_cell p0)).trans p0; have y1 := (hSw.cell (p := ⟨Pb, 1, none⟩) (lt_of_cell p1)).trans p1; have y2 := (hSw.cell (p := ⟨Q, q, none⟩) (lt_of_cell c9)).trans c9; go_simp⟩) hS1 ?_
          try simp only [Act.put, List.setIfInBounds_toArray, List.set_cons_zero, List.set_cons_succ]
          refine wpAnyH_done (by kernel_rfl) ?_ _
          have B8 := Lib.hid (B7.out.trans (hS1.mono B7.out.size))
          have x0 : V1.cell? ⟨P0, 0, none⟩ = some (.bool true) := (hS1.cell (p := ⟨P0, 0, none⟩) (lt_of_block rX)).trans (by rw [cell_row rX]; rfl)
          have x1 : V1.cell? ⟨P0, 1, none⟩ = some (.bool true) := (hS1.cell (p := ⟨P0, 1, none⟩) (lt_of_block rX)).trans (by rw [cell_row rX]; rfl)
          clear hS1 hS0 p0 p1 c9 rP rX hcm
          obtain rfl : on = true := Ho9.out.1 (by simp)
          go_wp2_with fail
          go_roundw
          case rel => exact ⟨q + 1, by omega, by go_num, B8.out⟩
          case measure => simp [intOf]; omega
  ·clear HMM
   have x00 : w13.cell? ⟨P0, 0, none⟩ = some (.bool true) := by rw [cell_row X0.out]; rfl
   have x01 : w13.cell? ⟨P0, 1, none⟩ = some (.bool false) := by rw [cell_row X0.out]; rfl
   have x10 : w13.cell? ⟨P1, 0, none⟩ = some (.bool true) := by rw [cell_row X1.out]; rfl
   have x11 : w13.cell? ⟨P1, 1, none⟩ = some (.bool false) := by rw [cell_row X1.out]; rfl
   have x20 : w13.cell? ⟨P2, 0, none⟩ = some (.bool true) := by rw [cell_row X2.out]; rfl
   have x21 : w13.cell? ⟨P2, 1, none⟩ = some (.bool true) := by rw [cell_row X2.out]; rfl
   have q1 : ∀ W, (binOp .neq 43 (.agg #[.bool true, .bool false]) (.agg #[.bool true, .bool false])).run Try.prog W = .ok (.bool false) W := fun W => run_neS true false W
   have q2 : ∀ W, (binOp .neq 43 (.agg #[.bool true, .bool true]) (.agg #[.bool true, .bool true])).run Try.prog W = .ok (.bool false) W := fun W => run_neS true true W
   go_wp2_with fail
   clear x10 x11 x20 x21 q1 q2 X1 X2
   have hS9 := S0.out.below B1.out (Nat.le_refl _)
   obtain ⟨b9, o9, hA9, hcr⟩ := hS9.2 (by omega)
   obtain ⟨u0, u1⟩ := hcr ti htin
   obtain ⟨v0, v1⟩ := hcr tk htkn
   have hbaL := lt_of_cell u0
   clear hcr hS9
   obtain ⟨g1, hg1⟩ : ∃ g, gAt zs ti = g := ⟨_, rfl⟩
   obtain ⟨g2, hg2⟩ : ∃ g, gAt zs tk = g := ⟨_, rfl⟩
   rw [hg1] at u0 u1
   rw [hg2] at v0 v1
   have ti0 : (0 : Int) ≤ (ti : Int) := by omega
   have ti1 : (ti : Int) < (n : Int) := by omega
   have tk0 : (0 : Int) ≤ (tk : Int) := by omega
   have tk1 : (tk : Int) < (n : Int) := by omega
   have dti : (ti : Int).toNat = ti := by omega
   have dtk : (tk : Int).toNat = tk := by omega
   have hcm := fun W => rg37 (max g1.lo g2.lo) (min g1.hi g2.hi) W
   have ON := Lib.hid (fun st (a1 : ckSc zs st = 0) (a2 : st.length = s.length) => sr_on HZ.out HIK.out.1 HIK.out.2 HS0.out HSU.out a1 a2)
   have NO := Lib.hid (sr_none HZ.out HIK.out.1 HIK.out.2 HS0.out)
   rw [hg1, hg2] at ON NO
   clear hg1 hg2
   subst hA9
   go_cut [21] from 129 to 151 (fun v21 wx => ∃ Pb : Nat, v21 = .pointer (some ⟨Pb, 0, none⟩) ∧ wx.heap[Pb]? = some (.cells #[.int .i64 (max g1.lo g2.lo), .int .i64 (min g1.hi g2.hi)] 56 (0, 0)) ∧ Below w13.heap.size w13 wx)
   case first =>
    refine wp_region_held_drew (S := fun w2 => Below w13.heap.size w13 w2) (by kernel_rfl) (drew_b _ _) (fun hS0 => ?_)
    refine wpAnyH_take (i := 0) (oi := { dst := some 129, op := Op.move (Operand.tmp 0), type := 22, pos := "outright.go:182", after := #[], guard := none }) (v := .slice (some ⟨b9, o9, none⟩) n cap) rfl (by kernel_rfl) (by kernel_rfl) (by kernel_rfl) (fun _ _ _ h => h) (Or.inl ⟨by rfl, by intro w2 hSw; (try dsimp only at hSw); have y0 := (hSw.cell (p := ⟨b9, o9 + ti * 2, none⟩) (lt_of_cell u0)).trans u0; have y1 := (hSw.cell (p := ⟨b9, o9 + ti * 2 + 1, none⟩) (lt_of_cell u1)).trans u1; have y2 := (hSw.cell (p := ⟨b9, o9 + tk * 2, none⟩) (lt_of_cell v0)).trans v0; have y3 := (hSw.cell (p := ⟨b9, o9 + tk * 2 + 1, none⟩) (lt_of_cell v1)).trans v1; go_simp⟩) hS0 ?_
    try simp only [Act.put, List.setIfInBounds_toArray, List.set_cons_zero, List.set_cons_succ]
    refine wpAnyH_take (i := 1) (oi := { dst := some 130, op := Op.move (Operand.tmp 9), type := 3, pos := "outright.go:182", after := #[], guard := none }) (v := .int .i64 (ti : Int)) rfl (by kernel_rfl) (by kernel_rfl) (by kernel_rfl) (fun _ _ _ h => h) (Or.inl ⟨by rfl, by intro w2 hSw; (try dsimp only at hSw); have y0 := (hSw.cell (p := ⟨b9, o9 + ti * 2, none⟩) (lt_of_cell u0)).trans u0; have y1 := (hSw.cell (p := ⟨b9, o9 + ti * 2 + 1, none⟩) (lt_of_cell u1)).trans u1; have y2 := (hSw.cell (p := ⟨b9, o9 + tk * 2, none⟩) (lt_of_cell v0)).trans v0; have y3 := (hSw.cell (p := ⟨b9, o9 + tk * 2 + 1, none⟩) (lt_of_cell v1)).trans v1; go_simp⟩) hS0 ?_
    try simp only [Act.put, List.setIfInBounds_toArray, List.set_cons_zero, List.set_cons_succ]
    refine wpAnyH_take (i := 2) (oi := { dst := some 131, op := Op.indexAddr 22 (Operand.tmp 129) (Operand.tmp 130), type := 0, pos := "outright.go:182", after := #[{ on := 0, ground := Ground.data }, { on := 1, ground := Ground.data }], guard := none }) (v := .pointer (some ⟨b9, o9 + ti * 2, none⟩)) rfl (by kernel_rfl) (by kernel_rfl) (by kernel_rfl) (fun _ _ _ h => h) (Or.inl ⟨by rfl, by intro w2 hSw; (try dsimp only at hSw); have y0 := (hSw.cell (p := ⟨b9, o9 + ti * 2, none⟩) (lt_of_cell u0)).trans u0; have y1 := (hSw.cell (p := ⟨b9, o9 + ti * 2 + 1, none⟩) (lt_of_cell u1)).trans u1; have y2 := (hSw.cell (p := ⟨b9, o9 + tk * 2, none⟩) (lt_of_cell v0)).trans v0; have y3 := (hSw.cell (p := ⟨b9, o9 + tk * 2 + 1, none⟩) (lt_of_cell v1)).trans v1; go_simp⟩) hS0 ?_
    try simp only [Act.put, List.setIfInBounds_toArray, List.set_cons_zero, List.set_cons_succ]
    refine wpAnyH_take (i := 3) (oi := { dst := some 132, op := Op.fieldAddr 56 (Operand.tmp 131) 0, type := 0, pos := "outright.go:182", after := #[{ on := 2, ground := Ground.data }], guard := none }) (v := .pointer (some ⟨b9, o9 + ti * 2, none⟩)) rfl (by kernel_rfl) (by kernel_rfl) (by kernel_rfl) (fun _ _ _ h => h) (Or.inl ⟨by rfl, by intro w2 hSw; (try dsimp only at hSw); have y0 := (hSw.cell (p := ⟨b9, o9 + ti * 2, none⟩) (lt_of_cell u0)).trans u0; have y1 := (hSw.cell (p := ⟨b9, o9 + ti * 2 + 1, none⟩) (lt_of_cell u1)).trans u1; have y2 := (hSw.cell (p := ⟨b9, o9 + tk * 2, none⟩) (lt_of_cell v0)).trans v0; have y3 := (hSw.cell (p := ⟨b9, o9 + tk * 2 + 1, none⟩) (lt_of_cell v1)).trans v1; go_simp⟩) hS0 ?_
    try simp only [Act.put, List.setIfInBounds_toArray, List.set_cons_zero, List.set_cons_succ]
    refine wpAnyH_take (i := 4) (oi := { dst := some 133, op := Op.load 2 (Operand.tmp 132), type := 2, pos := "outright.go:182", after := #[{ on := 3, ground := Ground.data }], guard := none }) (v := .int .i64 g1.lo) rfl (by kernel_rfl) (by kernel_rfl) (by kernel_rfl) (fun _ _ _ h => h) (Or.inl ⟨by rfl, by intro w2 hSw; (try dsimp only at hSw); have y0 := (hSw.cell (p := ⟨b9, o9 + ti * 2, none⟩) (lt_of_cell u0)).trans u0; have y1 := (hSw.cell (p := ⟨b9, o9 + ti * 2 + 1, none⟩) (lt_of_cell u1)).trans u1; have y2 := (hSw.cell (p := ⟨b9, o9 + tk * 2, none⟩) (lt_of_cell v0)).trans v0; have y3 := (hSw.cell (p := ⟨b9, o9 + tk * 2 + 1, none⟩) (lt_of_cell v1)).trans v1; go_simp⟩) hS0 ?_
    try simp only [Act.put, List.setIfInBounds_toArray, List.set_cons_zero, List.set_cons_succ]
    refine wpAnyH_take (i := 5) (oi := { dst := some 134, op := Op.move (Operand.tmp 0), type := 22, pos := "outright.go:182", after := #[], guard := none }) (v := .slice (some ⟨b9, o9, none⟩) n cap) rfl (by kernel_rfl) (by kernel_rfl) (by kernel_rfl) (fun _ _ _ h => h) (Or.inl ⟨by rfl, by intro w2 hSw; (try dsimp only at hSw); have y0 := (hSw.cell (p := ⟨b9, o9 + ti * 2, none⟩) (lt_of_cell u0)).trans u0; have y1 := (hSw.cell (p := ⟨b9, o9 + ti * 2 + 1, none⟩) (lt_of_cell u1)).trans u1; have y2 := (hSw.cell (p := ⟨b9, o9 + tk * 2, none⟩) (lt_of_cell v0)).trans v0; have y3 := (hSw.cell (p := ⟨b9, o9 + tk * 2 + 1, none⟩) (lt_of_cell v1)).trans v1; go_simp⟩) hS0 ?_
    try simp only [Act.put, List.setIfInBounds_toArray, List.set_cons_zero, List.set_cons_succ]
    refine wpAnyH_take (i := 6) (oi := { dst := some 135, op := Op.move (Operand.tmp 10), type := 3, pos := "outright.go:182", after := #[], guard := none }) (v := .int .i64 (tk : Int)) rfl (by kernel_rfl) (by kernel_rfl) (by kernel_rfl) (fun _ _ _ h => h) (Or.inl ⟨by rfl, by intro w2 hSw; (try dsimp only at hSw); have y0 := (hSw.cell (p := ⟨b9, o9 + ti * 2, none⟩) (lt_of_cell u0)).trans u0; have y1 := (hSw.cell (p := ⟨b9, o9 + ti * 2 + 1, none⟩) (lt_of_cell u1)).trans u1; have y2 := (hSw.cell (p := ⟨b9, o9 + tk * 2, none⟩) (lt_of_cell v0)).trans v0; have y3 := (hSw.cell (p := ⟨b9, o9 + tk * 2 + 1, none⟩) (lt_of_cell v1)).trans v1; go_simp⟩) hS0 ?_
    try simp only [Act.put, List.setIfInBounds_toArray, List.set_cons_zero, List.set_cons_succ]
    refine wpAnyH_take (i := 7) (oi := { dst := some 136, op := Op.indexAddr 22 (Operand.tmp 134) (Operand.tmp 135), type := 0, pos := "outright.go:182", after := #[{ on := 5, ground := Ground.data }, { on := 6, ground := Ground.data }], guard := none }) (v := .pointer (some ⟨b9, o9 + tk * 2, none⟩)) rfl (by kernel_rfl) (by kernel_rfl) (by kernel_rfl) (fun _ _ _ h => h) (Or.inl ⟨by rfl, by intro w2 hSw; (try dsimp only at hSw); have y0 := (hSw.cell (p := ⟨b9, o9 + ti * 2, none⟩) (lt_of_cell u0)).trans u0; have y1 := (hSw.cell (p := ⟨b9, o9 + ti * 2 + 1, none⟩) (lt_of_cell u1)).trans u1; have y2 := (hSw.cell (p := ⟨b9, o9 + tk * 2, none⟩) (lt_of_cell v0)).trans v0; have y3 := (hSw.cell (p := ⟨b9, o9 + tk * 2 + 1, none⟩) (lt_of_cell v1)).trans v1; go_simp⟩) hS0 ?_
    try simp only [Act.put, List.setIfInBounds_toArray, List.set_cons_zero, List.set_cons_succ]
    refine wpAnyH_take (i := 8) (oi := { dst := some 137, op := Op.fieldAddr 56 (Operand.tmp 136) 0, type := 0, pos := "outright.go:182", after := #[{ on := 7, ground := Ground.data }], guard := none }) (v := .pointer (some ⟨b9, o9 + tk * 2, none⟩)) rfl (by kernel_rfl) (by kernel_rfl) (by kernel_rfl) (fun _ _ _ h => h) (Or.inl ⟨by rfl, by intro w2 hSw; (try dsimp only at hSw); have y0 := (hSw.cell (p := ⟨b9, o9 + ti * 2, none⟩) (lt_of_cell u0)).trans u0; have y1 := (hSw.cell (p := ⟨b9, o9 + ti * 2 + 1, none⟩) (lt_of_cell u1)).trans u1; have y2 := (hSw.cell (p := ⟨b9, o9 + tk * 2, none⟩) (lt_of_cell v0)).trans v0; have y3 := (hSw.cell (p := ⟨b9, o9 + tk * 2 + 1, none⟩) (lt_of_cell v1)).trans v1; go_simp⟩) hS0 ?_
    try simp only [Act.put, List.setIfInBounds_toArray, List.set_cons_zero, List.set_cons_succ]
    refine wpAnyH_take (i := 9) (oi := { dst := some 138, op := Op.load 2 (Operand.tmp 137), type := 2, pos := "outright.go:182", after := #[{ on := 8, ground := Ground.data }], guard := none }) (v := .int .i64 g2.lo) rfl (by kernel_rfl) (by kernel_rfl) (by kernel_rfl) (fun _ _ _ h => h) (Or.inl ⟨by rfl, by intro w2 hSw; (try dsimp only at hSw); have y0 := (hSw.cell (p := ⟨b9, o9 + ti * 2, none⟩) (lt_of_cell u0)).trans u0; have y1 := (hSw.cell (p := ⟨b9, o9 + ti * 2 + 1, none⟩) (lt_of_cell u1)).trans u1; have y2 := (hSw.cell (p := ⟨b9, o9 + tk * 2, none⟩) (lt_of_cell v0)).trans v0; have y3 := (hSw.cell (p := ⟨b9, o9 + tk * 2 + 1, none⟩) (lt_of_cell v1)).trans v1; go_simp⟩) hS0 ?_
    try simp only [Act.put, List.setIfInBounds_toArray, List.set_cons_zero, List.set_cons_succ]
    refine wpAnyH_take (i := 10) (oi := { dst := some 139, op := Op.call { callee := Callee.builtin Builtin.max, args := #[Operand.tmp 133, Operand.tmp 138], argTypes := #[2, 2] }, type := 2, pos := "outright.go:182", after := #[{ on := 4, ground := Ground.data }, { on := 9, ground := Ground.data }], guard := none }) (v := .int .i64 (max g1.lo g2.lo)) rfl (by kernel_rfl) (by kernel_rfl) (by kernel_rfl) (fun _ _ _ h => h) (Or.inl ⟨by rfl, by intro w2 hSw; (try dsimp only at hSw); have y0 := (hSw.cell (p := ⟨b9, o9 + ti * 2, none⟩) (lt_of_cell u0)).trans u0; have y1 := (hSw.cell (p := ⟨b9, o9 + ti * 2 + 1, none⟩) (lt_of_cell u1)).trans u1; have y2 := (hSw.cell (p := ⟨b9, o9 + tk * 2, none⟩) (lt_of_cell v0)).trans v0; have y3 := (hSw.cell (p := ⟨b9, o9 + tk * 2 + 1, none⟩) (lt_of_cell v1)).trans v1; go_simp⟩) hS0 ?_
    try simp only [Act.put, List.setIfInBounds_toArray, List.set_cons_zero, List.set_cons_succ]
    refine wpAnyH_take (i := 11) (oi := { dst := some 140, op := Op.move (Operand.tmp 0), type := 22, pos := "outright.go:182", after := #[], guard := none }) (v := .slice (some ⟨b9, o9, none⟩) n cap) rfl (by kernel_rfl) (by kernel_rfl) (by kernel_rfl) (fun _ _ _ h => h) (Or.inl ⟨by rfl, by intro w2 hSw; (try dsimp only at hSw); have y0 := (hSw.cell (p := ⟨b9, o9 + ti * 2, none⟩) (lt_of_cell u0)).trans u0; have y1 := (hSw.cell (p := ⟨b9, o9 + ti * 2 + 1, none⟩) (lt_of_cell u1)).trans u1; have y2 := (hSw.cell (p := ⟨b9, o9 + tk * 2, none⟩) (lt_of_cell v0)).trans v0; have y3 := (hSw.cell (p := ⟨b9, o9 + tk * 2 + 1, none⟩) (lt_of_cell v1)).trans v1; go_simp⟩) hS0 ?_
    try simp only [Act.put, List.setIfInBounds_toArray, List.set_cons_zero, List.set_cons_succ]
    refine wpAnyH_take (i := 12) (oi := { dst := some 141, op := Op.move (Operand.tmp 9), type := 3, pos := "outright.go:182", after := #[], guard := none }) (v := .int .i64 (ti : Int)) rfl (by kernel_rfl) (by kernel_rfl) (by kernel_rfl) (fun _ _ _ h => h) (Or.inl ⟨by rfl, by intro w2 hSw; (try dsimp only at hSw); have y0 := (hSw.cell (p := ⟨b9, o9 + ti * 2, none⟩) (lt_of_cell u0)).trans u0; have y1 := (hSw.cell (p := ⟨b9, o9 + ti * 2 + 1, none⟩) (lt_of_cell u1)).trans u1; have y2 := (hSw.cell (p := ⟨b9, o9 + tk * 2, none⟩) (lt_of_cell v0)).trans v0; have y3 := (hSw.cell (p := ⟨b9, o9 + tk * 2 + 1, none⟩) (lt_of_cell v1)).trans v1; go_simp⟩) hS0 ?_
    try simp only [Act.put, List.setIfInBounds_toArray, List.set_cons_zero, List.set_cons_succ]
    refine wpAnyH_take (i := 13) (oi := { dst := some 142, op := Op.indexAddr 22 (Operand.tmp 140) (Operand.tmp 141), type := 0, pos := "outright.go:182", after := #[{ on := 11, ground := Ground.data }, { on := 12, ground := Ground.data }], guard := none }) (v := .pointer (some ⟨b9, o9 + ti * 2, none⟩)) rfl (by kernel_rfl) (by kernel_rfl) (by kernel_rfl) (fun _ _ _ h => h) (Or.inl ⟨by rfl, by intro w2 hSw; (try dsimp only at hSw); have y0 := (hSw.cell (p := ⟨b9, o9 + ti * 2, none⟩) (lt_of_cell u0)).trans u0; have y1 := (hSw.cell (p := ⟨b9, o9 + ti * 2 + 1, none⟩) (lt_of_cell u1)).trans u1; have y2 := (hSw.cell (p := ⟨b9, o9 + tk * 2, none⟩) (lt_of_cell v0)).trans v0; have y3 := (hSw.cell (p := ⟨b9, o9 + tk * 2 + 1, none⟩) (lt_of_cell v1)).trans v1; go_simp⟩) hS0 ?_
    try simp only [Act.put, List.setIfInBounds_toArray, List.set_cons_zero, List.set_cons_succ]
    refine wpAnyH_take (i := 14) (oi := { dst := some 143, op := Op.fieldAddr 56 (Operand.tmp 142) 1, type := 0, pos := "outright.go:182", after := #[{ on := 13, ground := Ground.data }], guard := none }) (v := .pointer (some ⟨b9, o9 + ti * 2 + 1, none⟩)) rfl (by kernel_rfl) (by kernel_rfl) (by kernel_rfl) (fun _ _ _ h => h) (Or.inl ⟨by rfl, by intro w2 hSw; (try dsimp only at hSw); have y0 := (hSw.cell (p := ⟨b9, o9 + ti * 2, none⟩) (lt_of_cell u0)).trans u0; have y1 := (hSw.cell (p := ⟨b9, o9 + ti * 2 + 1, none⟩) (lt_of_cell u1)).trans u1; have y2 := (hSw.cell (p := ⟨b9, o9 + tk * 2, none⟩) (lt_of_cell v0)).trans v0; have y3 := (hSw.cell (p := ⟨b9, o9 + tk * 2 + 1, none⟩) (lt_of_cell v1)).trans v1; go_simp⟩) hS0 ?_
    try simp only [Act.put, List.setIfInBounds_toArray, List.set_cons_zero, List.set_cons_succ]
    refine wpAnyH_take (i := 15) (oi := { dst := some 144, op := Op.load 2 (Operand.tmp 143), type := 2, pos := "outright.go:182", after := #[{ on := 14, ground := Ground.data }], guard := none }) (v := .int .i64 g1.hi) rfl (by kernel_rfl) (by kernel_rfl) (by kernel_rfl) (fun _ _ _ h => h) (Or.inl ⟨by rfl, by intro w2 hSw; (try dsimp only at hSw); have y0 := (hSw.cell (p := ⟨b9, o9 + ti * 2, none⟩) (lt_of_cell u0)).trans u0; have y1 := (hSw.cell (p := ⟨b9, o9 + ti * 2 + 1, none⟩) (lt_of_cell u1)).trans u1; have y2 := (hSw.cell (p := ⟨b9, o9 + tk * 2, none⟩) (lt_of_cell v0)).trans v0; have y3 := (hSw.cell (p := ⟨b9, o9 + tk * 2 + 1, none⟩) (lt_of_cell v1)).trans v1; go_simp⟩) hS0 ?_
    try simp only [Act.put, List.setIfInBounds_toArray, List.set_cons_zero, List.set_cons_succ]
    refine wpAnyH_take (i := 16) (oi := { dst := some 145, op := Op.move (Operand.tmp 0), type := 22, pos := "outright.go:182", after := #[], guard := none }) (v := .slice (some ⟨b9, o9, none⟩) n cap) rfl (by kernel_rfl) (by kernel_rfl) (by kernel_rfl) (fun _ _ _ h => h) (Or.inl ⟨by rfl, by intro w2 hSw; (try dsimp only at hSw); have y0 := (hSw.cell (p := ⟨b9, o9 + ti * 2, none⟩) (lt_of_cell u0)).trans u0; have y1 := (hSw.cell (p := ⟨b9, o9 + ti * 2 + 1, none⟩) (lt_of_cell u1)).trans u1; have y2 := (hSw.cell (p := ⟨b9, o9 + tk * 2, none⟩) (lt_of_cell v0)).trans v0; have y3 := (hSw.cell (p := ⟨b9, o9 + tk * 2 + 1, none⟩) (lt_of_cell v1)).trans v1; go_simp⟩) hS0 ?_
    try simp only [Act.put, List.setIfInBounds_toArray, List.set_cons_zero, List.set_cons_succ]
    refine wpAnyH_take (i := 17) (oi := { dst := some 146, op := Op.move (Operand.tmp 10), type := 3, pos := "outright.go:182", after := #[], guard := none }) (v := .int .i64 (tk : Int)) rfl (by kernel_rfl) (by kernel_rfl) (by kernel_rfl) (fun _ _ _ h => h) (Or.inl ⟨by rfl, by intro w2 hSw; (try dsimp only at hSw); have y0 := (hSw.cell (p := ⟨b9, o9 + ti * 2, none⟩) (lt_of_cell u0)).trans u0; have y1 := (hSw.cell (p := ⟨b9, o9 + ti * 2 + 1, none⟩) (lt_of_cell u1)).trans u1; have y2 := (hSw.cell (p := ⟨b9, o9 + tk * 2, none⟩) (lt_of_cell v0)).trans v0; have y3 := (hSw.cell (p := ⟨b9, o9 + tk * 2 + 1, none⟩) (lt_of_cell v1)).trans v1; go_simp⟩) hS0 ?_
    try simp only [Act.put, List.setIfInBounds_toArray, List.set_cons_zero, List.set_cons_succ]
    refine wpAnyH_take (i := 18) (oi := { dst := some 147, op := Op.indexAddr 22 (Operand.tmp 145) (Operand.tmp 146), type := 0, pos := "outright.go:182", after := #[{ on := 16, ground := Ground.data }, { on := 17, ground := Ground.data }], guard := none }) (v := .pointer (some ⟨b9, o9 + tk * 2, none⟩)) rfl (by kernel_rfl) (by kernel_rfl) (by kernel_rfl) (fun _ _ _ h => h) (Or.inl ⟨by rfl, by intro w2 hSw; (try dsimp only at hSw); have y0 := (hSw.cell (p := ⟨b9, o9 + ti * 2, none⟩) (lt_of_cell u0)).trans u0; have y1 := (hSw.cell (p := ⟨b9, o9 + ti * 2 + 1, none⟩) (lt_of_cell u1)).trans u1; have y2 := (hSw.cell (p := ⟨b9, o9 + tk * 2, none⟩) (lt_of_cell v0)).trans v0; have y3 := (hSw.cell (p := ⟨b9, o9 + tk * 2 + 1, none⟩) (lt_of_cell v1)).trans v1; go_simp⟩) hS0 ?_
    try simp only [Act.put, List.setIfInBounds_toArray, List.set_cons_zero, List.set_cons_succ]
    refine wpAnyH_take (i := 19) (oi := { dst := some 148, op := Op.fieldAddr 56 (Operand.tmp 147) 1, type := 0, pos := "outright.go:182", after := #[{ on := 18, ground := Ground.data }], guard := none }) (v := .pointer (some ⟨b9, o9 + tk * 2 + 1, none⟩)) rfl (by kernel_rfl) (by kernel_rfl) (by kernel_rfl) (fun _ _ _ h => h) (Or.inl ⟨by rfl, by intro w2 hSw; (try dsimp only at hSw); have y0 := (hSw.cell (p := ⟨b9, o9 + ti * 2, none⟩) (lt_of_cell u0)).trans u0; have y1 := (hSw.cell (p := ⟨b9, o9 + ti * 2 + 1, none⟩) (lt_of_cell u1)).trans u1; have y2 := (hSw.cell (p := ⟨b9, o9 + tk * 2, none⟩) (lt_of_cell v0)).trans v0; have y3 := (hSw.cell (p := ⟨b9, o9 + tk * 2 + 1, none⟩) (lt_of_cell v1)).trans v1; go_simp⟩) hS0 ?_
    try simp only [Act.put, List.setIfInBounds_toArray, List.set_cons_zero, List.set_cons_succ]
    refine wpAnyH_take (i := 20) (oi := { dst := some 149, op := Op.load 2 (Operand.tmp 148), type := 2, pos := "outright.go:182", after := #[{ on := 19, ground := Ground.data }], guard := none }) (v := .int .i64 g2.hi) rfl (by kernel_rfl) (by kernel_rfl) (by kernel_rfl) (fun _ _ _ h => h) (Or.inl ⟨by rfl, by intro w2 hSw; (try dsimp only at hSw); have y0 := (hSw.cell (p := ⟨b9, o9 + ti * 2, none⟩) (lt_of_cell u0)).trans u0; have y1 := (hSw.cell (p := ⟨b9, o9 + ti * 2 + 1, none⟩) (lt_of_cell u1)).trans u1; have y2 := (hSw.cell (p := ⟨b9, o9 + tk * 2, none⟩) (lt_of_cell v0)).trans v0; have y3 := (hSw.cell (p := ⟨b9, o9 + tk * 2 + 1, none⟩) (lt_of_cell v1)).trans v1; go_simp⟩) hS0 ?_
    try simp only [Act.put, List.setIfInBounds_toArray, List.set_cons_zero, List.set_cons_succ]
    refine wpAnyH_take (i := 21) (oi := { dst := some 150, op := Op.call { callee := Callee.builtin Builtin.min, args := #[Operand.tmp 144, Operand.tmp 149], argTypes := #[2, 2] }, type := 2, pos := "outright.go:182", after := #[{ on := 15, ground := Ground.data }, { on := 20, ground := Ground.data }], guard := none }) (v := .int .i64 (min g1.hi g2.hi)) rfl (by kernel_rfl) (by kernel_rfl) (by kernel_rfl) (fun _ _ _ h => h) (Or.inl ⟨by rfl, by intro w2 hSw; (try dsimp only at hSw); have y0 := (hSw.cell (p := ⟨b9, o9 + ti * 2, none⟩) (lt_of_cell u0)).trans u0; have y1 := (hSw.cell (p := ⟨b9, o9 + ti * 2 + 1, none⟩) (lt_of_cell u1)).trans u1; have y2 := (hSw.cell (p := ⟨b9, o9 + tk * 2, none⟩) (lt_of_cell v0)).trans v0; have y3 := (hSw.cell (p := ⟨b9, o9 + tk * 2 + 1, none⟩) (lt_of_cell v1)).trans v1; go_simp⟩) hS0 ?_
    try simp only [Act.put, List.setIfInBounds_toArray, List.set_cons_zero, List.set_cons_succ]
    generalize w13.drew = V0 at hS0 ⊢
    refine wpAnyH_ready (rs := [22, 23]) (by kernel_rfl) (by simp) ?_
    refine AllReadyH.cons (o := { dst := some 151, op := Op.call { callee := Callee.value (Operand.func 37), args := #[Operand.tmp 139, Operand.tmp 150], argTypes := #[2, 2] }, type := 56, pos := "outright.go:182", after := #[{ on := 10, ground := Ground.data }, { on := 21, ground := Ground.data }], guard := none }) rfl (fun K2 hK => ?_) ?_
    ·go_simp
     refine (hcm _).mono ?_
     rintro e9 V1 ⟨rfl, hb6⟩
     try go_simp
     refine hK.out _ _ (hS0.trans (hb6.mono hS0.size)) (fun hV1 => ?_)
     clear hK K2
     clear hb6
     try simp only [Act.put, List.setIfInBounds_toArray, List.set_cons_zero, List.set_cons_succ]
     refine wpAnyH_ready (rs := [23]) (by kernel_rfl) (by simp) ?_
     refine AllReadyH.cons (o := { dst := some 21, op := Op.alloc 56, type := 0, pos := "outright.go:182", after := #[], guard := none }) rfl (fun K2 hK => ?_) AllReadyH.nil
     go_simp
     have hz := heap_alloc_new_ V1 (.cells #[.int .i64 0, .int .i64 0] 56)
     refine hK.out _ _ (hV1.trans ((below_alloc_ _ _).mono hV1.size)) (fun hV2 => ?_)
     clear hK K2
     have HPl := Lib.hid hV1.size
     generalize V1.alloc (.cells #[.int .i64 0, .int .i64 0] 56) = V2 at *
     obtain ⟨Pb, hPb⟩ : ∃ Pb, V1.heap.size = Pb := ⟨_, rfl⟩
     rw [hPb] at hz HPl ⊢
     clear hPb
     try simp only [Act.put, List.setIfInBounds_toArray, List.set_cons_zero, List.set_cons_succ]
     refine wpAnyH_ready (rs := [24]) (by kernel_rfl) (by simp) ?_
     refine AllReadyH.cons (o := { dst := none, op := Op.store 56 (Operand.tmp 21) (Operand.tmp 151), type := 0, pos := "outright.go:182", after := #[{ on := 23, ground := Ground.data }, { on := 22, ground := Ground.data }, { on := 22, ground := Ground.chain }, { on := 0, ground := Ground.phase }, { on := 1, ground := Ground.phase }, { on := 2, ground := Ground.phase }, { on := 3, ground := Ground.phase }, { on := 4, ground := Ground.phase }, { on := 5, ground := Ground.phase }, { on := 6, ground := Ground.phase }, { on := 7, ground := Ground.phase }, { on := 8, ground := Ground.phase }, { on := 9, ground := Ground.phase }, { on := 10, ground := Ground.phase }, { on := 11, ground := Ground.phase }, { on := 12, ground := Ground.phase }, { on := 13, ground := Ground.phase }, { on := 14, ground := Ground.phase }, { on := 15, ground := Ground.phase }, { on := 16, ground := Ground.phase }, { on := 17, ground := Ground.phase }, { on := 18, ground := Ground.phase }, { on := 19, ground := Ground.phase }, { on := 20, ground := Ground.phase }, { on := 21, ground := Ground.phase }, { on := 22, ground := Ground.phase }, { on := 23, ground := Ground.phase }], guard := none }) rfl (fun K2 hK => ?_) AllReadyH.nil
     have cz0 : V2.cell? ⟨Pb, 0, none⟩ = some (.int .i64 0) := by rw [cell_row hz]; rfl
     have cz1 : V2.cell? ⟨Pb, 1, none⟩ = some (.int .i64 0) := by rw [cell_row hz]; rfl
     have fz0 : V2.frozen? ⟨Pb, 0, none⟩ = false := frozen_row hz
     have fz1 : V2.frozen? ⟨Pb, 1, none⟩ = false := frozen_row hz
     have Hz := Lib.hid (set_same 1 (.int .i64 (min g1.hi g2.hi)) (set_same 0 (.int .i64 (max g1.lo g2.lo)) hz))
     have HS8 := Lib.hid (hV2.trans (((keeps_setCell V2 Pb 0 (.int .i64 (max g1.lo g2.lo))).trans (keeps_setCell _ Pb 1 (.int .i64 (min g1.hi g2.hi)))).below hV2.size (fun j hj e => by have := HPl.out; omega)))
     clear hz
     go_simp
     refine hK.out _ _ HS8.out (fun hS9 => ?_)
     clear hK K2 cz0 cz1 fz0 fz1
     try simp only [Act.put, List.setIfInBounds_toArray, List.set_cons_zero, List.set_cons_succ]
     refine wpAnyH_done (by kernel_rfl) ?_ _
     go_wp2_with fail
     go_meet
     case rel => exact ⟨_, rfl, Hz.out, HS8.out⟩
    refine AllReadyH.cons (o := { dst := some 21, op := Op.alloc 56, type := 0, pos := "outright.go:182", after := #[], guard := none }) rfl (fun K2 hK => ?_) ?_
    ·go_simp
     have hz := heap_alloc_new_ V0 (.cells #[.int .i64 0, .int .i64 0] 56)
     refine hK.out _ _ (hS0.trans ((below_alloc_ _ _).mono hS0.size)) (fun hV1 => ?_)
     clear hK K2
     have HPl := Lib.hid hS0.size
     generalize V0.alloc (.cells #[.int .i64 0, .int .i64 0] 56) = V1 at *
     obtain ⟨Pb, hPb⟩ : ∃ Pb, V0.heap.size = Pb := ⟨_, rfl⟩
     rw [hPb] at hz HPl ⊢
     clear hPb
     try simp only [Act.put, List.setIfInBounds_toArray, List.set_cons_zero, List.set_cons_succ]
     refine wpAnyH_ready (rs := [22]) (by kernel_rfl) (by simp) ?_
     refine AllReadyH.cons (o := { dst := some 151, op := Op.call { callee := Callee.value (Operand.func 37), args := #[Operand.tmp 139, Operand.tmp 150], argTypes := #[2, 2] }, type := 56, pos := "outright.go:182", after := #[{ on := 10, ground := Ground.data }, { on := 21, ground := Ground.data }], guard := none }) rfl (fun K2 hK => ?_) AllReadyH.nil
     go_simp
     refine (hcm _).mono ?_
     rintro e9 V2 ⟨rfl, hb6⟩
     try go_simp
     refine hK.out _ _ (hV1.trans (hb6.mono hV1.size)) (fun hV2 => ?_)
     clear hK K2
     replace hz := (hb6.block _ (lt_of_block hz)).trans hz
     clear hb6
     try simp only [Act.put, List.setIfInBounds_toArray, List.set_cons_zero, List.set_cons_succ]
     refine wpAnyH_ready (rs := [24]) (by kernel_rfl) (by simp) ?_
     refine AllReadyH.cons (o := { dst := none, op := Op.store 56 (Operand.tmp 21) (Operand.tmp 151), type := 0, pos := "outright.go:182", after := #[{ on := 23, ground := Ground.data }, { on := 22, ground := Ground.data }, { on := 22, ground := Ground.chain }, { on := 0, ground := Ground.phase }, { on := 1, ground := Ground.phase }, { on := 2, ground := Ground.phase }, { on := 3, ground := Ground.phase }, { on := 4, ground := Ground.phase }, { on := 5, ground := Ground.phase }, { on := 6, ground := Ground.phase }, { on := 7, ground := Ground.phase }, { on := 8, ground := Ground.phase }, { on := 9, ground := Ground.phase }, { on := 10, ground := Ground.phase }, { on := 11, ground := Ground.phase }, { on := 12, ground := Ground.phase }, { on := 13, ground := Ground.phase }, { on := 14, ground := Ground.phase }, { on := 15, ground := Ground.phase }, { on := 16, ground := Ground.phase }, { on := 17, ground := Ground.phase }, { on := 18, ground := Ground.phase }, { on := 19, ground := Ground.phase }, { on := 20, ground := Ground.phase }, { on := 21, ground := Ground.phase }, { on := 22, ground := Ground.phase }, { on := 23, ground := Ground.phase }], guard := none }) rfl (fun K2 hK => ?_) AllReadyH.nil
     have cz0 : V2.cell? ⟨Pb, 0, none⟩ = some (.int .i64 0) := by rw [cell_row hz]; rfl
     have cz1 : V2.cell? ⟨Pb, 1, none⟩ = some (.int .i64 0) := by rw [cell_row hz]; rfl
     have fz0 : V2.frozen? ⟨Pb, 0, none⟩ = false := frozen_row hz
     have fz1 : V2.frozen? ⟨Pb, 1, none⟩ = false := frozen_row hz
     have Hz := Lib.hid (set_same 1 (.int .i64 (min g1.hi g2.hi)) (set_same 0 (.int .i64 (max g1.lo g2.lo)) hz))
     have HS8 := Lib.hid (hV2.trans (((keeps_setCell V2 Pb 0 (.int .i64 (max g1.lo g2.lo))).trans (keeps_setCell _ Pb 1 (.int .i64 (min g1.hi g2.hi)))).below hV2.size (fun j hj e => by have := HPl.out; omega)))
     clear hz
     go_simp
     refine hK.out _ _ HS8.out (fun hS9 => ?_)
     clear hK K2 cz0 cz1 fz0 fz1
     try simp only [Act.put, List.setIfInBounds_toArray, List.set_cons_zero, List.set_cons_succ]
     refine wpAnyH_done (by kernel_rfl) ?_ _
     go_wp2_with fail
     go_meet
     case rel => exact ⟨_, rfl, Hz.out, HS8.out⟩
    exact AllReadyH.nil
   case rest =>
    obtain ⟨Pb, rfl, rP, hb⟩ := hcut
    replace B1 := Lib.hid (B1.out.trans (hb.mono B1.out.size))
    replace X0 := Lib.hid ((hb.block _ (lt_of_block X0.out)).trans X0.out)
    replace F := Lib.hid (F.out.below hb (Nat.le_refl _))
    replace R := Lib.hid (R.out.below hb (Nat.le_refl _))
    have PB := Lib.hid rP
    clear rP hb hcm u0 u1 v0 v1 ti0 ti1 tk0 tk1 dti dtk hbaL
    have p0 : wc.cell? ⟨Pb, 0, none⟩ = some (.int .i64 (max g1.lo g2.lo)) := by rw [cell_row PB.out]; rfl
    have p1 : wc.cell? ⟨Pb, 1, none⟩ = some (.int .i64 (min g1.hi g2.hi)) := by rw [cell_row PB.out]; rfl
    replace x00 : wc.cell? ⟨P0, 0, none⟩ = some (.bool true) := by rw [cell_row X0.out]; rfl
    clear x01
    have hlh : ¬ min g1.hi g2.hi < max g1.lo g2.lo := fun h => by have := NO.out h; cases this
    go_wp2_with fail
    clear p0 p1 x00
    obtain ⟨N3, hN3⟩ : ∃ N3, wc.heap.size = N3 := ⟨_, rfl⟩
    have HN3 := Lib.hid (show N3 = wc.heap.size from hN3.symm)
    clear hN3
    go_loopw [22, 23, 24] (fun va vb i wr => ∃ k : Nat, k ≤ m3 ∧ i = .int .i64 (k : Int) ∧ wr.ownsRow 0 2 1 va k (flatI (tkI x k)) ∧ wr.ownsRow 0 2 1 vb k (flatI (tkI y k)) ∧ (∀ j, va.ownBlock = some j → vb.ownBlock ≠ some j) ∧ (∀ j, va.ownBlock = some j → N3 ≤ j) ∧ (∀ j, vb.ownBlock = some j → N3 ≤ j) ∧ Below N3 wc wr) (fun va vb i _ => m3 - (intOf i).toNat)
    case atStart => exact ⟨0, Nat.zero_le _, rfl, own_nil _ _ _, own_nil _ _ _, fun j e => (by cases e), fun j e => (by cases e), fun j e => (by cases e), Below.refl _ _⟩
    case round =>
     obtain ⟨k, hk, rfl, hoa, hob, hD, hba, hbb, hS⟩ := hrel
     obtain ⟨wk, rfl⟩ : ∃ wk, wk = wr := ⟨_, rfl⟩
     have Hba := Lib.hid hba
     have Hbb := Lib.hid hbb
     have HS := Lib.hid hS
     clear hba hbb hS
     by_cases hlt : k < m3
     ·have Hkx := Lib.hid (tkI_succ x k)
      obtain ⟨b, o, rfl, hcr⟩ := R.out.2 (by omega)
      obtain ⟨c0, c1⟩ := hcr k hlt
      clear hcr
      have i0 : (0 : Int) ≤ (k : Int) := by omega
      have i1 : (k : Int) < (m3 : Int) := by omega
      have i2 : (k : Int) ≤ 24 := by omega
      have d3 : (k : Int).toNat = k := by omega
      rw [gAt_spn x y hlt] at c0 c1
      dsimp only at c0 c1
      have Hky := Lib.hid (tkI_succ y k)
      obtain ⟨lo, hlo⟩ : ∃ lo, iAt x k = lo := ⟨_, rfl⟩
      obtain ⟨hi, hhi⟩ : ∃ hi, iAt y k = hi := ⟨_, rfl⟩
      rw [hlo] at c0 Hkx
      rw [hhi] at c1 Hky
      clear hlo hhi
      obtain ⟨w3, hw3⟩ : ∃ w3, w3 = wc := ⟨_, rfl⟩
      rw [← hw3] at c0 c1 HS HN3
      have Hoa := Lib.hid hoa
      have Hob := Lib.hid hob
      have HD := Lib.hid hD
      clear hoa hob hD
      go_wp2_with fail
      have hoa := Hoa.out
      have hob := Hob.out
      have hD := HD.out
      clear Hoa Hob HD
      refine wp_region_held_drew (S := fun w2 => Below N3 w3 w2) (by kernel_rfl) (HS.out.trans ((drew_b _ _).mono (by have := HS.out.size; have := HN3.out; omega))) (fun hS0 => ?_)
      refine wpAnyH_take (i := 0) (oi := { dst := some 167, op := Op.move (Operand.tmp 22), type := 23, pos := "outright.go:188", after := #[], guard := none }) (v := u22) rfl (by kernel_rfl) (by kernel_rfl) (by kernel_rfl) (fun _ _ _ h => h) (Or.inl ⟨by rfl, by intro w2 hSw; (try dsimp only at hSw); have e0 := (hSw.cell (p := ⟨b, o + k * 2, none⟩) (Nat.lt_of_lt_of_eq (lt_of_cell c0) HN3.out.symm)).trans c0; have e1 := (hSw.cell (p := ⟨b, o + k * 2 + 1, none⟩) (Nat.lt_of_lt_of_eq (lt_of_cell c1) HN3.out.symm)).trans c1; go_simp⟩) hS0 ?_
      try simp only [Act.put, List.setIfInBounds_toArray, List.set_cons_zero, List.set_cons_succ]
      refine wpAnyH_take (i := 1) (oi := { dst := some 168, op := Op.move (Operand.tmp 19), type := 22, pos := "outright.go:188", after := #[], guard := none }) (v := .slice (some ⟨b, o, none⟩) m3 cpr) rfl (by kernel_rfl) (by kernel_rfl) (by kernel_rfl) (fun _ _ _ h => h) (Or.inl ⟨by rfl, by intro w2 hSw; (try dsimp only at hSw); have e0 := (hSw.cell (p := ⟨b, o + k * 2, none⟩) (Nat.lt_of_lt_of_eq (lt_of_cell c0) HN3.out.symm)).trans c0; have e1 := (hSw.cell (p := ⟨b, o + k * 2 + 1, none⟩) (Nat.lt_of_lt_of_eq (lt_of_cell c1) HN3.out.symm)).trans c1; go_simp⟩) hS0 ?_
      try simp only [Act.put, List.setIfInBounds_toArray, List.set_cons_zero, List.set_cons_succ]
      refine wpAnyH_take (i := 2) (oi := { dst := some 169, op := Op.move (Operand.tmp 24), type := 3, pos := "outright.go:188", after := #[], guard := none }) (v := .int .i64 (k : Int)) rfl (by kernel_rfl) (by kernel_rfl) (by kernel_rfl) (fun _ _ _ h => h) (Or.inl ⟨by rfl, by intro w2 hSw; (try dsimp only at hSw); have e0 := (hSw.cell (p := ⟨b, o + k * 2, none⟩) (Nat.lt_of_lt_of_eq (lt_of_cell c0) HN3.out.symm)).trans c0; have e1 := (hSw.cell (p := ⟨b, o + k * 2 + 1, none⟩) (Nat.lt_of_lt_of_eq (lt_of_cell c1) HN3.out.symm)).trans c1; go_simp⟩) hS0 ?_
      try simp only [Act.put, List.setIfInBounds_toArray, List.set_cons_zero, List.set_cons_succ]
      refine wpAnyH_take (i := 3) (oi := { dst := some 170, op := Op.indexAddr 22 (Operand.tmp 168) (Operand.tmp 169), type := 0, pos := "outright.go:188", after := #[{ on := 1, ground := Ground.data }, { on := 2, ground := Ground.data }], guard := none }) (v := .pointer (some ⟨b, o + k * 2, none⟩)) rfl (by kernel_rfl) (by kernel_rfl) (by kernel_rfl) (fun _ _ _ h => h) (Or.inl ⟨by rfl, by intro w2 hSw; (try dsimp only at hSw); have e0 := (hSw.cell (p := ⟨b, o + k * 2, none⟩) (Nat.lt_of_lt_of_eq (lt_of_cell c0) HN3.out.symm)).trans c0; have e1 := (hSw.cell (p := ⟨b, o + k * 2 + 1, none⟩) (Nat.lt_of_lt_of_eq (lt_of_cell c1) HN3.out.symm)).trans c1; go_simp⟩) hS0 ?_
      try simp only [Act.put, List.setIfInBounds_toArray, List.set_cons_zero, List.set_cons_succ]
      refine wpAnyH_take (i := 4) (oi := { dst := some 171, op := Op.fieldAddr 56 (Operand.tmp 170) 0, type := 0, pos := "outright.go:188", after := #[{ on := 3, ground := Ground.data }], guard := none }) (v := .pointer (some ⟨b, o + k * 2, none⟩)) rfl (by kernel_rfl) (by kernel_rfl) (by kernel_rfl) (fun _ _ _ h => h) (Or.inl ⟨by rfl, by intro w2 hSw; (try dsimp only at hSw); have e0 := (hSw.cell (p := ⟨b, o + k * 2, none⟩) (Nat.lt_of_lt_of_eq (lt_of_cell c0) HN3.out.symm)).trans c0; have e1 := (hSw.cell (p := ⟨b, o + k * 2 + 1, none⟩) (Nat.lt_of_lt_of_eq (lt_of_cell c1) HN3.out.symm)).trans c1; go_simp⟩) hS0 ?_
      try simp only [Act.put, List.setIfInBounds_toArray, List.set_cons_zero, List.set_cons_succ]
      refine wpAnyH_take (i := 5) (oi := { dst := some 172, op := Op.load 2 (Operand.tmp 171), type := 2, pos := "outright.go:188", after := #[{ on := 4, ground := Ground.data }], guard := none }) (v := .int .i64 lo) rfl (by kernel_rfl) (by kernel_rfl) (by kernel_rfl) (fun _ _ _ h => h) (Or.inl ⟨by rfl, by intro w2 hSw; (try dsimp only at hSw); have e0 := (hSw.cell (p := ⟨b, o + k * 2, none⟩) (Nat.lt_of_lt_of_eq (lt_of_cell c0) HN3.out.symm)).trans c0; have e1 := (hSw.cell (p := ⟨b, o + k * 2 + 1, none⟩) (Nat.lt_of_lt_of_eq (lt_of_cell c1) HN3.out.symm)).trans c1; go_simp⟩) hS0 ?_
      try simp only [Act.put, List.setIfInBounds_toArray, List.set_cons_zero, List.set_cons_succ]
      refine wpAnyH_take (i := 8) (oi := { dst := some 175, op := Op.move (Operand.tmp 23), type := 23, pos := "outright.go:188", after := #[], guard := none }) (v := u23) rfl (by kernel_rfl) (by kernel_rfl) (by kernel_rfl) (fun _ _ _ h => h) (Or.inl ⟨by rfl, by intro w2 hSw; (try dsimp only at hSw); have e0 := (hSw.cell (p := ⟨b, o + k * 2, none⟩) (Nat.lt_of_lt_of_eq (lt_of_cell c0) HN3.out.symm)).trans c0; have e1 := (hSw.cell (p := ⟨b, o + k * 2 + 1, none⟩) (Nat.lt_of_lt_of_eq (lt_of_cell c1) HN3.out.symm)).trans c1; go_simp⟩) hS0 ?_
      try simp only [Act.put, List.setIfInBounds_toArray, List.set_cons_zero, List.set_cons_succ]
      refine wpAnyH_take (i := 9) (oi := { dst := some 176, op := Op.move (Operand.tmp 19), type := 22, pos := "outright.go:188", after := #[], guard := none }) (v := .slice (some ⟨b, o, none⟩) m3 cpr) rfl (by kernel_rfl) (by kernel_rfl) (by kernel_rfl) (fun _ _ _ h => h) (Or.inl ⟨by rfl, by intro w2 hSw; (try dsimp only at hSw); have e0 := (hSw.cell (p := ⟨b, o + k * 2, none⟩) (Nat.lt_of_lt_of_eq (lt_of_cell c0) HN3.out.symm)).trans c0; have e1 := (hSw.cell (p := ⟨b, o + k * 2 + 1, none⟩) (Nat.lt_of_lt_of_eq (lt_of_cell c1) HN3.out.symm)).trans c1; go_simp⟩) hS0 ?_
      try simp only [Act.put, List.setIfInBounds_toArray, List.set_cons_zero, List.set_cons_succ]
      refine wpAnyH_take (i := 10) (oi := { dst := some 177, op := Op.move (Operand.tmp 24), type := 3, pos := "outright.go:188", after := #[], guard := none }) (v := .int .i64 (k : Int)) rfl (by kernel_rfl) (by kernel_rfl) (by kernel_rfl) (fun _ _ _ h => h) (Or.inl ⟨by rfl, by intro w2 hSw; (try dsimp only at hSw); have e0 := (hSw.cell (p := ⟨b, o + k * 2, none⟩) (Nat.lt_of_lt_of_eq (lt_of_cell c0) HN3.out.symm)).trans c0; have e1 := (hSw.cell (p := ⟨b, o + k * 2 + 1, none⟩) (Nat.lt_of_lt_of_eq (lt_of_cell c1) HN3.out.symm)).trans c1; go_simp⟩) hS0 ?_
      try simp only [Act.put, List.setIfInBounds_toArray, List.set_cons_zero, List.set_cons_succ]
      refine wpAnyH_take (i := 11) (oi := { dst := some 178, op := Op.indexAddr 22 (Operand.tmp 176) (Operand.tmp 177), type := 0, pos := "outright.go:188", after := #[{ on := 9, ground := Ground.data }, { on := 10, ground := Ground.data }], guard := none }) (v := .pointer (some ⟨b, o + k * 2, none⟩)) rfl (by kernel_rfl) (by kernel_rfl) (by kernel_rfl) (fun _ _ _ h => h) (Or.inl ⟨by rfl, by intro w2 hSw; (try dsimp only at hSw); have e0 := (hSw.cell (p := ⟨b, o + k * 2, none⟩) (Nat.lt_of_lt_of_eq (lt_of_cell c0) HN3.out.symm)).trans c0; have e1 := (hSw.cell (p := ⟨b, o + k * 2 + 1, none⟩) (Nat.lt_of_lt_of_eq (lt_of_cell c1) HN3.out.symm)).trans c1; go_simp⟩) hS0 ?_
      try simp only [Act.put, List.setIfInBounds_toArray, List.set_cons_zero, List.set_cons_succ]
      refine wpAnyH_take (i := 12) (oi := { dst := some 179, op := Op.fieldAddr 56 (Operand.tmp 178) 1, type := 0, pos := "outright.go:188", after := #[{ on := 11, ground := Ground.data }], guard := none }) (v := .pointer (some ⟨b, o + k * 2 + 1, none⟩)) rfl (by kernel_rfl) (by kernel_rfl) (by kernel_rfl) (fun _ _ _ h => h) (Or.inl ⟨by rfl, by intro w2 hSw; (try dsimp only at hSw); have e0 := (hSw.cell (p := ⟨b, o + k * 2, none⟩) (Nat.lt_of_lt_of_eq (lt_of_cell c0) HN3.out.symm)).trans c0; have e1 := (hSw.cell (p := ⟨b, o + k * 2 + 1, none⟩) (Nat.lt_of_lt_of_eq (lt_of_cell c1) HN3.out.symm)).trans c1; go_simp⟩) hS0 ?_
      try simp only [Act.put, List.setIfInBounds_toArray, List.set_cons_zero, List.set_cons_succ]
      refine wpAnyH_take (i := 13) (oi := { dst := some 180, op := Op.load 2 (Operand.tmp 179), type := 2, pos := "outright.go:188", after := #[{ on := 12, ground := Ground.data }], guard := none }) (v := .int .i64 hi) rfl (by kernel_rfl) (by kernel_rfl) (by kernel_rfl) (fun _ _ _ h => h) (Or.inl ⟨by rfl, by intro w2 hSw; (try dsimp only at hSw); have e0 := (hSw.cell (p := ⟨b, o + k * 2, none⟩) (Nat.lt_of_lt_of_eq (lt_of_cell c0) HN3.out.symm)).trans c0; have e1 := (hSw.cell (p := ⟨b, o + k * 2 + 1, none⟩) (Nat.lt_of_lt_of_eq (lt_of_cell c1) HN3.out.symm)).trans c1; go_simp⟩) hS0 ?_
      try simp only [Act.put, List.setIfInBounds_toArray, List.set_cons_zero, List.set_cons_succ]
      have hoa : wk.drew.ownsRow 0 2 1 u22 k (flatI (tkI x k)) := hoa
      have hob : wk.drew.ownsRow 0 2 1 u23 k (flatI (tkI y k)) := hob
      generalize wk.drew = V0 at hS0 hoa hob ⊢
      have hV0 := hS0
      clear hS0
      refine wpAnyH_ready (rs := [6, 14]) (by kernel_rfl) (by simp) ?_
      refine AllReadyH.cons (o := { dst := some 173, op := Op.buildSlice 23 1 #[(0, Operand.tmp 172)], type := 23, pos := "outright.go:188", after := #[{ on := 5, ground := Ground.data }], guard := none }) rfl (fun K2 hK => ?_) ?_
      ·go_simp
       have hs9 : N3 ≤ V0.heap.size := by have := hV0.size; have := HN3.out; omega
       refine hK.out _ _ (hV0.trans ((below_alloc_ _ _).mono hs9)) (fun hV1 => ?_)
       clear hK K2
       have hza := heap_alloc_new_ V0 (.cells #[.int .i64 lo] 2)
       have hb := below_alloc_ V0 (.cells #[.int .i64 lo] 2)
       have hnaa := Lib.hid (show ∀ j, u22.ownBlock = some j → j ≠ V0.heap.size from fun j e e2 => by have := own_lt hoa j e; omega)
       have hnba := Lib.hid (show ∀ j, u23.ownBlock = some j → j ≠ V0.heap.size from fun j e e2 => by have := own_lt hob j e; omega)
       replace hoa := own_keep hoa (Keeps.of_new (Mut := fun _ => False) hb) (fun _ _ e => e)
       replace hob := own_keep hob (Keeps.of_new (Mut := fun _ => False) hb) (fun _ _ e => e)
       generalize V0.alloc (.cells #[.int .i64 lo] 2) = V1 at *
       obtain ⟨Za, hZ⟩ : ∃ Za, V0.heap.size = Za := ⟨_, rfl⟩
       rw [hZ] at hza hnaa hnba ⊢
       clear hZ hb hs9
       try simp only [Act.put, List.setIfInBounds_toArray, List.set_cons_zero, List.set_cons_succ]
       refine wpAnyH_ready (rs := [7, 14]) (by kernel_rfl) (by simp) ?_
       refine AllReadyH.cons (o := { dst := some 174, op := Op.call { callee := Callee.builtin Builtin.append, args := #[Operand.tmp 167, Operand.tmp 173], argTypes := #[23, 23] }, type := 23, pos := "outright.go:188", after := #[{ on := 0, ground := Ground.data }, { on := 6, ground := Ground.data }], guard := none }) rfl (fun K2 hK => ?_) ?_
       ·have hs9 : N3 ≤ V1.heap.size := by have := hV1.size; have := HN3.out; omega
        obtain ⟨vva, V2, hap, hqa, hqb, hD2, hbl2, hB9, hkp⟩ := app_two hoa hob hD hza Hba.out hs9 (by omega)
        have hrun := run_app hap
        clear hap
        have hV2h := Lib.hid (hV1.trans hB9)
        replace hoa := hqa
        replace hob := hqb
        replace hD : ∀ j, vva.ownBlock = some j → u23.ownBlock ≠ some j := hD2
        have Hba := Lib.hid hbl2
        have Hoa := Lib.hid hoa
        have Hob := Lib.hid hob
        have HD := Lib.hid hD
        clear hqa hqb hD2 hbl2 hB9 hkp hs9 hoa hob hD hza
        go_simp
        try rw [hrun]
        try go_simp
        refine hK.out _ _ hV2h.out (fun hV2 => ?_)
        clear hK K2 hrun hV2h
        have hoa := Hoa.out
        have hob := Hob.out
        have hD := HD.out
        clear Hoa Hob HD
        try simp only [Act.put, List.setIfInBounds_toArray, List.set_cons_zero, List.set_cons_succ]
        refine wpAnyH_ready (rs := [14]) (by kernel_rfl) (by simp) ?_
        refine AllReadyH.cons (o := { dst := some 181, op := Op.buildSlice 23 1 #[(0, Operand.tmp 180)], type := 23, pos := "outright.go:188", after := #[{ on := 13, ground := Ground.data }], guard := none }) rfl (fun K2 hK => ?_) ?_
        ·go_simp
         have hs9 : N3 ≤ V2.heap.size := by have := hV2.size; have := HN3.out; omega
         refine hK.out _ _ (hV2.trans ((below_alloc_ _ _).mono hs9)) (fun hV3 => ?_)
         clear hK K2
         have hzb := heap_alloc_new_ V2 (.cells #[.int .i64 hi] 2)
         have hb := below_alloc_ V2 (.cells #[.int .i64 hi] 2)
         have hnbb := Lib.hid (show ∀ j, u23.ownBlock = some j → j ≠ V2.heap.size from fun j e e2 => by have := own_lt hob j e; omega)
         replace hoa := own_keep hoa (Keeps.of_new (Mut := fun _ => False) hb) (fun _ _ e => e)
         replace hob := own_keep hob (Keeps.of_new (Mut := fun _ => False) hb) (fun _ _ e => e)
         generalize V2.alloc (.cells #[.int .i64 hi] 2) = V3 at *
         obtain ⟨Zb, hZ⟩ : ∃ Zb, V2.heap.size = Zb := ⟨_, rfl⟩
         rw [hZ] at hzb hnbb ⊢
         clear hZ hb hs9
         try simp only [Act.put, List.setIfInBounds_toArray, List.set_cons_zero, List.set_cons_succ]
         refine wpAnyH_ready (rs := [15]) (by kernel_rfl) (by simp) ?_
         refine AllReadyH.cons (o := { dst := some 182, op := Op.call { callee := Callee.builtin Builtin.append, args := #[Operand.tmp 175, Operand.tmp 181], argTypes := #[23, 23] }, type := 23, pos := "outright.go:188", after := #[{ on := 8, ground := Ground.data }, { on := 14, ground := Ground.data }, { on := 7, ground := Ground.chain }], guard := none }) rfl (fun K2 hK => ?_) ?_
         ·have hs9 : N3 ≤ V3.heap.size := by have := hV3.size; have := HN3.out; omega
          obtain ⟨vvb, V4, hap, hqb, hqa, hD2, hbl2, hB9, hkp⟩ := app_two hob hoa (fun j e e2 => hD j e2 e) hzb Hbb.out hs9 (by omega)
          have hrun := run_app hap
          clear hap
          have hV4h := Lib.hid (hV3.trans hB9)
          replace hob := hqb
          replace hoa := hqa
          replace hD : ∀ j, vva.ownBlock = some j → vvb.ownBlock ≠ some j := fun j e e2 => hD2 j e2 e
          have Hbb := Lib.hid hbl2
          have Hoa := Lib.hid hoa
          have Hob := Lib.hid hob
          have HD := Lib.hid hD
          clear hqb hqa hD2 hbl2 hB9 hkp hs9 hoa hob hD hzb
          go_simp
          try rw [hrun]
          try go_simp
          refine hK.out _ _ hV4h.out (fun hV4 => ?_)
          clear hK K2 hrun hV4h
          have hoa := Hoa.out
          have hob := Hob.out
          have hD := HD.out
          clear Hoa Hob HD
          try simp only [Act.put, List.setIfInBounds_toArray, List.set_cons_zero, List.set_cons_succ]
          refine wpAnyH_take (i := 16) (oi := { dst := some 22, op := Op.assign (Operand.tmp 174), type := 23, pos := "outright.go:188", after := #[{ on := 7, ground := Ground.data }, { on := 15, ground := Ground.chain }, { on := 0, ground := Ground.phase }, { on := 1, ground := Ground.phase }, { on := 2, ground := Ground.phase }, { on := 3, ground := Ground.phase }, { on := 4, ground := Ground.phase }, { on := 5, ground := Ground.phase }, { on := 6, ground := Ground.phase }, { on := 7, ground := Ground.phase }, { on := 8, ground := Ground.textOnly Departure.lateStores }, { on := 9, ground := Ground.textOnly Departure.lateStores }, { on := 10, ground := Ground.textOnly Departure.lateStores }, { on := 11, ground := Ground.textOnly Departure.lateStores }, { on := 12, ground := Ground.textOnly Departure.lateStores }, { on := 13, ground := Ground.textOnly Departure.lateStores }, { on := 14, ground := Ground.textOnly Departure.lateStores }, { on := 15, ground := Ground.textOnly Departure.lateStoresUnsure }], guard := none }) (v := vva) rfl (by kernel_rfl) (by kernel_rfl) (by kernel_rfl) (fun _ _ _ h => h) (Or.inl ⟨by rfl, by intro w2 hSw; (try dsimp only at hSw);  go_simp⟩) hV4 ?_
          try simp only [Act.put, List.setIfInBounds_toArray, List.set_cons_zero, List.set_cons_succ]
          refine wpAnyH_take (i := 17) (oi := { dst := some 23, op := Op.assign (Operand.tmp 182), type := 23, pos := "outright.go:188", after := #[{ on := 15, ground := Ground.data }, { on := 16, ground := Ground.chain }, { on := 0, ground := Ground.phase }, { on := 1, ground := Ground.phase }, { on := 2, ground := Ground.phase }, { on := 3, ground := Ground.phase }, { on := 4, ground := Ground.phase }, { on := 5, ground := Ground.phase }, { on := 6, ground := Ground.phase }, { on := 7, ground := Ground.phase }, { on := 8, ground := Ground.phase }, { on := 9, ground := Ground.phase }, { on := 10, ground := Ground.phase }, { on := 11, ground := Ground.phase }, { on := 12, ground := Ground.phase }, { on := 13, ground := Ground.phase }, { on := 14, ground := Ground.phase }, { on := 15, ground := Ground.phase }, { on := 16, ground := Ground.phase }], guard := none }) (v := vvb) rfl (by kernel_rfl) (by kernel_rfl) (by kernel_rfl) (fun _ _ _ h => h) (Or.inl ⟨by rfl, by intro w2 hSw; (try dsimp only at hSw);  go_simp⟩) hV4 ?_
          try simp only [Act.put, List.setIfInBounds_toArray, List.set_cons_zero, List.set_cons_succ]
          have Hoa := Lib.hid hoa
          have Hob := Lib.hid hob
          have HD := Lib.hid hD
          have HS9 := Lib.hid hV4
          clear hoa hob hD
          refine wpAnyH_done (by kernel_rfl) ?_ _
          go_wp2_with fail
          go_roundw
          case rel => exact ⟨k + 1, by omega, by go_num, by rw [Hkx.out, flatI_snoc]; exact Hoa.out, by rw [Hky.out, flatI_snoc]; exact Hob.out, HD.out, Hba.out, Hbb.out, by rw [← hw3]; exact HS9.out⟩
          case measure => simp [intOf]; omega
         exact AllReadyH.nil
        exact AllReadyH.nil
       refine AllReadyH.cons (o := { dst := some 181, op := Op.buildSlice 23 1 #[(0, Operand.tmp 180)], type := 23, pos := "outright.go:188", after := #[{ on := 13, ground := Ground.data }], guard := none }) rfl (fun K2 hK => ?_) ?_
       ·go_simp
        have hs9 : N3 ≤ V1.heap.size := by have := hV1.size; have := HN3.out; omega
        refine hK.out _ _ (hV1.trans ((below_alloc_ _ _).mono hs9)) (fun hV2 => ?_)
        clear hK K2
        have hzb := heap_alloc_new_ V1 (.cells #[.int .i64 hi] 2)
        have hb := below_alloc_ V1 (.cells #[.int .i64 hi] 2)
        replace hza := (hb.block _ (lt_of_block hza)).trans hza
        have hnab := Lib.hid (show ∀ j, u22.ownBlock = some j → j ≠ V1.heap.size from fun j e e2 => by have := own_lt hoa j e; omega)
        have hnbb := Lib.hid (show ∀ j, u23.ownBlock = some j → j ≠ V1.heap.size from fun j e e2 => by have := own_lt hob j e; omega)
        replace hoa := own_keep hoa (Keeps.of_new (Mut := fun _ => False) hb) (fun _ _ e => e)
        replace hob := own_keep hob (Keeps.of_new (Mut := fun _ => False) hb) (fun _ _ e => e)
        generalize V1.alloc (.cells #[.int .i64 hi] 2) = V2 at *
        obtain ⟨Zb, hZ⟩ : ∃ Zb, V1.heap.size = Zb := ⟨_, rfl⟩
        rw [hZ] at hzb hnab hnbb ⊢
        clear hZ hb hs9
        try simp only [Act.put, List.setIfInBounds_toArray, List.set_cons_zero, List.set_cons_succ]
        refine wpAnyH_ready (rs := [7]) (by kernel_rfl) (by simp) ?_
        refine AllReadyH.cons (o := { dst := some 174, op := Op.call { callee := Callee.builtin Builtin.append, args := #[Operand.tmp 167, Operand.tmp 173], argTypes := #[23, 23] }, type := 23, pos := "outright.go:188", after := #[{ on := 0, ground := Ground.data }, { on := 6, ground := Ground.data }], guard := none }) rfl (fun K2 hK => ?_) ?_
        ·have hs9 : N3 ≤ V2.heap.size := by have := hV2.size; have := HN3.out; omega
         obtain ⟨vva, V3, hap, hqa, hqb, hD2, hbl2, hB9, hkp⟩ := app_two hoa hob hD hza Hba.out hs9 (by omega)
         have hrun := run_app hap
         clear hap
         replace hzb := hkp _ _ hzb (fun e => hnab.out _ e rfl)
         have hV3h := Lib.hid (hV2.trans hB9)
         replace hoa := hqa
         replace hob := hqb
         replace hD : ∀ j, vva.ownBlock = some j → u23.ownBlock ≠ some j := hD2
         have Hba := Lib.hid hbl2
         have Hoa := Lib.hid hoa
         have Hob := Lib.hid hob
         have HD := Lib.hid hD
         have Hzb := Lib.hid hzb
         clear hzb
         clear hqa hqb hD2 hbl2 hB9 hkp hs9 hoa hob hD hza
         go_simp
         try rw [hrun]
         try go_simp
         refine hK.out _ _ hV3h.out (fun hV3 => ?_)
         clear hK K2 hrun hV3h
         have hoa := Hoa.out
         have hob := Hob.out
         have hD := HD.out
         clear Hoa Hob HD
         have hzb := Hzb.out
         clear Hzb
         try simp only [Act.put, List.setIfInBounds_toArray, List.set_cons_zero, List.set_cons_succ]
         refine wpAnyH_ready (rs := [15]) (by kernel_rfl) (by simp) ?_
         refine AllReadyH.cons (o := { dst := some 182, op := Op.call { callee := Callee.builtin Builtin.append, args := #[Operand.tmp 175, Operand.tmp 181], argTypes := #[23, 23] }, type := 23, pos := "outright.go:188", after := #[{ on := 8, ground := Ground.data }, { on := 14, ground := Ground.data }, { on := 7, ground := Ground.chain }], guard := none }) rfl (fun K2 hK => ?_) ?_
         ·have hs9 : N3 ≤ V3.heap.size := by have := hV3.size; have := HN3.out; omega
          obtain ⟨vvb, V4, hap, hqb, hqa, hD2, hbl2, hB9, hkp⟩ := app_two hob hoa (fun j e e2 => hD j e2 e) hzb Hbb.out hs9 (by omega)
          have hrun := run_app hap
          clear hap
          have hV4h := Lib.hid (hV3.trans hB9)
          replace hob := hqb
          replace hoa := hqa
          replace hD : ∀ j, vva.ownBlock = some j → vvb.ownBlock ≠ some j := fun j e e2 => hD2 j e2 e
          have Hbb := Lib.hid hbl2
          have Hoa := Lib.hid hoa
          have Hob := Lib.hid hob
          have HD := Lib.hid hD
          clear hqb hqa hD2 hbl2 hB9 hkp hs9 hoa hob hD hzb
          go_simp
          try rw [hrun]
          try go_simp
          refine hK.out _ _ hV4h.out (fun hV4 => ?_)
          clear hK K2 hrun hV4h
          have hoa := Hoa.out
          have hob := Hob.out
          have hD := HD.out
          clear Hoa Hob HD
          try simp only [Act.put, List.setIfInBounds_toArray, List.set_cons_zero, List.set_cons_succ]
          refine wpAnyH_take (i := 16) (oi := { dst := some 22, op := Op.assign (Operand.tmp 174), type := 23, pos := "outright.go:188", after := #[{ on := 7, ground := Ground.data }, { on := 15, ground := Ground.chain }, { on := 0, ground := Ground.phase }, { on := 1, ground := Ground.phase }, { on := 2, ground := Ground.phase }, { on := 3, ground := Ground.phase }, { on := 4, ground := Ground.phase }, { on := 5, ground := Ground.phase }, { on := 6, ground := Ground.phase }, { on := 7, ground := Ground.phase }, { on := 8, ground := Ground.textOnly Departure.lateStores }, { on := 9, ground := Ground.textOnly Departure.lateStores }, { on := 10, ground := Ground.textOnly Departure.lateStores }, { on := 11, ground := Ground.textOnly Departure.lateStores }, { on := 12, ground := Ground.textOnly Departure.lateStores }, { on := 13, ground := Ground.textOnly Departure.lateStores }, { on := 14, ground := Ground.textOnly Departure.lateStores }, { on := 15, ground := Ground.textOnly Departure.lateStoresUnsure }], guard := none }) (v := vva) rfl (by kernel_rfl) (by kernel_rfl) (by kernel_rfl) (fun _ _ _ h => h) (Or.inl ⟨by rfl, by intro w2 hSw; (try dsimp only at hSw);  go_simp⟩) hV4 ?_
          try simp only [Act.put, List.setIfInBounds_toArray, List.set_cons_zero, List.set_cons_succ]
          refine wpAnyH_take (i := 17) (oi := { dst := some 23, op := Op.assign (Operand.tmp 182), type := 23, pos := "outright.go:188", after := #[{ on := 15, ground := Ground.data }, { on := 16, ground := Ground.chain }, { on := 0, ground := Ground.phase }, { on := 1, ground := Ground.phase }, { on := 2, ground := Ground.phase }, { on := 3, ground := Ground.phase }, { on := 4, ground := Ground.phase }, { on := 5, ground := Ground.phase }, { on := 6, ground := Ground.phase }, { on := 7, ground := Ground.phase }, { on := 8, ground := Ground.phase }, { on := 9, ground := Ground.phase }, { on := 10, ground := Ground.phase }, { on := 11, ground := Ground.phase }, { on := 12, ground := Ground.phase }, { on := 13, ground := Ground.phase }, { on := 14, ground := Ground.phase }, { on := 15, ground := Ground.phase }, { on := 16, ground := Ground.phase }], guard := none }) (v := vvb) rfl (by kernel_rfl) (by kernel_rfl) (by kernel_rfl) (fun _ _ _ h => h) (Or.inl ⟨by rfl, by intro w2 hSw; (try dsimp only at hSw);  go_simp⟩) hV4 ?_
          try simp only [Act.put, List.setIfInBounds_toArray, List.set_cons_zero, List.set_cons_succ]
          have Hoa := Lib.hid hoa
          have Hob := Lib.hid hob
          have HD := Lib.hid hD
          have HS9 := Lib.hid hV4
          clear hoa hob hD
          refine wpAnyH_done (by kernel_rfl) ?_ _
          go_wp2_with fail
          go_roundw
          case rel => exact ⟨k + 1, by omega, by go_num, by rw [Hkx.out, flatI_snoc]; exact Hoa.out, by rw [Hky.out, flatI_snoc]; exact Hob.out, HD.out, Hba.out, Hbb.out, by rw [← hw3]; exact HS9.out⟩
          case measure => simp [intOf]; omega
         exact AllReadyH.nil
        exact AllReadyH.nil
       exact AllReadyH.nil
      refine AllReadyH.cons (o := { dst := some 181, op := Op.buildSlice 23 1 #[(0, Operand.tmp 180)], type := 23, pos := "outright.go:188", after := #[{ on := 13, ground := Ground.data }], guard := none }) rfl (fun K2 hK => ?_) ?_
      ·go_simp
       have hs9 : N3 ≤ V0.heap.size := by have := hV0.size; have := HN3.out; omega
       refine hK.out _ _ (hV0.trans ((below_alloc_ _ _).mono hs9)) (fun hV1 => ?_)
       clear hK K2
       have hzb := heap_alloc_new_ V0 (.cells #[.int .i64 hi] 2)
       have hb := below_alloc_ V0 (.cells #[.int .i64 hi] 2)
       have hnab := Lib.hid (show ∀ j, u22.ownBlock = some j → j ≠ V0.heap.size from fun j e e2 => by have := own_lt hoa j e; omega)
       have hnbb := Lib.hid (show ∀ j, u23.ownBlock = some j → j ≠ V0.heap.size from fun j e e2 => by have := own_lt hob j e; omega)
       replace hoa := own_keep hoa (Keeps.of_new (Mut := fun _ => False) hb) (fun _ _ e => e)
       replace hob := own_keep hob (Keeps.of_new (Mut := fun _ => False) hb) (fun _ _ e => e)
       generalize V0.alloc (.cells #[.int .i64 hi] 2) = V1 at *
       obtain ⟨Zb, hZ⟩ : ∃ Zb, V0.heap.size = Zb := ⟨_, rfl⟩
       rw [hZ] at hzb hnab hnbb ⊢
       clear hZ hb hs9
       try simp only [Act.put, List.setIfInBounds_toArray, List.set_cons_zero, List.set_cons_succ]
       refine wpAnyH_ready (rs := [6]) (by kernel_rfl) (by simp) ?_
       refine AllReadyH.cons (o := { dst := some 173, op := Op.buildSlice 23 1 #[(0, Operand.tmp 172)], type := 23, pos := "outright.go:188", after := #[{ on := 5, ground := Ground.data }], guard := none }) rfl (fun K2 hK => ?_) ?_
       ·go_simp
        have hs9 : N3 ≤ V1.heap.size := by have := hV1.size; have := HN3.out; omega
        refine hK.out _ _ (hV1.trans ((below_alloc_ _ _).mono hs9)) (fun hV2 => ?_)
        clear hK K2
        have hza := heap_alloc_new_ V1 (.cells #[.int .i64 lo] 2)
        have hb := below_alloc_ V1 (.cells #[.int .i64 lo] 2)
        replace hzb := (hb.block _ (lt_of_block hzb)).trans hzb
        have hnaa := Lib.hid (show ∀ j, u22.ownBlock = some j → j ≠ V1.heap.size from fun j e e2 => by have := own_lt hoa j e; omega)
        have hnba := Lib.hid (show ∀ j, u23.ownBlock = some j → j ≠ V1.heap.size from fun j e e2 => by have := own_lt hob j e; omega)
        replace hoa := own_keep hoa (Keeps.of_new (Mut := fun _ => False) hb) (fun _ _ e => e)
        replace hob := own_keep hob (Keeps.of_new (Mut := fun _ => False) hb) (fun _ _ e => e)
        generalize V1.alloc (.cells #[.int .i64 lo] 2) = V2 at *
        obtain ⟨Za, hZ⟩ : ∃ Za, V1.heap.size = Za := ⟨_, rfl⟩
        rw [hZ] at hza hnaa hnba ⊢
        clear hZ hb hs9
        try simp only [Act.put, List.setIfInBounds_toArray, List.set_cons_zero, List.set_cons_succ]
        refine wpAnyH_ready (rs := [7]) (by kernel_rfl) (by simp) ?_
        refine AllReadyH.cons (o := { dst := some 174, op := Op.call { callee := Callee.builtin Builtin.append, args := #[Operand.tmp 167, Operand.tmp 173], argTypes := #[23, 23] }, type := 23, pos := "outright.go:188", after := #[{ on := 0, ground := Ground.data }, { on := 6, ground := Ground.data }], guard := none }) rfl (fun K2 hK => ?_) ?_
        ·have hs9 : N3 ≤ V2.heap.size := by have := hV2.size; have := HN3.out; omega
         obtain ⟨vva, V3, hap, hqa, hqb, hD2, hbl2, hB9, hkp⟩ := app_two hoa hob hD hza Hba.out hs9 (by omega)
         have hrun := run_app hap
         clear hap
         replace hzb := hkp _ _ hzb (fun e => hnab.out _ e rfl)
         have hV3h := Lib.hid (hV2.trans hB9)
         replace hoa := hqa
         replace hob := hqb
         replace hD : ∀ j, vva.ownBlock = some j → u23.ownBlock ≠ some j := hD2
         have Hba := Lib.hid hbl2
         have Hoa := Lib.hid hoa
         have Hob := Lib.hid hob
         have HD := Lib.hid hD
         have Hzb := Lib.hid hzb
         clear hzb
         clear hqa hqb hD2 hbl2 hB9 hkp hs9 hoa hob hD hza
         go_simp
         try rw [hrun]
         try go_simp
         refine hK.out _ _ hV3h.out (fun hV3 => ?_)
         clear hK K2 hrun hV3h
         have hoa := Hoa.out
         have hob := Hob.out
         have hD := HD.out
         clear Hoa Hob HD
         have hzb := Hzb.out
         clear Hzb
         try simp only [Act.put, List.setIfInBounds_toArray, List.set_cons_zero, List.set_cons_succ]
         refine wpAnyH_ready (rs := [15]) (by kernel_rfl) (by simp) ?_
         refine AllReadyH.cons (o := { dst := some 182, op := Op.call { callee := Callee.builtin Builtin.append, args := #[Operand.tmp 175, Operand.tmp 181], argTypes := #[23, 23] }, type := 23, pos := "outright.go:188", after := #[{ on := 8, ground := Ground.data }, { on := 14, ground := Ground.data }, { on := 7, ground := Ground.chain }], guard := none }) rfl (fun K2 hK => ?_) ?_
         ·have hs9 : N3 ≤ V3.heap.size := by have := hV3.size; have := HN3.out; omega
          obtain ⟨vvb, V4, hap, hqb, hqa, hD2, hbl2, hB9, hkp⟩ := app_two hob hoa (fun j e e2 => hD j e2 e) hzb Hbb.out hs9 (by omega)
          have hrun := run_app hap
          clear hap
          have hV4h := Lib.hid (hV3.trans hB9)
          replace hob := hqb
          replace hoa := hqa
          replace hD : ∀ j, vva.ownBlock = some j → vvb.ownBlock ≠ some j := fun j e e2 => hD2 j e2 e
          have Hbb := Lib.hid hbl2
          have Hoa := Lib.hid hoa
          have Hob := Lib.hid hob
          have HD := Lib.hid hD
          clear hqb hqa hD2 hbl2 hB9 hkp hs9 hoa hob hD hzb
          go_simp
          try rw [hrun]
          try go_simp
          refine hK.out _ _ hV4h.out (fun hV4 => ?_)
          clear hK K2 hrun hV4h
          have hoa := Hoa.out
          have hob := Hob.out
          have hD := HD.out
          clear Hoa Hob HD
          try simp only [Act.put, List.setIfInBounds_toArray, List.set_cons_zero, List.set_cons_succ]
          refine wpAnyH_take (i := 16) (oi := { dst := some 22, op := Op.assign (Operand.tmp 174), type := 23, pos := "outright.go:188", after := #[{ on := 7, ground := Ground.data }, { on := 15, ground := Ground.chain }, { on := 0, ground := Ground.phase }, { on := 1, ground := Ground.phase }, { on := 2, ground := Ground.phase }, { on := 3, ground := Ground.phase }, { on := 4, ground := Ground.phase }, { on := 5, ground := Ground.phase }, { on := 6, ground := Ground.phase }, { on := 7, ground := Ground.phase }, { on := 8, ground := Ground.textOnly Departure.lateStores }, { on := 9, ground := Ground.textOnly Departure.lateStores }, { on := 10, ground := Ground.textOnly Departure.lateStores }, { on := 11, ground := Ground.textOnly Departure.lateStores }, { on := 12, ground := Ground.textOnly Departure.lateStores }, { on := 13, ground := Ground.textOnly Departure.lateStores }, { on := 14, ground := Ground.textOnly Departure.lateStores }, { on := 15, ground := Ground.textOnly Departure.lateStoresUnsure }], guard := none }) (v := vva) rfl (by kernel_rfl) (by kernel_rfl) (by kernel_rfl) (fun _ _ _ h => h) (Or.inl ⟨by rfl, by intro w2 hSw; (try dsimp only at hSw);  go_simp⟩) hV4 ?_
          try simp only [Act.put, List.setIfInBounds_toArray, List.set_cons_zero, List.set_cons_succ]
          refine wpAnyH_take (i := 17) (oi := { dst := some 23, op := Op.assign (Operand.tmp 182), type := 23, pos := "outright.go:188", after := #[{ on := 15, ground := Ground.data }, { on := 16, ground := Ground.chain }, { on := 0, ground := Ground.phase }, { on := 1, ground := Ground.phase }, { on := 2, ground := Ground.phase }, { on := 3, ground := Ground.phase }, { on := 4, ground := Ground.phase }, { on := 5, ground := Ground.phase }, { on := 6, ground := Ground.phase }, { on := 7, ground := Ground.phase }, { on := 8, ground := Ground.phase }, { on := 9, ground := Ground.phase }, { on := 10, ground := Ground.phase }, { on := 11, ground := Ground.phase }, { on := 12, ground := Ground.phase }, { on := 13, ground := Ground.phase }, { on := 14, ground := Ground.phase }, { on := 15, ground := Ground.phase }, { on := 16, ground := Ground.phase }], guard := none }) (v := vvb) rfl (by kernel_rfl) (by kernel_rfl) (by kernel_rfl) (fun _ _ _ h => h) (Or.inl ⟨by rfl, by intro w2 hSw; (try dsimp only at hSw);  go_simp⟩) hV4 ?_
          try simp only [Act.put, List.setIfInBounds_toArray, List.set_cons_zero, List.set_cons_succ]
          have Hoa := Lib.hid hoa
          have Hob := Lib.hid hob
          have HD := Lib.hid hD
          have HS9 := Lib.hid hV4
          clear hoa hob hD
          refine wpAnyH_done (by kernel_rfl) ?_ _
          go_wp2_with fail
          go_roundw
          case rel => exact ⟨k + 1, by omega, by go_num, by rw [Hkx.out, flatI_snoc]; exact Hoa.out, by rw [Hky.out, flatI_snoc]; exact Hob.out, HD.out, Hba.out, Hbb.out, by rw [← hw3]; exact HS9.out⟩
          case measure => simp [intOf]; omega
         exact AllReadyH.nil
        exact AllReadyH.nil
       exact AllReadyH.nil
      exact AllReadyH.nil
     ·have e' : k = m3 := by omega
      subst e'
      have hxk : tkI x k = x := by have := tkI_all x; rwa [Hlx.out] at this
      have hyk : tkI y k = y := by have := tkI_all y; rwa [Hly.out] at this
      rw [hxk] at hoa
      rw [hyk] at hob
      obtain ⟨Ca, ca, rfl, hca, hia, -⟩ := ints_own Hlx.out hoa
      obtain ⟨Cb, cb, rfl, hcb, hib, -⟩ := ints_own Hly.out hob
      have hb : Below wc.heap.size wc wk := by rw [← HN3.out]; exact HS.out
      replace B1 := Lib.hid (B1.out.trans (hb.mono B1.out.size))
      replace X0 := Lib.hid ((hb.block _ (lt_of_block X0.out)).trans X0.out)
      replace F := Lib.hid (F.out.below hb (Nat.le_refl _))
      replace R := Lib.hid (R.out.below hb (Nat.le_refl _))
      replace PB := Lib.hid ((hb.block _ (lt_of_block PB.out)).trans PB.out)
      have LA := Lib.hid hia
      have LB := Lib.hid hib
      clear hb hoa hob hia hib hxk hyk hD Hba Hbb HS hca hcb hlt hk HN3
      go_wp2_with fail
      refine (by36 _ n cap zs C1 m1 cap1 us wk (S0.out.below B1.out (Nat.le_refl _)) (U0.out.below B1.out (Nat.le_refl _)) HZ.out hm1).mono ?_
      rintro en w14 ⟨z, Dz, cpz, hzc, rfl, hlz, hi, hf, hb⟩
      replace B1 := Lib.hid (B1.out.trans (hb.mono B1.out.size))
      replace X0 := Lib.hid ((hb.block _ (lt_of_block X0.out)).trans X0.out)
      replace F := Lib.hid (F.out.below hb (Nat.le_refl _))
      replace PB := Lib.hid ((hb.block _ (lt_of_block PB.out)).trans PB.out)
      replace LA := Lib.hid (LA.out.below hb (Nat.le_refl _))
      replace LB := Lib.hid (LB.out.below hb (Nat.le_refl _))
      obtain ⟨lz, hlz2⟩ : ∃ lz, z.length = lz := ⟨_, rfl⟩
      rw [hlz2] at hi
      rw [hlz2]
      have hlz24 : lz ≤ 24 := by have := ((ckSc_iff HZ.out).1 hzc).2.1; omega
      have LZ := Lib.hid hi
      clear hb hi hf hlz hlz2 hzc
      go_wp2_with fail
      have hrow := heap_alloc_new_ w14 (.cells #[.slice Ds k cps, .slice Ca k ca, .slice Cb k cb, .slice Dz lz cpz, .slice C2 m2 cap2] 23)
      have hb := below_alloc_ w14 (.cells #[.slice Ds k cps, .slice Ca k ca, .slice Cb k cb, .slice Dz lz cpz, .slice C2 m2 cap2] 23)
      obtain ⟨w15, hV⟩ : ∃ w15, w14.alloc (.cells #[.slice Ds k cps, .slice Ca k ca, .slice Cb k cb, .slice Dz lz cpz, .slice C2 m2 cap2] 23) = w15 := ⟨_, rfl⟩
      rw [hV] at hrow hb ⊢
      clear hV
      replace B1 := Lib.hid (B1.out.trans (hb.mono B1.out.size))
      replace X0 := Lib.hid ((hb.block _ (lt_of_block X0.out)).trans X0.out)
      replace F := Lib.hid (F.out.below hb (Nat.le_refl _))
      replace PB := Lib.hid ((hb.block _ (lt_of_block PB.out)).trans PB.out)
      replace LA := Lib.hid (LA.out.below hb (Nat.le_refl _))
      replace LB := Lib.hid (LB.out.below hb (Nat.le_refl _))
      replace LZ := Lib.hid (LZ.out.below hb (Nat.le_refl _))
      obtain ⟨Q, hQ⟩ : ∃ Q, w14.heap.size = Q := ⟨_, rfl⟩
      rw [hQ] at hrow ⊢
      have Row := Lib.hid hrow
      clear hb hQ hrow
      have HL := Lib.hid (show ∀ q : Nat, q < 5 → ∃ (Cg : Option Addr) (mg cg : Nat) (gs : List Int), w15.cell? ⟨Q, q, none⟩ = some (.slice Cg mg cg) ∧ Ints w15 Cg mg gs ∧ mg ≤ 9223372036854775807 from by
       intro q hq
       rcases (by omega : q = 0 ∨ q = 1 ∨ q = 2 ∨ q = 3 ∨ q = 4) with rfl | rfl | rfl | rfl | rfl
       ·exact ⟨Ds, k, cps, s, by rw [cell_row Row.out]; rfl, F.out, by omega⟩
       ·exact ⟨Ca, k, ca, x, by rw [cell_row Row.out]; rfl, LA.out, by omega⟩
       ·exact ⟨Cb, k, cb, y, by rw [cell_row Row.out]; rfl, LB.out, by omega⟩
       ·exact ⟨Dz, lz, cpz, z, by rw [cell_row Row.out]; rfl, LZ.out, by omega⟩
       ·exact ⟨C2, m2, cap2, gv, by rw [cell_row Row.out]; rfl, N0.out.below B1.out (Nat.le_refl _), hm2⟩)
      clear F LA LB LZ Row HNl
      go_loopw [26] (fun i wr => ∃ q : Nat, q ≤ 5 ∧ i = .int .i64 (q : Int) ∧ Below w15.heap.size w15 wr) (fun i _ => 5 - (intOf i).toNat)
      case atStart => exact ⟨0, by omega, rfl, Below.refl _ _⟩
      case round =>
       obtain ⟨q, hq, rfl, hB⟩ := hrel
       obtain ⟨wq, rfl⟩ : ∃ wq, wq = wr := ⟨_, rfl⟩
       have B7 := Lib.hid hB
       have B9 := Lib.hid (B1.out.trans (hB.mono B1.out.size))
       by_cases hlt : q < 5
       rotate_left
       ·clear HL
        go_wp2_with fail
        refine (works15 _).mono ?_
        rintro en wz ⟨rfl, hb9⟩
        replace B9 := Lib.hid (B9.out.trans (hb9.mono B9.out.size))
        clear hb9
        go_wp2_with fail
        go_ret
        exact ⟨rfl, B0.out.trans (B9.out.mono B0.out.size)⟩
       ·obtain ⟨Cg, mg, cg, gs, hcell, hgi, hgm⟩ := HL.out q hlt
        have c9 : wq.cell? ⟨Q, q, none⟩ = some (.slice Cg mg cg) := (hB.cell (p := ⟨Q, q, none⟩) (lt_of_cell hcell)).trans hcell
        have HC := Lib.hid hcell
        have G := Lib.hid (hgi.below hB (Nat.le_refl _))
        have S9 := Lib.hid (S0.out.below B9.out (Nat.le_refl _))
        have i0 : (0 : Int) ≤ (q : Int) := by omega
        have i1 : (q : Int) < 5 := by omega
        have d3 : (q : Int).toNat = q := by omega
        clear hB hcell hgi
        by_cases hmk : mg = k
        rotate_left
        ·have d5 : ((mg : Int) == (k : Int)) = false := by rw [beq_eq_false_iff_ne]; omega
         have d8 : (mg == k) = false := by rw [beq_eq_false_iff_ne]; exact hmk
         go_wp2_with fail
         go_roundw
         case rel => exact ⟨q + 1, by omega, by go_num, B7.out⟩
         case measure => simp [intOf]; omega
        ·have hmk' : k = mg := hmk.symm
         subst hmk'
         clear hmk
         go_wp2_with fail
         refine (refScale21 _ n cap zs Cg k cg gs wq S9.out G.out hn).mono ?_
         rintro en w16 ⟨rfl, hb⟩
         replace G := Lib.hid (G.out.below hb (Nat.le_refl _))
         replace B7 := Lib.hid (B7.out.trans (hb.mono B7.out.size))
         replace B9 := Lib.hid (B9.out.trans (hb.mono B9.out.size))
         clear hb
         by_cases he : ckSc zs gs = 0
         rotate_left
         ·obtain ⟨eg, heg⟩ : ∃ eg, ckSc zs gs = eg := ⟨_, rfl⟩
          rw [heg] at he ⊢
          have d7 : (eg == 0) = false := by rw [beq_eq_false_iff_ne]; exact he
          clear he heg
          go_wp2_with fail
          go_roundw
          case rel => exact ⟨q + 1, by omega, by go_num, B7.out⟩
          case measure => simp [intOf]; omega
         ·have ho9 := ON.out gs he (by have := G.out.1; have := Hls.out; omega)
          rw [he]
          clear he c9
          obtain ⟨on, hon⟩ : ∃ on, meets gs (comm g1 g2) = on := ⟨_, rfl⟩
          rw [hon] at ho9
          have Ho9 := Lib.hid ho9
          have hcm := fun W h => meets38 (comm g1 g2) Cg k cg gs W h (by omega)
          rw [hon] at hcm
          simp only [comm] at hcm
          clear hon ho9
          have c9 : w16.cell? ⟨Q, q, none⟩ = some (.slice Cg k cg) := (B7.out.cell (p := ⟨Q, q, none⟩) (lt_of_cell HC.out)).trans HC.out
          have rP := (B7.out.block _ (lt_of_block PB.out)).trans PB.out
          have rX := (B7.out.block _ (lt_of_block X0.out)).trans X0.out
          have p0 : w16.cell? ⟨Pb, 0, none⟩ = some (.int .i64 (max g1.lo g2.lo)) := by rw [cell_row rP]; rfl
          have p1 : w16.cell? ⟨Pb, 1, none⟩ = some (.int .i64 (min g1.hi g2.hi)) := by rw [cell_row rP]; rfl
          go_wp2_with fail
          refine wp_region_held_drew (S := fun w2 => Below w16.heap.size w16 w2) (by kernel_rfl) (drew_b _ _) (fun hS0 => ?_)
          refine wpAnyH_take (i := 0) (oi := { dst := some 212, op := Op.load 56 (Operand.tmp 21), type := 56, pos := "outright.go:195", after := #[], guard := none }) (v := .agg #[.int .i64 (max g1.lo g2.lo), .int .i64 (min g1.hi g2.hi)]) rfl (by kernel_rfl) (by kernel_rfl) (by kernel_rfl) (fun _ _ _ h => h) (Or.inl ⟨by rfl, by intro w2 hSw; (try dsimp only at hSw); have y0 := (hSw.cell (p := ⟨Pb, 0, none⟩) (lt_of_cell p0)).trans p0; have y1 := (hSw.cell (p := ⟨Pb, 1, none⟩) (lt_of_cell p1)).trans p1; have y2 := (hSw.cell (p := ⟨Q, q, none⟩) (lt_of_cell c9)).trans c9; go_simp⟩) hS0 ?_
          try simp only [Act.put, List.setIfInBounds_toArray, List.set_cons_zero, List.set_cons_succ]
          refine wpAnyH_take (i := 1) (oi := { dst := some 213, op := Op.move (Operand.tmp 25), type := 57, pos := "outright.go:195", after := #[], guard := none }) (v := .slice (some ⟨Q, 0, none⟩) 5 5) rfl (by kernel_rfl) (by kernel_rfl) (by kernel_rfl) (fun _ _ _ h => h) (Or.inl ⟨by rfl, by intro w2 hSw; (try dsimp only at hSw); have y0 := (hSw.cell (p := ⟨Pb, 0, none⟩) (lt_of_cell p0)).trans p0; have y1 := (hSw.cell (p := ⟨Pb, 1, none⟩) (lt_of_cell p1)).trans p1; have y2 := (hSw.cell (p := ⟨Q, q, none⟩) (lt_of_cell c9)).trans c9; go_simp⟩) hS0 ?_
          try simp only [Act.put, List.setIfInBounds_toArray, List.set_cons_zero, List.set_cons_succ]
          refine wpAnyH_take (i := 2) (oi := { dst := some 214, op := Op.move (Operand.tmp 26), type := 3, pos := "outright.go:195", after := #[], guard := none }) (v := .int .i64 (q : Int)) rfl (by kernel_rfl) (by kernel_rfl) (by kernel_rfl) (fun _ _ _ h => h) (Or.inl ⟨by rfl, by intro w2 hSw; (try dsimp only at hSw); have y0 := (hSw.cell (p := ⟨Pb, 0, none⟩) (lt_of_cell p0)).trans p0; have y1 := (hSw.cell (p := ⟨Pb, 1, none⟩) (lt_of_cell p1)).trans p1; have y2 := (hSw.cell (p := ⟨Q, q, none⟩) (lt_of_cell c9)).trans c9; go_simp⟩) hS0 ?_
          try simp only [Act.put, List.setIfInBounds_toArray, List.set_cons_zero, List.set_cons_succ]
          refine wpAnyH_take (i := 3) (oi := { dst := some 215, op := Op.indexAddr 57 (Operand.tmp 213) (Operand.tmp 214), type := 0, pos := "outright.go:195", after := #[{ on := 1, ground := Ground.data }, { on := 2, ground := Ground.data }], guard := none }) (v := .pointer (some ⟨Q, q, none⟩)) rfl (by kernel_rfl) (by kernel_rfl) (by kernel_rfl) (fun _ _ _ h => h) (Or.inl ⟨by rfl, by intro w2 hSw; (try dsimp only at hSw); have y0 := (hSw.cell (p := ⟨Pb, 0, none⟩) (lt_of_cell p0)).trans p0; have y1 := (hSw.cell (p := ⟨Pb, 1, none⟩) (lt_of_cell p1)).trans p1; have y2 := (hSw.cell (p := ⟨Q, q, none⟩) (lt_of_cell c9)).trans c9; go_simp⟩) hS0 ?_
          try simp only [Act.put, List.setIfInBounds_toArray, List.set_cons_zero, List.set_cons_succ]
          refine wpAnyH_take (i := 4) (oi := { dst := some 216, op := Op.load 23 (Operand.tmp 215), type := 23, pos := "outright.go:195", after := #[{ on := 3, ground := Ground.data }], guard := none }) (v := .slice Cg k cg) rfl (by kernel_rfl) (by kernel_rfl) (by kernel_rfl) (fun _ _ _ h => h) (Or.inl ⟨by rfl, by intro w2 hSw; (try dsimp only at hSw); have y0 := (hSw.cell (p := ⟨Pb, 0, none⟩) (lt_of_cell p0)).trans p0; have y1 := (hSw.cell (p := ⟨Pb, 1, none⟩) (lt_of_cell p1)).trans p1; have y2 := (hSw.cell (p := ⟨Q, q, none⟩) (lt_of_cell c9)).trans c9; go_simp⟩) hS0 ?_
          try simp only [Act.put, List.setIfInBounds_toArray, List.set_cons_zero, List.set_cons_succ]
          refine wpAnyH_ready (rs := [5]) (by kernel_rfl) (by simp) ?_
          refine AllReadyH.cons (o := { dst := some 217, op := Op.call { callee := Callee.value (Operand.func 38), args := #[Operand.tmp 212, Operand.tmp 216], argTypes := #[56, 23] }, type := 4, pos := "outright.go:195", after := #[{ on := 0, ground := Ground.data }, { on := 4, ground := Ground.data }], guard := none }) rfl (fun K2 hK => ?_) AllReadyH.nil
          go_simp
          refine (hcm _ (G.out.below hS0 (Nat.le_refl _))).mono ?_
          rintro e9 V1 ⟨rfl, hb6⟩
          try go_simp
          refine hK.out _ _ (hS0.trans (hb6.mono hS0.size)) (fun hS1 => ?_)
          clear hK K2 hb6
          try simp only [Act.put, List.setIfInBounds_toArray, List.set_cons_zero, List.set_cons_succ]
          refine wpAnyH_take (i := 6) (oi := { dst := some 27, op := Op.assign (Operand.tmp 217), type := 4, pos := "outright.go:195", after := #[{ on := 5, ground := Ground.data }, { on := 5, ground := Ground.chain }, { on := 0, ground := Ground.phase }, { on := 1, ground := Ground.phase }, { on := 2, ground := Ground.phase }, { on := 3, ground := Ground.phase }, { on := 4, ground := Ground.phase }, { on := 5, ground := Ground.phase }], guard := none }) (v := .bool on) rfl (by kernel_rfl) (by kernel_rfl) (by kernel_rfl) (fun _ _ _ h => h) (Or.inl ⟨by rfl, by intro w2 hSw; (try dsimp only at hSw); have y0 := (hSw.cell (p := ⟨Pb, 0, none⟩) (lt_of_cell p0)).trans p0; have y1 := (hSw.cell (p := ⟨Pb, 1, none⟩) (lt_of_cell p1)).trans p1; have y2 := (hSw.cell (p := ⟨Q, q, none⟩) (lt_of_cell c9)).trans c9; go_simp⟩) hS1 ?_
          try simp only [Act.put, List.setIfInBounds_toArray, List.set_cons_zero, List.set_cons_succ]
          refine wpAnyH_done (by kernel_rfl) ?_ _
          have B8 := Lib.hid (B7.out.trans (hS1.mono B7.out.size))
          have x0 : V1.cell? ⟨P0, 0, none⟩ = some (.bool true) := (hS1.cell (p := ⟨P0, 0, none⟩) (lt_of_block rX)).trans (by rw [cell_row rX]; rfl)
          have x1 : V1.cell? ⟨P0, 1, none⟩ = some (.bool false) := (hS1.cell (p := ⟨P0, 1, none⟩) (lt_of_block rX)).trans (by rw [cell_row rX]; rfl)
          clear hS1 hS0 p0 p1 c9 rP rX hcm
          go_wp2_with fail
          go_roundw
          case rel => exact ⟨q + 1, by omega, by go_num, B8.out⟩
          case measure => simp [intOf]; omega
  ·clear HMM
   have x00 : w13.cell? ⟨P0, 0, none⟩ = some (.bool false) := by rw [cell_row X0.out]; rfl
   have x01 : w13.cell? ⟨P0, 1, none⟩ = some (.bool false) := by rw [cell_row X0.out]; rfl
   have x10 : w13.cell? ⟨P1, 0, none⟩ = some (.bool false) := by rw [cell_row X1.out]; rfl
   have x11 : w13.cell? ⟨P1, 1, none⟩ = some (.bool false) := by rw [cell_row X1.out]; rfl
   have x20 : w13.cell? ⟨P2, 0, none⟩ = some (.bool true) := by rw [cell_row X2.out]; rfl
   have x21 : w13.cell? ⟨P2, 1, none⟩ = some (.bool true) := by rw [cell_row X2.out]; rfl
   have q1 : ∀ W, (binOp .neq 43 (.agg #[.bool false, .bool false]) (.agg #[.bool false, .bool false])).run Try.prog W = .ok (.bool false) W := fun W => run_neS false false W
   have q2 : ∀ W, (binOp .neq 43 (.agg #[.bool true, .bool true]) (.agg #[.bool true, .bool true])).run Try.prog W = .ok (.bool false) W := fun W => run_neS true true W
   go_wp2_with fail
   clear x10 x11 x20 x21 q1 q2 X1 X2
   have hS9 := S0.out.below B1.out (Nat.le_refl _)
   obtain ⟨b9, o9, hA9, hcr⟩ := hS9.2 (by omega)
   obtain ⟨u0, u1⟩ := hcr ti htin
   obtain ⟨v0, v1⟩ := hcr tk htkn
   have hbaL := lt_of_cell u0
   clear hcr hS9
   obtain ⟨g1, hg1⟩ : ∃ g, gAt zs ti = g := ⟨_, rfl⟩
   obtain ⟨g2, hg2⟩ : ∃ g, gAt zs tk = g := ⟨_, rfl⟩
   rw [hg1] at u0 u1
   rw [hg2] at v0 v1
   have ti0 : (0 : Int) ≤ (ti : Int) := by omega
   have ti1 : (ti : Int) < (n : Int) := by omega
   have tk0 : (0 : Int) ≤ (tk : Int) := by omega
   have tk1 : (tk : Int) < (n : Int) := by omega
   have dti : (ti : Int).toNat = ti := by omega
   have dtk : (tk : Int).toNat = tk := by omega
   have hcm := fun W => rg37 (max g1.lo g2.lo) (min g1.hi g2.hi) W
   have ON := Lib.hid (fun st (a1 : ckSc zs st = 0) (a2 : st.length = s.length) => sr_on HZ.out HIK.out.1 HIK.out.2 HS0.out HSU.out a1 a2)
   have NO := Lib.hid (sr_none HZ.out HIK.out.1 HIK.out.2 HS0.out)
   rw [hg1, hg2] at ON NO
   clear hg1 hg2
   subst hA9
   go_cut [21] from 129 to 151 (fun v21 wx => ∃ Pb : Nat, v21 = .pointer (some ⟨Pb, 0, none⟩) ∧ wx.heap[Pb]? = some (.cells #[.int .i64 (max g1.lo g2.lo), .int .i64 (min g1.hi g2.hi)] 56 (0, 0)) ∧ Below w13.heap.size w13 wx)
   case first =>
    refine wp_region_held_drew (S := fun w2 => Below w13.heap.size w13 w2) (by kernel_rfl) (drew_b _ _) (fun hS0 => ?_)
    refine wpAnyH_take (i := 0) (oi := { dst := some 129, op := Op.move (Operand.tmp 0), type := 22, pos := "outright.go:182", after := #[], guard := none }) (v := .slice (some ⟨b9, o9, none⟩) n cap) rfl (by kernel_rfl) (by kernel_rfl) (by kernel_rfl) (fun _ _ _ h => h) (Or.inl ⟨by rfl, by intro w2 hSw; (try dsimp only at hSw); have y0 := (hSw.cell (p := ⟨b9, o9 + ti * 2, none⟩) (lt_of_cell u0)).trans u0; have y1 := (hSw.cell (p := ⟨b9, o9 + ti * 2 + 1, none⟩) (lt_of_cell u1)).trans u1; have y2 := (hSw.cell (p := ⟨b9, o9 + tk * 2, none⟩) (lt_of_cell v0)).trans v0; have y3 := (hSw.cell (p := ⟨b9, o9 + tk * 2 + 1, none⟩) (lt_of_cell v1)).trans v1; go_simp⟩) hS0 ?_
    try simp only [Act.put, List.setIfInBounds_toArray, List.set_cons_zero, List.set_cons_succ]
    refine wpAnyH_take (i := 1) (oi := { dst := some 130, op := Op.move (Operand.tmp 9), type := 3, pos := "outright.go:182", after := #[], guard := none }) (v := .int .i64 (ti : Int)) rfl (by kernel_rfl) (by kernel_rfl) (by kernel_rfl) (fun _ _ _ h => h) (Or.inl ⟨by rfl, by intro w2 hSw; (try dsimp only at hSw); have y0 := (hSw.cell (p := ⟨b9, o9 + ti * 2, none⟩) (lt_of_cell u0)).trans u0; have y1 := (hSw.cell (p := ⟨b9, o9 + ti * 2 + 1, none⟩) (lt_of_cell u1)).trans u1; have y2 := (hSw.cell (p := ⟨b9, o9 + tk * 2, none⟩) (lt_of_cell v0)).trans v0; have y3 := (hSw.cell (p := ⟨b9, o9 + tk * 2 + 1, none⟩) (lt_of_cell v1)).trans v1; go_simp⟩) hS0 ?_
    try simp only [Act.put, List.setIfInBounds_toArray, List.set_cons_zero, List.set_cons_succ]
    refine wpAnyH_take (i := 2) (oi := { dst := some 131, op := Op.indexAddr 22 (Operand.tmp 129) (Operand.tmp 130), type := 0, pos := "outright.go:182", after := #[{ on := 0, ground := Ground.data }, { on := 1, ground := Ground.data }], guard := none }) (v := .pointer (some ⟨b9, o9 + ti * 2, none⟩)) rfl (by kernel_rfl) (by kernel_rfl) (by kernel_rfl) (fun _ _ _ h => h) (Or.inl ⟨by rfl, by intro w2 hSw; (try dsimp only at hSw); have y0 := (hSw.cell (p := ⟨b9, o9 + ti * 2, none⟩) (lt_of_cell u0)).trans u0; have y1 := (hSw.cell (p := ⟨b9, o9 + ti * 2 + 1, none⟩) (lt_of_cell u1)).trans u1; have y2 := (hSw.cell (p := ⟨b9, o9 + tk * 2, none⟩) (lt_of_cell v0)).trans v0; have y3 := (hSw.cell (p := ⟨b9, o9 + tk * 2 + 1, none⟩) (lt_of_cell v1)).trans v1; go_simp⟩) hS0 ?_
    try simp only [Act.put, List.setIfInBounds_toArray, List.set_cons_zero, List.set_cons_succ]
    refine wpAnyH_take (i := 3) (oi := { dst := some 132, op := Op.fieldAddr 56 (Operand.tmp 131) 0, type := 0, pos := "outright.go:182", after := #[{ on := 2, ground := Ground.data }], guard := none }) (v := .pointer (some ⟨b9, o9 + ti * 2, none⟩)) rfl (by kernel_rfl) (by kernel_rfl) (by kernel_rfl) (fun _ _ _ h => h) (Or.inl ⟨by rfl, by intro w2 hSw; (try dsimp only at hSw); have y0 := (hSw.cell (p := ⟨b9, o9 + ti * 2, none⟩) (lt_of_cell u0)).trans u0; have y1 := (hSw.cell (p := ⟨b9, o9 + ti * 2 + 1, none⟩) (lt_of_cell u1)).trans u1; have y2 := (hSw.cell (p := ⟨b9, o9 + tk * 2, none⟩) (lt_of_cell v0)).trans v0; have y3 := (hSw.cell (p := ⟨b9, o9 + tk * 2 + 1, none⟩) (lt_of_cell v1)).trans v1; go_simp⟩) hS0 ?_
    try simp only [Act.put, List.setIfInBounds_toArray, List.set_cons_zero, List.set_cons_succ]
    refine wpAnyH_take (i := 4) (oi := { dst := some 133, op := Op.load 2 (Operand.tmp 132), type := 2, pos := "outright.go:182", after := #[{ on := 3, ground := Ground.data }], guard := none }) (v := .int .i64 g1.lo) rfl (by kernel_rfl) (by kernel_rfl) (by kernel_rfl) (fun _ _ _ h => h) (Or.inl ⟨by rfl, by intro w2 hSw; (try dsimp only at hSw); have y0 := (hSw.cell (p := ⟨b9, o9 + ti * 2, none⟩) (lt_of_cell u0)).trans u0; have y1 := (hSw.cell (p := ⟨b9, o9 + ti * 2 + 1, none⟩) (lt_of_cell u1)).trans u1; have y2 := (hSw.cell (p := ⟨b9, o9 + tk * 2, none⟩) (lt_of_cell v0)).trans v0; have y3 := (hSw.cell (p := ⟨b9, o9 + tk * 2 + 1, none⟩) (lt_of_cell v1)).trans v1; go_simp⟩) hS0 ?_
    try simp only [Act.put, List.setIfInBounds_toArray, List.set_cons_zero, List.set_cons_succ]
    refine wpAnyH_take (i := 5) (oi := { dst := some 134, op := Op.move (Operand.tmp 0), type := 22, pos := "outright.go:182", after := #[], guard := none }) (v := .slice (some ⟨b9, o9, none⟩) n cap) rfl (by kernel_rfl) (by kernel_rfl) (by kernel_rfl) (fun _ _ _ h => h) (Or.inl ⟨by rfl, by intro w2 hSw; (try dsimp only at hSw); have y0 := (hSw.cell (p := ⟨b9, o9 + ti * 2, none⟩) (lt_of_cell u0)).trans u0; have y1 := (hSw.cell (p := ⟨b9, o9 + ti * 2 + 1, none⟩) (lt_of_cell u1)).trans u1; have y2 := (hSw.cell (p := ⟨b9, o9 + tk * 2, none⟩) (lt_of_cell v0)).trans v0; have y3 := (hSw.cell (p := ⟨b9, o9 + tk * 2 + 1, none⟩) (lt_of_cell v1)).trans v1; go_simp⟩) hS0 ?_
    try simp only [Act.put, List.setIfInBounds_toArray, List.set_cons_zero, List.set_cons_succ]
    refine wpAnyH_take (i := 6) (oi := { dst := some 135, op := Op.move (Operand.tmp 10), type := 3, pos := "outright.go:182", after := #[], guard := none }) (v := .int .i64 (tk : Int)) rfl (by kernel_rfl) (by kernel_rfl) (by kernel_rfl) (fun _ _ _ h => h) (Or.inl ⟨by rfl, by intro w2 hSw; (try dsimp only at hSw); have y0 := (hSw.cell (p := ⟨b9, o9 + ti * 2, none⟩) (lt_of_cell u0)).trans u0; have y1 := (hSw.cell (p := ⟨b9, o9 + ti * 2 + 1, none⟩) (lt_of_cell u1)).trans u1; have y2 := (hSw.cell (p := ⟨b9, o9 + tk * 2, none⟩) (lt_of_cell v0)).trans v0; have y3 := (hSw.cell (p := ⟨b9, o9 + tk * 2 + 1, none⟩) (lt_of_cell v1)).trans v1; go_simp⟩) hS0 ?_
    try simp only [Act.put, List.setIfInBounds_toArray, List.set_cons_zero, List.set_cons_succ]
    refine wpAnyH_take (i := 7) (oi := { dst := some 136, op := Op.indexAddr 22 (Operand.tmp 134) (Operand.tmp 135), type := 0, pos := "outright.go:182", after := #[{ on := 5, ground := Ground.data }, { on := 6, ground := Ground.data }], guard := none }) (v := .pointer (some ⟨b9, o9 + tk * 2, none⟩)) rfl (by kernel_rfl) (by kernel_rfl) (by kernel_rfl) (fun _ _ _ h => h) (Or.inl ⟨by rfl, by intro w2 hSw; (try dsimp only at hSw); have y0 := (hSw.cell (p := ⟨b9, o9 + ti * 2, none⟩) (lt_of_cell u0)).trans u0; have y1 := (hSw.cell (p := ⟨b9, o9 + ti * 2 + 1, none⟩) (lt_of_cell u1)).trans u1; have y2 := (hSw.cell (p := ⟨b9, o9 + tk * 2, none⟩) (lt_of_cell v0)).trans v0; have y3 := (hSw.cell (p := ⟨b9, o9 + tk * 2 + 1, none⟩) (lt_of_cell v1)).trans v1; go_simp⟩) hS0 ?_
    try simp only [Act.put, List.setIfInBounds_toArray, List.set_cons_zero, List.set_cons_succ]
    refine wpAnyH_take (i := 8) (oi := { dst := some 137, op := Op.fieldAddr 56 (Operand.tmp 136) 0, type := 0, pos := "outright.go:182", after := #[{ on := 7, ground := Ground.data }], guard := none }) (v := .pointer (some ⟨b9, o9 + tk * 2, none⟩)) rfl (by kernel_rfl) (by kernel_rfl) (by kernel_rfl) (fun _ _ _ h => h) (Or.inl ⟨by rfl, by intro w2 hSw; (try dsimp only at hSw); have y0 := (hSw.cell (p := ⟨b9, o9 + ti * 2, none⟩) (lt_of_cell u0)).trans u0; have y1 := (hSw.cell (p := ⟨b9, o9 + ti * 2 + 1, none⟩) (lt_of_cell u1)).trans u1; have y2 := (hSw.cell (p := ⟨b9, o9 + tk * 2, none⟩) (lt_of_cell v0)).trans v0; have y3 := (hSw.cell (p := ⟨b9, o9 + tk * 2 + 1, none⟩) (lt_of_cell v1)).trans v1; go_simp⟩) hS0 ?_
    try simp only [Act.put, List.setIfInBounds_toArray, List.set_cons_zero, List.set_cons_succ]
    refine wpAnyH_take (i := 9) (oi := { dst := some 138, op := Op.load 2 (Operand.tmp 137), type := 2, pos := "outright.go:182", after := #[{ on := 8, ground := Ground.data }], guard := none }) (v := .int .i64 g2.lo) rfl (by kernel_rfl) (by kernel_rfl) (by kernel_rfl) (fun _ _ _ h => h) (Or.inl ⟨by rfl, by intro w2 hSw; (try dsimp only at hSw); have y0 := (hSw.cell (p := ⟨b9, o9 + ti * 2, none⟩) (lt_of_cell u0)).trans u0; have y1 := (hSw.cell (p := ⟨b9, o9 + ti * 2 + 1, none⟩) (lt_of_cell u1)).trans u1; have y2 := (hSw.cell (p := ⟨b9, o9 + tk * 2, none⟩) (lt_of_cell v0)).trans v0; have y3 := (hSw.cell (p := ⟨b9, o9 + tk * 2 + 1, none⟩) (lt_of_cell v1)).trans v1; go_simp⟩) hS0 ?_
    try simp only [Act.put, List.setIfInBounds_toArray, List.set_cons_zero, List.set_cons_succ]
    refine wpAnyH_take (i := 10) (oi := { dst := some 139, op := Op.call { callee := Callee.builtin Builtin.max, args := #[Operand.tmp 133, Operand.tmp 138], argTypes := #[2, 2] }, type := 2, pos := "outright.go:182", after := #[{ on := 4, ground := Ground.data }, { on := 9, ground := Ground.data }], guard := none }) (v := .int .i64 (max g1.lo g2.lo)) rfl (by kernel_rfl) (by kernel_rfl) (by kernel_rfl) (fun _ _ _ h => h) (Or.inl ⟨by rfl, by intro w2 hSw; (try dsimp only at hSw); have y0 := (hSw.cell (p := ⟨b9, o9 + ti * 2, none⟩) (lt_of_cell u0)).trans u0; have y1 := (hSw.cell (p := ⟨b9, o9 + ti * 2 + 1, none⟩) (lt_of_cell u1)).trans u1; have y2 := (hSw.cell (p := ⟨b9, o9 + tk * 2, none⟩) (lt_of_cell v0)).trans v0; have y3 := (hSw.cell (p := ⟨b9, o9 + tk * 2 + 1, none⟩) (lt_of_cell v1)).trans v1; go_simp⟩) hS0 ?_
    try simp only [Act.put, List.setIfInBounds_toArray, List.set_cons_zero, List.set_cons_succ]
    refine wpAnyH_take (i := 11) (oi := { dst := some 140, op := Op.move (Operand.tmp 0), type := 22, pos := "outright.go:182", after := #[], guard := none }) (v := .slice (some ⟨b9, o9, none⟩) n cap) rfl (by kernel_rfl) (by kernel_rfl) (by kernel_rfl) (fun _ _ _ h => h) (Or.inl ⟨by rfl, by intro w2 hSw; (try dsimp only at hSw); have y0 := (hSw.cell (p := ⟨b9, o9 + ti * 2, none⟩) (lt_of_cell u0)).trans u0; have y1 := (hSw.cell (p := ⟨b9, o9 + ti * 2 + 1, none⟩) (lt_of_cell u1)).trans u1; have y2 := (hSw.cell (p := ⟨b9, o9 + tk * 2, none⟩) (lt_of_cell v0)).trans v0; have y3 := (hSw.cell (p := ⟨b9, o9 + tk * 2 + 1, none⟩) (lt_of_cell v1)).trans v1; go_simp⟩) hS0 ?_
    try simp only [Act.put, List.setIfInBounds_toArray, List.set_cons_zero, List.set_cons_succ]
    refine wpAnyH_take (i := 12) (oi := { dst := some 141, op := Op.move (Operand.tmp 9), type := 3, pos := "outright.go:182", after := #[], guard := none }) (v := .int .i64 (ti : Int)) rfl (by kernel_rfl) (by kernel_rfl) (by kernel_rfl) (fun _ _ _ h => h) (Or.inl ⟨by rfl, by intro w2 hSw; (try dsimp only at hSw); have y0 := (hSw.cell (p := ⟨b9, o9 + ti * 2, none⟩) (lt_of_cell u0)).trans u0; have y1 := (hSw.cell (p := ⟨b9, o9 + ti * 2 + 1, none⟩) (lt_of_cell u1)).trans u1; have y2 := (hSw.cell (p := ⟨b9, o9 + tk * 2, none⟩) (lt_of_cell v0)).trans v0; have y3 := (hSw.cell (p := ⟨b9, o9 + tk * 2 + 1, none⟩) (lt_of_cell v1)).trans v1; go_simp⟩) hS0 ?_
    try simp only [Act.put, List.setIfInBounds_toArray, List.set_cons_zero, List.set_cons_succ]
    refine wpAnyH_take (i := 13) (oi := { dst := some 142, op := Op.indexAddr 22 (Operand.tmp 140) (Operand.tmp 141), type := 0, pos := "outright.go:182", after := #[{ on := 11, ground := Ground.data }, { on := 12, ground := Ground.data }], guard := none }) (v := .pointer (some ⟨b9, o9 + ti * 2, none⟩)) rfl (by kernel_rfl) (by kernel_rfl) (by kernel_rfl) (fun _ _ _ h => h) (Or.inl ⟨by rfl, by intro w2 hSw; (try dsimp only at hSw); have y0 := (hSw.cell (p := ⟨b9, o9 + ti * 2, none⟩) (lt_of_cell u0)).trans u0; have y1 := (hSw.cell (p := ⟨b9, o9 + ti * 2 + 1, none⟩) (lt_of_cell u1)).trans u1; have y2 := (hSw.cell (p := ⟨b9, o9 + tk * 2, none⟩) (lt_of_cell v0)).trans v0; have y3 := (hSw.cell (p := ⟨b9, o9 + tk * 2 + 1, none⟩) (lt_of_cell v1)).trans v1; go_simp⟩) hS0 ?_
    try simp only [Act.put, List.setIfInBounds_toArray, List.set_cons_zero, List.set_cons_succ]
    refine wpAnyH_take (i := 14) (oi := { dst := some 143, op := Op.fieldAddr 56 (Operand.tmp 142) 1, type := 0, pos := "outright.go:182", after := #[{ on := 13, ground := Ground.data }], guard := none }) (v := .pointer (some ⟨b9, o9 + ti * 2 + 1, none⟩)) rfl (by kernel_rfl) (by kernel_rfl) (by kernel_rfl) (fun _ _ _ h => h) (Or.inl ⟨by rfl, by intro w2 hSw; (try dsimp only at hSw); have y0 := (hSw.cell (p := ⟨b9, o9 + ti * 2, none⟩) (lt_of_cell u0)).trans u0; have y1 := (hSw.cell (p := ⟨b9, o9 + ti * 2 + 1, none⟩) (lt_of_cell u1)).trans u1; have y2 := (hSw.cell (p := ⟨b9, o9 + tk * 2, none⟩) (lt_of_cell v0)).trans v0; have y3 := (hSw.cell (p := ⟨b9, o9 + tk * 2 + 1, none⟩) (lt_of_cell v1)).trans v1; go_simp⟩) hS0 ?_
    try simp only [Act.put, List.setIfInBounds_toArray, List.set_cons_zero, List.set_cons_succ]
    refine wpAnyH_take (i := 15) (oi := { dst := some 144, op := Op.load 2 (Operand.tmp 143), type := 2, pos := "outright.go:182", after := #[{ on := 14, ground := Ground.data }], guard := none }) (v := .int .i64 g1.hi) rfl (by kernel_rfl) (by kernel_rfl) (by kernel_rfl) (fun _ _ _ h => h) (Or.inl ⟨by rfl, by intro w2 hSw; (try dsimp only at hSw); have y0 := (hSw.cell (p := ⟨b9, o9 + ti * 2, none⟩) (lt_of_cell u0)).trans u0; have y1 := (hSw.cell (p := ⟨b9, o9 + ti * 2 + 1, none⟩) (lt_of_cell u1)).trans u1; have y2 := (hSw.cell (p := ⟨b9, o9 + tk * 2, none⟩) (lt_of_cell v0)).trans v0; have y3 := (hSw.cell (p := ⟨b9, o9 + tk * 2 + 1, none⟩) (lt_of_cell v1)).trans v1; go_simp⟩) hS0 ?_
    try simp only [Act.put, List.setIfInBounds_toArray, List.set_cons_zero, List.set_cons_succ]
    refine wpAnyH_take (i := 16) (oi := { dst := some 145, op := Op.move (Operand.tmp 0), type := 22, pos := "outright.go:182", after := #[], guard := none }) (v := .slice (some ⟨b9, o9, none⟩) n cap) rfl (by kernel_rfl) (by kernel_rfl) (by kernel_rfl) (fun _ _ _ h => h) (Or.inl ⟨by rfl, by intro w2 hSw; (try dsimp only at hSw); have y0 := (hSw.cell (p := ⟨b9, o9 + ti * 2, none⟩) (lt_of_cell u0)).trans u0; have y1 := (hSw.cell (p := ⟨b9, o9 + ti * 2 + 1, none⟩) (lt_of_cell u1)).trans u1; have y2 := (hSw.cell (p := ⟨b9, o9 + tk * 2, none⟩) (lt_of_cell v0)).trans v0; have y3 := (hSw.cell (p := ⟨b9, o9 + tk * 2 + 1, none⟩) (lt_of_cell v1)).trans v1; go_simp⟩) hS0 ?_
    try simp only [Act.put, List.setIfInBounds_toArray, List.set_cons_zero, List.set_cons_succ]
    refine wpAnyH_take (i := 17) (oi := { dst := some 146, op := Op.move (Operand.tmp 10), type := 3, pos := "outright.go:182", after := #[], guard := none }) (v := .int .i64 (tk : Int)) rfl (by kernel_rfl) (by kernel_rfl) (by kernel_rfl) (fun _ _ _ h => h) (Or.inl ⟨by rfl, by intro w2 hSw; (try dsimp only at hSw); have y0 := (hSw.cell (p := ⟨b9, o9 + ti * 2, none⟩) (lt_of_cell u0)).trans u0; have y1 := (hSw.cell (p := ⟨b9, o9 + ti * 2 + 1, none⟩) (lt_of_cell u1)).trans u1; have y2 := (hSw.cell (p := ⟨b9, o9 + tk * 2, none⟩) (lt_of_cell v0)).trans v0; have y3 := (hSw.cell (p := ⟨b9, o9 + tk * 2 + 1, none⟩) (lt_of_cell v1)).trans v1; go_simp⟩) hS0 ?_
    try simp only [Act.put, List.setIfInBounds_toArray, List.set_cons_zero, List.set_cons_succ]
    refine wpAnyH_take (i := 18) (oi := { dst := some 147, op := Op.indexAddr 22 (Operand.tmp 145) (Operand.tmp 146), type := 0, pos := "outright.go:182", after := #[{ on := 16, ground := Ground.data }, { on := 17, ground := Ground.data }], guard := none }) (v := .pointer (some ⟨b9, o9 + tk * 2, none⟩)) rfl (by kernel_rfl) (by kernel_rfl) (by kernel_rfl) (fun _ _ _ h => h) (Or.inl ⟨by rfl, by intro w2 hSw; (try dsimp only at hSw); have y0 := (hSw.cell (p := ⟨b9, o9 + ti * 2, none⟩) (lt_of_cell u0)).trans u0; have y1 := (hSw.cell (p := ⟨b9, o9 + ti * 2 + 1, none⟩) (lt_of_cell u1)).trans u1; have y2 := (hSw.cell (p := ⟨b9, o9 + tk * 2, none⟩) (lt_of_cell v0)).trans v0; have y3 := (hSw.cell (p := ⟨b9, o9 + tk * 2 + 1, none⟩) (lt_of_cell v1)).trans v1; go_simp⟩) hS0 ?_
    try simp only [Act.put, List.setIfInBounds_toArray, List.set_cons_zero, List.set_cons_succ]
    refine wpAnyH_take (i := 19) (oi := { dst := some 148, op := Op.fieldAddr 56 (Operand.tmp 147) 1, type := 0, pos := "outright.go:182", after := #[{ on := 18, ground := Ground.data }], guard := none }) (v := .pointer (some ⟨b9, o9 + tk * 2 + 1, none⟩)) rfl (by kernel_rfl) (by kernel_rfl) (by kernel_rfl) (fun _ _ _ h => h) (Or.inl ⟨by rfl, by intro w2 hSw; (try dsimp only at hSw); have y0 := (hSw.cell (p := ⟨b9, o9 + ti * 2, none⟩) (lt_of_cell u0)).trans u0; have y1 := (hSw.cell (p := ⟨b9, o9 + ti * 2 + 1, none⟩) (lt_of_cell u1)).trans u1; have y2 := (hSw.cell (p := ⟨b9, o9 + tk * 2, none⟩) (lt_of_cell v0)).trans v0; have y3 := (hSw.cell (p := ⟨b9, o9 + tk * 2 + 1, none⟩) (lt_of_cell v1)).trans v1; go_simp⟩) hS0 ?_
    try simp only [Act.put, List.setIfInBounds_toArray, List.set_cons_zero, List.set_cons_succ]
    refine wpAnyH_take (i := 20) (oi := { dst := some 149, op := Op.load 2 (Operand.tmp 148), type := 2, pos := "outright.go:182", after := #[{ on := 19, ground := Ground.data }], guard := none }) (v := .int .i64 g2.hi) rfl (by kernel_rfl) (by kernel_rfl) (by kernel_rfl) (fun _ _ _ h => h) (Or.inl ⟨by rfl, by intro w2 hSw; (try dsimp only at hSw); have y0 := (hSw.cell (p := ⟨b9, o9 + ti * 2, none⟩) (lt_of_cell u0)).trans u0; have y1 := (hSw.cell (p := ⟨b9, o9 + ti * 2 + 1, none⟩) (lt_of_cell u1)).trans u1; have y2 := (hSw.cell (p := ⟨b9, o9 + tk * 2, none⟩) (lt_of_cell v0)).trans v0; have y3 := (hSw.cell (p := ⟨b9, o9 + tk * 2 + 1, none⟩) (lt_of_cell v1)).trans v1; go_simp⟩) hS0 ?_
    try simp only [Act.put, List.setIfInBounds_toArray, List.set_cons_zero, List.set_cons_succ]
    refine wpAnyH_take (i := 21) (oi := { dst := some 150, op := Op.call { callee := Callee.builtin Builtin.min, args := #[Operand.tmp 144, Operand.tmp 149], argTypes := #[2, 2] }, type := 2, pos := "outright.go:182", after := #[{ on := 15, ground := Ground.data }, { on := 20, ground := Ground.data }], guard := none }) (v := .int .i64 (min g1.hi g2.hi)) rfl (by kernel_rfl) (by kernel_rfl) (by kernel_rfl) (fun _ _ _ h => h) (Or.inl ⟨by rfl, by intro w2 hSw; (try dsimp only at hSw); have y0 := (hSw.cell (p := ⟨b9, o9 + ti * 2, none⟩) (lt_of_cell u0)).trans u0; have y1 := (hSw.cell (p := ⟨b9, o9 + ti * 2 + 1, none⟩) (lt_of_cell u1)).trans u1; have y2 := (hSw.cell (p := ⟨b9, o9 + tk * 2, none⟩) (lt_of_cell v0)).trans v0; have y3 := (hSw.cell (p := ⟨b9, o9 + tk * 2 + 1, none⟩) (lt_of_cell v1)).trans v1; go_simp⟩) hS0 ?_
    try simp only [Act.put, List.setIfInBounds_toArray, List.set_cons_zero, List.set_cons_succ]
    generalize w13.drew = V0 at hS0 ⊢
    refine wpAnyH_ready (rs := [22, 23]) (by kernel_rfl) (by simp) ?_
    refine AllReadyH.cons (o := { dst := some 151, op := Op.call { callee := Callee.value (Operand.func 37), args := #[Operand.tmp 139, Operand.tmp 150], argTypes := #[2, 2] }, type := 56, pos := "outright.go:182", after := #[{ on := 10, ground := Ground.data }, { on := 21, ground := Ground.data }], guard := none }) rfl (fun K2 hK => ?_) ?_
    ·go_simp
     refine (hcm _).mono ?_
     rintro e9 V1 ⟨rfl, hb6⟩
     try go_simp
     refine hK.out _ _ (hS0.trans (hb6.mono hS0.size)) (fun hV1 => ?_)
     clear hK K2
     clear hb6
     try simp only [Act.put, List.setIfInBounds_toArray, List.set_cons_zero, List.set_cons_succ]
     refine wpAnyH_ready (rs := [23]) (by kernel_rfl) (by simp) ?_
     refine AllReadyH.cons (o := { dst := some 21, op := Op.alloc 56, type := 0, pos := "outright.go:182", after := #[], guard := none }) rfl (fun K2 hK => ?_) AllReadyH.nil
     go_simp
     have hz := heap_alloc_new_ V1 (.cells #[.int .i64 0, .int .i64 0] 56)
     refine hK.out _ _ (hV1.trans ((below_alloc_ _ _).mono hV1.size)) (fun hV2 => ?_)
     clear hK K2
     have HPl := Lib.hid hV1.size
     generalize V1.alloc (.cells #[.int .i64 0, .int .i64 0] 56) = V2 at *
     obtain ⟨Pb, hPb⟩ : ∃ Pb, V1.heap.size = Pb := ⟨_, rfl⟩
     rw [hPb] at hz HPl ⊢
     clear hPb
     try simp only [Act.put, List.setIfInBounds_toArray, List.set_cons_zero, List.set_cons_succ]
     refine wpAnyH_ready (rs := [24]) (by kernel_rfl) (by simp) ?_
     refine AllReadyH.cons (o := { dst := none, op := Op.store 56 (Operand.tmp 21) (Operand.tmp 151), type := 0, pos := "outright.go:182", after := #[{ on := 23, ground := Ground.data }, { on := 22, ground := Ground.data }, { on := 22, ground := Ground.chain }, { on := 0, ground := Ground.phase }, { on := 1, ground := Ground.phase }, { on := 2, ground := Ground.phase }, { on := 3, ground := Ground.phase }, { on := 4, ground := Ground.phase }, { on := 5, ground := Ground.phase }, { on := 6, ground := Ground.phase }, { on := 7, ground := Ground.phase }, { on := 8, ground := Ground.phase }, { on := 9, ground := Ground.phase }, { on := 10, ground := Ground.phase }, { on := 11, ground := Ground.phase }, { on := 12, ground := Ground.phase }, { on := 13, ground := Ground.phase }, { on := 14, ground := Ground.phase }, { on := 15, ground := Ground.phase }, { on := 16, ground := Ground.phase }, { on := 17, ground := Ground.phase }, { on := 18, ground := Ground.phase }, { on := 19, ground := Ground.phase }, { on := 20, ground := Ground.phase }, { on := 21, ground := Ground.phase }, { on := 22, ground := Ground.phase }, { on := 23, ground := Ground.phase }], guard := none }) rfl (fun K2 hK => ?_) AllReadyH.nil
     have cz0 : V2.cell? ⟨Pb, 0, none⟩ = some (.int .i64 0) := by rw [cell_row hz]; rfl
     have cz1 : V2.cell? ⟨Pb, 1, none⟩ = some (.int .i64 0) := by rw [cell_row hz]; rfl
     have fz0 : V2.frozen? ⟨Pb, 0, none⟩ = false := frozen_row hz
     have fz1 : V2.frozen? ⟨Pb, 1, none⟩ = false := frozen_row hz
     have Hz := Lib.hid (set_same 1 (.int .i64 (min g1.hi g2.hi)) (set_same 0 (.int .i64 (max g1.lo g2.lo)) hz))
     have HS8 := Lib.hid (hV2.trans (((keeps_setCell V2 Pb 0 (.int .i64 (max g1.lo g2.lo))).trans (keeps_setCell _ Pb 1 (.int .i64 (min g1.hi g2.hi)))).below hV2.size (fun j hj e => by have := HPl.out; omega)))
     clear hz
     go_simp
     refine hK.out _ _ HS8.out (fun hS9 => ?_)
     clear hK K2 cz0 cz1 fz0 fz1
     try simp only [Act.put, List.setIfInBounds_toArray, List.set_cons_zero, List.set_cons_succ]
     refine wpAnyH_done (by kernel_rfl) ?_ _
     go_wp2_with fail
     go_meet
     case rel => exact ⟨_, rfl, Hz.out, HS8.out⟩
    refine AllReadyH.cons (o := { dst := some 21, op := Op.alloc 56, type := 0, pos := "outright.go:182", after := #[], guard := none }) rfl (fun K2 hK => ?_) ?_
    ·go_simp
     have hz := heap_alloc_new_ V0 (.cells #[.int .i64 0, .int .i64 0] 56)
     refine hK.out _ _ (hS0.trans ((below_alloc_ _ _).mono hS0.size)) (fun hV1 => ?_)
     clear hK K2
     have HPl := Lib.hid hS0.size
     generalize V0.alloc (.cells #[.int .i64 0, .int .i64 0] 56) = V1 at *
     obtain ⟨Pb, hPb⟩ : ∃ Pb, V0.heap.size = Pb := ⟨_, rfl⟩
     rw [hPb] at hz HPl ⊢
     clear hPb
     try simp only [Act.put, List.setIfInBounds_toArray, List.set_cons_zero, List.set_cons_succ]
     refine wpAnyH_ready (rs := [22]) (by kernel_rfl) (by simp) ?_
     refine AllReadyH.cons (o := { dst := some 151, op := Op.call { callee := Callee.value (Operand.func 37), args := #[Operand.tmp 139, Operand.tmp 150], argTypes := #[2, 2] }, type := 56, pos := "outright.go:182", after := #[{ on := 10, ground := Ground.data }, { on := 21, ground := Ground.data }], guard := none }) rfl (fun K2 hK => ?_) AllReadyH.nil
     go_simp
     refine (hcm _).mono ?_
     rintro e9 V2 ⟨rfl, hb6⟩
     try go_simp
     refine hK.out _ _ (hV1.trans (hb6.mono hV1.size)) (fun hV2 => ?_)
     clear hK K2
     replace hz := (hb6.block _ (lt_of_block hz)).trans hz
     clear hb6
     try simp only [Act.put, List.setIfInBounds_toArray, List.set_cons_zero, List.set_cons_succ]
     refine wpAnyH_ready (rs := [24]) (by kernel_rfl) (by simp) ?_
     refine AllReadyH.cons (o := { dst := none, op := Op.store 56 (Operand.tmp 21) (Operand.tmp 151), type := 0, pos := "outright.go:182", after := #[{ on := 23, ground := Ground.data }, { on := 22, ground := Ground.data }, { on := 22, ground := Ground.chain }, { on := 0, ground := Ground.phase }, { on := 1, ground := Ground.phase }, { on := 2, ground := Ground.phase }, { on := 3, ground := Ground.phase }, { on := 4, ground := Ground.phase }, { on := 5, ground := Ground.phase }, { on := 6, ground := Ground.phase }, { on := 7, ground := Ground.phase }, { on := 8, ground := Ground.phase }, { on := 9, ground := Ground.phase }, { on := 10, ground := Ground.phase }, { on := 11, ground := Ground.phase }, { on := 12, ground := Ground.phase }, { on := 13, ground := Ground.phase }, { on := 14, ground := Ground.phase }, { on := 15, ground := Ground.phase }, { on := 16, ground := Ground.phase }, { on := 17, ground := Ground.phase }, { on := 18, ground := Ground.phase }, { on := 19, ground := Ground.phase }, { on := 20, ground := Ground.phase }, { on := 21, ground := Ground.phase }, { on := 22, ground := Ground.phase }, { on := 23, ground := Ground.phase }], guard := none }) rfl (fun K2 hK => ?_) AllReadyH.nil
     have cz0 : V2.cell? ⟨Pb, 0, none⟩ = some (.int .i64 0) := by rw [cell_row hz]; rfl
     have cz1 : V2.cell? ⟨Pb, 1, none⟩ = some (.int .i64 0) := by rw [cell_row hz]; rfl
     have fz0 : V2.frozen? ⟨Pb, 0, none⟩ = false := frozen_row hz
     have fz1 : V2.frozen? ⟨Pb, 1, none⟩ = false := frozen_row hz
     have Hz := Lib.hid (set_same 1 (.int .i64 (min g1.hi g2.hi)) (set_same 0 (.int .i64 (max g1.lo g2.lo)) hz))
     have HS8 := Lib.hid (hV2.trans (((keeps_setCell V2 Pb 0 (.int .i64 (max g1.lo g2.lo))).trans (keeps_setCell _ Pb 1 (.int .i64 (min g1.hi g2.hi)))).below hV2.size (fun j hj e => by have := HPl.out; omega)))
     clear hz
     go_simp
     refine hK.out _ _ HS8.out (fun hS9 => ?_)
     clear hK K2 cz0 cz1 fz0 fz1
     try simp only [Act.put, List.setIfInBounds_toArray, List.set_cons_zero, List.set_cons_succ]
     refine wpAnyH_done (by kernel_rfl) ?_ _
     go_wp2_with fail
     go_meet
     case rel => exact ⟨_, rfl, Hz.out, HS8.out⟩
    exact AllReadyH.nil
   case rest =>
    obtain ⟨Pb, rfl, rP, hb⟩ := hcut
    replace B1 := Lib.hid (B1.out.trans (hb.mono B1.out.size))
    replace X0 := Lib.hid ((hb.block _ (lt_of_block X0.out)).trans X0.out)
    replace F := Lib.hid (F.out.below hb (Nat.le_refl _))
    replace R := Lib.hid (R.out.below hb (Nat.le_refl _))
    have PB := Lib.hid rP
    clear rP hb hcm u0 u1 v0 v1 ti0 ti1 tk0 tk1 dti dtk hbaL
    have p0 : wc.cell? ⟨Pb, 0, none⟩ = some (.int .i64 (max g1.lo g2.lo)) := by rw [cell_row PB.out]; rfl
    have p1 : wc.cell? ⟨Pb, 1, none⟩ = some (.int .i64 (min g1.hi g2.hi)) := by rw [cell_row PB.out]; rfl
    replace x00 : wc.cell? ⟨P0, 0, none⟩ = some (.bool false) := by rw [cell_row X0.out]; rfl
    clear x01
    by_cases hlh : min g1.hi g2.hi < max g1.lo g2.lo
    ·skip
     go_wp2_with fail
     clear p0 p1 x00
     obtain ⟨N3, hN3⟩ : ∃ N3, wc.heap.size = N3 := ⟨_, rfl⟩
     have HN3 := Lib.hid (show N3 = wc.heap.size from hN3.symm)
     clear hN3
     go_loopw [22, 23, 24] (fun va vb i wr => ∃ k : Nat, k ≤ m3 ∧ i = .int .i64 (k : Int) ∧ wr.ownsRow 0 2 1 va k (flatI (tkI x k)) ∧ wr.ownsRow 0 2 1 vb k (flatI (tkI y k)) ∧ (∀ j, va.ownBlock = some j → vb.ownBlock ≠ some j) ∧ (∀ j, va.ownBlock = some j → N3 ≤ j) ∧ (∀ j, vb.ownBlock = some j → N3 ≤ j) ∧ Below N3 wc wr) (fun va vb i _ => m3 - (intOf i).toNat)
     case atStart => exact ⟨0, Nat.zero_le _, rfl, own_nil _ _ _, own_nil _ _ _, fun j e => (by cases e), fun j e => (by cases e), fun j e => (by cases e), Below.refl _ _⟩
     case round =>
      obtain ⟨k, hk, rfl, hoa, hob, hD, hba, hbb, hS⟩ := hrel
      obtain ⟨wk, rfl⟩ : ∃ wk, wk = wr := ⟨_, rfl⟩
      have Hba := Lib.hid hba
      have Hbb := Lib.hid hbb
      have HS := Lib.hid hS
      clear hba hbb hS
      by_cases hlt : k < m3
      ·have Hkx := Lib.hid (tkI_succ x k)
       obtain ⟨b, o, rfl, hcr⟩ := R.out.2 (by omega)
       obtain ⟨c0, c1⟩ := hcr k hlt
       clear hcr
       have i0 : (0 : Int) ≤ (k : Int) := by omega
       have i1 : (k : Int) < (m3 : Int) := by omega
       have i2 : (k : Int) ≤ 24 := by omega
       have d3 : (k : Int).toNat = k := by omega
       rw [gAt_spn x y hlt] at c0 c1
       dsimp only at c0 c1
       have Hky := Lib.hid (tkI_succ y k)
       obtain ⟨lo, hlo⟩ : ∃ lo, iAt x k = lo := ⟨_, rfl⟩
       obtain ⟨hi, hhi⟩ : ∃ hi, iAt y k = hi := ⟨_, rfl⟩
       rw [hlo] at c0 Hkx
       rw [hhi] at c1 Hky
       clear hlo hhi
       obtain ⟨w3, hw3⟩ : ∃ w3, w3 = wc := ⟨_, rfl⟩
       rw [← hw3] at c0 c1 HS HN3
       have Hoa := Lib.hid hoa
       have Hob := Lib.hid hob
       have HD := Lib.hid hD
       clear hoa hob hD
       go_wp2_with fail
       have hoa := Hoa.out
       have hob := Hob.out
       have hD := HD.out
       clear Hoa Hob HD
       refine wp_region_held_drew (S := fun w2 => Below N3 w3 w2) (by kernel_rfl) (HS.out.trans ((drew_b _ _).mono (by have := HS.out.size; have := HN3.out; omega))) (fun hS0 => ?_)
       refine wpAnyH_take (i := 0) (oi := { dst := some 167, op := Op.move (Operand.tmp 22), type := 23, pos := "outright.go:188", after := #[], guard := none }) (v := u22) rfl (by kernel_rfl) (by kernel_rfl) (by kernel_rfl) (fun _ _ _ h => h) (Or.inl ⟨by rfl, by intro w2 hSw; (try dsimp only at hSw); have e0 := (hSw.cell (p := ⟨b, o + k * 2, none⟩) (Nat.lt_of_lt_of_eq (lt_of_cell c0) HN3.out.symm)).trans c0; have e1 := (hSw.cell (p := ⟨b, o + k * 2 + 1, none⟩) (Nat.lt_of_lt_of_eq (lt_of_cell c1) HN3.out.symm)).trans c1; go_simp⟩) hS0 ?_
       try simp only [Act.put, List.setIfInBounds_toArray, List.set_cons_zero, List.set_cons_succ]
       refine wpAnyH_take (i := 1) (oi := { dst := some 168, op := Op.move (Operand.tmp 19), type := 22, pos := "outright.go:188", after := #[], guard := none }) (v := .slice (some ⟨b, o, none⟩) m3 cpr) rfl (by kernel_rfl) (by kernel_rfl) (by kernel_rfl) (fun _ _ _ h => h) (Or.inl ⟨by rfl, by intro w2 hSw; (try dsimp only at hSw); have e0 := (hSw.cell (p := ⟨b, o + k * 2, none⟩) (Nat.lt_of_lt_of_eq (lt_of_cell c0) HN3.out.symm)).trans c0; have e1 := (hSw.cell (p := ⟨b, o + k * 2 + 1, none⟩) (Nat.lt_of_lt_of_eq (lt_of_cell c1) HN3.out.symm)).trans c1; go_simp⟩) hS0 ?_
       try simp only [Act.put, List.setIfInBounds_toArray, List.set_cons_zero, List.set_cons_succ]
       refine wpAnyH_take (i := 2) (oi := { dst := some 169, op := Op.move (Operand.tmp 24), type := 3, pos := "outright.go:188", after := #[], guard := none }) (v := .int .i64 (k : Int)) rfl (by kernel_rfl) (by kernel_rfl) (by kernel_rfl) (fun _ _ _ h => h) (Or.inl ⟨by rfl, by intro w2 hSw; (try dsimp only at hSw); have e0 := (hSw.cell (p := ⟨b, o + k * 2, none⟩) (Nat.lt_of_lt_of_eq (lt_of_cell c0) HN3.out.symm)).trans c0; have e1 := (hSw.cell (p := ⟨b, o + k * 2 + 1, none⟩) (Nat.lt_of_lt_of_eq (lt_of_cell c1) HN3.out.symm)).trans c1; go_simp⟩) hS0 ?_
       try simp only [Act.put, List.setIfInBounds_toArray, List.set_cons_zero, List.set_cons_succ]
       refine wpAnyH_take (i := 3) (oi := { dst := some 170, op := Op.indexAddr 22 (Operand.tmp 168) (Operand.tmp 169), type := 0, pos := "outright.go:188", after := #[{ on := 1, ground := Ground.data }, { on := 2, ground := Ground.data }], guard := none }) (v := .pointer (some ⟨b, o + k * 2, none⟩)) rfl (by kernel_rfl) (by kernel_rfl) (by kernel_rfl) (fun _ _ _ h => h) (Or.inl ⟨by rfl, by intro w2 hSw; (try dsimp only at hSw); have e0 := (hSw.cell (p := ⟨b, o + k * 2, none⟩) (Nat.lt_of_lt_of_eq (lt_of_cell c0) HN3.out.symm)).trans c0; have e1 := (hSw.cell (p := ⟨b, o + k * 2 + 1, none⟩) (Nat.lt_of_lt_of_eq (lt_of_cell c1) HN3.out.symm)).trans c1; go_simp⟩) hS0 ?_
       try simp only [Act.put, List.setIfInBounds_toArray, List.set_cons_zero, List.set_cons_succ]
       refine wpAnyH_take (i := 4) (oi := { dst := some 171, op := Op.fieldAddr 56 (Operand.tmp 170) 0, type := 0, pos := "outright.go:188", after := #[{ on := 3, ground := Ground.data }], guard := none }) (v := .pointer (some ⟨b, o + k * 2, none⟩)) rfl (by kernel_rfl) (by kernel_rfl) (by kernel_rfl) (fun _ _ _ h => h) (Or.inl ⟨by rfl, by intro w2 hSw; (try dsimp only at hSw); have e0 := (hSw.cell (p := ⟨b, o + k * 2, none⟩) (Nat.lt_of_lt_of_eq (lt_of_cell c0) HN3.out.symm)).trans c0; have e1 := (hSw.cell (p := ⟨b, o + k * 2 + 1, none⟩) (Nat.lt_of_lt_of_eq (lt_of_cell c1) HN3.out.symm)).trans c1; go_simp⟩) hS0 ?_
       try simp only [Act.put, List.setIfInBounds_toArray, List.set_cons_zero, List.set_cons_succ]
       refine wpAnyH_take (i := 5) (oi := { dst := some 172, op := Op.load 2 (Operand.tmp 171), type := 2, pos := "outright.go:188", after := #[{ on := 4, ground := Ground.data }], guard := none }) (v := .int .i64 lo) rfl (by kernel_rfl) (by kernel_rfl) (by kernel_rfl) (fun _ _ _ h => h) (Or.inl ⟨by rfl, by intro w2 hSw; (try dsimp only at hSw); have e0 := (hSw.cell (p := ⟨b, o + k * 2, none⟩) (Nat.lt_of_lt_of_eq (lt_of_cell c0) HN3.out.symm)).trans c0; have e1 := (hSw.cell (p := ⟨b, o + k * 2 + 1, none⟩) (Nat.lt_of_lt_of_eq (lt_of_cell c1) HN3.out.symm)).trans c1; go_simp⟩) hS0 ?_
       try simp only [Act.put, List.setIfInBounds_toArray, List.set_cons_zero, List.set_cons_succ]
       refine wpAnyH_take (i := 8) (oi := { dst := some 175, op := Op.move (Operand.tmp 23), type := 23, pos := "outright.go:188", after := #[], guard := none }) (v := u23) rfl (by kernel_rfl) (by kernel_rfl) (by kernel_rfl) (fun _ _ _ h => h) (Or.inl ⟨by rfl, by intro w2 hSw; (try dsimp only at hSw); have e0 := (hSw.cell (p := ⟨b, o + k * 2, none⟩) (Nat.lt_of_lt_of_eq (lt_of_cell c0) HN3.out.symm)).trans c0; have e1 := (hSw.cell (p := ⟨b, o + k * 2 + 1, none⟩) (Nat.lt_of_lt_of_eq (lt_of_cell c1) HN3.out.symm)).trans c1; go_simp⟩) hS0 ?_
       try simp only [Act.put, List.setIfInBounds_toArray, List.set_cons_zero, List.set_cons_succ]
       refine wpAnyH_take (i := 9) (oi := { dst := some 176, op := Op.move (Operand.tmp 19), type := 22, pos := "outright.go:188", after := #[], guard := none }) (v := .slice (some ⟨b, o, none⟩) m3 cpr) rfl (by kernel_rfl) (by kernel_rfl) (by kernel_rfl) (fun _ _ _ h => h) (Or.inl ⟨by rfl, by intro w2 hSw; (try dsimp only at hSw); have e0 := (hSw.cell (p := ⟨b, o + k * 2, none⟩) (Nat.lt_of_lt_of_eq (lt_of_cell c0) HN3.out.symm)).trans c0; have e1 := (hSw.cell (p := ⟨b, o + k * 2 + 1, none⟩) (Nat.lt_of_lt_of_eq (lt_of_cell c1) HN3.out.symm)).trans c1; go_simp⟩) hS0 ?_
       try simp only [Act.put, List.setIfInBounds_toArray, List.set_cons_zero, List.set_cons_succ]
       refine wpAnyH_take (i := 10) (oi := { dst := some 177, op := Op.move (Operand.tmp 24), type := 3, pos := "outright.go:188", after := #[], guard := none }) (v := .int .i64 (k : Int)) rfl (by kernel_rfl) (by kernel_rfl) (by kernel_rfl) (fun _ _ _ h => h) (Or.inl ⟨by rfl, by intro w2 hSw; (try dsimp only at hSw); have e0 := (hSw.cell (p := ⟨b, o + k * 2, none⟩) (Nat.lt_of_lt_of_eq (lt_of_cell c0) HN3.out.symm)).trans c0; have e1 := (hSw.cell (p := ⟨b, o + k * 2 + 1, none⟩) (Nat.lt_of_lt_of_eq (lt_of_cell c1) HN3.out.symm)).trans c1; go_simp⟩) hS0 ?_
       try simp only [Act.put, List.setIfInBounds_toArray, List.set_cons_zero, List.set_cons_succ]
       refine wpAnyH_take (i := 11) (oi := { dst := some 178, op := Op.indexAddr 22 (Operand.tmp 176) (Operand.tmp 177), type := 0, pos := "outright.go:188", after := #[{ on := 9, ground := Ground.data }, { on := 10, ground := Ground.data }], guard := none }) (v := .pointer (some ⟨b, o + k * 2, none⟩)) rfl (by kernel_rfl) (by kernel_rfl) (by kernel_rfl) (fun _ _ _ h => h) (Or.inl ⟨by rfl, by intro w2 hSw; (try dsimp only at hSw); have e0 := (hSw.cell (p := ⟨b, o + k * 2, none⟩) (Nat.lt_of_lt_of_eq (lt_of_cell c0) HN3.out.symm)).trans c0; have e1 := (hSw.cell (p := ⟨b, o + k * 2 + 1, none⟩) (Nat.lt_of_lt_of_eq (lt_of_cell c1) HN3.out.symm)).trans c1; go_simp⟩) hS0 ?_
       try simp only [Act.put, List.setIfInBounds_toArray, List.set_cons_zero, List.set_cons_succ]
       refine wpAnyH_take (i := 12) (oi := { dst := some 179, op := Op.fieldAddr 56 (Operand.tmp 178) 1, type := 0, pos := "outright.go:188", after := #[{ on := 11, ground := Ground.data }], guard := none }) (v := .pointer (some ⟨b, o + k * 2 + 1, none⟩)) rfl (by kernel_rfl) (by kernel_rfl) (by kernel_rfl) (fun _ _ _ h => h) (Or.inl ⟨by rfl, by intro w2 hSw; (try dsimp only at hSw); have e0 := (hSw.cell (p := ⟨b, o + k * 2, none⟩) (Nat.lt_of_lt_of_eq (lt_of_cell c0) HN3.out.symm)).trans c0; have e1 := (hSw.cell (p := ⟨b, o + k * 2 + 1, none⟩) (Nat.lt_of_lt_of_eq (lt_of_cell c1) HN3.out.symm)).trans c1; go_simp⟩) hS0 ?_
       try simp only [Act.put, List.setIfInBounds_toArray, List.set_cons_zero, List.set_cons_succ]
       refine wpAnyH_take (i := 13) (oi := { dst := some 180, op := Op.load 2 (Operand.tmp 179), type := 2, pos := "outright.go:188", after := #[{ on := 12, ground := Ground.data }], guard := none }) (v := .int .i64 hi) rfl (by kernel_rfl) (by kernel_rfl) (by kernel_rfl) (fun _ _ _ h => h) (Or.inl ⟨by rfl, by intro w2 hSw; (try dsimp only at hSw); have e0 := (hSw.cell (p := ⟨b, o + k * 2, none⟩) (Nat.lt_of_lt_of_eq (lt_of_cell c0) HN3.out.symm)).trans c0; have e1 := (hSw.cell (p := ⟨b, o + k * 2 + 1, none⟩) (Nat.lt_of_lt_of_eq (lt_of_cell c1) HN3.out.symm)).trans c1; go_simp⟩) hS0 ?_
       try simp only [Act.put, List.setIfInBounds_toArray, List.set_cons_zero, List.set_cons_succ]
       have hoa : wk.drew.ownsRow 0 2 1 u22 k (flatI (tkI x k)) := hoa
       have hob : wk.drew.ownsRow 0 2 1 u23 k (flatI (tkI y k)) := hob
       generalize wk.drew = V0 at hS0 hoa hob ⊢
       have hV0 := hS0
       clear hS0
       refine wpAnyH_ready (rs := [6, 14]) (by kernel_rfl) (by simp) ?_
       refine AllReadyH.cons (o := { dst := some 173, op := Op.buildSlice 23 1 #[(0, Operand.tmp 172)], type := 23, pos := "outright.go:188", after := #[{ on := 5, ground := Ground.data }], guard := none }) rfl (fun K2 hK => ?_) ?_
       ·go_simp
        have hs9 : N3 ≤ V0.heap.size := by have := hV0.size; have := HN3.out; omega
        refine hK.out _ _ (hV0.trans ((below_alloc_ _ _).mono hs9)) (fun hV1 => ?_)
        clear hK K2
        have hza := heap_alloc_new_ V0 (.cells #[.int .i64 lo] 2)
        have hb := below_alloc_ V0 (.cells #[.int .i64 lo] 2)
        have hnaa := Lib.hid (show ∀ j, u22.ownBlock = some j → j ≠ V0.heap.size from fun j e e2 => by have := own_lt hoa j e; omega)
        have hnba := Lib.hid (show ∀ j, u23.ownBlock = some j → j ≠ V0.heap.size from fun j e e2 => by have := own_lt hob j e; omega)
        replace hoa := own_keep hoa (Keeps.of_new (Mut := fun _ => False) hb) (fun _ _ e => e)
        replace hob := own_keep hob (Keeps.of_new (Mut := fun _ => False) hb) (fun _ _ e => e)
        generalize V0.alloc (.cells #[.int .i64 lo] 2) = V1 at *
        obtain ⟨Za, hZ⟩ : ∃ Za, V0.heap.size = Za := ⟨_, rfl⟩
        rw [hZ] at hza hnaa hnba ⊢
        clear hZ hb hs9
        try simp only [Act.put, List.setIfInBounds_toArray, List.set_cons_zero, List.set_cons_succ]
        refine wpAnyH_ready (rs := [7, 14]) (by kernel_rfl) (by simp) ?_
        refine AllReadyH.cons (o := { dst := some 174, op := Op.call { callee := Callee.builtin Builtin.append, args := #[Operand.tmp 167, Operand.tmp 173], argTypes := #[23, 23] }, type := 23, pos := "outright.go:188", after := #[{ on := 0, ground := Ground.data }, { on := 6, ground := Ground.data }], guard := none }) rfl (fun K2 hK => ?_) ?_
        ·have hs9 : N3 ≤ V1.heap.size := by have := hV1.size; have := HN3.out; omega
         obtain ⟨vva, V2, hap, hqa, hqb, hD2, hbl2, hB9, hkp⟩ := app_two hoa hob hD hza Hba.out hs9 (by omega)
         have hrun := run_app hap
         clear hap
         have hV2h := Lib.hid (hV1.trans hB9)
         replace hoa := hqa
         replace hob := hqb
         replace hD : ∀ j, vva.ownBlock = some j → u23.ownBlock ≠ some j := hD2
         have Hba := Lib.hid hbl2
         have Hoa := Lib.hid hoa
         have Hob := Lib.hid hob
         have HD := Lib.hid hD
         clear hqa hqb hD2 hbl2 hB9 hkp hs9 hoa hob hD hza
         go_simp
         try rw [hrun]
         try go_simp
         refine hK.out _ _ hV2h.out (fun hV2 => ?_)
         clear hK K2 hrun hV2h
         have hoa := Hoa.out
         have hob := Hob.out
         have hD := HD.out
         clear Hoa Hob HD
         try simp only [Act.put, List.setIfInBounds_toArray, List.set_cons_zero, List.set_cons_succ]
         refine wpAnyH_ready (rs := [14]) (by kernel_rfl) (by simp) ?_
         refine AllReadyH.cons (o := { dst := some 181, op := Op.buildSlice 23 1 #[(0, Operand.tmp 180)], type := 23, pos := "outright.go:188", after := #[{ on := 13, ground := Ground.data }], guard := none }) rfl (fun K2 hK => ?_) ?_
         ·go_simp
          have hs9 : N3 ≤ V2.heap.size := by have := hV2.size; have := HN3.out; omega
          refine hK.out _ _ (hV2.trans ((below_alloc_ _ _).mono hs9)) (fun hV3 => ?_)
          clear hK K2
          have hzb := heap_alloc_new_ V2 (.cells #[.int .i64 hi] 2)
          have hb := below_alloc_ V2 (.cells #[.int .i64 hi] 2)
          have hnbb := Lib.hid (show ∀ j, u23.ownBlock = some j → j ≠ V2.heap.size from fun j e e2 => by have := own_lt hob j e; omega)
          replace hoa := own_keep hoa (Keeps.of_new (Mut := fun _ => False) hb) (fun _ _ e => e)
          replace hob := own_keep hob (Keeps.of_new (Mut := fun _ => False) hb) (fun _ _ e => e)
          generalize V2.alloc (.cells #[.int .i64 hi] 2) = V3 at *
          obtain ⟨Zb, hZ⟩ : ∃ Zb, V2.heap.size = Zb := ⟨_, rfl⟩
          rw [hZ] at hzb hnbb ⊢
          clear hZ hb hs9
          try simp only [Act.put, List.setIfInBounds_toArray, List.set_cons_zero, List.set_cons_succ]
          refine wpAnyH_ready (rs := [15]) (by kernel_rfl) (by simp) ?_
          refine AllReadyH.cons (o := { dst := some 182, op := Op.call { callee := Callee.builtin Builtin.append, args := #[Operand.tmp 175, Operand.tmp 181], argTypes := #[23, 23] }, type := 23, pos := "outright.go:188", after := #[{ on := 8, ground := Ground.data }, { on := 14, ground := Ground.data }, { on := 7, ground := Ground.chain }], guard := none }) rfl (fun K2 hK => ?_) ?_
          ·have hs9 : N3 ≤ V3.heap.size := by have := hV3.size; have := HN3.out; omega
           obtain ⟨vvb, V4, hap, hqb, hqa, hD2, hbl2, hB9, hkp⟩ := app_two hob hoa (fun j e e2 => hD j e2 e) hzb Hbb.out hs9 (by omega)
           have hrun := run_app hap
           clear hap
           have hV4h := Lib.hid (hV3.trans hB9)
           replace hob := hqb
           replace hoa := hqa
           replace hD : ∀ j, vva.ownBlock = some j → vvb.ownBlock ≠ some j := fun j e e2 => hD2 j e2 e
           have Hbb := Lib.hid hbl2
           have Hoa := Lib.hid hoa
           have Hob := Lib.hid hob
           have HD := Lib.hid hD
           clear hqb hqa hD2 hbl2 hB9 hkp hs9 hoa hob hD hzb
           go_simp
           try rw [hrun]
           try go_simp
           refine hK.out _ _ hV4h.out (fun hV4 => ?_)
           clear hK K2 hrun hV4h
           have hoa := Hoa.out
           have hob := Hob.out
           have hD := HD.out
           clear Hoa Hob HD
           try simp only [Act.put, List.setIfInBounds_toArray, List.set_cons_zero, List.set_cons_succ]
           refine wpAnyH_take (i := 16) (oi := { dst := some 22, op := Op.assign (Operand.tmp 174), type := 23, pos := "outright.go:188", after := #[{ on := 7, ground := Ground.data }, { on := 15, ground := Ground.chain }, { on := 0, ground := Ground.phase }, { on := 1, ground := Ground.phase }, { on := 2, ground := Ground.phase }, { on := 3, ground := Ground.phase }, { on := 4, ground := Ground.phase }, { on := 5, ground := Ground.phase }, { on := 6, ground := Ground.phase }, { on := 7, ground := Ground.phase }, { on := 8, ground := Ground.textOnly Departure.lateStores }, { on := 9, ground := Ground.textOnly Departure.lateStores }, { on := 10, ground := Ground.textOnly Departure.lateStores }, { on := 11, ground := Ground.textOnly Departure.lateStores }, { on := 12, ground := Ground.textOnly Departure.lateStores }, { on := 13, ground := Ground.textOnly Departure.lateStores }, { on := 14, ground := Ground.textOnly Departure.lateStores }, { on := 15, ground := Ground.textOnly Departure.lateStoresUnsure }], guard := none }) (v := vva) rfl (by kernel_rfl) (by kernel_rfl) (by kernel_rfl) (fun _ _ _ h => h) (Or.inl ⟨by rfl, by intro w2 hSw; (try dsimp only at hSw);  go_simp⟩) hV4 ?_
           try simp only [Act.put, List.setIfInBounds_toArray, List.set_cons_zero, List.set_cons_succ]
           refine wpAnyH_take (i := 17) (oi := { dst := some 23, op := Op.assign (Operand.tmp 182), type := 23, pos := "outright.go:188", after := #[{ on := 15, ground := Ground.data }, { on := 16, ground := Ground.chain }, { on := 0, ground := Ground.phase }, { on := 1, ground := Ground.phase }, { on := 2, ground := Ground.phase }, { on := 3, ground := Ground.phase }, { on := 4, ground := Ground.phase }, { on := 5, ground := Ground.phase }, { on := 6, ground := Ground.phase }, { on := 7, ground := Ground.phase }, { on := 8, ground := Ground.phase }, { on := 9, ground := Ground.phase }, { on := 10, ground := Ground.phase }, { on := 11, ground := Ground.phase }, { on := 12, ground := Ground.phase }, { on := 13, ground := Ground.phase }, { on := 14, ground := Ground.phase }, { on := 15, ground := Ground.phase }, { on := 16, ground := Ground.phase }], guard := none }) (v := vvb) rfl (by kernel_rfl) (by kernel_rfl) (by kernel_rfl) (fun _ _ _ h => h) (Or.inl ⟨by rfl, by intro w2 hSw; (try dsimp only at hSw);  go_simp⟩) hV4 ?_
           try simp only [Act.put, List.setIfInBounds_toArray, List.set_cons_zero, List.set_cons_succ]
           have Hoa := Lib.hid hoa
           have Hob := Lib.hid hob
           have HD := Lib.hid hD
           have HS9 := Lib.hid hV4
           clear hoa hob hD
           refine wpAnyH_done (by kernel_rfl) ?_ _
           go_wp2_with fail
           go_roundw
           case rel => exact ⟨k + 1, by omega, by go_num, by rw [Hkx.out, flatI_snoc]; exact Hoa.out, by rw [Hky.out, flatI_snoc]; exact Hob.out, HD.out, Hba.out, Hbb.out, by rw [← hw3]; exact HS9.out⟩
           case measure => simp [intOf]; omega
          exact AllReadyH.nil
         exact AllReadyH.nil
        refine AllReadyH.cons (o := { dst := some 181, op := Op.buildSlice 23 1 #[(0, Operand.tmp 180)], type := 23, pos := "outright.go:188", after := #[{ on := 13, ground := Ground.data }], guard := none }) rfl (fun K2 hK => ?_) ?_
        ·go_simp
         have hs9 : N3 ≤ V1.heap.size := by have := hV1.size; have := HN3.out; omega
         refine hK.out _ _ (hV1.trans ((below_alloc_ _ _).mono hs9)) (fun hV2 => ?_)
         clear hK K2
         have hzb := heap_alloc_new_ V1 (.cells #[.int .i64 hi] 2)
         have hb := below_alloc_ V1 (.cells #[.int .i64 hi] 2)
         replace hza := (hb.block _ (lt_of_block hza)).trans hza
         have hnab := Lib.hid (show ∀ j, u22.ownBlock = some j → j ≠ V1.heap.size from fun j e e2 => by have := own_lt hoa j e; omega)
         have hnbb := Lib.hid (show ∀ j, u23.ownBlock = some j → j ≠ V1.heap.size from fun j e e2 => by have := own_lt hob j e; omega)
         replace hoa := own_keep hoa (Keeps.of_new (Mut := fun _ => False) hb) (fun _ _ e => e)
         replace hob := own_keep hob (Keeps.of_new (Mut := fun _ => False) hb) (fun _ _ e => e)
         generalize V1.alloc (.cells #[.int .i64 hi] 2) = V2 at *
         obtain ⟨Zb, hZ⟩ : ∃ Zb, V1.heap.size = Zb := ⟨_, rfl⟩
         rw [hZ] at hzb hnab hnbb ⊢
         clear hZ hb hs9
         try simp only [Act.put, List.setIfInBounds_toArray, List.set_cons_zero, List.set_cons_succ]
         refine wpAnyH_ready (rs := [7]) (by kernel_rfl) (by simp) ?_
         refine AllReadyH.cons (o := { dst := some 174, op := Op.call { callee := Callee.builtin Builtin.append, args := #[Operand.tmp 167, Operand.tmp 173], argTypes := #[23, 23] }, type := 23, pos := "outright.go:188", after := #[{ on := 0, ground := Ground.data }, { on := 6, ground := Ground.data }], guard := none }) rfl (fun K2 hK => ?_) ?_
         ·have hs9 : N3 ≤ V2.heap.size := by have := hV2.size; have := HN3.out; omega
          obtain ⟨vva, V3, hap, hqa, hqb, hD2, hbl2, hB9, hkp⟩ := app_two hoa hob hD hza Hba.out hs9 (by omega)
          have hrun := run_app hap
          clear hap
          replace hzb := hkp _ _ hzb (fun e => hnab.out _ e rfl)
          have hV3h := Lib.hid (hV2.trans hB9)
          replace hoa := hqa
          replace hob := hqb
          replace hD : ∀ j, vva.ownBlock = some j → u23.ownBlock ≠ some j := hD2
          have Hba := Lib.hid hbl2
          have Hoa := Lib.hid hoa
          have Hob := Lib.hid hob
          have HD := Lib.hid hD
          have Hzb := Lib.hid hzb
          clear hzb
          clear hqa hqb hD2 hbl2 hB9 hkp hs9 hoa hob hD hza
          go_simp
          try rw [hrun]
          try go_simp
          refine hK.out _ _ hV3h.out (fun hV3 => ?_)
          clear hK K2 hrun hV3h
          have hoa := Hoa.out
          have hob := Hob.out
          have hD := HD.out
          clear Hoa Hob HD
          have hzb := Hzb.out
          clear Hzb
          try simp only [Act.put, List.setIfInBounds_toArray, List.set_cons_zero, List.set_cons_succ]
          refine wpAnyH_ready (rs := [15]) (by kernel_rfl) (by simp) ?_
          refine AllReadyH.cons (o := { dst := some 182, op := Op.call { callee := Callee.builtin Builtin.append, args := #[Operand.tmp 175, Operand.tmp 181], argTypes := #[23, 23] }, type := 23, pos := "outright.go:188", after := #[{ on := 8, ground := Ground.data }, { on := 14, ground := Ground.data }, { on := 7, ground := Ground.chain }], guard := none }) rfl (fun K2 hK => ?_) ?_
          ·have hs9 : N3 ≤ V3.heap.size := by have := hV3.size; have := HN3.out; omega
           obtain ⟨vvb, V4, hap, hqb, hqa, hD2, hbl2, hB9, hkp⟩ := app_two hob hoa (fun j e e2 => hD j e2 e) hzb Hbb.out hs9 (by omega)
           have hrun := run_app hap
           clear hap
           have hV4h := Lib.hid (hV3.trans hB9)
           replace hob := hqb
           replace hoa := hqa
           replace hD : ∀ j, vva.ownBlock = some j → vvb.ownBlock ≠ some j := fun j e e2 => hD2 j e2 e
           have Hbb := Lib.hid hbl2
           have Hoa := Lib.hid hoa
           have Hob := Lib.hid hob
           have HD := Lib.hid hD
           clear hqb hqa hD2 hbl2 hB9 hkp hs9 hoa hob hD hzb
           go_simp
           try rw [hrun]
           try go_simp
           refine hK.out _ _ hV4h.out (fun hV4 => ?_)
           clear hK K2 hrun hV4h
           have hoa := Hoa.out
           have hob := Hob.out
           have hD := HD.out
           clear Hoa Hob HD
           try simp only [Act.put, List.setIfInBounds_toArray, List.set_cons_zero, List.set_cons_succ]
           refine wpAnyH_take (i := 16) (oi := { dst := some 22, op := Op.assign (Operand.tmp 174), type := 23, pos := "outright.go:188", after := #[{ on := 7, ground := Ground.data }, { on := 15, ground := Ground.chain }, { on := 0, ground := Ground.phase }, { on := 1, ground := Ground.phase }, { on := 2, ground := Ground.phase }, { on := 3, ground := Ground.phase }, { on := 4, ground := Ground.phase }, { on := 5, ground := Ground.phase }, { on := 6, ground := Ground.phase }, { on := 7, ground := Ground.phase }, { on := 8, ground := Ground.textOnly Departure.lateStores }, { on := 9, ground := Ground.textOnly Departure.lateStores }, { on := 10, ground := Ground.textOnly Departure.lateStores }, { on := 11, ground := Ground.textOnly Departure.lateStores }, { on := 12, ground := Ground.textOnly Departure.lateStores }, { on := 13, ground := Ground.textOnly Departure.lateStores }, { on := 14, ground := Ground.textOnly Departure.lateStores }, { on := 15, ground := Ground.textOnly Departure.lateStoresUnsure }], guard := none }) (v := vva) rfl (by kernel_rfl) (by kernel_rfl) (by kernel_rfl) (fun _ _ _ h => h) (Or.inl ⟨by rfl, by intro w2 hSw; (try dsimp only at hSw);  go_simp⟩) hV4 ?_
           try simp only [Act.put, List.setIfInBounds_toArray, List.set_cons_zero, List.set_cons_succ]
           refine wpAnyH_take (i := 17) (oi := { dst := some 23, op := Op.assign (Operand.tmp 182), type := 23, pos := "outright.go:188", after := #[{ on := 15, ground := Ground.data }, { on := 16, ground := Ground.chain }, { on := 0, ground := Ground.phase }, { on := 1, ground := Ground.phase }, { on := 2, ground := Ground.phase }, { on := 3, ground := Ground.phase }, { on := 4, ground := Ground.phase }, { on := 5, ground := Ground.phase }, { on := 6, ground := Ground.phase }, { on := 7, ground := Ground.phase }, { on := 8, ground := Ground.phase }, { on := 9, ground := Ground.phase }, { on := 10, ground := Ground.phase }, { on := 11, ground := Ground.phase }, { on := 12, ground := Ground.phase }, { on := 13, ground := Ground.phase }, { on := 14, ground := Ground.phase }, { on := 15, ground := Ground.phase }, { on := 16, ground := Ground.phase }], guard := none }) (v := vvb) rfl (by kernel_rfl) (by kernel_rfl) (by kernel_rfl) (fun _ _ _ h => h) (Or.inl ⟨by rfl, by intro w2 hSw; (try dsimp only at hSw);  go_simp⟩) hV4 ?_
           try simp only [Act.put, List.setIfInBounds_toArray, List.set_cons_zero, List.set_cons_succ]
           have Hoa := Lib.hid hoa
           have Hob := Lib.hid hob
           have HD := Lib.hid hD
           have HS9 := Lib.hid hV4
           clear hoa hob hD
           refine wpAnyH_done (by kernel_rfl) ?_ _
           go_wp2_with fail
           go_roundw
           case rel => exact ⟨k + 1, by omega, by go_num, by rw [Hkx.out, flatI_snoc]; exact Hoa.out, by rw [Hky.out, flatI_snoc]; exact Hob.out, HD.out, Hba.out, Hbb.out, by rw [← hw3]; exact HS9.out⟩
           case measure => simp [intOf]; omega
          exact AllReadyH.nil
         exact AllReadyH.nil
        exact AllReadyH.nil
       refine AllReadyH.cons (o := { dst := some 181, op := Op.buildSlice 23 1 #[(0, Operand.tmp 180)], type := 23, pos := "outright.go:188", after := #[{ on := 13, ground := Ground.data }], guard := none }) rfl (fun K2 hK => ?_) ?_
       ·go_simp
        have hs9 : N3 ≤ V0.heap.size := by have := hV0.size; have := HN3.out; omega
        refine hK.out _ _ (hV0.trans ((below_alloc_ _ _).mono hs9)) (fun hV1 => ?_)
        clear hK K2
        have hzb := heap_alloc_new_ V0 (.cells #[.int .i64 hi] 2)
        have hb := below_alloc_ V0 (.cells #[.int .i64 hi] 2)
        have hnab := Lib.hid (show ∀ j, u22.ownBlock = some j → j ≠ V0.heap.size from fun j e e2 => by have := own_lt hoa j e; omega)
        have hnbb := Lib.hid (show ∀ j, u23.ownBlock = some j → j ≠ V0.heap.size from fun j e e2 => by have := own_lt hob j e; omega)
        replace hoa := own_keep hoa (Keeps.of_new (Mut := fun _ => False) hb) (fun _ _ e => e)
        replace hob := own_keep hob (Keeps.of_new (Mut := fun _ => False) hb) (fun _ _ e => e)
        generalize V0.alloc (.cells #[.int .i64 hi] 2) = V1 at *
        obtain ⟨Zb, hZ⟩ : ∃ Zb, V0.heap.size = Zb := ⟨_, rfl⟩
        rw [hZ] at hzb hnab hnbb ⊢
        clear hZ hb hs9
        try simp only [Act.put, List.setIfInBounds_toArray, List.set_cons_zero, List.set_cons_succ]
        refine wpAnyH_ready (rs := [6]) (by kernel_rfl) (by simp) ?_
        refine AllReadyH.cons (o := { dst := some 173, op := Op.buildSlice 23 1 #[(0, Operand.tmp 172)], type := 23, pos := "outright.go:188", after := #[{ on := 5, ground := Ground.data }], guard := none }) rfl (fun K2 hK => ?_) ?_
        ·go_simp
         have hs9 : N3 ≤ V1.heap.size := by have := hV1.size; have := HN3.out; omega
         refine hK.out _ _ (hV1.trans ((below_alloc_ _ _).mono hs9)) (fun hV2 => ?_)
         clear hK K2
         have hza := heap_alloc_new_ V1 (.cells #[.int .i64 lo] 2)
         have hb := below_alloc_ V1 (.cells #[.int .i64 lo] 2)
         replace hzb := (hb.block _ (lt_of_block hzb)).trans hzb
         have hnaa := Lib.hid (show ∀ j, u22.ownBlock = some j → j ≠ V1.heap.size from fun j e e2 => by have := own_lt hoa j e; omega)
         have hnba := Lib.hid (show ∀ j, u23.ownBlock = some j → j ≠ V1.heap.size from fun j e e2 => by have := own_lt hob j e; omega)
         replace hoa := own_keep hoa (Keeps.of_new (Mut := fun _ => False) hb) (fun _ _ e => e)
         replace hob := own_keep hob (Keeps.of_new (Mut := fun _ => False) hb) (fun _ _ e => e)
         generalize V1.alloc (.cells #[.int .i64 lo] 2) = V2 at *
         obtain ⟨Za, hZ⟩ : ∃ Za, V1.heap.size = Za := ⟨_, rfl⟩
         rw [hZ] at hza hnaa hnba ⊢
         clear hZ hb hs9
         try simp only [Act.put, List.setIfInBounds_toArray, List.set_cons_zero, List.set_cons_succ]
         refine wpAnyH_ready (rs := [7]) (by kernel_rfl) (by simp) ?_
         refine AllReadyH.cons (o := { dst := some 174, op := Op.call { callee := Callee.builtin Builtin.append, args := #[Operand.tmp 167, Operand.tmp 173], argTypes := #[23, 23] }, type := 23, pos := "outright.go:188", after := #[{ on := 0, ground := Ground.data }, { on := 6, ground := Ground.data }], guard := none }) rfl (fun K2 hK => ?_) ?_
         ·have hs9 : N3 ≤ V2.heap.size := by have := hV2.size; have := HN3.out; omega
          obtain ⟨vva, V3, hap, hqa, hqb, hD2, hbl2, hB9, hkp⟩ := app_two hoa hob hD hza Hba.out hs9 (by omega)
          have hrun := run_app hap
          clear hap
          replace hzb := hkp _ _ hzb (fun e => hnab.out _ e rfl)
          have hV3h := Lib.hid (hV2.trans hB9)
          replace hoa := hqa
          replace hob := hqb
          replace hD : ∀ j, vva.ownBlock = some j → u23.ownBlock ≠ some j := hD2
          have Hba := Lib.hid hbl2
          have Hoa := Lib.hid hoa
          have Hob := Lib.hid hob
          have HD := Lib.hid hD
          have Hzb := Lib.hid hzb
          clear hzb
          clear hqa hqb hD2 hbl2 hB9 hkp hs9 hoa hob hD hza
          go_simp
          try rw [hrun]
          try go_simp
          refine hK.out _ _ hV3h.out (fun hV3 => ?_)
          clear hK K2 hrun hV3h
          have hoa := Hoa.out
          have hob := Hob.out
          have hD := HD.out
          clear Hoa Hob HD
          have hzb := Hzb.out
          clear Hzb
          try simp only [Act.put, List.setIfInBounds_toArray, List.set_cons_zero, List.set_cons_succ]
          refine wpAnyH_ready (rs := [15]) (by kernel_rfl) (by simp) ?_
          refine AllReadyH.cons (o := { dst := some 182, op := Op.call { callee := Callee.builtin Builtin.append, args := #[Operand.tmp 175, Operand.tmp 181], argTypes := #[23, 23] }, type := 23, pos := "outright.go:188", after := #[{ on := 8, ground := Ground.data }, { on := 14, ground := Ground.data }, { on := 7, ground := Ground.chain }], guard := none }) rfl (fun K2 hK => ?_) ?_
          ·have hs9 : N3 ≤ V3.heap.size := by have := hV3.size; have := HN3.out; omega
           obtain ⟨vvb, V4, hap, hqb, hqa, hD2, hbl2, hB9, hkp⟩ := app_two hob hoa (fun j e e2 => hD j e2 e) hzb Hbb.out hs9 (by omega)
           have hrun := run_app hap
           clear hap
           have hV4h := Lib.hid (hV3.trans hB9)
           replace hob := hqb
           replace hoa := hqa
           replace hD : ∀ j, vva.ownBlock = some j → vvb.ownBlock ≠ some j := fun j e e2 => hD2 j e2 e
           have Hbb := Lib.hid hbl2
           have Hoa := Lib.hid hoa
           have Hob := Lib.hid hob
           have HD := Lib.hid hD
           clear hqb hqa hD2 hbl2 hB9 hkp hs9 hoa hob hD hzb
           go_simp
           try rw [hrun]
           try go_simp
           refine hK.out _ _ hV4h.out (fun hV4 => ?_)
           clear hK K2 hrun hV4h
           have hoa := Hoa.out
           have hob := Hob.out
           have hD := HD.out
           clear Hoa Hob HD
           try simp only [Act.put, List.setIfInBounds_toArray, List.set_cons_zero, List.set_cons_succ]
           refine wpAnyH_take (i := 16) (oi := { dst := some 22, op := Op.assign (Operand.tmp 174), type := 23, pos := "outright.go:188", after := #[{ on := 7, ground := Ground.data }, { on := 15, ground := Ground.chain }, { on := 0, ground := Ground.phase }, { on := 1, ground := Ground.phase }, { on := 2, ground := Ground.phase }, { on := 3, ground := Ground.phase }, { on := 4, ground := Ground.phase }, { on := 5, ground := Ground.phase }, { on := 6, ground := Ground.phase }, { on := 7, ground := Ground.phase }, { on := 8, ground := Ground.textOnly Departure.lateStores }, { on := 9, ground := Ground.textOnly Departure.lateStores }, { on := 10, ground := Ground.textOnly Departure.lateStores }, { on := 11, ground := Ground.textOnly Departure.lateStores }, { on := 12, ground := Ground.textOnly Departure.lateStores }, { on := 13, ground := Ground.textOnly Departure.lateStores }, { on := 14, ground := Ground.textOnly Departure.lateStores }, { on := 15, ground := Ground.textOnly Departure.lateStoresUnsure }], guard := none }) (v := vva) rfl (by kernel_rfl) (by kernel_rfl) (by kernel_rfl) (fun _ _ _ h => h) (Or.inl ⟨by rfl, by intro w2 hSw; (try dsimp only at hSw);  go_simp⟩) hV4 ?_
           try simp only [Act.put, List.setIfInBounds_toArray, List.set_cons_zero, List.set_cons_succ]
           refine wpAnyH_take (i := 17) (oi := { dst := some 23, op := Op.assign (Operand.tmp 182), type := 23, pos := "outright.go:188", after := #[{ on := 15, ground := Ground.data }, { on := 16, ground := Ground.chain }, { on := 0, ground := Ground.phase }, { on := 1, ground := Ground.phase }, { on := 2, ground := Ground.phase }, { on := 3, ground := Ground.phase }, { on := 4, ground := Ground.phase }, { on := 5, ground := Ground.phase }, { on := 6, ground := Ground.phase }, { on := 7, ground := Ground.phase }, { on := 8, ground := Ground.phase }, { on := 9, ground := Ground.phase }, { on := 10, ground := Ground.phase }, { on := 11, ground := Ground.phase }, { on := 12, ground := Ground.phase }, { on := 13, ground := Ground.phase }, { on := 14, ground := Ground.phase }, { on := 15, ground := Ground.phase }, { on := 16, ground := Ground.phase }], guard := none }) (v := vvb) rfl (by kernel_rfl) (by kernel_rfl) (by kernel_rfl) (fun _ _ _ h => h) (Or.inl ⟨by rfl, by intro w2 hSw; (try dsimp only at hSw);  go_simp⟩) hV4 ?_
           try simp only [Act.put, List.setIfInBounds_toArray, List.set_cons_zero, List.set_cons_succ]
           have Hoa := Lib.hid hoa
           have Hob := Lib.hid hob
           have HD := Lib.hid hD
           have HS9 := Lib.hid hV4
           clear hoa hob hD
           refine wpAnyH_done (by kernel_rfl) ?_ _
           go_wp2_with fail
           go_roundw
           case rel => exact ⟨k + 1, by omega, by go_num, by rw [Hkx.out, flatI_snoc]; exact Hoa.out, by rw [Hky.out, flatI_snoc]; exact Hob.out, HD.out, Hba.out, Hbb.out, by rw [← hw3]; exact HS9.out⟩
           case measure => simp [intOf]; omega
          exact AllReadyH.nil
         exact AllReadyH.nil
        exact AllReadyH.nil
       exact AllReadyH.nil
      ·have e' : k = m3 := by omega
       subst e'
       have hxk : tkI x k = x := by have := tkI_all x; rwa [Hlx.out] at this
       have hyk : tkI y k = y := by have := tkI_all y; rwa [Hly.out] at this
       rw [hxk] at hoa
       rw [hyk] at hob
       obtain ⟨Ca, ca, rfl, hca, hia, -⟩ := ints_own Hlx.out hoa
       obtain ⟨Cb, cb, rfl, hcb, hib, -⟩ := ints_own Hly.out hob
       have hb : Below wc.heap.size wc wk := by rw [← HN3.out]; exact HS.out
       replace B1 := Lib.hid (B1.out.trans (hb.mono B1.out.size))
       replace X0 := Lib.hid ((hb.block _ (lt_of_block X0.out)).trans X0.out)
       replace F := Lib.hid (F.out.below hb (Nat.le_refl _))
       replace R := Lib.hid (R.out.below hb (Nat.le_refl _))
       replace PB := Lib.hid ((hb.block _ (lt_of_block PB.out)).trans PB.out)
       have LA := Lib.hid hia
       have LB := Lib.hid hib
       clear hb hoa hob hia hib hxk hyk hD Hba Hbb HS hca hcb hlt hk HN3
       go_wp2_with fail
       refine (by36 _ n cap zs C1 m1 cap1 us wk (S0.out.below B1.out (Nat.le_refl _)) (U0.out.below B1.out (Nat.le_refl _)) HZ.out hm1).mono ?_
       rintro en w14 ⟨z, Dz, cpz, hzc, rfl, hlz, hi, hf, hb⟩
       replace B1 := Lib.hid (B1.out.trans (hb.mono B1.out.size))
       replace X0 := Lib.hid ((hb.block _ (lt_of_block X0.out)).trans X0.out)
       replace F := Lib.hid (F.out.below hb (Nat.le_refl _))
       replace PB := Lib.hid ((hb.block _ (lt_of_block PB.out)).trans PB.out)
       replace LA := Lib.hid (LA.out.below hb (Nat.le_refl _))
       replace LB := Lib.hid (LB.out.below hb (Nat.le_refl _))
       obtain ⟨lz, hlz2⟩ : ∃ lz, z.length = lz := ⟨_, rfl⟩
       rw [hlz2] at hi
       rw [hlz2]
       have hlz24 : lz ≤ 24 := by have := ((ckSc_iff HZ.out).1 hzc).2.1; omega
       have LZ := Lib.hid hi
       clear hb hi hf hlz hlz2 hzc
       go_wp2_with fail
       have hrow := heap_alloc_new_ w14 (.cells #[.slice Ds k cps, .slice Ca k ca, .slice Cb k cb, .slice Dz lz cpz, .slice C2 m2 cap2] 23)
       have hb := below_alloc_ w14 (.cells #[.slice Ds k cps, .slice Ca k ca, .slice Cb k cb, .slice Dz lz cpz, .slice C2 m2 cap2] 23)
       obtain ⟨w15, hV⟩ : ∃ w15, w14.alloc (.cells #[.slice Ds k cps, .slice Ca k ca, .slice Cb k cb, .slice Dz lz cpz, .slice C2 m2 cap2] 23) = w15 := ⟨_, rfl⟩
       rw [hV] at hrow hb ⊢
       clear hV
       replace B1 := Lib.hid (B1.out.trans (hb.mono B1.out.size))
       replace X0 := Lib.hid ((hb.block _ (lt_of_block X0.out)).trans X0.out)
       replace F := Lib.hid (F.out.below hb (Nat.le_refl _))
       replace PB := Lib.hid ((hb.block _ (lt_of_block PB.out)).trans PB.out)
       replace LA := Lib.hid (LA.out.below hb (Nat.le_refl _))
       replace LB := Lib.hid (LB.out.below hb (Nat.le_refl _))
       replace LZ := Lib.hid (LZ.out.below hb (Nat.le_refl _))
       obtain ⟨Q, hQ⟩ : ∃ Q, w14.heap.size = Q := ⟨_, rfl⟩
       rw [hQ] at hrow ⊢
       have Row := Lib.hid hrow
       clear hb hQ hrow
       have HL := Lib.hid (show ∀ q : Nat, q < 5 → ∃ (Cg : Option Addr) (mg cg : Nat) (gs : List Int), w15.cell? ⟨Q, q, none⟩ = some (.slice Cg mg cg) ∧ Ints w15 Cg mg gs ∧ mg ≤ 9223372036854775807 from by
        intro q hq
        rcases (by omega : q = 0 ∨ q = 1 ∨ q = 2 ∨ q = 3 ∨ q = 4) with rfl | rfl | rfl | rfl | rfl
        ·exact ⟨Ds, k, cps, s, by rw [cell_row Row.out]; rfl, F.out, by omega⟩
        ·exact ⟨Ca, k, ca, x, by rw [cell_row Row.out]; rfl, LA.out, by omega⟩
        ·exact ⟨Cb, k, cb, y, by rw [cell_row Row.out]; rfl, LB.out, by omega⟩
        ·exact ⟨Dz, lz, cpz, z, by rw [cell_row Row.out]; rfl, LZ.out, by omega⟩
        ·exact ⟨C2, m2, cap2, gv, by rw [cell_row Row.out]; rfl, N0.out.below B1.out (Nat.le_refl _), hm2⟩)
       clear F LA LB LZ Row HNl
       go_loopw [26] (fun i wr => ∃ q : Nat, q ≤ 5 ∧ i = .int .i64 (q : Int) ∧ Below w15.heap.size w15 wr) (fun i _ => 5 - (intOf i).toNat)
       case atStart => exact ⟨0, by omega, rfl, Below.refl _ _⟩
       case round =>
        obtain ⟨q, hq, rfl, hB⟩ := hrel
        obtain ⟨wq, rfl⟩ : ∃ wq, wq = wr := ⟨_, rfl⟩
        have B7 := Lib.hid hB
        have B9 := Lib.hid (B1.out.trans (hB.mono B1.out.size))
        by_cases hlt : q < 5
        rotate_left
        ·clear HL
         go_wp2_with fail
         refine (works15 _).mono ?_
         rintro en wz ⟨rfl, hb9⟩
         replace B9 := Lib.hid (B9.out.trans (hb9.mono B9.out.size))
         clear hb9
         go_wp2_with fail
         go_ret
         exact ⟨rfl, B0.out.trans (B9.out.mono B0.out.size)⟩
        ·obtain ⟨Cg, mg, cg, gs, hcell, hgi, hgm⟩ := HL.out q hlt
         have c9 : wq.cell? ⟨Q, q, none⟩ = some (.slice Cg mg cg) := (hB.cell (p := ⟨Q, q, none⟩) (lt_of_cell hcell)).trans hcell
         have HC := Lib.hid hcell
         have G := Lib.hid (hgi.below hB (Nat.le_refl _))
         have S9 := Lib.hid (S0.out.below B9.out (Nat.le_refl _))
         have i0 : (0 : Int) ≤ (q : Int) := by omega
         have i1 : (q : Int) < 5 := by omega
         have d3 : (q : Int).toNat = q := by omega
         clear hB hcell hgi
         by_cases hmk : mg = k
         rotate_left
         ·have d5 : ((mg : Int) == (k : Int)) = false := by rw [beq_eq_false_iff_ne]; omega
          have d8 : (mg == k) = false := by rw [beq_eq_false_iff_ne]; exact hmk
          go_wp2_with fail
          go_roundw
          case rel => exact ⟨q + 1, by omega, by go_num, B7.out⟩
          case measure => simp [intOf]; omega
         ·have hmk' : k = mg := hmk.symm
          subst hmk'
          clear hmk
          go_wp2_with fail
          refine (refScale21 _ n cap zs Cg k cg gs wq S9.out G.out hn).mono ?_
          rintro en w16 ⟨rfl, hb⟩
          replace G := Lib.hid (G.out.below hb (Nat.le_refl _))
          replace B7 := Lib.hid (B7.out.trans (hb.mono B7.out.size))
          replace B9 := Lib.hid (B9.out.trans (hb.mono B9.out.size))
          clear hb
          by_cases he : ckSc zs gs = 0
          rotate_left
          ·obtain ⟨eg, heg⟩ : ∃ eg, ckSc zs gs = eg := ⟨_, rfl⟩
           rw [heg] at he ⊢
           have d7 : (eg == 0) = false := by rw [beq_eq_false_iff_ne]; exact he
           clear he heg
           go_wp2_with fail
           go_roundw
           case rel => exact ⟨q + 1, by omega, by go_num, B7.out⟩
           case measure => simp [intOf]; omega
          ·have ho9 := ON.out gs he (by have := G.out.1; have := Hls.out; omega)
           rw [he]
           clear he c9
           obtain ⟨on, hon⟩ : ∃ on, meets gs (comm g1 g2) = on := ⟨_, rfl⟩
           rw [hon] at ho9
           have Ho9 := Lib.hid ho9
           have hcm := fun W h => meets38 (comm g1 g2) Cg k cg gs W h (by omega)
           rw [hon] at hcm
           simp only [comm] at hcm
           clear hon ho9
           have c9 : w16.cell? ⟨Q, q, none⟩ = some (.slice Cg k cg) := (B7.out.cell (p := ⟨Q, q, none⟩) (lt_of_cell HC.out)).trans HC.out
           have rP := (B7.out.block _ (lt_of_block PB.out)).trans PB.out
           have rX := (B7.out.block _ (lt_of_block X0.out)).trans X0.out
           have p0 : w16.cell? ⟨Pb, 0, none⟩ = some (.int .i64 (max g1.lo g2.lo)) := by rw [cell_row rP]; rfl
           have p1 : w16.cell? ⟨Pb, 1, none⟩ = some (.int .i64 (min g1.hi g2.hi)) := by rw [cell_row rP]; rfl
           go_wp2_with fail
           refine wp_region_held_drew (S := fun w2 => Below w16.heap.size w16 w2) (by kernel_rfl) (drew_b _ _) (fun hS0 => ?_)
           refine wpAnyH_take (i := 0) (oi := { dst := some 212, op := Op.load 56 (Operand.tmp 21), type := 56, pos := "outright.go:195", after := #[], guard := none }) (v := .agg #[.int .i64 (max g1.lo g2.lo), .int .i64 (min g1.hi g2.hi)]) rfl (by kernel_rfl) (by kernel_rfl) (by kernel_rfl) (fun _ _ _ h => h) (Or.inl ⟨by rfl, by intro w2 hSw; (try dsimp only at hSw); have y0 := (hSw.cell (p := ⟨Pb, 0, none⟩) (lt_of_cell p0)).trans p0; have y1 := (hSw.cell (p := ⟨Pb, 1, none⟩) (lt_of_cell p1)).trans p1; have y2 := (hSw.cell (p := ⟨Q, q, none⟩) (lt_of_cell c9)).trans c9; go_simp⟩) hS0 ?_
           try simp only [Act.put, List.setIfInBounds_toArray, List.set_cons_zero, List.set_cons_succ]
           refine wpAnyH_take (i := 1) (oi := { dst := some 213, op := Op.move (Operand.tmp 25), type := 57, pos := "outright.go:195", after := #[], guard := none }) (v := .slice (some ⟨Q, 0, none⟩) 5 5) rfl (by kernel_rfl) (by kernel_rfl) (by kernel_rfl) (fun _ _ _ h => h) (Or.inl ⟨by rfl, by intro w2 hSw; (try dsimp only at hSw); have y0 := (hSw.cell (p := ⟨Pb, 0, none⟩) (lt_of_cell p0)).trans p0; have y1 := (hSw.cell (p := ⟨Pb, 1, none⟩) (lt_of_cell p1)).trans p1; have y2 := (hSw.cell (p := ⟨Q, q, none⟩) (lt_of_cell c9)).trans c9; go_simp⟩) hS0 ?_
           try simp only [Act.put, List.setIfInBounds_toArray, List.set_cons_zero, List.set_cons_succ]
           refine wpAnyH_take (i := 2) (oi := { dst := some 214, op := Op.move (Operand.tmp 26), type := 3, pos := "outright.go:195", after := #[], guard := none }) (v := .int .i64 (q : Int)) rfl (by kernel_rfl) (by kernel_rfl) (by kernel_rfl) (fun _ _ _ h => h) (Or.inl ⟨by rfl, by intro w2 hSw; (try dsimp only at hSw); have y0 := (hSw.cell (p := ⟨Pb, 0, none⟩) (lt_of_cell p0)).trans p0; have y1 := (hSw.cell (p := ⟨Pb, 1, none⟩) (lt_of_cell p1)).trans p1; have y2 := (hSw.cell (p := ⟨Q, q, none⟩) (lt_of_cell c9)).trans c9; go_simp⟩) hS0 ?_
           try simp only [Act.put, List.setIfInBounds_toArray, List.set_cons_zero, List.set_cons_succ]
           refine wpAnyH_take (i := 3) (oi := { dst := some 215, op := Op.indexAddr 57 (Operand.tmp 213) (Operand.tmp 214), type := 0, pos := "outright.go:195", after := #[{ on := 1, ground := Ground.data }, { on := 2, ground := Ground.data }], guard := none }) (v := .pointer (some ⟨Q, q, none⟩)) rfl (by kernel_rfl) (by kernel_rfl) (by kernel_rfl) (fun _ _ _ h => h) (Or.inl ⟨by rfl, by intro w2 hSw; (try dsimp only at hSw); have y0 := (hSw.cell (p := ⟨Pb, 0, none⟩) (lt_of_cell p0)).trans p0; have y1 := (hSw.cell (p := ⟨Pb, 1, none⟩) (lt_of_cell p1)).trans p1; have y2 := (hSw.cell (p := ⟨Q, q, none⟩) (lt_of_cell c9)).trans c9; go_simp⟩) hS0 ?_
           try simp only [Act.put, List.setIfInBounds_toArray, List.set_cons_zero, List.set_cons_succ]
           refine wpAnyH_take (i := 4) (oi := { dst := some 216, op := Op.load 23 (Operand.tmp 215), type := 23, pos := "outright.go:195", after := #[{ on := 3, ground := Ground.data }], guard := none }) (v := .slice Cg k cg) rfl (by kernel_rfl) (by kernel_rfl) (by kernel_rfl) (fun _ _ _ h => h) (Or.inl ⟨by rfl, by intro w2 hSw; (try dsimp only at hSw); have y0 := (hSw.cell (p := ⟨Pb, 0, none⟩) (lt_of_cell p0)).trans p0; have y1 := (hSw.cell (p := ⟨Pb, 1, none⟩) (lt_of_cell p1)).trans p1; have y2 := (hSw.cell (p := ⟨Q, q, none⟩) (lt_of_cell c9)).trans c9; go_simp⟩) hS0 ?_
           try simp only [Act.put, List.setIfInBounds_toArray, List.set_cons_zero, List.set_cons_succ]
           refine wpAnyH_ready (rs := [5]) (by kernel_rfl) (by simp) ?_
           refine AllReadyH.cons (o := { dst := some 217, op := Op.call { callee := Callee.value (Operand.func 38), args := #[Operand.tmp 212, Operand.tmp 216], argTypes := #[56, 23] }, type := 4, pos := "outright.go:195", after := #[{ on := 0, ground := Ground.data }, { on := 4, ground := Ground.data }], guard := none }) rfl (fun K2 hK => ?_) AllReadyH.nil
           go_simp
           refine (hcm _ (G.out.below hS0 (Nat.le_refl _))).mono ?_
           rintro e9 V1 ⟨rfl, hb6⟩
           try go_simp
           refine hK.out _ _ (hS0.trans (hb6.mono hS0.size)) (fun hS1 => ?_)
           clear hK K2 hb6
           try simp only [Act.put, List.setIfInBounds_toArray, List.set_cons_zero, List.set_cons_succ]
           refine wpAnyH_take (i := 6) (oi := { dst := some 27, op := Op.assign (Operand.tmp 217), type := 4, pos := "outright.go:195", after := #[{ on := 5, ground := Ground.data }, { on := 5, ground := Ground.chain }, { on := 0, ground := Ground.phase }, { on := 1, ground := Ground.phase }, { on := 2, ground := Ground.phase }, { on := 3, ground := Ground.phase }, { on := 4, ground := Ground.phase }, { on := 5, ground := Ground.phase }], guard := none }) (v := .bool on) rfl (by kernel_rfl) (by kernel_rfl) (by kernel_rfl) (fun _ _ _ h => h) (Or.inl ⟨by rfl, by intro w2 hSw; (try dsimp only at hSw); have y0 := (hSw.cell (p := ⟨Pb, 0, none⟩) (lt_of_cell p0)).trans p0; have y1 := (hSw.cell (p := ⟨Pb, 1, none⟩) (lt_of_cell p1)).trans p1; have y2 := (hSw.cell (p := ⟨Q, q, none⟩) (lt_of_cell c9)).trans c9; go_simp⟩) hS1 ?_
           try simp only [Act.put, List.setIfInBounds_toArray, List.set_cons_zero, List.set_cons_succ]
           refine wpAnyH_done (by kernel_rfl) ?_ _
           have B8 := Lib.hid (B7.out.trans (hS1.mono B7.out.size))
           have x0 : V1.cell? ⟨P0, 0, none⟩ = some (.bool false) := (hS1.cell (p := ⟨P0, 0, none⟩) (lt_of_block rX)).trans (by rw [cell_row rX]; rfl)
           have x1 : V1.cell? ⟨P0, 1, none⟩ = some (.bool false) := (hS1.cell (p := ⟨P0, 1, none⟩) (lt_of_block rX)).trans (by rw [cell_row rX]; rfl)
           clear hS1 hS0 p0 p1 c9 rP rX hcm
           obtain rfl : on = false := Ho9.out.2 (by simp)
           go_wp2_with fail
           go_roundw
           case rel => exact ⟨q + 1, by omega, by go_num, B8.out⟩
           case measure => simp [intOf]; omega
    ·skip
     go_wp2_with fail
     clear p0 p1 x00
     obtain ⟨N3, hN3⟩ : ∃ N3, wc.heap.size = N3 := ⟨_, rfl⟩
     have HN3 := Lib.hid (show N3 = wc.heap.size from hN3.symm)
     clear hN3
     go_loopw [22, 23, 24] (fun va vb i wr => ∃ k : Nat, k ≤ m3 ∧ i = .int .i64 (k : Int) ∧ wr.ownsRow 0 2 1 va k (flatI (tkI x k)) ∧ wr.ownsRow 0 2 1 vb k (flatI (tkI y k)) ∧ (∀ j, va.ownBlock = some j → vb.ownBlock ≠ some j) ∧ (∀ j, va.ownBlock = some j → N3 ≤ j) ∧ (∀ j, vb.ownBlock = some j → N3 ≤ j) ∧ Below N3 wc wr) (fun va vb i _ => m3 - (intOf i).toNat)
     case atStart => exact ⟨0, Nat.zero_le _, rfl, own_nil _ _ _, own_nil _ _ _, fun j e => (by cases e), fun j e => (by cases e), fun j e => (by cases e), Below.refl _ _⟩
     case round =>
      obtain ⟨k, hk, rfl, hoa, hob, hD, hba, hbb, hS⟩ := hrel
      obtain ⟨wk, rfl⟩ : ∃ wk, wk = wr := ⟨_, rfl⟩
      have Hba := Lib.hid hba
      have Hbb := Lib.hid hbb
      have HS := Lib.hid hS
      clear hba hbb hS
      by_cases hlt : k < m3
      ·have Hkx := Lib.hid (tkI_succ x k)
       obtain ⟨b, o, rfl, hcr⟩ := R.out.2 (by omega)
       obtain ⟨c0, c1⟩ := hcr k hlt
       clear hcr
       have i0 : (0 : Int) ≤ (k : Int) := by omega
       have i1 : (k : Int) < (m3 : Int) := by omega
       have i2 : (k : Int) ≤ 24 := by omega
       have d3 : (k : Int).toNat = k := by omega
       rw [gAt_spn x y hlt] at c0 c1
       dsimp only at c0 c1
       have Hky := Lib.hid (tkI_succ y k)
       obtain ⟨lo, hlo⟩ : ∃ lo, iAt x k = lo := ⟨_, rfl⟩
       obtain ⟨hi, hhi⟩ : ∃ hi, iAt y k = hi := ⟨_, rfl⟩
       rw [hlo] at c0 Hkx
       rw [hhi] at c1 Hky
       clear hlo hhi
       obtain ⟨w3, hw3⟩ : ∃ w3, w3 = wc := ⟨_, rfl⟩
       rw [← hw3] at c0 c1 HS HN3
       have Hoa := Lib.hid hoa
       have Hob := Lib.hid hob
       have HD := Lib.hid hD
       clear hoa hob hD
       go_wp2_with fail
       have hoa := Hoa.out
       have hob := Hob.out
       have hD := HD.out
       clear Hoa Hob HD
       refine wp_region_held_drew (S := fun w2 => Below N3 w3 w2) (by kernel_rfl) (HS.out.trans ((drew_b _ _).mono (by have := HS.out.size; have := HN3.out; omega))) (fun hS0 => ?_)
       refine wpAnyH_take (i := 0) (oi := { dst := some 167, op := Op.move (Operand.tmp 22), type := 23, pos := "outright.go:188", after := #[], guard := none }) (v := u22) rfl (by kernel_rfl) (by kernel_rfl) (by kernel_rfl) (fun _ _ _ h => h) (Or.inl ⟨by rfl, by intro w2 hSw; (try dsimp only at hSw); have e0 := (hSw.cell (p := ⟨b, o + k * 2, none⟩) (Nat.lt_of_lt_of_eq (lt_of_cell c0) HN3.out.symm)).trans c0; have e1 := (hSw.cell (p := ⟨b, o + k * 2 + 1, none⟩) (Nat.lt_of_lt_of_eq (lt_of_cell c1) HN3.out.symm)).trans c1; go_simp⟩) hS0 ?_
       try simp only [Act.put, List.setIfInBounds_toArray, List.set_cons_zero, List.set_cons_succ]
       refine wpAnyH_take (i := 1) (oi := { dst := some 168, op := Op.move (Operand.tmp 19), type := 22, pos := "outright.go:188", after := #[], guard := none }) (v := .slice (some ⟨b, o, none⟩) m3 cpr) rfl (by kernel_rfl) (by kernel_rfl) (by kernel_rfl) (fun _ _ _ h => h) (Or.inl ⟨by rfl, by intro w2 hSw; (try dsimp only at hSw); have e0 := (hSw.cell (p := ⟨b, o + k * 2, none⟩) (Nat.lt_of_lt_of_eq (lt_of_cell c0) HN3.out.symm)).trans c0; have e1 := (hSw.cell (p := ⟨b, o + k * 2 + 1, none⟩) (Nat.lt_of_lt_of_eq (lt_of_cell c1) HN3.out.symm)).trans c1; go_simp⟩) hS0 ?_
       try simp only [Act.put, List.setIfInBounds_toArray, List.set_cons_zero, List.set_cons_succ]
       refine wpAnyH_take (i := 2) (oi := { dst := some 169, op := Op.move (Operand.tmp 24), type := 3, pos := "outright.go:188", after := #[], guard := none }) (v := .int .i64 (k : Int)) rfl (by kernel_rfl) (by kernel_rfl) (by kernel_rfl) (fun _ _ _ h => h) (Or.inl ⟨by rfl, by intro w2 hSw; (try dsimp only at hSw); have e0 := (hSw.cell (p := ⟨b, o + k * 2, none⟩) (Nat.lt_of_lt_of_eq (lt_of_cell c0) HN3.out.symm)).trans c0; have e1 := (hSw.cell (p := ⟨b, o + k * 2 + 1, none⟩) (Nat.lt_of_lt_of_eq (lt_of_cell c1) HN3.out.symm)).trans c1; go_simp⟩) hS0 ?_
       try simp only [Act.put, List.setIfInBounds_toArray, List.set_cons_zero, List.set_cons_succ]
       refine wpAnyH_take (i := 3) (oi := { dst := some 170, op := Op.indexAddr 22 (Operand.tmp 168) (Operand.tmp 169), type := 0, pos := "outright.go:188", after := #[{ on := 1, ground := Ground.data }, { on := 2, ground := Ground.data }], guard := none }) (v := .pointer (some ⟨b, o + k * 2, none⟩)) rfl (by kernel_rfl) (by kernel_rfl) (by kernel_rfl) (fun _ _ _ h => h) (Or.inl ⟨by rfl, by intro w2 hSw; (try dsimp only at hSw); have e0 := (hSw.cell (p := ⟨b, o + k * 2, none⟩) (Nat.lt_of_lt_of_eq (lt_of_cell c0) HN3.out.symm)).trans c0; have e1 := (hSw.cell (p := ⟨b, o + k * 2 + 1, none⟩) (Nat.lt_of_lt_of_eq (lt_of_cell c1) HN3.out.symm)).trans c1; go_simp⟩) hS0 ?_
       try simp only [Act.put, List.setIfInBounds_toArray, List.set_cons_zero, List.set_cons_succ]
       refine wpAnyH_take (i := 4) (oi := { dst := some 171, op := Op.fieldAddr 56 (Operand.tmp 170) 0, type := 0, pos := "outright.go:188", after := #[{ on := 3, ground := Ground.data }], guard := none }) (v := .pointer (some ⟨b, o + k * 2, none⟩)) rfl (by kernel_rfl) (by kernel_rfl) (by kernel_rfl) (fun _ _ _ h => h) (Or.inl ⟨by rfl, by intro w2 hSw; (try dsimp only at hSw); have e0 := (hSw.cell (p := ⟨b, o + k * 2, none⟩) (Nat.lt_of_lt_of_eq (lt_of_cell c0) HN3.out.symm)).trans c0; have e1 := (hSw.cell (p := ⟨b, o + k * 2 + 1, none⟩) (Nat.lt_of_lt_of_eq (lt_of_cell c1) HN3.out.symm)).trans c1; go_simp⟩) hS0 ?_
       try simp only [Act.put, List.setIfInBounds_toArray, List.set_cons_zero, List.set_cons_succ]
       refine wpAnyH_take (i := 5) (oi := { dst := some 172, op := Op.load 2 (Operand.tmp 171), type := 2, pos := "outright.go:188", after := #[{ on := 4, ground := Ground.data }], guard := none }) (v := .int .i64 lo) rfl (by kernel_rfl) (by kernel_rfl) (by kernel_rfl) (fun _ _ _ h => h) (Or.inl ⟨by rfl, by intro w2 hSw; (try dsimp only at hSw); have e0 := (hSw.cell (p := ⟨b, o + k * 2, none⟩) (Nat.lt_of_lt_of_eq (lt_of_cell c0) HN3.out.symm)).trans c0; have e1 := (hSw.cell (p := ⟨b, o + k * 2 + 1, none⟩) (Nat.lt_of_lt_of_eq (lt_of_cell c1) HN3.out.symm)).trans c1; go_simp⟩) hS0 ?_
       try simp only [Act.put, List.setIfInBounds_toArray, List.set_cons_zero, List.set_cons_succ]
       refine wpAnyH_take (i := 8) (oi := { dst := some 175, op := Op.move (Operand.tmp 23), type := 23, pos := "outright.go:188", after := #[], guard := none }) (v := u23) rfl (by kernel_rfl) (by kernel_rfl) (by kernel_rfl) (fun _ _ _ h => h) (Or.inl ⟨by rfl, by intro w2 hSw; (try dsimp only at hSw); have e0 := (hSw.cell (p := ⟨b, o + k * 2, none⟩) (Nat.lt_of_lt_of_eq (lt_of_cell c0) HN3.out.symm)).trans c0; have e1 := (hSw.cell (p := ⟨b, o + k * 2 + 1, none⟩) (Nat.lt_of_lt_of_eq (lt_of_cell c1) HN3.out.symm)).trans c1; go_simp⟩) hS0 ?_
       try simp only [Act.put, List.setIfInBounds_toArray, List.set_cons_zero, List.set_cons_succ]
       refine wpAnyH_take (i := 9) (oi := { dst := some 176, op := Op.move (Operand.tmp 19), type := 22, pos := "outright.go:188", after := #[], guard := none }) (v := .slice (some ⟨b, o, none⟩) m3 cpr) rfl (by kernel_rfl) (by kernel_rfl) (by kernel_rfl) (fun _ _ _ h => h) (Or.inl ⟨by rfl, by intro w2 hSw; (try dsimp only at hSw); have e0 := (hSw.cell (p := ⟨b, o + k * 2, none⟩) (Nat.lt_of_lt_of_eq (lt_of_cell c0) HN3.out.symm)).trans c0; have e1 := (hSw.cell (p := ⟨b, o + k * 2 + 1, none⟩) (Nat.lt_of_lt_of_eq (lt_of_cell c1) HN3.out.symm)).trans c1; go_simp⟩) hS0 ?_
       try simp only [Act.put, List.setIfInBounds_toArray, List.set_cons_zero, List.set_cons_succ]
       refine wpAnyH_take (i := 10) (oi := { dst := some 177, op := Op.move (Operand.tmp 24), type := 3, pos := "outright.go:188", after := #[], guard := none }) (v := .int .i64 (k : Int)) rfl (by kernel_rfl) (by kernel_rfl) (by kernel_rfl) (fun _ _ _ h => h) (Or.inl ⟨by rfl, by intro w2 hSw; (try dsimp only at hSw); have e0 := (hSw.cell (p := ⟨b, o + k * 2, none⟩) (Nat.lt_of_lt_of_eq (lt_of_cell c0) HN3.out.symm)).trans c0; have e1 := (hSw.cell (p := ⟨b, o + k * 2 + 1, none⟩) (Nat.lt_of_lt_of_eq (lt_of_cell c1) HN3.out.symm)).trans c1; go_simp⟩) hS0 ?_
       try simp only [Act.put, List.setIfInBounds_toArray, List.set_cons_zero, List.set_cons_succ]
       refine wpAnyH_take (i := 11) (oi := { dst := some 178, op := Op.indexAddr 22 (Operand.tmp 176) (Operand.tmp 177), type := 0, pos := "outright.go:188", after := #[{ on := 9, ground := Ground.data }, { on := 10, ground := Ground.data }], guard := none }) (v := .pointer (some ⟨b, o + k * 2, none⟩)) rfl (by kernel_rfl) (by kernel_rfl) (by kernel_rfl) (fun _ _ _ h => h) (Or.inl ⟨by rfl, by intro w2 hSw; (try dsimp only at hSw); have e0 := (hSw.cell (p := ⟨b, o + k * 2, none⟩) (Nat.lt_of_lt_of_eq (lt_of_cell c0) HN3.out.symm)).trans c0; have e1 := (hSw.cell (p := ⟨b, o + k * 2 + 1, none⟩) (Nat.lt_of_lt_of_eq (lt_of_cell c1) HN3.out.symm)).trans c1; go_simp⟩) hS0 ?_
       try simp only [Act.put, List.setIfInBounds_toArray, List.set_cons_zero, List.set_cons_succ]
       refine wpAnyH_take (i := 12) (oi := { dst := some 179, op := Op.fieldAddr 56 (Operand.tmp 178) 1, type := 0, pos := "outright.go:188", after := #[{ on := 11, ground := Ground.data }], guard := none }) (v := .pointer (some ⟨b, o + k * 2 + 1, none⟩)) rfl (by kernel_rfl) (by kernel_rfl) (by kernel_rfl) (fun _ _ _ h => h) (Or.inl ⟨by rfl, by intro w2 hSw; (try dsimp only at hSw); have e0 := (hSw.cell (p := ⟨b, o + k * 2, none⟩) (Nat.lt_of_lt_of_eq (lt_of_cell c0) HN3.out.symm)).trans c0; have e1 := (hSw.cell (p := ⟨b, o + k * 2 + 1, none⟩) (Nat.lt_of_lt_of_eq (lt_of_cell c1) HN3.out.symm)).trans c1; go_simp⟩) hS0 ?_
       try simp only [Act.put, List.setIfInBounds_toArray, List.set_cons_zero, List.set_cons_succ]
       refine wpAnyH_take (i := 13) (oi := { dst := some 180, op := Op.load 2 (Operand.tmp 179), type := 2, pos := "outright.go:188", after := #[{ on := 12, ground := Ground.data }], guard := none }) (v := .int .i64 hi) rfl (by kernel_rfl) (by kernel_rfl) (by kernel_rfl) (fun _ _ _ h => h) (Or.inl ⟨by rfl, by intro w2 hSw; (try dsimp only at hSw); have e0 := (hSw.cell (p := ⟨b, o + k * 2, none⟩) (Nat.lt_of_lt_of_eq (lt_of_cell c0) HN3.out.symm)).trans c0; have e1 := (hSw.cell (p := ⟨b, o + k * 2 + 1, none⟩) (Nat.lt_of_lt_of_eq (lt_of_cell c1) HN3.out.symm)).trans c1; go_simp⟩) hS0 ?_
       try simp only [Act.put, List.setIfInBounds_toArray, List.set_cons_zero, List.set_cons_succ]
       have hoa : wk.drew.ownsRow 0 2 1 u22 k (flatI (tkI x k)) := hoa
       have hob : wk.drew.ownsRow 0 2 1 u23 k (flatI (tkI y k)) := hob
       generalize wk.drew = V0 at hS0 hoa hob ⊢
       have hV0 := hS0
       clear hS0
       refine wpAnyH_ready (rs := [6, 14]) (by kernel_rfl) (by simp) ?_
       refine AllReadyH.cons (o := { dst := some 173, op := Op.buildSlice 23 1 #[(0, Operand.tmp 172)], type := 23, pos := "outright.go:188", after := #[{ on := 5, ground := Ground.data }], guard := none }) rfl (fun K2 hK => ?_) ?_
       ·go_simp
        have hs9 : N3 ≤ V0.heap.size := by have := hV0.size; have := HN3.out; omega
        refine hK.out _ _ (hV0.trans ((below_alloc_ _ _).mono hs9)) (fun hV1 => ?_)
        clear hK K2
        have hza := heap_alloc_new_ V0 (.cells #[.int .i64 lo] 2)
        have hb := below_alloc_ V0 (.cells #[.int .i64 lo] 2)
        have hnaa := Lib.hid (show ∀ j, u22.ownBlock = some j → j ≠ V0.heap.size from fun j e e2 => by have := own_lt hoa j e; omega)
        have hnba := Lib.hid (show ∀ j, u23.ownBlock = some j → j ≠ V0.heap.size from fun j e e2 => by have := own_lt hob j e; omega)
        replace hoa := own_keep hoa (Keeps.of_new (Mut := fun _ => False) hb) (fun _ _ e => e)
        replace hob := own_keep hob (Keeps.of_new (Mut := fun _ => False) hb) (fun _ _ e => e)
        generalize V0.alloc (.cells #[.int .i64 lo] 2) = V1 at *
        obtain ⟨Za, hZ⟩ : ∃ Za, V0.heap.size = Za := ⟨_, rfl⟩
        rw [hZ] at hza hnaa hnba ⊢
        clear hZ hb hs9
        try simp only [Act.put, List.setIfInBounds_toArray, List.set_cons_zero, List.set_cons_succ]
        refine wpAnyH_ready (rs := [7, 14]) (by kernel_rfl) (by simp) ?_
        refine AllReadyH.cons (o := { dst := some 174, op := Op.call { callee := Callee.builtin Builtin.append, args := #[Operand.tmp 167, Operand.tmp 173], argTypes := #[23, 23] }, type := 23, pos := "outright.go:188", after := #[{ on := 0, ground := Ground.data }, { on := 6, ground := Ground.data }], guard := none }) rfl (fun K2 hK => ?_) ?_
        ·have hs9 : N3 ≤ V1.heap.size := by have := hV1.size; have := HN3.out; omega
         obtain ⟨vva, V2, hap, hqa, hqb, hD2, hbl2, hB9, hkp⟩ := app_two hoa hob hD hza Hba.out hs9 (by omega)
         have hrun := run_app hap
         clear hap
         have hV2h := Lib.hid (hV1.trans hB9)
         replace hoa := hqa
         replace hob := hqb
         replace hD : ∀ j, vva.ownBlock = some j → u23.ownBlock ≠ some j := hD2
         have Hba := Lib.hid hbl2
         have Hoa := Lib.hid hoa
         have Hob := Lib.hid hob
         have HD := Lib.hid hD
         clear hqa hqb hD2 hbl2 hB9 hkp hs9 hoa hob hD hza
         go_simp
         try rw [hrun]
         try go_simp
         refine hK.out _ _ hV2h.out (fun hV2 => ?_)
         clear hK K2 hrun hV2h
         have hoa := Hoa.out
         have hob := Hob.out
         have hD := HD.out
         clear Hoa Hob HD
         try simp only [Act.put, List.setIfInBounds_toArray, List.set_cons_zero, List.set_cons_succ]
         refine wpAnyH_ready (rs := [14]) (by kernel_rfl) (by simp) ?_
         refine AllReadyH.cons (o := { dst := some 181, op := Op.buildSlice 23 1 #[(0, Operand.tmp 180)], type := 23, pos := "outright.go:188", after := #[{ on := 13, ground := Ground.data }], guard := none }) rfl (fun K2 hK => ?_) ?_
         ·go_simp
          have hs9 : N3 ≤ V2.heap.size := by have := hV2.size; have := HN3.out; omega
          refine hK.out _ _ (hV2.trans ((below_alloc_ _ _).mono hs9)) (fun hV3 => ?_)
          clear hK K2
          have hzb := heap_alloc_new_ V2 (.cells #[.int .i64 hi] 2)
          have hb := below_alloc_ V2 (.cells #[.int .i64 hi] 2)
          have hnbb := Lib.hid (show ∀ j, u23.ownBlock = some j → j ≠ V2.heap.size from fun j e e2 => by have := own_lt hob j e; omega)
          replace hoa := own_keep hoa (Keeps.of_new (Mut := fun _ => False) hb) (fun _ _ e => e)
          replace hob := own_keep hob (Keeps.of_new (Mut := fun _ => False) hb) (fun _ _ e => e)
          generalize V2.alloc (.cells #[.int .i64 hi] 2) = V3 at *
          obtain ⟨Zb, hZ⟩ : ∃ Zb, V2.heap.size = Zb := ⟨_, rfl⟩
          rw [hZ] at hzb hnbb ⊢
          clear hZ hb hs9
          try simp only [Act.put, List.setIfInBounds_toArray, List.set_cons_zero, List.set_cons_succ]
          refine wpAnyH_ready (rs := [15]) (by kernel_rfl) (by simp) ?_
          refine AllReadyH.cons (o := { dst := some 182, op := Op.call { callee := Callee.builtin Builtin.append, args := #[Operand.tmp 175, Operand.tmp 181], argTypes := #[23, 23] }, type := 23, pos := "outright.go:188", after := #[{ on := 8, ground := Ground.data }, { on := 14, ground := Ground.data }, { on := 7, ground := Ground.chain }], guard := none }) rfl (fun K2 hK => ?_) ?_
          ·have hs9 : N3 ≤ V3.heap.size := by have := hV3.size; have := HN3.out; omega
           obtain ⟨vvb, V4, hap, hqb, hqa, hD2, hbl2, hB9, hkp⟩ := app_two hob hoa (fun j e e2 => hD j e2 e) hzb Hbb.out hs9 (by omega)
           have hrun := run_app hap
           clear hap
           have hV4h := Lib.hid (hV3.trans hB9)
           replace hob := hqb
           replace hoa := hqa
           replace hD : ∀ j, vva.ownBlock = some j → vvb.ownBlock ≠ some j := fun j e e2 => hD2 j e2 e
           have Hbb := Lib.hid hbl2
           have Hoa := Lib.hid hoa
           have Hob := Lib.hid hob
           have HD := Lib.hid hD
           clear hqb hqa hD2 hbl2 hB9 hkp hs9 hoa hob hD hzb
           go_simp
           try rw [hrun]
           try go_simp
           refine hK.out _ _ hV4h.out (fun hV4 => ?_)
           clear hK K2 hrun hV4h
           have hoa := Hoa.out
           have hob := Hob.out
           have hD := HD.out
           clear Hoa Hob HD
           try simp only [Act.put, List.setIfInBounds_toArray, List.set_cons_zero, List.set_cons_succ]
           refine wpAnyH_take (i := 16) (oi := { dst := some 22, op := Op.assign (Operand.tmp 174), type := 23, pos := "outright.go:188", after := #[{ on := 7, ground := Ground.data }, { on := 15, ground := Ground.chain }, { on := 0, ground := Ground.phase }, { on := 1, ground := Ground.phase }, { on := 2, ground := Ground.phase }, { on := 3, ground := Ground.phase }, { on := 4, ground := Ground.phase }, { on := 5, ground := Ground.phase }, { on := 6, ground := Ground.phase }, { on := 7, ground := Ground.phase }, { on := 8, ground := Ground.textOnly Departure.lateStores }, { on := 9, ground := Ground.textOnly Departure.lateStores }, { on := 10, ground := Ground.textOnly Departure.lateStores }, { on := 11, ground := Ground.textOnly Departure.lateStores }, { on := 12, ground := Ground.textOnly Departure.lateStores }, { on := 13, ground := Ground.textOnly Departure.lateStores }, { on := 14, ground := Ground.textOnly Departure.lateStores }, { on := 15, ground := Ground.textOnly Departure.lateStoresUnsure }], guard := none }) (v := vva) rfl (by kernel_rfl) (by kernel_rfl) (by kernel_rfl) (fun _ _ _ h => h) (Or.inl ⟨by rfl, by intro w2 hSw; (try dsimp only at hSw);  go_simp⟩) hV4 ?_
           try simp only [Act.put, List.setIfInBounds_toArray, List.set_cons_zero, List.set_cons_succ]
           refine wpAnyH_take (i := 17) (oi := { dst := some 23, op := Op.assign (Operand.tmp 182), type := 23, pos := "outright.go:188", after := #[{ on := 15, ground := Ground.data }, { on := 16, ground := Ground.chain }, { on := 0, ground := Ground.phase }, { on := 1, ground := Ground.phase }, { on := 2, ground := Ground.phase }, { on := 3, ground := Ground.phase }, { on := 4, ground := Ground.phase }, { on := 5, ground := Ground.phase }, { on := 6, ground := Ground.phase }, { on := 7, ground := Ground.phase }, { on := 8, ground := Ground.phase }, { on := 9, ground := Ground.phase }, { on := 10, ground := Ground.phase }, { on := 11, ground := Ground.phase }, { on := 12, ground := Ground.phase }, { on := 13, ground := Ground.phase }, { on := 14, ground := Ground.phase }, { on := 15, ground := Ground.phase }, { on := 16, ground := Ground.phase }], guard := none }) (v := vvb) rfl (by kernel_rfl) (by kernel_rfl) (by kernel_rfl) (fun _ _ _ h => h) (Or.inl ⟨by rfl, by intro w2 hSw; (try dsimp only at hSw);  go_simp⟩) hV4 ?_
           try simp only [Act.put, List.setIfInBounds_toArray, List.set_cons_zero, List.set_cons_succ]
           have Hoa := Lib.hid hoa
           have Hob := Lib.hid hob
           have HD := Lib.hid hD
           have HS9 := Lib.hid hV4
           clear hoa hob hD
           refine wpAnyH_done (by kernel_rfl) ?_ _
           go_wp2_with fail
           go_roundw
           case rel => exact ⟨k + 1, by omega, by go_num, by rw [Hkx.out, flatI_snoc]; exact Hoa.out, by rw [Hky.out, flatI_snoc]; exact Hob.out, HD.out, Hba.out, Hbb.out, by rw [← hw3]; exact HS9.out⟩
           case measure => simp [intOf]; omega
          exact AllReadyH.nil
         exact AllReadyH.nil
        refine AllReadyH.cons (o := { dst := some 181, op := Op.buildSlice 23 1 #[(0, Operand.tmp 180)], type := 23, pos := "outright.go:188", after := #[{ on := 13, ground := Ground.data }], guard := none }) rfl (fun K2 hK => ?_) ?_
        ·go_simp
         have hs9 : N3 ≤ V1.heap.size := by have := hV1.size; have := HN3.out; omega
         refine hK.out _ _ (hV1.trans ((below_alloc_ _ _).mono hs9)) (fun hV2 => ?_)
         clear hK K2
         have hzb := heap_alloc_new_ V1 (.cells #[.int .i64 hi] 2)
         have hb := below_alloc_ V1 (.cells #[.int .i64 hi] 2)
         replace hza := (hb.block _ (lt_of_block hza)).trans hza
         have hnab := Lib.hid (show ∀ j, u22.ownBlock = some j → j ≠ V1.heap.size from fun j e e2 => by have := own_lt hoa j e; omega)
         have hnbb := Lib.hid (show ∀ j, u23.ownBlock = some j → j ≠ V1.heap.size from fun j e e2 => by have := own_lt hob j e; omega)
         replace hoa := own_keep hoa (Keeps.of_new (Mut := fun _ => False) hb) (fun _ _ e => e)
         replace hob := own_keep hob (Keeps.of_new (Mut := fun _ => False) hb) (fun _ _ e => e)
         generalize V1.alloc (.cells #[.int .i64 hi] 2) = V2 at *
         obtain ⟨Zb, hZ⟩ : ∃ Zb, V1.heap.size = Zb := ⟨_, rfl⟩
         rw [hZ] at hzb hnab hnbb ⊢
         clear hZ hb hs9
         try simp only [Act.put, List.setIfInBounds_toArray, List.set_cons_zero, List.set_cons_succ]
         refine wpAnyH_ready (rs := [7]) (by kernel_rfl) (by simp) ?_
         refine AllReadyH.cons (o := { dst := some 174, op := Op.call { callee := Callee.builtin Builtin.append, args := #[Operand.tmp 167, Operand.tmp 173], argTypes := #[23, 23] }, type := 23, pos := "outright.go:188", after := #[{ on := 0, ground := Ground.data }, { on := 6, ground := Ground.data }], guard := none }) rfl (fun K2 hK => ?_) ?_
         ·have hs9 : N3 ≤ V2.heap.size := by have := hV2.size; have := HN3.out; omega
          obtain ⟨vva, V3, hap, hqa, hqb, hD2, hbl2, hB9, hkp⟩ := app_two hoa hob hD hza Hba.out hs9 (by omega)
          have hrun := run_app hap
          clear hap
          replace hzb := hkp _ _ hzb (fun e => hnab.out _ e rfl)
          have hV3h := Lib.hid (hV2.trans hB9)
          replace hoa := hqa
          replace hob := hqb
          replace hD : ∀ j, vva.ownBlock = some j → u23.ownBlock ≠ some j := hD2
          have Hba := Lib.hid hbl2
          have Hoa := Lib.hid hoa
          have Hob := Lib.hid hob
          have HD := Lib.hid hD
          have Hzb := Lib.hid hzb
          clear hzb
          clear hqa hqb hD2 hbl2 hB9 hkp hs9 hoa hob hD hza
          go_simp
          try rw [hrun]
          try go_simp
          refine hK.out _ _ hV3h.out (fun hV3 => ?_)
          clear hK K2 hrun hV3h
          have hoa := Hoa.out
          have hob := Hob.out
          have hD := HD.out
          clear Hoa Hob HD
          have hzb := Hzb.out
          clear Hzb
          try simp only [Act.put, List.setIfInBounds_toArray, List.set_cons_zero, List.set_cons_succ]
          refine wpAnyH_ready (rs := [15]) (by kernel_rfl) (by simp) ?_
          refine AllReadyH.cons (o := { dst := some 182, op := Op.call { callee := Callee.builtin Builtin.append, args := #[Operand.tmp 175, Operand.tmp 181], argTypes := #[23, 23] }, type := 23, pos := "outright.go:188", after := #[{ on := 8, ground := Ground.data }, { on := 14, ground := Ground.data }, { on := 7, ground := Ground.chain }], guard := none }) rfl (fun K2 hK => ?_) ?_
          ·have hs9 : N3 ≤ V3.heap.size := by have := hV3.size; have := HN3.out; omega
           obtain ⟨vvb, V4, hap, hqb, hqa, hD2, hbl2, hB9, hkp⟩ := app_two hob hoa (fun j e e2 => hD j e2 e) hzb Hbb.out hs9 (by omega)
           have hrun := run_app hap
           clear hap
           have hV4h := Lib.hid (hV3.trans hB9)
           replace hob := hqb
           replace hoa := hqa
           replace hD : ∀ j, vva.ownBlock = some j → vvb.ownBlock ≠ some j := fun j e e2 => hD2 j e2 e
           have Hbb := Lib.hid hbl2
           have Hoa := Lib.hid hoa
           have Hob := Lib.hid hob
           have HD := Lib.hid hD
           clear hqb hqa hD2 hbl2 hB9 hkp hs9 hoa hob hD hzb
           go_simp
           try rw [hrun]
           try go_simp
           refine hK.out _ _ hV4h.out (fun hV4 => ?_)
           clear hK K2 hrun hV4h
           have hoa := Hoa.out
           have hob := Hob.out
           have hD := HD.out
           clear Hoa Hob HD
           try simp only [Act.put, List.setIfInBounds_toArray, List.set_cons_zero, List.set_cons_succ]
           refine wpAnyH_take (i := 16) (oi := { dst := some 22, op := Op.assign (Operand.tmp 174), type := 23, pos := "outright.go:188", after := #[{ on := 7, ground := Ground.data }, { on := 15, ground := Ground.chain }, { on := 0, ground := Ground.phase }, { on := 1, ground := Ground.phase }, { on := 2, ground := Ground.phase }, { on := 3, ground := Ground.phase }, { on := 4, ground := Ground.phase }, { on := 5, ground := Ground.phase }, { on := 6, ground := Ground.phase }, { on := 7, ground := Ground.phase }, { on := 8, ground := Ground.textOnly Departure.lateStores }, { on := 9, ground := Ground.textOnly Departure.lateStores }, { on := 10, ground := Ground.textOnly Departure.lateStores }, { on := 11, ground := Ground.textOnly Departure.lateStores }, { on := 12, ground := Ground.textOnly Departure.lateStores }, { on := 13, ground := Ground.textOnly Departure.lateStores }, { on := 14, ground := Ground.textOnly Departure.lateStores }, { on := 15, ground := Ground.textOnly Departure.lateStoresUnsure }], guard := none }) (v := vva) rfl (by kernel_rfl) (by kernel_rfl) (by kernel_rfl) (fun _ _ _ h => h) (Or.inl ⟨by rfl, by intro w2 hSw; (try dsimp only at hSw);  go_simp⟩) hV4 ?_
           try simp only [Act.put, List.setIfInBounds_toArray, List.set_cons_zero, List.set_cons_succ]
           refine wpAnyH_take (i := 17) (oi := { dst := some 23, op := Op.assign (Operand.tmp 182), type := 23, pos := "outright.go:188", after := #[{ on := 15, ground := Ground.data }, { on := 16, ground := Ground.chain }, { on := 0, ground := Ground.phase }, { on := 1, ground := Ground.phase }, { on := 2, ground := Ground.phase }, { on := 3, ground := Ground.phase }, { on := 4, ground := Ground.phase }, { on := 5, ground := Ground.phase }, { on := 6, ground := Ground.phase }, { on := 7, ground := Ground.phase }, { on := 8, ground := Ground.phase }, { on := 9, ground := Ground.phase }, { on := 10, ground := Ground.phase }, { on := 11, ground := Ground.phase }, { on := 12, ground := Ground.phase }, { on := 13, ground := Ground.phase }, { on := 14, ground := Ground.phase }, { on := 15, ground := Ground.phase }, { on := 16, ground := Ground.phase }], guard := none }) (v := vvb) rfl (by kernel_rfl) (by kernel_rfl) (by kernel_rfl) (fun _ _ _ h => h) (Or.inl ⟨by rfl, by intro w2 hSw; (try dsimp only at hSw);  go_simp⟩) hV4 ?_
           try simp only [Act.put, List.setIfInBounds_toArray, List.set_cons_zero, List.set_cons_succ]
           have Hoa := Lib.hid hoa
           have Hob := Lib.hid hob
           have HD := Lib.hid hD
           have HS9 := Lib.hid hV4
           clear hoa hob hD
           refine wpAnyH_done (by kernel_rfl) ?_ _
           go_wp2_with fail
           go_roundw
           case rel => exact ⟨k + 1, by omega, by go_num, by rw [Hkx.out, flatI_snoc]; exact Hoa.out, by rw [Hky.out, flatI_snoc]; exact Hob.out, HD.out, Hba.out, Hbb.out, by rw [← hw3]; exact HS9.out⟩
           case measure => simp [intOf]; omega
          exact AllReadyH.nil
         exact AllReadyH.nil
        exact AllReadyH.nil
       refine AllReadyH.cons (o := { dst := some 181, op := Op.buildSlice 23 1 #[(0, Operand.tmp 180)], type := 23, pos := "outright.go:188", after := #[{ on := 13, ground := Ground.data }], guard := none }) rfl (fun K2 hK => ?_) ?_
       ·go_simp
        have hs9 : N3 ≤ V0.heap.size := by have := hV0.size; have := HN3.out; omega
        refine hK.out _ _ (hV0.trans ((below_alloc_ _ _).mono hs9)) (fun hV1 => ?_)
        clear hK K2
        have hzb := heap_alloc_new_ V0 (.cells #[.int .i64 hi] 2)
        have hb := below_alloc_ V0 (.cells #[.int .i64 hi] 2)
        have hnab := Lib.hid (show ∀ j, u22.ownBlock = some j → j ≠ V0.heap.size from fun j e e2 => by have := own_lt hoa j e; omega)
        have hnbb := Lib.hid (show ∀ j, u23.ownBlock = some j → j ≠ V0.heap.size from fun j e e2 => by have := own_lt hob j e; omega)
        replace hoa := own_keep hoa (Keeps.of_new (Mut := fun _ => False) hb) (fun _ _ e => e)
        replace hob := own_keep hob (Keeps.of_new (Mut := fun _ => False) hb) (fun _ _ e => e)
        generalize V0.alloc (.cells #[.int .i64 hi] 2) = V1 at *
        obtain ⟨Zb, hZ⟩ : ∃ Zb, V0.heap.size = Zb := ⟨_, rfl⟩
        rw [hZ] at hzb hnab hnbb ⊢
        clear hZ hb hs9
        try simp only [Act.put, List.setIfInBounds_toArray, List.set_cons_zero, List.set_cons_succ]
        refine wpAnyH_ready (rs := [6]) (by kernel_rfl) (by simp) ?_
        refine AllReadyH.cons (o := { dst := some 173, op := Op.buildSlice 23 1 #[(0, Operand.tmp 172)], type := 23, pos := "outright.go:188", after := #[{ on := 5, ground := Ground.data }], guard := none }) rfl (fun K2 hK => ?_) ?_
        ·go_simp
         have hs9 : N3 ≤ V1.heap.size := by have := hV1.size; have := HN3.out; omega
         refine hK.out _ _ (hV1.trans ((below_alloc_ _ _).mono hs9)) (fun hV2 => ?_)
         clear hK K2
         have hza := heap_alloc_new_ V1 (.cells #[.int .i64 lo] 2)
         have hb := below_alloc_ V1 (.cells #[.int .i64 lo] 2)
         replace hzb := (hb.block _ (lt_of_block hzb)).trans hzb
         have hnaa := Lib.hid (show ∀ j, u22.ownBlock = some j → j ≠ V1.heap.size from fun j e e2 => by have := own_lt hoa j e; omega)
         have hnba := Lib.hid (show ∀ j, u23.ownBlock = some j → j ≠ V1.heap.size from fun j e e2 => by have := own_lt hob j e; omega)
         replace hoa := own_keep hoa (Keeps.of_new (Mut := fun _ => False) hb) (fun _ _ e => e)
         replace hob := own_keep hob (Keeps.of_new (Mut := fun _ => False) hb) (fun _ _ e => e)
         generalize V1.alloc (.cells #[.int .i64 lo] 2) = V2 at *
         obtain ⟨Za, hZ⟩ : ∃ Za, V1.heap.size = Za := ⟨_, rfl⟩
         rw [hZ] at hza hnaa hnba ⊢
         clear hZ hb hs9
         try simp only [Act.put, List.setIfInBounds_toArray, List.set_cons_zero, List.set_cons_succ]
         refine wpAnyH_ready (rs := [7]) (by kernel_rfl) (by simp) ?_
         refine AllReadyH.cons (o := { dst := some 174, op := Op.call { callee := Callee.builtin Builtin.append, args := #[Operand.tmp 167, Operand.tmp 173], argTypes := #[23, 23] }, type := 23, pos := "outright.go:188", after := #[{ on := 0, ground := Ground.data }, { on := 6, ground := Ground.data }], guard := none }) rfl (fun K2 hK => ?_) ?_
         ·have hs9 : N3 ≤ V2.heap.size := by have := hV2.size; have := HN3.out; omega
          obtain ⟨vva, V3, hap, hqa, hqb, hD2, hbl2, hB9, hkp⟩ := app_two hoa hob hD hza Hba.out hs9 (by omega)
          have hrun := run_app hap
          clear hap
          replace hzb := hkp _ _ hzb (fun e => hnab.out _ e rfl)
          have hV3h := Lib.hid (hV2.trans hB9)
          replace hoa := hqa
          replace hob := hqb
          replace hD : ∀ j, vva.ownBlock = some j → u23.ownBlock ≠ some j := hD2
          have Hba := Lib.hid hbl2
          have Hoa := Lib.hid hoa
          have Hob := Lib.hid hob
          have HD := Lib.hid hD
          have Hzb := Lib.hid hzb
          clear hzb
          clear hqa hqb hD2 hbl2 hB9 hkp hs9 hoa hob hD hza
          go_simp
          try rw [hrun]
          try go_simp
          refine hK.out _ _ hV3h.out (fun hV3 => ?_)
          clear hK K2 hrun hV3h
          have hoa := Hoa.out
          have hob := Hob.out
          have hD := HD.out
          clear Hoa Hob HD
          have hzb := Hzb.out
          clear Hzb
          try simp only [Act.put, List.setIfInBounds_toArray, List.set_cons_zero, List.set_cons_succ]
          refine wpAnyH_ready (rs := [15]) (by kernel_rfl) (by simp) ?_
          refine AllReadyH.cons (o := { dst := some 182, op := Op.call { callee := Callee.builtin Builtin.append, args := #[Operand.tmp 175, Operand.tmp 181], argTypes := #[23, 23] }, type := 23, pos := "outright.go:188", after := #[{ on := 8, ground := Ground.data }, { on := 14, ground := Ground.data }, { on := 7, ground := Ground.chain }], guard := none }) rfl (fun K2 hK => ?_) ?_
          ·have hs9 : N3 ≤ V3.heap.size := by have := hV3.size; have := HN3.out; omega
           obtain ⟨vvb, V4, hap, hqb, hqa, hD2, hbl2, hB9, hkp⟩ := app_two hob hoa (fun j e e2 => hD j e2 e) hzb Hbb.out hs9 (by omega)
           have hrun := run_app hap
           clear hap
           have hV4h := Lib.hid (hV3.trans hB9)
           replace hob := hqb
           replace hoa := hqa
           replace hD : ∀ j, vva.ownBlock = some j → vvb.ownBlock ≠ some j := fun j e e2 => hD2 j e2 e
           have Hbb := Lib.hid hbl2
           have Hoa := Lib.hid hoa
           have Hob := Lib.hid hob
           have HD := Lib.hid hD
           clear hqb hqa hD2 hbl2 hB9 hkp hs9 hoa hob hD hzb
           go_simp
           try rw [hrun]
           try go_simp
           refine hK.out _ _ hV4h.out (fun hV4 => ?_)
           clear hK K2 hrun hV4h
           have hoa := Hoa.out
           have hob := Hob.out
           have hD := HD.out
           clear Hoa Hob HD
           try simp only [Act.put, List.setIfInBounds_toArray, List.set_cons_zero, List.set_cons_succ]
           refine wpAnyH_take (i := 16) (oi := { dst := some 22, op := Op.assign (Operand.tmp 174), type := 23, pos := "outright.go:188", after := #[{ on := 7, ground := Ground.data }, { on := 15, ground := Ground.chain }, { on := 0, ground := Ground.phase }, { on := 1, ground := Ground.phase }, { on := 2, ground := Ground.phase }, { on := 3, ground := Ground.phase }, { on := 4, ground := Ground.phase }, { on := 5, ground := Ground.phase }, { on := 6, ground := Ground.phase }, { on := 7, ground := Ground.phase }, { on := 8, ground := Ground.textOnly Departure.lateStores }, { on := 9, ground := Ground.textOnly Departure.lateStores }, { on := 10, ground := Ground.textOnly Departure.lateStores }, { on := 11, ground := Ground.textOnly Departure.lateStores }, { on := 12, ground := Ground.textOnly Departure.lateStores }, { on := 13, ground := Ground.textOnly Departure.lateStores }, { on := 14, ground := Ground.textOnly Departure.lateStores }, { on := 15, ground := Ground.textOnly Departure.lateStoresUnsure }], guard := none }) (v := vva) rfl (by kernel_rfl) (by kernel_rfl) (by kernel_rfl) (fun _ _ _ h => h) (Or.inl ⟨by rfl, by intro w2 hSw; (try dsimp only at hSw);  go_simp⟩) hV4 ?_
           try simp only [Act.put, List.setIfInBounds_toArray, List.set_cons_zero, List.set_cons_succ]
           refine wpAnyH_take (i := 17) (oi := { dst := some 23, op := Op.assign (Operand.tmp 182), type := 23, pos := "outright.go:188", after := #[{ on := 15, ground := Ground.data }, { on := 16, ground := Ground.chain }, { on := 0, ground := Ground.phase }, { on := 1, ground := Ground.phase }, { on := 2, ground := Ground.phase }, { on := 3, ground := Ground.phase }, { on := 4, ground := Ground.phase }, { on := 5, ground := Ground.phase }, { on := 6, ground := Ground.phase }, { on := 7, ground := Ground.phase }, { on := 8, ground := Ground.phase }, { on := 9, ground := Ground.phase }, { on := 10, ground := Ground.phase }, { on := 11, ground := Ground.phase }, { on := 12, ground := Ground.phase }, { on := 13, ground := Ground.phase }, { on := 14, ground := Ground.phase }, { on := 15, ground := Ground.phase }, { on := 16, ground := Ground.phase }], guard := none }) (v := vvb) rfl (by kernel_rfl) (by kernel_rfl) (by kernel_rfl) (fun _ _ _ h => h) (Or.inl ⟨by rfl, by intro w2 hSw; (try dsimp only at hSw);  go_simp⟩) hV4 ?_
           try simp only [Act.put, List.setIfInBounds_toArray, List.set_cons_zero, List.set_cons_succ]
           have Hoa := Lib.hid hoa
           have Hob := Lib.hid hob
           have HD := Lib.hid hD
           have HS9 := Lib.hid hV4
           clear hoa hob hD
           refine wpAnyH_done (by kernel_rfl) ?_ _
           go_wp2_with fail
           go_roundw
           case rel => exact ⟨k + 1, by omega, by go_num, by rw [Hkx.out, flatI_snoc]; exact Hoa.out, by rw [Hky.out, flatI_snoc]; exact Hob.out, HD.out, Hba.out, Hbb.out, by rw [← hw3]; exact HS9.out⟩
           case measure => simp [intOf]; omega
          exact AllReadyH.nil
         exact AllReadyH.nil
        exact AllReadyH.nil
       exact AllReadyH.nil
      ·have e' : k = m3 := by omega
       subst e'
       have hxk : tkI x k = x := by have := tkI_all x; rwa [Hlx.out] at this
       have hyk : tkI y k = y := by have := tkI_all y; rwa [Hly.out] at this
       rw [hxk] at hoa
       rw [hyk] at hob
       obtain ⟨Ca, ca, rfl, hca, hia, -⟩ := ints_own Hlx.out hoa
       obtain ⟨Cb, cb, rfl, hcb, hib, -⟩ := ints_own Hly.out hob
       have hb : Below wc.heap.size wc wk := by rw [← HN3.out]; exact HS.out
       replace B1 := Lib.hid (B1.out.trans (hb.mono B1.out.size))
       replace X0 := Lib.hid ((hb.block _ (lt_of_block X0.out)).trans X0.out)
       replace F := Lib.hid (F.out.below hb (Nat.le_refl _))
       replace R := Lib.hid (R.out.below hb (Nat.le_refl _))
       replace PB := Lib.hid ((hb.block _ (lt_of_block PB.out)).trans PB.out)
       have LA := Lib.hid hia
       have LB := Lib.hid hib
       clear hb hoa hob hia hib hxk hyk hD Hba Hbb HS hca hcb hlt hk HN3
       go_wp2_with fail
       refine (by36 _ n cap zs C1 m1 cap1 us wk (S0.out.below B1.out (Nat.le_refl _)) (U0.out.below B1.out (Nat.le_refl _)) HZ.out hm1).mono ?_
       rintro en w14 ⟨z, Dz, cpz, hzc, rfl, hlz, hi, hf, hb⟩
       replace B1 := Lib.hid (B1.out.trans (hb.mono B1.out.size))
       replace X0 := Lib.hid ((hb.block _ (lt_of_block X0.out)).trans X0.out)
       replace F := Lib.hid (F.out.below hb (Nat.le_refl _))
       replace PB := Lib.hid ((hb.block _ (lt_of_block PB.out)).trans PB.out)
       replace LA := Lib.hid (LA.out.below hb (Nat.le_refl _))
       replace LB := Lib.hid (LB.out.below hb (Nat.le_refl _))
       obtain ⟨lz, hlz2⟩ : ∃ lz, z.length = lz := ⟨_, rfl⟩
       rw [hlz2] at hi
       rw [hlz2]
       have hlz24 : lz ≤ 24 := by have := ((ckSc_iff HZ.out).1 hzc).2.1; omega
       have LZ := Lib.hid hi
       clear hb hi hf hlz hlz2 hzc
       go_wp2_with fail
       have hrow := heap_alloc_new_ w14 (.cells #[.slice Ds k cps, .slice Ca k ca, .slice Cb k cb, .slice Dz lz cpz, .slice C2 m2 cap2] 23)
       have hb := below_alloc_ w14 (.cells #[.slice Ds k cps, .slice Ca k ca, .slice Cb k cb, .slice Dz lz cpz, .slice C2 m2 cap2] 23)
       obtain ⟨w15, hV⟩ : ∃ w15, w14.alloc (.cells #[.slice Ds k cps, .slice Ca k ca, .slice Cb k cb, .slice Dz lz cpz, .slice C2 m2 cap2] 23) = w15 := ⟨_, rfl⟩
       rw [hV] at hrow hb ⊢
       clear hV
       replace B1 := Lib.hid (B1.out.trans (hb.mono B1.out.size))
       replace X0 := Lib.hid ((hb.block _ (lt_of_block X0.out)).trans X0.out)
       replace F := Lib.hid (F.out.below hb (Nat.le_refl _))
       replace PB := Lib.hid ((hb.block _ (lt_of_block PB.out)).trans PB.out)
       replace LA := Lib.hid (LA.out.below hb (Nat.le_refl _))
       replace LB := Lib.hid (LB.out.below hb (Nat.le_refl _))
       replace LZ := Lib.hid (LZ.out.below hb (Nat.le_refl _))
       obtain ⟨Q, hQ⟩ : ∃ Q, w14.heap.size = Q := ⟨_, rfl⟩
       rw [hQ] at hrow ⊢
       have Row := Lib.hid hrow
       clear hb hQ hrow
       have HL := Lib.hid (show ∀ q : Nat, q < 5 → ∃ (Cg : Option Addr) (mg cg : Nat) (gs : List Int), w15.cell? ⟨Q, q, none⟩ = some (.slice Cg mg cg) ∧ Ints w15 Cg mg gs ∧ mg ≤ 9223372036854775807 from by
        intro q hq
        rcases (by omega : q = 0 ∨ q = 1 ∨ q = 2 ∨ q = 3 ∨ q = 4) with rfl | rfl | rfl | rfl | rfl
        ·exact ⟨Ds, k, cps, s, by rw [cell_row Row.out]; rfl, F.out, by omega⟩
        ·exact ⟨Ca, k, ca, x, by rw [cell_row Row.out]; rfl, LA.out, by omega⟩
        ·exact ⟨Cb, k, cb, y, by rw [cell_row Row.out]; rfl, LB.out, by omega⟩
        ·exact ⟨Dz, lz, cpz, z, by rw [cell_row Row.out]; rfl, LZ.out, by omega⟩
        ·exact ⟨C2, m2, cap2, gv, by rw [cell_row Row.out]; rfl, N0.out.below B1.out (Nat.le_refl _), hm2⟩)
       clear F LA LB LZ Row HNl
       go_loopw [26] (fun i wr => ∃ q : Nat, q ≤ 5 ∧ i = .int .i64 (q : Int) ∧ Below w15.heap.size w15 wr) (fun i _ => 5 - (intOf i).toNat)
       case atStart => exact ⟨0, by omega, rfl, Below.refl _ _⟩
       case round =>
        obtain ⟨q, hq, rfl, hB⟩ := hrel
        obtain ⟨wq, rfl⟩ : ∃ wq, wq = wr := ⟨_, rfl⟩
        have B7 := Lib.hid hB
        have B9 := Lib.hid (B1.out.trans (hB.mono B1.out.size))
        by_cases hlt : q < 5
        rotate_left
        ·clear HL
         go_wp2_with fail
         refine (works15 _).mono ?_
         rintro en wz ⟨rfl, hb9⟩
         replace B9 := Lib.hid (B9.out.trans (hb9.mono B9.out.size))
         clear hb9
         go_wp2_with fail
         go_ret
         exact ⟨rfl, B0.out.trans (B9.out.mono B0.out.size)⟩
        ·obtain ⟨Cg, mg, cg, gs, hcell, hgi, hgm⟩ := HL.out q hlt
         have c9 : wq.cell? ⟨Q, q, none⟩ = some (.slice Cg mg cg) := (hB.cell (p := ⟨Q, q, none⟩) (lt_of_cell hcell)).trans hcell
         have HC := Lib.hid hcell
         have G := Lib.hid (hgi.below hB (Nat.le_refl _))
         have S9 := Lib.hid (S0.out.below B9.out (Nat.le_refl _))
         have i0 : (0 : Int) ≤ (q : Int) := by omega
         have i1 : (q : Int) < 5 := by omega
         have d3 : (q : Int).toNat = q := by omega
         clear hB hcell hgi
         by_cases hmk : mg = k
         rotate_left
         ·have d5 : ((mg : Int) == (k : Int)) = false := by rw [beq_eq_false_iff_ne]; omega
          have d8 : (mg == k) = false := by rw [beq_eq_false_iff_ne]; exact hmk
          go_wp2_with fail
          go_roundw
          case rel => exact ⟨q + 1, by omega, by go_num, B7.out⟩
          case measure => simp [intOf]; omega
         ·have hmk' : k = mg := hmk.symm
          subst hmk'
          clear hmk
          go_wp2_with fail
          refine (refScale21 _ n cap zs Cg k cg gs wq S9.out G.out hn).mono ?_
          rintro en w16 ⟨rfl, hb⟩
          replace G := Lib.hid (G.out.below hb (Nat.le_refl _))
          replace B7 := Lib.hid (B7.out.trans (hb.mono B7.out.size))
          replace B9 := Lib.hid (B9.out.trans (hb.mono B9.out.size))
          clear hb
          by_cases he : ckSc zs gs = 0
          rotate_left
          ·obtain ⟨eg, heg⟩ : ∃ eg, ckSc zs gs = eg := ⟨_, rfl⟩
           rw [heg] at he ⊢
           have d7 : (eg == 0) = false := by rw [beq_eq_false_iff_ne]; exact he
           clear he heg
           go_wp2_with fail
           go_roundw
           case rel => exact ⟨q + 1, by omega, by go_num, B7.out⟩
           case measure => simp [intOf]; omega
          ·have ho9 := ON.out gs he (by have := G.out.1; have := Hls.out; omega)
           rw [he]
           clear he c9
           obtain ⟨on, hon⟩ : ∃ on, meets gs (comm g1 g2) = on := ⟨_, rfl⟩
           rw [hon] at ho9
           have Ho9 := Lib.hid ho9
           have hcm := fun W h => meets38 (comm g1 g2) Cg k cg gs W h (by omega)
           rw [hon] at hcm
           simp only [comm] at hcm
           clear hon ho9
           have c9 : w16.cell? ⟨Q, q, none⟩ = some (.slice Cg k cg) := (B7.out.cell (p := ⟨Q, q, none⟩) (lt_of_cell HC.out)).trans HC.out
           have rP := (B7.out.block _ (lt_of_block PB.out)).trans PB.out
           have rX := (B7.out.block _ (lt_of_block X0.out)).trans X0.out
           have p0 : w16.cell? ⟨Pb, 0, none⟩ = some (.int .i64 (max g1.lo g2.lo)) := by rw [cell_row rP]; rfl
           have p1 : w16.cell? ⟨Pb, 1, none⟩ = some (.int .i64 (min g1.hi g2.hi)) := by rw [cell_row rP]; rfl
           go_wp2_with fail
           refine wp_region_held_drew (S := fun w2 => Below w16.heap.size w16 w2) (by kernel_rfl) (drew_b _ _) (fun hS0 => ?_)
           refine wpAnyH_take (i := 0) (oi := { dst := some 212, op := Op.load 56 (Operand.tmp 21), type := 56, pos := "outright.go:195", after := #[], guard := none }) (v := .agg #[.int .i64 (max g1.lo g2.lo), .int .i64 (min g1.hi g2.hi)]) rfl (by kernel_rfl) (by kernel_rfl) (by kernel_rfl) (fun _ _ _ h => h) (Or.inl ⟨by rfl, by intro w2 hSw; (try dsimp only at hSw); have y0 := (hSw.cell (p := ⟨Pb, 0, none⟩) (lt_of_cell p0)).trans p0; have y1 := (hSw.cell (p := ⟨Pb, 1, none⟩) (lt_of_cell p1)).trans p1; have y2 := (hSw.cell (p := ⟨Q, q, none⟩) (lt_of_cell c9)).trans c9; go_simp⟩) hS0 ?_
           try simp only [Act.put, List.setIfInBounds_toArray, List.set_cons_zero, List.set_cons_succ]
           refine wpAnyH_take (i := 1) (oi := { dst := some 213, op := Op.move (Operand.tmp 25), type := 57, pos := "outright.go:195", after := #[], guard := none }) (v := .slice (some ⟨Q, 0, none⟩) 5 5) rfl (by kernel_rfl) (by kernel_rfl) (by kernel_rfl) (fun _ _ _ h => h) (Or.inl ⟨by rfl, by intro w2 hSw; (try dsimp only at hSw); have y0 := (hSw.cell (p := ⟨Pb, 0, none⟩) (lt_of_cell p0)).trans p0; have y1 := (hSw.cell (p := ⟨Pb, 1, none⟩) (lt_of_cell p1)).trans p1; have y2 := (hSw.cell (p := ⟨Q, q, none⟩) (lt_of_cell c9)).trans c9; go_simp⟩) hS0 ?_
           try simp only [Act.put, List.setIfInBounds_toArray, List.set_cons_zero, List.set_cons_succ]
           refine wpAnyH_take (i := 2) (oi := { dst := some 214, op := Op.move (Operand.tmp 26), type := 3, pos := "outright.go:195", after := #[], guard := none }) (v := .int .i64 (q : Int)) rfl (by kernel_rfl) (by kernel_rfl) (by kernel_rfl) (fun _ _ _ h => h) (Or.inl ⟨by rfl, by intro w2 hSw; (try dsimp only at hSw); have y0 := (hSw.cell (p := ⟨Pb, 0, none⟩) (lt_of_cell p0)).trans p0; have y1 := (hSw.cell (p := ⟨Pb, 1, none⟩) (lt_of_cell p1)).trans p1; have y2 := (hSw.cell (p := ⟨Q, q, none⟩) (lt_of_cell c9)).trans c9; go_simp⟩) hS0 ?_
           try simp only [Act.put, List.setIfInBounds_toArray, List.set_cons_zero, List.set_cons_succ]
           refine wpAnyH_take (i := 3) (oi := { dst := some 215, op := Op.indexAddr 57 (Operand.tmp 213) (Operand.tmp 214), type := 0, pos := "outright.go:195", after := #[{ on := 1, ground := Ground.data }, { on := 2, ground := Ground.data }], guard := none }) (v := .pointer (some ⟨Q, q, none⟩)) rfl (by kernel_rfl) (by kernel_rfl) (by kernel_rfl) (fun _ _ _ h => h) (Or.inl ⟨by rfl, by intro w2 hSw; (try dsimp only at hSw); have y0 := (hSw.cell (p := ⟨Pb, 0, none⟩) (lt_of_cell p0)).trans p0; have y1 := (hSw.cell (p := ⟨Pb, 1, none⟩) (lt_of_cell p1)).trans p1; have y2 := (hSw.cell (p := ⟨Q, q, none⟩) (lt_of_cell c9)).trans c9; go_simp⟩) hS0 ?_
           try simp only [Act.put, List.setIfInBounds_toArray, List.set_cons_zero, List.set_cons_succ]
           refine wpAnyH_take (i := 4) (oi := { dst := some 216, op := Op.load 23 (Operand.tmp 215), type := 23, pos := "outright.go:195", after := #[{ on := 3, ground := Ground.data }], guard := none }) (v := .slice Cg k cg) rfl (by kernel_rfl) (by kernel_rfl) (by kernel_rfl) (fun _ _ _ h => h) (Or.inl ⟨by rfl, by intro w2 hSw; (try dsimp only at hSw); have y0 := (hSw.cell (p := ⟨Pb, 0, none⟩) (lt_of_cell p0)).trans p0; have y1 := (hSw.cell (p := ⟨Pb, 1, none⟩) (lt_of_cell p1)).trans p1; have y2 := (hSw.cell (p := ⟨Q, q, none⟩) (lt_of_cell c9)).trans c9; go_simp⟩) hS0 ?_
           try simp only [Act.put, List.setIfInBounds_toArray, List.set_cons_zero, List.set_cons_succ]
           refine wpAnyH_ready (rs := [5]) (by kernel_rfl) (by simp) ?_
           refine AllReadyH.cons (o := { dst := some 217, op := Op.call { callee := Callee.value (Operand.func 38), args := #[Operand.tmp 212, Operand.tmp 216], argTypes := #[56, 23] }, type := 4, pos := "outright.go:195", after := #[{ on := 0, ground := Ground.data }, { on := 4, ground := Ground.data }], guard := none }) rfl (fun K2 hK => ?_) AllReadyH.nil
           go_simp
           refine (hcm _ (G.out.below hS0 (Nat.le_refl _))).mono ?_
           rintro e9 V1 ⟨rfl, hb6⟩
           try go_simp
           refine hK.out _ _ (hS0.trans (hb6.mono hS0.size)) (fun hS1 => ?_)
           clear hK K2 hb6
           try simp only [Act.put, List.setIfInBounds_toArray, List.set_cons_zero, List.set_cons_succ]
           refine wpAnyH_take (i := 6) (oi := { dst := some 27, op := Op.assign (Operand.tmp 217), type := 4, pos := "outright.go:195", after := #[{ on := 5, ground := Ground.data }, { on := 5, ground := Ground.chain }, { on := 0, ground := Ground.phase }, { on := 1, ground := Ground.phase }, { on := 2, ground := Ground.phase }, { on := 3, ground := Ground.phase }, { on := 4, ground := Ground.phase }, { on := 5, ground := Ground.phase }], guard := none }) (v := .bool on) rfl (by kernel_rfl) (by kernel_rfl) (by kernel_rfl) (fun _ _ _ h => h) (Or.inl ⟨by rfl, by intro w2 hSw; (try dsimp only at hSw); have y0 := (hSw.cell (p := ⟨Pb, 0, none⟩) (lt_of_cell p0)).trans p0; have y1 := (hSw.cell (p := ⟨Pb, 1, none⟩) (lt_of_cell p1)).trans p1; have y2 := (hSw.cell (p := ⟨Q, q, none⟩) (lt_of_cell c9)).trans c9; go_simp⟩) hS1 ?_
           try simp only [Act.put, List.setIfInBounds_toArray, List.set_cons_zero, List.set_cons_succ]
           refine wpAnyH_done (by kernel_rfl) ?_ _
           have B8 := Lib.hid (B7.out.trans (hS1.mono B7.out.size))
           have x0 : V1.cell? ⟨P0, 0, none⟩ = some (.bool false) := (hS1.cell (p := ⟨P0, 0, none⟩) (lt_of_block rX)).trans (by rw [cell_row rX]; rfl)
           have x1 : V1.cell? ⟨P0, 1, none⟩ = some (.bool false) := (hS1.cell (p := ⟨P0, 1, none⟩) (lt_of_block rX)).trans (by rw [cell_row rX]; rfl)
           clear hS1 hS0 p0 p1 c9 rP rX hcm
           obtain rfl : on = false := Ho9.out.2 (by simp)
           go_wp2_with fail
           go_roundw
           case rel => exact ⟨q + 1, by omega, by go_num, B8.out⟩
           case measure => simp [intOf]; omega
end Go.Proofs.Ytdfdlklglbefiaa
