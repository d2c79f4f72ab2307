/- Stage 3: Works. -/
import Derived.Test.YtdfdlklglbefiaaMos
import Derived.Test.YtdfdlklglbefiaaCka
import Derived.Test.YtdfdlklglbefiaaMet
import Derived.Test.YtdfdlklglbefiaaMis
namespace Go.Proofs.Ytdfdlklglbefiaa
set_option linter.unusedSimpArgs false
set_option linter.unusedVariables false

theorem songX_ok : chkS songX = 0 := by decide
theorem songX_up : IsUp songX [140, 310, 400] := ⟨[⟨100, 140⟩, ⟨190, 310⟩, ⟨320, 400⟩], ⟨by decide, by decide, by decide⟩, by decide⟩
theorem songX_dn : IsDn songX [100, 190, 320] := ⟨[⟨-400, -320⟩, ⟨-310, -190⟩, ⟨-140, -100⟩], ⟨by decide, by decide, by decide⟩, by decide⟩
theorem songX_short {x : List Int} (h : ShortR songX true x) : x = [140, 310, 400] := (h.up (ok_of songX_ok)).eq (ok_of songX_ok) songX_up
theorem songX_shortd {x : List Int} (h : ShortR songX false x) : x = [100, 190, 320] := (h.dn (chkS_ok songX_ok).1).eq (ok_of songX_ok) songX_dn
theorem songX_spans : spnL [100, 190, 320] [140, 310, 400] 3 = [⟨100, 140⟩, ⟨190, 310⟩, ⟨320, 400⟩] := by decide
theorem songX_sc1 : ckSc songX [130, 200, 320] = 0 := by decide
theorem songX_sc2 : ckSc songX [130, 320] = 19 := by decide
theorem songX_met : metR songX [130, 320] = [0, 1, 2, 4] ∧ isSc songX [130, 320] = 0 := by decide
theorem songX_len {a : Nat} (h : LenU songX a) : a = 3 := lenU_eq (ok_of songX_ok) h (up_lenU songX_up)
theorem songX_apart {x : List Int} (h : ApartR songX x) : ckAp songX x = 0 ∧ x.length = 3 := ⟨(apart_ok songX_ok h).1, songX_len (apart_ok songX_ok h).2⟩
theorem songX_most {st : List Int} {m : Int} (h : MostR songX 2 st m) : m = 4 := by
  have h1 := h.best [130, 320] (by unfold Incr; decide) (by decide)
  have e1 : cntM songX [130, 320] = 4 := by decide
  have h2 : cntM songX st ≤ 5 := List.countP_le_length
  have h3 : cntM songX st ≠ 5 := fun e => by
    have hr : right songX st := fun r hr => by
      have e2 : songX.countP (fun r => meets st r) = songX.length := e
      exact List.countP_eq_length.1 e2 r hr
    have := songX_up.len_le h.incr hr
    have := h.len
    simp at *
    omega
  rw [h.cnt]
  omega
theorem srR_ok {zs : List Rg} {i k : Int} {may must : Bool} {e : Int} (h : SrR zs i k may must e) (hc : chkS zs = 0) (hw : withI 0 ((zs.length : Int) - 1) [i, k] = true) (hk : okZ (comm (gAt zs i.toNat) (gAt zs k.toNat)) = true) {a b : Nat} (ha : LenU zs a) (hb : LenU (zs.set i.toNat (comm (gAt zs i.toNat) (gAt zs k.toNat))) b) (ho : Ok (zs.set i.toNat (comm (gAt zs i.toNat) (gAt zs k.toNat)))) :
    e = 0 ∧ may = decide (b = a) ∧ ((validZ (zs.map (woR (comm (gAt zs i.toNat) (gAt zs k.toNat)))) = false ∧ must = true) ∨
       (validZ (zs.map (woR (comm (gAt zs i.toNat) (gAt zs k.toNat)))) = true ∧ ∃ c, LenU (zs.map (woR (comm (gAt zs i.toNat) (gAt zs k.toNat)))) c ∧ must = decide (a < c))) := by
  rcases h with ⟨h1, _⟩ | ⟨_, h1, _⟩ | ⟨_, _, h1, _⟩ | ⟨_, _, _, he, a', b', ha', hb', hm, hx⟩
  · exact absurd hc h1
  · rw [hw] at h1; cases h1
  · rw [hk] at h1; cases h1
  · obtain rfl := lenU_eq (ok_of hc) ha' ha
    obtain rfl := lenU_eq ho hb' hb
    exact ⟨he, hm, hx⟩
theorem songX_share {may must : Bool} {e : Int} (h : SrR songX 0 1 may must e) : may = true ∧ must = false ∧ e = 0 := by
  obtain ⟨h1, h2, h3⟩ := srR_ok (a := 3) (b := 3) h songX_ok (by decide) (by decide) (up_lenU songX_up) ⟨[⟨120, 140⟩, ⟨190, 310⟩, ⟨320, 400⟩], ⟨by decide, by decide, by decide⟩, rfl⟩ (by unfold Ok; decide)
  have hv : validZ (songX.map (woR (comm (gAt songX (0 : Int).toNat) (gAt songX (1 : Int).toNat)))) = true := by decide
  rcases h3 with ⟨h3, _⟩ | ⟨_, c, hc, h3⟩
  · rw [hv] at h3; cases h3
  · obtain rfl := lenU_eq (by unfold Ok; decide) hc (b := 3) ⟨[⟨100, 119⟩, ⟨141, 200⟩, ⟨300, 330⟩], ⟨by decide, by decide, by decide⟩, rfl⟩
    exact ⟨h2, h3, h1⟩
theorem songX_share2 {may must : Bool} {e : Int} (h : SrR (songX.take 2) 0 1 may must e) : may = true ∧ must = true ∧ e = 0 := by
  obtain ⟨h1, h2, h3⟩ := srR_ok (a := 1) (b := 1) h (by decide) (by decide) (by decide) ⟨[⟨100, 140⟩], ⟨by decide, by decide, by decide⟩, rfl⟩ ⟨[⟨120, 140⟩], ⟨by decide, by decide, by decide⟩, rfl⟩ (by unfold Ok; decide)
  have hv : validZ ((songX.take 2).map (woR (comm (gAt (songX.take 2) (0 : Int).toNat) (gAt (songX.take 2) (1 : Int).toNat)))) = true := by decide
  rcases h3 with ⟨h3, _⟩ | ⟨_, c, hc, h3⟩
  · rw [hv] at h3; cases h3
  · obtain rfl := lenU_eq (by unfold Ok; decide) hc (b := 2) ⟨[⟨100, 119⟩, ⟨141, 200⟩], ⟨by decide, by decide, by decide⟩, rfl⟩
    exact ⟨h2, h3, h1⟩
end Go.Proofs.Ytdfdlklglbefiaa

namespace Go.Proofs.Ytdfdlklglbefiaa
set_option linter.unusedSimpArgs false
set_option linter.unusedVariables false
open Go.RowKit Go.Shelf

theorem ints_new (W : World) (l : List Int) (t : TypeId) : Ints (W.alloc (.cells (l.map (Value.int .i64)).toArray t)) (some ⟨W.heap.size, 0, none⟩) l.length l := by
  refine ⟨rfl, fun _ => ⟨W.heap.size, 0, rfl, fun j hj => ?_⟩⟩
  rw [Nat.zero_add, cell_row (heap_alloc_new_ _ _), iAt_eq hj]
  simp [hj]
theorem rgs_new (W : World) (l : List Rg) (t : TypeId) : Rgs (W.alloc (.cells (flatR l).toArray t)) (some ⟨W.heap.size, 0, none⟩) l.length l := by
  refine ⟨rfl, fun _ => ⟨W.heap.size, 0, rfl, fun j hj => ?_⟩⟩
  rw [Nat.zero_add, cell_row (heap_alloc_new_ _ _), cell_row (heap_alloc_new_ _ _)]
  have := flatR_at l j hj
  simpa using this
theorem Rgs.take {W : World} {A : Option Addr} {n m : Nat} {zs : List Rg} (h : Rgs W A n zs) (hm : m ≤ n) : Rgs W A m (zs.take m) := by
  refine ⟨by rw [List.length_take, h.1]; omega, fun hp => ?_⟩
  obtain ⟨b, o, e, hc⟩ := h.2 (by omega)
  refine ⟨b, o, e, fun j hj => ?_⟩
  have e1 : gAt (zs.take m) j = gAt zs j := by
    rw [gAt_eq (by rw [List.length_take, h.1]; omega), gAt_eq (by rw [h.1]; omega)]; simp
  rw [e1]; exact hc j (by omega)
theorem run_eqS (a b c d : Bool) (W : World) : (binOp .eql 43 (.agg #[.bool a, .bool b]) (.agg #[.bool c, .bool d])).run Try.prog W = .ok (.bool (decide (a = c) && decide (b = d))) W := by
  cases a <;> cases b <;> cases c <;> cases d <;> kernel_rfl
set_option maxRecDepth 100000 in
set_option maxHeartbeats 40000000 in
theorem works15 (w : World) : Calls Try.prog 15 #[] w fun en w' => en = .returned (.bool true) ∧ Below w.heap.size w w' := by
  go_enter Try.func15, Try.ntmps15
  go_wp2_with fail
  refine (song39 w).mono ?_
  rintro en w1 ⟨D, rfl, hr, hD, hb⟩
  have S := Lib.hid hr
  have B := Lib.hid hb
  clear hr hb hD
  go_wp2_with fail
  have hi := ints_new w1 [130, 200, 320] 2
  have hb := below_alloc_ w1 (.cells #[.int .i64 130, .int .i64 200, .int .i64 320] 2)
  have hi2 : Ints (w1.alloc (.cells #[.int .i64 130, .int .i64 200, .int .i64 320] 2)) (some ⟨w1.heap.size, 0, none⟩) 3 [130, 200, 320] := hi
  obtain ⟨w2, hV⟩ : ∃ w2, w1.alloc (.cells #[.int .i64 130, .int .i64 200, .int .i64 320] 2) = w2 := ⟨_, rfl⟩
  clear hi
  rw [hV] at hi2 hb ⊢
  clear hV
  replace S := Lib.hid (S.out.below hb (Nat.le_refl _))
  replace B := Lib.hid (B.out.trans (hb.mono B.out.size))
  have L1 := Lib.hid hi2
  clear hi2 hb
  have hc := checkScale20 (some ⟨D, 0, none⟩) 5 5 songX (some ⟨w1.heap.size, 0, none⟩) 3 3 [130, 200, 320] w2 S.out L1.out
  rw [songX_sc1] at hc
  refine hc.mono ?_
  clear hc
  rintro en w3 ⟨rfl, hb⟩
  replace S := Lib.hid (S.out.below hb (Nat.le_refl _))
  replace B := Lib.hid (B.out.trans (hb.mono B.out.size))
  clear hb
  clear L1
  go_wp2_with fail
  have hi := ints_new w3 [130, 320] 2
  have hb := below_alloc_ w3 (.cells #[.int .i64 130, .int .i64 320] 2)
  have hi2 : Ints (w3.alloc (.cells #[.int .i64 130, .int .i64 320] 2)) (some ⟨w3.heap.size, 0, none⟩) 2 [130, 320] := hi
  obtain ⟨w4, hV⟩ : ∃ w4, w3.alloc (.cells #[.int .i64 130, .int .i64 320] 2) = w4 := ⟨_, rfl⟩
  clear hi
  rw [hV] at hi2 hb ⊢
  clear hV
  replace S := Lib.hid (S.out.below hb (Nat.le_refl _))
  replace B := Lib.hid (B.out.trans (hb.mono B.out.size))
  have L1 := Lib.hid hi2
  clear hi2 hb
  have hc := checkScale20 (some ⟨D, 0, none⟩) 5 5 songX (some ⟨w3.heap.size, 0, none⟩) 2 2 [130, 320] w4 S.out L1.out
  rw [songX_sc2] at hc
  refine hc.mono ?_
  clear hc
  rintro en w5 ⟨rfl, hb⟩
  replace S := Lib.hid (S.out.below hb (Nat.le_refl _))
  replace B := Lib.hid (B.out.trans (hb.mono B.out.size))
  clear hb
  clear L1
  go_wp2_with fail
  refine (apart26 (some ⟨D, 0, none⟩) 5 5 songX w5 S.out).mono ?_
  rintro en w6 ⟨hb, hor⟩
  obtain ⟨_, xa, Ca, cpa, ha, rfl, hi, hf⟩ | ⟨h0, _⟩ := hor
  rotate_left
  · exact absurd songX_ok h0
  replace S := Lib.hid (S.out.below hb (Nat.le_refl _))
  replace B := Lib.hid (B.out.trans (hb.mono B.out.size))
  obtain ⟨ha1, ha2⟩ := songX_apart ha
  rw [ha2] at hi ⊢
  have A := Lib.hid hi
  have Ha1 := Lib.hid ha1
  clear hi hf hb ha ha1 ha2
  go_wp2_with fail
  refine (spans28 (some ⟨D, 0, none⟩) 5 5 songX w6 S.out).mono ?_
  rintro en w7 ⟨hb, hor⟩
  obtain ⟨_, x, y, Cp, cpp, hx, hy, rfl, hi, hf⟩ | ⟨h0, _⟩ := hor
  rotate_left
  · exact absurd songX_ok h0
  replace S := Lib.hid (S.out.below hb (Nat.le_refl _))
  replace B := Lib.hid (B.out.trans (hb.mono B.out.size))
  replace A := Lib.hid (A.out.below hb (Nat.le_refl _))
  obtain rfl := songX_shortd hx
  obtain rfl := songX_short hy
  have hi2 : Rgs _ Cp 3 [⟨100, 140⟩, ⟨190, 310⟩, ⟨320, 400⟩] := songX_spans ▸ hi
  have P := Lib.hid hi2
  clear hi hi2 hf hb hx hy
  go_wp2_with fail
  refine (share30 (some ⟨D, 0, none⟩) 5 5 songX 0 1 w7 S.out).mono ?_
  rintro en w8 ⟨hb, may, must, e, hs, rfl⟩
  replace S := Lib.hid (S.out.below hb (Nat.le_refl _))
  replace B := Lib.hid (B.out.trans (hb.mono B.out.size))
  replace A := Lib.hid (A.out.below hb (Nat.le_refl _))
  replace P := Lib.hid (P.out.below hb (Nat.le_refl _))
  obtain ⟨rfl, rfl, rfl⟩ := songX_share hs
  clear hs hb
  go_wp2_with fail
  have hn := heap_alloc_new_ w8 (.cells #[.bool true, .bool false] 43)
  have hb := below_alloc_ w8 (.cells #[.bool true, .bool false] 43)
  obtain ⟨w9, hV⟩ : ∃ w9, w8.alloc (.cells #[.bool true, .bool false] 43) = w9 := ⟨_, rfl⟩
  rw [hV] at hn hb ⊢
  clear hV
  replace S := Lib.hid (S.out.below hb (Nat.le_refl _))
  replace B := Lib.hid (B.out.trans (hb.mono B.out.size))
  replace A := Lib.hid (A.out.below hb (Nat.le_refl _))
  replace P := Lib.hid (P.out.below hb (Nat.le_refl _))
  have R8 := Lib.hid hn
  clear hn hb
  refine (share30 (some ⟨D, 0, none⟩) 2 5 (songX.take 2) 0 1 w9 (S.out.take (by omega))).mono ?_
  rintro en w10 ⟨hb, may, must, e, hs, rfl⟩
  replace S := Lib.hid (S.out.below hb (Nat.le_refl _))
  replace B := Lib.hid (B.out.trans (hb.mono B.out.size))
  replace A := Lib.hid (A.out.below hb (Nat.le_refl _))
  replace P := Lib.hid (P.out.below hb (Nat.le_refl _))
  replace R8 := Lib.hid ((hb.block _ (lt_of_block R8.out)).trans R8.out)
  obtain ⟨rfl, rfl, rfl⟩ := songX_share2 hs
  clear hs hb
  go_wp2_with fail
  have hn := heap_alloc_new_ w10 (.cells #[.bool true, .bool true] 43)
  have hb := below_alloc_ w10 (.cells #[.bool true, .bool true] 43)
  obtain ⟨w11, hV⟩ : ∃ w11, w10.alloc (.cells #[.bool true, .bool true] 43) = w11 := ⟨_, rfl⟩
  rw [hV] at hn hb ⊢
  clear hV
  replace S := Lib.hid (S.out.below hb (Nat.le_refl _))
  replace B := Lib.hid (B.out.trans (hb.mono B.out.size))
  replace A := Lib.hid (A.out.below hb (Nat.le_refl _))
  replace P := Lib.hid (P.out.below hb (Nat.le_refl _))
  replace R8 := Lib.hid ((hb.block _ (lt_of_block R8.out)).trans R8.out)
  have R10 := Lib.hid hn
  clear hn hb
  refine (fewest25 (some ⟨D, 0, none⟩) 5 5 songX w11 S.out).mono ?_
  rintro en w12 ⟨hb, hor⟩
  obtain ⟨_, x, Cf, cpf, hx, rfl, hi, hf⟩ | ⟨h0, _⟩ := hor
  rotate_left
  · exact absurd songX_ok h0
  replace S := Lib.hid (S.out.below hb (Nat.le_refl _))
  replace B := Lib.hid (B.out.trans (hb.mono B.out.size))
  replace A := Lib.hid (A.out.below hb (Nat.le_refl _))
  replace P := Lib.hid (P.out.below hb (Nat.le_refl _))
  replace R8 := Lib.hid ((hb.block _ (lt_of_block R8.out)).trans R8.out)
  replace R10 := Lib.hid ((hb.block _ (lt_of_block R10.out)).trans R10.out)
  obtain rfl := songX_short hx
  have hi2 : Ints _ Cf 3 [140, 310, 400] := hi
  have F := Lib.hid hi2
  simp only [List.length_cons, List.length_nil, Nat.reduceAdd]
  clear hi hi2 hf hb hx
  go_wp2_with fail
  refine (most33 most58 (some ⟨D, 0, none⟩) 5 5 songX 2 w12 S.out).mono ?_
  rintro en w13 ⟨hb, hor⟩
  obtain ⟨h0, _⟩ | ⟨_, h0, _⟩ | ⟨_, _, st, Cm, cpm, m, hm, rfl, hi, hf⟩ := hor
  · exact absurd songX_ok h0
  · exact absurd h0 (by decide)
  replace S := Lib.hid (S.out.below hb (Nat.le_refl _))
  replace B := Lib.hid (B.out.trans (hb.mono B.out.size))
  replace A := Lib.hid (A.out.below hb (Nat.le_refl _))
  replace P := Lib.hid (P.out.below hb (Nat.le_refl _))
  replace R8 := Lib.hid ((hb.block _ (lt_of_block R8.out)).trans R8.out)
  replace R10 := Lib.hid ((hb.block _ (lt_of_block R10.out)).trans R10.out)
  replace F := Lib.hid (F.out.below hb (Nat.le_refl _))
  obtain rfl := songX_most hm
  obtain ⟨ls, hls⟩ : ∃ ls, st.length = ls := ⟨_, rfl⟩
  rw [hls]
  clear hi hf hb hm hls
  go_wp2_with fail
  have hi := ints_new w13 [130, 320] 2
  have hb := below_alloc_ w13 (.cells #[.int .i64 130, .int .i64 320] 2)
  have hi2 : Ints (w13.alloc (.cells #[.int .i64 130, .int .i64 320] 2)) (some ⟨w13.heap.size, 0, none⟩) 2 [130, 320] := hi
  obtain ⟨w14, hV⟩ : ∃ w14, w13.alloc (.cells #[.int .i64 130, .int .i64 320] 2) = w14 := ⟨_, rfl⟩
  clear hi
  rw [hV] at hi2 hb ⊢
  clear hV
  replace S := Lib.hid (S.out.below hb (Nat.le_refl _))
  replace B := Lib.hid (B.out.trans (hb.mono B.out.size))
  replace A := Lib.hid (A.out.below hb (Nat.le_refl _))
  replace P := Lib.hid (P.out.below hb (Nat.le_refl _))
  replace R8 := Lib.hid ((hb.block _ (lt_of_block R8.out)).trans R8.out)
  replace R10 := Lib.hid ((hb.block _ (lt_of_block R10.out)).trans R10.out)
  replace F := Lib.hid (F.out.below hb (Nat.le_refl _))
  have L1 := Lib.hid hi2
  clear hi2 hb
  refine (met16 (some ⟨D, 0, none⟩) 5 5 songX (some ⟨w13.heap.size, 0, none⟩) 2 2 [130, 320] w14 S.out L1.out).mono ?_
  rintro en w15 ⟨Cn, cpn, rfl, hi, hf, hb⟩
  replace S := Lib.hid (S.out.below hb (Nat.le_refl _))
  replace B := Lib.hid (B.out.trans (hb.mono B.out.size))
  replace A := Lib.hid (A.out.below hb (Nat.le_refl _))
  replace P := Lib.hid (P.out.below hb (Nat.le_refl _))
  replace R8 := Lib.hid ((hb.block _ (lt_of_block R8.out)).trans R8.out)
  replace R10 := Lib.hid ((hb.block _ (lt_of_block R10.out)).trans R10.out)
  replace F := Lib.hid (F.out.below hb (Nat.le_refl _))
  rw [songX_met.1] at hi
  rw [songX_met.1, songX_met.2]
  have M := Lib.hid hi
  simp only [List.length_cons, List.length_nil, Nat.reduceAdd]
  clear hi hf hb L1
  go_wp2_with fail
  have hc := refApart24 (some ⟨D, 0, none⟩) 5 5 songX Ca 3 cpa xa w15 S.out A.out (by omega) (by omega)
  rw [Ha1.out] at hc
  refine hc.mono ?_
  clear hc
  rintro en w16 ⟨rfl, hb⟩
  replace S := Lib.hid (S.out.below hb (Nat.le_refl _))
  replace B := Lib.hid (B.out.trans (hb.mono B.out.size))
  replace A := Lib.hid (A.out.below hb (Nat.le_refl _))
  replace P := Lib.hid (P.out.below hb (Nat.le_refl _))
  replace R8 := Lib.hid ((hb.block _ (lt_of_block R8.out)).trans R8.out)
  replace R10 := Lib.hid ((hb.block _ (lt_of_block R10.out)).trans R10.out)
  replace F := Lib.hid (F.out.below hb (Nat.le_refl _))
  replace M := Lib.hid (M.out.below hb (Nat.le_refl _))
  clear hb
  go_wp2_with fail
  refine (rg37 100 140 w16).mono ?_
  rintro en w17 ⟨rfl, hb⟩
  replace S := Lib.hid (S.out.below hb (Nat.le_refl _))
  replace B := Lib.hid (B.out.trans (hb.mono B.out.size))
  replace A := Lib.hid (A.out.below hb (Nat.le_refl _))
  replace P := Lib.hid (P.out.below hb (Nat.le_refl _))
  replace R8 := Lib.hid ((hb.block _ (lt_of_block R8.out)).trans R8.out)
  replace R10 := Lib.hid ((hb.block _ (lt_of_block R10.out)).trans R10.out)
  replace F := Lib.hid (F.out.below hb (Nat.le_refl _))
  replace M := Lib.hid (M.out.below hb (Nat.le_refl _))
  clear hb
  go_wp2_with fail
  refine (rg37 190 310 w17).mono ?_
  rintro en w18 ⟨rfl, hb⟩
  replace S := Lib.hid (S.out.below hb (Nat.le_refl _))
  replace B := Lib.hid (B.out.trans (hb.mono B.out.size))
  replace A := Lib.hid (A.out.below hb (Nat.le_refl _))
  replace P := Lib.hid (P.out.below hb (Nat.le_refl _))
  replace R8 := Lib.hid ((hb.block _ (lt_of_block R8.out)).trans R8.out)
  replace R10 := Lib.hid ((hb.block _ (lt_of_block R10.out)).trans R10.out)
  replace F := Lib.hid (F.out.below hb (Nat.le_refl _))
  replace M := Lib.hid (M.out.below hb (Nat.le_refl _))
  clear hb
  go_wp2_with fail
  refine (rg37 320 400 w18).mono ?_
  rintro en w19 ⟨rfl, hb⟩
  replace S := Lib.hid (S.out.below hb (Nat.le_refl _))
  replace B := Lib.hid (B.out.trans (hb.mono B.out.size))
  replace A := Lib.hid (A.out.below hb (Nat.le_refl _))
  replace P := Lib.hid (P.out.below hb (Nat.le_refl _))
  replace R8 := Lib.hid ((hb.block _ (lt_of_block R8.out)).trans R8.out)
  replace R10 := Lib.hid ((hb.block _ (lt_of_block R10.out)).trans R10.out)
  replace F := Lib.hid (F.out.below hb (Nat.le_refl _))
  replace M := Lib.hid (M.out.below hb (Nat.le_refl _))
  clear hb
  go_wp2_with fail
  have hi2 : Rgs (w19.alloc (.cells #[.int .i64 100, .int .i64 140, .int .i64 190, .int .i64 310, .int .i64 320, .int .i64 400] 56)) (some ⟨w19.heap.size, 0, none⟩) 3 [⟨100, 140⟩, ⟨190, 310⟩, ⟨320, 400⟩] := rgs_new w19 [⟨100, 140⟩, ⟨190, 310⟩, ⟨320, 400⟩] 56
  have hb := below_alloc_ w19 (.cells #[.int .i64 100, .int .i64 140, .int .i64 190, .int .i64 310, .int .i64 320, .int .i64 400] 56)
  obtain ⟨w20, hV⟩ : ∃ w20, w19.alloc (.cells #[.int .i64 100, .int .i64 140, .int .i64 190, .int .i64 310, .int .i64 320, .int .i64 400] 56) = w20 := ⟨_, rfl⟩
  rw [hV] at hi2 hb ⊢
  clear hV
  replace S := Lib.hid (S.out.below hb (Nat.le_refl _))
  replace B := Lib.hid (B.out.trans (hb.mono B.out.size))
  replace A := Lib.hid (A.out.below hb (Nat.le_refl _))
  replace P := Lib.hid (P.out.below hb (Nat.le_refl _))
  replace R8 := Lib.hid ((hb.block _ (lt_of_block R8.out)).trans R8.out)
  replace R10 := Lib.hid ((hb.block _ (lt_of_block R10.out)).trans R10.out)
  replace F := Lib.hid (F.out.below hb (Nat.le_refl _))
  replace M := Lib.hid (M.out.below hb (Nat.le_refl _))
  have L2 := Lib.hid hi2
  clear hi2 hb
  have hc := ranges32 Cp 3 cpp _ (some ⟨w19.heap.size, 0, none⟩) 3 3 _ w20 P.out L2.out (by omega) (by omega)
  rw [show (decide (([⟨100, 140⟩, ⟨190, 310⟩, ⟨320, 400⟩] : List Rg) = [⟨100, 140⟩, ⟨190, 310⟩, ⟨320, 400⟩])) = true from by decide] at hc
  refine hc.mono ?_
  clear hc
  rintro en w21 ⟨rfl, hb⟩
  replace S := Lib.hid (S.out.below hb (Nat.le_refl _))
  replace B := Lib.hid (B.out.trans (hb.mono B.out.size))
  replace A := Lib.hid (A.out.below hb (Nat.le_refl _))
  replace P := Lib.hid (P.out.below hb (Nat.le_refl _))
  replace R8 := Lib.hid ((hb.block _ (lt_of_block R8.out)).trans R8.out)
  replace R10 := Lib.hid ((hb.block _ (lt_of_block R10.out)).trans R10.out)
  replace F := Lib.hid (F.out.below hb (Nat.le_refl _))
  replace M := Lib.hid (M.out.below hb (Nat.le_refl _))
  clear hb
  clear L2
  have x0 : w21.cell? ⟨w8.heap.size, 0, none⟩ = some (.bool true) := by rw [cell_row R8.out]; rfl
  have x1 : w21.cell? ⟨w8.heap.size, 1, none⟩ = some (.bool false) := by rw [cell_row R8.out]; rfl
  have y0 : w21.cell? ⟨w10.heap.size, 0, none⟩ = some (.bool true) := by rw [cell_row R10.out]; rfl
  have y1 : w21.cell? ⟨w10.heap.size, 1, none⟩ = some (.bool true) := by rw [cell_row R10.out]; rfl
  have q1 : ∀ W, (binOp .eql 43 (.agg #[.bool true, .bool false]) (.agg #[.bool true, .bool false])).run Try.prog W = .ok (.bool true) W := fun W => run_eqS true false true false W
  have q2 : ∀ W, (binOp .eql 43 (.agg #[.bool true, .bool true]) (.agg #[.bool true, .bool true])).run Try.prog W = .ok (.bool true) W := fun W => run_eqS true true true true W
  go_wp2_with fail
  clear x0 x1 y0 y1 q1 q2
  have hc := refScale21 (some ⟨D, 0, none⟩) 5 5 songX Cf 3 cpf [140, 310, 400] w21 S.out F.out (by omega)
  rw [show ckSc songX [140, 310, 400] = 0 from by decide] at hc
  refine hc.mono ?_
  clear hc
  rintro en w22 ⟨rfl, hb⟩
  replace S := Lib.hid (S.out.below hb (Nat.le_refl _))
  replace B := Lib.hid (B.out.trans (hb.mono B.out.size))
  replace A := Lib.hid (A.out.below hb (Nat.le_refl _))
  replace P := Lib.hid (P.out.below hb (Nat.le_refl _))
  replace R8 := Lib.hid ((hb.block _ (lt_of_block R8.out)).trans R8.out)
  replace R10 := Lib.hid ((hb.block _ (lt_of_block R10.out)).trans R10.out)
  replace F := Lib.hid (F.out.below hb (Nat.le_refl _))
  replace M := Lib.hid (M.out.below hb (Nat.le_refl _))
  clear hb
  go_wp2_with fail
  have hi := ints_new w22 [0, 1, 2, 4] 3
  have hb := below_alloc_ w22 (.cells #[.int .i64 0, .int .i64 1, .int .i64 2, .int .i64 4] 3)
  have hi2 : Ints (w22.alloc (.cells #[.int .i64 0, .int .i64 1, .int .i64 2, .int .i64 4] 3)) (some ⟨w22.heap.size, 0, none⟩) 4 [0, 1, 2, 4] := hi
  obtain ⟨w23, hV⟩ : ∃ w23, w22.alloc (.cells #[.int .i64 0, .int .i64 1, .int .i64 2, .int .i64 4] 3) = w23 := ⟨_, rfl⟩
  clear hi
  rw [hV] at hi2 hb ⊢
  clear hV
  replace S := Lib.hid (S.out.below hb (Nat.le_refl _))
  replace B := Lib.hid (B.out.trans (hb.mono B.out.size))
  replace A := Lib.hid (A.out.below hb (Nat.le_refl _))
  replace P := Lib.hid (P.out.below hb (Nat.le_refl _))
  replace R8 := Lib.hid ((hb.block _ (lt_of_block R8.out)).trans R8.out)
  replace R10 := Lib.hid ((hb.block _ (lt_of_block R10.out)).trans R10.out)
  replace F := Lib.hid (F.out.below hb (Nat.le_refl _))
  replace M := Lib.hid (M.out.below hb (Nat.le_refl _))
  have L1 := Lib.hid hi2
  clear hi2 hb
  have hc := ints22 Cn 4 cpn _ (some ⟨w22.heap.size, 0, none⟩) 4 4 _ w23 M.out L1.out (by omega) (by omega)
  rw [show (decide (([0, 1, 2, 4] : List Int) = [0, 1, 2, 4])) = true from by decide] at hc
  refine hc.mono ?_
  clear hc
  rintro en w24 ⟨rfl, hb⟩
  replace S := Lib.hid (S.out.below hb (Nat.le_refl _))
  replace B := Lib.hid (B.out.trans (hb.mono B.out.size))
  replace A := Lib.hid (A.out.below hb (Nat.le_refl _))
  replace P := Lib.hid (P.out.below hb (Nat.le_refl _))
  replace R8 := Lib.hid ((hb.block _ (lt_of_block R8.out)).trans R8.out)
  replace R10 := Lib.hid ((hb.block _ (lt_of_block R10.out)).trans R10.out)
  replace F := Lib.hid (F.out.below hb (Nat.le_refl _))
  replace M := Lib.hid (M.out.below hb (Nat.le_refl _))
  clear hb
  go_wp2_with fail
  go_ret
  exact ⟨rfl, B.out⟩
end Go.Proofs.Ytdfdlklglbefiaa
