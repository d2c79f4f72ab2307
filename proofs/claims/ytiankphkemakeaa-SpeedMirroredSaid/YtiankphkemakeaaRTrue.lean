/- The contract of True. -/
import Derived.Test.YtiankphkemakeaaLawProofs
import Derived.Test.YtiankphkemakeaaTrueTh
namespace Go.Proofs.Ytiankphkemakeaa
set_option linter.unusedSimpArgs false
set_option linter.unusedVariables false
open Go.RowKit Go.Shelf

/-- A slice of n small numbers reads as zs. -/
def IntsU (w : World) (A : Option Addr) (n : Nat) (zs : List Int) : Prop :=
  zs.length = n ∧ (∀ j, 0 ≤ nth zs j ∧ nth zs j ≤ 65535) ∧ (0 < n → ∃ b o, A = some ⟨b, o, none⟩ ∧ ∀ j, j < n → w.cell? ⟨b, o + j, none⟩ = some (.int .u16 (nth zs j)))
theorem IntsU.below {w w' : World} {A : Option Addr} {n B : Nat} {zs : List Int} (h : IntsU w A n zs) (hb : Below B w w') (hB : w.heap.size ≤ B) : IntsU w' A n zs := by
  refine ⟨h.1, h.2.1, fun hn => ?_⟩
  obtain ⟨b, o, e, hc⟩ := h.2.2 hn
  have hl := lt_of_cell (hc 0 hn)
  exact ⟨b, o, e, fun j hj => (hb.cell (p := ⟨b, o + j, none⟩) (by simp; omega)).trans (hc j hj)⟩
theorem max_if2 (x m : Int) : (if x < m then m else x) = max x m := by split <;> omega
theorem min_if2 (x m : Int) : (if m < x then m else x) = min x m := by split <;> omega

/-- What the inner loop of True reads. -/
structure Ts (W4 : World) (G t kk N ob oi : Nat) (rb rc : Nat → Nat) (x y z : Int) (W : World) : Prop where
  below : Below W4.heap.size W4 W
  o1 : W.cell? ⟨G, t, none⟩ = some (.slice (some ⟨rb t, 0, none⟩) N (rc t))
  o2 : W.cell? ⟨G, kk, none⟩ = some (.slice (some ⟨rb kk, 0, none⟩) N (rc kk))
  e1 : W.cell? ⟨rb t, kk, none⟩ = some (.int .i64 x)
  e2 : W.cell? ⟨rb kk, t, none⟩ = some (.int .i64 y)
  e3 : W.cell? ⟨ob, oi, none⟩ = some (.int .i64 z)
theorem Ts.next {W4 : World} {G t kk N ob oi : Nat} {rb rc : Nat → Nat} {x y z : Int} {W W' : World} (hb : Below W.heap.size W W') (h : Ts W4 G t kk N ob oi rb rc x y z W) : Ts W4 G t kk N ob oi rb rc x y z W' :=
  ⟨h.below.trans (hb.mono h.below.size), ((bcell hb).1 _ _ (lt_of_cell h.o1)).trans h.o1, ((bcell hb).1 _ _ (lt_of_cell h.o2)).trans h.o2, ((bcell hb).1 _ _ (lt_of_cell h.e1)).trans h.e1, ((bcell hb).1 _ _ (lt_of_cell h.e2)).trans h.e2, ((bcell hb).1 _ _ (lt_of_cell h.e3)).trans h.e3⟩
theorem Ts.all {W4 : World} {G t kk N ob oi : Nat} {rb rc : Nat → Nat} {x y z : Int} {W : World} (h : Ts W4 G t kk N ob oi rb rc x y z W) :
    Ts W4 G t kk N ob oi rb rc x y z W ∧ W.cell? ⟨G, t, none⟩ = some (.slice (some ⟨rb t, 0, none⟩) N (rc t)) ∧ W.cell? ⟨G, kk, none⟩ = some (.slice (some ⟨rb kk, 0, none⟩) N (rc kk)) ∧ W.cell? ⟨rb t, kk, none⟩ = some (.int .i64 x) ∧ W.cell? ⟨rb kk, t, none⟩ = some (.int .i64 y) ∧ W.cell? ⟨ob, oi, none⟩ = some (.int .i64 z) :=
  ⟨h, h.o1, h.o2, h.e1, h.e2, h.e3⟩

set_option maxRecDepth 100000 in
set_option maxHeartbeats 4000000 in
theorem true44 (A D : Option Addr) (n cap T m capm : Nat) (rs : List R) (bs : List Int) (w : World) (h : Rules w A n rs) (hk : IntsU w D m bs) (hm40 : m ≤ 40) (he : chk T rs = 0) (hs : Some_ T rs) :
    Calls Try.prog 44 #[.agg #[.int .i64 (T : Int), .slice A n cap], .slice D m capm] w fun e w' => ∃ A' cap', e = .returned (.slice A' T cap') ∧ Ints w' A' T (trueL (farM T rs) bs T) ∧ Below w.heap.size w w' := by
  have X0 := Bx.new (T := (T : Int)) (cap := cap) h
  have K0 := hk.below (below_alloc_ w (.cells #[.int .i64 (T : Int), .slice A n cap] 24)) (Nat.le_refl _)
  have hT2 : T ≤ 20 := by have := chk_ok he; omega
  have He := Lib.hid he
  have Hok := Lib.hid (far_ok he hs)
  obtain ⟨d, hd⟩ : ∃ d, farM T rs = d := ⟨_, rfl⟩
  rw [hd] at Hok ⊢
  have Hd := Lib.hid hd
  clear h hk he hs hd
  obtain ⟨B, hB⟩ : ∃ B, w.heap.size = B := ⟨_, rfl⟩
  rw [hB] at X0
  have HB0 := Lib.hid hB
  have c0 := X0.c0
  have c1 := X0.c1
  have hlt := X0.hi
  go_enter Try.func44, Try.ntmps44
  go_wp2_with fail
  refine (far46 A n cap T rs _ X0.rules He.out).mono ?_
  rintro e w3 ⟨G, capG, rb, rc, rfl, hM, hb⟩
  have X3 := X0.next hb
  have HK := Lib.hid (K0.below hb (Nat.le_refl _))
  have HM := Lib.hid hM
  obtain ⟨N, hN⟩ : ∃ N, T + 1 = N := ⟨_, rfl⟩
  rw [hN] at HM ⊢
  rw [Hd.out] at HM
  clear hM hb X0 K0 c0 c1 hlt
  go_wp2_with fail
  go_loopw [6, 7] (fun v6 v7 wr => ∃ (k : Nat) (A6 : Option Addr) (cap6 : Nat), k ≤ T ∧ v7 = .int .i64 ((k + 1 : Nat) : Int) ∧ v6 = .slice A6 k cap6 ∧ wr.ownsRow w3.heap.size 2 1 (.slice A6 k cap6) k (iv (trueL d bs k)) ∧ Below w3.heap.size w3 wr) (fun _ v7 _ => T + 1 - (intOf v7).toNat)
  case atStart => exact ⟨0, none, 0, Nat.zero_le _, rfl, rfl, World.ownsRow_nil _ _ _ _, Below.refl _ _⟩
  case round =>
    obtain ⟨k, A6, cap6, hk, rfl, rfl, hown, hB⟩ := hrel
    have Hown := Lib.hid hown
    have HB := Lib.hid hB
    have X4 := X3.next hB
    have HM4 := Lib.hid (HM.out.below hB)
    have HK4 := Lib.hid (HK.out.below hB (Nat.le_refl _))
    have hz := hB.size
    clear hown hB
    have c0 := X4.c0
    by_cases hlt : k < T
    · obtain ⟨t, ht⟩ : ∃ t, k + 1 = t := ⟨_, rfl⟩
      have o0 := HM4.out.cellO (show 0 < N by omega)
      have oT := HM4.out.cellO (show t < N by omega)
      have e0T := HM4.out.cellI (show 0 < N by omega) (show t < N by omega)
      have eT0 := HM4.out.cellI (show t < N by omega) (show 0 < N by omega)
      have i0 : (0 : Int) ≤ (t : Int) := by omega
      have i1 : (t : Int) < (N : Int) := by omega
      have i2 : (0 : Int) < (N : Int) := by omega
      have i3 : 0 < N := by omega
      have i4 : t < N := by omega
      have i5 : t ≤ T := by omega
      have i6 : (t : Int) ≤ (T : Int) := by omega
      have hbd := Hok.out.bd t 0 (by omega) (Nat.zero_le _)
      obtain ⟨x, hx⟩ : ∃ x, d t 0 = x := ⟨_, rfl⟩
      obtain ⟨y, hy⟩ : ∃ y, d 0 t = y := ⟨_, rfl⟩
      have Hx := Lib.hid hx
      have Hy := Lib.hid hy
      rw [hx] at eT0 hbd
      rw [hy] at e0T
      obtain ⟨hbd0, hbd1⟩ := hbd
      have Ht := Lib.hid ht
      rw [ht]
      clear hx hy ht
      obtain ⟨L, hL⟩ : ∃ L, trueL d bs k = L := ⟨_, rfl⟩
      rw [hL] at Hown
      have HL := Lib.hid hL
      clear hL
      go_wp2_with fail
      go_quiet (fail)
      go_wp2_with fail
      have hq := drew_below wr nq wr.heap.size
      obtain ⟨W5, hW5⟩ : ∃ W5, wr.drewN nq = W5 := ⟨_, rfl⟩
      rw [hW5] at hq ⊢
      have HB5 := Lib.hid (HB.out.trans (hq.mono hz))
      have X5 := X4.next hq
      have HM5 := Lib.hid (HM4.out.below hq)
      have HK5 := Lib.hid (HK4.out.below hq (Nat.le_refl _))
      have Hown5 := Lib.hid (own_below Hown.out hq (Nat.le_refl _))
      have hz5 := HB5.out.size
      have Hkeep := Lib.hid (show KeepT d k L by rw [← HL.out]; exact true_keep Hok.out bs k (by omega))
      clear hq hW5 HB X4 HM4 HK4 Hown c0 o0 oT e0T eT0
      go_loopw [8, 9, 10] (fun v8 v9 v10 w4 => ∃ mm : Nat, mm ≤ k ∧ v10 = .int .i64 ((mm + 1 : Nat) : Int) ∧ v8 = .int .i64 (loF d t L mm) ∧ v9 = .int .i64 (hiF d t L mm) ∧ Below W5.heap.size W5 w4) (fun _ _ v10 _ => k + 1 - (intOf v10).toNat)
      case atStart => exact ⟨0, Nat.zero_le _, rfl, by rw [← Hx.out]; rfl, by rw [← Hy.out]; rfl, Below.refl _ _⟩
      case round =>
        obtain ⟨mm, hmm, rfl, rfl, rfl, hb⟩ := hrel
        have X6 := X5.next hb
        have HM6 := Lib.hid (HM5.out.below hb)
        have Hown6 := Lib.hid (own_below Hown5.out hb (Nat.le_refl _))
        have HB6 := Lib.hid hb
        by_cases hmk : mm < k
        · obtain ⟨kk, hkk⟩ : ∃ kk, mm + 1 = kk := ⟨_, rfl⟩
          obtain ⟨ob, oo, hA, hc⟩ := (Ints.of_own Hown6.out).2 (by omega)
          subst hA
          have e3 := hc mm hmk
          have e1 := HM6.out.cellI (show t < N by omega) (show kk < N by omega)
          have e2 := HM6.out.cellI (show kk < N by omega) (show t < N by omega)
          have G6 := Lib.hid (show Ts W5 G t kk N ob (oo + mm) rb rc (d t kk) (d kk t) (nth L mm) _ from ⟨hb, HM6.out.cellO (by omega), HM6.out.cellO (by omega), e1, e2, e3⟩)
          have bx := Hok.out.bd t kk (by omega) (by omega)
          have bY := Hok.out.bd kk t (by omega) (by omega)
          have bz := keep_small Hok.out Hkeep.out (by omega) (show kk ≤ k by omega)
          rw [← hkk, qOf_succ] at bz
          have Hlo := Lib.hid (show loF d t L kk = max (loF d t L mm) (nth L mm - d t kk) by rw [← hkk]; rfl)
          have Hhi := Lib.hid (show hiF d t L kk = min (hiF d t L mm) (nth L mm + d kk t) by rw [← hkk]; rfl)
          obtain ⟨x1, hx1⟩ : ∃ x1, d t kk = x1 := ⟨_, rfl⟩
          obtain ⟨y1, hy1⟩ : ∃ y1, d kk t = y1 := ⟨_, rfl⟩
          obtain ⟨z1, hz1⟩ : ∃ z1, nth L mm = z1 := ⟨_, rfl⟩
          obtain ⟨lo1, hlo1⟩ : ∃ lo1, loF d t L mm = lo1 := ⟨_, rfl⟩
          obtain ⟨hi1, hhi1⟩ : ∃ hi1, hiF d t L mm = hi1 := ⟨_, rfl⟩
          rw [hx1] at G6 bx Hlo
          rw [hy1] at G6 bY Hhi
          rw [hz1] at G6 bz Hlo Hhi
          rw [hlo1] at Hlo ⊢
          rw [hhi1] at Hhi ⊢
          have Hkk := Lib.hid hkk
          rw [hkk]
          have j1 : kk < t := by have := Ht.out; omega
          have j0 : (kk : Int) < (t : Int) := by omega
          have j2 : (0 : Int) ≤ (kk : Int) := by omega
          have j3 : (kk : Int) < (N : Int) := by omega
          have j4 : (kk : Int) - 1 = (mm : Int) := by omega
          have j5 : IntKind.i64.wrap ((kk : Int) - 1) = (mm : Int) := by rw [IntWalk.i64_in _ (by omega)]; omega
          have j11 : IntKind.i64.wrap (mm : Int) = (mm : Int) := IntWalk.i64_in _ (by omega)
          have j6 : (0 : Int) ≤ (mm : Int) := by omega
          have j7 : (mm : Int) < (k : Int) := by omega
          have j8 : IntKind.i64.wrap (z1 - x1) = z1 - x1 := IntWalk.i64_in _ (by omega)
          have j9 : IntKind.i64.wrap (z1 + y1) = z1 + y1 := IntWalk.i64_in _ (by omega)
          have j10 : kk < N := by omega
          obtain ⟨bx0, bx1⟩ := bx
          obtain ⟨by0, by1⟩ := bY
          obtain ⟨bz0, bz1⟩ := bz
          clear hx1 hy1 hz1 hlo1 hhi1 hkk e1 e2 e3 hc hb
          go_wp2_with fail
          have G7 := G6.out.all
          (go_region_held3 (fun w' => Ts W5 G t kk N ob (oo + mm) rb rc x1 y1 z1 w' ∧ w'.cell? ⟨G, t, none⟩ = some (.slice (some ⟨rb t, 0, none⟩) N (rc t)) ∧ w'.cell? ⟨G, kk, none⟩ = some (.slice (some ⟨rb kk, 0, none⟩) N (rc kk)) ∧ w'.cell? ⟨rb t, kk, none⟩ = some (.int .i64 x1) ∧ w'.cell? ⟨rb kk, t, none⟩ = some (.int .i64 y1) ∧ w'.cell? ⟨ob, oo + mm, none⟩ = some (.int .i64 z1))
            (first | (go_split_ands; exact Ts.all (by assumption)) | (go_split_ands; exact Ts.all (Ts.next (by assumption) (by assumption))) | (go_split_ands; exact Ts.all (Ts.next (below_drew_ _) (by assumption))))
            (fail))
          all_goals (
            go_wp2_with fail
            go_roundw
            case rel => exact ⟨kk, by omega, by go_num, by rw [Hlo.out, max_if2], by rw [Hhi.out, min_if2], below_drewN HB6.out 1⟩
            case measure => simp [intOf]; omega)
        · obtain rfl : k = mm := by omega
          have HK6 := Lib.hid (HK5.out.below hb (Nat.le_refl _))
          have hz6 := hb.size
          have bl := loF_small Hok.out Hkeep.out hlt (Nat.le_refl k)
          have bh := hiF_small Hok.out Hkeep.out hlt (Nat.le_refl k)
          have lh := lo_le_hi Hok.out Hkeep.out hlt
          have Hsn := Lib.hid (show trueL d bs (k + 1) = L ++ [pickB bs (loF d (k + 1) L k) (hiF d (k + 1) L k) (k + 1)] by rw [← HL.out]; rfl)
          rw [Ht.out] at bl bh lh Hsn ⊢
          obtain ⟨lo1, hlo1⟩ : ∃ lo1, loF d t L k = lo1 := ⟨_, rfl⟩
          obtain ⟨hi1, hhi1⟩ : ∃ hi1, hiF d t L k = hi1 := ⟨_, rfl⟩
          rw [hlo1] at bl lh Hsn ⊢
          rw [hhi1] at bh lh Hsn ⊢
          obtain ⟨bl0, bl1⟩ := bl
          obtain ⟨bh0, bh1⟩ := bh
          have Hb := Lib.hid (HB5.out.trans (hb.mono (by omega)))
          clear hlo1 hhi1 hb
          by_cases hm0 : m = 0
          · subst hm0
            have Hp := Lib.hid (show pickB bs lo1 hi1 t = lo1 by unfold pickB; rw [if_pos HK6.out.1])
            go_wp2_with (at_builtin; refine wpList_append_ints rfl (.tmp 87) (.tmp 89) 25 2 rfl Try.underlying25 Try.info2 w3.heap.size _ k L rfl (own_below Hown6.out (below_alloc_ _ _) (Nat.le_refl _)) (some ⟨wr.heap.size, 0, none⟩) 1 1 [lo1] rfl (ints_one (by rw [cell_of_row _ _ 0 _ _ _ (heap_alloc_new _ _)]; rfl)) (by omega) (by simp; omega) ?_; intro A8 cap8 w8 hown8 hb8)
            have Hown8 := Lib.hid hown8
            have HB8 := Lib.hid ((Hb.out.alloc Hb.out.size _).trans hb8)
            clear hown8 hb8
            go_roundw
            case rel => exact ⟨k + 1, A8, cap8, by omega, by rw [Ht.out]; go_num, rfl, by rw [Ht.out, Hsn.out, Hp.out]; rw [← Ht.out]; exact Hown8.out, HB8.out⟩
            case measure => simp [intOf]; omega
          · obtain ⟨db, doo, hD, hcd⟩ := HK6.out.2.2 (by omega)
            subst hD
            have hml : t % m < m := Nat.mod_lt _ (by omega)
            have ev := hcd (t % m) hml
            have bv := HK6.out.2.1 (t % m)
            have p0 : (0 : Int) < (m : Int) := by omega
            have p1 : (0 : Int) ≤ (t : Int) % (m : Int) := Int.emod_nonneg _ (by omega)
            have p2 : (t : Int) % (m : Int) < (m : Int) := Int.emod_lt_of_pos _ (by omega)
            have p3 : ((t : Int) % (m : Int)).toNat = t % m := by rw [← Int.natCast_emod]; exact Int.toNat_natCast _
            have Hp := Lib.hid (show pickB bs lo1 hi1 t = lo1 + nth bs (t % m) % (hi1 - lo1 + 1) by unfold pickB; rw [if_neg (by rw [HK6.out.1]; exact hm0), HK6.out.1])
            obtain ⟨v1, hv1⟩ : ∃ v1, nth bs (t % m) = v1 := ⟨_, rfl⟩
            rw [hv1] at ev bv Hp
            obtain ⟨bv0, bv1⟩ := bv
            have p4 : 0 ≤ v1 % (hi1 - lo1 + 1) := Int.emod_nonneg _ (by omega)
            have p5 : v1 % (hi1 - lo1 + 1) < hi1 - lo1 + 1 := Int.emod_lt_of_pos _ (by omega)
            have p6 : ¬ (hi1 - lo1 + 1 = 0) := by omega
            have p7 : ¬ ((m : Int) = 0) := by omega
            clear hv1 hcd hml
            obtain ⟨x8, hx8⟩ : ∃ x8, lo1 + v1 % (hi1 - lo1 + 1) = x8 := ⟨_, rfl⟩
            have Hx8 := Lib.hid hx8
            clear hx8
            go_wp2_with (at_builtin; refine wpList_append_ints rfl (.tmp 87) (.tmp 89) 25 2 rfl Try.underlying25 Try.info2 w3.heap.size _ k L rfl (own_below Hown6.out (below_alloc_ _ _) (Nat.le_refl _)) (some ⟨wr.heap.size, 0, none⟩) 1 1 [lo1 + v1 % (hi1 - lo1 + 1)] rfl (ints_one (by rw [cell_of_row _ _ 0 _ _ _ (heap_alloc_new _ _)]; rfl)) (by omega) (by simp; omega) ?_; intro A8 cap8 w8 hown8 hb8)
            have Hown8 := Lib.hid hown8
            have HB8 := Lib.hid ((Hb.out.alloc Hb.out.size _).trans hb8)
            clear hown8 hb8
            go_roundw
            case rel => exact ⟨k + 1, A8, cap8, by omega, by rw [Ht.out]; go_num, rfl, by rw [Ht.out, Hsn.out, Hp.out]; rw [← Ht.out]; exact Hown8.out, HB8.out⟩
            case measure => simp [intOf]; omega
    · obtain rfl : k = T := by omega
      have i6 : ¬ (((k + 1 : Nat) : Int) ≤ (k : Int)) := by omega
      have i7 : ¬ (k + 1 ≤ k) := by omega
      go_wp2_with fail
      go_ret
      exact ⟨_, ⟨_, rfl⟩, Ints.of_own Hown.out, by have h9 := X4.below; rw [HB0.out] at h9; exact h9⟩
end Go.Proofs.Ytiankphkemakeaa
