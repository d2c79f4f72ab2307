/- Stage 5: rising names, links that meet, links that do not (the document). -/
import Derived.Test.YtnodkgejggnehaaAp
import Derived.Deep.Cut
import Derived.BigQuiet
import Derived.Deep.QuietTactic
import Derived.Deep.RegionHeld
import Derived.Deep.RegionHeld3
namespace Go.Proofs.Ytnodkgejggnehaa
set_option linter.unusedSimpArgs false
set_option linter.unusedVariables false
open Go.RowKit Go.Shelf
theorem ints_two {W : World} {Q : Nat} {a b : Int} {t : TypeId} (h : W.heap[Q]? = some (.cells #[.int .i64 a, .int .i64 b] t (0, 0))) : Ints W (some ⟨Q, 0, none⟩) 2 [a, b] :=
  ⟨rfl, fun _ => ⟨Q, 0, rfl, fun j hj => by
    rw [Nat.zero_add, cell_row h]
    rcases (by omega : j = 0 ∨ j = 1) with rfl | rfl <;> rfl⟩⟩
theorem ints_one {W : World} {Q : Nat} {a : Int} {t : TypeId} (h : W.heap[Q]? = some (.cells #[.int .i64 a] t (0, 0))) : Ints W (some ⟨Q, 0, none⟩) 1 [a] :=
  ⟨rfl, fun _ => ⟨Q, 0, rfl, fun j hj => by
    rw [Nat.zero_add, cell_row h]
    rcases (by omega : j = 0) with rfl; rfl⟩⟩
theorem withI_one (lo hi x : Int) : withI lo hi [x] = inB lo hi x := by simp [withI]
theorem withI_two (lo hi x y : Int) : withI lo hi [x, y] = (inB lo hi x && inB lo hi y) := by simp [withI]
/-- A link of a sheet. -/
def okG (sl sr : Int) (r : Rg) : Bool := inB 0 (sl - 1) r.lo && inB 0 (sr - 1) r.hi
theorem okG_take {sl sr : Int} {zs : List Rg} {k : Nat} (hk : k < zs.length) : (zs.take (k + 1)).all (okG sl sr) = ((zs.take k).all (okG sl sr) && okG sl sr (gAt zs k)) := all_take _ zs k ⟨0, 0⟩ hk
theorem okG_stop {sl sr : Int} {zs : List Rg} {k : Nat} (hk : k < zs.length) (h : okG sl sr (gAt zs k) = false) : zs.all (okG sl sr) = false := all_stop _ zs k ⟨0, 0⟩ hk h
/-- The error of a sheet. -/
def chkS (sl sr : Int) (zs : List Rg) (ks : List Int) : Int := if (inB 1 12 sl && inB 1 12 sr) = false then 2 else if 40 < zs.length then 6 else if zs.all (okG sl sr) = false then 3 else if decide zs.Nodup = false then 11 else if (risI (zs.length : Int) ks && apB zs ks) = false then 16 else 0
theorem risK_mono {c : Int} {zs : List Int} {k : Nat} : ∀ {n : Nat}, risK c zs n = true → k ≤ n → risK c zs k = true := fun {n} h hk => by
  unfold risK at h ⊢
  rw [List.all_eq_true] at h ⊢
  exact fun j hj => h j (List.mem_range.2 (by have := List.mem_range.1 hj; omega))
theorem ris_at {c : Int} {zs : List Int} {n : Nat} (h : risK c zs n = true) : ∀ j, j < n → -1 < iAt zs j ∧ iAt zs j < c ∧ (0 < j → iAt zs (j - 1) < iAt zs j)
  | 0, hj => by
    unfold risK at h
    rw [List.all_eq_true] at h
    have := h 0 (List.mem_range.2 hj)
    rw [Bool.and_eq_true, decide_eq_true_eq, decide_eq_true_eq] at this
    unfold prvI at this
    rw [if_pos rfl] at this
    exact ⟨this.1, this.2, fun h => by omega⟩
  | j + 1, hj => by
    have ih := ris_at h j (by omega)
    unfold risK at h
    rw [List.all_eq_true] at h
    have := h (j + 1) (List.mem_range.2 hj)
    rw [Bool.and_eq_true, decide_eq_true_eq, decide_eq_true_eq] at this
    unfold prvI at this
    rw [if_neg (by omega), Nat.add_sub_cancel] at this
    exact ⟨by omega, this.2, fun _ => this.1⟩
theorem ris_in {c : Int} {zs : List Int} (h : risI c zs = true) {n : Nat} (hn : zs.length = n) : ∀ j, j < n → 0 ≤ iAt zs j ∧ iAt zs j < c := fun j hj => by
  unfold risI at h
  rw [hn] at h
  have := ris_at h j hj
  omega
section
attribute [local go_sem ↓] exec_app at_app
attribute [local go_sem] Oper.semAt_some
set_option maxRecDepth 100000 in
set_option maxHeartbeats 4000000 in
theorem checkSheet18 (sl sr : Int) (A : Option Addr) (n cap : Nat) (zs : List Rg) (A2 : Option Addr) (kn kc : Nat) (ks : List Int) (w : World) (h : Rgs w A n zs) (hI : Ints w A2 kn ks) (hc9 : n ≤ cap) (hn : n ≤ 1000000) (hk : kn ≤ 100000) :
    Calls Try.prog 18 #[.agg #[.int .i64 sl, .int .i64 sr, .slice A n cap, .slice A2 kn kc]] w fun e w' => e = .returned (.int .i64 (chkS sl sr zs ks)) ∧ Below w.heap.size w w' := by
  have hb0 := below_alloc_ w (.cells #[.int .i64 sl, .int .i64 sr, .slice A n cap, .slice A2 kn kc] 25)
  have hr0 := heap_alloc_new_ w (.cells #[.int .i64 sl, .int .i64 sr, .slice A n cap, .slice A2 kn kc] 25)
  obtain ⟨w0, hW0⟩ : ∃ w0, w.alloc (.cells #[.int .i64 sl, .int .i64 sr, .slice A n cap, .slice A2 kn kc] 25) = w0 := ⟨_, rfl⟩
  obtain ⟨R, hR⟩ : ∃ R, w.heap.size = R := ⟨_, rfl⟩
  rw [hW0] at hb0 hr0
  rw [hR] at hr0
  have HZl := Lib.hid h.1
  have S := Lib.hid (h.below hb0 (Nat.le_refl _))
  have HNl := Lib.hid hI.1
  have Y := Lib.hid (hI.below hb0 (Nat.le_refl _))
  have B := Lib.hid hb0
  have HW0 := Lib.hid hW0
  have HR := Lib.hid hR
  have hrow := Lib.hid hr0
  clear h hI hb0 hr0 hW0 hR
  go_enter Try.func18, Try.ntmps18
  go_wp2_with fail
  rw [HW0.out]
  try rw [HR.out]
  have s0 : w0.cell? ⟨R, 0, none⟩ = some (.int .i64 sl) := by rw [cell_row hrow.out]; rfl
  have s1 : w0.cell? ⟨R, 1, none⟩ = some (.int .i64 sr) := by rw [cell_row hrow.out]; rfl
  have s2 : w0.cell? ⟨R, 2, none⟩ = some (.slice A n cap) := by rw [cell_row hrow.out]; rfl
  have s3 : w0.cell? ⟨R, 3, none⟩ = some (.slice A2 kn kc) := by rw [cell_row hrow.out]; rfl
  have hbA := below_alloc_ w0 (.cells #[.int .i64 sl, .int .i64 sr] 3)
  have hrA := heap_alloc_new_ w0 (.cells #[.int .i64 sl, .int .i64 sr] 3)
  have hs0 : w0.heap.size = R + 1 := by rw [← HW0.out, ← HR.out]; simp
  rw [hs0] at hrA
  obtain ⟨b0, hb0⟩ : ∃ b0, (inB 1 12 sl && inB 1 12 sr) = b0 := ⟨_, rfl⟩
  have kA := within45 (some ⟨R + 1, 0, none⟩) 2 2 [sl, sr] 1 12 _ (ints_two hrA) (by omega)
  rw [withI_two, hb0] at kA
  have KA := Lib.hid kA
  have HB0 := Lib.hid hb0
  clear kA hrA hb0 hs0
  try go_wp2_with fail
  refine KA.out.mono ?_
  rintro en w1 ⟨rfl, rfl⟩
  have HBA := Lib.hid hbA
  clear KA hbA
  rcases b0 with _ | _
  · go_wp2_with fail
    go_ret
    exact ⟨by unfold chkS; rw [HB0.out, if_pos rfl] <;> rfl, B.out.trans (HBA.out.mono B.out.size)⟩
  obtain ⟨V0, hV0⟩ : ∃ V0, w0.alloc (.cells #[.int .i64 sl, .int .i64 sr] 3) = V0 := ⟨_, rfl⟩
  rw [hV0] at HBA ⊢
  have hb12 := HB0.out
  rw [Bool.and_eq_true, inB_iff, inB_iff] at hb12
  obtain ⟨⟨l1, l2⟩, l3, l4⟩ := hb12
  have hrV := (HBA.out.block R (lt_of_block hrow.out)).trans hrow.out
  have hrowV := Lib.hid hrV
  replace S := Lib.hid (S.out.below HBA.out (Nat.le_refl _))
  replace Y := Lib.hid (Y.out.below HBA.out (Nat.le_refl _))
  replace B := Lib.hid (B.out.trans (HBA.out.mono B.out.size))
  clear s0 s1 s2 s3 hV0 hrV hrow HBA
  have s0 : V0.cell? ⟨R, 0, none⟩ = some (.int .i64 sl) := by rw [cell_row hrowV.out]; rfl
  have s1 : V0.cell? ⟨R, 1, none⟩ = some (.int .i64 sr) := by rw [cell_row hrowV.out]; rfl
  have s2 : V0.cell? ⟨R, 2, none⟩ = some (.slice A n cap) := by rw [cell_row hrowV.out]; rfl
  have s3 : V0.cell? ⟨R, 3, none⟩ = some (.slice A2 kn kc) := by rw [cell_row hrowV.out]; rfl
  by_cases h40 : 40 < n
  · have d40 : (40 : Int) < (n : Int) := by omega
    have H40 := Lib.hid h40
    clear h40
    go_wp2_with fail
    go_ret
    exact ⟨by unfold chkS; rw [HB0.out, if_neg (by simp), if_pos (by rw [HZl.out]; exact H40.out)] <;> rfl, B.out⟩
  have d40 : ¬ (40 : Int) < (n : Int) := by omega
  have H40 := Lib.hid h40
  have w1s : IntKind.i64.wrap (sl - 1) = sl - 1 := IntWalk.i64_in _ (by omega)
  have w1r : IntKind.i64.wrap (sr - 1) = sr - 1 := IntWalk.i64_in _ (by omega)
  go_wp2_with fail
  clear d40
  go_loopw [4, 19] (fun p i wr => ∃ k : Nat, k ≤ n ∧ i = .int .i64 (k : Int) ∧ Hid ((zs.take k).all (okG sl sr) = true) ∧ Hid (Below V0.heap.size V0 wr)) (fun p i _ => n - (intOf i).toNat)
  case atStart => exact ⟨0, Nat.zero_le _, rfl, Lib.hid rfl, Lib.hid (Below.refl _ _)⟩
  case round =>
    obtain ⟨k, hk9, rfl, Hw, HBl⟩ := hrel
    obtain ⟨wk, rfl⟩ : ∃ wk, wk = wr := ⟨_, rfl⟩
    have hrk := Lib.hid ((HBl.out.block R (lt_of_block hrowV.out)).trans hrowV.out)
    clear s0 s1 s2 s3
    by_cases hlt : k < n
    · obtain ⟨bz, oz, rfl, hcz⟩ := (S.out.below HBl.out (Nat.le_refl _)).2 (by omega)
      obtain ⟨z0, z1⟩ := hcz k hlt
      have Hs := Lib.hid (okG_take (sl := sl) (sr := sr) (zs := zs) (k := k) (by rw [HZl.out]; exact hlt))
      have Hf := Lib.hid (okG_stop (sl := sl) (sr := sr) (zs := zs) (k := k) (by rw [HZl.out]; exact hlt))
      obtain ⟨g, hg⟩ : ∃ g, gAt zs k = g := ⟨_, rfl⟩
      rw [hg] at z0 z1 Hs Hf
      obtain ⟨gl, gh⟩ := g
      simp only at z0 z1
      have i0 : (0 : Int) ≤ (k : Int) := by omega
      have i1 : (k : Int) < (n : Int) := by omega
      have hb1 := below_alloc_ wk (.cells #[.int .i64 gl, .int .i64 gh] 55)
      have hr1 := heap_alloc_new_ wk (.cells #[.int .i64 gl, .int .i64 gh] 55)
      have hs1 := Lib.hid (show (wk.alloc (.cells #[.int .i64 gl, .int .i64 gh] 55)).heap.size = wk.heap.size + 1 by simp)
      clear hcz hg
      have s0 : wk.cell? ⟨R, 0, none⟩ = some (.int .i64 sl) := by rw [cell_row hrk.out]; rfl
      have s1 : wk.cell? ⟨R, 1, none⟩ = some (.int .i64 sr) := by rw [cell_row hrk.out]; rfl
      have s2 : wk.cell? ⟨R, 2, none⟩ = some (.slice (some ⟨bz, oz, none⟩) n cap) := by rw [cell_row hrk.out]; rfl
      have s3 : wk.cell? ⟨R, 3, none⟩ = some (.slice A2 kn kc) := by rw [cell_row hrk.out]; rfl
      go_upto_region 8 with fail
      obtain ⟨V, hV⟩ : ∃ V, wk.alloc (.cells #[.int .i64 gl, .int .i64 gh] 55) = V := ⟨_, rfl⟩
      obtain ⟨P, hP⟩ : ∃ P, wk.heap.size = P := ⟨_, rfl⟩
      rw [hV] at hb1 hr1 hs1 ⊢
      have HBV := Lib.hid (HBl.out.trans (hb1.mono HBl.out.size))
      have hrV := (hb1.block R (lt_of_block hrk.out)).trans hrk.out
      rw [hP] at hr1 hs1 ⊢
      have p0 : V.cell? ⟨P, 0, none⟩ = some (.int .i64 gl) := by rw [cell_row hr1]; rfl
      have p1 : V.cell? ⟨P, 1, none⟩ = some (.int .i64 gh) := by rw [cell_row hr1]; rfl
      have hb2 := below_alloc_ V (.cells #[.int .i64 gl] 3)
      have hr2 := heap_alloc_new_ V (.cells #[.int .i64 gl] 3)
      have k2 := within45 (some ⟨V.heap.size, 0, none⟩) 1 1 [gl] 0 (sl - 1) _ (ints_one hr2) (by omega)
      rw [withI_one] at k2
      obtain ⟨x1, hx1⟩ : ∃ x1, inB 0 (sl - 1) gl = x1 := ⟨_, rfl⟩
      obtain ⟨x2, hx2⟩ : ∃ x2, inB 0 (sr - 1) gh = x2 := ⟨_, rfl⟩
      have HO := Lib.hid (show okG sl sr ⟨gl, gh⟩ = (x1 && x2) by unfold okG; rw [hx1, hx2])
      rw [hx1] at k2
      have K2 := Lib.hid k2
      have HP1 := Lib.hid p1
      have HX2 := Lib.hid hx2
      clear s0 s1 s2 s3 z0 z1 k2 hr2 hx1 hx2 hV hP hr1 hb1
      have s0 : V.cell? ⟨R, 0, none⟩ = some (.int .i64 sl) := by rw [cell_row hrV]; rfl
      have s1 : V.cell? ⟨R, 1, none⟩ = some (.int .i64 sr) := by rw [cell_row hrV]; rfl
      have s2 : V.cell? ⟨R, 2, none⟩ = some (.slice (some ⟨bz, oz, none⟩) n cap) := by rw [cell_row hrV]; rfl
      have s3 : V.cell? ⟨R, 3, none⟩ = some (.slice A2 kn kc) := by rw [cell_row hrV]; rfl
      have HrV := Lib.hid hrV
      clear hrV
      go_wp2_with fail
      refine K2.out.mono ?_
      rintro en w1 ⟨rfl, rfl⟩
      obtain ⟨V1, hV1⟩ : ∃ V1, V.alloc (.cells #[.int .i64 gl] 3) = V1 := ⟨_, rfl⟩
      rw [hV1] at hb2 ⊢
      have HB1 := Lib.hid (HBV.out.trans (hb2.mono HBV.out.size))
      have hrV1 := (hb2.block R (lt_of_block HrV.out)).trans HrV.out
      have q1 := (hb2.cell (p := ⟨P, 1, none⟩) (lt_of_cell HP1.out)).trans HP1.out
      clear K2 hb2 hV1 s0 s1 s2 s3 p0 p1
      cases x1 with
      | false =>
        go_wp2_with fail
        go_ret
        exact ⟨by unfold chkS; rw [HB0.out, if_neg (by simp), if_neg (by rw [HZl.out]; exact H40.out), if_pos (Hf.out (by rw [HO.out]; rfl))] <;> rfl, B.out.trans (HB1.out.mono B.out.size)⟩
      | true =>
        have hb3 := below_alloc_ V1 (.cells #[.int .i64 gh] 3)
        have hr3 := heap_alloc_new_ V1 (.cells #[.int .i64 gh] 3)
        have k3 := within45 (some ⟨V1.heap.size, 0, none⟩) 1 1 [gh] 0 (sr - 1) _ (ints_one hr3) (by omega)
        rw [withI_one, HX2.out] at k3
        have K3 := Lib.hid k3
        clear k3 hr3
        have s0 : V1.cell? ⟨R, 0, none⟩ = some (.int .i64 sl) := by rw [cell_row hrV1]; rfl
        have s1 : V1.cell? ⟨R, 1, none⟩ = some (.int .i64 sr) := by rw [cell_row hrV1]; rfl
        have s2 : V1.cell? ⟨R, 2, none⟩ = some (.slice (some ⟨bz, oz, none⟩) n cap) := by rw [cell_row hrV1]; rfl
        have s3 : V1.cell? ⟨R, 3, none⟩ = some (.slice A2 kn kc) := by rw [cell_row hrV1]; rfl
        clear hrV1
        go_wp2_with fail
        refine K3.out.mono ?_
        rintro en w1 ⟨rfl, rfl⟩
        have HB3 := Lib.hid (HB1.out.trans (hb3.mono HB1.out.size))
        clear K3 hb3
        cases x2 with
        | false =>
          go_wp2_with fail
          go_ret
          exact ⟨by unfold chkS; rw [HB0.out, if_neg (by simp), if_neg (by rw [HZl.out]; exact H40.out), if_pos (Hf.out (by rw [HO.out]; rfl))] <;> rfl, B.out.trans (HB3.out.mono B.out.size)⟩
        | true =>
          go_wp2_with fail
          go_roundw
          case rel => exact ⟨k + 1, by omega, by go_num, Lib.hid (by rw [Hs.out, Hw.out, HO.out]; rfl), HB3⟩
          case measure => simp [intOf]; omega
    · obtain rfl : k = n := by omega
      have HA := Lib.hid (show zs.all (okG sl sr) = true by have := Hw.out; rwa [List.take_of_length_le (by rw [HZl.out]; exact Nat.le_refl _)] at this)
      have k4 := different46 A k cap zs wk (S.out.below HBl.out (Nat.le_refl _)) hc9 hn
      obtain ⟨dd, hdd⟩ : ∃ dd, decide zs.Nodup = dd := ⟨_, rfl⟩
      rw [hdd] at k4
      have Hdd := Lib.hid hdd
      have K4 := Lib.hid k4
      clear k4 hdd
      have s0 : wk.cell? ⟨R, 0, none⟩ = some (.int .i64 sl) := by rw [cell_row hrk.out]; rfl
      have s1 : wk.cell? ⟨R, 1, none⟩ = some (.int .i64 sr) := by rw [cell_row hrk.out]; rfl
      have s2 : wk.cell? ⟨R, 2, none⟩ = some (.slice A k cap) := by rw [cell_row hrk.out]; rfl
      have s3 : wk.cell? ⟨R, 3, none⟩ = some (.slice A2 kn kc) := by rw [cell_row hrk.out]; rfl
      go_wp2_with fail
      refine K4.out.mono ?_
      rintro en w5 ⟨rfl, hb5⟩
      have HB5 := Lib.hid (HBl.out.trans (hb5.mono HBl.out.size))
      have hr5 := Lib.hid ((hb5.block R (lt_of_block hrk.out)).trans hrk.out)
      clear K4 hb5 s0 s1 s2 s3
      cases dd with
      | false =>
        go_wp2_with fail
        go_ret
        exact ⟨by unfold chkS; rw [HB0.out, if_neg (by simp), if_neg (by rw [HZl.out]; exact H40.out), HA.out, if_neg (by simp), Hdd.out, if_pos rfl] <;> rfl, B.out.trans (HB5.out.mono B.out.size)⟩
      | true =>
        have k6 := indexes41 A2 kn kc ks (k : Int) w5 (Y.out.below HB5.out (Nat.le_refl _)) (by omega)
        obtain ⟨ri, hri⟩ : ∃ ri, risI (k : Int) ks = ri := ⟨_, rfl⟩
        rw [hri] at k6
        have K6 := Lib.hid k6
        have Hri := Lib.hid hri
        clear k6 hri
        have s0 : w5.cell? ⟨R, 0, none⟩ = some (.int .i64 sl) := by rw [cell_row hr5.out]; rfl
        have s1 : w5.cell? ⟨R, 1, none⟩ = some (.int .i64 sr) := by rw [cell_row hr5.out]; rfl
        have s2 : w5.cell? ⟨R, 2, none⟩ = some (.slice A k cap) := by rw [cell_row hr5.out]; rfl
        have s3 : w5.cell? ⟨R, 3, none⟩ = some (.slice A2 kn kc) := by rw [cell_row hr5.out]; rfl
        go_wp2_with fail
        refine K6.out.mono ?_
        rintro en w6 ⟨rfl, rfl⟩
        cases ri with
        | false =>
          go_wp2_with fail
          go_ret
          exact ⟨by unfold chkS; rw [HB0.out, if_neg (by simp), if_neg (by rw [HZl.out]; exact H40.out), HA.out, if_neg (by simp), Hdd.out, if_neg (by simp), HZl.out, Hri.out, if_pos (by rfl)] <;> rfl, B.out.trans (HB5.out.mono B.out.size)⟩
        | true =>
          have k7 := apart47 sl sr A k cap zs A2 kn kc A2 kn kc ks w6 (S.out.below HB5.out (Nat.le_refl _)) (Y.out.below HB5.out (Nat.le_refl _)) (ris_in Hri.out HNl.out) hn hk
          obtain ⟨ab, hab⟩ : ∃ ab, apB zs ks = ab := ⟨_, rfl⟩
          rw [hab] at k7
          have K7 := Lib.hid k7
          have Hab := Lib.hid hab
          clear k7 hab
          go_wp2_with fail
          refine K7.out.mono ?_
          rintro en w7 ⟨rfl, hb7⟩
          have HB7 := Lib.hid (B.out.trans ((HB5.out.trans (hb7.mono HB5.out.size)).mono B.out.size))
          clear K7 hb7
          cases ab with
          | false =>
            go_wp2_with fail
            go_ret
            exact ⟨by unfold chkS; rw [HB0.out, if_neg (by simp), if_neg (by rw [HZl.out]; exact H40.out), HA.out, if_neg (by simp), Hdd.out, if_neg (by simp), HZl.out, Hri.out, Hab.out, if_pos (by rfl)] <;> rfl, HB7.out⟩
          | true =>
            go_wp2_with fail
            go_ret
            exact ⟨by unfold chkS; rw [HB0.out, if_neg (by simp), if_neg (by rw [HZl.out]; exact H40.out), HA.out, if_neg (by simp), Hdd.out, if_neg (by simp), HZl.out, Hri.out, Hab.out, if_neg (by simp)] <;> rfl, HB7.out⟩
end
end Go.Proofs.Ytnodkgejggnehaa

namespace Go.Proofs.Ytnodkgejggnehaa
set_option linter.unusedSimpArgs false
set_option linter.unusedVariables false
open Go.RowKit Go.Shelf
/-- A valid sheet. -/
theorem chkS_zero {sl sr : Int} {zs : List Rg} {ks : List Int} (h : chkS sl sr zs ks = 0) : (1 ≤ sl ∧ sl ≤ 12 ∧ 1 ≤ sr ∧ sr ≤ 12) ∧ zs.length ≤ 40 ∧ zs.all (okG sl sr) = true ∧ zs.Nodup ∧ risI (zs.length : Int) ks = true ∧ apB zs ks = true := by
  unfold chkS at h
  by_cases h1 : (inB 1 12 sl && inB 1 12 sr) = false
  · rw [if_pos h1] at h; exact absurd h (by decide)
  by_cases h2 : 40 < zs.length
  · rw [if_neg h1, if_pos h2] at h; exact absurd h (by decide)
  by_cases h3 : zs.all (okG sl sr) = false
  · rw [if_neg h1, if_neg h2, if_pos h3] at h; exact absurd h (by decide)
  by_cases h4 : decide zs.Nodup = false
  · rw [if_neg h1, if_neg h2, if_neg h3, if_pos h4] at h; exact absurd h (by decide)
  by_cases h5 : (risI (zs.length : Int) ks && apB zs ks) = false
  · rw [if_neg h1, if_neg h2, if_neg h3, if_neg h4, if_pos h5] at h; exact absurd h (by decide)
  rw [Bool.not_eq_false] at h1 h3 h4 h5
  rw [Bool.and_eq_true, inB_iff, inB_iff] at h1
  rw [Bool.and_eq_true] at h5
  exact ⟨⟨h1.1.1, h1.1.2, h1.2.1, h1.2.2⟩, by omega, h3, of_decide_eq_true h4, h5.1, h5.2⟩
/-- The error of a joining. -/
def chkJ (sl sr : Int) (zs : List Rg) (ks js : List Int) : Int := if chkS sl sr zs ks ≠ 0 then chkS sl sr zs ks else if risI (zs.length : Int) js = false then 3 else if (apB zs js && subI js ks) = false then 16 else 0
theorem chkJ_zero {sl sr : Int} {zs : List Rg} {ks js : List Int} (h : chkJ sl sr zs ks js = 0) : chkS sl sr zs ks = 0 ∧ risI (zs.length : Int) js = true ∧ apB zs js = true ∧ subI js ks = true := by
  unfold chkJ at h
  by_cases h1 : chkS sl sr zs ks ≠ 0
  · rw [if_pos h1] at h; exact absurd h h1
  by_cases h2 : risI (zs.length : Int) js = false
  · rw [if_neg h1, if_pos h2] at h; exact absurd h (by decide)
  by_cases h3 : (apB zs js && subI js ks) = false
  · rw [if_neg h1, if_neg h2, if_pos h3] at h; exact absurd h (by decide)
  rw [Bool.not_eq_false] at h2 h3
  rw [Bool.and_eq_true] at h3
  exact ⟨Decidable.not_not.1 h1, h2, h3.1, h3.2⟩
section
attribute [local go_sem ↓] exec_app at_app
attribute [local go_sem] Oper.semAt_some
set_option maxRecDepth 100000 in
set_option maxHeartbeats 4000000 in
theorem checkJoining20 (sl sr : Int) (A : Option Addr) (n cap : Nat) (zs : List Rg) (A2 : Option Addr) (kn kc : Nat) (ks : List Int) (A3 : Option Addr) (m mc : Nat) (js : List Int) (w : World) (h : Rgs w A n zs) (hI : Ints w A2 kn ks) (hJ : Ints w A3 m js) (hc9 : n ≤ cap) (hn : n ≤ 1000000) (hk : kn ≤ 100000) (hm : m ≤ 100000) :
    Calls Try.prog 20 #[.agg #[.int .i64 sl, .int .i64 sr, .slice A n cap, .slice A2 kn kc], .slice A3 m mc] w fun e w' => e = .returned (.int .i64 (chkJ sl sr zs ks js)) ∧ Below w.heap.size w w' := by
  have hb0 := below_alloc_ w (.cells #[.int .i64 sl, .int .i64 sr, .slice A n cap, .slice A2 kn kc] 25)
  have hr0 := heap_alloc_new_ w (.cells #[.int .i64 sl, .int .i64 sr, .slice A n cap, .slice A2 kn kc] 25)
  obtain ⟨w0, hW0⟩ : ∃ w0, w.alloc (.cells #[.int .i64 sl, .int .i64 sr, .slice A n cap, .slice A2 kn kc] 25) = w0 := ⟨_, rfl⟩
  obtain ⟨R, hR⟩ : ∃ R, w.heap.size = R := ⟨_, rfl⟩
  rw [hW0] at hb0 hr0
  rw [hR] at hr0
  have HZl := Lib.hid h.1
  have S := Lib.hid (h.below hb0 (Nat.le_refl _))
  have HNl := Lib.hid hI.1
  have Y := Lib.hid (hI.below hb0 (Nat.le_refl _))
  have HJl := Lib.hid hJ.1
  have X := Lib.hid (hJ.below hb0 (Nat.le_refl _))
  have B := Lib.hid hb0
  have HW0 := Lib.hid hW0
  have HR := Lib.hid hR
  have hrow := Lib.hid hr0
  clear h hI hJ hb0 hr0 hW0 hR
  go_enter Try.func20, Try.ntmps20
  go_wp2_with fail
  rw [HW0.out]
  try rw [HR.out]
  have s0 : w0.cell? ⟨R, 0, none⟩ = some (.int .i64 sl) := by rw [cell_row hrow.out]; rfl
  have s1 : w0.cell? ⟨R, 1, none⟩ = some (.int .i64 sr) := by rw [cell_row hrow.out]; rfl
  have s2 : w0.cell? ⟨R, 2, none⟩ = some (.slice A n cap) := by rw [cell_row hrow.out]; rfl
  have s3 : w0.cell? ⟨R, 3, none⟩ = some (.slice A2 kn kc) := by rw [cell_row hrow.out]; rfl
  obtain ⟨c0, hc0⟩ : ∃ c0, chkS sl sr zs ks = c0 := ⟨_, rfl⟩
  have k0 := checkSheet18 sl sr A n cap zs A2 kn kc ks w0 S.out Y.out hc9 hn hk
  rw [hc0] at k0
  have K0 := Lib.hid k0
  have HC := Lib.hid hc0
  clear k0 hc0
  try go_wp2_with fail
  refine K0.out.mono ?_
  rintro en w1 ⟨rfl, hb1⟩
  have hr1 := Lib.hid ((hb1.block R (lt_of_block hrow.out)).trans hrow.out)
  replace S := Lib.hid (S.out.below hb1 (Nat.le_refl _))
  replace Y := Lib.hid (Y.out.below hb1 (Nat.le_refl _))
  replace X := Lib.hid (X.out.below hb1 (Nat.le_refl _))
  replace B := Lib.hid (B.out.trans (hb1.mono B.out.size))
  clear K0 hb1 s0 s1 s2 s3
  by_cases h0 : c0 = 0
  rotate_left
  · have d0 : (c0 != 0) = true := by rw [bne_iff_ne]; exact h0
    have H0 := Lib.hid h0
    clear h0
    go_wp2_with fail
    go_ret
    exact ⟨by unfold chkJ; rw [HC.out, if_pos H0.out] <;> rfl, B.out⟩
  subst h0
  have s0 : w1.cell? ⟨R, 0, none⟩ = some (.int .i64 sl) := by rw [cell_row hr1.out]; rfl
  have s1 : w1.cell? ⟨R, 1, none⟩ = some (.int .i64 sr) := by rw [cell_row hr1.out]; rfl
  have s2 : w1.cell? ⟨R, 2, none⟩ = some (.slice A n cap) := by rw [cell_row hr1.out]; rfl
  have s3 : w1.cell? ⟨R, 3, none⟩ = some (.slice A2 kn kc) := by rw [cell_row hr1.out]; rfl
  have k1 := indexes41 A3 m mc js (n : Int) w1 X.out (by omega)
  obtain ⟨ri, hri⟩ : ∃ ri, risI (n : Int) js = ri := ⟨_, rfl⟩
  rw [hri] at k1
  have K1 := Lib.hid k1
  have Hri := Lib.hid hri
  clear k1 hri
  go_wp2_with fail
  refine K1.out.mono ?_
  rintro en w2 ⟨rfl, rfl⟩
  clear K1
  cases ri with
  | false =>
    go_wp2_with fail
    go_ret
    exact ⟨by unfold chkJ; rw [HC.out, if_neg (by simp), HZl.out, Hri.out, if_pos rfl] <;> rfl, B.out⟩
  | true =>
    have k2 := apart47 sl sr A n cap zs A2 kn kc A3 m mc js w2 S.out X.out (ris_in Hri.out HJl.out) hn hm
    obtain ⟨ab, hab⟩ : ∃ ab, apB zs js = ab := ⟨_, rfl⟩
    rw [hab] at k2
    have K2 := Lib.hid k2
    have Hab := Lib.hid hab
    clear k2 hab
    go_wp2_with fail
    refine K2.out.mono ?_
    rintro en w3 ⟨rfl, hb3⟩
    have HB3 := Lib.hid (B.out.trans (hb3.mono B.out.size))
    have hr3 := Lib.hid ((hb3.block R (lt_of_block hr1.out)).trans hr1.out)
    replace Y := Lib.hid (Y.out.below hb3 (Nat.le_refl _))
    replace X := Lib.hid (X.out.below hb3 (Nat.le_refl _))
    clear K2 hb3 s0 s1 s2 s3
    cases ab with
    | false =>
      go_wp2_with fail
      go_ret
      exact ⟨by unfold chkJ; rw [HC.out, if_neg (by simp), HZl.out, Hri.out, if_neg (by simp), Hab.out, if_pos (by rfl)] <;> rfl, HB3.out⟩
    | true =>
      have k4 := contains49 A3 m mc js A2 kn kc ks w3 X.out Y.out (by omega) (by omega)
      obtain ⟨sb, hsb⟩ : ∃ sb, subI js ks = sb := ⟨_, rfl⟩
      rw [hsb] at k4
      have K4 := Lib.hid k4
      have Hsb := Lib.hid hsb
      clear k4 hsb
      have s0 : w3.cell? ⟨R, 0, none⟩ = some (.int .i64 sl) := by rw [cell_row hr3.out]; rfl
      have s1 : w3.cell? ⟨R, 1, none⟩ = some (.int .i64 sr) := by rw [cell_row hr3.out]; rfl
      have s2 : w3.cell? ⟨R, 2, none⟩ = some (.slice A n cap) := by rw [cell_row hr3.out]; rfl
      have s3 : w3.cell? ⟨R, 3, none⟩ = some (.slice A2 kn kc) := by rw [cell_row hr3.out]; rfl
      go_wp2_with fail
      refine K4.out.mono ?_
      rintro en w4 ⟨rfl, rfl⟩
      clear K4
      cases sb with
      | false =>
        go_wp2_with fail
        go_ret
        exact ⟨by unfold chkJ; rw [HC.out, if_neg (by simp), HZl.out, Hri.out, if_neg (by simp), Hab.out, Hsb.out, if_pos (by rfl)] <;> rfl, HB3.out⟩
      | true =>
        go_wp2_with fail
        go_ret
        exact ⟨by unfold chkJ; rw [HC.out, if_neg (by simp), HZl.out, Hri.out, if_neg (by simp), Hab.out, Hsb.out, if_neg (by simp)] <;> rfl, HB3.out⟩
end
end Go.Proofs.Ytnodkgejggnehaa

namespace Go.Proofs.Ytnodkgejggnehaa
set_option linter.unusedSimpArgs false
set_option linter.unusedVariables false
open Go.RowKit Go.Shelf
theorem ris_prv {c : Int} {zs : List Int} {k : Nat} (h : risK c zs k = true) : -1 ≤ prvI zs k := by
  unfold prvI
  by_cases hk : k = 0
  · rw [if_pos hk]; omega
  · rw [if_neg hk]
    have := ris_at h (k - 1) (by omega)
    omega
/-- Two links have an item in common. -/
def meB (a b : Rg) : Bool := (a.lo == b.lo) || (a.hi == b.hi)
def nmG (zs : List Rg) (ns : List Int) (k : Nat) : Rg := gAt zs (iAt ns k).toNat
theorem lfS_mem {zs : List Rg} {ns : List Int} {x : Int} : x ∈ lfS zs ns ↔ ∃ j, j < ns.length ∧ (nmG zs ns j).lo = x := by
  unfold lfS
  rw [List.mem_map]
  constructor
  · rintro ⟨y, hy, rfl⟩
    obtain ⟨j, hj, rfl⟩ := List.getElem_of_mem hy
    exact ⟨j, hj, by unfold nmG; rw [iAt_eq hj]⟩
  · rintro ⟨j, hj, rfl⟩
    exact ⟨ns[j], List.getElem_mem hj, by unfold nmG; rw [iAt_eq hj]⟩
theorem rtS_mem {zs : List Rg} {ns : List Int} {x : Int} : x ∈ rtS zs ns ↔ ∃ j, j < ns.length ∧ (nmG zs ns j).hi = x := by
  unfold rtS
  rw [List.mem_map]
  constructor
  · rintro ⟨y, hy, rfl⟩
    obtain ⟨j, hj, rfl⟩ := List.getElem_of_mem hy
    exact ⟨j, hj, by unfold nmG; rw [iAt_eq hj]⟩
  · rintro ⟨j, hj, rfl⟩
    exact ⟨ns[j], List.getElem_mem hj, by unfold nmG; rw [iAt_eq hj]⟩
theorem nmG_take {zs : List Rg} {ns : List Int} {k j : Nat} (hj : j < k) (hk : k ≤ ns.length) : nmG zs (ns.take k) j = nmG zs ns j := by
  unfold nmG
  rw [iAt_eq (show j < (ns.take k).length by rw [List.length_take]; omega), iAt_eq (show j < ns.length by omega), List.getElem_take]
theorem nod_snoc {l : List Int} {x : Int} : (l ++ [x]).Nodup ↔ l.Nodup ∧ x ∉ l := by
  rw [List.nodup_append]
  constructor
  · rintro ⟨h1, _, h3⟩
    exact ⟨h1, fun h => h3 _ h _ (List.mem_singleton.2 rfl) rfl⟩
  · rintro ⟨h1, h2⟩
    refine ⟨h1, List.nodup_cons.2 ⟨by simp, List.nodup_nil⟩, fun a ha b hb e => ?_⟩
    rw [List.mem_singleton.1 hb] at e
    exact h2 (e ▸ ha)
theorem ap_iff {zs : List Rg} {ns : List Int} : apB zs ns = true ↔ (lfS zs ns).Nodup ∧ (rtS zs ns).Nodup := by simp [apB]
theorem ap_step {zs : List Rg} {ns : List Int} {k : Nat} (hk : k < ns.length) : apB zs (ns.take (k + 1)) = true ↔ apB zs (ns.take k) = true ∧ ∀ j, j < k → meB (nmG zs ns k) (nmG zs ns j) = false := by
  rw [ap_iff, ap_iff, lfS_succ hk, rtS_succ hk, nod_snoc, nod_snoc, lfS_mem, rtS_mem]
  have hl : (ns.take k).length = k := by rw [List.length_take]; omega
  rw [hl]
  constructor
  · rintro ⟨⟨h1, h2⟩, h3, h4⟩
    refine ⟨⟨h1, h3⟩, fun j hj => ?_⟩
    unfold meB
    rw [Bool.or_eq_false_iff, beq_eq_false_iff_ne, beq_eq_false_iff_ne]
    exact ⟨fun e => h2 ⟨j, hj, by rw [nmG_take hj (by omega)]; exact e.symm⟩, fun e => h4 ⟨j, hj, by rw [nmG_take hj (by omega)]; exact e.symm⟩⟩
  · rintro ⟨⟨h1, h3⟩, h⟩
    refine ⟨⟨h1, fun ⟨j, hj, e⟩ => ?_⟩, h3, fun ⟨j, hj, e⟩ => ?_⟩
    · have := h j hj
      unfold meB at this
      rw [Bool.or_eq_false_iff, beq_eq_false_iff_ne, beq_eq_false_iff_ne] at this
      rw [nmG_take hj (by omega)] at e
      exact this.1 e.symm
    · have := h j hj
      unfold meB at this
      rw [Bool.or_eq_false_iff, beq_eq_false_iff_ne, beq_eq_false_iff_ne] at this
      rw [nmG_take hj (by omega)] at e
      exact this.2 e.symm
theorem nod_take_of {l : List Int} {k : Nat} (h : l.Nodup) : (l.take k).Nodup := h.sublist (List.take_sublist k l)
theorem ap_take {zs : List Rg} {ns : List Int} {k : Nat} (h : apB zs ns = true) : apB zs (ns.take k) = true := by
  rw [ap_iff] at h ⊢
  unfold lfS rtS at *
  rw [List.map_take, List.map_take]
  exact ⟨nod_take_of h.1, nod_take_of h.2⟩
theorem ap_stop {zs : List Rg} {ns : List Int} {k j : Nat} (hk : k < ns.length) (hj : j < k) (h : meB (nmG zs ns k) (nmG zs ns j) = true) : apB zs ns = false := by
  rw [← Bool.not_eq_true]
  intro h2
  have := (ap_step hk).1 (ap_take h2)
  rw [this.2 j hj] at h
  exact absurd h (by decide)
set_option maxRecDepth 100000 in
set_option maxHeartbeats 4000000 in
theorem rising43 (A : Option Addr) (n cap : Nat) (zs : List Int) (c : Int) (w : World) (h : Ints w A n zs) (hn : n ≤ 1000000) :
    Calls Try.prog 43 #[.slice A n cap, .int .i64 c] w fun e w' => e = .returned (.bool (risI c zs)) ∧ Below w.heap.size w w' := by
  have HN := Lib.hid h.1
  have HI := Lib.hid h
  clear h
  go_enter Try.func43, Try.ntmps43
  go_wp2_with fail
  go_loopw [5] (fun i wr => ∃ k : Nat, k ≤ n ∧ i = .int .i64 (k : Int) ∧ Hid (risK c zs k = true ∧ Below w.heap.size w wr)) (fun i _ => n - (intOf i).toNat)
  case atStart => exact ⟨0, Nat.zero_le _, rfl, Lib.hid ⟨rfl, Below.refl _ _⟩⟩
  case round =>
    obtain ⟨k, hk, rfl, HW⟩ := hrel
    obtain ⟨wk, rfl⟩ : ∃ wk, wk = wr := ⟨_, rfl⟩
    have HB := Lib.hid HW.out.2
    have HF := Lib.hid (show ∀ q, Below w.heap.size w (wk.drewN q) from fun q => HB.out.trans ((drew_b wk q).mono HB.out.size))
    by_cases hlt : k < n
    · obtain ⟨b, o, rfl, hc2⟩ := (HI.out.below HB.out (Nat.le_refl _)).2 (by omega)
      have x0 := hc2 k hlt
      have Hs := Lib.hid (risK_succ c zs k)
      have Hf := Lib.hid (fun h => risK_stop (c := c) (zs := zs) (k := k) (n := n) h hlt)
      have Hv := Lib.hid (ris_prv HW.out.1)
      obtain ⟨x, hx⟩ : ∃ x, iAt zs k = x := ⟨_, rfl⟩
      rw [hx] at x0 Hs Hf
      have HX := Lib.hid hx
      have i0 : (0 : Int) ≤ (k : Int) := by omega
      have i1 : (k : Int) < (n : Int) := by omega
      have hcx : ∀ a, (wk.drewN a).cell? ⟨b, o + k, none⟩ = some (.int .i64 x) := fun a => x0
      clear hx
      by_cases t1 : x < 0
      · have d1 : decide (x < 0) = true := decide_eq_true t1
        clear hc2
        go_wp2_with fail
        go_quiet (fail)
        go_wp2_with fail
        go_ret
        exact ⟨ret_bool (by unfold risI; rw [HN.out]; exact (Hf.out (by rw [decide_eq_false (show ¬ prvI zs k < x by have := Hv.out; omega)]; rfl)).symm), HF.out _⟩
      · have d1 : decide (x < 0) = false := decide_eq_false t1
        by_cases t2 : c ≤ x
        · have d2 : decide (c ≤ x) = true := decide_eq_true t2
          clear hc2
          go_wp2_with fail
          go_quiet (fail)
          go_wp2_with fail
          go_ret
          exact ⟨ret_bool (by unfold risI; rw [HN.out]; exact (Hf.out (by rw [decide_eq_false (show ¬ x < c by omega), Bool.and_false])).symm), HF.out _⟩
        · have d2 : decide (c ≤ x) = false := decide_eq_false t2
          have HR := Lib.hid (show 0 ≤ x ∧ x < c by omega)
          by_cases hk0 : k = 0
          · have HK0 := Lib.hid hk0
            have d3 : decide ((0 : Int) < (k : Int)) = false := decide_eq_false (by omega)
            have d4 : ¬ (0 : Int) < (k : Int) := by omega
            have d5 : decide (0 < k) = false := decide_eq_false (by omega)
            have d6 : ¬ 0 < k := by omega
            clear hc2 hk0
            go_wp2_with fail
            go_quiet (fail)
            go_wp2_with fail
            go_roundw
            case rel => exact ⟨k + 1, by omega, by go_num, Lib.hid ⟨by rw [Hs.out, HW.out.1, show prvI zs k = -1 by unfold prvI; rw [if_pos HK0.out], decide_eq_true (show -1 < x by have := HR.out; omega), decide_eq_true HR.out.2]; rfl, HF.out _⟩⟩
            case measure => simp [intOf]; omega
          · obtain ⟨q, rfl⟩ : ∃ q, k = q + 1 := ⟨k - 1, by omega⟩
            have y0 := hc2 q (by omega)
            have Hp := Lib.hid (show prvI zs (q + 1) = iAt zs q by unfold prvI; rw [if_neg (by omega), Nat.add_sub_cancel])
            obtain ⟨y, hy⟩ : ∃ y, iAt zs q = y := ⟨_, rfl⟩
            rw [hy] at y0 Hp
            have hcy : ∀ a, (wk.drewN a).cell? ⟨b, o + q, none⟩ = some (.int .i64 y) := fun a => y0
            have i2 : (0 : Int) ≤ (q : Int) := by omega
            have i3 : (q : Int) < (n : Int) := by omega
            have i4 : (q : Int) + 1 < (n : Int) := by omega
            have i5 : (0 : Int) ≤ (q : Int) + 1 := by omega
            have i6 : (0 : Int) < (q : Int) + 1 := by omega
            have e1 : ((q : Int) + 1).toNat = q + 1 := by omega
            have e2 : ((q + 1 : Nat) : Int) = (q : Int) + 1 := by omega
            have w1 : IntKind.i64.wrap ((q : Int) + 1 - 1) = (q : Int) := by rw [IntKind.wrap_i64]; omega
            have w3 : IntKind.i64.wrap (q : Int) = (q : Int) := by rw [IntKind.wrap_i64]; omega
            clear hc2 hy
            by_cases t3 : x ≤ y
            · have d3 : decide (x ≤ y) = true := decide_eq_true t3
              go_wp2_with fail
              go_quiet (fail)
              go_wp2_with fail
              go_ret
              exact ⟨ret_bool (by unfold risI; rw [HN.out]; exact (Hf.out (by rw [Hp.out, decide_eq_false (show ¬ y < x by omega)]; rfl)).symm), HF.out _⟩
            · have d3 : decide (x ≤ y) = false := decide_eq_false t3
              have HXY := Lib.hid (show y < x by omega)
              go_wp2_with fail
              go_quiet (fail)
              go_wp2_with fail
              go_roundw
              case rel => exact ⟨q + 2, by omega, by go_num, Lib.hid ⟨by rw [show q + 2 = q + 1 + 1 from rfl, Hs.out, HW.out.1, Hp.out, decide_eq_true HXY.out, decide_eq_true HR.out.2]; rfl, HF.out _⟩⟩
              case measure => simp [intOf]; omega
    · go_wp2_with fail
      go_ret
      exact ⟨ret_bool (by unfold risI; rw [HN.out, ← HW.out.1]; congr 1; omega), HB.out⟩
section
attribute [local go_sem ↓] exec_app at_app
attribute [local go_sem] Oper.semAt_some
set_option maxRecDepth 100000 in
set_option maxHeartbeats 4000000 in
theorem meet63 (al ah bl bh : Int) (w : World) :
    Calls Try.prog 63 #[.agg #[.int .i64 al, .int .i64 ah], .agg #[.int .i64 bl, .int .i64 bh]] w fun e w' => e = .returned (.bool (meB ⟨al, ah⟩ ⟨bl, bh⟩)) ∧ Below w.heap.size w w' := by
  have hb1 := below_alloc_ w (.cells #[.int .i64 al, .int .i64 ah] 55)
  have hr1 := heap_alloc_new_ w (.cells #[.int .i64 al, .int .i64 ah] 55)
  have hs1 : (w.alloc (.cells #[.int .i64 al, .int .i64 ah] 55)).heap.size = w.heap.size + 1 := by simp
  obtain ⟨w1, hW1⟩ : ∃ w1, w.alloc (.cells #[.int .i64 al, .int .i64 ah] 55) = w1 := ⟨_, rfl⟩
  have hb2 := below_alloc_ w1 (.cells #[.int .i64 bl, .int .i64 bh] 55)
  have hr2 := heap_alloc_new_ w1 (.cells #[.int .i64 bl, .int .i64 bh] 55)
  obtain ⟨w2, hW2⟩ : ∃ w2, w1.alloc (.cells #[.int .i64 bl, .int .i64 bh] 55) = w2 := ⟨_, rfl⟩
  obtain ⟨P, hP⟩ : ∃ P, w.heap.size = P := ⟨_, rfl⟩
  rw [hW1] at hb1 hr1 hs1
  rw [hW2] at hb2 hr2
  have hr12 := (hb2.block _ (lt_of_block hr1)).trans hr1
  rw [hs1] at hr2
  rw [hP] at hr2 hr12
  have HB := Lib.hid (hb1.trans (hb2.mono hb1.size))
  have HW1 := Lib.hid hW1
  have HW2 := Lib.hid hW2
  have HP := Lib.hid hP
  have HR1 := Lib.hid hr12
  have HR2 := Lib.hid hr2
  clear hb1 hb2 hr1 hr2 hr12 hs1 hW1 hW2 hP
  have x0 : w2.cell? ⟨P, 0, none⟩ = some (.int .i64 al) := by rw [cell_row HR1.out]; rfl
  have x1 : w2.cell? ⟨P, 1, none⟩ = some (.int .i64 ah) := by rw [cell_row HR1.out]; rfl
  have y0 : w2.cell? ⟨P + 1, 0, none⟩ = some (.int .i64 bl) := by rw [cell_row HR2.out]; rfl
  have y1 : w2.cell? ⟨P + 1, 1, none⟩ = some (.int .i64 bh) := by rw [cell_row HR2.out]; rfl
  obtain ⟨m, hm⟩ : ∃ m, meB ⟨al, ah⟩ ⟨bl, bh⟩ = m := ⟨_, rfl⟩
  have HM := Lib.hid hm
  unfold meB at hm
  simp only at hm
  obtain ⟨p, hp⟩ : ∃ p, (al == bl) = p := ⟨_, rfl⟩
  obtain ⟨q, hq⟩ : ∃ q, (ah == bh) = q := ⟨_, rfl⟩
  rw [hp, hq] at hm
  have Hm := Lib.hid hm
  rw [HM.out]
  clear hm
  go_enter Try.func63, Try.ntmps63
  cases p <;> cases q <;> (
    go_wp2_with fail
    rw [HW1.out, HW2.out]
    try rw [HP.out]
    try go_wp2_with fail
    try go_ret
    exact ⟨ret_bool Hm.out, by first | exact HB.out | (rw [← HP.out]; exact HB.out)⟩)
end
end Go.Proofs.Ytnodkgejggnehaa
