/- Stage 3: the program's CheckApart. -/
import Derived.Test.YtdfdlklglbefiaaCka
import Derived.Test.YtdfdlklglbefiaaShr
import Derived.Deep.RegionHeld3
namespace Go.Proofs.Ytdfdlklglbefiaa
set_option linter.unusedSimpArgs false
set_option linter.unusedVariables false
open Go.RowKit Go.Shelf

theorem ovl_ok {a b : Rg} (ha : okZ a = true) (hb : okZ b = true) : okZ (comm a b) = ovl a b := by
  have h1 := okZ_iff.1 ha
  have h2 := okZ_iff.1 hb
  rw [Bool.eq_iff_iff, okZ_iff]
  simp only [comm, ovl, decide_eq_true_eq]
  omega
theorem ints_row_ {w : World} {A : Option Addr} {n : Nat} {l : List Int} (h : Ints w A n l) (hn : 0 < n) : ∃ b o, A = some ⟨b, o, none⟩ ∧ ∀ j, j < n → w.cell? ⟨b, o + j, none⟩ = some (.int .i64 (iAt l j)) := h.2 hn
set_option maxRecDepth 100000 in
set_option maxHeartbeats 40000000 in
theorem checkApart23 (A : Option Addr) (n cap : Nat) (zs : List Rg) (A2 : Option Addr) (m cap2 : Nat) (ns : List Int) (w : World) (h : Rgs w A n zs) (hs : Ints w A2 m ns) (hm : m ≤ 1000000) (hmc : m ≤ cap2) :
    Calls Try.prog 23 #[.slice A n cap, .slice A2 m cap2] w fun e w' => e = .returned (.int .i64 (ckAp zs ns)) ∧ Below w.heap.size w w' := by
  have Hm := Lib.hid hs.1
  have Hn := Lib.hid h.1
  go_enter Try.func23, Try.ntmps23
  go_wp2_with fail
  refine (checkSong18 A n cap zs w h).mono ?_
  rintro e w2 ⟨rfl, hb⟩
  have H2 := Lib.hid (h.below hb (Nat.le_refl _))
  have Hs2 := Lib.hid (hs.below hb (Nat.le_refl _))
  obtain ⟨c, hc⟩ : ∃ c, chkS zs = c := ⟨_, rfl⟩
  rw [hc]
  have Hc := Lib.hid hc
  have Hb := Lib.hid hb
  clear hb h hs hc
  by_cases h0 : c = 0
  · subst h0
    have hn24 : n ≤ 24 := by have := (chkS_zero.1 Hc.out).2.1; have := Hn.out; omega
    have HZ := Lib.hid (chkS_zero.1 Hc.out).2.2
    have Hi := Lib.hid (show ckAp zs ns = if okN n ns = false then 3 else if apB zs ns then 0 else 14 by unfold ckAp; rw [if_neg (by simpa using Hc.out), Hn.out])
    go_wp2_with fail
    refine (within42 A2 m cap2 ns 0 ((n : Int) - 1) w2 Hs2.out hm).mono ?_
    rintro en W ⟨rfl, hW⟩
    obtain rfl : W = w2 := hW
    cases hwi : withI 0 ((n : Int) - 1) ns with
    | false =>
      have Hw := Lib.hid hwi
      clear hwi
      go_wp2_with fail
      go_ret
      exact ⟨ret_int (by rw [Hi.out, if_pos]; unfold okN; rw [Hw.out]; rfl), Hb.out⟩
    | true =>
      have Hw := Lib.hid hwi
      clear hwi
      go_wp2_with fail
      refine (rising44 A2 m cap2 ns _ Hs2.out hm).mono ?_
      rintro en w3 ⟨rfl, hb⟩
      replace H2 := Lib.hid (H2.out.below hb (Nat.le_refl _))
      replace Hs2 := Lib.hid (Hs2.out.below hb (Nat.le_refl _))
      replace Hb := Lib.hid (Hb.out.trans (hb.mono Hb.out.size))
      clear hb
      cases hri : risB ns with
      | false =>
        have Hr := Lib.hid hri
        clear hri
        go_wp2_with fail
        go_ret
        exact ⟨ret_int (by rw [Hi.out, if_pos]; unfold okN; rw [Hr.out, Bool.and_false]), Hb.out⟩
      | true =>
        have Hr := Lib.hid hri
        have Hok : Hid (okN n ns = true) := Lib.hid (by unfold okN; rw [Hw.out, hri]; rfl)
        clear hri
        go_wp2_with fail
        go_loopw [28] (fun i wr => ∃ k : Nat, k ≤ m ∧ i = .int .i64 (k : Int) ∧ Hid ((∀ a, a < k → ∀ b, b < a → ovl (nmAt zs ns a) (nmAt zs ns b) = false) ∧ Below w3.heap.size w3 wr)) (fun i _ => m - (intOf i).toNat)
        case atStart => exact ⟨0, Nat.zero_le _, rfl, Lib.hid ⟨fun a h => by omega, Below.refl _ _⟩⟩
        case round =>
          obtain ⟨k, hk, rfl, HI⟩ := hrel
          obtain ⟨wk, rfl⟩ : ∃ wk, wk = wr := ⟨_, rfl⟩
          by_cases hlt : k < m
          · have hns := Hs2.out.below HI.out.2 (Nat.le_refl _)
            obtain ⟨b, o, rfl, hc2⟩ := hns.2 (by omega)
            have x0 := hc2 k hlt
            have hwk : 0 ≤ iAt ns k ∧ iAt ns k ≤ (n : Int) - 1 := by
              have := List.all_eq_true.1 Hw.out _ (show iAt ns k ∈ ns by rw [iAt_eq (by rw [Hm.out]; exact hlt)]; exact List.getElem_mem _)
              exact inB_iff.1 this
            obtain ⟨p, hp⟩ : ∃ p : Nat, iAt ns k = (p : Int) := ⟨(iAt ns k).toNat, by omega⟩
            rw [hp] at x0 hwk
            have Hp := Lib.hid hp
            have i0 : (0 : Int) ≤ (k : Int) := by omega
            have i1 : (k : Int) < (m : Int) := by omega
            have i2 : k ≤ cap2 := by omega
            have i3 : (k : Int) ≤ (cap2 : Int) := by omega
            have Hpn : Hid (p < n) := Lib.hid (by omega)
            clear hp hns hwk hc2
            go_wp2_with fail
            go_loopw [37] (fun i wr => ∃ j : Nat, j ≤ k ∧ i = .int .i64 (j : Int) ∧ Hid ((∀ b, b < j → ovl (nmAt zs ns k) (nmAt zs ns b) = false) ∧ Below w3.heap.size w3 wr)) (fun i _ => k - (intOf i).toNat)
            case atStart => exact ⟨0, Nat.zero_le _, rfl, Lib.hid ⟨fun a h => by omega, HI.out.2⟩⟩
            case round =>
              obtain ⟨j, hj, rfl, HJ⟩ := hrel
              obtain ⟨wj, rfl⟩ : ∃ wj, wj = wr := ⟨_, rfl⟩
              clear x0
              by_cases hlt2 : j < k
              · have hns := Hs2.out.below HJ.out.2 (Nat.le_refl _)
                obtain ⟨b', o', he, hc2⟩ := hns.2 (by omega)
                cases he
                have z0 := hc2 j (by omega)
                have hwj : 0 ≤ iAt ns j ∧ iAt ns j ≤ (n : Int) - 1 := by
                  have := List.all_eq_true.1 Hw.out _ (show iAt ns j ∈ ns by rw [iAt_eq (by rw [Hm.out]; omega)]; exact List.getElem_mem _)
                  exact inB_iff.1 this
                obtain ⟨q, hq⟩ : ∃ q : Nat, iAt ns j = (q : Int) := ⟨(iAt ns j).toNat, by omega⟩
                rw [hq] at z0 hwj
                have Hq := Lib.hid hq
                have Hqn : Hid (q < n) := Lib.hid (by omega)
                have hpn := Hpn.out
                have hqn := Hqn.out
                obtain ⟨bz, oz, rfl, hcz⟩ := (H2.out.below HJ.out.2 (Nat.le_refl _)).2 (by omega)
                obtain ⟨x0, x1⟩ := hcz p hpn
                obtain ⟨y0, y1⟩ := hcz q hqn
                have hz1 : okZ (gAt zs p) = true := List.all_eq_true.1 HZ.out _ (by rw [gAt_eq (by rw [Hn.out]; exact hpn)]; exact List.getElem_mem _)
                have hz2 : okZ (gAt zs q) = true := List.all_eq_true.1 HZ.out _ (by rw [gAt_eq (by rw [Hn.out]; exact hqn)]; exact List.getElem_mem _)
                obtain ⟨g1, hg1⟩ : ∃ g, gAt zs p = g := ⟨_, rfl⟩
                obtain ⟨g2, hg2⟩ : ∃ g, gAt zs q = g := ⟨_, rfl⟩
                have Hov := Lib.hid (show ovl (nmAt zs ns k) (nmAt zs ns j) = okZ (comm g1 g2) by
                  rw [← hg1, ← hg2, ovl_ok hz1 hz2]; unfold nmAt; rw [Hp.out, Hq.out, Int.toNat_natCast, Int.toNat_natCast])
                rw [hg1] at x0 x1
                rw [hg2] at y0 y1
                have i4 : (0 : Int) ≤ (j : Int) := by omega
                have i5 : (j : Int) < (k : Int) := by omega
                have i6 : (0 : Int) ≤ (p : Int) := by omega
                have i7 : (p : Int) < (n : Int) := by omega
                have i8 : (0 : Int) ≤ (q : Int) := by omega
                have i9 : (q : Int) < (n : Int) := by omega
                clear hq hns hwj hc2 hcz hg1 hg2 hz1 hz2
                go_wp2_with fail
                refine wp_region_held_drew (S := fun w2 => Below wj.heap.size wj w2) (by kernel_rfl) (drew_b _ _) (fun hS0 => ?_)
                refine wpAnyH_take (i := 0) (oi := { dst := some 41, op := Go.Op.move (Go.Operand.tmp 0), type := 22, pos := "scale.go:66", after := #[], guard := none }) (v := .slice (some ⟨bz, oz, none⟩) n cap) rfl (by kernel_rfl) (by kernel_rfl) (by kernel_rfl) (fun _ _ _ h => h) (Or.inl ⟨by rfl, by intro w2 hSw; (try dsimp only at hSw); have e0 := (hSw.cell (p := ⟨bz, oz + p * 2, none⟩) (lt_of_cell x0)).trans x0; have e1 := (hSw.cell (p := ⟨bz, oz + p * 2 + 1, none⟩) (lt_of_cell x1)).trans x1; have e2 := (hSw.cell (p := ⟨bz, oz + q * 2, none⟩) (lt_of_cell y0)).trans y0; have e3 := (hSw.cell (p := ⟨bz, oz + q * 2 + 1, none⟩) (lt_of_cell y1)).trans y1; go_simp⟩) hS0 ?_
                try simp only [Act.put, List.setIfInBounds_toArray, List.set_cons_zero, List.set_cons_succ]
                refine wpAnyH_take (i := 1) (oi := { dst := some 42, op := Go.Op.move (Go.Operand.tmp 7), type := 3, pos := "scale.go:66", after := #[], guard := none }) (v := .int .i64 (p : Int)) rfl (by kernel_rfl) (by kernel_rfl) (by kernel_rfl) (fun _ _ _ h => h) (Or.inl ⟨by rfl, by intro w2 hSw; (try dsimp only at hSw); have e0 := (hSw.cell (p := ⟨bz, oz + p * 2, none⟩) (lt_of_cell x0)).trans x0; have e1 := (hSw.cell (p := ⟨bz, oz + p * 2 + 1, none⟩) (lt_of_cell x1)).trans x1; have e2 := (hSw.cell (p := ⟨bz, oz + q * 2, none⟩) (lt_of_cell y0)).trans y0; have e3 := (hSw.cell (p := ⟨bz, oz + q * 2 + 1, none⟩) (lt_of_cell y1)).trans y1; go_simp⟩) hS0 ?_
                try simp only [Act.put, List.setIfInBounds_toArray, List.set_cons_zero, List.set_cons_succ]
                refine wpAnyH_take (i := 2) (oi := { dst := some 43, op := Go.Op.indexAddr 22 (Go.Operand.tmp 41) (Go.Operand.tmp 42), type := 0, pos := "scale.go:66", after := #[{ on := 0, ground := Go.Ground.data }, { on := 1, ground := Go.Ground.data }], guard := none }) (v := .pointer (some ⟨bz, oz + p * 2, none⟩)) rfl (by kernel_rfl) (by kernel_rfl) (by kernel_rfl) (fun _ _ _ h => h) (Or.inl ⟨by rfl, by intro w2 hSw; (try dsimp only at hSw); have e0 := (hSw.cell (p := ⟨bz, oz + p * 2, none⟩) (lt_of_cell x0)).trans x0; have e1 := (hSw.cell (p := ⟨bz, oz + p * 2 + 1, none⟩) (lt_of_cell x1)).trans x1; have e2 := (hSw.cell (p := ⟨bz, oz + q * 2, none⟩) (lt_of_cell y0)).trans y0; have e3 := (hSw.cell (p := ⟨bz, oz + q * 2 + 1, none⟩) (lt_of_cell y1)).trans y1; go_simp⟩) hS0 ?_
                try simp only [Act.put, List.setIfInBounds_toArray, List.set_cons_zero, List.set_cons_succ]
                refine wpAnyH_take (i := 3) (oi := { dst := some 44, op := Go.Op.load 56 (Go.Operand.tmp 43), type := 56, pos := "scale.go:66", after := #[{ on := 2, ground := Go.Ground.data }], guard := none }) (v := .agg #[.int .i64 g1.lo, .int .i64 g1.hi]) rfl (by kernel_rfl) (by kernel_rfl) (by kernel_rfl) (fun _ _ _ h => h) (Or.inl ⟨by rfl, by intro w2 hSw; (try dsimp only at hSw); have e0 := (hSw.cell (p := ⟨bz, oz + p * 2, none⟩) (lt_of_cell x0)).trans x0; have e1 := (hSw.cell (p := ⟨bz, oz + p * 2 + 1, none⟩) (lt_of_cell x1)).trans x1; have e2 := (hSw.cell (p := ⟨bz, oz + q * 2, none⟩) (lt_of_cell y0)).trans y0; have e3 := (hSw.cell (p := ⟨bz, oz + q * 2 + 1, none⟩) (lt_of_cell y1)).trans y1; go_simp⟩) hS0 ?_
                try simp only [Act.put, List.setIfInBounds_toArray, List.set_cons_zero, List.set_cons_succ]
                refine wpAnyH_take (i := 4) (oi := { dst := some 45, op := Go.Op.move (Go.Operand.tmp 0), type := 22, pos := "scale.go:66", after := #[], guard := none }) (v := .slice (some ⟨bz, oz, none⟩) n cap) rfl (by kernel_rfl) (by kernel_rfl) (by kernel_rfl) (fun _ _ _ h => h) (Or.inl ⟨by rfl, by intro w2 hSw; (try dsimp only at hSw); have e0 := (hSw.cell (p := ⟨bz, oz + p * 2, none⟩) (lt_of_cell x0)).trans x0; have e1 := (hSw.cell (p := ⟨bz, oz + p * 2 + 1, none⟩) (lt_of_cell x1)).trans x1; have e2 := (hSw.cell (p := ⟨bz, oz + q * 2, none⟩) (lt_of_cell y0)).trans y0; have e3 := (hSw.cell (p := ⟨bz, oz + q * 2 + 1, none⟩) (lt_of_cell y1)).trans y1; go_simp⟩) hS0 ?_
                try simp only [Act.put, List.setIfInBounds_toArray, List.set_cons_zero, List.set_cons_succ]
                refine wpAnyH_take (i := 5) (oi := { dst := some 46, op := Go.Op.move (Go.Operand.tmp 9), type := 3, pos := "scale.go:66", after := #[], guard := none }) (v := .int .i64 (q : Int)) rfl (by kernel_rfl) (by kernel_rfl) (by kernel_rfl) (fun _ _ _ h => h) (Or.inl ⟨by rfl, by intro w2 hSw; (try dsimp only at hSw); have e0 := (hSw.cell (p := ⟨bz, oz + p * 2, none⟩) (lt_of_cell x0)).trans x0; have e1 := (hSw.cell (p := ⟨bz, oz + p * 2 + 1, none⟩) (lt_of_cell x1)).trans x1; have e2 := (hSw.cell (p := ⟨bz, oz + q * 2, none⟩) (lt_of_cell y0)).trans y0; have e3 := (hSw.cell (p := ⟨bz, oz + q * 2 + 1, none⟩) (lt_of_cell y1)).trans y1; go_simp⟩) hS0 ?_
                try simp only [Act.put, List.setIfInBounds_toArray, List.set_cons_zero, List.set_cons_succ]
                refine wpAnyH_take (i := 6) (oi := { dst := some 47, op := Go.Op.indexAddr 22 (Go.Operand.tmp 45) (Go.Operand.tmp 46), type := 0, pos := "scale.go:66", after := #[{ on := 4, ground := Go.Ground.data }, { on := 5, ground := Go.Ground.data }], guard := none }) (v := .pointer (some ⟨bz, oz + q * 2, none⟩)) rfl (by kernel_rfl) (by kernel_rfl) (by kernel_rfl) (fun _ _ _ h => h) (Or.inl ⟨by rfl, by intro w2 hSw; (try dsimp only at hSw); have e0 := (hSw.cell (p := ⟨bz, oz + p * 2, none⟩) (lt_of_cell x0)).trans x0; have e1 := (hSw.cell (p := ⟨bz, oz + p * 2 + 1, none⟩) (lt_of_cell x1)).trans x1; have e2 := (hSw.cell (p := ⟨bz, oz + q * 2, none⟩) (lt_of_cell y0)).trans y0; have e3 := (hSw.cell (p := ⟨bz, oz + q * 2 + 1, none⟩) (lt_of_cell y1)).trans y1; go_simp⟩) hS0 ?_
                try simp only [Act.put, List.setIfInBounds_toArray, List.set_cons_zero, List.set_cons_succ]
                refine wpAnyH_take (i := 7) (oi := { dst := some 48, op := Go.Op.load 56 (Go.Operand.tmp 47), type := 56, pos := "scale.go:66", after := #[{ on := 6, ground := Go.Ground.data }], guard := none }) (v := .agg #[.int .i64 g2.lo, .int .i64 g2.hi]) rfl (by kernel_rfl) (by kernel_rfl) (by kernel_rfl) (fun _ _ _ h => h) (Or.inl ⟨by rfl, by intro w2 hSw; (try dsimp only at hSw); have e0 := (hSw.cell (p := ⟨bz, oz + p * 2, none⟩) (lt_of_cell x0)).trans x0; have e1 := (hSw.cell (p := ⟨bz, oz + p * 2 + 1, none⟩) (lt_of_cell x1)).trans x1; have e2 := (hSw.cell (p := ⟨bz, oz + q * 2, none⟩) (lt_of_cell y0)).trans y0; have e3 := (hSw.cell (p := ⟨bz, oz + q * 2 + 1, none⟩) (lt_of_cell y1)).trans y1; go_simp⟩) hS0 ?_
                try simp only [Act.put, List.setIfInBounds_toArray, List.set_cons_zero, List.set_cons_succ]
                refine wpAnyH_ready (rs := [8]) (by kernel_rfl) (by simp) ?_
                refine AllReadyH.cons (o := { dst := some 49, op := Go.Op.call { callee := Go.Callee.value (Go.Operand.func 45), args := #[Go.Operand.tmp 44, Go.Operand.tmp 48], argTypes := #[56, 56] }, type := 56, pos := "scale.go:66", after := #[{ on := 3, ground := Go.Ground.data }, { on := 7, ground := Go.Ground.data }], guard := none }) rfl (fun K2 hK => ?_) AllReadyH.nil
                go_simp
                refine (common45 g1 g2 _).mono ?_
                rintro e9 w6 ⟨rfl, hb6⟩
                (try go_simp)
                refine hK.out _ _ (hS0.trans (hb6.mono hS0.size)) (fun hS1 => ?_)
                clear hK K2 hb6
                obtain ⟨c, hc⟩ : ∃ c, comm g1 g2 = c := ⟨_, rfl⟩
                rw [hc]
                have Hc := Lib.hid hc
                clear hc
                try simp only [Act.put, List.setIfInBounds_toArray, List.set_cons_zero, List.set_cons_succ]
                refine wpAnyH_ready (rs := [9]) (by kernel_rfl) (by simp) ?_
                refine AllReadyH.cons (o := { dst := some 50, op := Go.Op.buildSlice 22 1 #[(0, Go.Operand.tmp 49)], type := 22, pos := "scale.go:66", after := #[{ on := 8, ground := Go.Ground.data }], guard := none }) rfl (fun K2 hK => ?_) AllReadyH.nil
                go_simp
                have hb7 := below_alloc_ w6 (.cells #[.int .i64 c.lo, .int .i64 c.hi] 56)
                have hr7 : Rgs (w6.alloc (.cells #[.int .i64 c.lo, .int .i64 c.hi] 56)) (some ⟨w6.heap.size, 0, none⟩) 1 [c] := rgs_one (heap_alloc_new_ _ _)
                have HR7 := Lib.hid hr7
                clear hr7
                refine hK.out _ _ (hS1.trans (hb7.mono hS1.size)) (fun hS2 => ?_)
                clear hK K2 hb7
                try simp only [Act.put, List.setIfInBounds_toArray, List.set_cons_zero, List.set_cons_succ]
                refine wpAnyH_ready (rs := [10]) (by kernel_rfl) (by simp) ?_
                refine AllReadyH.cons (o := { dst := some 51, op := Go.Op.call { callee := Go.Callee.value (Go.Operand.func 43), args := #[Go.Operand.tmp 50], argTypes := #[22] }, type := 4, pos := "scale.go:66", after := #[{ on := 9, ground := Go.Ground.data }, { on := 8, ground := Go.Ground.chain }], guard := none }) rfl (fun K2 hK => ?_) AllReadyH.nil
                go_simp
                refine (valid43 (some ⟨w6.heap.size, 0, none⟩) 1 1 [c] _ HR7.out (by omega)).mono ?_
                rintro e10 w8 ⟨rfl, hb8⟩
                rw [validZ_one]
                (try go_simp)
                refine hK.out _ _ (hS2.trans (hb8.mono hS2.size)) (fun hS3 => ?_)
                clear hK K2 hb8
                try simp only [Act.put, List.setIfInBounds_toArray, List.set_cons_zero, List.set_cons_succ]
                refine wpAnyH_done (by kernel_rfl) ?_ _
                obtain ⟨vb, hvb⟩ : ∃ vb, okZ c = vb := ⟨_, rfl⟩
                have Hvb : Hid (ovl (nmAt zs ns k) (nmAt zs ns j) = vb) := Lib.hid (by rw [Hov.out, Hc.out, hvb])
                rw [hvb]
                have HBf := Lib.hid (HJ.out.2.trans (hS3.mono HJ.out.2.size))
                clear hvb hS0 hS1 hS2 hS3 x0 x1 y0 y1 z0 HR7
                cases vb with
                | true =>
                  go_wp2_with fail
                  go_ret
                  exact ⟨ret_int (by rw [Hi.out, if_neg (by rw [Hok.out]; simp), apB_false (by rw [Hm.out]; exact hlt) hlt2 Hvb.out]; rfl), Hb.out.trans (HBf.out.mono Hb.out.size)⟩
                | false =>
                  go_wp2_with fail
                  go_roundw
                  case rel => exact ⟨j + 1, by omega, by go_num, Lib.hid ⟨fun b hb => by
                      rcases Nat.lt_or_ge b j with h | h
                      · exact HJ.out.1 b h
                      · obtain rfl : b = j := by omega
                        exact Hvb.out, HBf.out⟩⟩
                  case measure => simp [intOf]; omega
              · have e : j = k := by omega
                subst e
                go_wp2_with fail
                go_roundw
                case rel => exact ⟨j + 1, by omega, by go_num, Lib.hid ⟨fun a ha b hb => by
                    rcases Nat.lt_or_ge a j with h | h
                    · exact HI.out.1 a h b hb
                    · obtain rfl : a = j := by omega
                      exact HJ.out.1 b hb, HJ.out.2⟩⟩
                case measure => simp [intOf]; omega
          · have e : k = m := by omega
            subst e
            go_wp2_with fail
            go_ret
            exact ⟨ret_int (by rw [Hi.out, if_neg (by rw [Hok.out]; simp), if_pos (apB_true (fun i hi k hk => HI.out.1 i (by have := Hm.out; omega) k hk))]), Hb.out.trans (HI.out.2.mono Hb.out.size)⟩
  · have d0 : (c != 0) = true := by rw [bne_iff_ne]; exact h0
    have H0 := Lib.hid h0
    clear h0
    go_wp2_with fail
    go_ret
    exact ⟨ret_int (by unfold ckAp; rw [if_pos (by rw [Hc.out]; exact H0.out), Hc.out]), Hb.out⟩
end Go.Proofs.Ytdfdlklglbefiaa
