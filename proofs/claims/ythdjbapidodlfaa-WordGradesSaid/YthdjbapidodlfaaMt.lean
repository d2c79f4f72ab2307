/- Stage 4: the matches of a board as a sequence. -/
import Derived.Test.YthdjbapidodlfaaCpl
import Derived.Test.YthdjbapidodlfaaRno
namespace Go.Proofs.Ythdjbapidodlfaa
set_option linter.unusedSimpArgs false
set_option linter.unusedVariables false
open Go.RowKit Go.Shelf
attribute [local go_sem ↓] exec_app at_app
attribute [local go_sem] Oper.semAt_some

def mtK (nm : List Int) (L : List (List Int)) (k : Nat) : List (List Int) :=
  (List.range k).flatMap fun i => cmpS nm L (iAt nm (wdA L 0 i)) (L.length - 1) [(i : Int), 0, 0, 0] 1
/-- The matches, in order. -/
def mtS (nm : List Int) (L : List (List Int)) : List (List Int) := mtK nm L (lAt L 0).length
theorem mtK_succ (nm : List Int) (L : List (List Int)) (k : Nat) : mtK nm L (k + 1) = mtK nm L k ++ cmpS nm L (iAt nm (wdA L 0 k)) (L.length - 1) [(k : Int), 0, 0, 0] 1 := by
  simp [mtK, List.range_succ]
theorem mtS_split (nm : List Int) (L : List (List Int)) (k : Nat) (hk : k < (lAt L 0).length) : ∃ rest, mtS nm L = mtK nm L k ++ cmpS nm L (iAt nm (wdA L 0 k)) (L.length - 1) [(k : Int), 0, 0, 0] 1 ++ rest := by
  obtain ⟨t, ht⟩ : ∃ t, (lAt L 0).length = k + 1 + t := ⟨(lAt L 0).length - (k + 1), by omega⟩
  refine ⟨((List.range t).map (fun i => k + 1 + i)).flatMap fun i => cmpS nm L (iAt nm (wdA L 0 i)) (L.length - 1) [(i : Int), 0, 0, 0] 1, ?_⟩
  rw [← mtK_succ]
  simp only [mtS, mtK, ht]
  rw [List.range_add, List.flatMap_append]
set_option maxRecDepth 100000 in
set_option maxHeartbeats 16000000 in
theorem matches74 {B D : Nat} {A : Option Addr} {n cap : Nat} {nm : List Int} {M : Nat} {A2 : Option Addr} {m cap2 : Nat} {L : List (List Int)} (hL : LV L m) (w0 w : World) (hB0 : Bo w0 B D A n cap nm M A2 m cap2 L) (hbl : Below w0.heap.size w0 w) (P1 : Nat) (hP1 : w.cell? ⟨P1, 0, none⟩ = some (.pointer (some ⟨B, 0, none⟩))) :
    SeqO Try.prog 74 #[.pointer (some ⟨P1, 0, none⟩)] (fun x => #[plA x]) (mtS nm L) (fun k => k < w0.heap.size ∨ k = P1) w := by
  intro l Mut J Jx W hW hMut hJ hJx hY h0
  have hblW : Below w0.heap.size w0 W := hbl.trans (hW.new.mono hbl.size)
  have c0 : W.cell? ⟨P1, 0, none⟩ = some (.pointer (some ⟨B, 0, none⟩)) := (hW.new.cell (p := ⟨P1, 0, none⟩) (lt_of_cell hP1)).trans hP1
  have hb := hB0.below hblW (Nat.le_refl _)
  have b1 := hb.c1
  have hm2 := hL.lo
  obtain ⟨b, o, rfl, hcw⟩ := hB0.lns.2 (by omega)
  obtain ⟨C, c, y0, yI, yc⟩ := hcw 0 (by omega)
  have x0 := (hblW.cell (p := ⟨b, o + 0, none⟩) (lt_of_cell y0)).trans y0
  obtain ⟨q, hq⟩ : ∃ q, (lAt L 0).length = q := ⟨_, rfl⟩
  rw [hq] at x0 yI yc
  rw [Nat.add_zero] at x0
  have hq8 : q ≤ 8 := by rw [← hq]; exact hL.le8 0 (by omega)
  have hm4 := hL.hi
  have j1 : (0 : Int) < (m : Int) := by omega
  have hm0 : 0 < m := by omega
  have HblW := Lib.hid hblW
  have HB0 := Lib.hid hB0
  have HMut := Lib.hid (show ∀ k, Mut k → (w0.heap.size ≤ k ∧ k < W.heap.size) ∧ k ≠ P1 from fun k e => ⟨⟨by
    have := (hMut k e).2; omega, (hMut k e).1⟩, fun e2 => (hMut k e).2 (.inr e2)⟩)
  have HL := Lib.hid hL
  have HI0 := Lib.hid yI
  have HJa := Lib.hid hJ
  have HY := Lib.hid hY
  have H0 := Lib.hid h0
  have Hq := Lib.hid hq
  have HC0 := Lib.hid c0
  clear hblW hb hcw y0 yI hJ hJx hY h0 hB0 hL hMut hq hW hbl hP1
  refine (callsIn_wide (n := 3)).1 ?_
  refine callsIn_of_wp Try.func74 rfl trivial ?_ rfl
  simp only [Try.ntmps74, List.size_toArray, List.length_cons, List.length_nil, Nat.reduceAdd, Nat.reduceSub, Array.replicate_succ, Array.replicate_zero, List.push_toArray, List.append_toArray, List.nil_append, List.cons_append]
  gi_wp2_with fail
  clear c0 b1 x0
  gi_loopw [3, 4, 12] (fun i x a wr => ∃ k : Nat, k ≤ q ∧ a = .int .i64 (k : Int) ∧ Hid (∃ O : Nat → Prop, (∀ k, O k → W.heap.size ≤ k ∧ k < wr.heap.size) ∧ J (mtK nm L k) O wr ∧ Keeps Mut W wr)) (fun i x a _ => q - (intOf a).toNat)
  case atStart => exact ⟨0, Nat.zero_le _, rfl, Lib.hid ⟨fun _ => False, fun _ e => e.elim, H0.out, Keeps.refl _ _⟩⟩
  case round =>
    obtain ⟨k, hk, rfl, HI⟩ := hrel
    by_cases hlt : k < q
    · have e1 : iAt (lAt L 0) k = ((wdA L 0 k : Nat) : Int) ∧ wdA L 0 k ≤ 100 := by
        obtain ⟨u, hu, hu1, hu2⟩ := HL.out.wd 0 hm0 (iAt (lAt L 0) k) (by rw [iAt_eq (by rw [Hq.out]; exact hlt)]; exact List.getElem_mem _)
        unfold wdA
        rw [hu]
        exact ⟨by simp, by simpa using hu2⟩
      obtain ⟨rest, hsp⟩ := mtS_split nm L k (by rw [Hq.out]; exact hlt)
      have hkk := mtK_succ nm L k
      rw [HL.out.len] at hsp hkk
      obtain ⟨bC, oC, rfl, hcC⟩ := HI0.out.2 (by omega)
      obtain ⟨u, hu⟩ : ∃ u, wdA L 0 k = u := ⟨_, rfl⟩
      rw [hu] at e1 hsp hkk
      obtain ⟨O, hO, hj, hK⟩ := HI.out
      have hblr : Below w0.heap.size w0 wr := HblW.out.trans (hK.below HblW.out.size (fun k hk e => by have := (HMut.out k e).1; omega))
      have x1 := (hblr.cell (p := ⟨bC, oC + k, none⟩) (lt_of_cell (hcC k hlt))).trans (hcC k hlt)
      rw [e1.1] at x1
      have hu100 := e1.2
      have i0 : (0 : Int) ≤ (k : Int) := by omega
      have i1 : (k : Int) < (q : Int) := by omega
      have Hsp := Lib.hid hsp
      have Hkk := Lib.hid hkk
      have HJ := Lib.hid hj
      have HK := Lib.hid hK
      have HO := Lib.hid hO
      have Hblr := Lib.hid hblr
      clear hsp hkk hj hK hblr e1 hu hcC HI hO
      gi_wp2_with fail
      rename_i K1 hK1 K0 hK0
      have HK1 := Lib.hid hK1
      have HK0 := Lib.hid hK0
      clear hK1 hK0
      refine Code.wpIn_mono (Q := Exit.then K0 (fun _ _ _ => False)) (fun e a w h => by
        cases e with
        | normal => exact h
        | ret => exact h.elim
        | exit id => exact h.elim
        | goto l => exact h.elim
        | panic c => exact h.elim
        | outgrown => exact h.elim) ?_
      have cBox : ∀ W', Keeps (fun k => Mut k ∨ O k) wr W' → W'.cell? ⟨P1, 0, none⟩ = some (.pointer (some ⟨B, 0, none⟩)) := fun W' h => by
        rw [keep_cells h (Nat.lt_of_lt_of_le (lt_of_cell HC0.out) HK.out.size) (fun e => e.elim (fun e => (HMut.out _ e).2 rfl) (fun e => by have := (HO.out _ e).1; have := lt_of_cell HC0.out; omega)), keep_cells HK.out (lt_of_cell HC0.out) (fun e => (HMut.out _ e).2 rfl)]; exact HC0.out
      have cBo : ∀ W', Keeps (fun k => Mut k ∨ O k) wr W' → Below w0.heap.size w0 W' := fun W' h => Hblr.out.trans (h.below Hblr.out.size (fun k hk e => by
        rcases e with e | e
        · have := (HMut.out k e).1; omega
        · have := (HO.out k e).1; have := HblW.out.size; omega))
      have cDic : ∀ W', Keeps (fun k => Mut k ∨ O k) wr W' → W'.cell? ⟨B, 0, none⟩ = some (.pointer (some ⟨D, 0, none⟩)) := fun W' h => (HB0.out.below (cBo W' h) (Nat.le_refl _)).c0
      have hS0 : Keeps (fun k => Mut k ∨ O k) wr wr.drew := Keeps.of_new (drew_b _ _)
      have HcBo := Lib.hid cBo
      clear cBo x1
      refine Out.region_R (z := 100) (S := fun W' => Keeps (fun k => Mut k ∨ O k) wr W') (by kernel_rfl) ?_
      refine Out.anyR_take (i := 0) (oi := { dst := some 17, op := Go.Op.load 72 (Go.Operand.tmp 1), type := 72, pos := "board.go:32", after := #[], guard := none }) (v := .pointer (some ⟨B, 0, none⟩)) rfl (by decide) (by kernel_rfl) (by kernel_rfl) (by kernel_rfl) (by kernel_rfl) (fun _ _ _ h => h) (Or.inl ⟨by rfl, by intro W' hSw; (try dsimp only at hSw); have y0 := cBox W' hSw; go_simp⟩) hS0 ?_
      try simp only [Act.put, List.setIfInBounds_toArray, List.set_cons_zero, List.set_cons_succ]
      refine Out.anyR_take (i := 3) (oi := { dst := some 20, op := Go.Op.load 72 (Go.Operand.tmp 1), type := 72, pos := "board.go:32", after := #[], guard := none }) (v := .pointer (some ⟨B, 0, none⟩)) rfl (by decide) (by kernel_rfl) (by kernel_rfl) (by kernel_rfl) (by kernel_rfl) (fun _ _ _ h => h) (Or.inl ⟨by rfl, by intro W' hSw; (try dsimp only at hSw); have y0 := cBox W' hSw; go_simp⟩) hS0 ?_
      try simp only [Act.put, List.setIfInBounds_toArray, List.set_cons_zero, List.set_cons_succ]
      refine Out.anyR_take (i := 4) (oi := { dst := some 21, op := Go.Op.nilCheck (Go.Operand.tmp 20), type := 0, pos := "board.go:32", after := #[{ on := 3, ground := Go.Ground.data }], guard := none }) (v := .pointer (some ⟨B, 0, none⟩)) rfl (by decide) (by kernel_rfl) (by kernel_rfl) (by kernel_rfl) (by kernel_rfl) (fun _ _ _ h => h) (Or.inl ⟨by rfl, by intro W' hSw; (try dsimp only at hSw); go_simp⟩) hS0 ?_
      try simp only [Act.put, List.setIfInBounds_toArray, List.set_cons_zero, List.set_cons_succ]
      refine Out.anyR_take (i := 5) (oi := { dst := some 22, op := Go.Op.fieldAddr 112 (Go.Operand.tmp 21) 0, type := 0, pos := "board.go:32", after := #[{ on := 4, ground := Go.Ground.data }], guard := none }) (v := .pointer (some ⟨B, 0, none⟩)) rfl (by decide) (by kernel_rfl) (by kernel_rfl) (by kernel_rfl) (by kernel_rfl) (fun _ _ _ h => h) (Or.inl ⟨by rfl, by intro W' hSw; (try dsimp only at hSw); go_simp⟩) hS0 ?_
      try simp only [Act.put, List.setIfInBounds_toArray, List.set_cons_zero, List.set_cons_succ]
      refine Out.anyR_take (i := 6) (oi := { dst := some 23, op := Go.Op.load 67 (Go.Operand.tmp 22), type := 67, pos := "board.go:32", after := #[{ on := 5, ground := Go.Ground.data }], guard := none }) (v := .pointer (some ⟨D, 0, none⟩)) rfl (by decide) (by kernel_rfl) (by kernel_rfl) (by kernel_rfl) (by kernel_rfl) (fun _ _ _ h => h) (Or.inl ⟨by rfl, by intro W' hSw; (try dsimp only at hSw); have y0 := cDic W' hSw; go_simp⟩) hS0 ?_
      try simp only [Act.put, List.setIfInBounds_toArray, List.set_cons_zero, List.set_cons_succ]
      refine Out.anyR_take (i := 1) (oi := { dst := some 18, op := Go.Op.move (Go.Operand.tmp 3), type := 3, pos := "board.go:32", after := #[], guard := none }) (v := .int .i64 (k : Int)) rfl (by decide) (by kernel_rfl) (by kernel_rfl) (by kernel_rfl) (by kernel_rfl) (fun _ _ _ h => h) (Or.inl ⟨by rfl, by intro W' hSw; (try dsimp only at hSw); go_simp⟩) hS0 ?_
      try simp only [Act.put, List.setIfInBounds_toArray, List.set_cons_zero, List.set_cons_succ]
      refine Out.anyR_take (i := 2) (oi := { dst := some 19, op := Go.Op.build 79 #[(0, Go.Operand.tmp 18)], type := 79, pos := "board.go:32", after := #[{ on := 1, ground := Go.Ground.data }], guard := none }) (v := .agg #[.int .i64 (k : Int), .int .i64 0, .int .i64 0, .int .i64 0]) rfl (by decide) (by kernel_rfl) (by kernel_rfl) (by kernel_rfl) (by kernel_rfl) (fun _ _ _ h => h) (Or.inl ⟨by rfl, by intro W' hSw; (try dsimp only at hSw); go_simp⟩) hS0 ?_
      try simp only [Act.put, List.setIfInBounds_toArray, List.set_cons_zero, List.set_cons_succ]
      refine Out.anyR_take (i := 7) (oi := { dst := some 24, op := Go.Op.move (Go.Operand.tmp 4), type := 3, pos := "board.go:32", after := #[], guard := none }) (v := .int .i64 (u : Int)) rfl (by decide) (by kernel_rfl) (by kernel_rfl) (by kernel_rfl) (by kernel_rfl) (fun _ _ _ h => h) (Or.inl ⟨by rfl, by intro W' hSw; (try dsimp only at hSw); go_simp⟩) hS0 ?_
      try simp only [Act.put, List.setIfInBounds_toArray, List.set_cons_zero, List.set_cons_succ]
      refine Out.anyR_take (i := 9) (oi := { dst := some 26, op := Go.Op.move (Go.Operand.tmp 0), type := 114, pos := "board.go:32", after := #[], guard := none }) (v := .func (.yield l) #[] #[]) rfl (by decide) (by kernel_rfl) (by kernel_rfl) (by kernel_rfl) (by kernel_rfl) (fun _ _ _ h => h) (Or.inl ⟨by rfl, by intro W' hSw; (try dsimp only at hSw); go_simp⟩) hS0 ?_
      try simp only [Act.put, List.setIfInBounds_toArray, List.set_cons_zero, List.set_cons_succ]
      obtain ⟨X, hX⟩ : ∃ X, wr.drew = X := ⟨_, rfl⟩
      rw [hX] at hS0 ⊢
      have HS0 := Lib.hid hS0
      have HJX := Lib.hid (show Keeps (fun k => W.heap.size ≤ k ∧ ¬ O k) wr X by rw [← hX]; exact Keeps.of_new (drew_b _ _))
      clear hX hS0 cBox cDic
      refine Out.anyR_one (i := 8) (by kernel_rfl) rfl (by rfl) ?_
      intro K hK
      have HKK := Lib.hid hK
      clear hK
      gi_wp2_with fail
      refine ⟨trivial, (callsIn_wide.2 (kin76 D A n cap nm M u X (HB0.out.below (HcBo.out X HS0.out) (Nat.le_refl _)).dic hu100)).mono ?_⟩
      rintro e w2 ⟨P2, Q, rfl, z2, zq, hP2, hQ, hb2⟩
      have hS2 : Keeps (fun k => Mut k ∨ O k) wr w2 := HS0.out.trans (Keeps.of_new hb2)
      have HS2 := Lib.hid hS2
      refine HKK.out _ _ (fun _ _ => hS2) ?_
      try simp only [Act.put, List.setIfInBounds_toArray, List.set_cons_zero, List.set_cons_succ]
      clear HKK K
      have hWr := HK.out.size
      have hWX := HS0.out.size
      have key := complete75 HL.out w0 HB0.out l Mut J Jx (mtS nm L) W.heap.size HblW.out.size (fun k e => (HMut.out k e).1) HJa.out HY.out (iAt nm u) P2 Q (by omega) (by omega) (m - 1) 1 [(k : Int), 0, 0, 0] (mtK nm L k) rest w2 O (by omega) (Nat.le_refl _) rfl Hsp.out (by have := HS2.out.size; omega) (fun k e => ⟨(HO.out k e).1, Nat.lt_of_lt_of_le (HO.out k e).2 HS2.out.size⟩) (fun e => by have := (HO.out _ e).2; omega) (fun e => by have := (HO.out _ e).2; omega) (HJa.out _ _ _ _ HJ.out (HJX.out.trans (Keeps.of_new hb2))) (HcBo.out w2 hS2) z2 zq
      rw [show plA [(k : Int), 0, 0, 0] = .agg #[.int .i64 (k : Int), .int .i64 0, .int .i64 0, .int .i64 0] from rfl, show ((1 : Nat) : Int) = 1 from rfl] at key
      have Key := Lib.hid key
      clear key hS2 hb2 z2 zq hP2 hQ hWr hWX
      refine Out.anyR_one (i := 10) (by kernel_rfl) rfl (by rfl) ?_
      intro K hK
      have HKK := Lib.hid hK
      clear hK
      gi_wp2_with fail
      refine ⟨trivial, (callsIn_wide.2 Key.out).mono ?_⟩
      rintro e w3 (⟨rfl, O2, hG3, hj3, hK3⟩ | ⟨rfl, O2, hG3, hx3, hK3⟩)
      · have hS3 : Keeps (fun k => Mut k ∨ O k) wr w3 := HS2.out.trans hK3
        have hO2 : ∀ k, O2 k → W.heap.size ≤ k ∧ k < w3.heap.size := fun k e => by
          have h1 := HK.out.size
          have h2 := HS2.out.size
          have h3 := hS3.size
          rcases hG3.2 k e with e1 | e1
          · have := HO.out k e1; omega
          · omega
        have HN3 := Lib.hid (show ∃ O : Nat → Prop, (∀ k, O k → W.heap.size ≤ k ∧ k < w3.heap.size) ∧ J (mtK nm L (k + 1)) O w3 ∧ Keeps Mut W w3 from ⟨O2, hO2, by rw [Hkk.out]; exact hj3, keeps_old ((HK.out.mono (fun _ _ e => .inl e)).trans (hS3.mono (fun k _ e => e.imp (fun e => e) (fun e => (HO.out k e).1))))⟩)
        refine HKK.out _ _ (fun _ _ => hS3) ?_
        clear HKK K Key hj3 hK3 hG3 hO2
        try simp only [Act.put, List.setIfInBounds_toArray, List.set_cons_zero, List.set_cons_succ]
        refine Out.anyR_take (i := 11) (oi := { dst := some 28, op := Go.Op.unOp Go.UnOp.not 4 (Go.Operand.tmp 27), type := 4, pos := "board.go:32", after := #[{ on := 10, ground := Go.Ground.data }], guard := none }) (v := .bool false) rfl (by decide) (by kernel_rfl) (by kernel_rfl) (by kernel_rfl) (by kernel_rfl) (fun _ _ _ h => h) (Or.inl ⟨by rfl, by intro W' hSw; (try dsimp only at hSw); go_simp⟩) hS3 ?_
        try simp only [Act.put, List.setIfInBounds_toArray, List.set_cons_zero, List.set_cons_succ]
        refine Out.anyR_done (by kernel_rfl) ?_ _
        refine HK0.out _ _ ?_
        clear hS3 HK0
        gi_wp2_with fail
        refine HK1.out _ _ ?_
        clear HK1
        gi_wp2_with fail
        go_roundw
        case rel => exact ⟨k + 1, by omega, by go_num, HN3⟩
        case measure => simp [intOf]; omega
      · have hS3 : Keeps (fun k => Mut k ∨ O k) wr w3 := HS2.out.trans hK3
        have hO2 : ∀ k, O2 k → W.heap.size ≤ k ∧ k < w3.heap.size := fun k e => by
          have h1 := HK.out.size
          have h2 := HS2.out.size
          have h3 := hS3.size
          rcases hG3.2 k e with e1 | e1
          · have := HO.out k e1; omega
          · omega
        have HX3 := Lib.hid hx3
        have HO2 := Lib.hid hO2
        refine HKK.out _ _ (fun _ _ => hS3) ?_
        clear HKK K Key hx3 hK3 hG3 hO2
        try simp only [Act.put, List.setIfInBounds_toArray, List.set_cons_zero, List.set_cons_succ]
        refine Out.anyR_take (i := 11) (oi := { dst := some 28, op := Go.Op.unOp Go.UnOp.not 4 (Go.Operand.tmp 27), type := 4, pos := "board.go:32", after := #[{ on := 10, ground := Go.Ground.data }], guard := none }) (v := .bool true) rfl (by decide) (by kernel_rfl) (by kernel_rfl) (by kernel_rfl) (by kernel_rfl) (fun _ _ _ h => h) (Or.inl ⟨by rfl, by intro W' hSw; (try dsimp only at hSw); go_simp⟩) hS3 ?_
        try simp only [Act.put, List.setIfInBounds_toArray, List.set_cons_zero, List.set_cons_succ]
        refine Out.anyR_done (by kernel_rfl) ?_ _
        refine HK0.out _ _ ?_
        clear hS3 HK0
        gi_wp2_with fail
        exact bodyPost_ret (results_none rfl _ _ _) rfl ⟨⟨_, rfl⟩, O2, HO2.out, .inr HX3.out⟩
    · have e : k = q := by omega
      subst e
      obtain ⟨O, hO, hj, hK⟩ := HI.out
      have HO := Lib.hid hO
      have HFin := Lib.hid (show J (mtS nm L) O wr by
        have := hj
        unfold mtS
        rw [Hq.out]; exact this)
      clear HI hO hj hK
      gi_wp2_with fail
      go_end0
      exact ⟨⟨_, rfl⟩, O, HO.out, .inl HFin.out⟩
end Go.Proofs.Ythdjbapidodlfaa
