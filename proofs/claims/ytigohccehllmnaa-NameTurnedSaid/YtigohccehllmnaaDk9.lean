/- Stage 6: what the document says of a cut. -/
import Derived.Test.YtigohccehllmnaaDj9
import Derived.Test.YtigohccehllmnaaPy
import Derived.Test.YtigohccehllmnaaDj
import Derived.Test.YtigohccehllmnaaPx
namespace Go.Proofs.Ytigohccehllmnaa
set_option linter.unusedSimpArgs false
set_option linter.unusedVariables false
open Go.RowKit Go.Shelf

theorem cut_side {l : NL} {ss : List Int} (h : layE l [] = 0) (hr : risI l.N ss = true) : cutE l ss = if sideB l ss = true then 0 else 16 := by
  unfold cutE
  rw [if_neg (by omega), if_neg (by rw [hr]; decide)]
  have e : subI ss l.ls = l.ls.all (fun x => decide (x ∈ ss)) := rfl
  rw [e]
  unfold sideB
  cases l.ls.all (fun x => decide (x ∈ ss)) <;> cases l.rs.any (fun x => decide (x ∈ ss)) <;> rfl
section
attribute [local go_sem ↓] exec_app at_app
attribute [local go_sem] Oper.semAt_some
set_option maxRecDepth 100000 in
set_option maxHeartbeats 16000000 in
theorem cut56 (l : NL) (SA : Option Addr) (sn sc : Nat) (ss : List Int) (w : World) (h : NLs w l) (hS : Ints w SA sn ss) (hn : sn ≤ 1000000) (hch : chkL l = 0) :
    Calls Try.prog 56 #[.agg #[.int .i64 l.N, .slice l.A l.n l.cap, .slice l.LA l.ln l.lc, .slice l.RA l.rn l.rc], .slice SA sn sc] w fun e w' => ∃ C cp, e = .returned (.tuple #[.slice C (ctK l.zs ss l.n).length cp, .int .i64 (csK l.zs ss l.n)]) ∧ (ctK l.zs ss l.n).length ≤ cp ∧ Ints w' C (ctK l.zs ss l.n).length (ctK l.zs ss l.n) ∧ Below w.heap.size w w' := by
  obtain ⟨R, hR⟩ : ∃ v, w.heap.size = v := ⟨_, rfl⟩
  have hb0 := below_alloc_ w (.cells #[.int .i64 l.N, .slice l.A l.n l.cap, .slice l.LA l.ln l.lc, .slice l.RA l.rn l.rc] 25)
  have hr0 := heap_alloc_new_ w (.cells #[.int .i64 l.N, .slice l.A l.n l.cap, .slice l.LA l.ln l.lc, .slice l.RA l.rn l.rc] 25)
  have hz0 : (w.alloc (.cells #[.int .i64 l.N, .slice l.A l.n l.cap, .slice l.LA l.ln l.lc, .slice l.RA l.rn l.rc] 25)).heap.size = w.heap.size + 1 := by simp
  obtain ⟨w0, hw0⟩ : ∃ v, w.alloc (.cells #[.int .i64 l.N, .slice l.A l.n l.cap, .slice l.LA l.ln l.lc, .slice l.RA l.rn l.rc] 25) = v := ⟨_, rfl⟩
  rw [hw0] at hb0 hr0 hz0
  rw [hR] at hr0 hz0
  have hB := hb0
  have S := Lib.hid (h.below hB (Nat.le_refl _))
  have SS := Lib.hid (hS.below hB (Nat.le_refl _))
  have X := Lib.hid hr0
  have HW0 := Lib.hid hw0
  have B := Lib.hid hB
  have HR := Lib.hid hR
  clear hB hR hb0 hr0 hz0 hw0 h hS
  have Hch := Lib.hid hch
  clear hch
  have ltX : R < w0.heap.size := lt_of_block X.out
  have zX0 : w0.cell? ⟨R, 0, none⟩ = some (.int .i64 l.N) := by rw [cell_row X.out]; rfl
  have zX1 : w0.cell? ⟨R, 1, none⟩ = some (.slice l.A l.n l.cap) := by rw [cell_row X.out]; rfl
  have zX2 : w0.cell? ⟨R, 2, none⟩ = some (.slice l.LA l.ln l.lc) := by rw [cell_row X.out]; rfl
  have zX3 : w0.cell? ⟨R, 3, none⟩ = some (.slice l.RA l.rn l.rc) := by rw [cell_row X.out]; rfl
  go_enter Try.func56, Try.ntmps56
  go_wp2_with fail
  try rw [HW0.out]
  try rw [HR.out]
  try simp only [Nat.add_assoc, Nat.reduceAdd]
  try go_wp2_with fail
  clear zX0 zX1 zX2 zX3 ltX
  have hnn := (chk_zero Hch.out).2.1
  go_loopw [6, 7, 8] (fun v cs i wr => ∃ k : Nat, k ≤ l.n ∧ i = .int .i64 (k : Int) ∧ cs = .int .i64 (csK l.zs ss k) ∧ Hid (∃ v0 : Value, v = v0 ∧ GrL w0 wr v0 (ctK l.zs ss k))) (fun v cs i _ => l.n - (intOf i).toNat)
  case atStart => exact ⟨0, Nat.zero_le _, rfl, rfl, Lib.hid ⟨_, rfl, GrI.nil _⟩⟩
  case round =>
    obtain ⟨k, hk9, rfl, rfl, HX⟩ := hrel
    obtain ⟨wk, rfl⟩ : ∃ wk, wk = wr := ⟨_, rfl⟩
    obtain ⟨v0, hv, hG⟩ := HX.out
    obtain rfl : v0 = _ := hv.symm
    clear HX
    have hbk := hG.2.2
    have Xk := Lib.hid ((hbk.block _ (lt_of_block X.out)).trans X.out)
    by_cases hlt : k < l.n
    · obtain ⟨bz, oz, hA, hcz⟩ := (S.out.zs.below hbk (Nat.le_refl _)).2 (by omega)
      obtain ⟨z0, z1, z2⟩ := hcz k hlt
      have hXk := Xk.out
      rw [hA] at hXk
      have zb : wk.cell? ⟨R, 1, none⟩ = some (.slice (some ⟨bz, oz, none⟩) l.n l.cap) := by rw [cell_row hXk]; rfl
      have ok := chk_tr Hch.out S.out k hlt
      have hbo := csK_le ss (chk_tr Hch.out S.out) k hk9
      have hlen := ctK_len l.zs ss k
      have hsl : ctK l.zs ss (k + 1) = if cutB l.zs (sB ss) k = true then ctK l.zs ss k ++ [(k : Int)] else ctK l.zs ss k := rfl
      have hsc : csK l.zs ss (k + 1) = csK l.zs ss k + ind (cutB l.zs (sB ss) k) (lAt l.zs k).tr := rfl
      have hcu : cutB l.zs (sB ss) k = (decide ((lAt l.zs k).one ∈ ss) != decide ((lAt l.zs k).two ∈ ss)) := rfl
      obtain ⟨g3, hg⟩ : ∃ g, lAt l.zs k = g := ⟨_, rfl⟩
      rw [hg] at z0 z1 z2 ok hsc hcu
      obtain ⟨gl, gh, gt⟩ := g3
      simp only at z0 z1 z2 ok hsc hcu
      obtain ⟨j1, hj1⟩ : ∃ v, decide (gl ∈ ss) = v := ⟨_, rfl⟩
      obtain ⟨j2, hj2⟩ : ∃ v, decide (gh ∈ ss) = v := ⟨_, rfl⟩
      rw [hj1, hj2] at hcu
      obtain ⟨q, hq⟩ : ∃ v, csK l.zs ss k = v := ⟨_, rfl⟩
      rw [hq] at hbo hsc ⊢
      have hb := below_alloc_ wk (.cells #[.int .i64 gl, .int .i64 gh, .int .i64 gt] 60)
      have hrP := heap_alloc_new_ wk (.cells #[.int .i64 gl, .int .i64 gh, .int .i64 gt] 60)
      obtain ⟨w3, hw3⟩ : ∃ v, wk.alloc (.cells #[.int .i64 gl, .int .i64 gh, .int .i64 gt] 60) = v := ⟨_, rfl⟩
      obtain ⟨P, hP⟩ : ∃ v, wk.heap.size = v := ⟨_, rfl⟩
      rw [hw3] at hb hrP
      rw [hP] at hrP
      have HP := Lib.hid hrP
      have HG := Lib.hid (show GrL w0 w3 v0 (ctK l.zs ss k) from hG.keep hb)
      have HO := Lib.hid (show ∀ j, v0.ownBlock = some j → j < P from fun j e => by have := own_lt hG.1 j e; omega)
      have SK := Lib.hid (SS.out.below (hG.2.2.trans (hb.mono hG.2.2.size)) (Nat.le_refl _))
      have Hw3 := Lib.hid hw3
      have HPe := Lib.hid hP
      have J1 := Lib.hid hj1
      have J2 := Lib.hid hj2
      have Hsl := Lib.hid hsl
      have Hsc := Lib.hid hsc
      have Hcu := Lib.hid hcu
      have Hlen := Lib.hid (show (ctK l.zs ss k).length ≤ 100000 by omega)
      have hwn : IntKind.i64.wrap (q + gt) = q + gt := IntWalk.i64_in _ (by omega)
      have i0 : (0 : Int) ≤ (k : Int) := by omega
      have i1 : (k : Int) < (l.n : Int) := by omega
      have i2 : (l.n : Int) ≤ 120 := by omega
      clear hb hrP hw3 hP hG hg hj1 hj2 hq ok hbo hlen hsl hsc hcu hv hbk hA hcz hXk
      go_upto_region 7 with fail
      rw [Hw3.out]
      rw [HPe.out]
      clear zb z0 z1 z2
      have ltHP : P < w3.heap.size := lt_of_block HP.out
      have zHP0 : w3.cell? ⟨P, 0, none⟩ = some (.int .i64 gl) := by rw [cell_row HP.out]; rfl
      have zHP1 : w3.cell? ⟨P, 1, none⟩ = some (.int .i64 gh) := by rw [cell_row HP.out]; rfl
      have zHP2 : w3.cell? ⟨P, 2, none⟩ = some (.int .i64 gt) := by rw [cell_row HP.out]; rfl
      refine wp_region_held_drew (S := fun w2 => Below w3.heap.size w3 w2) (by kernel_rfl) (drew_b _ _) (fun hS0 => ?_)
      refine wpAnyH_take (i := 0) (oi := { dst := some 22, op := Go.Op.move (Go.Operand.tmp 1), type := 23, pos := "ref.go:178", after := #[], guard := none }) (v := .slice SA sn sc) rfl (by kernel_rfl) (by kernel_rfl) (by kernel_rfl) (fun _ _ _ h => h) (Or.inl ⟨by rfl, by intro w2 hSw; (try dsimp only at hSw); have yHP0 := (hSw.cell (lt_of_cell zHP0)).trans zHP0; have yHP1 := (hSw.cell (lt_of_cell zHP1)).trans zHP1; have yHP2 := (hSw.cell (lt_of_cell zHP2)).trans zHP2;   go_simp⟩) hS0 ?_
      try simp only [Act.put, List.setIfInBounds_toArray, List.set_cons_zero, List.set_cons_succ]
      refine wpAnyH_take (i := 1) (oi := { dst := some 23, op := Go.Op.fieldAddr 60 (Go.Operand.tmp 9) 0, type := 0, pos := "ref.go:178", after := #[], guard := none }) (v := .pointer (some ⟨P, 0, none⟩)) rfl (by kernel_rfl) (by kernel_rfl) (by kernel_rfl) (fun _ _ _ h => h) (Or.inl ⟨by rfl, by intro w2 hSw; (try dsimp only at hSw); have yHP0 := (hSw.cell (lt_of_cell zHP0)).trans zHP0; have yHP1 := (hSw.cell (lt_of_cell zHP1)).trans zHP1; have yHP2 := (hSw.cell (lt_of_cell zHP2)).trans zHP2;   go_simp⟩) hS0 ?_
      try simp only [Act.put, List.setIfInBounds_toArray, List.set_cons_zero, List.set_cons_succ]
      refine wpAnyH_take (i := 2) (oi := { dst := some 24, op := Go.Op.load 3 (Go.Operand.tmp 23), type := 3, pos := "ref.go:178", after := #[{ on := 1, ground := Go.Ground.data }], guard := none }) (v := .int .i64 gl) rfl (by kernel_rfl) (by kernel_rfl) (by kernel_rfl) (fun _ _ _ h => h) (Or.inl ⟨by rfl, by intro w2 hSw; (try dsimp only at hSw); have yHP0 := (hSw.cell (lt_of_cell zHP0)).trans zHP0; have yHP1 := (hSw.cell (lt_of_cell zHP1)).trans zHP1; have yHP2 := (hSw.cell (lt_of_cell zHP2)).trans zHP2;   go_simp⟩) hS0 ?_
      try simp only [Act.put, List.setIfInBounds_toArray, List.set_cons_zero, List.set_cons_succ]
      refine wpAnyH_take (i := 4) (oi := { dst := some 26, op := Go.Op.move (Go.Operand.tmp 1), type := 23, pos := "ref.go:178", after := #[], guard := none }) (v := .slice SA sn sc) rfl (by kernel_rfl) (by kernel_rfl) (by kernel_rfl) (fun _ _ _ h => h) (Or.inl ⟨by rfl, by intro w2 hSw; (try dsimp only at hSw); have yHP0 := (hSw.cell (lt_of_cell zHP0)).trans zHP0; have yHP1 := (hSw.cell (lt_of_cell zHP1)).trans zHP1; have yHP2 := (hSw.cell (lt_of_cell zHP2)).trans zHP2;   go_simp⟩) hS0 ?_
      try simp only [Act.put, List.setIfInBounds_toArray, List.set_cons_zero, List.set_cons_succ]
      refine wpAnyH_take (i := 5) (oi := { dst := some 27, op := Go.Op.fieldAddr 60 (Go.Operand.tmp 9) 1, type := 0, pos := "ref.go:178", after := #[], guard := none }) (v := .pointer (some ⟨P, 1, none⟩)) rfl (by kernel_rfl) (by kernel_rfl) (by kernel_rfl) (fun _ _ _ h => h) (Or.inl ⟨by rfl, by intro w2 hSw; (try dsimp only at hSw); have yHP0 := (hSw.cell (lt_of_cell zHP0)).trans zHP0; have yHP1 := (hSw.cell (lt_of_cell zHP1)).trans zHP1; have yHP2 := (hSw.cell (lt_of_cell zHP2)).trans zHP2;   go_simp⟩) hS0 ?_
      try simp only [Act.put, List.setIfInBounds_toArray, List.set_cons_zero, List.set_cons_succ]
      refine wpAnyH_take (i := 6) (oi := { dst := some 28, op := Go.Op.load 3 (Go.Operand.tmp 27), type := 3, pos := "ref.go:178", after := #[{ on := 5, ground := Go.Ground.data }], guard := none }) (v := .int .i64 gh) rfl (by kernel_rfl) (by kernel_rfl) (by kernel_rfl) (fun _ _ _ h => h) (Or.inl ⟨by rfl, by intro w2 hSw; (try dsimp only at hSw); have yHP0 := (hSw.cell (lt_of_cell zHP0)).trans zHP0; have yHP1 := (hSw.cell (lt_of_cell zHP1)).trans zHP1; have yHP2 := (hSw.cell (lt_of_cell zHP2)).trans zHP2;   go_simp⟩) hS0 ?_
      try simp only [Act.put, List.setIfInBounds_toArray, List.set_cons_zero, List.set_cons_succ]
      refine wpAnyH_ready (rs := [3]) (by kernel_rfl) (by simp) ?_
      refine AllReadyH.cons (o := { dst := some 25, op := Go.Op.call { callee := Go.Callee.value (Go.Operand.func 38), args := #[Go.Operand.tmp 22, Go.Operand.tmp 24], argTypes := #[23, 3] }, type := 4, pos := "ref.go:178", after := #[{ on := 0, ground := Go.Ground.data }, { on := 2, ground := Go.Ground.data }], guard := none }) rfl (fun K2 hK => ?_) AllReadyH.nil
      go_simp
      refine (in38 SA sn sc ss gl _ (SK.out.below hS0 (Nat.le_refl _)) hn).mono ?_
      rintro e9 w3v1 ⟨rfl, hb9⟩
      replace hb9 := below_eq hb9
      rw [J1.out]
      (try go_simp)
      refine hK.out _ _ (hS0.trans (hb9.mono hS0.size)) (fun hS1 => ?_)
      clear hK K2 hb9
      try simp only [Act.put, List.setIfInBounds_toArray, List.set_cons_zero, List.set_cons_succ]
      refine wpAnyH_ready (rs := [7]) (by kernel_rfl) (by simp) ?_
      refine AllReadyH.cons (o := { dst := some 29, op := Go.Op.call { callee := Go.Callee.value (Go.Operand.func 38), args := #[Go.Operand.tmp 26, Go.Operand.tmp 28], argTypes := #[23, 3] }, type := 4, pos := "ref.go:178", after := #[{ on := 4, ground := Go.Ground.data }, { on := 6, ground := Go.Ground.data }, { on := 3, ground := Go.Ground.chain }], guard := none }) rfl (fun K2 hK => ?_) AllReadyH.nil
      go_simp
      refine (in38 SA sn sc ss gh w3v1 (SK.out.below hS1 (Nat.le_refl _)) hn).mono ?_
      rintro e9 w3v2 ⟨rfl, hb9⟩
      replace hb9 := below_eq hb9
      rw [J2.out]
      (try go_simp)
      refine hK.out _ _ (hS1.trans (hb9.mono hS1.size)) (fun hS2 => ?_)
      clear hK K2 hb9
      try simp only [Act.put, List.setIfInBounds_toArray, List.set_cons_zero, List.set_cons_succ]
      refine wpAnyH_take (i := 8) (oi := { dst := some 30, op := Go.Op.binOp Go.BinOp.neq 4 (Go.Operand.tmp 25) (Go.Operand.tmp 29) 4, type := 4, pos := "ref.go:178", after := #[{ on := 3, ground := Go.Ground.data }, { on := 7, ground := Go.Ground.data }], guard := none }) (v := .bool (!(j1 == j2))) rfl (by kernel_rfl) (by kernel_rfl) (by kernel_rfl) (fun _ _ _ h => h) (Or.inl ⟨by rfl, by intro w2 hSw; (try dsimp only at hSw); have yHP0 := (hSw.cell (lt_of_cell zHP0)).trans zHP0; have yHP1 := (hSw.cell (lt_of_cell zHP1)).trans zHP1; have yHP2 := (hSw.cell (lt_of_cell zHP2)).trans zHP2;   go_simp⟩) hS2 ?_
      try simp only [Act.put, List.setIfInBounds_toArray, List.set_cons_zero, List.set_cons_succ]
      refine wpAnyH_done (by kernel_rfl) ?_ _
      clear zHP0 zHP1 zHP2 ltHP
      have hb := hS2
      clear hS0 hS1 hS2
      replace SK := Lib.hid (SK.out.below hb (Nat.le_refl _))
      replace HG := Lib.hid (HG.out.below hb (Nat.le_refl _))
      replace HP := Lib.hid ((hb.block _ (lt_of_block HP.out)).trans HP.out)
      clear hb
      rcases j1 with _ | _ <;> rcases j2 with _ | _
      · have hF : cutB l.zs (sB ss) k = false := by rw [Hcu.out]; rfl
        have HL := Lib.hid (show ctK l.zs ss (k + 1) = ctK l.zs ss k by rw [Hsl.out, hF]; rfl)
        have HC := Lib.hid (show csK l.zs ss (k + 1) = q by rw [Hsc.out, hF, ind_f]; omega)
        clear hF
        go_wp2_with fail
        go_roundw
        case rel => exact ⟨k + 1, by omega, by go_num, by rw [HC.out], Lib.hid ⟨_, rfl, by rw [HL.out]; exact HG.out⟩⟩
        case measure => simp [intOf]; omega
      · have hF : cutB l.zs (sB ss) k = true := by rw [Hcu.out]; rfl
        have HL := Lib.hid (show ctK l.zs ss (k + 1) = ctK l.zs ss k ++ [(k : Int)] by rw [Hsl.out, hF]; rfl)
        have HC := Lib.hid (show csK l.zs ss (k + 1) = q + gt by rw [Hsc.out, hF, ind_t])
        obtain ⟨C, cc, W', hrun, hG2, hkp⟩ := GrI.app2 HG.out (k : Int) Hlen.out
        have HG2 := Lib.hid (show GrL w0 W' (.slice C ((ctK l.zs ss k).length + 1) cc) (ctK l.zs ss k ++ [(k : Int)]) from by unfold GrL; rw [List.length_append]; exact hG2)
        have hPW : W'.cell? ⟨P, 2, none⟩ = some (.int .i64 gt) := by rw [cell_row ((hkp.block _ (lt_of_block HP.out) (fun e => by have := HO.out _ e; omega)).trans HP.out)]; rfl
        clear hF hG2 hkp
        go_wp2_with fail
        go_roundw
        case rel => exact ⟨k + 1, by omega, by go_num, by rw [HC.out], Lib.hid ⟨_, rfl, by rw [HL.out]; exact HG2.out⟩⟩
        case measure => simp [intOf]; omega
      · have hF : cutB l.zs (sB ss) k = true := by rw [Hcu.out]; rfl
        have HL := Lib.hid (show ctK l.zs ss (k + 1) = ctK l.zs ss k ++ [(k : Int)] by rw [Hsl.out, hF]; rfl)
        have HC := Lib.hid (show csK l.zs ss (k + 1) = q + gt by rw [Hsc.out, hF, ind_t])
        obtain ⟨C, cc, W', hrun, hG2, hkp⟩ := GrI.app2 HG.out (k : Int) Hlen.out
        have HG2 := Lib.hid (show GrL w0 W' (.slice C ((ctK l.zs ss k).length + 1) cc) (ctK l.zs ss k ++ [(k : Int)]) from by unfold GrL; rw [List.length_append]; exact hG2)
        have hPW : W'.cell? ⟨P, 2, none⟩ = some (.int .i64 gt) := by rw [cell_row ((hkp.block _ (lt_of_block HP.out) (fun e => by have := HO.out _ e; omega)).trans HP.out)]; rfl
        clear hF hG2 hkp
        go_wp2_with fail
        go_roundw
        case rel => exact ⟨k + 1, by omega, by go_num, by rw [HC.out], Lib.hid ⟨_, rfl, by rw [HL.out]; exact HG2.out⟩⟩
        case measure => simp [intOf]; omega
      · have hF : cutB l.zs (sB ss) k = false := by rw [Hcu.out]; rfl
        have HL := Lib.hid (show ctK l.zs ss (k + 1) = ctK l.zs ss k by rw [Hsl.out, hF]; rfl)
        have HC := Lib.hid (show csK l.zs ss (k + 1) = q by rw [Hsc.out, hF, ind_f]; omega)
        clear hF
        go_wp2_with fail
        go_roundw
        case rel => exact ⟨k + 1, by omega, by go_num, by rw [HC.out], Lib.hid ⟨_, rfl, by rw [HL.out]; exact HG.out⟩⟩
        case measure => simp [intOf]; omega
    · obtain rfl : k = l.n := by omega
      have zb : wk.cell? ⟨R, 1, none⟩ = some (.slice l.A l.n l.cap) := by rw [cell_row Xk.out]; rfl
      obtain ⟨C, cap9, rfl, hcap, hI9, -⟩ := ints_own rfl hG.1
      have HI9 := Lib.hid hI9
      have HB := Lib.hid (B.out.trans (hbk.mono B.out.size))
      clear hI9 hG hbk
      go_wp2_with fail
      go_ret2
      exact ⟨C, cap9, rfl, hcap, HI9.out, HB.out⟩
set_option maxRecDepth 100000 in
set_option maxHeartbeats 16000000 in
theorem refCut25 (l : NL) (SA : Option Addr) (sn sc : Nat) (ss : List Int) (w : World) (h : NLs w l) (hS : Ints w SA sn ss) (hs6 : sn ≤ 1000000) :
    Calls Try.prog 25 #[.agg #[.int .i64 l.N, .slice l.A l.n l.cap, .slice l.LA l.ln l.lc, .slice l.RA l.rn l.rc], .slice SA sn sc] w fun e w' => (cutE l ss ≠ 0 ∧ e = .returned (.tuple #[.slice none 0 0, .int .i64 0, .int .i64 (cutE l ss)]) ∨
      cutE l ss = 0 ∧ ∃ C cp, e = .returned (.tuple #[.slice C (ctK l.zs ss l.n).length cp, .int .i64 (csK l.zs ss l.n), .int .i64 0]) ∧ (ctK l.zs ss l.n).length ≤ cp ∧ Ints w' C (ctK l.zs ss l.n).length (ctK l.zs ss l.n)) ∧ Below w.heap.size w w' := by
  obtain ⟨R, hR⟩ : ∃ v, w.heap.size = v := ⟨_, rfl⟩
  have hb0 := below_alloc_ w (.cells #[.int .i64 l.N, .slice l.A l.n l.cap, .slice l.LA l.ln l.lc, .slice l.RA l.rn l.rc] 25)
  have hr0 := heap_alloc_new_ w (.cells #[.int .i64 l.N, .slice l.A l.n l.cap, .slice l.LA l.ln l.lc, .slice l.RA l.rn l.rc] 25)
  have hz0 : (w.alloc (.cells #[.int .i64 l.N, .slice l.A l.n l.cap, .slice l.LA l.ln l.lc, .slice l.RA l.rn l.rc] 25)).heap.size = w.heap.size + 1 := by simp
  obtain ⟨w0, hw0⟩ : ∃ v, w.alloc (.cells #[.int .i64 l.N, .slice l.A l.n l.cap, .slice l.LA l.ln l.lc, .slice l.RA l.rn l.rc] 25) = v := ⟨_, rfl⟩
  rw [hw0] at hb0 hr0 hz0
  rw [hR] at hr0 hz0
  have hB := hb0
  have S := Lib.hid (h.below hB (Nat.le_refl _))
  have SS := Lib.hid (hS.below hB (Nat.le_refl _))
  have X := Lib.hid hr0
  have HW0 := Lib.hid hw0
  have B := Lib.hid hB
  have HR := Lib.hid hR
  clear hB hR hb0 hr0 hz0 hw0 h hS
  have ltX : R < w0.heap.size := lt_of_block X.out
  have zX0 : w0.cell? ⟨R, 0, none⟩ = some (.int .i64 l.N) := by rw [cell_row X.out]; rfl
  have zX1 : w0.cell? ⟨R, 1, none⟩ = some (.slice l.A l.n l.cap) := by rw [cell_row X.out]; rfl
  have zX2 : w0.cell? ⟨R, 2, none⟩ = some (.slice l.LA l.ln l.lc) := by rw [cell_row X.out]; rfl
  have zX3 : w0.cell? ⟨R, 3, none⟩ = some (.slice l.RA l.rn l.rc) := by rw [cell_row X.out]; rfl
  go_enter Try.func25, Try.ntmps25
  go_wp2_with fail
  try rw [HW0.out]
  try rw [HR.out]
  try simp only [Nat.add_assoc, Nat.reduceAdd]
  try go_wp2_with fail
  clear zX0 zX1 zX2 zX3 ltX
  refine (checkList18 l w0 S.out).mono ?_
  rintro en w1 ⟨rfl, hb⟩
  replace S := Lib.hid (S.out.below hb (Nat.le_refl _))
  replace SS := Lib.hid (SS.out.below hb (Nat.le_refl _))
  replace X := Lib.hid ((hb.block _ (lt_of_block X.out)).trans X.out)
  replace B := Lib.hid (B.out.trans (hb.mono B.out.size))
  obtain ⟨c, hc⟩ : ∃ v, chkL l = v := ⟨_, rfl⟩
  rw [hc]
  have HC := Lib.hid hc
  clear hc
  try clear hb
  have ltX : R < w1.heap.size := lt_of_block X.out
  have zX0 : w1.cell? ⟨R, 0, none⟩ = some (.int .i64 l.N) := by rw [cell_row X.out]; rfl
  have zX1 : w1.cell? ⟨R, 1, none⟩ = some (.slice l.A l.n l.cap) := by rw [cell_row X.out]; rfl
  have zX2 : w1.cell? ⟨R, 2, none⟩ = some (.slice l.LA l.ln l.lc) := by rw [cell_row X.out]; rfl
  have zX3 : w1.cell? ⟨R, 3, none⟩ = some (.slice l.RA l.rn l.rc) := by rw [cell_row X.out]; rfl
  by_cases h0 : c = 0
  rotate_left
  · have d0 : (c != 0) = true := by rw [bne_iff_ne]; exact h0
    have HF := Lib.hid (show cutE l ss = c by unfold cutE; rw [layE_nil, HC.out, if_pos h0])
    have H0 := Lib.hid h0
    clear h0
    go_wp2_with fail
    refine (checkList18 l w1 S.out).mono ?_
    rintro en w2 ⟨rfl, hb⟩
    replace B := Lib.hid (B.out.trans (hb.mono B.out.size))
    clear hb
    go_wp2_with fail
    go_ret3
    exact ⟨.inl ⟨by rw [HF.out]; exact H0.out, by rw [HF.out, HC.out] <;> rfl⟩, B.out⟩
  subst h0
  go_wp2_with fail
  clear zX0 zX1 zX2 zX3 ltX
  refine (rising35 SA sn sc ss l.N w1 SS.out hs6).mono ?_
  rintro en w2 ⟨rfl, hb⟩
  replace S := Lib.hid (S.out.below hb (Nat.le_refl _))
  replace SS := Lib.hid (SS.out.below hb (Nat.le_refl _))
  replace X := Lib.hid ((hb.block _ (lt_of_block X.out)).trans X.out)
  replace B := Lib.hid (B.out.trans (hb.mono B.out.size))
  obtain ⟨j, hj⟩ : ∃ v, risI l.N ss = v := ⟨_, rfl⟩
  rw [hj]
  have HJ := Lib.hid hj
  clear hj
  try clear hb
  have ltX : R < w2.heap.size := lt_of_block X.out
  have zX0 : w2.cell? ⟨R, 0, none⟩ = some (.int .i64 l.N) := by rw [cell_row X.out]; rfl
  have zX1 : w2.cell? ⟨R, 1, none⟩ = some (.slice l.A l.n l.cap) := by rw [cell_row X.out]; rfl
  have zX2 : w2.cell? ⟨R, 2, none⟩ = some (.slice l.LA l.ln l.lc) := by rw [cell_row X.out]; rfl
  have zX3 : w2.cell? ⟨R, 3, none⟩ = some (.slice l.RA l.rn l.rc) := by rw [cell_row X.out]; rfl
  rcases j with _ | _
  · have HF := Lib.hid (show cutE l ss = 3 by unfold cutE; rw [layE_nil, HC.out, HJ.out]; rfl)
    go_wp2_with fail
    go_ret3
    exact ⟨.inl ⟨by rw [HF.out]; decide, by rw [HF.out] <;> rfl⟩, B.out⟩
  go_wp2_with fail
  clear zX0 zX1 zX2 zX3 ltX
  refine (isSide55 l SA sn sc ss w2 S.out SS.out hs6).mono ?_
  rintro en w3 ⟨rfl, hb⟩
  replace S := Lib.hid (S.out.below hb (Nat.le_refl _))
  replace SS := Lib.hid (SS.out.below hb (Nat.le_refl _))
  replace X := Lib.hid ((hb.block _ (lt_of_block X.out)).trans X.out)
  replace B := Lib.hid (B.out.trans (hb.mono B.out.size))
  obtain ⟨j, hj⟩ : ∃ v, sideB l ss = v := ⟨_, rfl⟩
  rw [hj]
  have HF := Lib.hid (cut_side (by rw [layE_nil]; exact HC.out) HJ.out)
  rw [hj] at HF
  clear hj
  try clear hb
  have ltX : R < w3.heap.size := lt_of_block X.out
  have zX0 : w3.cell? ⟨R, 0, none⟩ = some (.int .i64 l.N) := by rw [cell_row X.out]; rfl
  have zX1 : w3.cell? ⟨R, 1, none⟩ = some (.slice l.A l.n l.cap) := by rw [cell_row X.out]; rfl
  have zX2 : w3.cell? ⟨R, 2, none⟩ = some (.slice l.LA l.ln l.lc) := by rw [cell_row X.out]; rfl
  have zX3 : w3.cell? ⟨R, 3, none⟩ = some (.slice l.RA l.rn l.rc) := by rw [cell_row X.out]; rfl
  rcases j with _ | _
  · go_wp2_with fail
    go_ret3
    exact ⟨.inl ⟨by rw [HF.out]; decide, by rw [HF.out] <;> rfl⟩, B.out⟩
  go_wp2_with fail
  clear zX0 zX1 zX2 zX3 ltX
  refine (cut56 l SA sn sc ss w3 S.out SS.out hs6 HC.out).mono ?_
  rintro en w4 ⟨C, cp, rfl, hcp, hI, hb⟩
  have HX := Lib.hid (And.intro hcp hI)
  replace B := Lib.hid (B.out.trans (hb.mono B.out.size))
  clear hcp hI hb
  go_wp2_with fail
  go_ret3
  exact ⟨.inr ⟨by rw [HF.out] <;> rfl, C, cp, rfl, HX.out.1, HX.out.2⟩, B.out⟩
end
end Go.Proofs.Ytigohccehllmnaa
