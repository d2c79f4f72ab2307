/- Stage 6: the document's groups. -/
import Derived.Test.YtigohccehllmnaaGl
import Derived.Test.YtigohccehllmnaaRf
import Derived.Test.YtigohccehllmnaaLd
import Derived.Test.YtigohccehllmnaaSc
namespace Go.Proofs.Ytigohccehllmnaa
set_option linter.unusedSimpArgs false
set_option linter.unusedVariables false
open Go.RowKit Go.Shelf

theorem RwI.ints {W : World} {g c : Nat} {G : Int → Int} (h : RwI W g c G) : Ints W (some ⟨g, 0, none⟩) c (flL (fun j => G (j : Int)) c) :=
  ⟨flL_len _ _, fun _ => ⟨g, 0, rfl, fun j hj => by rw [Nat.zero_add, flL_at _ hj]; exact h.cell hj⟩⟩
theorem rwI_own {W : World} {v : Value} {c : Nat} {G : Int → Int} (hc : 0 < c) (h : W.ownsRow 0 3 1 v c (flatI (flL (fun j => G (j : Int)) c))) : ∃ g cap, v = .slice (some ⟨g, 0, none⟩) c cap ∧ c ≤ cap ∧ RwI W g c G ∧ v.ownBlock = some g := by
  rcases h.2 with ⟨e, _⟩ | ⟨g', cap, cur, e, hb, hg, hc2, _, hsz, htake⟩
  · omega
  · subst e
    refine ⟨g', cap, rfl, by omega, ⟨cur.toList.drop (c * 1), ?_⟩, rfl⟩
    rw [← htake, List.take_append_drop]
    exact hg
theorem flL_succ (f : Nat → Int) (n : Nat) : flL f (n + 1) = flL f n ++ [f n] := by simp [flL, List.range_succ]
theorem foldG_mem (zs : List Nl) (ds : List Int) (g : Int → Int) (k : Nat) (h : (k : Int) ∈ ds) : foldG zs ds g (k + 1) = foldG zs ds g k := by simp [foldG, stepG, h]
theorem foldG_non (zs : List Nl) (ds : List Int) (g : Int → Int) (k : Nat) (h : (k : Int) ∉ ds) : foldG zs ds g (k + 1) = fun x => if x = (lAt zs k).one ∨ x = (lAt zs k).two then min (foldG zs ds g k (lAt zs k).one) (foldG zs ds g k (lAt zs k).two) else foldG zs ds g k x := by simp [foldG, stepG, h]
theorem labG_in {N : Nat} {zs : List Nl} (hz : OkL N zs) (ds : List Int) (n : Nat) (hn : n ≤ zs.length) : ∀ r x, 0 ≤ x → x < (N : Int) → 0 ≤ labG zs ds n r x ∧ labG zs ds n r x < (N : Int)
  | 0, x, h0, h1 => ⟨h0, h1⟩
  | r + 1, x, h0, h1 => by
    have hf : ∀ k, k ≤ n → ∀ x, 0 ≤ x → x < (N : Int) → 0 ≤ foldG zs ds (labG zs ds n r) k x ∧ foldG zs ds (labG zs ds n r) k x < (N : Int) := by
      intro k
      induction k with
      | zero => exact fun _ x a b => labG_in hz ds n hn r x a b
      | succ k ih =>
        intro hk x a b
        by_cases hm : (k : Int) ∈ ds
        · rw [foldG_mem _ _ _ _ hm]; exact ih (by omega) x a b
        · rw [foldG_non _ _ _ _ hm]
          have ok := hz k (by omega)
          have h1 := ih (by omega) (lAt zs k).one ok.1.1 ok.1.2
          have h2 := ih (by omega) (lAt zs k).two ok.2.1.1 ok.2.1.2
          have h3 := ih (by omega) x a b
          simp only
          split
          · omega
          · exact h3
    exact hf n (Nat.le_refl _) x h0 h1
section
attribute [local go_sem ↓] exec_app at_app
attribute [local go_sem] Oper.semAt_some
set_option maxRecDepth 100000 in
set_option maxHeartbeats 16000000 in
theorem groups44 (l : NL) (DA : Option Addr) (dn dc : Nat) (ds : List Int) (c : Nat) (w : World) (h : NLs w l) (hS : Ints w DA dn ds) (hd6 : dn ≤ 1000000) (hch : chkL l = 0) (hcN : l.N = (c : Int)) :
    Calls Try.prog 44 #[.agg #[.int .i64 l.N, .slice l.A l.n l.cap, .slice l.LA l.ln l.lc, .slice l.RA l.rn l.rc], .slice DA dn dc] w fun e w' => ∃ g cap, e = .returned (.slice (some ⟨g, 0, none⟩) c cap) ∧ c ≤ cap ∧ Ints w' (some ⟨g, 0, none⟩) c (flL (fun j => labG l.zs ds l.n c (j : Int)) c) ∧ w.heap.size ≤ g ∧ Below w.heap.size w w' := by
  obtain ⟨Nv, hNv⟩ : ∃ v, l.N = v := ⟨_, rfl⟩
  have HNv := Lib.hid hNv
  have HCN := Lib.hid hcN
  clear hNv hcN
  obtain ⟨R, hR⟩ : ∃ v, w.heap.size = v := ⟨_, rfl⟩
  have hb0 := below_alloc_ w (.cells #[.int .i64 l.N, .slice l.A l.n l.cap, .slice l.LA l.ln l.lc, .slice l.RA l.rn l.rc] 25)
  have hr0 := heap_alloc_new_ w (.cells #[.int .i64 l.N, .slice l.A l.n l.cap, .slice l.LA l.ln l.lc, .slice l.RA l.rn l.rc] 25)
  have hz0 : (w.alloc (.cells #[.int .i64 l.N, .slice l.A l.n l.cap, .slice l.LA l.ln l.lc, .slice l.RA l.rn l.rc] 25)).heap.size = w.heap.size + 1 := by simp
  obtain ⟨w0, hw0⟩ : ∃ v, w.alloc (.cells #[.int .i64 l.N, .slice l.A l.n l.cap, .slice l.LA l.ln l.lc, .slice l.RA l.rn l.rc] 25) = v := ⟨_, rfl⟩
  rw [hw0] at hb0 hr0 hz0
  rw [hR] at hr0 hz0
  have hB := hb0
  have S := Lib.hid (h.below hB (Nat.le_refl _))
  have SD := Lib.hid (hS.below hB (Nat.le_refl _))
  have X := Lib.hid hr0
  have HW0 := Lib.hid hw0
  have B := Lib.hid hB
  have HR := Lib.hid hR
  clear hB hR hb0 hr0 hz0 hw0 h hS
  have Hch := Lib.hid hch
  have Hd6 := Lib.hid hd6
  clear hch hd6
  have ltX : R < w0.heap.size := lt_of_block X.out
  have zX0 : w0.cell? ⟨R, 0, none⟩ = some (.int .i64 l.N) := by rw [cell_row X.out]; rfl
  have zX1 : w0.cell? ⟨R, 1, none⟩ = some (.slice l.A l.n l.cap) := by rw [cell_row X.out]; rfl
  have zX2 : w0.cell? ⟨R, 2, none⟩ = some (.slice l.LA l.ln l.lc) := by rw [cell_row X.out]; rfl
  have zX3 : w0.cell? ⟨R, 3, none⟩ = some (.slice l.RA l.rn l.rc) := by rw [cell_row X.out]; rfl
  go_enter Try.func44, Try.ntmps44
  go_wp2_with fail
  try rw [HW0.out]
  try rw [HR.out]
  try simp only [Nat.add_assoc, Nat.reduceAdd]
  try go_wp2_with fail
  clear zX0 zX1 zX2 zX3 ltX
  have hN := (chk_zero Hch.out).1
  have hnn := (chk_zero Hch.out).2.1
  have hcN := HCN.out
  have hc40 : 2 ≤ c ∧ c ≤ 40 := by omega
  have HC40 := Lib.hid hc40
  clear hN hcN
  go_loopw [5, 6] (fun v i wr => ∃ k : Nat, k ≤ c ∧ i = .int .i64 (k : Int) ∧ Hid (∃ v0 : Value, v = v0 ∧ GrI w0 wr v0 k (flL (fun j => (j : Int)) k))) (fun v i _ => c - (intOf i).toNat)
  case atStart => exact ⟨0, Nat.zero_le _, rfl, Lib.hid ⟨_, rfl, GrI.nil _⟩⟩
  case round =>
    obtain ⟨k, hk9, rfl, HX⟩ := hrel
    obtain ⟨wk, rfl⟩ : ∃ wk, wk = wr := ⟨_, rfl⟩
    obtain ⟨v0, hv, hG⟩ := HX.out
    obtain rfl : v0 = _ := hv.symm
    clear HX hv
    have hbk := hG.2.2
    have Xk := Lib.hid ((hbk.block _ (lt_of_block X.out)).trans X.out)
    have HC := HC40.out
    have zX0 : wk.cell? ⟨R, 0, none⟩ = some (.int .i64 (c : Int)) := by rw [cell_row Xk.out, ← HCN.out]; rfl
    by_cases hlt : k < c
    · have HG := Lib.hid hG
      obtain ⟨C, cc, W', hrun, hG2⟩ := GrI.app hG (k : Int) (by omega)
      have HG2 := Lib.hid (show GrI w0 W' (.slice C (k + 1) cc) (k + 1) (flL (fun j => (j : Int)) (k + 1)) by rw [flL_succ]; exact hG2)
      clear hG hG2 hbk
      go_wp2_with fail
      go_roundw
      case rel => exact ⟨k + 1, by omega, by go_num, Lib.hid ⟨_, rfl, HG2.out⟩⟩
      case measure => simp [intOf]; omega
    obtain rfl : k = c := by omega
    obtain ⟨g, cap, rfl, hcap, hrow, hob⟩ := rwI_own (G := fun x => x) (by omega) hG.1
    have Hgn := Lib.hid (show w0.heap.size ≤ g from hG.2.1 g hob)
    have Hcap := Lib.hid hcap
    have H0 := Lib.hid (show RwI wk g k (labG l.zs ds l.n 0) ∧ Below w0.heap.size w0 wk from ⟨hrow, hbk⟩)
    clear hcap hrow hob hG Xk hlt hk9
    go_wp2_with fail
    clear zX0
    go_loopw [7, 8, 9, 10] (fun rd a1 a2 a3 wr => ∃ r : Nat, r ≤ k ∧ rd = .int .i64 (r : Int) ∧ Hid (RwI wr g k (labG l.zs ds l.n r) ∧ Below w0.heap.size w0 wr)) (fun rd a1 a2 a3 _ => k - (intOf rd).toNat)
    case atStart => exact ⟨0, Nat.zero_le _, rfl, H0⟩
    case round =>
      obtain ⟨r, hr9, rfl, HI⟩ := hrel
      obtain ⟨wq, rfl⟩ : ∃ wk, wk = wr := ⟨_, rfl⟩
      have hbk := HI.out.2
      have Xk := Lib.hid ((hbk.block _ (lt_of_block X.out)).trans X.out)
      have zX0 : wq.cell? ⟨R, 0, none⟩ = some (.int .i64 (k : Int)) := by rw [cell_row Xk.out, ← HCN.out]; rfl
      have HC := HC40.out
      by_cases hlt : r < k
      · have H1 := Lib.hid (show RwI wq g k (foldG l.zs ds (labG l.zs ds l.n r) 0) ∧ Below w0.heap.size w0 wq from HI.out)
        clear HI hbk
        go_wp2_with fail
        clear zX0
        go_loopw [8, 9, 10] (fun i a2 a3 wr => ∃ q : Nat, q ≤ l.n ∧ i = .int .i64 (q : Int) ∧ Hid (RwI wr g k (foldG l.zs ds (labG l.zs ds l.n r) q) ∧ Below w0.heap.size w0 wr)) (fun i a2 a3 _ => l.n - (intOf i).toNat)
        case atStart => exact ⟨0, Nat.zero_le _, rfl, H1⟩
        case round =>
          obtain ⟨q, hq9, rfl, HJ⟩ := hrel
          obtain ⟨wz, rfl⟩ : ∃ wk, wk = wr := ⟨_, rfl⟩
          have hbz := HJ.out.2
          have Xz := Lib.hid ((hbz.block _ (lt_of_block X.out)).trans X.out)
          have zz1 : wz.cell? ⟨R, 1, none⟩ = some (.slice l.A l.n l.cap) := by rw [cell_row Xz.out]; rfl
          have hnn := (chk_zero Hch.out).2.1
          by_cases hlt2 : q < l.n
          · obtain ⟨bz, oz, hA, hcz⟩ := (S.out.zs.below hbz (Nat.le_refl _)).2 (by omega)
            obtain ⟨z0, z1, z2⟩ := hcz q hlt2
            have SDz := Lib.hid (SD.out.below hbz (Nat.le_refl _))
            have ok := (flow_bok Hch.out S.out).ok q hlt2
            have K := Lib.hid (in38 DA dn dc ds (q : Int) wz SDz.out Hd6.out)
            have hm1 := foldG_mem l.zs ds (labG l.zs ds l.n r) q
            have hm2 := foldG_non l.zs ds (labG l.zs ds l.n r) q
            obtain ⟨j, hj⟩ : ∃ v, decide ((q : Int) ∈ ds) = v := ⟨_, rfl⟩
            rw [hj] at K
            have HJd := Lib.hid hj
            obtain ⟨g3, hg⟩ : ∃ g, lAt l.zs q = g := ⟨_, rfl⟩
            have ok' : (0 ≤ (lAt l.zs q).one ∧ (lAt l.zs q).one < l.N) ∧ (0 ≤ (lAt l.zs q).two ∧ (lAt l.zs q).two < l.N) ∧ (lAt l.zs q).one ≠ (lAt l.zs q).two := ⟨ok.1, ok.2.1, ok.2.2.1⟩
            clear ok hj
            obtain ⟨G, hG⟩ : ∃ G, foldG l.zs ds (labG l.zs ds l.n r) q = G := ⟨_, rfl⟩
            rw [hg] at z0 z1 z2 ok'
            rw [hG] at HJ hm1
            simp only [hG, hg] at hm2
            obtain ⟨gl, gh, gt⟩ := g3
            simp only at z0 z1 z2 ok' hm2
            obtain ⟨x1, hx1⟩ : ∃ x : Nat, gl = (x : Int) := ⟨gl.toNat, by omega⟩
            obtain ⟨x2, hx2⟩ : ∃ x : Nat, gh = (x : Int) := ⟨gh.toNat, by omega⟩
            subst hx1 hx2
            have hcN := HCN.out
            have l1 : x1 < k := by omega
            have l2 : x2 < k := by omega
            have Hne := Lib.hid (show x1 ≠ x2 by omega)
            clear hcN ok'
            have Hm1 := Lib.hid hm1
            have Hm2 := Lib.hid hm2
            have Hlt2 := Lib.hid hlt2
            have i0 : (0 : Int) ≤ (q : Int) := by omega
            have i1 : (q : Int) < (l.n : Int) := by omega
            have i2 : (0 : Int) ≤ (x1 : Int) := by omega
            have i3 : (x1 : Int) < (k : Int) := by omega
            have i4 : (0 : Int) ≤ (x2 : Int) := by omega
            have i5 : (x2 : Int) < (k : Int) := by omega
            have zb : wz.cell? ⟨R, 1, none⟩ = some (.slice (some ⟨bz, oz, none⟩) l.n l.cap) := by rw [← hA]; exact zz1
            clear zz1 hg hG hm1 hm2 hA hcz hbz
            go_wp2_with fail
            refine K.out.mono ?_
            rintro en w9 ⟨rfl, hw9⟩
            subst w9
            rcases j with _ | _
            rotate_left
            · have HF := Lib.hid (Hm1.out (of_decide_eq_true HJd.out))
              go_wp2_with fail
              go_roundw
              case rel => exact ⟨q + 1, by have := Hlt2.out; omega, by go_num, by rw [HF.out]; exact HJ⟩
              case measure => have := Hlt2.out; simp [intOf]; omega
            have HF := Lib.hid (Hm2.out (of_decide_eq_false HJd.out))
            have hb := below_alloc_ wz (.cells #[.int .i64 (x1 : Int), .int .i64 (x2 : Int), .int .i64 gt] 60)
            have hrP := heap_alloc_new_ wz (.cells #[.int .i64 (x1 : Int), .int .i64 (x2 : Int), .int .i64 gt] 60)
            obtain ⟨w3, hw3⟩ : ∃ v, wz.alloc (.cells #[.int .i64 (x1 : Int), .int .i64 (x2 : Int), .int .i64 gt] 60) = v := ⟨_, rfl⟩
            obtain ⟨P, hP⟩ : ∃ v, wz.heap.size = v := ⟨_, rfl⟩
            rw [hw3] at hb hrP
            rw [hP] at hrP
            have HPg := Lib.hid (show g < P by rw [← hP]; exact HJ.out.1.lt)
            have HP := Lib.hid hrP
            have HQ := Lib.hid (HJ.out.1.below hb (Nat.le_refl _))
            have B1 := Lib.hid (HJ.out.2.trans (hb.mono HJ.out.2.size))
            have Hw3 := Lib.hid hw3
            have HPe := Lib.hid hP
            clear hb hrP hw3 hP HJ
            go_upto_region 14 with fail
            rw [Hw3.out]
            rw [HPe.out]
            clear zb z0 z1 z2
            have ltHP : P < w3.heap.size := lt_of_block HP.out
            have zHP0 : w3.cell? ⟨P, 0, none⟩ = some (.int .i64 (x1 : Int)) := by rw [cell_row HP.out]; rfl
            have zHP1 : w3.cell? ⟨P, 1, none⟩ = some (.int .i64 (x2 : Int)) := by rw [cell_row HP.out]; rfl
            have zHP2 : w3.cell? ⟨P, 2, none⟩ = some (.int .i64 gt) := by rw [cell_row HP.out]; rfl
            have r1 : w3.cell? ⟨g, x1, none⟩ = some (.int .i64 (G (x1 : Int))) := HQ.out.cell l1
            have r2 : w3.cell? ⟨g, x2, none⟩ = some (.int .i64 (G (x2 : Int))) := HQ.out.cell l2
            refine wp_region_held_drew (S := fun w2 => Below w3.heap.size w3 w2) (by kernel_rfl) (drew_b _ _) (fun hS0 => ?_)
            refine wpAnyH_take (i := 0) (oi := { dst := some 43, op := Go.Op.move (Go.Operand.tmp 5), type := 23, pos := "ref.go:69", after := #[], guard := none }) (v := .slice (some ⟨g, 0, none⟩) k cap) rfl (by kernel_rfl) (by kernel_rfl) (by kernel_rfl) (fun _ _ _ h => h) (Or.inl ⟨by rfl, by intro w2 hSw; (try dsimp only at hSw); have yHP0 := (hSw.cell (lt_of_cell zHP0)).trans zHP0; have yHP1 := (hSw.cell (lt_of_cell zHP1)).trans zHP1; have yHP2 := (hSw.cell (lt_of_cell zHP2)).trans zHP2; have yr1 := (hSw.cell (lt_of_cell r1)).trans r1; have yr2 := (hSw.cell (lt_of_cell r2)).trans r2;  go_simp⟩) hS0 ?_
            try simp only [Act.put, List.setIfInBounds_toArray, List.set_cons_zero, List.set_cons_succ]
            refine wpAnyH_take (i := 1) (oi := { dst := some 44, op := Go.Op.fieldAddr 60 (Go.Operand.tmp 9) 0, type := 0, pos := "ref.go:69", after := #[], guard := none }) (v := .pointer (some ⟨P, 0, none⟩)) rfl (by kernel_rfl) (by kernel_rfl) (by kernel_rfl) (fun _ _ _ h => h) (Or.inl ⟨by rfl, by intro w2 hSw; (try dsimp only at hSw); have yHP0 := (hSw.cell (lt_of_cell zHP0)).trans zHP0; have yHP1 := (hSw.cell (lt_of_cell zHP1)).trans zHP1; have yHP2 := (hSw.cell (lt_of_cell zHP2)).trans zHP2; have yr1 := (hSw.cell (lt_of_cell r1)).trans r1; have yr2 := (hSw.cell (lt_of_cell r2)).trans r2;  go_simp⟩) hS0 ?_
            try simp only [Act.put, List.setIfInBounds_toArray, List.set_cons_zero, List.set_cons_succ]
            refine wpAnyH_take (i := 2) (oi := { dst := some 45, op := Go.Op.load 3 (Go.Operand.tmp 44), type := 3, pos := "ref.go:69", after := #[{ on := 1, ground := Go.Ground.data }], guard := none }) (v := .int .i64 (x1 : Int)) rfl (by kernel_rfl) (by kernel_rfl) (by kernel_rfl) (fun _ _ _ h => h) (Or.inl ⟨by rfl, by intro w2 hSw; (try dsimp only at hSw); have yHP0 := (hSw.cell (lt_of_cell zHP0)).trans zHP0; have yHP1 := (hSw.cell (lt_of_cell zHP1)).trans zHP1; have yHP2 := (hSw.cell (lt_of_cell zHP2)).trans zHP2; have yr1 := (hSw.cell (lt_of_cell r1)).trans r1; have yr2 := (hSw.cell (lt_of_cell r2)).trans r2;  go_simp⟩) hS0 ?_
            try simp only [Act.put, List.setIfInBounds_toArray, List.set_cons_zero, List.set_cons_succ]
            refine wpAnyH_take (i := 3) (oi := { dst := some 46, op := Go.Op.indexAddr 23 (Go.Operand.tmp 43) (Go.Operand.tmp 45), type := 0, pos := "ref.go:69", after := #[{ on := 0, ground := Go.Ground.data }, { on := 2, ground := Go.Ground.data }], guard := none }) (v := .pointer (some ⟨g, x1, none⟩)) rfl (by kernel_rfl) (by kernel_rfl) (by kernel_rfl) (fun _ _ _ h => h) (Or.inl ⟨by rfl, by intro w2 hSw; (try dsimp only at hSw); have yHP0 := (hSw.cell (lt_of_cell zHP0)).trans zHP0; have yHP1 := (hSw.cell (lt_of_cell zHP1)).trans zHP1; have yHP2 := (hSw.cell (lt_of_cell zHP2)).trans zHP2; have yr1 := (hSw.cell (lt_of_cell r1)).trans r1; have yr2 := (hSw.cell (lt_of_cell r2)).trans r2;  go_simp⟩) hS0 ?_
            try simp only [Act.put, List.setIfInBounds_toArray, List.set_cons_zero, List.set_cons_succ]
            refine wpAnyH_take (i := 4) (oi := { dst := some 47, op := Go.Op.load 3 (Go.Operand.tmp 46), type := 3, pos := "ref.go:69", after := #[{ on := 3, ground := Go.Ground.data }], guard := none }) (v := .int .i64 (G (x1 : Int))) rfl (by kernel_rfl) (by kernel_rfl) (by kernel_rfl) (fun _ _ _ h => h) (Or.inl ⟨by rfl, by intro w2 hSw; (try dsimp only at hSw); have yHP0 := (hSw.cell (lt_of_cell zHP0)).trans zHP0; have yHP1 := (hSw.cell (lt_of_cell zHP1)).trans zHP1; have yHP2 := (hSw.cell (lt_of_cell zHP2)).trans zHP2; have yr1 := (hSw.cell (lt_of_cell r1)).trans r1; have yr2 := (hSw.cell (lt_of_cell r2)).trans r2;  go_simp⟩) hS0 ?_
            try simp only [Act.put, List.setIfInBounds_toArray, List.set_cons_zero, List.set_cons_succ]
            refine wpAnyH_take (i := 5) (oi := { dst := some 48, op := Go.Op.move (Go.Operand.tmp 5), type := 23, pos := "ref.go:69", after := #[], guard := none }) (v := .slice (some ⟨g, 0, none⟩) k cap) rfl (by kernel_rfl) (by kernel_rfl) (by kernel_rfl) (fun _ _ _ h => h) (Or.inl ⟨by rfl, by intro w2 hSw; (try dsimp only at hSw); have yHP0 := (hSw.cell (lt_of_cell zHP0)).trans zHP0; have yHP1 := (hSw.cell (lt_of_cell zHP1)).trans zHP1; have yHP2 := (hSw.cell (lt_of_cell zHP2)).trans zHP2; have yr1 := (hSw.cell (lt_of_cell r1)).trans r1; have yr2 := (hSw.cell (lt_of_cell r2)).trans r2;  go_simp⟩) hS0 ?_
            try simp only [Act.put, List.setIfInBounds_toArray, List.set_cons_zero, List.set_cons_succ]
            refine wpAnyH_take (i := 6) (oi := { dst := some 49, op := Go.Op.fieldAddr 60 (Go.Operand.tmp 9) 1, type := 0, pos := "ref.go:69", after := #[], guard := none }) (v := .pointer (some ⟨P, 1, none⟩)) rfl (by kernel_rfl) (by kernel_rfl) (by kernel_rfl) (fun _ _ _ h => h) (Or.inl ⟨by rfl, by intro w2 hSw; (try dsimp only at hSw); have yHP0 := (hSw.cell (lt_of_cell zHP0)).trans zHP0; have yHP1 := (hSw.cell (lt_of_cell zHP1)).trans zHP1; have yHP2 := (hSw.cell (lt_of_cell zHP2)).trans zHP2; have yr1 := (hSw.cell (lt_of_cell r1)).trans r1; have yr2 := (hSw.cell (lt_of_cell r2)).trans r2;  go_simp⟩) hS0 ?_
            try simp only [Act.put, List.setIfInBounds_toArray, List.set_cons_zero, List.set_cons_succ]
            refine wpAnyH_take (i := 7) (oi := { dst := some 50, op := Go.Op.load 3 (Go.Operand.tmp 49), type := 3, pos := "ref.go:69", after := #[{ on := 6, ground := Go.Ground.data }], guard := none }) (v := .int .i64 (x2 : Int)) rfl (by kernel_rfl) (by kernel_rfl) (by kernel_rfl) (fun _ _ _ h => h) (Or.inl ⟨by rfl, by intro w2 hSw; (try dsimp only at hSw); have yHP0 := (hSw.cell (lt_of_cell zHP0)).trans zHP0; have yHP1 := (hSw.cell (lt_of_cell zHP1)).trans zHP1; have yHP2 := (hSw.cell (lt_of_cell zHP2)).trans zHP2; have yr1 := (hSw.cell (lt_of_cell r1)).trans r1; have yr2 := (hSw.cell (lt_of_cell r2)).trans r2;  go_simp⟩) hS0 ?_
            try simp only [Act.put, List.setIfInBounds_toArray, List.set_cons_zero, List.set_cons_succ]
            refine wpAnyH_take (i := 8) (oi := { dst := some 51, op := Go.Op.indexAddr 23 (Go.Operand.tmp 48) (Go.Operand.tmp 50), type := 0, pos := "ref.go:69", after := #[{ on := 5, ground := Go.Ground.data }, { on := 7, ground := Go.Ground.data }], guard := none }) (v := .pointer (some ⟨g, x2, none⟩)) rfl (by kernel_rfl) (by kernel_rfl) (by kernel_rfl) (fun _ _ _ h => h) (Or.inl ⟨by rfl, by intro w2 hSw; (try dsimp only at hSw); have yHP0 := (hSw.cell (lt_of_cell zHP0)).trans zHP0; have yHP1 := (hSw.cell (lt_of_cell zHP1)).trans zHP1; have yHP2 := (hSw.cell (lt_of_cell zHP2)).trans zHP2; have yr1 := (hSw.cell (lt_of_cell r1)).trans r1; have yr2 := (hSw.cell (lt_of_cell r2)).trans r2;  go_simp⟩) hS0 ?_
            try simp only [Act.put, List.setIfInBounds_toArray, List.set_cons_zero, List.set_cons_succ]
            refine wpAnyH_take (i := 9) (oi := { dst := some 52, op := Go.Op.load 3 (Go.Operand.tmp 51), type := 3, pos := "ref.go:69", after := #[{ on := 8, ground := Go.Ground.data }], guard := none }) (v := .int .i64 (G (x2 : Int))) rfl (by kernel_rfl) (by kernel_rfl) (by kernel_rfl) (fun _ _ _ h => h) (Or.inl ⟨by rfl, by intro w2 hSw; (try dsimp only at hSw); have yHP0 := (hSw.cell (lt_of_cell zHP0)).trans zHP0; have yHP1 := (hSw.cell (lt_of_cell zHP1)).trans zHP1; have yHP2 := (hSw.cell (lt_of_cell zHP2)).trans zHP2; have yr1 := (hSw.cell (lt_of_cell r1)).trans r1; have yr2 := (hSw.cell (lt_of_cell r2)).trans r2;  go_simp⟩) hS0 ?_
            try simp only [Act.put, List.setIfInBounds_toArray, List.set_cons_zero, List.set_cons_succ]
            refine wpAnyH_take (i := 10) (oi := { dst := some 53, op := Go.Op.call { callee := Go.Callee.builtin Go.Builtin.min, args := #[Go.Operand.tmp 47, Go.Operand.tmp 52], argTypes := #[3, 3] }, type := 3, pos := "ref.go:69", after := #[{ on := 4, ground := Go.Ground.data }, { on := 9, ground := Go.Ground.data }], guard := none }) (v := .int .i64 (if G (x2 : Int) < G (x1 : Int) then G (x2 : Int) else G (x1 : Int))) rfl (by kernel_rfl) (by kernel_rfl) (by kernel_rfl) (fun _ _ _ h => h) (Or.inl ⟨by rfl, by intro w2 hSw; (try dsimp only at hSw); have yHP0 := (hSw.cell (lt_of_cell zHP0)).trans zHP0; have yHP1 := (hSw.cell (lt_of_cell zHP1)).trans zHP1; have yHP2 := (hSw.cell (lt_of_cell zHP2)).trans zHP2; have yr1 := (hSw.cell (lt_of_cell r1)).trans r1; have yr2 := (hSw.cell (lt_of_cell r2)).trans r2;  go_simp⟩) hS0 ?_
            try simp only [Act.put, List.setIfInBounds_toArray, List.set_cons_zero, List.set_cons_succ]
            refine wpAnyH_take (i := 11) (oi := { dst := some 10, op := Go.Op.assign (Go.Operand.tmp 53), type := 3, pos := "ref.go:69", after := #[{ on := 10, ground := Go.Ground.data }, { on := 0, ground := Go.Ground.phase }, { on := 1, ground := Go.Ground.phase }, { on := 2, ground := Go.Ground.phase }, { on := 3, ground := Go.Ground.phase }, { on := 4, ground := Go.Ground.phase }, { on := 5, ground := Go.Ground.phase }, { on := 6, ground := Go.Ground.phase }, { on := 7, ground := Go.Ground.phase }, { on := 8, ground := Go.Ground.phase }, { on := 9, ground := Go.Ground.phase }, { on := 10, ground := Go.Ground.phase }], guard := none }) (v := .int .i64 (if G (x2 : Int) < G (x1 : Int) then G (x2 : Int) else G (x1 : Int))) rfl (by kernel_rfl) (by kernel_rfl) (by kernel_rfl) (fun _ _ _ h => h) (Or.inl ⟨by rfl, by intro w2 hSw; (try dsimp only at hSw); have yHP0 := (hSw.cell (lt_of_cell zHP0)).trans zHP0; have yHP1 := (hSw.cell (lt_of_cell zHP1)).trans zHP1; have yHP2 := (hSw.cell (lt_of_cell zHP2)).trans zHP2; have yr1 := (hSw.cell (lt_of_cell r1)).trans r1; have yr2 := (hSw.cell (lt_of_cell r2)).trans r2;  go_simp⟩) hS0 ?_
            try simp only [Act.put, List.setIfInBounds_toArray, List.set_cons_zero, List.set_cons_succ]
            refine wpAnyH_done (by kernel_rfl) ?_ _
            clear zHP0 zHP1 zHP2 ltHP r1 r2
            obtain ⟨w3d, hwd⟩ : ∃ v, w3.drew = v := ⟨_, rfl⟩
            have hb := hS0
            rw [hwd] at hb ⊢
            clear hS0 hwd
            replace HQ := Lib.hid (HQ.out.below hb (Nat.le_refl _))
            replace HP := Lib.hid ((hb.block _ (lt_of_block HP.out)).trans HP.out)
            replace B1 := Lib.hid (B1.out.trans (hb.mono B1.out.size))
            clear hb
            have hmi : min (G (x1 : Int)) (G (x2 : Int)) = (if G (x2 : Int) < G (x1 : Int) then G (x2 : Int) else G (x1 : Int)) := by split <;> omega
            rw [hmi] at HF
            obtain ⟨lo, hlo⟩ : ∃ v, (if G (x2 : Int) < G (x1 : Int) then G (x2 : Int) else G (x1 : Int)) = v := ⟨_, rfl⟩
            rw [hlo] at HF ⊢
            clear hlo hmi
            go_upto_region 15 with fail
            have p0 : w3d.cell? ⟨P, 0, none⟩ = some (.int .i64 (x1 : Int)) := by rw [cell_row HP.out]; rfl
            have p1 : w3d.cell? ⟨P, 1, none⟩ = some (.int .i64 (x2 : Int)) := by rw [cell_row HP.out]; rfl
            have hPg := HPg.out
            refine Zed.region_z (z := 11) (S := fun w2 => Keeps (fun j => j = g) w3d w2) (by kernel_rfl) (Keeps.of_new (drew_b _ _)) (fun hS0 => ?_)
            refine Zed.anyZ_take (i := 0) (oi := { dst := some 54, op := Go.Op.move (Go.Operand.tmp 5), type := 23, pos := "ref.go:70", after := #[], guard := none }) (v := .slice (some ⟨g, 0, none⟩) k cap) rfl (by decide) (by kernel_rfl) (by kernel_rfl) (by kernel_rfl) (by kernel_rfl) (fun _ _ _ h => h) (Or.inl ⟨by rfl, by intro w2 hSw; (try dsimp only at hSw); have y0 := (keep_cells hSw (lt_of_cell p0) (by omega) 0).trans p0; have y1 := (keep_cells hSw (lt_of_cell p1) (by omega) 1).trans p1; go_simp⟩) hS0 ?_
            try simp only [Act.put, List.setIfInBounds_toArray, List.set_cons_zero, List.set_cons_succ]
            refine Zed.anyZ_take (i := 1) (oi := { dst := some 55, op := Go.Op.fieldAddr 60 (Go.Operand.tmp 9) 0, type := 0, pos := "ref.go:70", after := #[], guard := none }) (v := .pointer (some ⟨P, 0, none⟩)) rfl (by decide) (by kernel_rfl) (by kernel_rfl) (by kernel_rfl) (by kernel_rfl) (fun _ _ _ h => h) (Or.inl ⟨by rfl, by intro w2 hSw; (try dsimp only at hSw); have y0 := (keep_cells hSw (lt_of_cell p0) (by omega) 0).trans p0; have y1 := (keep_cells hSw (lt_of_cell p1) (by omega) 1).trans p1; go_simp⟩) hS0 ?_
            try simp only [Act.put, List.setIfInBounds_toArray, List.set_cons_zero, List.set_cons_succ]
            refine Zed.anyZ_take (i := 2) (oi := { dst := some 56, op := Go.Op.load 3 (Go.Operand.tmp 55), type := 3, pos := "ref.go:70", after := #[{ on := 1, ground := Go.Ground.data }], guard := none }) (v := .int .i64 (x1 : Int)) rfl (by decide) (by kernel_rfl) (by kernel_rfl) (by kernel_rfl) (by kernel_rfl) (fun _ _ _ h => h) (Or.inl ⟨by rfl, by intro w2 hSw; (try dsimp only at hSw); have y0 := (keep_cells hSw (lt_of_cell p0) (by omega) 0).trans p0; have y1 := (keep_cells hSw (lt_of_cell p1) (by omega) 1).trans p1; go_simp⟩) hS0 ?_
            try simp only [Act.put, List.setIfInBounds_toArray, List.set_cons_zero, List.set_cons_succ]
            refine Zed.anyZ_take (i := 3) (oi := { dst := some 57, op := Go.Op.move (Go.Operand.tmp 5), type := 23, pos := "ref.go:70", after := #[{ on := 9, ground := Go.Ground.gcOnly Go.Departure.lateStores }], guard := none }) (v := .slice (some ⟨g, 0, none⟩) k cap) rfl (by decide) (by kernel_rfl) (by kernel_rfl) (by kernel_rfl) (by kernel_rfl) (fun _ _ _ h => h) (Or.inl ⟨by rfl, by intro w2 hSw; (try dsimp only at hSw); have y0 := (keep_cells hSw (lt_of_cell p0) (by omega) 0).trans p0; have y1 := (keep_cells hSw (lt_of_cell p1) (by omega) 1).trans p1; go_simp⟩) hS0 ?_
            try simp only [Act.put, List.setIfInBounds_toArray, List.set_cons_zero, List.set_cons_succ]
            refine Zed.anyZ_take (i := 4) (oi := { dst := some 58, op := Go.Op.fieldAddr 60 (Go.Operand.tmp 9) 1, type := 0, pos := "ref.go:70", after := #[{ on := 9, ground := Go.Ground.gcOnly Go.Departure.lateStores }], guard := none }) (v := .pointer (some ⟨P, 1, none⟩)) rfl (by decide) (by kernel_rfl) (by kernel_rfl) (by kernel_rfl) (by kernel_rfl) (fun _ _ _ h => h) (Or.inl ⟨by rfl, by intro w2 hSw; (try dsimp only at hSw); have y0 := (keep_cells hSw (lt_of_cell p0) (by omega) 0).trans p0; have y1 := (keep_cells hSw (lt_of_cell p1) (by omega) 1).trans p1; go_simp⟩) hS0 ?_
            try simp only [Act.put, List.setIfInBounds_toArray, List.set_cons_zero, List.set_cons_succ]
            refine Zed.anyZ_take (i := 5) (oi := { dst := some 59, op := Go.Op.load 3 (Go.Operand.tmp 58), type := 3, pos := "ref.go:70", after := #[{ on := 4, ground := Go.Ground.data }, { on := 9, ground := Go.Ground.gcOnly Go.Departure.lateStores }], guard := none }) (v := .int .i64 (x2 : Int)) rfl (by decide) (by kernel_rfl) (by kernel_rfl) (by kernel_rfl) (by kernel_rfl) (fun _ _ _ h => h) (Or.inl ⟨by rfl, by intro w2 hSw; (try dsimp only at hSw); have y0 := (keep_cells hSw (lt_of_cell p0) (by omega) 0).trans p0; have y1 := (keep_cells hSw (lt_of_cell p1) (by omega) 1).trans p1; go_simp⟩) hS0 ?_
            try simp only [Act.put, List.setIfInBounds_toArray, List.set_cons_zero, List.set_cons_succ]
            refine Zed.anyZ_take (i := 6) (oi := { dst := some 60, op := Go.Op.move (Go.Operand.tmp 10), type := 3, pos := "ref.go:70", after := #[], guard := none }) (v := .int .i64 lo) rfl (by decide) (by kernel_rfl) (by kernel_rfl) (by kernel_rfl) (by kernel_rfl) (fun _ _ _ h => h) (Or.inl ⟨by rfl, by intro w2 hSw; (try dsimp only at hSw); have y0 := (keep_cells hSw (lt_of_cell p0) (by omega) 0).trans p0; have y1 := (keep_cells hSw (lt_of_cell p1) (by omega) 1).trans p1; go_simp⟩) hS0 ?_
            try simp only [Act.put, List.setIfInBounds_toArray, List.set_cons_zero, List.set_cons_succ]
            refine Zed.anyZ_take (i := 7) (oi := { dst := some 61, op := Go.Op.move (Go.Operand.tmp 10), type := 3, pos := "ref.go:70", after := #[{ on := 9, ground := Go.Ground.gcOnly Go.Departure.lateStores }], guard := none }) (v := .int .i64 lo) rfl (by decide) (by kernel_rfl) (by kernel_rfl) (by kernel_rfl) (by kernel_rfl) (fun _ _ _ h => h) (Or.inl ⟨by rfl, by intro w2 hSw; (try dsimp only at hSw); have y0 := (keep_cells hSw (lt_of_cell p0) (by omega) 0).trans p0; have y1 := (keep_cells hSw (lt_of_cell p1) (by omega) 1).trans p1; go_simp⟩) hS0 ?_
            try simp only [Act.put, List.setIfInBounds_toArray, List.set_cons_zero, List.set_cons_succ]
            refine Zed.anyZ_take (i := 8) (oi := { dst := some 62, op := Go.Op.indexAddr 23 (Go.Operand.tmp 54) (Go.Operand.tmp 56), type := 0, pos := "ref.go:70", after := #[{ on := 0, ground := Go.Ground.data }, { on := 2, ground := Go.Ground.data }, { on := 0, ground := Go.Ground.phase }, { on := 1, ground := Go.Ground.phase }, { on := 2, ground := Go.Ground.phase }, { on := 3, ground := Go.Ground.textOnly Go.Departure.lateStores }, { on := 4, ground := Go.Ground.textOnly Go.Departure.lateStores }, { on := 5, ground := Go.Ground.textOnly Go.Departure.lateStores }, { on := 6, ground := Go.Ground.phase }, { on := 7, ground := Go.Ground.textOnly Go.Departure.lateStores }], guard := none }) (v := .pointer (some ⟨g, x1, none⟩)) rfl (by decide) (by kernel_rfl) (by kernel_rfl) (by kernel_rfl) (by kernel_rfl) (fun _ _ _ h => h) (Or.inl ⟨by rfl, by intro w2 hSw; (try dsimp only at hSw); have y0 := (keep_cells hSw (lt_of_cell p0) (by omega) 0).trans p0; have y1 := (keep_cells hSw (lt_of_cell p1) (by omega) 1).trans p1; go_simp⟩) hS0 ?_
            try simp only [Act.put, List.setIfInBounds_toArray, List.set_cons_zero, List.set_cons_succ]
            have hd0 : Below w3d.heap.size w3d w3d.drew := drew_b _ _
            have HQ0 := Lib.hid (HQ.out.below hd0 (Nat.le_refl _))
            have Hd0 := Lib.hid hd0
            clear hd0
            generalize w3d.drew = V0 at hS0 HQ0 Hd0 ⊢
            have fz := HQ0.out.fz x1
            have r1 := HQ0.out.cell l1
            have h1 := keeps_setCell V0 g x1 (.int .i64 lo)
            have HQ1 := Lib.hid (HQ0.out.set l1 lo)
            have Hk1 := Lib.hid h1
            have hS1 := hS0.trans h1
            clear h1
            refine Zed.anyZ_ready (rs := [9]) (by kernel_rfl) (by simp) ?_
            refine Zed.AllZ.cons (o := { dst := none, op := Go.Op.store 3 (Go.Operand.tmp 62) (Go.Operand.tmp 60), type := 0, pos := "ref.go:70", after := #[{ on := 8, ground := Go.Ground.data }, { on := 6, ground := Go.Ground.data }, { on := 0, ground := Go.Ground.phase }, { on := 1, ground := Go.Ground.phase }, { on := 2, ground := Go.Ground.phase }, { on := 3, ground := Go.Ground.textOnly Go.Departure.lateStores }, { on := 4, ground := Go.Ground.textOnly Go.Departure.lateStores }, { on := 5, ground := Go.Ground.textOnly Go.Departure.lateStores }, { on := 6, ground := Go.Ground.phase }, { on := 7, ground := Go.Ground.textOnly Go.Departure.lateStores }], guard := none }) rfl (fun K hK => ?_) Zed.AllZ.nil
            go_simp
            refine hK.out _ _ (fun _ => hS1) (fun hS90 => ?_)
            have hS9 := hS90 (by decide)
            clear hK K hS90
            try simp only [Act.put, List.setIfInBounds_toArray, List.set_cons_zero, List.set_cons_succ]
            clear hS1 hS0 fz r1
            refine Zed.anyZ_take (i := 10) (oi := { dst := some 63, op := Go.Op.indexAddr 23 (Go.Operand.tmp 57) (Go.Operand.tmp 59), type := 0, pos := "ref.go:70", after := #[{ on := 3, ground := Go.Ground.data }, { on := 5, ground := Go.Ground.data }, { on := 0, ground := Go.Ground.phase }, { on := 1, ground := Go.Ground.phase }, { on := 2, ground := Go.Ground.phase }, { on := 3, ground := Go.Ground.phase }, { on := 4, ground := Go.Ground.phase }, { on := 5, ground := Go.Ground.phase }, { on := 6, ground := Go.Ground.phase }, { on := 7, ground := Go.Ground.phase }, { on := 8, ground := Go.Ground.phase }, { on := 9, ground := Go.Ground.phase }], guard := none }) (v := .pointer (some ⟨g, x2, none⟩)) rfl (by decide) (by kernel_rfl) (by kernel_rfl) (by kernel_rfl) (by kernel_rfl) (fun _ _ _ h => h) (Or.inl ⟨by rfl, by intro w2 hSw; (try dsimp only at hSw); have y0 := (keep_cells hSw (lt_of_cell p0) (by omega) 0).trans p0; have y1 := (keep_cells hSw (lt_of_cell p1) (by omega) 1).trans p1; go_simp⟩) hS9 ?_
            try simp only [Act.put, List.setIfInBounds_toArray, List.set_cons_zero, List.set_cons_succ]
            have fz := HQ1.out.fz x2
            have r1 := HQ1.out.cell l2
            have HQ2 := Lib.hid (HQ1.out.set l2 lo)
            have Hk2 := Lib.hid (keeps_setCell (V0.setCell ⟨g, x1, none⟩ (.int .i64 lo)) g x2 (.int .i64 lo))
            generalize V0.setCell ⟨g, x1, none⟩ (.int .i64 lo) = V1 at Hk1 HQ1 hS9 HQ2 Hk2 fz r1 ⊢
            refine Zed.anyZ_ready (rs := [11]) (by kernel_rfl) (by simp) ?_
            refine Zed.AllZ.cons (o := { dst := none, op := Go.Op.store 3 (Go.Operand.tmp 63) (Go.Operand.tmp 61), type := 0, pos := "ref.go:70", after := #[{ on := 10, ground := Go.Ground.data }, { on := 7, ground := Go.Ground.data }, { on := 9, ground := Go.Ground.chain }, { on := 0, ground := Go.Ground.phase }, { on := 1, ground := Go.Ground.phase }, { on := 2, ground := Go.Ground.phase }, { on := 3, ground := Go.Ground.phase }, { on := 4, ground := Go.Ground.phase }, { on := 5, ground := Go.Ground.phase }, { on := 6, ground := Go.Ground.phase }, { on := 7, ground := Go.Ground.phase }, { on := 8, ground := Go.Ground.phase }, { on := 9, ground := Go.Ground.phase }], guard := none }) rfl (fun K hK => ?_) Zed.AllZ.nil
            go_simp
            refine hK.out _ _ (fun h => absurd rfl h) (fun _ => ?_)
            clear hK K
            try simp only [Act.put, List.setIfInBounds_toArray, List.set_cons_zero, List.set_cons_succ]
            refine Zed.anyZ_done (by kernel_rfl) ?_ _
            have HK := Lib.hid (Hk1.out.trans Hk2.out)
            clear fz r1 hS9 p0 p1 hPg
            generalize V1.setCell ⟨g, x2, none⟩ (.int .i64 lo) = V2 at HQ2 HK Hk2 ⊢
            have HB2 := Lib.hid (show Below w0.heap.size w0 V2 from (B1.out.trans (Hd0.out.mono B1.out.size)).trans (HK.out.below (Nat.le_trans B1.out.size Hd0.out.size) (fun j hj e => by have := Hgn.out; omega)))
            have HE : (fun x => if x = (x2 : Int) then lo else if x = (x1 : Int) then lo else G x) = foldG l.zs ds (labG l.zs ds l.n r) (q + 1) := by
              rw [HF.out]
              funext x
              by_cases e1 : x = (x2 : Int) <;> by_cases e2 : x = (x1 : Int) <;> simp [e1, e2]
            have HN := Lib.hid (show RwI V2 g k (foldG l.zs ds (labG l.zs ds l.n r) (q + 1)) by rw [← HE]; exact HQ2.out)
            clear HE
            go_wp2_with fail
            go_roundw
            case rel => exact ⟨q + 1, by have := Hlt2.out; omega, by go_num, Lib.hid ⟨HN.out, HB2.out⟩⟩
            case measure => have := Hlt2.out; simp [intOf]; omega
          obtain rfl : q = l.n := by omega
          have H2 := Lib.hid (show RwI wz g k (labG l.zs ds l.n (r + 1)) ∧ Below w0.heap.size w0 wz from HJ.out)
          clear HJ hbz
          go_wp2_with fail
          go_roundw
          case rel => exact ⟨r + 1, by omega, by go_num, H2⟩
          case measure => simp [intOf]; omega
      obtain rfl : r = k := by omega
      have HL := Lib.hid (show Ints wq (some ⟨g, 0, none⟩) r (flL (fun j => labG l.zs ds l.n r (j : Int)) r) from HI.out.1.ints)
      have HBB := Lib.hid (B.out.trans (hbk.mono B.out.size))
      have Hgw := Lib.hid (Nat.le_trans B.out.size Hgn.out)
      clear HI hbk
      go_wp2_with fail
      go_ret
      exact ⟨g, cap, rfl, Hcap.out, HL.out, Hgw.out, HBB.out⟩
end
end Go.Proofs.Ytigohccehllmnaa

namespace Go.Proofs.Ytigohccehllmnaa
set_option linter.unusedSimpArgs false
set_option linter.unusedVariables false
open Go.RowKit Go.Shelf

theorem GrR.ownlt {w3 wr : World} {v : Value} {gs : List (List Int)} (h : GrR w3 wr v gs) : ∀ g, v.ownBlock = some g → g < wr.heap.size := fun g e => by
  obtain ⟨cs, o1, _⟩ := h.own
  exact own_lt o1 g e
/-- The label of a name is a number. -/
def labP (lab : Int → Int) (n : Nat) : Int → Bool := fun x => decide (lab x = (n : Int))
theorem dgK_yes {lab : Int → Int} {c k : Nat} (h : 0 < (nmK (labP lab k) c).length) : dgK lab c (k + 1) = dgK lab c k ++ [nmK (labP lab k) c] := by
  have h' : 0 < (nmK (fun x => decide (lab x = (k : Int))) c).length := h
  simp only [dgK]; rw [if_pos h']; rfl
theorem dgK_no {lab : Int → Int} {c k : Nat} (h : ¬ 0 < (nmK (labP lab k) c).length) : dgK lab c (k + 1) = dgK lab c k := by
  have h' : ¬ 0 < (nmK (fun x => decide (lab x = (k : Int))) c).length := h
  simp only [dgK]; rw [if_neg h']
theorem dgK_len (lab : Int → Int) (c : Nat) : ∀ k, (dgK lab c k).length ≤ k
  | 0 => Nat.le_refl _
  | k + 1 => by
    have := dgK_len lab c k
    simp only [dgK]
    split
    · rw [List.length_append]; simp; omega
    · omega
theorem ints_at {W : World} {b o n : Nat} {l : List Int} (h : Ints W (some ⟨b, o, none⟩) n l) {j : Nat} (hj : j < n) : W.cell? ⟨b, o + j, none⟩ = some (.int .i64 (iAt l j)) := by
  obtain ⟨b2, o2, e, hc⟩ := h.2 (by omega)
  cases e
  exact hc j hj
section
attribute [local go_sem ↓] exec_app at_app
attribute [local go_sem] Oper.semAt_some
set_option maxRecDepth 100000 in
set_option maxHeartbeats 16000000 in
theorem refGroups16 (l : NL) (DA : Option Addr) (dn dc : Nat) (ds : List Int) (w : World) (h : NLs w l) (hS : Ints w DA dn ds) (hd6 : dn ≤ 1000000) :
    Calls Try.prog 16 #[.agg #[.int .i64 l.N, .slice l.A l.n l.cap, .slice l.LA l.ln l.lc, .slice l.RA l.rn l.rc], .slice DA dn dc] w fun e w' => (layE l ds ≠ 0 ∧ e = .returned (.tuple #[.slice none 0 0, .int .i64 (layE l ds)]) ∨
      layE l ds = 0 ∧ ∃ C cap, e = .returned (.tuple #[.slice C (dgK (labG l.zs ds l.n l.N.toNat) l.N.toNat l.N.toNat).length cap, .int .i64 0]) ∧ (dgK (labG l.zs ds l.n l.N.toNat) l.N.toNat l.N.toNat).length ≤ cap ∧ Rows w' C (dgK (labG l.zs ds l.n l.N.toNat) l.N.toNat l.N.toNat).length (dgK (labG l.zs ds l.n l.N.toNat) l.N.toNat l.N.toNat)) ∧ Below w.heap.size w w' := by
  obtain ⟨R, hR⟩ : ∃ v, w.heap.size = v := ⟨_, rfl⟩
  have hb0 := below_alloc_ w (.cells #[.int .i64 l.N, .slice l.A l.n l.cap, .slice l.LA l.ln l.lc, .slice l.RA l.rn l.rc] 25)
  have hr0 := heap_alloc_new_ w (.cells #[.int .i64 l.N, .slice l.A l.n l.cap, .slice l.LA l.ln l.lc, .slice l.RA l.rn l.rc] 25)
  have hz0 : (w.alloc (.cells #[.int .i64 l.N, .slice l.A l.n l.cap, .slice l.LA l.ln l.lc, .slice l.RA l.rn l.rc] 25)).heap.size = w.heap.size + 1 := by simp
  obtain ⟨w0, hw0⟩ : ∃ v, w.alloc (.cells #[.int .i64 l.N, .slice l.A l.n l.cap, .slice l.LA l.ln l.lc, .slice l.RA l.rn l.rc] 25) = v := ⟨_, rfl⟩
  rw [hw0] at hb0 hr0 hz0
  rw [hR] at hr0 hz0
  have hB := hb0
  have S := Lib.hid (h.below hB (Nat.le_refl _))
  have SD := Lib.hid (hS.below hB (Nat.le_refl _))
  have X := Lib.hid hr0
  have HW0 := Lib.hid hw0
  have B := Lib.hid hB
  have HR := Lib.hid hR
  clear hB hR hb0 hr0 hz0 hw0 h hS
  have Hd6 := Lib.hid hd6
  clear hd6
  have ltX : R < w0.heap.size := lt_of_block X.out
  have zX0 : w0.cell? ⟨R, 0, none⟩ = some (.int .i64 l.N) := by rw [cell_row X.out]; rfl
  have zX1 : w0.cell? ⟨R, 1, none⟩ = some (.slice l.A l.n l.cap) := by rw [cell_row X.out]; rfl
  have zX2 : w0.cell? ⟨R, 2, none⟩ = some (.slice l.LA l.ln l.lc) := by rw [cell_row X.out]; rfl
  have zX3 : w0.cell? ⟨R, 3, none⟩ = some (.slice l.RA l.rn l.rc) := by rw [cell_row X.out]; rfl
  go_enter Try.func16, Try.ntmps16
  go_wp2_with fail
  try rw [HW0.out]
  try rw [HR.out]
  try simp only [Nat.add_assoc, Nat.reduceAdd]
  try go_wp2_with fail
  clear zX0 zX1 zX2 zX3 ltX
  refine (isDrop43 l DA dn dc ds w0 S.out SD.out Hd6.out).mono ?_
  rintro en w1 ⟨rfl, hb⟩
  replace S := Lib.hid (S.out.below hb (Nat.le_refl _))
  replace SD := Lib.hid (SD.out.below hb (Nat.le_refl _))
  replace X := Lib.hid ((hb.block _ (lt_of_block X.out)).trans X.out)
  replace B := Lib.hid (B.out.trans (hb.mono B.out.size))
  obtain ⟨c9, hc⟩ : ∃ v, layE l ds = v := ⟨_, rfl⟩
  rw [hc]
  have HC := Lib.hid hc
  clear hc
  try clear hb
  have ltX : R < w1.heap.size := lt_of_block X.out
  have zX0 : w1.cell? ⟨R, 0, none⟩ = some (.int .i64 l.N) := by rw [cell_row X.out]; rfl
  have zX1 : w1.cell? ⟨R, 1, none⟩ = some (.slice l.A l.n l.cap) := by rw [cell_row X.out]; rfl
  have zX2 : w1.cell? ⟨R, 2, none⟩ = some (.slice l.LA l.ln l.lc) := by rw [cell_row X.out]; rfl
  have zX3 : w1.cell? ⟨R, 3, none⟩ = some (.slice l.RA l.rn l.rc) := by rw [cell_row X.out]; rfl
  by_cases h0 : c9 = 0
  rotate_left
  · have d0 : (c9 != 0) = true := by rw [bne_iff_ne]; exact h0
    have H0 := Lib.hid h0
    clear h0
    go_wp2_with fail
    refine (isDrop43 l DA dn dc ds w1 S.out SD.out Hd6.out).mono ?_
    rintro en w2 ⟨rfl, hb⟩
    replace B := Lib.hid (B.out.trans (hb.mono B.out.size))
    clear hb
    go_wp2_with fail
    go_ret2
    exact ⟨.inl ⟨by rw [HC.out]; exact H0.out, by rw [HC.out] <;> rfl⟩, B.out⟩
  subst h0
  have hch := (layE_ok HC.out).1
  have hN := (chk_zero hch).1
  obtain ⟨c, hcN⟩ : ∃ c : Nat, l.N = (c : Int) := ⟨l.N.toNat, by omega⟩
  have hc40 : 2 ≤ c ∧ c ≤ 40 := by omega
  have HC40 := Lib.hid hc40
  have HCN := Lib.hid hcN
  have Hto := Lib.hid (show l.N.toNat = c by omega)
  have Hch := Lib.hid hch
  clear hN hcN hch hc40
  go_wp2_with fail
  clear zX0 zX1 zX2 zX3 ltX
  refine (groups44 l DA dn dc ds c w1 S.out SD.out Hd6.out Hch.out HCN.out).mono ?_
  rintro en w2 ⟨g, cap, rfl, hcap, hI, hgn, hb⟩
  replace S := Lib.hid (S.out.below hb (Nat.le_refl _))
  replace SD := Lib.hid (SD.out.below hb (Nat.le_refl _))
  replace X := Lib.hid ((hb.block _ (lt_of_block X.out)).trans X.out)
  replace B := Lib.hid (B.out.trans (hb.mono B.out.size))
  obtain ⟨lab, hlab⟩ : ∃ v, labG l.zs ds l.n c = v := ⟨_, rfl⟩
  rw [hlab] at hI
  have HI := Lib.hid hI
  have Hlab := Lib.hid hlab
  clear hI hlab hgn
  try clear hb
  have ltX : R < w2.heap.size := lt_of_block X.out
  have zX0 : w2.cell? ⟨R, 0, none⟩ = some (.int .i64 l.N) := by rw [cell_row X.out]; rfl
  have zX1 : w2.cell? ⟨R, 1, none⟩ = some (.slice l.A l.n l.cap) := by rw [cell_row X.out]; rfl
  have zX2 : w2.cell? ⟨R, 2, none⟩ = some (.slice l.LA l.ln l.lc) := by rw [cell_row X.out]; rfl
  have zX3 : w2.cell? ⟨R, 3, none⟩ = some (.slice l.RA l.rn l.rc) := by rw [cell_row X.out]; rfl
  go_wp2_with fail
  clear zX0 zX1 zX2 zX3 ltX
  go_loopw [7, 8, 9, 10] (fun v i a1 a2 wr => ∃ n : Nat, n ≤ c ∧ i = .int .i64 (n : Int) ∧ Hid (∃ v0 : Value, v = v0 ∧ GrR w2 wr v0 (dgK lab c n) ∧ Below w2.heap.size w2 wr)) (fun v i a1 a2 _ => c - (intOf i).toNat)
  case atStart => exact ⟨0, Nat.zero_le _, rfl, Lib.hid ⟨_, rfl, GrR.nil _ _, Below.refl _ _⟩⟩
  case round =>
    obtain ⟨n, hn9, rfl, HX⟩ := hrel
    obtain ⟨wk, rfl⟩ : ∃ wk, wk = wr := ⟨_, rfl⟩
    obtain ⟨v0, hv, hG, hbk⟩ := HX.out
    obtain rfl : v0 = _ := hv.symm
    clear HX hv
    have Xk := Lib.hid ((hbk.block _ (lt_of_block X.out)).trans X.out)
    have zX0 : wk.cell? ⟨R, 0, none⟩ = some (.int .i64 (c : Int)) := by rw [cell_row Xk.out, ← HCN.out]; rfl
    have HC4 := HC40.out
    by_cases hlt : n < c
    · have HG := Lib.hid hG
      have HBk := Lib.hid hbk
      have HIk := Lib.hid (HI.out.below hbk (Nat.le_refl _))
      have Hlt := Lib.hid hlt
      clear hG hbk
      go_wp2_with fail
      clear zX0
      go_loopw [9, 10] (fun v i wr => ∃ q : Nat, q ≤ c ∧ i = .int .i64 (q : Int) ∧ Hid (∃ v1 : Value, v = v1 ∧ GrL wk wr v1 (nmK (labP lab n) q))) (fun v i _ => c - (intOf i).toNat)
      case atStart => exact ⟨0, Nat.zero_le _, rfl, Lib.hid ⟨_, rfl, GrI.nil _⟩⟩
      case round =>
        obtain ⟨q, hq9, rfl, HY⟩ := hrel
        obtain ⟨wq, rfl⟩ : ∃ wk, wk = wr := ⟨_, rfl⟩
        obtain ⟨v1, hv, hL⟩ := HY.out
        obtain rfl : v1 = _ := hv.symm
        clear HY hv
        have hbq := hL.2.2
        have Xq := Lib.hid ((hbq.block _ (lt_of_block Xk.out)).trans Xk.out)
        have zX0 : wq.cell? ⟨R, 0, none⟩ = some (.int .i64 (c : Int)) := by rw [cell_row Xq.out, ← HCN.out]; rfl
        by_cases hlt2 : q < c
        · have r1 : wq.cell? ⟨g, 0 + q, none⟩ = some (.int .i64 (lab (q : Int))) := by
            have := ints_at (HIk.out.below hbq (Nat.le_refl _)) hlt2
            rw [flL_at _ hlt2] at this
            exact this
          rw [Nat.zero_add] at r1
          have i0 : (0 : Int) ≤ (q : Int) := by omega
          have i1 : (q : Int) < (c : Int) := by omega
          have hy : lab (q : Int) = (n : Int) → nmK (labP lab n) (q + 1) = nmK (labP lab n) q ++ [(q : Int)] := fun e => nmK_yes (by simp [labP, e])
          have hno : ¬ lab (q : Int) = (n : Int) → nmK (labP lab n) (q + 1) = nmK (labP lab n) q := fun e => nmK_no (by simp [labP, e])
          obtain ⟨lq, hlq⟩ : ∃ v, lab (q : Int) = v := ⟨_, rfl⟩
          rw [hlq] at r1 hy hno
          have Hy := Lib.hid hy
          have Hno := Lib.hid hno
          have HL := Lib.hid hL
          have hlen := nmK_len (labP lab n) q
          obtain ⟨C, cc, W', hrun, hG2, hkp⟩ := GrI.app2 hL (q : Int) (by omega)
          have HG2 := Lib.hid (show GrL wk W' (.slice C ((nmK (labP lab n) q).length + 1) cc) (nmK (labP lab n) q ++ [(q : Int)]) from by unfold GrL; rw [List.length_append]; exact hG2)
          clear hy hno hlq hL hG2 hbq hlen hkp
          by_cases he : lq = (n : Int)
          · have d0 : (lq == (n : Int)) = true := by rw [beq_iff_eq]; exact he
            have HN := Lib.hid (Hy.out he)
            clear he
            go_wp2_with fail
            go_roundw
            case rel => exact ⟨q + 1, by omega, by go_num, Lib.hid ⟨_, rfl, by rw [HN.out]; exact HG2.out⟩⟩
            case measure => simp [intOf]; omega
          · have d0 : (lq == (n : Int)) = false := by rw [beq_eq_false_iff_ne]; exact he
            have HN := Lib.hid (Hno.out he)
            clear he hrun
            go_wp2_with fail
            go_roundw
            case rel => exact ⟨q + 1, by omega, by go_num, Lib.hid ⟨_, rfl, by rw [HN.out]; exact HL.out⟩⟩
            case measure => simp [intOf]; omega
        · obtain rfl : q = c := by omega
          have hlen := nmK_len (labP lab n) q
          have hdl := dgK_len lab q n
          have hnlt := Hlt.out
          have hG9 := HG.out.below hbq (Nat.le_refl _)
          obtain ⟨C, cc, rfl, hcc, hI9, -⟩ := ints_own rfl hL.1
          obtain ⟨C8, c8, W8, hrun, hG8, hk8⟩ := GrR.app hG9 hI9 hcc (by omega) (fun hm a e1 e2 => by
            have h1 := HG.out.ownlt a.block e2
            have h2 := hL.2.1 a.block (by
              obtain ⟨b9, o9, e9, -⟩ := hI9.2 hm
              rw [e9] at e1
              cases e1
              rw [e9]; rfl)
            omega) (by have := HBk.out.size; have := hbq.size; omega) (by omega)
          have HBq := Lib.hid (HBk.out.trans (hbq.mono HBk.out.size))
          have HG9 := Lib.hid hG9
          have HG8 := Lib.hid (show GrR w2 W8 (.slice C8 ((dgK lab q n).length + 1) c8) (dgK lab q n ++ [nmK (labP lab n) q]) ∧ Below w2.heap.size w2 W8 from ⟨hG8, HBq.out.trans (hk8.below HBq.out.size (fun j hj e => by have := hG9.new j e; omega))⟩)
          have hdy := dgK_yes (lab := lab) (c := q) (k := n)
          have hdn := dgK_no (lab := lab) (c := q) (k := n)
          obtain ⟨m, hm⟩ : ∃ v, (nmK (labP lab n) q).length = v := ⟨_, rfl⟩
          rw [hm] at hrun hdy hdn ⊢
          have Hdy := Lib.hid hdy
          have Hdn := Lib.hid hdn
          clear hG8 hG9 hk8 hbq hL hdy hdn hlen hdl hI9 hm hcc
          by_cases h0 : 0 < m
          · have d0 : decide ((0 : Int) < (m : Int)) = true := decide_eq_true (by omega)
            have HN := Lib.hid (Hdy.out h0)
            go_wp2_with fail
            go_roundw
            case rel => exact ⟨n + 1, by omega, by go_num, Lib.hid ⟨_, rfl, by rw [HN.out]; exact HG8.out.1, HG8.out.2⟩⟩
            case measure => simp [intOf]; omega
          · have d0 : decide ((0 : Int) < (m : Int)) = false := decide_eq_false (by omega)
            have HN := Lib.hid (Hdn.out h0)
            clear hrun
            go_wp2_with fail
            go_roundw
            case rel => exact ⟨n + 1, by omega, by go_num, Lib.hid ⟨_, rfl, by rw [HN.out]; exact HG9.out, HBq.out⟩⟩
            case measure => simp [intOf]; omega
    · obtain rfl : n = c := by omega
      obtain ⟨C, cp, rfl, hcp, hR⟩ := hG.rows
      have HR9 := Lib.hid (And.intro hcp hR)
      have HB := Lib.hid (B.out.trans (hbk.mono B.out.size))
      clear hcp hR hG hbk
      go_wp2_with fail
      go_ret2
      exact ⟨.inr ⟨HC.out, by rw [Hto.out, Hlab.out]; exact ⟨C, cp, rfl, HR9.out.1, HR9.out.2⟩⟩, HB.out⟩
end
end Go.Proofs.Ytigohccehllmnaa
