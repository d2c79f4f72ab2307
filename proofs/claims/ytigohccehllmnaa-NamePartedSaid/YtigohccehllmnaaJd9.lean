/- Stage 6: whether names are joined, in the document. -/
import Derived.Test.YtigohccehllmnaaG69
import Derived.Test.YtigohccehllmnaaGl
namespace Go.Proofs.Ytigohccehllmnaa
set_option linter.unusedSimpArgs false
set_option linter.unusedVariables false
open Go.RowKit Go.Shelf
abbrev opJd0 : Oper := { dst := some 25, op := Go.Op.move (Go.Operand.tmp 5), type := 23, pos := "ref.go:103", after := #[], guard := none }
abbrev opJd1 : Oper := { dst := some 26, op := Go.Op.fieldAddr 25 (Go.Operand.tmp 2) 2, type := 0, pos := "ref.go:103", after := #[], guard := none }
abbrev opJd2 : Oper := { dst := some 27, op := Go.Op.load 23 (Go.Operand.tmp 26), type := 23, pos := "ref.go:103", after := #[{ on := 1, ground := Go.Ground.data }], guard := none }
abbrev opJd3 : Oper := { dst := some 28, op := Go.Op.move (Go.Operand.tmp 6), type := 3, pos := "ref.go:103", after := #[], guard := none }
abbrev opJd4 : Oper := { dst := some 29, op := Go.Op.indexAddr 23 (Go.Operand.tmp 27) (Go.Operand.tmp 28), type := 0, pos := "ref.go:103", after := #[{ on := 2, ground := Go.Ground.data }, { on := 3, ground := Go.Ground.data }], guard := none }
abbrev opJd5 : Oper := { dst := some 30, op := Go.Op.load 3 (Go.Operand.tmp 29), type := 3, pos := "ref.go:103", after := #[{ on := 4, ground := Go.Ground.data }], guard := none }
abbrev opJd6 : Oper := { dst := some 31, op := Go.Op.indexAddr 23 (Go.Operand.tmp 25) (Go.Operand.tmp 30), type := 0, pos := "ref.go:103", after := #[{ on := 0, ground := Go.Ground.data }, { on := 5, ground := Go.Ground.data }], guard := none }
abbrev opJd7 : Oper := { dst := some 32, op := Go.Op.load 3 (Go.Operand.tmp 31), type := 3, pos := "ref.go:103", after := #[{ on := 6, ground := Go.Ground.data }], guard := none }
abbrev opJd8 : Oper := { dst := some 33, op := Go.Op.move (Go.Operand.tmp 5), type := 23, pos := "ref.go:103", after := #[], guard := none }
abbrev opJd9 : Oper := { dst := some 34, op := Go.Op.fieldAddr 25 (Go.Operand.tmp 2) 3, type := 0, pos := "ref.go:103", after := #[], guard := none }
abbrev opJd10 : Oper := { dst := some 35, op := Go.Op.load 23 (Go.Operand.tmp 34), type := 23, pos := "ref.go:103", after := #[{ on := 9, ground := Go.Ground.data }], guard := none }
abbrev opJd11 : Oper := { dst := some 36, op := Go.Op.move (Go.Operand.tmp 7), type := 3, pos := "ref.go:103", after := #[], guard := none }
abbrev opJd12 : Oper := { dst := some 37, op := Go.Op.indexAddr 23 (Go.Operand.tmp 35) (Go.Operand.tmp 36), type := 0, pos := "ref.go:103", after := #[{ on := 10, ground := Go.Ground.data }, { on := 11, ground := Go.Ground.data }], guard := none }
abbrev opJd13 : Oper := { dst := some 38, op := Go.Op.load 3 (Go.Operand.tmp 37), type := 3, pos := "ref.go:103", after := #[{ on := 12, ground := Go.Ground.data }], guard := none }
abbrev opJd14 : Oper := { dst := some 39, op := Go.Op.indexAddr 23 (Go.Operand.tmp 33) (Go.Operand.tmp 38), type := 0, pos := "ref.go:103", after := #[{ on := 8, ground := Go.Ground.data }, { on := 13, ground := Go.Ground.data }], guard := none }
abbrev opJd15 : Oper := { dst := some 40, op := Go.Op.load 3 (Go.Operand.tmp 39), type := 3, pos := "ref.go:103", after := #[{ on := 14, ground := Go.Ground.data }], guard := none }
abbrev opJd16 : Oper := { dst := some 41, op := Go.Op.binOp Go.BinOp.eql 3 (Go.Operand.tmp 32) (Go.Operand.tmp 40) 3, type := 4, pos := "ref.go:103", after := #[{ on := 7, ground := Go.Ground.data }, { on := 15, ground := Go.Ground.data }], guard := none }

theorem iAt_mem {zs : List Int} {k : Nat} (hk : k < zs.length) : iAt zs k ∈ zs := mem_iAt hk rfl
theorem mem_idx {zs : List Int} {x : Int} (h : x ∈ zs) : ∃ k, k < zs.length ∧ iAt zs k = x := by
  obtain ⟨k, hk, e⟩ := List.mem_iff_getElem.1 h
  exact ⟨k, hk, by rw [iAt_eq hk]; exact e⟩
theorem jnB_yes {lab : Int → Int} {L R : List Int} {i k : Nat} (hi : i < L.length) (hk : k < R.length) (h : lab (iAt L i) = lab (iAt R k)) : jnB lab L R = true :=
  List.any_eq_true.2 ⟨_, iAt_mem hi, List.any_eq_true.2 ⟨_, iAt_mem hk, decide_eq_true h⟩⟩
theorem jnB_no {lab : Int → Int} {L R : List Int} {n m : Nat} (hL : L.length = n) (hR : R.length = m) (h : ∀ i, i < n → ∀ k, k < m → lab (iAt L i) ≠ lab (iAt R k)) : jnB lab L R = false := by
  rw [← Bool.not_eq_true]
  intro e
  obtain ⟨a, ha, e⟩ := List.any_eq_true.1 e
  obtain ⟨b, hb, e⟩ := List.any_eq_true.1 e
  obtain ⟨i, hi, rfl⟩ := mem_idx ha
  obtain ⟨k, hk, rfl⟩ := mem_idx hb
  exact h i (by omega) k (by omega) (of_decide_eq_true e)
section
attribute [local go_sem ↓] exec_app at_app
attribute [local go_sem] Oper.semAt_some
set_option maxRecDepth 100000 in
set_option maxHeartbeats 16000000 in
theorem joined37 (l : NL) (DA : Option Addr) (dn dc : Nat) (ds : List Int) (c : Nat) (w : World) (h : NLs w l) (hS : Ints w DA dn ds) (hd6 : dn ≤ 1000000) (hch : chkL l = 0) (hcN : l.N = (c : Int)) :
    Calls Try.prog 37 #[.agg #[.int .i64 l.N, .slice l.A l.n l.cap, .slice l.LA l.ln l.lc, .slice l.RA l.rn l.rc], .slice DA dn dc] w fun e w' => e = .returned (.bool (jnB (labG l.zs ds l.n c) l.ls l.rs)) ∧ Below w.heap.size w w' := by
  have Hnl := Lib.hid (show ∀ i, i < l.ln → 0 ≤ iAt l.ls i ∧ iAt l.ls i < c from fun i hi => by have := ris_in (chk_zero hch).2.2.2.2.2.1 h.ls.1 i hi; omega)
  have Hnr := Lib.hid (show ∀ i, i < l.rn → 0 ≤ iAt l.rs i ∧ iAt l.rs i < c from fun i hi => by have := ris_in (chk_zero hch).2.2.2.2.2.2.1 h.rs.1 i hi; omega)
  obtain ⟨R, hR⟩ : ∃ v, w.heap.size = v := ⟨_, rfl⟩
  have hb0 := below_alloc_ w (.cells #[.int .i64 l.N, .slice l.A l.n l.cap, .slice l.LA l.ln l.lc, .slice l.RA l.rn l.rc] 25)
  have hr0 := heap_alloc_new_ w (.cells #[.int .i64 l.N, .slice l.A l.n l.cap, .slice l.LA l.ln l.lc, .slice l.RA l.rn l.rc] 25)
  have hz0 : (w.alloc (.cells #[.int .i64 l.N, .slice l.A l.n l.cap, .slice l.LA l.ln l.lc, .slice l.RA l.rn l.rc] 25)).heap.size = w.heap.size + 1 := by simp
  obtain ⟨w0, hw0⟩ : ∃ v, w.alloc (.cells #[.int .i64 l.N, .slice l.A l.n l.cap, .slice l.LA l.ln l.lc, .slice l.RA l.rn l.rc] 25) = v := ⟨_, rfl⟩
  rw [hw0] at hb0 hr0 hz0
  rw [hR] at hr0 hz0
  have hB := hb0
  have S := Lib.hid (h.below hB (Nat.le_refl _))
  have SD := Lib.hid (hS.below hB (Nat.le_refl _))
  have X := Lib.hid hr0
  have HW0 := Lib.hid hw0
  have B := Lib.hid hB
  have HR := Lib.hid hR
  clear hB hR hb0 hr0 hz0 hw0 h hS
  have Hd6 := Lib.hid hd6
  have Hch := Lib.hid hch
  have HCN := Lib.hid hcN
  clear hd6 hch hcN
  have ltX : R < w0.heap.size := lt_of_block X.out
  have zX0 : w0.cell? ⟨R, 0, none⟩ = some (.int .i64 l.N) := by rw [cell_row X.out]; rfl
  have zX1 : w0.cell? ⟨R, 1, none⟩ = some (.slice l.A l.n l.cap) := by rw [cell_row X.out]; rfl
  have zX2 : w0.cell? ⟨R, 2, none⟩ = some (.slice l.LA l.ln l.lc) := by rw [cell_row X.out]; rfl
  have zX3 : w0.cell? ⟨R, 3, none⟩ = some (.slice l.RA l.rn l.rc) := by rw [cell_row X.out]; rfl
  go_enter Try.func37, Try.ntmps37
  go_wp2_with fail
  try rw [HW0.out]
  try rw [HR.out]
  try simp only [Nat.add_assoc, Nat.reduceAdd]
  try go_wp2_with fail
  clear zX0 zX1 zX2 zX3 ltX
  refine (groups44 l DA dn dc ds c w0 S.out SD.out Hd6.out Hch.out HCN.out).mono ?_
  rintro en w1 ⟨g, cap, rfl, hcap, hI, hgn, hb⟩
  replace S := Lib.hid (S.out.below hb (Nat.le_refl _))
  replace SD := Lib.hid (SD.out.below hb (Nat.le_refl _))
  replace X := Lib.hid ((hb.block _ (lt_of_block X.out)).trans X.out)
  replace B := Lib.hid (B.out.trans (hb.mono B.out.size))
  obtain ⟨lab, hlab⟩ : ∃ v, labG l.zs ds l.n c = v := ⟨_, rfl⟩
  rw [hlab] at hI
  have HI := Lib.hid hI
  have Hlab := Lib.hid hlab
  clear hI hlab hgn hcap
  try clear hb
  have ltX : R < w1.heap.size := lt_of_block X.out
  have zX0 : w1.cell? ⟨R, 0, none⟩ = some (.int .i64 l.N) := by rw [cell_row X.out]; rfl
  have zX1 : w1.cell? ⟨R, 1, none⟩ = some (.slice l.A l.n l.cap) := by rw [cell_row X.out]; rfl
  have zX2 : w1.cell? ⟨R, 2, none⟩ = some (.slice l.LA l.ln l.lc) := by rw [cell_row X.out]; rfl
  have zX3 : w1.cell? ⟨R, 3, none⟩ = some (.slice l.RA l.rn l.rc) := by rw [cell_row X.out]; rfl
  go_wp2_with fail
  clear zX0 zX1 zX2 zX3 ltX
  go_loopw [6, 7] (fun i k wr => ∃ n : Nat, n ≤ l.ln ∧ i = .int .i64 (n : Int) ∧ Hid (Below w1.heap.size w1 wr ∧ ∀ j, j < n → ∀ m, m < l.rn → lab (iAt l.ls j) ≠ lab (iAt l.rs m))) (fun i k _ => l.ln - (intOf i).toNat)
  case atStart => exact ⟨0, Nat.zero_le _, rfl, Lib.hid ⟨Below.refl _ _, fun j hj => by omega⟩⟩
  case round =>
    obtain ⟨n, hn9, rfl, HX⟩ := hrel
    obtain ⟨wk, rfl⟩ : ∃ wk, wk = wr := ⟨_, rfl⟩
    have hbk := HX.out.1
    have Xk := Lib.hid ((hbk.block _ (lt_of_block X.out)).trans X.out)
    have zX2 : wk.cell? ⟨R, 2, none⟩ = some (.slice l.LA l.ln l.lc) := by rw [cell_row Xk.out]; rfl
    have hl10 := (chk_zero Hch.out).2.2.1
    have hr10 := (chk_zero Hch.out).2.2.2.1
    by_cases hlt : n < l.ln
    · have Hlt := Lib.hid hlt
      have HNe := Lib.hid HX.out.2
      have HBk := Lib.hid hbk
      clear HX hbk Xk
      go_wp2_with fail
      clear zX2
      go_loopw [7] (fun k wr => ∃ q : Nat, q ≤ l.rn ∧ k = .int .i64 (q : Int) ∧ Hid (Below w1.heap.size w1 wr ∧ ∀ m, m < q → lab (iAt l.ls n) ≠ lab (iAt l.rs m))) (fun k _ => l.rn - (intOf k).toNat)
      case atStart => exact ⟨0, Nat.zero_le _, rfl, Lib.hid ⟨HBk.out, fun j hj => by omega⟩⟩
      case round =>
        obtain ⟨q, hq9, rfl, HY⟩ := hrel
        obtain ⟨wq, rfl⟩ : ∃ wk, wk = wr := ⟨_, rfl⟩
        have hbq := HY.out.1
        have Xq := Lib.hid ((hbq.block _ (lt_of_block X.out)).trans X.out)
        have zX3 : wq.cell? ⟨R, 3, none⟩ = some (.slice l.RA l.rn l.rc) := by rw [cell_row Xq.out]; rfl
        by_cases hlt2 : q < l.rn
        · have hlt := Hlt.out
          obtain ⟨bl, ol, hAl, hcl⟩ := (S.out.ls.below hbq (Nat.le_refl _)).2 (by omega)
          obtain ⟨br, orr, hAr, hcr⟩ := (S.out.rs.below hbq (Nat.le_refl _)).2 (by omega)
          have rl := hcl n hlt
          have rr := hcr q hlt2
          have hnl := Hnl.out n hlt
          have hnr := Hnr.out q hlt2
          have HQn := Lib.hid HY.out.2
          have HYes := Lib.hid (show lab (iAt l.ls n) = lab (iAt l.rs q) → jnB lab l.ls l.rs = true from fun e => jnB_yes (by rw [S.out.ls.1]; exact hlt) (by rw [S.out.rs.1]; exact hlt2) e)
          obtain ⟨xl, hxl⟩ : ∃ v, iAt l.ls n = v := ⟨_, rfl⟩
          obtain ⟨xr, hxr⟩ : ∃ v, iAt l.rs q = v := ⟨_, rfl⟩
          have Hxr := Lib.hid hxr
          rw [hxl] at rl hnl HQn HYes
          rw [hxr] at rr hnr HYes
          have Hxl := Lib.hid hxl
          obtain ⟨nl, rfl⟩ : ∃ v : Nat, xl = (v : Int) := ⟨xl.toNat, by omega⟩
          obtain ⟨nr, rfl⟩ : ∃ v : Nat, xr = (v : Int) := ⟨xr.toNat, by omega⟩
          have i0 : (0 : Int) ≤ (nl : Int) := by omega
          have i1 : (nl : Int) < (c : Int) := by omega
          have i2 : (0 : Int) ≤ (nr : Int) := by omega
          have i3 : (nr : Int) < (c : Int) := by omega
          have i4 : (0 : Int) ≤ (n : Int) := by omega
          have i5 : (n : Int) < (l.ln : Int) := by omega
          have i6 : (0 : Int) ≤ (q : Int) := by omega
          have i7 : (q : Int) < (l.rn : Int) := by omega
          have HIq := HI.out.below hbq (Nat.le_refl _)
          have gl := ints_at HIq (j := nl) (by omega)
          have gr := ints_at HIq (j := nr) (by omega)
          rw [flL_at _ (by omega), Nat.zero_add] at gl gr
          have yb2 : wq.cell? ⟨R, 2, none⟩ = some (.slice (some ⟨bl, ol, none⟩) l.ln l.lc) := by rw [← hAl, cell_row Xq.out]; rfl
          have yb3 : wq.cell? ⟨R, 3, none⟩ = some (.slice (some ⟨br, orr, none⟩) l.rn l.rc) := by rw [← hAr, cell_row Xq.out]; rfl
          rw [hAr] at zX3
          obtain ⟨vl, hvl⟩ : ∃ v, lab (nl : Int) = v := ⟨_, rfl⟩
          obtain ⟨vr, hvr⟩ : ∃ v, lab (nr : Int) = v := ⟨_, rfl⟩
          rw [hvl] at gl HYes HQn
          rw [hvr] at gr HYes
          have Hvr := Lib.hid hvr
          have HBq := Lib.hid hbq
          have HQ2 := Lib.hid (show vl ≠ vr → ∀ m, m < q + 1 → vl ≠ lab (iAt l.rs m) from fun hne m hm => by
            rcases Nat.lt_or_ge m q with h | h
            · exact HQn.out m h
            · obtain rfl : m = q := by omega
              rw [Hxr.out, Hvr.out]; exact hne)
          have Hvl := Lib.hid (show lab (iAt l.ls n) = vl by rw [Hxl.out, hvl])
          clear hvl hvr hxl hxr hcl hcr hAl hAr hnl hnr hlt HIq hbq HY
          go_upto_region 8 with fail
          clear zX3
          by_cases he : vl = vr
          · have d0 : (vl == vr) = true := by rw [beq_iff_eq]; exact he
            have HJ := Lib.hid (HYes.out he)
            clear he
            refine wp_region_held_drew (S := fun w2 => Below wq.heap.size wq w2) (by kernel_rfl) (drew_b _ _) (fun hS0 => ?_)
            refine wpAnyH_take (i := 0) (oi := opJd0) (v := .slice (some ⟨g, 0, none⟩) c cap) rfl (by kernel_rfl) (by kernel_rfl) (by kernel_rfl) (fun _ _ _ h => h) (Or.inl ⟨by rfl, by intro w2 hSw; (try dsimp only at hSw);  have yrl := (hSw.cell (lt_of_cell rl)).trans rl; have yrr := (hSw.cell (lt_of_cell rr)).trans rr; have ygl := (hSw.cell (lt_of_cell gl)).trans gl; have ygr := (hSw.cell (lt_of_cell gr)).trans gr; have yyb2 := (hSw.cell (lt_of_cell yb2)).trans yb2; have yyb3 := (hSw.cell (lt_of_cell yb3)).trans yb3;  go_simp⟩) hS0 ?_
            try simp only [Act.put, List.setIfInBounds_toArray, List.set_cons_zero, List.set_cons_succ]
            refine wpAnyH_take (i := 1) (oi := opJd1) (v := .pointer (some ⟨R, 2, none⟩)) rfl (by kernel_rfl) (by kernel_rfl) (by kernel_rfl) (fun _ _ _ h => h) (Or.inl ⟨by rfl, by intro w2 hSw; (try dsimp only at hSw);  have yrl := (hSw.cell (lt_of_cell rl)).trans rl; have yrr := (hSw.cell (lt_of_cell rr)).trans rr; have ygl := (hSw.cell (lt_of_cell gl)).trans gl; have ygr := (hSw.cell (lt_of_cell gr)).trans gr; have yyb2 := (hSw.cell (lt_of_cell yb2)).trans yb2; have yyb3 := (hSw.cell (lt_of_cell yb3)).trans yb3;  go_simp⟩) hS0 ?_
            try simp only [Act.put, List.setIfInBounds_toArray, List.set_cons_zero, List.set_cons_succ]
            refine wpAnyH_take (i := 2) (oi := opJd2) (v := .slice (some ⟨bl, ol, none⟩) l.ln l.lc) rfl (by kernel_rfl) (by kernel_rfl) (by kernel_rfl) (fun _ _ _ h => h) (Or.inl ⟨by rfl, by intro w2 hSw; (try dsimp only at hSw);  have yrl := (hSw.cell (lt_of_cell rl)).trans rl; have yrr := (hSw.cell (lt_of_cell rr)).trans rr; have ygl := (hSw.cell (lt_of_cell gl)).trans gl; have ygr := (hSw.cell (lt_of_cell gr)).trans gr; have yyb2 := (hSw.cell (lt_of_cell yb2)).trans yb2; have yyb3 := (hSw.cell (lt_of_cell yb3)).trans yb3;  go_simp⟩) hS0 ?_
            try simp only [Act.put, List.setIfInBounds_toArray, List.set_cons_zero, List.set_cons_succ]
            refine wpAnyH_take (i := 3) (oi := opJd3) (v := .int .i64 (n : Int)) rfl (by kernel_rfl) (by kernel_rfl) (by kernel_rfl) (fun _ _ _ h => h) (Or.inl ⟨by rfl, by intro w2 hSw; (try dsimp only at hSw);  have yrl := (hSw.cell (lt_of_cell rl)).trans rl; have yrr := (hSw.cell (lt_of_cell rr)).trans rr; have ygl := (hSw.cell (lt_of_cell gl)).trans gl; have ygr := (hSw.cell (lt_of_cell gr)).trans gr; have yyb2 := (hSw.cell (lt_of_cell yb2)).trans yb2; have yyb3 := (hSw.cell (lt_of_cell yb3)).trans yb3;  go_simp⟩) hS0 ?_
            try simp only [Act.put, List.setIfInBounds_toArray, List.set_cons_zero, List.set_cons_succ]
            refine wpAnyH_take (i := 4) (oi := opJd4) (v := .pointer (some ⟨bl, ol + n, none⟩)) rfl (by kernel_rfl) (by kernel_rfl) (by kernel_rfl) (fun _ _ _ h => h) (Or.inl ⟨by rfl, by intro w2 hSw; (try dsimp only at hSw);  have yrl := (hSw.cell (lt_of_cell rl)).trans rl; have yrr := (hSw.cell (lt_of_cell rr)).trans rr; have ygl := (hSw.cell (lt_of_cell gl)).trans gl; have ygr := (hSw.cell (lt_of_cell gr)).trans gr; have yyb2 := (hSw.cell (lt_of_cell yb2)).trans yb2; have yyb3 := (hSw.cell (lt_of_cell yb3)).trans yb3;  go_simp⟩) hS0 ?_
            try simp only [Act.put, List.setIfInBounds_toArray, List.set_cons_zero, List.set_cons_succ]
            refine wpAnyH_take (i := 5) (oi := opJd5) (v := .int .i64 (nl : Int)) rfl (by kernel_rfl) (by kernel_rfl) (by kernel_rfl) (fun _ _ _ h => h) (Or.inl ⟨by rfl, by intro w2 hSw; (try dsimp only at hSw);  have yrl := (hSw.cell (lt_of_cell rl)).trans rl; have yrr := (hSw.cell (lt_of_cell rr)).trans rr; have ygl := (hSw.cell (lt_of_cell gl)).trans gl; have ygr := (hSw.cell (lt_of_cell gr)).trans gr; have yyb2 := (hSw.cell (lt_of_cell yb2)).trans yb2; have yyb3 := (hSw.cell (lt_of_cell yb3)).trans yb3;  go_simp⟩) hS0 ?_
            try simp only [Act.put, List.setIfInBounds_toArray, List.set_cons_zero, List.set_cons_succ]
            refine wpAnyH_take (i := 6) (oi := opJd6) (v := .pointer (some ⟨g, nl, none⟩)) rfl (by kernel_rfl) (by kernel_rfl) (by kernel_rfl) (fun _ _ _ h => h) (Or.inl ⟨by rfl, by intro w2 hSw; (try dsimp only at hSw);  have yrl := (hSw.cell (lt_of_cell rl)).trans rl; have yrr := (hSw.cell (lt_of_cell rr)).trans rr; have ygl := (hSw.cell (lt_of_cell gl)).trans gl; have ygr := (hSw.cell (lt_of_cell gr)).trans gr; have yyb2 := (hSw.cell (lt_of_cell yb2)).trans yb2; have yyb3 := (hSw.cell (lt_of_cell yb3)).trans yb3;  go_simp⟩) hS0 ?_
            try simp only [Act.put, List.setIfInBounds_toArray, List.set_cons_zero, List.set_cons_succ]
            refine wpAnyH_take (i := 7) (oi := opJd7) (v := .int .i64 vl) rfl (by kernel_rfl) (by kernel_rfl) (by kernel_rfl) (fun _ _ _ h => h) (Or.inl ⟨by rfl, by intro w2 hSw; (try dsimp only at hSw);  have yrl := (hSw.cell (lt_of_cell rl)).trans rl; have yrr := (hSw.cell (lt_of_cell rr)).trans rr; have ygl := (hSw.cell (lt_of_cell gl)).trans gl; have ygr := (hSw.cell (lt_of_cell gr)).trans gr; have yyb2 := (hSw.cell (lt_of_cell yb2)).trans yb2; have yyb3 := (hSw.cell (lt_of_cell yb3)).trans yb3;  go_simp⟩) hS0 ?_
            try simp only [Act.put, List.setIfInBounds_toArray, List.set_cons_zero, List.set_cons_succ]
            refine wpAnyH_take (i := 8) (oi := opJd8) (v := .slice (some ⟨g, 0, none⟩) c cap) rfl (by kernel_rfl) (by kernel_rfl) (by kernel_rfl) (fun _ _ _ h => h) (Or.inl ⟨by rfl, by intro w2 hSw; (try dsimp only at hSw);  have yrl := (hSw.cell (lt_of_cell rl)).trans rl; have yrr := (hSw.cell (lt_of_cell rr)).trans rr; have ygl := (hSw.cell (lt_of_cell gl)).trans gl; have ygr := (hSw.cell (lt_of_cell gr)).trans gr; have yyb2 := (hSw.cell (lt_of_cell yb2)).trans yb2; have yyb3 := (hSw.cell (lt_of_cell yb3)).trans yb3;  go_simp⟩) hS0 ?_
            try simp only [Act.put, List.setIfInBounds_toArray, List.set_cons_zero, List.set_cons_succ]
            refine wpAnyH_take (i := 9) (oi := opJd9) (v := .pointer (some ⟨R, 3, none⟩)) rfl (by kernel_rfl) (by kernel_rfl) (by kernel_rfl) (fun _ _ _ h => h) (Or.inl ⟨by rfl, by intro w2 hSw; (try dsimp only at hSw);  have yrl := (hSw.cell (lt_of_cell rl)).trans rl; have yrr := (hSw.cell (lt_of_cell rr)).trans rr; have ygl := (hSw.cell (lt_of_cell gl)).trans gl; have ygr := (hSw.cell (lt_of_cell gr)).trans gr; have yyb2 := (hSw.cell (lt_of_cell yb2)).trans yb2; have yyb3 := (hSw.cell (lt_of_cell yb3)).trans yb3;  go_simp⟩) hS0 ?_
            try simp only [Act.put, List.setIfInBounds_toArray, List.set_cons_zero, List.set_cons_succ]
            refine wpAnyH_take (i := 10) (oi := opJd10) (v := .slice (some ⟨br, orr, none⟩) l.rn l.rc) rfl (by kernel_rfl) (by kernel_rfl) (by kernel_rfl) (fun _ _ _ h => h) (Or.inl ⟨by rfl, by intro w2 hSw; (try dsimp only at hSw);  have yrl := (hSw.cell (lt_of_cell rl)).trans rl; have yrr := (hSw.cell (lt_of_cell rr)).trans rr; have ygl := (hSw.cell (lt_of_cell gl)).trans gl; have ygr := (hSw.cell (lt_of_cell gr)).trans gr; have yyb2 := (hSw.cell (lt_of_cell yb2)).trans yb2; have yyb3 := (hSw.cell (lt_of_cell yb3)).trans yb3;  go_simp⟩) hS0 ?_
            try simp only [Act.put, List.setIfInBounds_toArray, List.set_cons_zero, List.set_cons_succ]
            refine wpAnyH_take (i := 11) (oi := opJd11) (v := .int .i64 (q : Int)) rfl (by kernel_rfl) (by kernel_rfl) (by kernel_rfl) (fun _ _ _ h => h) (Or.inl ⟨by rfl, by intro w2 hSw; (try dsimp only at hSw);  have yrl := (hSw.cell (lt_of_cell rl)).trans rl; have yrr := (hSw.cell (lt_of_cell rr)).trans rr; have ygl := (hSw.cell (lt_of_cell gl)).trans gl; have ygr := (hSw.cell (lt_of_cell gr)).trans gr; have yyb2 := (hSw.cell (lt_of_cell yb2)).trans yb2; have yyb3 := (hSw.cell (lt_of_cell yb3)).trans yb3;  go_simp⟩) hS0 ?_
            try simp only [Act.put, List.setIfInBounds_toArray, List.set_cons_zero, List.set_cons_succ]
            refine wpAnyH_take (i := 12) (oi := opJd12) (v := .pointer (some ⟨br, orr + q, none⟩)) rfl (by kernel_rfl) (by kernel_rfl) (by kernel_rfl) (fun _ _ _ h => h) (Or.inl ⟨by rfl, by intro w2 hSw; (try dsimp only at hSw);  have yrl := (hSw.cell (lt_of_cell rl)).trans rl; have yrr := (hSw.cell (lt_of_cell rr)).trans rr; have ygl := (hSw.cell (lt_of_cell gl)).trans gl; have ygr := (hSw.cell (lt_of_cell gr)).trans gr; have yyb2 := (hSw.cell (lt_of_cell yb2)).trans yb2; have yyb3 := (hSw.cell (lt_of_cell yb3)).trans yb3;  go_simp⟩) hS0 ?_
            try simp only [Act.put, List.setIfInBounds_toArray, List.set_cons_zero, List.set_cons_succ]
            refine wpAnyH_take (i := 13) (oi := opJd13) (v := .int .i64 (nr : Int)) rfl (by kernel_rfl) (by kernel_rfl) (by kernel_rfl) (fun _ _ _ h => h) (Or.inl ⟨by rfl, by intro w2 hSw; (try dsimp only at hSw);  have yrl := (hSw.cell (lt_of_cell rl)).trans rl; have yrr := (hSw.cell (lt_of_cell rr)).trans rr; have ygl := (hSw.cell (lt_of_cell gl)).trans gl; have ygr := (hSw.cell (lt_of_cell gr)).trans gr; have yyb2 := (hSw.cell (lt_of_cell yb2)).trans yb2; have yyb3 := (hSw.cell (lt_of_cell yb3)).trans yb3;  go_simp⟩) hS0 ?_
            try simp only [Act.put, List.setIfInBounds_toArray, List.set_cons_zero, List.set_cons_succ]
            refine wpAnyH_take (i := 14) (oi := opJd14) (v := .pointer (some ⟨g, nr, none⟩)) rfl (by kernel_rfl) (by kernel_rfl) (by kernel_rfl) (fun _ _ _ h => h) (Or.inl ⟨by rfl, by intro w2 hSw; (try dsimp only at hSw);  have yrl := (hSw.cell (lt_of_cell rl)).trans rl; have yrr := (hSw.cell (lt_of_cell rr)).trans rr; have ygl := (hSw.cell (lt_of_cell gl)).trans gl; have ygr := (hSw.cell (lt_of_cell gr)).trans gr; have yyb2 := (hSw.cell (lt_of_cell yb2)).trans yb2; have yyb3 := (hSw.cell (lt_of_cell yb3)).trans yb3;  go_simp⟩) hS0 ?_
            try simp only [Act.put, List.setIfInBounds_toArray, List.set_cons_zero, List.set_cons_succ]
            refine wpAnyH_take (i := 15) (oi := opJd15) (v := .int .i64 vr) rfl (by kernel_rfl) (by kernel_rfl) (by kernel_rfl) (fun _ _ _ h => h) (Or.inl ⟨by rfl, by intro w2 hSw; (try dsimp only at hSw);  have yrl := (hSw.cell (lt_of_cell rl)).trans rl; have yrr := (hSw.cell (lt_of_cell rr)).trans rr; have ygl := (hSw.cell (lt_of_cell gl)).trans gl; have ygr := (hSw.cell (lt_of_cell gr)).trans gr; have yyb2 := (hSw.cell (lt_of_cell yb2)).trans yb2; have yyb3 := (hSw.cell (lt_of_cell yb3)).trans yb3;  go_simp⟩) hS0 ?_
            try simp only [Act.put, List.setIfInBounds_toArray, List.set_cons_zero, List.set_cons_succ]
            refine wpAnyH_take (i := 16) (oi := opJd16) (v := .bool true) rfl (by kernel_rfl) (by kernel_rfl) (by kernel_rfl) (fun _ _ _ h => h) (Or.inl ⟨by rfl, by intro w2 hSw; (try dsimp only at hSw);  have yrl := (hSw.cell (lt_of_cell rl)).trans rl; have yrr := (hSw.cell (lt_of_cell rr)).trans rr; have ygl := (hSw.cell (lt_of_cell gl)).trans gl; have ygr := (hSw.cell (lt_of_cell gr)).trans gr; have yyb2 := (hSw.cell (lt_of_cell yb2)).trans yb2; have yyb3 := (hSw.cell (lt_of_cell yb3)).trans yb3;  go_simp⟩) hS0 ?_
            try simp only [Act.put, List.setIfInBounds_toArray, List.set_cons_zero, List.set_cons_succ]
            refine wpAnyH_done (by kernel_rfl) ?_ _
            clear rl rr gl gr yb2 yb3
            obtain ⟨wqd, hwd⟩ : ∃ v, wq.drew = v := ⟨_, rfl⟩
            have hb := hS0
            rw [hwd] at hb ⊢
            clear hS0 hwd
            replace HBq := Lib.hid (HBq.out.trans (hb.mono HBq.out.size))
            clear hb
            have HB := Lib.hid (B.out.trans (HBq.out.mono B.out.size))
            go_wp2_with fail
            go_ret
            exact ⟨by rw [Hlab.out, HJ.out] <;> rfl, HB.out⟩
          have d0 : (vl == vr) = false := by rw [beq_eq_false_iff_ne]; exact he
          have HJ := Lib.hid (HQ2.out he)
          clear he
          refine wp_region_held_drew (S := fun w2 => Below wq.heap.size wq w2) (by kernel_rfl) (drew_b _ _) (fun hS0 => ?_)
          refine wpAnyH_take (i := 0) (oi := opJd0) (v := .slice (some ⟨g, 0, none⟩) c cap) rfl (by kernel_rfl) (by kernel_rfl) (by kernel_rfl) (fun _ _ _ h => h) (Or.inl ⟨by rfl, by intro w2 hSw; (try dsimp only at hSw);  have yrl := (hSw.cell (lt_of_cell rl)).trans rl; have yrr := (hSw.cell (lt_of_cell rr)).trans rr; have ygl := (hSw.cell (lt_of_cell gl)).trans gl; have ygr := (hSw.cell (lt_of_cell gr)).trans gr; have yyb2 := (hSw.cell (lt_of_cell yb2)).trans yb2; have yyb3 := (hSw.cell (lt_of_cell yb3)).trans yb3;  go_simp⟩) hS0 ?_
          try simp only [Act.put, List.setIfInBounds_toArray, List.set_cons_zero, List.set_cons_succ]
          refine wpAnyH_take (i := 1) (oi := opJd1) (v := .pointer (some ⟨R, 2, none⟩)) rfl (by kernel_rfl) (by kernel_rfl) (by kernel_rfl) (fun _ _ _ h => h) (Or.inl ⟨by rfl, by intro w2 hSw; (try dsimp only at hSw);  have yrl := (hSw.cell (lt_of_cell rl)).trans rl; have yrr := (hSw.cell (lt_of_cell rr)).trans rr; have ygl := (hSw.cell (lt_of_cell gl)).trans gl; have ygr := (hSw.cell (lt_of_cell gr)).trans gr; have yyb2 := (hSw.cell (lt_of_cell yb2)).trans yb2; have yyb3 := (hSw.cell (lt_of_cell yb3)).trans yb3;  go_simp⟩) hS0 ?_
          try simp only [Act.put, List.setIfInBounds_toArray, List.set_cons_zero, List.set_cons_succ]
          refine wpAnyH_take (i := 2) (oi := opJd2) (v := .slice (some ⟨bl, ol, none⟩) l.ln l.lc) rfl (by kernel_rfl) (by kernel_rfl) (by kernel_rfl) (fun _ _ _ h => h) (Or.inl ⟨by rfl, by intro w2 hSw; (try dsimp only at hSw);  have yrl := (hSw.cell (lt_of_cell rl)).trans rl; have yrr := (hSw.cell (lt_of_cell rr)).trans rr; have ygl := (hSw.cell (lt_of_cell gl)).trans gl; have ygr := (hSw.cell (lt_of_cell gr)).trans gr; have yyb2 := (hSw.cell (lt_of_cell yb2)).trans yb2; have yyb3 := (hSw.cell (lt_of_cell yb3)).trans yb3;  go_simp⟩) hS0 ?_
          try simp only [Act.put, List.setIfInBounds_toArray, List.set_cons_zero, List.set_cons_succ]
          refine wpAnyH_take (i := 3) (oi := opJd3) (v := .int .i64 (n : Int)) rfl (by kernel_rfl) (by kernel_rfl) (by kernel_rfl) (fun _ _ _ h => h) (Or.inl ⟨by rfl, by intro w2 hSw; (try dsimp only at hSw);  have yrl := (hSw.cell (lt_of_cell rl)).trans rl; have yrr := (hSw.cell (lt_of_cell rr)).trans rr; have ygl := (hSw.cell (lt_of_cell gl)).trans gl; have ygr := (hSw.cell (lt_of_cell gr)).trans gr; have yyb2 := (hSw.cell (lt_of_cell yb2)).trans yb2; have yyb3 := (hSw.cell (lt_of_cell yb3)).trans yb3;  go_simp⟩) hS0 ?_
          try simp only [Act.put, List.setIfInBounds_toArray, List.set_cons_zero, List.set_cons_succ]
          refine wpAnyH_take (i := 4) (oi := opJd4) (v := .pointer (some ⟨bl, ol + n, none⟩)) rfl (by kernel_rfl) (by kernel_rfl) (by kernel_rfl) (fun _ _ _ h => h) (Or.inl ⟨by rfl, by intro w2 hSw; (try dsimp only at hSw);  have yrl := (hSw.cell (lt_of_cell rl)).trans rl; have yrr := (hSw.cell (lt_of_cell rr)).trans rr; have ygl := (hSw.cell (lt_of_cell gl)).trans gl; have ygr := (hSw.cell (lt_of_cell gr)).trans gr; have yyb2 := (hSw.cell (lt_of_cell yb2)).trans yb2; have yyb3 := (hSw.cell (lt_of_cell yb3)).trans yb3;  go_simp⟩) hS0 ?_
          try simp only [Act.put, List.setIfInBounds_toArray, List.set_cons_zero, List.set_cons_succ]
          refine wpAnyH_take (i := 5) (oi := opJd5) (v := .int .i64 (nl : Int)) rfl (by kernel_rfl) (by kernel_rfl) (by kernel_rfl) (fun _ _ _ h => h) (Or.inl ⟨by rfl, by intro w2 hSw; (try dsimp only at hSw);  have yrl := (hSw.cell (lt_of_cell rl)).trans rl; have yrr := (hSw.cell (lt_of_cell rr)).trans rr; have ygl := (hSw.cell (lt_of_cell gl)).trans gl; have ygr := (hSw.cell (lt_of_cell gr)).trans gr; have yyb2 := (hSw.cell (lt_of_cell yb2)).trans yb2; have yyb3 := (hSw.cell (lt_of_cell yb3)).trans yb3;  go_simp⟩) hS0 ?_
          try simp only [Act.put, List.setIfInBounds_toArray, List.set_cons_zero, List.set_cons_succ]
          refine wpAnyH_take (i := 6) (oi := opJd6) (v := .pointer (some ⟨g, nl, none⟩)) rfl (by kernel_rfl) (by kernel_rfl) (by kernel_rfl) (fun _ _ _ h => h) (Or.inl ⟨by rfl, by intro w2 hSw; (try dsimp only at hSw);  have yrl := (hSw.cell (lt_of_cell rl)).trans rl; have yrr := (hSw.cell (lt_of_cell rr)).trans rr; have ygl := (hSw.cell (lt_of_cell gl)).trans gl; have ygr := (hSw.cell (lt_of_cell gr)).trans gr; have yyb2 := (hSw.cell (lt_of_cell yb2)).trans yb2; have yyb3 := (hSw.cell (lt_of_cell yb3)).trans yb3;  go_simp⟩) hS0 ?_
          try simp only [Act.put, List.setIfInBounds_toArray, List.set_cons_zero, List.set_cons_succ]
          refine wpAnyH_take (i := 7) (oi := opJd7) (v := .int .i64 vl) rfl (by kernel_rfl) (by kernel_rfl) (by kernel_rfl) (fun _ _ _ h => h) (Or.inl ⟨by rfl, by intro w2 hSw; (try dsimp only at hSw);  have yrl := (hSw.cell (lt_of_cell rl)).trans rl; have yrr := (hSw.cell (lt_of_cell rr)).trans rr; have ygl := (hSw.cell (lt_of_cell gl)).trans gl; have ygr := (hSw.cell (lt_of_cell gr)).trans gr; have yyb2 := (hSw.cell (lt_of_cell yb2)).trans yb2; have yyb3 := (hSw.cell (lt_of_cell yb3)).trans yb3;  go_simp⟩) hS0 ?_
          try simp only [Act.put, List.setIfInBounds_toArray, List.set_cons_zero, List.set_cons_succ]
          refine wpAnyH_take (i := 8) (oi := opJd8) (v := .slice (some ⟨g, 0, none⟩) c cap) rfl (by kernel_rfl) (by kernel_rfl) (by kernel_rfl) (fun _ _ _ h => h) (Or.inl ⟨by rfl, by intro w2 hSw; (try dsimp only at hSw);  have yrl := (hSw.cell (lt_of_cell rl)).trans rl; have yrr := (hSw.cell (lt_of_cell rr)).trans rr; have ygl := (hSw.cell (lt_of_cell gl)).trans gl; have ygr := (hSw.cell (lt_of_cell gr)).trans gr; have yyb2 := (hSw.cell (lt_of_cell yb2)).trans yb2; have yyb3 := (hSw.cell (lt_of_cell yb3)).trans yb3;  go_simp⟩) hS0 ?_
          try simp only [Act.put, List.setIfInBounds_toArray, List.set_cons_zero, List.set_cons_succ]
          refine wpAnyH_take (i := 9) (oi := opJd9) (v := .pointer (some ⟨R, 3, none⟩)) rfl (by kernel_rfl) (by kernel_rfl) (by kernel_rfl) (fun _ _ _ h => h) (Or.inl ⟨by rfl, by intro w2 hSw; (try dsimp only at hSw);  have yrl := (hSw.cell (lt_of_cell rl)).trans rl; have yrr := (hSw.cell (lt_of_cell rr)).trans rr; have ygl := (hSw.cell (lt_of_cell gl)).trans gl; have ygr := (hSw.cell (lt_of_cell gr)).trans gr; have yyb2 := (hSw.cell (lt_of_cell yb2)).trans yb2; have yyb3 := (hSw.cell (lt_of_cell yb3)).trans yb3;  go_simp⟩) hS0 ?_
          try simp only [Act.put, List.setIfInBounds_toArray, List.set_cons_zero, List.set_cons_succ]
          refine wpAnyH_take (i := 10) (oi := opJd10) (v := .slice (some ⟨br, orr, none⟩) l.rn l.rc) rfl (by kernel_rfl) (by kernel_rfl) (by kernel_rfl) (fun _ _ _ h => h) (Or.inl ⟨by rfl, by intro w2 hSw; (try dsimp only at hSw);  have yrl := (hSw.cell (lt_of_cell rl)).trans rl; have yrr := (hSw.cell (lt_of_cell rr)).trans rr; have ygl := (hSw.cell (lt_of_cell gl)).trans gl; have ygr := (hSw.cell (lt_of_cell gr)).trans gr; have yyb2 := (hSw.cell (lt_of_cell yb2)).trans yb2; have yyb3 := (hSw.cell (lt_of_cell yb3)).trans yb3;  go_simp⟩) hS0 ?_
          try simp only [Act.put, List.setIfInBounds_toArray, List.set_cons_zero, List.set_cons_succ]
          refine wpAnyH_take (i := 11) (oi := opJd11) (v := .int .i64 (q : Int)) rfl (by kernel_rfl) (by kernel_rfl) (by kernel_rfl) (fun _ _ _ h => h) (Or.inl ⟨by rfl, by intro w2 hSw; (try dsimp only at hSw);  have yrl := (hSw.cell (lt_of_cell rl)).trans rl; have yrr := (hSw.cell (lt_of_cell rr)).trans rr; have ygl := (hSw.cell (lt_of_cell gl)).trans gl; have ygr := (hSw.cell (lt_of_cell gr)).trans gr; have yyb2 := (hSw.cell (lt_of_cell yb2)).trans yb2; have yyb3 := (hSw.cell (lt_of_cell yb3)).trans yb3;  go_simp⟩) hS0 ?_
          try simp only [Act.put, List.setIfInBounds_toArray, List.set_cons_zero, List.set_cons_succ]
          refine wpAnyH_take (i := 12) (oi := opJd12) (v := .pointer (some ⟨br, orr + q, none⟩)) rfl (by kernel_rfl) (by kernel_rfl) (by kernel_rfl) (fun _ _ _ h => h) (Or.inl ⟨by rfl, by intro w2 hSw; (try dsimp only at hSw);  have yrl := (hSw.cell (lt_of_cell rl)).trans rl; have yrr := (hSw.cell (lt_of_cell rr)).trans rr; have ygl := (hSw.cell (lt_of_cell gl)).trans gl; have ygr := (hSw.cell (lt_of_cell gr)).trans gr; have yyb2 := (hSw.cell (lt_of_cell yb2)).trans yb2; have yyb3 := (hSw.cell (lt_of_cell yb3)).trans yb3;  go_simp⟩) hS0 ?_
          try simp only [Act.put, List.setIfInBounds_toArray, List.set_cons_zero, List.set_cons_succ]
          refine wpAnyH_take (i := 13) (oi := opJd13) (v := .int .i64 (nr : Int)) rfl (by kernel_rfl) (by kernel_rfl) (by kernel_rfl) (fun _ _ _ h => h) (Or.inl ⟨by rfl, by intro w2 hSw; (try dsimp only at hSw);  have yrl := (hSw.cell (lt_of_cell rl)).trans rl; have yrr := (hSw.cell (lt_of_cell rr)).trans rr; have ygl := (hSw.cell (lt_of_cell gl)).trans gl; have ygr := (hSw.cell (lt_of_cell gr)).trans gr; have yyb2 := (hSw.cell (lt_of_cell yb2)).trans yb2; have yyb3 := (hSw.cell (lt_of_cell yb3)).trans yb3;  go_simp⟩) hS0 ?_
          try simp only [Act.put, List.setIfInBounds_toArray, List.set_cons_zero, List.set_cons_succ]
          refine wpAnyH_take (i := 14) (oi := opJd14) (v := .pointer (some ⟨g, nr, none⟩)) rfl (by kernel_rfl) (by kernel_rfl) (by kernel_rfl) (fun _ _ _ h => h) (Or.inl ⟨by rfl, by intro w2 hSw; (try dsimp only at hSw);  have yrl := (hSw.cell (lt_of_cell rl)).trans rl; have yrr := (hSw.cell (lt_of_cell rr)).trans rr; have ygl := (hSw.cell (lt_of_cell gl)).trans gl; have ygr := (hSw.cell (lt_of_cell gr)).trans gr; have yyb2 := (hSw.cell (lt_of_cell yb2)).trans yb2; have yyb3 := (hSw.cell (lt_of_cell yb3)).trans yb3;  go_simp⟩) hS0 ?_
          try simp only [Act.put, List.setIfInBounds_toArray, List.set_cons_zero, List.set_cons_succ]
          refine wpAnyH_take (i := 15) (oi := opJd15) (v := .int .i64 vr) rfl (by kernel_rfl) (by kernel_rfl) (by kernel_rfl) (fun _ _ _ h => h) (Or.inl ⟨by rfl, by intro w2 hSw; (try dsimp only at hSw);  have yrl := (hSw.cell (lt_of_cell rl)).trans rl; have yrr := (hSw.cell (lt_of_cell rr)).trans rr; have ygl := (hSw.cell (lt_of_cell gl)).trans gl; have ygr := (hSw.cell (lt_of_cell gr)).trans gr; have yyb2 := (hSw.cell (lt_of_cell yb2)).trans yb2; have yyb3 := (hSw.cell (lt_of_cell yb3)).trans yb3;  go_simp⟩) hS0 ?_
          try simp only [Act.put, List.setIfInBounds_toArray, List.set_cons_zero, List.set_cons_succ]
          refine wpAnyH_take (i := 16) (oi := opJd16) (v := .bool false) rfl (by kernel_rfl) (by kernel_rfl) (by kernel_rfl) (fun _ _ _ h => h) (Or.inl ⟨by rfl, by intro w2 hSw; (try dsimp only at hSw);  have yrl := (hSw.cell (lt_of_cell rl)).trans rl; have yrr := (hSw.cell (lt_of_cell rr)).trans rr; have ygl := (hSw.cell (lt_of_cell gl)).trans gl; have ygr := (hSw.cell (lt_of_cell gr)).trans gr; have yyb2 := (hSw.cell (lt_of_cell yb2)).trans yb2; have yyb3 := (hSw.cell (lt_of_cell yb3)).trans yb3;  go_simp⟩) hS0 ?_
          try simp only [Act.put, List.setIfInBounds_toArray, List.set_cons_zero, List.set_cons_succ]
          refine wpAnyH_done (by kernel_rfl) ?_ _
          clear rl rr gl gr yb2 yb3
          obtain ⟨wqd, hwd⟩ : ∃ v, wq.drew = v := ⟨_, rfl⟩
          have hb := hS0
          rw [hwd] at hb ⊢
          clear hS0 hwd
          replace HBq := Lib.hid (HBq.out.trans (hb.mono HBq.out.size))
          clear hb
          go_wp2_with fail
          go_roundw
          case rel => exact ⟨q + 1, by omega, by go_num, Lib.hid ⟨HBq.out, by rw [Hvl.out]; exact HJ.out⟩⟩
          case measure => simp [intOf]; omega
        · obtain rfl : q = l.rn := by omega
          have HN := Lib.hid HY.out.2
          have HB1 := Lib.hid hbq
          clear HY hbq
          go_wp2_with fail
          go_roundw
          case rel => exact ⟨n + 1, by have := Hlt.out; omega, by go_num, Lib.hid ⟨HB1.out, fun j hj m hm => by
            rcases Nat.lt_or_ge j n with h | h
            · exact HNe.out j h m hm
            · obtain rfl : j = n := by omega
              exact HN.out m hm⟩⟩
          case measure => have := Hlt.out; simp [intOf]; omega
    · obtain rfl : n = l.ln := by omega
      have HJ := Lib.hid (jnB_no (lab := lab) S.out.ls.1 S.out.rs.1 HX.out.2)
      have HB := Lib.hid (B.out.trans (hbk.mono B.out.size))
      clear HX hbk
      go_wp2_with fail
      go_ret
      exact ⟨by rw [Hlab.out, HJ.out] <;> rfl, HB.out⟩
/-- The document's error of a chain. -/
def chE (l : NL) (ds : List Int) : Int := if layE l ds ≠ 0 then layE l ds else if jnB (labG l.zs ds l.n l.N.toNat) l.ls l.rs = true then 0 else 5
set_option maxRecDepth 100000 in
set_option maxHeartbeats 16000000 in
theorem chainError23 (l : NL) (DA : Option Addr) (dn dc : Nat) (ds : List Int) (w : World) (h : NLs w l) (hS : Ints w DA dn ds) (hd6 : dn ≤ 1000000) :
    Calls Try.prog 23 #[.agg #[.int .i64 l.N, .slice l.A l.n l.cap, .slice l.LA l.ln l.lc, .slice l.RA l.rn l.rc], .slice DA dn dc] w fun e w' => e = .returned (.int .i64 (chE l ds)) ∧ Below w.heap.size w w' := by
  obtain ⟨R, hR⟩ : ∃ v, w.heap.size = v := ⟨_, rfl⟩
  have hb0 := below_alloc_ w (.cells #[.int .i64 l.N, .slice l.A l.n l.cap, .slice l.LA l.ln l.lc, .slice l.RA l.rn l.rc] 25)
  have hr0 := heap_alloc_new_ w (.cells #[.int .i64 l.N, .slice l.A l.n l.cap, .slice l.LA l.ln l.lc, .slice l.RA l.rn l.rc] 25)
  have hz0 : (w.alloc (.cells #[.int .i64 l.N, .slice l.A l.n l.cap, .slice l.LA l.ln l.lc, .slice l.RA l.rn l.rc] 25)).heap.size = w.heap.size + 1 := by simp
  obtain ⟨w0, hw0⟩ : ∃ v, w.alloc (.cells #[.int .i64 l.N, .slice l.A l.n l.cap, .slice l.LA l.ln l.lc, .slice l.RA l.rn l.rc] 25) = v := ⟨_, rfl⟩
  rw [hw0] at hb0 hr0 hz0
  rw [hR] at hr0 hz0
  have hB := hb0
  have S := Lib.hid (h.below hB (Nat.le_refl _))
  have SD := Lib.hid (hS.below hB (Nat.le_refl _))
  have X := Lib.hid hr0
  have HW0 := Lib.hid hw0
  have B := Lib.hid hB
  have HR := Lib.hid hR
  clear hB hR hb0 hr0 hz0 hw0 h hS
  have Hd6 := Lib.hid hd6
  clear hd6
  have ltX : R < w0.heap.size := lt_of_block X.out
  have zX0 : w0.cell? ⟨R, 0, none⟩ = some (.int .i64 l.N) := by rw [cell_row X.out]; rfl
  have zX1 : w0.cell? ⟨R, 1, none⟩ = some (.slice l.A l.n l.cap) := by rw [cell_row X.out]; rfl
  have zX2 : w0.cell? ⟨R, 2, none⟩ = some (.slice l.LA l.ln l.lc) := by rw [cell_row X.out]; rfl
  have zX3 : w0.cell? ⟨R, 3, none⟩ = some (.slice l.RA l.rn l.rc) := by rw [cell_row X.out]; rfl
  go_enter Try.func23, Try.ntmps23
  go_wp2_with fail
  try rw [HW0.out]
  try rw [HR.out]
  try simp only [Nat.add_assoc, Nat.reduceAdd]
  try go_wp2_with fail
  clear zX0 zX1 zX2 zX3 ltX
  refine (isDrop43 l DA dn dc ds w0 S.out SD.out Hd6.out).mono ?_
  rintro en w1 ⟨rfl, hb⟩
  replace S := Lib.hid (S.out.below hb (Nat.le_refl _))
  replace SD := Lib.hid (SD.out.below hb (Nat.le_refl _))
  replace X := Lib.hid ((hb.block _ (lt_of_block X.out)).trans X.out)
  replace B := Lib.hid (B.out.trans (hb.mono B.out.size))
  obtain ⟨c9, hc⟩ : ∃ v, layE l ds = v := ⟨_, rfl⟩
  rw [hc]
  have HC := Lib.hid hc
  clear hc
  try clear hb
  have ltX : R < w1.heap.size := lt_of_block X.out
  have zX0 : w1.cell? ⟨R, 0, none⟩ = some (.int .i64 l.N) := by rw [cell_row X.out]; rfl
  have zX1 : w1.cell? ⟨R, 1, none⟩ = some (.slice l.A l.n l.cap) := by rw [cell_row X.out]; rfl
  have zX2 : w1.cell? ⟨R, 2, none⟩ = some (.slice l.LA l.ln l.lc) := by rw [cell_row X.out]; rfl
  have zX3 : w1.cell? ⟨R, 3, none⟩ = some (.slice l.RA l.rn l.rc) := by rw [cell_row X.out]; rfl
  by_cases h0 : c9 = 0
  rotate_left
  · have d0 : (c9 != 0) = true := by rw [bne_iff_ne]; exact h0
    have H0 := Lib.hid h0
    clear h0
    go_wp2_with fail
    refine (isDrop43 l DA dn dc ds w1 S.out SD.out Hd6.out).mono ?_
    rintro en w2 ⟨rfl, hb⟩
    replace B := Lib.hid (B.out.trans (hb.mono B.out.size))
    clear hb
    go_wp2_with fail
    go_ret
    exact ⟨by unfold chE; rw [HC.out, if_pos H0.out] <;> rfl, B.out⟩
  subst h0
  have hch := (layE_ok HC.out).1
  have hN := (chk_zero hch).1
  obtain ⟨c, hcN⟩ : ∃ c : Nat, l.N = (c : Int) := ⟨l.N.toNat, by omega⟩
  have HCN := Lib.hid hcN
  have Hto := Lib.hid (show l.N.toNat = c by omega)
  have Hch := Lib.hid hch
  clear hN hcN hch
  go_wp2_with fail
  clear zX0 zX1 zX2 zX3 ltX
  refine (joined37 l DA dn dc ds c w1 S.out SD.out Hd6.out Hch.out HCN.out).mono ?_
  rintro en w2 ⟨rfl, hb⟩
  replace S := Lib.hid (S.out.below hb (Nat.le_refl _))
  replace SD := Lib.hid (SD.out.below hb (Nat.le_refl _))
  replace X := Lib.hid ((hb.block _ (lt_of_block X.out)).trans X.out)
  replace B := Lib.hid (B.out.trans (hb.mono B.out.size))
  have HE := Lib.hid (show chE l ds = if jnB (labG l.zs ds l.n c) l.ls l.rs = true then 0 else 5 by unfold chE; rw [HC.out, if_neg (by decide), Hto.out])
  obtain ⟨j, hj⟩ : ∃ v, jnB (labG l.zs ds l.n c) l.ls l.rs = v := ⟨_, rfl⟩
  rw [hj] at HE ⊢
  clear hj
  rcases j with _ | _
  try clear hb
  · go_wp2_with fail
    go_ret
    exact ⟨by rw [HE.out] <;> rfl, B.out⟩
  · go_wp2_with fail
    go_ret
    exact ⟨by rw [HE.out] <;> rfl, B.out⟩
end
end Go.Proofs.Ytigohccehllmnaa
