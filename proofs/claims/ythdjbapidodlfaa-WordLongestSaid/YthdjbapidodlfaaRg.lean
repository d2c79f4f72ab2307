/- Stage 4: whether levels are right, in the program. -/
import Derived.Test.YthdjbapidodlfaaPs
namespace Go.Proofs.Ythdjbapidodlfaa
set_option linter.unusedSimpArgs false
set_option linter.unusedVariables false
open Go.RowKit Go.Shelf
attribute [local go_sem ↓] exec_app at_app
attribute [local go_sem] Oper.semAt_some

theorem field91 (a b : Int) (W : World) : (Instr.field 91 (.agg #[.int .i64 a, .int .i64 b]) 0).run Try.prog W = .ok (.int .i64 a) W := by kernel_rfl
theorem sumK_nn {α : Type} (E : α → Int × Int) (l : List α) (h : ∀ x ∈ l, 0 ≤ (E x).1) : 0 ≤ (sumK (l.map E)).1 := by
  induction l with
  | nil => exact Int.le_refl _
  | cons a t ih =>
    rw [List.map_cons, sumK_cons]
    have := (orK_ge (E a) (sumK (t.map E))).2
    have := h a (by simp)
    omega
/-- Where a match is in a list. -/
def ix : List (List Int) → List Int → Nat
  | [], _ => 0
  | a :: t, x => if a = x then 0 else ix t x + 1
theorem ix_pre {pre post : List (List Int)} {x : List Int} (h : x ∉ pre) : ix (pre ++ x :: post) x = pre.length := by
  induction pre with
  | nil => simp [ix]
  | cons a t ih =>
    simp only [List.mem_cons, not_or] at h
    simp only [List.cons_append, ix, List.length_cons]
    rw [if_neg (fun e => h.1 e.symm), ih h.2]
/-- Given levels of matches. -/
def gE (mt : List (List Int)) (gs : List Int) (x : List Int) : Int × Int := (if iAt gs (ix mt x) < 0 then 0 else iAt gs (ix mt x), 0)
theorem frH_gE {nm : List Int} {L : List (List Int)} {m : Nat} (hL : LV L m) (gs : List Int) : FrH (gE (mtS nm L) gs) (mtS nm L) m := by
  have hlo := hL.lo
  have hp : ∀ x, 0 ≤ (gE (mtS nm L) gs x).1 ∧ (gE (mtS nm L) gs x).2 = 0 := fun x => by
    unfold gE
    refine ⟨?_, rfl⟩
    dsimp only
    split <;> omega
  refine ⟨mtS_nodup hL, by omega, hL.hi, mtS_wpl hL, fun x _ => (hp x).1, fun q h _ _ _ => ?_⟩
  have h2 : ∀ l : List (List Int), (sumK (l.map (gE (mtS nm L) gs))).2 = 0 := by
    intro l
    induction l with
    | nil => rfl
    | cons a t ih =>
      rw [List.map_cons, sumK_cons]
      unfold orK
      have := (hp a).2
      split
      · exact this
      · split
        · exact ih
        · dsimp only; omega
  unfold frK
  rw [h2]
  omega
/-- The first k levels are right. -/
def rgK (mt : List (List Int)) (m : Nat) (gs : List Int) (k : Nat) : Bool := (List.range k).all fun i => decide ((frK (gE mt gs) mt m (lAt mt i) 0).1 < iAt gs i)
theorem rgK_succ (mt : List (List Int)) (m : Nat) (gs : List Int) (k : Nat) : rgK mt m gs (k + 1) = (rgK mt m gs k && decide ((frK (gE mt gs) mt m (lAt mt k) 0).1 < iAt gs k)) := by
  simp [rgK, List.range_succ]
theorem rgK_stop (mt : List (List Int)) (m : Nat) (gs : List Int) {k n : Nat} (h : ¬ (frK (gE mt gs) mt m (lAt mt k) 0).1 < iAt gs k) (hk : k < n) : rgK mt m gs n = false := by
  unfold rgK
  rw [List.all_eq_false]
  exact ⟨k, List.mem_range.2 hk, by simpa using h⟩
set_option maxRecDepth 100000 in
set_option maxHeartbeats 16000000 in
theorem right61 (B D : Nat) (A : Option Addr) (n cap : Nat) (nm : List Int) (M : Nat) (A2 : Option Addr) (m cap2 : Nat) (L : List (List Int)) (C : Option Addr) (N c : Nat) (G : Option Addr) (cg : Nat) (gs : List Int) (w : World) (hBo : Bo w B D A n cap nm M A2 m cap2 L) (hL : LV L m) (hN : (mtS nm L).length = N) (hP : Pls w C N (mtS nm L)) (hG : Ints w G N gs) :
    Calls Try.prog 61 #[.pointer (some ⟨B, 0, none⟩), .slice C N c, .slice G N cg] w fun e w' => e = .returned (.bool (rgK (mtS nm L) m gs N)) ∧ Below w.heap.size w w' := by
  obtain ⟨mt, hmt⟩ : ∃ mt, mtS nm L = mt := ⟨_, rfl⟩
  have HMt := Lib.hid hmt
  have HB := Lib.hid hBo
  have HL := Lib.hid hL
  rw [hmt] at hN hP ⊢
  obtain ⟨E, hE⟩ : ∃ E, gE mt gs = E := ⟨_, rfl⟩
  have HE := Lib.hid hE
  have HN := Lib.hid hN
  have HP := Lib.hid hP
  have HG := Lib.hid hG
  have Hfr := Lib.hid (show FrH E mt m by have := frH_gE (nm := nm) hL gs; rw [hmt, hE] at this; exact this)
  have hN4 : N ≤ 4096 := by have := (mtS_len (nm := nm) hL).1; rw [hmt] at this; omega
  clear hmt hE hBo hL hN hP hG
  go_enter Try.func61, Try.ntmps61
  go_wp2_with fail
  refine (blank77 B (fun h p => frK E mt m p h) w).mono ?_
  rintro en w1 ⟨Cb, Me, Ms, rfl, hc1, hb1, hCb, hMe, hMs⟩
  have HC1 := Lib.hid hc1
  have HB1 := Lib.hid hb1
  have HGe := Lib.hid (show w.heap.size ≤ Cb ∧ w.heap.size ≤ Me ∧ ∀ h, h < 4 → w.heap.size ≤ Ms h from ⟨hCb, hMe, hMs⟩)
  have HLt := Lib.hid (show Cb < w1.heap.size ∧ Me < w1.heap.size ∧ ∀ j, j < 4 → Ms j < w1.heap.size from ⟨lt_of_block hc1.row, hc1.ends.lt, fun j hj => hc1.ltF hj⟩)
  clear hc1 hb1 hCb hMe hMs
  go_wp2_with fail
  go_loopw [8, 9, 14] (fun x y i wr => ∃ k : Nat, k ≤ N ∧ i = .int .i64 (k : Int) ∧ Hid (rgK mt m gs k = true) ∧ Hid (Cht wr Cb B Me Ms (k * 4681) (0, 0) (SeP E (mt.take k)) (fun h p => frK E mt m p h) ∧ Below w.heap.size w wr)) (fun x y i _ => N - (intOf i).toNat)
  case atStart => exact ⟨0, Nat.zero_le _, rfl, Lib.hid rfl, Lib.hid ⟨by rw [List.take_zero, SeP_nil]; exact HC1.out, HB1.out⟩⟩
  case round =>
    obtain ⟨k, hk, rfl, HT, HI⟩ := hrel
    obtain ⟨wq, rfl⟩ : ∃ wq, wq = wr := ⟨_, rfl⟩
    by_cases hlt : k < N
    · have hkl : k < mt.length := by have := HN.out; omega
      obtain ⟨x, hx⟩ : ∃ x, lAt mt k = x := ⟨_, rfl⟩
      have hxe : mt = mt.take k ++ x :: mt.drop (k + 1) := by
        rw [← hx, lAt_eq hkl]
        simp
      have hbw := HI.out.2
      obtain ⟨b, rfl, hcp⟩ := HP.out.2 (by omega)
      obtain ⟨bg, og, rfl, hcg⟩ := HG.out.2 (by omega)
      have hgv := (hbw.cell (p := ⟨bg, og + k, none⟩) (lt_of_cell (hcg k hlt))).trans (hcg k hlt)
      have y0 := (hbw.cell (p := ⟨b, k * 4 + 0, none⟩) (lt_of_cell (hcp k hlt 0 (by omega)))).trans (hcp k hlt 0 (by omega))
      have y1 := (hbw.cell (p := ⟨b, k * 4 + 1, none⟩) (lt_of_cell (hcp k hlt 1 (by omega)))).trans (hcp k hlt 1 (by omega))
      have y2 := (hbw.cell (p := ⟨b, k * 4 + 2, none⟩) (lt_of_cell (hcp k hlt 2 (by omega)))).trans (hcp k hlt 2 (by omega))
      have y3 := (hbw.cell (p := ⟨b, k * 4 + 3, none⟩) (lt_of_cell (hcp k hlt 3 (by omega)))).trans (hcp k hlt 3 (by omega))
      rw [Nat.add_zero] at y0
      rw [hx] at y0 y1 y2 y3
      have hsu := rgK_succ mt m gs k
      have hst := fun q => rgK_stop mt m gs (k := k) (n := N) q hlt
      rw [hx, HE.out] at hsu hst
      rw [HT.out, Bool.true_and] at hsu
      obtain ⟨R, hR⟩ : ∃ R, frK E mt m x 0 = R := ⟨_, rfl⟩
      obtain ⟨gv, hg⟩ : ∃ gv, iAt gs k = gv := ⟨_, rfl⟩
      rw [hR, hg] at hsu hst
      rw [hg] at hgv
      have HR := Lib.hid hR
      have Hsu := Lib.hid hsu
      have Hst := Lib.hid hst
      have hix : ix mt x = k := by
        have hnd := Hfr.out.nodup
        have h : x ∉ mt.take k := by
          rw [hxe] at hnd
          exact fun h => (List.nodup_append.1 hnd).2.2 x h x (by simp) rfl
        have := ix_pre (post := mt.drop (k + 1)) h
        rw [← hxe, List.length_take] at this
        omega
      have HEx := Lib.hid (show E x = (if gv < 0 then 0 else gv, 0) by rw [← HE.out]; unfold gE; rw [hix, hg])
      have HwP := Lib.hid (Hfr.out.wpl x (by rw [hxe]; simp))
      have Hde := Lib.hid (show Dealt E mt m x (SeP E (mt.take k)) by have h := dealt_pre HL.out E (nm := nm) (pre := mt.take k) (post := mt.drop (k + 1)) (x := x) (by rw [HMt.out]; exact hxe); rw [HMt.out] at h; exact h)
      have Htk := Lib.hid (show mt.take k ++ [x] = mt.take (k + 1) by rw [List.take_succ_eq_append_getElem hkl, ← lAt_eq hkl, hx])
      have hR0 : 0 ≤ R.1 := by rw [← HR.out]; exact sumK_nn E _ (fun y hy => Hfr.out.pos y (List.mem_filter.1 hy).1)
      have HR0 := Lib.hid hR0
      have Hbw := Lib.hid hbw
      have Hcht := Lib.hid HI.out.1
      have i0 : (0 : Int) ≤ (k : Int) := by omega
      have i1 : (k : Int) < (N : Int) := by omega
      have HU := Lib.hid (heap_alloc_new_ wq (.cells #[.int .i64 (iAt x 0), .int .i64 (iAt x 1), .int .i64 (iAt x 2), .int .i64 (iAt x 3)] 79))
      have hbV := below_alloc_ wq (.cells #[.int .i64 (iAt x 0), .int .i64 (iAt x 1), .int .i64 (iAt x 2), .int .i64 (iAt x 3)] 79)
      have HbV := Lib.hid hbV
      have Hgv := Lib.hid ((hbV.cell (p := ⟨bg, og + k, none⟩) (lt_of_cell hgv)).trans hgv)
      have hxm : x.length = 4 := HwP.out.len
      clear hcp hcg hsu hst hR hg hix hx hxe hbw HI HT hbV hgv hkl hxm hR0
      go_wp2_with fail
      by_cases hgR : gv ≤ R.1
      · skip
        obtain ⟨V, hV⟩ : ∃ V, wq.alloc (.cells #[.int .i64 (iAt x 0), .int .i64 (iAt x 1), .int .i64 (iAt x 2), .int .i64 (iAt x 3)] 79) = V := ⟨_, rfl⟩
        obtain ⟨U, hUe⟩ : ∃ U, wq.heap.size = U := ⟨_, rfl⟩
        have hU := HU.out
        have hbV := HbV.out
        have g0 := Hgv.out
        rw [hV] at hU hbV g0 ⊢
        rw [hUe] at hU ⊢
        have hUw : wq.heap.size = U := hUe
        have hns := HLt.out
        have hge := HGe.out
        have hws := Hbw.out.size
        have hbVs := hbV.size
        have hgl := lt_of_cell g0
        have HnU := Lib.hid (show ¬ (mutF Ms U ∨ U = Me) from by
          have hc := Hcht.out.ends.lt
          rintro (⟨j, hj, e⟩ | e)
          · have := Hcht.out.ltF hj; omega
          · omega)
        have HnUF := Lib.hid (show ¬ mutF Ms U from fun e => HnU.out (.inl e))
        have HnG := Lib.hid (show ¬ (mutF Ms bg ∨ bg = Me) from by
          have h0 := HG.out.2 (by omega)
          obtain ⟨b', o', eb, hc⟩ := h0
          cases eb
          have := lt_of_cell (hc k hlt)
          rintro (⟨j, hj, e⟩ | e)
          · have := hge.2.2 j hj; omega
          · omega)
        have HnGF := Lib.hid (show ¬ mutF Ms bg from fun e => HnG.out (.inl e))
        have x0 : V.cell? ⟨U, 0, none⟩ = some (.int .i64 (iAt x 0)) := by rw [cell_row hU]; rfl
        have x1 : V.cell? ⟨U, 1, none⟩ = some (.int .i64 (iAt x 1)) := by rw [cell_row hU]; rfl
        have x2 : V.cell? ⟨U, 2, none⟩ = some (.int .i64 (iAt x 2)) := by rw [cell_row hU]; rfl
        have x3 : V.cell? ⟨U, 3, none⟩ = some (.int .i64 (iAt x 3)) := by rw [cell_row hU]; rfl
        have HcV := Lib.hid (Hcht.out.below hbV (Nat.le_refl _))
        have HBw := Lib.hid (Hbw.out.trans (hbV.mono Hbw.out.size))
        have b1 := (HB.out.below HBw.out (Nat.le_refl _)).c1
        have Hb1 := Lib.hid b1
        have HnB := Lib.hid (show ∀ k, mutF Ms k → k ≠ B from by
          have hb9 := lt_of_block HB.out.row
          rintro k ⟨j, hj, e⟩ e2
          have := hge.2.2 j hj
          omega)
        clear hV hUe hU hbV b1 hns hge hws hbVs hgl y0 y1 y2 y3
        refine wp_region_held_drew (S := fun w9 => Keeps (mutF Ms) V w9) (by kernel_rfl) (Keeps.of_new (drew_b _ _)) (fun hS0 => ?_)
        refine wpAnyH_take (i := 0) (oi := { dst := some 19, op := Go.Op.move (Go.Operand.tmp 2), type := 38, pos := "chart.go:88", after := #[], guard := none }) (v := .slice (some ⟨bg, og, none⟩) N cg) rfl (by kernel_rfl) (by kernel_rfl) (by kernel_rfl) (fun _ _ _ h => h) (Or.inl ⟨by rfl, by intro w9 hSw; (try dsimp only at hSw); go_simp⟩) hS0 ?_
        try simp only [Act.put, List.setIfInBounds_toArray, List.set_cons_zero, List.set_cons_succ]
        refine wpAnyH_take (i := 1) (oi := { dst := some 20, op := Go.Op.move (Go.Operand.tmp 8), type := 3, pos := "chart.go:88", after := #[], guard := none }) (v := .int .i64 (k : Int)) rfl (by kernel_rfl) (by kernel_rfl) (by kernel_rfl) (fun _ _ _ h => h) (Or.inl ⟨by rfl, by intro w9 hSw; (try dsimp only at hSw); go_simp⟩) hS0 ?_
        try simp only [Act.put, List.setIfInBounds_toArray, List.set_cons_zero, List.set_cons_succ]
        refine wpAnyH_take (i := 2) (oi := { dst := some 21, op := Go.Op.indexAddr 38 (Go.Operand.tmp 19) (Go.Operand.tmp 20), type := 0, pos := "chart.go:88", after := #[{ on := 0, ground := Go.Ground.data }, { on := 1, ground := Go.Ground.data }], guard := none }) (v := .pointer (some ⟨bg, og + k, none⟩)) rfl (by kernel_rfl) (by kernel_rfl) (by kernel_rfl) (fun _ _ _ h => h) (Or.inl ⟨by rfl, by intro w9 hSw; (try dsimp only at hSw); go_simp⟩) hS0 ?_
        try simp only [Act.put, List.setIfInBounds_toArray, List.set_cons_zero, List.set_cons_succ]
        refine wpAnyH_take (i := 3) (oi := { dst := some 22, op := Go.Op.load 3 (Go.Operand.tmp 21), type := 3, pos := "chart.go:88", after := #[{ on := 2, ground := Go.Ground.data }], guard := none }) (v := .int .i64 gv) rfl (by kernel_rfl) (by kernel_rfl) (by kernel_rfl) (fun _ _ _ h => h) (Or.inl ⟨by rfl, by intro w9 hSw; (try dsimp only at hSw); have q_g0 := (keep_cells hSw (lt_of_cell g0) HnGF.out _).trans g0; go_simp⟩) hS0 ?_
        try simp only [Act.put, List.setIfInBounds_toArray, List.set_cons_zero, List.set_cons_succ]
        refine wpAnyH_take (i := 4) (oi := { dst := some 23, op := Go.Op.move (Go.Operand.tmp 7), type := 86, pos := "chart.go:88", after := #[], guard := none }) (v := .pointer (some ⟨Cb, 0, none⟩)) rfl (by kernel_rfl) (by kernel_rfl) (by kernel_rfl) (fun _ _ _ h => h) (Or.inl ⟨by rfl, by intro w9 hSw; (try dsimp only at hSw); go_simp⟩) hS0 ?_
        try simp only [Act.put, List.setIfInBounds_toArray, List.set_cons_zero, List.set_cons_succ]
        refine wpAnyH_take (i := 5) (oi := { dst := some 24, op := Go.Op.load 79 (Go.Operand.tmp 9), type := 79, pos := "chart.go:88", after := #[], guard := none }) (v := .agg #[.int .i64 (iAt x 0), .int .i64 (iAt x 1), .int .i64 (iAt x 2), .int .i64 (iAt x 3)]) rfl (by kernel_rfl) (by kernel_rfl) (by kernel_rfl) (fun _ _ _ h => h) (Or.inl ⟨by rfl, by intro w9 hSw; (try dsimp only at hSw); have q_x0 := (keep_cells hSw (lt_of_cell x0) HnUF.out _).trans x0; have q_x1 := (keep_cells hSw (lt_of_cell x1) HnUF.out _).trans x1; have q_x2 := (keep_cells hSw (lt_of_cell x2) HnUF.out _).trans x2; have q_x3 := (keep_cells hSw (lt_of_cell x3) HnUF.out _).trans x3; go_simp⟩) hS0 ?_
        try simp only [Act.put, List.setIfInBounds_toArray, List.set_cons_zero, List.set_cons_succ]
        have hd9 : Below V.heap.size V V.drew := ⟨rfl, rfl, rfl, Nat.le_refl _, fun _ _ => rfl⟩
        obtain ⟨X0, hX0⟩ : ∃ X0, V.drew = X0 := ⟨_, rfl⟩
        rw [hX0] at hS0 hd9 ⊢
        have hbX := (hd9.cell (p := ⟨B, 1, none⟩) (lt_of_cell Hb1.out)).trans Hb1.out
        have key := front78_0 Hfr.out Cb B Me Ms (0, 0) (SeP E (mt.take k)) A2 cap2 HnB.out x HwP.out Hde.out (k * 4681) X0 (HcV.out.below hd9 (Nat.le_refl _)) hbX (by omega)
        rw [HR.out] at key
        have Key := Lib.hid key
        have HS0 := Lib.hid hS0
        clear key hbX hd9 hX0 hS0
        refine wpAnyH_ready (rs := [6]) (by kernel_rfl) (by simp) ?_
        refine AllReadyH.cons (o := { dst := some 25, op := Go.Op.call { callee := Go.Callee.value (Go.Operand.func 78), args := #[Go.Operand.tmp 23, Go.Operand.tmp 24, Go.Operand.const (Go.Value.int Go.IntKind.i64 0)], argTypes := #[86, 79, 3] }, type := 91, pos := "chart.go:88", after := #[{ on := 4, ground := Go.Ground.data }, { on := 5, ground := Go.Ground.data }], guard := none }) rfl (fun K2 hK => ?_) AllReadyH.nil
        go_simp
        refine Key.out.mono ?_
        rintro e9 X1 ⟨rfl, hc3, hk3⟩
        have HS1 := Lib.hid (HS0.out.trans hk3)
        have HX1 := Lib.hid hc3
        clear hc3 hk3 Key
        unfold knV
        try go_simp
        refine hK.out _ _ HS1.out (fun _ => ?_)
        clear hK K2
        try simp only [Act.put, List.setIfInBounds_toArray, List.set_cons_zero, List.set_cons_succ]
        refine wpAnyH_take (i := 7) (oi := { dst := some 26, op := Go.Op.field 91 (Go.Operand.tmp 25) 0, type := 3, pos := "chart.go:88", after := #[{ on := 6, ground := Go.Ground.data }], guard := none }) (v := .int .i64 R.1) rfl (by kernel_rfl) (by kernel_rfl) (by kernel_rfl) (fun _ _ _ h => h) (Or.inl ⟨by rfl, by intro w9 hSw; (try dsimp only at hSw); have hfd := field91 R.1 R.2 w9; go_simp⟩) HS1.out ?_
        try simp only [Act.put, List.setIfInBounds_toArray, List.set_cons_zero, List.set_cons_succ]
        refine wpAnyH_take (i := 8) (oi := { dst := some 27, op := Go.Op.binOp Go.BinOp.leq 3 (Go.Operand.tmp 22) (Go.Operand.tmp 26) 3, type := 4, pos := "chart.go:88", after := #[{ on := 3, ground := Go.Ground.data }, { on := 7, ground := Go.Ground.data }], guard := none }) (v := .bool true) rfl (by kernel_rfl) (by kernel_rfl) (by kernel_rfl) (fun _ _ _ h => h) (Or.inl ⟨by rfl, by intro w9 hSw; (try dsimp only at hSw); go_simp⟩) HS1.out ?_
        try simp only [Act.put, List.setIfInBounds_toArray, List.set_cons_zero, List.set_cons_succ]
        refine wpAnyH_done (by kernel_rfl) ?_ _
        have HF := Lib.hid (Hst.out (by omega))
        have HBf := Lib.hid (HBw.out.trans (HS1.out.below HBw.out.size (fun j hj e => by
          obtain ⟨q, hq, e⟩ := e
          have := HGe.out.2.2 q hq
          omega)))
        clear g0 x0 x1 x2 x3
        go_wp2_with fail
        go_ret
        exact ⟨by rw [HF.out]; rfl, HBf.out⟩
      · skip
        obtain ⟨V, hV⟩ : ∃ V, wq.alloc (.cells #[.int .i64 (iAt x 0), .int .i64 (iAt x 1), .int .i64 (iAt x 2), .int .i64 (iAt x 3)] 79) = V := ⟨_, rfl⟩
        obtain ⟨U, hUe⟩ : ∃ U, wq.heap.size = U := ⟨_, rfl⟩
        have hU := HU.out
        have hbV := HbV.out
        have g0 := Hgv.out
        rw [hV] at hU hbV g0 ⊢
        rw [hUe] at hU ⊢
        have hUw : wq.heap.size = U := hUe
        have hns := HLt.out
        have hge := HGe.out
        have hws := Hbw.out.size
        have hbVs := hbV.size
        have hgl := lt_of_cell g0
        have HnU := Lib.hid (show ¬ (mutF Ms U ∨ U = Me) from by
          have hc := Hcht.out.ends.lt
          rintro (⟨j, hj, e⟩ | e)
          · have := Hcht.out.ltF hj; omega
          · omega)
        have HnUF := Lib.hid (show ¬ mutF Ms U from fun e => HnU.out (.inl e))
        have HnG := Lib.hid (show ¬ (mutF Ms bg ∨ bg = Me) from by
          have h0 := HG.out.2 (by omega)
          obtain ⟨b', o', eb, hc⟩ := h0
          cases eb
          have := lt_of_cell (hc k hlt)
          rintro (⟨j, hj, e⟩ | e)
          · have := hge.2.2 j hj; omega
          · omega)
        have HnGF := Lib.hid (show ¬ mutF Ms bg from fun e => HnG.out (.inl e))
        have x0 : V.cell? ⟨U, 0, none⟩ = some (.int .i64 (iAt x 0)) := by rw [cell_row hU]; rfl
        have x1 : V.cell? ⟨U, 1, none⟩ = some (.int .i64 (iAt x 1)) := by rw [cell_row hU]; rfl
        have x2 : V.cell? ⟨U, 2, none⟩ = some (.int .i64 (iAt x 2)) := by rw [cell_row hU]; rfl
        have x3 : V.cell? ⟨U, 3, none⟩ = some (.int .i64 (iAt x 3)) := by rw [cell_row hU]; rfl
        have HcV := Lib.hid (Hcht.out.below hbV (Nat.le_refl _))
        have HBw := Lib.hid (Hbw.out.trans (hbV.mono Hbw.out.size))
        have b1 := (HB.out.below HBw.out (Nat.le_refl _)).c1
        have Hb1 := Lib.hid b1
        have HnB := Lib.hid (show ∀ k, mutF Ms k → k ≠ B from by
          have hb9 := lt_of_block HB.out.row
          rintro k ⟨j, hj, e⟩ e2
          have := hge.2.2 j hj
          omega)
        clear hV hUe hU hbV b1 hns hge hws hbVs hgl y0 y1 y2 y3
        refine wp_region_held_drew (S := fun w9 => Keeps (mutF Ms) V w9) (by kernel_rfl) (Keeps.of_new (drew_b _ _)) (fun hS0 => ?_)
        refine wpAnyH_take (i := 0) (oi := { dst := some 19, op := Go.Op.move (Go.Operand.tmp 2), type := 38, pos := "chart.go:88", after := #[], guard := none }) (v := .slice (some ⟨bg, og, none⟩) N cg) rfl (by kernel_rfl) (by kernel_rfl) (by kernel_rfl) (fun _ _ _ h => h) (Or.inl ⟨by rfl, by intro w9 hSw; (try dsimp only at hSw); go_simp⟩) hS0 ?_
        try simp only [Act.put, List.setIfInBounds_toArray, List.set_cons_zero, List.set_cons_succ]
        refine wpAnyH_take (i := 1) (oi := { dst := some 20, op := Go.Op.move (Go.Operand.tmp 8), type := 3, pos := "chart.go:88", after := #[], guard := none }) (v := .int .i64 (k : Int)) rfl (by kernel_rfl) (by kernel_rfl) (by kernel_rfl) (fun _ _ _ h => h) (Or.inl ⟨by rfl, by intro w9 hSw; (try dsimp only at hSw); go_simp⟩) hS0 ?_
        try simp only [Act.put, List.setIfInBounds_toArray, List.set_cons_zero, List.set_cons_succ]
        refine wpAnyH_take (i := 2) (oi := { dst := some 21, op := Go.Op.indexAddr 38 (Go.Operand.tmp 19) (Go.Operand.tmp 20), type := 0, pos := "chart.go:88", after := #[{ on := 0, ground := Go.Ground.data }, { on := 1, ground := Go.Ground.data }], guard := none }) (v := .pointer (some ⟨bg, og + k, none⟩)) rfl (by kernel_rfl) (by kernel_rfl) (by kernel_rfl) (fun _ _ _ h => h) (Or.inl ⟨by rfl, by intro w9 hSw; (try dsimp only at hSw); go_simp⟩) hS0 ?_
        try simp only [Act.put, List.setIfInBounds_toArray, List.set_cons_zero, List.set_cons_succ]
        refine wpAnyH_take (i := 3) (oi := { dst := some 22, op := Go.Op.load 3 (Go.Operand.tmp 21), type := 3, pos := "chart.go:88", after := #[{ on := 2, ground := Go.Ground.data }], guard := none }) (v := .int .i64 gv) rfl (by kernel_rfl) (by kernel_rfl) (by kernel_rfl) (fun _ _ _ h => h) (Or.inl ⟨by rfl, by intro w9 hSw; (try dsimp only at hSw); have q_g0 := (keep_cells hSw (lt_of_cell g0) HnGF.out _).trans g0; go_simp⟩) hS0 ?_
        try simp only [Act.put, List.setIfInBounds_toArray, List.set_cons_zero, List.set_cons_succ]
        refine wpAnyH_take (i := 4) (oi := { dst := some 23, op := Go.Op.move (Go.Operand.tmp 7), type := 86, pos := "chart.go:88", after := #[], guard := none }) (v := .pointer (some ⟨Cb, 0, none⟩)) rfl (by kernel_rfl) (by kernel_rfl) (by kernel_rfl) (fun _ _ _ h => h) (Or.inl ⟨by rfl, by intro w9 hSw; (try dsimp only at hSw); go_simp⟩) hS0 ?_
        try simp only [Act.put, List.setIfInBounds_toArray, List.set_cons_zero, List.set_cons_succ]
        refine wpAnyH_take (i := 5) (oi := { dst := some 24, op := Go.Op.load 79 (Go.Operand.tmp 9), type := 79, pos := "chart.go:88", after := #[], guard := none }) (v := .agg #[.int .i64 (iAt x 0), .int .i64 (iAt x 1), .int .i64 (iAt x 2), .int .i64 (iAt x 3)]) rfl (by kernel_rfl) (by kernel_rfl) (by kernel_rfl) (fun _ _ _ h => h) (Or.inl ⟨by rfl, by intro w9 hSw; (try dsimp only at hSw); have q_x0 := (keep_cells hSw (lt_of_cell x0) HnUF.out _).trans x0; have q_x1 := (keep_cells hSw (lt_of_cell x1) HnUF.out _).trans x1; have q_x2 := (keep_cells hSw (lt_of_cell x2) HnUF.out _).trans x2; have q_x3 := (keep_cells hSw (lt_of_cell x3) HnUF.out _).trans x3; go_simp⟩) hS0 ?_
        try simp only [Act.put, List.setIfInBounds_toArray, List.set_cons_zero, List.set_cons_succ]
        have hd9 : Below V.heap.size V V.drew := ⟨rfl, rfl, rfl, Nat.le_refl _, fun _ _ => rfl⟩
        obtain ⟨X0, hX0⟩ : ∃ X0, V.drew = X0 := ⟨_, rfl⟩
        rw [hX0] at hS0 hd9 ⊢
        have hbX := (hd9.cell (p := ⟨B, 1, none⟩) (lt_of_cell Hb1.out)).trans Hb1.out
        have key := front78_0 Hfr.out Cb B Me Ms (0, 0) (SeP E (mt.take k)) A2 cap2 HnB.out x HwP.out Hde.out (k * 4681) X0 (HcV.out.below hd9 (Nat.le_refl _)) hbX (by omega)
        rw [HR.out] at key
        have Key := Lib.hid key
        have HS0 := Lib.hid hS0
        clear key hbX hd9 hX0 hS0
        refine wpAnyH_ready (rs := [6]) (by kernel_rfl) (by simp) ?_
        refine AllReadyH.cons (o := { dst := some 25, op := Go.Op.call { callee := Go.Callee.value (Go.Operand.func 78), args := #[Go.Operand.tmp 23, Go.Operand.tmp 24, Go.Operand.const (Go.Value.int Go.IntKind.i64 0)], argTypes := #[86, 79, 3] }, type := 91, pos := "chart.go:88", after := #[{ on := 4, ground := Go.Ground.data }, { on := 5, ground := Go.Ground.data }], guard := none }) rfl (fun K2 hK => ?_) AllReadyH.nil
        go_simp
        refine Key.out.mono ?_
        rintro e9 X1 ⟨rfl, hc3, hk3⟩
        have HS1 := Lib.hid (HS0.out.trans hk3)
        have HX1 := Lib.hid hc3
        clear hc3 hk3 Key
        unfold knV
        try go_simp
        refine hK.out _ _ HS1.out (fun _ => ?_)
        clear hK K2
        try simp only [Act.put, List.setIfInBounds_toArray, List.set_cons_zero, List.set_cons_succ]
        refine wpAnyH_take (i := 7) (oi := { dst := some 26, op := Go.Op.field 91 (Go.Operand.tmp 25) 0, type := 3, pos := "chart.go:88", after := #[{ on := 6, ground := Go.Ground.data }], guard := none }) (v := .int .i64 R.1) rfl (by kernel_rfl) (by kernel_rfl) (by kernel_rfl) (fun _ _ _ h => h) (Or.inl ⟨by rfl, by intro w9 hSw; (try dsimp only at hSw); have hfd := field91 R.1 R.2 w9; go_simp⟩) HS1.out ?_
        try simp only [Act.put, List.setIfInBounds_toArray, List.set_cons_zero, List.set_cons_succ]
        refine wpAnyH_take (i := 8) (oi := { dst := some 27, op := Go.Op.binOp Go.BinOp.leq 3 (Go.Operand.tmp 22) (Go.Operand.tmp 26) 3, type := 4, pos := "chart.go:88", after := #[{ on := 3, ground := Go.Ground.data }, { on := 7, ground := Go.Ground.data }], guard := none }) (v := .bool false) rfl (by kernel_rfl) (by kernel_rfl) (by kernel_rfl) (fun _ _ _ h => h) (Or.inl ⟨by rfl, by intro w9 hSw; (try dsimp only at hSw); go_simp⟩) HS1.out ?_
        try simp only [Act.put, List.setIfInBounds_toArray, List.set_cons_zero, List.set_cons_succ]
        refine wpAnyH_done (by kernel_rfl) ?_ _
        have g9 := (keep_cells HS1.out (lt_of_cell g0) HnGF.out _).trans g0
        have z0 := (keep_cells HS1.out (lt_of_cell x0) HnUF.out _).trans x0
        have z1 := (keep_cells HS1.out (lt_of_cell x1) HnUF.out _).trans x1
        have z2 := (keep_cells HS1.out (lt_of_cell x2) HnUF.out _).trans x2
        have z3 := (keep_cells HS1.out (lt_of_cell x3) HnUF.out _).trans x3
        have c1 := HX1.out.c1
        have HnC := Lib.hid (show ¬ (mutF Ms Cb ∨ Cb = Me) from by
          rintro (⟨j, hj, e⟩ | e)
          · exact (HX1.out.ne2 j hj).1 e
          · exact HX1.out.ne1 e)
        clear g0 x0 x1 x2 x3
        go_wp2_with fail
        refine wp_region_held_drew (S := fun w9 => Keeps (fun k => mutF Ms k ∨ k = Me) X1 w9) (by kernel_rfl) (Keeps.of_new (drew_b _ _)) (fun hS0 => ?_)
        refine wpAnyH_take (i := 0) (oi := { dst := some 28, op := Go.Op.move (Go.Operand.tmp 7), type := 86, pos := "chart.go:91", after := #[], guard := none }) (v := .pointer (some ⟨Cb, 0, none⟩)) rfl (by kernel_rfl) (by kernel_rfl) (by kernel_rfl) (fun _ _ _ h => h) (Or.inl ⟨by rfl, by intro w9 hSw; (try dsimp only at hSw); go_simp⟩) hS0 ?_
        try simp only [Act.put, List.setIfInBounds_toArray, List.set_cons_zero, List.set_cons_succ]
        refine wpAnyH_take (i := 1) (oi := { dst := some 29, op := Go.Op.nilCheck (Go.Operand.tmp 28), type := 0, pos := "chart.go:91", after := #[{ on := 0, ground := Go.Ground.data }], guard := none }) (v := .pointer (some ⟨Cb, 0, none⟩)) rfl (by kernel_rfl) (by kernel_rfl) (by kernel_rfl) (fun _ _ _ h => h) (Or.inl ⟨by rfl, by intro w9 hSw; (try dsimp only at hSw); go_simp⟩) hS0 ?_
        try simp only [Act.put, List.setIfInBounds_toArray, List.set_cons_zero, List.set_cons_succ]
        refine wpAnyH_take (i := 2) (oi := { dst := some 30, op := Go.Op.fieldAddr 93 (Go.Operand.tmp 29) 1, type := 0, pos := "chart.go:91", after := #[{ on := 1, ground := Go.Ground.data }], guard := none }) (v := .pointer (some ⟨Cb, 1, none⟩)) rfl (by kernel_rfl) (by kernel_rfl) (by kernel_rfl) (fun _ _ _ h => h) (Or.inl ⟨by rfl, by intro w9 hSw; (try dsimp only at hSw); go_simp⟩) hS0 ?_
        try simp only [Act.put, List.setIfInBounds_toArray, List.set_cons_zero, List.set_cons_succ]
        refine wpAnyH_take (i := 3) (oi := { dst := some 31, op := Go.Op.load 88 (Go.Operand.tmp 30), type := 88, pos := "chart.go:91", after := #[{ on := 2, ground := Go.Ground.data }], guard := none }) (v := .map (some Me)) rfl (by kernel_rfl) (by kernel_rfl) (by kernel_rfl) (fun _ _ _ h => h) (Or.inl ⟨by rfl, by intro w9 hSw; (try dsimp only at hSw); have q_c1 := (keep_cells hSw (lt_of_cell c1) HnC.out _).trans c1; go_simp⟩) hS0 ?_
        try simp only [Act.put, List.setIfInBounds_toArray, List.set_cons_zero, List.set_cons_succ]
        refine wpAnyH_take (i := 4) (oi := { dst := some 32, op := Go.Op.load 79 (Go.Operand.tmp 9), type := 79, pos := "chart.go:91", after := #[], guard := none }) (v := .agg #[.int .i64 (iAt x 0), .int .i64 (iAt x 1), .int .i64 (iAt x 2), .int .i64 (iAt x 3)]) rfl (by kernel_rfl) (by kernel_rfl) (by kernel_rfl) (fun _ _ _ h => h) (Or.inl ⟨by rfl, by intro w9 hSw; (try dsimp only at hSw); have q_z0 := (keep_cells hSw (lt_of_cell z0) HnU.out _).trans z0; have q_z1 := (keep_cells hSw (lt_of_cell z1) HnU.out _).trans z1; have q_z2 := (keep_cells hSw (lt_of_cell z2) HnU.out _).trans z2; have q_z3 := (keep_cells hSw (lt_of_cell z3) HnU.out _).trans z3; go_simp⟩) hS0 ?_
        try simp only [Act.put, List.setIfInBounds_toArray, List.set_cons_zero, List.set_cons_succ]
        refine wpAnyH_take (i := 5) (oi := { dst := some 33, op := Go.Op.move (Go.Operand.tmp 2), type := 38, pos := "chart.go:91", after := #[], guard := none }) (v := .slice (some ⟨bg, og, none⟩) N cg) rfl (by kernel_rfl) (by kernel_rfl) (by kernel_rfl) (fun _ _ _ h => h) (Or.inl ⟨by rfl, by intro w9 hSw; (try dsimp only at hSw); go_simp⟩) hS0 ?_
        try simp only [Act.put, List.setIfInBounds_toArray, List.set_cons_zero, List.set_cons_succ]
        refine wpAnyH_take (i := 6) (oi := { dst := some 34, op := Go.Op.move (Go.Operand.tmp 8), type := 3, pos := "chart.go:91", after := #[], guard := none }) (v := .int .i64 (k : Int)) rfl (by kernel_rfl) (by kernel_rfl) (by kernel_rfl) (fun _ _ _ h => h) (Or.inl ⟨by rfl, by intro w9 hSw; (try dsimp only at hSw); go_simp⟩) hS0 ?_
        try simp only [Act.put, List.setIfInBounds_toArray, List.set_cons_zero, List.set_cons_succ]
        refine wpAnyH_take (i := 7) (oi := { dst := some 35, op := Go.Op.indexAddr 38 (Go.Operand.tmp 33) (Go.Operand.tmp 34), type := 0, pos := "chart.go:91", after := #[{ on := 5, ground := Go.Ground.data }, { on := 6, ground := Go.Ground.data }], guard := none }) (v := .pointer (some ⟨bg, og + k, none⟩)) rfl (by kernel_rfl) (by kernel_rfl) (by kernel_rfl) (fun _ _ _ h => h) (Or.inl ⟨by rfl, by intro w9 hSw; (try dsimp only at hSw); go_simp⟩) hS0 ?_
        try simp only [Act.put, List.setIfInBounds_toArray, List.set_cons_zero, List.set_cons_succ]
        refine wpAnyH_take (i := 8) (oi := { dst := some 36, op := Go.Op.load 3 (Go.Operand.tmp 35), type := 3, pos := "chart.go:91", after := #[{ on := 7, ground := Go.Ground.data }], guard := none }) (v := .int .i64 gv) rfl (by kernel_rfl) (by kernel_rfl) (by kernel_rfl) (fun _ _ _ h => h) (Or.inl ⟨by rfl, by intro w9 hSw; (try dsimp only at hSw); have q_g9 := (keep_cells hSw (lt_of_cell g9) HnG.out _).trans g9; go_simp⟩) hS0 ?_
        try simp only [Act.put, List.setIfInBounds_toArray, List.set_cons_zero, List.set_cons_succ]
        refine wpAnyH_take (i := 9) (oi := { dst := some 37, op := Go.Op.build 91 #[(0, Go.Operand.tmp 36)], type := 91, pos := "chart.go:91", after := #[{ on := 8, ground := Go.Ground.data }], guard := none }) (v := .agg #[.int .i64 gv, .int .i64 0]) rfl (by kernel_rfl) (by kernel_rfl) (by kernel_rfl) (fun _ _ _ h => h) (Or.inl ⟨by rfl, by intro w9 hSw; (try dsimp only at hSw); go_simp⟩) hS0 ?_
        try simp only [Act.put, List.setIfInBounds_toArray, List.set_cons_zero, List.set_cons_succ]
        have hd9 : Below X1.heap.size X1 X1.drew := ⟨rfl, rfl, rfl, Nat.le_refl _, fun _ _ => rfl⟩
        obtain ⟨X2, hX2⟩ : ∃ X2, X1.drew = X2 := ⟨_, rfl⟩
        rw [hX2] at hS0 hd9 ⊢
        obtain ⟨X3, hput, hc5, hk5⟩ := (HX1.out.below hd9 (Nat.le_refl _)).putE HwP.out.dom (knV (E x)) (by omega)
        rw [SeP_snoc, Htk.out] at hc5
        have hge : knV (E x) = .agg #[.int .i64 gv, .int .i64 0] := by rw [HEx.out, if_neg (by have := HR0.out; omega)]; rfl
        rw [hge] at hput
        unfold plA at hput
        have HS3 := Lib.hid (hS0.trans (hk5.mono (fun k _ e => (.inr e : mutF Ms k ∨ k = Me))))
        have HX3 := Lib.hid hc5
        have HBf := Lib.hid (HBw.out.trans ((HS1.out.mono (fun k _ e => (.inl e : mutF Ms k ∨ k = Me))).trans HS3.out |>.below HBw.out.size (fun j hj e => by
          rcases e with ⟨q, hq, e⟩ | e
          · have := HGe.out.2.2 q hq
            omega
          · have := HGe.out.2.1
            omega)))
        have HT2 : Hid (rgK mt m gs (k + 1) = true) := Lib.hid (by rw [Hsu.out, decide_eq_true (by omega)])
        clear hc5 hk5 hX2 hd9 g9 z0 z1 z2 z3 c1 hge
        refine wpAnyH_ready (rs := [10]) (by kernel_rfl) (by simp) ?_
        refine AllReadyH.cons (o := { dst := none, op := Go.Op.mapUpdate 88 (Go.Operand.tmp 31) (Go.Operand.tmp 32) (Go.Operand.tmp 37), type := 0, pos := "chart.go:91", after := #[{ on := 3, ground := Go.Ground.data }, { on := 4, ground := Go.Ground.data }, { on := 9, ground := Go.Ground.data }, { on := 0, ground := Go.Ground.phase }, { on := 1, ground := Go.Ground.phase }, { on := 2, ground := Go.Ground.phase }, { on := 3, ground := Go.Ground.phase }, { on := 4, ground := Go.Ground.phase }, { on := 5, ground := Go.Ground.phase }, { on := 6, ground := Go.Ground.phase }, { on := 7, ground := Go.Ground.phase }, { on := 8, ground := Go.Ground.phase }, { on := 9, ground := Go.Ground.phase }], guard := none }) rfl (fun K2 hK => ?_) AllReadyH.nil
        go_simp
        try rw [hput]
        try go_simp
        refine hK.out _ _ HS3.out (fun _ => ?_)
        clear hK K2 hput hS0
        try simp only [Act.put, List.setIfInBounds_toArray, List.set_cons_zero, List.set_cons_succ]
        refine wpAnyH_done (by kernel_rfl) ?_ _
        go_wp2_with fail
        go_roundw
        case rel => exact ⟨k + 1, by omega, by go_num, HT2, Lib.hid ⟨HX3.out.mono (by omega), HBf.out⟩⟩
        case measure => simp [intOf]; omega
    · obtain rfl : k = N := by omega
      have HBf := Lib.hid HI.out.2
      clear HI
      go_wp2_with fail
      go_ret
      exact ⟨by rw [HT.out]; rfl, HBf.out⟩
end Go.Proofs.Ythdjbapidodlfaa
