/- Stage 5: boards with a greatest joining: made, with one link known, without some. -/
import Derived.Test.YtnodkgejggnehaaMx
import Derived.Deep.Cut
import Derived.LoopIn
import Derived.Carry
import Derived.Test.YtnodkgejggnehaaKk
namespace Go.Proofs.Ytnodkgejggnehaa
set_option linter.unusedSimpArgs false
set_option linter.unusedVariables false
open Go.RowKit Go.Shelf
attribute [local go_sem ↓] exec_app at_app
attribute [local go_sem] Oper.semAt_some
attribute [local go_sem ↓] exec_load88 exec_store88
/-- What the rounds of one turn find. -/
def GwI (n : Nat) (zs : List Rg) (op : Nat → Bool) (ss : List Rg) (pta ptb : Nat → Int) (q : Nat) : Prop :=
  Gro n zs op pta ptb ∧ ((ptb = pta ∧ ∀ j, j < q → ∀ l i : Nat, gAt ss j = ⟨(l : Int), (i : Int)⟩ → l < 2 → i < 12 → pta (l * 12 + i) = -1 → Cert n zs op pta l i) ∨ ∃ s, s < 24 ∧ pta s = -1 ∧ ptb s ≠ -1)
set_option maxRecDepth 100000 in
set_option maxHeartbeats 16000000 in
theorem grow66 (B : Nat) (sl sr : Int) (A : Option Addr) (n cap : Nat) (zs : List Rg) (A2 : Option Addr) (kn kc : Nat) (ks : List Int) (op : Nat → Bool) (M : Nat) (pt : Nat → Int) (lk : Nat → Bool) (IA : Option Addr) (m mc : Nat) (ss : List Rg) (w : World) (hn : n ≤ 40) (hz : ZOk n zs) (h : Brd w B sl sr A n cap zs A2 kn kc ks pt op (.map (some M))) (hm : LM w M lk) (hS : Rgs w IA m ss) (hSB : 0 < m → ∀ a, IA = some a → a.block ≠ B) (hss : SdOk ss) (hm9 : m ≤ 100000) (hc : Cons n zs pt) (ho : OpI n zs op pt) :
    Calls Try.prog 66 #[.pointer (some ⟨B, 0, none⟩), .slice IA m mc] w fun e w' => e = .returned (.tuple #[]) ∧ ∃ pt' lk', Brd w' B sl sr A n cap zs A2 kn kc ks pt' op (.map (some M)) ∧ LM w' M lk' ∧ Keeps (fun j => j = B ∨ j = M) w w' ∧ Gro n zs op pt pt' ∧ ∀ j, j < m → ∀ l i : Nat, gAt ss j = ⟨(l : Int), (i : Int)⟩ → l < 2 → i < 12 → pt' (l * 12 + i) = -1 → Cert n zs op pt' l i := by
  have Hbo := Lib.hid h
  have Hlm := Lib.hid hm
  have HS := Lib.hid hS
  have HSB := Lib.hid hSB
  have Hss := Lib.hid hss
  have Hz := Lib.hid hz
  have Hg0 := Lib.hid (Gro.refl hc ho)
  have hsl := hS.1
  have hBM : B ≠ M := h.ne_map hm
  have hMw := hm.lt
  have hBw : B < w.heap.size := by obtain ⟨X, hX, -⟩ := h.row; exact lt_of_block hX
  clear h hm hS hSB hss hz hc ho
  go_enter Try.func66, Try.ntmps66
  go_wp2_with fail
  go_loopw [4] (fun v wr => Hid (∃ pta lka, Brd wr B sl sr A n cap zs A2 kn kc ks pta op (.map (some M)) ∧ LM wr M lka ∧ Gro n zs op pt pta ∧ Keeps (fun j => j = B ∨ j = M) w wr)) (fun v wr => unpW wr B)
  case atStart => exact Lib.hid ⟨pt, lk, Hbo.out, Hlm.out, Hg0.out, Keeps.refl _ _⟩
  case round =>
    obtain ⟨pta, lka, hba, hma, hga, hka⟩ := hrel.out
    obtain ⟨wk, rfl⟩ : ∃ wk, wk = wr := ⟨_, rfl⟩
    have cld := run_ld88 (W := wk) (B := B) (o := 4) (pt := pta) (fun j hj => hba.hp j hj)
    go_wp2_with fail
    obtain ⟨w1, hw1⟩ : ∃ w1, wk.alloc (.cells #[.int .i64 0, .int .i64 0, .int .i64 0, .int .i64 0, .int .i64 0, .int .i64 0, .int .i64 0, .int .i64 0, .int .i64 0, .int .i64 0, .int .i64 0, .int .i64 0, .int .i64 0, .int .i64 0, .int .i64 0, .int .i64 0, .int .i64 0, .int .i64 0, .int .i64 0, .int .i64 0, .int .i64 0, .int .i64 0, .int .i64 0, .int .i64 0] 88) = w1 := ⟨_, rfl⟩
    obtain ⟨Z, hZ⟩ : ∃ Z, wk.heap.size = Z := ⟨_, rfl⟩
    have hr1 : w1.heap[Z]? = some (.cells #[.int .i64 0, .int .i64 0, .int .i64 0, .int .i64 0, .int .i64 0, .int .i64 0, .int .i64 0, .int .i64 0, .int .i64 0, .int .i64 0, .int .i64 0, .int .i64 0, .int .i64 0, .int .i64 0, .int .i64 0, .int .i64 0, .int .i64 0, .int .i64 0, .int .i64 0, .int .i64 0, .int .i64 0, .int .i64 0, .int .i64 0, .int .i64 0] 88 (0, 0)) := by rw [← hw1, ← hZ]; exact heap_alloc_new_ _ _
    have hk1 : Keeps (fun _ => False) wk w1 := by rw [← hw1]; exact keep_alloc _ _ _
    rw [hw1, hZ, run_st88 (pt := pta) hr1 rfl]
    have hr2 := setRow_same (pV pta) hr1
    have hk2 := hk1.none.trans (keeps_setRow w1 Z (pV pta))
    obtain ⟨w2, hw2⟩ : ∃ w2, w1.setRow Z (pV pta) = w2 := ⟨_, rfl⟩
    rw [hw2] at hr2 hk2 ⊢
    have hZw : w.heap.size ≤ Z := by have := hka.size; omega
    have hk2' : Keeps (fun j => w.heap.size ≤ j) wk w2 := hk2.mono (fun j _ e => by omega)
    have Hb2 := Lib.hid (Brd.abide Hbo.out hba hk2' (fun j e => e))
    have Hm2 := Lib.hid (hma.keep hk2' (fun e => by omega))
    have Hk2 := Lib.hid (keeps_old3 hka (hk2'.mono (fun j _ e => .inl e)))
    have Hr2 := Lib.hid hr2
    have Hga := Lib.hid hga
    have Hmu := Lib.hid hba.unp
    clear cld hr1 hk1 hr2 hk2 hk2' hw1 hw2 hZ hba hma hga hka hrel
    go_wp2_with fail
    go_loopw [6, 13] (fun p j wr => ∃ q : Nat, q ≤ m ∧ j = .int .i64 (q : Int) ∧ Hid (∃ ptb lkb, Brd wr B sl sr A n cap zs A2 kn kc ks ptb op (.map (some M)) ∧ LM wr M lkb ∧ GwI n zs op ss pta ptb q ∧ Keeps (fun j => j = B ∨ j = M) w wr ∧ wr.heap[Z]? = some (.cells (pV pta) 88 (0, 0)))) (fun p j _ => m - (intOf j).toNat)
    case atStart => exact ⟨0, by omega, rfl, Lib.hid ⟨pta, lka, Hb2.out, Hm2.out, ⟨Gro.refl Hga.out.cons Hga.out.opi, .inl ⟨rfl, fun j hj => by omega⟩⟩, Hk2.out, Hr2.out⟩⟩
    case round =>
      obtain ⟨q, hq9, rfl, HV⟩ := hrel
      obtain ⟨wj, rfl⟩ : ∃ wj, wj = wr := ⟨_, rfl⟩
      by_cases hlt : q < m
      · obtain ⟨ptb, lkb, hbb, hmb, hgb, hkb, hrb⟩ := HV.out
        have hSj := HS.out.keepN hkb (fun h0 a e h => by
          rcases h with h | h
          · exact HSB.out h0 a e h
          · obtain ⟨bz, oz, ez, hcz⟩ := HS.out.2 h0
            rw [e] at ez; cases ez
            have := Hlm.out.noCell (oz + 0 * 2)
            rw [← h, (hcz 0 h0).1] at this; cases this)
        obtain ⟨bz, oz, rfl, hcz⟩ := hSj.2 (by omega)
        obtain ⟨z0, z1⟩ := hcz q hlt
        obtain ⟨l, i, hl, hi, hsi⟩ := Hss.out (gAt ss q) (by rw [gAt_eq (by omega)]; exact List.getElem_mem _)
        rw [hsi] at z0 z1
        simp only at z0 z1
        have i0 : (0 : Int) ≤ (q : Int) := by omega
        have i1 : (q : Int) < (m : Int) := by omega
        have hbV := below_alloc_ wj (.cells #[.int .i64 (l : Int), .int .i64 (i : Int)] 100)
        have hrV := heap_alloc_new_ wj (.cells #[.int .i64 (l : Int), .int .i64 (i : Int)] 100)
        go_upto_region 4 with fail
        obtain ⟨V, hV⟩ : ∃ V, wj.alloc (.cells #[.int .i64 (l : Int), .int .i64 (i : Int)] 100) = V := ⟨_, rfl⟩
        obtain ⟨P, hP⟩ : ∃ P, wj.heap.size = P := ⟨_, rfl⟩
        rw [hV] at hbV hrV ⊢
        rw [hP] at hrV ⊢
        have p0 : V.cell? ⟨P, 0, none⟩ = some (.int .i64 (l : Int)) := by rw [cell_row hrV]; rfl
        have p1 : V.cell? ⟨P, 1, none⟩ = some (.int .i64 (i : Int)) := by rw [cell_row hrV]; rfl
        have HbV := Lib.hid (hbb.below hbV (Nat.le_refl _))
        have HmV := Lib.hid (hmb.below hbV)
        have HkV := Lib.hid (hkb.trans (Keeps.of_new hbV))
        have HrV := Lib.hid hrV
        have HzV := Lib.hid ((hbV.block _ (lt_of_block hrb)).trans hrb)
        have hMP : M < P := by have := hmb.lt; omega
        have hZP : Z < P := by have := lt_of_block hrb; omega
        have hBP : B < P := by have := hkb.size; omega
        have Hgb := Lib.hid hgb
        have Hsi := Lib.hid hsi
        have k70 := partner70 B sl sr A n cap zs A2 kn kc ks ptb op (.map (some M)) l i V HbV.out hl hi
        obtain ⟨x, hx⟩ : ∃ x, ptb (l * 12 + i) = x := ⟨_, rfl⟩
        rw [hx] at k70
        have K70 := Lib.hid k70
        have Hx := Lib.hid hx
        clear hbb hmb hgb hkb hrb hcz z0 z1 hbV hrV hV hP k70 hx HV hsi hSj
        go_wp2_with fail
        refine K70.out.mono ?_
        rintro en V1 ⟨rfl, hb1⟩
        have hr1 := (hb1.block _ (lt_of_block HrV.out)).trans HrV.out
        have Hb1 := Lib.hid (HbV.out.below hb1 (Nat.le_refl _))
        have Hm1 := Lib.hid (HmV.out.below hb1)
        have Hk1 := Lib.hid (HkV.out.trans (Keeps.of_new hb1))
        have Hr1 := Lib.hid hr1
        have Hz1 := Lib.hid ((hb1.block _ (lt_of_block HzV.out)).trans HzV.out)
        clear p0 p1 K70 hb1 hr1
        by_cases h0 : x = -1
        · have d0 : (x == -1) = true := by rw [beq_iff_eq]; exact h0
          have k69 := forget69 B sl sr A n cap zs A2 kn kc ks ptb op M lkb V1 Hb1.out Hm1.out
          have K69 := Lib.hid k69
          have H0 := Lib.hid h0
          clear k69 h0
          go_wp2_with fail
          refine K69.out.mono ?_
          rintro en V2 ⟨rfl, hm2, hk2⟩
          have hb2 := Hb1.out.keepM Hm1.out hk2
          have hr2 := (hk2.block _ (lt_of_block Hr1.out) (by omega)).trans Hr1.out
          have p0 : V2.cell? ⟨P, 0, none⟩ = some (.int .i64 (l : Int)) := by rw [cell_row hr2]; rfl
          have p1 : V2.cell? ⟨P, 1, none⟩ = some (.int .i64 (i : Int)) := by rw [cell_row hr2]; rfl
          have k71 := find71 B sl sr A n cap zs A2 kn kc ks ptb op M l hl hn Hz.out (unl l (fun _ => false)) (fun _ => false) i V2 (Nat.le_refl _) hi hb2 hm2 (Hgb.out.1.cons.pre hl _) (Hgb.out.1.cons.img hl _ (by rw [Hx.out]; exact H0.out))
          have K71 := Lib.hid k71
          have Hk2' := Lib.hid (Hk1.out.trans (hk2.mono (fun j _ e => .inr e)))
          have Hz2 := Lib.hid ((hk2.block _ (lt_of_block Hz1.out) (by omega)).trans Hz1.out)
          clear k71 K69 hk2 hb2 hr2 hm2 d0
          go_wp2_with fail
          refine K71.out.mono ?_
          rintro en V3 ⟨r, pt', lk', rfl, hb3, hm3, hk3, -, hsuc, hfail⟩
          have Hb3 := Lib.hid hb3
          have Hm3 := Lib.hid hm3
          have Hk3 := Lib.hid (Hk2'.out.trans hk3)
          have Hz3 := Lib.hid ((hk3.block _ (lt_of_block Hz2.out) (by omega)).trans Hz2.out)
          have Hg3 := Lib.hid (show GwI n zs op ss pta pt' (q + 1) by
            have h1 : ptb (l * 12 + i) = -1 := by rw [Hx.out]; exact H0.out
            cases r with
            | true =>
              obtain ⟨g1, g2⟩ := (hsuc rfl).gro Hz.out hl hi Hgb.out.1.cons Hgb.out.1.opi h1 (fun _ => rfl)
              refine ⟨Hgb.out.1.trans g1, .inr ⟨l * 12 + i, by omega, ?_, g2⟩⟩
              exact Classical.byContradiction fun e => Hgb.out.1.mono _ (by omega) e h1
            | false =>
              obtain ⟨rfl, c1, c2⟩ := hfail rfl
              refine ⟨Hgb.out.1, ?_⟩
              rcases Hgb.out.2 with ⟨rfl, h2⟩ | h2
              · refine .inl ⟨rfl, fun j hj l2 i2 e a b c => ?_⟩
                rcases (by omega : j < q ∨ j = q) with h3 | rfl
                · exact h2 j h3 l2 i2 e a b c
                · rw [Hsi.out] at e
                  simp only [Rg.mk.injEq] at e
                  obtain rfl : l = l2 := by omega
                  obtain rfl : i = i2 := by omega
                  exact CloP.cert (fun _ => rfl) c1 c2
              · exact .inr h2)
          clear p0 p1 K71 hb3 hm3 hk3 hsuc hfail
          go_wp2_with fail
          go_roundw
          case rel => exact ⟨q + 1, by omega, by go_num, Lib.hid ⟨pt', lk', Hb3.out, Hm3.out, Hg3.out, Hk3.out, Hz3.out⟩⟩
          case measure => simp [intOf]; omega
        · have d0 : (x == -1) = false := by rw [beq_eq_false_iff_ne]; exact h0
          have Hg3 := Lib.hid (show GwI n zs op ss pta ptb (q + 1) by
            refine ⟨Hgb.out.1, ?_⟩
            rcases Hgb.out.2 with ⟨rfl, h2⟩ | h2
            · refine .inl ⟨rfl, fun j hj l2 i2 e a b c => ?_⟩
              rcases (by omega : j < q ∨ j = q) with h3 | rfl
              · exact h2 j h3 l2 i2 e a b c
              · rw [Hsi.out] at e
                simp only [Rg.mk.injEq] at e
                obtain rfl : l = l2 := by omega
                obtain rfl : i = i2 := by omega
                rw [Hx.out] at c; exact absurd c h0
            · exact .inr h2)
          clear h0
          go_wp2_with fail
          go_roundw
          case rel => exact ⟨q + 1, by omega, by go_num, Lib.hid ⟨ptb, lkb, Hb1.out, Hm1.out, Hg3.out, Hk1.out, Hz1.out⟩⟩
          case measure => simp [intOf]; omega
      · obtain rfl : q = m := by omega
        obtain ⟨ptb, lkb, hbb, hmb, hgb, hkb, hrb⟩ := HV.out
        have cz : ∀ w2, Below wj.heap.size wj w2 → runO Try.prog (ld 88) (.pointer (some ⟨Z, 0, none⟩)) w2 = .ok (.value (.agg (pV pta))) w2 := fun w2 hw => run_ld88 (W := w2) (B := Z) (o := 0) (pt := pta) (fun j hj => by
          rw [hw.cell (p := ⟨Z, 0 + j, none⟩) (lt_of_block hrb), cell_row hrb, Nat.zero_add, pV_at pta j hj])
        have cb : ∀ w2, Below wj.heap.size wj w2 → runO Try.prog (ld 88) (.pointer (some ⟨B, 4, none⟩)) w2 = .ok (.value (.agg (pV ptb))) w2 := fun w2 hw => run_ld88 (W := w2) (B := B) (o := 4) (pt := ptb) (fun j hj => (hbb.below hw (Nat.le_refl _)).hp j hj)
        have ceq := fun w2 => run_eql88 w2 ptb pta
        obtain ⟨bs, hbs⟩ : ∃ bs, samP ptb pta = bs := ⟨_, rfl⟩
        rw [hbs] at ceq
        have Hbb := Lib.hid hbb
        have Hmb := Lib.hid hmb
        have Hgb := Lib.hid hgb
        have Hkb := Lib.hid hkb
        have Hbs := Lib.hid hbs
        clear hbb hmb hgb hkb hrb hbs HV
        go_wp2_with fail
        refine wp_region_held_drew (S := fun w2 => Below wj.heap.size wj w2) (by kernel_rfl) (drew_b _ _) (fun hS0 => ?_)
        refine wpAnyH_take (i := 0) (oi := { dst := some 27, op := Go.Op.move (Go.Operand.tmp 0), type := 61, pos := "board.go:196", after := #[], guard := none }) (v := .pointer (some ⟨B, 0, none⟩)) rfl (by kernel_rfl) (by kernel_rfl) (by kernel_rfl) (fun _ _ _ h => h) (Or.inl ⟨by rfl, by intro w2 hSw; (try dsimp only at hSw); go_simp⟩) hS0 ?_
        try simp only [Act.put, List.setIfInBounds_toArray, List.set_cons_zero, List.set_cons_succ]
        refine wpAnyH_take (i := 1) (oi := { dst := some 28, op := Go.Op.nilCheck (Go.Operand.tmp 27), type := 0, pos := "board.go:196", after := #[{ on := 0, ground := Go.Ground.data }], guard := none }) (v := .pointer (some ⟨B, 0, none⟩)) rfl (by kernel_rfl) (by kernel_rfl) (by kernel_rfl) (fun _ _ _ h => h) (Or.inl ⟨by rfl, by intro w2 hSw; (try dsimp only at hSw); go_simp⟩) hS0 ?_
        try simp only [Act.put, List.setIfInBounds_toArray, List.set_cons_zero, List.set_cons_succ]
        refine wpAnyH_take (i := 2) (oi := { dst := some 29, op := Go.Op.fieldAddr 91 (Go.Operand.tmp 28) 1, type := 0, pos := "board.go:196", after := #[{ on := 1, ground := Go.Ground.data }], guard := none }) (v := .pointer (some ⟨B, 4, none⟩)) rfl (by kernel_rfl) (by kernel_rfl) (by kernel_rfl) (fun _ _ _ h => h) (Or.inl ⟨by rfl, by intro w2 hSw; (try dsimp only at hSw); go_simp⟩) hS0 ?_
        try simp only [Act.put, List.setIfInBounds_toArray, List.set_cons_zero, List.set_cons_succ]
        refine wpAnyH_take (i := 3) (oi := { dst := some 30, op := Go.Op.load 88 (Go.Operand.tmp 29), type := 88, pos := "board.go:196", after := #[{ on := 2, ground := Go.Ground.data }], guard := none }) (v := .agg (pV ptb)) rfl (by kernel_rfl) (by kernel_rfl) (by kernel_rfl) (fun _ _ _ h => h) (Or.inl ⟨by rfl, by intro w2 hSw; (try dsimp only at hSw); have y0 := cb w2 hSw; go_simp⟩) hS0 ?_
        try simp only [Act.put, List.setIfInBounds_toArray, List.set_cons_zero, List.set_cons_succ]
        refine wpAnyH_take (i := 4) (oi := { dst := some 31, op := Go.Op.load 88 (Go.Operand.tmp 4), type := 88, pos := "board.go:196", after := #[], guard := none }) (v := .agg (pV pta)) rfl (by kernel_rfl) (by kernel_rfl) (by kernel_rfl) (fun _ _ _ h => h) (Or.inl ⟨by rfl, by intro w2 hSw; (try dsimp only at hSw); have y0 := cz w2 hSw; go_simp⟩) hS0 ?_
        try simp only [Act.put, List.setIfInBounds_toArray, List.set_cons_zero, List.set_cons_succ]
        refine wpAnyH_take (i := 5) (oi := { dst := some 32, op := Go.Op.binOp Go.BinOp.eql 88 (Go.Operand.tmp 30) (Go.Operand.tmp 31) 88, type := 4, pos := "board.go:196", after := #[{ on := 3, ground := Go.Ground.data }, { on := 4, ground := Go.Ground.data }], guard := none }) (v := .bool bs) rfl (by kernel_rfl) (by kernel_rfl) (by kernel_rfl) (fun _ _ _ h => h) (Or.inl ⟨by rfl, by intro w2 hSw; (try dsimp only at hSw); go_simp⟩) hS0 ?_
        try simp only [Act.put, List.setIfInBounds_toArray, List.set_cons_zero, List.set_cons_succ]
        refine wpAnyH_done (by kernel_rfl) ?_ _
        obtain ⟨VX, hVX⟩ : ∃ VX, wj.drew = VX := ⟨_, rfl⟩
        rw [hVX] at hS0 ⊢
        have HbX := Lib.hid (Hbb.out.below hS0 (Nat.le_refl _))
        have HmX := Lib.hid (Hmb.out.below hS0)
        have HkX := Lib.hid (Hkb.out.trans (Keeps.of_new hS0))
        clear hS0 hVX cz cb ceq
        rcases bs with _ | _
        · go_wp2_with fail
          refine ⟨Lib.hid ⟨ptb, lkb, HbX.out, HmX.out, Hga.out.trans Hgb.out.1, HkX.out⟩, ?_⟩
          rw [HbX.out.unp, Hmu.out]
          rcases Hgb.out.2 with ⟨rfl, _⟩ | ⟨s, h1, h2, h3⟩
          · have h1 := (samP_iff ptb ptb).2 (fun _ _ => rfl)
            rw [Hbs.out] at h1; cases h1
          · exact unp_lt Hgb.out.1.mono h1 h2 h3
        · go_wp2_with fail
          refine bodyPost_ret (results_none rfl _ _ _) rfl ⟨rfl, ptb, lkb, HbX.out, HmX.out, HkX.out, Hga.out.trans Hgb.out.1, ?_⟩
          rcases Hgb.out.2 with ⟨rfl, h2⟩ | ⟨s, h1, h2, h3⟩
          · exact h2
          · have h4 := (samP_iff ptb pta).1 Hbs.out s h1
            exact absurd (by rw [h4]; exact h2) h3
end Go.Proofs.Ytnodkgejggnehaa

namespace Go.Proofs.Ytnodkgejggnehaa
set_option linter.unusedSimpArgs false
set_option linter.unusedVariables false
open Go.RowKit Go.Shelf
attribute [local go_sem ↓] exec_app at_app
attribute [local go_sem] Oper.semAt_some
def bd91 : Oper := { dst := none, op := Op.build 91 #[(0, .tmp 0), (3, .tmp 1)], type := 91, pos := "", after := #[], guard := none }
theorem exec_build91 (ρ : Operand → Value) (d : Option Tmp) (x y : Operand) (ty : TypeId) (pos : String) (af : Array Edge) (g : Option (Nat × Bool)) (W : World) :
    (execOp ρ { dst := d, op := Op.build 91 #[(0, x), (3, y)], type := ty, pos := pos, after := af, guard := g }).run Try.prog W = runV Try.prog bd91 (ρ x) (ρ y) W := by kernel_rfl
attribute [local go_sem ↓] exec_build91
/-- A new board. -/
def X0 (sl sr : Int) (A : Option Addr) (n cap : Nat) (A2 : Option Addr) (kn kc M : Nat) : Array Value := #[.int .i64 sl, .int .i64 sr, .slice A n cap, .slice A2 kn kc] ++ Array.replicate 24 (.int .i64 0) ++ Array.replicate 40 (.bool false) ++ #[.map (some M)]
theorem run_bd91 (sl sr : Int) (A : Option Addr) (n cap : Nat) (A2 : Option Addr) (kn kc M : Nat) (W : World) :
    runV Try.prog bd91 (.agg #[.int .i64 sl, .int .i64 sr, .slice A n cap, .slice A2 kn kc]) (.map (some M)) W = .ok (.value (.agg (X0 sl sr A n cap A2 kn kc M))) W := by
  kernel_rfl
theorem x0_size (sl sr : Int) (A : Option Addr) (n cap : Nat) (A2 : Option Addr) (kn kc M : Nat) : (X0 sl sr A n cap A2 kn kc M).size = 69 := by simp [X0]
theorem x0_brd {sl sr : Int} {A : Option Addr} {n cap : Nat} {zs : List Rg} {A2 : Option Addr} {kn kc : Nat} {ks : List Int} {M B : Nat} {W W' : World} (hr : Rgs W A n zs) (hi : Ints W A2 kn ks) (hb : Below W.heap.size W W') (hB : W'.heap[B]? = some (.cells (X0 sl sr A n cap A2 kn kc M) 91 (0, 0))) (hBn : W.heap.size ≤ B) :
    Brd W' B sl sr A n cap zs A2 kn kc ks (fun _ => 0) (fun _ => false) (.map (some M)) := by
  have c : ∀ o, W'.cell? ⟨B, o, none⟩ = (X0 sl sr A n cap A2 kn kc M)[o]? := fun o => cell_row hB
  refine ⟨by rw [c]; simp [X0], by rw [c]; simp [X0], by rw [c]; simp [X0], by rw [c]; simp [X0], fun j hj => ?_, fun j hj => ?_, ?_, hr.below hb (Nat.le_refl _), hi.below hb (Nat.le_refl _), ⟨_, hB, x0_size _ _ _ _ _ _ _ _ _⟩, fun hn a e => ?_, fun hn a e => ?_⟩
  · rw [c, X0, Array.getElem?_append_left (by simp; omega), Array.getElem?_append_left (by simp; omega), Array.getElem?_append_right (by simp)]
    simp [hj]
  · rw [c, X0, Array.getElem?_append_left (by simp; omega), Array.getElem?_append_right (by simp)]
    have : 28 + j - 28 < 40 := by omega
    simp [hj]
  · rw [c, X0, Array.getElem?_append_right (by simp)]
    simp
  · obtain ⟨b, o, e2, hc⟩ := hr.2 hn
    rw [e] at e2; cases e2
    have := lt_of_cell (hc 0 hn).1
    show b ≠ B
    omega
  · obtain ⟨b, o, e2, hc⟩ := hi.2 hn
    rw [e] at e2; cases e2
    have := lt_of_cell (hc 0 hn)
    show b ≠ B
    omega
set_option maxRecDepth 100000 in
set_option maxHeartbeats 16000000 in
theorem lay40_bad (sl sr : Int) (A : Option Addr) (n cap : Nat) (zs : List Rg) (A2 : Option Addr) (kn kc : Nat) (ks : List Int) (w : World) (h : Rgs w A n zs) (hI : Ints w A2 kn ks) (hc9 : n ≤ cap) (hn : n ≤ 1000000) (hk : kn ≤ 100000) (he : chkS sl sr zs ks ≠ 0) :
    Calls Try.prog 40 #[.agg #[.int .i64 sl, .int .i64 sr, .slice A n cap, .slice A2 kn kc]] w fun e w' => e = .returned (.tuple #[.pointer none, .int .i64 (chkS sl sr zs ks)]) ∧ Below w.heap.size w w' := by
  have hb0 := below_alloc_ w (.cells #[.int .i64 sl, .int .i64 sr, .slice A n cap, .slice A2 kn kc] 25)
  have hr0 := heap_alloc_new_ w (.cells #[.int .i64 sl, .int .i64 sr, .slice A n cap, .slice A2 kn kc] 25)
  obtain ⟨w0, hW0⟩ : ∃ w0, w.alloc (.cells #[.int .i64 sl, .int .i64 sr, .slice A n cap, .slice A2 kn kc] 25) = w0 := ⟨_, rfl⟩
  obtain ⟨R, hR⟩ : ∃ R, w.heap.size = R := ⟨_, rfl⟩
  rw [hW0] at hb0 hr0
  have k18 := checkSheet18 sl sr A n cap zs A2 kn kc ks w0 (h.below hb0 (Nat.le_refl _)) (hI.below hb0 (Nat.le_refl _)) hc9 hn hk
  rw [hR] at hr0
  have x0 : w0.cell? ⟨R, 0, none⟩ = some (.int .i64 sl) := by rw [cell_row hr0]; rfl
  have x1 : w0.cell? ⟨R, 1, none⟩ = some (.int .i64 sr) := by rw [cell_row hr0]; rfl
  have x2 : w0.cell? ⟨R, 2, none⟩ = some (.slice A n cap) := by rw [cell_row hr0]; rfl
  have x3 : w0.cell? ⟨R, 3, none⟩ = some (.slice A2 kn kc) := by rw [cell_row hr0]; rfl
  obtain ⟨c, hc⟩ : ∃ c, chkS sl sr zs ks = c := ⟨_, rfl⟩
  rw [hc] at k18 he ⊢
  have d0 : (c != 0) = true := by rw [bne_iff_ne]; exact he
  have K18 := Lib.hid k18
  have HB := Lib.hid hb0
  have HW0 := Lib.hid hW0
  have HR := Lib.hid hR
  clear h hI hb0 hr0 hW0 hR k18 hc he
  go_enter Try.func40, Try.ntmps40
  go_wp2_with fail
  try rw [HW0.out]
  try rw [HR.out]
  try go_wp2_with fail
  refine K18.out.mono ?_
  rintro en w1 ⟨rfl, hb1⟩
  have HB1 := Lib.hid (HB.out.trans (hb1.mono HB.out.size))
  clear K18 hb1 x0 x1 x2 x3
  go_wp2_with fail
  go_ret2
  exact ⟨rfl, by first | exact HB1.out | (rw [← HR.out]; exact HB1.out)⟩
set_option maxRecDepth 100000 in
set_option maxHeartbeats 16000000 in
theorem lay40 (sl sr : Int) (A : Option Addr) (n cap : Nat) (zs : List Rg) (A2 : Option Addr) (kn kc : Nat) (ks : List Int) (w : World) (h : Rgs w A n zs) (hI : Ints w A2 kn ks) (hc9 : n ≤ cap) (hn : n ≤ 1000000) (hk : kn ≤ 100000) (he : chkS sl sr zs ks = 0) :
    Calls Try.prog 40 #[.agg #[.int .i64 sl, .int .i64 sr, .slice A n cap, .slice A2 kn kc]] w fun e w' => ∃ B M pt, e = .returned (.tuple #[.pointer (some ⟨B, 0, none⟩), .int .i64 0]) ∧ w.heap.size ≤ B ∧ w.heap.size ≤ M ∧ Brd w' B sl sr A n cap zs A2 kn kc ks pt (opnL n zs ks) (.map (some M)) ∧ LM w' M (fun _ => false) ∧ LyI n zs ks pt (opnL n zs ks) ∧ Below w.heap.size w w' := by
  have hsg := shg_of he
  have hzl := h.1
  have hkl := hI.1
  have hb0 := below_alloc_ w (.cells #[.int .i64 sl, .int .i64 sr, .slice A n cap, .slice A2 kn kc] 25)
  have hr0 := heap_alloc_new_ w (.cells #[.int .i64 sl, .int .i64 sr, .slice A n cap, .slice A2 kn kc] 25)
  obtain ⟨w0, hW0⟩ : ∃ w0, w.alloc (.cells #[.int .i64 sl, .int .i64 sr, .slice A n cap, .slice A2 kn kc] 25) = w0 := ⟨_, rfl⟩
  obtain ⟨R, hR⟩ : ∃ R, w.heap.size = R := ⟨_, rfl⟩
  rw [hW0] at hb0 hr0
  have k18 := checkSheet18 sl sr A n cap zs A2 kn kc ks w0 (h.below hb0 (Nat.le_refl _)) (hI.below hb0 (Nat.le_refl _)) hc9 hn hk
  rw [hR] at hr0
  rw [he] at k18
  have x0 : w0.cell? ⟨R, 0, none⟩ = some (.int .i64 sl) := by rw [cell_row hr0]; rfl
  have x1 : w0.cell? ⟨R, 1, none⟩ = some (.int .i64 sr) := by rw [cell_row hr0]; rfl
  have x2 : w0.cell? ⟨R, 2, none⟩ = some (.slice A n cap) := by rw [cell_row hr0]; rfl
  have x3 : w0.cell? ⟨R, 3, none⟩ = some (.slice A2 kn kc) := by rw [cell_row hr0]; rfl
  have K18 := Lib.hid k18
  have HB := Lib.hid hb0
  have HW0 := Lib.hid hW0
  have HR := Lib.hid hR
  have Hr0 := Lib.hid hr0
  have Hh := Lib.hid h
  have HI := Lib.hid hI
  have Hsg := Lib.hid hsg
  have Hzl := Lib.hid hzl
  have Hkl := Lib.hid hkl
  have hn40 : n ≤ 40 := by have := hsg.n40; omega
  clear h hI hb0 hr0 hW0 hR k18 he hsg
  go_enter Try.func40, Try.ntmps40
  go_wp2_with fail
  try rw [HW0.out]
  try rw [HR.out]
  try go_wp2_with fail
  refine K18.out.mono ?_
  rintro en w1 ⟨rfl, hb1⟩
  have hr1 := (hb1.block _ (lt_of_block Hr0.out)).trans Hr0.out
  have HB1 := Lib.hid (HB.out.trans (hb1.mono HB.out.size))
  clear K18 hb1 x0 x1 x2 x3
  have x0 : w1.cell? ⟨R, 0, none⟩ = some (.int .i64 sl) := by rw [cell_row hr1]; rfl
  have x1 : w1.cell? ⟨R, 1, none⟩ = some (.int .i64 sr) := by rw [cell_row hr1]; rfl
  have x2 : w1.cell? ⟨R, 2, none⟩ = some (.slice A n cap) := by rw [cell_row hr1]; rfl
  have x3 : w1.cell? ⟨R, 3, none⟩ = some (.slice A2 kn kc) := by rw [cell_row hr1]; rfl
  clear hr1
  have hmm := @run_makeMap Try.prog
  have hbd := run_bd91 sl sr A n cap A2 kn kc w1.heap.size
  go_wp2_with fail
  obtain ⟨M, hM⟩ : ∃ M, w1.heap.size = M := ⟨_, rfl⟩
  obtain ⟨w2, hw2⟩ : ∃ w2, (w1.alloc (.map #[] 0)).alloc (.cells (X0 sl sr A n cap A2 kn kc M) 91) = w2 := ⟨_, rfl⟩
  have hr2 : w2.heap[M + 1]? = some (.cells (X0 sl sr A n cap A2 kn kc M) 91 (0, 0)) := by rw [← hw2]; exact hal_new (by simp [hM])
  have hrm : w2.heap[M]? = some (.map #[] 0) := by rw [← hw2, ← hM]; exact hal_old (heap_alloc_new_ _ _)
  have hb2 : Below w1.heap.size w1 w2 := by rw [← hw2]; exact (below_alloc_ _ _).trans ((below_alloc_ _ _).mono (by simp))
  rw [hM, hw2]
  obtain ⟨B, hBM⟩ : ∃ B, M + 1 = B := ⟨_, rfl⟩
  rw [hBM] at hr2 ⊢
  have hBw : w.heap.size ≤ M := by have := HB1.out.size; omega
  have hbt : Below w.heap.size w w2 := by have h9 := HB1.out; exact h9.trans (hb2.mono h9.size)
  have Hb2 := Lib.hid (x0_brd Hh.out HI.out hbt hr2 (by omega))
  have Hm2 := Lib.hid (LM.new hrm)
  have Hbt := Lib.hid hbt
  have hkw : Keeps (fun j => j = B) w2 w2 := Keeps.refl _ _
  clear hmm hbd x0 x1 x2 x3 hr2 hrm hb2 hbt hw2 hM HB1
  go_loopw [6, 20] (fun y j wr => ∃ l : Nat, l ≤ 2 ∧ j = .int .i64 (l : Int) ∧ Hid (Brd wr B sl sr A n cap zs A2 kn kc ks (fun x => if x < l * 12 then -1 else 0) (fun _ => false) (.map (some M)) ∧ Keeps (fun j => j = B) w2 wr)) (fun y j _ => 2 - (intOf j).toNat)
  case atStart => exact ⟨0, by omega, rfl, Lib.hid ⟨by simpa using Hb2.out, Keeps.refl _ _⟩⟩
  case round =>
    obtain ⟨l, hl9, rfl, HV⟩ := hrel
    obtain ⟨wk, rfl⟩ : ∃ wk, wk = wr := ⟨_, rfl⟩
    by_cases hlt : l < 2
    · have i0 : (0 : Int) ≤ (l : Int) := by omega
      have i1 : (l : Int) < 2 := by omega
      go_wp2_with fail
      go_loopw [7, 23] (fun y j wr => ∃ i : Nat, i ≤ 12 ∧ j = .int .i64 (i : Int) ∧ Hid (Brd wr B sl sr A n cap zs A2 kn kc ks (fun x => if x < l * 12 + i then -1 else 0) (fun _ => false) (.map (some M)) ∧ Keeps (fun j => j = B) w2 wr)) (fun y j _ => 12 - (intOf j).toNat)
      case atStart => exact ⟨0, by omega, rfl, Lib.hid HV.out⟩
      case round =>
        obtain ⟨i, hi9, rfl, HU⟩ := hrel
        obtain ⟨wj, rfl⟩ : ∃ wj, wj = wr := ⟨_, rfl⟩
        by_cases hit : i < 12
        · have j0 : (0 : Int) ≤ (i : Int) := by omega
          have j1 : (i : Int) < 12 := by omega
          have f0 := HU.out.1.hp (l * 12 + i) (by omega)
          have f1 := HU.out.1.frozen (4 + (l * 12 + i))
          rw [← Nat.add_assoc] at f0 f1
          have hset := HU.out.1.setP (l * 12 + i) (-1) (by omega)
          rw [← Nat.add_assoc] at hset
          rw [show (fun j => if j = l * 12 + i then (-1 : Int) else if j < l * 12 + i then -1 else 0) = (fun x => if x < l * 12 + (i + 1) then -1 else 0) from by
            funext x
            by_cases h1 : x = l * 12 + i
            · rw [if_pos h1, if_pos (by omega)]
            · by_cases h2 : x < l * 12 + i
              · rw [if_neg h1, if_pos h2, if_pos (by omega)]
              · rw [if_neg h1, if_neg h2, if_neg (by omega)]] at hset
          have Hset := Lib.hid hset
          have Hks := Lib.hid (HU.out.2.trans (keeps_setCell wj B (4 + l * 12 + i) (.int .i64 (-1))))
          clear hset
          go_wp2_with fail
          go_roundw
          case rel => exact ⟨i + 1, by omega, by go_num, Lib.hid ⟨Hset.out, Hks.out⟩⟩
          case measure => simp [intOf]; omega
        · obtain rfl : i = 12 := by omega
          go_wp2_with fail
          go_roundw
          case rel => exact ⟨l + 1, by omega, by go_num, Lib.hid ⟨by rw [show (l + 1) * 12 = l * 12 + 12 by omega]; exact HU.out.1, HU.out.2⟩⟩
          case measure => simp [intOf]; omega
    · have hl2 : (2 : Int) ≤ (l : Int) := by omega
      obtain ⟨p0, hp0⟩ : ∃ p0 : Nat → Int, (fun x => if x < l * 12 then (-1 : Int) else 0) = p0 := ⟨_, rfl⟩
      have hp1 : ∀ j, j < 24 → p0 j = -1 := fun j hj => by rw [← hp0]; show (if _ then _ else _) = _; rw [if_pos (by omega)]
      have HV' := HV.out
      rw [hp0] at HV'
      have Hp1 := Lib.hid hp1
      have c2 := HV'.1.c2
      have HVb := Lib.hid HV'
      clear HV' HV hp0 hp1
      go_wp2_with fail
      clear c2
      go_loopw [8, 41] (fun y j wr => ∃ i : Nat, i ≤ n ∧ j = .int .i64 (i : Int) ∧ Hid (Brd wr B sl sr A n cap zs A2 kn kc ks p0 (fun x => decide (x < i)) (.map (some M)) ∧ Keeps (fun j => j = B) w2 wr)) (fun y j _ => n - (intOf j).toNat)
      case atStart => exact ⟨0, by omega, rfl, Lib.hid ⟨by simpa using HVb.out.1, HVb.out.2⟩⟩
      case round =>
        obtain ⟨i, hi9, rfl, HU⟩ := hrel
        obtain ⟨wj, rfl⟩ : ∃ wj, wj = wr := ⟨_, rfl⟩
        by_cases hit : i < n
        · have j0 : (0 : Int) ≤ (i : Int) := by omega
          have j1 : (i : Int) < (n : Int) := by omega
          have j2 : (i : Int) < 40 := by omega
          have f0 := HU.out.1.ho i (by omega)
          have f1 := HU.out.1.frozen (28 + i)
          have hset := HU.out.1.setO i true (by omega)
          rw [show (fun j => if j = i then true else decide (j < i)) = (fun x => decide (x < i + 1)) from by
            funext x
            by_cases h1 : x = i
            · rw [if_pos h1]; exact (decide_eq_true (by omega)).symm
            · rw [if_neg h1]
              by_cases h2 : x < i
              · rw [decide_eq_true h2, decide_eq_true (by omega)]
              · rw [decide_eq_false h2, decide_eq_false (by omega)]] at hset
          have Hset := Lib.hid hset
          have Hks := Lib.hid (HU.out.2.trans (keeps_setCell wj B (28 + i) (.bool true)))
          clear hset
          go_wp2_with fail
          go_roundw
          case rel => exact ⟨i + 1, by omega, by go_num, Lib.hid ⟨Hset.out, Hks.out⟩⟩
          case measure => simp [intOf]; omega
        · obtain rfl : i = n := by omega
          have c3 := HU.out.1.c3
          go_wp2_with fail
          clear c3
          go_loopw [10, 56] (fun y j wr => ∃ q : Nat, q ≤ kn ∧ j = .int .i64 (q : Int) ∧ Hid (∃ pt op, Brd wr B sl sr A i cap zs A2 kn kc ks pt op (.map (some M)) ∧ LyI i zs (ks.take q) pt op ∧ Keeps (fun j => j = B) w2 wr)) (fun y j _ => kn - (intOf j).toNat)
          case atStart => exact ⟨0, by omega, rfl, Lib.hid ⟨p0, _, HU.out.1, LyI.start (by rw [← Hzl.out]; exact Hsg.out.zok) Hp1.out, HU.out.2⟩⟩
          case round =>
            obtain ⟨q, hq9, rfl, HQ⟩ := hrel
            obtain ⟨wi, rfl⟩ : ∃ wi, wi = wr := ⟨_, rfl⟩
            by_cases hqt : q < kn
            · obtain ⟨ptq, opq, hbq, hlq, hkq⟩ := HQ.out
              obtain ⟨bz, oz, rfl, hcz⟩ := hbq.is.2 (by omega)
              have xz := hcz q hqt
              obtain ⟨k, hk, hke⟩ := Hsg.out.nm (iAt ks q) (by rw [iAt_eq (by omega)]; exact List.getElem_mem _)
              rw [Hzl.out] at hk
              rw [hke] at xz
              have hz : ZOk i zs := by rw [← Hzl.out]; exact Hsg.out.zok
              have htk : ks.take (q + 1) = ks.take q ++ [(k : Int)] := by
                rw [List.take_succ_eq_append_getElem (by omega), ← iAt_eq, hke]
              have hnm : NmOk i (ks.take q) := fun x hx => by rw [← Hzl.out]; exact Hsg.out.nm x (List.mem_of_mem_take hx)
              have hne : ∀ j : Nat, j < i → (j : Int) ∈ ks.take q → ∀ l, l < 2 → eN zs l j ≠ eN zs l k := fun j hj hm l hl => by
                obtain ⟨x, hx, hxe⟩ := List.getElem_of_mem hm
                rw [List.length_take] at hx
                rw [List.getElem_take] at hxe
                have h1 := Hsg.out.ap x q (by omega) (by omega) (by omega) l hl
                rw [hke, iAt_eq (by omega), hxe] at h1
                simpa using h1
              have hst := hlq.step hz hnm hk hne
              rw [← htk] at hst
              have k61 := know61 B sl sr A i cap zs (some ⟨bz, oz, none⟩) kn kc ks ptq opq (.map (some M)) k wi hbq hn40 hz hlq.cons.ptOk hk
              have Hst := Lib.hid hst
              have K61 := Lib.hid k61
              have Hkq := Lib.hid hkq
              have i0 : (0 : Int) ≤ (q : Int) := by omega
              have i1 : (q : Int) < (kn : Int) := by omega
              clear hbq hlq hkq hcz hke htk hnm hne hst k61 HQ hz
              go_wp2_with fail
              refine K61.out.mono ?_
              rintro en w9 ⟨C, cp, rfl, -, -, hb9, hk9⟩
              have Hb9 := Lib.hid hb9
              have Hk9 := Lib.hid (Hkq.out.trans hk9)
              clear K61 xz hb9 hk9
              go_wp2_with fail
              go_roundw
              case rel => exact ⟨q + 1, by omega, by go_num, Lib.hid ⟨_, _, Hb9.out, Hst.out, Hk9.out⟩⟩
              case measure => simp [intOf]; omega
            · obtain rfl : q = kn := by omega
              go_wp2_with fail
              go_ret2
              obtain ⟨ptq, opq, hbq, hlq, hkq⟩ := HQ.out
              rw [show ks.take q = ks from by rw [← Hkl.out]; exact List.take_length] at hlq
              obtain rfl := hlq.op
              refine ⟨B, M, ptq, rfl, by omega, hBw, hbq, Hm2.out.keep hkq (by omega), hlq, ?_⟩
              exact Hbt.out.trans (hkq.below Hbt.out.size (fun j hj e => by omega))
end Go.Proofs.Ytnodkgejggnehaa

namespace Go.Proofs.Ytnodkgejggnehaa
set_option linter.unusedSimpArgs false
set_option linter.unusedVariables false
open Go.RowKit Go.Shelf
attribute [local go_sem ↓] exec_app at_app
attribute [local go_sem] Oper.semAt_some
attribute [local go_sem ↓] exec_load91 exec_store91
/-- Numbers of known links. -/
def kNt (ks : List Int) : List Nat := ks.map Int.toNat
theorem mem_kNt {n : Nat} {ks : List Int} (hn : NmOk n ks) {k : Nat} : k ∈ kNt ks ↔ (k : Int) ∈ ks := by
  unfold kNt
  rw [List.mem_map]
  constructor
  · rintro ⟨x, hx, e⟩
    obtain ⟨q, _, rfl⟩ := hn x hx
    rw [Int.toNat_natCast] at e
    rw [← e]; exact hx
  · intro h; exact ⟨_, h, by simp⟩
theorem Shg.nodup {sl sr : Int} {zs : List Rg} {ks : List Int} (h : Shg sl sr zs ks) : (kNt ks).Nodup := by
  unfold kNt List.Nodup
  rw [List.pairwise_iff_getElem]
  intro i j hi hj hij e
  simp only [List.length_map] at hi hj
  have := h.ap i j hi hj (by omega) 0 (by omega)
  rw [iAt_eq hi, iAt_eq hj] at this
  simp only [List.getElem_map] at e
  rw [e] at this
  exact this rfl
theorem ly_gb {n : Nat} {zs : List Rg} {ks : List Int} {pt pt' : Nat → Int} (hz : ZOk n zs) (hnm : NmOk n ks) (hnd : (kNt ks).Nodup) (h : LyI n zs ks pt (opnL n zs ks)) (g : Gro n zs (opnL n zs ks) pt pt') (hk : Kon n zs (opnL n zs ks) pt') : GB n zs (opnL n zs ks) pt' (kNt ks) :=
  gb_gro hz h.cons (h.opi hz hnm) g (fun k hkn _ e => (mem_kNt hnm).2 ((h.joi k hkn).1 e)) (fun k hm => by
    have hm2 := (mem_kNt hnm).1 hm
    obtain ⟨q, hq, e⟩ := hnm _ hm2
    obtain rfl : k = q := by omega
    refine ⟨hq, ?_, (h.joi k hq).2 hm2⟩
    simp only [opnL, hq, decide_true, Bool.true_and, Bool.not_eq_false']
    exact (tkB_iff hz hnm hq).2 ⟨k, hq, hm2, mtB_refl _ _⟩) hnd hk
theorem Brd.one {W : World} {B : Nat} {sl sr : Int} {A : Option Addr} {n cap : Nat} {zs : List Rg} {A2 : Option Addr} {kn kc : Nat} {ks : List Int} {pt : Nat → Int} {op : Nat → Bool} {M : Nat} (h : Brd W B sl sr A n cap zs A2 kn kc ks pt op (.map (some M))) {X : Array Value} {t : TypeId} (hX : W.heap[B]? = some (.cells X t (0, 0))) (hs : X.size = 69) : X.all (·.oneCell') = true := by
  rw [Array.all_eq_true]
  intro i hi
  have c : ∀ o, W.cell? ⟨B, o, none⟩ = X[o]? := fun o => cell_row hX
  have e : X[i]? = some X[i] := Array.getElem?_eq_getElem hi
  have key : ∀ v, W.cell? ⟨B, i, none⟩ = some v → X[i] = v := fun v hv => by
    rw [c i, e] at hv
    exact Option.some.inj hv
  rcases (by omega : i = 0 ∨ i = 1 ∨ i = 2 ∨ i = 3 ∨ (4 ≤ i ∧ i < 28) ∨ (28 ≤ i ∧ i < 68) ∨ i = 68) with rfl | rfl | rfl | rfl | h1 | h1 | rfl
  · rw [key _ h.c0]; rfl
  · rw [key _ h.c1]; rfl
  · rw [key _ h.c2]; rfl
  · rw [key _ h.c3]; rfl
  · have := h.hp (i - 4) (by omega)
    rw [show 4 + (i - 4) = i by omega] at this
    rw [key _ this]; rfl
  · have := h.ho (i - 28) (by omega)
    rw [show 28 + (i - 28) = i by omega] at this
    rw [key _ this]; rfl
  · rw [key _ h.cm]; rfl
theorem zero91 : Try.zeroCells91.size = 69 := by kernel_rfl
/-- A board is copied. -/
theorem Brd.copy {W W' : World} {B C : Nat} {sl sr : Int} {A : Option Addr} {n cap : Nat} {zs : List Rg} {A2 : Option Addr} {kn kc : Nat} {ks : List Int} {pt : Nat → Int} {op : Nat → Bool} {mp : Value} (h : Brd W B sl sr A n cap zs A2 kn kc ks pt op mp) {X : Array Value} {t : TypeId} (hX : W.heap[B]? = some (.cells X t (0, 0))) (hs : X.size = 69) (hb : Below W.heap.size W W') (hC : W'.heap[C]? = some (.cells X 91 (0, 0))) (hCn : W.heap.size ≤ C) : Brd W' C sl sr A n cap zs A2 kn kc ks pt op mp := by
  have k : ∀ o v, W.cell? ⟨B, o, none⟩ = some v → W'.cell? ⟨C, o, none⟩ = some v := fun o v hv => by rw [cell_row hC, ← hv, cell_row hX]
  refine ⟨k _ _ h.c0, k _ _ h.c1, k _ _ h.c2, k _ _ h.c3, fun j hj => k _ _ (h.hp j hj), fun j hj => k _ _ (h.ho j hj), k _ _ h.cm, h.rs.below hb (Nat.le_refl _), h.is.below hb (Nat.le_refl _), ⟨X, hC, hs⟩, fun hn a e => ?_, fun hn a e => ?_⟩
  · obtain ⟨b, o, e2, hc⟩ := h.rs.2 hn
    rw [e] at e2; cases e2
    have := lt_of_cell (hc 0 hn).1
    show b ≠ C
    omega
  · obtain ⟨b, o, e2, hc⟩ := h.is.2 hn
    rw [e] at e2; cases e2
    have := lt_of_cell (hc 0 hn)
    show b ≠ C
    omega
set_option maxRecDepth 100000 in
set_option maxHeartbeats 4000000 in
theorem join50_bad (sl sr : Int) (A : Option Addr) (n cap : Nat) (zs : List Rg) (A2 : Option Addr) (kn kc : Nat) (ks : List Int) (w : World) (h : Rgs w A n zs) (hI : Ints w A2 kn ks) (hc9 : n ≤ cap) (hn : n ≤ 1000000) (hk : kn ≤ 100000) (he : chkS sl sr zs ks ≠ 0) :
    Calls Try.prog 50 #[.agg #[.int .i64 sl, .int .i64 sr, .slice A n cap, .slice A2 kn kc]] w fun e w' => e = .returned (.tuple #[.pointer none, .int .i64 (chkS sl sr zs ks)]) ∧ Below w.heap.size w w' := by
  have hb0 := below_alloc_ w (.cells #[.int .i64 sl, .int .i64 sr, .slice A n cap, .slice A2 kn kc] 25)
  have hr0 := heap_alloc_new_ w (.cells #[.int .i64 sl, .int .i64 sr, .slice A n cap, .slice A2 kn kc] 25)
  obtain ⟨w0, hW0⟩ : ∃ w0, w.alloc (.cells #[.int .i64 sl, .int .i64 sr, .slice A n cap, .slice A2 kn kc] 25) = w0 := ⟨_, rfl⟩
  obtain ⟨R, hR⟩ : ∃ R, w.heap.size = R := ⟨_, rfl⟩
  rw [hW0] at hb0 hr0
  have k40 := lay40_bad sl sr A n cap zs A2 kn kc ks w0 (h.below hb0 (Nat.le_refl _)) (hI.below hb0 (Nat.le_refl _)) hc9 hn hk he
  rw [hR] at hr0
  have x0 : w0.cell? ⟨R, 0, none⟩ = some (.int .i64 sl) := by rw [cell_row hr0]; rfl
  have x1 : w0.cell? ⟨R, 1, none⟩ = some (.int .i64 sr) := by rw [cell_row hr0]; rfl
  have x2 : w0.cell? ⟨R, 2, none⟩ = some (.slice A n cap) := by rw [cell_row hr0]; rfl
  have x3 : w0.cell? ⟨R, 3, none⟩ = some (.slice A2 kn kc) := by rw [cell_row hr0]; rfl
  obtain ⟨c, hc⟩ : ∃ c, chkS sl sr zs ks = c := ⟨_, rfl⟩
  rw [hc] at k40 he ⊢
  have d0 : (c != 0) = true := by rw [bne_iff_ne]; exact he
  have K40 := Lib.hid k40
  have HB := Lib.hid hb0
  have HW0 := Lib.hid hW0
  have HR := Lib.hid hR
  clear h hI hb0 hr0 hW0 hR k40 hc he
  go_enter Try.func50, Try.ntmps50
  go_wp2_with fail
  try rw [HW0.out]
  try rw [HR.out]
  try go_wp2_with fail
  refine K40.out.mono ?_
  rintro en w1 ⟨rfl, hb1⟩
  have HB1 := Lib.hid (HB.out.trans (hb1.mono HB.out.size))
  clear K40 hb1 x0 x1 x2 x3
  go_wp2_with fail
  go_ret2
  exact ⟨rfl, by first | exact HB1.out | (rw [← HR.out]; exact HB1.out)⟩
set_option maxRecDepth 100000 in
set_option maxHeartbeats 4000000 in
theorem join50 (sl sr : Int) (A : Option Addr) (n cap : Nat) (zs : List Rg) (A2 : Option Addr) (kn kc : Nat) (ks : List Int) (w : World) (h : Rgs w A n zs) (hI : Ints w A2 kn ks) (hc9 : n ≤ cap) (hn : n ≤ 1000000) (hk : kn ≤ 100000) (he : chkS sl sr zs ks = 0) :
    Calls Try.prog 50 #[.agg #[.int .i64 sl, .int .i64 sr, .slice A n cap, .slice A2 kn kc]] w fun e w' => ∃ B M pt lk, e = .returned (.tuple #[.pointer (some ⟨B, 0, none⟩), .int .i64 0]) ∧ w.heap.size ≤ B ∧ w.heap.size ≤ M ∧ Brd w' B sl sr A n cap zs A2 kn kc ks pt (opnL n zs ks) (.map (some M)) ∧ LM w' M lk ∧ GB n zs (opnL n zs ks) pt (kNt ks) ∧ Below w.heap.size w w' := by
  have hsg := shg_of he
  have hzl := h.1
  have hb0 := below_alloc_ w (.cells #[.int .i64 sl, .int .i64 sr, .slice A n cap, .slice A2 kn kc] 25)
  have hr0 := heap_alloc_new_ w (.cells #[.int .i64 sl, .int .i64 sr, .slice A n cap, .slice A2 kn kc] 25)
  obtain ⟨w0, hW0⟩ : ∃ w0, w.alloc (.cells #[.int .i64 sl, .int .i64 sr, .slice A n cap, .slice A2 kn kc] 25) = w0 := ⟨_, rfl⟩
  obtain ⟨R, hR⟩ : ∃ R, w.heap.size = R := ⟨_, rfl⟩
  rw [hW0] at hb0 hr0
  have k40 := lay40 sl sr A n cap zs A2 kn kc ks w0 (h.below hb0 (Nat.le_refl _)) (hI.below hb0 (Nat.le_refl _)) hc9 hn hk he
  rw [hR] at hr0
  have x0 : w0.cell? ⟨R, 0, none⟩ = some (.int .i64 sl) := by rw [cell_row hr0]; rfl
  have x1 : w0.cell? ⟨R, 1, none⟩ = some (.int .i64 sr) := by rw [cell_row hr0]; rfl
  have x2 : w0.cell? ⟨R, 2, none⟩ = some (.slice A n cap) := by rw [cell_row hr0]; rfl
  have x3 : w0.cell? ⟨R, 3, none⟩ = some (.slice A2 kn kc) := by rw [cell_row hr0]; rfl
  have K40 := Lib.hid k40
  have HB := Lib.hid hb0
  have HW0 := Lib.hid hW0
  have HR := Lib.hid hR
  have Hsg := Lib.hid hsg
  have Hzl := Lib.hid hzl
  clear h hI hb0 hr0 hW0 hR k40 he hsg
  go_enter Try.func50, Try.ntmps50
  go_wp2_with fail
  try rw [HW0.out]
  try rw [HR.out]
  try go_wp2_with fail
  refine K40.out.mono ?_
  rintro en w1 ⟨B, M, pt, rfl, hB, hM, hb, hm, hl, hb1⟩
  have hz : ZOk n zs := by rw [← Hzl.out]; exact Hsg.out.zok
  have hnm : NmOk n ks := by rw [← Hzl.out]; exact Hsg.out.nm
  have hn40 : n ≤ 40 := by have := Hsg.out.n40; omega
  obtain ⟨c, hc, hc12⟩ : ∃ c : Nat, sl = (c : Int) ∧ c ≤ 12 := ⟨sl.toNat, by have := Hsg.out.rng; omega, by have := Hsg.out.rng; omega⟩
  have k67 := items67 B sl sr A n cap zs A2 kn kc ks pt (opnL n zs ks) (.map (some M)) 0 c w1 hb (by omega) (by rw [if_pos rfl]; exact hc.symm) (by omega)
  have K67 := Lib.hid k67
  have Hb := Lib.hid hb
  have Hm := Lib.hid hm
  have Hl := Lib.hid hl
  have HB1 := Lib.hid (HB.out.trans (hb1.mono HB.out.size))
  have Hz := Lib.hid hz
  have Hnm := Lib.hid hnm
  have Hc := Lib.hid hc
  have HBs := Lib.hid hB
  have HMs := Lib.hid hM
  have hBM := hb.ne_map hm
  clear K40 hb1 x0 x1 x2 x3 hb hm hl k67 hz hnm hc hB hM
  go_wp2_with fail
  refine K67.out.mono ?_
  rintro en w2 ⟨⟨C, cp, rfl, hcp, hrC, hCn⟩, hb2⟩
  have hbr2 := Hb.out.below hb2 (Nat.le_refl _)
  have hlm2 := Hm.out.below hb2
  have hss : SdOk (itS 0 c) := fun s hs => by
    simp only [itS, List.mem_map, List.mem_range] at hs
    obtain ⟨i, hi, rfl⟩ := hs
    exact ⟨0, i, by omega, by omega, rfl⟩
  have HrC := Lib.hid hrC
  have k66 := grow66 B sl sr A n cap zs A2 kn kc ks (opnL n zs ks) M pt (fun _ => false) C c cp (itS 0 c) w2 hn40 Hz.out hbr2 hlm2 hrC (fun h0 a e hB => by have h1 := hCn a e; obtain ⟨X, hX, -⟩ := Hb.out.row; have := lt_of_block hX; omega) hss (by omega) Hl.out.cons (Hl.out.opi Hz.out Hnm.out)
  have K66 := Lib.hid k66
  have HB2 := Lib.hid (HB1.out.trans (hb2.mono HB1.out.size))
  clear K67 hrC hb2 hbr2 hlm2 k66 hCn hss HrC
  go_wp2_with fail
  refine K66.out.mono ?_
  rintro en w3 ⟨rfl, pt', lk', hb3, hm3, hk3, hg3, hce⟩
  have hB0 := HBs.out
  have hM0 := HMs.out
  have hgb : GB n zs (opnL n zs ks) pt' (kNt ks) := ly_gb Hz.out Hnm.out Hsg.out.nodup Hl.out hg3 (kon_left Hz.out hg3.cons hg3.opi (fun k hk hok e => by
    have h0 := Hsg.out.e0 k (by rw [Hzl.out]; exact hk)
    have hc' := Hc.out
    exact hce (eN zs 0 k) (by omega) 0 (eN zs 0 k) (itS_at (by omega)) (by omega) (Hz.out.lt hk) e))
  have h0w : w.heap.size ≤ w0.heap.size := by have := HB.out.size; have := HR.out; omega
  have HG := Lib.hid hgb
  have Hb3 := Lib.hid hb3
  have Hm3 := Lib.hid hm3
  have H3 := Lib.hid (show Below w.heap.size w w3 by
    have h1 : Below w.heap.size w w2 := HB2.out
    exact h1.trans (hk3.below h1.size (fun j hj e => by rcases e with e | e <;> omega)))
  clear K66 hb3 hm3 hk3 hg3 hce hgb
  go_wp2_with fail
  go_ret2
  exact ⟨B, M, pt', lk', rfl, by omega, by omega, Hb3.out, Hm3.out, HG.out, H3.out⟩
set_option maxRecDepth 100000 in
set_option maxHeartbeats 16000000 in
theorem with81 (B : Nat) (sl sr : Int) (A : Option Addr) (n cap : Nat) (zs : List Rg) (A2 : Option Addr) (kn kc : Nat) (ks : List Int) (pt : Nat → Int) (op : Nat → Bool) (M : Nat) (lk : Nat → Bool) (J : List Nat) (k : Nat) (w : World) (h : Brd w B sl sr A n cap zs A2 kn kc ks pt op (.map (some M))) (hm : LM w M lk) (hgb : GB n zs op pt J) (hn : n ≤ 40) (hz : ZOk n zs) (hk : k < n) (hok : op k = true) :
    Calls Try.prog 81 #[.pointer (some ⟨B, 0, none⟩), .int .i64 (k : Int)] w fun e w' => ∃ C pt' lk', e = .returned (.pointer (some ⟨C, 0, none⟩)) ∧ w.heap.size ≤ C ∧ Brd w' C sl sr A n cap zs A2 kn kc ks pt' (opW n zs op k) (.map (some M)) ∧ LM w' M lk' ∧ GB n zs (opW n zs op k) pt' (k :: J) ∧ Keeps (fun j => j = M) w w' := by
  obtain ⟨X, hX, hXs⟩ := h.row
  have hone := h.one hX hXs
  have hBw := lt_of_block hX
  have hMw := hm.lt
  have cld := run_ld91 (W := w) (B := B) hX hXs
  have Hbo := Lib.hid h
  have Hlm := Lib.hid hm
  have Hgb := Lib.hid hgb
  have Hz := Lib.hid hz
  have HX := Lib.hid hX
  have HXs := Lib.hid hXs
  have Hone := Lib.hid hone
  clear h hm hgb hz hX hXs hone
  go_enter Try.func81, Try.ntmps81
  go_wp2_with fail
  obtain ⟨w1, hw1⟩ : ∃ w1, w.alloc (.cells Try.zeroCells91 91) = w1 := ⟨_, rfl⟩
  obtain ⟨C, hC⟩ : ∃ C, w.heap.size = C := ⟨_, rfl⟩
  have hr1 : w1.heap[C]? = some (.cells Try.zeroCells91 91 (0, 0)) := by rw [← hw1, ← hC]; exact heap_alloc_new_ _ _
  have hk1 : Keeps (fun _ => False) w w1 := by rw [← hw1]; exact keep_alloc _ _ _
  rw [hw1, hC, run_st91 hr1 zero91 HXs.out Hone.out]
  have hr2 := setRow_same X hr1
  have hk2 : Keeps (fun j => j = C) w (w1.setRow C X) := hk1.none.trans (keeps_setRow w1 C X)
  obtain ⟨w2, hw2⟩ : ∃ w2, w1.setRow C X = w2 := ⟨_, rfl⟩
  rw [hw2] at hr2 hk2 ⊢
  have hb2 : Below w.heap.size w w2 := hk2.below (Nat.le_refl _) (fun j hj e => by omega)
  have hbC := Hbo.out.copy HX.out HXs.out hb2 hr2 (by omega)
  have hmC := Hlm.out.below hb2
  have HbC := Lib.hid hbC
  have HmC := Lib.hid hmC
  have Hb2 := Lib.hid hb2
  clear cld hr1 hk1 hr2 hk2 hw1 hw2 hb2 hbC hmC
  have k61 := know61 C sl sr A n cap zs A2 kn kc ks pt op (.map (some M)) k w2 HbC.out hn Hz.out Hgb.out.cons.ptOk hk
  have K61 := Lib.hid k61
  clear k61
  go_wp2_with fail
  refine K61.out.mono ?_
  rintro en w3 ⟨D, dp, rfl, hrD, hDn, hb3, hk3⟩
  rw [knw_op] at hb3
  have hm3 := HmC.out.keep hk3 (by omega)
  have k66 := grow66 C sl sr A n cap zs A2 kn kc ks (opW n zs op k) M (ptW n zs pt op k) lk D (knw zs n pt op k 2).2.2.length dp (knw zs n pt op k 2).2.2 w3 hn Hz.out hb3 hm3 hrD (fun h0 a e hB => by have h1 := hDn a e; obtain ⟨Y, hY, -⟩ := HbC.out.row; have := lt_of_block hY; omega) (knw_sd Hz.out Hgb.out.cons.ptOk hk) (by have h1 := prtL_len zs (knw zs n pt op k 0).1 (0 * 12 + eN zs 0 k); have h2 := prtL_len zs (knw zs n pt op k 1).1 (1 * 12 + eN zs 1 k); show (([] ++ _) ++ _ : List Rg).length ≤ _; simp only [List.nil_append, List.length_append]; omega) (with_cons Hz.out Hgb.out.cons hk) (with_opi Hz.out Hgb.out.cons Hgb.out.opi hk)
  clear K61 hrD hDn hb3 hm3
  have K66 := Lib.hid k66
  have Hk3 := Lib.hid hk3
  clear k66 hk3
  go_wp2_with fail
  refine K66.out.mono ?_
  rintro en w4 ⟨rfl, pt', lk', hb4, hm4, hk4, hg4, hce⟩
  have HG := Lib.hid (with_gb Hz.out Hgb.out hk hok hg4 hce)
  have Hb4 := Lib.hid hb4
  have Hm4 := Lib.hid hm4
  have Hk4 := Lib.hid (show Keeps (fun j => j = M) w w4 by
    have h1 : Keeps (fun j => j = M) w w2 := Keeps.of_new Hb2.out
    exact keeps_old3 (keeps_old3 h1 (Hk3.out.mono (fun j _ e => .inl (by omega)))) (hk4.mono (fun j _ e => by rcases e with e | e; exact .inl (by omega); exact .inr e)))
  clear K66 hb4 hm4 hk4 hg4 hce
  go_wp2_with fail
  go_ret
  exact ⟨C, pt', lk', rfl, by omega, Hb4.out, Hm4.out, HG.out, Hk4.out⟩
set_option maxRecDepth 100000 in
set_option maxHeartbeats 16000000 in
theorem without78 (B : Nat) (sl sr : Int) (A : Option Addr) (n cap : Nat) (zs : List Rg) (A2 : Option Addr) (kn kc : Nat) (ks : List Int) (pt : Nat → Int) (op : Nat → Bool) (M : Nat) (lk : Nat → Bool) (J : List Nat) (NA : Option Addr) (m mc : Nat) (ns : List Int) (w : World) (h : Brd w B sl sr A n cap zs A2 kn kc ks pt op (.map (some M))) (hm : LM w M lk) (hgb : GB n zs op pt J) (hn : n ≤ 40) (hz : ZOk n zs) (hN : Ints w NA m ns) (hm40 : m ≤ 40) (hns : NmOk n ns)
    (h1j : ∀ j k : Nat, j < n → k < n → (j : Int) ∈ ns → (k : Int) ∈ ns → pt (0 * 12 + eN zs 0 j) = (j : Int) → pt (0 * 12 + eN zs 0 k) = (k : Int) → j = k) :
    Calls Try.prog 78 #[.pointer (some ⟨B, 0, none⟩), .slice NA m mc] w fun e w' => ∃ C pt' lk', e = .returned (.pointer (some ⟨C, 0, none⟩)) ∧ w.heap.size ≤ C ∧ Brd w' C sl sr A n cap zs A2 kn kc ks pt' (opX op ns) (.map (some M)) ∧ LM w' M lk' ∧ GB n zs (opX op ns) pt' (J.filter fun k => !decide ((k : Int) ∈ ns)) ∧ Keeps (fun j => j = M) w w' := by
  have HN := Lib.hid hN
  have Hns := Lib.hid hns
  have H1j := Lib.hid h1j
  have hml := hN.1
  clear hN hns h1j
  obtain ⟨X, hX, hXs⟩ := h.row
  have hone := h.one hX hXs
  have hBw := lt_of_block hX
  have hMw := hm.lt
  have cld := run_ld91 (W := w) (B := B) hX hXs
  have Hbo := Lib.hid h
  have Hlm := Lib.hid hm
  have Hgb := Lib.hid hgb
  have Hz := Lib.hid hz
  have HX := Lib.hid hX
  have HXs := Lib.hid hXs
  have Hone := Lib.hid hone
  clear h hm hgb hz hX hXs hone
  go_enter Try.func78, Try.ntmps78
  go_wp2_with fail
  obtain ⟨w1, hw1⟩ : ∃ w1, w.alloc (.cells Try.zeroCells91 91) = w1 := ⟨_, rfl⟩
  obtain ⟨C, hC⟩ : ∃ C, w.heap.size = C := ⟨_, rfl⟩
  have hr1 : w1.heap[C]? = some (.cells Try.zeroCells91 91 (0, 0)) := by rw [← hw1, ← hC]; exact heap_alloc_new_ _ _
  have hk1 : Keeps (fun _ => False) w w1 := by rw [← hw1]; exact keep_alloc _ _ _
  rw [hw1, hC, run_st91 hr1 zero91 HXs.out Hone.out]
  have hr2 := setRow_same X hr1
  have hk2 : Keeps (fun j => j = C) w (w1.setRow C X) := hk1.none.trans (keeps_setRow w1 C X)
  obtain ⟨w2, hw2⟩ : ∃ w2, w1.setRow C X = w2 := ⟨_, rfl⟩
  rw [hw2] at hr2 hk2 ⊢
  have hb2 : Below w.heap.size w w2 := hk2.below (Nat.le_refl _) (fun j hj e => by omega)
  have hbC := Hbo.out.copy HX.out HXs.out hb2 hr2 (by omega)
  have hmC := Hlm.out.below hb2
  have HbC := Lib.hid hbC
  have HmC := Lib.hid hmC
  have Hb2 := Lib.hid hb2
  clear cld hr1 hk1 hr2 hk2 hw1 hw2 hb2 hbC hmC
  have k92 := refuse92 C sl sr A n cap zs A2 kn kc ks pt op (.map (some M)) NA m mc ns w2 HbC.out (HN.out.below Hb2.out (Nat.le_refl _)) (fun h0 a e hB => by
    obtain ⟨b, o, e2, hcell⟩ := HN.out.2 h0
    rw [e] at e2; cases e2
    have h1 := lt_of_cell (hcell 0 h0)
    change b = C at hB
    omega) hn hm40 Hz.out Hgb.out.cons.ptOk Hns.out
  have K92 := Lib.hid k92
  clear k92
  go_wp2_with fail
  refine K92.out.mono ?_
  rintro en w3 ⟨D, dp, rfl, hrD, hDn, hb3, hk3⟩
  have hrf := rfs_all (op := op) Hz.out Hgb.out.cons ns Hns.out
  rw [hrf.o] at hb3
  have hm3 := HmC.out.keep hk3 (by omega)
  have k66 := grow66 C sl sr A n cap zs A2 kn kc ks (opX op ns) M (rfs zs pt op ns).1 lk D (rfs zs pt op ns).2.2.length dp (rfs zs pt op ns).2.2 w3 hn Hz.out hb3 hm3 hrD (fun h0 a e hB => by have h1 := hDn a e; obtain ⟨Y, hY, -⟩ := HbC.out.row; have := lt_of_block hY; omega) hrf.sd (by have := rfs_len zs pt op ns; omega) (without_cons Hz.out Hgb.out.cons hrf) (without_opi Hz.out Hgb.out.cons Hgb.out.opi hrf)
  have Hrf := Lib.hid hrf
  clear K92 hrD hDn hb3 hm3 hrf
  have K66 := Lib.hid k66
  have Hk3 := Lib.hid hk3
  clear k66 hk3
  go_wp2_with fail
  refine K66.out.mono ?_
  rintro en w4 ⟨rfl, pt', lk', hb4, hm4, hk4, hg4, hce⟩
  have HG := Lib.hid (without_gb Hz.out Hgb.out Hrf.out H1j.out hg4 hce)
  have Hb4 := Lib.hid hb4
  have Hm4 := Lib.hid hm4
  have Hk4 := Lib.hid (show Keeps (fun j => j = M) w w4 by
    have h1 : Keeps (fun j => j = M) w w2 := Keeps.of_new Hb2.out
    exact keeps_old3 (keeps_old3 h1 (Hk3.out.mono (fun j _ e => .inl (by omega)))) (hk4.mono (fun j _ e => by rcases e with e | e; exact .inl (by omega); exact .inr e)))
  clear K66 hb4 hm4 hk4 hg4 hce
  go_wp2_with fail
  go_ret
  exact ⟨C, pt', lk', rfl, by omega, Hb4.out, Hm4.out, HG.out, Hk4.out⟩
end Go.Proofs.Ytnodkgejggnehaa
