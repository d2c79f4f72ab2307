/- Stage 6: whether a flow is right. -/
import Derived.Test.YtigohccehllmnaaGr
import Derived.Deep.Cut
import Derived.Deep.CutRange
namespace Go.Proofs.Ytigohccehllmnaa
set_option linter.unusedSimpArgs false
set_option linter.unusedVariables false
open Go.RowKit Go.Shelf
abbrev opRt0 : Oper := { dst := some 11, op := Go.Op.call { callee := Go.Callee.value (Go.Operand.func 49), args := #[Go.Operand.tmp 10], argTypes := #[23] }, type := 73, pos := "board.go:126", after := #[{ on := 4, ground := Go.Ground.data }], guard := none }
abbrev opRt1 : Oper := { dst := some 17, op := Go.Op.call { callee := Go.Callee.value (Go.Operand.func 49), args := #[Go.Operand.tmp 16], argTypes := #[23] }, type := 73, pos := "board.go:126", after := #[{ on := 10, ground := Go.Ground.data }, { on := 5, ground := Go.Ground.chain }], guard := none }
abbrev opRt2 : Oper := { dst := some 3, op := Go.Op.alloc 73, type := 0, pos := "board.go:126", after := #[], guard := none }
abbrev opRt3 : Oper := { dst := some 4, op := Go.Op.alloc 73, type := 0, pos := "board.go:126", after := #[], guard := none }
abbrev opRt4 : Oper := { dst := none, op := Go.Op.store 73 (Go.Operand.tmp 3) (Go.Operand.tmp 11), type := 0, pos := "board.go:126", after := #[{ on := 12, ground := Go.Ground.data }, { on := 5, ground := Go.Ground.data }, { on := 11, ground := Go.Ground.chain }, { on := 0, ground := Go.Ground.phase }, { on := 1, ground := Go.Ground.phase }, { on := 2, ground := Go.Ground.phase }, { on := 3, ground := Go.Ground.phase }, { on := 4, ground := Go.Ground.phase }, { on := 5, ground := Go.Ground.phase }, { on := 6, ground := Go.Ground.textOnly Go.Departure.lateStores }, { on := 7, ground := Go.Ground.textOnly Go.Departure.lateStores }, { on := 8, ground := Go.Ground.textOnly Go.Departure.lateStores }, { on := 9, ground := Go.Ground.textOnly Go.Departure.lateStores }, { on := 10, ground := Go.Ground.textOnly Go.Departure.lateStores }, { on := 11, ground := Go.Ground.textOnly Go.Departure.lateStoresUnsure }, { on := 12, ground := Go.Ground.phase }, { on := 13, ground := Go.Ground.phase }], guard := none }
abbrev opRt5 : Oper := { dst := none, op := Go.Op.store 73 (Go.Operand.tmp 4) (Go.Operand.tmp 17), type := 0, pos := "board.go:126", after := #[{ on := 13, ground := Go.Ground.data }, { on := 11, ground := Go.Ground.data }, { on := 14, ground := Go.Ground.chain }, { on := 0, ground := Go.Ground.phase }, { on := 1, ground := Go.Ground.phase }, { on := 2, ground := Go.Ground.phase }, { on := 3, ground := Go.Ground.phase }, { on := 4, ground := Go.Ground.phase }, { on := 5, ground := Go.Ground.phase }, { on := 6, ground := Go.Ground.phase }, { on := 7, ground := Go.Ground.phase }, { on := 8, ground := Go.Ground.phase }, { on := 9, ground := Go.Ground.phase }, { on := 10, ground := Go.Ground.phase }, { on := 11, ground := Go.Ground.phase }, { on := 12, ground := Go.Ground.phase }, { on := 13, ground := Go.Ground.phase }, { on := 14, ground := Go.Ground.phase }], guard := none }

theorem run_part2 (w : World) (p : Nat → Int) (i : Nat) (h : i < 40) : (part 2 (gV p) i).run Try.prog w = .ok (.int .i64 (p i)) w := by
  have h2 := gV_at p i h
  have hi : i < (gV p).size := by rw [gV_size]; exact h
  rw [Array.getElem?_eq_getElem hi] at h2
  simp [part, go_sem, Try.underlying2, hi, Option.some.inj h2]
theorem run_items2 (d : Nat) (p q : Nat → Int) : ∀ (is : List Nat) (w : World), (∀ i ∈ is, i < 40) → (Op.eqItems (d + 1) 2 1 (gV p) (gV q) is).run Try.prog w = .ok (is.all fun i => p i == q i) w
  | [], w, _ => by simp [Op.eqItems]
  | i :: is, w, h => by
    have h1 := run_part2 w p i (h i (by simp))
    have h2 := run_part2 w q i (h i (by simp))
    have h3 := run_equalIn_int (P := Try.prog) w d 2 .i64 .i64 (p i) (q i) Try.underlying2
    have ih := run_items2 d p q is w (fun j hj => h j (by simp [hj]))
    simp only [Op.eqItems, Sem.run_bind, Nat.mul_one, h1, h2, h3, Result.andThen_ok, List.all_cons]
    cases hq : (p i == q i)
    · simp
    · simpa using ih
theorem run_eql109 (w : World) (p q : Nat → Int) : (Op.equalIn 10000 109 (.agg (gV p)) (.agg (gV q))).run Try.prog w = .ok ((List.range 40).all fun i => p i == q i) w := by
  have hs3 : (Try.prog.info? 2).isSome = true := by kernel_rfl
  obtain ⟨i, hi⟩ := Option.isSome_iff_exists.1 hs3
  have hc : Try.prog.cellsOf 2 = 1 := by kernel_rfl
  rw [show (10000 : Nat) = 9998 + 1 + 1 from rfl, run_equalIn_array (P := Try.prog) w (9998 + 1) (gV p) (gV q) Try.underlying109 hi, hc, run_items2 9998 p q (List.range 40) w (fun i hi => by simpa using hi)]
/-- Nothing is left. -/
def rightB (b : BD) (f : Nat → Int) : Bool := (List.range 40).all fun x => outK b.zs f (fun y => !decide (y ∈ b.l.ls) && !decide (y ∈ b.l.rs)) b.l.n x == 0
theorem rightB_iff {b : BD} (hok : BdOk b) {f : Nat → Int} : rightB b f = true ↔ RightF b.l.N.toNat b.zs b.l.ls b.l.rs f := by
  have hN := hok.N
  unfold rightB RightF
  simp only [List.all_eq_true, List.mem_range, beq_iff_eq]
  have e : ∀ x : Nat, outK b.zs f (fun y => !decide (y ∈ b.l.ls) && !decide (y ∈ b.l.rs)) b.l.n x = if (x : Int) ∉ b.l.ls ∧ (x : Int) ∉ b.l.rs then outN b.zs f (x : Int) else 0 := fun x => by
    rw [← hok.zl, outK_out]
    simp
  constructor
  · intro h x hx h1 h2
    have := h x (by omega)
    rwa [e, if_pos ⟨h1, h2⟩] at this
  · intro h x hx
    rw [e]
    split
    · rename_i h2
      by_cases h3 : x < b.l.N.toNat
      · exact h x h3 h2.1 h2.2
      · unfold outN net
        rw [sumN_congr (h := fun _ => 0), sumN_zero]
        intro k hk
        have := hok.okl k hk
        show ind (decide ((lAt b.zs k).one = (x : Int))) (f k) - ind (decide ((lAt b.zs k).two = (x : Int))) (f k) = 0
        rw [show decide ((lAt b.zs k).one = (x : Int)) = false from decide_eq_false (by omega), show decide ((lAt b.zs k).two = (x : Int)) = false from decide_eq_false (by omega)]
        rfl
    · rfl
set_option maxRecDepth 100000 in
set_option maxHeartbeats 4000000 in
theorem in49b (A : Option Addr) (n cap : Nat) (w : World) :
    Calls Try.prog 49 #[.slice A n cap] w fun e w' => e = .returned (.func (.func 70) #[] #[.pointer (some ⟨w.heap.size, 0, none⟩)]) ∧ w' = w.alloc (.cells #[.slice A n cap] 23) := by
  go_enter Try.func49, Try.ntmps49
  go_wp2_with fail
  go_ret
  exact ⟨rfl, rfl⟩
theorem enters77 : ∀ args w, (callFunc 77 args).run Try.prog w = .ok (.enter 77 args) w := enters_of Try.func77 (by kernel_rfl) rfl
section
attribute [local go_sem ↓] exec_app at_app
attribute [local go_sem] Oper.semAt_some
set_option maxRecDepth 100000 in
set_option maxHeartbeats 16000000 in
theorem between77 (P3 P4 : Nat) (vl vr : Value) (p q : Int → Bool) (x : Int) (w : World) (c3 : w.cell? ⟨P3, 0, none⟩ = some vl) (c4 : w.cell? ⟨P4, 0, none⟩ = some vr) (hL : Tells w vl (fun y => y = x) p) (hR : Tells w vr (fun y => y = x) q) :
    Calls Try.prog 77 #[.int .i64 x, .pointer (some ⟨P3, 0, none⟩), .pointer (some ⟨P4, 0, none⟩)] w fun e w' => e = .returned (.bool (!p x && !q x)) ∧ Below w.heap.size w w' := by
  obtain ⟨g1, r1, l1, rfl, e1, h1⟩ := hL
  obtain ⟨g2, r2, l2, rfl, e2, h2⟩ := hR
  have k1 := Lib.hid (h1 w x rfl (Below.refl _ _))
  have H2 := Lib.hid h2
  have E2 := Lib.hid e2
  obtain ⟨j1, hj1⟩ : ∃ v, p x = v := ⟨_, rfl⟩
  rw [hj1] at k1
  have J1 := Lib.hid hj1
  have C4 := Lib.hid c4
  clear h1 h2 e2 hj1 c4
  go_enter Try.func77, Try.ntmps77
  go_wp2_with fail
  refine k1.out.mono ?_
  rintro en w1 ⟨rfl, hb⟩
  have B := Lib.hid hb
  have c4 := (hb.cell (lt_of_cell C4.out)).trans C4.out
  have k2 := H2.out w1 x rfl hb
  obtain ⟨j2, hj2⟩ : ∃ v, q x = v := ⟨_, rfl⟩
  rw [hj2] at k2
  have K2 := Lib.hid k2
  have J2 := Lib.hid hj2
  clear hb k2 hj2 k1 e1 c3
  have e2 := E2.out
  rcases j1 with _ | _
  · go_wp2_with fail
    refine K2.out.mono ?_
    rintro en w2 ⟨rfl, hb⟩
    have B2 := Lib.hid (B.out.trans (hb.mono B.out.size))
    clear hb c4 e2
    go_wp2_with fail
    go_ret
    exact ⟨by rw [J1.out, J2.out] <;> simp, B2.out⟩
  · go_wp2_with fail
    go_ret
    exact ⟨by rw [J1.out] <;> simp, B.out⟩
set_option maxRecDepth 100000 in
set_option maxHeartbeats 16000000 in
theorem isRight58 (b : BD) (f : Nat → Int) (w : World) (h : Bd w b f) (hok : BdOk b) (hf : Small b f) :
    Calls Try.prog 58 #[.pointer (some ⟨b.B, 0, none⟩)] w fun e w' => e = .returned (.bool (rightB b f)) ∧ Below w.heap.size w w' := by
  have D := Lib.hid h
  have Hok := Lib.hid hok
  have Hf := Lib.hid hf
  have c2 := h.c2
  have c3 := h.c3
  clear h hok hf
  go_enter Try.func58, Try.ntmps58
  go_upto_region 1 with fail
  go_cut [3, 4] from 6 to 17 (fun v3 v4 wx => ∃ (k3 k4 pl pr : Nat), v3 = .pointer (some ⟨k3, 0, none⟩) ∧ v4 = .pointer (some ⟨k4, 0, none⟩) ∧ wx.heap[k3]? = some (.cells #[.func (.func 70) #[] #[.pointer (some ⟨pl, 0, none⟩)]] 73 (0, 0)) ∧ wx.heap[k4]? = some (.cells #[.func (.func 70) #[] #[.pointer (some ⟨pr, 0, none⟩)]] 73 (0, 0)) ∧ wx.heap[pl]? = some (.cells #[.slice b.l.LA b.l.ln b.l.lc] 23 (0, 0)) ∧ wx.heap[pr]? = some (.cells #[.slice b.l.RA b.l.rn b.l.rc] 23 (0, 0)) ∧ Below w.heap.size w wx)
  case first =>
    refine wp_region_held_drew (S := fun w9 => Below w.heap.size w w9) (by kernel_rfl) (drew_b _ _) (fun hS0 => ?_)
    refine wpAnyH_take (i := 0) (oi := { dst := some 6, op := Go.Op.move (Go.Operand.tmp 0), type := 64, pos := "board.go:126", after := #[], guard := none }) (v := .pointer (some ⟨b.B, 0, none⟩)) rfl (by kernel_rfl) (by kernel_rfl) (by kernel_rfl) (fun _ _ _ h => h) (Or.inl ⟨by rfl, by intro w2 hSw; (try dsimp only at hSw); have q2 := (hSw.cell (lt_of_cell c2)).trans c2; have q3 := (hSw.cell (lt_of_cell c3)).trans c3; go_simp⟩) hS0 ?_
    try simp only [Act.put, List.setIfInBounds_toArray, List.set_cons_zero, List.set_cons_succ]
    refine wpAnyH_take (i := 1) (oi := { dst := some 7, op := Go.Op.nilCheck (Go.Operand.tmp 6), type := 0, pos := "board.go:126", after := #[{ on := 0, ground := Go.Ground.data }], guard := none }) (v := .pointer (some ⟨b.B, 0, none⟩)) rfl (by kernel_rfl) (by kernel_rfl) (by kernel_rfl) (fun _ _ _ h => h) (Or.inl ⟨by rfl, by intro w2 hSw; (try dsimp only at hSw); have q2 := (hSw.cell (lt_of_cell c2)).trans c2; have q3 := (hSw.cell (lt_of_cell c3)).trans c3; go_simp⟩) hS0 ?_
    try simp only [Act.put, List.setIfInBounds_toArray, List.set_cons_zero, List.set_cons_succ]
    refine wpAnyH_take (i := 2) (oi := { dst := some 8, op := Go.Op.fieldAddr 87 (Go.Operand.tmp 7) 0, type := 0, pos := "board.go:126", after := #[{ on := 1, ground := Go.Ground.data }], guard := none }) (v := .pointer (some ⟨b.B, 0, none⟩)) rfl (by kernel_rfl) (by kernel_rfl) (by kernel_rfl) (fun _ _ _ h => h) (Or.inl ⟨by rfl, by intro w2 hSw; (try dsimp only at hSw); have q2 := (hSw.cell (lt_of_cell c2)).trans c2; have q3 := (hSw.cell (lt_of_cell c3)).trans c3; go_simp⟩) hS0 ?_
    try simp only [Act.put, List.setIfInBounds_toArray, List.set_cons_zero, List.set_cons_succ]
    refine wpAnyH_take (i := 3) (oi := { dst := some 9, op := Go.Op.fieldAddr 25 (Go.Operand.tmp 8) 2, type := 0, pos := "board.go:126", after := #[{ on := 2, ground := Go.Ground.data }], guard := none }) (v := .pointer (some ⟨b.B, 2, none⟩)) rfl (by kernel_rfl) (by kernel_rfl) (by kernel_rfl) (fun _ _ _ h => h) (Or.inl ⟨by rfl, by intro w2 hSw; (try dsimp only at hSw); have q2 := (hSw.cell (lt_of_cell c2)).trans c2; have q3 := (hSw.cell (lt_of_cell c3)).trans c3; go_simp⟩) hS0 ?_
    try simp only [Act.put, List.setIfInBounds_toArray, List.set_cons_zero, List.set_cons_succ]
    refine wpAnyH_take (i := 4) (oi := { dst := some 10, op := Go.Op.load 23 (Go.Operand.tmp 9), type := 23, pos := "board.go:126", after := #[{ on := 3, ground := Go.Ground.data }], guard := none }) (v := .slice b.l.LA b.l.ln b.l.lc) rfl (by kernel_rfl) (by kernel_rfl) (by kernel_rfl) (fun _ _ _ h => h) (Or.inl ⟨by rfl, by intro w2 hSw; (try dsimp only at hSw); have q2 := (hSw.cell (lt_of_cell c2)).trans c2; have q3 := (hSw.cell (lt_of_cell c3)).trans c3; go_simp⟩) hS0 ?_
    try simp only [Act.put, List.setIfInBounds_toArray, List.set_cons_zero, List.set_cons_succ]
    refine wpAnyH_take (i := 6) (oi := { dst := some 12, op := Go.Op.move (Go.Operand.tmp 0), type := 64, pos := "board.go:126", after := #[], guard := none }) (v := .pointer (some ⟨b.B, 0, none⟩)) rfl (by kernel_rfl) (by kernel_rfl) (by kernel_rfl) (fun _ _ _ h => h) (Or.inl ⟨by rfl, by intro w2 hSw; (try dsimp only at hSw); have q2 := (hSw.cell (lt_of_cell c2)).trans c2; have q3 := (hSw.cell (lt_of_cell c3)).trans c3; go_simp⟩) hS0 ?_
    try simp only [Act.put, List.setIfInBounds_toArray, List.set_cons_zero, List.set_cons_succ]
    refine wpAnyH_take (i := 7) (oi := { dst := some 13, op := Go.Op.nilCheck (Go.Operand.tmp 12), type := 0, pos := "board.go:126", after := #[{ on := 6, ground := Go.Ground.data }], guard := none }) (v := .pointer (some ⟨b.B, 0, none⟩)) rfl (by kernel_rfl) (by kernel_rfl) (by kernel_rfl) (fun _ _ _ h => h) (Or.inl ⟨by rfl, by intro w2 hSw; (try dsimp only at hSw); have q2 := (hSw.cell (lt_of_cell c2)).trans c2; have q3 := (hSw.cell (lt_of_cell c3)).trans c3; go_simp⟩) hS0 ?_
    try simp only [Act.put, List.setIfInBounds_toArray, List.set_cons_zero, List.set_cons_succ]
    refine wpAnyH_take (i := 8) (oi := { dst := some 14, op := Go.Op.fieldAddr 87 (Go.Operand.tmp 13) 0, type := 0, pos := "board.go:126", after := #[{ on := 7, ground := Go.Ground.data }], guard := none }) (v := .pointer (some ⟨b.B, 0, none⟩)) rfl (by kernel_rfl) (by kernel_rfl) (by kernel_rfl) (fun _ _ _ h => h) (Or.inl ⟨by rfl, by intro w2 hSw; (try dsimp only at hSw); have q2 := (hSw.cell (lt_of_cell c2)).trans c2; have q3 := (hSw.cell (lt_of_cell c3)).trans c3; go_simp⟩) hS0 ?_
    try simp only [Act.put, List.setIfInBounds_toArray, List.set_cons_zero, List.set_cons_succ]
    refine wpAnyH_take (i := 9) (oi := { dst := some 15, op := Go.Op.fieldAddr 25 (Go.Operand.tmp 14) 3, type := 0, pos := "board.go:126", after := #[{ on := 8, ground := Go.Ground.data }], guard := none }) (v := .pointer (some ⟨b.B, 3, none⟩)) rfl (by kernel_rfl) (by kernel_rfl) (by kernel_rfl) (fun _ _ _ h => h) (Or.inl ⟨by rfl, by intro w2 hSw; (try dsimp only at hSw); have q2 := (hSw.cell (lt_of_cell c2)).trans c2; have q3 := (hSw.cell (lt_of_cell c3)).trans c3; go_simp⟩) hS0 ?_
    try simp only [Act.put, List.setIfInBounds_toArray, List.set_cons_zero, List.set_cons_succ]
    refine wpAnyH_take (i := 10) (oi := { dst := some 16, op := Go.Op.load 23 (Go.Operand.tmp 15), type := 23, pos := "board.go:126", after := #[{ on := 9, ground := Go.Ground.data }], guard := none }) (v := .slice b.l.RA b.l.rn b.l.rc) rfl (by kernel_rfl) (by kernel_rfl) (by kernel_rfl) (fun _ _ _ h => h) (Or.inl ⟨by rfl, by intro w2 hSw; (try dsimp only at hSw); have q2 := (hSw.cell (lt_of_cell c2)).trans c2; have q3 := (hSw.cell (lt_of_cell c3)).trans c3; go_simp⟩) hS0 ?_
    try simp only [Act.put, List.setIfInBounds_toArray, List.set_cons_zero, List.set_cons_succ]
    obtain ⟨X0, hX0⟩ : ∃ X0, w.drew = X0 := ⟨_, rfl⟩
    rw [hX0] at hS0 ⊢
    have HS_0 := Lib.hid hS0
    clear hX0 hS0 c2 c3
    refine wpAnyH_ready (rs := [5, 12, 13]) (by kernel_rfl) (by simp) ?_
    refine AllReadyH.cons (o := opRt0) rfl (fun K2 hK => ?_) ?_
    · skip
      go_simp
      refine (in49b b.l.LA b.l.ln b.l.lc X0).mono ?_
      rintro e9 w9 ⟨rfl, rfl⟩
      try go_simp
      have hbV := below_alloc_ X0 (.cells #[.slice b.l.LA b.l.ln b.l.lc] 23)
      have hrV := heap_alloc_new_ X0 (.cells #[.slice b.l.LA b.l.ln b.l.lc] 23)
      obtain ⟨X1, hW⟩ : ∃ W2, X0.alloc (.cells #[.slice b.l.LA b.l.ln b.l.lc] 23) = W2 := ⟨_, rfl⟩
      obtain ⟨PL, hKe⟩ : ∃ Kx, X0.heap.size = Kx := ⟨_, rfl⟩
      rw [hW] at hbV hrV ⊢
      have HPL := Lib.hid (show w.heap.size ≤ PL from by rw [← hKe]; exact HS_0.out.size)
      rw [hKe] at hrV ⊢
      have HS_1 := Lib.hid (HS_0.out.trans (hbV.mono HS_0.out.size))
      have HLn_1 := Lib.hid hrV
      refine hK.out _ _ HS_1.out (fun _ => ?_)
      clear hK K2 hbV hrV hW hKe
      try simp only [Act.put, List.setIfInBounds_toArray, List.set_cons_zero, List.set_cons_succ]
      refine wpAnyH_ready (rs := [11, 12, 13]) (by kernel_rfl) (by simp) ?_
      refine AllReadyH.cons (o := opRt1) rfl (fun K2 hK => ?_) ?_
      · skip
        go_simp
        refine (in49b b.l.RA b.l.rn b.l.rc X1).mono ?_
        rintro e9 w9 ⟨rfl, rfl⟩
        try go_simp
        have hbV := below_alloc_ X1 (.cells #[.slice b.l.RA b.l.rn b.l.rc] 23)
        have hrV := heap_alloc_new_ X1 (.cells #[.slice b.l.RA b.l.rn b.l.rc] 23)
        obtain ⟨X2, hW⟩ : ∃ W2, X1.alloc (.cells #[.slice b.l.RA b.l.rn b.l.rc] 23) = W2 := ⟨_, rfl⟩
        obtain ⟨PR, hKe⟩ : ∃ Kx, X1.heap.size = Kx := ⟨_, rfl⟩
        rw [hW] at hbV hrV ⊢
        have HPR := Lib.hid (show w.heap.size ≤ PR from by rw [← hKe]; exact HS_1.out.size)
        have HnPLPR := Lib.hid (show PL ≠ PR from by have := lt_of_block HLn_1.out; omega)
        rw [hKe] at hrV ⊢
        have HS_2 := Lib.hid (HS_1.out.trans (hbV.mono HS_1.out.size))
        have HL_2 := Lib.hid ((hbV.block _ (lt_of_block HLn_1.out)).trans HLn_1.out)
        have HRn_2 := Lib.hid hrV
        refine hK.out _ _ HS_2.out (fun _ => ?_)
        clear hK K2 hbV hrV hW hKe
        try simp only [Act.put, List.setIfInBounds_toArray, List.set_cons_zero, List.set_cons_succ]
        refine wpAnyH_ready (rs := [12, 13]) (by kernel_rfl) (by simp) ?_
        refine AllReadyH.cons (o := opRt2) rfl (fun K2 hK => ?_) ?_
        · skip
          go_simp
          have hbV := below_alloc_ X2 (.cells #[.nilFunc] 73)
          have hrV := heap_alloc_new_ X2 (.cells #[.nilFunc] 73)
          obtain ⟨X3, hW⟩ : ∃ W2, X2.alloc (.cells #[.nilFunc] 73) = W2 := ⟨_, rfl⟩
          obtain ⟨K3, hKe⟩ : ∃ Kx, X2.heap.size = Kx := ⟨_, rfl⟩
          rw [hW] at hbV hrV ⊢
          have HK3 := Lib.hid (show w.heap.size ≤ K3 from by rw [← hKe]; exact HS_2.out.size)
          have HnK3PL := Lib.hid (show K3 ≠ PL from by have := lt_of_block HL_2.out; omega)
          have HnK3PR := Lib.hid (show K3 ≠ PR from by have := lt_of_block HRn_2.out; omega)
          rw [hKe] at hrV ⊢
          have HS_3 := Lib.hid (HS_2.out.trans (hbV.mono HS_2.out.size))
          have HL_3 := Lib.hid ((hbV.block _ (lt_of_block HL_2.out)).trans HL_2.out)
          have HR_3 := Lib.hid ((hbV.block _ (lt_of_block HRn_2.out)).trans HRn_2.out)
          have Hr3n_3 := Lib.hid hrV
          refine hK.out _ _ HS_3.out (fun _ => ?_)
          clear hK K2 hbV hrV hW hKe
          try simp only [Act.put, List.setIfInBounds_toArray, List.set_cons_zero, List.set_cons_succ]
          refine wpAnyH_ready (rs := [13]) (by kernel_rfl) (by simp) ?_
          refine AllReadyH.cons (o := opRt3) rfl (fun K2 hK => ?_) AllReadyH.nil
          go_simp
          have hbV := below_alloc_ X3 (.cells #[.nilFunc] 73)
          have hrV := heap_alloc_new_ X3 (.cells #[.nilFunc] 73)
          obtain ⟨X4, hW⟩ : ∃ W2, X3.alloc (.cells #[.nilFunc] 73) = W2 := ⟨_, rfl⟩
          obtain ⟨K4, hKe⟩ : ∃ Kx, X3.heap.size = Kx := ⟨_, rfl⟩
          rw [hW] at hbV hrV ⊢
          have HK4 := Lib.hid (show w.heap.size ≤ K4 from by rw [← hKe]; exact HS_3.out.size)
          have HnK3K4 := Lib.hid (show K3 ≠ K4 from by have := lt_of_block Hr3n_3.out; omega)
          have HnK4PL := Lib.hid (show K4 ≠ PL from by have := lt_of_block HL_3.out; omega)
          have HnK4PR := Lib.hid (show K4 ≠ PR from by have := lt_of_block HR_3.out; omega)
          rw [hKe] at hrV ⊢
          have HS_4 := Lib.hid (HS_3.out.trans (hbV.mono HS_3.out.size))
          have Hr3_4 := Lib.hid ((hbV.block _ (lt_of_block Hr3n_3.out)).trans Hr3n_3.out)
          have HL_4 := Lib.hid ((hbV.block _ (lt_of_block HL_3.out)).trans HL_3.out)
          have HR_4 := Lib.hid ((hbV.block _ (lt_of_block HR_3.out)).trans HR_3.out)
          have Hr4n_4 := Lib.hid hrV
          refine hK.out _ _ HS_4.out (fun _ => ?_)
          clear hK K2 hbV hrV hW hKe
          try simp only [Act.put, List.setIfInBounds_toArray, List.set_cons_zero, List.set_cons_succ]
          refine wpAnyH_ready (rs := [14]) (by kernel_rfl) (by simp) ?_
          refine AllReadyH.cons (o := opRt4) rfl (fun K2 hK => ?_) AllReadyH.nil
          have hn0 := Hr3_4.out
          have w0 : X4.cell? ⟨K3, 0, none⟩ = some .nilFunc := by rw [cell_row hn0]; rfl
          have g0 : X4.frozen? ⟨K3, 0, none⟩ = false := frozen_row hn0
          go_simp
          have hk3 := keeps_setCell X4 K3 0 (.func (.func 70) #[] #[.pointer (some ⟨PL, 0, none⟩)])
          have hrow2 := set_same 0 (.func (.func 70) #[] #[.pointer (some ⟨PL, 0, none⟩)]) hn0
          obtain ⟨Y14, hV2⟩ : ∃ V2, X4.setCell ⟨K3, 0, none⟩ (.func (.func 70) #[] #[.pointer (some ⟨PL, 0, none⟩)]) = V2 := ⟨_, rfl⟩
          rw [hV2] at hk3 hrow2 ⊢
          have HSY14 := Lib.hid (HS_4.out.trans (hk3.below HS_4.out.size (fun q hq e => by have e : q = K3 := e; have := HK3.out; omega)))
          have Hr4_Y14 := Lib.hid ((hk3.block _ (lt_of_block Hr4n_4.out) (fun e => by have e : K4 = K3 := e; have := HnK3K4.out; omega)).trans Hr4n_4.out)
          have HL_Y14 := Lib.hid ((hk3.block _ (lt_of_block HL_4.out) (fun e => by have e : PL = K3 := e; have := HnK3PL.out; omega)).trans HL_4.out)
          have HR_Y14 := Lib.hid ((hk3.block _ (lt_of_block HR_4.out) (fun e => by have e : PR = K3 := e; have := HnK3PR.out; omega)).trans HR_4.out)
          have Hr3_Y14 := Lib.hid hrow2
          clear hk3 hrow2 hV2 w0 g0 hn0
          refine hK.out _ _ HSY14.out (fun _ => ?_)
          clear hK K2
          try simp only [Act.put, List.setIfInBounds_toArray, List.set_cons_zero, List.set_cons_succ]
          refine wpAnyH_ready (rs := [15]) (by kernel_rfl) (by simp) ?_
          refine AllReadyH.cons (o := opRt5) rfl (fun K2 hK => ?_) AllReadyH.nil
          have hn0 := Hr4_Y14.out
          have w0 : Y14.cell? ⟨K4, 0, none⟩ = some .nilFunc := by rw [cell_row hn0]; rfl
          have g0 : Y14.frozen? ⟨K4, 0, none⟩ = false := frozen_row hn0
          go_simp
          have hk3 := keeps_setCell Y14 K4 0 (.func (.func 70) #[] #[.pointer (some ⟨PR, 0, none⟩)])
          have hrow2 := set_same 0 (.func (.func 70) #[] #[.pointer (some ⟨PR, 0, none⟩)]) hn0
          obtain ⟨Y15, hV2⟩ : ∃ V2, Y14.setCell ⟨K4, 0, none⟩ (.func (.func 70) #[] #[.pointer (some ⟨PR, 0, none⟩)]) = V2 := ⟨_, rfl⟩
          rw [hV2] at hk3 hrow2 ⊢
          have HSY15 := Lib.hid (HSY14.out.trans (hk3.below HSY14.out.size (fun q hq e => by have e : q = K4 := e; have := HK4.out; omega)))
          have Hr3_Y15 := Lib.hid ((hk3.block _ (lt_of_block Hr3_Y14.out) (fun e => by have e : K3 = K4 := e; have := HnK3K4.out; omega)).trans Hr3_Y14.out)
          have HL_Y15 := Lib.hid ((hk3.block _ (lt_of_block HL_Y14.out) (fun e => by have e : PL = K4 := e; have := HnK4PL.out; omega)).trans HL_Y14.out)
          have HR_Y15 := Lib.hid ((hk3.block _ (lt_of_block HR_Y14.out) (fun e => by have e : PR = K4 := e; have := HnK4PR.out; omega)).trans HR_Y14.out)
          have Hr4_Y15 := Lib.hid hrow2
          clear hk3 hrow2 hV2 w0 g0 hn0
          refine hK.out _ _ HSY15.out (fun _ => ?_)
          clear hK K2
          try simp only [Act.put, List.setIfInBounds_toArray, List.set_cons_zero, List.set_cons_succ]
          refine wpAnyH_done (by kernel_rfl) ?_ _
          go_wp2_with fail
          go_meet
          case rel => exact ⟨K3, K4, PL, PR, rfl, rfl, Hr3_Y15.out, Hr4_Y15.out, HL_Y15.out, HR_Y15.out, HSY15.out⟩
        refine AllReadyH.cons (o := opRt3) rfl (fun K2 hK => ?_) AllReadyH.nil
        go_simp
        have hbV := below_alloc_ X2 (.cells #[.nilFunc] 73)
        have hrV := heap_alloc_new_ X2 (.cells #[.nilFunc] 73)
        obtain ⟨X5, hW⟩ : ∃ W2, X2.alloc (.cells #[.nilFunc] 73) = W2 := ⟨_, rfl⟩
        obtain ⟨K4, hKe⟩ : ∃ Kx, X2.heap.size = Kx := ⟨_, rfl⟩
        rw [hW] at hbV hrV ⊢
        have HK4 := Lib.hid (show w.heap.size ≤ K4 from by rw [← hKe]; exact HS_2.out.size)
        have HnK4PL := Lib.hid (show K4 ≠ PL from by have := lt_of_block HL_2.out; omega)
        have HnK4PR := Lib.hid (show K4 ≠ PR from by have := lt_of_block HRn_2.out; omega)
        rw [hKe] at hrV ⊢
        have HS_5 := Lib.hid (HS_2.out.trans (hbV.mono HS_2.out.size))
        have HL_5 := Lib.hid ((hbV.block _ (lt_of_block HL_2.out)).trans HL_2.out)
        have HR_5 := Lib.hid ((hbV.block _ (lt_of_block HRn_2.out)).trans HRn_2.out)
        have Hr4n_5 := Lib.hid hrV
        refine hK.out _ _ HS_5.out (fun _ => ?_)
        clear hK K2 hbV hrV hW hKe
        try simp only [Act.put, List.setIfInBounds_toArray, List.set_cons_zero, List.set_cons_succ]
        refine wpAnyH_ready (rs := [12]) (by kernel_rfl) (by simp) ?_
        refine AllReadyH.cons (o := opRt2) rfl (fun K2 hK => ?_) AllReadyH.nil
        go_simp
        have hbV := below_alloc_ X5 (.cells #[.nilFunc] 73)
        have hrV := heap_alloc_new_ X5 (.cells #[.nilFunc] 73)
        obtain ⟨X6, hW⟩ : ∃ W2, X5.alloc (.cells #[.nilFunc] 73) = W2 := ⟨_, rfl⟩
        obtain ⟨K3, hKe⟩ : ∃ Kx, X5.heap.size = Kx := ⟨_, rfl⟩
        rw [hW] at hbV hrV ⊢
        have HK3 := Lib.hid (show w.heap.size ≤ K3 from by rw [← hKe]; exact HS_5.out.size)
        have HnK3K4 := Lib.hid (show K3 ≠ K4 from by have := lt_of_block Hr4n_5.out; omega)
        have HnK3PL := Lib.hid (show K3 ≠ PL from by have := lt_of_block HL_5.out; omega)
        have HnK3PR := Lib.hid (show K3 ≠ PR from by have := lt_of_block HR_5.out; omega)
        rw [hKe] at hrV ⊢
        have HS_6 := Lib.hid (HS_5.out.trans (hbV.mono HS_5.out.size))
        have Hr4_6 := Lib.hid ((hbV.block _ (lt_of_block Hr4n_5.out)).trans Hr4n_5.out)
        have HL_6 := Lib.hid ((hbV.block _ (lt_of_block HL_5.out)).trans HL_5.out)
        have HR_6 := Lib.hid ((hbV.block _ (lt_of_block HR_5.out)).trans HR_5.out)
        have Hr3n_6 := Lib.hid hrV
        refine hK.out _ _ HS_6.out (fun _ => ?_)
        clear hK K2 hbV hrV hW hKe
        try simp only [Act.put, List.setIfInBounds_toArray, List.set_cons_zero, List.set_cons_succ]
        refine wpAnyH_ready (rs := [14]) (by kernel_rfl) (by simp) ?_
        refine AllReadyH.cons (o := opRt4) rfl (fun K2 hK => ?_) AllReadyH.nil
        have hn0 := Hr3n_6.out
        have w0 : X6.cell? ⟨K3, 0, none⟩ = some .nilFunc := by rw [cell_row hn0]; rfl
        have g0 : X6.frozen? ⟨K3, 0, none⟩ = false := frozen_row hn0
        go_simp
        have hk3 := keeps_setCell X6 K3 0 (.func (.func 70) #[] #[.pointer (some ⟨PL, 0, none⟩)])
        have hrow2 := set_same 0 (.func (.func 70) #[] #[.pointer (some ⟨PL, 0, none⟩)]) hn0
        obtain ⟨Y14, hV2⟩ : ∃ V2, X6.setCell ⟨K3, 0, none⟩ (.func (.func 70) #[] #[.pointer (some ⟨PL, 0, none⟩)]) = V2 := ⟨_, rfl⟩
        rw [hV2] at hk3 hrow2 ⊢
        have HSY14 := Lib.hid (HS_6.out.trans (hk3.below HS_6.out.size (fun q hq e => by have e : q = K3 := e; have := HK3.out; omega)))
        have Hr4_Y14 := Lib.hid ((hk3.block _ (lt_of_block Hr4_6.out) (fun e => by have e : K4 = K3 := e; have := HnK3K4.out; omega)).trans Hr4_6.out)
        have HL_Y14 := Lib.hid ((hk3.block _ (lt_of_block HL_6.out) (fun e => by have e : PL = K3 := e; have := HnK3PL.out; omega)).trans HL_6.out)
        have HR_Y14 := Lib.hid ((hk3.block _ (lt_of_block HR_6.out) (fun e => by have e : PR = K3 := e; have := HnK3PR.out; omega)).trans HR_6.out)
        have Hr3_Y14 := Lib.hid hrow2
        clear hk3 hrow2 hV2 w0 g0 hn0
        refine hK.out _ _ HSY14.out (fun _ => ?_)
        clear hK K2
        try simp only [Act.put, List.setIfInBounds_toArray, List.set_cons_zero, List.set_cons_succ]
        refine wpAnyH_ready (rs := [15]) (by kernel_rfl) (by simp) ?_
        refine AllReadyH.cons (o := opRt5) rfl (fun K2 hK => ?_) AllReadyH.nil
        have hn0 := Hr4_Y14.out
        have w0 : Y14.cell? ⟨K4, 0, none⟩ = some .nilFunc := by rw [cell_row hn0]; rfl
        have g0 : Y14.frozen? ⟨K4, 0, none⟩ = false := frozen_row hn0
        go_simp
        have hk3 := keeps_setCell Y14 K4 0 (.func (.func 70) #[] #[.pointer (some ⟨PR, 0, none⟩)])
        have hrow2 := set_same 0 (.func (.func 70) #[] #[.pointer (some ⟨PR, 0, none⟩)]) hn0
        obtain ⟨Y15, hV2⟩ : ∃ V2, Y14.setCell ⟨K4, 0, none⟩ (.func (.func 70) #[] #[.pointer (some ⟨PR, 0, none⟩)]) = V2 := ⟨_, rfl⟩
        rw [hV2] at hk3 hrow2 ⊢
        have HSY15 := Lib.hid (HSY14.out.trans (hk3.below HSY14.out.size (fun q hq e => by have e : q = K4 := e; have := HK4.out; omega)))
        have Hr3_Y15 := Lib.hid ((hk3.block _ (lt_of_block Hr3_Y14.out) (fun e => by have e : K3 = K4 := e; have := HnK3K4.out; omega)).trans Hr3_Y14.out)
        have HL_Y15 := Lib.hid ((hk3.block _ (lt_of_block HL_Y14.out) (fun e => by have e : PL = K4 := e; have := HnK4PL.out; omega)).trans HL_Y14.out)
        have HR_Y15 := Lib.hid ((hk3.block _ (lt_of_block HR_Y14.out) (fun e => by have e : PR = K4 := e; have := HnK4PR.out; omega)).trans HR_Y14.out)
        have Hr4_Y15 := Lib.hid hrow2
        clear hk3 hrow2 hV2 w0 g0 hn0
        refine hK.out _ _ HSY15.out (fun _ => ?_)
        clear hK K2
        try simp only [Act.put, List.setIfInBounds_toArray, List.set_cons_zero, List.set_cons_succ]
        refine wpAnyH_done (by kernel_rfl) ?_ _
        go_wp2_with fail
        go_meet
        case rel => exact ⟨K3, K4, PL, PR, rfl, rfl, Hr3_Y15.out, Hr4_Y15.out, HL_Y15.out, HR_Y15.out, HSY15.out⟩
      refine AllReadyH.cons (o := opRt2) rfl (fun K2 hK => ?_) ?_
      · skip
        go_simp
        have hbV := below_alloc_ X1 (.cells #[.nilFunc] 73)
        have hrV := heap_alloc_new_ X1 (.cells #[.nilFunc] 73)
        obtain ⟨X7, hW⟩ : ∃ W2, X1.alloc (.cells #[.nilFunc] 73) = W2 := ⟨_, rfl⟩
        obtain ⟨K3, hKe⟩ : ∃ Kx, X1.heap.size = Kx := ⟨_, rfl⟩
        rw [hW] at hbV hrV ⊢
        have HK3 := Lib.hid (show w.heap.size ≤ K3 from by rw [← hKe]; exact HS_1.out.size)
        have HnK3PL := Lib.hid (show K3 ≠ PL from by have := lt_of_block HLn_1.out; omega)
        rw [hKe] at hrV ⊢
        have HS_7 := Lib.hid (HS_1.out.trans (hbV.mono HS_1.out.size))
        have HL_7 := Lib.hid ((hbV.block _ (lt_of_block HLn_1.out)).trans HLn_1.out)
        have Hr3n_7 := Lib.hid hrV
        refine hK.out _ _ HS_7.out (fun _ => ?_)
        clear hK K2 hbV hrV hW hKe
        try simp only [Act.put, List.setIfInBounds_toArray, List.set_cons_zero, List.set_cons_succ]
        refine wpAnyH_ready (rs := [11, 13]) (by kernel_rfl) (by simp) ?_
        refine AllReadyH.cons (o := opRt1) rfl (fun K2 hK => ?_) ?_
        · skip
          go_simp
          refine (in49b b.l.RA b.l.rn b.l.rc X7).mono ?_
          rintro e9 w9 ⟨rfl, rfl⟩
          try go_simp
          have hbV := below_alloc_ X7 (.cells #[.slice b.l.RA b.l.rn b.l.rc] 23)
          have hrV := heap_alloc_new_ X7 (.cells #[.slice b.l.RA b.l.rn b.l.rc] 23)
          obtain ⟨X8, hW⟩ : ∃ W2, X7.alloc (.cells #[.slice b.l.RA b.l.rn b.l.rc] 23) = W2 := ⟨_, rfl⟩
          obtain ⟨PR, hKe⟩ : ∃ Kx, X7.heap.size = Kx := ⟨_, rfl⟩
          rw [hW] at hbV hrV ⊢
          have HPR := Lib.hid (show w.heap.size ≤ PR from by rw [← hKe]; exact HS_7.out.size)
          have HnK3PR := Lib.hid (show K3 ≠ PR from by have := lt_of_block Hr3n_7.out; omega)
          have HnPLPR := Lib.hid (show PL ≠ PR from by have := lt_of_block HL_7.out; omega)
          rw [hKe] at hrV ⊢
          have HS_8 := Lib.hid (HS_7.out.trans (hbV.mono HS_7.out.size))
          have Hr3_8 := Lib.hid ((hbV.block _ (lt_of_block Hr3n_7.out)).trans Hr3n_7.out)
          have HL_8 := Lib.hid ((hbV.block _ (lt_of_block HL_7.out)).trans HL_7.out)
          have HRn_8 := Lib.hid hrV
          refine hK.out _ _ HS_8.out (fun _ => ?_)
          clear hK K2 hbV hrV hW hKe
          try simp only [Act.put, List.setIfInBounds_toArray, List.set_cons_zero, List.set_cons_succ]
          refine wpAnyH_ready (rs := [13]) (by kernel_rfl) (by simp) ?_
          refine AllReadyH.cons (o := opRt3) rfl (fun K2 hK => ?_) AllReadyH.nil
          go_simp
          have hbV := below_alloc_ X8 (.cells #[.nilFunc] 73)
          have hrV := heap_alloc_new_ X8 (.cells #[.nilFunc] 73)
          obtain ⟨X9, hW⟩ : ∃ W2, X8.alloc (.cells #[.nilFunc] 73) = W2 := ⟨_, rfl⟩
          obtain ⟨K4, hKe⟩ : ∃ Kx, X8.heap.size = Kx := ⟨_, rfl⟩
          rw [hW] at hbV hrV ⊢
          have HK4 := Lib.hid (show w.heap.size ≤ K4 from by rw [← hKe]; exact HS_8.out.size)
          have HnK3K4 := Lib.hid (show K3 ≠ K4 from by have := lt_of_block Hr3_8.out; omega)
          have HnK4PL := Lib.hid (show K4 ≠ PL from by have := lt_of_block HL_8.out; omega)
          have HnK4PR := Lib.hid (show K4 ≠ PR from by have := lt_of_block HRn_8.out; omega)
          rw [hKe] at hrV ⊢
          have HS_9 := Lib.hid (HS_8.out.trans (hbV.mono HS_8.out.size))
          have Hr3_9 := Lib.hid ((hbV.block _ (lt_of_block Hr3_8.out)).trans Hr3_8.out)
          have HL_9 := Lib.hid ((hbV.block _ (lt_of_block HL_8.out)).trans HL_8.out)
          have HR_9 := Lib.hid ((hbV.block _ (lt_of_block HRn_8.out)).trans HRn_8.out)
          have Hr4n_9 := Lib.hid hrV
          refine hK.out _ _ HS_9.out (fun _ => ?_)
          clear hK K2 hbV hrV hW hKe
          try simp only [Act.put, List.setIfInBounds_toArray, List.set_cons_zero, List.set_cons_succ]
          refine wpAnyH_ready (rs := [14]) (by kernel_rfl) (by simp) ?_
          refine AllReadyH.cons (o := opRt4) rfl (fun K2 hK => ?_) AllReadyH.nil
          have hn0 := Hr3_9.out
          have w0 : X9.cell? ⟨K3, 0, none⟩ = some .nilFunc := by rw [cell_row hn0]; rfl
          have g0 : X9.frozen? ⟨K3, 0, none⟩ = false := frozen_row hn0
          go_simp
          have hk3 := keeps_setCell X9 K3 0 (.func (.func 70) #[] #[.pointer (some ⟨PL, 0, none⟩)])
          have hrow2 := set_same 0 (.func (.func 70) #[] #[.pointer (some ⟨PL, 0, none⟩)]) hn0
          obtain ⟨Y14, hV2⟩ : ∃ V2, X9.setCell ⟨K3, 0, none⟩ (.func (.func 70) #[] #[.pointer (some ⟨PL, 0, none⟩)]) = V2 := ⟨_, rfl⟩
          rw [hV2] at hk3 hrow2 ⊢
          have HSY14 := Lib.hid (HS_9.out.trans (hk3.below HS_9.out.size (fun q hq e => by have e : q = K3 := e; have := HK3.out; omega)))
          have Hr4_Y14 := Lib.hid ((hk3.block _ (lt_of_block Hr4n_9.out) (fun e => by have e : K4 = K3 := e; have := HnK3K4.out; omega)).trans Hr4n_9.out)
          have HL_Y14 := Lib.hid ((hk3.block _ (lt_of_block HL_9.out) (fun e => by have e : PL = K3 := e; have := HnK3PL.out; omega)).trans HL_9.out)
          have HR_Y14 := Lib.hid ((hk3.block _ (lt_of_block HR_9.out) (fun e => by have e : PR = K3 := e; have := HnK3PR.out; omega)).trans HR_9.out)
          have Hr3_Y14 := Lib.hid hrow2
          clear hk3 hrow2 hV2 w0 g0 hn0
          refine hK.out _ _ HSY14.out (fun _ => ?_)
          clear hK K2
          try simp only [Act.put, List.setIfInBounds_toArray, List.set_cons_zero, List.set_cons_succ]
          refine wpAnyH_ready (rs := [15]) (by kernel_rfl) (by simp) ?_
          refine AllReadyH.cons (o := opRt5) rfl (fun K2 hK => ?_) AllReadyH.nil
          have hn0 := Hr4_Y14.out
          have w0 : Y14.cell? ⟨K4, 0, none⟩ = some .nilFunc := by rw [cell_row hn0]; rfl
          have g0 : Y14.frozen? ⟨K4, 0, none⟩ = false := frozen_row hn0
          go_simp
          have hk3 := keeps_setCell Y14 K4 0 (.func (.func 70) #[] #[.pointer (some ⟨PR, 0, none⟩)])
          have hrow2 := set_same 0 (.func (.func 70) #[] #[.pointer (some ⟨PR, 0, none⟩)]) hn0
          obtain ⟨Y15, hV2⟩ : ∃ V2, Y14.setCell ⟨K4, 0, none⟩ (.func (.func 70) #[] #[.pointer (some ⟨PR, 0, none⟩)]) = V2 := ⟨_, rfl⟩
          rw [hV2] at hk3 hrow2 ⊢
          have HSY15 := Lib.hid (HSY14.out.trans (hk3.below HSY14.out.size (fun q hq e => by have e : q = K4 := e; have := HK4.out; omega)))
          have Hr3_Y15 := Lib.hid ((hk3.block _ (lt_of_block Hr3_Y14.out) (fun e => by have e : K3 = K4 := e; have := HnK3K4.out; omega)).trans Hr3_Y14.out)
          have HL_Y15 := Lib.hid ((hk3.block _ (lt_of_block HL_Y14.out) (fun e => by have e : PL = K4 := e; have := HnK4PL.out; omega)).trans HL_Y14.out)
          have HR_Y15 := Lib.hid ((hk3.block _ (lt_of_block HR_Y14.out) (fun e => by have e : PR = K4 := e; have := HnK4PR.out; omega)).trans HR_Y14.out)
          have Hr4_Y15 := Lib.hid hrow2
          clear hk3 hrow2 hV2 w0 g0 hn0
          refine hK.out _ _ HSY15.out (fun _ => ?_)
          clear hK K2
          try simp only [Act.put, List.setIfInBounds_toArray, List.set_cons_zero, List.set_cons_succ]
          refine wpAnyH_done (by kernel_rfl) ?_ _
          go_wp2_with fail
          go_meet
          case rel => exact ⟨K3, K4, PL, PR, rfl, rfl, Hr3_Y15.out, Hr4_Y15.out, HL_Y15.out, HR_Y15.out, HSY15.out⟩
        refine AllReadyH.cons (o := opRt3) rfl (fun K2 hK => ?_) AllReadyH.nil
        go_simp
        have hbV := below_alloc_ X7 (.cells #[.nilFunc] 73)
        have hrV := heap_alloc_new_ X7 (.cells #[.nilFunc] 73)
        obtain ⟨X10, hW⟩ : ∃ W2, X7.alloc (.cells #[.nilFunc] 73) = W2 := ⟨_, rfl⟩
        obtain ⟨K4, hKe⟩ : ∃ Kx, X7.heap.size = Kx := ⟨_, rfl⟩
        rw [hW] at hbV hrV ⊢
        have HK4 := Lib.hid (show w.heap.size ≤ K4 from by rw [← hKe]; exact HS_7.out.size)
        have HnK3K4 := Lib.hid (show K3 ≠ K4 from by have := lt_of_block Hr3n_7.out; omega)
        have HnK4PL := Lib.hid (show K4 ≠ PL from by have := lt_of_block HL_7.out; omega)
        rw [hKe] at hrV ⊢
        have HS_10 := Lib.hid (HS_7.out.trans (hbV.mono HS_7.out.size))
        have Hr3_10 := Lib.hid ((hbV.block _ (lt_of_block Hr3n_7.out)).trans Hr3n_7.out)
        have HL_10 := Lib.hid ((hbV.block _ (lt_of_block HL_7.out)).trans HL_7.out)
        have Hr4n_10 := Lib.hid hrV
        refine hK.out _ _ HS_10.out (fun _ => ?_)
        clear hK K2 hbV hrV hW hKe
        try simp only [Act.put, List.setIfInBounds_toArray, List.set_cons_zero, List.set_cons_succ]
        refine wpAnyH_ready (rs := [11]) (by kernel_rfl) (by simp) ?_
        refine AllReadyH.cons (o := opRt1) rfl (fun K2 hK => ?_) AllReadyH.nil
        go_simp
        refine (in49b b.l.RA b.l.rn b.l.rc X10).mono ?_
        rintro e9 w9 ⟨rfl, rfl⟩
        try go_simp
        have hbV := below_alloc_ X10 (.cells #[.slice b.l.RA b.l.rn b.l.rc] 23)
        have hrV := heap_alloc_new_ X10 (.cells #[.slice b.l.RA b.l.rn b.l.rc] 23)
        obtain ⟨X11, hW⟩ : ∃ W2, X10.alloc (.cells #[.slice b.l.RA b.l.rn b.l.rc] 23) = W2 := ⟨_, rfl⟩
        obtain ⟨PR, hKe⟩ : ∃ Kx, X10.heap.size = Kx := ⟨_, rfl⟩
        rw [hW] at hbV hrV ⊢
        have HPR := Lib.hid (show w.heap.size ≤ PR from by rw [← hKe]; exact HS_10.out.size)
        have HnK3PR := Lib.hid (show K3 ≠ PR from by have := lt_of_block Hr3_10.out; omega)
        have HnK4PR := Lib.hid (show K4 ≠ PR from by have := lt_of_block Hr4n_10.out; omega)
        have HnPLPR := Lib.hid (show PL ≠ PR from by have := lt_of_block HL_10.out; omega)
        rw [hKe] at hrV ⊢
        have HS_11 := Lib.hid (HS_10.out.trans (hbV.mono HS_10.out.size))
        have Hr3_11 := Lib.hid ((hbV.block _ (lt_of_block Hr3_10.out)).trans Hr3_10.out)
        have Hr4_11 := Lib.hid ((hbV.block _ (lt_of_block Hr4n_10.out)).trans Hr4n_10.out)
        have HL_11 := Lib.hid ((hbV.block _ (lt_of_block HL_10.out)).trans HL_10.out)
        have HRn_11 := Lib.hid hrV
        refine hK.out _ _ HS_11.out (fun _ => ?_)
        clear hK K2 hbV hrV hW hKe
        try simp only [Act.put, List.setIfInBounds_toArray, List.set_cons_zero, List.set_cons_succ]
        refine wpAnyH_ready (rs := [14]) (by kernel_rfl) (by simp) ?_
        refine AllReadyH.cons (o := opRt4) rfl (fun K2 hK => ?_) AllReadyH.nil
        have hn0 := Hr3_11.out
        have w0 : X11.cell? ⟨K3, 0, none⟩ = some .nilFunc := by rw [cell_row hn0]; rfl
        have g0 : X11.frozen? ⟨K3, 0, none⟩ = false := frozen_row hn0
        go_simp
        have hk3 := keeps_setCell X11 K3 0 (.func (.func 70) #[] #[.pointer (some ⟨PL, 0, none⟩)])
        have hrow2 := set_same 0 (.func (.func 70) #[] #[.pointer (some ⟨PL, 0, none⟩)]) hn0
        obtain ⟨Y14, hV2⟩ : ∃ V2, X11.setCell ⟨K3, 0, none⟩ (.func (.func 70) #[] #[.pointer (some ⟨PL, 0, none⟩)]) = V2 := ⟨_, rfl⟩
        rw [hV2] at hk3 hrow2 ⊢
        have HSY14 := Lib.hid (HS_11.out.trans (hk3.below HS_11.out.size (fun q hq e => by have e : q = K3 := e; have := HK3.out; omega)))
        have Hr4_Y14 := Lib.hid ((hk3.block _ (lt_of_block Hr4_11.out) (fun e => by have e : K4 = K3 := e; have := HnK3K4.out; omega)).trans Hr4_11.out)
        have HL_Y14 := Lib.hid ((hk3.block _ (lt_of_block HL_11.out) (fun e => by have e : PL = K3 := e; have := HnK3PL.out; omega)).trans HL_11.out)
        have HR_Y14 := Lib.hid ((hk3.block _ (lt_of_block HRn_11.out) (fun e => by have e : PR = K3 := e; have := HnK3PR.out; omega)).trans HRn_11.out)
        have Hr3_Y14 := Lib.hid hrow2
        clear hk3 hrow2 hV2 w0 g0 hn0
        refine hK.out _ _ HSY14.out (fun _ => ?_)
        clear hK K2
        try simp only [Act.put, List.setIfInBounds_toArray, List.set_cons_zero, List.set_cons_succ]
        refine wpAnyH_ready (rs := [15]) (by kernel_rfl) (by simp) ?_
        refine AllReadyH.cons (o := opRt5) rfl (fun K2 hK => ?_) AllReadyH.nil
        have hn0 := Hr4_Y14.out
        have w0 : Y14.cell? ⟨K4, 0, none⟩ = some .nilFunc := by rw [cell_row hn0]; rfl
        have g0 : Y14.frozen? ⟨K4, 0, none⟩ = false := frozen_row hn0
        go_simp
        have hk3 := keeps_setCell Y14 K4 0 (.func (.func 70) #[] #[.pointer (some ⟨PR, 0, none⟩)])
        have hrow2 := set_same 0 (.func (.func 70) #[] #[.pointer (some ⟨PR, 0, none⟩)]) hn0
        obtain ⟨Y15, hV2⟩ : ∃ V2, Y14.setCell ⟨K4, 0, none⟩ (.func (.func 70) #[] #[.pointer (some ⟨PR, 0, none⟩)]) = V2 := ⟨_, rfl⟩
        rw [hV2] at hk3 hrow2 ⊢
        have HSY15 := Lib.hid (HSY14.out.trans (hk3.below HSY14.out.size (fun q hq e => by have e : q = K4 := e; have := HK4.out; omega)))
        have Hr3_Y15 := Lib.hid ((hk3.block _ (lt_of_block Hr3_Y14.out) (fun e => by have e : K3 = K4 := e; have := HnK3K4.out; omega)).trans Hr3_Y14.out)
        have HL_Y15 := Lib.hid ((hk3.block _ (lt_of_block HL_Y14.out) (fun e => by have e : PL = K4 := e; have := HnK4PL.out; omega)).trans HL_Y14.out)
        have HR_Y15 := Lib.hid ((hk3.block _ (lt_of_block HR_Y14.out) (fun e => by have e : PR = K4 := e; have := HnK4PR.out; omega)).trans HR_Y14.out)
        have Hr4_Y15 := Lib.hid hrow2
        clear hk3 hrow2 hV2 w0 g0 hn0
        refine hK.out _ _ HSY15.out (fun _ => ?_)
        clear hK K2
        try simp only [Act.put, List.setIfInBounds_toArray, List.set_cons_zero, List.set_cons_succ]
        refine wpAnyH_done (by kernel_rfl) ?_ _
        go_wp2_with fail
        go_meet
        case rel => exact ⟨K3, K4, PL, PR, rfl, rfl, Hr3_Y15.out, Hr4_Y15.out, HL_Y15.out, HR_Y15.out, HSY15.out⟩
      refine AllReadyH.cons (o := opRt3) rfl (fun K2 hK => ?_) AllReadyH.nil
      go_simp
      have hbV := below_alloc_ X1 (.cells #[.nilFunc] 73)
      have hrV := heap_alloc_new_ X1 (.cells #[.nilFunc] 73)
      obtain ⟨X12, hW⟩ : ∃ W2, X1.alloc (.cells #[.nilFunc] 73) = W2 := ⟨_, rfl⟩
      obtain ⟨K4, hKe⟩ : ∃ Kx, X1.heap.size = Kx := ⟨_, rfl⟩
      rw [hW] at hbV hrV ⊢
      have HK4 := Lib.hid (show w.heap.size ≤ K4 from by rw [← hKe]; exact HS_1.out.size)
      have HnK4PL := Lib.hid (show K4 ≠ PL from by have := lt_of_block HLn_1.out; omega)
      rw [hKe] at hrV ⊢
      have HS_12 := Lib.hid (HS_1.out.trans (hbV.mono HS_1.out.size))
      have HL_12 := Lib.hid ((hbV.block _ (lt_of_block HLn_1.out)).trans HLn_1.out)
      have Hr4n_12 := Lib.hid hrV
      refine hK.out _ _ HS_12.out (fun _ => ?_)
      clear hK K2 hbV hrV hW hKe
      try simp only [Act.put, List.setIfInBounds_toArray, List.set_cons_zero, List.set_cons_succ]
      refine wpAnyH_ready (rs := [11, 12]) (by kernel_rfl) (by simp) ?_
      refine AllReadyH.cons (o := opRt1) rfl (fun K2 hK => ?_) ?_
      · skip
        go_simp
        refine (in49b b.l.RA b.l.rn b.l.rc X12).mono ?_
        rintro e9 w9 ⟨rfl, rfl⟩
        try go_simp
        have hbV := below_alloc_ X12 (.cells #[.slice b.l.RA b.l.rn b.l.rc] 23)
        have hrV := heap_alloc_new_ X12 (.cells #[.slice b.l.RA b.l.rn b.l.rc] 23)
        obtain ⟨X13, hW⟩ : ∃ W2, X12.alloc (.cells #[.slice b.l.RA b.l.rn b.l.rc] 23) = W2 := ⟨_, rfl⟩
        obtain ⟨PR, hKe⟩ : ∃ Kx, X12.heap.size = Kx := ⟨_, rfl⟩
        rw [hW] at hbV hrV ⊢
        have HPR := Lib.hid (show w.heap.size ≤ PR from by rw [← hKe]; exact HS_12.out.size)
        have HnK4PR := Lib.hid (show K4 ≠ PR from by have := lt_of_block Hr4n_12.out; omega)
        have HnPLPR := Lib.hid (show PL ≠ PR from by have := lt_of_block HL_12.out; omega)
        rw [hKe] at hrV ⊢
        have HS_13 := Lib.hid (HS_12.out.trans (hbV.mono HS_12.out.size))
        have Hr4_13 := Lib.hid ((hbV.block _ (lt_of_block Hr4n_12.out)).trans Hr4n_12.out)
        have HL_13 := Lib.hid ((hbV.block _ (lt_of_block HL_12.out)).trans HL_12.out)
        have HRn_13 := Lib.hid hrV
        refine hK.out _ _ HS_13.out (fun _ => ?_)
        clear hK K2 hbV hrV hW hKe
        try simp only [Act.put, List.setIfInBounds_toArray, List.set_cons_zero, List.set_cons_succ]
        refine wpAnyH_ready (rs := [12]) (by kernel_rfl) (by simp) ?_
        refine AllReadyH.cons (o := opRt2) rfl (fun K2 hK => ?_) AllReadyH.nil
        go_simp
        have hbV := below_alloc_ X13 (.cells #[.nilFunc] 73)
        have hrV := heap_alloc_new_ X13 (.cells #[.nilFunc] 73)
        obtain ⟨X14, hW⟩ : ∃ W2, X13.alloc (.cells #[.nilFunc] 73) = W2 := ⟨_, rfl⟩
        obtain ⟨K3, hKe⟩ : ∃ Kx, X13.heap.size = Kx := ⟨_, rfl⟩
        rw [hW] at hbV hrV ⊢
        have HK3 := Lib.hid (show w.heap.size ≤ K3 from by rw [← hKe]; exact HS_13.out.size)
        have HnK3K4 := Lib.hid (show K3 ≠ K4 from by have := lt_of_block Hr4_13.out; omega)
        have HnK3PL := Lib.hid (show K3 ≠ PL from by have := lt_of_block HL_13.out; omega)
        have HnK3PR := Lib.hid (show K3 ≠ PR from by have := lt_of_block HRn_13.out; omega)
        rw [hKe] at hrV ⊢
        have HS_14 := Lib.hid (HS_13.out.trans (hbV.mono HS_13.out.size))
        have Hr4_14 := Lib.hid ((hbV.block _ (lt_of_block Hr4_13.out)).trans Hr4_13.out)
        have HL_14 := Lib.hid ((hbV.block _ (lt_of_block HL_13.out)).trans HL_13.out)
        have HR_14 := Lib.hid ((hbV.block _ (lt_of_block HRn_13.out)).trans HRn_13.out)
        have Hr3n_14 := Lib.hid hrV
        refine hK.out _ _ HS_14.out (fun _ => ?_)
        clear hK K2 hbV hrV hW hKe
        try simp only [Act.put, List.setIfInBounds_toArray, List.set_cons_zero, List.set_cons_succ]
        refine wpAnyH_ready (rs := [14]) (by kernel_rfl) (by simp) ?_
        refine AllReadyH.cons (o := opRt4) rfl (fun K2 hK => ?_) AllReadyH.nil
        have hn0 := Hr3n_14.out
        have w0 : X14.cell? ⟨K3, 0, none⟩ = some .nilFunc := by rw [cell_row hn0]; rfl
        have g0 : X14.frozen? ⟨K3, 0, none⟩ = false := frozen_row hn0
        go_simp
        have hk3 := keeps_setCell X14 K3 0 (.func (.func 70) #[] #[.pointer (some ⟨PL, 0, none⟩)])
        have hrow2 := set_same 0 (.func (.func 70) #[] #[.pointer (some ⟨PL, 0, none⟩)]) hn0
        obtain ⟨Y14, hV2⟩ : ∃ V2, X14.setCell ⟨K3, 0, none⟩ (.func (.func 70) #[] #[.pointer (some ⟨PL, 0, none⟩)]) = V2 := ⟨_, rfl⟩
        rw [hV2] at hk3 hrow2 ⊢
        have HSY14 := Lib.hid (HS_14.out.trans (hk3.below HS_14.out.size (fun q hq e => by have e : q = K3 := e; have := HK3.out; omega)))
        have Hr4_Y14 := Lib.hid ((hk3.block _ (lt_of_block Hr4_14.out) (fun e => by have e : K4 = K3 := e; have := HnK3K4.out; omega)).trans Hr4_14.out)
        have HL_Y14 := Lib.hid ((hk3.block _ (lt_of_block HL_14.out) (fun e => by have e : PL = K3 := e; have := HnK3PL.out; omega)).trans HL_14.out)
        have HR_Y14 := Lib.hid ((hk3.block _ (lt_of_block HR_14.out) (fun e => by have e : PR = K3 := e; have := HnK3PR.out; omega)).trans HR_14.out)
        have Hr3_Y14 := Lib.hid hrow2
        clear hk3 hrow2 hV2 w0 g0 hn0
        refine hK.out _ _ HSY14.out (fun _ => ?_)
        clear hK K2
        try simp only [Act.put, List.setIfInBounds_toArray, List.set_cons_zero, List.set_cons_succ]
        refine wpAnyH_ready (rs := [15]) (by kernel_rfl) (by simp) ?_
        refine AllReadyH.cons (o := opRt5) rfl (fun K2 hK => ?_) AllReadyH.nil
        have hn0 := Hr4_Y14.out
        have w0 : Y14.cell? ⟨K4, 0, none⟩ = some .nilFunc := by rw [cell_row hn0]; rfl
        have g0 : Y14.frozen? ⟨K4, 0, none⟩ = false := frozen_row hn0
        go_simp
        have hk3 := keeps_setCell Y14 K4 0 (.func (.func 70) #[] #[.pointer (some ⟨PR, 0, none⟩)])
        have hrow2 := set_same 0 (.func (.func 70) #[] #[.pointer (some ⟨PR, 0, none⟩)]) hn0
        obtain ⟨Y15, hV2⟩ : ∃ V2, Y14.setCell ⟨K4, 0, none⟩ (.func (.func 70) #[] #[.pointer (some ⟨PR, 0, none⟩)]) = V2 := ⟨_, rfl⟩
        rw [hV2] at hk3 hrow2 ⊢
        have HSY15 := Lib.hid (HSY14.out.trans (hk3.below HSY14.out.size (fun q hq e => by have e : q = K4 := e; have := HK4.out; omega)))
        have Hr3_Y15 := Lib.hid ((hk3.block _ (lt_of_block Hr3_Y14.out) (fun e => by have e : K3 = K4 := e; have := HnK3K4.out; omega)).trans Hr3_Y14.out)
        have HL_Y15 := Lib.hid ((hk3.block _ (lt_of_block HL_Y14.out) (fun e => by have e : PL = K4 := e; have := HnK4PL.out; omega)).trans HL_Y14.out)
        have HR_Y15 := Lib.hid ((hk3.block _ (lt_of_block HR_Y14.out) (fun e => by have e : PR = K4 := e; have := HnK4PR.out; omega)).trans HR_Y14.out)
        have Hr4_Y15 := Lib.hid hrow2
        clear hk3 hrow2 hV2 w0 g0 hn0
        refine hK.out _ _ HSY15.out (fun _ => ?_)
        clear hK K2
        try simp only [Act.put, List.setIfInBounds_toArray, List.set_cons_zero, List.set_cons_succ]
        refine wpAnyH_done (by kernel_rfl) ?_ _
        go_wp2_with fail
        go_meet
        case rel => exact ⟨K3, K4, PL, PR, rfl, rfl, Hr3_Y15.out, Hr4_Y15.out, HL_Y15.out, HR_Y15.out, HSY15.out⟩
      refine AllReadyH.cons (o := opRt2) rfl (fun K2 hK => ?_) AllReadyH.nil
      go_simp
      have hbV := below_alloc_ X12 (.cells #[.nilFunc] 73)
      have hrV := heap_alloc_new_ X12 (.cells #[.nilFunc] 73)
      obtain ⟨X15, hW⟩ : ∃ W2, X12.alloc (.cells #[.nilFunc] 73) = W2 := ⟨_, rfl⟩
      obtain ⟨K3, hKe⟩ : ∃ Kx, X12.heap.size = Kx := ⟨_, rfl⟩
      rw [hW] at hbV hrV ⊢
      have HK3 := Lib.hid (show w.heap.size ≤ K3 from by rw [← hKe]; exact HS_12.out.size)
      have HnK3K4 := Lib.hid (show K3 ≠ K4 from by have := lt_of_block Hr4n_12.out; omega)
      have HnK3PL := Lib.hid (show K3 ≠ PL from by have := lt_of_block HL_12.out; omega)
      rw [hKe] at hrV ⊢
      have HS_15 := Lib.hid (HS_12.out.trans (hbV.mono HS_12.out.size))
      have Hr4_15 := Lib.hid ((hbV.block _ (lt_of_block Hr4n_12.out)).trans Hr4n_12.out)
      have HL_15 := Lib.hid ((hbV.block _ (lt_of_block HL_12.out)).trans HL_12.out)
      have Hr3n_15 := Lib.hid hrV
      refine hK.out _ _ HS_15.out (fun _ => ?_)
      clear hK K2 hbV hrV hW hKe
      try simp only [Act.put, List.setIfInBounds_toArray, List.set_cons_zero, List.set_cons_succ]
      refine wpAnyH_ready (rs := [11]) (by kernel_rfl) (by simp) ?_
      refine AllReadyH.cons (o := opRt1) rfl (fun K2 hK => ?_) AllReadyH.nil
      go_simp
      refine (in49b b.l.RA b.l.rn b.l.rc X15).mono ?_
      rintro e9 w9 ⟨rfl, rfl⟩
      try go_simp
      have hbV := below_alloc_ X15 (.cells #[.slice b.l.RA b.l.rn b.l.rc] 23)
      have hrV := heap_alloc_new_ X15 (.cells #[.slice b.l.RA b.l.rn b.l.rc] 23)
      obtain ⟨X16, hW⟩ : ∃ W2, X15.alloc (.cells #[.slice b.l.RA b.l.rn b.l.rc] 23) = W2 := ⟨_, rfl⟩
      obtain ⟨PR, hKe⟩ : ∃ Kx, X15.heap.size = Kx := ⟨_, rfl⟩
      rw [hW] at hbV hrV ⊢
      have HPR := Lib.hid (show w.heap.size ≤ PR from by rw [← hKe]; exact HS_15.out.size)
      have HnK3PR := Lib.hid (show K3 ≠ PR from by have := lt_of_block Hr3n_15.out; omega)
      have HnK4PR := Lib.hid (show K4 ≠ PR from by have := lt_of_block Hr4_15.out; omega)
      have HnPLPR := Lib.hid (show PL ≠ PR from by have := lt_of_block HL_15.out; omega)
      rw [hKe] at hrV ⊢
      have HS_16 := Lib.hid (HS_15.out.trans (hbV.mono HS_15.out.size))
      have Hr3_16 := Lib.hid ((hbV.block _ (lt_of_block Hr3n_15.out)).trans Hr3n_15.out)
      have Hr4_16 := Lib.hid ((hbV.block _ (lt_of_block Hr4_15.out)).trans Hr4_15.out)
      have HL_16 := Lib.hid ((hbV.block _ (lt_of_block HL_15.out)).trans HL_15.out)
      have HRn_16 := Lib.hid hrV
      refine hK.out _ _ HS_16.out (fun _ => ?_)
      clear hK K2 hbV hrV hW hKe
      try simp only [Act.put, List.setIfInBounds_toArray, List.set_cons_zero, List.set_cons_succ]
      refine wpAnyH_ready (rs := [14]) (by kernel_rfl) (by simp) ?_
      refine AllReadyH.cons (o := opRt4) rfl (fun K2 hK => ?_) AllReadyH.nil
      have hn0 := Hr3_16.out
      have w0 : X16.cell? ⟨K3, 0, none⟩ = some .nilFunc := by rw [cell_row hn0]; rfl
      have g0 : X16.frozen? ⟨K3, 0, none⟩ = false := frozen_row hn0
      go_simp
      have hk3 := keeps_setCell X16 K3 0 (.func (.func 70) #[] #[.pointer (some ⟨PL, 0, none⟩)])
      have hrow2 := set_same 0 (.func (.func 70) #[] #[.pointer (some ⟨PL, 0, none⟩)]) hn0
      obtain ⟨Y14, hV2⟩ : ∃ V2, X16.setCell ⟨K3, 0, none⟩ (.func (.func 70) #[] #[.pointer (some ⟨PL, 0, none⟩)]) = V2 := ⟨_, rfl⟩
      rw [hV2] at hk3 hrow2 ⊢
      have HSY14 := Lib.hid (HS_16.out.trans (hk3.below HS_16.out.size (fun q hq e => by have e : q = K3 := e; have := HK3.out; omega)))
      have Hr4_Y14 := Lib.hid ((hk3.block _ (lt_of_block Hr4_16.out) (fun e => by have e : K4 = K3 := e; have := HnK3K4.out; omega)).trans Hr4_16.out)
      have HL_Y14 := Lib.hid ((hk3.block _ (lt_of_block HL_16.out) (fun e => by have e : PL = K3 := e; have := HnK3PL.out; omega)).trans HL_16.out)
      have HR_Y14 := Lib.hid ((hk3.block _ (lt_of_block HRn_16.out) (fun e => by have e : PR = K3 := e; have := HnK3PR.out; omega)).trans HRn_16.out)
      have Hr3_Y14 := Lib.hid hrow2
      clear hk3 hrow2 hV2 w0 g0 hn0
      refine hK.out _ _ HSY14.out (fun _ => ?_)
      clear hK K2
      try simp only [Act.put, List.setIfInBounds_toArray, List.set_cons_zero, List.set_cons_succ]
      refine wpAnyH_ready (rs := [15]) (by kernel_rfl) (by simp) ?_
      refine AllReadyH.cons (o := opRt5) rfl (fun K2 hK => ?_) AllReadyH.nil
      have hn0 := Hr4_Y14.out
      have w0 : Y14.cell? ⟨K4, 0, none⟩ = some .nilFunc := by rw [cell_row hn0]; rfl
      have g0 : Y14.frozen? ⟨K4, 0, none⟩ = false := frozen_row hn0
      go_simp
      have hk3 := keeps_setCell Y14 K4 0 (.func (.func 70) #[] #[.pointer (some ⟨PR, 0, none⟩)])
      have hrow2 := set_same 0 (.func (.func 70) #[] #[.pointer (some ⟨PR, 0, none⟩)]) hn0
      obtain ⟨Y15, hV2⟩ : ∃ V2, Y14.setCell ⟨K4, 0, none⟩ (.func (.func 70) #[] #[.pointer (some ⟨PR, 0, none⟩)]) = V2 := ⟨_, rfl⟩
      rw [hV2] at hk3 hrow2 ⊢
      have HSY15 := Lib.hid (HSY14.out.trans (hk3.below HSY14.out.size (fun q hq e => by have e : q = K4 := e; have := HK4.out; omega)))
      have Hr3_Y15 := Lib.hid ((hk3.block _ (lt_of_block Hr3_Y14.out) (fun e => by have e : K3 = K4 := e; have := HnK3K4.out; omega)).trans Hr3_Y14.out)
      have HL_Y15 := Lib.hid ((hk3.block _ (lt_of_block HL_Y14.out) (fun e => by have e : PL = K4 := e; have := HnK4PL.out; omega)).trans HL_Y14.out)
      have HR_Y15 := Lib.hid ((hk3.block _ (lt_of_block HR_Y14.out) (fun e => by have e : PR = K4 := e; have := HnK4PR.out; omega)).trans HR_Y14.out)
      have Hr4_Y15 := Lib.hid hrow2
      clear hk3 hrow2 hV2 w0 g0 hn0
      refine hK.out _ _ HSY15.out (fun _ => ?_)
      clear hK K2
      try simp only [Act.put, List.setIfInBounds_toArray, List.set_cons_zero, List.set_cons_succ]
      refine wpAnyH_done (by kernel_rfl) ?_ _
      go_wp2_with fail
      go_meet
      case rel => exact ⟨K3, K4, PL, PR, rfl, rfl, Hr3_Y15.out, Hr4_Y15.out, HL_Y15.out, HR_Y15.out, HSY15.out⟩
    refine AllReadyH.cons (o := opRt2) rfl (fun K2 hK => ?_) ?_
    · skip
      go_simp
      have hbV := below_alloc_ X0 (.cells #[.nilFunc] 73)
      have hrV := heap_alloc_new_ X0 (.cells #[.nilFunc] 73)
      obtain ⟨X17, hW⟩ : ∃ W2, X0.alloc (.cells #[.nilFunc] 73) = W2 := ⟨_, rfl⟩
      obtain ⟨K3, hKe⟩ : ∃ Kx, X0.heap.size = Kx := ⟨_, rfl⟩
      rw [hW] at hbV hrV ⊢
      have HK3 := Lib.hid (show w.heap.size ≤ K3 from by rw [← hKe]; exact HS_0.out.size)
      rw [hKe] at hrV ⊢
      have HS_17 := Lib.hid (HS_0.out.trans (hbV.mono HS_0.out.size))
      have Hr3n_17 := Lib.hid hrV
      refine hK.out _ _ HS_17.out (fun _ => ?_)
      clear hK K2 hbV hrV hW hKe
      try simp only [Act.put, List.setIfInBounds_toArray, List.set_cons_zero, List.set_cons_succ]
      refine wpAnyH_ready (rs := [5, 13]) (by kernel_rfl) (by simp) ?_
      refine AllReadyH.cons (o := opRt0) rfl (fun K2 hK => ?_) ?_
      · skip
        go_simp
        refine (in49b b.l.LA b.l.ln b.l.lc X17).mono ?_
        rintro e9 w9 ⟨rfl, rfl⟩
        try go_simp
        have hbV := below_alloc_ X17 (.cells #[.slice b.l.LA b.l.ln b.l.lc] 23)
        have hrV := heap_alloc_new_ X17 (.cells #[.slice b.l.LA b.l.ln b.l.lc] 23)
        obtain ⟨X18, hW⟩ : ∃ W2, X17.alloc (.cells #[.slice b.l.LA b.l.ln b.l.lc] 23) = W2 := ⟨_, rfl⟩
        obtain ⟨PL, hKe⟩ : ∃ Kx, X17.heap.size = Kx := ⟨_, rfl⟩
        rw [hW] at hbV hrV ⊢
        have HPL := Lib.hid (show w.heap.size ≤ PL from by rw [← hKe]; exact HS_17.out.size)
        have HnK3PL := Lib.hid (show K3 ≠ PL from by have := lt_of_block Hr3n_17.out; omega)
        rw [hKe] at hrV ⊢
        have HS_18 := Lib.hid (HS_17.out.trans (hbV.mono HS_17.out.size))
        have Hr3_18 := Lib.hid ((hbV.block _ (lt_of_block Hr3n_17.out)).trans Hr3n_17.out)
        have HLn_18 := Lib.hid hrV
        refine hK.out _ _ HS_18.out (fun _ => ?_)
        clear hK K2 hbV hrV hW hKe
        try simp only [Act.put, List.setIfInBounds_toArray, List.set_cons_zero, List.set_cons_succ]
        refine wpAnyH_ready (rs := [11, 13]) (by kernel_rfl) (by simp) ?_
        refine AllReadyH.cons (o := opRt1) rfl (fun K2 hK => ?_) ?_
        · skip
          go_simp
          refine (in49b b.l.RA b.l.rn b.l.rc X18).mono ?_
          rintro e9 w9 ⟨rfl, rfl⟩
          try go_simp
          have hbV := below_alloc_ X18 (.cells #[.slice b.l.RA b.l.rn b.l.rc] 23)
          have hrV := heap_alloc_new_ X18 (.cells #[.slice b.l.RA b.l.rn b.l.rc] 23)
          obtain ⟨X19, hW⟩ : ∃ W2, X18.alloc (.cells #[.slice b.l.RA b.l.rn b.l.rc] 23) = W2 := ⟨_, rfl⟩
          obtain ⟨PR, hKe⟩ : ∃ Kx, X18.heap.size = Kx := ⟨_, rfl⟩
          rw [hW] at hbV hrV ⊢
          have HPR := Lib.hid (show w.heap.size ≤ PR from by rw [← hKe]; exact HS_18.out.size)
          have HnK3PR := Lib.hid (show K3 ≠ PR from by have := lt_of_block Hr3_18.out; omega)
          have HnPLPR := Lib.hid (show PL ≠ PR from by have := lt_of_block HLn_18.out; omega)
          rw [hKe] at hrV ⊢
          have HS_19 := Lib.hid (HS_18.out.trans (hbV.mono HS_18.out.size))
          have Hr3_19 := Lib.hid ((hbV.block _ (lt_of_block Hr3_18.out)).trans Hr3_18.out)
          have HL_19 := Lib.hid ((hbV.block _ (lt_of_block HLn_18.out)).trans HLn_18.out)
          have HRn_19 := Lib.hid hrV
          refine hK.out _ _ HS_19.out (fun _ => ?_)
          clear hK K2 hbV hrV hW hKe
          try simp only [Act.put, List.setIfInBounds_toArray, List.set_cons_zero, List.set_cons_succ]
          refine wpAnyH_ready (rs := [13]) (by kernel_rfl) (by simp) ?_
          refine AllReadyH.cons (o := opRt3) rfl (fun K2 hK => ?_) AllReadyH.nil
          go_simp
          have hbV := below_alloc_ X19 (.cells #[.nilFunc] 73)
          have hrV := heap_alloc_new_ X19 (.cells #[.nilFunc] 73)
          obtain ⟨X20, hW⟩ : ∃ W2, X19.alloc (.cells #[.nilFunc] 73) = W2 := ⟨_, rfl⟩
          obtain ⟨K4, hKe⟩ : ∃ Kx, X19.heap.size = Kx := ⟨_, rfl⟩
          rw [hW] at hbV hrV ⊢
          have HK4 := Lib.hid (show w.heap.size ≤ K4 from by rw [← hKe]; exact HS_19.out.size)
          have HnK3K4 := Lib.hid (show K3 ≠ K4 from by have := lt_of_block Hr3_19.out; omega)
          have HnK4PL := Lib.hid (show K4 ≠ PL from by have := lt_of_block HL_19.out; omega)
          have HnK4PR := Lib.hid (show K4 ≠ PR from by have := lt_of_block HRn_19.out; omega)
          rw [hKe] at hrV ⊢
          have HS_20 := Lib.hid (HS_19.out.trans (hbV.mono HS_19.out.size))
          have Hr3_20 := Lib.hid ((hbV.block _ (lt_of_block Hr3_19.out)).trans Hr3_19.out)
          have HL_20 := Lib.hid ((hbV.block _ (lt_of_block HL_19.out)).trans HL_19.out)
          have HR_20 := Lib.hid ((hbV.block _ (lt_of_block HRn_19.out)).trans HRn_19.out)
          have Hr4n_20 := Lib.hid hrV
          refine hK.out _ _ HS_20.out (fun _ => ?_)
          clear hK K2 hbV hrV hW hKe
          try simp only [Act.put, List.setIfInBounds_toArray, List.set_cons_zero, List.set_cons_succ]
          refine wpAnyH_ready (rs := [14]) (by kernel_rfl) (by simp) ?_
          refine AllReadyH.cons (o := opRt4) rfl (fun K2 hK => ?_) AllReadyH.nil
          have hn0 := Hr3_20.out
          have w0 : X20.cell? ⟨K3, 0, none⟩ = some .nilFunc := by rw [cell_row hn0]; rfl
          have g0 : X20.frozen? ⟨K3, 0, none⟩ = false := frozen_row hn0
          go_simp
          have hk3 := keeps_setCell X20 K3 0 (.func (.func 70) #[] #[.pointer (some ⟨PL, 0, none⟩)])
          have hrow2 := set_same 0 (.func (.func 70) #[] #[.pointer (some ⟨PL, 0, none⟩)]) hn0
          obtain ⟨Y14, hV2⟩ : ∃ V2, X20.setCell ⟨K3, 0, none⟩ (.func (.func 70) #[] #[.pointer (some ⟨PL, 0, none⟩)]) = V2 := ⟨_, rfl⟩
          rw [hV2] at hk3 hrow2 ⊢
          have HSY14 := Lib.hid (HS_20.out.trans (hk3.below HS_20.out.size (fun q hq e => by have e : q = K3 := e; have := HK3.out; omega)))
          have Hr4_Y14 := Lib.hid ((hk3.block _ (lt_of_block Hr4n_20.out) (fun e => by have e : K4 = K3 := e; have := HnK3K4.out; omega)).trans Hr4n_20.out)
          have HL_Y14 := Lib.hid ((hk3.block _ (lt_of_block HL_20.out) (fun e => by have e : PL = K3 := e; have := HnK3PL.out; omega)).trans HL_20.out)
          have HR_Y14 := Lib.hid ((hk3.block _ (lt_of_block HR_20.out) (fun e => by have e : PR = K3 := e; have := HnK3PR.out; omega)).trans HR_20.out)
          have Hr3_Y14 := Lib.hid hrow2
          clear hk3 hrow2 hV2 w0 g0 hn0
          refine hK.out _ _ HSY14.out (fun _ => ?_)
          clear hK K2
          try simp only [Act.put, List.setIfInBounds_toArray, List.set_cons_zero, List.set_cons_succ]
          refine wpAnyH_ready (rs := [15]) (by kernel_rfl) (by simp) ?_
          refine AllReadyH.cons (o := opRt5) rfl (fun K2 hK => ?_) AllReadyH.nil
          have hn0 := Hr4_Y14.out
          have w0 : Y14.cell? ⟨K4, 0, none⟩ = some .nilFunc := by rw [cell_row hn0]; rfl
          have g0 : Y14.frozen? ⟨K4, 0, none⟩ = false := frozen_row hn0
          go_simp
          have hk3 := keeps_setCell Y14 K4 0 (.func (.func 70) #[] #[.pointer (some ⟨PR, 0, none⟩)])
          have hrow2 := set_same 0 (.func (.func 70) #[] #[.pointer (some ⟨PR, 0, none⟩)]) hn0
          obtain ⟨Y15, hV2⟩ : ∃ V2, Y14.setCell ⟨K4, 0, none⟩ (.func (.func 70) #[] #[.pointer (some ⟨PR, 0, none⟩)]) = V2 := ⟨_, rfl⟩
          rw [hV2] at hk3 hrow2 ⊢
          have HSY15 := Lib.hid (HSY14.out.trans (hk3.below HSY14.out.size (fun q hq e => by have e : q = K4 := e; have := HK4.out; omega)))
          have Hr3_Y15 := Lib.hid ((hk3.block _ (lt_of_block Hr3_Y14.out) (fun e => by have e : K3 = K4 := e; have := HnK3K4.out; omega)).trans Hr3_Y14.out)
          have HL_Y15 := Lib.hid ((hk3.block _ (lt_of_block HL_Y14.out) (fun e => by have e : PL = K4 := e; have := HnK4PL.out; omega)).trans HL_Y14.out)
          have HR_Y15 := Lib.hid ((hk3.block _ (lt_of_block HR_Y14.out) (fun e => by have e : PR = K4 := e; have := HnK4PR.out; omega)).trans HR_Y14.out)
          have Hr4_Y15 := Lib.hid hrow2
          clear hk3 hrow2 hV2 w0 g0 hn0
          refine hK.out _ _ HSY15.out (fun _ => ?_)
          clear hK K2
          try simp only [Act.put, List.setIfInBounds_toArray, List.set_cons_zero, List.set_cons_succ]
          refine wpAnyH_done (by kernel_rfl) ?_ _
          go_wp2_with fail
          go_meet
          case rel => exact ⟨K3, K4, PL, PR, rfl, rfl, Hr3_Y15.out, Hr4_Y15.out, HL_Y15.out, HR_Y15.out, HSY15.out⟩
        refine AllReadyH.cons (o := opRt3) rfl (fun K2 hK => ?_) AllReadyH.nil
        go_simp
        have hbV := below_alloc_ X18 (.cells #[.nilFunc] 73)
        have hrV := heap_alloc_new_ X18 (.cells #[.nilFunc] 73)
        obtain ⟨X21, hW⟩ : ∃ W2, X18.alloc (.cells #[.nilFunc] 73) = W2 := ⟨_, rfl⟩
        obtain ⟨K4, hKe⟩ : ∃ Kx, X18.heap.size = Kx := ⟨_, rfl⟩
        rw [hW] at hbV hrV ⊢
        have HK4 := Lib.hid (show w.heap.size ≤ K4 from by rw [← hKe]; exact HS_18.out.size)
        have HnK3K4 := Lib.hid (show K3 ≠ K4 from by have := lt_of_block Hr3_18.out; omega)
        have HnK4PL := Lib.hid (show K4 ≠ PL from by have := lt_of_block HLn_18.out; omega)
        rw [hKe] at hrV ⊢
        have HS_21 := Lib.hid (HS_18.out.trans (hbV.mono HS_18.out.size))
        have Hr3_21 := Lib.hid ((hbV.block _ (lt_of_block Hr3_18.out)).trans Hr3_18.out)
        have HL_21 := Lib.hid ((hbV.block _ (lt_of_block HLn_18.out)).trans HLn_18.out)
        have Hr4n_21 := Lib.hid hrV
        refine hK.out _ _ HS_21.out (fun _ => ?_)
        clear hK K2 hbV hrV hW hKe
        try simp only [Act.put, List.setIfInBounds_toArray, List.set_cons_zero, List.set_cons_succ]
        refine wpAnyH_ready (rs := [11]) (by kernel_rfl) (by simp) ?_
        refine AllReadyH.cons (o := opRt1) rfl (fun K2 hK => ?_) AllReadyH.nil
        go_simp
        refine (in49b b.l.RA b.l.rn b.l.rc X21).mono ?_
        rintro e9 w9 ⟨rfl, rfl⟩
        try go_simp
        have hbV := below_alloc_ X21 (.cells #[.slice b.l.RA b.l.rn b.l.rc] 23)
        have hrV := heap_alloc_new_ X21 (.cells #[.slice b.l.RA b.l.rn b.l.rc] 23)
        obtain ⟨X22, hW⟩ : ∃ W2, X21.alloc (.cells #[.slice b.l.RA b.l.rn b.l.rc] 23) = W2 := ⟨_, rfl⟩
        obtain ⟨PR, hKe⟩ : ∃ Kx, X21.heap.size = Kx := ⟨_, rfl⟩
        rw [hW] at hbV hrV ⊢
        have HPR := Lib.hid (show w.heap.size ≤ PR from by rw [← hKe]; exact HS_21.out.size)
        have HnK3PR := Lib.hid (show K3 ≠ PR from by have := lt_of_block Hr3_21.out; omega)
        have HnK4PR := Lib.hid (show K4 ≠ PR from by have := lt_of_block Hr4n_21.out; omega)
        have HnPLPR := Lib.hid (show PL ≠ PR from by have := lt_of_block HL_21.out; omega)
        rw [hKe] at hrV ⊢
        have HS_22 := Lib.hid (HS_21.out.trans (hbV.mono HS_21.out.size))
        have Hr3_22 := Lib.hid ((hbV.block _ (lt_of_block Hr3_21.out)).trans Hr3_21.out)
        have Hr4_22 := Lib.hid ((hbV.block _ (lt_of_block Hr4n_21.out)).trans Hr4n_21.out)
        have HL_22 := Lib.hid ((hbV.block _ (lt_of_block HL_21.out)).trans HL_21.out)
        have HRn_22 := Lib.hid hrV
        refine hK.out _ _ HS_22.out (fun _ => ?_)
        clear hK K2 hbV hrV hW hKe
        try simp only [Act.put, List.setIfInBounds_toArray, List.set_cons_zero, List.set_cons_succ]
        refine wpAnyH_ready (rs := [14]) (by kernel_rfl) (by simp) ?_
        refine AllReadyH.cons (o := opRt4) rfl (fun K2 hK => ?_) AllReadyH.nil
        have hn0 := Hr3_22.out
        have w0 : X22.cell? ⟨K3, 0, none⟩ = some .nilFunc := by rw [cell_row hn0]; rfl
        have g0 : X22.frozen? ⟨K3, 0, none⟩ = false := frozen_row hn0
        go_simp
        have hk3 := keeps_setCell X22 K3 0 (.func (.func 70) #[] #[.pointer (some ⟨PL, 0, none⟩)])
        have hrow2 := set_same 0 (.func (.func 70) #[] #[.pointer (some ⟨PL, 0, none⟩)]) hn0
        obtain ⟨Y14, hV2⟩ : ∃ V2, X22.setCell ⟨K3, 0, none⟩ (.func (.func 70) #[] #[.pointer (some ⟨PL, 0, none⟩)]) = V2 := ⟨_, rfl⟩
        rw [hV2] at hk3 hrow2 ⊢
        have HSY14 := Lib.hid (HS_22.out.trans (hk3.below HS_22.out.size (fun q hq e => by have e : q = K3 := e; have := HK3.out; omega)))
        have Hr4_Y14 := Lib.hid ((hk3.block _ (lt_of_block Hr4_22.out) (fun e => by have e : K4 = K3 := e; have := HnK3K4.out; omega)).trans Hr4_22.out)
        have HL_Y14 := Lib.hid ((hk3.block _ (lt_of_block HL_22.out) (fun e => by have e : PL = K3 := e; have := HnK3PL.out; omega)).trans HL_22.out)
        have HR_Y14 := Lib.hid ((hk3.block _ (lt_of_block HRn_22.out) (fun e => by have e : PR = K3 := e; have := HnK3PR.out; omega)).trans HRn_22.out)
        have Hr3_Y14 := Lib.hid hrow2
        clear hk3 hrow2 hV2 w0 g0 hn0
        refine hK.out _ _ HSY14.out (fun _ => ?_)
        clear hK K2
        try simp only [Act.put, List.setIfInBounds_toArray, List.set_cons_zero, List.set_cons_succ]
        refine wpAnyH_ready (rs := [15]) (by kernel_rfl) (by simp) ?_
        refine AllReadyH.cons (o := opRt5) rfl (fun K2 hK => ?_) AllReadyH.nil
        have hn0 := Hr4_Y14.out
        have w0 : Y14.cell? ⟨K4, 0, none⟩ = some .nilFunc := by rw [cell_row hn0]; rfl
        have g0 : Y14.frozen? ⟨K4, 0, none⟩ = false := frozen_row hn0
        go_simp
        have hk3 := keeps_setCell Y14 K4 0 (.func (.func 70) #[] #[.pointer (some ⟨PR, 0, none⟩)])
        have hrow2 := set_same 0 (.func (.func 70) #[] #[.pointer (some ⟨PR, 0, none⟩)]) hn0
        obtain ⟨Y15, hV2⟩ : ∃ V2, Y14.setCell ⟨K4, 0, none⟩ (.func (.func 70) #[] #[.pointer (some ⟨PR, 0, none⟩)]) = V2 := ⟨_, rfl⟩
        rw [hV2] at hk3 hrow2 ⊢
        have HSY15 := Lib.hid (HSY14.out.trans (hk3.below HSY14.out.size (fun q hq e => by have e : q = K4 := e; have := HK4.out; omega)))
        have Hr3_Y15 := Lib.hid ((hk3.block _ (lt_of_block Hr3_Y14.out) (fun e => by have e : K3 = K4 := e; have := HnK3K4.out; omega)).trans Hr3_Y14.out)
        have HL_Y15 := Lib.hid ((hk3.block _ (lt_of_block HL_Y14.out) (fun e => by have e : PL = K4 := e; have := HnK4PL.out; omega)).trans HL_Y14.out)
        have HR_Y15 := Lib.hid ((hk3.block _ (lt_of_block HR_Y14.out) (fun e => by have e : PR = K4 := e; have := HnK4PR.out; omega)).trans HR_Y14.out)
        have Hr4_Y15 := Lib.hid hrow2
        clear hk3 hrow2 hV2 w0 g0 hn0
        refine hK.out _ _ HSY15.out (fun _ => ?_)
        clear hK K2
        try simp only [Act.put, List.setIfInBounds_toArray, List.set_cons_zero, List.set_cons_succ]
        refine wpAnyH_done (by kernel_rfl) ?_ _
        go_wp2_with fail
        go_meet
        case rel => exact ⟨K3, K4, PL, PR, rfl, rfl, Hr3_Y15.out, Hr4_Y15.out, HL_Y15.out, HR_Y15.out, HSY15.out⟩
      refine AllReadyH.cons (o := opRt3) rfl (fun K2 hK => ?_) AllReadyH.nil
      go_simp
      have hbV := below_alloc_ X17 (.cells #[.nilFunc] 73)
      have hrV := heap_alloc_new_ X17 (.cells #[.nilFunc] 73)
      obtain ⟨X23, hW⟩ : ∃ W2, X17.alloc (.cells #[.nilFunc] 73) = W2 := ⟨_, rfl⟩
      obtain ⟨K4, hKe⟩ : ∃ Kx, X17.heap.size = Kx := ⟨_, rfl⟩
      rw [hW] at hbV hrV ⊢
      have HK4 := Lib.hid (show w.heap.size ≤ K4 from by rw [← hKe]; exact HS_17.out.size)
      have HnK3K4 := Lib.hid (show K3 ≠ K4 from by have := lt_of_block Hr3n_17.out; omega)
      rw [hKe] at hrV ⊢
      have HS_23 := Lib.hid (HS_17.out.trans (hbV.mono HS_17.out.size))
      have Hr3_23 := Lib.hid ((hbV.block _ (lt_of_block Hr3n_17.out)).trans Hr3n_17.out)
      have Hr4n_23 := Lib.hid hrV
      refine hK.out _ _ HS_23.out (fun _ => ?_)
      clear hK K2 hbV hrV hW hKe
      try simp only [Act.put, List.setIfInBounds_toArray, List.set_cons_zero, List.set_cons_succ]
      refine wpAnyH_ready (rs := [5]) (by kernel_rfl) (by simp) ?_
      refine AllReadyH.cons (o := opRt0) rfl (fun K2 hK => ?_) AllReadyH.nil
      go_simp
      refine (in49b b.l.LA b.l.ln b.l.lc X23).mono ?_
      rintro e9 w9 ⟨rfl, rfl⟩
      try go_simp
      have hbV := below_alloc_ X23 (.cells #[.slice b.l.LA b.l.ln b.l.lc] 23)
      have hrV := heap_alloc_new_ X23 (.cells #[.slice b.l.LA b.l.ln b.l.lc] 23)
      obtain ⟨X24, hW⟩ : ∃ W2, X23.alloc (.cells #[.slice b.l.LA b.l.ln b.l.lc] 23) = W2 := ⟨_, rfl⟩
      obtain ⟨PL, hKe⟩ : ∃ Kx, X23.heap.size = Kx := ⟨_, rfl⟩
      rw [hW] at hbV hrV ⊢
      have HPL := Lib.hid (show w.heap.size ≤ PL from by rw [← hKe]; exact HS_23.out.size)
      have HnK3PL := Lib.hid (show K3 ≠ PL from by have := lt_of_block Hr3_23.out; omega)
      have HnK4PL := Lib.hid (show K4 ≠ PL from by have := lt_of_block Hr4n_23.out; omega)
      rw [hKe] at hrV ⊢
      have HS_24 := Lib.hid (HS_23.out.trans (hbV.mono HS_23.out.size))
      have Hr3_24 := Lib.hid ((hbV.block _ (lt_of_block Hr3_23.out)).trans Hr3_23.out)
      have Hr4_24 := Lib.hid ((hbV.block _ (lt_of_block Hr4n_23.out)).trans Hr4n_23.out)
      have HLn_24 := Lib.hid hrV
      refine hK.out _ _ HS_24.out (fun _ => ?_)
      clear hK K2 hbV hrV hW hKe
      try simp only [Act.put, List.setIfInBounds_toArray, List.set_cons_zero, List.set_cons_succ]
      refine wpAnyH_ready (rs := [11]) (by kernel_rfl) (by simp) ?_
      refine AllReadyH.cons (o := opRt1) rfl (fun K2 hK => ?_) AllReadyH.nil
      go_simp
      refine (in49b b.l.RA b.l.rn b.l.rc X24).mono ?_
      rintro e9 w9 ⟨rfl, rfl⟩
      try go_simp
      have hbV := below_alloc_ X24 (.cells #[.slice b.l.RA b.l.rn b.l.rc] 23)
      have hrV := heap_alloc_new_ X24 (.cells #[.slice b.l.RA b.l.rn b.l.rc] 23)
      obtain ⟨X25, hW⟩ : ∃ W2, X24.alloc (.cells #[.slice b.l.RA b.l.rn b.l.rc] 23) = W2 := ⟨_, rfl⟩
      obtain ⟨PR, hKe⟩ : ∃ Kx, X24.heap.size = Kx := ⟨_, rfl⟩
      rw [hW] at hbV hrV ⊢
      have HPR := Lib.hid (show w.heap.size ≤ PR from by rw [← hKe]; exact HS_24.out.size)
      have HnK3PR := Lib.hid (show K3 ≠ PR from by have := lt_of_block Hr3_24.out; omega)
      have HnK4PR := Lib.hid (show K4 ≠ PR from by have := lt_of_block Hr4_24.out; omega)
      have HnPLPR := Lib.hid (show PL ≠ PR from by have := lt_of_block HLn_24.out; omega)
      rw [hKe] at hrV ⊢
      have HS_25 := Lib.hid (HS_24.out.trans (hbV.mono HS_24.out.size))
      have Hr3_25 := Lib.hid ((hbV.block _ (lt_of_block Hr3_24.out)).trans Hr3_24.out)
      have Hr4_25 := Lib.hid ((hbV.block _ (lt_of_block Hr4_24.out)).trans Hr4_24.out)
      have HL_25 := Lib.hid ((hbV.block _ (lt_of_block HLn_24.out)).trans HLn_24.out)
      have HRn_25 := Lib.hid hrV
      refine hK.out _ _ HS_25.out (fun _ => ?_)
      clear hK K2 hbV hrV hW hKe
      try simp only [Act.put, List.setIfInBounds_toArray, List.set_cons_zero, List.set_cons_succ]
      refine wpAnyH_ready (rs := [14]) (by kernel_rfl) (by simp) ?_
      refine AllReadyH.cons (o := opRt4) rfl (fun K2 hK => ?_) AllReadyH.nil
      have hn0 := Hr3_25.out
      have w0 : X25.cell? ⟨K3, 0, none⟩ = some .nilFunc := by rw [cell_row hn0]; rfl
      have g0 : X25.frozen? ⟨K3, 0, none⟩ = false := frozen_row hn0
      go_simp
      have hk3 := keeps_setCell X25 K3 0 (.func (.func 70) #[] #[.pointer (some ⟨PL, 0, none⟩)])
      have hrow2 := set_same 0 (.func (.func 70) #[] #[.pointer (some ⟨PL, 0, none⟩)]) hn0
      obtain ⟨Y14, hV2⟩ : ∃ V2, X25.setCell ⟨K3, 0, none⟩ (.func (.func 70) #[] #[.pointer (some ⟨PL, 0, none⟩)]) = V2 := ⟨_, rfl⟩
      rw [hV2] at hk3 hrow2 ⊢
      have HSY14 := Lib.hid (HS_25.out.trans (hk3.below HS_25.out.size (fun q hq e => by have e : q = K3 := e; have := HK3.out; omega)))
      have Hr4_Y14 := Lib.hid ((hk3.block _ (lt_of_block Hr4_25.out) (fun e => by have e : K4 = K3 := e; have := HnK3K4.out; omega)).trans Hr4_25.out)
      have HL_Y14 := Lib.hid ((hk3.block _ (lt_of_block HL_25.out) (fun e => by have e : PL = K3 := e; have := HnK3PL.out; omega)).trans HL_25.out)
      have HR_Y14 := Lib.hid ((hk3.block _ (lt_of_block HRn_25.out) (fun e => by have e : PR = K3 := e; have := HnK3PR.out; omega)).trans HRn_25.out)
      have Hr3_Y14 := Lib.hid hrow2
      clear hk3 hrow2 hV2 w0 g0 hn0
      refine hK.out _ _ HSY14.out (fun _ => ?_)
      clear hK K2
      try simp only [Act.put, List.setIfInBounds_toArray, List.set_cons_zero, List.set_cons_succ]
      refine wpAnyH_ready (rs := [15]) (by kernel_rfl) (by simp) ?_
      refine AllReadyH.cons (o := opRt5) rfl (fun K2 hK => ?_) AllReadyH.nil
      have hn0 := Hr4_Y14.out
      have w0 : Y14.cell? ⟨K4, 0, none⟩ = some .nilFunc := by rw [cell_row hn0]; rfl
      have g0 : Y14.frozen? ⟨K4, 0, none⟩ = false := frozen_row hn0
      go_simp
      have hk3 := keeps_setCell Y14 K4 0 (.func (.func 70) #[] #[.pointer (some ⟨PR, 0, none⟩)])
      have hrow2 := set_same 0 (.func (.func 70) #[] #[.pointer (some ⟨PR, 0, none⟩)]) hn0
      obtain ⟨Y15, hV2⟩ : ∃ V2, Y14.setCell ⟨K4, 0, none⟩ (.func (.func 70) #[] #[.pointer (some ⟨PR, 0, none⟩)]) = V2 := ⟨_, rfl⟩
      rw [hV2] at hk3 hrow2 ⊢
      have HSY15 := Lib.hid (HSY14.out.trans (hk3.below HSY14.out.size (fun q hq e => by have e : q = K4 := e; have := HK4.out; omega)))
      have Hr3_Y15 := Lib.hid ((hk3.block _ (lt_of_block Hr3_Y14.out) (fun e => by have e : K3 = K4 := e; have := HnK3K4.out; omega)).trans Hr3_Y14.out)
      have HL_Y15 := Lib.hid ((hk3.block _ (lt_of_block HL_Y14.out) (fun e => by have e : PL = K4 := e; have := HnK4PL.out; omega)).trans HL_Y14.out)
      have HR_Y15 := Lib.hid ((hk3.block _ (lt_of_block HR_Y14.out) (fun e => by have e : PR = K4 := e; have := HnK4PR.out; omega)).trans HR_Y14.out)
      have Hr4_Y15 := Lib.hid hrow2
      clear hk3 hrow2 hV2 w0 g0 hn0
      refine hK.out _ _ HSY15.out (fun _ => ?_)
      clear hK K2
      try simp only [Act.put, List.setIfInBounds_toArray, List.set_cons_zero, List.set_cons_succ]
      refine wpAnyH_done (by kernel_rfl) ?_ _
      go_wp2_with fail
      go_meet
      case rel => exact ⟨K3, K4, PL, PR, rfl, rfl, Hr3_Y15.out, Hr4_Y15.out, HL_Y15.out, HR_Y15.out, HSY15.out⟩
    refine AllReadyH.cons (o := opRt3) rfl (fun K2 hK => ?_) AllReadyH.nil
    go_simp
    have hbV := below_alloc_ X0 (.cells #[.nilFunc] 73)
    have hrV := heap_alloc_new_ X0 (.cells #[.nilFunc] 73)
    obtain ⟨X26, hW⟩ : ∃ W2, X0.alloc (.cells #[.nilFunc] 73) = W2 := ⟨_, rfl⟩
    obtain ⟨K4, hKe⟩ : ∃ Kx, X0.heap.size = Kx := ⟨_, rfl⟩
    rw [hW] at hbV hrV ⊢
    have HK4 := Lib.hid (show w.heap.size ≤ K4 from by rw [← hKe]; exact HS_0.out.size)
    rw [hKe] at hrV ⊢
    have HS_26 := Lib.hid (HS_0.out.trans (hbV.mono HS_0.out.size))
    have Hr4n_26 := Lib.hid hrV
    refine hK.out _ _ HS_26.out (fun _ => ?_)
    clear hK K2 hbV hrV hW hKe
    try simp only [Act.put, List.setIfInBounds_toArray, List.set_cons_zero, List.set_cons_succ]
    refine wpAnyH_ready (rs := [5, 12]) (by kernel_rfl) (by simp) ?_
    refine AllReadyH.cons (o := opRt0) rfl (fun K2 hK => ?_) ?_
    · skip
      go_simp
      refine (in49b b.l.LA b.l.ln b.l.lc X26).mono ?_
      rintro e9 w9 ⟨rfl, rfl⟩
      try go_simp
      have hbV := below_alloc_ X26 (.cells #[.slice b.l.LA b.l.ln b.l.lc] 23)
      have hrV := heap_alloc_new_ X26 (.cells #[.slice b.l.LA b.l.ln b.l.lc] 23)
      obtain ⟨X27, hW⟩ : ∃ W2, X26.alloc (.cells #[.slice b.l.LA b.l.ln b.l.lc] 23) = W2 := ⟨_, rfl⟩
      obtain ⟨PL, hKe⟩ : ∃ Kx, X26.heap.size = Kx := ⟨_, rfl⟩
      rw [hW] at hbV hrV ⊢
      have HPL := Lib.hid (show w.heap.size ≤ PL from by rw [← hKe]; exact HS_26.out.size)
      have HnK4PL := Lib.hid (show K4 ≠ PL from by have := lt_of_block Hr4n_26.out; omega)
      rw [hKe] at hrV ⊢
      have HS_27 := Lib.hid (HS_26.out.trans (hbV.mono HS_26.out.size))
      have Hr4_27 := Lib.hid ((hbV.block _ (lt_of_block Hr4n_26.out)).trans Hr4n_26.out)
      have HLn_27 := Lib.hid hrV
      refine hK.out _ _ HS_27.out (fun _ => ?_)
      clear hK K2 hbV hrV hW hKe
      try simp only [Act.put, List.setIfInBounds_toArray, List.set_cons_zero, List.set_cons_succ]
      refine wpAnyH_ready (rs := [11, 12]) (by kernel_rfl) (by simp) ?_
      refine AllReadyH.cons (o := opRt1) rfl (fun K2 hK => ?_) ?_
      · skip
        go_simp
        refine (in49b b.l.RA b.l.rn b.l.rc X27).mono ?_
        rintro e9 w9 ⟨rfl, rfl⟩
        try go_simp
        have hbV := below_alloc_ X27 (.cells #[.slice b.l.RA b.l.rn b.l.rc] 23)
        have hrV := heap_alloc_new_ X27 (.cells #[.slice b.l.RA b.l.rn b.l.rc] 23)
        obtain ⟨X28, hW⟩ : ∃ W2, X27.alloc (.cells #[.slice b.l.RA b.l.rn b.l.rc] 23) = W2 := ⟨_, rfl⟩
        obtain ⟨PR, hKe⟩ : ∃ Kx, X27.heap.size = Kx := ⟨_, rfl⟩
        rw [hW] at hbV hrV ⊢
        have HPR := Lib.hid (show w.heap.size ≤ PR from by rw [← hKe]; exact HS_27.out.size)
        have HnK4PR := Lib.hid (show K4 ≠ PR from by have := lt_of_block Hr4_27.out; omega)
        have HnPLPR := Lib.hid (show PL ≠ PR from by have := lt_of_block HLn_27.out; omega)
        rw [hKe] at hrV ⊢
        have HS_28 := Lib.hid (HS_27.out.trans (hbV.mono HS_27.out.size))
        have Hr4_28 := Lib.hid ((hbV.block _ (lt_of_block Hr4_27.out)).trans Hr4_27.out)
        have HL_28 := Lib.hid ((hbV.block _ (lt_of_block HLn_27.out)).trans HLn_27.out)
        have HRn_28 := Lib.hid hrV
        refine hK.out _ _ HS_28.out (fun _ => ?_)
        clear hK K2 hbV hrV hW hKe
        try simp only [Act.put, List.setIfInBounds_toArray, List.set_cons_zero, List.set_cons_succ]
        refine wpAnyH_ready (rs := [12]) (by kernel_rfl) (by simp) ?_
        refine AllReadyH.cons (o := opRt2) rfl (fun K2 hK => ?_) AllReadyH.nil
        go_simp
        have hbV := below_alloc_ X28 (.cells #[.nilFunc] 73)
        have hrV := heap_alloc_new_ X28 (.cells #[.nilFunc] 73)
        obtain ⟨X29, hW⟩ : ∃ W2, X28.alloc (.cells #[.nilFunc] 73) = W2 := ⟨_, rfl⟩
        obtain ⟨K3, hKe⟩ : ∃ Kx, X28.heap.size = Kx := ⟨_, rfl⟩
        rw [hW] at hbV hrV ⊢
        have HK3 := Lib.hid (show w.heap.size ≤ K3 from by rw [← hKe]; exact HS_28.out.size)
        have HnK3K4 := Lib.hid (show K3 ≠ K4 from by have := lt_of_block Hr4_28.out; omega)
        have HnK3PL := Lib.hid (show K3 ≠ PL from by have := lt_of_block HL_28.out; omega)
        have HnK3PR := Lib.hid (show K3 ≠ PR from by have := lt_of_block HRn_28.out; omega)
        rw [hKe] at hrV ⊢
        have HS_29 := Lib.hid (HS_28.out.trans (hbV.mono HS_28.out.size))
        have Hr4_29 := Lib.hid ((hbV.block _ (lt_of_block Hr4_28.out)).trans Hr4_28.out)
        have HL_29 := Lib.hid ((hbV.block _ (lt_of_block HL_28.out)).trans HL_28.out)
        have HR_29 := Lib.hid ((hbV.block _ (lt_of_block HRn_28.out)).trans HRn_28.out)
        have Hr3n_29 := Lib.hid hrV
        refine hK.out _ _ HS_29.out (fun _ => ?_)
        clear hK K2 hbV hrV hW hKe
        try simp only [Act.put, List.setIfInBounds_toArray, List.set_cons_zero, List.set_cons_succ]
        refine wpAnyH_ready (rs := [14]) (by kernel_rfl) (by simp) ?_
        refine AllReadyH.cons (o := opRt4) rfl (fun K2 hK => ?_) AllReadyH.nil
        have hn0 := Hr3n_29.out
        have w0 : X29.cell? ⟨K3, 0, none⟩ = some .nilFunc := by rw [cell_row hn0]; rfl
        have g0 : X29.frozen? ⟨K3, 0, none⟩ = false := frozen_row hn0
        go_simp
        have hk3 := keeps_setCell X29 K3 0 (.func (.func 70) #[] #[.pointer (some ⟨PL, 0, none⟩)])
        have hrow2 := set_same 0 (.func (.func 70) #[] #[.pointer (some ⟨PL, 0, none⟩)]) hn0
        obtain ⟨Y14, hV2⟩ : ∃ V2, X29.setCell ⟨K3, 0, none⟩ (.func (.func 70) #[] #[.pointer (some ⟨PL, 0, none⟩)]) = V2 := ⟨_, rfl⟩
        rw [hV2] at hk3 hrow2 ⊢
        have HSY14 := Lib.hid (HS_29.out.trans (hk3.below HS_29.out.size (fun q hq e => by have e : q = K3 := e; have := HK3.out; omega)))
        have Hr4_Y14 := Lib.hid ((hk3.block _ (lt_of_block Hr4_29.out) (fun e => by have e : K4 = K3 := e; have := HnK3K4.out; omega)).trans Hr4_29.out)
        have HL_Y14 := Lib.hid ((hk3.block _ (lt_of_block HL_29.out) (fun e => by have e : PL = K3 := e; have := HnK3PL.out; omega)).trans HL_29.out)
        have HR_Y14 := Lib.hid ((hk3.block _ (lt_of_block HR_29.out) (fun e => by have e : PR = K3 := e; have := HnK3PR.out; omega)).trans HR_29.out)
        have Hr3_Y14 := Lib.hid hrow2
        clear hk3 hrow2 hV2 w0 g0 hn0
        refine hK.out _ _ HSY14.out (fun _ => ?_)
        clear hK K2
        try simp only [Act.put, List.setIfInBounds_toArray, List.set_cons_zero, List.set_cons_succ]
        refine wpAnyH_ready (rs := [15]) (by kernel_rfl) (by simp) ?_
        refine AllReadyH.cons (o := opRt5) rfl (fun K2 hK => ?_) AllReadyH.nil
        have hn0 := Hr4_Y14.out
        have w0 : Y14.cell? ⟨K4, 0, none⟩ = some .nilFunc := by rw [cell_row hn0]; rfl
        have g0 : Y14.frozen? ⟨K4, 0, none⟩ = false := frozen_row hn0
        go_simp
        have hk3 := keeps_setCell Y14 K4 0 (.func (.func 70) #[] #[.pointer (some ⟨PR, 0, none⟩)])
        have hrow2 := set_same 0 (.func (.func 70) #[] #[.pointer (some ⟨PR, 0, none⟩)]) hn0
        obtain ⟨Y15, hV2⟩ : ∃ V2, Y14.setCell ⟨K4, 0, none⟩ (.func (.func 70) #[] #[.pointer (some ⟨PR, 0, none⟩)]) = V2 := ⟨_, rfl⟩
        rw [hV2] at hk3 hrow2 ⊢
        have HSY15 := Lib.hid (HSY14.out.trans (hk3.below HSY14.out.size (fun q hq e => by have e : q = K4 := e; have := HK4.out; omega)))
        have Hr3_Y15 := Lib.hid ((hk3.block _ (lt_of_block Hr3_Y14.out) (fun e => by have e : K3 = K4 := e; have := HnK3K4.out; omega)).trans Hr3_Y14.out)
        have HL_Y15 := Lib.hid ((hk3.block _ (lt_of_block HL_Y14.out) (fun e => by have e : PL = K4 := e; have := HnK4PL.out; omega)).trans HL_Y14.out)
        have HR_Y15 := Lib.hid ((hk3.block _ (lt_of_block HR_Y14.out) (fun e => by have e : PR = K4 := e; have := HnK4PR.out; omega)).trans HR_Y14.out)
        have Hr4_Y15 := Lib.hid hrow2
        clear hk3 hrow2 hV2 w0 g0 hn0
        refine hK.out _ _ HSY15.out (fun _ => ?_)
        clear hK K2
        try simp only [Act.put, List.setIfInBounds_toArray, List.set_cons_zero, List.set_cons_succ]
        refine wpAnyH_done (by kernel_rfl) ?_ _
        go_wp2_with fail
        go_meet
        case rel => exact ⟨K3, K4, PL, PR, rfl, rfl, Hr3_Y15.out, Hr4_Y15.out, HL_Y15.out, HR_Y15.out, HSY15.out⟩
      refine AllReadyH.cons (o := opRt2) rfl (fun K2 hK => ?_) AllReadyH.nil
      go_simp
      have hbV := below_alloc_ X27 (.cells #[.nilFunc] 73)
      have hrV := heap_alloc_new_ X27 (.cells #[.nilFunc] 73)
      obtain ⟨X30, hW⟩ : ∃ W2, X27.alloc (.cells #[.nilFunc] 73) = W2 := ⟨_, rfl⟩
      obtain ⟨K3, hKe⟩ : ∃ Kx, X27.heap.size = Kx := ⟨_, rfl⟩
      rw [hW] at hbV hrV ⊢
      have HK3 := Lib.hid (show w.heap.size ≤ K3 from by rw [← hKe]; exact HS_27.out.size)
      have HnK3K4 := Lib.hid (show K3 ≠ K4 from by have := lt_of_block Hr4_27.out; omega)
      have HnK3PL := Lib.hid (show K3 ≠ PL from by have := lt_of_block HLn_27.out; omega)
      rw [hKe] at hrV ⊢
      have HS_30 := Lib.hid (HS_27.out.trans (hbV.mono HS_27.out.size))
      have Hr4_30 := Lib.hid ((hbV.block _ (lt_of_block Hr4_27.out)).trans Hr4_27.out)
      have HL_30 := Lib.hid ((hbV.block _ (lt_of_block HLn_27.out)).trans HLn_27.out)
      have Hr3n_30 := Lib.hid hrV
      refine hK.out _ _ HS_30.out (fun _ => ?_)
      clear hK K2 hbV hrV hW hKe
      try simp only [Act.put, List.setIfInBounds_toArray, List.set_cons_zero, List.set_cons_succ]
      refine wpAnyH_ready (rs := [11]) (by kernel_rfl) (by simp) ?_
      refine AllReadyH.cons (o := opRt1) rfl (fun K2 hK => ?_) AllReadyH.nil
      go_simp
      refine (in49b b.l.RA b.l.rn b.l.rc X30).mono ?_
      rintro e9 w9 ⟨rfl, rfl⟩
      try go_simp
      have hbV := below_alloc_ X30 (.cells #[.slice b.l.RA b.l.rn b.l.rc] 23)
      have hrV := heap_alloc_new_ X30 (.cells #[.slice b.l.RA b.l.rn b.l.rc] 23)
      obtain ⟨X31, hW⟩ : ∃ W2, X30.alloc (.cells #[.slice b.l.RA b.l.rn b.l.rc] 23) = W2 := ⟨_, rfl⟩
      obtain ⟨PR, hKe⟩ : ∃ Kx, X30.heap.size = Kx := ⟨_, rfl⟩
      rw [hW] at hbV hrV ⊢
      have HPR := Lib.hid (show w.heap.size ≤ PR from by rw [← hKe]; exact HS_30.out.size)
      have HnK3PR := Lib.hid (show K3 ≠ PR from by have := lt_of_block Hr3n_30.out; omega)
      have HnK4PR := Lib.hid (show K4 ≠ PR from by have := lt_of_block Hr4_30.out; omega)
      have HnPLPR := Lib.hid (show PL ≠ PR from by have := lt_of_block HL_30.out; omega)
      rw [hKe] at hrV ⊢
      have HS_31 := Lib.hid (HS_30.out.trans (hbV.mono HS_30.out.size))
      have Hr3_31 := Lib.hid ((hbV.block _ (lt_of_block Hr3n_30.out)).trans Hr3n_30.out)
      have Hr4_31 := Lib.hid ((hbV.block _ (lt_of_block Hr4_30.out)).trans Hr4_30.out)
      have HL_31 := Lib.hid ((hbV.block _ (lt_of_block HL_30.out)).trans HL_30.out)
      have HRn_31 := Lib.hid hrV
      refine hK.out _ _ HS_31.out (fun _ => ?_)
      clear hK K2 hbV hrV hW hKe
      try simp only [Act.put, List.setIfInBounds_toArray, List.set_cons_zero, List.set_cons_succ]
      refine wpAnyH_ready (rs := [14]) (by kernel_rfl) (by simp) ?_
      refine AllReadyH.cons (o := opRt4) rfl (fun K2 hK => ?_) AllReadyH.nil
      have hn0 := Hr3_31.out
      have w0 : X31.cell? ⟨K3, 0, none⟩ = some .nilFunc := by rw [cell_row hn0]; rfl
      have g0 : X31.frozen? ⟨K3, 0, none⟩ = false := frozen_row hn0
      go_simp
      have hk3 := keeps_setCell X31 K3 0 (.func (.func 70) #[] #[.pointer (some ⟨PL, 0, none⟩)])
      have hrow2 := set_same 0 (.func (.func 70) #[] #[.pointer (some ⟨PL, 0, none⟩)]) hn0
      obtain ⟨Y14, hV2⟩ : ∃ V2, X31.setCell ⟨K3, 0, none⟩ (.func (.func 70) #[] #[.pointer (some ⟨PL, 0, none⟩)]) = V2 := ⟨_, rfl⟩
      rw [hV2] at hk3 hrow2 ⊢
      have HSY14 := Lib.hid (HS_31.out.trans (hk3.below HS_31.out.size (fun q hq e => by have e : q = K3 := e; have := HK3.out; omega)))
      have Hr4_Y14 := Lib.hid ((hk3.block _ (lt_of_block Hr4_31.out) (fun e => by have e : K4 = K3 := e; have := HnK3K4.out; omega)).trans Hr4_31.out)
      have HL_Y14 := Lib.hid ((hk3.block _ (lt_of_block HL_31.out) (fun e => by have e : PL = K3 := e; have := HnK3PL.out; omega)).trans HL_31.out)
      have HR_Y14 := Lib.hid ((hk3.block _ (lt_of_block HRn_31.out) (fun e => by have e : PR = K3 := e; have := HnK3PR.out; omega)).trans HRn_31.out)
      have Hr3_Y14 := Lib.hid hrow2
      clear hk3 hrow2 hV2 w0 g0 hn0
      refine hK.out _ _ HSY14.out (fun _ => ?_)
      clear hK K2
      try simp only [Act.put, List.setIfInBounds_toArray, List.set_cons_zero, List.set_cons_succ]
      refine wpAnyH_ready (rs := [15]) (by kernel_rfl) (by simp) ?_
      refine AllReadyH.cons (o := opRt5) rfl (fun K2 hK => ?_) AllReadyH.nil
      have hn0 := Hr4_Y14.out
      have w0 : Y14.cell? ⟨K4, 0, none⟩ = some .nilFunc := by rw [cell_row hn0]; rfl
      have g0 : Y14.frozen? ⟨K4, 0, none⟩ = false := frozen_row hn0
      go_simp
      have hk3 := keeps_setCell Y14 K4 0 (.func (.func 70) #[] #[.pointer (some ⟨PR, 0, none⟩)])
      have hrow2 := set_same 0 (.func (.func 70) #[] #[.pointer (some ⟨PR, 0, none⟩)]) hn0
      obtain ⟨Y15, hV2⟩ : ∃ V2, Y14.setCell ⟨K4, 0, none⟩ (.func (.func 70) #[] #[.pointer (some ⟨PR, 0, none⟩)]) = V2 := ⟨_, rfl⟩
      rw [hV2] at hk3 hrow2 ⊢
      have HSY15 := Lib.hid (HSY14.out.trans (hk3.below HSY14.out.size (fun q hq e => by have e : q = K4 := e; have := HK4.out; omega)))
      have Hr3_Y15 := Lib.hid ((hk3.block _ (lt_of_block Hr3_Y14.out) (fun e => by have e : K3 = K4 := e; have := HnK3K4.out; omega)).trans Hr3_Y14.out)
      have HL_Y15 := Lib.hid ((hk3.block _ (lt_of_block HL_Y14.out) (fun e => by have e : PL = K4 := e; have := HnK4PL.out; omega)).trans HL_Y14.out)
      have HR_Y15 := Lib.hid ((hk3.block _ (lt_of_block HR_Y14.out) (fun e => by have e : PR = K4 := e; have := HnK4PR.out; omega)).trans HR_Y14.out)
      have Hr4_Y15 := Lib.hid hrow2
      clear hk3 hrow2 hV2 w0 g0 hn0
      refine hK.out _ _ HSY15.out (fun _ => ?_)
      clear hK K2
      try simp only [Act.put, List.setIfInBounds_toArray, List.set_cons_zero, List.set_cons_succ]
      refine wpAnyH_done (by kernel_rfl) ?_ _
      go_wp2_with fail
      go_meet
      case rel => exact ⟨K3, K4, PL, PR, rfl, rfl, Hr3_Y15.out, Hr4_Y15.out, HL_Y15.out, HR_Y15.out, HSY15.out⟩
    refine AllReadyH.cons (o := opRt2) rfl (fun K2 hK => ?_) AllReadyH.nil
    go_simp
    have hbV := below_alloc_ X26 (.cells #[.nilFunc] 73)
    have hrV := heap_alloc_new_ X26 (.cells #[.nilFunc] 73)
    obtain ⟨X32, hW⟩ : ∃ W2, X26.alloc (.cells #[.nilFunc] 73) = W2 := ⟨_, rfl⟩
    obtain ⟨K3, hKe⟩ : ∃ Kx, X26.heap.size = Kx := ⟨_, rfl⟩
    rw [hW] at hbV hrV ⊢
    have HK3 := Lib.hid (show w.heap.size ≤ K3 from by rw [← hKe]; exact HS_26.out.size)
    have HnK3K4 := Lib.hid (show K3 ≠ K4 from by have := lt_of_block Hr4n_26.out; omega)
    rw [hKe] at hrV ⊢
    have HS_32 := Lib.hid (HS_26.out.trans (hbV.mono HS_26.out.size))
    have Hr4_32 := Lib.hid ((hbV.block _ (lt_of_block Hr4n_26.out)).trans Hr4n_26.out)
    have Hr3n_32 := Lib.hid hrV
    refine hK.out _ _ HS_32.out (fun _ => ?_)
    clear hK K2 hbV hrV hW hKe
    try simp only [Act.put, List.setIfInBounds_toArray, List.set_cons_zero, List.set_cons_succ]
    refine wpAnyH_ready (rs := [5]) (by kernel_rfl) (by simp) ?_
    refine AllReadyH.cons (o := opRt0) rfl (fun K2 hK => ?_) AllReadyH.nil
    go_simp
    refine (in49b b.l.LA b.l.ln b.l.lc X32).mono ?_
    rintro e9 w9 ⟨rfl, rfl⟩
    try go_simp
    have hbV := below_alloc_ X32 (.cells #[.slice b.l.LA b.l.ln b.l.lc] 23)
    have hrV := heap_alloc_new_ X32 (.cells #[.slice b.l.LA b.l.ln b.l.lc] 23)
    obtain ⟨X33, hW⟩ : ∃ W2, X32.alloc (.cells #[.slice b.l.LA b.l.ln b.l.lc] 23) = W2 := ⟨_, rfl⟩
    obtain ⟨PL, hKe⟩ : ∃ Kx, X32.heap.size = Kx := ⟨_, rfl⟩
    rw [hW] at hbV hrV ⊢
    have HPL := Lib.hid (show w.heap.size ≤ PL from by rw [← hKe]; exact HS_32.out.size)
    have HnK3PL := Lib.hid (show K3 ≠ PL from by have := lt_of_block Hr3n_32.out; omega)
    have HnK4PL := Lib.hid (show K4 ≠ PL from by have := lt_of_block Hr4_32.out; omega)
    rw [hKe] at hrV ⊢
    have HS_33 := Lib.hid (HS_32.out.trans (hbV.mono HS_32.out.size))
    have Hr3_33 := Lib.hid ((hbV.block _ (lt_of_block Hr3n_32.out)).trans Hr3n_32.out)
    have Hr4_33 := Lib.hid ((hbV.block _ (lt_of_block Hr4_32.out)).trans Hr4_32.out)
    have HLn_33 := Lib.hid hrV
    refine hK.out _ _ HS_33.out (fun _ => ?_)
    clear hK K2 hbV hrV hW hKe
    try simp only [Act.put, List.setIfInBounds_toArray, List.set_cons_zero, List.set_cons_succ]
    refine wpAnyH_ready (rs := [11]) (by kernel_rfl) (by simp) ?_
    refine AllReadyH.cons (o := opRt1) rfl (fun K2 hK => ?_) AllReadyH.nil
    go_simp
    refine (in49b b.l.RA b.l.rn b.l.rc X33).mono ?_
    rintro e9 w9 ⟨rfl, rfl⟩
    try go_simp
    have hbV := below_alloc_ X33 (.cells #[.slice b.l.RA b.l.rn b.l.rc] 23)
    have hrV := heap_alloc_new_ X33 (.cells #[.slice b.l.RA b.l.rn b.l.rc] 23)
    obtain ⟨X34, hW⟩ : ∃ W2, X33.alloc (.cells #[.slice b.l.RA b.l.rn b.l.rc] 23) = W2 := ⟨_, rfl⟩
    obtain ⟨PR, hKe⟩ : ∃ Kx, X33.heap.size = Kx := ⟨_, rfl⟩
    rw [hW] at hbV hrV ⊢
    have HPR := Lib.hid (show w.heap.size ≤ PR from by rw [← hKe]; exact HS_33.out.size)
    have HnK3PR := Lib.hid (show K3 ≠ PR from by have := lt_of_block Hr3_33.out; omega)
    have HnK4PR := Lib.hid (show K4 ≠ PR from by have := lt_of_block Hr4_33.out; omega)
    have HnPLPR := Lib.hid (show PL ≠ PR from by have := lt_of_block HLn_33.out; omega)
    rw [hKe] at hrV ⊢
    have HS_34 := Lib.hid (HS_33.out.trans (hbV.mono HS_33.out.size))
    have Hr3_34 := Lib.hid ((hbV.block _ (lt_of_block Hr3_33.out)).trans Hr3_33.out)
    have Hr4_34 := Lib.hid ((hbV.block _ (lt_of_block Hr4_33.out)).trans Hr4_33.out)
    have HL_34 := Lib.hid ((hbV.block _ (lt_of_block HLn_33.out)).trans HLn_33.out)
    have HRn_34 := Lib.hid hrV
    refine hK.out _ _ HS_34.out (fun _ => ?_)
    clear hK K2 hbV hrV hW hKe
    try simp only [Act.put, List.setIfInBounds_toArray, List.set_cons_zero, List.set_cons_succ]
    refine wpAnyH_ready (rs := [14]) (by kernel_rfl) (by simp) ?_
    refine AllReadyH.cons (o := opRt4) rfl (fun K2 hK => ?_) AllReadyH.nil
    have hn0 := Hr3_34.out
    have w0 : X34.cell? ⟨K3, 0, none⟩ = some .nilFunc := by rw [cell_row hn0]; rfl
    have g0 : X34.frozen? ⟨K3, 0, none⟩ = false := frozen_row hn0
    go_simp
    have hk3 := keeps_setCell X34 K3 0 (.func (.func 70) #[] #[.pointer (some ⟨PL, 0, none⟩)])
    have hrow2 := set_same 0 (.func (.func 70) #[] #[.pointer (some ⟨PL, 0, none⟩)]) hn0
    obtain ⟨Y14, hV2⟩ : ∃ V2, X34.setCell ⟨K3, 0, none⟩ (.func (.func 70) #[] #[.pointer (some ⟨PL, 0, none⟩)]) = V2 := ⟨_, rfl⟩
    rw [hV2] at hk3 hrow2 ⊢
    have HSY14 := Lib.hid (HS_34.out.trans (hk3.below HS_34.out.size (fun q hq e => by have e : q = K3 := e; have := HK3.out; omega)))
    have Hr4_Y14 := Lib.hid ((hk3.block _ (lt_of_block Hr4_34.out) (fun e => by have e : K4 = K3 := e; have := HnK3K4.out; omega)).trans Hr4_34.out)
    have HL_Y14 := Lib.hid ((hk3.block _ (lt_of_block HL_34.out) (fun e => by have e : PL = K3 := e; have := HnK3PL.out; omega)).trans HL_34.out)
    have HR_Y14 := Lib.hid ((hk3.block _ (lt_of_block HRn_34.out) (fun e => by have e : PR = K3 := e; have := HnK3PR.out; omega)).trans HRn_34.out)
    have Hr3_Y14 := Lib.hid hrow2
    clear hk3 hrow2 hV2 w0 g0 hn0
    refine hK.out _ _ HSY14.out (fun _ => ?_)
    clear hK K2
    try simp only [Act.put, List.setIfInBounds_toArray, List.set_cons_zero, List.set_cons_succ]
    refine wpAnyH_ready (rs := [15]) (by kernel_rfl) (by simp) ?_
    refine AllReadyH.cons (o := opRt5) rfl (fun K2 hK => ?_) AllReadyH.nil
    have hn0 := Hr4_Y14.out
    have w0 : Y14.cell? ⟨K4, 0, none⟩ = some .nilFunc := by rw [cell_row hn0]; rfl
    have g0 : Y14.frozen? ⟨K4, 0, none⟩ = false := frozen_row hn0
    go_simp
    have hk3 := keeps_setCell Y14 K4 0 (.func (.func 70) #[] #[.pointer (some ⟨PR, 0, none⟩)])
    have hrow2 := set_same 0 (.func (.func 70) #[] #[.pointer (some ⟨PR, 0, none⟩)]) hn0
    obtain ⟨Y15, hV2⟩ : ∃ V2, Y14.setCell ⟨K4, 0, none⟩ (.func (.func 70) #[] #[.pointer (some ⟨PR, 0, none⟩)]) = V2 := ⟨_, rfl⟩
    rw [hV2] at hk3 hrow2 ⊢
    have HSY15 := Lib.hid (HSY14.out.trans (hk3.below HSY14.out.size (fun q hq e => by have e : q = K4 := e; have := HK4.out; omega)))
    have Hr3_Y15 := Lib.hid ((hk3.block _ (lt_of_block Hr3_Y14.out) (fun e => by have e : K3 = K4 := e; have := HnK3K4.out; omega)).trans Hr3_Y14.out)
    have HL_Y15 := Lib.hid ((hk3.block _ (lt_of_block HL_Y14.out) (fun e => by have e : PL = K4 := e; have := HnK4PL.out; omega)).trans HL_Y14.out)
    have HR_Y15 := Lib.hid ((hk3.block _ (lt_of_block HR_Y14.out) (fun e => by have e : PR = K4 := e; have := HnK4PR.out; omega)).trans HR_Y14.out)
    have Hr4_Y15 := Lib.hid hrow2
    clear hk3 hrow2 hV2 w0 g0 hn0
    refine hK.out _ _ HSY15.out (fun _ => ?_)
    clear hK K2
    try simp only [Act.put, List.setIfInBounds_toArray, List.set_cons_zero, List.set_cons_succ]
    refine wpAnyH_done (by kernel_rfl) ?_ _
    go_wp2_with fail
    go_meet
    case rel => exact ⟨K3, K4, PL, PR, rfl, rfl, Hr3_Y15.out, Hr4_Y15.out, HL_Y15.out, HR_Y15.out, HSY15.out⟩
  case rest =>
    obtain ⟨k3, k4, pl, pr, rfl, rfl, r3, r4, rl, rr, hbx⟩ := hcut
    have DC := Lib.hid (D.out.below hbx (Nat.le_refl _))
    have HB := Lib.hid hbx
    have HTb := Lib.hid (show Tells wc (.func (.func 77) #[] #[.pointer (some ⟨k3, 0, none⟩), .pointer (some ⟨k4, 0, none⟩)]) (fun x => 0 ≤ x ∧ x < b.l.N) (fun y => !decide (y ∈ b.l.ls) && !decide (y ∈ b.l.rs)) from by
      have c3 : wc.cell? ⟨k3, 0, none⟩ = some (.func (.func 70) #[] #[.pointer (some ⟨pl, 0, none⟩)]) := by rw [cell_row r3]; rfl
      have c4 : wc.cell? ⟨k4, 0, none⟩ = some (.func (.func 70) #[] #[.pointer (some ⟨pr, 0, none⟩)]) := by rw [cell_row r4]; rfl
      have tl := fun D => tells70 DC.out.ls (cap := b.l.lc) (by have := Hok.out.ln; omega) (show wc.cell? ⟨pl, 0, none⟩ = some (.slice b.l.LA b.l.ln b.l.lc) by rw [cell_row rl]; rfl) D
      have tr := fun D => tells70 DC.out.rs (cap := b.l.rc) (by have := Hok.out.rn; omega) (show wc.cell? ⟨pr, 0, none⟩ = some (.slice b.l.RA b.l.rn b.l.rc) by rw [cell_row rr]; rfl) D
      exact ⟨77, #[], #[.pointer (some ⟨k3, 0, none⟩), .pointer (some ⟨k4, 0, none⟩)], rfl, enters77, fun W2 x _ hb => between77 k3 k4 _ _ _ _ x W2 ((hb.cell (p := ⟨k3, 0, none⟩) (lt_of_cell c3)).trans c3) ((hb.cell (p := ⟨k4, 0, none⟩) (lt_of_cell c4)).trans c4) ((tl _).below hb) ((tr _).below hb)⟩)
    have K78 := Lib.hid (out78 b f (fun y => !decide (y ∈ b.l.ls) && !decide (y ∈ b.l.rs)) 77 #[] #[.pointer (some ⟨k3, 0, none⟩), .pointer (some ⟨k4, 0, none⟩)] wc DC.out Hok.out Hf.out HTb.out)
    clear r3 r4 rl rr hbx
    go_wp2_with fail
    refine K78.out.mono ?_
    rintro en w2 ⟨rfl, hb2⟩
    have HB2 := Lib.hid (HB.out.trans (hb2.mono HB.out.size))
    have ceq := fun w => run_eql109 w (outK b.zs f (fun y => !decide (y ∈ b.l.ls) && !decide (y ∈ b.l.rs)) b.l.n) (fun _ => 0)
    rw [gV_zero] at ceq
    obtain ⟨r, hr⟩ : ∃ r, rightB b f = r := ⟨_, rfl⟩
    have HR := Lib.hid hr
    unfold rightB at hr
    rw [hr] at ceq
    clear hb2 hr
    go_wp2_with fail
    go_ret
    exact ⟨by rw [HR.out] <;> rfl, HB2.out⟩
end
end Go.Proofs.Ytigohccehllmnaa
