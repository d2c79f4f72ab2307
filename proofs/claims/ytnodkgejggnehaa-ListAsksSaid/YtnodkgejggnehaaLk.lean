/- Stage 5: the links of an item that are allowed, as a sequence. -/
import Derived.Test.YtnodkgejggnehaaSz
import Derived.Test.YtnodkgejggnehaaRgb
import Derived.Test.YtnodkgejggnehaaSc
import Derived.LoopIn
namespace Go.Proofs.Ytnodkgejggnehaa
set_option linter.unusedSimpArgs false
set_option linter.unusedVariables false
open Go.RowKit Go.Shelf
attribute [local go_sem ↓] exec_app at_app
attribute [local go_sem] Oper.semAt_some
/-- The end of a link in a list. -/
def endI (zs : List Rg) (l k : Nat) : Int := if l = 0 then (gAt zs k).lo else (gAt zs k).hi
/-- What a function that tells which links are allowed says of one. -/
def Alw (fa : Nat) (ra la : Array Value) (k : Nat) (q : Bool) (W : World) : Prop :=
  ∀ W2, Keeps (fun _ => False) W W2 → Calls Try.prog fa (ra ++ #[.int .i64 (k : Int)] ++ la) W2 fun e W3 => e = .returned (.bool q) ∧ Below W2.heap.size W2 W3
/-- A link of an item is allowed. -/
def LSel (B : Nat) (sl sr : Int) (A : Option Addr) (n cap : Nat) (zs : List Rg) (A2 : Option Addr) (kn kc : Nat) (ks : List Int) (mp : Value) (l i fa : Nat) (ra la : Array Value) (k : Nat) (W : World) (q : Bool) : Prop :=
  ∃ pt op, Brd W B sl sr A n cap zs A2 kn kc ks pt op mp ∧ (endI zs l k = (i : Int) → Alw fa ra la k q W) ∧ (endI zs l k ≠ (i : Int) → q = false)
theorem keeps_old2 {O Mut : Nat → Prop} {W wr W3 : World} (hO : ∀ k, O k → W.heap.size ≤ k) (h1 : Keeps Mut W wr) (h2 : Keeps (fun k => Mut k ∨ O k) wr W3) : Keeps Mut W W3 :=
  ⟨h2.os.trans h1.os, h2.tape.trans h1.tape, h2.output.trans h1.output, Nat.le_trans h1.size h2.size, fun k hk hm => (h2.block k (Nat.lt_of_lt_of_le hk h1.size) (fun e => e.elim hm (fun e => by have := hO k e; omega))).trans (h1.block k hk hm)⟩
set_option maxRecDepth 100000 in
set_option maxHeartbeats 16000000 in
theorem links91 (B : Nat) (sl sr : Int) (A : Option Addr) (n cap : Nat) (zs : List Rg) (A2 : Option Addr) (kn kc : Nat) (ks : List Int) (pt : Nat → Int) (op : Nat → Bool) (mp : Value) (l i fa : Nat) (ra la : Array Value) (eg : ∀ args w, (callFunc fa args).run Try.prog w = .ok (.enter fa args) w) (b1 b2 b3 : Nat) (w : World) (h : Brd w B sl sr A n cap zs A2 kn kc ks pt op mp) (hl : l < 2) (hi : i < 12) (hn : n ≤ 40)
    (h1 : w.cell? ⟨b1, 0, none⟩ = some (.pointer (some ⟨B, 0, none⟩))) (h20 : w.cell? ⟨b2, 0, none⟩ = some (.int .i64 (l : Int))) (h21 : w.cell? ⟨b2, 1, none⟩ = some (.int .i64 (i : Int))) (h3 : w.cell? ⟨b3, 0, none⟩ = some (.func (.func fa) ra la)) :
    SeqB Try.prog 91 #[.pointer (some ⟨b1, 0, none⟩), .pointer (some ⟨b2, 0, none⟩), .pointer (some ⟨b3, 0, none⟩)] n (fun k W q => LSel B sl sr A n cap zs A2 kn kc ks mp l i fa ra la k W q) (fun k => k = b1 ∨ k = b2 ∨ k = b3) w := by
  intro lp Mut J Jx W hW hMut hJ hJx hY h0
  have cc : ∀ (b o : Nat) (v : Value), (b = b1 ∨ b = b2 ∨ b = b3) → w.cell? ⟨b, o, none⟩ = some v → ∀ W', Keeps Mut W W' → W'.cell? ⟨b, o, none⟩ = some v := fun b o v hb hv W' hK => by
    have e := lt_of_cell hv
    rw [keep_cells hK (Nat.lt_of_lt_of_le e hW.size) (fun hm => (hMut _ hm).2 hb), keep_cells hW e (fun e => e)]
    exact hv
  have hBW := h.keep hW (fun e => e) (fun _ _ e => e) (fun _ _ e => e)
  have x1 := cc b1 0 _ (.inl rfl) h1 W (Keeps.refl _ _)
  have c2 := hBW.c2
  have HC1 := Lib.hid (cc b1 0 _ (.inl rfl) h1)
  have HC20 := Lib.hid (cc b2 0 _ (.inr (.inl rfl)) h20)
  have HC21 := Lib.hid (cc b2 1 _ (.inr (.inl rfl)) h21)
  have HC3 := Lib.hid (cc b3 0 _ (.inr (.inr rfl)) h3)
  have HM := Lib.hid hMut
  have HJa := Lib.hid hJ
  have HJx := Lib.hid hJx
  have HY := Lib.hid hY
  have H0 := Lib.hid h0
  have hb3l : b3 < w.heap.size := lt_of_cell h3
  have hb2l : b2 < w.heap.size := lt_of_cell h20
  have hb1l : b1 < w.heap.size := lt_of_cell h1
  have HWl := Lib.hid hW.size
  have HbB := Lib.hid (show b1 < W.heap.size ∧ b2 < W.heap.size ∧ b3 < W.heap.size from ⟨by have := HWl.out; omega, by have := HWl.out; omega, by have := HWl.out; omega⟩)
  have Heg := Lib.hid eg
  clear eg cc hMut hJ hJx hY h0 hW h h1 h20 h21 h3 hBW hb1l hb2l hb3l
  refine (callsIn_wide (n := 3)).1 ?_
  refine callsIn_of_wp Try.func91 rfl trivial ?_ rfl
  simp only [Try.ntmps91, List.size_toArray, List.length_cons, List.length_nil, Nat.reduceAdd, Nat.reduceSub, Array.replicate_succ, Array.replicate_zero, List.push_toArray, List.append_toArray, List.nil_append, List.cons_append]
  gi_wp2_with fail
  clear x1 c2
  gi_loopw [5, 12] (fun y a wr => ∃ k : Nat, k ≤ n ∧ a = .int .i64 (k : Int) ∧ Hid (∃ O : Nat → Prop, (∀ k, O k → W.heap.size ≤ k ∧ k < wr.heap.size) ∧ J k O wr ∧ Keeps Mut W wr)) (fun y a _ => n - (intOf a).toNat)
  case atStart => exact ⟨0, Nat.zero_le _, rfl, Lib.hid ⟨fun _ => False, fun _ e => e.elim, H0.out, Keeps.refl _ _⟩⟩
  case round =>
    obtain ⟨k, hk, rfl, HI⟩ := hrel
    by_cases hlt : k < n
    · obtain ⟨O, hO, hj, hK⟩ := HI.out
      obtain ⟨q, ⟨pt1, op1, hbrd, halw, hnot⟩, hqf, hqt⟩ := HY.out k wr O hlt hK.size hO hj
      have ke := ends72 B sl sr A n cap zs A2 kn kc ks pt1 op1 mp k
      obtain ⟨dm, hdm⟩ : ∃ dm : Bool, (endI zs l k == (i : Int)) = dm := ⟨_, rfl⟩
      obtain ⟨gx, hgx⟩ : ∃ g, gAt zs k = g := ⟨_, rfl⟩
      have hen : endI zs l k = if l = 0 then gx.lo else gx.hi := by unfold endI; rw [hgx]
      rw [hgx] at ke
      obtain ⟨xl, xh⟩ := gx
      simp only at ke hen
      obtain ⟨en, hen2⟩ : ∃ en, endI zs l k = en := ⟨_, rfl⟩
      rw [hen2] at hdm halw hnot hen
      have ixl : ∀ (W : World), (Instr.index 103 (.agg #[.int .i64 0, .int .i64 xl, .int .i64 1, .int .i64 xh]) (.int .i64 (l : Int))).run Try.prog W = .ok (.agg #[.int .i64 (l : Int), .int .i64 en]) W := by
        intro W
        rw [hen]
        rcases (by omega : l = 0 ∨ l = 1) with rfl | rfl <;> kernel_rfl
      have HJ := Lib.hid hj
      have HK := Lib.hid hK
      have HO := Lib.hid hO
      have HBr := Lib.hid hbrd
      have HKe := Lib.hid ke
      have HA := Lib.hid (show dm = true → Alw fa ra la k q wr from fun e => halw (by rw [e] at hdm; exact of_decide_eq_true hdm))
      have HN := Lib.hid (show dm = false → q = false from fun e => hnot (fun h => by rw [h] at hdm; rw [← hdm] at e; simp at e))
      have HQf := Lib.hid hqf
      have HQt := Lib.hid hqt
      clear hj hK hO hbrd halw hnot hqf hqt ke hen hen2 hgx HI
      gi_wp2_with fail
      rename_i K1 hK1 K0 hK0
      have HK1 := Lib.hid hK1
      have HK0 := Lib.hid hK0
      clear hK1 hK0
      refine Code.wpIn_mono (Q := Exit.then K0 (fun _ _ _ => False)) (fun e a w h => by
        cases e with
        | normal => exact h
        | ret => exact h.elim
        | exit id => exact h.elim
        | goto l => exact h.elim
        | panic c => exact h.elim
        | outgrown => exact h.elim) ?_
      have cBox : ∀ W', Keeps (fun k => Mut k ∨ O k) wr W' → Keeps Mut W W' := fun W' h => keeps_old2 (fun k e => (HO.out k e).1) HK.out h
      have cA : ∀ W', Keeps (fun k => Mut k ∨ O k) wr W' → W'.cell? ⟨b1, 0, none⟩ = some (.pointer (some ⟨B, 0, none⟩)) := fun W' h => HC1.out W' (cBox W' h)
      have cL : ∀ W', Keeps (fun k => Mut k ∨ O k) wr W' → W'.cell? ⟨b2, 0, none⟩ = some (.int .i64 (l : Int)) := fun W' h => HC20.out W' (cBox W' h)
      have cI : ∀ W', Keeps (fun k => Mut k ∨ O k) wr W' → W'.cell? ⟨b2, 1, none⟩ = some (.int .i64 (i : Int)) := fun W' h => HC21.out W' (cBox W' h)
      have cF : ∀ W', Keeps (fun k => Mut k ∨ O k) wr W' → W'.cell? ⟨b3, 0, none⟩ = some (.func (.func fa) ra la) := fun W' h => HC3.out W' (cBox W' h)
      have hS0 : Keeps (fun k => Mut k ∨ O k) wr wr.drew := Keeps.of_new (drew_b _ _)
      have d0 : ((l : Int) == (l : Int)) = true := beq_self_eq_true _
      have HcB := Lib.hid cBox
      clear cBox
      refine Out.region_R (z := 100) (S := fun W' => Keeps (fun k => Mut k ∨ O k) wr W') (by kernel_rfl) ?_
      refine Out.anyR_take (i := 0) (oi := { dst := some 15, op := Go.Op.load 61 (Go.Operand.tmp 1), type := 61, pos := "board.go:85", after := #[], guard := none }) (v := .pointer (some ⟨B, 0, none⟩)) rfl (by decide) (by kernel_rfl) (by kernel_rfl) (by kernel_rfl) (by kernel_rfl) (fun _ _ _ h => h) (Or.inl ⟨by rfl, by intro W' hSw; (try dsimp only at hSw); have y0 := cA W' hSw; go_simp⟩) hS0 ?_
      try simp only [Act.put, List.setIfInBounds_toArray, List.set_cons_zero, List.set_cons_succ]
      refine Out.anyR_take (i := 1) (oi := { dst := some 16, op := Go.Op.move (Go.Operand.tmp 5), type := 3, pos := "board.go:85", after := #[], guard := none }) (v := .int .i64 (k : Int)) rfl (by decide) (by kernel_rfl) (by kernel_rfl) (by kernel_rfl) (by kernel_rfl) (fun _ _ _ h => h) (Or.inl ⟨by rfl, by intro W' hSw; (try dsimp only at hSw); go_simp⟩) hS0 ?_
      try simp only [Act.put, List.setIfInBounds_toArray, List.set_cons_zero, List.set_cons_succ]
      refine Out.anyR_take (i := 3) (oi := { dst := some 18, op := Go.Op.fieldAddr 100 (Go.Operand.tmp 2) 0, type := 0, pos := "board.go:85", after := #[], guard := none }) (v := .pointer (some ⟨b2, 0, none⟩)) rfl (by decide) (by kernel_rfl) (by kernel_rfl) (by kernel_rfl) (by kernel_rfl) (fun _ _ _ h => h) (Or.inl ⟨by rfl, by intro W' hSw; (try dsimp only at hSw); go_simp⟩) hS0 ?_
      try simp only [Act.put, List.setIfInBounds_toArray, List.set_cons_zero, List.set_cons_succ]
      refine Out.anyR_take (i := 4) (oi := { dst := some 19, op := Go.Op.load 3 (Go.Operand.tmp 18), type := 3, pos := "board.go:85", after := #[{ on := 3, ground := Go.Ground.data }], guard := none }) (v := .int .i64 (l : Int)) rfl (by decide) (by kernel_rfl) (by kernel_rfl) (by kernel_rfl) (by kernel_rfl) (fun _ _ _ h => h) (Or.inl ⟨by rfl, by intro W' hSw; (try dsimp only at hSw); have y0 := cL W' hSw; go_simp⟩) hS0 ?_
      try simp only [Act.put, List.setIfInBounds_toArray, List.set_cons_zero, List.set_cons_succ]
      refine Out.anyR_take (i := 6) (oi := { dst := some 21, op := Go.Op.load 100 (Go.Operand.tmp 2), type := 100, pos := "board.go:85", after := #[], guard := none }) (v := .agg #[.int .i64 (l : Int), .int .i64 (i : Int)]) rfl (by decide) (by kernel_rfl) (by kernel_rfl) (by kernel_rfl) (by kernel_rfl) (fun _ _ _ h => h) (Or.inl ⟨by rfl, by intro W' hSw; (try dsimp only at hSw); have y0 := cL W' hSw; have y1 := cI W' hSw; go_simp⟩) hS0 ?_
      try simp only [Act.put, List.setIfInBounds_toArray, List.set_cons_zero, List.set_cons_succ]
      obtain ⟨X, hX⟩ : ∃ X, wr.drew = X := ⟨_, rfl⟩
      rw [hX] at hS0 ⊢
      have HkX := Lib.hid (show Keeps (fun _ => False) wr X by rw [← hX]; exact Keeps.of_new (drew_b _ _))
      have HS0 := Lib.hid hS0
      clear hX hS0
      refine Out.anyR_one (i := 2) (by kernel_rfl) rfl (by rfl) ?_
      intro K hK
      have HKK := Lib.hid hK
      clear hK
      gi_wp2_with fail
      refine ⟨trivial, (callsIn_wide.2 (HKe.out X (HBr.out.keep HkX.out (fun e => e) (fun _ _ e => e) (fun _ _ e => e)) hlt)).mono ?_⟩
      rintro e w2 ⟨rfl, hb2⟩
      have hS2 : Keeps (fun k => Mut k ∨ O k) wr w2 := HS0.out.trans (Keeps.of_new hb2)
      have Hk2 := Lib.hid (HkX.out.trans (Keeps.of_new hb2))
      refine HKK.out _ _ (fun _ _ => hS2) ?_
      clear HKK K hb2
      try simp only [Act.put, List.setIfInBounds_toArray, List.set_cons_zero, List.set_cons_succ]
      refine Out.anyR_take (i := 5) (oi := { dst := some 20, op := Go.Op.index 103 (Go.Operand.tmp 17) (Go.Operand.tmp 19), type := 100, pos := "board.go:85", after := #[{ on := 2, ground := Go.Ground.data }, { on := 4, ground := Go.Ground.data }], guard := none }) (v := .agg #[.int .i64 (l : Int), .int .i64 en]) rfl (by decide) (by kernel_rfl) (by kernel_rfl) (by kernel_rfl) (by kernel_rfl) (fun _ _ _ h => h) (Or.inl ⟨by rfl, by intro W' hSw; (try dsimp only at hSw); have y0 := ixl W'; go_simp⟩) hS2 ?_
      try simp only [Act.put, List.setIfInBounds_toArray, List.set_cons_zero, List.set_cons_succ]
      rcases dm with _ | _
      · have HqF := Lib.hid (HN.out rfl)
        refine Out.anyR_take (i := 7) (oi := { dst := some 22, op := Go.Op.binOp Go.BinOp.eql 100 (Go.Operand.tmp 20) (Go.Operand.tmp 21) 100, type := 4, pos := "board.go:85", after := #[{ on := 5, ground := Go.Ground.data }, { on := 6, ground := Go.Ground.data }], guard := none }) (v := .bool false) rfl (by decide) (by kernel_rfl) (by kernel_rfl) (by kernel_rfl) (by kernel_rfl) (fun _ _ _ h => h) (Or.inl ⟨by rfl, by intro W' hSw; (try dsimp only at hSw); go_simp⟩) hS2 ?_
        try simp only [Act.put, List.setIfInBounds_toArray, List.set_cons_zero, List.set_cons_succ]
        refine Out.anyR_take (i := 8) (oi := { dst := some 23, op := Go.Op.move (Go.Operand.tmp 22), type := 4, pos := "board.go:85", after := #[{ on := 7, ground := Go.Ground.data }, { on := 2, ground := Go.Ground.chain }], guard := none }) (v := .bool false) rfl (by decide) (by kernel_rfl) (by kernel_rfl) (by kernel_rfl) (by kernel_rfl) (fun _ _ _ h => h) (Or.inl ⟨by rfl, by intro W' hSw; (try dsimp only at hSw); go_simp⟩) hS2 ?_
        try simp only [Act.put, List.setIfInBounds_toArray, List.set_cons_zero, List.set_cons_succ]
        refine Out.anyR_take (i := 9) (oi := { dst := some 24, op := Go.Op.load 98 (Go.Operand.tmp 3), type := 98, pos := "board.go:85", after := #[{ on := 8, ground := Go.Ground.guard }], guard := some (8, true) }) (v := undef) rfl (by decide) (by kernel_rfl) (by kernel_rfl) (by kernel_rfl) (by kernel_rfl) (fun _ _ _ h => h) (Or.inr ⟨by rfl, rfl⟩) hS2 ?_
        try simp only [Act.put, List.setIfInBounds_toArray, List.set_cons_zero, List.set_cons_succ]
        refine Out.anyR_take (i := 10) (oi := { dst := some 25, op := Go.Op.move (Go.Operand.tmp 5), type := 3, pos := "board.go:85", after := #[{ on := 8, ground := Go.Ground.guard }], guard := some (8, true) }) (v := undef) rfl (by decide) (by kernel_rfl) (by kernel_rfl) (by kernel_rfl) (by kernel_rfl) (fun _ _ _ h => h) (Or.inr ⟨by rfl, rfl⟩) hS2 ?_
        try simp only [Act.put, List.setIfInBounds_toArray, List.set_cons_zero, List.set_cons_succ]
        refine Out.anyR_take (i := 11) (oi := { dst := some 26, op := Go.Op.call { callee := Go.Callee.value (Go.Operand.tmp 24), args := #[Go.Operand.tmp 25], argTypes := #[3] }, type := 4, pos := "board.go:85", after := #[{ on := 9, ground := Go.Ground.data }, { on := 10, ground := Go.Ground.data }, { on := 8, ground := Go.Ground.chain }, { on := 8, ground := Go.Ground.guard }], guard := some (8, true) }) (v := undef) rfl (by decide) (by kernel_rfl) (by kernel_rfl) (by kernel_rfl) (by kernel_rfl) (fun _ _ _ h => h) (Or.inr ⟨by rfl, rfl⟩) hS2 ?_
        try simp only [Act.put, List.setIfInBounds_toArray, List.set_cons_zero, List.set_cons_succ]
        refine Out.anyR_take (i := 12) (oi := { dst := some 27, op := Go.Op.pick (Go.Operand.tmp 23) (Go.Operand.tmp 26) (Go.Operand.const (Go.Value.bool false)), type := 4, pos := "board.go:85", after := #[{ on := 8, ground := Go.Ground.data }, { on := 11, ground := Go.Ground.data }], guard := none }) (v := .bool false) rfl (by decide) (by kernel_rfl) (by kernel_rfl) (by kernel_rfl) (by kernel_rfl) (fun _ _ _ h => h) (Or.inl ⟨by rfl, by intro W' hSw; (try dsimp only at hSw); go_simp⟩) hS2 ?_
        try simp only [Act.put, List.setIfInBounds_toArray, List.set_cons_zero, List.set_cons_succ]
        refine Out.anyR_take (i := 13) (oi := { dst := some 28, op := Go.Op.move (Go.Operand.tmp 27), type := 4, pos := "board.go:85", after := #[{ on := 12, ground := Go.Ground.data }, { on := 11, ground := Go.Ground.chain }], guard := none }) (v := .bool false) rfl (by decide) (by kernel_rfl) (by kernel_rfl) (by kernel_rfl) (by kernel_rfl) (fun _ _ _ h => h) (Or.inl ⟨by rfl, by intro W' hSw; (try dsimp only at hSw); go_simp⟩) hS2 ?_
        try simp only [Act.put, List.setIfInBounds_toArray, List.set_cons_zero, List.set_cons_succ]
        refine Out.anyR_take (i := 14) (oi := { dst := some 29, op := Go.Op.move (Go.Operand.tmp 0), type := 98, pos := "board.go:85", after := #[{ on := 13, ground := Go.Ground.guard }], guard := some (13, true) }) (v := undef) rfl (by decide) (by kernel_rfl) (by kernel_rfl) (by kernel_rfl) (by kernel_rfl) (fun _ _ _ h => h) (Or.inr ⟨by rfl, rfl⟩) hS2 ?_
        try simp only [Act.put, List.setIfInBounds_toArray, List.set_cons_zero, List.set_cons_succ]
        refine Out.anyR_take (i := 15) (oi := { dst := some 30, op := Go.Op.move (Go.Operand.tmp 5), type := 3, pos := "board.go:85", after := #[{ on := 13, ground := Go.Ground.guard }], guard := some (13, true) }) (v := undef) rfl (by decide) (by kernel_rfl) (by kernel_rfl) (by kernel_rfl) (by kernel_rfl) (fun _ _ _ h => h) (Or.inr ⟨by rfl, rfl⟩) hS2 ?_
        try simp only [Act.put, List.setIfInBounds_toArray, List.set_cons_zero, List.set_cons_succ]
        refine Out.anyR_take (i := 16) (oi := { dst := some 31, op := Go.Op.call { callee := Go.Callee.value (Go.Operand.tmp 29), args := #[Go.Operand.tmp 30], argTypes := #[3] }, type := 4, pos := "board.go:85", after := #[{ on := 14, ground := Go.Ground.data }, { on := 15, ground := Go.Ground.data }, { on := 13, ground := Go.Ground.chain }, { on := 13, ground := Go.Ground.guard }], guard := some (13, true) }) (v := undef) rfl (by decide) (by kernel_rfl) (by kernel_rfl) (by kernel_rfl) (by kernel_rfl) (fun _ _ _ h => h) (Or.inr ⟨by rfl, rfl⟩) hS2 ?_
        try simp only [Act.put, List.setIfInBounds_toArray, List.set_cons_zero, List.set_cons_succ]
        refine Out.anyR_take (i := 17) (oi := { dst := some 32, op := Go.Op.unOp Go.UnOp.not 4 (Go.Operand.tmp 31), type := 4, pos := "board.go:85", after := #[{ on := 16, ground := Go.Ground.data }, { on := 13, ground := Go.Ground.guard }], guard := some (13, true) }) (v := undef) rfl (by decide) (by kernel_rfl) (by kernel_rfl) (by kernel_rfl) (by kernel_rfl) (fun _ _ _ h => h) (Or.inr ⟨by rfl, rfl⟩) hS2 ?_
        try simp only [Act.put, List.setIfInBounds_toArray, List.set_cons_zero, List.set_cons_succ]
        refine Out.anyR_take (i := 18) (oi := { dst := some 33, op := Go.Op.pick (Go.Operand.tmp 28) (Go.Operand.tmp 32) (Go.Operand.const (Go.Value.bool false)), type := 4, pos := "board.go:85", after := #[{ on := 13, ground := Go.Ground.data }, { on := 17, ground := Go.Ground.data }], guard := none }) (v := .bool false) rfl (by decide) (by kernel_rfl) (by kernel_rfl) (by kernel_rfl) (by kernel_rfl) (fun _ _ _ h => h) (Or.inl ⟨by rfl, by intro W' hSw; (try dsimp only at hSw); go_simp⟩) hS2 ?_
        try simp only [Act.put, List.setIfInBounds_toArray, List.set_cons_zero, List.set_cons_succ]
        refine Out.anyR_done (by kernel_rfl) ?_ _
        refine HK0.out _ _ ?_
        clear hS2 HK0
        gi_wp2_with fail
        refine HK1.out _ _ ?_
        clear HK1
        gi_wp2_with fail
        go_roundw
        case rel => exact ⟨k + 1, by omega, by go_num, Lib.hid ⟨O, fun j e => ⟨(HO.out j e).1, Nat.lt_of_lt_of_le (HO.out j e).2 Hk2.out.size⟩, HJa.out _ _ _ _ (HQf.out HqF.out) Hk2.out.none, HcB.out _ Hk2.out.none⟩⟩
        case measure => simp [intOf]; omega
      · have Hkal := Lib.hid (HA.out rfl w2 Hk2.out)
        refine Out.anyR_take (i := 7) (oi := { dst := some 22, op := Go.Op.binOp Go.BinOp.eql 100 (Go.Operand.tmp 20) (Go.Operand.tmp 21) 100, type := 4, pos := "board.go:85", after := #[{ on := 5, ground := Go.Ground.data }, { on := 6, ground := Go.Ground.data }], guard := none }) (v := .bool true) rfl (by decide) (by kernel_rfl) (by kernel_rfl) (by kernel_rfl) (by kernel_rfl) (fun _ _ _ h => h) (Or.inl ⟨by rfl, by intro W' hSw; (try dsimp only at hSw); go_simp⟩) hS2 ?_
        try simp only [Act.put, List.setIfInBounds_toArray, List.set_cons_zero, List.set_cons_succ]
        refine Out.anyR_take (i := 8) (oi := { dst := some 23, op := Go.Op.move (Go.Operand.tmp 22), type := 4, pos := "board.go:85", after := #[{ on := 7, ground := Go.Ground.data }, { on := 2, ground := Go.Ground.chain }], guard := none }) (v := .bool true) rfl (by decide) (by kernel_rfl) (by kernel_rfl) (by kernel_rfl) (by kernel_rfl) (fun _ _ _ h => h) (Or.inl ⟨by rfl, by intro W' hSw; (try dsimp only at hSw); go_simp⟩) hS2 ?_
        try simp only [Act.put, List.setIfInBounds_toArray, List.set_cons_zero, List.set_cons_succ]
        refine Out.anyR_take (i := 9) (oi := { dst := some 24, op := Go.Op.load 98 (Go.Operand.tmp 3), type := 98, pos := "board.go:85", after := #[{ on := 8, ground := Go.Ground.guard }], guard := some (8, true) }) (v := .func (.func fa) ra la) rfl (by decide) (by kernel_rfl) (by kernel_rfl) (by kernel_rfl) (by kernel_rfl) (fun _ _ _ h => h) (Or.inl ⟨by rfl, by intro W' hSw; (try dsimp only at hSw); have y0 := cF W' hSw; go_simp⟩) hS2 ?_
        try simp only [Act.put, List.setIfInBounds_toArray, List.set_cons_zero, List.set_cons_succ]
        refine Out.anyR_take (i := 10) (oi := { dst := some 25, op := Go.Op.move (Go.Operand.tmp 5), type := 3, pos := "board.go:85", after := #[{ on := 8, ground := Go.Ground.guard }], guard := some (8, true) }) (v := .int .i64 (k : Int)) rfl (by decide) (by kernel_rfl) (by kernel_rfl) (by kernel_rfl) (by kernel_rfl) (fun _ _ _ h => h) (Or.inl ⟨by rfl, by intro W' hSw; (try dsimp only at hSw); go_simp⟩) hS2 ?_
        try simp only [Act.put, List.setIfInBounds_toArray, List.set_cons_zero, List.set_cons_succ]
        refine Out.anyR_one (i := 11) (by kernel_rfl) rfl (by rfl) ?_
        intro K hK
        have HKK := Lib.hid hK
        clear hK
        have eg := Heg.out
        gi_wp2_with fail
        refine ⟨trivial, (callsIn_wide.2 Hkal.out).mono ?_⟩
        rintro e w3 ⟨rfl, hb3⟩
        have hS3 : Keeps (fun k => Mut k ∨ O k) wr w3 := hS2.trans (Keeps.of_new hb3)
        have Hk3 := Lib.hid (Hk2.out.trans (Keeps.of_new hb3))
        refine HKK.out _ _ (fun _ _ => hS3) ?_
        clear HKK K hb3 hS2 eg Hkal
        try simp only [Act.put, List.setIfInBounds_toArray, List.set_cons_zero, List.set_cons_succ]
        rcases q with _ | _
        · skip
          refine Out.anyR_take (i := 12) (oi := { dst := some 27, op := Go.Op.pick (Go.Operand.tmp 23) (Go.Operand.tmp 26) (Go.Operand.const (Go.Value.bool false)), type := 4, pos := "board.go:85", after := #[{ on := 8, ground := Go.Ground.data }, { on := 11, ground := Go.Ground.data }], guard := none }) (v := .bool false) rfl (by decide) (by kernel_rfl) (by kernel_rfl) (by kernel_rfl) (by kernel_rfl) (fun _ _ _ h => h) (Or.inl ⟨by rfl, by intro W' hSw; (try dsimp only at hSw); go_simp⟩) hS3 ?_
          try simp only [Act.put, List.setIfInBounds_toArray, List.set_cons_zero, List.set_cons_succ]
          refine Out.anyR_take (i := 13) (oi := { dst := some 28, op := Go.Op.move (Go.Operand.tmp 27), type := 4, pos := "board.go:85", after := #[{ on := 12, ground := Go.Ground.data }, { on := 11, ground := Go.Ground.chain }], guard := none }) (v := .bool false) rfl (by decide) (by kernel_rfl) (by kernel_rfl) (by kernel_rfl) (by kernel_rfl) (fun _ _ _ h => h) (Or.inl ⟨by rfl, by intro W' hSw; (try dsimp only at hSw); go_simp⟩) hS3 ?_
          try simp only [Act.put, List.setIfInBounds_toArray, List.set_cons_zero, List.set_cons_succ]
          refine Out.anyR_take (i := 14) (oi := { dst := some 29, op := Go.Op.move (Go.Operand.tmp 0), type := 98, pos := "board.go:85", after := #[{ on := 13, ground := Go.Ground.guard }], guard := some (13, true) }) (v := undef) rfl (by decide) (by kernel_rfl) (by kernel_rfl) (by kernel_rfl) (by kernel_rfl) (fun _ _ _ h => h) (Or.inr ⟨by rfl, rfl⟩) hS3 ?_
          try simp only [Act.put, List.setIfInBounds_toArray, List.set_cons_zero, List.set_cons_succ]
          refine Out.anyR_take (i := 15) (oi := { dst := some 30, op := Go.Op.move (Go.Operand.tmp 5), type := 3, pos := "board.go:85", after := #[{ on := 13, ground := Go.Ground.guard }], guard := some (13, true) }) (v := undef) rfl (by decide) (by kernel_rfl) (by kernel_rfl) (by kernel_rfl) (by kernel_rfl) (fun _ _ _ h => h) (Or.inr ⟨by rfl, rfl⟩) hS3 ?_
          try simp only [Act.put, List.setIfInBounds_toArray, List.set_cons_zero, List.set_cons_succ]
          refine Out.anyR_take (i := 16) (oi := { dst := some 31, op := Go.Op.call { callee := Go.Callee.value (Go.Operand.tmp 29), args := #[Go.Operand.tmp 30], argTypes := #[3] }, type := 4, pos := "board.go:85", after := #[{ on := 14, ground := Go.Ground.data }, { on := 15, ground := Go.Ground.data }, { on := 13, ground := Go.Ground.chain }, { on := 13, ground := Go.Ground.guard }], guard := some (13, true) }) (v := undef) rfl (by decide) (by kernel_rfl) (by kernel_rfl) (by kernel_rfl) (by kernel_rfl) (fun _ _ _ h => h) (Or.inr ⟨by rfl, rfl⟩) hS3 ?_
          try simp only [Act.put, List.setIfInBounds_toArray, List.set_cons_zero, List.set_cons_succ]
          refine Out.anyR_take (i := 17) (oi := { dst := some 32, op := Go.Op.unOp Go.UnOp.not 4 (Go.Operand.tmp 31), type := 4, pos := "board.go:85", after := #[{ on := 16, ground := Go.Ground.data }, { on := 13, ground := Go.Ground.guard }], guard := some (13, true) }) (v := undef) rfl (by decide) (by kernel_rfl) (by kernel_rfl) (by kernel_rfl) (by kernel_rfl) (fun _ _ _ h => h) (Or.inr ⟨by rfl, rfl⟩) hS3 ?_
          try simp only [Act.put, List.setIfInBounds_toArray, List.set_cons_zero, List.set_cons_succ]
          refine Out.anyR_take (i := 18) (oi := { dst := some 33, op := Go.Op.pick (Go.Operand.tmp 28) (Go.Operand.tmp 32) (Go.Operand.const (Go.Value.bool false)), type := 4, pos := "board.go:85", after := #[{ on := 13, ground := Go.Ground.data }, { on := 17, ground := Go.Ground.data }], guard := none }) (v := .bool false) rfl (by decide) (by kernel_rfl) (by kernel_rfl) (by kernel_rfl) (by kernel_rfl) (fun _ _ _ h => h) (Or.inl ⟨by rfl, by intro W' hSw; (try dsimp only at hSw); go_simp⟩) hS3 ?_
          try simp only [Act.put, List.setIfInBounds_toArray, List.set_cons_zero, List.set_cons_succ]
          refine Out.anyR_done (by kernel_rfl) ?_ _
          refine HK0.out _ _ ?_
          clear hS3 HK0
          gi_wp2_with fail
          refine HK1.out _ _ ?_
          clear HK1
          gi_wp2_with fail
          go_roundw
          case rel => exact ⟨k + 1, by omega, by go_num, Lib.hid ⟨O, fun j e => ⟨(HO.out j e).1, Nat.lt_of_lt_of_le (HO.out j e).2 Hk3.out.size⟩, HJa.out _ _ _ _ (HQf.out (by trivial)) Hk3.out.none, HcB.out _ Hk3.out.none⟩⟩
          case measure => simp [intOf]; omega
        · have Key := Lib.hid (HQt.out rfl w3 Hk3.out)
          refine Out.anyR_take (i := 12) (oi := { dst := some 27, op := Go.Op.pick (Go.Operand.tmp 23) (Go.Operand.tmp 26) (Go.Operand.const (Go.Value.bool false)), type := 4, pos := "board.go:85", after := #[{ on := 8, ground := Go.Ground.data }, { on := 11, ground := Go.Ground.data }], guard := none }) (v := .bool true) rfl (by decide) (by kernel_rfl) (by kernel_rfl) (by kernel_rfl) (by kernel_rfl) (fun _ _ _ h => h) (Or.inl ⟨by rfl, by intro W' hSw; (try dsimp only at hSw); go_simp⟩) hS3 ?_
          try simp only [Act.put, List.setIfInBounds_toArray, List.set_cons_zero, List.set_cons_succ]
          refine Out.anyR_take (i := 13) (oi := { dst := some 28, op := Go.Op.move (Go.Operand.tmp 27), type := 4, pos := "board.go:85", after := #[{ on := 12, ground := Go.Ground.data }, { on := 11, ground := Go.Ground.chain }], guard := none }) (v := .bool true) rfl (by decide) (by kernel_rfl) (by kernel_rfl) (by kernel_rfl) (by kernel_rfl) (fun _ _ _ h => h) (Or.inl ⟨by rfl, by intro W' hSw; (try dsimp only at hSw); go_simp⟩) hS3 ?_
          try simp only [Act.put, List.setIfInBounds_toArray, List.set_cons_zero, List.set_cons_succ]
          refine Out.anyR_take (i := 14) (oi := { dst := some 29, op := Go.Op.move (Go.Operand.tmp 0), type := 98, pos := "board.go:85", after := #[{ on := 13, ground := Go.Ground.guard }], guard := some (13, true) }) (v := .func (.yield lp) #[] #[]) rfl (by decide) (by kernel_rfl) (by kernel_rfl) (by kernel_rfl) (by kernel_rfl) (fun _ _ _ h => h) (Or.inl ⟨by rfl, by intro W' hSw; (try dsimp only at hSw); go_simp⟩) hS3 ?_
          try simp only [Act.put, List.setIfInBounds_toArray, List.set_cons_zero, List.set_cons_succ]
          refine Out.anyR_take (i := 15) (oi := { dst := some 30, op := Go.Op.move (Go.Operand.tmp 5), type := 3, pos := "board.go:85", after := #[{ on := 13, ground := Go.Ground.guard }], guard := some (13, true) }) (v := .int .i64 (k : Int)) rfl (by decide) (by kernel_rfl) (by kernel_rfl) (by kernel_rfl) (by kernel_rfl) (fun _ _ _ h => h) (Or.inl ⟨by rfl, by intro W' hSw; (try dsimp only at hSw); go_simp⟩) hS3 ?_
          try simp only [Act.put, List.setIfInBounds_toArray, List.set_cons_zero, List.set_cons_succ]
          refine Out.anyR_one (i := 16) (by kernel_rfl) rfl (by rfl) ?_
          intro K hK
          have HKK := Lib.hid hK
          clear hK
          obtain ⟨fn2, tmps2, assign2, body2, hy, hR2⟩ := Key.out (3 - 1)
          clear Key
          unfold nmE at hy
          gi_wp2_with fail
          refine hR2.mono ?_
          rintro e W4 (⟨rfl, O4, hg4, hj4, hK4⟩ | ⟨rfl, O4, hg4, hj4, hK4⟩)
          · have hS4 : Keeps (fun k => Mut k ∨ O k) wr W4 := hS3.trans hK4
            have HO4 := Lib.hid (show ∀ j, O4 j → W.heap.size ≤ j ∧ j < W4.heap.size from fun j h => (hg4.2 j h).elim (fun h => by have := HO.out j h; have := hS4.size; omega) (fun h => by have := HK.out.size; have := hS3.size; omega))
            have HJ4 := Lib.hid hj4
            refine HKK.out _ _ (fun _ _ => hS4) ?_
            clear HKK K hj4 hg4 hK4 hy hR2 hS3
            try simp only [Act.put, List.setIfInBounds_toArray, List.set_cons_zero, List.set_cons_succ]
            refine Out.anyR_take (i := 17) (oi := { dst := some 32, op := Go.Op.unOp Go.UnOp.not 4 (Go.Operand.tmp 31), type := 4, pos := "board.go:85", after := #[{ on := 16, ground := Go.Ground.data }, { on := 13, ground := Go.Ground.guard }], guard := some (13, true) }) (v := .bool false) rfl (by decide) (by kernel_rfl) (by kernel_rfl) (by kernel_rfl) (by kernel_rfl) (fun _ _ _ h => h) (Or.inl ⟨by rfl, by intro W' hSw; (try dsimp only at hSw); go_simp⟩) hS4 ?_
            try simp only [Act.put, List.setIfInBounds_toArray, List.set_cons_zero, List.set_cons_succ]
            refine Out.anyR_take (i := 18) (oi := { dst := some 33, op := Go.Op.pick (Go.Operand.tmp 28) (Go.Operand.tmp 32) (Go.Operand.const (Go.Value.bool false)), type := 4, pos := "board.go:85", after := #[{ on := 13, ground := Go.Ground.data }, { on := 17, ground := Go.Ground.data }], guard := none }) (v := .bool false) rfl (by decide) (by kernel_rfl) (by kernel_rfl) (by kernel_rfl) (by kernel_rfl) (fun _ _ _ h => h) (Or.inl ⟨by rfl, by intro W' hSw; (try dsimp only at hSw); go_simp⟩) hS4 ?_
            try simp only [Act.put, List.setIfInBounds_toArray, List.set_cons_zero, List.set_cons_succ]
            refine Out.anyR_done (by kernel_rfl) ?_ _
            refine HK0.out _ _ ?_
            have HW4 := Lib.hid (HcB.out W4 hS4)
            clear hS4 HK0
            gi_wp2_with fail
            refine HK1.out _ _ ?_
            clear HK1
            gi_wp2_with fail
            go_roundw
            case rel => exact ⟨k + 1, by omega, by go_num, Lib.hid ⟨O4, HO4.out, HJ4.out, HW4.out⟩⟩
            case measure => simp [intOf]; omega
          · have hS4 : Keeps (fun k => Mut k ∨ O k) wr W4 := hS3.trans hK4
            have HO4 := Lib.hid (show ∀ j, O4 j → W.heap.size ≤ j ∧ j < W4.heap.size from fun j h => (hg4.2 j h).elim (fun h => by have := HO.out j h; have := hS4.size; omega) (fun h => by have := HK.out.size; have := hS3.size; omega))
            have HJ4 := Lib.hid hj4
            refine HKK.out _ _ (fun _ _ => hS4) ?_
            clear HKK K hj4 hg4 hK4 hy hR2 hS3
            try simp only [Act.put, List.setIfInBounds_toArray, List.set_cons_zero, List.set_cons_succ]
            refine Out.anyR_take (i := 17) (oi := { dst := some 32, op := Go.Op.unOp Go.UnOp.not 4 (Go.Operand.tmp 31), type := 4, pos := "board.go:85", after := #[{ on := 16, ground := Go.Ground.data }, { on := 13, ground := Go.Ground.guard }], guard := some (13, true) }) (v := .bool true) rfl (by decide) (by kernel_rfl) (by kernel_rfl) (by kernel_rfl) (by kernel_rfl) (fun _ _ _ h => h) (Or.inl ⟨by rfl, by intro W' hSw; (try dsimp only at hSw); go_simp⟩) hS4 ?_
            try simp only [Act.put, List.setIfInBounds_toArray, List.set_cons_zero, List.set_cons_succ]
            refine Out.anyR_take (i := 18) (oi := { dst := some 33, op := Go.Op.pick (Go.Operand.tmp 28) (Go.Operand.tmp 32) (Go.Operand.const (Go.Value.bool false)), type := 4, pos := "board.go:85", after := #[{ on := 13, ground := Go.Ground.data }, { on := 17, ground := Go.Ground.data }], guard := none }) (v := .bool true) rfl (by decide) (by kernel_rfl) (by kernel_rfl) (by kernel_rfl) (by kernel_rfl) (fun _ _ _ h => h) (Or.inl ⟨by rfl, by intro W' hSw; (try dsimp only at hSw); go_simp⟩) hS4 ?_
            try simp only [Act.put, List.setIfInBounds_toArray, List.set_cons_zero, List.set_cons_succ]
            refine Out.anyR_done (by kernel_rfl) ?_ _
            refine HK0.out _ _ ?_
            clear hS4 HK0
            gi_wp2_with fail
            exact bodyPost_ret (results_none rfl _ _ _) rfl ⟨⟨_, rfl⟩, O4, HO4.out, .inr ⟨k, hlt, HJ4.out⟩⟩
    · have e : k = n := by omega
      subst e
      obtain ⟨O, hO, hj, hK⟩ := HI.out
      have HO := Lib.hid hO
      have HFin := Lib.hid hj
      clear HI hO hj hK
      gi_wp2_with fail
      go_end0
      exact ⟨⟨_, rfl⟩, O, HO.out, .inl HFin.out⟩
set_option maxRecDepth 100000 in
set_option maxHeartbeats 4000000 in
theorem links77 (B : Nat) (sl sr : Int) (A : Option Addr) (n cap : Nat) (zs : List Rg) (A2 : Option Addr) (kn kc : Nat) (ks : List Int) (pt : Nat → Int) (op : Nat → Bool) (mp : Value) (l i fa : Nat) (ra la : Array Value) (eg : ∀ args w, (callFunc fa args).run Try.prog w = .ok (.enter fa args) w) (w : World) (h : Brd w B sl sr A n cap zs A2 kn kc ks pt op mp) (hl : l < 2) (hi : i < 12) (hn : n ≤ 40) :
    Calls Try.prog 77 #[.pointer (some ⟨B, 0, none⟩), .agg #[.int .i64 (l : Int), .int .i64 (i : Int)], .func (.func fa) ra la] w fun e w' => ∃ b1, e = .returned (.func (.func 91) #[] #[.pointer (some ⟨b1, 0, none⟩), .pointer (some ⟨b1 + 1, 0, none⟩), .pointer (some ⟨b1 + 2, 0, none⟩)]) ∧ b1 = w.heap.size ∧ w'.heap.size = b1 + 3 ∧ Below w.heap.size w w' ∧
      SeqB Try.prog 91 #[.pointer (some ⟨b1, 0, none⟩), .pointer (some ⟨b1 + 1, 0, none⟩), .pointer (some ⟨b1 + 2, 0, none⟩)] n (fun k W q => LSel B sl sr A n cap zs A2 kn kc ks mp l i fa ra la k W q) (fun k => k = b1 ∨ k = b1 + 1 ∨ k = b1 + 2) w' := by
  have hb : Below w.heap.size w (((w.alloc (.cells #[.pointer (some ⟨B, 0, none⟩)] 61)).alloc (.cells #[.int .i64 (l : Int), .int .i64 (i : Int)] 100)).alloc (.cells #[.func (.func fa) ra la] 98)) := (((Below.refl _ w).alloc (Nat.le_refl _) _).alloc (by simp) _).alloc (by simp; omega) _
  have z1 : (((w.alloc (.cells #[.pointer (some ⟨B, 0, none⟩)] 61)).alloc (.cells #[.int .i64 (l : Int), .int .i64 (i : Int)] 100)).alloc (.cells #[.func (.func fa) ra la] 98)).heap[w.heap.size]? = some (.cells #[.pointer (some ⟨B, 0, none⟩)] 61 (0, 0)) := hal_old (hal_old (heap_alloc_new_ _ _))
  have z2 : (((w.alloc (.cells #[.pointer (some ⟨B, 0, none⟩)] 61)).alloc (.cells #[.int .i64 (l : Int), .int .i64 (i : Int)] 100)).alloc (.cells #[.func (.func fa) ra la] 98)).heap[w.heap.size + 1]? = some (.cells #[.int .i64 (l : Int), .int .i64 (i : Int)] 100 (0, 0)) := hal_old (hal_new (by simp))
  have z3 : (((w.alloc (.cells #[.pointer (some ⟨B, 0, none⟩)] 61)).alloc (.cells #[.int .i64 (l : Int), .int .i64 (i : Int)] 100)).alloc (.cells #[.func (.func fa) ra la] 98)).heap[w.heap.size + 2]? = some (.cells #[.func (.func fa) ra la] 98 (0, 0)) := hal_new (by simp)
  obtain ⟨W, hW⟩ : ∃ W, (((w.alloc (.cells #[.pointer (some ⟨B, 0, none⟩)] 61)).alloc (.cells #[.int .i64 (l : Int), .int .i64 (i : Int)] 100)).alloc (.cells #[.func (.func fa) ra la] 98)) = W := ⟨_, rfl⟩
  have hsz : W.heap.size = w.heap.size + 3 := by rw [← hW]; simp
  rw [hW] at hb z1 z2 z3
  have Hs := Lib.hid (links91 B sl sr A n cap zs A2 kn kc ks pt op mp l i fa ra la eg w.heap.size (w.heap.size + 1) (w.heap.size + 2) W (h.below hb (Nat.le_refl _)) hl hi hn (by rw [cell_row z1]; rfl) (by rw [cell_row z2]; rfl) (by rw [cell_row z2]; rfl) (by rw [cell_row z3]; rfl))
  have HW := Lib.hid hW
  have Hb := Lib.hid hb
  have Hz := Lib.hid hsz
  clear z1 z2 z3 hW hb hsz h
  go_enter Try.func77, Try.ntmps77
  go_wp2_with fail
  rw [HW.out]
  go_ret
  exact ⟨_, rfl, rfl, Hz.out, Hb.out, Hs.out⟩
end Go.Proofs.Ytnodkgejggnehaa
