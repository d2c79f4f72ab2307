/- Stage 6: what a side cuts. -/
import Derived.Test.YtigohccehllmnaaTh
import Derived.Test.YtigohccehllmnaaFi
namespace Go.Proofs.Ytigohccehllmnaa
set_option linter.unusedSimpArgs false
set_option linter.unusedVariables false
open Go.RowKit Go.Shelf

def sdV (p q : Int → Bool) (x : Int) : Int := if p x = true then 1 else if q x = true then -1 else 0
/-- The sides of the first names. -/
def sdL (p q : Int → Bool) (n : Nat) : List Int := (List.range n).map fun (k : Nat) => sdV p q (k : Int)
theorem sdL_succ (p q : Int → Bool) (n : Nat) : sdL p q (n + 1) = sdL p q n ++ [sdV p q (n : Int)] := by simp [sdL, List.range_succ]
theorem sdL_len (p q : Int → Bool) (n : Nat) : (sdL p q n).length = n := by simp [sdL]
/-- A list that grows. -/
def GrI (w3 wr : World) (v : Value) (n : Nat) (l : List Int) : Prop := wr.ownsRow 0 3 1 v n (flatI l) ∧ (∀ g, v.ownBlock = some g → w3.heap.size ≤ g) ∧ Below w3.heap.size w3 wr
theorem GrI.nil (w3 : World) : GrI w3 w3 (.slice none 0 0) 0 [] := ⟨own_nil _ _ _, fun g e => (by cases e), Below.refl _ _⟩
theorem GrI.keep {w3 wr w4 : World} {v : Value} {n : Nat} {l : List Int} (h : GrI w3 wr v n l) (hb : Below wr.heap.size wr w4) : GrI w3 w4 v n l :=
  ⟨own_keep h.1 (Keeps.of_below hb (Nat.le_refl _)) (fun k e hk => by have := own_lt h.1 k e; omega), h.2.1, h.2.2.trans (hb.mono h.2.2.size)⟩
theorem GrI.app {w3 wr : World} {v : Value} {n : Nat} {l : List Int} (h : GrI w3 wr v n l) (x : Int) (hn : n ≤ 100000) :
    ∃ C c W', runA Try.prog 23 v (.slice (some ⟨wr.heap.size, 0, none⟩) 1 1) (wr.alloc (.cells #[.int .i64 x] 3)) = .ok (.value (.slice C (n + 1) c)) W' ∧ GrI w3 W' (.slice C (n + 1) c) (n + 1) (l ++ [x]) := by
  obtain ⟨C, c, W', h1, h2, h3, h4⟩ := app_int h.1 x hn
  refine ⟨C, c, W', h1, h2, fun g e => ?_, h.2.2.trans (h3.below h.2.2.size (fun j hj e => by have := h.2.1 j e; omega))⟩
  rcases h4 g e with e | e
  · exact h.2.1 g e
  · have := h.2.2.size; omega
section
attribute [local go_sem ↓] exec_app at_app
attribute [local go_sem] Oper.semAt_some
set_option maxRecDepth 100000 in
set_option maxHeartbeats 16000000 in
theorem sides63 (b : BD) (f : Nat → Int) (c : Nat) (w : World) (h : Bd w b f) (hok : BdOk b) (hf : Small b f) (hc : b.l.N = (c : Int)) :
    Calls Try.prog 63 #[.pointer (some ⟨b.B, 0, none⟩)] w fun e w' => ∃ C cap R R', e = .returned (.slice C c cap) ∧ c ≤ cap ∧ Ints w' C c (sdL R R' c) ∧ RS b.zs (opF b.zs f) b.l.ls R ∧ RS b.zs (opB b.zs f) b.l.rs R' ∧ Below w.heap.size w w' := by
  obtain ⟨w0, hw0⟩ : ∃ v, w = v := ⟨_, rfl⟩
  subst hw0
  have D := Lib.hid h
  have Hok := Lib.hid hok
  have Hf := Lib.hid hf
  have Hc := Lib.hid hc
  have B := Lib.hid (Below.refl w.heap.size w)
  have b2 := h.c2
  have b3 := h.c3
  clear h hok hf hc
  go_enter Try.func63, Try.ntmps63
  go_wp2_with fail
  refine wp_region_held_drew (S := fun w2 => Below w.heap.size w w2) (by kernel_rfl) (drew_b _ _) (fun hS0 => ?_)
  refine wpAnyH_take (i := 0) (oi := { dst := some 7, op := Go.Op.move (Go.Operand.tmp 0), type := 64, pos := "search.go:114", after := #[], guard := none }) (v := .pointer (some ⟨b.B, 0, none⟩)) rfl (by kernel_rfl) (by kernel_rfl) (by kernel_rfl) (fun _ _ _ h => h) (Or.inl ⟨by rfl, by intro w2 hSw; (try dsimp only at hSw);  have yb2 := (hSw.cell (lt_of_cell b2)).trans b2; have yb3 := (hSw.cell (lt_of_cell b3)).trans b3;  go_simp⟩) hS0 ?_
  try simp only [Act.put, List.setIfInBounds_toArray, List.set_cons_zero, List.set_cons_succ]
  refine wpAnyH_take (i := 1) (oi := { dst := some 8, op := Go.Op.move (Go.Operand.tmp 0), type := 64, pos := "search.go:114", after := #[], guard := none }) (v := .pointer (some ⟨b.B, 0, none⟩)) rfl (by kernel_rfl) (by kernel_rfl) (by kernel_rfl) (fun _ _ _ h => h) (Or.inl ⟨by rfl, by intro w2 hSw; (try dsimp only at hSw);  have yb2 := (hSw.cell (lt_of_cell b2)).trans b2; have yb3 := (hSw.cell (lt_of_cell b3)).trans b3;  go_simp⟩) hS0 ?_
  try simp only [Act.put, List.setIfInBounds_toArray, List.set_cons_zero, List.set_cons_succ]
  refine wpAnyH_take (i := 2) (oi := { dst := some 9, op := Go.Op.nilCheck (Go.Operand.tmp 8), type := 0, pos := "search.go:114", after := #[{ on := 1, ground := Go.Ground.data }], guard := none }) (v := .pointer (some ⟨b.B, 0, none⟩)) rfl (by kernel_rfl) (by kernel_rfl) (by kernel_rfl) (fun _ _ _ h => h) (Or.inl ⟨by rfl, by intro w2 hSw; (try dsimp only at hSw);  have yb2 := (hSw.cell (lt_of_cell b2)).trans b2; have yb3 := (hSw.cell (lt_of_cell b3)).trans b3;  go_simp⟩) hS0 ?_
  try simp only [Act.put, List.setIfInBounds_toArray, List.set_cons_zero, List.set_cons_succ]
  refine wpAnyH_take (i := 3) (oi := { dst := some 10, op := Go.Op.fieldAddr 87 (Go.Operand.tmp 9) 0, type := 0, pos := "search.go:114", after := #[{ on := 2, ground := Go.Ground.data }], guard := none }) (v := .pointer (some ⟨b.B, 0, none⟩)) rfl (by kernel_rfl) (by kernel_rfl) (by kernel_rfl) (fun _ _ _ h => h) (Or.inl ⟨by rfl, by intro w2 hSw; (try dsimp only at hSw);  have yb2 := (hSw.cell (lt_of_cell b2)).trans b2; have yb3 := (hSw.cell (lt_of_cell b3)).trans b3;  go_simp⟩) hS0 ?_
  try simp only [Act.put, List.setIfInBounds_toArray, List.set_cons_zero, List.set_cons_succ]
  refine wpAnyH_take (i := 4) (oi := { dst := some 11, op := Go.Op.fieldAddr 25 (Go.Operand.tmp 10) 2, type := 0, pos := "search.go:114", after := #[{ on := 3, ground := Go.Ground.data }], guard := none }) (v := .pointer (some ⟨b.B, 2, none⟩)) rfl (by kernel_rfl) (by kernel_rfl) (by kernel_rfl) (fun _ _ _ h => h) (Or.inl ⟨by rfl, by intro w2 hSw; (try dsimp only at hSw);  have yb2 := (hSw.cell (lt_of_cell b2)).trans b2; have yb3 := (hSw.cell (lt_of_cell b3)).trans b3;  go_simp⟩) hS0 ?_
  try simp only [Act.put, List.setIfInBounds_toArray, List.set_cons_zero, List.set_cons_succ]
  refine wpAnyH_take (i := 5) (oi := { dst := some 12, op := Go.Op.load 23 (Go.Operand.tmp 11), type := 23, pos := "search.go:114", after := #[{ on := 4, ground := Go.Ground.data }], guard := none }) (v := .slice b.l.LA b.l.ln b.l.lc) rfl (by kernel_rfl) (by kernel_rfl) (by kernel_rfl) (fun _ _ _ h => h) (Or.inl ⟨by rfl, by intro w2 hSw; (try dsimp only at hSw);  have yb2 := (hSw.cell (lt_of_cell b2)).trans b2; have yb3 := (hSw.cell (lt_of_cell b3)).trans b3;  go_simp⟩) hS0 ?_
  try simp only [Act.put, List.setIfInBounds_toArray, List.set_cons_zero, List.set_cons_succ]
  refine wpAnyH_take (i := 6) (oi := { dst := some 13, op := Go.Op.move (Go.Operand.tmp 0), type := 64, pos := "search.go:114", after := #[], guard := none }) (v := .pointer (some ⟨b.B, 0, none⟩)) rfl (by kernel_rfl) (by kernel_rfl) (by kernel_rfl) (fun _ _ _ h => h) (Or.inl ⟨by rfl, by intro w2 hSw; (try dsimp only at hSw);  have yb2 := (hSw.cell (lt_of_cell b2)).trans b2; have yb3 := (hSw.cell (lt_of_cell b3)).trans b3;  go_simp⟩) hS0 ?_
  try simp only [Act.put, List.setIfInBounds_toArray, List.set_cons_zero, List.set_cons_succ]
  refine wpAnyH_take (i := 7) (oi := { dst := some 14, op := Go.Op.makeFunc (Go.Fn.func 66) #[Go.Operand.tmp 13] #[], type := 96, pos := "search.go:114", after := #[{ on := 6, ground := Go.Ground.data }], guard := none }) (v := .func (.func 66) #[.pointer (some ⟨b.B, 0, none⟩)] #[]) rfl (by kernel_rfl) (by kernel_rfl) (by kernel_rfl) (fun _ _ _ h => h) (Or.inl ⟨by rfl, by intro w2 hSw; (try dsimp only at hSw);  have yb2 := (hSw.cell (lt_of_cell b2)).trans b2; have yb3 := (hSw.cell (lt_of_cell b3)).trans b3;  go_simp⟩) hS0 ?_
  try simp only [Act.put, List.setIfInBounds_toArray, List.set_cons_zero, List.set_cons_succ]
  refine wpAnyH_take (i := 9) (oi := { dst := some 16, op := Go.Op.move (Go.Operand.tmp 0), type := 64, pos := "search.go:114", after := #[], guard := none }) (v := .pointer (some ⟨b.B, 0, none⟩)) rfl (by kernel_rfl) (by kernel_rfl) (by kernel_rfl) (fun _ _ _ h => h) (Or.inl ⟨by rfl, by intro w2 hSw; (try dsimp only at hSw);  have yb2 := (hSw.cell (lt_of_cell b2)).trans b2; have yb3 := (hSw.cell (lt_of_cell b3)).trans b3;  go_simp⟩) hS0 ?_
  try simp only [Act.put, List.setIfInBounds_toArray, List.set_cons_zero, List.set_cons_succ]
  refine wpAnyH_take (i := 10) (oi := { dst := some 17, op := Go.Op.move (Go.Operand.tmp 0), type := 64, pos := "search.go:114", after := #[], guard := none }) (v := .pointer (some ⟨b.B, 0, none⟩)) rfl (by kernel_rfl) (by kernel_rfl) (by kernel_rfl) (fun _ _ _ h => h) (Or.inl ⟨by rfl, by intro w2 hSw; (try dsimp only at hSw);  have yb2 := (hSw.cell (lt_of_cell b2)).trans b2; have yb3 := (hSw.cell (lt_of_cell b3)).trans b3;  go_simp⟩) hS0 ?_
  try simp only [Act.put, List.setIfInBounds_toArray, List.set_cons_zero, List.set_cons_succ]
  refine wpAnyH_take (i := 11) (oi := { dst := some 18, op := Go.Op.nilCheck (Go.Operand.tmp 17), type := 0, pos := "search.go:114", after := #[{ on := 10, ground := Go.Ground.data }], guard := none }) (v := .pointer (some ⟨b.B, 0, none⟩)) rfl (by kernel_rfl) (by kernel_rfl) (by kernel_rfl) (fun _ _ _ h => h) (Or.inl ⟨by rfl, by intro w2 hSw; (try dsimp only at hSw);  have yb2 := (hSw.cell (lt_of_cell b2)).trans b2; have yb3 := (hSw.cell (lt_of_cell b3)).trans b3;  go_simp⟩) hS0 ?_
  try simp only [Act.put, List.setIfInBounds_toArray, List.set_cons_zero, List.set_cons_succ]
  refine wpAnyH_take (i := 12) (oi := { dst := some 19, op := Go.Op.fieldAddr 87 (Go.Operand.tmp 18) 0, type := 0, pos := "search.go:114", after := #[{ on := 11, ground := Go.Ground.data }], guard := none }) (v := .pointer (some ⟨b.B, 0, none⟩)) rfl (by kernel_rfl) (by kernel_rfl) (by kernel_rfl) (fun _ _ _ h => h) (Or.inl ⟨by rfl, by intro w2 hSw; (try dsimp only at hSw);  have yb2 := (hSw.cell (lt_of_cell b2)).trans b2; have yb3 := (hSw.cell (lt_of_cell b3)).trans b3;  go_simp⟩) hS0 ?_
  try simp only [Act.put, List.setIfInBounds_toArray, List.set_cons_zero, List.set_cons_succ]
  refine wpAnyH_take (i := 13) (oi := { dst := some 20, op := Go.Op.fieldAddr 25 (Go.Operand.tmp 19) 3, type := 0, pos := "search.go:114", after := #[{ on := 12, ground := Go.Ground.data }], guard := none }) (v := .pointer (some ⟨b.B, 3, none⟩)) rfl (by kernel_rfl) (by kernel_rfl) (by kernel_rfl) (fun _ _ _ h => h) (Or.inl ⟨by rfl, by intro w2 hSw; (try dsimp only at hSw);  have yb2 := (hSw.cell (lt_of_cell b2)).trans b2; have yb3 := (hSw.cell (lt_of_cell b3)).trans b3;  go_simp⟩) hS0 ?_
  try simp only [Act.put, List.setIfInBounds_toArray, List.set_cons_zero, List.set_cons_succ]
  refine wpAnyH_take (i := 14) (oi := { dst := some 21, op := Go.Op.load 23 (Go.Operand.tmp 20), type := 23, pos := "search.go:114", after := #[{ on := 13, ground := Go.Ground.data }], guard := none }) (v := .slice b.l.RA b.l.rn b.l.rc) rfl (by kernel_rfl) (by kernel_rfl) (by kernel_rfl) (fun _ _ _ h => h) (Or.inl ⟨by rfl, by intro w2 hSw; (try dsimp only at hSw);  have yb2 := (hSw.cell (lt_of_cell b2)).trans b2; have yb3 := (hSw.cell (lt_of_cell b3)).trans b3;  go_simp⟩) hS0 ?_
  try simp only [Act.put, List.setIfInBounds_toArray, List.set_cons_zero, List.set_cons_succ]
  refine wpAnyH_take (i := 15) (oi := { dst := some 22, op := Go.Op.move (Go.Operand.tmp 0), type := 64, pos := "search.go:114", after := #[], guard := none }) (v := .pointer (some ⟨b.B, 0, none⟩)) rfl (by kernel_rfl) (by kernel_rfl) (by kernel_rfl) (fun _ _ _ h => h) (Or.inl ⟨by rfl, by intro w2 hSw; (try dsimp only at hSw);  have yb2 := (hSw.cell (lt_of_cell b2)).trans b2; have yb3 := (hSw.cell (lt_of_cell b3)).trans b3;  go_simp⟩) hS0 ?_
  try simp only [Act.put, List.setIfInBounds_toArray, List.set_cons_zero, List.set_cons_succ]
  refine wpAnyH_take (i := 16) (oi := { dst := some 23, op := Go.Op.makeFunc (Go.Fn.func 81) #[Go.Operand.tmp 22] #[], type := 96, pos := "search.go:114", after := #[{ on := 15, ground := Go.Ground.data }], guard := none }) (v := .func (.func 81) #[.pointer (some ⟨b.B, 0, none⟩)] #[]) rfl (by kernel_rfl) (by kernel_rfl) (by kernel_rfl) (fun _ _ _ h => h) (Or.inl ⟨by rfl, by intro w2 hSw; (try dsimp only at hSw);  have yb2 := (hSw.cell (lt_of_cell b2)).trans b2; have yb3 := (hSw.cell (lt_of_cell b3)).trans b3;  go_simp⟩) hS0 ?_
  try simp only [Act.put, List.setIfInBounds_toArray, List.set_cons_zero, List.set_cons_succ]
  refine wpAnyH_ready (rs := [8]) (by kernel_rfl) (by simp) ?_
  refine AllReadyH.cons (o := { dst := some 15, op := Go.Op.call { callee := Go.Callee.value (Go.Operand.func 65), args := #[Go.Operand.tmp 7, Go.Operand.tmp 12, Go.Operand.tmp 14], argTypes := #[64, 23, 96] }, type := 94, pos := "search.go:114", after := #[{ on := 0, ground := Go.Ground.data }, { on := 5, ground := Go.Ground.data }, { on := 7, ground := Go.Ground.data }], guard := none }) rfl (fun K2 hK => ?_) AllReadyH.nil
  go_simp
  refine (reach65 b f b.l.LA b.l.ln b.l.lc b.l.ls 66 #[.pointer (some ⟨b.B, 0, none⟩)] #[] (opF b.zs f) _ (D.out.below hS0 (Nat.le_refl _)) Hok.out (D.out.below hS0 (Nat.le_refl _)).ls (by have := Hok.out.ln; omega) (by have := Hok.out.ln; omega) (ris_mem Hok.out.lr) (tellsOpen (D.out.below hS0 (Nat.le_refl _)) Hok.out Hf.out)).mono ?_
  rintro e9 wv1 ⟨M1, n1, S1, rfl, hT1, -, hM1, hrs1, hb9⟩
  have HT1 := Lib.hid hT1
  have HR1 := Lib.hid hrs1
  clear hT1 hM1 hrs1
  (try go_simp)
  refine hK.out _ _ (hS0.trans (hb9.mono hS0.size)) (fun hS1 => ?_)
  clear hK K2 hb9
  try simp only [Act.put, List.setIfInBounds_toArray, List.set_cons_zero, List.set_cons_succ]
  refine wpAnyH_ready (rs := [17]) (by kernel_rfl) (by simp) ?_
  refine AllReadyH.cons (o := { dst := some 24, op := Go.Op.call { callee := Go.Callee.value (Go.Operand.func 65), args := #[Go.Operand.tmp 16, Go.Operand.tmp 21, Go.Operand.tmp 23], argTypes := #[64, 23, 96] }, type := 94, pos := "search.go:114", after := #[{ on := 9, ground := Go.Ground.data }, { on := 14, ground := Go.Ground.data }, { on := 16, ground := Go.Ground.data }, { on := 8, ground := Go.Ground.chain }], guard := none }) rfl (fun K2 hK => ?_) AllReadyH.nil
  go_simp
  refine (reach65 b f b.l.RA b.l.rn b.l.rc b.l.rs 81 #[.pointer (some ⟨b.B, 0, none⟩)] #[] (opB b.zs f) wv1 (D.out.below hS1 (Nat.le_refl _)) Hok.out (D.out.below hS1 (Nat.le_refl _)).rs (by have := Hok.out.rn; omega) (by have := Hok.out.rn; omega) (ris_mem Hok.out.rr) (tellsBack (D.out.below hS1 (Nat.le_refl _)) Hok.out Hf.out)).mono ?_
  rintro e9 wv2 ⟨M2, n2, S2, rfl, hT2, -, hM2, hrs2, hb9⟩
  replace HT1 := Lib.hid (HT1.out.below hb9 (Nat.le_refl _))
  have HT2 := Lib.hid hT2
  have HR2 := Lib.hid hrs2
  clear hT2 hM2 hrs2
  (try go_simp)
  refine hK.out _ _ (hS1.trans (hb9.mono hS1.size)) (fun hS2 => ?_)
  clear hK K2 hb9
  try simp only [Act.put, List.setIfInBounds_toArray, List.set_cons_zero, List.set_cons_succ]
  refine wpAnyH_take (i := 18) (oi := { dst := some 3, op := Go.Op.assign (Go.Operand.tmp 15), type := 94, pos := "search.go:114", after := #[{ on := 8, ground := Go.Ground.data }, { on := 17, ground := Go.Ground.chain }, { on := 0, ground := Go.Ground.phase }, { on := 1, ground := Go.Ground.phase }, { on := 2, ground := Go.Ground.phase }, { on := 3, ground := Go.Ground.phase }, { on := 4, ground := Go.Ground.phase }, { on := 5, ground := Go.Ground.phase }, { on := 6, ground := Go.Ground.phase }, { on := 7, ground := Go.Ground.phase }, { on := 8, ground := Go.Ground.phase }, { on := 9, ground := Go.Ground.textOnly Go.Departure.lateStores }, { on := 10, ground := Go.Ground.textOnly Go.Departure.lateStores }, { on := 11, ground := Go.Ground.textOnly Go.Departure.lateStores }, { on := 12, ground := Go.Ground.textOnly Go.Departure.lateStores }, { on := 13, ground := Go.Ground.textOnly Go.Departure.lateStores }, { on := 14, ground := Go.Ground.textOnly Go.Departure.lateStores }, { on := 15, ground := Go.Ground.textOnly Go.Departure.lateStores }, { on := 16, ground := Go.Ground.textOnly Go.Departure.lateStores }, { on := 17, ground := Go.Ground.textOnly Go.Departure.lateStoresUnsure }], guard := none }) (v := .map (some M1)) rfl (by kernel_rfl) (by kernel_rfl) (by kernel_rfl) (fun _ _ _ h => h) (Or.inl ⟨by rfl, by intro w2 hSw; (try dsimp only at hSw);  have yb2 := (hSw.cell (lt_of_cell b2)).trans b2; have yb3 := (hSw.cell (lt_of_cell b3)).trans b3;  go_simp⟩) hS2 ?_
  try simp only [Act.put, List.setIfInBounds_toArray, List.set_cons_zero, List.set_cons_succ]
  refine wpAnyH_take (i := 19) (oi := { dst := some 4, op := Go.Op.assign (Go.Operand.tmp 24), type := 94, pos := "search.go:114", after := #[{ on := 17, ground := Go.Ground.data }, { on := 18, ground := Go.Ground.chain }, { on := 0, ground := Go.Ground.phase }, { on := 1, ground := Go.Ground.phase }, { on := 2, ground := Go.Ground.phase }, { on := 3, ground := Go.Ground.phase }, { on := 4, ground := Go.Ground.phase }, { on := 5, ground := Go.Ground.phase }, { on := 6, ground := Go.Ground.phase }, { on := 7, ground := Go.Ground.phase }, { on := 8, ground := Go.Ground.phase }, { on := 9, ground := Go.Ground.phase }, { on := 10, ground := Go.Ground.phase }, { on := 11, ground := Go.Ground.phase }, { on := 12, ground := Go.Ground.phase }, { on := 13, ground := Go.Ground.phase }, { on := 14, ground := Go.Ground.phase }, { on := 15, ground := Go.Ground.phase }, { on := 16, ground := Go.Ground.phase }, { on := 17, ground := Go.Ground.phase }, { on := 18, ground := Go.Ground.phase }], guard := none }) (v := .map (some M2)) rfl (by kernel_rfl) (by kernel_rfl) (by kernel_rfl) (fun _ _ _ h => h) (Or.inl ⟨by rfl, by intro w2 hSw; (try dsimp only at hSw);  have yb2 := (hSw.cell (lt_of_cell b2)).trans b2; have yb3 := (hSw.cell (lt_of_cell b3)).trans b3;  go_simp⟩) hS2 ?_
  try simp only [Act.put, List.setIfInBounds_toArray, List.set_cons_zero, List.set_cons_succ]
  refine wpAnyH_done (by kernel_rfl) ?_ _
  clear b2 b3
  have hb := hS2
  clear hS0 hS1 hS2
  replace D := Lib.hid (D.out.below hb (Nat.le_refl _))
  replace B := Lib.hid (B.out.trans (hb.mono B.out.size))
  clear hb
  have x0 := D.out.c0
  rw [Hc.out] at x0
  go_wp2_with fail
  clear x0
  go_loopw [5, 30] (fun v i wr => ∃ k : Nat, k ≤ c ∧ i = .int .i64 (k : Int) ∧ Hid (∃ v0 : Value, v = v0 ∧ GrI wv2 wr v0 k (sdL (fun x => (S1 x).isSome) (fun x => (S2 x).isSome) k))) (fun v i _ => c - (intOf i).toNat)
  case atStart => exact ⟨0, Nat.zero_le _, rfl, Lib.hid ⟨_, rfl, GrI.nil _⟩⟩
  case round =>
    obtain ⟨k, hk9, rfl, HX⟩ := hrel
    obtain ⟨wk, rfl⟩ : ∃ wk, wk = wr := ⟨_, rfl⟩
    obtain ⟨v0, hv, hG⟩ := HX.out
    obtain rfl : v0 = _ := hv.symm
    clear HX
    have hN := Hok.out.N
    have hcc := Hc.out
    by_cases hlt : k < c
    · have i0 : (0 : Int) ≤ (k : Int) := by omega
      have i1 : (k : Int) < (c : Int) := by omega
      have k1 := has64 M1 n1 S1 (k : Int) wk (HT1.out.below hG.2.2 (Nat.le_refl _)) ⟨by omega, by omega⟩
      obtain ⟨j1, hj1⟩ : ∃ v, (S1 (k : Int)).isSome = v := ⟨_, rfl⟩
      rw [hj1] at k1
      have K1 := Lib.hid k1
      have J1 := Lib.hid hj1
      have HG := Lib.hid hG
      have Hk40 := Lib.hid (show k < 40 by omega)
      have i2 : (c : Int) ≤ 40 := by omega
      clear k1 hj1 hG hN hcc
      go_wp2_with fail
      refine K1.out.mono ?_
      rintro en w4 ⟨rfl, hb⟩
      replace HG := Lib.hid (HG.out.keep hb)
      clear hb K1
      rcases j1 with _ | _
      · have k2 := has64 M2 n2 S2 (k : Int) w4 (HT2.out.below HG.out.2.2 (Nat.le_refl _)) ⟨by omega, by have := Hk40.out; omega⟩
        obtain ⟨j2, hj2⟩ : ∃ v, (S2 (k : Int)).isSome = v := ⟨_, rfl⟩
        rw [hj2] at k2
        have K2 := Lib.hid k2
        have J2 := Lib.hid hj2
        clear k2 hj2
        go_wp2_with fail
        refine K2.out.mono ?_
        rintro en w5 ⟨rfl, hb⟩
        replace HG := Lib.hid (HG.out.keep hb)
        clear hb K2
        rcases j2 with _ | _
        · have HS := Lib.hid (show sdL (fun x => (S1 x).isSome) (fun x => (S2 x).isSome) (k + 1) = sdL (fun x => (S1 x).isSome) (fun x => (S2 x).isSome) k ++ [0] from by rw [sdL_succ]; congr 2; unfold sdV; simp [J1.out, J2.out])
          obtain ⟨C, cc, W', hrun, hG2⟩ := HG.out.app (0) (by have := Hk40.out; omega)
          have HG2 := Lib.hid hG2
          clear hG2
          go_wp2_with fail
          go_roundw
          case rel => exact ⟨k + 1, by omega, by go_num, Lib.hid ⟨_, rfl, by rw [HS.out]; exact HG2.out⟩⟩
          case measure => simp [intOf]; omega
        · have HS := Lib.hid (show sdL (fun x => (S1 x).isSome) (fun x => (S2 x).isSome) (k + 1) = sdL (fun x => (S1 x).isSome) (fun x => (S2 x).isSome) k ++ [-1] from by rw [sdL_succ]; congr 2; unfold sdV; simp [J1.out, J2.out])
          obtain ⟨C, cc, W', hrun, hG2⟩ := HG.out.app (-1) (by have := Hk40.out; omega)
          have HG2 := Lib.hid hG2
          clear hG2
          go_wp2_with fail
          go_roundw
          case rel => exact ⟨k + 1, by omega, by go_num, Lib.hid ⟨_, rfl, by rw [HS.out]; exact HG2.out⟩⟩
          case measure => simp [intOf]; omega
      · have HS := Lib.hid (show sdL (fun x => (S1 x).isSome) (fun x => (S2 x).isSome) (k + 1) = sdL (fun x => (S1 x).isSome) (fun x => (S2 x).isSome) k ++ [1] from by rw [sdL_succ]; congr 2; unfold sdV; simp [J1.out])
        obtain ⟨C, cc, W', hrun, hG2⟩ := HG.out.app (1) (by have := Hk40.out; omega)
        have HG2 := Lib.hid hG2
        clear hG2
        go_wp2_with fail
        go_roundw
        case rel => exact ⟨k + 1, by omega, by go_num, Lib.hid ⟨_, rfl, by rw [HS.out]; exact HG2.out⟩⟩
        case measure => simp [intOf]; omega
    · obtain rfl : k = c := by omega
      obtain ⟨C, cap, rfl, hcap, hI, -⟩ := ints_own (sdL_len _ _ _) hG.1
      have HI := Lib.hid hI
      have HB := Lib.hid (B.out.trans (hG.2.2.mono B.out.size))
      clear hI hG
      go_wp2_with fail
      go_ret
      exact ⟨C, cap, _, _, rfl, hcap, HI.out, HR1.out, HR2.out, HB.out⟩
end
end Go.Proofs.Ytigohccehllmnaa

namespace Go.Proofs.Ytigohccehllmnaa
set_option linter.unusedSimpArgs false
set_option linter.unusedVariables false
open Go.RowKit Go.Shelf

def sB (ss : List Int) (x : Int) : Bool := decide (x ∈ ss)
/-- The first links that a side cuts. -/
def ctK (zs : List Nl) (ss : List Int) : Nat → List Int
  | 0 => []
  | k + 1 => if cutB zs (sB ss) k = true then ctK zs ss k ++ [(k : Int)] else ctK zs ss k
theorem ctK_len (zs : List Nl) (ss : List Int) : ∀ k, (ctK zs ss k).length ≤ k
  | 0 => Nat.le_refl _
  | k + 1 => by
    have := ctK_len zs ss k
    simp only [ctK]
    split
    · rw [List.length_append]; simp; omega
    · omega
/-- What the first links cost that a side cuts. -/
def csK (zs : List Nl) (ss : List Int) (n : Nat) : Int := sumN n fun k => ind (cutB zs (sB ss) k) (lAt zs k).tr
theorem csK_le {zs : List Nl} (ss : List Int) {n : Nat} (h : ∀ k, k < n → 0 ≤ (lAt zs k).tr ∧ (lAt zs k).tr ≤ 1000000) : ∀ k, k ≤ n → 0 ≤ csK zs ss k ∧ csK zs ss k ≤ 1000000 * (k : Int)
  | 0, _ => ⟨Int.le_refl _, by simp [csK, sumN]⟩
  | k + 1, hk => by
    have h1 := csK_le ss h k (by omega)
    have h2 := h k (by omega)
    have h3 : csK zs ss (k + 1) = csK zs ss k + ind (cutB zs (sB ss) k) (lAt zs k).tr := rfl
    rw [h3]
    unfold ind
    split <;> omega
theorem GrI.app2 {w3 wr : World} {v : Value} {n : Nat} {l : List Int} (h : GrI w3 wr v n l) (x : Int) (hn : n ≤ 100000) :
    ∃ C c W', runA Try.prog 23 v (.slice (some ⟨wr.heap.size, 0, none⟩) 1 1) (wr.alloc (.cells #[.int .i64 x] 3)) = .ok (.value (.slice C (n + 1) c)) W' ∧ GrI w3 W' (.slice C (n + 1) c) (n + 1) (l ++ [x]) ∧ Keeps (fun k => v.ownBlock = some k) wr W' := by
  obtain ⟨C, c, W', h1, h2, h3, h4⟩ := app_int h.1 x hn
  refine ⟨C, c, W', h1, ⟨h2, fun g e => ?_, h.2.2.trans (h3.below h.2.2.size (fun j hj e => by have := h.2.1 j e; omega))⟩, h3⟩
  rcases h4 g e with e | e
  · exact h.2.1 g e
  · have := h.2.2.size; omega
/-- A list that grows, by its length. -/
def GrL (w3 wr : World) (v : Value) (l : List Int) : Prop := GrI w3 wr v l.length l
theorem GrL.below {w3 wr w4 : World} {v : Value} {l : List Int} {Bd : Nat} (h : GrL w3 wr v l) (hb : Below Bd wr w4) (hB : wr.heap.size ≤ Bd) : GrL w3 w4 v l := GrI.keep h (hb.mono hB)
section
attribute [local go_sem ↓] exec_app at_app
attribute [local go_sem] Oper.semAt_some
set_option maxRecDepth 100000 in
set_option maxHeartbeats 16000000 in
theorem cut54 (b : BD) (f : Nat → Int) (A : Option Addr) (n cap : Nat) (ss : List Int) (w : World) (h : Bd w b f) (hok : BdOk b) (hI : Ints w A n ss) (hn : n ≤ 1000000) :
    Calls Try.prog 54 #[.pointer (some ⟨b.B, 0, none⟩), .slice A n cap] w fun e w' => ∃ C cp, e = .returned (.tuple #[.slice C (ctK b.zs ss b.l.n).length cp, .int .i64 (csK b.zs ss b.l.n)]) ∧ (ctK b.zs ss b.l.n).length ≤ cp ∧ Ints w' C (ctK b.zs ss b.l.n).length (ctK b.zs ss b.l.n) ∧ Below w.heap.size w w' := by
  have D := Lib.hid h
  have Hok := Lib.hid hok
  have HI := Lib.hid hI
  have c1 := h.c1
  have hnn := hok.n
  clear h hok hI
  go_enter Try.func54, Try.ntmps54
  go_wp2_with fail
  clear c1
  go_loopw [4, 5, 14] (fun v cs i wr => ∃ k : Nat, k ≤ b.l.n ∧ i = .int .i64 (k : Int) ∧ cs = .int .i64 (csK b.zs ss k) ∧ Hid (∃ v0 : Value, v = v0 ∧ GrL w wr v0 (ctK b.zs ss k))) (fun v cs i _ => b.l.n - (intOf i).toNat)
  case atStart => exact ⟨0, Nat.zero_le _, rfl, rfl, Lib.hid ⟨_, rfl, GrI.nil _⟩⟩
  case round =>
    obtain ⟨k, hk9, rfl, rfl, HX⟩ := hrel
    obtain ⟨wk, rfl⟩ : ∃ wk, wk = wr := ⟨_, rfl⟩
    obtain ⟨v0, hv, hG⟩ := HX.out
    obtain rfl : v0 = _ := hv.symm
    clear HX
    by_cases hlt : k < b.l.n
    · have DK := D.out.below hG.2.2 (Nat.le_refl _)
      have c1 := DK.c1
      obtain ⟨z0, z1, z2⟩ := DK.z k hlt
      have ok := (Hok.out.ok k hlt).2.2.2
      have hbo := csK_le ss (fun k hk => (Hok.out.ok k hk).2.2.2) k hk9
      have hlen := ctK_len b.zs ss k
      have hsl : ctK b.zs ss (k + 1) = if cutB b.zs (sB ss) k = true then ctK b.zs ss k ++ [(k : Int)] else ctK b.zs ss k := rfl
      have hsc : csK b.zs ss (k + 1) = csK b.zs ss k + ind (cutB b.zs (sB ss) k) (lAt b.zs k).tr := rfl
      have hcu : cutB b.zs (sB ss) k = (decide ((lAt b.zs k).one ∈ ss) != decide ((lAt b.zs k).two ∈ ss)) := rfl
      obtain ⟨g3, hg⟩ : ∃ g, lAt b.zs k = g := ⟨_, rfl⟩
      rw [hg] at z0 z1 z2 ok hsc hcu
      obtain ⟨gl, gh, gt⟩ := g3
      simp only at z0 z1 z2 ok hsc hcu
      obtain ⟨j1, hj1⟩ : ∃ v, decide (gl ∈ ss) = v := ⟨_, rfl⟩
      obtain ⟨j2, hj2⟩ : ∃ v, decide (gh ∈ ss) = v := ⟨_, rfl⟩
      rw [hj1, hj2] at hcu
      obtain ⟨q, hq⟩ : ∃ v, csK b.zs ss k = v := ⟨_, rfl⟩
      rw [hq] at hbo hsc ⊢
      have hb := below_alloc_ wk (.cells #[.int .i64 gl, .int .i64 gh, .int .i64 gt] 60)
      have hrP := heap_alloc_new_ wk (.cells #[.int .i64 gl, .int .i64 gh, .int .i64 gt] 60)
      obtain ⟨w3, hw3⟩ : ∃ v, wk.alloc (.cells #[.int .i64 gl, .int .i64 gh, .int .i64 gt] 60) = v := ⟨_, rfl⟩
      obtain ⟨P, hP⟩ : ∃ v, wk.heap.size = v := ⟨_, rfl⟩
      rw [hw3] at hb hrP
      rw [hP] at hrP
      have HP := Lib.hid hrP
      have HG := Lib.hid (show GrL w w3 v0 (ctK b.zs ss k) from hG.keep hb)
      have HO := Lib.hid (show ∀ j, v0.ownBlock = some j → j < P from fun j e => by have := own_lt hG.1 j e; omega)
      have S := Lib.hid (HI.out.below (hG.2.2.trans (hb.mono hG.2.2.size)) (Nat.le_refl _))
      have Hw3 := Lib.hid hw3
      have HPe := Lib.hid hP
      have J1 := Lib.hid hj1
      have J2 := Lib.hid hj2
      have Hsl := Lib.hid hsl
      have Hsc := Lib.hid hsc
      have Hcu := Lib.hid hcu
      have Hlen := Lib.hid (show (ctK b.zs ss k).length ≤ 100000 by omega)
      have hwn : IntKind.i64.wrap (q + gt) = q + gt := IntWalk.i64_in _ (by omega)
      have i0 : (0 : Int) ≤ (k : Int) := by omega
      have i1 : (k : Int) < (b.l.n : Int) := by omega
      clear hb hrP hw3 hP hG hg hj1 hj2 hq ok hbo hlen hsl hsc hcu DK hv
      go_upto_region 4 with fail
      rw [Hw3.out]
      rw [HPe.out]
      clear c1 z0 z1 z2
      have ltHP : P < w3.heap.size := lt_of_block HP.out
      have zHP0 : w3.cell? ⟨P, 0, none⟩ = some (.int .i64 gl) := by rw [cell_row HP.out]; rfl
      have zHP1 : w3.cell? ⟨P, 1, none⟩ = some (.int .i64 gh) := by rw [cell_row HP.out]; rfl
      have zHP2 : w3.cell? ⟨P, 2, none⟩ = some (.int .i64 gt) := by rw [cell_row HP.out]; rfl
      refine wp_region_held_drew (S := fun w2 => Below w3.heap.size w3 w2) (by kernel_rfl) (drew_b _ _) (fun hS0 => ?_)
      refine wpAnyH_take (i := 0) (oi := { dst := some 19, op := Go.Op.move (Go.Operand.tmp 1), type := 23, pos := "board.go:157", after := #[], guard := none }) (v := .slice A n cap) rfl (by kernel_rfl) (by kernel_rfl) (by kernel_rfl) (fun _ _ _ h => h) (Or.inl ⟨by rfl, by intro w2 hSw; (try dsimp only at hSw); have yHP0 := (hSw.cell (lt_of_cell zHP0)).trans zHP0; have yHP1 := (hSw.cell (lt_of_cell zHP1)).trans zHP1; have yHP2 := (hSw.cell (lt_of_cell zHP2)).trans zHP2;   go_simp⟩) hS0 ?_
      try simp only [Act.put, List.setIfInBounds_toArray, List.set_cons_zero, List.set_cons_succ]
      refine wpAnyH_take (i := 1) (oi := { dst := some 20, op := Go.Op.fieldAddr 60 (Go.Operand.tmp 7) 0, type := 0, pos := "board.go:157", after := #[], guard := none }) (v := .pointer (some ⟨P, 0, none⟩)) rfl (by kernel_rfl) (by kernel_rfl) (by kernel_rfl) (fun _ _ _ h => h) (Or.inl ⟨by rfl, by intro w2 hSw; (try dsimp only at hSw); have yHP0 := (hSw.cell (lt_of_cell zHP0)).trans zHP0; have yHP1 := (hSw.cell (lt_of_cell zHP1)).trans zHP1; have yHP2 := (hSw.cell (lt_of_cell zHP2)).trans zHP2;   go_simp⟩) hS0 ?_
      try simp only [Act.put, List.setIfInBounds_toArray, List.set_cons_zero, List.set_cons_succ]
      refine wpAnyH_take (i := 2) (oi := { dst := some 21, op := Go.Op.load 3 (Go.Operand.tmp 20), type := 3, pos := "board.go:157", after := #[{ on := 1, ground := Go.Ground.data }], guard := none }) (v := .int .i64 gl) rfl (by kernel_rfl) (by kernel_rfl) (by kernel_rfl) (fun _ _ _ h => h) (Or.inl ⟨by rfl, by intro w2 hSw; (try dsimp only at hSw); have yHP0 := (hSw.cell (lt_of_cell zHP0)).trans zHP0; have yHP1 := (hSw.cell (lt_of_cell zHP1)).trans zHP1; have yHP2 := (hSw.cell (lt_of_cell zHP2)).trans zHP2;   go_simp⟩) hS0 ?_
      try simp only [Act.put, List.setIfInBounds_toArray, List.set_cons_zero, List.set_cons_succ]
      refine wpAnyH_take (i := 4) (oi := { dst := some 23, op := Go.Op.move (Go.Operand.tmp 1), type := 23, pos := "board.go:157", after := #[], guard := none }) (v := .slice A n cap) rfl (by kernel_rfl) (by kernel_rfl) (by kernel_rfl) (fun _ _ _ h => h) (Or.inl ⟨by rfl, by intro w2 hSw; (try dsimp only at hSw); have yHP0 := (hSw.cell (lt_of_cell zHP0)).trans zHP0; have yHP1 := (hSw.cell (lt_of_cell zHP1)).trans zHP1; have yHP2 := (hSw.cell (lt_of_cell zHP2)).trans zHP2;   go_simp⟩) hS0 ?_
      try simp only [Act.put, List.setIfInBounds_toArray, List.set_cons_zero, List.set_cons_succ]
      refine wpAnyH_take (i := 5) (oi := { dst := some 24, op := Go.Op.fieldAddr 60 (Go.Operand.tmp 7) 1, type := 0, pos := "board.go:157", after := #[], guard := none }) (v := .pointer (some ⟨P, 1, none⟩)) rfl (by kernel_rfl) (by kernel_rfl) (by kernel_rfl) (fun _ _ _ h => h) (Or.inl ⟨by rfl, by intro w2 hSw; (try dsimp only at hSw); have yHP0 := (hSw.cell (lt_of_cell zHP0)).trans zHP0; have yHP1 := (hSw.cell (lt_of_cell zHP1)).trans zHP1; have yHP2 := (hSw.cell (lt_of_cell zHP2)).trans zHP2;   go_simp⟩) hS0 ?_
      try simp only [Act.put, List.setIfInBounds_toArray, List.set_cons_zero, List.set_cons_succ]
      refine wpAnyH_take (i := 6) (oi := { dst := some 25, op := Go.Op.load 3 (Go.Operand.tmp 24), type := 3, pos := "board.go:157", after := #[{ on := 5, ground := Go.Ground.data }], guard := none }) (v := .int .i64 gh) rfl (by kernel_rfl) (by kernel_rfl) (by kernel_rfl) (fun _ _ _ h => h) (Or.inl ⟨by rfl, by intro w2 hSw; (try dsimp only at hSw); have yHP0 := (hSw.cell (lt_of_cell zHP0)).trans zHP0; have yHP1 := (hSw.cell (lt_of_cell zHP1)).trans zHP1; have yHP2 := (hSw.cell (lt_of_cell zHP2)).trans zHP2;   go_simp⟩) hS0 ?_
      try simp only [Act.put, List.setIfInBounds_toArray, List.set_cons_zero, List.set_cons_succ]
      refine wpAnyH_ready (rs := [3]) (by kernel_rfl) (by simp) ?_
      refine AllReadyH.cons (o := { dst := some 22, op := Go.Op.call { callee := Go.Callee.value (Go.Operand.func 71), args := #[Go.Operand.tmp 19, Go.Operand.tmp 21], argTypes := #[23, 3] }, type := 4, pos := "board.go:157", after := #[{ on := 0, ground := Go.Ground.data }, { on := 2, ground := Go.Ground.data }], guard := none }) rfl (fun K2 hK => ?_) AllReadyH.nil
      go_simp
      refine (contains71 A n cap ss gl _ (S.out.below hS0 (Nat.le_refl _)) hn).mono ?_
      rintro e9 w3v1 ⟨rfl, hb9⟩
      replace hb9 := below_eq hb9
      rw [J1.out]
      (try go_simp)
      refine hK.out _ _ (hS0.trans (hb9.mono hS0.size)) (fun hS1 => ?_)
      clear hK K2 hb9
      try simp only [Act.put, List.setIfInBounds_toArray, List.set_cons_zero, List.set_cons_succ]
      refine wpAnyH_ready (rs := [7]) (by kernel_rfl) (by simp) ?_
      refine AllReadyH.cons (o := { dst := some 26, op := Go.Op.call { callee := Go.Callee.value (Go.Operand.func 71), args := #[Go.Operand.tmp 23, Go.Operand.tmp 25], argTypes := #[23, 3] }, type := 4, pos := "board.go:157", after := #[{ on := 4, ground := Go.Ground.data }, { on := 6, ground := Go.Ground.data }, { on := 3, ground := Go.Ground.chain }], guard := none }) rfl (fun K2 hK => ?_) AllReadyH.nil
      go_simp
      refine (contains71 A n cap ss gh w3v1 (S.out.below hS1 (Nat.le_refl _)) hn).mono ?_
      rintro e9 w3v2 ⟨rfl, hb9⟩
      replace hb9 := below_eq hb9
      rw [J2.out]
      (try go_simp)
      refine hK.out _ _ (hS1.trans (hb9.mono hS1.size)) (fun hS2 => ?_)
      clear hK K2 hb9
      try simp only [Act.put, List.setIfInBounds_toArray, List.set_cons_zero, List.set_cons_succ]
      refine wpAnyH_take (i := 8) (oi := { dst := some 27, op := Go.Op.binOp Go.BinOp.neq 4 (Go.Operand.tmp 22) (Go.Operand.tmp 26) 4, type := 4, pos := "board.go:157", after := #[{ on := 3, ground := Go.Ground.data }, { on := 7, ground := Go.Ground.data }], guard := none }) (v := .bool (!(j1 == j2))) rfl (by kernel_rfl) (by kernel_rfl) (by kernel_rfl) (fun _ _ _ h => h) (Or.inl ⟨by rfl, by intro w2 hSw; (try dsimp only at hSw); have yHP0 := (hSw.cell (lt_of_cell zHP0)).trans zHP0; have yHP1 := (hSw.cell (lt_of_cell zHP1)).trans zHP1; have yHP2 := (hSw.cell (lt_of_cell zHP2)).trans zHP2;   go_simp⟩) hS2 ?_
      try simp only [Act.put, List.setIfInBounds_toArray, List.set_cons_zero, List.set_cons_succ]
      refine wpAnyH_done (by kernel_rfl) ?_ _
      clear zHP0 zHP1 zHP2 ltHP
      have hb := hS2
      clear hS0 hS1 hS2
      replace S := Lib.hid (S.out.below hb (Nat.le_refl _))
      replace HG := Lib.hid (HG.out.below hb (Nat.le_refl _))
      replace HP := Lib.hid ((hb.block _ (lt_of_block HP.out)).trans HP.out)
      clear hb
      rcases j1 with _ | _ <;> rcases j2 with _ | _
      · have hF : cutB b.zs (sB ss) k = false := by rw [Hcu.out]; rfl
        have HL := Lib.hid (show ctK b.zs ss (k + 1) = ctK b.zs ss k by rw [Hsl.out, hF]; rfl)
        have HC := Lib.hid (show csK b.zs ss (k + 1) = q by rw [Hsc.out, hF, ind_f]; omega)
        clear hF
        go_wp2_with fail
        go_roundw
        case rel => exact ⟨k + 1, by omega, by go_num, by rw [HC.out], Lib.hid ⟨_, rfl, by rw [HL.out]; exact HG.out⟩⟩
        case measure => simp [intOf]; omega
      · have hF : cutB b.zs (sB ss) k = true := by rw [Hcu.out]; rfl
        have HL := Lib.hid (show ctK b.zs ss (k + 1) = ctK b.zs ss k ++ [(k : Int)] by rw [Hsl.out, hF]; rfl)
        have HC := Lib.hid (show csK b.zs ss (k + 1) = q + gt by rw [Hsc.out, hF, ind_t])
        obtain ⟨C, cc, W', hrun, hG2, hkp⟩ := GrI.app2 HG.out (k : Int) Hlen.out
        have HG2 := Lib.hid (show GrL w W' (.slice C ((ctK b.zs ss k).length + 1) cc) (ctK b.zs ss k ++ [(k : Int)]) from by unfold GrL; rw [List.length_append]; exact hG2)
        have hPW : W'.cell? ⟨P, 2, none⟩ = some (.int .i64 gt) := by rw [cell_row ((hkp.block _ (lt_of_block HP.out) (fun e => by have := HO.out _ e; omega)).trans HP.out)]; rfl
        clear hF hG2 hkp
        go_wp2_with fail
        go_roundw
        case rel => exact ⟨k + 1, by omega, by go_num, by rw [HC.out], Lib.hid ⟨_, rfl, by rw [HL.out]; exact HG2.out⟩⟩
        case measure => simp [intOf]; omega
      · have hF : cutB b.zs (sB ss) k = true := by rw [Hcu.out]; rfl
        have HL := Lib.hid (show ctK b.zs ss (k + 1) = ctK b.zs ss k ++ [(k : Int)] by rw [Hsl.out, hF]; rfl)
        have HC := Lib.hid (show csK b.zs ss (k + 1) = q + gt by rw [Hsc.out, hF, ind_t])
        obtain ⟨C, cc, W', hrun, hG2, hkp⟩ := GrI.app2 HG.out (k : Int) Hlen.out
        have HG2 := Lib.hid (show GrL w W' (.slice C ((ctK b.zs ss k).length + 1) cc) (ctK b.zs ss k ++ [(k : Int)]) from by unfold GrL; rw [List.length_append]; exact hG2)
        have hPW : W'.cell? ⟨P, 2, none⟩ = some (.int .i64 gt) := by rw [cell_row ((hkp.block _ (lt_of_block HP.out) (fun e => by have := HO.out _ e; omega)).trans HP.out)]; rfl
        clear hF hG2 hkp
        go_wp2_with fail
        go_roundw
        case rel => exact ⟨k + 1, by omega, by go_num, by rw [HC.out], Lib.hid ⟨_, rfl, by rw [HL.out]; exact HG2.out⟩⟩
        case measure => simp [intOf]; omega
      · have hF : cutB b.zs (sB ss) k = false := by rw [Hcu.out]; rfl
        have HL := Lib.hid (show ctK b.zs ss (k + 1) = ctK b.zs ss k by rw [Hsl.out, hF]; rfl)
        have HC := Lib.hid (show csK b.zs ss (k + 1) = q by rw [Hsc.out, hF, ind_f]; omega)
        clear hF
        go_wp2_with fail
        go_roundw
        case rel => exact ⟨k + 1, by omega, by go_num, by rw [HC.out], Lib.hid ⟨_, rfl, by rw [HL.out]; exact HG.out⟩⟩
        case measure => simp [intOf]; omega
    · obtain rfl : k = b.l.n := by omega
      obtain ⟨C, cap9, rfl, hcap, hI9, -⟩ := ints_own rfl hG.1
      have HI9 := Lib.hid hI9
      have HB := Lib.hid hG.2.2
      clear hI9 hG
      go_wp2_with fail
      go_ret2
      exact ⟨C, cap9, rfl, hcap, HI9.out, HB.out⟩
end
end Go.Proofs.Ytigohccehllmnaa
