/- Stage 6: the document's cheapest sides. -/
import Derived.Test.YtigohccehllmnaaAs
import Derived.Test.YtigohccehllmnaaDk9
namespace Go.Proofs.Ytigohccehllmnaa
set_option linter.unusedSimpArgs false
set_option linter.unusedVariables false
open Go.RowKit Go.Shelf

/-- What a side costs. -/
def cst (l : NL) (s : List Int) : Int := csK l.zs s l.n
def rsB (l : NL) (all : List (List Int)) (b : Int) (i : Nat) : Bool := decide (b < 0) || decide (cst l (all.getD i []) < b)
def bsK (l : NL) (all : List (List Int)) : Nat → Int
  | 0 => -1
  | i + 1 => if rsB l all (bsK l all i) i = true then cst l (all.getD i []) else bsK l all i
def otK (l : NL) (all : List (List Int)) : Nat → List (List Int)
  | 0 => []
  | i + 1 => if rsB l all (bsK l all i) i = true then [all.getD i []] else if cst l (all.getD i []) = bsK l all i then otK l all i ++ [all.getD i []] else otK l all i
theorem otK_len (l : NL) (all : List (List Int)) : ∀ i, (otK l all i).length ≤ i
  | 0 => Nat.le_refl _
  | i + 1 => by
    have := otK_len l all i
    simp only [otK]
    split
    · simp
    · split
      · rw [List.length_append]; simp; omega
      · omega
theorem bsK_ge (l : NL) (all : List (List Int)) (h : ∀ s, 0 ≤ cst l s) : ∀ i, -1 ≤ bsK l all i
  | 0 => by simp [bsK]
  | i + 1 => by
    have h1 := bsK_ge l all h i
    have h2 := h (all.getD i [])
    simp only [bsK]
    split <;> omega
section
attribute [local go_sem ↓] exec_app at_app
attribute [local go_sem] Oper.semAt_some
set_option maxRecDepth 100000 in
set_option maxHeartbeats 16000000 in
theorem cheapest62 (l : NL) (c : Nat) (w : World) (h : NLs w l) (hch : chkL l = 0) (hcN : l.N = (c : Int)) (hc1 : 1 ≤ c) (hc9 : c ≤ 9) :
    Calls Try.prog 62 #[.agg #[.int .i64 l.N, .slice l.A l.n l.cap, .slice l.LA l.ln l.lc, .slice l.RA l.rn l.rc]] w fun e w' => ∃ C cap, e = .returned (.tuple #[.slice C (otK l (asK l c (2 ^ c)) (asK l c (2 ^ c)).length).length cap, .int .i64 (bsK l (asK l c (2 ^ c)) (asK l c (2 ^ c)).length)]) ∧ (otK l (asK l c (2 ^ c)) (asK l c (2 ^ c)).length).length ≤ cap ∧ Rows w' C (otK l (asK l c (2 ^ c)) (asK l c (2 ^ c)).length).length (otK l (asK l c (2 ^ c)) (asK l c (2 ^ c)).length) ∧ Below w.heap.size w w' := by
  obtain ⟨R, hR⟩ : ∃ v, w.heap.size = v := ⟨_, rfl⟩
  have hb0 := below_alloc_ w (.cells #[.int .i64 l.N, .slice l.A l.n l.cap, .slice l.LA l.ln l.lc, .slice l.RA l.rn l.rc] 25)
  have hr0 := heap_alloc_new_ w (.cells #[.int .i64 l.N, .slice l.A l.n l.cap, .slice l.LA l.ln l.lc, .slice l.RA l.rn l.rc] 25)
  have hz0 : (w.alloc (.cells #[.int .i64 l.N, .slice l.A l.n l.cap, .slice l.LA l.ln l.lc, .slice l.RA l.rn l.rc] 25)).heap.size = w.heap.size + 1 := by simp
  obtain ⟨w0, hw0⟩ : ∃ v, w.alloc (.cells #[.int .i64 l.N, .slice l.A l.n l.cap, .slice l.LA l.ln l.lc, .slice l.RA l.rn l.rc] 25) = v := ⟨_, rfl⟩
  rw [hw0] at hb0 hr0 hz0
  rw [hR] at hr0 hz0
  have hB := hb0
  have S := Lib.hid (h.below hB (Nat.le_refl _))
  have X := Lib.hid hr0
  have HW0 := Lib.hid hw0
  have B := Lib.hid hB
  have HR := Lib.hid hR
  clear hB hR hb0 hr0 hz0 hw0 h
  have Hc9 := Lib.hid hc9
  have Hc1 := Lib.hid hc1
  have HCN := Lib.hid hcN
  have Hch := Lib.hid hch
  clear hc9 hc1 hcN hch
  have ltX : R < w0.heap.size := lt_of_block X.out
  have zX0 : w0.cell? ⟨R, 0, none⟩ = some (.int .i64 l.N) := by rw [cell_row X.out]; rfl
  have zX1 : w0.cell? ⟨R, 1, none⟩ = some (.slice l.A l.n l.cap) := by rw [cell_row X.out]; rfl
  have zX2 : w0.cell? ⟨R, 2, none⟩ = some (.slice l.LA l.ln l.lc) := by rw [cell_row X.out]; rfl
  have zX3 : w0.cell? ⟨R, 3, none⟩ = some (.slice l.RA l.rn l.rc) := by rw [cell_row X.out]; rfl
  go_enter Try.func62, Try.ntmps62
  go_wp2_with fail
  try rw [HW0.out]
  try rw [HR.out]
  try simp only [Nat.add_assoc, Nat.reduceAdd]
  try go_wp2_with fail
  clear zX0 zX1 zX2 zX3 ltX
  refine (allSides80 l c w0 S.out HCN.out Hc1.out Hc9.out).mono ?_
  rintro en w1 ⟨CA, ca, rfl, hca, hR, hb⟩
  replace S := Lib.hid (S.out.below hb (Nat.le_refl _))
  replace X := Lib.hid ((hb.block _ (lt_of_block X.out)).trans X.out)
  replace B := Lib.hid (B.out.trans (hb.mono B.out.size))
  have hall := asK_len l c (2 ^ c)
  have hM5 : 2 ^ c ≤ 512 := (Nat.le_trans (Nat.pow_le_pow_right (n := 2) (by omega) Hc9.out) (by decide : 2 ^ 9 ≤ 512))
  obtain ⟨all, hal⟩ : ∃ v, asK l c (2 ^ c) = v := ⟨_, rfl⟩
  rw [hal] at hall hR ⊢
  have HR := Lib.hid hR
  have HAL := Lib.hid hal
  have Hn5 := Lib.hid (show all.length ≤ 512 by omega)
  clear hR hal hall hM5 hca
  try clear hb
  go_wp2_with fail
  obtain ⟨n, hn⟩ : ∃ v, all.length = v := ⟨_, rfl⟩
  rw [hn] at HR Hn5 ⊢
  have Hn := Lib.hid hn
  clear hn
  go_loopw [4, 5, 7, 8, 9] (fun v b i a1 a2 wr => ∃ k : Nat, k ≤ n ∧ i = .int .i64 (k : Int) ∧ b = .int .i64 (bsK l all k) ∧ Hid (∃ v0 : Value, v = v0 ∧ GrR w1 wr v0 (otK l all k) ∧ Below w1.heap.size w1 wr)) (fun v b i a1 a2 _ => n - (intOf i).toNat)
  case atStart => exact ⟨0, Nat.zero_le _, rfl, rfl, Lib.hid ⟨_, rfl, GrR.nil _ _, Below.refl _ _⟩⟩
  case round =>
    obtain ⟨k, hk9, rfl, rfl, HX⟩ := hrel
    obtain ⟨wk, rfl⟩ : ∃ wk, wk = wr := ⟨_, rfl⟩
    obtain ⟨v0, hv, hG, hbk⟩ := HX.out
    obtain rfl : v0 = _ := hv.symm
    clear HX hv
    have hn5 := Hn5.out
    by_cases hlt : k < n
    · obtain ⟨ba, oa, hA, hcz⟩ := HR.out.2 (by omega)
      obtain ⟨Ci, mi, ci, hci, hIi, hmc, hm6⟩ := hcz k hlt
      subst hA
      have HIi := Lib.hid hIi
      have rc : wk.cell? ⟨ba, oa + k, none⟩ = some (.slice Ci mi ci) := (hbk.cell (lt_of_cell hci)).trans hci
      have HCk := Lib.hid rc
      have Xk := Lib.hid ((hbk.block _ (lt_of_block X.out)).trans X.out)
      have Sk := Lib.hid (S.out.below hbk (Nat.le_refl _))
      have SIk := Lib.hid (hIi.below hbk (Nat.le_refl _))
      have HG := Lib.hid hG
      have HBk := Lib.hid hbk
      have HBk0 := Lib.hid hbk
      have Hmc := Lib.hid hmc
      have Hm6 := Lib.hid hm6
      have Hlt := Lib.hid hlt
      have hbs : bsK l all (k + 1) = if rsB l all (bsK l all k) k = true then cst l (all.getD k []) else bsK l all k := rfl
      have hot : otK l all (k + 1) = if rsB l all (bsK l all k) k = true then [all.getD k []] else if cst l (all.getD k []) = bsK l all k then otK l all k ++ [all.getD k []] else otK l all k := rfl
      have hcn : ∀ s, 0 ≤ cst l s := fun s => (csK_le s (chk_tr Hch.out S.out) l.n (Nat.le_refl _)).1
      have hge := bsK_ge l all hcn k
      have hq0 := hcn (all.getD k [])
      have hln := otK_len l all k
      unfold rsB at hbs hot
      obtain ⟨si, hsi⟩ : ∃ v, all.getD k [] = v := ⟨_, rfl⟩
      rw [hsi] at hbs hot hq0 HIi SIk
      obtain ⟨q, hq⟩ : ∃ v, cst l si = v := ⟨_, rfl⟩
      have HQ := Lib.hid (show csK l.zs si l.n = q from hq)
      rw [hq] at hbs hot hq0
      obtain ⟨bs, hbe⟩ : ∃ v, bsK l all k = v := ⟨_, rfl⟩
      rw [hbe] at hbs hot hge ⊢
      have HBS := Lib.hid hbs
      have HOT := Lib.hid hot
      have HLN := Lib.hid hln
      have i0 : (0 : Int) ≤ (k : Int) := by omega
      have i1 : (k : Int) < (n : Int) := by omega
      have Hge := Lib.hid (And.intro hge hq0)
      clear hsi hq hbe hbs hot hcn hG hbk hcz hci hIi hmc hm6 hln hge hq0
      go_upto_region 7 with fail
      have ltXk : R < wk.heap.size := lt_of_block Xk.out
      have zXk0 : wk.cell? ⟨R, 0, none⟩ = some (.int .i64 l.N) := by rw [cell_row Xk.out]; rfl
      have zXk1 : wk.cell? ⟨R, 1, none⟩ = some (.slice l.A l.n l.cap) := by rw [cell_row Xk.out]; rfl
      have zXk2 : wk.cell? ⟨R, 2, none⟩ = some (.slice l.LA l.ln l.lc) := by rw [cell_row Xk.out]; rfl
      have zXk3 : wk.cell? ⟨R, 3, none⟩ = some (.slice l.RA l.rn l.rc) := by rw [cell_row Xk.out]; rfl
      refine wp_region_held_drew (S := fun wS => Below wk.heap.size wk wS) (by kernel_rfl) (drew_b _ _) (fun hS0 => ?_)
      refine wpAnyH_take (i := 0) (oi := { dst := some 19, op := Go.Op.load 25 (Go.Operand.tmp 1), type := 25, pos := "ref.go:224", after := #[], guard := none }) (v := .agg #[.int .i64 l.N, .slice l.A l.n l.cap, .slice l.LA l.ln l.lc, .slice l.RA l.rn l.rc]) rfl (by kernel_rfl) (by kernel_rfl) (by kernel_rfl) (fun _ _ _ h => h) (Or.inl ⟨by rfl, by intro wS hSw; (try dsimp only at hSw); have yXk0 := (hSw.cell (lt_of_cell zXk0)).trans zXk0; have yXk1 := (hSw.cell (lt_of_cell zXk1)).trans zXk1; have yXk2 := (hSw.cell (lt_of_cell zXk2)).trans zXk2; have yXk3 := (hSw.cell (lt_of_cell zXk3)).trans zXk3; have yrc := (hSw.cell (lt_of_cell rc)).trans rc;  go_simp⟩) hS0 ?_
      try simp only [Act.put, List.setIfInBounds_toArray, List.set_cons_zero, List.set_cons_succ]
      refine wpAnyH_take (i := 1) (oi := { dst := some 20, op := Go.Op.move (Go.Operand.tmp 6), type := 28, pos := "ref.go:224", after := #[], guard := none }) (v := .slice (some ⟨ba, oa, none⟩) n ca) rfl (by kernel_rfl) (by kernel_rfl) (by kernel_rfl) (fun _ _ _ h => h) (Or.inl ⟨by rfl, by intro wS hSw; (try dsimp only at hSw); have yXk0 := (hSw.cell (lt_of_cell zXk0)).trans zXk0; have yXk1 := (hSw.cell (lt_of_cell zXk1)).trans zXk1; have yXk2 := (hSw.cell (lt_of_cell zXk2)).trans zXk2; have yXk3 := (hSw.cell (lt_of_cell zXk3)).trans zXk3; have yrc := (hSw.cell (lt_of_cell rc)).trans rc;  go_simp⟩) hS0 ?_
      try simp only [Act.put, List.setIfInBounds_toArray, List.set_cons_zero, List.set_cons_succ]
      refine wpAnyH_take (i := 2) (oi := { dst := some 21, op := Go.Op.move (Go.Operand.tmp 7), type := 3, pos := "ref.go:224", after := #[], guard := none }) (v := .int .i64 (k : Int)) rfl (by kernel_rfl) (by kernel_rfl) (by kernel_rfl) (fun _ _ _ h => h) (Or.inl ⟨by rfl, by intro wS hSw; (try dsimp only at hSw); have yXk0 := (hSw.cell (lt_of_cell zXk0)).trans zXk0; have yXk1 := (hSw.cell (lt_of_cell zXk1)).trans zXk1; have yXk2 := (hSw.cell (lt_of_cell zXk2)).trans zXk2; have yXk3 := (hSw.cell (lt_of_cell zXk3)).trans zXk3; have yrc := (hSw.cell (lt_of_cell rc)).trans rc;  go_simp⟩) hS0 ?_
      try simp only [Act.put, List.setIfInBounds_toArray, List.set_cons_zero, List.set_cons_succ]
      refine wpAnyH_take (i := 3) (oi := { dst := some 22, op := Go.Op.indexAddr 28 (Go.Operand.tmp 20) (Go.Operand.tmp 21), type := 0, pos := "ref.go:224", after := #[{ on := 1, ground := Go.Ground.data }, { on := 2, ground := Go.Ground.data }], guard := none }) (v := .pointer (some ⟨ba, oa + k, none⟩)) rfl (by kernel_rfl) (by kernel_rfl) (by kernel_rfl) (fun _ _ _ h => h) (Or.inl ⟨by rfl, by intro wS hSw; (try dsimp only at hSw); have yXk0 := (hSw.cell (lt_of_cell zXk0)).trans zXk0; have yXk1 := (hSw.cell (lt_of_cell zXk1)).trans zXk1; have yXk2 := (hSw.cell (lt_of_cell zXk2)).trans zXk2; have yXk3 := (hSw.cell (lt_of_cell zXk3)).trans zXk3; have yrc := (hSw.cell (lt_of_cell rc)).trans rc;  go_simp⟩) hS0 ?_
      try simp only [Act.put, List.setIfInBounds_toArray, List.set_cons_zero, List.set_cons_succ]
      refine wpAnyH_take (i := 4) (oi := { dst := some 23, op := Go.Op.load 23 (Go.Operand.tmp 22), type := 23, pos := "ref.go:224", after := #[{ on := 3, ground := Go.Ground.data }], guard := none }) (v := .slice Ci mi ci) rfl (by kernel_rfl) (by kernel_rfl) (by kernel_rfl) (fun _ _ _ h => h) (Or.inl ⟨by rfl, by intro wS hSw; (try dsimp only at hSw); have yXk0 := (hSw.cell (lt_of_cell zXk0)).trans zXk0; have yXk1 := (hSw.cell (lt_of_cell zXk1)).trans zXk1; have yXk2 := (hSw.cell (lt_of_cell zXk2)).trans zXk2; have yXk3 := (hSw.cell (lt_of_cell zXk3)).trans zXk3; have yrc := (hSw.cell (lt_of_cell rc)).trans rc;  go_simp⟩) hS0 ?_
      try simp only [Act.put, List.setIfInBounds_toArray, List.set_cons_zero, List.set_cons_succ]
      refine wpAnyH_ready (rs := [5]) (by kernel_rfl) (by simp) ?_
      refine AllReadyH.cons (o := { dst := some 24, op := Go.Op.call { callee := Go.Callee.value (Go.Operand.func 56), args := #[Go.Operand.tmp 19, Go.Operand.tmp 23], argTypes := #[25, 23] }, type := 83, pos := "ref.go:224", after := #[{ on := 0, ground := Go.Ground.data }, { on := 4, ground := Go.Ground.data }], guard := none }) rfl (fun K2 hK => ?_) AllReadyH.nil
      go_simp
      refine (cut56 l Ci mi ci si _ (Sk.out.below hS0 (Nat.le_refl _)) (SIk.out.below hS0 (Nat.le_refl _)) Hm6.out Hch.out).mono ?_
      rintro e9 wkv1 ⟨CC, cpc, rfl, -, -, hb9⟩
      rw [HQ.out]
      obtain ⟨mm, hmm⟩ : ∃ v, (ctK l.zs si l.n).length = v := ⟨_, rfl⟩
      rw [hmm]
      clear hmm
      (try go_simp)
      refine hK.out _ _ (hS0.trans (hb9.mono hS0.size)) (fun hS1 => ?_)
      clear hK K2 hb9
      try simp only [Act.put, List.setIfInBounds_toArray, List.set_cons_zero, List.set_cons_succ]
      refine wpAnyH_take (i := 6) (oi := { dst := some 18, op := Go.Op.move (Go.Operand.tmp 24), type := 83, pos := "ref.go:224", after := #[{ on := 5, ground := Go.Ground.data }], guard := none }) (v := .tuple #[.slice CC mm cpc, .int .i64 q]) rfl (by kernel_rfl) (by kernel_rfl) (by kernel_rfl) (fun _ _ _ h => h) (Or.inl ⟨by rfl, by intro wS hSw; (try dsimp only at hSw); have yXk0 := (hSw.cell (lt_of_cell zXk0)).trans zXk0; have yXk1 := (hSw.cell (lt_of_cell zXk1)).trans zXk1; have yXk2 := (hSw.cell (lt_of_cell zXk2)).trans zXk2; have yXk3 := (hSw.cell (lt_of_cell zXk3)).trans zXk3; have yrc := (hSw.cell (lt_of_cell rc)).trans rc;  go_simp⟩) hS1 ?_
      try simp only [Act.put, List.setIfInBounds_toArray, List.set_cons_zero, List.set_cons_succ]
      refine wpAnyH_take (i := 7) (oi := { dst := some 25, op := Go.Op.extract (Go.Operand.tmp 18) 0, type := 23, pos := "ref.go:224", after := #[{ on := 6, ground := Go.Ground.data }], guard := none }) (v := .slice CC mm cpc) rfl (by kernel_rfl) (by kernel_rfl) (by kernel_rfl) (fun _ _ _ h => h) (Or.inl ⟨by rfl, by intro wS hSw; (try dsimp only at hSw); have yXk0 := (hSw.cell (lt_of_cell zXk0)).trans zXk0; have yXk1 := (hSw.cell (lt_of_cell zXk1)).trans zXk1; have yXk2 := (hSw.cell (lt_of_cell zXk2)).trans zXk2; have yXk3 := (hSw.cell (lt_of_cell zXk3)).trans zXk3; have yrc := (hSw.cell (lt_of_cell rc)).trans rc;  go_simp⟩) hS1 ?_
      try simp only [Act.put, List.setIfInBounds_toArray, List.set_cons_zero, List.set_cons_succ]
      refine wpAnyH_take (i := 8) (oi := { dst := some 26, op := Go.Op.extract (Go.Operand.tmp 18) 1, type := 2, pos := "ref.go:224", after := #[{ on := 6, ground := Go.Ground.data }, { on := 9, ground := Go.Ground.gcOnly Go.Departure.lateStores }], guard := none }) (v := .int .i64 q) rfl (by kernel_rfl) (by kernel_rfl) (by kernel_rfl) (fun _ _ _ h => h) (Or.inl ⟨by rfl, by intro wS hSw; (try dsimp only at hSw); have yXk0 := (hSw.cell (lt_of_cell zXk0)).trans zXk0; have yXk1 := (hSw.cell (lt_of_cell zXk1)).trans zXk1; have yXk2 := (hSw.cell (lt_of_cell zXk2)).trans zXk2; have yXk3 := (hSw.cell (lt_of_cell zXk3)).trans zXk3; have yrc := (hSw.cell (lt_of_cell rc)).trans rc;  go_simp⟩) hS1 ?_
      try simp only [Act.put, List.setIfInBounds_toArray, List.set_cons_zero, List.set_cons_succ]
      refine wpAnyH_take (i := 9) (oi := { dst := some 8, op := Go.Op.assign (Go.Operand.tmp 25), type := 23, pos := "ref.go:224", after := #[{ on := 7, ground := Go.Ground.data }, { on := 5, ground := Go.Ground.chain }, { on := 0, ground := Go.Ground.phase }, { on := 1, ground := Go.Ground.phase }, { on := 2, ground := Go.Ground.phase }, { on := 3, ground := Go.Ground.phase }, { on := 4, ground := Go.Ground.phase }, { on := 5, ground := Go.Ground.phase }, { on := 6, ground := Go.Ground.phase }, { on := 7, ground := Go.Ground.phase }, { on := 8, ground := Go.Ground.textOnly Go.Departure.lateStores }], guard := none }) (v := .slice CC mm cpc) rfl (by kernel_rfl) (by kernel_rfl) (by kernel_rfl) (fun _ _ _ h => h) (Or.inl ⟨by rfl, by intro wS hSw; (try dsimp only at hSw); have yXk0 := (hSw.cell (lt_of_cell zXk0)).trans zXk0; have yXk1 := (hSw.cell (lt_of_cell zXk1)).trans zXk1; have yXk2 := (hSw.cell (lt_of_cell zXk2)).trans zXk2; have yXk3 := (hSw.cell (lt_of_cell zXk3)).trans zXk3; have yrc := (hSw.cell (lt_of_cell rc)).trans rc;  go_simp⟩) hS1 ?_
      try simp only [Act.put, List.setIfInBounds_toArray, List.set_cons_zero, List.set_cons_succ]
      refine wpAnyH_take (i := 10) (oi := { dst := some 9, op := Go.Op.assign (Go.Operand.tmp 26), type := 2, pos := "ref.go:224", after := #[{ on := 8, ground := Go.Ground.data }, { on := 9, ground := Go.Ground.chain }, { on := 0, ground := Go.Ground.phase }, { on := 1, ground := Go.Ground.phase }, { on := 2, ground := Go.Ground.phase }, { on := 3, ground := Go.Ground.phase }, { on := 4, ground := Go.Ground.phase }, { on := 5, ground := Go.Ground.phase }, { on := 6, ground := Go.Ground.phase }, { on := 7, ground := Go.Ground.phase }, { on := 8, ground := Go.Ground.phase }, { on := 9, ground := Go.Ground.phase }], guard := none }) (v := .int .i64 q) rfl (by kernel_rfl) (by kernel_rfl) (by kernel_rfl) (fun _ _ _ h => h) (Or.inl ⟨by rfl, by intro wS hSw; (try dsimp only at hSw); have yXk0 := (hSw.cell (lt_of_cell zXk0)).trans zXk0; have yXk1 := (hSw.cell (lt_of_cell zXk1)).trans zXk1; have yXk2 := (hSw.cell (lt_of_cell zXk2)).trans zXk2; have yXk3 := (hSw.cell (lt_of_cell zXk3)).trans zXk3; have yrc := (hSw.cell (lt_of_cell rc)).trans rc;  go_simp⟩) hS1 ?_
      try simp only [Act.put, List.setIfInBounds_toArray, List.set_cons_zero, List.set_cons_succ]
      refine wpAnyH_done (by kernel_rfl) ?_ _
      clear zXk0 zXk1 zXk2 zXk3 ltXk rc
      have hb := hS1
      clear hS0 hS1
      replace Sk := Lib.hid (Sk.out.below hb (Nat.le_refl _))
      replace SIk := Lib.hid (SIk.out.below hb (Nat.le_refl _))
      replace HG := Lib.hid (HG.out.below hb (Nat.le_refl _))
      replace Xk := Lib.hid ((hb.block _ (lt_of_block Xk.out)).trans Xk.out)
      replace HBk := Lib.hid (HBk.out.trans (hb.mono HBk.out.size))
      clear hb
      have rc : wkv1.cell? ⟨ba, oa + k, none⟩ = some (.slice Ci mi ci) := by
        obtain ⟨b9, o9, e9, h9⟩ := HR.out.2 (by omega)
        cases e9
        have h8 := HCk.out
        obtain ⟨C9, m9, c9, e8, -⟩ := h9 k Hlt.out
        have h7 : wk.cell? ⟨ba, oa + k, none⟩ = some (.slice C9 m9 c9) := ((HBk0.out).cell (lt_of_cell e8)).trans e8
        rw [h7] at h8
        rw [← h8]
        exact (HBk.out.cell (lt_of_cell e8)).trans e8
      by_cases h1 : bs < 0
      · have d1 : decide (bs < 0) = true := decide_eq_true h1
        have HBS2 := Lib.hid (show bsK l all (k + 1) = q by rw [HBS.out, if_pos (by simp; omega)])
        have HOT2 := Lib.hid (show otK l all (k + 1) = [si] by rw [HOT.out, if_pos (by simp; omega)])
        have d9 : (q == q) = true := by rw [beq_iff_eq]
        obtain ⟨C8, c8, W8, hrun, hG8, hk8⟩ := GrR.app (GrR.nil w1 wkv1) SIk.out Hmc.out Hm6.out (fun hm a e1 e2 => by
          have h1 := HIi.out
          have h2 := ints_lt h1 hm e1
          have h3 := ((GrR.nil w1 wkv1)).new a.block e2
          omega) HBk.out.size (by (try simp only [List.length_nil]); have := HLN.out; have := Hn5.out; omega)
        have HB8 := Lib.hid (HBk.out.trans (hk8.below HBk.out.size (fun j hj e => by have := ((GrR.nil w1 wkv1)).new j e; omega)))
        have HG8 := Lib.hid hG8
        clear hG8 hk8
        go_wp2_with fail
        go_roundw
        case rel => exact ⟨k + 1, by have := Hlt.out; omega, by go_num, by rw [HBS2.out], Lib.hid ⟨_, rfl, by rw [HOT2.out]; exact HG8.out, HB8.out⟩⟩
        case measure => have := Hlt.out; simp [intOf]; omega
      have d1 : decide (bs < 0) = false := decide_eq_false h1
      by_cases h2 : q < bs
      · have d2 : decide (q < bs) = true := decide_eq_true h2
        have HBS2 := Lib.hid (show bsK l all (k + 1) = q by rw [HBS.out, if_pos (by simp; omega)])
        have HOT2 := Lib.hid (show otK l all (k + 1) = [si] by rw [HOT.out, if_pos (by simp; omega)])
        have d9 : (q == q) = true := by rw [beq_iff_eq]
        obtain ⟨C8, c8, W8, hrun, hG8, hk8⟩ := GrR.app (GrR.nil w1 wkv1) SIk.out Hmc.out Hm6.out (fun hm a e1 e2 => by
          have h1 := HIi.out
          have h2 := ints_lt h1 hm e1
          have h3 := ((GrR.nil w1 wkv1)).new a.block e2
          omega) HBk.out.size (by (try simp only [List.length_nil]); have := HLN.out; have := Hn5.out; omega)
        have HB8 := Lib.hid (HBk.out.trans (hk8.below HBk.out.size (fun j hj e => by have := ((GrR.nil w1 wkv1)).new j e; omega)))
        have HG8 := Lib.hid hG8
        clear hG8 hk8
        go_wp2_with fail
        go_roundw
        case rel => exact ⟨k + 1, by have := Hlt.out; omega, by go_num, by rw [HBS2.out], Lib.hid ⟨_, rfl, by rw [HOT2.out]; exact HG8.out, HB8.out⟩⟩
        case measure => have := Hlt.out; simp [intOf]; omega
      have d2 : decide (q < bs) = false := decide_eq_false h2
      have HBS2 := Lib.hid (show bsK l all (k + 1) = bs by rw [HBS.out, if_neg (by simp; omega)])
      have HOT1 := Lib.hid (show otK l all (k + 1) = if q = bs then otK l all k ++ [si] else otK l all k by rw [HOT.out, if_neg (by simp; omega)])
      by_cases h3 : q = bs
      · have d9 : (q == bs) = true := by rw [beq_iff_eq]; exact h3
        have HOT2 := Lib.hid (show otK l all (k + 1) = otK l all k ++ [si] by rw [HOT1.out, if_pos h3])
        clear h3
        obtain ⟨C8, c8, W8, hrun, hG8, hk8⟩ := GrR.app HG.out SIk.out Hmc.out Hm6.out (fun hm a e1 e2 => by
          have h1 := HIi.out
          have h2 := ints_lt h1 hm e1
          have h3 := (HG.out).new a.block e2
          omega) HBk.out.size (by (try simp only [List.length_nil]); have := HLN.out; have := Hn5.out; omega)
        have HB8 := Lib.hid (HBk.out.trans (hk8.below HBk.out.size (fun j hj e => by have := (HG.out).new j e; omega)))
        have HG8 := Lib.hid hG8
        clear hG8 hk8
        go_wp2_with fail
        go_roundw
        case rel => exact ⟨k + 1, by have := Hlt.out; omega, by go_num, by rw [HBS2.out], Lib.hid ⟨_, rfl, by rw [HOT2.out]; exact HG8.out, HB8.out⟩⟩
        case measure => have := Hlt.out; simp [intOf]; omega
      have d9 : (q == bs) = false := by rw [beq_eq_false_iff_ne]; exact h3
      have HOT2 := Lib.hid (show otK l all (k + 1) = otK l all k by rw [HOT1.out, if_neg h3])
      clear h3 rc
      go_wp2_with fail
      go_roundw
      case rel => exact ⟨k + 1, by have := Hlt.out; omega, by go_num, by rw [HBS2.out], Lib.hid ⟨_, rfl, by rw [HOT2.out]; exact HG.out, HBk.out⟩⟩
      case measure => have := Hlt.out; simp [intOf]; omega
    · obtain rfl : k = n := by omega
      obtain ⟨C, cp, rfl, hcp, hR⟩ := hG.rows
      have HR9 := Lib.hid (And.intro hcp hR)
      have HB := Lib.hid (B.out.trans (hbk.mono B.out.size))
      clear hcp hR hG hbk
      go_wp2_with fail
      go_ret2
      exact ⟨C, cp, by rw [HAL.out, Hn.out] <;> rfl, by rw [HAL.out, Hn.out]; exact HR9.out.1, by rw [HAL.out, Hn.out]; exact HR9.out.2, HB.out⟩
end
end Go.Proofs.Ytigohccehllmnaa
