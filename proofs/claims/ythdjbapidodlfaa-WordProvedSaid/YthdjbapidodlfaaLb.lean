/- Stage 4: WordBooks. -/
import Derived.Test.YthdjbapidodlfaaDf
import Derived.Test.YthdjbapidodlfaaWk
import Derived.Test.YthdjbapidodlfaaM18
import Derived.Deep.RegionHeld3
namespace Go.Proofs.Ythdjbapidodlfaa
set_option linter.unusedSimpArgs false
set_option linter.unusedVariables false
open Go.RowKit Go.Shelf
/-- The matches that are answered. -/
def mtR (zs : List Rg) (L : List (List Int)) (m : Nat) : List (List Int) := if chkL zs L = 0 then (mtS (cls (prs zs)) L).map (·.take m) else []
theorem mtR_ok {zs : List Rg} {L : List (List Int)} {m : Nat} (h : chkL zs L = 0) : mtR zs L m = (mtS (cls (prs zs)) L).map (·.take m) := if_pos h
theorem lns_nil (w : World) : Lns w none 0 [] := ⟨rfl, fun h => absurd h (by omega)⟩
theorem ints_nil (w : World) : Ints w none 0 [] := ⟨rfl, fun h => absurd h (by omega)⟩
theorem mtR_len {zs : List Rg} {L : List (List Int)} {m : Nat} (hl : L.length = m) : (mtR zs L m).length ≤ 4096 ∧ ∀ x ∈ mtR zs L m, x.length ≤ 4 := by
  unfold mtR
  by_cases h : chkL zs L = 0
  · rw [if_pos h]
    have h1 := mtS_len (nm := cls (prs zs)) (lv_of hl h)
    refine ⟨by rw [List.length_map]; exact h1.1, fun x hx => ?_⟩
    obtain ⟨y, hy, rfl⟩ := List.mem_map.1 hx
    have := h1.2 y hy
    rw [List.length_take]
    omega
  · rw [if_neg h]
    exact ⟨by simp, fun x hx => by cases hx⟩
theorem lAt_le {l : List (List Int)} {k : Nat} (h : ∀ x ∈ l, x.length ≤ k) (j : Nat) : (lAt l j).length ≤ k := by
  unfold lAt
  rw [List.getD_eq_getElem?_getD]
  rcases Nat.lt_or_ge j l.length with hj | hj
  · rw [List.getElem?_eq_getElem hj]
    exact h _ (List.getElem_mem hj)
  · rw [List.getElem?_eq_none hj]
    simp
/-- The answer of both functions of matches. -/
def MtQ (zs : List Rg) (L : List (List Int)) (m : Nat) (w : World) (e : Ending) (w' : World) : Prop :=
  Below w.heap.size w w' ∧ ∃ C N c, e = .returned (.tuple #[.slice C N c, .int .i64 (chkL zs L)]) ∧ Lns w' C N (mtR zs L m) ∧ N ≤ c
theorem matchesQ {f : Nat} {args : Array Value} {zs : List Rg} {L : List (List Int)} {m : Nat} {w : World} (h : Calls Try.prog f args w fun e w' => Below w.heap.size w w' ∧
      ((chkL zs L = 0 ∧ ∃ C N c, e = .returned (.tuple #[.slice C N c, .int .i64 0]) ∧ Lns w' C N ((mtS (cls (prs zs)) L).map (·.take m)) ∧ N ≤ c) ∨
       (chkL zs L ≠ 0 ∧ e = .returned (.tuple #[.slice none 0 0, .int .i64 (chkL zs L)])))) : Calls Try.prog f args w fun e w' => MtQ zs L m w e w' := by
  refine h.mono ?_
  rintro e w' ⟨hb, ⟨h0, C, N, c, rfl, hl, hc⟩ | ⟨h0, rfl⟩⟩
  · exact ⟨hb, C, N, c, by rw [h0], by rw [mtR_ok h0]; exact hl, hc⟩
  · exact ⟨hb, none, 0, 0, rfl, by unfold mtR; rw [if_neg h0]; exact lns_nil _, Nat.le_refl _⟩
section
attribute [local go_sem ↓] exec_app at_app
attribute [local go_sem] Oper.semAt_some
set_option maxRecDepth 100000 in
set_option maxHeartbeats 40000000 in
theorem books3 (A : Option Addr) (n cap : Nat) (zs : List Rg) (A2 : Option Addr) (m cap2 : Nat) (L : List (List Int)) (one two : Int) (w : World) (h : Rgs w A n zs) (hL : Lns w A2 m L) :
    Calls Try.prog 3 #[.agg #[.slice A n cap], .slice A2 m cap2, .int .i64 one, .int .i64 two] w fun e w' => e = .returned (.bool true) ∧ Below w.heap.size w w' := by
  have Hlen := Lib.hid hL.1
  have hb0 := below_alloc_ w (.cells #[.slice A n cap] 24)
  have hr0 := heap_alloc_new_ w (.cells #[.slice A n cap] 24)
  obtain ⟨W0, hW0⟩ : ∃ W0, w.alloc (.cells #[.slice A n cap] 24) = W0 := ⟨_, rfl⟩
  obtain ⟨R, hR⟩ : ∃ R, w.heap.size = R := ⟨_, rfl⟩
  rw [hW0] at hb0 hr0
  rw [hR] at hr0
  have S := Lib.hid (h.below hb0 (Nat.le_refl _))
  have X := Lib.hid (hL.below hb0 (Nat.le_refl _))
  have B := Lib.hid hb0
  have HW0 := Lib.hid hW0
  have HR := Lib.hid hR
  have rc : W0.cell? ⟨R, 0, none⟩ = some (.slice A n cap) := by rw [cell_row hr0]; rfl
  have hrow := Lib.hid hr0
  clear h hL hb0 hr0 hW0 hR
  go_enter Try.func3, Try.ntmps3
  go_wp2_with fail
  rw [HW0.out]
  try rw [HR.out]
  try go_wp2_with fail
  refine (great13 A n cap A2 m cap2 L W0 X.out).mono ?_
  rintro en w1 ⟨rfl, hb⟩
  replace S := Lib.hid (S.out.below hb (Nat.le_refl _))
  replace X := Lib.hid (X.out.below hb (Nat.le_refl _))
  replace B := Lib.hid (B.out.trans (hb.mono B.out.size))
  replace hrow := Lib.hid ((hb.block R (lt_of_block hrow.out)).trans hrow.out)
  clear hb rc
  cases hg : grtB n L
  rotate_left
  · clear hg
    go_wp2_with fail
    refine (works14 w1).mono ?_
    rintro en w2 ⟨rfl, hb⟩
    replace B := Lib.hid (B.out.trans (hb.mono B.out.size))
    clear hb
    go_wp2_with fail
    go_ret
    exact ⟨rfl, B.out⟩
  have HG := Lib.hid hg
  have hm : m ≤ 9223372036854775807 := by
    have h8 := grtB_m hg
    rw [Hlen.out] at h8
    omega
  have Hm := Lib.hid hm
  clear hg hm
  have rc : w1.cell? ⟨R, 0, none⟩ = some (.slice A n cap) := by rw [cell_row hrow.out]; rfl
  go_wp2_with fail
  refine (alike15 A n cap zs one two w1 S.out).mono ?_
  rintro en w2 ⟨rfl, hb⟩
  replace S := Lib.hid (S.out.below hb (Nat.le_refl _))
  replace X := Lib.hid (X.out.below hb (Nat.le_refl _))
  replace B := Lib.hid (B.out.trans (hb.mono B.out.size))
  replace hrow := Lib.hid ((hb.block R (lt_of_block hrow.out)).trans hrow.out)
  clear hb rc
  obtain ⟨ab, hab⟩ : ∃ ab, (alkR zs one two).1 = ab := ⟨_, rfl⟩
  obtain ⟨ae, hae⟩ : ∃ ae, (alkR zs one two).2 = ae := ⟨_, rfl⟩
  rw [hab, hae]
  have Hab := Lib.hid hab
  have Hae := Lib.hid hae
  clear hab hae
  have rc : w2.cell? ⟨R, 0, none⟩ = some (.slice A n cap) := by rw [cell_row hrow.out]; rfl
  go_wp2_with fail
  have hc := refAlike16 A n cap zs one two w2 S.out
  rw [Hab.out, Hae.out] at hc
  refine hc.mono ?_
  clear hc
  rintro en w3 ⟨rfl, hb⟩
  replace S := Lib.hid (S.out.below hb (Nat.le_refl _))
  replace X := Lib.hid (X.out.below hb (Nat.le_refl _))
  replace B := Lib.hid (B.out.trans (hb.mono B.out.size))
  replace hrow := Lib.hid ((hb.block R (lt_of_block hrow.out)).trans hrow.out)
  clear hb rc
  have rc : w3.cell? ⟨R, 0, none⟩ = some (.slice A n cap) := by rw [cell_row hrow.out]; rfl
  go_wp2_with fail
  refine (matchesQ (matches17 A n cap zs A2 m cap2 L w3 S.out X.out Hm.out)).mono ?_
  rintro en w4 ⟨hb, C1, N1, c1, rfl, hl1, -⟩
  replace S := Lib.hid (S.out.below hb (Nat.le_refl _))
  replace X := Lib.hid (X.out.below hb (Nat.le_refl _))
  replace B := Lib.hid (B.out.trans (hb.mono B.out.size))
  replace hrow := Lib.hid ((hb.block R (lt_of_block hrow.out)).trans hrow.out)
  have P1 := Lib.hid hl1
  clear hb rc hl1
  obtain ⟨ce, hce⟩ : ∃ ce, chkL zs L = ce := ⟨_, rfl⟩
  rw [hce]
  have Hce := Lib.hid hce
  clear hce
  have rc : w4.cell? ⟨R, 0, none⟩ = some (.slice A n cap) := by rw [cell_row hrow.out]; rfl
  go_wp2_with fail
  refine (matchesQ (refMatches18 A n cap zs A2 m cap2 L w4 S.out X.out Hm.out)).mono ?_
  rintro en w5 ⟨hb, C2, N2, c2, rfl, hl2, -⟩
  replace S := Lib.hid (S.out.below hb (Nat.le_refl _))
  replace X := Lib.hid (X.out.below hb (Nat.le_refl _))
  replace B := Lib.hid (B.out.trans (hb.mono B.out.size))
  replace hrow := Lib.hid ((hb.block R (lt_of_block hrow.out)).trans hrow.out)
  replace P1 := Lib.hid (P1.out.below hb (Nat.le_refl _))
  have P2 := Lib.hid hl2
  clear hb rc hl2
  rw [Hce.out]
  have rc : w5.cell? ⟨R, 0, none⟩ = some (.slice A n cap) := by rw [cell_row hrow.out]; rfl
  go_wp2_with fail
  refine wp_region_held_drew (S := fun w2 => Below w5.heap.size w5 w2) (by kernel_rfl) (drew_b _ _) (fun hS0 => ?_)
  refine wpAnyH_take (i := 0) (oi := { dst := some 47, op := Go.Op.load 24 (Go.Operand.tmp 4), type := 24, pos := "law.go:88", after := #[], guard := none }) (v := .agg #[.slice A n cap]) rfl (by kernel_rfl) (by kernel_rfl) (by kernel_rfl) (fun _ _ _ h => h) (Or.inl ⟨by rfl, by intro w2 hSw; (try dsimp only at hSw); have e0 : w2.cell? ⟨R, 0, none⟩ = some (.slice A n cap) := (hSw.cell (p := ⟨R, 0, none⟩) (lt_of_cell rc)).trans rc; go_simp⟩) hS0 ?_
  try simp only [Act.put, List.setIfInBounds_toArray, List.set_cons_zero, List.set_cons_succ]
  refine wpAnyH_take (i := 2) (oi := { dst := some 49, op := Go.Op.load 24 (Go.Operand.tmp 4), type := 24, pos := "law.go:88", after := #[], guard := none }) (v := .agg #[.slice A n cap]) rfl (by kernel_rfl) (by kernel_rfl) (by kernel_rfl) (fun _ _ _ h => h) (Or.inl ⟨by rfl, by intro w2 hSw; (try dsimp only at hSw); have e0 : w2.cell? ⟨R, 0, none⟩ = some (.slice A n cap) := (hSw.cell (p := ⟨R, 0, none⟩) (lt_of_cell rc)).trans rc; go_simp⟩) hS0 ?_
  try simp only [Act.put, List.setIfInBounds_toArray, List.set_cons_zero, List.set_cons_succ]
  refine wpAnyH_ready (rs := [1]) (by kernel_rfl) (by simp) ?_
  refine AllReadyH.cons (o := { dst := some 48, op := Go.Op.call { callee := Go.Callee.value (Go.Operand.func 19), args := #[Go.Operand.tmp 47], argTypes := #[24] }, type := 28, pos := "law.go:88", after := #[{ on := 0, ground := Go.Ground.data }], guard := none }) rfl (fun K2 hK => ?_) AllReadyH.nil
  go_simp
  refine (checkBook19 A n cap zs _ (S.out.below hS0 (Nat.le_refl _))).mono ?_
  rintro e9 V1 ⟨rfl, hb9⟩
  obtain ⟨cb, hcb⟩ : ∃ cb, chkB zs = cb := ⟨_, rfl⟩
  rw [hcb]
  have Hcb := Lib.hid hcb
  clear hcb
  (try go_simp)
  refine hK.out _ _ (hS0.trans (hb9.mono hS0.size)) (fun hS1 => ?_)
  clear hK K2 hb9
  try simp only [Act.put, List.setIfInBounds_toArray, List.set_cons_zero, List.set_cons_succ]
  refine wpAnyH_ready (rs := [3]) (by kernel_rfl) (by simp) ?_
  refine AllReadyH.cons (o := { dst := some 50, op := Go.Op.call { callee := Go.Callee.value (Go.Operand.func 20), args := #[Go.Operand.tmp 49], argTypes := #[24] }, type := 28, pos := "law.go:88", after := #[{ on := 2, ground := Go.Ground.data }, { on := 1, ground := Go.Ground.chain }], guard := none }) rfl (fun K2 hK => ?_) AllReadyH.nil
  go_simp
  refine (refBook20 A n cap zs V1 (S.out.below hS1 (Nat.le_refl _))).mono ?_
  rintro e9 V2 ⟨rfl, hb9⟩
  rw [Hcb.out]
  (try go_simp)
  refine hK.out _ _ (hS1.trans (hb9.mono hS1.size)) (fun hS2 => ?_)
  clear hK K2 hb9
  try simp only [Act.put, List.setIfInBounds_toArray, List.set_cons_zero, List.set_cons_succ]
  refine wpAnyH_take (i := 4) (oi := { dst := some 51, op := Go.Op.binOp Go.BinOp.eql 28 (Go.Operand.tmp 48) (Go.Operand.tmp 50) 28, type := 4, pos := "law.go:88", after := #[{ on := 1, ground := Go.Ground.data }, { on := 3, ground := Go.Ground.data }], guard := none }) (v := .bool true) rfl (by kernel_rfl) (by kernel_rfl) (by kernel_rfl) (fun _ _ _ h => h) (Or.inl ⟨by rfl, by intro w2 hSw; (try dsimp only at hSw); have e0 : w2.cell? ⟨R, 0, none⟩ = some (.slice A n cap) := (hSw.cell (p := ⟨R, 0, none⟩) (lt_of_cell rc)).trans rc; go_simp⟩) hS2 ?_
  try simp only [Act.put, List.setIfInBounds_toArray, List.set_cons_zero, List.set_cons_succ]
  refine wpAnyH_take (i := 5) (oi := { dst := some 52, op := Go.Op.move (Go.Operand.tmp 51), type := 4, pos := "law.go:88", after := #[{ on := 4, ground := Go.Ground.data }, { on := 3, ground := Go.Ground.chain }], guard := none }) (v := .bool true) rfl (by kernel_rfl) (by kernel_rfl) (by kernel_rfl) (fun _ _ _ h => h) (Or.inl ⟨by rfl, by intro w2 hSw; (try dsimp only at hSw); have e0 : w2.cell? ⟨R, 0, none⟩ = some (.slice A n cap) := (hSw.cell (p := ⟨R, 0, none⟩) (lt_of_cell rc)).trans rc; go_simp⟩) hS2 ?_
  try simp only [Act.put, List.setIfInBounds_toArray, List.set_cons_zero, List.set_cons_succ]
  refine wpAnyH_take (i := 6) (oi := { dst := some 53, op := Go.Op.load 24 (Go.Operand.tmp 4), type := 24, pos := "law.go:88", after := #[{ on := 5, ground := Go.Ground.guard }], guard := some (5, true) }) (v := .agg #[.slice A n cap]) rfl (by kernel_rfl) (by kernel_rfl) (by kernel_rfl) (fun _ _ _ h => h) (Or.inl ⟨by rfl, by intro w2 hSw; (try dsimp only at hSw); have e0 : w2.cell? ⟨R, 0, none⟩ = some (.slice A n cap) := (hSw.cell (p := ⟨R, 0, none⟩) (lt_of_cell rc)).trans rc; go_simp⟩) hS2 ?_
  try simp only [Act.put, List.setIfInBounds_toArray, List.set_cons_zero, List.set_cons_succ]
  refine wpAnyH_take (i := 7) (oi := { dst := some 54, op := Go.Op.move (Go.Operand.tmp 1), type := 25, pos := "law.go:88", after := #[{ on := 5, ground := Go.Ground.guard }], guard := some (5, true) }) (v := .slice A2 m cap2) rfl (by kernel_rfl) (by kernel_rfl) (by kernel_rfl) (fun _ _ _ h => h) (Or.inl ⟨by rfl, by intro w2 hSw; (try dsimp only at hSw); have e0 : w2.cell? ⟨R, 0, none⟩ = some (.slice A n cap) := (hSw.cell (p := ⟨R, 0, none⟩) (lt_of_cell rc)).trans rc; go_simp⟩) hS2 ?_
  try simp only [Act.put, List.setIfInBounds_toArray, List.set_cons_zero, List.set_cons_succ]
  refine wpAnyH_take (i := 9) (oi := { dst := some 56, op := Go.Op.load 24 (Go.Operand.tmp 4), type := 24, pos := "law.go:88", after := #[{ on := 5, ground := Go.Ground.guard }], guard := some (5, true) }) (v := .agg #[.slice A n cap]) rfl (by kernel_rfl) (by kernel_rfl) (by kernel_rfl) (fun _ _ _ h => h) (Or.inl ⟨by rfl, by intro w2 hSw; (try dsimp only at hSw); have e0 : w2.cell? ⟨R, 0, none⟩ = some (.slice A n cap) := (hSw.cell (p := ⟨R, 0, none⟩) (lt_of_cell rc)).trans rc; go_simp⟩) hS2 ?_
  try simp only [Act.put, List.setIfInBounds_toArray, List.set_cons_zero, List.set_cons_succ]
  refine wpAnyH_take (i := 10) (oi := { dst := some 57, op := Go.Op.move (Go.Operand.tmp 1), type := 25, pos := "law.go:88", after := #[{ on := 5, ground := Go.Ground.guard }], guard := some (5, true) }) (v := .slice A2 m cap2) rfl (by kernel_rfl) (by kernel_rfl) (by kernel_rfl) (fun _ _ _ h => h) (Or.inl ⟨by rfl, by intro w2 hSw; (try dsimp only at hSw); have e0 : w2.cell? ⟨R, 0, none⟩ = some (.slice A n cap) := (hSw.cell (p := ⟨R, 0, none⟩) (lt_of_cell rc)).trans rc; go_simp⟩) hS2 ?_
  try simp only [Act.put, List.setIfInBounds_toArray, List.set_cons_zero, List.set_cons_succ]
  refine wpAnyH_ready (rs := [8]) (by kernel_rfl) (by simp) ?_
  refine AllReadyH.cons (o := { dst := some 55, op := Go.Op.call { callee := Go.Callee.value (Go.Operand.func 21), args := #[Go.Operand.tmp 53, Go.Operand.tmp 54], argTypes := #[24, 25] }, type := 28, pos := "law.go:88", after := #[{ on := 6, ground := Go.Ground.data }, { on := 7, ground := Go.Ground.data }, { on := 5, ground := Go.Ground.chain }, { on := 5, ground := Go.Ground.guard }], guard := some (5, true) }) rfl (fun K2 hK => ?_) AllReadyH.nil
  go_simp
  refine (checkLines21 A n cap zs A2 m cap2 L V2 (S.out.below hS2 (Nat.le_refl _)) (X.out.below hS2 (Nat.le_refl _)) Hm.out).mono ?_
  rintro e9 V3 ⟨rfl, hb9⟩
  rw [Hce.out]
  (try go_simp)
  refine hK.out _ _ (hS2.trans (hb9.mono hS2.size)) (fun hS3 => ?_)
  clear hK K2 hb9
  try simp only [Act.put, List.setIfInBounds_toArray, List.set_cons_zero, List.set_cons_succ]
  refine wpAnyH_ready (rs := [11]) (by kernel_rfl) (by simp) ?_
  refine AllReadyH.cons (o := { dst := some 58, op := Go.Op.call { callee := Go.Callee.value (Go.Operand.func 22), args := #[Go.Operand.tmp 56, Go.Operand.tmp 57], argTypes := #[24, 25] }, type := 28, pos := "law.go:88", after := #[{ on := 9, ground := Go.Ground.data }, { on := 10, ground := Go.Ground.data }, { on := 8, ground := Go.Ground.chain }, { on := 5, ground := Go.Ground.guard }], guard := some (5, true) }) rfl (fun K2 hK => ?_) AllReadyH.nil
  go_simp
  refine (refLines22 A n cap zs A2 m cap2 L V3 (S.out.below hS3 (Nat.le_refl _)) (X.out.below hS3 (Nat.le_refl _)) Hm.out).mono ?_
  rintro e9 V4 ⟨rfl, hb9⟩
  rw [Hce.out]
  (try go_simp)
  refine hK.out _ _ (hS3.trans (hb9.mono hS3.size)) (fun hS4 => ?_)
  clear hK K2 hb9
  try simp only [Act.put, List.setIfInBounds_toArray, List.set_cons_zero, List.set_cons_succ]
  refine wpAnyH_take (i := 12) (oi := { dst := some 59, op := Go.Op.binOp Go.BinOp.eql 28 (Go.Operand.tmp 55) (Go.Operand.tmp 58) 28, type := 4, pos := "law.go:88", after := #[{ on := 8, ground := Go.Ground.data }, { on := 11, ground := Go.Ground.data }, { on := 5, ground := Go.Ground.guard }], guard := some (5, true) }) (v := .bool true) rfl (by kernel_rfl) (by kernel_rfl) (by kernel_rfl) (fun _ _ _ h => h) (Or.inl ⟨by rfl, by intro w2 hSw; (try dsimp only at hSw); have e0 : w2.cell? ⟨R, 0, none⟩ = some (.slice A n cap) := (hSw.cell (p := ⟨R, 0, none⟩) (lt_of_cell rc)).trans rc; go_simp⟩) hS4 ?_
  try simp only [Act.put, List.setIfInBounds_toArray, List.set_cons_zero, List.set_cons_succ]
  refine wpAnyH_take (i := 13) (oi := { dst := some 60, op := Go.Op.pick (Go.Operand.tmp 52) (Go.Operand.tmp 59) (Go.Operand.const (Go.Value.bool false)), type := 4, pos := "law.go:88", after := #[{ on := 5, ground := Go.Ground.data }, { on := 12, ground := Go.Ground.data }], guard := none }) (v := .bool true) rfl (by kernel_rfl) (by kernel_rfl) (by kernel_rfl) (fun _ _ _ h => h) (Or.inl ⟨by rfl, by intro w2 hSw; (try dsimp only at hSw); have e0 : w2.cell? ⟨R, 0, none⟩ = some (.slice A n cap) := (hSw.cell (p := ⟨R, 0, none⟩) (lt_of_cell rc)).trans rc; go_simp⟩) hS4 ?_
  try simp only [Act.put, List.setIfInBounds_toArray, List.set_cons_zero, List.set_cons_succ]
  refine wpAnyH_take (i := 14) (oi := { dst := some 61, op := Go.Op.move (Go.Operand.tmp 60), type := 4, pos := "law.go:88", after := #[{ on := 13, ground := Go.Ground.data }, { on := 11, ground := Go.Ground.chain }], guard := none }) (v := .bool true) rfl (by kernel_rfl) (by kernel_rfl) (by kernel_rfl) (fun _ _ _ h => h) (Or.inl ⟨by rfl, by intro w2 hSw; (try dsimp only at hSw); have e0 : w2.cell? ⟨R, 0, none⟩ = some (.slice A n cap) := (hSw.cell (p := ⟨R, 0, none⟩) (lt_of_cell rc)).trans rc; go_simp⟩) hS4 ?_
  try simp only [Act.put, List.setIfInBounds_toArray, List.set_cons_zero, List.set_cons_succ]
  refine wpAnyH_take (i := 15) (oi := { dst := some 62, op := Go.Op.move (Go.Operand.tmp 9), type := 4, pos := "law.go:88", after := #[{ on := 14, ground := Go.Ground.guard }], guard := some (14, true) }) (v := .bool ab) rfl (by kernel_rfl) (by kernel_rfl) (by kernel_rfl) (fun _ _ _ h => h) (Or.inl ⟨by rfl, by intro w2 hSw; (try dsimp only at hSw); have e0 : w2.cell? ⟨R, 0, none⟩ = some (.slice A n cap) := (hSw.cell (p := ⟨R, 0, none⟩) (lt_of_cell rc)).trans rc; go_simp⟩) hS4 ?_
  try simp only [Act.put, List.setIfInBounds_toArray, List.set_cons_zero, List.set_cons_succ]
  refine wpAnyH_take (i := 16) (oi := { dst := some 63, op := Go.Op.move (Go.Operand.tmp 11), type := 4, pos := "law.go:88", after := #[{ on := 14, ground := Go.Ground.guard }], guard := some (14, true) }) (v := .bool ab) rfl (by kernel_rfl) (by kernel_rfl) (by kernel_rfl) (fun _ _ _ h => h) (Or.inl ⟨by rfl, by intro w2 hSw; (try dsimp only at hSw); have e0 : w2.cell? ⟨R, 0, none⟩ = some (.slice A n cap) := (hSw.cell (p := ⟨R, 0, none⟩) (lt_of_cell rc)).trans rc; go_simp⟩) hS4 ?_
  try simp only [Act.put, List.setIfInBounds_toArray, List.set_cons_zero, List.set_cons_succ]
  refine wpAnyH_take (i := 17) (oi := { dst := some 64, op := Go.Op.binOp Go.BinOp.eql 4 (Go.Operand.tmp 62) (Go.Operand.tmp 63) 4, type := 4, pos := "law.go:88", after := #[{ on := 15, ground := Go.Ground.data }, { on := 16, ground := Go.Ground.data }, { on := 14, ground := Go.Ground.guard }], guard := some (14, true) }) (v := .bool true) rfl (by kernel_rfl) (by kernel_rfl) (by kernel_rfl) (fun _ _ _ h => h) (Or.inl ⟨by rfl, by intro w2 hSw; (try dsimp only at hSw); have e0 : w2.cell? ⟨R, 0, none⟩ = some (.slice A n cap) := (hSw.cell (p := ⟨R, 0, none⟩) (lt_of_cell rc)).trans rc; go_simp⟩) hS4 ?_
  try simp only [Act.put, List.setIfInBounds_toArray, List.set_cons_zero, List.set_cons_succ]
  refine wpAnyH_take (i := 18) (oi := { dst := some 65, op := Go.Op.pick (Go.Operand.tmp 61) (Go.Operand.tmp 64) (Go.Operand.const (Go.Value.bool false)), type := 4, pos := "law.go:88", after := #[{ on := 14, ground := Go.Ground.data }, { on := 17, ground := Go.Ground.data }], guard := none }) (v := .bool true) rfl (by kernel_rfl) (by kernel_rfl) (by kernel_rfl) (fun _ _ _ h => h) (Or.inl ⟨by rfl, by intro w2 hSw; (try dsimp only at hSw); have e0 : w2.cell? ⟨R, 0, none⟩ = some (.slice A n cap) := (hSw.cell (p := ⟨R, 0, none⟩) (lt_of_cell rc)).trans rc; go_simp⟩) hS4 ?_
  try simp only [Act.put, List.setIfInBounds_toArray, List.set_cons_zero, List.set_cons_succ]
  refine wpAnyH_take (i := 19) (oi := { dst := some 66, op := Go.Op.move (Go.Operand.tmp 65), type := 4, pos := "law.go:88", after := #[{ on := 18, ground := Go.Ground.data }, { on := 14, ground := Go.Ground.chain }], guard := none }) (v := .bool true) rfl (by kernel_rfl) (by kernel_rfl) (by kernel_rfl) (fun _ _ _ h => h) (Or.inl ⟨by rfl, by intro w2 hSw; (try dsimp only at hSw); have e0 : w2.cell? ⟨R, 0, none⟩ = some (.slice A n cap) := (hSw.cell (p := ⟨R, 0, none⟩) (lt_of_cell rc)).trans rc; go_simp⟩) hS4 ?_
  try simp only [Act.put, List.setIfInBounds_toArray, List.set_cons_zero, List.set_cons_succ]
  refine wpAnyH_take (i := 20) (oi := { dst := some 67, op := Go.Op.move (Go.Operand.tmp 10), type := 28, pos := "law.go:88", after := #[{ on := 19, ground := Go.Ground.guard }], guard := some (19, true) }) (v := .int .i64 ae) rfl (by kernel_rfl) (by kernel_rfl) (by kernel_rfl) (fun _ _ _ h => h) (Or.inl ⟨by rfl, by intro w2 hSw; (try dsimp only at hSw); have e0 : w2.cell? ⟨R, 0, none⟩ = some (.slice A n cap) := (hSw.cell (p := ⟨R, 0, none⟩) (lt_of_cell rc)).trans rc; go_simp⟩) hS4 ?_
  try simp only [Act.put, List.setIfInBounds_toArray, List.set_cons_zero, List.set_cons_succ]
  refine wpAnyH_take (i := 21) (oi := { dst := some 68, op := Go.Op.move (Go.Operand.tmp 12), type := 28, pos := "law.go:88", after := #[{ on := 19, ground := Go.Ground.guard }], guard := some (19, true) }) (v := .int .i64 ae) rfl (by kernel_rfl) (by kernel_rfl) (by kernel_rfl) (fun _ _ _ h => h) (Or.inl ⟨by rfl, by intro w2 hSw; (try dsimp only at hSw); have e0 : w2.cell? ⟨R, 0, none⟩ = some (.slice A n cap) := (hSw.cell (p := ⟨R, 0, none⟩) (lt_of_cell rc)).trans rc; go_simp⟩) hS4 ?_
  try simp only [Act.put, List.setIfInBounds_toArray, List.set_cons_zero, List.set_cons_succ]
  refine wpAnyH_take (i := 22) (oi := { dst := some 69, op := Go.Op.binOp Go.BinOp.eql 28 (Go.Operand.tmp 67) (Go.Operand.tmp 68) 28, type := 4, pos := "law.go:88", after := #[{ on := 20, ground := Go.Ground.data }, { on := 21, ground := Go.Ground.data }, { on := 19, ground := Go.Ground.guard }], guard := some (19, true) }) (v := .bool true) rfl (by kernel_rfl) (by kernel_rfl) (by kernel_rfl) (fun _ _ _ h => h) (Or.inl ⟨by rfl, by intro w2 hSw; (try dsimp only at hSw); have e0 : w2.cell? ⟨R, 0, none⟩ = some (.slice A n cap) := (hSw.cell (p := ⟨R, 0, none⟩) (lt_of_cell rc)).trans rc; go_simp⟩) hS4 ?_
  try simp only [Act.put, List.setIfInBounds_toArray, List.set_cons_zero, List.set_cons_succ]
  refine wpAnyH_take (i := 23) (oi := { dst := some 70, op := Go.Op.pick (Go.Operand.tmp 66) (Go.Operand.tmp 69) (Go.Operand.const (Go.Value.bool false)), type := 4, pos := "law.go:88", after := #[{ on := 19, ground := Go.Ground.data }, { on := 22, ground := Go.Ground.data }], guard := none }) (v := .bool true) rfl (by kernel_rfl) (by kernel_rfl) (by kernel_rfl) (fun _ _ _ h => h) (Or.inl ⟨by rfl, by intro w2 hSw; (try dsimp only at hSw); have e0 : w2.cell? ⟨R, 0, none⟩ = some (.slice A n cap) := (hSw.cell (p := ⟨R, 0, none⟩) (lt_of_cell rc)).trans rc; go_simp⟩) hS4 ?_
  try simp only [Act.put, List.setIfInBounds_toArray, List.set_cons_zero, List.set_cons_succ]
  refine wpAnyH_take (i := 24) (oi := { dst := some 71, op := Go.Op.move (Go.Operand.tmp 70), type := 4, pos := "law.go:88", after := #[{ on := 23, ground := Go.Ground.data }, { on := 19, ground := Go.Ground.chain }], guard := none }) (v := .bool true) rfl (by kernel_rfl) (by kernel_rfl) (by kernel_rfl) (fun _ _ _ h => h) (Or.inl ⟨by rfl, by intro w2 hSw; (try dsimp only at hSw); have e0 : w2.cell? ⟨R, 0, none⟩ = some (.slice A n cap) := (hSw.cell (p := ⟨R, 0, none⟩) (lt_of_cell rc)).trans rc; go_simp⟩) hS4 ?_
  try simp only [Act.put, List.setIfInBounds_toArray, List.set_cons_zero, List.set_cons_succ]
  refine wpAnyH_take (i := 25) (oi := { dst := some 72, op := Go.Op.move (Go.Operand.tmp 13), type := 31, pos := "law.go:88", after := #[{ on := 24, ground := Go.Ground.guard }], guard := some (24, true) }) (v := .slice C1 N1 c1) rfl (by kernel_rfl) (by kernel_rfl) (by kernel_rfl) (fun _ _ _ h => h) (Or.inl ⟨by rfl, by intro w2 hSw; (try dsimp only at hSw); have e0 : w2.cell? ⟨R, 0, none⟩ = some (.slice A n cap) := (hSw.cell (p := ⟨R, 0, none⟩) (lt_of_cell rc)).trans rc; go_simp⟩) hS4 ?_
  try simp only [Act.put, List.setIfInBounds_toArray, List.set_cons_zero, List.set_cons_succ]
  refine wpAnyH_take (i := 26) (oi := { dst := some 73, op := Go.Op.move (Go.Operand.tmp 15), type := 31, pos := "law.go:88", after := #[{ on := 24, ground := Go.Ground.guard }], guard := some (24, true) }) (v := .slice C2 N2 c2) rfl (by kernel_rfl) (by kernel_rfl) (by kernel_rfl) (fun _ _ _ h => h) (Or.inl ⟨by rfl, by intro w2 hSw; (try dsimp only at hSw); have e0 : w2.cell? ⟨R, 0, none⟩ = some (.slice A n cap) := (hSw.cell (p := ⟨R, 0, none⟩) (lt_of_cell rc)).trans rc; go_simp⟩) hS4 ?_
  try simp only [Act.put, List.setIfInBounds_toArray, List.set_cons_zero, List.set_cons_succ]
  refine wpAnyH_ready (rs := [27]) (by kernel_rfl) (by simp) ?_
  refine AllReadyH.cons (o := { dst := some 74, op := Go.Op.call { callee := Go.Callee.value (Go.Operand.func 23), args := #[Go.Operand.tmp 72, Go.Operand.tmp 73], argTypes := #[31, 31] }, type := 4, pos := "law.go:88", after := #[{ on := 25, ground := Go.Ground.data }, { on := 26, ground := Go.Ground.data }, { on := 24, ground := Go.Ground.chain }, { on := 24, ground := Go.Ground.guard }], guard := some (24, true) }) rfl (fun K2 hK => ?_) AllReadyH.nil
  go_simp
  refine (matches23 C1 N1 c1 (mtR zs L m) C2 N2 c2 (mtR zs L m) V4 (P1.out.below hS4 (Nat.le_refl _)) (P2.out.below hS4 (Nat.le_refl _)) (fun j _ => Nat.le_trans (lAt_le (mtR_len Hlen.out).2 j) (by omega)) (by rw [← P1.out.1]; exact Nat.le_trans (mtR_len Hlen.out).1 (by omega))).mono ?_
  rintro e9 V5 ⟨rfl, hb9⟩
  rw [decide_eq_true (rfl : mtR zs L m = mtR zs L m)]
  (try go_simp)
  refine hK.out _ _ (hS4.trans (hb9.mono hS4.size)) (fun hS5 => ?_)
  clear hK K2 hb9
  try simp only [Act.put, List.setIfInBounds_toArray, List.set_cons_zero, List.set_cons_succ]
  refine wpAnyH_take (i := 28) (oi := { dst := some 75, op := Go.Op.pick (Go.Operand.tmp 71) (Go.Operand.tmp 74) (Go.Operand.const (Go.Value.bool false)), type := 4, pos := "law.go:88", after := #[{ on := 24, ground := Go.Ground.data }, { on := 27, ground := Go.Ground.data }], guard := none }) (v := .bool true) rfl (by kernel_rfl) (by kernel_rfl) (by kernel_rfl) (fun _ _ _ h => h) (Or.inl ⟨by rfl, by intro w2 hSw; (try dsimp only at hSw); have e0 : w2.cell? ⟨R, 0, none⟩ = some (.slice A n cap) := (hSw.cell (p := ⟨R, 0, none⟩) (lt_of_cell rc)).trans rc; go_simp⟩) hS5 ?_
  try simp only [Act.put, List.setIfInBounds_toArray, List.set_cons_zero, List.set_cons_succ]
  refine wpAnyH_take (i := 29) (oi := { dst := some 76, op := Go.Op.move (Go.Operand.tmp 75), type := 4, pos := "law.go:88", after := #[{ on := 28, ground := Go.Ground.data }, { on := 27, ground := Go.Ground.chain }], guard := none }) (v := .bool true) rfl (by kernel_rfl) (by kernel_rfl) (by kernel_rfl) (fun _ _ _ h => h) (Or.inl ⟨by rfl, by intro w2 hSw; (try dsimp only at hSw); have e0 : w2.cell? ⟨R, 0, none⟩ = some (.slice A n cap) := (hSw.cell (p := ⟨R, 0, none⟩) (lt_of_cell rc)).trans rc; go_simp⟩) hS5 ?_
  try simp only [Act.put, List.setIfInBounds_toArray, List.set_cons_zero, List.set_cons_succ]
  refine wpAnyH_take (i := 30) (oi := { dst := some 77, op := Go.Op.move (Go.Operand.tmp 14), type := 28, pos := "law.go:88", after := #[{ on := 29, ground := Go.Ground.guard }], guard := some (29, true) }) (v := .int .i64 ce) rfl (by kernel_rfl) (by kernel_rfl) (by kernel_rfl) (fun _ _ _ h => h) (Or.inl ⟨by rfl, by intro w2 hSw; (try dsimp only at hSw); have e0 : w2.cell? ⟨R, 0, none⟩ = some (.slice A n cap) := (hSw.cell (p := ⟨R, 0, none⟩) (lt_of_cell rc)).trans rc; go_simp⟩) hS5 ?_
  try simp only [Act.put, List.setIfInBounds_toArray, List.set_cons_zero, List.set_cons_succ]
  refine wpAnyH_take (i := 31) (oi := { dst := some 78, op := Go.Op.move (Go.Operand.tmp 16), type := 28, pos := "law.go:88", after := #[{ on := 29, ground := Go.Ground.guard }], guard := some (29, true) }) (v := .int .i64 ce) rfl (by kernel_rfl) (by kernel_rfl) (by kernel_rfl) (fun _ _ _ h => h) (Or.inl ⟨by rfl, by intro w2 hSw; (try dsimp only at hSw); have e0 : w2.cell? ⟨R, 0, none⟩ = some (.slice A n cap) := (hSw.cell (p := ⟨R, 0, none⟩) (lt_of_cell rc)).trans rc; go_simp⟩) hS5 ?_
  try simp only [Act.put, List.setIfInBounds_toArray, List.set_cons_zero, List.set_cons_succ]
  refine wpAnyH_take (i := 32) (oi := { dst := some 79, op := Go.Op.binOp Go.BinOp.eql 28 (Go.Operand.tmp 77) (Go.Operand.tmp 78) 28, type := 4, pos := "law.go:88", after := #[{ on := 30, ground := Go.Ground.data }, { on := 31, ground := Go.Ground.data }, { on := 29, ground := Go.Ground.guard }], guard := some (29, true) }) (v := .bool true) rfl (by kernel_rfl) (by kernel_rfl) (by kernel_rfl) (fun _ _ _ h => h) (Or.inl ⟨by rfl, by intro w2 hSw; (try dsimp only at hSw); have e0 : w2.cell? ⟨R, 0, none⟩ = some (.slice A n cap) := (hSw.cell (p := ⟨R, 0, none⟩) (lt_of_cell rc)).trans rc; go_simp⟩) hS5 ?_
  try simp only [Act.put, List.setIfInBounds_toArray, List.set_cons_zero, List.set_cons_succ]
  refine wpAnyH_take (i := 33) (oi := { dst := some 80, op := Go.Op.pick (Go.Operand.tmp 76) (Go.Operand.tmp 79) (Go.Operand.const (Go.Value.bool false)), type := 4, pos := "law.go:88", after := #[{ on := 29, ground := Go.Ground.data }, { on := 32, ground := Go.Ground.data }], guard := none }) (v := .bool true) rfl (by kernel_rfl) (by kernel_rfl) (by kernel_rfl) (fun _ _ _ h => h) (Or.inl ⟨by rfl, by intro w2 hSw; (try dsimp only at hSw); have e0 : w2.cell? ⟨R, 0, none⟩ = some (.slice A n cap) := (hSw.cell (p := ⟨R, 0, none⟩) (lt_of_cell rc)).trans rc; go_simp⟩) hS5 ?_
  try simp only [Act.put, List.setIfInBounds_toArray, List.set_cons_zero, List.set_cons_succ]
  refine wpAnyH_take (i := 34) (oi := { dst := some 81, op := Go.Op.move (Go.Operand.tmp 80), type := 4, pos := "law.go:88", after := #[{ on := 33, ground := Go.Ground.data }, { on := 29, ground := Go.Ground.chain }], guard := none }) (v := .bool true) rfl (by kernel_rfl) (by kernel_rfl) (by kernel_rfl) (fun _ _ _ h => h) (Or.inl ⟨by rfl, by intro w2 hSw; (try dsimp only at hSw); have e0 : w2.cell? ⟨R, 0, none⟩ = some (.slice A n cap) := (hSw.cell (p := ⟨R, 0, none⟩) (lt_of_cell rc)).trans rc; go_simp⟩) hS5 ?_
  try simp only [Act.put, List.setIfInBounds_toArray, List.set_cons_zero, List.set_cons_succ]
  refine wpAnyH_ready (rs := [35]) (by kernel_rfl) (by simp) ?_
  refine AllReadyH.cons (o := { dst := some 82, op := Go.Op.call { callee := Go.Callee.value (Go.Operand.func 14), args := #[], argTypes := #[] }, type := 4, pos := "law.go:88", after := #[{ on := 34, ground := Go.Ground.chain }, { on := 34, ground := Go.Ground.guard }], guard := some (34, true) }) rfl (fun K2 hK => ?_) AllReadyH.nil
  go_simp
  refine (works14 V5).mono ?_
  rintro e9 V6 ⟨rfl, hb9⟩
  
  (try go_simp)
  refine hK.out _ _ (hS5.trans (hb9.mono hS5.size)) (fun hS6 => ?_)
  clear hK K2 hb9
  try simp only [Act.put, List.setIfInBounds_toArray, List.set_cons_zero, List.set_cons_succ]
  refine wpAnyH_take (i := 36) (oi := { dst := some 83, op := Go.Op.pick (Go.Operand.tmp 81) (Go.Operand.tmp 82) (Go.Operand.const (Go.Value.bool false)), type := 4, pos := "law.go:88", after := #[{ on := 34, ground := Go.Ground.data }, { on := 35, ground := Go.Ground.data }], guard := none }) (v := .bool true) rfl (by kernel_rfl) (by kernel_rfl) (by kernel_rfl) (fun _ _ _ h => h) (Or.inl ⟨by rfl, by intro w2 hSw; (try dsimp only at hSw); have e0 : w2.cell? ⟨R, 0, none⟩ = some (.slice A n cap) := (hSw.cell (p := ⟨R, 0, none⟩) (lt_of_cell rc)).trans rc; go_simp⟩) hS6 ?_
  try simp only [Act.put, List.setIfInBounds_toArray, List.set_cons_zero, List.set_cons_succ]
  refine wpAnyH_take (i := 37) (oi := { dst := some 8, op := Go.Op.assign (Go.Operand.tmp 83), type := 4, pos := "law.go:88", after := #[{ on := 36, ground := Go.Ground.data }, { on := 35, ground := Go.Ground.chain }, { on := 0, ground := Go.Ground.phase }, { on := 1, ground := Go.Ground.phase }, { on := 2, ground := Go.Ground.phase }, { on := 3, ground := Go.Ground.phase }, { on := 4, ground := Go.Ground.phase }, { on := 5, ground := Go.Ground.phase }, { on := 6, ground := Go.Ground.phase }, { on := 7, ground := Go.Ground.phase }, { on := 8, ground := Go.Ground.phase }, { on := 9, ground := Go.Ground.phase }, { on := 10, ground := Go.Ground.phase }, { on := 11, ground := Go.Ground.phase }, { on := 12, ground := Go.Ground.phase }, { on := 13, ground := Go.Ground.phase }, { on := 14, ground := Go.Ground.phase }, { on := 15, ground := Go.Ground.phase }, { on := 16, ground := Go.Ground.phase }, { on := 17, ground := Go.Ground.phase }, { on := 18, ground := Go.Ground.phase }, { on := 19, ground := Go.Ground.phase }, { on := 20, ground := Go.Ground.phase }, { on := 21, ground := Go.Ground.phase }, { on := 22, ground := Go.Ground.phase }, { on := 23, ground := Go.Ground.phase }, { on := 24, ground := Go.Ground.phase }, { on := 25, ground := Go.Ground.phase }, { on := 26, ground := Go.Ground.phase }, { on := 27, ground := Go.Ground.phase }, { on := 28, ground := Go.Ground.phase }, { on := 29, ground := Go.Ground.phase }, { on := 30, ground := Go.Ground.phase }, { on := 31, ground := Go.Ground.phase }, { on := 32, ground := Go.Ground.phase }, { on := 33, ground := Go.Ground.phase }, { on := 34, ground := Go.Ground.phase }, { on := 35, ground := Go.Ground.phase }, { on := 36, ground := Go.Ground.phase }], guard := none }) (v := .bool true) rfl (by kernel_rfl) (by kernel_rfl) (by kernel_rfl) (fun _ _ _ h => h) (Or.inl ⟨by rfl, by intro w2 hSw; (try dsimp only at hSw); have e0 : w2.cell? ⟨R, 0, none⟩ = some (.slice A n cap) := (hSw.cell (p := ⟨R, 0, none⟩) (lt_of_cell rc)).trans rc; go_simp⟩) hS6 ?_
  try simp only [Act.put, List.setIfInBounds_toArray, List.set_cons_zero, List.set_cons_succ]
  refine wpAnyH_done (by kernel_rfl) ?_ _
  go_wp2_with fail
  go_ret
  exact ⟨rfl, B.out.trans (hS6.mono B.out.size)⟩
end
end Go.Proofs.Ythdjbapidodlfaa
