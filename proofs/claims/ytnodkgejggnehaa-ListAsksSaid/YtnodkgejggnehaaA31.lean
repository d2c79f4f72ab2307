/- Stage 5: Ask, of the document. -/
import Derived.Test.YtnodkgejggnehaaK7
import Derived.Test.YtnodkgejggnehaaAs
import Derived.Deep.RegionHeld3
import Derived.Deep.CutRange
import Derived.Deep.Cut
import Derived.IntWalk
namespace Go.Proofs.Ytnodkgejggnehaa
set_option linter.unusedSimpArgs false
set_option linter.unusedVariables false
open Go.RowKit Go.Shelf
/-- How many links stay unsure at worst, as the document says it. -/
def docR (n : Nat) (zs : List Rg) (ks : List Int) (kn k : Nat) : Nat := max (mayK n zs (opnL n zs (knwL (k : Int) ks)) (kNt (knwL (k : Int) ks)) n) (mayK (n - 1) (wzP k zs n) (opnL (n - 1) (wzP k zs n) (wkP k ks kn)) (kNt (wkP k ks kn)) (n - 1))
def ndA : Option Nat → Int
  | none => -1
  | some y => y
def ndB (r : Nat → Nat) : Option Nat → Int
  | none => 0
  | some y => r y
section
attribute [local go_sem ↓] exec_app at_app
attribute [local go_sem] Oper.semAt_some
set_option maxRecDepth 100000 in
set_option maxHeartbeats 40000000 in
theorem ask31 (sl sr : Int) (A : Option Addr) (n cap : Nat) (zs : List Rg) (A2 : Option Addr) (kn kc : Nat) (ks : List Int) (w : World) (h : Rgs w A n zs) (hI : Ints w A2 kn ks) (hk : kn ≤ 900) (he : chkS sl sr zs ks = 0) :
    Calls Try.prog 31 #[.agg #[.int .i64 sl, .int .i64 sr, .slice A n cap, .slice A2 kn kc]] w fun e w' => e = .returned (.tuple #[.int .i64 (bestA (bestQ (fun k => kindS n zs (opnL n zs ks) (kNt ks) k == 1) (docR n zs ks kn) n)), .int .i64 (bestB (docR n zs ks kn) (bestQ (fun k => kindS n zs (opnL n zs ks) (kNt ks) k == 1) (docR n zs ks kn) n)), .int .i64 (askE (bestQ (fun k => kindS n zs (opnL n zs ks) (kNt ks) k == 1) (docR n zs ks kn) n))]) ∧ Below w.heap.size w w' := by
  have hzl := h.1
  have hkl := hI.1
  have hn40 : n ≤ 40 := by rw [← hzl]; exact (shg_of he).n40
  have H := shn_of he hzl
  have Hin := Lib.hid (show ∀ j, j < kn → -1000000 ≤ iAt ks j ∧ iAt ks j ≤ 1000000 from fun j hj => by
    have hm : iAt ks j ∈ ks := by rw [iAt_eq (by omega)]; exact List.getElem_mem _
    obtain ⟨k, h1, h2⟩ := H.nm _ hm
    omega)
  have Hn := Lib.hid hn40
  have He := Lib.hid he
  have Hk := Lib.hid hk
  have Hzl := Lib.hid hzl
  have Hkl := Lib.hid hkl
  clear he hzl hn40 hk H hkl
  obtain ⟨R, hR⟩ : ∃ v, w.heap.size = v := ⟨_, rfl⟩
  have hb0 := below_alloc_ w (.cells #[.int .i64 sl, .int .i64 sr, .slice A n cap, .slice A2 kn kc] 25)
  have hr0 := heap_alloc_new_ w (.cells #[.int .i64 sl, .int .i64 sr, .slice A n cap, .slice A2 kn kc] 25)
  have hz0 : (w.alloc (.cells #[.int .i64 sl, .int .i64 sr, .slice A n cap, .slice A2 kn kc] 25)).heap.size = w.heap.size + 1 := by simp
  obtain ⟨w0, hw0⟩ : ∃ v, w.alloc (.cells #[.int .i64 sl, .int .i64 sr, .slice A n cap, .slice A2 kn kc] 25) = v := ⟨_, rfl⟩
  rw [hw0] at hb0 hr0 hz0
  rw [hR] at hr0 hz0
  have hB := hb0
  have X := Lib.hid (h.below hB (Nat.le_refl _))
  have XI := Lib.hid (hI.below hB (Nat.le_refl _))
  have HS := Lib.hid hr0
  have HW0 := Lib.hid hw0
  have B := Lib.hid hB
  have HR := Lib.hid hR
  clear hB hR hb0 hr0 hz0 hw0 h hI
  have zHS0 : w0.cell? ⟨R, 0, none⟩ = some (.int .i64 sl) := by rw [cell_row HS.out]; rfl
  have zHS1 : w0.cell? ⟨R, 1, none⟩ = some (.int .i64 sr) := by rw [cell_row HS.out]; rfl
  have zHS2 : w0.cell? ⟨R, 2, none⟩ = some (.slice A n cap) := by rw [cell_row HS.out]; rfl
  have zHS3 : w0.cell? ⟨R, 3, none⟩ = some (.slice A2 kn kc) := by rw [cell_row HS.out]; rfl
  go_enter Try.func31, Try.ntmps31
  go_wp2_with fail
  try rw [HW0.out]
  try rw [HR.out]
  try simp only [Nat.add_assoc, Nat.reduceAdd]
  try go_wp2_with fail
  clear zHS0 zHS1 zHS2 zHS3
  refine (checkSheet19 sl sr A n cap zs A2 kn kc ks w0 X.out XI.out (by have := Hn.out; omega) (by have := Hk.out; omega)).mono ?_
  rintro en w1 ⟨rfl, hb⟩
  replace X := Lib.hid (X.out.below hb (Nat.le_refl _))
  replace XI := Lib.hid (XI.out.below hb (Nat.le_refl _))
  replace HS := Lib.hid ((hb.block _ (lt_of_block HS.out)).trans HS.out)
  replace B := Lib.hid (B.out.trans (hb.mono B.out.size))
  rw [He.out]
  try clear hb
  have zHS0 : w1.cell? ⟨R, 0, none⟩ = some (.int .i64 sl) := by rw [cell_row HS.out]; rfl
  have zHS1 : w1.cell? ⟨R, 1, none⟩ = some (.int .i64 sr) := by rw [cell_row HS.out]; rfl
  have zHS2 : w1.cell? ⟨R, 2, none⟩ = some (.slice A n cap) := by rw [cell_row HS.out]; rfl
  have zHS3 : w1.cell? ⟨R, 3, none⟩ = some (.slice A2 kn kc) := by rw [cell_row HS.out]; rfl
  go_wp2_with fail
  clear zHS0 zHS1 zHS2 zHS3
  refine (kinds26 sl sr A n cap zs A2 kn kc ks w1 X.out XI.out (by have := Hk.out; omega) He.out).mono ?_
  rintro en w2 ⟨CK, ck, rfl, hck, hik, hb⟩
  replace X := Lib.hid (X.out.below hb (Nat.le_refl _))
  replace XI := Lib.hid (XI.out.below hb (Nat.le_refl _))
  replace HS := Lib.hid ((hb.block _ (lt_of_block HS.out)).trans HS.out)
  replace B := Lib.hid (B.out.trans (hb.mono B.out.size))
  have HKd := Lib.hid hik
  clear hik hck
  try clear hb
  have zHS0 : w2.cell? ⟨R, 0, none⟩ = some (.int .i64 sl) := by rw [cell_row HS.out]; rfl
  have zHS1 : w2.cell? ⟨R, 1, none⟩ = some (.int .i64 sr) := by rw [cell_row HS.out]; rfl
  have zHS2 : w2.cell? ⟨R, 2, none⟩ = some (.slice A n cap) := by rw [cell_row HS.out]; rfl
  have zHS3 : w2.cell? ⟨R, 3, none⟩ = some (.slice A2 kn kc) := by rw [cell_row HS.out]; rfl
  go_wp2_with fail
  clear zHS0 zHS1 zHS2 zHS3
  have XA := X
  have IA := XI
  have KA := HKd
  have SA := HS
  have BA := B
  clear X XI HKd HS B
  go_loopw [5, 6, 9] (fun bv lv iv wr => ∃ (q : Nat) (o : Option Nat), q ≤ n ∧ bv = .int .i64 (ndA o) ∧ lv = .int .i64 (ndB (docR n zs ks kn) o) ∧ iv = .int .i64 (q : Int) ∧ Hid (o = bestQ (fun k => kindS n zs (opnL n zs ks) (kNt ks) k == 1) (docR n zs ks kn) q ∧ Below w2.heap.size w2 wr)) (fun _ _ v _ => n - (intOf v).toNat)
  case atStart => exact ⟨0, none, Nat.zero_le _, rfl, rfl, rfl, Lib.hid ⟨rfl, Below.refl _ _⟩⟩
  case round =>
    obtain ⟨q, o, hq, rfl, rfl, rfl, HV⟩ := hrel
    obtain ⟨w3, rfl⟩ : ∃ v, v = wr := ⟨_, rfl⟩
    have hb := HV.out.2
    have X := Lib.hid (XA.out.below hb (Nat.le_refl _))
    have XI := Lib.hid (IA.out.below hb (Nat.le_refl _))
    have HKd := Lib.hid (KA.out.below hb (Nat.le_refl _))
    have HS := Lib.hid ((hb.block _ (lt_of_block SA.out)).trans SA.out)
    have B := Lib.hid (BA.out.trans (hb.mono BA.out.size))
    have hnb := Hn.out
    clear hb
    by_cases hlt : q < n
    · obtain ⟨bk, ok, eK, hck⟩ := HKd.out.2 (by omega)
      subst eK
      have x0 := hck q hlt
      rw [kindsK_at hlt] at x0
      obtain ⟨kv, hkv⟩ : ∃ v, kindS n zs (opnL n zs ks) (kNt ks) q = v := ⟨_, rfl⟩
      rw [hkv] at x0
      have Hkv := Lib.hid hkv
      have i0 : (0 : Int) ≤ (q : Int) := by omega
      have i1 : (q : Int) < (n : Int) := by omega
      clear hck hkv
      by_cases hk1 : kv = 1
      rotate_left
      · have d1 : (kv != 1) = true := by rw [bne_iff_ne]; exact hk1
        have HN := Lib.hid (show o = bestQ (fun k => kindS n zs (opnL n zs ks) (kNt ks) k == 1) (docR n zs ks kn) (q + 1) ∧ Below w2.heap.size w2 w3 from ⟨by rw [HV.out.1]; show _ = (if _ then _ else _); rw [if_neg (show ¬ (kindS n zs (opnL n zs ks) (kNt ks) q == 1) = true by rw [Hkv.out]; simp [hk1])], HV.out.2⟩)
        have zHS0 : w3.cell? ⟨R, 0, none⟩ = some (.int .i64 sl) := by rw [cell_row HS.out]; rfl
        have zHS1 : w3.cell? ⟨R, 1, none⟩ = some (.int .i64 sr) := by rw [cell_row HS.out]; rfl
        have zHS2 : w3.cell? ⟨R, 2, none⟩ = some (.slice A n cap) := by rw [cell_row HS.out]; rfl
        have zHS3 : w3.cell? ⟨R, 3, none⟩ = some (.slice A2 kn kc) := by rw [cell_row HS.out]; rfl
        go_wp2_with fail
        clear zHS0 zHS1 zHS2 zHS3
        go_roundw
        case rel => exact ⟨q + 1, o, by omega, rfl, rfl, by go_num, HN⟩
        case measure => simp [intOf] <;> omega
      have d1 : (kv != 1) = false := by rw [hk1]; rfl
      have hop := kind_open (Hkv.out.trans hk1)
      have hki : ((q : Nat) : Int) ∉ ks := fun e => by
        have h2 := kind_doc (shn_of He.out Hzl.out).z (shn_of He.out Hzl.out).nm hlt
        rw [Hkv.out, dk_in e] at h2; omega
      have Hc1 := Lib.hid (knw_chk He.out Hzl.out hlt hop)
      have hc2 := wo_chk He.out Hzl.out hlt hki
      rw [Hkl.out] at hc2
      have Hc2 := Lib.hid hc2
      have Hl2 := Lib.hid (wzP_lenE zs hlt)
      have hsel : (fun k => kindS n zs (opnL n zs ks) (kNt ks) k == 1) q = true := by show (kindS n zs (opnL n zs ks) (kNt ks) q == 1) = true; rw [Hkv.out, hk1]; rfl
      have Hsel := Lib.hid hsel
      obtain ⟨y1, hy1⟩ : ∃ v, mayK n zs (opnL n zs (knwL (q : Int) ks)) (kNt (knwL (q : Int) ks)) n = v := ⟨_, rfl⟩
      obtain ⟨y2, hy2⟩ : ∃ v, mayK (n - 1) (wzP q zs n) (opnL (n - 1) (wzP q zs n) (wkP q ks kn)) (kNt (wkP q ks kn)) (n - 1) = v := ⟨_, rfl⟩
      have Hr := Lib.hid (show docR n zs ks kn q = max y1 y2 by unfold docR; rw [hy1, hy2])
      have Hy1 := Lib.hid hy1
      have Hy2 := Lib.hid hy2
      clear hop hki hc2 hsel hy1 hy2
      have zHS0 : w3.cell? ⟨R, 0, none⟩ = some (.int .i64 sl) := by rw [cell_row HS.out]; rfl
      have zHS1 : w3.cell? ⟨R, 1, none⟩ = some (.int .i64 sr) := by rw [cell_row HS.out]; rfl
      have zHS2 : w3.cell? ⟨R, 2, none⟩ = some (.slice A n cap) := by rw [cell_row HS.out]; rfl
      have zHS3 : w3.cell? ⟨R, 3, none⟩ = some (.slice A2 kn kc) := by rw [cell_row HS.out]; rfl
      go_wp2_with fail
      refine wp_region_held_drew (S := fun w2 => Below w3.heap.size w3 w2) (by kernel_rfl) (drew_b _ _) (fun hS0 => ?_)
      refine wpAnyH_take (i := 0) (oi := { dst := some 32, op := Go.Op.load 25 (Go.Operand.tmp 1), type := 25, pos := "ref.go:268", after := #[], guard := none }) (v := .agg #[.int .i64 sl, .int .i64 sr, .slice A n cap, .slice A2 kn kc]) rfl (by kernel_rfl) (by kernel_rfl) (by kernel_rfl) (fun _ _ _ h => h) (Or.inl ⟨by rfl, by intro w2 hSw; (try dsimp only at hSw); have y0 := (hSw.cell (lt_of_cell zHS0)).trans zHS0; have y1 := (hSw.cell (lt_of_cell zHS1)).trans zHS1; have y2 := (hSw.cell (lt_of_cell zHS2)).trans zHS2; have y3 := (hSw.cell (lt_of_cell zHS3)).trans zHS3; go_simp⟩) hS0 ?_
      try simp only [Act.put, List.setIfInBounds_toArray, List.set_cons_zero, List.set_cons_succ]
      refine wpAnyH_take (i := 1) (oi := { dst := some 33, op := Go.Op.move (Go.Operand.tmp 9), type := 3, pos := "ref.go:268", after := #[], guard := none }) (v := .int .i64 (q : Int)) rfl (by kernel_rfl) (by kernel_rfl) (by kernel_rfl) (fun _ _ _ h => h) (Or.inl ⟨by rfl, by intro w2 hSw; (try dsimp only at hSw); have y0 := (hSw.cell (lt_of_cell zHS0)).trans zHS0; have y1 := (hSw.cell (lt_of_cell zHS1)).trans zHS1; have y2 := (hSw.cell (lt_of_cell zHS2)).trans zHS2; have y3 := (hSw.cell (lt_of_cell zHS3)).trans zHS3; go_simp⟩) hS0 ?_
      try simp only [Act.put, List.setIfInBounds_toArray, List.set_cons_zero, List.set_cons_succ]
      refine wpAnyH_take (i := 4) (oi := { dst := some 36, op := Go.Op.load 25 (Go.Operand.tmp 1), type := 25, pos := "ref.go:268", after := #[], guard := none }) (v := .agg #[.int .i64 sl, .int .i64 sr, .slice A n cap, .slice A2 kn kc]) rfl (by kernel_rfl) (by kernel_rfl) (by kernel_rfl) (fun _ _ _ h => h) (Or.inl ⟨by rfl, by intro w2 hSw; (try dsimp only at hSw); have y0 := (hSw.cell (lt_of_cell zHS0)).trans zHS0; have y1 := (hSw.cell (lt_of_cell zHS1)).trans zHS1; have y2 := (hSw.cell (lt_of_cell zHS2)).trans zHS2; have y3 := (hSw.cell (lt_of_cell zHS3)).trans zHS3; go_simp⟩) hS0 ?_
      try simp only [Act.put, List.setIfInBounds_toArray, List.set_cons_zero, List.set_cons_succ]
      refine wpAnyH_take (i := 5) (oi := { dst := some 37, op := Go.Op.move (Go.Operand.tmp 9), type := 3, pos := "ref.go:268", after := #[], guard := none }) (v := .int .i64 (q : Int)) rfl (by kernel_rfl) (by kernel_rfl) (by kernel_rfl) (fun _ _ _ h => h) (Or.inl ⟨by rfl, by intro w2 hSw; (try dsimp only at hSw); have y0 := (hSw.cell (lt_of_cell zHS0)).trans zHS0; have y1 := (hSw.cell (lt_of_cell zHS1)).trans zHS1; have y2 := (hSw.cell (lt_of_cell zHS2)).trans zHS2; have y3 := (hSw.cell (lt_of_cell zHS3)).trans zHS3; go_simp⟩) hS0 ?_
      try simp only [Act.put, List.setIfInBounds_toArray, List.set_cons_zero, List.set_cons_succ]
      refine wpAnyH_ready (rs := [2]) (by kernel_rfl) (by simp) ?_
      refine AllReadyH.cons (o := { dst := some 34, op := Go.Op.call { callee := Go.Callee.value (Go.Operand.func 35), args := #[Go.Operand.tmp 32, Go.Operand.tmp 33], argTypes := #[25, 3] }, type := 25, pos := "ref.go:268", after := #[{ on := 0, ground := Go.Ground.data }, { on := 1, ground := Go.Ground.data }], guard := none }) rfl (fun K2 hK => ?_) AllReadyH.nil
      go_simp
      refine (knowing35 sl sr A n cap zs A2 kn kc ks (q : Int) _ (XI.out.below hS0 (Nat.le_refl _)) (by have := Hk.out; omega)).mono ?_
      rintro e9 V1 ⟨CA, ca, rfl, -, hi1, -, hb9⟩
      have HI1 := Lib.hid hi1
      clear hi1
      (try go_simp)
      refine hK.out _ _ (hS0.trans (hb9.mono hS0.size)) (fun hS1 => ?_)
      clear hK K2
      clear hb9
      try simp only [Act.put, List.setIfInBounds_toArray, List.set_cons_zero, List.set_cons_succ]
      refine wpAnyH_ready (rs := [3]) (by kernel_rfl) (by simp) ?_
      refine AllReadyH.cons (o := { dst := some 35, op := Go.Op.call { callee := Go.Callee.value (Go.Operand.func 60), args := #[Go.Operand.tmp 34], argTypes := #[25] }, type := 3, pos := "ref.go:268", after := #[{ on := 2, ground := Go.Ground.data }, { on := 2, ground := Go.Ground.chain }], guard := none }) rfl (fun K2 hK => ?_) AllReadyH.nil
      go_simp
      refine (left60 sl sr A n cap zs CA (kn + 1) ca (knwL (q : Int) ks) V1 (X.out.below hS1 (Nat.le_refl _)) HI1.out (by have := Hk.out; omega) Hc1.out).mono ?_
      rintro e9 V2 ⟨rfl, hb9⟩
      rw [Hy1.out]
      (try go_simp)
      refine hK.out _ _ (hS1.trans (hb9.mono hS1.size)) (fun hS2 => ?_)
      clear hK K2
      clear hb9
      try simp only [Act.put, List.setIfInBounds_toArray, List.set_cons_zero, List.set_cons_succ]
      refine wpAnyH_ready (rs := [6]) (by kernel_rfl) (by simp) ?_
      refine AllReadyH.cons (o := { dst := some 38, op := Go.Op.call { callee := Go.Callee.value (Go.Operand.func 36), args := #[Go.Operand.tmp 36, Go.Operand.tmp 37], argTypes := #[25, 3] }, type := 25, pos := "ref.go:268", after := #[{ on := 4, ground := Go.Ground.data }, { on := 5, ground := Go.Ground.data }, { on := 3, ground := Go.Ground.chain }], guard := none }) rfl (fun K2 hK => ?_) AllReadyH.nil
      go_simp
      refine (without36 sl sr A n cap zs A2 kn kc ks q V2 (X.out.below hS2 (Nat.le_refl _)) (XI.out.below hS2 (Nat.le_refl _)) (by omega) (by have := Hk.out; omega) Hin.out).mono ?_
      rintro e9 V3 ⟨CB, cb, CC, cc, rfl, -, -, hr3, hi3, hb9⟩
      rw [Hl2.out] at hr3 ⊢
      have HR3 := Lib.hid hr3
      have HI3 := Lib.hid hi3
      clear hr3 hi3
      (try go_simp)
      refine hK.out _ _ (hS2.trans (hb9.mono hS2.size)) (fun hS3 => ?_)
      clear hK K2
      clear hb9
      try simp only [Act.put, List.setIfInBounds_toArray, List.set_cons_zero, List.set_cons_succ]
      refine wpAnyH_ready (rs := [7]) (by kernel_rfl) (by simp) ?_
      refine AllReadyH.cons (o := { dst := some 39, op := Go.Op.call { callee := Go.Callee.value (Go.Operand.func 60), args := #[Go.Operand.tmp 38], argTypes := #[25] }, type := 3, pos := "ref.go:268", after := #[{ on := 6, ground := Go.Ground.data }, { on := 6, ground := Go.Ground.chain }], guard := none }) rfl (fun K2 hK => ?_) AllReadyH.nil
      go_simp
      refine (left60 sl sr CB (n - 1) cb (wzP q zs n) CC kn cc (wkP q ks kn) V3 HR3.out HI3.out (by have := Hk.out; omega) Hc2.out).mono ?_
      rintro e9 V4 ⟨rfl, hb9⟩
      rw [Hy2.out]
      (try go_simp)
      refine hK.out _ _ (hS3.trans (hb9.mono hS3.size)) (fun hS4 => ?_)
      clear hK K2
      clear hb9
      try simp only [Act.put, List.setIfInBounds_toArray, List.set_cons_zero, List.set_cons_succ]
      refine wpAnyH_take (i := 8) (oi := { dst := some 40, op := Go.Op.call { callee := Go.Callee.builtin Go.Builtin.max, args := #[Go.Operand.tmp 35, Go.Operand.tmp 39], argTypes := #[3, 3] }, type := 3, pos := "ref.go:268", after := #[{ on := 3, ground := Go.Ground.data }, { on := 7, ground := Go.Ground.data }], guard := none }) (v := .int .i64 (max (y1 : Int) (y2 : Int))) rfl (by kernel_rfl) (by kernel_rfl) (by kernel_rfl) (fun _ _ _ h => h) (Or.inl ⟨by rfl, by intro w2 hSw; (try dsimp only at hSw); have y0 := (hSw.cell (lt_of_cell zHS0)).trans zHS0; have y1 := (hSw.cell (lt_of_cell zHS1)).trans zHS1; have y2 := (hSw.cell (lt_of_cell zHS2)).trans zHS2; have y3 := (hSw.cell (lt_of_cell zHS3)).trans zHS3; go_simp⟩) hS4 ?_
      try simp only [Act.put, List.setIfInBounds_toArray, List.set_cons_zero, List.set_cons_succ]
      refine wpAnyH_take (i := 9) (oi := { dst := some 10, op := Go.Op.assign (Go.Operand.tmp 40), type := 3, pos := "ref.go:268", after := #[{ on := 8, ground := Go.Ground.data }, { on := 7, ground := Go.Ground.chain }, { on := 0, ground := Go.Ground.phase }, { on := 1, ground := Go.Ground.phase }, { on := 2, ground := Go.Ground.phase }, { on := 3, ground := Go.Ground.phase }, { on := 4, ground := Go.Ground.phase }, { on := 5, ground := Go.Ground.phase }, { on := 6, ground := Go.Ground.phase }, { on := 7, ground := Go.Ground.phase }, { on := 8, ground := Go.Ground.phase }], guard := none }) (v := .int .i64 (max (y1 : Int) (y2 : Int))) rfl (by kernel_rfl) (by kernel_rfl) (by kernel_rfl) (fun _ _ _ h => h) (Or.inl ⟨by rfl, by intro w2 hSw; (try dsimp only at hSw); have y0 := (hSw.cell (lt_of_cell zHS0)).trans zHS0; have y1 := (hSw.cell (lt_of_cell zHS1)).trans zHS1; have y2 := (hSw.cell (lt_of_cell zHS2)).trans zHS2; have y3 := (hSw.cell (lt_of_cell zHS3)).trans zHS3; go_simp⟩) hS4 ?_
      try simp only [Act.put, List.setIfInBounds_toArray, List.set_cons_zero, List.set_cons_succ]
      refine wpAnyH_done (by kernel_rfl) ?_ _
      clear zHS0 zHS1 zHS2 zHS3
      have hbj := HV.out.2.trans (hS4.mono HV.out.2.size)
      have ho := HV.out.1
      rw [show max (y1 : Int) (y2 : Int) = ((max y1 y2 : Nat) : Int) by omega]
      obtain ⟨y, hy⟩ : ∃ y, max y1 y2 = y := ⟨_, rfl⟩
      rw [hy] at Hr ⊢
      clear hy hS0 hS1 hS2 hS3 hS4 Hy1 Hy2
      rcases o with _ | p
      · have hN : some q = bestQ (fun k => kindS n zs (opnL n zs ks) (kNt ks) k == 1) (docR n zs ks kn) (q + 1) := by
          show _ = (if _ then _ else _)
          rw [if_pos Hsel.out, ← ho]
        have HN := Lib.hid (show some q = bestQ (fun k => kindS n zs (opnL n zs ks) (kNt ks) k == 1) (docR n zs ks kn) (q + 1) ∧ Below w2.heap.size w2 V4 from ⟨hN, hbj⟩)
        clear hN hbj ho
        rw [show ndA none = -1 from rfl, show ndB (docR n zs ks kn) none = 0 from rfl]
        go_wp2_with fail
        go_roundw
        case rel => exact ⟨q + 1, some q, by omega, rfl, by show _ = Value.int IntKind.i64 ((docR n zs ks kn q : Nat) : Int); rw [Hr.out], by go_num, HN⟩
        case measure => simp [intOf] <;> omega
      · rw [show ndA (some p) = (p : Int) from rfl, show ndB (docR n zs ks kn) (some p) = (docR n zs ks kn p : Int) from rfl]
        obtain ⟨x, hx⟩ : ∃ x, docR n zs ks kn p = x := ⟨_, rfl⟩
        rw [hx]
        have hst : bestQ (fun k => kindS n zs (opnL n zs ks) (kNt ks) k == 1) (docR n zs ks kn) (q + 1) = if y < x then some q else some p := by
          show (if _ then _ else _) = _
          rw [if_pos Hsel.out, ← ho]
          show (if docR n zs ks kn q < docR n zs ks kn p then _ else _) = _
          rw [Hr.out, hx]
        have Hx := Lib.hid hx
        have p0 : ¬ (p : Int) < 0 := by omega
        clear hx ho
        by_cases hyx : y < x
        · rw [if_pos hyx] at hst
          have d2 : (y : Int) < (x : Int) := by omega
          have HN := Lib.hid (show some q = bestQ (fun k => kindS n zs (opnL n zs ks) (kNt ks) k == 1) (docR n zs ks kn) (q + 1) ∧ Below w2.heap.size w2 V4 from ⟨hst.symm, hbj⟩)
          clear hst hbj
          go_wp2_with fail
          go_roundw
          case rel => exact ⟨q + 1, some q, by omega, rfl, by show _ = Value.int IntKind.i64 ((docR n zs ks kn q : Nat) : Int); rw [Hr.out], by go_num, HN⟩
          case measure => simp [intOf] <;> omega
        · rw [if_neg hyx] at hst
          have d2 : ¬ (y : Int) < (x : Int) := by omega
          have HN := Lib.hid (show some p = bestQ (fun k => kindS n zs (opnL n zs ks) (kNt ks) k == 1) (docR n zs ks kn) (q + 1) ∧ Below w2.heap.size w2 V4 from ⟨hst.symm, hbj⟩)
          clear hst hbj
          go_wp2_with fail
          go_roundw
          case rel => exact ⟨q + 1, some p, by omega, rfl, by show _ = Value.int IntKind.i64 ((docR n zs ks kn p : Nat) : Int); rw [Hx.out], by go_num, HN⟩
          case measure => simp [intOf] <;> omega
    · obtain rfl : n = q := by omega
      have ho := HV.out.1
      clear HV
      rcases o with _ | p
      · rw [show ndA none = -1 from rfl]
        have Ho := Lib.hid ho
        clear ho
        go_wp2_with fail
        go_ret3
        exact ⟨by rw [← Ho.out]; rfl, B.out⟩
      · rw [show ndA (some p) = (p : Int) from rfl, show ndB (docR n zs ks kn) (some p) = (docR n zs ks kn p : Int) from rfl]
        have p0 : ¬ (p : Int) < 0 := by omega
        have Ho := Lib.hid ho
        clear ho
        go_wp2_with fail
        go_ret3
        exact ⟨by rw [← Ho.out]; rfl, B.out⟩
end
end Go.Proofs.Ytnodkgejggnehaa
