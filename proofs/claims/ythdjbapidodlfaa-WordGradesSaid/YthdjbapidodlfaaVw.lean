/- Stage 4: the view of a board. -/
import Derived.Test.YthdjbapidodlfaaTrn
namespace Go.Proofs.Ythdjbapidodlfaa
set_option linter.unusedSimpArgs false
set_option linter.unusedVariables false
open Go.RowKit Go.Shelf
attribute [local go_sem ↓] exec_app at_app
attribute [local go_sem] Oper.semAt_some

/-- The chart of lines in memory. -/
def ChF (W : World) (Cf B Me : Nat) (Ms : Nat → Nat) (nn : Nat) (nm : List Int) (L : List (List Int)) (m : Nat) : Prop :=
  Cht W Cf B Me Ms nn (allK (mtS nm L) m) (SeP (eS (mtS nm L) m) (mtS nm L)) (fun h p => frK (eS (mtS nm L) m) (mtS nm L) m p h)
/-- A view: the chart of lines, and that of the lines that are read from their ends. -/
structure Vw (W : World) (Vp Cf Cb B Bt Me Me2 : Nat) (Ms Ms2 : Nat → Nat) (nn nn2 : Nat) (nm : List Int) (L : List (List Int)) (m : Nat) : Prop where
  row : W.heap[Vp]? = some (.cells #[.pointer (some ⟨Cf, 0, none⟩), .pointer (some ⟨Cb, 0, none⟩)] 124 (0, 0))
  fwd : ChF W Cf B Me Ms nn nm L m
  bck : ChF W Cb Bt Me2 Ms2 nn2 nm (trL L) m
section
variable {W W' : World} {Vp Cf Cb B Bt Me Me2 : Nat} {Ms Ms2 : Nat → Nat} {nn nn2 : Nat} {nm : List Int} {L : List (List Int)} {m : Nat}
theorem Vw.below {Bs : Nat} (h : Vw W Vp Cf Cb B Bt Me Me2 Ms Ms2 nn nn2 nm L m) (hb : Below Bs W W') (hB : W.heap.size ≤ Bs) : Vw W' Vp Cf Cb B Bt Me Me2 Ms Ms2 nn nn2 nm L m :=
  ⟨(hb.block _ (by have := lt_of_block h.row; omega)).trans h.row, Cht.below h.fwd hb hB, Cht.below h.bck hb hB⟩
theorem Vw.c0 (h : Vw W Vp Cf Cb B Bt Me Me2 Ms Ms2 nn nn2 nm L m) : W.cell? ⟨Vp, 0, none⟩ = some (.pointer (some ⟨Cf, 0, none⟩)) := by rw [cell_row h.row]; rfl
theorem Vw.c1 (h : Vw W Vp Cf Cb B Bt Me Me2 Ms Ms2 nn nn2 nm L m) : W.cell? ⟨Vp, 1, none⟩ = some (.pointer (some ⟨Cb, 0, none⟩)) := by rw [cell_row h.row]; rfl
end
theorem seP_in {E : List Int → Int × Int} {mt : List (List Int)} {x : List Int} (h : x ∈ mt) : (SeP E mt x).getD (knV (0, 0)) = knV (E x) := by
  unfold SeP
  rw [if_pos h]
  rfl
set_option maxRecDepth 100000 in
set_option maxHeartbeats 8000000 in
theorem both65 (B D : Nat) (A : Option Addr) (n cap : Nat) (nm : List Int) (M : Nat) (A2 : Option Addr) (m cap2 : Nat) (L : List (List Int)) (w : World) (hBo : Bo w B D A n cap nm M A2 m cap2 L) (hL : LV L m) :
    Calls Try.prog 65 #[.pointer (some ⟨B, 0, none⟩)] w fun e w' => ∃ Vp Cf Cb Bt Me Me2 Ms Ms2 nn nn2, e = .returned (.pointer (some ⟨Vp, 0, none⟩)) ∧ Vw w' Vp Cf Cb B Bt Me Me2 Ms Ms2 nn nn2 nm L m ∧ Below w.heap.size w w' := by
  have HB := Lib.hid hBo
  have HL := Lib.hid hL
  have hps := passages59 B D A n cap nm M A2 m cap2 L w hBo hL
  have Hps := Lib.hid hps
  clear hBo hL hps
  go_enter Try.func65, Try.ntmps65
  go_wp2_with fail
  refine Hps.out.mono ?_
  rintro en w1 ⟨Cf, Me, Ms, nn, rfl, hc1, hb1, -, -, -⟩
  have HC1 := Lib.hid hc1
  have HB1 := Lib.hid hb1
  have Htd := Lib.hid (turned83 B D A n cap nm M A2 m cap2 L w1 (HB.out.below hb1 (Nat.le_refl _)) HL.out)
  clear hc1 hb1 Hps
  go_wp2_with fail
  refine Htd.out.mono ?_
  rintro en w2 ⟨Bt, C, cp, rfl, hbo2, -, hb2⟩
  have HC2 := Lib.hid (HC1.out.below hb2 (Nat.le_refl _))
  have HB2 := Lib.hid (HB1.out.trans (hb2.mono HB1.out.size))
  have Hps := Lib.hid (passages59 Bt D A n cap nm M C m cp (trL L) w2 hbo2 (trL_lv HL.out))
  clear hbo2 hb2 Htd
  go_wp2_with fail
  refine Hps.out.mono ?_
  rintro en w3 ⟨Cb, Me2, Ms2, nn2, rfl, hc3, hb3, -, -, -⟩
  have hbz := below_alloc_ w3 (.cells #[.pointer (some ⟨Cf, 0, none⟩), .pointer (some ⟨Cb, 0, none⟩)] 124)
  have hrz := heap_alloc_new_ w3 (.cells #[.pointer (some ⟨Cf, 0, none⟩), .pointer (some ⟨Cb, 0, none⟩)] 124)
  have HV := Lib.hid (show Vw (w3.alloc (.cells #[.pointer (some ⟨Cf, 0, none⟩), .pointer (some ⟨Cb, 0, none⟩)] 124)) w3.heap.size Cf Cb B Bt Me Me2 Ms Ms2 nn nn2 nm L m from
    ⟨hrz, (HC2.out.below hb3 (Nat.le_refl _)).below hbz (Nat.le_refl _), Cht.below hc3 hbz (Nat.le_refl _)⟩)
  have HB3 := Lib.hid ((HB2.out.trans (hb3.mono HB2.out.size)).trans (hbz.mono (Nat.le_trans HB2.out.size hb3.size)))
  clear hc3 hb3 hbz hrz Hps
  go_wp2_with fail
  go_ret
  exact ⟨_, Cf, Cb, Bt, Me, Me2, Ms, Ms2, nn, nn2, rfl, HV.out, HB3.out⟩
set_option maxRecDepth 100000 in
set_option maxHeartbeats 8000000 in
theorem begins84 (B D : Nat) (A : Option Addr) (n cap : Nat) (nm : List Int) (M : Nat) (A2 : Option Addr) (m cap2 : Nat) (L : List (List Int)) (Vp Cf Cb Bt Me Me2 : Nat) (Ms Ms2 : Nat → Nat) (nn nn2 : Nat) (x : List Int) (w : World) (hBo : Bo w B D A n cap nm M A2 m cap2 L) (hL : LV L m) (hV : Vw w Vp Cf Cb B Bt Me Me2 Ms Ms2 nn nn2 nm L m) (hx : x ∈ mtS nm L) :
    Calls Try.prog 84 #[.pointer (some ⟨Vp, 0, none⟩), plA x] w fun e w' => e = .returned (knV (bS nm L m x)) ∧ Below w.heap.size w w' := by
  have hwp := mtS_wpl (nm := nm) hL x hx
  have hlo := hL.lo
  have hhi := hL.hi
  have hin := (mem_tr (nm := nm) hL (trK L x m)).2 ⟨x, hx, rfl⟩
  have hdom := (mtS_wpl (nm := nm) (trL_lv hL) _ hin).dom
  have Hlk := Lib.hid (fun (w9 : World) (h : Below w.heap.size w w9) => (show (Instr.lookup 88 (.map (some Me2)) (plA (trK L x m)) false).run Try.prog w9 = .ok (.agg #[.int .i64 (bS nm L m x).1, .int .i64 (bS nm L m x).2]) w9 from by
    have h3 := (Cht.below hV.bck h (Nat.le_refl _)).lookE hdom
    rw [seP_in hin] at h3
    exact h3))
  have k2 : Keeps (fun _ => False) w ((w.alloc (.cells #[.int .i64 (iAt x 0), .int .i64 (iAt x 1), .int .i64 (iAt x 2), .int .i64 (iAt x 3)] 79)).alloc (.cells #[.int .i64 0, .int .i64 0] 91)) := (keep_alloc _ _ _).trans (keep_alloc _ _ _)
  have e0 : RowP ((w.alloc (.cells #[.int .i64 (iAt x 0), .int .i64 (iAt x 1), .int .i64 (iAt x 2), .int .i64 (iAt x 3)] 79)).alloc (.cells #[.int .i64 0, .int .i64 0] 91)) w.heap.size x := ⟨hwp.len, by rw [flat4 hwp.len]; exact hal_old (heap_alloc_new_ _ _)⟩
  have e1 : ((w.alloc (.cells #[.int .i64 (iAt x 0), .int .i64 (iAt x 1), .int .i64 (iAt x 2), .int .i64 (iAt x 3)] 79)).alloc (.cells #[.int .i64 0, .int .i64 0] 91)).heap[w.heap.size + 1]? = some (.cells #[.int .i64 0, .int .i64 0] 91 (0, 0)) := hal_new (by simp)
  have HB := Lib.hid hBo
  have HL := Lib.hid hL
  have HV := Lib.hid hV
  have HP := Lib.hid hwp
  have K2 := Lib.hid k2
  have E0 := Lib.hid e0
  have E1 := Lib.hid e1
  have HR8 := Lib.hid (show ∀ j, j < m → -1 ≤ iAt x j ∧ iAt x j ≤ 8 from fun j hj => by have := hwp.rng j hj; omega)
  clear hBo hL hV hx hin hdom k2 e0 e1 hwp
  unfold plA
  go_enter Try.func84, Try.ntmps84
  go_wp2_with fail
  obtain ⟨V, hV⟩ : ∃ V, (w.alloc (.cells #[.int .i64 (iAt x 0), .int .i64 (iAt x 1), .int .i64 (iAt x 2), .int .i64 (iAt x 3)] 79)).alloc (.cells #[.int .i64 0, .int .i64 0] 91) = V := ⟨_, rfl⟩
  obtain ⟨Z, hZ⟩ : ∃ Z, w.heap.size = Z := ⟨_, rfl⟩
  have HZ := Lib.hid hZ
  have k2 := K2.out
  have e0 := E0.out
  have e1 := E1.out
  rw [hV] at k2 e0 e1 ⊢
  rw [hZ] at e0 e1 ⊢
  have hbV := k2.new
  have HbV := Lib.hid hbV
  have hv := HV.out.below hbV (Nat.le_refl _)
  have v0 := hv.c0
  have v1 := hv.c1
  have b0 := Cht.c0 hv.fwd
  have b1 := Cht.c1 hv.bck
  have x0 := e0.cell (j := 0) (by omega)
  have x1 := e0.cell (j := 1) (by omega)
  have x2 := e0.cell (j := 2) (by omega)
  have x3 := e0.cell (j := 3) (by omega)
  have y0 : V.cell? ⟨Z + 1, 0, none⟩ = some (.int .i64 0) := by rw [cell_row e1]; rfl
  have y1 : V.cell? ⟨Z + 1, 1, none⟩ = some (.int .i64 0) := by rw [cell_row e1]; rfl
  replace E1 := Lib.hid e1
  obtain ⟨R, hR⟩ : ∃ R, bS nm L m x = R := ⟨_, rfl⟩
  rw [hR] at Hlk
  have HR := Lib.hid hR
  have hVZ : Z + 1 < V.heap.size := lt_of_block e1
  have hlV := Lib.hid (show Vp < Z + 1 from by have := lt_of_block HV.out.row; omega)
  have hlF := Lib.hid (show Cf < Z + 1 from by have := lt_of_block HV.out.fwd.row; omega)
  have hlB := Lib.hid (show Cb < Z + 1 from by have := lt_of_block HV.out.bck.row; omega)
  have hlZ := Lib.hid (Nat.lt_succ_self Z)
  have hZw : w.heap.size ≤ Z + 1 := by omega
  clear hV hZ k2 e0 e1 hbV hv K2 E0 hR
  refine wp_region_held_drew (S := fun w9 => Below (Z + 1) V w9) (by kernel_rfl) ((drew_b V 1).mono (by omega)) (fun hS0 => ?_)
  refine wpAnyH_take (i := 0) (oi := { dst := some 5, op := Go.Op.move (Go.Operand.tmp 0), type := 98, pos := "chart.go:106", after := #[], guard := none }) (v := .pointer (some ⟨Vp, 0, none⟩)) rfl (by kernel_rfl) (by kernel_rfl) (by kernel_rfl) (fun _ _ _ h => h) (Or.inl ⟨by rfl, by intro w9 hSw; (try dsimp only at hSw); go_simp⟩) hS0 ?_
  try simp only [Act.put, List.setIfInBounds_toArray, List.set_cons_zero, List.set_cons_succ]
  refine wpAnyH_take (i := 1) (oi := { dst := some 6, op := Go.Op.nilCheck (Go.Operand.tmp 5), type := 0, pos := "chart.go:106", after := #[{ on := 0, ground := Go.Ground.data }], guard := none }) (v := .pointer (some ⟨Vp, 0, none⟩)) rfl (by kernel_rfl) (by kernel_rfl) (by kernel_rfl) (fun _ _ _ h => h) (Or.inl ⟨by rfl, by intro w9 hSw; (try dsimp only at hSw); go_simp⟩) hS0 ?_
  try simp only [Act.put, List.setIfInBounds_toArray, List.set_cons_zero, List.set_cons_succ]
  refine wpAnyH_take (i := 2) (oi := { dst := some 7, op := Go.Op.fieldAddr 124 (Go.Operand.tmp 6) 1, type := 0, pos := "chart.go:106", after := #[{ on := 1, ground := Go.Ground.data }], guard := none }) (v := .pointer (some ⟨Vp, 1, none⟩)) rfl (by kernel_rfl) (by kernel_rfl) (by kernel_rfl) (fun _ _ _ h => h) (Or.inl ⟨by rfl, by intro w9 hSw; (try dsimp only at hSw); go_simp⟩) hS0 ?_
  try simp only [Act.put, List.setIfInBounds_toArray, List.set_cons_zero, List.set_cons_succ]
  refine wpAnyH_take (i := 3) (oi := { dst := some 8, op := Go.Op.load 86 (Go.Operand.tmp 7), type := 86, pos := "chart.go:106", after := #[{ on := 2, ground := Go.Ground.data }], guard := none }) (v := .pointer (some ⟨Cb, 0, none⟩)) rfl (by kernel_rfl) (by kernel_rfl) (by kernel_rfl) (fun _ _ _ h => h) (Or.inl ⟨by rfl, by intro w9 hSw; (try dsimp only at hSw); have q_v1 := (hSw.cell hlV.out).trans v1; go_simp⟩) hS0 ?_
  try simp only [Act.put, List.setIfInBounds_toArray, List.set_cons_zero, List.set_cons_succ]
  refine wpAnyH_take (i := 4) (oi := { dst := some 9, op := Go.Op.nilCheck (Go.Operand.tmp 8), type := 0, pos := "chart.go:106", after := #[{ on := 3, ground := Go.Ground.data }], guard := none }) (v := .pointer (some ⟨Cb, 0, none⟩)) rfl (by kernel_rfl) (by kernel_rfl) (by kernel_rfl) (fun _ _ _ h => h) (Or.inl ⟨by rfl, by intro w9 hSw; (try dsimp only at hSw); go_simp⟩) hS0 ?_
  try simp only [Act.put, List.setIfInBounds_toArray, List.set_cons_zero, List.set_cons_succ]
  refine wpAnyH_take (i := 5) (oi := { dst := some 10, op := Go.Op.fieldAddr 93 (Go.Operand.tmp 9) 1, type := 0, pos := "chart.go:106", after := #[{ on := 4, ground := Go.Ground.data }], guard := none }) (v := .pointer (some ⟨Cb, 1, none⟩)) rfl (by kernel_rfl) (by kernel_rfl) (by kernel_rfl) (fun _ _ _ h => h) (Or.inl ⟨by rfl, by intro w9 hSw; (try dsimp only at hSw); go_simp⟩) hS0 ?_
  try simp only [Act.put, List.setIfInBounds_toArray, List.set_cons_zero, List.set_cons_succ]
  refine wpAnyH_take (i := 6) (oi := { dst := some 11, op := Go.Op.load 88 (Go.Operand.tmp 10), type := 88, pos := "chart.go:106", after := #[{ on := 5, ground := Go.Ground.data }], guard := none }) (v := .map (some Me2)) rfl (by kernel_rfl) (by kernel_rfl) (by kernel_rfl) (fun _ _ _ h => h) (Or.inl ⟨by rfl, by intro w9 hSw; (try dsimp only at hSw); have q_b1 := (hSw.cell hlB.out).trans b1; go_simp⟩) hS0 ?_
  try simp only [Act.put, List.setIfInBounds_toArray, List.set_cons_zero, List.set_cons_succ]
  refine wpAnyH_take (i := 7) (oi := { dst := some 12, op := Go.Op.move (Go.Operand.tmp 0), type := 98, pos := "chart.go:106", after := #[], guard := none }) (v := .pointer (some ⟨Vp, 0, none⟩)) rfl (by kernel_rfl) (by kernel_rfl) (by kernel_rfl) (fun _ _ _ h => h) (Or.inl ⟨by rfl, by intro w9 hSw; (try dsimp only at hSw); go_simp⟩) hS0 ?_
  try simp only [Act.put, List.setIfInBounds_toArray, List.set_cons_zero, List.set_cons_succ]
  refine wpAnyH_take (i := 8) (oi := { dst := some 13, op := Go.Op.nilCheck (Go.Operand.tmp 12), type := 0, pos := "chart.go:106", after := #[{ on := 7, ground := Go.Ground.data }], guard := none }) (v := .pointer (some ⟨Vp, 0, none⟩)) rfl (by kernel_rfl) (by kernel_rfl) (by kernel_rfl) (fun _ _ _ h => h) (Or.inl ⟨by rfl, by intro w9 hSw; (try dsimp only at hSw); go_simp⟩) hS0 ?_
  try simp only [Act.put, List.setIfInBounds_toArray, List.set_cons_zero, List.set_cons_succ]
  refine wpAnyH_take (i := 9) (oi := { dst := some 14, op := Go.Op.fieldAddr 124 (Go.Operand.tmp 13) 0, type := 0, pos := "chart.go:106", after := #[{ on := 8, ground := Go.Ground.data }], guard := none }) (v := .pointer (some ⟨Vp, 0, none⟩)) rfl (by kernel_rfl) (by kernel_rfl) (by kernel_rfl) (fun _ _ _ h => h) (Or.inl ⟨by rfl, by intro w9 hSw; (try dsimp only at hSw); go_simp⟩) hS0 ?_
  try simp only [Act.put, List.setIfInBounds_toArray, List.set_cons_zero, List.set_cons_succ]
  refine wpAnyH_take (i := 10) (oi := { dst := some 15, op := Go.Op.load 86 (Go.Operand.tmp 14), type := 86, pos := "chart.go:106", after := #[{ on := 9, ground := Go.Ground.data }], guard := none }) (v := .pointer (some ⟨Cf, 0, none⟩)) rfl (by kernel_rfl) (by kernel_rfl) (by kernel_rfl) (fun _ _ _ h => h) (Or.inl ⟨by rfl, by intro w9 hSw; (try dsimp only at hSw); have q_v0 := (hSw.cell hlV.out).trans v0; go_simp⟩) hS0 ?_
  try simp only [Act.put, List.setIfInBounds_toArray, List.set_cons_zero, List.set_cons_succ]
  refine wpAnyH_take (i := 11) (oi := { dst := some 16, op := Go.Op.nilCheck (Go.Operand.tmp 15), type := 0, pos := "chart.go:106", after := #[{ on := 10, ground := Go.Ground.data }], guard := none }) (v := .pointer (some ⟨Cf, 0, none⟩)) rfl (by kernel_rfl) (by kernel_rfl) (by kernel_rfl) (fun _ _ _ h => h) (Or.inl ⟨by rfl, by intro w9 hSw; (try dsimp only at hSw); go_simp⟩) hS0 ?_
  try simp only [Act.put, List.setIfInBounds_toArray, List.set_cons_zero, List.set_cons_succ]
  refine wpAnyH_take (i := 12) (oi := { dst := some 17, op := Go.Op.fieldAddr 93 (Go.Operand.tmp 16) 0, type := 0, pos := "chart.go:106", after := #[{ on := 11, ground := Go.Ground.data }], guard := none }) (v := .pointer (some ⟨Cf, 0, none⟩)) rfl (by kernel_rfl) (by kernel_rfl) (by kernel_rfl) (fun _ _ _ h => h) (Or.inl ⟨by rfl, by intro w9 hSw; (try dsimp only at hSw); go_simp⟩) hS0 ?_
  try simp only [Act.put, List.setIfInBounds_toArray, List.set_cons_zero, List.set_cons_succ]
  refine wpAnyH_take (i := 13) (oi := { dst := some 18, op := Go.Op.load 72 (Go.Operand.tmp 17), type := 72, pos := "chart.go:106", after := #[{ on := 12, ground := Go.Ground.data }], guard := none }) (v := .pointer (some ⟨B, 0, none⟩)) rfl (by kernel_rfl) (by kernel_rfl) (by kernel_rfl) (fun _ _ _ h => h) (Or.inl ⟨by rfl, by intro w9 hSw; (try dsimp only at hSw); have q_b0 := (hSw.cell hlF.out).trans b0; go_simp⟩) hS0 ?_
  try simp only [Act.put, List.setIfInBounds_toArray, List.set_cons_zero, List.set_cons_succ]
  refine wpAnyH_take (i := 14) (oi := { dst := some 19, op := Go.Op.load 79 (Go.Operand.tmp 3), type := 79, pos := "chart.go:106", after := #[], guard := none }) (v := .agg #[.int .i64 (iAt x 0), .int .i64 (iAt x 1), .int .i64 (iAt x 2), .int .i64 (iAt x 3)]) rfl (by kernel_rfl) (by kernel_rfl) (by kernel_rfl) (fun _ _ _ h => h) (Or.inl ⟨by rfl, by intro w9 hSw; (try dsimp only at hSw); have q_x0 := (hSw.cell hlZ.out).trans x0; have q_x1 := (hSw.cell hlZ.out).trans x1; have q_x2 := (hSw.cell hlZ.out).trans x2; have q_x3 := (hSw.cell hlZ.out).trans x3; go_simp⟩) hS0 ?_
  try simp only [Act.put, List.setIfInBounds_toArray, List.set_cons_zero, List.set_cons_succ]
  obtain ⟨X0, hX0⟩ : ∃ X0, V.drew = X0 := ⟨_, rfl⟩
  rw [hX0] at hS0 ⊢
  have HS0 := Lib.hid hS0
  have HE0 := Lib.hid (show X0.heap[Z + 1]? = some (.cells #[.int .i64 0, .int .i64 0] 91 (0, 0)) by rw [← hX0]; exact E1.out)
  clear hX0 hS0 v0 v1 b0 b1 x0 x1 x2 x3
  refine wpAnyH_ready (rs := [15]) (by kernel_rfl) (by simp) ?_
  refine AllReadyH.cons (o := { dst := some 20, op := Go.Op.call { callee := Go.Callee.value (Go.Operand.func 91), args := #[Go.Operand.tmp 18, Go.Operand.tmp 19], argTypes := #[72, 79] }, type := 79, pos := "chart.go:106", after := #[{ on := 13, ground := Go.Ground.data }, { on := 14, ground := Go.Ground.data }], guard := none }) rfl (fun K2 hK => ?_) AllReadyH.nil
  have key := turn91 B D A n cap nm M A2 m cap2 L X0 (HB.out.below (HbV.out.trans (HS0.out.mono hZw)) (Nat.le_refl _)) hhi (by omega) (fun j hj => HL.out.le8 j hj) x HP.out.len HR8.out
  unfold plA at key
  have Key := Lib.hid key
  clear key
  go_simp
  refine Key.out.mono ?_
  rintro e9 X1 ⟨rfl, hb1⟩
  have HS1 := Lib.hid (HS0.out.trans (hb1.mono (by have := HS0.out.size; omega)))
  have HE2 := Lib.hid ((hb1.block _ (lt_of_block HE0.out)).trans HE0.out)
  clear hb1 Key
  try go_simp
  refine hK.out _ _ HS1.out (fun _ => ?_)
  clear hK K2
  try simp only [Act.put, List.setIfInBounds_toArray, List.set_cons_zero, List.set_cons_succ]
  refine wpAnyH_take (i := 16) (oi := { dst := some 21, op := Go.Op.lookup 88 (Go.Operand.tmp 11) (Go.Operand.tmp 20) false, type := 91, pos := "chart.go:106", after := #[{ on := 6, ground := Go.Ground.data }, { on := 15, ground := Go.Ground.data }], guard := none }) (v := .agg #[.int .i64 R.1, .int .i64 R.2]) rfl (by kernel_rfl) (by kernel_rfl) (by kernel_rfl) (fun _ _ _ h => h) (Or.inl ⟨by rfl, by intro w9 hSw; (try dsimp only at hSw); have hlk := Hlk.out w9 (HbV.out.trans (hSw.mono hZw)); (try unfold plA at hlk); go_simp⟩) HS1.out ?_
  try simp only [Act.put, List.setIfInBounds_toArray, List.set_cons_zero, List.set_cons_succ]
  have e1 := HE2.out
  have z0 : X1.cell? ⟨Z + 1, 0, none⟩ = some (.int .i64 0) := by rw [cell_row e1]; rfl
  have z1 : X1.cell? ⟨Z + 1, 1, none⟩ = some (.int .i64 0) := by rw [cell_row e1]; rfl
  have f0 : X1.frozen? ⟨Z + 1, 0, none⟩ = false := frozen_row e1
  have f1 : X1.frozen? ⟨Z + 1, 1, none⟩ = false := frozen_row e1
  have hk1 := keeps_setCell X1 (Z + 1) 0 (.int .i64 R.1)
  have hk2 := keeps_setCell (X1.setCell ⟨Z + 1, 0, none⟩ (.int .i64 R.1)) (Z + 1) 1 (.int .i64 R.2)
  have Hrow2 := Lib.hid (set_same 1 (.int .i64 R.2) (set_same (W := X1) 0 (.int .i64 R.1) e1))
  have HKf := Lib.hid (hk1.trans hk2)
  clear e1 hk1 hk2 y0 y1
  refine wpAnyH_ready (rs := [17]) (by kernel_rfl) (by simp) ?_
  refine AllReadyH.cons (o := { dst := none, op := Go.Op.store 91 (Go.Operand.tmp 4) (Go.Operand.tmp 21), type := 0, pos := "chart.go:106", after := #[{ on := 16, ground := Go.Ground.data }, { on := 15, ground := Go.Ground.chain }, { on := 0, ground := Go.Ground.phase }, { on := 1, ground := Go.Ground.phase }, { on := 2, ground := Go.Ground.phase }, { on := 3, ground := Go.Ground.phase }, { on := 4, ground := Go.Ground.phase }, { on := 5, ground := Go.Ground.phase }, { on := 6, ground := Go.Ground.phase }, { on := 7, ground := Go.Ground.phase }, { on := 8, ground := Go.Ground.phase }, { on := 9, ground := Go.Ground.phase }, { on := 10, ground := Go.Ground.phase }, { on := 11, ground := Go.Ground.phase }, { on := 12, ground := Go.Ground.phase }, { on := 13, ground := Go.Ground.phase }, { on := 14, ground := Go.Ground.phase }, { on := 15, ground := Go.Ground.phase }, { on := 16, ground := Go.Ground.phase }], guard := none }) rfl (fun K2 hK => ?_) AllReadyH.nil
  go_simp
  obtain ⟨X2, hX2⟩ : ∃ X2, (X1.setCell ⟨Z + 1, 0, none⟩ (.int .i64 R.1)).setCell ⟨Z + 1, 1, none⟩ (.int .i64 R.2) = X2 := ⟨_, rfl⟩
  have hrow2 := Hrow2.out
  have hkf := HKf.out
  rw [hX2] at hrow2 hkf ⊢
  have HS2 := Lib.hid (HS1.out.trans (hkf.below (by have := HS1.out.size; omega) (fun k hk e => by have e : k = Z + 1 := e; omega)))
  have Hr2 := Lib.hid hrow2
  clear hX2 hrow2 hkf Hrow2 HKf
  refine hK.out _ _ HS2.out (fun _ => ?_)
  clear hK K2 z0 z1 f0 f1
  try simp only [Act.put, List.setIfInBounds_toArray, List.set_cons_zero, List.set_cons_succ]
  refine wpAnyH_done (by kernel_rfl) ?_ _
  go_wp2_with fail
  refine bodyPost_ret (v := knV R) (res_known Try.results84 (by rfl) Hr2.out) rfl ?_
  exact ⟨by rw [HR.out], HbV.out.trans (HS2.out.mono hZw)⟩
end Go.Proofs.Ythdjbapidodlfaa
