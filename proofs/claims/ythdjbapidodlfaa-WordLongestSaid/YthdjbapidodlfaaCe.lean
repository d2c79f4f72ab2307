/- Stage 4: the matches that all longest passages have, in the program. -/
import Derived.Test.YthdjbapidodlfaaSh
namespace Go.Proofs.Ythdjbapidodlfaa
set_option linter.unusedSimpArgs false
set_option linter.unusedVariables false
open Go.RowKit Go.Shelf
attribute [local go_sem ↓] exec_app at_app
attribute [local go_sem] Oper.semAt_some

/-- One place more. -/
theorem app_plc {W : World} {v : Value} {n : Nat} {xs : List (List Int)} (h : W.ownsRow 0 79 4 v n (flatP xs)) (x : List Int) (hn : n ≤ 100000) :
    ∃ C c W', runA Try.prog 76 v (.slice (some ⟨W.heap.size, 0, none⟩) 1 1) (W.alloc (.cells #[.int .i64 (iAt x 0), .int .i64 (iAt x 1), .int .i64 (iAt x 2), .int .i64 (iAt x 3)] 79)) = .ok (.value (.slice C (n + 1) c)) W' ∧ W'.ownsRow 0 79 4 (.slice C (n + 1) c) (n + 1) (flatP (xs ++ [x])) ∧ Keeps (fun k => v.ownBlock = some k) W W' ∧
      ∀ g, (Value.slice C (n + 1) c).ownBlock = some g → v.ownBlock = some g ∨ (W.heap.size ≤ g ∧ g < W'.heap.size) := by
  have hk := keep_alloc (fun _ => False) W (.cells #[.int .i64 (iAt x 0), .int .i64 (iAt x 1), .int .i64 (iAt x 2), .int .i64 (iAt x 3)] 79)
  obtain ⟨v', W', a1, a2, a3, a4⟩ := app_one (n := n) Try.underlying76 info79_ rfl (by omega) (by omega) (own_keep h hk (fun _ _ e => e)) (vals := p4 x) rfl (heap_alloc_new_ W (.cells #[.int .i64 (iAt x 0), .int .i64 (iAt x 1), .int .i64 (iAt x 2), .int .i64 (iAt x 3)] 79)) (by simp [Value.oneCell', p4]) (by omega)
  obtain ⟨C, c, rfl⟩ : ∃ C c, v' = .slice C (n + 1) c := by
    rcases a2.2 with ⟨e, e2⟩ | ⟨g, cp, cur, e, _⟩
    · omega
    · exact ⟨_, _, e⟩
  rw [← flatP_snoc] at a2
  refine ⟨C, c, W', run_app a1, a2, hk.none.trans a3, fun g e => ?_⟩
  have hs := hk.size
  have hlt := own_lt a2 g e
  rcases a4 with e' | ⟨e', _⟩
  · rw [e'] at e; exact .inl e
  · rw [e'] at e; have := Option.some.inj e; exact .inr ⟨by omega, hlt⟩
/-- The matches that all longest passages have. -/
def crtS (nm : List Int) (L : List (List Int)) (m : Nat) (l : List (List Int)) : List (List Int) := l.filter (fun x => decide (shS nm L m x = (allK (mtS nm L) m).2))
set_option maxRecDepth 100000 in
set_option maxHeartbeats 16000000 in
theorem certain68 (B D : Nat) (A : Option Addr) (n cap : Nat) (nm : List Int) (M : Nat) (A2 : Option Addr) (m cap2 : Nat) (L : List (List Int)) (Vp Cf Cb Bt Me Me2 : Nat) (Ms Ms2 : Nat → Nat) (nn nn2 : Nat) (w : World) (hBo : Bo w B D A n cap nm M A2 m cap2 L) (hL : LV L m) (hV : Vw w Vp Cf Cb B Bt Me Me2 Ms Ms2 nn nn2 nm L m) :
    Calls Try.prog 68 #[.pointer (some ⟨Vp, 0, none⟩)] w fun e w' => ∃ C N c, e = .returned (.slice C N c) ∧ N ≤ c ∧ Pls w' C N (crtS nm L m (mtS nm L)) ∧ Below w.heap.size w w' := by
  have HB := Lib.hid hBo
  have HL := Lib.hid hL
  have HV := Lib.hid hV
  have k1 : Keeps (fun _ => False) w ((w.alloc (.cells #[.pointer (some ⟨Vp, 0, none⟩)] 98)).alloc (.cells #[.slice none 0 0] 76)) := (keep_alloc _ _ _).trans (keep_alloc _ _ _)
  have e1 : ((w.alloc (.cells #[.pointer (some ⟨Vp, 0, none⟩)] 98)).alloc (.cells #[.slice none 0 0] 76)).heap[w.heap.size]? = some (.cells #[.pointer (some ⟨Vp, 0, none⟩)] 98 (0, 0)) := hal_old (heap_alloc_new_ _ _)
  have e3 : ((w.alloc (.cells #[.pointer (some ⟨Vp, 0, none⟩)] 98)).alloc (.cells #[.slice none 0 0] 76)).heap[w.heap.size + 1]? = some (.cells #[.slice none 0 0] 76 (0, 0)) := hal_new (by simp)
  have g0 : ((w.alloc (.cells #[.pointer (some ⟨Vp, 0, none⟩)] 98)).alloc (.cells #[.slice none 0 0] 76)).cell? ⟨w.heap.size, 0, none⟩ = some (.pointer (some ⟨Vp, 0, none⟩)) := by rw [cell_row e1]; rfl
  have hv := hV.below k1.new (Nat.le_refl _)
  have v0 := hv.c0
  have b0 := Cht.c0 hv.fwd
  have K1 := Lib.hid k1.new
  have E1 := Lib.hid e1
  have E3 := Lib.hid e3
  clear hBo hL hV k1 e1 e3 hv
  refine (callsIn_wide (n := 5)).1 ?_
  refine callsIn_of_wp_marks Try.func68 rfl trivial ?_ rfl
  simp only [Try.ntmps68, List.size_toArray, List.length_cons, List.length_nil, Nat.reduceAdd, Nat.reduceSub, Array.replicate_succ, Array.replicate_zero, List.push_toArray, List.append_toArray, List.nil_append, List.cons_append]
  gi_wp2_with fail
  obtain ⟨V9, hV9⟩ : ∃ V9, (w.alloc (.cells #[.pointer (some ⟨Vp, 0, none⟩)] 98)).alloc (.cells #[.slice none 0 0] 76) = V9 := ⟨_, rfl⟩
  obtain ⟨T1, hT1⟩ : ∃ T1, w.heap.size = T1 := ⟨_, rfl⟩
  have k1 := K1.out
  have e1 := E1.out
  have e3 := E3.out
  rw [hV9] at k1 e1 e3 ⊢
  rw [hT1] at e1 e3 ⊢
  have HT1 := Lib.hid hT1
  replace K1 := Lib.hid k1
  replace E1 := Lib.hid e1
  replace E3 := Lib.hid e3
  clear hV9 hT1 k1 e1 e3 g0 v0 b0
  obtain ⟨mt, hmt⟩ : ∃ mt, mtS nm L = mt := ⟨_, rfl⟩
  have HMt := Lib.hid hmt
  clear hmt
  refine ⟨trivial, (callsIn_wide.2 (matches55 B V9)).mono ?_⟩
  rintro en w3 ⟨P1, rfl, cP, hP1, hP2, hb3⟩
  have hseq := matches74 HL.out w w3 HB.out (K1.out.trans (hb3.mono K1.out.size)) P1 cP
  rw [HMt.out] at hseq
  have Hseq := Lib.hid hseq
  have HV3 := Lib.hid ((HV.out.below K1.out (Nat.le_refl _)).below hb3 (Nat.le_refl _))
  have HB3 := Lib.hid ((HB.out.below K1.out (Nat.le_refl _)).below hb3 (Nat.le_refl _))
  have ET := Lib.hid ((hb3.block _ (lt_of_block E3.out)).trans E3.out)
  have EV := Lib.hid ((hb3.block _ (lt_of_block E1.out)).trans E1.out)
  have HBw := Lib.hid (K1.out.trans (hb3.mono K1.out.size))
  have HP1 := Lib.hid (show V9.heap.size ≤ P1 ∧ P1 < w3.heap.size ∧ V9.heap.size ≤ w3.heap.size ∧ T1 + 1 < V9.heap.size from ⟨hP1, hP2, hb3.size, lt_of_block E3.out⟩)
  clear hseq cP hP1 hP2 hb3 K1 E1 E3
  gi_wp2_with fail
  have hTl : T1 + 1 < w3.heap.size := lt_of_block ET.out
  refine wpIn_rangeO (gf := 74) (lb := #[.pointer (some ⟨P1, 0, none⟩)]) rfl (enters_of Try.func74 (by kernel_rfl) rfl) Hseq.out (fun k h => by have := HP1.out; have := HT1.out; rcases h with h | h <;> omega) (fun _ => rfl) (fun k => k = T1 + 1) (fun k hk => by
      have := HP1.out
      have := HT1.out
      exact ⟨by omega, by rintro (e | e) <;> omega⟩)
    (fun pre O W => CoI (T1 + 1) w3 (crtS nm L m pre) O W) (fun _ _ _ _ => False) (fun pre => CoI.abides hTl _) (fun _ _ _ _ _ h _ => h.elim) ⟨⟨_, ET.out, ⟨rfl, .inl ⟨rfl, rfl⟩⟩, fun g e => by cases e⟩, Keeps.refl _ _⟩ ?round ?done ?stop
  case stop => intro D c pre x post W O _ _ _ _ _ h _; exact h.elim
  case round =>
    intro l pre x post W O hxs hl1 hl2 hr hO hI mm
    have Hby := Lib.hid (heap_alloc_new_ W (.cells #[.int .i64 (iAt x 0), .int .i64 (iAt x 1), .int .i64 (iAt x 2), .int .i64 (iAt x 3)] 79))
    have Hxs := Lib.hid hxs
    have HO := Lib.hid hO
    unfold plA
    clear hxs hr hI hO hTl
    gi_wp2_with fail
    refine ⟨keep_alloc _ _ _, ?_⟩
    intro W2 hB2 hI2
    have FT := (hB2.keeps.block _ (by simp) (by omega)).trans Hby.out
    obtain ⟨U, hU⟩ : ∃ U, W.heap.size = U := ⟨_, rfl⟩
    have hOU : ¬ O U := fun e => by have := HO.out _ e; omega
    rw [hU] at FT ⊢
    have HU := Lib.hid (show w3.heap.size ≤ U ∧ ¬ O U from ⟨by omega, hOU⟩)
    obtain ⟨⟨v, hv, ho, hob⟩, hk2⟩ := hI2
    have HRv := Lib.hid hv
    have HOw := Lib.hid ho
    have HOb := Lib.hid hob
    have HK2 := Lib.hid hk2
    have HFT := Lib.hid FT
    have HmO := Lib.hid (show ∀ k, O k → w3.heap.size ≤ k from fun k e => by have := HO.out k e; omega)
    have hkT : Keeps (fun k => w.heap.size ≤ k) w W2 := ((Keeps.of_new HBw.out).trans (hk2.mono (fun k hk e => by have := HBw.out.size; have := HT1.out; omega)))
    have hbw2 : Below w.heap.size w W2 := hkT.below (Nat.le_refl _) (fun k hk e => by omega)
    have hBo2 := HB.out.below hbw2 (Nat.le_refl _)
    have hV2 := HV.out.below hbw2 (Nat.le_refl _)
    have h9 := (hk2.block _ (lt_of_block EV.out) (by have := lt_of_block EV.out; show ¬ (_ ∨ _); omega)).trans EV.out
    have t1 : W2.cell? ⟨T1, 0, none⟩ = some (.pointer (some ⟨Vp, 0, none⟩)) := by rw [cell_row h9]; rfl
    have v0 := hV2.c0
    obtain ⟨b6, b7⟩ := Cht.c6 hV2.fwd
    have x0 : W2.cell? ⟨U, 0, none⟩ = some (.int .i64 (iAt x 0)) := by rw [cell_row FT]; rfl
    have x1 : W2.cell? ⟨U, 1, none⟩ = some (.int .i64 (iAt x 1)) := by rw [cell_row FT]; rfl
    have x2 : W2.cell? ⟨U, 2, none⟩ = some (.int .i64 (iAt x 2)) := by rw [cell_row FT]; rfl
    have x3 : W2.cell? ⟨U, 3, none⟩ = some (.int .i64 (iAt x 3)) := by rw [cell_row FT]; rfl
    have HB2 := Lib.hid hBo2
    have HV2 := Lib.hid hV2
    have hxm : x ∈ mtS nm L := by rw [HMt.out, Hxs.out]; simp
    have HXm := Lib.hid hxm
    have Hpl := Lib.hid (show (crtS nm L m pre).length ≤ 4096 by
      have h := (mtS_len (nm := nm) HL.out).1
      have h2 : (crtS nm L m pre).length ≤ pre.length := List.length_filter_le _ _
      rw [HMt.out, Hxs.out] at h
      simp at h; omega)
    have Hcs := Lib.hid (show crtS nm L m (pre ++ [x]) = crtS nm L m pre ++ (if shS nm L m x = (allK (mtS nm L) m).2 then [x] else []) by
      unfold crtS
      rw [List.filter_append, List.filter_cons, List.filter_nil]
      by_cases h : shS nm L m x = (allK (mtS nm L) m).2
      · rw [if_pos h, if_pos (by simpa using h)]
      · rw [if_neg h, if_neg (by simpa using h)])
    obtain ⟨sh, hsh⟩ : ∃ sh, shS nm L m x = sh := ⟨_, rfl⟩
    obtain ⟨al, hal⟩ : ∃ al, (allK (mtS nm L) m).2 = al := ⟨_, rfl⟩
    rw [hsh, hal] at Hcs
    rw [hal] at b7
    have Hsh := Lib.hid hsh
    have HvO := Lib.hid (lt_of_block hv)
    have hS0 : Below W2.heap.size W2 W2.drew := drew_b _ 1
    clear hU hB2 hk2 hv ho hob FT Hby hOU hkT hbw2 hBo2 hV2 h9 hxm hsh hal b6
    gi_wp2_with fail
    by_cases hc : sh = al
    · skip
      refine region_R (z := 100) (S := fun V9 => Below W2.heap.size W2 V9) (by kernel_rfl) ?_
      refine anyR_take (i := 0) (oi := { dst := some 14, op := Go.Op.load 98 (Go.Operand.tmp 1), type := 98, pos := "chart.go:138", after := #[], guard := none }) (v := .pointer (some ⟨Vp, 0, none⟩)) rfl (by decide) (by kernel_rfl) (by kernel_rfl) (by kernel_rfl) (by kernel_rfl) (fun _ _ _ h => h) (Or.inl ⟨by rfl, by intro V9 hSw; (try dsimp only at hSw); have q_t1 := (hSw.cell (lt_of_cell t1)).trans t1; go_simp⟩) hS0 ?_
      try simp only [Act.put, List.setIfInBounds_toArray, List.set_cons_zero, List.set_cons_succ]
      refine anyR_take (i := 1) (oi := { dst := some 15, op := Go.Op.load 79 (Go.Operand.tmp 4), type := 79, pos := "chart.go:138", after := #[], guard := none }) (v := .agg #[.int .i64 (iAt x 0), .int .i64 (iAt x 1), .int .i64 (iAt x 2), .int .i64 (iAt x 3)]) rfl (by decide) (by kernel_rfl) (by kernel_rfl) (by kernel_rfl) (by kernel_rfl) (fun _ _ _ h => h) (Or.inl ⟨by rfl, by intro V9 hSw; (try dsimp only at hSw); have q_x0 := (hSw.cell (lt_of_cell x0)).trans x0; have q_x1 := (hSw.cell (lt_of_cell x1)).trans x1; have q_x2 := (hSw.cell (lt_of_cell x2)).trans x2; have q_x3 := (hSw.cell (lt_of_cell x3)).trans x3; go_simp⟩) hS0 ?_
      try simp only [Act.put, List.setIfInBounds_toArray, List.set_cons_zero, List.set_cons_succ]
      refine anyR_take (i := 3) (oi := { dst := some 17, op := Go.Op.load 98 (Go.Operand.tmp 1), type := 98, pos := "chart.go:138", after := #[], guard := none }) (v := .pointer (some ⟨Vp, 0, none⟩)) rfl (by decide) (by kernel_rfl) (by kernel_rfl) (by kernel_rfl) (by kernel_rfl) (fun _ _ _ h => h) (Or.inl ⟨by rfl, by intro V9 hSw; (try dsimp only at hSw); have q_t1 := (hSw.cell (lt_of_cell t1)).trans t1; go_simp⟩) hS0 ?_
      try simp only [Act.put, List.setIfInBounds_toArray, List.set_cons_zero, List.set_cons_succ]
      refine anyR_take (i := 4) (oi := { dst := some 18, op := Go.Op.nilCheck (Go.Operand.tmp 17), type := 0, pos := "chart.go:138", after := #[{ on := 3, ground := Go.Ground.data }], guard := none }) (v := .pointer (some ⟨Vp, 0, none⟩)) rfl (by decide) (by kernel_rfl) (by kernel_rfl) (by kernel_rfl) (by kernel_rfl) (fun _ _ _ h => h) (Or.inl ⟨by rfl, by intro V9 hSw; (try dsimp only at hSw); go_simp⟩) hS0 ?_
      try simp only [Act.put, List.setIfInBounds_toArray, List.set_cons_zero, List.set_cons_succ]
      refine anyR_take (i := 5) (oi := { dst := some 19, op := Go.Op.fieldAddr 124 (Go.Operand.tmp 18) 0, type := 0, pos := "chart.go:138", after := #[{ on := 4, ground := Go.Ground.data }], guard := none }) (v := .pointer (some ⟨Vp, 0, none⟩)) rfl (by decide) (by kernel_rfl) (by kernel_rfl) (by kernel_rfl) (by kernel_rfl) (fun _ _ _ h => h) (Or.inl ⟨by rfl, by intro V9 hSw; (try dsimp only at hSw); go_simp⟩) hS0 ?_
      try simp only [Act.put, List.setIfInBounds_toArray, List.set_cons_zero, List.set_cons_succ]
      refine anyR_take (i := 6) (oi := { dst := some 20, op := Go.Op.load 86 (Go.Operand.tmp 19), type := 86, pos := "chart.go:138", after := #[{ on := 5, ground := Go.Ground.data }], guard := none }) (v := .pointer (some ⟨Cf, 0, none⟩)) rfl (by decide) (by kernel_rfl) (by kernel_rfl) (by kernel_rfl) (by kernel_rfl) (fun _ _ _ h => h) (Or.inl ⟨by rfl, by intro V9 hSw; (try dsimp only at hSw); have q_v0 := (hSw.cell (lt_of_cell v0)).trans v0; go_simp⟩) hS0 ?_
      try simp only [Act.put, List.setIfInBounds_toArray, List.set_cons_zero, List.set_cons_succ]
      refine anyR_take (i := 7) (oi := { dst := some 21, op := Go.Op.nilCheck (Go.Operand.tmp 20), type := 0, pos := "chart.go:138", after := #[{ on := 6, ground := Go.Ground.data }], guard := none }) (v := .pointer (some ⟨Cf, 0, none⟩)) rfl (by decide) (by kernel_rfl) (by kernel_rfl) (by kernel_rfl) (by kernel_rfl) (fun _ _ _ h => h) (Or.inl ⟨by rfl, by intro V9 hSw; (try dsimp only at hSw); go_simp⟩) hS0 ?_
      try simp only [Act.put, List.setIfInBounds_toArray, List.set_cons_zero, List.set_cons_succ]
      refine anyR_take (i := 8) (oi := { dst := some 22, op := Go.Op.fieldAddr 93 (Go.Operand.tmp 21) 3, type := 0, pos := "chart.go:138", after := #[{ on := 7, ground := Go.Ground.data }], guard := none }) (v := .pointer (some ⟨Cf, 6, none⟩)) rfl (by decide) (by kernel_rfl) (by kernel_rfl) (by kernel_rfl) (by kernel_rfl) (fun _ _ _ h => h) (Or.inl ⟨by rfl, by intro V9 hSw; (try dsimp only at hSw); go_simp⟩) hS0 ?_
      try simp only [Act.put, List.setIfInBounds_toArray, List.set_cons_zero, List.set_cons_succ]
      refine anyR_take (i := 9) (oi := { dst := some 23, op := Go.Op.fieldAddr 91 (Go.Operand.tmp 22) 1, type := 0, pos := "chart.go:138", after := #[{ on := 8, ground := Go.Ground.data }], guard := none }) (v := .pointer (some ⟨Cf, 7, none⟩)) rfl (by decide) (by kernel_rfl) (by kernel_rfl) (by kernel_rfl) (by kernel_rfl) (fun _ _ _ h => h) (Or.inl ⟨by rfl, by intro V9 hSw; (try dsimp only at hSw); go_simp⟩) hS0 ?_
      try simp only [Act.put, List.setIfInBounds_toArray, List.set_cons_zero, List.set_cons_succ]
      refine anyR_take (i := 10) (oi := { dst := some 24, op := Go.Op.load 2 (Go.Operand.tmp 23), type := 2, pos := "chart.go:138", after := #[{ on := 9, ground := Go.Ground.data }], guard := none }) (v := .int .i64 al) rfl (by decide) (by kernel_rfl) (by kernel_rfl) (by kernel_rfl) (by kernel_rfl) (fun _ _ _ h => h) (Or.inl ⟨by rfl, by intro V9 hSw; (try dsimp only at hSw); have q_b7 := (hSw.cell (lt_of_cell b7)).trans b7; go_simp⟩) hS0 ?_
      try simp only [Act.put, List.setIfInBounds_toArray, List.set_cons_zero, List.set_cons_succ]
      obtain ⟨X0, hX0⟩ : ∃ X0, W2.drew = X0 := ⟨_, rfl⟩
      rw [hX0] at hS0 ⊢
      have HS0 := Lib.hid hS0
      clear hX0 hS0 t1 v0 b7
      refine anyR_one (i := 2) (o := { dst := some 16, op := Go.Op.call { callee := Go.Callee.value (Go.Operand.func 86), args := #[Go.Operand.tmp 14, Go.Operand.tmp 15], argTypes := #[98, 79] }, type := 2, pos := "chart.go:138", after := #[{ on := 0, ground := Go.Ground.data }, { on := 1, ground := Go.Ground.data }], guard := none }) (by kernel_rfl) rfl (by rfl) ?_
      intro K hK
      have HKK := Lib.hid hK
      clear hK
      have key := shares86 B D A n cap nm M A2 m cap2 L Vp Cf Cb Bt Me Me2 Ms Ms2 nn nn2 x X0 (HB2.out.below HS0.out (Nat.le_refl _)) HL.out (HV2.out.below HS0.out (Nat.le_refl _)) HXm.out
      rw [Hsh.out] at key
      unfold plA at key
      have Key := Lib.hid key
      clear key
      go_simp
      refine ⟨trivial, wide_d, CallsIn.inRound l ((callsIn_wide.2 Key.out).mono ?_)⟩
      rintro en X1 ⟨rfl, hb1⟩
      have HS1 := Lib.hid (HS0.out.trans (hb1.mono HS0.out.size))
      refine HKK.out _ _ (fun _ _ => HS1.out) ?_
      clear HKK K hb1 Key
      try simp only [Act.put, List.setIfInBounds_toArray, List.set_cons_zero, List.set_cons_succ]
      refine anyR_take (i := 11) (oi := { dst := some 25, op := Go.Op.binOp Go.BinOp.eql 2 (Go.Operand.tmp 16) (Go.Operand.tmp 24) 2, type := 4, pos := "chart.go:138", after := #[{ on := 2, ground := Go.Ground.data }, { on := 10, ground := Go.Ground.data }], guard := none }) (v := .bool true) rfl (by decide) (by kernel_rfl) (by kernel_rfl) (by kernel_rfl) (by kernel_rfl) (fun _ _ _ h => h) (Or.inl ⟨by rfl, by intro V9 hSw; (try dsimp only at hSw); go_simp⟩) HS1.out ?_
      try simp only [Act.put, List.setIfInBounds_toArray, List.set_cons_zero, List.set_cons_succ]
      refine anyR_done (by kernel_rfl) ?_ _
      replace x0 := (HS1.out.cell (lt_of_cell x0)).trans x0
      replace x1 := (HS1.out.cell (lt_of_cell x1)).trans x1
      replace x2 := (HS1.out.cell (lt_of_cell x2)).trans x2
      replace x3 := (HS1.out.cell (lt_of_cell x3)).trans x3
      have hcs := Hcs.out
      rw [if_pos hc] at hcs
      have Hc2 := Lib.hid hcs
      have hrv := (HS1.out.block _ HvO.out).trans HRv.out
      have g0 : X1.cell? ⟨T1 + 1, 0, none⟩ = some v := by rw [cell_row hrv]; rfl
      obtain ⟨ys, hys⟩ : ∃ ys, crtS nm L m pre = ys := ⟨_, rfl⟩
      have how := own_keep HOw.out (Keeps.of_new HS1.out (Mut := fun _ => False)) (fun _ _ e => e)
      rw [hys] at how
      obtain ⟨pl, hpl⟩ : ∃ pl, ys.length = pl := ⟨_, rfl⟩
      rw [hpl] at how
      have hpl5 : pl ≤ 100000 := by rw [← hpl, ← hys]; have := Hpl.out; omega
      obtain ⟨C4, cp4, W3, hrun, hown3, hK3, hob3⟩ := app_plc how x hpl5
      have hneT : ¬ (v.ownBlock = some (T1 + 1)) := fun e => by have := HmO.out _ (HOb.out _ e); have := lt_of_block ET.out; omega
      have hT3 := (hK3.block (T1 + 1) (lt_of_block hrv) hneT).trans hrv
      have c3 : W3.cell? ⟨T1 + 1, 0, none⟩ = some v := by rw [cell_row hT3]; rfl
      have f3 : W3.frozen? ⟨T1 + 1, 0, none⟩ = false := frozen_row hT3
      have HTs := Lib.hid (set_same 0 (.slice C4 (pl + 1) cp4) hT3)
      have HKs := Lib.hid (keeps_setCell W3 (T1 + 1) 0 (.slice C4 (pl + 1) cp4))
      have HK3 := Lib.hid hK3
      have Ho3 := Lib.hid hown3
      have Hob3 := Lib.hid hob3
      have Hys := Lib.hid hys
      have Hpl2 := Lib.hid hpl
      clear hcs hrv how hys hpl hpl5 hown3 hK3 hob3 hneT hT3 Hcs
      gi_wp2_with fail
      try rw [hrun]
      try gi_wp2_with fail
      have hts := HTs.out
      have hks := HKs.out
      obtain ⟨XF, hXF⟩ : ∃ XF, W3.setCell ⟨T1 + 1, 0, none⟩ (.slice C4 (pl + 1) cp4) = XF := ⟨_, rfl⟩
      rw [hXF] at hts hks ⊢
      clear hXF
      have hsz0 := HS1.out.size
      have hszk := hks.size
      have hk1 : Keeps (fun k => k = T1 + 1 ∨ O k) W2 XF := ((Keeps.of_new HS1.out).trans (HK3.out.mono (fun k _ e => .inr (HOb.out k e)))).trans (hks.mono (fun k _ e => .inl e))
      refine ⟨fun k => O k ∨ (W2.heap.size ≤ k ∧ k < XF.heap.size), ⟨fun _ e => .inl e, fun _ e => e⟩, hk1, ⟨⟨.slice C4 (pl + 1) cp4, hts, ?_, fun g e => (Hob3.out g e).imp (HOb.out g) (fun e => ⟨by have := e.1; omega, by have := e.2; omega⟩)⟩, HK2.out.trans (hk1.mono (fun k _ e => by
        rcases e with e | e
        · exact .inr e
        · exact .inl (HmO.out k e)))⟩⟩
      have h4 := own_keep Ho3.out hks (fun g e e2 => by
        have hgT : g = T1 + 1 := e2
        subst hgT
        rcases Hob3.out _ e with h | h
        · have := HmO.out _ (HOb.out _ h); have := lt_of_block ET.out; omega
        · have := HvO.out; have := h.1; omega)
      rw [Hc2.out, Hys.out, List.length_append, Hpl2.out]
      exact h4
    · skip
      refine region_R (z := 100) (S := fun V9 => Below W2.heap.size W2 V9) (by kernel_rfl) ?_
      refine anyR_take (i := 0) (oi := { dst := some 14, op := Go.Op.load 98 (Go.Operand.tmp 1), type := 98, pos := "chart.go:138", after := #[], guard := none }) (v := .pointer (some ⟨Vp, 0, none⟩)) rfl (by decide) (by kernel_rfl) (by kernel_rfl) (by kernel_rfl) (by kernel_rfl) (fun _ _ _ h => h) (Or.inl ⟨by rfl, by intro V9 hSw; (try dsimp only at hSw); have q_t1 := (hSw.cell (lt_of_cell t1)).trans t1; go_simp⟩) hS0 ?_
      try simp only [Act.put, List.setIfInBounds_toArray, List.set_cons_zero, List.set_cons_succ]
      refine anyR_take (i := 1) (oi := { dst := some 15, op := Go.Op.load 79 (Go.Operand.tmp 4), type := 79, pos := "chart.go:138", after := #[], guard := none }) (v := .agg #[.int .i64 (iAt x 0), .int .i64 (iAt x 1), .int .i64 (iAt x 2), .int .i64 (iAt x 3)]) rfl (by decide) (by kernel_rfl) (by kernel_rfl) (by kernel_rfl) (by kernel_rfl) (fun _ _ _ h => h) (Or.inl ⟨by rfl, by intro V9 hSw; (try dsimp only at hSw); have q_x0 := (hSw.cell (lt_of_cell x0)).trans x0; have q_x1 := (hSw.cell (lt_of_cell x1)).trans x1; have q_x2 := (hSw.cell (lt_of_cell x2)).trans x2; have q_x3 := (hSw.cell (lt_of_cell x3)).trans x3; go_simp⟩) hS0 ?_
      try simp only [Act.put, List.setIfInBounds_toArray, List.set_cons_zero, List.set_cons_succ]
      refine anyR_take (i := 3) (oi := { dst := some 17, op := Go.Op.load 98 (Go.Operand.tmp 1), type := 98, pos := "chart.go:138", after := #[], guard := none }) (v := .pointer (some ⟨Vp, 0, none⟩)) rfl (by decide) (by kernel_rfl) (by kernel_rfl) (by kernel_rfl) (by kernel_rfl) (fun _ _ _ h => h) (Or.inl ⟨by rfl, by intro V9 hSw; (try dsimp only at hSw); have q_t1 := (hSw.cell (lt_of_cell t1)).trans t1; go_simp⟩) hS0 ?_
      try simp only [Act.put, List.setIfInBounds_toArray, List.set_cons_zero, List.set_cons_succ]
      refine anyR_take (i := 4) (oi := { dst := some 18, op := Go.Op.nilCheck (Go.Operand.tmp 17), type := 0, pos := "chart.go:138", after := #[{ on := 3, ground := Go.Ground.data }], guard := none }) (v := .pointer (some ⟨Vp, 0, none⟩)) rfl (by decide) (by kernel_rfl) (by kernel_rfl) (by kernel_rfl) (by kernel_rfl) (fun _ _ _ h => h) (Or.inl ⟨by rfl, by intro V9 hSw; (try dsimp only at hSw); go_simp⟩) hS0 ?_
      try simp only [Act.put, List.setIfInBounds_toArray, List.set_cons_zero, List.set_cons_succ]
      refine anyR_take (i := 5) (oi := { dst := some 19, op := Go.Op.fieldAddr 124 (Go.Operand.tmp 18) 0, type := 0, pos := "chart.go:138", after := #[{ on := 4, ground := Go.Ground.data }], guard := none }) (v := .pointer (some ⟨Vp, 0, none⟩)) rfl (by decide) (by kernel_rfl) (by kernel_rfl) (by kernel_rfl) (by kernel_rfl) (fun _ _ _ h => h) (Or.inl ⟨by rfl, by intro V9 hSw; (try dsimp only at hSw); go_simp⟩) hS0 ?_
      try simp only [Act.put, List.setIfInBounds_toArray, List.set_cons_zero, List.set_cons_succ]
      refine anyR_take (i := 6) (oi := { dst := some 20, op := Go.Op.load 86 (Go.Operand.tmp 19), type := 86, pos := "chart.go:138", after := #[{ on := 5, ground := Go.Ground.data }], guard := none }) (v := .pointer (some ⟨Cf, 0, none⟩)) rfl (by decide) (by kernel_rfl) (by kernel_rfl) (by kernel_rfl) (by kernel_rfl) (fun _ _ _ h => h) (Or.inl ⟨by rfl, by intro V9 hSw; (try dsimp only at hSw); have q_v0 := (hSw.cell (lt_of_cell v0)).trans v0; go_simp⟩) hS0 ?_
      try simp only [Act.put, List.setIfInBounds_toArray, List.set_cons_zero, List.set_cons_succ]
      refine anyR_take (i := 7) (oi := { dst := some 21, op := Go.Op.nilCheck (Go.Operand.tmp 20), type := 0, pos := "chart.go:138", after := #[{ on := 6, ground := Go.Ground.data }], guard := none }) (v := .pointer (some ⟨Cf, 0, none⟩)) rfl (by decide) (by kernel_rfl) (by kernel_rfl) (by kernel_rfl) (by kernel_rfl) (fun _ _ _ h => h) (Or.inl ⟨by rfl, by intro V9 hSw; (try dsimp only at hSw); go_simp⟩) hS0 ?_
      try simp only [Act.put, List.setIfInBounds_toArray, List.set_cons_zero, List.set_cons_succ]
      refine anyR_take (i := 8) (oi := { dst := some 22, op := Go.Op.fieldAddr 93 (Go.Operand.tmp 21) 3, type := 0, pos := "chart.go:138", after := #[{ on := 7, ground := Go.Ground.data }], guard := none }) (v := .pointer (some ⟨Cf, 6, none⟩)) rfl (by decide) (by kernel_rfl) (by kernel_rfl) (by kernel_rfl) (by kernel_rfl) (fun _ _ _ h => h) (Or.inl ⟨by rfl, by intro V9 hSw; (try dsimp only at hSw); go_simp⟩) hS0 ?_
      try simp only [Act.put, List.setIfInBounds_toArray, List.set_cons_zero, List.set_cons_succ]
      refine anyR_take (i := 9) (oi := { dst := some 23, op := Go.Op.fieldAddr 91 (Go.Operand.tmp 22) 1, type := 0, pos := "chart.go:138", after := #[{ on := 8, ground := Go.Ground.data }], guard := none }) (v := .pointer (some ⟨Cf, 7, none⟩)) rfl (by decide) (by kernel_rfl) (by kernel_rfl) (by kernel_rfl) (by kernel_rfl) (fun _ _ _ h => h) (Or.inl ⟨by rfl, by intro V9 hSw; (try dsimp only at hSw); go_simp⟩) hS0 ?_
      try simp only [Act.put, List.setIfInBounds_toArray, List.set_cons_zero, List.set_cons_succ]
      refine anyR_take (i := 10) (oi := { dst := some 24, op := Go.Op.load 2 (Go.Operand.tmp 23), type := 2, pos := "chart.go:138", after := #[{ on := 9, ground := Go.Ground.data }], guard := none }) (v := .int .i64 al) rfl (by decide) (by kernel_rfl) (by kernel_rfl) (by kernel_rfl) (by kernel_rfl) (fun _ _ _ h => h) (Or.inl ⟨by rfl, by intro V9 hSw; (try dsimp only at hSw); have q_b7 := (hSw.cell (lt_of_cell b7)).trans b7; go_simp⟩) hS0 ?_
      try simp only [Act.put, List.setIfInBounds_toArray, List.set_cons_zero, List.set_cons_succ]
      obtain ⟨X0, hX0⟩ : ∃ X0, W2.drew = X0 := ⟨_, rfl⟩
      rw [hX0] at hS0 ⊢
      have HS0 := Lib.hid hS0
      clear hX0 hS0 t1 v0 b7
      refine anyR_one (i := 2) (o := { dst := some 16, op := Go.Op.call { callee := Go.Callee.value (Go.Operand.func 86), args := #[Go.Operand.tmp 14, Go.Operand.tmp 15], argTypes := #[98, 79] }, type := 2, pos := "chart.go:138", after := #[{ on := 0, ground := Go.Ground.data }, { on := 1, ground := Go.Ground.data }], guard := none }) (by kernel_rfl) rfl (by rfl) ?_
      intro K hK
      have HKK := Lib.hid hK
      clear hK
      have key := shares86 B D A n cap nm M A2 m cap2 L Vp Cf Cb Bt Me Me2 Ms Ms2 nn nn2 x X0 (HB2.out.below HS0.out (Nat.le_refl _)) HL.out (HV2.out.below HS0.out (Nat.le_refl _)) HXm.out
      rw [Hsh.out] at key
      unfold plA at key
      have Key := Lib.hid key
      clear key
      go_simp
      refine ⟨trivial, wide_d, CallsIn.inRound l ((callsIn_wide.2 Key.out).mono ?_)⟩
      rintro en X1 ⟨rfl, hb1⟩
      have HS1 := Lib.hid (HS0.out.trans (hb1.mono HS0.out.size))
      refine HKK.out _ _ (fun _ _ => HS1.out) ?_
      clear HKK K hb1 Key
      try simp only [Act.put, List.setIfInBounds_toArray, List.set_cons_zero, List.set_cons_succ]
      refine anyR_take (i := 11) (oi := { dst := some 25, op := Go.Op.binOp Go.BinOp.eql 2 (Go.Operand.tmp 16) (Go.Operand.tmp 24) 2, type := 4, pos := "chart.go:138", after := #[{ on := 2, ground := Go.Ground.data }, { on := 10, ground := Go.Ground.data }], guard := none }) (v := .bool false) rfl (by decide) (by kernel_rfl) (by kernel_rfl) (by kernel_rfl) (by kernel_rfl) (fun _ _ _ h => h) (Or.inl ⟨by rfl, by intro V9 hSw; (try dsimp only at hSw); go_simp⟩) HS1.out ?_
      try simp only [Act.put, List.setIfInBounds_toArray, List.set_cons_zero, List.set_cons_succ]
      refine anyR_done (by kernel_rfl) ?_ _
      replace x0 := (HS1.out.cell (lt_of_cell x0)).trans x0
      replace x1 := (HS1.out.cell (lt_of_cell x1)).trans x1
      replace x2 := (HS1.out.cell (lt_of_cell x2)).trans x2
      replace x3 := (HS1.out.cell (lt_of_cell x3)).trans x3
      have hcs := Hcs.out
      rw [if_neg hc, List.append_nil] at hcs
      have Hc2 := Lib.hid hcs
      clear hcs Hcs
      gi_wp2_with fail
      have hk1 : Keeps (fun _ => False) W2 X1 := Keeps.of_new HS1.out
      refine ⟨O, Grow.refl _ _ _, hk1.none, ?_⟩
      show CoI (T1 + 1) w3 (crtS nm L m (pre ++ [x])) O X1
      rw [Hc2.out]
      exact ⟨⟨v, (hk1.block _ HvO.out (fun e => e)).trans HRv.out, own_keep HOw.out hk1 (fun _ _ e => e), HOb.out⟩, HK2.out.trans hk1.none⟩
  case done =>
    intro D2 W9 O hD2 hDW hDO hO hI9 hKd
    obtain ⟨⟨v, hv, ho, hob⟩, hk9⟩ := hI9
    obtain ⟨ys, hys⟩ : ∃ ys, crtS nm L m mt = ys := ⟨_, rfl⟩
    rw [hys] at ho
    have Hys := Lib.hid hys
    obtain ⟨pl, hpl⟩ : ∃ pl, ys.length = pl := ⟨_, rfl⟩
    rw [hpl] at ho
    obtain ⟨C9, c9, rfl, hc9, hp9, hC9⟩ := pls_own hpl ho
    have g0 : W9.cell? ⟨T1 + 1, 0, none⟩ = some (.slice C9 pl c9) := by rw [cell_row hv]; rfl
    have HP9 := Lib.hid hp9
    have HOb9 := Lib.hid (show ∀ b o, C9 = some ⟨b, o, none⟩ → O b from fun b o e => hob b (hC9 b o e).1)
    have Hk9 := Lib.hid hk9
    have HKd := Lib.hid hKd
    have HDO := Lib.hid hDO
    have HD2 := Lib.hid hD2
    clear hv ho hob hk9 hys hpl hp9 hC9 hKd hDO hO hD2 hDW hTl
    gi_wp2_with fail
    refine ⟨by simp, .inl ⟨_, _, rfl, run_takeDeferred HKd.out, ?_⟩⟩
    have hput : Keeps (fun j => j = D2) W9 (W9.putObj D2 (.deferred none)) := Keeps.putObj _ _ _ rfl
    refine ⟨_, results_tmp rfl _ _ _, ?_⟩
    have hbw : Below w.heap.size w W9 := HBw.out.trans (Hk9.out.below HBw.out.size (fun k hk e => by have := HBw.out.size; have := HT1.out; rcases e with e | e <;> omega))
    refine ⟨C9, pl, c9, rfl, hc9, ?_, hbw.trans (hput.below hbw.size (fun k hk e => by have := HBw.out.size; have := HD2.out; omega))⟩
    rw [HMt.out, Hys.out]
    refine ⟨HP9.out.1, fun hn => ?_⟩
    obtain ⟨b, e, hcell⟩ := HP9.out.2 hn
    exact ⟨b, e, fun j hj t ht => (keep_cells hput (lt_of_cell (hcell j hj t ht)) (fun e2 => HDO.out (by have e2 : b = D2 := e2; rw [← e2]; exact HOb9.out b 0 e)) _).trans (hcell j hj t ht)⟩
end Go.Proofs.Ythdjbapidodlfaa
