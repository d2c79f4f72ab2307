/- Stage 4: the least levels, in the program. -/
import Derived.Test.YthdjbapidodlfaaCv
namespace Go.Proofs.Ythdjbapidodlfaa
set_option linter.unusedSimpArgs false
set_option linter.unusedVariables false
open Go.RowKit Go.Shelf
attribute [local go_sem ↓] exec_app at_app
attribute [local go_sem] Oper.semAt_some

/-- What the rounds of a list of numbers keep. -/
structure LvI (T : Nat) (V : World) (xs : List Int) (O : Nat → Prop) (W : World) : Prop where
  row : ∃ v, W.heap[T]? = some (.cells #[v] 38 (0, 0)) ∧ W.ownsRow 0 3 1 v xs.length (flatI xs) ∧ ∀ g, v.ownBlock = some g → O g
  keep : Keeps (fun k => V.heap.size ≤ k ∨ k = T) V W
theorem LvI.abides {T : Nat} {V : World} (hT : T < V.heap.size) (xs : List Int) : AbO V.heap.size (LvI T V xs) := by
  intro O W1 W2 h hK
  obtain ⟨⟨v, h1, h2, h3⟩, h4⟩ := h
  exact ⟨⟨v, (hK.block _ (lt_of_block h1) (by omega)).trans h1, own_keep h2 hK (fun k e => fun e2 => e2.2 (h3 k e)), h3⟩, h4.trans (hK.mono (fun k _ e => .inl e.1))⟩
def lvsS (mt : List (List Int)) (m : Nat) : List Int := mt.map (fun x => (eS mt m x).1)
/-- One number more. -/
theorem app_int {W : World} {v : Value} {n : Nat} {xs : List Int} (h : W.ownsRow 0 3 1 v n (flatI xs)) (x : Int) (hn : n ≤ 100000) :
    ∃ C c W', runA Try.prog 38 v (.slice (some ⟨W.heap.size, 0, none⟩) 1 1) (W.alloc (.cells #[.int .i64 x] 3)) = .ok (.value (.slice C (n + 1) c)) W' ∧ W'.ownsRow 0 3 1 (.slice C (n + 1) c) (n + 1) (flatI (xs ++ [x])) ∧ Keeps (fun k => v.ownBlock = some k) W W' ∧
      ∀ g, (Value.slice C (n + 1) c).ownBlock = some g → v.ownBlock = some g ∨ (W.heap.size ≤ g ∧ g < W'.heap.size) := by
  have hk := keep_alloc (fun _ => False) W (.cells #[.int .i64 x] 3)
  obtain ⟨v', W', a1, a2, a3, a4⟩ := app_one (n := n) Try.underlying38 info3_ rfl (by omega) (by omega) (own_keep h hk (fun _ _ e => e)) (vals := [.int .i64 x]) rfl (heap_alloc_new_ W (.cells #[.int .i64 x] 3)) (by simp [Value.oneCell']) (by omega)
  obtain ⟨C, c, rfl⟩ : ∃ C c, v' = .slice C (n + 1) c := by
    rcases a2.2 with ⟨e, e2⟩ | ⟨g, cp, cur, e, _⟩
    · omega
    · exact ⟨_, _, e⟩
  rw [← flatI_snoc] at a2
  refine ⟨C, c, W', run_app a1, a2, hk.none.trans a3, fun g e => ?_⟩
  have hs := hk.size
  have hlt := own_lt a2 g e
  rcases a4 with e' | ⟨e', _⟩
  · rw [e'] at e; exact .inl e
  · rw [e'] at e; have := Option.some.inj e; exact .inr ⟨by omega, hlt⟩
set_option maxRecDepth 100000 in
set_option maxHeartbeats 16000000 in
theorem levels25 (A : Option Addr) (n cap : Nat) (zs : List Rg) (A2 : Option Addr) (m cap2 : Nat) (L : List (List Int)) (w : World) (h : Rgs w A n zs) (hL : Lns w A2 m L) (hm : m ≤ 9223372036854775807) :
    Calls Try.prog 25 #[.agg #[.slice A n cap], .slice A2 m cap2] w fun e w' => Below w.heap.size w w' ∧
      ((chkL zs L = 0 ∧ ∃ C N c, e = .returned (.tuple #[.slice C N c, .int .i64 0]) ∧ Ints w' C N (lvsS (mtS (cls (prs zs)) L) m) ∧ N ≤ c) ∨
       (chkL zs L ≠ 0 ∧ e = .returned (.tuple #[.slice none 0 0, .int .i64 (chkL zs L)]))) := by
  have Hlen := Lib.hid hL.1
  have hb0 := below_alloc_ w (.cells #[.slice A n cap] 24)
  have hr0 := heap_alloc_new_ w (.cells #[.slice A n cap] 24)
  obtain ⟨W0, hW0⟩ : ∃ W0, w.alloc (.cells #[.slice A n cap] 24) = W0 := ⟨_, rfl⟩
  obtain ⟨R, hR⟩ : ∃ R, w.heap.size = R := ⟨_, rfl⟩
  rw [hW0] at hb0 hr0
  rw [hR] at hr0
  have S := Lib.hid (h.below hb0 (Nat.le_refl _))
  have X := Lib.hid (hL.below hb0 (Nat.le_refl _))
  have B0 := Lib.hid hb0
  have HW0 := Lib.hid hW0
  have HR := Lib.hid hR
  have r0 : W0.cell? ⟨R, 0, none⟩ = some (.slice A n cap) := by rw [cell_row hr0]; rfl
  have Hm := Lib.hid hm
  clear h hL hb0 hr0 hW0 hR hm
  refine (callsIn_wide (n := 5)).1 ?_
  refine callsIn_of_wp_marks Try.func25 rfl trivial ?_ rfl
  simp only [Try.ntmps25, List.size_toArray, List.length_cons, List.length_nil, Nat.reduceAdd, Nat.reduceSub, Array.replicate_succ, Array.replicate_zero, List.push_toArray, List.append_toArray, List.nil_append, List.cons_append]
  gi_wp2_with fail
  rw [HW0.out]
  try rw [HR.out]
  try gi_wp2_with fail
  refine ⟨trivial, (callsIn_wide.2 (lay52 A n cap zs A2 m cap2 L W0 S.out X.out Hm.out)).mono ?_⟩
  rintro en w1 ⟨hb, (⟨h0, B, D, M, rfl, hbo, hB1, hD1⟩ | ⟨h0, rfl⟩)⟩
  rotate_left
  · obtain ⟨c, hc⟩ : ∃ c, chkL zs L = c := ⟨_, rfl⟩
    rw [hc] at h0 ⊢
    have Hc := Lib.hid hc
    clear hc
    have d0 : (c != 0) = true := by rw [bne_iff_ne]; exact h0
    have HB := Lib.hid (B0.out.trans (hb.mono B0.out.size))
    clear hb r0
    gi_wp2_with fail
    refine ⟨.tuple #[.slice none 0 0, .int .i64 c], by simp [results, Try.results25, go_sem], ?_⟩
    exact ⟨HB.out, .inr ⟨by rw [Hc.out]; exact h0, by rw [Hc.out]⟩⟩
  have HB := Lib.hid (B0.out.trans (hb.mono B0.out.size))
  have Hbo := Lib.hid hbo
  have H0 := Lib.hid h0
  have HLV := Lib.hid (lv_of Hlen.out h0)
  obtain ⟨nm, hnm⟩ : ∃ nm, cls (prs zs) = nm := ⟨_, rfl⟩
  rw [hnm] at Hbo
  have Hnm := Lib.hid hnm
  clear hb r0 hbo h0 hnm hB1 hD1
  have k8 : Keeps (fun _ => False) w1 (w1.alloc (.cells #[.slice none 0 0] 38)) := keep_alloc _ _ _
  have e8 : (w1.alloc (.cells #[.slice none 0 0] 38)).heap[w1.heap.size]? = some (.cells #[.slice none 0 0] 38 (0, 0)) := heap_alloc_new_ _ _
  have K8 := Lib.hid k8
  have E8 := Lib.hid e8
  clear k8 e8
  gi_wp2_with fail
  have k8 := K8.out
  have e8 := E8.out
  obtain ⟨V8, hV8⟩ : ∃ V8, w1.alloc (.cells #[.slice none 0 0] 38) = V8 := ⟨_, rfl⟩
  obtain ⟨T, hT⟩ : ∃ T, w1.heap.size = T := ⟨_, rfl⟩
  rw [hV8] at k8 e8 ⊢
  rw [hT] at e8 ⊢
  have HT := Lib.hid (show w.heap.size ≤ T ∧ T = w1.heap.size from ⟨by rw [← hT]; exact HB.out.size, hT.symm⟩)
  have HB8 := Lib.hid (Hbo.out.below k8.new (Nat.le_refl _))
  have HBw8 := Lib.hid (HB.out.trans (k8.new.mono HB.out.size))
  replace E8 := Lib.hid e8
  have H18 := Lib.hid k8.new
  clear k8 e8 hV8 hT K8
  obtain ⟨mt, hmt⟩ : ∃ mt, mtS nm L = mt := ⟨_, rfl⟩
  obtain ⟨E, hE⟩ : ∃ E, eS mt m = E := ⟨_, rfl⟩
  have HMt := Lib.hid hmt
  have HE := Lib.hid hE
  have hps := passages59 B D A n cap nm M A2 m cap2 L V8 HB8.out HLV.out
  rw [hmt, hE] at hps
  have Hps := Lib.hid hps
  clear hmt hE hps
  refine ⟨trivial, (callsIn_wide.2 Hps.out).mono ?_⟩
  rintro en w2 ⟨Cb, Me, Ms, nn, rfl, hc2, hb2, hCb, hMe, hMs⟩
  have k9 : Keeps (fun _ => False) w2 (w2.alloc (.cells #[.pointer (some ⟨Cb, 0, none⟩)] 86)) := keep_alloc _ _ _
  have e9 : (w2.alloc (.cells #[.pointer (some ⟨Cb, 0, none⟩)] 86)).heap[w2.heap.size]? = some (.cells #[.pointer (some ⟨Cb, 0, none⟩)] 86 (0, 0)) := heap_alloc_new_ _ _
  have c0 := (hc2.below k9.new (Nat.le_refl _)).c0
  have g0 : (w2.alloc (.cells #[.pointer (some ⟨Cb, 0, none⟩)] 86)).cell? ⟨w2.heap.size, 0, none⟩ = some (.pointer (some ⟨Cb, 0, none⟩)) := by rw [cell_row e9]; rfl
  have HC9 := Lib.hid (hc2.below k9.new (Nat.le_refl _))
  have E9 := Lib.hid e9
  have HBw9 := Lib.hid ((HBw8.out.trans (hb2.mono HBw8.out.size)).trans (k9.new.mono (Nat.le_trans HBw8.out.size hb2.size)))
  have HB9 := Lib.hid ((HB8.out.below hb2 (Nat.le_refl _)).below k9.new (Nat.le_refl _))
  have E89 := Lib.hid (((hb2.trans (k9.new.mono hb2.size)).block _ (lt_of_block E8.out)).trans E8.out)
  have H19 := Lib.hid (H18.out.trans ((hb2.trans (k9.new.mono hb2.size)).mono H18.out.size))
  have HL9 := Lib.hid (show T < w2.heap.size from Nat.lt_of_lt_of_le (lt_of_block E8.out) hb2.size)
  have HNt := Lib.hid (show Cb ≠ T ∧ Me ≠ T ∧ ∀ j, j < 4 → Ms j ≠ T from by
    have := lt_of_block E8.out
    exact ⟨by omega, by omega, fun j hj => by have := hMs j hj; omega⟩)
  clear hc2 hb2 hCb hMe hMs k9 e9 Hps
  gi_wp2_with fail
  obtain ⟨V9, hV9⟩ : ∃ V9, w2.alloc (.cells #[.pointer (some ⟨Cb, 0, none⟩)] 86) = V9 := ⟨_, rfl⟩
  obtain ⟨T9, hT9⟩ : ∃ T9, w2.heap.size = T9 := ⟨_, rfl⟩
  have hc9 := HC9.out
  have e9 := E9.out
  have e89 := E89.out
  have hb9 := HB9.out
  have hbw9 := HBw9.out
  have h19 := H19.out
  rw [hV9] at hc9 e9 e89 hb9 hbw9 h19 ⊢
  rw [hT9] at e9 ⊢
  replace HC9 := Lib.hid hc9
  replace E9 := Lib.hid e9
  replace E89 := Lib.hid e89
  replace HB9 := Lib.hid hb9
  replace HBw9 := Lib.hid hbw9
  replace H19 := Lib.hid h19
  replace HL9 := Lib.hid (show T ≠ T9 from by have := HL9.out; omega)
  clear hV9 hT9 hc9 e9 e89 hb9 hbw9 h19 g0 c0
  refine ⟨trivial, (callsIn_wide.2 (matches55 B V9)).mono ?_⟩
  rintro en w3 ⟨P1, rfl, cP, hP1, hP2, hb3⟩
  have hseq := matches74 HLV.out w1 w3 Hbo.out (H19.out.trans (hb3.mono H19.out.size)) P1 cP
  rw [HMt.out] at hseq
  have Hseq := Lib.hid hseq
  have HCt := Lib.hid (HC9.out.below hb3 (Nat.le_refl _))
  have E9 := Lib.hid ((hb3.block _ (lt_of_block E9.out)).trans E9.out)
  have ET := Lib.hid ((hb3.block _ (lt_of_block E89.out)).trans E89.out)
  have HBw := Lib.hid (HBw9.out.trans (hb3.mono HBw9.out.size))
  have HP1 := Lib.hid (show V9.heap.size ≤ P1 ∧ P1 < w3.heap.size ∧ V9.heap.size ≤ w3.heap.size ∧ T < V9.heap.size ∧ w1.heap.size ≤ V9.heap.size from ⟨hP1, hP2, hb3.size, lt_of_block E89.out, H19.out.size⟩)
  clear hseq cP hP1 hP2 hb3
  gi_wp2_with fail
  have hTl : T < w3.heap.size := lt_of_block ET.out
  refine wpIn_rangeO (gf := 74) (lb := #[.pointer (some ⟨P1, 0, none⟩)]) rfl (enters_of Try.func74 (by kernel_rfl) rfl) Hseq.out (fun k h => by have := HP1.out; rcases h with h | h <;> omega) (fun _ => rfl) (fun k => k = T) (fun k hk => by
      have := HP1.out
      have := HT.out.2
      exact ⟨by omega, by rintro (e | e) <;> omega⟩)
    (fun pre O W => LvI T w3 (pre.map (fun x => (E x).1)) O W) (fun _ _ _ _ => False) (fun pre => LvI.abides hTl _) (fun _ _ _ _ _ h _ => h.elim) ⟨⟨_, ET.out, ⟨rfl, .inl ⟨rfl, rfl⟩⟩, fun g e => by cases e⟩, Keeps.refl _ _⟩ ?round ?done ?stop
  case stop => intro D c pre x post W O _ _ _ _ _ h _; exact h.elim
  case round =>
    intro l pre x post W O hxs hl1 hl2 hr hO hI mm
    have Hby := Lib.hid (heap_alloc_new_ W (.cells #[.int .i64 (iAt x 0), .int .i64 (iAt x 1), .int .i64 (iAt x 2), .int .i64 (iAt x 3)] 79))
    have Hxs := Lib.hid hxs
    have HO := Lib.hid hO
    unfold plA
    clear hxs hr hI hO hTl
    gi_wp2_with fail
    refine ⟨keep_alloc _ _ _, ?_⟩
    intro W2 hB2 hI2
    have FT := (hB2.keeps.block _ (by simp) (by omega)).trans Hby.out
    obtain ⟨U, hU⟩ : ∃ U, W.heap.size = U := ⟨_, rfl⟩
    have hOU : ¬ O U := fun e => by have := HO.out _ e; omega
    rw [hU] at FT ⊢
    have HU := Lib.hid (show w3.heap.size ≤ U ∧ ¬ O U from ⟨by omega, hOU⟩)
    obtain ⟨⟨v, hv, ho, hob⟩, hk2⟩ := hI2
    have HV := Lib.hid hv
    have HOw := Lib.hid ho
    have HOb := Lib.hid hob
    have HK2 := Lib.hid hk2
    have HFT := Lib.hid FT
    have HmO := Lib.hid (show ∀ k, O k → w3.heap.size ≤ k from fun k e => by have := HO.out k e; omega)
    clear hU hB2 hk2 hv ho hob FT Hby hOU
    have hC2 : Cht W2 Cb B Me Ms nn (allK mt m) (SeP E mt) (fun h p => frK E mt m p h) := HCt.out.keep HK2.out (by have := lt_of_block HCt.out.row; have := HNt.out; show ¬ (_ ∨ _); omega) (by have := HCt.out.ends.lt; have := HNt.out; show ¬ (_ ∨ _); omega) (fun j hj => by have := HCt.out.ltF hj; have := HNt.out.2.2 j hj; show ¬ (_ ∨ _); omega)
    have hC9 := HCt.out
    have HmF := Lib.hid (show ∀ k, k < w3.heap.size → ¬ O k from fun k h e => by have := HmO.out k e; omega)
    have HnT := Lib.hid (show ¬ O T from HmF.out T (lt_of_block ET.out))
    have HnT9 := Lib.hid (show ¬ O T9 from HmF.out T9 (lt_of_block E9.out))
    have HnC := Lib.hid (show ¬ O Cb from HmF.out Cb (lt_of_block HCt.out.row))
    have HnU := Lib.hid HU.out.2
    have t0 : W2.cell? ⟨T, 0, none⟩ = some v := by rw [cell_row HV.out]; rfl
    have h9 := (HK2.out.block _ (lt_of_block E9.out) (by have := lt_of_block E9.out; have := HL9.out; show ¬ (_ ∨ _); omega)).trans E9.out
    have g0 : W2.cell? ⟨T9, 0, none⟩ = some (.pointer (some ⟨Cb, 0, none⟩)) := by rw [cell_row h9]; rfl
    have c1 := hC2.c1
    have hFT := HFT.out
    have x0 : W2.cell? ⟨U, 0, none⟩ = some (.int .i64 (iAt x 0)) := by rw [cell_row hFT]; rfl
    have x1 : W2.cell? ⟨U, 1, none⟩ = some (.int .i64 (iAt x 1)) := by rw [cell_row hFT]; rfl
    have x2 : W2.cell? ⟨U, 2, none⟩ = some (.int .i64 (iAt x 2)) := by rw [cell_row hFT]; rfl
    have x3 : W2.cell? ⟨U, 3, none⟩ = some (.int .i64 (iAt x 3)) := by rw [cell_row hFT]; rfl
    have hxm : x ∈ mt := by rw [Hxs.out]; simp
    have hwp : WPl m x := by have h := mtS_wpl (nm := nm) HLV.out x; rw [HMt.out] at h; exact h hxm
    have hse : SeP E mt x = some (knV (E x)) := by unfold SeP; rw [if_pos hxm]
    obtain ⟨ex, hex⟩ : ∃ e, E x = e := ⟨_, rfl⟩
    have Hex := Lib.hid hex
    rw [hex] at hse
    have HLk := Lib.hid (fun (V9 : World) (h : Keeps O W2 V9) => (show (Instr.lookup 88 (.map (some Me)) (plA x) false).run Try.prog V9 = .ok (.agg #[.int .i64 ex.1, .int .i64 ex.2]) V9 from by
      have h3 := (hC2.keep h HnC.out (HmF.out Me HCt.out.ends.lt) (fun j hj => HmF.out _ (HCt.out.ltF hj))).lookE hwp.dom
      rw [hse] at h3
      exact h3))
    have Hpl := Lib.hid (show pre.length ≤ 4096 by
      have h := (mtS_len (nm := nm) HLV.out).1
      rw [HMt.out, Hxs.out] at h
      simp at h; omega)
    have hS0 : Keeps O W2 W2.drew := Keeps.of_new (drew_b _ _)
    have HvO := Lib.hid (lt_of_block HV.out)
    clear hC9 hC2 h9 hFT hxm hwp hse hex
    gi_wp2_with fail
    refine region_R (z := 10) (S := fun V9 => Keeps O W2 V9) (by kernel_rfl) ?_
    refine anyR_take (i := 0) (oi := { dst := some 28, op := Go.Op.load 38 (Go.Operand.tmp 8), type := 38, pos := "word.go:107", after := #[], guard := none }) (v := v) rfl (by decide) (by kernel_rfl) (by kernel_rfl) (by kernel_rfl) (by kernel_rfl) (fun _ _ _ h => h) (Or.inl ⟨by rfl, by intro V9 hSw; (try dsimp only at hSw); have q_t0 := (keep_cells hSw (lt_of_cell t0) HnT.out _).trans t0; go_simp⟩) hS0 ?_
    try simp only [Act.put, List.setIfInBounds_toArray, List.set_cons_zero, List.set_cons_succ]
    refine anyR_take (i := 1) (oi := { dst := some 29, op := Go.Op.load 86 (Go.Operand.tmp 9), type := 86, pos := "word.go:107", after := #[], guard := none }) (v := .pointer (some ⟨Cb, 0, none⟩)) rfl (by decide) (by kernel_rfl) (by kernel_rfl) (by kernel_rfl) (by kernel_rfl) (fun _ _ _ h => h) (Or.inl ⟨by rfl, by intro V9 hSw; (try dsimp only at hSw); have q_g0 := (keep_cells hSw (lt_of_cell g0) HnT9.out _).trans g0; go_simp⟩) hS0 ?_
    try simp only [Act.put, List.setIfInBounds_toArray, List.set_cons_zero, List.set_cons_succ]
    refine anyR_take (i := 2) (oi := { dst := some 30, op := Go.Op.nilCheck (Go.Operand.tmp 29), type := 0, pos := "word.go:107", after := #[{ on := 1, ground := Go.Ground.data }], guard := none }) (v := .pointer (some ⟨Cb, 0, none⟩)) rfl (by decide) (by kernel_rfl) (by kernel_rfl) (by kernel_rfl) (by kernel_rfl) (fun _ _ _ h => h) (Or.inl ⟨by rfl, by intro V9 hSw; (try dsimp only at hSw); go_simp⟩) hS0 ?_
    try simp only [Act.put, List.setIfInBounds_toArray, List.set_cons_zero, List.set_cons_succ]
    refine anyR_take (i := 3) (oi := { dst := some 31, op := Go.Op.fieldAddr 93 (Go.Operand.tmp 30) 1, type := 0, pos := "word.go:107", after := #[{ on := 2, ground := Go.Ground.data }], guard := none }) (v := .pointer (some ⟨Cb, 1, none⟩)) rfl (by decide) (by kernel_rfl) (by kernel_rfl) (by kernel_rfl) (by kernel_rfl) (fun _ _ _ h => h) (Or.inl ⟨by rfl, by intro V9 hSw; (try dsimp only at hSw); go_simp⟩) hS0 ?_
    try simp only [Act.put, List.setIfInBounds_toArray, List.set_cons_zero, List.set_cons_succ]
    refine anyR_take (i := 4) (oi := { dst := some 32, op := Go.Op.load 88 (Go.Operand.tmp 31), type := 88, pos := "word.go:107", after := #[{ on := 3, ground := Go.Ground.data }], guard := none }) (v := .map (some Me)) rfl (by decide) (by kernel_rfl) (by kernel_rfl) (by kernel_rfl) (by kernel_rfl) (fun _ _ _ h => h) (Or.inl ⟨by rfl, by intro V9 hSw; (try dsimp only at hSw); have q_c1 := (keep_cells hSw (lt_of_cell c1) HnC.out _).trans c1; go_simp⟩) hS0 ?_
    try simp only [Act.put, List.setIfInBounds_toArray, List.set_cons_zero, List.set_cons_succ]
    refine anyR_take (i := 5) (oi := { dst := some 33, op := Go.Op.load 79 (Go.Operand.tmp 10), type := 79, pos := "word.go:107", after := #[], guard := none }) (v := .agg #[.int .i64 (iAt x 0), .int .i64 (iAt x 1), .int .i64 (iAt x 2), .int .i64 (iAt x 3)]) rfl (by decide) (by kernel_rfl) (by kernel_rfl) (by kernel_rfl) (by kernel_rfl) (fun _ _ _ h => h) (Or.inl ⟨by rfl, by intro V9 hSw; (try dsimp only at hSw); have q_x0 := (keep_cells hSw (lt_of_cell x0) HnU.out _).trans x0; have q_x1 := (keep_cells hSw (lt_of_cell x1) HnU.out _).trans x1; have q_x2 := (keep_cells hSw (lt_of_cell x2) HnU.out _).trans x2; have q_x3 := (keep_cells hSw (lt_of_cell x3) HnU.out _).trans x3; go_simp⟩) hS0 ?_
    try simp only [Act.put, List.setIfInBounds_toArray, List.set_cons_zero, List.set_cons_succ]
    refine anyR_take (i := 6) (oi := { dst := some 34, op := Go.Op.lookup 88 (Go.Operand.tmp 32) (Go.Operand.tmp 33) false, type := 91, pos := "word.go:107", after := #[{ on := 4, ground := Go.Ground.data }, { on := 5, ground := Go.Ground.data }], guard := none }) (v := .agg #[.int .i64 ex.1, .int .i64 ex.2]) rfl (by decide) (by kernel_rfl) (by kernel_rfl) (by kernel_rfl) (by kernel_rfl) (fun _ _ _ h => h) (Or.inl ⟨by rfl, by intro V9 hSw; (try dsimp only at hSw); have hlk := HLk.out V9 hSw; (try unfold plA at hlk); go_simp⟩) hS0 ?_
    try simp only [Act.put, List.setIfInBounds_toArray, List.set_cons_zero, List.set_cons_succ]
    refine anyR_take (i := 7) (oi := { dst := some 35, op := Go.Op.field 91 (Go.Operand.tmp 34) 0, type := 3, pos := "word.go:107", after := #[{ on := 6, ground := Go.Ground.data }], guard := none }) (v := .int .i64 ex.1) rfl (by decide) (by kernel_rfl) (by kernel_rfl) (by kernel_rfl) (by kernel_rfl) (fun _ _ _ h => h) (Or.inl ⟨by rfl, by intro V9 hSw; (try dsimp only at hSw); have hfd := field91 ex.1 ex.2 V9; go_simp⟩) hS0 ?_
    try simp only [Act.put, List.setIfInBounds_toArray, List.set_cons_zero, List.set_cons_succ]
    obtain ⟨X0, hX0⟩ : ∃ X0, W2.drew = X0 := ⟨_, rfl⟩
    have hd0 : Below W2.heap.size W2 X0 := by rw [← hX0]; exact drew_b W2 1
    rw [hX0] at hS0 ⊢
    have HOw0 := Lib.hid (own_keep HOw.out (Keeps.of_new hd0 (Mut := fun _ => False)) (fun _ _ e => e))
    have HS0 := Lib.hid hS0
    have HX0s := Lib.hid hd0.size
    clear hX0 hd0 hS0 g0 c1 x0 x1 x2 x3 t0
    obtain ⟨ys, hys⟩ : ∃ ys, pre.map (fun x => (E x).1) = ys := ⟨_, rfl⟩
    obtain ⟨pl, hpl⟩ : ∃ pl, ys.length = pl := ⟨_, rfl⟩
    have how := HOw0.out
    rw [hys, hpl] at how
    have hpl5 : pl ≤ 100000 := by rw [← hpl, ← hys, List.length_map]; have := Hpl.out; omega
    obtain ⟨C1, c1, X1, hrun, hown, hkp, hob1⟩ := app_int how ex.1 hpl5
    have Hys := Lib.hid hys
    have Hpl2 := Lib.hid hpl
    clear how hpl5 hys hpl HOw0
    have HK1 := Lib.hid (hkp.mono (fun k _ e => HOb.out k e))
    have HOn := Lib.hid hown
    have HOb1 := Lib.hid hob1
    have hba := below_alloc_ X0 (.cells #[.int .i64 ex.1] 3)
    have HSa := Lib.hid (HS0.out.trans (Keeps.of_new hba))
    have HS1 := Lib.hid (HS0.out.trans HK1.out)
    have HT1 := Lib.hid ((HS1.out.block _ HvO.out HnT.out).trans HV.out)
    clear hown hkp hob1 hba
    refine anyR_one (i := 8) (o := { dst := some 36, op := Go.Op.buildSlice 38 1 #[(0, Go.Operand.tmp 35)], type := 38, pos := "word.go:107", after := #[{ on := 7, ground := Go.Ground.data }], guard := none }) (by kernel_rfl) rfl (by rfl) ?_
    intro K hK
    have HKK := Lib.hid hK
    clear hK
    go_simp
    refine HKK.out _ _ (fun _ _ => HSa.out) ?_
    clear HKK K
    try simp only [Act.put, List.setIfInBounds_toArray, List.set_cons_zero, List.set_cons_succ]
    refine anyR_one (i := 9) (o := { dst := some 37, op := Go.Op.call { callee := Go.Callee.builtin Go.Builtin.append, args := #[Go.Operand.tmp 28, Go.Operand.tmp 36], argTypes := #[38, 38] }, type := 38, pos := "word.go:107", after := #[{ on := 0, ground := Go.Ground.data }, { on := 8, ground := Go.Ground.data }], guard := none }) (by kernel_rfl) rfl (by rfl) ?_
    intro K hK
    have HKK := Lib.hid hK
    clear hK
    gi_wp2_with fail
    try rw [hrun]
    try gi_wp2_with fail
    refine HKK.out _ _ (fun _ _ => HS1.out) ?_
    clear HKK K
    try simp only [Act.put, List.setIfInBounds_toArray, List.set_cons_zero, List.set_cons_succ]
    refine anyR_one (i := 10) (o := { dst := none, op := Go.Op.store 38 (Go.Operand.tmp 8) (Go.Operand.tmp 37), type := 0, pos := "word.go:107", after := #[{ on := 9, ground := Go.Ground.data }, { on := 9, ground := Go.Ground.chain }, { on := 0, ground := Go.Ground.phase }, { on := 1, ground := Go.Ground.phase }, { on := 2, ground := Go.Ground.phase }, { on := 3, ground := Go.Ground.phase }, { on := 4, ground := Go.Ground.phase }, { on := 5, ground := Go.Ground.phase }, { on := 6, ground := Go.Ground.phase }, { on := 7, ground := Go.Ground.phase }, { on := 8, ground := Go.Ground.phase }, { on := 9, ground := Go.Ground.phase }], guard := none }) (by kernel_rfl) rfl (by rfl) ?_
    intro K hK
    have HKK := Lib.hid hK
    clear hK hrun
    have ht1 := HT1.out
    have c3 : X1.cell? ⟨T, 0, none⟩ = some v := by rw [cell_row ht1]; rfl
    have f3 : X1.frozen? ⟨T, 0, none⟩ = false := frozen_row ht1
    have hTs := set_same 0 (.slice C1 (pl + 1) c1) ht1
    have hKs := keeps_setCell X1 T 0 (.slice C1 (pl + 1) c1)
    have HTs := Lib.hid hTs
    have HKs := Lib.hid hKs
    clear ht1 hTs hKs
    go_simp
    refine HKK.out _ _ (fun h _ => absurd rfl h) ?_
    clear HKK K
    try simp only [Act.put, List.setIfInBounds_toArray, List.set_cons_zero, List.set_cons_succ]
    refine anyR_done (by kernel_rfl) ?_ _
    gi_wp2_with fail
    obtain ⟨XF, hXF⟩ : ∃ XF, X1.setCell ⟨T, 0, none⟩ (.slice C1 (pl + 1) c1) = XF := ⟨_, rfl⟩
    have hts := HTs.out
    have hks := HKs.out
    rw [hXF] at hts hks ⊢
    clear hXF
    have hsz0 := HS0.out.size
    have hszk := hks.size
    refine ⟨fun k => O k ∨ (W2.heap.size ≤ k ∧ k < XF.heap.size), ⟨fun _ e => .inl e, fun _ e => e⟩, (HS1.out.mono (fun k _ e => .inr e)).trans (hks.mono (fun k _ e => .inl e)), ⟨⟨.slice C1 (pl + 1) c1, hts, ?_, fun g e => (HOb1.out g e).imp (HOb.out g) (fun e => ⟨by have := e.1; omega, by have := e.2; omega⟩)⟩, HK2.out.trans ((HS1.out.mono (fun k _ e => (.inl (HmO.out k e) : w3.heap.size ≤ k ∨ k = T))).trans (hks.mono (fun k _ e => .inr e)))⟩⟩
    have h4 := own_keep HOn.out hks (fun g e e2 => by
      have hgT : g = T := e2
      subst hgT
      rcases HOb1.out g e with h | h
      · exact HnT.out (HOb.out g h)
      · have := HvO.out; have := h.1; omega)
    rw [List.map_append, Hys.out, List.length_append, Hpl2.out]
    rw [← Hex.out] at h4
    exact h4
  case done =>
    intro D2 W9 O hD2 hDW hDO hO hI9 hKd
    obtain ⟨⟨v, hv, ho, hob⟩, hk9⟩ := hI9
    obtain ⟨ys, hys⟩ : ∃ ys, mt.map (fun x => (E x).1) = ys := ⟨_, rfl⟩
    rw [hys] at ho
    obtain ⟨pl, hpl⟩ : ∃ pl, ys.length = pl := ⟨_, rfl⟩
    rw [hpl] at ho
    obtain ⟨C9, c9, rfl, hc9, hi9, hC9⟩ := ints_own hpl ho
    have g0 : W9.cell? ⟨T, 0, none⟩ = some (.slice C9 pl c9) := by rw [cell_row hv]; rfl
    have HI9 := Lib.hid hi9
    have HYs := Lib.hid (show lvsS mt m = ys by unfold lvsS; rw [HE.out, hys])
    have HOb9 := Lib.hid (show ∀ b o, C9 = some ⟨b, o, none⟩ → O b from fun b o e => hob b (hC9 b o e).1)
    have Hk9 := Lib.hid hk9
    have HKd := Lib.hid hKd
    have HDO := Lib.hid hDO
    have HD2 := Lib.hid hD2
    clear hv ho hob hk9 hys hpl hi9 hC9 hKd hDO hO hD2 hDW hTl
    gi_wp2_with fail
    refine ⟨by simp, .inl ⟨_, _, rfl, run_takeDeferred HKd.out, ?_⟩⟩
    have hput : Keeps (fun j => j = D2) W9 (W9.putObj D2 (.deferred none)) := Keeps.putObj _ _ _ rfl
    refine ⟨.tuple #[.slice C9 pl c9, .int .i64 0], by simp [results, Try.results25, go_sem], ?_⟩
    have hbw : Below w.heap.size w W9 := HBw.out.trans (Hk9.out.below HBw.out.size (fun k hk e => by have := HBw.out.size; have := HT.out.1; rcases e with e | e <;> omega))
    refine ⟨hbw.trans (hput.below hbw.size (fun k hk e => by have := HBw.out.size; have := HD2.out; omega)), .inl ⟨H0.out, C9, pl, c9, rfl, ?_, hc9⟩⟩
    rw [Hnm.out, HMt.out, HYs.out]
    refine ⟨HI9.out.1, fun hn => ?_⟩
    obtain ⟨b, o, e, hcell⟩ := HI9.out.2 hn
    exact ⟨b, o, e, fun j hj => (keep_cells hput (lt_of_cell (hcell j hj)) (fun e2 => HDO.out (by have e2 : b = D2 := e2; rw [← e2]; exact HOb9.out b o e)) _).trans (hcell j hj)⟩
end Go.Proofs.Ythdjbapidodlfaa
