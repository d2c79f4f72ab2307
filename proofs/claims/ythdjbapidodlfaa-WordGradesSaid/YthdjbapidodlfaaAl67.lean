/- Stage 4: the document's list of all longest passages (AllLongest). -/
import Derived.Test.YthdjbapidodlfaaZm
import Derived.Deep.RegionHeld3
import Derived.Deep.LoopGhost
namespace Go.Proofs.Ythdjbapidodlfaa
set_option linter.unusedSimpArgs false
set_option linter.unusedVariables false
open Go.RowKit Go.Shelf
section
attribute [local go_sem ↓] exec_app at_app
attribute [local go_sem] Oper.semAt_some
set_option maxRecDepth 100000 in
set_option maxHeartbeats 40000000 in
theorem allLongest67 (A : Option Addr) (n cap : Nat) (zs : List Rg) (A2 : Option Addr) (m cap2 : Nat) (L : List (List Int)) (w : World) (h : Rgs w A n zs) (hL : Lns w A2 m L) (hz : chkL zs L = 0) (h16 : (mtS (cls (prs zs)) L).length ≤ 16) :
  Calls Try.prog 67 #[.agg #[.slice A n cap], .slice A2 m cap2] w fun e w' => ∃ C N c, e = .returned (.slice C N c) ∧ Pss w' C N ((lngS (cls (prs zs)) L m).map (List.map (·.take m))) ∧ Below w.heap.size w w' := by
 have Hlen := Lib.hid hL.1
 have hb0 := below_alloc_ w (.cells #[.slice A n cap] 24)
 have hr0 := heap_alloc_new_ w (.cells #[.slice A n cap] 24)
 obtain ⟨W0, hW0⟩ : ∃ W0, w.alloc (.cells #[.slice A n cap] 24) = W0 := ⟨_, rfl⟩
 obtain ⟨R, hR⟩ : ∃ R, w.heap.size = R := ⟨_, rfl⟩
 rw [hW0] at hb0 hr0
 rw [hR] at hr0
 have S := Lib.hid (h.below hb0 (Nat.le_refl _))
 have X := Lib.hid (hL.below hb0 (Nat.le_refl _))
 have B0 := Lib.hid hb0
 have R0 := Lib.hid hr0
 have HW0 := Lib.hid hW0
 have HR := Lib.hid hR
 have r0 : W0.cell? ⟨R, 0, none⟩ = some (.slice A n cap) := by rw [cell_row hr0]; rfl
 have H0 := Lib.hid hz
 have H16 := Lib.hid h16
 clear h hL hb0 hr0 hW0 hR hz h16
 go_enter Try.func67, Try.ntmps67
 go_wp2_with fail
 rw [HW0.out]
 try rw [HR.out]
 try go_wp2_with fail
 have HLV := Lib.hid (lv_of Hlen.out H0.out)
 have key := all56 A n cap zs A2 m cap2 L W0 S.out X.out H0.out
 rw [allS_all Hlen.out H0.out] at key
 obtain ⟨l, hl⟩ : ∃ l, (mtS (cls (prs zs)) L).map (·.take m) = l := ⟨_, rfl⟩
 rw [hl] at key
 have Hl := Lib.hid hl
 clear hl
 refine key.mono ?_
 rintro en w1 ⟨Cl, cl, rfl, hl, hc, hb⟩
 have HL2 := Lib.hid hl
 have HB2 := Lib.hid (B0.out.trans (hb.mono B0.out.size))
 have hlen : l.length = (mtS (cls (prs zs)) L).length := by rw [← Hl.out, List.length_map]
 have hN : l.length ≤ 16 := by rw [hlen]; exact H16.out
 have hls : ∀ j, j < l.length → (lAt l j).length = m := by
  rw [← Hl.out, List.length_map]
  exact take_lens HLV.out
 have hm4 := HLV.out.hi
 have hm2 := HLV.out.lo
 have Hbd := Lib.hid (fun s => chs_bound (l := l) (m := m) hN s)
 have Htop := Lib.hid (show ∀ s, topK (cls (prs zs)) L m < s → chs l (ltM m) s = [] from fun s hs => by rw [← Hl.out, chs_map, chs_none (lev_ok HLV.out) (top_ok HLV.out) hs]; rfl)
 have Hres := Lib.hid (show chs l (ltM m) (topK (cls (prs zs)) L m) = (lngS (cls (prs zs)) L m).map (List.map (·.take m)) from by rw [← Hl.out, chs_map]; rfl)
 have Hne := Lib.hid (show ∀ s, s ≤ topK (cls (prs zs)) L m → chs l (ltM m) s = [] → False from fun s hs h => by
  have h1 := chs_up h (topK (cls (prs zs)) L m - s)
  rw [Nat.add_sub_cancel' hs, Hres.out] at h1
  have h2 := fst_lng (nm := cls (prs zs)) HLV.out
  rw [List.map_eq_nil_iff.1 h1] at h2
  cases h2)
 have HK := Lib.hid (topK_le9 (nm := cls (prs zs)) HLV.out)
 obtain ⟨K, hK⟩ : ∃ K, topK (cls (prs zs)) L m = K := ⟨_, rfl⟩
 rw [hK] at Htop Hres Hne HK
 obtain ⟨N, hNN⟩ : ∃ N, l.length = N := ⟨_, rfl⟩
 rw [hNN] at HL2 hN hls ⊢
 have Hls := Lib.hid hls
 have Hll := Lib.hid hNN
 have hN16 := hN
 clear hl hb key hNN r0 hc hlen hls hK hN
 go_wp2_with fail
 have hE := heap_alloc_new_ w1 (.cells #[] 40)
 have hbE := below_alloc_ w1 (.cells #[] 40)
 obtain ⟨wE, hwE⟩ : ∃ wE, w1.alloc (.cells #[] 40) = wE := ⟨_, rfl⟩
 rw [hwE] at hE hbE
 have hQ := heap_alloc_new_ wE (.cells #[.slice (some ⟨w1.heap.size, 0, none⟩) 0 0] 31)
 have hbQ := below_alloc_ wE (.cells #[.slice (some ⟨w1.heap.size, 0, none⟩) 0 0] 31)
 have hbn := hbE.trans (hbQ.mono hbE.size)
 have hPB := PB.one (w0 := w1) hQ (by have := lt_of_block hE; omega)
 have hszE : wE.heap.size = w1.heap.size + 1 := by rw [← hwE]; exact al_sz _ _
 rw [hszE] at hPB
 rw [← hwE] at hPB hbn
 have HPB := Lib.hid hPB
 have HBn := Lib.hid hbn
 clear hE hbE hQ hbQ hbn hPB hszE hwE
 go_loopg [6, 7, 8, 9, 10] 10 (fun g nw nx i5 p5 k5 wr => ∃ s, s + g = 10 ∧ Hid (s ≤ K ∧ (∃ Z, PB w1 wr Z nw (chs l (ltM m) s)) ∧ Below w1.heap.size w1 wr))
 case atStart => exact ⟨0, rfl, Lib.hid ⟨Nat.zero_le _, ⟨_, HPB.out⟩, HBn.out⟩⟩
 case round =>
  obtain ⟨s, hs, HI⟩ := hrel
  obtain ⟨wq, rfl⟩ : ∃ wq, wq = wr := ⟨_, rfl⟩
  obtain ⟨hsK, ⟨Z0, hP0⟩, hBq⟩ := HI.out
  obtain ⟨ps, hps⟩ : ∃ ps, chs l (ltM m) s = ps := ⟨_, rfl⟩
  rw [hps] at hP0
  have hpb := Hbd.out s
  have hpl9 := fun q (hq : q ∈ chs l (ltM m) s) => chs_len hq
  have hnx := fun i => stepI_len l m ps i
  have hall := stepI_all l m s
  rw [hps] at hpb hpl9 hall
  obtain ⟨Cw, cw, rfl, -, hrd⟩ := hP0.read
  obtain ⟨NP, hNP⟩ : ∃ NP, ps.length = NP := ⟨_, rfl⟩
  rw [hNP] at hrd hpb hall hnx
  try rw [hNP]
  have HNP := Lib.hid hNP
  have HP0 := Lib.hid hP0
  have HBq := Lib.hid hBq
  have Hrd := Lib.hid hrd
  have Hps := Lib.hid hps
  have HsK := Lib.hid hsK
  have Hpl9 := Lib.hid hpl9
  have Hall := Lib.hid hall
  have Hsg := Lib.hid hs
  have Hnx := Lib.hid hnx
  have hs9 : s ≤ 9 := by have := HK.out; omega
  have Hpb := Lib.hid (show NP ≤ 68719476736 from Nat.le_trans hpb (Nat.le_trans (Nat.pow_le_pow_right (by omega) hs9) (by decide)))
  have Hpb2 := Lib.hid (show NP ≤ 68719476736 ∧ NP ≤ 9223372036854775807 from by have := Hpb.out; omega)
  have hNP9 : NP ≤ 68719476736 := Hpb.out
  clear HI hps hsK hP0 hBq hrd hNP hpb hpl9 hall hs hnx
  go_wp2_with fail
  go_loopw [7, 8, 9, 10] (fun nx i p5 k5 wr => ∃ t : Nat, t ≤ NP ∧ i = .int .i64 (t : Int) ∧ Hid (NX w1 wq wr nx (stepI l m ps t))) (fun nx i p5 k5 _ => NP - (intOf i).toNat)
  case atStart => exact ⟨0, Nat.zero_le _, rfl, Lib.hid (by rw [stepI_zero]; exact NX.nil _ _)⟩
  case round =>
   obtain ⟨t, ht, rfl, HJ⟩ := hrel
   obtain ⟨wi, rfl⟩ : ∃ wi, wi = wr := ⟨_, rfl⟩
   by_cases htl : t < NP
   ·obtain ⟨bw, rfl, hrd⟩ := Hrd.out (by omega)
    obtain ⟨D, c9, d0, hpg, hc9⟩ := hrd t htl
    have d1 := (HJ.out.below.cell (p := ⟨bw, t, none⟩) (lt_of_cell d0)).trans d0
    have hpl := Hpl9.out (psAt ps t) (by rw [psAt_eq (by rw [HNP.out]; exact htl)]; exact List.getElem_mem _)
    obtain ⟨pl, hple⟩ : ∃ pl, (psAt ps t).length = pl := ⟨_, rfl⟩
    rw [hple] at d1 hc9 hpl
    have Hpl := Lib.hid hple
    have Hp9 := Lib.hid (show (psAt ps t).length ≤ 9 ∧ pl ≤ 9 from by omega)
    have hpl9 : pl ≤ 9 := by omega
    have HPq := Lib.hid hpg
    have Hmem := Lib.hid (show psAt ps t ∈ chs l (ltM m) s by rw [Hps.out, psAt_eq (by rw [HNP.out]; exact htl)]; exact List.getElem_mem _)
    have i0 : (0 : Int) ≤ (t : Int) := by omega
    have i1 : (t : Int) < (NP : Int) := by omega
    clear hrd d0 hpg hpl hple
    go_wp2_with fail
    clear d1
    go_loopw [7, 10] (fun nx k5 wr => ∃ k : Nat, k ≤ N ∧ k5 = .int .i64 (k : Int) ∧ Hid (NX w1 wq wr nx (stepI l m ps t ++ stepK l m (psAt ps t) k))) (fun nx k5 _ => N - (intOf k5).toNat)
    case atStart => exact ⟨0, Nat.zero_le _, rfl, Lib.hid (by rw [stepK_zero, List.append_nil]; exact HJ.out)⟩
    case round =>
     obtain ⟨k, hk, rfl, HNX⟩ := hrel
     obtain ⟨wj, rfl⟩ : ∃ wj, wj = wr := ⟨_, rfl⟩
     by_cases hlt : k < N
     ·obtain ⟨bl, ol, rfl, hlk⟩ := HL2.out.2 (by omega)
      obtain ⟨Ck, ck, b1, bI, bc⟩ := hlk k hlt
      rw [Hls.out k hlt] at b1 bI bc
      have bq := (HBq.out.cell (p := ⟨bl, ol + k, none⟩) (lt_of_cell b1)).trans b1
      have b0 := (HNX.out.below.cell (p := ⟨bl, ol + k, none⟩) (lt_of_cell bq)).trans bq
      have HLb0 := Lib.hid bI
      have HLb := Lib.hid ((bI.below HBq.out (Nat.le_refl _)).below HNX.out.below (Nat.le_refl _))
      have Hck := Lib.hid bc
      have hqb : (stepI l m ps t ++ stepK l m (psAt ps t) k).length ≤ 1300000000000 := by
       rw [List.length_append]
       have h1 := Hnx.out t
       have h2 := stepK_len l m (psAt ps t) k
       rw [Hll.out] at h1 h2
       have h3 : NP * N ≤ 68719476736 * 16 := Nat.mul_le_mul hNP9 hN16
       omega
      have HPg := Lib.hid (HPq.out.keep (Keeps.of_new (Mut := fun _ => False) HNX.out.below) (fun _ _ _ e => e))
      obtain ⟨Cx, cx, rfl, hcx⟩ : ∃ Cx cx, u7 = .slice Cx (stepI l m ps t ++ stepK l m (psAt ps t) k).length cx ∧ True := by
       obtain ⟨Z, h1, _⟩ := HNX.out
       obtain ⟨C, c, e, _⟩ := h1.read
       exact ⟨C, c, e, trivial⟩
      obtain ⟨qn, hqn⟩ : ∃ qn, (stepI l m ps t ++ stepK l m (psAt ps t) k).length = qn := ⟨_, rfl⟩
      have HQL := Lib.hid hqb
      have HQl := Lib.hid hqn
      rw [hqn] at HNX ⊢
      have j0 : (0 : Int) ≤ (k : Int) := by omega
      have j1 : (k : Int) < (N : Int) := by omega
      clear hlk b1 bI bc hqb hqn hcx
      by_cases hq0 : pl = 0
      ·have dq : ((pl : Int) == 0) = true := by rw [beq_iff_eq]; omega
       have HE := Lib.hid (show ext (ltM m) (psAt ps t) (lAt l k) = true by rw [ext_at, Hpl.out, hq0]; rfl)
       clear hq0
       go_wp2_with fail
       refine wp_region_held_drew (S := fun w2 => Below wj.heap.size wj w2) (by kernel_rfl) (drew_b _ _) (fun hS0 => ?_)
       refine wpAnyH_take (i := 0) (oi := { dst := some 32, op := Go.Op.move (Go.Operand.tmp 9), type := 31, pos := "ref.go:204", after := #[], guard := none }) (v := .slice D pl c9) rfl (by kernel_rfl) (by kernel_rfl) (by kernel_rfl) (fun _ _ _ h => h) (Or.inl ⟨by rfl, by intro w2 hSw; (try dsimp only at hSw); go_simp⟩) hS0 ?_
       try simp only [Act.put, List.setIfInBounds_toArray, List.set_cons_zero, List.set_cons_succ]
       refine wpAnyH_take (i := 1) (oi := { dst := some 33, op := Go.Op.call { callee := Go.Callee.builtin Go.Builtin.len, args := #[Go.Operand.tmp 32], argTypes := #[31] }, type := 3, pos := "ref.go:204", after := #[{ on := 0, ground := Go.Ground.data }], guard := none }) (v := .int .i64 (pl : Int)) rfl (by kernel_rfl) (by kernel_rfl) (by kernel_rfl) (fun _ _ _ h => h) (Or.inl ⟨by rfl, by intro w2 hSw; (try dsimp only at hSw); go_simp⟩) hS0 ?_
       try simp only [Act.put, List.setIfInBounds_toArray, List.set_cons_zero, List.set_cons_succ]
       refine wpAnyH_take (i := 2) (oi := { dst := some 34, op := Go.Op.binOp Go.BinOp.eql 3 (Go.Operand.tmp 33) (Go.Operand.const (Go.Value.int Go.IntKind.i64 0)) 3, type := 4, pos := "ref.go:204", after := #[{ on := 1, ground := Go.Ground.data }], guard := none }) (v := .bool true) rfl (by kernel_rfl) (by kernel_rfl) (by kernel_rfl) (fun _ _ _ h => h) (Or.inl ⟨by rfl, by intro w2 hSw; (try dsimp only at hSw); go_simp⟩) hS0 ?_
       try simp only [Act.put, List.setIfInBounds_toArray, List.set_cons_zero, List.set_cons_succ]
       refine wpAnyH_take (i := 3) (oi := { dst := some 35, op := Go.Op.move (Go.Operand.tmp 34), type := 4, pos := "ref.go:204", after := #[{ on := 2, ground := Go.Ground.data }], guard := none }) (v := .bool true) rfl (by kernel_rfl) (by kernel_rfl) (by kernel_rfl) (fun _ _ _ h => h) (Or.inl ⟨by rfl, by intro w2 hSw; (try dsimp only at hSw); go_simp⟩) hS0 ?_
       try simp only [Act.put, List.setIfInBounds_toArray, List.set_cons_zero, List.set_cons_succ]
       refine wpAnyH_take (i := 4) (oi := { dst := some 36, op := Go.Op.move (Go.Operand.tmp 9), type := 31, pos := "ref.go:204", after := #[{ on := 3, ground := Go.Ground.guard }], guard := some (3, false) }) (v := undef) rfl (by kernel_rfl) (by kernel_rfl) (by kernel_rfl) (fun _ _ _ h => h) (Or.inr ⟨by rfl, rfl⟩) hS0 ?_
       try simp only [Act.put, List.setIfInBounds_toArray, List.set_cons_zero, List.set_cons_succ]
       refine wpAnyH_take (i := 5) (oi := { dst := some 37, op := Go.Op.move (Go.Operand.tmp 9), type := 31, pos := "ref.go:204", after := #[{ on := 3, ground := Go.Ground.guard }], guard := some (3, false) }) (v := undef) rfl (by kernel_rfl) (by kernel_rfl) (by kernel_rfl) (fun _ _ _ h => h) (Or.inr ⟨by rfl, rfl⟩) hS0 ?_
       try simp only [Act.put, List.setIfInBounds_toArray, List.set_cons_zero, List.set_cons_succ]
       refine wpAnyH_take (i := 6) (oi := { dst := some 38, op := Go.Op.call { callee := Go.Callee.builtin Go.Builtin.len, args := #[Go.Operand.tmp 37], argTypes := #[31] }, type := 3, pos := "ref.go:204", after := #[{ on := 5, ground := Go.Ground.data }, { on := 3, ground := Go.Ground.guard }], guard := some (3, false) }) (v := undef) rfl (by kernel_rfl) (by kernel_rfl) (by kernel_rfl) (fun _ _ _ h => h) (Or.inr ⟨by rfl, rfl⟩) hS0 ?_
       try simp only [Act.put, List.setIfInBounds_toArray, List.set_cons_zero, List.set_cons_succ]
       refine wpAnyH_take (i := 7) (oi := { dst := some 39, op := Go.Op.binOp Go.BinOp.sub 3 (Go.Operand.tmp 38) (Go.Operand.const (Go.Value.int Go.IntKind.i64 1)) 3, type := 3, pos := "ref.go:204", after := #[{ on := 6, ground := Go.Ground.data }, { on := 3, ground := Go.Ground.guard }], guard := some (3, false) }) (v := undef) rfl (by kernel_rfl) (by kernel_rfl) (by kernel_rfl) (fun _ _ _ h => h) (Or.inr ⟨by rfl, rfl⟩) hS0 ?_
       try simp only [Act.put, List.setIfInBounds_toArray, List.set_cons_zero, List.set_cons_succ]
       refine wpAnyH_take (i := 8) (oi := { dst := some 40, op := Go.Op.indexAddr 31 (Go.Operand.tmp 36) (Go.Operand.tmp 39), type := 0, pos := "ref.go:204", after := #[{ on := 4, ground := Go.Ground.data }, { on := 7, ground := Go.Ground.data }, { on := 3, ground := Go.Ground.guard }], guard := some (3, false) }) (v := undef) rfl (by kernel_rfl) (by kernel_rfl) (by kernel_rfl) (fun _ _ _ h => h) (Or.inr ⟨by rfl, rfl⟩) hS0 ?_
       try simp only [Act.put, List.setIfInBounds_toArray, List.set_cons_zero, List.set_cons_succ]
       refine wpAnyH_take (i := 9) (oi := { dst := some 41, op := Go.Op.load 40 (Go.Operand.tmp 40), type := 40, pos := "ref.go:204", after := #[{ on := 8, ground := Go.Ground.data }, { on := 3, ground := Go.Ground.guard }], guard := some (3, false) }) (v := undef) rfl (by kernel_rfl) (by kernel_rfl) (by kernel_rfl) (fun _ _ _ h => h) (Or.inr ⟨by rfl, rfl⟩) hS0 ?_
       try simp only [Act.put, List.setIfInBounds_toArray, List.set_cons_zero, List.set_cons_succ]
       refine wpAnyH_take (i := 10) (oi := { dst := some 42, op := Go.Op.move (Go.Operand.tmp 5), type := 31, pos := "ref.go:204", after := #[{ on := 3, ground := Go.Ground.guard }], guard := some (3, false) }) (v := undef) rfl (by kernel_rfl) (by kernel_rfl) (by kernel_rfl) (fun _ _ _ h => h) (Or.inr ⟨by rfl, rfl⟩) hS0 ?_
       try simp only [Act.put, List.setIfInBounds_toArray, List.set_cons_zero, List.set_cons_succ]
       refine wpAnyH_take (i := 11) (oi := { dst := some 43, op := Go.Op.move (Go.Operand.tmp 10), type := 3, pos := "ref.go:204", after := #[{ on := 3, ground := Go.Ground.guard }], guard := some (3, false) }) (v := undef) rfl (by kernel_rfl) (by kernel_rfl) (by kernel_rfl) (fun _ _ _ h => h) (Or.inr ⟨by rfl, rfl⟩) hS0 ?_
       try simp only [Act.put, List.setIfInBounds_toArray, List.set_cons_zero, List.set_cons_succ]
       refine wpAnyH_take (i := 12) (oi := { dst := some 44, op := Go.Op.indexAddr 31 (Go.Operand.tmp 42) (Go.Operand.tmp 43), type := 0, pos := "ref.go:204", after := #[{ on := 10, ground := Go.Ground.data }, { on := 11, ground := Go.Ground.data }, { on := 3, ground := Go.Ground.guard }], guard := some (3, false) }) (v := undef) rfl (by kernel_rfl) (by kernel_rfl) (by kernel_rfl) (fun _ _ _ h => h) (Or.inr ⟨by rfl, rfl⟩) hS0 ?_
       try simp only [Act.put, List.setIfInBounds_toArray, List.set_cons_zero, List.set_cons_succ]
       refine wpAnyH_take (i := 13) (oi := { dst := some 45, op := Go.Op.load 40 (Go.Operand.tmp 44), type := 40, pos := "ref.go:204", after := #[{ on := 12, ground := Go.Ground.data }, { on := 3, ground := Go.Ground.guard }], guard := some (3, false) }) (v := undef) rfl (by kernel_rfl) (by kernel_rfl) (by kernel_rfl) (fun _ _ _ h => h) (Or.inr ⟨by rfl, rfl⟩) hS0 ?_
       try simp only [Act.put, List.setIfInBounds_toArray, List.set_cons_zero, List.set_cons_succ]
       refine wpAnyH_take (i := 14) (oi := { dst := some 46, op := Go.Op.call { callee := Go.Callee.value (Go.Operand.func 63), args := #[Go.Operand.tmp 41, Go.Operand.tmp 45], argTypes := #[40, 40] }, type := 4, pos := "ref.go:204", after := #[{ on := 9, ground := Go.Ground.data }, { on := 13, ground := Go.Ground.data }, { on := 3, ground := Go.Ground.chain }, { on := 3, ground := Go.Ground.guard }], guard := some (3, false) }) (v := undef) rfl (by kernel_rfl) (by kernel_rfl) (by kernel_rfl) (fun _ _ _ h => h) (Or.inr ⟨by rfl, rfl⟩) hS0 ?_
       try simp only [Act.put, List.setIfInBounds_toArray, List.set_cons_zero, List.set_cons_succ]
       refine wpAnyH_take (i := 15) (oi := { dst := some 47, op := Go.Op.pick (Go.Operand.tmp 35) (Go.Operand.const (Go.Value.bool true)) (Go.Operand.tmp 46), type := 4, pos := "ref.go:204", after := #[{ on := 3, ground := Go.Ground.data }, { on := 14, ground := Go.Ground.data }], guard := none }) (v := .bool true) rfl (by kernel_rfl) (by kernel_rfl) (by kernel_rfl) (fun _ _ _ h => h) (Or.inl ⟨by rfl, by intro w2 hSw; (try dsimp only at hSw); go_simp⟩) hS0 ?_
       try simp only [Act.put, List.setIfInBounds_toArray, List.set_cons_zero, List.set_cons_succ]
       refine wpAnyH_done (by kernel_rfl) ?_ _
       clear dq
       try clear b0
       go_upto_region 12 with fail
       obtain ⟨wj2, hwj2⟩ : ∃ wj2, wj.drew = wj2 := ⟨_, rfl⟩
       rw [hwj2] at hS0 ⊢
       replace HNX := Lib.hid (HNX.out.next hS0)
       replace HPg := Lib.hid (HPg.out.keep (Keeps.of_new (Mut := fun _ => False) hS0) (fun _ _ _ e => e))
       clear hS0 hwj2
       refine wp_region_held_drew (S := fun w2 => Below wq.heap.size wq w2) (by kernel_rfl) (HNX.out.below.trans ((drew_b _ _).mono HNX.out.below.size)) (fun hS0 => ?_)
       refine wpAnyH_take (i := 0) (oi := { dst := some 48, op := Go.Op.move (Go.Operand.tmp 7), type := 101, pos := "ref.go:205", after := #[], guard := none }) (v := .slice Cx qn cx) rfl (by kernel_rfl) (by kernel_rfl) (by kernel_rfl) (fun _ _ _ h => h) (Or.inl ⟨by rfl, by intro w2 hSw; (try dsimp only at hSw);  go_simp⟩) hS0 ?_
       try simp only [Act.put, List.setIfInBounds_toArray, List.set_cons_zero, List.set_cons_succ]
       refine wpAnyH_take (i := 2) (oi := { dst := some 50, op := Go.Op.move (Go.Operand.tmp 9), type := 31, pos := "ref.go:205", after := #[], guard := none }) (v := .slice D pl c9) rfl (by kernel_rfl) (by kernel_rfl) (by kernel_rfl) (fun _ _ _ h => h) (Or.inl ⟨by rfl, by intro w2 hSw; (try dsimp only at hSw);  go_simp⟩) hS0 ?_
       try simp only [Act.put, List.setIfInBounds_toArray, List.set_cons_zero, List.set_cons_succ]
       refine wpAnyH_take (i := 4) (oi := { dst := some 52, op := Go.Op.move (Go.Operand.tmp 5), type := 31, pos := "ref.go:205", after := #[], guard := none }) (v := .slice (some ⟨bl, ol, none⟩) N cl) rfl (by kernel_rfl) (by kernel_rfl) (by kernel_rfl) (fun _ _ _ h => h) (Or.inl ⟨by rfl, by intro w2 hSw; (try dsimp only at hSw);  go_simp⟩) hS0 ?_
       try simp only [Act.put, List.setIfInBounds_toArray, List.set_cons_zero, List.set_cons_succ]
       refine wpAnyH_take (i := 5) (oi := { dst := some 53, op := Go.Op.move (Go.Operand.tmp 10), type := 3, pos := "ref.go:205", after := #[], guard := none }) (v := .int .i64 (k : Int)) rfl (by kernel_rfl) (by kernel_rfl) (by kernel_rfl) (fun _ _ _ h => h) (Or.inl ⟨by rfl, by intro w2 hSw; (try dsimp only at hSw);  go_simp⟩) hS0 ?_
       try simp only [Act.put, List.setIfInBounds_toArray, List.set_cons_zero, List.set_cons_succ]
       refine wpAnyH_take (i := 6) (oi := { dst := some 54, op := Go.Op.indexAddr 31 (Go.Operand.tmp 52) (Go.Operand.tmp 53), type := 0, pos := "ref.go:205", after := #[{ on := 4, ground := Go.Ground.data }, { on := 5, ground := Go.Ground.data }], guard := none }) (v := .pointer (some ⟨bl, ol + k, none⟩)) rfl (by kernel_rfl) (by kernel_rfl) (by kernel_rfl) (fun _ _ _ h => h) (Or.inl ⟨by rfl, by intro w2 hSw; (try dsimp only at hSw);  go_simp⟩) hS0 ?_
       try simp only [Act.put, List.setIfInBounds_toArray, List.set_cons_zero, List.set_cons_succ]
       refine wpAnyH_take (i := 7) (oi := { dst := some 55, op := Go.Op.load 40 (Go.Operand.tmp 54), type := 40, pos := "ref.go:205", after := #[{ on := 6, ground := Go.Ground.data }], guard := none }) (v := .slice Ck m ck) rfl (by kernel_rfl) (by kernel_rfl) (by kernel_rfl) (fun _ _ _ h => h) (Or.inl ⟨by rfl, by intro w2 hSw; (try dsimp only at hSw); have q_b := (hSw.cell (p := ⟨bl, ol + k, none⟩) (lt_of_cell bq)).trans bq; go_simp⟩) hS0 ?_
       try simp only [Act.put, List.setIfInBounds_toArray, List.set_cons_zero, List.set_cons_succ]
       have hV0 := drew_b wj2 1
       rw [show wj2.drewN 1 = wj2.drew from rfl] at hV0
       generalize wj2.drew = V0 at hS0 hV0 ⊢
       clear hS0
       refine wpAnyH_ready (rs := [1, 8]) (by kernel_rfl) (by simp) ?_
       refine AllReadyH.cons (o := { dst := some 49, op := Go.Op.buildSlice 31 0 #[], type := 31, pos := "ref.go:205", after := #[], guard := none }) rfl (fun K2 hK => ?_) ?_
       ·go_simp
        have hV1 := hV0.trans ((below_alloc_ V0 (.cells #[] 40)).mono hV0.size)
        refine hK.out _ _ (HNX.out.below.trans ((hV1).mono HNX.out.below.size)) (fun _ => ?_)
        clear hK K2
        have hZ := heap_alloc_new_ V0 (.cells #[] 40)
        have hb := below_alloc_ V0 (.cells #[] 40)
        have HZ0 := Lib.hid (show wj2.heap.size ≤ V0.heap.size from hV0.size)
        have HB := Lib.hid (show ∀ j, Value.ownBlock (.slice (some ⟨V0.heap.size, 0, none⟩) 0 0) = some j → wj2.heap.size ≤ j from fun j e => by have h9 : V0.heap.size = j := Option.some.inj e; have := HZ0.out; omega)
        generalize V0.alloc (.cells #[] 40) = V1 at *
        obtain ⟨Z, hZe⟩ : ∃ Z, V0.heap.size = Z := ⟨_, rfl⟩
        rw [hZe] at hZ HZ0 HB ⊢
        clear hZe hb
        have hown := own_empty (size := 1) hZ
        clear hZ
        try simp only [Act.put, List.setIfInBounds_toArray, List.set_cons_zero, List.set_cons_succ]
        refine wpAnyH_ready (rs := [3, 8]) (by kernel_rfl) (by simp) ?_
        refine AllReadyH.cons (o := { dst := some 51, op := Go.Op.call { callee := Go.Callee.builtin Go.Builtin.append, args := #[Go.Operand.tmp 49, Go.Operand.tmp 50], argTypes := #[31, 31] }, type := 31, pos := "ref.go:205", after := #[{ on := 1, ground := Go.Ground.data }, { on := 2, ground := Go.Ground.data }], guard := none }) rfl (fun K2 hK => ?_) ?_
        ·obtain ⟨v1, vs0, V2, hrun, hv0, hown2, hKp, hon⟩ := app_psg (c2 := c9) HPg.out hV1 hown (by have := Hp9.out; omega)
         rw [Hpl.out] at hrun
         have HV0 := Lib.hid hv0
         clear hv0
         have hV2h := Lib.hid (show Below wj2.heap.size wj2 V2 from hV1.trans (hKp.below hV1.size (fun j hj e => by have := HB.out j e; omega)))
         have HB2 := Lib.hid (show ∀ j, Value.ownBlock v1 = some j → wj2.heap.size ≤ j from fun j e => by rcases hon with h9 | h9 <;> rw [h9] at e <;> first | exact HB.out j e | (have h8 : V1.heap.size = j := Option.some.inj e; have := hV1.size; omega))
         clear HB hown hon hKp
         have HB := HB2
         have Hown := Lib.hid hown2
         clear HB2 hown2
         go_simp
         try rw [hrun]
         try go_simp
         have hown := Hown.out
         clear Hown
         have hV2 := hV2h.out
         refine hK.out _ _ (HNX.out.below.trans ((hV2).mono HNX.out.below.size)) (fun _ => ?_)
         clear hK K2
         clear hrun hV2h
         try simp only [Act.put, List.setIfInBounds_toArray, List.set_cons_zero, List.set_cons_succ]
         refine wpAnyH_ready (rs := [8]) (by kernel_rfl) (by simp) ?_
         refine AllReadyH.cons (o := { dst := some 56, op := Go.Op.buildSlice 31 1 #[(0, Go.Operand.tmp 55)], type := 31, pos := "ref.go:205", after := #[{ on := 7, ground := Go.Ground.data }], guard := none }) rfl (fun K2 hK => ?_) ?_
         ·go_simp
          have hV3 := hV2.trans ((below_alloc_ V2 (.cells #[.slice Ck m ck] 40)).mono hV2.size)
          refine hK.out _ _ (HNX.out.below.trans ((hV3).mono HNX.out.below.size)) (fun _ => ?_)
          clear hK K2
          have hT := heap_alloc_new_ V2 (.cells #[.slice Ck m ck] 40)
          have hb := below_alloc_ V2 (.cells #[.slice Ck m ck] 40)
          have HOT := Lib.hid (show Value.ownBlock (v1) ≠ some V2.heap.size from fun e => by have := own_lt hown _ e; omega)
          replace hown := own_keep hown (Keeps.of_new (Mut := fun _ => False) hb) (fun _ _ e => e)
          have HT0 := Lib.hid (show wj2.heap.size ≤ V2.heap.size from hV2.size)
          generalize V2.alloc (.cells #[.slice Ck m ck] 40) = V3 at *
          obtain ⟨T, hTe⟩ : ∃ T, V2.heap.size = T := ⟨_, rfl⟩
          rw [hTe] at hT HT0 HOT ⊢
          clear hTe hb
          try simp only [Act.put, List.setIfInBounds_toArray, List.set_cons_zero, List.set_cons_succ]
          refine wpAnyH_ready (rs := [9]) (by kernel_rfl) (by simp) ?_
          refine AllReadyH.cons (o := { dst := some 57, op := Go.Op.call { callee := Go.Callee.builtin Go.Builtin.append, args := #[Go.Operand.tmp 51, Go.Operand.tmp 56], argTypes := #[31, 31] }, type := 31, pos := "ref.go:205", after := #[{ on := 3, ground := Go.Ground.data }, { on := 8, ground := Go.Ground.data }, { on := 3, ground := Go.Ground.chain }], guard := none }) rfl (fun K2 hK => ?_) ?_
          ·obtain ⟨v2, V4, hrun, hown2, hKp, hon⟩ := app_psg1 (x := lAt l k) (c := ck) (by rw [Hpl.out] at hown; exact hown) HV0.out (by rw [Hls.out k hlt]; exact hT) (by rw [Hls.out k hlt]; exact HLb0.out) (by rw [Hls.out k hlt]; exact Hck.out) (by have := Hp9.out; omega)
           have hV4h := Lib.hid (show Below wj2.heap.size wj2 V4 from hV3.trans (hKp.below hV3.size (fun j hj e => by have := HB.out j e; omega)))
           have HPT := Lib.hid (show Value.ownBlock v2 ≠ some T from by rcases hon with h9 | h9 <;> rw [h9] <;> first | exact HOT.out | (intro e; have h8 : V3.heap.size = T := Option.some.inj e; have := lt_of_block hT; omega))
           replace hT := (hKp.block _ (lt_of_block hT) HOT.out).trans hT
           clear HOT
           have HOT := HPT
           clear HPT
           have HB2 := Lib.hid (show ∀ j, Value.ownBlock v2 = some j → wj2.heap.size ≤ j from fun j e => by rcases hon with h9 | h9 <;> rw [h9] at e <;> first | exact HB.out j e | (have h8 : V3.heap.size = j := Option.some.inj e; have := hV3.size; omega))
           clear HB hown hon hKp
           have HB := HB2
           have Hown := Lib.hid hown2
           clear HB2 hown2
           have hown9 := Hown.out
           clear Hown
           rw [Nat.zero_add] at hown9
           obtain ⟨C9, d9, rfl, hd9, hp9, hC9⟩ := pgr_own (q := psAt ps t ++ [lAt l k]) hown9 (rwv_snoc HV0.out (by rw [Hls.out k hlt]; exact HLb0.out) (by rw [Hls.out k hlt]; exact Hck.out)) (by rw [List.length_append, Hpl.out]; rfl)
           have HP9 := Lib.hid hp9
           have HC9 := Lib.hid (show ∀ b o, C9 = some ⟨b, o, none⟩ → wj2.heap.size ≤ b ∧ b < V4.heap.size from fun b o e => by have e2 := (hC9 b o e).1; have h1 := HB.out b e2; have h2 := own_lt hown9 b e2; exact ⟨h1, h2⟩)
           have Hd9 := Lib.hid hd9
           clear hp9 hC9 hown9 hd9
           go_simp
           try rw [hrun]
           try go_simp
           have hV4 := hV4h.out
           refine hK.out _ _ (HNX.out.below.trans ((hV4).mono HNX.out.below.size)) (fun _ => ?_)
           clear hK K2
           clear hrun hV4h
           try simp only [Act.put, List.setIfInBounds_toArray, List.set_cons_zero, List.set_cons_succ]
           obtain ⟨C8, c8, V8, r8, hnx⟩ := HNX.out.snoc hV4 (pl := pl + 1) (by rw [List.length_append, Hpl.out]; rfl) HP9.out HC9.out Hd9.out HQL.out
           rw [HQl.out] at r8 hnx
           have R8 := Lib.hid r8
           have HX8 := Lib.hid hnx
           clear r8 hnx
           refine wpAnyH_ready (rs := [10]) (by kernel_rfl) (by simp) ?_
           refine AllReadyH.cons (o := { dst := some 58, op := Go.Op.buildSlice 101 1 #[(0, Go.Operand.tmp 57)], type := 101, pos := "ref.go:205", after := #[{ on := 9, ground := Go.Ground.data }], guard := none }) rfl (fun K2 hK => ?_) AllReadyH.nil
           go_simp
           refine hK.out _ _ (HNX.out.below.trans ((hV4.trans ((below_alloc_ _ _).mono hV4.size)).mono HNX.out.below.size)) (fun hS9 => ?_)
           clear hK K2
           try simp only [Act.put, List.setIfInBounds_toArray, List.set_cons_zero, List.set_cons_succ]
           have r8 := R8.out
           refine wpAnyH_ready (rs := [11]) (by kernel_rfl) (by simp) ?_
           refine AllReadyH.cons (o := { dst := some 59, op := Go.Op.call { callee := Go.Callee.builtin Go.Builtin.append, args := #[Go.Operand.tmp 48, Go.Operand.tmp 58], argTypes := #[101, 101] }, type := 101, pos := "ref.go:205", after := #[{ on := 0, ground := Go.Ground.data }, { on := 10, ground := Go.Ground.data }, { on := 9, ground := Go.Ground.chain }], guard := none }) rfl (fun K2 hK => ?_) AllReadyH.nil
           go_simp
           try rw [r8]
           try go_simp
           refine hK.out _ _ HX8.out.below (fun hS10 => ?_)
           clear hK K2 r8 hS9
           try simp only [Act.put, List.setIfInBounds_toArray, List.set_cons_zero, List.set_cons_succ]
           refine wpAnyH_take (i := 12) (oi := { dst := some 7, op := Go.Op.assign (Go.Operand.tmp 59), type := 101, pos := "ref.go:205", after := #[{ on := 11, ground := Go.Ground.data }, { on := 11, ground := Go.Ground.chain }, { on := 0, ground := Go.Ground.phase }, { on := 1, ground := Go.Ground.phase }, { on := 2, ground := Go.Ground.phase }, { on := 3, ground := Go.Ground.phase }, { on := 4, ground := Go.Ground.phase }, { on := 5, ground := Go.Ground.phase }, { on := 6, ground := Go.Ground.phase }, { on := 7, ground := Go.Ground.phase }, { on := 8, ground := Go.Ground.phase }, { on := 9, ground := Go.Ground.phase }, { on := 10, ground := Go.Ground.phase }, { on := 11, ground := Go.Ground.phase }], guard := none }) (v := .slice C8 (qn + 1) c8) rfl (by kernel_rfl) (by kernel_rfl) (by kernel_rfl) (fun _ _ _ h => h) (Or.inl ⟨by rfl, by intro w2 hSw; (try dsimp only at hSw);  go_simp⟩) hS10 ?_
           try simp only [Act.put, List.setIfInBounds_toArray, List.set_cons_zero, List.set_cons_succ]
           refine wpAnyH_done (by kernel_rfl) ?_ _
           clear hS10
           go_wp2_with fail
           go_roundw
           case rel => exact ⟨k + 1, by omega, by go_num, Lib.hid (by rw [stepK_succ (by rw [Hll.out]; exact hlt), if_pos HE.out, ← List.append_assoc]; exact HX8.out)⟩
           case measure => simp [intOf]; omega
          exact AllReadyH.nil
         exact AllReadyH.nil
        refine AllReadyH.cons (o := { dst := some 56, op := Go.Op.buildSlice 31 1 #[(0, Go.Operand.tmp 55)], type := 31, pos := "ref.go:205", after := #[{ on := 7, ground := Go.Ground.data }], guard := none }) rfl (fun K2 hK => ?_) ?_
        ·go_simp
         have hV2 := hV1.trans ((below_alloc_ V1 (.cells #[.slice Ck m ck] 40)).mono hV1.size)
         refine hK.out _ _ (HNX.out.below.trans ((hV2).mono HNX.out.below.size)) (fun _ => ?_)
         clear hK K2
         have hT := heap_alloc_new_ V1 (.cells #[.slice Ck m ck] 40)
         have hb := below_alloc_ V1 (.cells #[.slice Ck m ck] 40)
         have HOT := Lib.hid (show Value.ownBlock (.slice (some ⟨Z, 0, none⟩) 0 0) ≠ some V1.heap.size from fun e => by have := own_lt hown _ e; omega)
         replace hown := own_keep hown (Keeps.of_new (Mut := fun _ => False) hb) (fun _ _ e => e)
         have HT0 := Lib.hid (show wj2.heap.size ≤ V1.heap.size from hV1.size)
         generalize V1.alloc (.cells #[.slice Ck m ck] 40) = V2 at *
         obtain ⟨T, hTe⟩ : ∃ T, V1.heap.size = T := ⟨_, rfl⟩
         rw [hTe] at hT HT0 HOT ⊢
         clear hTe hb
         try simp only [Act.put, List.setIfInBounds_toArray, List.set_cons_zero, List.set_cons_succ]
         refine wpAnyH_ready (rs := [3]) (by kernel_rfl) (by simp) ?_
         refine AllReadyH.cons (o := { dst := some 51, op := Go.Op.call { callee := Go.Callee.builtin Go.Builtin.append, args := #[Go.Operand.tmp 49, Go.Operand.tmp 50], argTypes := #[31, 31] }, type := 31, pos := "ref.go:205", after := #[{ on := 1, ground := Go.Ground.data }, { on := 2, ground := Go.Ground.data }], guard := none }) rfl (fun K2 hK => ?_) ?_
         ·obtain ⟨v1, vs0, V3, hrun, hv0, hown2, hKp, hon⟩ := app_psg (c2 := c9) HPg.out hV2 hown (by have := Hp9.out; omega)
          rw [Hpl.out] at hrun
          have HV0 := Lib.hid hv0
          clear hv0
          have hV3h := Lib.hid (show Below wj2.heap.size wj2 V3 from hV2.trans (hKp.below hV2.size (fun j hj e => by have := HB.out j e; omega)))
          have HPT := Lib.hid (show Value.ownBlock v1 ≠ some T from by rcases hon with h9 | h9 <;> rw [h9] <;> first | exact HOT.out | (intro e; have h8 : V2.heap.size = T := Option.some.inj e; have := lt_of_block hT; omega))
          replace hT := (hKp.block _ (lt_of_block hT) HOT.out).trans hT
          clear HOT
          have HOT := HPT
          clear HPT
          have HB2 := Lib.hid (show ∀ j, Value.ownBlock v1 = some j → wj2.heap.size ≤ j from fun j e => by rcases hon with h9 | h9 <;> rw [h9] at e <;> first | exact HB.out j e | (have h8 : V2.heap.size = j := Option.some.inj e; have := hV2.size; omega))
          clear HB hown hon hKp
          have HB := HB2
          have Hown := Lib.hid hown2
          clear HB2 hown2
          go_simp
          try rw [hrun]
          try go_simp
          have hown := Hown.out
          clear Hown
          have hV3 := hV3h.out
          refine hK.out _ _ (HNX.out.below.trans ((hV3).mono HNX.out.below.size)) (fun _ => ?_)
          clear hK K2
          clear hrun hV3h
          try simp only [Act.put, List.setIfInBounds_toArray, List.set_cons_zero, List.set_cons_succ]
          refine wpAnyH_ready (rs := [9]) (by kernel_rfl) (by simp) ?_
          refine AllReadyH.cons (o := { dst := some 57, op := Go.Op.call { callee := Go.Callee.builtin Go.Builtin.append, args := #[Go.Operand.tmp 51, Go.Operand.tmp 56], argTypes := #[31, 31] }, type := 31, pos := "ref.go:205", after := #[{ on := 3, ground := Go.Ground.data }, { on := 8, ground := Go.Ground.data }, { on := 3, ground := Go.Ground.chain }], guard := none }) rfl (fun K2 hK => ?_) ?_
          ·obtain ⟨v2, V4, hrun, hown2, hKp, hon⟩ := app_psg1 (x := lAt l k) (c := ck) (by rw [Hpl.out] at hown; exact hown) HV0.out (by rw [Hls.out k hlt]; exact hT) (by rw [Hls.out k hlt]; exact HLb0.out) (by rw [Hls.out k hlt]; exact Hck.out) (by have := Hp9.out; omega)
           have hV4h := Lib.hid (show Below wj2.heap.size wj2 V4 from hV3.trans (hKp.below hV3.size (fun j hj e => by have := HB.out j e; omega)))
           have HPT := Lib.hid (show Value.ownBlock v2 ≠ some T from by rcases hon with h9 | h9 <;> rw [h9] <;> first | exact HOT.out | (intro e; have h8 : V3.heap.size = T := Option.some.inj e; have := lt_of_block hT; omega))
           replace hT := (hKp.block _ (lt_of_block hT) HOT.out).trans hT
           clear HOT
           have HOT := HPT
           clear HPT
           have HB2 := Lib.hid (show ∀ j, Value.ownBlock v2 = some j → wj2.heap.size ≤ j from fun j e => by rcases hon with h9 | h9 <;> rw [h9] at e <;> first | exact HB.out j e | (have h8 : V3.heap.size = j := Option.some.inj e; have := hV3.size; omega))
           clear HB hown hon hKp
           have HB := HB2
           have Hown := Lib.hid hown2
           clear HB2 hown2
           have hown9 := Hown.out
           clear Hown
           rw [Nat.zero_add] at hown9
           obtain ⟨C9, d9, rfl, hd9, hp9, hC9⟩ := pgr_own (q := psAt ps t ++ [lAt l k]) hown9 (rwv_snoc HV0.out (by rw [Hls.out k hlt]; exact HLb0.out) (by rw [Hls.out k hlt]; exact Hck.out)) (by rw [List.length_append, Hpl.out]; rfl)
           have HP9 := Lib.hid hp9
           have HC9 := Lib.hid (show ∀ b o, C9 = some ⟨b, o, none⟩ → wj2.heap.size ≤ b ∧ b < V4.heap.size from fun b o e => by have e2 := (hC9 b o e).1; have h1 := HB.out b e2; have h2 := own_lt hown9 b e2; exact ⟨h1, h2⟩)
           have Hd9 := Lib.hid hd9
           clear hp9 hC9 hown9 hd9
           go_simp
           try rw [hrun]
           try go_simp
           have hV4 := hV4h.out
           refine hK.out _ _ (HNX.out.below.trans ((hV4).mono HNX.out.below.size)) (fun _ => ?_)
           clear hK K2
           clear hrun hV4h
           try simp only [Act.put, List.setIfInBounds_toArray, List.set_cons_zero, List.set_cons_succ]
           obtain ⟨C8, c8, V8, r8, hnx⟩ := HNX.out.snoc hV4 (pl := pl + 1) (by rw [List.length_append, Hpl.out]; rfl) HP9.out HC9.out Hd9.out HQL.out
           rw [HQl.out] at r8 hnx
           have R8 := Lib.hid r8
           have HX8 := Lib.hid hnx
           clear r8 hnx
           refine wpAnyH_ready (rs := [10]) (by kernel_rfl) (by simp) ?_
           refine AllReadyH.cons (o := { dst := some 58, op := Go.Op.buildSlice 101 1 #[(0, Go.Operand.tmp 57)], type := 101, pos := "ref.go:205", after := #[{ on := 9, ground := Go.Ground.data }], guard := none }) rfl (fun K2 hK => ?_) AllReadyH.nil
           go_simp
           refine hK.out _ _ (HNX.out.below.trans ((hV4.trans ((below_alloc_ _ _).mono hV4.size)).mono HNX.out.below.size)) (fun hS9 => ?_)
           clear hK K2
           try simp only [Act.put, List.setIfInBounds_toArray, List.set_cons_zero, List.set_cons_succ]
           have r8 := R8.out
           refine wpAnyH_ready (rs := [11]) (by kernel_rfl) (by simp) ?_
           refine AllReadyH.cons (o := { dst := some 59, op := Go.Op.call { callee := Go.Callee.builtin Go.Builtin.append, args := #[Go.Operand.tmp 48, Go.Operand.tmp 58], argTypes := #[101, 101] }, type := 101, pos := "ref.go:205", after := #[{ on := 0, ground := Go.Ground.data }, { on := 10, ground := Go.Ground.data }, { on := 9, ground := Go.Ground.chain }], guard := none }) rfl (fun K2 hK => ?_) AllReadyH.nil
           go_simp
           try rw [r8]
           try go_simp
           refine hK.out _ _ HX8.out.below (fun hS10 => ?_)
           clear hK K2 r8 hS9
           try simp only [Act.put, List.setIfInBounds_toArray, List.set_cons_zero, List.set_cons_succ]
           refine wpAnyH_take (i := 12) (oi := { dst := some 7, op := Go.Op.assign (Go.Operand.tmp 59), type := 101, pos := "ref.go:205", after := #[{ on := 11, ground := Go.Ground.data }, { on := 11, ground := Go.Ground.chain }, { on := 0, ground := Go.Ground.phase }, { on := 1, ground := Go.Ground.phase }, { on := 2, ground := Go.Ground.phase }, { on := 3, ground := Go.Ground.phase }, { on := 4, ground := Go.Ground.phase }, { on := 5, ground := Go.Ground.phase }, { on := 6, ground := Go.Ground.phase }, { on := 7, ground := Go.Ground.phase }, { on := 8, ground := Go.Ground.phase }, { on := 9, ground := Go.Ground.phase }, { on := 10, ground := Go.Ground.phase }, { on := 11, ground := Go.Ground.phase }], guard := none }) (v := .slice C8 (qn + 1) c8) rfl (by kernel_rfl) (by kernel_rfl) (by kernel_rfl) (fun _ _ _ h => h) (Or.inl ⟨by rfl, by intro w2 hSw; (try dsimp only at hSw);  go_simp⟩) hS10 ?_
           try simp only [Act.put, List.setIfInBounds_toArray, List.set_cons_zero, List.set_cons_succ]
           refine wpAnyH_done (by kernel_rfl) ?_ _
           clear hS10
           go_wp2_with fail
           go_roundw
           case rel => exact ⟨k + 1, by omega, by go_num, Lib.hid (by rw [stepK_succ (by rw [Hll.out]; exact hlt), if_pos HE.out, ← List.append_assoc]; exact HX8.out)⟩
           case measure => simp [intOf]; omega
          exact AllReadyH.nil
         exact AllReadyH.nil
        exact AllReadyH.nil
       refine AllReadyH.cons (o := { dst := some 56, op := Go.Op.buildSlice 31 1 #[(0, Go.Operand.tmp 55)], type := 31, pos := "ref.go:205", after := #[{ on := 7, ground := Go.Ground.data }], guard := none }) rfl (fun K2 hK => ?_) ?_
       ·go_simp
        have hV1 := hV0.trans ((below_alloc_ V0 (.cells #[.slice Ck m ck] 40)).mono hV0.size)
        refine hK.out _ _ (HNX.out.below.trans ((hV1).mono HNX.out.below.size)) (fun _ => ?_)
        clear hK K2
        have hT := heap_alloc_new_ V0 (.cells #[.slice Ck m ck] 40)
        have hb := below_alloc_ V0 (.cells #[.slice Ck m ck] 40)
        have HT0 := Lib.hid (show wj2.heap.size ≤ V0.heap.size from hV0.size)
        generalize V0.alloc (.cells #[.slice Ck m ck] 40) = V1 at *
        obtain ⟨T, hTe⟩ : ∃ T, V0.heap.size = T := ⟨_, rfl⟩
        rw [hTe] at hT HT0 ⊢
        clear hTe hb
        try simp only [Act.put, List.setIfInBounds_toArray, List.set_cons_zero, List.set_cons_succ]
        refine wpAnyH_ready (rs := [1]) (by kernel_rfl) (by simp) ?_
        refine AllReadyH.cons (o := { dst := some 49, op := Go.Op.buildSlice 31 0 #[], type := 31, pos := "ref.go:205", after := #[], guard := none }) rfl (fun K2 hK => ?_) ?_
        ·go_simp
         have hV2 := hV1.trans ((below_alloc_ V1 (.cells #[] 40)).mono hV1.size)
         refine hK.out _ _ (HNX.out.below.trans ((hV2).mono HNX.out.below.size)) (fun _ => ?_)
         clear hK K2
         have hZ := heap_alloc_new_ V1 (.cells #[] 40)
         have hb := below_alloc_ V1 (.cells #[] 40)
         have HNTZ := Lib.hid (show T ≠ V1.heap.size from by have := lt_of_block hT; omega)
         replace hT := (hb.block _ (lt_of_block hT)).trans hT
         have HZ0 := Lib.hid (show wj2.heap.size ≤ V1.heap.size from hV1.size)
         have HOT := Lib.hid (show Value.ownBlock (.slice (some ⟨V1.heap.size, 0, none⟩) 0 0) ≠ some T from fun e => by have h9 : V1.heap.size = T := Option.some.inj e; exact HNTZ.out h9.symm)
         have HB := Lib.hid (show ∀ j, Value.ownBlock (.slice (some ⟨V1.heap.size, 0, none⟩) 0 0) = some j → wj2.heap.size ≤ j from fun j e => by have h9 : V1.heap.size = j := Option.some.inj e; have := HZ0.out; omega)
         generalize V1.alloc (.cells #[] 40) = V2 at *
         obtain ⟨Z, hZe⟩ : ∃ Z, V1.heap.size = Z := ⟨_, rfl⟩
         rw [hZe] at hZ HZ0 HNTZ HOT HB ⊢
         clear hZe hb
         have hown := own_empty (size := 1) hZ
         clear hZ
         try simp only [Act.put, List.setIfInBounds_toArray, List.set_cons_zero, List.set_cons_succ]
         refine wpAnyH_ready (rs := [3]) (by kernel_rfl) (by simp) ?_
         refine AllReadyH.cons (o := { dst := some 51, op := Go.Op.call { callee := Go.Callee.builtin Go.Builtin.append, args := #[Go.Operand.tmp 49, Go.Operand.tmp 50], argTypes := #[31, 31] }, type := 31, pos := "ref.go:205", after := #[{ on := 1, ground := Go.Ground.data }, { on := 2, ground := Go.Ground.data }], guard := none }) rfl (fun K2 hK => ?_) ?_
         ·obtain ⟨v1, vs0, V3, hrun, hv0, hown2, hKp, hon⟩ := app_psg (c2 := c9) HPg.out hV2 hown (by have := Hp9.out; omega)
          rw [Hpl.out] at hrun
          have HV0 := Lib.hid hv0
          clear hv0
          have hV3h := Lib.hid (show Below wj2.heap.size wj2 V3 from hV2.trans (hKp.below hV2.size (fun j hj e => by have := HB.out j e; omega)))
          have HPT := Lib.hid (show Value.ownBlock v1 ≠ some T from by rcases hon with h9 | h9 <;> rw [h9] <;> first | exact HOT.out | (intro e; have h8 : V2.heap.size = T := Option.some.inj e; have := lt_of_block hT; omega))
          replace hT := (hKp.block _ (lt_of_block hT) HOT.out).trans hT
          clear HOT
          have HOT := HPT
          clear HPT
          have HB2 := Lib.hid (show ∀ j, Value.ownBlock v1 = some j → wj2.heap.size ≤ j from fun j e => by rcases hon with h9 | h9 <;> rw [h9] at e <;> first | exact HB.out j e | (have h8 : V2.heap.size = j := Option.some.inj e; have := hV2.size; omega))
          clear HB hown hon hKp
          have HB := HB2
          have Hown := Lib.hid hown2
          clear HB2 hown2
          go_simp
          try rw [hrun]
          try go_simp
          have hown := Hown.out
          clear Hown
          have hV3 := hV3h.out
          refine hK.out _ _ (HNX.out.below.trans ((hV3).mono HNX.out.below.size)) (fun _ => ?_)
          clear hK K2
          clear hrun hV3h
          try simp only [Act.put, List.setIfInBounds_toArray, List.set_cons_zero, List.set_cons_succ]
          refine wpAnyH_ready (rs := [9]) (by kernel_rfl) (by simp) ?_
          refine AllReadyH.cons (o := { dst := some 57, op := Go.Op.call { callee := Go.Callee.builtin Go.Builtin.append, args := #[Go.Operand.tmp 51, Go.Operand.tmp 56], argTypes := #[31, 31] }, type := 31, pos := "ref.go:205", after := #[{ on := 3, ground := Go.Ground.data }, { on := 8, ground := Go.Ground.data }, { on := 3, ground := Go.Ground.chain }], guard := none }) rfl (fun K2 hK => ?_) ?_
          ·obtain ⟨v2, V4, hrun, hown2, hKp, hon⟩ := app_psg1 (x := lAt l k) (c := ck) (by rw [Hpl.out] at hown; exact hown) HV0.out (by rw [Hls.out k hlt]; exact hT) (by rw [Hls.out k hlt]; exact HLb0.out) (by rw [Hls.out k hlt]; exact Hck.out) (by have := Hp9.out; omega)
           have hV4h := Lib.hid (show Below wj2.heap.size wj2 V4 from hV3.trans (hKp.below hV3.size (fun j hj e => by have := HB.out j e; omega)))
           have HPT := Lib.hid (show Value.ownBlock v2 ≠ some T from by rcases hon with h9 | h9 <;> rw [h9] <;> first | exact HOT.out | (intro e; have h8 : V3.heap.size = T := Option.some.inj e; have := lt_of_block hT; omega))
           replace hT := (hKp.block _ (lt_of_block hT) HOT.out).trans hT
           clear HOT
           have HOT := HPT
           clear HPT
           have HB2 := Lib.hid (show ∀ j, Value.ownBlock v2 = some j → wj2.heap.size ≤ j from fun j e => by rcases hon with h9 | h9 <;> rw [h9] at e <;> first | exact HB.out j e | (have h8 : V3.heap.size = j := Option.some.inj e; have := hV3.size; omega))
           clear HB hown hon hKp
           have HB := HB2
           have Hown := Lib.hid hown2
           clear HB2 hown2
           have hown9 := Hown.out
           clear Hown
           rw [Nat.zero_add] at hown9
           obtain ⟨C9, d9, rfl, hd9, hp9, hC9⟩ := pgr_own (q := psAt ps t ++ [lAt l k]) hown9 (rwv_snoc HV0.out (by rw [Hls.out k hlt]; exact HLb0.out) (by rw [Hls.out k hlt]; exact Hck.out)) (by rw [List.length_append, Hpl.out]; rfl)
           have HP9 := Lib.hid hp9
           have HC9 := Lib.hid (show ∀ b o, C9 = some ⟨b, o, none⟩ → wj2.heap.size ≤ b ∧ b < V4.heap.size from fun b o e => by have e2 := (hC9 b o e).1; have h1 := HB.out b e2; have h2 := own_lt hown9 b e2; exact ⟨h1, h2⟩)
           have Hd9 := Lib.hid hd9
           clear hp9 hC9 hown9 hd9
           go_simp
           try rw [hrun]
           try go_simp
           have hV4 := hV4h.out
           refine hK.out _ _ (HNX.out.below.trans ((hV4).mono HNX.out.below.size)) (fun _ => ?_)
           clear hK K2
           clear hrun hV4h
           try simp only [Act.put, List.setIfInBounds_toArray, List.set_cons_zero, List.set_cons_succ]
           obtain ⟨C8, c8, V8, r8, hnx⟩ := HNX.out.snoc hV4 (pl := pl + 1) (by rw [List.length_append, Hpl.out]; rfl) HP9.out HC9.out Hd9.out HQL.out
           rw [HQl.out] at r8 hnx
           have R8 := Lib.hid r8
           have HX8 := Lib.hid hnx
           clear r8 hnx
           refine wpAnyH_ready (rs := [10]) (by kernel_rfl) (by simp) ?_
           refine AllReadyH.cons (o := { dst := some 58, op := Go.Op.buildSlice 101 1 #[(0, Go.Operand.tmp 57)], type := 101, pos := "ref.go:205", after := #[{ on := 9, ground := Go.Ground.data }], guard := none }) rfl (fun K2 hK => ?_) AllReadyH.nil
           go_simp
           refine hK.out _ _ (HNX.out.below.trans ((hV4.trans ((below_alloc_ _ _).mono hV4.size)).mono HNX.out.below.size)) (fun hS9 => ?_)
           clear hK K2
           try simp only [Act.put, List.setIfInBounds_toArray, List.set_cons_zero, List.set_cons_succ]
           have r8 := R8.out
           refine wpAnyH_ready (rs := [11]) (by kernel_rfl) (by simp) ?_
           refine AllReadyH.cons (o := { dst := some 59, op := Go.Op.call { callee := Go.Callee.builtin Go.Builtin.append, args := #[Go.Operand.tmp 48, Go.Operand.tmp 58], argTypes := #[101, 101] }, type := 101, pos := "ref.go:205", after := #[{ on := 0, ground := Go.Ground.data }, { on := 10, ground := Go.Ground.data }, { on := 9, ground := Go.Ground.chain }], guard := none }) rfl (fun K2 hK => ?_) AllReadyH.nil
           go_simp
           try rw [r8]
           try go_simp
           refine hK.out _ _ HX8.out.below (fun hS10 => ?_)
           clear hK K2 r8 hS9
           try simp only [Act.put, List.setIfInBounds_toArray, List.set_cons_zero, List.set_cons_succ]
           refine wpAnyH_take (i := 12) (oi := { dst := some 7, op := Go.Op.assign (Go.Operand.tmp 59), type := 101, pos := "ref.go:205", after := #[{ on := 11, ground := Go.Ground.data }, { on := 11, ground := Go.Ground.chain }, { on := 0, ground := Go.Ground.phase }, { on := 1, ground := Go.Ground.phase }, { on := 2, ground := Go.Ground.phase }, { on := 3, ground := Go.Ground.phase }, { on := 4, ground := Go.Ground.phase }, { on := 5, ground := Go.Ground.phase }, { on := 6, ground := Go.Ground.phase }, { on := 7, ground := Go.Ground.phase }, { on := 8, ground := Go.Ground.phase }, { on := 9, ground := Go.Ground.phase }, { on := 10, ground := Go.Ground.phase }, { on := 11, ground := Go.Ground.phase }], guard := none }) (v := .slice C8 (qn + 1) c8) rfl (by kernel_rfl) (by kernel_rfl) (by kernel_rfl) (fun _ _ _ h => h) (Or.inl ⟨by rfl, by intro w2 hSw; (try dsimp only at hSw);  go_simp⟩) hS10 ?_
           try simp only [Act.put, List.setIfInBounds_toArray, List.set_cons_zero, List.set_cons_succ]
           refine wpAnyH_done (by kernel_rfl) ?_ _
           clear hS10
           go_wp2_with fail
           go_roundw
           case rel => exact ⟨k + 1, by omega, by go_num, Lib.hid (by rw [stepK_succ (by rw [Hll.out]; exact hlt), if_pos HE.out, ← List.append_assoc]; exact HX8.out)⟩
           case measure => simp [intOf]; omega
          exact AllReadyH.nil
         exact AllReadyH.nil
        exact AllReadyH.nil
       exact AllReadyH.nil
      ·have dq : ((pl : Int) == 0) = false := by rw [beq_eq_false_iff_ne]; omega
       obtain ⟨tq, htq⟩ : ∃ tq, pl = tq + 1 := ⟨pl - 1, by omega⟩
       have dt : (pl : Int) - 1 = (tq : Int) := by omega
       have j2 : (0 : Int) ≤ (tq : Int) := by omega
       have j3 : (tq : Int) < (pl : Int) := by omega
       have jn : tq < pl := by omega
       have w7 : IntKind.i64.wrap (tq : Int) = tq := IntWalk.i64_in _ (by omega)
       have Htq := Lib.hid htq
       have hLp := HPg.out.lns ((HBq.out.trans (HNX.out.below.mono HBq.out.size)))
       rw [Hpl.out] at hLp
       obtain ⟨bp, op, rfl, hok⟩ := hLp.2 (by omega)
       obtain ⟨Cq, cq, a0, aI, -⟩ := hok tq jn
       have hm9 : (lAt (psAt ps t) tq).length = m := by
        have h7 := chs_mem (Hmem.out) (lAt (psAt ps t) tq) (by rw [lAt_eq (by rw [Hpl.out]; exact jn)]; exact List.getElem_mem _)
        obtain ⟨u, hu, e⟩ := List.getElem_of_mem h7
        rw [← e, ← lAt_eq hu]
        exact Hls.out u (by rw [← Hll.out]; exact hu)
       rw [hm9] at a0 aI
       obtain ⟨la, hla⟩ : ∃ la, lAt (psAt ps t) tq = la := ⟨_, rfl⟩
       obtain ⟨lb, hlb⟩ : ∃ lb, lAt l k = lb := ⟨_, rfl⟩
       rw [hla] at aI
       have HLa := Lib.hid aI
       have hee := ext_at (m := m) (psAt ps t) (lAt l k)
       rw [Hpl.out, htq, Nat.add_sub_cancel, hla] at hee
       have HEE := Lib.hid hee
       clear htq hok aI hm9 hla hee hLp
       cases hbb : befB la lb m with
       | true =>
        have HBe := Lib.hid hbb
        have HE := Lib.hid (show ext (ltM m) (psAt ps t) (lAt l k) = true by rw [HEE.out, hlb, hbb, Bool.or_true])
        rw [hlb] at HLb
        clear hbb
        go_wp2_with fail
        refine wp_region_held_drew (S := fun w2 => Below wj.heap.size wj w2) (by kernel_rfl) (drew_b _ _) (fun hS0 => ?_)
        refine wpAnyH_take (i := 0) (oi := { dst := some 32, op := Go.Op.move (Go.Operand.tmp 9), type := 31, pos := "ref.go:204", after := #[], guard := none }) (v := .slice (some ⟨bp, op, none⟩) pl c9) rfl (by kernel_rfl) (by kernel_rfl) (by kernel_rfl) (fun _ _ _ h => h) (Or.inl ⟨by rfl, by intro w2 hSw; (try dsimp only at hSw); go_simp⟩) hS0 ?_
        try simp only [Act.put, List.setIfInBounds_toArray, List.set_cons_zero, List.set_cons_succ]
        refine wpAnyH_take (i := 1) (oi := { dst := some 33, op := Go.Op.call { callee := Go.Callee.builtin Go.Builtin.len, args := #[Go.Operand.tmp 32], argTypes := #[31] }, type := 3, pos := "ref.go:204", after := #[{ on := 0, ground := Go.Ground.data }], guard := none }) (v := .int .i64 (pl : Int)) rfl (by kernel_rfl) (by kernel_rfl) (by kernel_rfl) (fun _ _ _ h => h) (Or.inl ⟨by rfl, by intro w2 hSw; (try dsimp only at hSw); go_simp⟩) hS0 ?_
        try simp only [Act.put, List.setIfInBounds_toArray, List.set_cons_zero, List.set_cons_succ]
        refine wpAnyH_take (i := 2) (oi := { dst := some 34, op := Go.Op.binOp Go.BinOp.eql 3 (Go.Operand.tmp 33) (Go.Operand.const (Go.Value.int Go.IntKind.i64 0)) 3, type := 4, pos := "ref.go:204", after := #[{ on := 1, ground := Go.Ground.data }], guard := none }) (v := .bool false) rfl (by kernel_rfl) (by kernel_rfl) (by kernel_rfl) (fun _ _ _ h => h) (Or.inl ⟨by rfl, by intro w2 hSw; (try dsimp only at hSw); go_simp⟩) hS0 ?_
        try simp only [Act.put, List.setIfInBounds_toArray, List.set_cons_zero, List.set_cons_succ]
        refine wpAnyH_take (i := 3) (oi := { dst := some 35, op := Go.Op.move (Go.Operand.tmp 34), type := 4, pos := "ref.go:204", after := #[{ on := 2, ground := Go.Ground.data }], guard := none }) (v := .bool false) rfl (by kernel_rfl) (by kernel_rfl) (by kernel_rfl) (fun _ _ _ h => h) (Or.inl ⟨by rfl, by intro w2 hSw; (try dsimp only at hSw); go_simp⟩) hS0 ?_
        try simp only [Act.put, List.setIfInBounds_toArray, List.set_cons_zero, List.set_cons_succ]
        refine wpAnyH_take (i := 4) (oi := { dst := some 36, op := Go.Op.move (Go.Operand.tmp 9), type := 31, pos := "ref.go:204", after := #[{ on := 3, ground := Go.Ground.guard }], guard := some (3, false) }) (v := .slice (some ⟨bp, op, none⟩) pl c9) rfl (by kernel_rfl) (by kernel_rfl) (by kernel_rfl) (fun _ _ _ h => h) (Or.inl ⟨by rfl, by intro w2 hSw; (try dsimp only at hSw); go_simp⟩) hS0 ?_
        try simp only [Act.put, List.setIfInBounds_toArray, List.set_cons_zero, List.set_cons_succ]
        refine wpAnyH_take (i := 5) (oi := { dst := some 37, op := Go.Op.move (Go.Operand.tmp 9), type := 31, pos := "ref.go:204", after := #[{ on := 3, ground := Go.Ground.guard }], guard := some (3, false) }) (v := .slice (some ⟨bp, op, none⟩) pl c9) rfl (by kernel_rfl) (by kernel_rfl) (by kernel_rfl) (fun _ _ _ h => h) (Or.inl ⟨by rfl, by intro w2 hSw; (try dsimp only at hSw); go_simp⟩) hS0 ?_
        try simp only [Act.put, List.setIfInBounds_toArray, List.set_cons_zero, List.set_cons_succ]
        refine wpAnyH_take (i := 6) (oi := { dst := some 38, op := Go.Op.call { callee := Go.Callee.builtin Go.Builtin.len, args := #[Go.Operand.tmp 37], argTypes := #[31] }, type := 3, pos := "ref.go:204", after := #[{ on := 5, ground := Go.Ground.data }, { on := 3, ground := Go.Ground.guard }], guard := some (3, false) }) (v := .int .i64 (pl : Int)) rfl (by kernel_rfl) (by kernel_rfl) (by kernel_rfl) (fun _ _ _ h => h) (Or.inl ⟨by rfl, by intro w2 hSw; (try dsimp only at hSw); go_simp⟩) hS0 ?_
        try simp only [Act.put, List.setIfInBounds_toArray, List.set_cons_zero, List.set_cons_succ]
        refine wpAnyH_take (i := 7) (oi := { dst := some 39, op := Go.Op.binOp Go.BinOp.sub 3 (Go.Operand.tmp 38) (Go.Operand.const (Go.Value.int Go.IntKind.i64 1)) 3, type := 3, pos := "ref.go:204", after := #[{ on := 6, ground := Go.Ground.data }, { on := 3, ground := Go.Ground.guard }], guard := some (3, false) }) (v := .int .i64 (tq : Int)) rfl (by kernel_rfl) (by kernel_rfl) (by kernel_rfl) (fun _ _ _ h => h) (Or.inl ⟨by rfl, by intro w2 hSw; (try dsimp only at hSw); go_simp⟩) hS0 ?_
        try simp only [Act.put, List.setIfInBounds_toArray, List.set_cons_zero, List.set_cons_succ]
        refine wpAnyH_take (i := 8) (oi := { dst := some 40, op := Go.Op.indexAddr 31 (Go.Operand.tmp 36) (Go.Operand.tmp 39), type := 0, pos := "ref.go:204", after := #[{ on := 4, ground := Go.Ground.data }, { on := 7, ground := Go.Ground.data }, { on := 3, ground := Go.Ground.guard }], guard := some (3, false) }) (v := .pointer (some ⟨bp, op + tq, none⟩)) rfl (by kernel_rfl) (by kernel_rfl) (by kernel_rfl) (fun _ _ _ h => h) (Or.inl ⟨by rfl, by intro w2 hSw; (try dsimp only at hSw); go_simp⟩) hS0 ?_
        try simp only [Act.put, List.setIfInBounds_toArray, List.set_cons_zero, List.set_cons_succ]
        refine wpAnyH_take (i := 9) (oi := { dst := some 41, op := Go.Op.load 40 (Go.Operand.tmp 40), type := 40, pos := "ref.go:204", after := #[{ on := 8, ground := Go.Ground.data }, { on := 3, ground := Go.Ground.guard }], guard := some (3, false) }) (v := .slice Cq m cq) rfl (by kernel_rfl) (by kernel_rfl) (by kernel_rfl) (fun _ _ _ h => h) (Or.inl ⟨by rfl, by intro w2 hSw; (try dsimp only at hSw); have q_a := (hSw.cell (p := ⟨bp, op + tq, none⟩) (lt_of_cell a0)).trans a0; go_simp⟩) hS0 ?_
        try simp only [Act.put, List.setIfInBounds_toArray, List.set_cons_zero, List.set_cons_succ]
        refine wpAnyH_take (i := 10) (oi := { dst := some 42, op := Go.Op.move (Go.Operand.tmp 5), type := 31, pos := "ref.go:204", after := #[{ on := 3, ground := Go.Ground.guard }], guard := some (3, false) }) (v := .slice (some ⟨bl, ol, none⟩) N cl) rfl (by kernel_rfl) (by kernel_rfl) (by kernel_rfl) (fun _ _ _ h => h) (Or.inl ⟨by rfl, by intro w2 hSw; (try dsimp only at hSw); go_simp⟩) hS0 ?_
        try simp only [Act.put, List.setIfInBounds_toArray, List.set_cons_zero, List.set_cons_succ]
        refine wpAnyH_take (i := 11) (oi := { dst := some 43, op := Go.Op.move (Go.Operand.tmp 10), type := 3, pos := "ref.go:204", after := #[{ on := 3, ground := Go.Ground.guard }], guard := some (3, false) }) (v := .int .i64 (k : Int)) rfl (by kernel_rfl) (by kernel_rfl) (by kernel_rfl) (fun _ _ _ h => h) (Or.inl ⟨by rfl, by intro w2 hSw; (try dsimp only at hSw); go_simp⟩) hS0 ?_
        try simp only [Act.put, List.setIfInBounds_toArray, List.set_cons_zero, List.set_cons_succ]
        refine wpAnyH_take (i := 12) (oi := { dst := some 44, op := Go.Op.indexAddr 31 (Go.Operand.tmp 42) (Go.Operand.tmp 43), type := 0, pos := "ref.go:204", after := #[{ on := 10, ground := Go.Ground.data }, { on := 11, ground := Go.Ground.data }, { on := 3, ground := Go.Ground.guard }], guard := some (3, false) }) (v := .pointer (some ⟨bl, ol + k, none⟩)) rfl (by kernel_rfl) (by kernel_rfl) (by kernel_rfl) (fun _ _ _ h => h) (Or.inl ⟨by rfl, by intro w2 hSw; (try dsimp only at hSw); go_simp⟩) hS0 ?_
        try simp only [Act.put, List.setIfInBounds_toArray, List.set_cons_zero, List.set_cons_succ]
        refine wpAnyH_take (i := 13) (oi := { dst := some 45, op := Go.Op.load 40 (Go.Operand.tmp 44), type := 40, pos := "ref.go:204", after := #[{ on := 12, ground := Go.Ground.data }, { on := 3, ground := Go.Ground.guard }], guard := some (3, false) }) (v := .slice Ck m ck) rfl (by kernel_rfl) (by kernel_rfl) (by kernel_rfl) (fun _ _ _ h => h) (Or.inl ⟨by rfl, by intro w2 hSw; (try dsimp only at hSw); have q_b := (hSw.cell (p := ⟨bl, ol + k, none⟩) (lt_of_cell b0)).trans b0; go_simp⟩) hS0 ?_
        try simp only [Act.put, List.setIfInBounds_toArray, List.set_cons_zero, List.set_cons_succ]
        refine wpAnyH_ready (rs := [14]) (by kernel_rfl) (by simp) ?_
        refine AllReadyH.cons (o := { dst := some 46, op := Go.Op.call { callee := Go.Callee.value (Go.Operand.func 63), args := #[Go.Operand.tmp 41, Go.Operand.tmp 45], argTypes := #[40, 40] }, type := 4, pos := "ref.go:204", after := #[{ on := 9, ground := Go.Ground.data }, { on := 13, ground := Go.Ground.data }, { on := 3, ground := Go.Ground.chain }, { on := 3, ground := Go.Ground.guard }], guard := some (3, false) }) rfl (fun K2 hK => ?_) AllReadyH.nil
        go_simp
        refine (before63 Cq m cq la Ck m ck lb _ (HLa.out.below hS0 (Nat.le_refl _)) (HLb.out.below hS0 (Nat.le_refl _)) (Nat.le_refl _) (by omega)).mono ?_
        rintro e9 V1 ⟨rfl, hb9⟩
        rw [HBe.out]
        (try go_simp)
        refine hK.out _ _ (hS0.trans (hb9.mono hS0.size)) (fun hS1 => ?_)
        clear hK K2 hb9
        try simp only [Act.put, List.setIfInBounds_toArray, List.set_cons_zero, List.set_cons_succ]
        refine wpAnyH_take (i := 15) (oi := { dst := some 47, op := Go.Op.pick (Go.Operand.tmp 35) (Go.Operand.const (Go.Value.bool true)) (Go.Operand.tmp 46), type := 4, pos := "ref.go:204", after := #[{ on := 3, ground := Go.Ground.data }, { on := 14, ground := Go.Ground.data }], guard := none }) (v := .bool true) rfl (by kernel_rfl) (by kernel_rfl) (by kernel_rfl) (fun _ _ _ h => h) (Or.inl ⟨by rfl, by intro w2 hSw; (try dsimp only at hSw); go_simp⟩) hS1 ?_
        try simp only [Act.put, List.setIfInBounds_toArray, List.set_cons_zero, List.set_cons_succ]
        refine wpAnyH_done (by kernel_rfl) ?_ _
        clear dq
        try clear a0 b0
        go_upto_region 12 with fail
        obtain ⟨wj2, hwj2⟩ : ∃ wj2, wj2 = V1 := ⟨_, rfl⟩
        rw [← hwj2] at hS1 ⊢
        replace HNX := Lib.hid (HNX.out.next hS1)
        replace HPg := Lib.hid (HPg.out.keep (Keeps.of_new (Mut := fun _ => False) hS1) (fun _ _ _ e => e))
        clear hS0 hS1 hwj2
        refine wp_region_held_drew (S := fun w2 => Below wq.heap.size wq w2) (by kernel_rfl) (HNX.out.below.trans ((drew_b _ _).mono HNX.out.below.size)) (fun hS0 => ?_)
        refine wpAnyH_take (i := 0) (oi := { dst := some 48, op := Go.Op.move (Go.Operand.tmp 7), type := 101, pos := "ref.go:205", after := #[], guard := none }) (v := .slice Cx qn cx) rfl (by kernel_rfl) (by kernel_rfl) (by kernel_rfl) (fun _ _ _ h => h) (Or.inl ⟨by rfl, by intro w2 hSw; (try dsimp only at hSw);  go_simp⟩) hS0 ?_
        try simp only [Act.put, List.setIfInBounds_toArray, List.set_cons_zero, List.set_cons_succ]
        refine wpAnyH_take (i := 2) (oi := { dst := some 50, op := Go.Op.move (Go.Operand.tmp 9), type := 31, pos := "ref.go:205", after := #[], guard := none }) (v := .slice (some ⟨bp, op, none⟩) pl c9) rfl (by kernel_rfl) (by kernel_rfl) (by kernel_rfl) (fun _ _ _ h => h) (Or.inl ⟨by rfl, by intro w2 hSw; (try dsimp only at hSw);  go_simp⟩) hS0 ?_
        try simp only [Act.put, List.setIfInBounds_toArray, List.set_cons_zero, List.set_cons_succ]
        refine wpAnyH_take (i := 4) (oi := { dst := some 52, op := Go.Op.move (Go.Operand.tmp 5), type := 31, pos := "ref.go:205", after := #[], guard := none }) (v := .slice (some ⟨bl, ol, none⟩) N cl) rfl (by kernel_rfl) (by kernel_rfl) (by kernel_rfl) (fun _ _ _ h => h) (Or.inl ⟨by rfl, by intro w2 hSw; (try dsimp only at hSw);  go_simp⟩) hS0 ?_
        try simp only [Act.put, List.setIfInBounds_toArray, List.set_cons_zero, List.set_cons_succ]
        refine wpAnyH_take (i := 5) (oi := { dst := some 53, op := Go.Op.move (Go.Operand.tmp 10), type := 3, pos := "ref.go:205", after := #[], guard := none }) (v := .int .i64 (k : Int)) rfl (by kernel_rfl) (by kernel_rfl) (by kernel_rfl) (fun _ _ _ h => h) (Or.inl ⟨by rfl, by intro w2 hSw; (try dsimp only at hSw);  go_simp⟩) hS0 ?_
        try simp only [Act.put, List.setIfInBounds_toArray, List.set_cons_zero, List.set_cons_succ]
        refine wpAnyH_take (i := 6) (oi := { dst := some 54, op := Go.Op.indexAddr 31 (Go.Operand.tmp 52) (Go.Operand.tmp 53), type := 0, pos := "ref.go:205", after := #[{ on := 4, ground := Go.Ground.data }, { on := 5, ground := Go.Ground.data }], guard := none }) (v := .pointer (some ⟨bl, ol + k, none⟩)) rfl (by kernel_rfl) (by kernel_rfl) (by kernel_rfl) (fun _ _ _ h => h) (Or.inl ⟨by rfl, by intro w2 hSw; (try dsimp only at hSw);  go_simp⟩) hS0 ?_
        try simp only [Act.put, List.setIfInBounds_toArray, List.set_cons_zero, List.set_cons_succ]
        refine wpAnyH_take (i := 7) (oi := { dst := some 55, op := Go.Op.load 40 (Go.Operand.tmp 54), type := 40, pos := "ref.go:205", after := #[{ on := 6, ground := Go.Ground.data }], guard := none }) (v := .slice Ck m ck) rfl (by kernel_rfl) (by kernel_rfl) (by kernel_rfl) (fun _ _ _ h => h) (Or.inl ⟨by rfl, by intro w2 hSw; (try dsimp only at hSw); have q_b := (hSw.cell (p := ⟨bl, ol + k, none⟩) (lt_of_cell bq)).trans bq; go_simp⟩) hS0 ?_
        try simp only [Act.put, List.setIfInBounds_toArray, List.set_cons_zero, List.set_cons_succ]
        have hV0 := drew_b wj2 1
        rw [show wj2.drewN 1 = wj2.drew from rfl] at hV0
        generalize wj2.drew = V0 at hS0 hV0 ⊢
        clear hS0
        refine wpAnyH_ready (rs := [1, 8]) (by kernel_rfl) (by simp) ?_
        refine AllReadyH.cons (o := { dst := some 49, op := Go.Op.buildSlice 31 0 #[], type := 31, pos := "ref.go:205", after := #[], guard := none }) rfl (fun K2 hK => ?_) ?_
        ·go_simp
         have hV1 := hV0.trans ((below_alloc_ V0 (.cells #[] 40)).mono hV0.size)
         refine hK.out _ _ (HNX.out.below.trans ((hV1).mono HNX.out.below.size)) (fun _ => ?_)
         clear hK K2
         have hZ := heap_alloc_new_ V0 (.cells #[] 40)
         have hb := below_alloc_ V0 (.cells #[] 40)
         have HZ0 := Lib.hid (show wj2.heap.size ≤ V0.heap.size from hV0.size)
         have HB := Lib.hid (show ∀ j, Value.ownBlock (.slice (some ⟨V0.heap.size, 0, none⟩) 0 0) = some j → wj2.heap.size ≤ j from fun j e => by have h9 : V0.heap.size = j := Option.some.inj e; have := HZ0.out; omega)
         generalize V0.alloc (.cells #[] 40) = V1 at *
         obtain ⟨Z, hZe⟩ : ∃ Z, V0.heap.size = Z := ⟨_, rfl⟩
         rw [hZe] at hZ HZ0 HB ⊢
         clear hZe hb
         have hown := own_empty (size := 1) hZ
         clear hZ
         try simp only [Act.put, List.setIfInBounds_toArray, List.set_cons_zero, List.set_cons_succ]
         refine wpAnyH_ready (rs := [3, 8]) (by kernel_rfl) (by simp) ?_
         refine AllReadyH.cons (o := { dst := some 51, op := Go.Op.call { callee := Go.Callee.builtin Go.Builtin.append, args := #[Go.Operand.tmp 49, Go.Operand.tmp 50], argTypes := #[31, 31] }, type := 31, pos := "ref.go:205", after := #[{ on := 1, ground := Go.Ground.data }, { on := 2, ground := Go.Ground.data }], guard := none }) rfl (fun K2 hK => ?_) ?_
         ·obtain ⟨v1, vs0, V2, hrun, hv0, hown2, hKp, hon⟩ := app_psg (c2 := c9) HPg.out hV1 hown (by have := Hp9.out; omega)
          rw [Hpl.out] at hrun
          have HV0 := Lib.hid hv0
          clear hv0
          have hV2h := Lib.hid (show Below wj2.heap.size wj2 V2 from hV1.trans (hKp.below hV1.size (fun j hj e => by have := HB.out j e; omega)))
          have HB2 := Lib.hid (show ∀ j, Value.ownBlock v1 = some j → wj2.heap.size ≤ j from fun j e => by rcases hon with h9 | h9 <;> rw [h9] at e <;> first | exact HB.out j e | (have h8 : V1.heap.size = j := Option.some.inj e; have := hV1.size; omega))
          clear HB hown hon hKp
          have HB := HB2
          have Hown := Lib.hid hown2
          clear HB2 hown2
          go_simp
          try rw [hrun]
          try go_simp
          have hown := Hown.out
          clear Hown
          have hV2 := hV2h.out
          refine hK.out _ _ (HNX.out.below.trans ((hV2).mono HNX.out.below.size)) (fun _ => ?_)
          clear hK K2
          clear hrun hV2h
          try simp only [Act.put, List.setIfInBounds_toArray, List.set_cons_zero, List.set_cons_succ]
          refine wpAnyH_ready (rs := [8]) (by kernel_rfl) (by simp) ?_
          refine AllReadyH.cons (o := { dst := some 56, op := Go.Op.buildSlice 31 1 #[(0, Go.Operand.tmp 55)], type := 31, pos := "ref.go:205", after := #[{ on := 7, ground := Go.Ground.data }], guard := none }) rfl (fun K2 hK => ?_) ?_
          ·go_simp
           have hV3 := hV2.trans ((below_alloc_ V2 (.cells #[.slice Ck m ck] 40)).mono hV2.size)
           refine hK.out _ _ (HNX.out.below.trans ((hV3).mono HNX.out.below.size)) (fun _ => ?_)
           clear hK K2
           have hT := heap_alloc_new_ V2 (.cells #[.slice Ck m ck] 40)
           have hb := below_alloc_ V2 (.cells #[.slice Ck m ck] 40)
           have HOT := Lib.hid (show Value.ownBlock (v1) ≠ some V2.heap.size from fun e => by have := own_lt hown _ e; omega)
           replace hown := own_keep hown (Keeps.of_new (Mut := fun _ => False) hb) (fun _ _ e => e)
           have HT0 := Lib.hid (show wj2.heap.size ≤ V2.heap.size from hV2.size)
           generalize V2.alloc (.cells #[.slice Ck m ck] 40) = V3 at *
           obtain ⟨T, hTe⟩ : ∃ T, V2.heap.size = T := ⟨_, rfl⟩
           rw [hTe] at hT HT0 HOT ⊢
           clear hTe hb
           try simp only [Act.put, List.setIfInBounds_toArray, List.set_cons_zero, List.set_cons_succ]
           refine wpAnyH_ready (rs := [9]) (by kernel_rfl) (by simp) ?_
           refine AllReadyH.cons (o := { dst := some 57, op := Go.Op.call { callee := Go.Callee.builtin Go.Builtin.append, args := #[Go.Operand.tmp 51, Go.Operand.tmp 56], argTypes := #[31, 31] }, type := 31, pos := "ref.go:205", after := #[{ on := 3, ground := Go.Ground.data }, { on := 8, ground := Go.Ground.data }, { on := 3, ground := Go.Ground.chain }], guard := none }) rfl (fun K2 hK => ?_) ?_
           ·obtain ⟨v2, V4, hrun, hown2, hKp, hon⟩ := app_psg1 (x := lAt l k) (c := ck) (by rw [Hpl.out] at hown; exact hown) HV0.out (by rw [Hls.out k hlt]; exact hT) (by rw [Hls.out k hlt]; exact HLb0.out) (by rw [Hls.out k hlt]; exact Hck.out) (by have := Hp9.out; omega)
            have hV4h := Lib.hid (show Below wj2.heap.size wj2 V4 from hV3.trans (hKp.below hV3.size (fun j hj e => by have := HB.out j e; omega)))
            have HPT := Lib.hid (show Value.ownBlock v2 ≠ some T from by rcases hon with h9 | h9 <;> rw [h9] <;> first | exact HOT.out | (intro e; have h8 : V3.heap.size = T := Option.some.inj e; have := lt_of_block hT; omega))
            replace hT := (hKp.block _ (lt_of_block hT) HOT.out).trans hT
            clear HOT
            have HOT := HPT
            clear HPT
            have HB2 := Lib.hid (show ∀ j, Value.ownBlock v2 = some j → wj2.heap.size ≤ j from fun j e => by rcases hon with h9 | h9 <;> rw [h9] at e <;> first | exact HB.out j e | (have h8 : V3.heap.size = j := Option.some.inj e; have := hV3.size; omega))
            clear HB hown hon hKp
            have HB := HB2
            have Hown := Lib.hid hown2
            clear HB2 hown2
            have hown9 := Hown.out
            clear Hown
            rw [Nat.zero_add] at hown9
            obtain ⟨C9, d9, rfl, hd9, hp9, hC9⟩ := pgr_own (q := psAt ps t ++ [lAt l k]) hown9 (rwv_snoc HV0.out (by rw [Hls.out k hlt]; exact HLb0.out) (by rw [Hls.out k hlt]; exact Hck.out)) (by rw [List.length_append, Hpl.out]; rfl)
            have HP9 := Lib.hid hp9
            have HC9 := Lib.hid (show ∀ b o, C9 = some ⟨b, o, none⟩ → wj2.heap.size ≤ b ∧ b < V4.heap.size from fun b o e => by have e2 := (hC9 b o e).1; have h1 := HB.out b e2; have h2 := own_lt hown9 b e2; exact ⟨h1, h2⟩)
            have Hd9 := Lib.hid hd9
            clear hp9 hC9 hown9 hd9
            go_simp
            try rw [hrun]
            try go_simp
            have hV4 := hV4h.out
            refine hK.out _ _ (HNX.out.below.trans ((hV4).mono HNX.out.below.size)) (fun _ => ?_)
            clear hK K2
            clear hrun hV4h
            try simp only [Act.put, List.setIfInBounds_toArray, List.set_cons_zero, List.set_cons_succ]
            obtain ⟨C8, c8, V8, r8, hnx⟩ := HNX.out.snoc hV4 (pl := pl + 1) (by rw [List.length_append, Hpl.out]; rfl) HP9.out HC9.out Hd9.out HQL.out
            rw [HQl.out] at r8 hnx
            have R8 := Lib.hid r8
            have HX8 := Lib.hid hnx
            clear r8 hnx
            refine wpAnyH_ready (rs := [10]) (by kernel_rfl) (by simp) ?_
            refine AllReadyH.cons (o := { dst := some 58, op := Go.Op.buildSlice 101 1 #[(0, Go.Operand.tmp 57)], type := 101, pos := "ref.go:205", after := #[{ on := 9, ground := Go.Ground.data }], guard := none }) rfl (fun K2 hK => ?_) AllReadyH.nil
            go_simp
            refine hK.out _ _ (HNX.out.below.trans ((hV4.trans ((below_alloc_ _ _).mono hV4.size)).mono HNX.out.below.size)) (fun hS9 => ?_)
            clear hK K2
            try simp only [Act.put, List.setIfInBounds_toArray, List.set_cons_zero, List.set_cons_succ]
            have r8 := R8.out
            refine wpAnyH_ready (rs := [11]) (by kernel_rfl) (by simp) ?_
            refine AllReadyH.cons (o := { dst := some 59, op := Go.Op.call { callee := Go.Callee.builtin Go.Builtin.append, args := #[Go.Operand.tmp 48, Go.Operand.tmp 58], argTypes := #[101, 101] }, type := 101, pos := "ref.go:205", after := #[{ on := 0, ground := Go.Ground.data }, { on := 10, ground := Go.Ground.data }, { on := 9, ground := Go.Ground.chain }], guard := none }) rfl (fun K2 hK => ?_) AllReadyH.nil
            go_simp
            try rw [r8]
            try go_simp
            refine hK.out _ _ HX8.out.below (fun hS10 => ?_)
            clear hK K2 r8 hS9
            try simp only [Act.put, List.setIfInBounds_toArray, List.set_cons_zero, List.set_cons_succ]
            refine wpAnyH_take (i := 12) (oi := { dst := some 7, op := Go.Op.assign (Go.Operand.tmp 59), type := 101, pos := "ref.go:205", after := #[{ on := 11, ground := Go.Ground.data }, { on := 11, ground := Go.Ground.chain }, { on := 0, ground := Go.Ground.phase }, { on := 1, ground := Go.Ground.phase }, { on := 2, ground := Go.Ground.phase }, { on := 3, ground := Go.Ground.phase }, { on := 4, ground := Go.Ground.phase }, { on := 5, ground := Go.Ground.phase }, { on := 6, ground := Go.Ground.phase }, { on := 7, ground := Go.Ground.phase }, { on := 8, ground := Go.Ground.phase }, { on := 9, ground := Go.Ground.phase }, { on := 10, ground := Go.Ground.phase }, { on := 11, ground := Go.Ground.phase }], guard := none }) (v := .slice C8 (qn + 1) c8) rfl (by kernel_rfl) (by kernel_rfl) (by kernel_rfl) (fun _ _ _ h => h) (Or.inl ⟨by rfl, by intro w2 hSw; (try dsimp only at hSw);  go_simp⟩) hS10 ?_
            try simp only [Act.put, List.setIfInBounds_toArray, List.set_cons_zero, List.set_cons_succ]
            refine wpAnyH_done (by kernel_rfl) ?_ _
            clear hS10
            go_wp2_with fail
            go_roundw
            case rel => exact ⟨k + 1, by omega, by go_num, Lib.hid (by rw [stepK_succ (by rw [Hll.out]; exact hlt), if_pos HE.out, ← List.append_assoc]; exact HX8.out)⟩
            case measure => simp [intOf]; omega
           exact AllReadyH.nil
          exact AllReadyH.nil
         refine AllReadyH.cons (o := { dst := some 56, op := Go.Op.buildSlice 31 1 #[(0, Go.Operand.tmp 55)], type := 31, pos := "ref.go:205", after := #[{ on := 7, ground := Go.Ground.data }], guard := none }) rfl (fun K2 hK => ?_) ?_
         ·go_simp
          have hV2 := hV1.trans ((below_alloc_ V1 (.cells #[.slice Ck m ck] 40)).mono hV1.size)
          refine hK.out _ _ (HNX.out.below.trans ((hV2).mono HNX.out.below.size)) (fun _ => ?_)
          clear hK K2
          have hT := heap_alloc_new_ V1 (.cells #[.slice Ck m ck] 40)
          have hb := below_alloc_ V1 (.cells #[.slice Ck m ck] 40)
          have HOT := Lib.hid (show Value.ownBlock (.slice (some ⟨Z, 0, none⟩) 0 0) ≠ some V1.heap.size from fun e => by have := own_lt hown _ e; omega)
          replace hown := own_keep hown (Keeps.of_new (Mut := fun _ => False) hb) (fun _ _ e => e)
          have HT0 := Lib.hid (show wj2.heap.size ≤ V1.heap.size from hV1.size)
          generalize V1.alloc (.cells #[.slice Ck m ck] 40) = V2 at *
          obtain ⟨T, hTe⟩ : ∃ T, V1.heap.size = T := ⟨_, rfl⟩
          rw [hTe] at hT HT0 HOT ⊢
          clear hTe hb
          try simp only [Act.put, List.setIfInBounds_toArray, List.set_cons_zero, List.set_cons_succ]
          refine wpAnyH_ready (rs := [3]) (by kernel_rfl) (by simp) ?_
          refine AllReadyH.cons (o := { dst := some 51, op := Go.Op.call { callee := Go.Callee.builtin Go.Builtin.append, args := #[Go.Operand.tmp 49, Go.Operand.tmp 50], argTypes := #[31, 31] }, type := 31, pos := "ref.go:205", after := #[{ on := 1, ground := Go.Ground.data }, { on := 2, ground := Go.Ground.data }], guard := none }) rfl (fun K2 hK => ?_) ?_
          ·obtain ⟨v1, vs0, V3, hrun, hv0, hown2, hKp, hon⟩ := app_psg (c2 := c9) HPg.out hV2 hown (by have := Hp9.out; omega)
           rw [Hpl.out] at hrun
           have HV0 := Lib.hid hv0
           clear hv0
           have hV3h := Lib.hid (show Below wj2.heap.size wj2 V3 from hV2.trans (hKp.below hV2.size (fun j hj e => by have := HB.out j e; omega)))
           have HPT := Lib.hid (show Value.ownBlock v1 ≠ some T from by rcases hon with h9 | h9 <;> rw [h9] <;> first | exact HOT.out | (intro e; have h8 : V2.heap.size = T := Option.some.inj e; have := lt_of_block hT; omega))
           replace hT := (hKp.block _ (lt_of_block hT) HOT.out).trans hT
           clear HOT
           have HOT := HPT
           clear HPT
           have HB2 := Lib.hid (show ∀ j, Value.ownBlock v1 = some j → wj2.heap.size ≤ j from fun j e => by rcases hon with h9 | h9 <;> rw [h9] at e <;> first | exact HB.out j e | (have h8 : V2.heap.size = j := Option.some.inj e; have := hV2.size; omega))
           clear HB hown hon hKp
           have HB := HB2
           have Hown := Lib.hid hown2
           clear HB2 hown2
           go_simp
           try rw [hrun]
           try go_simp
           have hown := Hown.out
           clear Hown
           have hV3 := hV3h.out
           refine hK.out _ _ (HNX.out.below.trans ((hV3).mono HNX.out.below.size)) (fun _ => ?_)
           clear hK K2
           clear hrun hV3h
           try simp only [Act.put, List.setIfInBounds_toArray, List.set_cons_zero, List.set_cons_succ]
           refine wpAnyH_ready (rs := [9]) (by kernel_rfl) (by simp) ?_
           refine AllReadyH.cons (o := { dst := some 57, op := Go.Op.call { callee := Go.Callee.builtin Go.Builtin.append, args := #[Go.Operand.tmp 51, Go.Operand.tmp 56], argTypes := #[31, 31] }, type := 31, pos := "ref.go:205", after := #[{ on := 3, ground := Go.Ground.data }, { on := 8, ground := Go.Ground.data }, { on := 3, ground := Go.Ground.chain }], guard := none }) rfl (fun K2 hK => ?_) ?_
           ·obtain ⟨v2, V4, hrun, hown2, hKp, hon⟩ := app_psg1 (x := lAt l k) (c := ck) (by rw [Hpl.out] at hown; exact hown) HV0.out (by rw [Hls.out k hlt]; exact hT) (by rw [Hls.out k hlt]; exact HLb0.out) (by rw [Hls.out k hlt]; exact Hck.out) (by have := Hp9.out; omega)
            have hV4h := Lib.hid (show Below wj2.heap.size wj2 V4 from hV3.trans (hKp.below hV3.size (fun j hj e => by have := HB.out j e; omega)))
            have HPT := Lib.hid (show Value.ownBlock v2 ≠ some T from by rcases hon with h9 | h9 <;> rw [h9] <;> first | exact HOT.out | (intro e; have h8 : V3.heap.size = T := Option.some.inj e; have := lt_of_block hT; omega))
            replace hT := (hKp.block _ (lt_of_block hT) HOT.out).trans hT
            clear HOT
            have HOT := HPT
            clear HPT
            have HB2 := Lib.hid (show ∀ j, Value.ownBlock v2 = some j → wj2.heap.size ≤ j from fun j e => by rcases hon with h9 | h9 <;> rw [h9] at e <;> first | exact HB.out j e | (have h8 : V3.heap.size = j := Option.some.inj e; have := hV3.size; omega))
            clear HB hown hon hKp
            have HB := HB2
            have Hown := Lib.hid hown2
            clear HB2 hown2
            have hown9 := Hown.out
            clear Hown
            rw [Nat.zero_add] at hown9
            obtain ⟨C9, d9, rfl, hd9, hp9, hC9⟩ := pgr_own (q := psAt ps t ++ [lAt l k]) hown9 (rwv_snoc HV0.out (by rw [Hls.out k hlt]; exact HLb0.out) (by rw [Hls.out k hlt]; exact Hck.out)) (by rw [List.length_append, Hpl.out]; rfl)
            have HP9 := Lib.hid hp9
            have HC9 := Lib.hid (show ∀ b o, C9 = some ⟨b, o, none⟩ → wj2.heap.size ≤ b ∧ b < V4.heap.size from fun b o e => by have e2 := (hC9 b o e).1; have h1 := HB.out b e2; have h2 := own_lt hown9 b e2; exact ⟨h1, h2⟩)
            have Hd9 := Lib.hid hd9
            clear hp9 hC9 hown9 hd9
            go_simp
            try rw [hrun]
            try go_simp
            have hV4 := hV4h.out
            refine hK.out _ _ (HNX.out.below.trans ((hV4).mono HNX.out.below.size)) (fun _ => ?_)
            clear hK K2
            clear hrun hV4h
            try simp only [Act.put, List.setIfInBounds_toArray, List.set_cons_zero, List.set_cons_succ]
            obtain ⟨C8, c8, V8, r8, hnx⟩ := HNX.out.snoc hV4 (pl := pl + 1) (by rw [List.length_append, Hpl.out]; rfl) HP9.out HC9.out Hd9.out HQL.out
            rw [HQl.out] at r8 hnx
            have R8 := Lib.hid r8
            have HX8 := Lib.hid hnx
            clear r8 hnx
            refine wpAnyH_ready (rs := [10]) (by kernel_rfl) (by simp) ?_
            refine AllReadyH.cons (o := { dst := some 58, op := Go.Op.buildSlice 101 1 #[(0, Go.Operand.tmp 57)], type := 101, pos := "ref.go:205", after := #[{ on := 9, ground := Go.Ground.data }], guard := none }) rfl (fun K2 hK => ?_) AllReadyH.nil
            go_simp
            refine hK.out _ _ (HNX.out.below.trans ((hV4.trans ((below_alloc_ _ _).mono hV4.size)).mono HNX.out.below.size)) (fun hS9 => ?_)
            clear hK K2
            try simp only [Act.put, List.setIfInBounds_toArray, List.set_cons_zero, List.set_cons_succ]
            have r8 := R8.out
            refine wpAnyH_ready (rs := [11]) (by kernel_rfl) (by simp) ?_
            refine AllReadyH.cons (o := { dst := some 59, op := Go.Op.call { callee := Go.Callee.builtin Go.Builtin.append, args := #[Go.Operand.tmp 48, Go.Operand.tmp 58], argTypes := #[101, 101] }, type := 101, pos := "ref.go:205", after := #[{ on := 0, ground := Go.Ground.data }, { on := 10, ground := Go.Ground.data }, { on := 9, ground := Go.Ground.chain }], guard := none }) rfl (fun K2 hK => ?_) AllReadyH.nil
            go_simp
            try rw [r8]
            try go_simp
            refine hK.out _ _ HX8.out.below (fun hS10 => ?_)
            clear hK K2 r8 hS9
            try simp only [Act.put, List.setIfInBounds_toArray, List.set_cons_zero, List.set_cons_succ]
            refine wpAnyH_take (i := 12) (oi := { dst := some 7, op := Go.Op.assign (Go.Operand.tmp 59), type := 101, pos := "ref.go:205", after := #[{ on := 11, ground := Go.Ground.data }, { on := 11, ground := Go.Ground.chain }, { on := 0, ground := Go.Ground.phase }, { on := 1, ground := Go.Ground.phase }, { on := 2, ground := Go.Ground.phase }, { on := 3, ground := Go.Ground.phase }, { on := 4, ground := Go.Ground.phase }, { on := 5, ground := Go.Ground.phase }, { on := 6, ground := Go.Ground.phase }, { on := 7, ground := Go.Ground.phase }, { on := 8, ground := Go.Ground.phase }, { on := 9, ground := Go.Ground.phase }, { on := 10, ground := Go.Ground.phase }, { on := 11, ground := Go.Ground.phase }], guard := none }) (v := .slice C8 (qn + 1) c8) rfl (by kernel_rfl) (by kernel_rfl) (by kernel_rfl) (fun _ _ _ h => h) (Or.inl ⟨by rfl, by intro w2 hSw; (try dsimp only at hSw);  go_simp⟩) hS10 ?_
            try simp only [Act.put, List.setIfInBounds_toArray, List.set_cons_zero, List.set_cons_succ]
            refine wpAnyH_done (by kernel_rfl) ?_ _
            clear hS10
            go_wp2_with fail
            go_roundw
            case rel => exact ⟨k + 1, by omega, by go_num, Lib.hid (by rw [stepK_succ (by rw [Hll.out]; exact hlt), if_pos HE.out, ← List.append_assoc]; exact HX8.out)⟩
            case measure => simp [intOf]; omega
           exact AllReadyH.nil
          exact AllReadyH.nil
         exact AllReadyH.nil
        refine AllReadyH.cons (o := { dst := some 56, op := Go.Op.buildSlice 31 1 #[(0, Go.Operand.tmp 55)], type := 31, pos := "ref.go:205", after := #[{ on := 7, ground := Go.Ground.data }], guard := none }) rfl (fun K2 hK => ?_) ?_
        ·go_simp
         have hV1 := hV0.trans ((below_alloc_ V0 (.cells #[.slice Ck m ck] 40)).mono hV0.size)
         refine hK.out _ _ (HNX.out.below.trans ((hV1).mono HNX.out.below.size)) (fun _ => ?_)
         clear hK K2
         have hT := heap_alloc_new_ V0 (.cells #[.slice Ck m ck] 40)
         have hb := below_alloc_ V0 (.cells #[.slice Ck m ck] 40)
         have HT0 := Lib.hid (show wj2.heap.size ≤ V0.heap.size from hV0.size)
         generalize V0.alloc (.cells #[.slice Ck m ck] 40) = V1 at *
         obtain ⟨T, hTe⟩ : ∃ T, V0.heap.size = T := ⟨_, rfl⟩
         rw [hTe] at hT HT0 ⊢
         clear hTe hb
         try simp only [Act.put, List.setIfInBounds_toArray, List.set_cons_zero, List.set_cons_succ]
         refine wpAnyH_ready (rs := [1]) (by kernel_rfl) (by simp) ?_
         refine AllReadyH.cons (o := { dst := some 49, op := Go.Op.buildSlice 31 0 #[], type := 31, pos := "ref.go:205", after := #[], guard := none }) rfl (fun K2 hK => ?_) ?_
         ·go_simp
          have hV2 := hV1.trans ((below_alloc_ V1 (.cells #[] 40)).mono hV1.size)
          refine hK.out _ _ (HNX.out.below.trans ((hV2).mono HNX.out.below.size)) (fun _ => ?_)
          clear hK K2
          have hZ := heap_alloc_new_ V1 (.cells #[] 40)
          have hb := below_alloc_ V1 (.cells #[] 40)
          have HNTZ := Lib.hid (show T ≠ V1.heap.size from by have := lt_of_block hT; omega)
          replace hT := (hb.block _ (lt_of_block hT)).trans hT
          have HZ0 := Lib.hid (show wj2.heap.size ≤ V1.heap.size from hV1.size)
          have HOT := Lib.hid (show Value.ownBlock (.slice (some ⟨V1.heap.size, 0, none⟩) 0 0) ≠ some T from fun e => by have h9 : V1.heap.size = T := Option.some.inj e; exact HNTZ.out h9.symm)
          have HB := Lib.hid (show ∀ j, Value.ownBlock (.slice (some ⟨V1.heap.size, 0, none⟩) 0 0) = some j → wj2.heap.size ≤ j from fun j e => by have h9 : V1.heap.size = j := Option.some.inj e; have := HZ0.out; omega)
          generalize V1.alloc (.cells #[] 40) = V2 at *
          obtain ⟨Z, hZe⟩ : ∃ Z, V1.heap.size = Z := ⟨_, rfl⟩
          rw [hZe] at hZ HZ0 HNTZ HOT HB ⊢
          clear hZe hb
          have hown := own_empty (size := 1) hZ
          clear hZ
          try simp only [Act.put, List.setIfInBounds_toArray, List.set_cons_zero, List.set_cons_succ]
          refine wpAnyH_ready (rs := [3]) (by kernel_rfl) (by simp) ?_
          refine AllReadyH.cons (o := { dst := some 51, op := Go.Op.call { callee := Go.Callee.builtin Go.Builtin.append, args := #[Go.Operand.tmp 49, Go.Operand.tmp 50], argTypes := #[31, 31] }, type := 31, pos := "ref.go:205", after := #[{ on := 1, ground := Go.Ground.data }, { on := 2, ground := Go.Ground.data }], guard := none }) rfl (fun K2 hK => ?_) ?_
          ·obtain ⟨v1, vs0, V3, hrun, hv0, hown2, hKp, hon⟩ := app_psg (c2 := c9) HPg.out hV2 hown (by have := Hp9.out; omega)
           rw [Hpl.out] at hrun
           have HV0 := Lib.hid hv0
           clear hv0
           have hV3h := Lib.hid (show Below wj2.heap.size wj2 V3 from hV2.trans (hKp.below hV2.size (fun j hj e => by have := HB.out j e; omega)))
           have HPT := Lib.hid (show Value.ownBlock v1 ≠ some T from by rcases hon with h9 | h9 <;> rw [h9] <;> first | exact HOT.out | (intro e; have h8 : V2.heap.size = T := Option.some.inj e; have := lt_of_block hT; omega))
           replace hT := (hKp.block _ (lt_of_block hT) HOT.out).trans hT
           clear HOT
           have HOT := HPT
           clear HPT
           have HB2 := Lib.hid (show ∀ j, Value.ownBlock v1 = some j → wj2.heap.size ≤ j from fun j e => by rcases hon with h9 | h9 <;> rw [h9] at e <;> first | exact HB.out j e | (have h8 : V2.heap.size = j := Option.some.inj e; have := hV2.size; omega))
           clear HB hown hon hKp
           have HB := HB2
           have Hown := Lib.hid hown2
           clear HB2 hown2
           go_simp
           try rw [hrun]
           try go_simp
           have hown := Hown.out
           clear Hown
           have hV3 := hV3h.out
           refine hK.out _ _ (HNX.out.below.trans ((hV3).mono HNX.out.below.size)) (fun _ => ?_)
           clear hK K2
           clear hrun hV3h
           try simp only [Act.put, List.setIfInBounds_toArray, List.set_cons_zero, List.set_cons_succ]
           refine wpAnyH_ready (rs := [9]) (by kernel_rfl) (by simp) ?_
           refine AllReadyH.cons (o := { dst := some 57, op := Go.Op.call { callee := Go.Callee.builtin Go.Builtin.append, args := #[Go.Operand.tmp 51, Go.Operand.tmp 56], argTypes := #[31, 31] }, type := 31, pos := "ref.go:205", after := #[{ on := 3, ground := Go.Ground.data }, { on := 8, ground := Go.Ground.data }, { on := 3, ground := Go.Ground.chain }], guard := none }) rfl (fun K2 hK => ?_) ?_
           ·obtain ⟨v2, V4, hrun, hown2, hKp, hon⟩ := app_psg1 (x := lAt l k) (c := ck) (by rw [Hpl.out] at hown; exact hown) HV0.out (by rw [Hls.out k hlt]; exact hT) (by rw [Hls.out k hlt]; exact HLb0.out) (by rw [Hls.out k hlt]; exact Hck.out) (by have := Hp9.out; omega)
            have hV4h := Lib.hid (show Below wj2.heap.size wj2 V4 from hV3.trans (hKp.below hV3.size (fun j hj e => by have := HB.out j e; omega)))
            have HPT := Lib.hid (show Value.ownBlock v2 ≠ some T from by rcases hon with h9 | h9 <;> rw [h9] <;> first | exact HOT.out | (intro e; have h8 : V3.heap.size = T := Option.some.inj e; have := lt_of_block hT; omega))
            replace hT := (hKp.block _ (lt_of_block hT) HOT.out).trans hT
            clear HOT
            have HOT := HPT
            clear HPT
            have HB2 := Lib.hid (show ∀ j, Value.ownBlock v2 = some j → wj2.heap.size ≤ j from fun j e => by rcases hon with h9 | h9 <;> rw [h9] at e <;> first | exact HB.out j e | (have h8 : V3.heap.size = j := Option.some.inj e; have := hV3.size; omega))
            clear HB hown hon hKp
            have HB := HB2
            have Hown := Lib.hid hown2
            clear HB2 hown2
            have hown9 := Hown.out
            clear Hown
            rw [Nat.zero_add] at hown9
            obtain ⟨C9, d9, rfl, hd9, hp9, hC9⟩ := pgr_own (q := psAt ps t ++ [lAt l k]) hown9 (rwv_snoc HV0.out (by rw [Hls.out k hlt]; exact HLb0.out) (by rw [Hls.out k hlt]; exact Hck.out)) (by rw [List.length_append, Hpl.out]; rfl)
            have HP9 := Lib.hid hp9
            have HC9 := Lib.hid (show ∀ b o, C9 = some ⟨b, o, none⟩ → wj2.heap.size ≤ b ∧ b < V4.heap.size from fun b o e => by have e2 := (hC9 b o e).1; have h1 := HB.out b e2; have h2 := own_lt hown9 b e2; exact ⟨h1, h2⟩)
            have Hd9 := Lib.hid hd9
            clear hp9 hC9 hown9 hd9
            go_simp
            try rw [hrun]
            try go_simp
            have hV4 := hV4h.out
            refine hK.out _ _ (HNX.out.below.trans ((hV4).mono HNX.out.below.size)) (fun _ => ?_)
            clear hK K2
            clear hrun hV4h
            try simp only [Act.put, List.setIfInBounds_toArray, List.set_cons_zero, List.set_cons_succ]
            obtain ⟨C8, c8, V8, r8, hnx⟩ := HNX.out.snoc hV4 (pl := pl + 1) (by rw [List.length_append, Hpl.out]; rfl) HP9.out HC9.out Hd9.out HQL.out
            rw [HQl.out] at r8 hnx
            have R8 := Lib.hid r8
            have HX8 := Lib.hid hnx
            clear r8 hnx
            refine wpAnyH_ready (rs := [10]) (by kernel_rfl) (by simp) ?_
            refine AllReadyH.cons (o := { dst := some 58, op := Go.Op.buildSlice 101 1 #[(0, Go.Operand.tmp 57)], type := 101, pos := "ref.go:205", after := #[{ on := 9, ground := Go.Ground.data }], guard := none }) rfl (fun K2 hK => ?_) AllReadyH.nil
            go_simp
            refine hK.out _ _ (HNX.out.below.trans ((hV4.trans ((below_alloc_ _ _).mono hV4.size)).mono HNX.out.below.size)) (fun hS9 => ?_)
            clear hK K2
            try simp only [Act.put, List.setIfInBounds_toArray, List.set_cons_zero, List.set_cons_succ]
            have r8 := R8.out
            refine wpAnyH_ready (rs := [11]) (by kernel_rfl) (by simp) ?_
            refine AllReadyH.cons (o := { dst := some 59, op := Go.Op.call { callee := Go.Callee.builtin Go.Builtin.append, args := #[Go.Operand.tmp 48, Go.Operand.tmp 58], argTypes := #[101, 101] }, type := 101, pos := "ref.go:205", after := #[{ on := 0, ground := Go.Ground.data }, { on := 10, ground := Go.Ground.data }, { on := 9, ground := Go.Ground.chain }], guard := none }) rfl (fun K2 hK => ?_) AllReadyH.nil
            go_simp
            try rw [r8]
            try go_simp
            refine hK.out _ _ HX8.out.below (fun hS10 => ?_)
            clear hK K2 r8 hS9
            try simp only [Act.put, List.setIfInBounds_toArray, List.set_cons_zero, List.set_cons_succ]
            refine wpAnyH_take (i := 12) (oi := { dst := some 7, op := Go.Op.assign (Go.Operand.tmp 59), type := 101, pos := "ref.go:205", after := #[{ on := 11, ground := Go.Ground.data }, { on := 11, ground := Go.Ground.chain }, { on := 0, ground := Go.Ground.phase }, { on := 1, ground := Go.Ground.phase }, { on := 2, ground := Go.Ground.phase }, { on := 3, ground := Go.Ground.phase }, { on := 4, ground := Go.Ground.phase }, { on := 5, ground := Go.Ground.phase }, { on := 6, ground := Go.Ground.phase }, { on := 7, ground := Go.Ground.phase }, { on := 8, ground := Go.Ground.phase }, { on := 9, ground := Go.Ground.phase }, { on := 10, ground := Go.Ground.phase }, { on := 11, ground := Go.Ground.phase }], guard := none }) (v := .slice C8 (qn + 1) c8) rfl (by kernel_rfl) (by kernel_rfl) (by kernel_rfl) (fun _ _ _ h => h) (Or.inl ⟨by rfl, by intro w2 hSw; (try dsimp only at hSw);  go_simp⟩) hS10 ?_
            try simp only [Act.put, List.setIfInBounds_toArray, List.set_cons_zero, List.set_cons_succ]
            refine wpAnyH_done (by kernel_rfl) ?_ _
            clear hS10
            go_wp2_with fail
            go_roundw
            case rel => exact ⟨k + 1, by omega, by go_num, Lib.hid (by rw [stepK_succ (by rw [Hll.out]; exact hlt), if_pos HE.out, ← List.append_assoc]; exact HX8.out)⟩
            case measure => simp [intOf]; omega
           exact AllReadyH.nil
          exact AllReadyH.nil
         exact AllReadyH.nil
        exact AllReadyH.nil
       | false =>
        have HBe := Lib.hid hbb
        have HE := Lib.hid (show ext (ltM m) (psAt ps t) (lAt l k) = false by rw [HEE.out, hlb, hbb]; rfl)
        rw [hlb] at HLb
        clear hbb
        go_wp2_with fail
        refine wp_region_held_drew (S := fun w2 => Below wj.heap.size wj w2) (by kernel_rfl) (drew_b _ _) (fun hS0 => ?_)
        refine wpAnyH_take (i := 0) (oi := { dst := some 32, op := Go.Op.move (Go.Operand.tmp 9), type := 31, pos := "ref.go:204", after := #[], guard := none }) (v := .slice (some ⟨bp, op, none⟩) pl c9) rfl (by kernel_rfl) (by kernel_rfl) (by kernel_rfl) (fun _ _ _ h => h) (Or.inl ⟨by rfl, by intro w2 hSw; (try dsimp only at hSw); go_simp⟩) hS0 ?_
        try simp only [Act.put, List.setIfInBounds_toArray, List.set_cons_zero, List.set_cons_succ]
        refine wpAnyH_take (i := 1) (oi := { dst := some 33, op := Go.Op.call { callee := Go.Callee.builtin Go.Builtin.len, args := #[Go.Operand.tmp 32], argTypes := #[31] }, type := 3, pos := "ref.go:204", after := #[{ on := 0, ground := Go.Ground.data }], guard := none }) (v := .int .i64 (pl : Int)) rfl (by kernel_rfl) (by kernel_rfl) (by kernel_rfl) (fun _ _ _ h => h) (Or.inl ⟨by rfl, by intro w2 hSw; (try dsimp only at hSw); go_simp⟩) hS0 ?_
        try simp only [Act.put, List.setIfInBounds_toArray, List.set_cons_zero, List.set_cons_succ]
        refine wpAnyH_take (i := 2) (oi := { dst := some 34, op := Go.Op.binOp Go.BinOp.eql 3 (Go.Operand.tmp 33) (Go.Operand.const (Go.Value.int Go.IntKind.i64 0)) 3, type := 4, pos := "ref.go:204", after := #[{ on := 1, ground := Go.Ground.data }], guard := none }) (v := .bool false) rfl (by kernel_rfl) (by kernel_rfl) (by kernel_rfl) (fun _ _ _ h => h) (Or.inl ⟨by rfl, by intro w2 hSw; (try dsimp only at hSw); go_simp⟩) hS0 ?_
        try simp only [Act.put, List.setIfInBounds_toArray, List.set_cons_zero, List.set_cons_succ]
        refine wpAnyH_take (i := 3) (oi := { dst := some 35, op := Go.Op.move (Go.Operand.tmp 34), type := 4, pos := "ref.go:204", after := #[{ on := 2, ground := Go.Ground.data }], guard := none }) (v := .bool false) rfl (by kernel_rfl) (by kernel_rfl) (by kernel_rfl) (fun _ _ _ h => h) (Or.inl ⟨by rfl, by intro w2 hSw; (try dsimp only at hSw); go_simp⟩) hS0 ?_
        try simp only [Act.put, List.setIfInBounds_toArray, List.set_cons_zero, List.set_cons_succ]
        refine wpAnyH_take (i := 4) (oi := { dst := some 36, op := Go.Op.move (Go.Operand.tmp 9), type := 31, pos := "ref.go:204", after := #[{ on := 3, ground := Go.Ground.guard }], guard := some (3, false) }) (v := .slice (some ⟨bp, op, none⟩) pl c9) rfl (by kernel_rfl) (by kernel_rfl) (by kernel_rfl) (fun _ _ _ h => h) (Or.inl ⟨by rfl, by intro w2 hSw; (try dsimp only at hSw); go_simp⟩) hS0 ?_
        try simp only [Act.put, List.setIfInBounds_toArray, List.set_cons_zero, List.set_cons_succ]
        refine wpAnyH_take (i := 5) (oi := { dst := some 37, op := Go.Op.move (Go.Operand.tmp 9), type := 31, pos := "ref.go:204", after := #[{ on := 3, ground := Go.Ground.guard }], guard := some (3, false) }) (v := .slice (some ⟨bp, op, none⟩) pl c9) rfl (by kernel_rfl) (by kernel_rfl) (by kernel_rfl) (fun _ _ _ h => h) (Or.inl ⟨by rfl, by intro w2 hSw; (try dsimp only at hSw); go_simp⟩) hS0 ?_
        try simp only [Act.put, List.setIfInBounds_toArray, List.set_cons_zero, List.set_cons_succ]
        refine wpAnyH_take (i := 6) (oi := { dst := some 38, op := Go.Op.call { callee := Go.Callee.builtin Go.Builtin.len, args := #[Go.Operand.tmp 37], argTypes := #[31] }, type := 3, pos := "ref.go:204", after := #[{ on := 5, ground := Go.Ground.data }, { on := 3, ground := Go.Ground.guard }], guard := some (3, false) }) (v := .int .i64 (pl : Int)) rfl (by kernel_rfl) (by kernel_rfl) (by kernel_rfl) (fun _ _ _ h => h) (Or.inl ⟨by rfl, by intro w2 hSw; (try dsimp only at hSw); go_simp⟩) hS0 ?_
        try simp only [Act.put, List.setIfInBounds_toArray, List.set_cons_zero, List.set_cons_succ]
        refine wpAnyH_take (i := 7) (oi := { dst := some 39, op := Go.Op.binOp Go.BinOp.sub 3 (Go.Operand.tmp 38) (Go.Operand.const (Go.Value.int Go.IntKind.i64 1)) 3, type := 3, pos := "ref.go:204", after := #[{ on := 6, ground := Go.Ground.data }, { on := 3, ground := Go.Ground.guard }], guard := some (3, false) }) (v := .int .i64 (tq : Int)) rfl (by kernel_rfl) (by kernel_rfl) (by kernel_rfl) (fun _ _ _ h => h) (Or.inl ⟨by rfl, by intro w2 hSw; (try dsimp only at hSw); go_simp⟩) hS0 ?_
        try simp only [Act.put, List.setIfInBounds_toArray, List.set_cons_zero, List.set_cons_succ]
        refine wpAnyH_take (i := 8) (oi := { dst := some 40, op := Go.Op.indexAddr 31 (Go.Operand.tmp 36) (Go.Operand.tmp 39), type := 0, pos := "ref.go:204", after := #[{ on := 4, ground := Go.Ground.data }, { on := 7, ground := Go.Ground.data }, { on := 3, ground := Go.Ground.guard }], guard := some (3, false) }) (v := .pointer (some ⟨bp, op + tq, none⟩)) rfl (by kernel_rfl) (by kernel_rfl) (by kernel_rfl) (fun _ _ _ h => h) (Or.inl ⟨by rfl, by intro w2 hSw; (try dsimp only at hSw); go_simp⟩) hS0 ?_
        try simp only [Act.put, List.setIfInBounds_toArray, List.set_cons_zero, List.set_cons_succ]
        refine wpAnyH_take (i := 9) (oi := { dst := some 41, op := Go.Op.load 40 (Go.Operand.tmp 40), type := 40, pos := "ref.go:204", after := #[{ on := 8, ground := Go.Ground.data }, { on := 3, ground := Go.Ground.guard }], guard := some (3, false) }) (v := .slice Cq m cq) rfl (by kernel_rfl) (by kernel_rfl) (by kernel_rfl) (fun _ _ _ h => h) (Or.inl ⟨by rfl, by intro w2 hSw; (try dsimp only at hSw); have q_a := (hSw.cell (p := ⟨bp, op + tq, none⟩) (lt_of_cell a0)).trans a0; go_simp⟩) hS0 ?_
        try simp only [Act.put, List.setIfInBounds_toArray, List.set_cons_zero, List.set_cons_succ]
        refine wpAnyH_take (i := 10) (oi := { dst := some 42, op := Go.Op.move (Go.Operand.tmp 5), type := 31, pos := "ref.go:204", after := #[{ on := 3, ground := Go.Ground.guard }], guard := some (3, false) }) (v := .slice (some ⟨bl, ol, none⟩) N cl) rfl (by kernel_rfl) (by kernel_rfl) (by kernel_rfl) (fun _ _ _ h => h) (Or.inl ⟨by rfl, by intro w2 hSw; (try dsimp only at hSw); go_simp⟩) hS0 ?_
        try simp only [Act.put, List.setIfInBounds_toArray, List.set_cons_zero, List.set_cons_succ]
        refine wpAnyH_take (i := 11) (oi := { dst := some 43, op := Go.Op.move (Go.Operand.tmp 10), type := 3, pos := "ref.go:204", after := #[{ on := 3, ground := Go.Ground.guard }], guard := some (3, false) }) (v := .int .i64 (k : Int)) rfl (by kernel_rfl) (by kernel_rfl) (by kernel_rfl) (fun _ _ _ h => h) (Or.inl ⟨by rfl, by intro w2 hSw; (try dsimp only at hSw); go_simp⟩) hS0 ?_
        try simp only [Act.put, List.setIfInBounds_toArray, List.set_cons_zero, List.set_cons_succ]
        refine wpAnyH_take (i := 12) (oi := { dst := some 44, op := Go.Op.indexAddr 31 (Go.Operand.tmp 42) (Go.Operand.tmp 43), type := 0, pos := "ref.go:204", after := #[{ on := 10, ground := Go.Ground.data }, { on := 11, ground := Go.Ground.data }, { on := 3, ground := Go.Ground.guard }], guard := some (3, false) }) (v := .pointer (some ⟨bl, ol + k, none⟩)) rfl (by kernel_rfl) (by kernel_rfl) (by kernel_rfl) (fun _ _ _ h => h) (Or.inl ⟨by rfl, by intro w2 hSw; (try dsimp only at hSw); go_simp⟩) hS0 ?_
        try simp only [Act.put, List.setIfInBounds_toArray, List.set_cons_zero, List.set_cons_succ]
        refine wpAnyH_take (i := 13) (oi := { dst := some 45, op := Go.Op.load 40 (Go.Operand.tmp 44), type := 40, pos := "ref.go:204", after := #[{ on := 12, ground := Go.Ground.data }, { on := 3, ground := Go.Ground.guard }], guard := some (3, false) }) (v := .slice Ck m ck) rfl (by kernel_rfl) (by kernel_rfl) (by kernel_rfl) (fun _ _ _ h => h) (Or.inl ⟨by rfl, by intro w2 hSw; (try dsimp only at hSw); have q_b := (hSw.cell (p := ⟨bl, ol + k, none⟩) (lt_of_cell b0)).trans b0; go_simp⟩) hS0 ?_
        try simp only [Act.put, List.setIfInBounds_toArray, List.set_cons_zero, List.set_cons_succ]
        refine wpAnyH_ready (rs := [14]) (by kernel_rfl) (by simp) ?_
        refine AllReadyH.cons (o := { dst := some 46, op := Go.Op.call { callee := Go.Callee.value (Go.Operand.func 63), args := #[Go.Operand.tmp 41, Go.Operand.tmp 45], argTypes := #[40, 40] }, type := 4, pos := "ref.go:204", after := #[{ on := 9, ground := Go.Ground.data }, { on := 13, ground := Go.Ground.data }, { on := 3, ground := Go.Ground.chain }, { on := 3, ground := Go.Ground.guard }], guard := some (3, false) }) rfl (fun K2 hK => ?_) AllReadyH.nil
        go_simp
        refine (before63 Cq m cq la Ck m ck lb _ (HLa.out.below hS0 (Nat.le_refl _)) (HLb.out.below hS0 (Nat.le_refl _)) (Nat.le_refl _) (by omega)).mono ?_
        rintro e9 V1 ⟨rfl, hb9⟩
        rw [HBe.out]
        (try go_simp)
        refine hK.out _ _ (hS0.trans (hb9.mono hS0.size)) (fun hS1 => ?_)
        clear hK K2 hb9
        try simp only [Act.put, List.setIfInBounds_toArray, List.set_cons_zero, List.set_cons_succ]
        refine wpAnyH_take (i := 15) (oi := { dst := some 47, op := Go.Op.pick (Go.Operand.tmp 35) (Go.Operand.const (Go.Value.bool true)) (Go.Operand.tmp 46), type := 4, pos := "ref.go:204", after := #[{ on := 3, ground := Go.Ground.data }, { on := 14, ground := Go.Ground.data }], guard := none }) (v := .bool false) rfl (by kernel_rfl) (by kernel_rfl) (by kernel_rfl) (fun _ _ _ h => h) (Or.inl ⟨by rfl, by intro w2 hSw; (try dsimp only at hSw); go_simp⟩) hS1 ?_
        try simp only [Act.put, List.setIfInBounds_toArray, List.set_cons_zero, List.set_cons_succ]
        refine wpAnyH_done (by kernel_rfl) ?_ _
        clear dq
        go_wp2_with fail
        go_roundw
        case rel => exact ⟨k + 1, by omega, by go_num, Lib.hid (by rw [stepK_succ (by rw [Hll.out]; exact hlt), if_neg (by rw [HE.out]; simp), List.append_nil]; exact HNX.out.next hS1)⟩
        case measure => simp [intOf]; omega
     ·obtain rfl : k = N := by omega
      go_wp2_with fail
      go_roundw
      case rel => exact ⟨t + 1, by omega, by go_num, Lib.hid (by rw [stepI_succ (by rw [HNP.out]; exact htl), Hll.out]; exact HNX.out)⟩
      case measure => simp [intOf]; omega
   ·obtain rfl : t = NP := by omega
    obtain ⟨Z1, hP1, -, hB1⟩ := HJ.out
    rw [Hall.out] at hP1
    obtain ⟨Cz, cz, rfl, -, -⟩ := hP1.read
    have hB9 := HBq.out.trans (hB1.mono HBq.out.size)
    by_cases hn0 : chs l (ltM m) (s + 1) = []
    ·have hsk : s = K := by
      rcases Nat.lt_or_ge s K with h9 | h9
      ·exact absurd hn0 (fun h8 => Hne.out (s + 1) h9 h8)
      ·have := HsK.out; omega
     rw [hn0]
     obtain ⟨C6, c6, e6, hp6⟩ := (HP0.out.keep (Keeps.of_new (Mut := fun _ => False) hB1) (fun _ _ e => e)).pss hB9
     rw [HNP.out] at e6 hp6
     rw [← Hps.out, hsk, Hres.out] at hp6
     have HR6 := Lib.hid hp6
     have HB6 := Lib.hid (HB2.out.trans (hB9.mono HB2.out.size))
     cases e6
     clear hP1 hB1 hB9 hn0 hp6
     go_wp2_with fail
     go_ret
     exact ⟨_, _, _, rfl, HR6.out, HB6.out⟩
    ·have hsk : s + 1 ≤ K := by
      rcases Nat.lt_or_ge K (s + 1) with h9 | h9
      ·exact absurd (Htop.out (s + 1) h9) hn0
      ·exact h9
     obtain ⟨N8, hN8⟩ : ∃ N8, (chs l (ltM m) (s + 1)).length = N8 := ⟨_, rfl⟩
     have hp8 : 0 < N8 := by rw [← hN8]; exact List.length_pos_iff.2 hn0
     have d8 : ((N8 : Int) == 0) = false := by rw [beq_eq_false_iff_ne]; omega
     rw [hN8] at hP1
     have HP1 := Lib.hid hP1
     have HB9 := Lib.hid hB9
     rw [hN8]
     clear hP1 hB1 hB9 hn0 hN8
     go_wp2_with fail
     go_roundg (10 - (s + 1))
     case measure => have := Hsg.out; have := HK.out; omega
     case rel => exact ⟨s + 1, by have := HK.out; omega, Lib.hid ⟨hsk, ⟨_, HP1.out⟩, HB9.out⟩⟩
end
end Go.Proofs.Ythdjbapidodlfaa
