/- Stage 4: WordMore. -/
import Derived.Test.YthdjbapidodlfaaApm
import Derived.Test.YthdjbapidodlfaaHr
import Derived.Test.YthdjbapidodlfaaZed
import Derived.BigQuiet
import Derived.Deep.QuietTactic
import Derived.Deep.Cut
import Derived.Deep.CutRange
namespace Go.Proofs.Ythdjbapidodlfaa
set_option linter.unusedSimpArgs false
set_option linter.unusedVariables false
open Go.RowKit Go.Shelf
theorem prs_snoc (zs : List Rg) (r : Rg) : prs (zs ++ [r]) = prs zs ++ [prW r] := by simp [prs]
theorem chkL_okB {zs : List Rg} {L : List (List Int)} (h : chkL zs L = 0) : okB zs = true := (chkB_zero.1 (chkL_zero.1 h).1).2
theorem top_more {zs : List Rg} {r : Rg} {L : List (List Int)} {m : Nat} (hL : LV L m) (h1 : chkL zs L = 0) (h2 : chkL (zs ++ [r]) L = 0) : topK (cls (prs zs)) L m ≤ topK (cls (prs (zs ++ [r]))) L m :=
  top_pair (inW_prs (chkL_okB h1)) (inW_prs (chkL_okB h2)) (fun p hp => by rw [prs_snoc]; exact List.mem_append_left _ hp) hL
theorem rgs_put {W : World} {C : Option Addr} {n D : Nat} {zs : List Rg} (h : Rgs W C n zs) (hC : ∀ b o, C = some ⟨b, o, none⟩ → b ≠ D) (v : Value) : Rgs (W.setCell ⟨D, 0, none⟩ v) C n zs := by
  refine ⟨h.1, fun hn => ?_⟩
  obtain ⟨b, o, e, hc⟩ := h.2 hn
  have hk := keeps_setCell W D 0 v
  refine ⟨b, o, e, fun j hj => ⟨?_, ?_⟩⟩
  · rw [keep_cells hk (lt_of_cell (hc j hj).1) (hC b o e)]; exact (hc j hj).1
  · rw [keep_cells hk (lt_of_cell (hc j hj).2) (hC b o e)]; exact (hc j hj).2
/-- The new book is stored. -/
theorem more_book {w W : World} {D n c9 : Nat} {C : Option Addr} {zs : List Rg} (hb : Below w.heap.size w W) (hD : W.heap[D]? = some (.cells #[.slice none 0 0] 24 (0, 0))) (hDw : w.heap.size ≤ D) (h : Rgs W C n zs) (hC : ∀ b o, C = some ⟨b, o, none⟩ → b ≠ D) :
    (W.setCell ⟨D, 0, none⟩ (.slice C n c9)).heap[D]? = some (.cells #[.slice C n c9] 24 (0, 0)) ∧ Rgs (W.setCell ⟨D, 0, none⟩ (.slice C n c9)) C n zs ∧ Below w.heap.size w (W.setCell ⟨D, 0, none⟩ (.slice C n c9)) := by
  refine ⟨by rw [set_same 0 _ hD]; rfl, rgs_put h hC _, hb.trans ((keeps_setCell W D 0 _).below hb.size (fun k hk e => by omega))⟩
theorem own_fz {W : World} {e : TypeId} {size g m cp n : Nat} {vs : List Value} (h : W.ownsRow 0 e size (.slice (some ⟨g, 0, none⟩) m cp) n vs) (j : Nat) : W.frozen? ⟨g, j, none⟩ = false := by
  rcases h.2 with ⟨e, _⟩ | ⟨g', cap, cur, e, _, hg, _⟩
  · cases e
  · cases e; exact frozen_row hg
section
attribute [local go_sem ↓] exec_app at_app
attribute [local go_sem] Oper.semAt_some
set_option maxRecDepth 100000 in
set_option maxHeartbeats 40000000 in
theorem more9 (A : Option Addr) (n cap : Nat) (zs : List Rg) (A2 : Option Addr) (m cap2 : Nat) (L : List (List Int)) (A4 : Option Addr) (nl cl : Nat) (l : List Int) (p0 p1 : Int) (x4 x5 : Nat) (ex : Int) (w : World) (h : Rgs w A n zs) (hL : Lns w A2 m L) (hI : Ints w A4 nl l) (hcl : nl ≤ cl) (h4 : x4 ≤ 255) (h5 : x5 ≤ 255) :
  Calls Try.prog 9 #[.agg #[.slice A n cap], .slice A2 m cap2, .slice A4 nl cl, .agg #[.int .i64 p0, .int .i64 p1], .int .u8 (x4 : Int), .int .u8 (x5 : Int), .int .i64 ex] w fun e w' => e = .returned (.bool true) ∧ Below w.heap.size w w' := by
 have Hlen := Lib.hid hL.1
 have HZl := Lib.hid h.1
 have HIl := Lib.hid hI.1
 have Hcl := Lib.hid hcl
 have hb0 := below_alloc_ w (.cells #[.slice A n cap] 24)
 have hr0 := heap_alloc_new_ w (.cells #[.slice A n cap] 24)
 have hs0 := al_sz w (.cells #[.slice A n cap] 24)
 obtain ⟨wa, hW0⟩ : ∃ wa, w.alloc (.cells #[.slice A n cap] 24) = wa := ⟨_, rfl⟩
 obtain ⟨R, hR⟩ : ∃ R, w.heap.size = R := ⟨_, rfl⟩
 rw [hW0] at hb0 hr0 hs0
 rw [hR] at hr0 hs0
 have hb1 := below_alloc_ wa (.cells #[.int .i64 p0, .int .i64 p1] 57)
 have hr1 := heap_alloc_new_ wa (.cells #[.int .i64 p0, .int .i64 p1] 57)
 have hr2 := (hb1.block R (by omega)).trans hr0
 obtain ⟨w0, hW1⟩ : ∃ w0, wa.alloc (.cells #[.int .i64 p0, .int .i64 p1] 57) = w0 := ⟨_, rfl⟩
 rw [hW1] at hb1 hr1 hr2
 rw [hs0] at hr1
 have hb := hb0.trans (hb1.mono hb0.size)
 have S := Lib.hid (h.below hb (Nat.le_refl _))
 have X := Lib.hid (hL.below hb (Nat.le_refl _))
 have Y := Lib.hid (hI.below hb (Nat.le_refl _))
 have B := Lib.hid hb
 have HW0 := Lib.hid hW0
 have HW1 := Lib.hid hW1
 have HR := Lib.hid hR
 have Hs0 := Lib.hid hs0
 have rc : w0.cell? ⟨R, 0, none⟩ = some (.slice A n cap) := by rw [cell_row hr2]; rfl
 have hrow := Lib.hid hr2
 have hrow1 := Lib.hid hr1
 clear h hL hI hcl hb hb0 hb1 hr0 hr1 hr2 hW0 hW1 hR hs0
 go_enter Try.func9, Try.ntmps9
 go_wp2_with fail
 rw [HW0.out]
 try rw [HR.out]
 try rw [Hs0.out]
 try rw [HW1.out]
 try go_wp2_with fail
 refine (fine40 A n cap zs A2 m cap2 L w0 S.out X.out).mono ?_
 rintro en w1 ⟨rfl, hb⟩
 replace S := Lib.hid (S.out.below hb (Nat.le_refl _))
 replace X := Lib.hid (X.out.below hb (Nat.le_refl _))
 replace Y := Lib.hid (Y.out.below hb (Nat.le_refl _))
 replace B := Lib.hid (B.out.trans (hb.mono B.out.size))
 replace hrow := Lib.hid ((hb.block R (lt_of_block hrow.out)).trans hrow.out)
 replace hrow1 := Lib.hid ((hb.block (R + 1) (lt_of_block hrow1.out)).trans hrow1.out)
 clear hb rc
 obtain ⟨fn, hfn⟩ : ∃ fn, fnB n zs L = fn := ⟨_, rfl⟩
 rw [hfn]
 cases fn
 ·clear hfn
  go_wp2_with fail
  try clear rc
  refine (works14 w1).mono ?_
  rintro en w2 ⟨rfl, hb⟩
  replace B := Lib.hid (B.out.trans (hb.mono B.out.size))
  clear hb
  go_wp2_with fail
  go_ret
  exact ⟨rfl, B.out⟩
 obtain ⟨hgr, hck, -⟩ := fnB_facts hfn
 have hn50 : n ≤ 50 := (grtB_facts hgr).1
 have Hck := Lib.hid hck
 have HLV := Lib.hid (lv_of Hlen.out hck)
 clear hfn hgr hck
 have hlo := HLV.out.lo
 have hhi := HLV.out.hi
 obtain ⟨bo, oo, hA2, -⟩ := X.out.2 (by omega)
 subst hA2
 obtain ⟨K, hK⟩ : ∃ K, topK (cls (prs zs)) L m = K := ⟨_, rfl⟩
 have HK := Lib.hid hK
 clear hK
 have rc : w1.cell? ⟨R, 0, none⟩ = some (.slice A n cap) := by rw [cell_row hrow.out]; rfl
 go_wp2_with fail
 refine (long44 A n cap zs (some ⟨bo, oo, none⟩) m cap2 L w1 S.out X.out Hck.out).mono ?_
 rintro en w2 ⟨rfl, hb⟩
 replace S := Lib.hid (S.out.below hb (Nat.le_refl _))
 replace X := Lib.hid (X.out.below hb (Nat.le_refl _))
 replace Y := Lib.hid (Y.out.below hb (Nat.le_refl _))
 replace B := Lib.hid (B.out.trans (hb.mono B.out.size))
 replace hrow := Lib.hid ((hb.block R (lt_of_block hrow.out)).trans hrow.out)
 replace hrow1 := Lib.hid ((hb.block (R + 1) (lt_of_block hrow1.out)).trans hrow1.out)
 rw [HK.out]
 clear hb rc
 obtain ⟨v1, W1, C9, c9, W2, r1, r2, hx9, hc9, hb⟩ := app_more (cap2 := cap2) (cl := cl) X.out (by rw [HIl.out]; exact Y.out) (by rw [HIl.out]; exact Hcl.out) (by omega)
 rw [HIl.out] at r2
 have P9 := Lib.hid hx9
 clear hx9 hc9
 go_upto_region 7 with fail
 clear r1 r2
 obtain ⟨w3, rfl⟩ : ∃ w3, w3 = W2 := ⟨_, rfl⟩
 replace S := Lib.hid (S.out.below hb (Nat.le_refl _))
 replace X := Lib.hid (X.out.below hb (Nat.le_refl _))
 replace Y := Lib.hid (Y.out.below hb (Nat.le_refl _))
 replace B := Lib.hid (B.out.trans (hb.mono B.out.size))
 replace hrow := Lib.hid ((hb.block R (lt_of_block hrow.out)).trans hrow.out)
 replace hrow1 := Lib.hid ((hb.block (R + 1) (lt_of_block hrow1.out)).trans hrow1.out)
 clear hb
 have rc : w3.cell? ⟨R, 0, none⟩ = some (.slice A n cap) := by rw [cell_row hrow.out]; rfl
 go_wp2_with fail
 refine (fine40 A n cap zs C9 (m + 1) c9 (L ++ [l]) w3 S.out P9.out).mono ?_
 rintro en w4 ⟨rfl, hb⟩
 replace S := Lib.hid (S.out.below hb (Nat.le_refl _))
 replace X := Lib.hid (X.out.below hb (Nat.le_refl _))
 replace Y := Lib.hid (Y.out.below hb (Nat.le_refl _))
 replace P9 := Lib.hid (P9.out.below hb (Nat.le_refl _))
 replace B := Lib.hid (B.out.trans (hb.mono B.out.size))
 replace hrow := Lib.hid ((hb.block R (lt_of_block hrow.out)).trans hrow.out)
 replace hrow1 := Lib.hid ((hb.block (R + 1) (lt_of_block hrow1.out)).trans hrow1.out)
 clear hb rc
 have rc : w4.cell? ⟨R, 0, none⟩ = some (.slice A n cap) := by rw [cell_row hrow.out]; rfl
 obtain ⟨fn, hfn⟩ : ∃ fn, fnB n zs (L ++ [l]) = fn := ⟨_, rfl⟩
 rw [hfn]
 go_upto_if 49 with fail
 go_cut [18, 19] from 47 to 62 (fun u1 u2 wx => Below w4.heap.size w4 wx)
 case first =>
  cases fn
  ·clear hfn
   go_wp2_with fail
   go_meet
   case rel => exact Below.refl _ _
  have hck2 := fnB_ok hfn
  clear hfn
  have htop := top_line (nm := cls (prs zs)) (l := l) HLV.out (lv_of (by rw [List.length_append, Hlen.out]; rfl) hck2)
  rw [HK.out] at htop
  go_wp2_with fail
  refine (long44 A n cap zs C9 (m + 1) c9 (L ++ [l]) w4 S.out P9.out hck2).mono ?_
  rintro en wg ⟨rfl, hb⟩
  have HBf := Lib.hid hb
  clear hb rc
  obtain ⟨K2, hK2⟩ : ∃ K2, topK (cls (prs zs)) (L ++ [l]) (m + 1) = K2 := ⟨_, rfl⟩
  rw [hK2] at htop ⊢
  clear hK2
  have dk : ¬ ((K : Int) < (K2 : Int)) := by omega
  clear htop hck2
  go_wp2_with fail
  go_meet
  case rel => exact HBf.out
 case rest =>
  obtain ⟨w5, rfl⟩ : ∃ w5, w5 = wc := ⟨_, rfl⟩
  have hb := hcut
  clear hcut
  replace S := Lib.hid (S.out.below hb (Nat.le_refl _))
  replace X := Lib.hid (X.out.below hb (Nat.le_refl _))
  replace Y := Lib.hid (Y.out.below hb (Nat.le_refl _))
  replace P9 := Lib.hid (P9.out.below hb (Nat.le_refl _))
  replace B := Lib.hid (B.out.trans (hb.mono B.out.size))
  replace hrow := Lib.hid ((hb.block R (lt_of_block hrow.out)).trans hrow.out)
  replace hrow1 := Lib.hid ((hb.block (R + 1) (lt_of_block hrow1.out)).trans hrow1.out)
  clear hb rc
  have rc : w5.cell? ⟨R, 0, none⟩ = some (.slice A n cap) := by rw [cell_row hrow.out]; rfl
  clear P9
  have p0c : w5.cell? ⟨R + 1, 0, none⟩ = some (.int .i64 p0) := by rw [cell_row hrow1.out]; rfl
  have p1c : w5.cell? ⟨R + 1, 1, none⟩ = some (.int .i64 p1) := by rw [cell_row hrow1.out]; rfl
  go_upto_region 11 with fail
  go_cut [20] from 63 to 70 (fun v20 wx => ∃ D C8 c8, v20 = .pointer (some ⟨D, 0, none⟩) ∧ wx.heap[D]? = some (.cells #[.slice C8 (n + 1) c8] 24 (0, 0)) ∧ Rgs wx C8 (n + 1) (zs ++ [⟨p0, p1⟩]) ∧ Below w5.heap.size w5 wx)
  case first =>
   refine wp_region_held_drew (S := fun w2 => Below w5.heap.size w5 w2) (by kernel_rfl) (drew_b _ _) (fun hS0 => ?_)
   refine wpAnyH_take (i := 1) (oi := { dst := some 64, op := Go.Op.fieldAddr 24 (Go.Operand.tmp 7) 0, type := 0, pos := "outright.go:122", after := #[], guard := none }) (v := .pointer (some ⟨R, 0, none⟩)) rfl (by kernel_rfl) (by kernel_rfl) (by kernel_rfl) (fun _ _ _ h => h) (Or.inl ⟨by rfl, by intro w2 hSw; (try dsimp only at hSw);  go_simp⟩) hS0 ?_
   try simp only [Act.put, List.setIfInBounds_toArray, List.set_cons_zero, List.set_cons_succ]
   refine wpAnyH_take (i := 2) (oi := { dst := some 65, op := Go.Op.load 22 (Go.Operand.tmp 64), type := 22, pos := "outright.go:122", after := #[{ on := 1, ground := Go.Ground.data }], guard := none }) (v := .slice A n cap) rfl (by kernel_rfl) (by kernel_rfl) (by kernel_rfl) (fun _ _ _ h => h) (Or.inl ⟨by rfl, by intro w2 hSw; (try dsimp only at hSw); have q_rc := (hSw.cell (p := ⟨R, 0, none⟩) (lt_of_cell rc)).trans rc; have q_p0 := (hSw.cell (p := ⟨R + 1, 0, none⟩) (lt_of_cell p0c)).trans p0c; have q_p1 := (hSw.cell (p := ⟨R + 1, 1, none⟩) (lt_of_cell p1c)).trans p1c; go_simp⟩) hS0 ?_
   try simp only [Act.put, List.setIfInBounds_toArray, List.set_cons_zero, List.set_cons_succ]
   refine wpAnyH_take (i := 4) (oi := { dst := some 67, op := Go.Op.load 57 (Go.Operand.tmp 10), type := 57, pos := "outright.go:122", after := #[], guard := none }) (v := .agg #[.int .i64 p0, .int .i64 p1]) rfl (by kernel_rfl) (by kernel_rfl) (by kernel_rfl) (fun _ _ _ h => h) (Or.inl ⟨by rfl, by intro w2 hSw; (try dsimp only at hSw); have q_rc := (hSw.cell (p := ⟨R, 0, none⟩) (lt_of_cell rc)).trans rc; have q_p0 := (hSw.cell (p := ⟨R + 1, 0, none⟩) (lt_of_cell p0c)).trans p0c; have q_p1 := (hSw.cell (p := ⟨R + 1, 1, none⟩) (lt_of_cell p1c)).trans p1c; go_simp⟩) hS0 ?_
   try simp only [Act.put, List.setIfInBounds_toArray, List.set_cons_zero, List.set_cons_succ]
   generalize w5.drew = V0 at hS0 ⊢
   have hV0 := hS0
   clear hS0
   refine wpAnyH_ready (rs := [0, 5, 8]) (by kernel_rfl) (by simp) ?_
   refine AllReadyH.cons (o := { dst := some 63, op := Go.Op.buildSlice 22 0 #[], type := 22, pos := "outright.go:122", after := #[], guard := none }) rfl (fun K2 hK => ?_) ?_
   ·go_simp
    refine hK.out _ _ (hV0.trans ((below_alloc_ _ _).mono hV0.size)) (fun hV1 => ?_)
    clear hK K2
    have hZ := heap_alloc_new_ V0 (.cells #[] 57)
    have hb := below_alloc_ V0 (.cells #[] 57)
    have HZ0 := Lib.hid (show w5.heap.size ≤ V0.heap.size from hV0.size)
    have HB := Lib.hid (show ∀ j, Value.ownBlock (.slice (some ⟨V0.heap.size, 0, none⟩) 0 0) = some j → w5.heap.size ≤ j from fun j e => by have h9 : V0.heap.size = j := Option.some.inj e; have := HZ0.out; omega)
    generalize V0.alloc (.cells #[] 57) = V1 at *
    obtain ⟨Z, hZe⟩ : ∃ Z, V0.heap.size = Z := ⟨_, rfl⟩
    rw [hZe] at hZ HZ0 HB ⊢
    clear hZe hb
    have hown := own_empty (size := 2) hZ
    clear hZ
    try simp only [Act.put, List.setIfInBounds_toArray, List.set_cons_zero, List.set_cons_succ]
    refine wpAnyH_ready (rs := [3, 5, 8]) (by kernel_rfl) (by simp) ?_
    refine AllReadyH.cons (o := { dst := some 66, op := Go.Op.call { callee := Go.Callee.builtin Go.Builtin.append, args := #[Go.Operand.tmp 63, Go.Operand.tmp 65], argTypes := #[22, 22] }, type := 22, pos := "outright.go:122", after := #[{ on := 0, ground := Go.Ground.data }, { on := 2, ground := Go.Ground.data }], guard := none }) rfl (fun K2 hK => ?_) ?_
    ·obtain ⟨v1, V2, hrun, hown2, hKp, hon⟩ := app_rgs (c2 := cap) (xs := []) hown (S.out.below hV1 (Nat.le_refl _)) (by omega)
     have hV2h := Lib.hid (show Below w5.heap.size w5 V2 from hV1.trans (hKp.below hV1.size (fun j hj e => by have := HB.out j e; omega)))
     have HB2 := Lib.hid (show ∀ j, Value.ownBlock v1 = some j → w5.heap.size ≤ j from fun j e => by rcases hon with h9 | h9 <;> rw [h9] at e <;> first | exact HB.out j e | (have h8 : V1.heap.size = j := Option.some.inj e; have := hV1.size; omega))
     clear HB hown hon hKp
     have HB := HB2
     have Hown := Lib.hid hown2
     clear HB2 hown2
     go_simp
     try rw [hrun]
     try go_simp
     have hown := Hown.out
     clear Hown
     refine hK.out _ _ (hV2h.out) (fun hV2 => ?_)
     clear hK K2
     clear hrun hV2h
     try simp only [Act.put, List.setIfInBounds_toArray, List.set_cons_zero, List.set_cons_succ]
     refine wpAnyH_ready (rs := [5, 8]) (by kernel_rfl) (by simp) ?_
     refine AllReadyH.cons (o := { dst := some 68, op := Go.Op.buildSlice 22 1 #[(0, Go.Operand.tmp 67)], type := 22, pos := "outright.go:122", after := #[{ on := 4, ground := Go.Ground.data }], guard := none }) rfl (fun K2 hK => ?_) ?_
     ·go_simp
      refine hK.out _ _ (hV2.trans ((below_alloc_ _ _).mono hV2.size)) (fun hV3 => ?_)
      clear hK K2
      have hT := heap_alloc_new_ V2 (.cells #[.int .i64 p0, .int .i64 p1] 57)
      have hb := below_alloc_ V2 (.cells #[.int .i64 p0, .int .i64 p1] 57)
      have HOT := Lib.hid (show Value.ownBlock (v1) ≠ some V2.heap.size from fun e => by have := own_lt hown _ e; omega)
      replace hown := own_keep hown (Keeps.of_new (Mut := fun _ => False) hb) (fun _ _ e => e)
      have HT0 := Lib.hid (show w5.heap.size ≤ V2.heap.size from hV2.size)
      generalize V2.alloc (.cells #[.int .i64 p0, .int .i64 p1] 57) = V3 at *
      obtain ⟨T, hTe⟩ : ∃ T, V2.heap.size = T := ⟨_, rfl⟩
      rw [hTe] at hT HT0 HOT ⊢
      clear hTe hb
      try simp only [Act.put, List.setIfInBounds_toArray, List.set_cons_zero, List.set_cons_succ]
      refine wpAnyH_ready (rs := [6, 8]) (by kernel_rfl) (by simp) ?_
      refine AllReadyH.cons (o := { dst := some 69, op := Go.Op.call { callee := Go.Callee.builtin Go.Builtin.append, args := #[Go.Operand.tmp 66, Go.Operand.tmp 68], argTypes := #[22, 22] }, type := 22, pos := "outright.go:122", after := #[{ on := 3, ground := Go.Ground.data }, { on := 5, ground := Go.Ground.data }, { on := 3, ground := Go.Ground.chain }], guard := none }) rfl (fun K2 hK => ?_) ?_
      ·obtain ⟨v2, V4, hrun, hown2, hKp, hon⟩ := app_1p hown hT (by omega)
       have hV4h := Lib.hid (show Below w5.heap.size w5 V4 from hV3.trans (hKp.below hV3.size (fun j hj e => by have := HB.out j e; omega)))
       have HPT := Lib.hid (show Value.ownBlock v2 ≠ some T from by rcases hon with h9 | h9 <;> rw [h9] <;> first | exact HOT.out | (intro e; have h8 : V3.heap.size = T := Option.some.inj e; have := lt_of_block hT; omega))
       replace hT := (hKp.block _ (lt_of_block hT) HOT.out).trans hT
       clear HOT
       have HOT := HPT
       clear HPT
       have HB2 := Lib.hid (show ∀ j, Value.ownBlock v2 = some j → w5.heap.size ≤ j from fun j e => by rcases hon with h9 | h9 <;> rw [h9] at e <;> first | exact HB.out j e | (have h8 : V3.heap.size = j := Option.some.inj e; have := hV3.size; omega))
       clear HB hown hon hKp
       have HB := HB2
       have Hown := Lib.hid hown2
       clear HB2 hown2
       have hown9 := Hown.out
       clear Hown
       rw [Nat.zero_add, List.nil_append] at hown9
       obtain ⟨C8, c8, rfl, hr8, hC8⟩ := rgs_own hown9 (by rw [List.length_append, HZl.out]; rfl)
       have HR8 := Lib.hid hr8
       clear hr8 hC8 hown9
       go_simp
       try rw [hrun]
       try go_simp
       refine hK.out _ _ (hV4h.out) (fun hV4 => ?_)
       clear hK K2
       clear hrun hV4h
       try simp only [Act.put, List.setIfInBounds_toArray, List.set_cons_zero, List.set_cons_succ]
       refine wpAnyH_take (i := 7) (oi := { dst := some 70, op := Go.Op.build 24 #[(0, Go.Operand.tmp 69)], type := 24, pos := "outright.go:122", after := #[{ on := 6, ground := Go.Ground.data }], guard := none }) (v := .agg #[.slice C8 (n + 1) c8]) rfl (by kernel_rfl) (by kernel_rfl) (by kernel_rfl) (fun _ _ _ h => h) (Or.inl ⟨by rfl, by intro w2 hSw; (try dsimp only at hSw);  go_simp⟩) hV4 ?_
       try simp only [Act.put, List.setIfInBounds_toArray, List.set_cons_zero, List.set_cons_succ]
       refine wpAnyH_ready (rs := [8]) (by kernel_rfl) (by simp) ?_
       refine AllReadyH.cons (o := { dst := some 20, op := Go.Op.alloc 24, type := 0, pos := "outright.go:122", after := #[], guard := none }) rfl (fun K2 hK => ?_) ?_
       ·go_simp
        refine hK.out _ _ (hV4.trans ((below_alloc_ _ _).mono hV4.size)) (fun hV5 => ?_)
        clear hK K2
        have hD := heap_alloc_new_ V4 (.cells #[.slice none 0 0] 24)
        have hb := below_alloc_ V4 (.cells #[.slice none 0 0] 24)
        have HNTD := Lib.hid (show T ≠ V4.heap.size from by have := lt_of_block hT; omega)
        have HOD := Lib.hid (show ∀ b o, C8 = some ⟨b, o, none⟩ → b ≠ V4.heap.size from fun b o e => by obtain ⟨b2, o2, e2, hc2⟩ := HR8.out.2 (by omega); rw [e2] at e; cases e; have := lt_of_cell (hc2 0 (by omega)).1; omega)
        replace HR8 := Lib.hid (HR8.out.below hb (Nat.le_refl _))
        replace hT := (hb.block _ (lt_of_block hT)).trans hT
        have HD0 := Lib.hid (show w5.heap.size ≤ V4.heap.size from hV4.size)
        generalize V4.alloc (.cells #[.slice none 0 0] 24) = V5 at *
        obtain ⟨D, hDe⟩ : ∃ D, V4.heap.size = D := ⟨_, rfl⟩
        rw [hDe] at hD HD0 HNTD HOD ⊢
        clear hDe hb
        try simp only [Act.put, List.setIfInBounds_toArray, List.set_cons_zero, List.set_cons_succ]
        have f0 : V5.cell? ⟨D, 0, none⟩ = some (.slice none 0 0) := by rw [cell_row hD]; rfl
        have fz : ∀ i, V5.frozen? ⟨D, i, none⟩ = false := fun i => frozen_row hD
        have HF := Lib.hid (more_book (c9 := c8) hV5 hD HD0.out HR8.out HOD.out)
        clear hD
        refine wpAnyH_ready (rs := [9]) (by kernel_rfl) (by simp) ?_
        refine AllReadyH.cons (o := { dst := none, op := Go.Op.store 24 (Go.Operand.tmp 20) (Go.Operand.tmp 70), type := 0, pos := "outright.go:122", after := #[{ on := 8, ground := Go.Ground.data }, { on := 7, ground := Go.Ground.data }, { on := 6, ground := Go.Ground.chain }, { on := 0, ground := Go.Ground.phase }, { on := 1, ground := Go.Ground.phase }, { on := 2, ground := Go.Ground.phase }, { on := 3, ground := Go.Ground.phase }, { on := 4, ground := Go.Ground.phase }, { on := 5, ground := Go.Ground.phase }, { on := 6, ground := Go.Ground.phase }, { on := 7, ground := Go.Ground.phase }, { on := 8, ground := Go.Ground.phase }], guard := none }) rfl (fun K2 hK => ?_) AllReadyH.nil
        go_simp
        refine hK.out _ _ HF.out.2.2 (fun hSf => ?_)
        clear hK K2
        try simp only [Act.put, List.setIfInBounds_toArray, List.set_cons_zero, List.set_cons_succ]
        refine wpAnyH_done (by kernel_rfl) ?_ _
        clear f0 fz hSf
        go_wp2_with fail
        go_meet
        case rel => exact ⟨D, C8, c8, rfl, HF.out⟩
       exact AllReadyH.nil
      refine AllReadyH.cons (o := { dst := some 20, op := Go.Op.alloc 24, type := 0, pos := "outright.go:122", after := #[], guard := none }) rfl (fun K2 hK => ?_) ?_
      ·go_simp
       refine hK.out _ _ (hV3.trans ((below_alloc_ _ _).mono hV3.size)) (fun hV4 => ?_)
       clear hK K2
       have hD := heap_alloc_new_ V3 (.cells #[.slice none 0 0] 24)
       have hb := below_alloc_ V3 (.cells #[.slice none 0 0] 24)
       have HNTD := Lib.hid (show T ≠ V3.heap.size from by have := lt_of_block hT; omega)
       have HOD := Lib.hid (show Value.ownBlock (v1) ≠ some V3.heap.size from fun e => by have := own_lt hown _ e; omega)
       replace hown := own_keep hown (Keeps.of_new (Mut := fun _ => False) hb) (fun _ _ e => e)
       replace hT := (hb.block _ (lt_of_block hT)).trans hT
       have HD0 := Lib.hid (show w5.heap.size ≤ V3.heap.size from hV3.size)
       generalize V3.alloc (.cells #[.slice none 0 0] 24) = V4 at *
       obtain ⟨D, hDe⟩ : ∃ D, V3.heap.size = D := ⟨_, rfl⟩
       rw [hDe] at hD HD0 HNTD HOD ⊢
       clear hDe hb
       try simp only [Act.put, List.setIfInBounds_toArray, List.set_cons_zero, List.set_cons_succ]
       refine wpAnyH_ready (rs := [6]) (by kernel_rfl) (by simp) ?_
       refine AllReadyH.cons (o := { dst := some 69, op := Go.Op.call { callee := Go.Callee.builtin Go.Builtin.append, args := #[Go.Operand.tmp 66, Go.Operand.tmp 68], argTypes := #[22, 22] }, type := 22, pos := "outright.go:122", after := #[{ on := 3, ground := Go.Ground.data }, { on := 5, ground := Go.Ground.data }, { on := 3, ground := Go.Ground.chain }], guard := none }) rfl (fun K2 hK => ?_) ?_
       ·obtain ⟨v2, V5, hrun, hown2, hKp, hon⟩ := app_1p hown hT (by omega)
        have hV5h := Lib.hid (show Below w5.heap.size w5 V5 from hV4.trans (hKp.below hV4.size (fun j hj e => by have := HB.out j e; omega)))
        have HPT := Lib.hid (show Value.ownBlock v2 ≠ some T from by rcases hon with h9 | h9 <;> rw [h9] <;> first | exact HOT.out | (intro e; have h8 : V4.heap.size = T := Option.some.inj e; have := lt_of_block hT; omega))
        replace hT := (hKp.block _ (lt_of_block hT) HOT.out).trans hT
        clear HOT
        have HOT := HPT
        clear HPT
        have HPD := Lib.hid (show Value.ownBlock v2 ≠ some D from by rcases hon with h9 | h9 <;> rw [h9] <;> first | exact HOD.out | (intro e; have h8 : V4.heap.size = D := Option.some.inj e; have := lt_of_block hD; omega))
        replace hD := (hKp.block _ (lt_of_block hD) HOD.out).trans hD
        clear HOD
        have HOD := HPD
        clear HPD
        have HB2 := Lib.hid (show ∀ j, Value.ownBlock v2 = some j → w5.heap.size ≤ j from fun j e => by rcases hon with h9 | h9 <;> rw [h9] at e <;> first | exact HB.out j e | (have h8 : V4.heap.size = j := Option.some.inj e; have := hV4.size; omega))
        clear HB hown hon hKp
        have HB := HB2
        have Hown := Lib.hid hown2
        clear HB2 hown2
        have hown9 := Hown.out
        clear Hown
        rw [Nat.zero_add, List.nil_append] at hown9
        obtain ⟨C8, c8, rfl, hr8, hC8⟩ := rgs_own hown9 (by rw [List.length_append, HZl.out]; rfl)
        have HR8 := Lib.hid hr8
        have HC8 := Lib.hid (show ∀ b o, C8 = some ⟨b, o, none⟩ → b ≠ D from fun b o e e2 => HOD.out (by rw [← e2]; exact (hC8 b o e).1))
        clear HOD
        have HOD := HC8
        clear HC8
        clear hr8 hC8 hown9
        go_simp
        try rw [hrun]
        try go_simp
        refine hK.out _ _ (hV5h.out) (fun hV5 => ?_)
        clear hK K2
        clear hrun hV5h
        try simp only [Act.put, List.setIfInBounds_toArray, List.set_cons_zero, List.set_cons_succ]
        refine wpAnyH_take (i := 7) (oi := { dst := some 70, op := Go.Op.build 24 #[(0, Go.Operand.tmp 69)], type := 24, pos := "outright.go:122", after := #[{ on := 6, ground := Go.Ground.data }], guard := none }) (v := .agg #[.slice C8 (n + 1) c8]) rfl (by kernel_rfl) (by kernel_rfl) (by kernel_rfl) (fun _ _ _ h => h) (Or.inl ⟨by rfl, by intro w2 hSw; (try dsimp only at hSw);  go_simp⟩) hV5 ?_
        try simp only [Act.put, List.setIfInBounds_toArray, List.set_cons_zero, List.set_cons_succ]
        have f0 : V5.cell? ⟨D, 0, none⟩ = some (.slice none 0 0) := by rw [cell_row hD]; rfl
        have fz : ∀ i, V5.frozen? ⟨D, i, none⟩ = false := fun i => frozen_row hD
        have HF := Lib.hid (more_book (c9 := c8) hV5 hD HD0.out HR8.out HOD.out)
        clear hD
        refine wpAnyH_ready (rs := [9]) (by kernel_rfl) (by simp) ?_
        refine AllReadyH.cons (o := { dst := none, op := Go.Op.store 24 (Go.Operand.tmp 20) (Go.Operand.tmp 70), type := 0, pos := "outright.go:122", after := #[{ on := 8, ground := Go.Ground.data }, { on := 7, ground := Go.Ground.data }, { on := 6, ground := Go.Ground.chain }, { on := 0, ground := Go.Ground.phase }, { on := 1, ground := Go.Ground.phase }, { on := 2, ground := Go.Ground.phase }, { on := 3, ground := Go.Ground.phase }, { on := 4, ground := Go.Ground.phase }, { on := 5, ground := Go.Ground.phase }, { on := 6, ground := Go.Ground.phase }, { on := 7, ground := Go.Ground.phase }, { on := 8, ground := Go.Ground.phase }], guard := none }) rfl (fun K2 hK => ?_) AllReadyH.nil
        go_simp
        refine hK.out _ _ HF.out.2.2 (fun hSf => ?_)
        clear hK K2
        try simp only [Act.put, List.setIfInBounds_toArray, List.set_cons_zero, List.set_cons_succ]
        refine wpAnyH_done (by kernel_rfl) ?_ _
        clear f0 fz hSf
        go_wp2_with fail
        go_meet
        case rel => exact ⟨D, C8, c8, rfl, HF.out⟩
       exact AllReadyH.nil
      exact AllReadyH.nil
     refine AllReadyH.cons (o := { dst := some 20, op := Go.Op.alloc 24, type := 0, pos := "outright.go:122", after := #[], guard := none }) rfl (fun K2 hK => ?_) ?_
     ·go_simp
      refine hK.out _ _ (hV2.trans ((below_alloc_ _ _).mono hV2.size)) (fun hV3 => ?_)
      clear hK K2
      have hD := heap_alloc_new_ V2 (.cells #[.slice none 0 0] 24)
      have hb := below_alloc_ V2 (.cells #[.slice none 0 0] 24)
      have HOD := Lib.hid (show Value.ownBlock (v1) ≠ some V2.heap.size from fun e => by have := own_lt hown _ e; omega)
      replace hown := own_keep hown (Keeps.of_new (Mut := fun _ => False) hb) (fun _ _ e => e)
      have HD0 := Lib.hid (show w5.heap.size ≤ V2.heap.size from hV2.size)
      generalize V2.alloc (.cells #[.slice none 0 0] 24) = V3 at *
      obtain ⟨D, hDe⟩ : ∃ D, V2.heap.size = D := ⟨_, rfl⟩
      rw [hDe] at hD HD0 HOD ⊢
      clear hDe hb
      try simp only [Act.put, List.setIfInBounds_toArray, List.set_cons_zero, List.set_cons_succ]
      refine wpAnyH_ready (rs := [5]) (by kernel_rfl) (by simp) ?_
      refine AllReadyH.cons (o := { dst := some 68, op := Go.Op.buildSlice 22 1 #[(0, Go.Operand.tmp 67)], type := 22, pos := "outright.go:122", after := #[{ on := 4, ground := Go.Ground.data }], guard := none }) rfl (fun K2 hK => ?_) ?_
      ·go_simp
       refine hK.out _ _ (hV3.trans ((below_alloc_ _ _).mono hV3.size)) (fun hV4 => ?_)
       clear hK K2
       have hT := heap_alloc_new_ V3 (.cells #[.int .i64 p0, .int .i64 p1] 57)
       have hb := below_alloc_ V3 (.cells #[.int .i64 p0, .int .i64 p1] 57)
       have HNDT := Lib.hid (show D ≠ V3.heap.size from by have := lt_of_block hD; omega)
       have HOT := Lib.hid (show Value.ownBlock (v1) ≠ some V3.heap.size from fun e => by have := own_lt hown _ e; omega)
       replace hown := own_keep hown (Keeps.of_new (Mut := fun _ => False) hb) (fun _ _ e => e)
       replace hD := (hb.block _ (lt_of_block hD)).trans hD
       have HT0 := Lib.hid (show w5.heap.size ≤ V3.heap.size from hV3.size)
       generalize V3.alloc (.cells #[.int .i64 p0, .int .i64 p1] 57) = V4 at *
       obtain ⟨T, hTe⟩ : ∃ T, V3.heap.size = T := ⟨_, rfl⟩
       rw [hTe] at hT HT0 HNDT HOT ⊢
       clear hTe hb
       try simp only [Act.put, List.setIfInBounds_toArray, List.set_cons_zero, List.set_cons_succ]
       refine wpAnyH_ready (rs := [6]) (by kernel_rfl) (by simp) ?_
       refine AllReadyH.cons (o := { dst := some 69, op := Go.Op.call { callee := Go.Callee.builtin Go.Builtin.append, args := #[Go.Operand.tmp 66, Go.Operand.tmp 68], argTypes := #[22, 22] }, type := 22, pos := "outright.go:122", after := #[{ on := 3, ground := Go.Ground.data }, { on := 5, ground := Go.Ground.data }, { on := 3, ground := Go.Ground.chain }], guard := none }) rfl (fun K2 hK => ?_) ?_
       ·obtain ⟨v2, V5, hrun, hown2, hKp, hon⟩ := app_1p hown hT (by omega)
        have hV5h := Lib.hid (show Below w5.heap.size w5 V5 from hV4.trans (hKp.below hV4.size (fun j hj e => by have := HB.out j e; omega)))
        have HPD := Lib.hid (show Value.ownBlock v2 ≠ some D from by rcases hon with h9 | h9 <;> rw [h9] <;> first | exact HOD.out | (intro e; have h8 : V4.heap.size = D := Option.some.inj e; have := lt_of_block hD; omega))
        replace hD := (hKp.block _ (lt_of_block hD) HOD.out).trans hD
        clear HOD
        have HOD := HPD
        clear HPD
        have HPT := Lib.hid (show Value.ownBlock v2 ≠ some T from by rcases hon with h9 | h9 <;> rw [h9] <;> first | exact HOT.out | (intro e; have h8 : V4.heap.size = T := Option.some.inj e; have := lt_of_block hT; omega))
        replace hT := (hKp.block _ (lt_of_block hT) HOT.out).trans hT
        clear HOT
        have HOT := HPT
        clear HPT
        have HB2 := Lib.hid (show ∀ j, Value.ownBlock v2 = some j → w5.heap.size ≤ j from fun j e => by rcases hon with h9 | h9 <;> rw [h9] at e <;> first | exact HB.out j e | (have h8 : V4.heap.size = j := Option.some.inj e; have := hV4.size; omega))
        clear HB hown hon hKp
        have HB := HB2
        have Hown := Lib.hid hown2
        clear HB2 hown2
        have hown9 := Hown.out
        clear Hown
        rw [Nat.zero_add, List.nil_append] at hown9
        obtain ⟨C8, c8, rfl, hr8, hC8⟩ := rgs_own hown9 (by rw [List.length_append, HZl.out]; rfl)
        have HR8 := Lib.hid hr8
        have HC8 := Lib.hid (show ∀ b o, C8 = some ⟨b, o, none⟩ → b ≠ D from fun b o e e2 => HOD.out (by rw [← e2]; exact (hC8 b o e).1))
        clear HOD
        have HOD := HC8
        clear HC8
        clear hr8 hC8 hown9
        go_simp
        try rw [hrun]
        try go_simp
        refine hK.out _ _ (hV5h.out) (fun hV5 => ?_)
        clear hK K2
        clear hrun hV5h
        try simp only [Act.put, List.setIfInBounds_toArray, List.set_cons_zero, List.set_cons_succ]
        refine wpAnyH_take (i := 7) (oi := { dst := some 70, op := Go.Op.build 24 #[(0, Go.Operand.tmp 69)], type := 24, pos := "outright.go:122", after := #[{ on := 6, ground := Go.Ground.data }], guard := none }) (v := .agg #[.slice C8 (n + 1) c8]) rfl (by kernel_rfl) (by kernel_rfl) (by kernel_rfl) (fun _ _ _ h => h) (Or.inl ⟨by rfl, by intro w2 hSw; (try dsimp only at hSw);  go_simp⟩) hV5 ?_
        try simp only [Act.put, List.setIfInBounds_toArray, List.set_cons_zero, List.set_cons_succ]
        have f0 : V5.cell? ⟨D, 0, none⟩ = some (.slice none 0 0) := by rw [cell_row hD]; rfl
        have fz : ∀ i, V5.frozen? ⟨D, i, none⟩ = false := fun i => frozen_row hD
        have HF := Lib.hid (more_book (c9 := c8) hV5 hD HD0.out HR8.out HOD.out)
        clear hD
        refine wpAnyH_ready (rs := [9]) (by kernel_rfl) (by simp) ?_
        refine AllReadyH.cons (o := { dst := none, op := Go.Op.store 24 (Go.Operand.tmp 20) (Go.Operand.tmp 70), type := 0, pos := "outright.go:122", after := #[{ on := 8, ground := Go.Ground.data }, { on := 7, ground := Go.Ground.data }, { on := 6, ground := Go.Ground.chain }, { on := 0, ground := Go.Ground.phase }, { on := 1, ground := Go.Ground.phase }, { on := 2, ground := Go.Ground.phase }, { on := 3, ground := Go.Ground.phase }, { on := 4, ground := Go.Ground.phase }, { on := 5, ground := Go.Ground.phase }, { on := 6, ground := Go.Ground.phase }, { on := 7, ground := Go.Ground.phase }, { on := 8, ground := Go.Ground.phase }], guard := none }) rfl (fun K2 hK => ?_) AllReadyH.nil
        go_simp
        refine hK.out _ _ HF.out.2.2 (fun hSf => ?_)
        clear hK K2
        try simp only [Act.put, List.setIfInBounds_toArray, List.set_cons_zero, List.set_cons_succ]
        refine wpAnyH_done (by kernel_rfl) ?_ _
        clear f0 fz hSf
        go_wp2_with fail
        go_meet
        case rel => exact ⟨D, C8, c8, rfl, HF.out⟩
       exact AllReadyH.nil
      exact AllReadyH.nil
     exact AllReadyH.nil
    refine AllReadyH.cons (o := { dst := some 68, op := Go.Op.buildSlice 22 1 #[(0, Go.Operand.tmp 67)], type := 22, pos := "outright.go:122", after := #[{ on := 4, ground := Go.Ground.data }], guard := none }) rfl (fun K2 hK => ?_) ?_
    ·go_simp
     refine hK.out _ _ (hV1.trans ((below_alloc_ _ _).mono hV1.size)) (fun hV2 => ?_)
     clear hK K2
     have hT := heap_alloc_new_ V1 (.cells #[.int .i64 p0, .int .i64 p1] 57)
     have hb := below_alloc_ V1 (.cells #[.int .i64 p0, .int .i64 p1] 57)
     have HOT := Lib.hid (show Value.ownBlock (.slice (some ⟨Z, 0, none⟩) 0 0) ≠ some V1.heap.size from fun e => by have := own_lt hown _ e; omega)
     replace hown := own_keep hown (Keeps.of_new (Mut := fun _ => False) hb) (fun _ _ e => e)
     have HT0 := Lib.hid (show w5.heap.size ≤ V1.heap.size from hV1.size)
     generalize V1.alloc (.cells #[.int .i64 p0, .int .i64 p1] 57) = V2 at *
     obtain ⟨T, hTe⟩ : ∃ T, V1.heap.size = T := ⟨_, rfl⟩
     rw [hTe] at hT HT0 HOT ⊢
     clear hTe hb
     try simp only [Act.put, List.setIfInBounds_toArray, List.set_cons_zero, List.set_cons_succ]
     refine wpAnyH_ready (rs := [3, 8]) (by kernel_rfl) (by simp) ?_
     refine AllReadyH.cons (o := { dst := some 66, op := Go.Op.call { callee := Go.Callee.builtin Go.Builtin.append, args := #[Go.Operand.tmp 63, Go.Operand.tmp 65], argTypes := #[22, 22] }, type := 22, pos := "outright.go:122", after := #[{ on := 0, ground := Go.Ground.data }, { on := 2, ground := Go.Ground.data }], guard := none }) rfl (fun K2 hK => ?_) ?_
     ·obtain ⟨v1, V3, hrun, hown2, hKp, hon⟩ := app_rgs (c2 := cap) (xs := []) hown (S.out.below hV2 (Nat.le_refl _)) (by omega)
      have hV3h := Lib.hid (show Below w5.heap.size w5 V3 from hV2.trans (hKp.below hV2.size (fun j hj e => by have := HB.out j e; omega)))
      have HPT := Lib.hid (show Value.ownBlock v1 ≠ some T from by rcases hon with h9 | h9 <;> rw [h9] <;> first | exact HOT.out | (intro e; have h8 : V2.heap.size = T := Option.some.inj e; have := lt_of_block hT; omega))
      replace hT := (hKp.block _ (lt_of_block hT) HOT.out).trans hT
      clear HOT
      have HOT := HPT
      clear HPT
      have HB2 := Lib.hid (show ∀ j, Value.ownBlock v1 = some j → w5.heap.size ≤ j from fun j e => by rcases hon with h9 | h9 <;> rw [h9] at e <;> first | exact HB.out j e | (have h8 : V2.heap.size = j := Option.some.inj e; have := hV2.size; omega))
      clear HB hown hon hKp
      have HB := HB2
      have Hown := Lib.hid hown2
      clear HB2 hown2
      go_simp
      try rw [hrun]
      try go_simp
      have hown := Hown.out
      clear Hown
      refine hK.out _ _ (hV3h.out) (fun hV3 => ?_)
      clear hK K2
      clear hrun hV3h
      try simp only [Act.put, List.setIfInBounds_toArray, List.set_cons_zero, List.set_cons_succ]
      refine wpAnyH_ready (rs := [6, 8]) (by kernel_rfl) (by simp) ?_
      refine AllReadyH.cons (o := { dst := some 69, op := Go.Op.call { callee := Go.Callee.builtin Go.Builtin.append, args := #[Go.Operand.tmp 66, Go.Operand.tmp 68], argTypes := #[22, 22] }, type := 22, pos := "outright.go:122", after := #[{ on := 3, ground := Go.Ground.data }, { on := 5, ground := Go.Ground.data }, { on := 3, ground := Go.Ground.chain }], guard := none }) rfl (fun K2 hK => ?_) ?_
      ·obtain ⟨v2, V4, hrun, hown2, hKp, hon⟩ := app_1p hown hT (by omega)
       have hV4h := Lib.hid (show Below w5.heap.size w5 V4 from hV3.trans (hKp.below hV3.size (fun j hj e => by have := HB.out j e; omega)))
       have HPT := Lib.hid (show Value.ownBlock v2 ≠ some T from by rcases hon with h9 | h9 <;> rw [h9] <;> first | exact HOT.out | (intro e; have h8 : V3.heap.size = T := Option.some.inj e; have := lt_of_block hT; omega))
       replace hT := (hKp.block _ (lt_of_block hT) HOT.out).trans hT
       clear HOT
       have HOT := HPT
       clear HPT
       have HB2 := Lib.hid (show ∀ j, Value.ownBlock v2 = some j → w5.heap.size ≤ j from fun j e => by rcases hon with h9 | h9 <;> rw [h9] at e <;> first | exact HB.out j e | (have h8 : V3.heap.size = j := Option.some.inj e; have := hV3.size; omega))
       clear HB hown hon hKp
       have HB := HB2
       have Hown := Lib.hid hown2
       clear HB2 hown2
       have hown9 := Hown.out
       clear Hown
       rw [Nat.zero_add, List.nil_append] at hown9
       obtain ⟨C8, c8, rfl, hr8, hC8⟩ := rgs_own hown9 (by rw [List.length_append, HZl.out]; rfl)
       have HR8 := Lib.hid hr8
       clear hr8 hC8 hown9
       go_simp
       try rw [hrun]
       try go_simp
       refine hK.out _ _ (hV4h.out) (fun hV4 => ?_)
       clear hK K2
       clear hrun hV4h
       try simp only [Act.put, List.setIfInBounds_toArray, List.set_cons_zero, List.set_cons_succ]
       refine wpAnyH_take (i := 7) (oi := { dst := some 70, op := Go.Op.build 24 #[(0, Go.Operand.tmp 69)], type := 24, pos := "outright.go:122", after := #[{ on := 6, ground := Go.Ground.data }], guard := none }) (v := .agg #[.slice C8 (n + 1) c8]) rfl (by kernel_rfl) (by kernel_rfl) (by kernel_rfl) (fun _ _ _ h => h) (Or.inl ⟨by rfl, by intro w2 hSw; (try dsimp only at hSw);  go_simp⟩) hV4 ?_
       try simp only [Act.put, List.setIfInBounds_toArray, List.set_cons_zero, List.set_cons_succ]
       refine wpAnyH_ready (rs := [8]) (by kernel_rfl) (by simp) ?_
       refine AllReadyH.cons (o := { dst := some 20, op := Go.Op.alloc 24, type := 0, pos := "outright.go:122", after := #[], guard := none }) rfl (fun K2 hK => ?_) ?_
       ·go_simp
        refine hK.out _ _ (hV4.trans ((below_alloc_ _ _).mono hV4.size)) (fun hV5 => ?_)
        clear hK K2
        have hD := heap_alloc_new_ V4 (.cells #[.slice none 0 0] 24)
        have hb := below_alloc_ V4 (.cells #[.slice none 0 0] 24)
        have HNTD := Lib.hid (show T ≠ V4.heap.size from by have := lt_of_block hT; omega)
        have HOD := Lib.hid (show ∀ b o, C8 = some ⟨b, o, none⟩ → b ≠ V4.heap.size from fun b o e => by obtain ⟨b2, o2, e2, hc2⟩ := HR8.out.2 (by omega); rw [e2] at e; cases e; have := lt_of_cell (hc2 0 (by omega)).1; omega)
        replace HR8 := Lib.hid (HR8.out.below hb (Nat.le_refl _))
        replace hT := (hb.block _ (lt_of_block hT)).trans hT
        have HD0 := Lib.hid (show w5.heap.size ≤ V4.heap.size from hV4.size)
        generalize V4.alloc (.cells #[.slice none 0 0] 24) = V5 at *
        obtain ⟨D, hDe⟩ : ∃ D, V4.heap.size = D := ⟨_, rfl⟩
        rw [hDe] at hD HD0 HNTD HOD ⊢
        clear hDe hb
        try simp only [Act.put, List.setIfInBounds_toArray, List.set_cons_zero, List.set_cons_succ]
        have f0 : V5.cell? ⟨D, 0, none⟩ = some (.slice none 0 0) := by rw [cell_row hD]; rfl
        have fz : ∀ i, V5.frozen? ⟨D, i, none⟩ = false := fun i => frozen_row hD
        have HF := Lib.hid (more_book (c9 := c8) hV5 hD HD0.out HR8.out HOD.out)
        clear hD
        refine wpAnyH_ready (rs := [9]) (by kernel_rfl) (by simp) ?_
        refine AllReadyH.cons (o := { dst := none, op := Go.Op.store 24 (Go.Operand.tmp 20) (Go.Operand.tmp 70), type := 0, pos := "outright.go:122", after := #[{ on := 8, ground := Go.Ground.data }, { on := 7, ground := Go.Ground.data }, { on := 6, ground := Go.Ground.chain }, { on := 0, ground := Go.Ground.phase }, { on := 1, ground := Go.Ground.phase }, { on := 2, ground := Go.Ground.phase }, { on := 3, ground := Go.Ground.phase }, { on := 4, ground := Go.Ground.phase }, { on := 5, ground := Go.Ground.phase }, { on := 6, ground := Go.Ground.phase }, { on := 7, ground := Go.Ground.phase }, { on := 8, ground := Go.Ground.phase }], guard := none }) rfl (fun K2 hK => ?_) AllReadyH.nil
        go_simp
        refine hK.out _ _ HF.out.2.2 (fun hSf => ?_)
        clear hK K2
        try simp only [Act.put, List.setIfInBounds_toArray, List.set_cons_zero, List.set_cons_succ]
        refine wpAnyH_done (by kernel_rfl) ?_ _
        clear f0 fz hSf
        go_wp2_with fail
        go_meet
        case rel => exact ⟨D, C8, c8, rfl, HF.out⟩
       exact AllReadyH.nil
      refine AllReadyH.cons (o := { dst := some 20, op := Go.Op.alloc 24, type := 0, pos := "outright.go:122", after := #[], guard := none }) rfl (fun K2 hK => ?_) ?_
      ·go_simp
       refine hK.out _ _ (hV3.trans ((below_alloc_ _ _).mono hV3.size)) (fun hV4 => ?_)
       clear hK K2
       have hD := heap_alloc_new_ V3 (.cells #[.slice none 0 0] 24)
       have hb := below_alloc_ V3 (.cells #[.slice none 0 0] 24)
       have HNTD := Lib.hid (show T ≠ V3.heap.size from by have := lt_of_block hT; omega)
       have HOD := Lib.hid (show Value.ownBlock (v1) ≠ some V3.heap.size from fun e => by have := own_lt hown _ e; omega)
       replace hown := own_keep hown (Keeps.of_new (Mut := fun _ => False) hb) (fun _ _ e => e)
       replace hT := (hb.block _ (lt_of_block hT)).trans hT
       have HD0 := Lib.hid (show w5.heap.size ≤ V3.heap.size from hV3.size)
       generalize V3.alloc (.cells #[.slice none 0 0] 24) = V4 at *
       obtain ⟨D, hDe⟩ : ∃ D, V3.heap.size = D := ⟨_, rfl⟩
       rw [hDe] at hD HD0 HNTD HOD ⊢
       clear hDe hb
       try simp only [Act.put, List.setIfInBounds_toArray, List.set_cons_zero, List.set_cons_succ]
       refine wpAnyH_ready (rs := [6]) (by kernel_rfl) (by simp) ?_
       refine AllReadyH.cons (o := { dst := some 69, op := Go.Op.call { callee := Go.Callee.builtin Go.Builtin.append, args := #[Go.Operand.tmp 66, Go.Operand.tmp 68], argTypes := #[22, 22] }, type := 22, pos := "outright.go:122", after := #[{ on := 3, ground := Go.Ground.data }, { on := 5, ground := Go.Ground.data }, { on := 3, ground := Go.Ground.chain }], guard := none }) rfl (fun K2 hK => ?_) ?_
       ·obtain ⟨v2, V5, hrun, hown2, hKp, hon⟩ := app_1p hown hT (by omega)
        have hV5h := Lib.hid (show Below w5.heap.size w5 V5 from hV4.trans (hKp.below hV4.size (fun j hj e => by have := HB.out j e; omega)))
        have HPT := Lib.hid (show Value.ownBlock v2 ≠ some T from by rcases hon with h9 | h9 <;> rw [h9] <;> first | exact HOT.out | (intro e; have h8 : V4.heap.size = T := Option.some.inj e; have := lt_of_block hT; omega))
        replace hT := (hKp.block _ (lt_of_block hT) HOT.out).trans hT
        clear HOT
        have HOT := HPT
        clear HPT
        have HPD := Lib.hid (show Value.ownBlock v2 ≠ some D from by rcases hon with h9 | h9 <;> rw [h9] <;> first | exact HOD.out | (intro e; have h8 : V4.heap.size = D := Option.some.inj e; have := lt_of_block hD; omega))
        replace hD := (hKp.block _ (lt_of_block hD) HOD.out).trans hD
        clear HOD
        have HOD := HPD
        clear HPD
        have HB2 := Lib.hid (show ∀ j, Value.ownBlock v2 = some j → w5.heap.size ≤ j from fun j e => by rcases hon with h9 | h9 <;> rw [h9] at e <;> first | exact HB.out j e | (have h8 : V4.heap.size = j := Option.some.inj e; have := hV4.size; omega))
        clear HB hown hon hKp
        have HB := HB2
        have Hown := Lib.hid hown2
        clear HB2 hown2
        have hown9 := Hown.out
        clear Hown
        rw [Nat.zero_add, List.nil_append] at hown9
        obtain ⟨C8, c8, rfl, hr8, hC8⟩ := rgs_own hown9 (by rw [List.length_append, HZl.out]; rfl)
        have HR8 := Lib.hid hr8
        have HC8 := Lib.hid (show ∀ b o, C8 = some ⟨b, o, none⟩ → b ≠ D from fun b o e e2 => HOD.out (by rw [← e2]; exact (hC8 b o e).1))
        clear HOD
        have HOD := HC8
        clear HC8
        clear hr8 hC8 hown9
        go_simp
        try rw [hrun]
        try go_simp
        refine hK.out _ _ (hV5h.out) (fun hV5 => ?_)
        clear hK K2
        clear hrun hV5h
        try simp only [Act.put, List.setIfInBounds_toArray, List.set_cons_zero, List.set_cons_succ]
        refine wpAnyH_take (i := 7) (oi := { dst := some 70, op := Go.Op.build 24 #[(0, Go.Operand.tmp 69)], type := 24, pos := "outright.go:122", after := #[{ on := 6, ground := Go.Ground.data }], guard := none }) (v := .agg #[.slice C8 (n + 1) c8]) rfl (by kernel_rfl) (by kernel_rfl) (by kernel_rfl) (fun _ _ _ h => h) (Or.inl ⟨by rfl, by intro w2 hSw; (try dsimp only at hSw);  go_simp⟩) hV5 ?_
        try simp only [Act.put, List.setIfInBounds_toArray, List.set_cons_zero, List.set_cons_succ]
        have f0 : V5.cell? ⟨D, 0, none⟩ = some (.slice none 0 0) := by rw [cell_row hD]; rfl
        have fz : ∀ i, V5.frozen? ⟨D, i, none⟩ = false := fun i => frozen_row hD
        have HF := Lib.hid (more_book (c9 := c8) hV5 hD HD0.out HR8.out HOD.out)
        clear hD
        refine wpAnyH_ready (rs := [9]) (by kernel_rfl) (by simp) ?_
        refine AllReadyH.cons (o := { dst := none, op := Go.Op.store 24 (Go.Operand.tmp 20) (Go.Operand.tmp 70), type := 0, pos := "outright.go:122", after := #[{ on := 8, ground := Go.Ground.data }, { on := 7, ground := Go.Ground.data }, { on := 6, ground := Go.Ground.chain }, { on := 0, ground := Go.Ground.phase }, { on := 1, ground := Go.Ground.phase }, { on := 2, ground := Go.Ground.phase }, { on := 3, ground := Go.Ground.phase }, { on := 4, ground := Go.Ground.phase }, { on := 5, ground := Go.Ground.phase }, { on := 6, ground := Go.Ground.phase }, { on := 7, ground := Go.Ground.phase }, { on := 8, ground := Go.Ground.phase }], guard := none }) rfl (fun K2 hK => ?_) AllReadyH.nil
        go_simp
        refine hK.out _ _ HF.out.2.2 (fun hSf => ?_)
        clear hK K2
        try simp only [Act.put, List.setIfInBounds_toArray, List.set_cons_zero, List.set_cons_succ]
        refine wpAnyH_done (by kernel_rfl) ?_ _
        clear f0 fz hSf
        go_wp2_with fail
        go_meet
        case rel => exact ⟨D, C8, c8, rfl, HF.out⟩
       exact AllReadyH.nil
      exact AllReadyH.nil
     refine AllReadyH.cons (o := { dst := some 20, op := Go.Op.alloc 24, type := 0, pos := "outright.go:122", after := #[], guard := none }) rfl (fun K2 hK => ?_) ?_
     ·go_simp
      refine hK.out _ _ (hV2.trans ((below_alloc_ _ _).mono hV2.size)) (fun hV3 => ?_)
      clear hK K2
      have hD := heap_alloc_new_ V2 (.cells #[.slice none 0 0] 24)
      have hb := below_alloc_ V2 (.cells #[.slice none 0 0] 24)
      have HNTD := Lib.hid (show T ≠ V2.heap.size from by have := lt_of_block hT; omega)
      have HOD := Lib.hid (show Value.ownBlock (.slice (some ⟨Z, 0, none⟩) 0 0) ≠ some V2.heap.size from fun e => by have := own_lt hown _ e; omega)
      replace hown := own_keep hown (Keeps.of_new (Mut := fun _ => False) hb) (fun _ _ e => e)
      replace hT := (hb.block _ (lt_of_block hT)).trans hT
      have HD0 := Lib.hid (show w5.heap.size ≤ V2.heap.size from hV2.size)
      generalize V2.alloc (.cells #[.slice none 0 0] 24) = V3 at *
      obtain ⟨D, hDe⟩ : ∃ D, V2.heap.size = D := ⟨_, rfl⟩
      rw [hDe] at hD HD0 HNTD HOD ⊢
      clear hDe hb
      try simp only [Act.put, List.setIfInBounds_toArray, List.set_cons_zero, List.set_cons_succ]
      refine wpAnyH_ready (rs := [3]) (by kernel_rfl) (by simp) ?_
      refine AllReadyH.cons (o := { dst := some 66, op := Go.Op.call { callee := Go.Callee.builtin Go.Builtin.append, args := #[Go.Operand.tmp 63, Go.Operand.tmp 65], argTypes := #[22, 22] }, type := 22, pos := "outright.go:122", after := #[{ on := 0, ground := Go.Ground.data }, { on := 2, ground := Go.Ground.data }], guard := none }) rfl (fun K2 hK => ?_) ?_
      ·obtain ⟨v1, V4, hrun, hown2, hKp, hon⟩ := app_rgs (c2 := cap) (xs := []) hown (S.out.below hV3 (Nat.le_refl _)) (by omega)
       have hV4h := Lib.hid (show Below w5.heap.size w5 V4 from hV3.trans (hKp.below hV3.size (fun j hj e => by have := HB.out j e; omega)))
       have HPT := Lib.hid (show Value.ownBlock v1 ≠ some T from by rcases hon with h9 | h9 <;> rw [h9] <;> first | exact HOT.out | (intro e; have h8 : V3.heap.size = T := Option.some.inj e; have := lt_of_block hT; omega))
       replace hT := (hKp.block _ (lt_of_block hT) HOT.out).trans hT
       clear HOT
       have HOT := HPT
       clear HPT
       have HPD := Lib.hid (show Value.ownBlock v1 ≠ some D from by rcases hon with h9 | h9 <;> rw [h9] <;> first | exact HOD.out | (intro e; have h8 : V3.heap.size = D := Option.some.inj e; have := lt_of_block hD; omega))
       replace hD := (hKp.block _ (lt_of_block hD) HOD.out).trans hD
       clear HOD
       have HOD := HPD
       clear HPD
       have HB2 := Lib.hid (show ∀ j, Value.ownBlock v1 = some j → w5.heap.size ≤ j from fun j e => by rcases hon with h9 | h9 <;> rw [h9] at e <;> first | exact HB.out j e | (have h8 : V3.heap.size = j := Option.some.inj e; have := hV3.size; omega))
       clear HB hown hon hKp
       have HB := HB2
       have Hown := Lib.hid hown2
       clear HB2 hown2
       go_simp
       try rw [hrun]
       try go_simp
       have hown := Hown.out
       clear Hown
       refine hK.out _ _ (hV4h.out) (fun hV4 => ?_)
       clear hK K2
       clear hrun hV4h
       try simp only [Act.put, List.setIfInBounds_toArray, List.set_cons_zero, List.set_cons_succ]
       refine wpAnyH_ready (rs := [6]) (by kernel_rfl) (by simp) ?_
       refine AllReadyH.cons (o := { dst := some 69, op := Go.Op.call { callee := Go.Callee.builtin Go.Builtin.append, args := #[Go.Operand.tmp 66, Go.Operand.tmp 68], argTypes := #[22, 22] }, type := 22, pos := "outright.go:122", after := #[{ on := 3, ground := Go.Ground.data }, { on := 5, ground := Go.Ground.data }, { on := 3, ground := Go.Ground.chain }], guard := none }) rfl (fun K2 hK => ?_) ?_
       ·obtain ⟨v2, V5, hrun, hown2, hKp, hon⟩ := app_1p hown hT (by omega)
        have hV5h := Lib.hid (show Below w5.heap.size w5 V5 from hV4.trans (hKp.below hV4.size (fun j hj e => by have := HB.out j e; omega)))
        have HPT := Lib.hid (show Value.ownBlock v2 ≠ some T from by rcases hon with h9 | h9 <;> rw [h9] <;> first | exact HOT.out | (intro e; have h8 : V4.heap.size = T := Option.some.inj e; have := lt_of_block hT; omega))
        replace hT := (hKp.block _ (lt_of_block hT) HOT.out).trans hT
        clear HOT
        have HOT := HPT
        clear HPT
        have HPD := Lib.hid (show Value.ownBlock v2 ≠ some D from by rcases hon with h9 | h9 <;> rw [h9] <;> first | exact HOD.out | (intro e; have h8 : V4.heap.size = D := Option.some.inj e; have := lt_of_block hD; omega))
        replace hD := (hKp.block _ (lt_of_block hD) HOD.out).trans hD
        clear HOD
        have HOD := HPD
        clear HPD
        have HB2 := Lib.hid (show ∀ j, Value.ownBlock v2 = some j → w5.heap.size ≤ j from fun j e => by rcases hon with h9 | h9 <;> rw [h9] at e <;> first | exact HB.out j e | (have h8 : V4.heap.size = j := Option.some.inj e; have := hV4.size; omega))
        clear HB hown hon hKp
        have HB := HB2
        have Hown := Lib.hid hown2
        clear HB2 hown2
        have hown9 := Hown.out
        clear Hown
        rw [Nat.zero_add, List.nil_append] at hown9
        obtain ⟨C8, c8, rfl, hr8, hC8⟩ := rgs_own hown9 (by rw [List.length_append, HZl.out]; rfl)
        have HR8 := Lib.hid hr8
        have HC8 := Lib.hid (show ∀ b o, C8 = some ⟨b, o, none⟩ → b ≠ D from fun b o e e2 => HOD.out (by rw [← e2]; exact (hC8 b o e).1))
        clear HOD
        have HOD := HC8
        clear HC8
        clear hr8 hC8 hown9
        go_simp
        try rw [hrun]
        try go_simp
        refine hK.out _ _ (hV5h.out) (fun hV5 => ?_)
        clear hK K2
        clear hrun hV5h
        try simp only [Act.put, List.setIfInBounds_toArray, List.set_cons_zero, List.set_cons_succ]
        refine wpAnyH_take (i := 7) (oi := { dst := some 70, op := Go.Op.build 24 #[(0, Go.Operand.tmp 69)], type := 24, pos := "outright.go:122", after := #[{ on := 6, ground := Go.Ground.data }], guard := none }) (v := .agg #[.slice C8 (n + 1) c8]) rfl (by kernel_rfl) (by kernel_rfl) (by kernel_rfl) (fun _ _ _ h => h) (Or.inl ⟨by rfl, by intro w2 hSw; (try dsimp only at hSw);  go_simp⟩) hV5 ?_
        try simp only [Act.put, List.setIfInBounds_toArray, List.set_cons_zero, List.set_cons_succ]
        have f0 : V5.cell? ⟨D, 0, none⟩ = some (.slice none 0 0) := by rw [cell_row hD]; rfl
        have fz : ∀ i, V5.frozen? ⟨D, i, none⟩ = false := fun i => frozen_row hD
        have HF := Lib.hid (more_book (c9 := c8) hV5 hD HD0.out HR8.out HOD.out)
        clear hD
        refine wpAnyH_ready (rs := [9]) (by kernel_rfl) (by simp) ?_
        refine AllReadyH.cons (o := { dst := none, op := Go.Op.store 24 (Go.Operand.tmp 20) (Go.Operand.tmp 70), type := 0, pos := "outright.go:122", after := #[{ on := 8, ground := Go.Ground.data }, { on := 7, ground := Go.Ground.data }, { on := 6, ground := Go.Ground.chain }, { on := 0, ground := Go.Ground.phase }, { on := 1, ground := Go.Ground.phase }, { on := 2, ground := Go.Ground.phase }, { on := 3, ground := Go.Ground.phase }, { on := 4, ground := Go.Ground.phase }, { on := 5, ground := Go.Ground.phase }, { on := 6, ground := Go.Ground.phase }, { on := 7, ground := Go.Ground.phase }, { on := 8, ground := Go.Ground.phase }], guard := none }) rfl (fun K2 hK => ?_) AllReadyH.nil
        go_simp
        refine hK.out _ _ HF.out.2.2 (fun hSf => ?_)
        clear hK K2
        try simp only [Act.put, List.setIfInBounds_toArray, List.set_cons_zero, List.set_cons_succ]
        refine wpAnyH_done (by kernel_rfl) ?_ _
        clear f0 fz hSf
        go_wp2_with fail
        go_meet
        case rel => exact ⟨D, C8, c8, rfl, HF.out⟩
       exact AllReadyH.nil
      exact AllReadyH.nil
     exact AllReadyH.nil
    refine AllReadyH.cons (o := { dst := some 20, op := Go.Op.alloc 24, type := 0, pos := "outright.go:122", after := #[], guard := none }) rfl (fun K2 hK => ?_) ?_
    ·go_simp
     refine hK.out _ _ (hV1.trans ((below_alloc_ _ _).mono hV1.size)) (fun hV2 => ?_)
     clear hK K2
     have hD := heap_alloc_new_ V1 (.cells #[.slice none 0 0] 24)
     have hb := below_alloc_ V1 (.cells #[.slice none 0 0] 24)
     have HOD := Lib.hid (show Value.ownBlock (.slice (some ⟨Z, 0, none⟩) 0 0) ≠ some V1.heap.size from fun e => by have := own_lt hown _ e; omega)
     replace hown := own_keep hown (Keeps.of_new (Mut := fun _ => False) hb) (fun _ _ e => e)
     have HD0 := Lib.hid (show w5.heap.size ≤ V1.heap.size from hV1.size)
     generalize V1.alloc (.cells #[.slice none 0 0] 24) = V2 at *
     obtain ⟨D, hDe⟩ : ∃ D, V1.heap.size = D := ⟨_, rfl⟩
     rw [hDe] at hD HD0 HOD ⊢
     clear hDe hb
     try simp only [Act.put, List.setIfInBounds_toArray, List.set_cons_zero, List.set_cons_succ]
     refine wpAnyH_ready (rs := [3, 5]) (by kernel_rfl) (by simp) ?_
     refine AllReadyH.cons (o := { dst := some 66, op := Go.Op.call { callee := Go.Callee.builtin Go.Builtin.append, args := #[Go.Operand.tmp 63, Go.Operand.tmp 65], argTypes := #[22, 22] }, type := 22, pos := "outright.go:122", after := #[{ on := 0, ground := Go.Ground.data }, { on := 2, ground := Go.Ground.data }], guard := none }) rfl (fun K2 hK => ?_) ?_
     ·obtain ⟨v1, V3, hrun, hown2, hKp, hon⟩ := app_rgs (c2 := cap) (xs := []) hown (S.out.below hV2 (Nat.le_refl _)) (by omega)
      have hV3h := Lib.hid (show Below w5.heap.size w5 V3 from hV2.trans (hKp.below hV2.size (fun j hj e => by have := HB.out j e; omega)))
      have HPD := Lib.hid (show Value.ownBlock v1 ≠ some D from by rcases hon with h9 | h9 <;> rw [h9] <;> first | exact HOD.out | (intro e; have h8 : V2.heap.size = D := Option.some.inj e; have := lt_of_block hD; omega))
      replace hD := (hKp.block _ (lt_of_block hD) HOD.out).trans hD
      clear HOD
      have HOD := HPD
      clear HPD
      have HB2 := Lib.hid (show ∀ j, Value.ownBlock v1 = some j → w5.heap.size ≤ j from fun j e => by rcases hon with h9 | h9 <;> rw [h9] at e <;> first | exact HB.out j e | (have h8 : V2.heap.size = j := Option.some.inj e; have := hV2.size; omega))
      clear HB hown hon hKp
      have HB := HB2
      have Hown := Lib.hid hown2
      clear HB2 hown2
      go_simp
      try rw [hrun]
      try go_simp
      have hown := Hown.out
      clear Hown
      refine hK.out _ _ (hV3h.out) (fun hV3 => ?_)
      clear hK K2
      clear hrun hV3h
      try simp only [Act.put, List.setIfInBounds_toArray, List.set_cons_zero, List.set_cons_succ]
      refine wpAnyH_ready (rs := [5]) (by kernel_rfl) (by simp) ?_
      refine AllReadyH.cons (o := { dst := some 68, op := Go.Op.buildSlice 22 1 #[(0, Go.Operand.tmp 67)], type := 22, pos := "outright.go:122", after := #[{ on := 4, ground := Go.Ground.data }], guard := none }) rfl (fun K2 hK => ?_) ?_
      ·go_simp
       refine hK.out _ _ (hV3.trans ((below_alloc_ _ _).mono hV3.size)) (fun hV4 => ?_)
       clear hK K2
       have hT := heap_alloc_new_ V3 (.cells #[.int .i64 p0, .int .i64 p1] 57)
       have hb := below_alloc_ V3 (.cells #[.int .i64 p0, .int .i64 p1] 57)
       have HNDT := Lib.hid (show D ≠ V3.heap.size from by have := lt_of_block hD; omega)
       have HOT := Lib.hid (show Value.ownBlock (v1) ≠ some V3.heap.size from fun e => by have := own_lt hown _ e; omega)
       replace hown := own_keep hown (Keeps.of_new (Mut := fun _ => False) hb) (fun _ _ e => e)
       replace hD := (hb.block _ (lt_of_block hD)).trans hD
       have HT0 := Lib.hid (show w5.heap.size ≤ V3.heap.size from hV3.size)
       generalize V3.alloc (.cells #[.int .i64 p0, .int .i64 p1] 57) = V4 at *
       obtain ⟨T, hTe⟩ : ∃ T, V3.heap.size = T := ⟨_, rfl⟩
       rw [hTe] at hT HT0 HNDT HOT ⊢
       clear hTe hb
       try simp only [Act.put, List.setIfInBounds_toArray, List.set_cons_zero, List.set_cons_succ]
       refine wpAnyH_ready (rs := [6]) (by kernel_rfl) (by simp) ?_
       refine AllReadyH.cons (o := { dst := some 69, op := Go.Op.call { callee := Go.Callee.builtin Go.Builtin.append, args := #[Go.Operand.tmp 66, Go.Operand.tmp 68], argTypes := #[22, 22] }, type := 22, pos := "outright.go:122", after := #[{ on := 3, ground := Go.Ground.data }, { on := 5, ground := Go.Ground.data }, { on := 3, ground := Go.Ground.chain }], guard := none }) rfl (fun K2 hK => ?_) ?_
       ·obtain ⟨v2, V5, hrun, hown2, hKp, hon⟩ := app_1p hown hT (by omega)
        have hV5h := Lib.hid (show Below w5.heap.size w5 V5 from hV4.trans (hKp.below hV4.size (fun j hj e => by have := HB.out j e; omega)))
        have HPD := Lib.hid (show Value.ownBlock v2 ≠ some D from by rcases hon with h9 | h9 <;> rw [h9] <;> first | exact HOD.out | (intro e; have h8 : V4.heap.size = D := Option.some.inj e; have := lt_of_block hD; omega))
        replace hD := (hKp.block _ (lt_of_block hD) HOD.out).trans hD
        clear HOD
        have HOD := HPD
        clear HPD
        have HPT := Lib.hid (show Value.ownBlock v2 ≠ some T from by rcases hon with h9 | h9 <;> rw [h9] <;> first | exact HOT.out | (intro e; have h8 : V4.heap.size = T := Option.some.inj e; have := lt_of_block hT; omega))
        replace hT := (hKp.block _ (lt_of_block hT) HOT.out).trans hT
        clear HOT
        have HOT := HPT
        clear HPT
        have HB2 := Lib.hid (show ∀ j, Value.ownBlock v2 = some j → w5.heap.size ≤ j from fun j e => by rcases hon with h9 | h9 <;> rw [h9] at e <;> first | exact HB.out j e | (have h8 : V4.heap.size = j := Option.some.inj e; have := hV4.size; omega))
        clear HB hown hon hKp
        have HB := HB2
        have Hown := Lib.hid hown2
        clear HB2 hown2
        have hown9 := Hown.out
        clear Hown
        rw [Nat.zero_add, List.nil_append] at hown9
        obtain ⟨C8, c8, rfl, hr8, hC8⟩ := rgs_own hown9 (by rw [List.length_append, HZl.out]; rfl)
        have HR8 := Lib.hid hr8
        have HC8 := Lib.hid (show ∀ b o, C8 = some ⟨b, o, none⟩ → b ≠ D from fun b o e e2 => HOD.out (by rw [← e2]; exact (hC8 b o e).1))
        clear HOD
        have HOD := HC8
        clear HC8
        clear hr8 hC8 hown9
        go_simp
        try rw [hrun]
        try go_simp
        refine hK.out _ _ (hV5h.out) (fun hV5 => ?_)
        clear hK K2
        clear hrun hV5h
        try simp only [Act.put, List.setIfInBounds_toArray, List.set_cons_zero, List.set_cons_succ]
        refine wpAnyH_take (i := 7) (oi := { dst := some 70, op := Go.Op.build 24 #[(0, Go.Operand.tmp 69)], type := 24, pos := "outright.go:122", after := #[{ on := 6, ground := Go.Ground.data }], guard := none }) (v := .agg #[.slice C8 (n + 1) c8]) rfl (by kernel_rfl) (by kernel_rfl) (by kernel_rfl) (fun _ _ _ h => h) (Or.inl ⟨by rfl, by intro w2 hSw; (try dsimp only at hSw);  go_simp⟩) hV5 ?_
        try simp only [Act.put, List.setIfInBounds_toArray, List.set_cons_zero, List.set_cons_succ]
        have f0 : V5.cell? ⟨D, 0, none⟩ = some (.slice none 0 0) := by rw [cell_row hD]; rfl
        have fz : ∀ i, V5.frozen? ⟨D, i, none⟩ = false := fun i => frozen_row hD
        have HF := Lib.hid (more_book (c9 := c8) hV5 hD HD0.out HR8.out HOD.out)
        clear hD
        refine wpAnyH_ready (rs := [9]) (by kernel_rfl) (by simp) ?_
        refine AllReadyH.cons (o := { dst := none, op := Go.Op.store 24 (Go.Operand.tmp 20) (Go.Operand.tmp 70), type := 0, pos := "outright.go:122", after := #[{ on := 8, ground := Go.Ground.data }, { on := 7, ground := Go.Ground.data }, { on := 6, ground := Go.Ground.chain }, { on := 0, ground := Go.Ground.phase }, { on := 1, ground := Go.Ground.phase }, { on := 2, ground := Go.Ground.phase }, { on := 3, ground := Go.Ground.phase }, { on := 4, ground := Go.Ground.phase }, { on := 5, ground := Go.Ground.phase }, { on := 6, ground := Go.Ground.phase }, { on := 7, ground := Go.Ground.phase }, { on := 8, ground := Go.Ground.phase }], guard := none }) rfl (fun K2 hK => ?_) AllReadyH.nil
        go_simp
        refine hK.out _ _ HF.out.2.2 (fun hSf => ?_)
        clear hK K2
        try simp only [Act.put, List.setIfInBounds_toArray, List.set_cons_zero, List.set_cons_succ]
        refine wpAnyH_done (by kernel_rfl) ?_ _
        clear f0 fz hSf
        go_wp2_with fail
        go_meet
        case rel => exact ⟨D, C8, c8, rfl, HF.out⟩
       exact AllReadyH.nil
      exact AllReadyH.nil
     refine AllReadyH.cons (o := { dst := some 68, op := Go.Op.buildSlice 22 1 #[(0, Go.Operand.tmp 67)], type := 22, pos := "outright.go:122", after := #[{ on := 4, ground := Go.Ground.data }], guard := none }) rfl (fun K2 hK => ?_) ?_
     ·go_simp
      refine hK.out _ _ (hV2.trans ((below_alloc_ _ _).mono hV2.size)) (fun hV3 => ?_)
      clear hK K2
      have hT := heap_alloc_new_ V2 (.cells #[.int .i64 p0, .int .i64 p1] 57)
      have hb := below_alloc_ V2 (.cells #[.int .i64 p0, .int .i64 p1] 57)
      have HNDT := Lib.hid (show D ≠ V2.heap.size from by have := lt_of_block hD; omega)
      have HOT := Lib.hid (show Value.ownBlock (.slice (some ⟨Z, 0, none⟩) 0 0) ≠ some V2.heap.size from fun e => by have := own_lt hown _ e; omega)
      replace hown := own_keep hown (Keeps.of_new (Mut := fun _ => False) hb) (fun _ _ e => e)
      replace hD := (hb.block _ (lt_of_block hD)).trans hD
      have HT0 := Lib.hid (show w5.heap.size ≤ V2.heap.size from hV2.size)
      generalize V2.alloc (.cells #[.int .i64 p0, .int .i64 p1] 57) = V3 at *
      obtain ⟨T, hTe⟩ : ∃ T, V2.heap.size = T := ⟨_, rfl⟩
      rw [hTe] at hT HT0 HNDT HOT ⊢
      clear hTe hb
      try simp only [Act.put, List.setIfInBounds_toArray, List.set_cons_zero, List.set_cons_succ]
      refine wpAnyH_ready (rs := [3]) (by kernel_rfl) (by simp) ?_
      refine AllReadyH.cons (o := { dst := some 66, op := Go.Op.call { callee := Go.Callee.builtin Go.Builtin.append, args := #[Go.Operand.tmp 63, Go.Operand.tmp 65], argTypes := #[22, 22] }, type := 22, pos := "outright.go:122", after := #[{ on := 0, ground := Go.Ground.data }, { on := 2, ground := Go.Ground.data }], guard := none }) rfl (fun K2 hK => ?_) ?_
      ·obtain ⟨v1, V4, hrun, hown2, hKp, hon⟩ := app_rgs (c2 := cap) (xs := []) hown (S.out.below hV3 (Nat.le_refl _)) (by omega)
       have hV4h := Lib.hid (show Below w5.heap.size w5 V4 from hV3.trans (hKp.below hV3.size (fun j hj e => by have := HB.out j e; omega)))
       have HPD := Lib.hid (show Value.ownBlock v1 ≠ some D from by rcases hon with h9 | h9 <;> rw [h9] <;> first | exact HOD.out | (intro e; have h8 : V3.heap.size = D := Option.some.inj e; have := lt_of_block hD; omega))
       replace hD := (hKp.block _ (lt_of_block hD) HOD.out).trans hD
       clear HOD
       have HOD := HPD
       clear HPD
       have HPT := Lib.hid (show Value.ownBlock v1 ≠ some T from by rcases hon with h9 | h9 <;> rw [h9] <;> first | exact HOT.out | (intro e; have h8 : V3.heap.size = T := Option.some.inj e; have := lt_of_block hT; omega))
       replace hT := (hKp.block _ (lt_of_block hT) HOT.out).trans hT
       clear HOT
       have HOT := HPT
       clear HPT
       have HB2 := Lib.hid (show ∀ j, Value.ownBlock v1 = some j → w5.heap.size ≤ j from fun j e => by rcases hon with h9 | h9 <;> rw [h9] at e <;> first | exact HB.out j e | (have h8 : V3.heap.size = j := Option.some.inj e; have := hV3.size; omega))
       clear HB hown hon hKp
       have HB := HB2
       have Hown := Lib.hid hown2
       clear HB2 hown2
       go_simp
       try rw [hrun]
       try go_simp
       have hown := Hown.out
       clear Hown
       refine hK.out _ _ (hV4h.out) (fun hV4 => ?_)
       clear hK K2
       clear hrun hV4h
       try simp only [Act.put, List.setIfInBounds_toArray, List.set_cons_zero, List.set_cons_succ]
       refine wpAnyH_ready (rs := [6]) (by kernel_rfl) (by simp) ?_
       refine AllReadyH.cons (o := { dst := some 69, op := Go.Op.call { callee := Go.Callee.builtin Go.Builtin.append, args := #[Go.Operand.tmp 66, Go.Operand.tmp 68], argTypes := #[22, 22] }, type := 22, pos := "outright.go:122", after := #[{ on := 3, ground := Go.Ground.data }, { on := 5, ground := Go.Ground.data }, { on := 3, ground := Go.Ground.chain }], guard := none }) rfl (fun K2 hK => ?_) ?_
       ·obtain ⟨v2, V5, hrun, hown2, hKp, hon⟩ := app_1p hown hT (by omega)
        have hV5h := Lib.hid (show Below w5.heap.size w5 V5 from hV4.trans (hKp.below hV4.size (fun j hj e => by have := HB.out j e; omega)))
        have HPD := Lib.hid (show Value.ownBlock v2 ≠ some D from by rcases hon with h9 | h9 <;> rw [h9] <;> first | exact HOD.out | (intro e; have h8 : V4.heap.size = D := Option.some.inj e; have := lt_of_block hD; omega))
        replace hD := (hKp.block _ (lt_of_block hD) HOD.out).trans hD
        clear HOD
        have HOD := HPD
        clear HPD
        have HPT := Lib.hid (show Value.ownBlock v2 ≠ some T from by rcases hon with h9 | h9 <;> rw [h9] <;> first | exact HOT.out | (intro e; have h8 : V4.heap.size = T := Option.some.inj e; have := lt_of_block hT; omega))
        replace hT := (hKp.block _ (lt_of_block hT) HOT.out).trans hT
        clear HOT
        have HOT := HPT
        clear HPT
        have HB2 := Lib.hid (show ∀ j, Value.ownBlock v2 = some j → w5.heap.size ≤ j from fun j e => by rcases hon with h9 | h9 <;> rw [h9] at e <;> first | exact HB.out j e | (have h8 : V4.heap.size = j := Option.some.inj e; have := hV4.size; omega))
        clear HB hown hon hKp
        have HB := HB2
        have Hown := Lib.hid hown2
        clear HB2 hown2
        have hown9 := Hown.out
        clear Hown
        rw [Nat.zero_add, List.nil_append] at hown9
        obtain ⟨C8, c8, rfl, hr8, hC8⟩ := rgs_own hown9 (by rw [List.length_append, HZl.out]; rfl)
        have HR8 := Lib.hid hr8
        have HC8 := Lib.hid (show ∀ b o, C8 = some ⟨b, o, none⟩ → b ≠ D from fun b o e e2 => HOD.out (by rw [← e2]; exact (hC8 b o e).1))
        clear HOD
        have HOD := HC8
        clear HC8
        clear hr8 hC8 hown9
        go_simp
        try rw [hrun]
        try go_simp
        refine hK.out _ _ (hV5h.out) (fun hV5 => ?_)
        clear hK K2
        clear hrun hV5h
        try simp only [Act.put, List.setIfInBounds_toArray, List.set_cons_zero, List.set_cons_succ]
        refine wpAnyH_take (i := 7) (oi := { dst := some 70, op := Go.Op.build 24 #[(0, Go.Operand.tmp 69)], type := 24, pos := "outright.go:122", after := #[{ on := 6, ground := Go.Ground.data }], guard := none }) (v := .agg #[.slice C8 (n + 1) c8]) rfl (by kernel_rfl) (by kernel_rfl) (by kernel_rfl) (fun _ _ _ h => h) (Or.inl ⟨by rfl, by intro w2 hSw; (try dsimp only at hSw);  go_simp⟩) hV5 ?_
        try simp only [Act.put, List.setIfInBounds_toArray, List.set_cons_zero, List.set_cons_succ]
        have f0 : V5.cell? ⟨D, 0, none⟩ = some (.slice none 0 0) := by rw [cell_row hD]; rfl
        have fz : ∀ i, V5.frozen? ⟨D, i, none⟩ = false := fun i => frozen_row hD
        have HF := Lib.hid (more_book (c9 := c8) hV5 hD HD0.out HR8.out HOD.out)
        clear hD
        refine wpAnyH_ready (rs := [9]) (by kernel_rfl) (by simp) ?_
        refine AllReadyH.cons (o := { dst := none, op := Go.Op.store 24 (Go.Operand.tmp 20) (Go.Operand.tmp 70), type := 0, pos := "outright.go:122", after := #[{ on := 8, ground := Go.Ground.data }, { on := 7, ground := Go.Ground.data }, { on := 6, ground := Go.Ground.chain }, { on := 0, ground := Go.Ground.phase }, { on := 1, ground := Go.Ground.phase }, { on := 2, ground := Go.Ground.phase }, { on := 3, ground := Go.Ground.phase }, { on := 4, ground := Go.Ground.phase }, { on := 5, ground := Go.Ground.phase }, { on := 6, ground := Go.Ground.phase }, { on := 7, ground := Go.Ground.phase }, { on := 8, ground := Go.Ground.phase }], guard := none }) rfl (fun K2 hK => ?_) AllReadyH.nil
        go_simp
        refine hK.out _ _ HF.out.2.2 (fun hSf => ?_)
        clear hK K2
        try simp only [Act.put, List.setIfInBounds_toArray, List.set_cons_zero, List.set_cons_succ]
        refine wpAnyH_done (by kernel_rfl) ?_ _
        clear f0 fz hSf
        go_wp2_with fail
        go_meet
        case rel => exact ⟨D, C8, c8, rfl, HF.out⟩
       exact AllReadyH.nil
      exact AllReadyH.nil
     exact AllReadyH.nil
    exact AllReadyH.nil
   refine AllReadyH.cons (o := { dst := some 68, op := Go.Op.buildSlice 22 1 #[(0, Go.Operand.tmp 67)], type := 22, pos := "outright.go:122", after := #[{ on := 4, ground := Go.Ground.data }], guard := none }) rfl (fun K2 hK => ?_) ?_
   ·go_simp
    refine hK.out _ _ (hV0.trans ((below_alloc_ _ _).mono hV0.size)) (fun hV1 => ?_)
    clear hK K2
    have hT := heap_alloc_new_ V0 (.cells #[.int .i64 p0, .int .i64 p1] 57)
    have hb := below_alloc_ V0 (.cells #[.int .i64 p0, .int .i64 p1] 57)
    have HT0 := Lib.hid (show w5.heap.size ≤ V0.heap.size from hV0.size)
    generalize V0.alloc (.cells #[.int .i64 p0, .int .i64 p1] 57) = V1 at *
    obtain ⟨T, hTe⟩ : ∃ T, V0.heap.size = T := ⟨_, rfl⟩
    rw [hTe] at hT HT0 ⊢
    clear hTe hb
    try simp only [Act.put, List.setIfInBounds_toArray, List.set_cons_zero, List.set_cons_succ]
    refine wpAnyH_ready (rs := [0, 8]) (by kernel_rfl) (by simp) ?_
    refine AllReadyH.cons (o := { dst := some 63, op := Go.Op.buildSlice 22 0 #[], type := 22, pos := "outright.go:122", after := #[], guard := none }) rfl (fun K2 hK => ?_) ?_
    ·go_simp
     refine hK.out _ _ (hV1.trans ((below_alloc_ _ _).mono hV1.size)) (fun hV2 => ?_)
     clear hK K2
     have hZ := heap_alloc_new_ V1 (.cells #[] 57)
     have hb := below_alloc_ V1 (.cells #[] 57)
     have HNTZ := Lib.hid (show T ≠ V1.heap.size from by have := lt_of_block hT; omega)
     replace hT := (hb.block _ (lt_of_block hT)).trans hT
     have HZ0 := Lib.hid (show w5.heap.size ≤ V1.heap.size from hV1.size)
     have HOT := Lib.hid (show Value.ownBlock (.slice (some ⟨V1.heap.size, 0, none⟩) 0 0) ≠ some T from fun e => by have h9 : V1.heap.size = T := Option.some.inj e; exact HNTZ.out h9.symm)
     have HB := Lib.hid (show ∀ j, Value.ownBlock (.slice (some ⟨V1.heap.size, 0, none⟩) 0 0) = some j → w5.heap.size ≤ j from fun j e => by have h9 : V1.heap.size = j := Option.some.inj e; have := HZ0.out; omega)
     generalize V1.alloc (.cells #[] 57) = V2 at *
     obtain ⟨Z, hZe⟩ : ∃ Z, V1.heap.size = Z := ⟨_, rfl⟩
     rw [hZe] at hZ HZ0 HNTZ HOT HB ⊢
     clear hZe hb
     have hown := own_empty (size := 2) hZ
     clear hZ
     try simp only [Act.put, List.setIfInBounds_toArray, List.set_cons_zero, List.set_cons_succ]
     refine wpAnyH_ready (rs := [3, 8]) (by kernel_rfl) (by simp) ?_
     refine AllReadyH.cons (o := { dst := some 66, op := Go.Op.call { callee := Go.Callee.builtin Go.Builtin.append, args := #[Go.Operand.tmp 63, Go.Operand.tmp 65], argTypes := #[22, 22] }, type := 22, pos := "outright.go:122", after := #[{ on := 0, ground := Go.Ground.data }, { on := 2, ground := Go.Ground.data }], guard := none }) rfl (fun K2 hK => ?_) ?_
     ·obtain ⟨v1, V3, hrun, hown2, hKp, hon⟩ := app_rgs (c2 := cap) (xs := []) hown (S.out.below hV2 (Nat.le_refl _)) (by omega)
      have hV3h := Lib.hid (show Below w5.heap.size w5 V3 from hV2.trans (hKp.below hV2.size (fun j hj e => by have := HB.out j e; omega)))
      have HPT := Lib.hid (show Value.ownBlock v1 ≠ some T from by rcases hon with h9 | h9 <;> rw [h9] <;> first | exact HOT.out | (intro e; have h8 : V2.heap.size = T := Option.some.inj e; have := lt_of_block hT; omega))
      replace hT := (hKp.block _ (lt_of_block hT) HOT.out).trans hT
      clear HOT
      have HOT := HPT
      clear HPT
      have HB2 := Lib.hid (show ∀ j, Value.ownBlock v1 = some j → w5.heap.size ≤ j from fun j e => by rcases hon with h9 | h9 <;> rw [h9] at e <;> first | exact HB.out j e | (have h8 : V2.heap.size = j := Option.some.inj e; have := hV2.size; omega))
      clear HB hown hon hKp
      have HB := HB2
      have Hown := Lib.hid hown2
      clear HB2 hown2
      go_simp
      try rw [hrun]
      try go_simp
      have hown := Hown.out
      clear Hown
      refine hK.out _ _ (hV3h.out) (fun hV3 => ?_)
      clear hK K2
      clear hrun hV3h
      try simp only [Act.put, List.setIfInBounds_toArray, List.set_cons_zero, List.set_cons_succ]
      refine wpAnyH_ready (rs := [6, 8]) (by kernel_rfl) (by simp) ?_
      refine AllReadyH.cons (o := { dst := some 69, op := Go.Op.call { callee := Go.Callee.builtin Go.Builtin.append, args := #[Go.Operand.tmp 66, Go.Operand.tmp 68], argTypes := #[22, 22] }, type := 22, pos := "outright.go:122", after := #[{ on := 3, ground := Go.Ground.data }, { on := 5, ground := Go.Ground.data }, { on := 3, ground := Go.Ground.chain }], guard := none }) rfl (fun K2 hK => ?_) ?_
      ·obtain ⟨v2, V4, hrun, hown2, hKp, hon⟩ := app_1p hown hT (by omega)
       have hV4h := Lib.hid (show Below w5.heap.size w5 V4 from hV3.trans (hKp.below hV3.size (fun j hj e => by have := HB.out j e; omega)))
       have HPT := Lib.hid (show Value.ownBlock v2 ≠ some T from by rcases hon with h9 | h9 <;> rw [h9] <;> first | exact HOT.out | (intro e; have h8 : V3.heap.size = T := Option.some.inj e; have := lt_of_block hT; omega))
       replace hT := (hKp.block _ (lt_of_block hT) HOT.out).trans hT
       clear HOT
       have HOT := HPT
       clear HPT
       have HB2 := Lib.hid (show ∀ j, Value.ownBlock v2 = some j → w5.heap.size ≤ j from fun j e => by rcases hon with h9 | h9 <;> rw [h9] at e <;> first | exact HB.out j e | (have h8 : V3.heap.size = j := Option.some.inj e; have := hV3.size; omega))
       clear HB hown hon hKp
       have HB := HB2
       have Hown := Lib.hid hown2
       clear HB2 hown2
       have hown9 := Hown.out
       clear Hown
       rw [Nat.zero_add, List.nil_append] at hown9
       obtain ⟨C8, c8, rfl, hr8, hC8⟩ := rgs_own hown9 (by rw [List.length_append, HZl.out]; rfl)
       have HR8 := Lib.hid hr8
       clear hr8 hC8 hown9
       go_simp
       try rw [hrun]
       try go_simp
       refine hK.out _ _ (hV4h.out) (fun hV4 => ?_)
       clear hK K2
       clear hrun hV4h
       try simp only [Act.put, List.setIfInBounds_toArray, List.set_cons_zero, List.set_cons_succ]
       refine wpAnyH_take (i := 7) (oi := { dst := some 70, op := Go.Op.build 24 #[(0, Go.Operand.tmp 69)], type := 24, pos := "outright.go:122", after := #[{ on := 6, ground := Go.Ground.data }], guard := none }) (v := .agg #[.slice C8 (n + 1) c8]) rfl (by kernel_rfl) (by kernel_rfl) (by kernel_rfl) (fun _ _ _ h => h) (Or.inl ⟨by rfl, by intro w2 hSw; (try dsimp only at hSw);  go_simp⟩) hV4 ?_
       try simp only [Act.put, List.setIfInBounds_toArray, List.set_cons_zero, List.set_cons_succ]
       refine wpAnyH_ready (rs := [8]) (by kernel_rfl) (by simp) ?_
       refine AllReadyH.cons (o := { dst := some 20, op := Go.Op.alloc 24, type := 0, pos := "outright.go:122", after := #[], guard := none }) rfl (fun K2 hK => ?_) ?_
       ·go_simp
        refine hK.out _ _ (hV4.trans ((below_alloc_ _ _).mono hV4.size)) (fun hV5 => ?_)
        clear hK K2
        have hD := heap_alloc_new_ V4 (.cells #[.slice none 0 0] 24)
        have hb := below_alloc_ V4 (.cells #[.slice none 0 0] 24)
        have HNTD := Lib.hid (show T ≠ V4.heap.size from by have := lt_of_block hT; omega)
        have HOD := Lib.hid (show ∀ b o, C8 = some ⟨b, o, none⟩ → b ≠ V4.heap.size from fun b o e => by obtain ⟨b2, o2, e2, hc2⟩ := HR8.out.2 (by omega); rw [e2] at e; cases e; have := lt_of_cell (hc2 0 (by omega)).1; omega)
        replace HR8 := Lib.hid (HR8.out.below hb (Nat.le_refl _))
        replace hT := (hb.block _ (lt_of_block hT)).trans hT
        have HD0 := Lib.hid (show w5.heap.size ≤ V4.heap.size from hV4.size)
        generalize V4.alloc (.cells #[.slice none 0 0] 24) = V5 at *
        obtain ⟨D, hDe⟩ : ∃ D, V4.heap.size = D := ⟨_, rfl⟩
        rw [hDe] at hD HD0 HNTD HOD ⊢
        clear hDe hb
        try simp only [Act.put, List.setIfInBounds_toArray, List.set_cons_zero, List.set_cons_succ]
        have f0 : V5.cell? ⟨D, 0, none⟩ = some (.slice none 0 0) := by rw [cell_row hD]; rfl
        have fz : ∀ i, V5.frozen? ⟨D, i, none⟩ = false := fun i => frozen_row hD
        have HF := Lib.hid (more_book (c9 := c8) hV5 hD HD0.out HR8.out HOD.out)
        clear hD
        refine wpAnyH_ready (rs := [9]) (by kernel_rfl) (by simp) ?_
        refine AllReadyH.cons (o := { dst := none, op := Go.Op.store 24 (Go.Operand.tmp 20) (Go.Operand.tmp 70), type := 0, pos := "outright.go:122", after := #[{ on := 8, ground := Go.Ground.data }, { on := 7, ground := Go.Ground.data }, { on := 6, ground := Go.Ground.chain }, { on := 0, ground := Go.Ground.phase }, { on := 1, ground := Go.Ground.phase }, { on := 2, ground := Go.Ground.phase }, { on := 3, ground := Go.Ground.phase }, { on := 4, ground := Go.Ground.phase }, { on := 5, ground := Go.Ground.phase }, { on := 6, ground := Go.Ground.phase }, { on := 7, ground := Go.Ground.phase }, { on := 8, ground := Go.Ground.phase }], guard := none }) rfl (fun K2 hK => ?_) AllReadyH.nil
        go_simp
        refine hK.out _ _ HF.out.2.2 (fun hSf => ?_)
        clear hK K2
        try simp only [Act.put, List.setIfInBounds_toArray, List.set_cons_zero, List.set_cons_succ]
        refine wpAnyH_done (by kernel_rfl) ?_ _
        clear f0 fz hSf
        go_wp2_with fail
        go_meet
        case rel => exact ⟨D, C8, c8, rfl, HF.out⟩
       exact AllReadyH.nil
      refine AllReadyH.cons (o := { dst := some 20, op := Go.Op.alloc 24, type := 0, pos := "outright.go:122", after := #[], guard := none }) rfl (fun K2 hK => ?_) ?_
      ·go_simp
       refine hK.out _ _ (hV3.trans ((below_alloc_ _ _).mono hV3.size)) (fun hV4 => ?_)
       clear hK K2
       have hD := heap_alloc_new_ V3 (.cells #[.slice none 0 0] 24)
       have hb := below_alloc_ V3 (.cells #[.slice none 0 0] 24)
       have HNTD := Lib.hid (show T ≠ V3.heap.size from by have := lt_of_block hT; omega)
       have HOD := Lib.hid (show Value.ownBlock (v1) ≠ some V3.heap.size from fun e => by have := own_lt hown _ e; omega)
       replace hown := own_keep hown (Keeps.of_new (Mut := fun _ => False) hb) (fun _ _ e => e)
       replace hT := (hb.block _ (lt_of_block hT)).trans hT
       have HD0 := Lib.hid (show w5.heap.size ≤ V3.heap.size from hV3.size)
       generalize V3.alloc (.cells #[.slice none 0 0] 24) = V4 at *
       obtain ⟨D, hDe⟩ : ∃ D, V3.heap.size = D := ⟨_, rfl⟩
       rw [hDe] at hD HD0 HNTD HOD ⊢
       clear hDe hb
       try simp only [Act.put, List.setIfInBounds_toArray, List.set_cons_zero, List.set_cons_succ]
       refine wpAnyH_ready (rs := [6]) (by kernel_rfl) (by simp) ?_
       refine AllReadyH.cons (o := { dst := some 69, op := Go.Op.call { callee := Go.Callee.builtin Go.Builtin.append, args := #[Go.Operand.tmp 66, Go.Operand.tmp 68], argTypes := #[22, 22] }, type := 22, pos := "outright.go:122", after := #[{ on := 3, ground := Go.Ground.data }, { on := 5, ground := Go.Ground.data }, { on := 3, ground := Go.Ground.chain }], guard := none }) rfl (fun K2 hK => ?_) ?_
       ·obtain ⟨v2, V5, hrun, hown2, hKp, hon⟩ := app_1p hown hT (by omega)
        have hV5h := Lib.hid (show Below w5.heap.size w5 V5 from hV4.trans (hKp.below hV4.size (fun j hj e => by have := HB.out j e; omega)))
        have HPT := Lib.hid (show Value.ownBlock v2 ≠ some T from by rcases hon with h9 | h9 <;> rw [h9] <;> first | exact HOT.out | (intro e; have h8 : V4.heap.size = T := Option.some.inj e; have := lt_of_block hT; omega))
        replace hT := (hKp.block _ (lt_of_block hT) HOT.out).trans hT
        clear HOT
        have HOT := HPT
        clear HPT
        have HPD := Lib.hid (show Value.ownBlock v2 ≠ some D from by rcases hon with h9 | h9 <;> rw [h9] <;> first | exact HOD.out | (intro e; have h8 : V4.heap.size = D := Option.some.inj e; have := lt_of_block hD; omega))
        replace hD := (hKp.block _ (lt_of_block hD) HOD.out).trans hD
        clear HOD
        have HOD := HPD
        clear HPD
        have HB2 := Lib.hid (show ∀ j, Value.ownBlock v2 = some j → w5.heap.size ≤ j from fun j e => by rcases hon with h9 | h9 <;> rw [h9] at e <;> first | exact HB.out j e | (have h8 : V4.heap.size = j := Option.some.inj e; have := hV4.size; omega))
        clear HB hown hon hKp
        have HB := HB2
        have Hown := Lib.hid hown2
        clear HB2 hown2
        have hown9 := Hown.out
        clear Hown
        rw [Nat.zero_add, List.nil_append] at hown9
        obtain ⟨C8, c8, rfl, hr8, hC8⟩ := rgs_own hown9 (by rw [List.length_append, HZl.out]; rfl)
        have HR8 := Lib.hid hr8
        have HC8 := Lib.hid (show ∀ b o, C8 = some ⟨b, o, none⟩ → b ≠ D from fun b o e e2 => HOD.out (by rw [← e2]; exact (hC8 b o e).1))
        clear HOD
        have HOD := HC8
        clear HC8
        clear hr8 hC8 hown9
        go_simp
        try rw [hrun]
        try go_simp
        refine hK.out _ _ (hV5h.out) (fun hV5 => ?_)
        clear hK K2
        clear hrun hV5h
        try simp only [Act.put, List.setIfInBounds_toArray, List.set_cons_zero, List.set_cons_succ]
        refine wpAnyH_take (i := 7) (oi := { dst := some 70, op := Go.Op.build 24 #[(0, Go.Operand.tmp 69)], type := 24, pos := "outright.go:122", after := #[{ on := 6, ground := Go.Ground.data }], guard := none }) (v := .agg #[.slice C8 (n + 1) c8]) rfl (by kernel_rfl) (by kernel_rfl) (by kernel_rfl) (fun _ _ _ h => h) (Or.inl ⟨by rfl, by intro w2 hSw; (try dsimp only at hSw);  go_simp⟩) hV5 ?_
        try simp only [Act.put, List.setIfInBounds_toArray, List.set_cons_zero, List.set_cons_succ]
        have f0 : V5.cell? ⟨D, 0, none⟩ = some (.slice none 0 0) := by rw [cell_row hD]; rfl
        have fz : ∀ i, V5.frozen? ⟨D, i, none⟩ = false := fun i => frozen_row hD
        have HF := Lib.hid (more_book (c9 := c8) hV5 hD HD0.out HR8.out HOD.out)
        clear hD
        refine wpAnyH_ready (rs := [9]) (by kernel_rfl) (by simp) ?_
        refine AllReadyH.cons (o := { dst := none, op := Go.Op.store 24 (Go.Operand.tmp 20) (Go.Operand.tmp 70), type := 0, pos := "outright.go:122", after := #[{ on := 8, ground := Go.Ground.data }, { on := 7, ground := Go.Ground.data }, { on := 6, ground := Go.Ground.chain }, { on := 0, ground := Go.Ground.phase }, { on := 1, ground := Go.Ground.phase }, { on := 2, ground := Go.Ground.phase }, { on := 3, ground := Go.Ground.phase }, { on := 4, ground := Go.Ground.phase }, { on := 5, ground := Go.Ground.phase }, { on := 6, ground := Go.Ground.phase }, { on := 7, ground := Go.Ground.phase }, { on := 8, ground := Go.Ground.phase }], guard := none }) rfl (fun K2 hK => ?_) AllReadyH.nil
        go_simp
        refine hK.out _ _ HF.out.2.2 (fun hSf => ?_)
        clear hK K2
        try simp only [Act.put, List.setIfInBounds_toArray, List.set_cons_zero, List.set_cons_succ]
        refine wpAnyH_done (by kernel_rfl) ?_ _
        clear f0 fz hSf
        go_wp2_with fail
        go_meet
        case rel => exact ⟨D, C8, c8, rfl, HF.out⟩
       exact AllReadyH.nil
      exact AllReadyH.nil
     refine AllReadyH.cons (o := { dst := some 20, op := Go.Op.alloc 24, type := 0, pos := "outright.go:122", after := #[], guard := none }) rfl (fun K2 hK => ?_) ?_
     ·go_simp
      refine hK.out _ _ (hV2.trans ((below_alloc_ _ _).mono hV2.size)) (fun hV3 => ?_)
      clear hK K2
      have hD := heap_alloc_new_ V2 (.cells #[.slice none 0 0] 24)
      have hb := below_alloc_ V2 (.cells #[.slice none 0 0] 24)
      have HNTD := Lib.hid (show T ≠ V2.heap.size from by have := lt_of_block hT; omega)
      have HOD := Lib.hid (show Value.ownBlock (.slice (some ⟨Z, 0, none⟩) 0 0) ≠ some V2.heap.size from fun e => by have := own_lt hown _ e; omega)
      replace hown := own_keep hown (Keeps.of_new (Mut := fun _ => False) hb) (fun _ _ e => e)
      replace hT := (hb.block _ (lt_of_block hT)).trans hT
      have HD0 := Lib.hid (show w5.heap.size ≤ V2.heap.size from hV2.size)
      generalize V2.alloc (.cells #[.slice none 0 0] 24) = V3 at *
      obtain ⟨D, hDe⟩ : ∃ D, V2.heap.size = D := ⟨_, rfl⟩
      rw [hDe] at hD HD0 HNTD HOD ⊢
      clear hDe hb
      try simp only [Act.put, List.setIfInBounds_toArray, List.set_cons_zero, List.set_cons_succ]
      refine wpAnyH_ready (rs := [3]) (by kernel_rfl) (by simp) ?_
      refine AllReadyH.cons (o := { dst := some 66, op := Go.Op.call { callee := Go.Callee.builtin Go.Builtin.append, args := #[Go.Operand.tmp 63, Go.Operand.tmp 65], argTypes := #[22, 22] }, type := 22, pos := "outright.go:122", after := #[{ on := 0, ground := Go.Ground.data }, { on := 2, ground := Go.Ground.data }], guard := none }) rfl (fun K2 hK => ?_) ?_
      ·obtain ⟨v1, V4, hrun, hown2, hKp, hon⟩ := app_rgs (c2 := cap) (xs := []) hown (S.out.below hV3 (Nat.le_refl _)) (by omega)
       have hV4h := Lib.hid (show Below w5.heap.size w5 V4 from hV3.trans (hKp.below hV3.size (fun j hj e => by have := HB.out j e; omega)))
       have HPT := Lib.hid (show Value.ownBlock v1 ≠ some T from by rcases hon with h9 | h9 <;> rw [h9] <;> first | exact HOT.out | (intro e; have h8 : V3.heap.size = T := Option.some.inj e; have := lt_of_block hT; omega))
       replace hT := (hKp.block _ (lt_of_block hT) HOT.out).trans hT
       clear HOT
       have HOT := HPT
       clear HPT
       have HPD := Lib.hid (show Value.ownBlock v1 ≠ some D from by rcases hon with h9 | h9 <;> rw [h9] <;> first | exact HOD.out | (intro e; have h8 : V3.heap.size = D := Option.some.inj e; have := lt_of_block hD; omega))
       replace hD := (hKp.block _ (lt_of_block hD) HOD.out).trans hD
       clear HOD
       have HOD := HPD
       clear HPD
       have HB2 := Lib.hid (show ∀ j, Value.ownBlock v1 = some j → w5.heap.size ≤ j from fun j e => by rcases hon with h9 | h9 <;> rw [h9] at e <;> first | exact HB.out j e | (have h8 : V3.heap.size = j := Option.some.inj e; have := hV3.size; omega))
       clear HB hown hon hKp
       have HB := HB2
       have Hown := Lib.hid hown2
       clear HB2 hown2
       go_simp
       try rw [hrun]
       try go_simp
       have hown := Hown.out
       clear Hown
       refine hK.out _ _ (hV4h.out) (fun hV4 => ?_)
       clear hK K2
       clear hrun hV4h
       try simp only [Act.put, List.setIfInBounds_toArray, List.set_cons_zero, List.set_cons_succ]
       refine wpAnyH_ready (rs := [6]) (by kernel_rfl) (by simp) ?_
       refine AllReadyH.cons (o := { dst := some 69, op := Go.Op.call { callee := Go.Callee.builtin Go.Builtin.append, args := #[Go.Operand.tmp 66, Go.Operand.tmp 68], argTypes := #[22, 22] }, type := 22, pos := "outright.go:122", after := #[{ on := 3, ground := Go.Ground.data }, { on := 5, ground := Go.Ground.data }, { on := 3, ground := Go.Ground.chain }], guard := none }) rfl (fun K2 hK => ?_) ?_
       ·obtain ⟨v2, V5, hrun, hown2, hKp, hon⟩ := app_1p hown hT (by omega)
        have hV5h := Lib.hid (show Below w5.heap.size w5 V5 from hV4.trans (hKp.below hV4.size (fun j hj e => by have := HB.out j e; omega)))
        have HPT := Lib.hid (show Value.ownBlock v2 ≠ some T from by rcases hon with h9 | h9 <;> rw [h9] <;> first | exact HOT.out | (intro e; have h8 : V4.heap.size = T := Option.some.inj e; have := lt_of_block hT; omega))
        replace hT := (hKp.block _ (lt_of_block hT) HOT.out).trans hT
        clear HOT
        have HOT := HPT
        clear HPT
        have HPD := Lib.hid (show Value.ownBlock v2 ≠ some D from by rcases hon with h9 | h9 <;> rw [h9] <;> first | exact HOD.out | (intro e; have h8 : V4.heap.size = D := Option.some.inj e; have := lt_of_block hD; omega))
        replace hD := (hKp.block _ (lt_of_block hD) HOD.out).trans hD
        clear HOD
        have HOD := HPD
        clear HPD
        have HB2 := Lib.hid (show ∀ j, Value.ownBlock v2 = some j → w5.heap.size ≤ j from fun j e => by rcases hon with h9 | h9 <;> rw [h9] at e <;> first | exact HB.out j e | (have h8 : V4.heap.size = j := Option.some.inj e; have := hV4.size; omega))
        clear HB hown hon hKp
        have HB := HB2
        have Hown := Lib.hid hown2
        clear HB2 hown2
        have hown9 := Hown.out
        clear Hown
        rw [Nat.zero_add, List.nil_append] at hown9
        obtain ⟨C8, c8, rfl, hr8, hC8⟩ := rgs_own hown9 (by rw [List.length_append, HZl.out]; rfl)
        have HR8 := Lib.hid hr8
        have HC8 := Lib.hid (show ∀ b o, C8 = some ⟨b, o, none⟩ → b ≠ D from fun b o e e2 => HOD.out (by rw [← e2]; exact (hC8 b o e).1))
        clear HOD
        have HOD := HC8
        clear HC8
        clear hr8 hC8 hown9
        go_simp
        try rw [hrun]
        try go_simp
        refine hK.out _ _ (hV5h.out) (fun hV5 => ?_)
        clear hK K2
        clear hrun hV5h
        try simp only [Act.put, List.setIfInBounds_toArray, List.set_cons_zero, List.set_cons_succ]
        refine wpAnyH_take (i := 7) (oi := { dst := some 70, op := Go.Op.build 24 #[(0, Go.Operand.tmp 69)], type := 24, pos := "outright.go:122", after := #[{ on := 6, ground := Go.Ground.data }], guard := none }) (v := .agg #[.slice C8 (n + 1) c8]) rfl (by kernel_rfl) (by kernel_rfl) (by kernel_rfl) (fun _ _ _ h => h) (Or.inl ⟨by rfl, by intro w2 hSw; (try dsimp only at hSw);  go_simp⟩) hV5 ?_
        try simp only [Act.put, List.setIfInBounds_toArray, List.set_cons_zero, List.set_cons_succ]
        have f0 : V5.cell? ⟨D, 0, none⟩ = some (.slice none 0 0) := by rw [cell_row hD]; rfl
        have fz : ∀ i, V5.frozen? ⟨D, i, none⟩ = false := fun i => frozen_row hD
        have HF := Lib.hid (more_book (c9 := c8) hV5 hD HD0.out HR8.out HOD.out)
        clear hD
        refine wpAnyH_ready (rs := [9]) (by kernel_rfl) (by simp) ?_
        refine AllReadyH.cons (o := { dst := none, op := Go.Op.store 24 (Go.Operand.tmp 20) (Go.Operand.tmp 70), type := 0, pos := "outright.go:122", after := #[{ on := 8, ground := Go.Ground.data }, { on := 7, ground := Go.Ground.data }, { on := 6, ground := Go.Ground.chain }, { on := 0, ground := Go.Ground.phase }, { on := 1, ground := Go.Ground.phase }, { on := 2, ground := Go.Ground.phase }, { on := 3, ground := Go.Ground.phase }, { on := 4, ground := Go.Ground.phase }, { on := 5, ground := Go.Ground.phase }, { on := 6, ground := Go.Ground.phase }, { on := 7, ground := Go.Ground.phase }, { on := 8, ground := Go.Ground.phase }], guard := none }) rfl (fun K2 hK => ?_) AllReadyH.nil
        go_simp
        refine hK.out _ _ HF.out.2.2 (fun hSf => ?_)
        clear hK K2
        try simp only [Act.put, List.setIfInBounds_toArray, List.set_cons_zero, List.set_cons_succ]
        refine wpAnyH_done (by kernel_rfl) ?_ _
        clear f0 fz hSf
        go_wp2_with fail
        go_meet
        case rel => exact ⟨D, C8, c8, rfl, HF.out⟩
       exact AllReadyH.nil
      exact AllReadyH.nil
     exact AllReadyH.nil
    refine AllReadyH.cons (o := { dst := some 20, op := Go.Op.alloc 24, type := 0, pos := "outright.go:122", after := #[], guard := none }) rfl (fun K2 hK => ?_) ?_
    ·go_simp
     refine hK.out _ _ (hV1.trans ((below_alloc_ _ _).mono hV1.size)) (fun hV2 => ?_)
     clear hK K2
     have hD := heap_alloc_new_ V1 (.cells #[.slice none 0 0] 24)
     have hb := below_alloc_ V1 (.cells #[.slice none 0 0] 24)
     have HNTD := Lib.hid (show T ≠ V1.heap.size from by have := lt_of_block hT; omega)
     replace hT := (hb.block _ (lt_of_block hT)).trans hT
     have HD0 := Lib.hid (show w5.heap.size ≤ V1.heap.size from hV1.size)
     generalize V1.alloc (.cells #[.slice none 0 0] 24) = V2 at *
     obtain ⟨D, hDe⟩ : ∃ D, V1.heap.size = D := ⟨_, rfl⟩
     rw [hDe] at hD HD0 HNTD ⊢
     clear hDe hb
     try simp only [Act.put, List.setIfInBounds_toArray, List.set_cons_zero, List.set_cons_succ]
     refine wpAnyH_ready (rs := [0]) (by kernel_rfl) (by simp) ?_
     refine AllReadyH.cons (o := { dst := some 63, op := Go.Op.buildSlice 22 0 #[], type := 22, pos := "outright.go:122", after := #[], guard := none }) rfl (fun K2 hK => ?_) ?_
     ·go_simp
      refine hK.out _ _ (hV2.trans ((below_alloc_ _ _).mono hV2.size)) (fun hV3 => ?_)
      clear hK K2
      have hZ := heap_alloc_new_ V2 (.cells #[] 57)
      have hb := below_alloc_ V2 (.cells #[] 57)
      have HNTZ := Lib.hid (show T ≠ V2.heap.size from by have := lt_of_block hT; omega)
      have HNDZ := Lib.hid (show D ≠ V2.heap.size from by have := lt_of_block hD; omega)
      replace hT := (hb.block _ (lt_of_block hT)).trans hT
      replace hD := (hb.block _ (lt_of_block hD)).trans hD
      have HZ0 := Lib.hid (show w5.heap.size ≤ V2.heap.size from hV2.size)
      have HOT := Lib.hid (show Value.ownBlock (.slice (some ⟨V2.heap.size, 0, none⟩) 0 0) ≠ some T from fun e => by have h9 : V2.heap.size = T := Option.some.inj e; exact HNTZ.out h9.symm)
      have HOD := Lib.hid (show Value.ownBlock (.slice (some ⟨V2.heap.size, 0, none⟩) 0 0) ≠ some D from fun e => by have h9 : V2.heap.size = D := Option.some.inj e; exact HNDZ.out h9.symm)
      have HB := Lib.hid (show ∀ j, Value.ownBlock (.slice (some ⟨V2.heap.size, 0, none⟩) 0 0) = some j → w5.heap.size ≤ j from fun j e => by have h9 : V2.heap.size = j := Option.some.inj e; have := HZ0.out; omega)
      generalize V2.alloc (.cells #[] 57) = V3 at *
      obtain ⟨Z, hZe⟩ : ∃ Z, V2.heap.size = Z := ⟨_, rfl⟩
      rw [hZe] at hZ HZ0 HNTZ HNDZ HOT HOD HB ⊢
      clear hZe hb
      have hown := own_empty (size := 2) hZ
      clear hZ
      try simp only [Act.put, List.setIfInBounds_toArray, List.set_cons_zero, List.set_cons_succ]
      refine wpAnyH_ready (rs := [3]) (by kernel_rfl) (by simp) ?_
      refine AllReadyH.cons (o := { dst := some 66, op := Go.Op.call { callee := Go.Callee.builtin Go.Builtin.append, args := #[Go.Operand.tmp 63, Go.Operand.tmp 65], argTypes := #[22, 22] }, type := 22, pos := "outright.go:122", after := #[{ on := 0, ground := Go.Ground.data }, { on := 2, ground := Go.Ground.data }], guard := none }) rfl (fun K2 hK => ?_) ?_
      ·obtain ⟨v1, V4, hrun, hown2, hKp, hon⟩ := app_rgs (c2 := cap) (xs := []) hown (S.out.below hV3 (Nat.le_refl _)) (by omega)
       have hV4h := Lib.hid (show Below w5.heap.size w5 V4 from hV3.trans (hKp.below hV3.size (fun j hj e => by have := HB.out j e; omega)))
       have HPT := Lib.hid (show Value.ownBlock v1 ≠ some T from by rcases hon with h9 | h9 <;> rw [h9] <;> first | exact HOT.out | (intro e; have h8 : V3.heap.size = T := Option.some.inj e; have := lt_of_block hT; omega))
       replace hT := (hKp.block _ (lt_of_block hT) HOT.out).trans hT
       clear HOT
       have HOT := HPT
       clear HPT
       have HPD := Lib.hid (show Value.ownBlock v1 ≠ some D from by rcases hon with h9 | h9 <;> rw [h9] <;> first | exact HOD.out | (intro e; have h8 : V3.heap.size = D := Option.some.inj e; have := lt_of_block hD; omega))
       replace hD := (hKp.block _ (lt_of_block hD) HOD.out).trans hD
       clear HOD
       have HOD := HPD
       clear HPD
       have HB2 := Lib.hid (show ∀ j, Value.ownBlock v1 = some j → w5.heap.size ≤ j from fun j e => by rcases hon with h9 | h9 <;> rw [h9] at e <;> first | exact HB.out j e | (have h8 : V3.heap.size = j := Option.some.inj e; have := hV3.size; omega))
       clear HB hown hon hKp
       have HB := HB2
       have Hown := Lib.hid hown2
       clear HB2 hown2
       go_simp
       try rw [hrun]
       try go_simp
       have hown := Hown.out
       clear Hown
       refine hK.out _ _ (hV4h.out) (fun hV4 => ?_)
       clear hK K2
       clear hrun hV4h
       try simp only [Act.put, List.setIfInBounds_toArray, List.set_cons_zero, List.set_cons_succ]
       refine wpAnyH_ready (rs := [6]) (by kernel_rfl) (by simp) ?_
       refine AllReadyH.cons (o := { dst := some 69, op := Go.Op.call { callee := Go.Callee.builtin Go.Builtin.append, args := #[Go.Operand.tmp 66, Go.Operand.tmp 68], argTypes := #[22, 22] }, type := 22, pos := "outright.go:122", after := #[{ on := 3, ground := Go.Ground.data }, { on := 5, ground := Go.Ground.data }, { on := 3, ground := Go.Ground.chain }], guard := none }) rfl (fun K2 hK => ?_) ?_
       ·obtain ⟨v2, V5, hrun, hown2, hKp, hon⟩ := app_1p hown hT (by omega)
        have hV5h := Lib.hid (show Below w5.heap.size w5 V5 from hV4.trans (hKp.below hV4.size (fun j hj e => by have := HB.out j e; omega)))
        have HPT := Lib.hid (show Value.ownBlock v2 ≠ some T from by rcases hon with h9 | h9 <;> rw [h9] <;> first | exact HOT.out | (intro e; have h8 : V4.heap.size = T := Option.some.inj e; have := lt_of_block hT; omega))
        replace hT := (hKp.block _ (lt_of_block hT) HOT.out).trans hT
        clear HOT
        have HOT := HPT
        clear HPT
        have HPD := Lib.hid (show Value.ownBlock v2 ≠ some D from by rcases hon with h9 | h9 <;> rw [h9] <;> first | exact HOD.out | (intro e; have h8 : V4.heap.size = D := Option.some.inj e; have := lt_of_block hD; omega))
        replace hD := (hKp.block _ (lt_of_block hD) HOD.out).trans hD
        clear HOD
        have HOD := HPD
        clear HPD
        have HB2 := Lib.hid (show ∀ j, Value.ownBlock v2 = some j → w5.heap.size ≤ j from fun j e => by rcases hon with h9 | h9 <;> rw [h9] at e <;> first | exact HB.out j e | (have h8 : V4.heap.size = j := Option.some.inj e; have := hV4.size; omega))
        clear HB hown hon hKp
        have HB := HB2
        have Hown := Lib.hid hown2
        clear HB2 hown2
        have hown9 := Hown.out
        clear Hown
        rw [Nat.zero_add, List.nil_append] at hown9
        obtain ⟨C8, c8, rfl, hr8, hC8⟩ := rgs_own hown9 (by rw [List.length_append, HZl.out]; rfl)
        have HR8 := Lib.hid hr8
        have HC8 := Lib.hid (show ∀ b o, C8 = some ⟨b, o, none⟩ → b ≠ D from fun b o e e2 => HOD.out (by rw [← e2]; exact (hC8 b o e).1))
        clear HOD
        have HOD := HC8
        clear HC8
        clear hr8 hC8 hown9
        go_simp
        try rw [hrun]
        try go_simp
        refine hK.out _ _ (hV5h.out) (fun hV5 => ?_)
        clear hK K2
        clear hrun hV5h
        try simp only [Act.put, List.setIfInBounds_toArray, List.set_cons_zero, List.set_cons_succ]
        refine wpAnyH_take (i := 7) (oi := { dst := some 70, op := Go.Op.build 24 #[(0, Go.Operand.tmp 69)], type := 24, pos := "outright.go:122", after := #[{ on := 6, ground := Go.Ground.data }], guard := none }) (v := .agg #[.slice C8 (n + 1) c8]) rfl (by kernel_rfl) (by kernel_rfl) (by kernel_rfl) (fun _ _ _ h => h) (Or.inl ⟨by rfl, by intro w2 hSw; (try dsimp only at hSw);  go_simp⟩) hV5 ?_
        try simp only [Act.put, List.setIfInBounds_toArray, List.set_cons_zero, List.set_cons_succ]
        have f0 : V5.cell? ⟨D, 0, none⟩ = some (.slice none 0 0) := by rw [cell_row hD]; rfl
        have fz : ∀ i, V5.frozen? ⟨D, i, none⟩ = false := fun i => frozen_row hD
        have HF := Lib.hid (more_book (c9 := c8) hV5 hD HD0.out HR8.out HOD.out)
        clear hD
        refine wpAnyH_ready (rs := [9]) (by kernel_rfl) (by simp) ?_
        refine AllReadyH.cons (o := { dst := none, op := Go.Op.store 24 (Go.Operand.tmp 20) (Go.Operand.tmp 70), type := 0, pos := "outright.go:122", after := #[{ on := 8, ground := Go.Ground.data }, { on := 7, ground := Go.Ground.data }, { on := 6, ground := Go.Ground.chain }, { on := 0, ground := Go.Ground.phase }, { on := 1, ground := Go.Ground.phase }, { on := 2, ground := Go.Ground.phase }, { on := 3, ground := Go.Ground.phase }, { on := 4, ground := Go.Ground.phase }, { on := 5, ground := Go.Ground.phase }, { on := 6, ground := Go.Ground.phase }, { on := 7, ground := Go.Ground.phase }, { on := 8, ground := Go.Ground.phase }], guard := none }) rfl (fun K2 hK => ?_) AllReadyH.nil
        go_simp
        refine hK.out _ _ HF.out.2.2 (fun hSf => ?_)
        clear hK K2
        try simp only [Act.put, List.setIfInBounds_toArray, List.set_cons_zero, List.set_cons_succ]
        refine wpAnyH_done (by kernel_rfl) ?_ _
        clear f0 fz hSf
        go_wp2_with fail
        go_meet
        case rel => exact ⟨D, C8, c8, rfl, HF.out⟩
       exact AllReadyH.nil
      exact AllReadyH.nil
     exact AllReadyH.nil
    exact AllReadyH.nil
   refine AllReadyH.cons (o := { dst := some 20, op := Go.Op.alloc 24, type := 0, pos := "outright.go:122", after := #[], guard := none }) rfl (fun K2 hK => ?_) ?_
   ·go_simp
    refine hK.out _ _ (hV0.trans ((below_alloc_ _ _).mono hV0.size)) (fun hV1 => ?_)
    clear hK K2
    have hD := heap_alloc_new_ V0 (.cells #[.slice none 0 0] 24)
    have hb := below_alloc_ V0 (.cells #[.slice none 0 0] 24)
    have HD0 := Lib.hid (show w5.heap.size ≤ V0.heap.size from hV0.size)
    generalize V0.alloc (.cells #[.slice none 0 0] 24) = V1 at *
    obtain ⟨D, hDe⟩ : ∃ D, V0.heap.size = D := ⟨_, rfl⟩
    rw [hDe] at hD HD0 ⊢
    clear hDe hb
    try simp only [Act.put, List.setIfInBounds_toArray, List.set_cons_zero, List.set_cons_succ]
    refine wpAnyH_ready (rs := [0, 5]) (by kernel_rfl) (by simp) ?_
    refine AllReadyH.cons (o := { dst := some 63, op := Go.Op.buildSlice 22 0 #[], type := 22, pos := "outright.go:122", after := #[], guard := none }) rfl (fun K2 hK => ?_) ?_
    ·go_simp
     refine hK.out _ _ (hV1.trans ((below_alloc_ _ _).mono hV1.size)) (fun hV2 => ?_)
     clear hK K2
     have hZ := heap_alloc_new_ V1 (.cells #[] 57)
     have hb := below_alloc_ V1 (.cells #[] 57)
     have HNDZ := Lib.hid (show D ≠ V1.heap.size from by have := lt_of_block hD; omega)
     replace hD := (hb.block _ (lt_of_block hD)).trans hD
     have HZ0 := Lib.hid (show w5.heap.size ≤ V1.heap.size from hV1.size)
     have HOD := Lib.hid (show Value.ownBlock (.slice (some ⟨V1.heap.size, 0, none⟩) 0 0) ≠ some D from fun e => by have h9 : V1.heap.size = D := Option.some.inj e; exact HNDZ.out h9.symm)
     have HB := Lib.hid (show ∀ j, Value.ownBlock (.slice (some ⟨V1.heap.size, 0, none⟩) 0 0) = some j → w5.heap.size ≤ j from fun j e => by have h9 : V1.heap.size = j := Option.some.inj e; have := HZ0.out; omega)
     generalize V1.alloc (.cells #[] 57) = V2 at *
     obtain ⟨Z, hZe⟩ : ∃ Z, V1.heap.size = Z := ⟨_, rfl⟩
     rw [hZe] at hZ HZ0 HNDZ HOD HB ⊢
     clear hZe hb
     have hown := own_empty (size := 2) hZ
     clear hZ
     try simp only [Act.put, List.setIfInBounds_toArray, List.set_cons_zero, List.set_cons_succ]
     refine wpAnyH_ready (rs := [3, 5]) (by kernel_rfl) (by simp) ?_
     refine AllReadyH.cons (o := { dst := some 66, op := Go.Op.call { callee := Go.Callee.builtin Go.Builtin.append, args := #[Go.Operand.tmp 63, Go.Operand.tmp 65], argTypes := #[22, 22] }, type := 22, pos := "outright.go:122", after := #[{ on := 0, ground := Go.Ground.data }, { on := 2, ground := Go.Ground.data }], guard := none }) rfl (fun K2 hK => ?_) ?_
     ·obtain ⟨v1, V3, hrun, hown2, hKp, hon⟩ := app_rgs (c2 := cap) (xs := []) hown (S.out.below hV2 (Nat.le_refl _)) (by omega)
      have hV3h := Lib.hid (show Below w5.heap.size w5 V3 from hV2.trans (hKp.below hV2.size (fun j hj e => by have := HB.out j e; omega)))
      have HPD := Lib.hid (show Value.ownBlock v1 ≠ some D from by rcases hon with h9 | h9 <;> rw [h9] <;> first | exact HOD.out | (intro e; have h8 : V2.heap.size = D := Option.some.inj e; have := lt_of_block hD; omega))
      replace hD := (hKp.block _ (lt_of_block hD) HOD.out).trans hD
      clear HOD
      have HOD := HPD
      clear HPD
      have HB2 := Lib.hid (show ∀ j, Value.ownBlock v1 = some j → w5.heap.size ≤ j from fun j e => by rcases hon with h9 | h9 <;> rw [h9] at e <;> first | exact HB.out j e | (have h8 : V2.heap.size = j := Option.some.inj e; have := hV2.size; omega))
      clear HB hown hon hKp
      have HB := HB2
      have Hown := Lib.hid hown2
      clear HB2 hown2
      go_simp
      try rw [hrun]
      try go_simp
      have hown := Hown.out
      clear Hown
      refine hK.out _ _ (hV3h.out) (fun hV3 => ?_)
      clear hK K2
      clear hrun hV3h
      try simp only [Act.put, List.setIfInBounds_toArray, List.set_cons_zero, List.set_cons_succ]
      refine wpAnyH_ready (rs := [5]) (by kernel_rfl) (by simp) ?_
      refine AllReadyH.cons (o := { dst := some 68, op := Go.Op.buildSlice 22 1 #[(0, Go.Operand.tmp 67)], type := 22, pos := "outright.go:122", after := #[{ on := 4, ground := Go.Ground.data }], guard := none }) rfl (fun K2 hK => ?_) ?_
      ·go_simp
       refine hK.out _ _ (hV3.trans ((below_alloc_ _ _).mono hV3.size)) (fun hV4 => ?_)
       clear hK K2
       have hT := heap_alloc_new_ V3 (.cells #[.int .i64 p0, .int .i64 p1] 57)
       have hb := below_alloc_ V3 (.cells #[.int .i64 p0, .int .i64 p1] 57)
       have HNDT := Lib.hid (show D ≠ V3.heap.size from by have := lt_of_block hD; omega)
       have HOT := Lib.hid (show Value.ownBlock (v1) ≠ some V3.heap.size from fun e => by have := own_lt hown _ e; omega)
       replace hown := own_keep hown (Keeps.of_new (Mut := fun _ => False) hb) (fun _ _ e => e)
       replace hD := (hb.block _ (lt_of_block hD)).trans hD
       have HT0 := Lib.hid (show w5.heap.size ≤ V3.heap.size from hV3.size)
       generalize V3.alloc (.cells #[.int .i64 p0, .int .i64 p1] 57) = V4 at *
       obtain ⟨T, hTe⟩ : ∃ T, V3.heap.size = T := ⟨_, rfl⟩
       rw [hTe] at hT HT0 HNDT HOT ⊢
       clear hTe hb
       try simp only [Act.put, List.setIfInBounds_toArray, List.set_cons_zero, List.set_cons_succ]
       refine wpAnyH_ready (rs := [6]) (by kernel_rfl) (by simp) ?_
       refine AllReadyH.cons (o := { dst := some 69, op := Go.Op.call { callee := Go.Callee.builtin Go.Builtin.append, args := #[Go.Operand.tmp 66, Go.Operand.tmp 68], argTypes := #[22, 22] }, type := 22, pos := "outright.go:122", after := #[{ on := 3, ground := Go.Ground.data }, { on := 5, ground := Go.Ground.data }, { on := 3, ground := Go.Ground.chain }], guard := none }) rfl (fun K2 hK => ?_) ?_
       ·obtain ⟨v2, V5, hrun, hown2, hKp, hon⟩ := app_1p hown hT (by omega)
        have hV5h := Lib.hid (show Below w5.heap.size w5 V5 from hV4.trans (hKp.below hV4.size (fun j hj e => by have := HB.out j e; omega)))
        have HPD := Lib.hid (show Value.ownBlock v2 ≠ some D from by rcases hon with h9 | h9 <;> rw [h9] <;> first | exact HOD.out | (intro e; have h8 : V4.heap.size = D := Option.some.inj e; have := lt_of_block hD; omega))
        replace hD := (hKp.block _ (lt_of_block hD) HOD.out).trans hD
        clear HOD
        have HOD := HPD
        clear HPD
        have HPT := Lib.hid (show Value.ownBlock v2 ≠ some T from by rcases hon with h9 | h9 <;> rw [h9] <;> first | exact HOT.out | (intro e; have h8 : V4.heap.size = T := Option.some.inj e; have := lt_of_block hT; omega))
        replace hT := (hKp.block _ (lt_of_block hT) HOT.out).trans hT
        clear HOT
        have HOT := HPT
        clear HPT
        have HB2 := Lib.hid (show ∀ j, Value.ownBlock v2 = some j → w5.heap.size ≤ j from fun j e => by rcases hon with h9 | h9 <;> rw [h9] at e <;> first | exact HB.out j e | (have h8 : V4.heap.size = j := Option.some.inj e; have := hV4.size; omega))
        clear HB hown hon hKp
        have HB := HB2
        have Hown := Lib.hid hown2
        clear HB2 hown2
        have hown9 := Hown.out
        clear Hown
        rw [Nat.zero_add, List.nil_append] at hown9
        obtain ⟨C8, c8, rfl, hr8, hC8⟩ := rgs_own hown9 (by rw [List.length_append, HZl.out]; rfl)
        have HR8 := Lib.hid hr8
        have HC8 := Lib.hid (show ∀ b o, C8 = some ⟨b, o, none⟩ → b ≠ D from fun b o e e2 => HOD.out (by rw [← e2]; exact (hC8 b o e).1))
        clear HOD
        have HOD := HC8
        clear HC8
        clear hr8 hC8 hown9
        go_simp
        try rw [hrun]
        try go_simp
        refine hK.out _ _ (hV5h.out) (fun hV5 => ?_)
        clear hK K2
        clear hrun hV5h
        try simp only [Act.put, List.setIfInBounds_toArray, List.set_cons_zero, List.set_cons_succ]
        refine wpAnyH_take (i := 7) (oi := { dst := some 70, op := Go.Op.build 24 #[(0, Go.Operand.tmp 69)], type := 24, pos := "outright.go:122", after := #[{ on := 6, ground := Go.Ground.data }], guard := none }) (v := .agg #[.slice C8 (n + 1) c8]) rfl (by kernel_rfl) (by kernel_rfl) (by kernel_rfl) (fun _ _ _ h => h) (Or.inl ⟨by rfl, by intro w2 hSw; (try dsimp only at hSw);  go_simp⟩) hV5 ?_
        try simp only [Act.put, List.setIfInBounds_toArray, List.set_cons_zero, List.set_cons_succ]
        have f0 : V5.cell? ⟨D, 0, none⟩ = some (.slice none 0 0) := by rw [cell_row hD]; rfl
        have fz : ∀ i, V5.frozen? ⟨D, i, none⟩ = false := fun i => frozen_row hD
        have HF := Lib.hid (more_book (c9 := c8) hV5 hD HD0.out HR8.out HOD.out)
        clear hD
        refine wpAnyH_ready (rs := [9]) (by kernel_rfl) (by simp) ?_
        refine AllReadyH.cons (o := { dst := none, op := Go.Op.store 24 (Go.Operand.tmp 20) (Go.Operand.tmp 70), type := 0, pos := "outright.go:122", after := #[{ on := 8, ground := Go.Ground.data }, { on := 7, ground := Go.Ground.data }, { on := 6, ground := Go.Ground.chain }, { on := 0, ground := Go.Ground.phase }, { on := 1, ground := Go.Ground.phase }, { on := 2, ground := Go.Ground.phase }, { on := 3, ground := Go.Ground.phase }, { on := 4, ground := Go.Ground.phase }, { on := 5, ground := Go.Ground.phase }, { on := 6, ground := Go.Ground.phase }, { on := 7, ground := Go.Ground.phase }, { on := 8, ground := Go.Ground.phase }], guard := none }) rfl (fun K2 hK => ?_) AllReadyH.nil
        go_simp
        refine hK.out _ _ HF.out.2.2 (fun hSf => ?_)
        clear hK K2
        try simp only [Act.put, List.setIfInBounds_toArray, List.set_cons_zero, List.set_cons_succ]
        refine wpAnyH_done (by kernel_rfl) ?_ _
        clear f0 fz hSf
        go_wp2_with fail
        go_meet
        case rel => exact ⟨D, C8, c8, rfl, HF.out⟩
       exact AllReadyH.nil
      exact AllReadyH.nil
     refine AllReadyH.cons (o := { dst := some 68, op := Go.Op.buildSlice 22 1 #[(0, Go.Operand.tmp 67)], type := 22, pos := "outright.go:122", after := #[{ on := 4, ground := Go.Ground.data }], guard := none }) rfl (fun K2 hK => ?_) ?_
     ·go_simp
      refine hK.out _ _ (hV2.trans ((below_alloc_ _ _).mono hV2.size)) (fun hV3 => ?_)
      clear hK K2
      have hT := heap_alloc_new_ V2 (.cells #[.int .i64 p0, .int .i64 p1] 57)
      have hb := below_alloc_ V2 (.cells #[.int .i64 p0, .int .i64 p1] 57)
      have HNDT := Lib.hid (show D ≠ V2.heap.size from by have := lt_of_block hD; omega)
      have HOT := Lib.hid (show Value.ownBlock (.slice (some ⟨Z, 0, none⟩) 0 0) ≠ some V2.heap.size from fun e => by have := own_lt hown _ e; omega)
      replace hown := own_keep hown (Keeps.of_new (Mut := fun _ => False) hb) (fun _ _ e => e)
      replace hD := (hb.block _ (lt_of_block hD)).trans hD
      have HT0 := Lib.hid (show w5.heap.size ≤ V2.heap.size from hV2.size)
      generalize V2.alloc (.cells #[.int .i64 p0, .int .i64 p1] 57) = V3 at *
      obtain ⟨T, hTe⟩ : ∃ T, V2.heap.size = T := ⟨_, rfl⟩
      rw [hTe] at hT HT0 HNDT HOT ⊢
      clear hTe hb
      try simp only [Act.put, List.setIfInBounds_toArray, List.set_cons_zero, List.set_cons_succ]
      refine wpAnyH_ready (rs := [3]) (by kernel_rfl) (by simp) ?_
      refine AllReadyH.cons (o := { dst := some 66, op := Go.Op.call { callee := Go.Callee.builtin Go.Builtin.append, args := #[Go.Operand.tmp 63, Go.Operand.tmp 65], argTypes := #[22, 22] }, type := 22, pos := "outright.go:122", after := #[{ on := 0, ground := Go.Ground.data }, { on := 2, ground := Go.Ground.data }], guard := none }) rfl (fun K2 hK => ?_) ?_
      ·obtain ⟨v1, V4, hrun, hown2, hKp, hon⟩ := app_rgs (c2 := cap) (xs := []) hown (S.out.below hV3 (Nat.le_refl _)) (by omega)
       have hV4h := Lib.hid (show Below w5.heap.size w5 V4 from hV3.trans (hKp.below hV3.size (fun j hj e => by have := HB.out j e; omega)))
       have HPD := Lib.hid (show Value.ownBlock v1 ≠ some D from by rcases hon with h9 | h9 <;> rw [h9] <;> first | exact HOD.out | (intro e; have h8 : V3.heap.size = D := Option.some.inj e; have := lt_of_block hD; omega))
       replace hD := (hKp.block _ (lt_of_block hD) HOD.out).trans hD
       clear HOD
       have HOD := HPD
       clear HPD
       have HPT := Lib.hid (show Value.ownBlock v1 ≠ some T from by rcases hon with h9 | h9 <;> rw [h9] <;> first | exact HOT.out | (intro e; have h8 : V3.heap.size = T := Option.some.inj e; have := lt_of_block hT; omega))
       replace hT := (hKp.block _ (lt_of_block hT) HOT.out).trans hT
       clear HOT
       have HOT := HPT
       clear HPT
       have HB2 := Lib.hid (show ∀ j, Value.ownBlock v1 = some j → w5.heap.size ≤ j from fun j e => by rcases hon with h9 | h9 <;> rw [h9] at e <;> first | exact HB.out j e | (have h8 : V3.heap.size = j := Option.some.inj e; have := hV3.size; omega))
       clear HB hown hon hKp
       have HB := HB2
       have Hown := Lib.hid hown2
       clear HB2 hown2
       go_simp
       try rw [hrun]
       try go_simp
       have hown := Hown.out
       clear Hown
       refine hK.out _ _ (hV4h.out) (fun hV4 => ?_)
       clear hK K2
       clear hrun hV4h
       try simp only [Act.put, List.setIfInBounds_toArray, List.set_cons_zero, List.set_cons_succ]
       refine wpAnyH_ready (rs := [6]) (by kernel_rfl) (by simp) ?_
       refine AllReadyH.cons (o := { dst := some 69, op := Go.Op.call { callee := Go.Callee.builtin Go.Builtin.append, args := #[Go.Operand.tmp 66, Go.Operand.tmp 68], argTypes := #[22, 22] }, type := 22, pos := "outright.go:122", after := #[{ on := 3, ground := Go.Ground.data }, { on := 5, ground := Go.Ground.data }, { on := 3, ground := Go.Ground.chain }], guard := none }) rfl (fun K2 hK => ?_) ?_
       ·obtain ⟨v2, V5, hrun, hown2, hKp, hon⟩ := app_1p hown hT (by omega)
        have hV5h := Lib.hid (show Below w5.heap.size w5 V5 from hV4.trans (hKp.below hV4.size (fun j hj e => by have := HB.out j e; omega)))
        have HPD := Lib.hid (show Value.ownBlock v2 ≠ some D from by rcases hon with h9 | h9 <;> rw [h9] <;> first | exact HOD.out | (intro e; have h8 : V4.heap.size = D := Option.some.inj e; have := lt_of_block hD; omega))
        replace hD := (hKp.block _ (lt_of_block hD) HOD.out).trans hD
        clear HOD
        have HOD := HPD
        clear HPD
        have HPT := Lib.hid (show Value.ownBlock v2 ≠ some T from by rcases hon with h9 | h9 <;> rw [h9] <;> first | exact HOT.out | (intro e; have h8 : V4.heap.size = T := Option.some.inj e; have := lt_of_block hT; omega))
        replace hT := (hKp.block _ (lt_of_block hT) HOT.out).trans hT
        clear HOT
        have HOT := HPT
        clear HPT
        have HB2 := Lib.hid (show ∀ j, Value.ownBlock v2 = some j → w5.heap.size ≤ j from fun j e => by rcases hon with h9 | h9 <;> rw [h9] at e <;> first | exact HB.out j e | (have h8 : V4.heap.size = j := Option.some.inj e; have := hV4.size; omega))
        clear HB hown hon hKp
        have HB := HB2
        have Hown := Lib.hid hown2
        clear HB2 hown2
        have hown9 := Hown.out
        clear Hown
        rw [Nat.zero_add, List.nil_append] at hown9
        obtain ⟨C8, c8, rfl, hr8, hC8⟩ := rgs_own hown9 (by rw [List.length_append, HZl.out]; rfl)
        have HR8 := Lib.hid hr8
        have HC8 := Lib.hid (show ∀ b o, C8 = some ⟨b, o, none⟩ → b ≠ D from fun b o e e2 => HOD.out (by rw [← e2]; exact (hC8 b o e).1))
        clear HOD
        have HOD := HC8
        clear HC8
        clear hr8 hC8 hown9
        go_simp
        try rw [hrun]
        try go_simp
        refine hK.out _ _ (hV5h.out) (fun hV5 => ?_)
        clear hK K2
        clear hrun hV5h
        try simp only [Act.put, List.setIfInBounds_toArray, List.set_cons_zero, List.set_cons_succ]
        refine wpAnyH_take (i := 7) (oi := { dst := some 70, op := Go.Op.build 24 #[(0, Go.Operand.tmp 69)], type := 24, pos := "outright.go:122", after := #[{ on := 6, ground := Go.Ground.data }], guard := none }) (v := .agg #[.slice C8 (n + 1) c8]) rfl (by kernel_rfl) (by kernel_rfl) (by kernel_rfl) (fun _ _ _ h => h) (Or.inl ⟨by rfl, by intro w2 hSw; (try dsimp only at hSw);  go_simp⟩) hV5 ?_
        try simp only [Act.put, List.setIfInBounds_toArray, List.set_cons_zero, List.set_cons_succ]
        have f0 : V5.cell? ⟨D, 0, none⟩ = some (.slice none 0 0) := by rw [cell_row hD]; rfl
        have fz : ∀ i, V5.frozen? ⟨D, i, none⟩ = false := fun i => frozen_row hD
        have HF := Lib.hid (more_book (c9 := c8) hV5 hD HD0.out HR8.out HOD.out)
        clear hD
        refine wpAnyH_ready (rs := [9]) (by kernel_rfl) (by simp) ?_
        refine AllReadyH.cons (o := { dst := none, op := Go.Op.store 24 (Go.Operand.tmp 20) (Go.Operand.tmp 70), type := 0, pos := "outright.go:122", after := #[{ on := 8, ground := Go.Ground.data }, { on := 7, ground := Go.Ground.data }, { on := 6, ground := Go.Ground.chain }, { on := 0, ground := Go.Ground.phase }, { on := 1, ground := Go.Ground.phase }, { on := 2, ground := Go.Ground.phase }, { on := 3, ground := Go.Ground.phase }, { on := 4, ground := Go.Ground.phase }, { on := 5, ground := Go.Ground.phase }, { on := 6, ground := Go.Ground.phase }, { on := 7, ground := Go.Ground.phase }, { on := 8, ground := Go.Ground.phase }], guard := none }) rfl (fun K2 hK => ?_) AllReadyH.nil
        go_simp
        refine hK.out _ _ HF.out.2.2 (fun hSf => ?_)
        clear hK K2
        try simp only [Act.put, List.setIfInBounds_toArray, List.set_cons_zero, List.set_cons_succ]
        refine wpAnyH_done (by kernel_rfl) ?_ _
        clear f0 fz hSf
        go_wp2_with fail
        go_meet
        case rel => exact ⟨D, C8, c8, rfl, HF.out⟩
       exact AllReadyH.nil
      exact AllReadyH.nil
     exact AllReadyH.nil
    refine AllReadyH.cons (o := { dst := some 68, op := Go.Op.buildSlice 22 1 #[(0, Go.Operand.tmp 67)], type := 22, pos := "outright.go:122", after := #[{ on := 4, ground := Go.Ground.data }], guard := none }) rfl (fun K2 hK => ?_) ?_
    ·go_simp
     refine hK.out _ _ (hV1.trans ((below_alloc_ _ _).mono hV1.size)) (fun hV2 => ?_)
     clear hK K2
     have hT := heap_alloc_new_ V1 (.cells #[.int .i64 p0, .int .i64 p1] 57)
     have hb := below_alloc_ V1 (.cells #[.int .i64 p0, .int .i64 p1] 57)
     have HNDT := Lib.hid (show D ≠ V1.heap.size from by have := lt_of_block hD; omega)
     replace hD := (hb.block _ (lt_of_block hD)).trans hD
     have HT0 := Lib.hid (show w5.heap.size ≤ V1.heap.size from hV1.size)
     generalize V1.alloc (.cells #[.int .i64 p0, .int .i64 p1] 57) = V2 at *
     obtain ⟨T, hTe⟩ : ∃ T, V1.heap.size = T := ⟨_, rfl⟩
     rw [hTe] at hT HT0 HNDT ⊢
     clear hTe hb
     try simp only [Act.put, List.setIfInBounds_toArray, List.set_cons_zero, List.set_cons_succ]
     refine wpAnyH_ready (rs := [0]) (by kernel_rfl) (by simp) ?_
     refine AllReadyH.cons (o := { dst := some 63, op := Go.Op.buildSlice 22 0 #[], type := 22, pos := "outright.go:122", after := #[], guard := none }) rfl (fun K2 hK => ?_) ?_
     ·go_simp
      refine hK.out _ _ (hV2.trans ((below_alloc_ _ _).mono hV2.size)) (fun hV3 => ?_)
      clear hK K2
      have hZ := heap_alloc_new_ V2 (.cells #[] 57)
      have hb := below_alloc_ V2 (.cells #[] 57)
      have HNDZ := Lib.hid (show D ≠ V2.heap.size from by have := lt_of_block hD; omega)
      have HNTZ := Lib.hid (show T ≠ V2.heap.size from by have := lt_of_block hT; omega)
      replace hD := (hb.block _ (lt_of_block hD)).trans hD
      replace hT := (hb.block _ (lt_of_block hT)).trans hT
      have HZ0 := Lib.hid (show w5.heap.size ≤ V2.heap.size from hV2.size)
      have HOD := Lib.hid (show Value.ownBlock (.slice (some ⟨V2.heap.size, 0, none⟩) 0 0) ≠ some D from fun e => by have h9 : V2.heap.size = D := Option.some.inj e; exact HNDZ.out h9.symm)
      have HOT := Lib.hid (show Value.ownBlock (.slice (some ⟨V2.heap.size, 0, none⟩) 0 0) ≠ some T from fun e => by have h9 : V2.heap.size = T := Option.some.inj e; exact HNTZ.out h9.symm)
      have HB := Lib.hid (show ∀ j, Value.ownBlock (.slice (some ⟨V2.heap.size, 0, none⟩) 0 0) = some j → w5.heap.size ≤ j from fun j e => by have h9 : V2.heap.size = j := Option.some.inj e; have := HZ0.out; omega)
      generalize V2.alloc (.cells #[] 57) = V3 at *
      obtain ⟨Z, hZe⟩ : ∃ Z, V2.heap.size = Z := ⟨_, rfl⟩
      rw [hZe] at hZ HZ0 HNDZ HNTZ HOD HOT HB ⊢
      clear hZe hb
      have hown := own_empty (size := 2) hZ
      clear hZ
      try simp only [Act.put, List.setIfInBounds_toArray, List.set_cons_zero, List.set_cons_succ]
      refine wpAnyH_ready (rs := [3]) (by kernel_rfl) (by simp) ?_
      refine AllReadyH.cons (o := { dst := some 66, op := Go.Op.call { callee := Go.Callee.builtin Go.Builtin.append, args := #[Go.Operand.tmp 63, Go.Operand.tmp 65], argTypes := #[22, 22] }, type := 22, pos := "outright.go:122", after := #[{ on := 0, ground := Go.Ground.data }, { on := 2, ground := Go.Ground.data }], guard := none }) rfl (fun K2 hK => ?_) ?_
      ·obtain ⟨v1, V4, hrun, hown2, hKp, hon⟩ := app_rgs (c2 := cap) (xs := []) hown (S.out.below hV3 (Nat.le_refl _)) (by omega)
       have hV4h := Lib.hid (show Below w5.heap.size w5 V4 from hV3.trans (hKp.below hV3.size (fun j hj e => by have := HB.out j e; omega)))
       have HPD := Lib.hid (show Value.ownBlock v1 ≠ some D from by rcases hon with h9 | h9 <;> rw [h9] <;> first | exact HOD.out | (intro e; have h8 : V3.heap.size = D := Option.some.inj e; have := lt_of_block hD; omega))
       replace hD := (hKp.block _ (lt_of_block hD) HOD.out).trans hD
       clear HOD
       have HOD := HPD
       clear HPD
       have HPT := Lib.hid (show Value.ownBlock v1 ≠ some T from by rcases hon with h9 | h9 <;> rw [h9] <;> first | exact HOT.out | (intro e; have h8 : V3.heap.size = T := Option.some.inj e; have := lt_of_block hT; omega))
       replace hT := (hKp.block _ (lt_of_block hT) HOT.out).trans hT
       clear HOT
       have HOT := HPT
       clear HPT
       have HB2 := Lib.hid (show ∀ j, Value.ownBlock v1 = some j → w5.heap.size ≤ j from fun j e => by rcases hon with h9 | h9 <;> rw [h9] at e <;> first | exact HB.out j e | (have h8 : V3.heap.size = j := Option.some.inj e; have := hV3.size; omega))
       clear HB hown hon hKp
       have HB := HB2
       have Hown := Lib.hid hown2
       clear HB2 hown2
       go_simp
       try rw [hrun]
       try go_simp
       have hown := Hown.out
       clear Hown
       refine hK.out _ _ (hV4h.out) (fun hV4 => ?_)
       clear hK K2
       clear hrun hV4h
       try simp only [Act.put, List.setIfInBounds_toArray, List.set_cons_zero, List.set_cons_succ]
       refine wpAnyH_ready (rs := [6]) (by kernel_rfl) (by simp) ?_
       refine AllReadyH.cons (o := { dst := some 69, op := Go.Op.call { callee := Go.Callee.builtin Go.Builtin.append, args := #[Go.Operand.tmp 66, Go.Operand.tmp 68], argTypes := #[22, 22] }, type := 22, pos := "outright.go:122", after := #[{ on := 3, ground := Go.Ground.data }, { on := 5, ground := Go.Ground.data }, { on := 3, ground := Go.Ground.chain }], guard := none }) rfl (fun K2 hK => ?_) ?_
       ·obtain ⟨v2, V5, hrun, hown2, hKp, hon⟩ := app_1p hown hT (by omega)
        have hV5h := Lib.hid (show Below w5.heap.size w5 V5 from hV4.trans (hKp.below hV4.size (fun j hj e => by have := HB.out j e; omega)))
        have HPD := Lib.hid (show Value.ownBlock v2 ≠ some D from by rcases hon with h9 | h9 <;> rw [h9] <;> first | exact HOD.out | (intro e; have h8 : V4.heap.size = D := Option.some.inj e; have := lt_of_block hD; omega))
        replace hD := (hKp.block _ (lt_of_block hD) HOD.out).trans hD
        clear HOD
        have HOD := HPD
        clear HPD
        have HPT := Lib.hid (show Value.ownBlock v2 ≠ some T from by rcases hon with h9 | h9 <;> rw [h9] <;> first | exact HOT.out | (intro e; have h8 : V4.heap.size = T := Option.some.inj e; have := lt_of_block hT; omega))
        replace hT := (hKp.block _ (lt_of_block hT) HOT.out).trans hT
        clear HOT
        have HOT := HPT
        clear HPT
        have HB2 := Lib.hid (show ∀ j, Value.ownBlock v2 = some j → w5.heap.size ≤ j from fun j e => by rcases hon with h9 | h9 <;> rw [h9] at e <;> first | exact HB.out j e | (have h8 : V4.heap.size = j := Option.some.inj e; have := hV4.size; omega))
        clear HB hown hon hKp
        have HB := HB2
        have Hown := Lib.hid hown2
        clear HB2 hown2
        have hown9 := Hown.out
        clear Hown
        rw [Nat.zero_add, List.nil_append] at hown9
        obtain ⟨C8, c8, rfl, hr8, hC8⟩ := rgs_own hown9 (by rw [List.length_append, HZl.out]; rfl)
        have HR8 := Lib.hid hr8
        have HC8 := Lib.hid (show ∀ b o, C8 = some ⟨b, o, none⟩ → b ≠ D from fun b o e e2 => HOD.out (by rw [← e2]; exact (hC8 b o e).1))
        clear HOD
        have HOD := HC8
        clear HC8
        clear hr8 hC8 hown9
        go_simp
        try rw [hrun]
        try go_simp
        refine hK.out _ _ (hV5h.out) (fun hV5 => ?_)
        clear hK K2
        clear hrun hV5h
        try simp only [Act.put, List.setIfInBounds_toArray, List.set_cons_zero, List.set_cons_succ]
        refine wpAnyH_take (i := 7) (oi := { dst := some 70, op := Go.Op.build 24 #[(0, Go.Operand.tmp 69)], type := 24, pos := "outright.go:122", after := #[{ on := 6, ground := Go.Ground.data }], guard := none }) (v := .agg #[.slice C8 (n + 1) c8]) rfl (by kernel_rfl) (by kernel_rfl) (by kernel_rfl) (fun _ _ _ h => h) (Or.inl ⟨by rfl, by intro w2 hSw; (try dsimp only at hSw);  go_simp⟩) hV5 ?_
        try simp only [Act.put, List.setIfInBounds_toArray, List.set_cons_zero, List.set_cons_succ]
        have f0 : V5.cell? ⟨D, 0, none⟩ = some (.slice none 0 0) := by rw [cell_row hD]; rfl
        have fz : ∀ i, V5.frozen? ⟨D, i, none⟩ = false := fun i => frozen_row hD
        have HF := Lib.hid (more_book (c9 := c8) hV5 hD HD0.out HR8.out HOD.out)
        clear hD
        refine wpAnyH_ready (rs := [9]) (by kernel_rfl) (by simp) ?_
        refine AllReadyH.cons (o := { dst := none, op := Go.Op.store 24 (Go.Operand.tmp 20) (Go.Operand.tmp 70), type := 0, pos := "outright.go:122", after := #[{ on := 8, ground := Go.Ground.data }, { on := 7, ground := Go.Ground.data }, { on := 6, ground := Go.Ground.chain }, { on := 0, ground := Go.Ground.phase }, { on := 1, ground := Go.Ground.phase }, { on := 2, ground := Go.Ground.phase }, { on := 3, ground := Go.Ground.phase }, { on := 4, ground := Go.Ground.phase }, { on := 5, ground := Go.Ground.phase }, { on := 6, ground := Go.Ground.phase }, { on := 7, ground := Go.Ground.phase }, { on := 8, ground := Go.Ground.phase }], guard := none }) rfl (fun K2 hK => ?_) AllReadyH.nil
        go_simp
        refine hK.out _ _ HF.out.2.2 (fun hSf => ?_)
        clear hK K2
        try simp only [Act.put, List.setIfInBounds_toArray, List.set_cons_zero, List.set_cons_succ]
        refine wpAnyH_done (by kernel_rfl) ?_ _
        clear f0 fz hSf
        go_wp2_with fail
        go_meet
        case rel => exact ⟨D, C8, c8, rfl, HF.out⟩
       exact AllReadyH.nil
      exact AllReadyH.nil
     exact AllReadyH.nil
    exact AllReadyH.nil
   exact AllReadyH.nil
  case rest =>
   obtain ⟨D, C8, c8, rfl, hd8, hr8, hb⟩ := hcut
   obtain ⟨w6, rfl⟩ : ∃ w6, w6 = wc := ⟨_, rfl⟩
   clear p0c p1c
   replace S := Lib.hid (S.out.below hb (Nat.le_refl _))
   replace X := Lib.hid (X.out.below hb (Nat.le_refl _))
   replace Y := Lib.hid (Y.out.below hb (Nat.le_refl _))
   replace B := Lib.hid (B.out.trans (hb.mono B.out.size))
   replace hrow := Lib.hid ((hb.block R (lt_of_block hrow.out)).trans hrow.out)
   replace hrow1 := Lib.hid ((hb.block (R + 1) (lt_of_block hrow1.out)).trans hrow1.out)
   clear hb
   try clear rc
   have hrow8 := Lib.hid hd8
   have P8 := Lib.hid hr8
   clear hd8 hr8
   have hrow8b := hrow8.out
   have rc : w6.cell? ⟨D, 0, none⟩ = some (.slice C8 (n + 1) c8) := by rw [cell_row hrow8b]; rfl
   clear hrow8b
   go_wp2_with fail
   refine (fine40 C8 (n + 1) c8 (zs ++ [⟨p0, p1⟩]) (some ⟨bo, oo, none⟩) m cap2 L w6 P8.out X.out).mono ?_
   rintro en w7 ⟨rfl, hb⟩
   replace S := Lib.hid (S.out.below hb (Nat.le_refl _))
   replace X := Lib.hid (X.out.below hb (Nat.le_refl _))
   replace Y := Lib.hid (Y.out.below hb (Nat.le_refl _))
   replace P8 := Lib.hid (P8.out.below hb (Nat.le_refl _))
   replace B := Lib.hid (B.out.trans (hb.mono B.out.size))
   replace hrow := Lib.hid ((hb.block R (lt_of_block hrow.out)).trans hrow.out)
   replace hrow1 := Lib.hid ((hb.block (R + 1) (lt_of_block hrow1.out)).trans hrow1.out)
   replace hrow8 := Lib.hid ((hb.block D (lt_of_block hrow8.out)).trans hrow8.out)
   clear hb rc
   have rc : w7.cell? ⟨D, 0, none⟩ = some (.slice C8 (n + 1) c8) := by rw [cell_row hrow8.out]; rfl
   obtain ⟨fn, hfn⟩ : ∃ fn, fnB (n + 1) (zs ++ [⟨p0, p1⟩]) L = fn := ⟨_, rfl⟩
   rw [hfn]
   go_upto_if 73 with fail
   go_cut [21, 22] from 71 to 86 (fun u1 u2 wx => Below w7.heap.size w7 wx)
   case first =>
    cases fn
    ·clear hfn
     go_wp2_with fail
     go_meet
     case rel => exact Below.refl _ _
    have hck2 := fnB_ok hfn
    clear hfn
    have htop := top_more (r := ⟨p0, p1⟩) HLV.out Hck.out hck2
    rw [HK.out] at htop
    go_wp2_with fail
    refine (long44 C8 (n + 1) c8 (zs ++ [⟨p0, p1⟩]) (some ⟨bo, oo, none⟩) m cap2 L w7 P8.out X.out hck2).mono ?_
    rintro en wg ⟨rfl, hb⟩
    have HBf := Lib.hid hb
    clear hb rc
    obtain ⟨K2, hK2⟩ : ∃ K2, topK (cls (prs (zs ++ [⟨p0, p1⟩]))) L m = K2 := ⟨_, rfl⟩
    rw [hK2] at htop ⊢
    clear hK2
    have dk : ¬ ((K2 : Int) < (K : Int)) := by omega
    clear htop hck2
    go_wp2_with fail
    go_meet
    case rel => exact HBf.out
   case rest =>
    obtain ⟨w8, rfl⟩ : ∃ w8, w8 = wc := ⟨_, rfl⟩
    have hb := hcut
    clear hcut
    replace S := Lib.hid (S.out.below hb (Nat.le_refl _))
    replace X := Lib.hid (X.out.below hb (Nat.le_refl _))
    replace Y := Lib.hid (Y.out.below hb (Nat.le_refl _))
    replace P8 := Lib.hid (P8.out.below hb (Nat.le_refl _))
    replace B := Lib.hid (B.out.trans (hb.mono B.out.size))
    replace hrow := Lib.hid ((hb.block R (lt_of_block hrow.out)).trans hrow.out)
    replace hrow1 := Lib.hid ((hb.block (R + 1) (lt_of_block hrow1.out)).trans hrow1.out)
    replace hrow8 := Lib.hid ((hb.block D (lt_of_block hrow8.out)).trans hrow8.out)
    clear hb rc
    have rc : w8.cell? ⟨D, 0, none⟩ = some (.slice C8 (n + 1) c8) := by rw [cell_row hrow8.out]; rfl
    clear rc hrow8 P8
    have rc : w8.cell? ⟨R, 0, none⟩ = some (.slice A n cap) := by rw [cell_row hrow.out]; rfl
    obtain ⟨v3, vs, V9, r1, o1, q1, hb9, hj9⟩ := app_copy (cap2 := cap2) X.out (by omega)
    obtain ⟨C3, cp, rfl, hcp, hl9, hC9⟩ := lns_own o1 (q1.below hb9 (Nat.le_refl _)) Hlen.out
    obtain ⟨g, o9, e9, hcs9⟩ := hl9.2 (by omega)
    obtain ⟨hg9, e8⟩ := hC9 g o9 e9
    subst e9 e8
    have hgs := hj9 g hg9
    obtain ⟨hh, hhh⟩ : ∃ hh : Nat, hh = x4 % m := ⟨_, rfl⟩
    have lh : hh < m := by rw [hhh]; exact Nat.mod_lt _ (by omega)
    have eh : (x4 : Int) % (m : Int) = (hh : Int) := by rw [hhh]; exact (Int.natCast_emod x4 m).symm
    have fh : (x4 : Int).tmod (m : Int) = (hh : Int) := by rw [Int.tmod_eq_emod_of_nonneg (by omega)]; exact eh
    have gh : IntKind.i64.wrap (x4 : Int) = x4 := IntWalk.i64_in _ (by omega)
    have jh : IntKind.i64.wrap (hh : Int) = hh := IntWalk.i64_in _ (by omega)
    have dm : ((m : Int) == 0) = false := by rw [beq_eq_false_iff_ne]; omega
    clear hhh
    obtain ⟨Ch, ch, y0, hIh, hch⟩ := hcs9 hh lh
    rw [Nat.zero_add] at y0
    have h08 := HLV.out.le8 hh lh
    obtain ⟨ll, hll⟩ : ∃ ll, (lAt L hh).length = ll := ⟨_, rfl⟩
    rw [hll] at y0 hIh hch h08
    have Hll := Lib.hid hll
    obtain ⟨ii, hii⟩ : ∃ ii : Nat, ii = x5 % (ll + 1) := ⟨_, rfl⟩
    have li : ii ≤ ll := by have := Nat.mod_lt x5 (show 0 < ll + 1 by omega); omega
    have ei : (x5 : Int) % ((ll : Int) + 1) = (ii : Int) := by rw [hii]; exact (Int.natCast_emod x5 (ll + 1)).symm
    have fi : (x5 : Int).tmod ((ll : Int) + 1) = (ii : Int) := by rw [Int.tmod_eq_emod_of_nonneg (by omega)]; exact ei
    have gi : IntKind.i64.wrap (x5 : Int) = x5 := IntWalk.i64_in _ (by omega)
    have ji : IntKind.i64.wrap (ii : Int) = ii := IntWalk.i64_in _ (by omega)
    have ki : IntKind.i64.wrap ((ll : Int) + 1) = (ll : Int) + 1 := IntWalk.i64_in _ (by omega)
    have di : ((ll : Int) + 1 == 0) = false := by rw [beq_eq_false_iff_ne]; omega
    have i0 : (0 : Int) ≤ (hh : Int) := by omega
    have i1 : (hh : Int) < (m : Int) := by omega
    obtain ⟨CA, cA, sA, iA⟩ := cut_lo Ch hll li hch
    obtain ⟨CB, cB, sB, iB⟩ := cut_hi Ch hll li hch
    have HIA := Lib.hid (iA V9 hIh)
    have HIB := Lib.hid (iB V9 hIh)
    have SA := Lib.hid (cut_lo_at sA)
    have SB := Lib.hid (cut_hi_at sB)
    have O1 := Lib.hid o1
    have Q1 := Lib.hid q1
    have HB9 := Lib.hid hb9
    have HGS := Lib.hid hgs
    clear hii hcs9 hIh hll sA sB iA iB o1 q1 hj9 hl9 hC9 hg9 hgs hb9
    go_upto_region 19 with fail
    clear r1 eh fh gh jh dm ei fi gi ji ki di
    go_cut [] from 104 to 124 (fun wx => Lns wx (some ⟨g, 0, none⟩) m (insL L hh ii ex) ∧ Below w8.heap.size w8 wx)
    case first =>
     refine Zed.region_z (z := 21) (S := fun w2 => Below V9.heap.size V9 w2) (by kernel_rfl) (drew_b _ _) (fun hS0 => ?_)
     refine Zed.anyZ_take (i := 0) (oi := { dst := some 104, op := Go.Op.move (Go.Operand.tmp 23), type := 25, pos := "outright.go:132", after := #[], guard := none }) (v := .slice (some ⟨g, 0, none⟩) m cp) rfl (by decide) (by kernel_rfl) (by kernel_rfl) (by kernel_rfl) (by kernel_rfl) (fun _ _ _ h => h) (Or.inl ⟨by rfl, by intro w2 hSw; (try dsimp only at hSw);  go_simp⟩) hS0 ?_
     try simp only [Act.put, List.setIfInBounds_toArray, List.set_cons_zero, List.set_cons_succ]
     refine Zed.anyZ_take (i := 1) (oi := { dst := some 105, op := Go.Op.move (Go.Operand.tmp 24), type := 3, pos := "outright.go:132", after := #[], guard := none }) (v := .int .i64 (hh : Int)) rfl (by decide) (by kernel_rfl) (by kernel_rfl) (by kernel_rfl) (by kernel_rfl) (fun _ _ _ h => h) (Or.inl ⟨by rfl, by intro w2 hSw; (try dsimp only at hSw);  go_simp⟩) hS0 ?_
     try simp only [Act.put, List.setIfInBounds_toArray, List.set_cons_zero, List.set_cons_succ]
     refine Zed.anyZ_take (i := 3) (oi := { dst := some 107, op := Go.Op.move (Go.Operand.tmp 23), type := 25, pos := "outright.go:132", after := #[], guard := none }) (v := .slice (some ⟨g, 0, none⟩) m cp) rfl (by decide) (by kernel_rfl) (by kernel_rfl) (by kernel_rfl) (by kernel_rfl) (fun _ _ _ h => h) (Or.inl ⟨by rfl, by intro w2 hSw; (try dsimp only at hSw);  go_simp⟩) hS0 ?_
     try simp only [Act.put, List.setIfInBounds_toArray, List.set_cons_zero, List.set_cons_succ]
     refine Zed.anyZ_take (i := 4) (oi := { dst := some 108, op := Go.Op.move (Go.Operand.tmp 24), type := 3, pos := "outright.go:132", after := #[], guard := none }) (v := .int .i64 (hh : Int)) rfl (by decide) (by kernel_rfl) (by kernel_rfl) (by kernel_rfl) (by kernel_rfl) (fun _ _ _ h => h) (Or.inl ⟨by rfl, by intro w2 hSw; (try dsimp only at hSw);  go_simp⟩) hS0 ?_
     try simp only [Act.put, List.setIfInBounds_toArray, List.set_cons_zero, List.set_cons_succ]
     refine Zed.anyZ_take (i := 5) (oi := { dst := some 109, op := Go.Op.indexAddr 25 (Go.Operand.tmp 107) (Go.Operand.tmp 108), type := 0, pos := "outright.go:132", after := #[{ on := 3, ground := Go.Ground.data }, { on := 4, ground := Go.Ground.data }], guard := none }) (v := .pointer (some ⟨g, hh, none⟩)) rfl (by decide) (by kernel_rfl) (by kernel_rfl) (by kernel_rfl) (by kernel_rfl) (fun _ _ _ h => h) (Or.inl ⟨by rfl, by intro w2 hSw; (try dsimp only at hSw);  go_simp⟩) hS0 ?_
     try simp only [Act.put, List.setIfInBounds_toArray, List.set_cons_zero, List.set_cons_succ]
     refine Zed.anyZ_take (i := 6) (oi := { dst := some 110, op := Go.Op.load 38 (Go.Operand.tmp 109), type := 38, pos := "outright.go:132", after := #[{ on := 5, ground := Go.Ground.data }], guard := none }) (v := .slice Ch ll ch) rfl (by decide) (by kernel_rfl) (by kernel_rfl) (by kernel_rfl) (by kernel_rfl) (fun _ _ _ h => h) (Or.inl ⟨by rfl, by intro w2 hSw; (try dsimp only at hSw); have q_y := (hSw.cell (p := ⟨g, hh, none⟩) (lt_of_cell y0)).trans y0; go_simp⟩) hS0 ?_
     try simp only [Act.put, List.setIfInBounds_toArray, List.set_cons_zero, List.set_cons_succ]
     refine Zed.anyZ_take (i := 7) (oi := { dst := some 111, op := Go.Op.move (Go.Operand.tmp 25), type := 3, pos := "outright.go:132", after := #[], guard := none }) (v := .int .i64 (ii : Int)) rfl (by decide) (by kernel_rfl) (by kernel_rfl) (by kernel_rfl) (by kernel_rfl) (fun _ _ _ h => h) (Or.inl ⟨by rfl, by intro w2 hSw; (try dsimp only at hSw);  go_simp⟩) hS0 ?_
     try simp only [Act.put, List.setIfInBounds_toArray, List.set_cons_zero, List.set_cons_succ]
     refine Zed.anyZ_take (i := 8) (oi := { dst := some 112, op := Go.Op.slice 38 (Go.Operand.tmp 110) none (some (Go.Operand.tmp 111)) none, type := 38, pos := "outright.go:132", after := #[{ on := 6, ground := Go.Ground.data }, { on := 7, ground := Go.Ground.data }], guard := none }) (v := .slice CA ii cA) rfl (by decide) (by kernel_rfl) (by kernel_rfl) (by kernel_rfl) (by kernel_rfl) (fun _ _ _ h => h) (Or.inl ⟨by rfl, by intro w2 hSw; (try dsimp only at hSw); have s_a := SA.out; go_simp⟩) hS0 ?_
     try simp only [Act.put, List.setIfInBounds_toArray, List.set_cons_zero, List.set_cons_succ]
     refine Zed.anyZ_take (i := 10) (oi := { dst := some 114, op := Go.Op.move (Go.Operand.tmp 6), type := 3, pos := "outright.go:132", after := #[], guard := none }) (v := .int .i64 ex) rfl (by decide) (by kernel_rfl) (by kernel_rfl) (by kernel_rfl) (by kernel_rfl) (fun _ _ _ h => h) (Or.inl ⟨by rfl, by intro w2 hSw; (try dsimp only at hSw);  go_simp⟩) hS0 ?_
     try simp only [Act.put, List.setIfInBounds_toArray, List.set_cons_zero, List.set_cons_succ]
     refine Zed.anyZ_take (i := 13) (oi := { dst := some 117, op := Go.Op.move (Go.Operand.tmp 23), type := 25, pos := "outright.go:132", after := #[], guard := none }) (v := .slice (some ⟨g, 0, none⟩) m cp) rfl (by decide) (by kernel_rfl) (by kernel_rfl) (by kernel_rfl) (by kernel_rfl) (fun _ _ _ h => h) (Or.inl ⟨by rfl, by intro w2 hSw; (try dsimp only at hSw);  go_simp⟩) hS0 ?_
     try simp only [Act.put, List.setIfInBounds_toArray, List.set_cons_zero, List.set_cons_succ]
     refine Zed.anyZ_take (i := 14) (oi := { dst := some 118, op := Go.Op.move (Go.Operand.tmp 24), type := 3, pos := "outright.go:132", after := #[], guard := none }) (v := .int .i64 (hh : Int)) rfl (by decide) (by kernel_rfl) (by kernel_rfl) (by kernel_rfl) (by kernel_rfl) (fun _ _ _ h => h) (Or.inl ⟨by rfl, by intro w2 hSw; (try dsimp only at hSw);  go_simp⟩) hS0 ?_
     try simp only [Act.put, List.setIfInBounds_toArray, List.set_cons_zero, List.set_cons_succ]
     refine Zed.anyZ_take (i := 15) (oi := { dst := some 119, op := Go.Op.indexAddr 25 (Go.Operand.tmp 117) (Go.Operand.tmp 118), type := 0, pos := "outright.go:132", after := #[{ on := 13, ground := Go.Ground.data }, { on := 14, ground := Go.Ground.data }], guard := none }) (v := .pointer (some ⟨g, hh, none⟩)) rfl (by decide) (by kernel_rfl) (by kernel_rfl) (by kernel_rfl) (by kernel_rfl) (fun _ _ _ h => h) (Or.inl ⟨by rfl, by intro w2 hSw; (try dsimp only at hSw);  go_simp⟩) hS0 ?_
     try simp only [Act.put, List.setIfInBounds_toArray, List.set_cons_zero, List.set_cons_succ]
     refine Zed.anyZ_take (i := 16) (oi := { dst := some 120, op := Go.Op.load 38 (Go.Operand.tmp 119), type := 38, pos := "outright.go:132", after := #[{ on := 15, ground := Go.Ground.data }], guard := none }) (v := .slice Ch ll ch) rfl (by decide) (by kernel_rfl) (by kernel_rfl) (by kernel_rfl) (by kernel_rfl) (fun _ _ _ h => h) (Or.inl ⟨by rfl, by intro w2 hSw; (try dsimp only at hSw); have q_y := (hSw.cell (p := ⟨g, hh, none⟩) (lt_of_cell y0)).trans y0; go_simp⟩) hS0 ?_
     try simp only [Act.put, List.setIfInBounds_toArray, List.set_cons_zero, List.set_cons_succ]
     refine Zed.anyZ_take (i := 17) (oi := { dst := some 121, op := Go.Op.move (Go.Operand.tmp 25), type := 3, pos := "outright.go:132", after := #[], guard := none }) (v := .int .i64 (ii : Int)) rfl (by decide) (by kernel_rfl) (by kernel_rfl) (by kernel_rfl) (by kernel_rfl) (fun _ _ _ h => h) (Or.inl ⟨by rfl, by intro w2 hSw; (try dsimp only at hSw);  go_simp⟩) hS0 ?_
     try simp only [Act.put, List.setIfInBounds_toArray, List.set_cons_zero, List.set_cons_succ]
     refine Zed.anyZ_take (i := 18) (oi := { dst := some 122, op := Go.Op.slice 38 (Go.Operand.tmp 120) (some (Go.Operand.tmp 121)) none none, type := 38, pos := "outright.go:132", after := #[{ on := 16, ground := Go.Ground.data }, { on := 17, ground := Go.Ground.data }], guard := none }) (v := .slice CB (ll - ii) cB) rfl (by decide) (by kernel_rfl) (by kernel_rfl) (by kernel_rfl) (by kernel_rfl) (fun _ _ _ h => h) (Or.inl ⟨by rfl, by intro w2 hSw; (try dsimp only at hSw); have s_b := SB.out; go_simp⟩) hS0 ?_
     try simp only [Act.put, List.setIfInBounds_toArray, List.set_cons_zero, List.set_cons_succ]
     generalize V9.drew = V0 at hS0 ⊢
     have hV0 := hS0
     clear hS0
     refine Zed.anyZ_ready (rs := [2, 11]) (by kernel_rfl) (by simp) ?_
     refine Zed.AllZ.cons (o := { dst := some 106, op := Go.Op.buildSlice 38 0 #[], type := 38, pos := "outright.go:132", after := #[], guard := none }) rfl (fun K2 hK => ?_) ?_
     ·go_simp
      refine hK.out _ _ (fun _ => hV0.trans ((below_alloc_ _ _).mono hV0.size)) (fun hV10 => ?_)
      have hV1 := hV10 (by decide)
      clear hK K2 hV10
      have hZ := heap_alloc_new_ V0 (.cells #[] 3)
      have hb := below_alloc_ V0 (.cells #[] 3)
      have HZ0 := Lib.hid (show V9.heap.size ≤ V0.heap.size from hV0.size)
      have HB := Lib.hid (show ∀ j, Value.ownBlock (.slice (some ⟨V0.heap.size, 0, none⟩) 0 0) = some j → V9.heap.size ≤ j from fun j e => by have h9 : V0.heap.size = j := Option.some.inj e; have := HZ0.out; omega)
      generalize V0.alloc (.cells #[] 3) = V1 at *
      obtain ⟨Z, hZe⟩ : ∃ Z, V0.heap.size = Z := ⟨_, rfl⟩
      rw [hZe] at hZ HZ0 HB ⊢
      clear hZe hb
      have hown := own_empty (size := 1) hZ
      clear hZ
      try simp only [Act.put, List.setIfInBounds_toArray, List.set_cons_zero, List.set_cons_succ]
      refine Zed.anyZ_ready (rs := [9, 11]) (by kernel_rfl) (by simp) ?_
      refine Zed.AllZ.cons (o := { dst := some 113, op := Go.Op.call { callee := Go.Callee.builtin Go.Builtin.append, args := #[Go.Operand.tmp 106, Go.Operand.tmp 112], argTypes := #[38, 38] }, type := 38, pos := "outright.go:132", after := #[{ on := 2, ground := Go.Ground.data }, { on := 8, ground := Go.Ground.data }], guard := none }) rfl (fun K2 hK => ?_) ?_
      ·obtain ⟨v1, V2, hrun, hown2, hKp, hon⟩ := app_ints (c2 := cA) (xs := []) hown (HIA.out.below hV1 (Nat.le_refl _)) (by omega)
       have hV2h := Lib.hid (show Below V9.heap.size V9 V2 from hV1.trans (hKp.below hV1.size (fun j hj e => by have := HB.out j e; omega)))
       have HB2 := Lib.hid (show ∀ j, Value.ownBlock v1 = some j → V9.heap.size ≤ j from fun j e => by rcases hon with h9 | h9 <;> rw [h9] at e <;> first | exact HB.out j e | (have h8 : V1.heap.size = j := Option.some.inj e; have := hV1.size; omega))
       clear HB hown hon hKp
       have HB := HB2
       have Hown := Lib.hid hown2
       clear HB2 hown2
       go_simp
       try rw [hrun]
       try go_simp
       have hown := Hown.out
       clear Hown
       refine hK.out _ _ (fun _ => hV2h.out) (fun hV20 => ?_)
       have hV2 := hV20 (by decide)
       clear hK K2 hV20
       clear hrun hV2h
       try simp only [Act.put, List.setIfInBounds_toArray, List.set_cons_zero, List.set_cons_succ]
       refine Zed.anyZ_ready (rs := [11]) (by kernel_rfl) (by simp) ?_
       refine Zed.AllZ.cons (o := { dst := some 115, op := Go.Op.buildSlice 38 1 #[(0, Go.Operand.tmp 114)], type := 38, pos := "outright.go:132", after := #[{ on := 10, ground := Go.Ground.data }], guard := none }) rfl (fun K2 hK => ?_) ?_
       ·go_simp
        refine hK.out _ _ (fun _ => hV2.trans ((below_alloc_ _ _).mono hV2.size)) (fun hV30 => ?_)
        have hV3 := hV30 (by decide)
        clear hK K2 hV30
        have hT := heap_alloc_new_ V2 (.cells #[.int .i64 ex] 3)
        have hb := below_alloc_ V2 (.cells #[.int .i64 ex] 3)
        have HOT := Lib.hid (show Value.ownBlock (v1) ≠ some V2.heap.size from fun e => by have := own_lt hown _ e; omega)
        replace hown := own_keep hown (Keeps.of_new (Mut := fun _ => False) hb) (fun _ _ e => e)
        have HT0 := Lib.hid (show V9.heap.size ≤ V2.heap.size from hV2.size)
        generalize V2.alloc (.cells #[.int .i64 ex] 3) = V3 at *
        obtain ⟨T, hTe⟩ : ∃ T, V2.heap.size = T := ⟨_, rfl⟩
        rw [hTe] at hT HT0 HOT ⊢
        clear hTe hb
        try simp only [Act.put, List.setIfInBounds_toArray, List.set_cons_zero, List.set_cons_succ]
        refine Zed.anyZ_ready (rs := [12]) (by kernel_rfl) (by simp) ?_
        refine Zed.AllZ.cons (o := { dst := some 116, op := Go.Op.call { callee := Go.Callee.builtin Go.Builtin.append, args := #[Go.Operand.tmp 113, Go.Operand.tmp 115], argTypes := #[38, 38] }, type := 38, pos := "outright.go:132", after := #[{ on := 9, ground := Go.Ground.data }, { on := 11, ground := Go.Ground.data }, { on := 9, ground := Go.Ground.chain }], guard := none }) rfl (fun K2 hK => ?_) ?_
        ·obtain ⟨v2, V4, hrun, hown2, hKp, hon⟩ := app_1 hown hT (by omega)
         have hV4h := Lib.hid (show Below V9.heap.size V9 V4 from hV3.trans (hKp.below hV3.size (fun j hj e => by have := HB.out j e; omega)))
         have HPT := Lib.hid (show Value.ownBlock v2 ≠ some T from by rcases hon with h9 | h9 <;> rw [h9] <;> first | exact HOT.out | (intro e; have h8 : V3.heap.size = T := Option.some.inj e; have := lt_of_block hT; omega))
         replace hT := (hKp.block _ (lt_of_block hT) HOT.out).trans hT
         clear HOT
         have HOT := HPT
         clear HPT
         have HB2 := Lib.hid (show ∀ j, Value.ownBlock v2 = some j → V9.heap.size ≤ j from fun j e => by rcases hon with h9 | h9 <;> rw [h9] at e <;> first | exact HB.out j e | (have h8 : V3.heap.size = j := Option.some.inj e; have := hV3.size; omega))
         clear HB hown hon hKp
         have HB := HB2
         have Hown := Lib.hid hown2
         clear HB2 hown2
         go_simp
         try rw [hrun]
         try go_simp
         have hown := Hown.out
         clear Hown
         refine hK.out _ _ (fun _ => hV4h.out) (fun hV40 => ?_)
         have hV4 := hV40 (by decide)
         clear hK K2 hV40
         clear hrun hV4h
         try simp only [Act.put, List.setIfInBounds_toArray, List.set_cons_zero, List.set_cons_succ]
         refine Zed.anyZ_ready (rs := [19]) (by kernel_rfl) (by simp) ?_
         refine Zed.AllZ.cons (o := { dst := some 123, op := Go.Op.call { callee := Go.Callee.builtin Go.Builtin.append, args := #[Go.Operand.tmp 116, Go.Operand.tmp 122], argTypes := #[38, 38] }, type := 38, pos := "outright.go:132", after := #[{ on := 12, ground := Go.Ground.data }, { on := 18, ground := Go.Ground.data }, { on := 12, ground := Go.Ground.chain }], guard := none }) rfl (fun K2 hK => ?_) ?_
         ·obtain ⟨v3, V5, hrun, hown2, hKp, hon⟩ := app_ints (c2 := cB) hown (HIB.out.below hV4 (Nat.le_refl _)) (by omega)
          have hV5h := Lib.hid (show Below V9.heap.size V9 V5 from hV4.trans (hKp.below hV4.size (fun j hj e => by have := HB.out j e; omega)))
          have HPT := Lib.hid (show Value.ownBlock v3 ≠ some T from by rcases hon with h9 | h9 <;> rw [h9] <;> first | exact HOT.out | (intro e; have h8 : V4.heap.size = T := Option.some.inj e; have := lt_of_block hT; omega))
          replace hT := (hKp.block _ (lt_of_block hT) HOT.out).trans hT
          clear HOT
          have HOT := HPT
          clear HPT
          have HB2 := Lib.hid (show ∀ j, Value.ownBlock v3 = some j → V9.heap.size ≤ j from fun j e => by rcases hon with h9 | h9 <;> rw [h9] at e <;> first | exact HB.out j e | (have h8 : V4.heap.size = j := Option.some.inj e; have := hV4.size; omega))
          clear HB hown hon hKp
          have HB := HB2
          have Hown := Lib.hid hown2
          clear HB2 hown2
          have hown9 := Hown.out
          clear Hown
          rw [List.nil_append, show 0 + ii + 1 + (ll - ii) = ll + 1 by omega] at hown9
          obtain ⟨C7, c7, rfl, hc7, hi7, hC7⟩ := ints_own (l := insW (lAt L hh) ii ex) (by rw [insW_len, Hll.out]) hown9
          have HR7 := Lib.hid hi7
          have HC7 := Lib.hid (show ∀ b o, C7 = some ⟨b, o, none⟩ → b ≠ g from fun b o e e2 => by have h1 := HB.out b (hC7 b o e).1; have h2 := lt_of_cell y0; omega)
          clear hi7 hC7 hown9
          go_simp
          try rw [hrun]
          try go_simp
          refine hK.out _ _ (fun _ => hV5h.out) (fun hV50 => ?_)
          have hV5 := hV50 (by decide)
          clear hK K2 hV50
          clear hrun hV5h
          try simp only [Act.put, List.setIfInBounds_toArray, List.set_cons_zero, List.set_cons_succ]
          refine Zed.anyZ_take (i := 20) (oi := { dst := some 124, op := Go.Op.indexAddr 25 (Go.Operand.tmp 104) (Go.Operand.tmp 105), type := 0, pos := "outright.go:132", after := #[{ on := 0, ground := Go.Ground.data }, { on := 1, ground := Go.Ground.data }, { on := 0, ground := Go.Ground.phase }, { on := 1, ground := Go.Ground.phase }, { on := 2, ground := Go.Ground.phase }, { on := 3, ground := Go.Ground.phase }, { on := 4, ground := Go.Ground.phase }, { on := 5, ground := Go.Ground.phase }, { on := 6, ground := Go.Ground.phase }, { on := 7, ground := Go.Ground.phase }, { on := 8, ground := Go.Ground.phase }, { on := 9, ground := Go.Ground.phase }, { on := 10, ground := Go.Ground.phase }, { on := 11, ground := Go.Ground.phase }, { on := 12, ground := Go.Ground.phase }, { on := 13, ground := Go.Ground.phase }, { on := 14, ground := Go.Ground.phase }, { on := 15, ground := Go.Ground.phase }, { on := 16, ground := Go.Ground.phase }, { on := 17, ground := Go.Ground.phase }, { on := 18, ground := Go.Ground.phase }, { on := 19, ground := Go.Ground.phase }], guard := none }) (v := .pointer (some ⟨g, hh, none⟩)) rfl (by decide) (by kernel_rfl) (by kernel_rfl) (by kernel_rfl) (by kernel_rfl) (fun _ _ _ h => h) (Or.inl ⟨by rfl, by intro w2 hSw; (try dsimp only at hSw);  go_simp⟩) hV5 ?_
          try simp only [Act.put, List.setIfInBounds_toArray, List.set_cons_zero, List.set_cons_succ]
          have f0 := (hV5.cell (p := ⟨g, hh, none⟩) (lt_of_cell y0)).trans y0
          have o8 := own_keep O1.out (Keeps.of_new (Mut := fun _ => False) hV5) (fun _ _ e => e)
          have fz := own_fz o8 hh
          have e7 : (insW (lAt L hh) ii ex).length = ll + 1 := by rw [insW_len, Hll.out]
          have hf := ins_done (hh := hh) (l := insW (lAt L hh) ii ex) (c3 := c7) (C3 := C7) Hlen.out Q1.out (HB9.out.trans (hV5.mono HB9.out.size)) HGS.out o8 (by rw [e7]; exact HR7.out) (by rw [e7]; exact hc7) HC7.out lh
          rw [e7] at hf
          have HF := Lib.hid hf
          clear o8 e7 hf y0
          refine Zed.anyZ_ready (rs := [21]) (by kernel_rfl) (by simp) ?_
          refine Zed.AllZ.cons (o := { dst := none, op := Go.Op.store 38 (Go.Operand.tmp 124) (Go.Operand.tmp 123), type := 0, pos := "outright.go:132", after := #[{ on := 20, ground := Go.Ground.data }, { on := 19, ground := Go.Ground.data }, { on := 19, ground := Go.Ground.chain }, { on := 0, ground := Go.Ground.phase }, { on := 1, ground := Go.Ground.phase }, { on := 2, ground := Go.Ground.phase }, { on := 3, ground := Go.Ground.phase }, { on := 4, ground := Go.Ground.phase }, { on := 5, ground := Go.Ground.phase }, { on := 6, ground := Go.Ground.phase }, { on := 7, ground := Go.Ground.phase }, { on := 8, ground := Go.Ground.phase }, { on := 9, ground := Go.Ground.phase }, { on := 10, ground := Go.Ground.phase }, { on := 11, ground := Go.Ground.phase }, { on := 12, ground := Go.Ground.phase }, { on := 13, ground := Go.Ground.phase }, { on := 14, ground := Go.Ground.phase }, { on := 15, ground := Go.Ground.phase }, { on := 16, ground := Go.Ground.phase }, { on := 17, ground := Go.Ground.phase }, { on := 18, ground := Go.Ground.phase }, { on := 19, ground := Go.Ground.phase }], guard := none }) rfl (fun K2 hK => ?_) Zed.AllZ.nil
          go_simp
          refine hK.out _ _ (fun h => absurd rfl h) (fun _ => ?_)
          clear hK K2
          try simp only [Act.put, List.setIfInBounds_toArray, List.set_cons_zero, List.set_cons_succ]
          refine Zed.anyZ_done (by kernel_rfl) ?_ _
          clear f0 fz
          go_wp2_with fail
          go_meet
          case rel => exact HF.out
         exact Zed.AllZ.nil
        exact Zed.AllZ.nil
       exact Zed.AllZ.nil
      refine Zed.AllZ.cons (o := { dst := some 115, op := Go.Op.buildSlice 38 1 #[(0, Go.Operand.tmp 114)], type := 38, pos := "outright.go:132", after := #[{ on := 10, ground := Go.Ground.data }], guard := none }) rfl (fun K2 hK => ?_) ?_
      ·go_simp
       refine hK.out _ _ (fun _ => hV1.trans ((below_alloc_ _ _).mono hV1.size)) (fun hV20 => ?_)
       have hV2 := hV20 (by decide)
       clear hK K2 hV20
       have hT := heap_alloc_new_ V1 (.cells #[.int .i64 ex] 3)
       have hb := below_alloc_ V1 (.cells #[.int .i64 ex] 3)
       have HOT := Lib.hid (show Value.ownBlock (.slice (some ⟨Z, 0, none⟩) 0 0) ≠ some V1.heap.size from fun e => by have := own_lt hown _ e; omega)
       replace hown := own_keep hown (Keeps.of_new (Mut := fun _ => False) hb) (fun _ _ e => e)
       have HT0 := Lib.hid (show V9.heap.size ≤ V1.heap.size from hV1.size)
       generalize V1.alloc (.cells #[.int .i64 ex] 3) = V2 at *
       obtain ⟨T, hTe⟩ : ∃ T, V1.heap.size = T := ⟨_, rfl⟩
       rw [hTe] at hT HT0 HOT ⊢
       clear hTe hb
       try simp only [Act.put, List.setIfInBounds_toArray, List.set_cons_zero, List.set_cons_succ]
       refine Zed.anyZ_ready (rs := [9]) (by kernel_rfl) (by simp) ?_
       refine Zed.AllZ.cons (o := { dst := some 113, op := Go.Op.call { callee := Go.Callee.builtin Go.Builtin.append, args := #[Go.Operand.tmp 106, Go.Operand.tmp 112], argTypes := #[38, 38] }, type := 38, pos := "outright.go:132", after := #[{ on := 2, ground := Go.Ground.data }, { on := 8, ground := Go.Ground.data }], guard := none }) rfl (fun K2 hK => ?_) ?_
       ·obtain ⟨v1, V3, hrun, hown2, hKp, hon⟩ := app_ints (c2 := cA) (xs := []) hown (HIA.out.below hV2 (Nat.le_refl _)) (by omega)
        have hV3h := Lib.hid (show Below V9.heap.size V9 V3 from hV2.trans (hKp.below hV2.size (fun j hj e => by have := HB.out j e; omega)))
        have HPT := Lib.hid (show Value.ownBlock v1 ≠ some T from by rcases hon with h9 | h9 <;> rw [h9] <;> first | exact HOT.out | (intro e; have h8 : V2.heap.size = T := Option.some.inj e; have := lt_of_block hT; omega))
        replace hT := (hKp.block _ (lt_of_block hT) HOT.out).trans hT
        clear HOT
        have HOT := HPT
        clear HPT
        have HB2 := Lib.hid (show ∀ j, Value.ownBlock v1 = some j → V9.heap.size ≤ j from fun j e => by rcases hon with h9 | h9 <;> rw [h9] at e <;> first | exact HB.out j e | (have h8 : V2.heap.size = j := Option.some.inj e; have := hV2.size; omega))
        clear HB hown hon hKp
        have HB := HB2
        have Hown := Lib.hid hown2
        clear HB2 hown2
        go_simp
        try rw [hrun]
        try go_simp
        have hown := Hown.out
        clear Hown
        refine hK.out _ _ (fun _ => hV3h.out) (fun hV30 => ?_)
        have hV3 := hV30 (by decide)
        clear hK K2 hV30
        clear hrun hV3h
        try simp only [Act.put, List.setIfInBounds_toArray, List.set_cons_zero, List.set_cons_succ]
        refine Zed.anyZ_ready (rs := [12]) (by kernel_rfl) (by simp) ?_
        refine Zed.AllZ.cons (o := { dst := some 116, op := Go.Op.call { callee := Go.Callee.builtin Go.Builtin.append, args := #[Go.Operand.tmp 113, Go.Operand.tmp 115], argTypes := #[38, 38] }, type := 38, pos := "outright.go:132", after := #[{ on := 9, ground := Go.Ground.data }, { on := 11, ground := Go.Ground.data }, { on := 9, ground := Go.Ground.chain }], guard := none }) rfl (fun K2 hK => ?_) ?_
        ·obtain ⟨v2, V4, hrun, hown2, hKp, hon⟩ := app_1 hown hT (by omega)
         have hV4h := Lib.hid (show Below V9.heap.size V9 V4 from hV3.trans (hKp.below hV3.size (fun j hj e => by have := HB.out j e; omega)))
         have HPT := Lib.hid (show Value.ownBlock v2 ≠ some T from by rcases hon with h9 | h9 <;> rw [h9] <;> first | exact HOT.out | (intro e; have h8 : V3.heap.size = T := Option.some.inj e; have := lt_of_block hT; omega))
         replace hT := (hKp.block _ (lt_of_block hT) HOT.out).trans hT
         clear HOT
         have HOT := HPT
         clear HPT
         have HB2 := Lib.hid (show ∀ j, Value.ownBlock v2 = some j → V9.heap.size ≤ j from fun j e => by rcases hon with h9 | h9 <;> rw [h9] at e <;> first | exact HB.out j e | (have h8 : V3.heap.size = j := Option.some.inj e; have := hV3.size; omega))
         clear HB hown hon hKp
         have HB := HB2
         have Hown := Lib.hid hown2
         clear HB2 hown2
         go_simp
         try rw [hrun]
         try go_simp
         have hown := Hown.out
         clear Hown
         refine hK.out _ _ (fun _ => hV4h.out) (fun hV40 => ?_)
         have hV4 := hV40 (by decide)
         clear hK K2 hV40
         clear hrun hV4h
         try simp only [Act.put, List.setIfInBounds_toArray, List.set_cons_zero, List.set_cons_succ]
         refine Zed.anyZ_ready (rs := [19]) (by kernel_rfl) (by simp) ?_
         refine Zed.AllZ.cons (o := { dst := some 123, op := Go.Op.call { callee := Go.Callee.builtin Go.Builtin.append, args := #[Go.Operand.tmp 116, Go.Operand.tmp 122], argTypes := #[38, 38] }, type := 38, pos := "outright.go:132", after := #[{ on := 12, ground := Go.Ground.data }, { on := 18, ground := Go.Ground.data }, { on := 12, ground := Go.Ground.chain }], guard := none }) rfl (fun K2 hK => ?_) ?_
         ·obtain ⟨v3, V5, hrun, hown2, hKp, hon⟩ := app_ints (c2 := cB) hown (HIB.out.below hV4 (Nat.le_refl _)) (by omega)
          have hV5h := Lib.hid (show Below V9.heap.size V9 V5 from hV4.trans (hKp.below hV4.size (fun j hj e => by have := HB.out j e; omega)))
          have HPT := Lib.hid (show Value.ownBlock v3 ≠ some T from by rcases hon with h9 | h9 <;> rw [h9] <;> first | exact HOT.out | (intro e; have h8 : V4.heap.size = T := Option.some.inj e; have := lt_of_block hT; omega))
          replace hT := (hKp.block _ (lt_of_block hT) HOT.out).trans hT
          clear HOT
          have HOT := HPT
          clear HPT
          have HB2 := Lib.hid (show ∀ j, Value.ownBlock v3 = some j → V9.heap.size ≤ j from fun j e => by rcases hon with h9 | h9 <;> rw [h9] at e <;> first | exact HB.out j e | (have h8 : V4.heap.size = j := Option.some.inj e; have := hV4.size; omega))
          clear HB hown hon hKp
          have HB := HB2
          have Hown := Lib.hid hown2
          clear HB2 hown2
          have hown9 := Hown.out
          clear Hown
          rw [List.nil_append, show 0 + ii + 1 + (ll - ii) = ll + 1 by omega] at hown9
          obtain ⟨C7, c7, rfl, hc7, hi7, hC7⟩ := ints_own (l := insW (lAt L hh) ii ex) (by rw [insW_len, Hll.out]) hown9
          have HR7 := Lib.hid hi7
          have HC7 := Lib.hid (show ∀ b o, C7 = some ⟨b, o, none⟩ → b ≠ g from fun b o e e2 => by have h1 := HB.out b (hC7 b o e).1; have h2 := lt_of_cell y0; omega)
          clear hi7 hC7 hown9
          go_simp
          try rw [hrun]
          try go_simp
          refine hK.out _ _ (fun _ => hV5h.out) (fun hV50 => ?_)
          have hV5 := hV50 (by decide)
          clear hK K2 hV50
          clear hrun hV5h
          try simp only [Act.put, List.setIfInBounds_toArray, List.set_cons_zero, List.set_cons_succ]
          refine Zed.anyZ_take (i := 20) (oi := { dst := some 124, op := Go.Op.indexAddr 25 (Go.Operand.tmp 104) (Go.Operand.tmp 105), type := 0, pos := "outright.go:132", after := #[{ on := 0, ground := Go.Ground.data }, { on := 1, ground := Go.Ground.data }, { on := 0, ground := Go.Ground.phase }, { on := 1, ground := Go.Ground.phase }, { on := 2, ground := Go.Ground.phase }, { on := 3, ground := Go.Ground.phase }, { on := 4, ground := Go.Ground.phase }, { on := 5, ground := Go.Ground.phase }, { on := 6, ground := Go.Ground.phase }, { on := 7, ground := Go.Ground.phase }, { on := 8, ground := Go.Ground.phase }, { on := 9, ground := Go.Ground.phase }, { on := 10, ground := Go.Ground.phase }, { on := 11, ground := Go.Ground.phase }, { on := 12, ground := Go.Ground.phase }, { on := 13, ground := Go.Ground.phase }, { on := 14, ground := Go.Ground.phase }, { on := 15, ground := Go.Ground.phase }, { on := 16, ground := Go.Ground.phase }, { on := 17, ground := Go.Ground.phase }, { on := 18, ground := Go.Ground.phase }, { on := 19, ground := Go.Ground.phase }], guard := none }) (v := .pointer (some ⟨g, hh, none⟩)) rfl (by decide) (by kernel_rfl) (by kernel_rfl) (by kernel_rfl) (by kernel_rfl) (fun _ _ _ h => h) (Or.inl ⟨by rfl, by intro w2 hSw; (try dsimp only at hSw);  go_simp⟩) hV5 ?_
          try simp only [Act.put, List.setIfInBounds_toArray, List.set_cons_zero, List.set_cons_succ]
          have f0 := (hV5.cell (p := ⟨g, hh, none⟩) (lt_of_cell y0)).trans y0
          have o8 := own_keep O1.out (Keeps.of_new (Mut := fun _ => False) hV5) (fun _ _ e => e)
          have fz := own_fz o8 hh
          have e7 : (insW (lAt L hh) ii ex).length = ll + 1 := by rw [insW_len, Hll.out]
          have hf := ins_done (hh := hh) (l := insW (lAt L hh) ii ex) (c3 := c7) (C3 := C7) Hlen.out Q1.out (HB9.out.trans (hV5.mono HB9.out.size)) HGS.out o8 (by rw [e7]; exact HR7.out) (by rw [e7]; exact hc7) HC7.out lh
          rw [e7] at hf
          have HF := Lib.hid hf
          clear o8 e7 hf y0
          refine Zed.anyZ_ready (rs := [21]) (by kernel_rfl) (by simp) ?_
          refine Zed.AllZ.cons (o := { dst := none, op := Go.Op.store 38 (Go.Operand.tmp 124) (Go.Operand.tmp 123), type := 0, pos := "outright.go:132", after := #[{ on := 20, ground := Go.Ground.data }, { on := 19, ground := Go.Ground.data }, { on := 19, ground := Go.Ground.chain }, { on := 0, ground := Go.Ground.phase }, { on := 1, ground := Go.Ground.phase }, { on := 2, ground := Go.Ground.phase }, { on := 3, ground := Go.Ground.phase }, { on := 4, ground := Go.Ground.phase }, { on := 5, ground := Go.Ground.phase }, { on := 6, ground := Go.Ground.phase }, { on := 7, ground := Go.Ground.phase }, { on := 8, ground := Go.Ground.phase }, { on := 9, ground := Go.Ground.phase }, { on := 10, ground := Go.Ground.phase }, { on := 11, ground := Go.Ground.phase }, { on := 12, ground := Go.Ground.phase }, { on := 13, ground := Go.Ground.phase }, { on := 14, ground := Go.Ground.phase }, { on := 15, ground := Go.Ground.phase }, { on := 16, ground := Go.Ground.phase }, { on := 17, ground := Go.Ground.phase }, { on := 18, ground := Go.Ground.phase }, { on := 19, ground := Go.Ground.phase }], guard := none }) rfl (fun K2 hK => ?_) Zed.AllZ.nil
          go_simp
          refine hK.out _ _ (fun h => absurd rfl h) (fun _ => ?_)
          clear hK K2
          try simp only [Act.put, List.setIfInBounds_toArray, List.set_cons_zero, List.set_cons_succ]
          refine Zed.anyZ_done (by kernel_rfl) ?_ _
          clear f0 fz
          go_wp2_with fail
          go_meet
          case rel => exact HF.out
         exact Zed.AllZ.nil
        exact Zed.AllZ.nil
       exact Zed.AllZ.nil
      exact Zed.AllZ.nil
     refine Zed.AllZ.cons (o := { dst := some 115, op := Go.Op.buildSlice 38 1 #[(0, Go.Operand.tmp 114)], type := 38, pos := "outright.go:132", after := #[{ on := 10, ground := Go.Ground.data }], guard := none }) rfl (fun K2 hK => ?_) ?_
     ·go_simp
      refine hK.out _ _ (fun _ => hV0.trans ((below_alloc_ _ _).mono hV0.size)) (fun hV10 => ?_)
      have hV1 := hV10 (by decide)
      clear hK K2 hV10
      have hT := heap_alloc_new_ V0 (.cells #[.int .i64 ex] 3)
      have hb := below_alloc_ V0 (.cells #[.int .i64 ex] 3)
      have HT0 := Lib.hid (show V9.heap.size ≤ V0.heap.size from hV0.size)
      generalize V0.alloc (.cells #[.int .i64 ex] 3) = V1 at *
      obtain ⟨T, hTe⟩ : ∃ T, V0.heap.size = T := ⟨_, rfl⟩
      rw [hTe] at hT HT0 ⊢
      clear hTe hb
      try simp only [Act.put, List.setIfInBounds_toArray, List.set_cons_zero, List.set_cons_succ]
      refine Zed.anyZ_ready (rs := [2]) (by kernel_rfl) (by simp) ?_
      refine Zed.AllZ.cons (o := { dst := some 106, op := Go.Op.buildSlice 38 0 #[], type := 38, pos := "outright.go:132", after := #[], guard := none }) rfl (fun K2 hK => ?_) ?_
      ·go_simp
       refine hK.out _ _ (fun _ => hV1.trans ((below_alloc_ _ _).mono hV1.size)) (fun hV20 => ?_)
       have hV2 := hV20 (by decide)
       clear hK K2 hV20
       have hZ := heap_alloc_new_ V1 (.cells #[] 3)
       have hb := below_alloc_ V1 (.cells #[] 3)
       have HNTZ := Lib.hid (show T ≠ V1.heap.size from by have := lt_of_block hT; omega)
       replace hT := (hb.block _ (lt_of_block hT)).trans hT
       have HZ0 := Lib.hid (show V9.heap.size ≤ V1.heap.size from hV1.size)
       have HOT := Lib.hid (show Value.ownBlock (.slice (some ⟨V1.heap.size, 0, none⟩) 0 0) ≠ some T from fun e => by have h9 : V1.heap.size = T := Option.some.inj e; exact HNTZ.out h9.symm)
       have HB := Lib.hid (show ∀ j, Value.ownBlock (.slice (some ⟨V1.heap.size, 0, none⟩) 0 0) = some j → V9.heap.size ≤ j from fun j e => by have h9 : V1.heap.size = j := Option.some.inj e; have := HZ0.out; omega)
       generalize V1.alloc (.cells #[] 3) = V2 at *
       obtain ⟨Z, hZe⟩ : ∃ Z, V1.heap.size = Z := ⟨_, rfl⟩
       rw [hZe] at hZ HZ0 HNTZ HOT HB ⊢
       clear hZe hb
       have hown := own_empty (size := 1) hZ
       clear hZ
       try simp only [Act.put, List.setIfInBounds_toArray, List.set_cons_zero, List.set_cons_succ]
       refine Zed.anyZ_ready (rs := [9]) (by kernel_rfl) (by simp) ?_
       refine Zed.AllZ.cons (o := { dst := some 113, op := Go.Op.call { callee := Go.Callee.builtin Go.Builtin.append, args := #[Go.Operand.tmp 106, Go.Operand.tmp 112], argTypes := #[38, 38] }, type := 38, pos := "outright.go:132", after := #[{ on := 2, ground := Go.Ground.data }, { on := 8, ground := Go.Ground.data }], guard := none }) rfl (fun K2 hK => ?_) ?_
       ·obtain ⟨v1, V3, hrun, hown2, hKp, hon⟩ := app_ints (c2 := cA) (xs := []) hown (HIA.out.below hV2 (Nat.le_refl _)) (by omega)
        have hV3h := Lib.hid (show Below V9.heap.size V9 V3 from hV2.trans (hKp.below hV2.size (fun j hj e => by have := HB.out j e; omega)))
        have HPT := Lib.hid (show Value.ownBlock v1 ≠ some T from by rcases hon with h9 | h9 <;> rw [h9] <;> first | exact HOT.out | (intro e; have h8 : V2.heap.size = T := Option.some.inj e; have := lt_of_block hT; omega))
        replace hT := (hKp.block _ (lt_of_block hT) HOT.out).trans hT
        clear HOT
        have HOT := HPT
        clear HPT
        have HB2 := Lib.hid (show ∀ j, Value.ownBlock v1 = some j → V9.heap.size ≤ j from fun j e => by rcases hon with h9 | h9 <;> rw [h9] at e <;> first | exact HB.out j e | (have h8 : V2.heap.size = j := Option.some.inj e; have := hV2.size; omega))
        clear HB hown hon hKp
        have HB := HB2
        have Hown := Lib.hid hown2
        clear HB2 hown2
        go_simp
        try rw [hrun]
        try go_simp
        have hown := Hown.out
        clear Hown
        refine hK.out _ _ (fun _ => hV3h.out) (fun hV30 => ?_)
        have hV3 := hV30 (by decide)
        clear hK K2 hV30
        clear hrun hV3h
        try simp only [Act.put, List.setIfInBounds_toArray, List.set_cons_zero, List.set_cons_succ]
        refine Zed.anyZ_ready (rs := [12]) (by kernel_rfl) (by simp) ?_
        refine Zed.AllZ.cons (o := { dst := some 116, op := Go.Op.call { callee := Go.Callee.builtin Go.Builtin.append, args := #[Go.Operand.tmp 113, Go.Operand.tmp 115], argTypes := #[38, 38] }, type := 38, pos := "outright.go:132", after := #[{ on := 9, ground := Go.Ground.data }, { on := 11, ground := Go.Ground.data }, { on := 9, ground := Go.Ground.chain }], guard := none }) rfl (fun K2 hK => ?_) ?_
        ·obtain ⟨v2, V4, hrun, hown2, hKp, hon⟩ := app_1 hown hT (by omega)
         have hV4h := Lib.hid (show Below V9.heap.size V9 V4 from hV3.trans (hKp.below hV3.size (fun j hj e => by have := HB.out j e; omega)))
         have HPT := Lib.hid (show Value.ownBlock v2 ≠ some T from by rcases hon with h9 | h9 <;> rw [h9] <;> first | exact HOT.out | (intro e; have h8 : V3.heap.size = T := Option.some.inj e; have := lt_of_block hT; omega))
         replace hT := (hKp.block _ (lt_of_block hT) HOT.out).trans hT
         clear HOT
         have HOT := HPT
         clear HPT
         have HB2 := Lib.hid (show ∀ j, Value.ownBlock v2 = some j → V9.heap.size ≤ j from fun j e => by rcases hon with h9 | h9 <;> rw [h9] at e <;> first | exact HB.out j e | (have h8 : V3.heap.size = j := Option.some.inj e; have := hV3.size; omega))
         clear HB hown hon hKp
         have HB := HB2
         have Hown := Lib.hid hown2
         clear HB2 hown2
         go_simp
         try rw [hrun]
         try go_simp
         have hown := Hown.out
         clear Hown
         refine hK.out _ _ (fun _ => hV4h.out) (fun hV40 => ?_)
         have hV4 := hV40 (by decide)
         clear hK K2 hV40
         clear hrun hV4h
         try simp only [Act.put, List.setIfInBounds_toArray, List.set_cons_zero, List.set_cons_succ]
         refine Zed.anyZ_ready (rs := [19]) (by kernel_rfl) (by simp) ?_
         refine Zed.AllZ.cons (o := { dst := some 123, op := Go.Op.call { callee := Go.Callee.builtin Go.Builtin.append, args := #[Go.Operand.tmp 116, Go.Operand.tmp 122], argTypes := #[38, 38] }, type := 38, pos := "outright.go:132", after := #[{ on := 12, ground := Go.Ground.data }, { on := 18, ground := Go.Ground.data }, { on := 12, ground := Go.Ground.chain }], guard := none }) rfl (fun K2 hK => ?_) ?_
         ·obtain ⟨v3, V5, hrun, hown2, hKp, hon⟩ := app_ints (c2 := cB) hown (HIB.out.below hV4 (Nat.le_refl _)) (by omega)
          have hV5h := Lib.hid (show Below V9.heap.size V9 V5 from hV4.trans (hKp.below hV4.size (fun j hj e => by have := HB.out j e; omega)))
          have HPT := Lib.hid (show Value.ownBlock v3 ≠ some T from by rcases hon with h9 | h9 <;> rw [h9] <;> first | exact HOT.out | (intro e; have h8 : V4.heap.size = T := Option.some.inj e; have := lt_of_block hT; omega))
          replace hT := (hKp.block _ (lt_of_block hT) HOT.out).trans hT
          clear HOT
          have HOT := HPT
          clear HPT
          have HB2 := Lib.hid (show ∀ j, Value.ownBlock v3 = some j → V9.heap.size ≤ j from fun j e => by rcases hon with h9 | h9 <;> rw [h9] at e <;> first | exact HB.out j e | (have h8 : V4.heap.size = j := Option.some.inj e; have := hV4.size; omega))
          clear HB hown hon hKp
          have HB := HB2
          have Hown := Lib.hid hown2
          clear HB2 hown2
          have hown9 := Hown.out
          clear Hown
          rw [List.nil_append, show 0 + ii + 1 + (ll - ii) = ll + 1 by omega] at hown9
          obtain ⟨C7, c7, rfl, hc7, hi7, hC7⟩ := ints_own (l := insW (lAt L hh) ii ex) (by rw [insW_len, Hll.out]) hown9
          have HR7 := Lib.hid hi7
          have HC7 := Lib.hid (show ∀ b o, C7 = some ⟨b, o, none⟩ → b ≠ g from fun b o e e2 => by have h1 := HB.out b (hC7 b o e).1; have h2 := lt_of_cell y0; omega)
          clear hi7 hC7 hown9
          go_simp
          try rw [hrun]
          try go_simp
          refine hK.out _ _ (fun _ => hV5h.out) (fun hV50 => ?_)
          have hV5 := hV50 (by decide)
          clear hK K2 hV50
          clear hrun hV5h
          try simp only [Act.put, List.setIfInBounds_toArray, List.set_cons_zero, List.set_cons_succ]
          refine Zed.anyZ_take (i := 20) (oi := { dst := some 124, op := Go.Op.indexAddr 25 (Go.Operand.tmp 104) (Go.Operand.tmp 105), type := 0, pos := "outright.go:132", after := #[{ on := 0, ground := Go.Ground.data }, { on := 1, ground := Go.Ground.data }, { on := 0, ground := Go.Ground.phase }, { on := 1, ground := Go.Ground.phase }, { on := 2, ground := Go.Ground.phase }, { on := 3, ground := Go.Ground.phase }, { on := 4, ground := Go.Ground.phase }, { on := 5, ground := Go.Ground.phase }, { on := 6, ground := Go.Ground.phase }, { on := 7, ground := Go.Ground.phase }, { on := 8, ground := Go.Ground.phase }, { on := 9, ground := Go.Ground.phase }, { on := 10, ground := Go.Ground.phase }, { on := 11, ground := Go.Ground.phase }, { on := 12, ground := Go.Ground.phase }, { on := 13, ground := Go.Ground.phase }, { on := 14, ground := Go.Ground.phase }, { on := 15, ground := Go.Ground.phase }, { on := 16, ground := Go.Ground.phase }, { on := 17, ground := Go.Ground.phase }, { on := 18, ground := Go.Ground.phase }, { on := 19, ground := Go.Ground.phase }], guard := none }) (v := .pointer (some ⟨g, hh, none⟩)) rfl (by decide) (by kernel_rfl) (by kernel_rfl) (by kernel_rfl) (by kernel_rfl) (fun _ _ _ h => h) (Or.inl ⟨by rfl, by intro w2 hSw; (try dsimp only at hSw);  go_simp⟩) hV5 ?_
          try simp only [Act.put, List.setIfInBounds_toArray, List.set_cons_zero, List.set_cons_succ]
          have f0 := (hV5.cell (p := ⟨g, hh, none⟩) (lt_of_cell y0)).trans y0
          have o8 := own_keep O1.out (Keeps.of_new (Mut := fun _ => False) hV5) (fun _ _ e => e)
          have fz := own_fz o8 hh
          have e7 : (insW (lAt L hh) ii ex).length = ll + 1 := by rw [insW_len, Hll.out]
          have hf := ins_done (hh := hh) (l := insW (lAt L hh) ii ex) (c3 := c7) (C3 := C7) Hlen.out Q1.out (HB9.out.trans (hV5.mono HB9.out.size)) HGS.out o8 (by rw [e7]; exact HR7.out) (by rw [e7]; exact hc7) HC7.out lh
          rw [e7] at hf
          have HF := Lib.hid hf
          clear o8 e7 hf y0
          refine Zed.anyZ_ready (rs := [21]) (by kernel_rfl) (by simp) ?_
          refine Zed.AllZ.cons (o := { dst := none, op := Go.Op.store 38 (Go.Operand.tmp 124) (Go.Operand.tmp 123), type := 0, pos := "outright.go:132", after := #[{ on := 20, ground := Go.Ground.data }, { on := 19, ground := Go.Ground.data }, { on := 19, ground := Go.Ground.chain }, { on := 0, ground := Go.Ground.phase }, { on := 1, ground := Go.Ground.phase }, { on := 2, ground := Go.Ground.phase }, { on := 3, ground := Go.Ground.phase }, { on := 4, ground := Go.Ground.phase }, { on := 5, ground := Go.Ground.phase }, { on := 6, ground := Go.Ground.phase }, { on := 7, ground := Go.Ground.phase }, { on := 8, ground := Go.Ground.phase }, { on := 9, ground := Go.Ground.phase }, { on := 10, ground := Go.Ground.phase }, { on := 11, ground := Go.Ground.phase }, { on := 12, ground := Go.Ground.phase }, { on := 13, ground := Go.Ground.phase }, { on := 14, ground := Go.Ground.phase }, { on := 15, ground := Go.Ground.phase }, { on := 16, ground := Go.Ground.phase }, { on := 17, ground := Go.Ground.phase }, { on := 18, ground := Go.Ground.phase }, { on := 19, ground := Go.Ground.phase }], guard := none }) rfl (fun K2 hK => ?_) Zed.AllZ.nil
          go_simp
          refine hK.out _ _ (fun h => absurd rfl h) (fun _ => ?_)
          clear hK K2
          try simp only [Act.put, List.setIfInBounds_toArray, List.set_cons_zero, List.set_cons_succ]
          refine Zed.anyZ_done (by kernel_rfl) ?_ _
          clear f0 fz
          go_wp2_with fail
          go_meet
          case rel => exact HF.out
         exact Zed.AllZ.nil
        exact Zed.AllZ.nil
       exact Zed.AllZ.nil
      exact Zed.AllZ.nil
     exact Zed.AllZ.nil
    case rest =>
     obtain ⟨hx3, hb⟩ := hcut
     obtain ⟨w9, rfl⟩ : ∃ w9, w9 = wc := ⟨_, rfl⟩
     try clear y0
     replace S := Lib.hid (S.out.below hb (Nat.le_refl _))
     replace X := Lib.hid (X.out.below hb (Nat.le_refl _))
     replace Y := Lib.hid (Y.out.below hb (Nat.le_refl _))
     replace B := Lib.hid (B.out.trans (hb.mono B.out.size))
     replace hrow := Lib.hid ((hb.block R (lt_of_block hrow.out)).trans hrow.out)
     replace hrow1 := Lib.hid ((hb.block (R + 1) (lt_of_block hrow1.out)).trans hrow1.out)
     clear hb
     try clear rc
     have P3 := Lib.hid hx3
     clear hx3
     have rc : w9.cell? ⟨R, 0, none⟩ = some (.slice A n cap) := by rw [cell_row hrow.out]; rfl
     go_wp2_with fail
     refine (fine40 A n cap zs (some ⟨g, 0, none⟩) m cp (insL L hh ii ex) w9 S.out P3.out).mono ?_
     rintro en w10 ⟨rfl, hb⟩
     replace S := Lib.hid (S.out.below hb (Nat.le_refl _))
     replace X := Lib.hid (X.out.below hb (Nat.le_refl _))
     replace Y := Lib.hid (Y.out.below hb (Nat.le_refl _))
     replace P3 := Lib.hid (P3.out.below hb (Nat.le_refl _))
     replace B := Lib.hid (B.out.trans (hb.mono B.out.size))
     replace hrow := Lib.hid ((hb.block R (lt_of_block hrow.out)).trans hrow.out)
     replace hrow1 := Lib.hid ((hb.block (R + 1) (lt_of_block hrow1.out)).trans hrow1.out)
     clear hb rc
     have rc : w10.cell? ⟨R, 0, none⟩ = some (.slice A n cap) := by rw [cell_row hrow.out]; rfl
     obtain ⟨fn, hfn⟩ : ∃ fn, fnB n zs (insL L hh ii ex) = fn := ⟨_, rfl⟩
     rw [hfn]
     go_upto_if 127 with fail
     go_cut [26, 27] from 125 to 140 (fun u1 u2 wx => Below w10.heap.size w10 wx)
     case first =>
      cases fn
      ·clear hfn
       go_wp2_with fail
       go_meet
       case rel => exact Below.refl _ _
      have hck2 := fnB_ok hfn
      clear hfn
      have htop := top_word (nm := cls (prs zs)) (i := ii) (x0 := ex) HLV.out lh (by rw [Hll.out]; exact li) (lv_of (by unfold insL; rw [List.length_set]; exact Hlen.out) hck2)
      rw [HK.out] at htop
      go_wp2_with fail
      refine (long44 A n cap zs (some ⟨g, 0, none⟩) m cp (insL L hh ii ex) w10 S.out P3.out hck2).mono ?_
      rintro en wg ⟨rfl, hb⟩
      have HBf := Lib.hid hb
      clear hb rc
      obtain ⟨K2, hK2⟩ : ∃ K2, topK (cls (prs zs)) (insL L hh ii ex) m = K2 := ⟨_, rfl⟩
      rw [hK2] at htop ⊢
      clear hK2
      have dk : ¬ ((K2 : Int) < (K : Int)) := by omega
      clear htop hck2
      go_wp2_with fail
      go_meet
      case rel => exact HBf.out
     case rest =>
      obtain ⟨w11, rfl⟩ : ∃ w11, w11 = wc := ⟨_, rfl⟩
      have hb := hcut
      clear hcut
      replace S := Lib.hid (S.out.below hb (Nat.le_refl _))
      replace X := Lib.hid (X.out.below hb (Nat.le_refl _))
      replace Y := Lib.hid (Y.out.below hb (Nat.le_refl _))
      replace P3 := Lib.hid (P3.out.below hb (Nat.le_refl _))
      replace B := Lib.hid (B.out.trans (hb.mono B.out.size))
      replace hrow := Lib.hid ((hb.block R (lt_of_block hrow.out)).trans hrow.out)
      replace hrow1 := Lib.hid ((hb.block (R + 1) (lt_of_block hrow1.out)).trans hrow1.out)
      clear hb rc
      have rc : w11.cell? ⟨R, 0, none⟩ = some (.slice A n cap) := by rw [cell_row hrow.out]; rfl
      go_wp2_with fail
      try clear rc
      refine (works14 w11).mono ?_
      rintro en w12 ⟨rfl, hb⟩
      replace B := Lib.hid (B.out.trans (hb.mono B.out.size))
      clear hb
      go_wp2_with fail
      go_ret
      exact ⟨rfl, B.out⟩
end
end Go.Proofs.Ythdjbapidodlfaa
