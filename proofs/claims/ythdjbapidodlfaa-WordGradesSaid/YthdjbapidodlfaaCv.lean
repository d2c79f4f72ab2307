/- Stage 4: the bound of levels, and how many longest passages there are, in the program. -/
import Derived.Test.YthdjbapidodlfaaRg
namespace Go.Proofs.Ythdjbapidodlfaa
set_option linter.unusedSimpArgs false
set_option linter.unusedVariables false
open Go.RowKit Go.Shelf
attribute [local go_sem ↓] exec_app at_app
attribute [local go_sem] Oper.semAt_some

/-- The greatest of the first k numbers, and 0. -/
def mxK (gs : List Int) (k : Nat) : Int := (List.range k).foldl (fun a i => max a (iAt gs i)) 0
theorem mxK_succ (gs : List Int) (k : Nat) : mxK gs (k + 1) = max (mxK gs k) (iAt gs k) := by simp [mxK, List.range_succ, List.foldl_append]
set_option maxRecDepth 100000 in
set_option maxHeartbeats 8000000 in
theorem greatest62 (A : Option Addr) (n c : Nat) (gs : List Int) (w : World) (h : Ints w A n gs) (hn : n ≤ 100000) :
    Calls Try.prog 62 #[.slice A n c] w fun e w' => e = .returned (.int .i64 (mxK gs n)) ∧ Below w.heap.size w w' := by
  have HA := Lib.hid h
  clear h
  go_enter Try.func62, Try.ntmps62
  go_wp2_with fail
  go_loopw [3, 5, 8] (fun a x i wr => ∃ k : Nat, k ≤ n ∧ i = .int .i64 (k : Int) ∧ a = .int .i64 (mxK gs k) ∧ Below w.heap.size w wr) (fun a x i _ => n - (intOf i).toNat)
  case atStart => exact ⟨0, Nat.zero_le _, rfl, rfl, Below.refl _ _⟩
  case round =>
    obtain ⟨k, hk, rfl, rfl, hb⟩ := hrel
    by_cases hlt : k < n
    · obtain ⟨ab, ao, rfl, ac⟩ := HA.out.2 (by omega)
      have x0 := (hb.cell (p := ⟨ab, ao + k, none⟩) (lt_of_cell (ac k hlt))).trans (ac k hlt)
      have Hs := Lib.hid (mxK_succ gs k)
      obtain ⟨x, hx⟩ : ∃ x, iAt gs k = x := ⟨_, rfl⟩
      obtain ⟨y, hy⟩ : ∃ y, mxK gs k = y := ⟨_, rfl⟩
      rw [hx] at x0 Hs
      rw [hy] at Hs ⊢
      have HB0 := Lib.hid hb
      have i0 : (0 : Int) ≤ (k : Int) := by omega
      have i1 : (k : Int) < (n : Int) := by omega
      clear ac hx hy hb
      go_wp2_with fail
      go_roundw
      case rel => exact ⟨k + 1, by omega, by go_num, by
        rw [Hs.out]
        congr 1
        by_cases hc : y < x
        · rw [if_pos hc, Int.max_def, if_pos (by omega)]
        · rw [if_neg hc, Int.max_def]
          split <;> omega, HB0.out⟩
      case measure => simp [intOf]; omega
    · obtain rfl : k = n := by omega
      have HB0 := Lib.hid hb
      clear hb
      go_wp2_with fail
      go_ret
      exact ⟨rfl, HB0.out⟩
/-- What CheckLevels returns for lines that are valid. -/
def ckLv (mt : List (List Int)) (m : Nat) (gs : List Int) : Int × Int := if gs.length ≠ mt.length then (0, 15) else if rgK mt m gs mt.length = false then (0, 14) else (mxK gs mt.length, 0)
set_option maxRecDepth 100000 in
set_option maxHeartbeats 8000000 in
theorem checkLevels27 (A : Option Addr) (n cap : Nat) (zs : List Rg) (A2 : Option Addr) (m cap2 : Nat) (L : List (List Int)) (G : Option Addr) (ng cg : Nat) (gs : List Int) (w : World) (h : Rgs w A n zs) (hL : Lns w A2 m L) (hm : m ≤ 9223372036854775807) (hG : Ints w G ng gs) :
    Calls Try.prog 27 #[.agg #[.slice A n cap], .slice A2 m cap2, .slice G ng cg] w fun e w' => Below w.heap.size w w' ∧
      ((chkL zs L = 0 ∧ e = .returned (.tuple #[.int .i64 (ckLv (mtS (cls (prs zs)) L) m gs).1, .int .i64 (ckLv (mtS (cls (prs zs)) L) m gs).2])) ∨
       (chkL zs L ≠ 0 ∧ e = .returned (.tuple #[.int .i64 0, .int .i64 (chkL zs L)]))) := by
  have Hlen := Lib.hid hL.1
  have HGl := Lib.hid hG.1
  have hb0 := below_alloc_ w (.cells #[.slice A n cap] 24)
  have hr0 := heap_alloc_new_ w (.cells #[.slice A n cap] 24)
  obtain ⟨W0, hW0⟩ : ∃ W0, w.alloc (.cells #[.slice A n cap] 24) = W0 := ⟨_, rfl⟩
  obtain ⟨R, hR⟩ : ∃ R, w.heap.size = R := ⟨_, rfl⟩
  rw [hW0] at hb0 hr0
  rw [hR] at hr0
  have S := Lib.hid (h.below hb0 (Nat.le_refl _))
  have X := Lib.hid (hL.below hb0 (Nat.le_refl _))
  have Y := Lib.hid (hG.below hb0 (Nat.le_refl _))
  have B0 := Lib.hid hb0
  have HW0 := Lib.hid hW0
  have HR := Lib.hid hR
  have r0 : W0.cell? ⟨R, 0, none⟩ = some (.slice A n cap) := by rw [cell_row hr0]; rfl
  have Hm := Lib.hid hm
  clear h hL hb0 hr0 hW0 hR hm hG
  go_enter Try.func27, Try.ntmps27
  go_wp2_with fail
  rw [HW0.out]
  try rw [HR.out]
  try go_wp2_with fail
  refine (lay52 A n cap zs A2 m cap2 L W0 S.out X.out Hm.out).mono ?_
  rintro en w1 ⟨hb, (⟨h0, B, D, M, rfl, hbo, hB1, hD1⟩ | ⟨h0, rfl⟩)⟩
  rotate_left
  · obtain ⟨c, hc⟩ : ∃ c, chkL zs L = c := ⟨_, rfl⟩
    rw [hc] at h0 ⊢
    have Hc := Lib.hid hc
    clear hc
    have d0 : (c != 0) = true := by rw [bne_iff_ne]; exact h0
    have HB := Lib.hid (B0.out.trans (hb.mono B0.out.size))
    clear hb r0
    go_wp2_with fail
    refine bodyPost_ret (v := .tuple #[.int .i64 0, .int .i64 c]) (by simp [results, Try.results27, go_sem]) rfl ?_
    exact ⟨HB.out, .inr ⟨by rw [Hc.out]; exact h0, by rw [Hc.out]⟩⟩
  have HB := Lib.hid (B0.out.trans (hb.mono B0.out.size))
  have Hbo := Lib.hid hbo
  have H0 := Lib.hid h0
  have HLV := Lib.hid (lv_of Hlen.out h0)
  replace Y := Lib.hid (Y.out.below hb (Nat.le_refl _))
  obtain ⟨nm, hnm⟩ : ∃ nm, cls (prs zs) = nm := ⟨_, rfl⟩
  rw [hnm] at Hbo
  have Hnm := Lib.hid hnm
  clear hb r0 hbo h0 hnm hB1 hD1
  go_wp2_with fail
  refine (matches55 B w1).mono ?_
  rintro en w2 ⟨P1, rfl, c1, hP1, hP2, hb2⟩
  have hseq := matches74 HLV.out w1 w2 Hbo.out hb2 P1 c1
  have Hcol := Lib.hid (collect54 (enters_of Try.func74 (by kernel_rfl) rfl) hseq (fun k e => by rcases e with e | e <;> have := hb2.size <;> omega) (by have := (mtS_len (nm := nm) HLV.out).1; omega))
  have HB2 := Lib.hid hb2
  clear hseq c1 hP1 hP2 hb2
  go_wp2_with fail
  refine Hcol.out.mono ?_
  rintro en w3 ⟨C, c, rfl, hc, hP, hC, hb3⟩
  have HB3 := Lib.hid (HB2.out.trans (hb3.mono HB2.out.size))
  have Hp := Lib.hid hP
  have hml := (mtS_len (nm := nm) HLV.out).1
  obtain ⟨N, hN⟩ : ∃ N, (mtS nm L).length = N := ⟨_, rfl⟩
  have HN := Lib.hid hN
  rw [hN] at Hp hml ⊢
  have HBW := Lib.hid (HB.out.trans (HB3.out.mono HB.out.size))
  by_cases hgn : ng = N
  rotate_left
  · have d0 : ((ng : Int) != (N : Int)) = true := by rw [bne_iff_ne]; omega
    have HF := Lib.hid (show ckLv (mtS nm L) m gs = (0, 15) by unfold ckLv; rw [if_pos (by rw [HGl.out, hN]; exact hgn)])
    clear hP hC hb3 Hcol hN hgn hc hml
    go_wp2_with fail
    refine bodyPost_ret (v := .tuple #[.int .i64 0, .int .i64 15]) (by simp [results, Try.results27, go_sem]) rfl ?_
    exact ⟨HBW.out, .inl ⟨H0.out, by rw [Hnm.out, HF.out]⟩⟩
  subst hgn
  have hr := right61 B D A n cap nm M A2 m cap2 L C ng c G cg gs w3 (Hbo.out.below HB3.out (Nat.le_refl _)) HLV.out HN.out Hp.out (Y.out.below HB3.out (Nat.le_refl _))
  have HCk := Lib.hid (show ckLv (mtS nm L) m gs = if rgK (mtS nm L) m gs ng = false then (0, 14) else (mxK gs ng, 0) by unfold ckLv; rw [if_neg (by rw [HGl.out, HN.out]; simp), HN.out])
  have HY3 := Lib.hid (Y.out.below HB3.out (Nat.le_refl _))
  obtain ⟨rb, hrb⟩ : ∃ rb, rgK (mtS nm L) m gs ng = rb := ⟨_, rfl⟩
  rw [hrb] at hr HCk
  have Hr := Lib.hid hr
  clear hP hC hb3 Hcol hN hc hr hrb
  cases rb with
  | false =>
    have hck := HCk.out
    rw [if_pos rfl] at hck
    have HCk2 := Lib.hid hck
    clear hck HCk
    go_wp2_with fail
    refine Hr.out.mono ?_
    rintro en w4 ⟨rfl, hb4⟩
    have HB4 := Lib.hid (HBW.out.trans (hb4.mono HBW.out.size))
    clear hb4 Hr hml
    go_wp2_with fail
    refine bodyPost_ret (v := .tuple #[.int .i64 0, .int .i64 14]) (by simp [results, Try.results27, go_sem]) rfl ?_
    exact ⟨HB4.out, .inl ⟨H0.out, by rw [Hnm.out, HCk2.out]⟩⟩
  | true =>
    have hck := HCk.out
    rw [if_neg (by simp)] at hck
    have HCk2 := Lib.hid hck
    clear hck HCk
    go_wp2_with fail
    refine Hr.out.mono ?_
    rintro en w4 ⟨rfl, hb4⟩
    have HB4 := Lib.hid (HBW.out.trans (hb4.mono HBW.out.size))
    have key := greatest62 G ng cg gs w4 (HY3.out.below hb4 (Nat.le_refl _)) (by omega)
    obtain ⟨mx, hmx⟩ : ∃ mx, mxK gs ng = mx := ⟨_, rfl⟩
    rw [hmx] at key HCk2
    have Key := Lib.hid key
    clear hb4 Hr hml key hmx
    go_wp2_with fail
    refine Key.out.mono ?_
    rintro en w5 ⟨rfl, hb5⟩
    have HB5 := Lib.hid (HB4.out.trans (hb5.mono HB4.out.size))
    clear hb5 Key
    go_wp2_with fail
    refine bodyPost_ret (v := .tuple #[.int .i64 mx, .int .i64 0]) (by simp [results, Try.results27, go_sem]) rfl ?_
    exact ⟨HB5.out, .inl ⟨H0.out, by rw [Hnm.out, HCk2.out]⟩⟩
/-- How many longest passages there are. -/
def cntS (a : Int × Int) : Int := if a = (0, 0) then 1 else a.2
set_option maxRecDepth 100000 in
set_option maxHeartbeats 8000000 in
theorem count34 (A : Option Addr) (n cap : Nat) (zs : List Rg) (A2 : Option Addr) (m cap2 : Nat) (L : List (List Int)) (w : World) (h : Rgs w A n zs) (hL : Lns w A2 m L) (hm : m ≤ 9223372036854775807) :
    Calls Try.prog 34 #[.agg #[.slice A n cap], .slice A2 m cap2] w fun e w' => Below w.heap.size w w' ∧
      ((chkL zs L = 0 ∧ e = .returned (.tuple #[.int .i64 (cntS (allK (mtS (cls (prs zs)) L) m)), .int .i64 0])) ∨
       (chkL zs L ≠ 0 ∧ e = .returned (.tuple #[.int .i64 0, .int .i64 (chkL zs L)]))) := by
  have Hlen := Lib.hid hL.1
  have hb0 := below_alloc_ w (.cells #[.slice A n cap] 24)
  have hr0 := heap_alloc_new_ w (.cells #[.slice A n cap] 24)
  obtain ⟨W0, hW0⟩ : ∃ W0, w.alloc (.cells #[.slice A n cap] 24) = W0 := ⟨_, rfl⟩
  obtain ⟨R, hR⟩ : ∃ R, w.heap.size = R := ⟨_, rfl⟩
  rw [hW0] at hb0 hr0
  rw [hR] at hr0
  have S := Lib.hid (h.below hb0 (Nat.le_refl _))
  have X := Lib.hid (hL.below hb0 (Nat.le_refl _))
  have B0 := Lib.hid hb0
  have HW0 := Lib.hid hW0
  have HR := Lib.hid hR
  have r0 : W0.cell? ⟨R, 0, none⟩ = some (.slice A n cap) := by rw [cell_row hr0]; rfl
  have Hm := Lib.hid hm
  clear h hL hb0 hr0 hW0 hR hm
  go_enter Try.func34, Try.ntmps34
  go_wp2_with fail
  rw [HW0.out]
  try rw [HR.out]
  try go_wp2_with fail
  refine (lay52 A n cap zs A2 m cap2 L W0 S.out X.out Hm.out).mono ?_
  rintro en w1 ⟨hb, (⟨h0, B, D, M, rfl, hbo, hB1, hD1⟩ | ⟨h0, rfl⟩)⟩
  rotate_left
  · obtain ⟨c, hc⟩ : ∃ c, chkL zs L = c := ⟨_, rfl⟩
    rw [hc] at h0 ⊢
    have Hc := Lib.hid hc
    clear hc
    have d0 : (c != 0) = true := by rw [bne_iff_ne]; exact h0
    have HB := Lib.hid (B0.out.trans (hb.mono B0.out.size))
    clear hb r0
    go_wp2_with fail
    refine bodyPost_ret (v := .tuple #[.int .i64 0, .int .i64 c]) (by simp [results, Try.results34, go_sem]) rfl ?_
    exact ⟨HB.out, .inr ⟨by rw [Hc.out]; exact h0, by rw [Hc.out]⟩⟩
  have HB := Lib.hid (B0.out.trans (hb.mono B0.out.size))
  have Hbo := Lib.hid hbo
  have H0 := Lib.hid h0
  have HLV := Lib.hid (lv_of Hlen.out h0)
  obtain ⟨nm, hnm⟩ : ∃ nm, cls (prs zs) = nm := ⟨_, rfl⟩
  rw [hnm] at Hbo
  have Hnm := Lib.hid hnm
  clear hb r0 hbo h0 hnm hB1 hD1
  go_wp2_with fail
  refine (passages59 B D A n cap nm M A2 m cap2 L w1 Hbo.out HLV.out).mono ?_
  rintro en w2 ⟨Cb, Me, Ms, nn, rfl, hc, hb2, -, -, -⟩
  obtain ⟨Rr, hRr⟩ : ∃ Rr, allK (mtS nm L) m = Rr := ⟨_, rfl⟩
  rw [hRr] at hc
  obtain ⟨a, b⟩ := Rr
  obtain ⟨z6, z7⟩ := hc.c6
  dsimp only at z6 z7
  have HA := Lib.hid hRr
  have HBW := Lib.hid (HB.out.trans (hb2.mono HB.out.size))
  have Hal := Lib.hid (below_alloc_ w2 (.cells #[.int .i64 a, .int .i64 b] 91))
  clear hc hb2 hRr
  by_cases hab : a = 0 ∧ b = 0
  · obtain ⟨rfl, rfl⟩ := hab
    have HF := Lib.hid (show cntS (0, 0) = 1 from rfl)
    go_wp2_with fail
    refine bodyPost_ret (v := .tuple #[.int .i64 1, .int .i64 0]) (by simp [results, Try.results34, go_sem]) rfl ?_
    exact ⟨HBW.out.trans (Hal.out.mono HBW.out.size), .inl ⟨H0.out, by rw [Hnm.out, HA.out, HF.out]⟩⟩
  · have HF := Lib.hid (show cntS (a, b) = b by unfold cntS; rw [if_neg (by intro e; exact hab (by simpa using e))])
    by_cases ha : a = 0
    · subst ha
      have hb0 : ¬ b = 0 := fun e => hab ⟨rfl, e⟩
      clear hab
      go_wp2_with fail
      refine bodyPost_ret (v := .tuple #[.int .i64 b, .int .i64 0]) (by simp [results, Try.results34, go_sem]) rfl ?_
      exact ⟨HBW.out.trans (Hal.out.mono HBW.out.size), .inl ⟨H0.out, by rw [Hnm.out, HA.out, HF.out]⟩⟩
    · clear hab
      go_wp2_with fail
      refine bodyPost_ret (v := .tuple #[.int .i64 b, .int .i64 0]) (by simp [results, Try.results34, go_sem]) rfl ?_
      exact ⟨HBW.out.trans (Hal.out.mono HBW.out.size), .inl ⟨H0.out, by rw [Hnm.out, HA.out, HF.out]⟩⟩
end Go.Proofs.Ythdjbapidodlfaa
