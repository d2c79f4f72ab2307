/- Stage 4: WordLevels. -/
import Derived.Test.YthdjbapidodlfaaLl
import Derived.Deep.RegionHeld3
namespace Go.Proofs.Ythdjbapidodlfaa
set_option linter.unusedSimpArgs false
set_option linter.unusedVariables false
open Go.RowKit Go.Shelf
/-- The levels that are answered. -/
def lvR (zs : List Rg) (L : List (List Int)) (m : Nat) : List Int := if chkL zs L = 0 then lvsS (mtS (cls (prs zs)) L) m else []
theorem lvR_ok {zs : List Rg} {L : List (List Int)} {m : Nat} (h : chkL zs L = 0) : lvR zs L m = lvsS (mtS (cls (prs zs)) L) m := if_pos h
theorem lvR_len {zs : List Rg} {L : List (List Int)} {m : Nat} (hl : L.length = m) : (lvR zs L m).length ≤ 4096 := by
  unfold lvR
  by_cases h : chkL zs L = 0
  · rw [if_pos h]
    show (List.map _ _).length ≤ 4096
    rw [List.length_map]
    exact (mtS_len (nm := cls (prs zs)) (lv_of hl h)).1
  · rw [if_neg h]; simp
def LvQ (zs : List Rg) (L : List (List Int)) (m : Nat) (w : World) (e : Ending) (w' : World) : Prop :=
  Below w.heap.size w w' ∧ ∃ C N c, e = .returned (.tuple #[.slice C N c, .int .i64 (chkL zs L)]) ∧ Ints w' C N (lvR zs L m) ∧ N ≤ c
theorem levelsQ {f : Nat} {args : Array Value} {zs : List Rg} {L : List (List Int)} {m : Nat} {w : World} (h : Calls Try.prog f args w fun e w' => Below w.heap.size w w' ∧
      ((chkL zs L = 0 ∧ ∃ C N c, e = .returned (.tuple #[.slice C N c, .int .i64 0]) ∧ Ints w' C N (lvsS (mtS (cls (prs zs)) L) m) ∧ N ≤ c) ∨
       (chkL zs L ≠ 0 ∧ e = .returned (.tuple #[.slice none 0 0, .int .i64 (chkL zs L)])))) : Calls Try.prog f args w fun e w' => LvQ zs L m w e w' := by
  refine h.mono ?_
  rintro e w' ⟨hb, ⟨h0, C, N, c, rfl, hl, hc⟩ | ⟨h0, rfl⟩⟩
  · exact ⟨hb, C, N, c, by rw [h0], by rw [lvR_ok h0]; exact hl, hc⟩
  · exact ⟨hb, none, 0, 0, rfl, by unfold lvR; rw [if_neg h0]; exact ints_nil _, Nat.le_refl _⟩
/-- The check of levels that is answered. -/
def ckR (zs : List Rg) (L : List (List Int)) (m : Nat) (gs : List Int) : Int × Int := if chkL zs L = 0 then ckLv (mtS (cls (prs zs)) L) m gs else (0, chkL zs L)
theorem checkQ {f : Nat} {args : Array Value} {zs : List Rg} {L : List (List Int)} {m : Nat} {gs : List Int} {w : World} (h : Calls Try.prog f args w fun e w' => Below w.heap.size w w' ∧
      ((chkL zs L = 0 ∧ e = .returned (.tuple #[.int .i64 (ckLv (mtS (cls (prs zs)) L) m gs).1, .int .i64 (ckLv (mtS (cls (prs zs)) L) m gs).2])) ∨
       (chkL zs L ≠ 0 ∧ e = .returned (.tuple #[.int .i64 0, .int .i64 (chkL zs L)])))) : Calls Try.prog f args w fun e w' => e = .returned (.tuple #[.int .i64 (ckR zs L m gs).1, .int .i64 (ckR zs L m gs).2]) ∧ Below w.heap.size w w' := by
  refine h.mono ?_
  rintro e w' ⟨hb, ⟨h0, rfl⟩ | ⟨h0, rfl⟩⟩
  · exact ⟨by unfold ckR; rw [if_pos h0], hb⟩
  · exact ⟨by unfold ckR; rw [if_neg h0], hb⟩
section
attribute [local go_sem ↓] exec_app at_app
attribute [local go_sem] Oper.semAt_some
set_option maxRecDepth 100000 in
set_option maxHeartbeats 40000000 in
theorem levels4 (A : Option Addr) (n cap : Nat) (zs : List Rg) (A2 : Option Addr) (m cap2 : Nat) (L : List (List Int)) (A3 : Option Addr) (N cap3 : Nat) (p : List (List Int)) (G : Option Addr) (ng cg : Nat) (gs : List Int) (w : World) (h : Rgs w A n zs) (hL : Lns w A2 m L) (hP : Lns w A3 N p) (hG : Ints w G ng gs) :
    Calls Try.prog 4 #[.agg #[.slice A n cap], .slice A2 m cap2, .slice A3 N cap3, .slice G ng cg] w fun e w' => e = .returned (.bool true) ∧ Below w.heap.size w w' := by
  have Hlen := Lib.hid hL.1
  have hb0 := below_alloc_ w (.cells #[.slice A n cap] 24)
  have hr0 := heap_alloc_new_ w (.cells #[.slice A n cap] 24)
  obtain ⟨w0, hW0⟩ : ∃ w0, w.alloc (.cells #[.slice A n cap] 24) = w0 := ⟨_, rfl⟩
  obtain ⟨R, hR⟩ : ∃ R, w.heap.size = R := ⟨_, rfl⟩
  rw [hW0] at hb0 hr0
  rw [hR] at hr0
  have S := Lib.hid (h.below hb0 (Nat.le_refl _))
  have X := Lib.hid (hL.below hb0 (Nat.le_refl _))
  have Yl := Lib.hid hP.1
  have Y := Lib.hid (hP.below hb0 (Nat.le_refl _))
  have Zl := Lib.hid hG.1
  have Z := Lib.hid (hG.below hb0 (Nat.le_refl _))
  have B := Lib.hid hb0
  have HW0 := Lib.hid hW0
  have HR := Lib.hid hR
  have rc : w0.cell? ⟨R, 0, none⟩ = some (.slice A n cap) := by rw [cell_row hr0]; rfl
  have hrow := Lib.hid hr0
  clear h hL hb0 hr0 hW0 hR hP hG
  go_enter Try.func4, Try.ntmps4
  go_wp2_with fail
  rw [HW0.out]
  try rw [HR.out]
  try go_wp2_with fail
  refine (great13 A n cap A2 m cap2 L w0 X.out).mono ?_
  rintro en w1 ⟨rfl, hb⟩
  replace S := Lib.hid (S.out.below hb (Nat.le_refl _))
  replace X := Lib.hid (X.out.below hb (Nat.le_refl _))
  replace Y := Lib.hid (Y.out.below hb (Nat.le_refl _))
  replace Z := Lib.hid (Z.out.below hb (Nat.le_refl _))
  replace B := Lib.hid (B.out.trans (hb.mono B.out.size))
  replace hrow := Lib.hid ((hb.block R (lt_of_block hrow.out)).trans hrow.out)
  clear hb rc
  cases hg : grtB n L
  rotate_left
  · clear hg
    go_wp2_with fail
    try clear rc
    refine (works14 w1).mono ?_
    rintro en w2 ⟨rfl, hb⟩
    replace B := Lib.hid (B.out.trans (hb.mono B.out.size))
    clear hb
    go_wp2_with fail
    go_ret
    exact ⟨rfl, B.out⟩
  have HG := Lib.hid hg
  have hm : m ≤ 9223372036854775807 := by
    have h8 := grtB_m hg
    rw [Hlen.out] at h8
    omega
  have Hm := Lib.hid hm
  clear hg hm
  have rc : w1.cell? ⟨R, 0, none⟩ = some (.slice A n cap) := by rw [cell_row hrow.out]; rfl
  go_wp2_with fail
  refine (dense24 A n cap zs A2 m cap2 L 600 w1 S.out X.out).mono ?_
  rintro en w2 ⟨rfl, hb⟩
  replace S := Lib.hid (S.out.below hb (Nat.le_refl _))
  replace X := Lib.hid (X.out.below hb (Nat.le_refl _))
  replace Y := Lib.hid (Y.out.below hb (Nat.le_refl _))
  replace Z := Lib.hid (Z.out.below hb (Nat.le_refl _))
  replace B := Lib.hid (B.out.trans (hb.mono B.out.size))
  replace hrow := Lib.hid ((hb.block R (lt_of_block hrow.out)).trans hrow.out)
  clear hb rc
  obtain ⟨dn, hdn⟩ : ∃ dn, dnB n zs L 600 = dn := ⟨_, rfl⟩
  rw [hdn]
  clear hdn
  cases dn
  rotate_left
  · go_wp2_with fail
    try clear rc
    refine (works14 w2).mono ?_
    rintro en w3 ⟨rfl, hb⟩
    replace B := Lib.hid (B.out.trans (hb.mono B.out.size))
    clear hb
    go_wp2_with fail
    go_ret
    exact ⟨rfl, B.out⟩
  by_cases h12 : 12 < N
  · have d2 : (12 : Int) < (N : Int) := by omega
    go_wp2_with fail
    try clear rc
    refine (works14 w2).mono ?_
    rintro en w3 ⟨rfl, hb⟩
    replace B := Lib.hid (B.out.trans (hb.mono B.out.size))
    clear hb
    go_wp2_with fail
    go_ret
    exact ⟨rfl, B.out⟩
  have d2 : ¬ (12 : Int) < (N : Int) := by omega
  by_cases h41 : 4100 < ng
  · have d3 : (4100 : Int) < (ng : Int) := by omega
    go_wp2_with fail
    try clear rc
    refine (works14 w2).mono ?_
    rintro en w3 ⟨rfl, hb⟩
    replace B := Lib.hid (B.out.trans (hb.mono B.out.size))
    clear hb
    go_wp2_with fail
    go_ret
    exact ⟨rfl, B.out⟩
  have d3 : ¬ (4100 : Int) < (ng : Int) := by omega
  go_wp2_with fail
  go_loopw [9] (fun i wr => ∃ k : Nat, k ≤ N ∧ i = .int .i64 (k : Int) ∧ Hid (Below w2.heap.size w2 wr)) (fun i _ => N - (intOf i).toNat)
  case atStart => exact ⟨0, Nat.zero_le _, rfl, Lib.hid (Below.refl _ _)⟩
  case round =>
    obtain ⟨k, hk, rfl, HBl⟩ := hrel
    obtain ⟨w3, rfl⟩ : ∃ w3, w3 = wr := ⟨_, rfl⟩
    have hb := HBl.out
    replace S := Lib.hid (S.out.below hb (Nat.le_refl _))
    replace X := Lib.hid (X.out.below hb (Nat.le_refl _))
    replace Y := Lib.hid (Y.out.below hb (Nat.le_refl _))
    replace Z := Lib.hid (Z.out.below hb (Nat.le_refl _))
    replace B := Lib.hid (B.out.trans (hb.mono B.out.size))
    replace hrow := Lib.hid ((hb.block R (lt_of_block hrow.out)).trans hrow.out)
    clear hb
    by_cases hlt : k < N
    · obtain ⟨b, o, rfl, hc⟩ := Y.out.2 (by omega)
      obtain ⟨Cb, cb, b0, -, -⟩ := hc k hlt
      obtain ⟨ll, hll⟩ : ∃ ll, (lAt p k).length = ll := ⟨_, rfl⟩
      rw [hll] at b0
      have i0 : (0 : Int) ≤ (k : Int) := by omega
      have i1 : (k : Int) < (N : Int) := by omega
      clear hc hll
      by_cases h10 : 10 < ll
      · have d4 : (10 : Int) < (ll : Int) := by omega
        go_wp2_with fail
        try clear rc
        refine (works14 w3).mono ?_
        rintro en w4 ⟨rfl, hb⟩
        replace B := Lib.hid (B.out.trans (hb.mono B.out.size))
        clear hb
        go_wp2_with fail
        go_ret
        exact ⟨rfl, B.out⟩
      · have d4 : ¬ (10 : Int) < (ll : Int) := by omega
        go_wp2_with fail
        go_roundw
        case rel => exact ⟨k + 1, by omega, by go_num, HBl⟩
        case measure => simp [intOf]; omega
    · obtain rfl : k = N := by omega
      have rc : w3.cell? ⟨R, 0, none⟩ = some (.slice A n cap) := by rw [cell_row hrow.out]; rfl
      go_wp2_with fail
      refine (levelsQ (levels25 A n cap zs A2 m cap2 L w3 S.out X.out Hm.out)).mono ?_
      rintro en w4 ⟨hb, C1, N1, c1, rfl, hl1, -⟩
      replace S := Lib.hid (S.out.below hb (Nat.le_refl _))
      replace X := Lib.hid (X.out.below hb (Nat.le_refl _))
      replace Y := Lib.hid (Y.out.below hb (Nat.le_refl _))
      replace Z := Lib.hid (Z.out.below hb (Nat.le_refl _))
      replace B := Lib.hid (B.out.trans (hb.mono B.out.size))
      replace hrow := Lib.hid ((hb.block R (lt_of_block hrow.out)).trans hrow.out)
      try clear rc
      have P1 := Lib.hid hl1
      clear hl1
      obtain ⟨ce, hce⟩ : ∃ ce, chkL zs L = ce := ⟨_, rfl⟩
      rw [hce]
      have Hce := Lib.hid hce
      clear hce
      clear hb
      have rc : w4.cell? ⟨R, 0, none⟩ = some (.slice A n cap) := by rw [cell_row hrow.out]; rfl
      go_wp2_with fail
      refine (levelsQ (refLevels26 A n cap zs A2 m cap2 L w4 S.out X.out Hm.out)).mono ?_
      rintro en w5 ⟨hb, C2, N2, c2, rfl, hl2, -⟩
      replace S := Lib.hid (S.out.below hb (Nat.le_refl _))
      replace X := Lib.hid (X.out.below hb (Nat.le_refl _))
      replace Y := Lib.hid (Y.out.below hb (Nat.le_refl _))
      replace Z := Lib.hid (Z.out.below hb (Nat.le_refl _))
      replace P1 := Lib.hid (P1.out.below hb (Nat.le_refl _))
      replace B := Lib.hid (B.out.trans (hb.mono B.out.size))
      replace hrow := Lib.hid ((hb.block R (lt_of_block hrow.out)).trans hrow.out)
      try clear rc
      have P2 := Lib.hid hl2
      clear hl2
      rw [Hce.out]
      clear hb
      have rc : w5.cell? ⟨R, 0, none⟩ = some (.slice A n cap) := by rw [cell_row hrow.out]; rfl
      go_wp2_with fail
      refine (checkQ (checkLevels27 A n cap zs A2 m cap2 L G ng cg gs w5 S.out X.out Hm.out Z.out)).mono ?_
      rintro en w6 ⟨rfl, hb⟩
      replace S := Lib.hid (S.out.below hb (Nat.le_refl _))
      replace X := Lib.hid (X.out.below hb (Nat.le_refl _))
      replace Y := Lib.hid (Y.out.below hb (Nat.le_refl _))
      replace Z := Lib.hid (Z.out.below hb (Nat.le_refl _))
      replace P1 := Lib.hid (P1.out.below hb (Nat.le_refl _))
      replace P2 := Lib.hid (P2.out.below hb (Nat.le_refl _))
      replace B := Lib.hid (B.out.trans (hb.mono B.out.size))
      replace hrow := Lib.hid ((hb.block R (lt_of_block hrow.out)).trans hrow.out)
      try clear rc
      obtain ⟨ra, hra⟩ : ∃ ra, (ckR zs L m gs).1 = ra := ⟨_, rfl⟩
      obtain ⟨re, hre⟩ : ∃ re, (ckR zs L m gs).2 = re := ⟨_, rfl⟩
      rw [hra, hre]
      have Hra := Lib.hid hra
      have Hre := Lib.hid hre
      clear hra hre
      clear hb
      have rc : w6.cell? ⟨R, 0, none⟩ = some (.slice A n cap) := by rw [cell_row hrow.out]; rfl
      go_wp2_with fail
      refine (checkQ (refCheckLevels28 A n cap zs A2 m cap2 L G ng cg gs w6 S.out X.out Hm.out Z.out)).mono ?_
      rintro en w7 ⟨rfl, hb⟩
      replace S := Lib.hid (S.out.below hb (Nat.le_refl _))
      replace X := Lib.hid (X.out.below hb (Nat.le_refl _))
      replace Y := Lib.hid (Y.out.below hb (Nat.le_refl _))
      replace Z := Lib.hid (Z.out.below hb (Nat.le_refl _))
      replace P1 := Lib.hid (P1.out.below hb (Nat.le_refl _))
      replace P2 := Lib.hid (P2.out.below hb (Nat.le_refl _))
      replace B := Lib.hid (B.out.trans (hb.mono B.out.size))
      replace hrow := Lib.hid ((hb.block R (lt_of_block hrow.out)).trans hrow.out)
      try clear rc
      rw [Hra.out, Hre.out]
      clear hb
      have rc : w7.cell? ⟨R, 0, none⟩ = some (.slice A n cap) := by rw [cell_row hrow.out]; rfl
      go_wp2_with fail
      refine wp_region_held_drew (S := fun w2 => Below w7.heap.size w7 w2) (by kernel_rfl) (drew_b _ _) (fun hS0 => ?_)
      refine wpAnyH_take (i := 0) (oi := { dst := some 76, op := Go.Op.load 24 (Go.Operand.tmp 4), type := 24, pos := "law.go:105", after := #[], guard := none }) (v := .agg #[.slice A n cap]) rfl (by kernel_rfl) (by kernel_rfl) (by kernel_rfl) (fun _ _ _ h => h) (Or.inl ⟨by rfl, by intro w2 hSw; (try dsimp only at hSw); have e0 : w2.cell? ⟨R, 0, none⟩ = some (.slice A n cap) := (hSw.cell (p := ⟨R, 0, none⟩) (lt_of_cell rc)).trans rc; go_simp⟩) hS0 ?_
      try simp only [Act.put, List.setIfInBounds_toArray, List.set_cons_zero, List.set_cons_succ]
      refine wpAnyH_take (i := 1) (oi := { dst := some 77, op := Go.Op.move (Go.Operand.tmp 1), type := 25, pos := "law.go:105", after := #[], guard := none }) (v := .slice A2 m cap2) rfl (by kernel_rfl) (by kernel_rfl) (by kernel_rfl) (fun _ _ _ h => h) (Or.inl ⟨by rfl, by intro w2 hSw; (try dsimp only at hSw); have e0 : w2.cell? ⟨R, 0, none⟩ = some (.slice A n cap) := (hSw.cell (p := ⟨R, 0, none⟩) (lt_of_cell rc)).trans rc; go_simp⟩) hS0 ?_
      try simp only [Act.put, List.setIfInBounds_toArray, List.set_cons_zero, List.set_cons_succ]
      refine wpAnyH_take (i := 2) (oi := { dst := some 78, op := Go.Op.move (Go.Operand.tmp 2), type := 31, pos := "law.go:105", after := #[], guard := none }) (v := .slice A3 k cap3) rfl (by kernel_rfl) (by kernel_rfl) (by kernel_rfl) (fun _ _ _ h => h) (Or.inl ⟨by rfl, by intro w2 hSw; (try dsimp only at hSw); have e0 : w2.cell? ⟨R, 0, none⟩ = some (.slice A n cap) := (hSw.cell (p := ⟨R, 0, none⟩) (lt_of_cell rc)).trans rc; go_simp⟩) hS0 ?_
      try simp only [Act.put, List.setIfInBounds_toArray, List.set_cons_zero, List.set_cons_succ]
      refine wpAnyH_take (i := 4) (oi := { dst := some 80, op := Go.Op.load 24 (Go.Operand.tmp 4), type := 24, pos := "law.go:105", after := #[], guard := none }) (v := .agg #[.slice A n cap]) rfl (by kernel_rfl) (by kernel_rfl) (by kernel_rfl) (fun _ _ _ h => h) (Or.inl ⟨by rfl, by intro w2 hSw; (try dsimp only at hSw); have e0 : w2.cell? ⟨R, 0, none⟩ = some (.slice A n cap) := (hSw.cell (p := ⟨R, 0, none⟩) (lt_of_cell rc)).trans rc; go_simp⟩) hS0 ?_
      try simp only [Act.put, List.setIfInBounds_toArray, List.set_cons_zero, List.set_cons_succ]
      refine wpAnyH_take (i := 5) (oi := { dst := some 81, op := Go.Op.move (Go.Operand.tmp 1), type := 25, pos := "law.go:105", after := #[], guard := none }) (v := .slice A2 m cap2) rfl (by kernel_rfl) (by kernel_rfl) (by kernel_rfl) (fun _ _ _ h => h) (Or.inl ⟨by rfl, by intro w2 hSw; (try dsimp only at hSw); have e0 : w2.cell? ⟨R, 0, none⟩ = some (.slice A n cap) := (hSw.cell (p := ⟨R, 0, none⟩) (lt_of_cell rc)).trans rc; go_simp⟩) hS0 ?_
      try simp only [Act.put, List.setIfInBounds_toArray, List.set_cons_zero, List.set_cons_succ]
      refine wpAnyH_take (i := 6) (oi := { dst := some 82, op := Go.Op.move (Go.Operand.tmp 2), type := 31, pos := "law.go:105", after := #[], guard := none }) (v := .slice A3 k cap3) rfl (by kernel_rfl) (by kernel_rfl) (by kernel_rfl) (fun _ _ _ h => h) (Or.inl ⟨by rfl, by intro w2 hSw; (try dsimp only at hSw); have e0 : w2.cell? ⟨R, 0, none⟩ = some (.slice A n cap) := (hSw.cell (p := ⟨R, 0, none⟩) (lt_of_cell rc)).trans rc; go_simp⟩) hS0 ?_
      try simp only [Act.put, List.setIfInBounds_toArray, List.set_cons_zero, List.set_cons_succ]
      refine wpAnyH_ready (rs := [3]) (by kernel_rfl) (by simp) ?_
      refine AllReadyH.cons (o := { dst := some 79, op := Go.Op.call { callee := Go.Callee.value (Go.Operand.func 29), args := #[Go.Operand.tmp 76, Go.Operand.tmp 77, Go.Operand.tmp 78], argTypes := #[24, 25, 31] }, type := 28, pos := "law.go:105", after := #[{ on := 0, ground := Go.Ground.data }, { on := 1, ground := Go.Ground.data }, { on := 2, ground := Go.Ground.data }], guard := none }) rfl (fun K2 hK => ?_) AllReadyH.nil
      go_simp
      refine (checkPassage29 A n cap zs A2 m cap2 L A3 k cap3 p _ (S.out.below hS0 (Nat.le_refl _)) (X.out.below hS0 (Nat.le_refl _)) (Y.out.below hS0 (Nat.le_refl _)) Hm.out).mono ?_
      rintro e9 V1 ⟨rfl, hb9⟩
      obtain ⟨cp, hcp⟩ : ∃ cp, ckPs zs L p = cp := ⟨_, rfl⟩
      rw [hcp]
      have Hcp := Lib.hid hcp
      clear hcp
      (try go_simp)
      refine hK.out _ _ (hS0.trans (hb9.mono hS0.size)) (fun hS1 => ?_)
      clear hK K2 hb9
      try simp only [Act.put, List.setIfInBounds_toArray, List.set_cons_zero, List.set_cons_succ]
      refine wpAnyH_ready (rs := [7]) (by kernel_rfl) (by simp) ?_
      refine AllReadyH.cons (o := { dst := some 83, op := Go.Op.call { callee := Go.Callee.value (Go.Operand.func 30), args := #[Go.Operand.tmp 80, Go.Operand.tmp 81, Go.Operand.tmp 82], argTypes := #[24, 25, 31] }, type := 28, pos := "law.go:105", after := #[{ on := 4, ground := Go.Ground.data }, { on := 5, ground := Go.Ground.data }, { on := 6, ground := Go.Ground.data }, { on := 3, ground := Go.Ground.chain }], guard := none }) rfl (fun K2 hK => ?_) AllReadyH.nil
      go_simp
      refine (refPassage30 A n cap zs A2 m cap2 L A3 k cap3 p V1 (S.out.below hS1 (Nat.le_refl _)) (X.out.below hS1 (Nat.le_refl _)) (Y.out.below hS1 (Nat.le_refl _)) Hm.out).mono ?_
      rintro e9 V2 ⟨rfl, hb9⟩
      rw [Hcp.out]
      (try go_simp)
      refine hK.out _ _ (hS1.trans (hb9.mono hS1.size)) (fun hS2 => ?_)
      clear hK K2 hb9
      try simp only [Act.put, List.setIfInBounds_toArray, List.set_cons_zero, List.set_cons_succ]
      refine wpAnyH_take (i := 8) (oi := { dst := some 84, op := Go.Op.binOp Go.BinOp.eql 28 (Go.Operand.tmp 79) (Go.Operand.tmp 83) 28, type := 4, pos := "law.go:105", after := #[{ on := 3, ground := Go.Ground.data }, { on := 7, ground := Go.Ground.data }], guard := none }) (v := .bool true) rfl (by kernel_rfl) (by kernel_rfl) (by kernel_rfl) (fun _ _ _ h => h) (Or.inl ⟨by rfl, by intro w2 hSw; (try dsimp only at hSw); have e0 : w2.cell? ⟨R, 0, none⟩ = some (.slice A n cap) := (hSw.cell (p := ⟨R, 0, none⟩) (lt_of_cell rc)).trans rc; go_simp⟩) hS2 ?_
      try simp only [Act.put, List.setIfInBounds_toArray, List.set_cons_zero, List.set_cons_succ]
      refine wpAnyH_take (i := 9) (oi := { dst := some 85, op := Go.Op.move (Go.Operand.tmp 84), type := 4, pos := "law.go:105", after := #[{ on := 8, ground := Go.Ground.data }, { on := 7, ground := Go.Ground.chain }], guard := none }) (v := .bool true) rfl (by kernel_rfl) (by kernel_rfl) (by kernel_rfl) (fun _ _ _ h => h) (Or.inl ⟨by rfl, by intro w2 hSw; (try dsimp only at hSw); have e0 : w2.cell? ⟨R, 0, none⟩ = some (.slice A n cap) := (hSw.cell (p := ⟨R, 0, none⟩) (lt_of_cell rc)).trans rc; go_simp⟩) hS2 ?_
      try simp only [Act.put, List.setIfInBounds_toArray, List.set_cons_zero, List.set_cons_succ]
      refine wpAnyH_take (i := 10) (oi := { dst := some 86, op := Go.Op.move (Go.Operand.tmp 10), type := 38, pos := "law.go:105", after := #[{ on := 9, ground := Go.Ground.guard }], guard := some (9, true) }) (v := .slice C1 N1 c1) rfl (by kernel_rfl) (by kernel_rfl) (by kernel_rfl) (fun _ _ _ h => h) (Or.inl ⟨by rfl, by intro w2 hSw; (try dsimp only at hSw); have e0 : w2.cell? ⟨R, 0, none⟩ = some (.slice A n cap) := (hSw.cell (p := ⟨R, 0, none⟩) (lt_of_cell rc)).trans rc; go_simp⟩) hS2 ?_
      try simp only [Act.put, List.setIfInBounds_toArray, List.set_cons_zero, List.set_cons_succ]
      refine wpAnyH_take (i := 11) (oi := { dst := some 87, op := Go.Op.move (Go.Operand.tmp 12), type := 38, pos := "law.go:105", after := #[{ on := 9, ground := Go.Ground.guard }], guard := some (9, true) }) (v := .slice C2 N2 c2) rfl (by kernel_rfl) (by kernel_rfl) (by kernel_rfl) (fun _ _ _ h => h) (Or.inl ⟨by rfl, by intro w2 hSw; (try dsimp only at hSw); have e0 : w2.cell? ⟨R, 0, none⟩ = some (.slice A n cap) := (hSw.cell (p := ⟨R, 0, none⟩) (lt_of_cell rc)).trans rc; go_simp⟩) hS2 ?_
      try simp only [Act.put, List.setIfInBounds_toArray, List.set_cons_zero, List.set_cons_succ]
      refine wpAnyH_ready (rs := [12]) (by kernel_rfl) (by simp) ?_
      refine AllReadyH.cons (o := { dst := some 88, op := Go.Op.call { callee := Go.Callee.value (Go.Operand.func 31), args := #[Go.Operand.tmp 86, Go.Operand.tmp 87], argTypes := #[38, 38] }, type := 4, pos := "law.go:105", after := #[{ on := 10, ground := Go.Ground.data }, { on := 11, ground := Go.Ground.data }, { on := 9, ground := Go.Ground.chain }, { on := 9, ground := Go.Ground.guard }], guard := some (9, true) }) rfl (fun K2 hK => ?_) AllReadyH.nil
      go_simp
      refine (ints31 C1 N1 c1 (lvR zs L m) C2 N2 c2 (lvR zs L m) V2 (P1.out.below hS2 (Nat.le_refl _)) (P2.out.below hS2 (Nat.le_refl _)) (by rw [← P1.out.1]; exact Nat.le_trans (lvR_len Hlen.out) (by omega))).mono ?_
      rintro e9 V3 ⟨rfl, hb9⟩
      rw [decide_eq_true (rfl : lvR zs L m = lvR zs L m)]
      (try go_simp)
      refine hK.out _ _ (hS2.trans (hb9.mono hS2.size)) (fun hS3 => ?_)
      clear hK K2 hb9
      try simp only [Act.put, List.setIfInBounds_toArray, List.set_cons_zero, List.set_cons_succ]
      refine wpAnyH_take (i := 13) (oi := { dst := some 89, op := Go.Op.pick (Go.Operand.tmp 85) (Go.Operand.tmp 88) (Go.Operand.const (Go.Value.bool false)), type := 4, pos := "law.go:105", after := #[{ on := 9, ground := Go.Ground.data }, { on := 12, ground := Go.Ground.data }], guard := none }) (v := .bool true) rfl (by kernel_rfl) (by kernel_rfl) (by kernel_rfl) (fun _ _ _ h => h) (Or.inl ⟨by rfl, by intro w2 hSw; (try dsimp only at hSw); have e0 : w2.cell? ⟨R, 0, none⟩ = some (.slice A n cap) := (hSw.cell (p := ⟨R, 0, none⟩) (lt_of_cell rc)).trans rc; go_simp⟩) hS3 ?_
      try simp only [Act.put, List.setIfInBounds_toArray, List.set_cons_zero, List.set_cons_succ]
      refine wpAnyH_take (i := 14) (oi := { dst := some 90, op := Go.Op.move (Go.Operand.tmp 89), type := 4, pos := "law.go:105", after := #[{ on := 13, ground := Go.Ground.data }, { on := 12, ground := Go.Ground.chain }], guard := none }) (v := .bool true) rfl (by kernel_rfl) (by kernel_rfl) (by kernel_rfl) (fun _ _ _ h => h) (Or.inl ⟨by rfl, by intro w2 hSw; (try dsimp only at hSw); have e0 : w2.cell? ⟨R, 0, none⟩ = some (.slice A n cap) := (hSw.cell (p := ⟨R, 0, none⟩) (lt_of_cell rc)).trans rc; go_simp⟩) hS3 ?_
      try simp only [Act.put, List.setIfInBounds_toArray, List.set_cons_zero, List.set_cons_succ]
      refine wpAnyH_take (i := 15) (oi := { dst := some 91, op := Go.Op.move (Go.Operand.tmp 11), type := 28, pos := "law.go:105", after := #[{ on := 14, ground := Go.Ground.guard }], guard := some (14, true) }) (v := .int .i64 ce) rfl (by kernel_rfl) (by kernel_rfl) (by kernel_rfl) (fun _ _ _ h => h) (Or.inl ⟨by rfl, by intro w2 hSw; (try dsimp only at hSw); have e0 : w2.cell? ⟨R, 0, none⟩ = some (.slice A n cap) := (hSw.cell (p := ⟨R, 0, none⟩) (lt_of_cell rc)).trans rc; go_simp⟩) hS3 ?_
      try simp only [Act.put, List.setIfInBounds_toArray, List.set_cons_zero, List.set_cons_succ]
      refine wpAnyH_take (i := 16) (oi := { dst := some 92, op := Go.Op.move (Go.Operand.tmp 13), type := 28, pos := "law.go:105", after := #[{ on := 14, ground := Go.Ground.guard }], guard := some (14, true) }) (v := .int .i64 ce) rfl (by kernel_rfl) (by kernel_rfl) (by kernel_rfl) (fun _ _ _ h => h) (Or.inl ⟨by rfl, by intro w2 hSw; (try dsimp only at hSw); have e0 : w2.cell? ⟨R, 0, none⟩ = some (.slice A n cap) := (hSw.cell (p := ⟨R, 0, none⟩) (lt_of_cell rc)).trans rc; go_simp⟩) hS3 ?_
      try simp only [Act.put, List.setIfInBounds_toArray, List.set_cons_zero, List.set_cons_succ]
      refine wpAnyH_take (i := 17) (oi := { dst := some 93, op := Go.Op.binOp Go.BinOp.eql 28 (Go.Operand.tmp 91) (Go.Operand.tmp 92) 28, type := 4, pos := "law.go:105", after := #[{ on := 15, ground := Go.Ground.data }, { on := 16, ground := Go.Ground.data }, { on := 14, ground := Go.Ground.guard }], guard := some (14, true) }) (v := .bool true) rfl (by kernel_rfl) (by kernel_rfl) (by kernel_rfl) (fun _ _ _ h => h) (Or.inl ⟨by rfl, by intro w2 hSw; (try dsimp only at hSw); have e0 : w2.cell? ⟨R, 0, none⟩ = some (.slice A n cap) := (hSw.cell (p := ⟨R, 0, none⟩) (lt_of_cell rc)).trans rc; go_simp⟩) hS3 ?_
      try simp only [Act.put, List.setIfInBounds_toArray, List.set_cons_zero, List.set_cons_succ]
      refine wpAnyH_take (i := 18) (oi := { dst := some 94, op := Go.Op.pick (Go.Operand.tmp 90) (Go.Operand.tmp 93) (Go.Operand.const (Go.Value.bool false)), type := 4, pos := "law.go:105", after := #[{ on := 14, ground := Go.Ground.data }, { on := 17, ground := Go.Ground.data }], guard := none }) (v := .bool true) rfl (by kernel_rfl) (by kernel_rfl) (by kernel_rfl) (fun _ _ _ h => h) (Or.inl ⟨by rfl, by intro w2 hSw; (try dsimp only at hSw); have e0 : w2.cell? ⟨R, 0, none⟩ = some (.slice A n cap) := (hSw.cell (p := ⟨R, 0, none⟩) (lt_of_cell rc)).trans rc; go_simp⟩) hS3 ?_
      try simp only [Act.put, List.setIfInBounds_toArray, List.set_cons_zero, List.set_cons_succ]
      refine wpAnyH_take (i := 19) (oi := { dst := some 95, op := Go.Op.move (Go.Operand.tmp 94), type := 4, pos := "law.go:105", after := #[{ on := 18, ground := Go.Ground.data }, { on := 14, ground := Go.Ground.chain }], guard := none }) (v := .bool true) rfl (by kernel_rfl) (by kernel_rfl) (by kernel_rfl) (fun _ _ _ h => h) (Or.inl ⟨by rfl, by intro w2 hSw; (try dsimp only at hSw); have e0 : w2.cell? ⟨R, 0, none⟩ = some (.slice A n cap) := (hSw.cell (p := ⟨R, 0, none⟩) (lt_of_cell rc)).trans rc; go_simp⟩) hS3 ?_
      try simp only [Act.put, List.setIfInBounds_toArray, List.set_cons_zero, List.set_cons_succ]
      refine wpAnyH_take (i := 20) (oi := { dst := some 96, op := Go.Op.move (Go.Operand.tmp 14), type := 3, pos := "law.go:105", after := #[{ on := 19, ground := Go.Ground.guard }], guard := some (19, true) }) (v := .int .i64 ra) rfl (by kernel_rfl) (by kernel_rfl) (by kernel_rfl) (fun _ _ _ h => h) (Or.inl ⟨by rfl, by intro w2 hSw; (try dsimp only at hSw); have e0 : w2.cell? ⟨R, 0, none⟩ = some (.slice A n cap) := (hSw.cell (p := ⟨R, 0, none⟩) (lt_of_cell rc)).trans rc; go_simp⟩) hS3 ?_
      try simp only [Act.put, List.setIfInBounds_toArray, List.set_cons_zero, List.set_cons_succ]
      refine wpAnyH_take (i := 21) (oi := { dst := some 97, op := Go.Op.move (Go.Operand.tmp 16), type := 3, pos := "law.go:105", after := #[{ on := 19, ground := Go.Ground.guard }], guard := some (19, true) }) (v := .int .i64 ra) rfl (by kernel_rfl) (by kernel_rfl) (by kernel_rfl) (fun _ _ _ h => h) (Or.inl ⟨by rfl, by intro w2 hSw; (try dsimp only at hSw); have e0 : w2.cell? ⟨R, 0, none⟩ = some (.slice A n cap) := (hSw.cell (p := ⟨R, 0, none⟩) (lt_of_cell rc)).trans rc; go_simp⟩) hS3 ?_
      try simp only [Act.put, List.setIfInBounds_toArray, List.set_cons_zero, List.set_cons_succ]
      refine wpAnyH_take (i := 22) (oi := { dst := some 98, op := Go.Op.binOp Go.BinOp.eql 3 (Go.Operand.tmp 96) (Go.Operand.tmp 97) 3, type := 4, pos := "law.go:105", after := #[{ on := 20, ground := Go.Ground.data }, { on := 21, ground := Go.Ground.data }, { on := 19, ground := Go.Ground.guard }], guard := some (19, true) }) (v := .bool true) rfl (by kernel_rfl) (by kernel_rfl) (by kernel_rfl) (fun _ _ _ h => h) (Or.inl ⟨by rfl, by intro w2 hSw; (try dsimp only at hSw); have e0 : w2.cell? ⟨R, 0, none⟩ = some (.slice A n cap) := (hSw.cell (p := ⟨R, 0, none⟩) (lt_of_cell rc)).trans rc; go_simp⟩) hS3 ?_
      try simp only [Act.put, List.setIfInBounds_toArray, List.set_cons_zero, List.set_cons_succ]
      refine wpAnyH_take (i := 23) (oi := { dst := some 99, op := Go.Op.pick (Go.Operand.tmp 95) (Go.Operand.tmp 98) (Go.Operand.const (Go.Value.bool false)), type := 4, pos := "law.go:105", after := #[{ on := 19, ground := Go.Ground.data }, { on := 22, ground := Go.Ground.data }], guard := none }) (v := .bool true) rfl (by kernel_rfl) (by kernel_rfl) (by kernel_rfl) (fun _ _ _ h => h) (Or.inl ⟨by rfl, by intro w2 hSw; (try dsimp only at hSw); have e0 : w2.cell? ⟨R, 0, none⟩ = some (.slice A n cap) := (hSw.cell (p := ⟨R, 0, none⟩) (lt_of_cell rc)).trans rc; go_simp⟩) hS3 ?_
      try simp only [Act.put, List.setIfInBounds_toArray, List.set_cons_zero, List.set_cons_succ]
      refine wpAnyH_take (i := 24) (oi := { dst := some 100, op := Go.Op.move (Go.Operand.tmp 99), type := 4, pos := "law.go:105", after := #[{ on := 23, ground := Go.Ground.data }, { on := 19, ground := Go.Ground.chain }], guard := none }) (v := .bool true) rfl (by kernel_rfl) (by kernel_rfl) (by kernel_rfl) (fun _ _ _ h => h) (Or.inl ⟨by rfl, by intro w2 hSw; (try dsimp only at hSw); have e0 : w2.cell? ⟨R, 0, none⟩ = some (.slice A n cap) := (hSw.cell (p := ⟨R, 0, none⟩) (lt_of_cell rc)).trans rc; go_simp⟩) hS3 ?_
      try simp only [Act.put, List.setIfInBounds_toArray, List.set_cons_zero, List.set_cons_succ]
      refine wpAnyH_take (i := 25) (oi := { dst := some 101, op := Go.Op.move (Go.Operand.tmp 15), type := 28, pos := "law.go:105", after := #[{ on := 24, ground := Go.Ground.guard }], guard := some (24, true) }) (v := .int .i64 re) rfl (by kernel_rfl) (by kernel_rfl) (by kernel_rfl) (fun _ _ _ h => h) (Or.inl ⟨by rfl, by intro w2 hSw; (try dsimp only at hSw); have e0 : w2.cell? ⟨R, 0, none⟩ = some (.slice A n cap) := (hSw.cell (p := ⟨R, 0, none⟩) (lt_of_cell rc)).trans rc; go_simp⟩) hS3 ?_
      try simp only [Act.put, List.setIfInBounds_toArray, List.set_cons_zero, List.set_cons_succ]
      refine wpAnyH_take (i := 26) (oi := { dst := some 102, op := Go.Op.move (Go.Operand.tmp 17), type := 28, pos := "law.go:105", after := #[{ on := 24, ground := Go.Ground.guard }], guard := some (24, true) }) (v := .int .i64 re) rfl (by kernel_rfl) (by kernel_rfl) (by kernel_rfl) (fun _ _ _ h => h) (Or.inl ⟨by rfl, by intro w2 hSw; (try dsimp only at hSw); have e0 : w2.cell? ⟨R, 0, none⟩ = some (.slice A n cap) := (hSw.cell (p := ⟨R, 0, none⟩) (lt_of_cell rc)).trans rc; go_simp⟩) hS3 ?_
      try simp only [Act.put, List.setIfInBounds_toArray, List.set_cons_zero, List.set_cons_succ]
      refine wpAnyH_take (i := 27) (oi := { dst := some 103, op := Go.Op.binOp Go.BinOp.eql 28 (Go.Operand.tmp 101) (Go.Operand.tmp 102) 28, type := 4, pos := "law.go:105", after := #[{ on := 25, ground := Go.Ground.data }, { on := 26, ground := Go.Ground.data }, { on := 24, ground := Go.Ground.guard }], guard := some (24, true) }) (v := .bool true) rfl (by kernel_rfl) (by kernel_rfl) (by kernel_rfl) (fun _ _ _ h => h) (Or.inl ⟨by rfl, by intro w2 hSw; (try dsimp only at hSw); have e0 : w2.cell? ⟨R, 0, none⟩ = some (.slice A n cap) := (hSw.cell (p := ⟨R, 0, none⟩) (lt_of_cell rc)).trans rc; go_simp⟩) hS3 ?_
      try simp only [Act.put, List.setIfInBounds_toArray, List.set_cons_zero, List.set_cons_succ]
      refine wpAnyH_take (i := 28) (oi := { dst := some 104, op := Go.Op.pick (Go.Operand.tmp 100) (Go.Operand.tmp 103) (Go.Operand.const (Go.Value.bool false)), type := 4, pos := "law.go:105", after := #[{ on := 24, ground := Go.Ground.data }, { on := 27, ground := Go.Ground.data }], guard := none }) (v := .bool true) rfl (by kernel_rfl) (by kernel_rfl) (by kernel_rfl) (fun _ _ _ h => h) (Or.inl ⟨by rfl, by intro w2 hSw; (try dsimp only at hSw); have e0 : w2.cell? ⟨R, 0, none⟩ = some (.slice A n cap) := (hSw.cell (p := ⟨R, 0, none⟩) (lt_of_cell rc)).trans rc; go_simp⟩) hS3 ?_
      try simp only [Act.put, List.setIfInBounds_toArray, List.set_cons_zero, List.set_cons_succ]
      refine wpAnyH_take (i := 29) (oi := { dst := some 105, op := Go.Op.move (Go.Operand.tmp 104), type := 4, pos := "law.go:105", after := #[{ on := 28, ground := Go.Ground.data }, { on := 24, ground := Go.Ground.chain }], guard := none }) (v := .bool true) rfl (by kernel_rfl) (by kernel_rfl) (by kernel_rfl) (fun _ _ _ h => h) (Or.inl ⟨by rfl, by intro w2 hSw; (try dsimp only at hSw); have e0 : w2.cell? ⟨R, 0, none⟩ = some (.slice A n cap) := (hSw.cell (p := ⟨R, 0, none⟩) (lt_of_cell rc)).trans rc; go_simp⟩) hS3 ?_
      try simp only [Act.put, List.setIfInBounds_toArray, List.set_cons_zero, List.set_cons_succ]
      refine wpAnyH_ready (rs := [30]) (by kernel_rfl) (by simp) ?_
      refine AllReadyH.cons (o := { dst := some 106, op := Go.Op.call { callee := Go.Callee.value (Go.Operand.func 14), args := #[], argTypes := #[] }, type := 4, pos := "law.go:105", after := #[{ on := 29, ground := Go.Ground.chain }, { on := 29, ground := Go.Ground.guard }], guard := some (29, true) }) rfl (fun K2 hK => ?_) AllReadyH.nil
      go_simp
      refine (works14 V3).mono ?_
      rintro e9 V4 ⟨rfl, hb9⟩
      
      (try go_simp)
      refine hK.out _ _ (hS3.trans (hb9.mono hS3.size)) (fun hS4 => ?_)
      clear hK K2 hb9
      try simp only [Act.put, List.setIfInBounds_toArray, List.set_cons_zero, List.set_cons_succ]
      refine wpAnyH_take (i := 31) (oi := { dst := some 107, op := Go.Op.pick (Go.Operand.tmp 105) (Go.Operand.tmp 106) (Go.Operand.const (Go.Value.bool false)), type := 4, pos := "law.go:105", after := #[{ on := 29, ground := Go.Ground.data }, { on := 30, ground := Go.Ground.data }], guard := none }) (v := .bool true) rfl (by kernel_rfl) (by kernel_rfl) (by kernel_rfl) (fun _ _ _ h => h) (Or.inl ⟨by rfl, by intro w2 hSw; (try dsimp only at hSw); have e0 : w2.cell? ⟨R, 0, none⟩ = some (.slice A n cap) := (hSw.cell (p := ⟨R, 0, none⟩) (lt_of_cell rc)).trans rc; go_simp⟩) hS4 ?_
      try simp only [Act.put, List.setIfInBounds_toArray, List.set_cons_zero, List.set_cons_succ]
      refine wpAnyH_take (i := 32) (oi := { dst := some 8, op := Go.Op.assign (Go.Operand.tmp 107), type := 4, pos := "law.go:105", after := #[{ on := 31, ground := Go.Ground.data }, { on := 30, ground := Go.Ground.chain }, { on := 0, ground := Go.Ground.phase }, { on := 1, ground := Go.Ground.phase }, { on := 2, ground := Go.Ground.phase }, { on := 3, ground := Go.Ground.phase }, { on := 4, ground := Go.Ground.phase }, { on := 5, ground := Go.Ground.phase }, { on := 6, ground := Go.Ground.phase }, { on := 7, ground := Go.Ground.phase }, { on := 8, ground := Go.Ground.phase }, { on := 9, ground := Go.Ground.phase }, { on := 10, ground := Go.Ground.phase }, { on := 11, ground := Go.Ground.phase }, { on := 12, ground := Go.Ground.phase }, { on := 13, ground := Go.Ground.phase }, { on := 14, ground := Go.Ground.phase }, { on := 15, ground := Go.Ground.phase }, { on := 16, ground := Go.Ground.phase }, { on := 17, ground := Go.Ground.phase }, { on := 18, ground := Go.Ground.phase }, { on := 19, ground := Go.Ground.phase }, { on := 20, ground := Go.Ground.phase }, { on := 21, ground := Go.Ground.phase }, { on := 22, ground := Go.Ground.phase }, { on := 23, ground := Go.Ground.phase }, { on := 24, ground := Go.Ground.phase }, { on := 25, ground := Go.Ground.phase }, { on := 26, ground := Go.Ground.phase }, { on := 27, ground := Go.Ground.phase }, { on := 28, ground := Go.Ground.phase }, { on := 29, ground := Go.Ground.phase }, { on := 30, ground := Go.Ground.phase }, { on := 31, ground := Go.Ground.phase }], guard := none }) (v := .bool true) rfl (by kernel_rfl) (by kernel_rfl) (by kernel_rfl) (fun _ _ _ h => h) (Or.inl ⟨by rfl, by intro w2 hSw; (try dsimp only at hSw); have e0 : w2.cell? ⟨R, 0, none⟩ = some (.slice A n cap) := (hSw.cell (p := ⟨R, 0, none⟩) (lt_of_cell rc)).trans rc; go_simp⟩) hS4 ?_
      try simp only [Act.put, List.setIfInBounds_toArray, List.set_cons_zero, List.set_cons_succ]
      refine wpAnyH_done (by kernel_rfl) ?_ _
      go_wp2_with fail
      go_ret
      exact ⟨rfl, B.out.trans (hS4.mono B.out.size)⟩
end
end Go.Proofs.Ythdjbapidodlfaa
