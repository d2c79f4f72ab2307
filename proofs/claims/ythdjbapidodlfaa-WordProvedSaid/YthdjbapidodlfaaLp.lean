/- Stage 4: WordProved. -/
import Derived.Test.YthdjbapidodlfaaPvn
import Derived.Test.YthdjbapidodlfaaOth
import Derived.BigQuiet
import Derived.Deep.QuietTactic
namespace Go.Proofs.Ythdjbapidodlfaa
set_option linter.unusedSimpArgs false
set_option linter.unusedVariables false
open Go.RowKit Go.Shelf
theorem fnB_ok {n : Nat} {zs : List Rg} {L : List (List Int)} (h : fnB n zs L = true) : chkL zs L = 0 := by
  simp only [fnB, Bool.and_eq_true, decide_eq_true_eq] at h
  exact h.1.2
/-- Small numbers that came in. -/
def ByU (w : World) (A3 : Option Addr) (nb : Nat) : Prop := ∀ j, j < nb → ∃ (b o u : Nat), A3 = some ⟨b, o, none⟩ ∧ u ≤ 255 ∧ w.cell? ⟨b, o + j, none⟩ = some (.int .u8 (u : Int))
theorem ByU.below {w w' : World} {A3 : Option Addr} {nb B : Nat} (h : ByU w A3 nb) (hb : Below B w w') (hB : w.heap.size ≤ B) : ByU w' A3 nb := fun j hj => by
  obtain ⟨b, o, u, h1, h2, h3⟩ := h j hj
  exact ⟨b, o, u, h1, h2, (hb.cell (p := ⟨b, o + j, none⟩) (Nat.lt_of_lt_of_le (lt_of_cell h3) hB)).trans h3⟩
theorem ck_lvs {nm : List Int} {L : List (List Int)} {m : Nat} (hL : LV L m) : ckLv (mtS nm L) m (lvsS (mtS nm L) m) = ((topK nm L m : Int), 0) := by
  unfold ckLv
  rw [if_neg (by simp [lvsS]), if_neg (by rw [rg_lvs hL]; simp), mx_top hL (top_ok hL)]
theorem ck_right {nm : List Int} {L : List (List Int)} {m : Nat} (hL : LV L m) {gs : List Int} (h : (ckLv (mtS nm L) m gs).2 = 0) : gs.length = (mtS nm L).length ∧ (topK nm L m : Int) ≤ (ckLv (mtS nm L) m gs).1 ∧ ∀ i, i < (mtS nm L).length → iAt (lvsS (mtS nm L) m) i ≤ iAt gs i := by
  unfold ckLv at h ⊢
  split at h
  · cases h
  · split at h
    · cases h
    · rename_i h1 h2
      rw [if_neg h1, if_neg h2]
      rw [Bool.not_eq_false] at h2
      have hl := rg_least hL h2
      have hg : ∀ j (hj : j < (mtS nm L).length), iAt (lvsS (mtS nm L) m) j = (eS (mtS nm L) m (mtS nm L)[j]).1 := fun j hj => by
        rw [iAt_eq (by simpa [lvsS] using hj)]
        simp [lvsS]
      have hle : ∀ i, i < (mtS nm L).length → iAt (lvsS (mtS nm L) m) i ≤ iAt gs i := fun i hi => by rw [hg i hi]; exact hl i hi
      refine ⟨Decidable.not_not.1 h1, ?_, hle⟩
      rw [← mx_top hL (top_ok hL)]
      have h5 : gs.length = (mtS nm L).length := Decidable.not_not.1 h1
      have h6 := mxK_ge gs (mtS nm L).length
      have h7 : mxK (lvsS (mtS nm L) m) (mtS nm L).length ≤ mxK gs (mtS nm L).length := mxK_le h6.1 fun i hi => by
        have := hle i hi
        have := h6.2 i hi
        omega
      first | exact h7 | (rw [h5]; exact h7)
section
attribute [local go_sem ↓] exec_app at_app
attribute [local go_sem] Oper.semAt_some
set_option maxRecDepth 100000 in
set_option maxHeartbeats 40000000 in
theorem proved7 (A : Option Addr) (n cap : Nat) (zs : List Rg) (A2 : Option Addr) (m cap2 : Nat) (L : List (List Int)) (A3 : Option Addr) (nb cb : Nat) (A4 : Option Addr) (Ng cap4 : Nat) (gv : List (List Int)) (G : Option Addr) (ng cg : Nat) (gs : List Int) (w : World) (h : Rgs w A n zs) (hL : Lns w A2 m L) (hU : ByU w A3 nb) (hP : Lns w A4 Ng gv) (hG : Ints w G ng gs) :
    Calls Try.prog 7 #[.agg #[.slice A n cap], .slice A2 m cap2, .slice A3 nb cb, .slice A4 Ng cap4, .slice G ng cg] w fun e w' => e = .returned (.bool true) ∧ Below w.heap.size w w' := by
  have U0 := Lib.hid hU
  clear hU
  have Hlen := Lib.hid hL.1
  have hb0 := below_alloc_ w (.cells #[.slice A n cap] 24)
  have hr0 := heap_alloc_new_ w (.cells #[.slice A n cap] 24)
  obtain ⟨w0, hW0⟩ : ∃ w0, w.alloc (.cells #[.slice A n cap] 24) = w0 := ⟨_, rfl⟩
  obtain ⟨R, hR⟩ : ∃ R, w.heap.size = R := ⟨_, rfl⟩
  rw [hW0] at hb0 hr0
  rw [hR] at hr0
  have S := Lib.hid (h.below hb0 (Nat.le_refl _))
  have X := Lib.hid (hL.below hb0 (Nat.le_refl _))
  have Yl := Lib.hid hP.1
  have Y := Lib.hid (hP.below hb0 (Nat.le_refl _))
  have Zl := Lib.hid hG.1
  have Z := Lib.hid (hG.below hb0 (Nat.le_refl _))
  have B := Lib.hid hb0
  have U := Lib.hid (U0.out.below hb0 (Nat.le_refl _))
  clear U0
  have HW0 := Lib.hid hW0
  have HR := Lib.hid hR
  have rc : w0.cell? ⟨R, 0, none⟩ = some (.slice A n cap) := by rw [cell_row hr0]; rfl
  have hrow := Lib.hid hr0
  clear h hL hb0 hr0 hW0 hR hP hG
  go_enter Try.func7, Try.ntmps7
  go_wp2_with fail
  rw [HW0.out]
  try rw [HR.out]
  try go_wp2_with fail
  refine (fine40 A n cap zs A2 m cap2 L w0 S.out X.out).mono ?_
  rintro en w1 ⟨rfl, hb⟩
  replace S := Lib.hid (S.out.below hb (Nat.le_refl _))
  replace X := Lib.hid (X.out.below hb (Nat.le_refl _))
  replace Y := Lib.hid (Y.out.below hb (Nat.le_refl _))
  replace Z := Lib.hid (Z.out.below hb (Nat.le_refl _))
  replace U := Lib.hid (U.out.below hb (Nat.le_refl _))
  replace B := Lib.hid (B.out.trans (hb.mono B.out.size))
  replace hrow := Lib.hid ((hb.block R (lt_of_block hrow.out)).trans hrow.out)
  clear hb rc
  obtain ⟨fn, hfn⟩ : ∃ fn, fnB n zs L = fn := ⟨_, rfl⟩
  rw [hfn]
  cases fn
  · clear hfn
    go_wp2_with fail
    try clear rc
    refine (works14 w1).mono ?_
    rintro en w2 ⟨rfl, hb⟩
    replace B := Lib.hid (B.out.trans (hb.mono B.out.size))
    clear hb
    go_wp2_with fail
    go_ret
    exact ⟨rfl, B.out⟩
  have hck := fnB_ok hfn
  have Hck := Lib.hid hck
  have HLV := Lib.hid (lv_of Hlen.out hck)
  have Hm := Lib.hid (show m ≤ 9223372036854775807 by have := HLV.out.hi; omega)
  clear hfn hck
  by_cases h6 : 20 < nb
  · have d6 : (20 : Int) < (nb : Int) := by omega
    go_wp2_with fail
    try clear rc
    refine (works14 w1).mono ?_
    rintro en w2 ⟨rfl, hb⟩
    replace B := Lib.hid (B.out.trans (hb.mono B.out.size))
    clear hb
    go_wp2_with fail
    go_ret
    exact ⟨rfl, B.out⟩
  have d6 : ¬ (20 : Int) < (nb : Int) := by omega
  by_cases h7 : 12 < Ng
  · have d7 : (12 : Int) < (Ng : Int) := by omega
    go_wp2_with fail
    try clear rc
    refine (works14 w1).mono ?_
    rintro en w2 ⟨rfl, hb⟩
    replace B := Lib.hid (B.out.trans (hb.mono B.out.size))
    clear hb
    go_wp2_with fail
    go_ret
    exact ⟨rfl, B.out⟩
  have d7 : ¬ (12 : Int) < (Ng : Int) := by omega
  by_cases h8 : 1000 < ng
  · have d8 : (1000 : Int) < (ng : Int) := by omega
    go_wp2_with fail
    try clear rc
    refine (works14 w1).mono ?_
    rintro en w2 ⟨rfl, hb⟩
    replace B := Lib.hid (B.out.trans (hb.mono B.out.size))
    clear hb
    go_wp2_with fail
    go_ret
    exact ⟨rfl, B.out⟩
  have d8 : ¬ (1000 : Int) < (ng : Int) := by omega
  have rc : w1.cell? ⟨R, 0, none⟩ = some (.slice A n cap) := by rw [cell_row hrow.out]; rfl
  go_wp2_with fail
  obtain ⟨nm, hnm⟩ : ∃ nm, cls (prs zs) = nm := ⟨_, rfl⟩
  have Hnm := Lib.hid hnm
  clear hnm
  obtain ⟨K, hK⟩ : ∃ K, topK nm L m = K := ⟨_, rfl⟩
  have HK := Lib.hid hK
  clear hK
  obtain ⟨p, hp⟩ : ∃ p, (fstS nm L m (mtS nm L)).map (·.take m) = p := ⟨_, rfl⟩
  have Hp := Lib.hid hp
  have HpQ := Lib.hid (show ChQ ((mtS nm L).map (·.take m)) m p by rw [← hp]; exact (fst_chQ HLV.out).1)
  have HpL := Lib.hid (show p.length = K by rw [← hp, ← HK.out]; exact (fst_chQ HLV.out).2)
  have HpC := Lib.hid (show ckPs zs L p = 0 from (chQ_ok Hlen.out Hck.out (by rw [Hnm.out]; exact HpQ.out)).1)
  clear hp
  refine (longest32 A n cap zs A2 m cap2 L w1 S.out X.out Hm.out).mono ?_
  rintro en w2 ⟨hb, hor⟩
  replace S := Lib.hid (S.out.below hb (Nat.le_refl _))
  replace X := Lib.hid (X.out.below hb (Nat.le_refl _))
  replace Y := Lib.hid (Y.out.below hb (Nat.le_refl _))
  replace Z := Lib.hid (Z.out.below hb (Nat.le_refl _))
  replace U := Lib.hid (U.out.below hb (Nat.le_refl _))
  replace B := Lib.hid (B.out.trans (hb.mono B.out.size))
  replace hrow := Lib.hid ((hb.block R (lt_of_block hrow.out)).trans hrow.out)
  try clear rc
  obtain ⟨-, C1, N1, c1, rfl, hl1, -⟩ | ⟨h0, -⟩ := hor
  rotate_left
  · exact absurd Hck.out h0
  rw [Hnm.out, Hp.out] at hl1
  have hn1 := hl1.1
  rw [HpL.out] at hn1
  subst hn1
  have P1 := Lib.hid hl1
  clear hl1
  clear hb
  have rc : w2.cell? ⟨R, 0, none⟩ = some (.slice A n cap) := by rw [cell_row hrow.out]; rfl
  go_wp2_with fail
  refine (levels25 A n cap zs A2 m cap2 L w2 S.out X.out Hm.out).mono ?_
  rintro en w3 ⟨hb, hor⟩
  replace S := Lib.hid (S.out.below hb (Nat.le_refl _))
  replace X := Lib.hid (X.out.below hb (Nat.le_refl _))
  replace Y := Lib.hid (Y.out.below hb (Nat.le_refl _))
  replace Z := Lib.hid (Z.out.below hb (Nat.le_refl _))
  replace U := Lib.hid (U.out.below hb (Nat.le_refl _))
  replace P1 := Lib.hid (P1.out.below hb (Nat.le_refl _))
  replace B := Lib.hid (B.out.trans (hb.mono B.out.size))
  replace hrow := Lib.hid ((hb.block R (lt_of_block hrow.out)).trans hrow.out)
  try clear rc
  obtain ⟨-, C2, N2, c2, rfl, hl2, -⟩ | ⟨h0, -⟩ := hor
  rotate_left
  · exact absurd Hck.out h0
  rw [Hnm.out] at hl2
  have HN2 := Lib.hid (show (mtS nm L).length = N2 by have := hl2.1; rw [← this]; simp [lvsS])
  have P2 := Lib.hid hl2
  clear hl2
  clear hb
  have rc : w3.cell? ⟨R, 0, none⟩ = some (.slice A n cap) := by rw [cell_row hrow.out]; rfl
  go_wp2_with fail
  refine (checkLevels27 A n cap zs A2 m cap2 L C2 N2 c2 (lvsS (mtS nm L) m) w3 S.out X.out Hm.out P2.out).mono ?_
  rintro en w4 ⟨hb, hor⟩
  replace S := Lib.hid (S.out.below hb (Nat.le_refl _))
  replace X := Lib.hid (X.out.below hb (Nat.le_refl _))
  replace Y := Lib.hid (Y.out.below hb (Nat.le_refl _))
  replace Z := Lib.hid (Z.out.below hb (Nat.le_refl _))
  replace U := Lib.hid (U.out.below hb (Nat.le_refl _))
  replace P1 := Lib.hid (P1.out.below hb (Nat.le_refl _))
  replace P2 := Lib.hid (P2.out.below hb (Nat.le_refl _))
  replace B := Lib.hid (B.out.trans (hb.mono B.out.size))
  replace hrow := Lib.hid ((hb.block R (lt_of_block hrow.out)).trans hrow.out)
  try clear rc
  obtain ⟨-, rfl⟩ | ⟨h0, -⟩ := hor
  rotate_left
  · exact absurd Hck.out h0
  rw [Hnm.out, ck_lvs HLV.out, HK.out]
  clear hb
  have rc : w4.cell? ⟨R, 0, none⟩ = some (.slice A n cap) := by rw [cell_row hrow.out]; rfl
  go_wp2_with fail
  refine (refCheckLevels28 A n cap zs A2 m cap2 L C2 N2 c2 (lvsS (mtS nm L) m) w4 S.out X.out Hm.out P2.out).mono ?_
  rintro en w5 ⟨hb, hor⟩
  replace S := Lib.hid (S.out.below hb (Nat.le_refl _))
  replace X := Lib.hid (X.out.below hb (Nat.le_refl _))
  replace Y := Lib.hid (Y.out.below hb (Nat.le_refl _))
  replace Z := Lib.hid (Z.out.below hb (Nat.le_refl _))
  replace U := Lib.hid (U.out.below hb (Nat.le_refl _))
  replace P1 := Lib.hid (P1.out.below hb (Nat.le_refl _))
  replace P2 := Lib.hid (P2.out.below hb (Nat.le_refl _))
  replace B := Lib.hid (B.out.trans (hb.mono B.out.size))
  replace hrow := Lib.hid ((hb.block R (lt_of_block hrow.out)).trans hrow.out)
  try clear rc
  obtain ⟨-, rfl⟩ | ⟨h0, -⟩ := hor
  rotate_left
  · exact absurd Hck.out h0
  rw [Hnm.out, ck_lvs HLV.out, HK.out]
  clear hb
  have rc : w5.cell? ⟨R, 0, none⟩ = some (.slice A n cap) := by rw [cell_row hrow.out]; rfl
  go_wp2_with fail
  refine (refPassage30 A n cap zs A2 m cap2 L C1 K c1 p w5 S.out X.out P1.out Hm.out).mono ?_
  rintro en w6 ⟨rfl, hb⟩
  replace S := Lib.hid (S.out.below hb (Nat.le_refl _))
  replace X := Lib.hid (X.out.below hb (Nat.le_refl _))
  replace Y := Lib.hid (Y.out.below hb (Nat.le_refl _))
  replace Z := Lib.hid (Z.out.below hb (Nat.le_refl _))
  replace U := Lib.hid (U.out.below hb (Nat.le_refl _))
  replace P1 := Lib.hid (P1.out.below hb (Nat.le_refl _))
  replace P2 := Lib.hid (P2.out.below hb (Nat.le_refl _))
  replace B := Lib.hid (B.out.trans (hb.mono B.out.size))
  replace hrow := Lib.hid ((hb.block R (lt_of_block hrow.out)).trans hrow.out)
  try clear rc
  rw [HpC.out]
  clear hb
  have rc : w6.cell? ⟨R, 0, none⟩ = some (.slice A n cap) := by rw [cell_row hrow.out]; rfl
  go_wp2_with fail
  refine (checkPassage29 A n cap zs A2 m cap2 L C1 K c1 p w6 S.out X.out P1.out Hm.out).mono ?_
  rintro en w7 ⟨rfl, hb⟩
  replace S := Lib.hid (S.out.below hb (Nat.le_refl _))
  replace X := Lib.hid (X.out.below hb (Nat.le_refl _))
  replace Y := Lib.hid (Y.out.below hb (Nat.le_refl _))
  replace Z := Lib.hid (Z.out.below hb (Nat.le_refl _))
  replace U := Lib.hid (U.out.below hb (Nat.le_refl _))
  replace P1 := Lib.hid (P1.out.below hb (Nat.le_refl _))
  replace P2 := Lib.hid (P2.out.below hb (Nat.le_refl _))
  replace B := Lib.hid (B.out.trans (hb.mono B.out.size))
  replace hrow := Lib.hid ((hb.block R (lt_of_block hrow.out)).trans hrow.out)
  try clear rc
  rw [HpC.out]
  clear hb
  have rc : w7.cell? ⟨R, 0, none⟩ = some (.slice A n cap) := by rw [cell_row hrow.out]; rfl
  go_wp2_with fail
  refine (climb41 A n cap zs A2 m cap2 L A3 nb cb w7 S.out X.out Hck.out U.out (by omega)).mono ?_
  rintro en w8 ⟨hb, C3, N3, c3, q, rfl, hl3, -, hq3⟩
  replace S := Lib.hid (S.out.below hb (Nat.le_refl _))
  replace X := Lib.hid (X.out.below hb (Nat.le_refl _))
  replace Y := Lib.hid (Y.out.below hb (Nat.le_refl _))
  replace Z := Lib.hid (Z.out.below hb (Nat.le_refl _))
  replace U := Lib.hid (U.out.below hb (Nat.le_refl _))
  replace P1 := Lib.hid (P1.out.below hb (Nat.le_refl _))
  replace P2 := Lib.hid (P2.out.below hb (Nat.le_refl _))
  replace B := Lib.hid (B.out.trans (hb.mono B.out.size))
  replace hrow := Lib.hid ((hb.block R (lt_of_block hrow.out)).trans hrow.out)
  try clear rc
  obtain ⟨hq4, hq5⟩ := chQ_ok Hlen.out Hck.out hq3
  rw [Hnm.out, HK.out, hl3.1] at hq5
  have HqC := Lib.hid hq4
  have dq : ¬ (K : Int) < (N3 : Int) := by omega
  have P3 := Lib.hid hl3
  clear hl3 hq3 hq4 hq5
  clear hb
  have rc : w8.cell? ⟨R, 0, none⟩ = some (.slice A n cap) := by rw [cell_row hrow.out]; rfl
  go_wp2_with fail
  refine (checkPassage29 A n cap zs A2 m cap2 L C3 N3 c3 q w8 S.out X.out P3.out Hm.out).mono ?_
  rintro en w9 ⟨rfl, hb⟩
  replace S := Lib.hid (S.out.below hb (Nat.le_refl _))
  replace X := Lib.hid (X.out.below hb (Nat.le_refl _))
  replace Y := Lib.hid (Y.out.below hb (Nat.le_refl _))
  replace Z := Lib.hid (Z.out.below hb (Nat.le_refl _))
  replace U := Lib.hid (U.out.below hb (Nat.le_refl _))
  replace P1 := Lib.hid (P1.out.below hb (Nat.le_refl _))
  replace P2 := Lib.hid (P2.out.below hb (Nat.le_refl _))
  replace P3 := Lib.hid (P3.out.below hb (Nat.le_refl _))
  replace B := Lib.hid (B.out.trans (hb.mono B.out.size))
  replace hrow := Lib.hid ((hb.block R (lt_of_block hrow.out)).trans hrow.out)
  try clear rc
  rw [HqC.out]
  clear hb
  have rc : w9.cell? ⟨R, 0, none⟩ = some (.slice A n cap) := by rw [cell_row hrow.out]; rfl
  go_wp2_with fail
  refine (checkPassage29 A n cap zs A2 m cap2 L A4 Ng cap4 gv w9 S.out X.out Y.out Hm.out).mono ?_
  rintro en w10 ⟨rfl, hb⟩
  replace S := Lib.hid (S.out.below hb (Nat.le_refl _))
  replace X := Lib.hid (X.out.below hb (Nat.le_refl _))
  replace Y := Lib.hid (Y.out.below hb (Nat.le_refl _))
  replace Z := Lib.hid (Z.out.below hb (Nat.le_refl _))
  replace U := Lib.hid (U.out.below hb (Nat.le_refl _))
  replace P1 := Lib.hid (P1.out.below hb (Nat.le_refl _))
  replace P2 := Lib.hid (P2.out.below hb (Nat.le_refl _))
  replace P3 := Lib.hid (P3.out.below hb (Nat.le_refl _))
  replace B := Lib.hid (B.out.trans (hb.mono B.out.size))
  replace hrow := Lib.hid ((hb.block R (lt_of_block hrow.out)).trans hrow.out)
  clear hb rc dq d6 d7 d8 h6 h7 h8
  have rc : w10.cell? ⟨R, 0, none⟩ = some (.slice A n cap) := by rw [cell_row hrow.out]; rfl
  obtain ⟨ge, hge⟩ : ∃ ge, ckPs zs L gv = ge := ⟨_, rfl⟩
  rw [hge]
  have Hge := Lib.hid hge
  clear hge
  by_cases hg0 : ge = 0
  rotate_left
  · have dg : (ge == 0) = false := by rw [beq_eq_false_iff_ne]; exact hg0
    clear hg0
    go_wp2_with fail
    clear dg
    try clear rc
    refine (checkLevels27 A n cap zs A2 m cap2 L G ng cg gs w10 S.out X.out Hm.out Z.out).mono ?_
    rintro en w11 ⟨hb, hor⟩
    obtain ⟨-, rfl⟩ | ⟨h0, -⟩ := hor
    rotate_left
    · exact absurd Hck.out h0
    rw [Hnm.out]
    replace S := Lib.hid (S.out.below hb (Nat.le_refl _))
    replace X := Lib.hid (X.out.below hb (Nat.le_refl _))
    replace Y := Lib.hid (Y.out.below hb (Nat.le_refl _))
    replace Z := Lib.hid (Z.out.below hb (Nat.le_refl _))
    replace U := Lib.hid (U.out.below hb (Nat.le_refl _))
    replace P1 := Lib.hid (P1.out.below hb (Nat.le_refl _))
    replace P2 := Lib.hid (P2.out.below hb (Nat.le_refl _))
    replace P3 := Lib.hid (P3.out.below hb (Nat.le_refl _))
    replace B := Lib.hid (B.out.trans (hb.mono B.out.size))
    replace hrow := Lib.hid ((hb.block R (lt_of_block hrow.out)).trans hrow.out)
    clear hb
    obtain ⟨ra, hra⟩ : ∃ ra, (ckLv (mtS nm L) m gs).1 = ra := ⟨_, rfl⟩
    obtain ⟨re, hre⟩ : ∃ re, (ckLv (mtS nm L) m gs).2 = re := ⟨_, rfl⟩
    rw [hra, hre]
    by_cases he0 : re = 0
    rotate_left
    · have de : (re != 0) = true := by rw [bne_iff_ne]; exact he0
      clear he0 hra hre
      go_wp2_with fail
      try clear rc
      refine (works14 w11).mono ?_
      rintro en w12 ⟨rfl, hb⟩
      replace B := Lib.hid (B.out.trans (hb.mono B.out.size))
      clear hb
      go_wp2_with fail
      go_ret
      exact ⟨rfl, B.out⟩
    subst he0
    obtain ⟨hr1, hr2, hr3⟩ := ck_right HLV.out hre
    rw [hra, HK.out] at hr2
    rw [HN2.out] at hr1 hr3
    rw [Z.out.1] at hr1
    subst hr1
    have Hr3 := Lib.hid hr3
    have dk : ¬ ra < (K : Int) := by omega
    clear hra hre hr2 hr3
    go_wp2_with fail
    go_loopw [22] (fun i wr => ∃ k : Nat, k ≤ ng ∧ i = .int .i64 (k : Int) ∧ Hid (Below w11.heap.size w11 wr)) (fun i _ => ng - (intOf i).toNat)
    case atStart => exact ⟨0, Nat.zero_le _, rfl, Lib.hid (Below.refl _ _)⟩
    case round =>
      obtain ⟨k, hk, rfl, HBl⟩ := hrel
      obtain ⟨wk, rfl⟩ : ∃ wk, wk = wr := ⟨_, rfl⟩
      by_cases hlt : k < ng
      · obtain ⟨b1, o1, rfl, hc1⟩ := (Z.out.below HBl.out (Nat.le_refl _)).2 (by omega)
        obtain ⟨b2, o2, rfl, hc2⟩ := (P2.out.below HBl.out (Nat.le_refl _)).2 (by omega)
        have x0 := hc1 k hlt
        have y0 := hc2 k hlt
        have h3 := Hr3.out k hlt
        obtain ⟨xv, hxv⟩ : ∃ xv, iAt gs k = xv := ⟨_, rfl⟩
        obtain ⟨yv, hyv⟩ : ∃ yv, iAt (lvsS (mtS nm L) m) k = yv := ⟨_, rfl⟩
        rw [hxv] at x0 h3
        rw [hyv] at y0 h3
        have d9 : ¬ xv < yv := by omega
        have qx : ∀ u, (wk.drewN u).cell? ⟨b1, o1 + k, none⟩ = some (.int .i64 xv) := fun u => x0
        have qy : ∀ u, (wk.drewN u).cell? ⟨b2, o2 + k, none⟩ = some (.int .i64 yv) := fun u => y0
        have i0 : (0 : Int) ≤ (k : Int) := by omega
        have i1 : (k : Int) < (ng : Int) := by omega
        clear hc1 hc2 h3 hxv hyv
        go_wp2_with fail
        go_quiet (fail)
        have HN := Lib.hid (HBl.out.trans ((drew_b wk nq).mono HBl.out.size))
        go_wp2_with fail
        go_roundw
        case rel => exact ⟨k + 1, by omega, by go_num, HN⟩
        case measure => simp [intOf]; omega
      · obtain rfl : k = ng := by omega
        replace B := Lib.hid (B.out.trans (HBl.out.mono B.out.size))
        go_wp2_with fail
        refine (works14 wk).mono ?_
        rintro en w99 ⟨rfl, hb⟩
        replace B := Lib.hid (B.out.trans (hb.mono B.out.size))
        clear hb
        go_wp2_with fail
        go_ret
        exact ⟨rfl, B.out⟩
  subst hg0
  have hgl := (chQ_ok Hlen.out Hck.out (chQ_of Hlen.out Hck.out Hge.out)).2
  rw [Hnm.out, HK.out, Y.out.1] at hgl
  have dg : ¬ (K : Int) < (Ng : Int) := by omega
  clear hgl
  go_wp2_with fail
  clear dg
  try clear rc
  refine (checkLevels27 A n cap zs A2 m cap2 L G ng cg gs w10 S.out X.out Hm.out Z.out).mono ?_
  rintro en w11 ⟨hb, hor⟩
  obtain ⟨-, rfl⟩ | ⟨h0, -⟩ := hor
  rotate_left
  · exact absurd Hck.out h0
  rw [Hnm.out]
  replace S := Lib.hid (S.out.below hb (Nat.le_refl _))
  replace X := Lib.hid (X.out.below hb (Nat.le_refl _))
  replace Y := Lib.hid (Y.out.below hb (Nat.le_refl _))
  replace Z := Lib.hid (Z.out.below hb (Nat.le_refl _))
  replace U := Lib.hid (U.out.below hb (Nat.le_refl _))
  replace P1 := Lib.hid (P1.out.below hb (Nat.le_refl _))
  replace P2 := Lib.hid (P2.out.below hb (Nat.le_refl _))
  replace P3 := Lib.hid (P3.out.below hb (Nat.le_refl _))
  replace B := Lib.hid (B.out.trans (hb.mono B.out.size))
  replace hrow := Lib.hid ((hb.block R (lt_of_block hrow.out)).trans hrow.out)
  clear hb
  obtain ⟨ra, hra⟩ : ∃ ra, (ckLv (mtS nm L) m gs).1 = ra := ⟨_, rfl⟩
  obtain ⟨re, hre⟩ : ∃ re, (ckLv (mtS nm L) m gs).2 = re := ⟨_, rfl⟩
  rw [hra, hre]
  by_cases he0 : re = 0
  rotate_left
  · have de : (re != 0) = true := by rw [bne_iff_ne]; exact he0
    clear he0 hra hre
    go_wp2_with fail
    try clear rc
    refine (works14 w11).mono ?_
    rintro en w12 ⟨rfl, hb⟩
    replace B := Lib.hid (B.out.trans (hb.mono B.out.size))
    clear hb
    go_wp2_with fail
    go_ret
    exact ⟨rfl, B.out⟩
  subst he0
  obtain ⟨hr1, hr2, hr3⟩ := ck_right HLV.out hre
  rw [hra, HK.out] at hr2
  rw [HN2.out] at hr1 hr3
  rw [Z.out.1] at hr1
  subst hr1
  have Hr3 := Lib.hid hr3
  have dk : ¬ ra < (K : Int) := by omega
  clear hra hre hr2 hr3
  go_wp2_with fail
  go_loopw [22] (fun i wr => ∃ k : Nat, k ≤ ng ∧ i = .int .i64 (k : Int) ∧ Hid (Below w11.heap.size w11 wr)) (fun i _ => ng - (intOf i).toNat)
  case atStart => exact ⟨0, Nat.zero_le _, rfl, Lib.hid (Below.refl _ _)⟩
  case round =>
    obtain ⟨k, hk, rfl, HBl⟩ := hrel
    obtain ⟨wk, rfl⟩ : ∃ wk, wk = wr := ⟨_, rfl⟩
    by_cases hlt : k < ng
    · obtain ⟨b1, o1, rfl, hc1⟩ := (Z.out.below HBl.out (Nat.le_refl _)).2 (by omega)
      obtain ⟨b2, o2, rfl, hc2⟩ := (P2.out.below HBl.out (Nat.le_refl _)).2 (by omega)
      have x0 := hc1 k hlt
      have y0 := hc2 k hlt
      have h3 := Hr3.out k hlt
      obtain ⟨xv, hxv⟩ : ∃ xv, iAt gs k = xv := ⟨_, rfl⟩
      obtain ⟨yv, hyv⟩ : ∃ yv, iAt (lvsS (mtS nm L) m) k = yv := ⟨_, rfl⟩
      rw [hxv] at x0 h3
      rw [hyv] at y0 h3
      have d9 : ¬ xv < yv := by omega
      have qx : ∀ u, (wk.drewN u).cell? ⟨b1, o1 + k, none⟩ = some (.int .i64 xv) := fun u => x0
      have qy : ∀ u, (wk.drewN u).cell? ⟨b2, o2 + k, none⟩ = some (.int .i64 yv) := fun u => y0
      have i0 : (0 : Int) ≤ (k : Int) := by omega
      have i1 : (k : Int) < (ng : Int) := by omega
      clear hc1 hc2 h3 hxv hyv
      go_wp2_with fail
      go_quiet (fail)
      have HN := Lib.hid (HBl.out.trans ((drew_b wk nq).mono HBl.out.size))
      go_wp2_with fail
      go_roundw
      case rel => exact ⟨k + 1, by omega, by go_num, HN⟩
      case measure => simp [intOf]; omega
    · obtain rfl : k = ng := by omega
      replace B := Lib.hid (B.out.trans (HBl.out.mono B.out.size))
      go_wp2_with fail
      refine (works14 wk).mono ?_
      rintro en w99 ⟨rfl, hb⟩
      replace B := Lib.hid (B.out.trans (hb.mono B.out.size))
      clear hb
      go_wp2_with fail
      go_ret
      exact ⟨rfl, B.out⟩
end
end Go.Proofs.Ythdjbapidodlfaa
