/- Stage 4: WordLongest, WordGrades. -/
import Derived.Test.YthdjbapidodlfaaZm
import Derived.Test.YthdjbapidodlfaaDoc
namespace Go.Proofs.Ythdjbapidodlfaa
set_option linter.unusedSimpArgs false
set_option linter.unusedVariables false
open Go.RowKit Go.Shelf
/-- A list of matches, or the error. -/
def LsQ (zs : List Rg) (L Xs : List (List Int)) (w : World) (e : Ending) (w' : World) : Prop := Below w.heap.size w w' ∧ ∃ C N c, e = .returned (.tuple #[.slice C N c, .int .i64 (chkL zs L)]) ∧ Lns w' C N (if chkL zs L = 0 then Xs else [])
theorem lsQ {f : Nat} {args : Array Value} {zs : List Rg} {L Xs : List (List Int)} {w : World} (h : Calls Try.prog f args w fun e w' => Below w.heap.size w w' ∧
   ((chkL zs L = 0 ∧ ∃ C N c, e = .returned (.tuple #[.slice C N c, .int .i64 0]) ∧ Lns w' C N Xs) ∨ (chkL zs L ≠ 0 ∧ e = .returned (.tuple #[.slice none 0 0, .int .i64 (chkL zs L)])))) : Calls Try.prog f args w fun e w' => LsQ zs L Xs w e w' := by
 refine h.mono ?_
 rintro e w' ⟨hb, ⟨h0, C, N, c, rfl, hl⟩ | ⟨h0, rfl⟩⟩
 ·exact ⟨hb, C, N, c, by rw [h0], by rw [if_pos h0]; exact hl⟩
 ·exact ⟨hb, none, 0, 0, rfl, by rw [if_neg h0]; exact lns_nil _⟩
theorem lsQ2 {f : Nat} {args : Array Value} {zs : List Rg} {L Xs : List (List Int)} {w : World} (h : Calls Try.prog f args w fun e w' => Below w.heap.size w w' ∧
   ((chkL zs L = 0 ∧ ∃ C N c, e = .returned (.tuple #[.slice C N c, .int .i64 0]) ∧ Lns w' C N Xs ∧ N ≤ c) ∨ (chkL zs L ≠ 0 ∧ e = .returned (.tuple #[.slice none 0 0, .int .i64 (chkL zs L)])))) : Calls Try.prog f args w fun e w' => LsQ zs L Xs w e w' :=
 lsQ (h.mono fun e w' ⟨hb, hr⟩ => ⟨hb, hr.imp (fun ⟨h0, C, N, c, he, hl, _⟩ => ⟨h0, C, N, c, he, hl⟩) id⟩)
/-- How many, or the error. -/
def CnQ (zs : List Rg) (L : List (List Int)) (k : Int) (w : World) (e : Ending) (w' : World) : Prop := Below w.heap.size w w' ∧ e = .returned (.tuple #[.int .i64 (if chkL zs L = 0 then k else 0), .int .i64 (chkL zs L)])
theorem cnQ {f : Nat} {args : Array Value} {zs : List Rg} {L : List (List Int)} {k : Int} {w : World} (h : Calls Try.prog f args w fun e w' => Below w.heap.size w w' ∧
   ((chkL zs L = 0 ∧ e = .returned (.tuple #[.int .i64 k, .int .i64 0])) ∨ (chkL zs L ≠ 0 ∧ e = .returned (.tuple #[.int .i64 0, .int .i64 (chkL zs L)])))) : Calls Try.prog f args w fun e w' => CnQ zs L k w e w' := by
 refine h.mono ?_
 rintro e w' ⟨hb, ⟨h0, rfl⟩ | ⟨h0, rfl⟩⟩
 ·exact ⟨hb, by rw [if_pos h0, h0]⟩
 ·exact ⟨hb, by rw [if_neg h0]⟩
/-- The grades of a hearer, or the error. -/
def grR (zs : List Rg) (L : List (List Int)) (m : Nat) (hv : Int) : List Int := if chkL zs L = 0 ∧ 0 ≤ hv ∧ hv < (m : Int) then grS (cls (prs zs)) L m hv.toNat else []
def grE (zs : List Rg) (L : List (List Int)) (m : Nat) (hv : Int) : Int := if chkL zs L ≠ 0 then chkL zs L else if 0 ≤ hv ∧ hv < (m : Int) then 0 else 3
def GrQ (zs : List Rg) (L : List (List Int)) (m : Nat) (hv : Int) (w : World) (e : Ending) (w' : World) : Prop := Below w.heap.size w w' ∧ ∃ C N c, e = .returned (.tuple #[.slice C N c, .int .i64 (grE zs L m hv)]) ∧ Ints w' C N (grR zs L m hv)
theorem grQ {f : Nat} {args : Array Value} {zs : List Rg} {L : List (List Int)} {m : Nat} {hv : Int} {w : World} (h : Calls Try.prog f args w fun e w' => Below w.heap.size w w' ∧
   ((chkL zs L = 0 ∧ ((∃ (h : Nat) (C : Option Addr) (c : Nat), hv = (h : Int) ∧ h < m ∧ e = .returned (.tuple #[.slice C (lAt L h).length c, .int .i64 0]) ∧ Ints w' C (lAt L h).length (grS (cls (prs zs)) L m h)) ∨ (¬ (0 ≤ hv ∧ hv < (m : Int)) ∧ e = .returned (.tuple #[.slice none 0 0, .int .i64 3])))) ∨
   (chkL zs L ≠ 0 ∧ e = .returned (.tuple #[.slice none 0 0, .int .i64 (chkL zs L)])))) : Calls Try.prog f args w fun e w' => GrQ zs L m hv w e w' := by
 refine h.mono ?_
 rintro e w' ⟨hb, ⟨h0, ⟨u, C, c, rfl, hm, rfl, hi⟩ | ⟨hr, rfl⟩⟩ | ⟨h0, rfl⟩⟩
 ·have h1 : 0 ≤ (u : Int) ∧ (u : Int) < (m : Int) := by omega
  refine ⟨hb, C, _, c, by unfold grE; rw [if_neg (by simpa using h0), if_pos h1], ?_⟩
  unfold grR
  rw [if_pos ⟨h0, h1⟩]
  exact hi
 ·refine ⟨hb, none, 0, 0, by unfold grE; rw [if_neg (by simpa using h0), if_neg hr], ?_⟩
  unfold grR
  rw [if_neg (fun h => hr h.2)]
  exact ints_nil _
 ·refine ⟨hb, none, 0, 0, by unfold grE; rw [if_pos h0], ?_⟩
  unfold grR
  rw [if_neg (fun h => h0 h.1)]
  exact ints_nil _
theorem grQ2 {f : Nat} {args : Array Value} {zs : List Rg} {L : List (List Int)} {m : Nat} {hv : Int} {w : World} (h : Calls Try.prog f args w fun e w' => Below w.heap.size w w' ∧
   ((chkL zs L = 0 ∧ ((∃ (h : Nat) (C : Option Addr) (c : Nat), hv = (h : Int) ∧ h < m ∧ e = .returned (.tuple #[.slice C (lAt L h).length c, .int .i64 0]) ∧ Ints w' C (lAt L h).length (grS (cls (prs zs)) L m h) ∧ (lAt L h).length ≤ c) ∨ (¬ (0 ≤ hv ∧ hv < (m : Int)) ∧ e = .returned (.tuple #[.slice none 0 0, .int .i64 3])))) ∨
   (chkL zs L ≠ 0 ∧ e = .returned (.tuple #[.slice none 0 0, .int .i64 (chkL zs L)])))) : Calls Try.prog f args w fun e w' => GrQ zs L m hv w e w' :=
 grQ (h.mono fun e w' ⟨hb, hr⟩ => ⟨hb, hr.imp (fun ⟨h0, h1⟩ => ⟨h0, h1.imp (fun ⟨h, C, c, a, b, d, i, _⟩ => ⟨h, C, c, a, b, d, i⟩) id⟩) id⟩)
theorem grR_len {zs : List Rg} {L : List (List Int)} {m : Nat} {hv : Int} (hl : L.length = m) : (grR zs L m hv).length ≤ 10000 := by
 unfold grR
 split
 ·rename_i h
  have hL := lv_of hl h.1
  rw [grS_len]
  have := hL.le8 hv.toNat (by omega)
  omega
 ·exact Nat.zero_le _
/-- What is compared is not too long. -/
theorem ls_small {zs : List Rg} {L Xs : List (List Int)} {m : Nat} (h : chkL zs L = 0 → Xs.length ≤ 10000 ∧ ∀ x ∈ Xs, x.length ≤ 1000) : (if chkL zs L = 0 then Xs else []).length ≤ 10000 ∧ ∀ j, (lAt (if chkL zs L = 0 then Xs else []) j).length ≤ 1000 := by
 split
 ·rename_i h0
  exact ⟨(h h0).1, lAt_le (h h0).2⟩
 ·exact ⟨Nat.zero_le _, fun j => lAt_le (fun x hx => by cases hx) j⟩
theorem fst_small {zs : List Rg} {L : List (List Int)} {m : Nat} (hl : L.length = m) (h0 : chkL zs L = 0) : ((fstS (cls (prs zs)) L m (mtS (cls (prs zs)) L)).map (·.take m)).length ≤ 10000 ∧ ∀ x ∈ (fstS (cls (prs zs)) L m (mtS (cls (prs zs)) L)).map (·.take m), x.length ≤ 1000 := by
 have hL := lv_of hl h0
 have h1 := lg_lens (nm := cls (prs zs)) (p := (fstS (cls (prs zs)) L m (mtS (cls (prs zs)) L)).map (·.take m)) hL ⟨_, fst_lng hL, rfl⟩
 refine ⟨by omega, fun x hx => ?_⟩
 obtain ⟨y, _, rfl⟩ := List.mem_map.1 hx
 rw [List.length_take]
 have := hL.hi
 omega
theorem crt_small {zs : List Rg} {L : List (List Int)} {m : Nat} (hl : L.length = m) (h0 : chkL zs L = 0) : ((crtS (cls (prs zs)) L m (mtS (cls (prs zs)) L)).map (·.take m)).length ≤ 10000 ∧ ∀ x ∈ (crtS (cls (prs zs)) L m (mtS (cls (prs zs)) L)).map (·.take m), x.length ≤ 1000 := by
 have hL := lv_of hl h0
 refine ⟨?_, fun x hx => ?_⟩
 ·rw [List.length_map]
  unfold crtS
  exact Nat.le_trans (List.length_filter_le ..) (Nat.le_trans (mtS_len hL).1 (by omega))
 ·obtain ⟨y, _, rfl⟩ := List.mem_map.1 hx
  rw [List.length_take]
  have := hL.hi
  omega
theorem dn_few {n : Nat} {zs : List Rg} {L : List (List Int)} (hg : grtB n L = false) (hd : dnB n zs L 16 = false) : chkL zs L = 0 → (mtS (cls (prs zs)) L).length ≤ 16 := fun h0 => by
 unfold dnB at hd
 rw [hg, decide_eq_true h0] at hd
 have h1 := of_decide_eq_false (by simpa using hd : decide ((16 : Int) < ((mtS (cls (prs zs)) L).length : Int)) = false)
 omega
section
attribute [local go_sem ↓] exec_app at_app
attribute [local go_sem] Oper.semAt_some
set_option maxRecDepth 100000 in
set_option maxHeartbeats 40000000 in
theorem longest5 (A : Option Addr) (n cap : Nat) (zs : List Rg) (A2 : Option Addr) (m cap2 : Nat) (L : List (List Int)) (w : World) (h : Rgs w A n zs) (hL : Lns w A2 m L) :
  Calls Try.prog 5 #[.agg #[.slice A n cap], .slice A2 m cap2] w fun e w' => e = .returned (.bool true) ∧ Below w.heap.size w w' := by
 have Hlen := Lib.hid hL.1
 have hb0 := below_alloc_ w (.cells #[.slice A n cap] 24)
 have hr0 := heap_alloc_new_ w (.cells #[.slice A n cap] 24)
 obtain ⟨w0, hW0⟩ : ∃ w0, w.alloc (.cells #[.slice A n cap] 24) = w0 := ⟨_, rfl⟩
 obtain ⟨R, hR⟩ : ∃ R, w.heap.size = R := ⟨_, rfl⟩
 rw [hW0] at hb0 hr0
 rw [hR] at hr0
 have S := Lib.hid (h.below hb0 (Nat.le_refl _))
 have X := Lib.hid (hL.below hb0 (Nat.le_refl _))
 have B := Lib.hid hb0
 have HW0 := Lib.hid hW0
 have HR := Lib.hid hR
 have rc : w0.cell? ⟨R, 0, none⟩ = some (.slice A n cap) := by rw [cell_row hr0]; rfl
 have hrow := Lib.hid hr0
 clear h hL hb0 hr0 hW0 hR
 go_enter Try.func5, Try.ntmps5
 go_wp2_with fail
 rw [HW0.out]
 try rw [HR.out]
 try go_wp2_with fail
 refine (great13 A n cap A2 m cap2 L w0 X.out).mono ?_
 rintro en w1 ⟨rfl, hb⟩
 replace S := Lib.hid (S.out.below hb (Nat.le_refl _))
 replace X := Lib.hid (X.out.below hb (Nat.le_refl _))
 replace B := Lib.hid (B.out.trans (hb.mono B.out.size))
 replace hrow := Lib.hid ((hb.block R (lt_of_block hrow.out)).trans hrow.out)
 clear hb rc
 cases hg : grtB n L
 rotate_left
 ·clear hg
  go_wp2_with fail
  try clear rc
  refine (works14 w1).mono ?_
  rintro en w2 ⟨rfl, hb⟩
  replace B := Lib.hid (B.out.trans (hb.mono B.out.size))
  clear hb
  go_wp2_with fail
  go_ret
  exact ⟨rfl, B.out⟩
 have HG := Lib.hid hg
 have hm : m ≤ 9223372036854775807 := by
  have h8 := grtB_m hg
  rw [Hlen.out] at h8
  omega
 clear hg
 have rc : w1.cell? ⟨R, 0, none⟩ = some (.slice A n cap) := by rw [cell_row hrow.out]; rfl
 go_wp2_with fail
 refine (dense24 A n cap zs A2 m cap2 L 16 w1 S.out X.out).mono ?_
 rintro en w2 ⟨rfl, hb⟩
 replace S := Lib.hid (S.out.below hb (Nat.le_refl _))
 replace X := Lib.hid (X.out.below hb (Nat.le_refl _))
 replace B := Lib.hid (B.out.trans (hb.mono B.out.size))
 replace hrow := Lib.hid ((hb.block R (lt_of_block hrow.out)).trans hrow.out)
 clear hb rc
 obtain ⟨dn, hdn⟩ : ∃ dn, dnB n zs L 16 = dn := ⟨_, rfl⟩
 rw [hdn]
 cases dn
 rotate_left
 ·clear hdn
  go_wp2_with fail
  try clear rc
  refine (works14 w2).mono ?_
  rintro en w3 ⟨rfl, hb⟩
  replace B := Lib.hid (B.out.trans (hb.mono B.out.size))
  clear hb
  go_wp2_with fail
  go_ret
  exact ⟨rfl, B.out⟩
 have H16 := Lib.hid (dn_few HG.out hdn)
 clear hdn
 have rc : w2.cell? ⟨R, 0, none⟩ = some (.slice A n cap) := by rw [cell_row hrow.out]; rfl
 go_wp2_with fail
 have SP := Lib.hid (ls_small (m := m) (fst_small (zs := zs) Hlen.out))
 have SC := Lib.hid (ls_small (m := m) (crt_small (zs := zs) Hlen.out))
 obtain ⟨xp, hxp⟩ : ∃ xp, (if chkL zs L = 0 then (fstS (cls (prs zs)) L m (mtS (cls (prs zs)) L)).map (·.take m) else []) = xp := ⟨_, rfl⟩
 obtain ⟨xc, hxc⟩ : ∃ xc, (if chkL zs L = 0 then (crtS (cls (prs zs)) L m (mtS (cls (prs zs)) L)).map (·.take m) else []) = xc := ⟨_, rfl⟩
 obtain ⟨ck, hck⟩ : ∃ ck, (if chkL zs L = 0 then cntS (allK (mtS (cls (prs zs)) L) m) else 0) = ck := ⟨_, rfl⟩
 obtain ⟨ce, hce⟩ : ∃ ce, chkL zs L = ce := ⟨_, rfl⟩
 rw [hxp] at SP
 rw [hxc] at SC
 have Hxp := Lib.hid hxp
 have Hxc := Lib.hid hxc
 have Hck := Lib.hid hck
 have Hce := Lib.hid hce
 clear hxp hxc hck hce
 refine (lsQ2 (longest32 A n cap zs A2 m cap2 L w2 S.out X.out hm)).mono ?_
 rintro en w3 ⟨hb, C1, N1, c1, rfl, hl1⟩
 replace S := Lib.hid (S.out.below hb (Nat.le_refl _))
 replace X := Lib.hid (X.out.below hb (Nat.le_refl _))
 replace B := Lib.hid (B.out.trans (hb.mono B.out.size))
 replace hrow := Lib.hid ((hb.block R (lt_of_block hrow.out)).trans hrow.out)
 try clear rc
 rw [Hxp.out] at hl1
 have P1 := Lib.hid hl1
 clear hl1
 rw [Hce.out]
 clear hb
 have rc : w3.cell? ⟨R, 0, none⟩ = some (.slice A n cap) := by rw [cell_row hrow.out]; rfl
 go_wp2_with fail
 refine (lsQ (refLongest33 A n cap zs A2 m cap2 L w3 S.out X.out hm H16.out)).mono ?_
 rintro en w4 ⟨hb, C2, N2, c2, rfl, hl2⟩
 replace S := Lib.hid (S.out.below hb (Nat.le_refl _))
 replace X := Lib.hid (X.out.below hb (Nat.le_refl _))
 replace P1 := Lib.hid (P1.out.below hb (Nat.le_refl _))
 replace B := Lib.hid (B.out.trans (hb.mono B.out.size))
 replace hrow := Lib.hid ((hb.block R (lt_of_block hrow.out)).trans hrow.out)
 try clear rc
 rw [Hxp.out] at hl2
 have P2 := Lib.hid hl2
 clear hl2
 rw [Hce.out]
 clear hb
 have rc : w4.cell? ⟨R, 0, none⟩ = some (.slice A n cap) := by rw [cell_row hrow.out]; rfl
 go_wp2_with fail
 refine (cnQ (count34 A n cap zs A2 m cap2 L w4 S.out X.out hm)).mono ?_
 rintro en w5 ⟨hb, rfl⟩
 replace S := Lib.hid (S.out.below hb (Nat.le_refl _))
 replace X := Lib.hid (X.out.below hb (Nat.le_refl _))
 replace P1 := Lib.hid (P1.out.below hb (Nat.le_refl _))
 replace P2 := Lib.hid (P2.out.below hb (Nat.le_refl _))
 replace B := Lib.hid (B.out.trans (hb.mono B.out.size))
 replace hrow := Lib.hid ((hb.block R (lt_of_block hrow.out)).trans hrow.out)
 try clear rc
 rw [Hck.out, Hce.out]
 clear hb
 have rc : w5.cell? ⟨R, 0, none⟩ = some (.slice A n cap) := by rw [cell_row hrow.out]; rfl
 go_wp2_with fail
 refine (cnQ (refCount35 A n cap zs A2 m cap2 L w5 S.out X.out hm H16.out)).mono ?_
 rintro en w6 ⟨hb, rfl⟩
 replace S := Lib.hid (S.out.below hb (Nat.le_refl _))
 replace X := Lib.hid (X.out.below hb (Nat.le_refl _))
 replace P1 := Lib.hid (P1.out.below hb (Nat.le_refl _))
 replace P2 := Lib.hid (P2.out.below hb (Nat.le_refl _))
 replace B := Lib.hid (B.out.trans (hb.mono B.out.size))
 replace hrow := Lib.hid ((hb.block R (lt_of_block hrow.out)).trans hrow.out)
 try clear rc
 rw [Hck.out, Hce.out]
 clear hb
 have rc : w6.cell? ⟨R, 0, none⟩ = some (.slice A n cap) := by rw [cell_row hrow.out]; rfl
 go_wp2_with fail
 refine (lsQ2 (certain36 A n cap zs A2 m cap2 L w6 S.out X.out hm)).mono ?_
 rintro en w7 ⟨hb, C3, N3, c3, rfl, hl3⟩
 replace S := Lib.hid (S.out.below hb (Nat.le_refl _))
 replace X := Lib.hid (X.out.below hb (Nat.le_refl _))
 replace P1 := Lib.hid (P1.out.below hb (Nat.le_refl _))
 replace P2 := Lib.hid (P2.out.below hb (Nat.le_refl _))
 replace B := Lib.hid (B.out.trans (hb.mono B.out.size))
 replace hrow := Lib.hid ((hb.block R (lt_of_block hrow.out)).trans hrow.out)
 try clear rc
 rw [Hxc.out] at hl3
 have P3 := Lib.hid hl3
 clear hl3
 rw [Hce.out]
 clear hb
 have rc : w7.cell? ⟨R, 0, none⟩ = some (.slice A n cap) := by rw [cell_row hrow.out]; rfl
 go_wp2_with fail
 refine (lsQ (refCertain37 A n cap zs A2 m cap2 L w7 S.out X.out hm H16.out)).mono ?_
 rintro en w8 ⟨hb, C4, N4, c4, rfl, hl4⟩
 replace S := Lib.hid (S.out.below hb (Nat.le_refl _))
 replace X := Lib.hid (X.out.below hb (Nat.le_refl _))
 replace P1 := Lib.hid (P1.out.below hb (Nat.le_refl _))
 replace P2 := Lib.hid (P2.out.below hb (Nat.le_refl _))
 replace P3 := Lib.hid (P3.out.below hb (Nat.le_refl _))
 replace B := Lib.hid (B.out.trans (hb.mono B.out.size))
 replace hrow := Lib.hid ((hb.block R (lt_of_block hrow.out)).trans hrow.out)
 try clear rc
 rw [Hxc.out] at hl4
 have P4 := Lib.hid hl4
 clear hl4
 rw [Hce.out]
 clear hb
 have rc : w8.cell? ⟨R, 0, none⟩ = some (.slice A n cap) := by rw [cell_row hrow.out]; rfl
 go_wp2_with fail
 refine (matches23 C1 N1 c1 xp C2 N2 c2 xp w8 P1.out P2.out (fun j _ => SP.out.2 j) (by rw [← P1.out.1]; exact SP.out.1)).mono ?_
 rintro en w9 ⟨rfl, hb⟩
 replace S := Lib.hid (S.out.below hb (Nat.le_refl _))
 replace X := Lib.hid (X.out.below hb (Nat.le_refl _))
 replace P1 := Lib.hid (P1.out.below hb (Nat.le_refl _))
 replace P2 := Lib.hid (P2.out.below hb (Nat.le_refl _))
 replace P3 := Lib.hid (P3.out.below hb (Nat.le_refl _))
 replace P4 := Lib.hid (P4.out.below hb (Nat.le_refl _))
 replace B := Lib.hid (B.out.trans (hb.mono B.out.size))
 replace hrow := Lib.hid ((hb.block R (lt_of_block hrow.out)).trans hrow.out)
 try clear rc
 rw [decide_eq_true (rfl : xp = xp)]
 clear hb
 have rc : w9.cell? ⟨R, 0, none⟩ = some (.slice A n cap) := by rw [cell_row hrow.out]; rfl
 go_wp2_with fail
 refine (matches23 C3 N3 c3 xc C4 N4 c4 xc w9 P3.out P4.out (fun j _ => SC.out.2 j) (by rw [← P3.out.1]; exact SC.out.1)).mono ?_
 rintro en w10 ⟨rfl, hb⟩
 replace S := Lib.hid (S.out.below hb (Nat.le_refl _))
 replace X := Lib.hid (X.out.below hb (Nat.le_refl _))
 replace P1 := Lib.hid (P1.out.below hb (Nat.le_refl _))
 replace P2 := Lib.hid (P2.out.below hb (Nat.le_refl _))
 replace P3 := Lib.hid (P3.out.below hb (Nat.le_refl _))
 replace P4 := Lib.hid (P4.out.below hb (Nat.le_refl _))
 replace B := Lib.hid (B.out.trans (hb.mono B.out.size))
 replace hrow := Lib.hid ((hb.block R (lt_of_block hrow.out)).trans hrow.out)
 try clear rc
 rw [decide_eq_true (rfl : xc = xc)]
 clear hb
 have rc : w10.cell? ⟨R, 0, none⟩ = some (.slice A n cap) := by rw [cell_row hrow.out]; rfl
 go_wp2_with fail
 try clear rc
 refine (works14 w10).mono ?_
 rintro en w11 ⟨rfl, hb⟩
 replace B := Lib.hid (B.out.trans (hb.mono B.out.size))
 clear hb
 go_wp2_with fail
 go_ret
 exact ⟨rfl, B.out⟩
set_option maxRecDepth 100000 in
set_option maxHeartbeats 40000000 in
theorem grades6 (A : Option Addr) (n cap : Nat) (zs : List Rg) (A2 : Option Addr) (m cap2 : Nat) (L : List (List Int)) (hv : Int) (w : World) (h : Rgs w A n zs) (hL : Lns w A2 m L) :
  Calls Try.prog 6 #[.agg #[.slice A n cap], .slice A2 m cap2, .int .i64 hv] w fun e w' => e = .returned (.bool true) ∧ Below w.heap.size w w' := by
 have Hlen := Lib.hid hL.1
 have hb0 := below_alloc_ w (.cells #[.slice A n cap] 24)
 have hr0 := heap_alloc_new_ w (.cells #[.slice A n cap] 24)
 obtain ⟨w0, hW0⟩ : ∃ w0, w.alloc (.cells #[.slice A n cap] 24) = w0 := ⟨_, rfl⟩
 obtain ⟨R, hR⟩ : ∃ R, w.heap.size = R := ⟨_, rfl⟩
 rw [hW0] at hb0 hr0
 rw [hR] at hr0
 have S := Lib.hid (h.below hb0 (Nat.le_refl _))
 have X := Lib.hid (hL.below hb0 (Nat.le_refl _))
 have B := Lib.hid hb0
 have HW0 := Lib.hid hW0
 have HR := Lib.hid hR
 have rc : w0.cell? ⟨R, 0, none⟩ = some (.slice A n cap) := by rw [cell_row hr0]; rfl
 have hrow := Lib.hid hr0
 clear h hL hb0 hr0 hW0 hR
 go_enter Try.func6, Try.ntmps6
 go_wp2_with fail
 rw [HW0.out]
 try rw [HR.out]
 try go_wp2_with fail
 refine (great13 A n cap A2 m cap2 L w0 X.out).mono ?_
 rintro en w1 ⟨rfl, hb⟩
 replace S := Lib.hid (S.out.below hb (Nat.le_refl _))
 replace X := Lib.hid (X.out.below hb (Nat.le_refl _))
 replace B := Lib.hid (B.out.trans (hb.mono B.out.size))
 replace hrow := Lib.hid ((hb.block R (lt_of_block hrow.out)).trans hrow.out)
 clear hb rc
 cases hg : grtB n L
 rotate_left
 ·clear hg
  go_wp2_with fail
  try clear rc
  refine (works14 w1).mono ?_
  rintro en w2 ⟨rfl, hb⟩
  replace B := Lib.hid (B.out.trans (hb.mono B.out.size))
  clear hb
  go_wp2_with fail
  go_ret
  exact ⟨rfl, B.out⟩
 have HG := Lib.hid hg
 have hm : m ≤ 9223372036854775807 := by
  have h8 := grtB_m hg
  rw [Hlen.out] at h8
  omega
 clear hg
 have rc : w1.cell? ⟨R, 0, none⟩ = some (.slice A n cap) := by rw [cell_row hrow.out]; rfl
 go_wp2_with fail
 refine (dense24 A n cap zs A2 m cap2 L 16 w1 S.out X.out).mono ?_
 rintro en w2 ⟨rfl, hb⟩
 replace S := Lib.hid (S.out.below hb (Nat.le_refl _))
 replace X := Lib.hid (X.out.below hb (Nat.le_refl _))
 replace B := Lib.hid (B.out.trans (hb.mono B.out.size))
 replace hrow := Lib.hid ((hb.block R (lt_of_block hrow.out)).trans hrow.out)
 clear hb rc
 obtain ⟨dn, hdn⟩ : ∃ dn, dnB n zs L 16 = dn := ⟨_, rfl⟩
 rw [hdn]
 cases dn
 rotate_left
 ·clear hdn
  go_wp2_with fail
  try clear rc
  refine (works14 w2).mono ?_
  rintro en w3 ⟨rfl, hb⟩
  replace B := Lib.hid (B.out.trans (hb.mono B.out.size))
  clear hb
  go_wp2_with fail
  go_ret
  exact ⟨rfl, B.out⟩
 have H16 := Lib.hid (dn_few HG.out hdn)
 clear hdn
 have rc : w2.cell? ⟨R, 0, none⟩ = some (.slice A n cap) := by rw [cell_row hrow.out]; rfl
 go_wp2_with fail
 have SG := Lib.hid (grR_len (zs := zs) (hv := hv) Hlen.out)
 obtain ⟨gr, hgr⟩ : ∃ gr, grR zs L m hv = gr := ⟨_, rfl⟩
 obtain ⟨ge, hge⟩ : ∃ ge, grE zs L m hv = ge := ⟨_, rfl⟩
 rw [hgr] at SG
 have Hgr := Lib.hid hgr
 have Hge := Lib.hid hge
 clear hgr hge
 refine (grQ2 (grades38 A n cap zs A2 m cap2 L hv w2 S.out X.out hm)).mono ?_
 rintro en w3 ⟨hb, C1, N1, c1, rfl, hl1⟩
 replace S := Lib.hid (S.out.below hb (Nat.le_refl _))
 replace X := Lib.hid (X.out.below hb (Nat.le_refl _))
 replace B := Lib.hid (B.out.trans (hb.mono B.out.size))
 replace hrow := Lib.hid ((hb.block R (lt_of_block hrow.out)).trans hrow.out)
 try clear rc
 rw [Hgr.out] at hl1
 have P1 := Lib.hid hl1
 clear hl1
 rw [Hge.out]
 clear hb
 have rc : w3.cell? ⟨R, 0, none⟩ = some (.slice A n cap) := by rw [cell_row hrow.out]; rfl
 go_wp2_with fail
 refine (grQ (refGrades39 A n cap zs A2 m cap2 L hv w3 S.out X.out hm H16.out)).mono ?_
 rintro en w4 ⟨hb, C2, N2, c2, rfl, hl2⟩
 replace S := Lib.hid (S.out.below hb (Nat.le_refl _))
 replace X := Lib.hid (X.out.below hb (Nat.le_refl _))
 replace P1 := Lib.hid (P1.out.below hb (Nat.le_refl _))
 replace B := Lib.hid (B.out.trans (hb.mono B.out.size))
 replace hrow := Lib.hid ((hb.block R (lt_of_block hrow.out)).trans hrow.out)
 try clear rc
 rw [Hgr.out] at hl2
 have P2 := Lib.hid hl2
 clear hl2
 rw [Hge.out]
 clear hb
 have rc : w4.cell? ⟨R, 0, none⟩ = some (.slice A n cap) := by rw [cell_row hrow.out]; rfl
 go_wp2_with fail
 refine (ints31 C1 N1 c1 gr C2 N2 c2 gr w4 P1.out P2.out (by rw [← P1.out.1]; exact SG.out)).mono ?_
 rintro en w5 ⟨rfl, hb⟩
 replace S := Lib.hid (S.out.below hb (Nat.le_refl _))
 replace X := Lib.hid (X.out.below hb (Nat.le_refl _))
 replace P1 := Lib.hid (P1.out.below hb (Nat.le_refl _))
 replace P2 := Lib.hid (P2.out.below hb (Nat.le_refl _))
 replace B := Lib.hid (B.out.trans (hb.mono B.out.size))
 replace hrow := Lib.hid ((hb.block R (lt_of_block hrow.out)).trans hrow.out)
 try clear rc
 rw [decide_eq_true (rfl : gr = gr)]
 clear hb
 have rc : w5.cell? ⟨R, 0, none⟩ = some (.slice A n cap) := by rw [cell_row hrow.out]; rfl
 go_wp2_with fail
 try clear rc
 refine (works14 w5).mono ?_
 rintro en w6 ⟨rfl, hb⟩
 replace B := Lib.hid (B.out.trans (hb.mono B.out.size))
 clear hb
 go_wp2_with fail
 go_ret
 exact ⟨rfl, B.out⟩
end
end Go.Proofs.Ythdjbapidodlfaa
