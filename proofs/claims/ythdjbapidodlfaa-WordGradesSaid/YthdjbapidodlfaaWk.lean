/- Stage 4: Works. -/
import Derived.Test.YthdjbapidodlfaaU1
import Derived.Test.YthdjbapidodlfaaR30
import Derived.Test.YthdjbapidodlfaaAl2
namespace Go.Proofs.Ythdjbapidodlfaa
set_option linter.unusedSimpArgs false
set_option linter.unusedVariables false
open Go.RowKit Go.Shelf
def zX : List Rg := [⟨2, 5⟩]
def lX : List (List Int) := [[1, 2, 3, 4], [1, 3, 5, 4]]
set_option maxRecDepth 100000
theorem x_ok : chkL zX lX = 0 := by decide
theorem x_mt : mtS (cls (prs zX)) lX = [[0, 0, 0, 0], [1, 2, 0, 0], [2, 1, 0, 0], [3, 3, 0, 0]] := by kernel_rfl
theorem x_lv : lvsS (mtS (cls (prs zX)) lX) 2 = [1, 2, 2, 3] := by rw [x_mt]; kernel_rfl
theorem x_cnt : cntS (allK (mtS (cls (prs zX)) lX) 2) = 2 := by rw [x_mt]; kernel_rfl
theorem x_fst : fstS (cls (prs zX)) lX 2 (mtS (cls (prs zX)) lX) = [[0, 0, 0, 0], [1, 2, 0, 0], [3, 3, 0, 0]] := by kernel_rfl
theorem x_crt : crtS (cls (prs zX)) lX 2 (mtS (cls (prs zX)) lX) = [[0, 0, 0, 0], [3, 3, 0, 0]] := by kernel_rfl
theorem x_gr : grS (cls (prs zX)) lX 2 1 = [2, 1, 1, 2] := by kernel_rfl
theorem x_ck : ckLv (mtS (cls (prs zX)) lX) 2 [1, 2, 3, 4] = (4, 0) := by rw [x_mt]; kernel_rfl
end Go.Proofs.Ythdjbapidodlfaa

namespace Go.Proofs.Ythdjbapidodlfaa
set_option linter.unusedSimpArgs false
set_option linter.unusedVariables false
open Go.RowKit Go.Shelf

set_option maxRecDepth 100000 in
theorem x_a1 : alkR zX 2 5 = (true, 0) := by decide
set_option maxRecDepth 100000 in
theorem x_a2 : alkR zX 2 3 = (false, 0) := by decide
set_option maxRecDepth 100000 in
theorem x_cp : ckPs zX lX [[1, 2], [2, 1]] = 24 := by decide
theorem ints_new4 (W : World) (l : List Int) : Ints (W.alloc (.cells (flatI l).toArray 3)) (some ⟨W.heap.size, 0, none⟩) l.length l := by
  refine ⟨rfl, fun _ => ⟨W.heap.size, 0, rfl, fun j hj => ?_⟩⟩
  rw [Nat.zero_add, cell_row (heap_alloc_new_ _ _), iAt_eq hj]
  simp [flatI, hj]
theorem x_mt2 : (mtS (cls (prs zX)) lX).map (·.take 2) = [[0, 0], [1, 2], [2, 1], [3, 3]] := by rw [x_mt]; rfl
theorem x_fst2 : (fstS (cls (prs zX)) lX 2 (mtS (cls (prs zX)) lX)).map (·.take 2) = [[0, 0], [1, 2], [3, 3]] := by rw [x_fst]; rfl
theorem x_crt2 : (crtS (cls (prs zX)) lX 2 (mtS (cls (prs zX)) lX)).map (·.take 2) = [[0, 0], [3, 3]] := by rw [x_crt]; rfl
theorem x_len1 : (lAt lX 1).length = 4 := rfl
theorem al_sz (W : World) (o : Obj) : (W.alloc o).heap.size = W.heap.size + 1 := by simp
theorem ints_keep (W : World) (o : Obj) {A : Option Addr} {n : Nat} {l : List Int} (h : Ints W A n l) : Ints (W.alloc o) A n l := h.below (below_alloc_ W o) (Nat.le_refl _)
/-- The slices of a new list of lists. -/
theorem lns_mk (W : World) (C : Nat → Option Addr) (L : List (List Int)) (t : TypeId) (h : ∀ j, j < L.length → Ints W (C j) (lAt L j).length (lAt L j)) :
    Lns (W.alloc (.cells ((List.range L.length).map fun j => Value.slice (C j) (lAt L j).length (lAt L j).length).toArray t)) (some ⟨W.heap.size, 0, none⟩) L.length L := by
  refine ⟨rfl, fun _ => ⟨W.heap.size, 0, rfl, fun j hj => ⟨C j, (lAt L j).length, ?_, ints_keep _ _ (h j hj), Nat.le_refl _⟩⟩⟩
  rw [Nat.zero_add, cell_row (heap_alloc_new_ _ _)]
  simp [hj]
section
attribute [local go_sem ↓] exec_app at_app
attribute [local go_sem] Oper.semAt_some
set_option maxRecDepth 100000 in
set_option maxHeartbeats 4000000 in
theorem dialects45 (w : World) : Calls Try.prog 45 #[] w fun e w' => ∃ D, e = .returned (.agg #[.slice (some ⟨D, 0, none⟩) 1 1]) ∧ Rgs w' (some ⟨D, 0, none⟩) 1 zX ∧ Below w.heap.size w w' := by
  go_enter Try.func45, Try.ntmps45
  go_wp2_with fail
  have hb1 := below_alloc_ w (.cells #[.slice (some ⟨w.heap.size + 1, 0, none⟩) 1 1] 24)
  have hr1 := heap_alloc_new_ w (.cells #[.slice (some ⟨w.heap.size + 1, 0, none⟩) 1 1] 24)
  have hs1 : (w.alloc (.cells #[.slice (some ⟨w.heap.size + 1, 0, none⟩) 1 1] 24)).heap.size = w.heap.size + 1 := al_sz _ _
  obtain ⟨w1, hV⟩ : ∃ w1, w.alloc (.cells #[.slice (some ⟨w.heap.size + 1, 0, none⟩) 1 1] 24) = w1 := ⟨_, rfl⟩
  rw [hV] at hb1 hr1 hs1 ⊢
  clear hV
  have hb2 := below_alloc_ w1 (.cells #[.int .i64 2, .int .i64 5] 57)
  have hr2 := heap_alloc_new_ w1 (.cells #[.int .i64 2, .int .i64 5] 57)
  have hr3 : (w1.alloc (.cells #[.int .i64 2, .int .i64 5] 57)).heap[w.heap.size]? = some (.cells #[.slice (some ⟨w.heap.size + 1, 0, none⟩) 1 1] 24) := by
    rw [hb2.block w.heap.size (by omega)]; exact hr1
  rw [hs1] at hr2
  obtain ⟨w2, hV⟩ : ∃ w2, w1.alloc (.cells #[.int .i64 2, .int .i64 5] 57) = w2 := ⟨_, rfl⟩
  rw [hV] at hb2 hr2 hr3 ⊢
  clear hV
  have hc : w2.cell? ⟨w.heap.size, 0, none⟩ = some (.slice (some ⟨w.heap.size + 1, 0, none⟩) 1 1) := by rw [cell_row hr3]; rfl
  refine bodyPost_ret (v := .agg #[.slice (some ⟨w.heap.size + 1, 0, none⟩) 1 1]) (by simp [results, Try.results45, go_sem, hc]) rfl ⟨w.heap.size + 1, rfl, ⟨rfl, fun _ => ⟨w.heap.size + 1, 0, rfl, fun j hj => ?_⟩⟩, hb1.trans (hb2.mono hb1.size)⟩
  obtain rfl : j = 0 := by omega
  exact ⟨by rw [cell_row hr2]; rfl, by rw [cell_row hr2]; rfl⟩
set_option maxRecDepth 100000 in
set_option maxHeartbeats 4000000 in
theorem lines46 (w : World) : Calls Try.prog 46 #[] w fun e w' => ∃ E, e = .returned (.slice (some ⟨E, 0, none⟩) 2 2) ∧ Lns w' (some ⟨E, 0, none⟩) 2 lX ∧ Below w.heap.size w w' := by
  go_enter Try.func46, Try.ntmps46
  go_wp2_with fail
  go_ret
  refine ⟨w.heap.size + 1 + 1, rfl, ?_, ?_⟩
  · have hs1 : (w.alloc (.cells #[.int .i64 1, .int .i64 2, .int .i64 3, .int .i64 4] 3)).heap.size = w.heap.size + 1 := al_sz _ _
    have hi1 := ints_keep _ (.cells #[.int .i64 1, .int .i64 3, .int .i64 5, .int .i64 4] 3) (ints_new4 w [1, 2, 3, 4])
    have hi2 := ints_new4 (w.alloc (.cells #[.int .i64 1, .int .i64 2, .int .i64 3, .int .i64 4] 3)) [1, 3, 5, 4]
    rw [hs1] at hi2
    have hs2 : ((w.alloc (.cells #[.int .i64 1, .int .i64 2, .int .i64 3, .int .i64 4] 3)).alloc (.cells #[.int .i64 1, .int .i64 3, .int .i64 5, .int .i64 4] 3)).heap.size = w.heap.size + 1 + 1 := by rw [al_sz, al_sz]
    have h3 := lns_mk ((w.alloc (.cells #[.int .i64 1, .int .i64 2, .int .i64 3, .int .i64 4] 3)).alloc (.cells #[.int .i64 1, .int .i64 3, .int .i64 5, .int .i64 4] 3)) (fun j => if j = 0 then some ⟨w.heap.size, 0, none⟩ else some ⟨w.heap.size + 1, 0, none⟩) lX 38 (by
      intro j hj
      obtain rfl | rfl : j = 0 ∨ j = 1 := by have : lX.length = 2 := rfl; omega
      · exact hi1
      · exact hi2)
    rw [hs2] at h3
    exact h3
  · exact (((below_alloc_ w _).alloc (by rw [al_sz]; omega) _).alloc (by rw [al_sz, al_sz]; omega) _)
set_option maxRecDepth 100000 in
set_option maxHeartbeats 40000000 in
theorem works14 (w : World) : Calls Try.prog 14 #[] w fun en w' => en = .returned (.bool true) ∧ Below w.heap.size w w' := by
  go_enter Try.func14, Try.ntmps14
  go_wp2_with fail
  refine (dialects45 w).mono ?_
  rintro en w1 ⟨D, rfl, hr, hb⟩
  have S := Lib.hid hr
  have B := Lib.hid hb
  clear hr hb
  go_wp2_with fail
  refine (lines46 w1).mono ?_
  rintro en w2 ⟨E, rfl, hr, hb⟩
  replace S := Lib.hid (S.out.below hb (Nat.le_refl _))
  replace B := Lib.hid (B.out.trans (hb.mono B.out.size))
  have X := Lib.hid hr
  clear hr hb
  go_wp2_with fail
  have hb := below_alloc_ w2 (.cells #[.slice (some ⟨D, 0, none⟩) 1 1] 24)
  have hrow := heap_alloc_new_ w2 (.cells #[.slice (some ⟨D, 0, none⟩) 1 1] 24)
  obtain ⟨w3, hV⟩ : ∃ w3, w2.alloc (.cells #[.slice (some ⟨D, 0, none⟩) 1 1] 24) = w3 := ⟨_, rfl⟩
  have hsz : w3.heap.size = w2.heap.size + 1 := by rw [← hV]; exact al_sz _ _
  rw [hV] at hb hrow
  try rw [hV]
  clear hV
  obtain ⟨Z, hZ⟩ : ∃ Z, w2.heap.size = Z := ⟨_, rfl⟩
  rw [hZ] at hsz hrow
  try rw [hZ]
  replace S := Lib.hid (S.out.below hb (by rw [hZ]; exact Nat.le_refl _))
  replace X := Lib.hid (X.out.below hb (by rw [hZ]; exact Nat.le_refl _))
  replace B := Lib.hid (B.out.trans (hb.mono (by exact B.out.size)))
  replace hrow := Lib.hid hrow
  clear hb hsz hZ
  refine (alike15 (some ⟨D, 0, none⟩) 1 1 zX 2 5 w3 S.out).mono ?_
  rintro en w4 ⟨rfl, hb⟩
  rw [x_a1]
  replace S := Lib.hid (S.out.below hb (Nat.le_refl _))
  replace X := Lib.hid (X.out.below hb (Nat.le_refl _))
  replace B := Lib.hid (B.out.trans (hb.mono B.out.size))
  replace hrow := Lib.hid ((hb.block Z (lt_of_block hrow.out)).trans hrow.out)
  clear hb
  have rc : w4.cell? ⟨Z, 0, none⟩ = some (.slice (some ⟨D, 0, none⟩) 1 1) := by rw [cell_row hrow.out]; rfl
  go_wp2_with fail
  clear rc
  refine (alike15 (some ⟨D, 0, none⟩) 1 1 zX 2 3 w4 S.out).mono ?_
  rintro en w5 ⟨rfl, hb⟩
  rw [x_a2]
  replace S := Lib.hid (S.out.below hb (Nat.le_refl _))
  replace X := Lib.hid (X.out.below hb (Nat.le_refl _))
  replace B := Lib.hid (B.out.trans (hb.mono B.out.size))
  replace hrow := Lib.hid ((hb.block Z (lt_of_block hrow.out)).trans hrow.out)
  clear hb
  have rc : w5.cell? ⟨Z, 0, none⟩ = some (.slice (some ⟨D, 0, none⟩) 1 1) := by rw [cell_row hrow.out]; rfl
  go_wp2_with fail
  clear rc
  refine (matches17 (some ⟨D, 0, none⟩) 1 1 zX (some ⟨E, 0, none⟩) 2 2 lX w5 S.out X.out (by omega)).mono ?_
  rintro en w6 ⟨hb, hor⟩
  obtain ⟨_, Cm, Nm, cm, rfl, hi, hc⟩ | ⟨h0, _⟩ := hor
  rotate_left
  · exact absurd x_ok h0
  replace S := Lib.hid (S.out.below hb (Nat.le_refl _))
  replace X := Lib.hid (X.out.below hb (Nat.le_refl _))
  replace B := Lib.hid (B.out.trans (hb.mono B.out.size))
  replace hrow := Lib.hid ((hb.block Z (lt_of_block hrow.out)).trans hrow.out)
  rw [x_mt2] at hi
  have Pm := Lib.hid hi
  have lm := Lib.hid hi.1
  clear hi hb hc
  have rc : w6.cell? ⟨Z, 0, none⟩ = some (.slice (some ⟨D, 0, none⟩) 1 1) := by rw [cell_row hrow.out]; rfl
  go_wp2_with fail
  clear rc
  refine (levels25 (some ⟨D, 0, none⟩) 1 1 zX (some ⟨E, 0, none⟩) 2 2 lX w6 S.out X.out (by omega)).mono ?_
  rintro en w7 ⟨hb, hor⟩
  obtain ⟨_, Cl, Nl, cl, rfl, hi, hc⟩ | ⟨h0, _⟩ := hor
  rotate_left
  · exact absurd x_ok h0
  replace S := Lib.hid (S.out.below hb (Nat.le_refl _))
  replace X := Lib.hid (X.out.below hb (Nat.le_refl _))
  replace Pm := Lib.hid (Pm.out.below hb (Nat.le_refl _))
  replace B := Lib.hid (B.out.trans (hb.mono B.out.size))
  replace hrow := Lib.hid ((hb.block Z (lt_of_block hrow.out)).trans hrow.out)
  rw [x_lv] at hi
  have Pl := Lib.hid hi
  have ll := Lib.hid hi.1
  clear hi hb hc
  have rc : w7.cell? ⟨Z, 0, none⟩ = some (.slice (some ⟨D, 0, none⟩) 1 1) := by rw [cell_row hrow.out]; rfl
  go_wp2_with fail
  clear rc
  refine (longest32 (some ⟨D, 0, none⟩) 1 1 zX (some ⟨E, 0, none⟩) 2 2 lX w7 S.out X.out (by omega)).mono ?_
  rintro en w8 ⟨hb, hor⟩
  obtain ⟨_, Cp, Np, cp, rfl, hi, hc⟩ | ⟨h0, _⟩ := hor
  rotate_left
  · exact absurd x_ok h0
  replace S := Lib.hid (S.out.below hb (Nat.le_refl _))
  replace X := Lib.hid (X.out.below hb (Nat.le_refl _))
  replace Pm := Lib.hid (Pm.out.below hb (Nat.le_refl _))
  replace Pl := Lib.hid (Pl.out.below hb (Nat.le_refl _))
  replace B := Lib.hid (B.out.trans (hb.mono B.out.size))
  replace hrow := Lib.hid ((hb.block Z (lt_of_block hrow.out)).trans hrow.out)
  rw [x_fst2] at hi
  have Pp := Lib.hid hi
  have lp := Lib.hid hi.1
  clear hi hb hc
  have rc : w8.cell? ⟨Z, 0, none⟩ = some (.slice (some ⟨D, 0, none⟩) 1 1) := by rw [cell_row hrow.out]; rfl
  go_wp2_with fail
  clear rc
  refine (count34 (some ⟨D, 0, none⟩) 1 1 zX (some ⟨E, 0, none⟩) 2 2 lX w8 S.out X.out (by omega)).mono ?_
  rintro en w9 ⟨hb, hor⟩
  obtain ⟨_, rfl⟩ | ⟨h0, _⟩ := hor
  rotate_left
  · exact absurd x_ok h0
  rw [x_cnt]
  replace S := Lib.hid (S.out.below hb (Nat.le_refl _))
  replace X := Lib.hid (X.out.below hb (Nat.le_refl _))
  replace Pm := Lib.hid (Pm.out.below hb (Nat.le_refl _))
  replace Pl := Lib.hid (Pl.out.below hb (Nat.le_refl _))
  replace Pp := Lib.hid (Pp.out.below hb (Nat.le_refl _))
  replace B := Lib.hid (B.out.trans (hb.mono B.out.size))
  replace hrow := Lib.hid ((hb.block Z (lt_of_block hrow.out)).trans hrow.out)
  clear hb
  have rc : w9.cell? ⟨Z, 0, none⟩ = some (.slice (some ⟨D, 0, none⟩) 1 1) := by rw [cell_row hrow.out]; rfl
  go_wp2_with fail
  clear rc
  refine (certain36 (some ⟨D, 0, none⟩) 1 1 zX (some ⟨E, 0, none⟩) 2 2 lX w9 S.out X.out (by omega)).mono ?_
  rintro en w10 ⟨hb, hor⟩
  obtain ⟨_, Cc, Nc, cc, rfl, hi, hc⟩ | ⟨h0, _⟩ := hor
  rotate_left
  · exact absurd x_ok h0
  replace S := Lib.hid (S.out.below hb (Nat.le_refl _))
  replace X := Lib.hid (X.out.below hb (Nat.le_refl _))
  replace Pm := Lib.hid (Pm.out.below hb (Nat.le_refl _))
  replace Pl := Lib.hid (Pl.out.below hb (Nat.le_refl _))
  replace Pp := Lib.hid (Pp.out.below hb (Nat.le_refl _))
  replace B := Lib.hid (B.out.trans (hb.mono B.out.size))
  replace hrow := Lib.hid ((hb.block Z (lt_of_block hrow.out)).trans hrow.out)
  rw [x_crt2] at hi
  have Pc := Lib.hid hi
  have lc := Lib.hid hi.1
  clear hi hb hc
  have rc : w10.cell? ⟨Z, 0, none⟩ = some (.slice (some ⟨D, 0, none⟩) 1 1) := by rw [cell_row hrow.out]; rfl
  go_wp2_with fail
  clear rc
  refine (grades38 (some ⟨D, 0, none⟩) 1 1 zX (some ⟨E, 0, none⟩) 2 2 lX 1 w10 S.out X.out (by omega)).mono ?_
  rintro en w11 ⟨hb, hor⟩
  obtain ⟨_, ⟨h, Cg, cg, hh, _, rfl, hi, hc⟩ | ⟨h0, _⟩⟩ | ⟨h0, _⟩ := hor
  rotate_left
  · exact absurd (by omega) h0
  · exact absurd x_ok h0
  obtain rfl : h = 1 := by omega
  rw [x_gr, x_len1] at hi
  rw [x_len1]
  have Pg := Lib.hid hi
  replace S := Lib.hid (S.out.below hb (Nat.le_refl _))
  replace X := Lib.hid (X.out.below hb (Nat.le_refl _))
  replace Pm := Lib.hid (Pm.out.below hb (Nat.le_refl _))
  replace Pl := Lib.hid (Pl.out.below hb (Nat.le_refl _))
  replace Pp := Lib.hid (Pp.out.below hb (Nat.le_refl _))
  replace Pc := Lib.hid (Pc.out.below hb (Nat.le_refl _))
  replace B := Lib.hid (B.out.trans (hb.mono B.out.size))
  replace hrow := Lib.hid ((hb.block Z (lt_of_block hrow.out)).trans hrow.out)
  clear hi hb hc hh
  have rc : w11.cell? ⟨Z, 0, none⟩ = some (.slice (some ⟨D, 0, none⟩) 1 1) := by rw [cell_row hrow.out]; rfl
  go_wp2_with fail
  clear rc
  have hb := below_alloc_ w11 (.cells #[.int .i64 1, .int .i64 2, .int .i64 3, .int .i64 4] 3)
  have hi := ints_new4 w11 [1, 2, 3, 4]
  have hi2 : Ints (w11.alloc (.cells #[.int .i64 1, .int .i64 2, .int .i64 3, .int .i64 4] 3)) (some ⟨w11.heap.size, 0, none⟩) 4 [1, 2, 3, 4] := hi
  obtain ⟨w12, hV⟩ : ∃ w12, w11.alloc (.cells #[.int .i64 1, .int .i64 2, .int .i64 3, .int .i64 4] 3) = w12 := ⟨_, rfl⟩
  rw [hV] at hi2 hb ⊢
  clear hV hi
  replace S := Lib.hid (S.out.below hb (Nat.le_refl _))
  replace X := Lib.hid (X.out.below hb (Nat.le_refl _))
  replace Pm := Lib.hid (Pm.out.below hb (Nat.le_refl _))
  replace Pl := Lib.hid (Pl.out.below hb (Nat.le_refl _))
  replace Pp := Lib.hid (Pp.out.below hb (Nat.le_refl _))
  replace Pc := Lib.hid (Pc.out.below hb (Nat.le_refl _))
  replace Pg := Lib.hid (Pg.out.below hb (Nat.le_refl _))
  replace B := Lib.hid (B.out.trans (hb.mono B.out.size))
  replace hrow := Lib.hid ((hb.block Z (lt_of_block hrow.out)).trans hrow.out)
  clear hb
  have Lq := Lib.hid hi2
  clear hi2
  refine (checkLevels27 (some ⟨D, 0, none⟩) 1 1 zX (some ⟨E, 0, none⟩) 2 2 lX (some ⟨w11.heap.size, 0, none⟩) 4 4 [1, 2, 3, 4] w12 S.out X.out (by omega) Lq.out).mono ?_
  rintro en w13 ⟨hb, hor⟩
  obtain ⟨_, rfl⟩ | ⟨h0, _⟩ := hor
  rotate_left
  · exact absurd x_ok h0
  rw [x_ck]
  replace S := Lib.hid (S.out.below hb (Nat.le_refl _))
  replace X := Lib.hid (X.out.below hb (Nat.le_refl _))
  replace Pm := Lib.hid (Pm.out.below hb (Nat.le_refl _))
  replace Pl := Lib.hid (Pl.out.below hb (Nat.le_refl _))
  replace Pp := Lib.hid (Pp.out.below hb (Nat.le_refl _))
  replace Pc := Lib.hid (Pc.out.below hb (Nat.le_refl _))
  replace Pg := Lib.hid (Pg.out.below hb (Nat.le_refl _))
  replace B := Lib.hid (B.out.trans (hb.mono B.out.size))
  replace hrow := Lib.hid ((hb.block Z (lt_of_block hrow.out)).trans hrow.out)
  clear hb Lq
  have rc : w13.cell? ⟨Z, 0, none⟩ = some (.slice (some ⟨D, 0, none⟩) 1 1) := by rw [cell_row hrow.out]; rfl
  go_wp2_with fail
  clear rc
  obtain ⟨Q, hQ⟩ : ∃ Q, w13.heap.size = Q := ⟨_, rfl⟩
  rw [hQ]
  have hb := below_alloc_ w13 (.cells #[.int .i64 1, .int .i64 2] 3)
  have hsz := al_sz w13 (.cells #[.int .i64 1, .int .i64 2] 3)
  have hi2 : Ints (w13.alloc (.cells #[.int .i64 1, .int .i64 2] 3)) (some ⟨w13.heap.size, 0, none⟩) 2 [1, 2] := ints_new4 w13 [1, 2]
  obtain ⟨w14, hV⟩ : ∃ w14, w13.alloc (.cells #[.int .i64 1, .int .i64 2] 3) = w14 := ⟨_, rfl⟩
  rw [hV] at hi2 hb hsz ⊢
  rw [hQ] at hsz hi2
  clear hV hQ
  have hQ := hsz
  clear hsz
  replace S := Lib.hid (S.out.below hb (Nat.le_refl _))
  replace X := Lib.hid (X.out.below hb (Nat.le_refl _))
  replace Pm := Lib.hid (Pm.out.below hb (Nat.le_refl _))
  replace Pl := Lib.hid (Pl.out.below hb (Nat.le_refl _))
  replace Pp := Lib.hid (Pp.out.below hb (Nat.le_refl _))
  replace Pc := Lib.hid (Pc.out.below hb (Nat.le_refl _))
  replace Pg := Lib.hid (Pg.out.below hb (Nat.le_refl _))
  replace B := Lib.hid (B.out.trans (hb.mono B.out.size))
  replace hrow := Lib.hid ((hb.block Z (lt_of_block hrow.out)).trans hrow.out)
  have hq0 := hi2
  clear hb hi2
  have hb := below_alloc_ w14 (.cells #[.int .i64 2, .int .i64 1] 3)
  have hsz := al_sz w14 (.cells #[.int .i64 2, .int .i64 1] 3)
  have hi2 : Ints (w14.alloc (.cells #[.int .i64 2, .int .i64 1] 3)) (some ⟨w14.heap.size, 0, none⟩) 2 [2, 1] := ints_new4 w14 [2, 1]
  obtain ⟨w15, hV⟩ : ∃ w15, w14.alloc (.cells #[.int .i64 2, .int .i64 1] 3) = w15 := ⟨_, rfl⟩
  rw [hV] at hi2 hb hsz ⊢
  rw [hQ] at hsz hi2
  clear hV hQ
  have hQ := hsz
  clear hsz
  replace S := Lib.hid (S.out.below hb (Nat.le_refl _))
  replace X := Lib.hid (X.out.below hb (Nat.le_refl _))
  replace Pm := Lib.hid (Pm.out.below hb (Nat.le_refl _))
  replace Pl := Lib.hid (Pl.out.below hb (Nat.le_refl _))
  replace Pp := Lib.hid (Pp.out.below hb (Nat.le_refl _))
  replace Pc := Lib.hid (Pc.out.below hb (Nat.le_refl _))
  replace Pg := Lib.hid (Pg.out.below hb (Nat.le_refl _))
  replace B := Lib.hid (B.out.trans (hb.mono B.out.size))
  replace hrow := Lib.hid ((hb.block Z (lt_of_block hrow.out)).trans hrow.out)
  replace hq0 := hq0.below hb (Nat.le_refl _)
  have hq1 := hi2
  clear hb hi2
  have hi2 : Lns (w15.alloc (.cells #[.slice (some ⟨Q, 0, none⟩) 2 2, .slice (some ⟨Q + 1, 0, none⟩) 2 2] 40)) (some ⟨w15.heap.size, 0, none⟩) 2 [[1, 2], [2, 1]] := lns_mk w15 (fun j => if j = 0 then some ⟨Q, 0, none⟩ else some ⟨Q + 1, 0, none⟩) [[1, 2], [2, 1]] 40 (by
    intro j hj
    obtain rfl | rfl : j = 0 ∨ j = 1 := by simp at hj; omega
    · exact hq0
    · exact hq1)
  rw [hQ] at hi2
  have hb := below_alloc_ w15 (.cells #[.slice (some ⟨Q, 0, none⟩) 2 2, .slice (some ⟨Q + 1, 0, none⟩) 2 2] 40)
  obtain ⟨w16, hV⟩ : ∃ w16, w15.alloc (.cells #[.slice (some ⟨Q, 0, none⟩) 2 2, .slice (some ⟨Q + 1, 0, none⟩) 2 2] 40) = w16 := ⟨_, rfl⟩
  rw [hV] at hi2 hb ⊢
  clear hV
  replace S := Lib.hid (S.out.below hb (Nat.le_refl _))
  replace X := Lib.hid (X.out.below hb (Nat.le_refl _))
  replace Pm := Lib.hid (Pm.out.below hb (Nat.le_refl _))
  replace Pl := Lib.hid (Pl.out.below hb (Nat.le_refl _))
  replace Pp := Lib.hid (Pp.out.below hb (Nat.le_refl _))
  replace Pc := Lib.hid (Pc.out.below hb (Nat.le_refl _))
  replace Pg := Lib.hid (Pg.out.below hb (Nat.le_refl _))
  replace B := Lib.hid (B.out.trans (hb.mono B.out.size))
  replace hrow := Lib.hid ((hb.block Z (lt_of_block hrow.out)).trans hrow.out)
  have Lq := Lib.hid hi2
  clear hb hi2 hQ hq0 hq1
  refine (checkPassage29 (some ⟨D, 0, none⟩) 1 1 zX (some ⟨E, 0, none⟩) 2 2 lX (some ⟨Q + 1 + 1, 0, none⟩) 2 2 [[1, 2], [2, 1]] w16 S.out X.out Lq.out (by omega)).mono ?_
  rintro en w17 ⟨rfl, hb⟩
  rw [x_cp]
  replace S := Lib.hid (S.out.below hb (Nat.le_refl _))
  replace X := Lib.hid (X.out.below hb (Nat.le_refl _))
  replace Pm := Lib.hid (Pm.out.below hb (Nat.le_refl _))
  replace Pl := Lib.hid (Pl.out.below hb (Nat.le_refl _))
  replace Pp := Lib.hid (Pp.out.below hb (Nat.le_refl _))
  replace Pc := Lib.hid (Pc.out.below hb (Nat.le_refl _))
  replace Pg := Lib.hid (Pg.out.below hb (Nat.le_refl _))
  replace B := Lib.hid (B.out.trans (hb.mono B.out.size))
  replace hrow := Lib.hid ((hb.block Z (lt_of_block hrow.out)).trans hrow.out)
  clear hb Lq S X hrow
  go_wp2_with fail
  obtain ⟨Q, hQ⟩ : ∃ Q, w17.heap.size = Q := ⟨_, rfl⟩
  rw [hQ]
  have hb := below_alloc_ w17 (.cells #[.int .i64 0, .int .i64 0] 3)
  have hsz := al_sz w17 (.cells #[.int .i64 0, .int .i64 0] 3)
  have hi2 : Ints (w17.alloc (.cells #[.int .i64 0, .int .i64 0] 3)) (some ⟨w17.heap.size, 0, none⟩) 2 [0, 0] := ints_new4 w17 [0, 0]
  obtain ⟨w18, hV⟩ : ∃ w18, w17.alloc (.cells #[.int .i64 0, .int .i64 0] 3) = w18 := ⟨_, rfl⟩
  rw [hV] at hi2 hb hsz ⊢
  rw [hQ] at hsz hi2
  clear hV hQ
  have hQ := hsz
  clear hsz
  replace Pm := Lib.hid (Pm.out.below hb (Nat.le_refl _))
  replace Pl := Lib.hid (Pl.out.below hb (Nat.le_refl _))
  replace Pp := Lib.hid (Pp.out.below hb (Nat.le_refl _))
  replace Pc := Lib.hid (Pc.out.below hb (Nat.le_refl _))
  replace Pg := Lib.hid (Pg.out.below hb (Nat.le_refl _))
  replace B := Lib.hid (B.out.trans (hb.mono B.out.size))
  have hq0 := hi2
  clear hb hi2
  have hb := below_alloc_ w18 (.cells #[.int .i64 1, .int .i64 2] 3)
  have hsz := al_sz w18 (.cells #[.int .i64 1, .int .i64 2] 3)
  have hi2 : Ints (w18.alloc (.cells #[.int .i64 1, .int .i64 2] 3)) (some ⟨w18.heap.size, 0, none⟩) 2 [1, 2] := ints_new4 w18 [1, 2]
  obtain ⟨w19, hV⟩ : ∃ w19, w18.alloc (.cells #[.int .i64 1, .int .i64 2] 3) = w19 := ⟨_, rfl⟩
  rw [hV] at hi2 hb hsz ⊢
  rw [hQ] at hsz hi2
  clear hV hQ
  have hQ := hsz
  clear hsz
  replace Pm := Lib.hid (Pm.out.below hb (Nat.le_refl _))
  replace Pl := Lib.hid (Pl.out.below hb (Nat.le_refl _))
  replace Pp := Lib.hid (Pp.out.below hb (Nat.le_refl _))
  replace Pc := Lib.hid (Pc.out.below hb (Nat.le_refl _))
  replace Pg := Lib.hid (Pg.out.below hb (Nat.le_refl _))
  replace B := Lib.hid (B.out.trans (hb.mono B.out.size))
  replace hq0 := hq0.below hb (Nat.le_refl _)
  have hq1 := hi2
  clear hb hi2
  have hb := below_alloc_ w19 (.cells #[.int .i64 2, .int .i64 1] 3)
  have hsz := al_sz w19 (.cells #[.int .i64 2, .int .i64 1] 3)
  have hi2 : Ints (w19.alloc (.cells #[.int .i64 2, .int .i64 1] 3)) (some ⟨w19.heap.size, 0, none⟩) 2 [2, 1] := ints_new4 w19 [2, 1]
  obtain ⟨w20, hV⟩ : ∃ w20, w19.alloc (.cells #[.int .i64 2, .int .i64 1] 3) = w20 := ⟨_, rfl⟩
  rw [hV] at hi2 hb hsz ⊢
  rw [hQ] at hsz hi2
  clear hV hQ
  have hQ := hsz
  clear hsz
  replace Pm := Lib.hid (Pm.out.below hb (Nat.le_refl _))
  replace Pl := Lib.hid (Pl.out.below hb (Nat.le_refl _))
  replace Pp := Lib.hid (Pp.out.below hb (Nat.le_refl _))
  replace Pc := Lib.hid (Pc.out.below hb (Nat.le_refl _))
  replace Pg := Lib.hid (Pg.out.below hb (Nat.le_refl _))
  replace B := Lib.hid (B.out.trans (hb.mono B.out.size))
  replace hq0 := hq0.below hb (Nat.le_refl _)
  replace hq1 := hq1.below hb (Nat.le_refl _)
  have hq2 := hi2
  clear hb hi2
  have hb := below_alloc_ w20 (.cells #[.int .i64 3, .int .i64 3] 3)
  have hsz := al_sz w20 (.cells #[.int .i64 3, .int .i64 3] 3)
  have hi2 : Ints (w20.alloc (.cells #[.int .i64 3, .int .i64 3] 3)) (some ⟨w20.heap.size, 0, none⟩) 2 [3, 3] := ints_new4 w20 [3, 3]
  obtain ⟨w21, hV⟩ : ∃ w21, w20.alloc (.cells #[.int .i64 3, .int .i64 3] 3) = w21 := ⟨_, rfl⟩
  rw [hV] at hi2 hb hsz ⊢
  rw [hQ] at hsz hi2
  clear hV hQ
  have hQ := hsz
  clear hsz
  replace Pm := Lib.hid (Pm.out.below hb (Nat.le_refl _))
  replace Pl := Lib.hid (Pl.out.below hb (Nat.le_refl _))
  replace Pp := Lib.hid (Pp.out.below hb (Nat.le_refl _))
  replace Pc := Lib.hid (Pc.out.below hb (Nat.le_refl _))
  replace Pg := Lib.hid (Pg.out.below hb (Nat.le_refl _))
  replace B := Lib.hid (B.out.trans (hb.mono B.out.size))
  replace hq0 := hq0.below hb (Nat.le_refl _)
  replace hq1 := hq1.below hb (Nat.le_refl _)
  replace hq2 := hq2.below hb (Nat.le_refl _)
  have hq3 := hi2
  clear hb hi2
  have hi2 : Lns (w21.alloc (.cells #[.slice (some ⟨Q, 0, none⟩) 2 2, .slice (some ⟨Q + 1, 0, none⟩) 2 2, .slice (some ⟨Q + 1 + 1, 0, none⟩) 2 2, .slice (some ⟨Q + 1 + 1 + 1, 0, none⟩) 2 2] 40)) (some ⟨w21.heap.size, 0, none⟩) 4 [[0, 0], [1, 2], [2, 1], [3, 3]] := lns_mk w21 (fun j => if j = 0 then some ⟨Q, 0, none⟩ else if j = 1 then some ⟨Q + 1, 0, none⟩ else if j = 2 then some ⟨Q + 1 + 1, 0, none⟩ else some ⟨Q + 1 + 1 + 1, 0, none⟩) [[0, 0], [1, 2], [2, 1], [3, 3]] 40 (by
    intro j hj
    obtain rfl | rfl | rfl | rfl : j = 0 ∨ j = 1 ∨ j = 2 ∨ j = 3 := by simp at hj; omega
    · exact hq0
    · exact hq1
    · exact hq2
    · exact hq3)
  rw [hQ] at hi2
  have hb := below_alloc_ w21 (.cells #[.slice (some ⟨Q, 0, none⟩) 2 2, .slice (some ⟨Q + 1, 0, none⟩) 2 2, .slice (some ⟨Q + 1 + 1, 0, none⟩) 2 2, .slice (some ⟨Q + 1 + 1 + 1, 0, none⟩) 2 2] 40)
  obtain ⟨w22, hV⟩ : ∃ w22, w21.alloc (.cells #[.slice (some ⟨Q, 0, none⟩) 2 2, .slice (some ⟨Q + 1, 0, none⟩) 2 2, .slice (some ⟨Q + 1 + 1, 0, none⟩) 2 2, .slice (some ⟨Q + 1 + 1 + 1, 0, none⟩) 2 2] 40) = w22 := ⟨_, rfl⟩
  rw [hV] at hi2 hb ⊢
  clear hV
  replace Pm := Lib.hid (Pm.out.below hb (Nat.le_refl _))
  replace Pl := Lib.hid (Pl.out.below hb (Nat.le_refl _))
  replace Pp := Lib.hid (Pp.out.below hb (Nat.le_refl _))
  replace Pc := Lib.hid (Pc.out.below hb (Nat.le_refl _))
  replace Pg := Lib.hid (Pg.out.below hb (Nat.le_refl _))
  replace B := Lib.hid (B.out.trans (hb.mono B.out.size))
  have Lq := Lib.hid hi2
  clear hb hi2 hQ hq0 hq1 hq2 hq3
  refine (matches23 Cm Nm cm [[0, 0], [1, 2], [2, 1], [3, 3]] (some ⟨Q + 1 + 1 + 1 + 1, 0, none⟩) 4 4 [[0, 0], [1, 2], [2, 1], [3, 3]] w22 Pm.out Lq.out (by have h4 : Nm = 4 := (by rw [← lm.out]; rfl); intro j hj; obtain rfl | rfl | rfl | rfl : j = 0 ∨ j = 1 ∨ j = 2 ∨ j = 3 := (by omega); all_goals decide) (by rw [← lm.out]; decide)).mono ?_
  rintro en w23 ⟨rfl, hb⟩
  replace Pm := Lib.hid (Pm.out.below hb (Nat.le_refl _))
  replace Pl := Lib.hid (Pl.out.below hb (Nat.le_refl _))
  replace Pp := Lib.hid (Pp.out.below hb (Nat.le_refl _))
  replace Pc := Lib.hid (Pc.out.below hb (Nat.le_refl _))
  replace Pg := Lib.hid (Pg.out.below hb (Nat.le_refl _))
  replace B := Lib.hid (B.out.trans (hb.mono B.out.size))
  clear hb Lq Pm lm
  go_wp2_with fail
  have hb := below_alloc_ w23 (.cells #[.int .i64 1, .int .i64 2, .int .i64 2, .int .i64 3] 3)
  have hi2 : Ints (w23.alloc (.cells #[.int .i64 1, .int .i64 2, .int .i64 2, .int .i64 3] 3)) (some ⟨w23.heap.size, 0, none⟩) 4 [1, 2, 2, 3] := ints_new4 w23 [1, 2, 2, 3]
  obtain ⟨w24, hV⟩ : ∃ w24, w23.alloc (.cells #[.int .i64 1, .int .i64 2, .int .i64 2, .int .i64 3] 3) = w24 := ⟨_, rfl⟩
  rw [hV] at hi2 hb ⊢
  clear hV
  replace Pl := Lib.hid (Pl.out.below hb (Nat.le_refl _))
  replace Pp := Lib.hid (Pp.out.below hb (Nat.le_refl _))
  replace Pc := Lib.hid (Pc.out.below hb (Nat.le_refl _))
  replace Pg := Lib.hid (Pg.out.below hb (Nat.le_refl _))
  replace B := Lib.hid (B.out.trans (hb.mono B.out.size))
  have Lq := Lib.hid hi2
  clear hb hi2
  refine (ints31 Cl Nl cl [1, 2, 2, 3] (some ⟨w23.heap.size, 0, none⟩) 4 4 [1, 2, 2, 3] w24 Pl.out Lq.out (by rw [← ll.out]; decide)).mono ?_
  rintro en w25 ⟨rfl, hb⟩
  replace Pl := Lib.hid (Pl.out.below hb (Nat.le_refl _))
  replace Pp := Lib.hid (Pp.out.below hb (Nat.le_refl _))
  replace Pc := Lib.hid (Pc.out.below hb (Nat.le_refl _))
  replace Pg := Lib.hid (Pg.out.below hb (Nat.le_refl _))
  replace B := Lib.hid (B.out.trans (hb.mono B.out.size))
  clear hb Lq Pl
  go_wp2_with fail
  obtain ⟨Q, hQ⟩ : ∃ Q, w25.heap.size = Q := ⟨_, rfl⟩
  rw [hQ]
  have hb := below_alloc_ w25 (.cells #[.int .i64 0, .int .i64 0] 3)
  have hsz := al_sz w25 (.cells #[.int .i64 0, .int .i64 0] 3)
  have hi2 : Ints (w25.alloc (.cells #[.int .i64 0, .int .i64 0] 3)) (some ⟨w25.heap.size, 0, none⟩) 2 [0, 0] := ints_new4 w25 [0, 0]
  obtain ⟨w26, hV⟩ : ∃ w26, w25.alloc (.cells #[.int .i64 0, .int .i64 0] 3) = w26 := ⟨_, rfl⟩
  rw [hV] at hi2 hb hsz ⊢
  rw [hQ] at hsz hi2
  clear hV hQ
  have hQ := hsz
  clear hsz
  replace Pp := Lib.hid (Pp.out.below hb (Nat.le_refl _))
  replace Pc := Lib.hid (Pc.out.below hb (Nat.le_refl _))
  replace Pg := Lib.hid (Pg.out.below hb (Nat.le_refl _))
  replace B := Lib.hid (B.out.trans (hb.mono B.out.size))
  have hq0 := hi2
  clear hb hi2
  have hb := below_alloc_ w26 (.cells #[.int .i64 1, .int .i64 2] 3)
  have hsz := al_sz w26 (.cells #[.int .i64 1, .int .i64 2] 3)
  have hi2 : Ints (w26.alloc (.cells #[.int .i64 1, .int .i64 2] 3)) (some ⟨w26.heap.size, 0, none⟩) 2 [1, 2] := ints_new4 w26 [1, 2]
  obtain ⟨w27, hV⟩ : ∃ w27, w26.alloc (.cells #[.int .i64 1, .int .i64 2] 3) = w27 := ⟨_, rfl⟩
  rw [hV] at hi2 hb hsz ⊢
  rw [hQ] at hsz hi2
  clear hV hQ
  have hQ := hsz
  clear hsz
  replace Pp := Lib.hid (Pp.out.below hb (Nat.le_refl _))
  replace Pc := Lib.hid (Pc.out.below hb (Nat.le_refl _))
  replace Pg := Lib.hid (Pg.out.below hb (Nat.le_refl _))
  replace B := Lib.hid (B.out.trans (hb.mono B.out.size))
  replace hq0 := hq0.below hb (Nat.le_refl _)
  have hq1 := hi2
  clear hb hi2
  have hb := below_alloc_ w27 (.cells #[.int .i64 3, .int .i64 3] 3)
  have hsz := al_sz w27 (.cells #[.int .i64 3, .int .i64 3] 3)
  have hi2 : Ints (w27.alloc (.cells #[.int .i64 3, .int .i64 3] 3)) (some ⟨w27.heap.size, 0, none⟩) 2 [3, 3] := ints_new4 w27 [3, 3]
  obtain ⟨w28, hV⟩ : ∃ w28, w27.alloc (.cells #[.int .i64 3, .int .i64 3] 3) = w28 := ⟨_, rfl⟩
  rw [hV] at hi2 hb hsz ⊢
  rw [hQ] at hsz hi2
  clear hV hQ
  have hQ := hsz
  clear hsz
  replace Pp := Lib.hid (Pp.out.below hb (Nat.le_refl _))
  replace Pc := Lib.hid (Pc.out.below hb (Nat.le_refl _))
  replace Pg := Lib.hid (Pg.out.below hb (Nat.le_refl _))
  replace B := Lib.hid (B.out.trans (hb.mono B.out.size))
  replace hq0 := hq0.below hb (Nat.le_refl _)
  replace hq1 := hq1.below hb (Nat.le_refl _)
  have hq2 := hi2
  clear hb hi2
  have hi2 : Lns (w28.alloc (.cells #[.slice (some ⟨Q, 0, none⟩) 2 2, .slice (some ⟨Q + 1, 0, none⟩) 2 2, .slice (some ⟨Q + 1 + 1, 0, none⟩) 2 2] 40)) (some ⟨w28.heap.size, 0, none⟩) 3 [[0, 0], [1, 2], [3, 3]] := lns_mk w28 (fun j => if j = 0 then some ⟨Q, 0, none⟩ else if j = 1 then some ⟨Q + 1, 0, none⟩ else some ⟨Q + 1 + 1, 0, none⟩) [[0, 0], [1, 2], [3, 3]] 40 (by
    intro j hj
    obtain rfl | rfl | rfl : j = 0 ∨ j = 1 ∨ j = 2 := by simp at hj; omega
    · exact hq0
    · exact hq1
    · exact hq2)
  rw [hQ] at hi2
  have hb := below_alloc_ w28 (.cells #[.slice (some ⟨Q, 0, none⟩) 2 2, .slice (some ⟨Q + 1, 0, none⟩) 2 2, .slice (some ⟨Q + 1 + 1, 0, none⟩) 2 2] 40)
  obtain ⟨w29, hV⟩ : ∃ w29, w28.alloc (.cells #[.slice (some ⟨Q, 0, none⟩) 2 2, .slice (some ⟨Q + 1, 0, none⟩) 2 2, .slice (some ⟨Q + 1 + 1, 0, none⟩) 2 2] 40) = w29 := ⟨_, rfl⟩
  rw [hV] at hi2 hb ⊢
  clear hV
  replace Pp := Lib.hid (Pp.out.below hb (Nat.le_refl _))
  replace Pc := Lib.hid (Pc.out.below hb (Nat.le_refl _))
  replace Pg := Lib.hid (Pg.out.below hb (Nat.le_refl _))
  replace B := Lib.hid (B.out.trans (hb.mono B.out.size))
  have Lq := Lib.hid hi2
  clear hb hi2 hQ hq0 hq1 hq2
  refine (matches23 Cp Np cp [[0, 0], [1, 2], [3, 3]] (some ⟨Q + 1 + 1 + 1, 0, none⟩) 3 3 [[0, 0], [1, 2], [3, 3]] w29 Pp.out Lq.out (by have h4 : Np = 3 := (by rw [← lp.out]; rfl); intro j hj; obtain rfl | rfl | rfl : j = 0 ∨ j = 1 ∨ j = 2 := (by omega); all_goals decide) (by rw [← lp.out]; decide)).mono ?_
  rintro en w30 ⟨rfl, hb⟩
  replace Pp := Lib.hid (Pp.out.below hb (Nat.le_refl _))
  replace Pc := Lib.hid (Pc.out.below hb (Nat.le_refl _))
  replace Pg := Lib.hid (Pg.out.below hb (Nat.le_refl _))
  replace B := Lib.hid (B.out.trans (hb.mono B.out.size))
  clear hb Lq Pp lp
  go_wp2_with fail
  obtain ⟨Q, hQ⟩ : ∃ Q, w30.heap.size = Q := ⟨_, rfl⟩
  rw [hQ]
  have hb := below_alloc_ w30 (.cells #[.int .i64 0, .int .i64 0] 3)
  have hsz := al_sz w30 (.cells #[.int .i64 0, .int .i64 0] 3)
  have hi2 : Ints (w30.alloc (.cells #[.int .i64 0, .int .i64 0] 3)) (some ⟨w30.heap.size, 0, none⟩) 2 [0, 0] := ints_new4 w30 [0, 0]
  obtain ⟨w31, hV⟩ : ∃ w31, w30.alloc (.cells #[.int .i64 0, .int .i64 0] 3) = w31 := ⟨_, rfl⟩
  rw [hV] at hi2 hb hsz ⊢
  rw [hQ] at hsz hi2
  clear hV hQ
  have hQ := hsz
  clear hsz
  replace Pc := Lib.hid (Pc.out.below hb (Nat.le_refl _))
  replace Pg := Lib.hid (Pg.out.below hb (Nat.le_refl _))
  replace B := Lib.hid (B.out.trans (hb.mono B.out.size))
  have hq0 := hi2
  clear hb hi2
  have hb := below_alloc_ w31 (.cells #[.int .i64 3, .int .i64 3] 3)
  have hsz := al_sz w31 (.cells #[.int .i64 3, .int .i64 3] 3)
  have hi2 : Ints (w31.alloc (.cells #[.int .i64 3, .int .i64 3] 3)) (some ⟨w31.heap.size, 0, none⟩) 2 [3, 3] := ints_new4 w31 [3, 3]
  obtain ⟨w32, hV⟩ : ∃ w32, w31.alloc (.cells #[.int .i64 3, .int .i64 3] 3) = w32 := ⟨_, rfl⟩
  rw [hV] at hi2 hb hsz ⊢
  rw [hQ] at hsz hi2
  clear hV hQ
  have hQ := hsz
  clear hsz
  replace Pc := Lib.hid (Pc.out.below hb (Nat.le_refl _))
  replace Pg := Lib.hid (Pg.out.below hb (Nat.le_refl _))
  replace B := Lib.hid (B.out.trans (hb.mono B.out.size))
  replace hq0 := hq0.below hb (Nat.le_refl _)
  have hq1 := hi2
  clear hb hi2
  have hi2 : Lns (w32.alloc (.cells #[.slice (some ⟨Q, 0, none⟩) 2 2, .slice (some ⟨Q + 1, 0, none⟩) 2 2] 40)) (some ⟨w32.heap.size, 0, none⟩) 2 [[0, 0], [3, 3]] := lns_mk w32 (fun j => if j = 0 then some ⟨Q, 0, none⟩ else some ⟨Q + 1, 0, none⟩) [[0, 0], [3, 3]] 40 (by
    intro j hj
    obtain rfl | rfl : j = 0 ∨ j = 1 := by simp at hj; omega
    · exact hq0
    · exact hq1)
  rw [hQ] at hi2
  have hb := below_alloc_ w32 (.cells #[.slice (some ⟨Q, 0, none⟩) 2 2, .slice (some ⟨Q + 1, 0, none⟩) 2 2] 40)
  obtain ⟨w33, hV⟩ : ∃ w33, w32.alloc (.cells #[.slice (some ⟨Q, 0, none⟩) 2 2, .slice (some ⟨Q + 1, 0, none⟩) 2 2] 40) = w33 := ⟨_, rfl⟩
  rw [hV] at hi2 hb ⊢
  clear hV
  replace Pc := Lib.hid (Pc.out.below hb (Nat.le_refl _))
  replace Pg := Lib.hid (Pg.out.below hb (Nat.le_refl _))
  replace B := Lib.hid (B.out.trans (hb.mono B.out.size))
  have Lq := Lib.hid hi2
  clear hb hi2 hQ hq0 hq1
  refine (matches23 Cc Nc cc [[0, 0], [3, 3]] (some ⟨Q + 1 + 1, 0, none⟩) 2 2 [[0, 0], [3, 3]] w33 Pc.out Lq.out (by have h4 : Nc = 2 := (by rw [← lc.out]; rfl); intro j hj; obtain rfl | rfl : j = 0 ∨ j = 1 := (by omega); all_goals decide) (by rw [← lc.out]; decide)).mono ?_
  rintro en w34 ⟨rfl, hb⟩
  replace Pc := Lib.hid (Pc.out.below hb (Nat.le_refl _))
  replace Pg := Lib.hid (Pg.out.below hb (Nat.le_refl _))
  replace B := Lib.hid (B.out.trans (hb.mono B.out.size))
  clear hb Lq Pc lc
  go_wp2_with fail
  have hb := below_alloc_ w34 (.cells #[.int .i64 2, .int .i64 1, .int .i64 1, .int .i64 2] 3)
  have hi2 : Ints (w34.alloc (.cells #[.int .i64 2, .int .i64 1, .int .i64 1, .int .i64 2] 3)) (some ⟨w34.heap.size, 0, none⟩) 4 [2, 1, 1, 2] := ints_new4 w34 [2, 1, 1, 2]
  obtain ⟨w35, hV⟩ : ∃ w35, w34.alloc (.cells #[.int .i64 2, .int .i64 1, .int .i64 1, .int .i64 2] 3) = w35 := ⟨_, rfl⟩
  rw [hV] at hi2 hb ⊢
  clear hV
  replace Pg := Lib.hid (Pg.out.below hb (Nat.le_refl _))
  replace B := Lib.hid (B.out.trans (hb.mono B.out.size))
  have Lq := Lib.hid hi2
  clear hb hi2
  refine (ints31 Cg 4 cg [2, 1, 1, 2] (some ⟨w34.heap.size, 0, none⟩) 4 4 [2, 1, 1, 2] w35 Pg.out Lq.out (by omega)).mono ?_
  rintro en w36 ⟨rfl, hb⟩
  replace Pg := Lib.hid (Pg.out.below hb (Nat.le_refl _))
  replace B := Lib.hid (B.out.trans (hb.mono B.out.size))
  clear hb Lq Pg
  go_wp2_with fail
  go_ret
  exact ⟨rfl, B.out⟩
end
end Go.Proofs.Ythdjbapidodlfaa
