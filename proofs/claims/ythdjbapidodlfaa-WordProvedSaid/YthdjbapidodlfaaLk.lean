/- Stage 4: WordKnown. -/
import Derived.Test.YthdjbapidodlfaaWk
import Derived.ArgAppend
import Derived.Deep.RegionHeld3
namespace Go.Proofs.Ythdjbapidodlfaa
set_option linter.unusedSimpArgs false
set_option linter.unusedVariables false
open Go.RowKit Go.Shelf
def kX : List (List Int) := [[1, 2, 3, 4], [1, 3, 5, 4], [4, 1]]
section
set_option maxRecDepth 100000
theorem k_ok : chkL zX kX = 0 := by decide
theorem k_fst : (fstS (cls (prs zX)) kX 3 (mtS (cls (prs zX)) kX)).map (·.take 3) = [[0, 0, 1]] := by kernel_rfl
theorem k_cp1 : ckPs zX lX [[0, 0], [2, 1], [3, 3]] = 0 := by decide
theorem k_cp2 : ckPs zX lX [[0, 1]] = 20 := by decide
theorem k_ck : ckLv (mtS (cls (prs zX)) lX) 2 [1, 2, 2, 2] = (0, 14) := by rw [x_mt]; kernel_rfl
theorem k_gr : grS (cls (prs zX)) lX 2 0 = [2, 1, 1, 2] := by kernel_rfl
theorem k_len0 : (lAt lX 0).length = 4 := rfl
end
theorem list_ex {α : Type} (P : Nat → α → Prop) : ∀ n : Nat, (∀ i, i < n → ∃ r, P i r) → ∃ rs : List α, rs.length = n ∧ ∀ i (h : i < rs.length), P i rs[i]
  | 0, _ => ⟨[], rfl, fun i h => absurd h (by simp)⟩
  | n + 1, h => by
    obtain ⟨rs, hl, hr⟩ := list_ex P n (fun i hi => h i (by omega))
    obtain ⟨r, hp⟩ := h n (by omega)
    refine ⟨rs ++ [r], by simp [hl], fun i hi => ?_⟩
    by_cases hin : i < n
    · rw [List.getElem_append_left (by omega)]
      exact hr i (by omega)
    · obtain rfl : i = n := by simp [hl] at hi; omega
      rw [List.getElem_append_right (by omega)]
      simpa [hl] using hp
/-- A line more behind a full list of lines. -/
theorem app_line {W : World} {E N T c2 : Nat} {L : List (List Int)} {C2 : Option Addr} {l : List Int} (hL : Lns W (some ⟨E, 0, none⟩) N L) (hN : 0 < N) (hN9 : N ≤ 1000) (hT : W.heap[T]? = some (.cells #[.slice C2 l.length c2] 38 (0, 0))) (hi : Ints W C2 l.length l) (hc : l.length ≤ c2) :
    ∃ g cp W', runA Try.prog 25 (.slice (some ⟨E, 0, none⟩) N N) (.slice (some ⟨T, 0, none⟩) 1 1) W = .ok (.value (.slice (some ⟨g, 0, none⟩) (N + 1) cp)) W' ∧ Lns W' (some ⟨g, 0, none⟩) (N + 1) (L ++ [l]) ∧ N + 1 ≤ cp ∧ Below W.heap.size W W' := by
  obtain ⟨b, o, e, hcs⟩ := hL.2 hN
  cases e
  obtain ⟨olds, hol, hos⟩ := list_ex (fun j (v : Value) => ∃ C c, v = .slice C (lAt L j).length c ∧ W.cell? ⟨E, 0 + j, none⟩ = some v ∧ Ints W C (lAt L j).length (lAt L j) ∧ (lAt L j).length ≤ c) N (fun j hj => by
    obtain ⟨C, c, q1, q2, q3⟩ := hcs j hj
    exact ⟨_, C, c, rfl, q1, q2, q3⟩)
  obtain ⟨i, hif, hz, hs, hby⟩ := info_parts info38_
  obtain ⟨v', W', q2, q3, q4⟩ := run_append_arg_grows (P := Try.prog) W 25 25 38 i _ 1 24 Try.underlying25 hif hz hs hby rfl (by omega) ⟨E, 0, none⟩ N N olds (by omega) (fun j u hj => by
      obtain ⟨hjl, rfl⟩ := List.getElem?_eq_some_iff.1 hj
      obtain ⟨C, c, _, q, _, _⟩ := hos j hjl
      rw [Addr.add_lit]
      exact q) ⟨T, 0, none⟩ 1 1 [.slice C2 l.length c2] rfl (fun j u hj => by
      obtain ⟨hjl, rfl⟩ := List.getElem?_eq_some_iff.1 hj
      obtain rfl : j = 0 := by simpa using hjl
      rw [Addr.add_lit, cell_row hT]
      rfl) (by omega) (by unfold maxLen; omega) (by omega)
  rcases q3.2 with ⟨_, e⟩ | ⟨g, cp, cur, rfl, _, hg, hcp, _, hsz, htake⟩
  · omega
  · have hb : Below W.heap.size W W' := ⟨q4.os, q4.tape, q4.output, q4.size, fun k hk => q4.block k hk (fun e => by cases e)⟩
    refine ⟨g, cp, W', run_app q2, ⟨by rw [List.length_append, hL.1]; rfl, fun _ => ⟨g, 0, rfl, fun j hj => ?_⟩⟩, hcp, hb⟩
    have hcell := q3.cells (g := g) rfl j
    rw [Addr.add_lit] at hcell
    rcases Nat.lt_or_ge j N with hjn | hjn
    · obtain ⟨C, c, p1, _, p3, p4⟩ := hos j (by omega)
      have e1 : lAt (L ++ [l]) j = lAt L j := by
        unfold lAt
        rw [List.getD_eq_getElem?_getD, List.getElem?_append_left (by rw [hL.1]; exact hjn), ← List.getD_eq_getElem?_getD]
      rw [e1]
      exact ⟨C, c, by rw [← p1]; exact hcell _ (by rw [List.getElem?_append_left (by omega), List.getElem?_eq_getElem]), p3.below hb (Nat.le_refl _), p4⟩
    · obtain rfl : j = N := by omega
      have e1 : lAt (L ++ [l]) j = l := by
        unfold lAt
        rw [List.getD_eq_getElem?_getD, List.getElem?_append_right (by rw [hL.1]; exact Nat.le_refl _), hL.1]
        simp
      rw [e1]
      exact ⟨C2, c2, hcell _ (by rw [List.getElem?_append_right (by omega), hol]; simp), hi.below hb (Nat.le_refl _), hc⟩
section
attribute [local go_sem ↓] exec_app at_app
attribute [local go_sem] Oper.semAt_some
set_option maxRecDepth 100000 in
set_option maxHeartbeats 40000000 in
theorem known12 (w : World) : Calls Try.prog 12 #[] w fun en w' => en = .returned (.bool true) ∧ Below w.heap.size w w' := by
  go_enter Try.func12, Try.ntmps12
  go_wp2_with fail
  refine (dialects45 w).mono ?_
  rintro en w1 ⟨D, rfl, hr, hb⟩
  have S := Lib.hid hr
  have B := Lib.hid hb
  clear hr hb
  go_wp2_with fail
  refine (lines46 w1).mono ?_
  rintro en w2 ⟨E, rfl, hr, hb⟩
  replace S := Lib.hid (S.out.below hb (Nat.le_refl _))
  replace B := Lib.hid (B.out.trans (hb.mono B.out.size))
  have X := Lib.hid hr
  clear hr hb
  go_wp2_with fail
  have hb := below_alloc_ w2 (.cells #[.slice (some ⟨D, 0, none⟩) 1 1] 24)
  have hrow := heap_alloc_new_ w2 (.cells #[.slice (some ⟨D, 0, none⟩) 1 1] 24)
  obtain ⟨w3, hV⟩ : ∃ w3, w2.alloc (.cells #[.slice (some ⟨D, 0, none⟩) 1 1] 24) = w3 := ⟨_, rfl⟩
  have hsz : w3.heap.size = w2.heap.size + 1 := by rw [← hV]; exact al_sz _ _
  rw [hV] at hb hrow
  try rw [hV]
  clear hV
  obtain ⟨Z, hZ⟩ : ∃ Z, w2.heap.size = Z := ⟨_, rfl⟩
  rw [hZ] at hsz hrow
  try rw [hZ]
  replace S := Lib.hid (S.out.below hb (by rw [hZ]; exact Nat.le_refl _))
  replace X := Lib.hid (X.out.below hb (by rw [hZ]; exact Nat.le_refl _))
  replace B := Lib.hid (B.out.trans (hb.mono B.out.size))
  replace hrow := Lib.hid hrow
  clear hb hZ
  obtain ⟨Q, hQ0⟩ : ∃ Q, Z + 1 = Q := ⟨_, rfl⟩
  rw [hQ0] at hsz
  rw [hQ0]
  have hQ := hsz
  clear hsz hQ0
  have hb := below_alloc_ w3 (.cells #[.int .i64 0, .int .i64 0] 3)
  have hsz := al_sz w3 (.cells #[.int .i64 0, .int .i64 0] 3)
  have hi2 : Ints (w3.alloc (.cells #[.int .i64 0, .int .i64 0] 3)) (some ⟨w3.heap.size, 0, none⟩) 2 [0, 0] := ints_new4 w3 [0, 0]
  obtain ⟨w4, hV⟩ : ∃ w4, w3.alloc (.cells #[.int .i64 0, .int .i64 0] 3) = w4 := ⟨_, rfl⟩
  rw [hV] at hi2 hb hsz ⊢
  rw [hQ] at hsz hi2
  clear hV hQ
  have hQ := hsz
  clear hsz
  replace S := Lib.hid (S.out.below hb (Nat.le_refl _))
  replace X := Lib.hid (X.out.below hb (Nat.le_refl _))
  replace B := Lib.hid (B.out.trans (hb.mono B.out.size))
  replace hrow := Lib.hid ((hb.block Z (lt_of_block hrow.out)).trans hrow.out)
  have hq0 := hi2
  clear hb hi2
  have hb := below_alloc_ w4 (.cells #[.int .i64 2, .int .i64 1] 3)
  have hsz := al_sz w4 (.cells #[.int .i64 2, .int .i64 1] 3)
  have hi2 : Ints (w4.alloc (.cells #[.int .i64 2, .int .i64 1] 3)) (some ⟨w4.heap.size, 0, none⟩) 2 [2, 1] := ints_new4 w4 [2, 1]
  obtain ⟨w5, hV⟩ : ∃ w5, w4.alloc (.cells #[.int .i64 2, .int .i64 1] 3) = w5 := ⟨_, rfl⟩
  rw [hV] at hi2 hb hsz ⊢
  rw [hQ] at hsz hi2
  clear hV hQ
  have hQ := hsz
  clear hsz
  replace S := Lib.hid (S.out.below hb (Nat.le_refl _))
  replace X := Lib.hid (X.out.below hb (Nat.le_refl _))
  replace B := Lib.hid (B.out.trans (hb.mono B.out.size))
  replace hrow := Lib.hid ((hb.block Z (lt_of_block hrow.out)).trans hrow.out)
  replace hq0 := hq0.below hb (Nat.le_refl _)
  have hq1 := hi2
  clear hb hi2
  have hb := below_alloc_ w5 (.cells #[.int .i64 3, .int .i64 3] 3)
  have hsz := al_sz w5 (.cells #[.int .i64 3, .int .i64 3] 3)
  have hi2 : Ints (w5.alloc (.cells #[.int .i64 3, .int .i64 3] 3)) (some ⟨w5.heap.size, 0, none⟩) 2 [3, 3] := ints_new4 w5 [3, 3]
  obtain ⟨w6, hV⟩ : ∃ w6, w5.alloc (.cells #[.int .i64 3, .int .i64 3] 3) = w6 := ⟨_, rfl⟩
  rw [hV] at hi2 hb hsz ⊢
  rw [hQ] at hsz hi2
  clear hV hQ
  have hQ := hsz
  clear hsz
  replace S := Lib.hid (S.out.below hb (Nat.le_refl _))
  replace X := Lib.hid (X.out.below hb (Nat.le_refl _))
  replace B := Lib.hid (B.out.trans (hb.mono B.out.size))
  replace hrow := Lib.hid ((hb.block Z (lt_of_block hrow.out)).trans hrow.out)
  replace hq0 := hq0.below hb (Nat.le_refl _)
  replace hq1 := hq1.below hb (Nat.le_refl _)
  have hq2 := hi2
  clear hb hi2
  have hi2 : Lns (w6.alloc (.cells #[.slice (some ⟨Q, 0, none⟩) 2 2, .slice (some ⟨Q + 1, 0, none⟩) 2 2, .slice (some ⟨Q + 1 + 1, 0, none⟩) 2 2] 40)) (some ⟨w6.heap.size, 0, none⟩) 3 [[0, 0], [2, 1], [3, 3]] := lns_mk w6 (fun j => if j = 0 then some ⟨Q, 0, none⟩ else if j = 1 then some ⟨Q + 1, 0, none⟩ else some ⟨Q + 1 + 1, 0, none⟩) [[0, 0], [2, 1], [3, 3]] 40 (by
    intro j hj
    obtain rfl | rfl | rfl : j = 0 ∨ j = 1 ∨ j = 2 := by simp at hj; omega
    · exact hq0
    · exact hq1
    · exact hq2)
  rw [hQ] at hi2
  have hb := below_alloc_ w6 (.cells #[.slice (some ⟨Q, 0, none⟩) 2 2, .slice (some ⟨Q + 1, 0, none⟩) 2 2, .slice (some ⟨Q + 1 + 1, 0, none⟩) 2 2] 40)
  obtain ⟨w7, hV⟩ : ∃ w7, w6.alloc (.cells #[.slice (some ⟨Q, 0, none⟩) 2 2, .slice (some ⟨Q + 1, 0, none⟩) 2 2, .slice (some ⟨Q + 1 + 1, 0, none⟩) 2 2] 40) = w7 := ⟨_, rfl⟩
  rw [hV] at hi2 hb ⊢
  clear hV
  replace S := Lib.hid (S.out.below hb (Nat.le_refl _))
  replace X := Lib.hid (X.out.below hb (Nat.le_refl _))
  replace B := Lib.hid (B.out.trans (hb.mono B.out.size))
  replace hrow := Lib.hid ((hb.block Z (lt_of_block hrow.out)).trans hrow.out)
  have Lq := Lib.hid hi2
  clear hb hi2 hQ hq0 hq1 hq2
  refine (checkPassage29 (some ⟨D, 0, none⟩) 1 1 zX (some ⟨E, 0, none⟩) 2 2 lX (some ⟨Q + 1 + 1 + 1, 0, none⟩) 3 3 [[0, 0], [2, 1], [3, 3]] w7 S.out X.out Lq.out (by omega)).mono ?_
  rintro en w8 ⟨rfl, hb⟩
  rw [k_cp1]
  replace S := Lib.hid (S.out.below hb (Nat.le_refl _))
  replace X := Lib.hid (X.out.below hb (Nat.le_refl _))
  replace B := Lib.hid (B.out.trans (hb.mono B.out.size))
  replace hrow := Lib.hid ((hb.block Z (lt_of_block hrow.out)).trans hrow.out)
  clear hb Lq
  have rc : w8.cell? ⟨Z, 0, none⟩ = some (.slice (some ⟨D, 0, none⟩) 1 1) := by rw [cell_row hrow.out]; rfl
  go_wp2_with fail
  clear rc
  obtain ⟨Q, hQ⟩ : ∃ Q, w8.heap.size = Q := ⟨_, rfl⟩
  rw [hQ]
  have hb := below_alloc_ w8 (.cells #[.int .i64 0, .int .i64 1] 3)
  have hsz := al_sz w8 (.cells #[.int .i64 0, .int .i64 1] 3)
  have hi2 : Ints (w8.alloc (.cells #[.int .i64 0, .int .i64 1] 3)) (some ⟨w8.heap.size, 0, none⟩) 2 [0, 1] := ints_new4 w8 [0, 1]
  obtain ⟨w9, hV⟩ : ∃ w9, w8.alloc (.cells #[.int .i64 0, .int .i64 1] 3) = w9 := ⟨_, rfl⟩
  rw [hV] at hi2 hb hsz ⊢
  rw [hQ] at hsz hi2
  clear hV hQ
  have hQ := hsz
  clear hsz
  replace S := Lib.hid (S.out.below hb (Nat.le_refl _))
  replace X := Lib.hid (X.out.below hb (Nat.le_refl _))
  replace B := Lib.hid (B.out.trans (hb.mono B.out.size))
  replace hrow := Lib.hid ((hb.block Z (lt_of_block hrow.out)).trans hrow.out)
  have hq0 := hi2
  clear hb hi2
  have hi2 : Lns (w9.alloc (.cells #[.slice (some ⟨Q, 0, none⟩) 2 2] 40)) (some ⟨w9.heap.size, 0, none⟩) 1 [[0, 1]] := lns_mk w9 (fun j => some ⟨Q, 0, none⟩) [[0, 1]] 40 (by
    intro j hj
    obtain rfl : j = 0 := by simp at hj; omega
    · exact hq0)
  rw [hQ] at hi2
  have hb := below_alloc_ w9 (.cells #[.slice (some ⟨Q, 0, none⟩) 2 2] 40)
  obtain ⟨w10, hV⟩ : ∃ w10, w9.alloc (.cells #[.slice (some ⟨Q, 0, none⟩) 2 2] 40) = w10 := ⟨_, rfl⟩
  rw [hV] at hi2 hb ⊢
  clear hV
  replace S := Lib.hid (S.out.below hb (Nat.le_refl _))
  replace X := Lib.hid (X.out.below hb (Nat.le_refl _))
  replace B := Lib.hid (B.out.trans (hb.mono B.out.size))
  replace hrow := Lib.hid ((hb.block Z (lt_of_block hrow.out)).trans hrow.out)
  have Lq := Lib.hid hi2
  clear hb hi2 hQ hq0
  refine (checkPassage29 (some ⟨D, 0, none⟩) 1 1 zX (some ⟨E, 0, none⟩) 2 2 lX (some ⟨Q + 1, 0, none⟩) 1 1 [[0, 1]] w10 S.out X.out Lq.out (by omega)).mono ?_
  rintro en w11 ⟨rfl, hb⟩
  rw [k_cp2]
  replace S := Lib.hid (S.out.below hb (Nat.le_refl _))
  replace X := Lib.hid (X.out.below hb (Nat.le_refl _))
  replace B := Lib.hid (B.out.trans (hb.mono B.out.size))
  replace hrow := Lib.hid ((hb.block Z (lt_of_block hrow.out)).trans hrow.out)
  clear hb Lq
  have rc : w11.cell? ⟨Z, 0, none⟩ = some (.slice (some ⟨D, 0, none⟩) 1 1) := by rw [cell_row hrow.out]; rfl
  go_wp2_with fail
  clear rc
  have hb := below_alloc_ w11 (.cells #[.int .i64 1, .int .i64 2, .int .i64 2, .int .i64 2] 3)
  have hi2 : Ints (w11.alloc (.cells #[.int .i64 1, .int .i64 2, .int .i64 2, .int .i64 2] 3)) (some ⟨w11.heap.size, 0, none⟩) 4 [1, 2, 2, 2] := ints_new4 w11 [1, 2, 2, 2]
  obtain ⟨w12, hV⟩ : ∃ w12, w11.alloc (.cells #[.int .i64 1, .int .i64 2, .int .i64 2, .int .i64 2] 3) = w12 := ⟨_, rfl⟩
  rw [hV] at hi2 hb ⊢
  clear hV
  replace S := Lib.hid (S.out.below hb (Nat.le_refl _))
  replace X := Lib.hid (X.out.below hb (Nat.le_refl _))
  replace B := Lib.hid (B.out.trans (hb.mono B.out.size))
  replace hrow := Lib.hid ((hb.block Z (lt_of_block hrow.out)).trans hrow.out)
  have Lq := Lib.hid hi2
  clear hb hi2
  refine (checkLevels27 (some ⟨D, 0, none⟩) 1 1 zX (some ⟨E, 0, none⟩) 2 2 lX (some ⟨w11.heap.size, 0, none⟩) 4 4 [1, 2, 2, 2] w12 S.out X.out (by omega) Lq.out).mono ?_
  rintro en w13 ⟨hb, hor⟩
  obtain ⟨_, rfl⟩ | ⟨h0, _⟩ := hor
  rotate_left
  · exact absurd x_ok h0
  rw [k_ck]
  replace S := Lib.hid (S.out.below hb (Nat.le_refl _))
  replace X := Lib.hid (X.out.below hb (Nat.le_refl _))
  replace B := Lib.hid (B.out.trans (hb.mono B.out.size))
  replace hrow := Lib.hid ((hb.block Z (lt_of_block hrow.out)).trans hrow.out)
  clear hb Lq
  have rc : w13.cell? ⟨Z, 0, none⟩ = some (.slice (some ⟨D, 0, none⟩) 1 1) := by rw [cell_row hrow.out]; rfl
  go_wp2_with fail
  refine wp_region_held_drew (S := fun w2 => Below w13.heap.size w13 w2) (by kernel_rfl) (drew_b _ _) (fun hS0 => ?_)
  obtain ⟨wz, hz⟩ : ∃ wz, w13.drew = wz := ⟨_, rfl⟩
  rw [hz] at hS0 ⊢
  clear hz
  refine wpAnyH_take (i := 0) (oi := { dst := some 33, op := Go.Op.load 24 (Go.Operand.tmp 1), type := 24, pos := "outright.go:221", after := #[], guard := none }) (v := .agg #[.slice (some ⟨D, 0, none⟩) 1 1]) rfl (by kernel_rfl) (by kernel_rfl) (by kernel_rfl) (fun _ _ _ h => h) (Or.inl ⟨by rfl, by intro w2 hSw; (try dsimp only at hSw); have e0 : w2.cell? ⟨Z, 0, none⟩ = some (.slice (some ⟨D, 0, none⟩) 1 1) := (hSw.cell (p := ⟨Z, 0, none⟩) (lt_of_cell rc)).trans rc; go_simp⟩) hS0 ?_
  try simp only [Act.put, List.setIfInBounds_toArray, List.set_cons_zero, List.set_cons_succ]
  refine wpAnyH_take (i := 1) (oi := { dst := some 34, op := Go.Op.move (Go.Operand.tmp 2), type := 25, pos := "outright.go:221", after := #[], guard := none }) (v := .slice (some ⟨E, 0, none⟩) 2 2) rfl (by kernel_rfl) (by kernel_rfl) (by kernel_rfl) (fun _ _ _ h => h) (Or.inl ⟨by rfl, by intro w2 hSw; (try dsimp only at hSw); have e0 : w2.cell? ⟨Z, 0, none⟩ = some (.slice (some ⟨D, 0, none⟩) 1 1) := (hSw.cell (p := ⟨Z, 0, none⟩) (lt_of_cell rc)).trans rc; go_simp⟩) hS0 ?_
  try simp only [Act.put, List.setIfInBounds_toArray, List.set_cons_zero, List.set_cons_succ]
  refine wpAnyH_ready (rs := [2]) (by kernel_rfl) (by simp) ?_
  refine AllReadyH.cons (o := { dst := some 35, op := Go.Op.buildSlice 38 2 #[(0, Go.Operand.const (Go.Value.int Go.IntKind.i64 4)), (1, Go.Operand.const (Go.Value.int Go.IntKind.i64 1))], type := 38, pos := "outright.go:221", after := #[], guard := none }) rfl (fun K2 hK => ?_) AllReadyH.nil
  go_simp
  have hb1 := below_alloc_ wz (.cells #[.int .i64 4, .int .i64 1] 3)
  have hi1 : Ints (wz.alloc (.cells #[.int .i64 4, .int .i64 1] 3)) (some ⟨wz.heap.size, 0, none⟩) 2 [4, 1] := ints_new4 wz [4, 1]
  obtain ⟨Q, hQ⟩ : ∃ Q, wz.heap.size = Q := ⟨_, rfl⟩
  obtain ⟨V1, hV⟩ : ∃ V1, wz.alloc (.cells #[.int .i64 4, .int .i64 1] 3) = V1 := ⟨_, rfl⟩
  rw [hV] at hb1 hi1
  try rw [hV]
  rw [hQ] at hi1
  try rw [hQ]
  have HI1 := Lib.hid hi1
  refine hK.out _ _ (hS0.trans (hb1.mono hS0.size)) (fun hS1 => ?_)
  clear hK K2 hb1 hV hi1 hQ
  try simp only [Act.put, List.setIfInBounds_toArray, List.set_cons_zero, List.set_cons_succ]
  refine wpAnyH_ready (rs := [3]) (by kernel_rfl) (by simp) ?_
  refine AllReadyH.cons (o := { dst := some 36, op := Go.Op.buildSlice 25 1 #[(0, Go.Operand.tmp 35)], type := 25, pos := "outright.go:221", after := #[{ on := 2, ground := Go.Ground.data }], guard := none }) rfl (fun K2 hK => ?_) AllReadyH.nil
  go_simp
  have hb2 := below_alloc_ V1 (.cells #[.slice (some ⟨Q, 0, none⟩) 2 2] 38)
  have hT := heap_alloc_new_ V1 (.cells #[.slice (some ⟨Q, 0, none⟩) 2 2] 38)
  obtain ⟨Q2, hQ⟩ : ∃ Q2, V1.heap.size = Q2 := ⟨_, rfl⟩
  obtain ⟨V2, hV⟩ : ∃ V2, V1.alloc (.cells #[.slice (some ⟨Q, 0, none⟩) 2 2] 38) = V2 := ⟨_, rfl⟩
  have HI2 := Lib.hid (HI1.out.below hb2 (Nat.le_refl _))
  rw [hV] at hb2 hT HI2
  try rw [hV]
  rw [hQ] at hT
  try rw [hQ]
  have HT := Lib.hid hT
  refine hK.out _ _ (hS1.trans (hb2.mono hS1.size)) (fun hS2 => ?_)
  clear hK K2 hb2 hV hT hQ
  try simp only [Act.put, List.setIfInBounds_toArray, List.set_cons_zero, List.set_cons_succ]
  refine wpAnyH_ready (rs := [4]) (by kernel_rfl) (by simp) ?_
  refine AllReadyH.cons (o := { dst := some 37, op := Go.Op.call { callee := Go.Callee.builtin Go.Builtin.append, args := #[Go.Operand.tmp 34, Go.Operand.tmp 36], argTypes := #[25, 25] }, type := 25, pos := "outright.go:221", after := #[{ on := 1, ground := Go.Ground.data }, { on := 3, ground := Go.Ground.data }], guard := none }) rfl (fun K2 hK => ?_) AllReadyH.nil
  go_simp
  obtain ⟨g, cp, V3, hrun, hl3, hc3, hb3⟩ := app_line (l := [4, 1]) (X.out.below hS2 (Nat.le_refl _)) (by omega) (by omega) HT.out HI2.out (by decide)
  rw [hrun]
  (try go_simp)
  have HL3 := Lib.hid (show Lns V3 (some ⟨g, 0, none⟩) 3 kX from hl3)
  refine hK.out _ _ (hS2.trans (hb3.mono hS2.size)) (fun hS3 => ?_)
  clear hK K2 hb3 hl3 hrun hc3
  try simp only [Act.put, List.setIfInBounds_toArray, List.set_cons_zero, List.set_cons_succ]
  refine wpAnyH_ready (rs := [5]) (by kernel_rfl) (by simp) ?_
  refine AllReadyH.cons (o := { dst := some 38, op := Go.Op.call { callee := Go.Callee.value (Go.Operand.func 32), args := #[Go.Operand.tmp 33, Go.Operand.tmp 37], argTypes := #[24, 25] }, type := 32, pos := "outright.go:221", after := #[{ on := 0, ground := Go.Ground.data }, { on := 4, ground := Go.Ground.data }, { on := 4, ground := Go.Ground.chain }], guard := none }) rfl (fun K2 hK => ?_) AllReadyH.nil
  go_simp
  refine (longest32 (some ⟨D, 0, none⟩) 1 1 zX (some ⟨g, 0, none⟩) 3 cp kX V3 (S.out.below hS3 (Nat.le_refl _)) HL3.out (by omega)).mono ?_
  rintro e9 V4 ⟨hb4, hor⟩
  obtain ⟨_, Cp, Np, cq, rfl, hip, hcp⟩ | ⟨h0, _⟩ := hor
  rotate_left
  · exact absurd k_ok h0
  rw [k_fst] at hip
  (try go_simp)
  have Pp0 := Lib.hid hip
  have lp := Lib.hid hip.1
  refine hK.out _ _ (hS3.trans (hb4.mono hS3.size)) (fun hS4 => ?_)
  clear hK K2 hb4 hip hcp
  try simp only [Act.put, List.setIfInBounds_toArray, List.set_cons_zero, List.set_cons_succ]
  refine wpAnyH_take (i := 6) (oi := { dst := some 32, op := Go.Op.move (Go.Operand.tmp 38), type := 32, pos := "outright.go:221", after := #[{ on := 5, ground := Go.Ground.data }], guard := none }) (v := .tuple #[.slice Cp Np cq, .int .i64 0]) rfl (by kernel_rfl) (by kernel_rfl) (by kernel_rfl) (fun _ _ _ h => h) (Or.inl ⟨by rfl, by intro w2 hSw; (try dsimp only at hSw); have e0 : w2.cell? ⟨Z, 0, none⟩ = some (.slice (some ⟨D, 0, none⟩) 1 1) := (hSw.cell (p := ⟨Z, 0, none⟩) (lt_of_cell rc)).trans rc; go_simp⟩) hS4 ?_
  try simp only [Act.put, List.setIfInBounds_toArray, List.set_cons_zero, List.set_cons_succ]
  refine wpAnyH_take (i := 7) (oi := { dst := some 39, op := Go.Op.extract (Go.Operand.tmp 32) 0, type := 31, pos := "outright.go:221", after := #[{ on := 6, ground := Go.Ground.data }], guard := none }) (v := .slice Cp Np cq) rfl (by kernel_rfl) (by kernel_rfl) (by kernel_rfl) (fun _ _ _ h => h) (Or.inl ⟨by rfl, by intro w2 hSw; (try dsimp only at hSw); have e0 : w2.cell? ⟨Z, 0, none⟩ = some (.slice (some ⟨D, 0, none⟩) 1 1) := (hSw.cell (p := ⟨Z, 0, none⟩) (lt_of_cell rc)).trans rc; go_simp⟩) hS4 ?_
  try simp only [Act.put, List.setIfInBounds_toArray, List.set_cons_zero, List.set_cons_succ]
  refine wpAnyH_take (i := 8) (oi := { dst := some 40, op := Go.Op.extract (Go.Operand.tmp 32) 1, type := 28, pos := "outright.go:221", after := #[{ on := 6, ground := Go.Ground.data }, { on := 9, ground := Go.Ground.gcOnly Go.Departure.lateStores }], guard := none }) (v := .int .i64 0) rfl (by kernel_rfl) (by kernel_rfl) (by kernel_rfl) (fun _ _ _ h => h) (Or.inl ⟨by rfl, by intro w2 hSw; (try dsimp only at hSw); have e0 : w2.cell? ⟨Z, 0, none⟩ = some (.slice (some ⟨D, 0, none⟩) 1 1) := (hSw.cell (p := ⟨Z, 0, none⟩) (lt_of_cell rc)).trans rc; go_simp⟩) hS4 ?_
  try simp only [Act.put, List.setIfInBounds_toArray, List.set_cons_zero, List.set_cons_succ]
  refine wpAnyH_take (i := 9) (oi := { dst := some 7, op := Go.Op.assign (Go.Operand.tmp 39), type := 31, pos := "outright.go:221", after := #[{ on := 7, ground := Go.Ground.data }, { on := 5, ground := Go.Ground.chain }, { on := 0, ground := Go.Ground.phase }, { on := 1, ground := Go.Ground.phase }, { on := 2, ground := Go.Ground.phase }, { on := 3, ground := Go.Ground.phase }, { on := 4, ground := Go.Ground.phase }, { on := 5, ground := Go.Ground.phase }, { on := 6, ground := Go.Ground.phase }, { on := 7, ground := Go.Ground.phase }, { on := 8, ground := Go.Ground.textOnly Go.Departure.lateStores }], guard := none }) (v := .slice Cp Np cq) rfl (by kernel_rfl) (by kernel_rfl) (by kernel_rfl) (fun _ _ _ h => h) (Or.inl ⟨by rfl, by intro w2 hSw; (try dsimp only at hSw); have e0 : w2.cell? ⟨Z, 0, none⟩ = some (.slice (some ⟨D, 0, none⟩) 1 1) := (hSw.cell (p := ⟨Z, 0, none⟩) (lt_of_cell rc)).trans rc; go_simp⟩) hS4 ?_
  try simp only [Act.put, List.setIfInBounds_toArray, List.set_cons_zero, List.set_cons_succ]
  refine wpAnyH_take (i := 10) (oi := { dst := some 8, op := Go.Op.assign (Go.Operand.tmp 40), type := 28, pos := "outright.go:221", after := #[{ on := 8, ground := Go.Ground.data }, { on := 9, ground := Go.Ground.chain }, { on := 0, ground := Go.Ground.phase }, { on := 1, ground := Go.Ground.phase }, { on := 2, ground := Go.Ground.phase }, { on := 3, ground := Go.Ground.phase }, { on := 4, ground := Go.Ground.phase }, { on := 5, ground := Go.Ground.phase }, { on := 6, ground := Go.Ground.phase }, { on := 7, ground := Go.Ground.phase }, { on := 8, ground := Go.Ground.phase }, { on := 9, ground := Go.Ground.phase }], guard := none }) (v := .int .i64 0) rfl (by kernel_rfl) (by kernel_rfl) (by kernel_rfl) (fun _ _ _ h => h) (Or.inl ⟨by rfl, by intro w2 hSw; (try dsimp only at hSw); have e0 : w2.cell? ⟨Z, 0, none⟩ = some (.slice (some ⟨D, 0, none⟩) 1 1) := (hSw.cell (p := ⟨Z, 0, none⟩) (lt_of_cell rc)).trans rc; go_simp⟩) hS4 ?_
  try simp only [Act.put, List.setIfInBounds_toArray, List.set_cons_zero, List.set_cons_succ]
  refine wpAnyH_done (by kernel_rfl) ?_ _
  have hb := hS4
  clear rc
  replace S := Lib.hid (S.out.below hb (Nat.le_refl _))
  replace X := Lib.hid (X.out.below hb (Nat.le_refl _))
  replace B := Lib.hid (B.out.trans (hb.mono B.out.size))
  replace hrow := Lib.hid ((hb.block Z (lt_of_block hrow.out)).trans hrow.out)
  clear hb HL3 HT HI1 HI2 hS0 hS1 hS2 hS3 hS4
  obtain ⟨w14, hw⟩ : ∃ w14, V4 = w14 := ⟨_, rfl⟩
  subst hw
  obtain ⟨w14, rfl⟩ : ∃ w14, w14 = V4 := ⟨_, rfl⟩
  have Pp := Pp0
  clear Pp0
  have rc : w14.cell? ⟨Z, 0, none⟩ = some (.slice (some ⟨D, 0, none⟩) 1 1) := by rw [cell_row hrow.out]; rfl
  go_wp2_with fail
  clear rc
  refine (grades38 (some ⟨D, 0, none⟩) 1 1 zX (some ⟨E, 0, none⟩) 2 2 lX 0 w14 S.out X.out (by omega)).mono ?_
  rintro en w15 ⟨hb, hor⟩
  obtain ⟨_, ⟨h, Cg, cg, hh, _, rfl, hi, hc⟩ | ⟨h0, _⟩⟩ | ⟨h0, _⟩ := hor
  rotate_left
  · exact absurd (by omega) h0
  · exact absurd x_ok h0
  obtain rfl : h = 0 := by omega
  rw [k_gr, k_len0] at hi
  rw [k_len0]
  have Pg := Lib.hid hi
  replace S := Lib.hid (S.out.below hb (Nat.le_refl _))
  replace X := Lib.hid (X.out.below hb (Nat.le_refl _))
  replace Pp := Lib.hid (Pp.out.below hb (Nat.le_refl _))
  replace B := Lib.hid (B.out.trans (hb.mono B.out.size))
  replace hrow := Lib.hid ((hb.block Z (lt_of_block hrow.out)).trans hrow.out)
  clear hi hb hc hh
  have rc : w15.cell? ⟨Z, 0, none⟩ = some (.slice (some ⟨D, 0, none⟩) 1 1) := by rw [cell_row hrow.out]; rfl
  go_wp2_with fail
  clear rc
  clear S X hrow
  obtain ⟨Q, hQ⟩ : ∃ Q, w15.heap.size = Q := ⟨_, rfl⟩
  rw [hQ]
  have hb := below_alloc_ w15 (.cells #[.int .i64 0, .int .i64 0, .int .i64 1] 3)
  have hsz := al_sz w15 (.cells #[.int .i64 0, .int .i64 0, .int .i64 1] 3)
  have hi2 : Ints (w15.alloc (.cells #[.int .i64 0, .int .i64 0, .int .i64 1] 3)) (some ⟨w15.heap.size, 0, none⟩) 3 [0, 0, 1] := ints_new4 w15 [0, 0, 1]
  obtain ⟨w16, hV⟩ : ∃ w16, w15.alloc (.cells #[.int .i64 0, .int .i64 0, .int .i64 1] 3) = w16 := ⟨_, rfl⟩
  rw [hV] at hi2 hb hsz ⊢
  rw [hQ] at hsz hi2
  clear hV hQ
  have hQ := hsz
  clear hsz
  replace Pp := Lib.hid (Pp.out.below hb (Nat.le_refl _))
  replace Pg := Lib.hid (Pg.out.below hb (Nat.le_refl _))
  replace B := Lib.hid (B.out.trans (hb.mono B.out.size))
  have hq0 := hi2
  clear hb hi2
  have hi2 : Lns (w16.alloc (.cells #[.slice (some ⟨Q, 0, none⟩) 3 3] 40)) (some ⟨w16.heap.size, 0, none⟩) 1 [[0, 0, 1]] := lns_mk w16 (fun j => some ⟨Q, 0, none⟩) [[0, 0, 1]] 40 (by
    intro j hj
    obtain rfl : j = 0 := by simp at hj; omega
    · exact hq0)
  rw [hQ] at hi2
  have hb := below_alloc_ w16 (.cells #[.slice (some ⟨Q, 0, none⟩) 3 3] 40)
  obtain ⟨w17, hV⟩ : ∃ w17, w16.alloc (.cells #[.slice (some ⟨Q, 0, none⟩) 3 3] 40) = w17 := ⟨_, rfl⟩
  rw [hV] at hi2 hb ⊢
  clear hV
  replace Pp := Lib.hid (Pp.out.below hb (Nat.le_refl _))
  replace Pg := Lib.hid (Pg.out.below hb (Nat.le_refl _))
  replace B := Lib.hid (B.out.trans (hb.mono B.out.size))
  have Lq := Lib.hid hi2
  clear hb hi2 hQ hq0
  refine (matches23 Cp Np cq [[0, 0, 1]] (some ⟨Q + 1, 0, none⟩) 1 1 [[0, 0, 1]] w17 Pp.out Lq.out (by have h4 : Np = 1 := (by rw [← lp.out]; rfl); intro j hj; obtain rfl : j = 0 := (by omega); decide) (by rw [← lp.out]; decide)).mono ?_
  rintro en w18 ⟨rfl, hb⟩
  replace Pp := Lib.hid (Pp.out.below hb (Nat.le_refl _))
  replace Pg := Lib.hid (Pg.out.below hb (Nat.le_refl _))
  replace B := Lib.hid (B.out.trans (hb.mono B.out.size))
  clear hb Lq Pp lp
  go_wp2_with fail
  have hb := below_alloc_ w18 (.cells #[.int .i64 2, .int .i64 1, .int .i64 1, .int .i64 2] 3)
  have hi2 : Ints (w18.alloc (.cells #[.int .i64 2, .int .i64 1, .int .i64 1, .int .i64 2] 3)) (some ⟨w18.heap.size, 0, none⟩) 4 [2, 1, 1, 2] := ints_new4 w18 [2, 1, 1, 2]
  obtain ⟨w19, hV⟩ : ∃ w19, w18.alloc (.cells #[.int .i64 2, .int .i64 1, .int .i64 1, .int .i64 2] 3) = w19 := ⟨_, rfl⟩
  rw [hV] at hi2 hb ⊢
  clear hV
  replace Pg := Lib.hid (Pg.out.below hb (Nat.le_refl _))
  replace B := Lib.hid (B.out.trans (hb.mono B.out.size))
  have Lq := Lib.hid hi2
  clear hb hi2
  refine (ints31 Cg 4 cg [2, 1, 1, 2] (some ⟨w18.heap.size, 0, none⟩) 4 4 [2, 1, 1, 2] w19 Pg.out Lq.out (by omega)).mono ?_
  rintro en w20 ⟨rfl, hb⟩
  replace Pg := Lib.hid (Pg.out.below hb (Nat.le_refl _))
  replace B := Lib.hid (B.out.trans (hb.mono B.out.size))
  clear hb Lq Pg
  go_wp2_with fail
  refine (works14 w20).mono ?_
  rintro en w21 ⟨rfl, hb⟩
  replace B := Lib.hid (B.out.trans (hb.mono B.out.size))
  clear hb
  go_wp2_with fail
  go_ret
  exact ⟨rfl, B.out⟩
end
end Go.Proofs.Ythdjbapidodlfaa
