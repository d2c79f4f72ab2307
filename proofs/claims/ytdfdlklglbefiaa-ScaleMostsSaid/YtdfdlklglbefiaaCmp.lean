/- Stage 3: slices.Compact at numbers. -/
import Derived.Test.YtdfdlklglbefiaaPlc
namespace Go.Proofs.Ytdfdlklglbefiaa
set_option linter.unusedSimpArgs false
set_option linter.unusedVariables false
open Go.RowKit Go.Shelf
attribute [local go_sem] Oper.semAt_some

theorem cmpc_take (l : List Int) (i : Nat) (h : i + 1 < l.length) : cmpc (l.take (i + 2)) = if iAt l i = iAt l (i + 1) then cmpc (l.take (i + 1)) else cmpc (l.take (i + 1)) ++ [iAt l (i + 1)] := by
  induction l generalizing i with
  | nil => simp at h
  | cons x t ih =>
    cases t with
    | nil => simp at h
    | cons y r =>
      cases i with
      | zero =>
        show cmpc [x, y] = if x = y then cmpc [x] else cmpc [x] ++ [y]
        simp only [cmpc]
        split
        · next e => rw [e]
        · rfl
      | succ i =>
        have ih' : cmpc (y :: r.take (i + 1)) = if iAt (y :: r) i = iAt (y :: r) (i + 1) then cmpc (y :: r.take i) else cmpc (y :: r.take i) ++ [iAt (y :: r) (i + 1)] := ih i (by simpa using h)
        show cmpc (x :: y :: r.take (i + 1)) = if iAt (y :: r) i = iAt (y :: r) (i + 1) then cmpc (x :: y :: r.take i) else cmpc (x :: y :: r.take i) ++ [iAt (y :: r) (i + 1)]
        simp only [cmpc]
        rw [ih']
        split <;> split <;> simp
theorem takeI_succ (l : List Int) (i : Nat) (h : i < l.length) : l.take (i + 1) = l.take i ++ [iAt l i] := by
  rw [List.take_succ_eq_append_getElem h, iAt_eq h]
theorem cmpc_pre (l : List Int) (k : Nat) (hk : k ≤ l.length) (h : ∀ j, j + 1 < k → iAt l j ≠ iAt l (j + 1)) : cmpc (l.take k) = l.take k := by
  induction k with
  | zero => simp [cmpc]
  | succ i ih =>
    cases i with
    | zero =>
      cases l with
      | nil => simp at hk
      | cons x t => simp [cmpc]
    | succ i =>
      rw [cmpc_take l i (by omega), if_neg (h i (by omega)), ih (by omega) (fun j hj => h j (by omega)), takeI_succ l (i + 1) (by omega)]

/-- A block of numbers. -/
def RowN (W : World) (D : Nat) (c : List Int) : Prop := ∃ rest : List Value, W.heap[D]? = some (.cells (flatI c ++ rest).toArray 2 (0, 0))
theorem RowN.cell {W : World} {D : Nat} {c : List Int} (h : RowN W D c) {j : Nat} (hj : j < c.length) : W.cell? ⟨D, j, none⟩ = some (.int .i64 (iAt c j)) := by
  obtain ⟨rest, h⟩ := h
  rw [cell_row h, List.getElem?_toArray, List.getElem?_append_left (by simpa [flatI] using hj)]
  simp [flatI, iAt_eq hj, hj]
theorem RowN.fz {W : World} {D : Nat} {c : List Int} (h : RowN W D c) (q : Nat) : W.frozen? ⟨D, q, none⟩ = false := by
  obtain ⟨rest, h⟩ := h
  exact frozen_row h
theorem RowN.lt {W : World} {D : Nat} {c : List Int} (h : RowN W D c) : D < W.heap.size := by
  obtain ⟨rest, h⟩ := h
  exact lt_of_block h
theorem RowN.put {W : World} {D : Nat} {c : List Int} (h : RowN W D c) {j : Nat} (hj : j < c.length) (x : Int) : RowN (W.setCell ⟨D, j, none⟩ (.int .i64 x)) D (c.set j x) := by
  obtain ⟨rest, h⟩ := h
  refine ⟨rest, ?_⟩
  rw [set_same _ _ h]
  simp only [List.setIfInBounds_toArray]
  rw [List.set_append_left _ _ (by simpa [flatI] using hj)]
  simp [flatI, List.map_set]
theorem RowN.below {W W' : World} {D : Nat} {c : List Int} (h : RowN W D c) (hb : Below W.heap.size W W') : RowN W' D c := by
  obtain ⟨rest, h⟩ := h
  exact ⟨rest, (hb.block _ (lt_of_block h)).trans h⟩
theorem rowN_own {W : World} {g n cp : Nat} {l : List Int} (h : W.ownsRow 0 2 1 (.slice (some ⟨g, 0, none⟩) n cp) n (flatI l)) : RowN W g l := by
  rcases h.2 with ⟨e, _⟩ | ⟨g', cap, cur, e, hb, hg, hc, _, hsz, htake⟩
  · cases e
  · cases e
    refine ⟨cur.toList.drop (n * 1), ?_⟩
    rw [← htake, List.take_append_drop]
    exact hg
theorem RowN.ints {W : World} {D : Nat} {c m : List Int} (h : RowN W D c) (hm : m.length ≤ c.length) (e : c.take m.length = m) : Ints W (some ⟨D, 0, none⟩) m.length m := by
  refine ⟨rfl, fun _ => ⟨D, 0, rfl, fun j hj => ?_⟩⟩
  rw [Nat.zero_add, h.cell (by omega)]
  congr 2
  rw [iAt_eq (by omega), iAt_eq hj]
  have : (c.take m.length)[j]'(by rw [List.length_take]; omega) = m[j] := by simp only [e]
  rw [← this, List.getElem_take]
/-- What the inner rounds keep. -/
structure CmI (l : List Int) (D n p kk : Nat) (c : List Int) (W W' : World) : Prop where
  row : RowN W' D c
  len : c.length = n
  pre : c.take kk = cmpc (l.take p)
  cnt : (cmpc (l.take p)).length = kk
  le : kk + 1 ≤ p
  rest : ∀ j, p ≤ j + 1 → j < n → iAt c j = iAt l j
  keep : Keeps (fun j => j = D) W W'
theorem CmI.same {l : List Int} {D n p kk : Nat} {c : List Int} {W W' W2 : World} (h : CmI l D n p kk c W W') (hl : l.length = n) (hp : p < n) (hp1 : 1 ≤ p) (e : iAt l p = iAt l (p - 1)) (hb : Below W'.heap.size W' W2) : CmI l D n (p + 1) kk c W W2 := by
  obtain ⟨q, rfl⟩ : ∃ q, p = q + 1 := ⟨p - 1, by omega⟩
  have h1 := cmpc_take l q (by omega)
  rw [if_pos (by simpa using e.symm)] at h1
  exact ⟨h.row.below hb, h.len, by rw [h.pre]; exact h1.symm, by rw [show q + 1 + 1 = q + 2 by omega, h1]; exact h.cnt, by have := h.le; omega, fun j h2 h3 => h.rest j (by omega) h3, h.keep.trans (Keeps.of_new hb)⟩
theorem iAt_set_ne {c : List Int} {i j : Nat} (x : Int) (h : i ≠ j) : iAt (c.set i x) j = iAt c j := by
  simp [iAt, List.getD, List.getElem?_set_ne h]
theorem CmI.put {l : List Int} {D n p kk : Nat} {c : List Int} {W W' W2 : World} (h : CmI l D n p kk c W W') (hl : l.length = n) (hp : p < n) (hp1 : 1 ≤ p) (e : iAt l p ≠ iAt l (p - 1)) (hb : Below W'.heap.size W' W2) : CmI l D n (p + 1) (kk + 1) (c.set kk (iAt l p)) W (W2.setCell ⟨D, kk, none⟩ (.int .i64 (iAt l p))) := by
  obtain ⟨q, rfl⟩ : ∃ q, p = q + 1 := ⟨p - 1, by omega⟩
  have h1 := cmpc_take l q (by omega)
  rw [if_neg (by intro e'; exact e (by simpa using e'.symm))] at h1
  have hle := h.le
  have hln := h.len
  refine ⟨(h.row.below hb).put (by omega) _, by rw [List.length_set]; exact h.len, ?_, ?_, by omega, fun j h2 h3 => ?_, (h.keep.trans (Keeps.of_new hb)).trans (keeps_setCell _ _ _ _)⟩
  · rw [show q + 1 + 1 = q + 2 by omega, h1, ← h.pre, List.take_succ_eq_append_getElem (by rw [List.length_set]; omega), List.take_set_of_le (Nat.le_refl _), List.getElem_set_self]
  · rw [show q + 1 + 1 = q + 2 by omega, h1, List.length_append, h.cnt]; rfl
  · rw [iAt_set_ne _ (by omega)]
    exact h.rest j (by omega) h3

theorem keeps_setCells (b : Nat) (vs : List Value) (o : Nat) (w : World) : Keeps (fun k => k = b) w (w.setCells b o vs) := by
  induction vs generalizing o w with
  | nil => exact Keeps.refl _ _
  | cons v vs ih => exact (keeps_setCell w b o v).trans (ih (o + 1) _)
set_option maxRecDepth 100000 in
set_option maxHeartbeats 4000000 in
theorem compact91 : Cmp91 := by
  intro W v n l hl h1 hn ho
  obtain ⟨D, cap, rfl, hcap⟩ : ∃ D cap, v = .slice (some ⟨D, 0, none⟩) n cap ∧ n ≤ cap := by
    rcases ho.2 with ⟨rfl, h0⟩ | ⟨D, cap, cur, rfl, hb, hg, hc, _⟩
    · omega
    · exact ⟨D, cap, rfl, by omega⟩
  have HR := Lib.hid (rowN_own ho)
  have Hl := Lib.hid hl
  clear ho hl
  by_cases hn2 : n < 2
  · have d0 : decide ((n : Int) < 2) = true := decide_eq_true (by omega)
    have d1 : (n : Int) < 2 := by omega
    go_enter Try.func91, Try.ntmps91
    go_wp2_with fail
    go_ret
    have e : cmpc l = l := by
      have := cmpc_pre l l.length (Nat.le_refl _) (fun j hj => by have := Hl.out; omega)
      rwa [List.take_length] at this
    exact ⟨D, cap, rfl, by rw [e, Hl.out]; rfl, by rw [e]; exact HR.out.ints (Nat.le_refl _) List.take_length, by rw [e, Hl.out]; exact hcap, Keeps.refl _ _⟩
  · have d0 : decide ((n : Int) < 2) = false := decide_eq_false (by omega)
    have d1 : ¬ (n : Int) < 2 := by omega
    go_enter Try.func91, Try.ntmps91
    go_wp2_with fail
    clear d0 d1
    go_loopw [3] (fun i wr => ∃ k : Nat, 1 ≤ k ∧ k ≤ n ∧ i = .int .i64 k ∧ (∀ j, j + 1 < k → iAt l j ≠ iAt l (j + 1)) ∧ Below W.heap.size W wr) (fun i _ => n - (intOf i).toNat)
    case atStart => exact ⟨1, Nat.le_refl _, by omega, rfl, fun j h1 => by omega, Below.refl _ _⟩
    case round =>
      obtain ⟨k, hk1, hk, rfl, hw, hB⟩ := hrel
      obtain ⟨wk, rfl⟩ : ∃ wk, wk = wr := ⟨_, rfl⟩
      by_cases hlt : k < n
      · obtain ⟨q, rfl⟩ : ∃ q, k = q + 1 := ⟨k - 1, by omega⟩
        have hrk := HR.out.below hB
        have c0 := hrk.cell (j := q) (by have := Hl.out; omega)
        have c1 := hrk.cell (j := q + 1) (by have := Hl.out; omega)
        have Hw := Lib.hid hw
        have HB := Lib.hid hB
        have Hrk := Lib.hid hrk
        obtain ⟨g, hg⟩ : ∃ g, iAt l q = g := ⟨_, rfl⟩
        obtain ⟨g', hg'⟩ : ∃ g, iAt l (q + 1) = g := ⟨_, rfl⟩
        rw [hg] at c0
        rw [hg'] at c1
        have HG := Lib.hid (And.intro hg hg')
        have i0 : (0 : Int) ≤ (q : Int) := by omega
        have i1 : (q : Int) < (n : Int) := by omega
        have i2 : (q : Int) + 1 < (n : Int) := by omega
        have i3 : (0 : Int) ≤ (q : Int) + 1 := by omega
        have i4 : (q : Int) + 1 ≤ (n : Int) := by omega
        have e1 : ((q : Int) + 1).toNat = q + 1 := by omega
        have e2 : ((q + 1 : Nat) : Int) = (q : Int) + 1 := by omega
        clear hw hB hrk hg hg'
        by_cases hgg : g' = g
        · have Hgg := Lib.hid hgg
          subst hgg
          go_wp2_with fail
          obtain ⟨M, hM⟩ : ∃ M, n - (q + 1) = M := ⟨_, rfl⟩
          have HM := Lib.hid (show q + 1 + M = n by omega)
          have hI0 : CmI l D n (q + 2) (q + 1) l W wk := by
            have e := cmpc_take l q (by have := Hl.out; omega)
            have hp := cmpc_pre l (q + 1) (by have := Hl.out; omega) Hw.out
            rw [if_pos (by rw [HG.out.1, HG.out.2]), hp] at e
            refine ⟨Hrk.out, Hl.out, e.symm, by rw [e, List.length_take]; have := Hl.out; omega, Nat.le_refl _, fun j _ _ => rfl, Keeps.of_new HB.out⟩
          have HI0 := Lib.hid hI0
          clear hI0
          go_region
          all_goals (go_wp2_with fail)
          try rw [hM]
          go_loopw [3, 5] (fun i3 i5 wr => ∃ (r kk : Nat) (c : List Int), r + 1 ≤ M ∧ i5 = .int .i64 ((r : Int) + 1) ∧ i3 = .int .i64 (kk : Int) ∧ Hid (CmI l D n (q + 2 + r) kk c W wr)) (fun _ i5 _ => M - (intOf i5).toNat)
          case atStart => exact ⟨0, q + 1, l, by have := HM.out; omega, rfl, by simp, Lib.hid ⟨HI0.out.row.below (drew_b wk 1), HI0.out.len, HI0.out.pre, HI0.out.cnt, HI0.out.le, HI0.out.rest, HI0.out.keep.trans (Keeps.of_new (drew_b wk 1))⟩⟩
          case round =>
            obtain ⟨r, kk, c, hr, rfl, rfl, HI⟩ := hrel
            obtain ⟨wj, rfl⟩ : ∃ wj, wj = wr := ⟨_, rfl⟩
            have HL := HM.out
            by_cases hrM : r + 1 < M
            · have hpn : q + 2 + r < n := by omega
              have hcl := HI.out.len
              have y1 := HI.out.row.cell (j := q + 1 + (r + 1)) (by omega)
              have y0 := HI.out.row.cell (j := q + 1 + r) (by omega)
              rw [HI.out.rest _ (by omega) (by omega)] at y1 y0
              have hkk := HI.out.le
              have z0 := HI.out.row.cell (j := kk) (by omega)
              have zf := HI.out.row.fz kk
              obtain ⟨x, hx⟩ : ∃ x, iAt l (q + 1 + (r + 1)) = x := ⟨_, rfl⟩
              obtain ⟨y, hy⟩ : ∃ y, iAt l (q + 1 + r) = y := ⟨_, rfl⟩
              obtain ⟨cz, hcz⟩ : ∃ y, iAt c kk = y := ⟨_, rfl⟩
              rw [hx] at y1
              rw [hy] at y0
              rw [hcz] at z0
              have k0 : (0 : Int) ≤ (kk : Int) := by omega
              have k1 : (kk : Int) < (n : Int) := by omega
              have k2 : kk < n := by omega
              have r0 : (0 : Int) ≤ (r : Int) := by omega
              have r1 : (r : Int) + 1 < (M : Int) := by omega
              have r2 : (r : Int) < (M : Int) := by omega
              have r3 : (0 : Int) ≤ (r : Int) + 1 := by omega
              have r4 : ((r : Int) + 1).toNat = r + 1 := by omega
              have m24 : M ≤ 25 := by omega
              have Hpn := Lib.hid hpn
              have Hxy := Lib.hid (And.intro hx hy)
              clear hx hy hcz hcl hkk HL hpn
              by_cases hxy : x = y
              · have d1 : (x != y) = false := by simpa using hxy
                have Hex := Lib.hid hxy
                clear hxy
                go_wp2_with fail
                go_region
                all_goals (go_wp2_with fail)
                go_roundw
                case rel =>
                  refine ⟨r + 1, kk, c, by omega, by go_num, rfl, Lib.hid (HI.out.same Hl.out Hpn.out (by omega) ?_ (drew_b wj 1))⟩
                  rw [show q + 2 + r = q + 1 + (r + 1) by omega, show q + 1 + (r + 1) - 1 = q + 1 + r by omega, Hxy.out.1, Hxy.out.2]
                  exact Hex.out
                case measure => simp [intOf]; omega
              · have d1 : (x != y) = true := by simpa using hxy
                have Hex := Lib.hid hxy
                clear hxy
                go_wp2_with fail
                go_region
                all_goals (go_wp2_with fail)
                go_roundw
                case rel =>
                  have hput := HI.out.put (W2 := wj.drew) Hl.out Hpn.out (by omega) (by
                    rw [show q + 2 + r = q + 1 + (r + 1) by omega, show q + 1 + (r + 1) - 1 = q + 1 + r by omega, Hxy.out.1, Hxy.out.2]
                    exact Hex.out) (drew_b wj 1)
                  rw [show iAt l (q + 2 + r) = x by rw [show q + 2 + r = q + 1 + (r + 1) by omega]; exact Hxy.out.1] at hput
                  exact ⟨r + 1, kk + 1, _, by omega, by go_num, by go_num, Lib.hid hput⟩
                case measure => simp [intOf]; omega
            · have hMr : M = r + 1 := by omega
              have hpn : q + 2 + r = n := by omega
              have hkk := HI.out.le
              have k0 : (0 : Int) ≤ (kk : Int) := by omega
              have k1 : (kk : Int) < (n : Int) := by omega
              have k2 : kk < n := by omega
              have k3 : kk < cap := by omega
              have k4 : (kk : Int) < (cap : Int) := by omega
              have r1 : ¬ ((r : Int) + 1 < (M : Int)) := by omega
              have hcl : ∀ ty, (Builtin.clear_ #[23] ty #[.slice (some ⟨D, kk, none⟩) (n - kk) (cap - kk)]).run Try.prog wj = .ok (.tuple #[]) (wj.setCells D kk (List.replicate (n - kk) (.int .i64 0))) :=
                fun ty => Lib.run_clear_slice wj _ _ ty _ Try.underlying23 Try.zeroValue2 rfl rfl D kk _ _ (by omega) (fun j hj => by rw [HI.out.row.cell (j := kk + j) (by have := HI.out.len; omega)]; rfl) (fun j hj => HI.out.row.fz (kk + j))
              have Hpn := Lib.hid hpn
              clear hMr HL hkk hpn
              go_wp2_with fail
              have hks := keeps_setCells D (List.replicate (n - kk) (.int .i64 0)) kk wj
              have hpn := Hpn.out
              have hpre := HI.out.pre
              have hcnt := HI.out.cnt
              have htl : l.take n = l := List.take_of_length_le (by rw [Hl.out]; exact Nat.le_refl _)
              rw [hpn, htl] at hpre hcnt
              refine bodyPost_ret (v := .slice (some ⟨D, 0, none⟩) kk cap) (by simp [results, Try.results91, go_sem]) rfl ?_
              refine ⟨D, rfl, cap, by rw [hcnt], ?_, by rw [hcnt]; omega, HI.out.keep.trans hks⟩
              have hi := HI.out.row.ints (m := cmpc l) (by have := HI.out.len; omega) (by rw [hcnt]; exact hpre)
              refine ⟨hi.1, fun hp => ?_⟩
              obtain ⟨b, o, e, hc⟩ := hi.2 hp
              refine ⟨b, o, e, fun j hj => ?_⟩
              cases e
              exact (World.cell?_setCells_out D _ kk wj ⟨D, 0 + j, none⟩ (fun _ _ => .inl (by simp; omega))).trans (hc j hj)
        · have d1 : (g' == g) = false := by simpa using hgg
          have Hgg := Lib.hid hgg
          clear hgg
          go_wp2_with fail
          go_region
          all_goals (go_wp2_with fail)
          go_roundw
          case rel => exact ⟨q + 2, by omega, by omega, by go_num, fun j h2 => by
            rcases Nat.lt_or_ge (j + 1) (q + 1) with h4 | h4
            · exact Hw.out j h4
            · have e : j = q := by omega
              subst e
              rw [HG.out.1, HG.out.2]; exact fun e => Hgg.out e.symm, HB.out.trans (drew_b _ 1 |>.mono HB.out.size)⟩
          case measure => simp [intOf]; omega
      · have e : k = n := by omega
        subst e
        have HB := Lib.hid hB
        have ee : cmpc l = l := by
          have := cmpc_pre l k (by rw [Hl.out]; exact Nat.le_refl _) hw
          rwa [List.take_of_length_le (by rw [Hl.out]; exact Nat.le_refl _)] at this
        have Hee := Lib.hid ee
        clear hB hw ee
        go_wp2_with fail
        go_ret
        exact ⟨D, cap, rfl, by rw [Hee.out, Hl.out]; rfl, by rw [Hee.out]; exact (HR.out.below HB.out).ints (Nat.le_refl _) List.take_length, by rw [Hee.out, Hl.out]; exact hcap, Keeps.of_new HB.out⟩
end Go.Proofs.Ytdfdlklglbefiaa
