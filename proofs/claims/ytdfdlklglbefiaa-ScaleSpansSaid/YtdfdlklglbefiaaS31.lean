/- Stage 3: the document's Share. -/
import Derived.Test.YtdfdlklglbefiaaW57
import Derived.Test.YtdfdlklglbefiaaShr
namespace Go.Proofs.Ytdfdlklglbefiaa
set_option linter.unusedSimpArgs false
set_option linter.unusedVariables false
open Go.RowKit Go.Shelf Go.Sort
theorem res31 {tmps : Array Value} {W : World} {Z : Nat} {a b : Bool} {e : Int} (h6 : tmps.getD 6 undef = .pointer (some ⟨Z, 0, none⟩)) (h7 : tmps.getD 7 undef = .int .i64 e) (hZ : W.heap[Z]? = some (.cells #[.bool a, .bool b] 43 (0, 0))) :
    (results Try.f31 tmps).run Try.prog W = .ok (.tuple #[.agg #[.bool a, .bool b], .int .i64 e]) W := by
  have z0 : W.cell? ⟨Z, 0, none⟩ = some (.bool a) := by rw [cell_row hZ]; rfl
  have z1 : W.cell? ⟨Z, 1, none⟩ = some (.bool b) := by rw [cell_row hZ]; rfl
  rw [results_cell_tmp Try.results31, h6, h7]
  simp [go_sem, z0, z1]
/-- Share tells one thing alone. -/
theorem sr_uniq {zs : List Rg} {i k : Int} {m1 u1 m2 u2 : Bool} {e1 e2 : Int} (h1 : SrR zs i k m1 u1 e1) (h2 : SrR zs i k m2 u2 e2) : m1 = m2 ∧ u1 = u2 ∧ e1 = e2 := by
  unfold SrR at h1 h2
  rcases h1 with ⟨a1, a2, a3, a4⟩ | ⟨a1, a2, a3, a4, a5⟩ | ⟨a1, a2, a3, a4, a5, a6⟩ | ⟨a1, a2, a3, a4, a, b, a5, a6, a7, a8⟩ <;>
  rcases h2 with ⟨b1, b2, b3, b4⟩ | ⟨b1, b2, b3, b4, b5⟩ | ⟨b1, b2, b3, b4, b5, b6⟩ | ⟨b1, b2, b3, b4, a', b', b5, b6, b7, b8⟩ <;>
  first
  | exact absurd a1 b1
  | exact absurd b1 a1
  | (rw [a2] at b2; cases b2; done)
  | (rw [a3] at b3; cases b3; done)
  | exact ⟨by rw [a3, b3], by rw [a4, b4], by rw [a2, b2]⟩
  | exact ⟨by rw [a4, b4], by rw [a5, b5], by rw [a3, b3]⟩
  | exact ⟨by rw [a5, b5], by rw [a6, b6], by rw [a4, b4]⟩
  | skip
  have hin := withI_two a2
  have hi : i.toNat < zs.length := by omega
  have hk : k.toNat < zs.length := by omega
  have ho := ok_of a1
  have ea : a = a' := lenU_eq ho a5 b5
  have eb : b = b' := lenU_eq (fun q hq => by
    rcases List.mem_or_eq_of_mem_set hq with h | rfl
    · exact ho q h
    · exact (okZ_iff.1 a3).2.1) a6 b6
  subst ea eb
  refine ⟨by rw [a7, b7], ?_, by rw [a4, b4]⟩
  rcases a8 with ⟨c1, c2⟩ | ⟨c1, c, c2, c3⟩ <;> rcases b8 with ⟨d1, d2⟩ | ⟨d1, c', d2, d3⟩
  · rw [c2, d2]
  · rw [c1] at d1; cases d1
  · rw [c1] at d1; cases d1
  · have ec : c = c' := lenU_eq (okZ_valid c1) c2 d2
    subst ec
    rw [c3, d3]
/-- What the document's reckoning gives is what Share tells. -/
theorem sr_ref {zs : List Rg} (hz : chkS zs = 0) {p q : Nat} (hp : p < zs.length) (hq : q < zs.length) {g : Rg} (hg : comm (gAt zs p) (gAt zs q) = g) (hok : okZ g = true) {a b P : Nat} {v : Int} (ha : LenU zs a) (hb : LenU (zs ++ [g]) b) (hP : P = 10001) (hv : BsI zs (plcs zs g P) (plcs zs g P).length v) :
    SrR zs (p : Int) (q : Int) ((b : Int) == (a : Int)) (decide ((a : Int) < v)) 0 := by
  have ho := ok_of hz
  have ha24 : a ≤ 24 := by
    obtain ⟨gs, h1, rfl⟩ := ha
    have := isG_len h1 ho; have := (chkS_zero.1 hz).2.1; omega
  obtain ⟨gs, hgs⟩ := exG (zs := zs.set p g) (fun q hq => by
    rcases List.mem_or_eq_of_mem_set hq with h | rfl
    · exact ho q h
    · exact (okZ_iff.1 hok).2.1)
  have hbb : gs.length = b := by
    subst hg
    exact lenU_both hz hp hq hok ⟨gs, hgs, rfl⟩ hb
  obtain ⟨w1, w2⟩ := without_ok hz hok hP hv
  unfold SrR
  simp only [Int.toNat_natCast, hg]
  refine .inr (.inr (.inr ⟨hz, by simp [withI, inB]; omega, hok, trivial, a, gs.length, ha, ⟨gs, hgs, rfl⟩, ?_, ?_⟩))
  · rw [hbb]
    by_cases h : b = a
    · subst h; simp
    · rw [decide_eq_false h, beq_eq_false_iff_ne]; omega
  · cases hv2 : validZ (zs.map (woR g)) with
    | false =>
      left
      refine ⟨rfl, ?_⟩
      rw [w1 hv2, decide_eq_true_iff]; omega
    | true =>
      right
      obtain ⟨hs, hhs⟩ := exG (okZ_valid hv2)
      have hl := isG_len hhs (okZ_valid hv2)
      rw [List.length_map] at hl
      have h24 := (chkS_zero.1 hz).2.1
      have := w2 hv2 hs.length ⟨hs, hhs, rfl⟩ (by omega)
      refine ⟨rfl, hs.length, ⟨hs, hhs, rfl⟩, ?_⟩
      rw [this]
      exact decide_eq_decide.2 (by omega)
theorem rd_out {i k : Int} {n : Nat} (h : i < 0 ∨ (n : Int) ≤ i ∨ k < 0 ∨ (n : Int) ≤ k) : withI 0 ((n : Int) - 1) [i, k] = false := by
  cases hw : withI 0 ((n : Int) - 1) [i, k] with
  | false => rfl
  | true => have := withI_two hw; omega
theorem neZ {W : World} {Z : Nat} {x y : Bool} (hZ : W.heap[Z]? = some (.cells #[.bool x, .bool y] 43 (0, 0))) {C : Option Addr} {n : Nat} {l : List Rg} (h : Rgs W C n l) (hn : 0 < n) {b o : Nat} (e : C = some ⟨b, o, none⟩) : ¬ b = Z := by
  rintro rfl
  obtain ⟨b2, o2, e2, hc⟩ := h.2 hn
  rw [e] at e2
  cases e2
  have h1 := (hc 0 hn).1
  rw [cell_row hZ] at h1
  rcases (by omega : o + 0 * 2 = 0 ∨ o + 0 * 2 = 1 ∨ 2 ≤ o + 0 * 2) with e | e | e
  · rw [e] at h1; cases h1
  · rw [e] at h1; cases h1
  · rw [Array.getElem?_eq_none (by simpa using e)] at h1; cases h1
attribute [local go_sem ↓] exec_app
attribute [local go_sem] Oper.semAt_some
set_option maxRecDepth 100000 in
set_option maxHeartbeats 40000000 in
theorem refShare31 (A : Option Addr) (n cap : Nat) (zs : List Rg) (i k : Int) (w : World) (h : Rgs w A n zs) (hn : n ≤ 9223372036854775807) :
    Calls Try.prog 31 #[.slice A n cap, .int .i64 i, .int .i64 k] w (SrPost zs i k w) := by
  have HZl := Lib.hid h.1
  have hb0 := below_alloc_ w (.cells #[.bool false, .bool false] 43)
  have hc0 := heap_alloc_new_ w (.cells #[.bool false, .bool false] 43)
  obtain ⟨W0, hW0⟩ : ∃ W0, w.alloc (.cells #[.bool false, .bool false] 43) = W0 := ⟨_, rfl⟩
  rw [hW0] at hb0 hc0
  obtain ⟨Z, hZ⟩ : ∃ Z, w.heap.size = Z := ⟨_, rfl⟩
  rw [hZ] at hc0
  have S := Lib.hid (h.below hb0 (Nat.le_refl _))
  have B0 := Lib.hid hb0
  have R0 := Lib.hid hc0
  have HZ := Lib.hid hZ
  have HW0 := Lib.hid hW0
  clear h hb0 hc0 hZ hW0
  go_enter Try.func31, Try.ntmps31
  go_wp2_with fail
  rw [HW0.out]
  try rw [HZ.out]
  obtain ⟨c, hc⟩ : ∃ c, chkS zs = c := ⟨_, rfl⟩
  have Hc := Lib.hid hc
  clear hc
  have hc := refSong19 A n cap zs W0 S.out hn
  rw [Hc.out] at hc
  refine hc.mono ?_
  rintro en w1 ⟨rfl, hb⟩
  clear hc
  have B1 := Lib.hid hb
  replace S := Lib.hid (S.out.below hb (Nat.le_refl _))
  replace R0 := Lib.hid ((hb.block _ (lt_of_block R0.out)).trans R0.out)
  clear hb
  by_cases h0 : c = 0
  rotate_left
  · have d0 : (c != 0) = true := by rw [bne_iff_ne]; exact h0
    have H0 := Lib.hid h0
    clear h0
    go_wp2_with fail
    have hc := refSong19 A n cap zs w1 S.out hn
    rw [Hc.out] at hc
    refine hc.mono ?_
    rintro en w2 ⟨rfl, hb⟩
    clear hc
    replace S := Lib.hid (S.out.below hb (Nat.le_refl _))
    replace B1 := Lib.hid (B1.out.trans (hb.mono B1.out.size))
    replace R0 := Lib.hid ((hb.block _ (lt_of_block R0.out)).trans R0.out)
    clear hb d0
    have z0 : w2.cell? ⟨Z, 0, none⟩ = some (.bool false) := by rw [cell_row R0.out]; rfl
    have z1 : w2.cell? ⟨Z, 1, none⟩ = some (.bool false) := by rw [cell_row R0.out]; rfl
    have zf0 : w2.frozen? ⟨Z, 0, none⟩ = false := frozen_row R0.out
    have zf1 : w2.frozen? ⟨Z, 1, none⟩ = false := frozen_row R0.out
    go_wp2_with fail
    have hV := set_same 1 (.bool (false)) (set_same 0 (.bool (false)) R0.out)
    have hKV := (keeps_setCell w2 Z 0 (.bool (false))).trans (keeps_setCell _ Z 1 (.bool (false)))
    obtain ⟨V, hVe⟩ : ∃ V, (w2.setCell ⟨Z, 0, none⟩ (.bool (false))).setCell ⟨Z, 1, none⟩ (.bool (false)) = V := ⟨_, rfl⟩
    rw [hVe] at hV hKV ⊢
    have hB9 : Below w.heap.size w V := B0.out.trans ((B1.out.mono B0.out.size).trans (hKV.below (Nat.le_trans B0.out.size B1.out.size) (fun k hk e => by have := HZ.out; omega)))
    refine bodyPost_ret (v := .tuple #[.agg #[.bool (false), .bool (false)], .int .i64 c]) (res31 (by rfl) (by rfl) hV) rfl ?_
    exact ⟨hB9, _, _, _, .inl ⟨by rw [Hc.out]; exact H0.out, Hc.out.symm, rfl, rfl⟩, rfl⟩
  subst h0
  have hl24 := len_of Hc.out
  rw [HZl.out] at hl24
  by_cases h1 : i < 0
  · skip
    have HO := Lib.hid (rd_out (n := n) (i := i) (k := k) (.inl h1))
    have z0 : w1.cell? ⟨Z, 0, none⟩ = some (.bool false) := by rw [cell_row R0.out]; rfl
    have z1 : w1.cell? ⟨Z, 1, none⟩ = some (.bool false) := by rw [cell_row R0.out]; rfl
    have zf0 : w1.frozen? ⟨Z, 0, none⟩ = false := frozen_row R0.out
    have zf1 : w1.frozen? ⟨Z, 1, none⟩ = false := frozen_row R0.out
    go_wp2_with fail
    have hV := set_same 1 (.bool (false)) (set_same 0 (.bool (false)) R0.out)
    have hKV := (keeps_setCell w1 Z 0 (.bool (false))).trans (keeps_setCell _ Z 1 (.bool (false)))
    obtain ⟨V, hVe⟩ : ∃ V, (w1.setCell ⟨Z, 0, none⟩ (.bool (false))).setCell ⟨Z, 1, none⟩ (.bool (false)) = V := ⟨_, rfl⟩
    rw [hVe] at hV hKV ⊢
    have hB9 : Below w.heap.size w V := B0.out.trans ((B1.out.mono B0.out.size).trans (hKV.below (Nat.le_trans B0.out.size B1.out.size) (fun k hk e => by have := HZ.out; omega)))
    refine bodyPost_ret (v := .tuple #[.agg #[.bool (false), .bool (false)], .int .i64 3]) (res31 (by rfl) (by rfl) hV) rfl ?_
    exact ⟨hB9, _, _, _, .inr (.inl ⟨Hc.out, by rw [HZl.out]; exact HO.out, rfl, rfl, rfl⟩), rfl⟩
  by_cases h2 : (n : Int) ≤ i
  · skip
    have HO := Lib.hid (rd_out (n := n) (i := i) (k := k) (.inr (.inl h2)))
    have z0 : w1.cell? ⟨Z, 0, none⟩ = some (.bool false) := by rw [cell_row R0.out]; rfl
    have z1 : w1.cell? ⟨Z, 1, none⟩ = some (.bool false) := by rw [cell_row R0.out]; rfl
    have zf0 : w1.frozen? ⟨Z, 0, none⟩ = false := frozen_row R0.out
    have zf1 : w1.frozen? ⟨Z, 1, none⟩ = false := frozen_row R0.out
    go_wp2_with fail
    have hV := set_same 1 (.bool (false)) (set_same 0 (.bool (false)) R0.out)
    have hKV := (keeps_setCell w1 Z 0 (.bool (false))).trans (keeps_setCell _ Z 1 (.bool (false)))
    obtain ⟨V, hVe⟩ : ∃ V, (w1.setCell ⟨Z, 0, none⟩ (.bool (false))).setCell ⟨Z, 1, none⟩ (.bool (false)) = V := ⟨_, rfl⟩
    rw [hVe] at hV hKV ⊢
    have hB9 : Below w.heap.size w V := B0.out.trans ((B1.out.mono B0.out.size).trans (hKV.below (Nat.le_trans B0.out.size B1.out.size) (fun k hk e => by have := HZ.out; omega)))
    refine bodyPost_ret (v := .tuple #[.agg #[.bool (false), .bool (false)], .int .i64 3]) (res31 (by rfl) (by rfl) hV) rfl ?_
    exact ⟨hB9, _, _, _, .inr (.inl ⟨Hc.out, by rw [HZl.out]; exact HO.out, rfl, rfl, rfl⟩), rfl⟩
  by_cases h3 : k < 0
  · skip
    have HO := Lib.hid (rd_out (n := n) (i := i) (k := k) (.inr (.inr (.inl h3))))
    have z0 : w1.cell? ⟨Z, 0, none⟩ = some (.bool false) := by rw [cell_row R0.out]; rfl
    have z1 : w1.cell? ⟨Z, 1, none⟩ = some (.bool false) := by rw [cell_row R0.out]; rfl
    have zf0 : w1.frozen? ⟨Z, 0, none⟩ = false := frozen_row R0.out
    have zf1 : w1.frozen? ⟨Z, 1, none⟩ = false := frozen_row R0.out
    go_wp2_with fail
    have hV := set_same 1 (.bool (false)) (set_same 0 (.bool (false)) R0.out)
    have hKV := (keeps_setCell w1 Z 0 (.bool (false))).trans (keeps_setCell _ Z 1 (.bool (false)))
    obtain ⟨V, hVe⟩ : ∃ V, (w1.setCell ⟨Z, 0, none⟩ (.bool (false))).setCell ⟨Z, 1, none⟩ (.bool (false)) = V := ⟨_, rfl⟩
    rw [hVe] at hV hKV ⊢
    have hB9 : Below w.heap.size w V := B0.out.trans ((B1.out.mono B0.out.size).trans (hKV.below (Nat.le_trans B0.out.size B1.out.size) (fun k hk e => by have := HZ.out; omega)))
    refine bodyPost_ret (v := .tuple #[.agg #[.bool (false), .bool (false)], .int .i64 3]) (res31 (by rfl) (by rfl) hV) rfl ?_
    exact ⟨hB9, _, _, _, .inr (.inl ⟨Hc.out, by rw [HZl.out]; exact HO.out, rfl, rfl, rfl⟩), rfl⟩
  by_cases h4 : (n : Int) ≤ k
  · skip
    have HO := Lib.hid (rd_out (n := n) (i := i) (k := k) (.inr (.inr (.inr h4))))
    have z0 : w1.cell? ⟨Z, 0, none⟩ = some (.bool false) := by rw [cell_row R0.out]; rfl
    have z1 : w1.cell? ⟨Z, 1, none⟩ = some (.bool false) := by rw [cell_row R0.out]; rfl
    have zf0 : w1.frozen? ⟨Z, 0, none⟩ = false := frozen_row R0.out
    have zf1 : w1.frozen? ⟨Z, 1, none⟩ = false := frozen_row R0.out
    go_wp2_with fail
    have hV := set_same 1 (.bool (false)) (set_same 0 (.bool (false)) R0.out)
    have hKV := (keeps_setCell w1 Z 0 (.bool (false))).trans (keeps_setCell _ Z 1 (.bool (false)))
    obtain ⟨V, hVe⟩ : ∃ V, (w1.setCell ⟨Z, 0, none⟩ (.bool (false))).setCell ⟨Z, 1, none⟩ (.bool (false)) = V := ⟨_, rfl⟩
    rw [hVe] at hV hKV ⊢
    have hB9 : Below w.heap.size w V := B0.out.trans ((B1.out.mono B0.out.size).trans (hKV.below (Nat.le_trans B0.out.size B1.out.size) (fun k hk e => by have := HZ.out; omega)))
    refine bodyPost_ret (v := .tuple #[.agg #[.bool (false), .bool (false)], .int .i64 3]) (res31 (by rfl) (by rfl) hV) rfl ?_
    exact ⟨hB9, _, _, _, .inr (.inl ⟨Hc.out, by rw [HZl.out]; exact HO.out, rfl, rfl, rfl⟩), rfl⟩
  obtain ⟨p, rfl⟩ : ∃ p : Nat, i = (p : Int) := ⟨i.toNat, by omega⟩
  obtain ⟨q, rfl⟩ : ∃ q : Nat, k = (q : Int) := ⟨k.toNat, by omega⟩
  have HPQ := Lib.hid (show p < zs.length ∧ q < zs.length by rw [HZl.out]; omega)
  have i1 : (p : Int) < (n : Int) := by omega
  have k1 : (q : Int) < (n : Int) := by omega
  have i0 : (0 : Int) ≤ (p : Int) := by omega
  have k0 : (0 : Int) ≤ (q : Int) := by omega
  have dp : (p : Int).toNat = p := by omega
  have dq : (q : Int).toNat = q := by omega
  obtain ⟨ba, oa, rfl, hcA⟩ := S.out.2 (by omega)
  obtain ⟨x0, x1⟩ := hcA p (by omega)
  obtain ⟨u0, u1⟩ := hcA q (by omega)
  have Hok1 := Lib.hid (okR Hc.out _ (show gAt zs p ∈ zs by rw [gAt_eq HPQ.out.1]; exact List.getElem_mem _))
  have Hok2 := Lib.hid (okR Hc.out _ (show gAt zs q ∈ zs by rw [gAt_eq HPQ.out.2]; exact List.getElem_mem _))
  clear hcA
  obtain ⟨a1, ha1⟩ : ∃ g, gAt zs p = g := ⟨_, rfl⟩
  obtain ⟨a2, ha2⟩ : ∃ g, gAt zs q = g := ⟨_, rfl⟩
  rw [ha1] at x0 x1 Hok1
  rw [ha2] at u0 u1 Hok2
  have Ha1 := Lib.hid ha1
  have Ha2 := Lib.hid ha2
  clear ha1 ha2
  go_wp2_with fail
  generalize decide ((p : Int) < 0) = q1
  generalize decide (n ≤ p) = q2
  generalize decide ((q : Int) < 0) = q3
  generalize decide (n ≤ q) = q4
  generalize (q1 || q2) = q5
  generalize (q5 || q3) = q6
  generalize (q6 || q4) = q7
  go_cut [8] from 36 to 58 (fun v8 wx => ∃ Pb : Nat, v8 = .pointer (some ⟨Pb, 0, none⟩) ∧ wx.heap[Pb]? = some (.cells #[.int .i64 (max a1.lo a2.lo), .int .i64 (min a1.hi a2.hi)] 56 (0, 0)) ∧ Below w1.heap.size w1 wx)
  case first =>
    refine wp_region_held_drew (S := fun w2 => Below w1.heap.size w1 w2) (by kernel_rfl) (drew_b _ _) (fun hS0 => ?_)
    refine wpAnyH_take (i := 0) (oi := { dst := some 36, op := Go.Op.move (Go.Operand.tmp 0), type := 22, pos := "ref.go:214", after := #[], guard := none }) (v := .slice (some ⟨ba, oa, none⟩) n cap) rfl (by kernel_rfl) (by kernel_rfl) (by kernel_rfl) (fun _ _ _ h => h) (Or.inl ⟨by rfl, by intro w2 hSw; (try dsimp only at hSw); have y0 := (hSw.cell (p := ⟨ba, oa + p * 2, none⟩) (lt_of_cell x0)).trans x0; have y1 := (hSw.cell (p := ⟨ba, oa + p * 2 + 1, none⟩) (lt_of_cell x1)).trans x1; have y2 := (hSw.cell (p := ⟨ba, oa + q * 2, none⟩) (lt_of_cell u0)).trans u0; have y3 := (hSw.cell (p := ⟨ba, oa + q * 2 + 1, none⟩) (lt_of_cell u1)).trans u1; go_simp⟩) hS0 ?_
    try simp only [Act.put, List.setIfInBounds_toArray, List.set_cons_zero, List.set_cons_succ]
    refine wpAnyH_take (i := 1) (oi := { dst := some 37, op := Go.Op.move (Go.Operand.tmp 1), type := 3, pos := "ref.go:214", after := #[], guard := none }) (v := .int .i64 (p : Int)) rfl (by kernel_rfl) (by kernel_rfl) (by kernel_rfl) (fun _ _ _ h => h) (Or.inl ⟨by rfl, by intro w2 hSw; (try dsimp only at hSw); have y0 := (hSw.cell (p := ⟨ba, oa + p * 2, none⟩) (lt_of_cell x0)).trans x0; have y1 := (hSw.cell (p := ⟨ba, oa + p * 2 + 1, none⟩) (lt_of_cell x1)).trans x1; have y2 := (hSw.cell (p := ⟨ba, oa + q * 2, none⟩) (lt_of_cell u0)).trans u0; have y3 := (hSw.cell (p := ⟨ba, oa + q * 2 + 1, none⟩) (lt_of_cell u1)).trans u1; go_simp⟩) hS0 ?_
    try simp only [Act.put, List.setIfInBounds_toArray, List.set_cons_zero, List.set_cons_succ]
    refine wpAnyH_take (i := 2) (oi := { dst := some 38, op := Go.Op.indexAddr 22 (Go.Operand.tmp 36) (Go.Operand.tmp 37), type := 0, pos := "ref.go:214", after := #[{ on := 0, ground := Go.Ground.data }, { on := 1, ground := Go.Ground.data }], guard := none }) (v := .pointer (some ⟨ba, oa + p * 2, none⟩)) rfl (by kernel_rfl) (by kernel_rfl) (by kernel_rfl) (fun _ _ _ h => h) (Or.inl ⟨by rfl, by intro w2 hSw; (try dsimp only at hSw); have y0 := (hSw.cell (p := ⟨ba, oa + p * 2, none⟩) (lt_of_cell x0)).trans x0; have y1 := (hSw.cell (p := ⟨ba, oa + p * 2 + 1, none⟩) (lt_of_cell x1)).trans x1; have y2 := (hSw.cell (p := ⟨ba, oa + q * 2, none⟩) (lt_of_cell u0)).trans u0; have y3 := (hSw.cell (p := ⟨ba, oa + q * 2 + 1, none⟩) (lt_of_cell u1)).trans u1; go_simp⟩) hS0 ?_
    try simp only [Act.put, List.setIfInBounds_toArray, List.set_cons_zero, List.set_cons_succ]
    refine wpAnyH_take (i := 3) (oi := { dst := some 39, op := Go.Op.fieldAddr 56 (Go.Operand.tmp 38) 0, type := 0, pos := "ref.go:214", after := #[{ on := 2, ground := Go.Ground.data }], guard := none }) (v := .pointer (some ⟨ba, oa + p * 2, none⟩)) rfl (by kernel_rfl) (by kernel_rfl) (by kernel_rfl) (fun _ _ _ h => h) (Or.inl ⟨by rfl, by intro w2 hSw; (try dsimp only at hSw); have y0 := (hSw.cell (p := ⟨ba, oa + p * 2, none⟩) (lt_of_cell x0)).trans x0; have y1 := (hSw.cell (p := ⟨ba, oa + p * 2 + 1, none⟩) (lt_of_cell x1)).trans x1; have y2 := (hSw.cell (p := ⟨ba, oa + q * 2, none⟩) (lt_of_cell u0)).trans u0; have y3 := (hSw.cell (p := ⟨ba, oa + q * 2 + 1, none⟩) (lt_of_cell u1)).trans u1; go_simp⟩) hS0 ?_
    try simp only [Act.put, List.setIfInBounds_toArray, List.set_cons_zero, List.set_cons_succ]
    refine wpAnyH_take (i := 4) (oi := { dst := some 40, op := Go.Op.load 2 (Go.Operand.tmp 39), type := 2, pos := "ref.go:214", after := #[{ on := 3, ground := Go.Ground.data }], guard := none }) (v := .int .i64 a1.lo) rfl (by kernel_rfl) (by kernel_rfl) (by kernel_rfl) (fun _ _ _ h => h) (Or.inl ⟨by rfl, by intro w2 hSw; (try dsimp only at hSw); have y0 := (hSw.cell (p := ⟨ba, oa + p * 2, none⟩) (lt_of_cell x0)).trans x0; have y1 := (hSw.cell (p := ⟨ba, oa + p * 2 + 1, none⟩) (lt_of_cell x1)).trans x1; have y2 := (hSw.cell (p := ⟨ba, oa + q * 2, none⟩) (lt_of_cell u0)).trans u0; have y3 := (hSw.cell (p := ⟨ba, oa + q * 2 + 1, none⟩) (lt_of_cell u1)).trans u1; go_simp⟩) hS0 ?_
    try simp only [Act.put, List.setIfInBounds_toArray, List.set_cons_zero, List.set_cons_succ]
    refine wpAnyH_take (i := 5) (oi := { dst := some 41, op := Go.Op.move (Go.Operand.tmp 0), type := 22, pos := "ref.go:214", after := #[], guard := none }) (v := .slice (some ⟨ba, oa, none⟩) n cap) rfl (by kernel_rfl) (by kernel_rfl) (by kernel_rfl) (fun _ _ _ h => h) (Or.inl ⟨by rfl, by intro w2 hSw; (try dsimp only at hSw); have y0 := (hSw.cell (p := ⟨ba, oa + p * 2, none⟩) (lt_of_cell x0)).trans x0; have y1 := (hSw.cell (p := ⟨ba, oa + p * 2 + 1, none⟩) (lt_of_cell x1)).trans x1; have y2 := (hSw.cell (p := ⟨ba, oa + q * 2, none⟩) (lt_of_cell u0)).trans u0; have y3 := (hSw.cell (p := ⟨ba, oa + q * 2 + 1, none⟩) (lt_of_cell u1)).trans u1; go_simp⟩) hS0 ?_
    try simp only [Act.put, List.setIfInBounds_toArray, List.set_cons_zero, List.set_cons_succ]
    refine wpAnyH_take (i := 6) (oi := { dst := some 42, op := Go.Op.move (Go.Operand.tmp 2), type := 3, pos := "ref.go:214", after := #[], guard := none }) (v := .int .i64 (q : Int)) rfl (by kernel_rfl) (by kernel_rfl) (by kernel_rfl) (fun _ _ _ h => h) (Or.inl ⟨by rfl, by intro w2 hSw; (try dsimp only at hSw); have y0 := (hSw.cell (p := ⟨ba, oa + p * 2, none⟩) (lt_of_cell x0)).trans x0; have y1 := (hSw.cell (p := ⟨ba, oa + p * 2 + 1, none⟩) (lt_of_cell x1)).trans x1; have y2 := (hSw.cell (p := ⟨ba, oa + q * 2, none⟩) (lt_of_cell u0)).trans u0; have y3 := (hSw.cell (p := ⟨ba, oa + q * 2 + 1, none⟩) (lt_of_cell u1)).trans u1; go_simp⟩) hS0 ?_
    try simp only [Act.put, List.setIfInBounds_toArray, List.set_cons_zero, List.set_cons_succ]
    refine wpAnyH_take (i := 7) (oi := { dst := some 43, op := Go.Op.indexAddr 22 (Go.Operand.tmp 41) (Go.Operand.tmp 42), type := 0, pos := "ref.go:214", after := #[{ on := 5, ground := Go.Ground.data }, { on := 6, ground := Go.Ground.data }], guard := none }) (v := .pointer (some ⟨ba, oa + q * 2, none⟩)) rfl (by kernel_rfl) (by kernel_rfl) (by kernel_rfl) (fun _ _ _ h => h) (Or.inl ⟨by rfl, by intro w2 hSw; (try dsimp only at hSw); have y0 := (hSw.cell (p := ⟨ba, oa + p * 2, none⟩) (lt_of_cell x0)).trans x0; have y1 := (hSw.cell (p := ⟨ba, oa + p * 2 + 1, none⟩) (lt_of_cell x1)).trans x1; have y2 := (hSw.cell (p := ⟨ba, oa + q * 2, none⟩) (lt_of_cell u0)).trans u0; have y3 := (hSw.cell (p := ⟨ba, oa + q * 2 + 1, none⟩) (lt_of_cell u1)).trans u1; go_simp⟩) hS0 ?_
    try simp only [Act.put, List.setIfInBounds_toArray, List.set_cons_zero, List.set_cons_succ]
    refine wpAnyH_take (i := 8) (oi := { dst := some 44, op := Go.Op.fieldAddr 56 (Go.Operand.tmp 43) 0, type := 0, pos := "ref.go:214", after := #[{ on := 7, ground := Go.Ground.data }], guard := none }) (v := .pointer (some ⟨ba, oa + q * 2, none⟩)) rfl (by kernel_rfl) (by kernel_rfl) (by kernel_rfl) (fun _ _ _ h => h) (Or.inl ⟨by rfl, by intro w2 hSw; (try dsimp only at hSw); have y0 := (hSw.cell (p := ⟨ba, oa + p * 2, none⟩) (lt_of_cell x0)).trans x0; have y1 := (hSw.cell (p := ⟨ba, oa + p * 2 + 1, none⟩) (lt_of_cell x1)).trans x1; have y2 := (hSw.cell (p := ⟨ba, oa + q * 2, none⟩) (lt_of_cell u0)).trans u0; have y3 := (hSw.cell (p := ⟨ba, oa + q * 2 + 1, none⟩) (lt_of_cell u1)).trans u1; go_simp⟩) hS0 ?_
    try simp only [Act.put, List.setIfInBounds_toArray, List.set_cons_zero, List.set_cons_succ]
    refine wpAnyH_take (i := 9) (oi := { dst := some 45, op := Go.Op.load 2 (Go.Operand.tmp 44), type := 2, pos := "ref.go:214", after := #[{ on := 8, ground := Go.Ground.data }], guard := none }) (v := .int .i64 a2.lo) rfl (by kernel_rfl) (by kernel_rfl) (by kernel_rfl) (fun _ _ _ h => h) (Or.inl ⟨by rfl, by intro w2 hSw; (try dsimp only at hSw); have y0 := (hSw.cell (p := ⟨ba, oa + p * 2, none⟩) (lt_of_cell x0)).trans x0; have y1 := (hSw.cell (p := ⟨ba, oa + p * 2 + 1, none⟩) (lt_of_cell x1)).trans x1; have y2 := (hSw.cell (p := ⟨ba, oa + q * 2, none⟩) (lt_of_cell u0)).trans u0; have y3 := (hSw.cell (p := ⟨ba, oa + q * 2 + 1, none⟩) (lt_of_cell u1)).trans u1; go_simp⟩) hS0 ?_
    try simp only [Act.put, List.setIfInBounds_toArray, List.set_cons_zero, List.set_cons_succ]
    refine wpAnyH_take (i := 10) (oi := { dst := some 46, op := Go.Op.call { callee := Go.Callee.builtin Go.Builtin.max, args := #[Go.Operand.tmp 40, Go.Operand.tmp 45], argTypes := #[2, 2] }, type := 2, pos := "ref.go:214", after := #[{ on := 4, ground := Go.Ground.data }, { on := 9, ground := Go.Ground.data }], guard := none }) (v := .int .i64 (max a1.lo a2.lo)) rfl (by kernel_rfl) (by kernel_rfl) (by kernel_rfl) (fun _ _ _ h => h) (Or.inl ⟨by rfl, by intro w2 hSw; (try dsimp only at hSw); have y0 := (hSw.cell (p := ⟨ba, oa + p * 2, none⟩) (lt_of_cell x0)).trans x0; have y1 := (hSw.cell (p := ⟨ba, oa + p * 2 + 1, none⟩) (lt_of_cell x1)).trans x1; have y2 := (hSw.cell (p := ⟨ba, oa + q * 2, none⟩) (lt_of_cell u0)).trans u0; have y3 := (hSw.cell (p := ⟨ba, oa + q * 2 + 1, none⟩) (lt_of_cell u1)).trans u1; go_simp⟩) hS0 ?_
    try simp only [Act.put, List.setIfInBounds_toArray, List.set_cons_zero, List.set_cons_succ]
    refine wpAnyH_take (i := 11) (oi := { dst := some 47, op := Go.Op.move (Go.Operand.tmp 0), type := 22, pos := "ref.go:214", after := #[], guard := none }) (v := .slice (some ⟨ba, oa, none⟩) n cap) rfl (by kernel_rfl) (by kernel_rfl) (by kernel_rfl) (fun _ _ _ h => h) (Or.inl ⟨by rfl, by intro w2 hSw; (try dsimp only at hSw); have y0 := (hSw.cell (p := ⟨ba, oa + p * 2, none⟩) (lt_of_cell x0)).trans x0; have y1 := (hSw.cell (p := ⟨ba, oa + p * 2 + 1, none⟩) (lt_of_cell x1)).trans x1; have y2 := (hSw.cell (p := ⟨ba, oa + q * 2, none⟩) (lt_of_cell u0)).trans u0; have y3 := (hSw.cell (p := ⟨ba, oa + q * 2 + 1, none⟩) (lt_of_cell u1)).trans u1; go_simp⟩) hS0 ?_
    try simp only [Act.put, List.setIfInBounds_toArray, List.set_cons_zero, List.set_cons_succ]
    refine wpAnyH_take (i := 12) (oi := { dst := some 48, op := Go.Op.move (Go.Operand.tmp 1), type := 3, pos := "ref.go:214", after := #[], guard := none }) (v := .int .i64 (p : Int)) rfl (by kernel_rfl) (by kernel_rfl) (by kernel_rfl) (fun _ _ _ h => h) (Or.inl ⟨by rfl, by intro w2 hSw; (try dsimp only at hSw); have y0 := (hSw.cell (p := ⟨ba, oa + p * 2, none⟩) (lt_of_cell x0)).trans x0; have y1 := (hSw.cell (p := ⟨ba, oa + p * 2 + 1, none⟩) (lt_of_cell x1)).trans x1; have y2 := (hSw.cell (p := ⟨ba, oa + q * 2, none⟩) (lt_of_cell u0)).trans u0; have y3 := (hSw.cell (p := ⟨ba, oa + q * 2 + 1, none⟩) (lt_of_cell u1)).trans u1; go_simp⟩) hS0 ?_
    try simp only [Act.put, List.setIfInBounds_toArray, List.set_cons_zero, List.set_cons_succ]
    refine wpAnyH_take (i := 13) (oi := { dst := some 49, op := Go.Op.indexAddr 22 (Go.Operand.tmp 47) (Go.Operand.tmp 48), type := 0, pos := "ref.go:214", after := #[{ on := 11, ground := Go.Ground.data }, { on := 12, ground := Go.Ground.data }], guard := none }) (v := .pointer (some ⟨ba, oa + p * 2, none⟩)) rfl (by kernel_rfl) (by kernel_rfl) (by kernel_rfl) (fun _ _ _ h => h) (Or.inl ⟨by rfl, by intro w2 hSw; (try dsimp only at hSw); have y0 := (hSw.cell (p := ⟨ba, oa + p * 2, none⟩) (lt_of_cell x0)).trans x0; have y1 := (hSw.cell (p := ⟨ba, oa + p * 2 + 1, none⟩) (lt_of_cell x1)).trans x1; have y2 := (hSw.cell (p := ⟨ba, oa + q * 2, none⟩) (lt_of_cell u0)).trans u0; have y3 := (hSw.cell (p := ⟨ba, oa + q * 2 + 1, none⟩) (lt_of_cell u1)).trans u1; go_simp⟩) hS0 ?_
    try simp only [Act.put, List.setIfInBounds_toArray, List.set_cons_zero, List.set_cons_succ]
    refine wpAnyH_take (i := 14) (oi := { dst := some 50, op := Go.Op.fieldAddr 56 (Go.Operand.tmp 49) 1, type := 0, pos := "ref.go:214", after := #[{ on := 13, ground := Go.Ground.data }], guard := none }) (v := .pointer (some ⟨ba, oa + p * 2 + 1, none⟩)) rfl (by kernel_rfl) (by kernel_rfl) (by kernel_rfl) (fun _ _ _ h => h) (Or.inl ⟨by rfl, by intro w2 hSw; (try dsimp only at hSw); have y0 := (hSw.cell (p := ⟨ba, oa + p * 2, none⟩) (lt_of_cell x0)).trans x0; have y1 := (hSw.cell (p := ⟨ba, oa + p * 2 + 1, none⟩) (lt_of_cell x1)).trans x1; have y2 := (hSw.cell (p := ⟨ba, oa + q * 2, none⟩) (lt_of_cell u0)).trans u0; have y3 := (hSw.cell (p := ⟨ba, oa + q * 2 + 1, none⟩) (lt_of_cell u1)).trans u1; go_simp⟩) hS0 ?_
    try simp only [Act.put, List.setIfInBounds_toArray, List.set_cons_zero, List.set_cons_succ]
    refine wpAnyH_take (i := 15) (oi := { dst := some 51, op := Go.Op.load 2 (Go.Operand.tmp 50), type := 2, pos := "ref.go:214", after := #[{ on := 14, ground := Go.Ground.data }], guard := none }) (v := .int .i64 a1.hi) rfl (by kernel_rfl) (by kernel_rfl) (by kernel_rfl) (fun _ _ _ h => h) (Or.inl ⟨by rfl, by intro w2 hSw; (try dsimp only at hSw); have y0 := (hSw.cell (p := ⟨ba, oa + p * 2, none⟩) (lt_of_cell x0)).trans x0; have y1 := (hSw.cell (p := ⟨ba, oa + p * 2 + 1, none⟩) (lt_of_cell x1)).trans x1; have y2 := (hSw.cell (p := ⟨ba, oa + q * 2, none⟩) (lt_of_cell u0)).trans u0; have y3 := (hSw.cell (p := ⟨ba, oa + q * 2 + 1, none⟩) (lt_of_cell u1)).trans u1; go_simp⟩) hS0 ?_
    try simp only [Act.put, List.setIfInBounds_toArray, List.set_cons_zero, List.set_cons_succ]
    refine wpAnyH_take (i := 16) (oi := { dst := some 52, op := Go.Op.move (Go.Operand.tmp 0), type := 22, pos := "ref.go:214", after := #[], guard := none }) (v := .slice (some ⟨ba, oa, none⟩) n cap) rfl (by kernel_rfl) (by kernel_rfl) (by kernel_rfl) (fun _ _ _ h => h) (Or.inl ⟨by rfl, by intro w2 hSw; (try dsimp only at hSw); have y0 := (hSw.cell (p := ⟨ba, oa + p * 2, none⟩) (lt_of_cell x0)).trans x0; have y1 := (hSw.cell (p := ⟨ba, oa + p * 2 + 1, none⟩) (lt_of_cell x1)).trans x1; have y2 := (hSw.cell (p := ⟨ba, oa + q * 2, none⟩) (lt_of_cell u0)).trans u0; have y3 := (hSw.cell (p := ⟨ba, oa + q * 2 + 1, none⟩) (lt_of_cell u1)).trans u1; go_simp⟩) hS0 ?_
    try simp only [Act.put, List.setIfInBounds_toArray, List.set_cons_zero, List.set_cons_succ]
    refine wpAnyH_take (i := 17) (oi := { dst := some 53, op := Go.Op.move (Go.Operand.tmp 2), type := 3, pos := "ref.go:214", after := #[], guard := none }) (v := .int .i64 (q : Int)) rfl (by kernel_rfl) (by kernel_rfl) (by kernel_rfl) (fun _ _ _ h => h) (Or.inl ⟨by rfl, by intro w2 hSw; (try dsimp only at hSw); have y0 := (hSw.cell (p := ⟨ba, oa + p * 2, none⟩) (lt_of_cell x0)).trans x0; have y1 := (hSw.cell (p := ⟨ba, oa + p * 2 + 1, none⟩) (lt_of_cell x1)).trans x1; have y2 := (hSw.cell (p := ⟨ba, oa + q * 2, none⟩) (lt_of_cell u0)).trans u0; have y3 := (hSw.cell (p := ⟨ba, oa + q * 2 + 1, none⟩) (lt_of_cell u1)).trans u1; go_simp⟩) hS0 ?_
    try simp only [Act.put, List.setIfInBounds_toArray, List.set_cons_zero, List.set_cons_succ]
    refine wpAnyH_take (i := 18) (oi := { dst := some 54, op := Go.Op.indexAddr 22 (Go.Operand.tmp 52) (Go.Operand.tmp 53), type := 0, pos := "ref.go:214", after := #[{ on := 16, ground := Go.Ground.data }, { on := 17, ground := Go.Ground.data }], guard := none }) (v := .pointer (some ⟨ba, oa + q * 2, none⟩)) rfl (by kernel_rfl) (by kernel_rfl) (by kernel_rfl) (fun _ _ _ h => h) (Or.inl ⟨by rfl, by intro w2 hSw; (try dsimp only at hSw); have y0 := (hSw.cell (p := ⟨ba, oa + p * 2, none⟩) (lt_of_cell x0)).trans x0; have y1 := (hSw.cell (p := ⟨ba, oa + p * 2 + 1, none⟩) (lt_of_cell x1)).trans x1; have y2 := (hSw.cell (p := ⟨ba, oa + q * 2, none⟩) (lt_of_cell u0)).trans u0; have y3 := (hSw.cell (p := ⟨ba, oa + q * 2 + 1, none⟩) (lt_of_cell u1)).trans u1; go_simp⟩) hS0 ?_
    try simp only [Act.put, List.setIfInBounds_toArray, List.set_cons_zero, List.set_cons_succ]
    refine wpAnyH_take (i := 19) (oi := { dst := some 55, op := Go.Op.fieldAddr 56 (Go.Operand.tmp 54) 1, type := 0, pos := "ref.go:214", after := #[{ on := 18, ground := Go.Ground.data }], guard := none }) (v := .pointer (some ⟨ba, oa + q * 2 + 1, none⟩)) rfl (by kernel_rfl) (by kernel_rfl) (by kernel_rfl) (fun _ _ _ h => h) (Or.inl ⟨by rfl, by intro w2 hSw; (try dsimp only at hSw); have y0 := (hSw.cell (p := ⟨ba, oa + p * 2, none⟩) (lt_of_cell x0)).trans x0; have y1 := (hSw.cell (p := ⟨ba, oa + p * 2 + 1, none⟩) (lt_of_cell x1)).trans x1; have y2 := (hSw.cell (p := ⟨ba, oa + q * 2, none⟩) (lt_of_cell u0)).trans u0; have y3 := (hSw.cell (p := ⟨ba, oa + q * 2 + 1, none⟩) (lt_of_cell u1)).trans u1; go_simp⟩) hS0 ?_
    try simp only [Act.put, List.setIfInBounds_toArray, List.set_cons_zero, List.set_cons_succ]
    refine wpAnyH_take (i := 20) (oi := { dst := some 56, op := Go.Op.load 2 (Go.Operand.tmp 55), type := 2, pos := "ref.go:214", after := #[{ on := 19, ground := Go.Ground.data }], guard := none }) (v := .int .i64 a2.hi) rfl (by kernel_rfl) (by kernel_rfl) (by kernel_rfl) (fun _ _ _ h => h) (Or.inl ⟨by rfl, by intro w2 hSw; (try dsimp only at hSw); have y0 := (hSw.cell (p := ⟨ba, oa + p * 2, none⟩) (lt_of_cell x0)).trans x0; have y1 := (hSw.cell (p := ⟨ba, oa + p * 2 + 1, none⟩) (lt_of_cell x1)).trans x1; have y2 := (hSw.cell (p := ⟨ba, oa + q * 2, none⟩) (lt_of_cell u0)).trans u0; have y3 := (hSw.cell (p := ⟨ba, oa + q * 2 + 1, none⟩) (lt_of_cell u1)).trans u1; go_simp⟩) hS0 ?_
    try simp only [Act.put, List.setIfInBounds_toArray, List.set_cons_zero, List.set_cons_succ]
    refine wpAnyH_take (i := 21) (oi := { dst := some 57, op := Go.Op.call { callee := Go.Callee.builtin Go.Builtin.min, args := #[Go.Operand.tmp 51, Go.Operand.tmp 56], argTypes := #[2, 2] }, type := 2, pos := "ref.go:214", after := #[{ on := 15, ground := Go.Ground.data }, { on := 20, ground := Go.Ground.data }], guard := none }) (v := .int .i64 (min a1.hi a2.hi)) rfl (by kernel_rfl) (by kernel_rfl) (by kernel_rfl) (fun _ _ _ h => h) (Or.inl ⟨by rfl, by intro w2 hSw; (try dsimp only at hSw); have y0 := (hSw.cell (p := ⟨ba, oa + p * 2, none⟩) (lt_of_cell x0)).trans x0; have y1 := (hSw.cell (p := ⟨ba, oa + p * 2 + 1, none⟩) (lt_of_cell x1)).trans x1; have y2 := (hSw.cell (p := ⟨ba, oa + q * 2, none⟩) (lt_of_cell u0)).trans u0; have y3 := (hSw.cell (p := ⟨ba, oa + q * 2 + 1, none⟩) (lt_of_cell u1)).trans u1; go_simp⟩) hS0 ?_
    try simp only [Act.put, List.setIfInBounds_toArray, List.set_cons_zero, List.set_cons_succ]
    refine wpAnyH_take (i := 22) (oi := { dst := some 58, op := Go.Op.build 56 #[(0, Go.Operand.tmp 46), (1, Go.Operand.tmp 57)], type := 56, pos := "ref.go:214", after := #[{ on := 10, ground := Go.Ground.data }, { on := 21, ground := Go.Ground.data }], guard := none }) (v := .agg #[.int .i64 (max a1.lo a2.lo), .int .i64 (min a1.hi a2.hi)]) rfl (by kernel_rfl) (by kernel_rfl) (by kernel_rfl) (fun _ _ _ h => h) (Or.inl ⟨by rfl, by intro w2 hSw; (try dsimp only at hSw); have y0 := (hSw.cell (p := ⟨ba, oa + p * 2, none⟩) (lt_of_cell x0)).trans x0; have y1 := (hSw.cell (p := ⟨ba, oa + p * 2 + 1, none⟩) (lt_of_cell x1)).trans x1; have y2 := (hSw.cell (p := ⟨ba, oa + q * 2, none⟩) (lt_of_cell u0)).trans u0; have y3 := (hSw.cell (p := ⟨ba, oa + q * 2 + 1, none⟩) (lt_of_cell u1)).trans u1; go_simp⟩) hS0 ?_
    try simp only [Act.put, List.setIfInBounds_toArray, List.set_cons_zero, List.set_cons_succ]
    generalize w1.drew = V0 at hS0 ⊢
    refine wpAnyH_ready (rs := [23]) (by kernel_rfl) (by simp) ?_
    refine AllReadyH.cons (o := { dst := some 8, op := Go.Op.alloc 56, type := 0, pos := "ref.go:214", after := #[], guard := none }) rfl (fun K2 hK => ?_) AllReadyH.nil
    go_simp
    have hz := heap_alloc_new_ V0 (.cells #[.int .i64 0, .int .i64 0] 56)
    refine hK.out _ _ (hS0.trans ((below_alloc_ _ _).mono hS0.size)) (fun hV1 => ?_)
    clear hK K2
    have HPl := Lib.hid hS0.size
    generalize V0.alloc (.cells #[.int .i64 0, .int .i64 0] 56) = V1 at *
    obtain ⟨Pb, hPb⟩ : ∃ Pb, V0.heap.size = Pb := ⟨_, rfl⟩
    rw [hPb] at hz HPl ⊢
    clear hPb
    try simp only [Act.put, List.setIfInBounds_toArray, List.set_cons_zero, List.set_cons_succ]
    refine wpAnyH_ready (rs := [24]) (by kernel_rfl) (by simp) ?_
    refine AllReadyH.cons (o := { dst := none, op := Go.Op.store 56 (Go.Operand.tmp 8) (Go.Operand.tmp 58), type := 0, pos := "ref.go:214", after := #[{ on := 23, ground := Go.Ground.data }, { on := 22, ground := Go.Ground.data }, { on := 0, ground := Go.Ground.phase }, { on := 1, ground := Go.Ground.phase }, { on := 2, ground := Go.Ground.phase }, { on := 3, ground := Go.Ground.phase }, { on := 4, ground := Go.Ground.phase }, { on := 5, ground := Go.Ground.phase }, { on := 6, ground := Go.Ground.phase }, { on := 7, ground := Go.Ground.phase }, { on := 8, ground := Go.Ground.phase }, { on := 9, ground := Go.Ground.phase }, { on := 10, ground := Go.Ground.phase }, { on := 11, ground := Go.Ground.phase }, { on := 12, ground := Go.Ground.phase }, { on := 13, ground := Go.Ground.phase }, { on := 14, ground := Go.Ground.phase }, { on := 15, ground := Go.Ground.phase }, { on := 16, ground := Go.Ground.phase }, { on := 17, ground := Go.Ground.phase }, { on := 18, ground := Go.Ground.phase }, { on := 19, ground := Go.Ground.phase }, { on := 20, ground := Go.Ground.phase }, { on := 21, ground := Go.Ground.phase }, { on := 22, ground := Go.Ground.phase }, { on := 23, ground := Go.Ground.phase }], guard := none }) rfl (fun K2 hK => ?_) AllReadyH.nil
    have cz0 : V1.cell? ⟨Pb, 0, none⟩ = some (.int .i64 0) := by rw [cell_row hz]; rfl
    have cz1 : V1.cell? ⟨Pb, 1, none⟩ = some (.int .i64 0) := by rw [cell_row hz]; rfl
    have fz0 : V1.frozen? ⟨Pb, 0, none⟩ = false := frozen_row hz
    have fz1 : V1.frozen? ⟨Pb, 1, none⟩ = false := frozen_row hz
    have Hz := Lib.hid (set_same 1 (.int .i64 (min a1.hi a2.hi)) (set_same 0 (.int .i64 (max a1.lo a2.lo)) hz))
    have HS8 := Lib.hid (hV1.trans (((keeps_setCell V1 Pb 0 (.int .i64 (max a1.lo a2.lo))).trans (keeps_setCell _ Pb 1 (.int .i64 (min a1.hi a2.hi)))).below hV1.size (fun j hj e => by have := HPl.out; omega)))
    clear hz
    go_simp
    refine hK.out _ _ HS8.out (fun hS9 => ?_)
    clear hK K2 cz0 cz1 fz0 fz1
    try simp only [Act.put, List.setIfInBounds_toArray, List.set_cons_zero, List.set_cons_succ]
    refine wpAnyH_done (by kernel_rfl) ?_ _
    go_wp2_with fail
    go_meet
    case rel => exact ⟨_, rfl, Hz.out, HS8.out⟩
  case rest =>
    obtain ⟨Pb, rfl, rP, hb⟩ := hcut
    replace S := Lib.hid (S.out.below hb (Nat.le_refl _))
    replace B1 := Lib.hid (B1.out.trans (hb.mono B1.out.size))
    replace R0 := Lib.hid ((hb.block _ (lt_of_block R0.out)).trans R0.out)
    have HG := Lib.hid (show comm (gAt zs p) (gAt zs q) = ⟨max a1.lo a2.lo, min a1.hi a2.hi⟩ by rw [Ha1.out, Ha2.out]; rfl)
    obtain ⟨glo, hglo⟩ : ∃ x, max a1.lo a2.lo = x := ⟨_, rfl⟩
    obtain ⟨ghi, hghi⟩ : ∃ x, min a1.hi a2.hi = x := ⟨_, rfl⟩
    rw [hglo, hghi] at rP HG
    have HGB := Lib.hid (show 0 ≤ glo ∧ ghi ≤ 10000 by have := Hok1.out; have := Hok2.out; omega)
    have PB := Lib.hid rP
    clear rP hb x0 x1 u0 u1 hglo hghi Hok1 Hok2 Ha1 Ha2 i0 i1 k0 k1 dp dq h1 h2 h3 h4
    have p0 : wc.cell? ⟨Pb, 0, none⟩ = some (.int .i64 glo) := by rw [cell_row PB.out]; rfl
    have p1 : wc.cell? ⟨Pb, 1, none⟩ = some (.int .i64 ghi) := by rw [cell_row PB.out]; rfl
    by_cases hlh : ghi < glo
    · have HO := Lib.hid (show okZ ⟨glo, ghi⟩ = false by cases hq9 : okZ ⟨glo, ghi⟩ with | false => rfl | true => have := (okZ_iff.1 hq9).2.1; dsimp only at this; omega)
      have z0 : wc.cell? ⟨Z, 0, none⟩ = some (.bool false) := by rw [cell_row R0.out]; rfl
      have z1 : wc.cell? ⟨Z, 1, none⟩ = some (.bool false) := by rw [cell_row R0.out]; rfl
      have zf0 : wc.frozen? ⟨Z, 0, none⟩ = false := frozen_row R0.out
      have zf1 : wc.frozen? ⟨Z, 1, none⟩ = false := frozen_row R0.out
      go_wp2_with fail
      have hV := set_same 1 (.bool (false)) (set_same 0 (.bool (false)) R0.out)
      have hKV := (keeps_setCell wc Z 0 (.bool (false))).trans (keeps_setCell _ Z 1 (.bool (false)))
      obtain ⟨V, hVe⟩ : ∃ V, (wc.setCell ⟨Z, 0, none⟩ (.bool (false))).setCell ⟨Z, 1, none⟩ (.bool (false)) = V := ⟨_, rfl⟩
      rw [hVe] at hV hKV ⊢
      have hB9 : Below w.heap.size w V := B0.out.trans ((B1.out.mono B0.out.size).trans (hKV.below (Nat.le_trans B0.out.size B1.out.size) (fun k hk e => by have := HZ.out; omega)))
      refine bodyPost_ret (v := .tuple #[.agg #[.bool (false), .bool (false)], .int .i64 0]) (res31 (by rfl) (by rfl) hV) rfl ?_
      exact ⟨hB9, _, _, _, .inr (.inr (.inl ⟨Hc.out, by simp [withI, inB]; have := HPQ.out; omega, by simp only [Int.toNat_natCast]; rw [HG.out]; exact HO.out, rfl, rfl, rfl⟩)), rfl⟩
    have HO := Lib.hid (show okZ ⟨glo, ghi⟩ = true from okZ_iff.2 ⟨HGB.out.1, by dsimp only; omega, HGB.out.2⟩)
    go_wp2_with fail
    obtain ⟨more, hmore⟩ : ∃ more : Rg, more = ⟨glo, ghi⟩ := ⟨_, rfl⟩
    have em1 : glo = more.lo := by rw [hmore]
    have em2 : ghi = more.hi := by rw [hmore]
    have HM := Lib.hid hmore
    rw [← hmore] at HG HO
    rw [em1] at p0
    rw [em2] at p1
    have hn1 : 1 ≤ n := hl24.1
    clear hmore hlh
    have PB2 : Hid (wc.heap[Pb]? = some (.cells #[.int .i64 more.lo, .int .i64 more.hi] 56 (0, 0))) := by rw [← em1, ← em2]; exact PB
    clear PB em1 em2 HGB
    obtain ⟨A, hA⟩ : ∃ A, A = some (⟨ba, oa, none⟩ : Addr) := ⟨_, rfl⟩
    rw [← hA] at S ⊢
    clear hA
    go_cut [9] from 65 to 70 (fun v9 wx => ∃ C9 cp9, v9 = .slice C9 (n + 1) cp9 ∧ Rgs wx C9 (n + 1) (zs ++ [more]) ∧ Below wc.heap.size wc wx)
    case first =>
      refine wp_region_held_drew (S := fun w2 => Below wc.heap.size wc w2) (by kernel_rfl) (drew_b _ _) (fun hS0 => ?_)
      refine wpAnyH_take (i := 1) (oi := { dst := some 66, op := Go.Op.move (Go.Operand.tmp 0), type := 22, pos := "ref.go:218", after := #[], guard := none }) (v := .slice A n cap) rfl (by kernel_rfl) (by kernel_rfl) (by kernel_rfl) (fun _ _ _ h => h) (Or.inl ⟨by rfl, by intro w2 hSw; (try dsimp only at hSw); have e0 := (hSw.cell (p := ⟨Pb, 0, none⟩) (lt_of_cell p0)).trans p0; have e1 := (hSw.cell (p := ⟨Pb, 1, none⟩) (lt_of_cell p1)).trans p1; go_simp⟩) hS0 ?_
      try simp only [Act.put, List.setIfInBounds_toArray, List.set_cons_zero, List.set_cons_succ]
      refine wpAnyH_take (i := 3) (oi := { dst := some 68, op := Go.Op.load 56 (Go.Operand.tmp 8), type := 56, pos := "ref.go:218", after := #[], guard := none }) (v := .agg #[.int .i64 more.lo, .int .i64 more.hi]) rfl (by kernel_rfl) (by kernel_rfl) (by kernel_rfl) (fun _ _ _ h => h) (Or.inl ⟨by rfl, by intro w2 hSw; (try dsimp only at hSw); have e0 := (hSw.cell (p := ⟨Pb, 0, none⟩) (lt_of_cell p0)).trans p0; have e1 := (hSw.cell (p := ⟨Pb, 1, none⟩) (lt_of_cell p1)).trans p1; go_simp⟩) hS0 ?_
      try simp only [Act.put, List.setIfInBounds_toArray, List.set_cons_zero, List.set_cons_succ]
      generalize wc.drew = V0 at hS0 ⊢
      have hV0 := hS0
      clear hS0
      refine wpAnyH_ready (rs := [0, 4]) (by kernel_rfl) (by simp) ?_
      refine AllReadyH.cons (o := { dst := some 65, op := Go.Op.buildSlice 22 0 #[], type := 22, pos := "ref.go:218", after := #[], guard := none }) rfl (fun K2 hK => ?_) ?_
      · go_simp
        refine hK.out _ _ (hV0.trans ((below_alloc_ _ _).mono hV0.size)) (fun hV1 => ?_)
        clear hK K2
        have hz := heap_alloc_new_ V0 (.cells #[] 56)
        have hb := below_alloc_ V0 (.cells #[] 56)
        have hZl := Lib.hid (show wc.heap.size ≤ V0.heap.size from hV0.size)
        generalize V0.alloc (.cells #[] 56) = V1 at *
        obtain ⟨Z, hZ⟩ : ∃ Z, V0.heap.size = Z := ⟨_, rfl⟩
        rw [hZ] at hz hZl ⊢
        clear hZ hb
        try simp only [Act.put, List.setIfInBounds_toArray, List.set_cons_zero, List.set_cons_succ]
        refine wpAnyH_ready (rs := [2, 4]) (by kernel_rfl) (by simp) ?_
        refine AllReadyH.cons (o := { dst := some 67, op := Go.Op.call { callee := Go.Callee.builtin Go.Builtin.append, args := #[Go.Operand.tmp 65, Go.Operand.tmp 66], argTypes := #[22, 22] }, type := 22, pos := "ref.go:218", after := #[{ on := 0, ground := Go.Ground.data }, { on := 1, ground := Go.Ground.data }], guard := none }) rfl (fun K2 hK => ?_) ?_
        · obtain ⟨g2, cp2, V2, hrun, hown, hKp, hg⟩ := app_cpR (cap := cap) hz (S.out.below hV1 (Nat.le_refl _)) hn1 (by omega)
          have hV2h := Lib.hid (show Below wc.heap.size wc V2 from hV1.trans (hKp.below hV1.size (fun j hj e => by have := hZl.out; omega)))
          have hgl := Lib.hid (show wc.heap.size ≤ g2 from by have := hZl.out; have := hV1.size; rcases hg with h | ⟨h, _⟩ <;> omega)
          clear hg hKp
          have Hown := Lib.hid hown
          clear hown
          go_simp
          try rw [hrun]
          try go_simp
          have hown := Hown.out
          clear Hown
          refine hK.out _ _ hV2h.out (fun hV2 => ?_)
          clear hK K2 hV2h hrun hz
          try simp only [Act.put, List.setIfInBounds_toArray, List.set_cons_zero, List.set_cons_succ]
          refine wpAnyH_ready (rs := [4]) (by kernel_rfl) (by simp) ?_
          refine AllReadyH.cons (o := { dst := some 69, op := Go.Op.buildSlice 22 1 #[(0, Go.Operand.tmp 68)], type := 22, pos := "ref.go:218", after := #[{ on := 3, ground := Go.Ground.data }], guard := none }) rfl (fun K2 hK => ?_) ?_
          · go_simp
            refine hK.out _ _ (hV2.trans ((below_alloc_ _ _).mono hV2.size)) (fun hV3 => ?_)
            clear hK K2
            have hd := heap_alloc_new_ V2 (.cells #[.int .i64 more.lo, .int .i64 more.hi] 56)
            have hb := below_alloc_ V2 (.cells #[.int .i64 more.lo, .int .i64 more.hi] 56)
            replace hown := own_keep hown (Keeps.of_new (Mut := fun _ => False) hb) (fun _ _ e => e)
            have HdL := Lib.hid (show V2.heap.size < (V2.alloc (.cells #[.int .i64 more.lo, .int .i64 more.hi] 56)).heap.size from lt_of_block hd)
            generalize V2.alloc (.cells #[.int .i64 more.lo, .int .i64 more.hi] 56) = V3 at *
            obtain ⟨D, hD⟩ : ∃ D, V2.heap.size = D := ⟨_, rfl⟩
            rw [hD] at hd HdL ⊢
            clear hD hb
            try simp only [Act.put, List.setIfInBounds_toArray, List.set_cons_zero, List.set_cons_succ]
            refine wpAnyH_ready (rs := [5]) (by kernel_rfl) (by simp) ?_
            refine AllReadyH.cons (o := { dst := some 70, op := Go.Op.call { callee := Go.Callee.builtin Go.Builtin.append, args := #[Go.Operand.tmp 67, Go.Operand.tmp 69], argTypes := #[22, 22] }, type := 22, pos := "ref.go:218", after := #[{ on := 2, ground := Go.Ground.data }, { on := 4, ground := Go.Ground.data }, { on := 2, ground := Go.Ground.chain }], guard := none }) rfl (fun K2 hK => ?_) AllReadyH.nil
            obtain ⟨v9, V4, hap, hown9, hK9, hv9⟩ := app_one Try.underlying22 info56_ rfl (by omega) (by omega) hown (vals := [.int .i64 more.lo, .int .i64 more.hi]) rfl hd (by simp [Value.oneCell']) (by omega)
            have hrun := run_app hap
            rw [← flatR_snoc] at hown9
            obtain ⟨C9, cp9, rfl, hcp9, hr9, -⟩ := rgs_own (by simp [HZl.out]) hown9
            have HR9 := Lib.hid hr9
            have HBW := Lib.hid (show Below wc.heap.size wc V4 from hV3.trans (hK9.below hV3.size (fun j hj e => by have := hgl.out; have e2 : g2 = j := Option.some.inj e; omega)))
            clear hown9 hK9 hv9 hap hcp9 hr9 hd hown
            go_simp
            try rw [hrun]
            try go_simp
            refine hK.out _ _ HBW.out (fun hSf => ?_)
            clear hK K2
            try simp only [Act.put, List.setIfInBounds_toArray, List.set_cons_zero, List.set_cons_succ]
            refine wpAnyH_take (i := 6) (oi := { dst := some 9, op := Go.Op.assign (Go.Operand.tmp 70), type := 22, pos := "ref.go:218", after := #[{ on := 5, ground := Go.Ground.data }, { on := 5, ground := Go.Ground.chain }, { on := 0, ground := Go.Ground.phase }, { on := 1, ground := Go.Ground.phase }, { on := 2, ground := Go.Ground.phase }, { on := 3, ground := Go.Ground.phase }, { on := 4, ground := Go.Ground.phase }, { on := 5, ground := Go.Ground.phase }], guard := none }) (v := .slice C9 (n + 1) cp9) rfl (by kernel_rfl) (by kernel_rfl) (by kernel_rfl) (fun _ _ _ h => h) (Or.inl ⟨by rfl, by intro w2 hSw; (try dsimp only at hSw); have e0 := (hSw.cell (p := ⟨Pb, 0, none⟩) (lt_of_cell p0)).trans p0; have e1 := (hSw.cell (p := ⟨Pb, 1, none⟩) (lt_of_cell p1)).trans p1; go_simp⟩) hSf ?_
            try simp only [Act.put, List.setIfInBounds_toArray, List.set_cons_zero, List.set_cons_succ]
            refine wpAnyH_done (by kernel_rfl) ?_ _
            clear hSf hrun
            go_wp2_with fail
            go_meet
            case rel => exact ⟨_, _, rfl, HR9.out, HBW.out⟩
          exact AllReadyH.nil
        refine AllReadyH.cons (o := { dst := some 69, op := Go.Op.buildSlice 22 1 #[(0, Go.Operand.tmp 68)], type := 22, pos := "ref.go:218", after := #[{ on := 3, ground := Go.Ground.data }], guard := none }) rfl (fun K2 hK => ?_) ?_
        · go_simp
          refine hK.out _ _ (hV1.trans ((below_alloc_ _ _).mono hV1.size)) (fun hV2 => ?_)
          clear hK K2
          have hd := heap_alloc_new_ V1 (.cells #[.int .i64 more.lo, .int .i64 more.hi] 56)
          have hb := below_alloc_ V1 (.cells #[.int .i64 more.lo, .int .i64 more.hi] 56)
          have hDZ := Lib.hid (show Z ≠ V1.heap.size from by have := lt_of_block hz; omega)
          replace hz := (hb.block _ (lt_of_block hz)).trans hz
          have HdL := Lib.hid (show V1.heap.size < (V1.alloc (.cells #[.int .i64 more.lo, .int .i64 more.hi] 56)).heap.size from lt_of_block hd)
          generalize V1.alloc (.cells #[.int .i64 more.lo, .int .i64 more.hi] 56) = V2 at *
          obtain ⟨D, hD⟩ : ∃ D, V1.heap.size = D := ⟨_, rfl⟩
          rw [hD] at hd HdL hDZ ⊢
          clear hD hb
          try simp only [Act.put, List.setIfInBounds_toArray, List.set_cons_zero, List.set_cons_succ]
          refine wpAnyH_ready (rs := [2]) (by kernel_rfl) (by simp) ?_
          refine AllReadyH.cons (o := { dst := some 67, op := Go.Op.call { callee := Go.Callee.builtin Go.Builtin.append, args := #[Go.Operand.tmp 65, Go.Operand.tmp 66], argTypes := #[22, 22] }, type := 22, pos := "ref.go:218", after := #[{ on := 0, ground := Go.Ground.data }, { on := 1, ground := Go.Ground.data }], guard := none }) rfl (fun K2 hK => ?_) ?_
          · obtain ⟨g2, cp2, V3, hrun, hown, hKp, hg⟩ := app_cpR (cap := cap) hz (S.out.below hV2 (Nat.le_refl _)) hn1 (by omega)
            have hV3h := Lib.hid (show Below wc.heap.size wc V3 from hV2.trans (hKp.below hV2.size (fun j hj e => by have := hZl.out; omega)))
            have hgl := Lib.hid (show wc.heap.size ≤ g2 from by have := hZl.out; have := hV2.size; rcases hg with h | ⟨h, _⟩ <;> omega)
            replace hd := (hKp.block _ (lt_of_block hd) (by have := hDZ.out; omega)).trans hd
            clear hg hKp
            have Hown := Lib.hid hown
            clear hown
            go_simp
            try rw [hrun]
            try go_simp
            have hown := Hown.out
            clear Hown
            refine hK.out _ _ hV3h.out (fun hV3 => ?_)
            clear hK K2 hV3h hrun hz
            try simp only [Act.put, List.setIfInBounds_toArray, List.set_cons_zero, List.set_cons_succ]
            refine wpAnyH_ready (rs := [5]) (by kernel_rfl) (by simp) ?_
            refine AllReadyH.cons (o := { dst := some 70, op := Go.Op.call { callee := Go.Callee.builtin Go.Builtin.append, args := #[Go.Operand.tmp 67, Go.Operand.tmp 69], argTypes := #[22, 22] }, type := 22, pos := "ref.go:218", after := #[{ on := 2, ground := Go.Ground.data }, { on := 4, ground := Go.Ground.data }, { on := 2, ground := Go.Ground.chain }], guard := none }) rfl (fun K2 hK => ?_) AllReadyH.nil
            obtain ⟨v9, V4, hap, hown9, hK9, hv9⟩ := app_one Try.underlying22 info56_ rfl (by omega) (by omega) hown (vals := [.int .i64 more.lo, .int .i64 more.hi]) rfl hd (by simp [Value.oneCell']) (by omega)
            have hrun := run_app hap
            rw [← flatR_snoc] at hown9
            obtain ⟨C9, cp9, rfl, hcp9, hr9, -⟩ := rgs_own (by simp [HZl.out]) hown9
            have HR9 := Lib.hid hr9
            have HBW := Lib.hid (show Below wc.heap.size wc V4 from hV3.trans (hK9.below hV3.size (fun j hj e => by have := hgl.out; have e2 : g2 = j := Option.some.inj e; omega)))
            clear hown9 hK9 hv9 hap hcp9 hr9 hd hown
            go_simp
            try rw [hrun]
            try go_simp
            refine hK.out _ _ HBW.out (fun hSf => ?_)
            clear hK K2
            try simp only [Act.put, List.setIfInBounds_toArray, List.set_cons_zero, List.set_cons_succ]
            refine wpAnyH_take (i := 6) (oi := { dst := some 9, op := Go.Op.assign (Go.Operand.tmp 70), type := 22, pos := "ref.go:218", after := #[{ on := 5, ground := Go.Ground.data }, { on := 5, ground := Go.Ground.chain }, { on := 0, ground := Go.Ground.phase }, { on := 1, ground := Go.Ground.phase }, { on := 2, ground := Go.Ground.phase }, { on := 3, ground := Go.Ground.phase }, { on := 4, ground := Go.Ground.phase }, { on := 5, ground := Go.Ground.phase }], guard := none }) (v := .slice C9 (n + 1) cp9) rfl (by kernel_rfl) (by kernel_rfl) (by kernel_rfl) (fun _ _ _ h => h) (Or.inl ⟨by rfl, by intro w2 hSw; (try dsimp only at hSw); have e0 := (hSw.cell (p := ⟨Pb, 0, none⟩) (lt_of_cell p0)).trans p0; have e1 := (hSw.cell (p := ⟨Pb, 1, none⟩) (lt_of_cell p1)).trans p1; go_simp⟩) hSf ?_
            try simp only [Act.put, List.setIfInBounds_toArray, List.set_cons_zero, List.set_cons_succ]
            refine wpAnyH_done (by kernel_rfl) ?_ _
            clear hSf hrun
            go_wp2_with fail
            go_meet
            case rel => exact ⟨_, _, rfl, HR9.out, HBW.out⟩
          exact AllReadyH.nil
        exact AllReadyH.nil
      refine AllReadyH.cons (o := { dst := some 69, op := Go.Op.buildSlice 22 1 #[(0, Go.Operand.tmp 68)], type := 22, pos := "ref.go:218", after := #[{ on := 3, ground := Go.Ground.data }], guard := none }) rfl (fun K2 hK => ?_) ?_
      · go_simp
        refine hK.out _ _ (hV0.trans ((below_alloc_ _ _).mono hV0.size)) (fun hV1 => ?_)
        clear hK K2
        have hd := heap_alloc_new_ V0 (.cells #[.int .i64 more.lo, .int .i64 more.hi] 56)
        have hb := below_alloc_ V0 (.cells #[.int .i64 more.lo, .int .i64 more.hi] 56)
        have HdL := Lib.hid (show V0.heap.size < (V0.alloc (.cells #[.int .i64 more.lo, .int .i64 more.hi] 56)).heap.size from lt_of_block hd)
        generalize V0.alloc (.cells #[.int .i64 more.lo, .int .i64 more.hi] 56) = V1 at *
        obtain ⟨D, hD⟩ : ∃ D, V0.heap.size = D := ⟨_, rfl⟩
        rw [hD] at hd HdL ⊢
        clear hD hb
        try simp only [Act.put, List.setIfInBounds_toArray, List.set_cons_zero, List.set_cons_succ]
        refine wpAnyH_ready (rs := [0]) (by kernel_rfl) (by simp) ?_
        refine AllReadyH.cons (o := { dst := some 65, op := Go.Op.buildSlice 22 0 #[], type := 22, pos := "ref.go:218", after := #[], guard := none }) rfl (fun K2 hK => ?_) ?_
        · go_simp
          refine hK.out _ _ (hV1.trans ((below_alloc_ _ _).mono hV1.size)) (fun hV2 => ?_)
          clear hK K2
          have hz := heap_alloc_new_ V1 (.cells #[] 56)
          have hb := below_alloc_ V1 (.cells #[] 56)
          replace hd := (hb.block _ (lt_of_block hd)).trans hd
          have hDZ := Lib.hid (show D < V1.heap.size from HdL.out)
          have hZl := Lib.hid (show wc.heap.size ≤ V1.heap.size from hV1.size)
          generalize V1.alloc (.cells #[] 56) = V2 at *
          obtain ⟨Z, hZ⟩ : ∃ Z, V1.heap.size = Z := ⟨_, rfl⟩
          rw [hZ] at hz hZl hDZ ⊢
          clear hZ hb
          try simp only [Act.put, List.setIfInBounds_toArray, List.set_cons_zero, List.set_cons_succ]
          refine wpAnyH_ready (rs := [2]) (by kernel_rfl) (by simp) ?_
          refine AllReadyH.cons (o := { dst := some 67, op := Go.Op.call { callee := Go.Callee.builtin Go.Builtin.append, args := #[Go.Operand.tmp 65, Go.Operand.tmp 66], argTypes := #[22, 22] }, type := 22, pos := "ref.go:218", after := #[{ on := 0, ground := Go.Ground.data }, { on := 1, ground := Go.Ground.data }], guard := none }) rfl (fun K2 hK => ?_) ?_
          · obtain ⟨g2, cp2, V3, hrun, hown, hKp, hg⟩ := app_cpR (cap := cap) hz (S.out.below hV2 (Nat.le_refl _)) hn1 (by omega)
            have hV3h := Lib.hid (show Below wc.heap.size wc V3 from hV2.trans (hKp.below hV2.size (fun j hj e => by have := hZl.out; omega)))
            have hgl := Lib.hid (show wc.heap.size ≤ g2 from by have := hZl.out; have := hV2.size; rcases hg with h | ⟨h, _⟩ <;> omega)
            replace hd := (hKp.block _ (lt_of_block hd) (by have := hDZ.out; omega)).trans hd
            clear hg hKp
            have Hown := Lib.hid hown
            clear hown
            go_simp
            try rw [hrun]
            try go_simp
            have hown := Hown.out
            clear Hown
            refine hK.out _ _ hV3h.out (fun hV3 => ?_)
            clear hK K2 hV3h hrun hz
            try simp only [Act.put, List.setIfInBounds_toArray, List.set_cons_zero, List.set_cons_succ]
            refine wpAnyH_ready (rs := [5]) (by kernel_rfl) (by simp) ?_
            refine AllReadyH.cons (o := { dst := some 70, op := Go.Op.call { callee := Go.Callee.builtin Go.Builtin.append, args := #[Go.Operand.tmp 67, Go.Operand.tmp 69], argTypes := #[22, 22] }, type := 22, pos := "ref.go:218", after := #[{ on := 2, ground := Go.Ground.data }, { on := 4, ground := Go.Ground.data }, { on := 2, ground := Go.Ground.chain }], guard := none }) rfl (fun K2 hK => ?_) AllReadyH.nil
            obtain ⟨v9, V4, hap, hown9, hK9, hv9⟩ := app_one Try.underlying22 info56_ rfl (by omega) (by omega) hown (vals := [.int .i64 more.lo, .int .i64 more.hi]) rfl hd (by simp [Value.oneCell']) (by omega)
            have hrun := run_app hap
            rw [← flatR_snoc] at hown9
            obtain ⟨C9, cp9, rfl, hcp9, hr9, -⟩ := rgs_own (by simp [HZl.out]) hown9
            have HR9 := Lib.hid hr9
            have HBW := Lib.hid (show Below wc.heap.size wc V4 from hV3.trans (hK9.below hV3.size (fun j hj e => by have := hgl.out; have e2 : g2 = j := Option.some.inj e; omega)))
            clear hown9 hK9 hv9 hap hcp9 hr9 hd hown
            go_simp
            try rw [hrun]
            try go_simp
            refine hK.out _ _ HBW.out (fun hSf => ?_)
            clear hK K2
            try simp only [Act.put, List.setIfInBounds_toArray, List.set_cons_zero, List.set_cons_succ]
            refine wpAnyH_take (i := 6) (oi := { dst := some 9, op := Go.Op.assign (Go.Operand.tmp 70), type := 22, pos := "ref.go:218", after := #[{ on := 5, ground := Go.Ground.data }, { on := 5, ground := Go.Ground.chain }, { on := 0, ground := Go.Ground.phase }, { on := 1, ground := Go.Ground.phase }, { on := 2, ground := Go.Ground.phase }, { on := 3, ground := Go.Ground.phase }, { on := 4, ground := Go.Ground.phase }, { on := 5, ground := Go.Ground.phase }], guard := none }) (v := .slice C9 (n + 1) cp9) rfl (by kernel_rfl) (by kernel_rfl) (by kernel_rfl) (fun _ _ _ h => h) (Or.inl ⟨by rfl, by intro w2 hSw; (try dsimp only at hSw); have e0 := (hSw.cell (p := ⟨Pb, 0, none⟩) (lt_of_cell p0)).trans p0; have e1 := (hSw.cell (p := ⟨Pb, 1, none⟩) (lt_of_cell p1)).trans p1; go_simp⟩) hSf ?_
            try simp only [Act.put, List.setIfInBounds_toArray, List.set_cons_zero, List.set_cons_succ]
            refine wpAnyH_done (by kernel_rfl) ?_ _
            clear hSf hrun
            go_wp2_with fail
            go_meet
            case rel => exact ⟨_, _, rfl, HR9.out, HBW.out⟩
          exact AllReadyH.nil
        exact AllReadyH.nil
      exact AllReadyH.nil
    case rest =>
      obtain ⟨C9, cp9, rfl, hr9, hb⟩ := hcut
      have Y := Lib.hid hr9
      replace S := Lib.hid (S.out.below hb (Nat.le_refl _))
      replace B1 := Lib.hid (B1.out.trans (hb.mono B1.out.size))
      replace R0 := Lib.hid ((hb.block _ (lt_of_block R0.out)).trans R0.out)
      replace PB2 := Lib.hid ((hb.block _ (lt_of_block PB2.out)).trans PB2.out)
      clear hr9 hb p0 p1
      skip
      go_wp2_with fail
      refine (short27 A n cap zs _ S.out (by omega) (by omega) (ok_of Hc.out)).mono ?_
      rintro en w1 ⟨a, ha, ha24, rfl, hb⟩
      replace S := Lib.hid (S.out.below hb (Nat.le_refl _))
      replace B1 := Lib.hid (B1.out.trans (hb.mono B1.out.size))
      replace R0 := Lib.hid ((hb.block _ (lt_of_block R0.out)).trans R0.out)
      replace PB2 := Lib.hid ((hb.block _ (lt_of_block PB2.out)).trans PB2.out)
      replace Y := Lib.hid (Y.out.below hb (Nat.le_refl _))
      have HA := Lib.hid ha
      clear hb ha
      go_wp2_with fail
      have hmo : Ok (zs ++ [more]) := fun r hr => by
        rcases List.mem_append.1 hr with h | h
        · exact ok_of Hc.out r h
        · rw [List.mem_singleton.1 h]; exact (okZ_iff.1 HO.out).2.1
      have HMO := Lib.hid hmo
      clear hmo
      have p0 : w1.cell? ⟨Pb, 0, none⟩ = some (.int .i64 more.lo) := by rw [cell_row PB2.out]; rfl
      have p1 : w1.cell? ⟨Pb, 1, none⟩ = some (.int .i64 more.hi) := by rw [cell_row PB2.out]; rfl
      have hPZ : ¬ Pb = Z := fun e => by have h1 := PB2.out; rw [e, R0.out] at h1; cases h1
      have hYZ := fun b o e => neZ R0.out Y.out (by omega) (b := b) (o := o) e
      have hSZ := fun b o e => neZ R0.out S.out (by omega) (b := b) (o := o) e
      have HYZ := Lib.hid hYZ
      have HSZ := Lib.hid hSZ
      clear hYZ hSZ
      refine wp_region_held_drew (S := fun w2 => Keeps (fun j => j = Z) w1 w2) (by kernel_rfl) (Keeps.of_new (drew_b _ _)) (fun hS0 => ?_)
      refine wpAnyH_take (i := 0) (oi := { dst := some 73, op := Go.Op.move (Go.Operand.tmp 9), type := 22, pos := "ref.go:220", after := #[], guard := none }) (v := .slice C9 (n + 1) cp9) rfl (by kernel_rfl) (by kernel_rfl) (by kernel_rfl) (fun _ _ _ h => h) (Or.inl ⟨by rfl, by intro w2 hSw; (try dsimp only at hSw); have y0 := (keep_cells hSw (lt_of_cell p0) hPZ 0).trans p0; have y1 := (keep_cells hSw (lt_of_cell p1) hPZ 1).trans p1; go_simp⟩) hS0 ?_
      try simp only [Act.put, List.setIfInBounds_toArray, List.set_cons_zero, List.set_cons_succ]
      refine wpAnyH_take (i := 2) (oi := { dst := some 75, op := Go.Op.move (Go.Operand.tmp 10), type := 3, pos := "ref.go:220", after := #[], guard := none }) (v := .int .i64 (a : Int)) rfl (by kernel_rfl) (by kernel_rfl) (by kernel_rfl) (fun _ _ _ h => h) (Or.inl ⟨by rfl, by intro w2 hSw; (try dsimp only at hSw); have y0 := (keep_cells hSw (lt_of_cell p0) hPZ 0).trans p0; have y1 := (keep_cells hSw (lt_of_cell p1) hPZ 1).trans p1; go_simp⟩) hS0 ?_
      try simp only [Act.put, List.setIfInBounds_toArray, List.set_cons_zero, List.set_cons_succ]
      refine wpAnyH_take (i := 4) (oi := { dst := some 77, op := Go.Op.move (Go.Operand.tmp 0), type := 22, pos := "ref.go:220", after := #[], guard := none }) (v := .slice A n cap) rfl (by kernel_rfl) (by kernel_rfl) (by kernel_rfl) (fun _ _ _ h => h) (Or.inl ⟨by rfl, by intro w2 hSw; (try dsimp only at hSw); have y0 := (keep_cells hSw (lt_of_cell p0) hPZ 0).trans p0; have y1 := (keep_cells hSw (lt_of_cell p1) hPZ 1).trans p1; go_simp⟩) hS0 ?_
      try simp only [Act.put, List.setIfInBounds_toArray, List.set_cons_zero, List.set_cons_succ]
      refine wpAnyH_take (i := 5) (oi := { dst := some 78, op := Go.Op.load 56 (Go.Operand.tmp 8), type := 56, pos := "ref.go:220", after := #[], guard := none }) (v := .agg #[.int .i64 more.lo, .int .i64 more.hi]) rfl (by kernel_rfl) (by kernel_rfl) (by kernel_rfl) (fun _ _ _ h => h) (Or.inl ⟨by rfl, by intro w2 hSw; (try dsimp only at hSw); have y0 := (keep_cells hSw (lt_of_cell p0) hPZ 0).trans p0; have y1 := (keep_cells hSw (lt_of_cell p1) hPZ 1).trans p1; go_simp⟩) hS0 ?_
      try simp only [Act.put, List.setIfInBounds_toArray, List.set_cons_zero, List.set_cons_succ]
      refine wpAnyH_take (i := 7) (oi := { dst := some 80, op := Go.Op.move (Go.Operand.tmp 10), type := 3, pos := "ref.go:220", after := #[], guard := none }) (v := .int .i64 (a : Int)) rfl (by kernel_rfl) (by kernel_rfl) (by kernel_rfl) (fun _ _ _ h => h) (Or.inl ⟨by rfl, by intro w2 hSw; (try dsimp only at hSw); have y0 := (keep_cells hSw (lt_of_cell p0) hPZ 0).trans p0; have y1 := (keep_cells hSw (lt_of_cell p1) hPZ 1).trans p1; go_simp⟩) hS0 ?_
      try simp only [Act.put, List.setIfInBounds_toArray, List.set_cons_zero, List.set_cons_succ]
      have hrz := R0.out
      replace hrz : w1.drew.heap[Z]? = some (.cells #[.bool false, .bool false] 43 (0, 0)) := hrz
      have hsz : w.heap.size ≤ w1.drew.heap.size := Nat.le_trans B0.out.size B1.out.size
      have hbw : Below w.heap.size w w1.drew := (B0.out.trans (B1.out.mono B0.out.size)).trans ((drew_b _ 1).mono hsz)
      have Hbw := Lib.hid hbw
      clear hbw hsz
      generalize w1.drew = V0 at hS0 hrz Hbw ⊢
      refine wpAnyH_ready (rs := [1]) (by kernel_rfl) (by simp) ?_
      refine AllReadyH.cons (o := { dst := some 74, op := Go.Op.call { callee := Go.Callee.value (Go.Operand.func 27), args := #[Go.Operand.tmp 73], argTypes := #[22] }, type := 3, pos := "ref.go:220", after := #[{ on := 0, ground := Go.Ground.data }], guard := none }) rfl (fun K2 hK => ?_) AllReadyH.nil
      go_simp
      refine (short27 C9 (n + 1) cp9 (zs ++ [more]) _ (Y.out.keep hS0 HYZ.out) (by omega) (by omega) HMO.out).mono ?_
      rintro e9 V1 ⟨b, hb1, hb24, rfl, hb6⟩
      have HB := Lib.hid hb1
      clear hb1
      replace hrz := (hb6.block _ (lt_of_block hrz)).trans hrz
      replace Hbw := Lib.hid (Hbw.out.trans (hb6.mono Hbw.out.size))
      try go_simp
      refine hK.out _ _ (hS0.trans (Keeps.of_new hb6)) (fun hS1 => ?_)
      clear hK K2 hb6
      try simp only [Act.put, List.setIfInBounds_toArray, List.set_cons_zero, List.set_cons_succ]
      refine wpAnyH_take (i := 3) (oi := { dst := some 76, op := Go.Op.binOp Go.BinOp.eql 3 (Go.Operand.tmp 74) (Go.Operand.tmp 75) 3, type := 4, pos := "ref.go:220", after := #[{ on := 1, ground := Go.Ground.data }, { on := 2, ground := Go.Ground.data }], guard := none }) (v := .bool ((b : Int) == (a : Int))) rfl (by kernel_rfl) (by kernel_rfl) (by kernel_rfl) (fun _ _ _ h => h) (Or.inl ⟨by rfl, by intro w2 hSw; (try dsimp only at hSw); have y0 := (keep_cells hSw (lt_of_cell p0) hPZ 0).trans p0; have y1 := (keep_cells hSw (lt_of_cell p1) hPZ 1).trans p1; go_simp⟩) hS1 ?_
      try simp only [Act.put, List.setIfInBounds_toArray, List.set_cons_zero, List.set_cons_succ]
      refine wpAnyH_ready (rs := [6]) (by kernel_rfl) (by simp) ?_
      refine AllReadyH.cons (o := { dst := some 79, op := Go.Op.call { callee := Go.Callee.value (Go.Operand.func 57), args := #[Go.Operand.tmp 77, Go.Operand.tmp 78], argTypes := #[22, 56] }, type := 3, pos := "ref.go:220", after := #[{ on := 4, ground := Go.Ground.data }, { on := 5, ground := Go.Ground.data }, { on := 1, ground := Go.Ground.chain }], guard := none }) rfl (fun K2 hK => ?_) AllReadyH.nil
      go_simp
      refine (without57 10001 rfl A n cap zs more _ (S.out.keep hS1 HSZ.out) Hc.out HO.out).mono ?_
      rintro e9 V2 ⟨wv, hwv, rfl, hb6⟩
      have HV := Lib.hid hwv
      clear hwv
      replace hrz := (hb6.block _ (lt_of_block hrz)).trans hrz
      replace Hbw := Lib.hid (Hbw.out.trans (hb6.mono Hbw.out.size))
      try go_simp
      refine hK.out _ _ (hS1.trans (Keeps.of_new hb6)) (fun hS2 => ?_)
      clear hK K2 hb6
      try simp only [Act.put, List.setIfInBounds_toArray, List.set_cons_zero, List.set_cons_succ]
      refine wpAnyH_take (i := 8) (oi := { dst := some 81, op := Go.Op.binOp Go.BinOp.gtr 3 (Go.Operand.tmp 79) (Go.Operand.tmp 80) 3, type := 4, pos := "ref.go:220", after := #[{ on := 6, ground := Go.Ground.data }, { on := 7, ground := Go.Ground.data }], guard := none }) (v := .bool (decide ((a : Int) < wv))) rfl (by kernel_rfl) (by kernel_rfl) (by kernel_rfl) (fun _ _ _ h => h) (Or.inl ⟨by rfl, by intro w2 hSw; (try dsimp only at hSw); have y0 := (keep_cells hSw (lt_of_cell p0) hPZ 0).trans p0; have y1 := (keep_cells hSw (lt_of_cell p1) hPZ 1).trans p1; go_simp⟩) hS2 ?_
      try simp only [Act.put, List.setIfInBounds_toArray, List.set_cons_zero, List.set_cons_succ]
      have HRR := Lib.hid (sr_ref Hc.out HPQ.out.1 HPQ.out.2 HG.out HO.out HA.out HB.out rfl HV.out)
      generalize hbb1 : ((b : Int) == (a : Int)) = bb1 at *
      generalize hbb2 : decide ((a : Int) < wv) = bb2 at *
      clear hbb1 hbb2
      refine wpAnyH_take (i := 9) (oi := { dst := some 82, op := Go.Op.build 43 #[(0, Go.Operand.tmp 76), (1, Go.Operand.tmp 81)], type := 43, pos := "ref.go:220", after := #[{ on := 3, ground := Go.Ground.data }, { on := 8, ground := Go.Ground.data }], guard := none }) (v := .agg #[.bool bb1, .bool bb2]) rfl (by kernel_rfl) (by kernel_rfl) (by kernel_rfl) (fun _ _ _ h => h) (Or.inl ⟨by rfl, by intro w2 hSw; (try dsimp only at hSw); have y0 := (keep_cells hSw (lt_of_cell p0) hPZ 0).trans p0; have y1 := (keep_cells hSw (lt_of_cell p1) hPZ 1).trans p1; go_simp⟩) hS2 ?_
      try simp only [Act.put, List.setIfInBounds_toArray, List.set_cons_zero, List.set_cons_succ]
      have R9 := Lib.hid hrz
      have z0 : V2.cell? ⟨Z, 0, none⟩ = some (.bool false) := by rw [cell_row hrz]; rfl
      have z1 : V2.cell? ⟨Z, 1, none⟩ = some (.bool false) := by rw [cell_row hrz]; rfl
      have zf0 : V2.frozen? ⟨Z, 0, none⟩ = false := frozen_row hrz
      have zf1 : V2.frozen? ⟨Z, 1, none⟩ = false := frozen_row hrz
      have hS3 := hS2.trans ((keeps_setCell V2 Z 0 (.bool bb1)).trans (keeps_setCell _ Z 1 (.bool bb2)))
      have HS3 := Lib.hid hS3
      clear hS3
      refine wpAnyH_ready (rs := [10]) (by kernel_rfl) (by simp) ?_
      refine AllReadyH.cons (o := { dst := none, op := Go.Op.store 43 (Go.Operand.tmp 6) (Go.Operand.tmp 82), type := 0, pos := "ref.go:220", after := #[{ on := 9, ground := Go.Ground.data }, { on := 6, ground := Go.Ground.chain }, { on := 0, ground := Go.Ground.phase }, { on := 1, ground := Go.Ground.phase }, { on := 2, ground := Go.Ground.phase }, { on := 3, ground := Go.Ground.phase }, { on := 4, ground := Go.Ground.phase }, { on := 5, ground := Go.Ground.phase }, { on := 6, ground := Go.Ground.phase }, { on := 7, ground := Go.Ground.phase }, { on := 8, ground := Go.Ground.phase }, { on := 9, ground := Go.Ground.phase }], guard := none }) rfl (fun K2 hK => ?_) AllReadyH.nil
      go_simp
      refine hK.out _ _ HS3.out (fun hS4 => ?_)
      clear hK K2
      try simp only [Act.put, List.setIfInBounds_toArray, List.set_cons_zero, List.set_cons_succ]
      refine wpAnyH_take (i := 11) (oi := { dst := some 7, op := Go.Op.assign (Go.Operand.const (Go.Value.int Go.IntKind.i64 0)), type := 27, pos := "ref.go:220", after := #[{ on := 10, ground := Go.Ground.chain }, { on := 0, ground := Go.Ground.phase }, { on := 1, ground := Go.Ground.phase }, { on := 2, ground := Go.Ground.phase }, { on := 3, ground := Go.Ground.phase }, { on := 4, ground := Go.Ground.phase }, { on := 5, ground := Go.Ground.phase }, { on := 6, ground := Go.Ground.phase }, { on := 7, ground := Go.Ground.phase }, { on := 8, ground := Go.Ground.phase }, { on := 9, ground := Go.Ground.phase }, { on := 10, ground := Go.Ground.phase }], guard := none }) (v := .int .i64 0) rfl (by kernel_rfl) (by kernel_rfl) (by kernel_rfl) (fun _ _ _ h => h) (Or.inl ⟨by rfl, by intro w2 hSw; (try dsimp only at hSw);  go_simp⟩) hS4 ?_
      try simp only [Act.put, List.setIfInBounds_toArray, List.set_cons_zero, List.set_cons_succ]
      refine wpAnyH_done (by kernel_rfl) ?_ _
      clear hS0 hS1 hS2 hS4 z0 z1 zf0 zf1 hrz p0 p1
      go_wp2_with fail
      have hV := set_same 1 (.bool bb2) (set_same 0 (.bool bb1) R9.out)
      have hKV := (keeps_setCell V2 Z 0 (.bool bb1)).trans (keeps_setCell _ Z 1 (.bool bb2))
      obtain ⟨V, hVe⟩ : ∃ V, (V2.setCell ⟨Z, 0, none⟩ (.bool bb1)).setCell ⟨Z, 1, none⟩ (.bool bb2) = V := ⟨_, rfl⟩
      rw [hVe] at hV hKV ⊢
      have hB9 : Below w.heap.size w V := Hbw.out.trans (hKV.below Hbw.out.size (fun k hk e => by have := HZ.out; omega))
      refine bodyPost_ret (v := .tuple #[.agg #[.bool bb1, .bool bb2], .int .i64 0]) (res31 (by rfl) (by rfl) hV) rfl ?_
      exact ⟨hB9, _, _, _, HRR.out, rfl⟩
end Go.Proofs.Ytdfdlklglbefiaa
