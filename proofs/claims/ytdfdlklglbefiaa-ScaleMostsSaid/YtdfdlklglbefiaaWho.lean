/- Stage 3: ranges copied, and ranges without a gap. -/
import Derived.Test.YtdfdlklglbefiaaSpn
namespace Go.Proofs.Ytdfdlklglbefiaa
set_option linter.unusedSimpArgs false
set_option linter.unusedVariables false
open Go.RowKit Go.Shelf Go.Sort

/-- A block of ranges. -/
def RowR (W : World) (S : Nat) (ys : List Rg) : Prop := ∃ rest : List Value, W.heap[S]? = some (.cells (flatR ys ++ rest).toArray 56 (0, 0))
theorem RowR.rgs {W : World} {S : Nat} {ys : List Rg} (h : RowR W S ys) : Rgs W (some ⟨S, 0, none⟩) ys.length ys := by
  obtain ⟨rest, h⟩ := h
  refine ⟨rfl, fun _ => ⟨S, 0, rfl, fun j hj => ?_⟩⟩
  have := flatR_at ys j hj
  have hl := flatR_len ys
  rw [Nat.zero_add]
  simp only [cell_row h, List.getElem?_toArray]
  rw [List.getElem?_append_left (by omega), List.getElem?_append_left (by omega)]
  exact this
theorem flatR_set (ys : List Rg) (j : Nat) (t : Rg) (hj : j < ys.length) : ((flatR ys).set (j * 2) (.int .i64 t.lo)).set (j * 2 + 1) (.int .i64 t.hi) = flatR (ys.set j t) := by
  induction ys generalizing j with
  | nil => simp at hj
  | cons x l ih =>
    cases j with
    | zero => simp [flatR, cellR]
    | succ j =>
      have := ih j (by simpa using hj)
      rw [show (j + 1) * 2 = j * 2 + 1 + 1 by omega]
      simp only [flatR, cellR, List.flatMap_cons, List.cons_append, List.nil_append, List.set_cons_succ] at this ⊢
      rw [this]
/-- The world behind the store of a range. -/
def putR (W : World) (S j : Nat) (t : Rg) : World := (W.setCell ⟨S, j * 2, none⟩ (.int .i64 t.lo)).setCell ⟨S, j * 2 + 1, none⟩ (.int .i64 t.hi)
theorem RowR.put {W : World} {S : Nat} {ys : List Rg} (h : RowR W S ys) {j : Nat} (hj : j < ys.length) (t : Rg) : RowR (putR W S j t) S (ys.set j t) := by
  obtain ⟨rest, h⟩ := h
  have hl := flatR_len ys
  refine ⟨rest, ?_⟩
  unfold putR
  rw [set_same _ _ (set_same _ _ h), ← flatR_set ys j t hj]
  simp only [List.setIfInBounds_toArray]
  rw [List.set_append_left _ _ (by omega), List.set_append_left _ _ (by rw [List.length_set]; omega)]
theorem putR_keeps (W : World) (S j : Nat) (t : Rg) : Keeps (fun k => k = S) W (putR W S j t) := (keeps_setCell _ _ _ _).trans (keeps_setCell _ _ _ _)
section
attribute [local go_sem ↓] exec_app
theorem app_cpR {W : World} {Z : Nat} (hZ : W.heap[Z]? = some (.cells #[] 56 (0, 0))) {A : Option Addr} {n cap : Nat} {ts : List Rg} (h : Rgs W A n ts) (hn1 : 1 ≤ n) (hn : n ≤ 1000) :
    ∃ g cp W', runA Try.prog 22 (.slice (some ⟨Z, 0, none⟩) 0 0) (.slice A n cap) W = .ok (.value (.slice (some ⟨g, 0, none⟩) n cp)) W' ∧ W'.ownsRow 0 56 2 (.slice (some ⟨g, 0, none⟩) n cp) n (flatR ts) ∧
      Keeps (fun j => j = Z) W W' ∧ (g = Z ∨ (g = W.heap.size ∧ W.heap.size < W'.heap.size)) := by
  obtain ⟨i, hi, hz, hs, hb⟩ := info_parts info56_
  obtain ⟨b, o, rfl, hc⟩ := h.2 (by omega)
  have hown : W.ownsRow 0 56 2 (.slice (some ⟨Z, 0, none⟩) 0 0) 0 [] := ⟨rfl, .inr ⟨Z, 0, #[], rfl, Nat.zero_le _, hZ, Nat.le_refl _, Nat.zero_le _, rfl, rfl⟩⟩
  have hl := h.1
  obtain ⟨v', W', h2, h3, h4, _, h5⟩ := run_append_own_at (P := Try.prog) W 0 22 22 56 i _ 2 16 Try.underlying22 hi hz hs hb rfl (by omega) _ 0 [] hown ⟨b, o, none⟩ n cap (flatR ts) (by rw [flatR_len, hl]) (fun j u hj => by
      have hjl : j < n * 2 := by
        have := (List.getElem?_eq_some_iff.1 hj).1
        rw [flatR_len, hl] at this
        exact this
      rw [Addr.add_lit]
      have hd := hc (j / 2) (by omega)
      have hf := flatR_at ts (j / 2) (by omega)
      rcases (by omega : j = j / 2 * 2 ∨ j = j / 2 * 2 + 1) with e | e
      · rw [e, hf.1] at hj; rw [e, ← hj]; exact hd.1
      · rw [e, hf.2] at hj; rw [e, ← hj]; exact hd.2) (by
      intro u hu
      unfold flatR at hu
      obtain ⟨p, _, hp⟩ := List.mem_flatMap.1 hu
      simp only [cellR, List.mem_cons, List.mem_nil_iff, or_false] at hp
      rcases hp with rfl | rfl <;> rfl) (by unfold maxLen; omega) (by omega) (Nat.zero_le _)
  rw [Nat.zero_add, List.nil_append] at h3
  rcases h3.2 with ⟨_, e⟩ | ⟨g, cp, cur, rfl, _⟩
  · omega
  · refine ⟨g, cp, W', run_app h2, h3, ⟨h4.os, h4.tape, h4.output, h4.size, fun k hk hm => h4.block k hk (fun e => hm (Option.some.inj e))⟩, ?_⟩
    rcases h5 with h5 | h5
    · exact .inl (Option.some.inj h5)
    · exact .inr ⟨Option.some.inj h5, own_lt h3 _ h5⟩
theorem rowR_own {W : World} {g n cp : Nat} {ts : List Rg} (hn : 1 ≤ n) (h : W.ownsRow 0 56 2 (.slice (some ⟨g, 0, none⟩) n cp) n (flatR ts)) : RowR W g ts := by
  rcases h.2 with ⟨e, _⟩ | ⟨g', cap, cur, e, hb, hg, hc, _, hsz, htake⟩
  · cases e
  · cases e
    refine ⟨cur.toList.drop (n * 2), ?_⟩
    rw [← htake, List.take_append_drop]
    exact hg
set_option maxRecDepth 100000 in
set_option maxHeartbeats 4000000 in
theorem clone53 (A : Option Addr) (n cap : Nat) (ts : List Rg) (w : World) (h : Rgs w A n ts) (hn1 : 1 ≤ n) (hn : n ≤ 1000) :
    Calls Try.prog 53 #[.slice A n cap] w fun e w' => ∃ g cp, e = .returned (.slice (some ⟨g, 0, none⟩) n cp) ∧ RowR w' g ts ∧ w.heap.size ≤ g ∧ Below w.heap.size w w' := by
  have q72 : ∀ (w : World) (a : Option Addr) (n c n' c' : Nat), (binOp .eql 22 (.slice a n c) (.slice none n' c')).run Try.prog w = .ok (.bool a.isNone) w := fun w a n c n' c' => Lib.run_eql_slice_nil w 22 56 a n c n' c' Try.underlying22
  have hb := below_alloc_ w (.cells #[] 56)
  obtain ⟨g, cp, W', hrun, hown, hK, hg⟩ := app_cpR (cap := cap) (heap_alloc_new_ w (.cells #[] 56)) (h.below hb (Nat.le_refl _)) hn1 hn
  have hF : Below w.heap.size w W' := hb.trans (hK.below hb.size (fun k hk e => by omega))
  have HF := Lib.hid hF
  have HR := Lib.hid (rowR_own hn1 hown)
  have HG := Lib.hid (show w.heap.size ≤ g by
    rcases hg with e | ⟨e, _⟩
    · omega
    · simp at e; omega)
  obtain ⟨b, o, rfl, -⟩ := h.2 (by omega)
  clear hb hown hK hg hF h
  go_enter Try.func53, Try.ntmps53
  go_wp2_with fail
  go_ret
  exact ⟨g, cp, rfl, HR.out, HG.out, HF.out⟩
end

/-- A range whose ends are moved out of a gap. -/
def woR (g r : Rg) : Rg := ⟨if g.lo ≤ r.lo ∧ r.lo ≤ g.hi then g.hi + 1 else r.lo, if g.lo ≤ r.hi ∧ r.hi ≤ g.hi then g.lo - 1 else r.hi⟩
theorem map_take {zs : List Rg} {g : Rg} {k : Nat} (h : k < zs.length) : (zs.take (k + 1)).map (woR g) = (zs.take k).map (woR g) ++ [woR g (gAt zs k)] := by
  rw [List.take_succ_eq_append_getElem h, List.map_append, gAt_eq h]; rfl
theorem withI_one (lo hi x : Int) : withI lo hi [x] = (decide (lo ≤ x) && decide (x ≤ hi)) := by simp [withI, inB]
section
attribute [local go_sem ↓] exec_app
attribute [local go_sem] Oper.semAt_some
set_option maxRecDepth 100000 in
set_option maxHeartbeats 4000000 in
theorem without54 (A : Option Addr) (n cap : Nat) (zs : List Rg) (g : Rg) (w : World) (h : Rgs w A n zs) (hn : n ≤ 24) (hg : okZ g = true) :
    Calls Try.prog 54 #[.slice A n cap, .agg #[.int .i64 g.lo, .int .i64 g.hi]] w fun e w' => ∃ D cp, e = .returned (.slice D n cp) ∧ Rgs w' D n (zs.map (woR g)) ∧ (∀ b o, D = some ⟨b, o, none⟩ → w.heap.size ≤ b) ∧ Below w.heap.size w w' := by
  have Hn := Lib.hid h.1
  have H := Lib.hid h
  have Hgo := Lib.hid (okZ_iff.1 hg)
  have g1 : -1 < g.lo := by have := Hgo.out; omega
  have g2 : g.hi < 10001 := by have := Hgo.out; omega
  have g3 : g.lo ≤ g.hi := by have := Hgo.out; omega
  have hbg := below_alloc_ w (.cells #[.int .i64 g.lo, .int .i64 g.hi] 56)
  have hgc := heap_alloc_new_ w (.cells #[.int .i64 g.lo, .int .i64 g.hi] 56)
  obtain ⟨W0, hW0⟩ : ∃ W0, w.alloc (.cells #[.int .i64 g.lo, .int .i64 g.hi] 56) = W0 := ⟨_, rfl⟩
  rw [hW0] at hbg hgc
  have Hbg := Lib.hid hbg
  have Hgc := Lib.hid hgc
  have HW0 := Lib.hid hW0
  clear h hg hbg hgc hW0
  go_enter Try.func54, Try.ntmps54
  go_wp2_with fail
  rw [HW0.out]
  obtain ⟨P, hP⟩ : ∃ P, w.heap.size = P := ⟨_, rfl⟩
  have HP := Lib.hid hP
  rw [hP]
  clear hP HW0
  have e1 : Hid (W0.heap[P]? = some (.cells #[.int .i64 g.lo, .int .i64 g.hi] 56 (0, 0))) := by have := Hgc.out; rw [HP.out] at this; exact Lib.hid this
  have e2 : Hid (P < W0.heap.size) := Lib.hid (lt_of_block e1.out)
  clear Hgc
  go_loopw [5, 7, 10] (fun v j i wr => ∃ k : Nat, k ≤ n ∧ i = .int .i64 (k : Int) ∧ wr.ownsRow 0 56 2 v k (flatR ((zs.take k).map (woR g))) ∧ (∀ j, v.ownBlock = some j → W0.heap.size ≤ j) ∧ Below W0.heap.size W0 wr) (fun v j i _ => n - (intOf i).toNat)
  case atStart => exact ⟨0, Nat.zero_le _, rfl, own_nil _ _ _, fun j e => (by cases e), Below.refl _ _⟩
  case round =>
    obtain ⟨k, hk, rfl, ho, hob, hB2⟩ := hrel
    obtain ⟨wk, rfl⟩ : ∃ wk, wk = wr := ⟨_, rfl⟩
    by_cases hlt : k < n
    · obtain ⟨b1, o1, rfl, hc1⟩ := ((H.out.below Hbg.out (Nat.le_refl _)).below hB2 (Nat.le_refl _)).2 (by omega)
      obtain ⟨x0, x1⟩ := hc1 k hlt
      have Hpt := Lib.hid (map_take (g := g) (k := k) (zs := zs) (by rw [Hn.out]; exact hlt))
      obtain ⟨t, ht⟩ : ∃ t, gAt zs k = t := ⟨_, rfl⟩
      rw [ht] at x0 x1 Hpt
      have i0 : (0 : Int) ≤ (k : Int) := by omega
      have i1 : (k : Int) < (n : Int) := by omega
      have i2 : (k : Int) < 24 := by omega
      have d3 : (k : Int).toNat = k := by omega
      have Ho := Lib.hid ho
      have Hob := Lib.hid hob
      have HB2 := Lib.hid hB2
      have hgk := (hB2.block _ e2.out).trans e1.out
      have p0 : wk.cell? ⟨P, 0, none⟩ = some (.int .i64 g.lo) := by rw [cell_row hgk]; rfl
      have p1 : wk.cell? ⟨P, 1, none⟩ = some (.int .i64 g.hi) := by rw [cell_row hgk]; rfl
      have hPl := lt_of_block hgk
      have Hlt := Lib.hid hlt
      have Hwk := Lib.hid hB2.size
      clear ho hob hB2 ht hc1
      go_wp2_with fail
      obtain ⟨R, hR⟩ : ∃ R, wk.heap.size = R := ⟨_, rfl⟩
      have hbA := (below_alloc_ wk (.cells #[.int .i64 t.lo, .int .i64 t.hi] 56)).trans ((below_alloc_ (wk.alloc (.cells #[.int .i64 t.lo, .int .i64 t.hi] 56)) (.cells #[.int .i64 t.lo] 2)).mono (by simp))
      have hrA : ((wk.alloc (.cells #[.int .i64 t.lo, .int .i64 t.hi] 56)).alloc (.cells #[.int .i64 t.lo] 2)).heap[wk.heap.size]? = some (.cells #[.int .i64 t.lo, .int .i64 t.hi] 56 (0, 0)) := hal_old (heap_alloc_new_ _ _)
      have hsA : ((wk.alloc (.cells #[.int .i64 t.lo, .int .i64 t.hi] 56)).alloc (.cells #[.int .i64 t.lo] 2)).heap[wk.heap.size + 1]? = some (.cells #[.int .i64 t.lo] 2 (0, 0)) := hal_new (by simp)
      obtain ⟨W1, hW1⟩ : ∃ W1, (wk.alloc (.cells #[.int .i64 t.lo, .int .i64 t.hi] 56)).alloc (.cells #[.int .i64 t.lo] 2) = W1 := ⟨_, rfl⟩
      rw [hW1] at hbA hrA hsA ⊢
      have gA := (hbA.block _ hPl).trans hgk
      have p0A : W1.cell? ⟨P, 0, none⟩ = some (.int .i64 g.lo) := by rw [cell_row gA]; rfl
      have p1A : W1.cell? ⟨P, 1, none⟩ = some (.int .i64 g.hi) := by rw [cell_row gA]; rfl
      rw [hR] at hrA hsA hPl ⊢
      have r0A : W1.cell? ⟨R, 0, none⟩ = some (.int .i64 t.lo) := by rw [cell_row hrA]; rfl
      have r1A : W1.cell? ⟨R, 1, none⟩ = some (.int .i64 t.hi) := by rw [cell_row hrA]; rfl
      have hRl := lt_of_block hrA
      have f0A : W1.frozen? ⟨R, 0, none⟩ = false := frozen_row hrA
      have f1A : W1.frozen? ⟨R, 1, none⟩ = false := frozen_row hrA
      have HbA := Lib.hid hbA
      have HrA := Lib.hid hrA
      have HgA := Lib.hid gA
      have Hgk := Lib.hid hgk
      have HR := Lib.hid hR
      have HI1 := Lib.hid (ints_one hsA)
      clear hW1 hbA hrA hsA gA p0 p1 hgk x0 x1 hR
      refine (within60 (some ⟨R + 1, 0, none⟩) 1 1 [t.lo] g.lo g.hi W1 HI1.out (by omega)).mono ?_
      rintro e W ⟨rfl, rfl⟩
      rw [withI_one]
      obtain ⟨c1, hc1⟩ : ∃ c, (decide (g.lo ≤ t.lo) && decide (t.lo ≤ g.hi)) = c := ⟨_, rfl⟩
      rw [hc1]
      have Hc1 := Lib.hid hc1
      clear hc1
      cases c1 with
      | false =>
        go_wp2_with fail
        obtain ⟨V, hV⟩ : ∃ V, W = V := ⟨_, rfl⟩
        have hbV : Below wk.heap.size wk V := by rw [← hV]; exact HbA.out
        have hrV : V.heap[R]? = some (.cells #[.int .i64 t.lo, .int .i64 t.hi] 56 (0, 0)) := by rw [← hV]; exact HrA.out
        rw [hV]
        clear hV
        have hzb := below_alloc_ V (.cells #[.int .i64 t.hi] 2)
        have hsB : (V.alloc (.cells #[.int .i64 t.hi] 2)).heap[V.heap.size]? = some (.cells #[.int .i64 t.hi] 2 (0, 0)) := heap_alloc_new_ _ _
        have hbB := hbV.trans (hzb.mono hbV.size)
        have hrB := (hzb.block _ (lt_of_block hrV)).trans hrV
        obtain ⟨W2, hW2⟩ : ∃ W2, V.alloc (.cells #[.int .i64 t.hi] 2) = W2 := ⟨_, rfl⟩
        rw [hW2] at hsB hbB hrB ⊢
        have gB := (hbB.block _ (by have := HR.out; omega)).trans Hgk.out
        have p0B : W2.cell? ⟨P, 0, none⟩ = some (.int .i64 g.lo) := by rw [cell_row gB]; rfl
        have p1B : W2.cell? ⟨P, 1, none⟩ = some (.int .i64 g.hi) := by rw [cell_row gB]; rfl
        have r0B : W2.cell? ⟨R, 0, none⟩ = some (.int .i64 (t.lo)) := by rw [cell_row hrB]; rfl
        have r1B : W2.cell? ⟨R, 1, none⟩ = some (.int .i64 t.hi) := by rw [cell_row hrB]; rfl
        have f0B : W2.frozen? ⟨R, 0, none⟩ = false := frozen_row hrB
        have f1B : W2.frozen? ⟨R, 1, none⟩ = false := frozen_row hrB
        have hRB := lt_of_block hrB
        have HbB := Lib.hid hbB
        have HrB := Lib.hid hrB
        have HI2 := Lib.hid (ints_one hsB)
        clear hW2 hbB hrB hsB gB p0A p1A r0A r1A f0A f1A hzb hrV hbV
        refine (within60 (some ⟨V.heap.size, 0, none⟩) 1 1 [t.hi] g.lo g.hi W2 HI2.out (by omega)).mono ?_
        rintro e W4 ⟨rfl, hW4⟩
        obtain rfl : W4 = W2 := hW4
        rw [withI_one]
        obtain ⟨c2, hc2⟩ : ∃ c, (decide (g.lo ≤ t.hi) && decide (t.hi ≤ g.hi)) = c := ⟨_, rfl⟩
        rw [hc2]
        have Hc2 := Lib.hid hc2
        clear hc2
        cases c2 with
        | false =>
          go_wp2_with fail
          obtain ⟨V3, hV3⟩ : ∃ V3, W4 = V3 := ⟨_, rfl⟩
          have hb3 : Below wk.heap.size wk V3 := by rw [← hV3]; exact HbB.out
          rw [hV3]
          clear hV3
          have ew : woR g t = ⟨t.lo, t.hi⟩ := by
            unfold woR
            have q1 := Hc1.out
            have q2 := Hc2.out
            simp only [Bool.and_eq_true, decide_eq_true_eq, Bool.and_eq_false_iff, decide_eq_false_iff_not] at q1 q2
            congr 1
            · first | exact if_pos q1 | exact if_neg (by omega)
            · first | exact if_pos q2 | exact if_neg (by omega)
          have Hew := Lib.hid ew
          have Hb3 := Lib.hid hb3
          have hbz := below_alloc_ V3 (.cells #[.int .i64 (t.lo), .int .i64 (t.hi)] 56)
          have hz := heap_alloc_new_ V3 (.cells #[.int .i64 (t.lo), .int .i64 (t.hi)] 56)
          have hob2 : (V3.alloc (.cells #[.int .i64 (t.lo), .int .i64 (t.hi)] 56)).ownsRow 0 56 2 u5 k (flatR ((zs.take k).map (woR g))) := own_keep (Mut := fun _ => False) Ho.out ((Keeps.of_new hb3).trans (Keeps.of_new hbz)) (fun _ _ e => e)
          obtain ⟨v', W3, hrun, hown3, hK3, hv3⟩ := app_one (n := k) Try.underlying22 info56_ rfl (by omega) (by omega) hob2 (vals := [.int .i64 (t.lo), .int .i64 (t.hi)]) rfl hz (by simp [Value.oneCell']) (by omega)
          have hB3 : Below W0.heap.size W0 W3 := (HB2.out.trans ((Hb3.out.trans (hbz.mono Hb3.out.size)).mono HB2.out.size)).trans (hK3.below (by have := HB2.out.size; have := Hb3.out.size; have := hbz.size; omega) (fun j hj e => by have := Hob.out j e; omega))
          have hv4 : ∀ j, v'.ownBlock = some j → W0.heap.size ≤ j := by
            intro j hj
            rcases hv3 with e | ⟨e, _⟩
            · rw [e] at hj; exact Hob.out j hj
            · rw [e] at hj; cases hj; have := HB2.out.size; have := Hb3.out.size; have := hbz.size; omega
          replace hrun : runA Try.prog 22 u5 (.slice (some ⟨V3.heap.size, 0, none⟩) 1 1) (V3.alloc (.cells #[.int .i64 (t.lo), .int .i64 (t.hi)] 56)) = .ok (.value v') W3 := run_app hrun
          have HB3 := Lib.hid hB3
          have HV4 := Lib.hid hv4
          have HO3 := Lib.hid hown3
          clear hbz hz hob2 hown3 hK3 hv3 hB3 hv4 hb3 ew
          rw [hrun]
          go_wp2_with fail
          go_roundw
          case rel =>
            refine ⟨k + 1, by omega, by go_num, ?_, HV4.out, HB3.out⟩
            rw [Hpt.out, Hew.out, flatR_snoc]
            exact HO3.out
          case measure => simp [intOf]; omega
        | true =>
          go_wp2_with fail
          obtain ⟨V3, hV3⟩ : ∃ V3, W4.setCell ⟨R, 1, none⟩ (.int .i64 (g.lo - 1)) = V3 := ⟨_, rfl⟩
          have hb3 : Below wk.heap.size wk V3 := by rw [← hV3]; exact HbB.out.trans ((keeps_setCell W4 R 1 (.int .i64 (g.lo - 1))).below HbB.out.size (fun k hk e => by have := HR.out; omega))
          have z3 : V3.heap.size = W4.heap.size := by rw [← hV3]; simp
          rw [hV3]
          clear hV3
          have ew : woR g t = ⟨t.lo, g.lo - 1⟩ := by
            unfold woR
            have q1 := Hc1.out
            have q2 := Hc2.out
            simp only [Bool.and_eq_true, decide_eq_true_eq, Bool.and_eq_false_iff, decide_eq_false_iff_not] at q1 q2
            congr 1
            · first | exact if_pos q1 | exact if_neg (by omega)
            · first | exact if_pos q2 | exact if_neg (by omega)
          have Hew := Lib.hid ew
          have Hb3 := Lib.hid hb3
          have hbz := below_alloc_ V3 (.cells #[.int .i64 (t.lo), .int .i64 (g.lo - 1)] 56)
          have hz := heap_alloc_new_ V3 (.cells #[.int .i64 (t.lo), .int .i64 (g.lo - 1)] 56)
          have hob2 : (V3.alloc (.cells #[.int .i64 (t.lo), .int .i64 (g.lo - 1)] 56)).ownsRow 0 56 2 u5 k (flatR ((zs.take k).map (woR g))) := own_keep (Mut := fun _ => False) Ho.out ((Keeps.of_new hb3).trans (Keeps.of_new hbz)) (fun _ _ e => e)
          obtain ⟨v', W3, hrun, hown3, hK3, hv3⟩ := app_one (n := k) Try.underlying22 info56_ rfl (by omega) (by omega) hob2 (vals := [.int .i64 (t.lo), .int .i64 (g.lo - 1)]) rfl hz (by simp [Value.oneCell']) (by omega)
          have hB3 : Below W0.heap.size W0 W3 := (HB2.out.trans ((Hb3.out.trans (hbz.mono Hb3.out.size)).mono HB2.out.size)).trans (hK3.below (by have := HB2.out.size; have := Hb3.out.size; have := hbz.size; omega) (fun j hj e => by have := Hob.out j e; omega))
          have hv4 : ∀ j, v'.ownBlock = some j → W0.heap.size ≤ j := by
            intro j hj
            rcases hv3 with e | ⟨e, _⟩
            · rw [e] at hj; exact Hob.out j hj
            · rw [e] at hj; cases hj; have := HB2.out.size; have := Hb3.out.size; have := hbz.size; omega
          replace hrun : runA Try.prog 22 u5 (.slice (some ⟨V3.heap.size, 0, none⟩) 1 1) (V3.alloc (.cells #[.int .i64 (t.lo), .int .i64 (g.lo - 1)] 56)) = .ok (.value v') W3 := run_app hrun
          have HB3 := Lib.hid hB3
          have HV4 := Lib.hid hv4
          have HO3 := Lib.hid hown3
          clear hbz hz hob2 hown3 hK3 hv3 hB3 hv4 hb3 ew
          rw [← z3]
          rw [hrun]
          go_wp2_with fail
          go_roundw
          case rel =>
            refine ⟨k + 1, by omega, by go_num, ?_, HV4.out, HB3.out⟩
            rw [Hpt.out, Hew.out, flatR_snoc]
            exact HO3.out
          case measure => simp [intOf]; omega
      | true =>
        go_wp2_with fail
        obtain ⟨V, hV⟩ : ∃ V, W.setCell ⟨R, 0, none⟩ (.int .i64 (g.hi + 1)) = V := ⟨_, rfl⟩
        have hbV : Below wk.heap.size wk V := by rw [← hV]; exact HbA.out.trans ((keeps_setCell W R 0 (.int .i64 (g.hi + 1))).below HbA.out.size (fun k hk e => by have := HR.out; omega))
        have hrV : V.heap[R]? = some (.cells #[.int .i64 (g.hi + 1), .int .i64 t.hi] 56 (0, 0)) := by rw [← hV, set_same _ _ HrA.out]; rfl
        have hzV : V.heap.size = W.heap.size := by rw [← hV]; simp
        rw [hV]
        (try rw [← hzV])
        clear hV
        have hzb := below_alloc_ V (.cells #[.int .i64 t.hi] 2)
        have hsB : (V.alloc (.cells #[.int .i64 t.hi] 2)).heap[V.heap.size]? = some (.cells #[.int .i64 t.hi] 2 (0, 0)) := heap_alloc_new_ _ _
        have hbB := hbV.trans (hzb.mono hbV.size)
        have hrB := (hzb.block _ (lt_of_block hrV)).trans hrV
        obtain ⟨W2, hW2⟩ : ∃ W2, V.alloc (.cells #[.int .i64 t.hi] 2) = W2 := ⟨_, rfl⟩
        rw [hW2] at hsB hbB hrB ⊢
        have gB := (hbB.block _ (by have := HR.out; omega)).trans Hgk.out
        have p0B : W2.cell? ⟨P, 0, none⟩ = some (.int .i64 g.lo) := by rw [cell_row gB]; rfl
        have p1B : W2.cell? ⟨P, 1, none⟩ = some (.int .i64 g.hi) := by rw [cell_row gB]; rfl
        have r0B : W2.cell? ⟨R, 0, none⟩ = some (.int .i64 (g.hi + 1)) := by rw [cell_row hrB]; rfl
        have r1B : W2.cell? ⟨R, 1, none⟩ = some (.int .i64 t.hi) := by rw [cell_row hrB]; rfl
        have f0B : W2.frozen? ⟨R, 0, none⟩ = false := frozen_row hrB
        have f1B : W2.frozen? ⟨R, 1, none⟩ = false := frozen_row hrB
        have hRB := lt_of_block hrB
        have HbB := Lib.hid hbB
        have HrB := Lib.hid hrB
        have HI2 := Lib.hid (ints_one hsB)
        clear hW2 hbB hrB hsB gB p0A p1A r0A r1A f0A f1A hzb hrV hbV
        refine (within60 (some ⟨V.heap.size, 0, none⟩) 1 1 [t.hi] g.lo g.hi W2 HI2.out (by omega)).mono ?_
        rintro e W4 ⟨rfl, hW4⟩
        obtain rfl : W4 = W2 := hW4
        rw [withI_one]
        obtain ⟨c2, hc2⟩ : ∃ c, (decide (g.lo ≤ t.hi) && decide (t.hi ≤ g.hi)) = c := ⟨_, rfl⟩
        rw [hc2]
        have Hc2 := Lib.hid hc2
        clear hc2
        cases c2 with
        | false =>
          go_wp2_with fail
          obtain ⟨V3, hV3⟩ : ∃ V3, W4 = V3 := ⟨_, rfl⟩
          have hb3 : Below wk.heap.size wk V3 := by rw [← hV3]; exact HbB.out
          rw [hV3]
          clear hV3
          have ew : woR g t = ⟨g.hi + 1, t.hi⟩ := by
            unfold woR
            have q1 := Hc1.out
            have q2 := Hc2.out
            simp only [Bool.and_eq_true, decide_eq_true_eq, Bool.and_eq_false_iff, decide_eq_false_iff_not] at q1 q2
            congr 1
            · first | exact if_pos q1 | exact if_neg (by omega)
            · first | exact if_pos q2 | exact if_neg (by omega)
          have Hew := Lib.hid ew
          have Hb3 := Lib.hid hb3
          have hbz := below_alloc_ V3 (.cells #[.int .i64 (g.hi + 1), .int .i64 (t.hi)] 56)
          have hz := heap_alloc_new_ V3 (.cells #[.int .i64 (g.hi + 1), .int .i64 (t.hi)] 56)
          have hob2 : (V3.alloc (.cells #[.int .i64 (g.hi + 1), .int .i64 (t.hi)] 56)).ownsRow 0 56 2 u5 k (flatR ((zs.take k).map (woR g))) := own_keep (Mut := fun _ => False) Ho.out ((Keeps.of_new hb3).trans (Keeps.of_new hbz)) (fun _ _ e => e)
          obtain ⟨v', W3, hrun, hown3, hK3, hv3⟩ := app_one (n := k) Try.underlying22 info56_ rfl (by omega) (by omega) hob2 (vals := [.int .i64 (g.hi + 1), .int .i64 (t.hi)]) rfl hz (by simp [Value.oneCell']) (by omega)
          have hB3 : Below W0.heap.size W0 W3 := (HB2.out.trans ((Hb3.out.trans (hbz.mono Hb3.out.size)).mono HB2.out.size)).trans (hK3.below (by have := HB2.out.size; have := Hb3.out.size; have := hbz.size; omega) (fun j hj e => by have := Hob.out j e; omega))
          have hv4 : ∀ j, v'.ownBlock = some j → W0.heap.size ≤ j := by
            intro j hj
            rcases hv3 with e | ⟨e, _⟩
            · rw [e] at hj; exact Hob.out j hj
            · rw [e] at hj; cases hj; have := HB2.out.size; have := Hb3.out.size; have := hbz.size; omega
          replace hrun : runA Try.prog 22 u5 (.slice (some ⟨V3.heap.size, 0, none⟩) 1 1) (V3.alloc (.cells #[.int .i64 (g.hi + 1), .int .i64 (t.hi)] 56)) = .ok (.value v') W3 := run_app hrun
          have HB3 := Lib.hid hB3
          have HV4 := Lib.hid hv4
          have HO3 := Lib.hid hown3
          clear hbz hz hob2 hown3 hK3 hv3 hB3 hv4 hb3 ew
          rw [hrun]
          go_wp2_with fail
          go_roundw
          case rel =>
            refine ⟨k + 1, by omega, by go_num, ?_, HV4.out, HB3.out⟩
            rw [Hpt.out, Hew.out, flatR_snoc]
            exact HO3.out
          case measure => simp [intOf]; omega
        | true =>
          go_wp2_with fail
          obtain ⟨V3, hV3⟩ : ∃ V3, W4.setCell ⟨R, 1, none⟩ (.int .i64 (g.lo - 1)) = V3 := ⟨_, rfl⟩
          have hb3 : Below wk.heap.size wk V3 := by rw [← hV3]; exact HbB.out.trans ((keeps_setCell W4 R 1 (.int .i64 (g.lo - 1))).below HbB.out.size (fun k hk e => by have := HR.out; omega))
          have z3 : V3.heap.size = W4.heap.size := by rw [← hV3]; simp
          rw [hV3]
          clear hV3
          have ew : woR g t = ⟨g.hi + 1, g.lo - 1⟩ := by
            unfold woR
            have q1 := Hc1.out
            have q2 := Hc2.out
            simp only [Bool.and_eq_true, decide_eq_true_eq, Bool.and_eq_false_iff, decide_eq_false_iff_not] at q1 q2
            congr 1
            · first | exact if_pos q1 | exact if_neg (by omega)
            · first | exact if_pos q2 | exact if_neg (by omega)
          have Hew := Lib.hid ew
          have Hb3 := Lib.hid hb3
          have hbz := below_alloc_ V3 (.cells #[.int .i64 (g.hi + 1), .int .i64 (g.lo - 1)] 56)
          have hz := heap_alloc_new_ V3 (.cells #[.int .i64 (g.hi + 1), .int .i64 (g.lo - 1)] 56)
          have hob2 : (V3.alloc (.cells #[.int .i64 (g.hi + 1), .int .i64 (g.lo - 1)] 56)).ownsRow 0 56 2 u5 k (flatR ((zs.take k).map (woR g))) := own_keep (Mut := fun _ => False) Ho.out ((Keeps.of_new hb3).trans (Keeps.of_new hbz)) (fun _ _ e => e)
          obtain ⟨v', W3, hrun, hown3, hK3, hv3⟩ := app_one (n := k) Try.underlying22 info56_ rfl (by omega) (by omega) hob2 (vals := [.int .i64 (g.hi + 1), .int .i64 (g.lo - 1)]) rfl hz (by simp [Value.oneCell']) (by omega)
          have hB3 : Below W0.heap.size W0 W3 := (HB2.out.trans ((Hb3.out.trans (hbz.mono Hb3.out.size)).mono HB2.out.size)).trans (hK3.below (by have := HB2.out.size; have := Hb3.out.size; have := hbz.size; omega) (fun j hj e => by have := Hob.out j e; omega))
          have hv4 : ∀ j, v'.ownBlock = some j → W0.heap.size ≤ j := by
            intro j hj
            rcases hv3 with e | ⟨e, _⟩
            · rw [e] at hj; exact Hob.out j hj
            · rw [e] at hj; cases hj; have := HB2.out.size; have := Hb3.out.size; have := hbz.size; omega
          replace hrun : runA Try.prog 22 u5 (.slice (some ⟨V3.heap.size, 0, none⟩) 1 1) (V3.alloc (.cells #[.int .i64 (g.hi + 1), .int .i64 (g.lo - 1)] 56)) = .ok (.value v') W3 := run_app hrun
          have HB3 := Lib.hid hB3
          have HV4 := Lib.hid hv4
          have HO3 := Lib.hid hown3
          clear hbz hz hob2 hown3 hK3 hv3 hB3 hv4 hb3 ew
          rw [← z3]
          rw [hrun]
          go_wp2_with fail
          go_roundw
          case rel =>
            refine ⟨k + 1, by omega, by go_num, ?_, HV4.out, HB3.out⟩
            rw [Hpt.out, Hew.out, flatR_snoc]
            exact HO3.out
          case measure => simp [intOf]; omega
    · have e' : k = n := by omega
      subst e'
      have HB2 := Lib.hid hB2
      have htk : zs.take k = zs := List.take_of_length_le (by rw [Hn.out]; exact Nat.le_refl _)
      rw [htk] at ho
      obtain ⟨C5, cp5, rfl, hcp5, hi5, hC5⟩ := rgs_own (show (zs.map (woR g)).length = k by simp [Hn.out]) ho
      have Hi5 := Lib.hid hi5
      have HC5 := Lib.hid (fun b o (e : C5 = some ⟨b, o, none⟩) => hob b (hC5 b o e).1)
      clear ho hob hB2 hi5 hC5 hcp5
      go_wp2_with fail
      refine bodyPost_ret (v := .slice C5 k cp5) (by simp [results, Try.results54, go_sem]) rfl ?_
      exact ⟨C5, cp5, rfl, Hi5.out, fun b o e => by have := HC5.out b o e; have := Hbg.out.size; omega, Hbg.out.trans (HB2.out.mono Hbg.out.size)⟩
end
end Go.Proofs.Ytdfdlklglbefiaa
