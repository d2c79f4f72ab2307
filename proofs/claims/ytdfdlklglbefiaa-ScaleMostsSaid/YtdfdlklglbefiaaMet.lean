/- Stage 3: CheckScale and Met. -/
import Derived.Test.YtdfdlklglbefiaaHear
namespace Go.Proofs.Ytdfdlklglbefiaa
set_option linter.unusedSimpArgs false
set_option linter.unusedVariables false
open Go.RowKit Go.Shelf
attribute [local go_sem ↓] exec_app
attribute [local go_sem ↓] exec_load74
attribute [local go_sem ↓] exec_cmp74

/-- What CheckScale answers. -/
def ckSc (zs : List Rg) (st : List Int) : Int := if isSc zs st ≠ 0 then isSc zs st else if zs.all (meets st) then 0 else 19
theorem ckSc_zero {zs : List Rg} {st : List Int} : ckSc zs st = 0 ↔ isSc zs st = 0 ∧ zs.all (meets st) = true := by
  unfold ckSc
  by_cases h1 : isSc zs st = 0
  · rw [if_neg (by simpa using h1)]
    cases h2 : zs.all (meets st) <;> simp [h1]
  · rw [if_pos h1]
    constructor
    · intro h; exact absurd h h1
    · intro h; exact absurd h.1 h1
theorem sameB_met {zs : List Rg} (st : List Int) (h : zs.length ≤ 24) : sameB (metS zs st) (fun i => decide (i < zs.length)) = zs.all (meets st) := by
  unfold sameB metS
  rw [Bool.eq_iff_iff, List.all_eq_true, List.all_eq_true]
  constructor
  · intro h1 r hr
    obtain ⟨j, hj, rfl⟩ := List.mem_iff_getElem.1 hr
    have := h1 j (by simp; omega)
    simpa [hj, gAt_eq hj] using this
  · intro h1 j hj
    by_cases hl : j < zs.length
    · have := h1 _ (List.getElem_mem hl)
      simp [hl, gAt_eq hl, this]
    · simp [hl]
set_option maxRecDepth 100000 in
set_option maxHeartbeats 4000000 in
theorem checkScale20 (A : Option Addr) (n cap : Nat) (zs : List Rg) (A2 : Option Addr) (m cap2 : Nat) (st : List Int) (w : World) (h : Rgs w A n zs) (hs : Ints w A2 m st) :
    Calls Try.prog 20 #[.slice A n cap, .slice A2 m cap2] w fun e w' => e = .returned (.int .i64 (ckSc zs st)) ∧ Below w.heap.size w w' := by
  have Hn := Lib.hid h.1
  go_enter Try.func20, Try.ntmps20
  go_wp2_with fail
  refine (hear40 A n cap zs A2 m cap2 st w h hs).mono ?_
  rintro e w2 ⟨hb, ⟨h0, B, C, cp, rfl, hd, hB⟩ | ⟨h0, rfl⟩⟩
  · obtain ⟨hl1, hl2⟩ := brd_loads (show w2.drew.heap[B]? = some (.cells (brdV (.slice C n cp) (metS zs st) (fun i => decide (i < n))) 76 (0, 0)) from hd.row)
    have hq := runQ_neq (metS zs st) (fun i => decide (i < n)) w2.drew
    have hsb := sameB_met (zs := zs) st (chkS_zero.1 (isSc_zero.1 h0).1).2.1
    rw [Hn.out] at hsb
    rw [hsb] at hq
    have Hb := Lib.hid hb
    have H0 := Lib.hid h0
    clear h hs hb h0 hsb hd
    cases ha : zs.all (meets st) with
    | true =>
      have Ha := Lib.hid ha
      rw [ha] at hq
      clear ha
      go_wp2_with fail
      go_region
      all_goals (go_wp2_with fail)
      go_ret
      exact ⟨ret_int (ckSc_zero.2 ⟨H0.out, Ha.out⟩).symm, Hb.out.trans ((drew_b w2 1).mono Hb.out.size)⟩
    | false =>
      have Ha := Lib.hid ha
      rw [ha] at hq
      clear ha
      go_wp2_with fail
      go_region
      all_goals (go_wp2_with fail)
      go_ret
      exact ⟨ret_int (by unfold ckSc; rw [if_neg (by simpa using H0.out), Ha.out]; rfl), Hb.out.trans ((drew_b w2 1).mono Hb.out.size)⟩
  · have e0 : ckSc zs st = isSc zs st := by unfold ckSc; rw [if_pos h0]
    obtain ⟨c, hc⟩ : ∃ c, isSc zs st = c := ⟨_, rfl⟩
    rw [hc] at h0 e0 ⊢
    have d0 : (c != 0) = true := by rw [bne_iff_ne]; exact h0
    have Hb := Lib.hid hb
    clear hb h hs h0
    go_wp2_with fail
    go_ret
    exact ⟨ret_int e0.symm, Hb.out⟩

theorem info3_ : (Try.prog.info? 3).map (fun i => (i.zero, i.size, i.bytes)) = some (some (.int .i64 0), 1, 8) := by kernel_rfl
theorem info2_ : (Try.prog.info? 2).map (fun i => (i.zero, i.size, i.bytes)) = some (some (.int .i64 0), 1, 8) := by kernel_rfl
/-- The cells of numbers. -/
def flatI (l : List Int) : List Value := l.map (Value.int .i64)
theorem flatI_snoc (l : List Int) (x : Int) : flatI (l ++ [x]) = flatI l ++ [.int .i64 x] := by simp [flatI]
theorem ints_own {W : World} {e : TypeId} {v : Value} {l : List Int} {n : Nat} (hl : l.length = n) (h : W.ownsRow 0 e 1 v n (flatI l)) : ∃ C cap, v = .slice C n cap ∧ n ≤ cap ∧ Ints W C n l ∧ (∀ b o, C = some ⟨b, o, none⟩ → v.ownBlock = some b ∧ o = 0) := by
  subst hl
  rcases h.2 with ⟨rfl, h0⟩ | ⟨g, cap, cur, rfl, hb, hg, hc, _, hsz, htake⟩
  · rw [h0]
    exact ⟨none, 0, rfl, Nat.le_refl _, ⟨h0, by omega⟩, by intro b o e; cases e⟩
  · refine ⟨_, cap, rfl, hc, ⟨rfl, fun _ => ⟨g, 0, rfl, fun j hj => ?_⟩⟩, by rintro b o e; cases e; exact ⟨rfl, rfl⟩⟩
    rw [Nat.zero_add, cell_row hg, ← Array.getElem?_toList, ← List.getElem?_take_of_lt (show j < l.length * 1 by omega), htake]
    simp [flatI, iAt_eq hj, hj]

/-- The names of the tones that are met, of the first k. -/
def metL (zs : List Rg) (st : List Int) (k : Nat) : List Int := ((List.range k).filter (fun i => meets st (gAt zs i))).map (fun (i : Nat) => (i : Int))
theorem metL_on {zs : List Rg} {st : List Int} {k : Nat} (h : meets st (gAt zs k) = true) : metL zs st (k + 1) = metL zs st k ++ [(k : Int)] := by
  unfold metL; rw [List.range_succ, List.filter_append]; simp [h]
theorem metL_off {zs : List Rg} {st : List Int} {k : Nat} (h : meets st (gAt zs k) = false) : metL zs st (k + 1) = metL zs st k := by
  unfold metL; rw [List.range_succ, List.filter_append]; simp [h]
theorem metL_len (zs : List Rg) (st : List Int) (k : Nat) : (metL zs st k).length ≤ k := by
  unfold metL
  rw [List.length_map]
  exact Nat.le_trans (List.length_filter_le _ _) (by simp)

/-- Names that are handed back, with an error. -/
def NamesPost (l : List Int) (c : Int) (w : World) (e : Ending) (w' : World) : Prop := ∃ C cp, e = .returned (.tuple #[.slice C l.length cp, .int .i64 c]) ∧ Ints w' C l.length l ∧ (∀ b o, C = some ⟨b, o, none⟩ → w.heap.size ≤ b) ∧ Below w.heap.size w w'
def metR (zs : List Rg) (st : List Int) : List Int := if isSc zs st = 0 then metL zs st zs.length else []
theorem ints_nil (w : World) : Ints w none 0 [] := ⟨rfl, by omega⟩
set_option maxRecDepth 100000 in
set_option maxHeartbeats 8000000 in
theorem met16 (A : Option Addr) (n cap : Nat) (zs : List Rg) (A2 : Option Addr) (m cap2 : Nat) (st : List Int) (w : World) (h : Rgs w A n zs) (hs : Ints w A2 m st) :
    Calls Try.prog 16 #[.slice A n cap, .slice A2 m cap2] w (NamesPost (metR zs st) (isSc zs st) w) := by
  have Hn := Lib.hid h.1
  go_enter Try.func16, Try.ntmps16
  go_wp2_with fail
  refine (hear40 A n cap zs A2 m cap2 st w h hs).mono ?_
  rintro e w2 ⟨hb, ⟨h0, B, C, cp, rfl, hd, hB⟩ | ⟨h0, rfl⟩⟩
  · have Hb := Lib.hid hb
    have HBs := Lib.hid hB
    have Hr := Lib.hid (show metR zs st = metL zs st n from by unfold metR; rw [if_pos h0, Hn.out])
    have H0 := Lib.hid h0
    have Hd := Lib.hid hd
    have Hn24 := Lib.hid (show n ≤ 24 by have := (chkS_zero.1 (isSc_zero.1 h0).1).2.1; have := Hn.out; omega)
    have c0 := hd.c0
    clear h hs hb h0 hd hB
    go_wp2_with fail
    clear c0
    go_loopw [8, 25] (fun v i wr => ∃ k : Nat, k ≤ n ∧ i = .int .i64 (k : Int) ∧ wr.ownsRow 0 3 1 v (metL zs st k).length (flatI (metL zs st k)) ∧ (∀ j, v.ownBlock = some j → w2.heap.size ≤ j) ∧ Below w2.heap.size w2 wr) (fun v i _ => n - (intOf i).toNat)
    case atStart => exact ⟨0, Nat.zero_le _, rfl, own_nil _ _ _, fun j e => (by cases e), Below.refl _ _⟩
    case round =>
      obtain ⟨k, hk, rfl, ho, hob, hB2⟩ := hrel
      obtain ⟨wk, rfl⟩ : ∃ wk, wk = wr := ⟨_, rfl⟩
      have hd := Hd.out.below hB2 (Nat.le_refl _)
      by_cases hlt : k < n
      · obtain ⟨hl, hc⟩ := hd.tns
        obtain ⟨b, o, rfl, hc2⟩ := hc (by omega)
        obtain ⟨c0, c1, c2⟩ := hc2 k hlt
        have hlen := hd.len
        unfold tnOf at c0 c1 c2
        rw [tAt_tnK (show k < zs.length by omega)] at c0 c1 c2
        have Hon := Lib.hid (fun hh => metL_on (zs := zs) (st := st) (k := k) hh)
        have Hoff := Lib.hid (fun hh => metL_off (zs := zs) (st := st) (k := k) hh)
        have Hml := Lib.hid (metL_len zs st k)
        have hbm : wk.cell? ⟨B, 1 + k, none⟩ = some (.bool (meets st (gAt zs k))) := by
          rw [cell_row hd.row, brdV_met _ _ _ _ (by have := Hn24.out; omega)]
          unfold metS
          rw [decide_eq_true (by omega)]; rfl
        obtain ⟨g, hg⟩ : ∃ g, gAt zs k = g := ⟨_, rfl⟩
        simp only [hg] at c0 c1 c2 Hon Hoff hbm
        have i0 : (0 : Int) ≤ (k : Int) := by omega
        have i1 : (k : Int) < (n : Int) := by omega
        have i2 : (k : Int) < 24 := by have := Hn24.out; omega
        have HBl := Lib.hid (lt_of_block hd.row)
        have Ho := Lib.hid ho
        have Hob := Lib.hid hob
        have HB2 := Lib.hid hB2
        clear hc hc2 hl hg hd ho hob hB2 hlen
        go_wp2_with fail
        have hbt := below_alloc_ wk (.cells #[.int .i64 g.lo, .int .i64 g.hi, .int .i64 (k : Int)] 78)
        have hR := heap_alloc_new_ wk (.cells #[.int .i64 g.lo, .int .i64 g.hi, .int .i64 (k : Int)] 78)
        have hbm2 := (hbt.cell (p := ⟨B, 1 + k, none⟩) HBl.out).trans hbm
        obtain ⟨W1, hW1⟩ : ∃ W1, wk.alloc (.cells #[.int .i64 g.lo, .int .i64 g.hi, .int .i64 (k : Int)] 78) = W1 := ⟨_, rfl⟩
        rw [hW1] at hbt hR hbm2 ⊢
        obtain ⟨R, hRe⟩ : ∃ R, wk.heap.size = R := ⟨_, rfl⟩
        have Hbt := Lib.hid hbt
        rw [hRe] at hR ⊢
        have r2 : W1.cell? ⟨R, 2, none⟩ = some (.int .i64 (k : Int)) := by rw [cell_row hR]; rfl
        have HRR := Lib.hid hR
        clear hW1 hRe c0 c1 c2 hbm hbt hR
        have d3 : (k : Int).toNat = k := by omega
        obtain ⟨mm, hmm⟩ : ∃ mm, meets st g = mm := ⟨_, rfl⟩
        rw [hmm] at hbm2
        have Hmm := Lib.hid hmm
        clear hmm
        cases mm with
        | false =>
          go_region
          all_goals (go_wp2_with fail)
          go_roundw
          case rel =>
            refine ⟨k + 1, by omega, by go_num, ?_, Hob.out, HB2.out.trans ((Hbt.out.trans ((drew_b W1 1).mono Hbt.out.size)).mono HB2.out.size)⟩
            rw [Hoff.out Hmm.out]
            exact own_keep (Mut := fun _ => False) Ho.out ((Keeps.of_new Hbt.out).trans (Keeps.of_new (drew_b W1 1))) (fun _ _ e => e)
          case measure => simp [intOf]; omega
        | true =>
          have hbz := below_alloc_ W1.drew (.cells #[.int .i64 (k : Int)] 3)
          have hz := heap_alloc_new_ W1.drew (.cells #[.int .i64 (k : Int)] 3)
          have hob2 := own_keep (Mut := fun _ => False) Ho.out (((Keeps.of_new Hbt.out).trans (Keeps.of_new (drew_b W1 1))).trans (Keeps.of_new hbz)) (fun _ _ e => e)
          obtain ⟨v', W3, hrun, hown3, hK3, hv3⟩ := app_one Try.underlying26 info3_ rfl (by omega) (by omega) hob2 (vals := [.int .i64 (k : Int)]) rfl hz (by simp [Value.oneCell']) (by have := Hml.out; have := Hn24.out; omega)
          replace hrun : runA Try.prog 26 u8 (.slice (some ⟨W1.heap.size, 0, none⟩) 1 1) (W1.alloc (.cells #[.int .i64 (k : Int)] 3)).drew = .ok (.value v') W3 := run_app hrun
          have hB3 : Below w2.heap.size w2 W3 := (HB2.out.trans ((Hbt.out.trans (((drew_b W1 1).trans hbz).mono Hbt.out.size)).mono HB2.out.size)).trans (hK3.below (by have := HB2.out.size; have := Hbt.out.size; have := hbz.size; simp at this ⊢; omega) (fun j hj e => by have := Hob.out j e; omega))
          have hv4 : ∀ j, v'.ownBlock = some j → w2.heap.size ≤ j := by
            intro j hj
            rcases hv3 with e | ⟨e, _⟩
            · rw [e] at hj; exact Hob.out j hj
            · rw [e] at hj; cases hj; have := HB2.out.size; have := Hbt.out.size; have := hbz.size; simp at this ⊢; omega
          have HB3 := Lib.hid hB3
          have HV4 := Lib.hid hv4
          have HO3 := Lib.hid hown3
          clear hbz hz hob2 hown3 hK3 hv3 hB3 hv4
          go_region
          all_goals (go_wp2_with fail)
          go_roundw
          case rel =>
            refine ⟨k + 1, by omega, by go_num, ?_, HV4.out, HB3.out⟩
            rw [Hon.out Hmm.out, flatI_snoc, List.length_append]
            exact HO3.out
          case measure => simp [intOf]; omega
      · have e : k = n := by omega
        subst e
        have HB2 := Lib.hid hB2
        obtain ⟨C3, cp3, rfl, hcp3, hi3, hC3⟩ := ints_own rfl ho
        have Hi3 := Lib.hid hi3
        have HC3 := Lib.hid (fun b o (e : C3 = some ⟨b, o, none⟩) => hob b (hC3 b o e).1)
        clear ho hob hB2 hd hi3 hC3 hcp3
        go_wp2_with fail
        refine bodyPost_ret (v := .tuple #[.slice C3 (metL zs st k).length cp3, .int .i64 0]) (by simp [results, Try.results16, go_sem]) rfl ?_
        unfold NamesPost
        rw [Hr.out, H0.out]
        exact ⟨C3, cp3, rfl, Hi3.out, fun b o e => Nat.le_trans Hb.out.size (HC3.out b o e), Hb.out.trans (HB2.out.mono Hb.out.size)⟩
  · have e0 : metR zs st = [] := by unfold metR; rw [if_neg h0]
    obtain ⟨c, hc⟩ : ∃ c, isSc zs st = c := ⟨_, rfl⟩
    rw [hc] at h0 ⊢
    have d0 : (c != 0) = true := by rw [bne_iff_ne]; exact h0
    have Hb := Lib.hid hb
    have He := Lib.hid e0
    have Hc := Lib.hid hc
    clear hb h hs h0 e0 hc
    go_wp2_with fail
    refine bodyPost_ret (v := .tuple #[.slice none 0 0, .int .i64 c]) (by simp [results, Try.results16, go_sem]) rfl ?_
    unfold NamesPost
    rw [He.out, Hc.out]
    exact ⟨none, 0, rfl, ints_nil _, fun b o e => (by cases e), Hb.out⟩
end Go.Proofs.Ytdfdlklglbefiaa
