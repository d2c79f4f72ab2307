/- Stage 3: the document's spans. -/
import Derived.Test.YtdfdlklglbefiaaWth
namespace Go.Proofs.Ytdfdlklglbefiaa
set_option linter.unusedSimpArgs false
set_option linter.unusedVariables false
open Go.RowKit Go.Shelf
attribute [local go_sem ↓] exec_app
attribute [local go_sem] Oper.semAt_some

theorem info2s_ : (Try.prog.info? 2).map (fun i => (i.zero, i.size, i.bytes)) = some (some (.int .i64 0), 1, 8) := by kernel_rfl
theorem missd_take {zs : List Rg} {a b : Int} {k : Nat} (hk : k < zs.length) (h : missd (zs.take k) a b = false) : missd (zs.take (k + 1)) a b = (decide (a < (gAt zs k).lo) && decide ((gAt zs k).hi < b)) := by
  unfold missd at h ⊢
  rw [List.take_succ_eq_append_getElem hk, List.any_append, h, gAt_eq hk]
  simp
theorem missd_on {zs : List Rg} {a b : Int} {k : Nat} (hk : k < zs.length) (h1 : a < (gAt zs k).lo) (h2 : (gAt zs k).hi < b) : missd zs a b = true := by
  rw [gAt_eq hk] at h1 h2
  exact missd_iff.2 ⟨_, List.getElem_mem hk, h1, h2⟩
set_option maxRecDepth 100000 in
set_option maxHeartbeats 8000000 in
theorem missed69 (A : Option Addr) (n cap : Nat) (zs : List Rg) (a b : Int) (w : World) (h : Rgs w A n zs) (hn : n ≤ 1000000) :
    Calls Try.prog 69 #[.slice A n cap, .int .i64 a, .int .i64 b] w fun e w' => e = .returned (.bool (missd zs a b)) ∧ Below w.heap.size w w' := by
  have Hlen := Lib.hid h.1
  go_enter Try.func69, Try.ntmps69
  go_wp2_with fail
  go_loopw [7] (fun i wr => ∃ k : Nat, k ≤ n ∧ i = .int .i64 (k : Int) ∧ missd (zs.take k) a b = false ∧ Below w.heap.size w wr) (fun i _ => n - (intOf i).toNat)
  case atStart => exact ⟨0, Nat.zero_le _, rfl, rfl, Below.refl _ _⟩
  case round =>
    obtain ⟨k, hk, rfl, hw, hB⟩ := hrel
    obtain ⟨wk, rfl⟩ : ∃ wk, wk = wr := ⟨_, rfl⟩
    by_cases hlt : k < n
    · obtain ⟨hl, hc⟩ := h.below hB (Nat.le_refl _)
      obtain ⟨bb, o, rfl, hc2⟩ := hc (by omega)
      obtain ⟨c0, c1⟩ := hc2 k hlt
      have Hs := Lib.hid (missd_take (zs := zs) (a := a) (b := b) (by omega) hw)
      have Hf := Lib.hid (fun h1 h2 => missd_on (zs := zs) (a := a) (b := b) (k := k) (by omega) h1 h2)
      obtain ⟨g, hg⟩ : ∃ g, gAt zs k = g := ⟨_, rfl⟩
      rw [hg] at c0 c1 Hs Hf
      obtain ⟨lo, hi⟩ := g
      dsimp only at c0 c1 Hs Hf
      have i0 : (0 : Int) ≤ (k : Int) := by omega
      have i1 : (k : Int) < (n : Int) := by omega
      have HB := Lib.hid hB
      clear hc hc2 hw hl hg hB h
      by_cases x1 : a < lo
      · by_cases x2 : hi < b
        · have HR := Lib.hid (Hf.out x1 x2)
          go_wp2_with fail
          go_ret
          exact ⟨by rw [HR.out]; rfl, HB.out⟩
        · have HR := Lib.hid (show missd (zs.take (k + 1)) a b = false by rw [Hs.out, decide_eq_false x2, Bool.and_false])
          go_wp2_with fail
          go_roundw
          case rel => exact ⟨k + 1, by omega, by go_num, HR.out, HB.out⟩
          case measure => simp [intOf]; omega
      · have HR := Lib.hid (show missd (zs.take (k + 1)) a b = false by rw [Hs.out, decide_eq_false x1, Bool.false_and])
        go_wp2_with fail
        go_roundw
        case rel => exact ⟨k + 1, by omega, by go_num, HR.out, HB.out⟩
        case measure => simp [intOf]; omega
    · have HR := Lib.hid (show missd zs a b = false by rw [← List.take_of_length_le (l := zs) (i := k) (by have := Hlen.out; omega)]; exact hw)
      have HB := Lib.hid hB
      clear hw hB
      go_wp2_with fail
      go_ret
      exact ⟨by rw [HR.out]; rfl, HB.out⟩
theorem tk_succ {x : List Int} {k : Nat} (h : k < x.length) : x.take (k + 1) = x.take k ++ [iAt x k] := by
  rw [List.take_succ_eq_append_getElem h, iAt_eq h]
theorem his_at {gs : List Rg} {k : Nat} (h : k < gs.length) : iAt (gs.map (·.hi)) k = (gs[k]).hi := by rw [iAt_eq (by simpa using h), List.getElem_map]
set_option maxRecDepth 100000 in
set_option maxHeartbeats 8000000 in
theorem tops51 (A : Option Addr) (n cap : Nat) (zs : List Rg) (w : World) (h : Rgs w A n zs) (hz : chkS zs = 0) :
    Calls Try.prog 51 #[.slice A n cap] w fun e w' => ∃ x D cp, IsUp zs x ∧ e = .returned (.slice D x.length cp) ∧ Ints w' D x.length x ∧ x.length ≤ cp ∧ Below w.heap.size w w' := by
  have Hlen := Lib.hid h.1
  have H := Lib.hid h
  have HZ := Lib.hid hz
  have hl24 := len_of hz
  rw [h.1] at hl24
  obtain ⟨gs, hG⟩ := exG (ok_of hz)
  have HG := Lib.hid hG
  clear h hz hG
  go_enter Try.func51, Try.ntmps51
  go_wp2_with fail
  refine (below50 A n cap zs gs w H.out (by omega) (ok_of HZ.out) HG.out).mono ?_
  rintro en w1 ⟨D, rfl, hi, hD, hb⟩
  have S := Lib.hid (H.out.below hb (Nat.le_refl _))
  have B1 := Lib.hid hb
  have L := Lib.hid hi
  obtain ⟨x, hx⟩ : ∃ x, gs.map (·.hi) = x := ⟨_, rfl⟩
  have HX := Lib.hid hx
  obtain ⟨m, hm⟩ : ∃ m, gs.length = m := ⟨_, rfl⟩
  have HM := Lib.hid hm
  have HL := Lib.hid (show x.length = m by rw [← hx, List.length_map, hm])
  have hm24 : m ≤ 24 := by have := isG_len HG.out (ok_of HZ.out); have := Hlen.out; omega
  clear hi hD hb hx hm
  go_wp2_with fail
  go_loopw [4, 5, 6, 7] (fun v q t i wr => ∃ k : Nat, k ≤ m ∧ q = .int .i64 ((k : Int) + 1) ∧ wr.ownsRow 0 2 1 v k (flatI (x.take k)) ∧ (∀ j, v.ownBlock = some j → w1.heap.size ≤ j) ∧ Below w1.heap.size w1 wr) (fun v q t i _ => m + 1 - (intOf q).toNat)
  case atStart => exact ⟨0, Nat.zero_le _, rfl, own_nil _ _ _, fun j e => (by cases e), Below.refl _ _⟩
  case round =>
    obtain ⟨k, hk, rfl, ho, hob, hB⟩ := hrel
    obtain ⟨wk, rfl⟩ : ∃ wk, wk = wr := ⟨_, rfl⟩
    have Ho := Lib.hid ho
    have Hob := Lib.hid hob
    have HB := Lib.hid hB
    clear ho hob hB
    go_wp2_with fail
    refine (short27 A n cap zs wk (S.out.below HB.out (Nat.le_refl _)) (by omega) (by omega) (ok_of HZ.out)).mono ?_
    rintro en w2 ⟨a, ha, -, rfl, hb⟩
    obtain rfl : a = m := by have := lenU_eq (ok_of HZ.out) ha ⟨gs, HG.out, rfl⟩; have := HM.out; omega
    have Ho2 := Lib.hid (own_keep Ho.out (Keeps.of_new (Mut := fun _ => False) hb) (fun _ _ e => e))
    have HB2 := Lib.hid (HB.out.trans (hb.mono HB.out.size))
    clear ha hb HB Ho
    by_cases hlt : k < a
    · have i5 : (k : Int) + 1 ≤ (a : Int) := by omega
      have i6 : (k : Int) ≤ 24 := by omega
      go_wp2_with fail
      go_loopw [6, 7] (fun t i wr => ∃ j : Nat, j ≤ n ∧ i = .int .i64 (j : Int) ∧ (∃ T : Int, t = .int .i64 T ∧ Hid (T = tpV zs gs ((k : Int) + 1) j)) ∧ Below w2.heap.size w2 wr) (fun t i _ => n - (intOf i).toNat)
      case atStart => exact ⟨0, Nat.zero_le _, rfl, ⟨_, rfl, Lib.hid rfl⟩, Below.refl _ _⟩
      case round =>
        obtain ⟨j, hj, rfl, ⟨T, rfl, HT⟩, hBj⟩ := hrel
        obtain ⟨wj, rfl⟩ : ∃ wj, wj = wr := ⟨_, rfl⟩
        by_cases hjl : j < n
        · have hb3 := HB2.out.trans (hBj.mono HB2.out.size)
          obtain ⟨b1, o1, rfl, hc1⟩ := (S.out.below hb3 (Nat.le_refl _)).2 (by omega)
          obtain ⟨b2, o2, he2, hc2⟩ := (L.out.below hb3 (Nat.le_refl _)).2 (by omega)
          cases he2
          have c1 := (hc1 j hjl).2
          have c2 := hc2 j hjl
          rw [Nat.zero_add] at c2
          have hbl : iAt (blwL zs gs) j = blw zs gs j := by
            rw [iAt_eq (by simp [blwL]; have := Hlen.out; omega)]
            simp [blwL]
          rw [hbl] at c2
          have Hst := Lib.hid (show tpV zs gs ((k : Int) + 1) (j + 1) = if (k : Int) + 1 ≤ blw zs gs j then min (tpV zs gs ((k : Int) + 1) j) (gAt zs j).hi else tpV zs gs ((k : Int) + 1) j from rfl)
          rw [← HT.out] at Hst
          obtain ⟨u, hu⟩ : ∃ u, blw zs gs j = u := ⟨_, rfl⟩
          obtain ⟨y, hy⟩ : ∃ y, (gAt zs j).hi = y := ⟨_, rfl⟩
          rw [hu] at c2 Hst
          rw [hy] at c1 Hst
          have HBj := Lib.hid hBj
          have j0 : (0 : Int) ≤ (j : Int) := by omega
          have j1 : (j : Int) < (n : Int) := by omega
          clear hc1 hc2 hbl hu hy hBj hb3 HT
          by_cases hge : (k : Int) + 1 ≤ u
          · have HT2 := Lib.hid (show min T y = tpV zs gs ((k : Int) + 1) (j + 1) by rw [Hst.out, if_pos hge])
            go_wp2_with fail
            go_roundw
            case rel => exact ⟨j + 1, by omega, by go_num, ⟨_, rfl, HT2⟩, HBj.out⟩
            case measure => simp [intOf]; omega
          · have HT2 := Lib.hid (show T = tpV zs gs ((k : Int) + 1) (j + 1) by rw [Hst.out, if_neg hge])
            go_wp2_with fail
            go_roundw
            case rel => exact ⟨j + 1, by omega, by go_num, ⟨_, rfl, HT2⟩, HBj.out⟩
            case measure => simp [intOf]; omega
        · obtain rfl : j = n := by omega
          have hgl : k < gs.length := by have := HM.out; omega
          have HT3 := Lib.hid (show T = iAt x k by rw [HT.out, ← Hlen.out, tpV_eq HZ.out HG.out hgl, ← HX.out, his_at hgl])
          have HBj := Lib.hid hBj
          have Hx := Lib.hid (tk_succ (x := x) (k := k) (by have := HL.out; omega))
          rw [← HT3.out] at Hx
          clear hBj hgl HT HT3
          go_wp2_with fail
          have hbz := below_alloc_ wj (.cells #[.int .i64 T] 2)
          have hzz := heap_alloc_new_ wj (.cells #[.int .i64 T] 2)
          have ho3 := own_keep (Mut := fun _ => False) Ho2.out (Keeps.of_new (HBj.out.trans (hbz.mono HBj.out.size))) (fun _ _ e => e)
          obtain ⟨v', W3, hrun, hown3, hK3, hv3⟩ := app_one (n := k) Try.underlying23 info2s_ rfl (by omega) (by omega) ho3 (vals := [.int .i64 T]) rfl hzz (by simp [Value.oneCell']) (by omega)
          have hB2 := HB2.out.trans ((HBj.out.trans (hbz.mono HBj.out.size)).mono HB2.out.size)
          have hB3 : Below w1.heap.size w1 W3 := hB2.trans (hK3.below hB2.size (fun j hj e => by have := Hob.out j e; omega))
          have hv4 : ∀ j, v'.ownBlock = some j → w1.heap.size ≤ j := by
            intro j hj
            rcases hv3 with e | ⟨e, _⟩
            · rw [e] at hj; exact Hob.out j hj
            · rw [e] at hj; cases hj; exact hB2.size
          have hrun := run_app hrun
          have HB3 := Lib.hid hB3
          have HV4 := Lib.hid hv4
          have HO3 := Lib.hid hown3
          clear hbz hzz ho3 hown3 hK3 hv3 hB3 hv4 hB2
          rw [hrun]
          go_wp2_with fail
          go_roundw
          case rel => exact ⟨k + 1, by omega, by go_num, by rw [Hx.out, flatI_snoc]; exact HO3.out, HV4.out, HB3.out⟩
          case measure => simp [intOf]; omega
    · obtain rfl : k = a := by omega
      have i5 : ¬ (k : Int) + 1 ≤ (k : Int) := by omega
      have htk : x.take k = x := List.take_of_length_le (by have := HL.out; omega)
      have ho := Ho2.out
      rw [htk] at ho
      obtain ⟨Ca, ca, rfl, hca, hia, -⟩ := ints_own HL.out ho
      have HI := Lib.hid hia
      have HC := Lib.hid hca
      clear ho htk hia hca
      go_wp2_with fail
      go_ret
      exact ⟨x, Ca, ca, ⟨gs, HG.out, HX.out.symm⟩, by rw [HL.out]; rfl, by rw [HL.out]; exact HI.out, by rw [HL.out]; exact HC.out, B1.out.trans (HB2.out.mono B1.out.size)⟩
/-- The ranges turned round, the first k of them. -/
def trL (zs : List Rg) (k : Nat) : List Rg := (List.range k).map fun j => trnR (gAt zs j)
theorem trL_succ (zs : List Rg) (k : Nat) : trL zs (k + 1) = trL zs k ++ [trnR (gAt zs k)] := by simp [trL, List.range_succ]
theorem trL_all (zs : List Rg) : trL zs zs.length = zs.map trnR := by
  refine List.ext_getElem (by simp [trL]) fun i h1 h2 => ?_
  simp only [List.length_map] at h2
  simp [trL, gAt_eq h2]
set_option maxRecDepth 100000 in
set_option maxHeartbeats 8000000 in
theorem turned52 (A : Option Addr) (n cap : Nat) (zs : List Rg) (w : World) (h : Rgs w A n zs) (hz : chkS zs = 0) :
    Calls Try.prog 52 #[.slice A n cap] w fun e w' => ∃ D cp, e = .returned (.slice D n cp) ∧ Rgs w' D n (zs.map trnR) ∧ Below w.heap.size w w' := by
  have Hlen := Lib.hid h.1
  have H := Lib.hid h
  have HZ := Lib.hid hz
  have hl24 := len_of hz
  rw [h.1] at hl24
  clear h hz
  go_enter Try.func52, Try.ntmps52
  go_wp2_with fail
  go_loopw [3, 4] (fun v i wr => ∃ k : Nat, k ≤ n ∧ i = .int .i64 (k : Int) ∧ wr.ownsRow 0 56 2 v k (flatR (trL zs k)) ∧ (∀ j, v.ownBlock = some j → w.heap.size ≤ j) ∧ Below w.heap.size w wr) (fun v i _ => n - (intOf i).toNat)
  case atStart => exact ⟨0, Nat.zero_le _, rfl, own_nil _ _ _, fun j e => (by cases e), Below.refl _ _⟩
  case round =>
    obtain ⟨k, hk, rfl, ho, hob, hB2⟩ := hrel
    obtain ⟨wk, rfl⟩ : ∃ wk, wk = wr := ⟨_, rfl⟩
    by_cases hlt : k < n
    · obtain ⟨b1, o1, rfl, hc1⟩ := (H.out.below hB2 (Nat.le_refl _)).2 (by omega)
      obtain ⟨x0, y0⟩ := hc1 k hlt
      have Hpt := Lib.hid (trL_succ zs k)
      have Hok := Lib.hid (okR HZ.out _ (show gAt zs k ∈ zs by rw [gAt_eq (by rw [Hlen.out]; exact hlt)]; exact List.getElem_mem _))
      obtain ⟨g, hg⟩ : ∃ g, gAt zs k = g := ⟨_, rfl⟩
      rw [hg] at x0 y0 Hpt Hok
      obtain ⟨lo, hi⟩ := g
      dsimp only at x0 y0
      obtain ⟨b1', b2', b3'⟩ : 0 ≤ lo ∧ lo ≤ hi ∧ hi ≤ 10000 := Hok.out
      have i0 : (0 : Int) ≤ (k : Int) := by omega
      have i1 : (k : Int) < (n : Int) := by omega
      have i2 : (k : Int) < 24 := by omega
      have d3 : (k : Int).toNat = k := by omega
      have Ho := Lib.hid ho
      have Hob := Lib.hid hob
      have HB2 := Lib.hid hB2
      clear ho hob hB2 hg hc1
      go_wp2_with fail
      have hbz := below_alloc_ wk.drew (.cells #[.int .i64 (10000 - hi), .int .i64 (10000 - lo)] 56)
      have hz := heap_alloc_new_ wk.drew (.cells #[.int .i64 (10000 - hi), .int .i64 (10000 - lo)] 56)
      have hob2 : (wk.drew.alloc (.cells #[.int .i64 (10000 - hi), .int .i64 (10000 - lo)] 56)).ownsRow 0 56 2 u3 k (flatR (trL zs k)) := own_keep (Mut := fun _ => False) Ho.out ((Keeps.of_new (drew_b wk 1)).trans (Keeps.of_new hbz)) (fun _ _ e => e)
      obtain ⟨v', W3, hrun, hown3, hK3, hv3⟩ := app_one (n := k) Try.underlying22 info56_ rfl (by omega) (by omega) hob2 (vals := [.int .i64 (10000 - hi), .int .i64 (10000 - lo)]) rfl hz (by simp [Value.oneCell']) (by omega)
      have hB3 : Below w.heap.size w W3 := (HB2.out.trans (((drew_b wk 1).trans hbz).mono HB2.out.size)).trans (hK3.below (by have := HB2.out.size; have := hbz.size; exact Nat.le_trans HB2.out.size hbz.size) (fun j hj e => by have := Hob.out j e; omega))
      have hv4 : ∀ j, v'.ownBlock = some j → w.heap.size ≤ j := by
        intro j hj
        rcases hv3 with e | ⟨e, _⟩
        · rw [e] at hj; exact Hob.out j hj
        · rw [e] at hj; cases hj; have := HB2.out.size; have := hbz.size; exact Nat.le_trans HB2.out.size hbz.size
      replace hrun : runA Try.prog 22 u3 (.slice (some ⟨wk.heap.size, 0, none⟩) 1 1) (wk.alloc (.cells #[.int .i64 (10000 - hi), .int .i64 (10000 - lo)] 56)).drew = .ok (.value v') W3 := run_app hrun
      have HB3 := Lib.hid hB3
      have HV4 := Lib.hid hv4
      have HO3 := Lib.hid hown3
      clear hbz hz hob2 hown3 hK3 hv3 hB3 hv4
      go_region
      all_goals (go_wp2_with fail)
      go_roundw
      case rel =>
        refine ⟨k + 1, by omega, by go_num, ?_, HV4.out, HB3.out⟩
        rw [Hpt.out, flatR_snoc]
        exact HO3.out
      case measure => simp [intOf]; omega
    · obtain rfl : k = n := by omega
      obtain ⟨C5, cp5, rfl, hcp5, hi5, -⟩ := rgs_own (l := trL zs k) (by simp [trL]) ho
      have e5 := trL_all zs
      rw [Hlen.out] at e5
      rw [e5] at hi5
      have Hi5 := Lib.hid hi5
      have HB2 := Lib.hid hB2
      clear ho hob hB2 hi5 hcp5 e5
      go_wp2_with fail
      go_ret
      exact ⟨C5, cp5, rfl, Hi5.out, HB2.out⟩
/-- What the document's Spans hands back. -/
def SpPost2 (zs : List Rg) (w : World) (en : Ending) (w' : World) : Prop :=
  Below w.heap.size w w' ∧ ((chkS zs = 0 ∧ ∃ x y D cp, IsDn zs x ∧ IsUp zs y ∧ en = .returned (.tuple #[.slice D y.length cp, .int .i64 0]) ∧ Rgs w' D y.length (spnL x y y.length)) ∨ (chkS zs ≠ 0 ∧ en = .returned (.tuple #[.slice none 0 0, .int .i64 (chkS zs)])))
theorem trn_at {l : List Int} {m k : Nat} (hl : l.length = m) (hk : k < m) : iAt (trnS l) k = 10000 - iAt l (m - 1 - k) := by
  rw [iAt_eq (by simp [trnS]; omega), iAt_eq (by omega)]
  simp only [trnS, List.getElem_reverse, List.getElem_map, List.length_map, hl]
theorem trnR_trnR (zs : List Rg) : (zs.map trnR).map trnR = zs := by
  rw [List.map_map]; conv => rhs; rw [← List.map_id zs]
  exact List.map_congr_left fun r _ => by cases r; simp only [trnR, Function.comp, id, Rg.mk.injEq]; omega
set_option maxRecDepth 100000 in
set_option maxHeartbeats 8000000 in
theorem refSpans29 (A : Option Addr) (n cap : Nat) (zs : List Rg) (w : World) (h : Rgs w A n zs) (hn : n ≤ 9223372036854775807) :
    Calls Try.prog 29 #[.slice A n cap] w (SpPost2 zs w) := by
  have Hlen := Lib.hid h.1
  have H := Lib.hid h
  clear h
  by_cases hz : chkS zs = 0
  rotate_left
  · obtain ⟨c, hc⟩ : ∃ c, chkS zs = c := ⟨_, rfl⟩
    rw [hc] at hz
    have Hc := Lib.hid hc
    have H0 := Lib.hid hz
    have d0 : (c != 0) = true := by rw [bne_iff_ne]; exact hz
    clear hc hz
    go_enter Try.func29, Try.ntmps29
    go_wp2_with fail
    have hc := refSong19 A n cap zs w H.out hn
    rw [Hc.out] at hc
    refine hc.mono ?_
    rintro en w1 ⟨rfl, hb⟩
    have HA := Lib.hid (H.out.below hb (Nat.le_refl _))
    have B := Lib.hid hb
    clear hc hb
    go_wp2_with fail
    have hc := refSong19 A n cap zs w1 HA.out hn
    rw [Hc.out] at hc
    refine hc.mono ?_
    rintro en w2 ⟨rfl, hb⟩
    replace B := Lib.hid (B.out.trans (hb.mono B.out.size))
    clear hc hb
    go_wp2_with fail
    refine bodyPost_ret (v := .tuple #[.slice none 0 0, .int .i64 c]) (by simp [results, Try.results29, go_sem]) rfl ?_
    exact ⟨B.out, .inr ⟨by rw [Hc.out]; exact H0.out, by rw [Hc.out]⟩⟩
  have HZ := Lib.hid hz
  have hl24 := len_of hz
  rw [Hlen.out] at hl24
  clear hz
  go_enter Try.func29, Try.ntmps29
  go_wp2_with fail
  have hc := refSong19 A n cap zs w H.out hn
  rw [HZ.out] at hc
  refine hc.mono ?_
  rintro en w1 ⟨rfl, hb⟩
  have S := Lib.hid (H.out.below hb (Nat.le_refl _))
  have B := Lib.hid hb
  clear hc hb H
  go_wp2_with fail
  refine (tops51 A n cap zs w1 S.out HZ.out).mono ?_
  rintro en w2 ⟨y, Dy, cpy, hy, rfl, hiy, -, hb⟩
  replace S := Lib.hid (S.out.below hb (Nat.le_refl _))
  replace B := Lib.hid (B.out.trans (hb.mono B.out.size))
  have HY := Lib.hid hy
  obtain ⟨m, hm⟩ : ∃ m, y.length = m := ⟨_, rfl⟩
  rw [hm] at hiy ⊢
  have HM := Lib.hid hm
  have Y := Lib.hid hiy
  clear hb hy hm hiy
  go_wp2_with fail
  refine (turned52 A n cap zs w2 S.out HZ.out).mono ?_
  rintro en w3 ⟨Dt, cpt, rfl, hrt, hb⟩
  replace B := Lib.hid (B.out.trans (hb.mono B.out.size))
  replace Y := Lib.hid (Y.out.below hb (Nat.le_refl _))
  have Tt := Lib.hid hrt
  clear hb hrt
  go_wp2_with fail
  refine (tops51 Dt n cpt (zs.map trnR) w3 Tt.out (chkS_trn HZ.out)).mono ?_
  rintro en w4 ⟨z, Dz, cpz, hz, rfl, hiz, -, hb⟩
  replace B := Lib.hid (B.out.trans (hb.mono B.out.size))
  replace Y := Lib.hid (Y.out.below hb (Nat.le_refl _))
  have hdn : IsDn zs (trnS z) := by have := up_trn hz; rwa [trnR_trnR] at this
  have hzl : z.length = m := by
    have := dn_up_len (ok_of HZ.out) hdn HY.out
    have e : (trnS z).length = z.length := by simp [trnS]
    have := HM.out; omega
  have HZL := Lib.hid hzl
  rw [hzl] at hiz ⊢
  have Z := Lib.hid hiz
  have HDN := Lib.hid hdn
  have hm24 : m ≤ 24 := by have := up_len HZ.out HY.out; have := HM.out; have := Hlen.out; omega
  have Hbd := Lib.hid (show ∀ j, j < m → 0 ≤ iAt z j ∧ iAt z j ≤ 10000 from fun j hj => by
    have hj2 : j < z.length := by have := HZL.out; omega
    obtain ⟨r, hr, e⟩ := up_in hz _ (mem_iAt hj2)
    have := okR (chkS_trn HZ.out) r hr
    omega)
  clear hb hz hdn hzl hiz S Tt
  go_wp2_with fail
  obtain ⟨W0, hW0⟩ : ∃ W0, W0 = w4 := ⟨_, rfl⟩
  go_loopw [6, 7] (fun v i wr => ∃ k : Nat, k ≤ m ∧ i = .int .i64 (k : Int) ∧ wr.ownsRow 0 56 2 v k (flatR (spnL (trnS z) y k)) ∧ (∀ j, v.ownBlock = some j → w4.heap.size ≤ j) ∧ Below w4.heap.size w4 wr) (fun v i _ => m - (intOf i).toNat)
  case atStart => exact ⟨0, Nat.zero_le _, rfl, own_nil _ _ _, fun j e => (by cases e), Below.refl _ _⟩
  case round =>
    obtain ⟨k, hk, rfl, ho, hob, hB2⟩ := hrel
    obtain ⟨wk, rfl⟩ : ∃ wk, wk = wr := ⟨_, rfl⟩
    by_cases hlt : k < m
    · obtain ⟨b1, o1, rfl, hc1⟩ := (Z.out.below hB2 (Nat.le_refl _)).2 (by omega)
      obtain ⟨b2, o2, rfl, hc2⟩ := (Y.out.below hB2 (Nat.le_refl _)).2 (by omega)
      have x0 := hc1 (m - 1 - k) (by omega)
      have y0 := hc2 k hlt
      have Hpt := Lib.hid (spnL_succ (trnS z) y k)
      rw [trn_at HZL.out hlt] at Hpt
      obtain ⟨c1, c2⟩ := Hbd.out (m - 1 - k) (by omega)
      obtain ⟨t, ht⟩ : ∃ t, iAt z (m - 1 - k) = t := ⟨_, rfl⟩
      obtain ⟨u, hu⟩ : ∃ u, iAt y k = u := ⟨_, rfl⟩
      rw [ht] at x0 Hpt c1 c2
      rw [hu] at y0 Hpt
      have i0 : (0 : Int) ≤ (k : Int) := by omega
      have i1 : (k : Int) < (m : Int) := by omega
      have i2 : (k : Int) < 24 := by omega
      have d3 : (k : Int).toNat = k := by omega
      have d4 : ((m : Int) - 1 - (k : Int)).toNat = m - 1 - k := by omega
      have i3 : (0 : Int) ≤ (m : Int) - 1 - (k : Int) := by omega
      have i4 : (m : Int) - 1 - (k : Int) < (m : Int) := by omega
      have Ho := Lib.hid ho
      have Hob := Lib.hid hob
      have HB2 := Lib.hid hB2
      clear ho hob hB2 ht hu hc1 hc2
      go_wp2_with fail
      have hbz := below_alloc_ wk.drew (.cells #[.int .i64 (10000 - t), .int .i64 u] 56)
      have hz := heap_alloc_new_ wk.drew (.cells #[.int .i64 (10000 - t), .int .i64 u] 56)
      have hob2 : (wk.drew.alloc (.cells #[.int .i64 (10000 - t), .int .i64 u] 56)).ownsRow 0 56 2 u6 k (flatR (spnL (trnS z) y k)) := own_keep (Mut := fun _ => False) Ho.out ((Keeps.of_new (drew_b wk 1)).trans (Keeps.of_new hbz)) (fun _ _ e => e)
      obtain ⟨v', W3, hrun, hown3, hK3, hv3⟩ := app_one (n := k) Try.underlying22 info56_ rfl (by omega) (by omega) hob2 (vals := [.int .i64 (10000 - t), .int .i64 u]) rfl hz (by simp [Value.oneCell']) (by omega)
      have hB3 : Below w4.heap.size w4 W3 := (HB2.out.trans (((drew_b wk 1).trans hbz).mono HB2.out.size)).trans (hK3.below (Nat.le_trans HB2.out.size hbz.size) (fun j hj e => by have := Hob.out j e; omega))
      have hv4 : ∀ j, v'.ownBlock = some j → w4.heap.size ≤ j := by
        intro j hj
        rcases hv3 with e | ⟨e, _⟩
        · rw [e] at hj; exact Hob.out j hj
        · rw [e] at hj; cases hj; exact Nat.le_trans HB2.out.size hbz.size
      replace hrun : runA Try.prog 22 u6 (.slice (some ⟨wk.heap.size, 0, none⟩) 1 1) (wk.alloc (.cells #[.int .i64 (10000 - t), .int .i64 u] 56)).drew = .ok (.value v') W3 := run_app hrun
      have HB3 := Lib.hid hB3
      have HV4 := Lib.hid hv4
      have HO3 := Lib.hid hown3
      clear hbz hz hob2 hown3 hK3 hv3 hB3 hv4
      go_region
      all_goals (go_wp2_with fail)
      go_roundw
      case rel =>
        refine ⟨k + 1, by omega, by go_num, ?_, HV4.out, HB3.out⟩
        rw [Hpt.out, flatR_snoc]
        exact HO3.out
      case measure => simp [intOf]; omega
    · obtain rfl : k = m := by omega
      obtain ⟨C5, cp5, rfl, hcp5, hi5, -⟩ := rgs_own (spnL_len (trnS z) y k) ho
      have Hi5 := Lib.hid hi5
      have HB2 := Lib.hid hB2
      clear ho hob hB2 hi5 hcp5
      go_wp2_with fail
      refine bodyPost_ret (v := .tuple #[.slice C5 k cp5, .int .i64 0]) (by simp [results, Try.results29, go_sem]) rfl ?_
      exact ⟨B.out.trans (HB2.out.mono B.out.size), .inl ⟨HZ.out, trnS z, y, C5, cp5, HDN.out, HY.out, by rw [HM.out], by rw [HM.out]; exact Hi5.out⟩⟩
end Go.Proofs.Ytdfdlklglbefiaa
