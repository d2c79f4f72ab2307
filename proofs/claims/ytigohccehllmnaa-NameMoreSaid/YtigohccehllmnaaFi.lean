/- Stage 6: a flow is filled. -/
import Derived.Test.YtigohccehllmnaaTh
import Derived.Deep.LoopGhost
namespace Go.Proofs.Ytigohccehllmnaa
set_option linter.unusedSimpArgs false
set_option linter.unusedVariables false
open Go.RowKit Go.Shelf

/-- The least room of the first ways. -/
def mnR (zs : List Nl) (f : Nat → Int) (ws : List Wy) : Nat → Int
  | 0 => roomW zs f (wAt ws 0)
  | k + 1 => min (mnR zs f ws k) (roomW zs f (wAt ws k))
theorem mnR_le {zs : List Nl} {f : Nat → Int} {ws : List Wy} : ∀ {n k : Nat}, k < n → mnR zs f ws n ≤ roomW zs f (wAt ws k)
  | 0, k, h => by omega
  | n + 1, k, h => by
    simp only [mnR]
    rcases Nat.lt_or_ge k n with h2 | h2
    · exact Int.le_trans (Int.min_le_left _ _) (mnR_le h2)
    · obtain rfl : k = n := by omega
      exact Int.min_le_right _ _
theorem mnR_pos {zs : List Nl} {f : Nat → Int} {ws : List Wy} {L : Int} (hp : 0 < ws.length) (h : ∀ x ∈ ws, L ≤ roomW zs f x) : ∀ n, n ≤ ws.length → L ≤ mnR zs f ws n
  | 0, _ => h _ (by rw [wAt_eq hp]; exact List.getElem_mem _)
  | n + 1, hn => by
    simp only [mnR]
    have h1 := mnR_pos hp h n (by omega)
    have h2 := h (wAt ws n) (by rw [wAt_eq (by omega)]; exact List.getElem_mem _)
    omega
theorem room_le {zs : List Nl} {f : Nat → Int} (hf : FitF zs f) {w : Wy} (hw : isWay zs w) : roomW zs f w ≤ 2 * (lAt zs w.link).tr ∧ 0 ≤ roomW zs f w := by
  have := hf w.link hw.1
  unfold roomW
  split <;> omega
theorem sendAll_snoc (zs : List Nl) (f : Nat → Int) {ws : List Wy} {k : Nat} (hk : k < ws.length) (t : Int) : sendAll zs f (ws.take (k + 1)) t = sendF zs (sendAll zs f (ws.take k) t) (wAt ws k) t := by
  unfold sendAll
  rw [List.take_succ_eq_append_getElem hk, List.foldl_append, wAt_eq hk]
  rfl
theorem small_fit {b : BD} (hok : BdOk b) {f : Nat → Int} (hf : FitF b.zs f) : Small b f := fun k hk => by
  have h1 := hf k (by rw [hok.zl]; exact hk)
  have h2 := hok.ok k hk
  omega
/-- What ways through say. -/
def ThrOk (b : BD) (f : Nat → Int) (w : World) (W : World) (sv : Value) : Prop :=
  ∃ g cp ws a en, sv = .slice (some ⟨g, 0, none⟩) ws.length cp ∧ RowW W g ws ∧ ws.length ≤ cp ∧ g ≠ b.F ∧ w.heap.size ≤ g ∧ a ∈ b.l.ls ∧ en ∈ b.l.rs ∧ IsPath a ws en ∧ (∀ x ∈ ws, isWay b.zs x ∧ opF b.zs f x = true) ∧ (ws.map (·.to)).Nodup ∧ a ∉ ws.map (·.to) ∧ 0 < ws.length ∧ ws.length ≤ 40
/-- A flow that is filled. -/
def Filled (b : BD) (f : Nat → Int) : Prop := FlowOk b.l.N.toNat b.zs b.l.ls b.l.rs f ∧ ∃ S, ClosedS b.zs (opF b.zs f) S ∧ IsSd b.l.ls b.l.rs S
section
attribute [local go_sem ↓] exec_app at_app
attribute [local go_sem] Oper.semAt_some
set_option maxRecDepth 100000 in
set_option maxHeartbeats 16000000 in
theorem fill79 (b : BD) (f : Nat → Int) (w : World) (h : Bd w b f) (hok : BdOk b) (hf : FlowOk b.l.N.toNat b.zs b.l.ls b.l.rs f) :
    Calls Try.prog 79 #[.pointer (some ⟨b.B, 0, none⟩)] w fun e w' => e = .returned (.tuple #[]) ∧ (∃ f', Bd w' b f' ∧ Filled b f') ∧ Keeps (fun k => k = b.F) w w' := by
  have HD := Lib.hid h
  have Hok := Lib.hid hok
  have Hf := Lib.hid hf
  have hFw : b.F < w.heap.size := by obtain ⟨X, hX, -⟩ := h.row; exact lt_of_block hX
  have k0 := through50 b f w h hok (small_fit hok hf.fit)
  clear h hok hf
  go_enter Try.func79, Try.ntmps79
  go_wp2_with fail
  refine k0.mono ?_
  rintro e0 w1 ⟨hr, hb1⟩
  have HG0 := Lib.hid (show ∃ (G0 : Nat), ∃ f', (G0 : Int) + greatF b.zs f' b.l.ls = 130000000 ∧ Bd w1 b f' ∧ FlowOk b.l.N.toNat b.zs b.l.ls b.l.rs f' ∧ Keeps (fun k => k = b.F) w w1 ∧ ∃ (sv : Value) (ok : Bool), e0 = .returned (.tuple #[sv, .bool ok]) ∧ (ok = true → ThrOk b f' w w1 sv) ∧ (ok = false → Filled b f') from by
    have hgl := great_le Hok.out.okl Hf.out.fit (L := b.l.ls)
    have hzl := Hok.out.zl
    have hn := Hok.out.n
    refine ⟨(130000000 - greatF b.zs f b.l.ls).toNat, f, by rw [hzl] at hgl; omega, HD.out.below hb1 (Nat.le_refl _), Hf.out, Keeps.of_new hb1, ?_⟩
    rcases hr with ⟨g, cp, ws, a, en, rfl, h1, h2, h3, h4⟩ | ⟨rfl, hS⟩
    · exact ⟨_, true, rfl, fun _ => ⟨g, cp, ws, a, en, rfl, h1, h2, by omega, h3, h4⟩, fun e => by cases e⟩
    · exact ⟨_, false, rfl, (fun e => by cases e), fun _ => ⟨Hf.out, hS⟩⟩)
  clear hr hb1 k0
  obtain ⟨G0, f0, hG0, hD0, hF0, hK0, sv0, ok0, rfl, ht0, hc0⟩ := HG0.out
  have HS := Lib.hid (show ∃ f', ((G0 : Nat) : Int) + greatF b.zs f' b.l.ls = 130000000 ∧ Bd w1 b f' ∧ FlowOk b.l.N.toNat b.zs b.l.ls b.l.rs f' ∧ Keeps (fun k => k = b.F) w w1 ∧ (ok0 = true → ThrOk b f' w w1 sv0) ∧ (ok0 = false → Filled b f') from ⟨f0, hG0, hD0, hF0, hK0, ht0, hc0⟩)
  clear HG0 hG0 hD0 hF0 hK0 ht0 hc0
  go_wp2_with fail
  go_loopg [2, 3, 4, 6, 8] G0 (fun g sv ov a6 a8 a9 wr => ∃ (g0 : Nat), g = g0 ∧ ∃ (sv0 : Value) (ok0 : Bool), sv = sv0 ∧ ov = .bool ok0 ∧ Hid (∃ f', ((g0 : Nat) : Int) + greatF b.zs f' b.l.ls = 130000000 ∧ Bd wr b f' ∧ FlowOk b.l.N.toNat b.zs b.l.ls b.l.rs f' ∧ Keeps (fun k => k = b.F) w wr ∧ (ok0 = true → ThrOk b f' w wr sv0) ∧ (ok0 = false → Filled b f')))
  case atStart => exact ⟨_, rfl, _, _, rfl, rfl, HS⟩
  case round =>
    obtain ⟨g0, hgz, sv, ok, hsv, rfl, HR⟩ := hrel
    obtain rfl : g0 = _ := hgz.symm
    obtain rfl : sv = _ := hsv.symm
    obtain ⟨wk, rfl⟩ : ∃ wk, wk = wr := ⟨_, rfl⟩
    obtain ⟨f', hg, hD, hF, hK, ht, hc⟩ := HR.out
    rcases ok with _ | _
    · have HFin := Lib.hid (show (∃ f', Bd wk b f' ∧ Filled b f') ∧ Keeps (fun k => k = b.F) w wk from ⟨⟨f', hD, hc rfl⟩, hK⟩)
      clear HR hg hD hF hK ht hc
      go_wp2_with fail
      (try simp only [Exit.inBlock, Exit.then])
      refine bodyPost_end (results_none rfl _ _ _) rfl ?_
      exact ⟨rfl, HFin.out⟩
    · obtain ⟨gb, cp, ws, a, en, rfl, hrow, hcp, hgF, hgw, ha, hen, hpath, hway, hnod, hna, hpos, hle⟩ := ht rfl
      obtain ⟨m, hm⟩ : ∃ m, ws.length = m := ⟨_, rfl⟩
      have hw0 : wAt ws 0 ∈ ws := by rw [wAt_eq hpos]; exact List.getElem_mem _
      have hlk : ∀ x ∈ ws, x.link < b.l.n := fun x hx => by have := (hway x hx).1.1; rw [Hok.out.zl] at this; exact this
      have hsm := small_fit Hok.out hF.fit
      obtain ⟨c0, c1, c2⟩ := hrow.cell hpos
      simp only [Nat.zero_mul, Nat.zero_add] at c0 c1 c2
      have kr := room82 b f' (wAt ws 0).link (wAt ws 0).fr (wAt ws 0).to wk hD Hok.out (hlk _ hw0) hsm
      have Hg := Lib.hid hg
      have HD1 := Lib.hid hD
      have HF := Lib.hid hF
      have HK := Lib.hid hK
      have Hrow := Lib.hid hrow
      have Hway := Lib.hid hway
      have Hpath := Lib.hid hpath
      have Hnod := Lib.hid hnod
      have Hna := Lib.hid hna
      have Ha := Lib.hid ha
      have Hen := Lib.hid hen
      have Hlk := Lib.hid hlk
      have Hsm := Lib.hid hsm
      have Hm := Lib.hid hm
      rw [hm] at hcp hpos hle ⊢
      have j0 : (0 : Int) < (m : Int) := by omega
      clear HR hg hD hF hK ht hc hrow hway hpath hnod hna ha hen hlk hsm hm hw0
      go_wp2_with fail
      refine kr.mono ?_
      rintro e1 w2 ⟨rfl, hb2⟩
      have HD2 := Lib.hid (HD1.out.below hb2 (Nat.le_refl _))
      have Hrow2 := Lib.hid (Hrow.out.keep (Keeps.of_new (Mut := fun _ => False) hb2) (fun e => e))
      have HK2 := Lib.hid (HK.out.trans (Keeps.of_new hb2))
      have hs12 := hb2.size
      have hwk := HK.out.size
      have Hww := Lib.hid (show w.heap.size ≤ w2.heap.size by omega)
      clear kr hb2 c0 c1 c2 hs12 hwk
      go_wp2_with fail
      go_loopw [4, 6, 27] (fun am p i wr => ∃ k : Nat, k ≤ m ∧ i = .int .i64 (k : Int) ∧ am = .int .i64 (mnR b.zs f' ws k) ∧ Hid (Below w2.heap.size w2 wr)) (fun am p i _ => m - (intOf i).toNat)
      case atStart => exact ⟨0, Nat.zero_le _, rfl, rfl, Lib.hid (Below.refl _ _)⟩
      case round =>
        obtain ⟨k, hk, rfl, rfl, HB⟩ := hrel
        obtain ⟨wi, rfl⟩ : ∃ wi, wi = wr := ⟨_, rfl⟩
        by_cases hlt : k < m
        · have hki : k < ws.length := by rw [Hm.out]; exact hlt
          have hmem : wAt ws k ∈ ws := by rw [wAt_eq hki]; exact List.getElem_mem _
          have hrw := Hrow2.out.keep (Keeps.of_new (Mut := fun _ => False) HB.out) (fun e => e)
          obtain ⟨c0, c1, c2⟩ := hrw.cell hki
          have hba := below_alloc_ wi (.cells #[.int .i64 ((wAt ws k).link : Int), .int .i64 (wAt ws k).fr, .int .i64 (wAt ws k).to] 79)
          have kr := room82 b f' (wAt ws k).link (wAt ws k).fr (wAt ws k).to (wi.alloc (.cells #[.int .i64 ((wAt ws k).link : Int), .int .i64 (wAt ws k).fr, .int .i64 (wAt ws k).to] 79)) ((HD2.out.below HB.out (Nat.le_refl _)).below hba (Nat.le_refl _)) Hok.out (Hlk.out _ hmem) Hsm.out
          obtain ⟨r, hr⟩ : ∃ r, roomW b.zs f' (wAt ws k) = r := ⟨_, rfl⟩
          obtain ⟨a0, ha0⟩ : ∃ r, mnR b.zs f' ws k = r := ⟨_, rfl⟩
          have Hs := Lib.hid (show mnR b.zs f' ws (k + 1) = min a0 r by simp only [mnR]; rw [hr, ha0])
          rw [show roomW b.zs f' ⟨(wAt ws k).link, (wAt ws k).fr, (wAt ws k).to⟩ = r from hr] at kr
          rw [ha0]
          have HBa := Lib.hid (HB.out.trans (hba.mono HB.out.size))
          have i0 : (0 : Int) ≤ (k : Int) := by omega
          have i1 : (k : Int) < (m : Int) := by omega
          obtain ⟨x, hx⟩ : ∃ x, wAt ws k = x := ⟨_, rfl⟩
          rw [hx] at c0 c1 c2 kr
          have Kr := Lib.hid kr
          have HBa2 := Lib.hid (show Below w2.heap.size w2 (wi.alloc (.cells #[.int .i64 ((x).link : Int), .int .i64 (x).fr, .int .i64 (x).to] 79)) by rw [← hx]; exact HBa.out)
          clear hrw hmem hki hba kr hr ha0 HBa hx
          go_wp2_with fail
          refine Kr.out.mono ?_
          rintro e2 w3 ⟨rfl, hb3⟩
          have HB3 := Lib.hid (HBa2.out.trans (hb3.mono HBa2.out.size))
          clear Kr hb3 c0 c1 c2 HBa2
          rcases Int.lt_or_le r a0 with d1 | d1
          · have Hd := Lib.hid d1
            go_wp2_with fail
            go_roundw
            case rel => exact ⟨k + 1, by omega, by go_num, by rw [Hs.out, Int.min_eq_right (Int.le_of_lt Hd.out)], HB3⟩
            case measure => simp [intOf]; omega
          · have Hd := Lib.hid d1
            go_wp2_with fail
            go_roundw
            case rel => exact ⟨k + 1, by omega, by go_num, by rw [Hs.out, Int.min_eq_left Hd.out], HB3⟩
            case measure => simp [intOf]; omega
        · obtain rfl : k = m := by omega
          obtain ⟨t, ht⟩ : ∃ t, mnR b.zs f' ws k = t := ⟨_, rfl⟩
          have Hpos := Lib.hid hpos
          have Htp := Lib.hid (show 1 ≤ t from by
            rw [← ht]
            exact mnR_pos (by rw [Hm.out]; exact hpos) (fun x hx => by
              have := (Hway.out x hx).2
              unfold opF at this
              have := of_decide_eq_true this
              omega) k (by rw [Hm.out]; exact Nat.le_refl _))
          have Htl := Lib.hid (show ∀ x ∈ ws, t ≤ roomW b.zs f' x from fun x hx => by
            obtain ⟨j, hj, e⟩ := List.getElem_of_mem hx
            rw [← ht, ← e, ← wAt_eq hj]
            exact mnR_le (by rw [← Hm.out]; exact hj))
          have Ht2 := Lib.hid (show t ≤ 2000000 from by
            have h1 := Htl.out (wAt ws 0) (by rw [wAt_eq (by rw [Hm.out]; exact hpos)]; exact List.getElem_mem _)
            have h2 := (room_le HF.out.fit (Hway.out (wAt ws 0) (by rw [wAt_eq (by rw [Hm.out]; exact hpos)]; exact List.getElem_mem _)).1).1
            have h3 := (Hok.out.ok (wAt ws 0).link (Hlk.out _ (by rw [wAt_eq (by rw [Hm.out]; exact hpos)]; exact List.getElem_mem _))).2.2.2.2
            omega)
          have Hlinks := Lib.hid (path_links ws a en (fun x hx => (Hway.out x hx).1) Hpath.out Hnod.out Hna.out)
          rw [ht]
          have HDi := Lib.hid (HD2.out.below HB.out (Nat.le_refl _))
          have Hrowi := Lib.hid (Hrow2.out.keep (Keeps.of_new (Mut := fun _ => False) HB.out) (fun e => e))
          have HKi := Lib.hid (HK2.out.trans ((Keeps.of_new HB.out)))
          have hwi : w.heap.size ≤ wi.heap.size := by have := HB.out.size; have := Hww.out; omega
          clear ht HB hk hlt
          go_wp2_with fail
          go_loopw [8, 39] (fun p i wr => ∃ q : Nat, q ≤ k ∧ i = .int .i64 (q : Int) ∧ Hid (Bd wr b (sendAll b.zs f' (ws.take q) t) ∧ Keeps (fun j => j = b.F) wi wr)) (fun p i _ => k - (intOf i).toNat)
          case atStart => exact ⟨0, Nat.zero_le _, rfl, Lib.hid ⟨HDi.out, Keeps.refl _ _⟩⟩
          case round =>
            obtain ⟨q, hq, rfl, HE⟩ := hrel
            obtain ⟨wj, rfl⟩ : ∃ wj, wj = wr := ⟨_, rfl⟩
            by_cases hlt3 : q < k
            · have hqi : q < ws.length := by rw [Hm.out]; exact hlt3
              have hmem : wAt ws q ∈ ws := by rw [wAt_eq hqi]; exact List.getElem_mem _
              have hrw := Hrowi.out.keep HE.out.2 hgF
              obtain ⟨c0, c1, c2⟩ := hrw.cell hqi
              have hba := below_alloc_ wj (.cells #[.int .i64 ((wAt ws q).link : Int), .int .i64 (wAt ws q).fr, .int .i64 (wAt ws q).to] 79)
              have hfit := fit_sendAll (t := t) (by have := Htp.out; omega) (ws.take q) f' HF.out.fit (Hlinks.out.sublist (List.take_sublist _ _)) (fun x hx => Htl.out x (List.mem_of_mem_take hx))
              have ks := send88 b (sendAll b.zs f' (ws.take q) t) (wAt ws q).link (wAt ws q).fr (wAt ws q).to t (wj.alloc (.cells #[.int .i64 ((wAt ws q).link : Int), .int .i64 (wAt ws q).fr, .int .i64 (wAt ws q).to] 79)) (HE.out.1.below hba (Nat.le_refl _)) Hok.out (Hlk.out _ hmem) (small_fit Hok.out hfit) (by have := Htp.out; have := Ht2.out; omega)
              have Hs := Lib.hid (show sendF b.zs (sendAll b.zs f' (ws.take q) t) ⟨(wAt ws q).link, (wAt ws q).fr, (wAt ws q).to⟩ t = sendAll b.zs f' (ws.take (q + 1)) t from (sendAll_snoc b.zs f' hqi t).symm)
              rw [Hs.out] at ks
              have HKa := Lib.hid (show Keeps (fun j => j = b.F) wi (wj.alloc (.cells #[.int .i64 ((wAt ws q).link : Int), .int .i64 (wAt ws q).fr, .int .i64 (wAt ws q).to] 79)) from HE.out.2.trans (Keeps.of_new hba))
              have i0 : (0 : Int) ≤ (q : Int) := by omega
              have i1 : (q : Int) < (k : Int) := by omega
              obtain ⟨x, hx⟩ : ∃ x, wAt ws q = x := ⟨_, rfl⟩
              rw [hx] at c0 c1 c2 ks HKa
              have Ks := Lib.hid ks
              clear hrw hmem hqi hba ks hfit hx
              go_wp2_with fail
              refine Ks.out.mono ?_
              rintro e4 w4 ⟨rfl, hD4, hk4⟩
              have HN := Lib.hid (show Bd w4 b (sendAll b.zs f' (ws.take (q + 1)) t) ∧ Keeps (fun j => j = b.F) wi w4 from ⟨hD4, HKa.out.trans hk4⟩)
              clear Ks hD4 hk4 c0 c1 c2 HKa
              go_wp2_with fail
              go_roundw
              case rel => exact ⟨q + 1, by omega, by go_num, HN⟩
              case measure => simp [intOf]; omega
            · obtain rfl : q = k := by omega
              have hall : ws.take q = ws := List.take_of_length_le (by rw [Hm.out]; exact Nat.le_refl _)
              have hDj := HE.out.1
              rw [hall] at hDj
              obtain ⟨hF2, hgr2⟩ := flow_push Hok.out.okl HF.out (fun x hx => (Hway.out x hx).1) Hpath.out Ha.out Hen.out Hok.out.dj Hnod.out Hna.out (show (0 : Int) ≤ t by have := Htp.out; omega) Htl.out
              have kth := through50 b (sendAll b.zs f' ws t) wj hDj Hok.out (small_fit Hok.out hF2.fit)
              have Hth := Lib.hid kth
              have HF2 := Lib.hid hF2
              have Hgr2 := Lib.hid hgr2
              have HDj := Lib.hid hDj
              have HKj := Lib.hid (keeps_old3 HKi.out (HE.out.2.mono (fun j _ e => .inr e)))
              have hwj : w.heap.size ≤ wj.heap.size := by have := HE.out.2.size; omega
              clear kth hF2 hgr2 hDj hall HE
              go_wp2_with fail
              refine Hth.out.mono ?_
              rintro e5 w5 ⟨hr5, hb5⟩
              have hgl := great_le Hok.out.okl HF2.out.fit (L := b.l.ls)
              rw [Hok.out.zl] at hgl
              have hn120 := Hok.out.n
              have hgg := Hg.out
              have hg2 := Hgr2.out
              have htp := Htp.out
              have hDn := HDj.out.below hb5 (Nat.le_refl _)
              have hKn := HKj.out.trans (Keeps.of_new hb5)
              have Hnew := Lib.hid (show ((g0 - t.toNat : Nat) : Int) + greatF b.zs (sendAll b.zs f' ws t) b.l.ls = 130000000 ∧ g0 - t.toNat < g0 from ⟨by omega, by omega⟩)
              have HH := Lib.hid (show ∃ (sv : Value) (ok : Bool), e5 = .returned (.tuple #[sv, .bool ok]) ∧ ∃ f', ((g0 - t.toNat : Nat) : Int) + greatF b.zs f' b.l.ls = 130000000 ∧ Bd w5 b f' ∧ FlowOk b.l.N.toNat b.zs b.l.ls b.l.rs f' ∧ Keeps (fun k => k = b.F) w w5 ∧ (ok = true → ThrOk b f' w w5 sv) ∧ (ok = false → Filled b f') from by
                rcases hr5 with ⟨g, cp, ws2, a2, en2, rfl, h1, h2, h3, h4⟩ | ⟨rfl, hS⟩
                · exact ⟨_, true, rfl, _, Hnew.out.1, hDn, HF2.out, hKn, fun _ => ⟨g, cp, ws2, a2, en2, rfl, h1, h2, by omega, by omega, h4⟩, fun e => by cases e⟩
                · exact ⟨_, false, rfl, _, Hnew.out.1, hDn, HF2.out, hKn, (fun e => by cases e), fun _ => ⟨HF2.out, hS⟩⟩)
              obtain ⟨sv5, ok5, rfl, hfin5⟩ := HH.out
              have HF5 := Lib.hid hfin5
              clear hr5 hb5 hgl hn120 hgg hg2 htp hDn hKn HH hfin5 Hth
              go_wp2_with fail
              go_roundg (g0 - t.toNat)
              case measure => exact Hnew.out.2
              case rel => exact ⟨_, rfl, _, _, rfl, rfl, HF5⟩
end
end Go.Proofs.Ytigohccehllmnaa
