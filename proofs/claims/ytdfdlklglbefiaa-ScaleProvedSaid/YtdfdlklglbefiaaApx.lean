/- Stage 3: Apart, with what is known of the list's room. -/
import Derived.Test.YtdfdlklglbefiaaShs
namespace Go.Proofs.Ytdfdlklglbefiaa
set_option linter.unusedSimpArgs false
set_option linter.unusedVariables false
open Go.RowKit Go.Shelf Go.Sort
attribute [local go_sem ↓] exec_app
attribute [local go_sem] Oper.semAt_some

def AwPostC (zs : List Rg) (w : World) (en : Ending) (w' : World) : Prop :=
  Below w.heap.size w w' ∧ ((chkS zs = 0 ∧ ∃ x D cp, ApartR zs x ∧ en = .returned (.tuple #[.slice D x.length cp, .int .i64 0]) ∧ x.length ≤ cp ∧ Ints w' D x.length x ∧ (∀ b o, D = some ⟨b, o, none⟩ → w.heap.size ≤ b)) ∨ (chkS zs ≠ 0 ∧ en = .returned (.tuple #[.slice none 0 0, .int .i64 (chkS zs)])))
set_option maxRecDepth 100000 in
set_option maxHeartbeats 8000000 in
theorem apart26c (A : Option Addr) (n cap : Nat) (zs : List Rg) (w : World) (h : Rgs w A n zs) :
    Calls Try.prog 26 #[.slice A n cap] w (AwPostC zs w) := by
  have Hn := Lib.hid h.1
  go_enter Try.func26, Try.ntmps26
  go_wp2_with fail
  refine (lay46 A n cap zs w h).mono ?_
  rintro e w1 ⟨hb, ⟨h0, B, C, cp, rfl, hB, hC, hd⟩ | ⟨h0, rfl⟩⟩
  · have Hd := Lib.hid hd
    have Hb := Lib.hid hb
    have HBs := Lib.hid hB
    have H0 := Lib.hid h0
    have Hch := Lib.hid (chkS_zero.1 h0)
    clear h hb hd hC hB h0
    go_wp2_with fail
    refine (apart48 true B C n cp zs _ w1 Hd.out (by have := Hch.out.1; have := Hn.out; omega) (by have := Hch.out.2.1; have := Hn.out; omega)).mono ?_
    rintro en w2 ⟨ys, D, hg, rfl, hrow, hD, hbd, hK⟩
    have Hk24 := Lib.hid (show (grE true [] ys).length ≤ 24 by have := grE_len true [] ys; have := hg.2.2; have := Hch.out.2.1; have := Hn.out; simp at *; omega)
    have Hg := Lib.hid hg
    have HK := Lib.hid hK
    have HD := Lib.hid hD
    have HR := Lib.hid hrow
    obtain ⟨G, hG⟩ : ∃ G, grE true [] ys = G := ⟨_, rfl⟩
    rw [hG] at HR Hk24 ⊢
    obtain ⟨m, hm⟩ : ∃ m, G.length = m := ⟨_, rfl⟩
    rw [hm] at Hk24 ⊢
    have HG := Lib.hid hG
    have Hm := Lib.hid hm
    clear hg hrow hbd hK hD hG hm
    go_wp2_with fail
    go_loopw [6, 20] (fun v i wr => ∃ k : Nat, k ≤ m ∧ i = .int .i64 (k : Int) ∧ wr.ownsRow 0 3 1 v k (flatI (nmsE (G.take k))) ∧ (∀ j, v.ownBlock = some j → w2.heap.size ≤ j) ∧ Below w2.heap.size w2 wr) (fun v i _ => m - (intOf i).toNat)
    case atStart => exact ⟨0, Nat.zero_le _, rfl, own_nil _ _ _, fun j e => (by cases e), Below.refl _ _⟩
    case round =>
      obtain ⟨k, hk, rfl, ho, hob, hB2⟩ := hrel
      obtain ⟨wk, rfl⟩ : ∃ wk, wk = wr := ⟨_, rfl⟩
      by_cases hlt : k < m
      · obtain ⟨rest, hr2⟩ := HR.out
        have hRk : RowT wk D G := ⟨rest, (hB2.block _ (lt_of_block hr2)).trans hr2⟩
        obtain ⟨x0, x1, x2⟩ := hRk.cells (j := k) (by rw [Hm.out]; exact hlt)
        have Hpt := Lib.hid (nmsE_take G k (by rw [Hm.out]; exact hlt))
        obtain ⟨t, ht⟩ : ∃ t, tAt G k = t := ⟨_, rfl⟩
        rw [ht] at x0 x1 x2 Hpt
        have i0 : (0 : Int) ≤ (k : Int) := by omega
        have i1 : (k : Int) < (m : Int) := by omega
        have i2 : (k : Int) < 24 := by have := Hk24.out; omega
        have Ho := Lib.hid ho
        have Hob := Lib.hid hob
        have HB2 := Lib.hid hB2
        clear ho hob hB2 hr2 hRk ht
        have hbt := below_alloc_ wk (.cells #[.int .i64 t.r.lo, .int .i64 t.r.hi, .int .i64 (t.nm : Int)] 78)
        obtain ⟨W2, hW2⟩ : ∃ W2, wk.alloc (.cells #[.int .i64 t.r.lo, .int .i64 t.r.hi, .int .i64 (t.nm : Int)] 78) = W2 := ⟨_, rfl⟩
        have hsz2 : W2.heap.size = wk.heap.size + 1 := by rw [← hW2]; simp
        rw [hW2] at hbt
        obtain ⟨x, hx⟩ : ∃ x : Int, (t.nm : Int) = x := ⟨_, rfl⟩
        have Hbt := Lib.hid hbt
        have hbz := below_alloc_ W2 (.cells #[.int .i64 x] 3)
        have hz := heap_alloc_new_ W2 (.cells #[.int .i64 x] 3)
        have hob2 : (W2.alloc (.cells #[.int .i64 x] 3)).ownsRow 0 3 1 u6 k (flatI (nmsE (G.take k))) := own_keep (Mut := fun _ => False) Ho.out ((Keeps.of_new hbt).trans (Keeps.of_new hbz)) (fun _ _ e => e)
        obtain ⟨v', W3, hrun, hown3, hK3, hv3⟩ := app_one (n := k) Try.underlying26 info3_ rfl (by omega) (by omega) hob2 (vals := [.int .i64 x]) rfl hz (by simp [Value.oneCell']) (by have := Hk24.out; omega)
        have hB3 : Below w2.heap.size w2 W3 := (HB2.out.trans ((Hbt.out.trans (hbz.mono Hbt.out.size)).mono HB2.out.size)).trans (hK3.below (by have := HB2.out.size; have := Hbt.out.size; have := hbz.size; simp at this ⊢; omega) (fun j hj e => by have := Hob.out j e; omega))
        have hv4 : ∀ j, v'.ownBlock = some j → w2.heap.size ≤ j := by
          intro j hj
          rcases hv3 with e | ⟨e, _⟩
          · rw [e] at hj; exact Hob.out j hj
          · rw [e] at hj; cases hj; have := HB2.out.size; have := Hbt.out.size; have := hbz.size; simp at this ⊢; omega
        replace hrun : runA Try.prog 26 u6 (.slice (some ⟨wk.heap.size + 1, 0, none⟩) 1 1) ((wk.alloc (.cells #[.int .i64 t.r.lo, .int .i64 t.r.hi, .int .i64 (t.nm : Int)] 78)).alloc (.cells #[.int .i64 (t.nm : Int)] 3)) = .ok (.value v') W3 := by rw [hW2, hx, ← hsz2]; exact run_app hrun
        have HB3 := Lib.hid hB3
        have HV4 := Lib.hid hv4
        have HO3 := Lib.hid hown3
        have Hx := Lib.hid hx
        clear hbz hz hob2 hown3 hK3 hv3 hB3 hv4 hbt hW2 hsz2 hx Hbt
        go_wp2_with fail
        go_roundw
        case rel =>
          refine ⟨k + 1, by omega, by go_num, ?_, HV4.out, HB3.out⟩
          rw [Hpt.out, Hx.out, flatI_snoc]
          exact HO3.out
        case measure => simp [intOf]; omega
      · have e' : k = m := by omega
        subst e'
        have HB2 := Lib.hid hB2
        have htk : G.take k = G := List.take_of_length_le (by rw [Hm.out]; exact Nat.le_refl _)
        rw [htk] at ho
        have HO := Lib.hid ho
        have HOB := Lib.hid hob
        have HL := Lib.hid (show (nmsE G).length = k by simp [nmsE, Hm.out])
        clear ho hob hB2
        go_wp2_with fail
        refine (sort_own srtJ (F := 49) rfl HL.out (by have := Hk24.out; omega) HO.out).mono ?_
        rintro en4 W4 ⟨rfl, ⟨D4, cp4, rfl, hi4⟩, hK4⟩
        have HI4 := Lib.hid hi4
        have HK4 := Lib.hid hK4
        clear hi4 hK4
        go_wp2_with fail
        have hkc : k ≤ cp4 := by
          rcases HO.out.2 with ⟨e, h0⟩ | ⟨g, cap', cur, e, hb', hg', hc', _⟩
          · cases e; omega
          · cases e; exact hc'
        refine bodyPost_ret (v := .tuple #[.slice D4 k cp4, .int .i64 0]) (by simp [results, Try.results26, go_sem]) rfl ?_
        have hB5 : Below w2.heap.size w2 W4 := HB2.out.trans (HK4.out.below HB2.out.size (fun j hj e => by have := HOB.out j e; omega))
        have hB6 := Hb.out.trans ((HK.out.trans (Keeps.of_new hB5)).below Hb.out.size (fun k hk e => by have := HBs.out; omega))
        have hl5 : (srtL (nmsE (grE true [] ys))).length = k := by rw [srtL_len, HG.out, HL.out]
        refine ⟨hB6, .inl ⟨H0.out, _, D4, cp4, ⟨ys, by rw [Hn.out]; exact Hg.out, rfl⟩, by rw [hl5], by rw [hl5]; exact hkc, by rw [hl5, HG.out]; exact HI4.out, fun b o e => ?_⟩⟩
        have h1 := HOB.out b (by rw [e]; rfl)
        have := HK.out.size
        have := Hb.out.size
        omega
  · have Hb := Lib.hid hb
    obtain ⟨c, hc⟩ : ∃ c, chkS zs = c := ⟨_, rfl⟩
    rw [hc] at h0 ⊢
    have d0 : (c != 0) = true := by rw [bne_iff_ne]; exact h0
    have Hc := Lib.hid hc
    have H0 := Lib.hid h0
    clear hb h h0 hc
    go_wp2_with fail
    refine bodyPost_ret (v := .tuple #[.slice none 0 0, .int .i64 c]) (by simp [results, Try.results26, go_sem]) rfl ?_
    exact ⟨Hb.out, .inr ⟨by rw [Hc.out]; exact H0.out, by rw [Hc.out]⟩⟩
end Go.Proofs.Ytdfdlklglbefiaa
