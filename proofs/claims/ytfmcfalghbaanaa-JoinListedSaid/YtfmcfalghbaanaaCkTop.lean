/- Stage 2: the program's CheckJoin. -/
import Derived.Test.YtfmcfalghbaanaaCk
namespace Go.Proofs.Ytfmcfalghbaanaa
set_option linter.unusedSimpArgs false
set_option linter.unusedVariables false
open Go.RowKit Go.Shelf
attribute [local go_sem] Oper.semAt_some
attribute [local go_sem ↓] exec_load78
attribute [local go_sem ↓] at_load78
attribute [local go_sem ↓] exec_store78
attribute [local go_sem ↓] at_store78

set_option maxRecDepth 100000 in
set_option maxHeartbeats 4000000 in
theorem checkJoin18 (A C : Option Addr) (n cap m cp : Nat) (off lo hi : Int) (ps : List Pc) (ss : List St) (w : World) (h : Pcs w A n ps) (hs : Sts w C m ss) (hn : n ≤ 9223372036854775807) (hm : m ≤ 9223372036854775807) (hcp : m ≤ cp) :
    Calls Try.prog 18 #[cyl A n cap off lo hi, .slice C m cp] w fun e w' => e = .returned (.int .i64 (ckJoin ⟨ps, off, ⟨lo, hi⟩⟩ ss)) ∧ Below w.heap.size w w' := by
  have X := Cx.new (cap := cap) (off := off) (lo := lo) (hi := hi) h
  have Hl := Lib.hid h.1
  have Hm := Lib.hid hs.1
  have Hs := Lib.hid hs
  have Hn := Lib.hid hn
  unfold cyl
  go_enter Try.func18, Try.ntmps18
  obtain ⟨c0, c1, c2, c3, l0⟩ := X.c
  go_wp2_with fail
  by_cases he : chkC ⟨ps, off, ⟨lo, hi⟩⟩ = 0
  · refine (lay42_ok A n cap off lo hi ps _ X.pcs Hn.out he).mono ?_
    rintro e w2 ⟨Y, M, rfl, hY, hM, hMl, hb⟩
    have X2 := (X.next hb).next (below_alloc_ _ (.cells Try.zeroCells78 78))
    have hv := chkC_facts he
    have hz : (w2.alloc (.cells Try.zeroCells78 78)).heap[w2.heap.size]? = some (.cells Try.zeroCells78 78 (0, 0)) := hal_new rfl
    have hst := run_st78 hz zero_size hY.size hY.one
    have hld := run_ld78 (setRow_same Y hz) hY.size
    have hk1 := keeps_setRow (w2.alloc (.cells Try.zeroCells78 78)) w2.heap.size Y
    have hws : w.heap.size ≤ w2.heap.size := Nat.le_trans X.below.size hb.size
    have hb4 : Below w.heap.size w ((w2.alloc (.cells Try.zeroCells78 78)).setRow w2.heap.size Y) := X2.below.trans (hk1.below X2.below.size (fun k hk e => by omega))
    obtain ⟨W4, hW4⟩ : ∃ W4, (w2.alloc (.cells Try.zeroCells78 78)).setRow w2.heap.size Y = W4 := ⟨_, rfl⟩
    rw [hW4] at hst hb4 hld
    have HY := Lib.hid hY
    have Hhe := Lib.hid he
    have Hp4 := Lib.hid (h.below hb4 (Nat.le_refl _))
    have Hs4 := Lib.hid (Hs.out.below hb4 (Nat.le_refl _))
    have Hb4 := Lib.hid hb4
    have Hv := Lib.hid hv
    clear c0 c1 c2 c3 l0 X X2 hb hs hY hM hMl h hv he hz hk1 hws hb4 hW4
    go_wp2_with fail
    by_cases hmn : m = n
    · subst hmn
      refine (check50_eq Y A C m cap cp off lo hi M ps ss _ HY.out Hp4.out Hs4.out (by have := Hv.out; have := Hl.out; omega) (by have := Hv.out; have := Hl.out; omega) hcp Hhe.out).mono ?_
      rintro e w5 ⟨rfl, hb5⟩
      have HF := Lib.hid (Hb4.out.trans (hb5.mono Hb4.out.size))
      obtain ⟨r, hr⟩ : ∃ r, ckJoin ⟨ps, off, ⟨lo, hi⟩⟩ ss = r := ⟨_, rfl⟩
      rw [hr]
      have Hr := Lib.hid hr
      clear hr hb5 hst hld
      go_wp2_with fail
      go_ret
      exact ⟨ret_int Hr.out.symm, HF.out⟩
    · have HR := Lib.hid (show ckJoin ⟨ps, off, ⟨lo, hi⟩⟩ ss = 15 from ckJoin_len Hhe.out (by have := Hm.out; have := Hl.out; simp only; omega))
      refine (check50_len Y A C n cap m cp off lo hi _ M ps ss _ HY.out Hp4.out Hs4.out hm (by have := Hv.out; have := Hl.out; omega) hmn).mono ?_
      rintro e w5 ⟨rfl, hb5⟩
      have HF := Lib.hid (Hb4.out.trans (hb5.mono Hb4.out.size))
      clear hb5 hst hld hmn
      go_wp2_with fail
      go_ret
      exact ⟨ret_int HR.out.symm, HF.out⟩
  · refine (lay42_bad A n cap off lo hi ps _ X.pcs Hn.out he).mono ?_
    rintro e w2 ⟨rfl, hb⟩
    have X2 := (X.next hb).next (below_alloc_ _ (.cells Try.zeroCells78 78))
    have hz : (w2.alloc (.cells Try.zeroCells78 78)).heap[w2.heap.size]? = some (.cells Try.zeroCells78 78 (0, 0)) := hal_new rfl
    have hst := run_st78 hz zero_size zero_size zero_one
    have d : (chkC ⟨ps, off, ⟨lo, hi⟩⟩ != 0) = true := by rw [bne_iff_ne]; exact he
    have HR := Lib.hid (show ckJoin ⟨ps, off, ⟨lo, hi⟩⟩ ss = chkC ⟨ps, off, ⟨lo, hi⟩⟩ from ckJoin_bad he)
    have HX2 := Lib.hid X2.below
    have HB := Lib.hid (show w.heap.size ≤ w2.heap.size from Nat.le_trans X.below.size hb.size)
    clear c0 c1 c2 c3 l0 X X2 hb hz he h hn hs
    go_wp2_with fail
    go_ret
    exact ⟨ret_int HR.out.symm, HX2.out.trans ((keeps_setRow _ _ _).below HX2.out.size (fun k hk e => by have := HB.out; omega))⟩
end Go.Proofs.Ytfmcfalghbaanaa
