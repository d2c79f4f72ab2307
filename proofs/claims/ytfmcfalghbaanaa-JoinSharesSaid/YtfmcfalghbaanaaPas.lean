/- Stage 2: Passages. -/
import Derived.Test.YtfmcfalghbaanaaRow
import Derived.Test.YtfmcfalghbaanaaShr
namespace Go.Proofs.Ytfmcfalghbaanaa
set_option linter.unusedSimpArgs false
set_option linter.unusedVariables false
open Go.RowKit Go.Shelf
attribute [local go_sem] Oper.semAt_some
attribute [local go_sem ↓] exec_load78
attribute [local go_sem ↓] at_load78
attribute [local go_sem ↓] exec_store78
attribute [local go_sem ↓] at_store78
attribute [local go_sem ↓] exec_app
attribute [local go_sem ↓] at_app

/-- The pairs that all joins share. -/
def passL (c : Cy) : List (Nat × Nat) := (codesL c.ps).flatMap fun x => ((codesL c.ps).filter fun y => sharedB (tabOf c) (codesL c.ps) c.ps.length x y).map fun y => (x, y)
def passR (c : Cy) : List (Nat × Nat) × Int := if chkC c ≠ 0 then ([], chkC c) else if (joinsC c).length = 0 then ([], 5) else (passL c, 0)
/-- A slice of pairs. -/
def Prs (W : World) (C : Option Addr) (m : Nat) (l : List (Nat × Nat)) : Prop :=
  l.length = m ∧ (0 < m → ∃ b o, C = some ⟨b, o, none⟩ ∧ ∀ j, j < m * 4 → W.cell? ⟨b, o + j, none⟩ = (flatP l)[j]?)
theorem prs_own {W : World} {v : Value} {l : List (Nat × Nat)} (h : W.ownsRow 0 57 4 v l.length (flatP l)) : ∃ C cap, v = .slice C l.length cap ∧ l.length ≤ cap ∧ Prs W C l.length l := by
  rcases h.2 with ⟨rfl, h0⟩ | ⟨g, cap, cur, rfl, hb, hg, hc, _, hsz, htake⟩
  · rw [h0]
    exact ⟨none, 0, rfl, Nat.le_refl _, h0, by omega⟩
  · refine ⟨_, cap, rfl, hc, rfl, fun _ => ⟨g, 0, rfl, fun j hj => ?_⟩⟩
    rw [Nat.zero_add, cell_row hg, ← htake, List.getElem?_take_of_lt hj, Array.getElem?_toList]
/-- The slice that grows. -/
theorem cellS_of {p x : Nat} {t : Bool} (hx : x = if t then 2 * p + 1 else 2 * p) : cellS x = [.int .i64 (p : Int), .bool t] := by
  unfold cellS
  subst hx
  cases t
  · rw [if_neg (by simp), show 2 * p / 2 = p by omega, decide_eq_false (by omega)]
  · rw [if_pos rfl, show (2 * p + 1) / 2 = p by omega, decide_eq_true (by omega)]
def FoI (F : Nat) (W5 : World) (Mut : Nat → Prop) (Ob : Nat → Prop) (l : List (Nat × Nat)) (O : Nat → Prop) (W : World) : Prop :=
  ∃ v, W.heap[F]? = some (.cells #[v] 46 (0, 0)) ∧ W.ownsRow 0 57 4 v l.length (flatP l) ∧ (∀ k, v.ownBlock = some k → Ob k ∨ O k) ∧ Keeps Mut W5 W
theorem FoI.ab {F B : Nat} {W5 : World} {Mut Ob : Nat → Prop} {l : List (Nat × Nat)} (hF : F < B) (hO : ∀ k, Ob k → k < B) (h5 : W5.heap.size ≤ B) : AbO B (FoI F W5 Mut Ob l) := by
  rintro O W W' ⟨v, h1, h2, h3, h4⟩ hK
  refine ⟨v, (hK.block _ (lt_of_block h1) (by rintro ⟨e, _⟩; omega)).trans h1, own_keep h2 hK (fun k hk e => ?_), h3, keeps_abides h5 _ _ h4 (hK.mono (fun k _ e => e.1))⟩
  rcases h3 k hk with h | h
  · have := hO k h; omega
  · exact e.2 h

set_option maxRecDepth 100000 in
set_option maxHeartbeats 4000000 in
theorem pass30_bad (A : Option Addr) (n cap : Nat) (off lo hi : Int)  (ps : List Pc) (w : World) (h : Pcs w A n ps) (hn : n ≤ 9223372036854775807)  (he : chkC ⟨ps, off, ⟨lo, hi⟩⟩ ≠ 0) :
    Calls Try.prog 30 #[cyl A n cap off lo hi] w fun e w' => e = .returned (.tuple #[.slice none 0 0, .int .i64 (chkC ⟨ps, off, ⟨lo, hi⟩⟩)]) ∧ Below w.heap.size w w' := by
  have X := Cx.new (cap := cap) (off := off) (lo := lo) (hi := hi) h
  unfold cyl
  have X1 := X.next (below_alloc_ _ (.cells Try.zeroCells78 78))
  have Hn := Lib.hid hn
  go_enter Try.func30, Try.ntmps30
  obtain ⟨c0, c1, c2, c3, l0⟩ := X.c
  go_wp2_with fail
  refine (lay42_bad A n cap off lo hi ps _ X.pcs Hn.out he).mono ?_
  rintro e w2 ⟨rfl, hb⟩
  have X2 := (X.next hb).next (below_alloc_ _ (.cells Try.zeroCells78 78))
  have hz : (w2.alloc (.cells Try.zeroCells78 78)).heap[w2.heap.size]? = some (.cells Try.zeroCells78 78 (0, 0)) := hal_new rfl
  have hst := run_st78 hz zero_size zero_size zero_one
  have d : (chkC ⟨ps, off, ⟨lo, hi⟩⟩ != 0) = true := by rw [bne_iff_ne]; exact he
  have HX2 := Lib.hid X2.below
  have HB := Lib.hid (show w.heap.size ≤ w2.heap.size from Nat.le_trans X.below.size hb.size)
  clear c0 c1 c2 c3 l0 X X1 X2 hb hz he h hn
  go_wp2_with fail
  refine bodyPost_ret (v := .tuple #[.slice none 0 0, .int .i64 (chkC ⟨ps, off, ⟨lo, hi⟩⟩)]) (by simp [results, Try.results30, go_sem]) rfl ?_
  exact ⟨rfl, HX2.out.trans ((keeps_setRow _ _ _).below HX2.out.size (fun k hk e => by have := HB.out; omega))⟩

set_option maxRecDepth 100000 in
set_option maxHeartbeats 4000000 in
theorem pass30_ok (A : Option Addr) (n cap : Nat) (off lo hi : Int)  (ps : List Pc) (w : World) (h : Pcs w A n ps) (hn : n ≤ 9223372036854775807)  (he : chkC ⟨ps, off, ⟨lo, hi⟩⟩ = 0) :
    Calls Try.prog 30 #[cyl A n cap off lo hi] w fun e w' => ∃ C m cp, e = .returned (.tuple #[.slice C m cp, .int .i64 (passR ⟨ps, off, ⟨lo, hi⟩⟩).2]) ∧ m ≤ cp ∧ Prs w' C m (passR ⟨ps, off, ⟨lo, hi⟩⟩).1 ∧ Below w.heap.size w w' := by
  have X := Cx.new (cap := cap) (off := off) (lo := lo) (hi := hi) h
  have hv := chkC_facts he
  have hlen := h.1
  unfold cyl
  have Hn := Lib.hid hn
  refine (callsIn_wide (n := 5)).1 ?_
  refine callsIn_of_wp_marks Try.func30 rfl trivial ?_ rfl
  simp only [Try.ntmps30, List.size_toArray, List.length_cons, List.length_nil, Nat.reduceAdd, Nat.reduceSub, Array.replicate_succ, Array.replicate_zero, List.push_toArray, List.append_toArray, List.nil_append, List.cons_append]
  obtain ⟨c0, c1, c2, c3, l0⟩ := X.c
  gi_wp2_with fail
  refine ⟨trivial, (callsIn_wide.2 (lay42_ok A n cap off lo hi ps _ X.pcs Hn.out he)).mono ?_⟩
  rintro e w2 ⟨Y, M, rfl, hY, hM, hMl, hb⟩
  have X2 := (X.next hb).next (below_alloc_ _ (.cells Try.zeroCells78 78))
  have hz : (w2.alloc (.cells Try.zeroCells78 78)).heap[w2.heap.size]? = some (.cells Try.zeroCells78 78 (0, 0)) := hal_new rfl
  have hst := run_st78 hz zero_size hY.size hY.one
  have hYr := setRow_same Y hz
  have hl := run_ld78 hYr hY.size
  have hk1 := keeps_setRow (w2.alloc (.cells Try.zeroCells78 78)) w2.heap.size Y
  have hws : w.heap.size ≤ w2.heap.size := Nat.le_trans X.below.size hb.size
  have hb4 : Below w.heap.size w ((w2.alloc (.cells Try.zeroCells78 78)).setRow w2.heap.size Y) := X2.below.trans (hk1.below X2.below.size (fun k hk e => by omega))
  have hMlt := lt_of_block hM
  have hm : Memo ((w2.alloc (.cells Try.zeroCells78 78)).setRow w2.heap.size Y) M 0 (tabOf ⟨ps, off, ⟨lo, hi⟩⟩) (codesL ps) n := Memo.new ((hk1.block M (lt_of_block (hal_old hM)) (fun e => by omega)).trans (hal_old hM)) _ _ _
  have hp := h.below hb4 (Nat.le_refl _)
  have hMw : w.heap.size ≤ M := Nat.le_trans X.below.size hMl
  have hn1 : 1 ≤ n := by have := hv; omega
  have hn8 : n ≤ 8 := by have := hv; omega
  have d : ((chkC ⟨ps, off, ⟨lo, hi⟩⟩) != 0) = false := by rw [he]; rfl
  have hstart : left n ⟨0, 0⟩ = n := left_start n 0
  have hcnt : cntA (tabOf ⟨ps, off, ⟨lo, hi⟩⟩) (codesL ps) n ⟨0, 0⟩ = (joinsC ⟨ps, off, ⟨lo, hi⟩⟩).length := by
    unfold cntA joinsC joins
    rw [left_start, hlen]
  obtain ⟨W4, hW4⟩ : ∃ W4, (w2.alloc (.cells Try.zeroCells78 78)).setRow w2.heap.size Y = W4 := ⟨_, rfl⟩
  rw [hW4] at hst hl hYr hb4 hm hp
  have HY := Lib.hid hY
  have Hhe := Lib.hid he
  have Hp := Lib.hid hp
  have Hm := Lib.hid hm
  have Hb4 := Lib.hid hb4
  have HYr := Lib.hid hYr
  have Hlen := Lib.hid hlen
  have Hcnt := Lib.hid hcnt
  clear c0 c1 c2 c3 l0 X X2 hb hY hM hMl h hv hz hk1 hb4 hW4 hm hp hYr hlen hcnt hn hMlt
  clear he
  gi_wp2_with fail
  refine ⟨trivial, (callsIn_wide.2 (leads55 Y A n cap off lo hi _ M ps HY.out hn1 hn8 n 0 0 0 0 false _ Hp.out Hm.out (bud1 hn8) (Nat.two_pow_pos n) (by omega) rfl hstart)).mono ?_⟩
  rintro e w3 ⟨rfl, hm3, hk3⟩
  rw [show cntA (tabOf ⟨ps, off, ⟨lo, hi⟩⟩) (codesL ps) n { last := 0, pcs := 0 } = (joinsC ⟨ps, off, ⟨lo, hi⟩⟩).length from Hcnt.out]
  have Hm3 := Lib.hid hm3
  have Hk3 := Lib.hid hk3
  have hM4 := Hm.out.lt
  have hYM : w2.heap.size ≠ M := fun e => by
    have h1 := HYr.out
    obtain ⟨es, cl, h2⟩ := Hm.out.isMap
    rw [e, h2] at h1
    cases h1
  have hY3 := (hk3.block _ (lt_of_block HYr.out) hYM).trans HYr.out
  have hl3 : runO Try.prog (ld 78) (.pointer (some ⟨w2.heap.size, 0, none⟩)) w3 = .ok (.value (.agg Y)) w3 := run_ld78 hY3 HY.out.size
  have hb5 : Below w.heap.size w w3 := Hb4.out.trans (hk3.below Hb4.out.size (fun j hj e => by omega))
  have Hb5 := Lib.hid hb5
  have hp5 := Hp.out.keep hk3 (fun j o e => by subst e; exact pcs_not_map Hp.out (by omega) Hm.out o)
  have Hp5 := Lib.hid hp5
  have HY3 := Lib.hid hY3
  clear hm3 hk3 hb5 hp5 hl hst hY3
  by_cases h0 : (joinsC ⟨ps, off, ⟨lo, hi⟩⟩).length = 0
  · have d0 : decide (0 < (joinsC ⟨ps, off, ⟨lo, hi⟩⟩).length) = false := decide_eq_false (by omega)
    rw [d0]
    have HR := Lib.hid (show passR ⟨ps, off, ⟨lo, hi⟩⟩ = ([], 5) by unfold passR; rw [if_neg (by simpa using Hhe.out), if_pos h0])
    clear h0
    gi_wp2_with fail
    refine ⟨.tuple #[.slice none 0 0, .int .i64 5], by simp [results, Try.results30, go_sem], none, 0, 0, by rw [HR.out], Nat.le_refl _, ⟨by rw [HR.out]; rfl, by omega⟩, Hb5.out⟩
  · have d0 : decide (0 < (joinsC ⟨ps, off, ⟨lo, hi⟩⟩).length) = true := decide_eq_true (by omega)
    rw [d0]
    have h2 : joinsC ⟨ps, off, ⟨lo, hi⟩⟩ = joins (tabOf ⟨ps, off, ⟨lo, hi⟩⟩) (codesL ps) n := by unfold joinsC; rw [Hlen.out]
    obtain ⟨ls, hget⟩ : ∃ ls, (joins (tabOf ⟨ps, off, ⟨lo, hi⟩⟩) (codesL ps) n)[0]? = some ls := by
      rw [← h2]; exact ⟨_, List.getElem?_eq_getElem (by omega)⟩
    have HR := Lib.hid (show passR ⟨ps, off, ⟨lo, hi⟩⟩ = (passL ⟨ps, off, ⟨lo, hi⟩⟩, 0) by unfold passR; rw [if_neg (by simpa using Hhe.out), if_neg h0])
    have Hget := Lib.hid hget
    clear h0 h2 hget
    gi_wp2_with fail
    refine ⟨trivial, (callsIn_wide.2 (shared56 Y A n cap off lo hi _ M ps HY.out hn1 hn8 _ w3 Hp5.out Hm3.out (bud2 hn8) _ Hget.out)).mono ?_⟩
    rintro e w6 ⟨S, rfl, hS, hPS, _, hk6⟩
    have hY6 := (hk6.block _ (lt_of_block HY3.out) hYM).trans HY3.out
    have K8 := Lib.hid (show Keeps (fun _ => False) w6 ((w6.alloc (.cells #[.map (some S)] 97)).alloc (.cells #[.slice none 0 0] 46)) from (keep_alloc _ _ _).trans (keep_alloc _ _ _))
    have hS8 := eq_le (show ((w6.alloc (.cells #[.map (some S)] 97)).alloc (.cells #[.slice none 0 0] 46)).heap.size = w6.heap.size + 2 by simp)
    have E6 := Lib.hid (show ((w6.alloc (.cells #[.map (some S)] 97)).alloc (.cells #[.slice none 0 0] 46)).heap[w6.heap.size]? = some (.cells #[.map (some S)] 97 (0, 0)) from hal_old (heap_alloc_new_ _ _))
    have E7 := Lib.hid (show ((w6.alloc (.cells #[.map (some S)] 97)).alloc (.cells #[.slice none 0 0] 46)).heap[w6.heap.size + 1]? = some (.cells #[.slice none 0 0] 46 (0, 0)) from hal_new (by simp))
    have EY := Lib.hid ((K8.out.block _ (lt_of_block hY6) (fun e => e)).trans hY6)
    have l8 : runO Try.prog (ld 78) (.pointer (some ⟨w2.heap.size, 0, none⟩)) ((w6.alloc (.cells #[.map (some S)] 97)).alloc (.cells #[.slice none 0 0] 46)) = .ok (.value (.agg Y)) _ := run_ld78 EY.out HY.out.size
    have HPS := Lib.hid hPS
    have Hk6 := Lib.hid hk6
    obtain ⟨W8, hW8⟩ : ∃ W8, (w6.alloc (.cells #[.map (some S)] 97)).alloc (.cells #[.slice none 0 0] 46) = W8 := ⟨_, rfl⟩
    rw [hW8] at K8 hS8 E6 E7 EY l8
    clear hPS hk6 hY6
    gi_wp2_with fail
    refine ⟨trivial, (callsIn_wide.2 (steps57 _ _)).mono ?_⟩
    rintro e w9 ⟨rfl, rfl⟩
    gi_wp2_with fail
    have hK9 := keep_alloc (fun _ => False) W8 (.cells Y 78)
    have hN9 := heap_alloc_new_ W8 (.cells Y 78)
    have hs9 := eq_le (World.size_alloc W8 (.cells Y 78))
    obtain ⟨W9, hW9⟩ : ∃ W9, W8.alloc (.cells Y 78) = W9 := ⟨_, rfl⟩
    rw [hW9] at hK9 hN9 hs9 ⊢
    clear hW9 hW8
    have hk6s := Hk6.out.size
    have hk3s := Hk3.out.size
    have hb4s := Hb4.out.size
    have hp9 := (((Hp5.out.keep Hk6.out (fun j o e => by subst e; exact pcs_not_map Hp.out (by omega) Hm.out o)).keep K8.out (fun _ _ e => e.elim)).keep hK9 (fun _ _ e => e.elim))
    have hY9 := (hK9.block _ (lt_of_block EY.out) (fun e => e)).trans EY.out
    have h69 := (hK9.block _ (lt_of_block E6.out) (fun e => e)).trans E6.out
    have h79 := (hK9.block _ (lt_of_block E7.out) (fun e => e)).trans E7.out
    have hP9 := (HPS.out.keep K8.out (fun e => e)).keep hK9 (fun e => e)
    have hY2 := lt_of_block HYr.out
    have hSlt := HPS.out.lt
    have hneed : ∀ k, (∃ o, A = some ⟨k, o, none⟩) → k < W4.heap.size := pcs_lt Hp.out (by omega)
    have hcl : (codesL ps).length ≤ 16 := Nat.le_trans (codes_len_ ps ps.length) (by have := Hp.out.1; omega)
    have hc16 : ∀ x ∈ codesL ps, x < 16 := fun x hx => by have := codes_ok ps x hx; have := Hp.out.1; omega
    have Hcl := Lib.hid hcl
    have Hc16 := Lib.hid hc16
    have H9K := Lib.hid hK9
    have H69 := Lib.hid h69
    have HY9 := Lib.hid hY9
    have HP9 := Lib.hid hP9
    have Hp9 := Lib.hid hp9
    obtain ⟨sh, hsh⟩ : ∃ sh, sharedB (tabOf ⟨ps, off, ⟨lo, hi⟩⟩) (codesL ps) n = sh := ⟨_, rfl⟩
    rw [hsh] at HP9
    obtain ⟨f, hf⟩ : ∃ f : Nat → List (Nat × Nat), (fun x => ((codesL ps).filter fun y => sh x y).map fun y => (x, y)) = f := ⟨_, rfl⟩
    have Hf := Lib.hid hf
    have Hsh := Lib.hid hsh
    clear hcl hc16 hK9 h69 hY9 hP9 l8 hf hsh
    refine wpIn_rangeO (gf := 72) (lb := #[.pointer (some ⟨W8.heap.size, 0, none⟩)]) rfl (enters_of Try.func72 (by kernel_rfl) rfl) (steps_seqO Y A n cap off lo hi _ M W8.heap.size ps W9 hN9 HY.out hp9 hn8)
      (fun k h => by have := hneed k h; omega) (fun _ => rfl) (fun j => j = w6.heap.size + 1) (by
        rintro k rfl
        exact ⟨by omega, fun h => by have := hneed _ h; omega⟩)
      (fun pre => FoI (w6.heap.size + 1) W9 (fun j => j = w6.heap.size + 1) (fun _ => False) (pre.flatMap f)) (fun _ _ _ _ => False) (fun pre => FoI.ab (by omega) (fun _ e => e.elim) (Nat.le_refl _)) (fun _ _ _ _ _ h _ => h) ?start ?round ?done ?stop
    case start => exact ⟨_, h79, own_nil _ _ _, fun k e => (by cases e), Keeps.refl _ _⟩
    case stop => rintro D c pre x post W' O _ _ _ _ _ h; exact h.elim
    case done =>
      rintro D W' O hD hDW hDO hOs ⟨v, hv1, hv2, hv3, hv4⟩ hKd
      have c7 : W'.cell? ⟨w6.heap.size + 1, 0, none⟩ = some v := by rw [cell_row hv1]; rfl
      have HKd := Lib.hid hKd
      have HV := Lib.hid hv2
      have HK' := Lib.hid hv4
      have HV3 := Lib.hid hv3
      clear hKd hv1 hv2 hv4 hv3
      gi_wp2_with fail
      refine ⟨by simp, .inl ⟨_, _, rfl, run_takeDeferred HKd.out, ?_⟩⟩
      have q4 := Keeps.putObj (Mut := fun j => j = D) W' D (.deferred none) rfl
      have hve := own_keep HV.out q4 (fun k hk e => by subst e; exact (HV3.out k hk).elim (fun e => e) hDO)
      obtain ⟨C, cp, rfl, hcp, hpr⟩ := prs_own hve
      have hfl : (codesL ps).flatMap f = passL ⟨ps, off, ⟨lo, hi⟩⟩ := by
        unfold passL
        rw [← Hf.out, ← Hsh.out]
        simp only [Hlen.out]
      rw [hfl] at hcp hpr ⊢
      refine ⟨.tuple #[.slice C (passL ⟨ps, off, ⟨lo, hi⟩⟩).length cp, .int .i64 0], by simp [results, Try.results30, go_sem], C, _, cp, by rw [HR.out], hcp, by rw [HR.out]; exact hpr, ?_⟩
      have k1 : Keeps (fun j => w.heap.size ≤ j) w3 (W'.putObj D (.deferred none)) := ((((Hk6.out.mono (fun j _ e => by omega)).trans K8.out.none).trans H9K.out.none).trans (HK'.out.mono (fun j _ e => by omega))).trans (q4.mono (fun j _ e => by omega))
      exact Hb5.out.trans (k1.below Hb5.out.size (fun j hj e => by omega))
    case round =>
      intro l pre x post W O hxs hl1 hl2 hr hO hI m
      obtain ⟨p, t, hE, _, hx⟩ := stE_form x
      rw [hE]
      have Hx := Lib.hid hx
      have Hxm := Lib.hid (show x ∈ codesL ps by rw [hxs]; simp)
      have Hby := Lib.hid (heap_alloc_new_ W (.cells #[.int .i64 (p : Int), .bool t] 28))
      clear hE hx
      gi_wp2_with fail
      refine ⟨keep_alloc _ _ _, ?_⟩
      intro Wb hBb hIb
      obtain ⟨v, hv1, hv2, hv3, hv4⟩ := hIb
      have hYb := (hv4.block _ (lt_of_block HY9.out) (by omega)).trans HY9.out
      have l78 : runO Try.prog (ld 78) (.pointer (some ⟨w2.heap.size, 0, none⟩)) Wb = .ok (.value (.agg Y)) _ := run_ld78 hYb HY.out.size
      have hsb := hBb.keeps.size
      simp only [World.size_alloc] at hsb
      have Hfr := Lib.hid ((hBb.keeps.block _ (by simp) (by omega)).trans Hby.out)
      obtain ⟨r0, hr0⟩ := hBb.rcd
      have HO := Lib.hid hO
      have HV1 := Lib.hid hv1
      have HV2 := Lib.hid hv2
      have HV3 := Lib.hid hv3
      have HV4 := Lib.hid hv4
      have HR0 := Lib.hid hr0
      have HYb := Lib.hid hYb
      clear hr hI hBb hv1 hv2 hv3 hv4 hO hr0 hYb
      gi_wp2_with fail
      clear l78
      refine ⟨trivial, wide_d, CallsIn.inRound l ((callsIn_wide.2 (steps57 _ _)).mono ?_)⟩
      rintro e wc ⟨rfl, rfl⟩
      gi_wp2_with fail
      have hKc := keep_alloc (fun _ => False) Wb (.cells Y 78)
      have hNc := heap_alloc_new_ Wb (.cells Y 78)
      have hsc := eq_le (World.size_alloc Wb (.cells Y 78))
      obtain ⟨Wc, hWc⟩ : ∃ Wc, Wb.alloc (.cells Y 78) = Wc := ⟨_, rfl⟩
      rw [hWc] at hKc hNc hsc ⊢
      clear hWc
      have hpc := (Hp9.out.keep HV4.out (fun j o e h => by subst e; have := hneed _ ⟨o, h⟩; omega)).keep hKc (fun _ _ e => e.elim)
      have hvc1 := (hKc.block _ (lt_of_block HV1.out) (fun e => e)).trans HV1.out
      have hvc2 := own_keep HV2.out hKc (fun _ _ e => e)
      have hr0c := (hKc.block _ (lt_of_block HR0.out) (fun e => e)).trans HR0.out
      have hfrc := (hKc.block _ (lt_of_block Hfr.out) (fun e => e)).trans Hfr.out
      have HKc := Lib.hid hKc
      have HFrc := Lib.hid hfrc
      have H69c := Lib.hid ((HV4.out.trans hKc.none).block _ (lt_of_block H69.out) (by omega) |>.trans H69.out)
      have HPc := Lib.hid ((HP9.out.keep HV4.out (by omega)).keep hKc (fun e => e))
      have Hlist := Lib.hid (show f x = ((codesL ps).filter fun y => sh x y).map fun y => (x, y) by rw [← Hf.out])
      have hx16 := Hc16.out x Hxm.out
      have hlen1 : (pre.flatMap f).length ≤ 16 * 16 := by
        have h1 : pre.length ≤ 16 := by have h2 := congrArg List.length hxs; have := Hcl.out; rw [List.length_append] at h2; omega
        have h3 : ∀ z ∈ pre.map (fun a => (f a).length), z ≤ 16 := fun z hz => by
          obtain ⟨a, _, rfl⟩ := List.mem_map.1 hz
          rw [← Hf.out, List.length_map]
          exact Nat.le_trans (List.length_filter_le _ _) Hcl.out
        have h4 := sum_le _ 16 h3
        rw [List.length_map] at h4
        rw [List.length_flatMap]
        exact Nat.le_trans h4 (Nat.mul_le_mul_right _ h1)
      clear hKc hfrc
      refine wpIn_rangeON (hl₀ := hr0c) (gf := 72) (lb := #[.pointer (some ⟨Wb.heap.size, 0, none⟩)]) rfl (enters_of Try.func72 (by kernel_rfl) rfl) (steps_seqO Y A n cap off lo hi _ M Wb.heap.size ps Wc hNc HY.out hpc hn8)
        (fun k h => by have := hneed k h; omega) (fun _ => rfl) (fun j => j = w6.heap.size + 1 ∨ O j) (by
          intro k hk
          refine ⟨hk.elim (fun e => by omega) (fun e => by have := HO.out k e; omega), fun h => ?_⟩
          have h1 := hneed _ h
          exact hk.elim (fun e => by omega) (fun e => by have := HO.out k e; omega))
        (fun pre2 => FoI (w6.heap.size + 1) Wc (fun j => j = w6.heap.size + 1 ∨ O j) O (pre.flatMap f ++ (pre2.filter fun y => sh x y).map fun y => (x, y))) (fun _ _ _ _ => False) (fun pre2 => FoI.ab (by omega) (fun k e => by have := HO.out k e; omega) (Nat.le_refl _)) (fun _ _ _ _ _ h _ => h) ?start2 ?round2 ?done2 ?stop2
      case start2 => exact ⟨v, hvc1, by simpa using hvc2, fun k e => .inl ((HV3.out k e).elim (fun e => e.elim) (fun e => e)), Keeps.refl _ _⟩
      case stop2 => rintro c pre2 y post2 W' O' _ _ h; exact h.elim
      case done2 =>
        rintro W' O2 hs' hO2 ⟨v2, hw1, hw2, hw3, hw4⟩
        have HW1 := Lib.hid hw1
        have HW2 := Lib.hid hw2
        have HW3 := Lib.hid hw3
        have HW4 := Lib.hid hw4
        have HO2 := Lib.hid hO2
        clear hw1 hw2 hw3 hw4 hO2
        gi_wp2_with fail
        have hkb : Keeps (fun k => k = w6.heap.size + 1 ∨ O k) Wb W' := HKc.out.none.trans HW4.out
        refine ⟨fun k => O k ∨ O2 k, ⟨fun k h => .inl h, fun k h => h.elim .inl (fun h => .inr (by have := HO2.out k h; omega))⟩, hkb, v2, HW1.out, ?_, fun k h => .inr (HW3.out k h), ?_⟩
        · rw [List.flatMap_append, List.flatMap_cons, List.flatMap_nil, List.append_nil, Hlist.out]
          exact HW2.out
        · exact ((HV4.out.mono (Mut' := fun j => j = w6.heap.size + 1 ∨ O j) (fun _ _ e => .inl e)).trans hkb).mono (fun k hk e => e.elim id (fun e => by have := HO.out k e; omega))
      case round2 =>
        intro l2 pre2 y post2 W2 O2 hys hl12 hl22 hr2 hO2 hI2 m2
        obtain ⟨q, u, hE, _, hy⟩ := stE_form y
        rw [hE]
        have Hy := Lib.hid hy
        have Hym := Lib.hid (show y ∈ codesL ps by rw [hys]; simp)
        have hy16 := Hc16.out y Hym.out
        have Hby2 := Lib.hid (heap_alloc_new_ W2 (.cells #[.int .i64 (q : Int), .bool u] 28))
        clear hE hy
        gi_wp2_with fail
        refine ⟨keep_alloc _ _ _, ?_⟩
        intro We hBe hIe
        obtain ⟨v2, hw1, hw2, hw3, hw4⟩ := hIe
        have hse := hBe.keeps.size
        simp only [World.size_alloc] at hse
        have hto := (hBe.keeps.block _ (by simp) (by omega)).trans Hby2.out
        have hOW : ¬ O W.heap.size := fun e => by have := HO.out _ e; omega
        have hfre := (hw4.block _ (lt_of_block HFrc.out) (fun h => h.elim (fun e => by omega) hOW)).trans HFrc.out
        have hO6 : ¬ O w6.heap.size := fun e => by have := HO.out _ e; omega
        have h69e := (hw4.block _ (lt_of_block H69c.out) (fun h => h.elim (fun e => by omega) hO6)).trans H69c.out
        have hOS : ¬ O S := fun e => by have := HO.out _ e; omega
        have hPe := HPc.out.keep hw4 (fun h => h.elim (fun e => by omega) hOS)
        have x0 : We.cell? ⟨W.heap.size, 0, none⟩ = some (.int .i64 (p : Int)) := by rw [cell_row hfre]; rfl
        have x1 : We.cell? ⟨W.heap.size, 1, none⟩ = some (.bool t) := by rw [cell_row hfre]; rfl
        have y0 : We.cell? ⟨W2.heap.size, 0, none⟩ = some (.int .i64 (q : Int)) := by rw [cell_row hto]; rfl
        have y1 : We.cell? ⟨W2.heap.size, 1, none⟩ = some (.bool u) := by rw [cell_row hto]; rfl
        have kV := keep_alloc (fun _ => False) We (.cells #[.int .i64 (p : Int), .bool t, .int .i64 (q : Int), .bool u] 57)
        have nV := heap_alloc_new_ We (.cells #[.int .i64 (p : Int), .bool t, .int .i64 (q : Int), .bool u] 57)
        have sV := eq_le (World.size_alloc We (.cells #[.int .i64 (p : Int), .bool t, .int .i64 (q : Int), .bool u] 57))
        obtain ⟨V, hV⟩ : ∃ V, We.alloc (.cells #[.int .i64 (p : Int), .bool t, .int .i64 (q : Int), .bool u] 57) = V := ⟨_, rfl⟩
        rw [hV] at kV nV sV
        have h69v := (kV.block _ (lt_of_block h69e) (fun e => e)).trans h69e
        have c6 : V.cell? ⟨w6.heap.size, 0, none⟩ = some (.map (some S)) := by rw [cell_row h69v]; rfl
        have z0 : V.cell? ⟨We.heap.size, 0, none⟩ = some (.int .i64 (p : Int)) := by rw [cell_row nV]; rfl
        have z1 : V.cell? ⟨We.heap.size, 1, none⟩ = some (.bool t) := by rw [cell_row nV]; rfl
        have z2 : V.cell? ⟨We.heap.size, 2, none⟩ = some (.int .i64 (q : Int)) := by rw [cell_row nV]; rfl
        have z3 : V.cell? ⟨We.heap.size, 3, none⟩ = some (.bool u) := by rw [cell_row nV]; rfl
        have hlk := (hPe.keep kV (fun e => e)).look Hx.out Hy.out hx16 hy16
        have hw1v := (kV.block _ (lt_of_block hw1) (fun e => e)).trans hw1
        have hw2v := own_keep hw2 kV (fun _ _ e => e)
        have HW1 := Lib.hid hw1v
        have HW2 := Lib.hid hw2v
        have HW3 := Lib.hid hw3
        have HW4 := Lib.hid hw4
        have HO2 := Lib.hid hO2
        have KV := Lib.hid kV
        have hF46 : V.cell? ⟨w6.heap.size + 1, 0, none⟩ = some v2 := by rw [cell_row hw1v]; rfl
        have hlen2 : (pre.flatMap f ++ (pre2.filter fun y => sh x y).map fun y => (x, y)).length ≤ 1000 := by
          rw [List.length_append, List.length_map]
          have h1 : pre2.length ≤ 16 := by have h2 := congrArg List.length hys; have := Hcl.out; rw [List.length_append] at h2; omega
          have h2 := List.length_filter_le (fun y => sh x y) pre2
          omega
        clear hr2 hI2 hBe hw1 hw2 hw3 hw4 hO2 hto hfre h69e hPe h69v kV hw1v hw2v
        cases hsb : sh x y with
        | false =>
          rw [hsb] at hlk
          have Hsb := Lib.hid hsb
          clear hsb hF46
          gi_wp2_with fail
          refine ⟨O2, Grow.refl _ _ _, KV.out.none, v2, HW1.out, ?_, HW3.out, HW4.out.trans KV.out.none⟩
          rw [List.filter_append, List.filter_cons, if_neg (by rw [Hsb.out]; simp), List.filter_nil, List.append_nil]
          exact HW2.out
        | true =>
          rw [hsb] at hlk
          have Hsb := Lib.hid hsb
          have kU := keep_alloc (fun _ => False) V (.cells #[.int .i64 (p : Int), .bool t, .int .i64 (q : Int), .bool u] 57)
          have nU := heap_alloc_new_ V (.cells #[.int .i64 (p : Int), .bool t, .int .i64 (q : Int), .bool u] 57)
          have sU := eq_le (World.size_alloc V (.cells #[.int .i64 (p : Int), .bool t, .int .i64 (q : Int), .bool u] 57))
          obtain ⟨U, hU⟩ : ∃ U, V.alloc (.cells #[.int .i64 (p : Int), .bool t, .int .i64 (q : Int), .bool u] 57) = U := ⟨_, rfl⟩
          rw [hU] at kU nU sU
          have hvU := own_keep HW2.out kU (fun _ _ e => e)
          obtain ⟨v3, U2, hap, how, hkU, hbl⟩ := app_one Try.underlying46 info57_ rfl (by omega) (by omega) hvU (vals := [.int .i64 (p : Int), .bool t, .int .i64 (q : Int), .bool u]) rfl nU (by simp [Value.oneCell']) (Nat.le_trans hlen2 (by omega))
          have hap2 := run_app hap
          have hUF := (kU.block _ (lt_of_block HW1.out) (fun e => e)).trans HW1.out
          have hFv : v2.ownBlock ≠ some (w6.heap.size + 1) := fun e => by
            rcases HW3.out _ e with h | h
            · have := HO.out _ h; omega
            · have := HO2.out _ h; omega
          have hU2F := (hkU.block _ (lt_of_block hUF) (fun e => hFv e)).trans hUF
          have cU2 : U2.cell? ⟨w6.heap.size + 1, 0, none⟩ = some v2 := by rw [cell_row hU2F]; rfl
          have fU2 : U2.frozen? ⟨w6.heap.size + 1, 0, none⟩ = false := frozen_row hU2F
          have HU := Lib.hid kU
          have HKU := Lib.hid hkU
          have HBL := Lib.hid hbl
          have HOW := Lib.hid how
          have HU2F := Lib.hid hU2F
          have hone : v3.oneCell' = true := by
            rcases how.2 with ⟨e, _⟩ | ⟨_, _, _, e, _⟩ <;> rw [e] <;> rfl
          have hst1 := store1 (w6.heap.size + 1) 0 v3 U2 (by rw [cU2]; rfl) fU2 hone
          clear hsb kU nU hvU hkU hbl how hUF hU2F hap
          gi_wp2_with fail
          rw [hst1]
          gi_wp2_with fail
          have hset := keeps_setCell U2 (w6.heap.size + 1) 0 v3
          have hsU2 := HKU.out.size
          have hsV2 := own_lt HW2.out
          have kAll : Keeps (fun k => (k = w6.heap.size + 1 ∨ O k) ∨ O2 k) We (U2.setCell ⟨w6.heap.size + 1, 0, none⟩ v3) := ((KV.out.none.trans HU.out.none).trans (HKU.out.mono (fun k _ e => (HW3.out k e).elim (fun e => .inl (.inr e)) .inr))).trans (hset.mono (fun k _ e => .inl (.inl e)))
          have hs3 := hset.size
          refine ⟨fun k => O2 k ∨ (v3.ownBlock = some k ∧ V.heap.size ≤ k ∧ k < U2.heap.size), ⟨fun k h => .inl h, fun k h => h.elim .inl (fun h => .inr ⟨by omega, by omega⟩)⟩, kAll, v3, ?_, ?_, ?_, ?_⟩
          · rw [set_same 0 _ HU2F.out]; rfl
          · rw [List.filter_append, List.filter_cons, if_pos Hsb.out, List.filter_nil, List.map_append, ← List.append_assoc]
            have h1 := own_keep HOW.out hset (fun k hk e => by
              subst e
              rcases HBL.out with h2 | ⟨h2, h3⟩
              · exact hFv (by rw [← h2]; exact hk)
              · rw [h2] at hk; have := Option.some.inj hk; omega)
            rw [List.length_append]
            have h4 : flatP (pre.flatMap f ++ (pre2.filter fun y => sh x y).map (fun y => (x, y)) ++ [y].map (fun y => (x, y))) = flatP (pre.flatMap f ++ (pre2.filter fun y => sh x y).map (fun y => (x, y))) ++ [.int .i64 (p : Int), .bool t, .int .i64 (q : Int), .bool u] := by
              unfold flatP
              rw [List.flatMap_append]
              congr 1
              simp only [List.map_cons, List.map_nil, List.flatMap_cons, List.flatMap_nil, List.append_nil]
              unfold cellP
              simp only [cellS_of Hx.out, cellS_of Hy.out]
              rfl
            rw [h4]
            exact h1
          · intro k hk
            rcases HBL.out with h2 | ⟨h2, h3⟩
            · rw [h2] at hk
              exact (HW3.out k hk).imp id .inl
            · refine .inr (.inr ⟨hk, ?_, own_lt HOW.out k hk⟩)
              rw [h2] at hk; have := Option.some.inj hk; omega
          · exact (HW4.out.mono (Mut' := fun k => (k = w6.heap.size + 1 ∨ O k) ∨ O2 k) (fun _ _ e => .inl e)).trans kAll |>.mono (fun k hk e => e.elim id (fun e => by have := HO2.out k e; omega))
theorem pass30 (A : Option Addr) (n cap : Nat) (off lo hi : Int) (ps : List Pc) (w : World) (h : Pcs w A n ps) (hn : n ≤ 9223372036854775807) :
    Calls Try.prog 30 #[cyl A n cap off lo hi] w fun e w' => ∃ C m cp, e = .returned (.tuple #[.slice C m cp, .int .i64 (passR ⟨ps, off, ⟨lo, hi⟩⟩).2]) ∧ m ≤ cp ∧ Prs w' C m (passR ⟨ps, off, ⟨lo, hi⟩⟩).1 ∧ Below w.heap.size w w' := by
  by_cases he : chkC ⟨ps, off, ⟨lo, hi⟩⟩ = 0
  · exact pass30_ok A n cap off lo hi ps w h hn he
  · have hr : passR ⟨ps, off, ⟨lo, hi⟩⟩ = ([], chkC ⟨ps, off, ⟨lo, hi⟩⟩) := if_pos he
    refine (pass30_bad A n cap off lo hi ps w h hn he).mono ?_
    rintro e w' ⟨rfl, hb⟩
    exact ⟨none, 0, 0, by rw [hr], Nat.le_refl _, ⟨by rw [hr]; rfl, by omega⟩, hb⟩
end Go.Proofs.Ytfmcfalghbaanaa
