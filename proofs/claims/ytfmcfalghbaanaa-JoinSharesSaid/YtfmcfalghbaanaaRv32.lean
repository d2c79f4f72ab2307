/- Stage 2: Rivals. -/
import Derived.Test.YtfmcfalghbaanaaRiv
import Derived.Test.YtfmcfalghbaanaaRno
import Derived.Test.YtfmcfalghbaanaaCkTop
namespace Go.Proofs.Ytfmcfalghbaanaa
set_option linter.unusedSimpArgs false
set_option linter.unusedVariables false
open Go.RowKit Go.Shelf
attribute [local go_sem] Oper.semAt_some
attribute [local go_sem ↓] exec_load78
attribute [local go_sem ↓] at_load78
attribute [local go_sem ↓] exec_store78
attribute [local go_sem ↓] at_store78
attribute [local go_sem ↓] exec_load73
attribute [local go_sem ↓] at_load73
attribute [local go_sem ↓] exec_store73
attribute [local go_sem ↓] at_store73
attribute [local go_sem ↓] exec_app
attribute [local go_sem ↓] at_app

/-- The slice that grows. -/
def SoI (F : Nat) (W5 : World) (l : List Nat) (O : Nat → Prop) (W : World) : Prop :=
  ∃ v, W.heap[F]? = some (.cells #[v] 29 (0, 0)) ∧ W.ownsRow 0 28 2 v l.length (flatS l) ∧ (∀ k, v.ownBlock = some k → O k) ∧ Keeps (fun j => j = F) W5 W
theorem SoI.ab {F B : Nat} {W5 : World} {l : List Nat} (hF : F < B) (h5 : W5.heap.size ≤ B) : AbO B (SoI F W5 l) := by
  rintro O W W' ⟨v, h1, h2, h3, h4⟩ hK
  exact ⟨v, (hK.block _ (lt_of_block h1) (by rintro ⟨e, _⟩; omega)).trans h1, own_keep h2 hK (fun k hk e => e.2 (h3 k hk)), h3, keeps_abides h5 _ _ h4 (hK.mono (fun k _ e => e.1))⟩
/-- The steps that come just behind a step in some join. -/
def rivL (c : Cy) (x : Nat) : List Nat := (codesL c.ps).filter fun y => (joinsC c).any fun l => hasP l x y
def rivR (c : Cy) (s : St) : List Nat × Int :=
  if chkC c ≠ 0 then ([], chkC c) else if stepB c.ps s = false then ([], 2) else if (joinsC c).all (fun l => !decide (codeS s ∈ l)) then ([], 5) else (rivL c (codeS s), 0)
theorem any_some {c : Cy} {n : Nat} (hn : c.ps.length = n) (h8 : n ≤ 8) (x : Nat) : (reachL (tabOf c) (codesL c.ps) x).any (goesB (tabOf c) (codesL c.ps) n) = !(joinsC c).all fun l => !decide (x ∈ l) := by
  have hco : Codes n (codesL c.ps) := by rw [← hn]; exact codes_ok c.ps
  have h1 := some_iff (T := tabOf c) hco x
  rw [Bool.eq_iff_iff, List.any_eq_true]
  simp only [Bool.not_eq_true', List.all_eq_false, Bool.not_eq_false', decide_eq_true_eq, Bool.not_not]
  constructor
  · rintro ⟨a, ha, hg⟩
    obtain ⟨h2, h3, h4⟩ := (mem_reachL hco h8).1 ha
    obtain ⟨l, hl, hx⟩ := h1.1 ⟨a, h2, h3, h4, by simpa [goesB] using hg⟩
    exact ⟨l, by unfold joinsC; rw [hn]; exact hl, by simpa using hx⟩
  · rintro ⟨l, hl, hx⟩
    unfold joinsC at hl
    rw [hn] at hl
    obtain ⟨a, h2, h3, h4, h5⟩ := h1.2 ⟨l, hl, by simpa using hx⟩
    exact ⟨a, (mem_reachL hco h8).2 ⟨h2, h3, h4⟩, by simpa [goesB] using h5⟩
theorem any_rival {c : Cy} {n : Nat} (hn : c.ps.length = n) (h8 : n ≤ 8) (x y : Nat) : (reachL (tabOf c) (codesL c.ps) x).any (hitA (tabOf c) (codesL c.ps) n y) = (joinsC c).any fun l => hasP l x y := by
  have hco : Codes n (codesL c.ps) := by rw [← hn]; exact codes_ok c.ps
  have h1 := rival_iff (T := tabOf c) hco x y
  rw [Bool.eq_iff_iff, List.any_eq_true, List.any_eq_true]
  unfold joinsC
  rw [hn, ← h1]
  constructor
  · rintro ⟨a, ha, hg⟩
    obtain ⟨h2, h3, h4⟩ := (mem_reachL hco h8).1 ha
    obtain ⟨b, hb, hb2⟩ := List.any_eq_true.1 hg
    unfold hitB goesB at hb2
    simp only [Bool.and_eq_true, decide_eq_true_eq] at hb2
    exact ⟨a, h2, h3, h4, b, hb, hb2.1, hb2.2⟩
  · rintro ⟨a, h2, h3, h4, b, hb, h5, h6⟩
    refine ⟨a, (mem_reachL hco h8).2 ⟨h2, h3, h4⟩, List.any_eq_true.2 ⟨b, hb, ?_⟩⟩
    unfold hitB goesB
    simp only [Bool.and_eq_true, decide_eq_true_eq]
    exact ⟨h5, h6⟩

set_option maxRecDepth 100000 in
set_option maxHeartbeats 4000000 in
theorem riv32_bad (A : Option Addr) (n cap : Nat) (off lo hi : Int) (p : Int) (t : Bool) (ps : List Pc) (w : World) (h : Pcs w A n ps) (hn : n ≤ 9223372036854775807)  (he : chkC ⟨ps, off, ⟨lo, hi⟩⟩ ≠ 0) :
    Calls Try.prog 32 #[cyl A n cap off lo hi, .agg #[.int .i64 p, .bool t]] w fun e w' => e = .returned (.tuple #[.slice none 0 0, .int .i64 (chkC ⟨ps, off, ⟨lo, hi⟩⟩)]) ∧ Below w.heap.size w w' := by
  have X := (Cx.new (cap := cap) (off := off) (lo := lo) (hi := hi) h).next (below_alloc_ _ (.cells #[.int .i64 p, .bool t] 28))
  unfold cyl
  have X1 := X.next (below_alloc_ _ (.cells Try.zeroCells78 78))
  have Hn := Lib.hid hn
  go_enter Try.func32, Try.ntmps32
  obtain ⟨c0, c1, c2, c3, l0⟩ := X.c
  go_wp2_with fail
  refine (lay42_bad A n cap off lo hi ps _ X.pcs Hn.out he).mono ?_
  rintro e w2 ⟨rfl, hb⟩
  have X2 := (X.next hb).next (below_alloc_ _ (.cells Try.zeroCells78 78))
  have hz : (w2.alloc (.cells Try.zeroCells78 78)).heap[w2.heap.size]? = some (.cells Try.zeroCells78 78 (0, 0)) := hal_new rfl
  have hst := run_st78 hz zero_size zero_size zero_one
  have d : (chkC ⟨ps, off, ⟨lo, hi⟩⟩ != 0) = true := by rw [bne_iff_ne]; exact he
  have HX2 := Lib.hid X2.below
  have HB := Lib.hid (show w.heap.size ≤ w2.heap.size from Nat.le_trans X.below.size hb.size)
  clear c0 c1 c2 c3 l0 X X1 X2 hb hz he h hn
  go_wp2_with fail
  refine bodyPost_ret (v := .tuple #[.slice none 0 0, .int .i64 (chkC ⟨ps, off, ⟨lo, hi⟩⟩)]) (by simp [results, Try.results32, go_sem]) rfl ?_
  exact ⟨rfl, HX2.out.trans ((keeps_setRow _ _ _).below HX2.out.size (fun k hk e => by have := HB.out; omega))⟩

set_option maxRecDepth 100000 in
set_option maxHeartbeats 4000000 in
theorem riv32_ok (A : Option Addr) (n cap : Nat) (off lo hi : Int) (p : Int) (t : Bool) (ps : List Pc) (w : World) (h : Pcs w A n ps) (hn : n ≤ 9223372036854775807)  (he : chkC ⟨ps, off, ⟨lo, hi⟩⟩ = 0) :
    Calls Try.prog 32 #[cyl A n cap off lo hi, .agg #[.int .i64 p, .bool t]] w fun e w' => ∃ C m cp, e = .returned (.tuple #[.slice C m cp, .int .i64 (rivR ⟨ps, off, ⟨lo, hi⟩⟩ ⟨p, t⟩).2]) ∧ m ≤ cp ∧ Sts w' C m ((rivR ⟨ps, off, ⟨lo, hi⟩⟩ ⟨p, t⟩).1.map stC) ∧ Below w.heap.size w w' := by
  have X := (Cx.new (cap := cap) (off := off) (lo := lo) (hi := hi) h).next (below_alloc_ _ (.cells #[.int .i64 p, .bool t] 28))
  have hv := chkC_facts he
  have hlen := h.1
  unfold cyl
  have Hn := Lib.hid hn
  refine (callsIn_wide (n := 5)).1 ?_
  refine callsIn_of_wp_marks Try.func32 rfl trivial ?_ rfl
  simp only [Try.ntmps32, List.size_toArray, List.length_cons, List.length_nil, Nat.reduceAdd, Nat.reduceSub, Array.replicate_succ, Array.replicate_zero, List.push_toArray, List.append_toArray, List.nil_append, List.cons_append]
  obtain ⟨c0, c1, c2, c3, l0⟩ := X.c
  gi_wp2_with fail
  refine ⟨trivial, (callsIn_wide.2 (lay42_ok A n cap off lo hi ps _ X.pcs Hn.out he)).mono ?_⟩
  rintro e w2 ⟨Y, M, rfl, hY, hM, hMl, hb⟩
  have X2 := (X.next hb).next (below_alloc_ _ (.cells Try.zeroCells78 78))
  have hz : (w2.alloc (.cells Try.zeroCells78 78)).heap[w2.heap.size]? = some (.cells Try.zeroCells78 78 (0, 0)) := hal_new rfl
  have hst := run_st78 hz zero_size hY.size hY.one
  have hYr := setRow_same Y hz
  have hl := run_ld78 hYr hY.size
  have hk1 := keeps_setRow (w2.alloc (.cells Try.zeroCells78 78)) w2.heap.size Y
  have hws : w.heap.size ≤ w2.heap.size := Nat.le_trans X.below.size hb.size
  have hb4 : Below w.heap.size w ((w2.alloc (.cells Try.zeroCells78 78)).setRow w2.heap.size Y) := X2.below.trans (hk1.below X2.below.size (fun k hk e => by omega))
  have hMlt := lt_of_block hM
  have hm : Memo ((w2.alloc (.cells Try.zeroCells78 78)).setRow w2.heap.size Y) M 0 (tabOf ⟨ps, off, ⟨lo, hi⟩⟩) (codesL ps) n := Memo.new ((hk1.block M (lt_of_block (hal_old hM)) (fun e => by omega)).trans (hal_old hM)) _ _ _
  have hp := h.below hb4 (Nat.le_refl _)
  have hMw : w.heap.size ≤ M := Nat.le_trans X.below.size hMl
  have hn1 : 1 ≤ n := by have := hv; omega
  have hn8 : n ≤ 8 := by have := hv; omega
  have d : ((chkC ⟨ps, off, ⟨lo, hi⟩⟩) != 0) = false := by rw [he]; rfl
  have hstart : left n ⟨0, 0⟩ = n := left_start n 0
  have hcnt : cntA (tabOf ⟨ps, off, ⟨lo, hi⟩⟩) (codesL ps) n ⟨0, 0⟩ = (joinsC ⟨ps, off, ⟨lo, hi⟩⟩).length := by
    unfold cntA joinsC joins
    rw [left_start, hlen]
  obtain ⟨W4, hW4⟩ : ∃ W4, (w2.alloc (.cells Try.zeroCells78 78)).setRow w2.heap.size Y = W4 := ⟨_, rfl⟩
  rw [hW4] at hst hl hYr hb4 hm hp
  have HY := Lib.hid hY
  have Hhe := Lib.hid he
  have Hp := Lib.hid hp
  have Hm := Lib.hid hm
  have Hb4 := Lib.hid hb4
  have HYr := Lib.hid hYr
  have Hlen := Lib.hid hlen
  have Hcnt := Lib.hid hcnt
  have hst0 := X2.below
  have es : (w2.alloc (.cells Try.zeroCells78 78)).heap[w.heap.size + 1]? = some (.cells #[.int .i64 p, .bool t] 28 (0, 0)) := hal_old ((hb.block _ (by simp)).trans (hal_new (by simp)))
  have es2 : w2.heap.size ≠ w.heap.size + 1 := by have := hb.size; simp only [World.size_alloc] at this; omega
  have hes := (hk1.block _ (lt_of_block es) (fun e => es2 e.symm)).trans es
  rw [hW4] at hes
  have Hes := Lib.hid hes
  clear hst0 es es2 hes
  clear c0 c1 c2 c3 l0 X X2 hb hY hM hMl h hv hz hk1 hb4 hW4 hm hp hYr hlen hcnt hn hMlt
  clear he
  have s0 : W4.cell? ⟨w.heap.size + 1, 0, none⟩ = some (.int .i64 p) := by rw [cell_row Hes.out]; rfl
  have s1 : W4.cell? ⟨w.heap.size + 1, 1, none⟩ = some (.bool t) := by rw [cell_row Hes.out]; rfl
  gi_wp2_with fail
  refine ⟨trivial, (callsIn_wide.2 (strange43 Y A n cap off lo hi _ M ps p t _ HY.out Hp.out)).mono ?_⟩
  rintro e w3 ⟨rfl, hb3⟩
  have hk3 : Keeps (fun _ => False) W4 w3 := Keeps.of_new hb3
  have hb5 : Below w.heap.size w w3 := Hb4.out.trans (hb3.mono Hb4.out.size)
  have Hk3 := Lib.hid hk3
  have Hb5 := Lib.hid hb5
  have hY3 := (hk3.block _ (lt_of_block HYr.out) (fun e => e)).trans HYr.out
  have hS3 := (hk3.block _ (lt_of_block Hes.out) (fun e => e)).trans Hes.out
  clear hst hl s0 s1 hb3 hk3 hb5
  cases hsB : stepB ps ⟨p, t⟩ with
  | false =>
    have HR := Lib.hid (show rivR ⟨ps, off, ⟨lo, hi⟩⟩ ⟨p, t⟩ = ([], 2) by unfold rivR; rw [if_neg (by simpa using Hhe.out), if_pos hsB])
    have hnb : (!false) = true := rfl
    clear hsB
    gi_wp2_with fail
    refine ⟨.tuple #[.slice none 0 0, .int .i64 2], by simp [results, Try.results32, go_sem], none, 0, 0, by rw [HR.out], Nat.le_refl _, ⟨by rw [HR.out]; rfl, by omega⟩, Hb5.out⟩
  | true =>
    obtain ⟨hp0, hp1⟩ := step_facts hsB
    obtain ⟨k, rfl⟩ := Int.eq_ofNat_of_zero_le hp0
    have hnb : (!true) = false := rfl
    have l78 : runO Try.prog (ld 78) (.pointer (some ⟨w2.heap.size, 0, none⟩)) w3 = .ok (.value (.agg Y)) w3 := run_ld78 hY3 HY.out.size
    have s0 : w3.cell? ⟨w.heap.size + 1, 0, none⟩ = some (.int .i64 (k : Int)) := by rw [cell_row hS3]; rfl
    have s1 : w3.cell? ⟨w.heap.size + 1, 1, none⟩ = some (.bool t) := by rw [cell_row hS3]; rfl
    have HsB := Lib.hid hsB
    have HY3 := Lib.hid hY3
    have HS3 := Lib.hid hS3
    clear hsB hY3 hS3
    gi_wp2_with fail
    rename_i Qr K0 hK0
    have hco : Codes n (codesL ps) := by have h := codes_ok ps; rw [Hlen.out] at h; exact h
    obtain ⟨x, hx⟩ : ∃ x, x = (if t then 2 * k + 1 else 2 * k) := ⟨_, rfl⟩
    have hk8 : k < 8 := by have h1 : (k : Int) < (ps.length : Int) := hp1; have := Hlen.out; omega
    have hx16 : x < 16 := by rw [hx]; split <;> omega
    have hcx : codeS ⟨(k : Int), t⟩ = x := by unfold codeS; simp only [Int.toNat_natCast]; exact hx.symm
    obtain ⟨g, hg⟩ : ∃ g, (reachL (tabOf ⟨ps, off, ⟨lo, hi⟩⟩) (codesL ps) x).any (goesB (tabOf ⟨ps, off, ⟨lo, hi⟩⟩) (codesL ps) n) = g := ⟨_, rfl⟩
    have hYM : w2.heap.size ≠ M := fun e => by
      have h1 := HYr.out
      obtain ⟨es, cl, h2⟩ := Hm.out.isMap
      rw [e, h2] at h1
      cases h1
    have hws3 := Hk3.out.size
    have hY2 := lt_of_block HYr.out
    have hS2 := lt_of_block Hes.out
    have hM4 := Hm.out.lt
    have hneed := pcs_lt Hp.out (by omega)
    have hMn := fun o => pcs_not_map Hp.out (by omega) Hm.out o
    have Hx := Lib.hid hx
    have Hg := Lib.hid hg
    have Hco := Lib.hid hco
    have Hcx := Lib.hid hcx
    have hSM : w.heap.size + 1 ≠ M := fun e => by
      have h1 := Hes.out
      obtain ⟨es, cl, h2⟩ := Hm.out.isMap
      rw [e, h2] at h1
      cases h1
    clear hx hg hco hcx l78 s0 s1
    have rest : ∀ (v8 v24 v25 v26 v27 v28 v29 v30 v31 v32 : Value) (W' : World), Keeps (fun j => j = M) w3 W' → Memo W' M (0 + 5000 * 17 ^ 9) (tabOf ⟨ps, off, ⟨lo, hi⟩⟩) (codesL ps) n → K0 { tmps := #[.agg #[.slice A n cap, .int .i64 off, .int .i64 lo, .int .i64 hi], .agg #[.int .i64 (k : Int), .bool t], .pointer (some ⟨w.heap.size, 0, none⟩), .pointer (some ⟨w.heap.size + 1, 0, none⟩), .slice none 0 0, .int .i64 0, .pointer (some ⟨w2.heap.size, 0, none⟩), .int .i64 0, v8, .bool g, undef, undef, undef, .tuple #[.agg Y, .int .i64 0], .agg #[.slice A n cap, .int .i64 off, .int .i64 lo, .int .i64 hi], .tuple #[.agg Y, .int .i64 0], .agg Y, .int .i64 0, .int .i64 0, .bool false, undef, .agg Y, .agg #[.int .i64 (k : Int), .bool t], .bool false, v24, v25, v26, v27, v28, v29, v30, v31, v32, undef, undef, undef, undef, undef, undef, undef, undef, undef, undef, undef, undef, undef, undef, undef, undef, undef], defers := [] } W' := by
      intro v8 v24 v25 v26 v27 v28 v29 v30 v31 v32 W' hkW hmW
      refine hK0 _ _ ?_
      clear hK0
      have hgc := any_some (c := ⟨ps, off, ⟨lo, hi⟩⟩) Hlen.out hn8 x
      simp only at hgc
      rw [Hg.out] at hgc
      have hYW := (hkW.block _ (lt_of_block HY3.out) hYM).trans HY3.out
      have hSW := (hkW.block _ (lt_of_block HS3.out) hSM).trans HS3.out
      have l78 : runO Try.prog (ld 78) (.pointer (some ⟨w2.heap.size, 0, none⟩)) W' = .ok (.value (.agg Y)) W' := run_ld78 hYW HY.out.size
      have s0 : W'.cell? ⟨w.heap.size + 1, 0, none⟩ = some (.int .i64 (k : Int)) := by rw [cell_row hSW]; rfl
      have s1 : W'.cell? ⟨w.heap.size + 1, 1, none⟩ = some (.bool t) := by rw [cell_row hSW]; rfl
      have hbW : Below w.heap.size w W' := Hb5.out.trans (hkW.below Hb5.out.size (fun j hj e => by omega))
      have HbW := Lib.hid hbW
      have HkW := Lib.hid hkW
      have HmW := Lib.hid hmW
      have HYW := Lib.hid hYW
      have hpW := (Hp.out.keep Hk3.out (fun _ _ e => e.elim)).keep hkW (fun j o e h => by subst e; exact hMn o h)
      have HpW := Lib.hid hpW
      clear hbW hkW hmW hYW hSW hpW
      cases g with
      | false =>
        have hall : (joinsC ⟨ps, off, ⟨lo, hi⟩⟩).all (fun l => !decide (x ∈ l)) = true := by
          cases h : (joinsC ⟨ps, off, ⟨lo, hi⟩⟩).all (fun l => !decide (x ∈ l)) with
          | true => rfl
          | false => rw [h] at hgc; cases hgc
        have HR := Lib.hid (show rivR ⟨ps, off, ⟨lo, hi⟩⟩ ⟨(k : Int), t⟩ = ([], 5) by unfold rivR; rw [if_neg (by simpa using Hhe.out), if_neg (by rw [HsB.out]; simp), Hcx.out, if_pos hall])
        clear hall hgc
        gi_wp2_with fail
        refine ⟨.tuple #[.slice none 0 0, .int .i64 5], by simp [results, Try.results32, go_sem], none, 0, 0, by rw [HR.out], Nat.le_refl _, ⟨by rw [HR.out]; rfl, by omega⟩, HbW.out⟩
      | true =>
        have hall : (joinsC ⟨ps, off, ⟨lo, hi⟩⟩).all (fun l => !decide (x ∈ l)) = false := by
          cases h : (joinsC ⟨ps, off, ⟨lo, hi⟩⟩).all (fun l => !decide (x ∈ l)) with
          | false => rfl
          | true => rw [h] at hgc; cases hgc
        have HR := Lib.hid (show rivR ⟨ps, off, ⟨lo, hi⟩⟩ ⟨(k : Int), t⟩ = (rivL ⟨ps, off, ⟨lo, hi⟩⟩ x, 0) by unfold rivR; rw [if_neg (by simpa using Hhe.out), if_neg (by rw [HsB.out]; simp), Hcx.out, if_neg (by rw [hall]; simp)])
        clear hall hgc
        gi_wp2_with fail
        refine ⟨trivial, (callsIn_wide.2 (rivals61 Y A n cap off lo hi _ M k x _ t ps W' HY.out HpW.out HmW.out (by decide) hn1 hn8 Hx.out hx16)).mono ?_⟩
        rintro e w6 ⟨rfl, hk6⟩
        obtain ⟨f, hf⟩ : ∃ f : Nat → Bool, (fun j => (reachL (tabOf ⟨ps, off, ⟨lo, hi⟩⟩) (codesL ps) x).any (hitA (tabOf ⟨ps, off, ⟨lo, hi⟩⟩) (codesL ps) n j)) = f := ⟨_, rfl⟩
        rw [hf]
        have kA := keep_alloc (fun _ => False) w6 (.cells #[.bool false, .bool false, .bool false, .bool false, .bool false, .bool false, .bool false, .bool false, .bool false, .bool false, .bool false, .bool false, .bool false, .bool false, .bool false, .bool false] 73)
        have nA := heap_alloc_new_ w6 (.cells #[.bool false, .bool false, .bool false, .bool false, .bool false, .bool false, .bool false, .bool false, .bool false, .bool false, .bool false, .bool false, .bool false, .bool false, .bool false, .bool false] 73)
        have sA := eq_le (World.size_alloc w6 (.cells #[.bool false, .bool false, .bool false, .bool false, .bool false, .bool false, .bool false, .bool false, .bool false, .bool false, .bool false, .bool false, .bool false, .bool false, .bool false, .bool false] 73))
        obtain ⟨Wa, hWa⟩ : ∃ Wa, w6.alloc (.cells #[.bool false, .bool false, .bool false, .bool false, .bool false, .bool false, .bool false, .bool false, .bool false, .bool false, .bool false, .bool false, .bool false, .bool false, .bool false, .bool false] 73) = Wa := ⟨_, rfl⟩
        rw [hWa] at kA nA sA
        have s73 := run_st73 nA rfl (row16_size f) (row16_one f)
        have kB := keeps_setRow Wa w6.heap.size (row16 f)
        have nB := setRow_same (row16 f) nA
        have sB := eq_le (setRow_size Wa w6.heap.size (row16 f))
        obtain ⟨Wb, hWb⟩ : ∃ Wb, Wa.setRow w6.heap.size (row16 f) = Wb := ⟨_, rfl⟩
        rw [hWb] at s73 kB nB sB
        have kC := keep_alloc (fun _ => False) Wb (.cells #[.slice none 0 0] 29)
        have nC := heap_alloc_new_ Wb (.cells #[.slice none 0 0] 29)
        have sC := eq_le (World.size_alloc Wb (.cells #[.slice none 0 0] 29))
        obtain ⟨Wc, hWc⟩ : ∃ Wc, Wb.alloc (.cells #[.slice none 0 0] 29) = Wc := ⟨_, rfl⟩
        rw [hWc] at kC nC sC
        have hs6 := hk6.size
        have hYs : w2.heap.size < w3.heap.size := by omega
        have hWs := HkW.out.size
        have hYc := (kC.block _ (by omega) (fun e => e)).trans ((kB.block _ (by omega) (by omega)).trans ((kA.block _ (by omega) (fun e => e)).trans ((hk6.block _ (by omega) hYM).trans HYW.out)))
        have l78c : runO Try.prog (ld 78) (.pointer (some ⟨w2.heap.size, 0, none⟩)) Wc = .ok (.value (.agg Y)) Wc := run_ld78 hYc HY.out.size
        have nBc := (kC.block _ (lt_of_block nB) (fun e => e)).trans nB
        have hpc := (((HpW.out.keep hk6 (fun j o e h => by subst e; exact hMn o h)).keep kA (fun _ _ e => e.elim)).keep kB (fun j o e h => by subst e; have := hneed _ ⟨o, h⟩; omega)).keep kC (fun _ _ e => e.elim)
        have kABC : Keeps (fun j => j = M ∨ w.heap.size ≤ j) W' Wc := (((hk6.mono (fun j _ e => .inl e)).trans kA.none).trans (kB.mono (fun j _ e => .inr (by omega)))).trans kC.none
        have Hf := Lib.hid hf
        have HNB := Lib.hid nBc
        have HNC := Lib.hid nC
        have HPC := Lib.hid hpc
        have HABC := Lib.hid kABC
        have hszc := hWc
        clear hk6 kA nA kB nB kC nC hYc nBc hpc kABC hf l78 s0 s1 hszc
        gi_wp2_with fail
        refine ⟨trivial, (callsIn_wide.2 (steps57 _ _)).mono ?_⟩
        rintro e w9 ⟨rfl, rfl⟩
        gi_wp2_with fail
        have hK9 := keep_alloc (fun _ => False) Wc (.cells Y 78)
        have hN9 := heap_alloc_new_ Wc (.cells Y 78)
        have hs9 := eq_le (World.size_alloc Wc (.cells Y 78))
        obtain ⟨W9, hW9⟩ : ∃ W9, Wc.alloc (.cells Y 78) = W9 := ⟨_, rfl⟩
        rw [hW9] at hK9 hN9 hs9 ⊢
        clear hW9 hWa hWb hWc l78c s73
        have hp9 := HPC.out.keep hK9 (fun _ _ e => e.elim)
        have H9R := Lib.hid ((hK9.block _ (lt_of_block HNB.out) (fun e => e)).trans HNB.out)
        have h9F := (hK9.block _ (lt_of_block HNC.out) (fun e => e)).trans HNC.out
        have H9K := Lib.hid hK9
        have hcl : (codesL ps).length ≤ 16 := Nat.le_trans (codes_len_ ps ps.length) (by have := Hlen.out; omega)
        have hc16 : ∀ y ∈ codesL ps, y < 16 := fun y hy => by have := Hco.out y hy; omega
        clear hK9
        refine wpIn_rangeO (gf := 72) (lb := #[.pointer (some ⟨Wc.heap.size, 0, none⟩)]) rfl (enters_of Try.func72 (by kernel_rfl) rfl) (steps_seqO Y A n cap off lo hi _ M Wc.heap.size ps W9 hN9 HY.out hp9 hn8)
          (fun k h => by have := hneed k h; omega) (fun _ => rfl) (fun j => j = Wb.heap.size) (by
            rintro k rfl
            exact ⟨by omega, fun h => by have := hneed _ h; omega⟩)
          (fun pre => SoI Wb.heap.size W9 (pre.filter f)) (fun _ _ _ _ => False) (fun pre => SoI.ab (by omega) (Nat.le_refl _)) (fun _ _ _ _ _ h _ => h) ?start ?round ?done ?stop
        case start => exact ⟨_, h9F, own_nil _ _ _, fun k e => (by cases e), Keeps.refl _ _⟩
        case stop => rintro D c pre y post V' O _ _ _ _ _ h; exact h.elim
        case done =>
          rintro D V' O hD hDW hDO hOs ⟨v, hv1, hv2, hv3, hv4⟩ hKd
          have c7 : V'.cell? ⟨Wb.heap.size, 0, none⟩ = some v := by rw [cell_row hv1]; rfl
          have HKd := Lib.hid hKd
          have HV := Lib.hid hv2
          have HK' := Lib.hid hv4
          have HV3 := Lib.hid hv3
          clear hKd hv1 hv2 hv4 hv3
          gi_wp2_with fail
          refine ⟨by simp, .inl ⟨_, _, rfl, run_takeDeferred HKd.out, ?_⟩⟩
          have q4 := Keeps.putObj (Mut := fun j => j = D) V' D (.deferred none) rfl
          have hve := own_keep HV.out q4 (fun k hk e => by subst e; exact hDO (HV3.out k hk))
          obtain ⟨C, cp, rfl, hcp, hpr⟩ := sts_own hve
          have hfl : (codesL ps).filter f = rivL ⟨ps, off, ⟨lo, hi⟩⟩ x := by
            unfold rivL
            rw [← Hf.out]
            exact List.filter_congr (fun y _ => any_rival (c := ⟨ps, off, ⟨lo, hi⟩⟩) Hlen.out hn8 x y)
          rw [hfl] at hcp hpr ⊢
          refine ⟨.tuple #[.slice C (rivL ⟨ps, off, ⟨lo, hi⟩⟩ x).length cp, .int .i64 0], by simp [results, Try.results32, go_sem], C, _, cp, by rw [HR.out], hcp, by rw [HR.out]; exact hpr, ?_⟩
          have k1 : Keeps (fun j => j = M ∨ w.heap.size ≤ j) W' (V'.putObj D (.deferred none)) := ((HABC.out.trans H9K.out.none).trans (HK'.out.mono (fun j _ e => .inr (by omega)))).trans (q4.mono (fun j _ e => .inr (by omega)))
          exact HbW.out.trans (k1.below HbW.out.size (fun j hj e => by omega))
        case round =>
          intro l pre y post W2 O hxs hl1 hl2 hr hO hI m
          obtain ⟨q, u, hE, _, hy⟩ := stE_form y
          rw [hE]
          have hym : y ∈ codesL ps := by rw [hxs]; simp
          have hy16 := hc16 y hym
          have hq8 : q < 8 := by cases u <;> simp at hy <;> omega
          have hpl : (pre.filter f).length ≤ 1000 := by
            have h2 := congrArg List.length hxs
            rw [List.length_append] at h2
            have h3 := List.length_filter_le f pre
            omega
          have Hy := Lib.hid hy
          have Hby := Lib.hid (heap_alloc_new_ W2 (.cells #[.int .i64 (q : Int), .bool u] 28))
          clear hE hy hxs hr hI
          gi_wp2_with fail
          refine ⟨keep_alloc _ _ _, ?_⟩
          intro We hBe hIe
          obtain ⟨v, hv1, hv2, hv3, hv4⟩ := hIe
          have hse := hBe.keeps.size
          simp only [World.size_alloc] at hse
          have hto := (hBe.keeps.block _ (by simp) (by omega)).trans Hby.out
          have hRe := (hv4.block _ (lt_of_block H9R.out) (by omega)).trans H9R.out
          have kV := keep_alloc (fun _ => False) We (.cells #[.int .i64 (q : Int), .bool u] 28)
          have sV := eq_le (World.size_alloc We (.cells #[.int .i64 (q : Int), .bool u] 28))
          obtain ⟨V, hV⟩ : ∃ V, We.alloc (.cells #[.int .i64 (q : Int), .bool u] 28) = V := ⟨_, rfl⟩
          have hbc := code_any Hy.out (show q ≤ 1000 by omega) We
          have y0 : We.cell? ⟨W2.heap.size, 0, none⟩ = some (.int .i64 (q : Int)) := by rw [cell_row hto]; rfl
          have y1 : We.cell? ⟨W2.heap.size, 1, none⟩ = some (.bool u) := by rw [cell_row hto]; rfl
          rw [hV] at kV sV hbc
          have hFv := (kV.block _ (lt_of_block hv1) (fun e => e)).trans hv1
          have hvo := own_keep hv2 kV (fun _ _ e => e)
          have hRv := (kV.block _ (lt_of_block hRe) (fun e => e)).trans hRe
          have htv := (kV.block _ (lt_of_block hto) (fun e => e)).trans hto
          have HV1 := Lib.hid hFv
          have HV2 := Lib.hid hvo
          have HV3 := Lib.hid hv3
          have HV4 := Lib.hid hv4
          have HRv := Lib.hid hRv
          have Htv := Lib.hid htv
          have KV := Lib.hid kV
          have HO := Lib.hid hO
          clear hBe hv1 hv2 hv3 hv4 hO hto hRe kV hFv hvo hRv htv hV
          gi_wp2_with fail
          refine ⟨trivial, wide_d, CallsIn.inRound l ((callsIn_wide.2 hbc).mono ?_)⟩
          rintro e Vd ⟨rfl, rfl⟩
          have il0 : (0 : Int) ≤ (y : Int) := by omega
          have il1 : (y : Int) < 16 := by omega
          have cR : Vd.cell? ⟨w6.heap.size, y, none⟩ = some (.bool (f y)) := by rw [cell_row HRv.out]; exact row16_at _ _ hy16
          clear hbc y0 y1
          cases hfy : f y with
          | false =>
            rw [hfy] at cR
            have Hfy := Lib.hid hfy
            clear hfy
            gi_wp2_with fail
            refine ⟨O, Grow.refl _ _ _, KV.out.none, v, HV1.out, ?_, HV3.out, HV4.out.trans KV.out.none⟩
            rw [List.filter_append, List.filter_cons, if_neg (by rw [Hfy.out]; simp), List.filter_nil, List.append_nil]
            exact HV2.out
          | true =>
            rw [hfy] at cR
            have Hfy := Lib.hid hfy
            have z0 : Vd.cell? ⟨W2.heap.size, 0, none⟩ = some (.int .i64 (q : Int)) := by rw [cell_row Htv.out]; rfl
            have z1 : Vd.cell? ⟨W2.heap.size, 1, none⟩ = some (.bool u) := by rw [cell_row Htv.out]; rfl
            have z2 : Vd.cell? ⟨Wb.heap.size, 0, none⟩ = some v := by rw [cell_row HV1.out]; rfl
            have kU := keep_alloc (fun _ => False) Vd (.cells #[.int .i64 (q : Int), .bool u] 28)
            have nU := heap_alloc_new_ Vd (.cells #[.int .i64 (q : Int), .bool u] 28)
            have sU := eq_le (World.size_alloc Vd (.cells #[.int .i64 (q : Int), .bool u] 28))
            obtain ⟨U, hU⟩ : ∃ U, Vd.alloc (.cells #[.int .i64 (q : Int), .bool u] 28) = U := ⟨_, rfl⟩
            rw [hU] at kU nU sU
            obtain ⟨v3, U2, hap, how, hkU, hbl⟩ := app_one Try.underlying29 info28_ rfl (by omega) (by omega) (own_keep HV2.out kU (fun _ _ e => e)) (vals := [.int .i64 (q : Int), .bool u]) rfl nU (by simp [Value.oneCell']) (Nat.le_trans hpl (by omega))
            have hap2 := run_app hap
            have hFn : v.ownBlock ≠ some Wb.heap.size := fun e => by have := HO.out _ (HV3.out _ e); omega
            have hUF := (kU.block _ (lt_of_block HV1.out) (fun e => e)).trans HV1.out
            have hU2F := (hkU.block _ (lt_of_block hUF) (fun e => hFn e)).trans hUF
            have cU2 : U2.cell? ⟨Wb.heap.size, 0, none⟩ = some v := by rw [cell_row hU2F]; rfl
            have fU2 : U2.frozen? ⟨Wb.heap.size, 0, none⟩ = false := frozen_row hU2F
            have hone : v3.oneCell' = true := by
              rcases how.2 with ⟨e, _⟩ | ⟨_, _, _, e, _⟩ <;> rw [e] <;> rfl
            have hst1 := store1 Wb.heap.size 0 v3 U2 (by rw [cU2]; rfl) fU2 hone
            have HU := Lib.hid kU
            have HKU := Lib.hid hkU
            have HBL := Lib.hid hbl
            have HOW := Lib.hid how
            have HU2F := Lib.hid hU2F
            clear hfy kU nU hkU hbl how hUF hU2F hap
            gi_wp2_with fail
            rw [hst1]
            gi_wp2_with fail
            have hset := keeps_setCell U2 Wb.heap.size 0 v3
            have hsU2 := HKU.out.size
            have hs3 := hset.size
            have kAll : Keeps (fun k => k = Wb.heap.size ∨ O k) We (U2.setCell ⟨Wb.heap.size, 0, none⟩ v3) := ((KV.out.none.trans HU.out.none).trans (HKU.out.mono (fun k _ e => .inr (HV3.out k e)))).trans (hset.mono (fun k _ e => .inl e))
            refine ⟨fun k => O k ∨ (v3.ownBlock = some k ∧ Vd.heap.size ≤ k ∧ k < U2.heap.size), ⟨fun k h => .inl h, fun k h => h.elim .inl (fun h => .inr ⟨by omega, by omega⟩)⟩, kAll, v3, ?_, ?_, ?_, ?_⟩
            · rw [set_same 0 _ HU2F.out]; rfl
            · rw [List.filter_append, List.filter_cons, if_pos Hfy.out, List.filter_nil]
              have h1 := own_keep HOW.out hset (fun k hk e => by
                subst e
                rcases HBL.out with h2 | ⟨h2, h3⟩
                · exact hFn (by rw [← h2]; exact hk)
                · rw [h2] at hk; have := Option.some.inj hk; omega)
              rw [List.length_append]
              have h4 : flatS (pre.filter f ++ [y]) = flatS (pre.filter f) ++ [.int .i64 (q : Int), .bool u] := by
                unfold flatS
                rw [List.flatMap_append]
                simp only [List.flatMap_cons, List.flatMap_nil, List.append_nil, cellS_of Hy.out]
              rw [h4]
              exact h1
            · intro k hk
              rcases HBL.out with h2 | ⟨h2, h3⟩
              · rw [h2] at hk
                exact .inl (HV3.out k hk)
              · refine .inr ⟨hk, ?_, own_lt HOW.out k hk⟩
                rw [h2] at hk; have := Option.some.inj hk; omega
            · exact (HV4.out.mono (Mut' := fun k => k = Wb.heap.size ∨ O k) (fun _ _ e => .inl e)).trans kAll |>.mono (fun k hk e => e.elim id (fun e => by have := HO.out k e; omega))
    have Rest := Lib.hid rest
    clear rest hK0
    have hld : ∀ W', Keeps (fun j => j = M) w3 W' → runO Try.prog (ld 78) (.pointer (some ⟨w2.heap.size, 0, none⟩)) W' = .ok (.value (.agg Y)) W' ∧ W'.cell? ⟨w.heap.size + 1, 0, none⟩ = some (.int .i64 (k : Int)) ∧ W'.cell? ⟨w.heap.size + 1, 1, none⟩ = some (.bool t) := fun W' hk => by
      have h1 := (hk.block _ (lt_of_block HY3.out) hYM).trans HY3.out
      have h2 := (hk.block _ (lt_of_block HS3.out) hSM).trans HS3.out
      exact ⟨run_ld78 h1 HY.out.size, by rw [cell_row h2]; rfl, by rw [cell_row h2]; rfl⟩
    have Hld := Lib.hid hld
    clear hld
    refine Code.wpIn_mono (Q := Exit.then K0 (fun _ _ _ => False)) (fun e a w h => by
      cases e with
      | normal => exact h
      | ret => exact h.elim
      | exit id => exact h.elim
      | goto l => exact h.elim
      | panic c => exact h.elim
      | outgrown => exact h.elim) ?_
    refine Out.region_R (z := 11) (S := fun W' => Keeps (fun j => j = M) w3 W' ∧ runO Try.prog (ld 78) (.pointer (some ⟨w2.heap.size, 0, none⟩)) W' = .ok (.value (.agg Y)) W' ∧ W'.cell? ⟨w.heap.size + 1, 0, none⟩ = some (.int .i64 (k : Int)) ∧ W'.cell? ⟨w.heap.size + 1, 1, none⟩ = some (.bool t)) (by kernel_rfl) ?_
    have mkS : ∀ W', Keeps (fun j => j = M) w3 W' → (fun W' => Keeps (fun j => j = M) w3 W' ∧ runO Try.prog (ld 78) (.pointer (some ⟨w2.heap.size, 0, none⟩)) W' = .ok (.value (.agg Y)) W' ∧ W'.cell? ⟨w.heap.size + 1, 0, none⟩ = some (.int .i64 (k : Int)) ∧ W'.cell? ⟨w.heap.size + 1, 1, none⟩ = some (.bool t)) W' := fun W' hk => ⟨hk, Hld.out W' hk⟩
    have hk1 : Keeps (fun j => j = M) w3 w3.drew := Keeps.of_new (drew_b w3 1)
    obtain ⟨W1, hW1⟩ : ∃ W1, w3.drew = W1 := ⟨_, rfl⟩
    rw [hW1] at hk1 ⊢
    have hS1 := mkS W1 hk1
    have hs31 := hk1.size
    have MkS := Lib.hid mkS
    clear mkS
    have hkd : Keeps (fun _ => False) w3 W1 := by rw [← hW1]; exact Keeps.of_new (drew_b w3 1)
    clear hW1
    refine Out.anyR_take (i := 0) (oi := { dst := some 25, op := Op.load 78 (Operand.tmp 6), type := 78, pos := "join.go:122", after := #[], guard := none }) (v := .agg Y) rfl (by decide) (by kernel_rfl) (by kernel_rfl) (by kernel_rfl) (by kernel_rfl) (fun _ _ _ h => h) (Or.inl ⟨by rfl, by intro W' hSw; (try dsimp only at hSw); obtain ⟨_, q1, q2, q3⟩ := hSw; go_simp⟩) hS1 ?_
    simp only [Act.put, List.setIfInBounds_toArray, List.set_cons_zero, List.set_cons_succ]
    refine Out.anyR_take (i := 1) (oi := { dst := some 26, op := Op.load 28 (Operand.tmp 3), type := 28, pos := "join.go:122", after := #[], guard := none }) (v := .agg #[.int .i64 (k : Int), .bool t]) rfl (by decide) (by kernel_rfl) (by kernel_rfl) (by kernel_rfl) (by kernel_rfl) (fun _ _ _ h => h) (Or.inl ⟨by rfl, by intro W' hSw; (try dsimp only at hSw); obtain ⟨_, q1, q2, q3⟩ := hSw; go_simp⟩) hS1 ?_
    simp only [Act.put, List.setIfInBounds_toArray, List.set_cons_zero, List.set_cons_succ]
    refine Out.anyR_take (i := 3) (oi := { dst := some 28, op := Op.load 78 (Operand.tmp 6), type := 78, pos := "join.go:122", after := #[], guard := none }) (v := .agg Y) rfl (by decide) (by kernel_rfl) (by kernel_rfl) (by kernel_rfl) (by kernel_rfl) (fun _ _ _ h => h) (Or.inl ⟨by rfl, by intro W' hSw; (try dsimp only at hSw); obtain ⟨_, q1, q2, q3⟩ := hSw; go_simp⟩) hS1 ?_
    simp only [Act.put, List.setIfInBounds_toArray, List.set_cons_zero, List.set_cons_succ]
    refine Out.anyR_free (i := 4) (oi := { dst := some 29, op := Op.makeFunc (Fn.func 55) #[Operand.tmp 28] #[], type := 96, pos := "join.go:122", after := #[{ on := 3, ground := Ground.data }], guard := none }) (v := .func (.func 55) #[.agg Y] #[]) rfl (by decide) (by kernel_rfl) (by kernel_rfl) (by kernel_rfl) (fun _ _ _ h => h) (Or.inl ⟨by rfl, by intro W' hSw; go_simp⟩) hS1 ?_
    simp only [Act.put, List.setIfInBounds_toArray, List.set_cons_zero, List.set_cons_succ]
    have k1 : Keeps (fun j => j = M) w3 W1 := hk1
    have m1 := (Hm.out.keep Hk3.out (fun e => e)).keep (Mut := fun j => False) hkd (fun e => e)
    have p1 := (Hp.out.keep Hk3.out (fun _ _ e => e.elim)).keep (Mut := fun j => False) hkd (fun _ _ e => e.elim)
    refine Out.anyR_two (i := 2) (j := 9) (by kernel_rfl) rfl rfl (by rfl) (by rfl) ?callFirst ?allocFirst
    case callFirst =>
      intro K hK
      have HKK := Lib.hid hK
      clear hK
      go_simp
      have kaVa : Keeps (fun _ => False) W1 ((W1.alloc (.cells Y 78)).alloc (.cells #[.int .i64 (k : Int), .bool t] 28)) := (keep_alloc _ _ _).trans (keep_alloc _ _ _)
      have hbVa : ((W1.alloc (.cells Y 78)).alloc (.cells #[.int .i64 (k : Int), .bool t] 28)).heap[W1.heap.size]? = some (.cells Y 78 (0, 0)) := hal_old (heap_alloc_new_ _ _)
      have hsVa : ((W1.alloc (.cells Y 78)).alloc (.cells #[.int .i64 (k : Int), .bool t] 28)).heap[W1.heap.size + 1]? = some (.cells #[.int .i64 (k : Int), .bool t] 28 (0, 0)) := hal_new (by simp)
      obtain ⟨Va, eVa⟩ : ∃ V, (W1.alloc (.cells Y 78)).alloc (.cells #[.int .i64 (k : Int), .bool t] 28) = V := ⟨_, rfl⟩
      refine ⟨trivial, (callsIn_wide.2 (reached60 Y (k : Int) t W1)).mono ?_⟩
      rintro e V' ⟨rfl, rfl⟩
      rw [eVa] at kaVa hbVa hsVa ⊢
      clear eVa
      have kVa : Keeps (fun j => j = M) w3 Va := k1.trans kaVa.none
      have mVa := m1.keep kaVa (fun e => e)
      have pVa := p1.keep kaVa (fun _ _ e => e.elim)
      refine HKK.out _ _ (fun _ _ => MkS.out _ kVa) ?_
      clear HKK K
      refine Out.anyR_two (i := 5) (j := 9) (by kernel_rfl) rfl rfl (by rfl) (by rfl) ?callNext ?allocNext
      case callNext =>
        intro K hK
        have HKK := Lib.hid hK
        clear hK
        go_simp
        refine ⟨trivial, (callsIn_wide.2 (first59 Y A n cap off lo hi _ M W1.heap.size (W1.heap.size + 1) k x 0 t ps Va hbVa HY.out hsVa pVa mVa (by decide) hn1 hn8 Hx.out hx16)).mono ?_⟩
        rintro e Vb ⟨⟨p9, t9, q9, rfl⟩, mVb, kfVb⟩
        rw [Hg.out]
        have kVb : Keeps (fun j => j = M) w3 Vb := kVa.trans kfVb
        have hSC := MkS.out _ kVb
        refine HKK.out _ _ (fun _ _ => hSC) ?_
        clear HKK K
        refine Out.anyR_free (i := 6) (oi := { dst := some 24, op := Op.move (Operand.tmp 30), type := 103, pos := "join.go:122", after := #[{ on := 5, ground := Ground.data }], guard := none }) (v := .tuple #[.agg #[.int .i64 (p9 : Int), .bool t9, .int .u64 (q9 : Int)], .bool g]) rfl (by decide) (by kernel_rfl) (by kernel_rfl) (by kernel_rfl) (fun _ _ _ h => h) (Or.inl ⟨by rfl, by intro W' hSw; go_simp⟩) hSC ?_
        simp only [Act.put, List.setIfInBounds_toArray, List.set_cons_zero, List.set_cons_succ]
        refine Out.anyR_free (i := 7) (oi := { dst := some 31, op := Op.extract (Operand.tmp 24) 0, type := 91, pos := "join.go:122", after := #[{ on := 6, ground := Ground.data }], guard := none }) (v := .agg #[.int .i64 (p9 : Int), .bool t9, .int .u64 (q9 : Int)]) rfl (by decide) (by kernel_rfl) (by kernel_rfl) (by kernel_rfl) (fun _ _ _ h => h) (Or.inl ⟨by rfl, by intro W' hSw; go_simp⟩) hSC ?_
        simp only [Act.put, List.setIfInBounds_toArray, List.set_cons_zero, List.set_cons_succ]
        refine Out.anyR_free (i := 8) (oi := { dst := some 32, op := Op.extract (Operand.tmp 24) 1, type := 4, pos := "join.go:122", after := #[{ on := 6, ground := Ground.data }, { on := 10, ground := Ground.gcOnly Departure.lateStores }], guard := none }) (v := .bool g) rfl (by decide) (by kernel_rfl) (by kernel_rfl) (by kernel_rfl) (fun _ _ _ h => h) (Or.inl ⟨by rfl, by intro W' hSw; go_simp⟩) hSC ?_
        simp only [Act.put, List.setIfInBounds_toArray, List.set_cons_zero, List.set_cons_succ]
        have pVb := pVa.keep kfVb (fun j o e h => by subst e; exact hMn o h)
        refine Out.anyR_one (i := 9) (by kernel_rfl) rfl (by rfl) ?_
        intro K hK
        have HKK := Lib.hid hK
        clear hK
        go_simp
        have kaVc := keep_alloc (fun _ => False) Vb (.cells #[.int .i64 0, .bool false, .int .u64 0] 91)
        have hfVc : (Vb.alloc (.cells #[.int .i64 0, .bool false, .int .u64 0] 91)).heap[Vb.heap.size]? = some (.cells (staV 0 false 0) 91 (0, 0)) := heap_alloc_new_ _ _
        obtain ⟨Vc, eVc⟩ : ∃ V, Vb.alloc (.cells #[.int .i64 0, .bool false, .int .u64 0] 91) = V := ⟨_, rfl⟩
        rw [eVc] at kaVc hfVc ⊢
        clear eVc
        have kVc : Keeps (fun j => j = M) w3 Vc := kVb.trans kaVc.none
        have mVc := mVb.keep kaVc (fun e => e)
        have pVc := pVb.keep kaVc (fun _ _ e => e.elim)
        have hSC := MkS.out _ kVc
        refine HKK.out _ _ (fun _ _ => hSC) ?_
        clear HKK K
        refine Out.anyR_one (i := 10) (by kernel_rfl) rfl (by rfl) ?_
        intro K hK
        have HKK := Lib.hid hK
        clear hK
        have hF3 : w3.heap.size ≤ Vb.heap.size := kVb.size
        have c0 : Vc.cell? ⟨Vb.heap.size, 0, none⟩ = some (.int .i64 0) := by rw [cell_row hfVc]; rfl
        have c1 : Vc.cell? ⟨Vb.heap.size, 1, none⟩ = some (.bool false) := by rw [cell_row hfVc]; rfl
        have c2 : Vc.cell? ⟨Vb.heap.size, 2, none⟩ = some (.int .u64 0) := by rw [cell_row hfVc]; rfl
        have f0 : Vc.frozen? ⟨Vb.heap.size, 0, none⟩ = false := frozen_row hfVc
        have f1 : Vc.frozen? ⟨Vb.heap.size, 1, none⟩ = false := frozen_row hfVc
        have f2 : Vc.frozen? ⟨Vb.heap.size, 2, none⟩ = false := frozen_row hfVc
        have kst := keeps_set3 Vc (Vb.heap.size) p9 q9 t9
        obtain ⟨Vz, hVz⟩ : ∃ Vz, ((Vc.setCell ⟨Vb.heap.size, 0, none⟩ (.int .i64 (p9 : Int))).setCell ⟨Vb.heap.size, 1, none⟩ (.bool t9)).setCell ⟨Vb.heap.size, 2, none⟩ (.int .u64 (q9 : Int)) = Vz := ⟨_, rfl⟩
        rw [hVz] at kst
        go_simp
        clear c0 c1 c2 f0 f1 f2 hVz
        have kz : Keeps (fun j => j = M) w3 Vz := (kVc.mono (Mut' := fun j => j = M ∨ j = Vb.heap.size) (fun _ _ e => .inl e)).trans (kst.mono (fun _ _ e => .inr e)) |>.mono (fun j hj e => by have := hF3; omega)
        have mz := mVc.keep kst (by have := hF3; omega)
        refine HKK.out _ _ (fun _ _ => MkS.out _ kz) ?_
        clear HKK K
        refine Out.anyR_one (i := 11) (by kernel_rfl) rfl (by rfl) ?_
        intro K hK
        have HKK := Lib.hid hK
        clear hK
        go_simp
        refine HKK.out _ _ (fun e => absurd rfl e) ?_
        refine Out.anyR_done (by kernel_rfl) ?_ _
        show K0 _ _
        exact Rest.out _ _ _ _ _ _ _ _ _ _ _ kz mz
      case allocNext =>
        intro K hK
        have HKK := Lib.hid hK
        clear hK
        go_simp
        have kaVc := keep_alloc (fun _ => False) Va (.cells #[.int .i64 0, .bool false, .int .u64 0] 91)
        have hfVc : (Va.alloc (.cells #[.int .i64 0, .bool false, .int .u64 0] 91)).heap[Va.heap.size]? = some (.cells (staV 0 false 0) 91 (0, 0)) := heap_alloc_new_ _ _
        obtain ⟨Vc, eVc⟩ : ∃ V, Va.alloc (.cells #[.int .i64 0, .bool false, .int .u64 0] 91) = V := ⟨_, rfl⟩
        rw [eVc] at kaVc hfVc ⊢
        clear eVc
        have kVc : Keeps (fun j => j = M) w3 Vc := kVa.trans kaVc.none
        have mVc := mVa.keep kaVc (fun e => e)
        have pVc := pVa.keep kaVc (fun _ _ e => e.elim)
        have hSC := MkS.out _ kVc
        refine HKK.out _ _ (fun _ _ => hSC) ?_
        clear HKK K
        have hbVc := (kaVc.block _ (lt_of_block hbVa) (fun e => e)).trans hbVa
        have hsVc := (kaVc.block _ (lt_of_block hsVa) (fun e => e)).trans hsVa
        refine Out.anyR_one (i := 5) (by kernel_rfl) rfl (by rfl) ?_
        intro K hK
        have HKK := Lib.hid hK
        clear hK
        go_simp
        refine ⟨trivial, (callsIn_wide.2 (first59 Y A n cap off lo hi _ M W1.heap.size (W1.heap.size + 1) k x 0 t ps Vc hbVc HY.out hsVc pVc mVc (by decide) hn1 hn8 Hx.out hx16)).mono ?_⟩
        rintro e Vb ⟨⟨p9, t9, q9, rfl⟩, mVb, kfVb⟩
        rw [Hg.out]
        have kVb : Keeps (fun j => j = M) w3 Vb := kVc.trans kfVb
        have hSC := MkS.out _ kVb
        refine HKK.out _ _ (fun _ _ => hSC) ?_
        clear HKK K
        refine Out.anyR_free (i := 6) (oi := { dst := some 24, op := Op.move (Operand.tmp 30), type := 103, pos := "join.go:122", after := #[{ on := 5, ground := Ground.data }], guard := none }) (v := .tuple #[.agg #[.int .i64 (p9 : Int), .bool t9, .int .u64 (q9 : Int)], .bool g]) rfl (by decide) (by kernel_rfl) (by kernel_rfl) (by kernel_rfl) (fun _ _ _ h => h) (Or.inl ⟨by rfl, by intro W' hSw; go_simp⟩) hSC ?_
        simp only [Act.put, List.setIfInBounds_toArray, List.set_cons_zero, List.set_cons_succ]
        refine Out.anyR_free (i := 7) (oi := { dst := some 31, op := Op.extract (Operand.tmp 24) 0, type := 91, pos := "join.go:122", after := #[{ on := 6, ground := Ground.data }], guard := none }) (v := .agg #[.int .i64 (p9 : Int), .bool t9, .int .u64 (q9 : Int)]) rfl (by decide) (by kernel_rfl) (by kernel_rfl) (by kernel_rfl) (fun _ _ _ h => h) (Or.inl ⟨by rfl, by intro W' hSw; go_simp⟩) hSC ?_
        simp only [Act.put, List.setIfInBounds_toArray, List.set_cons_zero, List.set_cons_succ]
        refine Out.anyR_free (i := 8) (oi := { dst := some 32, op := Op.extract (Operand.tmp 24) 1, type := 4, pos := "join.go:122", after := #[{ on := 6, ground := Ground.data }, { on := 10, ground := Ground.gcOnly Departure.lateStores }], guard := none }) (v := .bool g) rfl (by decide) (by kernel_rfl) (by kernel_rfl) (by kernel_rfl) (fun _ _ _ h => h) (Or.inl ⟨by rfl, by intro W' hSw; go_simp⟩) hSC ?_
        simp only [Act.put, List.setIfInBounds_toArray, List.set_cons_zero, List.set_cons_succ]
        refine Out.anyR_one (i := 10) (by kernel_rfl) rfl (by rfl) ?_
        intro K hK
        have HKK := Lib.hid hK
        clear hK
        have hF3 : w3.heap.size ≤ Va.heap.size := kVa.size
        have hfVb := (kfVb.block _ (lt_of_block hfVc) (by omega)).trans hfVc
        have c0 : Vb.cell? ⟨Va.heap.size, 0, none⟩ = some (.int .i64 0) := by rw [cell_row hfVb]; rfl
        have c1 : Vb.cell? ⟨Va.heap.size, 1, none⟩ = some (.bool false) := by rw [cell_row hfVb]; rfl
        have c2 : Vb.cell? ⟨Va.heap.size, 2, none⟩ = some (.int .u64 0) := by rw [cell_row hfVb]; rfl
        have f0 : Vb.frozen? ⟨Va.heap.size, 0, none⟩ = false := frozen_row hfVb
        have f1 : Vb.frozen? ⟨Va.heap.size, 1, none⟩ = false := frozen_row hfVb
        have f2 : Vb.frozen? ⟨Va.heap.size, 2, none⟩ = false := frozen_row hfVb
        have kst := keeps_set3 Vb (Va.heap.size) p9 q9 t9
        obtain ⟨Vz, hVz⟩ : ∃ Vz, ((Vb.setCell ⟨Va.heap.size, 0, none⟩ (.int .i64 (p9 : Int))).setCell ⟨Va.heap.size, 1, none⟩ (.bool t9)).setCell ⟨Va.heap.size, 2, none⟩ (.int .u64 (q9 : Int)) = Vz := ⟨_, rfl⟩
        rw [hVz] at kst
        go_simp
        clear c0 c1 c2 f0 f1 f2 hVz
        have kz : Keeps (fun j => j = M) w3 Vz := (kVb.mono (Mut' := fun j => j = M ∨ j = Va.heap.size) (fun _ _ e => .inl e)).trans (kst.mono (fun _ _ e => .inr e)) |>.mono (fun j hj e => by have := hF3; omega)
        have mz := mVb.keep kst (by have := hF3; omega)
        refine HKK.out _ _ (fun _ _ => MkS.out _ kz) ?_
        clear HKK K
        refine Out.anyR_one (i := 11) (by kernel_rfl) rfl (by rfl) ?_
        intro K hK
        have HKK := Lib.hid hK
        clear hK
        go_simp
        refine HKK.out _ _ (fun e => absurd rfl e) ?_
        refine Out.anyR_done (by kernel_rfl) ?_ _
        show K0 _ _
        exact Rest.out _ _ _ _ _ _ _ _ _ _ _ kz mz
    case allocFirst =>
      intro K hK
      have HKK := Lib.hid hK
      clear hK
      go_simp
      have kaVa := keep_alloc (fun _ => False) W1 (.cells #[.int .i64 0, .bool false, .int .u64 0] 91)
      have hfVa : (W1.alloc (.cells #[.int .i64 0, .bool false, .int .u64 0] 91)).heap[W1.heap.size]? = some (.cells (staV 0 false 0) 91 (0, 0)) := heap_alloc_new_ _ _
      obtain ⟨Va, eVa⟩ : ∃ V, W1.alloc (.cells #[.int .i64 0, .bool false, .int .u64 0] 91) = V := ⟨_, rfl⟩
      rw [eVa] at kaVa hfVa ⊢
      clear eVa
      have kVa : Keeps (fun j => j = M) w3 Va := k1.trans kaVa.none
      have mVa := m1.keep kaVa (fun e => e)
      have pVa := p1.keep kaVa (fun _ _ e => e.elim)
      have hSC := MkS.out _ kVa
      refine HKK.out _ _ (fun _ _ => hSC) ?_
      clear HKK K
      refine Out.anyR_one (i := 2) (by kernel_rfl) rfl (by rfl) ?_
      intro K hK
      have HKK := Lib.hid hK
      clear hK
      go_simp
      have kaVc : Keeps (fun _ => False) Va ((Va.alloc (.cells Y 78)).alloc (.cells #[.int .i64 (k : Int), .bool t] 28)) := (keep_alloc _ _ _).trans (keep_alloc _ _ _)
      have hbVc : ((Va.alloc (.cells Y 78)).alloc (.cells #[.int .i64 (k : Int), .bool t] 28)).heap[Va.heap.size]? = some (.cells Y 78 (0, 0)) := hal_old (heap_alloc_new_ _ _)
      have hsVc : ((Va.alloc (.cells Y 78)).alloc (.cells #[.int .i64 (k : Int), .bool t] 28)).heap[Va.heap.size + 1]? = some (.cells #[.int .i64 (k : Int), .bool t] 28 (0, 0)) := hal_new (by simp)
      obtain ⟨Vc, eVc⟩ : ∃ V, (Va.alloc (.cells Y 78)).alloc (.cells #[.int .i64 (k : Int), .bool t] 28) = V := ⟨_, rfl⟩
      refine ⟨trivial, (callsIn_wide.2 (reached60 Y (k : Int) t Va)).mono ?_⟩
      rintro e V' ⟨rfl, rfl⟩
      rw [eVc] at kaVc hbVc hsVc ⊢
      clear eVc
      have kVc : Keeps (fun j => j = M) w3 Vc := kVa.trans kaVc.none
      have mVc := mVa.keep kaVc (fun e => e)
      have pVc := pVa.keep kaVc (fun _ _ e => e.elim)
      refine HKK.out _ _ (fun _ _ => MkS.out _ kVc) ?_
      clear HKK K
      refine Out.anyR_one (i := 5) (by kernel_rfl) rfl (by rfl) ?_
      intro K hK
      have HKK := Lib.hid hK
      clear hK
      go_simp
      refine ⟨trivial, (callsIn_wide.2 (first59 Y A n cap off lo hi _ M Va.heap.size (Va.heap.size + 1) k x 0 t ps Vc hbVc HY.out hsVc pVc mVc (by decide) hn1 hn8 Hx.out hx16)).mono ?_⟩
      rintro e Vb ⟨⟨p9, t9, q9, rfl⟩, mVb, kfVb⟩
      rw [Hg.out]
      have kVb : Keeps (fun j => j = M) w3 Vb := kVc.trans kfVb
      have hSC := MkS.out _ kVb
      refine HKK.out _ _ (fun _ _ => hSC) ?_
      clear HKK K
      refine Out.anyR_free (i := 6) (oi := { dst := some 24, op := Op.move (Operand.tmp 30), type := 103, pos := "join.go:122", after := #[{ on := 5, ground := Ground.data }], guard := none }) (v := .tuple #[.agg #[.int .i64 (p9 : Int), .bool t9, .int .u64 (q9 : Int)], .bool g]) rfl (by decide) (by kernel_rfl) (by kernel_rfl) (by kernel_rfl) (fun _ _ _ h => h) (Or.inl ⟨by rfl, by intro W' hSw; go_simp⟩) hSC ?_
      simp only [Act.put, List.setIfInBounds_toArray, List.set_cons_zero, List.set_cons_succ]
      refine Out.anyR_free (i := 7) (oi := { dst := some 31, op := Op.extract (Operand.tmp 24) 0, type := 91, pos := "join.go:122", after := #[{ on := 6, ground := Ground.data }], guard := none }) (v := .agg #[.int .i64 (p9 : Int), .bool t9, .int .u64 (q9 : Int)]) rfl (by decide) (by kernel_rfl) (by kernel_rfl) (by kernel_rfl) (fun _ _ _ h => h) (Or.inl ⟨by rfl, by intro W' hSw; go_simp⟩) hSC ?_
      simp only [Act.put, List.setIfInBounds_toArray, List.set_cons_zero, List.set_cons_succ]
      refine Out.anyR_free (i := 8) (oi := { dst := some 32, op := Op.extract (Operand.tmp 24) 1, type := 4, pos := "join.go:122", after := #[{ on := 6, ground := Ground.data }, { on := 10, ground := Ground.gcOnly Departure.lateStores }], guard := none }) (v := .bool g) rfl (by decide) (by kernel_rfl) (by kernel_rfl) (by kernel_rfl) (fun _ _ _ h => h) (Or.inl ⟨by rfl, by intro W' hSw; go_simp⟩) hSC ?_
      simp only [Act.put, List.setIfInBounds_toArray, List.set_cons_zero, List.set_cons_succ]
      refine Out.anyR_one (i := 10) (by kernel_rfl) rfl (by rfl) ?_
      intro K hK
      have HKK := Lib.hid hK
      clear hK
      have hF3 : w3.heap.size ≤ W1.heap.size := hk1.size
      have hfVc := (kaVc.block _ (lt_of_block hfVa) (fun e => e)).trans hfVa
      have hfVb := (kfVb.block _ (lt_of_block hfVc) (by omega)).trans hfVc
      have c0 : Vb.cell? ⟨W1.heap.size, 0, none⟩ = some (.int .i64 0) := by rw [cell_row hfVb]; rfl
      have c1 : Vb.cell? ⟨W1.heap.size, 1, none⟩ = some (.bool false) := by rw [cell_row hfVb]; rfl
      have c2 : Vb.cell? ⟨W1.heap.size, 2, none⟩ = some (.int .u64 0) := by rw [cell_row hfVb]; rfl
      have f0 : Vb.frozen? ⟨W1.heap.size, 0, none⟩ = false := frozen_row hfVb
      have f1 : Vb.frozen? ⟨W1.heap.size, 1, none⟩ = false := frozen_row hfVb
      have f2 : Vb.frozen? ⟨W1.heap.size, 2, none⟩ = false := frozen_row hfVb
      have kst := keeps_set3 Vb (W1.heap.size) p9 q9 t9
      obtain ⟨Vz, hVz⟩ : ∃ Vz, ((Vb.setCell ⟨W1.heap.size, 0, none⟩ (.int .i64 (p9 : Int))).setCell ⟨W1.heap.size, 1, none⟩ (.bool t9)).setCell ⟨W1.heap.size, 2, none⟩ (.int .u64 (q9 : Int)) = Vz := ⟨_, rfl⟩
      rw [hVz] at kst
      go_simp
      clear c0 c1 c2 f0 f1 f2 hVz
      have kz : Keeps (fun j => j = M) w3 Vz := (kVb.mono (Mut' := fun j => j = M ∨ j = W1.heap.size) (fun _ _ e => .inl e)).trans (kst.mono (fun _ _ e => .inr e)) |>.mono (fun j hj e => by have := hF3; omega)
      have mz := mVb.keep kst (by have := hF3; omega)
      refine HKK.out _ _ (fun _ _ => MkS.out _ kz) ?_
      clear HKK K
      refine Out.anyR_one (i := 11) (by kernel_rfl) rfl (by rfl) ?_
      intro K hK
      have HKK := Lib.hid hK
      clear hK
      go_simp
      refine HKK.out _ _ (fun e => absurd rfl e) ?_
      refine Out.anyR_done (by kernel_rfl) ?_ _
      show K0 _ _
      exact Rest.out _ _ _ _ _ _ _ _ _ _ _ kz mz

theorem riv32 (A : Option Addr) (n cap : Nat) (off lo hi p : Int) (t : Bool) (ps : List Pc) (w : World) (h : Pcs w A n ps) (hn : n ≤ 9223372036854775807) :
    Calls Try.prog 32 #[cyl A n cap off lo hi, .agg #[.int .i64 p, .bool t]] w fun e w' => ∃ C m cp, e = .returned (.tuple #[.slice C m cp, .int .i64 (rivR ⟨ps, off, ⟨lo, hi⟩⟩ ⟨p, t⟩).2]) ∧ m ≤ cp ∧ Sts w' C m ((rivR ⟨ps, off, ⟨lo, hi⟩⟩ ⟨p, t⟩).1.map stC) ∧ Below w.heap.size w w' := by
  by_cases he : chkC ⟨ps, off, ⟨lo, hi⟩⟩ = 0
  · exact riv32_ok A n cap off lo hi p t ps w h hn he
  · have hr : rivR ⟨ps, off, ⟨lo, hi⟩⟩ ⟨p, t⟩ = ([], chkC ⟨ps, off, ⟨lo, hi⟩⟩) := if_pos he
    refine (riv32_bad A n cap off lo hi p t ps w h hn he).mono ?_
    rintro e w' ⟨rfl, hb⟩
    exact ⟨none, 0, 0, by rw [hr], Nat.le_refl _, ⟨by rw [hr]; rfl, by omega⟩, hb⟩
end Go.Proofs.Ytfmcfalghbaanaa
