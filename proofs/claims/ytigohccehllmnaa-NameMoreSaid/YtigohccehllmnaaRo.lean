/- Stage 6: rows of numbers and of ways; clones; rows turned round. -/
import Derived.Test.YtigohccehllmnaaSe
import Derived.Test.YtigohccehllmnaaRgb
import Derived.Test.YtigohccehllmnaaSc
import Derived.LoopIn
import Derived.Maps.OwnIn
import Derived.Maps.Views
import Derived.DeepKeys4
import Derived.Carry
import Derived.Laws.EntriesVeiled
namespace Go.Proofs.Ytigohccehllmnaa
set_option linter.unusedSimpArgs false
set_option linter.unusedVariables false
open Go.RowKit Go.Shelf

/-- The way on from a name along a link, if there is one. -/
def wyAt (zs : List Nl) (x : Int) (k : Nat) : Option Wy := if (lAt zs k).two = x then some ⟨k, (lAt zs k).two, (lAt zs k).one⟩ else if (lAt zs k).one = x then some ⟨k, (lAt zs k).one, (lAt zs k).two⟩ else none
def wysK (zs : List Nl) (x : Int) (n : Nat) : List Wy := (List.range n).filterMap (wyAt zs x)
theorem wysK_some {zs : List Nl} {x : Int} {k : Nat} {w : Wy} (h : wyAt zs x k = some w) : wysK zs x (k + 1) = wysK zs x k ++ [w] := by simp [wysK, List.range_succ, h]
theorem wysK_none {zs : List Nl} {x : Int} {k : Nat} (h : wyAt zs x k = none) : wysK zs x (k + 1) = wysK zs x k := by simp [wysK, List.range_succ, h]
theorem wysK_pre (zs : List Nl) (x : Int) {k n : Nat} (h : k ≤ n) : ∃ post, wysK zs x n = wysK zs x k ++ post := by
  obtain ⟨d, rfl⟩ : ∃ d, n = k + d := ⟨n - k, by omega⟩
  refine ⟨((List.range d).map (k + ·)).filterMap (wyAt zs x), ?_⟩
  unfold wysK
  rw [List.range_add, List.filterMap_append]
theorem mem_wysK {zs : List Nl} {x : Int} {n : Nat} {w : Wy} : w ∈ wysK zs x n ↔ w.link < n ∧ w.fr = x ∧ ((lAt zs w.link).two = x ∧ w.to = (lAt zs w.link).one ∨ (lAt zs w.link).two ≠ x ∧ (lAt zs w.link).one = x ∧ w.to = (lAt zs w.link).two) := by
  unfold wysK
  rw [List.mem_filterMap]
  constructor
  · rintro ⟨k, hk, h⟩
    unfold wyAt at h
    split at h
    · simp only [Option.some.injEq] at h; subst h; exact ⟨List.mem_range.1 hk, by assumption, .inl ⟨by assumption, rfl⟩⟩
    · split at h
      · simp only [Option.some.injEq] at h; subst h; exact ⟨List.mem_range.1 hk, by assumption, .inr ⟨by assumption, by assumption, rfl⟩⟩
      · cases h
  · rintro ⟨h1, h2, h3⟩
    refine ⟨w.link, List.mem_range.2 h1, ?_⟩
    obtain ⟨l, f, t⟩ := w
    simp only at h2 h3
    unfold wyAt
    rcases h3 with ⟨a, b⟩ | ⟨a, b, c⟩
    · rw [if_pos a, b, h2, a]
    · rw [if_neg a, if_pos b, c, h2, b]
theorem isWay_wysK {zs : List Nl} {w : Wy} {N : Nat} (hz : OkL N zs) : isWay zs w ↔ w ∈ wysK zs w.fr zs.length := by
  rw [mem_wysK]
  constructor
  · rintro ⟨a, ⟨b, c⟩ | ⟨b, c⟩⟩
    · exact ⟨a, rfl, .inr ⟨by have := (hz _ a).2.2.1; omega, b.symm, c⟩⟩
    · exact ⟨a, rfl, .inl ⟨b.symm, c⟩⟩
  · rintro ⟨a, -, ⟨b, c⟩ | ⟨-, b, c⟩⟩
    · exact ⟨a, .inr ⟨b.symm, c⟩⟩
    · exact ⟨a, .inl ⟨b.symm, c⟩⟩
/-- A way as it is yielded. -/
def wE (w : Wy) : Array Value := #[wV w]
theorem keeps_old2 {O Mut : Nat → Prop} {W wr W3 : World} (hO : ∀ k, O k → W.heap.size ≤ k) (h1 : Keeps Mut W wr) (h2 : Keeps (fun k => Mut k ∨ O k) wr W3) : Keeps Mut W W3 :=
  ⟨h2.os.trans h1.os, h2.tape.trans h1.tape, h2.output.trans h1.output, Nat.le_trans h1.size h2.size, fun k hk hm => (h2.block k (Nat.lt_of_lt_of_le hk h1.size) (fun e => e.elim hm (fun e => by have := hO k e; omega))).trans (h1.block k hk hm)⟩
section
attribute [local go_sem ↓] exec_app at_app
attribute [local go_sem] Oper.semAt_some
set_option maxRecDepth 100000 in
set_option maxHeartbeats 16000000 in
theorem ways86 (b : BD) (f : Nat → Int) (x : Int) (b1 b2 : Nat) (w : World) (h : Bd w b f) (hok : BdOk b) (h1 : w.cell? ⟨b1, 0, none⟩ = some (.pointer (some ⟨b.B, 0, none⟩))) (h2 : w.cell? ⟨b2, 0, none⟩ = some (.int .i64 x)) :
    SeqO Try.prog 86 #[.pointer (some ⟨b1, 0, none⟩), .pointer (some ⟨b2, 0, none⟩)] wE (wysK b.zs x b.l.n) (fun k => k = b1 ∨ k = b2 ∨ (k = b.Z ∧ 0 < b.l.n)) w := by
  intro lp Mut J Jx W hW hMut hJ hJx hY h0
  have hn := hok.n
  have cc : ∀ (p o : Nat) (v : Value), (p = b1 ∨ p = b2 ∨ (p = b.Z ∧ 0 < b.l.n)) → w.cell? ⟨p, o, none⟩ = some v → ∀ W', Keeps Mut W W' → W'.cell? ⟨p, o, none⟩ = some v := fun p o v hb hv W' hK => by
    have e := lt_of_cell hv
    rw [keep_cells hK (Nat.lt_of_lt_of_le e hW.size) (fun hm => (hMut _ hm).2 hb), keep_cells hW e (fun e => e)]
    exact hv
  have hBW := h.keep hW (fun _ _ e => e)
  have x1 := cc b1 0 _ (.inl rfl) h1 W (Keeps.refl _ _)
  have c1 := hBW.c1
  have HC2 := Lib.hid (cc b2 0 _ (.inr (.inl rfl)) h2)
  have HZ := Lib.hid (fun (W' : World) (hK : Keeps Mut W W') (k : Nat) (hk : k < b.l.n) => (show _ ∧ _ ∧ _ from ⟨cc b.Z _ _ (.inr (.inr ⟨rfl, by omega⟩)) (h.z k hk).1 W' hK, cc b.Z _ _ (.inr (.inr ⟨rfl, by omega⟩)) (h.z k hk).2.1 W' hK, cc b.Z _ _ (.inr (.inr ⟨rfl, by omega⟩)) (h.z k hk).2.2 W' hK⟩))
  have HJa := Lib.hid hJ
  have HY := Lib.hid hY
  have H0 := Lib.hid h0
  have HOk := Lib.hid hok
  clear cc hMut hJ hJx hY h0 hW h h1 h2 hBW hok
  refine (callsIn_wide (n := 3)).1 ?_
  refine callsIn_of_wp Try.func86 rfl trivial ?_ rfl
  simp only [Try.ntmps86, List.size_toArray, List.length_cons, List.length_nil, Nat.reduceAdd, Nat.reduceSub, Array.replicate_succ, Array.replicate_zero, List.push_toArray, List.append_toArray, List.nil_append, List.cons_append]
  gi_wp2_with fail
  clear x1 c1
  gi_loopw [4, 5, 6, 13] (fun y p q a wr => ∃ k : Nat, k ≤ b.l.n ∧ a = .int .i64 (k : Int) ∧ Hid (∃ O : Nat → Prop, (∀ k, O k → W.heap.size ≤ k ∧ k < wr.heap.size) ∧ J (wysK b.zs x k) O wr ∧ Keeps Mut W wr)) (fun y p q a _ => b.l.n - (intOf a).toNat)
  case atStart => exact ⟨0, Nat.zero_le _, rfl, Lib.hid ⟨fun _ => False, fun _ e => e.elim, H0.out, Keeps.refl _ _⟩⟩
  case round =>
    obtain ⟨k, hk, rfl, HI⟩ := hrel
    obtain ⟨wk, rfl⟩ : ∃ wk, wk = wr := ⟨_, rfl⟩
    by_cases hlt : k < b.l.n
    · obtain ⟨O, hO, hj, hK⟩ := HI.out
      obtain ⟨z0, z1, z2⟩ := HZ.out wk hK k hlt
      have c2 := HC2.out wk hK
      have hne := (HOk.out.ok k hlt).2.2.1
      obtain ⟨post, hpost⟩ := wysK_pre b.zs x (show k + 1 ≤ b.l.n from hlt)
      have hwy : wyAt b.zs x k = if (lAt b.zs k).two = x then some ⟨k, (lAt b.zs k).two, (lAt b.zs k).one⟩ else if (lAt b.zs k).one = x then some ⟨k, (lAt b.zs k).one, (lAt b.zs k).two⟩ else none := rfl
      obtain ⟨g, hg⟩ : ∃ g, lAt b.zs k = g := ⟨_, rfl⟩
      rw [hg] at z0 z1 z2 hwy hne
      obtain ⟨go, gw, gt⟩ := g
      simp only at z0 z1 z2 hwy hne
      have i0 : (0 : Int) ≤ (k : Int) := by omega
      have i1 : (k : Int) < (b.l.n : Int) := by omega
      have HO := Lib.hid hO
      have HJ := Lib.hid hj
      have HK := Lib.hid hK
      have Hwy := Lib.hid hwy
      have Hpo := Lib.hid hpost
      have lt2 : b2 < wk.heap.size := lt_of_cell c2
      clear hO hj hK hwy hpost hg HI
      -- the boxes of the round
      obtain ⟨V, hV⟩ : ∃ V, (wk.alloc (.cells #[.int .i64 go, .int .i64 gw, .int .i64 gt] 60)).alloc (.cells #[.int .i64 (k : Int), .int .i64 go, .int .i64 gw] 79) = V := ⟨_, rfl⟩
      have hkV : Keeps (fun _ => False) wk V := by rw [← hV]; exact (keep_alloc _ _ _).trans (keep_alloc _ _ _)
      have hr6 : V.heap[wk.heap.size + 1]? = some (.cells #[.int .i64 (k : Int), .int .i64 go, .int .i64 gw] 79 (0, 0)) := by rw [← hV]; exact hal_new (by simp)
      have hr5 : V.heap[wk.heap.size]? = some (.cells #[.int .i64 go, .int .i64 gw, .int .i64 gt] 60 (0, 0)) := by rw [← hV]; exact hal_old (heap_alloc_new_ _ _)
      have HV := Lib.hid hV
      have HkV := Lib.hid hkV
      have Hr6 := Lib.hid hr6
      have HE := Lib.hid (show ∀ (wy : Wy) (W2 : World), wyAt b.zs x k = some wy → Keeps (fun _ => False) wk W2 → Yld Try.prog lp (wE wy) W2 fun e W' => (e = .returned (.bool true) ∧ ∃ O', Grow O O' W2 W' ∧ J (wysK b.zs x (k + 1)) O' W' ∧ Keeps (fun k => Mut k ∨ O k) W2 W') ∨ (e = .returned (.bool false) ∧ ∃ O', Grow O O' W2 W' ∧ Jx (wysK b.zs x (k + 1)) O' W' ∧ Keeps (fun k => Mut k ∨ O k) W2 W') from fun wy W2 hs hK2 => by
        rw [wysK_some hs]
        refine HY.out (wysK b.zs x k) wy post W2 O (by rw [Hpo.out, wysK_some hs, List.append_assoc]; rfl) (Nat.le_trans HK.out.size hK2.size) (fun j hj => ⟨(HO.out j hj).1, Nat.lt_of_lt_of_le (HO.out j hj).2 hK2.size⟩) (HJa.out _ _ _ _ HJ.out hK2.none))
      clear hV hkV hr6 hr5
      by_cases h2x : gw = x
      · have d2 : (gw == x) = true := by rw [beq_iff_eq]; exact h2x
        have hs : wyAt b.zs x k = some ⟨k, gw, go⟩ := by rw [Hwy.out, if_pos h2x]
        have Hs := Lib.hid hs
        have H2x := Lib.hid h2x
        clear hs h2x
        gi_wp2_with fail
        rw [HV.out]
        refine ⟨trivial, (callsIn_wide.2 (back87 k go gw V)).mono ?_⟩
        rintro e V1 ⟨rfl, hb1⟩
        obtain ⟨q0, q1, q2, q3, q4, q5⟩ := three_cells ((hb1.block _ (lt_of_block Hr6.out)).trans Hr6.out)
        have hr6 := (hb1.block _ (lt_of_block Hr6.out)).trans Hr6.out
        have ltV := lt_of_block hr6
        have c2 := HC2.out V1 (HK.out.trans ((HkV.out.trans (Keeps.of_new hb1)).none))
        have n26 : b2 ≠ wk.heap.size + 1 := by omega
        gi_wp2_with fail
        have hk2 : Keeps (fun _ => False) wk (((V1.setCell ⟨wk.heap.size + 1, 0, none⟩ (.int .i64 (k : Int))).setCell ⟨wk.heap.size + 1, 1, none⟩ (.int .i64 gw)).setCell ⟨wk.heap.size + 1, 2, none⟩ (.int .i64 go)) :=
          ((((HkV.out.none.trans (Keeps.of_new hb1)).trans (keeps_setCell V1 (wk.heap.size + 1) 0 _)).trans (keeps_setCell _ (wk.heap.size + 1) 1 _)).trans (keeps_setCell _ (wk.heap.size + 1) 2 _)).mono (fun j hj e => by omega)
        obtain ⟨V2, hV2⟩ : ∃ v, (((V1.setCell ⟨wk.heap.size + 1, 0, none⟩ (.int .i64 (k : Int))).setCell ⟨wk.heap.size + 1, 1, none⟩ (.int .i64 gw)).setCell ⟨wk.heap.size + 1, 2, none⟩ (.int .i64 go)) = v := ⟨_, rfl⟩
        rw [hV2] at hk2 ⊢
        have HK2 := Lib.hid hk2
        clear hV2 hk2 q0 q1 q2 q3 q4 q5 hr6 ltV c2 hb1 n26 z0 z1 z2 lt2
        obtain ⟨fn2, tmps2, assign2, body2, hy, hR2⟩ := HE.out ⟨k, gw, go⟩ V2 Hs.out HK2.out (3 - 1)
        unfold wE wV at hy
        simp only at hy
        rw [hy]
        (try gi_wp2_with fail)
        refine hR2.mono ?_
        rintro e W4 (⟨rfl, O4, hg4, hj4, hK4⟩ | ⟨rfl, O4, hg4, hj4, hK4⟩)
        · have hS4 := keeps_old2 (fun k e => (HO.out k e).1) HK.out (HK2.out.none.trans hK4)
          have HO4 := Lib.hid (show ∀ j, O4 j → W.heap.size ≤ j ∧ j < W4.heap.size from fun j h => (hg4.2 j h).elim (fun h => by have := HO.out j h; have := hK4.size; have := HK2.out.size; omega) (fun h => by have := HK.out.size; have := HK2.out.size; omega))
          have HJ4 := Lib.hid hj4
          have HS4 := Lib.hid hS4
          clear hj4 hg4 hK4 hy hR2 hS4
          gi_wp2_with fail
          go_roundw
          case rel => exact ⟨k + 1, by omega, by go_num, Lib.hid ⟨O4, HO4.out, HJ4.out, HS4.out⟩⟩
          case measure => simp [intOf]; omega
        · have hS4 := keeps_old2 (fun k e => (HO.out k e).1) HK.out (HK2.out.none.trans hK4)
          have HO4 := Lib.hid (show ∀ j, O4 j → W.heap.size ≤ j ∧ j < W4.heap.size from fun j h => (hg4.2 j h).elim (fun h => by have := HO.out j h; have := hK4.size; have := HK2.out.size; omega) (fun h => by have := HK.out.size; have := HK2.out.size; omega))
          have HJ4 := Lib.hid hj4
          clear hj4 hg4 hK4 hy hR2 hS4
          gi_wp2_with fail
          exact bodyPost_ret (results_none rfl _ _ _) rfl ⟨⟨_, rfl⟩, O4, HO4.out, .inr ⟨wysK b.zs x k, ⟨k, gw, go⟩, post, by rw [Hpo.out, wysK_some Hs.out, List.append_assoc]; rfl, by rw [← wysK_some Hs.out]; exact HJ4.out⟩⟩
      · have d2 : (gw == x) = false := by rw [beq_eq_false_iff_ne]; exact h2x
        by_cases h1x : go = x
        · have d1 : (go == x) = true := by rw [beq_iff_eq]; exact h1x
          have hs : wyAt b.zs x k = some ⟨k, go, gw⟩ := by rw [Hwy.out, if_neg h2x, if_pos h1x]
          have Hs := Lib.hid hs
          have HK2 := HkV
          clear hs h2x h1x
          gi_wp2_with fail
          rw [HV.out]
          obtain ⟨V2, rfl⟩ : ∃ v, v = V := ⟨_, rfl⟩
          clear z0 z1 z2 c2 lt2
          obtain ⟨fn2, tmps2, assign2, body2, hy, hR2⟩ := HE.out ⟨k, go, gw⟩ V2 Hs.out HK2.out (3 - 1)
          unfold wE wV at hy
          simp only at hy
          rw [hy]
          (try gi_wp2_with fail)
          refine hR2.mono ?_
          rintro e W4 (⟨rfl, O4, hg4, hj4, hK4⟩ | ⟨rfl, O4, hg4, hj4, hK4⟩)
          · have hS4 := keeps_old2 (fun k e => (HO.out k e).1) HK.out (HK2.out.none.trans hK4)
            have HO4 := Lib.hid (show ∀ j, O4 j → W.heap.size ≤ j ∧ j < W4.heap.size from fun j h => (hg4.2 j h).elim (fun h => by have := HO.out j h; have := hK4.size; have := HK2.out.size; omega) (fun h => by have := HK.out.size; have := HK2.out.size; omega))
            have HJ4 := Lib.hid hj4
            have HS4 := Lib.hid hS4
            clear hj4 hg4 hK4 hy hR2 hS4
            gi_wp2_with fail
            go_roundw
            case rel => exact ⟨k + 1, by omega, by go_num, Lib.hid ⟨O4, HO4.out, HJ4.out, HS4.out⟩⟩
            case measure => simp [intOf]; omega
          · have hS4 := keeps_old2 (fun k e => (HO.out k e).1) HK.out (HK2.out.none.trans hK4)
            have HO4 := Lib.hid (show ∀ j, O4 j → W.heap.size ≤ j ∧ j < W4.heap.size from fun j h => (hg4.2 j h).elim (fun h => by have := HO.out j h; have := hK4.size; have := HK2.out.size; omega) (fun h => by have := HK.out.size; have := HK2.out.size; omega))
            have HJ4 := Lib.hid hj4
            clear hj4 hg4 hK4 hy hR2 hS4
            gi_wp2_with fail
            exact bodyPost_ret (results_none rfl _ _ _) rfl ⟨⟨_, rfl⟩, O4, HO4.out, .inr ⟨wysK b.zs x k, ⟨k, go, gw⟩, post, by rw [Hpo.out, wysK_some Hs.out, List.append_assoc]; rfl, by rw [← wysK_some Hs.out]; exact HJ4.out⟩⟩
        · have d1 : (go == x) = false := by rw [beq_eq_false_iff_ne]; exact h1x
          have hs : wyAt b.zs x k = none := by rw [Hwy.out, if_neg h2x, if_neg h1x]
          have Hs := Lib.hid hs
          clear hs h2x h1x
          gi_wp2_with fail
          rw [HV.out]
          refine ⟨by simp, ?_⟩
          gi_wp2_with fail
          go_roundw
          case rel => exact ⟨k + 1, by omega, by go_num, Lib.hid ⟨O, fun j hj => ⟨(HO.out j hj).1, Nat.lt_of_lt_of_le (HO.out j hj).2 HkV.out.size⟩, by rw [wysK_none Hs.out]; exact HJa.out _ _ _ _ HJ.out HkV.out.none, HK.out.trans HkV.out.none⟩⟩
          case measure => simp [intOf]; omega
    · obtain ⟨O, hO, hj, hK⟩ := HI.out
      have e : k = b.l.n := by omega
      have HO := Lib.hid hO
      have HJ := Lib.hid (show J (wysK b.zs x b.l.n) O wk by rw [← e]; exact hj)
      clear hO hj hK HI e
      gi_wp2_with fail
      (try simp only [Exit.inBlock, Exit.then])
      refine bodyPost_end (results_none rfl _ _ _) rfl ?_
      exact ⟨⟨_, rfl⟩, O, HO.out, .inl HJ.out⟩
set_option maxRecDepth 100000 in
set_option maxHeartbeats 4000000 in
theorem ways76 (b : BD) (f : Nat → Int) (x : Int) (w : World) (h : Bd w b f) (hok : BdOk b) :
    Calls Try.prog 76 #[.pointer (some ⟨b.B, 0, none⟩), .int .i64 x] w fun e w' => ∃ b1 b2, e = .returned (.func (.func 86) #[] #[.pointer (some ⟨b1, 0, none⟩), .pointer (some ⟨b2, 0, none⟩)]) ∧ b1 = w.heap.size ∧ b2 = w.heap.size + 1 ∧ w'.heap.size = w.heap.size + 2 ∧ Below w.heap.size w w' ∧ SeqO Try.prog 86 #[.pointer (some ⟨b1, 0, none⟩), .pointer (some ⟨b2, 0, none⟩)] wE (wysK b.zs x b.l.n) (fun k => k = b1 ∨ k = b2 ∨ (k = b.Z ∧ 0 < b.l.n)) w' := by
  have hb := (below_alloc_ w (.cells #[.pointer (some ⟨b.B, 0, none⟩)] 64)).trans ((below_alloc_ (w.alloc (.cells #[.pointer (some ⟨b.B, 0, none⟩)] 64)) (.cells #[.int .i64 x] 3)).mono (by simp))
  have hr1 : ((w.alloc (.cells #[.pointer (some ⟨b.B, 0, none⟩)] 64)).alloc (.cells #[.int .i64 x] 3)).heap[w.heap.size]? = some (.cells #[.pointer (some ⟨b.B, 0, none⟩)] 64 (0, 0)) := hal_old (heap_alloc_new_ _ _)
  have hr2 : ((w.alloc (.cells #[.pointer (some ⟨b.B, 0, none⟩)] 64)).alloc (.cells #[.int .i64 x] 3)).heap[w.heap.size + 1]? = some (.cells #[.int .i64 x] 3 (0, 0)) := hal_new (by simp)
  have HS := Lib.hid (ways86 b f x w.heap.size (w.heap.size + 1) _ (h.below hb (Nat.le_refl _)) hok (by rw [cell_row hr1]; rfl) (by rw [cell_row hr2]; rfl))
  have HB := Lib.hid hb
  clear hb hr1 hr2 h hok
  go_enter Try.func76, Try.ntmps76
  go_wp2_with fail
  go_ret
  exact ⟨_, _, rfl, rfl, rfl, by simp, HB.out, HS.out⟩
end
end Go.Proofs.Ytigohccehllmnaa

namespace Go.Proofs.Ytigohccehllmnaa
set_option linter.unusedSimpArgs false
set_option linter.unusedVariables false
open Go.RowKit Go.Shelf Go.WideMaps Go.MapKept
open Go.Maps (Keyed)
def heldE (v : Value) : Option (DataW Value × List MemPlace) := some (.held v, [])
theorem owns_keep {H : Type} {P : Program} {k : TypeId} {R : Value → Option (DataW H × List MemPlace)} {W W' : World} {M nn : Nat} {D : DataW H} {Mut : Nat → Prop} (h : W.ownsMap P k R M nn D) (hK : Keeps Mut W W') (hm : ¬ Mut M) : W'.ownsMap P k R M nn D := by
  have hlt := h.lt
  obtain ⟨es, clock, hb, F, hs, hD⟩ := h
  exact ⟨es, clock, (hK.block M hlt hm).trans hb, F, hs, hD⟩
/-- A family of keys. -/
structure KF (k : TypeId) (κ : Type) where
  val : κ → Value
  lit : κ → Lit
  dom : κ → Prop
  keyed : Keyed Try.prog k
  key : ∀ x, dom x → keyOf Try.prog k (val x) = some (lit x)
  vinj : ∀ x y, dom x → dom y → val x = val y → x = y
theorem KF.inj {k : TypeId} {κ : Type} (F : KF k κ) {x y : κ} (hx : F.dom x) (hy : F.dom y) (h : F.lit x = F.lit y) : x = y := by
  have a := F.key x hx
  have b := F.key y hy
  rw [← h] at b
  exact F.vinj x y hx hy (F.keyed.inj a b)
/-- The map M holds S; z is read where there is nothing. -/
def MpH {k : TypeId} {κ : Type} (F : KF k κ) (z : Value) (W : World) (M nn : Nat) (S : κ → Option Value) : Prop :=
  ∃ D : DataW Value, W.ownsMap Try.prog k heldE M nn D ∧ (∀ x, F.dom x →
    (∀ v, S x = some v → Maps.has D (F.lit x) = true ∧ D.atKey (F.lit x) (.held z) = .held v) ∧ (S x = none → Maps.has D (F.lit x) = false)) ∧ ∀ kl, Maps.has D kl = true → ∃ x, F.dom x ∧ kl = F.lit x
section
variable {k : TypeId} {κ : Type} {F : KF k κ} {z : Value} {W W' : World} {M nn : Nat} {S : κ → Option Value}
theorem MpH.lt (h : MpH F z W M nn S) : M < W.heap.size := by
  obtain ⟨D, h1, _⟩ := h
  exact h1.lt
theorem MpH.mono {nn' : Nat} (h : MpH F z W M nn S) (hn : nn ≤ nn') : MpH F z W M nn' S := by
  obtain ⟨D, h1, h2⟩ := h
  exact ⟨D, h1.mono hn, h2⟩
theorem MpH.keep {Mut : Nat → Prop} (h : MpH F z W M nn S) (hK : Keeps Mut W W') (hm : ¬ Mut M) : MpH F z W' M nn S := by
  obtain ⟨D, h1, h2⟩ := h
  exact ⟨D, owns_keep h1 hK hm, h2⟩
theorem MpH.below {L : Nat} (h : MpH F z W M nn S) (hB : Below L W W') (hL : W.heap.size ≤ L) : MpH F z W' M nn S :=
  h.keep (Keeps.of_below (hB.mono hL) (Nat.le_refl _)) (by have := h.lt; omega)
theorem MpH.look_ok {t e : TypeId} (h : MpH F z W M nn S) (ht : Try.prog.underlying t = some (.map k e)) (hz : (zeroValue e).run Try.prog W = .ok z W) {x : κ} (hx : F.dom x) :
    (Instr.lookup t (.map (some M)) (F.val x) true).run Try.prog W = .ok (.tuple #[(S x).getD z, .bool (S x).isSome]) W := by
  obtain ⟨D, ho, hD, hk⟩ := h
  obtain ⟨v, ps, hrun, hv⟩ := ho.look_ok F.keyed ht (z := z) hz (zd := .held z) (zp := []) rfl (F.key x hx)
  obtain ⟨a, b⟩ := hD x hx
  cases hc : S x with
  | some c =>
    obtain ⟨g1, g2⟩ := a c hc
    rw [g1] at hrun
    rw [g2] at hv
    simp only [heldE, Option.some.injEq, Prod.mk.injEq, DataW.held.injEq] at hv
    rw [hv.1] at hrun
    exact hrun
  | none =>
    have g1 := b hc
    rw [g1] at hrun
    rw [Maps.atKey_of_not_has g1] at hv
    simp only [heldE, Option.some.injEq, Prod.mk.injEq, DataW.held.injEq] at hv
    rw [hv.1] at hrun
    exact hrun
theorem MpH.look {t e : TypeId} (h : MpH F z W M nn S) (ht : Try.prog.underlying t = some (.map k e)) (hz : (zeroValue e).run Try.prog W = .ok z W) {x : κ} (hx : F.dom x) :
    (Instr.lookup t (.map (some M)) (F.val x) false).run Try.prog W = .ok ((S x).getD z) W := by
  obtain ⟨D, ho, hD, hk⟩ := h
  obtain ⟨v, ps, hrun, hv⟩ := ho.lookup F.keyed ht (z := z) hz (zd := .held z) (zp := []) rfl (F.key x hx)
  obtain ⟨a, b⟩ := hD x hx
  cases hc : S x with
  | some c =>
    obtain ⟨g1, g2⟩ := a c hc
    rw [g2] at hv
    simp only [heldE, Option.some.injEq, Prod.mk.injEq, DataW.held.injEq] at hv
    rw [hv.1] at hrun
    exact hrun
  | none =>
    have g1 := b hc
    rw [Maps.atKey_of_not_has g1] at hv
    simp only [heldE, Option.some.injEq, Prod.mk.injEq, DataW.held.injEq] at hv
    rw [hv.1] at hrun
    exact hrun
open Classical in
noncomputable def putS (S : κ → Option Value) (x : κ) (o : Option Value) : κ → Option Value := fun y => if y = x then o else S y
theorem putS_same (x : κ) (o : Option Value) : putS S x o x = o := by simp [putS]
theorem putS_other {x y : κ} (o : Option Value) (h : y ≠ x) : putS S x o y = S y := by simp [putS, h]
theorem MpH.put {t e : TypeId} (h : MpH F z W M nn S) (ht : Try.prog.underlying t = some (.map k e)) {x : κ} (hx : F.dom x) (c : Value) (hnn : nn < 1000000000) :
    ∃ W', (Instr.mapUpdate t (.map (some M)) (F.val x) c).run Try.prog W = .ok () W' ∧ MpH F z W' M (nn + 1) (putS S x (some c)) ∧ Keeps (fun k => k = M) W W' := by
  obtain ⟨D, ho, hD, hk⟩ := h
  obtain ⟨W', hrun, ho', hg⟩ := ho.update F.keyed ht (by unfold maxLen; omega) (F.key x hx) (val := c) (d := .held c) (ps := []) rfl
  have hK : Keeps (fun k => k = M) W W' := Keeps.of_grown hg (fun r e => by cases e; rfl)
  refine ⟨W', hrun, ⟨_, ho', fun y hy => ?_, fun kl hkl => ?_⟩, hK⟩
  rotate_left
  · by_cases e : kl = F.lit x
    · exact ⟨x, hx, e⟩
    · rw [Maps.has_put_other e] at hkl; exact hk kl hkl
  by_cases e : y = x
  · subst e
    rw [putS_same]
    refine ⟨fun c' hc' => ?_, fun hc' => (by cases hc')⟩
    cases hc'
    exact ⟨Maps.has_put_same ho.isMap (F.keyed.key (F.key y hy)) _, Maps.atKey_put_same ho.isMap (F.keyed.key (F.key y hy)) _ _⟩
  · have hne : F.lit y ≠ F.lit x := fun e' => e (F.inj hy hx e')
    rw [putS_other _ e, Maps.has_put_other hne, Maps.atKey_put_other hne]
    exact hD y hy
theorem MpH.del {t e : TypeId} (h : MpH F z W M nn S) (ht : Try.prog.underlying t = some (.map k e)) {x : κ} (hx : F.dom x) (ty : TypeId) :
    ∃ W', (Builtin.delete_ #[t, k] ty #[.map (some M), F.val x]).run Try.prog W = .ok (.tuple #[]) W' ∧ MpH F z W' M nn (putS S x none) ∧ Keeps (fun k => k = M) W W' := by
  obtain ⟨D, ho, hD, hk⟩ := h
  obtain ⟨W', hrun, ho', htu⟩ := ho.drop F.keyed ht (F.key x hx) ty
  have hK : Keeps (fun k => k = M) W W' := Keeps.of_grown htu.grown (fun r e => by cases e; rfl)
  refine ⟨W', hrun, ⟨_, ho', fun y hy => ?_, fun kl hkl => ?_⟩, hK⟩
  rotate_left
  · by_cases e : kl = F.lit x
    · rw [e, Maps.has_del_same] at hkl; cases hkl
    · rw [Maps.has_del_other e] at hkl; exact hk kl hkl
  by_cases e : y = x
  · subst e
    rw [putS_same]
    exact ⟨fun c' hc' => (by cases hc'), fun hc' => Maps.has_del_same⟩
  · have hne : F.lit y ≠ F.lit x := fun e' => e (F.inj hy hx e')
    rw [putS_other _ e, Maps.has_del_other hne, Maps.atKey_del_other hne]
    exact hD y hy
theorem MpH.new (h : W.heap[M]? = some (.map #[] 0)) : MpH F z W M 0 (fun _ => none) :=
  ⟨.map [], ⟨#[], 0, h, ⟨by simp, stamped_empty 0, by simp⟩, Nat.le_refl _, rfl⟩, fun x _ => ⟨fun c hc => (by cases hc), fun _ => rfl⟩, fun kl h => by simp [Maps.has] at h⟩
end

theorem wf_num {a : Int} (h1 : -1 ≤ a) (h2 : a ≤ 10000) : (Lit.int .i64 a).wf = true := by
  have e1 : IntKind.i64.min = -9223372036854775808 := by decide
  have e2 : IntKind.i64.max = 9223372036854775807 := by decide
  simp only [Lit.wf, e1, e2, Bool.and_eq_true, decide_eq_true_eq]
  omega
/-- Names as keys. -/
def kfN : KF 3 Int where
  val n := .int .i64 n
  lit n := .int .i64 n
  dom n := 0 ≤ n ∧ n < 40
  keyed := Maps.int_keyed Try.underlying3
  key n hn := Maps.keyOf_int_mk Try.underlying3 (wf_num (by omega) (by omega))
  vinj x y _ _ h := by simpa only [Value.int.injEq, true_and] using h
def z79 : Value := .agg #[.int .i64 0, .int .i64 0, .int .i64 0]
theorem zero79 (W : World) : (zeroValue 79).run Try.prog W = .ok z79 W := by kernel_rfl
/-- The map M holds the trail S. -/
def Tm (W : World) (M nn : Nat) (S : Int → Option Wy) : Prop := MpH kfN z79 W M nn (fun x => (S x).map wV)
theorem Tm.lt {W : World} {M nn : Nat} {S : Int → Option Wy} (h : Tm W M nn S) : M < W.heap.size := MpH.lt h
theorem Tm.keep {W W' : World} {M nn : Nat} {S : Int → Option Wy} {Mut : Nat → Prop} (h : Tm W M nn S) (hK : Keeps Mut W W') (hm : ¬ Mut M) : Tm W' M nn S := MpH.keep h hK hm
theorem Tm.below {W W' : World} {M nn L : Nat} {S : Int → Option Wy} (h : Tm W M nn S) (hb : Below L W W') (hL : W.heap.size ≤ L) : Tm W' M nn S := MpH.below h hb hL
theorem Tm.look_ok {W : World} {M nn : Nat} {S : Int → Option Wy} (h : Tm W M nn S) {x : Int} (hx : 0 ≤ x ∧ x < 40) :
    (Instr.lookup 94 (.map (some M)) (.int .i64 x) true).run Try.prog W = .ok (.tuple #[wV ((S x).getD ⟨0, 0, 0⟩), .bool (S x).isSome]) W := by
  have := MpH.look_ok (x := x) h Try.underlying94 (zero79 W) hx
  rw [show kfN.val x = .int .i64 x from rfl] at this
  rw [this]
  cases S x <;> rfl
theorem Tm.look {W : World} {M nn : Nat} {S : Int → Option Wy} (h : Tm W M nn S) {x : Int} (hx : 0 ≤ x ∧ x < 40) :
    (Instr.lookup 94 (.map (some M)) (.int .i64 x) false).run Try.prog W = .ok (wV ((S x).getD ⟨0, 0, 0⟩)) W := by
  have := MpH.look (x := x) h Try.underlying94 (zero79 W) hx
  rw [show kfN.val x = .int .i64 x from rfl] at this
  rw [this]
  cases S x <;> rfl
def putW (S : Int → Option Wy) (x : Int) (o : Option Wy) : Int → Option Wy := fun y => if y = x then o else S y
theorem putW_map (S : Int → Option Wy) (x : Int) (o : Option Wy) : (fun y => (putW S x o y).map wV) = putS (fun y => (S y).map wV) x (o.map wV) := by
  funext y
  unfold putW putS
  by_cases e : y = x <;> simp [e]
theorem Tm.put {W : World} {M nn : Nat} {S : Int → Option Wy} (h : Tm W M nn S) {x : Int} (hx : 0 ≤ x ∧ x < 40) (w : Wy) (hnn : nn < 1000000000) :
    ∃ W', (Instr.mapUpdate 94 (.map (some M)) (.int .i64 x) (wV w)).run Try.prog W = .ok () W' ∧ Tm W' M (nn + 1) (putW S x (some w)) ∧ Keeps (fun k => k = M) W W' := by
  obtain ⟨W', a, b, c⟩ := MpH.put (x := x) h Try.underlying94 hx (wV w) hnn
  refine ⟨W', a, ?_, c⟩
  unfold Tm
  rw [putW_map]; exact b
theorem Tm.del {W : World} {M nn : Nat} {S : Int → Option Wy} (h : Tm W M nn S) {x : Int} (hx : 0 ≤ x ∧ x < 40) (ty : TypeId) :
    ∃ W', (Builtin.delete_ #[94, 3] ty #[.map (some M), .int .i64 x]).run Try.prog W = .ok (.tuple #[]) W' ∧ Tm W' M nn (putW S x none) ∧ Keeps (fun k => k = M) W W' := by
  obtain ⟨W', a, b, c⟩ := MpH.del (x := x) h Try.underlying94 hx ty
  refine ⟨W', a, ?_, c⟩
  unfold Tm
  rw [putW_map]; exact b
theorem Tm.new {W : World} {M : Nat} (h : W.heap[M]? = some (.map #[] 0)) : Tm W M 0 (fun _ => none) := MpH.new h
/-- What a search knows of how it came to names. -/
def cameW (fs : List Int) (tr : List Wy) (x : Int) : Option Wy := match tr.find? (fun w => decide (w.to = x)) with
  | some w => some w
  | none => if x ∈ fs then some ⟨0, 0, 0⟩ else none
theorem find_none {tr : List Wy} {x : Int} (h : x ∉ tr.map (·.to)) : tr.find? (fun w => decide (w.to = x)) = none := by
  rw [List.find?_eq_none]
  intro w hw e
  exact h (List.mem_map.2 ⟨w, hw, of_decide_eq_true e⟩)
theorem cameW_some {fs : List Int} {tr : List Wy} {x : Int} : (cameW fs tr x).isSome = true ↔ Rk fs tr x := by
  unfold cameW Rk
  cases e : tr.find? (fun w => decide (w.to = x)) with
  | some w =>
    have h1 := List.mem_of_find?_eq_some e
    have h2 := List.find?_some e
    simp only [Option.isSome_some, true_iff]
    exact .inr (List.mem_map.2 ⟨w, h1, of_decide_eq_true h2⟩)
  | none =>
    rw [List.find?_eq_none] at e
    simp only
    constructor
    · intro h
      split at h
      · left; assumption
      · cases h
    · rintro (h | h)
      · rw [if_pos h]; rfl
      · obtain ⟨w, hw, rfl⟩ := List.mem_map.1 h
        exact absurd (decide_eq_true rfl) (e w hw)
theorem cameW_snoc {fs : List Int} {tr : List Wy} {w : Wy} (h : ¬ Rk fs tr w.to) : cameW fs (tr ++ [w]) = putW (cameW fs tr) w.to (some w) := by
  funext x
  have h1 : w.to ∉ tr.map (·.to) := fun e => h (.inr e)
  unfold cameW putW
  rw [List.find?_append]
  by_cases e : x = w.to
  · subst e
    rw [find_none h1, if_pos rfl]; simp
  · rw [if_neg e]
    cases e2 : tr.find? (fun w => decide (w.to = x)) with
    | some v => simp [e2]
    | none => simp [e2, Ne.symm e]
theorem cameW_nil_snoc {fs : List Int} {x : Int} : cameW (fs ++ [x]) [] = putW (cameW fs []) x (some ⟨0, 0, 0⟩) := by
  funext y
  unfold cameW putW
  simp only [List.find?_nil, List.mem_append, List.mem_singleton]
  by_cases e : y = x
  · subst e; simp
  · simp [e]
section
attribute [local go_sem ↓] exec_app at_app
attribute [local go_sem] Oper.semAt_some
set_option maxRecDepth 100000 in
set_option maxHeartbeats 4000000 in
theorem has64 (M nn : Nat) (S : Int → Option Wy) (x : Int) (w : World) (h : Tm w M nn S) (hx : 0 ≤ x ∧ x < 40) :
    Calls Try.prog 64 #[.map (some M), .int .i64 x] w fun e w' => e = .returned (.bool (S x).isSome) ∧ Below w.heap.size w w' := by
  have hl := h.look_ok hx
  unfold wV at hl
  obtain ⟨g, hg⟩ : ∃ g, (S x).getD ⟨0, 0, 0⟩ = g := ⟨_, rfl⟩
  rw [hg] at hl
  obtain ⟨a, b, c⟩ := g
  simp only at hl
  have hb := below_alloc_ w (.cells #[.int .i64 (a : Int), .int .i64 b, .int .i64 c] 79)
  have HB := Lib.hid hb
  clear h hx hg hb
  go_enter Try.func64, Try.ntmps64
  go_wp2_with fail
  go_ret
  exact ⟨rfl, HB.out⟩
theorem enters64 : ∀ args w, (callFunc 64 args).run Try.prog w = .ok (.enter 64 args) w := enters_of Try.func64 (by kernel_rfl) rfl
theorem tells64 {W : World} {M nn : Nat} {S : Int → Option Wy} (h : Tm W M nn S) : Tells W (.func (.func 64) #[.map (some M)] #[]) (fun x => 0 ≤ x ∧ x < 40) (fun x => (S x).isSome) :=
  ⟨64, #[.map (some M)], #[], rfl, enters64, fun W2 x hx hb => has64 M nn S x W2 (h.below hb (Nat.le_refl _)) hx⟩
end
end Go.Proofs.Ytigohccehllmnaa

namespace Go.Proofs.Ytigohccehllmnaa
set_option linter.unusedSimpArgs false
set_option linter.unusedVariables false
open Go.RowKit Go.Shelf
def flatI (l : List Int) : List Value := l.map (Value.int .i64)
theorem flatI_snoc (l : List Int) (x : Int) : flatI (l ++ [x]) = flatI l ++ [.int .i64 x] := by simp [flatI]
theorem flatI_len (l : List Int) : (flatI l).length = l.length := by simp [flatI]
theorem ints_own {W : World} {e : TypeId} {v : Value} {l : List Int} {n : Nat} (hl : l.length = n) (h : W.ownsRow 0 e 1 v n (flatI l)) : ∃ C cap, v = .slice C n cap ∧ n ≤ cap ∧ Ints W C n l ∧ (∀ b o, C = some ⟨b, o, none⟩ → v.ownBlock = some b ∧ o = 0) := by
  subst hl
  rcases h.2 with ⟨rfl, h0⟩ | ⟨g, cap, cur, rfl, hb, hg, hc, _, hsz, htake⟩
  · rw [h0]
    exact ⟨none, 0, rfl, Nat.le_refl _, ⟨h0, by omega⟩, by intro b o e; cases e⟩
  · refine ⟨_, cap, rfl, hc, ⟨rfl, fun _ => ⟨g, 0, rfl, fun j hj => ?_⟩⟩, by rintro b o e; cases e; exact ⟨rfl, rfl⟩⟩
    rw [Nat.zero_add, cell_row hg, ← Array.getElem?_toList, ← List.getElem?_take_of_lt (show j < l.length * 1 by omega), htake]
    simp [flatI, iAt_eq hj, hj]
theorem info3_ : (Try.prog.info? 3).map (fun i => (i.zero, i.size, i.bytes)) = some (some (.int .i64 0), 1, 8) := by kernel_rfl
/-- One number more. -/
theorem app_int {W : World} {v : Value} {n : Nat} {xs : List Int} (h : W.ownsRow 0 3 1 v n (flatI xs)) (x : Int) (hn : n ≤ 100000) :
    ∃ C c W', runA Try.prog 23 v (.slice (some ⟨W.heap.size, 0, none⟩) 1 1) (W.alloc (.cells #[.int .i64 x] 3)) = .ok (.value (.slice C (n + 1) c)) W' ∧ W'.ownsRow 0 3 1 (.slice C (n + 1) c) (n + 1) (flatI (xs ++ [x])) ∧ Keeps (fun k => v.ownBlock = some k) W W' ∧
      ∀ g, (Value.slice C (n + 1) c).ownBlock = some g → v.ownBlock = some g ∨ (W.heap.size ≤ g ∧ g < W'.heap.size) := by
  have hk := keep_alloc (fun _ => False) W (.cells #[.int .i64 x] 3)
  obtain ⟨v', W', a1, a2, a3, a4⟩ := app_one (n := n) Try.underlying23 info3_ rfl (by omega) (by omega) (own_keep h hk (fun _ _ e => e)) (vals := [.int .i64 x]) rfl (heap_alloc_new_ W (.cells #[.int .i64 x] 3)) (by simp [Value.oneCell']) (by omega)
  obtain ⟨C, c, rfl⟩ : ∃ C c, v' = .slice C (n + 1) c := by
    rcases a2.2 with ⟨e, e2⟩ | ⟨g, cp, cur, e, _⟩
    · omega
    · exact ⟨_, _, e⟩
  rw [← flatI_snoc] at a2
  refine ⟨C, c, W', run_app a1, a2, hk.none.trans a3, fun g e => ?_⟩
  have hs := hk.size
  have hlt := own_lt a2 g e
  rcases a4 with e' | ⟨e', _⟩
  · rw [e'] at e; exact .inl e
  · rw [e'] at e; have := Option.some.inj e; exact .inr ⟨by omega, hlt⟩
theorem app_rows {W : World} {v : Value} {n m c2 : Nat} {xs ts : List Int} {A2 : Option Addr} (h : W.ownsRow 0 3 1 v n (flatI xs)) (h2 : Ints W A2 m ts) (hm1 : 1 ≤ m) (hm : m ≤ 10000) (hn : n ≤ 10000) :
    ∃ g cp W', runA Try.prog 23 v (.slice A2 m c2) W = .ok (.value (.slice (some ⟨g, 0, none⟩) (n + m) cp)) W' ∧ W'.ownsRow 0 3 1 (.slice (some ⟨g, 0, none⟩) (n + m) cp) (n + m) (flatI (xs ++ ts)) ∧
      Keeps (fun j => v.ownBlock = some j) W W' ∧ (v.ownBlock = some g ∨ (g = W.heap.size ∧ W.heap.size < W'.heap.size)) := by
  obtain ⟨i, hi, hz, hs, hb⟩ := info_parts info3_
  obtain ⟨b, o, rfl, hc⟩ := h2.2 (by omega)
  have hl := h2.1
  obtain ⟨v', W', q2, q3, q4, _, q5⟩ := run_append_own_at (P := Try.prog) W 0 23 23 3 i _ 1 8 Try.underlying23 hi hz hs hb rfl (by omega) v n (flatI xs) h ⟨b, o, none⟩ m c2 (flatI ts) (by rw [flatI_len, hl]; omega) (fun j u hj => by
      have hjl : j < m := by
        have := (List.getElem?_eq_some_iff.1 hj).1
        rw [flatI_len, hl] at this
        exact this
      rw [Addr.add_lit, hc j hjl, ← hj, iAt_eq (by omega)]
      simp [flatI, hl, hjl]) (by
      intro u hu
      obtain ⟨x, _, rfl⟩ := List.mem_map.1 hu
      rfl) (by unfold maxLen; omega) (by omega) (Nat.zero_le _)
  have e1 : flatI xs ++ flatI ts = flatI (xs ++ ts) := by simp [flatI]
  rw [e1] at q3
  rcases q3.2 with ⟨_, e⟩ | ⟨g, cp, cur, rfl, _⟩
  · omega
  · refine ⟨g, cp, W', run_app q2, q3, ⟨q4.os, q4.tape, q4.output, q4.size, fun k hk hmm => q4.block k hk (fun e => hmm e.symm)⟩, ?_⟩
    rcases q5 with q5 | q5
    · exact .inl q5.symm
    · exact .inr ⟨Option.some.inj q5, own_lt q3 _ q5⟩
theorem own_empty {W : World} {size : Nat} {g : Nat} {e : TypeId} (h : W.heap[g]? = some (.cells #[] e (0, 0))) : W.ownsRow 0 e size (.slice (some ⟨g, 0, none⟩) 0 0) 0 [] := ⟨by simp, .inr ⟨g, 0, #[], rfl, Nat.zero_le _, h, Nat.le_refl _, by unfold maxLen; omega, by simp, by simp⟩⟩
theorem info79_ : (Try.prog.info? 79).map (fun i => (i.zero, i.size, i.bytes)) = some (some (.agg #[.int .i64 0, .int .i64 0, .int .i64 0]), 3, 24) := by kernel_rfl
def cellW (r : Wy) : List Value := [.int .i64 (r.link : Int), .int .i64 r.fr, .int .i64 r.to]
def flatW (l : List Wy) : List Value := l.flatMap cellW
def wAt (zs : List Wy) (k : Nat) : Wy := zs.getD k ⟨0, 0, 0⟩
theorem wAt_eq {zs : List Wy} {k : Nat} (hk : k < zs.length) : wAt zs k = zs[k] := by simp [wAt, List.getD, hk]
theorem flatW_snoc (l : List Wy) (r : Wy) : flatW (l ++ [r]) = flatW l ++ [.int .i64 (r.link : Int), .int .i64 r.fr, .int .i64 r.to] := by simp [flatW, cellW]
theorem flatW_len (l : List Wy) : (flatW l).length = l.length * 3 := by
  induction l with
  | nil => rfl
  | cons x l ih => simp only [flatW, cellW, List.flatMap_cons, List.length_append, List.length_cons, List.length_nil] at ih ⊢; omega
theorem flatW_at (l : List Wy) (j : Nat) (h : j < l.length) : (flatW l)[j * 3]? = some (.int .i64 ((wAt l j).link : Int)) ∧ (flatW l)[j * 3 + 1]? = some (.int .i64 (wAt l j).fr) ∧ (flatW l)[j * 3 + 2]? = some (.int .i64 (wAt l j).to) := by
  induction l generalizing j with
  | nil => simp at h
  | cons x l ih =>
    cases j with
    | zero => simp [flatW, cellW, wAt]
    | succ j =>
      have := ih j (by simpa using h)
      rw [show (j + 1) * 3 = j * 3 + 1 + 1 + 1 by omega]
      simp only [flatW, cellW, List.flatMap_cons, List.cons_append, List.nil_append, List.getElem?_cons_succ] at this ⊢
      exact this
theorem flatW_set (l : List Wy) (j : Nat) (h : j < l.length) (r : Wy) (rest : List Value) : (((flatW l ++ rest).set (j * 3) (.int .i64 (r.link : Int))).set (j * 3 + 1) (.int .i64 r.fr)).set (j * 3 + 2) (.int .i64 r.to) = flatW (l.set j r) ++ rest := by
  induction l generalizing j with
  | nil => simp at h
  | cons x l ih =>
    cases j with
    | zero => simp [flatW, cellW]
    | succ j =>
      have := ih j (by simpa using h)
      rw [show (j + 1) * 3 = j * 3 + 1 + 1 + 1 by omega]
      simp only [flatW, cellW, List.flatMap_cons, List.cons_append, List.nil_append, List.set_cons_succ] at this ⊢
      rw [this]
/-- A slice of n ways reads as ws. -/
def Wys (w : World) (A : Option Addr) (n : Nat) (ws : List Wy) : Prop :=
  ws.length = n ∧ (0 < n → ∃ b o, A = some ⟨b, o, none⟩ ∧ ∀ j, j < n → w.cell? ⟨b, o + j * 3, none⟩ = some (.int .i64 ((wAt ws j).link : Int)) ∧ w.cell? ⟨b, o + j * 3 + 1, none⟩ = some (.int .i64 (wAt ws j).fr) ∧ w.cell? ⟨b, o + j * 3 + 2, none⟩ = some (.int .i64 (wAt ws j).to))
theorem Wys.keepN {w w' : World} {A : Option Addr} {n : Nat} {zs : List Wy} {Mut : Nat → Prop} (h : Wys w A n zs) (hK : Keeps Mut w w') (hm : 0 < n → ∀ a, A = some a → ¬ Mut a.block) : Wys w' A n zs := by
  refine ⟨h.1, fun hn => ?_⟩
  obtain ⟨b, o, e, hc⟩ := h.2 hn
  have hl := lt_of_cell (hc 0 hn).1
  have hb := hm hn _ e
  exact ⟨b, o, e, fun j hj => ⟨(keep_cells hK hl hb _).trans (hc j hj).1, (keep_cells hK hl hb _).trans (hc j hj).2.1, (keep_cells hK hl hb _).trans (hc j hj).2.2⟩⟩
/-- A row of ways. -/
def RowW (W : World) (g : Nat) (o : List Wy) : Prop := ∃ rest : List Value, W.heap[g]? = some (.cells (flatW o ++ rest).toArray 79 (0, 0))
theorem RowW.cell {W : World} {g : Nat} {o : List Wy} (h : RowW W g o) {j : Nat} (hj : j < o.length) : W.cell? ⟨g, j * 3, none⟩ = some (.int .i64 ((wAt o j).link : Int)) ∧ W.cell? ⟨g, j * 3 + 1, none⟩ = some (.int .i64 (wAt o j).fr) ∧ W.cell? ⟨g, j * 3 + 2, none⟩ = some (.int .i64 (wAt o j).to) := by
  obtain ⟨rest, h⟩ := h
  obtain ⟨a, b, c⟩ := flatW_at o j hj
  have hl := flatW_len o
  refine ⟨?_, ?_, ?_⟩
  · rw [cell_row h, List.getElem?_toArray, List.getElem?_append_left (by omega)]; exact a
  · rw [cell_row h, List.getElem?_toArray, List.getElem?_append_left (by omega)]; exact b
  · rw [cell_row h, List.getElem?_toArray, List.getElem?_append_left (by omega)]; exact c
theorem RowW.fz {W : World} {g : Nat} {o : List Wy} (h : RowW W g o) (j : Nat) : W.frozen? ⟨g, j, none⟩ = false := by
  obtain ⟨rest, h⟩ := h; exact frozen_row h
theorem RowW.put {W : World} {g : Nat} {o : List Wy} (h : RowW W g o) {j : Nat} (hj : j < o.length) (r : Wy) : RowW (((W.setCell ⟨g, j * 3, none⟩ (.int .i64 (r.link : Int))).setCell ⟨g, j * 3 + 1, none⟩ (.int .i64 r.fr)).setCell ⟨g, j * 3 + 2, none⟩ (.int .i64 r.to)) g (o.set j r) := by
  obtain ⟨rest, h⟩ := h
  refine ⟨rest, ?_⟩
  have h1 := set_same (j * 3) (.int .i64 (r.link : Int)) h
  have h2 := set_same (j * 3 + 1) (.int .i64 r.fr) h1
  have h3 := set_same (j * 3 + 2) (.int .i64 r.to) h2
  rw [h3]
  simp only [List.setIfInBounds_toArray]
  rw [flatW_set o j hj]
theorem RowW.keep {W W' : World} {g : Nat} {o : List Wy} {Mut : Nat → Prop} (h : RowW W g o) (hK : Keeps Mut W W') (hm : ¬ Mut g) : RowW W' g o := by
  obtain ⟨rest, h⟩ := h
  exact ⟨rest, (hK.block _ (lt_of_block h) hm).trans h⟩
theorem RowW.wys {W : World} {g : Nat} {o : List Wy} (h : RowW W g o) : Wys W (some ⟨g, 0, none⟩) o.length o :=
  ⟨rfl, fun _ => ⟨g, 0, rfl, fun j hj => by rw [Nat.zero_add]; exact h.cell hj⟩⟩
theorem rowW_own {W : World} {g n cp : Nat} {ts : List Wy} (hl : ts.length = n) (h : W.ownsRow 0 79 3 (.slice (some ⟨g, 0, none⟩) n cp) n (flatW ts)) : RowW W g ts := by
  rcases h.2 with ⟨e, _⟩ | ⟨g', cap, cur, e, hb, hg, hc, _, hsz, htake⟩
  · cases e
  · cases e
    refine ⟨cur.toList.drop (n * 3), ?_⟩
    rw [← htake, List.take_append_drop]
    exact hg
/-- One way more. -/
theorem app_wy {W : World} {v : Value} {n : Nat} {xs : List Wy} (h : W.ownsRow 0 79 3 v n (flatW xs)) (r : Wy) (hn : n ≤ 100000) :
    ∃ g c W', runA Try.prog 75 v (.slice (some ⟨W.heap.size, 0, none⟩) 1 1) (W.alloc (.cells #[.int .i64 (r.link : Int), .int .i64 r.fr, .int .i64 r.to] 79)) = .ok (.value (.slice (some ⟨g, 0, none⟩) (n + 1) c)) W' ∧ W'.ownsRow 0 79 3 (.slice (some ⟨g, 0, none⟩) (n + 1) c) (n + 1) (flatW (xs ++ [r])) ∧ Keeps (fun k => v.ownBlock = some k) W W' ∧
      n + 1 ≤ c ∧ (v.ownBlock = some g ∨ (W.heap.size ≤ g ∧ g < W'.heap.size)) := by
  have hk := keep_alloc (fun _ => False) W (.cells #[.int .i64 (r.link : Int), .int .i64 r.fr, .int .i64 r.to] 79)
  obtain ⟨v', W', a1, a2, a3, a4⟩ := app_one (n := n) Try.underlying75 info79_ rfl (by omega) (by omega) (own_keep h hk (fun _ _ e => e)) (vals := [.int .i64 (r.link : Int), .int .i64 r.fr, .int .i64 r.to]) rfl (heap_alloc_new_ W (.cells #[.int .i64 (r.link : Int), .int .i64 r.fr, .int .i64 r.to] 79)) (by simp [Value.oneCell']) (by omega)
  obtain ⟨g, c, rfl, hc⟩ : ∃ g c, v' = .slice (some ⟨g, 0, none⟩) (n + 1) c ∧ n + 1 ≤ c := by
    rcases a2.2 with ⟨e, e2⟩ | ⟨g, cp, cur, e, hb, hg, hcc, _⟩
    · omega
    · exact ⟨_, _, e, hcc⟩
  rw [← flatW_snoc xs r] at a2
  refine ⟨g, c, W', run_app a1, a2, hk.none.trans a3, hc, ?_⟩
  have hs := hk.size
  have hlt := own_lt a2 g rfl
  rcases a4 with e' | ⟨e', _⟩
  · exact .inl e'.symm
  · have := Option.some.inj e'; change g = _ at this; exact .inr ⟨by omega, hlt⟩
section
attribute [local go_sem ↓] exec_app at_app
attribute [local go_sem] Oper.semAt_some
set_option maxRecDepth 100000 in
set_option maxHeartbeats 4000000 in
theorem clone84 (A : Option Addr) (n cap : Nat) (zs : List Int) (w : World) (h : Ints w A n zs) (h0 : 0 < n) (hn : n ≤ 1000) :
    Calls Try.prog 84 #[.slice A n cap] w fun e w' => ∃ g cp, e = .returned (.slice (some ⟨g, 0, none⟩) n cp) ∧ w'.ownsRow 0 3 1 (.slice (some ⟨g, 0, none⟩) n cp) n (flatI zs) ∧ w.heap.size ≤ g ∧ Below w.heap.size w w' := by
  have q72 : ∀ (w : World) (a : Option Addr) (n c n' c' : Nat), (binOp .eql 23 (.slice a n c) (.slice none n' c')).run Try.prog w = .ok (.bool a.isNone) w := fun w a n c n' c' => Lib.run_eql_slice_nil w 23 3 a n c n' c' Try.underlying23
  have hb := below_alloc_ w (.cells #[] 3)
  have hE := heap_alloc_new_ w (.cells #[] 3)
  obtain ⟨b, o, rfl, -⟩ := h.2 h0
  have hrow : (w.alloc (.cells #[] 3)).ownsRow 0 3 1 (.slice (some ⟨w.heap.size, 0, none⟩) 0 0) 0 (flatI []) := own_empty hE
  obtain ⟨g, cp, W', hrun, hown, hK, hg⟩ := app_rows (c2 := cap) hrow (h.below hb (Nat.le_refl _)) h0 (by omega) (by omega)
  rw [Nat.zero_add] at hrun hown
  rw [List.nil_append] at hown
  have HF := Lib.hid (show Below w.heap.size w W' from hb.trans (hK.below hb.size (fun k hk e => by have e2 : w.heap.size = k := Option.some.inj e; omega)))
  have HO := Lib.hid hown
  have HG := Lib.hid (show w.heap.size ≤ g by
    rcases hg with e | ⟨e, _⟩
    · have e2 : w.heap.size = g := Option.some.inj e
      omega
    · simp at e; omega)
  clear hb hE h hrow hown hK hg
  go_enter Try.func84, Try.ntmps84
  go_wp2_with fail
  try rw [hrun]
  try go_wp2_with fail
  go_ret
  exact ⟨g, cp, rfl, HO.out, HG.out, HF.out⟩
/-- The first k and the last k are exchanged. -/
def rvK (zs : List Wy) : Nat → List Wy
  | 0 => zs
  | k + 1 => ((rvK zs k).set k (wAt zs (zs.length - 1 - k))).set (zs.length - 1 - k) (wAt zs k)
theorem wAt_set (l : List Wy) {j : Nat} (hj : j < l.length) (v : Wy) (i : Nat) : wAt (l.set j v) i = if j = i then v else wAt l i := by
  unfold wAt
  rw [List.getD_eq_getElem?_getD, List.getD_eq_getElem?_getD, List.getElem?_set]
  split
  · rename_i e; subst e; simp [hj]
  · rfl
theorem rvK_len (zs : List Wy) (k : Nat) : (rvK zs k).length = zs.length := by
  induction k with
  | zero => rfl
  | succ k ih => simp [rvK, ih]
theorem rvK_at (zs : List Wy) (k : Nat) (hk : 2 * k ≤ zs.length) (i : Nat) (hi : i < zs.length) : wAt (rvK zs k) i = if i < k ∨ zs.length - k ≤ i then wAt zs (zs.length - 1 - i) else wAt zs i := by
  induction k with
  | zero => rw [if_neg (by omega)]; rfl
  | succ k ih =>
    have ih := ih (by omega)
    simp only [rvK]
    rw [wAt_set _ (by rw [List.length_set, rvK_len]; omega), wAt_set _ (by rw [rvK_len]; omega), ih]
    by_cases h1 : zs.length - 1 - k = i
    · rw [if_pos h1, if_pos (by omega)]
      congr 1
      omega
    · rw [if_neg h1]
      by_cases h2 : k = i
      · rw [if_pos h2, if_pos (by omega)]
        subst h2; rfl
      · rw [if_neg h2]
        by_cases h3 : i < k ∨ zs.length - k ≤ i
        · rw [if_pos h3, if_pos (by omega)]
        · rw [if_neg h3, if_neg (by omega)]
theorem ext_wAt {a b : List Wy} (hl : a.length = b.length) (h : ∀ i, i < a.length → wAt a i = wAt b i) : a = b := by
  apply List.ext_getElem hl
  intro i h1 h2
  have := h i h1
  rwa [wAt_eq h1, wAt_eq h2] at this
theorem rvK_rev (zs : List Wy) (k : Nat) (hk : 2 * k ≤ zs.length) (hk2 : zs.length ≤ 2 * k + 1) : rvK zs k = zs.reverse := by
  apply ext_wAt (by rw [rvK_len, List.length_reverse])
  intro i hi
  rw [rvK_len] at hi
  rw [rvK_at zs k hk i hi, wAt_eq (zs := zs.reverse) (by rw [List.length_reverse]; exact hi), List.getElem_reverse]
  rw [← wAt_eq]
  by_cases h : i < k ∨ zs.length - k ≤ i
  · rw [if_pos h]
  · rw [if_neg h]; congr 1; omega
set_option maxRecDepth 100000 in
set_option maxHeartbeats 16000000 in
theorem reverse85 (g n cp : Nat) (zs : List Wy) (w : World) (hn : zs.length = n) (h : RowW w g zs) (hn8 : n ≤ 1000) :
    Calls Try.prog 85 #[.slice (some ⟨g, 0, none⟩) n cp] w fun e w' => (∃ v, e = .returned v) ∧ RowW w' g zs.reverse ∧ Keeps (fun k => k = g) w w' := by
  have H := Lib.hid h
  have Hn := Lib.hid hn
  clear h hn
  refine (callsIn_wide (n := 3)).1 ?_
  refine callsIn_of_wp Try.func85 rfl trivial ?_ rfl
  simp only [Try.ntmps85, List.size_toArray, List.length_cons, List.length_nil, Nat.reduceAdd, Nat.reduceSub, Array.replicate_succ, Array.replicate_zero, List.push_toArray, List.append_toArray, List.nil_append, List.cons_append]
  gi_wp2_with fail
  gi_loopw [2, 3] (fun i j wr => ∃ k : Nat, 2 * k ≤ n ∧ i = .int .i64 (k : Int) ∧ j = .int .i64 ((n : Int) - 1 - (k : Int)) ∧ Hid (RowW wr g (rvK zs k) ∧ Keeps (fun k => k = g) w wr)) (fun i j _ => n - (intOf i).toNat)
  case atStart => exact ⟨0, Nat.zero_le _, rfl, by simp, Lib.hid ⟨H.out, Keeps.refl _ _⟩⟩
  case round =>
    obtain ⟨k, hk, rfl, rfl, HI⟩ := hrel
    by_cases hlt : 2 * k + 1 < n
    · obtain ⟨q, hq⟩ : ∃ q : Nat, (n : Int) - 1 - (k : Int) = (q : Int) := ⟨n - 1 - k, by omega⟩
      have hq2 : q = n - 1 - k := by omega
      rw [hq]
      have hrow := HI.out.1
      have hl := rvK_len zs k
      rw [Hn.out] at hl
      have a0 := hrow.cell (j := k) (by omega)
      have b0 := hrow.cell (j := q) (by omega)
      rw [rvK_at zs k (by rw [Hn.out]; omega) k (by rw [Hn.out]; omega), if_neg (by rw [Hn.out]; omega)] at a0
      rw [rvK_at zs k (by rw [Hn.out]; omega) q (by rw [Hn.out]; omega), if_neg (by rw [Hn.out]; omega)] at b0
      obtain ⟨x, hx⟩ : ∃ x, wAt zs k = x := ⟨_, rfl⟩
      obtain ⟨y, hy⟩ : ∃ y, wAt zs q = y := ⟨_, rfl⟩
      have Hnx := Lib.hid (show rvK zs (k + 1) = ((rvK zs k).set k y).set q x by simp only [rvK]; rw [Hn.out, ← hq2, hx, hy])
      rw [hx] at a0
      rw [hy] at b0
      have Hq := Lib.hid hq
      have i0 : (0 : Int) ≤ (k : Int) := by omega
      have i1 : (k : Int) < (n : Int) := by omega
      have i2 : (0 : Int) ≤ (q : Int) := by omega
      have i3 : (q : Int) < (n : Int) := by omega
      have i4 : (k : Int) < (q : Int) := by omega
      have hS0 : Below wr.heap.size wr wr.drew := drew_b _ 1
      have HR0 := Lib.hid hrow
      have HIK := Lib.hid HI.out.2
      have Hl := Lib.hid hl
      clear hq2 hq hrow hl hx hy HI
      gi_wp2_with fail
      refine Out.region_R (z := 13) (S := fun V9 => Below wr.heap.size wr V9) (by kernel_rfl) ?_
      refine Out.anyR_free (i := 0) (oi := { dst := some 14, op := Go.Op.move (Go.Operand.tmp 0), type := 75, pos := "slices.go:485", after := #[], guard := none }) (v := .slice (some ⟨g, 0, none⟩) n cp) rfl (by decide) (by kernel_rfl) (by kernel_rfl) (by kernel_rfl) (fun _ _ _ h => h) (Or.inl ⟨by rfl, by intro V9; go_simp⟩) hS0 ?_
      try simp only [Act.put, List.setIfInBounds_toArray, List.set_cons_zero, List.set_cons_succ]
      refine Out.anyR_free (i := 1) (oi := { dst := some 15, op := Go.Op.move (Go.Operand.tmp 2), type := 3, pos := "slices.go:485", after := #[], guard := none }) (v := .int .i64 (k : Int)) rfl (by decide) (by kernel_rfl) (by kernel_rfl) (by kernel_rfl) (fun _ _ _ h => h) (Or.inl ⟨by rfl, by intro V9; go_simp⟩) hS0 ?_
      try simp only [Act.put, List.setIfInBounds_toArray, List.set_cons_zero, List.set_cons_succ]
      refine Out.anyR_free (i := 2) (oi := { dst := some 16, op := Go.Op.move (Go.Operand.tmp 0), type := 75, pos := "slices.go:485", after := #[{ on := 13, ground := Go.Ground.gcOnly Go.Departure.lateStores }], guard := none }) (v := .slice (some ⟨g, 0, none⟩) n cp) rfl (by decide) (by kernel_rfl) (by kernel_rfl) (by kernel_rfl) (fun _ _ _ h => h) (Or.inl ⟨by rfl, by intro V9; go_simp⟩) hS0 ?_
      try simp only [Act.put, List.setIfInBounds_toArray, List.set_cons_zero, List.set_cons_succ]
      refine Out.anyR_free (i := 3) (oi := { dst := some 17, op := Go.Op.move (Go.Operand.tmp 3), type := 3, pos := "slices.go:485", after := #[{ on := 13, ground := Go.Ground.gcOnly Go.Departure.lateStores }], guard := none }) (v := .int .i64 (q : Int)) rfl (by decide) (by kernel_rfl) (by kernel_rfl) (by kernel_rfl) (fun _ _ _ h => h) (Or.inl ⟨by rfl, by intro V9; go_simp⟩) hS0 ?_
      try simp only [Act.put, List.setIfInBounds_toArray, List.set_cons_zero, List.set_cons_succ]
      refine Out.anyR_free (i := 4) (oi := { dst := some 18, op := Go.Op.move (Go.Operand.tmp 0), type := 75, pos := "slices.go:485", after := #[], guard := none }) (v := .slice (some ⟨g, 0, none⟩) n cp) rfl (by decide) (by kernel_rfl) (by kernel_rfl) (by kernel_rfl) (fun _ _ _ h => h) (Or.inl ⟨by rfl, by intro V9; go_simp⟩) hS0 ?_
      try simp only [Act.put, List.setIfInBounds_toArray, List.set_cons_zero, List.set_cons_succ]
      refine Out.anyR_free (i := 5) (oi := { dst := some 19, op := Go.Op.move (Go.Operand.tmp 3), type := 3, pos := "slices.go:485", after := #[], guard := none }) (v := .int .i64 (q : Int)) rfl (by decide) (by kernel_rfl) (by kernel_rfl) (by kernel_rfl) (fun _ _ _ h => h) (Or.inl ⟨by rfl, by intro V9; go_simp⟩) hS0 ?_
      try simp only [Act.put, List.setIfInBounds_toArray, List.set_cons_zero, List.set_cons_succ]
      refine Out.anyR_free (i := 6) (oi := { dst := some 20, op := Go.Op.indexAddr 75 (Go.Operand.tmp 18) (Go.Operand.tmp 19), type := 0, pos := "slices.go:485", after := #[{ on := 4, ground := Go.Ground.data }, { on := 5, ground := Go.Ground.data }], guard := none }) (v := .pointer (some ⟨g, q * 3, none⟩)) rfl (by decide) (by kernel_rfl) (by kernel_rfl) (by kernel_rfl) (fun _ _ _ h => h) (Or.inl ⟨by rfl, by intro V9; go_simp⟩) hS0 ?_
      try simp only [Act.put, List.setIfInBounds_toArray, List.set_cons_zero, List.set_cons_succ]
      refine Out.anyR_take (i := 7) (oi := { dst := some 21, op := Go.Op.load 79 (Go.Operand.tmp 20), type := 79, pos := "slices.go:485", after := #[{ on := 6, ground := Go.Ground.data }], guard := none }) (v := .agg #[.int .i64 (y.link : Int), .int .i64 y.fr, .int .i64 y.to]) rfl (by decide) (by kernel_rfl) (by kernel_rfl) (by kernel_rfl) (by kernel_rfl) (fun _ _ _ h => h) (Or.inl ⟨by rfl, by intro V9 hSw; (try dsimp only at hSw); have y0 := (hSw.cell (lt_of_cell b0.1)).trans b0.1; have y1 := (hSw.cell (lt_of_cell b0.2.1)).trans b0.2.1; have y2 := (hSw.cell (lt_of_cell b0.2.2)).trans b0.2.2; go_simp⟩) hS0 ?_
      try simp only [Act.put, List.setIfInBounds_toArray, List.set_cons_zero, List.set_cons_succ]
      refine Out.anyR_free (i := 8) (oi := { dst := some 22, op := Go.Op.move (Go.Operand.tmp 0), type := 75, pos := "slices.go:485", after := #[], guard := none }) (v := .slice (some ⟨g, 0, none⟩) n cp) rfl (by decide) (by kernel_rfl) (by kernel_rfl) (by kernel_rfl) (fun _ _ _ h => h) (Or.inl ⟨by rfl, by intro V9; go_simp⟩) hS0 ?_
      try simp only [Act.put, List.setIfInBounds_toArray, List.set_cons_zero, List.set_cons_succ]
      refine Out.anyR_free (i := 9) (oi := { dst := some 23, op := Go.Op.move (Go.Operand.tmp 2), type := 3, pos := "slices.go:485", after := #[], guard := none }) (v := .int .i64 (k : Int)) rfl (by decide) (by kernel_rfl) (by kernel_rfl) (by kernel_rfl) (fun _ _ _ h => h) (Or.inl ⟨by rfl, by intro V9; go_simp⟩) hS0 ?_
      try simp only [Act.put, List.setIfInBounds_toArray, List.set_cons_zero, List.set_cons_succ]
      refine Out.anyR_free (i := 10) (oi := { dst := some 24, op := Go.Op.indexAddr 75 (Go.Operand.tmp 22) (Go.Operand.tmp 23), type := 0, pos := "slices.go:485", after := #[{ on := 8, ground := Go.Ground.data }, { on := 9, ground := Go.Ground.data }], guard := none }) (v := .pointer (some ⟨g, k * 3, none⟩)) rfl (by decide) (by kernel_rfl) (by kernel_rfl) (by kernel_rfl) (fun _ _ _ h => h) (Or.inl ⟨by rfl, by intro V9; go_simp⟩) hS0 ?_
      try simp only [Act.put, List.setIfInBounds_toArray, List.set_cons_zero, List.set_cons_succ]
      refine Out.anyR_take (i := 11) (oi := { dst := some 25, op := Go.Op.load 79 (Go.Operand.tmp 24), type := 79, pos := "slices.go:485", after := #[{ on := 10, ground := Go.Ground.data }], guard := none }) (v := .agg #[.int .i64 (x.link : Int), .int .i64 x.fr, .int .i64 x.to]) rfl (by decide) (by kernel_rfl) (by kernel_rfl) (by kernel_rfl) (by kernel_rfl) (fun _ _ _ h => h) (Or.inl ⟨by rfl, by intro V9 hSw; (try dsimp only at hSw); have y0 := (hSw.cell (lt_of_cell a0.1)).trans a0.1; have y1 := (hSw.cell (lt_of_cell a0.2.1)).trans a0.2.1; have y2 := (hSw.cell (lt_of_cell a0.2.2)).trans a0.2.2; go_simp⟩) hS0 ?_
      try simp only [Act.put, List.setIfInBounds_toArray, List.set_cons_zero, List.set_cons_succ]
      refine Out.anyR_free (i := 12) (oi := { dst := some 26, op := Go.Op.indexAddr 75 (Go.Operand.tmp 14) (Go.Operand.tmp 15), type := 0, pos := "slices.go:485", after := #[{ on := 0, ground := Go.Ground.data }, { on := 1, ground := Go.Ground.data }, { on := 0, ground := Go.Ground.phase }, { on := 1, ground := Go.Ground.phase }, { on := 2, ground := Go.Ground.textOnly Go.Departure.lateStores }, { on := 3, ground := Go.Ground.textOnly Go.Departure.lateStores }, { on := 4, ground := Go.Ground.phase }, { on := 5, ground := Go.Ground.phase }, { on := 6, ground := Go.Ground.phase }, { on := 7, ground := Go.Ground.phase }, { on := 8, ground := Go.Ground.textOnly Go.Departure.lateStores }, { on := 9, ground := Go.Ground.textOnly Go.Departure.lateStores }, { on := 10, ground := Go.Ground.textOnly Go.Departure.lateStoresUnsure }, { on := 11, ground := Go.Ground.phase }], guard := none }) (v := .pointer (some ⟨g, k * 3, none⟩)) rfl (by decide) (by kernel_rfl) (by kernel_rfl) (by kernel_rfl) (fun _ _ _ h => h) (Or.inl ⟨by rfl, by intro V9; go_simp⟩) hS0 ?_
      try simp only [Act.put, List.setIfInBounds_toArray, List.set_cons_zero, List.set_cons_succ]
      obtain ⟨X0, hX0⟩ : ∃ X0, wr.drew = X0 := ⟨_, rfl⟩
      rw [hX0] at hS0 ⊢
      have hrow := HR0.out.keep (Keeps.of_new hS0 (Mut := fun _ => False)) (fun e => e)
      have hw0 := HIK.out.trans (Keeps.of_new hS0)
      clear hX0
      have c0 := hrow.cell (j := k) (by rw [Hl.out]; omega)
      have f0 := fun j => hrow.fz j
      have c01 := c0.1
      have c02 := c0.2.1
      have c03 := c0.2.2
      have hr1 := hrow.put (j := k) (by rw [Hl.out]; omega) y
      have hk1 := ((keeps_setCell X0 g (k * 3) (.int .i64 (y.link : Int))).trans (keeps_setCell _ g (k * 3 + 1) (.int .i64 y.fr))).trans (keeps_setCell _ g (k * 3 + 2) (.int .i64 y.to))
      clear hS0 hrow c0
      refine Out.anyR_one (i := 13) (o := { dst := none, op := Go.Op.store 79 (Go.Operand.tmp 26) (Go.Operand.tmp 21), type := 0, pos := "slices.go:485", after := #[{ on := 12, ground := Go.Ground.data }, { on := 7, ground := Go.Ground.data }, { on := 0, ground := Go.Ground.phase }, { on := 1, ground := Go.Ground.phase }, { on := 2, ground := Go.Ground.textOnly Go.Departure.lateStores }, { on := 3, ground := Go.Ground.textOnly Go.Departure.lateStores }, { on := 4, ground := Go.Ground.phase }, { on := 5, ground := Go.Ground.phase }, { on := 6, ground := Go.Ground.phase }, { on := 7, ground := Go.Ground.phase }, { on := 8, ground := Go.Ground.textOnly Go.Departure.lateStores }, { on := 9, ground := Go.Ground.textOnly Go.Departure.lateStores }, { on := 10, ground := Go.Ground.textOnly Go.Departure.lateStoresUnsure }, { on := 11, ground := Go.Ground.phase }], guard := none }) (by kernel_rfl) rfl (by rfl) ?_
      intro K hK
      have HKK := Lib.hid hK
      clear hK
      gi_wp2_with fail
      refine HKK.out _ _ (fun h _ => absurd rfl h) ?_
      clear HKK K c01 c02 c03 f0
      obtain ⟨X1, hX1⟩ : ∃ X1, (((X0.setCell ⟨g, k * 3, none⟩ (.int .i64 (y.link : Int))).setCell ⟨g, k * 3 + 1, none⟩ (.int .i64 y.fr)).setCell ⟨g, k * 3 + 2, none⟩ (.int .i64 y.to)) = X1 := ⟨_, rfl⟩
      rw [hX1] at hr1 hk1 ⊢
      clear hX1
      try simp only [Act.put, List.setIfInBounds_toArray, List.set_cons_zero, List.set_cons_succ]
      refine Out.anyR_one (i := 14) (o := { dst := some 27, op := Go.Op.indexAddr 75 (Go.Operand.tmp 16) (Go.Operand.tmp 17), type := 0, pos := "slices.go:485", after := #[{ on := 2, ground := Go.Ground.data }, { on := 3, ground := Go.Ground.data }, { on := 0, ground := Go.Ground.phase }, { on := 1, ground := Go.Ground.phase }, { on := 2, ground := Go.Ground.phase }, { on := 3, ground := Go.Ground.phase }, { on := 4, ground := Go.Ground.phase }, { on := 5, ground := Go.Ground.phase }, { on := 6, ground := Go.Ground.phase }, { on := 7, ground := Go.Ground.phase }, { on := 8, ground := Go.Ground.phase }, { on := 9, ground := Go.Ground.phase }, { on := 10, ground := Go.Ground.phase }, { on := 11, ground := Go.Ground.phase }, { on := 12, ground := Go.Ground.phase }, { on := 13, ground := Go.Ground.phase }], guard := none }) (by kernel_rfl) rfl (by rfl) ?_
      intro K hK
      have HKK := Lib.hid hK
      clear hK
      gi_wp2_with fail
      refine HKK.out _ _ (fun _ h => absurd h (by decide)) ?_
      clear HKK K
      try simp only [Act.put, List.setIfInBounds_toArray, List.set_cons_zero, List.set_cons_succ]
      have c1 := hr1.cell (j := q) (by rw [List.length_set, Hl.out]; omega)
      have c11 := c1.1
      have c12 := c1.2.1
      have c13 := c1.2.2
      have f1 := fun j => hr1.fz j
      have hr2 := hr1.put (j := q) (by rw [List.length_set, Hl.out]; omega) x
      have hk2 := ((keeps_setCell X1 g (q * 3) (.int .i64 (x.link : Int))).trans (keeps_setCell _ g (q * 3 + 1) (.int .i64 x.fr))).trans (keeps_setCell _ g (q * 3 + 2) (.int .i64 x.to))
      have Hr2 := Lib.hid hr2
      have Hk2 := Lib.hid hk2
      have Hk1 := Lib.hid hk1
      have Hw0 := Lib.hid hw0
      clear hr1 hk1 hr2 hk2 hw0 c1
      refine Out.anyR_one (i := 15) (o := { dst := none, op := Go.Op.store 79 (Go.Operand.tmp 27) (Go.Operand.tmp 25), type := 0, pos := "slices.go:485", after := #[{ on := 14, ground := Go.Ground.data }, { on := 11, ground := Go.Ground.data }, { on := 13, ground := Go.Ground.chain }, { on := 0, ground := Go.Ground.phase }, { on := 1, ground := Go.Ground.phase }, { on := 2, ground := Go.Ground.phase }, { on := 3, ground := Go.Ground.phase }, { on := 4, ground := Go.Ground.phase }, { on := 5, ground := Go.Ground.phase }, { on := 6, ground := Go.Ground.phase }, { on := 7, ground := Go.Ground.phase }, { on := 8, ground := Go.Ground.phase }, { on := 9, ground := Go.Ground.phase }, { on := 10, ground := Go.Ground.phase }, { on := 11, ground := Go.Ground.phase }, { on := 12, ground := Go.Ground.phase }, { on := 13, ground := Go.Ground.phase }], guard := none }) (by kernel_rfl) rfl (by rfl) ?_
      intro K hK
      have HKK := Lib.hid hK
      clear hK
      gi_wp2_with fail
      refine HKK.out _ _ (fun _ h => absurd h (by decide)) ?_
      clear HKK K c11 c12 c13 f1
      try simp only [Act.put, List.setIfInBounds_toArray, List.set_cons_zero, List.set_cons_succ]
      refine Out.anyR_done (by kernel_rfl) ?_ _
      obtain ⟨X2, hX2⟩ : ∃ X2, (((X1.setCell ⟨g, q * 3, none⟩ (.int .i64 (x.link : Int))).setCell ⟨g, q * 3 + 1, none⟩ (.int .i64 x.fr)).setCell ⟨g, q * 3 + 2, none⟩ (.int .i64 x.to)) = X2 := ⟨_, rfl⟩
      have hr2 := Hr2.out
      have hk2 := Hk2.out
      rw [hX2] at hr2 hk2 ⊢
      rw [← Hnx.out] at hr2
      have HN := Lib.hid (show RowW X2 g (rvK zs (k + 1)) ∧ Keeps (fun k => k = g) w X2 from ⟨hr2, (Hw0.out.trans Hk1.out).trans hk2⟩)
      have i5 : (q : Int) - 1 = (n : Int) - 1 - ((k : Int) + 1) := by have := Hq.out; omega
      clear hr2 hk2 hX2 Hr2 Hk2
      gi_wp2_with fail
      go_roundw
      case rel => exact ⟨k + 1, by omega, by go_num, by congr 1, HN⟩
      case measure => simp [intOf]; omega
    · have d0 : ¬ ((k : Int) < (n : Int) - 1 - (k : Int)) := by omega
      have HN := Lib.hid (show RowW wr g zs.reverse ∧ Keeps (fun k => k = g) w wr from ⟨by rw [← rvK_rev zs k (by rw [Hn.out]; omega) (by rw [Hn.out]; omega)]; exact HI.out.1, HI.out.2⟩)
      clear HI
      gi_wp2_with fail
      go_end0
      exact ⟨⟨_, rfl⟩, HN.out⟩
end
end Go.Proofs.Ytigohccehllmnaa
