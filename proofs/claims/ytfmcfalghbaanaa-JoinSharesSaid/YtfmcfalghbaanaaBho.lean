/- Stage 2: the states behind a state, yielded to rounds that own blocks. -/
import Derived.Test.YtfmcfalghbaanaaSto
import Derived.Test.YtfmcfalghbaanaaBeh
namespace Go.Proofs.Ytfmcfalghbaanaa
set_option linter.unusedSimpArgs false
set_option linter.unusedVariables false
open Go.RowKit Go.Shelf
attribute [local go_sem] Oper.semAt_some
attribute [local go_sem ↓] exec_load78
attribute [local go_sem ↓] at_load78
attribute [local go_sem ↓] at_load73
def BIO (J : List Sta → (Nat → Prop) → World → Prop) (T : Nat → Nat → Bool) (x q : Nat) (Mut : Nat → Prop) (W5 : World) (pre : List Nat) (O : Nat → Prop) (W : World) : Prop := J ((pre.filter (can T ⟨x, q⟩)).map (goS ⟨x, q⟩)) O W ∧ Keeps Mut W5 W
def BXO (Jx : List Sta → (Nat → Prop) → World → Prop) (T : Nat → Nat → Bool) (x q : Nat) (c : Code) (pre : List Nat) (O : Nat → Prop) (W : World) : Prop := (c = .ret ∧ ∃ pre0 s0, pre = pre0 ++ [s0] ∧ can T ⟨x, q⟩ s0 = true) ∧ Jx ((pre.filter (can T ⟨x, q⟩)).map (goS ⟨x, q⟩)) O W
theorem AbO.up {B B' : Nat} {J : (Nat → Prop) → World → Prop} (h : AbO B J) (hB : B ≤ B') : AbO B' J := fun O W W' hj hK => h O W W' hj (hK.mono (fun k _ e => ⟨by omega, e.2⟩))
set_option maxRecDepth 100000 in
set_option maxHeartbeats 2000000 in
theorem behind_seqO (X : Array Value) (A : Option Addr) (n cap : Nat) (off lo hi : Int) (T : Nat → Nat → Bool) (M Bb Bs p q x : Nat) (t : Bool) (ps : List Pc) (w : World) (hB : w.heap[Bb]? = some (.cells X 78 (0, 0))) (hX : Brd X A n cap off lo hi T M) (hs : w.heap[Bs]? = some (.cells (staV p t q) 91 (0, 0))) (hp : Pcs w A n ps) (hn0 : 1 ≤ n) (hn : n ≤ 8) (hq : q < 256) (hx : x = if t then 2 * p + 1 else 2 * p) (hx16 : x < 16) :
    SeqO Try.prog 77 #[.pointer (some ⟨Bs, 0, none⟩), .pointer (some ⟨Bb, 0, none⟩)] staE (nexts T (codesL ps) ⟨x, q⟩) (fun k => k = Bb ∨ k = Bs ∨ ∃ o, A = some ⟨k, o, none⟩) w := by
  intro l Mut J Jx W hW hMut hJ hJx hY h0
  have hBW := (hW.block Bb (lt_of_block hB) (fun e => e)).trans hB
  have hsW := (hW.block Bs (lt_of_block hs) (fun e => e)).trans hs
  have s0 : W.cell? ⟨Bs, 0, none⟩ = some (.int .i64 (p : Int)) := by rw [cell_row hsW]; rfl
  have s1 : W.cell? ⟨Bs, 1, none⟩ = some (.bool t) := by rw [cell_row hsW]; rfl
  have s2 : W.cell? ⟨Bs, 2, none⟩ = some (.int .u64 (q : Int)) := by rw [cell_row hsW]; rfl
  have ls := lt_of_block hsW
  have lb := lt_of_block hBW
  refine (callsIn_wide (n := 5)).1 ?_
  refine callsIn_of_wp_marks Try.func77 rfl trivial ?_ rfl
  simp only [Try.ntmps77, List.size_toArray, List.length_cons, List.length_nil, Nat.reduceAdd, Nat.reduceSub, Array.replicate_succ, Array.replicate_zero, List.push_toArray, List.append_toArray, List.nil_append, List.cons_append]
  have Hx := Lib.hid hx
  have hp8 : p < 8 := by cases t <;> simp at hx <;> omega
  have hn1 : 0 < n := by omega
  have HwW := Lib.hid hW
  have HM := Lib.hid hMut
  have HJa := Lib.hid hJ
  have HJx := Lib.hid hJx
  have HY := Lib.hid hY
  have Hj0 := Lib.hid h0
  have Hp := Lib.hid hp
  have HBW := Lib.hid hBW
  have HSW := Lib.hid hsW
  clear hx hW hMut hJ hJx hY h0 hp hBW hsW hs hB
  by_cases hq0 : q = 0
  · have d0 : ((q : Int) != 0) = false := by rw [bne_eq_false_iff_eq]; omega
    have Hq0 := Lib.hid hq0
    clear hq0
    gi_wp2_with fail
    refine ⟨trivial, ?_⟩
    gi_wp2_with fail
    have HK3 := Lib.hid (show Keeps (fun _ => False) W ((W.alloc (.cells #[.func (.yield l) #[] #[]] 96)).alloc (.cells #[.bool false] 4)) from (keep_alloc _ _ _).trans (keep_alloc _ _ _))
    have He3 := Lib.hid (show ((W.alloc (.cells #[.func (.yield l) #[] #[]] 96)).alloc (.cells #[.bool false] 4)).heap[W.heap.size]? = some (.cells #[.func (.yield l) #[] #[]] 96 (0, 0)) from hal_old (heap_alloc_new_ _ _))
    have He4 := Lib.hid (show ((W.alloc (.cells #[.func (.yield l) #[] #[]] 96)).alloc (.cells #[.bool false] 4)).heap[W.heap.size + 1]? = some (.cells #[.bool false] 4 (0, 0)) from hal_new (by simp))
    obtain ⟨bg, hbg⟩ : ∃ bg, bg = decide (q ≠ 0) := ⟨_, rfl⟩
    obtain ⟨W3, hW3⟩ : ∃ W3, (W.alloc (.cells #[.func (.yield l) #[] #[]] 96)).alloc (.cells #[.bool false] 4) = W3 := ⟨_, rfl⟩
    rw [hW3] at HK3 He3 He4 ⊢
    rw [show false = bg by rw [hbg]; simp [Hq0.out]] at He4
    have Hbg := Lib.hid hbg
    clear hbg d0
    have HB3 := Lib.hid ((HK3.out.block _ lb (fun e => e)).trans HBW.out)
    have HS3 := Lib.hid ((HK3.out.block _ ls (fun e => e)).trans HSW.out)
    clear hW3 s0 s1 s2
    refine ⟨trivial, (callsIn_wide.2 (members69 _ _)).mono ?_⟩
    rintro e w4 ⟨rfl, rfl⟩
    have hk5 : Keeps (fun _ => False) W3 (((W3.alloc (.cells #[.int .u64 (q : Int)] 89)).alloc (.cells #[.func (.func 76) #[] #[.pointer (some ⟨W3.heap.size, 0, none⟩)]] 119)).alloc (.cells X 78)) := ((keep_alloc _ _ _).trans (keep_alloc _ _ _)).trans (keep_alloc _ _ _)
    have hB4 : ((W3.alloc (.cells #[.int .u64 (q : Int)] 89)).alloc (.cells #[.func (.func 76) #[] #[.pointer (some ⟨W3.heap.size, 0, none⟩)]] 119)).heap[Bb]? = some (.cells X 78 (0, 0)) := hal_old (hal_old HB3.out)
    have h78 := run_ld78 hB4 hX.size
    clear hB4
    gi_wp2_with fail
    clear h78
    refine ⟨trivial, (callsIn_wide.2 (steps57 _ _)).mono ?_⟩
    rintro e w5 ⟨rfl, rfl⟩
    gi_wp2_with fail
    have e5 := heap_alloc_new_ ((W3.alloc (.cells #[.int .u64 (q : Int)] 89)).alloc (.cells #[.func (.func 76) #[] #[.pointer (some ⟨W3.heap.size, 0, none⟩)]] 119)) (.cells X 78)
    simp only [World.size_alloc] at e5
    have e6 : (((W3.alloc (.cells #[.int .u64 (q : Int)] 89)).alloc (.cells #[.func (.func 76) #[] #[.pointer (some ⟨W3.heap.size, 0, none⟩)]] 119)).alloc (.cells X 78)).heap[W3.heap.size]? = some (.cells #[.int .u64 (q : Int)] 89 (0, 0)) := hal_old (hal_old (heap_alloc_new_ _ _))
    have e7 : (((W3.alloc (.cells #[.int .u64 (q : Int)] 89)).alloc (.cells #[.func (.func 76) #[] #[.pointer (some ⟨W3.heap.size, 0, none⟩)]] 119)).alloc (.cells X 78)).heap[W3.heap.size + 1]? = some (.cells #[.func (.func 76) #[] #[.pointer (some ⟨W3.heap.size, 0, none⟩)]] 119 (0, 0)) := hal_old (hal_new (by simp))
    obtain ⟨W5, hW5⟩ : ∃ W5, ((W3.alloc (.cells #[.int .u64 (q : Int)] 89)).alloc (.cells #[.func (.func 76) #[] #[.pointer (some ⟨W3.heap.size, 0, none⟩)]] 119)).alloc (.cells X 78) = W5 := ⟨_, rfl⟩
    rw [hW5] at hk5 e5 e6 e7 ⊢
    have e3 := (hk5.block _ (lt_of_block He3.out) (fun e => e)).trans He3.out
    have e4 := (hk5.block _ (lt_of_block He4.out) (fun e => e)).trans He4.out
    have eB := (hk5.block _ (lt_of_block HB3.out) (fun e => e)).trans HB3.out
    have eS := (hk5.block _ (lt_of_block HS3.out) (fun e => e)).trans HS3.out
    have hkW : Keeps (fun _ => False) W W5 := HK3.out.trans hk5
    have hs3 := HK3.out.size
    have hs5 := hk5.size
    have hpc5 := Hp.out.below (HwW.out.trans hkW).new (Nat.le_refl _)
    have hMl : ∀ k, Mut k → k < W.heap.size := fun k h => (HM.out k h).1
    have hMB : ¬ Mut Bb := fun h => (HM.out _ h).2 (.inl rfl)
    have hMS : ¬ Mut Bs := fun h => (HM.out _ h).2 (.inr (.inl rfl))
    have hneed : ∀ k, (∃ o, A = some ⟨k, o, none⟩) → k < W5.heap.size := by
      rintro k ⟨o, e⟩
      obtain ⟨b, o2, e2, hc⟩ := hpc5.2 hn1
      have := lt_of_cell (hc 0 hn1).1
      rw [e2] at e
      injection e with e
      injection e with e _
      omega
    have hlen := eq_le Hp.out.1
    clear hW5 hk5
    refine wpIn_rangeO (gf := 72) (lb := #[.pointer (some ⟨W3.heap.size + 1 + 1, 0, none⟩)]) rfl (enters_of Try.func72 (by kernel_rfl) rfl) (steps_seqO X A n cap off lo hi T M (W3.heap.size + 1 + 1) ps W5 e5 hX hpc5 hn)
      hneed (fun _ => rfl) Mut (fun k h => ⟨by have := hMl k h; omega, fun h2 => (HM.out k h).2 (.inr (.inr h2))⟩)
      (BIO J T x q Mut W5) (BXO Jx T x q) (fun pre O A B hA hK => ⟨(HJa.out _).up (by omega) _ _ _ hA.1 hK, keeps_abides (Nat.le_refl _) _ _ hA.2 (hK.mono (fun k _ e => e.1))⟩) (fun c pre O A B hA hK => ⟨hA.1, (HJx.out _).up (by omega) _ _ _ hA.2 hK⟩) ?start ?round ?done ?stop
    case start => exact ⟨HJa.out _ _ _ _ Hj0.out hkW.none, Keeps.refl _ _⟩
    case done =>
      rintro D W' O hD hDW hDO hOs hI hKd
      gi_wp2_with fail
      refine ⟨by simp, .inl ⟨_, _, rfl, run_takeDeferred hKd, ?_⟩⟩
      exact ⟨_, results_none rfl _ _ _, ⟨_, rfl⟩, O, fun k hk => ⟨by have := hOs k hk; omega, by have h1 := (Keeps.putObj (Mut := fun j => j = D) W' D (.deferred none) rfl).size; have := hOs k hk; omega⟩, .inl (HJa.out _ _ _ _ hI.1 (Keeps.putObj _ _ _ ⟨by omega, hDO⟩))⟩
    case stop =>
      rintro D c pre s post W' O hD hDW hDO hOs hxs ⟨⟨rfl, pre0, s0, hps0, hcan⟩, hjx⟩ hKd
      have HPS := Lib.hid hps0
      have HXS := Lib.hid hxs
      clear hps0 hxs
      gi_wp2_with fail
      refine ⟨by simp, .inl ⟨_, _, rfl, run_takeDeferred hKd, ?_⟩⟩
      refine ⟨_, results_none rfl _ _ _, ⟨_, rfl⟩, O, fun k hk => ⟨by have := hOs k hk; omega, by have h1 := (Keeps.putObj (Mut := fun j => j = D) W' D (.deferred none) rfl).size; have := hOs k hk; omega⟩, .inr ?_⟩
      obtain rfl : s = s0 := by have := List.append_inj_right' HPS.out rfl; simpa using this
      refine ⟨(pre.filter (can T ⟨x, q⟩)).map (goS ⟨x, q⟩), goS ⟨x, q⟩ s, (post.filter (can T ⟨x, q⟩)).map (goS ⟨x, q⟩), by unfold nexts; rw [HXS.out]; simp [List.filter_append, List.filter_cons, hcan], ?_⟩
      have h1 := HJx.out _ _ _ _ hjx (Keeps.putObj _ D (.deferred none) ⟨by omega, hDO⟩)
      rwa [List.filter_append, List.map_append, List.filter_cons, if_pos hcan] at h1
    case round =>
      intro l2 pre s post W6 O hxs hl1 hl2 hr hO6 hI m
      have hsc : s ∈ codesL ps := by rw [hxs]; simp
      have hs16 := codes_ok ps s hsc
      obtain ⟨p2, t2, hE, hC, hps⟩ := stE_form s
      rw [hE]
      have hp2 : p2 < 8 := by cases t2 <;> simp at hps <;> omega
      have hs2 : s < 16 := by omega
      have Hby := Lib.hid (heap_alloc_new_ W6 (.cells #[.int .i64 (p2 : Int), .bool t2] 28))
      have HXS := Lib.hid hxs
      have Hps := Lib.hid hps
      have hs2p : s / 2 = p2 := by cases t2 <;> simp at hps <;> omega
      have HSE := Lib.hid (show staE (goS ⟨x, q⟩ s) = #[.agg #[.int .i64 (p2 : Int), .bool t2, .int .u64 ((q ||| 2 ^ p2 : Nat) : Int)]] by
        have : decide (s % 2 = 1) = t2 := by cases t2 <;> simp at hps ⊢ <;> omega
        unfold staE goS
        simp only [hs2p, this])
      have Hcn := Lib.hid (show can T ⟨x, q⟩ s = (!q.testBit p2 && (!bg || T x s)) by unfold can; rw [hs2p, Hbg.out]; simp)
      clear hE hC hps hxs hs2p hsc
      gi_wp2_with fail
      refine ⟨keep_alloc _ _ _, ?_⟩
      intro W7 hB7 hI7
      have hK7 := hI7.2
      have F3 := Lib.hid ((hK7.block _ (lt_of_block e3) (fun h => by have := hMl _ h; omega)).trans e3)
      have F4 := Lib.hid ((hK7.block _ (lt_of_block e4) (fun h => by have := hMl _ h; omega)).trans e4)
      have F6 := Lib.hid ((hK7.block _ (lt_of_block e6) (fun h => by have := hMl _ h; omega)).trans e6)
      have F7 := Lib.hid ((hK7.block _ (lt_of_block e7) (fun h => by have := hMl _ h; omega)).trans e7)
      have FB := Lib.hid ((hK7.block _ (lt_of_block eB) hMB).trans eB)
      have FS := Lib.hid ((hK7.block _ (lt_of_block eS) hMS).trans eS)
      have F8 := Lib.hid ((hB7.keeps.block _ (by simp) (by omega)).trans Hby.out)
      have HB7 := Lib.hid hB7.keeps
      have HI7 := Lib.hid hI7
      have c5 : W7.cell? ⟨W3.heap.size + 1, 0, none⟩ = some (.func (.func 76) #[] #[.pointer (some ⟨W3.heap.size, 0, none⟩)]) := by rw [cell_row F7.out]; rfl
      have c6 : W7.cell? ⟨W3.heap.size, 0, none⟩ = some (.int .u64 (q : Int)) := by rw [cell_row F6.out]; rfl
      have c4 : W7.cell? ⟨W.heap.size + 1, 0, none⟩ = some (.bool bg) := by rw [cell_row F4.out]; rfl
      obtain ⟨c8, c9⟩ := two_cells F8.out
      have s0 : W7.cell? ⟨Bs, 0, none⟩ = some (.int .i64 (p : Int)) := by rw [cell_row FS.out]; rfl
      have s1 : W7.cell? ⟨Bs, 1, none⟩ = some (.bool t) := by rw [cell_row FS.out]; rfl
      have C6 := Lib.hid c6
      clear hB7 hI7 hK7 c6 e3 e4 e5 e6 e7 eB eS hr hI
      gi_wp2_with fail
      refine ⟨trivial, wide_d, CallsIn.inRound l2 ((callsIn_wide.2 (member76 q p2 _ _ C6.out hq hp2)).mono ?_)⟩
      rintro e w8 ⟨rfl, rfl⟩
      cases htb : q.testBit p2 with
      | true =>
        have Hcan := Lib.hid (show can T ⟨x, q⟩ s = false by rw [Hcn.out, htb]; rfl)
        clear htb
        have hfin : BIO J T x q Mut W5 (pre ++ [s]) O w8 := ⟨by rw [List.filter_append, List.filter_cons, if_neg (by rw [Hcan.out]; simp)]; simpa using HI7.out.1, HI7.out.2⟩
        gi_wp2_with fail
        all_goals first
          | (rename_i hz1 hz2; simp [undef] at hz1)
          | (refine ⟨trivial, ?_⟩; gi_wp2_with fail; exact ⟨O, Grow.refl _ _ _, Keeps.refl _ _, hfin⟩)
      | false =>
        cases bg with
        | false =>
          have Hcan := Lib.hid (show can T ⟨x, q⟩ s = true by rw [Hcn.out, htb]; rfl)
          clear htb
          gi_wp2_with fail
          refine ⟨trivial, ?_⟩
          gi_wp2_with fail
          obtain ⟨W9, hW9⟩ : ∃ W9, w8 = W9 := ⟨_, rfl⟩
          have HK9 := Lib.hid (show Keeps Mut w8 W9 by rw [← hW9]; exact Keeps.refl _ _)
          have HN9 := Lib.hid (show Keeps (fun _ => False) w8 W9 by rw [← hW9]; exact Keeps.refl _ _)
          rw [hW9]
          clear hW9 c5 c4 c8 c9 s0 s1
          have HS := Lib.hid (show ∀ W', Keeps (fun k => Mut k ∨ O k) W9 W' → (fun W' => Keeps (fun k => Mut k ∨ O k) W9 W' ∧ W'.cell? ⟨W.heap.size, 0, none⟩ = some (.func (.yield l) #[] #[]) ∧ W'.cell? ⟨W6.heap.size, 0, none⟩ = some (.int .i64 (p2 : Int)) ∧ W'.cell? ⟨W6.heap.size, 1, none⟩ = some (.bool t2) ∧ W'.cell? ⟨Bs, 2, none⟩ = some (.int .u64 (q : Int))) W' from fun W' hk => by
            have h1 := (HK9.out.mono (Mut' := fun k => Mut k ∨ O k) (fun _ _ e => .inl e)).trans hk
            have e1 := two_cells ((h1.block _ (lt_of_block F8.out) (fun h => h.elim (fun h => by have := hMl _ h; omega) (fun h => by have := hO6 _ h; omega))).trans F8.out)
            refine ⟨hk, ?_, e1.1, e1.2, ?_⟩
            · rw [cell_row ((h1.block _ (lt_of_block F3.out) (fun h => h.elim (fun h => by have := hMl _ h; omega) (fun h => by have := hO6 _ h; omega))).trans F3.out)]; rfl
            · rw [cell_row ((h1.block _ (lt_of_block FS.out) (fun h => h.elim hMS (fun h => by have := hO6 _ h; omega))).trans FS.out)]; rfl)
          refine region_R (z := 11) (S := (fun W' => Keeps (fun k => Mut k ∨ O k) W9 W' ∧ W'.cell? ⟨W.heap.size, 0, none⟩ = some (.func (.yield l) #[] #[]) ∧ W'.cell? ⟨W6.heap.size, 0, none⟩ = some (.int .i64 (p2 : Int)) ∧ W'.cell? ⟨W6.heap.size, 1, none⟩ = some (.bool t2) ∧ W'.cell? ⟨Bs, 2, none⟩ = some (.int .u64 (q : Int)))) (by kernel_rfl) ?_
          have hkd : Keeps (fun k => Mut k ∨ O k) W9 W9.drew := Keeps.of_new (drew_b W9 1)
          have hS0 := HS.out W9.drew hkd
          have ip0 : (0 : Int) ≤ (p2 : Int) := by omega
          have ip1 : (p2 : Int) < 8 := by omega
          have hbit := bit_or hq hp2
          have hwr := wrap_pow hp2
          refine anyR_take (i := 0) (v := .func (.yield l) #[] #[]) rfl (by decide) (by kernel_rfl) (by kernel_rfl) (by kernel_rfl) (by kernel_rfl) (fun _ _ _ h => h) (Or.inl ⟨by rfl, by intro W' hSw; (try dsimp only at hSw); go_simp⟩) hS0 ?_
          simp only [Act.put, List.setIfInBounds_toArray, List.set_cons_zero, List.set_cons_succ]
          refine anyR_take (i := 1) (v := .agg #[.int .i64 (p2 : Int), .bool t2]) rfl (by decide) (by kernel_rfl) (by kernel_rfl) (by kernel_rfl) (by kernel_rfl) (fun _ _ _ h => h) (Or.inl ⟨by rfl, by intro W' hSw; (try dsimp only at hSw); go_simp⟩) hS0 ?_
          simp only [Act.put, List.setIfInBounds_toArray, List.set_cons_zero, List.set_cons_succ]
          refine anyR_take (i := 2) (v := .pointer (some ⟨Bs, 2, none⟩)) rfl (by decide) (by kernel_rfl) (by kernel_rfl) (by kernel_rfl) (by kernel_rfl) (fun _ _ _ h => h) (Or.inl ⟨by rfl, by intro W' hSw; (try dsimp only at hSw); go_simp⟩) hS0 ?_
          simp only [Act.put, List.setIfInBounds_toArray, List.set_cons_zero, List.set_cons_succ]
          refine anyR_take (i := 3) (v := .int .u64 (q : Int)) rfl (by decide) (by kernel_rfl) (by kernel_rfl) (by kernel_rfl) (by kernel_rfl) (fun _ _ _ h => h) (Or.inl ⟨by rfl, by intro W' hSw; (try dsimp only at hSw); go_simp⟩) hS0 ?_
          simp only [Act.put, List.setIfInBounds_toArray, List.set_cons_zero, List.set_cons_succ]
          refine anyR_take (i := 4) (v := .pointer (some ⟨W6.heap.size, 0, none⟩)) rfl (by decide) (by kernel_rfl) (by kernel_rfl) (by kernel_rfl) (by kernel_rfl) (fun _ _ _ h => h) (Or.inl ⟨by rfl, by intro W' hSw; (try dsimp only at hSw); go_simp⟩) hS0 ?_
          simp only [Act.put, List.setIfInBounds_toArray, List.set_cons_zero, List.set_cons_succ]
          refine anyR_take (i := 5) (v := .int .i64 (p2 : Int)) rfl (by decide) (by kernel_rfl) (by kernel_rfl) (by kernel_rfl) (by kernel_rfl) (fun _ _ _ h => h) (Or.inl ⟨by rfl, by intro W' hSw; (try dsimp only at hSw); go_simp⟩) hS0 ?_
          simp only [Act.put, List.setIfInBounds_toArray, List.set_cons_zero, List.set_cons_succ]
          refine anyR_take (i := 6) (v := .int .u64 (2 ^ p2)) rfl (by decide) (by kernel_rfl) (by kernel_rfl) (by kernel_rfl) (by kernel_rfl) (fun _ _ _ h => h) (Or.inl ⟨by rfl, by intro W' hSw; (try dsimp only at hSw); go_simp⟩) hS0 ?_
          simp only [Act.put, List.setIfInBounds_toArray, List.set_cons_zero, List.set_cons_succ]
          refine anyR_take (i := 7) (v := .int .u64 ((q ||| 2 ^ p2 : Nat) : Int)) rfl (by decide) (by kernel_rfl) (by kernel_rfl) (by kernel_rfl) (by kernel_rfl) (fun _ _ _ h => h) (Or.inl ⟨by rfl, by intro W' hSw; (try dsimp only at hSw); go_simp⟩) hS0 ?_
          simp only [Act.put, List.setIfInBounds_toArray, List.set_cons_zero, List.set_cons_succ]
          refine anyR_take (i := 8) (v := .agg #[.int .i64 (p2 : Int), .bool t2, .int .u64 ((q ||| 2 ^ p2 : Nat) : Int)]) rfl (by decide) (by kernel_rfl) (by kernel_rfl) (by kernel_rfl) (by kernel_rfl) (fun _ _ _ h => h) (Or.inl ⟨by rfl, by intro W' hSw; (try dsimp only at hSw); go_simp⟩) hS0 ?_
          simp only [Act.put, List.setIfInBounds_toArray, List.set_cons_zero, List.set_cons_succ]
          refine anyR_one (i := 9) (by kernel_rfl) rfl (by rfl) ?_
          intro K hK
          have HKK := Lib.hid hK
          clear hK hS0
          have hj9 : J ((pre.filter (can T ⟨x, q⟩)).map (goS ⟨x, q⟩)) O W9.drew := HJa.out _ _ _ _ HI7.out.1 ((HN9.out.trans (Keeps.of_new (drew_b W9 1))).none)
          have hy0 := HY.out ((pre.filter (can T ⟨x, q⟩)).map (goS ⟨x, q⟩)) (goS ⟨x, q⟩ s) ((post.filter (can T ⟨x, q⟩)).map (goS ⟨x, q⟩)) W9.drew O (by unfold nexts; rw [HXS.out]; simp [List.filter_append, List.filter_cons, Hcan.out]) (by have := HK9.out.size; have h7 := HB7.out.size; simp only [World.size_alloc] at h7; show W.heap.size ≤ W9.heap.size; omega) (fun k hk => by have h8 := hO6 k hk; have h9 := HK9.out.size; have h7 := HB7.out.size; simp only [World.size_alloc] at h7; show _ ∧ k < W9.heap.size; omega) hj9 (m - 1)
          rw [HSE.out] at hy0
          obtain ⟨fn, tmps, assign, body, hy, hR⟩ := hy0
          clear hkd hj9 hbit hwr
          go_simp
          refine ⟨wide_d, RoundIn.mono hR ?_⟩
          rintro e W10 (⟨rfl, O10, hg10, hj10, hk10⟩ | ⟨rfl, O10, hg10, hj10, hk10⟩)
          · have hk11 : Keeps (fun k => Mut k ∨ O k) W9 W10 := (Keeps.of_new (drew_b W9 1)).trans hk10
            have hS0 := HS.out W10 hk11
            refine HKK.out _ _ (fun _ _ => hS0) ?_
            have HJ10 := Lib.hid hj10
            have HK11 := Lib.hid hk11
            have HG10 := Lib.hid (show Grow O O10 w8 W10 from ⟨hg10.1, fun k hk => (hg10.2 k hk).imp id (fun e => ⟨Nat.le_trans HK9.out.size e.1, e.2⟩)⟩)
            clear hj10 hk10 hk11 hy HKK K hg10
            refine anyR_free (i := 10) (v := .bool false) rfl (by decide) (by kernel_rfl) (by kernel_rfl) (by kernel_rfl) (fun _ _ _ h => h) (Or.inl ⟨by rfl, by intro W' _; go_simp⟩) hS0 ?_
            simp only [Act.put, List.setIfInBounds_toArray, List.set_cons_zero, List.set_cons_succ]
            refine anyR_done (by kernel_rfl) ?_ _
            clear hS0
            gi_wp2_with fail
            exact ⟨O10, HG10.out, (HK9.out.mono (fun _ _ e => .inl e)).trans HK11.out, by rw [List.filter_append, List.map_append, List.filter_cons, if_pos Hcan.out]; exact HJ10.out, (((HI7.out.2.trans HK9.out).mono (Mut' := fun k => Mut k ∨ O k) (fun _ _ e => .inl e)).trans HK11.out).mono (fun k hk e => e.elim id (fun e => by have := (hO6 k e).1; omega))⟩
          · have hk11 : Keeps (fun k => Mut k ∨ O k) W9 W10 := (Keeps.of_new (drew_b W9 1)).trans hk10
            have hS0 := HS.out W10 hk11
            refine HKK.out _ _ (fun _ _ => hS0) ?_
            have HJ10 := Lib.hid hj10
            have HK11 := Lib.hid hk11
            have HG10 := Lib.hid (show Grow O O10 w8 W10 from ⟨hg10.1, fun k hk => (hg10.2 k hk).imp id (fun e => ⟨Nat.le_trans HK9.out.size e.1, e.2⟩)⟩)
            clear hj10 hk10 hk11 hy HKK K hg10
            refine anyR_free (i := 10) (v := .bool true) rfl (by decide) (by kernel_rfl) (by kernel_rfl) (by kernel_rfl) (fun _ _ _ h => h) (Or.inl ⟨by rfl, by intro W' _; go_simp⟩) hS0 ?_
            simp only [Act.put, List.setIfInBounds_toArray, List.set_cons_zero, List.set_cons_succ]
            refine anyR_done (by kernel_rfl) ?_ _
            clear hS0
            gi_wp2_with fail
            exact ⟨O10, HG10.out, (HK9.out.mono (fun _ _ e => .inl e)).trans HK11.out, ⟨rfl, pre, s, rfl, Hcan.out⟩, by rw [List.filter_append, List.map_append, List.filter_cons, if_pos Hcan.out]; exact HJ10.out⟩
        | true =>
          gi_wp2_with fail
          refine ⟨trivial, wide_d, CallsIn.inRound l2 ((callsIn_wide.2 (fits44 X A n cap off lo hi T M Bb p p2 x s t t2 _ FB.out hX Hx.out Hps.out hx16 hs2)).mono ?_)⟩
          rintro e W9 ⟨rfl, hb9⟩
          have HK9 := Lib.hid (show Keeps Mut w8 W9 from Keeps.of_new hb9)
          have HN9 := Lib.hid (show Keeps (fun _ => False) w8 W9 from Keeps.of_new hb9)
          clear c5 c4 c8 c9 s0 s1 hb9
          cases hT : T x s with
          | false =>
            have Hcan := Lib.hid (show can T ⟨x, q⟩ s = false by rw [Hcn.out, hT]; simp)
            clear htb hT
            gi_wp2_with fail
            exact ⟨O, Grow.refl _ _ _, HK9.out.mono (fun _ _ e => .inl e), by rw [List.filter_append, List.filter_cons, if_neg (by rw [Hcan.out]; simp)]; simpa using HJa.out _ _ _ _ HI7.out.1 HN9.out.none, HI7.out.2.trans HK9.out⟩
          | true =>
            have Hcan := Lib.hid (show can T ⟨x, q⟩ s = true by rw [Hcn.out, htb, hT]; rfl)
            clear htb hT
            gi_wp2_with fail
            have HS := Lib.hid (show ∀ W', Keeps (fun k => Mut k ∨ O k) W9 W' → (fun W' => Keeps (fun k => Mut k ∨ O k) W9 W' ∧ W'.cell? ⟨W.heap.size, 0, none⟩ = some (.func (.yield l) #[] #[]) ∧ W'.cell? ⟨W6.heap.size, 0, none⟩ = some (.int .i64 (p2 : Int)) ∧ W'.cell? ⟨W6.heap.size, 1, none⟩ = some (.bool t2) ∧ W'.cell? ⟨Bs, 2, none⟩ = some (.int .u64 (q : Int))) W' from fun W' hk => by
              have h1 := (HK9.out.mono (Mut' := fun k => Mut k ∨ O k) (fun _ _ e => .inl e)).trans hk
              have e1 := two_cells ((h1.block _ (lt_of_block F8.out) (fun h => h.elim (fun h => by have := hMl _ h; omega) (fun h => by have := hO6 _ h; omega))).trans F8.out)
              refine ⟨hk, ?_, e1.1, e1.2, ?_⟩
              · rw [cell_row ((h1.block _ (lt_of_block F3.out) (fun h => h.elim (fun h => by have := hMl _ h; omega) (fun h => by have := hO6 _ h; omega))).trans F3.out)]; rfl
              · rw [cell_row ((h1.block _ (lt_of_block FS.out) (fun h => h.elim hMS (fun h => by have := hO6 _ h; omega))).trans FS.out)]; rfl)
            refine region_R (z := 11) (S := (fun W' => Keeps (fun k => Mut k ∨ O k) W9 W' ∧ W'.cell? ⟨W.heap.size, 0, none⟩ = some (.func (.yield l) #[] #[]) ∧ W'.cell? ⟨W6.heap.size, 0, none⟩ = some (.int .i64 (p2 : Int)) ∧ W'.cell? ⟨W6.heap.size, 1, none⟩ = some (.bool t2) ∧ W'.cell? ⟨Bs, 2, none⟩ = some (.int .u64 (q : Int)))) (by kernel_rfl) ?_
            have hkd : Keeps (fun k => Mut k ∨ O k) W9 W9.drew := Keeps.of_new (drew_b W9 1)
            have hS0 := HS.out W9.drew hkd
            have ip0 : (0 : Int) ≤ (p2 : Int) := by omega
            have ip1 : (p2 : Int) < 8 := by omega
            have hbit := bit_or hq hp2
            have hwr := wrap_pow hp2
            refine anyR_take (i := 0) (v := .func (.yield l) #[] #[]) rfl (by decide) (by kernel_rfl) (by kernel_rfl) (by kernel_rfl) (by kernel_rfl) (fun _ _ _ h => h) (Or.inl ⟨by rfl, by intro W' hSw; (try dsimp only at hSw); go_simp⟩) hS0 ?_
            simp only [Act.put, List.setIfInBounds_toArray, List.set_cons_zero, List.set_cons_succ]
            refine anyR_take (i := 1) (v := .agg #[.int .i64 (p2 : Int), .bool t2]) rfl (by decide) (by kernel_rfl) (by kernel_rfl) (by kernel_rfl) (by kernel_rfl) (fun _ _ _ h => h) (Or.inl ⟨by rfl, by intro W' hSw; (try dsimp only at hSw); go_simp⟩) hS0 ?_
            simp only [Act.put, List.setIfInBounds_toArray, List.set_cons_zero, List.set_cons_succ]
            refine anyR_take (i := 2) (v := .pointer (some ⟨Bs, 2, none⟩)) rfl (by decide) (by kernel_rfl) (by kernel_rfl) (by kernel_rfl) (by kernel_rfl) (fun _ _ _ h => h) (Or.inl ⟨by rfl, by intro W' hSw; (try dsimp only at hSw); go_simp⟩) hS0 ?_
            simp only [Act.put, List.setIfInBounds_toArray, List.set_cons_zero, List.set_cons_succ]
            refine anyR_take (i := 3) (v := .int .u64 (q : Int)) rfl (by decide) (by kernel_rfl) (by kernel_rfl) (by kernel_rfl) (by kernel_rfl) (fun _ _ _ h => h) (Or.inl ⟨by rfl, by intro W' hSw; (try dsimp only at hSw); go_simp⟩) hS0 ?_
            simp only [Act.put, List.setIfInBounds_toArray, List.set_cons_zero, List.set_cons_succ]
            refine anyR_take (i := 4) (v := .pointer (some ⟨W6.heap.size, 0, none⟩)) rfl (by decide) (by kernel_rfl) (by kernel_rfl) (by kernel_rfl) (by kernel_rfl) (fun _ _ _ h => h) (Or.inl ⟨by rfl, by intro W' hSw; (try dsimp only at hSw); go_simp⟩) hS0 ?_
            simp only [Act.put, List.setIfInBounds_toArray, List.set_cons_zero, List.set_cons_succ]
            refine anyR_take (i := 5) (v := .int .i64 (p2 : Int)) rfl (by decide) (by kernel_rfl) (by kernel_rfl) (by kernel_rfl) (by kernel_rfl) (fun _ _ _ h => h) (Or.inl ⟨by rfl, by intro W' hSw; (try dsimp only at hSw); go_simp⟩) hS0 ?_
            simp only [Act.put, List.setIfInBounds_toArray, List.set_cons_zero, List.set_cons_succ]
            refine anyR_take (i := 6) (v := .int .u64 (2 ^ p2)) rfl (by decide) (by kernel_rfl) (by kernel_rfl) (by kernel_rfl) (by kernel_rfl) (fun _ _ _ h => h) (Or.inl ⟨by rfl, by intro W' hSw; (try dsimp only at hSw); go_simp⟩) hS0 ?_
            simp only [Act.put, List.setIfInBounds_toArray, List.set_cons_zero, List.set_cons_succ]
            refine anyR_take (i := 7) (v := .int .u64 ((q ||| 2 ^ p2 : Nat) : Int)) rfl (by decide) (by kernel_rfl) (by kernel_rfl) (by kernel_rfl) (by kernel_rfl) (fun _ _ _ h => h) (Or.inl ⟨by rfl, by intro W' hSw; (try dsimp only at hSw); go_simp⟩) hS0 ?_
            simp only [Act.put, List.setIfInBounds_toArray, List.set_cons_zero, List.set_cons_succ]
            refine anyR_take (i := 8) (v := .agg #[.int .i64 (p2 : Int), .bool t2, .int .u64 ((q ||| 2 ^ p2 : Nat) : Int)]) rfl (by decide) (by kernel_rfl) (by kernel_rfl) (by kernel_rfl) (by kernel_rfl) (fun _ _ _ h => h) (Or.inl ⟨by rfl, by intro W' hSw; (try dsimp only at hSw); go_simp⟩) hS0 ?_
            simp only [Act.put, List.setIfInBounds_toArray, List.set_cons_zero, List.set_cons_succ]
            refine anyR_one (i := 9) (by kernel_rfl) rfl (by rfl) ?_
            intro K hK
            have HKK := Lib.hid hK
            clear hK hS0
            have hj9 : J ((pre.filter (can T ⟨x, q⟩)).map (goS ⟨x, q⟩)) O W9.drew := HJa.out _ _ _ _ HI7.out.1 ((HN9.out.trans (Keeps.of_new (drew_b W9 1))).none)
            have hy0 := HY.out ((pre.filter (can T ⟨x, q⟩)).map (goS ⟨x, q⟩)) (goS ⟨x, q⟩ s) ((post.filter (can T ⟨x, q⟩)).map (goS ⟨x, q⟩)) W9.drew O (by unfold nexts; rw [HXS.out]; simp [List.filter_append, List.filter_cons, Hcan.out]) (by have := HK9.out.size; have h7 := HB7.out.size; simp only [World.size_alloc] at h7; show W.heap.size ≤ W9.heap.size; omega) (fun k hk => by have h8 := hO6 k hk; have h9 := HK9.out.size; have h7 := HB7.out.size; simp only [World.size_alloc] at h7; show _ ∧ k < W9.heap.size; omega) hj9 (m - 1)
            rw [HSE.out] at hy0
            obtain ⟨fn, tmps, assign, body, hy, hR⟩ := hy0
            clear hkd hj9 hbit hwr
            go_simp
            refine ⟨wide_d, RoundIn.mono hR ?_⟩
            rintro e W10 (⟨rfl, O10, hg10, hj10, hk10⟩ | ⟨rfl, O10, hg10, hj10, hk10⟩)
            · have hk11 : Keeps (fun k => Mut k ∨ O k) W9 W10 := (Keeps.of_new (drew_b W9 1)).trans hk10
              have hS0 := HS.out W10 hk11
              refine HKK.out _ _ (fun _ _ => hS0) ?_
              have HJ10 := Lib.hid hj10
              have HK11 := Lib.hid hk11
              have HG10 := Lib.hid (show Grow O O10 w8 W10 from ⟨hg10.1, fun k hk => (hg10.2 k hk).imp id (fun e => ⟨Nat.le_trans HK9.out.size e.1, e.2⟩)⟩)
              clear hj10 hk10 hk11 hy HKK K hg10
              refine anyR_free (i := 10) (v := .bool false) rfl (by decide) (by kernel_rfl) (by kernel_rfl) (by kernel_rfl) (fun _ _ _ h => h) (Or.inl ⟨by rfl, by intro W' _; go_simp⟩) hS0 ?_
              simp only [Act.put, List.setIfInBounds_toArray, List.set_cons_zero, List.set_cons_succ]
              refine anyR_done (by kernel_rfl) ?_ _
              clear hS0
              gi_wp2_with fail
              exact ⟨O10, HG10.out, (HK9.out.mono (fun _ _ e => .inl e)).trans HK11.out, by rw [List.filter_append, List.map_append, List.filter_cons, if_pos Hcan.out]; exact HJ10.out, (((HI7.out.2.trans HK9.out).mono (Mut' := fun k => Mut k ∨ O k) (fun _ _ e => .inl e)).trans HK11.out).mono (fun k hk e => e.elim id (fun e => by have := (hO6 k e).1; omega))⟩
            · have hk11 : Keeps (fun k => Mut k ∨ O k) W9 W10 := (Keeps.of_new (drew_b W9 1)).trans hk10
              have hS0 := HS.out W10 hk11
              refine HKK.out _ _ (fun _ _ => hS0) ?_
              have HJ10 := Lib.hid hj10
              have HK11 := Lib.hid hk11
              have HG10 := Lib.hid (show Grow O O10 w8 W10 from ⟨hg10.1, fun k hk => (hg10.2 k hk).imp id (fun e => ⟨Nat.le_trans HK9.out.size e.1, e.2⟩)⟩)
              clear hj10 hk10 hk11 hy HKK K hg10
              refine anyR_free (i := 10) (v := .bool true) rfl (by decide) (by kernel_rfl) (by kernel_rfl) (by kernel_rfl) (fun _ _ _ h => h) (Or.inl ⟨by rfl, by intro W' _; go_simp⟩) hS0 ?_
              simp only [Act.put, List.setIfInBounds_toArray, List.set_cons_zero, List.set_cons_succ]
              refine anyR_done (by kernel_rfl) ?_ _
              clear hS0
              gi_wp2_with fail
              exact ⟨O10, HG10.out, (HK9.out.mono (fun _ _ e => .inl e)).trans HK11.out, ⟨rfl, pre, s, rfl, Hcan.out⟩, by rw [List.filter_append, List.map_append, List.filter_cons, if_pos Hcan.out]; exact HJ10.out⟩
  · have d0 : ((q : Int) != 0) = true := by rw [bne_iff_ne]; omega
    have hb1 : Below W.heap.size W (((W.alloc (.cells #[.func (.yield l) #[] #[]] 96)).alloc (.cells #[.bool true] 4)).alloc (.cells #[.int .i64 (p : Int), .bool t] 28)) := ((below_alloc_ _ _).trans ((below_alloc_ _ _).mono (by simp))).trans ((below_alloc_ _ _).mono (by simp; omega))
    have h73 := run_ld73 ((hb1.block _ lb).trans HBW.out) hX hx16
    have Hq0 := Lib.hid hq0
    have HK3 := Lib.hid (show Keeps (fun _ => False) W (((W.alloc (.cells #[.func (.yield l) #[] #[]] 96)).alloc (.cells #[.bool true] 4)).alloc (.cells #[.int .i64 (p : Int), .bool t] 28)) from Keeps.of_new hb1)
    have He3 := Lib.hid (show (((W.alloc (.cells #[.func (.yield l) #[] #[]] 96)).alloc (.cells #[.bool true] 4)).alloc (.cells #[.int .i64 (p : Int), .bool t] 28)).heap[W.heap.size]? = some (.cells #[.func (.yield l) #[] #[]] 96 (0, 0)) from hal_old (hal_old (heap_alloc_new_ _ _)))
    have He4 := Lib.hid (show (((W.alloc (.cells #[.func (.yield l) #[] #[]] 96)).alloc (.cells #[.bool true] 4)).alloc (.cells #[.int .i64 (p : Int), .bool t] 28)).heap[W.heap.size + 1]? = some (.cells #[.bool true] 4 (0, 0)) from hal_old (hal_new (by simp)))
    have s2c : (((W.alloc (.cells #[.func (.yield l) #[] #[]] 96)).alloc (.cells #[.bool true] 4)).alloc (.cells #[.int .i64 (p : Int), .bool t] 28)).cell? ⟨Bs, 2, none⟩ = some (.int .u64 (q : Int)) := by rw [keep_cells HK3.out ls (fun e => e)]; exact s2
    clear hq0 hb1
    gi_wp2_with fail
    refine ⟨trivial, (callsIn_wide.2 (code_any Hx.out (by omega) _)).mono ?_⟩
    rintro e w3 ⟨rfl, rfl⟩
    have ix0 : (0 : Int) ≤ (x : Int) := by omega
    have ix1 : (x : Int) < 16 := by omega
    have hrow := run_row T x
    cases hrz : rowZ T x with
    | true =>
      have HN := Lib.hid (show nexts T (codesL ps) ⟨x, q⟩ = [] from nexts_rowZ (codes_ok ps) (by have := Hp.out.1; omega) Hq0.out hrz)
      gi_wp2_with fail
      exact ⟨_, results_none rfl _ _ _, ⟨_, rfl⟩, fun _ => False, fun _ e => e.elim, .inl (by rw [HN.out]; exact HJa.out _ _ _ _ Hj0.out HK3.out.none)⟩
    | false =>
    gi_wp2_with fail
    obtain ⟨bg, hbg⟩ : ∃ bg, bg = decide (q ≠ 0) := ⟨_, rfl⟩
    obtain ⟨W3, hW3⟩ : ∃ W3, ((W.alloc (.cells #[.func (.yield l) #[] #[]] 96)).alloc (.cells #[.bool true] 4)).alloc (.cells #[.int .i64 (p : Int), .bool t] 28) = W3 := ⟨_, rfl⟩
    rw [hW3] at HK3 He3 He4 ⊢
    rw [show true = bg by rw [hbg]; exact (decide_eq_true Hq0.out).symm] at He4
    have Hbg := Lib.hid hbg
    clear hbg d0 hrow hrz h73 ix0 ix1 s2c
    have HB3 := Lib.hid ((HK3.out.block _ lb (fun e => e)).trans HBW.out)
    have HS3 := Lib.hid ((HK3.out.block _ ls (fun e => e)).trans HSW.out)
    clear hW3 s0 s1 s2
    refine ⟨trivial, (callsIn_wide.2 (members69 _ _)).mono ?_⟩
    rintro e w4 ⟨rfl, rfl⟩
    have hk5 : Keeps (fun _ => False) W3 (((W3.alloc (.cells #[.int .u64 (q : Int)] 89)).alloc (.cells #[.func (.func 76) #[] #[.pointer (some ⟨W3.heap.size, 0, none⟩)]] 119)).alloc (.cells X 78)) := ((keep_alloc _ _ _).trans (keep_alloc _ _ _)).trans (keep_alloc _ _ _)
    have hB4 : ((W3.alloc (.cells #[.int .u64 (q : Int)] 89)).alloc (.cells #[.func (.func 76) #[] #[.pointer (some ⟨W3.heap.size, 0, none⟩)]] 119)).heap[Bb]? = some (.cells X 78 (0, 0)) := hal_old (hal_old HB3.out)
    have h78 := run_ld78 hB4 hX.size
    clear hB4
    gi_wp2_with fail
    clear h78
    refine ⟨trivial, (callsIn_wide.2 (steps57 _ _)).mono ?_⟩
    rintro e w5 ⟨rfl, rfl⟩
    gi_wp2_with fail
    have e5 := heap_alloc_new_ ((W3.alloc (.cells #[.int .u64 (q : Int)] 89)).alloc (.cells #[.func (.func 76) #[] #[.pointer (some ⟨W3.heap.size, 0, none⟩)]] 119)) (.cells X 78)
    simp only [World.size_alloc] at e5
    have e6 : (((W3.alloc (.cells #[.int .u64 (q : Int)] 89)).alloc (.cells #[.func (.func 76) #[] #[.pointer (some ⟨W3.heap.size, 0, none⟩)]] 119)).alloc (.cells X 78)).heap[W3.heap.size]? = some (.cells #[.int .u64 (q : Int)] 89 (0, 0)) := hal_old (hal_old (heap_alloc_new_ _ _))
    have e7 : (((W3.alloc (.cells #[.int .u64 (q : Int)] 89)).alloc (.cells #[.func (.func 76) #[] #[.pointer (some ⟨W3.heap.size, 0, none⟩)]] 119)).alloc (.cells X 78)).heap[W3.heap.size + 1]? = some (.cells #[.func (.func 76) #[] #[.pointer (some ⟨W3.heap.size, 0, none⟩)]] 119 (0, 0)) := hal_old (hal_new (by simp))
    obtain ⟨W5, hW5⟩ : ∃ W5, ((W3.alloc (.cells #[.int .u64 (q : Int)] 89)).alloc (.cells #[.func (.func 76) #[] #[.pointer (some ⟨W3.heap.size, 0, none⟩)]] 119)).alloc (.cells X 78) = W5 := ⟨_, rfl⟩
    rw [hW5] at hk5 e5 e6 e7 ⊢
    have e3 := (hk5.block _ (lt_of_block He3.out) (fun e => e)).trans He3.out
    have e4 := (hk5.block _ (lt_of_block He4.out) (fun e => e)).trans He4.out
    have eB := (hk5.block _ (lt_of_block HB3.out) (fun e => e)).trans HB3.out
    have eS := (hk5.block _ (lt_of_block HS3.out) (fun e => e)).trans HS3.out
    have hkW : Keeps (fun _ => False) W W5 := HK3.out.trans hk5
    have hs3 := HK3.out.size
    have hs5 := hk5.size
    have hpc5 := Hp.out.below (HwW.out.trans hkW).new (Nat.le_refl _)
    have hMl : ∀ k, Mut k → k < W.heap.size := fun k h => (HM.out k h).1
    have hMB : ¬ Mut Bb := fun h => (HM.out _ h).2 (.inl rfl)
    have hMS : ¬ Mut Bs := fun h => (HM.out _ h).2 (.inr (.inl rfl))
    have hneed : ∀ k, (∃ o, A = some ⟨k, o, none⟩) → k < W5.heap.size := by
      rintro k ⟨o, e⟩
      obtain ⟨b, o2, e2, hc⟩ := hpc5.2 hn1
      have := lt_of_cell (hc 0 hn1).1
      rw [e2] at e
      injection e with e
      injection e with e _
      omega
    have hlen := eq_le Hp.out.1
    clear hW5 hk5
    refine wpIn_rangeO (gf := 72) (lb := #[.pointer (some ⟨W3.heap.size + 1 + 1, 0, none⟩)]) rfl (enters_of Try.func72 (by kernel_rfl) rfl) (steps_seqO X A n cap off lo hi T M (W3.heap.size + 1 + 1) ps W5 e5 hX hpc5 hn)
      hneed (fun _ => rfl) Mut (fun k h => ⟨by have := hMl k h; omega, fun h2 => (HM.out k h).2 (.inr (.inr h2))⟩)
      (BIO J T x q Mut W5) (BXO Jx T x q) (fun pre O A B hA hK => ⟨(HJa.out _).up (by omega) _ _ _ hA.1 hK, keeps_abides (Nat.le_refl _) _ _ hA.2 (hK.mono (fun k _ e => e.1))⟩) (fun c pre O A B hA hK => ⟨hA.1, (HJx.out _).up (by omega) _ _ _ hA.2 hK⟩) ?start2 ?round2 ?done2 ?stop2
    case start2 => exact ⟨HJa.out _ _ _ _ Hj0.out hkW.none, Keeps.refl _ _⟩
    case done2 =>
      rintro D W' O hD hDW hDO hOs hI hKd
      gi_wp2_with fail
      refine ⟨by simp, .inl ⟨_, _, rfl, run_takeDeferred hKd, ?_⟩⟩
      exact ⟨_, results_none rfl _ _ _, ⟨_, rfl⟩, O, fun k hk => ⟨by have := hOs k hk; omega, by have h1 := (Keeps.putObj (Mut := fun j => j = D) W' D (.deferred none) rfl).size; have := hOs k hk; omega⟩, .inl (HJa.out _ _ _ _ hI.1 (Keeps.putObj _ _ _ ⟨by omega, hDO⟩))⟩
    case stop2 =>
      rintro D c pre s post W' O hD hDW hDO hOs hxs ⟨⟨rfl, pre0, s0, hps0, hcan⟩, hjx⟩ hKd
      have HPS := Lib.hid hps0
      have HXS := Lib.hid hxs
      clear hps0 hxs
      gi_wp2_with fail
      refine ⟨by simp, .inl ⟨_, _, rfl, run_takeDeferred hKd, ?_⟩⟩
      refine ⟨_, results_none rfl _ _ _, ⟨_, rfl⟩, O, fun k hk => ⟨by have := hOs k hk; omega, by have h1 := (Keeps.putObj (Mut := fun j => j = D) W' D (.deferred none) rfl).size; have := hOs k hk; omega⟩, .inr ?_⟩
      obtain rfl : s = s0 := by have := List.append_inj_right' HPS.out rfl; simpa using this
      refine ⟨(pre.filter (can T ⟨x, q⟩)).map (goS ⟨x, q⟩), goS ⟨x, q⟩ s, (post.filter (can T ⟨x, q⟩)).map (goS ⟨x, q⟩), by unfold nexts; rw [HXS.out]; simp [List.filter_append, List.filter_cons, hcan], ?_⟩
      have h1 := HJx.out _ _ _ _ hjx (Keeps.putObj _ D (.deferred none) ⟨by omega, hDO⟩)
      rwa [List.filter_append, List.map_append, List.filter_cons, if_pos hcan] at h1
    case round2 =>
      intro l2 pre s post W6 O hxs hl1 hl2 hr hO6 hI m
      have hsc : s ∈ codesL ps := by rw [hxs]; simp
      have hs16 := codes_ok ps s hsc
      obtain ⟨p2, t2, hE, hC, hps⟩ := stE_form s
      rw [hE]
      have hp2 : p2 < 8 := by cases t2 <;> simp at hps <;> omega
      have hs2 : s < 16 := by omega
      have Hby := Lib.hid (heap_alloc_new_ W6 (.cells #[.int .i64 (p2 : Int), .bool t2] 28))
      have HXS := Lib.hid hxs
      have Hps := Lib.hid hps
      have hs2p : s / 2 = p2 := by cases t2 <;> simp at hps <;> omega
      have HSE := Lib.hid (show staE (goS ⟨x, q⟩ s) = #[.agg #[.int .i64 (p2 : Int), .bool t2, .int .u64 ((q ||| 2 ^ p2 : Nat) : Int)]] by
        have : decide (s % 2 = 1) = t2 := by cases t2 <;> simp at hps ⊢ <;> omega
        unfold staE goS
        simp only [hs2p, this])
      have Hcn := Lib.hid (show can T ⟨x, q⟩ s = (!q.testBit p2 && (!bg || T x s)) by unfold can; rw [hs2p, Hbg.out]; simp)
      clear hE hC hps hxs hs2p hsc
      gi_wp2_with fail
      refine ⟨keep_alloc _ _ _, ?_⟩
      intro W7 hB7 hI7
      have hK7 := hI7.2
      have F3 := Lib.hid ((hK7.block _ (lt_of_block e3) (fun h => by have := hMl _ h; omega)).trans e3)
      have F4 := Lib.hid ((hK7.block _ (lt_of_block e4) (fun h => by have := hMl _ h; omega)).trans e4)
      have F6 := Lib.hid ((hK7.block _ (lt_of_block e6) (fun h => by have := hMl _ h; omega)).trans e6)
      have F7 := Lib.hid ((hK7.block _ (lt_of_block e7) (fun h => by have := hMl _ h; omega)).trans e7)
      have FB := Lib.hid ((hK7.block _ (lt_of_block eB) hMB).trans eB)
      have FS := Lib.hid ((hK7.block _ (lt_of_block eS) hMS).trans eS)
      have F8 := Lib.hid ((hB7.keeps.block _ (by simp) (by omega)).trans Hby.out)
      have HB7 := Lib.hid hB7.keeps
      have HI7 := Lib.hid hI7
      have c5 : W7.cell? ⟨W3.heap.size + 1, 0, none⟩ = some (.func (.func 76) #[] #[.pointer (some ⟨W3.heap.size, 0, none⟩)]) := by rw [cell_row F7.out]; rfl
      have c6 : W7.cell? ⟨W3.heap.size, 0, none⟩ = some (.int .u64 (q : Int)) := by rw [cell_row F6.out]; rfl
      have c4 : W7.cell? ⟨W.heap.size + 1, 0, none⟩ = some (.bool bg) := by rw [cell_row F4.out]; rfl
      obtain ⟨c8, c9⟩ := two_cells F8.out
      have s0 : W7.cell? ⟨Bs, 0, none⟩ = some (.int .i64 (p : Int)) := by rw [cell_row FS.out]; rfl
      have s1 : W7.cell? ⟨Bs, 1, none⟩ = some (.bool t) := by rw [cell_row FS.out]; rfl
      have C6 := Lib.hid c6
      clear hB7 hI7 hK7 c6 e3 e4 e5 e6 e7 eB eS hr hI
      gi_wp2_with fail
      refine ⟨trivial, wide_d, CallsIn.inRound l2 ((callsIn_wide.2 (member76 q p2 _ _ C6.out hq hp2)).mono ?_)⟩
      rintro e w8 ⟨rfl, rfl⟩
      cases htb : q.testBit p2 with
      | true =>
        have Hcan := Lib.hid (show can T ⟨x, q⟩ s = false by rw [Hcn.out, htb]; rfl)
        clear htb
        have hfin : BIO J T x q Mut W5 (pre ++ [s]) O w8 := ⟨by rw [List.filter_append, List.filter_cons, if_neg (by rw [Hcan.out]; simp)]; simpa using HI7.out.1, HI7.out.2⟩
        gi_wp2_with fail
        all_goals first
          | (rename_i hz1 hz2; simp [undef] at hz1)
          | (refine ⟨trivial, ?_⟩; gi_wp2_with fail; exact ⟨O, Grow.refl _ _ _, Keeps.refl _ _, hfin⟩)
      | false =>
        cases bg with
        | false =>
          have Hcan := Lib.hid (show can T ⟨x, q⟩ s = true by rw [Hcn.out, htb]; rfl)
          clear htb
          gi_wp2_with fail
          refine ⟨trivial, ?_⟩
          gi_wp2_with fail
          obtain ⟨W9, hW9⟩ : ∃ W9, w8 = W9 := ⟨_, rfl⟩
          have HK9 := Lib.hid (show Keeps Mut w8 W9 by rw [← hW9]; exact Keeps.refl _ _)
          have HN9 := Lib.hid (show Keeps (fun _ => False) w8 W9 by rw [← hW9]; exact Keeps.refl _ _)
          rw [hW9]
          clear hW9 c5 c4 c8 c9 s0 s1
          have HS := Lib.hid (show ∀ W', Keeps (fun k => Mut k ∨ O k) W9 W' → (fun W' => Keeps (fun k => Mut k ∨ O k) W9 W' ∧ W'.cell? ⟨W.heap.size, 0, none⟩ = some (.func (.yield l) #[] #[]) ∧ W'.cell? ⟨W6.heap.size, 0, none⟩ = some (.int .i64 (p2 : Int)) ∧ W'.cell? ⟨W6.heap.size, 1, none⟩ = some (.bool t2) ∧ W'.cell? ⟨Bs, 2, none⟩ = some (.int .u64 (q : Int))) W' from fun W' hk => by
            have h1 := (HK9.out.mono (Mut' := fun k => Mut k ∨ O k) (fun _ _ e => .inl e)).trans hk
            have e1 := two_cells ((h1.block _ (lt_of_block F8.out) (fun h => h.elim (fun h => by have := hMl _ h; omega) (fun h => by have := hO6 _ h; omega))).trans F8.out)
            refine ⟨hk, ?_, e1.1, e1.2, ?_⟩
            · rw [cell_row ((h1.block _ (lt_of_block F3.out) (fun h => h.elim (fun h => by have := hMl _ h; omega) (fun h => by have := hO6 _ h; omega))).trans F3.out)]; rfl
            · rw [cell_row ((h1.block _ (lt_of_block FS.out) (fun h => h.elim hMS (fun h => by have := hO6 _ h; omega))).trans FS.out)]; rfl)
          refine region_R (z := 11) (S := (fun W' => Keeps (fun k => Mut k ∨ O k) W9 W' ∧ W'.cell? ⟨W.heap.size, 0, none⟩ = some (.func (.yield l) #[] #[]) ∧ W'.cell? ⟨W6.heap.size, 0, none⟩ = some (.int .i64 (p2 : Int)) ∧ W'.cell? ⟨W6.heap.size, 1, none⟩ = some (.bool t2) ∧ W'.cell? ⟨Bs, 2, none⟩ = some (.int .u64 (q : Int)))) (by kernel_rfl) ?_
          have hkd : Keeps (fun k => Mut k ∨ O k) W9 W9.drew := Keeps.of_new (drew_b W9 1)
          have hS0 := HS.out W9.drew hkd
          have ip0 : (0 : Int) ≤ (p2 : Int) := by omega
          have ip1 : (p2 : Int) < 8 := by omega
          have hbit := bit_or hq hp2
          have hwr := wrap_pow hp2
          refine anyR_take (i := 0) (v := .func (.yield l) #[] #[]) rfl (by decide) (by kernel_rfl) (by kernel_rfl) (by kernel_rfl) (by kernel_rfl) (fun _ _ _ h => h) (Or.inl ⟨by rfl, by intro W' hSw; (try dsimp only at hSw); go_simp⟩) hS0 ?_
          simp only [Act.put, List.setIfInBounds_toArray, List.set_cons_zero, List.set_cons_succ]
          refine anyR_take (i := 1) (v := .agg #[.int .i64 (p2 : Int), .bool t2]) rfl (by decide) (by kernel_rfl) (by kernel_rfl) (by kernel_rfl) (by kernel_rfl) (fun _ _ _ h => h) (Or.inl ⟨by rfl, by intro W' hSw; (try dsimp only at hSw); go_simp⟩) hS0 ?_
          simp only [Act.put, List.setIfInBounds_toArray, List.set_cons_zero, List.set_cons_succ]
          refine anyR_take (i := 2) (v := .pointer (some ⟨Bs, 2, none⟩)) rfl (by decide) (by kernel_rfl) (by kernel_rfl) (by kernel_rfl) (by kernel_rfl) (fun _ _ _ h => h) (Or.inl ⟨by rfl, by intro W' hSw; (try dsimp only at hSw); go_simp⟩) hS0 ?_
          simp only [Act.put, List.setIfInBounds_toArray, List.set_cons_zero, List.set_cons_succ]
          refine anyR_take (i := 3) (v := .int .u64 (q : Int)) rfl (by decide) (by kernel_rfl) (by kernel_rfl) (by kernel_rfl) (by kernel_rfl) (fun _ _ _ h => h) (Or.inl ⟨by rfl, by intro W' hSw; (try dsimp only at hSw); go_simp⟩) hS0 ?_
          simp only [Act.put, List.setIfInBounds_toArray, List.set_cons_zero, List.set_cons_succ]
          refine anyR_take (i := 4) (v := .pointer (some ⟨W6.heap.size, 0, none⟩)) rfl (by decide) (by kernel_rfl) (by kernel_rfl) (by kernel_rfl) (by kernel_rfl) (fun _ _ _ h => h) (Or.inl ⟨by rfl, by intro W' hSw; (try dsimp only at hSw); go_simp⟩) hS0 ?_
          simp only [Act.put, List.setIfInBounds_toArray, List.set_cons_zero, List.set_cons_succ]
          refine anyR_take (i := 5) (v := .int .i64 (p2 : Int)) rfl (by decide) (by kernel_rfl) (by kernel_rfl) (by kernel_rfl) (by kernel_rfl) (fun _ _ _ h => h) (Or.inl ⟨by rfl, by intro W' hSw; (try dsimp only at hSw); go_simp⟩) hS0 ?_
          simp only [Act.put, List.setIfInBounds_toArray, List.set_cons_zero, List.set_cons_succ]
          refine anyR_take (i := 6) (v := .int .u64 (2 ^ p2)) rfl (by decide) (by kernel_rfl) (by kernel_rfl) (by kernel_rfl) (by kernel_rfl) (fun _ _ _ h => h) (Or.inl ⟨by rfl, by intro W' hSw; (try dsimp only at hSw); go_simp⟩) hS0 ?_
          simp only [Act.put, List.setIfInBounds_toArray, List.set_cons_zero, List.set_cons_succ]
          refine anyR_take (i := 7) (v := .int .u64 ((q ||| 2 ^ p2 : Nat) : Int)) rfl (by decide) (by kernel_rfl) (by kernel_rfl) (by kernel_rfl) (by kernel_rfl) (fun _ _ _ h => h) (Or.inl ⟨by rfl, by intro W' hSw; (try dsimp only at hSw); go_simp⟩) hS0 ?_
          simp only [Act.put, List.setIfInBounds_toArray, List.set_cons_zero, List.set_cons_succ]
          refine anyR_take (i := 8) (v := .agg #[.int .i64 (p2 : Int), .bool t2, .int .u64 ((q ||| 2 ^ p2 : Nat) : Int)]) rfl (by decide) (by kernel_rfl) (by kernel_rfl) (by kernel_rfl) (by kernel_rfl) (fun _ _ _ h => h) (Or.inl ⟨by rfl, by intro W' hSw; (try dsimp only at hSw); go_simp⟩) hS0 ?_
          simp only [Act.put, List.setIfInBounds_toArray, List.set_cons_zero, List.set_cons_succ]
          refine anyR_one (i := 9) (by kernel_rfl) rfl (by rfl) ?_
          intro K hK
          have HKK := Lib.hid hK
          clear hK hS0
          have hj9 : J ((pre.filter (can T ⟨x, q⟩)).map (goS ⟨x, q⟩)) O W9.drew := HJa.out _ _ _ _ HI7.out.1 ((HN9.out.trans (Keeps.of_new (drew_b W9 1))).none)
          have hy0 := HY.out ((pre.filter (can T ⟨x, q⟩)).map (goS ⟨x, q⟩)) (goS ⟨x, q⟩ s) ((post.filter (can T ⟨x, q⟩)).map (goS ⟨x, q⟩)) W9.drew O (by unfold nexts; rw [HXS.out]; simp [List.filter_append, List.filter_cons, Hcan.out]) (by have := HK9.out.size; have h7 := HB7.out.size; simp only [World.size_alloc] at h7; show W.heap.size ≤ W9.heap.size; omega) (fun k hk => by have h8 := hO6 k hk; have h9 := HK9.out.size; have h7 := HB7.out.size; simp only [World.size_alloc] at h7; show _ ∧ k < W9.heap.size; omega) hj9 (m - 1)
          rw [HSE.out] at hy0
          obtain ⟨fn, tmps, assign, body, hy, hR⟩ := hy0
          clear hkd hj9 hbit hwr
          go_simp
          refine ⟨wide_d, RoundIn.mono hR ?_⟩
          rintro e W10 (⟨rfl, O10, hg10, hj10, hk10⟩ | ⟨rfl, O10, hg10, hj10, hk10⟩)
          · have hk11 : Keeps (fun k => Mut k ∨ O k) W9 W10 := (Keeps.of_new (drew_b W9 1)).trans hk10
            have hS0 := HS.out W10 hk11
            refine HKK.out _ _ (fun _ _ => hS0) ?_
            have HJ10 := Lib.hid hj10
            have HK11 := Lib.hid hk11
            have HG10 := Lib.hid (show Grow O O10 w8 W10 from ⟨hg10.1, fun k hk => (hg10.2 k hk).imp id (fun e => ⟨Nat.le_trans HK9.out.size e.1, e.2⟩)⟩)
            clear hj10 hk10 hk11 hy HKK K hg10
            refine anyR_free (i := 10) (v := .bool false) rfl (by decide) (by kernel_rfl) (by kernel_rfl) (by kernel_rfl) (fun _ _ _ h => h) (Or.inl ⟨by rfl, by intro W' _; go_simp⟩) hS0 ?_
            simp only [Act.put, List.setIfInBounds_toArray, List.set_cons_zero, List.set_cons_succ]
            refine anyR_done (by kernel_rfl) ?_ _
            clear hS0
            gi_wp2_with fail
            exact ⟨O10, HG10.out, (HK9.out.mono (fun _ _ e => .inl e)).trans HK11.out, by rw [List.filter_append, List.map_append, List.filter_cons, if_pos Hcan.out]; exact HJ10.out, (((HI7.out.2.trans HK9.out).mono (Mut' := fun k => Mut k ∨ O k) (fun _ _ e => .inl e)).trans HK11.out).mono (fun k hk e => e.elim id (fun e => by have := (hO6 k e).1; omega))⟩
          · have hk11 : Keeps (fun k => Mut k ∨ O k) W9 W10 := (Keeps.of_new (drew_b W9 1)).trans hk10
            have hS0 := HS.out W10 hk11
            refine HKK.out _ _ (fun _ _ => hS0) ?_
            have HJ10 := Lib.hid hj10
            have HK11 := Lib.hid hk11
            have HG10 := Lib.hid (show Grow O O10 w8 W10 from ⟨hg10.1, fun k hk => (hg10.2 k hk).imp id (fun e => ⟨Nat.le_trans HK9.out.size e.1, e.2⟩)⟩)
            clear hj10 hk10 hk11 hy HKK K hg10
            refine anyR_free (i := 10) (v := .bool true) rfl (by decide) (by kernel_rfl) (by kernel_rfl) (by kernel_rfl) (fun _ _ _ h => h) (Or.inl ⟨by rfl, by intro W' _; go_simp⟩) hS0 ?_
            simp only [Act.put, List.setIfInBounds_toArray, List.set_cons_zero, List.set_cons_succ]
            refine anyR_done (by kernel_rfl) ?_ _
            clear hS0
            gi_wp2_with fail
            exact ⟨O10, HG10.out, (HK9.out.mono (fun _ _ e => .inl e)).trans HK11.out, ⟨rfl, pre, s, rfl, Hcan.out⟩, by rw [List.filter_append, List.map_append, List.filter_cons, if_pos Hcan.out]; exact HJ10.out⟩
        | true =>
          gi_wp2_with fail
          refine ⟨trivial, wide_d, CallsIn.inRound l2 ((callsIn_wide.2 (fits44 X A n cap off lo hi T M Bb p p2 x s t t2 _ FB.out hX Hx.out Hps.out hx16 hs2)).mono ?_)⟩
          rintro e W9 ⟨rfl, hb9⟩
          have HK9 := Lib.hid (show Keeps Mut w8 W9 from Keeps.of_new hb9)
          have HN9 := Lib.hid (show Keeps (fun _ => False) w8 W9 from Keeps.of_new hb9)
          clear c5 c4 c8 c9 s0 s1 hb9
          cases hT : T x s with
          | false =>
            have Hcan := Lib.hid (show can T ⟨x, q⟩ s = false by rw [Hcn.out, hT]; simp)
            clear htb hT
            gi_wp2_with fail
            exact ⟨O, Grow.refl _ _ _, HK9.out.mono (fun _ _ e => .inl e), by rw [List.filter_append, List.filter_cons, if_neg (by rw [Hcan.out]; simp)]; simpa using HJa.out _ _ _ _ HI7.out.1 HN9.out.none, HI7.out.2.trans HK9.out⟩
          | true =>
            have Hcan := Lib.hid (show can T ⟨x, q⟩ s = true by rw [Hcn.out, htb, hT]; rfl)
            clear htb hT
            gi_wp2_with fail
            have HS := Lib.hid (show ∀ W', Keeps (fun k => Mut k ∨ O k) W9 W' → (fun W' => Keeps (fun k => Mut k ∨ O k) W9 W' ∧ W'.cell? ⟨W.heap.size, 0, none⟩ = some (.func (.yield l) #[] #[]) ∧ W'.cell? ⟨W6.heap.size, 0, none⟩ = some (.int .i64 (p2 : Int)) ∧ W'.cell? ⟨W6.heap.size, 1, none⟩ = some (.bool t2) ∧ W'.cell? ⟨Bs, 2, none⟩ = some (.int .u64 (q : Int))) W' from fun W' hk => by
              have h1 := (HK9.out.mono (Mut' := fun k => Mut k ∨ O k) (fun _ _ e => .inl e)).trans hk
              have e1 := two_cells ((h1.block _ (lt_of_block F8.out) (fun h => h.elim (fun h => by have := hMl _ h; omega) (fun h => by have := hO6 _ h; omega))).trans F8.out)
              refine ⟨hk, ?_, e1.1, e1.2, ?_⟩
              · rw [cell_row ((h1.block _ (lt_of_block F3.out) (fun h => h.elim (fun h => by have := hMl _ h; omega) (fun h => by have := hO6 _ h; omega))).trans F3.out)]; rfl
              · rw [cell_row ((h1.block _ (lt_of_block FS.out) (fun h => h.elim hMS (fun h => by have := hO6 _ h; omega))).trans FS.out)]; rfl)
            refine region_R (z := 11) (S := (fun W' => Keeps (fun k => Mut k ∨ O k) W9 W' ∧ W'.cell? ⟨W.heap.size, 0, none⟩ = some (.func (.yield l) #[] #[]) ∧ W'.cell? ⟨W6.heap.size, 0, none⟩ = some (.int .i64 (p2 : Int)) ∧ W'.cell? ⟨W6.heap.size, 1, none⟩ = some (.bool t2) ∧ W'.cell? ⟨Bs, 2, none⟩ = some (.int .u64 (q : Int)))) (by kernel_rfl) ?_
            have hkd : Keeps (fun k => Mut k ∨ O k) W9 W9.drew := Keeps.of_new (drew_b W9 1)
            have hS0 := HS.out W9.drew hkd
            have ip0 : (0 : Int) ≤ (p2 : Int) := by omega
            have ip1 : (p2 : Int) < 8 := by omega
            have hbit := bit_or hq hp2
            have hwr := wrap_pow hp2
            refine anyR_take (i := 0) (v := .func (.yield l) #[] #[]) rfl (by decide) (by kernel_rfl) (by kernel_rfl) (by kernel_rfl) (by kernel_rfl) (fun _ _ _ h => h) (Or.inl ⟨by rfl, by intro W' hSw; (try dsimp only at hSw); go_simp⟩) hS0 ?_
            simp only [Act.put, List.setIfInBounds_toArray, List.set_cons_zero, List.set_cons_succ]
            refine anyR_take (i := 1) (v := .agg #[.int .i64 (p2 : Int), .bool t2]) rfl (by decide) (by kernel_rfl) (by kernel_rfl) (by kernel_rfl) (by kernel_rfl) (fun _ _ _ h => h) (Or.inl ⟨by rfl, by intro W' hSw; (try dsimp only at hSw); go_simp⟩) hS0 ?_
            simp only [Act.put, List.setIfInBounds_toArray, List.set_cons_zero, List.set_cons_succ]
            refine anyR_take (i := 2) (v := .pointer (some ⟨Bs, 2, none⟩)) rfl (by decide) (by kernel_rfl) (by kernel_rfl) (by kernel_rfl) (by kernel_rfl) (fun _ _ _ h => h) (Or.inl ⟨by rfl, by intro W' hSw; (try dsimp only at hSw); go_simp⟩) hS0 ?_
            simp only [Act.put, List.setIfInBounds_toArray, List.set_cons_zero, List.set_cons_succ]
            refine anyR_take (i := 3) (v := .int .u64 (q : Int)) rfl (by decide) (by kernel_rfl) (by kernel_rfl) (by kernel_rfl) (by kernel_rfl) (fun _ _ _ h => h) (Or.inl ⟨by rfl, by intro W' hSw; (try dsimp only at hSw); go_simp⟩) hS0 ?_
            simp only [Act.put, List.setIfInBounds_toArray, List.set_cons_zero, List.set_cons_succ]
            refine anyR_take (i := 4) (v := .pointer (some ⟨W6.heap.size, 0, none⟩)) rfl (by decide) (by kernel_rfl) (by kernel_rfl) (by kernel_rfl) (by kernel_rfl) (fun _ _ _ h => h) (Or.inl ⟨by rfl, by intro W' hSw; (try dsimp only at hSw); go_simp⟩) hS0 ?_
            simp only [Act.put, List.setIfInBounds_toArray, List.set_cons_zero, List.set_cons_succ]
            refine anyR_take (i := 5) (v := .int .i64 (p2 : Int)) rfl (by decide) (by kernel_rfl) (by kernel_rfl) (by kernel_rfl) (by kernel_rfl) (fun _ _ _ h => h) (Or.inl ⟨by rfl, by intro W' hSw; (try dsimp only at hSw); go_simp⟩) hS0 ?_
            simp only [Act.put, List.setIfInBounds_toArray, List.set_cons_zero, List.set_cons_succ]
            refine anyR_take (i := 6) (v := .int .u64 (2 ^ p2)) rfl (by decide) (by kernel_rfl) (by kernel_rfl) (by kernel_rfl) (by kernel_rfl) (fun _ _ _ h => h) (Or.inl ⟨by rfl, by intro W' hSw; (try dsimp only at hSw); go_simp⟩) hS0 ?_
            simp only [Act.put, List.setIfInBounds_toArray, List.set_cons_zero, List.set_cons_succ]
            refine anyR_take (i := 7) (v := .int .u64 ((q ||| 2 ^ p2 : Nat) : Int)) rfl (by decide) (by kernel_rfl) (by kernel_rfl) (by kernel_rfl) (by kernel_rfl) (fun _ _ _ h => h) (Or.inl ⟨by rfl, by intro W' hSw; (try dsimp only at hSw); go_simp⟩) hS0 ?_
            simp only [Act.put, List.setIfInBounds_toArray, List.set_cons_zero, List.set_cons_succ]
            refine anyR_take (i := 8) (v := .agg #[.int .i64 (p2 : Int), .bool t2, .int .u64 ((q ||| 2 ^ p2 : Nat) : Int)]) rfl (by decide) (by kernel_rfl) (by kernel_rfl) (by kernel_rfl) (by kernel_rfl) (fun _ _ _ h => h) (Or.inl ⟨by rfl, by intro W' hSw; (try dsimp only at hSw); go_simp⟩) hS0 ?_
            simp only [Act.put, List.setIfInBounds_toArray, List.set_cons_zero, List.set_cons_succ]
            refine anyR_one (i := 9) (by kernel_rfl) rfl (by rfl) ?_
            intro K hK
            have HKK := Lib.hid hK
            clear hK hS0
            have hj9 : J ((pre.filter (can T ⟨x, q⟩)).map (goS ⟨x, q⟩)) O W9.drew := HJa.out _ _ _ _ HI7.out.1 ((HN9.out.trans (Keeps.of_new (drew_b W9 1))).none)
            have hy0 := HY.out ((pre.filter (can T ⟨x, q⟩)).map (goS ⟨x, q⟩)) (goS ⟨x, q⟩ s) ((post.filter (can T ⟨x, q⟩)).map (goS ⟨x, q⟩)) W9.drew O (by unfold nexts; rw [HXS.out]; simp [List.filter_append, List.filter_cons, Hcan.out]) (by have := HK9.out.size; have h7 := HB7.out.size; simp only [World.size_alloc] at h7; show W.heap.size ≤ W9.heap.size; omega) (fun k hk => by have h8 := hO6 k hk; have h9 := HK9.out.size; have h7 := HB7.out.size; simp only [World.size_alloc] at h7; show _ ∧ k < W9.heap.size; omega) hj9 (m - 1)
            rw [HSE.out] at hy0
            obtain ⟨fn, tmps, assign, body, hy, hR⟩ := hy0
            clear hkd hj9 hbit hwr
            go_simp
            refine ⟨wide_d, RoundIn.mono hR ?_⟩
            rintro e W10 (⟨rfl, O10, hg10, hj10, hk10⟩ | ⟨rfl, O10, hg10, hj10, hk10⟩)
            · have hk11 : Keeps (fun k => Mut k ∨ O k) W9 W10 := (Keeps.of_new (drew_b W9 1)).trans hk10
              have hS0 := HS.out W10 hk11
              refine HKK.out _ _ (fun _ _ => hS0) ?_
              have HJ10 := Lib.hid hj10
              have HK11 := Lib.hid hk11
              have HG10 := Lib.hid (show Grow O O10 w8 W10 from ⟨hg10.1, fun k hk => (hg10.2 k hk).imp id (fun e => ⟨Nat.le_trans HK9.out.size e.1, e.2⟩)⟩)
              clear hj10 hk10 hk11 hy HKK K hg10
              refine anyR_free (i := 10) (v := .bool false) rfl (by decide) (by kernel_rfl) (by kernel_rfl) (by kernel_rfl) (fun _ _ _ h => h) (Or.inl ⟨by rfl, by intro W' _; go_simp⟩) hS0 ?_
              simp only [Act.put, List.setIfInBounds_toArray, List.set_cons_zero, List.set_cons_succ]
              refine anyR_done (by kernel_rfl) ?_ _
              clear hS0
              gi_wp2_with fail
              exact ⟨O10, HG10.out, (HK9.out.mono (fun _ _ e => .inl e)).trans HK11.out, by rw [List.filter_append, List.map_append, List.filter_cons, if_pos Hcan.out]; exact HJ10.out, (((HI7.out.2.trans HK9.out).mono (Mut' := fun k => Mut k ∨ O k) (fun _ _ e => .inl e)).trans HK11.out).mono (fun k hk e => e.elim id (fun e => by have := (hO6 k e).1; omega))⟩
            · have hk11 : Keeps (fun k => Mut k ∨ O k) W9 W10 := (Keeps.of_new (drew_b W9 1)).trans hk10
              have hS0 := HS.out W10 hk11
              refine HKK.out _ _ (fun _ _ => hS0) ?_
              have HJ10 := Lib.hid hj10
              have HK11 := Lib.hid hk11
              have HG10 := Lib.hid (show Grow O O10 w8 W10 from ⟨hg10.1, fun k hk => (hg10.2 k hk).imp id (fun e => ⟨Nat.le_trans HK9.out.size e.1, e.2⟩)⟩)
              clear hj10 hk10 hk11 hy HKK K hg10
              refine anyR_free (i := 10) (v := .bool true) rfl (by decide) (by kernel_rfl) (by kernel_rfl) (by kernel_rfl) (fun _ _ _ h => h) (Or.inl ⟨by rfl, by intro W' _; go_simp⟩) hS0 ?_
              simp only [Act.put, List.setIfInBounds_toArray, List.set_cons_zero, List.set_cons_succ]
              refine anyR_done (by kernel_rfl) ?_ _
              clear hS0
              gi_wp2_with fail
              exact ⟨O10, HG10.out, (HK9.out.mono (fun _ _ e => .inl e)).trans HK11.out, ⟨rfl, pre, s, rfl, Hcan.out⟩, by rw [List.filter_append, List.map_append, List.filter_cons, if_pos Hcan.out]; exact HJ10.out⟩
end Go.Proofs.Ytfmcfalghbaanaa
