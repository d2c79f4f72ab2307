/- Stage 6: groups of names. -/
import Derived.Test.YtigohccehllmnaaTh
import Derived.Test.YtigohccehllmnaaFi
namespace Go.Proofs.Ytigohccehllmnaa
set_option linter.unusedSimpArgs false
set_option linter.unusedVariables false
open Go.RowKit Go.Shelf

theorem info23_ : (Try.prog.info? 23).map (fun i => (i.zero, i.size, i.bytes)) = some (some (.slice none 0 0), 1, 24) := by kernel_rfl
/-- The groups of the first names, and the names that lie in them. -/
inductive Gps (zs : List Nl) (op : Wy → Bool) (c : Nat) : Nat → List (List Int) → (Int → Bool) → Prop
  | zero : Gps zs op c 0 [] (fun _ => false)
  | skip {k : Nat} {gs : List (List Int)} {G : Int → Bool} : Gps zs op c k gs G → G (k : Int) = true → Gps zs op c (k + 1) gs G
  | add {k : Nat} {gs : List (List Int)} {G R : Int → Bool} : Gps zs op c k gs G → G (k : Int) = false → RS zs op [(k : Int)] R → Gps zs op c (k + 1) (gs ++ [nmK R c]) (fun x => G x || R x)
/-- Groups in memory. -/
structure GrG (w3 wr : World) (M4 : Nat) (v : Value) (gs : List (List Int)) : Prop where
  own : ∃ cs, wr.ownsRow 0 23 1 v gs.length cs ∧ cs.length = gs.length ∧ ∀ j, j < gs.length → ∃ Q m, cs[j]? = some (.slice (some ⟨Q, 0, none⟩) m m) ∧ Ints wr (some ⟨Q, 0, none⟩) m (gs.getD j []) ∧ m ≤ 1000000 ∧ (0 < m → v.ownBlock ≠ some Q ∧ Q ≠ M4)
  new : ∀ g, v.ownBlock = some g → w3.heap.size ≤ g ∧ g ≠ M4
theorem GrG.nil (w3 wr : World) (M4 : Nat) : GrG w3 wr M4 (.slice none 0 0) [] := ⟨⟨[], own_nil _ _ _, rfl, fun j hj => by simp at hj⟩, fun g e => (by cases e)⟩
theorem Ints.keepQ {W W' : World} {Q m : Nat} {l : List Int} {Mut : Nat → Prop} (h : Ints W (some ⟨Q, 0, none⟩) m l) (hK : Keeps Mut W W') (hm : 0 < m → ¬ Mut Q) : Ints W' (some ⟨Q, 0, none⟩) m l := by
  refine ⟨h.1, fun hn => ?_⟩
  obtain ⟨b, o, e, hc⟩ := h.2 hn
  cases e
  exact ⟨Q, 0, rfl, fun j hj => (keep_cells hK (lt_of_cell (hc j hj)) (hm hn) _).trans (hc j hj)⟩
theorem GrG.keep {w3 wr w4 : World} {M4 : Nat} {v : Value} {gs : List (List Int)} {Mut : Nat → Prop} (h : GrG w3 wr M4 v gs) (hK : Keeps Mut wr w4) (hm : ∀ j, j < wr.heap.size → Mut j → j = M4) : GrG w3 w4 M4 v gs := by
  obtain ⟨cs, h1, h2, h3⟩ := h.own
  refine ⟨⟨cs, own_keep h1 hK (fun k e hk => (h.new k e).2 (hm k (own_lt h1 k e) hk)), h2, fun j hj => ?_⟩, h.new⟩
  obtain ⟨Q, m, a, b, c, d⟩ := h3 j hj
  refine ⟨Q, m, a, b.keepQ hK (fun hm2 hq => (d hm2).2 (hm Q ?_ hq)), c, d⟩
  obtain ⟨b2, o2, e2, hc⟩ := b.2 hm2
  cases e2
  exact lt_of_cell (hc 0 hm2)
theorem GrG.below {w3 wr w4 : World} {M4 Bs : Nat} {v : Value} {gs : List (List Int)} (h : GrG w3 wr M4 v gs) (hb : Below Bs wr w4) (hB : wr.heap.size ≤ Bs) : GrG w3 w4 M4 v gs :=
  h.keep (Keeps.of_below (hb.mono hB) (Nat.le_refl _)) (fun j hj e => by omega)
theorem GrG.app {w3 wr : World} {M4 : Nat} {v : Value} {gs : List (List Int)} (h : GrG w3 wr M4 v gs) {Q m : Nat} {l : List Int} (hI : Ints wr (some ⟨Q, 0, none⟩) m l) (hm : m ≤ 1000000) (hq : 0 < m → v.ownBlock ≠ some Q ∧ Q ≠ M4) (hM : M4 < wr.heap.size) (h3 : w3.heap.size ≤ wr.heap.size) (hn : gs.length ≤ 100000) :
    ∃ C c W', runA Try.prog 28 v (.slice (some ⟨wr.heap.size, 0, none⟩) 1 1) (wr.alloc (.cells #[.slice (some ⟨Q, 0, none⟩) m m] 23)) = .ok (.value (.slice C (gs.length + 1) c)) W' ∧ GrG w3 W' M4 (.slice C (gs.length + 1) c) (gs ++ [l]) ∧ Keeps (fun k => v.ownBlock = some k) wr W' := by
  obtain ⟨cs, o1, o2, o3⟩ := h.own
  have hk := keep_alloc (fun _ => False) wr (.cells #[.slice (some ⟨Q, 0, none⟩) m m] 23)
  obtain ⟨v', W', a1, a2, a3, a4⟩ := app_one (n := gs.length) Try.underlying28 info23_ rfl (by omega) (by omega) (own_keep o1 hk (fun _ _ e => e)) (vals := [.slice (some ⟨Q, 0, none⟩) m m]) rfl (heap_alloc_new_ wr (.cells #[.slice (some ⟨Q, 0, none⟩) m m] 23)) (by simp [Value.oneCell']) (by omega)
  obtain ⟨C, c, rfl⟩ : ∃ C c, v' = .slice C (gs.length + 1) c := by
    rcases a2.2 with ⟨e, e2⟩ | ⟨g, cp, cur, e, _⟩
    · omega
    · exact ⟨_, _, e⟩
  have hkk : Keeps (fun k => v.ownBlock = some k) wr W' := hk.none.trans a3
  have hs := hk.size
  have hnew : ∀ g, (Value.slice C (gs.length + 1) c).ownBlock = some g → v.ownBlock = some g ∨ wr.heap.size ≤ g := fun g e => by
    rcases a4 with e' | ⟨e', _⟩
    · rw [e'] at e; exact .inl e
    · rw [e'] at e; have := Option.some.inj e; exact .inr (by omega)
  have hQlt : ∀ {Q m : Nat} {l : List Int}, Ints wr (some ⟨Q, 0, none⟩) m l → 0 < m → Q < wr.heap.size := fun hI hm => by
    obtain ⟨b2, o2, e2, hc⟩ := hI.2 hm
    cases e2
    exact lt_of_cell (hc 0 hm)
  have hne : ∀ {Q m : Nat} {l : List Int}, Ints wr (some ⟨Q, 0, none⟩) m l → (0 < m → v.ownBlock ≠ some Q ∧ Q ≠ M4) → 0 < m → (Value.slice C (gs.length + 1) c).ownBlock ≠ some Q ∧ Q ≠ M4 := fun hI hq hm => ⟨fun e => by
    rcases hnew _ e with e2 | e2
    · exact (hq hm).1 e2
    · have := hQlt hI hm; omega, (hq hm).2⟩
  refine ⟨C, c, W', run_app a1, ⟨⟨cs ++ [.slice (some ⟨Q, 0, none⟩) m m], by rw [List.length_append]; exact a2, by simp [o2], fun j hj => ?_⟩, fun g e => ?_⟩, hkk⟩
  · rw [List.length_append] at hj
    simp only [List.length_cons, List.length_nil] at hj
    by_cases hj2 : j < gs.length
    · obtain ⟨Q2, m2, b1, b2, b3, b4⟩ := o3 j hj2
      refine ⟨Q2, m2, by rw [List.getElem?_append_left (by omega)]; exact b1, ?_, b3, hne b2 b4⟩
      rw [show (gs ++ [l]).getD j [] = gs.getD j [] by simp [List.getD, List.getElem?_append_left hj2]]
      exact b2.keepQ hkk (fun hm2 => (b4 hm2).1)
    · obtain rfl : j = gs.length := by omega
      refine ⟨Q, m, by rw [← o2]; simp, ?_, hm, hne hI hq⟩
      rw [show (gs ++ [l]).getD gs.length [] = l by simp [List.getD]]
      exact hI.keepQ hkk (fun hm2 => (hq hm2).1)
  · rcases hnew g e with e2 | e2
    · exact h.new g e2
    · exact ⟨by omega, by omega⟩
theorem GrG.rows {w3 wr : World} {M4 : Nat} {v : Value} {gs : List (List Int)} (h : GrG w3 wr M4 v gs) : ∃ C cap, v = .slice C gs.length cap ∧ gs.length ≤ cap ∧ Rows wr C gs.length gs := by
  obtain ⟨cs, o1, o2, o3⟩ := h.own
  rcases o1.2 with ⟨rfl, h0⟩ | ⟨g, cap, cur, rfl, hb, hg, hc, _, hsz, htake⟩
  · have : gs.length = 0 := h0
    rw [this]
    exact ⟨none, 0, rfl, Nat.le_refl _, ⟨this, by omega⟩⟩
  · refine ⟨_, cap, rfl, hc, ⟨rfl, fun _ => ⟨g, 0, rfl, fun j hj => ?_⟩⟩⟩
    obtain ⟨Q, m, b1, b2, b3, b4⟩ := o3 j hj
    refine ⟨_, m, m, ?_, b2, Nat.le_refl _, b3⟩
    rw [Nat.zero_add, cell_row hg, ← Array.getElem?_toList, ← List.getElem?_take_of_lt (show j < gs.length * 1 by omega), htake]
    exact b1
theorem Gps.len {zs : List Nl} {op : Wy → Bool} {c k : Nat} {gs : List (List Int)} {G : Int → Bool} (h : Gps zs op c k gs G) : gs.length ≤ k := by
  induction h with
  | zero => exact Nat.le_refl _
  | skip _ _ ih => omega
  | add _ _ _ ih => rw [List.length_append]; simp; omega
section
attribute [local go_sem ↓] exec_app at_app
attribute [local go_sem] Oper.semAt_some

set_option maxRecDepth 100000 in
set_option maxHeartbeats 16000000 in
theorem groups42 (b : BD) (f : Nat → Int) (c : Nat) (w : World) (h : Bd w b f) (hok : BdOk b) (hf : Small b f) (hc : b.l.N = (c : Int)) :
    Calls Try.prog 42 #[.pointer (some ⟨b.B, 0, none⟩)] w fun e w' => ∃ C cap gs G, e = .returned (.slice C gs.length cap) ∧ gs.length ≤ cap ∧ Rows w' C gs.length gs ∧ Gps b.zs (opF b.zs f) c c gs G ∧ Below w.heap.size w w' := by
  have hmm := @run_makeMap Try.prog
  have D := Lib.hid h
  have Hok := Lib.hid hok
  have Hf := Lib.hid hf
  have Hc := Lib.hid hc
  have hbM := below_alloc_ w (.map #[] 0)
  have hrM := heap_alloc_new_ w (.map #[] 0)
  obtain ⟨w1, hw1⟩ : ∃ v, w.alloc (.map #[] 0) = v := ⟨_, rfl⟩
  obtain ⟨M4, hM4⟩ : ∃ v, w.heap.size = v := ⟨_, rfl⟩
  rw [hw1] at hbM hrM
  rw [hM4] at hrM
  have x0 := (h.below hbM (Nat.le_refl _)).c0
  rw [hc] at x0
  have HM := Lib.hid (Tm.new hrM)
  have HB := Lib.hid hbM
  have Hw1 := Lib.hid hw1
  have HM4 := Lib.hid hM4
  clear h hok hf hc hbM hrM hw1 hM4
  go_enter Try.func42, Try.ntmps42
  go_upto_region 3 with fail
  rw [Hw1.out]
  rw [HM4.out]
  clear hmm
  go_wp2_with fail
  clear x0
  go_loopw [3, 13] (fun v i wr => ∃ k : Nat, k ≤ c ∧ i = .int .i64 (k : Int) ∧ Hid (∃ v0 : Value, v = v0 ∧ ∃ gs G n4 S4, GrG w1 wr M4 v0 gs ∧ Gps b.zs (opF b.zs f) c k gs G ∧ Tm wr M4 n4 S4 ∧ n4 ≤ 100 * k ∧ (∀ x : Int, 0 ≤ x → x < 40 → (S4 x).isSome = G x) ∧ Below w.heap.size w wr ∧ w1.heap.size ≤ wr.heap.size)) (fun v i _ => c - (intOf i).toNat)
  case atStart => exact ⟨0, Nat.zero_le _, rfl, Lib.hid ⟨_, rfl, [], fun _ => false, 0, fun _ => none, GrG.nil _ _ _, .zero, HM.out, by omega, fun _ _ _ => rfl, HB.out, Nat.le_refl _⟩⟩
  case round =>
    obtain ⟨k, hk9, rfl, HX⟩ := hrel
    obtain ⟨wk, rfl⟩ : ∃ wk, wk = wr := ⟨_, rfl⟩
    obtain ⟨v0, hv, gs, G, n4, S4, hG, hP, hT, hn4, hS, hB, hsz⟩ := HX.out
    obtain rfl : v0 = _ := hv.symm
    clear HX
    have hN := Hok.out.N
    have hcc := Hc.out
    by_cases hlt : k < c
    · have i0 : (0 : Int) ≤ (k : Int) := by omega
      have i1 : (k : Int) < (c : Int) := by omega
      have i2 : (c : Int) ≤ 40 := by omega
      have k1 := has64 M4 n4 S4 (k : Int) wk hT ⟨by omega, by omega⟩
      have hs1 := hS (k : Int) (by omega) (by omega)
      obtain ⟨j1, hj1⟩ : ∃ v, (S4 (k : Int)).isSome = v := ⟨_, rfl⟩
      rw [hj1] at k1 hs1
      have K1 := Lib.hid k1
      have J1 := Lib.hid hs1.symm
      have HG := Lib.hid hG
      have HP := Lib.hid hP
      have HT := Lib.hid hT
      have Hn4 := Lib.hid hn4
      have HS := Lib.hid hS
      have HBk := Lib.hid hB
      have Hsz := Lib.hid hsz
      clear k1 hj1 hG hP hT hn4 hS hB hsz hs1 hN hcc
      go_wp2_with fail
      refine K1.out.mono ?_
      rintro en w4 ⟨rfl, hb⟩
      replace HG := Lib.hid (HG.out.below hb (Nat.le_refl _))
      replace HT := Lib.hid (HT.out.below hb (Nat.le_refl _))
      replace HBk := Lib.hid (HBk.out.trans (hb.mono HBk.out.size))
      replace Hsz := Lib.hid (Nat.le_trans Hsz.out hb.size)
      clear hb K1
      rcases j1 with _ | _
      rotate_left
      · go_wp2_with fail
        go_roundw
        case rel => exact ⟨k + 1, by omega, by go_num, Lib.hid ⟨_, rfl, gs, G, n4, S4, HG.out, .skip HP.out J1.out, HT.out, by have := Hn4.out; omega, HS.out, HBk.out, Hsz.out⟩⟩
        case measure => simp [intOf]; omega
      have hbU := below_alloc_ w4 (.cells #[.int .i64 (k : Int)] 3)
      have hrU := heap_alloc_new_ w4 (.cells #[.int .i64 (k : Int)] 3)
      obtain ⟨w5, hw5⟩ : ∃ v, w4.alloc (.cells #[.int .i64 (k : Int)] 3) = v := ⟨_, rfl⟩
      rw [hw5] at hbU hrU
      have hB5 := HBk.out.trans (hbU.mono HBk.out.size)
      have hD5 := D.out.below hB5 (Nat.le_refl _)
      have k65 := reach65 b f (some ⟨w4.heap.size, 0, none⟩) 1 1 [(k : Int)] 66 #[.pointer (some ⟨b.B, 0, none⟩)] #[] (opF b.zs f) w5 hD5 Hok.out (ints_one hrU) (by omega) (by omega) (fun x hx => by rw [List.mem_singleton] at hx; have := Hc.out; omega) (tellsOpen hD5 Hok.out Hf.out)
      have K65 := Lib.hid k65
      replace HG := Lib.hid (HG.out.below hbU (Nat.le_refl _))
      replace HT := Lib.hid (HT.out.below hbU (Nat.le_refl _))
      replace HBk := Lib.hid hB5
      replace Hsz := Lib.hid (Nat.le_trans Hsz.out hbU.size)
      have Hw5 := Lib.hid hw5
      have HO5 := Lib.hid (show ∀ g, v0.ownBlock = some g → g < w5.heap.size from fun g e => by obtain ⟨cs, o1, -, -⟩ := HG.out.own; exact own_lt o1 g e)
      have HM5 := Lib.hid HT.out.lt
      clear hbU hrU hw5 hB5 hD5 k65
      go_wp2_with fail
      rw [Hw5.out]
      refine K65.out.mono ?_
      rintro en w6 ⟨M6, n6, S6, rfl, hT6, hn6, hM6, hR6, hb⟩
      replace HG := Lib.hid (HG.out.below hb (Nat.le_refl _))
      replace HT := Lib.hid (HT.out.below hb (Nat.le_refl _))
      replace HBk := Lib.hid (HBk.out.trans (hb.mono HBk.out.size))
      have Hlt6 := Lib.hid (show M4 < M6 by have := HT.out.lt; have := Hsz.out; have := HM.out.lt; omega)
      replace Hsz := Lib.hid (Nat.le_trans Hsz.out hb.size)
      have HT6 := Lib.hid hT6
      have Hn6 := Lib.hid hn6
      have HR6 := Lib.hid hR6
      have HM6 := Lib.hid hM6
      have H56 := Lib.hid hb.size
      have K67 := Lib.hid (names67 b f c (fun x => (S6 x).isSome) 64 #[.map (some M6)] #[] w6 (D.out.below HBk.out (Nat.le_refl _)) Hok.out Hc.out ((tells64 hT6).mono (fun x hx => by have := Hok.out.N; omega)))
      clear hT6 hn6 hM6 hR6 hb K65
      go_wp2_with fail
      refine K67.out.mono ?_
      rintro en w7 ⟨Q, rfl, hQ, hI, hb⟩
      replace HG := Lib.hid (HG.out.below hb (Nat.le_refl _))
      replace HT := Lib.hid (HT.out.below hb (Nat.le_refl _))
      replace HT6 := Lib.hid (HT6.out.below hb (Nat.le_refl _))
      replace HBk := Lib.hid (HBk.out.trans (hb.mono HBk.out.size))
      have hgl := HP.out.len
      have hml : (nmK (fun x => (S6 x).isSome) c).length ≤ c := nmK_len _ _
      obtain ⟨C, cc, W', hrun, hG2, hkp⟩ := HG.out.app hI (by omega) (fun hm => ⟨fun e => by
        have := HO5.out Q e; have := H56.out; omega, by have := HM5.out; have := H56.out; omega⟩) HT.out.lt (Nat.le_trans Hsz.out hb.size) (by omega)
      have HTa := Lib.hid (HT.out.keep hkp (fun e => (HG.out.new M4 e).2 rfl))
      have HTb := Lib.hid (HT6.out.keep hkp (fun e => by have := HO5.out M6 e; have := HM6.out; omega))
      have HB9 := Lib.hid (HBk.out.trans (hkp.below HBk.out.size (fun j hj e => by have := (HG.out.new j e).1; have := HB.out.size; omega)))
      have HS9 := Lib.hid (show w1.heap.size ≤ W'.heap.size from Nat.le_trans (Nat.le_trans Hsz.out hb.size) hkp.size)
      have HG2 := Lib.hid hG2
      have K68 := Lib.hid (copy68 M4 n4 S4 M6 n6 S6 W' HTa.out HTb.out (by have := Hlt6.out; omega) (by have := Hn4.out; omega) (by have := Hn6.out; omega))
      clear hQ hI hb K67 hgl hml hG2 hkp
      go_wp2_with fail
      refine K68.out.mono ?_
      rintro en w8 ⟨rfl, n8, S8, hT8, hn8, hS8, hk8⟩
      have HG8 := Lib.hid (HG2.out.keep hk8 (fun j _ e => e))
      have HT8 := Lib.hid hT8
      have HB8 := Lib.hid (HB9.out.trans (hk8.below HB9.out.size (fun j hj e => by have := HM4.out; omega)))
      have HS8 := Lib.hid (show ∀ x : Int, 0 ≤ x → x < 40 → (S8 x).isSome = (G x || (S6 x).isSome) from fun x h1 h2 => by rw [hS8 x h1 h2, HS.out x h1 h2])
      have Hn8 := Lib.hid (show n8 ≤ 100 * (k + 1) by have := Hn4.out; have := Hn6.out; omega)
      have Hz8 := Lib.hid (Nat.le_trans HS9.out hk8.size)
      clear hT8 hn8 hS8 hk8 K68
      go_wp2_with fail
      go_roundw
      case rel => exact ⟨k + 1, by omega, by go_num, Lib.hid ⟨_, rfl, _, _, n8, S8, HG8.out, .add HP.out J1.out HR6.out, HT8.out, Hn8.out, HS8.out, HB8.out, Hz8.out⟩⟩
      case measure => simp [intOf]; omega
    · obtain rfl : k = c := by omega
      obtain ⟨C, cap, rfl, hcap, hR⟩ := hG.rows
      have HR := Lib.hid hR
      have HP := Lib.hid hP
      have HBk := Lib.hid hB
      clear hR hG hP hT hB hn4 hS hsz hN hcc
      go_wp2_with fail
      go_ret
      exact ⟨C, cap, gs, G, rfl, hcap, HR.out, HP.out, HBk.out⟩
end
end Go.Proofs.Ytigohccehllmnaa
