/- Stage 5: kinds of all links, and how many are open. -/
import Derived.Test.YtnodkgejggnehaaWt
import Derived.Deep.Cut
import Derived.LoopIn
namespace Go.Proofs.Ytnodkgejggnehaa
set_option linter.unusedSimpArgs false
set_option linter.unusedVariables false
open Go.RowKit Go.Shelf
attribute [local go_sem ↓] exec_app at_app
attribute [local go_sem] Oper.semAt_some
/-- How many links a greatest joining has. -/
def sizeF (n : Nat) (zs : List Rg) (op : Nat → Bool) (j : Nat) : Nat := mm (mtB zs) (opL n op) + j
theorem gb_size {n : Nat} {zs : List Rg} {op : Nat → Bool} {pt : Nat → Int} {J : List Nat} (hz : ZOk n zs) (h : GB n zs op pt J) {c : Nat} (hc12 : c ≤ 12) (he : ∀ k, k < n → eN zs 0 k < c) : szK pt c = sizeF n zs op J.length := by
  rw [szK_jA hz h.cons hc12 he, h.total hz]; rfl
/-- The names that are left of known ones. -/
def lessJ (J : List Nat) (ns : List Int) : List Nat := J.filter fun k => !decide ((k : Int) ∈ ns)
/-- The kind of a link. -/
def kindS (n : Nat) (zs : List Rg) (op : Nat → Bool) (J : List Nat) (k : Nat) : Int :=
  if sizeF n zs (opX op [(k : Int)]) (lessJ J [(k : Int)]).length < sizeF n zs op J.length then 2
  else if op k = false then 0
  else if sizeF n zs (opW n zs op k) (J.length + 1) < sizeF n zs op J.length then 0 else 1
set_option maxRecDepth 100000 in
set_option maxHeartbeats 16000000 in
theorem kind74 (B : Nat) (sl sr : Int) (A : Option Addr) (n cap : Nat) (zs : List Rg) (A2 : Option Addr) (kn kc : Nat) (ks : List Int) (pt : Nat → Int) (op : Nat → Bool) (M : Nat) (lk : Nat → Bool) (J : List Nat) (c k : Nat) (w : World) (h : Brd w B sl sr A n cap zs A2 kn kc ks pt op (.map (some M))) (hm : LM w M lk) (hgb : GB n zs op pt J) (hn : n ≤ 40) (hz : ZOk n zs) (hc : sl = (c : Int)) (hc12 : c ≤ 12) (he : ∀ k, k < n → eN zs 0 k < c) (hk : k < n) :
    Calls Try.prog 74 #[.pointer (some ⟨B, 0, none⟩), .int .i64 (k : Int)] w fun e w' => ∃ lk', e = .returned (.int .i64 (kindS n zs op J k)) ∧ LM w' M lk' ∧ Keeps (fun j => j = M) w w' := by
  have hBM := h.ne_map hm
  have hMw := hm.lt
  have k79 := size79 B sl sr A n cap zs A2 kn kc ks pt op (.map (some M)) c w h hc hc12
  rw [gb_size hz hgb hc12 he] at k79
  have Hk := Lib.hid (show kindS n zs op J k = _ from rfl)
  obtain ⟨s0, hs0⟩ : ∃ s, sizeF n zs op J.length = s := ⟨_, rfl⟩
  obtain ⟨s1, hs1⟩ : ∃ s, sizeF n zs (opX op [(k : Int)]) (lessJ J [(k : Int)]).length = s := ⟨_, rfl⟩
  obtain ⟨s2, hs2⟩ : ∃ s, sizeF n zs (opW n zs op k) (J.length + 1) = s := ⟨_, rfl⟩
  have hkS : kindS n zs op J k = if s1 < s0 then 2 else if op k = false then 0 else if s2 < s0 then 0 else 1 := by
    unfold kindS; rw [hs0, hs1, hs2]
  rw [hs0] at k79
  have K79 := Lib.hid k79
  have Hbo := Lib.hid h
  have Hlm := Lib.hid hm
  have Hgb := Lib.hid hgb
  have Hz := Lib.hid hz
  have Hc := Lib.hid hc
  have He := Lib.hid he
  have HkS := Lib.hid hkS
  have Hs0 := Lib.hid hs0
  have Hs1 := Lib.hid hs1
  have Hs2 := Lib.hid hs2
  clear h hm hgb hz hc he hkS hs0 hs1 hs2 k79 Hk
  go_enter Try.func74, Try.ntmps74
  go_wp2_with fail
  refine K79.out.mono ?_
  rintro en w1 ⟨rfl, hb1⟩
  have Hbo1 := Lib.hid (Hbo.out.below hb1 (Nat.le_refl _))
  have Hlm1 := Lib.hid (Hlm.out.below hb1)
  have HK1 := Lib.hid (Keeps.of_new (Mut := fun j => j = M) hb1)
  clear K79 hb1 Hbo Hlm
  have hi2 : Ints (w1.alloc (.cells #[.int .i64 (k : Int)] 3)) (some ⟨w1.heap.size, 0, none⟩) 1 [(k : Int)] := ⟨rfl, fun _ => ⟨w1.heap.size, 0, rfl, fun j hj => by
    obtain rfl : j = 0 := by omega
    rw [cell_row (heap_alloc_new_ _ _)]; rfl⟩⟩
  have hbA := below_alloc_ w1 (.cells #[.int .i64 (k : Int)] 3)
  have k78 := without78 B sl sr A n cap zs A2 kn kc ks pt op M lk J (some ⟨w1.heap.size, 0, none⟩) 1 1 [(k : Int)] (w1.alloc (.cells #[.int .i64 (k : Int)] 3)) (Hbo1.out.below hbA (Nat.le_refl _)) (Hlm1.out.below hbA) Hgb.out hn Hz.out hi2 (by omega) (fun x hx => ⟨k, hk, by simpa using hx⟩) (fun a b ha hb h1 h2 _ _ => by simp at h1 h2; omega)
  have K78 := Lib.hid k78
  have HbA := Lib.hid hbA
  clear k78 hi2 hbA
  go_wp2_with fail
  refine K78.out.mono ?_
  rintro en w2 ⟨C, pt2, lk2, rfl, hCn, hb2, hm2, hg2, hk2⟩
  have k79 := size79 C sl sr A n cap zs A2 kn kc ks pt2 (opX op [(k : Int)]) (.map (some M)) c w2 hb2 Hc.out hc12
  rw [gb_size Hz.out hg2 hc12 He.out, show (J.filter fun (q : Nat) => !decide ((q : Int) ∈ [(k : Int)])) = lessJ J [(k : Int)] from rfl, Hs1.out] at k79
  have K79 := Lib.hid k79
  have HK2 := Lib.hid (HK1.out.trans ((Keeps.of_new HbA.out).trans hk2))
  have Hbo2 := Lib.hid ((Hbo1.out.below HbA.out (Nat.le_refl _)).keepM (Hlm1.out.below HbA.out) hk2)
  have Hlm2 := Lib.hid hm2
  clear K78 k79 hb2 hm2 hg2 hk2 Hbo1 Hlm1 HK1 HbA hCn
  go_wp2_with fail
  refine K79.out.mono ?_
  rintro en w3 ⟨rfl, hb3⟩
  have Hbo3 := Lib.hid (Hbo2.out.below hb3 (Nat.le_refl _))
  have Hlm3 := Lib.hid (Hlm2.out.below hb3)
  have HK3 := Lib.hid (HK2.out.trans (Keeps.of_new hb3))
  clear K79 hb3 Hbo2 Hlm2 HK2
  by_cases h1 : s1 < s0
  · have d1 : (s1 : Int) < (s0 : Int) := by omega
    rw [if_pos h1] at HkS
    clear h1
    go_wp2_with fail
    go_ret
    exact ⟨lk2, by rw [HkS.out]; rfl, Hlm3.out, HK3.out⟩
  · have d1 : (s0 : Int) ≤ (s1 : Int) := by omega
    rw [if_neg h1] at HkS
    clear h1
    have xo := Hbo3.out.ho k (by omega)
    have hk0 : (0 : Int) ≤ (k : Int) := by omega
    have hk1 : (k : Int) < 40 := by omega
    by_cases hop : op k = false
    · rw [hop] at xo
      rw [if_pos hop] at HkS
      clear hop
      go_wp2_with fail
      go_ret
      exact ⟨lk2, by rw [HkS.out]; rfl, Hlm3.out, HK3.out⟩
    · rw [if_neg hop] at HkS
      rw [Bool.not_eq_false] at hop
      rw [hop] at xo
      have k81 := with81 B sl sr A n cap zs A2 kn kc ks pt op M lk2 J k w3 Hbo3.out Hlm3.out Hgb.out hn Hz.out hk hop
      have K81 := Lib.hid k81
      clear k81 hop
      go_wp2_with fail
      refine K81.out.mono ?_
      rintro en w4 ⟨C4, pt4, lk4, rfl, hCn4, hb4, hm4, hg4, hk4⟩
      have k79 := size79 C4 sl sr A n cap zs A2 kn kc ks pt4 (opW n zs op k) (.map (some M)) c w4 hb4 Hc.out hc12
      rw [gb_size Hz.out hg4 hc12 He.out, List.length_cons, Hs2.out] at k79
      have K79 := Lib.hid k79
      have HK4 := Lib.hid (HK3.out.trans hk4)
      have Hlm4 := Lib.hid hm4
      clear K81 k79 hb4 hm4 hg4 hk4 xo hCn4
      go_wp2_with fail
      refine K79.out.mono ?_
      rintro en w5 ⟨rfl, hb5⟩
      have Hlm5 := Lib.hid (Hlm4.out.below hb5)
      have HK5 := Lib.hid (HK4.out.trans (Keeps.of_new hb5))
      clear K79 hb5
      by_cases h2 : s2 < s0
      · have d2 : (s2 : Int) < (s0 : Int) := by omega
        rw [if_pos h2] at HkS
        clear h2
        go_wp2_with fail
        go_ret
        exact ⟨lk4, by rw [HkS.out]; rfl, Hlm5.out, HK5.out⟩
      · have d2 : (s0 : Int) ≤ (s2 : Int) := by omega
        rw [if_neg h2] at HkS
        clear h2
        go_wp2_with fail
        go_ret
        exact ⟨lk4, by rw [HkS.out]; rfl, Hlm5.out, HK5.out⟩
end Go.Proofs.Ytnodkgejggnehaa

namespace Go.Proofs.Ytnodkgejggnehaa
set_option linter.unusedSimpArgs false
set_option linter.unusedVariables false
open Go.RowKit Go.Shelf
attribute [local go_sem ↓] exec_app at_app
attribute [local go_sem] Oper.semAt_some
/-- The kinds of the first links. -/
def kindsK (n : Nat) (zs : List Rg) (op : Nat → Bool) (J : List Nat) (k : Nat) : List Int := (List.range k).map (kindS n zs op J)
theorem kindsK_succ (n : Nat) (zs : List Rg) (op : Nat → Bool) (J : List Nat) (k : Nat) : kindsK n zs op J (k + 1) = kindsK n zs op J k ++ [kindS n zs op J k] := by simp [kindsK, List.range_succ]
theorem kindsK_len (n : Nat) (zs : List Rg) (op : Nat → Bool) (J : List Nat) (k : Nat) : (kindsK n zs op J k).length = k := by simp [kindsK]
theorem kindsK_at {n : Nat} {zs : List Rg} {op : Nat → Bool} {J : List Nat} {k j : Nat} (hj : j < k) : iAt (kindsK n zs op J k) j = kindS n zs op J j := by
  rw [iAt_eq (by rw [kindsK_len]; exact hj)]; simp [kindsK]
/-- How many of the first links are of the kind ListMay. -/
def mayK (n : Nat) (zs : List Rg) (op : Nat → Bool) (J : List Nat) (k : Nat) : Nat := (List.range k).countP fun j => kindS n zs op J j == 1
theorem mayK_succ (n : Nat) (zs : List Rg) (op : Nat → Bool) (J : List Nat) (k : Nat) : mayK n zs op J (k + 1) = mayK n zs op J k + (if (kindS n zs op J k == 1) = true then 1 else 0) := by
  unfold mayK
  rw [List.range_succ, List.countP_append, List.countP_singleton]
theorem mayK_le (n : Nat) (zs : List Rg) (op : Nat → Bool) (J : List Nat) (k : Nat) : mayK n zs op J k ≤ k := by
  have := List.countP_le_length (p := fun j => kindS n zs op J j == 1) (l := List.range k)
  rw [List.length_range] at this
  exact this
set_option maxRecDepth 100000 in
set_option maxHeartbeats 16000000 in
theorem kinds53 (B : Nat) (sl sr : Int) (A : Option Addr) (n cap : Nat) (zs : List Rg) (A2 : Option Addr) (kn kc : Nat) (ks : List Int) (pt : Nat → Int) (op : Nat → Bool) (M : Nat) (lk : Nat → Bool) (J : List Nat) (c : Nat) (w : World) (h : Brd w B sl sr A n cap zs A2 kn kc ks pt op (.map (some M))) (hm : LM w M lk) (hgb : GB n zs op pt J) (hn : n ≤ 40) (hz : ZOk n zs) (hc : sl = (c : Int)) (hc12 : c ≤ 12) (he : ∀ k, k < n → eN zs 0 k < c) :
    Calls Try.prog 53 #[.pointer (some ⟨B, 0, none⟩)] w fun e w' => ∃ lk' C cp, e = .returned (.slice C n cp) ∧ n ≤ cp ∧ Ints w' C n (kindsK n zs op J n) ∧ (∀ a, C = some a → w.heap.size ≤ a.block) ∧ LM w' M lk' ∧ Keeps (fun j => j = M) w w' := by
  have c2 := h.c2
  have hMw := hm.lt
  have Hbo := Lib.hid h
  have Hlm := Lib.hid hm
  have Hgb := Lib.hid hgb
  have Hz := Lib.hid hz
  have Hc := Lib.hid hc
  have He := Lib.hid he
  clear h hm hgb hz hc he
  go_enter Try.func53, Try.ntmps53
  go_wp2_with fail
  clear c2
  go_loopw [3, 4, 11] (fun v y i wr => ∃ k : Nat, k ≤ n ∧ i = .int .i64 (k : Int) ∧ Hid (wr.ownsRow 0 3 1 v k (flatI (kindsK n zs op J k)) ∧ (∀ j, v.ownBlock = some j → w.heap.size ≤ j) ∧ (∃ lk', LM wr M lk') ∧ Keeps (fun j => j = M) w wr)) (fun v y i _ => n - (intOf i).toNat)
  case atStart => exact ⟨0, Nat.zero_le _, rfl, Lib.hid ⟨⟨rfl, .inl ⟨rfl, rfl⟩⟩, fun j e => (by cases e), ⟨lk, Hlm.out⟩, Keeps.refl _ _⟩⟩
  case round =>
    obtain ⟨k, hk9, rfl, HV⟩ := hrel
    obtain ⟨wk, rfl⟩ : ∃ wk, wk = wr := ⟨_, rfl⟩
    by_cases hlt : k < n
    · have i1 : (k : Int) < (n : Int) := by omega
      obtain ⟨hown, hnew, ⟨lk1, hm1⟩, hk1⟩ := HV.out
      have k74 := kind74 B sl sr A n cap zs A2 kn kc ks pt op M lk1 J c k wk (Hbo.out.keepM Hlm.out hk1) hm1 Hgb.out hn Hz.out Hc.out hc12 He.out hlt
      have K74 := Lib.hid k74
      have Hown := Lib.hid hown
      have Hnew := Lib.hid hnew
      have Hk1 := Lib.hid hk1
      have Hsu := Lib.hid (kindsK_succ n zs op J k)
      obtain ⟨g, hg⟩ : ∃ g, kindS n zs op J k = g := ⟨_, rfl⟩
      rw [hg] at K74 Hsu
      clear hown hnew hm1 hk1 k74 hg HV
      go_wp2_with fail
      refine K74.out.mono ?_
      rintro en w2 ⟨lk2, rfl, hm2, hk2⟩
      obtain ⟨C, cp, W1, r1, o1, k1, d1⟩ := app_int (own_keep Hown.out hk2 (fun j hj e => by have := Hnew.out j hj; omega)) g (by omega)
      rw [← Hsu.out] at o1
      have hk1' : Keeps (fun j => w.heap.size ≤ j) w2 W1 := k1.mono (fun j _ e => Hnew.out j e)
      have HN := Lib.hid (show W1.ownsRow 0 3 1 (.slice C (k + 1) cp) (k + 1) (flatI (kindsK n zs op J (k + 1))) ∧ (∀ j, (Value.slice C (k + 1) cp).ownBlock = some j → w.heap.size ≤ j) ∧ (∃ lk', LM W1 M lk') ∧ Keeps (fun j => j = M) w W1 from
        ⟨o1, fun g e => by
          rcases d1 g e with e2 | e2
          · exact Hnew.out g e2
          · have h1 := Hk1.out.size; have h2 := hk2.size; omega, ⟨lk2, hm2.keep hk1' (by omega)⟩, keeps_old3 (Hk1.out.trans hk2) (hk1'.mono (fun j _ e => .inl e))⟩)
      clear o1 k1 d1 hm2 hk2 K74 hk1'
      go_wp2_with fail
      go_roundw
      case rel => exact ⟨k + 1, by omega, by go_num, HN⟩
      case measure => simp [intOf]; omega
    · obtain rfl : k = n := by omega
      obtain ⟨hown, hnew, ⟨lk1, hm1⟩, hk1⟩ := HV.out
      obtain ⟨C, cp, rfl, hcp, hI, -⟩ := ints_own (kindsK_len k zs op J k) hown
      have HC9 := Lib.hid (show ∀ a, C = some a → w.heap.size ≤ a.block from fun a ha => by
        rcases hown.2 with ⟨e3, _⟩ | ⟨g, cpx, cur, e3, _, hg, _⟩
        · simp only [Value.slice.injEq] at e3; rw [e3.1] at ha; cases ha
        · simp only [Value.slice.injEq] at e3
          obtain ⟨rfl, -, -⟩ := e3
          cases ha
          exact hnew g rfl)
      have HI := Lib.hid hI
      have HM1 := Lib.hid hm1
      have HK1 := Lib.hid hk1
      clear hown hnew hm1 hk1 hI HV
      go_wp2_with fail
      go_ret
      exact ⟨lk1, C, cp, rfl, hcp, HI.out, HC9.out, HM1.out, HK1.out⟩
set_option maxRecDepth 100000 in
set_option maxHeartbeats 16000000 in
theorem unsure82 (B : Nat) (sl sr : Int) (A : Option Addr) (n cap : Nat) (zs : List Rg) (A2 : Option Addr) (kn kc : Nat) (ks : List Int) (pt : Nat → Int) (op : Nat → Bool) (M : Nat) (lk : Nat → Bool) (J : List Nat) (c : Nat) (w : World) (h : Brd w B sl sr A n cap zs A2 kn kc ks pt op (.map (some M))) (hm : LM w M lk) (hgb : GB n zs op pt J) (hn : n ≤ 40) (hz : ZOk n zs) (hc : sl = (c : Int)) (hc12 : c ≤ 12) (he : ∀ k, k < n → eN zs 0 k < c) :
    Calls Try.prog 82 #[.pointer (some ⟨B, 0, none⟩)] w fun e w' => ∃ lk', e = .returned (.int .i64 (mayK n zs op J n : Int)) ∧ LM w' M lk' ∧ Keeps (fun j => j = M) w w' := by
  have k53 := kinds53 B sl sr A n cap zs A2 kn kc ks pt op M lk J c w h hm hgb hn hz hc hc12 he
  have K53 := Lib.hid k53
  have hMw := hm.lt
  clear k53 h hm hgb hz hc he
  go_enter Try.func82, Try.ntmps82
  go_wp2_with fail
  refine K53.out.mono ?_
  rintro en w1 ⟨lk1, C, cp, rfl, hcp, hI, -, hm1, hk1⟩
  have HI := Lib.hid hI
  have HM1 := Lib.hid hm1
  have HK1 := Lib.hid hk1
  clear K53 hI hm1 hk1
  go_wp2_with fail
  go_loopw [3, 5, 9] (fun s y i wr => ∃ k : Nat, k ≤ n ∧ i = .int .i64 (k : Int) ∧ s = .int .i64 (mayK n zs op J k : Int) ∧ wr = w1) (fun s y i _ => n - (intOf i).toNat)
  case atStart => exact ⟨0, Nat.zero_le _, rfl, rfl, rfl⟩
  case round =>
    obtain ⟨k, hk9, rfl, rfl, rfl⟩ := hrel
    by_cases hlt : k < n
    · obtain ⟨bz, oz, rfl, hcz⟩ := HI.out.2 (by omega)
      have z0 := hcz k hlt
      rw [kindsK_at hlt] at z0
      have Hs := Lib.hid (mayK_succ n zs op J k)
      have Hsl := Lib.hid (mayK_le n zs op J k)
      obtain ⟨s, hs⟩ : ∃ s, mayK n zs op J k = s := ⟨_, rfl⟩
      obtain ⟨g, hg⟩ : ∃ g, kindS n zs op J k = g := ⟨_, rfl⟩
      rw [hg] at z0 Hs
      rw [hs] at Hs Hsl
      rw [hs]
      have i0 : (0 : Int) ≤ (k : Int) := by omega
      have i1 : (k : Int) < (n : Int) := by omega
      have w1s : IntKind.i64.wrap ((s : Int) + 1) = (s : Int) + 1 := IntWalk.i64_in _ (by have := Hsl.out; omega)
      clear hcz hs hg
      by_cases h0 : g = 1
      · have d0 : (g == 1) = true := by rw [beq_iff_eq]; exact h0
        have Hs2 := Lib.hid (show mayK n zs op J (k + 1) = s + 1 by rw [Hs.out, d0]; rfl)
        clear h0
        go_wp2_with fail
        go_roundw
        case rel => exact ⟨k + 1, by omega, by go_num, by rw [Hs2.out]; go_num, (by trivial)⟩
        case measure => simp [intOf]; omega
      · have d0 : (g == 1) = false := by rw [beq_eq_false_iff_ne]; exact h0
        have Hs2 := Lib.hid (show mayK n zs op J (k + 1) = s by rw [Hs.out, d0]; rfl)
        clear h0
        go_wp2_with fail
        go_roundw
        case rel => exact ⟨k + 1, by omega, by go_num, by rw [Hs2.out], (by trivial)⟩
        case measure => simp [intOf]; omega
    · obtain rfl : k = n := by omega
      go_wp2_with fail
      go_ret
      exact ⟨lk1, rfl, HM1.out, HK1.out⟩
end Go.Proofs.Ytnodkgejggnehaa
