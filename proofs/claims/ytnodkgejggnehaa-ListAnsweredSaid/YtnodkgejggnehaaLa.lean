/- Stage 5: ListAnswered. -/
import Derived.Test.YtnodkgejggnehaaKx
import Derived.Test.YtnodkgejggnehaaWu
import Derived.Deep.RegionHeld3
import Derived.Deep.QuietTactic
namespace Go.Proofs.Ytnodkgejggnehaa
set_option linter.unusedSimpArgs false
set_option linter.unusedVariables false
open Go.RowKit Go.Shelf
theorem kind_same {n n' : Nat} {zs zs' : List Rg} {ks ks' : List Int} {k k' : Nat} (H : ShN n zs ks) (H' : ShN n' zs' ks') (hk : k < n) (hk' : k' < n') (h2 : (∀ p, Gre n zs ks p → p k = true) ↔ ∀ p, Gre n' zs' ks' p → p k' = true) (h0 : (∀ p, Gre n zs ks p → p k = false) ↔ ∀ p, Gre n' zs' ks' p → p k' = false) :
    kindS n zs (opnL n zs ks) (kNt ks) k = kindS n' zs' (opnL n' zs' ks') (kNt ks') k' := by
  have a2 := kind_always H hk
  have a0 := kind_never H hk
  have b2 := kind_always H' hk'
  have b0 := kind_never H' hk'
  rw [h2, ← b2] at a2
  rw [h0, ← b0] at a0
  rcases kind_may n zs (opnL n zs ks) (kNt ks) k with e | e | e <;> rcases kind_may n' zs' (opnL n' zs' ks') (kNt ks') k' with e' | e' | e' <;> omega
section
variable {n : Nat} {zs : List Rg} {ks : List Int} {k : Nat}
theorem has_open (H : ShN n zs ks) (hk : k < n) (hne : kindS n zs (opnL n zs ks) (kNt ks) k ≠ 0) (hin : (k : Int) ∉ ks) : (∃ p, Gre n zs ks p ∧ p k = true) ∧ opnL n zs ks k = true := by
  have hy : ∃ p, Gre n zs ks p ∧ p k = true := by
    apply Classical.byContradiction
    intro hno
    exact hne ((kind_never H hk).2 (fun p hp => by
      cases e : p k
      · rfl
      · exact absurd ⟨p, hp, e⟩ hno))
  refine ⟨hy, ?_⟩
  obtain ⟨p, hp, hpk⟩ := hy
  exact (hp.1.open_or H hk hpk).resolve_right hin
theorem has_not (H : ShN n zs ks) (hk : k < n) (hne : kindS n zs (opnL n zs ks) (kNt ks) k ≠ 2) : ∃ p, Gre n zs ks p ∧ p k = false := by
  apply Classical.byContradiction
  intro hno
  exact hne ((kind_always H hk).2 (fun p hp => by
    cases e : p k
    · exact absurd ⟨p, hp, e⟩ hno
    · rfl))
theorem knw_self (H : ShN n zs ks) (H2 : ShN n zs (knwL (k : Int) ks)) (hk : k < n) (hy : ∃ p, Gre n zs ks p ∧ p k = true) : kindS n zs (opnL n zs (knwL (k : Int) ks)) (kNt (knwL (k : Int) ks)) k = 2 :=
  (kind_always H2 hk).2 (fun p hp => (((gre_knw H H2 hy).2 p).1 hp).2)
theorem knw_same (H : ShN n zs ks) (H2 : ShN n zs (knwL (k : Int) ks)) (hk : k < n) (h2 : kindS n zs (opnL n zs ks) (kNt ks) k = 2) : kindsK n zs (opnL n zs ks) (kNt ks) n = kindsK n zs (opnL n zs (knwL (k : Int) ks)) (kNt (knwL (k : Int) ks)) n := by
  have hal := (kind_always H hk).1 h2
  have hy : ∃ p, Gre n zs ks p ∧ p k = true := by
    obtain ⟨p, hp⟩ := gre_ex H
    exact ⟨p, hp, hal p hp⟩
  have hg := (gre_knw H H2 hy).2
  have hg2 : ∀ p, Gre n zs (knwL (k : Int) ks) p ↔ Gre n zs ks p := fun p => by
    rw [hg p]; exact ⟨fun h => h.1, fun h => ⟨h, hal p h⟩⟩
  unfold kindsK
  refine List.map_congr_left (fun i hi => ?_)
  have hi := List.mem_range.1 hi
  exact kind_same H H2 hi hi (by simp only [hg2]) (by simp only [hg2])
theorem knw_keep (H : ShN n zs ks) (H2 : ShN n zs (knwL (k : Int) ks)) (hy : ∃ p, Gre n zs ks p ∧ p k = true) {i : Nat} (hi : i < n) (hne : kindS n zs (opnL n zs ks) (kNt ks) i ≠ 1) : kindS n zs (opnL n zs (knwL (k : Int) ks)) (kNt (knwL (k : Int) ks)) i = kindS n zs (opnL n zs ks) (kNt ks) i := by
  have hg := (gre_knw H H2 hy).2
  rcases kind_may n zs (opnL n zs ks) (kNt ks) i with e | e | e
  · rw [e]
    exact (kind_never H2 hi).2 (fun p hp => (kind_never H hi).1 e p ((hg p).1 hp).1)
  · exact absurd e hne
  · rw [e]
    exact (kind_always H2 hi).2 (fun p hp => (kind_always H hi).1 e p ((hg p).1 hp).1)
theorem wo_keep (H : ShN n zs ks) (H2 : ShN (n - 1) (wzP k zs n) (wkP k ks ks.length)) (hk : k < n) (hin : (k : Int) ∉ ks) (hz : ∃ p, Gre n zs ks p ∧ p k = false) {i : Nat} (hi : i < n) (hik : i ≠ k) (hne : kindS n zs (opnL n zs ks) (kNt ks) i ≠ 1) :
    kindS (n - 1) (wzP k zs n) (opnL (n - 1) (wzP k zs n) (wkP k ks ks.length)) (kNt (wkP k ks ks.length)) (newN k i) = kindS n zs (opnL n zs ks) (kNt ks) i := by
  have hg := (gre_wo H H2 hk hin hz).2
  have hl := newN_lt hk hi hik
  have hx : ∀ p : Nat → Bool, exN k p i = p (newN k i) := fun p => by unfold exN; rw [decide_eq_true hik]; rfl
  rcases kind_may n zs (opnL n zs ks) (kNt ks) i with e | e | e
  · rw [e]
    exact (kind_never H2 hl).2 (fun p hp => (hx p).symm.trans ((kind_never H hi).1 e _ ((hg p).1 hp)))
  · exact absurd e hne
  · rw [e]
    exact (kind_always H2 hl).2 (fun p hp => (hx p).symm.trans ((kind_always H hi).1 e _ ((hg p).1 hp)))
end
section
attribute [local go_sem ↓] exec_app at_app
attribute [local go_sem] Oper.semAt_some
set_option maxRecDepth 100000 in
set_option maxHeartbeats 40000000 in
theorem answered11 (sl sr : Int) (A : Option Addr) (n cap : Nat) (zs : List Rg) (A2 : Option Addr) (kn kc : Nat) (ks : List Int) (lk : Nat) (w : World) (h : Rgs w A n zs) (hI : Ints w A2 kn ks) (hc9 : n ≤ cap) (hlk : lk ≤ 255) :
    Calls Try.prog 11 #[.agg #[.int .i64 sl, .int .i64 sr, .slice A n cap, .slice A2 kn kc], .int .u8 (lk : Int)] w fun e w' => e = .returned (.bool true) ∧ Below w.heap.size w w' := by
  have hzl := h.1
  have hkl := hI.1
  have Hzl := Lib.hid hzl
  have Hkl := Lib.hid hkl
  have Hc9 := Lib.hid hc9
  have Hlk := Lib.hid hlk
  clear hzl hkl hc9 hlk
  obtain ⟨R, hR⟩ : ∃ v, w.heap.size = v := ⟨_, rfl⟩
  have hb0 := below_alloc_ w (.cells #[.int .i64 sl, .int .i64 sr, .slice A n cap, .slice A2 kn kc] 25)
  have hr0 := heap_alloc_new_ w (.cells #[.int .i64 sl, .int .i64 sr, .slice A n cap, .slice A2 kn kc] 25)
  have hz0 : (w.alloc (.cells #[.int .i64 sl, .int .i64 sr, .slice A n cap, .slice A2 kn kc] 25)).heap.size = w.heap.size + 1 := by simp
  obtain ⟨w0, hw0⟩ : ∃ v, w.alloc (.cells #[.int .i64 sl, .int .i64 sr, .slice A n cap, .slice A2 kn kc] 25) = v := ⟨_, rfl⟩
  rw [hw0] at hb0 hr0 hz0
  rw [hR] at hr0 hz0
  have hB := hb0
  have X := Lib.hid (h.below hB (Nat.le_refl _))
  have XI := Lib.hid (hI.below hB (Nat.le_refl _))
  have HS := Lib.hid hr0
  have HW0 := Lib.hid hw0
  have B := Lib.hid hB
  have HR := Lib.hid hR
  clear hB hR hb0 hr0 hz0 hw0 h hI
  have zHS0 : w0.cell? ⟨R, 0, none⟩ = some (.int .i64 sl) := by rw [cell_row HS.out]; rfl
  have zHS1 : w0.cell? ⟨R, 1, none⟩ = some (.int .i64 sr) := by rw [cell_row HS.out]; rfl
  have zHS2 : w0.cell? ⟨R, 2, none⟩ = some (.slice A n cap) := by rw [cell_row HS.out]; rfl
  have zHS3 : w0.cell? ⟨R, 3, none⟩ = some (.slice A2 kn kc) := by rw [cell_row HS.out]; rfl
  go_enter Try.func11, Try.ntmps11
  go_wp2_with fail
  try rw [HW0.out]
  try rw [HR.out]
  try simp only [Nat.add_assoc, Nat.reduceAdd]
  try go_wp2_with fail
  clear zHS0 zHS1 zHS2 zHS3
  refine (fine32 sl sr A n cap zs A2 kn kc ks w0 X.out XI.out Hc9.out).mono ?_
  rintro en w1 ⟨rfl, hb⟩
  replace X := Lib.hid (X.out.below hb (Nat.le_refl _))
  replace XI := Lib.hid (XI.out.below hb (Nat.le_refl _))
  replace HS := Lib.hid ((hb.block _ (lt_of_block HS.out)).trans HS.out)
  replace B := Lib.hid (B.out.trans (hb.mono B.out.size))
  cases hf : finB sl sr n kn zs ks
  try clear hb
  · clear hf
    have zHS0 : w1.cell? ⟨R, 0, none⟩ = some (.int .i64 sl) := by rw [cell_row HS.out]; rfl
    have zHS1 : w1.cell? ⟨R, 1, none⟩ = some (.int .i64 sr) := by rw [cell_row HS.out]; rfl
    have zHS2 : w1.cell? ⟨R, 2, none⟩ = some (.slice A n cap) := by rw [cell_row HS.out]; rfl
    have zHS3 : w1.cell? ⟨R, 3, none⟩ = some (.slice A2 kn kc) := by rw [cell_row HS.out]; rfl
    go_wp2_with fail
    clear zHS0 zHS1 zHS2 zHS3
    refine (works15 w1).mono ?_
    rintro en w2 ⟨rfl, hb⟩
    replace B := Lib.hid (B.out.trans (hb.mono B.out.size))
    clear hb
    go_wp2_with fail
    go_ret
    exact ⟨rfl, B.out⟩
  obtain ⟨hn50, hk50, he⟩ := fin_yes hf
  clear hf
  by_cases hn0 : n = 0
  · have d1 : (n == 0) = true := by simp [hn0]
    have d2 : ((n : Int) == 0) = true := by simp [hn0]
    clear hn0
    have zHS0 : w1.cell? ⟨R, 0, none⟩ = some (.int .i64 sl) := by rw [cell_row HS.out]; rfl
    have zHS1 : w1.cell? ⟨R, 1, none⟩ = some (.int .i64 sr) := by rw [cell_row HS.out]; rfl
    have zHS2 : w1.cell? ⟨R, 2, none⟩ = some (.slice A n cap) := by rw [cell_row HS.out]; rfl
    have zHS3 : w1.cell? ⟨R, 3, none⟩ = some (.slice A2 kn kc) := by rw [cell_row HS.out]; rfl
    go_wp2_with fail
    clear zHS0 zHS1 zHS2 zHS3
    refine (works15 w1).mono ?_
    rintro en w2 ⟨rfl, hb⟩
    replace B := Lib.hid (B.out.trans (hb.mono B.out.size))
    clear hb
    go_wp2_with fail
    go_ret
    exact ⟨rfl, B.out⟩
  obtain ⟨sN, hsN⟩ : ∃ v, siz n zs ks = v := ⟨_, rfl⟩
  have HsN := Lib.hid hsN
  have hs12 : sN ≤ 10000 := by
    rw [← hsN]
    obtain ⟨p, hp⟩ := gre_ex (shn_of he Hzl.out)
    rw [← hp.2]
    unfold cntP
    have := List.length_filter_le p (List.range n)
    rw [List.length_range] at this
    omega
  have Hs12 := Lib.hid hs12
  have He := Lib.hid he
  have Hn := Lib.hid hn50
  have Hk := Lib.hid hk50
  have HSh := Lib.hid (shn_of he Hzl.out)
  clear hs12 hsN he hk50
  have hn40 : n ≤ 40 := by have := (shg_of He.out).n40; rw [Hzl.out] at this; exact this
  have hkn : kn ≤ n := by
    have h1 := nodup_le (kNt ks) (List.range n) HSh.out.nd (fun j hj => by
      have h2 := (mem_kNt HSh.out.nm).1 hj
      obtain ⟨q, hq, e⟩ := HSh.out.nm _ h2
      rw [List.mem_range]; omega)
    rw [List.length_range] at h1
    have h3 : (kNt ks).length = ks.length := by simp [kNt]
    have h4 := Hkl.out
    omega
  have Hn40 := Lib.hid hn40
  have Hkn := Lib.hid hkn
  have d1 : (n == 0) = false := by simp [hn0]
  have d2 : ((n : Int) == 0) = false := by simp [hn0]
  have hnp : (0 : Int) < (n : Int) := by omega
  have hni : ¬ (n : Int) = 0 := by omega
  have hlkb := Hlk.out
  obtain ⟨k, hk, hkn'⟩ : ∃ k : Nat, (lk : Int) % (n : Int) = (k : Int) ∧ k < n := ⟨lk % n, by omega, Nat.mod_lt _ (by omega)⟩
  have hkt : (lk : Int).tmod (n : Int) = (k : Int) := by rw [Int.tmod_eq_emod_of_nonneg (by omega)]; exact hk
  have Hknn := Lib.hid hkn'
  clear hkn
  have zHS0 : w1.cell? ⟨R, 0, none⟩ = some (.int .i64 sl) := by rw [cell_row HS.out]; rfl
  have zHS1 : w1.cell? ⟨R, 1, none⟩ = some (.int .i64 sr) := by rw [cell_row HS.out]; rfl
  have zHS2 : w1.cell? ⟨R, 2, none⟩ = some (.slice A n cap) := by rw [cell_row HS.out]; rfl
  have zHS3 : w1.cell? ⟨R, 3, none⟩ = some (.slice A2 kn kc) := by rw [cell_row HS.out]; rfl
  go_wp2_with fail
  clear zHS0 zHS1 zHS2 zHS3
  refine (kinds25 sl sr A n cap zs A2 kn kc ks w1 X.out XI.out Hc9.out (by have := Hn.out; omega) (by have := Hk.out; omega) He.out).mono ?_
  rintro en w2 ⟨CK, ck, rfl, hck, hik, -, hb⟩
  replace X := Lib.hid (X.out.below hb (Nat.le_refl _))
  replace XI := Lib.hid (XI.out.below hb (Nat.le_refl _))
  replace HS := Lib.hid ((hb.block _ (lt_of_block HS.out)).trans HS.out)
  replace B := Lib.hid (B.out.trans (hb.mono B.out.size))
  have HKA := Lib.hid hik
  clear hik hck hk hkt
  try clear hb
  have zHS0 : w2.cell? ⟨R, 0, none⟩ = some (.int .i64 sl) := by rw [cell_row HS.out]; rfl
  have zHS1 : w2.cell? ⟨R, 1, none⟩ = some (.int .i64 sr) := by rw [cell_row HS.out]; rfl
  have zHS2 : w2.cell? ⟨R, 2, none⟩ = some (.slice A n cap) := by rw [cell_row HS.out]; rfl
  have zHS3 : w2.cell? ⟨R, 3, none⟩ = some (.slice A2 kn kc) := by rw [cell_row HS.out]; rfl
  go_wp2_with fail
  clear zHS0 zHS1 zHS2 zHS3
  refine (greatest22 sl sr A n cap zs A2 kn kc ks w2 X.out XI.out Hc9.out (by have := Hn.out; omega) (by have := Hk.out; omega) He.out).mono ?_
  rintro en w3 ⟨QG, pt, rfl, hgb, hQ8, hig, hb⟩
  replace X := Lib.hid (X.out.below hb (Nat.le_refl _))
  replace XI := Lib.hid (XI.out.below hb (Nat.le_refl _))
  replace HKA := Lib.hid (HKA.out.below hb (Nat.le_refl _))
  replace HS := Lib.hid ((hb.block _ (lt_of_block HS.out)).trans HS.out)
  replace B := Lib.hid (B.out.trans (hb.mono B.out.size))
  have hlen := gb_len He.out Hzl.out hgb
  have hch := gb_chk He.out Hzl.out hgb
  change _ = siz n zs ks at hlen
  rw [HsN.out] at hlen
  obtain ⟨gl, hgl⟩ : ∃ v, jI n zs pt = v := ⟨_, rfl⟩
  rw [hgl] at hlen hch hig ⊢
  rw [hlen] at hig ⊢
  have HG := Lib.hid hig
  have Hch := Lib.hid hch
  clear hgb hQ8 hig hch hlen hgl
  try clear hb
  clear HG Hch
  have dn : ((n : Int) != (n : Int)) = false := by simp
  obtain ⟨bk, ok, eK, hck⟩ := HKA.out.2 (by omega)
  subst eK
  have x0 := hck k Hknn.out
  rw [kindsK_at Hknn.out] at x0
  have i0 : (0 : Int) ≤ (k : Int) := by omega
  have i1 : (k : Int) < (n : Int) := by omega
  have hmy := kind_may n zs (opnL n zs ks) (kNt ks) k
  obtain ⟨kk, hkk⟩ : ∃ v, kindS n zs (opnL n zs ks) (kNt ks) k = v := ⟨_, rfl⟩
  rw [hkk] at x0 hmy
  have Hkk := Lib.hid hkk
  have Hmy := Lib.hid hmy
  clear hck hkk hmy
  by_cases hk0 : kk = 0
  · have d3 : (kk == 0) = true := by simp [hk0]
    clear hk0
    have zHS0 : w3.cell? ⟨R, 0, none⟩ = some (.int .i64 sl) := by rw [cell_row HS.out]; rfl
    have zHS1 : w3.cell? ⟨R, 1, none⟩ = some (.int .i64 sr) := by rw [cell_row HS.out]; rfl
    have zHS2 : w3.cell? ⟨R, 2, none⟩ = some (.slice A n cap) := by rw [cell_row HS.out]; rfl
    have zHS3 : w3.cell? ⟨R, 3, none⟩ = some (.slice A2 kn kc) := by rw [cell_row HS.out]; rfl
    go_wp2_with fail
    clear zHS0 zHS1 zHS2 zHS3
    refine (works15 w3).mono ?_
    rintro en w4 ⟨rfl, hb⟩
    replace B := Lib.hid (B.out.trans (hb.mono B.out.size))
    clear hb
    go_wp2_with fail
    go_ret
    exact ⟨rfl, B.out⟩
  have d3 : (kk == 0) = false := by simp [hk0]
  obtain ⟨bi, hbi⟩ : ∃ v, decide ((k : Int) ∈ ks) = v := ⟨_, rfl⟩
  have Hbi := Lib.hid hbi
  have Hk0 := Lib.hid hk0
  clear hbi hk0
  have zHS0 : w3.cell? ⟨R, 0, none⟩ = some (.int .i64 sl) := by rw [cell_row HS.out]; rfl
  have zHS1 : w3.cell? ⟨R, 1, none⟩ = some (.int .i64 sr) := by rw [cell_row HS.out]; rfl
  have zHS2 : w3.cell? ⟨R, 2, none⟩ = some (.slice A n cap) := by rw [cell_row HS.out]; rfl
  have zHS3 : w3.cell? ⟨R, 3, none⟩ = some (.slice A2 kn kc) := by rw [cell_row HS.out]; rfl
  go_wp2_with fail
  refine (in34 A2 kn kc ks (k : Int) w3 XI.out (by have := Hk.out; omega)).mono ?_
  rintro en w9 ⟨rfl, e9⟩
  rw [Hbi.out, e9]
  clear e9 w9
  cases bi
  rotate_left
  · go_wp2_with fail
    clear zHS0 zHS1 zHS2 zHS3
    refine (works15 w3).mono ?_
    rintro en w4 ⟨rfl, hb⟩
    replace B := Lib.hid (B.out.trans (hb.mono B.out.size))
    clear hb
    go_wp2_with fail
    go_ret
    exact ⟨rfl, B.out⟩
  have hkks : (k : Int) ∉ ks := of_decide_eq_false Hbi.out
  have hyo := has_open HSh.out Hknn.out (by rw [Hkk.out]; exact Hk0.out) hkks
  have hke := knw_chk He.out Hzl.out Hknn.out hyo.2
  have H2 := shn_of hke Hzl.out
  have hks := (gre_knw HSh.out H2 hyo.1).1
  rw [HsN.out] at hks
  have hself := knw_self HSh.out H2 Hknn.out hyo.1
  have hfin : finB sl sr n (kn + 1) zs (knwL (k : Int) ks) = true := by
    have h1 := Hn40.out
    have h2 : kn + 1 ≤ n := by
      have h3 := nodup_le (kNt (knwL (k : Int) ks)) (List.range n) H2.nd (fun j hj => by
        have h2 := (mem_kNt H2.nm).1 hj
        obtain ⟨q, hq, e⟩ := H2.nm _ h2
        rw [List.mem_range]; omega)
      rw [List.length_range] at h3
      have h4 : (kNt (knwL (k : Int) ks)).length = ks.length + 1 := by rw [kNt, List.length_map, knwL_len]
      have h5 := Hkl.out
      omega
    unfold finB grt
    rw [decide_eq_false (by omega), decide_eq_false (by omega), decide_eq_true hke]
    rfl
  have Hkks := Lib.hid hkks
  have Hy := Lib.hid hyo.1
  have Hke := Lib.hid hke
  have H2h := Lib.hid H2
  have Hks := Lib.hid hks
  have Hself := Lib.hid hself
  have Hfin := Lib.hid hfin
  clear hkks hyo hke H2 hks hself hfin d3 x0
  go_wp2_with fail
  clear zHS0 zHS1 zHS2 zHS3
  refine (knowing35 sl sr A n cap zs A2 kn kc ks (k : Int) w3 XI.out (by have := Hk.out; omega)).mono ?_
  rintro en w4 ⟨C1, c1, rfl, hc1, hi1, -, hb⟩
  replace X := Lib.hid (X.out.below hb (Nat.le_refl _))
  replace XI := Lib.hid (XI.out.below hb (Nat.le_refl _))
  replace HKA := Lib.hid (HKA.out.below hb (Nat.le_refl _))
  replace HS := Lib.hid ((hb.block _ (lt_of_block HS.out)).trans HS.out)
  replace B := Lib.hid (B.out.trans (hb.mono B.out.size))
  have HK1 := Lib.hid hi1
  have Hc1 := Lib.hid hc1
  clear hi1 hc1
  try clear hb
  have zHS0 : w4.cell? ⟨R, 0, none⟩ = some (.int .i64 sl) := by rw [cell_row HS.out]; rfl
  have zHS1 : w4.cell? ⟨R, 1, none⟩ = some (.int .i64 sr) := by rw [cell_row HS.out]; rfl
  have zHS2 : w4.cell? ⟨R, 2, none⟩ = some (.slice A n cap) := by rw [cell_row HS.out]; rfl
  have zHS3 : w4.cell? ⟨R, 3, none⟩ = some (.slice A2 kn kc) := by rw [cell_row HS.out]; rfl
  have hzl := lt_of_block HS.out
  have hb := below_alloc_ w4 (.cells #[.int .i64 sl, .int .i64 sr, .slice A n cap, .slice C1 (kn + 1) c1] 25)
  have hr := heap_alloc_new_ w4 (.cells #[.int .i64 sl, .int .i64 sr, .slice A n cap, .slice C1 (kn + 1) c1] 25)
  obtain ⟨w5, hw5⟩ : ∃ v, w4.alloc (.cells #[.int .i64 sl, .int .i64 sr, .slice A n cap, .slice C1 (kn + 1) c1] 25) = v := ⟨_, rfl⟩
  obtain ⟨Z, hZ⟩ : ∃ v, w4.heap.size = v := ⟨_, rfl⟩
  rw [hw5] at hb hr
  rw [hZ] at hr
  have Hw5 := Lib.hid hw5
  have HZ := Lib.hid hZ
  clear hw5 hZ
  replace X := Lib.hid (X.out.below hb (Nat.le_refl _))
  replace XI := Lib.hid (XI.out.below hb (Nat.le_refl _))
  replace HKA := Lib.hid (HKA.out.below hb (Nat.le_refl _))
  replace HK1 := Lib.hid (HK1.out.below hb (Nat.le_refl _))
  replace HS := Lib.hid ((hb.block _ (lt_of_block HS.out)).trans HS.out)
  replace B := Lib.hid (B.out.trans (hb.mono B.out.size))
  clear hb
  have HZ2 := Lib.hid hr
  clear hr
  go_wp2_with fail
  try rw [Hw5.out]
  try rw [HZ.out]
  try go_wp2_with fail
  clear hzl
  clear zHS0 zHS1 zHS2 zHS3
  refine (fine32 sl sr A n cap zs C1 (kn + 1) c1 (knwL (k : Int) ks) w5 X.out HK1.out Hc9.out).mono ?_
  rintro en w6 ⟨rfl, hb⟩
  replace X := Lib.hid (X.out.below hb (Nat.le_refl _))
  replace XI := Lib.hid (XI.out.below hb (Nat.le_refl _))
  replace HKA := Lib.hid (HKA.out.below hb (Nat.le_refl _))
  replace HK1 := Lib.hid (HK1.out.below hb (Nat.le_refl _))
  replace HS := Lib.hid ((hb.block _ (lt_of_block HS.out)).trans HS.out)
  replace HZ2 := Lib.hid ((hb.block _ (lt_of_block HZ2.out)).trans HZ2.out)
  replace B := Lib.hid (B.out.trans (hb.mono B.out.size))
  rw [Hfin.out]
  try clear hb
  have zHS0 : w6.cell? ⟨R, 0, none⟩ = some (.int .i64 sl) := by rw [cell_row HS.out]; rfl
  have zHS1 : w6.cell? ⟨R, 1, none⟩ = some (.int .i64 sr) := by rw [cell_row HS.out]; rfl
  have zHS2 : w6.cell? ⟨R, 2, none⟩ = some (.slice A n cap) := by rw [cell_row HS.out]; rfl
  have zHS3 : w6.cell? ⟨R, 3, none⟩ = some (.slice A2 kn kc) := by rw [cell_row HS.out]; rfl
  have zHZ20 : w6.cell? ⟨Z, 0, none⟩ = some (.int .i64 sl) := by rw [cell_row HZ2.out]; rfl
  have zHZ21 : w6.cell? ⟨Z, 1, none⟩ = some (.int .i64 sr) := by rw [cell_row HZ2.out]; rfl
  have zHZ22 : w6.cell? ⟨Z, 2, none⟩ = some (.slice A n cap) := by rw [cell_row HZ2.out]; rfl
  have zHZ23 : w6.cell? ⟨Z, 3, none⟩ = some (.slice C1 (kn + 1) c1) := by rw [cell_row HZ2.out]; rfl
  go_wp2_with fail
  clear zHS0 zHS1 zHS2 zHS3 zHZ20 zHZ21 zHZ22 zHZ23
  refine (kinds25 sl sr A n cap zs C1 (kn + 1) c1 (knwL (k : Int) ks) w6 X.out HK1.out Hc9.out (by have := Hn.out; omega) (by have := Hk.out; omega) Hke.out).mono ?_
  rintro en w7 ⟨CB, cb, rfl, hck, hik, -, hb⟩
  replace X := Lib.hid (X.out.below hb (Nat.le_refl _))
  replace XI := Lib.hid (XI.out.below hb (Nat.le_refl _))
  replace HKA := Lib.hid (HKA.out.below hb (Nat.le_refl _))
  replace HK1 := Lib.hid (HK1.out.below hb (Nat.le_refl _))
  replace HS := Lib.hid ((hb.block _ (lt_of_block HS.out)).trans HS.out)
  replace HZ2 := Lib.hid ((hb.block _ (lt_of_block HZ2.out)).trans HZ2.out)
  replace B := Lib.hid (B.out.trans (hb.mono B.out.size))
  have HKB := Lib.hid hik
  clear hik hck
  try clear hb
  have zHS0 : w7.cell? ⟨R, 0, none⟩ = some (.int .i64 sl) := by rw [cell_row HS.out]; rfl
  have zHS1 : w7.cell? ⟨R, 1, none⟩ = some (.int .i64 sr) := by rw [cell_row HS.out]; rfl
  have zHS2 : w7.cell? ⟨R, 2, none⟩ = some (.slice A n cap) := by rw [cell_row HS.out]; rfl
  have zHS3 : w7.cell? ⟨R, 3, none⟩ = some (.slice A2 kn kc) := by rw [cell_row HS.out]; rfl
  have zHZ20 : w7.cell? ⟨Z, 0, none⟩ = some (.int .i64 sl) := by rw [cell_row HZ2.out]; rfl
  have zHZ21 : w7.cell? ⟨Z, 1, none⟩ = some (.int .i64 sr) := by rw [cell_row HZ2.out]; rfl
  have zHZ22 : w7.cell? ⟨Z, 2, none⟩ = some (.slice A n cap) := by rw [cell_row HZ2.out]; rfl
  have zHZ23 : w7.cell? ⟨Z, 3, none⟩ = some (.slice C1 (kn + 1) c1) := by rw [cell_row HZ2.out]; rfl
  go_wp2_with fail
  clear zHS0 zHS1 zHS2 zHS3 zHZ20 zHZ21 zHZ22 zHZ23
  refine (greatest22 sl sr A n cap zs C1 (kn + 1) c1 (knwL (k : Int) ks) w7 X.out HK1.out Hc9.out (by have := Hn.out; omega) (by have := Hk.out; omega) Hke.out).mono ?_
  rintro en w8 ⟨QA, pt, rfl, hgb, hQ8, hig, hb⟩
  replace X := Lib.hid (X.out.below hb (Nat.le_refl _))
  replace XI := Lib.hid (XI.out.below hb (Nat.le_refl _))
  replace HKA := Lib.hid (HKA.out.below hb (Nat.le_refl _))
  replace HK1 := Lib.hid (HK1.out.below hb (Nat.le_refl _))
  replace HKB := Lib.hid (HKB.out.below hb (Nat.le_refl _))
  replace HS := Lib.hid ((hb.block _ (lt_of_block HS.out)).trans HS.out)
  replace HZ2 := Lib.hid ((hb.block _ (lt_of_block HZ2.out)).trans HZ2.out)
  replace B := Lib.hid (B.out.trans (hb.mono B.out.size))
  have hlen := gb_len Hke.out Hzl.out hgb
  have hch := gb_chk Hke.out Hzl.out hgb
  change _ = siz n zs (knwL (k : Int) ks) at hlen
  rw [Hks.out] at hlen
  obtain ⟨al, hgl⟩ : ∃ v, jI n zs pt = v := ⟨_, rfl⟩
  rw [hgl] at hlen hch hig ⊢
  rw [hlen] at hig ⊢
  have HA := Lib.hid hig
  have Hca := Lib.hid hch
  clear hgb hQ8 hig hch hlen hgl
  try clear hb
  clear HA Hca HK1 HZ2
  obtain ⟨bb, ob, eB, hcb⟩ := HKB.out.2 (by omega)
  subst eB
  have x1 := hcb k Hknn.out
  rw [kindsK_at Hknn.out, Hself.out] at x1
  obtain ⟨bk2, ok2, eK, hck⟩ := HKA.out.2 (by omega)
  cases eK
  have x0 := hck k Hknn.out
  rw [kindsK_at Hknn.out, Hkk.out] at x0
  have dsn : ((sN : Int) != (sN : Int)) = false := by simp
  clear hcb hck
  by_cases hk2 : kk = 2
  · subst hk2
    have hsame := knw_same HSh.out H2h.out Hknn.out Hkk.out
    have Hsame := Lib.hid hsame
    clear hsame
    have zHS0 : w8.cell? ⟨R, 0, none⟩ = some (.int .i64 sl) := by rw [cell_row HS.out]; rfl
    have zHS1 : w8.cell? ⟨R, 1, none⟩ = some (.int .i64 sr) := by rw [cell_row HS.out]; rfl
    have zHS2 : w8.cell? ⟨R, 2, none⟩ = some (.slice A n cap) := by rw [cell_row HS.out]; rfl
    have zHS3 : w8.cell? ⟨R, 3, none⟩ = some (.slice A2 kn kc) := by rw [cell_row HS.out]; rfl
    go_wp2_with fail
    clear zHS0 zHS1 zHS2 zHS3
    refine (ints29 (some ⟨bk, ok, none⟩) n ck (kindsK n zs (opnL n zs ks) (kNt ks) n) (some ⟨bb, ob, none⟩) n cb (kindsK n zs (opnL n zs (knwL (k : Int) ks)) (kNt (knwL (k : Int) ks)) n) w8 HKA.out HKB.out (by have := Hn.out; omega)).mono ?_
    rintro en w9 ⟨rfl, hb⟩
    replace X := Lib.hid (X.out.below hb (Nat.le_refl _))
    replace XI := Lib.hid (XI.out.below hb (Nat.le_refl _))
    replace HKA := Lib.hid (HKA.out.below hb (Nat.le_refl _))
    replace HKB := Lib.hid (HKB.out.below hb (Nat.le_refl _))
    replace HS := Lib.hid ((hb.block _ (lt_of_block HS.out)).trans HS.out)
    replace B := Lib.hid (B.out.trans (hb.mono B.out.size))
    rw [decide_eq_true Hsame.out]
    try clear hb
    go_wp2_with fail
    refine (works15 w9).mono ?_
    rintro en w10 ⟨rfl, hb⟩
    replace B := Lib.hid (B.out.trans (hb.mono B.out.size))
    clear hb
    go_wp2_with fail
    go_ret
    exact ⟨rfl, B.out⟩
  have d4 : (kk == 2) = false := by simp [hk2]
  have hk1 : kk = 1 := by have := Hmy.out; have := Hk0.out; omega
  have hkks := Hkks.out
  have hz := has_not HSh.out Hknn.out (by rw [Hkk.out]; exact hk2)
  have hwe := wo_chk He.out Hzl.out Hknn.out hkks
  have H3 := shn_of hwe (wzP_lenE zs Hknn.out)
  have hws := (gre_wo HSh.out H3 Hknn.out hkks hz).1
  have hkeep := fun i hi hik hne => wo_keep (i := i) HSh.out H3 Hknn.out hkks hz hi hik hne
  rw [Hkl.out] at hwe hws hkeep
  rw [HsN.out] at hws
  have hwl := wzP_lenE zs Hknn.out
  have hkb : ∀ q, q < kn → -1000000 ≤ iAt ks q ∧ iAt ks q ≤ 1000000 := fun q hq => by
    have := Hn.out
    have h1 := ris_rng (shg_of He.out).ris (iAt ks q) (by rw [iAt_eq (by rw [Hkl.out]; exact hq)]; exact List.getElem_mem _)
    rw [Hzl.out] at h1
    omega
  have Hkeep := Lib.hid hkeep
  have Hk1 := Lib.hid hk1
  have Hwe := Lib.hid hwe
  have Hws := Lib.hid hws
  have Hwl := Lib.hid hwl
  have Hkb := Lib.hid hkb
  clear hk1 hkks hz hwe H3 hws hwl hkb hkeep hk2
  have zHS0 : w8.cell? ⟨R, 0, none⟩ = some (.int .i64 sl) := by rw [cell_row HS.out]; rfl
  have zHS1 : w8.cell? ⟨R, 1, none⟩ = some (.int .i64 sr) := by rw [cell_row HS.out]; rfl
  have zHS2 : w8.cell? ⟨R, 2, none⟩ = some (.slice A n cap) := by rw [cell_row HS.out]; rfl
  have zHS3 : w8.cell? ⟨R, 3, none⟩ = some (.slice A2 kn kc) := by rw [cell_row HS.out]; rfl
  go_wp2_with fail
  clear zHS0 zHS1 zHS2 zHS3
  clear d4 x0 x1
  refine (without36 sl sr A n cap zs A2 kn kc ks k w8 X.out XI.out (by have := Hn.out; omega) (by have := Hk.out; omega) Hkb.out).mono ?_
  rintro en w9 ⟨C3, c3, C4, c4, rfl, hc1, hc2, hr1, hi1, hb⟩
  replace X := Lib.hid (X.out.below hb (Nat.le_refl _))
  replace XI := Lib.hid (XI.out.below hb (Nat.le_refl _))
  replace HKA := Lib.hid (HKA.out.below hb (Nat.le_refl _))
  replace HKB := Lib.hid (HKB.out.below hb (Nat.le_refl _))
  replace HS := Lib.hid ((hb.block _ (lt_of_block HS.out)).trans HS.out)
  replace B := Lib.hid (B.out.trans (hb.mono B.out.size))
  rw [Hwl.out] at hc1 hr1 ⊢
  have HX2 := Lib.hid hr1
  have HK2 := Lib.hid hi1
  have Hc3 := Lib.hid hc1
  clear hi1 hr1 hc1 hc2
  try clear hb
  have zHS0 : w9.cell? ⟨R, 0, none⟩ = some (.int .i64 sl) := by rw [cell_row HS.out]; rfl
  have zHS1 : w9.cell? ⟨R, 1, none⟩ = some (.int .i64 sr) := by rw [cell_row HS.out]; rfl
  have zHS2 : w9.cell? ⟨R, 2, none⟩ = some (.slice A n cap) := by rw [cell_row HS.out]; rfl
  have zHS3 : w9.cell? ⟨R, 3, none⟩ = some (.slice A2 kn kc) := by rw [cell_row HS.out]; rfl
  have hzl := lt_of_block HS.out
  have hb := below_alloc_ w9 (.cells #[.int .i64 sl, .int .i64 sr, .slice C3 (n - 1) c3, .slice C4 kn c4] 25)
  have hr := heap_alloc_new_ w9 (.cells #[.int .i64 sl, .int .i64 sr, .slice C3 (n - 1) c3, .slice C4 kn c4] 25)
  obtain ⟨w10, hw10⟩ : ∃ v, w9.alloc (.cells #[.int .i64 sl, .int .i64 sr, .slice C3 (n - 1) c3, .slice C4 kn c4] 25) = v := ⟨_, rfl⟩
  obtain ⟨Y, hY⟩ : ∃ v, w9.heap.size = v := ⟨_, rfl⟩
  rw [hw10] at hb hr
  rw [hY] at hr
  have Hw10 := Lib.hid hw10
  have HY := Lib.hid hY
  clear hw10 hY
  replace X := Lib.hid (X.out.below hb (Nat.le_refl _))
  replace XI := Lib.hid (XI.out.below hb (Nat.le_refl _))
  replace HKA := Lib.hid (HKA.out.below hb (Nat.le_refl _))
  replace HKB := Lib.hid (HKB.out.below hb (Nat.le_refl _))
  replace HX2 := Lib.hid (HX2.out.below hb (Nat.le_refl _))
  replace HK2 := Lib.hid (HK2.out.below hb (Nat.le_refl _))
  replace HS := Lib.hid ((hb.block _ (lt_of_block HS.out)).trans HS.out)
  replace B := Lib.hid (B.out.trans (hb.mono B.out.size))
  clear hb
  have HY2 := Lib.hid hr
  clear hr
  go_wp2_with fail
  try rw [Hw10.out]
  try rw [HY.out]
  try go_wp2_with fail
  clear hzl
  clear zHS0 zHS1 zHS2 zHS3
  refine (kinds25 sl sr C3 (n - 1) c3 (wzP k zs n) C4 kn c4 (wkP k ks kn) w10 HX2.out HK2.out Hc3.out (by have := Hn.out; omega) (by have := Hk.out; omega) Hwe.out).mono ?_
  rintro en w11 ⟨CC, cc, rfl, hck, hik, -, hb⟩
  replace X := Lib.hid (X.out.below hb (Nat.le_refl _))
  replace XI := Lib.hid (XI.out.below hb (Nat.le_refl _))
  replace HKA := Lib.hid (HKA.out.below hb (Nat.le_refl _))
  replace HKB := Lib.hid (HKB.out.below hb (Nat.le_refl _))
  replace HX2 := Lib.hid (HX2.out.below hb (Nat.le_refl _))
  replace HK2 := Lib.hid (HK2.out.below hb (Nat.le_refl _))
  replace HS := Lib.hid ((hb.block _ (lt_of_block HS.out)).trans HS.out)
  replace HY2 := Lib.hid ((hb.block _ (lt_of_block HY2.out)).trans HY2.out)
  replace B := Lib.hid (B.out.trans (hb.mono B.out.size))
  have HKC := Lib.hid hik
  clear hik hck
  try clear hb
  have zHS0 : w11.cell? ⟨R, 0, none⟩ = some (.int .i64 sl) := by rw [cell_row HS.out]; rfl
  have zHS1 : w11.cell? ⟨R, 1, none⟩ = some (.int .i64 sr) := by rw [cell_row HS.out]; rfl
  have zHS2 : w11.cell? ⟨R, 2, none⟩ = some (.slice A n cap) := by rw [cell_row HS.out]; rfl
  have zHS3 : w11.cell? ⟨R, 3, none⟩ = some (.slice A2 kn kc) := by rw [cell_row HS.out]; rfl
  have zHY20 : w11.cell? ⟨Y, 0, none⟩ = some (.int .i64 sl) := by rw [cell_row HY2.out]; rfl
  have zHY21 : w11.cell? ⟨Y, 1, none⟩ = some (.int .i64 sr) := by rw [cell_row HY2.out]; rfl
  have zHY22 : w11.cell? ⟨Y, 2, none⟩ = some (.slice C3 (n - 1) c3) := by rw [cell_row HY2.out]; rfl
  have zHY23 : w11.cell? ⟨Y, 3, none⟩ = some (.slice C4 kn c4) := by rw [cell_row HY2.out]; rfl
  go_wp2_with fail
  clear zHS0 zHS1 zHS2 zHS3 zHY20 zHY21 zHY22 zHY23
  refine (greatest22 sl sr C3 (n - 1) c3 (wzP k zs n) C4 kn c4 (wkP k ks kn) w11 HX2.out HK2.out Hc3.out (by have := Hn.out; omega) (by have := Hk.out; omega) Hwe.out).mono ?_
  rintro en w12 ⟨QW, pt, rfl, hgb, hQ8, hig, hb⟩
  replace X := Lib.hid (X.out.below hb (Nat.le_refl _))
  replace XI := Lib.hid (XI.out.below hb (Nat.le_refl _))
  replace HKA := Lib.hid (HKA.out.below hb (Nat.le_refl _))
  replace HKB := Lib.hid (HKB.out.below hb (Nat.le_refl _))
  replace HX2 := Lib.hid (HX2.out.below hb (Nat.le_refl _))
  replace HK2 := Lib.hid (HK2.out.below hb (Nat.le_refl _))
  replace HKC := Lib.hid (HKC.out.below hb (Nat.le_refl _))
  replace HS := Lib.hid ((hb.block _ (lt_of_block HS.out)).trans HS.out)
  replace HY2 := Lib.hid ((hb.block _ (lt_of_block HY2.out)).trans HY2.out)
  replace B := Lib.hid (B.out.trans (hb.mono B.out.size))
  have hlen := gb_len Hwe.out Hwl.out hgb
  have hch := gb_chk Hwe.out Hwl.out hgb
  change _ = siz (n - 1) (wzP k zs n) (wkP k ks kn) at hlen
  rw [Hws.out] at hlen
  obtain ⟨wl, hgl⟩ : ∃ v, jI (n - 1) (wzP k zs n) pt = v := ⟨_, rfl⟩
  rw [hgl] at hlen hch hig ⊢
  rw [hlen] at hig ⊢
  have HW := Lib.hid hig
  have Hcw := Lib.hid hch
  clear hgb hQ8 hig hch hlen hgl
  try clear hb
  clear HW Hcw HX2 HK2 HY2
  have dn1 : ((n : Int) - 1) = ((n - 1 : Nat) : Int) := by omega
  have dn2 : (((n - 1 : Nat) : Int) != ((n - 1 : Nat) : Int)) = false := by simp
  have zHS0 : w12.cell? ⟨R, 0, none⟩ = some (.int .i64 sl) := by rw [cell_row HS.out]; rfl
  have zHS1 : w12.cell? ⟨R, 1, none⟩ = some (.int .i64 sr) := by rw [cell_row HS.out]; rfl
  have zHS2 : w12.cell? ⟨R, 2, none⟩ = some (.slice A n cap) := by rw [cell_row HS.out]; rfl
  have zHS3 : w12.cell? ⟨R, 3, none⟩ = some (.slice A2 kn kc) := by rw [cell_row HS.out]; rfl
  go_wp2_with fail
  clear zHS0 zHS1 zHS2 zHS3
  clear dn dn1 dn2 dsn Hws Hwl Hwe Hkb Hc3
  go_loopw [15] (fun i wr => ∃ q : Nat, q ≤ n ∧ i = .int .i64 (q : Int) ∧ Hid (Below w12.heap.size w12 wr)) (fun i _ => n - (intOf i).toNat)
  case atStart => exact ⟨0, Nat.zero_le _, rfl, Lib.hid (Below.refl _ _)⟩
  case round =>
    obtain ⟨q, hq, rfl, HBl⟩ := hrel
    obtain ⟨w13, rfl⟩ : ∃ v, v = wr := ⟨_, rfl⟩
    have hb := HBl.out
    replace X := Lib.hid (X.out.below hb (Nat.le_refl _))
    replace XI := Lib.hid (XI.out.below hb (Nat.le_refl _))
    replace HKA := Lib.hid (HKA.out.below hb (Nat.le_refl _))
    replace HKB := Lib.hid (HKB.out.below hb (Nat.le_refl _))
    replace HKC := Lib.hid (HKC.out.below hb (Nat.le_refl _))
    replace HS := Lib.hid ((hb.block _ (lt_of_block HS.out)).trans HS.out)
    replace B := Lib.hid (B.out.trans (hb.mono B.out.size))
    clear hb
    by_cases hlt : q < n
    · have hnb := Hn40.out
      have x0 : w13.cell? ⟨bk, ok + q, none⟩ = some (.int .i64 (kindS n zs (opnL n zs ks) (kNt ks) q)) := by
        obtain ⟨b9, o9, e9, hck⟩ := HKA.out.2 (by omega)
        cases e9
        have := hck q hlt
        rw [kindsK_at hlt] at this; exact this
      have x1 : w13.cell? ⟨bb, ob + q, none⟩ = some (.int .i64 (kindS n zs (opnL n zs (knwL (k : Int) ks)) (kNt (knwL (k : Int) ks)) q)) := by
        obtain ⟨b9, o9, e9, hck⟩ := HKB.out.2 (by omega)
        cases e9
        have := hck q hlt
        rw [kindsK_at hlt] at this; exact this
      have hkeep1 := fun h => knw_keep HSh.out H2h.out Hy.out hlt h
      have hkeep2 := Hkeep.out q hlt
      have hkq : q = k → kindS n zs (opnL n zs ks) (kNt ks) q = 1 := fun e => by rw [e, Hkk.out]; exact Hk1.out
      obtain ⟨kq, hkq'⟩ : ∃ v, kindS n zs (opnL n zs ks) (kNt ks) q = v := ⟨_, rfl⟩
      rw [hkq'] at x0 hkeep1 hkeep2 hkq
      have q0 : (0 : Int) ≤ (q : Int) := by omega
      have q1 : (q : Int) < (n : Int) := by omega
      clear hkq'
      by_cases h1 : kq = 1
      · have d1 : (kq == 1) = true := by simp [h1]
        clear hkeep1 hkeep2 hkq h1 x1
        go_wp2_with fail
        go_roundw
        case rel => exact ⟨q + 1, by omega, by go_num, HBl⟩
        case measure => simp [intOf]; omega
      have hne : q ≠ k := fun e => h1 (hkq e)
      have hml := newN_lt Hknn.out hlt hne
      have x2 : ∃ b2 o2, CC = some ⟨b2, o2, none⟩ ∧ w13.cell? ⟨b2, o2 + newN k q, none⟩ = some (.int .i64 kq) := by
        obtain ⟨b9, o9, e9, hck⟩ := HKC.out.2 (by omega)
        have := hck _ hml
        rw [kindsK_at hml, hkeep2 hne h1] at this
        exact ⟨b9, o9, e9, this⟩
      obtain ⟨b2, o2, rfl, x3⟩ := x2
      rw [hkeep1 h1] at x1
      have d1 : (kq == 1) = false := by simp [h1]
      have dq : (kq != kq) = false := by simp
      have hmn := newN_lt Hknn.out hlt hne
      clear hkeep1 hkeep2 hkq h1
      by_cases hgt : k < q
      · have hm : newN k q = q - 1 := by unfold newN; rw [if_neg (by omega)]
        rw [hm] at x3 hmn
        clear hm
        obtain ⟨m, hm⟩ : ∃ m, q - 1 = m := ⟨_, rfl⟩
        rw [hm] at x3 hmn
        have hmi : (q : Int) - 1 = (m : Int) := by omega
        have m0 : (0 : Int) ≤ (m : Int) := by omega
        have m1 : (m : Int) < ((n - 1 : Nat) : Int) := by omega
        have dg : (k : Int) < (q : Int) := by omega
        have HBl2 := HBl
        clear hm
        go_wp2_with fail
        go_quiet (fail)
        have HN := Lib.hid (HBl.out.trans ((drew_b _ nq).mono HBl.out.size))
        go_wp2_with fail
        go_roundw
        case rel => exact ⟨q + 1, by omega, by go_num, HN⟩
        case measure => simp [intOf]; omega
      · have hm : newN k q = q := by unfold newN; rw [if_pos (by omega)]
        rw [hm] at x3 hmn
        clear hm
        have m1 : (q : Int) < ((n - 1 : Nat) : Int) := by omega
        have dg : ¬ (k : Int) < (q : Int) := by omega
        go_wp2_with fail
        go_quiet (fail)
        have HN := Lib.hid (HBl.out.trans ((drew_b _ nq).mono HBl.out.size))
        go_wp2_with fail
        go_roundw
        case rel => exact ⟨q + 1, by omega, by go_num, HN⟩
        case measure => simp [intOf]; omega
    · obtain rfl : q = n := by omega
      go_wp2_with fail
      refine (works15 w13).mono ?_
      rintro en w14 ⟨rfl, hb⟩
      replace B := Lib.hid (B.out.trans (hb.mono B.out.size))
      clear hb
      go_wp2_with fail
      go_ret
      exact ⟨rfl, B.out⟩
end
end Go.Proofs.Ytnodkgejggnehaa
