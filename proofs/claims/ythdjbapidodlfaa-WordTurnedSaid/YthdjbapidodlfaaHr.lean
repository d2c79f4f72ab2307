/- Stage 4: Hears, long. -/
import Derived.Test.YthdjbapidodlfaaPvn
import Derived.Test.YthdjbapidodlfaaR30
namespace Go.Proofs.Ythdjbapidodlfaa
set_option linter.unusedSimpArgs false
set_option linter.unusedVariables false
open Go.RowKit Go.Shelf
/-- One of the first k matches has the index ii at the hearer h. -/
def hrsB (p : List (List Int)) (h : Nat) (ii : Int) (k : Nat) : Bool := (List.range k).any fun j => decide (iAt (lAt p j) h = ii)
theorem hrsB_succ (p : List (List Int)) (h : Nat) (ii : Int) (k : Nat) : hrsB p h ii (k + 1) = (hrsB p h ii k || decide (iAt (lAt p k) h = ii)) := by simp [hrsB, List.range_succ]
theorem hrsB_stop {p : List (List Int)} {h : Nat} {ii : Int} {k n : Nat} (he : iAt (lAt p k) h = ii) (hk : k < n) : hrsB p h ii n = true := by
  unfold hrsB
  rw [List.any_eq_true]
  exact ⟨k, List.mem_range.2 hk, decide_eq_true he⟩
section
attribute [local go_sem ↓] exec_app at_app
attribute [local go_sem] Oper.semAt_some
set_option maxRecDepth 100000 in
set_option maxHeartbeats 40000000 in
theorem hears43 (A : Option Addr) (N c : Nat) (p : List (List Int)) (h : Nat) (ii : Int) (w : World) (hp : Lns w A N p) (hh : ∀ j, j < N → h < (lAt p j).length) (hN : N ≤ 100000) (h9 : h ≤ 1000) :
    Calls Try.prog 43 #[.slice A N c, .int .i64 (h : Int), .int .i64 ii] w fun e w' => e = .returned (.bool (hrsB p h ii N)) ∧ Below w.heap.size w w' := by
  have HP := Lib.hid hp
  have HH := Lib.hid hh
  clear hp hh
  go_enter Try.func43, Try.ntmps43
  go_wp2_with fail
  go_loopw [7] (fun i wr => ∃ k : Nat, k ≤ N ∧ i = .int .i64 (k : Int) ∧ Hid (hrsB p h ii k = false ∧ Below w.heap.size w wr)) (fun i _ => N - (intOf i).toNat)
  case atStart => exact ⟨0, Nat.zero_le _, rfl, Lib.hid ⟨rfl, Below.refl _ _⟩⟩
  case round =>
    obtain ⟨k, hk, rfl, HI⟩ := hrel
    obtain ⟨wk, rfl⟩ : ∃ wk, wk = wr := ⟨_, rfl⟩
    have HB := Lib.hid HI.out.2
    have HF := Lib.hid HI.out.1
    clear HI
    by_cases hlt : k < N
    · obtain ⟨b, o, rfl, hc⟩ := (HP.out.below HB.out (Nat.le_refl _)).2 (by omega)
      obtain ⟨C, c1, x0, hi, -⟩ := hc k hlt
      have hhk := HH.out k hlt
      obtain ⟨b2, o2, rfl, hc2⟩ := hi.2 (by omega)
      have y0 := hc2 h hhk
      have Hs := Lib.hid (hrsB_succ p h ii k)
      obtain ⟨ll, hll⟩ : ∃ ll, (lAt p k).length = ll := ⟨_, rfl⟩
      rw [hll] at x0 hhk
      obtain ⟨v, hv⟩ : ∃ v, iAt (lAt p k) h = v := ⟨_, rfl⟩
      rw [hv] at y0 Hs
      have Hv := Lib.hid hv
      have i0 : (0 : Int) ≤ (k : Int) := by omega
      have i1 : (k : Int) < (N : Int) := by omega
      have i2 : (0 : Int) ≤ (h : Int) := by omega
      have i3 : (h : Int) < (ll : Int) := by omega
      clear hc hi hc2 hll hv
      by_cases he : v = ii
      · have HR := Lib.hid (hrsB_stop (p := p) (h := h) (ii := ii) (n := N) (by rw [Hv.out]; exact he) hlt)
        have de : (v == ii) = true := by rw [beq_iff_eq]; exact he
        clear he
        go_wp2_with fail
        go_ret
        exact ⟨by rw [HR.out]; rfl, HB.out⟩
      · have HR := Lib.hid (show hrsB p h ii (k + 1) = false by rw [Hs.out, HF.out, decide_eq_false he]; rfl)
        have de : (v == ii) = false := by rw [beq_eq_false_iff_ne]; exact he
        clear he
        go_wp2_with fail
        go_roundw
        case rel => exact ⟨k + 1, by omega, by go_num, Lib.hid ⟨HR.out, HB.out⟩⟩
        case measure => simp [intOf]; omega
    · obtain rfl : k = N := by omega
      go_wp2_with fail
      go_ret
      exact ⟨by rw [HF.out]; rfl, HB.out⟩
set_option maxRecDepth 100000 in
set_option maxHeartbeats 40000000 in
theorem long44 (A : Option Addr) (n cap : Nat) (zs : List Rg) (A2 : Option Addr) (m cap2 : Nat) (L : List (List Int)) (w : World) (h : Rgs w A n zs) (hL : Lns w A2 m L) (hz : chkL zs L = 0) :
    Calls Try.prog 44 #[.agg #[.slice A n cap], .slice A2 m cap2] w fun e w' => e = .returned (.tuple #[.int .i64 (topK (cls (prs zs)) L m : Int), .bool true]) ∧ Below w.heap.size w w' := by
  have Hlen := Lib.hid hL.1
  have hb0 := below_alloc_ w (.cells #[.slice A n cap] 24)
  have hr0 := heap_alloc_new_ w (.cells #[.slice A n cap] 24)
  obtain ⟨w0, hW0⟩ : ∃ w0, w.alloc (.cells #[.slice A n cap] 24) = w0 := ⟨_, rfl⟩
  obtain ⟨R, hR⟩ : ∃ R, w.heap.size = R := ⟨_, rfl⟩
  rw [hW0] at hb0 hr0
  rw [hR] at hr0
  have S := Lib.hid (h.below hb0 (Nat.le_refl _))
  have X := Lib.hid (hL.below hb0 (Nat.le_refl _))
  have B := Lib.hid hb0
  have Hck := Lib.hid hz
  have HW0 := Lib.hid hW0
  have HR := Lib.hid hR
  have rc : w0.cell? ⟨R, 0, none⟩ = some (.slice A n cap) := by rw [cell_row hr0]; rfl
  have hrow := Lib.hid hr0
  clear hz h hL hb0 hr0 hW0 hR
  go_enter Try.func44, Try.ntmps44
  go_wp2_with fail
  rw [HW0.out]
  try rw [HR.out]
  try go_wp2_with fail
  have HLV := Lib.hid (lv_of Hlen.out Hck.out)
  have Hm := Lib.hid (show m ≤ 9223372036854775807 by have := HLV.out.hi; omega)
  obtain ⟨nm, hnm⟩ : ∃ nm, cls (prs zs) = nm := ⟨_, rfl⟩
  have Hnm := Lib.hid hnm
  clear hnm
  obtain ⟨K, hK⟩ : ∃ K, topK nm L m = K := ⟨_, rfl⟩
  have HK := Lib.hid hK
  clear hK
  obtain ⟨p, hp⟩ : ∃ p, (fstS nm L m (mtS nm L)).map (·.take m) = p := ⟨_, rfl⟩
  have Hp := Lib.hid hp
  have HpQ := Lib.hid (show ChQ ((mtS nm L).map (·.take m)) m p by rw [← hp]; exact (fst_chQ HLV.out).1)
  have HpL := Lib.hid (show p.length = K by rw [← hp, ← HK.out]; exact (fst_chQ HLV.out).2)
  have HpC := Lib.hid (show ckPs zs L p = 0 from (chQ_ok Hlen.out Hck.out (by rw [Hnm.out]; exact HpQ.out)).1)
  clear hp
  refine (longest32 A n cap zs A2 m cap2 L w0 S.out X.out Hm.out).mono ?_
  rintro en w1 ⟨hb, hor⟩
  replace S := Lib.hid (S.out.below hb (Nat.le_refl _))
  replace X := Lib.hid (X.out.below hb (Nat.le_refl _))
  replace B := Lib.hid (B.out.trans (hb.mono B.out.size))
  replace hrow := Lib.hid ((hb.block R (lt_of_block hrow.out)).trans hrow.out)
  try clear rc
  obtain ⟨-, C1, N1, c1, rfl, hl1, -⟩ | ⟨h0, -⟩ := hor
  rotate_left
  · exact absurd Hck.out h0
  rw [Hnm.out, Hp.out] at hl1
  have hn1 := hl1.1
  rw [HpL.out] at hn1
  subst hn1
  have P1 := Lib.hid hl1
  clear hl1
  clear hb
  have rc : w1.cell? ⟨R, 0, none⟩ = some (.slice A n cap) := by rw [cell_row hrow.out]; rfl
  go_wp2_with fail
  refine (refPassage30 A n cap zs A2 m cap2 L C1 K c1 p w1 S.out X.out P1.out Hm.out).mono ?_
  rintro en w2 ⟨rfl, hb⟩
  replace S := Lib.hid (S.out.below hb (Nat.le_refl _))
  replace X := Lib.hid (X.out.below hb (Nat.le_refl _))
  replace P1 := Lib.hid (P1.out.below hb (Nat.le_refl _))
  replace B := Lib.hid (B.out.trans (hb.mono B.out.size))
  replace hrow := Lib.hid ((hb.block R (lt_of_block hrow.out)).trans hrow.out)
  try clear rc
  rw [HpC.out]
  clear hb
  have rc : w2.cell? ⟨R, 0, none⟩ = some (.slice A n cap) := by rw [cell_row hrow.out]; rfl
  go_wp2_with fail
  refine bodyPost_ret (v := .tuple #[.int .i64 (K : Int), .bool true]) (by simp [results, Try.results44, go_sem]) rfl ?_
  exact ⟨by rw [Hnm.out, HK.out], B.out⟩
end
end Go.Proofs.Ythdjbapidodlfaa
