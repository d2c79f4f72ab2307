/- Arrays of 21 numbers by value; the contract of keep. -/
import Derived.Test.YtiankphkemakeaaCirc
import Derived.Deep.MidRow
namespace Go.Proofs.Ytiankphkemakeaa
set_option linter.unusedSimpArgs false
set_option linter.unusedVariables false
open Go.RowKit

/-- The cells of a list of numbers. -/
def pv (p : List Int) : Array Value := (p.map (Value.int .i64)).toArray
theorem pv_at (p : List Int) (i : Nat) (h : i < p.length) : (pv p)[i]? = some (.int .i64 (nth p i)) := by
  simp [pv, nth_eq p i h, h]
theorem pv_size (p : List Int) : (pv p).size = p.length := by simp [pv]

set_option maxRecDepth 100000 in
set_option maxHeartbeats 400000 in
theorem keep59 (p : List Int) (f t m : Int) (w : World) (hp : p.length = 21) (hf : 0 ≤ f ∧ f ≤ 20) (ht : 0 ≤ t ∧ t ≤ 20) (hm : -1000000 ≤ m ∧ m ≤ 1000000) (hb : ∀ i, -9000000000000 ≤ nth p i ∧ nth p i ≤ 9000000000000) :
    Calls Try.prog 59 #[.agg (pv p), .agg #[.int .i64 f, .int .i64 t, .int .i64 m]] w fun e w' => e = .returned (.bool (decide (nth p t.toNat ≤ nth p f.toNat + m))) ∧ Below w.heap.size w w' := by
  obtain ⟨f', rfl⟩ := Int.eq_ofNat_of_zero_le hf.1
  obtain ⟨t', rfl⟩ := Int.eq_ofNat_of_zero_le ht.1
  simp only [Int.toNat_natCast]
  have c0 : ∀ o, ((w.alloc (.cells (pv p) 87)).alloc o).cell? ⟨w.heap.size, f', none⟩ = some (.int .i64 (nth p f')) := fun o => by
    rw [World.cell?_alloc_past _ _ _ (by simp), World.cell?_alloc_at _ _ _ _ rfl, pv_at _ _ (by omega)]
  have c1 : ∀ o, ((w.alloc (.cells (pv p) 87)).alloc o).cell? ⟨w.heap.size, t', none⟩ = some (.int .i64 (nth p t')) := fun o => by
    rw [World.cell?_alloc_past _ _ _ (by simp), World.cell?_alloc_at _ _ _ _ rfl, pv_at _ _ (by omega)]
  obtain ⟨hb0, hb1⟩ := hb f'
  obtain ⟨hb2, hb3⟩ := hb t'
  obtain ⟨hm0, hm1⟩ := hm
  have hf1 : (f' : Int) < 21 := by omega
  have ht1 : (t' : Int) < 21 := by omega
  have hf0 : (0 : Int) ≤ (f' : Int) := by omega
  have ht0 : (0 : Int) ≤ (t' : Int) := by omega
  have Hp := Lib.hid hp
  clear hb hf ht hp
  go_enter Try.func59, Try.ntmps59
  go_wp2_with fail
  go_quiet (fail)
  go_wp2
  go_ret
  exact ⟨rfl, below_drewN (((Below.refl _ _).alloc (Nat.le_refl _) _).alloc (by simp) _) _⟩

/-- A rule between turns of a sheet, not more than 100,000. -/
def FitR (r : R) : Prop := 0 ≤ r.f ∧ r.f ≤ 20 ∧ 0 ≤ r.t ∧ r.t ≤ 20 ∧ -1000000 ≤ r.m ∧ r.m ≤ 1000000
/-- Do the speeds keep a rule? -/
def keep (p : List Int) (r : R) : Bool := decide (nth p r.t.toNat ≤ nth p r.f.toNat + r.m)
/-- Not beyond what can be added to. -/
def Tame (p : List Int) : Prop := ∀ i, -9000000000000 ≤ nth p i ∧ nth p i ≤ 9000000000000

set_option maxRecDepth 100000 in
set_option maxHeartbeats 800000 in
theorem every58 (p : List Int) (A : Option Addr) (n cap : Nat) (rs : List R) (w : World) (h : Rules w A n rs) (hn : n ≤ 1000000) (hp : p.length = 21) (hb : Tame p) (hr : ∀ r ∈ rs, FitR r) :
    Calls Try.prog 58 #[.slice A n cap, .func (.func 59) #[.agg (pv p)] #[]] w fun e w' => e = .returned (.bool (rs.all (keep p))) ∧ Below w.heap.size w w' := by
  have H := Lib.hid h
  have Hb := Lib.hid hb
  have Hr := Lib.hid hr
  have Hp := Lib.hid hp
  clear h hb hr hp
  go_enter Try.func58, Try.ntmps58
  go_wp2_with fail
  go_loopw [9] (fun i wr => ∃ k : Nat, k ≤ n ∧ i = .int .i64 k ∧ (rs.take k).all (keep p) = true ∧ Below w.heap.size w wr) (fun i _ => n - (intOf i).toNat)
  case atStart => exact ⟨0, Nat.zero_le _, rfl, rfl, Below.refl _ _⟩
  case round =>
    obtain ⟨k, hkm, rfl, hall, hB⟩ := hrel
    have Hall := Lib.hid hall
    have HB := Lib.hid hB
    by_cases hlt : k < n
    · obtain ⟨hl, hcs⟩ := H.out.below hB (Nat.le_refl _)
      obtain ⟨b, o, rfl, hc⟩ := hcs (by omega)
      obtain ⟨c0, c1, c2⟩ := hc k hlt
      have Hl := Lib.hid hl
      have Hfit := Lib.hid (show FitR (rAt rs k) by rw [rAt_eq _ _ (by omega)]; exact Hr.out _ (List.getElem_mem _))
      clear hcs hc hl hall hB
      go_wp2_with fail
      refine (keep59 p (rf rs k) (rt rs k) (rm rs k) _ Hp.out ⟨Hfit.out.1, Hfit.out.2.1⟩ ⟨Hfit.out.2.2.1, Hfit.out.2.2.2.1⟩ Hfit.out.2.2.2.2 Hb.out).mono ?_
      rintro e w1 ⟨rfl, hb⟩
      have Hb1 := Lib.hid ((HB.out.alloc HB.out.size _).trans (hb.mono (by have := HB.out.size; simp; omega)))
      clear hb
      have Hk := Lib.hid (show keep p (rAt rs k) = decide (nth p (rt rs k).toNat ≤ nth p (rf rs k).toNat + rm rs k) from rfl)
      cases hq : decide (nth p (rt rs k).toNat ≤ nth p (rf rs k).toNat + rm rs k) with
      | false =>
        have Hq := Lib.hid hq
        clear hq
        go_wp2_with fail
        go_ret
        exact ⟨ret_bool (by rw [all_stop_r _ _ k (by rw [Hl.out]; exact hlt) (by rw [Hk.out, Hq.out])]), Hb1.out⟩
      | true =>
        have Hq := Lib.hid hq
        clear hq
        go_wp2_with fail
        go_roundw
        case rel => exact ⟨k + 1, by omega, by go_num, by rw [all_take_r _ _ k (by rw [Hl.out]; exact hlt), Hall.out, Hk.out, Hq.out]; rfl, Hb1.out⟩
        case measure => simp [intOf]; omega
    · have hl := H.out.1
      have hall' : rs.all (keep p) = true := by rw [← hall, List.take_of_length_le (by omega)]
      have Hall := Lib.hid hall'
      clear hall hall' hB
      go_wp2_with fail
      go_ret
      exact ⟨ret_bool Hall.out.symm, HB.out⟩
end Go.Proofs.Ytiankphkemakeaa
