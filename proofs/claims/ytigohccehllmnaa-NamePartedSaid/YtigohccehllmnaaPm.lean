/- Stage 6: links that are cut part names: mathematics. -/
import Derived.Test.YtigohccehllmnaaLf
import Derived.Test.YtigohccehllmnaaJd9
import Derived.Test.YtigohccehllmnaaSde
namespace Go.Proofs.Ytigohccehllmnaa
set_option linter.unusedSimpArgs false
set_option linter.unusedVariables false
open Go.RowKit Go.Shelf

theorem ctS_ris (l : NL) (S : Int → Bool) : risI (l.n : Int) (ctS l S) = true := nmK_ris _ _ _ (Nat.le_refl _)
theorem layE_ct {l : NL} (h : chkL l = 0) (S : Int → Bool) : layE l (ctS l S) = 0 := layE_0 h (ctS_ris l S)
section
variable {l : NL} {W : World} (hn : NLs W l)
include hn
/-- A side whose cut links are all dropped is closed. -/
theorem cut_closed {S : Int → Bool} {ds : List Int} (h : layE l ds = 0) (hd : ∀ x ∈ ctS l S, x ∈ ds) : ClosedS (dropF l.zs ds) (opF (dropF l.zs ds) (fun _ => 0)) S := by
  intro v hv ho hf
  have hnd := (op_drop hn h v hv).1 ho
  have hk : v.link < l.n := by have := hv.1; rw [dropF_len, hn.zs.1] at this; exact this
  have hc : cutB l.zs S v.link = false := by
    rw [← Bool.not_eq_true]
    intro e
    exact hnd (hd _ (mem_nmK.2 ⟨by omega, by omega, by rw [Int.toNat_natCast]; exact e⟩))
  obtain ⟨d1, d2⟩ := drop_ends hn (layE_ok h).2 hk
  have w4 := hv.2
  rw [d1, d2] at w4
  unfold cutB at hc
  have he : S (lAt l.zs v.link).one = S (lAt l.zs v.link).two := by
    revert hc
    cases S (lAt l.zs v.link).one <;> cases S (lAt l.zs v.link).two <;> simp
  rcases w4 with ⟨a1, a2⟩ | ⟨a1, a2⟩
  · rw [a2, ← he, ← a1]; exact hf
  · rw [a2, he, ← a1]; exact hf
theorem cut_parts {S : Int → Bool} (hS : IsSd l.ls l.rs S) {ds : List Int} (h : layE l ds = 0) (hd : ∀ x ∈ ctS l S, x ∈ ds) : jnB (labG l.zs ds l.n l.N.toNat) l.ls l.rs = false :=
  jn_none hn h (cut_closed hn h hd) hS
end
theorem mem_dgK {lab : Int → Int} {c : Nat} {x : List Int} : ∀ {k : Nat}, x ∈ dgK lab c k → ∃ i : Nat, i < k ∧ ∀ y ∈ x, lab y = (i : Int)
  | 0, h => by cases h
  | k + 1, h => by
    simp only [dgK] at h
    split at h
    · rcases List.mem_append.1 h with h | h
      · obtain ⟨i, hi, e⟩ := mem_dgK h
        exact ⟨i, by omega, e⟩
      · rw [List.mem_singleton] at h
        refine ⟨k, by omega, fun y hy => ?_⟩
        rw [h, mem_nmK] at hy
        exact of_decide_eq_true hy.2.2
    · obtain ⟨i, hi, e⟩ := mem_dgK h
      exact ⟨i, by omega, e⟩
/-- No group has a name of both lists, if no names are joined. -/
theorem dg_apart {lab : Int → Int} {c k : Nat} {L R x : List Int} (hx : x ∈ dgK lab c k) (hj : jnB lab L R = false) : (x.any (fun y => decide (y ∈ L)) && x.any (fun y => decide (y ∈ R))) = false := by
  rw [← Bool.not_eq_true, Bool.and_eq_true]
  rintro ⟨h1, h2⟩
  obtain ⟨a, ha, e1⟩ := List.any_eq_true.1 h1
  obtain ⟨b, hb, e2⟩ := List.any_eq_true.1 h2
  obtain ⟨i, _, e⟩ := mem_dgK hx
  have : jnB lab L R = true := List.any_eq_true.2 ⟨a, of_decide_eq_true e1, List.any_eq_true.2 ⟨b, of_decide_eq_true e2, decide_eq_true (by rw [e a ha, e b hb])⟩⟩
  rw [hj] at this; cases this
/-- Some of the first numbers. -/
def anyK (p : Int → Bool) (zs : List Int) (k : Nat) : Bool := (zs.take k).any p
theorem anyK_succ (p : Int → Bool) {zs : List Int} {k : Nat} (hk : k < zs.length) : anyK p zs (k + 1) = (anyK p zs k || p (iAt zs k)) := any_take' p hk
theorem anyK_full (p : Int → Bool) {zs : List Int} {n : Nat} (hn : zs.length = n) : anyK p zs n = zs.any p := by
  unfold anyK; rw [List.take_of_length_le (by omega)]
/-- Which links are dropped, by bits. -/
def dpP (xa xb : Nat) : Int → Bool := fun i => (if i.toNat < 64 then xa else xb).testBit (i.toNat % 64)
theorem layE_dp {l : NL} (h : chkL l = 0) (p : Int → Bool) : layE l (nmK p l.n) = 0 := layE_0 h (nmK_ris _ _ _ (Nat.le_refl _))
def CellV (W : World) (b o : Nat) (v : Value) : Prop := W.cell? ⟨b, o, none⟩ = some v
theorem CellV.below {W W' : World} {b o Bs : Nat} {v : Value} (h : CellV W b o v) (hb : Below Bs W W') (hB : W.heap.size ≤ Bs) : CellV W' b o v := ((hb.mono hB).cell (lt_of_cell (w := W) (by unfold CellV at h; exact h))).trans h
end Go.Proofs.Ytigohccehllmnaa
