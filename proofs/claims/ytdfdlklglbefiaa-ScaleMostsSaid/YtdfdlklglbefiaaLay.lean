/- Stage 3: CheckSong, lay and hear. -/
import Derived.Test.YtdfdlklglbefiaaArr
namespace Go.Proofs.Ytdfdlklglbefiaa
set_option linter.unusedSimpArgs false
set_option linter.unusedVariables false
open Go.RowKit Go.Shelf

/-- What CheckSong answers. -/
def chkS (zs : List Rg) : Int := if zs.length < 1 ∨ 24 < zs.length then 6 else if validZ zs then 0 else 2
theorem chkS_zero {zs : List Rg} : chkS zs = 0 ↔ 1 ≤ zs.length ∧ zs.length ≤ 24 ∧ validZ zs = true := by
  unfold chkS
  split
  · constructor
    · intro h; cases h
    · intro h; omega
  · split
    · rename_i h h2; exact ⟨fun _ => ⟨by omega, by omega, h2⟩, fun _ => rfl⟩
    · rename_i h h2
      constructor
      · intro h; cases h
      · intro h; exact absurd h.2.2 h2

set_option maxRecDepth 100000 in
set_option maxHeartbeats 4000000 in
theorem checkSong18 (A : Option Addr) (n cap : Nat) (zs : List Rg) (w : World) (h : Rgs w A n zs) :
    Calls Try.prog 18 #[.slice A n cap] w fun e w' => e = .returned (.int .i64 (chkS zs)) ∧ Below w.heap.size w w' := by
  have hlen := h.1
  have Hlen := Lib.hid hlen
  go_enter Try.func18, Try.ntmps18
  go_wp2_with fail
  have hb := below_alloc_ w (.cells #[.int .i64 (n : Int)] 3)
  have hX := heap_alloc_new_ w (.cells #[.int .i64 (n : Int)] 3)
  have h2 := h.below hb (Nat.le_refl _)
  refine (within42 _ 1 1 [(n : Int)] 1 24 _ (ints_one hX) (by omega)).mono ?_
  rintro e w2 ⟨rfl, rfl⟩
  rw [with1]
  have Hb := Lib.hid hb
  have H2 := Lib.hid h2
  clear hX hb h2 h
  by_cases hin : 1 ≤ n ∧ n ≤ 24
  · have e1 : onR (n : Int) ⟨1, 24⟩ = true := onR_iff.2 ⟨by show (1 : Int) ≤ n; omega, by show (n : Int) ≤ 24; omega⟩
    rw [e1]
    have Hin := Lib.hid hin
    clear e1 hin
    go_wp2_with fail
    refine (valid43 A n cap zs _ H2.out (by have := Hin.out; omega)).mono ?_
    rintro e w3 ⟨rfl, hb3⟩
    have Hb3 := Lib.hid (Hb.out.trans (hb3.mono Hb.out.size))
    clear hb3
    cases hv : validZ zs with
    | true =>
      have Hv := Lib.hid hv
      clear hv
      go_wp2_with fail
      go_ret
      exact ⟨ret_int (chkS_zero.2 ⟨by have := Hin.out; omega, by have := Hin.out; omega, Hv.out⟩).symm, Hb3.out⟩
    | false =>
      have Hv := Lib.hid hv
      clear hv
      go_wp2_with fail
      go_ret
      exact ⟨ret_int (by unfold chkS; rw [if_neg (by have := Hin.out; omega), Hv.out]; rfl), Hb3.out⟩
  · have e1 : onR (n : Int) ⟨1, 24⟩ = false := by
      cases ho : onR (n : Int) ⟨1, 24⟩
      · rfl
      · have := onR_iff.1 ho
        simp only at this
        omega
    rw [e1]
    have Hin := Lib.hid hin
    clear e1 hin
    go_wp2_with fail
    go_ret
    exact ⟨ret_int (by unfold chkS; rw [if_pos (by have := Hin.out; omega)]), Hb.out⟩

/-- What lay hands back. -/
def LayPost (zs : List Rg) (n : Nat) (w : World) (e : Ending) (w' : World) : Prop :=
  Below w.heap.size w w' ∧ ((chkS zs = 0 ∧ ∃ B C cp, e = .returned (.tuple #[.pointer (some ⟨B, 0, none⟩), .int .i64 0]) ∧ w.heap.size ≤ B ∧ (∀ b o, C = some ⟨b, o, none⟩ → w.heap.size ≤ b) ∧ Bd w' B C n cp zs (fun _ => false)) ∨
    (chkS zs ≠ 0 ∧ e = .returned (.tuple #[.pointer none, .int .i64 (chkS zs)])))
set_option maxRecDepth 100000 in
set_option maxHeartbeats 4000000 in
theorem lay46 (A : Option Addr) (n cap : Nat) (zs : List Rg) (w : World) (h : Rgs w A n zs) :
    Calls Try.prog 46 #[.slice A n cap] w (LayPost zs n w) := by
  have Hlen := Lib.hid h.1
  go_enter Try.func46, Try.ntmps46
  go_wp2_with fail
  refine (checkSong18 A n cap zs w h).mono ?_
  rintro e w2 ⟨rfl, hb⟩
  have h2 := h.below hb (Nat.le_refl _)
  obtain ⟨c, hc⟩ : ∃ c, chkS zs = c := ⟨_, rfl⟩
  rw [hc]
  have Hc := Lib.hid hc
  have Hb := Lib.hid hb
  clear hb h hc
  by_cases h0 : c = 0
  · subst h0
    have H0 := Lib.hid (chkS_zero.1 Hc.out)
    go_wp2_with fail
    refine (set56 A n cap zs _ h2 (by have := H0.out; have := Hlen.out; omega)).mono ?_
    rintro e w3 ⟨B, C, cp, rfl, hb3, hB, hC, hd⟩
    have HF := Lib.hid (show LayPost zs n w (.returned (.tuple #[.pointer (some ⟨B, 0, none⟩), .int .i64 0])) w3 from ⟨Hb.out.trans (hb3.mono Hb.out.size), .inl ⟨Hc.out, B, C, cp, rfl, Nat.le_trans Hb.out.size hB, fun b o e => Nat.le_trans Hb.out.size (hC b o e), hd⟩⟩)
    clear hb3 hB hC hd
    go_wp2_with fail
    refine bodyPost_ret (v := .tuple #[.pointer (some ⟨B, 0, none⟩), .int .i64 0]) (by simp [results, Try.results46, go_sem]) rfl ?_
    exact HF.out
  · have d0 : (c != 0) = true := by rw [bne_iff_ne]; exact h0
    have H0 := Lib.hid h0
    clear h0
    go_wp2_with fail
    refine bodyPost_ret (v := .tuple #[.pointer none, .int .i64 c]) (by simp [results, Try.results46, go_sem]) rfl ?_
    exact ⟨Hb.out, .inr ⟨by rw [Hc.out]; exact H0.out, by rw [Hc.out]⟩⟩
end Go.Proofs.Ytdfdlklglbefiaa
