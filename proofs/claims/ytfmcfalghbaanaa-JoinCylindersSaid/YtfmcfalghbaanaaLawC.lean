/- Stage 2: the walk of JoinCylinders. -/
import Derived.Test.YtfmcfalghbaanaaLawP
import Derived.Shelf.RegionOpen
import Derived.StillTailTactics
namespace Go.Proofs.Ytfmcfalghbaanaa
set_option linter.unusedSimpArgs false
set_option linter.unusedVariables false
open Go.RowKit Go.Shelf
attribute [local go_sem] Oper.semAt_some

/-- What JoinCylinders has taken over. -/
structure Ky (w : World) (B : Nat) (A : Option Addr) (n cap : Nat) (off lo hi p q : Int) (u v : Bool) (ps : List Pc) (C : Option Addr) (m : Nat) (ss : List St) (W : World) : Prop where
  below : Below w.heap.size w W
  r0 : W.heap[B]? = some (.cells #[.slice A n cap, .int .i64 off, .int .i64 lo, .int .i64 hi] 26 (0, 0))
  r1 : W.heap[B + 1]? = some (.cells #[.int .i64 p, .bool u] 28 (0, 0))
  r2 : W.heap[B + 1 + 1]? = some (.cells #[.int .i64 q, .bool v] 28 (0, 0))
  pcs : Pcs W A n ps
  st : Sts W C m ss
section
variable {w : World} {B : Nat} {A : Option Addr} {n cap : Nat} {off lo hi p q : Int} {u v : Bool} {ps : List Pc} {C : Option Addr} {m : Nat} {ss : List St} {W W' : World}
theorem Ky.next (hb : Below W.heap.size W W') (h : Ky w B A n cap off lo hi p q u v ps C m ss W) : Ky w B A n cap off lo hi p q u v ps C m ss W' :=
  ⟨h.below.trans (hb.mono h.below.size), (hb.block _ (lt_of_block h.r0)).trans h.r0, (hb.block _ (lt_of_block h.r1)).trans h.r1, (hb.block _ (lt_of_block h.r2)).trans h.r2, h.pcs.below hb (Nat.le_refl _), h.st.below hb (Nat.le_refl _)⟩
theorem Ky.all (h : Ky w B A n cap off lo hi p q u v ps C m ss W) : Ky w B A n cap off lo hi p q u v ps C m ss W ∧
    W.cell? ⟨B, 0, none⟩ = some (.slice A n cap) ∧ W.cell? ⟨B, 1, none⟩ = some (.int .i64 off) ∧ W.cell? ⟨B, 2, none⟩ = some (.int .i64 lo) ∧ W.cell? ⟨B, 3, none⟩ = some (.int .i64 hi) ∧
    W.cell? ⟨B + 1, 0, none⟩ = some (.int .i64 p) ∧ W.cell? ⟨B + 1, 1, none⟩ = some (.bool u) ∧ W.cell? ⟨B + 1 + 1, 0, none⟩ = some (.int .i64 q) ∧ W.cell? ⟨B + 1 + 1, 1, none⟩ = some (.bool v) :=
  ⟨h, by rw [cell_row h.r0]; rfl, by rw [cell_row h.r0]; rfl, by rw [cell_row h.r0]; rfl, by rw [cell_row h.r0]; rfl, by rw [cell_row h.r1]; rfl, by rw [cell_row h.r1]; rfl, by rw [cell_row h.r2]; rfl, by rw [cell_row h.r2]; rfl⟩
theorem Ky.new (h : Pcs w A n ps) (hs : Sts w C m ss) : Ky w w.heap.size A n cap off lo hi p q u v ps C m ss (((w.alloc (.cells #[.slice A n cap, .int .i64 off, .int .i64 lo, .int .i64 hi] 26)).alloc (.cells #[.int .i64 p, .bool u] 28)).alloc (.cells #[.int .i64 q, .bool v] 28)) := by
  have h1 := below_alloc_ w (.cells #[.slice A n cap, .int .i64 off, .int .i64 lo, .int .i64 hi] 26)
  have h2 := below_alloc_ (w.alloc (.cells #[.slice A n cap, .int .i64 off, .int .i64 lo, .int .i64 hi] 26)) (.cells #[.int .i64 p, .bool u] 28)
  have h3 := below_alloc_ ((w.alloc (.cells #[.slice A n cap, .int .i64 off, .int .i64 lo, .int .i64 hi] 26)).alloc (.cells #[.int .i64 p, .bool u] 28)) (.cells #[.int .i64 q, .bool v] 28)
  have h23 := h2.trans (h3.mono h2.size)
  have h123 := h1.trans (h23.mono h1.size)
  refine ⟨h123, ?_, ?_, ?_, h.below h123 (Nat.le_refl _), hs.below h123 (Nat.le_refl _)⟩
  · exact (h23.block _ (by simp)).trans (heap_alloc_new_ w _)
  · have := heap_alloc_new_ (w.alloc (.cells #[.slice A n cap, .int .i64 off, .int .i64 lo, .int .i64 hi] 26)) (.cells #[.int .i64 p, .bool u] 28)
    refine (h3.block _ (by simp)).trans ?_
    simpa using this
  · have := heap_alloc_new_ ((w.alloc (.cells #[.slice A n cap, .int .i64 off, .int .i64 lo, .int .i64 hi] 26)).alloc (.cells #[.int .i64 p, .bool u] 28)) (.cells #[.int .i64 q, .bool v] 28)
    simpa using this
end

set_option maxRecDepth 100000 in
set_option maxHeartbeats 20000000 in
theorem cylinders3 (A : Option Addr) (n cap : Nat) (off lo hi p q : Int) (u v : Bool) (ps : List Pc) (C : Option Addr) (m cp : Nat) (ss : List St) (w : World) (h : Pcs w A n ps) (hs : Sts w C m ss) (hn : n ≤ 9223372036854775807) (hm : m ≤ 9223372036854775807) (hcp : m ≤ cp) :
    Calls Try.prog 3 #[cyl A n cap off lo hi, .agg #[.int .i64 p, .bool u], .agg #[.int .i64 q, .bool v], .slice C m cp] w fun e w' => e = .returned (.bool true) ∧ Below w.heap.size w w' := by
  have hk : Ky w w.heap.size A n cap off lo hi p q u v ps C m ss _ := Ky.new (cap := cap) (off := off) (lo := lo) (hi := hi) (p := p) (q := q) (u := u) (v := v) h hs
  have K := Lib.hid hk
  have Hn := Lib.hid hn
  have Hm := Lib.hid hm
  have Hcp := Lib.hid hcp
  clear h hs hn hm hcp hk
  unfold cyl
  by_cases h1 : (12 : Int) < (n : Int)
  · have d1 : decide ((12 : Int) < (n : Int)) = true := decide_eq_true h1
    clear h1
    go_enter Try.func3, Try.ntmps3
    go_wp2_with fail
    refine (works13 _).mono ?_
    rintro e w' ⟨rfl, hb⟩
    have HB := Lib.hid (K.out.next hb)
    clear hb
    go_wp2_with fail
    go_ret
    exact ⟨rfl, HB.out.below⟩
  · have d1 : decide ((12 : Int) < (n : Int)) = false := decide_eq_false h1
    clear h1
    by_cases h2 : (12 : Int) < (m : Int)
    · have d2 : decide ((12 : Int) < (m : Int)) = true := decide_eq_true h2
      clear h2
      go_enter Try.func3, Try.ntmps3
      go_wp2_with fail
      refine (works13 _).mono ?_
      rintro e w' ⟨rfl, hb⟩
      have HB := Lib.hid (K.out.next hb)
      clear hb
      go_wp2_with fail
      go_ret
      exact ⟨rfl, HB.out.below⟩
    · have d2 : decide ((12 : Int) < (m : Int)) = false := decide_eq_false h2
      clear h2
      go_enter Try.func3, Try.ntmps3
      go_wp2_with fail
      obtain ⟨W0, hW0⟩ : ∃ W0, ((w.alloc (.cells #[.slice A n cap, .int .i64 off, .int .i64 lo, .int .i64 hi] 26)).alloc (.cells #[.int .i64 p, .bool u] 28)).alloc (.cells #[.int .i64 q, .bool v] 28) = W0 := ⟨_, rfl⟩
      rw [hW0] at K ⊢
      clear hW0
      obtain ⟨B, hB⟩ : ∃ B, w.heap.size = B := ⟨_, rfl⟩
      have K := Lib.hid (show Ky w B A n cap off lo hi p q u v ps C m ss W0 from by rw [← hB]; exact K.out)
      rw [hB]
      clear hB
      refine (fits14 A n cap off lo hi p q u v ps _ K.out.pcs Hn.out).mono ?_
      rintro e W1 ⟨rfl, hb⟩
      replace K := Lib.hid (K.out.next hb)
      clear hb
      obtain ⟨fr, hfr⟩ : ∃ fr, fitsR ⟨ps, off, ⟨lo, hi⟩⟩ ⟨p, u⟩ ⟨q, v⟩ = fr := ⟨_, rfl⟩
      rw [hfr]
      have Hfr := Lib.hid hfr
      clear hfr
      obtain ⟨f1, f2⟩ := fr
      obtain ⟨-, c0, c1, c2, c3, c4, c5, c6, c7⟩ := K.out.all
      go_wp2_with fail
      refine (fits15 A n cap off lo hi p q u v ps _ K.out.pcs Hn.out).mono ?_
      rintro e W2 ⟨rfl, hb⟩
      rw [Hfr.out]
      replace K := Lib.hid (K.out.next hb)
      clear hb c0 c1 c2 c3 c4 c5 c6 c7
      go_wp2_with fail
      have G2 := K.out.all
      clear K
      go_region_held3 (fun w' => Ky w B A n cap off lo hi p q u v ps C m ss w' ∧ w'.cell? ⟨B, 0, none⟩ = some (.slice A n cap) ∧ w'.cell? ⟨B, 1, none⟩ = some (.int .i64 off) ∧ w'.cell? ⟨B, 2, none⟩ = some (.int .i64 lo) ∧ w'.cell? ⟨B, 3, none⟩ = some (.int .i64 hi) ∧ w'.cell? ⟨B + 1, 0, none⟩ = some (.int .i64 p) ∧ w'.cell? ⟨B + 1, 1, none⟩ = some (.bool u) ∧ w'.cell? ⟨B + 1 + 1, 0, none⟩ = some (.int .i64 q) ∧ w'.cell? ⟨B + 1 + 1, 1, none⟩ = some (.bool v))
        (first | (go_split_ands; exact Ky.all (Ky.next (by assumption) (by assumption))) | (go_split_ands; exact Ky.all (Ky.next (drew_b _ _) (by assumption))))
        (first
          | (go_at_call 16; go_split_ands; refine (checkCyl16 A n cap off lo hi ps _ (Ky.pcs (by assumption)) Hn.out).mono ?_; rintro e w' ⟨rfl, hb⟩)
          | (go_at_call 17; go_split_ands; refine (checkCyl17 A n cap off lo hi ps _ (Ky.pcs (by assumption)) Hn.out).mono ?_; rintro e w' ⟨rfl, hb⟩)
          | (go_at_call 18; go_split_ands; refine (checkJoin18 A C n cap m cp off lo hi ps ss _ (Ky.pcs (by assumption)) (Ky.st (by assumption)) Hn.out Hm.out Hcp.out).mono ?_; rintro e w' ⟨rfl, hb⟩)
          | (go_at_call 19; go_split_ands; refine (checkJoin19 A C n cap m cp off lo hi ps ss _ (Ky.pcs (by assumption)) (Ky.st (by assumption)) Hn.out Hm.out).mono ?_; rintro e w' ⟨rfl, hb⟩)
          | (go_at_call 13; refine (works13 _).mono ?_; rintro e w' ⟨rfl, hb⟩))
      go_wp2
      go_ret
      have hfin : Ky w B A n cap off lo hi p q u v ps C m ss w' := And.left (by assumption)
      exact ⟨rfl, hfin.below⟩
end Go.Proofs.Ytfmcfalghbaanaa
