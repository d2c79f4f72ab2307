/- Stage 2: the walk of JoinShared. -/
import Derived.Test.YtfmcfalghbaanaaAlo
import Derived.Shelf.RegionOpen
import Derived.IntWalk
import Derived.Deep.RegionHeld3
namespace Go.Proofs.Ytfmcfalghbaanaa
set_option linter.unusedSimpArgs false
set_option linter.unusedVariables false
open Go.RowKit Go.Shelf
attribute [local go_sem] Oper.semAt_some

/-- What JoinShared holds in memory: the cylinder and the passages. -/
structure Ks (w : World) (B : Nat) (A : Option Addr) (n cap : Nat) (off lo hi : Int) (ps : List Pc) (C : Option Addr) (m : Nat) (l : List (Nat × Nat)) (W : World) : Prop where
  k : Kz w B A n cap off lo hi ps none 0 [] W
  p : Prs W C m l
section
variable {w : World} {B : Nat} {A : Option Addr} {n cap : Nat} {off lo hi : Int} {ps : List Pc} {C : Option Addr} {m : Nat} {l : List (Nat × Nat)} {W W' : World}
theorem Ks.next (hb : Below W.heap.size W W') (h : Ks w B A n cap off lo hi ps C m l W) : Ks w B A n cap off lo hi ps C m l W' :=
  ⟨h.k.next hb, h.p.below hb (Nat.le_refl _)⟩
theorem Ks.all (h : Ks w B A n cap off lo hi ps C m l W) : Ks w B A n cap off lo hi ps C m l W ∧
    W.cell? ⟨B, 0, none⟩ = some (.slice A n cap) ∧ W.cell? ⟨B, 1, none⟩ = some (.int .i64 off) ∧ W.cell? ⟨B, 2, none⟩ = some (.int .i64 lo) ∧ W.cell? ⟨B, 3, none⟩ = some (.int .i64 hi) :=
  ⟨h, h.k.c⟩
end

/-- The join at hand, too, and one step of it. -/
structure Kr (w : World) (B : Nat) (A : Option Addr) (n cap : Nat) (off lo hi : Int) (ps : List Pc) (C : Option Addr) (m : Nat) (l : List (Nat × Nat)) (b q : Nat) (sp : Int) (st : Bool) (W0 W : World) : Prop where
  k : Ks w B A n cap off lo hi ps C m l W
  h : Below W0.heap.size W0 W
  e0 : W.cell? ⟨b, q, none⟩ = some (.int .i64 sp)
  e1 : W.cell? ⟨b, q + 1, none⟩ = some (.bool st)
section
variable {w : World} {B : Nat} {A : Option Addr} {n cap : Nat} {off lo hi : Int} {ps : List Pc} {C : Option Addr} {m : Nat} {l : List (Nat × Nat)} {b q : Nat} {sp : Int} {st : Bool} {W0 W W' : World}
theorem Kr.next (hb : Below W.heap.size W W') (h : Kr w B A n cap off lo hi ps C m l b q sp st W0 W) : Kr w B A n cap off lo hi ps C m l b q sp st W0 W' :=
  ⟨h.k.next hb, h.h.trans (hb.mono h.h.size), (hb.cell (p := ⟨b, q, none⟩) (lt_of_cell h.e0)).trans h.e0, (hb.cell (p := ⟨b, q + 1, none⟩) (lt_of_cell h.e0)).trans h.e1⟩
theorem Kr.all (h : Kr w B A n cap off lo hi ps C m l b q sp st W0 W) : Kr w B A n cap off lo hi ps C m l b q sp st W0 W ∧
    W.cell? ⟨B, 0, none⟩ = some (.slice A n cap) ∧ W.cell? ⟨B, 1, none⟩ = some (.int .i64 off) ∧ W.cell? ⟨B, 2, none⟩ = some (.int .i64 lo) ∧ W.cell? ⟨B, 3, none⟩ = some (.int .i64 hi) ∧
    W.cell? ⟨b, q, none⟩ = some (.int .i64 sp) ∧ W.cell? ⟨b, q + 1, none⟩ = some (.bool st) :=
  ⟨h, h.k.k.c.1, h.k.k.c.2.1, h.k.k.c.2.2.1, h.k.k.c.2.2.2, h.e0, h.e1⟩
end
/-- Two steps that a round of JoinShared reads. -/
structure P2 (W0 : World) (b q r : Nat) (v0 v1 u0 u1 : Value) (W : World) : Prop where
  below : Below W0.heap.size W0 W
  lt : b < W0.heap.size
  e0 : W0.cell? ⟨b, q, none⟩ = some v0
  e1 : W0.cell? ⟨b, q + 1, none⟩ = some v1
  d0 : W0.cell? ⟨b, r, none⟩ = some u0
  d1 : W0.cell? ⟨b, r + 1, none⟩ = some u1
section
variable {W0 : World} {b q r : Nat} {v0 v1 u0 u1 : Value} {W W' : World}
theorem P2.next (hb : Below W.heap.size W W') (h : P2 W0 b q r v0 v1 u0 u1 W) : P2 W0 b q r v0 v1 u0 u1 W' :=
  ⟨h.below.trans (hb.mono h.below.size), h.lt, h.e0, h.e1, h.d0, h.d1⟩
theorem P2.all (h : P2 W0 b q r v0 v1 u0 u1 W) : P2 W0 b q r v0 v1 u0 u1 W ∧
    W.cell? ⟨b, q, none⟩ = some v0 ∧ W.cell? ⟨b, q + 1, none⟩ = some v1 ∧ W.cell? ⟨b, r, none⟩ = some u0 ∧ W.cell? ⟨b, r + 1, none⟩ = some u1 := by
  have k : ∀ j, W.cell? ⟨b, j, none⟩ = W0.cell? ⟨b, j, none⟩ := fun j => h.below.cell (p := ⟨b, j, none⟩) h.lt
  exact ⟨h, (k _).trans h.e0, (k _).trans h.e1, (k _).trans h.d0, (k _).trans h.d1⟩
end
/-- Do the first ones of all joins have a pair? -/
def allT (c : Cy) (x y m : Nat) : Bool := ((joinsC c).take m).all fun l => hasP l x y
theorem allT_succ {c : Cy} {x y m : Nat} (h : m < (joinsC c).length) : allT c x y (m + 1) = (allT c x y m && hasP (joinsC c)[m] x y) := by
  unfold allT
  rw [List.take_succ_eq_append_getElem h, List.all_append]
  simp
theorem allT_end {c : Cy} {x y : Nat} : allT c x y (joinsC c).length = sharedB (tabOf c) (codesL c.ps) c.ps.length x y := by
  unfold allT
  rw [List.take_length]
  rfl
/-- Is the next step the last one's, or among the first ones of a list? -/
def fndB (z n : Nat) (Q : List Nat) (t k : Nat) : Bool := decide (z + 1 = n) || (Q.take k).any (fun y => decide (y = t))
theorem fnd_succ {z n : Nat} {Q : List Nat} {t k : Nat} (h : k < Q.length) : fndB z n Q t (k + 1) = (fndB z n Q t k || decide (Q[k] = t)) := by
  unfold fndB
  rw [List.take_succ_eq_append_getElem h, List.any_append, Bool.or_assoc]
  simp
theorem fnd_end {c : Cy} {L : List Nat} (h : L ∈ joinsC c) {z n : Nat} (hn : L.length = n) (hz : z < L.length) : fndB z n (rivL c L[z]) (L.getD (min (z + 1) (n - 1)) 0) (rivL c L[z]).length = true := by
  unfold fndB
  rw [List.take_length, Bool.or_eq_true, decide_eq_true_eq, List.any_eq_true]
  by_cases h1 : z + 1 = n
  · exact .inl h1
  · refine .inr ⟨L[z + 1]'(by omega), riv_mem h (by omega), ?_⟩
    rw [Nat.min_eq_left (by omega)]
    simp [show z + 1 < L.length by omega]

/-- Two pairs that a round of JoinShared reads. -/
structure Pq (W0 : World) (b q r : Nat) (v0 v1 v2 v3 u0 u1 u2 u3 : Value) (W : World) : Prop where
  below : Below W0.heap.size W0 W
  lt : b < W0.heap.size
  e0 : W0.cell? ⟨b, q, none⟩ = some v0
  e1 : W0.cell? ⟨b, q + 1, none⟩ = some v1
  e2 : W0.cell? ⟨b, q + 2, none⟩ = some v2
  e3 : W0.cell? ⟨b, q + 3, none⟩ = some v3
  d0 : W0.cell? ⟨b, r, none⟩ = some u0
  d1 : W0.cell? ⟨b, r + 1, none⟩ = some u1
  d2 : W0.cell? ⟨b, r + 2, none⟩ = some u2
  d3 : W0.cell? ⟨b, r + 3, none⟩ = some u3
section
variable {W0 : World} {b q r : Nat} {v0 v1 v2 v3 u0 u1 u2 u3 : Value} {W W' : World}
theorem Pq.next (hb : Below W.heap.size W W') (h : Pq W0 b q r v0 v1 v2 v3 u0 u1 u2 u3 W) : Pq W0 b q r v0 v1 v2 v3 u0 u1 u2 u3 W' :=
  ⟨h.below.trans (hb.mono h.below.size), h.lt, h.e0, h.e1, h.e2, h.e3, h.d0, h.d1, h.d2, h.d3⟩
theorem Pq.all (h : Pq W0 b q r v0 v1 v2 v3 u0 u1 u2 u3 W) : Pq W0 b q r v0 v1 v2 v3 u0 u1 u2 u3 W ∧
    W.cell? ⟨b, q, none⟩ = some v0 ∧ W.cell? ⟨b, q + 1, none⟩ = some v1 ∧ W.cell? ⟨b, q + 2, none⟩ = some v2 ∧ W.cell? ⟨b, q + 3, none⟩ = some v3 ∧
    W.cell? ⟨b, r, none⟩ = some u0 ∧ W.cell? ⟨b, r + 1, none⟩ = some u1 ∧ W.cell? ⟨b, r + 2, none⟩ = some u2 ∧ W.cell? ⟨b, r + 3, none⟩ = some u3 := by
  have k : ∀ j, W.cell? ⟨b, j, none⟩ = W0.cell? ⟨b, j, none⟩ := fun j => h.below.cell (p := ⟨b, j, none⟩) h.lt
  exact ⟨h, (k _).trans h.e0, (k _).trans h.e1, (k _).trans h.e2, (k _).trans h.e3, (k _).trans h.d0, (k _).trans h.d1, (k _).trans h.d2, (k _).trans h.d3⟩
end

set_option maxRecDepth 100000 in
set_option maxHeartbeats 20000000 in
theorem shared8 (A : Option Addr) (n cap : Nat) (off lo hi : Int) (num pt : Nat) (ps : List Pc) (w : World) (h : Pcs w A n ps) (hn : n ≤ 9223372036854775807) (hnum : num ≤ 4294967295) (hpt : pt ≤ 255) :
    Calls Try.prog 8 #[cyl A n cap off lo hi, .int .u32 (num : Int), .int .u8 (pt : Int)] w fun e w' => e = .returned (.bool true) ∧ Below w.heap.size w w' := by
  have hk : Kz w w.heap.size A n cap off lo hi ps none 0 [] _ := Kz.new (cap := cap) (off := off) (lo := lo) (hi := hi) h ⟨rfl, by omega⟩
  have K := Lib.hid hk
  have Hn := Lib.hid hn
  have Hnum := Lib.hid hnum
  have Hpt := Lib.hid hpt
  clear h hn hk hnum hpt
  unfold cyl
  go_enter Try.func8, Try.ntmps8
  go_wp2_with fail
  generalize (w.alloc (.cells #[.slice A n cap, .int .i64 off, .int .i64 lo, .int .i64 hi] 26)) = W0 at K ⊢
  obtain ⟨B, hB⟩ : ∃ B, w.heap.size = B := ⟨_, rfl⟩
  replace K := Lib.hid (show Kz w B A n cap off lo hi ps none 0 [] W0 from by rw [← hB]; exact K.out)
  rw [hB]
  clear hB
  refine (fine35 A n cap off lo hi ps W0 K.out.pcs Hn.out).mono ?_
  rintro e W1 ⟨rfl, hb⟩
  replace K := Lib.hid (K.out.next hb)
  clear hb
  obtain ⟨f, hf⟩ : ∃ f, fineB ⟨ps, off, ⟨lo, hi⟩⟩ = f := ⟨_, rfl⟩
  rw [hf]
  have Hf := Lib.hid hf
  clear hf
  cases f with
  | false =>
    go_wp2_with fail
    refine (works13 _).mono ?_
    rintro e W2 ⟨rfl, hb⟩
    have HB := Lib.hid (K.out.next hb)
    clear hb
    go_wp2_with fail
    go_ret
    exact ⟨rfl, HB.out.below⟩
  | true =>
    have he : chkC ⟨ps, off, ⟨lo, hi⟩⟩ = 0 := by
      have := Hf.out
      unfold fineB at this
      simp only [Bool.and_eq_true, decide_eq_true_eq] at this
      exact this.2
    have He := Lib.hid he
    have H8 := Lib.hid (chkC_facts he)
    clear he
    obtain ⟨c0, c1, c2, c3⟩ := K.out.c
    go_wp2_with fail
    refine (count21 A n cap off lo hi ps _ K.out.pcs Hn.out).mono ?_
    rintro e W2 ⟨rfl, hb⟩
    rw [show countR ⟨ps, off, ⟨lo, hi⟩⟩ = (((joinsC ⟨ps, off, ⟨lo, hi⟩⟩).length : Int), 0) from by unfold countR; rw [if_neg (by rw [He.out]; simp)]; rfl]
    replace K := Lib.hid (K.out.next hb)
    clear hb c0 c1 c2 c3
    obtain ⟨N, hN⟩ : ∃ N, (joinsC ⟨ps, off, ⟨lo, hi⟩⟩).length = N := ⟨_, rfl⟩
    rw [hN]
    have HN := Lib.hid hN
    clear hN
    obtain ⟨c0, c1, c2, c3⟩ := K.out.c
    go_wp2_with fail
    refine (pass30 A n cap off lo hi ps _ K.out.pcs Hn.out).mono ?_
    rintro e W4 ⟨C2, m2, cp2, rfl, hcp2, hp2, hb⟩
    replace K := Lib.hid (K.out.next hb)
    clear hb c0 c1 c2 c3
    have dN : decide ((N : Int) < 0) = false := decide_eq_false (by omega)
    by_cases hN0 : N = 0
    · subst hN0
      have hpr : passR ⟨ps, off, ⟨lo, hi⟩⟩ = ([], 5) := by
        unfold passR
        rw [if_neg (by rw [He.out]; simp), HN.out, if_pos rfl]
      rw [hpr]
      clear hpr hp2 hcp2
      go_wp2_with fail
      refine (works13 _).mono ?_
      rintro e W5 ⟨rfl, hb⟩
      have HB := Lib.hid (K.out.next hb)
      clear hb
      go_wp2_with fail
      go_ret
      exact ⟨rfl, HB.out.below⟩
    · have hpr : passR ⟨ps, off, ⟨lo, hi⟩⟩ = (passL ⟨ps, off, ⟨lo, hi⟩⟩, 0) := by
        unfold passR
        rw [if_neg (by rw [He.out]; simp), HN.out, if_neg hN0]
      rw [hpr] at hp2 ⊢
      have P2 := Lib.hid hp2
      have Hpl := Lib.hid hp2.1
      have Hcp2 := Lib.hid hcp2
      clear hpr hp2 hcp2
      have hnum := Hnum.out
      obtain ⟨x, hx⟩ : ∃ x, num % N = x := ⟨_, rfl⟩
      have hxN : x < N := by rw [← hx]; exact Nat.mod_lt _ (by omega)
      have x1 : (num : Int) % (N : Int) = (x : Int) := by rw [← hx]; exact (Int.natCast_emod num N).symm
      have x2 : (num : Int).tmod (N : Int) = (x : Int) := by rw [Int.tmod_eq_emod_of_nonneg (by omega)]; exact x1
      have x3 : IntKind.i64.wrap (num : Int) = (num : Int) := IntWalk.i64_in _ ⟨by omega, by omega⟩
      have dN0 : ((N : Int) == 0) = false := by rw [beq_eq_false_iff_ne]; omega
      have hxj : x < (joinsC ⟨ps, off, ⟨lo, hi⟩⟩).length := by rw [HN.out]; exact hxN
      have np := Lib.hid (nth_at He.out hxj)
      obtain ⟨L, hL⟩ : ∃ L, (joinsC ⟨ps, off, ⟨lo, hi⟩⟩)[x] = L := ⟨_, rfl⟩
      have hmem : L ∈ joinsC ⟨ps, off, ⟨lo, hi⟩⟩ := by rw [← hL]; exact List.getElem_mem _
      rw [hL] at np
      have Hmem := Lib.hid hmem
      obtain ⟨j1, j2, j3, j4⟩ := join_way hmem
      have Hck := Lib.hid (ckJoin_of He.out hmem)
      have hlen : L.length = n := by have := K.out.pcs.1; rw [j1]; exact this
      have hn8 : 1 ≤ n ∧ n ≤ 8 := by have := H8.out; rw [← hlen, j1]; exact ⟨this.1, this.2.1⟩
      have hpm : m2 ≤ 256 := by
        have h1 := pass_sh hmem
        have h2 := shN_le ⟨ps, off, ⟨lo, hi⟩⟩ L (L.length - 1)
        rw [Hpl.out] at h1
        omega
      have Hlen := Lib.hid hlen
      have Hx := Lib.hid hx
      have HNx := Lib.hid (And.intro hxN hN0)
      have hKs : Ks w B A n cap off lo hi ps C2 m2 (passL ⟨ps, off, ⟨lo, hi⟩⟩) W4 := ⟨K.out, P2.out⟩
      obtain ⟨hKs, c0, c1, c2, c3⟩ := hKs.all
      clear hL hmem j1 j2 j3 j4 hlen hx hxj hxN K P2
      go_wp2_with fail
      go_region_held3 (fun w' => Ks w B A n cap off lo hi ps C2 m2 (passL ⟨ps, off, ⟨lo, hi⟩⟩) w' ∧ w'.cell? ⟨B, 0, none⟩ = some (.slice A n cap) ∧ w'.cell? ⟨B, 1, none⟩ = some (.int .i64 off) ∧ w'.cell? ⟨B, 2, none⟩ = some (.int .i64 lo) ∧ w'.cell? ⟨B, 3, none⟩ = some (.int .i64 hi))
        (first | (go_split_ands; exact Ks.all (Ks.next (by assumption) (by assumption))) | (go_split_ands; exact Ks.all (Ks.next (below_alloc_ _ _) (by assumption))) | (go_split_ands; exact Ks.all (Ks.next (drew_b _ _) (by assumption))))
        (first
          | (go_at_call 23; go_split_ands; ((show Calls Try.prog 23 #[cyl A n cap off lo hi, .int .i64 (x : Int)] _ _); with_reducible refine (nth23 A n cap off lo hi (x : Int) ps _ (Kz.pcs (Ks.k (by assumption))) Hn.out).mono ?_); rintro e w' ⟨C4, m4, rfl, hs4, hb⟩; rw [np.out] at hs4 ⊢))
      have hfin : Ks w B A n cap off lo hi ps C2 m2 (passL ⟨ps, off, ⟨lo, hi⟩⟩) w' := And.left (by assumption)
      have S1 := Lib.hid hs4
      have K := Lib.hid hfin
      obtain rfl : n = m4 := by rw [← hs4.1, List.length_map, Hlen.out]
      clear hfin hs4 hb hKs c0 c1 c2 c3 x1 x2 x3
      obtain ⟨c0, c1, c2, c3⟩ := K.out.k.c
      go_wp2_with fail
      refine (checkJoin19 A C4 n cap n n off lo hi ps (L.map stC) _ K.out.k.pcs S1.out Hn.out (by omega)).mono ?_
      rintro e W5 ⟨rfl, hb⟩
      rw [Hck.out]
      replace S1 := Lib.hid (S1.out.below hb (Nat.le_refl _))
      replace K := Lib.hid (K.out.next hb)
      clear hb c0 c1 c2 c3
      go_wp2_with fail
      go_loopw [13] (fun i wr => ∃ k : Nat, i = .int .i64 (k : Int) ∧ k ≤ m2 ∧ Ks w B A n cap off lo hi ps C2 m2 (passL ⟨ps, off, ⟨lo, hi⟩⟩) wr ∧ Sts wr C4 n (L.map stC)) (fun i _ => m2 - (intOf i).toNat)
      case atStart => exact ⟨0, by rfl, Nat.zero_le _, K.out, S1.out⟩
      case round =>
        clear K S1
        obtain ⟨k, rfl, hk, hK, hS⟩ := hrel
        have K := Lib.hid hK
        have S1 := Lib.hid hS
        clear hS
        by_cases hlt : k < m2
        · obtain ⟨b, o, rfl, hc⟩ := hK.p.2 (by omega)
          have hkl : k < (passL ⟨ps, off, ⟨lo, hi⟩⟩).length := by rw [Hpl.out]; exact hlt
          have hfl : ∀ i (hi2 : i < (passL ⟨ps, off, ⟨lo, hi⟩⟩).length), ∃ x y : Nat, (passL ⟨ps, off, ⟨lo, hi⟩⟩)[i].1 = x ∧ (passL ⟨ps, off, ⟨lo, hi⟩⟩)[i].2 = y ∧ wr.cell? ⟨b, o + i * 4, none⟩ = some (.int .i64 ((x / 2 : Nat) : Int)) ∧ wr.cell? ⟨b, o + i * 4 + 1, none⟩ = some (.bool (decide (x % 2 = 1))) ∧ wr.cell? ⟨b, o + i * 4 + 2, none⟩ = some (.int .i64 ((y / 2 : Nat) : Int)) ∧ wr.cell? ⟨b, o + i * 4 + 3, none⟩ = some (.bool (decide (y % 2 = 1))) := fun i hi2 => by
            obtain ⟨q0, q1, q2, q3⟩ := flatP_at (passL ⟨ps, off, ⟨lo, hi⟩⟩) i hi2
            have hi3 : i < m2 := by rw [← Hpl.out]; exact hi2
            exact ⟨_, _, rfl, rfl, (hc (i * 4) (by omega)).trans q0, (hc (i * 4 + 1) (by omega)).trans q1, (hc (i * 4 + 2) (by omega)).trans q2, (hc (i * 4 + 3) (by omega)).trans q3⟩
          have hh := pass_has Hmem.out hkl
          have i0 : (0 : Int) ≤ (k : Int) := by omega
          have i1 : (k : Int) < (m2 : Int) := by omega
          clear hc hK
          rcases Nat.eq_zero_or_pos k with hk0 | hk0
          · subst hk0
            obtain ⟨p1, p2, g1, g2, e0, e1, e2, e3⟩ := hfl 0 hkl
            rw [g1, g2] at hh
            unfold stC at hh
            rw [Nat.zero_mul, Nat.add_zero] at e0 e1 e2 e3
            generalize (p1 / 2 : Nat) = x0 at e0 hh
            generalize decide (p1 % 2 = 1) = x1 at e1 hh
            generalize (p2 / 2 : Nat) = x2 at e2 hh
            generalize decide (p2 % 2 = 1) = x3 at e3 hh
            have Hh := Lib.hid hh
            have G : Pq wr b o o (.int .i64 (x0 : Int)) (.bool x1) (.int .i64 (x2 : Int)) (.bool x3) (.int .i64 (x0 : Int)) (.bool x1) (.int .i64 (x2 : Int)) (.bool x3) wr := ⟨Below.refl _ _, lt_of_cell e0, e0, e1, e2, e3, e0, e1, e2, e3⟩
            obtain ⟨hG, e0, e1, e2, e3, d0, d1, d2, d3⟩ := G.all
            clear hh hfl g1 g2 hkl G
            go_wp2_with fail
            refine wp_region_held_drew (S := fun w2 => Pq wr b o o (.int .i64 (x0 : Int)) (.bool x1) (.int .i64 (x2 : Int)) (.bool x3) (.int .i64 (x0 : Int)) (.bool x1) (.int .i64 (x2 : Int)) (.bool x3) w2) (by kernel_rfl) (Pq.next (drew_b _ _) hG) (fun hS0 => ?_)
            refine wpAnyH_take (i := 0) (oi := { dst := some 80, op := Op.move (Operand.tmp 11), type := 29, pos := "outright.go:109", after := #[], guard := none }) (v := .slice C4 n n) rfl (by kernel_rfl) (by kernel_rfl) (by kernel_rfl) (fun _ _ _ h => h) (Or.inl ⟨by rfl, by intro w2 hSw; (try dsimp only at hSw); obtain ⟨hSw2, e0, e1, e2, e3, d0, d1, d2, d3⟩ := Pq.all hSw; go_simp⟩) hS0 ?_
            try simp only [Act.put, List.setIfInBounds_toArray, List.set_cons_zero, List.set_cons_succ]
            refine wpAnyH_take (i := 1) (oi := { dst := some 81, op := Op.move (Operand.tmp 9), type := 46, pos := "outright.go:109", after := #[], guard := none }) (v := .slice (some ⟨b, o, none⟩) m2 cp2) rfl (by kernel_rfl) (by kernel_rfl) (by kernel_rfl) (fun _ _ _ h => h) (Or.inl ⟨by rfl, by intro w2 hSw; (try dsimp only at hSw); obtain ⟨hSw2, e0, e1, e2, e3, d0, d1, d2, d3⟩ := Pq.all hSw; go_simp⟩) hS0 ?_
            try simp only [Act.put, List.setIfInBounds_toArray, List.set_cons_zero, List.set_cons_succ]
            refine wpAnyH_take (i := 2) (oi := { dst := some 82, op := Op.move (Operand.tmp 13), type := 3, pos := "outright.go:109", after := #[], guard := none }) (v := .int .i64 0) rfl (by kernel_rfl) (by kernel_rfl) (by kernel_rfl) (fun _ _ _ h => h) (Or.inl ⟨by rfl, by intro w2 hSw; (try dsimp only at hSw); obtain ⟨hSw2, e0, e1, e2, e3, d0, d1, d2, d3⟩ := Pq.all hSw; go_simp⟩) hS0 ?_
            try simp only [Act.put, List.setIfInBounds_toArray, List.set_cons_zero, List.set_cons_succ]
            refine wpAnyH_take (i := 3) (oi := { dst := some 83, op := Op.indexAddr 46 (Operand.tmp 81) (Operand.tmp 82), type := 0, pos := "outright.go:109", after := #[{ on := 1, ground := Ground.data }, { on := 2, ground := Ground.data }], guard := none }) (v := .pointer (some ⟨b, o, none⟩)) rfl (by kernel_rfl) (by kernel_rfl) (by kernel_rfl) (fun _ _ _ h => h) (Or.inl ⟨by rfl, by intro w2 hSw; (try dsimp only at hSw); obtain ⟨hSw2, e0, e1, e2, e3, d0, d1, d2, d3⟩ := Pq.all hSw; go_simp⟩) hS0 ?_
            try simp only [Act.put, List.setIfInBounds_toArray, List.set_cons_zero, List.set_cons_succ]
            refine wpAnyH_take (i := 4) (oi := { dst := some 84, op := Op.load 57 (Operand.tmp 83), type := 57, pos := "outright.go:109", after := #[{ on := 3, ground := Ground.data }], guard := none }) (v := .agg #[.int .i64 (x0 : Int), .bool x1, .int .i64 (x2 : Int), .bool x3]) rfl (by kernel_rfl) (by kernel_rfl) (by kernel_rfl) (fun _ _ _ h => h) (Or.inl ⟨by rfl, by intro w2 hSw; (try dsimp only at hSw); obtain ⟨hSw2, e0, e1, e2, e3, d0, d1, d2, d3⟩ := Pq.all hSw; go_simp⟩) hS0 ?_
            try simp only [Act.put, List.setIfInBounds_toArray, List.set_cons_zero, List.set_cons_succ]
            refine wpAnyH_ready (rs := [5]) (by kernel_rfl) (by simp) ?_
            refine AllReadyH.cons (o := { dst := some 85, op := Op.call { callee := Callee.value (Operand.func 37), args := #[Operand.tmp 80, Operand.tmp 84], argTypes := #[29, 57] }, type := 4, pos := "outright.go:109", after := #[{ on := 0, ground := Ground.data }, { on := 4, ground := Ground.data }], guard := none }) rfl (fun K hK => ?_) AllReadyH.nil
            go_simp
            refine (has37 C4 n n (L.map stC) (x0 : Int) (x2 : Int) x1 x3 _ (S1.out.below (Pq.below hS0) (Nat.le_refl _)) (by omega)).mono ?_
            rintro e w6 ⟨rfl, hb⟩
            rw [show hasB (L.map stC) ⟨(x0 : Int), x1⟩ ⟨(x2 : Int), x3⟩ = true from Hh.out]
            (try go_simp)
            refine hK.out _ _ (Pq.next hb hS0) (fun hS1 => ?_)
            clear hK K
            try simp only [Act.put, List.setIfInBounds_toArray, List.set_cons_zero, List.set_cons_succ]
            refine wpAnyH_take (i := 6) (oi := { dst := some 86, op := Op.unOp UnOp.not 4 (Operand.tmp 85), type := 4, pos := "outright.go:109", after := #[{ on := 5, ground := Ground.data }], guard := none }) (v := .bool false) rfl (by kernel_rfl) (by kernel_rfl) (by kernel_rfl) (fun _ _ _ h => h) (Or.inl ⟨by rfl, by intro w2 hSw; (try dsimp only at hSw); obtain ⟨hSw2, e0, e1, e2, e3, d0, d1, d2, d3⟩ := Pq.all hSw; go_simp⟩) hS1 ?_
            try simp only [Act.put, List.setIfInBounds_toArray, List.set_cons_zero, List.set_cons_succ]
            refine wpAnyH_take (i := 7) (oi := { dst := some 87, op := Op.move (Operand.tmp 86), type := 4, pos := "outright.go:109", after := #[{ on := 6, ground := Ground.data }, { on := 5, ground := Ground.chain }], guard := none }) (v := .bool false) rfl (by kernel_rfl) (by kernel_rfl) (by kernel_rfl) (fun _ _ _ h => h) (Or.inl ⟨by rfl, by intro w2 hSw; (try dsimp only at hSw); obtain ⟨hSw2, e0, e1, e2, e3, d0, d1, d2, d3⟩ := Pq.all hSw; go_simp⟩) hS1 ?_
            try simp only [Act.put, List.setIfInBounds_toArray, List.set_cons_zero, List.set_cons_succ]
            refine wpAnyH_take (i := 8) (oi := { dst := some 88, op := Op.move (Operand.tmp 13), type := 3, pos := "outright.go:109", after := #[{ on := 7, ground := Ground.guard }], guard := some (7, false) }) (v := .int .i64 0) rfl (by kernel_rfl) (by kernel_rfl) (by kernel_rfl) (fun _ _ _ h => h) (Or.inl ⟨by rfl, by intro w2 hSw; (try dsimp only at hSw); obtain ⟨hSw2, e0, e1, e2, e3, d0, d1, d2, d3⟩ := Pq.all hSw; go_simp⟩) hS1 ?_
            try simp only [Act.put, List.setIfInBounds_toArray, List.set_cons_zero, List.set_cons_succ]
            refine wpAnyH_take (i := 9) (oi := { dst := some 89, op := Op.binOp BinOp.gtr 3 (Operand.tmp 88) (Operand.const (Value.int IntKind.i64 0)) 3, type := 4, pos := "outright.go:109", after := #[{ on := 8, ground := Ground.data }, { on := 7, ground := Ground.guard }], guard := some (7, false) }) (v := .bool false) rfl (by kernel_rfl) (by kernel_rfl) (by kernel_rfl) (fun _ _ _ h => h) (Or.inl ⟨by rfl, by intro w2 hSw; (try dsimp only at hSw); obtain ⟨hSw2, e0, e1, e2, e3, d0, d1, d2, d3⟩ := Pq.all hSw; go_simp⟩) hS1 ?_
            try simp only [Act.put, List.setIfInBounds_toArray, List.set_cons_zero, List.set_cons_succ]
            refine wpAnyH_take (i := 10) (oi := { dst := some 90, op := Op.move (Operand.tmp 89), type := 4, pos := "outright.go:109", after := #[{ on := 9, ground := Ground.data }, { on := 7, ground := Ground.chain }, { on := 7, ground := Ground.guard }], guard := some (7, false) }) (v := .bool false) rfl (by kernel_rfl) (by kernel_rfl) (by kernel_rfl) (fun _ _ _ h => h) (Or.inl ⟨by rfl, by intro w2 hSw; (try dsimp only at hSw); obtain ⟨hSw2, e0, e1, e2, e3, d0, d1, d2, d3⟩ := Pq.all hSw; go_simp⟩) hS1 ?_
            try simp only [Act.put, List.setIfInBounds_toArray, List.set_cons_zero, List.set_cons_succ]
            refine wpAnyH_take (i := 11) (oi := { dst := some 91, op := Op.move (Operand.tmp 9), type := 46, pos := "outright.go:109", after := #[{ on := 10, ground := Ground.guard }], guard := some (10, true) }) (v := undef) rfl (by kernel_rfl) (by kernel_rfl) (by kernel_rfl) (fun _ _ _ h => h) (Or.inr ⟨by rfl, rfl⟩) hS1 ?_
            try simp only [Act.put, List.setIfInBounds_toArray, List.set_cons_zero, List.set_cons_succ]
            refine wpAnyH_take (i := 12) (oi := { dst := some 92, op := Op.move (Operand.tmp 13), type := 3, pos := "outright.go:109", after := #[{ on := 10, ground := Ground.guard }], guard := some (10, true) }) (v := undef) rfl (by kernel_rfl) (by kernel_rfl) (by kernel_rfl) (fun _ _ _ h => h) (Or.inr ⟨by rfl, rfl⟩) hS1 ?_
            try simp only [Act.put, List.setIfInBounds_toArray, List.set_cons_zero, List.set_cons_succ]
            refine wpAnyH_take (i := 13) (oi := { dst := some 93, op := Op.binOp BinOp.sub 3 (Operand.tmp 92) (Operand.const (Value.int IntKind.i64 1)) 3, type := 3, pos := "outright.go:109", after := #[{ on := 12, ground := Ground.data }, { on := 10, ground := Ground.guard }], guard := some (10, true) }) (v := undef) rfl (by kernel_rfl) (by kernel_rfl) (by kernel_rfl) (fun _ _ _ h => h) (Or.inr ⟨by rfl, rfl⟩) hS1 ?_
            try simp only [Act.put, List.setIfInBounds_toArray, List.set_cons_zero, List.set_cons_succ]
            refine wpAnyH_take (i := 14) (oi := { dst := some 94, op := Op.indexAddr 46 (Operand.tmp 91) (Operand.tmp 93), type := 0, pos := "outright.go:109", after := #[{ on := 11, ground := Ground.data }, { on := 13, ground := Ground.data }, { on := 10, ground := Ground.guard }], guard := some (10, true) }) (v := undef) rfl (by kernel_rfl) (by kernel_rfl) (by kernel_rfl) (fun _ _ _ h => h) (Or.inr ⟨by rfl, rfl⟩) hS1 ?_
            try simp only [Act.put, List.setIfInBounds_toArray, List.set_cons_zero, List.set_cons_succ]
            refine wpAnyH_take (i := 15) (oi := { dst := some 95, op := Op.load 57 (Operand.tmp 94), type := 57, pos := "outright.go:109", after := #[{ on := 14, ground := Ground.data }, { on := 10, ground := Ground.guard }], guard := some (10, true) }) (v := undef) rfl (by kernel_rfl) (by kernel_rfl) (by kernel_rfl) (fun _ _ _ h => h) (Or.inr ⟨by rfl, rfl⟩) hS1 ?_
            try simp only [Act.put, List.setIfInBounds_toArray, List.set_cons_zero, List.set_cons_succ]
            refine wpAnyH_take (i := 16) (oi := { dst := some 96, op := Op.move (Operand.tmp 9), type := 46, pos := "outright.go:109", after := #[{ on := 10, ground := Ground.guard }], guard := some (10, true) }) (v := undef) rfl (by kernel_rfl) (by kernel_rfl) (by kernel_rfl) (fun _ _ _ h => h) (Or.inr ⟨by rfl, rfl⟩) hS1 ?_
            try simp only [Act.put, List.setIfInBounds_toArray, List.set_cons_zero, List.set_cons_succ]
            refine wpAnyH_take (i := 17) (oi := { dst := some 97, op := Op.move (Operand.tmp 13), type := 3, pos := "outright.go:109", after := #[{ on := 10, ground := Ground.guard }], guard := some (10, true) }) (v := undef) rfl (by kernel_rfl) (by kernel_rfl) (by kernel_rfl) (fun _ _ _ h => h) (Or.inr ⟨by rfl, rfl⟩) hS1 ?_
            try simp only [Act.put, List.setIfInBounds_toArray, List.set_cons_zero, List.set_cons_succ]
            refine wpAnyH_take (i := 18) (oi := { dst := some 98, op := Op.indexAddr 46 (Operand.tmp 96) (Operand.tmp 97), type := 0, pos := "outright.go:109", after := #[{ on := 16, ground := Ground.data }, { on := 17, ground := Ground.data }, { on := 10, ground := Ground.guard }], guard := some (10, true) }) (v := undef) rfl (by kernel_rfl) (by kernel_rfl) (by kernel_rfl) (fun _ _ _ h => h) (Or.inr ⟨by rfl, rfl⟩) hS1 ?_
            try simp only [Act.put, List.setIfInBounds_toArray, List.set_cons_zero, List.set_cons_succ]
            refine wpAnyH_take (i := 19) (oi := { dst := some 99, op := Op.load 57 (Operand.tmp 98), type := 57, pos := "outright.go:109", after := #[{ on := 18, ground := Ground.data }, { on := 10, ground := Ground.guard }], guard := some (10, true) }) (v := undef) rfl (by kernel_rfl) (by kernel_rfl) (by kernel_rfl) (fun _ _ _ h => h) (Or.inr ⟨by rfl, rfl⟩) hS1 ?_
            try simp only [Act.put, List.setIfInBounds_toArray, List.set_cons_zero, List.set_cons_succ]
            refine wpAnyH_take (i := 20) (oi := { dst := some 100, op := Op.call { callee := Callee.value (Operand.func 38), args := #[Operand.tmp 95, Operand.tmp 99], argTypes := #[57, 57] }, type := 4, pos := "outright.go:109", after := #[{ on := 15, ground := Ground.data }, { on := 19, ground := Ground.data }, { on := 10, ground := Ground.chain }, { on := 10, ground := Ground.guard }], guard := some (10, true) }) (v := undef) rfl (by kernel_rfl) (by kernel_rfl) (by kernel_rfl) (fun _ _ _ h => h) (Or.inr ⟨by rfl, rfl⟩) hS1 ?_
            try simp only [Act.put, List.setIfInBounds_toArray, List.set_cons_zero, List.set_cons_succ]
            refine wpAnyH_take (i := 21) (oi := { dst := some 101, op := Op.unOp UnOp.not 4 (Operand.tmp 100), type := 4, pos := "outright.go:109", after := #[{ on := 20, ground := Ground.data }, { on := 10, ground := Ground.guard }], guard := some (10, true) }) (v := undef) rfl (by kernel_rfl) (by kernel_rfl) (by kernel_rfl) (fun _ _ _ h => h) (Or.inr ⟨by rfl, rfl⟩) hS1 ?_
            try simp only [Act.put, List.setIfInBounds_toArray, List.set_cons_zero, List.set_cons_succ]
            refine wpAnyH_take (i := 22) (oi := { dst := some 102, op := Op.pick (Operand.tmp 90) (Operand.tmp 101) (Operand.const (Value.bool false)), type := 4, pos := "outright.go:109", after := #[{ on := 10, ground := Ground.data }, { on := 21, ground := Ground.data }, { on := 7, ground := Ground.guard }], guard := some (7, false) }) (v := .bool false) rfl (by kernel_rfl) (by kernel_rfl) (by kernel_rfl) (fun _ _ _ h => h) (Or.inl ⟨by rfl, by intro w2 hSw; (try dsimp only at hSw); obtain ⟨hSw2, e0, e1, e2, e3, d0, d1, d2, d3⟩ := Pq.all hSw; go_simp⟩) hS1 ?_
            try simp only [Act.put, List.setIfInBounds_toArray, List.set_cons_zero, List.set_cons_succ]
            refine wpAnyH_take (i := 23) (oi := { dst := some 103, op := Op.pick (Operand.tmp 87) (Operand.const (Value.bool true)) (Operand.tmp 102), type := 4, pos := "outright.go:109", after := #[{ on := 7, ground := Ground.data }, { on := 22, ground := Ground.data }], guard := none }) (v := .bool false) rfl (by kernel_rfl) (by kernel_rfl) (by kernel_rfl) (fun _ _ _ h => h) (Or.inl ⟨by rfl, by intro w2 hSw; (try dsimp only at hSw); obtain ⟨hSw2, e0, e1, e2, e3, d0, d1, d2, d3⟩ := Pq.all hSw; go_simp⟩) hS1 ?_
            try simp only [Act.put, List.setIfInBounds_toArray, List.set_cons_zero, List.set_cons_succ]
            refine wpAnyH_done (by kernel_rfl) ?_ _
            have HF := Lib.hid hS1.below
            clear hS1 hS0 hG e0 e1 e2 e3 d0 d1 d2 d3 hb
            go_wp2_with fail
            go_roundw
            case rel => exact ⟨0 + 1, by go_num, by omega, K.out.next HF.out, S1.out.below HF.out (Nat.le_refl _)⟩
            case measure => simp [intOf]; omega
          · obtain ⟨j, hj⟩ : ∃ j, k = j + 1 := ⟨k - 1, by omega⟩
            have hbf := pass_bef (c := ⟨ps, off, ⟨lo, hi⟩⟩) (i := j) (by rw [← hj]; exact hkl)
            obtain ⟨p1, p2, g1, g2, e0, e1, e2, e3⟩ := hfl k hkl
            obtain ⟨q1, q2, f1, f2, d0, d1, d2, d3⟩ := hfl j (by omega)
            have hbf2 : bef2B (stC q1) (stC q2) (stC p1) (stC p2) = true := by
              rw [← g1, ← g2, ← f1, ← f2]
              simp only [hj]
              exact hbf
            rw [g1, g2] at hh
            unfold stC at hh hbf2
            generalize (p1 / 2 : Nat) = x0 at e0 hh hbf2
            generalize decide (p1 % 2 = 1) = x1 at e1 hh hbf2
            generalize (p2 / 2 : Nat) = x2 at e2 hh hbf2
            generalize decide (p2 % 2 = 1) = x3 at e3 hh hbf2
            generalize (q1 / 2 : Nat) = y0 at d0 hbf2
            generalize decide (q1 % 2 = 1) = y1 at d1 hbf2
            generalize (q2 / 2 : Nat) = y2 at d2 hbf2
            generalize decide (q2 % 2 = 1) = y3 at d3 hbf2
            have Hh := Lib.hid hh
            have Hbf := Lib.hid hbf2
            have G : Pq wr b (o + k * 4) (o + j * 4) (.int .i64 (x0 : Int)) (.bool x1) (.int .i64 (x2 : Int)) (.bool x3) (.int .i64 (y0 : Int)) (.bool y1) (.int .i64 (y2 : Int)) (.bool y3) wr := ⟨Below.refl _ _, lt_of_cell e0, e0, e1, e2, e3, d0, d1, d2, d3⟩
            have HG := Lib.hid G
            have Hj := Lib.hid hj
            obtain ⟨hG, e0, e1, e2, e3, d0, d1, d2, d3⟩ := G.all
            have i2 : (0 : Int) ≤ (j : Int) := by omega
            have i3 : (j : Int) < (m2 : Int) := by omega
            have i4 : (0 : Int) < (k : Int) := by omega
            have i5 : 0 < k := hk0
            have i6 : IntKind.i64.wrap (j : Int) = (j : Int) := IntWalk.i64_in _ ⟨by omega, by omega⟩
            have i7 : (k : Int) - 1 = (j : Int) := by omega
            clear hh hbf hbf2 hfl g1 g2 f1 f2 hkl hj G
            go_wp2_with fail
            go_region_held3 (fun w' => Pq wr b (o + k * 4) (o + j * 4) (.int .i64 (x0 : Int)) (.bool x1) (.int .i64 (x2 : Int)) (.bool x3) (.int .i64 (y0 : Int)) (.bool y1) (.int .i64 (y2 : Int)) (.bool y3) w' ∧ w'.cell? ⟨b, o + k * 4, none⟩ = some (.int .i64 (x0 : Int)) ∧ w'.cell? ⟨b, o + k * 4 + 1, none⟩ = some (.bool x1) ∧ w'.cell? ⟨b, o + k * 4 + 2, none⟩ = some (.int .i64 (x2 : Int)) ∧ w'.cell? ⟨b, o + k * 4 + 3, none⟩ = some (.bool x3) ∧ w'.cell? ⟨b, o + j * 4, none⟩ = some (.int .i64 (y0 : Int)) ∧ w'.cell? ⟨b, o + j * 4 + 1, none⟩ = some (.bool y1) ∧ w'.cell? ⟨b, o + j * 4 + 2, none⟩ = some (.int .i64 (y2 : Int)) ∧ w'.cell? ⟨b, o + j * 4 + 3, none⟩ = some (.bool y3))
              (first | (go_split_ands; exact Pq.all (Pq.next (by assumption) (by assumption))) | (go_split_ands; exact Pq.all (Pq.next (below_alloc_ _ _) (by assumption))) | (go_split_ands; exact Pq.all (Pq.next (drew_b _ _) (by assumption))))
              (first
                | (go_at_call 37; go_split_ands; ((with_reducible refine (has37 C4 n n (L.map stC) (x0 : Int) (x2 : Int) x1 x3 _ (S1.out.below (Pq.below (by assumption)) (Nat.le_refl _)) (by omega)).mono ?_); rintro e w' ⟨rfl, hb⟩; rw [show hasB (L.map stC) ⟨(x0 : Int), x1⟩ ⟨(x2 : Int), x3⟩ = true from Hh.out]))
                | (go_at_call 38; go_split_ands; ((with_reducible refine (before38 (y0 : Int) (y2 : Int) (x0 : Int) (x2 : Int) y1 y3 x1 x3 _).mono ?_); rintro e w' ⟨rfl, hb⟩; rw [show bef2B ⟨(y0 : Int), y1⟩ ⟨(y2 : Int), y3⟩ ⟨(x0 : Int), x1⟩ ⟨(x2 : Int), x3⟩ = true from Hbf.out])))
            have hfin : Pq wr b (o + k * 4) (o + j * 4) (.int .i64 (x0 : Int)) (.bool x1) (.int .i64 (x2 : Int)) (.bool x3) (.int .i64 (y0 : Int)) (.bool y1) (.int .i64 (y2 : Int)) (.bool y3) w' := And.left (by assumption)
            have HF := Lib.hid hfin.below
            clear hfin hG e0 e1 e2 e3 d0 d1 d2 d3 hb i2 i3 i4 i5 i6 i7
            go_wp2_with fail
            go_roundw
            case rel => exact ⟨k + 1, by go_num, by omega, K.out.next HF.out, S1.out.below HF.out (Nat.le_refl _)⟩
            case measure => simp [intOf]; omega
        · have i1 : ¬ (k : Int) < (m2 : Int) := by omega
          obtain ⟨z, hz⟩ : ∃ z, pt % n = z := ⟨_, rfl⟩
          have hzn : z < n := by rw [← hz]; exact Nat.mod_lt _ (by omega)
          have hpt := Hpt.out
          have x1 : (pt : Int) % (n : Int) = (z : Int) := by rw [← hz]; exact (Int.natCast_emod pt n).symm
          have dn0 : ((n : Int) == 0) = false := by rw [beq_eq_false_iff_ne]; omega
          have dn1 : ¬ n = 0 := by omega
          have hzL : z < L.length := by rw [Hlen.out]; exact hzn
          obtain ⟨b, o, rfl, hc⟩ := S1.out.2 (by omega)
          obtain ⟨e0, e1⟩ := hc z hzn
          rw [sAt_map hzL] at e0 e1
          have hriv := riv_in He.out Hmem.out (x := L[z]) (List.getElem_mem hzL)
          obtain ⟨q, hq⟩ : ∃ q, stC L[z] = q := ⟨_, rfl⟩
          rw [hq] at e0 e1 hriv
          obtain ⟨sp, st⟩ := q
          simp only at e0 e1
          have i2 : (0 : Int) ≤ (z : Int) := by omega
          have i3 : (z : Int) < (n : Int) := by omega
          have Hz := Lib.hid hz
          have Hriv := Lib.hid hriv
          have Hq := Lib.hid hq
          have G : Kr w B A n cap off lo hi ps C2 m2 (passL ⟨ps, off, ⟨lo, hi⟩⟩) b (o + z * 2) sp st wr wr := ⟨K.out, Below.refl _ _, e0, e1⟩
          obtain ⟨hG, c0, c1, c2, c3, e0, e1⟩ := G.all
          clear hc hz hriv hq G hk hK
          go_wp2_with fail
          clear x1 dn0 dn1
          go_region_held3 (fun w' => Kr w B A n cap off lo hi ps C2 m2 (passL ⟨ps, off, ⟨lo, hi⟩⟩) b (o + z * 2) sp st wr w' ∧ w'.cell? ⟨B, 0, none⟩ = some (.slice A n cap) ∧ w'.cell? ⟨B, 1, none⟩ = some (.int .i64 off) ∧ w'.cell? ⟨B, 2, none⟩ = some (.int .i64 lo) ∧ w'.cell? ⟨B, 3, none⟩ = some (.int .i64 hi) ∧ w'.cell? ⟨b, o + z * 2, none⟩ = some (.int .i64 sp) ∧ w'.cell? ⟨b, o + z * 2 + 1, none⟩ = some (.bool st))
            (first | (go_split_ands; exact Kr.all (Kr.next (by assumption) (by assumption))) | (go_split_ands; exact Kr.all (Kr.next (below_alloc_ _ _) (by assumption))) | (go_split_ands; exact Kr.all (Kr.next (drew_b _ _) (by assumption))))
            (first
              | (go_at_call 32; go_split_ands; ((show Calls Try.prog 32 #[cyl A n cap off lo hi, .agg #[.int .i64 sp, .bool st]] _ _); with_reducible refine (riv32 A n cap off lo hi sp st ps _ (Kz.pcs (Ks.k (Kr.k (by assumption)))) Hn.out).mono ?_); rintro e w' ⟨C3, m3, cp3, rfl, hcp3, hs3, hb⟩; rw [Hriv.out] at hs3 ⊢))
          have hfin : Kr w B A n cap off lo hi ps C2 m2 (passL ⟨ps, off, ⟨lo, hi⟩⟩) b (o + z * 2) sp st wr w' := And.left (by assumption)
          have S1' := Lib.hid (S1.out.below hfin.h (Nat.le_refl _))
          have K' := Lib.hid hfin.k
          obtain ⟨Q, hQ⟩ : ∃ Q, rivL ⟨ps, off, ⟨lo, hi⟩⟩ L[z] = Q := ⟨_, rfl⟩
          rw [hQ] at hs3
          have S3 := Lib.hid hs3
          have hQl : Q.length = m3 := by rw [← hs3.1, List.length_map]
          have hQ16 : m3 ≤ 16 := by
            rw [← hQl, ← hQ]
            unfold rivL
            refine Nat.le_trans (List.length_filter_le _ _) (Nat.le_trans (codes_len_ ps ps.length) ?_)
            have : ps.length ≤ 8 := H8.out.2.1
            omega
          have HQ := Lib.hid hQ
          have HQl := Lib.hid hQl
          have Hcp3 := Lib.hid hcp3
          clear hfin hs3 hcp3 hG c0 c1 c2 c3 e0 e1 hb S1 K hQ hQl
          obtain ⟨t, ht⟩ : ∃ t, L.getD (min (z + 1) (n - 1)) 0 = t := ⟨_, rfl⟩
          have hfe := fnd_end Hmem.out Hlen.out hzL
          rw [HQ.out, ht, HQl.out] at hfe
          have Hfe := Lib.hid hfe
          clear hfe
          have hf0 : fndB z n Q t 0 = (((z : Int) + 1) == (n : Int)) := by
            unfold fndB
            rw [Bool.eq_iff_iff]
            simp
            omega
          obtain ⟨f0, hf0'⟩ : ∃ f0, (((z : Int) + 1) == (n : Int)) = f0 := ⟨_, rfl⟩
          rw [hf0'] at hf0
          have Hf0 := Lib.hid hf0
          clear hf0
          go_wp2_with fail
          clear hf0'
          go_loopw [17, 18] (fun v i wr => ∃ k : Nat, i = .int .i64 (k : Int) ∧ k ≤ m3 ∧ v = .bool (fndB z n Q t k) ∧ Ks w B A n cap off lo hi ps C2 m2 (passL ⟨ps, off, ⟨lo, hi⟩⟩) wr ∧ Sts wr (some ⟨b, o, none⟩) n (L.map stC) ∧ Sts wr C3 m3 (Q.map stC)) (fun _ i _ => m3 - (intOf i).toNat)
          case atStart => exact ⟨0, by rfl, Nat.zero_le _, by rw [Hf0.out], K'.out, S1'.out, S3.out⟩
          case round =>
            clear K' S1' S3
            obtain ⟨k, rfl, hk, rfl, hK, hS1, hS3⟩ := hrel
            have K := Lib.hid hK
            have S1 := Lib.hid hS1
            have S3 := Lib.hid hS3
            clear hK
            by_cases hlt : k < m3
            · obtain ⟨b2, o2, rfl, hc2⟩ := hS3.2 (by omega)
              obtain ⟨b', o', e', hc⟩ := hS1.2 (by omega)
              obtain ⟨rfl, rfl⟩ : b = b' ∧ o = o' := by cases e'; exact ⟨rfl, rfl⟩
              have hkQ : k < Q.length := by rw [HQl.out]; exact hlt
              obtain ⟨r, hr⟩ : ∃ r, min (z + 1) (n - 1) = r := ⟨_, rfl⟩
              have hrn : r < n := by omega
              have hrL : r < L.length := by rw [Hlen.out]; exact hrn
              obtain ⟨e0, e1⟩ := hc r hrn
              obtain ⟨d0, d1⟩ := hc2 k hlt
              rw [sAt_map hrL] at e0 e1
              rw [sAt_map hkQ] at d0 d1
              have htr : t = L[r] := by rw [← ht, hr]; simp [hrL]
              have hfs := fnd_succ (z := z) (n := n) (t := t) hkQ
              have hst : decide (Q[k] = t) = decide (stC Q[k] = stC L[r]) := by
                rw [decide_eq_decide, htr]
                exact ⟨fun e => by rw [e], stC_inj⟩
              rw [hst] at hfs
              obtain ⟨u, hu⟩ : ∃ u, stC L[r] = u := ⟨_, rfl⟩
              obtain ⟨v, hv⟩ : ∃ v, stC Q[k] = v := ⟨_, rfl⟩
              rw [hu] at e0 e1 hfs
              rw [hv] at d0 d1 hfs
              obtain ⟨up, ut⟩ := u
              obtain ⟨vp, vt⟩ := v
              simp only at e0 e1 d0 d1
              obtain ⟨fk, hfk⟩ : ∃ fk, fndB z n Q t k = fk := ⟨_, rfl⟩
              rw [hfk] at hfs ⊢
              have Hfs := Lib.hid hfs
              have i0 : (0 : Int) ≤ (k : Int) := by omega
              have i1 : (k : Int) < (m3 : Int) := by omega
              have i5 : (0 : Int) ≤ (r : Int) := by omega
              have i6 : (r : Int) < (n : Int) := by omega
              have HX := Lib.hid (show ∀ q, Ks w B A n cap off lo hi ps C2 m2 (passL ⟨ps, off, ⟨lo, hi⟩⟩) (wr.drewN q) ∧ Sts (wr.drewN q) (some ⟨b, o, none⟩) n (L.map stC) ∧ Sts (wr.drewN q) (some ⟨b2, o2, none⟩) m3 (Q.map stC) from fun q => ⟨Ks.next (drew_b wr q) K.out, S1.out.below (drew_b wr q) (Nat.le_refl _), S3.out.below (drew_b wr q) (Nat.le_refl _)⟩)
              have hrr : min ((z : Int) + 1) ((n : Int) - 1) = (r : Int) := by omega
              have HfK := Lib.hid hfk
              clear hc hc2 hS1 hS3 hkQ hrL htr hfs hst hu hv hfk
              cases fk with
              | true =>
                have HfT := Lib.hid (show fndB z n Q t (k + 1) = true by rw [Hfs.out]; rfl)
                go_wp2_with fail
                refine wp_region_held_drew (S := fun w2 => Below wr.heap.size wr w2) (by kernel_rfl) (drew_b _ _) (fun hS0 => ?_)
                refine wpAnyH_take (i := 0) (oi := { dst := some 131, op := Op.move (Operand.tmp 17), type := 4, pos := "outright.go:120", after := #[], guard := none }) (v := .bool true) rfl (by kernel_rfl) (by kernel_rfl) (by kernel_rfl) (fun _ _ _ h => h) (Or.inl ⟨by rfl, by intro w2 hSw; (try dsimp only at hSw); go_simp⟩) hS0 ?_
                try simp only [Act.put, List.setIfInBounds_toArray, List.set_cons_zero, List.set_cons_succ]
                refine wpAnyH_take (i := 1) (oi := { dst := some 132, op := Op.move (Operand.tmp 131), type := 4, pos := "outright.go:120", after := #[{ on := 0, ground := Ground.data }], guard := none }) (v := .bool true) rfl (by kernel_rfl) (by kernel_rfl) (by kernel_rfl) (fun _ _ _ h => h) (Or.inl ⟨by rfl, by intro w2 hSw; (try dsimp only at hSw); go_simp⟩) hS0 ?_
                try simp only [Act.put, List.setIfInBounds_toArray, List.set_cons_zero, List.set_cons_succ]
                refine wpAnyH_take (i := 2) (oi := { dst := some 133, op := Op.move (Operand.tmp 15), type := 29, pos := "outright.go:120", after := #[{ on := 1, ground := Ground.guard }], guard := some (1, false) }) (v := undef) rfl (by kernel_rfl) (by kernel_rfl) (by kernel_rfl) (fun _ _ _ h => h) (Or.inr ⟨by rfl, rfl⟩) hS0 ?_
                try simp only [Act.put, List.setIfInBounds_toArray, List.set_cons_zero, List.set_cons_succ]
                refine wpAnyH_take (i := 3) (oi := { dst := some 134, op := Op.move (Operand.tmp 18), type := 3, pos := "outright.go:120", after := #[{ on := 1, ground := Ground.guard }], guard := some (1, false) }) (v := undef) rfl (by kernel_rfl) (by kernel_rfl) (by kernel_rfl) (fun _ _ _ h => h) (Or.inr ⟨by rfl, rfl⟩) hS0 ?_
                try simp only [Act.put, List.setIfInBounds_toArray, List.set_cons_zero, List.set_cons_succ]
                refine wpAnyH_take (i := 4) (oi := { dst := some 135, op := Op.indexAddr 29 (Operand.tmp 133) (Operand.tmp 134), type := 0, pos := "outright.go:120", after := #[{ on := 2, ground := Ground.data }, { on := 3, ground := Ground.data }, { on := 1, ground := Ground.guard }], guard := some (1, false) }) (v := undef) rfl (by kernel_rfl) (by kernel_rfl) (by kernel_rfl) (fun _ _ _ h => h) (Or.inr ⟨by rfl, rfl⟩) hS0 ?_
                try simp only [Act.put, List.setIfInBounds_toArray, List.set_cons_zero, List.set_cons_succ]
                refine wpAnyH_take (i := 5) (oi := { dst := some 136, op := Op.load 28 (Operand.tmp 135), type := 28, pos := "outright.go:120", after := #[{ on := 4, ground := Ground.data }, { on := 1, ground := Ground.guard }], guard := some (1, false) }) (v := undef) rfl (by kernel_rfl) (by kernel_rfl) (by kernel_rfl) (fun _ _ _ h => h) (Or.inr ⟨by rfl, rfl⟩) hS0 ?_
                try simp only [Act.put, List.setIfInBounds_toArray, List.set_cons_zero, List.set_cons_succ]
                refine wpAnyH_take (i := 6) (oi := { dst := some 137, op := Op.move (Operand.tmp 11), type := 29, pos := "outright.go:120", after := #[{ on := 1, ground := Ground.guard }], guard := some (1, false) }) (v := undef) rfl (by kernel_rfl) (by kernel_rfl) (by kernel_rfl) (fun _ _ _ h => h) (Or.inr ⟨by rfl, rfl⟩) hS0 ?_
                try simp only [Act.put, List.setIfInBounds_toArray, List.set_cons_zero, List.set_cons_succ]
                refine wpAnyH_take (i := 7) (oi := { dst := some 138, op := Op.move (Operand.tmp 14), type := 3, pos := "outright.go:120", after := #[{ on := 1, ground := Ground.guard }], guard := some (1, false) }) (v := undef) rfl (by kernel_rfl) (by kernel_rfl) (by kernel_rfl) (fun _ _ _ h => h) (Or.inr ⟨by rfl, rfl⟩) hS0 ?_
                try simp only [Act.put, List.setIfInBounds_toArray, List.set_cons_zero, List.set_cons_succ]
                refine wpAnyH_take (i := 8) (oi := { dst := some 139, op := Op.binOp BinOp.add 3 (Operand.tmp 138) (Operand.const (Value.int IntKind.i64 1)) 3, type := 3, pos := "outright.go:120", after := #[{ on := 7, ground := Ground.data }, { on := 1, ground := Ground.guard }], guard := some (1, false) }) (v := undef) rfl (by kernel_rfl) (by kernel_rfl) (by kernel_rfl) (fun _ _ _ h => h) (Or.inr ⟨by rfl, rfl⟩) hS0 ?_
                try simp only [Act.put, List.setIfInBounds_toArray, List.set_cons_zero, List.set_cons_succ]
                refine wpAnyH_take (i := 9) (oi := { dst := some 140, op := Op.move (Operand.tmp 11), type := 29, pos := "outright.go:120", after := #[{ on := 1, ground := Ground.guard }], guard := some (1, false) }) (v := undef) rfl (by kernel_rfl) (by kernel_rfl) (by kernel_rfl) (fun _ _ _ h => h) (Or.inr ⟨by rfl, rfl⟩) hS0 ?_
                try simp only [Act.put, List.setIfInBounds_toArray, List.set_cons_zero, List.set_cons_succ]
                refine wpAnyH_take (i := 10) (oi := { dst := some 141, op := Op.call { callee := Callee.builtin Builtin.len, args := #[Operand.tmp 140], argTypes := #[29] }, type := 3, pos := "outright.go:120", after := #[{ on := 9, ground := Ground.data }, { on := 1, ground := Ground.guard }], guard := some (1, false) }) (v := undef) rfl (by kernel_rfl) (by kernel_rfl) (by kernel_rfl) (fun _ _ _ h => h) (Or.inr ⟨by rfl, rfl⟩) hS0 ?_
                try simp only [Act.put, List.setIfInBounds_toArray, List.set_cons_zero, List.set_cons_succ]
                refine wpAnyH_take (i := 11) (oi := { dst := some 142, op := Op.binOp BinOp.sub 3 (Operand.tmp 141) (Operand.const (Value.int IntKind.i64 1)) 3, type := 3, pos := "outright.go:120", after := #[{ on := 10, ground := Ground.data }, { on := 1, ground := Ground.guard }], guard := some (1, false) }) (v := undef) rfl (by kernel_rfl) (by kernel_rfl) (by kernel_rfl) (fun _ _ _ h => h) (Or.inr ⟨by rfl, rfl⟩) hS0 ?_
                try simp only [Act.put, List.setIfInBounds_toArray, List.set_cons_zero, List.set_cons_succ]
                refine wpAnyH_take (i := 12) (oi := { dst := some 143, op := Op.call { callee := Callee.builtin Builtin.min, args := #[Operand.tmp 139, Operand.tmp 142], argTypes := #[3, 3] }, type := 3, pos := "outright.go:120", after := #[{ on := 8, ground := Ground.data }, { on := 11, ground := Ground.data }, { on := 1, ground := Ground.guard }], guard := some (1, false) }) (v := undef) rfl (by kernel_rfl) (by kernel_rfl) (by kernel_rfl) (fun _ _ _ h => h) (Or.inr ⟨by rfl, rfl⟩) hS0 ?_
                try simp only [Act.put, List.setIfInBounds_toArray, List.set_cons_zero, List.set_cons_succ]
                refine wpAnyH_take (i := 13) (oi := { dst := some 144, op := Op.indexAddr 29 (Operand.tmp 137) (Operand.tmp 143), type := 0, pos := "outright.go:120", after := #[{ on := 6, ground := Ground.data }, { on := 12, ground := Ground.data }, { on := 1, ground := Ground.guard }], guard := some (1, false) }) (v := undef) rfl (by kernel_rfl) (by kernel_rfl) (by kernel_rfl) (fun _ _ _ h => h) (Or.inr ⟨by rfl, rfl⟩) hS0 ?_
                try simp only [Act.put, List.setIfInBounds_toArray, List.set_cons_zero, List.set_cons_succ]
                refine wpAnyH_take (i := 14) (oi := { dst := some 145, op := Op.load 28 (Operand.tmp 144), type := 28, pos := "outright.go:120", after := #[{ on := 13, ground := Ground.data }, { on := 1, ground := Ground.guard }], guard := some (1, false) }) (v := undef) rfl (by kernel_rfl) (by kernel_rfl) (by kernel_rfl) (fun _ _ _ h => h) (Or.inr ⟨by rfl, rfl⟩) hS0 ?_
                try simp only [Act.put, List.setIfInBounds_toArray, List.set_cons_zero, List.set_cons_succ]
                refine wpAnyH_take (i := 15) (oi := { dst := some 146, op := Op.binOp BinOp.eql 28 (Operand.tmp 136) (Operand.tmp 145) 28, type := 4, pos := "outright.go:120", after := #[{ on := 5, ground := Ground.data }, { on := 14, ground := Ground.data }, { on := 1, ground := Ground.guard }], guard := some (1, false) }) (v := undef) rfl (by kernel_rfl) (by kernel_rfl) (by kernel_rfl) (fun _ _ _ h => h) (Or.inr ⟨by rfl, rfl⟩) hS0 ?_
                try simp only [Act.put, List.setIfInBounds_toArray, List.set_cons_zero, List.set_cons_succ]
                refine wpAnyH_take (i := 16) (oi := { dst := some 147, op := Op.pick (Operand.tmp 132) (Operand.const (Value.bool true)) (Operand.tmp 146), type := 4, pos := "outright.go:120", after := #[{ on := 1, ground := Ground.data }, { on := 15, ground := Ground.data }], guard := none }) (v := .bool true) rfl (by kernel_rfl) (by kernel_rfl) (by kernel_rfl) (fun _ _ _ h => h) (Or.inl ⟨by rfl, by intro w2 hSw; (try dsimp only at hSw); go_simp⟩) hS0 ?_
                try simp only [Act.put, List.setIfInBounds_toArray, List.set_cons_zero, List.set_cons_succ]
                refine wpAnyH_take (i := 17) (oi := { dst := some 17, op := Op.assign (Operand.tmp 147), type := 4, pos := "outright.go:120", after := #[{ on := 16, ground := Ground.data }, { on := 1, ground := Ground.chain }, { on := 0, ground := Ground.phase }, { on := 1, ground := Ground.phase }, { on := 2, ground := Ground.phase }, { on := 3, ground := Ground.phase }, { on := 4, ground := Ground.phase }, { on := 5, ground := Ground.phase }, { on := 6, ground := Ground.phase }, { on := 7, ground := Ground.phase }, { on := 8, ground := Ground.phase }, { on := 9, ground := Ground.phase }, { on := 10, ground := Ground.phase }, { on := 11, ground := Ground.phase }, { on := 12, ground := Ground.phase }, { on := 13, ground := Ground.phase }, { on := 14, ground := Ground.phase }, { on := 15, ground := Ground.phase }, { on := 16, ground := Ground.phase }], guard := none }) (v := .bool true) rfl (by kernel_rfl) (by kernel_rfl) (by kernel_rfl) (fun _ _ _ h => h) (Or.inl ⟨by rfl, by intro w2 hSw; (try dsimp only at hSw); go_simp⟩) hS0 ?_
                try simp only [Act.put, List.setIfInBounds_toArray, List.set_cons_zero, List.set_cons_succ]
                refine wpAnyH_done (by kernel_rfl) ?_ _
                have HX2 := Lib.hid (And.intro (Ks.next hS0 K.out) (And.intro (S1.out.below hS0 (Nat.le_refl _)) (S3.out.below hS0 (Nat.le_refl _))))
                clear hS0 e0 e1 d0 d1 i0 i1 i5 i6 hrr
                go_wp2_with fail
                go_roundw
                case rel => exact ⟨k + 1, by go_num, by omega, by rw [HfT.out], HX2.out⟩
                case measure => simp [intOf]; omega
              | false =>
                have hz1 : ¬ z + 1 = n := by
                  have := HfK.out
                  unfold fndB at this
                  rw [Bool.or_eq_false_iff] at this
                  exact of_decide_eq_false this.1
                have hrz : r = z + 1 := by omega
                subst hrz
                have p1 : ((z : Int) + 1).toNat = z + 1 := by omega
                have p2 : IntKind.i64.wrap ((z : Int) + 1) = (z : Int) + 1 := IntWalk.i64_in _ ⟨by omega, by omega⟩
                have p4 : IntKind.i64.wrap ((n : Int) - 1) = (n : Int) - 1 := IntWalk.i64_in _ ⟨by omega, by omega⟩
                have p5 : (z : Int) + 1 ≤ (n : Int) - 1 := by omega
                have p6 : ¬ (n : Int) - 1 < (z : Int) + 1 := by omega
                have p7 : (0 : Int) ≤ (z : Int) + 1 := by omega
                have p8 : (z : Int) + 1 < (n : Int) := by omega
                clear hz1 hr HfK
                by_cases hp : vp = up
                · by_cases hu : vt = ut
                  · subst hp
                    subst hu
                    have HfT := Lib.hid (show fndB z n Q t (k + 1) = true by rw [Hfs.out]; simp)
                    skip
                    go_wp2_with fail
                    refine wp_region_held_drew (S := fun w2 => Below wr.heap.size wr w2) (by kernel_rfl) (drew_b _ _) (fun hS0 => ?_)
                    refine wpAnyH_take (i := 0) (oi := { dst := some 131, op := Op.move (Operand.tmp 17), type := 4, pos := "outright.go:120", after := #[], guard := none }) (v := .bool false) rfl (by kernel_rfl) (by kernel_rfl) (by kernel_rfl) (fun _ _ _ h => h) (Or.inl ⟨by rfl, by intro w2 hSw; (try dsimp only at hSw); have e0 := (hSw.cell (p := ⟨b, o + (z + 1) * 2, none⟩) (lt_of_cell e0)).trans e0; have e1 := (hSw.cell (p := ⟨b, o + (z + 1) * 2 + 1, none⟩) (lt_of_cell e1)).trans e1; have d0 := (hSw.cell (p := ⟨b2, o2 + k * 2, none⟩) (lt_of_cell d0)).trans d0; have d1 := (hSw.cell (p := ⟨b2, o2 + k * 2 + 1, none⟩) (lt_of_cell d1)).trans d1; go_simp; (try (intro hx9; omega))⟩) hS0 ?_
                    try simp only [Act.put, List.setIfInBounds_toArray, List.set_cons_zero, List.set_cons_succ]
                    refine wpAnyH_take (i := 1) (oi := { dst := some 132, op := Op.move (Operand.tmp 131), type := 4, pos := "outright.go:120", after := #[{ on := 0, ground := Ground.data }], guard := none }) (v := .bool false) rfl (by kernel_rfl) (by kernel_rfl) (by kernel_rfl) (fun _ _ _ h => h) (Or.inl ⟨by rfl, by intro w2 hSw; (try dsimp only at hSw); have e0 := (hSw.cell (p := ⟨b, o + (z + 1) * 2, none⟩) (lt_of_cell e0)).trans e0; have e1 := (hSw.cell (p := ⟨b, o + (z + 1) * 2 + 1, none⟩) (lt_of_cell e1)).trans e1; have d0 := (hSw.cell (p := ⟨b2, o2 + k * 2, none⟩) (lt_of_cell d0)).trans d0; have d1 := (hSw.cell (p := ⟨b2, o2 + k * 2 + 1, none⟩) (lt_of_cell d1)).trans d1; go_simp; (try (intro hx9; omega))⟩) hS0 ?_
                    try simp only [Act.put, List.setIfInBounds_toArray, List.set_cons_zero, List.set_cons_succ]
                    refine wpAnyH_take (i := 2) (oi := { dst := some 133, op := Op.move (Operand.tmp 15), type := 29, pos := "outright.go:120", after := #[{ on := 1, ground := Ground.guard }], guard := some (1, false) }) (v := .slice (some ⟨b2, o2, none⟩) m3 cp3) rfl (by kernel_rfl) (by kernel_rfl) (by kernel_rfl) (fun _ _ _ h => h) (Or.inl ⟨by rfl, by intro w2 hSw; (try dsimp only at hSw); have e0 := (hSw.cell (p := ⟨b, o + (z + 1) * 2, none⟩) (lt_of_cell e0)).trans e0; have e1 := (hSw.cell (p := ⟨b, o + (z + 1) * 2 + 1, none⟩) (lt_of_cell e1)).trans e1; have d0 := (hSw.cell (p := ⟨b2, o2 + k * 2, none⟩) (lt_of_cell d0)).trans d0; have d1 := (hSw.cell (p := ⟨b2, o2 + k * 2 + 1, none⟩) (lt_of_cell d1)).trans d1; go_simp; (try (intro hx9; omega))⟩) hS0 ?_
                    try simp only [Act.put, List.setIfInBounds_toArray, List.set_cons_zero, List.set_cons_succ]
                    refine wpAnyH_take (i := 3) (oi := { dst := some 134, op := Op.move (Operand.tmp 18), type := 3, pos := "outright.go:120", after := #[{ on := 1, ground := Ground.guard }], guard := some (1, false) }) (v := .int .i64 (k : Int)) rfl (by kernel_rfl) (by kernel_rfl) (by kernel_rfl) (fun _ _ _ h => h) (Or.inl ⟨by rfl, by intro w2 hSw; (try dsimp only at hSw); have e0 := (hSw.cell (p := ⟨b, o + (z + 1) * 2, none⟩) (lt_of_cell e0)).trans e0; have e1 := (hSw.cell (p := ⟨b, o + (z + 1) * 2 + 1, none⟩) (lt_of_cell e1)).trans e1; have d0 := (hSw.cell (p := ⟨b2, o2 + k * 2, none⟩) (lt_of_cell d0)).trans d0; have d1 := (hSw.cell (p := ⟨b2, o2 + k * 2 + 1, none⟩) (lt_of_cell d1)).trans d1; go_simp; (try (intro hx9; omega))⟩) hS0 ?_
                    try simp only [Act.put, List.setIfInBounds_toArray, List.set_cons_zero, List.set_cons_succ]
                    refine wpAnyH_take (i := 4) (oi := { dst := some 135, op := Op.indexAddr 29 (Operand.tmp 133) (Operand.tmp 134), type := 0, pos := "outright.go:120", after := #[{ on := 2, ground := Ground.data }, { on := 3, ground := Ground.data }, { on := 1, ground := Ground.guard }], guard := some (1, false) }) (v := .pointer (some ⟨b2, o2 + k * 2, none⟩)) rfl (by kernel_rfl) (by kernel_rfl) (by kernel_rfl) (fun _ _ _ h => h) (Or.inl ⟨by rfl, by intro w2 hSw; (try dsimp only at hSw); have e0 := (hSw.cell (p := ⟨b, o + (z + 1) * 2, none⟩) (lt_of_cell e0)).trans e0; have e1 := (hSw.cell (p := ⟨b, o + (z + 1) * 2 + 1, none⟩) (lt_of_cell e1)).trans e1; have d0 := (hSw.cell (p := ⟨b2, o2 + k * 2, none⟩) (lt_of_cell d0)).trans d0; have d1 := (hSw.cell (p := ⟨b2, o2 + k * 2 + 1, none⟩) (lt_of_cell d1)).trans d1; go_simp; (try (intro hx9; omega))⟩) hS0 ?_
                    try simp only [Act.put, List.setIfInBounds_toArray, List.set_cons_zero, List.set_cons_succ]
                    refine wpAnyH_take (i := 5) (oi := { dst := some 136, op := Op.load 28 (Operand.tmp 135), type := 28, pos := "outright.go:120", after := #[{ on := 4, ground := Ground.data }, { on := 1, ground := Ground.guard }], guard := some (1, false) }) (v := .agg #[.int .i64 vp, .bool vt]) rfl (by kernel_rfl) (by kernel_rfl) (by kernel_rfl) (fun _ _ _ h => h) (Or.inl ⟨by rfl, by intro w2 hSw; (try dsimp only at hSw); have e0 := (hSw.cell (p := ⟨b, o + (z + 1) * 2, none⟩) (lt_of_cell e0)).trans e0; have e1 := (hSw.cell (p := ⟨b, o + (z + 1) * 2 + 1, none⟩) (lt_of_cell e1)).trans e1; have d0 := (hSw.cell (p := ⟨b2, o2 + k * 2, none⟩) (lt_of_cell d0)).trans d0; have d1 := (hSw.cell (p := ⟨b2, o2 + k * 2 + 1, none⟩) (lt_of_cell d1)).trans d1; go_simp; (try (intro hx9; omega))⟩) hS0 ?_
                    try simp only [Act.put, List.setIfInBounds_toArray, List.set_cons_zero, List.set_cons_succ]
                    refine wpAnyH_take (i := 6) (oi := { dst := some 137, op := Op.move (Operand.tmp 11), type := 29, pos := "outright.go:120", after := #[{ on := 1, ground := Ground.guard }], guard := some (1, false) }) (v := .slice (some ⟨b, o, none⟩) n n) rfl (by kernel_rfl) (by kernel_rfl) (by kernel_rfl) (fun _ _ _ h => h) (Or.inl ⟨by rfl, by intro w2 hSw; (try dsimp only at hSw); have e0 := (hSw.cell (p := ⟨b, o + (z + 1) * 2, none⟩) (lt_of_cell e0)).trans e0; have e1 := (hSw.cell (p := ⟨b, o + (z + 1) * 2 + 1, none⟩) (lt_of_cell e1)).trans e1; have d0 := (hSw.cell (p := ⟨b2, o2 + k * 2, none⟩) (lt_of_cell d0)).trans d0; have d1 := (hSw.cell (p := ⟨b2, o2 + k * 2 + 1, none⟩) (lt_of_cell d1)).trans d1; go_simp; (try (intro hx9; omega))⟩) hS0 ?_
                    try simp only [Act.put, List.setIfInBounds_toArray, List.set_cons_zero, List.set_cons_succ]
                    refine wpAnyH_take (i := 7) (oi := { dst := some 138, op := Op.move (Operand.tmp 14), type := 3, pos := "outright.go:120", after := #[{ on := 1, ground := Ground.guard }], guard := some (1, false) }) (v := .int .i64 (z : Int)) rfl (by kernel_rfl) (by kernel_rfl) (by kernel_rfl) (fun _ _ _ h => h) (Or.inl ⟨by rfl, by intro w2 hSw; (try dsimp only at hSw); have e0 := (hSw.cell (p := ⟨b, o + (z + 1) * 2, none⟩) (lt_of_cell e0)).trans e0; have e1 := (hSw.cell (p := ⟨b, o + (z + 1) * 2 + 1, none⟩) (lt_of_cell e1)).trans e1; have d0 := (hSw.cell (p := ⟨b2, o2 + k * 2, none⟩) (lt_of_cell d0)).trans d0; have d1 := (hSw.cell (p := ⟨b2, o2 + k * 2 + 1, none⟩) (lt_of_cell d1)).trans d1; go_simp; (try (intro hx9; omega))⟩) hS0 ?_
                    try simp only [Act.put, List.setIfInBounds_toArray, List.set_cons_zero, List.set_cons_succ]
                    refine wpAnyH_take (i := 8) (oi := { dst := some 139, op := Op.binOp BinOp.add 3 (Operand.tmp 138) (Operand.const (Value.int IntKind.i64 1)) 3, type := 3, pos := "outright.go:120", after := #[{ on := 7, ground := Ground.data }, { on := 1, ground := Ground.guard }], guard := some (1, false) }) (v := .int .i64 ((z : Int) + 1)) rfl (by kernel_rfl) (by kernel_rfl) (by kernel_rfl) (fun _ _ _ h => h) (Or.inl ⟨by rfl, by intro w2 hSw; (try dsimp only at hSw); have e0 := (hSw.cell (p := ⟨b, o + (z + 1) * 2, none⟩) (lt_of_cell e0)).trans e0; have e1 := (hSw.cell (p := ⟨b, o + (z + 1) * 2 + 1, none⟩) (lt_of_cell e1)).trans e1; have d0 := (hSw.cell (p := ⟨b2, o2 + k * 2, none⟩) (lt_of_cell d0)).trans d0; have d1 := (hSw.cell (p := ⟨b2, o2 + k * 2 + 1, none⟩) (lt_of_cell d1)).trans d1; go_simp; (try (intro hx9; omega))⟩) hS0 ?_
                    try simp only [Act.put, List.setIfInBounds_toArray, List.set_cons_zero, List.set_cons_succ]
                    refine wpAnyH_take (i := 9) (oi := { dst := some 140, op := Op.move (Operand.tmp 11), type := 29, pos := "outright.go:120", after := #[{ on := 1, ground := Ground.guard }], guard := some (1, false) }) (v := .slice (some ⟨b, o, none⟩) n n) rfl (by kernel_rfl) (by kernel_rfl) (by kernel_rfl) (fun _ _ _ h => h) (Or.inl ⟨by rfl, by intro w2 hSw; (try dsimp only at hSw); have e0 := (hSw.cell (p := ⟨b, o + (z + 1) * 2, none⟩) (lt_of_cell e0)).trans e0; have e1 := (hSw.cell (p := ⟨b, o + (z + 1) * 2 + 1, none⟩) (lt_of_cell e1)).trans e1; have d0 := (hSw.cell (p := ⟨b2, o2 + k * 2, none⟩) (lt_of_cell d0)).trans d0; have d1 := (hSw.cell (p := ⟨b2, o2 + k * 2 + 1, none⟩) (lt_of_cell d1)).trans d1; go_simp; (try (intro hx9; omega))⟩) hS0 ?_
                    try simp only [Act.put, List.setIfInBounds_toArray, List.set_cons_zero, List.set_cons_succ]
                    refine wpAnyH_take (i := 10) (oi := { dst := some 141, op := Op.call { callee := Callee.builtin Builtin.len, args := #[Operand.tmp 140], argTypes := #[29] }, type := 3, pos := "outright.go:120", after := #[{ on := 9, ground := Ground.data }, { on := 1, ground := Ground.guard }], guard := some (1, false) }) (v := .int .i64 (n : Int)) rfl (by kernel_rfl) (by kernel_rfl) (by kernel_rfl) (fun _ _ _ h => h) (Or.inl ⟨by rfl, by intro w2 hSw; (try dsimp only at hSw); have e0 := (hSw.cell (p := ⟨b, o + (z + 1) * 2, none⟩) (lt_of_cell e0)).trans e0; have e1 := (hSw.cell (p := ⟨b, o + (z + 1) * 2 + 1, none⟩) (lt_of_cell e1)).trans e1; have d0 := (hSw.cell (p := ⟨b2, o2 + k * 2, none⟩) (lt_of_cell d0)).trans d0; have d1 := (hSw.cell (p := ⟨b2, o2 + k * 2 + 1, none⟩) (lt_of_cell d1)).trans d1; go_simp; (try (intro hx9; omega))⟩) hS0 ?_
                    try simp only [Act.put, List.setIfInBounds_toArray, List.set_cons_zero, List.set_cons_succ]
                    refine wpAnyH_take (i := 11) (oi := { dst := some 142, op := Op.binOp BinOp.sub 3 (Operand.tmp 141) (Operand.const (Value.int IntKind.i64 1)) 3, type := 3, pos := "outright.go:120", after := #[{ on := 10, ground := Ground.data }, { on := 1, ground := Ground.guard }], guard := some (1, false) }) (v := .int .i64 ((n : Int) - 1)) rfl (by kernel_rfl) (by kernel_rfl) (by kernel_rfl) (fun _ _ _ h => h) (Or.inl ⟨by rfl, by intro w2 hSw; (try dsimp only at hSw); have e0 := (hSw.cell (p := ⟨b, o + (z + 1) * 2, none⟩) (lt_of_cell e0)).trans e0; have e1 := (hSw.cell (p := ⟨b, o + (z + 1) * 2 + 1, none⟩) (lt_of_cell e1)).trans e1; have d0 := (hSw.cell (p := ⟨b2, o2 + k * 2, none⟩) (lt_of_cell d0)).trans d0; have d1 := (hSw.cell (p := ⟨b2, o2 + k * 2 + 1, none⟩) (lt_of_cell d1)).trans d1; go_simp; (try (intro hx9; omega))⟩) hS0 ?_
                    try simp only [Act.put, List.setIfInBounds_toArray, List.set_cons_zero, List.set_cons_succ]
                    refine wpAnyH_take (i := 12) (oi := { dst := some 143, op := Op.call { callee := Callee.builtin Builtin.min, args := #[Operand.tmp 139, Operand.tmp 142], argTypes := #[3, 3] }, type := 3, pos := "outright.go:120", after := #[{ on := 8, ground := Ground.data }, { on := 11, ground := Ground.data }, { on := 1, ground := Ground.guard }], guard := some (1, false) }) (v := .int .i64 ((z : Int) + 1)) rfl (by kernel_rfl) (by kernel_rfl) (by kernel_rfl) (fun _ _ _ h => h) (Or.inl ⟨by rfl, by intro w2 hSw; (try dsimp only at hSw); have e0 := (hSw.cell (p := ⟨b, o + (z + 1) * 2, none⟩) (lt_of_cell e0)).trans e0; have e1 := (hSw.cell (p := ⟨b, o + (z + 1) * 2 + 1, none⟩) (lt_of_cell e1)).trans e1; have d0 := (hSw.cell (p := ⟨b2, o2 + k * 2, none⟩) (lt_of_cell d0)).trans d0; have d1 := (hSw.cell (p := ⟨b2, o2 + k * 2 + 1, none⟩) (lt_of_cell d1)).trans d1; go_simp; (try (intro hx9; omega))⟩) hS0 ?_
                    try simp only [Act.put, List.setIfInBounds_toArray, List.set_cons_zero, List.set_cons_succ]
                    refine wpAnyH_take (i := 13) (oi := { dst := some 144, op := Op.indexAddr 29 (Operand.tmp 137) (Operand.tmp 143), type := 0, pos := "outright.go:120", after := #[{ on := 6, ground := Ground.data }, { on := 12, ground := Ground.data }, { on := 1, ground := Ground.guard }], guard := some (1, false) }) (v := .pointer (some ⟨b, o + (z + 1) * 2, none⟩)) rfl (by kernel_rfl) (by kernel_rfl) (by kernel_rfl) (fun _ _ _ h => h) (Or.inl ⟨by rfl, by intro w2 hSw; (try dsimp only at hSw); have e0 := (hSw.cell (p := ⟨b, o + (z + 1) * 2, none⟩) (lt_of_cell e0)).trans e0; have e1 := (hSw.cell (p := ⟨b, o + (z + 1) * 2 + 1, none⟩) (lt_of_cell e1)).trans e1; have d0 := (hSw.cell (p := ⟨b2, o2 + k * 2, none⟩) (lt_of_cell d0)).trans d0; have d1 := (hSw.cell (p := ⟨b2, o2 + k * 2 + 1, none⟩) (lt_of_cell d1)).trans d1; go_simp; (try (intro hx9; omega))⟩) hS0 ?_
                    try simp only [Act.put, List.setIfInBounds_toArray, List.set_cons_zero, List.set_cons_succ]
                    refine wpAnyH_take (i := 14) (oi := { dst := some 145, op := Op.load 28 (Operand.tmp 144), type := 28, pos := "outright.go:120", after := #[{ on := 13, ground := Ground.data }, { on := 1, ground := Ground.guard }], guard := some (1, false) }) (v := .agg #[.int .i64 vp, .bool vt]) rfl (by kernel_rfl) (by kernel_rfl) (by kernel_rfl) (fun _ _ _ h => h) (Or.inl ⟨by rfl, by intro w2 hSw; (try dsimp only at hSw); have e0 := (hSw.cell (p := ⟨b, o + (z + 1) * 2, none⟩) (lt_of_cell e0)).trans e0; have e1 := (hSw.cell (p := ⟨b, o + (z + 1) * 2 + 1, none⟩) (lt_of_cell e1)).trans e1; have d0 := (hSw.cell (p := ⟨b2, o2 + k * 2, none⟩) (lt_of_cell d0)).trans d0; have d1 := (hSw.cell (p := ⟨b2, o2 + k * 2 + 1, none⟩) (lt_of_cell d1)).trans d1; go_simp; (try (intro hx9; omega))⟩) hS0 ?_
                    try simp only [Act.put, List.setIfInBounds_toArray, List.set_cons_zero, List.set_cons_succ]
                    refine wpAnyH_take (i := 15) (oi := { dst := some 146, op := Op.binOp BinOp.eql 28 (Operand.tmp 136) (Operand.tmp 145) 28, type := 4, pos := "outright.go:120", after := #[{ on := 5, ground := Ground.data }, { on := 14, ground := Ground.data }, { on := 1, ground := Ground.guard }], guard := some (1, false) }) (v := .bool true) rfl (by kernel_rfl) (by kernel_rfl) (by kernel_rfl) (fun _ _ _ h => h) (Or.inl ⟨by rfl, by intro w2 hSw; (try dsimp only at hSw); have e0 := (hSw.cell (p := ⟨b, o + (z + 1) * 2, none⟩) (lt_of_cell e0)).trans e0; have e1 := (hSw.cell (p := ⟨b, o + (z + 1) * 2 + 1, none⟩) (lt_of_cell e1)).trans e1; have d0 := (hSw.cell (p := ⟨b2, o2 + k * 2, none⟩) (lt_of_cell d0)).trans d0; have d1 := (hSw.cell (p := ⟨b2, o2 + k * 2 + 1, none⟩) (lt_of_cell d1)).trans d1; go_simp; (try (intro hx9; omega))⟩) hS0 ?_
                    try simp only [Act.put, List.setIfInBounds_toArray, List.set_cons_zero, List.set_cons_succ]
                    refine wpAnyH_take (i := 16) (oi := { dst := some 147, op := Op.pick (Operand.tmp 132) (Operand.const (Value.bool true)) (Operand.tmp 146), type := 4, pos := "outright.go:120", after := #[{ on := 1, ground := Ground.data }, { on := 15, ground := Ground.data }], guard := none }) (v := .bool true) rfl (by kernel_rfl) (by kernel_rfl) (by kernel_rfl) (fun _ _ _ h => h) (Or.inl ⟨by rfl, by intro w2 hSw; (try dsimp only at hSw); have e0 := (hSw.cell (p := ⟨b, o + (z + 1) * 2, none⟩) (lt_of_cell e0)).trans e0; have e1 := (hSw.cell (p := ⟨b, o + (z + 1) * 2 + 1, none⟩) (lt_of_cell e1)).trans e1; have d0 := (hSw.cell (p := ⟨b2, o2 + k * 2, none⟩) (lt_of_cell d0)).trans d0; have d1 := (hSw.cell (p := ⟨b2, o2 + k * 2 + 1, none⟩) (lt_of_cell d1)).trans d1; go_simp; (try (intro hx9; omega))⟩) hS0 ?_
                    try simp only [Act.put, List.setIfInBounds_toArray, List.set_cons_zero, List.set_cons_succ]
                    refine wpAnyH_take (i := 17) (oi := { dst := some 17, op := Op.assign (Operand.tmp 147), type := 4, pos := "outright.go:120", after := #[{ on := 16, ground := Ground.data }, { on := 1, ground := Ground.chain }, { on := 0, ground := Ground.phase }, { on := 1, ground := Ground.phase }, { on := 2, ground := Ground.phase }, { on := 3, ground := Ground.phase }, { on := 4, ground := Ground.phase }, { on := 5, ground := Ground.phase }, { on := 6, ground := Ground.phase }, { on := 7, ground := Ground.phase }, { on := 8, ground := Ground.phase }, { on := 9, ground := Ground.phase }, { on := 10, ground := Ground.phase }, { on := 11, ground := Ground.phase }, { on := 12, ground := Ground.phase }, { on := 13, ground := Ground.phase }, { on := 14, ground := Ground.phase }, { on := 15, ground := Ground.phase }, { on := 16, ground := Ground.phase }], guard := none }) (v := .bool true) rfl (by kernel_rfl) (by kernel_rfl) (by kernel_rfl) (fun _ _ _ h => h) (Or.inl ⟨by rfl, by intro w2 hSw; (try dsimp only at hSw); have e0 := (hSw.cell (p := ⟨b, o + (z + 1) * 2, none⟩) (lt_of_cell e0)).trans e0; have e1 := (hSw.cell (p := ⟨b, o + (z + 1) * 2 + 1, none⟩) (lt_of_cell e1)).trans e1; have d0 := (hSw.cell (p := ⟨b2, o2 + k * 2, none⟩) (lt_of_cell d0)).trans d0; have d1 := (hSw.cell (p := ⟨b2, o2 + k * 2 + 1, none⟩) (lt_of_cell d1)).trans d1; go_simp; (try (intro hx9; omega))⟩) hS0 ?_
                    try simp only [Act.put, List.setIfInBounds_toArray, List.set_cons_zero, List.set_cons_succ]
                    refine wpAnyH_done (by kernel_rfl) ?_ _
                    have HX2 := Lib.hid (And.intro (Ks.next hS0 K.out) (And.intro (S1.out.below hS0 (Nat.le_refl _)) (S3.out.below hS0 (Nat.le_refl _))))
                    clear hS0 e0 e1 d0 d1 i0 i1 i5 i6 hrr p1 p2 p4 p5 p6 p7 p8
                    go_wp2_with fail
                    go_roundw
                    case rel => exact ⟨k + 1, by go_num, by omega, by rw [HfT.out], HX2.out⟩
                    case measure => simp [intOf]; omega
                  · subst hp
                    have hd : (vt == ut) = false := by rw [beq_eq_false_iff_ne]; exact hu
                    have HfT := Lib.hid (show fndB z n Q t (k + 1) = false by rw [Hfs.out]; simp; exact hu)
                    clear hu
                    go_wp2_with fail
                    refine wp_region_held_drew (S := fun w2 => Below wr.heap.size wr w2) (by kernel_rfl) (drew_b _ _) (fun hS0 => ?_)
                    refine wpAnyH_take (i := 0) (oi := { dst := some 131, op := Op.move (Operand.tmp 17), type := 4, pos := "outright.go:120", after := #[], guard := none }) (v := .bool false) rfl (by kernel_rfl) (by kernel_rfl) (by kernel_rfl) (fun _ _ _ h => h) (Or.inl ⟨by rfl, by intro w2 hSw; (try dsimp only at hSw); have e0 := (hSw.cell (p := ⟨b, o + (z + 1) * 2, none⟩) (lt_of_cell e0)).trans e0; have e1 := (hSw.cell (p := ⟨b, o + (z + 1) * 2 + 1, none⟩) (lt_of_cell e1)).trans e1; have d0 := (hSw.cell (p := ⟨b2, o2 + k * 2, none⟩) (lt_of_cell d0)).trans d0; have d1 := (hSw.cell (p := ⟨b2, o2 + k * 2 + 1, none⟩) (lt_of_cell d1)).trans d1; go_simp; (try (intro hx9; omega))⟩) hS0 ?_
                    try simp only [Act.put, List.setIfInBounds_toArray, List.set_cons_zero, List.set_cons_succ]
                    refine wpAnyH_take (i := 1) (oi := { dst := some 132, op := Op.move (Operand.tmp 131), type := 4, pos := "outright.go:120", after := #[{ on := 0, ground := Ground.data }], guard := none }) (v := .bool false) rfl (by kernel_rfl) (by kernel_rfl) (by kernel_rfl) (fun _ _ _ h => h) (Or.inl ⟨by rfl, by intro w2 hSw; (try dsimp only at hSw); have e0 := (hSw.cell (p := ⟨b, o + (z + 1) * 2, none⟩) (lt_of_cell e0)).trans e0; have e1 := (hSw.cell (p := ⟨b, o + (z + 1) * 2 + 1, none⟩) (lt_of_cell e1)).trans e1; have d0 := (hSw.cell (p := ⟨b2, o2 + k * 2, none⟩) (lt_of_cell d0)).trans d0; have d1 := (hSw.cell (p := ⟨b2, o2 + k * 2 + 1, none⟩) (lt_of_cell d1)).trans d1; go_simp; (try (intro hx9; omega))⟩) hS0 ?_
                    try simp only [Act.put, List.setIfInBounds_toArray, List.set_cons_zero, List.set_cons_succ]
                    refine wpAnyH_take (i := 2) (oi := { dst := some 133, op := Op.move (Operand.tmp 15), type := 29, pos := "outright.go:120", after := #[{ on := 1, ground := Ground.guard }], guard := some (1, false) }) (v := .slice (some ⟨b2, o2, none⟩) m3 cp3) rfl (by kernel_rfl) (by kernel_rfl) (by kernel_rfl) (fun _ _ _ h => h) (Or.inl ⟨by rfl, by intro w2 hSw; (try dsimp only at hSw); have e0 := (hSw.cell (p := ⟨b, o + (z + 1) * 2, none⟩) (lt_of_cell e0)).trans e0; have e1 := (hSw.cell (p := ⟨b, o + (z + 1) * 2 + 1, none⟩) (lt_of_cell e1)).trans e1; have d0 := (hSw.cell (p := ⟨b2, o2 + k * 2, none⟩) (lt_of_cell d0)).trans d0; have d1 := (hSw.cell (p := ⟨b2, o2 + k * 2 + 1, none⟩) (lt_of_cell d1)).trans d1; go_simp; (try (intro hx9; omega))⟩) hS0 ?_
                    try simp only [Act.put, List.setIfInBounds_toArray, List.set_cons_zero, List.set_cons_succ]
                    refine wpAnyH_take (i := 3) (oi := { dst := some 134, op := Op.move (Operand.tmp 18), type := 3, pos := "outright.go:120", after := #[{ on := 1, ground := Ground.guard }], guard := some (1, false) }) (v := .int .i64 (k : Int)) rfl (by kernel_rfl) (by kernel_rfl) (by kernel_rfl) (fun _ _ _ h => h) (Or.inl ⟨by rfl, by intro w2 hSw; (try dsimp only at hSw); have e0 := (hSw.cell (p := ⟨b, o + (z + 1) * 2, none⟩) (lt_of_cell e0)).trans e0; have e1 := (hSw.cell (p := ⟨b, o + (z + 1) * 2 + 1, none⟩) (lt_of_cell e1)).trans e1; have d0 := (hSw.cell (p := ⟨b2, o2 + k * 2, none⟩) (lt_of_cell d0)).trans d0; have d1 := (hSw.cell (p := ⟨b2, o2 + k * 2 + 1, none⟩) (lt_of_cell d1)).trans d1; go_simp; (try (intro hx9; omega))⟩) hS0 ?_
                    try simp only [Act.put, List.setIfInBounds_toArray, List.set_cons_zero, List.set_cons_succ]
                    refine wpAnyH_take (i := 4) (oi := { dst := some 135, op := Op.indexAddr 29 (Operand.tmp 133) (Operand.tmp 134), type := 0, pos := "outright.go:120", after := #[{ on := 2, ground := Ground.data }, { on := 3, ground := Ground.data }, { on := 1, ground := Ground.guard }], guard := some (1, false) }) (v := .pointer (some ⟨b2, o2 + k * 2, none⟩)) rfl (by kernel_rfl) (by kernel_rfl) (by kernel_rfl) (fun _ _ _ h => h) (Or.inl ⟨by rfl, by intro w2 hSw; (try dsimp only at hSw); have e0 := (hSw.cell (p := ⟨b, o + (z + 1) * 2, none⟩) (lt_of_cell e0)).trans e0; have e1 := (hSw.cell (p := ⟨b, o + (z + 1) * 2 + 1, none⟩) (lt_of_cell e1)).trans e1; have d0 := (hSw.cell (p := ⟨b2, o2 + k * 2, none⟩) (lt_of_cell d0)).trans d0; have d1 := (hSw.cell (p := ⟨b2, o2 + k * 2 + 1, none⟩) (lt_of_cell d1)).trans d1; go_simp; (try (intro hx9; omega))⟩) hS0 ?_
                    try simp only [Act.put, List.setIfInBounds_toArray, List.set_cons_zero, List.set_cons_succ]
                    refine wpAnyH_take (i := 5) (oi := { dst := some 136, op := Op.load 28 (Operand.tmp 135), type := 28, pos := "outright.go:120", after := #[{ on := 4, ground := Ground.data }, { on := 1, ground := Ground.guard }], guard := some (1, false) }) (v := .agg #[.int .i64 vp, .bool vt]) rfl (by kernel_rfl) (by kernel_rfl) (by kernel_rfl) (fun _ _ _ h => h) (Or.inl ⟨by rfl, by intro w2 hSw; (try dsimp only at hSw); have e0 := (hSw.cell (p := ⟨b, o + (z + 1) * 2, none⟩) (lt_of_cell e0)).trans e0; have e1 := (hSw.cell (p := ⟨b, o + (z + 1) * 2 + 1, none⟩) (lt_of_cell e1)).trans e1; have d0 := (hSw.cell (p := ⟨b2, o2 + k * 2, none⟩) (lt_of_cell d0)).trans d0; have d1 := (hSw.cell (p := ⟨b2, o2 + k * 2 + 1, none⟩) (lt_of_cell d1)).trans d1; go_simp; (try (intro hx9; omega))⟩) hS0 ?_
                    try simp only [Act.put, List.setIfInBounds_toArray, List.set_cons_zero, List.set_cons_succ]
                    refine wpAnyH_take (i := 6) (oi := { dst := some 137, op := Op.move (Operand.tmp 11), type := 29, pos := "outright.go:120", after := #[{ on := 1, ground := Ground.guard }], guard := some (1, false) }) (v := .slice (some ⟨b, o, none⟩) n n) rfl (by kernel_rfl) (by kernel_rfl) (by kernel_rfl) (fun _ _ _ h => h) (Or.inl ⟨by rfl, by intro w2 hSw; (try dsimp only at hSw); have e0 := (hSw.cell (p := ⟨b, o + (z + 1) * 2, none⟩) (lt_of_cell e0)).trans e0; have e1 := (hSw.cell (p := ⟨b, o + (z + 1) * 2 + 1, none⟩) (lt_of_cell e1)).trans e1; have d0 := (hSw.cell (p := ⟨b2, o2 + k * 2, none⟩) (lt_of_cell d0)).trans d0; have d1 := (hSw.cell (p := ⟨b2, o2 + k * 2 + 1, none⟩) (lt_of_cell d1)).trans d1; go_simp; (try (intro hx9; omega))⟩) hS0 ?_
                    try simp only [Act.put, List.setIfInBounds_toArray, List.set_cons_zero, List.set_cons_succ]
                    refine wpAnyH_take (i := 7) (oi := { dst := some 138, op := Op.move (Operand.tmp 14), type := 3, pos := "outright.go:120", after := #[{ on := 1, ground := Ground.guard }], guard := some (1, false) }) (v := .int .i64 (z : Int)) rfl (by kernel_rfl) (by kernel_rfl) (by kernel_rfl) (fun _ _ _ h => h) (Or.inl ⟨by rfl, by intro w2 hSw; (try dsimp only at hSw); have e0 := (hSw.cell (p := ⟨b, o + (z + 1) * 2, none⟩) (lt_of_cell e0)).trans e0; have e1 := (hSw.cell (p := ⟨b, o + (z + 1) * 2 + 1, none⟩) (lt_of_cell e1)).trans e1; have d0 := (hSw.cell (p := ⟨b2, o2 + k * 2, none⟩) (lt_of_cell d0)).trans d0; have d1 := (hSw.cell (p := ⟨b2, o2 + k * 2 + 1, none⟩) (lt_of_cell d1)).trans d1; go_simp; (try (intro hx9; omega))⟩) hS0 ?_
                    try simp only [Act.put, List.setIfInBounds_toArray, List.set_cons_zero, List.set_cons_succ]
                    refine wpAnyH_take (i := 8) (oi := { dst := some 139, op := Op.binOp BinOp.add 3 (Operand.tmp 138) (Operand.const (Value.int IntKind.i64 1)) 3, type := 3, pos := "outright.go:120", after := #[{ on := 7, ground := Ground.data }, { on := 1, ground := Ground.guard }], guard := some (1, false) }) (v := .int .i64 ((z : Int) + 1)) rfl (by kernel_rfl) (by kernel_rfl) (by kernel_rfl) (fun _ _ _ h => h) (Or.inl ⟨by rfl, by intro w2 hSw; (try dsimp only at hSw); have e0 := (hSw.cell (p := ⟨b, o + (z + 1) * 2, none⟩) (lt_of_cell e0)).trans e0; have e1 := (hSw.cell (p := ⟨b, o + (z + 1) * 2 + 1, none⟩) (lt_of_cell e1)).trans e1; have d0 := (hSw.cell (p := ⟨b2, o2 + k * 2, none⟩) (lt_of_cell d0)).trans d0; have d1 := (hSw.cell (p := ⟨b2, o2 + k * 2 + 1, none⟩) (lt_of_cell d1)).trans d1; go_simp; (try (intro hx9; omega))⟩) hS0 ?_
                    try simp only [Act.put, List.setIfInBounds_toArray, List.set_cons_zero, List.set_cons_succ]
                    refine wpAnyH_take (i := 9) (oi := { dst := some 140, op := Op.move (Operand.tmp 11), type := 29, pos := "outright.go:120", after := #[{ on := 1, ground := Ground.guard }], guard := some (1, false) }) (v := .slice (some ⟨b, o, none⟩) n n) rfl (by kernel_rfl) (by kernel_rfl) (by kernel_rfl) (fun _ _ _ h => h) (Or.inl ⟨by rfl, by intro w2 hSw; (try dsimp only at hSw); have e0 := (hSw.cell (p := ⟨b, o + (z + 1) * 2, none⟩) (lt_of_cell e0)).trans e0; have e1 := (hSw.cell (p := ⟨b, o + (z + 1) * 2 + 1, none⟩) (lt_of_cell e1)).trans e1; have d0 := (hSw.cell (p := ⟨b2, o2 + k * 2, none⟩) (lt_of_cell d0)).trans d0; have d1 := (hSw.cell (p := ⟨b2, o2 + k * 2 + 1, none⟩) (lt_of_cell d1)).trans d1; go_simp; (try (intro hx9; omega))⟩) hS0 ?_
                    try simp only [Act.put, List.setIfInBounds_toArray, List.set_cons_zero, List.set_cons_succ]
                    refine wpAnyH_take (i := 10) (oi := { dst := some 141, op := Op.call { callee := Callee.builtin Builtin.len, args := #[Operand.tmp 140], argTypes := #[29] }, type := 3, pos := "outright.go:120", after := #[{ on := 9, ground := Ground.data }, { on := 1, ground := Ground.guard }], guard := some (1, false) }) (v := .int .i64 (n : Int)) rfl (by kernel_rfl) (by kernel_rfl) (by kernel_rfl) (fun _ _ _ h => h) (Or.inl ⟨by rfl, by intro w2 hSw; (try dsimp only at hSw); have e0 := (hSw.cell (p := ⟨b, o + (z + 1) * 2, none⟩) (lt_of_cell e0)).trans e0; have e1 := (hSw.cell (p := ⟨b, o + (z + 1) * 2 + 1, none⟩) (lt_of_cell e1)).trans e1; have d0 := (hSw.cell (p := ⟨b2, o2 + k * 2, none⟩) (lt_of_cell d0)).trans d0; have d1 := (hSw.cell (p := ⟨b2, o2 + k * 2 + 1, none⟩) (lt_of_cell d1)).trans d1; go_simp; (try (intro hx9; omega))⟩) hS0 ?_
                    try simp only [Act.put, List.setIfInBounds_toArray, List.set_cons_zero, List.set_cons_succ]
                    refine wpAnyH_take (i := 11) (oi := { dst := some 142, op := Op.binOp BinOp.sub 3 (Operand.tmp 141) (Operand.const (Value.int IntKind.i64 1)) 3, type := 3, pos := "outright.go:120", after := #[{ on := 10, ground := Ground.data }, { on := 1, ground := Ground.guard }], guard := some (1, false) }) (v := .int .i64 ((n : Int) - 1)) rfl (by kernel_rfl) (by kernel_rfl) (by kernel_rfl) (fun _ _ _ h => h) (Or.inl ⟨by rfl, by intro w2 hSw; (try dsimp only at hSw); have e0 := (hSw.cell (p := ⟨b, o + (z + 1) * 2, none⟩) (lt_of_cell e0)).trans e0; have e1 := (hSw.cell (p := ⟨b, o + (z + 1) * 2 + 1, none⟩) (lt_of_cell e1)).trans e1; have d0 := (hSw.cell (p := ⟨b2, o2 + k * 2, none⟩) (lt_of_cell d0)).trans d0; have d1 := (hSw.cell (p := ⟨b2, o2 + k * 2 + 1, none⟩) (lt_of_cell d1)).trans d1; go_simp; (try (intro hx9; omega))⟩) hS0 ?_
                    try simp only [Act.put, List.setIfInBounds_toArray, List.set_cons_zero, List.set_cons_succ]
                    refine wpAnyH_take (i := 12) (oi := { dst := some 143, op := Op.call { callee := Callee.builtin Builtin.min, args := #[Operand.tmp 139, Operand.tmp 142], argTypes := #[3, 3] }, type := 3, pos := "outright.go:120", after := #[{ on := 8, ground := Ground.data }, { on := 11, ground := Ground.data }, { on := 1, ground := Ground.guard }], guard := some (1, false) }) (v := .int .i64 ((z : Int) + 1)) rfl (by kernel_rfl) (by kernel_rfl) (by kernel_rfl) (fun _ _ _ h => h) (Or.inl ⟨by rfl, by intro w2 hSw; (try dsimp only at hSw); have e0 := (hSw.cell (p := ⟨b, o + (z + 1) * 2, none⟩) (lt_of_cell e0)).trans e0; have e1 := (hSw.cell (p := ⟨b, o + (z + 1) * 2 + 1, none⟩) (lt_of_cell e1)).trans e1; have d0 := (hSw.cell (p := ⟨b2, o2 + k * 2, none⟩) (lt_of_cell d0)).trans d0; have d1 := (hSw.cell (p := ⟨b2, o2 + k * 2 + 1, none⟩) (lt_of_cell d1)).trans d1; go_simp; (try (intro hx9; omega))⟩) hS0 ?_
                    try simp only [Act.put, List.setIfInBounds_toArray, List.set_cons_zero, List.set_cons_succ]
                    refine wpAnyH_take (i := 13) (oi := { dst := some 144, op := Op.indexAddr 29 (Operand.tmp 137) (Operand.tmp 143), type := 0, pos := "outright.go:120", after := #[{ on := 6, ground := Ground.data }, { on := 12, ground := Ground.data }, { on := 1, ground := Ground.guard }], guard := some (1, false) }) (v := .pointer (some ⟨b, o + (z + 1) * 2, none⟩)) rfl (by kernel_rfl) (by kernel_rfl) (by kernel_rfl) (fun _ _ _ h => h) (Or.inl ⟨by rfl, by intro w2 hSw; (try dsimp only at hSw); have e0 := (hSw.cell (p := ⟨b, o + (z + 1) * 2, none⟩) (lt_of_cell e0)).trans e0; have e1 := (hSw.cell (p := ⟨b, o + (z + 1) * 2 + 1, none⟩) (lt_of_cell e1)).trans e1; have d0 := (hSw.cell (p := ⟨b2, o2 + k * 2, none⟩) (lt_of_cell d0)).trans d0; have d1 := (hSw.cell (p := ⟨b2, o2 + k * 2 + 1, none⟩) (lt_of_cell d1)).trans d1; go_simp; (try (intro hx9; omega))⟩) hS0 ?_
                    try simp only [Act.put, List.setIfInBounds_toArray, List.set_cons_zero, List.set_cons_succ]
                    refine wpAnyH_take (i := 14) (oi := { dst := some 145, op := Op.load 28 (Operand.tmp 144), type := 28, pos := "outright.go:120", after := #[{ on := 13, ground := Ground.data }, { on := 1, ground := Ground.guard }], guard := some (1, false) }) (v := .agg #[.int .i64 vp, .bool ut]) rfl (by kernel_rfl) (by kernel_rfl) (by kernel_rfl) (fun _ _ _ h => h) (Or.inl ⟨by rfl, by intro w2 hSw; (try dsimp only at hSw); have e0 := (hSw.cell (p := ⟨b, o + (z + 1) * 2, none⟩) (lt_of_cell e0)).trans e0; have e1 := (hSw.cell (p := ⟨b, o + (z + 1) * 2 + 1, none⟩) (lt_of_cell e1)).trans e1; have d0 := (hSw.cell (p := ⟨b2, o2 + k * 2, none⟩) (lt_of_cell d0)).trans d0; have d1 := (hSw.cell (p := ⟨b2, o2 + k * 2 + 1, none⟩) (lt_of_cell d1)).trans d1; go_simp; (try (intro hx9; omega))⟩) hS0 ?_
                    try simp only [Act.put, List.setIfInBounds_toArray, List.set_cons_zero, List.set_cons_succ]
                    refine wpAnyH_take (i := 15) (oi := { dst := some 146, op := Op.binOp BinOp.eql 28 (Operand.tmp 136) (Operand.tmp 145) 28, type := 4, pos := "outright.go:120", after := #[{ on := 5, ground := Ground.data }, { on := 14, ground := Ground.data }, { on := 1, ground := Ground.guard }], guard := some (1, false) }) (v := .bool false) rfl (by kernel_rfl) (by kernel_rfl) (by kernel_rfl) (fun _ _ _ h => h) (Or.inl ⟨by rfl, by intro w2 hSw; (try dsimp only at hSw); have e0 := (hSw.cell (p := ⟨b, o + (z + 1) * 2, none⟩) (lt_of_cell e0)).trans e0; have e1 := (hSw.cell (p := ⟨b, o + (z + 1) * 2 + 1, none⟩) (lt_of_cell e1)).trans e1; have d0 := (hSw.cell (p := ⟨b2, o2 + k * 2, none⟩) (lt_of_cell d0)).trans d0; have d1 := (hSw.cell (p := ⟨b2, o2 + k * 2 + 1, none⟩) (lt_of_cell d1)).trans d1; go_simp; (try (intro hx9; omega))⟩) hS0 ?_
                    try simp only [Act.put, List.setIfInBounds_toArray, List.set_cons_zero, List.set_cons_succ]
                    refine wpAnyH_take (i := 16) (oi := { dst := some 147, op := Op.pick (Operand.tmp 132) (Operand.const (Value.bool true)) (Operand.tmp 146), type := 4, pos := "outright.go:120", after := #[{ on := 1, ground := Ground.data }, { on := 15, ground := Ground.data }], guard := none }) (v := .bool false) rfl (by kernel_rfl) (by kernel_rfl) (by kernel_rfl) (fun _ _ _ h => h) (Or.inl ⟨by rfl, by intro w2 hSw; (try dsimp only at hSw); have e0 := (hSw.cell (p := ⟨b, o + (z + 1) * 2, none⟩) (lt_of_cell e0)).trans e0; have e1 := (hSw.cell (p := ⟨b, o + (z + 1) * 2 + 1, none⟩) (lt_of_cell e1)).trans e1; have d0 := (hSw.cell (p := ⟨b2, o2 + k * 2, none⟩) (lt_of_cell d0)).trans d0; have d1 := (hSw.cell (p := ⟨b2, o2 + k * 2 + 1, none⟩) (lt_of_cell d1)).trans d1; go_simp; (try (intro hx9; omega))⟩) hS0 ?_
                    try simp only [Act.put, List.setIfInBounds_toArray, List.set_cons_zero, List.set_cons_succ]
                    refine wpAnyH_take (i := 17) (oi := { dst := some 17, op := Op.assign (Operand.tmp 147), type := 4, pos := "outright.go:120", after := #[{ on := 16, ground := Ground.data }, { on := 1, ground := Ground.chain }, { on := 0, ground := Ground.phase }, { on := 1, ground := Ground.phase }, { on := 2, ground := Ground.phase }, { on := 3, ground := Ground.phase }, { on := 4, ground := Ground.phase }, { on := 5, ground := Ground.phase }, { on := 6, ground := Ground.phase }, { on := 7, ground := Ground.phase }, { on := 8, ground := Ground.phase }, { on := 9, ground := Ground.phase }, { on := 10, ground := Ground.phase }, { on := 11, ground := Ground.phase }, { on := 12, ground := Ground.phase }, { on := 13, ground := Ground.phase }, { on := 14, ground := Ground.phase }, { on := 15, ground := Ground.phase }, { on := 16, ground := Ground.phase }], guard := none }) (v := .bool false) rfl (by kernel_rfl) (by kernel_rfl) (by kernel_rfl) (fun _ _ _ h => h) (Or.inl ⟨by rfl, by intro w2 hSw; (try dsimp only at hSw); have e0 := (hSw.cell (p := ⟨b, o + (z + 1) * 2, none⟩) (lt_of_cell e0)).trans e0; have e1 := (hSw.cell (p := ⟨b, o + (z + 1) * 2 + 1, none⟩) (lt_of_cell e1)).trans e1; have d0 := (hSw.cell (p := ⟨b2, o2 + k * 2, none⟩) (lt_of_cell d0)).trans d0; have d1 := (hSw.cell (p := ⟨b2, o2 + k * 2 + 1, none⟩) (lt_of_cell d1)).trans d1; go_simp; (try (intro hx9; omega))⟩) hS0 ?_
                    try simp only [Act.put, List.setIfInBounds_toArray, List.set_cons_zero, List.set_cons_succ]
                    refine wpAnyH_done (by kernel_rfl) ?_ _
                    have HX2 := Lib.hid (And.intro (Ks.next hS0 K.out) (And.intro (S1.out.below hS0 (Nat.le_refl _)) (S3.out.below hS0 (Nat.le_refl _))))
                    clear hS0 e0 e1 d0 d1 i0 i1 i5 i6 hrr p1 p2 p4 p5 p6 p7 p8
                    go_wp2_with fail
                    go_roundw
                    case rel => exact ⟨k + 1, by go_num, by omega, by rw [HfT.out], HX2.out⟩
                    case measure => simp [intOf]; omega
                · have hd : (vp == up) = false := by rw [beq_eq_false_iff_ne]; exact hp
                  have HfT := Lib.hid (show fndB z n Q t (k + 1) = false by rw [Hfs.out]; simp; exact fun e => absurd e hp)
                  clear hp
                  go_wp2_with fail
                  refine wp_region_held_drew (S := fun w2 => Below wr.heap.size wr w2) (by kernel_rfl) (drew_b _ _) (fun hS0 => ?_)
                  refine wpAnyH_take (i := 0) (oi := { dst := some 131, op := Op.move (Operand.tmp 17), type := 4, pos := "outright.go:120", after := #[], guard := none }) (v := .bool false) rfl (by kernel_rfl) (by kernel_rfl) (by kernel_rfl) (fun _ _ _ h => h) (Or.inl ⟨by rfl, by intro w2 hSw; (try dsimp only at hSw); have e0 := (hSw.cell (p := ⟨b, o + (z + 1) * 2, none⟩) (lt_of_cell e0)).trans e0; have e1 := (hSw.cell (p := ⟨b, o + (z + 1) * 2 + 1, none⟩) (lt_of_cell e1)).trans e1; have d0 := (hSw.cell (p := ⟨b2, o2 + k * 2, none⟩) (lt_of_cell d0)).trans d0; have d1 := (hSw.cell (p := ⟨b2, o2 + k * 2 + 1, none⟩) (lt_of_cell d1)).trans d1; go_simp; (try (intro hx9; omega))⟩) hS0 ?_
                  try simp only [Act.put, List.setIfInBounds_toArray, List.set_cons_zero, List.set_cons_succ]
                  refine wpAnyH_take (i := 1) (oi := { dst := some 132, op := Op.move (Operand.tmp 131), type := 4, pos := "outright.go:120", after := #[{ on := 0, ground := Ground.data }], guard := none }) (v := .bool false) rfl (by kernel_rfl) (by kernel_rfl) (by kernel_rfl) (fun _ _ _ h => h) (Or.inl ⟨by rfl, by intro w2 hSw; (try dsimp only at hSw); have e0 := (hSw.cell (p := ⟨b, o + (z + 1) * 2, none⟩) (lt_of_cell e0)).trans e0; have e1 := (hSw.cell (p := ⟨b, o + (z + 1) * 2 + 1, none⟩) (lt_of_cell e1)).trans e1; have d0 := (hSw.cell (p := ⟨b2, o2 + k * 2, none⟩) (lt_of_cell d0)).trans d0; have d1 := (hSw.cell (p := ⟨b2, o2 + k * 2 + 1, none⟩) (lt_of_cell d1)).trans d1; go_simp; (try (intro hx9; omega))⟩) hS0 ?_
                  try simp only [Act.put, List.setIfInBounds_toArray, List.set_cons_zero, List.set_cons_succ]
                  refine wpAnyH_take (i := 2) (oi := { dst := some 133, op := Op.move (Operand.tmp 15), type := 29, pos := "outright.go:120", after := #[{ on := 1, ground := Ground.guard }], guard := some (1, false) }) (v := .slice (some ⟨b2, o2, none⟩) m3 cp3) rfl (by kernel_rfl) (by kernel_rfl) (by kernel_rfl) (fun _ _ _ h => h) (Or.inl ⟨by rfl, by intro w2 hSw; (try dsimp only at hSw); have e0 := (hSw.cell (p := ⟨b, o + (z + 1) * 2, none⟩) (lt_of_cell e0)).trans e0; have e1 := (hSw.cell (p := ⟨b, o + (z + 1) * 2 + 1, none⟩) (lt_of_cell e1)).trans e1; have d0 := (hSw.cell (p := ⟨b2, o2 + k * 2, none⟩) (lt_of_cell d0)).trans d0; have d1 := (hSw.cell (p := ⟨b2, o2 + k * 2 + 1, none⟩) (lt_of_cell d1)).trans d1; go_simp; (try (intro hx9; omega))⟩) hS0 ?_
                  try simp only [Act.put, List.setIfInBounds_toArray, List.set_cons_zero, List.set_cons_succ]
                  refine wpAnyH_take (i := 3) (oi := { dst := some 134, op := Op.move (Operand.tmp 18), type := 3, pos := "outright.go:120", after := #[{ on := 1, ground := Ground.guard }], guard := some (1, false) }) (v := .int .i64 (k : Int)) rfl (by kernel_rfl) (by kernel_rfl) (by kernel_rfl) (fun _ _ _ h => h) (Or.inl ⟨by rfl, by intro w2 hSw; (try dsimp only at hSw); have e0 := (hSw.cell (p := ⟨b, o + (z + 1) * 2, none⟩) (lt_of_cell e0)).trans e0; have e1 := (hSw.cell (p := ⟨b, o + (z + 1) * 2 + 1, none⟩) (lt_of_cell e1)).trans e1; have d0 := (hSw.cell (p := ⟨b2, o2 + k * 2, none⟩) (lt_of_cell d0)).trans d0; have d1 := (hSw.cell (p := ⟨b2, o2 + k * 2 + 1, none⟩) (lt_of_cell d1)).trans d1; go_simp; (try (intro hx9; omega))⟩) hS0 ?_
                  try simp only [Act.put, List.setIfInBounds_toArray, List.set_cons_zero, List.set_cons_succ]
                  refine wpAnyH_take (i := 4) (oi := { dst := some 135, op := Op.indexAddr 29 (Operand.tmp 133) (Operand.tmp 134), type := 0, pos := "outright.go:120", after := #[{ on := 2, ground := Ground.data }, { on := 3, ground := Ground.data }, { on := 1, ground := Ground.guard }], guard := some (1, false) }) (v := .pointer (some ⟨b2, o2 + k * 2, none⟩)) rfl (by kernel_rfl) (by kernel_rfl) (by kernel_rfl) (fun _ _ _ h => h) (Or.inl ⟨by rfl, by intro w2 hSw; (try dsimp only at hSw); have e0 := (hSw.cell (p := ⟨b, o + (z + 1) * 2, none⟩) (lt_of_cell e0)).trans e0; have e1 := (hSw.cell (p := ⟨b, o + (z + 1) * 2 + 1, none⟩) (lt_of_cell e1)).trans e1; have d0 := (hSw.cell (p := ⟨b2, o2 + k * 2, none⟩) (lt_of_cell d0)).trans d0; have d1 := (hSw.cell (p := ⟨b2, o2 + k * 2 + 1, none⟩) (lt_of_cell d1)).trans d1; go_simp; (try (intro hx9; omega))⟩) hS0 ?_
                  try simp only [Act.put, List.setIfInBounds_toArray, List.set_cons_zero, List.set_cons_succ]
                  refine wpAnyH_take (i := 5) (oi := { dst := some 136, op := Op.load 28 (Operand.tmp 135), type := 28, pos := "outright.go:120", after := #[{ on := 4, ground := Ground.data }, { on := 1, ground := Ground.guard }], guard := some (1, false) }) (v := .agg #[.int .i64 vp, .bool vt]) rfl (by kernel_rfl) (by kernel_rfl) (by kernel_rfl) (fun _ _ _ h => h) (Or.inl ⟨by rfl, by intro w2 hSw; (try dsimp only at hSw); have e0 := (hSw.cell (p := ⟨b, o + (z + 1) * 2, none⟩) (lt_of_cell e0)).trans e0; have e1 := (hSw.cell (p := ⟨b, o + (z + 1) * 2 + 1, none⟩) (lt_of_cell e1)).trans e1; have d0 := (hSw.cell (p := ⟨b2, o2 + k * 2, none⟩) (lt_of_cell d0)).trans d0; have d1 := (hSw.cell (p := ⟨b2, o2 + k * 2 + 1, none⟩) (lt_of_cell d1)).trans d1; go_simp; (try (intro hx9; omega))⟩) hS0 ?_
                  try simp only [Act.put, List.setIfInBounds_toArray, List.set_cons_zero, List.set_cons_succ]
                  refine wpAnyH_take (i := 6) (oi := { dst := some 137, op := Op.move (Operand.tmp 11), type := 29, pos := "outright.go:120", after := #[{ on := 1, ground := Ground.guard }], guard := some (1, false) }) (v := .slice (some ⟨b, o, none⟩) n n) rfl (by kernel_rfl) (by kernel_rfl) (by kernel_rfl) (fun _ _ _ h => h) (Or.inl ⟨by rfl, by intro w2 hSw; (try dsimp only at hSw); have e0 := (hSw.cell (p := ⟨b, o + (z + 1) * 2, none⟩) (lt_of_cell e0)).trans e0; have e1 := (hSw.cell (p := ⟨b, o + (z + 1) * 2 + 1, none⟩) (lt_of_cell e1)).trans e1; have d0 := (hSw.cell (p := ⟨b2, o2 + k * 2, none⟩) (lt_of_cell d0)).trans d0; have d1 := (hSw.cell (p := ⟨b2, o2 + k * 2 + 1, none⟩) (lt_of_cell d1)).trans d1; go_simp; (try (intro hx9; omega))⟩) hS0 ?_
                  try simp only [Act.put, List.setIfInBounds_toArray, List.set_cons_zero, List.set_cons_succ]
                  refine wpAnyH_take (i := 7) (oi := { dst := some 138, op := Op.move (Operand.tmp 14), type := 3, pos := "outright.go:120", after := #[{ on := 1, ground := Ground.guard }], guard := some (1, false) }) (v := .int .i64 (z : Int)) rfl (by kernel_rfl) (by kernel_rfl) (by kernel_rfl) (fun _ _ _ h => h) (Or.inl ⟨by rfl, by intro w2 hSw; (try dsimp only at hSw); have e0 := (hSw.cell (p := ⟨b, o + (z + 1) * 2, none⟩) (lt_of_cell e0)).trans e0; have e1 := (hSw.cell (p := ⟨b, o + (z + 1) * 2 + 1, none⟩) (lt_of_cell e1)).trans e1; have d0 := (hSw.cell (p := ⟨b2, o2 + k * 2, none⟩) (lt_of_cell d0)).trans d0; have d1 := (hSw.cell (p := ⟨b2, o2 + k * 2 + 1, none⟩) (lt_of_cell d1)).trans d1; go_simp; (try (intro hx9; omega))⟩) hS0 ?_
                  try simp only [Act.put, List.setIfInBounds_toArray, List.set_cons_zero, List.set_cons_succ]
                  refine wpAnyH_take (i := 8) (oi := { dst := some 139, op := Op.binOp BinOp.add 3 (Operand.tmp 138) (Operand.const (Value.int IntKind.i64 1)) 3, type := 3, pos := "outright.go:120", after := #[{ on := 7, ground := Ground.data }, { on := 1, ground := Ground.guard }], guard := some (1, false) }) (v := .int .i64 ((z : Int) + 1)) rfl (by kernel_rfl) (by kernel_rfl) (by kernel_rfl) (fun _ _ _ h => h) (Or.inl ⟨by rfl, by intro w2 hSw; (try dsimp only at hSw); have e0 := (hSw.cell (p := ⟨b, o + (z + 1) * 2, none⟩) (lt_of_cell e0)).trans e0; have e1 := (hSw.cell (p := ⟨b, o + (z + 1) * 2 + 1, none⟩) (lt_of_cell e1)).trans e1; have d0 := (hSw.cell (p := ⟨b2, o2 + k * 2, none⟩) (lt_of_cell d0)).trans d0; have d1 := (hSw.cell (p := ⟨b2, o2 + k * 2 + 1, none⟩) (lt_of_cell d1)).trans d1; go_simp; (try (intro hx9; omega))⟩) hS0 ?_
                  try simp only [Act.put, List.setIfInBounds_toArray, List.set_cons_zero, List.set_cons_succ]
                  refine wpAnyH_take (i := 9) (oi := { dst := some 140, op := Op.move (Operand.tmp 11), type := 29, pos := "outright.go:120", after := #[{ on := 1, ground := Ground.guard }], guard := some (1, false) }) (v := .slice (some ⟨b, o, none⟩) n n) rfl (by kernel_rfl) (by kernel_rfl) (by kernel_rfl) (fun _ _ _ h => h) (Or.inl ⟨by rfl, by intro w2 hSw; (try dsimp only at hSw); have e0 := (hSw.cell (p := ⟨b, o + (z + 1) * 2, none⟩) (lt_of_cell e0)).trans e0; have e1 := (hSw.cell (p := ⟨b, o + (z + 1) * 2 + 1, none⟩) (lt_of_cell e1)).trans e1; have d0 := (hSw.cell (p := ⟨b2, o2 + k * 2, none⟩) (lt_of_cell d0)).trans d0; have d1 := (hSw.cell (p := ⟨b2, o2 + k * 2 + 1, none⟩) (lt_of_cell d1)).trans d1; go_simp; (try (intro hx9; omega))⟩) hS0 ?_
                  try simp only [Act.put, List.setIfInBounds_toArray, List.set_cons_zero, List.set_cons_succ]
                  refine wpAnyH_take (i := 10) (oi := { dst := some 141, op := Op.call { callee := Callee.builtin Builtin.len, args := #[Operand.tmp 140], argTypes := #[29] }, type := 3, pos := "outright.go:120", after := #[{ on := 9, ground := Ground.data }, { on := 1, ground := Ground.guard }], guard := some (1, false) }) (v := .int .i64 (n : Int)) rfl (by kernel_rfl) (by kernel_rfl) (by kernel_rfl) (fun _ _ _ h => h) (Or.inl ⟨by rfl, by intro w2 hSw; (try dsimp only at hSw); have e0 := (hSw.cell (p := ⟨b, o + (z + 1) * 2, none⟩) (lt_of_cell e0)).trans e0; have e1 := (hSw.cell (p := ⟨b, o + (z + 1) * 2 + 1, none⟩) (lt_of_cell e1)).trans e1; have d0 := (hSw.cell (p := ⟨b2, o2 + k * 2, none⟩) (lt_of_cell d0)).trans d0; have d1 := (hSw.cell (p := ⟨b2, o2 + k * 2 + 1, none⟩) (lt_of_cell d1)).trans d1; go_simp; (try (intro hx9; omega))⟩) hS0 ?_
                  try simp only [Act.put, List.setIfInBounds_toArray, List.set_cons_zero, List.set_cons_succ]
                  refine wpAnyH_take (i := 11) (oi := { dst := some 142, op := Op.binOp BinOp.sub 3 (Operand.tmp 141) (Operand.const (Value.int IntKind.i64 1)) 3, type := 3, pos := "outright.go:120", after := #[{ on := 10, ground := Ground.data }, { on := 1, ground := Ground.guard }], guard := some (1, false) }) (v := .int .i64 ((n : Int) - 1)) rfl (by kernel_rfl) (by kernel_rfl) (by kernel_rfl) (fun _ _ _ h => h) (Or.inl ⟨by rfl, by intro w2 hSw; (try dsimp only at hSw); have e0 := (hSw.cell (p := ⟨b, o + (z + 1) * 2, none⟩) (lt_of_cell e0)).trans e0; have e1 := (hSw.cell (p := ⟨b, o + (z + 1) * 2 + 1, none⟩) (lt_of_cell e1)).trans e1; have d0 := (hSw.cell (p := ⟨b2, o2 + k * 2, none⟩) (lt_of_cell d0)).trans d0; have d1 := (hSw.cell (p := ⟨b2, o2 + k * 2 + 1, none⟩) (lt_of_cell d1)).trans d1; go_simp; (try (intro hx9; omega))⟩) hS0 ?_
                  try simp only [Act.put, List.setIfInBounds_toArray, List.set_cons_zero, List.set_cons_succ]
                  refine wpAnyH_take (i := 12) (oi := { dst := some 143, op := Op.call { callee := Callee.builtin Builtin.min, args := #[Operand.tmp 139, Operand.tmp 142], argTypes := #[3, 3] }, type := 3, pos := "outright.go:120", after := #[{ on := 8, ground := Ground.data }, { on := 11, ground := Ground.data }, { on := 1, ground := Ground.guard }], guard := some (1, false) }) (v := .int .i64 ((z : Int) + 1)) rfl (by kernel_rfl) (by kernel_rfl) (by kernel_rfl) (fun _ _ _ h => h) (Or.inl ⟨by rfl, by intro w2 hSw; (try dsimp only at hSw); have e0 := (hSw.cell (p := ⟨b, o + (z + 1) * 2, none⟩) (lt_of_cell e0)).trans e0; have e1 := (hSw.cell (p := ⟨b, o + (z + 1) * 2 + 1, none⟩) (lt_of_cell e1)).trans e1; have d0 := (hSw.cell (p := ⟨b2, o2 + k * 2, none⟩) (lt_of_cell d0)).trans d0; have d1 := (hSw.cell (p := ⟨b2, o2 + k * 2 + 1, none⟩) (lt_of_cell d1)).trans d1; go_simp; (try (intro hx9; omega))⟩) hS0 ?_
                  try simp only [Act.put, List.setIfInBounds_toArray, List.set_cons_zero, List.set_cons_succ]
                  refine wpAnyH_take (i := 13) (oi := { dst := some 144, op := Op.indexAddr 29 (Operand.tmp 137) (Operand.tmp 143), type := 0, pos := "outright.go:120", after := #[{ on := 6, ground := Ground.data }, { on := 12, ground := Ground.data }, { on := 1, ground := Ground.guard }], guard := some (1, false) }) (v := .pointer (some ⟨b, o + (z + 1) * 2, none⟩)) rfl (by kernel_rfl) (by kernel_rfl) (by kernel_rfl) (fun _ _ _ h => h) (Or.inl ⟨by rfl, by intro w2 hSw; (try dsimp only at hSw); have e0 := (hSw.cell (p := ⟨b, o + (z + 1) * 2, none⟩) (lt_of_cell e0)).trans e0; have e1 := (hSw.cell (p := ⟨b, o + (z + 1) * 2 + 1, none⟩) (lt_of_cell e1)).trans e1; have d0 := (hSw.cell (p := ⟨b2, o2 + k * 2, none⟩) (lt_of_cell d0)).trans d0; have d1 := (hSw.cell (p := ⟨b2, o2 + k * 2 + 1, none⟩) (lt_of_cell d1)).trans d1; go_simp; (try (intro hx9; omega))⟩) hS0 ?_
                  try simp only [Act.put, List.setIfInBounds_toArray, List.set_cons_zero, List.set_cons_succ]
                  refine wpAnyH_take (i := 14) (oi := { dst := some 145, op := Op.load 28 (Operand.tmp 144), type := 28, pos := "outright.go:120", after := #[{ on := 13, ground := Ground.data }, { on := 1, ground := Ground.guard }], guard := some (1, false) }) (v := .agg #[.int .i64 up, .bool ut]) rfl (by kernel_rfl) (by kernel_rfl) (by kernel_rfl) (fun _ _ _ h => h) (Or.inl ⟨by rfl, by intro w2 hSw; (try dsimp only at hSw); have e0 := (hSw.cell (p := ⟨b, o + (z + 1) * 2, none⟩) (lt_of_cell e0)).trans e0; have e1 := (hSw.cell (p := ⟨b, o + (z + 1) * 2 + 1, none⟩) (lt_of_cell e1)).trans e1; have d0 := (hSw.cell (p := ⟨b2, o2 + k * 2, none⟩) (lt_of_cell d0)).trans d0; have d1 := (hSw.cell (p := ⟨b2, o2 + k * 2 + 1, none⟩) (lt_of_cell d1)).trans d1; go_simp; (try (intro hx9; omega))⟩) hS0 ?_
                  try simp only [Act.put, List.setIfInBounds_toArray, List.set_cons_zero, List.set_cons_succ]
                  refine wpAnyH_take (i := 15) (oi := { dst := some 146, op := Op.binOp BinOp.eql 28 (Operand.tmp 136) (Operand.tmp 145) 28, type := 4, pos := "outright.go:120", after := #[{ on := 5, ground := Ground.data }, { on := 14, ground := Ground.data }, { on := 1, ground := Ground.guard }], guard := some (1, false) }) (v := .bool false) rfl (by kernel_rfl) (by kernel_rfl) (by kernel_rfl) (fun _ _ _ h => h) (Or.inl ⟨by rfl, by intro w2 hSw; (try dsimp only at hSw); have e0 := (hSw.cell (p := ⟨b, o + (z + 1) * 2, none⟩) (lt_of_cell e0)).trans e0; have e1 := (hSw.cell (p := ⟨b, o + (z + 1) * 2 + 1, none⟩) (lt_of_cell e1)).trans e1; have d0 := (hSw.cell (p := ⟨b2, o2 + k * 2, none⟩) (lt_of_cell d0)).trans d0; have d1 := (hSw.cell (p := ⟨b2, o2 + k * 2 + 1, none⟩) (lt_of_cell d1)).trans d1; go_simp; (try (intro hx9; omega))⟩) hS0 ?_
                  try simp only [Act.put, List.setIfInBounds_toArray, List.set_cons_zero, List.set_cons_succ]
                  refine wpAnyH_take (i := 16) (oi := { dst := some 147, op := Op.pick (Operand.tmp 132) (Operand.const (Value.bool true)) (Operand.tmp 146), type := 4, pos := "outright.go:120", after := #[{ on := 1, ground := Ground.data }, { on := 15, ground := Ground.data }], guard := none }) (v := .bool false) rfl (by kernel_rfl) (by kernel_rfl) (by kernel_rfl) (fun _ _ _ h => h) (Or.inl ⟨by rfl, by intro w2 hSw; (try dsimp only at hSw); have e0 := (hSw.cell (p := ⟨b, o + (z + 1) * 2, none⟩) (lt_of_cell e0)).trans e0; have e1 := (hSw.cell (p := ⟨b, o + (z + 1) * 2 + 1, none⟩) (lt_of_cell e1)).trans e1; have d0 := (hSw.cell (p := ⟨b2, o2 + k * 2, none⟩) (lt_of_cell d0)).trans d0; have d1 := (hSw.cell (p := ⟨b2, o2 + k * 2 + 1, none⟩) (lt_of_cell d1)).trans d1; go_simp; (try (intro hx9; omega))⟩) hS0 ?_
                  try simp only [Act.put, List.setIfInBounds_toArray, List.set_cons_zero, List.set_cons_succ]
                  refine wpAnyH_take (i := 17) (oi := { dst := some 17, op := Op.assign (Operand.tmp 147), type := 4, pos := "outright.go:120", after := #[{ on := 16, ground := Ground.data }, { on := 1, ground := Ground.chain }, { on := 0, ground := Ground.phase }, { on := 1, ground := Ground.phase }, { on := 2, ground := Ground.phase }, { on := 3, ground := Ground.phase }, { on := 4, ground := Ground.phase }, { on := 5, ground := Ground.phase }, { on := 6, ground := Ground.phase }, { on := 7, ground := Ground.phase }, { on := 8, ground := Ground.phase }, { on := 9, ground := Ground.phase }, { on := 10, ground := Ground.phase }, { on := 11, ground := Ground.phase }, { on := 12, ground := Ground.phase }, { on := 13, ground := Ground.phase }, { on := 14, ground := Ground.phase }, { on := 15, ground := Ground.phase }, { on := 16, ground := Ground.phase }], guard := none }) (v := .bool false) rfl (by kernel_rfl) (by kernel_rfl) (by kernel_rfl) (fun _ _ _ h => h) (Or.inl ⟨by rfl, by intro w2 hSw; (try dsimp only at hSw); have e0 := (hSw.cell (p := ⟨b, o + (z + 1) * 2, none⟩) (lt_of_cell e0)).trans e0; have e1 := (hSw.cell (p := ⟨b, o + (z + 1) * 2 + 1, none⟩) (lt_of_cell e1)).trans e1; have d0 := (hSw.cell (p := ⟨b2, o2 + k * 2, none⟩) (lt_of_cell d0)).trans d0; have d1 := (hSw.cell (p := ⟨b2, o2 + k * 2 + 1, none⟩) (lt_of_cell d1)).trans d1; go_simp; (try (intro hx9; omega))⟩) hS0 ?_
                  try simp only [Act.put, List.setIfInBounds_toArray, List.set_cons_zero, List.set_cons_succ]
                  refine wpAnyH_done (by kernel_rfl) ?_ _
                  have HX2 := Lib.hid (And.intro (Ks.next hS0 K.out) (And.intro (S1.out.below hS0 (Nat.le_refl _)) (S3.out.below hS0 (Nat.le_refl _))))
                  clear hS0 e0 e1 d0 d1 i0 i1 i5 i6 hrr p1 p2 p4 p5 p6 p7 p8
                  go_wp2_with fail
                  go_roundw
                  case rel => exact ⟨k + 1, by go_num, by omega, by rw [HfT.out], HX2.out⟩
                  case measure => simp [intOf]; omega
            · have i1 : ¬ (k : Int) < (m3 : Int) := by omega
              obtain rfl : k = m3 := by omega
              rw [Hfe.out]
              by_cases h30 : 30 < N
              · have d30 : (30 : Int) < (N : Int) := by omega
                go_wp2_with fail
                refine (works13 _).mono ?_
                rintro e w9 ⟨rfl, hb⟩
                have HB := Lib.hid (K.out.k.next hb)
                clear hb
                go_wp2_with fail
                go_ret
                exact ⟨rfl, HB.out.below⟩
              · have d30 : ¬ (30 : Int) < (N : Int) := by omega
                have hN30 : N ≤ 30 := by omega
                go_wp2_with fail
                go_loopw [19, 20] (fun v i wr => ∃ k : Nat, i = .int .i64 ((k + 1 : Nat) : Int) ∧ k + 1 ≤ n ∧ v = .int .i64 ((shN ⟨ps, off, ⟨lo, hi⟩⟩ L k : Nat) : Int) ∧ Ks w B A n cap off lo hi ps C2 m2 (passL ⟨ps, off, ⟨lo, hi⟩⟩) wr ∧ Sts wr (some ⟨b, o, none⟩) n (L.map stC)) (fun _ i _ => n - (intOf i).toNat)
                case atStart => exact ⟨0, by rfl, by omega, by rfl, K.out, S1.out⟩
                case round =>
                  clear K S1 S3 d30 h30 i1 hlt hk
                  obtain ⟨k, rfl, hk, rfl, hK, hS1⟩ := hrel
                  have K := Lib.hid hK
                  have S1 := Lib.hid hS1
                  clear hK
                  by_cases hlt : k + 1 < n
                  · obtain ⟨b', o', e', hc⟩ := hS1.2 (by omega)
                    obtain ⟨rfl, rfl⟩ : b = b' ∧ o = o' := by cases e'; exact ⟨rfl, rfl⟩
                    have hkL : k < L.length := by rw [Hlen.out]; omega
                    have hkL2 : k + 1 < L.length := by rw [Hlen.out]; exact hlt
                    obtain ⟨e0, e1⟩ := hc k (by omega)
                    obtain ⟨d0, d1⟩ := hc (k + 1) hlt
                    rw [sAt_map hkL] at e0 e1
                    rw [sAt_map hkL2] at d0 d1
                    have hsh := shN_succ ⟨ps, off, ⟨lo, hi⟩⟩ L k
                    rw [List.getD_eq_getElem?_getD, List.getElem?_eq_getElem hkL, List.getD_eq_getElem?_getD, List.getElem?_eq_getElem hkL2] at hsh
                    simp only [Option.getD_some] at hsh
                    obtain ⟨x, hx⟩ : ∃ x, L[k] = x := ⟨_, rfl⟩
                    obtain ⟨y, hy⟩ : ∃ y, L[k + 1] = y := ⟨_, rfl⟩
                    rw [hx] at e0 e1 hsh
                    rw [hy] at d0 d1 hsh
                    obtain ⟨u, hu⟩ : ∃ u, stC x = u := ⟨_, rfl⟩
                    obtain ⟨v, hv⟩ : ∃ v, stC y = v := ⟨_, rfl⟩
                    rw [hu] at e0 e1
                    rw [hv] at d0 d1
                    obtain ⟨up, ut⟩ := u
                    obtain ⟨vp, vt⟩ := v
                    simp only at e0 e1 d0 d1
                    have hsl := shN_le ⟨ps, off, ⟨lo, hi⟩⟩ L k
                    obtain ⟨sk, hsk⟩ : ∃ sk, shN ⟨ps, off, ⟨lo, hi⟩⟩ L k = sk := ⟨_, rfl⟩
                    rw [hsk] at hsh hsl ⊢
                    have Hsh := Lib.hid hsh
                    have Hu := Lib.hid hu
                    have Hv := Lib.hid hv
                    have G : P2 wr b (o + k * 2) (o + (k + 1) * 2) (.int .i64 up) (.bool ut) (.int .i64 vp) (.bool vt) wr := ⟨Below.refl _ _, lt_of_cell e0, e0, e1, d0, d1⟩
                    obtain ⟨hG, e0, e1, d0, d1⟩ := G.all
                    have i2 : ((k + 1 : Nat) : Int) < (n : Int) := by omega
                    have i3 : (0 : Int) ≤ ((k + 1 : Nat) : Int) := by omega
                    have i4 : (0 : Int) ≤ (k : Int) := by omega
                    have i5 : (k : Int) < (n : Int) := by omega
                    have i6 : ((k : Int) + 1).toNat = k + 1 := by omega
                    have i8 : (0 : Int) ≤ (k : Int) + 1 := by omega
                    have i9 : (k : Int) + 1 < (n : Int) := by omega
                    have i7 : IntKind.i64.wrap (k : Int) = (k : Int) := IntWalk.i64_in _ ⟨by omega, by omega⟩
                    clear hc hS1 hkL hkL2 hx hy hu hv hsk hsh G
                    go_wp2_with fail
                    go_region_held3 (fun w' => P2 wr b (o + k * 2) (o + (k + 1) * 2) (.int .i64 up) (.bool ut) (.int .i64 vp) (.bool vt) w' ∧ w'.cell? ⟨b, o + k * 2, none⟩ = some (.int .i64 up) ∧ w'.cell? ⟨b, o + k * 2 + 1, none⟩ = some (.bool ut) ∧ w'.cell? ⟨b, o + (k + 1) * 2, none⟩ = some (.int .i64 vp) ∧ w'.cell? ⟨b, o + (k + 1) * 2 + 1, none⟩ = some (.bool vt))
                      (first | (go_split_ands; exact P2.all (P2.next (by assumption) (by assumption))) | (go_split_ands; exact P2.all (P2.next (below_alloc_ _ _) (by assumption))) | (go_split_ands; exact P2.all (P2.next (drew_b _ _) (by assumption))) | exact P2.all (P2.next (below_alloc_ _ _) hG) | exact P2.all (P2.next (drew_b _ _) (P2.next (below_alloc_ _ _) hG)))
                      (fail)
                    clear i2 i3 i5 i6 i7 i8 i9 e0 e1 d0 d1 hG
                    have hW5 : Below wr.heap.size wr (wr.alloc (.cells #[.int .i64 up, .bool ut, .int .i64 vp, .bool vt] 57)).drew := (below_alloc_ _ _).trans ((drew_b _ _).mono (below_alloc_ _ _).size)
                    have hR5 : (wr.alloc (.cells #[.int .i64 up, .bool ut, .int .i64 vp, .bool vt] 57)).drew.heap[wr.heap.size]? = some (.cells #[.int .i64 up, .bool ut, .int .i64 vp, .bool vt] 57 (0, 0)) := heap_alloc_new_ _ _
                    generalize (wr.alloc (.cells #[.int .i64 up, .bool ut, .int .i64 vp, .bool vt] 57)).drew = W5 at *
                    obtain ⟨X, hX⟩ : ∃ X, wr.heap.size = X := ⟨_, rfl⟩
                    have K5 := Lib.hid (Ks.next hW5 K.out)
                    have S5 := Lib.hid (S1.out.below hW5 (Nat.le_refl _))
                    rw [hX] at hR5 ⊢
                    have R5 := Lib.hid hR5
                    clear hR5 hW5 hX K S1
                    go_wp2_with fail
                    go_loopw [22, 23] (fun v i wr => ∃ m : Nat, i = .int .i64 (m : Int) ∧ m ≤ N ∧ v = .bool (allT ⟨ps, off, ⟨lo, hi⟩⟩ x y m) ∧ Ks w B A n cap off lo hi ps C2 m2 (passL ⟨ps, off, ⟨lo, hi⟩⟩) wr ∧ Sts wr (some ⟨b, o, none⟩) n (L.map stC) ∧ wr.heap[X]? = some (.cells #[.int .i64 up, .bool ut, .int .i64 vp, .bool vt] 57 (0, 0))) (fun _ i _ => N - (intOf i).toNat)
                    case atStart => exact ⟨0, by rfl, Nat.zero_le _, by rfl, K5.out, S5.out, R5.out⟩
                    case round =>
                      clear K5 S5 R5
                      obtain ⟨m, rfl, hm, rfl, hK, hS1, hR⟩ := hrel
                      have K := Lib.hid hK
                      have S1 := Lib.hid hS1
                      have R1 := Lib.hid hR
                      clear hS1
                      by_cases hlm : m < N
                      · obtain ⟨c0, c1, c2, c3⟩ := hK.k.c
                        have hmj : m < (joinsC ⟨ps, off, ⟨lo, hi⟩⟩).length := by rw [HN.out]; exact hlm
                        have hnm := nth_at He.out hmj
                        have hat := allT_succ (x := x) (y := y) hmj
                        have hm8 := (join_way (List.getElem_mem hmj)).1
                        obtain ⟨M, hM⟩ : ∃ M, (joinsC ⟨ps, off, ⟨lo, hi⟩⟩)[m] = M := ⟨_, rfl⟩
                        rw [hM] at hnm hat hm8
                        have hhb := hasB_codes M x y
                        rw [Hu.out, Hv.out] at hhb
                        obtain ⟨av, hav⟩ : ∃ av, allT ⟨ps, off, ⟨lo, hi⟩⟩ x y m = av := ⟨_, rfl⟩
                        rw [hav] at hat ⊢
                        have Hnm := Lib.hid hnm
                        have Hat := Lib.hid hat
                        have Hhb := Lib.hid hhb
                        have Hm8 := Lib.hid hm8
                        have g0 : (m : Int) < (N : Int) := by omega
                        clear hK hR hmj hnm hat hm8 hM hhb hav
                        go_wp2_with fail
                        refine (nth23 A n cap off lo hi (m : Int) ps _ K.out.k.pcs Hn.out).mono ?_
                        rintro e w6 ⟨C5, m5, rfl, hs5, hb⟩
                        rw [Hnm.out] at hs5 ⊢
                        have hm5 : m5 ≤ 8 := by
                          have h1 := hs5.1
                          have h2 := Hm8.out
                          have h3 : ps.length ≤ 8 := H8.out.2.1
                          rw [List.length_map] at h1
                          omega
                        have S5 := Lib.hid hs5
                        replace K := Lib.hid (Ks.next hb K.out)
                        replace S1 := Lib.hid (S1.out.below hb (Nat.le_refl _))
                        replace R1 := Lib.hid ((hb.block _ (lt_of_block R1.out)).trans R1.out)
                        clear c0 c1 c2 c3 hb hs5
                        have r0 : w6.cell? ⟨X, 0, none⟩ = some (.int .i64 up) := by rw [cell_row R1.out]; rfl
                        have r1 : w6.cell? ⟨X, 1, none⟩ = some (.bool ut) := by rw [cell_row R1.out]; rfl
                        have r2 : w6.cell? ⟨X, 2, none⟩ = some (.int .i64 vp) := by rw [cell_row R1.out]; rfl
                        have r3 : w6.cell? ⟨X, 3, none⟩ = some (.bool vt) := by rw [cell_row R1.out]; rfl
                        cases av with
                        | true =>
                          go_wp2_with fail
                          refine (has37 C5 m5 m5 (M.map stC) up vp ut vt _ S5.out (by omega)).mono ?_
                          rintro e w7 ⟨rfl, hb⟩
                          rw [Hhb.out]
                          replace K := Lib.hid (Ks.next hb K.out)
                          replace S1 := Lib.hid (S1.out.below hb (Nat.le_refl _))
                          replace R1 := Lib.hid ((hb.block _ (lt_of_block R1.out)).trans R1.out)
                          have hv2 := Lib.hid (show allT ⟨ps, off, ⟨lo, hi⟩⟩ x y (m + 1) = hasP M x y by rw [Hat.out, Bool.true_and])
                          clear r0 r1 r2 r3 hb S5
                          go_wp2_with fail
                          go_roundw
                          case rel => exact ⟨m + 1, by go_num, by omega, by rw [hv2.out], K.out, S1.out, R1.out⟩
                          case measure => simp [intOf]; omega
                        | false =>
                          have hv2 := Lib.hid (show allT ⟨ps, off, ⟨lo, hi⟩⟩ x y (m + 1) = false by rw [Hat.out, Bool.false_and])
                          go_wp2_with fail
                          clear r0 r1 r2 r3 S5
                          go_roundw
                          case rel => exact ⟨m + 1, by go_num, by omega, by rw [hv2.out], K.out, S1.out, R1.out⟩
                          case measure => simp [intOf]; omega
                      · have g0 : ¬ (m : Int) < (N : Int) := by omega
                        obtain rfl : m = N := by omega
                        have hae := allT_end (c := ⟨ps, off, ⟨lo, hi⟩⟩) (x := x) (y := y)
                        rw [HN.out] at hae
                        obtain ⟨sb, hsb⟩ : ∃ sb, sharedB (tabOf ⟨ps, off, ⟨lo, hi⟩⟩) (codesL ps) ps.length x y = sb := ⟨_, rfl⟩
                        rw [show sharedB (tabOf ⟨ps, off, ⟨lo, hi⟩⟩) (codesL (⟨ps, off, ⟨lo, hi⟩⟩ : Cy).ps) (⟨ps, off, ⟨lo, hi⟩⟩ : Cy).ps.length x y = sb from hsb] at hae
                        rw [hae]
                        have hs2 := Hsh.out
                        clear hae hK hR
                        cases sb with
                        | true =>
                          have Hs2 := Lib.hid (show shN ⟨ps, off, ⟨lo, hi⟩⟩ L (k + 1) = sk + 1 from hs2.trans (congrArg (fun z => sk + z) (if_pos hsb)))
                          clear hs2 hsb
                          go_wp2_with fail
                          go_roundw
                          case rel => exact ⟨k + 1, by go_num, by omega, by rw [Hs2.out]; go_num, K.out, S1.out⟩
                          case measure => simp [intOf]; omega
                        | false =>
                          have Hs2 := Lib.hid (show shN ⟨ps, off, ⟨lo, hi⟩⟩ L (k + 1) = sk from hs2.trans (congrArg (fun z => sk + z) (if_neg (fun e => by cases hsb.symm.trans e))))
                          clear hs2 hsb
                          go_wp2_with fail
                          go_roundw
                          case rel => exact ⟨k + 1, by go_num, by omega, by rw [Hs2.out], K.out, S1.out⟩
                          case measure => simp [intOf]; omega
                  · have i2 : ¬ ((k + 1 : Nat) : Int) < (n : Int) := by omega
                    have i3 : ¬ (k : Int) + 1 < (n : Int) := by omega
                    have hps := pass_sh Hmem.out
                    rw [Hpl.out, Hlen.out, show n - 1 = k by omega] at hps
                    rw [← hps]
                    clear hps
                    go_wp2_with fail
                    refine (works13 _).mono ?_
                    rintro e w9 ⟨rfl, hb⟩
                    have HB := Lib.hid (K.out.k.next hb)
                    clear hb
                    go_wp2_with fail
                    go_ret
                    exact ⟨rfl, HB.out.below⟩
end Go.Proofs.Ytfmcfalghbaanaa
