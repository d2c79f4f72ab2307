/- Stage 2: the walk of JoinReversed. -/
import Derived.Test.YtfmcfalghbaanaaCpy
import Derived.Shelf.RegionOpen
import Derived.Deep.RegionHeld3
import Derived.IntWalk
namespace Go.Proofs.Ytfmcfalghbaanaa
set_option linter.unusedSimpArgs false
set_option linter.unusedVariables false
open Go.RowKit Go.Shelf
attribute [local go_sem] Oper.semAt_some
attribute [local go_sem ↓] exec_app
attribute [local go_sem ↓] at_app

/-- Two cylinders in memory. -/
structure Kv (w : World) (B D : Nat) (A : Option Addr) (n cap : Nat) (off lo hi : Int) (ps : List Pc) (off2 lo2 hi2 : Int) (qs : List Pc) (C : Option Addr) (m cp : Nat) (W : World) : Prop where
  k : Kz w B A n cap off lo hi ps none 0 [] W
  q : Pcs W C m qs
  r1 : W.heap[D]? = some (.cells #[.slice C m cp, .int .i64 off2, .int .i64 lo2, .int .i64 hi2] 26 (0, 0))
section
variable {w : World} {B D : Nat} {A : Option Addr} {n cap : Nat} {off lo hi : Int} {ps : List Pc} {off2 lo2 hi2 : Int} {qs : List Pc} {C : Option Addr} {m cp : Nat} {W W' : World}
theorem Kv.next (hb : Below W.heap.size W W') (h : Kv w B D A n cap off lo hi ps off2 lo2 hi2 qs C m cp W) : Kv w B D A n cap off lo hi ps off2 lo2 hi2 qs C m cp W' :=
  ⟨h.k.next hb, h.q.below hb (Nat.le_refl _), (hb.block _ (lt_of_block h.r1)).trans h.r1⟩
theorem Kv.c (h : Kv w B D A n cap off lo hi ps off2 lo2 hi2 qs C m cp W) :
    W.cell? ⟨B, 0, none⟩ = some (.slice A n cap) ∧ W.cell? ⟨B, 1, none⟩ = some (.int .i64 off) ∧ W.cell? ⟨B, 2, none⟩ = some (.int .i64 lo) ∧ W.cell? ⟨B, 3, none⟩ = some (.int .i64 hi) ∧
    W.cell? ⟨D, 0, none⟩ = some (.slice C m cp) ∧ W.cell? ⟨D, 1, none⟩ = some (.int .i64 off2) ∧ W.cell? ⟨D, 2, none⟩ = some (.int .i64 lo2) ∧ W.cell? ⟨D, 3, none⟩ = some (.int .i64 hi2) :=
  ⟨h.k.c.1, h.k.c.2.1, h.k.c.2.2.1, h.k.c.2.2.2, by rw [cell_row h.r1]; rfl, by rw [cell_row h.r1]; rfl, by rw [cell_row h.r1]; rfl, by rw [cell_row h.r1]; rfl⟩
end

structure Kc (w : World) (B D : Nat) (A : Option Addr) (n cap : Nat) (off lo hi : Int) (ps : List Pc) (off2 lo2 hi2 : Int) (qs : List Pc) (C : Option Addr) (m cp : Nat) (W : World) : Prop where
  v : Kv w B D A n cap off lo hi ps off2 lo2 hi2 qs C m cp W
section
variable {w : World} {B D : Nat} {A : Option Addr} {n cap : Nat} {off lo hi : Int} {ps : List Pc} {off2 lo2 hi2 : Int} {qs : List Pc} {C : Option Addr} {m cp : Nat} {W W' : World}
theorem Kc.next (hb : Below W.heap.size W W') (h : Kc w B D A n cap off lo hi ps off2 lo2 hi2 qs C m cp W) : Kc w B D A n cap off lo hi ps off2 lo2 hi2 qs C m cp W' := ⟨Kv.next hb h.v⟩
theorem Kc.all (h : Kc w B D A n cap off lo hi ps off2 lo2 hi2 qs C m cp W) : Kc w B D A n cap off lo hi ps off2 lo2 hi2 qs C m cp W ∧
    W.cell? ⟨B, 0, none⟩ = some (.slice A n cap) ∧ W.cell? ⟨B, 1, none⟩ = some (.int .i64 off) ∧ W.cell? ⟨B, 2, none⟩ = some (.int .i64 lo) ∧ W.cell? ⟨B, 3, none⟩ = some (.int .i64 hi) :=
  ⟨h, h.v.k.c⟩
end
theorem eq4 (u0 y0 v0 x0 : Nat) (u1 y1 v1 x1 : Bool) (w : World) : (if (u0 : Int) = (y0 : Int) then
      if u1 = y1 then
        if (v0 : Int) = (x0 : Int) then
          if v1 = x1 then Result.ok (Next.value (Value.bool true)) w else Result.ok (Next.value (Value.bool false)) w
        else Result.ok (Next.value (Value.bool false)) w
      else Result.ok (Next.value (Value.bool false)) w
    else Result.ok (Next.value (Value.bool false)) w) = Result.ok (Next.value (Value.bool (decide (u0 = y0) && u1 == y1 && decide (v0 = x0) && v1 == x1))) w := by
  have a : ((u0 : Int) = (y0 : Int)) = (u0 = y0) := by rw [eq_iff_iff]; omega
  have b : ((v0 : Int) = (x0 : Int)) = (v0 = x0) := by rw [eq_iff_iff]; omega
  simp only [a, b]
  by_cases h0 : u0 = y0 <;> by_cases h1 : u1 = y1 <;> by_cases h2 : v0 = x0 <;> by_cases h3 : v1 = x1 <;> simp [h0, h1, h2, h3]

set_option maxRecDepth 100000 in
set_option maxHeartbeats 20000000 in
theorem reversed10 (A : Option Addr) (n cap : Nat) (off lo hi : Int) (num : Nat) (ps : List Pc) (w : World) (h : Pcs w A n ps) (hn : n ≤ 9223372036854775807) (hnum : num ≤ 4294967295) :
    Calls Try.prog 10 #[cyl A n cap off lo hi, .int .u32 (num : Int)] w fun e w' => e = .returned (.bool true) ∧ Below w.heap.size w w' := by
  have hk : Kz w w.heap.size A n cap off lo hi ps none 0 [] _ := Kz.new (cap := cap) (off := off) (lo := lo) (hi := hi) h ⟨rfl, by omega⟩
  have K := Lib.hid hk
  have Hp := Lib.hid h
  have Hn := Lib.hid hn
  have Hnum := Lib.hid hnum
  clear hnum
  clear h hn hk
  unfold cyl
  go_enter Try.func10, Try.ntmps10
  go_wp2_with fail
  have HB0 := Lib.hid (Nat.le_refl w.heap.size)
  generalize (w.alloc (.cells #[.slice A n cap, .int .i64 off, .int .i64 lo, .int .i64 hi] 26)) = W0 at K ⊢
  obtain ⟨B, hB⟩ : ∃ B, w.heap.size = B := ⟨_, rfl⟩
  replace K := Lib.hid (show Kz w B A n cap off lo hi ps none 0 [] W0 from by rw [← hB]; exact K.out)
  replace HB0 := Lib.hid (show w.heap.size ≤ B from by omega)
  rw [hB]
  clear hB
  refine (fine35 A n cap off lo hi ps W0 K.out.pcs Hn.out).mono ?_
  rintro e W1 ⟨rfl, hb⟩
  replace K := Lib.hid (K.out.next hb)
  clear hb
  obtain ⟨f, hf⟩ : ∃ f, fineB ⟨ps, off, ⟨lo, hi⟩⟩ = f := ⟨_, rfl⟩
  rw [hf]
  have Hf := Lib.hid hf
  clear hf
  cases f with
  | false =>
    go_wp2_with fail
    refine (works13 _).mono ?_
    rintro e W2 ⟨rfl, hb⟩
    have HB := Lib.hid (K.out.next hb)
    clear hb
    go_wp2_with fail
    go_ret
    exact ⟨rfl, HB.out.below⟩
  | true =>
    have he : chkC ⟨ps, off, ⟨lo, hi⟩⟩ = 0 := by
      have := Hf.out
      unfold fineB at this
      simp only [Bool.and_eq_true, decide_eq_true_eq] at this
      exact this.2
    have He := Lib.hid he
    have H8 := Lib.hid (chkC_facts he)
    obtain ⟨b1, b2, b3, b4, b5, b6, b7, -⟩ := chkC_facts he
    have hnl := K.out.pcs.1
    have hn8 : 1 ≤ n ∧ n ≤ 8 := by rw [← hnl]; exact ⟨b1, b2⟩
    obtain ⟨hn1, hn2⟩ := hn8
    have b3 : 0 ≤ off := b3
    have b4 : off ≤ 1000 := b4
    have b5 : -100000 ≤ lo := b5
    have b6 : lo ≤ hi := b6
    have b7 : hi ≤ 100000 := b7
    clear he b1 b2 hnl
    obtain ⟨c0, c1, c2, c3⟩ := K.out.c
    go_wp2_with fail
    have hG := Kg.new (off2 := off) (lo2 := -hi) (hi2 := -lo) Hp.out K.out HB0.out
    have hqs : ([] : List Pc) = (ps.take 0).map swP := rfl
    generalize (W1.alloc (.cells #[.slice none 0 0, .int .i64 off, .int .i64 (-hi), .int .i64 (-lo)] 26)) = V0 at hG ⊢
    generalize W1.heap.size = D at hG ⊢
    have G := Lib.hid hG
    clear hG c0 c1 c2 c3 K hqs
    go_loopw [6] (fun i wr => ∃ (k : Nat) (C : Option Addr) (cp : Nat), i = .int .i64 (k : Int) ∧ k ≤ n ∧ Kg w B D A n cap off lo hi ps off (-hi) (-lo) ((ps.take k).map swP) C cp wr) (fun i _ => n - (intOf i).toNat)
    case atStart => exact ⟨0, none, 0, by rfl, Nat.zero_le _, G.out⟩
    case round =>
      clear G
      obtain ⟨k, C, cp, rfl, hk, hG⟩ := hrel
      have G := Lib.hid hG
      clear hG
      obtain ⟨c0, c1, c2, c3⟩ := G.out.k.c
      by_cases hlt : k < n
      · have hpl := G.out.k.pcs.1
        have hql : ((ps.take k).map swP).length = k := by simp; omega
        obtain ⟨b, o, rfl, -⟩ := G.out.k.pcs.2 (by omega)
        obtain ⟨e0, e1, e2, e3, e4, e5, e6⟩ := pcs_cells G.out.k.pcs hlt
        have hsn : (ps.take k).map swP ++ [swP (pAt ps k)] = (ps.take (k + 1)).map swP := by
          rw [List.take_succ_eq_append_getElem (by omega), List.map_append]
          simp [pAt, show k < ps.length by omega]
        obtain ⟨p, hp⟩ : ∃ p, pAt ps k = p := ⟨_, rfl⟩
        rw [hp] at e0 e1 e2 e3 e4 e5 e6 hsn
        obtain ⟨⟨⟨l1, h1⟩, p1⟩, ⟨⟨l2, h2⟩, p2⟩, lz⟩ := p
        have hX1 := below_alloc_ wr (.cells #[.int .i64 l1, .int .i64 h1, .int .i64 p1, .int .i64 l2, .int .i64 h2, .int .i64 p2, .bool lz] 62)
        have hX2 := below_alloc_ (wr.alloc (.cells #[.int .i64 l1, .int .i64 h1, .int .i64 p1, .int .i64 l2, .int .i64 h2, .int .i64 p2, .bool lz] 62)) (.cells #[.int .i64 l2, .int .i64 h2, .int .i64 p2, .int .i64 l1, .int .i64 h1, .int .i64 p1, .bool lz] 62)
        have hZ : ((wr.alloc (.cells #[.int .i64 l1, .int .i64 h1, .int .i64 p1, .int .i64 l2, .int .i64 h2, .int .i64 p2, .bool lz] 62)).alloc (.cells #[.int .i64 l2, .int .i64 h2, .int .i64 p2, .int .i64 l1, .int .i64 h1, .int .i64 p1, .bool lz] 62)).heap[wr.heap.size + 1]? = some (.cells #[.int .i64 l2, .int .i64 h2, .int .i64 p2, .int .i64 l1, .int .i64 h1, .int .i64 p1, .bool lz] 62 (0, 0)) := by
          have := heap_alloc_new_ (wr.alloc (.cells #[.int .i64 l1, .int .i64 h1, .int .i64 p1, .int .i64 l2, .int .i64 h2, .int .i64 p2, .bool lz] 62)) (.cells #[.int .i64 l2, .int .i64 h2, .int .i64 p2, .int .i64 l1, .int .i64 h1, .int .i64 p1, .bool lz] 62)
          rwa [show (wr.alloc (.cells #[.int .i64 l1, .int .i64 h1, .int .i64 p1, .int .i64 l2, .int .i64 h2, .int .i64 p2, .bool lz] 62)).heap.size = wr.heap.size + 1 from by simp] at this
        obtain ⟨C', cp', W', hrun, hd, hf, hG'⟩ := ((G.out.next hX1).next hX2).app (p := swP ⟨⟨⟨l1, h1⟩, p1⟩, ⟨⟨l2, h2⟩, p2⟩, lz⟩) hZ (by rw [hql]; omega)
        have KX1 := (G.out.next hX1).c
        have KX2 := (G.out.next hX1).k.c
        rw [hql] at hrun hd hG' KX1
        obtain ⟨d0, -, -, -, -⟩ := KX1
        have y0 := heap_alloc_new_ wr (.cells #[.int .i64 l1, .int .i64 h1, .int .i64 p1, .int .i64 l2, .int .i64 h2, .int .i64 p2, .bool lz] 62)
        have z0 : (wr.alloc (.cells #[.int .i64 l1, .int .i64 h1, .int .i64 p1, .int .i64 l2, .int .i64 h2, .int .i64 p2, .bool lz] 62)).cell? ⟨wr.heap.size, 0, none⟩ = some (.int .i64 l1) := by rw [cell_row y0]; rfl
        have z1 : (wr.alloc (.cells #[.int .i64 l1, .int .i64 h1, .int .i64 p1, .int .i64 l2, .int .i64 h2, .int .i64 p2, .bool lz] 62)).cell? ⟨wr.heap.size, 1, none⟩ = some (.int .i64 h1) := by rw [cell_row y0]; rfl
        have z2 : (wr.alloc (.cells #[.int .i64 l1, .int .i64 h1, .int .i64 p1, .int .i64 l2, .int .i64 h2, .int .i64 p2, .bool lz] 62)).cell? ⟨wr.heap.size, 2, none⟩ = some (.int .i64 p1) := by rw [cell_row y0]; rfl
        have z3 : (wr.alloc (.cells #[.int .i64 l1, .int .i64 h1, .int .i64 p1, .int .i64 l2, .int .i64 h2, .int .i64 p2, .bool lz] 62)).cell? ⟨wr.heap.size, 3, none⟩ = some (.int .i64 l2) := by rw [cell_row y0]; rfl
        have z4 : (wr.alloc (.cells #[.int .i64 l1, .int .i64 h1, .int .i64 p1, .int .i64 l2, .int .i64 h2, .int .i64 p2, .bool lz] 62)).cell? ⟨wr.heap.size, 4, none⟩ = some (.int .i64 h2) := by rw [cell_row y0]; rfl
        have z5 : (wr.alloc (.cells #[.int .i64 l1, .int .i64 h1, .int .i64 p1, .int .i64 l2, .int .i64 h2, .int .i64 p2, .bool lz] 62)).cell? ⟨wr.heap.size, 5, none⟩ = some (.int .i64 p2) := by rw [cell_row y0]; rfl
        have z6 : (wr.alloc (.cells #[.int .i64 l1, .int .i64 h1, .int .i64 p1, .int .i64 l2, .int .i64 h2, .int .i64 p2, .bool lz] 62)).cell? ⟨wr.heap.size, 6, none⟩ = some (.bool lz) := by rw [cell_row y0]; rfl
        have i0 : (0 : Int) ≤ (k : Int) := by omega
        have i1 : (k : Int) < (n : Int) := by omega
        rw [hsn] at hG'
        have HG := Lib.hid hG'
        clear hG' hsn hp hql hpl hX1 hX2 hZ y0 KX2
        go_wp2_with fail
        go_roundw
        case rel => exact ⟨k + 1, C', cp', by go_num, by omega, HG.out⟩
        case measure => simp [intOf]; omega
      · have i1 : ¬ (k : Int) < (n : Int) := by omega
        obtain rfl : n = k := by omega
        have hpl := G.out.k.pcs.1
        have hql : ((ps.take n).map swP).length = n := by simp; omega
        have hqe : (ps.take n).map swP = ps.map swP := by rw [List.take_of_length_le (by omega)]
        have hKv : Kv w B D A n cap off lo hi ps off (-hi) (-lo) (ps.map swP) C n cp wr := by
          have h1 := G.out.q
          have h2 := G.out.r1
          rw [hql] at h1 h2
          rw [hqe] at h1
          exact ⟨G.out.k, h1, h2⟩
        have K := Lib.hid hKv
        obtain ⟨P, P', e, hP, hP', hPl, hP8, hPP⟩ := rev_passR He.out
        have HP := Lib.hid hP
        have HP' := Lib.hid (show passR ⟨ps.map swP, off, ⟨-hi, -lo⟩⟩ = (P', e) from hP')
        have HPl := Lib.hid hPl
        have HPP := Lib.hid hPP
        obtain ⟨N, hN⟩ : ∃ N, (joinsC ⟨ps, off, ⟨lo, hi⟩⟩).length = N := ⟨_, rfl⟩
        have HN := Lib.hid hN
        have Hc1 := Lib.hid (show countR ⟨ps, off, ⟨lo, hi⟩⟩ = ((N : Int), 0) from by rw [countR_ok He.out, HN.out])
        have Hc2 := Lib.hid (show countR ⟨ps.map swP, off, ⟨-hi, -lo⟩⟩ = ((N : Int), 0) from by
          rw [show (⟨ps.map swP, off, ⟨-hi, -lo⟩⟩ : Cy) = revC ⟨ps, off, ⟨lo, hi⟩⟩ from rfl, countR_ok (rev_chk He.out), rev_count, HN.out])
        clear hpl hql hqe hKv G hP hP' hPl hPP hN c0 c1 c2 c3 hlt hk
        obtain ⟨c0, c1, c2, c3, d0, d1, d2, d3⟩ := K.out.c
        go_wp2_with fail
        refine (count21 A n cap off lo hi ps _ K.out.k.pcs Hn.out).mono ?_
        rintro e2 W2 ⟨rfl, hb⟩
        rw [Hc1.out]
        replace K := Lib.hid (Kv.next hb K.out)
        clear hb c0 c1 c2 c3 d0 d1 d2 d3 i1
        obtain ⟨c0, c1, c2, c3, d0, d1, d2, d3⟩ := K.out.c
        go_wp2_with fail
        refine (count21 C n cp off (-hi) (-lo) (ps.map swP) _ K.out.q Hn.out).mono ?_
        rintro e2 W3 ⟨rfl, hb⟩
        rw [Hc2.out]
        replace K := Lib.hid (Kv.next hb K.out)
        clear hb c0 c1 c2 c3 d0 d1 d2 d3
        obtain ⟨c0, c1, c2, c3, d0, d1, d2, d3⟩ := K.out.c
        go_wp2_with fail
        refine (pass30 A n cap off lo hi ps _ K.out.k.pcs Hn.out).mono ?_
        rintro e2 W4 ⟨C2, m2, cp2, rfl, hcp2, hp2, hb⟩
        rw [HP.out] at hp2 ⊢
        have S2 := Lib.hid hp2
        have Hcp2 := Lib.hid hcp2
        replace K := Lib.hid (Kv.next hb K.out)
        clear hb c0 c1 c2 c3 d0 d1 d2 d3 hp2 hcp2
        obtain ⟨c0, c1, c2, c3, d0, d1, d2, d3⟩ := K.out.c
        go_wp2_with fail
        refine (pass30 C n cp off (-hi) (-lo) (ps.map swP) _ K.out.q Hn.out).mono ?_
        rintro e2 W5 ⟨C3, m3, cp3, rfl, hcp3, hp3, hb⟩
        rw [HP'.out] at hp3 ⊢
        obtain rfl : m2 = m3 := by rw [← hp3.1, HPl.out, ← S2.out.1]
        have Hpl := Lib.hid S2.out.1
        have hm2 : m2 ≤ 256 := by rw [← S2.out.1]; exact hP8
        have S3 := Lib.hid hp3
        have Hcp3 := Lib.hid hcp3
        replace S2 := Lib.hid (S2.out.below hb (Nat.le_refl _))
        replace K := Lib.hid (Kv.next hb K.out)
        clear hb c0 c1 c2 c3 d0 d1 d2 d3 hp3 hcp3 hP8
        have z1 : ((N : Int) != (N : Int)) = false := by simp
        have z2 : (e != e) = false := by simp
        have z3 : ((m2 : Int) != (m2 : Int)) = false := by simp
        have z4 : decide ((N : Int) < 0) = false := decide_eq_false (by omega)
        have Hb := Lib.hid (And.intro b3 (And.intro b4 (And.intro b5 (And.intro b6 b7))))
        clear b3 b4 b5 b6 b7
        go_wp2_with fail
        clear z1 z2 z3
        go_loopw [16] (fun i wr => ∃ k : Nat, i = .int .i64 (k : Int) ∧ k ≤ m2 ∧ Kv w B D A n cap off lo hi ps off (-hi) (-lo) (ps.map swP) C n cp wr ∧ Prs wr C2 m2 P ∧ Prs wr C3 m2 P') (fun i _ => m2 - (intOf i).toNat)
        case atStart => exact ⟨0, by rfl, Nat.zero_le _, K.out, S2.out, S3.out⟩
        case round =>
          clear K S2 S3
          obtain ⟨i, rfl, hi2, hK, hS2, hS3⟩ := hrel
          have K := Lib.hid hK
          have S2 := Lib.hid hS2
          have S3 := Lib.hid hS3
          clear hK hS2 hS3
          by_cases hlt : i < m2
          · have i1 : (i : Int) < (m2 : Int) := by omega
            have hiP : i < P.length := by rw [Hpl.out]; exact hlt
            obtain ⟨x, hx⟩ : ∃ x, P[i].1 = x := ⟨_, rfl⟩
            obtain ⟨y, hy⟩ : ∃ y, P[i].2 = y := ⟨_, rfl⟩
            have hyx : (y, x) ∈ P' := HPP.out x y (by rw [← hx, ← hy]; exact List.getElem_mem hiP)
            have Hyx := Lib.hid hyx
            have Hx := Lib.hid hx
            have Hy := Lib.hid hy
            clear hx hy hyx
            go_wp2_with fail
            go_loopw [17, 18] (fun v j wr => ∃ k : Nat, j = .int .i64 (k : Int) ∧ k ≤ m2 ∧ v = .bool ((P'.take k).any fun q => decide (q = (y, x))) ∧ Kv w B D A n cap off lo hi ps off (-hi) (-lo) (ps.map swP) C n cp wr ∧ Prs wr C2 m2 P ∧ Prs wr C3 m2 P') (fun _ j _ => m2 - (intOf j).toNat)
            case atStart => exact ⟨0, by rfl, Nat.zero_le _, by rfl, K.out, S2.out, S3.out⟩
            case round =>
              clear K S2 S3
              obtain ⟨k, rfl, hk, rfl, hK, hS2, hS3⟩ := hrel
              have K := Lib.hid hK
              have S2 := Lib.hid hS2
              have S3 := Lib.hid hS3
              clear hK
              by_cases hlk : k < m2
              · obtain ⟨b2, o2, rfl, hc2⟩ := hS2.2 (by omega)
                obtain ⟨b3, o3, rfl, hc3⟩ := hS3.2 (by omega)
                have hkP : k < P'.length := by rw [HPl.out, Hpl.out]; exact hlk
                obtain ⟨q0, q1, q2, q3⟩ := flatP_at P i hiP
                obtain ⟨r0, r1, r2, r3⟩ := flatP_at P' k hkP
                have e0 : wr.cell? ⟨b2, o2 + i * 4, none⟩ = _ := (hc2 (i * 4) (by omega)).trans q0
                have e1 : wr.cell? ⟨b2, o2 + i * 4 + 1, none⟩ = _ := (hc2 (i * 4 + 1) (by omega)).trans q1
                have e2 : wr.cell? ⟨b2, o2 + i * 4 + 2, none⟩ = _ := (hc2 (i * 4 + 2) (by omega)).trans q2
                have e3 : wr.cell? ⟨b2, o2 + i * 4 + 3, none⟩ = _ := (hc2 (i * 4 + 3) (by omega)).trans q3
                have f0 : wr.cell? ⟨b3, o3 + k * 4, none⟩ = _ := (hc3 (k * 4) (by omega)).trans r0
                have f1 : wr.cell? ⟨b3, o3 + k * 4 + 1, none⟩ = _ := (hc3 (k * 4 + 1) (by omega)).trans r1
                have f2 : wr.cell? ⟨b3, o3 + k * 4 + 2, none⟩ = _ := (hc3 (k * 4 + 2) (by omega)).trans r2
                have f3 : wr.cell? ⟨b3, o3 + k * 4 + 3, none⟩ = _ := (hc3 (k * 4 + 3) (by omega)).trans r3
                rw [Hx.out] at e0 e1
                rw [Hy.out] at e2 e3
                have hany : (P'.take (k + 1)).any (fun q => decide (q = (y, x))) = ((P'.take k).any (fun q => decide (q = (y, x))) || decide (P'[k] = (y, x))) := by
                  rw [List.take_succ_eq_append_getElem hkP, List.any_append]
                  simp
                obtain ⟨qa, qb⟩ : ∃ qa, P'[k].1 = qa := ⟨_, rfl⟩
                obtain ⟨ra, rb⟩ : ∃ ra, P'[k].2 = ra := ⟨_, rfl⟩
                have hpq : P'[k] = (qa, ra) := by rw [← qb, ← rb]
                rw [qb] at f0 f1
                rw [rb] at f2 f3
                have hdec : decide (P'[k] = (y, x)) = (decide (qa / 2 = y / 2) && decide (qa % 2 = 1) == decide (y % 2 = 1) && decide (ra / 2 = x / 2) && decide (ra % 2 = 1) == decide (x % 2 = 1)) := by
                  rw [hpq, Bool.eq_iff_iff]
                  simp only [decide_eq_true_eq, Prod.mk.injEq, Bool.and_eq_true, beq_iff_eq, decide_eq_decide]
                  omega
                rw [hdec] at hany
                obtain ⟨fk, hfk⟩ : ∃ fk, (P'.take k).any (fun q => decide (q = (y, x))) = fk := ⟨_, rfl⟩
                rw [hfk] at hany ⊢
                generalize (x / 2 : Nat) = x0 at e0 hany
                generalize decide (x % 2 = 1) = x1 at e1 hany
                generalize (y / 2 : Nat) = y0 at e2 hany
                generalize decide (y % 2 = 1) = y1 at e3 hany
                generalize (qa / 2 : Nat) = u0 at f0 hany
                generalize decide (qa % 2 = 1) = u1 at f1 hany
                generalize (ra / 2 : Nat) = v0 at f2 hany
                generalize decide (ra % 2 = 1) = v1 at f3 hany
                have Hany := Lib.hid hany
                have j0 : (0 : Int) ≤ (k : Int) := by omega
                have j1 : (k : Int) < (m2 : Int) := by omega
                have j2 : (0 : Int) ≤ (i : Int) := by omega
                clear hany hdec hpq rb qb hfk hc2 hc3 q0 q1 q2 q3 r0 r1 r2 r3 hS2 hS3 hkP
                cases fk with
                | true =>
                  have Hfs := Lib.hid (show ((P'.take (k + 1)).any fun q => decide (q = (y, x))) = true by rw [Hany.out, Bool.true_or])
                  go_wp2_with fail
                  refine wp_region_held_drew (S := fun w2 => Below wr.heap.size wr w2) (by kernel_rfl) (drew_b _ _) (fun hS0 => ?_)
                  refine wpAnyH_take (i := 0) (oi := { dst := some 124, op := Op.move (Operand.tmp 17), type := 4, pos := "outright.go:196", after := #[], guard := none }) (v := .bool true) rfl (by kernel_rfl) (by kernel_rfl) (by kernel_rfl) (fun _ _ _ h => h) (Or.inl ⟨by rfl, by intro w2 hSw; (try dsimp only at hSw); go_simp⟩) hS0 ?_
                  try simp only [Act.put, List.setIfInBounds_toArray, List.set_cons_zero, List.set_cons_succ]
                  refine wpAnyH_take (i := 1) (oi := { dst := some 125, op := Op.move (Operand.tmp 124), type := 4, pos := "outright.go:196", after := #[{ on := 0, ground := Ground.data }], guard := none }) (v := .bool true) rfl (by kernel_rfl) (by kernel_rfl) (by kernel_rfl) (fun _ _ _ h => h) (Or.inl ⟨by rfl, by intro w2 hSw; (try dsimp only at hSw); go_simp⟩) hS0 ?_
                  try simp only [Act.put, List.setIfInBounds_toArray, List.set_cons_zero, List.set_cons_succ]
                  refine wpAnyH_take (i := 2) (oi := { dst := some 126, op := Op.move (Operand.tmp 14), type := 46, pos := "outright.go:196", after := #[{ on := 1, ground := Ground.guard }], guard := some (1, false) }) (v := undef) rfl (by kernel_rfl) (by kernel_rfl) (by kernel_rfl) (fun _ _ _ h => h) (Or.inr ⟨by rfl, rfl⟩) hS0 ?_
                  try simp only [Act.put, List.setIfInBounds_toArray, List.set_cons_zero, List.set_cons_succ]
                  refine wpAnyH_take (i := 3) (oi := { dst := some 127, op := Op.move (Operand.tmp 18), type := 3, pos := "outright.go:196", after := #[{ on := 1, ground := Ground.guard }], guard := some (1, false) }) (v := undef) rfl (by kernel_rfl) (by kernel_rfl) (by kernel_rfl) (fun _ _ _ h => h) (Or.inr ⟨by rfl, rfl⟩) hS0 ?_
                  try simp only [Act.put, List.setIfInBounds_toArray, List.set_cons_zero, List.set_cons_succ]
                  refine wpAnyH_take (i := 4) (oi := { dst := some 128, op := Op.indexAddr 46 (Operand.tmp 126) (Operand.tmp 127), type := 0, pos := "outright.go:196", after := #[{ on := 2, ground := Ground.data }, { on := 3, ground := Ground.data }, { on := 1, ground := Ground.guard }], guard := some (1, false) }) (v := undef) rfl (by kernel_rfl) (by kernel_rfl) (by kernel_rfl) (fun _ _ _ h => h) (Or.inr ⟨by rfl, rfl⟩) hS0 ?_
                  try simp only [Act.put, List.setIfInBounds_toArray, List.set_cons_zero, List.set_cons_succ]
                  refine wpAnyH_take (i := 5) (oi := { dst := some 129, op := Op.load 57 (Operand.tmp 128), type := 57, pos := "outright.go:196", after := #[{ on := 4, ground := Ground.data }, { on := 1, ground := Ground.guard }], guard := some (1, false) }) (v := undef) rfl (by kernel_rfl) (by kernel_rfl) (by kernel_rfl) (fun _ _ _ h => h) (Or.inr ⟨by rfl, rfl⟩) hS0 ?_
                  try simp only [Act.put, List.setIfInBounds_toArray, List.set_cons_zero, List.set_cons_succ]
                  refine wpAnyH_take (i := 6) (oi := { dst := some 130, op := Op.move (Operand.tmp 12), type := 46, pos := "outright.go:196", after := #[{ on := 1, ground := Ground.guard }], guard := some (1, false) }) (v := undef) rfl (by kernel_rfl) (by kernel_rfl) (by kernel_rfl) (fun _ _ _ h => h) (Or.inr ⟨by rfl, rfl⟩) hS0 ?_
                  try simp only [Act.put, List.setIfInBounds_toArray, List.set_cons_zero, List.set_cons_succ]
                  refine wpAnyH_take (i := 7) (oi := { dst := some 131, op := Op.move (Operand.tmp 16), type := 3, pos := "outright.go:196", after := #[{ on := 1, ground := Ground.guard }], guard := some (1, false) }) (v := undef) rfl (by kernel_rfl) (by kernel_rfl) (by kernel_rfl) (fun _ _ _ h => h) (Or.inr ⟨by rfl, rfl⟩) hS0 ?_
                  try simp only [Act.put, List.setIfInBounds_toArray, List.set_cons_zero, List.set_cons_succ]
                  refine wpAnyH_take (i := 8) (oi := { dst := some 132, op := Op.indexAddr 46 (Operand.tmp 130) (Operand.tmp 131), type := 0, pos := "outright.go:196", after := #[{ on := 6, ground := Ground.data }, { on := 7, ground := Ground.data }, { on := 1, ground := Ground.guard }], guard := some (1, false) }) (v := undef) rfl (by kernel_rfl) (by kernel_rfl) (by kernel_rfl) (fun _ _ _ h => h) (Or.inr ⟨by rfl, rfl⟩) hS0 ?_
                  try simp only [Act.put, List.setIfInBounds_toArray, List.set_cons_zero, List.set_cons_succ]
                  refine wpAnyH_take (i := 9) (oi := { dst := some 133, op := Op.fieldAddr 57 (Operand.tmp 132) 1, type := 0, pos := "outright.go:196", after := #[{ on := 8, ground := Ground.data }, { on := 1, ground := Ground.guard }], guard := some (1, false) }) (v := undef) rfl (by kernel_rfl) (by kernel_rfl) (by kernel_rfl) (fun _ _ _ h => h) (Or.inr ⟨by rfl, rfl⟩) hS0 ?_
                  try simp only [Act.put, List.setIfInBounds_toArray, List.set_cons_zero, List.set_cons_succ]
                  refine wpAnyH_take (i := 10) (oi := { dst := some 134, op := Op.load 28 (Operand.tmp 133), type := 28, pos := "outright.go:196", after := #[{ on := 9, ground := Ground.data }, { on := 1, ground := Ground.guard }], guard := some (1, false) }) (v := undef) rfl (by kernel_rfl) (by kernel_rfl) (by kernel_rfl) (fun _ _ _ h => h) (Or.inr ⟨by rfl, rfl⟩) hS0 ?_
                  try simp only [Act.put, List.setIfInBounds_toArray, List.set_cons_zero, List.set_cons_succ]
                  refine wpAnyH_take (i := 11) (oi := { dst := some 135, op := Op.move (Operand.tmp 12), type := 46, pos := "outright.go:196", after := #[{ on := 1, ground := Ground.guard }], guard := some (1, false) }) (v := undef) rfl (by kernel_rfl) (by kernel_rfl) (by kernel_rfl) (fun _ _ _ h => h) (Or.inr ⟨by rfl, rfl⟩) hS0 ?_
                  try simp only [Act.put, List.setIfInBounds_toArray, List.set_cons_zero, List.set_cons_succ]
                  refine wpAnyH_take (i := 12) (oi := { dst := some 136, op := Op.move (Operand.tmp 16), type := 3, pos := "outright.go:196", after := #[{ on := 1, ground := Ground.guard }], guard := some (1, false) }) (v := undef) rfl (by kernel_rfl) (by kernel_rfl) (by kernel_rfl) (fun _ _ _ h => h) (Or.inr ⟨by rfl, rfl⟩) hS0 ?_
                  try simp only [Act.put, List.setIfInBounds_toArray, List.set_cons_zero, List.set_cons_succ]
                  refine wpAnyH_take (i := 13) (oi := { dst := some 137, op := Op.indexAddr 46 (Operand.tmp 135) (Operand.tmp 136), type := 0, pos := "outright.go:196", after := #[{ on := 11, ground := Ground.data }, { on := 12, ground := Ground.data }, { on := 1, ground := Ground.guard }], guard := some (1, false) }) (v := undef) rfl (by kernel_rfl) (by kernel_rfl) (by kernel_rfl) (fun _ _ _ h => h) (Or.inr ⟨by rfl, rfl⟩) hS0 ?_
                  try simp only [Act.put, List.setIfInBounds_toArray, List.set_cons_zero, List.set_cons_succ]
                  refine wpAnyH_take (i := 14) (oi := { dst := some 138, op := Op.fieldAddr 57 (Operand.tmp 137) 0, type := 0, pos := "outright.go:196", after := #[{ on := 13, ground := Ground.data }, { on := 1, ground := Ground.guard }], guard := some (1, false) }) (v := undef) rfl (by kernel_rfl) (by kernel_rfl) (by kernel_rfl) (fun _ _ _ h => h) (Or.inr ⟨by rfl, rfl⟩) hS0 ?_
                  try simp only [Act.put, List.setIfInBounds_toArray, List.set_cons_zero, List.set_cons_succ]
                  refine wpAnyH_take (i := 15) (oi := { dst := some 139, op := Op.load 28 (Operand.tmp 138), type := 28, pos := "outright.go:196", after := #[{ on := 14, ground := Ground.data }, { on := 1, ground := Ground.guard }], guard := some (1, false) }) (v := undef) rfl (by kernel_rfl) (by kernel_rfl) (by kernel_rfl) (fun _ _ _ h => h) (Or.inr ⟨by rfl, rfl⟩) hS0 ?_
                  try simp only [Act.put, List.setIfInBounds_toArray, List.set_cons_zero, List.set_cons_succ]
                  refine wpAnyH_take (i := 16) (oi := { dst := some 140, op := Op.build 57 #[(0, Operand.tmp 134), (1, Operand.tmp 139)], type := 57, pos := "outright.go:196", after := #[{ on := 10, ground := Ground.data }, { on := 15, ground := Ground.data }, { on := 1, ground := Ground.guard }], guard := some (1, false) }) (v := undef) rfl (by kernel_rfl) (by kernel_rfl) (by kernel_rfl) (fun _ _ _ h => h) (Or.inr ⟨by rfl, rfl⟩) hS0 ?_
                  try simp only [Act.put, List.setIfInBounds_toArray, List.set_cons_zero, List.set_cons_succ]
                  refine wpAnyH_take (i := 17) (oi := { dst := some 141, op := Op.binOp BinOp.eql 57 (Operand.tmp 129) (Operand.tmp 140) 57, type := 4, pos := "outright.go:196", after := #[{ on := 5, ground := Ground.data }, { on := 16, ground := Ground.data }, { on := 1, ground := Ground.guard }], guard := some (1, false) }) (v := undef) rfl (by kernel_rfl) (by kernel_rfl) (by kernel_rfl) (fun _ _ _ h => h) (Or.inr ⟨by rfl, rfl⟩) hS0 ?_
                  try simp only [Act.put, List.setIfInBounds_toArray, List.set_cons_zero, List.set_cons_succ]
                  refine wpAnyH_take (i := 18) (oi := { dst := some 142, op := Op.pick (Operand.tmp 125) (Operand.const (Value.bool true)) (Operand.tmp 141), type := 4, pos := "outright.go:196", after := #[{ on := 1, ground := Ground.data }, { on := 17, ground := Ground.data }], guard := none }) (v := .bool true) rfl (by kernel_rfl) (by kernel_rfl) (by kernel_rfl) (fun _ _ _ h => h) (Or.inl ⟨by rfl, by intro w2 hSw; (try dsimp only at hSw); go_simp⟩) hS0 ?_
                  try simp only [Act.put, List.setIfInBounds_toArray, List.set_cons_zero, List.set_cons_succ]
                  refine wpAnyH_take (i := 19) (oi := { dst := some 17, op := Op.assign (Operand.tmp 142), type := 4, pos := "outright.go:196", after := #[{ on := 18, ground := Ground.data }, { on := 1, ground := Ground.chain }, { on := 0, ground := Ground.phase }, { on := 1, ground := Ground.phase }, { on := 2, ground := Ground.phase }, { on := 3, ground := Ground.phase }, { on := 4, ground := Ground.phase }, { on := 5, ground := Ground.phase }, { on := 6, ground := Ground.phase }, { on := 7, ground := Ground.phase }, { on := 8, ground := Ground.phase }, { on := 9, ground := Ground.phase }, { on := 10, ground := Ground.phase }, { on := 11, ground := Ground.phase }, { on := 12, ground := Ground.phase }, { on := 13, ground := Ground.phase }, { on := 14, ground := Ground.phase }, { on := 15, ground := Ground.phase }, { on := 16, ground := Ground.phase }, { on := 17, ground := Ground.phase }, { on := 18, ground := Ground.phase }], guard := none }) (v := .bool true) rfl (by kernel_rfl) (by kernel_rfl) (by kernel_rfl) (fun _ _ _ h => h) (Or.inl ⟨by rfl, by intro w2 hSw; (try dsimp only at hSw); go_simp⟩) hS0 ?_
                  try simp only [Act.put, List.setIfInBounds_toArray, List.set_cons_zero, List.set_cons_succ]
                  refine wpAnyH_done (by kernel_rfl) ?_ _
                  have HX2 := Lib.hid (And.intro (Kv.next hS0 K.out) (And.intro (S2.out.below hS0 (Nat.le_refl _)) (S3.out.below hS0 (Nat.le_refl _))))
                  clear hS0 e0 e1 e2 e3 f0 f1 f2 f3 j0 j1 j2
                  go_wp2_with fail
                  go_roundw
                  case rel => exact ⟨k + 1, by go_num, by omega, by rw [Hfs.out], HX2.out⟩
                  case measure => simp [intOf]; omega
                | false =>
                  obtain ⟨eq, heq⟩ : ∃ eq, (decide (u0 = y0) && u1 == y1 && decide (v0 = x0) && v1 == x1) = eq := ⟨_, rfl⟩
                  have Hfs := Lib.hid (show ((P'.take (k + 1)).any fun q => decide (q = (y, x))) = eq by rw [Hany.out, Bool.false_or, heq])
                  have Heq := Lib.hid heq
                  clear heq
                  go_wp2_with fail
                  refine wp_region_held_drew (S := fun w2 => Below wr.heap.size wr w2) (by kernel_rfl) (drew_b _ _) (fun hS0 => ?_)
                  refine wpAnyH_take (i := 0) (oi := { dst := some 124, op := Op.move (Operand.tmp 17), type := 4, pos := "outright.go:196", after := #[], guard := none }) (v := .bool false) rfl (by kernel_rfl) (by kernel_rfl) (by kernel_rfl) (fun _ _ _ h => h) (Or.inl ⟨by rfl, by intro w2 hSw; (try dsimp only at hSw); have e0 := (hSw.cell (p := ⟨b2, o2 + i * 4, none⟩) (lt_of_cell e0)).trans e0; have e1 := (hSw.cell (p := ⟨b2, o2 + i * 4 + 1, none⟩) (lt_of_cell e1)).trans e1; have e2 := (hSw.cell (p := ⟨b2, o2 + i * 4 + 2, none⟩) (lt_of_cell e2)).trans e2; have e3 := (hSw.cell (p := ⟨b2, o2 + i * 4 + 3, none⟩) (lt_of_cell e3)).trans e3; have f0 := (hSw.cell (p := ⟨b3, o3 + k * 4, none⟩) (lt_of_cell f0)).trans f0; have f1 := (hSw.cell (p := ⟨b3, o3 + k * 4 + 1, none⟩) (lt_of_cell f1)).trans f1; have f2 := (hSw.cell (p := ⟨b3, o3 + k * 4 + 2, none⟩) (lt_of_cell f2)).trans f2; have f3 := (hSw.cell (p := ⟨b3, o3 + k * 4 + 3, none⟩) (lt_of_cell f3)).trans f3; go_simp; (try (rw [← Heq.out]; exact eq4 _ _ _ _ _ _ _ _ _))⟩) hS0 ?_
                  try simp only [Act.put, List.setIfInBounds_toArray, List.set_cons_zero, List.set_cons_succ]
                  refine wpAnyH_take (i := 1) (oi := { dst := some 125, op := Op.move (Operand.tmp 124), type := 4, pos := "outright.go:196", after := #[{ on := 0, ground := Ground.data }], guard := none }) (v := .bool false) rfl (by kernel_rfl) (by kernel_rfl) (by kernel_rfl) (fun _ _ _ h => h) (Or.inl ⟨by rfl, by intro w2 hSw; (try dsimp only at hSw); have e0 := (hSw.cell (p := ⟨b2, o2 + i * 4, none⟩) (lt_of_cell e0)).trans e0; have e1 := (hSw.cell (p := ⟨b2, o2 + i * 4 + 1, none⟩) (lt_of_cell e1)).trans e1; have e2 := (hSw.cell (p := ⟨b2, o2 + i * 4 + 2, none⟩) (lt_of_cell e2)).trans e2; have e3 := (hSw.cell (p := ⟨b2, o2 + i * 4 + 3, none⟩) (lt_of_cell e3)).trans e3; have f0 := (hSw.cell (p := ⟨b3, o3 + k * 4, none⟩) (lt_of_cell f0)).trans f0; have f1 := (hSw.cell (p := ⟨b3, o3 + k * 4 + 1, none⟩) (lt_of_cell f1)).trans f1; have f2 := (hSw.cell (p := ⟨b3, o3 + k * 4 + 2, none⟩) (lt_of_cell f2)).trans f2; have f3 := (hSw.cell (p := ⟨b3, o3 + k * 4 + 3, none⟩) (lt_of_cell f3)).trans f3; go_simp; (try (rw [← Heq.out]; exact eq4 _ _ _ _ _ _ _ _ _))⟩) hS0 ?_
                  try simp only [Act.put, List.setIfInBounds_toArray, List.set_cons_zero, List.set_cons_succ]
                  refine wpAnyH_take (i := 2) (oi := { dst := some 126, op := Op.move (Operand.tmp 14), type := 46, pos := "outright.go:196", after := #[{ on := 1, ground := Ground.guard }], guard := some (1, false) }) (v := .slice (some ⟨b3, o3, none⟩) m2 cp3) rfl (by kernel_rfl) (by kernel_rfl) (by kernel_rfl) (fun _ _ _ h => h) (Or.inl ⟨by rfl, by intro w2 hSw; (try dsimp only at hSw); have e0 := (hSw.cell (p := ⟨b2, o2 + i * 4, none⟩) (lt_of_cell e0)).trans e0; have e1 := (hSw.cell (p := ⟨b2, o2 + i * 4 + 1, none⟩) (lt_of_cell e1)).trans e1; have e2 := (hSw.cell (p := ⟨b2, o2 + i * 4 + 2, none⟩) (lt_of_cell e2)).trans e2; have e3 := (hSw.cell (p := ⟨b2, o2 + i * 4 + 3, none⟩) (lt_of_cell e3)).trans e3; have f0 := (hSw.cell (p := ⟨b3, o3 + k * 4, none⟩) (lt_of_cell f0)).trans f0; have f1 := (hSw.cell (p := ⟨b3, o3 + k * 4 + 1, none⟩) (lt_of_cell f1)).trans f1; have f2 := (hSw.cell (p := ⟨b3, o3 + k * 4 + 2, none⟩) (lt_of_cell f2)).trans f2; have f3 := (hSw.cell (p := ⟨b3, o3 + k * 4 + 3, none⟩) (lt_of_cell f3)).trans f3; go_simp; (try (rw [← Heq.out]; exact eq4 _ _ _ _ _ _ _ _ _))⟩) hS0 ?_
                  try simp only [Act.put, List.setIfInBounds_toArray, List.set_cons_zero, List.set_cons_succ]
                  refine wpAnyH_take (i := 3) (oi := { dst := some 127, op := Op.move (Operand.tmp 18), type := 3, pos := "outright.go:196", after := #[{ on := 1, ground := Ground.guard }], guard := some (1, false) }) (v := .int .i64 (k : Int)) rfl (by kernel_rfl) (by kernel_rfl) (by kernel_rfl) (fun _ _ _ h => h) (Or.inl ⟨by rfl, by intro w2 hSw; (try dsimp only at hSw); have e0 := (hSw.cell (p := ⟨b2, o2 + i * 4, none⟩) (lt_of_cell e0)).trans e0; have e1 := (hSw.cell (p := ⟨b2, o2 + i * 4 + 1, none⟩) (lt_of_cell e1)).trans e1; have e2 := (hSw.cell (p := ⟨b2, o2 + i * 4 + 2, none⟩) (lt_of_cell e2)).trans e2; have e3 := (hSw.cell (p := ⟨b2, o2 + i * 4 + 3, none⟩) (lt_of_cell e3)).trans e3; have f0 := (hSw.cell (p := ⟨b3, o3 + k * 4, none⟩) (lt_of_cell f0)).trans f0; have f1 := (hSw.cell (p := ⟨b3, o3 + k * 4 + 1, none⟩) (lt_of_cell f1)).trans f1; have f2 := (hSw.cell (p := ⟨b3, o3 + k * 4 + 2, none⟩) (lt_of_cell f2)).trans f2; have f3 := (hSw.cell (p := ⟨b3, o3 + k * 4 + 3, none⟩) (lt_of_cell f3)).trans f3; go_simp; (try (rw [← Heq.out]; exact eq4 _ _ _ _ _ _ _ _ _))⟩) hS0 ?_
                  try simp only [Act.put, List.setIfInBounds_toArray, List.set_cons_zero, List.set_cons_succ]
                  refine wpAnyH_take (i := 4) (oi := { dst := some 128, op := Op.indexAddr 46 (Operand.tmp 126) (Operand.tmp 127), type := 0, pos := "outright.go:196", after := #[{ on := 2, ground := Ground.data }, { on := 3, ground := Ground.data }, { on := 1, ground := Ground.guard }], guard := some (1, false) }) (v := .pointer (some ⟨b3, o3 + k * 4, none⟩)) rfl (by kernel_rfl) (by kernel_rfl) (by kernel_rfl) (fun _ _ _ h => h) (Or.inl ⟨by rfl, by intro w2 hSw; (try dsimp only at hSw); have e0 := (hSw.cell (p := ⟨b2, o2 + i * 4, none⟩) (lt_of_cell e0)).trans e0; have e1 := (hSw.cell (p := ⟨b2, o2 + i * 4 + 1, none⟩) (lt_of_cell e1)).trans e1; have e2 := (hSw.cell (p := ⟨b2, o2 + i * 4 + 2, none⟩) (lt_of_cell e2)).trans e2; have e3 := (hSw.cell (p := ⟨b2, o2 + i * 4 + 3, none⟩) (lt_of_cell e3)).trans e3; have f0 := (hSw.cell (p := ⟨b3, o3 + k * 4, none⟩) (lt_of_cell f0)).trans f0; have f1 := (hSw.cell (p := ⟨b3, o3 + k * 4 + 1, none⟩) (lt_of_cell f1)).trans f1; have f2 := (hSw.cell (p := ⟨b3, o3 + k * 4 + 2, none⟩) (lt_of_cell f2)).trans f2; have f3 := (hSw.cell (p := ⟨b3, o3 + k * 4 + 3, none⟩) (lt_of_cell f3)).trans f3; go_simp; (try (rw [← Heq.out]; exact eq4 _ _ _ _ _ _ _ _ _))⟩) hS0 ?_
                  try simp only [Act.put, List.setIfInBounds_toArray, List.set_cons_zero, List.set_cons_succ]
                  refine wpAnyH_take (i := 5) (oi := { dst := some 129, op := Op.load 57 (Operand.tmp 128), type := 57, pos := "outright.go:196", after := #[{ on := 4, ground := Ground.data }, { on := 1, ground := Ground.guard }], guard := some (1, false) }) (v := .agg #[.int .i64 (u0 : Int), .bool u1, .int .i64 (v0 : Int), .bool v1]) rfl (by kernel_rfl) (by kernel_rfl) (by kernel_rfl) (fun _ _ _ h => h) (Or.inl ⟨by rfl, by intro w2 hSw; (try dsimp only at hSw); have e0 := (hSw.cell (p := ⟨b2, o2 + i * 4, none⟩) (lt_of_cell e0)).trans e0; have e1 := (hSw.cell (p := ⟨b2, o2 + i * 4 + 1, none⟩) (lt_of_cell e1)).trans e1; have e2 := (hSw.cell (p := ⟨b2, o2 + i * 4 + 2, none⟩) (lt_of_cell e2)).trans e2; have e3 := (hSw.cell (p := ⟨b2, o2 + i * 4 + 3, none⟩) (lt_of_cell e3)).trans e3; have f0 := (hSw.cell (p := ⟨b3, o3 + k * 4, none⟩) (lt_of_cell f0)).trans f0; have f1 := (hSw.cell (p := ⟨b3, o3 + k * 4 + 1, none⟩) (lt_of_cell f1)).trans f1; have f2 := (hSw.cell (p := ⟨b3, o3 + k * 4 + 2, none⟩) (lt_of_cell f2)).trans f2; have f3 := (hSw.cell (p := ⟨b3, o3 + k * 4 + 3, none⟩) (lt_of_cell f3)).trans f3; go_simp; (try (rw [← Heq.out]; exact eq4 _ _ _ _ _ _ _ _ _))⟩) hS0 ?_
                  try simp only [Act.put, List.setIfInBounds_toArray, List.set_cons_zero, List.set_cons_succ]
                  refine wpAnyH_take (i := 6) (oi := { dst := some 130, op := Op.move (Operand.tmp 12), type := 46, pos := "outright.go:196", after := #[{ on := 1, ground := Ground.guard }], guard := some (1, false) }) (v := .slice (some ⟨b2, o2, none⟩) m2 cp2) rfl (by kernel_rfl) (by kernel_rfl) (by kernel_rfl) (fun _ _ _ h => h) (Or.inl ⟨by rfl, by intro w2 hSw; (try dsimp only at hSw); have e0 := (hSw.cell (p := ⟨b2, o2 + i * 4, none⟩) (lt_of_cell e0)).trans e0; have e1 := (hSw.cell (p := ⟨b2, o2 + i * 4 + 1, none⟩) (lt_of_cell e1)).trans e1; have e2 := (hSw.cell (p := ⟨b2, o2 + i * 4 + 2, none⟩) (lt_of_cell e2)).trans e2; have e3 := (hSw.cell (p := ⟨b2, o2 + i * 4 + 3, none⟩) (lt_of_cell e3)).trans e3; have f0 := (hSw.cell (p := ⟨b3, o3 + k * 4, none⟩) (lt_of_cell f0)).trans f0; have f1 := (hSw.cell (p := ⟨b3, o3 + k * 4 + 1, none⟩) (lt_of_cell f1)).trans f1; have f2 := (hSw.cell (p := ⟨b3, o3 + k * 4 + 2, none⟩) (lt_of_cell f2)).trans f2; have f3 := (hSw.cell (p := ⟨b3, o3 + k * 4 + 3, none⟩) (lt_of_cell f3)).trans f3; go_simp; (try (rw [← Heq.out]; exact eq4 _ _ _ _ _ _ _ _ _))⟩) hS0 ?_
                  try simp only [Act.put, List.setIfInBounds_toArray, List.set_cons_zero, List.set_cons_succ]
                  refine wpAnyH_take (i := 7) (oi := { dst := some 131, op := Op.move (Operand.tmp 16), type := 3, pos := "outright.go:196", after := #[{ on := 1, ground := Ground.guard }], guard := some (1, false) }) (v := .int .i64 (i : Int)) rfl (by kernel_rfl) (by kernel_rfl) (by kernel_rfl) (fun _ _ _ h => h) (Or.inl ⟨by rfl, by intro w2 hSw; (try dsimp only at hSw); have e0 := (hSw.cell (p := ⟨b2, o2 + i * 4, none⟩) (lt_of_cell e0)).trans e0; have e1 := (hSw.cell (p := ⟨b2, o2 + i * 4 + 1, none⟩) (lt_of_cell e1)).trans e1; have e2 := (hSw.cell (p := ⟨b2, o2 + i * 4 + 2, none⟩) (lt_of_cell e2)).trans e2; have e3 := (hSw.cell (p := ⟨b2, o2 + i * 4 + 3, none⟩) (lt_of_cell e3)).trans e3; have f0 := (hSw.cell (p := ⟨b3, o3 + k * 4, none⟩) (lt_of_cell f0)).trans f0; have f1 := (hSw.cell (p := ⟨b3, o3 + k * 4 + 1, none⟩) (lt_of_cell f1)).trans f1; have f2 := (hSw.cell (p := ⟨b3, o3 + k * 4 + 2, none⟩) (lt_of_cell f2)).trans f2; have f3 := (hSw.cell (p := ⟨b3, o3 + k * 4 + 3, none⟩) (lt_of_cell f3)).trans f3; go_simp; (try (rw [← Heq.out]; exact eq4 _ _ _ _ _ _ _ _ _))⟩) hS0 ?_
                  try simp only [Act.put, List.setIfInBounds_toArray, List.set_cons_zero, List.set_cons_succ]
                  refine wpAnyH_take (i := 8) (oi := { dst := some 132, op := Op.indexAddr 46 (Operand.tmp 130) (Operand.tmp 131), type := 0, pos := "outright.go:196", after := #[{ on := 6, ground := Ground.data }, { on := 7, ground := Ground.data }, { on := 1, ground := Ground.guard }], guard := some (1, false) }) (v := .pointer (some ⟨b2, o2 + i * 4, none⟩)) rfl (by kernel_rfl) (by kernel_rfl) (by kernel_rfl) (fun _ _ _ h => h) (Or.inl ⟨by rfl, by intro w2 hSw; (try dsimp only at hSw); have e0 := (hSw.cell (p := ⟨b2, o2 + i * 4, none⟩) (lt_of_cell e0)).trans e0; have e1 := (hSw.cell (p := ⟨b2, o2 + i * 4 + 1, none⟩) (lt_of_cell e1)).trans e1; have e2 := (hSw.cell (p := ⟨b2, o2 + i * 4 + 2, none⟩) (lt_of_cell e2)).trans e2; have e3 := (hSw.cell (p := ⟨b2, o2 + i * 4 + 3, none⟩) (lt_of_cell e3)).trans e3; have f0 := (hSw.cell (p := ⟨b3, o3 + k * 4, none⟩) (lt_of_cell f0)).trans f0; have f1 := (hSw.cell (p := ⟨b3, o3 + k * 4 + 1, none⟩) (lt_of_cell f1)).trans f1; have f2 := (hSw.cell (p := ⟨b3, o3 + k * 4 + 2, none⟩) (lt_of_cell f2)).trans f2; have f3 := (hSw.cell (p := ⟨b3, o3 + k * 4 + 3, none⟩) (lt_of_cell f3)).trans f3; go_simp; (try (rw [← Heq.out]; exact eq4 _ _ _ _ _ _ _ _ _))⟩) hS0 ?_
                  try simp only [Act.put, List.setIfInBounds_toArray, List.set_cons_zero, List.set_cons_succ]
                  refine wpAnyH_take (i := 9) (oi := { dst := some 133, op := Op.fieldAddr 57 (Operand.tmp 132) 1, type := 0, pos := "outright.go:196", after := #[{ on := 8, ground := Ground.data }, { on := 1, ground := Ground.guard }], guard := some (1, false) }) (v := .pointer (some ⟨b2, o2 + i * 4 + 2, none⟩)) rfl (by kernel_rfl) (by kernel_rfl) (by kernel_rfl) (fun _ _ _ h => h) (Or.inl ⟨by rfl, by intro w2 hSw; (try dsimp only at hSw); have e0 := (hSw.cell (p := ⟨b2, o2 + i * 4, none⟩) (lt_of_cell e0)).trans e0; have e1 := (hSw.cell (p := ⟨b2, o2 + i * 4 + 1, none⟩) (lt_of_cell e1)).trans e1; have e2 := (hSw.cell (p := ⟨b2, o2 + i * 4 + 2, none⟩) (lt_of_cell e2)).trans e2; have e3 := (hSw.cell (p := ⟨b2, o2 + i * 4 + 3, none⟩) (lt_of_cell e3)).trans e3; have f0 := (hSw.cell (p := ⟨b3, o3 + k * 4, none⟩) (lt_of_cell f0)).trans f0; have f1 := (hSw.cell (p := ⟨b3, o3 + k * 4 + 1, none⟩) (lt_of_cell f1)).trans f1; have f2 := (hSw.cell (p := ⟨b3, o3 + k * 4 + 2, none⟩) (lt_of_cell f2)).trans f2; have f3 := (hSw.cell (p := ⟨b3, o3 + k * 4 + 3, none⟩) (lt_of_cell f3)).trans f3; go_simp; (try (rw [← Heq.out]; exact eq4 _ _ _ _ _ _ _ _ _))⟩) hS0 ?_
                  try simp only [Act.put, List.setIfInBounds_toArray, List.set_cons_zero, List.set_cons_succ]
                  refine wpAnyH_take (i := 10) (oi := { dst := some 134, op := Op.load 28 (Operand.tmp 133), type := 28, pos := "outright.go:196", after := #[{ on := 9, ground := Ground.data }, { on := 1, ground := Ground.guard }], guard := some (1, false) }) (v := .agg #[.int .i64 (y0 : Int), .bool y1]) rfl (by kernel_rfl) (by kernel_rfl) (by kernel_rfl) (fun _ _ _ h => h) (Or.inl ⟨by rfl, by intro w2 hSw; (try dsimp only at hSw); have e0 := (hSw.cell (p := ⟨b2, o2 + i * 4, none⟩) (lt_of_cell e0)).trans e0; have e1 := (hSw.cell (p := ⟨b2, o2 + i * 4 + 1, none⟩) (lt_of_cell e1)).trans e1; have e2 := (hSw.cell (p := ⟨b2, o2 + i * 4 + 2, none⟩) (lt_of_cell e2)).trans e2; have e3 := (hSw.cell (p := ⟨b2, o2 + i * 4 + 3, none⟩) (lt_of_cell e3)).trans e3; have f0 := (hSw.cell (p := ⟨b3, o3 + k * 4, none⟩) (lt_of_cell f0)).trans f0; have f1 := (hSw.cell (p := ⟨b3, o3 + k * 4 + 1, none⟩) (lt_of_cell f1)).trans f1; have f2 := (hSw.cell (p := ⟨b3, o3 + k * 4 + 2, none⟩) (lt_of_cell f2)).trans f2; have f3 := (hSw.cell (p := ⟨b3, o3 + k * 4 + 3, none⟩) (lt_of_cell f3)).trans f3; go_simp; (try (rw [← Heq.out]; exact eq4 _ _ _ _ _ _ _ _ _))⟩) hS0 ?_
                  try simp only [Act.put, List.setIfInBounds_toArray, List.set_cons_zero, List.set_cons_succ]
                  refine wpAnyH_take (i := 11) (oi := { dst := some 135, op := Op.move (Operand.tmp 12), type := 46, pos := "outright.go:196", after := #[{ on := 1, ground := Ground.guard }], guard := some (1, false) }) (v := .slice (some ⟨b2, o2, none⟩) m2 cp2) rfl (by kernel_rfl) (by kernel_rfl) (by kernel_rfl) (fun _ _ _ h => h) (Or.inl ⟨by rfl, by intro w2 hSw; (try dsimp only at hSw); have e0 := (hSw.cell (p := ⟨b2, o2 + i * 4, none⟩) (lt_of_cell e0)).trans e0; have e1 := (hSw.cell (p := ⟨b2, o2 + i * 4 + 1, none⟩) (lt_of_cell e1)).trans e1; have e2 := (hSw.cell (p := ⟨b2, o2 + i * 4 + 2, none⟩) (lt_of_cell e2)).trans e2; have e3 := (hSw.cell (p := ⟨b2, o2 + i * 4 + 3, none⟩) (lt_of_cell e3)).trans e3; have f0 := (hSw.cell (p := ⟨b3, o3 + k * 4, none⟩) (lt_of_cell f0)).trans f0; have f1 := (hSw.cell (p := ⟨b3, o3 + k * 4 + 1, none⟩) (lt_of_cell f1)).trans f1; have f2 := (hSw.cell (p := ⟨b3, o3 + k * 4 + 2, none⟩) (lt_of_cell f2)).trans f2; have f3 := (hSw.cell (p := ⟨b3, o3 + k * 4 + 3, none⟩) (lt_of_cell f3)).trans f3; go_simp; (try (rw [← Heq.out]; exact eq4 _ _ _ _ _ _ _ _ _))⟩) hS0 ?_
                  try simp only [Act.put, List.setIfInBounds_toArray, List.set_cons_zero, List.set_cons_succ]
                  refine wpAnyH_take (i := 12) (oi := { dst := some 136, op := Op.move (Operand.tmp 16), type := 3, pos := "outright.go:196", after := #[{ on := 1, ground := Ground.guard }], guard := some (1, false) }) (v := .int .i64 (i : Int)) rfl (by kernel_rfl) (by kernel_rfl) (by kernel_rfl) (fun _ _ _ h => h) (Or.inl ⟨by rfl, by intro w2 hSw; (try dsimp only at hSw); have e0 := (hSw.cell (p := ⟨b2, o2 + i * 4, none⟩) (lt_of_cell e0)).trans e0; have e1 := (hSw.cell (p := ⟨b2, o2 + i * 4 + 1, none⟩) (lt_of_cell e1)).trans e1; have e2 := (hSw.cell (p := ⟨b2, o2 + i * 4 + 2, none⟩) (lt_of_cell e2)).trans e2; have e3 := (hSw.cell (p := ⟨b2, o2 + i * 4 + 3, none⟩) (lt_of_cell e3)).trans e3; have f0 := (hSw.cell (p := ⟨b3, o3 + k * 4, none⟩) (lt_of_cell f0)).trans f0; have f1 := (hSw.cell (p := ⟨b3, o3 + k * 4 + 1, none⟩) (lt_of_cell f1)).trans f1; have f2 := (hSw.cell (p := ⟨b3, o3 + k * 4 + 2, none⟩) (lt_of_cell f2)).trans f2; have f3 := (hSw.cell (p := ⟨b3, o3 + k * 4 + 3, none⟩) (lt_of_cell f3)).trans f3; go_simp; (try (rw [← Heq.out]; exact eq4 _ _ _ _ _ _ _ _ _))⟩) hS0 ?_
                  try simp only [Act.put, List.setIfInBounds_toArray, List.set_cons_zero, List.set_cons_succ]
                  refine wpAnyH_take (i := 13) (oi := { dst := some 137, op := Op.indexAddr 46 (Operand.tmp 135) (Operand.tmp 136), type := 0, pos := "outright.go:196", after := #[{ on := 11, ground := Ground.data }, { on := 12, ground := Ground.data }, { on := 1, ground := Ground.guard }], guard := some (1, false) }) (v := .pointer (some ⟨b2, o2 + i * 4, none⟩)) rfl (by kernel_rfl) (by kernel_rfl) (by kernel_rfl) (fun _ _ _ h => h) (Or.inl ⟨by rfl, by intro w2 hSw; (try dsimp only at hSw); have e0 := (hSw.cell (p := ⟨b2, o2 + i * 4, none⟩) (lt_of_cell e0)).trans e0; have e1 := (hSw.cell (p := ⟨b2, o2 + i * 4 + 1, none⟩) (lt_of_cell e1)).trans e1; have e2 := (hSw.cell (p := ⟨b2, o2 + i * 4 + 2, none⟩) (lt_of_cell e2)).trans e2; have e3 := (hSw.cell (p := ⟨b2, o2 + i * 4 + 3, none⟩) (lt_of_cell e3)).trans e3; have f0 := (hSw.cell (p := ⟨b3, o3 + k * 4, none⟩) (lt_of_cell f0)).trans f0; have f1 := (hSw.cell (p := ⟨b3, o3 + k * 4 + 1, none⟩) (lt_of_cell f1)).trans f1; have f2 := (hSw.cell (p := ⟨b3, o3 + k * 4 + 2, none⟩) (lt_of_cell f2)).trans f2; have f3 := (hSw.cell (p := ⟨b3, o3 + k * 4 + 3, none⟩) (lt_of_cell f3)).trans f3; go_simp; (try (rw [← Heq.out]; exact eq4 _ _ _ _ _ _ _ _ _))⟩) hS0 ?_
                  try simp only [Act.put, List.setIfInBounds_toArray, List.set_cons_zero, List.set_cons_succ]
                  refine wpAnyH_take (i := 14) (oi := { dst := some 138, op := Op.fieldAddr 57 (Operand.tmp 137) 0, type := 0, pos := "outright.go:196", after := #[{ on := 13, ground := Ground.data }, { on := 1, ground := Ground.guard }], guard := some (1, false) }) (v := .pointer (some ⟨b2, o2 + i * 4, none⟩)) rfl (by kernel_rfl) (by kernel_rfl) (by kernel_rfl) (fun _ _ _ h => h) (Or.inl ⟨by rfl, by intro w2 hSw; (try dsimp only at hSw); have e0 := (hSw.cell (p := ⟨b2, o2 + i * 4, none⟩) (lt_of_cell e0)).trans e0; have e1 := (hSw.cell (p := ⟨b2, o2 + i * 4 + 1, none⟩) (lt_of_cell e1)).trans e1; have e2 := (hSw.cell (p := ⟨b2, o2 + i * 4 + 2, none⟩) (lt_of_cell e2)).trans e2; have e3 := (hSw.cell (p := ⟨b2, o2 + i * 4 + 3, none⟩) (lt_of_cell e3)).trans e3; have f0 := (hSw.cell (p := ⟨b3, o3 + k * 4, none⟩) (lt_of_cell f0)).trans f0; have f1 := (hSw.cell (p := ⟨b3, o3 + k * 4 + 1, none⟩) (lt_of_cell f1)).trans f1; have f2 := (hSw.cell (p := ⟨b3, o3 + k * 4 + 2, none⟩) (lt_of_cell f2)).trans f2; have f3 := (hSw.cell (p := ⟨b3, o3 + k * 4 + 3, none⟩) (lt_of_cell f3)).trans f3; go_simp; (try (rw [← Heq.out]; exact eq4 _ _ _ _ _ _ _ _ _))⟩) hS0 ?_
                  try simp only [Act.put, List.setIfInBounds_toArray, List.set_cons_zero, List.set_cons_succ]
                  refine wpAnyH_take (i := 15) (oi := { dst := some 139, op := Op.load 28 (Operand.tmp 138), type := 28, pos := "outright.go:196", after := #[{ on := 14, ground := Ground.data }, { on := 1, ground := Ground.guard }], guard := some (1, false) }) (v := .agg #[.int .i64 (x0 : Int), .bool x1]) rfl (by kernel_rfl) (by kernel_rfl) (by kernel_rfl) (fun _ _ _ h => h) (Or.inl ⟨by rfl, by intro w2 hSw; (try dsimp only at hSw); have e0 := (hSw.cell (p := ⟨b2, o2 + i * 4, none⟩) (lt_of_cell e0)).trans e0; have e1 := (hSw.cell (p := ⟨b2, o2 + i * 4 + 1, none⟩) (lt_of_cell e1)).trans e1; have e2 := (hSw.cell (p := ⟨b2, o2 + i * 4 + 2, none⟩) (lt_of_cell e2)).trans e2; have e3 := (hSw.cell (p := ⟨b2, o2 + i * 4 + 3, none⟩) (lt_of_cell e3)).trans e3; have f0 := (hSw.cell (p := ⟨b3, o3 + k * 4, none⟩) (lt_of_cell f0)).trans f0; have f1 := (hSw.cell (p := ⟨b3, o3 + k * 4 + 1, none⟩) (lt_of_cell f1)).trans f1; have f2 := (hSw.cell (p := ⟨b3, o3 + k * 4 + 2, none⟩) (lt_of_cell f2)).trans f2; have f3 := (hSw.cell (p := ⟨b3, o3 + k * 4 + 3, none⟩) (lt_of_cell f3)).trans f3; go_simp; (try (rw [← Heq.out]; exact eq4 _ _ _ _ _ _ _ _ _))⟩) hS0 ?_
                  try simp only [Act.put, List.setIfInBounds_toArray, List.set_cons_zero, List.set_cons_succ]
                  refine wpAnyH_take (i := 16) (oi := { dst := some 140, op := Op.build 57 #[(0, Operand.tmp 134), (1, Operand.tmp 139)], type := 57, pos := "outright.go:196", after := #[{ on := 10, ground := Ground.data }, { on := 15, ground := Ground.data }, { on := 1, ground := Ground.guard }], guard := some (1, false) }) (v := .agg #[.int .i64 (y0 : Int), .bool y1, .int .i64 (x0 : Int), .bool x1]) rfl (by kernel_rfl) (by kernel_rfl) (by kernel_rfl) (fun _ _ _ h => h) (Or.inl ⟨by rfl, by intro w2 hSw; (try dsimp only at hSw); have e0 := (hSw.cell (p := ⟨b2, o2 + i * 4, none⟩) (lt_of_cell e0)).trans e0; have e1 := (hSw.cell (p := ⟨b2, o2 + i * 4 + 1, none⟩) (lt_of_cell e1)).trans e1; have e2 := (hSw.cell (p := ⟨b2, o2 + i * 4 + 2, none⟩) (lt_of_cell e2)).trans e2; have e3 := (hSw.cell (p := ⟨b2, o2 + i * 4 + 3, none⟩) (lt_of_cell e3)).trans e3; have f0 := (hSw.cell (p := ⟨b3, o3 + k * 4, none⟩) (lt_of_cell f0)).trans f0; have f1 := (hSw.cell (p := ⟨b3, o3 + k * 4 + 1, none⟩) (lt_of_cell f1)).trans f1; have f2 := (hSw.cell (p := ⟨b3, o3 + k * 4 + 2, none⟩) (lt_of_cell f2)).trans f2; have f3 := (hSw.cell (p := ⟨b3, o3 + k * 4 + 3, none⟩) (lt_of_cell f3)).trans f3; go_simp; (try (rw [← Heq.out]; exact eq4 _ _ _ _ _ _ _ _ _))⟩) hS0 ?_
                  try simp only [Act.put, List.setIfInBounds_toArray, List.set_cons_zero, List.set_cons_succ]
                  refine wpAnyH_take (i := 17) (oi := { dst := some 141, op := Op.binOp BinOp.eql 57 (Operand.tmp 129) (Operand.tmp 140) 57, type := 4, pos := "outright.go:196", after := #[{ on := 5, ground := Ground.data }, { on := 16, ground := Ground.data }, { on := 1, ground := Ground.guard }], guard := some (1, false) }) (v := .bool eq) rfl (by kernel_rfl) (by kernel_rfl) (by kernel_rfl) (fun _ _ _ h => h) (Or.inl ⟨by rfl, by intro w2 hSw; (try dsimp only at hSw); have e0 := (hSw.cell (p := ⟨b2, o2 + i * 4, none⟩) (lt_of_cell e0)).trans e0; have e1 := (hSw.cell (p := ⟨b2, o2 + i * 4 + 1, none⟩) (lt_of_cell e1)).trans e1; have e2 := (hSw.cell (p := ⟨b2, o2 + i * 4 + 2, none⟩) (lt_of_cell e2)).trans e2; have e3 := (hSw.cell (p := ⟨b2, o2 + i * 4 + 3, none⟩) (lt_of_cell e3)).trans e3; have f0 := (hSw.cell (p := ⟨b3, o3 + k * 4, none⟩) (lt_of_cell f0)).trans f0; have f1 := (hSw.cell (p := ⟨b3, o3 + k * 4 + 1, none⟩) (lt_of_cell f1)).trans f1; have f2 := (hSw.cell (p := ⟨b3, o3 + k * 4 + 2, none⟩) (lt_of_cell f2)).trans f2; have f3 := (hSw.cell (p := ⟨b3, o3 + k * 4 + 3, none⟩) (lt_of_cell f3)).trans f3; go_simp; (try (rw [← Heq.out]; exact eq4 _ _ _ _ _ _ _ _ _))⟩) hS0 ?_
                  try simp only [Act.put, List.setIfInBounds_toArray, List.set_cons_zero, List.set_cons_succ]
                  refine wpAnyH_take (i := 18) (oi := { dst := some 142, op := Op.pick (Operand.tmp 125) (Operand.const (Value.bool true)) (Operand.tmp 141), type := 4, pos := "outright.go:196", after := #[{ on := 1, ground := Ground.data }, { on := 17, ground := Ground.data }], guard := none }) (v := .bool eq) rfl (by kernel_rfl) (by kernel_rfl) (by kernel_rfl) (fun _ _ _ h => h) (Or.inl ⟨by rfl, by intro w2 hSw; (try dsimp only at hSw); have e0 := (hSw.cell (p := ⟨b2, o2 + i * 4, none⟩) (lt_of_cell e0)).trans e0; have e1 := (hSw.cell (p := ⟨b2, o2 + i * 4 + 1, none⟩) (lt_of_cell e1)).trans e1; have e2 := (hSw.cell (p := ⟨b2, o2 + i * 4 + 2, none⟩) (lt_of_cell e2)).trans e2; have e3 := (hSw.cell (p := ⟨b2, o2 + i * 4 + 3, none⟩) (lt_of_cell e3)).trans e3; have f0 := (hSw.cell (p := ⟨b3, o3 + k * 4, none⟩) (lt_of_cell f0)).trans f0; have f1 := (hSw.cell (p := ⟨b3, o3 + k * 4 + 1, none⟩) (lt_of_cell f1)).trans f1; have f2 := (hSw.cell (p := ⟨b3, o3 + k * 4 + 2, none⟩) (lt_of_cell f2)).trans f2; have f3 := (hSw.cell (p := ⟨b3, o3 + k * 4 + 3, none⟩) (lt_of_cell f3)).trans f3; go_simp; (try (rw [← Heq.out]; exact eq4 _ _ _ _ _ _ _ _ _))⟩) hS0 ?_
                  try simp only [Act.put, List.setIfInBounds_toArray, List.set_cons_zero, List.set_cons_succ]
                  refine wpAnyH_take (i := 19) (oi := { dst := some 17, op := Op.assign (Operand.tmp 142), type := 4, pos := "outright.go:196", after := #[{ on := 18, ground := Ground.data }, { on := 1, ground := Ground.chain }, { on := 0, ground := Ground.phase }, { on := 1, ground := Ground.phase }, { on := 2, ground := Ground.phase }, { on := 3, ground := Ground.phase }, { on := 4, ground := Ground.phase }, { on := 5, ground := Ground.phase }, { on := 6, ground := Ground.phase }, { on := 7, ground := Ground.phase }, { on := 8, ground := Ground.phase }, { on := 9, ground := Ground.phase }, { on := 10, ground := Ground.phase }, { on := 11, ground := Ground.phase }, { on := 12, ground := Ground.phase }, { on := 13, ground := Ground.phase }, { on := 14, ground := Ground.phase }, { on := 15, ground := Ground.phase }, { on := 16, ground := Ground.phase }, { on := 17, ground := Ground.phase }, { on := 18, ground := Ground.phase }], guard := none }) (v := .bool eq) rfl (by kernel_rfl) (by kernel_rfl) (by kernel_rfl) (fun _ _ _ h => h) (Or.inl ⟨by rfl, by intro w2 hSw; (try dsimp only at hSw); have e0 := (hSw.cell (p := ⟨b2, o2 + i * 4, none⟩) (lt_of_cell e0)).trans e0; have e1 := (hSw.cell (p := ⟨b2, o2 + i * 4 + 1, none⟩) (lt_of_cell e1)).trans e1; have e2 := (hSw.cell (p := ⟨b2, o2 + i * 4 + 2, none⟩) (lt_of_cell e2)).trans e2; have e3 := (hSw.cell (p := ⟨b2, o2 + i * 4 + 3, none⟩) (lt_of_cell e3)).trans e3; have f0 := (hSw.cell (p := ⟨b3, o3 + k * 4, none⟩) (lt_of_cell f0)).trans f0; have f1 := (hSw.cell (p := ⟨b3, o3 + k * 4 + 1, none⟩) (lt_of_cell f1)).trans f1; have f2 := (hSw.cell (p := ⟨b3, o3 + k * 4 + 2, none⟩) (lt_of_cell f2)).trans f2; have f3 := (hSw.cell (p := ⟨b3, o3 + k * 4 + 3, none⟩) (lt_of_cell f3)).trans f3; go_simp; (try (rw [← Heq.out]; exact eq4 _ _ _ _ _ _ _ _ _))⟩) hS0 ?_
                  try simp only [Act.put, List.setIfInBounds_toArray, List.set_cons_zero, List.set_cons_succ]
                  refine wpAnyH_done (by kernel_rfl) ?_ _
                  have HX2 := Lib.hid (And.intro (Kv.next hS0 K.out) (And.intro (S2.out.below hS0 (Nat.le_refl _)) (S3.out.below hS0 (Nat.le_refl _))))
                  clear hS0 e0 e1 e2 e3 f0 f1 f2 f3 j0 j1 j2
                  go_wp2_with fail
                  go_roundw
                  case rel => exact ⟨k + 1, by go_num, by omega, by rw [Hfs.out], HX2.out⟩
                  case measure => simp [intOf]; omega
              · obtain rfl : m2 = k := by omega
                have hfin : ((P'.take m2).any fun q => decide (q = (y, x))) = true := by
                  rw [List.take_of_length_le (by rw [HPl.out, Hpl.out]; exact Nat.le_refl _), List.any_eq_true]
                  exact ⟨_, Hyx.out, by simp⟩
                rw [hfin]
                have i2 : ¬ (m2 : Int) < (m2 : Int) := by omega
                clear hfin hS2 hS3
                go_wp2_with fail
                go_roundw
                case rel => exact ⟨i + 1, by go_num, by omega, K.out, S2.out, S3.out⟩
                case measure => simp [intOf]; omega
          · have i1 : ¬ (i : Int) < (m2 : Int) := by omega
            obtain ⟨c0, c1, c2, c3, d0, d1, d2, d3⟩ := K.out.c
            by_cases hN0 : N = 0
            · subst hN0
              go_wp2_with fail
              refine (works13 _).mono ?_
              rintro e w9 ⟨rfl, hb⟩
              have HB := Lib.hid (K.out.k.next hb)
              clear hb
              go_wp2_with fail
              go_ret
              exact ⟨rfl, HB.out.below⟩
            · have dN0 : ((N : Int) == 0) = false := by rw [beq_eq_false_iff_ne]; omega
              obtain ⟨x, hx⟩ : ∃ x, num % N = x := ⟨_, rfl⟩
              have hxN : x < N := by rw [← hx]; exact Nat.mod_lt _ (by omega)
              have hnum := Hnum.out
              have x2 : (num : Int).tmod (N : Int) = (x : Int) := by rw [Int.tmod_eq_emod_of_nonneg (by omega), ← hx]; exact (Int.natCast_emod num N).symm
              have x3 : IntKind.i64.wrap (num : Int) = (num : Int) := IntWalk.i64_in _ ⟨by omega, by omega⟩
              have hxj : x < (joinsC ⟨ps, off, ⟨lo, hi⟩⟩).length := by rw [HN.out]; exact hxN
              have np := Lib.hid (nth_at He.out hxj)
              obtain ⟨L, hL⟩ : ∃ L, (joinsC ⟨ps, off, ⟨lo, hi⟩⟩)[x] = L := ⟨_, rfl⟩
              have hmem : L ∈ joinsC ⟨ps, off, ⟨lo, hi⟩⟩ := by rw [← hL]; exact List.getElem_mem _
              rw [hL] at np
              have hrm : L.reverse ∈ joinsC (revC ⟨ps, off, ⟨lo, hi⟩⟩) := rev_join.2 hmem
              have Hck := Lib.hid (show ckJoin ⟨ps.map swP, off, ⟨-hi, -lo⟩⟩ (L.reverse.map stC) = 0 from ckJoin_of (rev_chk He.out) hrm)
              have hlen : L.length = n := by have := K.out.k.pcs.1; rw [(join_way hmem).1]; exact this
              have Hlen := Lib.hid hlen
              have Hx := Lib.hid hx
              have hN1 : ¬ N = 0 := hN0
              have G : Kc w B D A n cap off lo hi ps off (-hi) (-lo) (ps.map swP) C n cp wr := ⟨K.out⟩
              obtain ⟨hG, c0, c1, c2, c3⟩ := G.all
              clear hL hmem hrm hlen hx hxj hxN hN0 G d0 d1 d2 d3
              go_wp2_with fail
              go_region_held3 (fun w' => Kc w B D A n cap off lo hi ps off (-hi) (-lo) (ps.map swP) C n cp w' ∧ w'.cell? ⟨B, 0, none⟩ = some (.slice A n cap) ∧ w'.cell? ⟨B, 1, none⟩ = some (.int .i64 off) ∧ w'.cell? ⟨B, 2, none⟩ = some (.int .i64 lo) ∧ w'.cell? ⟨B, 3, none⟩ = some (.int .i64 hi))
                (first | (go_split_ands; exact Kc.all (Kc.next (by assumption) (by assumption))) | (go_split_ands; exact Kc.all (Kc.next (below_alloc_ _ _) (by assumption))) | (go_split_ands; exact Kc.all (Kc.next (drew_b _ _) (by assumption))))
                (first
                  | (go_at_call 23; go_split_ands; ((show Calls Try.prog 23 #[cyl A n cap off lo hi, .int .i64 (x : Int)] _ _); with_reducible refine (nth23 A n cap off lo hi (x : Int) ps _ (Kz.pcs (Kv.k (Kc.v (by assumption)))) Hn.out).mono ?_); rintro e w' ⟨C4, m4, rfl, hs4, hb⟩; rw [np.out] at hs4 ⊢))
              have hfin : Kc w B D A n cap off lo hi ps off (-hi) (-lo) (ps.map swP) C n cp w' := And.left (by assumption)
              have S1 := Lib.hid hs4
              have K9 := Lib.hid hfin.v
              obtain rfl : n = m4 := by rw [← hs4.1, List.length_map, Hlen.out]
              clear hfin hs4 hb hG c0 c1 c2 c3 x2 x3
              go_wp2_with fail
              have HS0 := Lib.hid (Nat.le_refl w'.heap.size)
              obtain ⟨W9, hW9⟩ : ∃ W9, w' = W9 := ⟨_, rfl⟩
              rw [hW9] at K9 S1 HS0 ⊢
              clear hW9
              go_loopw [20, 21] (fun v i wr => ∃ r : Nat, i = .int .i64 ((r : Int) - 1) ∧ r ≤ n ∧ wr.ownsRow 0 28 2 v (n - r) (flatS (L.reverse.take (n - r))) ∧ (∀ b, v.ownBlock = some b → W9.heap.size ≤ b) ∧ Below W9.heap.size W9 wr) (fun _ i _ => (intOf i + 1).toNat)
              case atStart => exact ⟨n, by rfl, Nat.le_refl _, by rw [Nat.sub_self]; exact own_nil _ _ _, (fun b hb => by cases hb), Below.refl _ _⟩
              case round =>
                obtain ⟨r, rfl, hr, hown, hob, hB⟩ := hrel
                have HB := Lib.hid hB
                rcases Nat.eq_zero_or_pos r with hr0 | hr0
                · subst hr0
                  have hL : (L.reverse.take (n - 0)).length = n - 0 := by simp [Hlen.out]
                  obtain ⟨C5, cp5, hv5, hcp5, hS5⟩ := sts_own (l := L.reverse.take (n - 0)) (by rw [hL]; exact hown)
                  rw [hL] at hv5 hcp5 hS5
                  rw [Nat.sub_zero] at hv5 hcp5 hS5
                  rw [List.take_of_length_le (by rw [List.length_reverse, Hlen.out]; exact Nat.le_refl _)] at hS5
                  rw [hv5]
                  have S5 := Lib.hid hS5
                  have Hcp5 := Lib.hid hcp5
                  have K := Lib.hid (Kv.next hB K9.out)
                  obtain ⟨-, -, -, -, d0, d1, d2, d3⟩ := K.out.c
                  clear hown hL hv5 hcp5 hS5 hob hB hr
                  go_wp2_with fail
                  refine (checkJoin18 C C5 n cp n cp5 off (-hi) (-lo) (ps.map swP) (L.reverse.map stC) _ K.out.q S5.out Hn.out (by omega) Hcp5.out).mono ?_
                  rintro e9 w6 ⟨rfl, hb⟩
                  rw [Hck.out]
                  replace S5 := Lib.hid (S5.out.below hb (Nat.le_refl _))
                  replace K := Lib.hid (Kv.next hb K.out)
                  clear hb d0 d1 d2 d3
                  obtain ⟨-, -, -, -, d0, d1, d2, d3⟩ := K.out.c
                  go_wp2_with fail
                  refine (checkJoin19 C C5 n cp n cp5 off (-hi) (-lo) (ps.map swP) (L.reverse.map stC) _ K.out.q S5.out Hn.out (by omega)).mono ?_
                  rintro e9 w7 ⟨rfl, hb⟩
                  rw [Hck.out]
                  replace K := Lib.hid (Kv.next hb K.out)
                  clear hb d0 d1 d2 d3
                  go_wp2_with fail
                  refine (works13 _).mono ?_
                  rintro e w9 ⟨rfl, hb⟩
                  have HB := Lib.hid (K.out.k.next hb)
                  clear hb
                  go_wp2_with fail
                  go_ret
                  exact ⟨rfl, HB.out.below⟩
                · obtain ⟨s, rfl⟩ : ∃ s, r = s + 1 := ⟨r - 1, by omega⟩
                  have hsL : s < L.length := by rw [Hlen.out]; omega
                  obtain ⟨b, o, rfl, hc⟩ := S1.out.2 (by omega)
                  have hblt := lt_of_cell (hc 0 (by omega)).1
                  obtain ⟨g0, g1⟩ := hc s (by omega)
                  rw [sAt_map hsL] at g0 g1
                  have e0 : wr.cell? ⟨b, o + s * 2, none⟩ = _ := (hB.cell (p := ⟨b, o + s * 2, none⟩) hblt).trans g0
                  have e1 : wr.cell? ⟨b, o + s * 2 + 1, none⟩ = _ := (hB.cell (p := ⟨b, o + s * 2 + 1, none⟩) hblt).trans g1
                  have hnx : flatS (L.reverse.take (n - (s + 1))) ++ cellS L[s] = flatS (L.reverse.take (n - s)) := by
                    rw [show n - s = n - (s + 1) + 1 by omega, List.take_succ_eq_append_getElem (by rw [List.length_reverse, Hlen.out]; omega)]
                    unfold flatS
                    rw [List.flatMap_append]
                    have : L.reverse[n - (s + 1)]'(by rw [List.length_reverse, Hlen.out]; omega) = L[s] := by
                      rw [List.getElem_reverse]
                      congr 1
                      have := Hlen.out
                      omega
                    rw [this]
                    simp
                  unfold stC at e0 e1
                  unfold cellS at hnx
                  generalize (L[s] / 2 : Nat) = x0 at e0 hnx
                  generalize decide (L[s] % 2 = 1) = x1 at e1 hnx
                  simp only at e0 e1
                  obtain ⟨v', W', hap, hown', hK, hv'⟩ := app_one Try.underlying29 info28_ rfl (by omega) (by omega) (own_keep hown (Keeps.of_new (Mut := fun _ => False) (below_alloc_ wr (.cells #[.int .i64 (x0 : Int), .bool x1] 28))) (fun _ _ e => e)) (vals := [.int .i64 (x0 : Int), .bool x1]) rfl (heap_alloc_new_ wr _) (by simp [Value.oneCell']) (by omega)
                  have hrun := run_app hap
                  rw [hnx, show n - (s + 1) + 1 = n - s by omega] at hown'
                  have Hown := Lib.hid hown'
                  have HBW := Lib.hid (show Below W9.heap.size W9 W' from hB.trans (((below_alloc_ wr _).mono hB.size).trans (hK.below (by have := hB.size; simp; omega) (fun k hk e => by have := hob _ e; omega))))
                  have Hob := Lib.hid (show ∀ b, v'.ownBlock = some b → W9.heap.size ≤ b from fun b hb => by
                    rcases hv' with hv' | ⟨hv', _⟩
                    · exact hob _ (hv' ▸ hb)
                    · rw [hv'] at hb
                      have := hB.size
                      cases hb
                      simp
                      omega)
                  have i2 : (0 : Int) ≤ (s : Int) := by omega
                  have i3 : (s : Int) < (n : Int) := by omega
                  clear hown hown' hob hB hK hv' hc g0 g1 hnx hap hr0
                  go_wp2_with fail
                  go_roundw
                  case rel => exact ⟨s, by go_num, by omega, Hown.out, Hob.out, HBW.out⟩
                  case measure => simp [intOf]
end Go.Proofs.Ytfmcfalghbaanaa
