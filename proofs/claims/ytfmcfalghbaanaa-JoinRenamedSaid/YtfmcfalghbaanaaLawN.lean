/- Stage 2: the walk of JoinRenamed. -/
import Derived.Test.YtfmcfalghbaanaaLawR
namespace Go.Proofs.Ytfmcfalghbaanaa
set_option linter.unusedSimpArgs false
set_option linter.unusedVariables false
open Go.RowKit Go.Shelf
attribute [local go_sem] Oper.semAt_some
attribute [local go_sem ↓] exec_app
attribute [local go_sem ↓] at_app

/-- The first pieces of the renamed cylinder. -/
def rotN (ps : List Pc) (b : Nat) (d : Int) (k : Nat) : List Pc := (List.range k).map fun i => addP d (pAt ps ((i + b) % ps.length))
theorem rotN_succ (ps : List Pc) (b : Nat) (d : Int) (k : Nat) : rotN ps b d (k + 1) = rotN ps b d k ++ [addP d (pAt ps ((k + b) % ps.length))] := by
  unfold rotN
  rw [List.range_succ, List.map_append]
  rfl
theorem rotN_len (ps : List Pc) (b : Nat) (d : Int) (k : Nat) : (rotN ps b d k).length = k := by simp [rotN]
/-- Two cylinders in memory, the second one's cells named. -/
structure Kd (w : World) (B D : Nat) (A : Option Addr) (n cap : Nat) (off lo hi : Int) (ps : List Pc) (off2 lo2 hi2 : Int) (qs : List Pc) (C : Option Addr) (m cp : Nat) (W : World) : Prop where
  v : Kv w B D A n cap off lo hi ps off2 lo2 hi2 qs C m cp W
section
variable {w : World} {B D : Nat} {A : Option Addr} {n cap : Nat} {off lo hi : Int} {ps : List Pc} {off2 lo2 hi2 : Int} {qs : List Pc} {C : Option Addr} {m cp : Nat} {W W' : World}
theorem Kd.next (hb : Below W.heap.size W W') (h : Kd w B D A n cap off lo hi ps off2 lo2 hi2 qs C m cp W) : Kd w B D A n cap off lo hi ps off2 lo2 hi2 qs C m cp W' := ⟨Kv.next hb h.v⟩
theorem Kd.all (h : Kd w B D A n cap off lo hi ps off2 lo2 hi2 qs C m cp W) : Kd w B D A n cap off lo hi ps off2 lo2 hi2 qs C m cp W ∧
    W.cell? ⟨D, 0, none⟩ = some (.slice C m cp) ∧ W.cell? ⟨D, 1, none⟩ = some (.int .i64 off2) ∧ W.cell? ⟨D, 2, none⟩ = some (.int .i64 lo2) ∧ W.cell? ⟨D, 3, none⟩ = some (.int .i64 hi2) :=
  ⟨h, h.v.c.2.2.2.2.1, h.v.c.2.2.2.2.2.1, h.v.c.2.2.2.2.2.2.1, h.v.c.2.2.2.2.2.2.2⟩
end
/-- A piece that a round reads, and what lies in the slices. -/
structure Ky (w : World) (B D : Nat) (A : Option Addr) (n cap : Nat) (off lo hi : Int) (ps : List Pc) (off2 lo2 hi2 : Int) (qs : List Pc) (C : Option Addr) (cp : Nat) (b q : Nat) (p : Pc) (W0 W : World) : Prop where
  g : Kg w B D A n cap off lo hi ps off2 lo2 hi2 qs C cp W
  h : Below W0.heap.size W0 W
  e0 : W.cell? ⟨b, q, none⟩ = some (.int .i64 p.a.d.lo)
  e1 : W.cell? ⟨b, q + 1, none⟩ = some (.int .i64 p.a.d.hi)
  e2 : W.cell? ⟨b, q + 2, none⟩ = some (.int .i64 p.a.p)
  e3 : W.cell? ⟨b, q + 3, none⟩ = some (.int .i64 p.b.d.lo)
  e4 : W.cell? ⟨b, q + 4, none⟩ = some (.int .i64 p.b.d.hi)
  e5 : W.cell? ⟨b, q + 5, none⟩ = some (.int .i64 p.b.p)
  e6 : W.cell? ⟨b, q + 6, none⟩ = some (.bool p.loose)
section
variable {w : World} {B D : Nat} {A : Option Addr} {n cap : Nat} {off lo hi : Int} {ps : List Pc} {off2 lo2 hi2 : Int} {qs : List Pc} {C : Option Addr} {cp : Nat} {b q : Nat} {p : Pc} {W0 W W' : World}
theorem Ky.next (hb : Below W.heap.size W W') (h : Ky w B D A n cap off lo hi ps off2 lo2 hi2 qs C cp b q p W0 W) : Ky w B D A n cap off lo hi ps off2 lo2 hi2 qs C cp b q p W0 W' := by
  have hl := lt_of_cell h.e0
  have k : ∀ j, W'.cell? ⟨b, j, none⟩ = W.cell? ⟨b, j, none⟩ := fun j => hb.cell (p := ⟨b, j, none⟩) hl
  exact ⟨h.g.next hb, h.h.trans (hb.mono h.h.size), (k _).trans h.e0, (k _).trans h.e1, (k _).trans h.e2, (k _).trans h.e3, (k _).trans h.e4, (k _).trans h.e5, (k _).trans h.e6⟩
theorem Ky.all (h : Ky w B D A n cap off lo hi ps off2 lo2 hi2 qs C cp b q p W0 W) : Ky w B D A n cap off lo hi ps off2 lo2 hi2 qs C cp b q p W0 W ∧
    W.cell? ⟨B, 0, none⟩ = some (.slice A n cap) ∧ W.cell? ⟨b, q, none⟩ = some (.int .i64 p.a.d.lo) ∧ W.cell? ⟨b, q + 1, none⟩ = some (.int .i64 p.a.d.hi) ∧ W.cell? ⟨b, q + 2, none⟩ = some (.int .i64 p.a.p) ∧
    W.cell? ⟨b, q + 3, none⟩ = some (.int .i64 p.b.d.lo) ∧ W.cell? ⟨b, q + 4, none⟩ = some (.int .i64 p.b.d.hi) ∧ W.cell? ⟨b, q + 5, none⟩ = some (.int .i64 p.b.p) ∧ W.cell? ⟨b, q + 6, none⟩ = some (.bool p.loose) :=
  ⟨h, h.g.k.c.1, h.e0, h.e1, h.e2, h.e3, h.e4, h.e5, h.e6⟩
end

set_option maxRecDepth 100000 in
set_option maxHeartbeats 20000000 in
theorem renamed11 (A : Option Addr) (n cap : Nat) (off lo hi : Int) (bb ad num : Nat) (ps : List Pc) (w : World) (h : Pcs w A n ps) (hn : n ≤ 9223372036854775807) (hbb : bb ≤ 255) (had : ad ≤ 65535) (hnum : num ≤ 4294967295) :
    Calls Try.prog 11 #[cyl A n cap off lo hi, .int .u8 (bb : Int), .int .u16 (ad : Int), .int .u32 (num : Int)] w fun e w' => e = .returned (.bool true) ∧ Below w.heap.size w w' := by
  have hk : Kz w w.heap.size A n cap off lo hi ps none 0 [] _ := Kz.new (cap := cap) (off := off) (lo := lo) (hi := hi) h ⟨rfl, by omega⟩
  have K := Lib.hid hk
  have Hp := Lib.hid h
  have Hn := Lib.hid hn
  have Hnum := Lib.hid hnum
  have Hbb := Lib.hid hbb
  have Had := Lib.hid had
  clear hnum hbb had
  clear h hn hk
  unfold cyl
  go_enter Try.func11, Try.ntmps11
  go_wp2_with fail
  have HB0 := Lib.hid (Nat.le_refl w.heap.size)
  generalize (w.alloc (.cells #[.slice A n cap, .int .i64 off, .int .i64 lo, .int .i64 hi] 26)) = W0 at K ⊢
  obtain ⟨B, hB⟩ : ∃ B, w.heap.size = B := ⟨_, rfl⟩
  replace K := Lib.hid (show Kz w B A n cap off lo hi ps none 0 [] W0 from by rw [← hB]; exact K.out)
  replace HB0 := Lib.hid (show w.heap.size ≤ B from by omega)
  rw [hB]
  clear hB
  refine (fine35 A n cap off lo hi ps W0 K.out.pcs Hn.out).mono ?_
  rintro e W1 ⟨rfl, hb⟩
  replace K := Lib.hid (K.out.next hb)
  clear hb
  obtain ⟨f, hf⟩ : ∃ f, fineB ⟨ps, off, ⟨lo, hi⟩⟩ = f := ⟨_, rfl⟩
  rw [hf]
  have Hf := Lib.hid hf
  clear hf
  cases f with
  | false =>
    go_wp2_with fail
    refine (works13 _).mono ?_
    rintro e W2 ⟨rfl, hb⟩
    have HB := Lib.hid (K.out.next hb)
    clear hb
    go_wp2_with fail
    go_ret
    exact ⟨rfl, HB.out.below⟩
  | true =>
    have he : chkC ⟨ps, off, ⟨lo, hi⟩⟩ = 0 := by
      have := Hf.out
      unfold fineB at this
      simp only [Bool.and_eq_true, decide_eq_true_eq] at this
      exact this.2
    have He := Lib.hid he
    have H8 := Lib.hid (chkC_facts he)
    obtain ⟨b1, b2, b3, b4, b5, b6, b7, -⟩ := chkC_facts he
    have hnl := K.out.pcs.1
    have hn8 : 1 ≤ n ∧ n ≤ 8 := by rw [← hnl]; exact ⟨b1, b2⟩
    obtain ⟨hn1, hn2⟩ := hn8
    have b3 : 0 ≤ off := b3
    have b4 : off ≤ 1000 := b4
    have b5 : -100000 ≤ lo := b5
    have b6 : lo ≤ hi := b6
    have b7 : hi ≤ 100000 := b7
    clear he b1 b2 hnl
    have Hb := Lib.hid (And.intro b3 (And.intro b4 (And.intro b5 (And.intro b6 b7))))
    clear b3 b4 b5 b6 b7
    obtain ⟨c0, c1, c2, c3⟩ := K.out.c
    go_wp2_with fail
    have hG := Kg.new (off2 := off) (lo2 := lo) (hi2 := hi) Hp.out K.out HB0.out
    generalize (W1.alloc (.cells #[.slice none 0 0, .int .i64 off, .int .i64 lo, .int .i64 hi] 26)) = V0 at hG ⊢
    generalize W1.heap.size = D at hG ⊢
    have G := Lib.hid hG
    clear hG c0 c1 c2 c3 K
    go_loopw [11] (fun i wr => ∃ (k : Nat) (C : Option Addr) (cp : Nat), i = .int .i64 (k : Int) ∧ k ≤ n ∧ Kg w B D A n cap off lo hi ps off lo hi (rotN ps bb (ad : Int) k) C cp wr) (fun i _ => n - (intOf i).toNat)
    case atStart => exact ⟨0, none, 0, by rfl, Nat.zero_le _, G.out⟩
    case round =>
      clear G
      obtain ⟨k, C, cp, rfl, hk, hG⟩ := hrel
      have G := Lib.hid hG
      clear hG
      by_cases hlt : k < n
      · have hpl := G.out.k.pcs.1
        have hql := rotN_len ps bb (ad : Int) k
        obtain ⟨r, hr⟩ : ∃ r, (k + bb) % n = r := ⟨_, rfl⟩
        have hrn : r < n := by rw [← hr]; exact Nat.mod_lt _ (by omega)
        have hbb := Hbb.out
        have had := Had.out
        obtain ⟨b, o, rfl, -⟩ := G.out.k.pcs.2 (by omega)
        obtain ⟨e0, e1, e2, e3, e4, e5, e6⟩ := pcs_cells G.out.k.pcs hrn
        have hsn := rotN_succ ps bb (ad : Int) k
        rw [hpl, hr] at hsn
        have hok := pAt_ok He.out (k := r) (by rw [hpl]; exact hrn)
        obtain ⟨p, hp⟩ : ∃ p, pAt ps r = p := ⟨_, rfl⟩
        rw [show pAt (⟨ps, off, ⟨lo, hi⟩⟩ : Cy).ps r = p from hp] at hok
        rw [hp] at e0 e1 e2 e3 e4 e5 e6 hsn
        obtain ⟨hoa, hob⟩ := hok
        obtain ⟨-, -, -, g1, g2⟩ := okEn_facts hoa
        obtain ⟨-, -, -, g3, g4⟩ := okEn_facts hob
        obtain ⟨⟨⟨l1, h1⟩, p1⟩, ⟨⟨l2, h2⟩, p2⟩, lz⟩ := p
        simp only at e0 e1 e2 e3 e4 e5 e6 g1 g2 g3 g4
        have hY : Ky w B D (some ⟨b, o, none⟩) n cap off lo hi ps off lo hi (rotN ps bb (ad : Int) k) C cp b (o + r * 7) ⟨⟨⟨l1, h1⟩, p1⟩, ⟨⟨l2, h2⟩, p2⟩, lz⟩ wr wr := ⟨G.out, Below.refl _ _, e0, e1, e2, e3, e4, e5, e6⟩
        obtain ⟨c0, -, -, -⟩ := G.out.k.c
        have x1 : (k : Int) + (bb : Int) = ((k + bb : Nat) : Int) := by omega
        have x2 : ((k + bb : Nat) : Int).tmod (n : Int) = (r : Int) := by rw [Int.tmod_eq_emod_of_nonneg (by omega), ← hr]; exact (Int.natCast_emod (k + bb) n).symm
        have x3 : IntKind.i64.wrap (bb : Int) = (bb : Int) := IntWalk.i64_in _ ⟨by omega, by omega⟩
        have x4 : IntKind.i64.wrap ((k : Int) + (bb : Int)) = (k : Int) + (bb : Int) := IntWalk.i64_in _ ⟨by omega, by omega⟩
        have x5 : ((k : Int) + (bb : Int)).tmod (n : Int) = (r : Int) := by rw [x1]; exact x2
        have x6 : ¬ n = 0 := by omega
        have i0 : (0 : Int) ≤ (r : Int) := by omega
        have i1 : (r : Int) < (n : Int) := by omega
        have i2 : (k : Int) < (n : Int) := by omega
        have Hsn := Lib.hid hsn
        have Hql := Lib.hid hql
        have Hpl := Lib.hid hpl
        clear x1 x2 hsn hr hp hoa hob hql hpl
        go_wp2_with fail
        go_region_held3 (fun w' => Ky w B D (some ⟨b, o, none⟩) n cap off lo hi ps off lo hi (rotN ps bb (ad : Int) k) C cp b (o + r * 7) ⟨⟨⟨l1, h1⟩, p1⟩, ⟨⟨l2, h2⟩, p2⟩, lz⟩ wr w' ∧ w'.cell? ⟨B, 0, none⟩ = some (.slice (some ⟨b, o, none⟩) n cap) ∧ w'.cell? ⟨b, o + r * 7, none⟩ = some (.int .i64 l1) ∧ w'.cell? ⟨b, o + r * 7 + 1, none⟩ = some (.int .i64 h1) ∧ w'.cell? ⟨b, o + r * 7 + 2, none⟩ = some (.int .i64 p1) ∧ w'.cell? ⟨b, o + r * 7 + 3, none⟩ = some (.int .i64 l2) ∧ w'.cell? ⟨b, o + r * 7 + 4, none⟩ = some (.int .i64 h2) ∧ w'.cell? ⟨b, o + r * 7 + 5, none⟩ = some (.int .i64 p2) ∧ w'.cell? ⟨b, o + r * 7 + 6, none⟩ = some (.bool lz))
          (first | (go_split_ands; exact Ky.all (Ky.next (by assumption) (by assumption))) | (go_split_ands; exact Ky.all (Ky.next (below_alloc_ _ _) (by assumption))) | (go_split_ands; exact Ky.all (Ky.next (drew_b _ _) (by assumption))) | exact Ky.all (Ky.next (below_alloc_ _ _) hY) | exact Ky.all (Ky.next (drew_b _ _) (Ky.next (below_alloc_ _ _) hY)))
          (fail)
        have hW5 : Below wr.heap.size wr (wr.alloc (.cells #[.int .i64 l1, .int .i64 h1, .int .i64 p1, .int .i64 l2, .int .i64 h2, .int .i64 p2, .bool lz] 62)).drew := (below_alloc_ _ _).trans ((drew_b _ _).mono (below_alloc_ _ _).size)
        have hR5 : (wr.alloc (.cells #[.int .i64 l1, .int .i64 h1, .int .i64 p1, .int .i64 l2, .int .i64 h2, .int .i64 p2, .bool lz] 62)).drew.heap[wr.heap.size]? = some (.cells #[.int .i64 l1, .int .i64 h1, .int .i64 p1, .int .i64 l2, .int .i64 h2, .int .i64 p2, .bool lz] 62 (0, 0)) := heap_alloc_new_ _ _
        generalize (wr.alloc (.cells #[.int .i64 l1, .int .i64 h1, .int .i64 p1, .int .i64 l2, .int .i64 h2, .int .i64 p2, .bool lz] 62)).drew = W5 at hW5 hR5 ⊢
        obtain ⟨Q, hQ⟩ : ∃ Q, wr.heap.size = Q := ⟨_, rfl⟩
        have HQ := Lib.hid (show wr.heap.size ≤ Q ∧ Q ≤ wr.heap.size from by omega)
        rw [hQ] at hR5 ⊢
        have B5 := Lib.hid hW5
        have R5 := Lib.hid hR5
        clear e0 e1 e2 e3 e4 e5 e6 hY c0 x3 x4 x5 x6 i0 i1 hW5 hR5 hQ
        obtain ⟨Wo, rfl⟩ : ∃ Wo, Wo = wr := ⟨_, rfl⟩
        go_wp2_with fail
        go_loopw [13] (fun i w5 => ∃ m : Nat, i = .int .i64 (m : Int) ∧ Below Wo.heap.size Wo w5 ∧ ((m = 0 ∧ w5.heap[Q]? = some (.cells #[.int .i64 l1, .int .i64 h1, .int .i64 p1, .int .i64 l2, .int .i64 h2, .int .i64 p2, .bool lz] 62 (0, 0))) ∨ (m = 1 ∧ w5.heap[Q]? = some (.cells #[.int .i64 l1, .int .i64 h1, .int .i64 (p1 + (ad : Int)), .int .i64 l2, .int .i64 h2, .int .i64 p2, .bool lz] 62 (0, 0))) ∨ (m = 2 ∧ w5.heap[Q]? = some (.cells #[.int .i64 l1, .int .i64 h1, .int .i64 (p1 + (ad : Int)), .int .i64 l2, .int .i64 h2, .int .i64 (p2 + (ad : Int)), .bool lz] 62 (0, 0))))) (fun i _ => 2 - (intOf i).toNat)
        case atStart => exact ⟨0, by rfl, B5.out, .inl ⟨rfl, R5.out⟩⟩
        case round =>
          clear B5 R5
          obtain ⟨m, rfl, hB, hrow⟩ := hrel
          have B5 := Lib.hid hB
          clear hB
          rcases hrow with ⟨rfl, hR⟩ | ⟨rfl, hR⟩ | ⟨rfl, hR⟩
          · have f2 : wr.cell? ⟨Q, 2, none⟩ = some (.int .i64 p1) := by rw [cell_row hR]; rfl
            have fz : wr.frozen? ⟨Q, 2, none⟩ = false := frozen_row hR
            have HN := Lib.hid (show (wr.setCell ⟨Q, 2, none⟩ (.int .i64 (p1 + (ad : Int)))).heap[Q]? = some (.cells #[.int .i64 l1, .int .i64 h1, .int .i64 (p1 + (ad : Int)), .int .i64 l2, .int .i64 h2, .int .i64 p2, .bool lz] 62 (0, 0)) from by rw [set_same 2 _ hR]; rfl)
            have HB := Lib.hid (show Below Wo.heap.size Wo (wr.setCell ⟨Q, 2, none⟩ (.int .i64 (p1 + (ad : Int)))) from B5.out.setCell (p := ⟨Q, 2, none⟩) HQ.out.1 _)
            clear hR
            go_wp2_with fail
            go_roundw
            case rel => exact ⟨1, by go_num, HB.out, .inr (.inl ⟨rfl, HN.out⟩)⟩
            case measure => simp [intOf]
          · have f2 : wr.cell? ⟨Q, 5, none⟩ = some (.int .i64 p2) := by rw [cell_row hR]; rfl
            have fz : wr.frozen? ⟨Q, 5, none⟩ = false := frozen_row hR
            have HN := Lib.hid (show (wr.setCell ⟨Q, 5, none⟩ (.int .i64 (p2 + (ad : Int)))).heap[Q]? = some (.cells #[.int .i64 l1, .int .i64 h1, .int .i64 (p1 + (ad : Int)), .int .i64 l2, .int .i64 h2, .int .i64 (p2 + (ad : Int)), .bool lz] 62 (0, 0)) from by rw [set_same 5 _ hR]; rfl)
            have HB := Lib.hid (show Below Wo.heap.size Wo (wr.setCell ⟨Q, 5, none⟩ (.int .i64 (p2 + (ad : Int)))) from B5.out.setCell (p := ⟨Q, 5, none⟩) HQ.out.1 _)
            clear hR
            go_wp2_with fail
            go_roundw
            case rel => exact ⟨2, by go_num, HB.out, .inr (.inr ⟨rfl, HN.out⟩)⟩
            case measure => simp [intOf]
          · have f0 : wr.cell? ⟨Q, 0, none⟩ = some (.int .i64 l1) := by rw [cell_row hR]; rfl
            have f1 : wr.cell? ⟨Q, 1, none⟩ = some (.int .i64 h1) := by rw [cell_row hR]; rfl
            have f2 : wr.cell? ⟨Q, 2, none⟩ = some (.int .i64 (p1 + (ad : Int))) := by rw [cell_row hR]; rfl
            have f3 : wr.cell? ⟨Q, 3, none⟩ = some (.int .i64 l2) := by rw [cell_row hR]; rfl
            have f4 : wr.cell? ⟨Q, 4, none⟩ = some (.int .i64 h2) := by rw [cell_row hR]; rfl
            have f5 : wr.cell? ⟨Q, 5, none⟩ = some (.int .i64 (p2 + (ad : Int))) := by rw [cell_row hR]; rfl
            have f6 : wr.cell? ⟨Q, 6, none⟩ = some (.bool lz) := by rw [cell_row hR]; rfl
            have G5 := G.out.next B5.out
            have hX2 := below_alloc_ wr (.cells #[.int .i64 l1, .int .i64 h1, .int .i64 (p1 + (ad : Int)), .int .i64 l2, .int .i64 h2, .int .i64 (p2 + (ad : Int)), .bool lz] 62)
            obtain ⟨C', cp', W', hrun, hd, hf, hG'⟩ := (G5.next hX2).app (p := addP (ad : Int) ⟨⟨⟨l1, h1⟩, p1⟩, ⟨⟨l2, h2⟩, p2⟩, lz⟩) (heap_alloc_new_ _ _) (by rw [Hql.out]; omega)
            have KX1 := G5.c
            rw [Hql.out] at hrun hd hG' KX1
            obtain ⟨d0, -, -, -, -⟩ := KX1
            rw [← Hsn.out] at hG'
            have HG := Lib.hid hG'
            clear hG' G5 hX2 hR
            go_wp2_with fail
            go_roundw
            case rel => exact ⟨k + 1, C', cp', by go_num, by omega, HG.out⟩
            case measure => simp [intOf]; omega
      · have i1 : ¬ (k : Int) < (n : Int) := by omega
        obtain rfl : n = k := by omega
        have hpl := G.out.k.pcs.1
        have hql := rotN_len ps bb (ad : Int) n
        obtain ⟨R, hR⟩ : ∃ R, rotN ps bb (ad : Int) n = R := ⟨_, rfl⟩
        have hRC : (⟨R, off, ⟨lo, hi⟩⟩ : Cy) = rotC ⟨ps, off, ⟨lo, hi⟩⟩ bb (ad : Int) := by
          rw [← hR]
          unfold rotC rotN rotPs
          rw [hpl]
        rw [hR] at G hql
        have hKv : Kv w B D A n cap off lo hi ps off lo hi R C n cp wr := by
          have h1 := G.out.q
          have h2 := G.out.r1
          rw [hql] at h1 h2
          exact ⟨G.out.k, h1, h2⟩
        have K := Lib.hid hKv
        have HRC := Lib.hid hRC
        have Hpl := Lib.hid hpl
        obtain ⟨c0, c1, c2, c3, d0, d1, d2, d3⟩ := K.out.c
        clear hpl hql hKv G hR hRC hlt hk
        go_wp2_with fail
        refine (fine35 C n cp off lo hi R _ K.out.q Hn.out).mono ?_
        rintro e W2 ⟨rfl, hb⟩
        replace K := Lib.hid (Kv.next hb K.out)
        clear hb c0 c1 c2 c3 d0 d1 d2 d3 i1
        obtain ⟨f2, hf2⟩ : ∃ f2, fineB ⟨R, off, ⟨lo, hi⟩⟩ = f2 := ⟨_, rfl⟩
        rw [hf2]
        have Hf2 := Lib.hid hf2
        clear hf2
        cases f2 with
        | false =>
          go_wp2_with fail
          refine (works13 _).mono ?_
          rintro e w9 ⟨rfl, hb⟩
          have HB := Lib.hid (K.out.k.next hb)
          clear hb
          go_wp2_with fail
          go_ret
          exact ⟨rfl, HB.out.below⟩
        | true =>
          have he2 : chkC ⟨R, off, ⟨lo, hi⟩⟩ = 0 := by
            have := Hf2.out
            unfold fineB at this
            simp only [Bool.and_eq_true, decide_eq_true_eq] at this
            exact this.2
          obtain ⟨N, hN⟩ : ∃ N, (joinsC ⟨ps, off, ⟨lo, hi⟩⟩).length = N := ⟨_, rfl⟩
          have hN2 : (joinsC ⟨R, off, ⟨lo, hi⟩⟩).length = N := by rw [HRC.out, rot_count, hN]
          have He2 := Lib.hid he2
          have HN := Lib.hid hN
          have HN2 := Lib.hid hN2
          have Hc1 := Lib.hid (show countR ⟨ps, off, ⟨lo, hi⟩⟩ = ((N : Int), 0) from by rw [countR_ok He.out, hN])
          have Hc2 := Lib.hid (show countR ⟨R, off, ⟨lo, hi⟩⟩ = ((N : Int), 0) from by rw [countR_ok he2, hN2])
          clear he2 hN hN2
          obtain ⟨c0, c1, c2, c3, d0, d1, d2, d3⟩ := K.out.c
          go_wp2_with fail
          refine (count21 A n cap off lo hi ps _ K.out.k.pcs Hn.out).mono ?_
          rintro e2 W3 ⟨rfl, hb⟩
          rw [Hc1.out]
          replace K := Lib.hid (Kv.next hb K.out)
          clear hb c0 c1 c2 c3 d0 d1 d2 d3
          obtain ⟨c0, c1, c2, c3, d0, d1, d2, d3⟩ := K.out.c
          go_wp2_with fail
          refine (count21 C n cp off lo hi R _ K.out.q Hn.out).mono ?_
          rintro e2 W4 ⟨rfl, hb⟩
          rw [Hc2.out]
          replace K := Lib.hid (Kv.next hb K.out)
          clear hb c0 c1 c2 c3 d0 d1 d2 d3
          have z1 : ((N : Int) != (N : Int)) = false := by simp
          have z4 : decide ((N : Int) < 0) = false := decide_eq_false (by omega)
          by_cases hN0 : N = 0
          · subst hN0
            go_wp2_with fail
            refine (works13 _).mono ?_
            rintro e w9 ⟨rfl, hb⟩
            have HB := Lib.hid (K.out.k.next hb)
            clear hb
            go_wp2_with fail
            go_ret
            exact ⟨rfl, HB.out.below⟩
          · have dN0 : ((N : Int) == 0) = false := by rw [beq_eq_false_iff_ne]; omega
            obtain ⟨x, hx⟩ : ∃ x, num % N = x := ⟨_, rfl⟩
            have hxN : x < N := by rw [← hx]; exact Nat.mod_lt _ (by omega)
            have hnum := Hnum.out
            have x2 : (num : Int).tmod (N : Int) = (x : Int) := by rw [Int.tmod_eq_emod_of_nonneg (by omega), ← hx]; exact (Int.natCast_emod num N).symm
            have x3 : IntKind.i64.wrap (num : Int) = (num : Int) := IntWalk.i64_in _ ⟨by omega, by omega⟩
            have hxj : x < (joinsC ⟨R, off, ⟨lo, hi⟩⟩).length := by rw [HN2.out]; exact hxN
            have np := Lib.hid (nth_at He2.out hxj)
            obtain ⟨L, hL⟩ : ∃ L, (joinsC ⟨R, off, ⟨lo, hi⟩⟩)[x] = L := ⟨_, rfl⟩
            have hmem : L ∈ joinsC ⟨R, off, ⟨lo, hi⟩⟩ := by rw [← hL]; exact List.getElem_mem _
            rw [hL] at np
            have Hck := Lib.hid (ckJoin_of He2.out hmem)
            have hlen : L.length = n := by rw [(join_way hmem).1]; exact K.out.q.1
            have hrot : L.map (phi n bb) ∈ joinsC ⟨ps, off, ⟨lo, hi⟩⟩ := by
              rw [HRC.out] at hmem
              have := rot_join1 hmem
              rwa [show (⟨ps, off, ⟨lo, hi⟩⟩ : Cy).ps.length = n from Hpl.out] at this
            have Hrot := Lib.hid hrot
            have Hmem := Lib.hid hmem
            have Hlen := Lib.hid hlen
            have Hx := Lib.hid hx
            have HNp := Lib.hid (show 0 < N from by omega)
            have G : Kd w B D A n cap off lo hi ps off lo hi R C n cp W4 := ⟨K.out⟩
            obtain ⟨hG, d0, d1, d2, d3⟩ := G.all
            clear hL hmem hrot hlen hx hxj hxN G K
            go_wp2_with fail
            go_region_held3 (fun w' => Kd w B D A n cap off lo hi ps off lo hi R C n cp w' ∧ w'.cell? ⟨D, 0, none⟩ = some (.slice C n cp) ∧ w'.cell? ⟨D, 1, none⟩ = some (.int .i64 off) ∧ w'.cell? ⟨D, 2, none⟩ = some (.int .i64 lo) ∧ w'.cell? ⟨D, 3, none⟩ = some (.int .i64 hi))
              (first | (go_split_ands; exact Kd.all (Kd.next (by assumption) (by assumption))) | (go_split_ands; exact Kd.all (Kd.next (below_alloc_ _ _) (by assumption))) | (go_split_ands; exact Kd.all (Kd.next (drew_b _ _) (by assumption))))
              (first
                | (go_at_call 23; go_split_ands; ((show Calls Try.prog 23 #[cyl C n cp off lo hi, .int .i64 (x : Int)] _ _); with_reducible refine (nth23 C n cp off lo hi (x : Int) R _ (Kv.q (Kd.v (by assumption))) Hn.out).mono ?_); rintro e w' ⟨C4, m4, rfl, hs4, hb⟩; rw [np.out] at hs4 ⊢))
            have hfin : Kd w B D A n cap off lo hi ps off lo hi R C n cp w' := And.left (by assumption)
            have S1 := Lib.hid hs4
            have K := Lib.hid hfin.v
            obtain rfl : n = m4 := by rw [← hs4.1, List.length_map, Hlen.out]
            clear hfin hs4 hb hG d0 d1 d2 d3 x2 x3 z1 z4
            obtain ⟨-, -, -, -, d0, d1, d2, d3⟩ := K.out.c
            go_wp2_with fail
            refine (checkJoin19 C C4 n cp n n off lo hi R (L.map stC) _ K.out.q S1.out Hn.out (by omega)).mono ?_
            rintro e W5 ⟨rfl, hb⟩
            rw [Hck.out]
            replace S1 := Lib.hid (S1.out.below hb (Nat.le_refl _))
            replace K := Lib.hid (Kv.next hb K.out)
            clear hb d0 d1 d2 d3
            go_wp2_with fail
            go_loopw [19, 20] (fun v i wr => ∃ k : Nat, i = .int .i64 (k : Int) ∧ k ≤ n ∧ wr.ownsRow 0 28 2 v k (flatS ((L.map (phi n bb)).take k)) ∧ (∀ b, v.ownBlock = some b → W5.heap.size ≤ b) ∧ Below W5.heap.size W5 wr) (fun _ i _ => n - (intOf i).toNat)
            case atStart => exact ⟨0, by rfl, Nat.zero_le _, own_nil _ _ _, (fun b hb => by cases hb), Below.refl _ _⟩
            case round =>
              obtain ⟨k, rfl, hk, hown, hob, hB⟩ := hrel
              have HB := Lib.hid hB
              by_cases hlt : k < n
              · have hkL : k < L.length := by rw [Hlen.out]; exact hlt
                obtain ⟨b, o, rfl, hc⟩ := S1.out.2 (by omega)
                have hblt := lt_of_cell (hc 0 (by omega)).1
                obtain ⟨g0, g1⟩ := hc k hlt
                rw [sAt_map hkL] at g0 g1
                have hbb := Hbb.out
                have hnx : flatS ((L.map (phi n bb)).take k) ++ [.int .i64 (((L[k] / 2 + bb) % n : Nat) : Int), .bool (decide (L[k] % 2 = 1))] = flatS ((L.map (phi n bb)).take (k + 1)) := by
                  rw [List.take_succ_eq_append_getElem (by rw [List.length_map]; exact hkL)]
                  unfold flatS
                  rw [List.flatMap_append, List.getElem_map]
                  simp [cellS, phi_div, phi_mod]
                have hL2 : L[k] / 2 < 9 := by
                  have h1 := join_half Hmem.out L[k] (List.getElem_mem hkL)
                  rw [show (⟨R, off, ⟨lo, hi⟩⟩ : Cy).ps.length = n from K.out.q.1] at h1
                  omega
                unfold stC at g0 g1
                simp only at g0 g1
                obtain ⟨p0, hp0⟩ : ∃ p0, L[k] / 2 = p0 := ⟨_, rfl⟩
                rw [hp0] at g0 hnx hL2
                obtain ⟨r, hr⟩ : ∃ r, (p0 + bb) % n = r := ⟨_, rfl⟩
                rw [hr] at hnx
                generalize decide (L[k] % 2 = 1) = x1 at g1 hnx
                have s1 : ((p0 : Int) + (bb : Int)).tmod (n : Int) = (r : Int) := by
                  rw [show (p0 : Int) + (bb : Int) = ((p0 + bb : Nat) : Int) from by omega, Int.tmod_eq_emod_of_nonneg (by omega), ← hr]
                  exact (Int.natCast_emod (p0 + bb) n).symm
                have s2 : IntKind.i64.wrap (bb : Int) = (bb : Int) := IntWalk.i64_in _ ⟨by omega, by omega⟩
                have s3 : IntKind.i64.wrap ((p0 : Int) + (bb : Int)) = (p0 : Int) + (bb : Int) := IntWalk.i64_in _ ⟨by omega, by omega⟩
                have s4 : ¬ n = 0 := by omega
                have i2 : (0 : Int) ≤ (k : Int) := by omega
                have i3 : (k : Int) < (n : Int) := by omega
                clear hp0 hr hc
                have Hblt := Lib.hid hblt
                have Hg0 := Lib.hid g0
                have Hg1 := Lib.hid g1
                clear hblt g0 g1
                have Hnx := Lib.hid hnx
                have Hown := Lib.hid hown
                have Hob := Lib.hid hob
                clear hnx hown hob hB
                go_wp2_with fail
                refine wp_region_held_drew (S := fun w2 => Below W5.heap.size W5 w2) (by kernel_rfl) (HB.out.trans ((drew_b _ _).mono HB.out.size)) (fun hS0 => ?_)
                refine wpAnyH_take (i := 0) (oi := { dst := some 125, op := Op.move (Operand.tmp 19), type := 29, pos := "outright.go:244", after := #[], guard := none }) (v := u19) rfl (by kernel_rfl) (by kernel_rfl) (by kernel_rfl) (fun _ _ _ h => h) (Or.inl ⟨by rfl, by intro w2 hSw; (try dsimp only at hSw); have e0 := (hSw.cell (p := ⟨b, o + k * 2, none⟩) Hblt.out).trans Hg0.out; have e1 := (hSw.cell (p := ⟨b, o + k * 2 + 1, none⟩) Hblt.out).trans Hg1.out; go_simp⟩) hS0 ?_
                try simp only [Act.put, List.setIfInBounds_toArray, List.set_cons_zero, List.set_cons_succ]
                refine wpAnyH_take (i := 1) (oi := { dst := some 126, op := Op.move (Operand.tmp 18), type := 29, pos := "outright.go:244", after := #[], guard := none }) (v := .slice (some ⟨b, o, none⟩) n n) rfl (by kernel_rfl) (by kernel_rfl) (by kernel_rfl) (fun _ _ _ h => h) (Or.inl ⟨by rfl, by intro w2 hSw; (try dsimp only at hSw); have e0 := (hSw.cell (p := ⟨b, o + k * 2, none⟩) Hblt.out).trans Hg0.out; have e1 := (hSw.cell (p := ⟨b, o + k * 2 + 1, none⟩) Hblt.out).trans Hg1.out; go_simp⟩) hS0 ?_
                try simp only [Act.put, List.setIfInBounds_toArray, List.set_cons_zero, List.set_cons_succ]
                refine wpAnyH_take (i := 2) (oi := { dst := some 127, op := Op.move (Operand.tmp 20), type := 3, pos := "outright.go:244", after := #[], guard := none }) (v := .int .i64 (k : Int)) rfl (by kernel_rfl) (by kernel_rfl) (by kernel_rfl) (fun _ _ _ h => h) (Or.inl ⟨by rfl, by intro w2 hSw; (try dsimp only at hSw); have e0 := (hSw.cell (p := ⟨b, o + k * 2, none⟩) Hblt.out).trans Hg0.out; have e1 := (hSw.cell (p := ⟨b, o + k * 2 + 1, none⟩) Hblt.out).trans Hg1.out; go_simp⟩) hS0 ?_
                try simp only [Act.put, List.setIfInBounds_toArray, List.set_cons_zero, List.set_cons_succ]
                refine wpAnyH_take (i := 3) (oi := { dst := some 128, op := Op.indexAddr 29 (Operand.tmp 126) (Operand.tmp 127), type := 0, pos := "outright.go:244", after := #[{ on := 1, ground := Ground.data }, { on := 2, ground := Ground.data }], guard := none }) (v := .pointer (some ⟨b, o + k * 2, none⟩)) rfl (by kernel_rfl) (by kernel_rfl) (by kernel_rfl) (fun _ _ _ h => h) (Or.inl ⟨by rfl, by intro w2 hSw; (try dsimp only at hSw); have e0 := (hSw.cell (p := ⟨b, o + k * 2, none⟩) Hblt.out).trans Hg0.out; have e1 := (hSw.cell (p := ⟨b, o + k * 2 + 1, none⟩) Hblt.out).trans Hg1.out; go_simp⟩) hS0 ?_
                try simp only [Act.put, List.setIfInBounds_toArray, List.set_cons_zero, List.set_cons_succ]
                refine wpAnyH_take (i := 4) (oi := { dst := some 129, op := Op.fieldAddr 28 (Operand.tmp 128) 0, type := 0, pos := "outright.go:244", after := #[{ on := 3, ground := Ground.data }], guard := none }) (v := .pointer (some ⟨b, o + k * 2, none⟩)) rfl (by kernel_rfl) (by kernel_rfl) (by kernel_rfl) (fun _ _ _ h => h) (Or.inl ⟨by rfl, by intro w2 hSw; (try dsimp only at hSw); have e0 := (hSw.cell (p := ⟨b, o + k * 2, none⟩) Hblt.out).trans Hg0.out; have e1 := (hSw.cell (p := ⟨b, o + k * 2 + 1, none⟩) Hblt.out).trans Hg1.out; go_simp⟩) hS0 ?_
                try simp only [Act.put, List.setIfInBounds_toArray, List.set_cons_zero, List.set_cons_succ]
                refine wpAnyH_take (i := 5) (oi := { dst := some 130, op := Op.load 3 (Operand.tmp 129), type := 3, pos := "outright.go:244", after := #[{ on := 4, ground := Ground.data }], guard := none }) (v := .int .i64 (p0 : Int)) rfl (by kernel_rfl) (by kernel_rfl) (by kernel_rfl) (fun _ _ _ h => h) (Or.inl ⟨by rfl, by intro w2 hSw; (try dsimp only at hSw); have e0 := (hSw.cell (p := ⟨b, o + k * 2, none⟩) Hblt.out).trans Hg0.out; have e1 := (hSw.cell (p := ⟨b, o + k * 2 + 1, none⟩) Hblt.out).trans Hg1.out; go_simp⟩) hS0 ?_
                try simp only [Act.put, List.setIfInBounds_toArray, List.set_cons_zero, List.set_cons_succ]
                refine wpAnyH_take (i := 6) (oi := { dst := some 131, op := Op.move (Operand.tmp 1), type := 5, pos := "outright.go:244", after := #[], guard := none }) (v := .int .u8 (bb : Int)) rfl (by kernel_rfl) (by kernel_rfl) (by kernel_rfl) (fun _ _ _ h => h) (Or.inl ⟨by rfl, by intro w2 hSw; (try dsimp only at hSw); have e0 := (hSw.cell (p := ⟨b, o + k * 2, none⟩) Hblt.out).trans Hg0.out; have e1 := (hSw.cell (p := ⟨b, o + k * 2 + 1, none⟩) Hblt.out).trans Hg1.out; go_simp⟩) hS0 ?_
                try simp only [Act.put, List.setIfInBounds_toArray, List.set_cons_zero, List.set_cons_succ]
                refine wpAnyH_take (i := 7) (oi := { dst := some 132, op := Op.convert 5 3 (Operand.tmp 131), type := 3, pos := "outright.go:244", after := #[{ on := 6, ground := Ground.data }], guard := none }) (v := .int .i64 (bb : Int)) rfl (by kernel_rfl) (by kernel_rfl) (by kernel_rfl) (fun _ _ _ h => h) (Or.inl ⟨by rfl, by intro w2 hSw; (try dsimp only at hSw); have e0 := (hSw.cell (p := ⟨b, o + k * 2, none⟩) Hblt.out).trans Hg0.out; have e1 := (hSw.cell (p := ⟨b, o + k * 2 + 1, none⟩) Hblt.out).trans Hg1.out; go_simp⟩) hS0 ?_
                try simp only [Act.put, List.setIfInBounds_toArray, List.set_cons_zero, List.set_cons_succ]
                refine wpAnyH_take (i := 8) (oi := { dst := some 133, op := Op.binOp BinOp.add 3 (Operand.tmp 130) (Operand.tmp 132) 3, type := 3, pos := "outright.go:244", after := #[{ on := 5, ground := Ground.data }, { on := 7, ground := Ground.data }], guard := none }) (v := .int .i64 ((p0 : Int) + (bb : Int))) rfl (by kernel_rfl) (by kernel_rfl) (by kernel_rfl) (fun _ _ _ h => h) (Or.inl ⟨by rfl, by intro w2 hSw; (try dsimp only at hSw); have e0 := (hSw.cell (p := ⟨b, o + k * 2, none⟩) Hblt.out).trans Hg0.out; have e1 := (hSw.cell (p := ⟨b, o + k * 2 + 1, none⟩) Hblt.out).trans Hg1.out; go_simp⟩) hS0 ?_
                try simp only [Act.put, List.setIfInBounds_toArray, List.set_cons_zero, List.set_cons_succ]
                refine wpAnyH_take (i := 9) (oi := { dst := some 134, op := Op.move (Operand.tmp 9), type := 3, pos := "outright.go:244", after := #[], guard := none }) (v := .int .i64 (n : Int)) rfl (by kernel_rfl) (by kernel_rfl) (by kernel_rfl) (fun _ _ _ h => h) (Or.inl ⟨by rfl, by intro w2 hSw; (try dsimp only at hSw); have e0 := (hSw.cell (p := ⟨b, o + k * 2, none⟩) Hblt.out).trans Hg0.out; have e1 := (hSw.cell (p := ⟨b, o + k * 2 + 1, none⟩) Hblt.out).trans Hg1.out; go_simp⟩) hS0 ?_
                try simp only [Act.put, List.setIfInBounds_toArray, List.set_cons_zero, List.set_cons_succ]
                refine wpAnyH_take (i := 10) (oi := { dst := some 135, op := Op.binOp BinOp.rem 3 (Operand.tmp 133) (Operand.tmp 134) 3, type := 3, pos := "outright.go:244", after := #[{ on := 8, ground := Ground.data }, { on := 9, ground := Ground.data }], guard := none }) (v := .int .i64 (r : Int)) rfl (by kernel_rfl) (by kernel_rfl) (by kernel_rfl) (fun _ _ _ h => h) (Or.inl ⟨by rfl, by intro w2 hSw; (try dsimp only at hSw); have e0 := (hSw.cell (p := ⟨b, o + k * 2, none⟩) Hblt.out).trans Hg0.out; have e1 := (hSw.cell (p := ⟨b, o + k * 2 + 1, none⟩) Hblt.out).trans Hg1.out; go_simp⟩) hS0 ?_
                try simp only [Act.put, List.setIfInBounds_toArray, List.set_cons_zero, List.set_cons_succ]
                refine wpAnyH_take (i := 11) (oi := { dst := some 136, op := Op.move (Operand.tmp 18), type := 29, pos := "outright.go:244", after := #[], guard := none }) (v := .slice (some ⟨b, o, none⟩) n n) rfl (by kernel_rfl) (by kernel_rfl) (by kernel_rfl) (fun _ _ _ h => h) (Or.inl ⟨by rfl, by intro w2 hSw; (try dsimp only at hSw); have e0 := (hSw.cell (p := ⟨b, o + k * 2, none⟩) Hblt.out).trans Hg0.out; have e1 := (hSw.cell (p := ⟨b, o + k * 2 + 1, none⟩) Hblt.out).trans Hg1.out; go_simp⟩) hS0 ?_
                try simp only [Act.put, List.setIfInBounds_toArray, List.set_cons_zero, List.set_cons_succ]
                refine wpAnyH_take (i := 12) (oi := { dst := some 137, op := Op.move (Operand.tmp 20), type := 3, pos := "outright.go:244", after := #[], guard := none }) (v := .int .i64 (k : Int)) rfl (by kernel_rfl) (by kernel_rfl) (by kernel_rfl) (fun _ _ _ h => h) (Or.inl ⟨by rfl, by intro w2 hSw; (try dsimp only at hSw); have e0 := (hSw.cell (p := ⟨b, o + k * 2, none⟩) Hblt.out).trans Hg0.out; have e1 := (hSw.cell (p := ⟨b, o + k * 2 + 1, none⟩) Hblt.out).trans Hg1.out; go_simp⟩) hS0 ?_
                try simp only [Act.put, List.setIfInBounds_toArray, List.set_cons_zero, List.set_cons_succ]
                refine wpAnyH_take (i := 13) (oi := { dst := some 138, op := Op.indexAddr 29 (Operand.tmp 136) (Operand.tmp 137), type := 0, pos := "outright.go:244", after := #[{ on := 11, ground := Ground.data }, { on := 12, ground := Ground.data }], guard := none }) (v := .pointer (some ⟨b, o + k * 2, none⟩)) rfl (by kernel_rfl) (by kernel_rfl) (by kernel_rfl) (fun _ _ _ h => h) (Or.inl ⟨by rfl, by intro w2 hSw; (try dsimp only at hSw); have e0 := (hSw.cell (p := ⟨b, o + k * 2, none⟩) Hblt.out).trans Hg0.out; have e1 := (hSw.cell (p := ⟨b, o + k * 2 + 1, none⟩) Hblt.out).trans Hg1.out; go_simp⟩) hS0 ?_
                try simp only [Act.put, List.setIfInBounds_toArray, List.set_cons_zero, List.set_cons_succ]
                refine wpAnyH_take (i := 14) (oi := { dst := some 139, op := Op.fieldAddr 28 (Operand.tmp 138) 1, type := 0, pos := "outright.go:244", after := #[{ on := 13, ground := Ground.data }], guard := none }) (v := .pointer (some ⟨b, o + k * 2 + 1, none⟩)) rfl (by kernel_rfl) (by kernel_rfl) (by kernel_rfl) (fun _ _ _ h => h) (Or.inl ⟨by rfl, by intro w2 hSw; (try dsimp only at hSw); have e0 := (hSw.cell (p := ⟨b, o + k * 2, none⟩) Hblt.out).trans Hg0.out; have e1 := (hSw.cell (p := ⟨b, o + k * 2 + 1, none⟩) Hblt.out).trans Hg1.out; go_simp⟩) hS0 ?_
                try simp only [Act.put, List.setIfInBounds_toArray, List.set_cons_zero, List.set_cons_succ]
                refine wpAnyH_take (i := 15) (oi := { dst := some 140, op := Op.load 4 (Operand.tmp 139), type := 4, pos := "outright.go:244", after := #[{ on := 14, ground := Ground.data }], guard := none }) (v := .bool x1) rfl (by kernel_rfl) (by kernel_rfl) (by kernel_rfl) (fun _ _ _ h => h) (Or.inl ⟨by rfl, by intro w2 hSw; (try dsimp only at hSw); have e0 := (hSw.cell (p := ⟨b, o + k * 2, none⟩) Hblt.out).trans Hg0.out; have e1 := (hSw.cell (p := ⟨b, o + k * 2 + 1, none⟩) Hblt.out).trans Hg1.out; go_simp⟩) hS0 ?_
                try simp only [Act.put, List.setIfInBounds_toArray, List.set_cons_zero, List.set_cons_succ]
                refine wpAnyH_take (i := 16) (oi := { dst := some 141, op := Op.build 28 #[(0, Operand.tmp 135), (1, Operand.tmp 140)], type := 28, pos := "outright.go:244", after := #[{ on := 10, ground := Ground.data }, { on := 15, ground := Ground.data }], guard := none }) (v := .agg #[.int .i64 (r : Int), .bool x1]) rfl (by kernel_rfl) (by kernel_rfl) (by kernel_rfl) (fun _ _ _ h => h) (Or.inl ⟨by rfl, by intro w2 hSw; (try dsimp only at hSw); have e0 := (hSw.cell (p := ⟨b, o + k * 2, none⟩) Hblt.out).trans Hg0.out; have e1 := (hSw.cell (p := ⟨b, o + k * 2 + 1, none⟩) Hblt.out).trans Hg1.out; go_simp⟩) hS0 ?_
                try simp only [Act.put, List.setIfInBounds_toArray, List.set_cons_zero, List.set_cons_succ]
                refine wpAnyH_ready (rs := [17]) (by kernel_rfl) (by simp) ?_
                refine AllReadyH.cons (o := { dst := some 142, op := Op.buildSlice 29 1 #[(0, Operand.tmp 141)], type := 29, pos := "outright.go:244", after := #[{ on := 16, ground := Ground.data }], guard := none }) rfl (fun K hK => ?_) AllReadyH.nil
                go_simp
                refine hK.out _ _ (HB.out.trans (((below_alloc_ _ _).trans ((drew_b _ _).mono (below_alloc_ _ _).size)).mono HB.out.size)) (fun hS1 => ?_)
                clear hK K
                try simp only [Act.put, List.setIfInBounds_toArray, List.set_cons_zero, List.set_cons_succ]
                refine wpAnyH_ready (rs := [18]) (by kernel_rfl) (by simp) ?_
                refine AllReadyH.cons (o := { dst := some 143, op := Op.call { callee := Callee.builtin Builtin.append, args := #[Operand.tmp 125, Operand.tmp 142], argTypes := #[29, 29] }, type := 29, pos := "outright.go:244", after := #[{ on := 0, ground := Ground.data }, { on := 17, ground := Ground.data }], guard := none }) rfl (fun K hK => ?_) AllReadyH.nil
                have hX2 : Below wr.heap.size wr (wr.alloc (.cells #[.int .i64 (r : Int), .bool x1] 28)).drew := (below_alloc_ _ _).trans ((drew_b _ _).mono (below_alloc_ _ _).size)
                obtain ⟨v9, W9, hap, hown9, hK9, hv9⟩ := app_one Try.underlying29 info28_ rfl (by omega) (by omega) (own_keep Hown.out (Keeps.of_new (Mut := fun _ => False) hX2) (fun _ _ e => e)) (vals := [.int .i64 (r : Int), .bool x1]) rfl (Z := wr.heap.size) (heap_alloc_new_ wr _) (by simp [Value.oneCell']) (by omega)
                have hrun := run_app hap
                rw [Hnx.out] at hown9
                have Hown9 := Lib.hid hown9
                have HBW := Lib.hid (show Below W5.heap.size W5 W9 from hS1.trans (hK9.below hS1.size (fun j hj e => by have := Hob.out _ e; omega)))
                have Hob9 := Lib.hid (show ∀ b, v9.ownBlock = some b → W5.heap.size ≤ b from fun b hb => by
                  rcases hv9 with hv9 | ⟨hv9, _⟩
                  · exact Hob.out _ (hv9 ▸ hb)
                  · rw [hv9] at hb
                    have := hS1.size
                    cases hb
                    exact this)
                clear hown9 hK9 hv9 hap hX2
                go_simp
                refine hK.out _ _ HBW.out (fun hS2 => ?_)
                clear hK K
                try simp only [Act.put, List.setIfInBounds_toArray, List.set_cons_zero, List.set_cons_succ]
                refine wpAnyH_take (i := 19) (oi := { dst := some 19, op := Op.assign (Operand.tmp 143), type := 29, pos := "outright.go:244", after := #[{ on := 18, ground := Ground.data }, { on := 18, ground := Ground.chain }, { on := 0, ground := Ground.phase }, { on := 1, ground := Ground.phase }, { on := 2, ground := Ground.phase }, { on := 3, ground := Ground.phase }, { on := 4, ground := Ground.phase }, { on := 5, ground := Ground.phase }, { on := 6, ground := Ground.phase }, { on := 7, ground := Ground.phase }, { on := 8, ground := Ground.phase }, { on := 9, ground := Ground.phase }, { on := 10, ground := Ground.phase }, { on := 11, ground := Ground.phase }, { on := 12, ground := Ground.phase }, { on := 13, ground := Ground.phase }, { on := 14, ground := Ground.phase }, { on := 15, ground := Ground.phase }, { on := 16, ground := Ground.phase }, { on := 17, ground := Ground.phase }, { on := 18, ground := Ground.phase }], guard := none }) (v := v9) rfl (by kernel_rfl) (by kernel_rfl) (by kernel_rfl) (fun _ _ _ h => h) (Or.inl ⟨by rfl, by intro w2 hSw; (try dsimp only at hSw); have e0 := (hSw.cell (p := ⟨b, o + k * 2, none⟩) Hblt.out).trans Hg0.out; have e1 := (hSw.cell (p := ⟨b, o + k * 2 + 1, none⟩) Hblt.out).trans Hg1.out; go_simp⟩) hS2 ?_
                try simp only [Act.put, List.setIfInBounds_toArray, List.set_cons_zero, List.set_cons_succ]
                refine wpAnyH_done (by kernel_rfl) ?_ _
                clear s1 s2 s3 s4 hS0 hS1 hS2 hrun
                go_wp2_with fail
                go_roundw
                case rel => exact ⟨k + 1, by go_num, by omega, Hown9.out, Hob9.out, HBW.out⟩
                case measure => simp [intOf]; omega
              · obtain rfl : n = k := by omega
                have i2 : ¬ (n : Int) < (n : Int) := by omega
                have hL : ((L.map (phi n bb)).take n).length = n := by simp [Hlen.out]
                obtain ⟨C5, cp5, hv5, hcp5, hS5⟩ := sts_own (l := (L.map (phi n bb)).take n) (by rw [hL]; exact hown)
                rw [hL] at hv5 hcp5 hS5
                rw [List.take_of_length_le (by rw [List.length_map, Hlen.out]; exact Nat.le_refl _)] at hS5
                rw [hv5]
                obtain ⟨ix, hix, hix2⟩ := List.getElem_of_mem Hrot.out
                have hrk := rank_at He.out hix
                rw [hix2] at hrk
                have hixN : ix < N := by rw [← HN.out]; exact hix
                have Hrk := Lib.hid hrk
                have S5 := Lib.hid hS5
                have Hcp5 := Lib.hid hcp5
                replace K := Lib.hid (Kv.next hB K.out)
                obtain ⟨c0, c1, c2, c3, -, -, -, -⟩ := K.out.c
                clear hown hL hv5 hcp5 hS5 hob hB hk hrk hix hix2 HB hlt
                go_wp2_with fail
                refine (rank25 A C5 n cap n cp5 off lo hi ps ((L.map (phi n bb)).map stC) _ K.out.k.pcs S5.out Hn.out (by omega) Hcp5.out).mono ?_
                rintro e9 w6 ⟨rfl, hb⟩
                rw [Hrk.out]
                replace K := Lib.hid (Kv.next hb K.out)
                clear hb c0 c1 c2 c3
                have y1 : decide ((0 : Int) ≤ (ix : Int)) = true := decide_eq_true (by omega)
                have y2 : (0 : Int) ≤ (ix : Int) := by omega
                have y3 : (ix : Int) < (N : Int) := by omega
                go_wp2_with fail
                refine (works13 _).mono ?_
                rintro e w9 ⟨rfl, hb⟩
                have HB := Lib.hid (K.out.k.next hb)
                clear hb
                go_wp2_with fail
                go_ret
                exact ⟨rfl, HB.out.below⟩
end Go.Proofs.Ytfmcfalghbaanaa
