/- Stage 2: the walk of JoinAlone. -/
import Derived.Test.YtfmcfalghbaanaaAlo
import Derived.Shelf.RegionOpen
namespace Go.Proofs.Ytfmcfalghbaanaa
set_option linter.unusedSimpArgs false
set_option linter.unusedVariables false
open Go.RowKit Go.Shelf
attribute [local go_sem] Oper.semAt_some

theorem slice29_lh (b o m cap l h : Nat) (h1 : l ≤ h) (h2 : h ≤ cap) (W : World) : ∃ C, (Instr.slice 29 (.slice (some ⟨b, o, none⟩) m cap) (some (.int .i64 (l : Int))) (some (.int .i64 (h : Int))) none).run Try.prog W = .ok (.slice C (h - l) (cap - l)) W ∧ (0 < h - l → C = some ⟨b, o + l * 2, none⟩) := by
  obtain ⟨i, hi, hz, hs, hb⟩ := info_parts info28_
  have he : Try.prog.elem 29 = 28 := by kernel_rfl
  rw [run_slice_lh (P := Try.prog) W 29 (some ⟨b, o, none⟩) m cap (by rw [he]; exact Try.underlying29) .i64 .i64 l h (by omega) (by omega) (by omega)]
  rw [he]
  simp only [sizeOf, Sem.run_bind, typeInfo, hi, hs]
  refine ⟨if cap = l then some ⟨b, o, none⟩ else some ⟨b, o + l * 2, none⟩, ?_, ?_⟩
  · simp [sliced, hi, typeInfo, hs, Addr.add_lit]
  · intro h0
    rw [if_neg (by omega)]
theorem Sts.cut {W : World} {b o n : Nat} {ss : List St} (h : Sts W (some ⟨b, o, none⟩) n ss) {l k : Nat} (hk : l + k ≤ n) {C : Option Addr} (hC : 0 < k → C = some ⟨b, o + l * 2, none⟩) : Sts W C k ((ss.drop l).take k) := by
  have hl := h.1
  refine ⟨by simp; omega, fun h0 => ⟨b, o + l * 2, hC h0, fun j hj => ?_⟩⟩
  obtain ⟨b', o', e, hc⟩ := h.2 (by omega)
  obtain ⟨rfl, rfl⟩ : b = b' ∧ o = o' := by cases e; exact ⟨rfl, rfl⟩
  have := hc (l + j) (by omega)
  have e1 : sAt ((ss.drop l).take k) j = sAt ss (l + j) := by
    unfold sAt
    simp [List.getD, List.getElem?_take, hj]
  rw [e1, show o + l * 2 + j * 2 = o + (l + j) * 2 by omega]
  exact this
theorem Sts.cut2 {W : World} {b o n : Nat} {ss xs : List St} {C : Option Addr} {l c : Nat} (h : Sts W (some ⟨b, o, none⟩) n ss) (hl : l + c ≤ n) (hx : xs = (ss.drop l).take c) (hC : 0 < c → C = some ⟨b, o + l * 2, none⟩) : Sts W C c xs := by
  rw [hx]
  exact h.cut hl hC

set_option maxRecDepth 100000 in
set_option maxHeartbeats 20000000 in
theorem alone7 (A : Option Addr) (n cap : Nat) (off lo hi : Int) (pc : Nat) (tu : Bool) (ps : List Pc) (w : World) (h : Pcs w A n ps) (hn : n ≤ 9223372036854775807) (hpc : pc ≤ 255) :
    Calls Try.prog 7 #[cyl A n cap off lo hi, .int .u8 (pc : Int), .bool tu] w fun e w' => e = .returned (.bool true) ∧ Below w.heap.size w w' := by
  have hk : Kz w w.heap.size A n cap off lo hi ps none 0 [] _ := Kz.new (cap := cap) (off := off) (lo := lo) (hi := hi) h ⟨rfl, by omega⟩
  have K := Lib.hid hk
  have Hn := Lib.hid hn
  have Hpc := Lib.hid hpc
  clear h hn hk hpc
  unfold cyl
  go_enter Try.func7, Try.ntmps7
  go_wp2_with fail
  generalize (w.alloc (.cells #[.slice A n cap, .int .i64 off, .int .i64 lo, .int .i64 hi] 26)) = W0 at K ⊢
  obtain ⟨B, hB⟩ : ∃ B, w.heap.size = B := ⟨_, rfl⟩
  replace K := Lib.hid (show Kz w B A n cap off lo hi ps none 0 [] W0 from by rw [← hB]; exact K.out)
  rw [hB]
  clear hB
  refine (fine35 A n cap off lo hi ps W0 K.out.pcs Hn.out).mono ?_
  rintro e W1 ⟨rfl, hb⟩
  replace K := Lib.hid (K.out.next hb)
  clear hb
  obtain ⟨f, hf⟩ : ∃ f, fineB ⟨ps, off, ⟨lo, hi⟩⟩ = f := ⟨_, rfl⟩
  rw [hf]
  have Hf := Lib.hid hf
  clear hf
  cases f with
  | false =>
    go_wp2_with fail
    refine (works13 _).mono ?_
    rintro e W2 ⟨rfl, hb⟩
    have HB := Lib.hid (K.out.next hb)
    clear hb
    go_wp2_with fail
    go_ret
    exact ⟨rfl, HB.out.below⟩
  | true =>
    have he : chkC ⟨ps, off, ⟨lo, hi⟩⟩ = 0 := by
      have := Hf.out
      unfold fineB at this
      simp only [Bool.and_eq_true, decide_eq_true_eq] at this
      exact this.2
    have He := Lib.hid he
    have H8 := Lib.hid (chkC_facts he)
    clear he
    obtain ⟨c0, c1, c2, c3⟩ := K.out.c
    go_wp2_with fail
    refine (count21 A n cap off lo hi ps _ K.out.pcs Hn.out).mono ?_
    rintro e W2 ⟨rfl, hb⟩
    rw [show countR ⟨ps, off, ⟨lo, hi⟩⟩ = (((joinsC ⟨ps, off, ⟨lo, hi⟩⟩).length : Int), 0) from by unfold countR; rw [if_neg (by rw [He.out]; simp)]; rfl]
    replace K := Lib.hid (K.out.next hb)
    clear hb c0 c1 c2 c3
    obtain ⟨N, hN⟩ : ∃ N, (joinsC ⟨ps, off, ⟨lo, hi⟩⟩).length = N := ⟨_, rfl⟩
    rw [hN]
    have HN := Lib.hid hN
    clear hN
    obtain ⟨c0, c1, c2, c3⟩ := K.out.c
    go_wp2_with fail
    refine (only27 A n cap off lo hi ps _ K.out.pcs Hn.out).mono ?_
    rintro e W3 ⟨C1, m1, rfl, hs1, hb⟩
    have S1 := Lib.hid hs1
    clear hs1
    replace K := Lib.hid (K.out.next hb)
    clear hb c0 c1 c2 c3
    obtain ⟨c0, c1, c2, c3⟩ := K.out.c
    by_cases hN1 : N = 1
    · subst hN1
      obtain ⟨L, hL⟩ := List.length_eq_one_iff.1 HN.out
      have HL := Lib.hid hL
      have ho : onlyR ⟨ps, off, ⟨lo, hi⟩⟩ = (L.map stC, 0) := by
        unfold onlyR
        rw [if_neg (by rw [He.out]; simp), HN.out, if_neg (by simp), if_pos rfl, hL]
        rfl
      have hpr : passR ⟨ps, off, ⟨lo, hi⟩⟩ = (passL ⟨ps, off, ⟨lo, hi⟩⟩, 0) := by
        unfold passR
        rw [if_neg (by rw [He.out]; simp), HN.out, if_neg (by simp)]
      rw [ho] at S1 ⊢
      have HP := Lib.hid hpr
      have hmem : L ∈ joinsC ⟨ps, off, ⟨lo, hi⟩⟩ := by rw [hL]; simp
      have Hmem := Lib.hid hmem
      obtain ⟨j1, j2, j3, j4⟩ := join_way hmem
      have hck := ckJoin_of He.out hmem
      have Hck := Lib.hid hck
      have hlen : L.length = m1 := by have := S1.out.1; simpa using this
      have hpl := pass_one hL
      have hm8 : 1 ≤ m1 ∧ m1 ≤ 8 := by have := H8.out; rw [← hlen, j1]; exact ⟨this.1, this.2.1⟩
      have hnm : n = m1 := by have := K.out.pcs.1; rw [← hlen, j1]; exact this.symm
      obtain ⟨mp, hmp⟩ : ∃ mp, m1 = mp + 1 := ⟨m1 - 1, by omega⟩
      have Hlen := Lib.hid (show L.length = mp + 1 from by omega)
      have Hpl := Lib.hid (show (passL ⟨ps, off, ⟨lo, hi⟩⟩).length = mp from by rw [hpl]; omega)
      have Hnod := Lib.hid j4
      have hm7 : mp ≤ 7 := by omega
      subst hnm
      subst hmp
      clear hL ho hpr hmem j1 j2 j3 j4 hck hlen hpl hm8
      go_wp2_with fail
      refine (pass30 A (mp + 1) cap off lo hi ps _ K.out.pcs Hn.out).mono ?_
      rintro e W4 ⟨C2, m2, cp2, rfl, hcp2, hp2, hb⟩
      rw [HP.out] at hp2 ⊢
      obtain rfl : mp = m2 := by rw [← hp2.1, ← Hpl.out]
      have P2 := Lib.hid hp2
      have Hcp2 := Lib.hid hcp2
      replace S1 := Lib.hid (S1.out.below hb (Nat.le_refl _))
      replace K := Lib.hid (K.out.next hb)
      clear hb c0 c1 c2 c3 hp2 hcp2
      obtain ⟨c0, c1, c2, c3⟩ := K.out.c
      go_wp2_with fail
      refine (checkJoin19 A C1 (mp + 1) cap (mp + 1) (mp + 1) off lo hi ps (L.map stC) _ K.out.pcs S1.out Hn.out (by omega)).mono ?_
      rintro e W5 ⟨rfl, hb⟩
      rw [Hck.out]
      replace S1 := Lib.hid (S1.out.below hb (Nat.le_refl _))
      replace P2 := Lib.hid (P2.out.below hb (Nat.le_refl _))
      replace K := Lib.hid (K.out.next hb)
      clear hb c0 c1 c2 c3
      have i1 : ((mp + 1 : Nat) : Int) - 1 = (mp : Int) := by omega
      have i2 : ((mp : Int) != (mp : Int)) = false := by simp
      go_wp2_with fail
      clear i1 i2
      go_loopw [13] (fun i wr => ∃ k : Nat, i = .int .i64 (k : Int) ∧ k ≤ mp ∧ Kz w B A (mp + 1) cap off lo hi ps none 0 [] wr ∧ Sts wr C1 (mp + 1) (L.map stC) ∧ Prs wr C2 mp (passL ⟨ps, off, ⟨lo, hi⟩⟩)) (fun i _ => mp - (intOf i).toNat)
      case atStart => exact ⟨0, by rfl, Nat.zero_le _, K.out, S1.out, P2.out⟩
      case round =>
        clear K S1 P2
        obtain ⟨k, rfl, hk, hK, hS, hP⟩ := hrel
        have K := Lib.hid hK
        have S1 := Lib.hid hS
        have P2 := Lib.hid hP
        clear hK hS
        by_cases hlt : k < mp
        · obtain ⟨b, o, rfl, hc⟩ := hP.2 (by omega)
          have hkl : k < (passL ⟨ps, off, ⟨lo, hi⟩⟩).length := by rw [Hpl.out]; exact hlt
          obtain ⟨q0, q1, q2, q3⟩ := flatP_at (passL ⟨ps, off, ⟨lo, hi⟩⟩) k hkl
          have e0 : wr.cell? ⟨b, o + k * 4, none⟩ = _ := (hc (k * 4) (by omega)).trans q0
          have e1 : wr.cell? ⟨b, o + k * 4 + 1, none⟩ = _ := (hc (k * 4 + 1) (by omega)).trans q1
          have e2 : wr.cell? ⟨b, o + k * 4 + 2, none⟩ = _ := (hc (k * 4 + 2) (by omega)).trans q2
          have e3 : wr.cell? ⟨b, o + k * 4 + 3, none⟩ = _ := (hc (k * 4 + 3) (by omega)).trans q3
          have hh := pass_has Hmem.out hkl
          unfold stC at hh
          have i0 : (0 : Int) ≤ (k : Int) := by omega
          have i1 : (k : Int) < (mp : Int) := by omega
          clear hc hP q0 q1 q2 q3
          generalize ((passL ⟨ps, off, ⟨lo, hi⟩⟩)[k].1 / 2 : Nat) = x0 at e0 hh
          generalize decide ((passL ⟨ps, off, ⟨lo, hi⟩⟩)[k].1 % 2 = 1) = x1 at e1 hh
          generalize ((passL ⟨ps, off, ⟨lo, hi⟩⟩)[k].2 / 2 : Nat) = x2 at e2 hh
          generalize decide ((passL ⟨ps, off, ⟨lo, hi⟩⟩)[k].2 % 2 = 1) = x3 at e3 hh
          have Hh := Lib.hid hh
          clear hh hkl
          go_wp2_with fail
          refine (has37 C1 (mp + 1) (mp + 1) (L.map stC) (x0 : Int) (x2 : Int) x1 x3 _ S1.out (by omega)).mono ?_
          rintro e w6 ⟨rfl, hb⟩
          rw [show hasB (L.map stC) ⟨(x0 : Int), x1⟩ ⟨(x2 : Int), x3⟩ = true from Hh.out]
          replace S1 := Lib.hid (S1.out.below hb (Nat.le_refl _))
          replace P2 := Lib.hid (P2.out.below hb (Nat.le_refl _))
          replace K := Lib.hid (K.out.next hb)
          clear hb e0 e1 e2 e3
          go_wp2_with fail
          go_roundw
          case rel => exact ⟨k + 1, by go_num, by omega, K.out, S1.out, P2.out⟩
          case measure => simp [intOf]; omega
        · have i1 : ¬ (k : Int) < (mp : Int) := by omega
          clear hP
          obtain ⟨X, hX⟩ : ∃ X, pc % (mp + 1) = X := ⟨_, rfl⟩
          have hXm : X < mp + 1 := by rw [← hX]; exact Nat.mod_lt _ (by omega)
          have x1 : (pc : Int) % ((mp : Int) + 1) = (X : Int) := by rw [← hX]; exact (Int.natCast_emod pc (mp + 1)).symm
          have d0 : (((mp : Int) + 1) == 0) = false := by rw [beq_eq_false_iff_ne]; omega
          have d1 : (((mp + 1 : Nat) : Int) == 0) = false := by rw [beq_eq_false_iff_ne]; omega
          have i2 : (0 : Int) ≤ (X : Int) := by omega
          have i3 : (X : Int) < ((mp + 1 : Nat) : Int) := by omega
          have i4 : (X : Int) < (mp : Int) + 1 := by omega
          have hpc := Hpc.out
          obtain ⟨zl, hzl⟩ : ∃ zl, (pAt ps X).loose = zl := ⟨_, rfl⟩
          have HZ := Lib.hid hzl
          have hB1 := below_alloc_ wr (.cells #[.int .i64 (X : Int), .bool false] 28)
          have row1 := heap_alloc_new_ wr (.cells #[.int .i64 (X : Int), .bool false] 28)
          have hB2 := below_alloc_ wr (.cells #[.int .i64 (X : Int), .bool (tu && zl)] 28)
          have row2 := heap_alloc_new_ wr (.cells #[.int .i64 (X : Int), .bool (tu && zl)] 28)
          have KV := K.out.next hB1
          have KV2 := K.out.next hB2
          have hpc1 := (KV.pcs.2 (by omega))
          obtain ⟨b, o, rfl, hcs⟩ := hpc1
          obtain ⟨-, -, -, -, -, -, p6⟩ := hcs X hXm
          rw [hzl] at p6
          obtain ⟨c0, c1, c2, c3⟩ := K.out.c
          obtain ⟨v0, v1, v2, v3⟩ := KV.c
          obtain ⟨y0, y1, y2, y3⟩ := KV2.c
          have s0 : (wr.alloc (.cells #[.int .i64 (X : Int), .bool false] 28)).cell? ⟨wr.heap.size, 0, none⟩ = some (.int .i64 (X : Int)) := by rw [cell_row row1]; rfl
          have t0 : (wr.alloc (.cells #[.int .i64 (X : Int), .bool (tu && zl)] 28)).cell? ⟨wr.heap.size, 0, none⟩ = some (.int .i64 (X : Int)) := by rw [cell_row row2]; rfl
          have t1 : (wr.alloc (.cells #[.int .i64 (X : Int), .bool (tu && zl)] 28)).cell? ⟨wr.heap.size, 1, none⟩ = some (.bool (tu && zl)) := by rw [cell_row row2]; rfl
          have HK2 := Lib.hid KV2
          have HS2 := Lib.hid (S1.out.below hB2 (Nat.le_refl _))
          have HR2 := Lib.hid row2
          clear hcs row1 row2 hB1 hB2 KV KV2 hX hzl K S1 P2
          cases tu with
          | false =>
            rw [Bool.false_and] at y0 y1 y2 y3 t0 t1 HK2 HS2 HR2
            go_wp2_with fail
            have K := HK2
            clear HK2
            have hstep : stepB ps ⟨(X : Int), false⟩ = true := by
              unfold stepB
              simp only [Bool.and_eq_true, decide_eq_true_eq, Bool.or_eq_true, Bool.not_eq_true']
              refine ⟨⟨by omega, by rw [K.out.pcs.1]; omega⟩, ?_⟩
              simp
            obtain ⟨xs, hxs⟩ : ∃ xs, codeS ⟨(X : Int), false⟩ = xs := ⟨_, rfl⟩
            have hsx := stC_codeS hstep
            rw [hxs] at hsx
            have Hstep := Lib.hid hstep
            have Hxs := Lib.hid hxs
            have Hsx := Lib.hid hsx
            clear hstep hxs hsx
            refine (riv32 (some ⟨b, o, none⟩) (mp + 1) cap off lo hi (X : Int) false ps _ K.out.pcs Hn.out).mono ?_
            rintro e w7 ⟨C3, m3, cp3, rfl, hcp3, hs3, hb⟩
            replace K := Lib.hid (K.out.next hb)
            have S1 := Lib.hid (HS2.out.below hb (Nat.le_refl _))
            have R1 := Lib.hid ((hb.block _ (lt_of_block HR2.out)).trans HR2.out)
            obtain ⟨S, hS⟩ : ∃ S, wr.heap.size = S := ⟨_, rfl⟩
            rw [hS] at R1 ⊢
            obtain ⟨rv, hrv⟩ : ∃ rv, rivR ⟨ps, off, ⟨lo, hi⟩⟩ ⟨(X : Int), false⟩ = rv := ⟨_, rfl⟩
            rw [hrv] at hs3 ⊢
            obtain ⟨rl, re⟩ := rv
            have S3 := Lib.hid hs3
            have Hrv := Lib.hid hrv
            have Hcp3 := Lib.hid hcp3
            clear hb HS2 HR2 hS hrv hs3 hcp3 hlt hk i1
            go_wp2_with fail
            go_loopw [17] (fun i wr => ∃ k : Nat, i = .int .i64 (k : Int) ∧ k ≤ mp + 1 ∧ (∀ j (hj : j < L.length), j < k → L[j] ≠ xs) ∧ Kz w B (some ⟨b, o, none⟩) (mp + 1) cap off lo hi ps none 0 [] wr ∧ Sts wr C1 (mp + 1) (L.map stC) ∧ Sts wr C3 m3 (rl.map stC) ∧ wr.heap[S]? = some (.cells #[.int .i64 (X : Int), .bool false] 28 (0, 0))) (fun i _ => mp + 1 - (intOf i).toNat)
            case atStart => exact ⟨0, by rfl, Nat.zero_le _, fun j _ h => absurd h (Nat.not_lt_zero _), K.out, S1.out, S3.out, R1.out⟩
            case round =>
              clear K S1 S3 R1
              obtain ⟨k, rfl, hk, hne, hK, hS1, hS3, hR1⟩ := hrel
              have K := Lib.hid hK
              have S1 := Lib.hid hS1
              have S3 := Lib.hid hS3
              have R1 := Lib.hid hR1
              have Hne := Lib.hid hne
              clear hK hS3 hne
              by_cases hlt : k < mp + 1
              · obtain ⟨b1, o1, rfl, hc⟩ := hS1.2 (by omega)
                obtain ⟨e0, e1⟩ := hc k hlt
                have hkL : k < L.length := by rw [Hlen.out]; exact hlt
                rw [sAt_map hkL] at e0 e1
                obtain ⟨q, hq⟩ : ∃ q, stC L[k] = q := ⟨_, rfl⟩
                rw [hq] at e0 e1
                obtain ⟨sp, st⟩ := q
                have HkL := Lib.hid hkL
                have Hq := Lib.hid hq
                simp only at e0 e1
                have u0 : wr.cell? ⟨S, 0, none⟩ = some (.int .i64 (X : Int)) := by rw [cell_row hR1]; rfl
                have u1 : wr.cell? ⟨S, 1, none⟩ = some (.bool false) := by rw [cell_row hR1]; rfl
                have i0 : (0 : Int) ≤ (k : Int) := by omega
                have i1 : (k : Int) < ((mp + 1 : Nat) : Int) := by omega
                have i4 : (k : Int) < (mp : Int) + 1 := by omega
                clear hc hS1 hR1 hq
                by_cases hp : sp = (X : Int)
                · by_cases hu : st = false
                  · subst hp
                    have hxk : xs = L[k]'hkL := stC_inj (by rw [Hsx.out, Hq.out, hu])
                    have hin := riv_in He.out Hmem.out (x := xs) (by rw [hxk]; exact List.getElem_mem _)
                    rw [Hsx.out, Hrv.out] at hin
                    have hre : re = 0 := congrArg Prod.snd hin
                    have hrl : rl = rivL ⟨ps, off, ⟨lo, hi⟩⟩ xs := congrArg Prod.fst hin
                    have Hrl := Lib.hid (show rl = (L.drop (k + 1)).take 1 from by rw [hrl, hxk]; exact riv_one HL.out hkL)
                    subst hre
                    subst hu
                    clear hxk hin hrl
                    have hm3 : m3 ≤ 1 := by rw [← S3.out.1, Hrl.out]; simp; omega
                    have HS1d := Lib.hid (show ∀ q, Sts (wr.drewN q) (some ⟨b1, o1, none⟩) (mp + 1) (L.map stC) from fun q => S1.out.below (drew_b wr q) (Nat.le_refl _))
                    have HS3d := Lib.hid (show ∀ q, Sts (wr.drewN q) C3 m3 (rl.map stC) from fun q => S3.out.below (drew_b wr q) (Nat.le_refl _))
                    have HKd := Lib.hid (show ∀ q, Kz w B (some ⟨b, o, none⟩) (mp + 1) cap off lo hi ps none 0 [] (wr.drewN q) from fun q => K.out.next (drew_b wr q))
                    by_cases hkm : k = mp
                    · subst hkm
                      have z1 : ¬ (k : Int) + 2 ≤ (k : Int) + 1 := by omega
                      go_wp2_with fail
                      go_quiet (fail)
                      go_wp2_with fail
                      refine (same29 C3 _ m3 cp3 _ _ (rl.map stC) (rl.map stC) _ (HS3d.out _) (Sts.cut2 (l := k + 1) (HS1d.out _) ?_ ?_ ?_) ?_ ?_).mono ?_
                      · omega
                      · rw [Hrl.out, List.drop_eq_nil_of_le (by rw [Hlen.out]; exact Nat.le_refl _), List.drop_eq_nil_of_le (by rw [List.length_map, Hlen.out]; exact Nat.le_refl _)]
                        simp
                      · intro h; omega
                      · omega
                      · omega
                      rintro e w8 ⟨rfl, hb⟩
                      rw [decide_eq_true rfl]
                      replace K := Lib.hid ((HKd.out _).next hb)
                      clear hb
                      go_wp2_with fail
                      refine (works13 _).mono ?_
                      rintro e w9 ⟨rfl, hb⟩
                      have HB := Lib.hid (K.out.next hb)
                      clear hb
                      go_wp2_with fail
                      go_ret
                      exact ⟨rfl, HB.out.below⟩
                    · have z1 : (k : Int) + 2 ≤ (mp : Int) + 1 := by omega
                      have z2 : ¬ mp = k := fun e => hkm e.symm
                      clear hkm
                      go_wp2_with fail
                      go_quiet (fail)
                      go_wp2_with fail
                      refine (same29 C3 _ m3 cp3 _ _ (rl.map stC) (rl.map stC) _ (HS3d.out _) (Sts.cut2 (l := k + 1) (HS1d.out _) ?_ ?_ ?_) ?_ ?_).mono ?_
                      · omega
                      · rw [Hrl.out, List.map_take, List.map_drop]
                      · intro h; rfl
                      · omega
                      · omega
                      rintro e w8 ⟨rfl, hb⟩
                      rw [decide_eq_true rfl]
                      replace K := Lib.hid ((HKd.out _).next hb)
                      clear hb
                      go_wp2_with fail
                      refine (works13 _).mono ?_
                      rintro e w9 ⟨rfl, hb⟩
                      have HB := Lib.hid (K.out.next hb)
                      clear hb
                      go_wp2_with fail
                      go_ret
                      exact ⟨rfl, HB.out.below⟩
                  · have hd : (st == false) = false := by rw [beq_eq_false_iff_ne]; exact hu
                    have Hne2 := Lib.hid (show ∀ j (hj : j < L.length), j < k + 1 → L[j] ≠ xs from fun j hj hjk e => by
                      rcases Nat.lt_or_ge j k with h1 | h1
                      · exact Hne.out j hj h1 e
                      · obtain rfl : j = k := by omega
                        have := Hq.out
                        rw [e, Hsx.out] at this
                        exact hu (congrArg St.turned this).symm)
                    subst hp
                    have HX := Lib.hid (show ∀ q, Kz w B (some ⟨b, o, none⟩) (mp + 1) cap off lo hi ps none 0 [] (wr.drewN q) ∧ Sts (wr.drewN q) (some ⟨b1, o1, none⟩) (mp + 1) (L.map stC) ∧ Sts (wr.drewN q) C3 m3 (rl.map stC) ∧ (wr.drewN q).heap[S]? = some (.cells #[.int .i64 (X : Int), .bool false] 28 (0, 0)) from fun q => ⟨K.out.next (drew_b wr q), S1.out.below (drew_b wr q) (Nat.le_refl _), S3.out.below (drew_b wr q) (Nat.le_refl _), ((drew_b wr q).block _ (lt_of_block R1.out)).trans R1.out⟩)
                    clear hu
                    go_wp2_with fail
                    go_quiet (fail)
                    go_wp2_with fail
                    go_roundw
                    case rel => exact ⟨k + 1, by go_num, by omega, Hne2.out, HX.out _⟩
                    case measure => simp [intOf]; omega
                · have hd : (sp == (X : Int)) = false := by rw [beq_eq_false_iff_ne]; exact hp
                  have Hne2 := Lib.hid (show ∀ j (hj : j < L.length), j < k + 1 → L[j] ≠ xs from fun j hj hjk e => by
                      rcases Nat.lt_or_ge j k with h1 | h1
                      · exact Hne.out j hj h1 e
                      · obtain rfl : j = k := by omega
                        have := Hq.out
                        rw [e, Hsx.out] at this
                        exact hp (congrArg St.p this).symm)
                  have HX := Lib.hid (show ∀ q, Kz w B (some ⟨b, o, none⟩) (mp + 1) cap off lo hi ps none 0 [] (wr.drewN q) ∧ Sts (wr.drewN q) (some ⟨b1, o1, none⟩) (mp + 1) (L.map stC) ∧ Sts (wr.drewN q) C3 m3 (rl.map stC) ∧ (wr.drewN q).heap[S]? = some (.cells #[.int .i64 (X : Int), .bool false] 28 (0, 0)) from fun q => ⟨K.out.next (drew_b wr q), S1.out.below (drew_b wr q) (Nat.le_refl _), S3.out.below (drew_b wr q) (Nat.le_refl _), ((drew_b wr q).block _ (lt_of_block R1.out)).trans R1.out⟩)
                  clear hp
                  go_wp2_with fail
                  go_quiet (fail)
                  go_wp2_with fail
                  go_roundw
                  case rel => exact ⟨k + 1, by go_num, by omega, Hne2.out, HX.out _⟩
                  case measure => simp [intOf]; omega
              · have i1 : ¬ (k : Int) < (mp : Int) + 1 := by omega
                have i2 : ¬ (k : Int) < ((mp + 1 : Nat) : Int) := by omega
                have hout := riv_out He.out Hstep.out (fun L2 hL2 hm => by
                  rw [HL.out] at hL2
                  simp only [List.mem_singleton] at hL2
                  subst hL2
                  rw [Hxs.out] at hm
                  obtain ⟨j, hj, e⟩ := List.getElem_of_mem hm
                  exact Hne.out j hj (by have := Hlen.out; omega) e)
                rw [Hrv.out] at hout
                have hre : re = 5 := congrArg Prod.snd hout
                have hrl : rl = [] := congrArg Prod.fst hout
                subst hre
                subst hrl
                obtain rfl : m3 = 0 := by have := S3.out.1; simpa using this.symm
                clear hout
                go_wp2_with fail
                refine (works13 _).mono ?_
                rintro e w9 ⟨rfl, hb⟩
                have HB := Lib.hid (K.out.next hb)
                clear hb
                go_wp2_with fail
                go_ret
                exact ⟨rfl, HB.out.below⟩
          | true =>
            rw [Bool.true_and] at y0 y1 y2 y3 t0 t1 HK2 HS2 HR2
            go_wp2_with fail
            have K := HK2
            clear HK2
            have hstep : stepB ps ⟨(X : Int), zl⟩ = true := by
              unfold stepB
              simp only [Bool.and_eq_true, decide_eq_true_eq, Bool.or_eq_true, Bool.not_eq_true']
              refine ⟨⟨by omega, by rw [K.out.pcs.1]; omega⟩, ?_⟩
              rw [Int.toNat_natCast, HZ.out]; cases zl <;> simp
            obtain ⟨xs, hxs⟩ : ∃ xs, codeS ⟨(X : Int), zl⟩ = xs := ⟨_, rfl⟩
            have hsx := stC_codeS hstep
            rw [hxs] at hsx
            have Hstep := Lib.hid hstep
            have Hxs := Lib.hid hxs
            have Hsx := Lib.hid hsx
            clear hstep hxs hsx
            refine (riv32 (some ⟨b, o, none⟩) (mp + 1) cap off lo hi (X : Int) zl ps _ K.out.pcs Hn.out).mono ?_
            rintro e w7 ⟨C3, m3, cp3, rfl, hcp3, hs3, hb⟩
            replace K := Lib.hid (K.out.next hb)
            have S1 := Lib.hid (HS2.out.below hb (Nat.le_refl _))
            have R1 := Lib.hid ((hb.block _ (lt_of_block HR2.out)).trans HR2.out)
            obtain ⟨S, hS⟩ : ∃ S, wr.heap.size = S := ⟨_, rfl⟩
            rw [hS] at R1 ⊢
            obtain ⟨rv, hrv⟩ : ∃ rv, rivR ⟨ps, off, ⟨lo, hi⟩⟩ ⟨(X : Int), zl⟩ = rv := ⟨_, rfl⟩
            rw [hrv] at hs3 ⊢
            obtain ⟨rl, re⟩ := rv
            have S3 := Lib.hid hs3
            have Hrv := Lib.hid hrv
            have Hcp3 := Lib.hid hcp3
            clear hb HS2 HR2 hS hrv hs3 hcp3 hlt hk i1
            go_wp2_with fail
            go_loopw [17] (fun i wr => ∃ k : Nat, i = .int .i64 (k : Int) ∧ k ≤ mp + 1 ∧ (∀ j (hj : j < L.length), j < k → L[j] ≠ xs) ∧ Kz w B (some ⟨b, o, none⟩) (mp + 1) cap off lo hi ps none 0 [] wr ∧ Sts wr C1 (mp + 1) (L.map stC) ∧ Sts wr C3 m3 (rl.map stC) ∧ wr.heap[S]? = some (.cells #[.int .i64 (X : Int), .bool zl] 28 (0, 0))) (fun i _ => mp + 1 - (intOf i).toNat)
            case atStart => exact ⟨0, by rfl, Nat.zero_le _, fun j _ h => absurd h (Nat.not_lt_zero _), K.out, S1.out, S3.out, R1.out⟩
            case round =>
              clear K S1 S3 R1
              obtain ⟨k, rfl, hk, hne, hK, hS1, hS3, hR1⟩ := hrel
              have K := Lib.hid hK
              have S1 := Lib.hid hS1
              have S3 := Lib.hid hS3
              have R1 := Lib.hid hR1
              have Hne := Lib.hid hne
              clear hK hS3 hne
              by_cases hlt : k < mp + 1
              · obtain ⟨b1, o1, rfl, hc⟩ := hS1.2 (by omega)
                obtain ⟨e0, e1⟩ := hc k hlt
                have hkL : k < L.length := by rw [Hlen.out]; exact hlt
                rw [sAt_map hkL] at e0 e1
                obtain ⟨q, hq⟩ : ∃ q, stC L[k] = q := ⟨_, rfl⟩
                rw [hq] at e0 e1
                obtain ⟨sp, st⟩ := q
                have HkL := Lib.hid hkL
                have Hq := Lib.hid hq
                simp only at e0 e1
                have u0 : wr.cell? ⟨S, 0, none⟩ = some (.int .i64 (X : Int)) := by rw [cell_row hR1]; rfl
                have u1 : wr.cell? ⟨S, 1, none⟩ = some (.bool zl) := by rw [cell_row hR1]; rfl
                have i0 : (0 : Int) ≤ (k : Int) := by omega
                have i1 : (k : Int) < ((mp + 1 : Nat) : Int) := by omega
                have i4 : (k : Int) < (mp : Int) + 1 := by omega
                clear hc hS1 hR1 hq
                by_cases hp : sp = (X : Int)
                · by_cases hu : st = zl
                  · subst hp
                    have hxk : xs = L[k]'hkL := stC_inj (by rw [Hsx.out, Hq.out, hu])
                    have hin := riv_in He.out Hmem.out (x := xs) (by rw [hxk]; exact List.getElem_mem _)
                    rw [Hsx.out, Hrv.out] at hin
                    have hre : re = 0 := congrArg Prod.snd hin
                    have hrl : rl = rivL ⟨ps, off, ⟨lo, hi⟩⟩ xs := congrArg Prod.fst hin
                    have Hrl := Lib.hid (show rl = (L.drop (k + 1)).take 1 from by rw [hrl, hxk]; exact riv_one HL.out hkL)
                    subst hre
                    subst hu
                    clear hxk hin hrl
                    have hm3 : m3 ≤ 1 := by rw [← S3.out.1, Hrl.out]; simp; omega
                    have HS1d := Lib.hid (show ∀ q, Sts (wr.drewN q) (some ⟨b1, o1, none⟩) (mp + 1) (L.map stC) from fun q => S1.out.below (drew_b wr q) (Nat.le_refl _))
                    have HS3d := Lib.hid (show ∀ q, Sts (wr.drewN q) C3 m3 (rl.map stC) from fun q => S3.out.below (drew_b wr q) (Nat.le_refl _))
                    have HKd := Lib.hid (show ∀ q, Kz w B (some ⟨b, o, none⟩) (mp + 1) cap off lo hi ps none 0 [] (wr.drewN q) from fun q => K.out.next (drew_b wr q))
                    by_cases hkm : k = mp
                    · subst hkm
                      have z1 : ¬ (k : Int) + 2 ≤ (k : Int) + 1 := by omega
                      go_wp2_with fail
                      go_quiet (fail)
                      go_wp2_with fail
                      refine (same29 C3 _ m3 cp3 _ _ (rl.map stC) (rl.map stC) _ (HS3d.out _) (Sts.cut2 (l := k + 1) (HS1d.out _) ?_ ?_ ?_) ?_ ?_).mono ?_
                      · omega
                      · rw [Hrl.out, List.drop_eq_nil_of_le (by rw [Hlen.out]; exact Nat.le_refl _), List.drop_eq_nil_of_le (by rw [List.length_map, Hlen.out]; exact Nat.le_refl _)]
                        simp
                      · intro h; omega
                      · omega
                      · omega
                      rintro e w8 ⟨rfl, hb⟩
                      rw [decide_eq_true rfl]
                      replace K := Lib.hid ((HKd.out _).next hb)
                      clear hb
                      go_wp2_with fail
                      refine (works13 _).mono ?_
                      rintro e w9 ⟨rfl, hb⟩
                      have HB := Lib.hid (K.out.next hb)
                      clear hb
                      go_wp2_with fail
                      go_ret
                      exact ⟨rfl, HB.out.below⟩
                    · have z1 : (k : Int) + 2 ≤ (mp : Int) + 1 := by omega
                      have z2 : ¬ mp = k := fun e => hkm e.symm
                      clear hkm
                      go_wp2_with fail
                      go_quiet (fail)
                      go_wp2_with fail
                      refine (same29 C3 _ m3 cp3 _ _ (rl.map stC) (rl.map stC) _ (HS3d.out _) (Sts.cut2 (l := k + 1) (HS1d.out _) ?_ ?_ ?_) ?_ ?_).mono ?_
                      · omega
                      · rw [Hrl.out, List.map_take, List.map_drop]
                      · intro h; rfl
                      · omega
                      · omega
                      rintro e w8 ⟨rfl, hb⟩
                      rw [decide_eq_true rfl]
                      replace K := Lib.hid ((HKd.out _).next hb)
                      clear hb
                      go_wp2_with fail
                      refine (works13 _).mono ?_
                      rintro e w9 ⟨rfl, hb⟩
                      have HB := Lib.hid (K.out.next hb)
                      clear hb
                      go_wp2_with fail
                      go_ret
                      exact ⟨rfl, HB.out.below⟩
                  · have hd : (st == zl) = false := by rw [beq_eq_false_iff_ne]; exact hu
                    have Hne2 := Lib.hid (show ∀ j (hj : j < L.length), j < k + 1 → L[j] ≠ xs from fun j hj hjk e => by
                      rcases Nat.lt_or_ge j k with h1 | h1
                      · exact Hne.out j hj h1 e
                      · obtain rfl : j = k := by omega
                        have := Hq.out
                        rw [e, Hsx.out] at this
                        exact hu (congrArg St.turned this).symm)
                    subst hp
                    have HX := Lib.hid (show ∀ q, Kz w B (some ⟨b, o, none⟩) (mp + 1) cap off lo hi ps none 0 [] (wr.drewN q) ∧ Sts (wr.drewN q) (some ⟨b1, o1, none⟩) (mp + 1) (L.map stC) ∧ Sts (wr.drewN q) C3 m3 (rl.map stC) ∧ (wr.drewN q).heap[S]? = some (.cells #[.int .i64 (X : Int), .bool zl] 28 (0, 0)) from fun q => ⟨K.out.next (drew_b wr q), S1.out.below (drew_b wr q) (Nat.le_refl _), S3.out.below (drew_b wr q) (Nat.le_refl _), ((drew_b wr q).block _ (lt_of_block R1.out)).trans R1.out⟩)
                    clear hu
                    go_wp2_with fail
                    go_quiet (fail)
                    go_wp2_with fail
                    go_roundw
                    case rel => exact ⟨k + 1, by go_num, by omega, Hne2.out, HX.out _⟩
                    case measure => simp [intOf]; omega
                · have hd : (sp == (X : Int)) = false := by rw [beq_eq_false_iff_ne]; exact hp
                  have Hne2 := Lib.hid (show ∀ j (hj : j < L.length), j < k + 1 → L[j] ≠ xs from fun j hj hjk e => by
                      rcases Nat.lt_or_ge j k with h1 | h1
                      · exact Hne.out j hj h1 e
                      · obtain rfl : j = k := by omega
                        have := Hq.out
                        rw [e, Hsx.out] at this
                        exact hp (congrArg St.p this).symm)
                  have HX := Lib.hid (show ∀ q, Kz w B (some ⟨b, o, none⟩) (mp + 1) cap off lo hi ps none 0 [] (wr.drewN q) ∧ Sts (wr.drewN q) (some ⟨b1, o1, none⟩) (mp + 1) (L.map stC) ∧ Sts (wr.drewN q) C3 m3 (rl.map stC) ∧ (wr.drewN q).heap[S]? = some (.cells #[.int .i64 (X : Int), .bool zl] 28 (0, 0)) from fun q => ⟨K.out.next (drew_b wr q), S1.out.below (drew_b wr q) (Nat.le_refl _), S3.out.below (drew_b wr q) (Nat.le_refl _), ((drew_b wr q).block _ (lt_of_block R1.out)).trans R1.out⟩)
                  clear hp
                  go_wp2_with fail
                  go_quiet (fail)
                  go_wp2_with fail
                  go_roundw
                  case rel => exact ⟨k + 1, by go_num, by omega, Hne2.out, HX.out _⟩
                  case measure => simp [intOf]; omega
              · have i1 : ¬ (k : Int) < (mp : Int) + 1 := by omega
                have i2 : ¬ (k : Int) < ((mp + 1 : Nat) : Int) := by omega
                have hout := riv_out He.out Hstep.out (fun L2 hL2 hm => by
                  rw [HL.out] at hL2
                  simp only [List.mem_singleton] at hL2
                  subst hL2
                  rw [Hxs.out] at hm
                  obtain ⟨j, hj, e⟩ := List.getElem_of_mem hm
                  exact Hne.out j hj (by have := Hlen.out; omega) e)
                rw [Hrv.out] at hout
                have hre : re = 5 := congrArg Prod.snd hout
                have hrl : rl = [] := congrArg Prod.fst hout
                subst hre
                subst hrl
                obtain rfl : m3 = 0 := by have := S3.out.1; simpa using this.symm
                clear hout
                go_wp2_with fail
                refine (works13 _).mono ?_
                rintro e w9 ⟨rfl, hb⟩
                have HB := Lib.hid (K.out.next hb)
                clear hb
                go_wp2_with fail
                go_ret
                exact ⟨rfl, HB.out.below⟩
    · by_cases hN0 : N = 0
      · subst hN0
        have ho : onlyR ⟨ps, off, ⟨lo, hi⟩⟩ = ([], 5) := by
          unfold onlyR
          rw [if_neg (by rw [He.out]; simp), HN.out, if_pos rfl]
        have hpr : passR ⟨ps, off, ⟨lo, hi⟩⟩ = ([], 5) := by
          unfold passR
          rw [if_neg (by rw [He.out]; simp), HN.out, if_pos rfl]
        rw [ho]
        have HP := Lib.hid hpr
        clear ho hpr hN1 S1
        go_wp2_with fail
        refine (pass30 A n cap off lo hi ps _ K.out.pcs Hn.out).mono ?_
        rintro e W4 ⟨C2, m2, cp2, rfl, -, -, hb⟩
        rw [HP.out]
        replace K := Lib.hid (K.out.next hb)
        clear hb c0 c1 c2 c3
        go_wp2_with fail
        refine (works13 _).mono ?_
        rintro e W5 ⟨rfl, hb⟩
        have HB := Lib.hid (K.out.next hb)
        clear hb
        go_wp2_with fail
        go_ret
        exact ⟨rfl, HB.out.below⟩
      · have ho : onlyR ⟨ps, off, ⟨lo, hi⟩⟩ = ([], 6) := by
          unfold onlyR
          rw [if_neg (by rw [He.out]; simp), HN.out, if_neg hN0, if_neg hN1]
        have hpr : (passR ⟨ps, off, ⟨lo, hi⟩⟩).2 = 0 := by
          unfold passR
          rw [if_neg (by rw [He.out]; simp), HN.out, if_neg hN0]
        rw [ho]
        have HP := Lib.hid hpr
        have z1 : ((N : Int) != 1) = true := by rw [bne_iff_ne]; omega
        have z2 : ((N : Int) == 0) = false := by rw [beq_eq_false_iff_ne]; omega
        have z3 : (1 : Int) < (N : Int) := by omega
        clear ho hpr hN1 hN0 S1
        go_wp2_with fail
        refine (pass30 A n cap off lo hi ps _ K.out.pcs Hn.out).mono ?_
        rintro e W4 ⟨C2, m2, cp2, rfl, -, -, hb⟩
        rw [HP.out]
        replace K := Lib.hid (K.out.next hb)
        clear hb c0 c1 c2 c3
        go_wp2_with fail
        refine (works13 _).mono ?_
        rintro e W5 ⟨rfl, hb⟩
        have HB := Lib.hid (K.out.next hb)
        clear hb
        go_wp2_with fail
        go_ret
        exact ⟨rfl, HB.out.below⟩
end Go.Proofs.Ytfmcfalghbaanaa
