/- Stage 6: what the document says of a chain. -/
import Derived.Test.YtigohccehllmnaaDj
import Derived.Test.YtigohccehllmnaaPv
namespace Go.Proofs.Ytigohccehllmnaa
set_option linter.unusedSimpArgs false
set_option linter.unusedVariables false
open Go.RowKit Go.Shelf

/-- A link that joins two names. -/
def lkB (zs : List Nl) (ds : List Int) (x y : Int) (k : Nat) : Bool := !decide ((k : Int) ∈ ds) && (decide ((lAt zs k).one = x) && decide ((lAt zs k).two = y) || decide ((lAt zs k).one = y) && decide ((lAt zs k).two = x))
def lnkK (zs : List Nl) (ds : List Int) (x y : Int) (n : Nat) : Bool := (List.range n).any (lkB zs ds x y)
theorem lnkK_succ (zs : List Nl) (ds : List Int) (x y : Int) (n : Nat) : lnkK zs ds x y (n + 1) = (lnkK zs ds x y n || lkB zs ds x y n) := by simp [lnkK, List.range_succ]
theorem lnkK_yes {zs : List Nl} {ds : List Int} {x y : Int} {k n : Nat} (h : lkB zs ds x y k = true) (hk : k < n) : lnkK zs ds x y n = true := List.any_eq_true.2 ⟨k, List.mem_range.2 hk, h⟩
section
attribute [local go_sem ↓] exec_app at_app
attribute [local go_sem] Oper.semAt_some
set_option maxRecDepth 100000 in
set_option maxHeartbeats 16000000 in
theorem linked52 (l : NL) (DA : Option Addr) (dn dc : Nat) (ds : List Int) (x y : Int) (w : World) (h : NLs w l) (hD : Ints w DA dn ds) (hd6 : dn ≤ 1000000) (hn12 : l.n ≤ 120) :
    Calls Try.prog 52 #[.agg #[.int .i64 l.N, .slice l.A l.n l.cap, .slice l.LA l.ln l.lc, .slice l.RA l.rn l.rc], .slice DA dn dc, .int .i64 x, .int .i64 y] w fun e w' => e = .returned (.bool (lnkK l.zs ds x y l.n)) ∧ Below w.heap.size w w' := by
  obtain ⟨R, hR⟩ : ∃ v, w.heap.size = v := ⟨_, rfl⟩
  have hb0 := below_alloc_ w (.cells #[.int .i64 l.N, .slice l.A l.n l.cap, .slice l.LA l.ln l.lc, .slice l.RA l.rn l.rc] 25)
  have hr0 := heap_alloc_new_ w (.cells #[.int .i64 l.N, .slice l.A l.n l.cap, .slice l.LA l.ln l.lc, .slice l.RA l.rn l.rc] 25)
  have hz0 : (w.alloc (.cells #[.int .i64 l.N, .slice l.A l.n l.cap, .slice l.LA l.ln l.lc, .slice l.RA l.rn l.rc] 25)).heap.size = w.heap.size + 1 := by simp
  obtain ⟨w0, hw0⟩ : ∃ v, w.alloc (.cells #[.int .i64 l.N, .slice l.A l.n l.cap, .slice l.LA l.ln l.lc, .slice l.RA l.rn l.rc] 25) = v := ⟨_, rfl⟩
  rw [hw0] at hb0 hr0 hz0
  rw [hR] at hr0 hz0
  have hB := hb0
  have S := Lib.hid (h.below hB (Nat.le_refl _))
  have SD := Lib.hid (hD.below hB (Nat.le_refl _))
  have X := Lib.hid hr0
  have HW0 := Lib.hid hw0
  have B := Lib.hid hB
  have HR := Lib.hid hR
  clear hB hR hb0 hr0 hz0 hw0 h hD
  have ltX : R < w0.heap.size := lt_of_block X.out
  have zX0 : w0.cell? ⟨R, 0, none⟩ = some (.int .i64 l.N) := by rw [cell_row X.out]; rfl
  have zX1 : w0.cell? ⟨R, 1, none⟩ = some (.slice l.A l.n l.cap) := by rw [cell_row X.out]; rfl
  have zX2 : w0.cell? ⟨R, 2, none⟩ = some (.slice l.LA l.ln l.lc) := by rw [cell_row X.out]; rfl
  have zX3 : w0.cell? ⟨R, 3, none⟩ = some (.slice l.RA l.rn l.rc) := by rw [cell_row X.out]; rfl
  go_enter Try.func52, Try.ntmps52
  go_wp2_with fail
  try rw [HW0.out]
  try rw [HR.out]
  try simp only [Nat.add_assoc, Nat.reduceAdd]
  try go_wp2_with fail
  clear zX0 zX1 zX2 zX3 ltX
  go_loopw [9] (fun i wr => ∃ k : Nat, k ≤ l.n ∧ i = .int .i64 (k : Int) ∧ Hid (lnkK l.zs ds x y k = false) ∧ Hid (Below w0.heap.size w0 wr)) (fun i _ => l.n - (intOf i).toNat)
  case atStart => exact ⟨0, Nat.zero_le _, rfl, Lib.hid rfl, Lib.hid (Below.refl _ _)⟩
  case round =>
    obtain ⟨k, hk9, rfl, HL, Hb⟩ := hrel
    obtain ⟨wk, rfl⟩ : ∃ wk, wk = wr := ⟨_, rfl⟩
    have hbk := Hb.out
    have Xk := Lib.hid ((hbk.block _ (lt_of_block X.out)).trans X.out)
    have HBk := Lib.hid (B.out.trans (hbk.mono B.out.size))
    by_cases hlt : k < l.n
    · obtain ⟨bz, oz, hA, hcz⟩ := (S.out.zs.below hbk (Nat.le_refl _)).2 (by omega)
      obtain ⟨z0, z1, z2⟩ := hcz k hlt
      have hXk := Xk.out
      rw [hA] at hXk
      have zb : wk.cell? ⟨R, 1, none⟩ = some (.slice (some ⟨bz, oz, none⟩) l.n l.cap) := by rw [cell_row hXk]; rfl
      have hs : lnkK l.zs ds x y (k + 1) = lkB l.zs ds x y k := by rw [lnkK_succ, HL.out, Bool.false_or]
      have Hy := Lib.hid (fun e : lkB l.zs ds x y k = true => lnkK_yes e hlt)
      have hk : lkB l.zs ds x y k = (!decide ((k : Int) ∈ ds) && (decide ((lAt l.zs k).one = x) && decide ((lAt l.zs k).two = y) || decide ((lAt l.zs k).one = y) && decide ((lAt l.zs k).two = x))) := rfl
      obtain ⟨g3, hg⟩ : ∃ g, lAt l.zs k = g := ⟨_, rfl⟩
      rw [hg] at z0 z1 z2 hk
      obtain ⟨gl, gh, gt⟩ := g3
      simp only at z0 z1 z2 hk
      obtain ⟨j0, hj0⟩ : ∃ v, decide ((k : Int) ∈ ds) = v := ⟨_, rfl⟩
      rw [hj0] at hk
      rw [hk] at hs
      have hb := below_alloc_ wk (.cells #[.int .i64 gl, .int .i64 gh, .int .i64 gt] 60)
      have hrP := heap_alloc_new_ wk (.cells #[.int .i64 gl, .int .i64 gh, .int .i64 gt] 60)
      obtain ⟨w3, hw3⟩ : ∃ v, wk.alloc (.cells #[.int .i64 gl, .int .i64 gh, .int .i64 gt] 60) = v := ⟨_, rfl⟩
      obtain ⟨P, hP⟩ : ∃ v, wk.heap.size = v := ⟨_, rfl⟩
      rw [hw3] at hb hrP
      rw [hP] at hrP
      have HP := Lib.hid hrP
      have K := Lib.hid (in38 DA dn dc ds (k : Int) w3 (SD.out.below (hbk.trans (hb.mono hbk.size)) (Nat.le_refl _)) hd6)
      rw [hj0] at K
      have HB3 := Lib.hid (HBk.out.trans (hb.mono HBk.out.size))
      have Hb3 := Lib.hid (hbk.trans (hb.mono hbk.size))
      have Hw3 := Lib.hid hw3
      have HPe := Lib.hid hP
      have Hs := Lib.hid hs
      have Hk := Lib.hid hk
      have i0 : (0 : Int) ≤ (k : Int) := by omega
      have i1 : (k : Int) < (l.n : Int) := by omega
      have i2 : (l.n : Int) ≤ 120 := by omega
      clear hb hrP hw3 hP hg hj0 hbk hA hcz hXk hs hk
      go_upto_region 5 with fail
      rw [Hw3.out]
      rw [HPe.out]
      clear zb z0 z1 z2
      have p0 : w3.cell? ⟨P, 0, none⟩ = some (.int .i64 gl) := by rw [cell_row HP.out]; rfl
      have p1 : w3.cell? ⟨P, 1, none⟩ = some (.int .i64 gh) := by rw [cell_row HP.out]; rfl
      have ltP := lt_of_block HP.out
      rcases j0 with _ | _
      rotate_left
      · have HN := Lib.hid (show lnkK l.zs ds x y (k + 1) = false by rw [Hs.out]; rfl)
        skip
        go_wp2_with fail
        refine K.out.mono ?_
        rintro en w9 ⟨rfl, hw9⟩
        subst w9
        go_wp2_with fail
        go_roundw
        case rel => exact ⟨k + 1, by omega, by go_num, HN, Hb3⟩
        case measure => simp [intOf]; omega
      by_cases c1 : gl = x
      · have dc1 : (gl == x) = true := by rw [beq_iff_eq]; exact c1
        by_cases c2 : gh = y
        · have dc2 : (gh == y) = true := by rw [beq_iff_eq]; exact c2
          have HN := Lib.hid (show lnkK l.zs ds x y l.n = true from Hy.out (by rw [Hk.out]; rw [decide_eq_true c1, decide_eq_true c2] <;> rfl))
          clear c1 c2
          go_wp2_with fail
          refine K.out.mono ?_
          rintro en w9 ⟨rfl, hw9⟩
          subst w9
          go_wp2_with fail
          go_ret
          exact ⟨by rw [HN.out] <;> rfl, HB3.out⟩
        · have dc2 : (gh == y) = false := by rw [beq_eq_false_iff_ne]; exact c2
          by_cases c3 : gl = y
          · have dc3 : (gl == y) = true := by rw [beq_iff_eq]; exact c3
            by_cases c4 : gh = x
            · have dc4 : (gh == x) = true := by rw [beq_iff_eq]; exact c4
              have HN := Lib.hid (show lnkK l.zs ds x y l.n = true from Hy.out (by rw [Hk.out]; rw [decide_eq_true c1, decide_eq_false c2, decide_eq_true c3, decide_eq_true c4] <;> rfl))
              clear c1 c2 c3 c4
              go_wp2_with fail
              refine K.out.mono ?_
              rintro en w9 ⟨rfl, hw9⟩
              subst w9
              go_wp2_with fail
              go_ret
              exact ⟨by rw [HN.out] <;> rfl, HB3.out⟩
            · have dc4 : (gh == x) = false := by rw [beq_eq_false_iff_ne]; exact c4
              have HN := Lib.hid (show lnkK l.zs ds x y (k + 1) = false by rw [Hs.out]; rw [decide_eq_true c1, decide_eq_false c2, decide_eq_true c3, decide_eq_false c4] <;> rfl)
              clear c1 c2 c3 c4
              go_wp2_with fail
              refine K.out.mono ?_
              rintro en w9 ⟨rfl, hw9⟩
              subst w9
              go_wp2_with fail
              go_roundw
              case rel => exact ⟨k + 1, by omega, by go_num, HN, Hb3⟩
              case measure => simp [intOf]; omega
          · have dc3 : (gl == y) = false := by rw [beq_eq_false_iff_ne]; exact c3
            have HN := Lib.hid (show lnkK l.zs ds x y (k + 1) = false by rw [Hs.out]; rw [decide_eq_true c1, decide_eq_false c2, decide_eq_false c3] <;> rfl)
            clear c1 c2 c3
            go_wp2_with fail
            refine K.out.mono ?_
            rintro en w9 ⟨rfl, hw9⟩
            subst w9
            go_wp2_with fail
            go_roundw
            case rel => exact ⟨k + 1, by omega, by go_num, HN, Hb3⟩
            case measure => simp [intOf]; omega
      · have dc1 : (gl == x) = false := by rw [beq_eq_false_iff_ne]; exact c1
        by_cases c3 : gl = y
        · have dc3 : (gl == y) = true := by rw [beq_iff_eq]; exact c3
          by_cases c4 : gh = x
          · have dc4 : (gh == x) = true := by rw [beq_iff_eq]; exact c4
            have HN := Lib.hid (show lnkK l.zs ds x y l.n = true from Hy.out (by rw [Hk.out]; rw [decide_eq_false c1, decide_eq_true c3, decide_eq_true c4] <;> rfl))
            clear c1 c3 c4
            go_wp2_with fail
            refine K.out.mono ?_
            rintro en w9 ⟨rfl, hw9⟩
            subst w9
            go_wp2_with fail
            go_ret
            exact ⟨by rw [HN.out] <;> rfl, HB3.out⟩
          · have dc4 : (gh == x) = false := by rw [beq_eq_false_iff_ne]; exact c4
            have HN := Lib.hid (show lnkK l.zs ds x y (k + 1) = false by rw [Hs.out]; rw [decide_eq_false c1, decide_eq_true c3, decide_eq_false c4] <;> rfl)
            clear c1 c3 c4
            go_wp2_with fail
            refine K.out.mono ?_
            rintro en w9 ⟨rfl, hw9⟩
            subst w9
            go_wp2_with fail
            go_roundw
            case rel => exact ⟨k + 1, by omega, by go_num, HN, Hb3⟩
            case measure => simp [intOf]; omega
        · have dc3 : (gl == y) = false := by rw [beq_eq_false_iff_ne]; exact c3
          have HN := Lib.hid (show lnkK l.zs ds x y (k + 1) = false by rw [Hs.out]; rw [decide_eq_false c1, decide_eq_false c3] <;> rfl)
          clear c1 c3
          go_wp2_with fail
          refine K.out.mono ?_
          rintro en w9 ⟨rfl, hw9⟩
          subst w9
          go_wp2_with fail
          go_roundw
          case rel => exact ⟨k + 1, by omega, by go_num, HN, Hb3⟩
          case measure => simp [intOf]; omega
    · obtain rfl : k = l.n := by omega
      have zb : wk.cell? ⟨R, 1, none⟩ = some (.slice l.A l.n l.cap) := by rw [cell_row Xk.out]; rfl
      clear hbk
      go_wp2_with fail
      go_ret
      exact ⟨by rw [HL.out] <;> rfl, HBk.out⟩
end
end Go.Proofs.Ytigohccehllmnaa

namespace Go.Proofs.Ytigohccehllmnaa
set_option linter.unusedSimpArgs false
set_option linter.unusedVariables false
open Go.RowKit Go.Shelf

theorem drop_tr {l : NL} {W : World} {ds : List Int} (h : chkL l = 0) (hn : NLs W l) (hr : risI (l.n : Int) ds = true) {k : Nat} (hk : k < l.n) : 0 < (lAt (dropF l.zs ds) k).tr ↔ (k : Int) ∉ ds := by
  have hl := hn.zs.1
  rw [lAt_dropF ds l.zs (fun x hx => by have := ris_mem hr x hx; rw [hl]; exact this) k (by omega)]
  have h9 := List.all_eq_true.1 (chk_zero h).2.2.2.2.1 (lAt l.zs k) (by rw [lAt_eq (by omega)]; exact List.getElem_mem _)
  unfold okN at h9
  simp only [Bool.and_eq_true, inB_iff, Bool.not_eq_true', decide_eq_false_iff_not] at h9
  split
  · rename_i e; simp [e]
  · rename_i e; simp only [e, not_false_eq_true, iff_true]; omega
theorem drop_ends {l : NL} {W : World} {ds : List Int} (hn : NLs W l) (hr : risI (l.n : Int) ds = true) {k : Nat} (hk : k < l.n) : (lAt (dropF l.zs ds) k).one = (lAt l.zs k).one ∧ (lAt (dropF l.zs ds) k).two = (lAt l.zs k).two := by
  have hl := hn.zs.1
  rw [lAt_dropF ds l.zs (fun x hx => by have := ris_mem hr x hx; rw [hl]; exact this) k (by omega)]
  split <;> exact ⟨rfl, rfl⟩
theorem joinB_link {l : NL} {W : World} {ds : List Int} (h : chkL l = 0) (hn : NLs W l) (hr : risI (l.n : Int) ds = true) (B F Z : Nat) (x y : Int) : joinB ⟨B, F, Z, l, dropF l.zs ds⟩ (fun _ => 0) x y = lnkK l.zs ds x y l.n := by
  have hok := bd_ok h hn ds hr B F Z
  rw [Bool.eq_iff_iff]
  unfold joinB lnkK
  rw [List.any_eq_true, List.any_eq_true]
  constructor
  · rintro ⟨w, hw, hp⟩
    obtain ⟨a1, a2, a3⟩ := mem_wysK.1 hw
    have a1 : w.link < l.n := a1
    simp only [Bool.and_eq_true, decide_eq_true_eq] at hp
    obtain ⟨d1, d2⟩ := drop_ends hn hr a1
    have hop := hp.2
    unfold opF roomW at hop
    simp only [decide_eq_true_eq] at hop
    have htr : 0 < (lAt (dropF l.zs ds) w.link).tr := by split at hop <;> omega
    have hnd := (drop_tr h hn hr a1).1 htr
    refine ⟨w.link, List.mem_range.2 a1, ?_⟩
    unfold lkB
    rw [decide_eq_false hnd]
    simp only [Bool.not_false, Bool.true_and, Bool.or_eq_true, Bool.and_eq_true, decide_eq_true_eq]
    simp only at a3
    rw [d1, d2] at a3
    rcases a3 with ⟨e1, e2⟩ | ⟨_, e1, e2⟩
    · exact .inr ⟨by rw [← e2]; exact hp.1, e1⟩
    · exact .inl ⟨e1, by rw [← e2]; exact hp.1⟩
  · rintro ⟨k, hk, hp⟩
    have hk := List.mem_range.1 hk
    unfold lkB at hp
    simp only [Bool.and_eq_true, Bool.or_eq_true, Bool.not_eq_true', decide_eq_false_iff_not, decide_eq_true_eq] at hp
    obtain ⟨d1, d2⟩ := drop_ends hn hr hk
    have htr := (drop_tr h hn hr hk).2 hp.1
    have hne := (hok.ok k hk).2.2.1
    simp only at hne
    rw [d1, d2] at hne
    refine ⟨⟨k, x, y⟩, mem_wysK.2 ⟨hk, rfl, ?_⟩, ?_⟩
    · simp only
      rw [d1, d2]
      rcases hp.2 with ⟨e1, e2⟩ | ⟨e1, e2⟩
      · exact .inr ⟨by omega, e1, e2.symm⟩
      · exact .inl ⟨e2, e1.symm⟩
    · simp only [Bool.and_eq_true, decide_eq_true_eq, true_and]
      unfold opF roomW
      simp only [decide_eq_true_eq]
      split <;> omega
theorem withI_iff {lo hi : Int} {zs : List Int} : withI lo hi zs = true ↔ ∀ x ∈ zs, lo ≤ x ∧ x ≤ hi := by
  unfold withI
  rw [List.all_eq_true]
  constructor
  · intro h x hx; exact inB_iff.1 (h x hx)
  · intro h x hx; exact inB_iff.2 (h x hx)
end Go.Proofs.Ytigohccehllmnaa

namespace Go.Proofs.Ytigohccehllmnaa
set_option linter.unusedSimpArgs false
set_option linter.unusedVariables false
open Go.RowKit Go.Shelf
abbrev opDn0 : Oper := { dst := some 30, op := Go.Op.move (Go.Operand.tmp 2), type := 23, pos := "ref.go:142", after := #[], guard := none }
abbrev opDn1 : Oper := { dst := some 31, op := Go.Op.move (Go.Operand.tmp 7), type := 3, pos := "ref.go:142", after := #[], guard := none }
abbrev opDn2 : Oper := { dst := some 32, op := Go.Op.indexAddr 23 (Go.Operand.tmp 30) (Go.Operand.tmp 31), type := 0, pos := "ref.go:142", after := #[{ on := 0, ground := Go.Ground.data }, { on := 1, ground := Go.Ground.data }], guard := none }
abbrev opDn3 : Oper := { dst := some 33, op := Go.Op.load 3 (Go.Operand.tmp 32), type := 3, pos := "ref.go:142", after := #[{ on := 2, ground := Go.Ground.data }], guard := none }
abbrev opDn4 : Oper := { dst := some 34, op := Go.Op.binOp Go.BinOp.lss 3 (Go.Operand.tmp 33) (Go.Operand.const (Go.Value.int Go.IntKind.i64 0)) 3, type := 4, pos := "ref.go:142", after := #[{ on := 3, ground := Go.Ground.data }], guard := none }
abbrev opDn5 : Oper := { dst := some 35, op := Go.Op.move (Go.Operand.tmp 34), type := 4, pos := "ref.go:142", after := #[{ on := 4, ground := Go.Ground.data }], guard := none }
abbrev opDn6 : Oper := { dst := some 36, op := Go.Op.move (Go.Operand.tmp 2), type := 23, pos := "ref.go:142", after := #[{ on := 5, ground := Go.Ground.guard }], guard := some (5, false) }
abbrev opDn7 : Oper := { dst := some 37, op := Go.Op.move (Go.Operand.tmp 7), type := 3, pos := "ref.go:142", after := #[{ on := 5, ground := Go.Ground.guard }], guard := some (5, false) }
abbrev opDn8 : Oper := { dst := some 38, op := Go.Op.indexAddr 23 (Go.Operand.tmp 36) (Go.Operand.tmp 37), type := 0, pos := "ref.go:142", after := #[{ on := 6, ground := Go.Ground.data }, { on := 7, ground := Go.Ground.data }, { on := 5, ground := Go.Ground.guard }], guard := some (5, false) }
abbrev opDn9 : Oper := { dst := some 39, op := Go.Op.load 3 (Go.Operand.tmp 38), type := 3, pos := "ref.go:142", after := #[{ on := 8, ground := Go.Ground.data }, { on := 5, ground := Go.Ground.guard }], guard := some (5, false) }
abbrev opDn10 : Oper := { dst := some 40, op := Go.Op.fieldAddr 25 (Go.Operand.tmp 3) 0, type := 0, pos := "ref.go:142", after := #[{ on := 5, ground := Go.Ground.guard }], guard := some (5, false) }
abbrev opDn11 : Oper := { dst := some 41, op := Go.Op.load 3 (Go.Operand.tmp 40), type := 3, pos := "ref.go:142", after := #[{ on := 10, ground := Go.Ground.data }, { on := 5, ground := Go.Ground.guard }], guard := some (5, false) }
abbrev opDn12 : Oper := { dst := some 42, op := Go.Op.binOp Go.BinOp.geq 3 (Go.Operand.tmp 39) (Go.Operand.tmp 41) 3, type := 4, pos := "ref.go:142", after := #[{ on := 9, ground := Go.Ground.data }, { on := 11, ground := Go.Ground.data }, { on := 5, ground := Go.Ground.guard }], guard := some (5, false) }
abbrev opDn13 : Oper := { dst := some 43, op := Go.Op.pick (Go.Operand.tmp 35) (Go.Operand.const (Go.Value.bool true)) (Go.Operand.tmp 42), type := 4, pos := "ref.go:142", after := #[{ on := 5, ground := Go.Ground.data }, { on := 12, ground := Go.Ground.data }], guard := none }
abbrev opDn14 : Oper := { dst := some 63, op := Go.Op.fieldAddr 25 (Go.Operand.tmp 3) 2, type := 0, pos := "ref.go:151", after := #[], guard := none }
abbrev opDn15 : Oper := { dst := some 64, op := Go.Op.load 23 (Go.Operand.tmp 63), type := 23, pos := "ref.go:151", after := #[{ on := 0, ground := Go.Ground.data }], guard := none }
abbrev opDn16 : Oper := { dst := some 65, op := Go.Op.move (Go.Operand.tmp 2), type := 23, pos := "ref.go:151", after := #[], guard := none }
abbrev opDn17 : Oper := { dst := some 66, op := Go.Op.indexAddr 23 (Go.Operand.tmp 65) (Go.Operand.const (Go.Value.int Go.IntKind.i64 0)), type := 0, pos := "ref.go:151", after := #[{ on := 2, ground := Go.Ground.data }], guard := none }
abbrev opDn18 : Oper := { dst := some 67, op := Go.Op.load 3 (Go.Operand.tmp 66), type := 3, pos := "ref.go:151", after := #[{ on := 3, ground := Go.Ground.data }], guard := none }
abbrev opDn19 : Oper := { dst := some 68, op := Go.Op.call { callee := Go.Callee.value (Go.Operand.func 38), args := #[Go.Operand.tmp 64, Go.Operand.tmp 67], argTypes := #[23, 3] }, type := 4, pos := "ref.go:151", after := #[{ on := 1, ground := Go.Ground.data }, { on := 4, ground := Go.Ground.data }], guard := none }
abbrev opDn20 : Oper := { dst := some 69, op := Go.Op.unOp Go.UnOp.not 4 (Go.Operand.tmp 68), type := 4, pos := "ref.go:151", after := #[{ on := 5, ground := Go.Ground.data }], guard := none }
abbrev opDn21 : Oper := { dst := some 70, op := Go.Op.move (Go.Operand.tmp 69), type := 4, pos := "ref.go:151", after := #[{ on := 6, ground := Go.Ground.data }, { on := 5, ground := Go.Ground.chain }], guard := none }
abbrev opDn22 : Oper := { dst := some 71, op := Go.Op.fieldAddr 25 (Go.Operand.tmp 3) 3, type := 0, pos := "ref.go:151", after := #[{ on := 7, ground := Go.Ground.guard }], guard := some (7, false) }
abbrev opDn23 : Oper := { dst := some 72, op := Go.Op.load 23 (Go.Operand.tmp 71), type := 23, pos := "ref.go:151", after := #[{ on := 8, ground := Go.Ground.data }, { on := 7, ground := Go.Ground.guard }], guard := some (7, false) }
abbrev opDn24 : Oper := { dst := some 73, op := Go.Op.move (Go.Operand.tmp 2), type := 23, pos := "ref.go:151", after := #[{ on := 7, ground := Go.Ground.guard }], guard := some (7, false) }
abbrev opDn25 : Oper := { dst := some 74, op := Go.Op.move (Go.Operand.tmp 2), type := 23, pos := "ref.go:151", after := #[{ on := 7, ground := Go.Ground.guard }], guard := some (7, false) }
abbrev opDn26 : Oper := { dst := some 75, op := Go.Op.call { callee := Go.Callee.builtin Go.Builtin.len, args := #[Go.Operand.tmp 74], argTypes := #[23] }, type := 3, pos := "ref.go:151", after := #[{ on := 11, ground := Go.Ground.data }, { on := 7, ground := Go.Ground.guard }], guard := some (7, false) }
abbrev opDn27 : Oper := { dst := some 76, op := Go.Op.binOp Go.BinOp.sub 3 (Go.Operand.tmp 75) (Go.Operand.const (Go.Value.int Go.IntKind.i64 1)) 3, type := 3, pos := "ref.go:151", after := #[{ on := 12, ground := Go.Ground.data }, { on := 7, ground := Go.Ground.guard }], guard := some (7, false) }
abbrev opDn28 : Oper := { dst := some 77, op := Go.Op.indexAddr 23 (Go.Operand.tmp 73) (Go.Operand.tmp 76), type := 0, pos := "ref.go:151", after := #[{ on := 10, ground := Go.Ground.data }, { on := 13, ground := Go.Ground.data }, { on := 7, ground := Go.Ground.guard }], guard := some (7, false) }
abbrev opDn29 : Oper := { dst := some 78, op := Go.Op.load 3 (Go.Operand.tmp 77), type := 3, pos := "ref.go:151", after := #[{ on := 14, ground := Go.Ground.data }, { on := 7, ground := Go.Ground.guard }], guard := some (7, false) }
abbrev opDn30 : Oper := { dst := some 79, op := Go.Op.call { callee := Go.Callee.value (Go.Operand.func 38), args := #[Go.Operand.tmp 72, Go.Operand.tmp 78], argTypes := #[23, 3] }, type := 4, pos := "ref.go:151", after := #[{ on := 9, ground := Go.Ground.data }, { on := 15, ground := Go.Ground.data }, { on := 7, ground := Go.Ground.chain }, { on := 7, ground := Go.Ground.guard }], guard := some (7, false) }
abbrev opDn31 : Oper := { dst := some 80, op := Go.Op.unOp Go.UnOp.not 4 (Go.Operand.tmp 79), type := 4, pos := "ref.go:151", after := #[{ on := 16, ground := Go.Ground.data }, { on := 7, ground := Go.Ground.guard }], guard := some (7, false) }
abbrev opDn32 : Oper := { dst := some 81, op := Go.Op.pick (Go.Operand.tmp 70) (Go.Operand.const (Go.Value.bool true)) (Go.Operand.tmp 80), type := 4, pos := "ref.go:151", after := #[{ on := 7, ground := Go.Ground.data }, { on := 17, ground := Go.Ground.data }], guard := none }

theorem chk_hd {l : NL} {ds ch : List Int} {n : Nat} (h : layE l ds = 0) : chkC l ds ch n = if inB 2 40 (n : Int) = false then 6 else if withI 0 (l.N - 1) ch = false then 3 else if isCh ⟨0, 0, 0, l, dropF l.zs ds⟩ (fun _ => 0) ch n = true then 0 else 14 := by unfold chkC; rw [if_neg (by omega)]
/-- The first names of a chain are joined by links. -/
def lkC (l : NL) (ds ch : List Int) (n : Nat) : Bool := (List.range n).all fun k => lnkK l.zs ds (iAt ch k) (iAt ch (k + 1)) l.n
theorem lkC_succ (l : NL) (ds ch : List Int) (n : Nat) : lkC l ds ch (n + 1) = (lkC l ds ch n && lnkK l.zs ds (iAt ch n) (iAt ch (n + 1)) l.n) := by simp [lkC, List.range_succ]
theorem lkC_no {l : NL} {ds ch : List Int} {k n : Nat} (h : lnkK l.zs ds (iAt ch k) (iAt ch (k + 1)) l.n = false) (hk : k < n) : lkC l ds ch n = false := by
  rw [← Bool.not_eq_true]
  intro e
  unfold lkC at e
  have := List.all_eq_true.1 e k (List.mem_range.2 hk)
  rw [h] at this; cases this
theorem isCh_lk {l : NL} {W : World} {ds ch : List Int} {n : Nat} (h : layE l ds = 0) (hn : NLs W l) : isCh ⟨0, 0, 0, l, dropF l.zs ds⟩ (fun _ => 0) ch n = (decide (iAt ch 0 ∈ l.ls) && decide (iAt ch (n - 1) ∈ l.rs) && lkC l ds ch (n - 1)) := by
  obtain ⟨h0, h1⟩ := layE_ok h
  unfold isCh chnK lkC
  congr 1
  refine congrArg (fun p => (List.range (n - 1)).all p) (funext fun k => joinB_link h0 hn h1 0 0 0 _ _)
section
attribute [local go_sem ↓] exec_app at_app
attribute [local go_sem] Oper.semAt_some
set_option maxRecDepth 100000 in
set_option maxHeartbeats 16000000 in
theorem refCheckChain22 (l : NL) (DA : Option Addr) (dn dc : Nat) (ds : List Int) (CA : Option Addr) (cn cc : Nat) (ch : List Int) (w : World) (h : NLs w l) (hD : Ints w DA dn ds) (hd6 : dn ≤ 1000000) (hC : Ints w CA cn ch) (hc6 : cn ≤ 1000000) :
    Calls Try.prog 22 #[.agg #[.int .i64 l.N, .slice l.A l.n l.cap, .slice l.LA l.ln l.lc, .slice l.RA l.rn l.rc], .slice DA dn dc, .slice CA cn cc] w fun e w' => e = .returned (.int .i64 (chkC l ds ch cn)) ∧ Below w.heap.size w w' := by
  obtain ⟨R, hR⟩ : ∃ v, w.heap.size = v := ⟨_, rfl⟩
  have hb0 := below_alloc_ w (.cells #[.int .i64 l.N, .slice l.A l.n l.cap, .slice l.LA l.ln l.lc, .slice l.RA l.rn l.rc] 25)
  have hr0 := heap_alloc_new_ w (.cells #[.int .i64 l.N, .slice l.A l.n l.cap, .slice l.LA l.ln l.lc, .slice l.RA l.rn l.rc] 25)
  have hz0 : (w.alloc (.cells #[.int .i64 l.N, .slice l.A l.n l.cap, .slice l.LA l.ln l.lc, .slice l.RA l.rn l.rc] 25)).heap.size = w.heap.size + 1 := by simp
  obtain ⟨w0, hw0⟩ : ∃ v, w.alloc (.cells #[.int .i64 l.N, .slice l.A l.n l.cap, .slice l.LA l.ln l.lc, .slice l.RA l.rn l.rc] 25) = v := ⟨_, rfl⟩
  rw [hw0] at hb0 hr0 hz0
  rw [hR] at hr0 hz0
  have hB := hb0
  have S := Lib.hid (h.below hB (Nat.le_refl _))
  have SD := Lib.hid (hD.below hB (Nat.le_refl _))
  have SC := Lib.hid (hC.below hB (Nat.le_refl _))
  have X := Lib.hid hr0
  have HW0 := Lib.hid hw0
  have B := Lib.hid hB
  have HR := Lib.hid hR
  clear hB hR hb0 hr0 hz0 hw0 h hD hC
  have ltX : R < w0.heap.size := lt_of_block X.out
  have zX0 : w0.cell? ⟨R, 0, none⟩ = some (.int .i64 l.N) := by rw [cell_row X.out]; rfl
  have zX1 : w0.cell? ⟨R, 1, none⟩ = some (.slice l.A l.n l.cap) := by rw [cell_row X.out]; rfl
  have zX2 : w0.cell? ⟨R, 2, none⟩ = some (.slice l.LA l.ln l.lc) := by rw [cell_row X.out]; rfl
  have zX3 : w0.cell? ⟨R, 3, none⟩ = some (.slice l.RA l.rn l.rc) := by rw [cell_row X.out]; rfl
  go_enter Try.func22, Try.ntmps22
  go_wp2_with fail
  try rw [HW0.out]
  try rw [HR.out]
  try simp only [Nat.add_assoc, Nat.reduceAdd]
  try go_wp2_with fail
  clear zX0 zX1 zX2 zX3 ltX
  refine (isDrop43 l DA dn dc ds w0 S.out SD.out hd6).mono ?_
  rintro en w1 ⟨rfl, hb⟩
  replace S := Lib.hid (S.out.below hb (Nat.le_refl _))
  replace SD := Lib.hid (SD.out.below hb (Nat.le_refl _))
  replace SC := Lib.hid (SC.out.below hb (Nat.le_refl _))
  replace X := Lib.hid ((hb.block _ (lt_of_block X.out)).trans X.out)
  replace B := Lib.hid (B.out.trans (hb.mono B.out.size))
  obtain ⟨c, hc⟩ : ∃ v, layE l ds = v := ⟨_, rfl⟩
  rw [hc]
  have HC := Lib.hid hc
  clear hc
  try clear hb
  have ltX : R < w1.heap.size := lt_of_block X.out
  have zX0 : w1.cell? ⟨R, 0, none⟩ = some (.int .i64 l.N) := by rw [cell_row X.out]; rfl
  have zX1 : w1.cell? ⟨R, 1, none⟩ = some (.slice l.A l.n l.cap) := by rw [cell_row X.out]; rfl
  have zX2 : w1.cell? ⟨R, 2, none⟩ = some (.slice l.LA l.ln l.lc) := by rw [cell_row X.out]; rfl
  have zX3 : w1.cell? ⟨R, 3, none⟩ = some (.slice l.RA l.rn l.rc) := by rw [cell_row X.out]; rfl
  by_cases h0 : c = 0
  rotate_left
  · have d0 : (c != 0) = true := by rw [bne_iff_ne]; exact h0
    have HF := Lib.hid (show chkC l ds ch cn = c by unfold chkC; rw [HC.out, if_pos h0])
    clear h0
    go_wp2_with fail
    refine (isDrop43 l DA dn dc ds w1 S.out SD.out hd6).mono ?_
    rintro en w2 ⟨rfl, hb⟩
    replace B := Lib.hid (B.out.trans (hb.mono B.out.size))
    clear hb
    go_wp2_with fail
    go_ret
    exact ⟨by rw [HF.out, HC.out] <;> rfl, B.out⟩
  subst h0
  have HE := Lib.hid (chk_hd (ch := ch) (n := cn) HC.out)
  have HI := Lib.hid (isCh_lk (ch := ch) (n := cn) HC.out S.out)
  have Hn12 := Lib.hid (chk_zero (layE_ok HC.out).1).2.1
  by_cases h2 : cn < 2
  · have d1 : (cn : Int) < 2 := by omega
    have hf := Lib.hid (show chkC l ds ch cn = 6 by rw [HE.out, if_pos]; rw [← Bool.not_eq_true, inB_iff]; omega)
    clear h2
    go_wp2_with fail
    go_ret
    exact ⟨by rw [hf.out] <;> rfl, B.out⟩
  have d1 : ¬ (cn : Int) < 2 := by omega
  by_cases h40 : 40 < cn
  · have d2 : (40 : Int) < (cn : Int) := by omega
    have hf := Lib.hid (show chkC l ds ch cn = 6 by rw [HE.out, if_pos]; rw [← Bool.not_eq_true, inB_iff]; omega)
    clear h40 h2
    go_wp2_with fail
    go_ret
    exact ⟨by rw [hf.out] <;> rfl, B.out⟩
  have d2 : ¬ (40 : Int) < (cn : Int) := by omega
  replace HE := Lib.hid (show chkC l ds ch cn = if withI 0 (l.N - 1) ch = false then 3 else if isCh ⟨0, 0, 0, l, dropF l.zs ds⟩ (fun _ => 0) ch cn = true then 0 else 14 by rw [HE.out, if_neg]; rw [Bool.not_eq_false, inB_iff]; omega)
  go_wp2_with fail
  clear d1 d2
  clear zX0 zX1 zX2 zX3 ltX
  go_loopw [7] (fun i wr => ∃ k : Nat, k ≤ cn ∧ i = .int .i64 (k : Int) ∧ Hid (withI 0 (l.N - 1) (ch.take k) = true) ∧ Hid (Below w1.heap.size w1 wr)) (fun i _ => cn - (intOf i).toNat)
  case atStart => exact ⟨0, Nat.zero_le _, rfl, Lib.hid rfl, Lib.hid (Below.refl _ _)⟩
  case round =>
    obtain ⟨k, hk9, rfl, HT, HBl⟩ := hrel
    obtain ⟨wk, rfl⟩ : ∃ wk, wk = wr := ⟨_, rfl⟩
    have hb := HBl.out
    have Q := HBl
    replace S := Lib.hid (S.out.below hb (Nat.le_refl _))
    replace SD := Lib.hid (SD.out.below hb (Nat.le_refl _))
    replace SC := Lib.hid (SC.out.below hb (Nat.le_refl _))
    replace X := Lib.hid ((hb.block _ (lt_of_block X.out)).trans X.out)
    replace B := Lib.hid (B.out.trans (hb.mono B.out.size))
    clear hb
    by_cases hlt : k < cn
    · obtain ⟨bz, oz, rfl, hcz⟩ := SC.out.2 (by omega)
      have z0 := hcz k hlt
      have Hs := Lib.hid (withI_take 0 (l.N - 1) ch k (by rw [SC.out.1]; exact hlt))
      have Hst := Lib.hid (withI_stop 0 (l.N - 1) ch k (by rw [SC.out.1]; exact hlt))
      obtain ⟨x, hx⟩ : ∃ x, iAt ch k = x := ⟨_, rfl⟩
      rw [hx] at z0 Hs Hst
      have i0 : (0 : Int) ≤ (k : Int) := by omega
      have i1 : (k : Int) < (cn : Int) := by omega
      have i2 : (cn : Int) ≤ 40 := by omega
      clear hcz hx
      have ltX : R < wk.heap.size := lt_of_block X.out
      have zX0 : wk.cell? ⟨R, 0, none⟩ = some (.int .i64 l.N) := by rw [cell_row X.out]; rfl
      have zX1 : wk.cell? ⟨R, 1, none⟩ = some (.slice l.A l.n l.cap) := by rw [cell_row X.out]; rfl
      have zX2 : wk.cell? ⟨R, 2, none⟩ = some (.slice l.LA l.ln l.lc) := by rw [cell_row X.out]; rfl
      have zX3 : wk.cell? ⟨R, 3, none⟩ = some (.slice l.RA l.rn l.rc) := by rw [cell_row X.out]; rfl
      by_cases c1 : x < 0
      · have dc1 : decide (x < 0) = true := decide_eq_true c1
        have HX := Lib.hid c1
        clear c1
        go_wp2_with fail
        refine wp_region_held_drew (S := fun w2 => Below wk.heap.size wk w2) (by kernel_rfl) (drew_b _ _) (fun hS0 => ?_)
        refine wpAnyH_take (i := 0) (oi := opDn0) (v := .slice (some ⟨bz, oz, none⟩) cn cc) rfl (by kernel_rfl) (by kernel_rfl) (by kernel_rfl) (fun _ _ _ h => h) (Or.inl ⟨by rfl, by intro w2 hSw; (try dsimp only at hSw); have yX0 := (hSw.cell (lt_of_cell zX0)).trans zX0; have yX1 := (hSw.cell (lt_of_cell zX1)).trans zX1; have yX2 := (hSw.cell (lt_of_cell zX2)).trans zX2; have yX3 := (hSw.cell (lt_of_cell zX3)).trans zX3; have yz0 := (hSw.cell (lt_of_cell z0)).trans z0;  go_simp⟩) hS0 ?_
        try simp only [Act.put, List.setIfInBounds_toArray, List.set_cons_zero, List.set_cons_succ]
        refine wpAnyH_take (i := 1) (oi := opDn1) (v := .int .i64 (k : Int)) rfl (by kernel_rfl) (by kernel_rfl) (by kernel_rfl) (fun _ _ _ h => h) (Or.inl ⟨by rfl, by intro w2 hSw; (try dsimp only at hSw); have yX0 := (hSw.cell (lt_of_cell zX0)).trans zX0; have yX1 := (hSw.cell (lt_of_cell zX1)).trans zX1; have yX2 := (hSw.cell (lt_of_cell zX2)).trans zX2; have yX3 := (hSw.cell (lt_of_cell zX3)).trans zX3; have yz0 := (hSw.cell (lt_of_cell z0)).trans z0;  go_simp⟩) hS0 ?_
        try simp only [Act.put, List.setIfInBounds_toArray, List.set_cons_zero, List.set_cons_succ]
        refine wpAnyH_take (i := 2) (oi := opDn2) (v := .pointer (some ⟨bz, oz + k, none⟩)) rfl (by kernel_rfl) (by kernel_rfl) (by kernel_rfl) (fun _ _ _ h => h) (Or.inl ⟨by rfl, by intro w2 hSw; (try dsimp only at hSw); have yX0 := (hSw.cell (lt_of_cell zX0)).trans zX0; have yX1 := (hSw.cell (lt_of_cell zX1)).trans zX1; have yX2 := (hSw.cell (lt_of_cell zX2)).trans zX2; have yX3 := (hSw.cell (lt_of_cell zX3)).trans zX3; have yz0 := (hSw.cell (lt_of_cell z0)).trans z0;  go_simp⟩) hS0 ?_
        try simp only [Act.put, List.setIfInBounds_toArray, List.set_cons_zero, List.set_cons_succ]
        refine wpAnyH_take (i := 3) (oi := opDn3) (v := .int .i64 x) rfl (by kernel_rfl) (by kernel_rfl) (by kernel_rfl) (fun _ _ _ h => h) (Or.inl ⟨by rfl, by intro w2 hSw; (try dsimp only at hSw); have yX0 := (hSw.cell (lt_of_cell zX0)).trans zX0; have yX1 := (hSw.cell (lt_of_cell zX1)).trans zX1; have yX2 := (hSw.cell (lt_of_cell zX2)).trans zX2; have yX3 := (hSw.cell (lt_of_cell zX3)).trans zX3; have yz0 := (hSw.cell (lt_of_cell z0)).trans z0;  go_simp⟩) hS0 ?_
        try simp only [Act.put, List.setIfInBounds_toArray, List.set_cons_zero, List.set_cons_succ]
        refine wpAnyH_take (i := 4) (oi := opDn4) (v := .bool true) rfl (by kernel_rfl) (by kernel_rfl) (by kernel_rfl) (fun _ _ _ h => h) (Or.inl ⟨by rfl, by intro w2 hSw; (try dsimp only at hSw); have yX0 := (hSw.cell (lt_of_cell zX0)).trans zX0; have yX1 := (hSw.cell (lt_of_cell zX1)).trans zX1; have yX2 := (hSw.cell (lt_of_cell zX2)).trans zX2; have yX3 := (hSw.cell (lt_of_cell zX3)).trans zX3; have yz0 := (hSw.cell (lt_of_cell z0)).trans z0;  go_simp⟩) hS0 ?_
        try simp only [Act.put, List.setIfInBounds_toArray, List.set_cons_zero, List.set_cons_succ]
        refine wpAnyH_take (i := 5) (oi := opDn5) (v := .bool true) rfl (by kernel_rfl) (by kernel_rfl) (by kernel_rfl) (fun _ _ _ h => h) (Or.inl ⟨by rfl, by intro w2 hSw; (try dsimp only at hSw); have yX0 := (hSw.cell (lt_of_cell zX0)).trans zX0; have yX1 := (hSw.cell (lt_of_cell zX1)).trans zX1; have yX2 := (hSw.cell (lt_of_cell zX2)).trans zX2; have yX3 := (hSw.cell (lt_of_cell zX3)).trans zX3; have yz0 := (hSw.cell (lt_of_cell z0)).trans z0;  go_simp⟩) hS0 ?_
        try simp only [Act.put, List.setIfInBounds_toArray, List.set_cons_zero, List.set_cons_succ]
        refine wpAnyH_take (i := 6) (oi := opDn6) (v := undef) rfl (by kernel_rfl) (by kernel_rfl) (by kernel_rfl) (fun _ _ _ h => h) (Or.inr ⟨by rfl, rfl⟩) hS0 ?_
        try simp only [Act.put, List.setIfInBounds_toArray, List.set_cons_zero, List.set_cons_succ]
        refine wpAnyH_take (i := 7) (oi := opDn7) (v := undef) rfl (by kernel_rfl) (by kernel_rfl) (by kernel_rfl) (fun _ _ _ h => h) (Or.inr ⟨by rfl, rfl⟩) hS0 ?_
        try simp only [Act.put, List.setIfInBounds_toArray, List.set_cons_zero, List.set_cons_succ]
        refine wpAnyH_take (i := 8) (oi := opDn8) (v := undef) rfl (by kernel_rfl) (by kernel_rfl) (by kernel_rfl) (fun _ _ _ h => h) (Or.inr ⟨by rfl, rfl⟩) hS0 ?_
        try simp only [Act.put, List.setIfInBounds_toArray, List.set_cons_zero, List.set_cons_succ]
        refine wpAnyH_take (i := 9) (oi := opDn9) (v := undef) rfl (by kernel_rfl) (by kernel_rfl) (by kernel_rfl) (fun _ _ _ h => h) (Or.inr ⟨by rfl, rfl⟩) hS0 ?_
        try simp only [Act.put, List.setIfInBounds_toArray, List.set_cons_zero, List.set_cons_succ]
        refine wpAnyH_take (i := 10) (oi := opDn10) (v := undef) rfl (by kernel_rfl) (by kernel_rfl) (by kernel_rfl) (fun _ _ _ h => h) (Or.inr ⟨by rfl, rfl⟩) hS0 ?_
        try simp only [Act.put, List.setIfInBounds_toArray, List.set_cons_zero, List.set_cons_succ]
        refine wpAnyH_take (i := 11) (oi := opDn11) (v := undef) rfl (by kernel_rfl) (by kernel_rfl) (by kernel_rfl) (fun _ _ _ h => h) (Or.inr ⟨by rfl, rfl⟩) hS0 ?_
        try simp only [Act.put, List.setIfInBounds_toArray, List.set_cons_zero, List.set_cons_succ]
        refine wpAnyH_take (i := 12) (oi := opDn12) (v := undef) rfl (by kernel_rfl) (by kernel_rfl) (by kernel_rfl) (fun _ _ _ h => h) (Or.inr ⟨by rfl, rfl⟩) hS0 ?_
        try simp only [Act.put, List.setIfInBounds_toArray, List.set_cons_zero, List.set_cons_succ]
        refine wpAnyH_take (i := 13) (oi := opDn13) (v := .bool true) rfl (by kernel_rfl) (by kernel_rfl) (by kernel_rfl) (fun _ _ _ h => h) (Or.inl ⟨by rfl, by intro w2 hSw; (try dsimp only at hSw); have yX0 := (hSw.cell (lt_of_cell zX0)).trans zX0; have yX1 := (hSw.cell (lt_of_cell zX1)).trans zX1; have yX2 := (hSw.cell (lt_of_cell zX2)).trans zX2; have yX3 := (hSw.cell (lt_of_cell zX3)).trans zX3; have yz0 := (hSw.cell (lt_of_cell z0)).trans z0;  go_simp⟩) hS0 ?_
        try simp only [Act.put, List.setIfInBounds_toArray, List.set_cons_zero, List.set_cons_succ]
        refine wpAnyH_done (by kernel_rfl) ?_ _
        clear zX0 zX1 zX2 zX3 ltX z0
        obtain ⟨wkd, hwd⟩ : ∃ v, wk.drew = v := ⟨_, rfl⟩
        have hb := hS0
        rw [hwd] at hb ⊢
        clear hS0 hwd
        replace S := Lib.hid (S.out.below hb (Nat.le_refl _))
        replace SD := Lib.hid (SD.out.below hb (Nat.le_refl _))
        replace SC := Lib.hid (SC.out.below hb (Nat.le_refl _))
        replace X := Lib.hid ((hb.block _ (lt_of_block X.out)).trans X.out)
        replace B := Lib.hid (B.out.trans (hb.mono B.out.size))
        replace Q := Lib.hid (Q.out.trans (hb.mono Q.out.size))
        clear hb
        have hf := Lib.hid (show chkC l ds ch cn = 3 by rw [HE.out, if_pos (Hst.out (by have := HX.out; omega))])
        go_wp2_with fail
        go_ret
        exact ⟨by rw [hf.out] <;> rfl, B.out⟩
      have dc1 : decide (x < 0) = false := decide_eq_false c1
      by_cases c2 : l.N ≤ x
      · have dc2 : decide (l.N ≤ x) = true := decide_eq_true c2
        have HX := Lib.hid c2
        clear c1 c2
        go_wp2_with fail
        refine wp_region_held_drew (S := fun w2 => Below wk.heap.size wk w2) (by kernel_rfl) (drew_b _ _) (fun hS0 => ?_)
        refine wpAnyH_take (i := 0) (oi := opDn0) (v := .slice (some ⟨bz, oz, none⟩) cn cc) rfl (by kernel_rfl) (by kernel_rfl) (by kernel_rfl) (fun _ _ _ h => h) (Or.inl ⟨by rfl, by intro w2 hSw; (try dsimp only at hSw); have yX0 := (hSw.cell (lt_of_cell zX0)).trans zX0; have yX1 := (hSw.cell (lt_of_cell zX1)).trans zX1; have yX2 := (hSw.cell (lt_of_cell zX2)).trans zX2; have yX3 := (hSw.cell (lt_of_cell zX3)).trans zX3; have yz0 := (hSw.cell (lt_of_cell z0)).trans z0;  go_simp⟩) hS0 ?_
        try simp only [Act.put, List.setIfInBounds_toArray, List.set_cons_zero, List.set_cons_succ]
        refine wpAnyH_take (i := 1) (oi := opDn1) (v := .int .i64 (k : Int)) rfl (by kernel_rfl) (by kernel_rfl) (by kernel_rfl) (fun _ _ _ h => h) (Or.inl ⟨by rfl, by intro w2 hSw; (try dsimp only at hSw); have yX0 := (hSw.cell (lt_of_cell zX0)).trans zX0; have yX1 := (hSw.cell (lt_of_cell zX1)).trans zX1; have yX2 := (hSw.cell (lt_of_cell zX2)).trans zX2; have yX3 := (hSw.cell (lt_of_cell zX3)).trans zX3; have yz0 := (hSw.cell (lt_of_cell z0)).trans z0;  go_simp⟩) hS0 ?_
        try simp only [Act.put, List.setIfInBounds_toArray, List.set_cons_zero, List.set_cons_succ]
        refine wpAnyH_take (i := 2) (oi := opDn2) (v := .pointer (some ⟨bz, oz + k, none⟩)) rfl (by kernel_rfl) (by kernel_rfl) (by kernel_rfl) (fun _ _ _ h => h) (Or.inl ⟨by rfl, by intro w2 hSw; (try dsimp only at hSw); have yX0 := (hSw.cell (lt_of_cell zX0)).trans zX0; have yX1 := (hSw.cell (lt_of_cell zX1)).trans zX1; have yX2 := (hSw.cell (lt_of_cell zX2)).trans zX2; have yX3 := (hSw.cell (lt_of_cell zX3)).trans zX3; have yz0 := (hSw.cell (lt_of_cell z0)).trans z0;  go_simp⟩) hS0 ?_
        try simp only [Act.put, List.setIfInBounds_toArray, List.set_cons_zero, List.set_cons_succ]
        refine wpAnyH_take (i := 3) (oi := opDn3) (v := .int .i64 x) rfl (by kernel_rfl) (by kernel_rfl) (by kernel_rfl) (fun _ _ _ h => h) (Or.inl ⟨by rfl, by intro w2 hSw; (try dsimp only at hSw); have yX0 := (hSw.cell (lt_of_cell zX0)).trans zX0; have yX1 := (hSw.cell (lt_of_cell zX1)).trans zX1; have yX2 := (hSw.cell (lt_of_cell zX2)).trans zX2; have yX3 := (hSw.cell (lt_of_cell zX3)).trans zX3; have yz0 := (hSw.cell (lt_of_cell z0)).trans z0;  go_simp⟩) hS0 ?_
        try simp only [Act.put, List.setIfInBounds_toArray, List.set_cons_zero, List.set_cons_succ]
        refine wpAnyH_take (i := 4) (oi := opDn4) (v := .bool false) rfl (by kernel_rfl) (by kernel_rfl) (by kernel_rfl) (fun _ _ _ h => h) (Or.inl ⟨by rfl, by intro w2 hSw; (try dsimp only at hSw); have yX0 := (hSw.cell (lt_of_cell zX0)).trans zX0; have yX1 := (hSw.cell (lt_of_cell zX1)).trans zX1; have yX2 := (hSw.cell (lt_of_cell zX2)).trans zX2; have yX3 := (hSw.cell (lt_of_cell zX3)).trans zX3; have yz0 := (hSw.cell (lt_of_cell z0)).trans z0;  go_simp⟩) hS0 ?_
        try simp only [Act.put, List.setIfInBounds_toArray, List.set_cons_zero, List.set_cons_succ]
        refine wpAnyH_take (i := 5) (oi := opDn5) (v := .bool false) rfl (by kernel_rfl) (by kernel_rfl) (by kernel_rfl) (fun _ _ _ h => h) (Or.inl ⟨by rfl, by intro w2 hSw; (try dsimp only at hSw); have yX0 := (hSw.cell (lt_of_cell zX0)).trans zX0; have yX1 := (hSw.cell (lt_of_cell zX1)).trans zX1; have yX2 := (hSw.cell (lt_of_cell zX2)).trans zX2; have yX3 := (hSw.cell (lt_of_cell zX3)).trans zX3; have yz0 := (hSw.cell (lt_of_cell z0)).trans z0;  go_simp⟩) hS0 ?_
        try simp only [Act.put, List.setIfInBounds_toArray, List.set_cons_zero, List.set_cons_succ]
        refine wpAnyH_take (i := 6) (oi := opDn6) (v := .slice (some ⟨bz, oz, none⟩) cn cc) rfl (by kernel_rfl) (by kernel_rfl) (by kernel_rfl) (fun _ _ _ h => h) (Or.inl ⟨by rfl, by intro w2 hSw; (try dsimp only at hSw); have yX0 := (hSw.cell (lt_of_cell zX0)).trans zX0; have yX1 := (hSw.cell (lt_of_cell zX1)).trans zX1; have yX2 := (hSw.cell (lt_of_cell zX2)).trans zX2; have yX3 := (hSw.cell (lt_of_cell zX3)).trans zX3; have yz0 := (hSw.cell (lt_of_cell z0)).trans z0;  go_simp⟩) hS0 ?_
        try simp only [Act.put, List.setIfInBounds_toArray, List.set_cons_zero, List.set_cons_succ]
        refine wpAnyH_take (i := 7) (oi := opDn7) (v := .int .i64 (k : Int)) rfl (by kernel_rfl) (by kernel_rfl) (by kernel_rfl) (fun _ _ _ h => h) (Or.inl ⟨by rfl, by intro w2 hSw; (try dsimp only at hSw); have yX0 := (hSw.cell (lt_of_cell zX0)).trans zX0; have yX1 := (hSw.cell (lt_of_cell zX1)).trans zX1; have yX2 := (hSw.cell (lt_of_cell zX2)).trans zX2; have yX3 := (hSw.cell (lt_of_cell zX3)).trans zX3; have yz0 := (hSw.cell (lt_of_cell z0)).trans z0;  go_simp⟩) hS0 ?_
        try simp only [Act.put, List.setIfInBounds_toArray, List.set_cons_zero, List.set_cons_succ]
        refine wpAnyH_take (i := 8) (oi := opDn8) (v := .pointer (some ⟨bz, oz + k, none⟩)) rfl (by kernel_rfl) (by kernel_rfl) (by kernel_rfl) (fun _ _ _ h => h) (Or.inl ⟨by rfl, by intro w2 hSw; (try dsimp only at hSw); have yX0 := (hSw.cell (lt_of_cell zX0)).trans zX0; have yX1 := (hSw.cell (lt_of_cell zX1)).trans zX1; have yX2 := (hSw.cell (lt_of_cell zX2)).trans zX2; have yX3 := (hSw.cell (lt_of_cell zX3)).trans zX3; have yz0 := (hSw.cell (lt_of_cell z0)).trans z0;  go_simp⟩) hS0 ?_
        try simp only [Act.put, List.setIfInBounds_toArray, List.set_cons_zero, List.set_cons_succ]
        refine wpAnyH_take (i := 9) (oi := opDn9) (v := .int .i64 x) rfl (by kernel_rfl) (by kernel_rfl) (by kernel_rfl) (fun _ _ _ h => h) (Or.inl ⟨by rfl, by intro w2 hSw; (try dsimp only at hSw); have yX0 := (hSw.cell (lt_of_cell zX0)).trans zX0; have yX1 := (hSw.cell (lt_of_cell zX1)).trans zX1; have yX2 := (hSw.cell (lt_of_cell zX2)).trans zX2; have yX3 := (hSw.cell (lt_of_cell zX3)).trans zX3; have yz0 := (hSw.cell (lt_of_cell z0)).trans z0;  go_simp⟩) hS0 ?_
        try simp only [Act.put, List.setIfInBounds_toArray, List.set_cons_zero, List.set_cons_succ]
        refine wpAnyH_take (i := 10) (oi := opDn10) (v := .pointer (some ⟨R, 0, none⟩)) rfl (by kernel_rfl) (by kernel_rfl) (by kernel_rfl) (fun _ _ _ h => h) (Or.inl ⟨by rfl, by intro w2 hSw; (try dsimp only at hSw); have yX0 := (hSw.cell (lt_of_cell zX0)).trans zX0; have yX1 := (hSw.cell (lt_of_cell zX1)).trans zX1; have yX2 := (hSw.cell (lt_of_cell zX2)).trans zX2; have yX3 := (hSw.cell (lt_of_cell zX3)).trans zX3; have yz0 := (hSw.cell (lt_of_cell z0)).trans z0;  go_simp⟩) hS0 ?_
        try simp only [Act.put, List.setIfInBounds_toArray, List.set_cons_zero, List.set_cons_succ]
        refine wpAnyH_take (i := 11) (oi := opDn11) (v := .int .i64 l.N) rfl (by kernel_rfl) (by kernel_rfl) (by kernel_rfl) (fun _ _ _ h => h) (Or.inl ⟨by rfl, by intro w2 hSw; (try dsimp only at hSw); have yX0 := (hSw.cell (lt_of_cell zX0)).trans zX0; have yX1 := (hSw.cell (lt_of_cell zX1)).trans zX1; have yX2 := (hSw.cell (lt_of_cell zX2)).trans zX2; have yX3 := (hSw.cell (lt_of_cell zX3)).trans zX3; have yz0 := (hSw.cell (lt_of_cell z0)).trans z0;  go_simp⟩) hS0 ?_
        try simp only [Act.put, List.setIfInBounds_toArray, List.set_cons_zero, List.set_cons_succ]
        refine wpAnyH_take (i := 12) (oi := opDn12) (v := .bool true) rfl (by kernel_rfl) (by kernel_rfl) (by kernel_rfl) (fun _ _ _ h => h) (Or.inl ⟨by rfl, by intro w2 hSw; (try dsimp only at hSw); have yX0 := (hSw.cell (lt_of_cell zX0)).trans zX0; have yX1 := (hSw.cell (lt_of_cell zX1)).trans zX1; have yX2 := (hSw.cell (lt_of_cell zX2)).trans zX2; have yX3 := (hSw.cell (lt_of_cell zX3)).trans zX3; have yz0 := (hSw.cell (lt_of_cell z0)).trans z0;  go_simp⟩) hS0 ?_
        try simp only [Act.put, List.setIfInBounds_toArray, List.set_cons_zero, List.set_cons_succ]
        refine wpAnyH_take (i := 13) (oi := opDn13) (v := .bool true) rfl (by kernel_rfl) (by kernel_rfl) (by kernel_rfl) (fun _ _ _ h => h) (Or.inl ⟨by rfl, by intro w2 hSw; (try dsimp only at hSw); have yX0 := (hSw.cell (lt_of_cell zX0)).trans zX0; have yX1 := (hSw.cell (lt_of_cell zX1)).trans zX1; have yX2 := (hSw.cell (lt_of_cell zX2)).trans zX2; have yX3 := (hSw.cell (lt_of_cell zX3)).trans zX3; have yz0 := (hSw.cell (lt_of_cell z0)).trans z0;  go_simp⟩) hS0 ?_
        try simp only [Act.put, List.setIfInBounds_toArray, List.set_cons_zero, List.set_cons_succ]
        refine wpAnyH_done (by kernel_rfl) ?_ _
        clear zX0 zX1 zX2 zX3 ltX z0
        obtain ⟨wkd, hwd⟩ : ∃ v, wk.drew = v := ⟨_, rfl⟩
        have hb := hS0
        rw [hwd] at hb ⊢
        clear hS0 hwd
        replace S := Lib.hid (S.out.below hb (Nat.le_refl _))
        replace SD := Lib.hid (SD.out.below hb (Nat.le_refl _))
        replace SC := Lib.hid (SC.out.below hb (Nat.le_refl _))
        replace X := Lib.hid ((hb.block _ (lt_of_block X.out)).trans X.out)
        replace B := Lib.hid (B.out.trans (hb.mono B.out.size))
        replace Q := Lib.hid (Q.out.trans (hb.mono Q.out.size))
        clear hb
        have hf := Lib.hid (show chkC l ds ch cn = 3 by rw [HE.out, if_pos (Hst.out (by have := HX.out; omega))])
        go_wp2_with fail
        go_ret
        exact ⟨by rw [hf.out] <;> rfl, B.out⟩
      have dc2 : decide (l.N ≤ x) = false := decide_eq_false c2
      have HX := Lib.hid (show inB 0 (l.N - 1) x = true by rw [inB_iff]; omega)
      clear c1 c2
      go_wp2_with fail
      refine wp_region_held_drew (S := fun w2 => Below wk.heap.size wk w2) (by kernel_rfl) (drew_b _ _) (fun hS0 => ?_)
      refine wpAnyH_take (i := 0) (oi := opDn0) (v := .slice (some ⟨bz, oz, none⟩) cn cc) rfl (by kernel_rfl) (by kernel_rfl) (by kernel_rfl) (fun _ _ _ h => h) (Or.inl ⟨by rfl, by intro w2 hSw; (try dsimp only at hSw); have yX0 := (hSw.cell (lt_of_cell zX0)).trans zX0; have yX1 := (hSw.cell (lt_of_cell zX1)).trans zX1; have yX2 := (hSw.cell (lt_of_cell zX2)).trans zX2; have yX3 := (hSw.cell (lt_of_cell zX3)).trans zX3; have yz0 := (hSw.cell (lt_of_cell z0)).trans z0;  go_simp⟩) hS0 ?_
      try simp only [Act.put, List.setIfInBounds_toArray, List.set_cons_zero, List.set_cons_succ]
      refine wpAnyH_take (i := 1) (oi := opDn1) (v := .int .i64 (k : Int)) rfl (by kernel_rfl) (by kernel_rfl) (by kernel_rfl) (fun _ _ _ h => h) (Or.inl ⟨by rfl, by intro w2 hSw; (try dsimp only at hSw); have yX0 := (hSw.cell (lt_of_cell zX0)).trans zX0; have yX1 := (hSw.cell (lt_of_cell zX1)).trans zX1; have yX2 := (hSw.cell (lt_of_cell zX2)).trans zX2; have yX3 := (hSw.cell (lt_of_cell zX3)).trans zX3; have yz0 := (hSw.cell (lt_of_cell z0)).trans z0;  go_simp⟩) hS0 ?_
      try simp only [Act.put, List.setIfInBounds_toArray, List.set_cons_zero, List.set_cons_succ]
      refine wpAnyH_take (i := 2) (oi := opDn2) (v := .pointer (some ⟨bz, oz + k, none⟩)) rfl (by kernel_rfl) (by kernel_rfl) (by kernel_rfl) (fun _ _ _ h => h) (Or.inl ⟨by rfl, by intro w2 hSw; (try dsimp only at hSw); have yX0 := (hSw.cell (lt_of_cell zX0)).trans zX0; have yX1 := (hSw.cell (lt_of_cell zX1)).trans zX1; have yX2 := (hSw.cell (lt_of_cell zX2)).trans zX2; have yX3 := (hSw.cell (lt_of_cell zX3)).trans zX3; have yz0 := (hSw.cell (lt_of_cell z0)).trans z0;  go_simp⟩) hS0 ?_
      try simp only [Act.put, List.setIfInBounds_toArray, List.set_cons_zero, List.set_cons_succ]
      refine wpAnyH_take (i := 3) (oi := opDn3) (v := .int .i64 x) rfl (by kernel_rfl) (by kernel_rfl) (by kernel_rfl) (fun _ _ _ h => h) (Or.inl ⟨by rfl, by intro w2 hSw; (try dsimp only at hSw); have yX0 := (hSw.cell (lt_of_cell zX0)).trans zX0; have yX1 := (hSw.cell (lt_of_cell zX1)).trans zX1; have yX2 := (hSw.cell (lt_of_cell zX2)).trans zX2; have yX3 := (hSw.cell (lt_of_cell zX3)).trans zX3; have yz0 := (hSw.cell (lt_of_cell z0)).trans z0;  go_simp⟩) hS0 ?_
      try simp only [Act.put, List.setIfInBounds_toArray, List.set_cons_zero, List.set_cons_succ]
      refine wpAnyH_take (i := 4) (oi := opDn4) (v := .bool false) rfl (by kernel_rfl) (by kernel_rfl) (by kernel_rfl) (fun _ _ _ h => h) (Or.inl ⟨by rfl, by intro w2 hSw; (try dsimp only at hSw); have yX0 := (hSw.cell (lt_of_cell zX0)).trans zX0; have yX1 := (hSw.cell (lt_of_cell zX1)).trans zX1; have yX2 := (hSw.cell (lt_of_cell zX2)).trans zX2; have yX3 := (hSw.cell (lt_of_cell zX3)).trans zX3; have yz0 := (hSw.cell (lt_of_cell z0)).trans z0;  go_simp⟩) hS0 ?_
      try simp only [Act.put, List.setIfInBounds_toArray, List.set_cons_zero, List.set_cons_succ]
      refine wpAnyH_take (i := 5) (oi := opDn5) (v := .bool false) rfl (by kernel_rfl) (by kernel_rfl) (by kernel_rfl) (fun _ _ _ h => h) (Or.inl ⟨by rfl, by intro w2 hSw; (try dsimp only at hSw); have yX0 := (hSw.cell (lt_of_cell zX0)).trans zX0; have yX1 := (hSw.cell (lt_of_cell zX1)).trans zX1; have yX2 := (hSw.cell (lt_of_cell zX2)).trans zX2; have yX3 := (hSw.cell (lt_of_cell zX3)).trans zX3; have yz0 := (hSw.cell (lt_of_cell z0)).trans z0;  go_simp⟩) hS0 ?_
      try simp only [Act.put, List.setIfInBounds_toArray, List.set_cons_zero, List.set_cons_succ]
      refine wpAnyH_take (i := 6) (oi := opDn6) (v := .slice (some ⟨bz, oz, none⟩) cn cc) rfl (by kernel_rfl) (by kernel_rfl) (by kernel_rfl) (fun _ _ _ h => h) (Or.inl ⟨by rfl, by intro w2 hSw; (try dsimp only at hSw); have yX0 := (hSw.cell (lt_of_cell zX0)).trans zX0; have yX1 := (hSw.cell (lt_of_cell zX1)).trans zX1; have yX2 := (hSw.cell (lt_of_cell zX2)).trans zX2; have yX3 := (hSw.cell (lt_of_cell zX3)).trans zX3; have yz0 := (hSw.cell (lt_of_cell z0)).trans z0;  go_simp⟩) hS0 ?_
      try simp only [Act.put, List.setIfInBounds_toArray, List.set_cons_zero, List.set_cons_succ]
      refine wpAnyH_take (i := 7) (oi := opDn7) (v := .int .i64 (k : Int)) rfl (by kernel_rfl) (by kernel_rfl) (by kernel_rfl) (fun _ _ _ h => h) (Or.inl ⟨by rfl, by intro w2 hSw; (try dsimp only at hSw); have yX0 := (hSw.cell (lt_of_cell zX0)).trans zX0; have yX1 := (hSw.cell (lt_of_cell zX1)).trans zX1; have yX2 := (hSw.cell (lt_of_cell zX2)).trans zX2; have yX3 := (hSw.cell (lt_of_cell zX3)).trans zX3; have yz0 := (hSw.cell (lt_of_cell z0)).trans z0;  go_simp⟩) hS0 ?_
      try simp only [Act.put, List.setIfInBounds_toArray, List.set_cons_zero, List.set_cons_succ]
      refine wpAnyH_take (i := 8) (oi := opDn8) (v := .pointer (some ⟨bz, oz + k, none⟩)) rfl (by kernel_rfl) (by kernel_rfl) (by kernel_rfl) (fun _ _ _ h => h) (Or.inl ⟨by rfl, by intro w2 hSw; (try dsimp only at hSw); have yX0 := (hSw.cell (lt_of_cell zX0)).trans zX0; have yX1 := (hSw.cell (lt_of_cell zX1)).trans zX1; have yX2 := (hSw.cell (lt_of_cell zX2)).trans zX2; have yX3 := (hSw.cell (lt_of_cell zX3)).trans zX3; have yz0 := (hSw.cell (lt_of_cell z0)).trans z0;  go_simp⟩) hS0 ?_
      try simp only [Act.put, List.setIfInBounds_toArray, List.set_cons_zero, List.set_cons_succ]
      refine wpAnyH_take (i := 9) (oi := opDn9) (v := .int .i64 x) rfl (by kernel_rfl) (by kernel_rfl) (by kernel_rfl) (fun _ _ _ h => h) (Or.inl ⟨by rfl, by intro w2 hSw; (try dsimp only at hSw); have yX0 := (hSw.cell (lt_of_cell zX0)).trans zX0; have yX1 := (hSw.cell (lt_of_cell zX1)).trans zX1; have yX2 := (hSw.cell (lt_of_cell zX2)).trans zX2; have yX3 := (hSw.cell (lt_of_cell zX3)).trans zX3; have yz0 := (hSw.cell (lt_of_cell z0)).trans z0;  go_simp⟩) hS0 ?_
      try simp only [Act.put, List.setIfInBounds_toArray, List.set_cons_zero, List.set_cons_succ]
      refine wpAnyH_take (i := 10) (oi := opDn10) (v := .pointer (some ⟨R, 0, none⟩)) rfl (by kernel_rfl) (by kernel_rfl) (by kernel_rfl) (fun _ _ _ h => h) (Or.inl ⟨by rfl, by intro w2 hSw; (try dsimp only at hSw); have yX0 := (hSw.cell (lt_of_cell zX0)).trans zX0; have yX1 := (hSw.cell (lt_of_cell zX1)).trans zX1; have yX2 := (hSw.cell (lt_of_cell zX2)).trans zX2; have yX3 := (hSw.cell (lt_of_cell zX3)).trans zX3; have yz0 := (hSw.cell (lt_of_cell z0)).trans z0;  go_simp⟩) hS0 ?_
      try simp only [Act.put, List.setIfInBounds_toArray, List.set_cons_zero, List.set_cons_succ]
      refine wpAnyH_take (i := 11) (oi := opDn11) (v := .int .i64 l.N) rfl (by kernel_rfl) (by kernel_rfl) (by kernel_rfl) (fun _ _ _ h => h) (Or.inl ⟨by rfl, by intro w2 hSw; (try dsimp only at hSw); have yX0 := (hSw.cell (lt_of_cell zX0)).trans zX0; have yX1 := (hSw.cell (lt_of_cell zX1)).trans zX1; have yX2 := (hSw.cell (lt_of_cell zX2)).trans zX2; have yX3 := (hSw.cell (lt_of_cell zX3)).trans zX3; have yz0 := (hSw.cell (lt_of_cell z0)).trans z0;  go_simp⟩) hS0 ?_
      try simp only [Act.put, List.setIfInBounds_toArray, List.set_cons_zero, List.set_cons_succ]
      refine wpAnyH_take (i := 12) (oi := opDn12) (v := .bool false) rfl (by kernel_rfl) (by kernel_rfl) (by kernel_rfl) (fun _ _ _ h => h) (Or.inl ⟨by rfl, by intro w2 hSw; (try dsimp only at hSw); have yX0 := (hSw.cell (lt_of_cell zX0)).trans zX0; have yX1 := (hSw.cell (lt_of_cell zX1)).trans zX1; have yX2 := (hSw.cell (lt_of_cell zX2)).trans zX2; have yX3 := (hSw.cell (lt_of_cell zX3)).trans zX3; have yz0 := (hSw.cell (lt_of_cell z0)).trans z0;  go_simp⟩) hS0 ?_
      try simp only [Act.put, List.setIfInBounds_toArray, List.set_cons_zero, List.set_cons_succ]
      refine wpAnyH_take (i := 13) (oi := opDn13) (v := .bool false) rfl (by kernel_rfl) (by kernel_rfl) (by kernel_rfl) (fun _ _ _ h => h) (Or.inl ⟨by rfl, by intro w2 hSw; (try dsimp only at hSw); have yX0 := (hSw.cell (lt_of_cell zX0)).trans zX0; have yX1 := (hSw.cell (lt_of_cell zX1)).trans zX1; have yX2 := (hSw.cell (lt_of_cell zX2)).trans zX2; have yX3 := (hSw.cell (lt_of_cell zX3)).trans zX3; have yz0 := (hSw.cell (lt_of_cell z0)).trans z0;  go_simp⟩) hS0 ?_
      try simp only [Act.put, List.setIfInBounds_toArray, List.set_cons_zero, List.set_cons_succ]
      refine wpAnyH_done (by kernel_rfl) ?_ _
      clear zX0 zX1 zX2 zX3 ltX z0
      obtain ⟨wkd, hwd⟩ : ∃ v, wk.drew = v := ⟨_, rfl⟩
      have hb := hS0
      rw [hwd] at hb ⊢
      clear hS0 hwd
      replace S := Lib.hid (S.out.below hb (Nat.le_refl _))
      replace SD := Lib.hid (SD.out.below hb (Nat.le_refl _))
      replace SC := Lib.hid (SC.out.below hb (Nat.le_refl _))
      replace X := Lib.hid ((hb.block _ (lt_of_block X.out)).trans X.out)
      replace B := Lib.hid (B.out.trans (hb.mono B.out.size))
      replace Q := Lib.hid (Q.out.trans (hb.mono Q.out.size))
      clear hb
      go_wp2_with fail
      go_roundw
      case rel => exact ⟨k + 1, by omega, by go_num, Lib.hid (by rw [Hs.out, HT.out, HX.out]; rfl), Q⟩
      case measure => simp [intOf]; omega
    · obtain rfl : k = cn := by omega
      have hall := HT.out
      rw [List.take_of_length_le (by rw [SC.out.1]; exact Nat.le_refl _)] at hall
      replace HE := Lib.hid (show chkC l ds ch k = if isCh ⟨0, 0, 0, l, dropF l.zs ds⟩ (fun _ => 0) ch k = true then 0 else 14 by rw [HE.out, if_neg (by rw [hall]; decide)])
      rw [HI.out] at HE
      clear hall HI HT Q HBl
      have ltX : R < wk.heap.size := lt_of_block X.out
      have zX0 : wk.cell? ⟨R, 0, none⟩ = some (.int .i64 l.N) := by rw [cell_row X.out]; rfl
      have zX1 : wk.cell? ⟨R, 1, none⟩ = some (.slice l.A l.n l.cap) := by rw [cell_row X.out]; rfl
      have zX2 : wk.cell? ⟨R, 2, none⟩ = some (.slice l.LA l.ln l.lc) := by rw [cell_row X.out]; rfl
      have zX3 : wk.cell? ⟨R, 3, none⟩ = some (.slice l.RA l.rn l.rc) := by rw [cell_row X.out]; rfl
      go_wp2_with fail
      clear zX0 zX1 zX2 zX3 ltX
      go_loopw [8] (fun i wr => ∃ q : Nat, q + 1 ≤ k ∧ i = .int .i64 ((q : Int) + 1) ∧ Hid (lkC l ds ch q = true) ∧ Hid (Below wk.heap.size wk wr)) (fun i _ => k - (intOf i).toNat)
      case atStart => exact ⟨0, by omega, rfl, Lib.hid rfl, Lib.hid (Below.refl _ _)⟩
      case round =>
        obtain ⟨q, hq9, rfl, HT, HBl⟩ := hrel
        obtain ⟨wq, rfl⟩ : ∃ wk, wk = wr := ⟨_, rfl⟩
        have hb := HBl.out
        have Q := HBl
        replace S := Lib.hid (S.out.below hb (Nat.le_refl _))
        replace SD := Lib.hid (SD.out.below hb (Nat.le_refl _))
        replace SC := Lib.hid (SC.out.below hb (Nat.le_refl _))
        replace X := Lib.hid ((hb.block _ (lt_of_block X.out)).trans X.out)
        replace B := Lib.hid (B.out.trans (hb.mono B.out.size))
        clear hb
        obtain ⟨bz, oz, rfl, hcz⟩ := SC.out.2 (by omega)
        by_cases hlt2 : q + 1 < k
        · have z0 := hcz q (by omega)
          have z1 := hcz (q + 1) (by omega)
          have Hs := Lib.hid (lkC_succ l ds ch q)
          have Hno := Lib.hid (fun e => lkC_no (l := l) (ds := ds) (ch := ch) (k := q) (n := k - 1) e (by omega))
          obtain ⟨x, hx⟩ : ∃ x, iAt ch q = x := ⟨_, rfl⟩
          obtain ⟨y, hy⟩ : ∃ x, iAt ch (q + 1) = x := ⟨_, rfl⟩
          rw [hx] at z0
          rw [hy] at z1
          rw [hx, hy] at Hs Hno
          obtain ⟨j, hj⟩ : ∃ v, lnkK l.zs ds x y l.n = v := ⟨_, rfl⟩
          rw [hj] at Hs Hno
          have HJ := Lib.hid hj
          have i0 : (0 : Int) ≤ (q : Int) := by omega
          have i1 : (q : Int) < (k : Int) := by omega
          have i3 : (0 : Int) ≤ (q : Int) + 1 := by omega
          have i4 : (q : Int) + 1 < (k : Int) := by omega
          have i5 : (k : Int) ≤ 40 := by omega
          have hw1 : IntKind.i64.wrap ((q : Int) + 1 - 1) = (q : Int) := by rw [show (q : Int) + 1 - 1 = (q : Int) by omega]; exact IntWalk.i64_in _ (by omega)
          have hw2 : IntKind.i64.wrap (q : Int) = (q : Int) := IntWalk.i64_in _ (by omega)
          have hw3 : IntKind.i64.wrap ((q : Int) + 1 + 1) = (q : Int) + 1 + 1 := IntWalk.i64_in _ (by omega)
          have hw4 : ((q : Int) + 1).toNat = q + 1 := by omega
          have hw5 : ¬ ((q : Int) + 1 < 0) := by omega
          clear hcz hx hy hj
          have ltX : R < wq.heap.size := lt_of_block X.out
          have zX0 : wq.cell? ⟨R, 0, none⟩ = some (.int .i64 l.N) := by rw [cell_row X.out]; rfl
          have zX1 : wq.cell? ⟨R, 1, none⟩ = some (.slice l.A l.n l.cap) := by rw [cell_row X.out]; rfl
          have zX2 : wq.cell? ⟨R, 2, none⟩ = some (.slice l.LA l.ln l.lc) := by rw [cell_row X.out]; rfl
          have zX3 : wq.cell? ⟨R, 3, none⟩ = some (.slice l.RA l.rn l.rc) := by rw [cell_row X.out]; rfl
          go_wp2_with fail
          refine wp_region_held_drew (S := fun w2 => Below wq.heap.size wq w2) (by kernel_rfl) (drew_b _ _) (fun hS0 => ?_)
          refine wpAnyH_take (i := 0) (oi := { dst := some 50, op := Go.Op.load 25 (Go.Operand.tmp 3), type := 25, pos := "ref.go:147", after := #[], guard := none }) (v := .agg #[.int .i64 l.N, .slice l.A l.n l.cap, .slice l.LA l.ln l.lc, .slice l.RA l.rn l.rc]) rfl (by kernel_rfl) (by kernel_rfl) (by kernel_rfl) (fun _ _ _ h => h) (Or.inl ⟨by rfl, by intro w2 hSw; (try dsimp only at hSw); have yX0 := (hSw.cell (lt_of_cell zX0)).trans zX0; have yX1 := (hSw.cell (lt_of_cell zX1)).trans zX1; have yX2 := (hSw.cell (lt_of_cell zX2)).trans zX2; have yX3 := (hSw.cell (lt_of_cell zX3)).trans zX3; have yz0 := (hSw.cell (lt_of_cell z0)).trans z0; have yz1 := (hSw.cell (lt_of_cell z1)).trans z1;  go_simp⟩) hS0 ?_
          try simp only [Act.put, List.setIfInBounds_toArray, List.set_cons_zero, List.set_cons_succ]
          refine wpAnyH_take (i := 1) (oi := { dst := some 51, op := Go.Op.move (Go.Operand.tmp 1), type := 23, pos := "ref.go:147", after := #[], guard := none }) (v := .slice DA dn dc) rfl (by kernel_rfl) (by kernel_rfl) (by kernel_rfl) (fun _ _ _ h => h) (Or.inl ⟨by rfl, by intro w2 hSw; (try dsimp only at hSw); have yX0 := (hSw.cell (lt_of_cell zX0)).trans zX0; have yX1 := (hSw.cell (lt_of_cell zX1)).trans zX1; have yX2 := (hSw.cell (lt_of_cell zX2)).trans zX2; have yX3 := (hSw.cell (lt_of_cell zX3)).trans zX3; have yz0 := (hSw.cell (lt_of_cell z0)).trans z0; have yz1 := (hSw.cell (lt_of_cell z1)).trans z1;  go_simp⟩) hS0 ?_
          try simp only [Act.put, List.setIfInBounds_toArray, List.set_cons_zero, List.set_cons_succ]
          refine wpAnyH_take (i := 2) (oi := { dst := some 52, op := Go.Op.move (Go.Operand.tmp 2), type := 23, pos := "ref.go:147", after := #[], guard := none }) (v := .slice (some ⟨bz, oz, none⟩) k cc) rfl (by kernel_rfl) (by kernel_rfl) (by kernel_rfl) (fun _ _ _ h => h) (Or.inl ⟨by rfl, by intro w2 hSw; (try dsimp only at hSw); have yX0 := (hSw.cell (lt_of_cell zX0)).trans zX0; have yX1 := (hSw.cell (lt_of_cell zX1)).trans zX1; have yX2 := (hSw.cell (lt_of_cell zX2)).trans zX2; have yX3 := (hSw.cell (lt_of_cell zX3)).trans zX3; have yz0 := (hSw.cell (lt_of_cell z0)).trans z0; have yz1 := (hSw.cell (lt_of_cell z1)).trans z1;  go_simp⟩) hS0 ?_
          try simp only [Act.put, List.setIfInBounds_toArray, List.set_cons_zero, List.set_cons_succ]
          refine wpAnyH_take (i := 3) (oi := { dst := some 53, op := Go.Op.move (Go.Operand.tmp 8), type := 3, pos := "ref.go:147", after := #[], guard := none }) (v := .int .i64 ((q : Int) + 1)) rfl (by kernel_rfl) (by kernel_rfl) (by kernel_rfl) (fun _ _ _ h => h) (Or.inl ⟨by rfl, by intro w2 hSw; (try dsimp only at hSw); have yX0 := (hSw.cell (lt_of_cell zX0)).trans zX0; have yX1 := (hSw.cell (lt_of_cell zX1)).trans zX1; have yX2 := (hSw.cell (lt_of_cell zX2)).trans zX2; have yX3 := (hSw.cell (lt_of_cell zX3)).trans zX3; have yz0 := (hSw.cell (lt_of_cell z0)).trans z0; have yz1 := (hSw.cell (lt_of_cell z1)).trans z1;  go_simp⟩) hS0 ?_
          try simp only [Act.put, List.setIfInBounds_toArray, List.set_cons_zero, List.set_cons_succ]
          refine wpAnyH_take (i := 4) (oi := { dst := some 54, op := Go.Op.binOp Go.BinOp.sub 3 (Go.Operand.tmp 53) (Go.Operand.const (Go.Value.int Go.IntKind.i64 1)) 3, type := 3, pos := "ref.go:147", after := #[{ on := 3, ground := Go.Ground.data }], guard := none }) (v := .int .i64 (q : Int)) rfl (by kernel_rfl) (by kernel_rfl) (by kernel_rfl) (fun _ _ _ h => h) (Or.inl ⟨by rfl, by intro w2 hSw; (try dsimp only at hSw); have yX0 := (hSw.cell (lt_of_cell zX0)).trans zX0; have yX1 := (hSw.cell (lt_of_cell zX1)).trans zX1; have yX2 := (hSw.cell (lt_of_cell zX2)).trans zX2; have yX3 := (hSw.cell (lt_of_cell zX3)).trans zX3; have yz0 := (hSw.cell (lt_of_cell z0)).trans z0; have yz1 := (hSw.cell (lt_of_cell z1)).trans z1;  go_simp⟩) hS0 ?_
          try simp only [Act.put, List.setIfInBounds_toArray, List.set_cons_zero, List.set_cons_succ]
          refine wpAnyH_take (i := 5) (oi := { dst := some 55, op := Go.Op.indexAddr 23 (Go.Operand.tmp 52) (Go.Operand.tmp 54), type := 0, pos := "ref.go:147", after := #[{ on := 2, ground := Go.Ground.data }, { on := 4, ground := Go.Ground.data }], guard := none }) (v := .pointer (some ⟨bz, oz + q, none⟩)) rfl (by kernel_rfl) (by kernel_rfl) (by kernel_rfl) (fun _ _ _ h => h) (Or.inl ⟨by rfl, by intro w2 hSw; (try dsimp only at hSw); have yX0 := (hSw.cell (lt_of_cell zX0)).trans zX0; have yX1 := (hSw.cell (lt_of_cell zX1)).trans zX1; have yX2 := (hSw.cell (lt_of_cell zX2)).trans zX2; have yX3 := (hSw.cell (lt_of_cell zX3)).trans zX3; have yz0 := (hSw.cell (lt_of_cell z0)).trans z0; have yz1 := (hSw.cell (lt_of_cell z1)).trans z1;  go_simp⟩) hS0 ?_
          try simp only [Act.put, List.setIfInBounds_toArray, List.set_cons_zero, List.set_cons_succ]
          refine wpAnyH_take (i := 6) (oi := { dst := some 56, op := Go.Op.load 3 (Go.Operand.tmp 55), type := 3, pos := "ref.go:147", after := #[{ on := 5, ground := Go.Ground.data }], guard := none }) (v := .int .i64 x) rfl (by kernel_rfl) (by kernel_rfl) (by kernel_rfl) (fun _ _ _ h => h) (Or.inl ⟨by rfl, by intro w2 hSw; (try dsimp only at hSw); have yX0 := (hSw.cell (lt_of_cell zX0)).trans zX0; have yX1 := (hSw.cell (lt_of_cell zX1)).trans zX1; have yX2 := (hSw.cell (lt_of_cell zX2)).trans zX2; have yX3 := (hSw.cell (lt_of_cell zX3)).trans zX3; have yz0 := (hSw.cell (lt_of_cell z0)).trans z0; have yz1 := (hSw.cell (lt_of_cell z1)).trans z1;  go_simp⟩) hS0 ?_
          try simp only [Act.put, List.setIfInBounds_toArray, List.set_cons_zero, List.set_cons_succ]
          refine wpAnyH_take (i := 7) (oi := { dst := some 57, op := Go.Op.move (Go.Operand.tmp 2), type := 23, pos := "ref.go:147", after := #[], guard := none }) (v := .slice (some ⟨bz, oz, none⟩) k cc) rfl (by kernel_rfl) (by kernel_rfl) (by kernel_rfl) (fun _ _ _ h => h) (Or.inl ⟨by rfl, by intro w2 hSw; (try dsimp only at hSw); have yX0 := (hSw.cell (lt_of_cell zX0)).trans zX0; have yX1 := (hSw.cell (lt_of_cell zX1)).trans zX1; have yX2 := (hSw.cell (lt_of_cell zX2)).trans zX2; have yX3 := (hSw.cell (lt_of_cell zX3)).trans zX3; have yz0 := (hSw.cell (lt_of_cell z0)).trans z0; have yz1 := (hSw.cell (lt_of_cell z1)).trans z1;  go_simp⟩) hS0 ?_
          try simp only [Act.put, List.setIfInBounds_toArray, List.set_cons_zero, List.set_cons_succ]
          refine wpAnyH_take (i := 8) (oi := { dst := some 58, op := Go.Op.move (Go.Operand.tmp 8), type := 3, pos := "ref.go:147", after := #[], guard := none }) (v := .int .i64 ((q : Int) + 1)) rfl (by kernel_rfl) (by kernel_rfl) (by kernel_rfl) (fun _ _ _ h => h) (Or.inl ⟨by rfl, by intro w2 hSw; (try dsimp only at hSw); have yX0 := (hSw.cell (lt_of_cell zX0)).trans zX0; have yX1 := (hSw.cell (lt_of_cell zX1)).trans zX1; have yX2 := (hSw.cell (lt_of_cell zX2)).trans zX2; have yX3 := (hSw.cell (lt_of_cell zX3)).trans zX3; have yz0 := (hSw.cell (lt_of_cell z0)).trans z0; have yz1 := (hSw.cell (lt_of_cell z1)).trans z1;  go_simp⟩) hS0 ?_
          try simp only [Act.put, List.setIfInBounds_toArray, List.set_cons_zero, List.set_cons_succ]
          refine wpAnyH_take (i := 9) (oi := { dst := some 59, op := Go.Op.indexAddr 23 (Go.Operand.tmp 57) (Go.Operand.tmp 58), type := 0, pos := "ref.go:147", after := #[{ on := 7, ground := Go.Ground.data }, { on := 8, ground := Go.Ground.data }], guard := none }) (v := .pointer (some ⟨bz, oz + (q + 1), none⟩)) rfl (by kernel_rfl) (by kernel_rfl) (by kernel_rfl) (fun _ _ _ h => h) (Or.inl ⟨by rfl, by intro w2 hSw; (try dsimp only at hSw); have yX0 := (hSw.cell (lt_of_cell zX0)).trans zX0; have yX1 := (hSw.cell (lt_of_cell zX1)).trans zX1; have yX2 := (hSw.cell (lt_of_cell zX2)).trans zX2; have yX3 := (hSw.cell (lt_of_cell zX3)).trans zX3; have yz0 := (hSw.cell (lt_of_cell z0)).trans z0; have yz1 := (hSw.cell (lt_of_cell z1)).trans z1;  go_simp⟩) hS0 ?_
          try simp only [Act.put, List.setIfInBounds_toArray, List.set_cons_zero, List.set_cons_succ]
          refine wpAnyH_take (i := 10) (oi := { dst := some 60, op := Go.Op.load 3 (Go.Operand.tmp 59), type := 3, pos := "ref.go:147", after := #[{ on := 9, ground := Go.Ground.data }], guard := none }) (v := .int .i64 y) rfl (by kernel_rfl) (by kernel_rfl) (by kernel_rfl) (fun _ _ _ h => h) (Or.inl ⟨by rfl, by intro w2 hSw; (try dsimp only at hSw); have yX0 := (hSw.cell (lt_of_cell zX0)).trans zX0; have yX1 := (hSw.cell (lt_of_cell zX1)).trans zX1; have yX2 := (hSw.cell (lt_of_cell zX2)).trans zX2; have yX3 := (hSw.cell (lt_of_cell zX3)).trans zX3; have yz0 := (hSw.cell (lt_of_cell z0)).trans z0; have yz1 := (hSw.cell (lt_of_cell z1)).trans z1;  go_simp⟩) hS0 ?_
          try simp only [Act.put, List.setIfInBounds_toArray, List.set_cons_zero, List.set_cons_succ]
          refine wpAnyH_ready (rs := [11]) (by kernel_rfl) (by simp) ?_
          refine AllReadyH.cons (o := { dst := some 61, op := Go.Op.call { callee := Go.Callee.value (Go.Operand.func 52), args := #[Go.Operand.tmp 50, Go.Operand.tmp 51, Go.Operand.tmp 56, Go.Operand.tmp 60], argTypes := #[25, 23, 3, 3] }, type := 4, pos := "ref.go:147", after := #[{ on := 0, ground := Go.Ground.data }, { on := 1, ground := Go.Ground.data }, { on := 6, ground := Go.Ground.data }, { on := 10, ground := Go.Ground.data }], guard := none }) rfl (fun K2 hK => ?_) AllReadyH.nil
          go_simp
          refine (linked52 l DA dn dc ds x y _ (S.out.below hS0 (Nat.le_refl _)) (SD.out.below hS0 (Nat.le_refl _)) hd6 Hn12.out).mono ?_
          rintro e9 wqv1 ⟨rfl, hb9⟩
          rw [HJ.out]
          (try go_simp)
          refine hK.out _ _ (hS0.trans (hb9.mono hS0.size)) (fun hS1 => ?_)
          clear hK K2 hb9
          try simp only [Act.put, List.setIfInBounds_toArray, List.set_cons_zero, List.set_cons_succ]
          refine wpAnyH_take (i := 12) (oi := { dst := some 62, op := Go.Op.unOp Go.UnOp.not 4 (Go.Operand.tmp 61), type := 4, pos := "ref.go:147", after := #[{ on := 11, ground := Go.Ground.data }], guard := none }) (v := .bool (!j)) rfl (by kernel_rfl) (by kernel_rfl) (by kernel_rfl) (fun _ _ _ h => h) (Or.inl ⟨by rfl, by intro w2 hSw; (try dsimp only at hSw); have yX0 := (hSw.cell (lt_of_cell zX0)).trans zX0; have yX1 := (hSw.cell (lt_of_cell zX1)).trans zX1; have yX2 := (hSw.cell (lt_of_cell zX2)).trans zX2; have yX3 := (hSw.cell (lt_of_cell zX3)).trans zX3; have yz0 := (hSw.cell (lt_of_cell z0)).trans z0; have yz1 := (hSw.cell (lt_of_cell z1)).trans z1;  go_simp⟩) hS1 ?_
          try simp only [Act.put, List.setIfInBounds_toArray, List.set_cons_zero, List.set_cons_succ]
          refine wpAnyH_done (by kernel_rfl) ?_ _
          clear zX0 zX1 zX2 zX3 ltX z0 z1
          have hb := hS1
          clear hS0 hS1
          replace S := Lib.hid (S.out.below hb (Nat.le_refl _))
          replace SD := Lib.hid (SD.out.below hb (Nat.le_refl _))
          replace SC := Lib.hid (SC.out.below hb (Nat.le_refl _))
          replace X := Lib.hid ((hb.block _ (lt_of_block X.out)).trans X.out)
          replace B := Lib.hid (B.out.trans (hb.mono B.out.size))
          replace Q := Lib.hid (Q.out.trans (hb.mono Q.out.size))
          clear hb
          rcases j with _ | _
          · have hf := Lib.hid (show chkC l ds ch k = 14 by rw [HE.out, Hno.out rfl, Bool.and_false]; rfl)
            go_wp2_with fail
            go_ret
            exact ⟨by rw [hf.out] <;> rfl, B.out⟩
          · go_wp2_with fail
            go_roundw
            case rel => exact ⟨q + 1, by omega, (by first | go_num | simp), Lib.hid (by rw [Hs.out, HT.out]; rfl), Q⟩
            case measure => simp [intOf]; omega
        · have hqk : q = k - 1 := by omega
          have hl := HT.out
          rw [hqk] at hl
          replace HE := Lib.hid (show chkC l ds ch k = if (decide (iAt ch 0 ∈ l.ls) && decide (iAt ch (k - 1) ∈ l.rs)) = true then 0 else 14 by rw [HE.out, hl, Bool.and_true])
          have z0 : wq.cell? ⟨bz, oz, none⟩ = some (.int .i64 (iAt ch 0)) := hcz 0 (by omega)
          have z1 := hcz (k - 1) (by omega)
          obtain ⟨j1, hj1⟩ : ∃ v, decide (iAt ch 0 ∈ l.ls) = v := ⟨_, rfl⟩
          obtain ⟨j2, hj2⟩ : ∃ v, decide (iAt ch (k - 1) ∈ l.rs) = v := ⟨_, rfl⟩
          rw [hj1, hj2] at HE
          have J1 := Lib.hid hj1
          have J2 := Lib.hid hj2
          have hwn : IntKind.i64.wrap ((k : Int) - 1) = (k : Int) - 1 := IntWalk.i64_in _ (by omega)
          have i0 : (0 : Int) ≤ (k : Int) - 1 := by omega
          have i1 : (k : Int) - 1 < (k : Int) := by omega
          have i2 : (0 : Int) < (k : Int) := by omega
          have ne0 : ¬ (k = 0) := by omega
          have lt1 : ¬ ((k : Int) < 1) := by omega
          have i3 : ((k : Int) - 1).toNat = k - 1 := by omega
          have i6 : ¬ ((q : Int) + 1 < (k : Int)) := by omega
          clear hcz hj1 hj2 hl HT
          have ltX : R < wq.heap.size := lt_of_block X.out
          have zX0 : wq.cell? ⟨R, 0, none⟩ = some (.int .i64 l.N) := by rw [cell_row X.out]; rfl
          have zX1 : wq.cell? ⟨R, 1, none⟩ = some (.slice l.A l.n l.cap) := by rw [cell_row X.out]; rfl
          have zX2 : wq.cell? ⟨R, 2, none⟩ = some (.slice l.LA l.ln l.lc) := by rw [cell_row X.out]; rfl
          have zX3 : wq.cell? ⟨R, 3, none⟩ = some (.slice l.RA l.rn l.rc) := by rw [cell_row X.out]; rfl
          go_wp2_with fail
          rcases j1 with _ | _
          · refine wp_region_held_drew (S := fun w2 => Below wq.heap.size wq w2) (by kernel_rfl) (drew_b _ _) (fun hS0 => ?_)
            refine wpAnyH_take (i := 0) (oi := opDn14) (v := .pointer (some ⟨R, 2, none⟩)) rfl (by kernel_rfl) (by kernel_rfl) (by kernel_rfl) (fun _ _ _ h => h) (Or.inl ⟨by rfl, by intro w2 hSw; (try dsimp only at hSw); have yX0 := (hSw.cell (lt_of_cell zX0)).trans zX0; have yX1 := (hSw.cell (lt_of_cell zX1)).trans zX1; have yX2 := (hSw.cell (lt_of_cell zX2)).trans zX2; have yX3 := (hSw.cell (lt_of_cell zX3)).trans zX3; have yz0 := (hSw.cell (lt_of_cell z0)).trans z0; have yz1 := (hSw.cell (lt_of_cell z1)).trans z1;  go_simp⟩) hS0 ?_
            try simp only [Act.put, List.setIfInBounds_toArray, List.set_cons_zero, List.set_cons_succ]
            refine wpAnyH_take (i := 1) (oi := opDn15) (v := .slice l.LA l.ln l.lc) rfl (by kernel_rfl) (by kernel_rfl) (by kernel_rfl) (fun _ _ _ h => h) (Or.inl ⟨by rfl, by intro w2 hSw; (try dsimp only at hSw); have yX0 := (hSw.cell (lt_of_cell zX0)).trans zX0; have yX1 := (hSw.cell (lt_of_cell zX1)).trans zX1; have yX2 := (hSw.cell (lt_of_cell zX2)).trans zX2; have yX3 := (hSw.cell (lt_of_cell zX3)).trans zX3; have yz0 := (hSw.cell (lt_of_cell z0)).trans z0; have yz1 := (hSw.cell (lt_of_cell z1)).trans z1;  go_simp⟩) hS0 ?_
            try simp only [Act.put, List.setIfInBounds_toArray, List.set_cons_zero, List.set_cons_succ]
            refine wpAnyH_take (i := 2) (oi := opDn16) (v := .slice (some ⟨bz, oz, none⟩) k cc) rfl (by kernel_rfl) (by kernel_rfl) (by kernel_rfl) (fun _ _ _ h => h) (Or.inl ⟨by rfl, by intro w2 hSw; (try dsimp only at hSw); have yX0 := (hSw.cell (lt_of_cell zX0)).trans zX0; have yX1 := (hSw.cell (lt_of_cell zX1)).trans zX1; have yX2 := (hSw.cell (lt_of_cell zX2)).trans zX2; have yX3 := (hSw.cell (lt_of_cell zX3)).trans zX3; have yz0 := (hSw.cell (lt_of_cell z0)).trans z0; have yz1 := (hSw.cell (lt_of_cell z1)).trans z1;  go_simp⟩) hS0 ?_
            try simp only [Act.put, List.setIfInBounds_toArray, List.set_cons_zero, List.set_cons_succ]
            refine wpAnyH_take (i := 3) (oi := opDn17) (v := .pointer (some ⟨bz, oz, none⟩)) rfl (by kernel_rfl) (by kernel_rfl) (by kernel_rfl) (fun _ _ _ h => h) (Or.inl ⟨by rfl, by intro w2 hSw; (try dsimp only at hSw); have yX0 := (hSw.cell (lt_of_cell zX0)).trans zX0; have yX1 := (hSw.cell (lt_of_cell zX1)).trans zX1; have yX2 := (hSw.cell (lt_of_cell zX2)).trans zX2; have yX3 := (hSw.cell (lt_of_cell zX3)).trans zX3; have yz0 := (hSw.cell (lt_of_cell z0)).trans z0; have yz1 := (hSw.cell (lt_of_cell z1)).trans z1;  go_simp⟩) hS0 ?_
            try simp only [Act.put, List.setIfInBounds_toArray, List.set_cons_zero, List.set_cons_succ]
            refine wpAnyH_take (i := 4) (oi := opDn18) (v := .int .i64 (iAt ch 0)) rfl (by kernel_rfl) (by kernel_rfl) (by kernel_rfl) (fun _ _ _ h => h) (Or.inl ⟨by rfl, by intro w2 hSw; (try dsimp only at hSw); have yX0 := (hSw.cell (lt_of_cell zX0)).trans zX0; have yX1 := (hSw.cell (lt_of_cell zX1)).trans zX1; have yX2 := (hSw.cell (lt_of_cell zX2)).trans zX2; have yX3 := (hSw.cell (lt_of_cell zX3)).trans zX3; have yz0 := (hSw.cell (lt_of_cell z0)).trans z0; have yz1 := (hSw.cell (lt_of_cell z1)).trans z1;  go_simp⟩) hS0 ?_
            try simp only [Act.put, List.setIfInBounds_toArray, List.set_cons_zero, List.set_cons_succ]
            refine wpAnyH_ready (rs := [5]) (by kernel_rfl) (by simp) ?_
            refine AllReadyH.cons (o := opDn19) rfl (fun K2 hK => ?_) AllReadyH.nil
            go_simp
            refine (in38 l.LA l.ln l.lc l.ls (iAt ch 0) _ (S.out.below hS0 (Nat.le_refl _)).ls S.out.l6).mono ?_
            rintro e9 wqv1 ⟨rfl, hb9⟩
            replace hb9 := below_eq hb9
            rw [J1.out]
            (try go_simp)
            refine hK.out _ _ (hS0.trans (hb9.mono hS0.size)) (fun hS1 => ?_)
            clear hK K2 hb9
            try simp only [Act.put, List.setIfInBounds_toArray, List.set_cons_zero, List.set_cons_succ]
            refine wpAnyH_take (i := 6) (oi := opDn20) (v := .bool true) rfl (by kernel_rfl) (by kernel_rfl) (by kernel_rfl) (fun _ _ _ h => h) (Or.inl ⟨by rfl, by intro w2 hSw; (try dsimp only at hSw); have yX0 := (hSw.cell (lt_of_cell zX0)).trans zX0; have yX1 := (hSw.cell (lt_of_cell zX1)).trans zX1; have yX2 := (hSw.cell (lt_of_cell zX2)).trans zX2; have yX3 := (hSw.cell (lt_of_cell zX3)).trans zX3; have yz0 := (hSw.cell (lt_of_cell z0)).trans z0; have yz1 := (hSw.cell (lt_of_cell z1)).trans z1;  go_simp⟩) hS1 ?_
            try simp only [Act.put, List.setIfInBounds_toArray, List.set_cons_zero, List.set_cons_succ]
            refine wpAnyH_take (i := 7) (oi := opDn21) (v := .bool true) rfl (by kernel_rfl) (by kernel_rfl) (by kernel_rfl) (fun _ _ _ h => h) (Or.inl ⟨by rfl, by intro w2 hSw; (try dsimp only at hSw); have yX0 := (hSw.cell (lt_of_cell zX0)).trans zX0; have yX1 := (hSw.cell (lt_of_cell zX1)).trans zX1; have yX2 := (hSw.cell (lt_of_cell zX2)).trans zX2; have yX3 := (hSw.cell (lt_of_cell zX3)).trans zX3; have yz0 := (hSw.cell (lt_of_cell z0)).trans z0; have yz1 := (hSw.cell (lt_of_cell z1)).trans z1;  go_simp⟩) hS1 ?_
            try simp only [Act.put, List.setIfInBounds_toArray, List.set_cons_zero, List.set_cons_succ]
            refine wpAnyH_take (i := 8) (oi := opDn22) (v := undef) rfl (by kernel_rfl) (by kernel_rfl) (by kernel_rfl) (fun _ _ _ h => h) (Or.inr ⟨by rfl, rfl⟩) hS1 ?_
            try simp only [Act.put, List.setIfInBounds_toArray, List.set_cons_zero, List.set_cons_succ]
            refine wpAnyH_take (i := 9) (oi := opDn23) (v := undef) rfl (by kernel_rfl) (by kernel_rfl) (by kernel_rfl) (fun _ _ _ h => h) (Or.inr ⟨by rfl, rfl⟩) hS1 ?_
            try simp only [Act.put, List.setIfInBounds_toArray, List.set_cons_zero, List.set_cons_succ]
            refine wpAnyH_take (i := 10) (oi := opDn24) (v := undef) rfl (by kernel_rfl) (by kernel_rfl) (by kernel_rfl) (fun _ _ _ h => h) (Or.inr ⟨by rfl, rfl⟩) hS1 ?_
            try simp only [Act.put, List.setIfInBounds_toArray, List.set_cons_zero, List.set_cons_succ]
            refine wpAnyH_take (i := 11) (oi := opDn25) (v := undef) rfl (by kernel_rfl) (by kernel_rfl) (by kernel_rfl) (fun _ _ _ h => h) (Or.inr ⟨by rfl, rfl⟩) hS1 ?_
            try simp only [Act.put, List.setIfInBounds_toArray, List.set_cons_zero, List.set_cons_succ]
            refine wpAnyH_take (i := 12) (oi := opDn26) (v := undef) rfl (by kernel_rfl) (by kernel_rfl) (by kernel_rfl) (fun _ _ _ h => h) (Or.inr ⟨by rfl, rfl⟩) hS1 ?_
            try simp only [Act.put, List.setIfInBounds_toArray, List.set_cons_zero, List.set_cons_succ]
            refine wpAnyH_take (i := 13) (oi := opDn27) (v := undef) rfl (by kernel_rfl) (by kernel_rfl) (by kernel_rfl) (fun _ _ _ h => h) (Or.inr ⟨by rfl, rfl⟩) hS1 ?_
            try simp only [Act.put, List.setIfInBounds_toArray, List.set_cons_zero, List.set_cons_succ]
            refine wpAnyH_take (i := 14) (oi := opDn28) (v := undef) rfl (by kernel_rfl) (by kernel_rfl) (by kernel_rfl) (fun _ _ _ h => h) (Or.inr ⟨by rfl, rfl⟩) hS1 ?_
            try simp only [Act.put, List.setIfInBounds_toArray, List.set_cons_zero, List.set_cons_succ]
            refine wpAnyH_take (i := 15) (oi := opDn29) (v := undef) rfl (by kernel_rfl) (by kernel_rfl) (by kernel_rfl) (fun _ _ _ h => h) (Or.inr ⟨by rfl, rfl⟩) hS1 ?_
            try simp only [Act.put, List.setIfInBounds_toArray, List.set_cons_zero, List.set_cons_succ]
            refine wpAnyH_take (i := 16) (oi := opDn30) (v := undef) rfl (by kernel_rfl) (by kernel_rfl) (by kernel_rfl) (fun _ _ _ h => h) (Or.inr ⟨by rfl, rfl⟩) hS1 ?_
            try simp only [Act.put, List.setIfInBounds_toArray, List.set_cons_zero, List.set_cons_succ]
            refine wpAnyH_take (i := 17) (oi := opDn31) (v := undef) rfl (by kernel_rfl) (by kernel_rfl) (by kernel_rfl) (fun _ _ _ h => h) (Or.inr ⟨by rfl, rfl⟩) hS1 ?_
            try simp only [Act.put, List.setIfInBounds_toArray, List.set_cons_zero, List.set_cons_succ]
            refine wpAnyH_take (i := 18) (oi := opDn32) (v := .bool true) rfl (by kernel_rfl) (by kernel_rfl) (by kernel_rfl) (fun _ _ _ h => h) (Or.inl ⟨by rfl, by intro w2 hSw; (try dsimp only at hSw); have yX0 := (hSw.cell (lt_of_cell zX0)).trans zX0; have yX1 := (hSw.cell (lt_of_cell zX1)).trans zX1; have yX2 := (hSw.cell (lt_of_cell zX2)).trans zX2; have yX3 := (hSw.cell (lt_of_cell zX3)).trans zX3; have yz0 := (hSw.cell (lt_of_cell z0)).trans z0; have yz1 := (hSw.cell (lt_of_cell z1)).trans z1;  go_simp⟩) hS1 ?_
            try simp only [Act.put, List.setIfInBounds_toArray, List.set_cons_zero, List.set_cons_succ]
            refine wpAnyH_done (by kernel_rfl) ?_ _
            clear zX0 zX1 zX2 zX3 ltX z0 z1
            have hb := hS1
            clear hS0 hS1
            replace S := Lib.hid (S.out.below hb (Nat.le_refl _))
            replace SD := Lib.hid (SD.out.below hb (Nat.le_refl _))
            replace SC := Lib.hid (SC.out.below hb (Nat.le_refl _))
            replace X := Lib.hid ((hb.block _ (lt_of_block X.out)).trans X.out)
            replace B := Lib.hid (B.out.trans (hb.mono B.out.size))
            clear hb
            go_wp2_with fail
            go_ret
            exact ⟨by rw [HE.out] <;> rfl, B.out⟩
          refine wp_region_held_drew (S := fun w2 => Below wq.heap.size wq w2) (by kernel_rfl) (drew_b _ _) (fun hS0 => ?_)
          refine wpAnyH_take (i := 0) (oi := opDn14) (v := .pointer (some ⟨R, 2, none⟩)) rfl (by kernel_rfl) (by kernel_rfl) (by kernel_rfl) (fun _ _ _ h => h) (Or.inl ⟨by rfl, by intro w2 hSw; (try dsimp only at hSw); have yX0 := (hSw.cell (lt_of_cell zX0)).trans zX0; have yX1 := (hSw.cell (lt_of_cell zX1)).trans zX1; have yX2 := (hSw.cell (lt_of_cell zX2)).trans zX2; have yX3 := (hSw.cell (lt_of_cell zX3)).trans zX3; have yz0 := (hSw.cell (lt_of_cell z0)).trans z0; have yz1 := (hSw.cell (lt_of_cell z1)).trans z1;  go_simp⟩) hS0 ?_
          try simp only [Act.put, List.setIfInBounds_toArray, List.set_cons_zero, List.set_cons_succ]
          refine wpAnyH_take (i := 1) (oi := opDn15) (v := .slice l.LA l.ln l.lc) rfl (by kernel_rfl) (by kernel_rfl) (by kernel_rfl) (fun _ _ _ h => h) (Or.inl ⟨by rfl, by intro w2 hSw; (try dsimp only at hSw); have yX0 := (hSw.cell (lt_of_cell zX0)).trans zX0; have yX1 := (hSw.cell (lt_of_cell zX1)).trans zX1; have yX2 := (hSw.cell (lt_of_cell zX2)).trans zX2; have yX3 := (hSw.cell (lt_of_cell zX3)).trans zX3; have yz0 := (hSw.cell (lt_of_cell z0)).trans z0; have yz1 := (hSw.cell (lt_of_cell z1)).trans z1;  go_simp⟩) hS0 ?_
          try simp only [Act.put, List.setIfInBounds_toArray, List.set_cons_zero, List.set_cons_succ]
          refine wpAnyH_take (i := 2) (oi := opDn16) (v := .slice (some ⟨bz, oz, none⟩) k cc) rfl (by kernel_rfl) (by kernel_rfl) (by kernel_rfl) (fun _ _ _ h => h) (Or.inl ⟨by rfl, by intro w2 hSw; (try dsimp only at hSw); have yX0 := (hSw.cell (lt_of_cell zX0)).trans zX0; have yX1 := (hSw.cell (lt_of_cell zX1)).trans zX1; have yX2 := (hSw.cell (lt_of_cell zX2)).trans zX2; have yX3 := (hSw.cell (lt_of_cell zX3)).trans zX3; have yz0 := (hSw.cell (lt_of_cell z0)).trans z0; have yz1 := (hSw.cell (lt_of_cell z1)).trans z1;  go_simp⟩) hS0 ?_
          try simp only [Act.put, List.setIfInBounds_toArray, List.set_cons_zero, List.set_cons_succ]
          refine wpAnyH_take (i := 3) (oi := opDn17) (v := .pointer (some ⟨bz, oz, none⟩)) rfl (by kernel_rfl) (by kernel_rfl) (by kernel_rfl) (fun _ _ _ h => h) (Or.inl ⟨by rfl, by intro w2 hSw; (try dsimp only at hSw); have yX0 := (hSw.cell (lt_of_cell zX0)).trans zX0; have yX1 := (hSw.cell (lt_of_cell zX1)).trans zX1; have yX2 := (hSw.cell (lt_of_cell zX2)).trans zX2; have yX3 := (hSw.cell (lt_of_cell zX3)).trans zX3; have yz0 := (hSw.cell (lt_of_cell z0)).trans z0; have yz1 := (hSw.cell (lt_of_cell z1)).trans z1;  go_simp⟩) hS0 ?_
          try simp only [Act.put, List.setIfInBounds_toArray, List.set_cons_zero, List.set_cons_succ]
          refine wpAnyH_take (i := 4) (oi := opDn18) (v := .int .i64 (iAt ch 0)) rfl (by kernel_rfl) (by kernel_rfl) (by kernel_rfl) (fun _ _ _ h => h) (Or.inl ⟨by rfl, by intro w2 hSw; (try dsimp only at hSw); have yX0 := (hSw.cell (lt_of_cell zX0)).trans zX0; have yX1 := (hSw.cell (lt_of_cell zX1)).trans zX1; have yX2 := (hSw.cell (lt_of_cell zX2)).trans zX2; have yX3 := (hSw.cell (lt_of_cell zX3)).trans zX3; have yz0 := (hSw.cell (lt_of_cell z0)).trans z0; have yz1 := (hSw.cell (lt_of_cell z1)).trans z1;  go_simp⟩) hS0 ?_
          try simp only [Act.put, List.setIfInBounds_toArray, List.set_cons_zero, List.set_cons_succ]
          refine wpAnyH_ready (rs := [5]) (by kernel_rfl) (by simp) ?_
          refine AllReadyH.cons (o := opDn19) rfl (fun K2 hK => ?_) AllReadyH.nil
          go_simp
          refine (in38 l.LA l.ln l.lc l.ls (iAt ch 0) _ (S.out.below hS0 (Nat.le_refl _)).ls S.out.l6).mono ?_
          rintro e9 wqv1 ⟨rfl, hb9⟩
          replace hb9 := below_eq hb9
          rw [J1.out]
          (try go_simp)
          refine hK.out _ _ (hS0.trans (hb9.mono hS0.size)) (fun hS1 => ?_)
          clear hK K2 hb9
          try simp only [Act.put, List.setIfInBounds_toArray, List.set_cons_zero, List.set_cons_succ]
          refine wpAnyH_take (i := 6) (oi := opDn20) (v := .bool false) rfl (by kernel_rfl) (by kernel_rfl) (by kernel_rfl) (fun _ _ _ h => h) (Or.inl ⟨by rfl, by intro w2 hSw; (try dsimp only at hSw); have yX0 := (hSw.cell (lt_of_cell zX0)).trans zX0; have yX1 := (hSw.cell (lt_of_cell zX1)).trans zX1; have yX2 := (hSw.cell (lt_of_cell zX2)).trans zX2; have yX3 := (hSw.cell (lt_of_cell zX3)).trans zX3; have yz0 := (hSw.cell (lt_of_cell z0)).trans z0; have yz1 := (hSw.cell (lt_of_cell z1)).trans z1;  go_simp⟩) hS1 ?_
          try simp only [Act.put, List.setIfInBounds_toArray, List.set_cons_zero, List.set_cons_succ]
          refine wpAnyH_take (i := 7) (oi := opDn21) (v := .bool false) rfl (by kernel_rfl) (by kernel_rfl) (by kernel_rfl) (fun _ _ _ h => h) (Or.inl ⟨by rfl, by intro w2 hSw; (try dsimp only at hSw); have yX0 := (hSw.cell (lt_of_cell zX0)).trans zX0; have yX1 := (hSw.cell (lt_of_cell zX1)).trans zX1; have yX2 := (hSw.cell (lt_of_cell zX2)).trans zX2; have yX3 := (hSw.cell (lt_of_cell zX3)).trans zX3; have yz0 := (hSw.cell (lt_of_cell z0)).trans z0; have yz1 := (hSw.cell (lt_of_cell z1)).trans z1;  go_simp⟩) hS1 ?_
          try simp only [Act.put, List.setIfInBounds_toArray, List.set_cons_zero, List.set_cons_succ]
          refine wpAnyH_take (i := 8) (oi := opDn22) (v := .pointer (some ⟨R, 3, none⟩)) rfl (by kernel_rfl) (by kernel_rfl) (by kernel_rfl) (fun _ _ _ h => h) (Or.inl ⟨by rfl, by intro w2 hSw; (try dsimp only at hSw); have yX0 := (hSw.cell (lt_of_cell zX0)).trans zX0; have yX1 := (hSw.cell (lt_of_cell zX1)).trans zX1; have yX2 := (hSw.cell (lt_of_cell zX2)).trans zX2; have yX3 := (hSw.cell (lt_of_cell zX3)).trans zX3; have yz0 := (hSw.cell (lt_of_cell z0)).trans z0; have yz1 := (hSw.cell (lt_of_cell z1)).trans z1;  go_simp⟩) hS1 ?_
          try simp only [Act.put, List.setIfInBounds_toArray, List.set_cons_zero, List.set_cons_succ]
          refine wpAnyH_take (i := 9) (oi := opDn23) (v := .slice l.RA l.rn l.rc) rfl (by kernel_rfl) (by kernel_rfl) (by kernel_rfl) (fun _ _ _ h => h) (Or.inl ⟨by rfl, by intro w2 hSw; (try dsimp only at hSw); have yX0 := (hSw.cell (lt_of_cell zX0)).trans zX0; have yX1 := (hSw.cell (lt_of_cell zX1)).trans zX1; have yX2 := (hSw.cell (lt_of_cell zX2)).trans zX2; have yX3 := (hSw.cell (lt_of_cell zX3)).trans zX3; have yz0 := (hSw.cell (lt_of_cell z0)).trans z0; have yz1 := (hSw.cell (lt_of_cell z1)).trans z1;  go_simp⟩) hS1 ?_
          try simp only [Act.put, List.setIfInBounds_toArray, List.set_cons_zero, List.set_cons_succ]
          refine wpAnyH_take (i := 10) (oi := opDn24) (v := .slice (some ⟨bz, oz, none⟩) k cc) rfl (by kernel_rfl) (by kernel_rfl) (by kernel_rfl) (fun _ _ _ h => h) (Or.inl ⟨by rfl, by intro w2 hSw; (try dsimp only at hSw); have yX0 := (hSw.cell (lt_of_cell zX0)).trans zX0; have yX1 := (hSw.cell (lt_of_cell zX1)).trans zX1; have yX2 := (hSw.cell (lt_of_cell zX2)).trans zX2; have yX3 := (hSw.cell (lt_of_cell zX3)).trans zX3; have yz0 := (hSw.cell (lt_of_cell z0)).trans z0; have yz1 := (hSw.cell (lt_of_cell z1)).trans z1;  go_simp⟩) hS1 ?_
          try simp only [Act.put, List.setIfInBounds_toArray, List.set_cons_zero, List.set_cons_succ]
          refine wpAnyH_take (i := 11) (oi := opDn25) (v := .slice (some ⟨bz, oz, none⟩) k cc) rfl (by kernel_rfl) (by kernel_rfl) (by kernel_rfl) (fun _ _ _ h => h) (Or.inl ⟨by rfl, by intro w2 hSw; (try dsimp only at hSw); have yX0 := (hSw.cell (lt_of_cell zX0)).trans zX0; have yX1 := (hSw.cell (lt_of_cell zX1)).trans zX1; have yX2 := (hSw.cell (lt_of_cell zX2)).trans zX2; have yX3 := (hSw.cell (lt_of_cell zX3)).trans zX3; have yz0 := (hSw.cell (lt_of_cell z0)).trans z0; have yz1 := (hSw.cell (lt_of_cell z1)).trans z1;  go_simp⟩) hS1 ?_
          try simp only [Act.put, List.setIfInBounds_toArray, List.set_cons_zero, List.set_cons_succ]
          refine wpAnyH_take (i := 12) (oi := opDn26) (v := .int .i64 (k : Int)) rfl (by kernel_rfl) (by kernel_rfl) (by kernel_rfl) (fun _ _ _ h => h) (Or.inl ⟨by rfl, by intro w2 hSw; (try dsimp only at hSw); have yX0 := (hSw.cell (lt_of_cell zX0)).trans zX0; have yX1 := (hSw.cell (lt_of_cell zX1)).trans zX1; have yX2 := (hSw.cell (lt_of_cell zX2)).trans zX2; have yX3 := (hSw.cell (lt_of_cell zX3)).trans zX3; have yz0 := (hSw.cell (lt_of_cell z0)).trans z0; have yz1 := (hSw.cell (lt_of_cell z1)).trans z1;  go_simp⟩) hS1 ?_
          try simp only [Act.put, List.setIfInBounds_toArray, List.set_cons_zero, List.set_cons_succ]
          refine wpAnyH_take (i := 13) (oi := opDn27) (v := .int .i64 ((k : Int) - 1)) rfl (by kernel_rfl) (by kernel_rfl) (by kernel_rfl) (fun _ _ _ h => h) (Or.inl ⟨by rfl, by intro w2 hSw; (try dsimp only at hSw); have yX0 := (hSw.cell (lt_of_cell zX0)).trans zX0; have yX1 := (hSw.cell (lt_of_cell zX1)).trans zX1; have yX2 := (hSw.cell (lt_of_cell zX2)).trans zX2; have yX3 := (hSw.cell (lt_of_cell zX3)).trans zX3; have yz0 := (hSw.cell (lt_of_cell z0)).trans z0; have yz1 := (hSw.cell (lt_of_cell z1)).trans z1;  go_simp⟩) hS1 ?_
          try simp only [Act.put, List.setIfInBounds_toArray, List.set_cons_zero, List.set_cons_succ]
          refine wpAnyH_take (i := 14) (oi := opDn28) (v := .pointer (some ⟨bz, oz + (k - 1), none⟩)) rfl (by kernel_rfl) (by kernel_rfl) (by kernel_rfl) (fun _ _ _ h => h) (Or.inl ⟨by rfl, by intro w2 hSw; (try dsimp only at hSw); have yX0 := (hSw.cell (lt_of_cell zX0)).trans zX0; have yX1 := (hSw.cell (lt_of_cell zX1)).trans zX1; have yX2 := (hSw.cell (lt_of_cell zX2)).trans zX2; have yX3 := (hSw.cell (lt_of_cell zX3)).trans zX3; have yz0 := (hSw.cell (lt_of_cell z0)).trans z0; have yz1 := (hSw.cell (lt_of_cell z1)).trans z1;  go_simp⟩) hS1 ?_
          try simp only [Act.put, List.setIfInBounds_toArray, List.set_cons_zero, List.set_cons_succ]
          refine wpAnyH_take (i := 15) (oi := opDn29) (v := .int .i64 (iAt ch (k - 1))) rfl (by kernel_rfl) (by kernel_rfl) (by kernel_rfl) (fun _ _ _ h => h) (Or.inl ⟨by rfl, by intro w2 hSw; (try dsimp only at hSw); have yX0 := (hSw.cell (lt_of_cell zX0)).trans zX0; have yX1 := (hSw.cell (lt_of_cell zX1)).trans zX1; have yX2 := (hSw.cell (lt_of_cell zX2)).trans zX2; have yX3 := (hSw.cell (lt_of_cell zX3)).trans zX3; have yz0 := (hSw.cell (lt_of_cell z0)).trans z0; have yz1 := (hSw.cell (lt_of_cell z1)).trans z1;  go_simp⟩) hS1 ?_
          try simp only [Act.put, List.setIfInBounds_toArray, List.set_cons_zero, List.set_cons_succ]
          refine wpAnyH_ready (rs := [16]) (by kernel_rfl) (by simp) ?_
          refine AllReadyH.cons (o := opDn30) rfl (fun K2 hK => ?_) AllReadyH.nil
          go_simp
          refine (in38 l.RA l.rn l.rc l.rs (iAt ch (k - 1)) wqv1 (S.out.below hS1 (Nat.le_refl _)).rs S.out.r6).mono ?_
          rintro e9 wqv2 ⟨rfl, hb9⟩
          replace hb9 := below_eq hb9
          rw [J2.out]
          (try go_simp)
          refine hK.out _ _ (hS1.trans (hb9.mono hS1.size)) (fun hS2 => ?_)
          clear hK K2 hb9
          try simp only [Act.put, List.setIfInBounds_toArray, List.set_cons_zero, List.set_cons_succ]
          refine wpAnyH_take (i := 17) (oi := opDn31) (v := .bool (!j2)) rfl (by kernel_rfl) (by kernel_rfl) (by kernel_rfl) (fun _ _ _ h => h) (Or.inl ⟨by rfl, by intro w2 hSw; (try dsimp only at hSw); have yX0 := (hSw.cell (lt_of_cell zX0)).trans zX0; have yX1 := (hSw.cell (lt_of_cell zX1)).trans zX1; have yX2 := (hSw.cell (lt_of_cell zX2)).trans zX2; have yX3 := (hSw.cell (lt_of_cell zX3)).trans zX3; have yz0 := (hSw.cell (lt_of_cell z0)).trans z0; have yz1 := (hSw.cell (lt_of_cell z1)).trans z1;  go_simp⟩) hS2 ?_
          try simp only [Act.put, List.setIfInBounds_toArray, List.set_cons_zero, List.set_cons_succ]
          refine wpAnyH_take (i := 18) (oi := opDn32) (v := .bool (!j2)) rfl (by kernel_rfl) (by kernel_rfl) (by kernel_rfl) (fun _ _ _ h => h) (Or.inl ⟨by rfl, by intro w2 hSw; (try dsimp only at hSw); have yX0 := (hSw.cell (lt_of_cell zX0)).trans zX0; have yX1 := (hSw.cell (lt_of_cell zX1)).trans zX1; have yX2 := (hSw.cell (lt_of_cell zX2)).trans zX2; have yX3 := (hSw.cell (lt_of_cell zX3)).trans zX3; have yz0 := (hSw.cell (lt_of_cell z0)).trans z0; have yz1 := (hSw.cell (lt_of_cell z1)).trans z1;  go_simp⟩) hS2 ?_
          try simp only [Act.put, List.setIfInBounds_toArray, List.set_cons_zero, List.set_cons_succ]
          refine wpAnyH_done (by kernel_rfl) ?_ _
          clear zX0 zX1 zX2 zX3 ltX z0 z1
          have hb := hS2
          clear hS0 hS1 hS2
          replace S := Lib.hid (S.out.below hb (Nat.le_refl _))
          replace SD := Lib.hid (SD.out.below hb (Nat.le_refl _))
          replace SC := Lib.hid (SC.out.below hb (Nat.le_refl _))
          replace X := Lib.hid ((hb.block _ (lt_of_block X.out)).trans X.out)
          replace B := Lib.hid (B.out.trans (hb.mono B.out.size))
          clear hb
          rcases j2 with _ | _
          · go_wp2_with fail
            go_ret
            exact ⟨by rw [HE.out] <;> rfl, B.out⟩
          · go_wp2_with fail
            go_ret
            exact ⟨by rw [HE.out] <;> rfl, B.out⟩
end
end Go.Proofs.Ytigohccehllmnaa
