/- Stage 4: Climb. -/
import Derived.Test.YthdjbapidodlfaaNl
import Derived.Test.YthdjbapidodlfaaAll
import Derived.Deep.RegionHeld3
namespace Go.Proofs.Ythdjbapidodlfaa
set_option linter.unusedSimpArgs false
set_option linter.unusedVariables false
open Go.RowKit Go.Shelf
/-- A row of matches that is built (its block is M or behind it) of matches that lie elsewhere (before N0). -/
def Cho (M N0 : Nat) (W : World) (v : Value) (q : List (List Int)) : Prop :=
  ∃ cs : List Value, W.ownsRow 0 40 1 v q.length cs ∧ (∀ g, v.ownBlock = some g → M ≤ g) ∧ ∀ j, j < q.length → ∃ C cap, cs[j]? = some (.slice C (lAt q j).length cap) ∧ (lAt q j).length ≤ cap ∧ Ints W C (lAt q j).length (lAt q j) ∧
    ∀ b o, C = some ⟨b, o, none⟩ → b < N0
theorem Cho.nil (M N0 : Nat) (W : World) : Cho M N0 W (.slice none 0 0) [] := ⟨[], ⟨rfl, .inl ⟨rfl, rfl⟩⟩, fun g e => (by cases e), fun j hj => by simp at hj⟩
theorem Cho.below {M N0 : Nat} {W W' : World} {v : Value} {q : List (List Int)} (h : Cho M N0 W v q) (hb : Below W.heap.size W W') : Cho M N0 W' v q := by
  obtain ⟨cs, h1, h2, h3⟩ := h
  refine ⟨cs, own_keep h1 (Keeps.of_new hb (Mut := fun _ => False)) (fun _ _ e => e), h2, fun j hj => ?_⟩
  obtain ⟨C, cap, q1, q2, q3, q4⟩ := h3 j hj
  exact ⟨C, cap, q1, q2, q3.below hb (Nat.le_refl _), q4⟩
theorem Cho.open {M N0 : Nat} {W : World} {v : Value} {q : List (List Int)} (h : Cho M N0 W v q) : ∃ C cap, v = .slice C q.length cap ∧ q.length ≤ cap ∧ Lns W C q.length q ∧
    (0 < q.length → ∃ b, C = some ⟨b, 0, none⟩ ∧ ∀ j, j < q.length → ∃ C' c', W.cell? ⟨b, 0 + j, none⟩ = some (.slice C' (lAt q j).length c') ∧ Ints W C' (lAt q j).length (lAt q j) ∧ (lAt q j).length ≤ c' ∧ ∀ b' o', C' = some ⟨b', o', none⟩ → b' < N0) := by
  obtain ⟨cs, ho, _, hr⟩ := h
  rcases ho.2 with ⟨rfl, h0⟩ | ⟨g, cap, cur, rfl, hb, hg, hc, _, hsz, htake⟩
  · rw [h0]
    exact ⟨none, 0, rfl, Nat.le_refl _, ⟨h0, fun h => absurd h (by omega)⟩, fun h => absurd h (by omega)⟩
  · have key : ∀ j, j < q.length → ∃ C' c', W.cell? ⟨g, 0 + j, none⟩ = some (.slice C' (lAt q j).length c') ∧ Ints W C' (lAt q j).length (lAt q j) ∧ (lAt q j).length ≤ c' ∧ ∀ b' o', C' = some ⟨b', o', none⟩ → b' < N0 := by
      intro j hj
      obtain ⟨C, c, q1, q2, q3, q4⟩ := hr j hj
      refine ⟨C, c, ?_, q3, q2, q4⟩
      have hcell := ho.cells (g := g) rfl j _ q1
      rw [Addr.add_lit] at hcell
      exact hcell
    refine ⟨_, cap, rfl, hc, ⟨rfl, fun _ => ⟨g, 0, rfl, fun j hj => ?_⟩⟩, fun _ => ⟨g, rfl, key⟩⟩
    obtain ⟨C', c', q1, q2, q3, _⟩ := key j hj
    exact ⟨C', c', q1, q2, q3⟩
theorem Cho.snoc {M N0 cap : Nat} {W : World} {v : Value} {q : List (List Int)} {C : Option Addr} {y : List Int} (h : Cho M N0 W v q) (hq : Ints W C y.length y) (hC : ∀ b o, C = some ⟨b, o, none⟩ → b < N0) (hcap : y.length ≤ cap) (hn : q.length ≤ 10000) (hM : M ≤ W.heap.size) (hNM : N0 ≤ M) :
    ∃ C' c' W', runA Try.prog 31 v (.slice (some ⟨W.heap.size, 0, none⟩) 1 1) (W.alloc (.cells #[.slice C y.length cap] 40)) = .ok (.value (.slice C' (q.length + 1) c')) W' ∧ Cho M N0 W' (.slice C' (q.length + 1) c') (q ++ [y]) ∧ Below M W W' := by
  have hb0 := below_alloc_ W (.cells #[.slice C y.length cap] 40)
  obtain ⟨cs, h1, h2, h3⟩ := h.below hb0
  obtain ⟨v', W', a1, a2, a3, a4⟩ := app_one (n := q.length) Try.underlying31 info40_ rfl (by omega) (by omega) h1 (vals := [.slice C y.length cap]) rfl (heap_alloc_new_ W (.cells #[.slice C y.length cap] 40)) (by simp [Value.oneCell']) (by omega)
  have hbM : Below M W W' := (hb0.mono hM).trans (a3.below (Nat.le_trans hM hb0.size) (fun k hk e => by have := h2 k e; omega))
  have hI : ∀ {C' : Option Addr} {u : List Int}, Ints (W.alloc (.cells #[.slice C y.length cap] 40)) C' u.length u → (∀ b o, C' = some ⟨b, o, none⟩ → b < N0) → Ints W' C' u.length u := fun hi hl => hi.keep a3 (fun b o e e' => by have := hl b o e; have := h2 b e'; omega)
  have a2' : W'.ownsRow 0 40 1 v' (q ++ [y]).length (cs ++ [.slice C y.length cap]) := by rw [List.length_append]; exact a2
  have hcl : cs.length = q.length := by have := h1.1; omega
  have hch : Cho M N0 W' v' (q ++ [y]) := by
    refine ⟨_, a2', fun g e => ?_, fun j hj => ?_⟩
    · rcases a4 with a4 | ⟨a4, _⟩
      · exact h2 g (by rw [← a4]; exact e)
      · rw [a4] at e; cases e; exact Nat.le_trans hM hb0.size
    · rw [List.length_append] at hj
      simp only [List.length_cons, List.length_nil] at hj
      rcases Nat.lt_or_ge j q.length with hjq | hjq
      · obtain ⟨C', c', p1, p2, p3, p4⟩ := h3 j hjq
        have e1 : lAt (q ++ [y]) j = lAt q j := by
          unfold lAt
          rw [List.getD_eq_getElem?_getD, List.getElem?_append_left hjq, ← List.getD_eq_getElem?_getD]
        rw [e1]
        exact ⟨C', c', by rw [List.getElem?_append_left (by omega)]; exact p1, p2, hI p3 p4, p4⟩
      · obtain rfl : j = q.length := by omega
        have e1 : lAt (q ++ [y]) q.length = y := by
          unfold lAt
          rw [List.getD_eq_getElem?_getD, List.getElem?_append_right (Nat.le_refl _)]
          simp
        rw [e1]
        exact ⟨C, cap, by rw [List.getElem?_append_right (by omega), hcl]; simp, hcap, hI (hq.below hb0 (Nat.le_refl _)) hC, hC⟩
  rcases a2.2 with ⟨_, e⟩ | ⟨g, cp, cur, rfl, _⟩
  · omega
  · exact ⟨_, _, W', run_app a1, hch, hbM⟩
/-- A passage of matches out of l. -/
def ChQ (l : List (List Int)) (m : Nat) (q : List (List Int)) : Prop := (∀ j, j < q.length → lAt q j ∈ l) ∧ ∀ j, j + 1 < q.length → befB (lAt q j) (lAt q (j + 1)) m = true
theorem lAt_snoc {q : List (List Int)} {y : List Int} (j : Nat) : lAt (q ++ [y]) j = if j < q.length then lAt q j else if j = q.length then y else [] := by
  unfold lAt
  rw [List.getD_eq_getElem?_getD]
  by_cases h : j < q.length
  · rw [if_pos h, List.getElem?_append_left h, List.getD_eq_getElem?_getD]
  · rw [if_neg h, List.getElem?_append_right (by omega)]
    by_cases e : j = q.length
    · subst e; simp
    · rw [if_neg e, List.getElem?_eq_none (by simp; omega)]; rfl
theorem ChQ.snoc {l : List (List Int)} {m : Nat} {q : List (List Int)} {y : List Int} (h : ChQ l m q) (hy : y ∈ l) (hb : 0 < q.length → befB (lAt q (q.length - 1)) y m = true) : ChQ l m (q ++ [y]) := by
  refine ⟨fun j hj => ?_, fun j hj => ?_⟩
  · rw [lAt_snoc]
    rw [List.length_append] at hj
    simp only [List.length_cons, List.length_nil] at hj
    split
    · rename_i h1; exact h.1 j h1
    · rw [if_pos (by omega)]; exact hy
  · rw [List.length_append] at hj
    simp only [List.length_cons, List.length_nil] at hj
    rw [lAt_snoc, lAt_snoc, if_pos (show j < q.length by omega)]
    split
    · rename_i h1; exact h.2 j h1
    · rw [if_pos (by omega)]
      have := hb (by omega)
      rwa [show q.length - 1 = j by omega] at this
theorem ChQ.len {l : List (List Int)} {m : Nat} {q : List (List Int)} (h : ChQ l m q) (hm : 1 ≤ m) (hl : ∀ y ∈ l, 0 ≤ iAt y 0 ∧ iAt y 0 ≤ 8) : q.length ≤ 9 := by
  have key : ∀ j, j < q.length → (j : Int) ≤ iAt (lAt q j) 0 := by
    intro j
    induction j with
    | zero => intro hj; have := hl _ (h.1 0 hj); omega
    | succ j ih =>
      intro hj
      have h1 := ih (by omega)
      have h2 := befB_iff.1 (h.2 j hj) 0 (by omega)
      omega
  rcases Nat.lt_or_ge 9 q.length with hq | hq
  · have h1 := key 9 hq
    have h2 := hl _ (h.1 9 hq)
    omega
  · exact hq
def lenV (v : Value) : Nat := match v with | .slice _ n _ => n | _ => 0
section
attribute [local go_sem ↓] exec_app at_app
attribute [local go_sem] Oper.semAt_some
set_option maxRecDepth 100000 in
set_option maxHeartbeats 40000000 in
theorem climb41 (A : Option Addr) (n cap : Nat) (zs : List Rg) (A2 : Option Addr) (m cap2 : Nat) (L : List (List Int)) (A3 : Option Addr) (nb cb : Nat) (w : World) (h : Rgs w A n zs) (hL : Lns w A2 m L) (hz : chkL zs L = 0)
    (hB : ∀ j, j < nb → ∃ (b o u : Nat), A3 = some ⟨b, o, none⟩ ∧ u ≤ 255 ∧ w.cell? ⟨b, o + j, none⟩ = some (.int .u8 (u : Int))) (hnb : nb ≤ 1000) :
    Calls Try.prog 41 #[.agg #[.slice A n cap], .slice A2 m cap2, .slice A3 nb cb] w fun e w' => Below w.heap.size w w' ∧ ∃ C N c q, e = .returned (.slice C N c) ∧ Lns w' C N q ∧ N ≤ c ∧ ChQ ((mtS (cls (prs zs)) L).map (·.take m)) m q := by
  have Hlen := Lib.hid hL.1
  have hb0 := below_alloc_ w (.cells #[.slice A n cap] 24)
  have hr0 := heap_alloc_new_ w (.cells #[.slice A n cap] 24)
  obtain ⟨W0, hW0⟩ : ∃ W0, w.alloc (.cells #[.slice A n cap] 24) = W0 := ⟨_, rfl⟩
  obtain ⟨R, hR⟩ : ∃ R, w.heap.size = R := ⟨_, rfl⟩
  rw [hW0] at hb0 hr0
  rw [hR] at hr0
  have S := Lib.hid (h.below hb0 (Nat.le_refl _))
  have X := Lib.hid (hL.below hb0 (Nat.le_refl _))
  have B0 := Lib.hid hb0
  have R0 := Lib.hid hr0
  have HW0 := Lib.hid hW0
  have HR := Lib.hid hR
  have r0 : W0.cell? ⟨R, 0, none⟩ = some (.slice A n cap) := by rw [cell_row hr0]; rfl
  have H0 := Lib.hid hz
  have HBy := Lib.hid (fun j (hj : j < nb) => hB j hj)
  clear hB
  clear h hL hb0 hr0 hW0 hR hz
  go_enter Try.func41, Try.ntmps41
  go_wp2_with fail
  rw [HW0.out]
  try rw [HR.out]
  try go_wp2_with fail
  have HLV := Lib.hid (lv_of Hlen.out H0.out)
  have key := all56 A n cap zs A2 m cap2 L W0 S.out X.out H0.out
  rw [allS_all Hlen.out H0.out] at key
  obtain ⟨l, hl⟩ : ∃ l, (mtS (cls (prs zs)) L).map (·.take m) = l := ⟨_, rfl⟩
  rw [hl] at key
  try rw [hl]
  have Hl := Lib.hid hl
  clear hl
  try go_wp2_with fail
  refine key.mono ?_
  rintro en w1 ⟨Cl0, c, rfl, hl, hc, hb⟩
  have HL2 := Lib.hid hl
  have HB2 := Lib.hid (B0.out.trans (hb.mono B0.out.size))
  have HBW := Lib.hid hb
  have hlen : l.length = (mtS (cls (prs zs)) L).length := by rw [← Hl.out, List.length_map]
  have hN5 : l.length ≤ 5000 := by rw [hlen]; exact Nat.le_trans (mtS_len HLV.out).1 (by omega)
  have hls : ∀ j, j < l.length → (lAt l j).length = m := by
    rw [← Hl.out, List.length_map]
    exact take_lens HLV.out
  have hm4 := HLV.out.hi
  have hm2 := HLV.out.lo
  have HL0 := Lib.hid (show ∀ y ∈ l, 0 ≤ iAt y 0 ∧ iAt y 0 ≤ 8 by
    intro y hy
    rw [← Hl.out] at hy
    obtain ⟨x, hx, rfl⟩ := List.mem_map.1 hy
    have h9 := (mtS_wpl HLV.out x hx).rng 0 (by omega)
    have e1 : iAt (x.take m) 0 = iAt x 0 := by
      unfold iAt
      rw [List.getD_eq_getElem?_getD, List.getElem?_take, if_pos (by omega), ← List.getD_eq_getElem?_getD]
    rw [e1]
    exact h9)
  obtain ⟨N, hN⟩ : ∃ N, l.length = N := ⟨_, rfl⟩
  rw [hN] at HL2 hN5 hls ⊢
  have Hls := Lib.hid hls
  have Hll := Lib.hid hN
  clear hl hb key hN r0 hc hlen hls
  obtain ⟨N0, hN0⟩ : ∃ N0, w1.heap.size = N0 := ⟨_, rfl⟩
  have HN00 := Lib.hid hN0
  clear hN0
  go_wp2_with fail
  go_loopw [8, 9, 10, 11, 12] (fun o at_ c5 i5 k5 wr => ∃ (q : List (List Int)) (t : Nat), t ≤ 10 ∧ at_ = .int .i64 (t : Int) ∧ Hid (t = q.length ∧ Cho N0 N0 wr o q ∧ ChQ l m q ∧ Below N0 w1 wr)) (fun o at_ c5 i5 k5 _ => 10 - lenV o)
  case atStart => exact ⟨[], 0, by omega, rfl, Lib.hid ⟨rfl, Cho.nil _ _ _, ⟨fun j hj => by simp at hj, fun j hj => by simp at hj⟩, Below.refl _ _⟩⟩
  case round =>
    obtain ⟨q, t, ht, rfl, HI⟩ := hrel
    obtain ⟨wr0, rfl⟩ : ∃ wr0, wr0 = wr := ⟨_, rfl⟩
    have HO := Lib.hid HI.out.2.1
    have HQ := Lib.hid HI.out.2.2.1
    have HBr := Lib.hid HI.out.2.2.2
    have Ht := Lib.hid HI.out.1
    have Hq9 := Lib.hid (HQ.out.len (by omega) HL0.out)
    have HM := Lib.hid (show N0 ≤ wr0.heap.size by have := HBr.out.size; have := HN00.out; omega)
    clear HI
    obtain ⟨Co, co, rfl, hco, hlo, hox⟩ := HO.out.open
    obtain ⟨qn, hqn⟩ : ∃ qn, q.length = qn := ⟨_, rfl⟩
    rw [hqn] at hco hlo hox
    try rw [hqn]
    have Hqn := Lib.hid hqn
    have HOL := Lib.hid hlo
    have HOX := Lib.hid hox
    have Hco := Lib.hid hco
    have hq9 : qn ≤ 9 := by have := Hq9.out; omega
    clear hqn hlo hox hco
    go_wp2_with fail
    go_loopw [10, 11] (fun cv iv ws => ∃ (k : Nat) (cq : List (List Int)), k ≤ N ∧ iv = .int .i64 (k : Int) ∧ Hid (Cho wr0.heap.size N0 ws cv cq ∧ (∀ y ∈ cq, y ∈ l ∧ (0 < q.length → befB (lAt q (q.length - 1)) y m = true)) ∧ cq.length ≤ k ∧ Below wr0.heap.size wr0 ws)) (fun cv iv _ => N - (intOf iv).toNat)
    case atStart => exact ⟨0, [], Nat.zero_le _, rfl, Lib.hid ⟨Cho.nil _ _ _, (fun y hy => by cases hy), Nat.le_refl _, Below.refl _ _⟩⟩
    case round =>
      obtain ⟨k, cq, hk, rfl, HJ⟩ := hrel
      obtain ⟨wj, rfl⟩ : ∃ wj, wj = wr := ⟨_, rfl⟩
      have HC := Lib.hid HJ.out.1
      have HCe := Lib.hid HJ.out.2.1
      have HCl := Lib.hid HJ.out.2.2.1
      have HBj := Lib.hid HJ.out.2.2.2
      clear HJ
      have HL2j := Lib.hid ((HL2.out.below HBr.out (by have := HN00.out; omega)).below HBj.out (Nat.le_refl _))
      obtain ⟨Cc, cc, rfl, hcc, hlc, hcx⟩ := HC.out.open
      obtain ⟨cn, hcn⟩ : ∃ cn, cq.length = cn := ⟨_, rfl⟩
      rw [hcn] at hcc hlc hcx
      try rw [hcn]
      have Hcn := Lib.hid hcn
      rw [hcn] at HC
      clear hcn
      have HopC := Lib.hid hcx
      have Hcc := Lib.hid hcc
      clear hcx hlc hcc
      by_cases hlt : k < N
      · obtain ⟨bl, ol, rfl, hlk⟩ := HL2.out.2 (by omega)
        obtain ⟨Ck, ck, bw, bIw, bcw⟩ := hlk k hlt
        rw [Hls.out k hlt] at bw bIw bcw
        have hb1j : Below N0 w1 wj := HBr.out.trans (HBj.out.mono HM.out)
        have b0 := (hb1j.cell (p := ⟨bl, ol + k, none⟩) (show bl < N0 by have := lt_of_cell bw; have := HN00.out; omega)).trans bw
        have HLb0 := Lib.hid (bIw.below hb1j (by have := HN00.out; omega))
        have Hck := Lib.hid bcw
        have HN0 := Lib.hid (show ∀ b o, Ck = some ⟨b, o, none⟩ → b < N0 by
          intro b o e
          obtain ⟨b', o', e', hcell⟩ := bIw.2 (by omega)
          rw [e] at e'
          cases e'
          have := lt_of_cell (hcell 0 (by omega))
          have := HN00.out
          omega)
        have i0 : (0 : Int) ≤ (k : Int) := by omega
        have i1 : (k : Int) < (N : Int) := by omega
        clear hlk bw bIw bcw hb1j
        by_cases hq0 : qn = 0
        · have dq : ((qn : Int) == 0) = true := by rw [beq_iff_eq]; omega
          have Hq0 := Lib.hid hq0
          clear hq0
          go_wp2_with fail
          refine wp_region_held_drew (S := fun w2 => Below wj.heap.size wj w2) (by kernel_rfl) (drew_b _ _) (fun hS0 => ?_)
          obtain ⟨wz, hz⟩ : ∃ wz, wj.drew = wz := ⟨_, rfl⟩
          rw [hz] at hS0 ⊢
          clear hz
          refine wpAnyH_take (i := 0) (oi := { dst := some 24, op := Go.Op.move (Go.Operand.tmp 8), type := 31, pos := "outright.go:21", after := #[], guard := none }) (v := .slice Co qn co) rfl (by kernel_rfl) (by kernel_rfl) (by kernel_rfl) (fun _ _ _ h => h) (Or.inl ⟨by rfl, by intro w2 hSw; (try dsimp only at hSw); go_simp⟩) hS0 ?_
          try simp only [Act.put, List.setIfInBounds_toArray, List.set_cons_zero, List.set_cons_succ]
          refine wpAnyH_take (i := 1) (oi := { dst := some 25, op := Go.Op.call { callee := Go.Callee.builtin Go.Builtin.len, args := #[Go.Operand.tmp 24], argTypes := #[31] }, type := 3, pos := "outright.go:21", after := #[{ on := 0, ground := Go.Ground.data }], guard := none }) (v := .int .i64 (qn : Int)) rfl (by kernel_rfl) (by kernel_rfl) (by kernel_rfl) (fun _ _ _ h => h) (Or.inl ⟨by rfl, by intro w2 hSw; (try dsimp only at hSw); go_simp⟩) hS0 ?_
          try simp only [Act.put, List.setIfInBounds_toArray, List.set_cons_zero, List.set_cons_succ]
          refine wpAnyH_take (i := 2) (oi := { dst := some 26, op := Go.Op.binOp Go.BinOp.eql 3 (Go.Operand.tmp 25) (Go.Operand.const (Go.Value.int Go.IntKind.i64 0)) 3, type := 4, pos := "outright.go:21", after := #[{ on := 1, ground := Go.Ground.data }], guard := none }) (v := .bool true) rfl (by kernel_rfl) (by kernel_rfl) (by kernel_rfl) (fun _ _ _ h => h) (Or.inl ⟨by rfl, by intro w2 hSw; (try dsimp only at hSw); go_simp⟩) hS0 ?_
          try simp only [Act.put, List.setIfInBounds_toArray, List.set_cons_zero, List.set_cons_succ]
          refine wpAnyH_take (i := 3) (oi := { dst := some 27, op := Go.Op.move (Go.Operand.tmp 26), type := 4, pos := "outright.go:21", after := #[{ on := 2, ground := Go.Ground.data }], guard := none }) (v := .bool true) rfl (by kernel_rfl) (by kernel_rfl) (by kernel_rfl) (fun _ _ _ h => h) (Or.inl ⟨by rfl, by intro w2 hSw; (try dsimp only at hSw); go_simp⟩) hS0 ?_
          try simp only [Act.put, List.setIfInBounds_toArray, List.set_cons_zero, List.set_cons_succ]
          refine wpAnyH_take (i := 4) (oi := { dst := some 28, op := Go.Op.move (Go.Operand.tmp 8), type := 31, pos := "outright.go:21", after := #[{ on := 3, ground := Go.Ground.guard }], guard := some (3, false) }) (v := undef) rfl (by kernel_rfl) (by kernel_rfl) (by kernel_rfl) (fun _ _ _ h => h) (Or.inr ⟨by rfl, rfl⟩) hS0 ?_
          try simp only [Act.put, List.setIfInBounds_toArray, List.set_cons_zero, List.set_cons_succ]
          refine wpAnyH_take (i := 5) (oi := { dst := some 29, op := Go.Op.move (Go.Operand.tmp 8), type := 31, pos := "outright.go:21", after := #[{ on := 3, ground := Go.Ground.guard }], guard := some (3, false) }) (v := undef) rfl (by kernel_rfl) (by kernel_rfl) (by kernel_rfl) (fun _ _ _ h => h) (Or.inr ⟨by rfl, rfl⟩) hS0 ?_
          try simp only [Act.put, List.setIfInBounds_toArray, List.set_cons_zero, List.set_cons_succ]
          refine wpAnyH_take (i := 6) (oi := { dst := some 30, op := Go.Op.call { callee := Go.Callee.builtin Go.Builtin.len, args := #[Go.Operand.tmp 29], argTypes := #[31] }, type := 3, pos := "outright.go:21", after := #[{ on := 5, ground := Go.Ground.data }, { on := 3, ground := Go.Ground.guard }], guard := some (3, false) }) (v := undef) rfl (by kernel_rfl) (by kernel_rfl) (by kernel_rfl) (fun _ _ _ h => h) (Or.inr ⟨by rfl, rfl⟩) hS0 ?_
          try simp only [Act.put, List.setIfInBounds_toArray, List.set_cons_zero, List.set_cons_succ]
          refine wpAnyH_take (i := 7) (oi := { dst := some 31, op := Go.Op.binOp Go.BinOp.sub 3 (Go.Operand.tmp 30) (Go.Operand.const (Go.Value.int Go.IntKind.i64 1)) 3, type := 3, pos := "outright.go:21", after := #[{ on := 6, ground := Go.Ground.data }, { on := 3, ground := Go.Ground.guard }], guard := some (3, false) }) (v := undef) rfl (by kernel_rfl) (by kernel_rfl) (by kernel_rfl) (fun _ _ _ h => h) (Or.inr ⟨by rfl, rfl⟩) hS0 ?_
          try simp only [Act.put, List.setIfInBounds_toArray, List.set_cons_zero, List.set_cons_succ]
          refine wpAnyH_take (i := 8) (oi := { dst := some 32, op := Go.Op.indexAddr 31 (Go.Operand.tmp 28) (Go.Operand.tmp 31), type := 0, pos := "outright.go:21", after := #[{ on := 4, ground := Go.Ground.data }, { on := 7, ground := Go.Ground.data }, { on := 3, ground := Go.Ground.guard }], guard := some (3, false) }) (v := undef) rfl (by kernel_rfl) (by kernel_rfl) (by kernel_rfl) (fun _ _ _ h => h) (Or.inr ⟨by rfl, rfl⟩) hS0 ?_
          try simp only [Act.put, List.setIfInBounds_toArray, List.set_cons_zero, List.set_cons_succ]
          refine wpAnyH_take (i := 9) (oi := { dst := some 33, op := Go.Op.load 40 (Go.Operand.tmp 32), type := 40, pos := "outright.go:21", after := #[{ on := 8, ground := Go.Ground.data }, { on := 3, ground := Go.Ground.guard }], guard := some (3, false) }) (v := undef) rfl (by kernel_rfl) (by kernel_rfl) (by kernel_rfl) (fun _ _ _ h => h) (Or.inr ⟨by rfl, rfl⟩) hS0 ?_
          try simp only [Act.put, List.setIfInBounds_toArray, List.set_cons_zero, List.set_cons_succ]
          refine wpAnyH_take (i := 10) (oi := { dst := some 34, op := Go.Op.move (Go.Operand.tmp 7), type := 31, pos := "outright.go:21", after := #[{ on := 3, ground := Go.Ground.guard }], guard := some (3, false) }) (v := undef) rfl (by kernel_rfl) (by kernel_rfl) (by kernel_rfl) (fun _ _ _ h => h) (Or.inr ⟨by rfl, rfl⟩) hS0 ?_
          try simp only [Act.put, List.setIfInBounds_toArray, List.set_cons_zero, List.set_cons_succ]
          refine wpAnyH_take (i := 11) (oi := { dst := some 35, op := Go.Op.move (Go.Operand.tmp 11), type := 3, pos := "outright.go:21", after := #[{ on := 3, ground := Go.Ground.guard }], guard := some (3, false) }) (v := undef) rfl (by kernel_rfl) (by kernel_rfl) (by kernel_rfl) (fun _ _ _ h => h) (Or.inr ⟨by rfl, rfl⟩) hS0 ?_
          try simp only [Act.put, List.setIfInBounds_toArray, List.set_cons_zero, List.set_cons_succ]
          refine wpAnyH_take (i := 12) (oi := { dst := some 36, op := Go.Op.indexAddr 31 (Go.Operand.tmp 34) (Go.Operand.tmp 35), type := 0, pos := "outright.go:21", after := #[{ on := 10, ground := Go.Ground.data }, { on := 11, ground := Go.Ground.data }, { on := 3, ground := Go.Ground.guard }], guard := some (3, false) }) (v := undef) rfl (by kernel_rfl) (by kernel_rfl) (by kernel_rfl) (fun _ _ _ h => h) (Or.inr ⟨by rfl, rfl⟩) hS0 ?_
          try simp only [Act.put, List.setIfInBounds_toArray, List.set_cons_zero, List.set_cons_succ]
          refine wpAnyH_take (i := 13) (oi := { dst := some 37, op := Go.Op.load 40 (Go.Operand.tmp 36), type := 40, pos := "outright.go:21", after := #[{ on := 12, ground := Go.Ground.data }, { on := 3, ground := Go.Ground.guard }], guard := some (3, false) }) (v := undef) rfl (by kernel_rfl) (by kernel_rfl) (by kernel_rfl) (fun _ _ _ h => h) (Or.inr ⟨by rfl, rfl⟩) hS0 ?_
          try simp only [Act.put, List.setIfInBounds_toArray, List.set_cons_zero, List.set_cons_succ]
          refine wpAnyH_take (i := 14) (oi := { dst := some 38, op := Go.Op.call { callee := Go.Callee.value (Go.Operand.func 63), args := #[Go.Operand.tmp 33, Go.Operand.tmp 37], argTypes := #[40, 40] }, type := 4, pos := "outright.go:21", after := #[{ on := 9, ground := Go.Ground.data }, { on := 13, ground := Go.Ground.data }, { on := 3, ground := Go.Ground.chain }, { on := 3, ground := Go.Ground.guard }], guard := some (3, false) }) (v := undef) rfl (by kernel_rfl) (by kernel_rfl) (by kernel_rfl) (fun _ _ _ h => h) (Or.inr ⟨by rfl, rfl⟩) hS0 ?_
          try simp only [Act.put, List.setIfInBounds_toArray, List.set_cons_zero, List.set_cons_succ]
          refine wpAnyH_take (i := 15) (oi := { dst := some 39, op := Go.Op.pick (Go.Operand.tmp 27) (Go.Operand.const (Go.Value.bool true)) (Go.Operand.tmp 38), type := 4, pos := "outright.go:21", after := #[{ on := 3, ground := Go.Ground.data }, { on := 14, ground := Go.Ground.data }], guard := none }) (v := .bool true) rfl (by kernel_rfl) (by kernel_rfl) (by kernel_rfl) (fun _ _ _ h => h) (Or.inl ⟨by rfl, by intro w2 hSw; (try dsimp only at hSw); go_simp⟩) hS0 ?_
          try simp only [Act.put, List.setIfInBounds_toArray, List.set_cons_zero, List.set_cons_succ]
          refine wpAnyH_done (by kernel_rfl) ?_ _
          clear dq
          have hbj := hS0
          have b1 := (hbj.cell (p := _) (lt_of_cell b0)).trans b0
          have HCv := Lib.hid (HC.out.below hbj)
          obtain ⟨C', c', W', r1, hch, hbs⟩ := HCv.out.snoc (cap := ck) (y := lAt l k) (by rw [Hls.out k hlt]; exact HLb0.out.below hbj (Nat.le_refl _)) HN0.out (by rw [Hls.out k hlt]; exact Hck.out) (by have := HCl.out; omega) (Nat.le_trans HBj.out.size hbj.size) HM.out
          rw [Hls.out k hlt, Hcn.out] at r1
          rw [Hcn.out] at hch
          have R1 := Lib.hid r1
          have HNx := Lib.hid (show Cho wr0.heap.size N0 W' (.slice C' (cn + 1) c') (cq ++ [lAt l k]) ∧ (∀ y ∈ cq ++ [lAt l k], y ∈ l ∧ (0 < q.length → befB (lAt q (q.length - 1)) y m = true)) ∧ (cq ++ [lAt l k]).length ≤ k + 1 ∧ Below wr0.heap.size wr0 W' by
            refine ⟨hch, fun y hy => ?_, by rw [List.length_append]; have := HCl.out; simp; omega, (HBj.out.trans (hbj.mono HBj.out.size)).trans hbs⟩
            rcases List.mem_append.1 hy with hy | hy
            · exact HCe.out y hy
            · obtain rfl := List.mem_singleton.1 hy
              exact ⟨by rw [lAt_eq (by rw [Hll.out]; exact hlt)]; exact List.getElem_mem _, fun h0 => absurd h0 (by have := Hqn.out; have := Hq0.out; omega)⟩)
          clear hch hbs r1 hbj
          go_wp2_with fail
          try rw [R1.out]
          try go_wp2_with fail
          go_roundw
          case rel => first | exact ⟨k + 1, cq ++ [lAt l k], by omega, by go_num, HNx⟩ | (trace_state; fail "RELQ")
          case measure => simp [intOf]; omega
        · have dq : ((qn : Int) == 0) = false := by rw [beq_eq_false_iff_ne]; omega
          obtain ⟨tq, htq⟩ : ∃ tq, qn = tq + 1 := ⟨qn - 1, by omega⟩
          have dt : (qn : Int) - 1 = (tq : Int) := by omega
          have j0 : (0 : Int) ≤ (tq : Int) := by omega
          have j1 : (tq : Int) < (qn : Int) := by omega
          have jn : tq < qn := by omega
          have Htq := Lib.hid htq
          clear htq
          obtain ⟨bo, rfl, hok⟩ := HOX.out (by omega)
          obtain ⟨Cl, cl, aw, aIw, -, -⟩ := hok tq jn
          have hm9 : (lAt q tq).length = m := by
            have h7 := HQ.out.1 tq (by have := Hqn.out; omega)
            obtain ⟨u, hu, e⟩ := mem_lAt.1 h7
            rw [← e]
            exact Hls.out u (by have := Hll.out; omega)
          rw [hm9] at aw aIw
          rw [Nat.zero_add] at aw
          have a0 := (HBj.out.cell (p := ⟨bo, tq, none⟩) (lt_of_cell aw)).trans aw
          obtain ⟨la, hla⟩ : ∃ la, lAt q tq = la := ⟨_, rfl⟩
          obtain ⟨lb, hlb⟩ : ∃ lb, lAt l k = lb := ⟨_, rfl⟩
          have Hla := Lib.hid hla
          have Hlb := Lib.hid hlb
          rw [hla] at aIw
          have HLa := Lib.hid (aIw.below HBj.out (Nat.le_refl _))
          have HLb := Lib.hid (show Ints wj Ck m lb by rw [← hlb]; exact HLb0.out)
          clear hok aw aIw hm9 hla hlb
          cases hbb : befB la lb m with
          | true =>
            have HBe := Lib.hid hbb
            clear hbb
            go_wp2_with fail
            refine wp_region_held_drew (S := fun w2 => Below wj.heap.size wj w2) (by kernel_rfl) (drew_b _ _) (fun hS0 => ?_)
            refine wpAnyH_take (i := 0) (oi := { dst := some 24, op := Go.Op.move (Go.Operand.tmp 8), type := 31, pos := "outright.go:21", after := #[], guard := none }) (v := .slice (some ⟨bo, 0, none⟩) qn co) rfl (by kernel_rfl) (by kernel_rfl) (by kernel_rfl) (fun _ _ _ h => h) (Or.inl ⟨by rfl, by intro w2 hSw; (try dsimp only at hSw); go_simp⟩) hS0 ?_
            try simp only [Act.put, List.setIfInBounds_toArray, List.set_cons_zero, List.set_cons_succ]
            refine wpAnyH_take (i := 1) (oi := { dst := some 25, op := Go.Op.call { callee := Go.Callee.builtin Go.Builtin.len, args := #[Go.Operand.tmp 24], argTypes := #[31] }, type := 3, pos := "outright.go:21", after := #[{ on := 0, ground := Go.Ground.data }], guard := none }) (v := .int .i64 (qn : Int)) rfl (by kernel_rfl) (by kernel_rfl) (by kernel_rfl) (fun _ _ _ h => h) (Or.inl ⟨by rfl, by intro w2 hSw; (try dsimp only at hSw); go_simp⟩) hS0 ?_
            try simp only [Act.put, List.setIfInBounds_toArray, List.set_cons_zero, List.set_cons_succ]
            refine wpAnyH_take (i := 2) (oi := { dst := some 26, op := Go.Op.binOp Go.BinOp.eql 3 (Go.Operand.tmp 25) (Go.Operand.const (Go.Value.int Go.IntKind.i64 0)) 3, type := 4, pos := "outright.go:21", after := #[{ on := 1, ground := Go.Ground.data }], guard := none }) (v := .bool false) rfl (by kernel_rfl) (by kernel_rfl) (by kernel_rfl) (fun _ _ _ h => h) (Or.inl ⟨by rfl, by intro w2 hSw; (try dsimp only at hSw); go_simp⟩) hS0 ?_
            try simp only [Act.put, List.setIfInBounds_toArray, List.set_cons_zero, List.set_cons_succ]
            refine wpAnyH_take (i := 3) (oi := { dst := some 27, op := Go.Op.move (Go.Operand.tmp 26), type := 4, pos := "outright.go:21", after := #[{ on := 2, ground := Go.Ground.data }], guard := none }) (v := .bool false) rfl (by kernel_rfl) (by kernel_rfl) (by kernel_rfl) (fun _ _ _ h => h) (Or.inl ⟨by rfl, by intro w2 hSw; (try dsimp only at hSw); go_simp⟩) hS0 ?_
            try simp only [Act.put, List.setIfInBounds_toArray, List.set_cons_zero, List.set_cons_succ]
            refine wpAnyH_take (i := 4) (oi := { dst := some 28, op := Go.Op.move (Go.Operand.tmp 8), type := 31, pos := "outright.go:21", after := #[{ on := 3, ground := Go.Ground.guard }], guard := some (3, false) }) (v := .slice (some ⟨bo, 0, none⟩) qn co) rfl (by kernel_rfl) (by kernel_rfl) (by kernel_rfl) (fun _ _ _ h => h) (Or.inl ⟨by rfl, by intro w2 hSw; (try dsimp only at hSw); go_simp⟩) hS0 ?_
            try simp only [Act.put, List.setIfInBounds_toArray, List.set_cons_zero, List.set_cons_succ]
            refine wpAnyH_take (i := 5) (oi := { dst := some 29, op := Go.Op.move (Go.Operand.tmp 8), type := 31, pos := "outright.go:21", after := #[{ on := 3, ground := Go.Ground.guard }], guard := some (3, false) }) (v := .slice (some ⟨bo, 0, none⟩) qn co) rfl (by kernel_rfl) (by kernel_rfl) (by kernel_rfl) (fun _ _ _ h => h) (Or.inl ⟨by rfl, by intro w2 hSw; (try dsimp only at hSw); go_simp⟩) hS0 ?_
            try simp only [Act.put, List.setIfInBounds_toArray, List.set_cons_zero, List.set_cons_succ]
            refine wpAnyH_take (i := 6) (oi := { dst := some 30, op := Go.Op.call { callee := Go.Callee.builtin Go.Builtin.len, args := #[Go.Operand.tmp 29], argTypes := #[31] }, type := 3, pos := "outright.go:21", after := #[{ on := 5, ground := Go.Ground.data }, { on := 3, ground := Go.Ground.guard }], guard := some (3, false) }) (v := .int .i64 (qn : Int)) rfl (by kernel_rfl) (by kernel_rfl) (by kernel_rfl) (fun _ _ _ h => h) (Or.inl ⟨by rfl, by intro w2 hSw; (try dsimp only at hSw); go_simp⟩) hS0 ?_
            try simp only [Act.put, List.setIfInBounds_toArray, List.set_cons_zero, List.set_cons_succ]
            refine wpAnyH_take (i := 7) (oi := { dst := some 31, op := Go.Op.binOp Go.BinOp.sub 3 (Go.Operand.tmp 30) (Go.Operand.const (Go.Value.int Go.IntKind.i64 1)) 3, type := 3, pos := "outright.go:21", after := #[{ on := 6, ground := Go.Ground.data }, { on := 3, ground := Go.Ground.guard }], guard := some (3, false) }) (v := .int .i64 (tq : Int)) rfl (by kernel_rfl) (by kernel_rfl) (by kernel_rfl) (fun _ _ _ h => h) (Or.inl ⟨by rfl, by intro w2 hSw; (try dsimp only at hSw); go_simp; exact IntWalk.i64_in _ (by omega)⟩) hS0 ?_
            try simp only [Act.put, List.setIfInBounds_toArray, List.set_cons_zero, List.set_cons_succ]
            refine wpAnyH_take (i := 8) (oi := { dst := some 32, op := Go.Op.indexAddr 31 (Go.Operand.tmp 28) (Go.Operand.tmp 31), type := 0, pos := "outright.go:21", after := #[{ on := 4, ground := Go.Ground.data }, { on := 7, ground := Go.Ground.data }, { on := 3, ground := Go.Ground.guard }], guard := some (3, false) }) (v := .pointer (some ⟨bo, tq, none⟩)) rfl (by kernel_rfl) (by kernel_rfl) (by kernel_rfl) (fun _ _ _ h => h) (Or.inl ⟨by rfl, by intro w2 hSw; (try dsimp only at hSw); go_simp⟩) hS0 ?_
            try simp only [Act.put, List.setIfInBounds_toArray, List.set_cons_zero, List.set_cons_succ]
            refine wpAnyH_take (i := 9) (oi := { dst := some 33, op := Go.Op.load 40 (Go.Operand.tmp 32), type := 40, pos := "outright.go:21", after := #[{ on := 8, ground := Go.Ground.data }, { on := 3, ground := Go.Ground.guard }], guard := some (3, false) }) (v := .slice Cl m cl) rfl (by kernel_rfl) (by kernel_rfl) (by kernel_rfl) (fun _ _ _ h => h) (Or.inl ⟨by rfl, by intro w2 hSw; (try dsimp only at hSw); have y0 := (hSw.cell (p := _) (lt_of_cell a0)).trans a0; go_simp⟩) hS0 ?_
            try simp only [Act.put, List.setIfInBounds_toArray, List.set_cons_zero, List.set_cons_succ]
            refine wpAnyH_take (i := 10) (oi := { dst := some 34, op := Go.Op.move (Go.Operand.tmp 7), type := 31, pos := "outright.go:21", after := #[{ on := 3, ground := Go.Ground.guard }], guard := some (3, false) }) (v := .slice (some ⟨bl, ol, none⟩) N c) rfl (by kernel_rfl) (by kernel_rfl) (by kernel_rfl) (fun _ _ _ h => h) (Or.inl ⟨by rfl, by intro w2 hSw; (try dsimp only at hSw); go_simp⟩) hS0 ?_
            try simp only [Act.put, List.setIfInBounds_toArray, List.set_cons_zero, List.set_cons_succ]
            refine wpAnyH_take (i := 11) (oi := { dst := some 35, op := Go.Op.move (Go.Operand.tmp 11), type := 3, pos := "outright.go:21", after := #[{ on := 3, ground := Go.Ground.guard }], guard := some (3, false) }) (v := .int .i64 (k : Int)) rfl (by kernel_rfl) (by kernel_rfl) (by kernel_rfl) (fun _ _ _ h => h) (Or.inl ⟨by rfl, by intro w2 hSw; (try dsimp only at hSw); go_simp⟩) hS0 ?_
            try simp only [Act.put, List.setIfInBounds_toArray, List.set_cons_zero, List.set_cons_succ]
            refine wpAnyH_take (i := 12) (oi := { dst := some 36, op := Go.Op.indexAddr 31 (Go.Operand.tmp 34) (Go.Operand.tmp 35), type := 0, pos := "outright.go:21", after := #[{ on := 10, ground := Go.Ground.data }, { on := 11, ground := Go.Ground.data }, { on := 3, ground := Go.Ground.guard }], guard := some (3, false) }) (v := .pointer (some ⟨bl, ol + k, none⟩)) rfl (by kernel_rfl) (by kernel_rfl) (by kernel_rfl) (fun _ _ _ h => h) (Or.inl ⟨by rfl, by intro w2 hSw; (try dsimp only at hSw); go_simp⟩) hS0 ?_
            try simp only [Act.put, List.setIfInBounds_toArray, List.set_cons_zero, List.set_cons_succ]
            refine wpAnyH_take (i := 13) (oi := { dst := some 37, op := Go.Op.load 40 (Go.Operand.tmp 36), type := 40, pos := "outright.go:21", after := #[{ on := 12, ground := Go.Ground.data }, { on := 3, ground := Go.Ground.guard }], guard := some (3, false) }) (v := .slice Ck m ck) rfl (by kernel_rfl) (by kernel_rfl) (by kernel_rfl) (fun _ _ _ h => h) (Or.inl ⟨by rfl, by intro w2 hSw; (try dsimp only at hSw); have y0 := (hSw.cell (p := _) (lt_of_cell b0)).trans b0; go_simp⟩) hS0 ?_
            try simp only [Act.put, List.setIfInBounds_toArray, List.set_cons_zero, List.set_cons_succ]
            refine wpAnyH_ready (rs := [14]) (by kernel_rfl) (by simp) ?_
            refine AllReadyH.cons (o := { dst := some 38, op := Go.Op.call { callee := Go.Callee.value (Go.Operand.func 63), args := #[Go.Operand.tmp 33, Go.Operand.tmp 37], argTypes := #[40, 40] }, type := 4, pos := "outright.go:21", after := #[{ on := 9, ground := Go.Ground.data }, { on := 13, ground := Go.Ground.data }, { on := 3, ground := Go.Ground.chain }, { on := 3, ground := Go.Ground.guard }], guard := some (3, false) }) rfl (fun K hK => ?_) AllReadyH.nil
            go_simp
            have key := before63 Cl m cl la Ck m ck lb _ (HLa.out.below hS0 (Nat.le_refl _)) (HLb.out.below hS0 (Nat.le_refl _)) (Nat.le_refl _) (by omega)
            rw [HBe.out] at key
            refine key.mono ?_
            rintro e9 V9 ⟨rfl, hV9⟩
            try go_simp
            refine hK.out _ _ (hS0.trans (hV9.mono hS0.size)) (fun hS1 => ?_)
            clear hK hV9
            try simp only [Act.put, List.setIfInBounds_toArray, List.set_cons_zero, List.set_cons_succ]
            refine wpAnyH_take (i := 15) (oi := { dst := some 39, op := Go.Op.pick (Go.Operand.tmp 27) (Go.Operand.const (Go.Value.bool true)) (Go.Operand.tmp 38), type := 4, pos := "outright.go:21", after := #[{ on := 3, ground := Go.Ground.data }, { on := 14, ground := Go.Ground.data }], guard := none }) (v := .bool true) rfl (by kernel_rfl) (by kernel_rfl) (by kernel_rfl) (fun _ _ _ h => h) (Or.inl ⟨by rfl, by intro w2 hSw; (try dsimp only at hSw); go_simp⟩) hS1 ?_
            try simp only [Act.put, List.setIfInBounds_toArray, List.set_cons_zero, List.set_cons_succ]
            refine wpAnyH_done (by kernel_rfl) ?_ _
            clear dq
            have hbj := hS1
            have b1 := (hbj.cell (p := _) (lt_of_cell b0)).trans b0
            have HCv := Lib.hid (HC.out.below hbj)
            obtain ⟨C', c', W', r1, hch, hbs⟩ := HCv.out.snoc (cap := ck) (y := lAt l k) (by rw [Hls.out k hlt]; exact HLb0.out.below hbj (Nat.le_refl _)) HN0.out (by rw [Hls.out k hlt]; exact Hck.out) (by have := HCl.out; omega) (Nat.le_trans HBj.out.size hbj.size) HM.out
            rw [Hls.out k hlt, Hcn.out] at r1
            rw [Hcn.out] at hch
            have R1 := Lib.hid r1
            have HNx := Lib.hid (show Cho wr0.heap.size N0 W' (.slice C' (cn + 1) c') (cq ++ [lAt l k]) ∧ (∀ y ∈ cq ++ [lAt l k], y ∈ l ∧ (0 < q.length → befB (lAt q (q.length - 1)) y m = true)) ∧ (cq ++ [lAt l k]).length ≤ k + 1 ∧ Below wr0.heap.size wr0 W' by
              refine ⟨hch, fun y hy => ?_, by rw [List.length_append]; have := HCl.out; simp; omega, (HBj.out.trans (hbj.mono HBj.out.size)).trans hbs⟩
              rcases List.mem_append.1 hy with hy | hy
              · exact HCe.out y hy
              · obtain rfl := List.mem_singleton.1 hy
                exact ⟨by rw [lAt_eq (by rw [Hll.out]; exact hlt)]; exact List.getElem_mem _, fun h0 => by rw [show q.length - 1 = tq by have := Hqn.out; omega, Hla.out, Hlb.out]; exact HBe.out⟩)
            clear hch hbs r1 hbj
            go_wp2_with fail
            try rw [R1.out]
            try go_wp2_with fail
            go_roundw
            case rel => first | exact ⟨k + 1, cq ++ [lAt l k], by omega, by go_num, HNx⟩ | (trace_state; fail "RELQ")
            case measure => simp [intOf]; omega
          | false =>
            have HBe := Lib.hid hbb
            clear hbb
            go_wp2_with fail
            refine wp_region_held_drew (S := fun w2 => Below wj.heap.size wj w2) (by kernel_rfl) (drew_b _ _) (fun hS0 => ?_)
            refine wpAnyH_take (i := 0) (oi := { dst := some 24, op := Go.Op.move (Go.Operand.tmp 8), type := 31, pos := "outright.go:21", after := #[], guard := none }) (v := .slice (some ⟨bo, 0, none⟩) qn co) rfl (by kernel_rfl) (by kernel_rfl) (by kernel_rfl) (fun _ _ _ h => h) (Or.inl ⟨by rfl, by intro w2 hSw; (try dsimp only at hSw); go_simp⟩) hS0 ?_
            try simp only [Act.put, List.setIfInBounds_toArray, List.set_cons_zero, List.set_cons_succ]
            refine wpAnyH_take (i := 1) (oi := { dst := some 25, op := Go.Op.call { callee := Go.Callee.builtin Go.Builtin.len, args := #[Go.Operand.tmp 24], argTypes := #[31] }, type := 3, pos := "outright.go:21", after := #[{ on := 0, ground := Go.Ground.data }], guard := none }) (v := .int .i64 (qn : Int)) rfl (by kernel_rfl) (by kernel_rfl) (by kernel_rfl) (fun _ _ _ h => h) (Or.inl ⟨by rfl, by intro w2 hSw; (try dsimp only at hSw); go_simp⟩) hS0 ?_
            try simp only [Act.put, List.setIfInBounds_toArray, List.set_cons_zero, List.set_cons_succ]
            refine wpAnyH_take (i := 2) (oi := { dst := some 26, op := Go.Op.binOp Go.BinOp.eql 3 (Go.Operand.tmp 25) (Go.Operand.const (Go.Value.int Go.IntKind.i64 0)) 3, type := 4, pos := "outright.go:21", after := #[{ on := 1, ground := Go.Ground.data }], guard := none }) (v := .bool false) rfl (by kernel_rfl) (by kernel_rfl) (by kernel_rfl) (fun _ _ _ h => h) (Or.inl ⟨by rfl, by intro w2 hSw; (try dsimp only at hSw); go_simp⟩) hS0 ?_
            try simp only [Act.put, List.setIfInBounds_toArray, List.set_cons_zero, List.set_cons_succ]
            refine wpAnyH_take (i := 3) (oi := { dst := some 27, op := Go.Op.move (Go.Operand.tmp 26), type := 4, pos := "outright.go:21", after := #[{ on := 2, ground := Go.Ground.data }], guard := none }) (v := .bool false) rfl (by kernel_rfl) (by kernel_rfl) (by kernel_rfl) (fun _ _ _ h => h) (Or.inl ⟨by rfl, by intro w2 hSw; (try dsimp only at hSw); go_simp⟩) hS0 ?_
            try simp only [Act.put, List.setIfInBounds_toArray, List.set_cons_zero, List.set_cons_succ]
            refine wpAnyH_take (i := 4) (oi := { dst := some 28, op := Go.Op.move (Go.Operand.tmp 8), type := 31, pos := "outright.go:21", after := #[{ on := 3, ground := Go.Ground.guard }], guard := some (3, false) }) (v := .slice (some ⟨bo, 0, none⟩) qn co) rfl (by kernel_rfl) (by kernel_rfl) (by kernel_rfl) (fun _ _ _ h => h) (Or.inl ⟨by rfl, by intro w2 hSw; (try dsimp only at hSw); go_simp⟩) hS0 ?_
            try simp only [Act.put, List.setIfInBounds_toArray, List.set_cons_zero, List.set_cons_succ]
            refine wpAnyH_take (i := 5) (oi := { dst := some 29, op := Go.Op.move (Go.Operand.tmp 8), type := 31, pos := "outright.go:21", after := #[{ on := 3, ground := Go.Ground.guard }], guard := some (3, false) }) (v := .slice (some ⟨bo, 0, none⟩) qn co) rfl (by kernel_rfl) (by kernel_rfl) (by kernel_rfl) (fun _ _ _ h => h) (Or.inl ⟨by rfl, by intro w2 hSw; (try dsimp only at hSw); go_simp⟩) hS0 ?_
            try simp only [Act.put, List.setIfInBounds_toArray, List.set_cons_zero, List.set_cons_succ]
            refine wpAnyH_take (i := 6) (oi := { dst := some 30, op := Go.Op.call { callee := Go.Callee.builtin Go.Builtin.len, args := #[Go.Operand.tmp 29], argTypes := #[31] }, type := 3, pos := "outright.go:21", after := #[{ on := 5, ground := Go.Ground.data }, { on := 3, ground := Go.Ground.guard }], guard := some (3, false) }) (v := .int .i64 (qn : Int)) rfl (by kernel_rfl) (by kernel_rfl) (by kernel_rfl) (fun _ _ _ h => h) (Or.inl ⟨by rfl, by intro w2 hSw; (try dsimp only at hSw); go_simp⟩) hS0 ?_
            try simp only [Act.put, List.setIfInBounds_toArray, List.set_cons_zero, List.set_cons_succ]
            refine wpAnyH_take (i := 7) (oi := { dst := some 31, op := Go.Op.binOp Go.BinOp.sub 3 (Go.Operand.tmp 30) (Go.Operand.const (Go.Value.int Go.IntKind.i64 1)) 3, type := 3, pos := "outright.go:21", after := #[{ on := 6, ground := Go.Ground.data }, { on := 3, ground := Go.Ground.guard }], guard := some (3, false) }) (v := .int .i64 (tq : Int)) rfl (by kernel_rfl) (by kernel_rfl) (by kernel_rfl) (fun _ _ _ h => h) (Or.inl ⟨by rfl, by intro w2 hSw; (try dsimp only at hSw); go_simp; exact IntWalk.i64_in _ (by omega)⟩) hS0 ?_
            try simp only [Act.put, List.setIfInBounds_toArray, List.set_cons_zero, List.set_cons_succ]
            refine wpAnyH_take (i := 8) (oi := { dst := some 32, op := Go.Op.indexAddr 31 (Go.Operand.tmp 28) (Go.Operand.tmp 31), type := 0, pos := "outright.go:21", after := #[{ on := 4, ground := Go.Ground.data }, { on := 7, ground := Go.Ground.data }, { on := 3, ground := Go.Ground.guard }], guard := some (3, false) }) (v := .pointer (some ⟨bo, tq, none⟩)) rfl (by kernel_rfl) (by kernel_rfl) (by kernel_rfl) (fun _ _ _ h => h) (Or.inl ⟨by rfl, by intro w2 hSw; (try dsimp only at hSw); go_simp⟩) hS0 ?_
            try simp only [Act.put, List.setIfInBounds_toArray, List.set_cons_zero, List.set_cons_succ]
            refine wpAnyH_take (i := 9) (oi := { dst := some 33, op := Go.Op.load 40 (Go.Operand.tmp 32), type := 40, pos := "outright.go:21", after := #[{ on := 8, ground := Go.Ground.data }, { on := 3, ground := Go.Ground.guard }], guard := some (3, false) }) (v := .slice Cl m cl) rfl (by kernel_rfl) (by kernel_rfl) (by kernel_rfl) (fun _ _ _ h => h) (Or.inl ⟨by rfl, by intro w2 hSw; (try dsimp only at hSw); have y0 := (hSw.cell (p := _) (lt_of_cell a0)).trans a0; go_simp⟩) hS0 ?_
            try simp only [Act.put, List.setIfInBounds_toArray, List.set_cons_zero, List.set_cons_succ]
            refine wpAnyH_take (i := 10) (oi := { dst := some 34, op := Go.Op.move (Go.Operand.tmp 7), type := 31, pos := "outright.go:21", after := #[{ on := 3, ground := Go.Ground.guard }], guard := some (3, false) }) (v := .slice (some ⟨bl, ol, none⟩) N c) rfl (by kernel_rfl) (by kernel_rfl) (by kernel_rfl) (fun _ _ _ h => h) (Or.inl ⟨by rfl, by intro w2 hSw; (try dsimp only at hSw); go_simp⟩) hS0 ?_
            try simp only [Act.put, List.setIfInBounds_toArray, List.set_cons_zero, List.set_cons_succ]
            refine wpAnyH_take (i := 11) (oi := { dst := some 35, op := Go.Op.move (Go.Operand.tmp 11), type := 3, pos := "outright.go:21", after := #[{ on := 3, ground := Go.Ground.guard }], guard := some (3, false) }) (v := .int .i64 (k : Int)) rfl (by kernel_rfl) (by kernel_rfl) (by kernel_rfl) (fun _ _ _ h => h) (Or.inl ⟨by rfl, by intro w2 hSw; (try dsimp only at hSw); go_simp⟩) hS0 ?_
            try simp only [Act.put, List.setIfInBounds_toArray, List.set_cons_zero, List.set_cons_succ]
            refine wpAnyH_take (i := 12) (oi := { dst := some 36, op := Go.Op.indexAddr 31 (Go.Operand.tmp 34) (Go.Operand.tmp 35), type := 0, pos := "outright.go:21", after := #[{ on := 10, ground := Go.Ground.data }, { on := 11, ground := Go.Ground.data }, { on := 3, ground := Go.Ground.guard }], guard := some (3, false) }) (v := .pointer (some ⟨bl, ol + k, none⟩)) rfl (by kernel_rfl) (by kernel_rfl) (by kernel_rfl) (fun _ _ _ h => h) (Or.inl ⟨by rfl, by intro w2 hSw; (try dsimp only at hSw); go_simp⟩) hS0 ?_
            try simp only [Act.put, List.setIfInBounds_toArray, List.set_cons_zero, List.set_cons_succ]
            refine wpAnyH_take (i := 13) (oi := { dst := some 37, op := Go.Op.load 40 (Go.Operand.tmp 36), type := 40, pos := "outright.go:21", after := #[{ on := 12, ground := Go.Ground.data }, { on := 3, ground := Go.Ground.guard }], guard := some (3, false) }) (v := .slice Ck m ck) rfl (by kernel_rfl) (by kernel_rfl) (by kernel_rfl) (fun _ _ _ h => h) (Or.inl ⟨by rfl, by intro w2 hSw; (try dsimp only at hSw); have y0 := (hSw.cell (p := _) (lt_of_cell b0)).trans b0; go_simp⟩) hS0 ?_
            try simp only [Act.put, List.setIfInBounds_toArray, List.set_cons_zero, List.set_cons_succ]
            refine wpAnyH_ready (rs := [14]) (by kernel_rfl) (by simp) ?_
            refine AllReadyH.cons (o := { dst := some 38, op := Go.Op.call { callee := Go.Callee.value (Go.Operand.func 63), args := #[Go.Operand.tmp 33, Go.Operand.tmp 37], argTypes := #[40, 40] }, type := 4, pos := "outright.go:21", after := #[{ on := 9, ground := Go.Ground.data }, { on := 13, ground := Go.Ground.data }, { on := 3, ground := Go.Ground.chain }, { on := 3, ground := Go.Ground.guard }], guard := some (3, false) }) rfl (fun K hK => ?_) AllReadyH.nil
            go_simp
            have key := before63 Cl m cl la Ck m ck lb _ (HLa.out.below hS0 (Nat.le_refl _)) (HLb.out.below hS0 (Nat.le_refl _)) (Nat.le_refl _) (by omega)
            rw [HBe.out] at key
            refine key.mono ?_
            rintro e9 V9 ⟨rfl, hV9⟩
            try go_simp
            refine hK.out _ _ (hS0.trans (hV9.mono hS0.size)) (fun hS1 => ?_)
            clear hK hV9
            try simp only [Act.put, List.setIfInBounds_toArray, List.set_cons_zero, List.set_cons_succ]
            refine wpAnyH_take (i := 15) (oi := { dst := some 39, op := Go.Op.pick (Go.Operand.tmp 27) (Go.Operand.const (Go.Value.bool true)) (Go.Operand.tmp 38), type := 4, pos := "outright.go:21", after := #[{ on := 3, ground := Go.Ground.data }, { on := 14, ground := Go.Ground.data }], guard := none }) (v := .bool false) rfl (by kernel_rfl) (by kernel_rfl) (by kernel_rfl) (fun _ _ _ h => h) (Or.inl ⟨by rfl, by intro w2 hSw; (try dsimp only at hSw); go_simp⟩) hS1 ?_
            try simp only [Act.put, List.setIfInBounds_toArray, List.set_cons_zero, List.set_cons_succ]
            refine wpAnyH_done (by kernel_rfl) ?_ _
            have HNx := Lib.hid (show Cho wr0.heap.size N0 _ _ cq ∧ (∀ y ∈ cq, y ∈ l ∧ (0 < q.length → befB (lAt q (q.length - 1)) y m = true)) ∧ cq.length ≤ k + 1 ∧ Below wr0.heap.size wr0 _ from ⟨HC.out.below hS1, HCe.out, by have := HCl.out; omega, HBj.out.trans (hS1.mono HBj.out.size)⟩)
            clear dq
            go_wp2_with fail
            go_roundw
            case rel => exact ⟨k + 1, cq, by omega, by go_num, HNx⟩
            case measure => simp [intOf]; omega
      · obtain rfl : k = N := by omega
        by_cases hc0 : cn = 0
        · have dc : ((cn : Int) == 0) = true := by rw [beq_iff_eq]; omega
          have HBz := Lib.hid (HB2.out.trans ((HBr.out.trans (HBj.out.mono HM.out)).mono (by have := HN00.out; have := HB2.out.size; omega)))
          have HOz := Lib.hid (HOL.out.below HBj.out (Nat.le_refl _))
          clear hc0
          go_wp2_with fail
          go_ret
          exact ⟨HBz.out, Co, qn, co, q, rfl, HOz.out, Hco.out, by rw [Hl.out]; exact HQ.out⟩
        have dc : ((cn : Int) == 0) = false := by rw [beq_eq_false_iff_ne]; omega
        by_cases hb0 : nb = 0
        · have dn : ¬ (0 : Int) < (nb : Int) := by omega
          have dn2 : ¬ 0 < nb := by omega
          obtain ⟨kk, hkk0⟩ : ∃ kk, kk = 0 := ⟨_, rfl⟩
          have hkk : kk < cn := by omega
          have Hkk0 := Lib.hid hkk0
          clear hkk0 hb0
          obtain ⟨bc, rfl, hck⟩ := HopC.out (by omega)
          obtain ⟨Cy, cy, y0, yI, yc, yN⟩ := hck kk hkk
          have hmem := HCe.out (lAt cq kk) (mem_lAt.2 ⟨kk, by rw [Hcn.out]; exact hkk, rfl⟩)
          have hm9 : (lAt cq kk).length = m := by
            obtain ⟨v, hv, e⟩ := mem_lAt.1 hmem.1
            rw [← e]
            exact Hls.out v (by have := Hll.out; omega)
          have HOv := Lib.hid (HO.out.below HBj.out)
          obtain ⟨C', c', W', r1, hch, hbs⟩ := HOv.out.snoc (cap := cy) (y := lAt cq kk) yI yN yc (by have := Hq9.out; omega) (Nat.le_trans HM.out HBj.out.size) (Nat.le_refl _)
          rw [hm9, Hqn.out] at r1
          rw [hm9, Nat.zero_add] at y0
          rw [Hqn.out] at hch
          have R1 := Lib.hid r1
          have HNx := Lib.hid (show t + 1 = (q ++ [lAt cq kk]).length ∧ Cho N0 N0 W' (.slice C' (qn + 1) c') (q ++ [lAt cq kk]) ∧ ChQ l m (q ++ [lAt cq kk]) ∧ Below N0 w1 W' from ⟨by rw [List.length_append]; have := Ht.out; simp; omega, hch, HQ.out.snoc hmem.1 hmem.2, (HBr.out.trans (HBj.out.mono HM.out)).trans hbs⟩)
          have Ht9 := Lib.hid (show t ≤ 9 by have := Ht.out; have := Hq9.out; omega)
          have i7 : (0 : Int) ≤ (kk : Int) := by omega
          have i8 : (kk : Int) < (cn : Int) := by omega
          clear hck yI yc yN hmem hm9 hch hbs r1
          rw [Hkk0.out] at y0
          go_wp2_with fail
          try rw [R1.out]
          try go_wp2_with fail
          go_roundw
          case rel => exact ⟨q ++ [lAt cq kk], t + 1, by have := Ht9.out; omega, by go_num, HNx⟩
          case measure => simp [lenV]; omega
        have dn : (0 : Int) < (nb : Int) := by omega
        have dn2 : 0 < nb := by omega
        obtain ⟨ti, hti⟩ : ∃ ti : Nat, ti = t % nb := ⟨_, rfl⟩
        have htin : ti < nb := by rw [hti]; exact Nat.mod_lt _ (by omega)
        have eti : (t : Int) % (nb : Int) = (ti : Int) := by rw [hti]; exact (Int.natCast_emod t nb).symm
        have fti : (t : Int).tmod (nb : Int) = (ti : Int) := by rw [Int.tmod_eq_emod_of_nonneg (by omega)]; exact eti
        have jti : IntKind.i64.wrap (ti : Int) = ti := IntWalk.i64_in _ (by omega)
        have dnb : ((nb : Int) == 0) = false := by rw [beq_eq_false_iff_ne]; omega
        have i5 : (0 : Int) ≤ (ti : Int) := by omega
        have i6 : (ti : Int) < (nb : Int) := by omega
        obtain ⟨b3, o3, u, hA3, hu, u0⟩ := HBy.out ti htin
        subst hA3
        obtain ⟨kk, hkk9⟩ : ∃ kk : Nat, kk = u % cn := ⟨_, rfl⟩
        have hkk : kk < cn := by rw [hkk9]; exact Nat.mod_lt _ (by omega)
        have eu : (u : Int) % (cn : Int) = (kk : Int) := by rw [hkk9]; exact (Int.natCast_emod u cn).symm
        have fu : (u : Int).tmod (cn : Int) = (kk : Int) := by rw [Int.tmod_eq_emod_of_nonneg (by omega)]; exact eu
        have gu : IntKind.i64.wrap (u : Int) = u := IntWalk.i64_in _ (by omega)
        have ju : IntKind.i64.wrap (kk : Int) = kk := IntWalk.i64_in _ (by have := HCl.out; rw [Hcn.out] at this; omega)
        have z0 := ((HB2.out.trans ((HBr.out.trans (HBj.out.mono HM.out)).mono (by have := HN00.out; have := HB2.out.size; omega))).cell (p := ⟨b3, o3 + ti, none⟩) (lt_of_cell u0)).trans u0
        clear hti u0 hkk9
        obtain ⟨bc, rfl, hck⟩ := HopC.out (by omega)
        obtain ⟨Cy, cy, y0, yI, yc, yN⟩ := hck kk hkk
        have hmem := HCe.out (lAt cq kk) (mem_lAt.2 ⟨kk, by rw [Hcn.out]; exact hkk, rfl⟩)
        have hm9 : (lAt cq kk).length = m := by
          obtain ⟨v, hv, e⟩ := mem_lAt.1 hmem.1
          rw [← e]
          exact Hls.out v (by have := Hll.out; omega)
        have HOv := Lib.hid (HO.out.below HBj.out)
        obtain ⟨C', c', W', r1, hch, hbs⟩ := HOv.out.snoc (cap := cy) (y := lAt cq kk) yI yN yc (by have := Hq9.out; omega) (Nat.le_trans HM.out HBj.out.size) (Nat.le_refl _)
        rw [hm9, Hqn.out] at r1
        rw [hm9, Nat.zero_add] at y0
        rw [Hqn.out] at hch
        have R1 := Lib.hid r1
        have HNx := Lib.hid (show t + 1 = (q ++ [lAt cq kk]).length ∧ Cho N0 N0 W' (.slice C' (qn + 1) c') (q ++ [lAt cq kk]) ∧ ChQ l m (q ++ [lAt cq kk]) ∧ Below N0 w1 W' from ⟨by rw [List.length_append]; have := Ht.out; simp; omega, hch, HQ.out.snoc hmem.1 hmem.2, (HBr.out.trans (HBj.out.mono HM.out)).trans hbs⟩)
        have Ht9 := Lib.hid (show t ≤ 9 by have := Ht.out; have := Hq9.out; omega)
        have i7 : (0 : Int) ≤ (kk : Int) := by omega
        have i8 : (kk : Int) < (cn : Int) := by omega
        clear hck yI yc yN hmem hm9 hch hbs r1
        skip
        go_wp2_with fail
        try rw [R1.out]
        try go_wp2_with fail
        go_roundw
        case rel => exact ⟨q ++ [lAt cq kk], t + 1, by have := Ht9.out; omega, by go_num, HNx⟩
        case measure => simp [lenV]; omega
end
end Go.Proofs.Ythdjbapidodlfaa
