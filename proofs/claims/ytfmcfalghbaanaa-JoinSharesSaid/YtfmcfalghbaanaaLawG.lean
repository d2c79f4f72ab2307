/- Stage 2: the walk of JoinShares. -/
import Derived.Test.YtfmcfalghbaanaaRff
namespace Go.Proofs.Ytfmcfalghbaanaa
set_option linter.unusedSimpArgs false
set_option linter.unusedVariables false
open Go.RowKit Go.Shelf
attribute [local go_sem] Oper.semAt_some
attribute [local go_sem ↓] exec_app
attribute [local go_sem ↓] at_app

/-- A cylinder and a step in memory. -/
structure Ke (w : World) (B D : Nat) (A : Option Addr) (n cap : Nat) (off lo hi : Int) (ps : List Pc) (p : Int) (t : Bool) (W : World) : Prop where
  k : Kz w B A n cap off lo hi ps none 0 [] W
  s : W.heap[D]? = some (.cells #[.int .i64 p, .bool t] 28 (0, 0))
section
variable {w : World} {B D : Nat} {A : Option Addr} {n cap : Nat} {off lo hi : Int} {ps : List Pc} {p : Int} {t : Bool} {W W' : World}
theorem Ke.next (h : Ke w B D A n cap off lo hi ps p t W) (hb : Below W.heap.size W W') : Ke w B D A n cap off lo hi ps p t W' := ⟨h.k.next hb, (hb.block _ (lt_of_block h.s)).trans h.s⟩
theorem Ke.c (h : Ke w B D A n cap off lo hi ps p t W) :
    W.cell? ⟨B, 0, none⟩ = some (.slice A n cap) ∧ W.cell? ⟨B, 1, none⟩ = some (.int .i64 off) ∧ W.cell? ⟨B, 2, none⟩ = some (.int .i64 lo) ∧ W.cell? ⟨B, 3, none⟩ = some (.int .i64 hi) ∧ W.cell? ⟨D, 0, none⟩ = some (.int .i64 p) ∧ W.cell? ⟨D, 1, none⟩ = some (.bool t) :=
  ⟨h.k.c.1, h.k.c.2.1, h.k.c.2.2.1, h.k.c.2.2.2, by rw [cell_row h.s]; rfl, by rw [cell_row h.s]; rfl⟩
end
def anyT (c : Cy) (x m : Nat) : Bool := ((joinsC c).take m).any fun l => decide (x ∈ l)
theorem anyT_succ {c : Cy} {x m : Nat} (h : m < (joinsC c).length) : anyT c x (m + 1) = (anyT c x m || decide (x ∈ (joinsC c)[m])) := by
  unfold anyT
  rw [List.take_succ_eq_append_getElem h, List.any_append]
  simp
theorem anyT_end (c : Cy) (x : Nat) : anyT c x (joinsC c).length = !(joinsC c).all fun l => !decide (x ∈ l) := by
  unfold anyT
  rw [List.take_length, Bool.eq_iff_iff, List.any_eq_true]
  simp only [Bool.not_eq_true', List.all_eq_false, Bool.not_eq_false', decide_eq_true_eq, Bool.not_not]
  constructor
  · rintro ⟨l, h1, h2⟩
    exact ⟨l, h1, by simpa using h2⟩
  · rintro ⟨l, h1, h2⟩
    exact ⟨l, h1, by simpa using h2⟩
def inT (l : List Nat) (x j : Nat) : Bool := decide (x ∈ l.take j)
theorem inT_succ {l : List Nat} {x j : Nat} (h : j < l.length) : inT l x (j + 1) = (inT l x j || decide (l[j] = x)) := by
  unfold inT
  rw [List.take_succ_eq_append_getElem h, Bool.eq_iff_iff]
  simp only [List.mem_append, List.mem_singleton, Bool.or_eq_true, decide_eq_true_eq]
  exact ⟨fun h => h.imp id Eq.symm, fun h => h.imp id Eq.symm⟩
def hasT (c : Cy) (x y m : Nat) : Bool := ((joinsC c).take m).any fun l => hasP l x y
theorem hasT_succ {c : Cy} {x y m : Nat} (h : m < (joinsC c).length) : hasT c x y (m + 1) = (hasT c x y m || hasP (joinsC c)[m] x y) := by
  unfold hasT
  rw [List.take_succ_eq_append_getElem h, List.any_append]
  simp
def rivT (c : Cy) (x k : Nat) : List Nat := ((codesL c.ps).take k).filter fun y => hasT c x y (joinsC c).length
theorem rivT_succ {c : Cy} {x k : Nat} (h : k < (codesL c.ps).length) : rivT c x (k + 1) = rivT c x k ++ if hasT c x (codesL c.ps)[k] (joinsC c).length = true then [(codesL c.ps)[k]] else [] := by
  unfold rivT
  rw [List.take_succ_eq_append_getElem h, List.filter_append, List.filter_cons]
  simp
theorem rivT_end (c : Cy) (x : Nat) : rivT c x (codesL c.ps).length = rivL c x := by
  unfold rivT rivL hasT
  rw [List.take_length, List.take_length]
theorem rivT_le (c : Cy) (x k : Nat) : (rivT c x k).length ≤ (codesL c.ps).length := by
  unfold rivT
  refine Nat.le_trans (List.length_filter_le _ _) ?_
  rw [List.length_take]
  exact Nat.min_le_right _ _

set_option maxRecDepth 100000 in
set_option maxHeartbeats 20000000 in
theorem riv33 (A : Option Addr) (n cap : Nat) (off lo hi p : Int) (t : Bool) (ps : List Pc) (w : World) (h : Pcs w A n ps) (hn : n ≤ 9223372036854775807) (hc : chkC ⟨ps, off, ⟨lo, hi⟩⟩ = 0 → n ≤ 5) :
    Calls Try.prog 33 #[cyl A n cap off lo hi, .agg #[.int .i64 p, .bool t]] w fun e w' => ∃ C m cp, e = .returned (.tuple #[.slice C m cp, .int .i64 (rivR ⟨ps, off, ⟨lo, hi⟩⟩ ⟨p, t⟩).2]) ∧ m ≤ cp ∧ Sts w' C m ((rivR ⟨ps, off, ⟨lo, hi⟩⟩ ⟨p, t⟩).1.map stC) ∧ Below w.heap.size w w' := by
  have hk : Kz w w.heap.size A n cap off lo hi ps none 0 [] _ := Kz.new (cap := cap) (off := off) (lo := lo) (hi := hi) h ⟨rfl, by omega⟩
  have hb0 := below_alloc_ (w.alloc (.cells #[.slice A n cap, .int .i64 off, .int .i64 lo, .int .i64 hi] 26)) (.cells #[.int .i64 p, .bool t] 28)
  have hr0 := heap_alloc_new_ (w.alloc (.cells #[.slice A n cap, .int .i64 off, .int .i64 lo, .int .i64 hi] 26)) (.cells #[.int .i64 p, .bool t] 28)
  rw [show (w.alloc (.cells #[.slice A n cap, .int .i64 off, .int .i64 lo, .int .i64 hi] 26)).heap.size = w.heap.size + 1 from by simp] at hr0
  have hK : Ke w w.heap.size (w.heap.size + 1) A n cap off lo hi ps p t _ := ⟨hk.next hb0, hr0⟩
  have K := Lib.hid hK
  have Hn := Lib.hid hn
  have Hc := Lib.hid hc
  clear h hn hk hc hb0 hr0 hK
  unfold cyl
  go_enter Try.func33, Try.ntmps33
  go_wp2_with fail
  generalize ((w.alloc (.cells #[.slice A n cap, .int .i64 off, .int .i64 lo, .int .i64 hi] 26)).alloc (.cells #[.int .i64 p, .bool t] 28)) = W0 at K ⊢
  generalize w.heap.size + 1 = D at K ⊢
  obtain ⟨B, hB⟩ : ∃ B, w.heap.size = B := ⟨_, rfl⟩
  replace K := Lib.hid (show Ke w B D A n cap off lo hi ps p t W0 from by rw [← hB]; exact K.out)
  rw [hB]
  clear hB
  refine (checkCyl17 A n cap off lo hi ps W0 K.out.k.pcs Hn.out).mono ?_
  rintro e W1 ⟨rfl, hb⟩
  replace K := Lib.hid (K.out.next hb)
  clear hb
  obtain ⟨r, hr⟩ : ∃ r, chkC ⟨ps, off, ⟨lo, hi⟩⟩ = r := ⟨_, rfl⟩
  rw [hr]
  have Hr := Lib.hid hr
  clear hr
  obtain ⟨c0, c1, c2, c3, c4, c5⟩ := K.out.c
  by_cases hr0 : r = 0
  · subst hr0
    go_wp2_with fail
    refine (isStep45 A n cap off lo hi p t ps _ K.out.k.pcs).mono ?_
    rintro e W2 ⟨rfl, hb⟩
    replace K := Lib.hid (K.out.next hb)
    clear hb c0 c1 c2 c3 c4 c5
    obtain ⟨sb, hsb⟩ : ∃ sb, stepB ps ⟨p, t⟩ = sb := ⟨_, rfl⟩
    rw [hsb]
    have Hsb := Lib.hid hsb
    clear hsb
    cases sb with
    | false =>
      have Hrv := Lib.hid (show rivR ⟨ps, off, ⟨lo, hi⟩⟩ ⟨p, t⟩ = ([], 2) from by
        unfold rivR
        rw [if_neg (by rw [Hr.out]; simp), if_pos Hsb.out])
      have HF := Lib.hid K.out.k.below
      go_wp2_with fail
      refine bodyPost_ret (v := .tuple #[.slice none 0 0, .int .i64 2]) (by simp [results, Try.results33, go_sem]) rfl ⟨none, 0, 0, by rw [Hrv.out], Nat.le_refl _, by rw [Hrv.out]; exact ⟨rfl, by omega⟩, HF.out⟩
    | true =>
      obtain ⟨x, hx⟩ : ∃ x, codeS ⟨p, t⟩ = x := ⟨_, rfl⟩
      have hsx := stC_codeS Hsb.out
      rw [hx] at hsx
      have Hx := Lib.hid hx
      have Hsx := Lib.hid hsx
      clear hx hsx
      obtain ⟨c0, c1, c2, c3, c4, c5⟩ := K.out.c
      go_wp2_with fail
      refine (all52 A n cap off lo hi ps _ K.out.k.pcs (Hc.out Hr.out) Hr.out).mono ?_
      rintro e W3 ⟨v, rfl, hL, hb⟩
      replace K := Lib.hid (K.out.next hb)
      obtain ⟨C9, cp, rfl, hcp, hpos, hcell⟩ := hL.read
      obtain ⟨N, hN⟩ : ∃ N, (joinsC ⟨ps, off, ⟨lo, hi⟩⟩).length = N := ⟨_, rfl⟩
      have HN := Lib.hid hN
      rw [hN] at hcp hpos ⊢
      have Hcell := Lib.hid hcell
      have hn5 := Hc.out Hr.out
      have Hpl := Lib.hid K.out.k.pcs.1
      have HN5 := Lib.hid (show N ≤ 100000 from by
        rw [← HN.out, ← pre_joins]
        refine Nat.le_trans (prefs_le (T := tabOf ⟨ps, off, ⟨lo, hi⟩⟩) (cs := codesL ps) (m := 10) (Nat.le_trans (codes_len_ ps ps.length) (by rw [Hpl.out]; omega)) ps.length) ?_
        have h4 : (10 : Nat) ^ ps.length ≤ 10 ^ 5 := Nat.pow_le_pow_right (by omega) (by rw [Hpl.out]; omega)
        have h5 : (10 : Nat) ^ 5 = 100000 := by decide
        omega)
      have hN5 := HN5.out
      -- what a round reads of a list
      have Hrd := Lib.hid (show ∀ m (hm : m < N) W, Below W3.heap.size W3 W → ∃ g gx ln cx M, C9 = some ⟨g, 0, none⟩ ∧ W.cell? ⟨g, m, none⟩ = some (.slice (some ⟨gx, 0, none⟩) ln cx) ∧ M ∈ joinsC ⟨ps, off, ⟨lo, hi⟩⟩ ∧ (∀ hm2 : m < (joinsC ⟨ps, off, ⟨lo, hi⟩⟩).length, (joinsC ⟨ps, off, ⟨lo, hi⟩⟩)[m] = M) ∧ M.length = ln ∧ ln ≤ 8 ∧ Sts W (some ⟨gx, 0, none⟩) ln (M.map stC) from fun m hm W hW => by
        have hmj : m < (joinsC ⟨ps, off, ⟨lo, hi⟩⟩).length := by rw [HN.out]; exact hm
        obtain ⟨g, xv, hg, hxv, ho⟩ := Hcell.out m hmj
        obtain ⟨gx, cx, rfl, hcx, hS⟩ := ho.sts
        refine ⟨g, gx, _, cx, (joinsC ⟨ps, off, ⟨lo, hi⟩⟩)[m], hg, (hW.cell (p := ⟨g, m, none⟩) (lt_of_cell hxv)).trans hxv, List.getElem_mem hmj, fun _ => rfl, rfl, ?_, hS.below hW (Nat.le_refl _)⟩
        rw [(join_way (List.getElem_mem hmj)).1]
        show ps.length ≤ 8
        rw [Hpl.out]
        omega)
      clear hcell hpos hcp hN hL hb c0 c1 c2 c3 c4 c5
      go_wp2_with fail
      go_loopw [7, 8] (fun v i wr => ∃ k : Nat, i = .int .i64 (k : Int) ∧ k ≤ N ∧ v = .bool (anyT ⟨ps, off, ⟨lo, hi⟩⟩ x k) ∧ Below W3.heap.size W3 wr) (fun _ i _ => N - (intOf i).toNat)
      case atStart => exact ⟨0, by rfl, Nat.zero_le _, by rfl, Below.refl _ _⟩
      case round =>
        obtain ⟨k, rfl, hk, rfl, hB⟩ := hrel
        obtain ⟨Wk, rfl⟩ : ∃ Wk, Wk = wr := ⟨_, rfl⟩
        have HB := Lib.hid hB
        clear hB
        by_cases hlk : k < N
        · obtain ⟨g, gx, ln, cx, M, rfl, -, hMj, hMe, hMl, hl8, -⟩ := Hrd.out k hlk Wk HB.out
          have han := anyT_succ (c := ⟨ps, off, ⟨lo, hi⟩⟩) (x := x) (m := k) (by rw [HN.out]; exact hlk)
          rw [hMe (by rw [HN.out]; exact hlk)] at han
          have Han := Lib.hid han
          have HMl := Lib.hid hMl
          obtain ⟨av, hav⟩ : ∃ av, anyT ⟨ps, off, ⟨lo, hi⟩⟩ x k = av := ⟨_, rfl⟩
          rw [hav] at Han ⊢
          have HMe := Lib.hid hMe
          clear han hMj hMe hMl hav
          go_wp2_with fail
          go_loopw [7, 9] (fun v i wr => ∃ j : Nat, i = .int .i64 (j : Int) ∧ j ≤ ln ∧ v = .bool (av || inT M x j) ∧ Below W3.heap.size W3 wr) (fun _ i _ => ln - (intOf i).toNat)
          case atStart => exact ⟨0, by rfl, Nat.zero_le _, by simp [inT], HB.out⟩
          case round =>
            clear HB
            obtain ⟨j, rfl, hj, rfl, hB⟩ := hrel
            obtain ⟨Wj, rfl⟩ : ∃ Wj, Wj = wr := ⟨_, rfl⟩
            have HB := Lib.hid hB
            clear hB
            obtain ⟨g', gx', ln', cx', M', hg', hxv, -, hMe', hMl', -, hS'⟩ := Hrd.out k hlk Wj HB.out
            obtain rfl : g = g' := by injection hg' with e1; injection e1
            have hkj : k < (joinsC ⟨ps, off, ⟨lo, hi⟩⟩).length := by rw [HN.out]; exact hlk
            obtain rfl : M = M' := by rw [← HMe.out hkj, ← hMe' hkj]
            obtain rfl : ln = ln' := by rw [← HMl.out, ← hMl']
            have i0 : (0 : Int) ≤ (k : Int) := by omega
            have i1 : (k : Int) < (N : Int) := by omega
            by_cases hlj : j < ln
            · have hjM : j < M.length := by rw [HMl.out]; exact hlj
              obtain ⟨bx, ox, ex, hcx⟩ := hS'.2 (by omega)
              obtain ⟨rfl, rfl⟩ : gx' = bx ∧ 0 = ox := by cases ex; exact ⟨rfl, rfl⟩
              obtain ⟨e0, e1⟩ := hcx j hlj
              rw [sAt_map hjM, Nat.zero_add] at e0 e1
              obtain ⟨-, -, -, -, c4, c5⟩ := (K.out.next HB.out).c
              have hin := inT_succ (x := x) hjM
              have hde : decide (M[j] = x) = decide (stC M[j] = ⟨p, t⟩) := by
                rw [decide_eq_decide, ← Hsx.out]
                exact ⟨fun e => by rw [e], stC_inj⟩
              rw [hde] at hin
              obtain ⟨u, hu⟩ : ∃ u, stC M[j] = u := ⟨_, rfl⟩
              rw [hu] at e0 e1 hin
              obtain ⟨up, ut⟩ := u
              simp only at e0 e1
              obtain ⟨fv, hfv⟩ : ∃ fv, (av || inT M x j) = fv := ⟨_, rfl⟩
              have hnx : (av || inT M x (j + 1)) = (fv || decide ((⟨up, ut⟩ : St) = ⟨p, t⟩)) := by rw [hin, ← Bool.or_assoc, hfv]
              rw [hfv]
              have Hnx := Lib.hid hnx
              have i2 : (0 : Int) ≤ (j : Int) := by omega
              have i3 : (j : Int) < (ln : Int) := by omega
              have i4 : j < ln := hlj
              clear hnx hfv hin hde hu hcx ex hS' hMl' hMe' hg' hkj hjM
              cases fv with
              | true =>
                have Hv := Lib.hid (show (av || inT M x (j + 1)) = true from by rw [Hnx.out, Bool.true_or])
                go_wp2_with fail
                refine wp_region_held_drew (S := fun w2 => Below Wj.heap.size Wj w2) (by kernel_rfl) (drew_b _ _) (fun hS0 => ?_)
                refine wpAnyH_take (i := 0) (oi := { dst := some 41, op := Go.Op.move (Go.Operand.tmp 7), type := 4, pos := "ref.go:238", after := #[], guard := none }) (v := .bool true) rfl (by kernel_rfl) (by kernel_rfl) (by kernel_rfl) (fun _ _ _ h => h) (Or.inl ⟨by rfl, by intro w2 hSw; (try dsimp only at hSw); have hx0 := (hSw.cell (p := ⟨g, k, none⟩) (lt_of_cell hxv)).trans hxv; have e0 := (hSw.cell (p := ⟨gx', j * 2, none⟩) (lt_of_cell e0)).trans e0; have e1 := (hSw.cell (p := ⟨gx', j * 2 + 1, none⟩) (lt_of_cell e1)).trans e1; have c4 := (hSw.cell (p := ⟨D, 0, none⟩) (lt_of_cell c4)).trans c4; have c5 := (hSw.cell (p := ⟨D, 1, none⟩) (lt_of_cell c5)).trans c5; go_simp⟩) hS0 ?_
                try simp only [Act.put, List.setIfInBounds_toArray, List.set_cons_zero, List.set_cons_succ]
                refine wpAnyH_take (i := 1) (oi := { dst := some 42, op := Go.Op.move (Go.Operand.tmp 41), type := 4, pos := "ref.go:238", after := #[{ on := 0, ground := Go.Ground.data }], guard := none }) (v := .bool true) rfl (by kernel_rfl) (by kernel_rfl) (by kernel_rfl) (fun _ _ _ h => h) (Or.inl ⟨by rfl, by intro w2 hSw; (try dsimp only at hSw); have hx0 := (hSw.cell (p := ⟨g, k, none⟩) (lt_of_cell hxv)).trans hxv; have e0 := (hSw.cell (p := ⟨gx', j * 2, none⟩) (lt_of_cell e0)).trans e0; have e1 := (hSw.cell (p := ⟨gx', j * 2 + 1, none⟩) (lt_of_cell e1)).trans e1; have c4 := (hSw.cell (p := ⟨D, 0, none⟩) (lt_of_cell c4)).trans c4; have c5 := (hSw.cell (p := ⟨D, 1, none⟩) (lt_of_cell c5)).trans c5; go_simp⟩) hS0 ?_
                try simp only [Act.put, List.setIfInBounds_toArray, List.set_cons_zero, List.set_cons_succ]
                refine wpAnyH_take (i := 2) (oi := { dst := some 43, op := Go.Op.move (Go.Operand.tmp 6), type := 92, pos := "ref.go:238", after := #[{ on := 1, ground := Go.Ground.guard }], guard := some (1, false) }) (v := undef) rfl (by kernel_rfl) (by kernel_rfl) (by kernel_rfl) (fun _ _ _ h => h) (Or.inr ⟨by rfl, rfl⟩) hS0 ?_
                try simp only [Act.put, List.setIfInBounds_toArray, List.set_cons_zero, List.set_cons_succ]
                refine wpAnyH_take (i := 3) (oi := { dst := some 44, op := Go.Op.move (Go.Operand.tmp 8), type := 3, pos := "ref.go:238", after := #[{ on := 1, ground := Go.Ground.guard }], guard := some (1, false) }) (v := undef) rfl (by kernel_rfl) (by kernel_rfl) (by kernel_rfl) (fun _ _ _ h => h) (Or.inr ⟨by rfl, rfl⟩) hS0 ?_
                try simp only [Act.put, List.setIfInBounds_toArray, List.set_cons_zero, List.set_cons_succ]
                refine wpAnyH_take (i := 4) (oi := { dst := some 45, op := Go.Op.indexAddr 92 (Go.Operand.tmp 43) (Go.Operand.tmp 44), type := 0, pos := "ref.go:238", after := #[{ on := 2, ground := Go.Ground.data }, { on := 3, ground := Go.Ground.data }, { on := 1, ground := Go.Ground.guard }], guard := some (1, false) }) (v := undef) rfl (by kernel_rfl) (by kernel_rfl) (by kernel_rfl) (fun _ _ _ h => h) (Or.inr ⟨by rfl, rfl⟩) hS0 ?_
                try simp only [Act.put, List.setIfInBounds_toArray, List.set_cons_zero, List.set_cons_succ]
                refine wpAnyH_take (i := 5) (oi := { dst := some 46, op := Go.Op.load 29 (Go.Operand.tmp 45), type := 29, pos := "ref.go:238", after := #[{ on := 4, ground := Go.Ground.data }, { on := 1, ground := Go.Ground.guard }], guard := some (1, false) }) (v := undef) rfl (by kernel_rfl) (by kernel_rfl) (by kernel_rfl) (fun _ _ _ h => h) (Or.inr ⟨by rfl, rfl⟩) hS0 ?_
                try simp only [Act.put, List.setIfInBounds_toArray, List.set_cons_zero, List.set_cons_succ]
                refine wpAnyH_take (i := 6) (oi := { dst := some 47, op := Go.Op.move (Go.Operand.tmp 9), type := 3, pos := "ref.go:238", after := #[{ on := 1, ground := Go.Ground.guard }], guard := some (1, false) }) (v := undef) rfl (by kernel_rfl) (by kernel_rfl) (by kernel_rfl) (fun _ _ _ h => h) (Or.inr ⟨by rfl, rfl⟩) hS0 ?_
                try simp only [Act.put, List.setIfInBounds_toArray, List.set_cons_zero, List.set_cons_succ]
                refine wpAnyH_take (i := 7) (oi := { dst := some 48, op := Go.Op.indexAddr 29 (Go.Operand.tmp 46) (Go.Operand.tmp 47), type := 0, pos := "ref.go:238", after := #[{ on := 5, ground := Go.Ground.data }, { on := 6, ground := Go.Ground.data }, { on := 1, ground := Go.Ground.guard }], guard := some (1, false) }) (v := undef) rfl (by kernel_rfl) (by kernel_rfl) (by kernel_rfl) (fun _ _ _ h => h) (Or.inr ⟨by rfl, rfl⟩) hS0 ?_
                try simp only [Act.put, List.setIfInBounds_toArray, List.set_cons_zero, List.set_cons_succ]
                refine wpAnyH_take (i := 8) (oi := { dst := some 49, op := Go.Op.load 28 (Go.Operand.tmp 48), type := 28, pos := "ref.go:238", after := #[{ on := 7, ground := Go.Ground.data }, { on := 1, ground := Go.Ground.guard }], guard := some (1, false) }) (v := undef) rfl (by kernel_rfl) (by kernel_rfl) (by kernel_rfl) (fun _ _ _ h => h) (Or.inr ⟨by rfl, rfl⟩) hS0 ?_
                try simp only [Act.put, List.setIfInBounds_toArray, List.set_cons_zero, List.set_cons_succ]
                refine wpAnyH_take (i := 9) (oi := { dst := some 50, op := Go.Op.load 28 (Go.Operand.tmp 3), type := 28, pos := "ref.go:238", after := #[{ on := 1, ground := Go.Ground.guard }], guard := some (1, false) }) (v := undef) rfl (by kernel_rfl) (by kernel_rfl) (by kernel_rfl) (fun _ _ _ h => h) (Or.inr ⟨by rfl, rfl⟩) hS0 ?_
                try simp only [Act.put, List.setIfInBounds_toArray, List.set_cons_zero, List.set_cons_succ]
                refine wpAnyH_take (i := 10) (oi := { dst := some 51, op := Go.Op.binOp Go.BinOp.eql 28 (Go.Operand.tmp 49) (Go.Operand.tmp 50) 28, type := 4, pos := "ref.go:238", after := #[{ on := 8, ground := Go.Ground.data }, { on := 9, ground := Go.Ground.data }, { on := 1, ground := Go.Ground.guard }], guard := some (1, false) }) (v := undef) rfl (by kernel_rfl) (by kernel_rfl) (by kernel_rfl) (fun _ _ _ h => h) (Or.inr ⟨by rfl, rfl⟩) hS0 ?_
                try simp only [Act.put, List.setIfInBounds_toArray, List.set_cons_zero, List.set_cons_succ]
                refine wpAnyH_take (i := 11) (oi := { dst := some 52, op := Go.Op.pick (Go.Operand.tmp 42) (Go.Operand.const (Go.Value.bool true)) (Go.Operand.tmp 51), type := 4, pos := "ref.go:238", after := #[{ on := 1, ground := Go.Ground.data }, { on := 10, ground := Go.Ground.data }], guard := none }) (v := .bool true) rfl (by kernel_rfl) (by kernel_rfl) (by kernel_rfl) (fun _ _ _ h => h) (Or.inl ⟨by rfl, by intro w2 hSw; (try dsimp only at hSw); have hx0 := (hSw.cell (p := ⟨g, k, none⟩) (lt_of_cell hxv)).trans hxv; have e0 := (hSw.cell (p := ⟨gx', j * 2, none⟩) (lt_of_cell e0)).trans e0; have e1 := (hSw.cell (p := ⟨gx', j * 2 + 1, none⟩) (lt_of_cell e1)).trans e1; have c4 := (hSw.cell (p := ⟨D, 0, none⟩) (lt_of_cell c4)).trans c4; have c5 := (hSw.cell (p := ⟨D, 1, none⟩) (lt_of_cell c5)).trans c5; go_simp⟩) hS0 ?_
                try simp only [Act.put, List.setIfInBounds_toArray, List.set_cons_zero, List.set_cons_succ]
                refine wpAnyH_take (i := 12) (oi := { dst := some 7, op := Go.Op.assign (Go.Operand.tmp 52), type := 4, pos := "ref.go:238", after := #[{ on := 11, ground := Go.Ground.data }, { on := 1, ground := Go.Ground.chain }, { on := 0, ground := Go.Ground.phase }, { on := 1, ground := Go.Ground.phase }, { on := 2, ground := Go.Ground.phase }, { on := 3, ground := Go.Ground.phase }, { on := 4, ground := Go.Ground.phase }, { on := 5, ground := Go.Ground.phase }, { on := 6, ground := Go.Ground.phase }, { on := 7, ground := Go.Ground.phase }, { on := 8, ground := Go.Ground.phase }, { on := 9, ground := Go.Ground.phase }, { on := 10, ground := Go.Ground.phase }, { on := 11, ground := Go.Ground.phase }], guard := none }) (v := .bool true) rfl (by kernel_rfl) (by kernel_rfl) (by kernel_rfl) (fun _ _ _ h => h) (Or.inl ⟨by rfl, by intro w2 hSw; (try dsimp only at hSw); have hx0 := (hSw.cell (p := ⟨g, k, none⟩) (lt_of_cell hxv)).trans hxv; have e0 := (hSw.cell (p := ⟨gx', j * 2, none⟩) (lt_of_cell e0)).trans e0; have e1 := (hSw.cell (p := ⟨gx', j * 2 + 1, none⟩) (lt_of_cell e1)).trans e1; have c4 := (hSw.cell (p := ⟨D, 0, none⟩) (lt_of_cell c4)).trans c4; have c5 := (hSw.cell (p := ⟨D, 1, none⟩) (lt_of_cell c5)).trans c5; go_simp⟩) hS0 ?_
                try simp only [Act.put, List.setIfInBounds_toArray, List.set_cons_zero, List.set_cons_succ]
                refine wpAnyH_done (by kernel_rfl) ?_ _
                have HB7 := Lib.hid (HB.out.trans (hS0.mono HB.out.size))
                clear hS0 e0 e1 c4 c5 hxv i0 i1 i2 i3
                go_wp2_with fail
                go_roundw
                case rel => exact ⟨j + 1, by go_num, by omega, by rw [Hv.out], HB7.out⟩
                case measure => simp [intOf]; omega
              | false =>
                by_cases hp : up = p
                · by_cases hu : ut = t
                  · have Hv := Lib.hid (show (av || inT M x (j + 1)) = true from by rw [Hnx.out, hp, hu]; simp)
                    subst hp
                    subst hu
                    go_wp2_with fail
                    refine wp_region_held_drew (S := fun w2 => Below Wj.heap.size Wj w2) (by kernel_rfl) (drew_b _ _) (fun hS0 => ?_)
                    refine wpAnyH_take (i := 0) (oi := { dst := some 41, op := Go.Op.move (Go.Operand.tmp 7), type := 4, pos := "ref.go:238", after := #[], guard := none }) (v := .bool false) rfl (by kernel_rfl) (by kernel_rfl) (by kernel_rfl) (fun _ _ _ h => h) (Or.inl ⟨by rfl, by intro w2 hSw; (try dsimp only at hSw); have hx0 := (hSw.cell (p := ⟨g, k, none⟩) (lt_of_cell hxv)).trans hxv; have e0 := (hSw.cell (p := ⟨gx', j * 2, none⟩) (lt_of_cell e0)).trans e0; have e1 := (hSw.cell (p := ⟨gx', j * 2 + 1, none⟩) (lt_of_cell e1)).trans e1; have c4 := (hSw.cell (p := ⟨D, 0, none⟩) (lt_of_cell c4)).trans c4; have c5 := (hSw.cell (p := ⟨D, 1, none⟩) (lt_of_cell c5)).trans c5; go_simp⟩) hS0 ?_
                    try simp only [Act.put, List.setIfInBounds_toArray, List.set_cons_zero, List.set_cons_succ]
                    refine wpAnyH_take (i := 1) (oi := { dst := some 42, op := Go.Op.move (Go.Operand.tmp 41), type := 4, pos := "ref.go:238", after := #[{ on := 0, ground := Go.Ground.data }], guard := none }) (v := .bool false) rfl (by kernel_rfl) (by kernel_rfl) (by kernel_rfl) (fun _ _ _ h => h) (Or.inl ⟨by rfl, by intro w2 hSw; (try dsimp only at hSw); have hx0 := (hSw.cell (p := ⟨g, k, none⟩) (lt_of_cell hxv)).trans hxv; have e0 := (hSw.cell (p := ⟨gx', j * 2, none⟩) (lt_of_cell e0)).trans e0; have e1 := (hSw.cell (p := ⟨gx', j * 2 + 1, none⟩) (lt_of_cell e1)).trans e1; have c4 := (hSw.cell (p := ⟨D, 0, none⟩) (lt_of_cell c4)).trans c4; have c5 := (hSw.cell (p := ⟨D, 1, none⟩) (lt_of_cell c5)).trans c5; go_simp⟩) hS0 ?_
                    try simp only [Act.put, List.setIfInBounds_toArray, List.set_cons_zero, List.set_cons_succ]
                    refine wpAnyH_take (i := 2) (oi := { dst := some 43, op := Go.Op.move (Go.Operand.tmp 6), type := 92, pos := "ref.go:238", after := #[{ on := 1, ground := Go.Ground.guard }], guard := some (1, false) }) (v := .slice (some ⟨g, 0, none⟩) N cp) rfl (by kernel_rfl) (by kernel_rfl) (by kernel_rfl) (fun _ _ _ h => h) (Or.inl ⟨by rfl, by intro w2 hSw; (try dsimp only at hSw); have hx0 := (hSw.cell (p := ⟨g, k, none⟩) (lt_of_cell hxv)).trans hxv; have e0 := (hSw.cell (p := ⟨gx', j * 2, none⟩) (lt_of_cell e0)).trans e0; have e1 := (hSw.cell (p := ⟨gx', j * 2 + 1, none⟩) (lt_of_cell e1)).trans e1; have c4 := (hSw.cell (p := ⟨D, 0, none⟩) (lt_of_cell c4)).trans c4; have c5 := (hSw.cell (p := ⟨D, 1, none⟩) (lt_of_cell c5)).trans c5; go_simp⟩) hS0 ?_
                    try simp only [Act.put, List.setIfInBounds_toArray, List.set_cons_zero, List.set_cons_succ]
                    refine wpAnyH_take (i := 3) (oi := { dst := some 44, op := Go.Op.move (Go.Operand.tmp 8), type := 3, pos := "ref.go:238", after := #[{ on := 1, ground := Go.Ground.guard }], guard := some (1, false) }) (v := .int .i64 (k : Int)) rfl (by kernel_rfl) (by kernel_rfl) (by kernel_rfl) (fun _ _ _ h => h) (Or.inl ⟨by rfl, by intro w2 hSw; (try dsimp only at hSw); have hx0 := (hSw.cell (p := ⟨g, k, none⟩) (lt_of_cell hxv)).trans hxv; have e0 := (hSw.cell (p := ⟨gx', j * 2, none⟩) (lt_of_cell e0)).trans e0; have e1 := (hSw.cell (p := ⟨gx', j * 2 + 1, none⟩) (lt_of_cell e1)).trans e1; have c4 := (hSw.cell (p := ⟨D, 0, none⟩) (lt_of_cell c4)).trans c4; have c5 := (hSw.cell (p := ⟨D, 1, none⟩) (lt_of_cell c5)).trans c5; go_simp⟩) hS0 ?_
                    try simp only [Act.put, List.setIfInBounds_toArray, List.set_cons_zero, List.set_cons_succ]
                    refine wpAnyH_take (i := 4) (oi := { dst := some 45, op := Go.Op.indexAddr 92 (Go.Operand.tmp 43) (Go.Operand.tmp 44), type := 0, pos := "ref.go:238", after := #[{ on := 2, ground := Go.Ground.data }, { on := 3, ground := Go.Ground.data }, { on := 1, ground := Go.Ground.guard }], guard := some (1, false) }) (v := .pointer (some ⟨g, k, none⟩)) rfl (by kernel_rfl) (by kernel_rfl) (by kernel_rfl) (fun _ _ _ h => h) (Or.inl ⟨by rfl, by intro w2 hSw; (try dsimp only at hSw); have hx0 := (hSw.cell (p := ⟨g, k, none⟩) (lt_of_cell hxv)).trans hxv; have e0 := (hSw.cell (p := ⟨gx', j * 2, none⟩) (lt_of_cell e0)).trans e0; have e1 := (hSw.cell (p := ⟨gx', j * 2 + 1, none⟩) (lt_of_cell e1)).trans e1; have c4 := (hSw.cell (p := ⟨D, 0, none⟩) (lt_of_cell c4)).trans c4; have c5 := (hSw.cell (p := ⟨D, 1, none⟩) (lt_of_cell c5)).trans c5; go_simp⟩) hS0 ?_
                    try simp only [Act.put, List.setIfInBounds_toArray, List.set_cons_zero, List.set_cons_succ]
                    refine wpAnyH_take (i := 5) (oi := { dst := some 46, op := Go.Op.load 29 (Go.Operand.tmp 45), type := 29, pos := "ref.go:238", after := #[{ on := 4, ground := Go.Ground.data }, { on := 1, ground := Go.Ground.guard }], guard := some (1, false) }) (v := .slice (some ⟨gx', 0, none⟩) ln cx') rfl (by kernel_rfl) (by kernel_rfl) (by kernel_rfl) (fun _ _ _ h => h) (Or.inl ⟨by rfl, by intro w2 hSw; (try dsimp only at hSw); have hx0 := (hSw.cell (p := ⟨g, k, none⟩) (lt_of_cell hxv)).trans hxv; have e0 := (hSw.cell (p := ⟨gx', j * 2, none⟩) (lt_of_cell e0)).trans e0; have e1 := (hSw.cell (p := ⟨gx', j * 2 + 1, none⟩) (lt_of_cell e1)).trans e1; have c4 := (hSw.cell (p := ⟨D, 0, none⟩) (lt_of_cell c4)).trans c4; have c5 := (hSw.cell (p := ⟨D, 1, none⟩) (lt_of_cell c5)).trans c5; go_simp⟩) hS0 ?_
                    try simp only [Act.put, List.setIfInBounds_toArray, List.set_cons_zero, List.set_cons_succ]
                    refine wpAnyH_take (i := 6) (oi := { dst := some 47, op := Go.Op.move (Go.Operand.tmp 9), type := 3, pos := "ref.go:238", after := #[{ on := 1, ground := Go.Ground.guard }], guard := some (1, false) }) (v := .int .i64 (j : Int)) rfl (by kernel_rfl) (by kernel_rfl) (by kernel_rfl) (fun _ _ _ h => h) (Or.inl ⟨by rfl, by intro w2 hSw; (try dsimp only at hSw); have hx0 := (hSw.cell (p := ⟨g, k, none⟩) (lt_of_cell hxv)).trans hxv; have e0 := (hSw.cell (p := ⟨gx', j * 2, none⟩) (lt_of_cell e0)).trans e0; have e1 := (hSw.cell (p := ⟨gx', j * 2 + 1, none⟩) (lt_of_cell e1)).trans e1; have c4 := (hSw.cell (p := ⟨D, 0, none⟩) (lt_of_cell c4)).trans c4; have c5 := (hSw.cell (p := ⟨D, 1, none⟩) (lt_of_cell c5)).trans c5; go_simp⟩) hS0 ?_
                    try simp only [Act.put, List.setIfInBounds_toArray, List.set_cons_zero, List.set_cons_succ]
                    refine wpAnyH_take (i := 7) (oi := { dst := some 48, op := Go.Op.indexAddr 29 (Go.Operand.tmp 46) (Go.Operand.tmp 47), type := 0, pos := "ref.go:238", after := #[{ on := 5, ground := Go.Ground.data }, { on := 6, ground := Go.Ground.data }, { on := 1, ground := Go.Ground.guard }], guard := some (1, false) }) (v := .pointer (some ⟨gx', j * 2, none⟩)) rfl (by kernel_rfl) (by kernel_rfl) (by kernel_rfl) (fun _ _ _ h => h) (Or.inl ⟨by rfl, by intro w2 hSw; (try dsimp only at hSw); have hx0 := (hSw.cell (p := ⟨g, k, none⟩) (lt_of_cell hxv)).trans hxv; have e0 := (hSw.cell (p := ⟨gx', j * 2, none⟩) (lt_of_cell e0)).trans e0; have e1 := (hSw.cell (p := ⟨gx', j * 2 + 1, none⟩) (lt_of_cell e1)).trans e1; have c4 := (hSw.cell (p := ⟨D, 0, none⟩) (lt_of_cell c4)).trans c4; have c5 := (hSw.cell (p := ⟨D, 1, none⟩) (lt_of_cell c5)).trans c5; go_simp⟩) hS0 ?_
                    try simp only [Act.put, List.setIfInBounds_toArray, List.set_cons_zero, List.set_cons_succ]
                    refine wpAnyH_take (i := 8) (oi := { dst := some 49, op := Go.Op.load 28 (Go.Operand.tmp 48), type := 28, pos := "ref.go:238", after := #[{ on := 7, ground := Go.Ground.data }, { on := 1, ground := Go.Ground.guard }], guard := some (1, false) }) (v := .agg #[.int .i64 up, .bool ut]) rfl (by kernel_rfl) (by kernel_rfl) (by kernel_rfl) (fun _ _ _ h => h) (Or.inl ⟨by rfl, by intro w2 hSw; (try dsimp only at hSw); have hx0 := (hSw.cell (p := ⟨g, k, none⟩) (lt_of_cell hxv)).trans hxv; have e0 := (hSw.cell (p := ⟨gx', j * 2, none⟩) (lt_of_cell e0)).trans e0; have e1 := (hSw.cell (p := ⟨gx', j * 2 + 1, none⟩) (lt_of_cell e1)).trans e1; have c4 := (hSw.cell (p := ⟨D, 0, none⟩) (lt_of_cell c4)).trans c4; have c5 := (hSw.cell (p := ⟨D, 1, none⟩) (lt_of_cell c5)).trans c5; go_simp⟩) hS0 ?_
                    try simp only [Act.put, List.setIfInBounds_toArray, List.set_cons_zero, List.set_cons_succ]
                    refine wpAnyH_take (i := 9) (oi := { dst := some 50, op := Go.Op.load 28 (Go.Operand.tmp 3), type := 28, pos := "ref.go:238", after := #[{ on := 1, ground := Go.Ground.guard }], guard := some (1, false) }) (v := .agg #[.int .i64 up, .bool ut]) rfl (by kernel_rfl) (by kernel_rfl) (by kernel_rfl) (fun _ _ _ h => h) (Or.inl ⟨by rfl, by intro w2 hSw; (try dsimp only at hSw); have hx0 := (hSw.cell (p := ⟨g, k, none⟩) (lt_of_cell hxv)).trans hxv; have e0 := (hSw.cell (p := ⟨gx', j * 2, none⟩) (lt_of_cell e0)).trans e0; have e1 := (hSw.cell (p := ⟨gx', j * 2 + 1, none⟩) (lt_of_cell e1)).trans e1; have c4 := (hSw.cell (p := ⟨D, 0, none⟩) (lt_of_cell c4)).trans c4; have c5 := (hSw.cell (p := ⟨D, 1, none⟩) (lt_of_cell c5)).trans c5; go_simp⟩) hS0 ?_
                    try simp only [Act.put, List.setIfInBounds_toArray, List.set_cons_zero, List.set_cons_succ]
                    refine wpAnyH_take (i := 10) (oi := { dst := some 51, op := Go.Op.binOp Go.BinOp.eql 28 (Go.Operand.tmp 49) (Go.Operand.tmp 50) 28, type := 4, pos := "ref.go:238", after := #[{ on := 8, ground := Go.Ground.data }, { on := 9, ground := Go.Ground.data }, { on := 1, ground := Go.Ground.guard }], guard := some (1, false) }) (v := .bool true) rfl (by kernel_rfl) (by kernel_rfl) (by kernel_rfl) (fun _ _ _ h => h) (Or.inl ⟨by rfl, by intro w2 hSw; (try dsimp only at hSw); have hx0 := (hSw.cell (p := ⟨g, k, none⟩) (lt_of_cell hxv)).trans hxv; have e0 := (hSw.cell (p := ⟨gx', j * 2, none⟩) (lt_of_cell e0)).trans e0; have e1 := (hSw.cell (p := ⟨gx', j * 2 + 1, none⟩) (lt_of_cell e1)).trans e1; have c4 := (hSw.cell (p := ⟨D, 0, none⟩) (lt_of_cell c4)).trans c4; have c5 := (hSw.cell (p := ⟨D, 1, none⟩) (lt_of_cell c5)).trans c5; go_simp⟩) hS0 ?_
                    try simp only [Act.put, List.setIfInBounds_toArray, List.set_cons_zero, List.set_cons_succ]
                    refine wpAnyH_take (i := 11) (oi := { dst := some 52, op := Go.Op.pick (Go.Operand.tmp 42) (Go.Operand.const (Go.Value.bool true)) (Go.Operand.tmp 51), type := 4, pos := "ref.go:238", after := #[{ on := 1, ground := Go.Ground.data }, { on := 10, ground := Go.Ground.data }], guard := none }) (v := .bool true) rfl (by kernel_rfl) (by kernel_rfl) (by kernel_rfl) (fun _ _ _ h => h) (Or.inl ⟨by rfl, by intro w2 hSw; (try dsimp only at hSw); have hx0 := (hSw.cell (p := ⟨g, k, none⟩) (lt_of_cell hxv)).trans hxv; have e0 := (hSw.cell (p := ⟨gx', j * 2, none⟩) (lt_of_cell e0)).trans e0; have e1 := (hSw.cell (p := ⟨gx', j * 2 + 1, none⟩) (lt_of_cell e1)).trans e1; have c4 := (hSw.cell (p := ⟨D, 0, none⟩) (lt_of_cell c4)).trans c4; have c5 := (hSw.cell (p := ⟨D, 1, none⟩) (lt_of_cell c5)).trans c5; go_simp⟩) hS0 ?_
                    try simp only [Act.put, List.setIfInBounds_toArray, List.set_cons_zero, List.set_cons_succ]
                    refine wpAnyH_take (i := 12) (oi := { dst := some 7, op := Go.Op.assign (Go.Operand.tmp 52), type := 4, pos := "ref.go:238", after := #[{ on := 11, ground := Go.Ground.data }, { on := 1, ground := Go.Ground.chain }, { on := 0, ground := Go.Ground.phase }, { on := 1, ground := Go.Ground.phase }, { on := 2, ground := Go.Ground.phase }, { on := 3, ground := Go.Ground.phase }, { on := 4, ground := Go.Ground.phase }, { on := 5, ground := Go.Ground.phase }, { on := 6, ground := Go.Ground.phase }, { on := 7, ground := Go.Ground.phase }, { on := 8, ground := Go.Ground.phase }, { on := 9, ground := Go.Ground.phase }, { on := 10, ground := Go.Ground.phase }, { on := 11, ground := Go.Ground.phase }], guard := none }) (v := .bool true) rfl (by kernel_rfl) (by kernel_rfl) (by kernel_rfl) (fun _ _ _ h => h) (Or.inl ⟨by rfl, by intro w2 hSw; (try dsimp only at hSw); have hx0 := (hSw.cell (p := ⟨g, k, none⟩) (lt_of_cell hxv)).trans hxv; have e0 := (hSw.cell (p := ⟨gx', j * 2, none⟩) (lt_of_cell e0)).trans e0; have e1 := (hSw.cell (p := ⟨gx', j * 2 + 1, none⟩) (lt_of_cell e1)).trans e1; have c4 := (hSw.cell (p := ⟨D, 0, none⟩) (lt_of_cell c4)).trans c4; have c5 := (hSw.cell (p := ⟨D, 1, none⟩) (lt_of_cell c5)).trans c5; go_simp⟩) hS0 ?_
                    try simp only [Act.put, List.setIfInBounds_toArray, List.set_cons_zero, List.set_cons_succ]
                    refine wpAnyH_done (by kernel_rfl) ?_ _
                    have HB7 := Lib.hid (HB.out.trans (hS0.mono HB.out.size))
                    clear hS0 e0 e1 c4 c5 hxv i0 i1 i2 i3
                    go_wp2_with fail
                    go_roundw
                    case rel => exact ⟨j + 1, by go_num, by omega, by rw [Hv.out], HB7.out⟩
                    case measure => simp [intOf]; omega
                  · have Hv := Lib.hid (show (av || inT M x (j + 1)) = false from by rw [Hnx.out]; simp [hu])
                    have hd : (ut == t) = false := by rw [beq_eq_false_iff_ne]; exact hu
                    subst hp
                    clear hu
                    go_wp2_with fail
                    refine wp_region_held_drew (S := fun w2 => Below Wj.heap.size Wj w2) (by kernel_rfl) (drew_b _ _) (fun hS0 => ?_)
                    refine wpAnyH_take (i := 0) (oi := { dst := some 41, op := Go.Op.move (Go.Operand.tmp 7), type := 4, pos := "ref.go:238", after := #[], guard := none }) (v := .bool false) rfl (by kernel_rfl) (by kernel_rfl) (by kernel_rfl) (fun _ _ _ h => h) (Or.inl ⟨by rfl, by intro w2 hSw; (try dsimp only at hSw); have hx0 := (hSw.cell (p := ⟨g, k, none⟩) (lt_of_cell hxv)).trans hxv; have e0 := (hSw.cell (p := ⟨gx', j * 2, none⟩) (lt_of_cell e0)).trans e0; have e1 := (hSw.cell (p := ⟨gx', j * 2 + 1, none⟩) (lt_of_cell e1)).trans e1; have c4 := (hSw.cell (p := ⟨D, 0, none⟩) (lt_of_cell c4)).trans c4; have c5 := (hSw.cell (p := ⟨D, 1, none⟩) (lt_of_cell c5)).trans c5; go_simp⟩) hS0 ?_
                    try simp only [Act.put, List.setIfInBounds_toArray, List.set_cons_zero, List.set_cons_succ]
                    refine wpAnyH_take (i := 1) (oi := { dst := some 42, op := Go.Op.move (Go.Operand.tmp 41), type := 4, pos := "ref.go:238", after := #[{ on := 0, ground := Go.Ground.data }], guard := none }) (v := .bool false) rfl (by kernel_rfl) (by kernel_rfl) (by kernel_rfl) (fun _ _ _ h => h) (Or.inl ⟨by rfl, by intro w2 hSw; (try dsimp only at hSw); have hx0 := (hSw.cell (p := ⟨g, k, none⟩) (lt_of_cell hxv)).trans hxv; have e0 := (hSw.cell (p := ⟨gx', j * 2, none⟩) (lt_of_cell e0)).trans e0; have e1 := (hSw.cell (p := ⟨gx', j * 2 + 1, none⟩) (lt_of_cell e1)).trans e1; have c4 := (hSw.cell (p := ⟨D, 0, none⟩) (lt_of_cell c4)).trans c4; have c5 := (hSw.cell (p := ⟨D, 1, none⟩) (lt_of_cell c5)).trans c5; go_simp⟩) hS0 ?_
                    try simp only [Act.put, List.setIfInBounds_toArray, List.set_cons_zero, List.set_cons_succ]
                    refine wpAnyH_take (i := 2) (oi := { dst := some 43, op := Go.Op.move (Go.Operand.tmp 6), type := 92, pos := "ref.go:238", after := #[{ on := 1, ground := Go.Ground.guard }], guard := some (1, false) }) (v := .slice (some ⟨g, 0, none⟩) N cp) rfl (by kernel_rfl) (by kernel_rfl) (by kernel_rfl) (fun _ _ _ h => h) (Or.inl ⟨by rfl, by intro w2 hSw; (try dsimp only at hSw); have hx0 := (hSw.cell (p := ⟨g, k, none⟩) (lt_of_cell hxv)).trans hxv; have e0 := (hSw.cell (p := ⟨gx', j * 2, none⟩) (lt_of_cell e0)).trans e0; have e1 := (hSw.cell (p := ⟨gx', j * 2 + 1, none⟩) (lt_of_cell e1)).trans e1; have c4 := (hSw.cell (p := ⟨D, 0, none⟩) (lt_of_cell c4)).trans c4; have c5 := (hSw.cell (p := ⟨D, 1, none⟩) (lt_of_cell c5)).trans c5; go_simp⟩) hS0 ?_
                    try simp only [Act.put, List.setIfInBounds_toArray, List.set_cons_zero, List.set_cons_succ]
                    refine wpAnyH_take (i := 3) (oi := { dst := some 44, op := Go.Op.move (Go.Operand.tmp 8), type := 3, pos := "ref.go:238", after := #[{ on := 1, ground := Go.Ground.guard }], guard := some (1, false) }) (v := .int .i64 (k : Int)) rfl (by kernel_rfl) (by kernel_rfl) (by kernel_rfl) (fun _ _ _ h => h) (Or.inl ⟨by rfl, by intro w2 hSw; (try dsimp only at hSw); have hx0 := (hSw.cell (p := ⟨g, k, none⟩) (lt_of_cell hxv)).trans hxv; have e0 := (hSw.cell (p := ⟨gx', j * 2, none⟩) (lt_of_cell e0)).trans e0; have e1 := (hSw.cell (p := ⟨gx', j * 2 + 1, none⟩) (lt_of_cell e1)).trans e1; have c4 := (hSw.cell (p := ⟨D, 0, none⟩) (lt_of_cell c4)).trans c4; have c5 := (hSw.cell (p := ⟨D, 1, none⟩) (lt_of_cell c5)).trans c5; go_simp⟩) hS0 ?_
                    try simp only [Act.put, List.setIfInBounds_toArray, List.set_cons_zero, List.set_cons_succ]
                    refine wpAnyH_take (i := 4) (oi := { dst := some 45, op := Go.Op.indexAddr 92 (Go.Operand.tmp 43) (Go.Operand.tmp 44), type := 0, pos := "ref.go:238", after := #[{ on := 2, ground := Go.Ground.data }, { on := 3, ground := Go.Ground.data }, { on := 1, ground := Go.Ground.guard }], guard := some (1, false) }) (v := .pointer (some ⟨g, k, none⟩)) rfl (by kernel_rfl) (by kernel_rfl) (by kernel_rfl) (fun _ _ _ h => h) (Or.inl ⟨by rfl, by intro w2 hSw; (try dsimp only at hSw); have hx0 := (hSw.cell (p := ⟨g, k, none⟩) (lt_of_cell hxv)).trans hxv; have e0 := (hSw.cell (p := ⟨gx', j * 2, none⟩) (lt_of_cell e0)).trans e0; have e1 := (hSw.cell (p := ⟨gx', j * 2 + 1, none⟩) (lt_of_cell e1)).trans e1; have c4 := (hSw.cell (p := ⟨D, 0, none⟩) (lt_of_cell c4)).trans c4; have c5 := (hSw.cell (p := ⟨D, 1, none⟩) (lt_of_cell c5)).trans c5; go_simp⟩) hS0 ?_
                    try simp only [Act.put, List.setIfInBounds_toArray, List.set_cons_zero, List.set_cons_succ]
                    refine wpAnyH_take (i := 5) (oi := { dst := some 46, op := Go.Op.load 29 (Go.Operand.tmp 45), type := 29, pos := "ref.go:238", after := #[{ on := 4, ground := Go.Ground.data }, { on := 1, ground := Go.Ground.guard }], guard := some (1, false) }) (v := .slice (some ⟨gx', 0, none⟩) ln cx') rfl (by kernel_rfl) (by kernel_rfl) (by kernel_rfl) (fun _ _ _ h => h) (Or.inl ⟨by rfl, by intro w2 hSw; (try dsimp only at hSw); have hx0 := (hSw.cell (p := ⟨g, k, none⟩) (lt_of_cell hxv)).trans hxv; have e0 := (hSw.cell (p := ⟨gx', j * 2, none⟩) (lt_of_cell e0)).trans e0; have e1 := (hSw.cell (p := ⟨gx', j * 2 + 1, none⟩) (lt_of_cell e1)).trans e1; have c4 := (hSw.cell (p := ⟨D, 0, none⟩) (lt_of_cell c4)).trans c4; have c5 := (hSw.cell (p := ⟨D, 1, none⟩) (lt_of_cell c5)).trans c5; go_simp⟩) hS0 ?_
                    try simp only [Act.put, List.setIfInBounds_toArray, List.set_cons_zero, List.set_cons_succ]
                    refine wpAnyH_take (i := 6) (oi := { dst := some 47, op := Go.Op.move (Go.Operand.tmp 9), type := 3, pos := "ref.go:238", after := #[{ on := 1, ground := Go.Ground.guard }], guard := some (1, false) }) (v := .int .i64 (j : Int)) rfl (by kernel_rfl) (by kernel_rfl) (by kernel_rfl) (fun _ _ _ h => h) (Or.inl ⟨by rfl, by intro w2 hSw; (try dsimp only at hSw); have hx0 := (hSw.cell (p := ⟨g, k, none⟩) (lt_of_cell hxv)).trans hxv; have e0 := (hSw.cell (p := ⟨gx', j * 2, none⟩) (lt_of_cell e0)).trans e0; have e1 := (hSw.cell (p := ⟨gx', j * 2 + 1, none⟩) (lt_of_cell e1)).trans e1; have c4 := (hSw.cell (p := ⟨D, 0, none⟩) (lt_of_cell c4)).trans c4; have c5 := (hSw.cell (p := ⟨D, 1, none⟩) (lt_of_cell c5)).trans c5; go_simp⟩) hS0 ?_
                    try simp only [Act.put, List.setIfInBounds_toArray, List.set_cons_zero, List.set_cons_succ]
                    refine wpAnyH_take (i := 7) (oi := { dst := some 48, op := Go.Op.indexAddr 29 (Go.Operand.tmp 46) (Go.Operand.tmp 47), type := 0, pos := "ref.go:238", after := #[{ on := 5, ground := Go.Ground.data }, { on := 6, ground := Go.Ground.data }, { on := 1, ground := Go.Ground.guard }], guard := some (1, false) }) (v := .pointer (some ⟨gx', j * 2, none⟩)) rfl (by kernel_rfl) (by kernel_rfl) (by kernel_rfl) (fun _ _ _ h => h) (Or.inl ⟨by rfl, by intro w2 hSw; (try dsimp only at hSw); have hx0 := (hSw.cell (p := ⟨g, k, none⟩) (lt_of_cell hxv)).trans hxv; have e0 := (hSw.cell (p := ⟨gx', j * 2, none⟩) (lt_of_cell e0)).trans e0; have e1 := (hSw.cell (p := ⟨gx', j * 2 + 1, none⟩) (lt_of_cell e1)).trans e1; have c4 := (hSw.cell (p := ⟨D, 0, none⟩) (lt_of_cell c4)).trans c4; have c5 := (hSw.cell (p := ⟨D, 1, none⟩) (lt_of_cell c5)).trans c5; go_simp⟩) hS0 ?_
                    try simp only [Act.put, List.setIfInBounds_toArray, List.set_cons_zero, List.set_cons_succ]
                    refine wpAnyH_take (i := 8) (oi := { dst := some 49, op := Go.Op.load 28 (Go.Operand.tmp 48), type := 28, pos := "ref.go:238", after := #[{ on := 7, ground := Go.Ground.data }, { on := 1, ground := Go.Ground.guard }], guard := some (1, false) }) (v := .agg #[.int .i64 up, .bool ut]) rfl (by kernel_rfl) (by kernel_rfl) (by kernel_rfl) (fun _ _ _ h => h) (Or.inl ⟨by rfl, by intro w2 hSw; (try dsimp only at hSw); have hx0 := (hSw.cell (p := ⟨g, k, none⟩) (lt_of_cell hxv)).trans hxv; have e0 := (hSw.cell (p := ⟨gx', j * 2, none⟩) (lt_of_cell e0)).trans e0; have e1 := (hSw.cell (p := ⟨gx', j * 2 + 1, none⟩) (lt_of_cell e1)).trans e1; have c4 := (hSw.cell (p := ⟨D, 0, none⟩) (lt_of_cell c4)).trans c4; have c5 := (hSw.cell (p := ⟨D, 1, none⟩) (lt_of_cell c5)).trans c5; go_simp⟩) hS0 ?_
                    try simp only [Act.put, List.setIfInBounds_toArray, List.set_cons_zero, List.set_cons_succ]
                    refine wpAnyH_take (i := 9) (oi := { dst := some 50, op := Go.Op.load 28 (Go.Operand.tmp 3), type := 28, pos := "ref.go:238", after := #[{ on := 1, ground := Go.Ground.guard }], guard := some (1, false) }) (v := .agg #[.int .i64 up, .bool t]) rfl (by kernel_rfl) (by kernel_rfl) (by kernel_rfl) (fun _ _ _ h => h) (Or.inl ⟨by rfl, by intro w2 hSw; (try dsimp only at hSw); have hx0 := (hSw.cell (p := ⟨g, k, none⟩) (lt_of_cell hxv)).trans hxv; have e0 := (hSw.cell (p := ⟨gx', j * 2, none⟩) (lt_of_cell e0)).trans e0; have e1 := (hSw.cell (p := ⟨gx', j * 2 + 1, none⟩) (lt_of_cell e1)).trans e1; have c4 := (hSw.cell (p := ⟨D, 0, none⟩) (lt_of_cell c4)).trans c4; have c5 := (hSw.cell (p := ⟨D, 1, none⟩) (lt_of_cell c5)).trans c5; go_simp⟩) hS0 ?_
                    try simp only [Act.put, List.setIfInBounds_toArray, List.set_cons_zero, List.set_cons_succ]
                    refine wpAnyH_take (i := 10) (oi := { dst := some 51, op := Go.Op.binOp Go.BinOp.eql 28 (Go.Operand.tmp 49) (Go.Operand.tmp 50) 28, type := 4, pos := "ref.go:238", after := #[{ on := 8, ground := Go.Ground.data }, { on := 9, ground := Go.Ground.data }, { on := 1, ground := Go.Ground.guard }], guard := some (1, false) }) (v := .bool false) rfl (by kernel_rfl) (by kernel_rfl) (by kernel_rfl) (fun _ _ _ h => h) (Or.inl ⟨by rfl, by intro w2 hSw; (try dsimp only at hSw); have hx0 := (hSw.cell (p := ⟨g, k, none⟩) (lt_of_cell hxv)).trans hxv; have e0 := (hSw.cell (p := ⟨gx', j * 2, none⟩) (lt_of_cell e0)).trans e0; have e1 := (hSw.cell (p := ⟨gx', j * 2 + 1, none⟩) (lt_of_cell e1)).trans e1; have c4 := (hSw.cell (p := ⟨D, 0, none⟩) (lt_of_cell c4)).trans c4; have c5 := (hSw.cell (p := ⟨D, 1, none⟩) (lt_of_cell c5)).trans c5; go_simp⟩) hS0 ?_
                    try simp only [Act.put, List.setIfInBounds_toArray, List.set_cons_zero, List.set_cons_succ]
                    refine wpAnyH_take (i := 11) (oi := { dst := some 52, op := Go.Op.pick (Go.Operand.tmp 42) (Go.Operand.const (Go.Value.bool true)) (Go.Operand.tmp 51), type := 4, pos := "ref.go:238", after := #[{ on := 1, ground := Go.Ground.data }, { on := 10, ground := Go.Ground.data }], guard := none }) (v := .bool false) rfl (by kernel_rfl) (by kernel_rfl) (by kernel_rfl) (fun _ _ _ h => h) (Or.inl ⟨by rfl, by intro w2 hSw; (try dsimp only at hSw); have hx0 := (hSw.cell (p := ⟨g, k, none⟩) (lt_of_cell hxv)).trans hxv; have e0 := (hSw.cell (p := ⟨gx', j * 2, none⟩) (lt_of_cell e0)).trans e0; have e1 := (hSw.cell (p := ⟨gx', j * 2 + 1, none⟩) (lt_of_cell e1)).trans e1; have c4 := (hSw.cell (p := ⟨D, 0, none⟩) (lt_of_cell c4)).trans c4; have c5 := (hSw.cell (p := ⟨D, 1, none⟩) (lt_of_cell c5)).trans c5; go_simp⟩) hS0 ?_
                    try simp only [Act.put, List.setIfInBounds_toArray, List.set_cons_zero, List.set_cons_succ]
                    refine wpAnyH_take (i := 12) (oi := { dst := some 7, op := Go.Op.assign (Go.Operand.tmp 52), type := 4, pos := "ref.go:238", after := #[{ on := 11, ground := Go.Ground.data }, { on := 1, ground := Go.Ground.chain }, { on := 0, ground := Go.Ground.phase }, { on := 1, ground := Go.Ground.phase }, { on := 2, ground := Go.Ground.phase }, { on := 3, ground := Go.Ground.phase }, { on := 4, ground := Go.Ground.phase }, { on := 5, ground := Go.Ground.phase }, { on := 6, ground := Go.Ground.phase }, { on := 7, ground := Go.Ground.phase }, { on := 8, ground := Go.Ground.phase }, { on := 9, ground := Go.Ground.phase }, { on := 10, ground := Go.Ground.phase }, { on := 11, ground := Go.Ground.phase }], guard := none }) (v := .bool false) rfl (by kernel_rfl) (by kernel_rfl) (by kernel_rfl) (fun _ _ _ h => h) (Or.inl ⟨by rfl, by intro w2 hSw; (try dsimp only at hSw); have hx0 := (hSw.cell (p := ⟨g, k, none⟩) (lt_of_cell hxv)).trans hxv; have e0 := (hSw.cell (p := ⟨gx', j * 2, none⟩) (lt_of_cell e0)).trans e0; have e1 := (hSw.cell (p := ⟨gx', j * 2 + 1, none⟩) (lt_of_cell e1)).trans e1; have c4 := (hSw.cell (p := ⟨D, 0, none⟩) (lt_of_cell c4)).trans c4; have c5 := (hSw.cell (p := ⟨D, 1, none⟩) (lt_of_cell c5)).trans c5; go_simp⟩) hS0 ?_
                    try simp only [Act.put, List.setIfInBounds_toArray, List.set_cons_zero, List.set_cons_succ]
                    refine wpAnyH_done (by kernel_rfl) ?_ _
                    have HB7 := Lib.hid (HB.out.trans (hS0.mono HB.out.size))
                    clear hS0 e0 e1 c4 c5 hxv i0 i1 i2 i3 hd
                    go_wp2_with fail
                    go_roundw
                    case rel => exact ⟨j + 1, by go_num, by omega, by rw [Hv.out], HB7.out⟩
                    case measure => simp [intOf]; omega
                · have Hv := Lib.hid (show (av || inT M x (j + 1)) = false from by rw [Hnx.out]; simp [hp])
                  have hd : (up == p) = false := by rw [beq_eq_false_iff_ne]; exact hp
                  clear hp
                  go_wp2_with fail
                  refine wp_region_held_drew (S := fun w2 => Below Wj.heap.size Wj w2) (by kernel_rfl) (drew_b _ _) (fun hS0 => ?_)
                  refine wpAnyH_take (i := 0) (oi := { dst := some 41, op := Go.Op.move (Go.Operand.tmp 7), type := 4, pos := "ref.go:238", after := #[], guard := none }) (v := .bool false) rfl (by kernel_rfl) (by kernel_rfl) (by kernel_rfl) (fun _ _ _ h => h) (Or.inl ⟨by rfl, by intro w2 hSw; (try dsimp only at hSw); have hx0 := (hSw.cell (p := ⟨g, k, none⟩) (lt_of_cell hxv)).trans hxv; have e0 := (hSw.cell (p := ⟨gx', j * 2, none⟩) (lt_of_cell e0)).trans e0; have e1 := (hSw.cell (p := ⟨gx', j * 2 + 1, none⟩) (lt_of_cell e1)).trans e1; have c4 := (hSw.cell (p := ⟨D, 0, none⟩) (lt_of_cell c4)).trans c4; have c5 := (hSw.cell (p := ⟨D, 1, none⟩) (lt_of_cell c5)).trans c5; go_simp⟩) hS0 ?_
                  try simp only [Act.put, List.setIfInBounds_toArray, List.set_cons_zero, List.set_cons_succ]
                  refine wpAnyH_take (i := 1) (oi := { dst := some 42, op := Go.Op.move (Go.Operand.tmp 41), type := 4, pos := "ref.go:238", after := #[{ on := 0, ground := Go.Ground.data }], guard := none }) (v := .bool false) rfl (by kernel_rfl) (by kernel_rfl) (by kernel_rfl) (fun _ _ _ h => h) (Or.inl ⟨by rfl, by intro w2 hSw; (try dsimp only at hSw); have hx0 := (hSw.cell (p := ⟨g, k, none⟩) (lt_of_cell hxv)).trans hxv; have e0 := (hSw.cell (p := ⟨gx', j * 2, none⟩) (lt_of_cell e0)).trans e0; have e1 := (hSw.cell (p := ⟨gx', j * 2 + 1, none⟩) (lt_of_cell e1)).trans e1; have c4 := (hSw.cell (p := ⟨D, 0, none⟩) (lt_of_cell c4)).trans c4; have c5 := (hSw.cell (p := ⟨D, 1, none⟩) (lt_of_cell c5)).trans c5; go_simp⟩) hS0 ?_
                  try simp only [Act.put, List.setIfInBounds_toArray, List.set_cons_zero, List.set_cons_succ]
                  refine wpAnyH_take (i := 2) (oi := { dst := some 43, op := Go.Op.move (Go.Operand.tmp 6), type := 92, pos := "ref.go:238", after := #[{ on := 1, ground := Go.Ground.guard }], guard := some (1, false) }) (v := .slice (some ⟨g, 0, none⟩) N cp) rfl (by kernel_rfl) (by kernel_rfl) (by kernel_rfl) (fun _ _ _ h => h) (Or.inl ⟨by rfl, by intro w2 hSw; (try dsimp only at hSw); have hx0 := (hSw.cell (p := ⟨g, k, none⟩) (lt_of_cell hxv)).trans hxv; have e0 := (hSw.cell (p := ⟨gx', j * 2, none⟩) (lt_of_cell e0)).trans e0; have e1 := (hSw.cell (p := ⟨gx', j * 2 + 1, none⟩) (lt_of_cell e1)).trans e1; have c4 := (hSw.cell (p := ⟨D, 0, none⟩) (lt_of_cell c4)).trans c4; have c5 := (hSw.cell (p := ⟨D, 1, none⟩) (lt_of_cell c5)).trans c5; go_simp⟩) hS0 ?_
                  try simp only [Act.put, List.setIfInBounds_toArray, List.set_cons_zero, List.set_cons_succ]
                  refine wpAnyH_take (i := 3) (oi := { dst := some 44, op := Go.Op.move (Go.Operand.tmp 8), type := 3, pos := "ref.go:238", after := #[{ on := 1, ground := Go.Ground.guard }], guard := some (1, false) }) (v := .int .i64 (k : Int)) rfl (by kernel_rfl) (by kernel_rfl) (by kernel_rfl) (fun _ _ _ h => h) (Or.inl ⟨by rfl, by intro w2 hSw; (try dsimp only at hSw); have hx0 := (hSw.cell (p := ⟨g, k, none⟩) (lt_of_cell hxv)).trans hxv; have e0 := (hSw.cell (p := ⟨gx', j * 2, none⟩) (lt_of_cell e0)).trans e0; have e1 := (hSw.cell (p := ⟨gx', j * 2 + 1, none⟩) (lt_of_cell e1)).trans e1; have c4 := (hSw.cell (p := ⟨D, 0, none⟩) (lt_of_cell c4)).trans c4; have c5 := (hSw.cell (p := ⟨D, 1, none⟩) (lt_of_cell c5)).trans c5; go_simp⟩) hS0 ?_
                  try simp only [Act.put, List.setIfInBounds_toArray, List.set_cons_zero, List.set_cons_succ]
                  refine wpAnyH_take (i := 4) (oi := { dst := some 45, op := Go.Op.indexAddr 92 (Go.Operand.tmp 43) (Go.Operand.tmp 44), type := 0, pos := "ref.go:238", after := #[{ on := 2, ground := Go.Ground.data }, { on := 3, ground := Go.Ground.data }, { on := 1, ground := Go.Ground.guard }], guard := some (1, false) }) (v := .pointer (some ⟨g, k, none⟩)) rfl (by kernel_rfl) (by kernel_rfl) (by kernel_rfl) (fun _ _ _ h => h) (Or.inl ⟨by rfl, by intro w2 hSw; (try dsimp only at hSw); have hx0 := (hSw.cell (p := ⟨g, k, none⟩) (lt_of_cell hxv)).trans hxv; have e0 := (hSw.cell (p := ⟨gx', j * 2, none⟩) (lt_of_cell e0)).trans e0; have e1 := (hSw.cell (p := ⟨gx', j * 2 + 1, none⟩) (lt_of_cell e1)).trans e1; have c4 := (hSw.cell (p := ⟨D, 0, none⟩) (lt_of_cell c4)).trans c4; have c5 := (hSw.cell (p := ⟨D, 1, none⟩) (lt_of_cell c5)).trans c5; go_simp⟩) hS0 ?_
                  try simp only [Act.put, List.setIfInBounds_toArray, List.set_cons_zero, List.set_cons_succ]
                  refine wpAnyH_take (i := 5) (oi := { dst := some 46, op := Go.Op.load 29 (Go.Operand.tmp 45), type := 29, pos := "ref.go:238", after := #[{ on := 4, ground := Go.Ground.data }, { on := 1, ground := Go.Ground.guard }], guard := some (1, false) }) (v := .slice (some ⟨gx', 0, none⟩) ln cx') rfl (by kernel_rfl) (by kernel_rfl) (by kernel_rfl) (fun _ _ _ h => h) (Or.inl ⟨by rfl, by intro w2 hSw; (try dsimp only at hSw); have hx0 := (hSw.cell (p := ⟨g, k, none⟩) (lt_of_cell hxv)).trans hxv; have e0 := (hSw.cell (p := ⟨gx', j * 2, none⟩) (lt_of_cell e0)).trans e0; have e1 := (hSw.cell (p := ⟨gx', j * 2 + 1, none⟩) (lt_of_cell e1)).trans e1; have c4 := (hSw.cell (p := ⟨D, 0, none⟩) (lt_of_cell c4)).trans c4; have c5 := (hSw.cell (p := ⟨D, 1, none⟩) (lt_of_cell c5)).trans c5; go_simp⟩) hS0 ?_
                  try simp only [Act.put, List.setIfInBounds_toArray, List.set_cons_zero, List.set_cons_succ]
                  refine wpAnyH_take (i := 6) (oi := { dst := some 47, op := Go.Op.move (Go.Operand.tmp 9), type := 3, pos := "ref.go:238", after := #[{ on := 1, ground := Go.Ground.guard }], guard := some (1, false) }) (v := .int .i64 (j : Int)) rfl (by kernel_rfl) (by kernel_rfl) (by kernel_rfl) (fun _ _ _ h => h) (Or.inl ⟨by rfl, by intro w2 hSw; (try dsimp only at hSw); have hx0 := (hSw.cell (p := ⟨g, k, none⟩) (lt_of_cell hxv)).trans hxv; have e0 := (hSw.cell (p := ⟨gx', j * 2, none⟩) (lt_of_cell e0)).trans e0; have e1 := (hSw.cell (p := ⟨gx', j * 2 + 1, none⟩) (lt_of_cell e1)).trans e1; have c4 := (hSw.cell (p := ⟨D, 0, none⟩) (lt_of_cell c4)).trans c4; have c5 := (hSw.cell (p := ⟨D, 1, none⟩) (lt_of_cell c5)).trans c5; go_simp⟩) hS0 ?_
                  try simp only [Act.put, List.setIfInBounds_toArray, List.set_cons_zero, List.set_cons_succ]
                  refine wpAnyH_take (i := 7) (oi := { dst := some 48, op := Go.Op.indexAddr 29 (Go.Operand.tmp 46) (Go.Operand.tmp 47), type := 0, pos := "ref.go:238", after := #[{ on := 5, ground := Go.Ground.data }, { on := 6, ground := Go.Ground.data }, { on := 1, ground := Go.Ground.guard }], guard := some (1, false) }) (v := .pointer (some ⟨gx', j * 2, none⟩)) rfl (by kernel_rfl) (by kernel_rfl) (by kernel_rfl) (fun _ _ _ h => h) (Or.inl ⟨by rfl, by intro w2 hSw; (try dsimp only at hSw); have hx0 := (hSw.cell (p := ⟨g, k, none⟩) (lt_of_cell hxv)).trans hxv; have e0 := (hSw.cell (p := ⟨gx', j * 2, none⟩) (lt_of_cell e0)).trans e0; have e1 := (hSw.cell (p := ⟨gx', j * 2 + 1, none⟩) (lt_of_cell e1)).trans e1; have c4 := (hSw.cell (p := ⟨D, 0, none⟩) (lt_of_cell c4)).trans c4; have c5 := (hSw.cell (p := ⟨D, 1, none⟩) (lt_of_cell c5)).trans c5; go_simp⟩) hS0 ?_
                  try simp only [Act.put, List.setIfInBounds_toArray, List.set_cons_zero, List.set_cons_succ]
                  refine wpAnyH_take (i := 8) (oi := { dst := some 49, op := Go.Op.load 28 (Go.Operand.tmp 48), type := 28, pos := "ref.go:238", after := #[{ on := 7, ground := Go.Ground.data }, { on := 1, ground := Go.Ground.guard }], guard := some (1, false) }) (v := .agg #[.int .i64 up, .bool ut]) rfl (by kernel_rfl) (by kernel_rfl) (by kernel_rfl) (fun _ _ _ h => h) (Or.inl ⟨by rfl, by intro w2 hSw; (try dsimp only at hSw); have hx0 := (hSw.cell (p := ⟨g, k, none⟩) (lt_of_cell hxv)).trans hxv; have e0 := (hSw.cell (p := ⟨gx', j * 2, none⟩) (lt_of_cell e0)).trans e0; have e1 := (hSw.cell (p := ⟨gx', j * 2 + 1, none⟩) (lt_of_cell e1)).trans e1; have c4 := (hSw.cell (p := ⟨D, 0, none⟩) (lt_of_cell c4)).trans c4; have c5 := (hSw.cell (p := ⟨D, 1, none⟩) (lt_of_cell c5)).trans c5; go_simp⟩) hS0 ?_
                  try simp only [Act.put, List.setIfInBounds_toArray, List.set_cons_zero, List.set_cons_succ]
                  refine wpAnyH_take (i := 9) (oi := { dst := some 50, op := Go.Op.load 28 (Go.Operand.tmp 3), type := 28, pos := "ref.go:238", after := #[{ on := 1, ground := Go.Ground.guard }], guard := some (1, false) }) (v := .agg #[.int .i64 p, .bool t]) rfl (by kernel_rfl) (by kernel_rfl) (by kernel_rfl) (fun _ _ _ h => h) (Or.inl ⟨by rfl, by intro w2 hSw; (try dsimp only at hSw); have hx0 := (hSw.cell (p := ⟨g, k, none⟩) (lt_of_cell hxv)).trans hxv; have e0 := (hSw.cell (p := ⟨gx', j * 2, none⟩) (lt_of_cell e0)).trans e0; have e1 := (hSw.cell (p := ⟨gx', j * 2 + 1, none⟩) (lt_of_cell e1)).trans e1; have c4 := (hSw.cell (p := ⟨D, 0, none⟩) (lt_of_cell c4)).trans c4; have c5 := (hSw.cell (p := ⟨D, 1, none⟩) (lt_of_cell c5)).trans c5; go_simp⟩) hS0 ?_
                  try simp only [Act.put, List.setIfInBounds_toArray, List.set_cons_zero, List.set_cons_succ]
                  refine wpAnyH_take (i := 10) (oi := { dst := some 51, op := Go.Op.binOp Go.BinOp.eql 28 (Go.Operand.tmp 49) (Go.Operand.tmp 50) 28, type := 4, pos := "ref.go:238", after := #[{ on := 8, ground := Go.Ground.data }, { on := 9, ground := Go.Ground.data }, { on := 1, ground := Go.Ground.guard }], guard := some (1, false) }) (v := .bool false) rfl (by kernel_rfl) (by kernel_rfl) (by kernel_rfl) (fun _ _ _ h => h) (Or.inl ⟨by rfl, by intro w2 hSw; (try dsimp only at hSw); have hx0 := (hSw.cell (p := ⟨g, k, none⟩) (lt_of_cell hxv)).trans hxv; have e0 := (hSw.cell (p := ⟨gx', j * 2, none⟩) (lt_of_cell e0)).trans e0; have e1 := (hSw.cell (p := ⟨gx', j * 2 + 1, none⟩) (lt_of_cell e1)).trans e1; have c4 := (hSw.cell (p := ⟨D, 0, none⟩) (lt_of_cell c4)).trans c4; have c5 := (hSw.cell (p := ⟨D, 1, none⟩) (lt_of_cell c5)).trans c5; go_simp⟩) hS0 ?_
                  try simp only [Act.put, List.setIfInBounds_toArray, List.set_cons_zero, List.set_cons_succ]
                  refine wpAnyH_take (i := 11) (oi := { dst := some 52, op := Go.Op.pick (Go.Operand.tmp 42) (Go.Operand.const (Go.Value.bool true)) (Go.Operand.tmp 51), type := 4, pos := "ref.go:238", after := #[{ on := 1, ground := Go.Ground.data }, { on := 10, ground := Go.Ground.data }], guard := none }) (v := .bool false) rfl (by kernel_rfl) (by kernel_rfl) (by kernel_rfl) (fun _ _ _ h => h) (Or.inl ⟨by rfl, by intro w2 hSw; (try dsimp only at hSw); have hx0 := (hSw.cell (p := ⟨g, k, none⟩) (lt_of_cell hxv)).trans hxv; have e0 := (hSw.cell (p := ⟨gx', j * 2, none⟩) (lt_of_cell e0)).trans e0; have e1 := (hSw.cell (p := ⟨gx', j * 2 + 1, none⟩) (lt_of_cell e1)).trans e1; have c4 := (hSw.cell (p := ⟨D, 0, none⟩) (lt_of_cell c4)).trans c4; have c5 := (hSw.cell (p := ⟨D, 1, none⟩) (lt_of_cell c5)).trans c5; go_simp⟩) hS0 ?_
                  try simp only [Act.put, List.setIfInBounds_toArray, List.set_cons_zero, List.set_cons_succ]
                  refine wpAnyH_take (i := 12) (oi := { dst := some 7, op := Go.Op.assign (Go.Operand.tmp 52), type := 4, pos := "ref.go:238", after := #[{ on := 11, ground := Go.Ground.data }, { on := 1, ground := Go.Ground.chain }, { on := 0, ground := Go.Ground.phase }, { on := 1, ground := Go.Ground.phase }, { on := 2, ground := Go.Ground.phase }, { on := 3, ground := Go.Ground.phase }, { on := 4, ground := Go.Ground.phase }, { on := 5, ground := Go.Ground.phase }, { on := 6, ground := Go.Ground.phase }, { on := 7, ground := Go.Ground.phase }, { on := 8, ground := Go.Ground.phase }, { on := 9, ground := Go.Ground.phase }, { on := 10, ground := Go.Ground.phase }, { on := 11, ground := Go.Ground.phase }], guard := none }) (v := .bool false) rfl (by kernel_rfl) (by kernel_rfl) (by kernel_rfl) (fun _ _ _ h => h) (Or.inl ⟨by rfl, by intro w2 hSw; (try dsimp only at hSw); have hx0 := (hSw.cell (p := ⟨g, k, none⟩) (lt_of_cell hxv)).trans hxv; have e0 := (hSw.cell (p := ⟨gx', j * 2, none⟩) (lt_of_cell e0)).trans e0; have e1 := (hSw.cell (p := ⟨gx', j * 2 + 1, none⟩) (lt_of_cell e1)).trans e1; have c4 := (hSw.cell (p := ⟨D, 0, none⟩) (lt_of_cell c4)).trans c4; have c5 := (hSw.cell (p := ⟨D, 1, none⟩) (lt_of_cell c5)).trans c5; go_simp⟩) hS0 ?_
                  try simp only [Act.put, List.setIfInBounds_toArray, List.set_cons_zero, List.set_cons_succ]
                  refine wpAnyH_done (by kernel_rfl) ?_ _
                  have HB7 := Lib.hid (HB.out.trans (hS0.mono HB.out.size))
                  clear hS0 e0 e1 c4 c5 hxv i0 i1 i2 i3 hd
                  go_wp2_with fail
                  go_roundw
                  case rel => exact ⟨j + 1, by go_num, by omega, by rw [Hv.out], HB7.out⟩
                  case measure => simp [intOf]; omega
            · obtain rfl : ln = j := by omega
              have i2 : ¬ (ln : Int) < (ln : Int) := by omega
              have Hv := Lib.hid (show (av || inT M x ln) = anyT ⟨ps, off, ⟨lo, hi⟩⟩ x (k + 1) from by
                rw [Han.out]
                unfold inT
                rw [List.take_of_length_le (by rw [HMl.out]; exact Nat.le_refl _)])
              rw [Hv.out]
              clear hS' hMl' hMe' hg' hkj hlj
              go_wp2_with fail
              go_roundw
              case rel => exact ⟨k + 1, by go_num, by omega, by rfl, HB.out⟩
              case measure => simp [intOf]; omega
        · obtain rfl : N = k := by omega
          have i1 : ¬ (N : Int) < (N : Int) := by omega
          have hae := anyT_end ⟨ps, off, ⟨lo, hi⟩⟩ x
          rw [HN.out] at hae
          obtain ⟨fv, hfv⟩ : ∃ fv, anyT ⟨ps, off, ⟨lo, hi⟩⟩ x N = fv := ⟨_, rfl⟩
          rw [hfv] at hae ⊢
          have Hae := Lib.hid hae
          clear hae hfv hlk hk
          have HKk := Lib.hid (K.out.next HB.out)
          cases fv with
          | false =>
            have Hrv := Lib.hid (show rivR ⟨ps, off, ⟨lo, hi⟩⟩ ⟨p, t⟩ = ([], 5) from by
              unfold rivR
              rw [if_neg (by rw [Hr.out]; simp), if_neg (by rw [show stepB (⟨ps, off, ⟨lo, hi⟩⟩ : Cy).ps ⟨p, t⟩ = true from Hsb.out]; simp), if_pos (by
                rw [Hx.out]
                have := Hae.out
                simpa using this)])
            have HF := Lib.hid HKk.out.k.below
            go_wp2_with fail
            refine bodyPost_ret (v := .tuple #[.slice none 0 0, .int .i64 5]) (by simp [results, Try.results33, go_sem]) rfl ⟨none, 0, 0, by rw [Hrv.out], Nat.le_refl _, by rw [Hrv.out]; exact ⟨rfl, by omega⟩, HF.out⟩
          | true =>
            have Hrv := Lib.hid (show rivR ⟨ps, off, ⟨lo, hi⟩⟩ ⟨p, t⟩ = (rivL ⟨ps, off, ⟨lo, hi⟩⟩ x, 0) from by
              unfold rivR
              rw [if_neg (by rw [Hr.out]; simp), if_neg (by rw [show stepB (⟨ps, off, ⟨lo, hi⟩⟩ : Cy).ps ⟨p, t⟩ = true from Hsb.out]; simp), Hx.out, if_neg (by
                have := Hae.out
                intro e
                rw [e] at this
                cases this)])
            obtain ⟨c0, c1, c2, c3, -, -⟩ := HKk.out.c
            go_wp2_with fail
            refine (steps58 A n cap off lo hi ps _ HKk.out.k.pcs (by omega)).mono ?_
            rintro e W5 ⟨C4, cp4, rfl, hcp4, hs4, hb⟩
            have hm10 : (codesL ps).length ≤ 10 := Nat.le_trans (codes_len_ ps ps.length) (by rw [Hpl.out]; omega)
            obtain ⟨m4, hm4⟩ : ∃ m4, (codesL ps).length = m4 := ⟨_, rfl⟩
            rw [hm4] at hs4 hm10 hcp4 ⊢
            have Hm4 := Lib.hid hm4
            have S4 := Lib.hid hs4
            have HB5 := Lib.hid (HB.out.trans (hb.mono HB.out.size))
            have K5 := Lib.hid (HKk.out.next hb)
            clear hs4 hb hm4 hcp4 c0 c1 c2 c3
            go_wp2_with fail
            go_loopw [11, 12] (fun v i wr => ∃ k : Nat, i = .int .i64 (k : Int) ∧ k ≤ m4 ∧ wr.ownsRow 0 28 2 v (rivT ⟨ps, off, ⟨lo, hi⟩⟩ x k).length (flatS (rivT ⟨ps, off, ⟨lo, hi⟩⟩ x k)) ∧ (∀ b, v.ownBlock = some b → W5.heap.size ≤ b) ∧ Below W5.heap.size W5 wr) (fun _ i _ => m4 - (intOf i).toNat)
            case atStart => exact ⟨0, by rfl, Nat.zero_le _, own_nil _ _ _, (fun b hb => by cases hb), Below.refl _ _⟩
            case round =>
              obtain ⟨j, rfl, hj, hown, hob, hB6⟩ := hrel
              obtain ⟨Wj, rfl⟩ : ∃ Wj, Wj = wr := ⟨_, rfl⟩
              have HO := Lib.hid hown
              have Hob := Lib.hid hob
              have HB6 := Lib.hid hB6
              clear hown hob hB6
              by_cases hlj : j < m4
              · have hjc : j < (codesL ps).length := by rw [Hm4.out]; exact hlj
                obtain ⟨y, hy⟩ : ∃ y, (codesL ps)[j] = y := ⟨_, rfl⟩
                obtain ⟨b4, o4, rfl, hc4⟩ := S4.out.2 (by omega)
                obtain ⟨d0, d1⟩ := hc4 j hlj
                have hb4 := lt_of_cell d0
                rw [sAt_map hjc, hy] at d0 d1
                have hhb : ∀ M, hasB (M.map stC) ⟨p, t⟩ (stC y) = hasP M x y := fun M => by rw [← Hsx.out]; exact hasB_codes M x y
                have hcs : cellS y = [.int .i64 ((y / 2 : Nat) : Int), .bool (decide (y % 2 = 1))] := rfl
                unfold stC at d0 d1
                have hhb2 : ∀ M, hasB (M.map stC) ⟨p, t⟩ ⟨((y / 2 : Nat) : Int), decide (y % 2 = 1)⟩ = hasP M x y := hhb
                simp only at d0 d1
                generalize (y / 2 : Nat) = y0 at d0 hcs hhb2
                generalize decide (y % 2 = 1) = y1 at d1 hcs hhb2
                have Hhb := Lib.hid hhb2
                have Hcs := Lib.hid hcs
                have Hy := Lib.hid hy
                have Hd := Lib.hid (And.intro d0 d1)
                have Hb4 := Lib.hid hb4
                clear hhb hhb2 hcs hy hc4 d0 d1 hb4
                go_wp2_with fail
                go_loopw [13, 14] (fun v i wr => ∃ m : Nat, i = .int .i64 (m : Int) ∧ m ≤ N ∧ v = .bool (hasT ⟨ps, off, ⟨lo, hi⟩⟩ x y m) ∧ Below Wj.heap.size Wj wr) (fun _ i _ => N - (intOf i).toNat)
                case atStart => exact ⟨0, by rfl, Nat.zero_le _, by rfl, Below.refl _ _⟩
                case round =>
                  obtain ⟨m, rfl, hm, rfl, hBm⟩ := hrel
                  obtain ⟨Wm, rfl⟩ : ∃ Wm, Wm = wr := ⟨_, rfl⟩
                  have HBm := Lib.hid hBm
                  have h5m := HB6.out.trans (hBm.mono HB6.out.size)
                  have h3m := HB5.out.trans (h5m.mono HB5.out.size)
                  have H5m := Lib.hid h5m
                  by_cases hlm : m < N
                  · obtain ⟨g, gx, ln, cx, M, rfl, hxv, hMj, hMe, hMl, hl8, hS⟩ := Hrd.out m hlm Wm h3m
                    have hht := hasT_succ (c := ⟨ps, off, ⟨lo, hi⟩⟩) (x := x) (y := y) (m := m) (by rw [HN.out]; exact hlm)
                    rw [hMe (by rw [HN.out]; exact hlm)] at hht
                    obtain ⟨hv, hhv⟩ : ∃ hv, hasT ⟨ps, off, ⟨lo, hi⟩⟩ x y m = hv := ⟨_, rfl⟩
                    rw [hhv] at hht ⊢
                    have Hht := Lib.hid hht
                    have HS := Lib.hid hS
                    obtain ⟨-, -, -, -, c4, c5⟩ := (K5.out.next h5m).c
                    have f0 : Wm.cell? ⟨b4, o4 + j * 2, none⟩ = some (.int .i64 (y0 : Int)) := (h5m.cell (p := ⟨b4, o4 + j * 2, none⟩) Hb4.out).trans Hd.out.1
                    have f1 : Wm.cell? ⟨b4, o4 + j * 2 + 1, none⟩ = some (.bool y1) := (h5m.cell (p := ⟨b4, o4 + j * 2 + 1, none⟩) Hb4.out).trans Hd.out.2
                    have i0 : (0 : Int) ≤ (m : Int) := by omega
                    have i1 : (m : Int) < (N : Int) := by omega
                    have i2 : (0 : Int) ≤ (j : Int) := by omega
                    have i3 : (j : Int) < (m4 : Int) := by omega
                    clear hht hhv hMj hMe hMl hS hBm h5m h3m
                    cases hv with
                    | true =>
                      have Hv := Lib.hid (show hasT ⟨ps, off, ⟨lo, hi⟩⟩ x y (m + 1) = true from by rw [Hht.out, Bool.true_or])
                      go_wp2_with fail
                      refine wp_region_held_drew (S := fun w2 => Below Wm.heap.size Wm w2) (by kernel_rfl) (drew_b _ _) (fun hS0 => ?_)
                      refine wpAnyH_take (i := 0) (oi := { dst := some 69, op := Go.Op.move (Go.Operand.tmp 13), type := 4, pos := "ref.go:249", after := #[], guard := none }) (v := .bool true) rfl (by kernel_rfl) (by kernel_rfl) (by kernel_rfl) (fun _ _ _ h => h) (Or.inl ⟨by rfl, by intro w2 hSw; (try dsimp only at hSw); go_simp⟩) hS0 ?_
                      try simp only [Act.put, List.setIfInBounds_toArray, List.set_cons_zero, List.set_cons_succ]
                      refine wpAnyH_take (i := 1) (oi := { dst := some 70, op := Go.Op.move (Go.Operand.tmp 69), type := 4, pos := "ref.go:249", after := #[{ on := 0, ground := Go.Ground.data }], guard := none }) (v := .bool true) rfl (by kernel_rfl) (by kernel_rfl) (by kernel_rfl) (fun _ _ _ h => h) (Or.inl ⟨by rfl, by intro w2 hSw; (try dsimp only at hSw); go_simp⟩) hS0 ?_
                      try simp only [Act.put, List.setIfInBounds_toArray, List.set_cons_zero, List.set_cons_succ]
                      refine wpAnyH_take (i := 2) (oi := { dst := some 71, op := Go.Op.move (Go.Operand.tmp 6), type := 92, pos := "ref.go:249", after := #[{ on := 1, ground := Go.Ground.guard }], guard := some (1, false) }) (v := undef) rfl (by kernel_rfl) (by kernel_rfl) (by kernel_rfl) (fun _ _ _ h => h) (Or.inr ⟨by rfl, rfl⟩) hS0 ?_
                      try simp only [Act.put, List.setIfInBounds_toArray, List.set_cons_zero, List.set_cons_succ]
                      refine wpAnyH_take (i := 3) (oi := { dst := some 72, op := Go.Op.move (Go.Operand.tmp 14), type := 3, pos := "ref.go:249", after := #[{ on := 1, ground := Go.Ground.guard }], guard := some (1, false) }) (v := undef) rfl (by kernel_rfl) (by kernel_rfl) (by kernel_rfl) (fun _ _ _ h => h) (Or.inr ⟨by rfl, rfl⟩) hS0 ?_
                      try simp only [Act.put, List.setIfInBounds_toArray, List.set_cons_zero, List.set_cons_succ]
                      refine wpAnyH_take (i := 4) (oi := { dst := some 73, op := Go.Op.indexAddr 92 (Go.Operand.tmp 71) (Go.Operand.tmp 72), type := 0, pos := "ref.go:249", after := #[{ on := 2, ground := Go.Ground.data }, { on := 3, ground := Go.Ground.data }, { on := 1, ground := Go.Ground.guard }], guard := some (1, false) }) (v := undef) rfl (by kernel_rfl) (by kernel_rfl) (by kernel_rfl) (fun _ _ _ h => h) (Or.inr ⟨by rfl, rfl⟩) hS0 ?_
                      try simp only [Act.put, List.setIfInBounds_toArray, List.set_cons_zero, List.set_cons_succ]
                      refine wpAnyH_take (i := 5) (oi := { dst := some 74, op := Go.Op.load 29 (Go.Operand.tmp 73), type := 29, pos := "ref.go:249", after := #[{ on := 4, ground := Go.Ground.data }, { on := 1, ground := Go.Ground.guard }], guard := some (1, false) }) (v := undef) rfl (by kernel_rfl) (by kernel_rfl) (by kernel_rfl) (fun _ _ _ h => h) (Or.inr ⟨by rfl, rfl⟩) hS0 ?_
                      try simp only [Act.put, List.setIfInBounds_toArray, List.set_cons_zero, List.set_cons_succ]
                      refine wpAnyH_take (i := 6) (oi := { dst := some 75, op := Go.Op.load 28 (Go.Operand.tmp 3), type := 28, pos := "ref.go:249", after := #[{ on := 1, ground := Go.Ground.guard }], guard := some (1, false) }) (v := undef) rfl (by kernel_rfl) (by kernel_rfl) (by kernel_rfl) (fun _ _ _ h => h) (Or.inr ⟨by rfl, rfl⟩) hS0 ?_
                      try simp only [Act.put, List.setIfInBounds_toArray, List.set_cons_zero, List.set_cons_succ]
                      refine wpAnyH_take (i := 7) (oi := { dst := some 76, op := Go.Op.move (Go.Operand.tmp 10), type := 29, pos := "ref.go:249", after := #[{ on := 1, ground := Go.Ground.guard }], guard := some (1, false) }) (v := undef) rfl (by kernel_rfl) (by kernel_rfl) (by kernel_rfl) (fun _ _ _ h => h) (Or.inr ⟨by rfl, rfl⟩) hS0 ?_
                      try simp only [Act.put, List.setIfInBounds_toArray, List.set_cons_zero, List.set_cons_succ]
                      refine wpAnyH_take (i := 8) (oi := { dst := some 77, op := Go.Op.move (Go.Operand.tmp 12), type := 3, pos := "ref.go:249", after := #[{ on := 1, ground := Go.Ground.guard }], guard := some (1, false) }) (v := undef) rfl (by kernel_rfl) (by kernel_rfl) (by kernel_rfl) (fun _ _ _ h => h) (Or.inr ⟨by rfl, rfl⟩) hS0 ?_
                      try simp only [Act.put, List.setIfInBounds_toArray, List.set_cons_zero, List.set_cons_succ]
                      refine wpAnyH_take (i := 9) (oi := { dst := some 78, op := Go.Op.indexAddr 29 (Go.Operand.tmp 76) (Go.Operand.tmp 77), type := 0, pos := "ref.go:249", after := #[{ on := 7, ground := Go.Ground.data }, { on := 8, ground := Go.Ground.data }, { on := 1, ground := Go.Ground.guard }], guard := some (1, false) }) (v := undef) rfl (by kernel_rfl) (by kernel_rfl) (by kernel_rfl) (fun _ _ _ h => h) (Or.inr ⟨by rfl, rfl⟩) hS0 ?_
                      try simp only [Act.put, List.setIfInBounds_toArray, List.set_cons_zero, List.set_cons_succ]
                      refine wpAnyH_take (i := 10) (oi := { dst := some 79, op := Go.Op.load 28 (Go.Operand.tmp 78), type := 28, pos := "ref.go:249", after := #[{ on := 9, ground := Go.Ground.data }, { on := 1, ground := Go.Ground.guard }], guard := some (1, false) }) (v := undef) rfl (by kernel_rfl) (by kernel_rfl) (by kernel_rfl) (fun _ _ _ h => h) (Or.inr ⟨by rfl, rfl⟩) hS0 ?_
                      try simp only [Act.put, List.setIfInBounds_toArray, List.set_cons_zero, List.set_cons_succ]
                      refine wpAnyH_take (i := 11) (oi := { dst := some 80, op := Go.Op.build 57 #[(0, Go.Operand.tmp 75), (1, Go.Operand.tmp 79)], type := 57, pos := "ref.go:249", after := #[{ on := 6, ground := Go.Ground.data }, { on := 10, ground := Go.Ground.data }, { on := 1, ground := Go.Ground.guard }], guard := some (1, false) }) (v := undef) rfl (by kernel_rfl) (by kernel_rfl) (by kernel_rfl) (fun _ _ _ h => h) (Or.inr ⟨by rfl, rfl⟩) hS0 ?_
                      try simp only [Act.put, List.setIfInBounds_toArray, List.set_cons_zero, List.set_cons_succ]
                      refine wpAnyH_take (i := 12) (oi := { dst := some 81, op := Go.Op.call { callee := Go.Callee.value (Go.Operand.func 37), args := #[Go.Operand.tmp 74, Go.Operand.tmp 80], argTypes := #[29, 57] }, type := 4, pos := "ref.go:249", after := #[{ on := 5, ground := Go.Ground.data }, { on := 11, ground := Go.Ground.data }, { on := 1, ground := Go.Ground.chain }, { on := 1, ground := Go.Ground.guard }], guard := some (1, false) }) (v := undef) rfl (by kernel_rfl) (by kernel_rfl) (by kernel_rfl) (fun _ _ _ h => h) (Or.inr ⟨by rfl, rfl⟩) hS0 ?_
                      try simp only [Act.put, List.setIfInBounds_toArray, List.set_cons_zero, List.set_cons_succ]
                      refine wpAnyH_take (i := 13) (oi := { dst := some 82, op := Go.Op.pick (Go.Operand.tmp 70) (Go.Operand.const (Go.Value.bool true)) (Go.Operand.tmp 81), type := 4, pos := "ref.go:249", after := #[{ on := 1, ground := Go.Ground.data }, { on := 12, ground := Go.Ground.data }], guard := none }) (v := .bool true) rfl (by kernel_rfl) (by kernel_rfl) (by kernel_rfl) (fun _ _ _ h => h) (Or.inl ⟨by rfl, by intro w2 hSw; (try dsimp only at hSw); go_simp⟩) hS0 ?_
                      try simp only [Act.put, List.setIfInBounds_toArray, List.set_cons_zero, List.set_cons_succ]
                      refine wpAnyH_take (i := 14) (oi := { dst := some 13, op := Go.Op.assign (Go.Operand.tmp 82), type := 4, pos := "ref.go:249", after := #[{ on := 13, ground := Go.Ground.data }, { on := 12, ground := Go.Ground.chain }, { on := 0, ground := Go.Ground.phase }, { on := 1, ground := Go.Ground.phase }, { on := 2, ground := Go.Ground.phase }, { on := 3, ground := Go.Ground.phase }, { on := 4, ground := Go.Ground.phase }, { on := 5, ground := Go.Ground.phase }, { on := 6, ground := Go.Ground.phase }, { on := 7, ground := Go.Ground.phase }, { on := 8, ground := Go.Ground.phase }, { on := 9, ground := Go.Ground.phase }, { on := 10, ground := Go.Ground.phase }, { on := 11, ground := Go.Ground.phase }, { on := 12, ground := Go.Ground.phase }, { on := 13, ground := Go.Ground.phase }], guard := none }) (v := .bool true) rfl (by kernel_rfl) (by kernel_rfl) (by kernel_rfl) (fun _ _ _ h => h) (Or.inl ⟨by rfl, by intro w2 hSw; (try dsimp only at hSw); go_simp⟩) hS0 ?_
                      try simp only [Act.put, List.setIfInBounds_toArray, List.set_cons_zero, List.set_cons_succ]
                      refine wpAnyH_done (by kernel_rfl) ?_ _
                      have HB7 := Lib.hid (HBm.out.trans (hS0.mono HBm.out.size))
                      clear hS0 hxv c4 c5 f0 f1 i0 i1 i2 i3
                      go_wp2_with fail
                      go_roundw
                      case rel => exact ⟨m + 1, by go_num, by omega, by rw [Hv.out], HB7.out⟩
                      case measure => simp [intOf]; omega
                    | false =>
                      obtain ⟨hq, hhq⟩ : ∃ hq, hasP M x y = hq := ⟨_, rfl⟩
                      have Hv := Lib.hid (show hasT ⟨ps, off, ⟨lo, hi⟩⟩ x y (m + 1) = hq from by rw [Hht.out, Bool.false_or, hhq])
                      have Hhq := Lib.hid hhq
                      clear hhq
                      go_wp2_with fail
                      refine wp_region_held_drew (S := fun w2 => Below Wm.heap.size Wm w2) (by kernel_rfl) (drew_b _ _) (fun hS0 => ?_)
                      refine wpAnyH_take (i := 0) (oi := { dst := some 69, op := Go.Op.move (Go.Operand.tmp 13), type := 4, pos := "ref.go:249", after := #[], guard := none }) (v := .bool false) rfl (by kernel_rfl) (by kernel_rfl) (by kernel_rfl) (fun _ _ _ h => h) (Or.inl ⟨by rfl, by intro w2 hSw; (try dsimp only at hSw); have hx0 := (hSw.cell (p := ⟨g, m, none⟩) (lt_of_cell hxv)).trans hxv; have c4 := (hSw.cell (p := ⟨D, 0, none⟩) (lt_of_cell c4)).trans c4; have c5 := (hSw.cell (p := ⟨D, 1, none⟩) (lt_of_cell c5)).trans c5; have f0 := (hSw.cell (p := ⟨b4, o4 + j * 2, none⟩) (lt_of_cell f0)).trans f0; have f1 := (hSw.cell (p := ⟨b4, o4 + j * 2 + 1, none⟩) (lt_of_cell f1)).trans f1; go_simp⟩) hS0 ?_
                      try simp only [Act.put, List.setIfInBounds_toArray, List.set_cons_zero, List.set_cons_succ]
                      refine wpAnyH_take (i := 1) (oi := { dst := some 70, op := Go.Op.move (Go.Operand.tmp 69), type := 4, pos := "ref.go:249", after := #[{ on := 0, ground := Go.Ground.data }], guard := none }) (v := .bool false) rfl (by kernel_rfl) (by kernel_rfl) (by kernel_rfl) (fun _ _ _ h => h) (Or.inl ⟨by rfl, by intro w2 hSw; (try dsimp only at hSw); have hx0 := (hSw.cell (p := ⟨g, m, none⟩) (lt_of_cell hxv)).trans hxv; have c4 := (hSw.cell (p := ⟨D, 0, none⟩) (lt_of_cell c4)).trans c4; have c5 := (hSw.cell (p := ⟨D, 1, none⟩) (lt_of_cell c5)).trans c5; have f0 := (hSw.cell (p := ⟨b4, o4 + j * 2, none⟩) (lt_of_cell f0)).trans f0; have f1 := (hSw.cell (p := ⟨b4, o4 + j * 2 + 1, none⟩) (lt_of_cell f1)).trans f1; go_simp⟩) hS0 ?_
                      try simp only [Act.put, List.setIfInBounds_toArray, List.set_cons_zero, List.set_cons_succ]
                      refine wpAnyH_take (i := 2) (oi := { dst := some 71, op := Go.Op.move (Go.Operand.tmp 6), type := 92, pos := "ref.go:249", after := #[{ on := 1, ground := Go.Ground.guard }], guard := some (1, false) }) (v := .slice (some ⟨g, 0, none⟩) N cp) rfl (by kernel_rfl) (by kernel_rfl) (by kernel_rfl) (fun _ _ _ h => h) (Or.inl ⟨by rfl, by intro w2 hSw; (try dsimp only at hSw); have hx0 := (hSw.cell (p := ⟨g, m, none⟩) (lt_of_cell hxv)).trans hxv; have c4 := (hSw.cell (p := ⟨D, 0, none⟩) (lt_of_cell c4)).trans c4; have c5 := (hSw.cell (p := ⟨D, 1, none⟩) (lt_of_cell c5)).trans c5; have f0 := (hSw.cell (p := ⟨b4, o4 + j * 2, none⟩) (lt_of_cell f0)).trans f0; have f1 := (hSw.cell (p := ⟨b4, o4 + j * 2 + 1, none⟩) (lt_of_cell f1)).trans f1; go_simp⟩) hS0 ?_
                      try simp only [Act.put, List.setIfInBounds_toArray, List.set_cons_zero, List.set_cons_succ]
                      refine wpAnyH_take (i := 3) (oi := { dst := some 72, op := Go.Op.move (Go.Operand.tmp 14), type := 3, pos := "ref.go:249", after := #[{ on := 1, ground := Go.Ground.guard }], guard := some (1, false) }) (v := .int .i64 (m : Int)) rfl (by kernel_rfl) (by kernel_rfl) (by kernel_rfl) (fun _ _ _ h => h) (Or.inl ⟨by rfl, by intro w2 hSw; (try dsimp only at hSw); have hx0 := (hSw.cell (p := ⟨g, m, none⟩) (lt_of_cell hxv)).trans hxv; have c4 := (hSw.cell (p := ⟨D, 0, none⟩) (lt_of_cell c4)).trans c4; have c5 := (hSw.cell (p := ⟨D, 1, none⟩) (lt_of_cell c5)).trans c5; have f0 := (hSw.cell (p := ⟨b4, o4 + j * 2, none⟩) (lt_of_cell f0)).trans f0; have f1 := (hSw.cell (p := ⟨b4, o4 + j * 2 + 1, none⟩) (lt_of_cell f1)).trans f1; go_simp⟩) hS0 ?_
                      try simp only [Act.put, List.setIfInBounds_toArray, List.set_cons_zero, List.set_cons_succ]
                      refine wpAnyH_take (i := 4) (oi := { dst := some 73, op := Go.Op.indexAddr 92 (Go.Operand.tmp 71) (Go.Operand.tmp 72), type := 0, pos := "ref.go:249", after := #[{ on := 2, ground := Go.Ground.data }, { on := 3, ground := Go.Ground.data }, { on := 1, ground := Go.Ground.guard }], guard := some (1, false) }) (v := .pointer (some ⟨g, m, none⟩)) rfl (by kernel_rfl) (by kernel_rfl) (by kernel_rfl) (fun _ _ _ h => h) (Or.inl ⟨by rfl, by intro w2 hSw; (try dsimp only at hSw); have hx0 := (hSw.cell (p := ⟨g, m, none⟩) (lt_of_cell hxv)).trans hxv; have c4 := (hSw.cell (p := ⟨D, 0, none⟩) (lt_of_cell c4)).trans c4; have c5 := (hSw.cell (p := ⟨D, 1, none⟩) (lt_of_cell c5)).trans c5; have f0 := (hSw.cell (p := ⟨b4, o4 + j * 2, none⟩) (lt_of_cell f0)).trans f0; have f1 := (hSw.cell (p := ⟨b4, o4 + j * 2 + 1, none⟩) (lt_of_cell f1)).trans f1; go_simp⟩) hS0 ?_
                      try simp only [Act.put, List.setIfInBounds_toArray, List.set_cons_zero, List.set_cons_succ]
                      refine wpAnyH_take (i := 5) (oi := { dst := some 74, op := Go.Op.load 29 (Go.Operand.tmp 73), type := 29, pos := "ref.go:249", after := #[{ on := 4, ground := Go.Ground.data }, { on := 1, ground := Go.Ground.guard }], guard := some (1, false) }) (v := .slice (some ⟨gx, 0, none⟩) ln cx) rfl (by kernel_rfl) (by kernel_rfl) (by kernel_rfl) (fun _ _ _ h => h) (Or.inl ⟨by rfl, by intro w2 hSw; (try dsimp only at hSw); have hx0 := (hSw.cell (p := ⟨g, m, none⟩) (lt_of_cell hxv)).trans hxv; have c4 := (hSw.cell (p := ⟨D, 0, none⟩) (lt_of_cell c4)).trans c4; have c5 := (hSw.cell (p := ⟨D, 1, none⟩) (lt_of_cell c5)).trans c5; have f0 := (hSw.cell (p := ⟨b4, o4 + j * 2, none⟩) (lt_of_cell f0)).trans f0; have f1 := (hSw.cell (p := ⟨b4, o4 + j * 2 + 1, none⟩) (lt_of_cell f1)).trans f1; go_simp⟩) hS0 ?_
                      try simp only [Act.put, List.setIfInBounds_toArray, List.set_cons_zero, List.set_cons_succ]
                      refine wpAnyH_take (i := 6) (oi := { dst := some 75, op := Go.Op.load 28 (Go.Operand.tmp 3), type := 28, pos := "ref.go:249", after := #[{ on := 1, ground := Go.Ground.guard }], guard := some (1, false) }) (v := .agg #[.int .i64 p, .bool t]) rfl (by kernel_rfl) (by kernel_rfl) (by kernel_rfl) (fun _ _ _ h => h) (Or.inl ⟨by rfl, by intro w2 hSw; (try dsimp only at hSw); have hx0 := (hSw.cell (p := ⟨g, m, none⟩) (lt_of_cell hxv)).trans hxv; have c4 := (hSw.cell (p := ⟨D, 0, none⟩) (lt_of_cell c4)).trans c4; have c5 := (hSw.cell (p := ⟨D, 1, none⟩) (lt_of_cell c5)).trans c5; have f0 := (hSw.cell (p := ⟨b4, o4 + j * 2, none⟩) (lt_of_cell f0)).trans f0; have f1 := (hSw.cell (p := ⟨b4, o4 + j * 2 + 1, none⟩) (lt_of_cell f1)).trans f1; go_simp⟩) hS0 ?_
                      try simp only [Act.put, List.setIfInBounds_toArray, List.set_cons_zero, List.set_cons_succ]
                      refine wpAnyH_take (i := 7) (oi := { dst := some 76, op := Go.Op.move (Go.Operand.tmp 10), type := 29, pos := "ref.go:249", after := #[{ on := 1, ground := Go.Ground.guard }], guard := some (1, false) }) (v := .slice (some ⟨b4, o4, none⟩) m4 cp4) rfl (by kernel_rfl) (by kernel_rfl) (by kernel_rfl) (fun _ _ _ h => h) (Or.inl ⟨by rfl, by intro w2 hSw; (try dsimp only at hSw); have hx0 := (hSw.cell (p := ⟨g, m, none⟩) (lt_of_cell hxv)).trans hxv; have c4 := (hSw.cell (p := ⟨D, 0, none⟩) (lt_of_cell c4)).trans c4; have c5 := (hSw.cell (p := ⟨D, 1, none⟩) (lt_of_cell c5)).trans c5; have f0 := (hSw.cell (p := ⟨b4, o4 + j * 2, none⟩) (lt_of_cell f0)).trans f0; have f1 := (hSw.cell (p := ⟨b4, o4 + j * 2 + 1, none⟩) (lt_of_cell f1)).trans f1; go_simp⟩) hS0 ?_
                      try simp only [Act.put, List.setIfInBounds_toArray, List.set_cons_zero, List.set_cons_succ]
                      refine wpAnyH_take (i := 8) (oi := { dst := some 77, op := Go.Op.move (Go.Operand.tmp 12), type := 3, pos := "ref.go:249", after := #[{ on := 1, ground := Go.Ground.guard }], guard := some (1, false) }) (v := .int .i64 (j : Int)) rfl (by kernel_rfl) (by kernel_rfl) (by kernel_rfl) (fun _ _ _ h => h) (Or.inl ⟨by rfl, by intro w2 hSw; (try dsimp only at hSw); have hx0 := (hSw.cell (p := ⟨g, m, none⟩) (lt_of_cell hxv)).trans hxv; have c4 := (hSw.cell (p := ⟨D, 0, none⟩) (lt_of_cell c4)).trans c4; have c5 := (hSw.cell (p := ⟨D, 1, none⟩) (lt_of_cell c5)).trans c5; have f0 := (hSw.cell (p := ⟨b4, o4 + j * 2, none⟩) (lt_of_cell f0)).trans f0; have f1 := (hSw.cell (p := ⟨b4, o4 + j * 2 + 1, none⟩) (lt_of_cell f1)).trans f1; go_simp⟩) hS0 ?_
                      try simp only [Act.put, List.setIfInBounds_toArray, List.set_cons_zero, List.set_cons_succ]
                      refine wpAnyH_take (i := 9) (oi := { dst := some 78, op := Go.Op.indexAddr 29 (Go.Operand.tmp 76) (Go.Operand.tmp 77), type := 0, pos := "ref.go:249", after := #[{ on := 7, ground := Go.Ground.data }, { on := 8, ground := Go.Ground.data }, { on := 1, ground := Go.Ground.guard }], guard := some (1, false) }) (v := .pointer (some ⟨b4, o4 + j * 2, none⟩)) rfl (by kernel_rfl) (by kernel_rfl) (by kernel_rfl) (fun _ _ _ h => h) (Or.inl ⟨by rfl, by intro w2 hSw; (try dsimp only at hSw); have hx0 := (hSw.cell (p := ⟨g, m, none⟩) (lt_of_cell hxv)).trans hxv; have c4 := (hSw.cell (p := ⟨D, 0, none⟩) (lt_of_cell c4)).trans c4; have c5 := (hSw.cell (p := ⟨D, 1, none⟩) (lt_of_cell c5)).trans c5; have f0 := (hSw.cell (p := ⟨b4, o4 + j * 2, none⟩) (lt_of_cell f0)).trans f0; have f1 := (hSw.cell (p := ⟨b4, o4 + j * 2 + 1, none⟩) (lt_of_cell f1)).trans f1; go_simp⟩) hS0 ?_
                      try simp only [Act.put, List.setIfInBounds_toArray, List.set_cons_zero, List.set_cons_succ]
                      refine wpAnyH_take (i := 10) (oi := { dst := some 79, op := Go.Op.load 28 (Go.Operand.tmp 78), type := 28, pos := "ref.go:249", after := #[{ on := 9, ground := Go.Ground.data }, { on := 1, ground := Go.Ground.guard }], guard := some (1, false) }) (v := .agg #[.int .i64 (y0 : Int), .bool y1]) rfl (by kernel_rfl) (by kernel_rfl) (by kernel_rfl) (fun _ _ _ h => h) (Or.inl ⟨by rfl, by intro w2 hSw; (try dsimp only at hSw); have hx0 := (hSw.cell (p := ⟨g, m, none⟩) (lt_of_cell hxv)).trans hxv; have c4 := (hSw.cell (p := ⟨D, 0, none⟩) (lt_of_cell c4)).trans c4; have c5 := (hSw.cell (p := ⟨D, 1, none⟩) (lt_of_cell c5)).trans c5; have f0 := (hSw.cell (p := ⟨b4, o4 + j * 2, none⟩) (lt_of_cell f0)).trans f0; have f1 := (hSw.cell (p := ⟨b4, o4 + j * 2 + 1, none⟩) (lt_of_cell f1)).trans f1; go_simp⟩) hS0 ?_
                      try simp only [Act.put, List.setIfInBounds_toArray, List.set_cons_zero, List.set_cons_succ]
                      refine wpAnyH_take (i := 11) (oi := { dst := some 80, op := Go.Op.build 57 #[(0, Go.Operand.tmp 75), (1, Go.Operand.tmp 79)], type := 57, pos := "ref.go:249", after := #[{ on := 6, ground := Go.Ground.data }, { on := 10, ground := Go.Ground.data }, { on := 1, ground := Go.Ground.guard }], guard := some (1, false) }) (v := .agg #[.int .i64 p, .bool t, .int .i64 (y0 : Int), .bool y1]) rfl (by kernel_rfl) (by kernel_rfl) (by kernel_rfl) (fun _ _ _ h => h) (Or.inl ⟨by rfl, by intro w2 hSw; (try dsimp only at hSw); have hx0 := (hSw.cell (p := ⟨g, m, none⟩) (lt_of_cell hxv)).trans hxv; have c4 := (hSw.cell (p := ⟨D, 0, none⟩) (lt_of_cell c4)).trans c4; have c5 := (hSw.cell (p := ⟨D, 1, none⟩) (lt_of_cell c5)).trans c5; have f0 := (hSw.cell (p := ⟨b4, o4 + j * 2, none⟩) (lt_of_cell f0)).trans f0; have f1 := (hSw.cell (p := ⟨b4, o4 + j * 2 + 1, none⟩) (lt_of_cell f1)).trans f1; go_simp⟩) hS0 ?_
                      try simp only [Act.put, List.setIfInBounds_toArray, List.set_cons_zero, List.set_cons_succ]
                      refine wpAnyH_ready (rs := [12]) (by kernel_rfl) (by simp) ?_
                      refine AllReadyH.cons (o := { dst := some 81, op := Go.Op.call { callee := Go.Callee.value (Go.Operand.func 37), args := #[Go.Operand.tmp 74, Go.Operand.tmp 80], argTypes := #[29, 57] }, type := 4, pos := "ref.go:249", after := #[{ on := 5, ground := Go.Ground.data }, { on := 11, ground := Go.Ground.data }, { on := 1, ground := Go.Ground.chain }, { on := 1, ground := Go.Ground.guard }], guard := some (1, false) }) rfl (fun K2 hK => ?_) AllReadyH.nil
                      go_simp
                      refine (has37 (some ⟨gx, 0, none⟩) ln cx (M.map stC) p (y0 : Int) t y1 _ (HS.out.below hS0 (Nat.le_refl _)) (by omega)).mono ?_
                      rintro e9 w6 ⟨rfl, hb⟩
                      rw [Hhb.out, Hhq.out]
                      (try go_simp)
                      refine hK.out _ _ (hS0.trans (hb.mono hS0.size)) (fun hS1 => ?_)
                      clear hK K2
                      try simp only [Act.put, List.setIfInBounds_toArray, List.set_cons_zero, List.set_cons_succ]
                      refine wpAnyH_take (i := 13) (oi := { dst := some 82, op := Go.Op.pick (Go.Operand.tmp 70) (Go.Operand.const (Go.Value.bool true)) (Go.Operand.tmp 81), type := 4, pos := "ref.go:249", after := #[{ on := 1, ground := Go.Ground.data }, { on := 12, ground := Go.Ground.data }], guard := none }) (v := .bool hq) rfl (by kernel_rfl) (by kernel_rfl) (by kernel_rfl) (fun _ _ _ h => h) (Or.inl ⟨by rfl, by intro w2 hSw; (try dsimp only at hSw); have hx0 := (hSw.cell (p := ⟨g, m, none⟩) (lt_of_cell hxv)).trans hxv; have c4 := (hSw.cell (p := ⟨D, 0, none⟩) (lt_of_cell c4)).trans c4; have c5 := (hSw.cell (p := ⟨D, 1, none⟩) (lt_of_cell c5)).trans c5; have f0 := (hSw.cell (p := ⟨b4, o4 + j * 2, none⟩) (lt_of_cell f0)).trans f0; have f1 := (hSw.cell (p := ⟨b4, o4 + j * 2 + 1, none⟩) (lt_of_cell f1)).trans f1; go_simp⟩) hS1 ?_
                      try simp only [Act.put, List.setIfInBounds_toArray, List.set_cons_zero, List.set_cons_succ]
                      refine wpAnyH_take (i := 14) (oi := { dst := some 13, op := Go.Op.assign (Go.Operand.tmp 82), type := 4, pos := "ref.go:249", after := #[{ on := 13, ground := Go.Ground.data }, { on := 12, ground := Go.Ground.chain }, { on := 0, ground := Go.Ground.phase }, { on := 1, ground := Go.Ground.phase }, { on := 2, ground := Go.Ground.phase }, { on := 3, ground := Go.Ground.phase }, { on := 4, ground := Go.Ground.phase }, { on := 5, ground := Go.Ground.phase }, { on := 6, ground := Go.Ground.phase }, { on := 7, ground := Go.Ground.phase }, { on := 8, ground := Go.Ground.phase }, { on := 9, ground := Go.Ground.phase }, { on := 10, ground := Go.Ground.phase }, { on := 11, ground := Go.Ground.phase }, { on := 12, ground := Go.Ground.phase }, { on := 13, ground := Go.Ground.phase }], guard := none }) (v := .bool hq) rfl (by kernel_rfl) (by kernel_rfl) (by kernel_rfl) (fun _ _ _ h => h) (Or.inl ⟨by rfl, by intro w2 hSw; (try dsimp only at hSw); have hx0 := (hSw.cell (p := ⟨g, m, none⟩) (lt_of_cell hxv)).trans hxv; have c4 := (hSw.cell (p := ⟨D, 0, none⟩) (lt_of_cell c4)).trans c4; have c5 := (hSw.cell (p := ⟨D, 1, none⟩) (lt_of_cell c5)).trans c5; have f0 := (hSw.cell (p := ⟨b4, o4 + j * 2, none⟩) (lt_of_cell f0)).trans f0; have f1 := (hSw.cell (p := ⟨b4, o4 + j * 2 + 1, none⟩) (lt_of_cell f1)).trans f1; go_simp⟩) hS1 ?_
                      try simp only [Act.put, List.setIfInBounds_toArray, List.set_cons_zero, List.set_cons_succ]
                      refine wpAnyH_done (by kernel_rfl) ?_ _
                      have HB7 := Lib.hid (HBm.out.trans (hS1.mono HBm.out.size))
                      clear hS0 hS1 hxv c4 c5 f0 f1 i0 i1 i2 i3
                      go_wp2_with fail
                      go_roundw
                      case rel => exact ⟨m + 1, by go_num, by omega, by rw [Hv.out], HB7.out⟩
                      case measure => simp [intOf]; omega
                  · obtain rfl : m = N := by omega
                    have i1 : ¬ (m : Int) < (m : Int) := by omega
                    have hrs := rivT_succ (c := ⟨ps, off, ⟨lo, hi⟩⟩) (x := x) (k := j) hjc
                    rw [show (codesL (⟨ps, off, ⟨lo, hi⟩⟩ : Cy).ps)[j]'hjc = y from Hy.out, HN.out] at hrs
                    obtain ⟨sv, hsv⟩ : ∃ sv, hasT ⟨ps, off, ⟨lo, hi⟩⟩ x y m = sv := ⟨_, rfl⟩
                    rw [hsv] at hrs ⊢
                    have f0 : Wm.cell? ⟨b4, o4 + j * 2, none⟩ = some (.int .i64 (y0 : Int)) := (h5m.cell (p := ⟨b4, o4 + j * 2, none⟩) Hb4.out).trans Hd.out.1
                    have f1 : Wm.cell? ⟨b4, o4 + j * 2 + 1, none⟩ = some (.bool y1) := (h5m.cell (p := ⟨b4, o4 + j * 2 + 1, none⟩) Hb4.out).trans Hd.out.2
                    have i2 : (0 : Int) ≤ (j : Int) := by omega
                    have i3 : (j : Int) < (m4 : Int) := by omega
                    have hown := own_keep HO.out (Keeps.of_new (Mut := fun _ => False) hBm) (fun _ _ e => e)
                    clear hsv hBm hlm hm h3m
                    cases sv with
                    | false =>
                      have HO7 := Lib.hid (show Wm.ownsRow 0 28 2 u11 (rivT ⟨ps, off, ⟨lo, hi⟩⟩ x (j + 1)).length (flatS (rivT ⟨ps, off, ⟨lo, hi⟩⟩ x (j + 1))) from by
                        rw [hrs]
                        simp only [Bool.false_eq_true, if_false, List.append_nil]
                        exact hown)
                      clear hrs hown f0 f1
                      go_wp2_with fail
                      go_roundw
                      case rel => exact ⟨j + 1, by go_num, by omega, HO7.out, Hob.out, H5m.out⟩
                      case measure => simp [intOf]; omega
                    | true =>
                      have hrs2 : rivT ⟨ps, off, ⟨lo, hi⟩⟩ x (j + 1) = rivT ⟨ps, off, ⟨lo, hi⟩⟩ x j ++ [y] := by rw [hrs]; simp
                      have hX1 := below_alloc_ Wm (.cells #[.int .i64 (y0 : Int), .bool y1] 28)
                      obtain ⟨v', W', hap, hown', hKp, hv'⟩ := app_one Try.underlying29 info28_ rfl (by omega) (by omega) (own_keep hown (Keeps.of_new (Mut := fun _ => False) hX1) (fun _ _ e => e)) (vals := [.int .i64 (y0 : Int), .bool y1]) rfl (heap_alloc_new_ Wm _) (by simp [Value.oneCell']) (by
                        have h2 := rivT_le ⟨ps, off, ⟨lo, hi⟩⟩ x j
                        rw [show (codesL (⟨ps, off, ⟨lo, hi⟩⟩ : Cy).ps).length = m4 from Hm4.out] at h2
                        omega)
                      have hrun := run_app hap
                      have HO7 := Lib.hid (show W'.ownsRow 0 28 2 v' (rivT ⟨ps, off, ⟨lo, hi⟩⟩ x (j + 1)).length (flatS (rivT ⟨ps, off, ⟨lo, hi⟩⟩ x (j + 1))) from by
                        rw [hrs2, List.length_append]
                        have : flatS (rivT ⟨ps, off, ⟨lo, hi⟩⟩ x j ++ [y]) = flatS (rivT ⟨ps, off, ⟨lo, hi⟩⟩ x j) ++ cellS y := by simp [flatS]
                        rw [this, Hcs.out]
                        exact hown')
                      have HB7 := Lib.hid (show Below W5.heap.size W5 W' from h5m.trans ((hX1.mono h5m.size).trans (hKp.below (by have := h5m.size; simp; omega) (fun q hq e => by have := Hob.out _ e; omega))))
                      have Hob7 := Lib.hid (show ∀ b, v'.ownBlock = some b → W5.heap.size ≤ b from fun b hb => by
                        rcases hv' with hv' | ⟨hv', _⟩
                        · exact Hob.out _ (hv' ▸ hb)
                        · rw [hv'] at hb
                          have := h5m.size
                          cases hb
                          simp
                          omega)
                      clear hrs hrs2 hX1 hown hap hown' hKp hv' h5m
                      go_wp2_with fail
                      go_roundw
                      case rel => exact ⟨j + 1, by go_num, by omega, HO7.out, Hob7.out, HB7.out⟩
                      case measure => simp [intOf]; omega
              · obtain rfl : m4 = j := by omega
                have i2 : ¬ (m4 : Int) < (m4 : Int) := by omega
                have hO := HO.out
                have hre : rivT ⟨ps, off, ⟨lo, hi⟩⟩ x m4 = rivL ⟨ps, off, ⟨lo, hi⟩⟩ x := by
                  have := rivT_end ⟨ps, off, ⟨lo, hi⟩⟩ x
                  rwa [show (codesL (⟨ps, off, ⟨lo, hi⟩⟩ : Cy).ps).length = m4 from Hm4.out] at this
                rw [hre] at hO
                obtain ⟨C8, cp8, hv8, hcp8, hS8⟩ := sts_own hO
                rw [hv8]
                have HS8 := Lib.hid hS8
                have Hcp8 := Lib.hid hcp8
                have HF := Lib.hid (K5.out.next HB6.out).k.below
                clear hO hv8 hS8 hcp8 hre hlj
                go_wp2_with fail
                refine bodyPost_ret (v := .tuple #[.slice C8 (rivL ⟨ps, off, ⟨lo, hi⟩⟩ x).length cp8, .int .i64 0]) (by simp [results, Try.results33, go_sem]) rfl ⟨C8, _, cp8, by rw [Hrv.out], Hcp8.out, by rw [Hrv.out]; exact HS8.out, HF.out⟩
  · have dr : (r != 0) = true := by rw [bne_iff_ne]; exact hr0
    have Hrv := Lib.hid (show rivR ⟨ps, off, ⟨lo, hi⟩⟩ ⟨p, t⟩ = ([], r) from by unfold rivR; rw [if_pos (by rw [Hr.out]; exact hr0), Hr.out])
    clear hr0
    go_wp2_with fail
    refine (checkCyl17 A n cap off lo hi ps _ K.out.k.pcs Hn.out).mono ?_
    rintro e W2 ⟨rfl, hb⟩
    rw [Hr.out]
    replace K := Lib.hid (K.out.next hb)
    have HF := Lib.hid K.out.k.below
    clear hb c0 c1 c2 c3 c4 c5
    go_wp2_with fail
    refine bodyPost_ret (v := .tuple #[.slice none 0 0, .int .i64 r]) (by simp [results, Try.results33, go_sem]) rfl ⟨none, 0, 0, by rw [Hrv.out], Nat.le_refl _, by rw [Hrv.out]; exact ⟨rfl, by omega⟩, HF.out⟩
end Go.Proofs.Ytfmcfalghbaanaa

namespace Go.Proofs.Ytfmcfalghbaanaa
set_option linter.unusedSimpArgs false
set_option linter.unusedVariables false
open Go.RowKit Go.Shelf
attribute [local go_sem] Oper.semAt_some
attribute [local go_sem ↓] exec_app
attribute [local go_sem ↓] at_app

/-- Two steps that a round of Passages reads. -/
structure P3 (W0 : World) (b q r : Nat) (v0 v1 u0 u1 : Value) (W : World) : Prop where
  below : Below W0.heap.size W0 W
  lt : b < W0.heap.size
  e0 : W0.cell? ⟨b, q, none⟩ = some v0
  e1 : W0.cell? ⟨b, q + 1, none⟩ = some v1
  d0 : W0.cell? ⟨b, r, none⟩ = some u0
  d1 : W0.cell? ⟨b, r + 1, none⟩ = some u1
section
variable {W0 : World} {b q r : Nat} {v0 v1 u0 u1 : Value} {W W' : World}
theorem P3.next (hb : Below W.heap.size W W') (h : P3 W0 b q r v0 v1 u0 u1 W) : P3 W0 b q r v0 v1 u0 u1 W' :=
  ⟨h.below.trans (hb.mono h.below.size), h.lt, h.e0, h.e1, h.d0, h.d1⟩
theorem P3.all (h : P3 W0 b q r v0 v1 u0 u1 W) : P3 W0 b q r v0 v1 u0 u1 W ∧
    W.cell? ⟨b, q, none⟩ = some v0 ∧ W.cell? ⟨b, q + 1, none⟩ = some v1 ∧ W.cell? ⟨b, r, none⟩ = some u0 ∧ W.cell? ⟨b, r + 1, none⟩ = some u1 := by
  have k : ∀ j, W.cell? ⟨b, j, none⟩ = W0.cell? ⟨b, j, none⟩ := fun j => h.below.cell (p := ⟨b, j, none⟩) h.lt
  exact ⟨h, (k _).trans h.e0, (k _).trans h.e1, (k _).trans h.d0, (k _).trans h.d1⟩
end
/-- Do the first ones of all joins have a pair? -/
def allU (c : Cy) (x y m : Nat) : Bool := ((joinsC c).take m).all fun l => hasP l x y
theorem allU_succ {c : Cy} {x y m : Nat} (h : m < (joinsC c).length) : allU c x y (m + 1) = (allU c x y m && hasP (joinsC c)[m] x y) := by
  unfold allU
  rw [List.take_succ_eq_append_getElem h, List.all_append]
  simp
theorem allU_end {c : Cy} {x y : Nat} : allU c x y (joinsC c).length = sharedB (tabOf c) (codesL c.ps) c.ps.length x y := by
  unfold allU
  rw [List.take_length]
  rfl
def shB (c : Cy) (x y : Nat) : Bool := sharedB (tabOf c) (codesL c.ps) c.ps.length x y
def rowI (c : Cy) (x k : Nat) : List (Nat × Nat) := (((codesL c.ps).take k).filter (shB c x)).map fun y => (x, y)
def passI (c : Cy) (i : Nat) : List (Nat × Nat) := ((codesL c.ps).take i).flatMap fun x => rowI c x (codesL c.ps).length
theorem rowI_succ {c : Cy} {x k : Nat} (h : k < (codesL c.ps).length) : rowI c x (k + 1) = rowI c x k ++ if shB c x (codesL c.ps)[k] = true then [(x, (codesL c.ps)[k])] else [] := by
  unfold rowI
  rw [List.take_succ_eq_append_getElem h, List.filter_append, List.map_append]
  congr 1
  rw [List.filter_cons]
  split <;> simp
theorem rowI_le (c : Cy) (x k : Nat) : (rowI c x k).length ≤ (codesL c.ps).length := by
  unfold rowI
  rw [List.length_map]
  refine Nat.le_trans (List.length_filter_le _ _) ?_
  rw [List.length_take]
  exact Nat.min_le_right _ _
theorem passI_succ {c : Cy} {i : Nat} (h : i < (codesL c.ps).length) : passI c (i + 1) = passI c i ++ rowI c (codesL c.ps)[i] (codesL c.ps).length := take_flat _ _ h
theorem passI_end (c : Cy) : passI c (codesL c.ps).length = passL c := by
  unfold passI passL rowI
  rw [List.take_length]
  rfl
theorem passI_le (c : Cy) (i : Nat) : (passI c i).length ≤ i * (codesL c.ps).length := by
  refine Nat.le_trans (flat_le _ _ _ (fun x _ => rowI_le c x _)) (Nat.mul_le_mul_right _ ?_)
  rw [List.length_take]
  exact Nat.min_le_left _ _
theorem flatP_snoc (l : List (Nat × Nat)) (p : Nat × Nat) : flatP (l ++ [p]) = flatP l ++ cellP p := by simp [flatP]

set_option maxRecDepth 100000 in
set_option maxHeartbeats 20000000 in
theorem pass31 (A : Option Addr) (n cap : Nat) (off lo hi : Int) (ps : List Pc) (w : World) (h : Pcs w A n ps) (hn : n ≤ 9223372036854775807) (hc : chkC ⟨ps, off, ⟨lo, hi⟩⟩ = 0 → n ≤ 5) :
    Calls Try.prog 31 #[cyl A n cap off lo hi] w fun e w' => ∃ C m cp, e = .returned (.tuple #[.slice C m cp, .int .i64 (passR ⟨ps, off, ⟨lo, hi⟩⟩).2]) ∧ m ≤ cp ∧ Prs w' C m (passR ⟨ps, off, ⟨lo, hi⟩⟩).1 ∧ Below w.heap.size w w' := by
  have hk : Kz w w.heap.size A n cap off lo hi ps none 0 [] _ := Kz.new (cap := cap) (off := off) (lo := lo) (hi := hi) h ⟨rfl, by omega⟩
  have K := Lib.hid hk
  have Hn := Lib.hid hn
  have Hc := Lib.hid hc
  clear h hn hk hc
  unfold cyl
  go_enter Try.func31, Try.ntmps31
  go_wp2_with fail
  generalize (w.alloc (.cells #[.slice A n cap, .int .i64 off, .int .i64 lo, .int .i64 hi] 26)) = W0 at K ⊢
  obtain ⟨B, hB⟩ : ∃ B, w.heap.size = B := ⟨_, rfl⟩
  replace K := Lib.hid (show Kz w B A n cap off lo hi ps none 0 [] W0 from by rw [← hB]; exact K.out)
  rw [hB]
  clear hB
  refine (checkCyl17 A n cap off lo hi ps W0 K.out.pcs Hn.out).mono ?_
  rintro e W1 ⟨rfl, hb⟩
  replace K := Lib.hid (K.out.next hb)
  clear hb
  obtain ⟨r, hr⟩ : ∃ r, chkC ⟨ps, off, ⟨lo, hi⟩⟩ = r := ⟨_, rfl⟩
  rw [hr]
  have Hr := Lib.hid hr
  clear hr
  obtain ⟨c0, c1, c2, c3⟩ := K.out.c
  by_cases hr0 : r = 0
  · subst hr0
    go_wp2_with fail
    refine (all52 A n cap off lo hi ps _ K.out.pcs (Hc.out Hr.out) Hr.out).mono ?_
    rintro e W2 ⟨v, rfl, hL, hb⟩
    replace K := Lib.hid (K.out.next hb)
    have HL := Lib.hid hL
    obtain ⟨D, cp, rfl, hcp, hpos, hcell⟩ := hL.read
    obtain ⟨N, hN⟩ : ∃ N, (joinsC ⟨ps, off, ⟨lo, hi⟩⟩).length = N := ⟨_, rfl⟩
    have HN := Lib.hid hN
    rw [hN] at hcp hpos ⊢
    clear hb c0 c1 c2 c3 hL hN
    by_cases h1 : N = 0
    · subst h1
      have Hpr := Lib.hid (passR_none Hr.out HN.out)
      have HF := Lib.hid K.out.below
      clear hcell hpos hcp
      go_wp2_with fail
      refine bodyPost_ret (v := .tuple #[.slice none 0 0, .int .i64 5]) (by simp [results, Try.results31, go_sem]) rfl ⟨none, 0, 0, by rw [Hpr.out], Nat.le_refl _, by rw [Hpr.out]; exact ⟨rfl, by omega⟩, HF.out⟩
    · have Hpr := Lib.hid (passR_some Hr.out (by rw [HN.out]; exact h1))
      have z2 : ((N : Int) == 0) = false := by rw [beq_eq_false_iff_ne]; omega
      have hn5 := Hc.out Hr.out
      have hpl := K.out.pcs.1
      have HN5 := Lib.hid (show N ≤ 100000 from by
        rw [← HN.out, ← pre_joins]
        refine Nat.le_trans (prefs_le (T := tabOf ⟨ps, off, ⟨lo, hi⟩⟩) (cs := codesL ps) (m := 10) (Nat.le_trans (codes_len_ ps ps.length) (by omega)) ps.length) ?_
        have h4 : (10 : Nat) ^ ps.length ≤ 10 ^ 5 := Nat.pow_le_pow_right (by omega) (by omega)
        have h5 : (10 : Nat) ^ 5 = 100000 := by decide
        omega)
      have hN5 := HN5.out
      obtain ⟨g, hg⟩ := hpos (by omega)
      subst hg
      have Hcell := Lib.hid hcell
      have Hpl := Lib.hid hpl
      obtain ⟨c0, c1, c2, c3⟩ := K.out.c
      clear hcell hpos hcp h1 hpl HL
      go_wp2_with fail
      refine (steps58 A n cap off lo hi ps _ K.out.pcs (by omega)).mono ?_
      rintro e W3 ⟨C4, cp4, rfl, hcp4, hs4, hb⟩
      have hm10 : (codesL ps).length ≤ 10 := Nat.le_trans (codes_len_ ps ps.length) (by rw [Hpl.out]; omega)
      obtain ⟨m4, hm4⟩ : ∃ m4, (codesL ps).length = m4 := ⟨_, rfl⟩
      rw [hm4] at hs4 hm10 hcp4 ⊢
      have Hm4 := Lib.hid hm4
      have S4 := Lib.hid hs4
      have HB3 := Lib.hid hb
      replace K := Lib.hid (K.out.next hb)
      clear hs4 hb hm4 hcp4 c0 c1 c2 c3 z2
      go_wp2_with fail
      go_loopw [6, 7] (fun v i wr => ∃ k : Nat, i = .int .i64 (k : Int) ∧ k ≤ m4 ∧ wr.ownsRow 0 57 4 v (passI ⟨ps, off, ⟨lo, hi⟩⟩ k).length (flatP (passI ⟨ps, off, ⟨lo, hi⟩⟩ k)) ∧ (∀ b, v.ownBlock = some b → W3.heap.size ≤ b) ∧ Below W3.heap.size W3 wr) (fun _ i _ => m4 - (intOf i).toNat)
      case atStart => exact ⟨0, by rfl, Nat.zero_le _, own_nil _ _ _, (fun b hb => by cases hb), Below.refl _ _⟩
      case round =>
        obtain ⟨i, rfl, hi2, hown, hob, hB⟩ := hrel
        obtain ⟨Wi, rfl⟩ : ∃ Wi, Wi = wr := ⟨_, rfl⟩
        have HO := Lib.hid hown
        have Hob := Lib.hid hob
        have HB := Lib.hid hB
        clear hown hob hB
        by_cases hli : i < m4
        · have hic : i < (codesL ps).length := by rw [Hm4.out]; exact hli
          obtain ⟨x, hx⟩ : ∃ x, (codesL ps)[i] = x := ⟨_, rfl⟩
          have Hx := Lib.hid hx
          have Hpi := Lib.hid (show (passI ⟨ps, off, ⟨lo, hi⟩⟩ i).length ≤ 100 from by
            have h1 := passI_le ⟨ps, off, ⟨lo, hi⟩⟩ i
            rw [show (codesL (⟨ps, off, ⟨lo, hi⟩⟩ : Cy).ps).length = m4 from Hm4.out] at h1
            have : i * m4 ≤ 10 * 10 := Nat.mul_le_mul (by omega) (by omega)
            omega)
          clear hx
          go_wp2_with fail
          go_loopw [6, 8] (fun v k wr => ∃ j : Nat, k = .int .i64 (j : Int) ∧ j ≤ m4 ∧ wr.ownsRow 0 57 4 v (passI ⟨ps, off, ⟨lo, hi⟩⟩ i ++ rowI ⟨ps, off, ⟨lo, hi⟩⟩ x j).length (flatP (passI ⟨ps, off, ⟨lo, hi⟩⟩ i ++ rowI ⟨ps, off, ⟨lo, hi⟩⟩ x j)) ∧ (∀ b, v.ownBlock = some b → W3.heap.size ≤ b) ∧ Below W3.heap.size W3 wr) (fun _ k _ => m4 - (intOf k).toNat)
          case atStart => exact ⟨0, by rfl, Nat.zero_le _, by rw [show rowI ⟨ps, off, ⟨lo, hi⟩⟩ x 0 = [] from rfl, List.append_nil]; exact HO.out, Hob.out, HB.out⟩
          case round =>
            clear HO Hob HB
            obtain ⟨j, rfl, hj, hown, hob, hB⟩ := hrel
            obtain ⟨Wj, rfl⟩ : ∃ Wj, Wj = wr := ⟨_, rfl⟩
            have HO := Lib.hid hown
            have Hob := Lib.hid hob
            have HB := Lib.hid hB
            clear hown hob hB
            by_cases hlj : j < m4
            · have hjc : j < (codesL ps).length := by rw [Hm4.out]; exact hlj
              obtain ⟨y, hy⟩ : ∃ y, (codesL ps)[j] = y := ⟨_, rfl⟩
              obtain ⟨b4, o4, rfl, hc4⟩ := S4.out.2 (by omega)
              obtain ⟨e0, e1⟩ := hc4 i hli
              obtain ⟨d0, d1⟩ := hc4 j hlj
              have hb4 := lt_of_cell e0
              rw [sAt_map hic, Hx.out] at e0 e1
              rw [sAt_map hjc, hy] at d0 d1
              have HK := fun q => HB.out.cell (p := ⟨b4, q, none⟩) hb4
              have e0' : Wj.cell? ⟨b4, o4 + i * 2, none⟩ = _ := (HK _).trans e0
              have e1' : Wj.cell? ⟨b4, o4 + i * 2 + 1, none⟩ = _ := (HK _).trans e1
              have d0' : Wj.cell? ⟨b4, o4 + j * 2, none⟩ = _ := (HK _).trans d0
              have d1' : Wj.cell? ⟨b4, o4 + j * 2 + 1, none⟩ = _ := (HK _).trans d1
              have hhb : ∀ M, hasB (M.map stC) (stC x) (stC y) = hasP M x y := fun M => hasB_codes M x y
              have hcp : cellP (x, y) = [.int .i64 ((x / 2 : Nat) : Int), .bool (decide (x % 2 = 1)), .int .i64 ((y / 2 : Nat) : Int), .bool (decide (y % 2 = 1))] := rfl
              unfold stC at e0' e1' d0' d1'
              simp only at e0' e1' d0' d1'
              have hhb2 : ∀ M, hasB (M.map stC) ⟨((x / 2 : Nat) : Int), decide (x % 2 = 1)⟩ ⟨((y / 2 : Nat) : Int), decide (y % 2 = 1)⟩ = hasP M x y := hhb
              generalize (x / 2 : Nat) = x0 at e0' hcp hhb2
              generalize decide (x % 2 = 1) = x1 at e1' hcp hhb2
              generalize (y / 2 : Nat) = y0 at d0' hcp hhb2
              generalize decide (y % 2 = 1) = y1 at d1' hcp hhb2
              have Hhb := Lib.hid hhb2
              have Hcp := Lib.hid hcp
              have Hy := Lib.hid hy
              have i0 : (0 : Int) ≤ (i : Int) := by omega
              have i1 : (i : Int) < (m4 : Int) := by omega
              have i2 : (0 : Int) ≤ (j : Int) := by omega
              have i3 : (j : Int) < (m4 : Int) := by omega
              have G : P3 Wj b4 (o4 + i * 2) (o4 + j * 2) (.int .i64 (x0 : Int)) (.bool x1) (.int .i64 (y0 : Int)) (.bool y1) Wj := ⟨Below.refl _ _, lt_of_cell e0', e0', e1', d0', d1'⟩
              obtain ⟨hG, e0', e1', d0', d1'⟩ := G.all
              clear hhb hhb2 hcp hy hc4 e0 e1 d0 d1 HK hb4 G
              go_wp2_with fail
              go_region_held3 (fun w' => P3 Wj b4 (o4 + i * 2) (o4 + j * 2) (.int .i64 (x0 : Int)) (.bool x1) (.int .i64 (y0 : Int)) (.bool y1) w' ∧ w'.cell? ⟨b4, o4 + i * 2, none⟩ = some (.int .i64 (x0 : Int)) ∧ w'.cell? ⟨b4, o4 + i * 2 + 1, none⟩ = some (.bool x1) ∧ w'.cell? ⟨b4, o4 + j * 2, none⟩ = some (.int .i64 (y0 : Int)) ∧ w'.cell? ⟨b4, o4 + j * 2 + 1, none⟩ = some (.bool y1))
                (first | (go_split_ands; exact P3.all (P3.next (by assumption) (by assumption))) | (go_split_ands; exact P3.all (P3.next (below_alloc_ _ _) (by assumption))) | (go_split_ands; exact P3.all (P3.next (drew_b _ _) (by assumption))) | exact P3.all (P3.next (below_alloc_ _ _) hG) | exact P3.all (P3.next (drew_b _ _) (P3.next (below_alloc_ _ _) hG)))
                (fail)
              have hW5 : Below Wj.heap.size Wj (Wj.alloc (.cells #[.int .i64 (x0 : Int), .bool x1, .int .i64 (y0 : Int), .bool y1] 57)).drew := (below_alloc_ _ _).trans ((drew_b _ _).mono (below_alloc_ _ _).size)
              have hR5 : (Wj.alloc (.cells #[.int .i64 (x0 : Int), .bool x1, .int .i64 (y0 : Int), .bool y1] 57)).drew.heap[Wj.heap.size]? = some (.cells #[.int .i64 (x0 : Int), .bool x1, .int .i64 (y0 : Int), .bool y1] 57 (0, 0)) := heap_alloc_new_ _ _
              generalize (Wj.alloc (.cells #[.int .i64 (x0 : Int), .bool x1, .int .i64 (y0 : Int), .bool y1] 57)).drew = W5 at *
              obtain ⟨X, hX⟩ : ∃ X, Wj.heap.size = X := ⟨_, rfl⟩
              have HBr := Lib.hid hW5
              rw [hX] at hR5 ⊢
              have R5 := Lib.hid hR5
              clear hR5 hW5 hX i0 i1 i2 i3 e0' e1' d0' d1' hG
              go_wp2_with fail
              go_loopw [10, 11] (fun v k wr => ∃ m : Nat, k = .int .i64 (m : Int) ∧ m ≤ N ∧ v = .bool (allU ⟨ps, off, ⟨lo, hi⟩⟩ x y m) ∧ Below Wj.heap.size Wj wr ∧ wr.heap[X]? = some (.cells #[.int .i64 (x0 : Int), .bool x1, .int .i64 (y0 : Int), .bool y1] 57 (0, 0))) (fun _ k _ => N - (intOf k).toNat)
              case atStart => exact ⟨0, by rfl, Nat.zero_le _, by rfl, HBr.out, R5.out⟩
              case round =>
                clear HBr R5
                obtain ⟨m, rfl, hm, rfl, hBr, hR⟩ := hrel
                obtain ⟨Wm, rfl⟩ : ∃ Wm, Wm = wr := ⟨_, rfl⟩
                have HBr := Lib.hid hBr
                have R5 := Lib.hid hR
                by_cases hlm : m < N
                · have hmj : m < (joinsC ⟨ps, off, ⟨lo, hi⟩⟩).length := by rw [HN.out]; exact hlm
                  obtain ⟨g', xv, hg', hxv, ho⟩ := Hcell.out m hmj
                  obtain rfl : g = g' := by injection hg' with e1; injection e1
                  obtain ⟨gx, cx, rfl, hcx, hS⟩ := ho.sts
                  have hB23 := HB3.out.trans ((HB.out.trans (hBr.mono HB.out.size)).mono HB3.out.size)
                  have hx' : Wm.cell? ⟨g, m, none⟩ = some (.slice (some ⟨gx, 0, none⟩) ((joinsC ⟨ps, off, ⟨lo, hi⟩⟩)[m]).length cx) := (hB23.cell (p := ⟨g, m, none⟩) (lt_of_cell hxv)).trans hxv
                  have HS := Lib.hid (hS.below hB23 (Nat.le_refl _))
                  have hl8 : ((joinsC ⟨ps, off, ⟨lo, hi⟩⟩)[m]).length ≤ 1000000 := by
                    rw [(join_way (List.getElem_mem hmj)).1]
                    show ps.length ≤ _
                    rw [Hpl.out]
                    omega
                  have hat := allU_succ (x := x) (y := y) hmj
                  obtain ⟨M, hM⟩ : ∃ M, (joinsC ⟨ps, off, ⟨lo, hi⟩⟩)[m] = M := ⟨_, rfl⟩
                  rw [hM] at hx' HS hl8 hat
                  obtain ⟨ln, hln⟩ : ∃ ln, M.length = ln := ⟨_, rfl⟩
                  rw [hln] at hx' HS hl8
                  obtain ⟨av, hav⟩ : ∃ av, allU ⟨ps, off, ⟨lo, hi⟩⟩ x y m = av := ⟨_, rfl⟩
                  rw [hav] at hat ⊢
                  have Hat := Lib.hid hat
                  have Hl8 := Lib.hid hl8
                  have i0 : (0 : Int) ≤ (m : Int) := by omega
                  have i1 : (m : Int) < (N : Int) := by omega
                  have f0 : Wm.cell? ⟨X, 0, none⟩ = some (.int .i64 (x0 : Int)) := by rw [cell_row hR]; rfl
                  have f1 : Wm.cell? ⟨X, 1, none⟩ = some (.bool x1) := by rw [cell_row hR]; rfl
                  have f2 : Wm.cell? ⟨X, 2, none⟩ = some (.int .i64 (y0 : Int)) := by rw [cell_row hR]; rfl
                  have f3 : Wm.cell? ⟨X, 3, none⟩ = some (.bool y1) := by rw [cell_row hR]; rfl
                  clear hxv ho hS hcx hg' hln hl8 hM hat hav hB23 hmj hBr hR
                  cases av with
                  | false =>
                    have hv2 := Lib.hid (show allU ⟨ps, off, ⟨lo, hi⟩⟩ x y (m + 1) = false from by rw [Hat.out, Bool.false_and])
                    go_wp2_with fail
                    refine wp_region_held_drew (S := fun w2 => Below Wm.heap.size Wm w2) (by kernel_rfl) (drew_b _ _) (fun hS0 => ?_)
                    refine wpAnyH_take (i := 0) (oi := { dst := some 51, op := Go.Op.move (Go.Operand.tmp 10), type := 4, pos := "ref.go:216", after := #[], guard := none }) (v := .bool false) rfl (by kernel_rfl) (by kernel_rfl) (by kernel_rfl) (fun _ _ _ h => h) (Or.inl ⟨by rfl, by intro w2 hSw; (try dsimp only at hSw); go_simp⟩) hS0 ?_
                    try simp only [Act.put, List.setIfInBounds_toArray, List.set_cons_zero, List.set_cons_succ]
                    refine wpAnyH_take (i := 1) (oi := { dst := some 52, op := Go.Op.move (Go.Operand.tmp 51), type := 4, pos := "ref.go:216", after := #[{ on := 0, ground := Go.Ground.data }], guard := none }) (v := .bool false) rfl (by kernel_rfl) (by kernel_rfl) (by kernel_rfl) (fun _ _ _ h => h) (Or.inl ⟨by rfl, by intro w2 hSw; (try dsimp only at hSw); go_simp⟩) hS0 ?_
                    try simp only [Act.put, List.setIfInBounds_toArray, List.set_cons_zero, List.set_cons_succ]
                    refine wpAnyH_take (i := 2) (oi := { dst := some 53, op := Go.Op.move (Go.Operand.tmp 4), type := 92, pos := "ref.go:216", after := #[{ on := 1, ground := Go.Ground.guard }], guard := some (1, true) }) (v := undef) rfl (by kernel_rfl) (by kernel_rfl) (by kernel_rfl) (fun _ _ _ h => h) (Or.inr ⟨by rfl, rfl⟩) hS0 ?_
                    try simp only [Act.put, List.setIfInBounds_toArray, List.set_cons_zero, List.set_cons_succ]
                    refine wpAnyH_take (i := 3) (oi := { dst := some 54, op := Go.Op.move (Go.Operand.tmp 11), type := 3, pos := "ref.go:216", after := #[{ on := 1, ground := Go.Ground.guard }], guard := some (1, true) }) (v := undef) rfl (by kernel_rfl) (by kernel_rfl) (by kernel_rfl) (fun _ _ _ h => h) (Or.inr ⟨by rfl, rfl⟩) hS0 ?_
                    try simp only [Act.put, List.setIfInBounds_toArray, List.set_cons_zero, List.set_cons_succ]
                    refine wpAnyH_take (i := 4) (oi := { dst := some 55, op := Go.Op.indexAddr 92 (Go.Operand.tmp 53) (Go.Operand.tmp 54), type := 0, pos := "ref.go:216", after := #[{ on := 2, ground := Go.Ground.data }, { on := 3, ground := Go.Ground.data }, { on := 1, ground := Go.Ground.guard }], guard := some (1, true) }) (v := undef) rfl (by kernel_rfl) (by kernel_rfl) (by kernel_rfl) (fun _ _ _ h => h) (Or.inr ⟨by rfl, rfl⟩) hS0 ?_
                    try simp only [Act.put, List.setIfInBounds_toArray, List.set_cons_zero, List.set_cons_succ]
                    refine wpAnyH_take (i := 5) (oi := { dst := some 56, op := Go.Op.load 29 (Go.Operand.tmp 55), type := 29, pos := "ref.go:216", after := #[{ on := 4, ground := Go.Ground.data }, { on := 1, ground := Go.Ground.guard }], guard := some (1, true) }) (v := undef) rfl (by kernel_rfl) (by kernel_rfl) (by kernel_rfl) (fun _ _ _ h => h) (Or.inr ⟨by rfl, rfl⟩) hS0 ?_
                    try simp only [Act.put, List.setIfInBounds_toArray, List.set_cons_zero, List.set_cons_succ]
                    refine wpAnyH_take (i := 6) (oi := { dst := some 57, op := Go.Op.load 57 (Go.Operand.tmp 9), type := 57, pos := "ref.go:216", after := #[{ on := 1, ground := Go.Ground.guard }], guard := some (1, true) }) (v := undef) rfl (by kernel_rfl) (by kernel_rfl) (by kernel_rfl) (fun _ _ _ h => h) (Or.inr ⟨by rfl, rfl⟩) hS0 ?_
                    try simp only [Act.put, List.setIfInBounds_toArray, List.set_cons_zero, List.set_cons_succ]
                    refine wpAnyH_take (i := 7) (oi := { dst := some 58, op := Go.Op.call { callee := Go.Callee.value (Go.Operand.func 37), args := #[Go.Operand.tmp 56, Go.Operand.tmp 57], argTypes := #[29, 57] }, type := 4, pos := "ref.go:216", after := #[{ on := 5, ground := Go.Ground.data }, { on := 6, ground := Go.Ground.data }, { on := 1, ground := Go.Ground.chain }, { on := 1, ground := Go.Ground.guard }], guard := some (1, true) }) (v := undef) rfl (by kernel_rfl) (by kernel_rfl) (by kernel_rfl) (fun _ _ _ h => h) (Or.inr ⟨by rfl, rfl⟩) hS0 ?_
                    try simp only [Act.put, List.setIfInBounds_toArray, List.set_cons_zero, List.set_cons_succ]
                    refine wpAnyH_take (i := 8) (oi := { dst := some 59, op := Go.Op.pick (Go.Operand.tmp 52) (Go.Operand.tmp 58) (Go.Operand.const (Go.Value.bool false)), type := 4, pos := "ref.go:216", after := #[{ on := 1, ground := Go.Ground.data }, { on := 7, ground := Go.Ground.data }], guard := none }) (v := .bool false) rfl (by kernel_rfl) (by kernel_rfl) (by kernel_rfl) (fun _ _ _ h => h) (Or.inl ⟨by rfl, by intro w2 hSw; (try dsimp only at hSw); go_simp⟩) hS0 ?_
                    try simp only [Act.put, List.setIfInBounds_toArray, List.set_cons_zero, List.set_cons_succ]
                    refine wpAnyH_take (i := 9) (oi := { dst := some 10, op := Go.Op.assign (Go.Operand.tmp 59), type := 4, pos := "ref.go:216", after := #[{ on := 8, ground := Go.Ground.data }, { on := 7, ground := Go.Ground.chain }, { on := 0, ground := Go.Ground.phase }, { on := 1, ground := Go.Ground.phase }, { on := 2, ground := Go.Ground.phase }, { on := 3, ground := Go.Ground.phase }, { on := 4, ground := Go.Ground.phase }, { on := 5, ground := Go.Ground.phase }, { on := 6, ground := Go.Ground.phase }, { on := 7, ground := Go.Ground.phase }, { on := 8, ground := Go.Ground.phase }], guard := none }) (v := .bool false) rfl (by kernel_rfl) (by kernel_rfl) (by kernel_rfl) (fun _ _ _ h => h) (Or.inl ⟨by rfl, by intro w2 hSw; (try dsimp only at hSw); go_simp⟩) hS0 ?_
                    try simp only [Act.put, List.setIfInBounds_toArray, List.set_cons_zero, List.set_cons_succ]
                    refine wpAnyH_done (by kernel_rfl) ?_ _
                    have HB7 := Lib.hid (HBr.out.trans (hS0.mono HBr.out.size))
                    have R7 := Lib.hid ((hS0.block _ (lt_of_block R5.out)).trans R5.out)
                    clear hS0 hx' f0 f1 f2 f3 i0 i1
                    go_wp2_with fail
                    go_roundw
                    case rel => exact ⟨m + 1, by go_num, by omega, by rw [hv2.out], HB7.out, R7.out⟩
                    case measure => simp [intOf]; omega
                  | true =>
                    have hv2 := Lib.hid (show allU ⟨ps, off, ⟨lo, hi⟩⟩ x y (m + 1) = hasP M x y from by rw [Hat.out, Bool.true_and])
                    obtain ⟨hp, hhp⟩ : ∃ hp, hasP M x y = hp := ⟨_, rfl⟩
                    have Hhp := Lib.hid hhp
                    clear hhp
                    go_wp2_with fail
                    refine wp_region_held_drew (S := fun w2 => Below Wm.heap.size Wm w2) (by kernel_rfl) (drew_b _ _) (fun hS0 => ?_)
                    refine wpAnyH_take (i := 0) (oi := { dst := some 51, op := Go.Op.move (Go.Operand.tmp 10), type := 4, pos := "ref.go:216", after := #[], guard := none }) (v := .bool true) rfl (by kernel_rfl) (by kernel_rfl) (by kernel_rfl) (fun _ _ _ h => h) (Or.inl ⟨by rfl, by intro w2 hSw; (try dsimp only at hSw); have hx0 := (hSw.cell (p := ⟨g, m, none⟩) (lt_of_cell hx')).trans hx'; have f0 := (hSw.cell (p := ⟨X, 0, none⟩) (lt_of_cell f0)).trans f0; have f1 := (hSw.cell (p := ⟨X, 1, none⟩) (lt_of_cell f1)).trans f1; have f2 := (hSw.cell (p := ⟨X, 2, none⟩) (lt_of_cell f2)).trans f2; have f3 := (hSw.cell (p := ⟨X, 3, none⟩) (lt_of_cell f3)).trans f3; go_simp⟩) hS0 ?_
                    try simp only [Act.put, List.setIfInBounds_toArray, List.set_cons_zero, List.set_cons_succ]
                    refine wpAnyH_take (i := 1) (oi := { dst := some 52, op := Go.Op.move (Go.Operand.tmp 51), type := 4, pos := "ref.go:216", after := #[{ on := 0, ground := Go.Ground.data }], guard := none }) (v := .bool true) rfl (by kernel_rfl) (by kernel_rfl) (by kernel_rfl) (fun _ _ _ h => h) (Or.inl ⟨by rfl, by intro w2 hSw; (try dsimp only at hSw); have hx0 := (hSw.cell (p := ⟨g, m, none⟩) (lt_of_cell hx')).trans hx'; have f0 := (hSw.cell (p := ⟨X, 0, none⟩) (lt_of_cell f0)).trans f0; have f1 := (hSw.cell (p := ⟨X, 1, none⟩) (lt_of_cell f1)).trans f1; have f2 := (hSw.cell (p := ⟨X, 2, none⟩) (lt_of_cell f2)).trans f2; have f3 := (hSw.cell (p := ⟨X, 3, none⟩) (lt_of_cell f3)).trans f3; go_simp⟩) hS0 ?_
                    try simp only [Act.put, List.setIfInBounds_toArray, List.set_cons_zero, List.set_cons_succ]
                    refine wpAnyH_take (i := 2) (oi := { dst := some 53, op := Go.Op.move (Go.Operand.tmp 4), type := 92, pos := "ref.go:216", after := #[{ on := 1, ground := Go.Ground.guard }], guard := some (1, true) }) (v := .slice (some ⟨g, 0, none⟩) N cp) rfl (by kernel_rfl) (by kernel_rfl) (by kernel_rfl) (fun _ _ _ h => h) (Or.inl ⟨by rfl, by intro w2 hSw; (try dsimp only at hSw); have hx0 := (hSw.cell (p := ⟨g, m, none⟩) (lt_of_cell hx')).trans hx'; have f0 := (hSw.cell (p := ⟨X, 0, none⟩) (lt_of_cell f0)).trans f0; have f1 := (hSw.cell (p := ⟨X, 1, none⟩) (lt_of_cell f1)).trans f1; have f2 := (hSw.cell (p := ⟨X, 2, none⟩) (lt_of_cell f2)).trans f2; have f3 := (hSw.cell (p := ⟨X, 3, none⟩) (lt_of_cell f3)).trans f3; go_simp⟩) hS0 ?_
                    try simp only [Act.put, List.setIfInBounds_toArray, List.set_cons_zero, List.set_cons_succ]
                    refine wpAnyH_take (i := 3) (oi := { dst := some 54, op := Go.Op.move (Go.Operand.tmp 11), type := 3, pos := "ref.go:216", after := #[{ on := 1, ground := Go.Ground.guard }], guard := some (1, true) }) (v := .int .i64 (m : Int)) rfl (by kernel_rfl) (by kernel_rfl) (by kernel_rfl) (fun _ _ _ h => h) (Or.inl ⟨by rfl, by intro w2 hSw; (try dsimp only at hSw); have hx0 := (hSw.cell (p := ⟨g, m, none⟩) (lt_of_cell hx')).trans hx'; have f0 := (hSw.cell (p := ⟨X, 0, none⟩) (lt_of_cell f0)).trans f0; have f1 := (hSw.cell (p := ⟨X, 1, none⟩) (lt_of_cell f1)).trans f1; have f2 := (hSw.cell (p := ⟨X, 2, none⟩) (lt_of_cell f2)).trans f2; have f3 := (hSw.cell (p := ⟨X, 3, none⟩) (lt_of_cell f3)).trans f3; go_simp⟩) hS0 ?_
                    try simp only [Act.put, List.setIfInBounds_toArray, List.set_cons_zero, List.set_cons_succ]
                    refine wpAnyH_take (i := 4) (oi := { dst := some 55, op := Go.Op.indexAddr 92 (Go.Operand.tmp 53) (Go.Operand.tmp 54), type := 0, pos := "ref.go:216", after := #[{ on := 2, ground := Go.Ground.data }, { on := 3, ground := Go.Ground.data }, { on := 1, ground := Go.Ground.guard }], guard := some (1, true) }) (v := .pointer (some ⟨g, m, none⟩)) rfl (by kernel_rfl) (by kernel_rfl) (by kernel_rfl) (fun _ _ _ h => h) (Or.inl ⟨by rfl, by intro w2 hSw; (try dsimp only at hSw); have hx0 := (hSw.cell (p := ⟨g, m, none⟩) (lt_of_cell hx')).trans hx'; have f0 := (hSw.cell (p := ⟨X, 0, none⟩) (lt_of_cell f0)).trans f0; have f1 := (hSw.cell (p := ⟨X, 1, none⟩) (lt_of_cell f1)).trans f1; have f2 := (hSw.cell (p := ⟨X, 2, none⟩) (lt_of_cell f2)).trans f2; have f3 := (hSw.cell (p := ⟨X, 3, none⟩) (lt_of_cell f3)).trans f3; go_simp⟩) hS0 ?_
                    try simp only [Act.put, List.setIfInBounds_toArray, List.set_cons_zero, List.set_cons_succ]
                    refine wpAnyH_take (i := 5) (oi := { dst := some 56, op := Go.Op.load 29 (Go.Operand.tmp 55), type := 29, pos := "ref.go:216", after := #[{ on := 4, ground := Go.Ground.data }, { on := 1, ground := Go.Ground.guard }], guard := some (1, true) }) (v := .slice (some ⟨gx, 0, none⟩) ln cx) rfl (by kernel_rfl) (by kernel_rfl) (by kernel_rfl) (fun _ _ _ h => h) (Or.inl ⟨by rfl, by intro w2 hSw; (try dsimp only at hSw); have hx0 := (hSw.cell (p := ⟨g, m, none⟩) (lt_of_cell hx')).trans hx'; have f0 := (hSw.cell (p := ⟨X, 0, none⟩) (lt_of_cell f0)).trans f0; have f1 := (hSw.cell (p := ⟨X, 1, none⟩) (lt_of_cell f1)).trans f1; have f2 := (hSw.cell (p := ⟨X, 2, none⟩) (lt_of_cell f2)).trans f2; have f3 := (hSw.cell (p := ⟨X, 3, none⟩) (lt_of_cell f3)).trans f3; go_simp⟩) hS0 ?_
                    try simp only [Act.put, List.setIfInBounds_toArray, List.set_cons_zero, List.set_cons_succ]
                    refine wpAnyH_take (i := 6) (oi := { dst := some 57, op := Go.Op.load 57 (Go.Operand.tmp 9), type := 57, pos := "ref.go:216", after := #[{ on := 1, ground := Go.Ground.guard }], guard := some (1, true) }) (v := .agg #[.int .i64 (x0 : Int), .bool x1, .int .i64 (y0 : Int), .bool y1]) rfl (by kernel_rfl) (by kernel_rfl) (by kernel_rfl) (fun _ _ _ h => h) (Or.inl ⟨by rfl, by intro w2 hSw; (try dsimp only at hSw); have hx0 := (hSw.cell (p := ⟨g, m, none⟩) (lt_of_cell hx')).trans hx'; have f0 := (hSw.cell (p := ⟨X, 0, none⟩) (lt_of_cell f0)).trans f0; have f1 := (hSw.cell (p := ⟨X, 1, none⟩) (lt_of_cell f1)).trans f1; have f2 := (hSw.cell (p := ⟨X, 2, none⟩) (lt_of_cell f2)).trans f2; have f3 := (hSw.cell (p := ⟨X, 3, none⟩) (lt_of_cell f3)).trans f3; go_simp⟩) hS0 ?_
                    try simp only [Act.put, List.setIfInBounds_toArray, List.set_cons_zero, List.set_cons_succ]
                    refine wpAnyH_ready (rs := [7]) (by kernel_rfl) (by simp) ?_
                    refine AllReadyH.cons (o := { dst := some 58, op := Go.Op.call { callee := Go.Callee.value (Go.Operand.func 37), args := #[Go.Operand.tmp 56, Go.Operand.tmp 57], argTypes := #[29, 57] }, type := 4, pos := "ref.go:216", after := #[{ on := 5, ground := Go.Ground.data }, { on := 6, ground := Go.Ground.data }, { on := 1, ground := Go.Ground.chain }, { on := 1, ground := Go.Ground.guard }], guard := some (1, true) }) rfl (fun K2 hK => ?_) AllReadyH.nil
                    go_simp
                    refine (has37 (some ⟨gx, 0, none⟩) ln cx (M.map stC) (x0 : Int) (y0 : Int) x1 y1 _ (HS.out.below hS0 (Nat.le_refl _)) Hl8.out).mono ?_
                    rintro e9 w6 ⟨rfl, hb⟩
                    rw [Hhb.out, Hhp.out]
                    (try go_simp)
                    refine hK.out _ _ (hS0.trans (hb.mono hS0.size)) (fun hS1 => ?_)
                    clear hK K2
                    try simp only [Act.put, List.setIfInBounds_toArray, List.set_cons_zero, List.set_cons_succ]
                    refine wpAnyH_take (i := 8) (oi := { dst := some 59, op := Go.Op.pick (Go.Operand.tmp 52) (Go.Operand.tmp 58) (Go.Operand.const (Go.Value.bool false)), type := 4, pos := "ref.go:216", after := #[{ on := 1, ground := Go.Ground.data }, { on := 7, ground := Go.Ground.data }], guard := none }) (v := .bool hp) rfl (by kernel_rfl) (by kernel_rfl) (by kernel_rfl) (fun _ _ _ h => h) (Or.inl ⟨by rfl, by intro w2 hSw; (try dsimp only at hSw); have hx0 := (hSw.cell (p := ⟨g, m, none⟩) (lt_of_cell hx')).trans hx'; have f0 := (hSw.cell (p := ⟨X, 0, none⟩) (lt_of_cell f0)).trans f0; have f1 := (hSw.cell (p := ⟨X, 1, none⟩) (lt_of_cell f1)).trans f1; have f2 := (hSw.cell (p := ⟨X, 2, none⟩) (lt_of_cell f2)).trans f2; have f3 := (hSw.cell (p := ⟨X, 3, none⟩) (lt_of_cell f3)).trans f3; go_simp⟩) hS1 ?_
                    try simp only [Act.put, List.setIfInBounds_toArray, List.set_cons_zero, List.set_cons_succ]
                    refine wpAnyH_take (i := 9) (oi := { dst := some 10, op := Go.Op.assign (Go.Operand.tmp 59), type := 4, pos := "ref.go:216", after := #[{ on := 8, ground := Go.Ground.data }, { on := 7, ground := Go.Ground.chain }, { on := 0, ground := Go.Ground.phase }, { on := 1, ground := Go.Ground.phase }, { on := 2, ground := Go.Ground.phase }, { on := 3, ground := Go.Ground.phase }, { on := 4, ground := Go.Ground.phase }, { on := 5, ground := Go.Ground.phase }, { on := 6, ground := Go.Ground.phase }, { on := 7, ground := Go.Ground.phase }, { on := 8, ground := Go.Ground.phase }], guard := none }) (v := .bool hp) rfl (by kernel_rfl) (by kernel_rfl) (by kernel_rfl) (fun _ _ _ h => h) (Or.inl ⟨by rfl, by intro w2 hSw; (try dsimp only at hSw); have hx0 := (hSw.cell (p := ⟨g, m, none⟩) (lt_of_cell hx')).trans hx'; have f0 := (hSw.cell (p := ⟨X, 0, none⟩) (lt_of_cell f0)).trans f0; have f1 := (hSw.cell (p := ⟨X, 1, none⟩) (lt_of_cell f1)).trans f1; have f2 := (hSw.cell (p := ⟨X, 2, none⟩) (lt_of_cell f2)).trans f2; have f3 := (hSw.cell (p := ⟨X, 3, none⟩) (lt_of_cell f3)).trans f3; go_simp⟩) hS1 ?_
                    try simp only [Act.put, List.setIfInBounds_toArray, List.set_cons_zero, List.set_cons_succ]
                    refine wpAnyH_done (by kernel_rfl) ?_ _
                    have HB7 := Lib.hid (HBr.out.trans (hS1.mono HBr.out.size))
                    have R7 := Lib.hid ((hS1.block _ (lt_of_block R5.out)).trans R5.out)
                    clear hS0 hS1 hx' f0 f1 f2 f3 i0 i1
                    go_wp2_with fail
                    go_roundw
                    case rel => exact ⟨m + 1, by go_num, by omega, by rw [hv2.out, Hhp.out], HB7.out, R7.out⟩
                    case measure => simp [intOf]; omega
                · obtain rfl : m = N := by omega
                  have i1 : ¬ (m : Int) < (m : Int) := by omega
                  have hae : allU ⟨ps, off, ⟨lo, hi⟩⟩ x y m = shB ⟨ps, off, ⟨lo, hi⟩⟩ x y := by
                    have := allU_end (c := ⟨ps, off, ⟨lo, hi⟩⟩) (x := x) (y := y)
                    rw [HN.out] at this
                    exact this
                  rw [hae]
                  have hrs := rowI_succ (c := ⟨ps, off, ⟨lo, hi⟩⟩) (x := x) (k := j) hjc
                  rw [show (codesL (⟨ps, off, ⟨lo, hi⟩⟩ : Cy).ps)[j]'hjc = y from Hy.out] at hrs
                  obtain ⟨sb, hsb⟩ : ∃ sb, shB ⟨ps, off, ⟨lo, hi⟩⟩ x y = sb := ⟨_, rfl⟩
                  rw [hsb] at hrs ⊢
                  clear hae hsb hBr hR hlm hm
                  cases sb with
                  | false =>
                    have HO7 := Lib.hid (show Wm.ownsRow 0 57 4 u6 (passI ⟨ps, off, ⟨lo, hi⟩⟩ i ++ rowI ⟨ps, off, ⟨lo, hi⟩⟩ x (j + 1)).length (flatP (passI ⟨ps, off, ⟨lo, hi⟩⟩ i ++ rowI ⟨ps, off, ⟨lo, hi⟩⟩ x (j + 1))) from by
                      rw [hrs]
                      simp only [Bool.false_eq_true, if_false, List.append_nil]
                      exact own_keep HO.out (Keeps.of_new (Mut := fun _ => False) HBr.out) (fun _ _ e => e))
                    have HB7 := Lib.hid (HB.out.trans (HBr.out.mono HB.out.size))
                    clear hrs
                    go_wp2_with fail
                    go_roundw
                    case rel => exact ⟨j + 1, by go_num, by omega, HO7.out, Hob.out, HB7.out⟩
                    case measure => simp [intOf]; omega
                  | true =>
                    have hrs2 : passI ⟨ps, off, ⟨lo, hi⟩⟩ i ++ rowI ⟨ps, off, ⟨lo, hi⟩⟩ x (j + 1) = (passI ⟨ps, off, ⟨lo, hi⟩⟩ i ++ rowI ⟨ps, off, ⟨lo, hi⟩⟩ x j) ++ [(x, y)] := by rw [hrs]; simp
                    have hX1 := below_alloc_ Wm (.cells #[.int .i64 (x0 : Int), .bool x1, .int .i64 (y0 : Int), .bool y1] 57)
                    have hown := own_keep (own_keep HO.out (Keeps.of_new (Mut := fun _ => False) HBr.out) (fun _ _ e => e)) (Keeps.of_new (Mut := fun _ => False) hX1) (fun _ _ e => e)
                    obtain ⟨v', W', hap, hown', hKp, hv'⟩ := app_one Try.underlying46 info57_ rfl (by omega) (by omega) hown (vals := [.int .i64 (x0 : Int), .bool x1, .int .i64 (y0 : Int), .bool y1]) rfl (heap_alloc_new_ Wm _) (by simp [Value.oneCell']) (by
                      rw [List.length_append]
                      have h1 := Hpi.out
                      have h2 := rowI_le ⟨ps, off, ⟨lo, hi⟩⟩ x j
                      rw [show (codesL (⟨ps, off, ⟨lo, hi⟩⟩ : Cy).ps).length = m4 from Hm4.out] at h2
                      omega)
                    have hrun := run_app hap
                    have hBm := HB.out.trans (HBr.out.mono HB.out.size)
                    have HO7 := Lib.hid (show W'.ownsRow 0 57 4 v' (passI ⟨ps, off, ⟨lo, hi⟩⟩ i ++ rowI ⟨ps, off, ⟨lo, hi⟩⟩ x (j + 1)).length (flatP (passI ⟨ps, off, ⟨lo, hi⟩⟩ i ++ rowI ⟨ps, off, ⟨lo, hi⟩⟩ x (j + 1))) from by
                      rw [hrs2, List.length_append, flatP_snoc, Hcp.out]
                      exact hown')
                    have HB7 := Lib.hid (show Below W3.heap.size W3 W' from hBm.trans ((hX1.mono hBm.size).trans (hKp.below (by have := hBm.size; simp; omega) (fun q hq e => by have := Hob.out _ e; omega))))
                    have Hob7 := Lib.hid (show ∀ b, v'.ownBlock = some b → W3.heap.size ≤ b from fun b hb => by
                      rcases hv' with hv' | ⟨hv', _⟩
                      · exact Hob.out _ (hv' ▸ hb)
                      · rw [hv'] at hb
                        have := hBm.size
                        cases hb
                        simp
                        omega)
                    have f0 : Wm.cell? ⟨X, 0, none⟩ = some (.int .i64 (x0 : Int)) := by rw [cell_row R5.out]; rfl
                    have f1 : Wm.cell? ⟨X, 1, none⟩ = some (.bool x1) := by rw [cell_row R5.out]; rfl
                    have f2 : Wm.cell? ⟨X, 2, none⟩ = some (.int .i64 (y0 : Int)) := by rw [cell_row R5.out]; rfl
                    have f3 : Wm.cell? ⟨X, 3, none⟩ = some (.bool y1) := by rw [cell_row R5.out]; rfl
                    clear hrs hrs2 hX1 hown hap hown' hKp hv' hBm
                    go_wp2_with fail
                    go_roundw
                    case rel => exact ⟨j + 1, by go_num, by omega, HO7.out, Hob7.out, HB7.out⟩
                    case measure => simp [intOf]; omega
            · obtain rfl : m4 = j := by omega
              have i2 : ¬ (m4 : Int) < (m4 : Int) := by omega
              have HO7 := Lib.hid (show Wj.ownsRow 0 57 4 u6 (passI ⟨ps, off, ⟨lo, hi⟩⟩ (i + 1)).length (flatP (passI ⟨ps, off, ⟨lo, hi⟩⟩ (i + 1))) from by
                have h1 := passI_succ (c := ⟨ps, off, ⟨lo, hi⟩⟩) (i := i) hic
                rw [show (codesL (⟨ps, off, ⟨lo, hi⟩⟩ : Cy).ps)[i]'hic = x from Hx.out, show (codesL (⟨ps, off, ⟨lo, hi⟩⟩ : Cy).ps).length = m4 from Hm4.out] at h1
                rw [h1]
                exact HO.out)
              clear hlj
              go_wp2_with fail
              go_roundw
              case rel => exact ⟨i + 1, by go_num, by omega, HO7.out, Hob.out, HB.out⟩
              case measure => simp [intOf]; omega
        · obtain rfl : m4 = i := by omega
          have i2 : ¬ (m4 : Int) < (m4 : Int) := by omega
          have hO := HO.out
          have hpe : passI ⟨ps, off, ⟨lo, hi⟩⟩ m4 = passL ⟨ps, off, ⟨lo, hi⟩⟩ := by
            have := passI_end ⟨ps, off, ⟨lo, hi⟩⟩
            rwa [show (codesL (⟨ps, off, ⟨lo, hi⟩⟩ : Cy).ps).length = m4 from Hm4.out] at this
          rw [hpe] at hO
          obtain ⟨C9, cp9, hv9, hcp9, hP9⟩ := prs_own hO
          rw [hv9]
          have HP9 := Lib.hid hP9
          have Hcp9 := Lib.hid hcp9
          have HF := Lib.hid (K.out.next HB.out).below
          clear hO hv9 hP9 hcp9 hpe hli
          go_wp2_with fail
          refine bodyPost_ret (v := .tuple #[.slice C9 (passL ⟨ps, off, ⟨lo, hi⟩⟩).length cp9, .int .i64 0]) (by simp [results, Try.results31, go_sem]) rfl ⟨C9, _, cp9, by rw [Hpr.out], Hcp9.out, by rw [Hpr.out]; exact HP9.out, HF.out⟩
  · have dr : (r != 0) = true := by rw [bne_iff_ne]; exact hr0
    have Hr0 := Lib.hid hr0
    clear hr0
    go_wp2_with fail
    refine (checkCyl17 A n cap off lo hi ps _ K.out.pcs Hn.out).mono ?_
    rintro e W2 ⟨rfl, hb⟩
    rw [Hr.out]
    replace K := Lib.hid (K.out.next hb)
    have HF := Lib.hid K.out.below
    clear hb c0 c1 c2 c3
    go_wp2_with fail
    have Hpr := Lib.hid (show passR ⟨ps, off, ⟨lo, hi⟩⟩ = ([], r) from by unfold passR; rw [if_pos (by rw [Hr.out]; exact Hr0.out), Hr.out])
    refine bodyPost_ret (v := .tuple #[.slice none 0 0, .int .i64 r]) (by simp [results, Try.results31, go_sem]) rfl ⟨none, 0, 0, by rw [Hpr.out], Nat.le_refl _, by rw [Hpr.out]; exact ⟨rfl, by omega⟩, HF.out⟩

end Go.Proofs.Ytfmcfalghbaanaa

namespace Go.Proofs.Ytfmcfalghbaanaa
set_option linter.unusedSimpArgs false
set_option linter.unusedVariables false
open Go.RowKit Go.Shelf
attribute [local go_sem] Oper.semAt_some

theorem many_ok5 {n : Nat} {ps : List Pc} {off lo hi : Int} (hl : ps.length = n) (h : manyB n 5 = false) (he : chkC ⟨ps, off, ⟨lo, hi⟩⟩ = 0) : n ≤ 5 := by
  have h1 := (chkC_facts he).2.1
  have h2 : ps.length ≤ 8 := h1
  unfold manyB at h
  simp only [Bool.or_eq_false_iff, Bool.and_eq_false_iff, decide_eq_false_iff_not] at h
  omega
theorem passR_len (c : Cy) : (passR c).1.length ≤ 1000000 := by
  by_cases he : chkC c = 0
  · obtain ⟨P, P', e, h1, h2, h3, h4, h5⟩ := rev_passR he
    rw [h1]
    show P.length ≤ _
    omega
  · unfold passR
    rw [if_pos he]
    exact Nat.zero_le _
theorem rivR_len (c : Cy) (s : St) : ((rivR c s).1.map stC).length ≤ 1000000 := by
  rw [List.length_map]
  by_cases he : chkC c = 0
  · have h1 : (codesL c.ps).length ≤ 2 * c.ps.length := codes_len_ c.ps c.ps.length
    have h2 := (chkC_facts he).2.1
    unfold rivR
    split
    · exact Nat.zero_le _
    · split
      · exact Nat.zero_le _
      · split
        · exact Nat.zero_le _
        · show (rivL c _).length ≤ _
          unfold rivL
          refine Nat.le_trans (List.length_filter_le _ _) ?_
          omega
  · unfold rivR
    rw [if_pos he]
    exact Nat.zero_le _

set_option maxRecDepth 100000 in
set_option maxHeartbeats 20000000 in
theorem shares5 (A : Option Addr) (n cap : Nat) (off lo hi p : Int) (t : Bool) (ps : List Pc) (w : World) (h : Pcs w A n ps) (hn : n ≤ 9223372036854775807) :
    Calls Try.prog 5 #[cyl A n cap off lo hi, .agg #[.int .i64 p, .bool t]] w fun e w' => e = .returned (.bool true) ∧ Below w.heap.size w w' := by
  have hk : Kz w w.heap.size A n cap off lo hi ps none 0 [] _ := Kz.new (cap := cap) (off := off) (lo := lo) (hi := hi) h ⟨rfl, by omega⟩
  have hb0 := below_alloc_ (w.alloc (.cells #[.slice A n cap, .int .i64 off, .int .i64 lo, .int .i64 hi] 26)) (.cells #[.int .i64 p, .bool t] 28)
  have hr0 := heap_alloc_new_ (w.alloc (.cells #[.slice A n cap, .int .i64 off, .int .i64 lo, .int .i64 hi] 26)) (.cells #[.int .i64 p, .bool t] 28)
  rw [show (w.alloc (.cells #[.slice A n cap, .int .i64 off, .int .i64 lo, .int .i64 hi] 26)).heap.size = w.heap.size + 1 from by simp] at hr0
  have hK : Ke w w.heap.size (w.heap.size + 1) A n cap off lo hi ps p t _ := ⟨hk.next hb0, hr0⟩
  have K := Lib.hid hK
  have Hn := Lib.hid hn
  have Hpl := Lib.hid h.1
  clear h hn hk hb0 hr0 hK
  unfold cyl
  go_enter Try.func5, Try.ntmps5
  go_wp2_with fail
  generalize ((w.alloc (.cells #[.slice A n cap, .int .i64 off, .int .i64 lo, .int .i64 hi] 26)).alloc (.cells #[.int .i64 p, .bool t] 28)) = W0 at K ⊢
  generalize w.heap.size + 1 = D at K ⊢
  obtain ⟨B, hB⟩ : ∃ B, w.heap.size = B := ⟨_, rfl⟩
  replace K := Lib.hid (show Ke w B D A n cap off lo hi ps p t W0 from by rw [← hB]; exact K.out)
  rw [hB]
  clear hB
  refine (many20 A n cap off lo hi 5 ps W0 K.out.k.pcs Hn.out).mono ?_
  rintro e W1 ⟨rfl, hb⟩
  replace K := Lib.hid (K.out.next hb)
  clear hb
  obtain ⟨f, hf⟩ : ∃ f, manyB n 5 = f := ⟨_, rfl⟩
  rw [hf]
  have Hf := Lib.hid hf
  clear hf
  cases f with
  | true =>
    go_wp2_with fail
    refine (works13 _).mono ?_
    rintro e w9 ⟨rfl, hb⟩
    have HB := Lib.hid (K.out.next hb).k.below
    clear hb
    go_wp2_with fail
    go_ret
    exact ⟨rfl, HB.out⟩
  | false =>
    have Hc := Lib.hid (show chkC ⟨ps, off, ⟨lo, hi⟩⟩ = 0 → n ≤ 5 from fun he => many_ok5 Hpl.out Hf.out he)
    have Hql := Lib.hid (passR_len ⟨ps, off, ⟨lo, hi⟩⟩)
    have Hvl := Lib.hid (rivR_len ⟨ps, off, ⟨lo, hi⟩⟩ ⟨p, t⟩)
    obtain ⟨pr, hpr⟩ : ∃ pr, passR ⟨ps, off, ⟨lo, hi⟩⟩ = pr := ⟨_, rfl⟩
    obtain ⟨pl, pe⟩ := pr
    rw [hpr] at Hql
    have Hpr := Lib.hid hpr
    obtain ⟨vr, hvr⟩ : ∃ vr, rivR ⟨ps, off, ⟨lo, hi⟩⟩ ⟨p, t⟩ = vr := ⟨_, rfl⟩
    obtain ⟨vl, ve⟩ := vr
    rw [hvr] at Hvl
    have Hvr := Lib.hid hvr
    clear hpr hvr
    obtain ⟨c0, c1, c2, c3, c4, c5⟩ := K.out.c
    go_wp2_with fail
    refine (pass30 A n cap off lo hi ps _ K.out.k.pcs Hn.out).mono ?_
    rintro e2 W2 ⟨X5, m5, cp5, rfl, hcp5, hp5, hb⟩
    rw [Hpr.out] at hp5 ⊢
    have S5 := Lib.hid hp5
    have Hcp5 := Lib.hid hcp5
    replace K := Lib.hid (K.out.next hb)
    clear hb c0 c1 c2 c3 c4 c5 hp5 hcp5
    obtain ⟨c0, c1, c2, c3, c4, c5⟩ := K.out.c
    go_wp2_with fail
    refine (pass31 A n cap off lo hi ps _ K.out.k.pcs Hn.out Hc.out).mono ?_
    rintro e2 W3 ⟨X6, m6, cp6, rfl, hcp6, hp6, hb⟩
    rw [Hpr.out] at hp6 ⊢
    obtain rfl : m5 = m6 := by rw [← S5.out.1, ← hp6.1]
    replace S5 := Lib.hid (S5.out.below hb (Nat.le_refl _))
    have S6 := Lib.hid hp6
    have Hcp6 := Lib.hid hcp6
    replace K := Lib.hid (K.out.next hb)
    clear hb c0 c1 c2 c3 c4 c5 hp6 hcp6
    obtain ⟨c0, c1, c2, c3, c4, c5⟩ := K.out.c
    go_wp2_with fail
    refine (riv32 A n cap off lo hi p t ps _ K.out.k.pcs Hn.out).mono ?_
    rintro e2 W4 ⟨X7, m7, cp7, rfl, hcp7, hp7, hb⟩
    rw [Hvr.out] at hp7 ⊢
    replace S5 := Lib.hid (S5.out.below hb (Nat.le_refl _))
    replace S6 := Lib.hid (S6.out.below hb (Nat.le_refl _))
    have S7 := Lib.hid hp7
    have Hcp7 := Lib.hid hcp7
    replace K := Lib.hid (K.out.next hb)
    clear hb c0 c1 c2 c3 c4 c5 hp7 hcp7
    obtain ⟨c0, c1, c2, c3, c4, c5⟩ := K.out.c
    go_wp2_with fail
    refine (riv33 A n cap off lo hi p t ps _ K.out.k.pcs Hn.out Hc.out).mono ?_
    rintro e2 W5 ⟨X8, m8, cp8, rfl, hcp8, hp8, hb⟩
    rw [Hvr.out] at hp8 ⊢
    replace S5 := Lib.hid (S5.out.below hb (Nat.le_refl _))
    replace S6 := Lib.hid (S6.out.below hb (Nat.le_refl _))
    replace S7 := Lib.hid (S7.out.below hb (Nat.le_refl _))
    have S8 := Lib.hid hp8
    have Hcp8 := Lib.hid hcp8
    replace K := Lib.hid (K.out.next hb)
    clear hb c0 c1 c2 c3 c4 c5 hp8 hcp8
    have q1 : (pe == pe) = true := by simp
    have q2 : (ve == ve) = true := by simp
    go_wp2_with fail
    refine (pairs34 X5 X6 m5 cp5 cp6 pl _ S5.out S6.out (by rw [← S5.out.1]; exact Hql.out)).mono ?_
    rintro e2 W6 ⟨rfl, hb⟩
    replace S7 := Lib.hid (S7.out.below hb (Nat.le_refl _))
    replace S8 := Lib.hid (S8.out.below hb (Nat.le_refl _))
    replace K := Lib.hid (K.out.next hb)
    clear hb
    go_wp2_with fail
    refine (same29 X7 X8 m7 cp7 m8 cp8 (vl.map stC) (vl.map stC) _ S7.out S8.out (by rw [← S7.out.1]; exact Hvl.out) (by rw [← S8.out.1]; exact Hvl.out)).mono ?_
    rintro e2 W7 ⟨rfl, hb⟩
    rw [decide_eq_true rfl]
    replace K := Lib.hid (K.out.next hb)
    clear hb
    go_wp2_with fail
    refine (works13 _).mono ?_
    rintro e w9 ⟨rfl, hb⟩
    have HB := Lib.hid (K.out.next hb).k.below
    clear hb
    go_wp2_with fail
    go_ret
    exact ⟨rfl, HB.out⟩
end Go.Proofs.Ytfmcfalghbaanaa
