/- Stage 6: groups, flows, least sides and sides, as they are asked for. -/
import Derived.Test.YtigohccehllmnaaFi
import Derived.Test.YtigohccehllmnaaLa
import Derived.Test.YtigohccehllmnaaRt
import Derived.Test.YtigohccehllmnaaCt
import Derived.Test.YtigohccehllmnaaGo
import Derived.OwnWalk
namespace Go.Proofs.Ytigohccehllmnaa
set_option linter.unusedSimpArgs false
set_option linter.unusedVariables false
open Go.RowKit Go.Shelf

def fitK (zs : List Nl) (f : Nat → Int) : Nat → Bool
  | 0 => true
  | n + 1 => fitK zs f n && inB (-(lAt zs n).tr) (lAt zs n).tr (f n)
theorem fitK_no {zs : List Nl} {f : Nat → Int} {k : Nat} (h : inB (-(lAt zs k).tr) (lAt zs k).tr (f k) = false) : ∀ n, k < n → fitK zs f n = false
  | 0, hk => by omega
  | n + 1, hk => by
    simp only [fitK]
    rcases Nat.lt_or_ge k n with h2 | h2
    · rw [fitK_no h n h2]; rfl
    · obtain rfl : k = n := by omega
      rw [h, Bool.and_false]
theorem fitK_iff {zs : List Nl} {f : Nat → Int} : ∀ {n}, fitK zs f n = true ↔ ∀ k, k < n → -(lAt zs k).tr ≤ f k ∧ f k ≤ (lAt zs k).tr
  | 0 => by simp [fitK]
  | n + 1 => by
    simp only [fitK, Bool.and_eq_true, inB_iff]
    rw [fitK_iff]
    constructor
    · rintro ⟨h, h2⟩ k hk
      rcases Nat.lt_or_ge k n with h3 | h3
      · exact h k h3
      · obtain rfl : k = n := by omega
        exact h2
    · exact fun h => ⟨fun k hk => h k (by omega), h n (by omega)⟩
section
attribute [local go_sem ↓] exec_app at_app
attribute [local go_sem] Oper.semAt_some
set_option maxRecDepth 100000 in
set_option maxHeartbeats 16000000 in
theorem fits57 (b : BD) (f : Nat → Int) (w : World) (h : Bd w b f) (hok : BdOk b) :
    Calls Try.prog 57 #[.pointer (some ⟨b.B, 0, none⟩)] w fun e w' => e = .returned (.bool (fitK b.zs f b.l.n)) ∧ Below w.heap.size w w' := by
  have D := Lib.hid h
  have Hok := Lib.hid hok
  have B := Lib.hid (Below.refl w.heap.size w)
  have b4 := h.c4
  have hn := hok.n
  clear h hok
  go_enter Try.func57, Try.ntmps57
  go_wp2_with fail
  clear b4
  go_loopw [3, 4, 5, 11] (fun p q r i wr => ∃ k : Nat, k ≤ b.l.n ∧ i = .int .i64 (k : Int) ∧ Hid (fitK b.zs f k = true) ∧ Hid (Below w.heap.size w wr)) (fun p q r i _ => b.l.n - (intOf i).toNat)
  case atStart => exact ⟨0, Nat.zero_le _, rfl, Lib.hid rfl, Lib.hid (Below.refl _ _)⟩
  case round =>
    obtain ⟨k, hk9, rfl, Hw, HBl⟩ := hrel
    obtain ⟨wk, rfl⟩ : ∃ wk, wk = wr := ⟨_, rfl⟩
    replace D := Lib.hid (D.out.below HBl.out (Nat.le_refl _))
    replace B := HBl
    by_cases hlt : k < b.l.n
    · have c1 := D.out.c1
      have c4 := D.out.c4
      have z2 := (D.out.z k hlt).2.2
      have v0 := D.out.fl k hlt
      have ok := (Hok.out.ok k hlt).2.2.2
      obtain ⟨g, hg⟩ : ∃ g, (lAt b.zs k).tr = g := ⟨_, rfl⟩
      obtain ⟨fk, hfk⟩ : ∃ g, f k = g := ⟨_, rfl⟩
      rw [hg] at z2 ok
      rw [hfk] at v0
      have hwn : IntKind.i64.wrap (-g) = -g := IntWalk.i64_in _ (by omega)
      have i0 : (0 : Int) ≤ (k : Int) := by omega
      have i1 : (k : Int) < (b.l.n : Int) := by omega
      have hr2 := heap_alloc_new_ wk (.cells #[.int .i64 fk] 2)
      have hb := below_alloc_ wk (.cells #[.int .i64 fk] 2)
      have k2 := within46 (some ⟨wk.heap.size, 0, none⟩) 1 1 [fk] (-g) g _ (ints_one hr2) (by omega)
      rw [withI_one] at k2
      obtain ⟨x2, hx2⟩ : ∃ x1, inB (-g) g fk = x1 := ⟨_, rfl⟩
      rw [hx2] at k2
      have HX2 := Lib.hid (show inB (-(lAt b.zs k).tr) (lAt b.zs k).tr (f k) = x2 by rw [hg, hfk]; exact hx2)
      have K2 := Lib.hid k2
      have HB := Lib.hid (B.out.trans (hb.mono B.out.size))
      clear k2 hr2 hx2 hg hfk ok hb
      go_wp2_with fail
      refine K2.out.mono ?_
      rintro en w5 ⟨rfl, rfl⟩
      rcases x2 with _ | _
      · go_wp2_with fail
        go_ret
        exact ⟨by rw [fitK_no HX2.out _ hlt] <;> rfl, HB.out⟩
      go_wp2_with fail
      go_roundw
      case rel => exact ⟨k + 1, by omega, by go_num, Lib.hid (by simp only [fitK]; rw [Hw.out, HX2.out]; rfl), HB⟩
      case measure => simp [intOf]; omega
    · obtain rfl : k = b.l.n := by omega
      go_wp2_with fail
      go_ret
      exact ⟨by rw [Hw.out] <;> rfl, B.out⟩
end
end Go.Proofs.Ytigohccehllmnaa

namespace Go.Proofs.Ytigohccehllmnaa
set_option linter.unusedSimpArgs false
set_option linter.unusedVariables false
open Go.RowKit Go.Shelf
section
attribute [local go_sem ↓] exec_app at_app
attribute [local go_sem] Oper.semAt_some
set_option maxRecDepth 100000 in
set_option maxHeartbeats 16000000 in
theorem flood60 (l : NL) (w : World) (h : NLs w l) :
    Calls Try.prog 60 #[.agg #[.int .i64 l.N, .slice l.A l.n l.cap, .slice l.LA l.ln l.lc, .slice l.RA l.rn l.rc]] w fun e w' => (chkL l ≠ 0 ∧ e = .returned (.tuple #[.pointer none, .int .i64 (chkL l)]) ∨
      chkL l = 0 ∧ ∃ B F Z f, e = .returned (.tuple #[.pointer (some ⟨B, 0, none⟩), .int .i64 0]) ∧ Bd w' ⟨B, F, Z, l, l.zs⟩ f ∧ BdOk ⟨B, F, Z, l, l.zs⟩ ∧ Filled ⟨B, F, Z, l, l.zs⟩ f ∧ w.heap.size ≤ F) ∧ Below w.heap.size w w' := by
  obtain ⟨R, hR⟩ : ∃ v, w.heap.size = v := ⟨_, rfl⟩
  have hb0 := below_alloc_ w (.cells #[.int .i64 l.N, .slice l.A l.n l.cap, .slice l.LA l.ln l.lc, .slice l.RA l.rn l.rc] 25)
  have hr0 := heap_alloc_new_ w (.cells #[.int .i64 l.N, .slice l.A l.n l.cap, .slice l.LA l.ln l.lc, .slice l.RA l.rn l.rc] 25)
  have hz0 : (w.alloc (.cells #[.int .i64 l.N, .slice l.A l.n l.cap, .slice l.LA l.ln l.lc, .slice l.RA l.rn l.rc] 25)).heap.size = w.heap.size + 1 := by simp
  obtain ⟨w0, hw0⟩ : ∃ v, w.alloc (.cells #[.int .i64 l.N, .slice l.A l.n l.cap, .slice l.LA l.ln l.lc, .slice l.RA l.rn l.rc] 25) = v := ⟨_, rfl⟩
  rw [hw0] at hb0 hr0 hz0
  rw [hR] at hr0 hz0
  have hB := hb0
  have S := Lib.hid (h.below hB (Nat.le_refl _))
  have X := Lib.hid hr0
  have HW0 := Lib.hid hw0
  have B := Lib.hid hB
  have HR := Lib.hid hR
  clear hB hR hb0 hr0 hz0 hw0 h
  have ltX : R < w0.heap.size := lt_of_block X.out
  have zX0 : w0.cell? ⟨R, 0, none⟩ = some (.int .i64 l.N) := by rw [cell_row X.out]; rfl
  have zX1 : w0.cell? ⟨R, 1, none⟩ = some (.slice l.A l.n l.cap) := by rw [cell_row X.out]; rfl
  have zX2 : w0.cell? ⟨R, 2, none⟩ = some (.slice l.LA l.ln l.lc) := by rw [cell_row X.out]; rfl
  have zX3 : w0.cell? ⟨R, 3, none⟩ = some (.slice l.RA l.rn l.rc) := by rw [cell_row X.out]; rfl
  go_enter Try.func60, Try.ntmps60
  go_wp2_with fail
  try rw [HW0.out]
  try rw [HR.out]
  try simp only [Nat.add_assoc, Nat.reduceAdd]
  try go_wp2_with fail
  clear zX0 zX1 zX2 zX3 ltX
  refine (lay41 l none 0 0 [] w0 S.out ⟨rfl, fun h => by omega⟩ (Nat.le_refl _) (by omega)).mono ?_
  rintro en w1 ⟨hh, hb⟩
  obtain ⟨c, hc⟩ : ∃ v, chkL l = v := ⟨_, rfl⟩
  have hr0 : risI (l.n : Int) [] = true := rfl
  rcases hh with ⟨h0, rfl⟩ | ⟨h0, h1, rfl⟩ | ⟨h0, -, B1, F, Z, rfl, hbd, hF⟩
  rotate_left
  · rw [hr0] at h1; cases h1
  · have D := Lib.hid (show Bd w1 ⟨B1, F, Z, l, l.zs⟩ (fun _ => 0) from hbd)
    have Hok := Lib.hid (show BdOk ⟨B1, F, Z, l, l.zs⟩ from bd_ok h0 S.out [] hr0 B1 F Z)
    have HF := Lib.hid (show w.heap.size ≤ F from Nat.le_trans B.out.size hF)
    replace B := Lib.hid (B.out.trans (hb.mono B.out.size))
    have H0 := Lib.hid h0
    have k79 := Lib.hid (fill79 ⟨B1, F, Z, l, l.zs⟩ (fun _ => 0) w1 D.out Hok.out (flow_zero Hok.out.okl _ _))
    clear h0 hbd hF hb hc hr0
    go_wp2_with fail
    refine k79.out.mono ?_
    rintro en w2 ⟨rfl, ⟨f, hbd, hfi⟩, hk⟩
    have D2 := Lib.hid hbd
    have HI := Lib.hid hfi
    replace B := Lib.hid (B.out.trans (hk.below B.out.size (fun j hj e => by have := HF.out; omega)))
    clear hbd hfi hk k79
    go_wp2_with fail
    go_ret2
    exact ⟨.inr ⟨H0.out, B1, F, Z, f, rfl, D2.out, Hok.out, HI.out, HF.out⟩, B.out⟩
  · rw [hc] at h0 ⊢
    have d0 : (c != 0) = true := by rw [bne_iff_ne]; exact h0
    have H0 := Lib.hid h0
    have HC := Lib.hid hc
    replace B := Lib.hid (B.out.trans (hb.mono B.out.size))
    clear h0 hc hb hr0
    go_wp2_with fail
    go_ret2
    exact ⟨.inl ⟨by rw [HC.out]; exact H0.out, by rw [HC.out]; rfl⟩, B.out⟩
set_option maxRecDepth 100000 in
set_option maxHeartbeats 16000000 in
theorem least61 (b : BD) (f : Nat → Int) (c : Nat) (w : World) (h : Bd w b f) (hok : BdOk b) (hf : Small b f) (hc : b.l.N = (c : Int)) :
    Calls Try.prog 61 #[.pointer (some ⟨b.B, 0, none⟩)] w fun e w' => ∃ Q R, e = .returned (.slice (some ⟨Q, 0, none⟩) (nmK R c).length (nmK R c).length) ∧ w.heap.size ≤ Q ∧ Ints w' (some ⟨Q, 0, none⟩) (nmK R c).length (nmK R c) ∧ RS b.zs (opF b.zs f) b.l.ls R ∧ Below w.heap.size w w' := by
  have D := Lib.hid h
  have Hok := Lib.hid hok
  have Hf := Lib.hid hf
  have Hc := Lib.hid hc
  have b2 := h.c2
  have k65 := Lib.hid (reach65 b f b.l.LA b.l.ln b.l.lc b.l.ls 66 #[.pointer (some ⟨b.B, 0, none⟩)] #[] (opF b.zs f) w h hok h.ls (by have := hok.ln; omega) (by have := hok.ln; omega) (ris_mem hok.lr) (tellsOpen h hok hf))
  clear h hok hf hc
  go_enter Try.func61, Try.ntmps61
  go_wp2_with fail
  refine k65.out.mono ?_
  rintro e1 w1 ⟨M, nn, S, rfl, hT, -, hM, hrs, hb⟩
  have k67 := Lib.hid (names67 b f c (fun x => (S x).isSome) 64 #[.map (some M)] #[] w1 (D.out.below hb (Nat.le_refl _)) Hok.out Hc.out ((tells64 hT).mono (fun x hx => by have := Hok.out.N; omega)))
  have HR := Lib.hid hrs
  have HB := Lib.hid hb
  clear hT hM hrs hb k65 b2
  go_wp2_with fail
  refine k67.out.mono ?_
  rintro e2 w2 ⟨Q, rfl, hQ, hI, hb⟩
  have HX := Lib.hid (show w.heap.size ≤ Q ∧ Ints w2 (some ⟨Q, 0, none⟩) (nmK (fun x => (S x).isSome) c).length (nmK (fun x => (S x).isSome) c) ∧ Below w.heap.size w w2 from ⟨Nat.le_trans HB.out.size hQ, hI, HB.out.trans (hb.mono HB.out.size)⟩)
  clear hQ hI hb k67
  go_wp2_with fail
  go_ret
  exact ⟨Q, _, rfl, HX.out.1, HX.out.2.1, HR.out, HX.out.2.2⟩
end
end Go.Proofs.Ytigohccehllmnaa

namespace Go.Proofs.Ytigohccehllmnaa
set_option linter.unusedSimpArgs false
set_option linter.unusedVariables false
open Go.RowKit Go.Shelf

def flL (f : Nat → Int) (n : Nat) : List Int := (List.range n).map f
theorem flL_len (f : Nat → Int) (n : Nat) : (flL f n).length = n := by simp [flL]
theorem flL_at (f : Nat → Int) {n k : Nat} (h : k < n) : iAt (flL f n) k = f k := by
  rw [iAt_eq (by rw [flL_len]; exact h)]; simp [flL]
theorem Bd.flow {W : World} {b : BD} {f : Nat → Int} (h : Bd W b f) : Ints W (some ⟨b.F, 0, none⟩) b.l.n (flL f b.l.n) :=
  ⟨flL_len _ _, fun _ => ⟨b.F, 0, rfl, fun j hj => by rw [Nat.zero_add, flL_at f hj]; exact h.fl j hj⟩⟩
theorem int_nat {x : Int} (h : 0 ≤ x) : ∃ c : Nat, x = (c : Int) := ⟨x.toNat, by omega⟩
section
attribute [local go_sem ↓] exec_app at_app
attribute [local go_sem] Oper.semAt_some
set_option maxRecDepth 100000 in
set_option maxHeartbeats 16000000 in
theorem flow29 (l : NL) (w : World) (h : NLs w l) :
    Calls Try.prog 29 #[.agg #[.int .i64 l.N, .slice l.A l.n l.cap, .slice l.LA l.ln l.lc, .slice l.RA l.rn l.rc]] w fun e w' => (chkL l ≠ 0 ∧ e = .returned (.tuple #[.slice none 0 0, .int .i64 (chkL l)]) ∨
      chkL l = 0 ∧ ∃ F f, e = .returned (.tuple #[.slice (some ⟨F, 0, none⟩) l.n l.n, .int .i64 0]) ∧ Ints w' (some ⟨F, 0, none⟩) l.n (flL f l.n) ∧ FlowOk l.N.toNat l.zs l.ls l.rs f ∧ ∃ S, ClosedS l.zs (opF l.zs f) S ∧ IsSd l.ls l.rs S) ∧ Below w.heap.size w w' := by
  obtain ⟨R, hR⟩ : ∃ v, w.heap.size = v := ⟨_, rfl⟩
  have hb0 := below_alloc_ w (.cells #[.int .i64 l.N, .slice l.A l.n l.cap, .slice l.LA l.ln l.lc, .slice l.RA l.rn l.rc] 25)
  have hr0 := heap_alloc_new_ w (.cells #[.int .i64 l.N, .slice l.A l.n l.cap, .slice l.LA l.ln l.lc, .slice l.RA l.rn l.rc] 25)
  have hz0 : (w.alloc (.cells #[.int .i64 l.N, .slice l.A l.n l.cap, .slice l.LA l.ln l.lc, .slice l.RA l.rn l.rc] 25)).heap.size = w.heap.size + 1 := by simp
  obtain ⟨w0, hw0⟩ : ∃ v, w.alloc (.cells #[.int .i64 l.N, .slice l.A l.n l.cap, .slice l.LA l.ln l.lc, .slice l.RA l.rn l.rc] 25) = v := ⟨_, rfl⟩
  rw [hw0] at hb0 hr0 hz0
  rw [hR] at hr0 hz0
  have hB := hb0
  have S := Lib.hid (h.below hB (Nat.le_refl _))
  have X := Lib.hid hr0
  have HW0 := Lib.hid hw0
  have B := Lib.hid hB
  have HR := Lib.hid hR
  clear hB hR hb0 hr0 hz0 hw0 h
  have ltX : R < w0.heap.size := lt_of_block X.out
  have zX0 : w0.cell? ⟨R, 0, none⟩ = some (.int .i64 l.N) := by rw [cell_row X.out]; rfl
  have zX1 : w0.cell? ⟨R, 1, none⟩ = some (.slice l.A l.n l.cap) := by rw [cell_row X.out]; rfl
  have zX2 : w0.cell? ⟨R, 2, none⟩ = some (.slice l.LA l.ln l.lc) := by rw [cell_row X.out]; rfl
  have zX3 : w0.cell? ⟨R, 3, none⟩ = some (.slice l.RA l.rn l.rc) := by rw [cell_row X.out]; rfl
  go_enter Try.func29, Try.ntmps29
  go_wp2_with fail
  try rw [HW0.out]
  try rw [HR.out]
  try simp only [Nat.add_assoc, Nat.reduceAdd]
  try go_wp2_with fail
  clear zX0 zX1 zX2 zX3 ltX
  refine (flood60 l w0 S.out).mono ?_
  rintro en w1 ⟨hh, hb⟩
  rcases hh with ⟨h0, rfl⟩ | ⟨h0, B1, F, Z, f, rfl, hbd, hok, hfi, hF⟩
  · obtain ⟨c, hc⟩ : ∃ v, chkL l = v := ⟨_, rfl⟩
    rw [hc] at h0 ⊢
    have d0 : (c != 0) = true := by rw [bne_iff_ne]; exact h0
    have H0 := Lib.hid h0
    have HC := Lib.hid hc
    replace B := Lib.hid (B.out.trans (hb.mono B.out.size))
    clear h0 hc hb
    go_wp2_with fail
    go_ret2
    exact ⟨.inl ⟨by rw [HC.out]; exact H0.out, by rw [HC.out]; rfl⟩, B.out⟩
  · obtain ⟨b, hbe⟩ : ∃ b : BD, (⟨B1, F, Z, l, l.zs⟩ : BD) = b := ⟨_, rfl⟩
    have e1 : b.l = l := by rw [← hbe]
    have e2 : b.zs = l.zs := by rw [← hbe]
    have e3 : b.B = B1 := by rw [← hbe]
    rw [hbe] at hbd hok hfi
    have hsm := small_fit hok hfi.1.fit
    have D := Lib.hid hbd
    have Hok := Lib.hid hok
    have HI := Lib.hid hfi
    have Hf := Lib.hid hsm
    have H0 := Lib.hid h0
    have E1 := Lib.hid e1
    have E2 := Lib.hid e2
    replace B := Lib.hid (B.out.trans (hb.mono B.out.size))
    rw [← e3]
    clear hbd hok hfi hsm h0 hb hF e1 e2 e3 hbe
    have c4 := D.out.c4
    have HX := Lib.hid (show Ints w1 (some ⟨b.F, 0, none⟩) l.n (flL f l.n) ∧ FlowOk l.N.toNat l.zs l.ls l.rs f ∧ ∃ S, ClosedS l.zs (opF l.zs f) S ∧ IsSd l.ls l.rs S from by
      have h1 := D.out.flow
      have h2 := HI.out
      unfold Filled at h2
      rw [E1.out] at h1 h2
      rw [E2.out] at h2
      exact ⟨h1, h2⟩)
    rw [E1.out] at c4
    go_wp2_with fail
    go_ret2
    exact ⟨.inr ⟨H0.out, b.F, f, rfl, HX.out.1, HX.out.2⟩, B.out⟩
set_option maxRecDepth 100000 in
set_option maxHeartbeats 16000000 in
theorem sides32 (l : NL) (w : World) (h : NLs w l) :
    Calls Try.prog 32 #[.agg #[.int .i64 l.N, .slice l.A l.n l.cap, .slice l.LA l.ln l.lc, .slice l.RA l.rn l.rc]] w fun e w' => (chkL l ≠ 0 ∧ e = .returned (.tuple #[.slice none 0 0, .int .i64 (chkL l)]) ∨
      chkL l = 0 ∧ ∃ f C cap R R', e = .returned (.tuple #[.slice C l.N.toNat cap, .int .i64 0]) ∧ l.N.toNat ≤ cap ∧ Ints w' C l.N.toNat (sdL R R' l.N.toNat) ∧ FlowOk l.N.toNat l.zs l.ls l.rs f ∧ (∃ S, ClosedS l.zs (opF l.zs f) S ∧ IsSd l.ls l.rs S) ∧ RS l.zs (opF l.zs f) l.ls R ∧ RS l.zs (opB l.zs f) l.rs R') ∧ Below w.heap.size w w' := by
  obtain ⟨R, hR⟩ : ∃ v, w.heap.size = v := ⟨_, rfl⟩
  have hb0 := below_alloc_ w (.cells #[.int .i64 l.N, .slice l.A l.n l.cap, .slice l.LA l.ln l.lc, .slice l.RA l.rn l.rc] 25)
  have hr0 := heap_alloc_new_ w (.cells #[.int .i64 l.N, .slice l.A l.n l.cap, .slice l.LA l.ln l.lc, .slice l.RA l.rn l.rc] 25)
  have hz0 : (w.alloc (.cells #[.int .i64 l.N, .slice l.A l.n l.cap, .slice l.LA l.ln l.lc, .slice l.RA l.rn l.rc] 25)).heap.size = w.heap.size + 1 := by simp
  obtain ⟨w0, hw0⟩ : ∃ v, w.alloc (.cells #[.int .i64 l.N, .slice l.A l.n l.cap, .slice l.LA l.ln l.lc, .slice l.RA l.rn l.rc] 25) = v := ⟨_, rfl⟩
  rw [hw0] at hb0 hr0 hz0
  rw [hR] at hr0 hz0
  have hB := hb0
  have S := Lib.hid (h.below hB (Nat.le_refl _))
  have X := Lib.hid hr0
  have HW0 := Lib.hid hw0
  have B := Lib.hid hB
  have HR := Lib.hid hR
  clear hB hR hb0 hr0 hz0 hw0 h
  have ltX : R < w0.heap.size := lt_of_block X.out
  have zX0 : w0.cell? ⟨R, 0, none⟩ = some (.int .i64 l.N) := by rw [cell_row X.out]; rfl
  have zX1 : w0.cell? ⟨R, 1, none⟩ = some (.slice l.A l.n l.cap) := by rw [cell_row X.out]; rfl
  have zX2 : w0.cell? ⟨R, 2, none⟩ = some (.slice l.LA l.ln l.lc) := by rw [cell_row X.out]; rfl
  have zX3 : w0.cell? ⟨R, 3, none⟩ = some (.slice l.RA l.rn l.rc) := by rw [cell_row X.out]; rfl
  go_enter Try.func32, Try.ntmps32
  go_wp2_with fail
  try rw [HW0.out]
  try rw [HR.out]
  try simp only [Nat.add_assoc, Nat.reduceAdd]
  try go_wp2_with fail
  clear zX0 zX1 zX2 zX3 ltX
  refine (flood60 l w0 S.out).mono ?_
  rintro en w1 ⟨hh, hb⟩
  rcases hh with ⟨h0, rfl⟩ | ⟨h0, B1, F, Z, f, rfl, hbd, hok, hfi, hF⟩
  · obtain ⟨c, hc⟩ : ∃ v, chkL l = v := ⟨_, rfl⟩
    rw [hc] at h0 ⊢
    have d0 : (c != 0) = true := by rw [bne_iff_ne]; exact h0
    have H0 := Lib.hid h0
    have HC := Lib.hid hc
    replace B := Lib.hid (B.out.trans (hb.mono B.out.size))
    clear h0 hc hb
    go_wp2_with fail
    go_ret2
    exact ⟨.inl ⟨by rw [HC.out]; exact H0.out, by rw [HC.out]; rfl⟩, B.out⟩
  · obtain ⟨b, hbe⟩ : ∃ b : BD, (⟨B1, F, Z, l, l.zs⟩ : BD) = b := ⟨_, rfl⟩
    have e1 : b.l = l := by rw [← hbe]
    have e2 : b.zs = l.zs := by rw [← hbe]
    have e3 : b.B = B1 := by rw [← hbe]
    rw [hbe] at hbd hok hfi
    have hsm := small_fit hok hfi.1.fit
    have D := Lib.hid hbd
    have Hok := Lib.hid hok
    have HI := Lib.hid hfi
    have Hf := Lib.hid hsm
    have H0 := Lib.hid h0
    have E1 := Lib.hid e1
    have E2 := Lib.hid e2
    replace B := Lib.hid (B.out.trans (hb.mono B.out.size))
    rw [← e3]
    clear hbd hok hfi hsm h0 hb hF e1 e2 e3 hbe
    obtain ⟨c, hc⟩ := int_nat (x := b.l.N) (by have := Hok.out.N; omega)
    have hcN : l.N.toNat = c := by rw [← E1.out, hc]; omega
    have k63 := Lib.hid (sides63 b f c w1 D.out Hok.out Hf.out hc)
    have HCN := Lib.hid hcN
    clear hc hcN
    go_wp2_with fail
    refine k63.out.mono ?_
    rintro en w2 ⟨C, cap, R9, R', rfl, hcap, hI, hr1, hr2, hb⟩
    have HX := Lib.hid (show c ≤ cap ∧ Ints w2 C c (sdL R9 R' c) ∧ FlowOk l.N.toNat l.zs l.ls l.rs f ∧ (∃ S, ClosedS l.zs (opF l.zs f) S ∧ IsSd l.ls l.rs S) ∧ RS l.zs (opF l.zs f) l.ls R9 ∧ RS l.zs (opB l.zs f) l.rs R' from by
      have h2 := HI.out
      unfold Filled at h2
      rw [E2.out] at hr1 hr2 h2
      rw [E1.out] at hr1 hr2 h2
      exact ⟨hcap, hI, h2.1, h2.2, hr1, hr2⟩)
    replace B := Lib.hid (B.out.trans (hb.mono B.out.size))
    clear hcap hI hr1 hr2 hb k63
    go_wp2_with fail
    go_ret2
    rw [HCN.out]
    exact ⟨.inr ⟨H0.out, f, C, cap, R9, R', rfl, by have := HX.out; rwa [HCN.out] at this⟩, B.out⟩
set_option maxRecDepth 100000 in
set_option maxHeartbeats 16000000 in
theorem least30 (l : NL) (w : World) (h : NLs w l) :
    Calls Try.prog 30 #[.agg #[.int .i64 l.N, .slice l.A l.n l.cap, .slice l.LA l.ln l.lc, .slice l.RA l.rn l.rc]] w fun e w' => (chkL l ≠ 0 ∧ e = .returned (.tuple #[.slice none 0 0, .int .i64 0, .int .i64 (chkL l)]) ∨
      chkL l = 0 ∧ ∃ f Q R, e = .returned (.tuple #[.slice (some ⟨Q, 0, none⟩) (nmK R l.N.toNat).length (nmK R l.N.toNat).length, .int .i64 (csK l.zs (nmK R l.N.toNat) l.n), .int .i64 0]) ∧ Ints w' (some ⟨Q, 0, none⟩) (nmK R l.N.toNat).length (nmK R l.N.toNat) ∧ FlowOk l.N.toNat l.zs l.ls l.rs f ∧ (∃ S, ClosedS l.zs (opF l.zs f) S ∧ IsSd l.ls l.rs S) ∧ RS l.zs (opF l.zs f) l.ls R) ∧ Below w.heap.size w w' := by
  obtain ⟨R, hR⟩ : ∃ v, w.heap.size = v := ⟨_, rfl⟩
  have hb0 := below_alloc_ w (.cells #[.int .i64 l.N, .slice l.A l.n l.cap, .slice l.LA l.ln l.lc, .slice l.RA l.rn l.rc] 25)
  have hr0 := heap_alloc_new_ w (.cells #[.int .i64 l.N, .slice l.A l.n l.cap, .slice l.LA l.ln l.lc, .slice l.RA l.rn l.rc] 25)
  have hz0 : (w.alloc (.cells #[.int .i64 l.N, .slice l.A l.n l.cap, .slice l.LA l.ln l.lc, .slice l.RA l.rn l.rc] 25)).heap.size = w.heap.size + 1 := by simp
  obtain ⟨w0, hw0⟩ : ∃ v, w.alloc (.cells #[.int .i64 l.N, .slice l.A l.n l.cap, .slice l.LA l.ln l.lc, .slice l.RA l.rn l.rc] 25) = v := ⟨_, rfl⟩
  rw [hw0] at hb0 hr0 hz0
  rw [hR] at hr0 hz0
  have hB := hb0
  have S := Lib.hid (h.below hB (Nat.le_refl _))
  have X := Lib.hid hr0
  have HW0 := Lib.hid hw0
  have B := Lib.hid hB
  have HR := Lib.hid hR
  clear hB hR hb0 hr0 hz0 hw0 h
  have ltX : R < w0.heap.size := lt_of_block X.out
  have zX0 : w0.cell? ⟨R, 0, none⟩ = some (.int .i64 l.N) := by rw [cell_row X.out]; rfl
  have zX1 : w0.cell? ⟨R, 1, none⟩ = some (.slice l.A l.n l.cap) := by rw [cell_row X.out]; rfl
  have zX2 : w0.cell? ⟨R, 2, none⟩ = some (.slice l.LA l.ln l.lc) := by rw [cell_row X.out]; rfl
  have zX3 : w0.cell? ⟨R, 3, none⟩ = some (.slice l.RA l.rn l.rc) := by rw [cell_row X.out]; rfl
  go_enter Try.func30, Try.ntmps30
  go_wp2_with fail
  try rw [HW0.out]
  try rw [HR.out]
  try simp only [Nat.add_assoc, Nat.reduceAdd]
  try go_wp2_with fail
  clear zX0 zX1 zX2 zX3 ltX
  refine (flood60 l w0 S.out).mono ?_
  rintro en w1 ⟨hh, hb⟩
  rcases hh with ⟨h0, rfl⟩ | ⟨h0, B1, F, Z, f, rfl, hbd, hok, hfi, hF⟩
  · obtain ⟨c, hc⟩ : ∃ v, chkL l = v := ⟨_, rfl⟩
    rw [hc] at h0 ⊢
    have d0 : (c != 0) = true := by rw [bne_iff_ne]; exact h0
    have H0 := Lib.hid h0
    have HC := Lib.hid hc
    replace B := Lib.hid (B.out.trans (hb.mono B.out.size))
    clear h0 hc hb
    go_wp2_with fail
    go_ret3
    exact ⟨.inl ⟨by rw [HC.out]; exact H0.out, by rw [HC.out]; rfl⟩, B.out⟩
  · obtain ⟨b, hbe⟩ : ∃ b : BD, (⟨B1, F, Z, l, l.zs⟩ : BD) = b := ⟨_, rfl⟩
    have e1 : b.l = l := by rw [← hbe]
    have e2 : b.zs = l.zs := by rw [← hbe]
    have e3 : b.B = B1 := by rw [← hbe]
    rw [hbe] at hbd hok hfi
    have hsm := small_fit hok hfi.1.fit
    have D := Lib.hid hbd
    have Hok := Lib.hid hok
    have HI := Lib.hid hfi
    have Hf := Lib.hid hsm
    have H0 := Lib.hid h0
    have E1 := Lib.hid e1
    have E2 := Lib.hid e2
    replace B := Lib.hid (B.out.trans (hb.mono B.out.size))
    rw [← e3]
    clear hbd hok hfi hsm h0 hb hF e1 e2 e3 hbe
    obtain ⟨c, hc⟩ := int_nat (x := b.l.N) (by have := Hok.out.N; omega)
    have hcN : l.N.toNat = c := by rw [← E1.out, hc]; omega
    have k61 := Lib.hid (least61 b f c w1 D.out Hok.out Hf.out hc)
    have HCN := Lib.hid hcN
    have HC40 := Lib.hid (show c ≤ 40 by have := Hok.out.N; omega)
    clear hc hcN
    go_wp2_with fail
    refine k61.out.mono ?_
    rintro en w2 ⟨Q, R9, rfl, hQ, hI, hr1, hb⟩
    replace D := Lib.hid (D.out.below hb (Nat.le_refl _))
    replace B := Lib.hid (B.out.trans (hb.mono B.out.size))
    have S2 := Lib.hid hI
    have HR := Lib.hid hr1
    have k54 := Lib.hid (cut54 b f (some ⟨Q, 0, none⟩) _ (nmK R9 c).length (nmK R9 c) w2 D.out Hok.out hI (by have := nmK_len R9 c; have := HC40.out; omega))
    clear hQ hI hr1 hb k61
    go_wp2_with fail
    refine k54.out.mono ?_
    rintro en w3 ⟨C, cp, rfl, hcp, hI, hb⟩
    have HX := Lib.hid (show Ints w3 (some ⟨Q, 0, none⟩) (nmK R9 c).length (nmK R9 c) ∧ FlowOk l.N.toNat l.zs l.ls l.rs f ∧ (∃ S, ClosedS l.zs (opF l.zs f) S ∧ IsSd l.ls l.rs S) ∧ RS l.zs (opF l.zs f) l.ls R9 from by
      have h2 := HI.out
      have hr1 := HR.out
      unfold Filled at h2
      rw [E2.out] at hr1 h2
      rw [E1.out] at hr1 h2
      exact ⟨S2.out.below hb (Nat.le_refl _), h2.1, h2.2, hr1⟩)
    replace B := Lib.hid (B.out.trans (hb.mono B.out.size))
    clear hcp hI hb k54
    go_wp2_with fail
    go_ret3
    rw [HCN.out]
    exact ⟨.inr ⟨H0.out, f, Q, R9, by rw [E1.out, E2.out] <;> rfl, by have := HX.out; rwa [HCN.out] at this⟩, B.out⟩
end
end Go.Proofs.Ytigohccehllmnaa
