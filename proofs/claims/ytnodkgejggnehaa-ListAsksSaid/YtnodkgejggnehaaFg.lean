/- Stage 5: the map of a board is emptied. -/
import Derived.Test.YtnodkgejggnehaaKn
import Derived.Deep.Cut
import Derived.LoopIn
import Derived.Maps.OwnIn
import Derived.Maps.Views
import Derived.DeepKeys4
import Derived.Maps.RangeWalk
namespace Go.Proofs.Ytnodkgejggnehaa
set_option linter.unusedSimpArgs false
set_option linter.unusedVariables false
open Go.RowKit Go.Shelf

/-- One link is refused. -/
def rf1 (zs : List Rg) (s : (Nat → Int) × (Nat → Bool) × List Rg) (k : Nat) : (Nat → Int) × (Nat → Bool) × List Rg :=
  if s.1 (0 * 12 + eN zs 0 k) = (k : Int) then (prtP zs s.1 (0 * 12 + eN zs 0 k), fun j => if j = k then false else s.2.1 j, s.2.2 ++ prtL zs s.1 (0 * 12 + eN zs 0 k)) else (s.1, fun j => if j = k then false else s.2.1 j, s.2.2)
/-- Some links are refused. -/
def rfs (zs : List Rg) (pt : Nat → Int) (op : Nat → Bool) (ns : List Int) : (Nat → Int) × (Nat → Bool) × List Rg := ns.foldl (fun s k => rf1 zs s k.toNat) (pt, op, [])
theorem rfs_snoc (zs : List Rg) (pt : Nat → Int) (op : Nat → Bool) (ns : List Int) (k : Nat) : rfs zs pt op (ns ++ [(k : Int)]) = rf1 zs (rfs zs pt op ns) k := by
  simp [rfs, List.foldl_append]
theorem rf1_ok {n : Nat} {zs : List Rg} {s : (Nat → Int) × (Nat → Bool) × List Rg} {k : Nat} (h : PtOk n s.1) : PtOk n (rf1 zs s k).1 := by
  unfold rf1
  split
  · exact prtP_ok h _
  · exact h
theorem rf1_len (zs : List Rg) (s : (Nat → Int) × (Nat → Bool) × List Rg) (k : Nat) : (rf1 zs s k).2.2.length ≤ s.2.2.length + 2 := by
  unfold rf1
  split
  · rw [List.length_append]; have := prtL_len zs s.1 (0 * 12 + eN zs 0 k); omega
  · simp
/-- Names of links. -/
def NmOk (n : Nat) (ns : List Int) : Prop := ∀ x ∈ ns, ∃ k : Nat, k < n ∧ x = (k : Int)
section
attribute [local go_sem ↓] exec_app at_app
attribute [local go_sem] Oper.semAt_some
set_option maxRecDepth 100000 in
set_option maxHeartbeats 16000000 in
theorem refuse92 (B : Nat) (sl sr : Int) (A : Option Addr) (n cap : Nat) (zs : List Rg) (A2 : Option Addr) (kn kc : Nat) (ks : List Int) (pt : Nat → Int) (op : Nat → Bool) (mp : Value) (NA : Option Addr) (m mc : Nat) (ns : List Int) (w : World) (h : Brd w B sl sr A n cap zs A2 kn kc ks pt op mp) (hN : Ints w NA m ns) (hNB : 0 < m → ∀ a, NA = some a → a.block ≠ B) (hn : n ≤ 40) (hm : m ≤ 40) (hz : ZOk n zs) (hp : PtOk n pt) (hns : NmOk n ns) :
    Calls Try.prog 92 #[.pointer (some ⟨B, 0, none⟩), .slice NA m mc] w fun e w' => ∃ C cp, e = .returned (.slice C (rfs zs pt op ns).2.2.length cp) ∧ Rgs w' C (rfs zs pt op ns).2.2.length (rfs zs pt op ns).2.2 ∧ (∀ a, C = some a → w.heap.size ≤ a.block) ∧ Brd w' B sl sr A n cap zs A2 kn kc ks (rfs zs pt op ns).1 (rfs zs pt op ns).2.1 mp ∧ Keeps (fun j => j = B) w w' := by
  obtain ⟨X0, hX0, -⟩ := h.row
  have hBw := lt_of_block hX0
  have HBo := Lib.hid h
  have HN := Lib.hid hN
  have HNB := Lib.hid hNB
  have Hz := Lib.hid hz
  have Hp := Lib.hid hp
  have Hns := Lib.hid hns
  have hml := hN.1
  have ix0 : ∀ (x y : Int) (W : World), (Instr.index 103 (.agg #[.int .i64 0, .int .i64 x, .int .i64 1, .int .i64 y]) (.int .i64 0)).run Try.prog W = .ok (.agg #[.int .i64 0, .int .i64 x]) W := fun _ _ _ => by kernel_rfl
  clear h hN hNB hz hp hns hX0 X0
  go_enter Try.func92, Try.ntmps92
  go_wp2_with fail
  go_loopw [5, 7, 10] (fun v5 y i wr => ∃ q : Nat, q ≤ m ∧ i = .int .i64 (q : Int) ∧ Hid (Brd wr B sl sr A n cap zs A2 kn kc ks (rfs zs pt op (ns.take q)).1 (rfs zs pt op (ns.take q)).2.1 mp ∧ wr.ownsRow 0 100 2 v5 (rfs zs pt op (ns.take q)).2.2.length (flatR (rfs zs pt op (ns.take q)).2.2) ∧ (rfs zs pt op (ns.take q)).2.2.length ≤ 2 * q ∧ PtOk n (rfs zs pt op (ns.take q)).1 ∧ (∀ g, v5.ownBlock = some g → w.heap.size ≤ g) ∧ Keeps (fun j => j = B) w wr)) (fun v5 y i _ => m - (intOf i).toNat)
  case atStart => exact ⟨0, Nat.zero_le _, rfl, Lib.hid ⟨HBo.out, own_nil _ _ _, by simp [rfs], Hp.out, fun g hg => by simp [Value.ownBlock] at hg, Keeps.refl _ _⟩⟩
  case round =>
    obtain ⟨q, hq9, rfl, HV⟩ := hrel
    obtain ⟨wk, rfl⟩ : ∃ wk, wk = wr := ⟨_, rfl⟩
    by_cases hlt : q < m
    · obtain ⟨hbrd, hown, hlen, hpo, hnew, hkeep⟩ := HV.out
      have hNk := HN.out.keepN hkeep (fun h0 a e h => HNB.out h0 a e h)
      obtain ⟨bN, oN, rfl, hcN⟩ := hNk.2 (by omega)
      have xN := hcN q hlt
      obtain ⟨k, hk, hke⟩ := Hns.out (iAt ns q) (by rw [iAt_eq (by omega)]; exact List.getElem_mem _)
      have htk : ns.take (q + 1) = ns.take q ++ [(k : Int)] := by
        rw [List.take_succ_eq_append_getElem (by omega), ← iAt_eq, hke]
      rw [hke] at xN
      have hsn := rfs_snoc zs pt op (ns.take q) k
      rw [← htk] at hsn
      obtain ⟨s, hs⟩ : ∃ s, rfs zs pt op (ns.take q) = s := ⟨_, rfl⟩
      rw [hs] at hsn hbrd hown hlen hpo
      have hpo1 := rf1_ok (zs := zs) (k := k) hpo
      have hle1 := rf1_len zs s k
      obtain ⟨p0, o0, L0⟩ := s
      simp only at hbrd hown hlen hpo
      obtain ⟨hg, ha, hb⟩ := Hz.out.at hk
      obtain ⟨a, hea⟩ : ∃ a, eN zs 0 k = a := ⟨_, rfl⟩
      rw [hea] at hg ha
      have hk40 : k < 40 := by omega
      have xo := hbrd.ho k hk40
      have fo := hbrd.frozen (28 + k)
      have hso := hbrd.setO k false hk40
      have hkS := keeps_setCell wk B (28 + k) (.bool false)
      obtain ⟨o1, ho1⟩ : ∃ o1, (fun i => if i = k then false else o0 i) = o1 := ⟨_, rfl⟩
      rw [ho1] at hso
      obtain ⟨W1, hW1⟩ : ∃ W1, wk.setCell ⟨B, 28 + k, none⟩ (.bool false) = W1 := ⟨_, rfl⟩
      rw [hW1] at hso hkS
      have k68 := joins68 B sl sr A n cap zs A2 kn kc ks p0 o1 mp k W1 hso hk (by rw [hg]; simp; omega)
      rw [hg] at k68
      simp only [Int.toNat_natCast] at k68
      have K68 := Lib.hid k68
      have HS1 := Lib.hid hso
      have HkS := Lib.hid hkS
      have HW1 := Lib.hid hW1
      have Hown := Lib.hid hown
      have Hvlt := Lib.hid (own_lt hown)
      have Hnew := Lib.hid hnew
      have Hlen := Lib.hid hlen
      have Hpo := Lib.hid hpo
      have Hpo1 := Lib.hid hpo1
      have Hle1 := Lib.hid hle1
      have Hkeep := Lib.hid hkeep
      have Hsn := Lib.hid hsn
      have Hg := Lib.hid hg
      have Hea := Lib.hid hea
      have Ho1 := Lib.hid ho1
      have hkn0 : (0 : Int) ≤ (k : Int) := by omega
      have hkn1 : (k : Int) < 40 := by omega
      have hqi0 : (0 : Int) ≤ (q : Int) := by omega
      have hqi1 : (q : Int) < (m : Int) := by omega
      clear hbrd hown hlen hpo hnew hkeep hNk hcN hke htk hsn hs hpo1 hle1 hg hea hso hkS ho1 hW1 k68 HV
      go_wp2_with fail
      rw [HW1.out]
      try go_wp2_with fail
      clear xN xo fo
      refine K68.out.mono ?_
      rintro en w2 ⟨rfl, hb2⟩
      have H2 := Lib.hid (HS1.out.below hb2 (Nat.le_refl _))
      have HK2 := Lib.hid (HkS.out.trans (Keeps.of_new hb2))
      clear K68 hb2
      by_cases hj : p0 a = (k : Int)
      · have dj : (p0 a == (k : Int)) = true := by rw [beq_iff_eq]; exact hj
        rw [dj]
        have k72 := ends72 B sl sr A n cap zs A2 kn kc ks p0 o1 mp k w2 H2.out hk
        rw [Hg.out] at k72
        simp only at k72
        have K72 := Lib.hid k72
        have Hj := Lib.hid hj
        clear k72 dj hj
        go_wp2_with fail
        refine K72.out.mono ?_
        rintro en w3 ⟨rfl, hb3⟩
        have k83 := part83 B sl sr A n cap zs A2 kn kc ks p0 o1 mp 0 a w3 (H2.out.below hb3 (Nat.le_refl _)) (by omega) ha Hz.out (Hpo.out _ (by omega))
        simp only [Int.natCast_zero] at k83
        have K83 := Lib.hid k83
        have HK3 := Lib.hid (HK2.out.trans (Keeps.of_new hb3))
        clear K72 hb3 k83
        go_wp2_with fail
        refine K83.out.mono ?_
        rintro en w4 ⟨C, mm, cp, rfl, hm2, hC, hrg, hb4, hk4⟩
        have hK4 := HK3.out.trans hk4
        have hl := hrg.1
        have hown4 := own_keep Hown.out hK4 (fun g hg e => by have := Hnew.out g hg; omega)
        obtain ⟨C2, c2, W5, hrun, hown5, hk5, hnew5⟩ := app_sl hown4 (by have := Hlen.out; omega) (by omega) hC hrg
        have hk5' : Keeps (fun j => w.heap.size ≤ j) w4 W5 := hk5.mono (fun j _ e => Hnew.out j e)
        have hb5 := Lib.hid (Brd.abide HBo.out hb4 hk5' (fun j e => e))
        have hkk5 := Lib.hid (keeps_old3 (Hkeep.out.trans hK4) (hk5'.mono (fun j _ e => .inl e)))
        have hr1 : rf1 zs (p0, o0, L0) k = (prtP zs p0 (0 * 12 + a), o1, L0 ++ prtL zs p0 (0 * 12 + a)) := by
          unfold rf1
          simp only
          rw [Hea.out, Nat.zero_mul, Nat.zero_add, if_pos Hj.out, Ho1.out]
        have Hr1 := Lib.hid hr1
        have Hl := Lib.hid hl
        have Hown5 := Lib.hid hown5
        have Hnew5 := Lib.hid (show ∀ g, (Value.slice C2 (L0.length + mm) c2).ownBlock = some g → w.heap.size ≤ g from fun g e => by
          rcases hnew5 g e with e | e
          · exact Hnew.out g e
          · have := hK4.size; have := Hkeep.out.size; omega)
        clear hb4 hk4 hK4 hown4 hk5 hk5' hown5 hnew5 hr1 hl hrg hC K83 hm2
        go_wp2_with fail
        go_roundw
        case rel => exact ⟨q + 1, by omega, by go_num, Lib.hid ⟨by rw [Hsn.out, Hr1.out]; exact hb5.out, by rw [Hsn.out, Hr1.out]; simp only [List.length_append, Hl.out]; exact Hown5.out, by rw [Hsn.out]; have h1 := Hle1.out; have h2 := Hlen.out; show _ ≤ 2 * (q + 1); exact Nat.le_trans h1 (by show L0.length + 2 ≤ _; omega), by rw [Hsn.out]; exact Hpo1.out, Hnew5.out, hkk5.out⟩⟩
        case measure => simp [intOf]; omega
      · have dj : (p0 a == (k : Int)) = false := by rw [beq_eq_false_iff_ne]; exact hj
        rw [dj]
        have hr1 : rf1 zs (p0, o0, L0) k = (p0, o1, L0) := by
          unfold rf1
          simp only
          rw [Hea.out, Nat.zero_mul, Nat.zero_add, if_neg hj, Ho1.out]
        have Hr1 := Lib.hid hr1
        clear hr1 hj dj
        go_wp2_with fail
        go_roundw
        case rel => exact ⟨q + 1, by omega, by go_num, Lib.hid ⟨by rw [Hsn.out, Hr1.out]; exact H2.out, by rw [Hsn.out, Hr1.out]; exact own_keep Hown.out HK2.out (fun g hg e => by have := Hnew.out g hg; omega), by rw [Hsn.out]; have h1 := Hle1.out; have h2 := Hlen.out; show _ ≤ 2 * (q + 1); exact Nat.le_trans h1 (by show L0.length + 2 ≤ _; omega), by rw [Hsn.out]; exact Hpo1.out, Hnew.out, Hkeep.out.trans HK2.out⟩⟩
        case measure => simp [intOf]; omega
    · obtain rfl : q = m := by omega
      go_wp2_with fail
      go_ret
      obtain ⟨hbrd, hown, hlen, hpo, hnew, hkeep⟩ := HV.out
      rw [show ns.take q = ns from by rw [← hml]; exact List.take_length] at hbrd hown
      obtain ⟨C, cp, e, hcap, hrgs, hblk⟩ := rgs_own rfl hown
      subst e
      refine ⟨C, cp, rfl, hrgs, fun ad ha => ?_, hbrd, hkeep⟩
      rcases hown.2 with ⟨e3, _⟩ | ⟨g, cpx, cur, e3, _, hg, _⟩
      · simp only [Value.slice.injEq] at e3; rw [e3.1] at ha; cases ha
      · simp only [Value.slice.injEq] at e3
        obtain ⟨rfl, -, -⟩ := e3
        cases ha
        exact hnew g rfl
end
end Go.Proofs.Ytnodkgejggnehaa

namespace Go.Proofs.Ytnodkgejggnehaa
set_option linter.unusedSimpArgs false
set_option linter.unusedVariables false
open Go.RowKit Go.Shelf Go.WideMaps Go.MapKept
open Go.Maps (Keyed)

theorem Try.laid_ : laidOutB Try.prog = true := by kernel_rfl
theorem key100 : Keyed Try.prog 100 := Keyed.of_law (deep_law_laid Try.laid_ (m := 3) (by omega) (of_decide_eq_true (by kernel_rfl)) (by kernel_rfl) (by kernel_rfl))
theorem key_sd_ {a b : Int} (wa : (Lit.int .i64 a).wf = true) (wb : (Lit.int .i64 b).wf = true) :
    keyOf Try.prog 100 (.agg #[.int .i64 a, .int .i64 b]) = some (.string (keyBytes [.int .i64 a, .int .i64 b])) := by
  have hkt : Try.prog.keyType 100 = true := by kernel_rfl
  have hf : (Value.agg #[.int .i64 a, .int .i64 b]).formed Try.prog 100 = true := by kernel_rfl
  have hl : Try.prog.keyLits (Try.prog.types.size + 1) 100 [.int .i64 a, .int .i64 b] = some [.int .i64 a, .int .i64 b] := by
    have h3 : Try.prog.cellsOf 3 = 1 := by kernel_rfl
    have h100 : Try.prog.cellsOf 100 = 2 := by kernel_rfl
    obtain ⟨m, hm⟩ : ∃ m, Try.prog.types.size = m + 1 := ⟨Try.prog.types.size - 1, by kernel_rfl⟩
    rw [hm]
    unfold Program.keyLits
    simp only [Try.underlying100]
    simp [h100, h3, Program.keyLits, Try.underlying3, wa, wb]
  unfold keyOf
  simp only [Try.underlying100]
  rw [hkt, hf]
  simp only [Bool.and_self, if_true]
  have hc : (Value.agg #[.int .i64 a, .int .i64 b]).cells.toList = [.int .i64 a, .int .i64 b] := rfl
  rw [hc, hl]
  rfl
theorem wf_nm {a : Nat} (h : a < 100) : (Lit.int .i64 (a : Int)).wf = true := by
  have e1 : IntKind.i64.min = -9223372036854775808 := by decide
  have e2 : IntKind.i64.max = 9223372036854775807 := by decide
  simp only [Lit.wf, e1, e2, Bool.and_eq_true, decide_eq_true_eq]
  omega
/-- The key of an item. -/
def kSd (l i : Nat) : Lit := .string (keyBytes [.int .i64 (l : Int), .int .i64 (i : Int)])
def sdV (l i : Nat) : Value := .agg #[.int .i64 (l : Int), .int .i64 (i : Int)]
theorem key_sd {l i : Nat} (hl : l < 2) (hi : i < 12) : keyOf Try.prog 100 (sdV l i) = some (kSd l i) := key_sd_ (wf_nm (by omega)) (wf_nm (by omega))
theorem ksd_inj {l i l2 i2 : Nat} (hl : l < 2) (hi : i < 12) (hl2 : l2 < 2) (hi2 : i2 < 12) (h : kSd l i = kSd l2 i2) : l = l2 ∧ i = i2 := by
  have a := key_sd hl hi
  have b := key_sd hl2 hi2
  rw [← h] at b
  have c := key100.inj a b
  simp only [sdV, Value.agg.injEq, Array.mk.injEq, List.cons.injEq, Value.int.injEq, and_true, true_and] at c
  omega
def heldE (v : Value) : Option (DataW Value × List MemPlace) := some (.held v, [])
/-- All keys that there can be. -/
def allK : List Lit := (List.range 24).map fun x => kSd (x / 12) (x % 12)
open Classical in
theorem nodup_le {α : Type} : ∀ (l L : List α), l.Pairwise (· ≠ ·) → (∀ x ∈ l, x ∈ L) → l.length ≤ L.length
  | [], L, _, _ => Nat.zero_le _
  | x :: l, L, hn, hs => by
    have h1 := nodup_le l (L.erase x) (List.pairwise_cons.1 hn).2 (fun y hy => (List.mem_erase_of_ne (Ne.symm ((List.pairwise_cons.1 hn).1 y hy))).2 (hs y (List.mem_cons_of_mem _ hy)))
    have h2 := List.length_erase_of_mem (hs x (by simp))
    have h3 := List.length_pos_of_mem (hs x (by simp))
    simp only [List.length_cons]
    omega
theorem has_mem {H : Type} {es : List (Lit × DataW H)} {p : Lit × DataW H} (hp : p ∈ es) (hk : WideAt.IsKeyLit p.1) : Maps.has (DataW.map es) p.1 = true :=
  List.any_eq_true.2 ⟨p, hp, WideAt.sameKey_self hk⟩
/-- Keys are items alone. -/
def SdKeys (D : DataW Value) : Prop := ∀ kl, Maps.has D kl = true → ∃ l i, l < 2 ∧ i < 12 ∧ kl = kSd l i
theorem owns_24 {W : World} {M nn : Nat} {D : DataW Value} (h : W.ownsMap Try.prog 100 heldE M nn D) (hk : SdKeys D) : W.ownsMap Try.prog 100 heldE M 24 D := by
  obtain ⟨es2, hD2, hpw, hky⟩ := h.entries key100
  obtain ⟨es, clock, hb, F, hs, hD⟩ := h
  refine ⟨es, clock, hb, F, ?_, hD⟩
  have e : es2 = (es.toList.map (Go.WideElems.rg Try.prog 100 heldE)).foldr DataW.insert [] := by
    rw [hD] at hD2
    injection hD2 with hD2
    exact hD2.symm
  have hl : es2.length = es.size := by rw [e, length_sorted]; simp
  rw [← hl]
  have h24 := nodup_le (es2.map (·.1)) allK (by rw [List.pairwise_map]; exact hpw) (fun x hx => by
    obtain ⟨p, hp, rfl⟩ := List.mem_map.1 hx
    obtain ⟨l, i, h1, h2, h3⟩ := hk p.1 (by rw [hD2]; exact has_mem hp (hky p hp))
    rw [h3]
    refine List.mem_map.2 ⟨l * 12 + i, List.mem_range.2 (by omega), ?_⟩
    rw [show (l * 12 + i) / 12 = l by omega, show (l * 12 + i) % 12 = i by omega])
  simpa [allK] using h24
/-- The map M has the items lk. -/
structure LM (W : World) (M : Nat) (lk : Nat → Bool) : Prop where
  ex : ∃ D : DataW Value, W.ownsMap Try.prog 100 heldE M 24 D ∧ SdKeys D ∧ ∀ l i, l < 2 → i < 12 → Maps.has D (kSd l i) = lk (l * 12 + i) ∧ (lk (l * 12 + i) = true → D.atKey (kSd l i) (.held (.bool false)) = .held (.bool true))
theorem LM.lt {W : World} {M : Nat} {lk : Nat → Bool} (h : LM W M lk) : M < W.heap.size := by
  obtain ⟨D, h1, _⟩ := h.ex
  exact h1.lt
theorem owns_keep {H : Type} {P : Program} {k : TypeId} {R : Value → Option (DataW H × List MemPlace)} {W W' : World} {M nn : Nat} {D : DataW H} {Mut : Nat → Prop} (h : W.ownsMap P k R M nn D) (hK : Keeps Mut W W') (hm : ¬ Mut M) : W'.ownsMap P k R M nn D := by
  have hlt := h.lt
  obtain ⟨es, clock, hb, F, hs, hD⟩ := h
  exact ⟨es, clock, (hK.block M hlt hm).trans hb, F, hs, hD⟩
theorem LM.keep {W W' : World} {M : Nat} {lk : Nat → Bool} {Mut : Nat → Prop} (h : LM W M lk) (hK : Keeps Mut W W') (hm : ¬ Mut M) : LM W' M lk := by
  obtain ⟨D, h1, h2⟩ := h.ex
  exact ⟨D, owns_keep h1 hK hm, h2⟩
theorem LM.below {W W' : World} {M : Nat} {lk : Nat → Bool} (h : LM W M lk) (hB : Below W.heap.size W W') : LM W' M lk := h.keep (Mut := fun _ => False) (Keeps.of_new hB) (fun e => e)
theorem LM.look {W : World} {M : Nat} {lk : Nat → Bool} (h : LM W M lk) {l i : Nat} (hl : l < 2) (hi : i < 12) :
    (Instr.lookup 85 (.map (some M)) (.agg #[.int .i64 (l : Int), .int .i64 (i : Int)]) false).run Try.prog W = .ok (.bool (lk (l * 12 + i))) W := by
  obtain ⟨D, ho, hk, hD⟩ := h.ex
  obtain ⟨v, ps, hrun, hv⟩ := ho.lookup key100 Try.underlying85 (z := .bool false) (by kernel_rfl) (zd := .held (.bool false)) (zp := []) rfl (key_sd hl hi)
  obtain ⟨a, b⟩ := hD l i hl hi
  have hrun : (Instr.lookup 85 (.map (some M)) (.agg #[.int .i64 (l : Int), .int .i64 (i : Int)]) false).run Try.prog W = .ok v W := hrun
  rw [hrun]
  cases e : lk (l * 12 + i) with
  | true =>
    rw [b e] at hv
    simp only [heldE, Option.some.injEq, Prod.mk.injEq, DataW.held.injEq] at hv
    rw [hv.1]
  | false =>
    rw [e] at a
    rw [Maps.atKey_of_not_has a] at hv
    simp only [heldE, Option.some.injEq, Prod.mk.injEq, DataW.held.injEq] at hv
    rw [hv.1]
theorem LM.put {W : World} {M : Nat} {lk : Nat → Bool} (h : LM W M lk) {l i : Nat} (hl : l < 2) (hi : i < 12) :
    ∃ W', (Instr.mapUpdate 85 (.map (some M)) (.agg #[.int .i64 (l : Int), .int .i64 (i : Int)]) (.bool true)).run Try.prog W = .ok () W' ∧ LM W' M (fun x => if x = l * 12 + i then true else lk x) ∧ Keeps (fun k => k = M) W W' := by
  obtain ⟨D, ho, hk, hD⟩ := h.ex
  obtain ⟨W', hrun, ho', hg⟩ := ho.update key100 Try.underlying85 (by unfold maxLen; omega) (key_sd hl hi) (val := .bool true) (d := .held (.bool true)) (ps := []) rfl
  have hK : Keeps (fun k => k = M) W W' := Keeps.of_grown hg (fun r e => by cases e; rfl)
  have hk' : SdKeys (D.put (kSd l i) (.held (.bool true))) := fun kl hkl => by
    by_cases e : kl = kSd l i
    · exact ⟨l, i, hl, hi, e⟩
    · rw [Maps.has_put_other e] at hkl
      exact hk kl hkl
  refine ⟨W', hrun, ⟨_, owns_24 ho' hk', hk', fun l2 i2 hl2 hi2 => ?_⟩, hK⟩
  by_cases e : l2 = l ∧ i2 = i
  · obtain ⟨rfl, rfl⟩ := e
    rw [if_pos rfl]
    exact ⟨Maps.has_put_same ho.isMap (key100.key (key_sd hl hi)) _, fun _ => Maps.atKey_put_same ho.isMap (key100.key (key_sd hl hi)) _ _⟩
  · have hne : kSd l2 i2 ≠ kSd l i := fun e' => e (ksd_inj hl2 hi2 hl hi e')
    rw [if_neg (by omega), Maps.has_put_other hne, Maps.atKey_put_other hne]
    exact hD l2 i2 hl2 hi2
theorem LM.new {W : World} {M : Nat} (h : W.heap[M]? = some (.map #[] 0)) : LM W M (fun _ => false) :=
  ⟨.map [], ⟨#[], 0, h, ⟨by simp, stamped_empty 0, by simp⟩, by simp, rfl⟩, fun kl h => by simp [Maps.has] at h, fun l i _ _ => ⟨rfl, fun h => by simp at h⟩⟩
theorem LM.of_none {W : World} {M : Nat} {D : DataW Value} (h : W.ownsMap Try.prog 100 heldE M 24 D) (hn : ∀ kl, Maps.has D kl = false) : LM W M (fun _ => false) :=
  ⟨D, h, (fun kl hk => by rw [hn] at hk; cases hk), fun l i _ _ => ⟨hn _, fun h => (by cases h)⟩⟩
end Go.Proofs.Ytnodkgejggnehaa

namespace Go.Proofs.Ytnodkgejggnehaa
set_option linter.unusedSimpArgs false
set_option linter.unusedVariables false
open Go.RowKit Go.Shelf
open Go.WideMaps Go.MapKept
theorem LM.noCell {W : World} {M : Nat} {lk : Nat → Bool} (h : LM W M lk) (o : Nat) : W.cell? ⟨M, o, none⟩ = none := by
  obtain ⟨D, ⟨es, clock, hb, _⟩, _⟩ := h.ex
  simp [World.cell?, hb]
theorem Brd.keepX {W W' : World} {B : Nat} {sl sr : Int} {A : Option Addr} {n cap : Nat} {zs : List Rg} {A2 : Option Addr} {kn kc : Nat} {ks : List Int} {pt : Nat → Int} {op : Nat → Bool} {mp : Value} {Mut : Nat → Prop} (h : Brd W B sl sr A n cap zs A2 kn kc ks pt op mp) (hK : Keeps Mut W W') (hm : ∀ b, b < W.heap.size → Mut b → ∀ o, W.cell? ⟨b, o, none⟩ = none) : Brd W' B sl sr A n cap zs A2 kn kc ks pt op mp := by
  obtain ⟨X, hX, hs⟩ := h.row
  have hl := lt_of_block hX
  have nm : ∀ b o v, W.cell? ⟨b, o, none⟩ = some v → ¬ Mut b := fun b o v hv e => by
    have := hm b (lt_of_cell hv) e o
    rw [hv] at this; cases this
  have hB : ¬ Mut B := nm _ _ _ h.c0
  have k : ∀ o v, W.cell? ⟨B, o, none⟩ = some v → W'.cell? ⟨B, o, none⟩ = some v := fun o v hv => (keep_cells hK hl hB o).trans hv
  refine ⟨k _ _ h.c0, k _ _ h.c1, k _ _ h.c2, k _ _ h.c3, fun j hj => k _ _ (h.hp j hj), fun j hj => k _ _ (h.ho j hj), k _ _ h.cm, ⟨h.rs.1, fun hn => ?_⟩, ⟨h.is.1, fun hn => ?_⟩, ⟨X, (hK.block B hl hB).trans hX, hs⟩, h.da, h.dk⟩
  · obtain ⟨b, o, e, hc⟩ := h.rs.2 hn
    have h2 := lt_of_cell (hc 0 hn).1
    have hb := nm _ _ _ (hc 0 hn).1
    exact ⟨b, o, e, fun j hj => ⟨(keep_cells hK h2 hb _).trans (hc j hj).1, (keep_cells hK h2 hb _).trans (hc j hj).2⟩⟩
  · obtain ⟨b, o, e, hc⟩ := h.is.2 hn
    have h2 := lt_of_cell (hc 0 hn)
    have hb := nm _ _ _ (hc 0 hn)
    exact ⟨b, o, e, fun j hj => (keep_cells hK h2 hb _).trans (hc j hj)⟩
theorem Brd.ne_map {W : World} {B : Nat} {sl sr : Int} {A : Option Addr} {n cap : Nat} {zs : List Rg} {A2 : Option Addr} {kn kc : Nat} {ks : List Int} {pt : Nat → Int} {op : Nat → Bool} {mp : Value} {M : Nat} {lk : Nat → Bool} (h : Brd W B sl sr A n cap zs A2 kn kc ks pt op mp) (hm : LM W M lk) : B ≠ M := fun e => by
  have h1 := hm.noCell 0
  rw [← e, h.c0] at h1; cases h1
theorem Brd.keepM {W W' : World} {B : Nat} {sl sr : Int} {A : Option Addr} {n cap : Nat} {zs : List Rg} {A2 : Option Addr} {kn kc : Nat} {ks : List Int} {pt : Nat → Int} {op : Nat → Bool} {mp : Value} {M : Nat} {lk : Nat → Bool} (h : Brd W B sl sr A n cap zs A2 kn kc ks pt op mp) (hm : LM W M lk) (hK : Keeps (fun k => k = M) W W') : Brd W' B sl sr A n cap zs A2 kn kc ks pt op mp :=
  h.keepX hK (fun b _ e o => by subst e; exact hm.noCell o)
section
attribute [local go_sem ↓] exec_app at_app
attribute [local go_sem] Oper.semAt_some
set_option maxRecDepth 100000 in
set_option maxHeartbeats 16000000 in
theorem forget69 (B : Nat) (sl sr : Int) (A : Option Addr) (n cap : Nat) (zs : List Rg) (A2 : Option Addr) (kn kc : Nat) (ks : List Int) (pt : Nat → Int) (op : Nat → Bool) (M : Nat) (lk : Nat → Bool) (w : World) (h : Brd w B sl sr A n cap zs A2 kn kc ks pt op (.map (some M))) (hm : LM w M lk) :
    Calls Try.prog 69 #[.pointer (some ⟨B, 0, none⟩)] w fun e w' => e = .returned (.tuple #[]) ∧ LM w' M (fun _ => false) ∧ Keeps (fun j => j = M) w w' := by
  have HBo := Lib.hid h
  have HM := Lib.hid hm
  obtain ⟨D, ho, hkD, -⟩ := hm.ex
  have cm := h.cm
  obtain ⟨w0, hrun, hrg0, hg0, hs0⟩ := ho.range key100 Try.underlying85
  have Hrg0 := Lib.hid hrg0
  have HkD := Lib.hid hkD
  have hk0 : Keeps (fun j => j = M) w w0 := Keeps.of_grown hg0 (fun r e => by cases e)
  have Hk0 := Lib.hid hk0
  obtain ⟨R, hR⟩ : ∃ R, w.heap.size = R := ⟨_, rfl⟩
  rw [hR] at hrun
  have HR := Lib.hid hR
  clear h hm ho hrg0 hg0 hs0 hk0 hkD hR
  go_enter Try.func69, Try.ntmps69
  go_wp2_with fail
  clear hrun cm
  go_loopw [2] (fun x wr => Hid (∃ (D : DataW Value) (left : Lit → Bool) (cnt : Nat), wr.ranges Try.prog 100 heldE M w.heap.size 24 D left cnt ∧ SdKeys D ∧ (∀ kl, Maps.has D kl = left kl) ∧ Keeps (fun j => j = M) w wr)) (fun x wr => wr.rangeLeft M w.heap.size)
  case atStart => exact Lib.hid ⟨D, _, _, Hrg0.out, HkD.out, fun _ => rfl, Hk0.out⟩
  case round =>
    obtain ⟨D1, left, cnt, hrg, hkD, hhl, hkw⟩ := hrel.out
    obtain ⟨wk, rfl⟩ : ∃ wk, wk = wr := ⟨_, rfl⟩
    rcases hrg.next key100 0 with ⟨h0, hl, hrun⟩ | ⟨key, v, kl, y, w1, cnt1, hkey, hlk, hv, hat, hrun, hrg1, hlt, hg1, hs1, hen⟩
    · have hlm := Lib.hid (LM.of_none hrg.owns (fun kl => by rw [hhl]; exact hl kl))
      have Hkw := Lib.hid hkw
      rw [HR.out] at hrun
      clear hrg hhl hl hkD hkw hrel h0 Hrg0 HkD Hk0
      go_wp2_with fail
      (try simp only [Exit.inBlock, Exit.then])
      refine bodyPost_end (results_none rfl _ _ _) rfl ?_
      exact ⟨rfl, hlm.out, Hkw.out⟩
    · obtain ⟨l, i, hl2, hi12, rfl⟩ := hkD kl (by rw [hhl]; exact hlk)
      obtain rfl : key = sdV l i := key100.inj hkey (key_sd hl2 hi12)
      unfold sdV at hen hrun hkey
      have hgV := World.grownBy_alloc w1 (.cells #[.int .i64 (l : Int), .int .i64 (i : Int)] 100) none
      have hrV := heap_alloc_new_ w1 (.cells #[.int .i64 (l : Int), .int .i64 (i : Int)] 100)
      have hrgV := hrg1.alloc (.cells #[.int .i64 (l : Int), .int .i64 (i : Int)] 100)
      have hk1 : Keeps (fun j => j = M ∨ w.heap.size ≤ j) w w1 := (hkw.mono (fun j _ e => .inl e)).trans (Keeps.of_grown hg1 (fun r e => by cases e; exact .inr (Nat.le_refl _)))
      have hM1 := hrg1.owns.lt
      have hMw := HM.out.lt
      have hR1 := hrg1.lt
      obtain ⟨V, hV⟩ : ∃ V, w1.alloc (.cells #[.int .i64 (l : Int), .int .i64 (i : Int)] 100) = V := ⟨_, rfl⟩
      have hkV : Keeps (fun _ => False) w1 V := by rw [← hV]; exact keep_alloc _ _ _
      rw [hV] at hrgV hrV
      obtain ⟨P, hP⟩ : ∃ P, w1.heap.size = P := ⟨_, rfl⟩
      rw [hP] at hrV
      obtain ⟨w3, cnt3, hdel, hrg3, hle3, hturn⟩ := (show V.drew.ranges Try.prog 100 heldE M w.heap.size 24 D1 (fun x => left x && !x.sameKey (kSd l i)) cnt1 from (by unfold World.ranges at hrgV ⊢; exact hrgV)).drop key100 Try.underlying85 hkey 0
      have p0 : V.cell? ⟨P, 0, none⟩ = some (.int .i64 (l : Int)) := by rw [cell_row hrV]; rfl
      have p1 : V.cell? ⟨P, 1, none⟩ = some (.int .i64 (i : Int)) := by rw [cell_row hrV]; rfl
      have hbw := HBo.out.keepX hk1 (fun b hb e o => by
        rcases e with rfl | e
        · exact HM.out.noCell o
        · omega)
      have xm := (hbw.keep hkV (fun e => e) (fun _ _ e => e) (fun _ _ e => e)).cm
      have hk3 : Keeps (fun j => j = M) V w3 := (Keeps.of_new (drew_b V 1)).trans (Keeps.of_grown hturn.grown (fun r e => by cases e; rfl))
      have Hk3 := Lib.hid (keeps_old3 (keeps_old3 hkw ((Keeps.of_grown (Mut := fun j => j = w.heap.size) hg1 (fun r e => by cases e; rfl)).mono (fun j _ e => .inl (by omega)))) ((hkV.none.trans hk3).mono (fun j _ e => .inr e)))
      have Hrg3 := Lib.hid hrg3
      have Hdel := Lib.hid hdel
      have hPM : P ≠ M := by omega
      have hBM : B ≠ M := HBo.out.ne_map HM.out
      have HT := Lib.hid (show Keeps (fun j => j = M) V w3 ∧ (w3.cell? ⟨P, 0, none⟩ = some (.int .i64 (l : Int)) ∧ w3.cell? ⟨P, 1, none⟩ = some (.int .i64 (i : Int)) ∧ w3.cell? ⟨B, 68, none⟩ = some (.map (some M))) from ⟨hk3, (keep_cells hk3 (lt_of_cell p0) hPM _).trans p0, (keep_cells hk3 (lt_of_cell p1) hPM _).trans p1, (keep_cells hk3 (lt_of_cell xm) hBM _).trans xm⟩)
      have HV := Lib.hid hV
      have HP := Lib.hid hP
      have HkD3 := Lib.hid (show SdKeys (D1.del (kSd l i)) from fun z hz => by
        by_cases e : z = kSd l i
        · rw [e, Maps.has_del_same] at hz; cases hz
        · rw [Maps.has_del_other e] at hz; exact hkD z hz)
      have Hhl3 := Lib.hid (show ∀ z, Maps.has (D1.del (kSd l i)) z = ((left z && !z.sameKey (kSd l i)) && !z.sameKey (kSd l i)) from fun z => by
        by_cases e : z = kSd l i
        · rw [e, Maps.has_del_same, WideAt.sameKey_self (key100.key hkey)]; simp
        · rw [Maps.has_del_other e, hhl, Maps.sameKey_ne e]; simp)
      have Hm := Lib.hid (show w3.rangeLeft M w.heap.size < wk.rangeLeft M w.heap.size by rw [hrg3.left_eq, hrg.left_eq]; omega)
      have Hen := Lib.hid hen
      have HR1 := Lib.hid HR.out
      have hw1R : w.heap.size = R := HR.out
      rw [hw1R] at hrun hen
      clear hrg hhl hlk hat hv hrg1 hlt hg1 hs1 hgV hrgV hk1 hM1 hMw hR1 hkV hrg3 hle3 hturn hbw hk3 hdel hkey hkD hkw hrel Hrg0 HkD Hk0 hrV hV hP hw1R
      go_upto_region 3 with fail
      try rw [HV.out]
      try rw [HP.out]
      refine wp_region_held_drew (S := fun w2 => Keeps (fun j => j = M) V w2 ∧ (w2.cell? ⟨P, 0, none⟩ = some (.int .i64 (l : Int)) ∧ w2.cell? ⟨P, 1, none⟩ = some (.int .i64 (i : Int)) ∧ w2.cell? ⟨B, 68, none⟩ = some (.map (some M)))) (by kernel_rfl) ⟨Keeps.of_new (drew_b _ _), p0, p1, xm⟩ (fun hS0 => ?_)
      refine wpAnyH_take (i := 0) (oi := { dst := some 12, op := Go.Op.move (Go.Operand.tmp 0), type := 61, pos := "board.go:205", after := #[], guard := none }) (v := .pointer (some ⟨B, 0, none⟩)) rfl (by kernel_rfl) (by kernel_rfl) (by kernel_rfl) (fun _ _ _ h => h) (Or.inl ⟨by rfl, by intro w2 hSw; (try dsimp only at hSw); go_simp⟩) hS0 ?_
      try simp only [Act.put, List.setIfInBounds_toArray, List.set_cons_zero, List.set_cons_succ]
      refine wpAnyH_take (i := 1) (oi := { dst := some 13, op := Go.Op.nilCheck (Go.Operand.tmp 12), type := 0, pos := "board.go:205", after := #[{ on := 0, ground := Go.Ground.data }], guard := none }) (v := .pointer (some ⟨B, 0, none⟩)) rfl (by kernel_rfl) (by kernel_rfl) (by kernel_rfl) (fun _ _ _ h => h) (Or.inl ⟨by rfl, by intro w2 hSw; (try dsimp only at hSw); go_simp⟩) hS0 ?_
      try simp only [Act.put, List.setIfInBounds_toArray, List.set_cons_zero, List.set_cons_succ]
      refine wpAnyH_take (i := 2) (oi := { dst := some 14, op := Go.Op.fieldAddr 91 (Go.Operand.tmp 13) 3, type := 0, pos := "board.go:205", after := #[{ on := 1, ground := Go.Ground.data }], guard := none }) (v := .pointer (some ⟨B, 68, none⟩)) rfl (by kernel_rfl) (by kernel_rfl) (by kernel_rfl) (fun _ _ _ h => h) (Or.inl ⟨by rfl, by intro w2 hSw; (try dsimp only at hSw); go_simp⟩) hS0 ?_
      try simp only [Act.put, List.setIfInBounds_toArray, List.set_cons_zero, List.set_cons_succ]
      refine wpAnyH_take (i := 3) (oi := { dst := some 15, op := Go.Op.load 85 (Go.Operand.tmp 14), type := 85, pos := "board.go:205", after := #[{ on := 2, ground := Go.Ground.data }], guard := none }) (v := .map (some M)) rfl (by kernel_rfl) (by kernel_rfl) (by kernel_rfl) (fun _ _ _ h => h) (Or.inl ⟨by rfl, by intro w2 hSw; (try dsimp only at hSw); have z0 := hSw.2.2.2; go_simp⟩) hS0 ?_
      try simp only [Act.put, List.setIfInBounds_toArray, List.set_cons_zero, List.set_cons_succ]
      refine wpAnyH_take (i := 4) (oi := { dst := some 16, op := Go.Op.load 100 (Go.Operand.tmp 2), type := 100, pos := "board.go:205", after := #[], guard := none }) (v := .agg #[.int .i64 (l : Int), .int .i64 (i : Int)]) rfl (by kernel_rfl) (by kernel_rfl) (by kernel_rfl) (fun _ _ _ h => h) (Or.inl ⟨by rfl, by intro w2 hSw; (try dsimp only at hSw); have z0 := hSw.2.1; have z1 := hSw.2.2.1; go_simp⟩) hS0 ?_
      try simp only [Act.put, List.setIfInBounds_toArray, List.set_cons_zero, List.set_cons_succ]
      refine wpAnyH_ready (rs := [5]) (by kernel_rfl) (by simp) ?_
      refine AllReadyH.cons (o := { dst := none, op := Go.Op.call { callee := Go.Callee.builtin Go.Builtin.delete, args := #[Go.Operand.tmp 15, Go.Operand.tmp 16], argTypes := #[85, 100] }, type := 0, pos := "board.go:205", after := #[{ on := 3, ground := Go.Ground.data }, { on := 4, ground := Go.Ground.data }], guard := none }) rfl (fun K hK => ?_) AllReadyH.nil
      have hdelX := Hdel.out
      go_simp
      refine hK.out _ _ HT.out (fun hS1 => ?_)
      clear hK hdelX
      try simp only [Act.put, List.setIfInBounds_toArray, List.set_cons_zero, List.set_cons_succ]
      refine wpAnyH_done (by kernel_rfl) ?_ _
      clear hS0 hS1 p0 p1 xm hPM hBM
      go_wp2_with fail
      go_roundw
      case rel => exact Lib.hid ⟨_, _, _, Hrg3.out, HkD3.out, Hhl3.out, Hk3.out⟩
      case measure => exact Hm.out
end
end Go.Proofs.Ytnodkgejggnehaa
