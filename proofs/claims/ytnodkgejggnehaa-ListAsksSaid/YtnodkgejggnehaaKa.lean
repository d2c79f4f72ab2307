/- Stage 5: the kinds of the links of a sheet. -/
import Derived.Test.YtnodkgejggnehaaKs
import Derived.Test.YtnodkgejggnehaaRge
import Derived.Test.YtnodkgejggnehaaSc
import Derived.LoopIn
namespace Go.Proofs.Ytnodkgejggnehaa
set_option linter.unusedSimpArgs false
set_option linter.unusedVariables false
open Go.RowKit Go.Shelf
attribute [local go_sem ↓] exec_app at_app
attribute [local go_sem] Oper.semAt_some
/-- How many links are left after a question. -/
def restS (n : Nat) (zs : List Rg) (op : Nat → Bool) (J : List Nat) (k : Nat) : Nat := max (mayK n zs (opW n zs op k) (k :: J) n) (mayK n zs (opX op [(k : Int)]) (lessJ J [(k : Int)]) n)
/-- A question as it is yielded. -/
def qE (n : Nat) (zs : List Rg) (op : Nat → Bool) (J : List Nat) (k : Nat) : Array Value := #[.agg #[.int .i64 (k : Int), .int .i64 (restS n zs op J k : Int)]]
/-- Whether a link is open to a question. -/
def qSel (n : Nat) (zs : List Rg) (op : Nat → Bool) (J : List Nat) (k : Nat) (W : World) (q : Bool) : Prop := q = (kindS n zs op J k == 1)
theorem kind_open {n : Nat} {zs : List Rg} {op : Nat → Bool} {J : List Nat} {k : Nat} (h : kindS n zs op J k = 1) : op k = true := by
  unfold kindS at h
  split at h
  · cases h
  · split at h
    · cases h
    · rename_i h2; simpa using h2
theorem keeps_old {O Mut E : Nat → Prop} {W wr W3 : World} (hO : ∀ k, O k → W.heap.size ≤ k) (h1 : Keeps (fun j => Mut j ∨ E j) W wr) (h2 : Keeps (fun k => (Mut k ∨ O k) ∨ E k) wr W3) : Keeps (fun j => Mut j ∨ E j) W W3 :=
  keeps_old2 hO h1 (h2.mono (fun k _ e => e.elim (fun e => e.elim (fun e => .inl (.inl e)) .inr) (fun e => .inl (.inr e))))
set_option maxRecDepth 100000 in
set_option maxHeartbeats 16000000 in
theorem quest80 (B : Nat) (sl sr : Int) (A : Option Addr) (n cap : Nat) (zs : List Rg) (A2 : Option Addr) (kn kc : Nat) (ks : List Int) (pt : Nat → Int) (op : Nat → Bool) (M : Nat) (lk : Nat → Bool) (J : List Nat) (c : Nat) (w0 : World) (h : Brd w0 B sl sr A n cap zs A2 kn kc ks pt op (.map (some M))) (hm : LM w0 M lk) (hgb : GB n zs op pt J) (hn : n ≤ 40) (hz : ZOk n zs) (hc : sl = (c : Int)) (hc12 : c ≤ 12) (he : ∀ k, k < n → eN zs 0 k < c) (w : World) (hbl : Below w0.heap.size w0 w) (b1 : Nat) (hb1 : w.cell? ⟨b1, 0, none⟩ = some (.pointer (some ⟨B, 0, none⟩))) (hb1n : w0.heap.size ≤ b1) :
    SeqE Try.prog 80 #[.pointer (some ⟨b1, 0, none⟩)] (qE n zs op J) (fun j => j = M) n (qSel n zs op J) (fun j => j < w0.heap.size ∨ j = b1) w := by
  intro lp Mut Jj Jx W hW hMut hJ hJx hY h0
  have hMw := hm.lt
  have hblW : Below w0.heap.size w0 W := hbl.trans (hW.new.mono hbl.size)
  have q1 := (keep_cells hW (lt_of_cell hb1) (fun e => e) _).trans hb1
  have hkM : Keeps (fun j => j = M) w0 W := Keeps.of_new hblW
  have k53 := kinds53 B sl sr A n cap zs A2 kn kc ks pt op M lk J c W (h.below hblW (Nat.le_refl _)) (hm.below hblW) hgb hn hz hc hc12 he
  have Hbo := Lib.hid h
  have Hlm := Lib.hid hm
  have Hgb := Lib.hid hgb
  have Hz := Lib.hid hz
  have Hc := Lib.hid hc
  have He := Lib.hid he
  have HMut := Lib.hid hMut
  have HJa := Lib.hid hJ
  have HY := Lib.hid hY
  have H0 := Lib.hid h0
  have HW0 := Lib.hid hblW
  have K53 := Lib.hid k53
  have Hq1 := Lib.hid q1
  have hb1W := lt_of_cell q1
  have hw0W := hblW.size
  clear h hm hgb hz hc he hMut hJ hJx hY h0 hblW hbl hW hb1 k53 hkM
  refine (callsIn_wide (n := 3)).1 ?_
  refine callsIn_of_wp Try.func80 rfl trivial ?_ rfl
  simp only [Try.ntmps80, List.size_toArray, List.length_cons, List.length_nil, Nat.reduceAdd, Nat.reduceSub, Array.replicate_succ, Array.replicate_zero, List.push_toArray, List.append_toArray, List.nil_append, List.cons_append]
  gi_wp2_with fail
  refine ⟨trivial, (callsIn_wide.2 K53.out).mono ?_⟩
  rintro en W1 ⟨lk1, C9, cp, rfl, hcp, hI, hC9, hm1, hk1⟩
  have HI := Lib.hid hI
  have HC9 := Lib.hid hC9
  have Hm1 := Lib.hid hm1
  have Hk1 := Lib.hid hk1
  clear K53 q1 hI hC9 hm1 hk1
  gi_wp2_with fail
  gi_loopw [3, 4, 5, 6, 10] (fun x3 x4 x5 x6 a wr => ∃ k : Nat, k ≤ n ∧ a = .int .i64 (k : Int) ∧ Hid (∃ O : Nat → Prop, (∀ k, O k → W.heap.size ≤ k ∧ k < wr.heap.size) ∧ (∀ b o, C9 = some ⟨b, o, none⟩ → ¬ O b) ∧ Jj k O wr ∧ (∃ lk', LM wr M lk') ∧ Ints wr C9 n (kindsK n zs op J n) ∧ Keeps (fun j => Mut j ∨ j = M) W wr)) (fun x3 x4 x5 x6 a _ => n - (intOf a).toNat)
  case atStart => exact ⟨0, Nat.zero_le _, rfl, Lib.hid ⟨fun _ => False, fun _ e => e.elim, fun _ _ _ e => e, HJa.out _ _ _ _ H0.out (Hk1.out.mono (fun _ _ e => .inr e)), ⟨lk1, Hm1.out⟩, HI.out, Hk1.out.mono (fun _ _ e => .inr e)⟩⟩
  case round =>
    obtain ⟨k, hk, rfl, HV⟩ := hrel
    obtain ⟨wk, rfl⟩ : ∃ wk, wk = wr := ⟨_, rfl⟩
    by_cases hlt : k < n
    · obtain ⟨O, hO, hOC, hj, ⟨lk2, hm2⟩, hI2, hK2⟩ := HV.out
      obtain ⟨q, hq, hqf, hqt⟩ := HY.out k wk O hlt hK2.size hO hj
      have hb2 := Hbo.out.keepX (W' := wk) (Mut := fun j => w0.heap.size ≤ j ∨ j = M) (((Keeps.of_new HW0.out).mono (fun _ _ e => (e : False).elim)).trans (hK2.mono (fun j hj e => by
        rcases e with e | e
        · exact .inl (Nat.le_of_not_lt (fun e2 => (HMut.out j e).2 (.inl e2)))
        · exact .inr e))) (fun b hb e o => by
        rcases e with e | e
        · omega
        · subst e; exact Hlm.out.noCell o)
      have q1 := (keep_cells hK2 hb1W (fun e => by
        rcases e with e | e
        · exact (HMut.out _ e).2 (.inr rfl)
        · omega) _).trans Hq1.out
      obtain ⟨b9, o9, rfl, hc9⟩ := hI2.2 (by omega)
      have z0 := hc9 k hlt
      rw [kindsK_at hlt] at z0
      have hb9 : W.heap.size ≤ b9 := HC9.out _ rfl
      have hk9 : b9 < wk.heap.size := by have := lt_of_cell z0; exact this
      obtain ⟨g, hg⟩ : ∃ g, kindS n zs op J k = g := ⟨_, rfl⟩
      have hqs : q = (g == 1) := by rw [← hg]; exact hq
      rw [hg] at z0
      have i0 : (0 : Int) ≤ (k : Int) := by omega
      have i1 : (k : Int) < (n : Int) := by omega
      have HO := Lib.hid hO
      have HOC := Lib.hid hOC
      have HJ := Lib.hid hj
      have Hm2 := Lib.hid hm2
      have HI2 := Lib.hid hI2
      have HK2 := Lib.hid hK2
      have Hb2 := Lib.hid hb2
      have HQf := Lib.hid hqf
      have HQt := Lib.hid hqt
      have Hg := Lib.hid hg
      clear hO hOC hj hm2 hI2 hK2 hb2 hqf hqt hg hc9 hq HV
      by_cases h1 : g = 1
      · subst h1
        have hqs1 : q = true := by rw [hqs]; rfl
        have hop := kind_open Hg.out
        have K81 := Lib.hid (fun X (hX : Keeps (fun j => j = M) wk X) (lkx : Nat → Bool) (hmX : LM X M lkx) => with81 B sl sr A n cap zs A2 kn kc ks pt op M lkx J k X (Hb2.out.keepM Hm2.out hX) hmX Hgb.out hn Hz.out hlt hop)
        gi_wp2_with fail
        rename_i Q1 K1 hK1
        have HK1 := Lib.hid hK1
        clear hK1
        have REST : ∀ (C1 C2 E : Nat) (pt1 pt2 : Nat → Int) (lkV : Nat → Bool) (V : World), Brd V C1 sl sr A n cap zs A2 kn kc ks pt1 (opW n zs op k) (.map (some M)) → GB n zs (opW n zs op k) pt1 (k :: J) → Brd V C2 sl sr A n cap zs A2 kn kc ks pt2 (opX op [(k : Int)]) (.map (some M)) → GB n zs (opX op [(k : Int)]) pt2 (lessJ J [(k : Int)]) → LM V M lkV → Keeps (fun j => j = M) wk V → K1 { tmps := #[.func (.yield lp) #[] #[], .pointer (some ⟨b1, 0, none⟩), undef, .int .i64 (k : Int), .int .i64 1, .pointer (some ⟨C1, 0, none⟩), .pointer (some ⟨C2, 0, none⟩), .pointer (some ⟨B, 0, none⟩), .slice (some ⟨b9, o9, none⟩) n cp, .int .i64 (n : Int), .int .i64 (k : Int), .bool true, .int .i64 (k : Int), .pointer (some ⟨b9, o9 + k, none⟩), .int .i64 1, .int .i64 1, .bool false, .pointer (some ⟨B, 0, none⟩), .int .i64 (k : Int), .pointer (some ⟨C1, 0, none⟩), .pointer (some ⟨B, 0, none⟩), .int .i64 (k : Int), .slice (some ⟨E, 0, none⟩) 1 1, .pointer (some ⟨C2, 0, none⟩), u24, u25, u26, u27, u28, u29, u30, u31, u32, u33, u34], defers := [] } V := by
          intro C1 C2 E pt1 pt2 lkV V hb1' hg1 hb2' hg2 hmV hkV
          refine HK1.out _ _ ?_
          dsimp only
          have HB1 := Lib.hid hb1'
          have HB2 := Lib.hid hb2'
          have HG1 := Lib.hid hg1
          have HG2 := Lib.hid hg2
          have HMV := Lib.hid hmV
          have HKV := Lib.hid hkV
          clear hb1' hb2' hg1 hg2 hmV hkV HK1 K81
          gi_wp2_with fail
          rename_i K3 hK3
          have HK3 := Lib.hid hK3
          clear hK3
          refine ⟨trivial, (callsIn_wide.2 (unsure82 C1 sl sr A n cap zs A2 kn kc ks pt1 (opW n zs op k) M lkV (k :: J) c V HB1.out HMV.out HG1.out hn Hz.out Hc.out hc12 He.out)).mono ?_⟩
          rintro e V2 ⟨lk3, rfl, hm3, hk3⟩
          refine HK3.out _ _ ?_
          clear HK3
          have HB3 := Lib.hid (HB2.out.keepM HMV.out hk3)
          have HM3 := Lib.hid hm3
          have HKV3 := Lib.hid (HKV.out.trans hk3)
          clear hm3 hk3 HB2 HB1 HG1 HMV HKV
          obtain ⟨m1, hm1⟩ : ∃ m1, mayK n zs (opW n zs op k) (k :: J) n = m1 := ⟨_, rfl⟩
          rw [hm1]
          have Hm1e := Lib.hid hm1
          clear hm1
          gi_wp2_with fail
          rename_i K3 hK3
          have HK3 := Lib.hid hK3
          clear hK3
          refine ⟨trivial, (callsIn_wide.2 (unsure82 C2 sl sr A n cap zs A2 kn kc ks pt2 (opX op [(k : Int)]) M lk3 (lessJ J [(k : Int)]) c V2 HB3.out HM3.out HG2.out hn Hz.out Hc.out hc12 He.out)).mono ?_⟩
          rintro e V3 ⟨lk4, rfl, hm4, hk4⟩
          refine HK3.out _ _ ?_
          clear HK3
          have HM4 := Lib.hid hm4
          have HKV4 := Lib.hid (HKV3.out.trans hk4)
          clear hm4 hk4 HB3 HG2 HM3 HKV3
          obtain ⟨m2, hm2e⟩ : ∃ m2, mayK n zs (opX op [(k : Int)]) (lessJ J [(k : Int)]) n = m2 := ⟨_, rfl⟩
          rw [hm2e]
          have Hm2e := Lib.hid hm2e
          clear hm2e
          obtain ⟨mx, hmx2⟩ : ∃ mx, max m1 m2 = mx := ⟨_, rfl⟩
          have Hre := Lib.hid (show restS n zs op J k = mx by unfold restS; rw [Hm1e.out, Hm2e.out, hmx2])
          have Hmx := Lib.hid hmx2
          clear hmx2 Hm1e Hm2e
          have Key := Lib.hid (HQt.out hqs1 V3 HKV4.out)
          clear HQt HQf hop hqs1
          gi_wp2_with fail
          · rename_i K3 hK3
            have HK3 := Lib.hid hK3
            clear hK3
            have hm5 := Hmx.out
            obtain rfl : m2 = mx := by omega
            clear hm5 Hmx
            obtain ⟨fn2, tmps2, assign2, body2, hy, hR2⟩ := Key.out (3 - 1)
            clear Key
            unfold qE at hy
            rw [Hre.out] at hy
            rw [hy]
            gi_wp2_with fail
            refine hR2.mono ?_
            rintro e W4 (⟨rfl, O4, hg4, hj4, hK4⟩ | ⟨rfl, O4, hg4, hj4, hK4⟩)
            · have hS4 : Keeps (fun j => (Mut j ∨ O j) ∨ j = M) wk W4 := (HKV4.out.mono (fun _ _ e => .inr e)).trans (hK4.mono (fun _ _ e => .inl e))
              have HO4 := Lib.hid (show ∀ j, O4 j → W.heap.size ≤ j ∧ j < W4.heap.size from fun j h => (hg4.2 j h).elim (fun h => by have := HO.out j h; have := hS4.size; omega) (fun h => by have := HK2.out.size; have := HKV4.out.size; omega))
              have HJ4 := Lib.hid hj4
              have HS4 := Lib.hid hS4
              have HOC4 := Lib.hid (show ∀ b o, some (⟨b9, o9, none⟩ : Addr) = some ⟨b, o, none⟩ → ¬ O4 b from fun b o e h => by
                cases e
                rcases hg4.2 _ h with h | h
                · exact HOC.out _ _ rfl h
                · have := hk9; have := HKV4.out.size; omega)
              have HM9 := Lib.hid (show ∃ lk', LM W4 M lk' from ⟨lk4, HM4.out.keep hK4 (fun e => by
                rcases e with e | e
                · exact (HMut.out _ e).2 (.inl hMw)
                · have := (HO.out _ e).1; omega)⟩)
              have HIO := Lib.hid (show ∀ a, some (⟨b9, o9, none⟩ : Addr) = some a → ¬ ((Mut a.block ∨ O a.block) ∨ a.block = M) from fun a e h => by
                cases e
                rcases h with (h | h) | h
                · have := (HMut.out _ h).1; simp only at this; omega
                · exact HOC.out _ _ rfl h
                · simp only at h; omega)
              clear hj4 hg4 hK4 hy hR2 hS4
              refine HK3.out _ _ ?_
              clear HK3
              gi_wp2_with fail
              go_roundw
              case rel => exact ⟨k + 1, by omega, by go_num, Lib.hid ⟨O4, HO4.out, HOC4.out, HJ4.out, HM9.out, HI2.out.keep HS4.out HIO.out, keeps_old (fun j e => (HO.out j e).1) HK2.out HS4.out⟩⟩
              case measure => simp [intOf]; omega
            · have hS4 : Keeps (fun j => (Mut j ∨ O j) ∨ j = M) wk W4 := (HKV4.out.mono (fun _ _ e => .inr e)).trans (hK4.mono (fun _ _ e => .inl e))
              have HO4 := Lib.hid (show ∀ j, O4 j → W.heap.size ≤ j ∧ j < W4.heap.size from fun j h => (hg4.2 j h).elim (fun h => by have := HO.out j h; have := hS4.size; omega) (fun h => by have := HK2.out.size; have := HKV4.out.size; omega))
              have HJ4 := Lib.hid hj4
              clear hj4 hg4 hK4 hy hR2 hS4
              refine HK3.out _ _ ?_
              clear HK3
              gi_wp2_with fail
              exact bodyPost_ret (results_none rfl _ _ _) rfl ⟨⟨_, rfl⟩, O4, HO4.out, .inr ⟨k, hlt, HJ4.out⟩⟩
          · rename_i K3 hK3
            have HK3 := Lib.hid hK3
            clear hK3
            have hm5 := Hmx.out
            obtain rfl : m1 = mx := by omega
            clear hm5 Hmx
            obtain ⟨fn2, tmps2, assign2, body2, hy, hR2⟩ := Key.out (3 - 1)
            clear Key
            unfold qE at hy
            rw [Hre.out] at hy
            rw [hy]
            gi_wp2_with fail
            refine hR2.mono ?_
            rintro e W4 (⟨rfl, O4, hg4, hj4, hK4⟩ | ⟨rfl, O4, hg4, hj4, hK4⟩)
            · have hS4 : Keeps (fun j => (Mut j ∨ O j) ∨ j = M) wk W4 := (HKV4.out.mono (fun _ _ e => .inr e)).trans (hK4.mono (fun _ _ e => .inl e))
              have HO4 := Lib.hid (show ∀ j, O4 j → W.heap.size ≤ j ∧ j < W4.heap.size from fun j h => (hg4.2 j h).elim (fun h => by have := HO.out j h; have := hS4.size; omega) (fun h => by have := HK2.out.size; have := HKV4.out.size; omega))
              have HJ4 := Lib.hid hj4
              have HS4 := Lib.hid hS4
              have HOC4 := Lib.hid (show ∀ b o, some (⟨b9, o9, none⟩ : Addr) = some ⟨b, o, none⟩ → ¬ O4 b from fun b o e h => by
                cases e
                rcases hg4.2 _ h with h | h
                · exact HOC.out _ _ rfl h
                · have := hk9; have := HKV4.out.size; omega)
              have HM9 := Lib.hid (show ∃ lk', LM W4 M lk' from ⟨lk4, HM4.out.keep hK4 (fun e => by
                rcases e with e | e
                · exact (HMut.out _ e).2 (.inl hMw)
                · have := (HO.out _ e).1; omega)⟩)
              have HIO := Lib.hid (show ∀ a, some (⟨b9, o9, none⟩ : Addr) = some a → ¬ ((Mut a.block ∨ O a.block) ∨ a.block = M) from fun a e h => by
                cases e
                rcases h with (h | h) | h
                · have := (HMut.out _ h).1; simp only at this; omega
                · exact HOC.out _ _ rfl h
                · simp only at h; omega)
              clear hj4 hg4 hK4 hy hR2 hS4
              refine HK3.out _ _ ?_
              clear HK3
              gi_wp2_with fail
              go_roundw
              case rel => exact ⟨k + 1, by omega, by go_num, Lib.hid ⟨O4, HO4.out, HOC4.out, HJ4.out, HM9.out, HI2.out.keep HS4.out HIO.out, keeps_old (fun j e => (HO.out j e).1) HK2.out HS4.out⟩⟩
              case measure => simp [intOf]; omega
            · have hS4 : Keeps (fun j => (Mut j ∨ O j) ∨ j = M) wk W4 := (HKV4.out.mono (fun _ _ e => .inr e)).trans (hK4.mono (fun _ _ e => .inl e))
              have HO4 := Lib.hid (show ∀ j, O4 j → W.heap.size ≤ j ∧ j < W4.heap.size from fun j h => (hg4.2 j h).elim (fun h => by have := HO.out j h; have := hS4.size; omega) (fun h => by have := HK2.out.size; have := HKV4.out.size; omega))
              have HJ4 := Lib.hid hj4
              clear hj4 hg4 hK4 hy hR2 hS4
              refine HK3.out _ _ ?_
              clear HK3
              gi_wp2_with fail
              exact bodyPost_ret (results_none rfl _ _ _) rfl ⟨⟨_, rfl⟩, O4, HO4.out, .inr ⟨k, hlt, HJ4.out⟩⟩
        have Hrest := Lib.hid REST
        clear REST
        refine Code.wpIn_mono (Q := Exit.then K1 (fun _ _ _ => False)) (fun e a w h => by
          cases e with
          | normal => exact h
          | ret => exact h.elim
          | exit id => exact h.elim
          | goto l => exact h.elim
          | panic c => exact h.elim
          | outgrown => exact h.elim) ?_
        have hS0 : Keeps (fun j => j = M) wk wk.drew := Keeps.of_new (drew_b _ _)
        refine Out.region_R (z := 100) (S := fun W' => Keeps (fun j => j = M) wk W') (by kernel_rfl) ?_
        refine Out.anyR_take (i := 0) (oi := { dst := some 17, op := Go.Op.load 61 (Go.Operand.tmp 1), type := 61, pos := "kind.go:65", after := #[], guard := none }) (v := .pointer (some ⟨B, 0, none⟩)) rfl (by decide) (by kernel_rfl) (by kernel_rfl) (by kernel_rfl) (by kernel_rfl) (fun _ _ _ h => h) (Or.inl ⟨by rfl, by intro W' hSw; (try dsimp only at hSw); have y0 := (keep_cells hSw (lt_of_cell q1) (fun e => by omega) _).trans q1; go_simp⟩) hS0 ?_
        try simp only [Act.put, List.setIfInBounds_toArray, List.set_cons_zero, List.set_cons_succ]
        refine Out.anyR_take (i := 1) (oi := { dst := some 18, op := Go.Op.move (Go.Operand.tmp 3), type := 3, pos := "kind.go:65", after := #[], guard := none }) (v := .int .i64 (k : Int)) rfl (by decide) (by kernel_rfl) (by kernel_rfl) (by kernel_rfl) (by kernel_rfl) (fun _ _ _ h => h) (Or.inl ⟨by rfl, by intro W' hSw; (try dsimp only at hSw); go_simp⟩) hS0 ?_
        try simp only [Act.put, List.setIfInBounds_toArray, List.set_cons_zero, List.set_cons_succ]
        refine Out.anyR_take (i := 3) (oi := { dst := some 20, op := Go.Op.load 61 (Go.Operand.tmp 1), type := 61, pos := "kind.go:65", after := #[], guard := none }) (v := .pointer (some ⟨B, 0, none⟩)) rfl (by decide) (by kernel_rfl) (by kernel_rfl) (by kernel_rfl) (by kernel_rfl) (fun _ _ _ h => h) (Or.inl ⟨by rfl, by intro W' hSw; (try dsimp only at hSw); have y0 := (keep_cells hSw (lt_of_cell q1) (fun e => by omega) _).trans q1; go_simp⟩) hS0 ?_
        try simp only [Act.put, List.setIfInBounds_toArray, List.set_cons_zero, List.set_cons_succ]
        refine Out.anyR_take (i := 4) (oi := { dst := some 21, op := Go.Op.move (Go.Operand.tmp 3), type := 3, pos := "kind.go:65", after := #[], guard := none }) (v := .int .i64 (k : Int)) rfl (by decide) (by kernel_rfl) (by kernel_rfl) (by kernel_rfl) (by kernel_rfl) (fun _ _ _ h => h) (Or.inl ⟨by rfl, by intro W' hSw; (try dsimp only at hSw); go_simp⟩) hS0 ?_
        try simp only [Act.put, List.setIfInBounds_toArray, List.set_cons_zero, List.set_cons_succ]
        obtain ⟨X, hX⟩ : ∃ X, wk.drew = X := ⟨_, rfl⟩
        rw [hX] at hS0 ⊢
        have hmX : LM X M lk2 := Hm2.out.keep (Mut := fun _ => False) (show Keeps (fun _ => False) wk X by rw [← hX]; exact Keeps.of_new (drew_b wk 1)) (fun e => e)
        clear hX
        refine Out.anyR_two (i := 2) (j := 5) (by kernel_rfl) rfl rfl (by rfl) (by rfl) ?callFirst ?allocFirst
        case callFirst =>
          intro K hK
          have HKK := Lib.hid hK
          clear hK
          gi_wp2_with fail
          refine ⟨trivial, (callsIn_wide.2 (K81.out X hS0 _ hmX)).mono ?_⟩
          rintro e V1 ⟨C1, pt1, lk1, rfl, hC1, hbC1, hmV1, hgC1, hkV1⟩
          have hS1 : Keeps (fun j => j = M) wk V1 := hS0.trans hkV1
          refine HKK.out _ _ (fun _ _ => hS1) ?_
          clear HKK K
          try simp only [Act.put, List.setIfInBounds_toArray, List.set_cons_zero, List.set_cons_succ]
          refine Out.anyR_one (i := 5) (by kernel_rfl) rfl (by rfl) ?_
          intro K hK
          have HKK := Lib.hid hK
          clear hK
          go_simp
          have hrE := heap_alloc_new_ V1 (.cells #[.int .i64 (k : Int)] 3)
          obtain ⟨VA, hVA⟩ : ∃ V, V1.alloc (.cells #[.int .i64 (k : Int)] 3) = V := ⟨_, rfl⟩
          obtain ⟨E, hE⟩ : ∃ E, V1.heap.size = E := ⟨_, rfl⟩
          have hkA : Keeps (fun _ => False) V1 VA := by rw [← hVA]; exact keep_alloc _ _ _
          rw [hVA] at hrE ⊢
          rw [hE] at hrE ⊢
          have hSA : Keeps (fun j => j = M) wk VA := hS1.trans hkA.none
          refine HKK.out _ _ (fun _ _ => hSA) ?_
          clear HKK K hVA hE
          try simp only [Act.put, List.setIfInBounds_toArray, List.set_cons_zero, List.set_cons_succ]
          have hIE : Ints VA (some ⟨E, 0, none⟩) 1 [(k : Int)] := ⟨rfl, fun _ => ⟨E, 0, rfl, fun j hj => by
            obtain rfl : j = 0 := by omega
            rw [cell_row hrE]; rfl⟩⟩
          refine Out.anyR_one (i := 6) (by kernel_rfl) rfl (by rfl) ?_
          intro K hK
          have HKK := Lib.hid hK
          clear hK
          gi_wp2_with fail
          refine ⟨trivial, (callsIn_wide.2 (without78 B sl sr A n cap zs A2 kn kc ks pt op M _ J (some ⟨E, 0, none⟩) 1 1 [(k : Int)] VA (Hb2.out.keepM Hm2.out hSA) (hmV1.keep hkA (fun e => e)) Hgb.out hn Hz.out hIE (by omega) (fun x hx => ⟨k, hlt, by simpa using hx⟩) (fun a b ha hb h1 h2 _ _ => by simp at h1 h2; omega))).mono ?_⟩
          rintro e V9 ⟨C2, pt2, lk2', rfl, hC2, hbC2, hmV2, hgC2, hkV2⟩
          have hS9 : Keeps (fun j => j = M) wk V9 := hSA.trans hkV2
          refine HKK.out _ _ (fun _ _ => hS9) ?_
          clear HKK K
          try simp only [Act.put, List.setIfInBounds_toArray, List.set_cons_zero, List.set_cons_succ]
          refine Out.anyR_take (i := 7) (oi := { dst := some 5, op := Go.Op.assign (Go.Operand.tmp 19), type := 61, pos := "kind.go:65", after := #[{ on := 2, ground := Go.Ground.data }, { on := 6, ground := Go.Ground.chain }, { on := 0, ground := Go.Ground.phase }, { on := 1, ground := Go.Ground.phase }, { on := 2, ground := Go.Ground.phase }, { on := 3, ground := Go.Ground.textOnly Go.Departure.lateStores }, { on := 4, ground := Go.Ground.textOnly Go.Departure.lateStores }, { on := 5, ground := Go.Ground.textOnly Go.Departure.lateStores }, { on := 6, ground := Go.Ground.textOnly Go.Departure.lateStoresUnsure }], guard := none }) (v := .pointer (some ⟨C1, 0, none⟩)) rfl (by decide) (by kernel_rfl) (by kernel_rfl) (by kernel_rfl) (by kernel_rfl) (fun _ _ _ h => h) (Or.inl ⟨by rfl, by intro W' hSw; (try dsimp only at hSw); go_simp⟩) hS9 ?_
          try simp only [Act.put, List.setIfInBounds_toArray, List.set_cons_zero, List.set_cons_succ]
          refine Out.anyR_take (i := 8) (oi := { dst := some 6, op := Go.Op.assign (Go.Operand.tmp 23), type := 61, pos := "kind.go:65", after := #[{ on := 6, ground := Go.Ground.data }, { on := 7, ground := Go.Ground.chain }, { on := 0, ground := Go.Ground.phase }, { on := 1, ground := Go.Ground.phase }, { on := 2, ground := Go.Ground.phase }, { on := 3, ground := Go.Ground.phase }, { on := 4, ground := Go.Ground.phase }, { on := 5, ground := Go.Ground.phase }, { on := 6, ground := Go.Ground.phase }, { on := 7, ground := Go.Ground.phase }], guard := none }) (v := .pointer (some ⟨C2, 0, none⟩)) rfl (by decide) (by kernel_rfl) (by kernel_rfl) (by kernel_rfl) (by kernel_rfl) (fun _ _ _ h => h) (Or.inl ⟨by rfl, by intro W' hSw; (try dsimp only at hSw); go_simp⟩) hS9 ?_
          try simp only [Act.put, List.setIfInBounds_toArray, List.set_cons_zero, List.set_cons_succ]
          refine Out.anyR_done (by kernel_rfl) ?_ _
          exact Hrest.out C1 C2 E pt1 pt2 _ _ ((hbC1.keep hkA (fun e => e) (fun _ _ e => e) (fun _ _ e => e)).keepM (hmV1.keep hkA (fun e => e)) hkV2) hgC1 hbC2 hgC2 hmV2 hS9
        case allocFirst =>
          intro K hK
          have HKK := Lib.hid hK
          clear hK
          go_simp
          have hrE := heap_alloc_new_ X (.cells #[.int .i64 (k : Int)] 3)
          obtain ⟨VA, hVA⟩ : ∃ V, X.alloc (.cells #[.int .i64 (k : Int)] 3) = V := ⟨_, rfl⟩
          obtain ⟨E, hE⟩ : ∃ E, X.heap.size = E := ⟨_, rfl⟩
          have hkA : Keeps (fun _ => False) X VA := by rw [← hVA]; exact keep_alloc _ _ _
          rw [hVA] at hrE ⊢
          rw [hE] at hrE ⊢
          have hSA : Keeps (fun j => j = M) wk VA := hS0.trans hkA.none
          refine HKK.out _ _ (fun _ _ => hSA) ?_
          clear HKK K hVA hE
          try simp only [Act.put, List.setIfInBounds_toArray, List.set_cons_zero, List.set_cons_succ]
          refine Out.anyR_one (i := 2) (by kernel_rfl) rfl (by rfl) ?_
          intro K hK
          have HKK := Lib.hid hK
          clear hK
          gi_wp2_with fail
          refine ⟨trivial, (callsIn_wide.2 (K81.out VA hSA _ (hmX.keep hkA (fun e => e)))).mono ?_⟩
          rintro e V1 ⟨C1, pt1, lk1, rfl, hC1, hbC1, hmV1, hgC1, hkV1⟩
          have hS1 : Keeps (fun j => j = M) wk V1 := hSA.trans hkV1
          refine HKK.out _ _ (fun _ _ => hS1) ?_
          clear HKK K
          try simp only [Act.put, List.setIfInBounds_toArray, List.set_cons_zero, List.set_cons_succ]
          have hEM : E ≠ M := fun e => by
            have h1 := (hmX.keep hkA (fun e => e)).noCell 0
            rw [← e, cell_row hrE] at h1; cases h1
          have hrE1 := (hkV1.block _ (lt_of_block hrE) hEM).trans hrE
          have hIE : Ints V1 (some ⟨E, 0, none⟩) 1 [(k : Int)] := ⟨rfl, fun _ => ⟨E, 0, rfl, fun j hj => by
            obtain rfl : j = 0 := by omega
            rw [cell_row hrE1]; rfl⟩⟩
          refine Out.anyR_one (i := 6) (by kernel_rfl) rfl (by rfl) ?_
          intro K hK
          have HKK := Lib.hid hK
          clear hK
          gi_wp2_with fail
          refine ⟨trivial, (callsIn_wide.2 (without78 B sl sr A n cap zs A2 kn kc ks pt op M _ J (some ⟨E, 0, none⟩) 1 1 [(k : Int)] V1 (Hb2.out.keepM Hm2.out hS1) hmV1 Hgb.out hn Hz.out hIE (by omega) (fun x hx => ⟨k, hlt, by simpa using hx⟩) (fun a b ha hb h1 h2 _ _ => by simp at h1 h2; omega))).mono ?_⟩
          rintro e V9 ⟨C2, pt2, lk2', rfl, hC2, hbC2, hmV2, hgC2, hkV2⟩
          have hS9 : Keeps (fun j => j = M) wk V9 := hS1.trans hkV2
          refine HKK.out _ _ (fun _ _ => hS9) ?_
          clear HKK K
          try simp only [Act.put, List.setIfInBounds_toArray, List.set_cons_zero, List.set_cons_succ]
          refine Out.anyR_take (i := 7) (oi := { dst := some 5, op := Go.Op.assign (Go.Operand.tmp 19), type := 61, pos := "kind.go:65", after := #[{ on := 2, ground := Go.Ground.data }, { on := 6, ground := Go.Ground.chain }, { on := 0, ground := Go.Ground.phase }, { on := 1, ground := Go.Ground.phase }, { on := 2, ground := Go.Ground.phase }, { on := 3, ground := Go.Ground.textOnly Go.Departure.lateStores }, { on := 4, ground := Go.Ground.textOnly Go.Departure.lateStores }, { on := 5, ground := Go.Ground.textOnly Go.Departure.lateStores }, { on := 6, ground := Go.Ground.textOnly Go.Departure.lateStoresUnsure }], guard := none }) (v := .pointer (some ⟨C1, 0, none⟩)) rfl (by decide) (by kernel_rfl) (by kernel_rfl) (by kernel_rfl) (by kernel_rfl) (fun _ _ _ h => h) (Or.inl ⟨by rfl, by intro W' hSw; (try dsimp only at hSw); go_simp⟩) hS9 ?_
          try simp only [Act.put, List.setIfInBounds_toArray, List.set_cons_zero, List.set_cons_succ]
          refine Out.anyR_take (i := 8) (oi := { dst := some 6, op := Go.Op.assign (Go.Operand.tmp 23), type := 61, pos := "kind.go:65", after := #[{ on := 6, ground := Go.Ground.data }, { on := 7, ground := Go.Ground.chain }, { on := 0, ground := Go.Ground.phase }, { on := 1, ground := Go.Ground.phase }, { on := 2, ground := Go.Ground.phase }, { on := 3, ground := Go.Ground.phase }, { on := 4, ground := Go.Ground.phase }, { on := 5, ground := Go.Ground.phase }, { on := 6, ground := Go.Ground.phase }, { on := 7, ground := Go.Ground.phase }], guard := none }) (v := .pointer (some ⟨C2, 0, none⟩)) rfl (by decide) (by kernel_rfl) (by kernel_rfl) (by kernel_rfl) (by kernel_rfl) (fun _ _ _ h => h) (Or.inl ⟨by rfl, by intro W' hSw; (try dsimp only at hSw); go_simp⟩) hS9 ?_
          try simp only [Act.put, List.setIfInBounds_toArray, List.set_cons_zero, List.set_cons_succ]
          refine Out.anyR_done (by kernel_rfl) ?_ _
          exact Hrest.out C1 C2 E pt1 pt2 _ _ (hbC1.keepM hmV1 hkV2) hgC1 hbC2 hgC2 hmV2 hS9
      · have hqs1 : q = false := by rw [hqs, beq_eq_false_iff_ne]; exact h1
        have d0 : (g != 1) = true := by rw [bne_iff_ne]; exact h1
        clear h1
        gi_wp2_with fail
        go_roundw
        case rel => exact ⟨k + 1, by omega, by go_num, Lib.hid ⟨O, HO.out, HOC.out, HQf.out hqs1, ⟨lk2, Hm2.out⟩, HI2.out, HK2.out⟩⟩
        case measure => simp [intOf]; omega
    · have e : k = n := by omega
      subst e
      obtain ⟨O, hO, hOC, hj, -, -, -⟩ := HV.out
      have HO := Lib.hid hO
      have HFin := Lib.hid hj
      clear HV hO hOC hj
      gi_wp2_with fail
      go_end0
      exact ⟨⟨_, rfl⟩, O, HO.out, .inl HFin.out⟩
end Go.Proofs.Ytnodkgejggnehaa

namespace Go.Proofs.Ytnodkgejggnehaa
set_option linter.unusedSimpArgs false
set_option linter.unusedVariables false
open Go.RowKit Go.Shelf
set_option maxRecDepth 100000 in
set_option maxHeartbeats 16000000 in
theorem kinds25_bad (sl sr : Int) (A : Option Addr) (n cap : Nat) (zs : List Rg) (A2 : Option Addr) (kn kc : Nat) (ks : List Int) (w : World) (h : Rgs w A n zs) (hI : Ints w A2 kn ks) (hc9 : n ≤ cap) (hn : n ≤ 1000000) (hk : kn ≤ 100000) (he : chkS sl sr zs ks ≠ 0) :
    Calls Try.prog 25 #[.agg #[.int .i64 sl, .int .i64 sr, .slice A n cap, .slice A2 kn kc]] w fun e w' => e = .returned (.tuple #[.slice none 0 0, .int .i64 (chkS sl sr zs ks)]) ∧ Below w.heap.size w w' := by
  have hb0 := below_alloc_ w (.cells #[.int .i64 sl, .int .i64 sr, .slice A n cap, .slice A2 kn kc] 25)
  have hr0 := heap_alloc_new_ w (.cells #[.int .i64 sl, .int .i64 sr, .slice A n cap, .slice A2 kn kc] 25)
  obtain ⟨w0, hW0⟩ : ∃ w0, w.alloc (.cells #[.int .i64 sl, .int .i64 sr, .slice A n cap, .slice A2 kn kc] 25) = w0 := ⟨_, rfl⟩
  obtain ⟨R, hR⟩ : ∃ R, w.heap.size = R := ⟨_, rfl⟩
  rw [hW0] at hb0 hr0
  have k50 := join50_bad sl sr A n cap zs A2 kn kc ks w0 (h.below hb0 (Nat.le_refl _)) (hI.below hb0 (Nat.le_refl _)) hc9 hn hk he
  rw [hR] at hr0
  have x0 : w0.cell? ⟨R, 0, none⟩ = some (.int .i64 sl) := by rw [cell_row hr0]; rfl
  have x1 : w0.cell? ⟨R, 1, none⟩ = some (.int .i64 sr) := by rw [cell_row hr0]; rfl
  have x2 : w0.cell? ⟨R, 2, none⟩ = some (.slice A n cap) := by rw [cell_row hr0]; rfl
  have x3 : w0.cell? ⟨R, 3, none⟩ = some (.slice A2 kn kc) := by rw [cell_row hr0]; rfl
  have K50 := Lib.hid k50
  have HB := Lib.hid hb0
  have HW0 := Lib.hid hW0
  have HR := Lib.hid hR
  have Hne := Lib.hid he
  clear h hI hb0 hr0 hW0 hR k50
  go_enter Try.func25, Try.ntmps25
  go_wp2_with fail
  try rw [HW0.out]
  try rw [HR.out]
  try go_wp2_with fail
  refine K50.out.mono ?_
  rintro en w1 ⟨rfl, hb1⟩
  have HB1 := Lib.hid (HB.out.trans (hb1.mono HB.out.size))
  clear K50 hb1 x0 x1 x2 x3 he
  have d1 : (chkS sl sr zs ks != 0) = true := by rw [bne_iff_ne]; exact Hne.out
  obtain ⟨q, hq⟩ : ∃ q, chkS sl sr zs ks = q := ⟨_, rfl⟩
  rw [hq] at d1 ⊢
  have Hq := Lib.hid hq
  clear hq
  go_wp2_with fail
  go_ret2
  exact ⟨by rw [Hq.out]; rfl, HB1.out⟩
set_option maxRecDepth 100000 in
set_option maxHeartbeats 16000000 in
theorem kinds25 (sl sr : Int) (A : Option Addr) (n cap : Nat) (zs : List Rg) (A2 : Option Addr) (kn kc : Nat) (ks : List Int) (w : World) (h : Rgs w A n zs) (hI : Ints w A2 kn ks) (hc9 : n ≤ cap) (hn : n ≤ 1000000) (hk : kn ≤ 100000) (he : chkS sl sr zs ks = 0) :
    Calls Try.prog 25 #[.agg #[.int .i64 sl, .int .i64 sr, .slice A n cap, .slice A2 kn kc]] w fun e w' => ∃ C cp, e = .returned (.tuple #[.slice C n cp, .int .i64 0]) ∧ n ≤ cp ∧ Ints w' C n (kindsK n zs (opnL n zs ks) (kNt ks) n) ∧ (∀ a, C = some a → w.heap.size ≤ a.block) ∧ Below w.heap.size w w' := by
  have hb0 := below_alloc_ w (.cells #[.int .i64 sl, .int .i64 sr, .slice A n cap, .slice A2 kn kc] 25)
  have hr0 := heap_alloc_new_ w (.cells #[.int .i64 sl, .int .i64 sr, .slice A n cap, .slice A2 kn kc] 25)
  obtain ⟨w0, hW0⟩ : ∃ w0, w.alloc (.cells #[.int .i64 sl, .int .i64 sr, .slice A n cap, .slice A2 kn kc] 25) = w0 := ⟨_, rfl⟩
  obtain ⟨R, hR⟩ : ∃ R, w.heap.size = R := ⟨_, rfl⟩
  rw [hW0] at hb0 hr0
  have k50 := join50 sl sr A n cap zs A2 kn kc ks w0 (h.below hb0 (Nat.le_refl _)) (hI.below hb0 (Nat.le_refl _)) hc9 hn hk he
  rw [hR] at hr0
  have x0 : w0.cell? ⟨R, 0, none⟩ = some (.int .i64 sl) := by rw [cell_row hr0]; rfl
  have x1 : w0.cell? ⟨R, 1, none⟩ = some (.int .i64 sr) := by rw [cell_row hr0]; rfl
  have x2 : w0.cell? ⟨R, 2, none⟩ = some (.slice A n cap) := by rw [cell_row hr0]; rfl
  have x3 : w0.cell? ⟨R, 3, none⟩ = some (.slice A2 kn kc) := by rw [cell_row hr0]; rfl
  have K50 := Lib.hid k50
  have HB := Lib.hid hb0
  have HW0 := Lib.hid hW0
  have HR := Lib.hid hR
  have hsg := shg_of he
  have hzl := h.1
  have Hsg := Lib.hid hsg
  have Hzl := Lib.hid hzl
  clear hsg hzl he
  clear h hI hb0 hr0 hW0 hR k50
  go_enter Try.func25, Try.ntmps25
  go_wp2_with fail
  try rw [HW0.out]
  try rw [HR.out]
  try go_wp2_with fail
  refine K50.out.mono ?_
  rintro en w1 ⟨B, M, pt, lk, rfl, hB, hM, hb, hm, hgb, hb1⟩
  have hz : ZOk n zs := by rw [← Hzl.out]; exact Hsg.out.zok
  have hn40 : n ≤ 40 := by have := Hsg.out.n40; have := Hzl.out; omega
  obtain ⟨c, hc, hc12⟩ : ∃ c : Nat, sl = (c : Int) ∧ c ≤ 12 := ⟨sl.toNat, by have := Hsg.out.rng; omega, by have := Hsg.out.rng; omega⟩
  have he0 : ∀ k, k < n → eN zs 0 k < c := fun k hk => by have := Hsg.out.e0 k (by rw [Hzl.out]; exact hk); omega
  have k53 := kinds53 B sl sr A n cap zs A2 kn kc ks pt (opnL n zs ks) M lk (kNt ks) c w1 hb hm hgb hn40 hz hc hc12 he0
  have K53 := Lib.hid k53
  have HMs := Lib.hid hM
  have hs0 := HB.out.size
  have HB1 := Lib.hid (HB.out.trans (hb1.mono HB.out.size))
  have HR2 := HR.out
  clear K50 hb1 x0 x1 x2 x3 hb hm hgb hz hc he0 k53 hM hB
  go_wp2_with fail
  refine K53.out.mono ?_
  rintro en w2 ⟨lk2, C, cp, rfl, hcp, hi, hC, hm2, hk2⟩
  have HI2 := Lib.hid hi
  have HC := Lib.hid hC
  have H2 := Lib.hid (show Below w.heap.size w w2 from HB1.out.trans (hk2.below HB1.out.size (fun j hj e => by have := HMs.out; omega)))
  clear K53 hi hC hm2 hk2
  go_wp2_with fail
  go_ret2
  exact ⟨C, cp, rfl, hcp, HI2.out, fun a e => by have := HC.out a e; have := HB1.out.size; omega, H2.out⟩
end Go.Proofs.Ytnodkgejggnehaa
