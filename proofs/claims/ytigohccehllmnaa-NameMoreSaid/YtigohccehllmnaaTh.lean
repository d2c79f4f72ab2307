/- Stage 6: what can be reached; ways through. -/
import Derived.Test.YtigohccehllmnaaRo
import Derived.LoopIn
import Derived.Laws.ResultCell
namespace Go.Proofs.Ytigohccehllmnaa
set_option linter.unusedSimpArgs false
set_option linter.unusedVariables false
open Go.RowKit Go.Shelf Go.WideMaps Go.MapKept
open Go.Maps (Keyed)
theorem keeps_old3 {Mut : Nat → Prop} {W wr W3 : World} (h1 : Keeps Mut W wr) (h2 : Keeps (fun k => W.heap.size ≤ k ∨ Mut k) wr W3) : Keeps Mut W W3 :=
  ⟨h2.os.trans h1.os, h2.tape.trans h1.tape, h2.output.trans h1.output, Nat.le_trans h1.size h2.size, fun k hk hm => (h2.block k (Nat.lt_of_lt_of_le hk h1.size) (fun e => e.elim (fun e => by omega) hm)).trans (h1.block k hk hm)⟩
section
attribute [local go_sem ↓] exec_app at_app
attribute [local go_sem] Oper.semAt_some
set_option maxRecDepth 100000 in
set_option maxHeartbeats 16000000 in
theorem copy68 (M1 n1 : Nat) (S1 : Int → Option Wy) (M2 n2 : Nat) (S2 : Int → Option Wy) (w : World) (h1 : Tm w M1 n1 S1) (h2 : Tm w M2 n2 S2) (hne : M1 ≠ M2) (hb1 : n1 ≤ 100000) (hb2 : n2 ≤ 100000) :
    Calls Try.prog 68 #[.map (some M1), .map (some M2)] w fun e w' => e = .returned (.tuple #[]) ∧ ∃ nn S, Tm w' M1 nn S ∧ nn ≤ n1 + n2 ∧ (∀ x : Int, 0 ≤ x → x < 40 → (S x).isSome = ((S1 x).isSome || (S2 x).isSome)) ∧ Keeps (fun j => j = M1) w w' := by
  obtain ⟨D, ho, hD, hkD⟩ := h2
  obtain ⟨w0, hrun, hrg0, hg0, hs0⟩ := ho.range kfN.keyed Try.underlying94
  have hsz := ho.size_le
  have hM1w := h1.lt
  have hk0 : Keeps (fun j => j = M1) w w0 := Keeps.of_grown hg0 (fun r e => by cases e)
  have hk0' : Keeps (fun _ => False) w w0 := Keeps.of_grown hg0 (fun r e => by cases e)
  have HD := Lib.hid hD
  have HkD := Lib.hid hkD
  have H0 := Lib.hid (show ∃ (left : Lit → Bool) (cnt nn : Nat) (S : Int → Option Wy), w0.ranges Try.prog 3 heldE M2 w.heap.size n2 D left cnt ∧ Tm w0 M1 nn S ∧ nn + cnt ≤ n1 + n2 ∧ (∀ kl, left kl = true → Maps.has D kl = true) ∧ (∀ x : Int, 0 ≤ x → x < 40 → (S x).isSome = ((S1 x).isSome || ((S2 x).isSome && !left (.int .i64 x)))) ∧ Keeps (fun j => j = M1) w w0 from
    ⟨_, _, n1, S1, hrg0, h1.keep hk0' (fun e => e), by omega, fun _ h => h, fun x a b => by
      have := hD x ⟨a, b⟩
      cases e : S2 x with
      | none =>
        have := this.2 (by show (S2 x).map wV = _; rw [e]; rfl)
        simp
      | some v =>
        have := (this.1 (wV v) (by show (S2 x).map wV = _; rw [e]; rfl)).1
        rw [show kfN.lit x = .int .i64 x from rfl] at this
        rw [this]; simp, hk0⟩)
  obtain ⟨R, hR⟩ : ∃ R, w.heap.size = R := ⟨_, rfl⟩
  rw [hR] at hrun
  have HR := Lib.hid hR
  clear ho hrg0 hg0 hs0 hk0 hk0' hkD hR hD h1 hsz
  go_enter Try.func68, Try.ntmps68
  go_wp2_with fail
  clear hrun
  go_loopw [4, 5] (fun x y wr => Hid (∃ (left : Lit → Bool) (cnt nn : Nat) (S : Int → Option Wy), wr.ranges Try.prog 3 heldE M2 w.heap.size n2 D left cnt ∧ Tm wr M1 nn S ∧ nn + cnt ≤ n1 + n2 ∧ (∀ kl, left kl = true → Maps.has D kl = true) ∧ (∀ x : Int, 0 ≤ x → x < 40 → (S x).isSome = ((S1 x).isSome || ((S2 x).isSome && !left (.int .i64 x)))) ∧ Keeps (fun j => j = M1) w wr)) (fun x y wr => wr.rangeLeft M2 w.heap.size)
  case atStart => exact H0
  case round =>
    obtain ⟨left, cnt, nn, S, hrg, hT, hnn, hlh, hS, hkw⟩ := hrel.out
    obtain ⟨wk, rfl⟩ : ∃ wk, wk = wr := ⟨_, rfl⟩
    rcases hrg.next kfN.keyed 0 with ⟨h0, hl, hrun⟩ | ⟨key, v, kl, y, w1, cnt1, hkey, hlk, hv, hat, hrun, hrg1, hlt, hg1, hs1, hen⟩
    · have HF := Lib.hid (show ∃ nn S, Tm wk M1 nn S ∧ nn ≤ n1 + n2 ∧ (∀ x : Int, 0 ≤ x → x < 40 → (S x).isSome = ((S1 x).isSome || (S2 x).isSome)) ∧ Keeps (fun j => j = M1) w wk from ⟨nn, S, hT, by omega, fun x a b => by rw [hS x a b, hl]; simp, hkw⟩)
      rw [HR.out] at hrun
      clear hrg hlh hl hkw hrel h0 HD HkD hT hnn hS
      go_wp2_with fail
      (try simp only [Exit.inBlock, Exit.then])
      refine bodyPost_end (results_none rfl _ _ _) rfl ?_
      exact ⟨rfl, HF.out⟩
    · obtain ⟨x, hx, rfl⟩ := HkD.out kl (hlh kl hlk)
      have hxd : 0 ≤ x ∧ x < 40 := hx
      obtain rfl : key = .int .i64 x := kfN.keyed.inj hkey (kfN.key x hx)
      have hhas := hlh _ hlk
      obtain ⟨wy, hwy⟩ : ∃ wy, S2 x = some wy := by
        cases e : S2 x with
        | some v => exact ⟨v, rfl⟩
        | none =>
          have := (HD.out x hx).2 (by show (S2 x).map wV = _; rw [e]; rfl)
          rw [this] at hhas; cases hhas
      have hvv : v = wV wy := by
        have h9 := ((HD.out x hx).1 (wV wy) (by show (S2 x).map wV = _; rw [hwy]; rfl)).2
        have h8 := hat (.held z79)
        rw [h8] at h9
        simp only [heldE, Option.some.injEq] at hv
        rw [← hv] at h9
        simp only [DataW.held.injEq] at h9
        exact h9
      subst hvv
      unfold wV at hen
      obtain ⟨wl, wf, wt⟩ := wy
      simp only at hen
      -- the box of the value
      have hM1r : M1 ≠ w.heap.size := by omega
      have hk1 : Keeps (fun j => j = w.heap.size) wk w1 := Keeps.of_grown hg1 (fun r e => by cases e; rfl)
      have hT1 := hT.keep hk1 hM1r
      have hb := below_alloc_ w1 (.cells #[.int .i64 (wl : Int), .int .i64 wf, .int .i64 wt] 79)
      have hrV := heap_alloc_new_ w1 (.cells #[.int .i64 (wl : Int), .int .i64 wf, .int .i64 wt] 79)
      have hrgV := hrg1.alloc (.cells #[.int .i64 (wl : Int), .int .i64 wf, .int .i64 wt] 79)
      have hTV := hT1.below hb (Nat.le_refl _)
      obtain ⟨V, hV⟩ : ∃ V, w1.alloc (.cells #[.int .i64 (wl : Int), .int .i64 wf, .int .i64 wt] 79) = V := ⟨_, rfl⟩
      rw [hV] at hb hrV hrgV hTV
      obtain ⟨P, hP⟩ : ∃ P, w1.heap.size = P := ⟨_, rfl⟩
      rw [hP] at hrV
      obtain ⟨W3, hput, hT3, hk3⟩ := hTV.put hxd ⟨wl, wf, wt⟩ (by omega)
      unfold wV at hput
      simp only at hput
      have hwk := hkw.size
      have hrg3 : W3.ranges Try.prog 3 heldE M2 w.heap.size n2 D (fun z => left z && !z.sameKey (kfN.lit x)) cnt1 := hrgV.kept (row := some M1) ⟨hk3.os, hk3.tape, hk3.output, hk3.size, fun i hi hne => hk3.block i hi (fun e => hne (by rw [e]))⟩ (by simpa using Ne.symm hne) (by simpa using Ne.symm hM1r)
      have HF := Lib.hid (show ∃ (left : Lit → Bool) (cnt nn : Nat) (S : Int → Option Wy), W3.ranges Try.prog 3 heldE M2 w.heap.size n2 D left cnt ∧ Tm W3 M1 nn S ∧ nn + cnt ≤ n1 + n2 ∧ (∀ kl, left kl = true → Maps.has D kl = true) ∧ (∀ x : Int, 0 ≤ x → x < 40 → (S x).isSome = ((S1 x).isSome || ((S2 x).isSome && !left (.int .i64 x)))) ∧ Keeps (fun j => j = M1) w W3 from
        ⟨_, _, _, _, hrg3, hT3, by omega, fun kl h => hlh kl (by rw [Bool.and_eq_true] at h; exact h.1), fun z a b => by
          unfold putW
          by_cases e : z = x
          · subst e
            rw [if_pos rfl, show kfN.lit z = Lit.int .i64 z from rfl, WideAt.sameKey_self (show WideAt.IsKeyLit (Lit.int .i64 z) from kfN.keyed.key hkey), hwy]
            simp
          · rw [if_neg e, hS z a b]
            have : (Lit.int .i64 z).sameKey (kfN.lit x) = false := Maps.sameKey_ne (fun e2 => e (kfN.inj (x := z) (y := x) ⟨a, b⟩ hx e2))
            rw [this]; simp,
          keeps_old3 hkw (((hk1.mono (fun j _ e => .inl (by omega))).trans (Keeps.of_new hb)).trans (hk3.mono (fun j _ e => .inr e)))⟩)
      have Hm := Lib.hid (show W3.rangeLeft M2 w.heap.size < wk.rangeLeft M2 w.heap.size by rw [hrg3.left_eq, hrg.left_eq]; omega)
      have p0 : V.cell? ⟨P, 0, none⟩ = some (.int .i64 (wl : Int)) := by rw [cell_row hrV]; rfl
      have p1 : V.cell? ⟨P, 1, none⟩ = some (.int .i64 wf) := by rw [cell_row hrV]; rfl
      have p2 : V.cell? ⟨P, 2, none⟩ = some (.int .i64 wt) := by rw [cell_row hrV]; rfl
      rw [HR.out] at hrun hen
      have HV := Lib.hid hV
      have HP := Lib.hid hP
      clear hrg hlh hlk hv hat hrg1 hlt hg1 hs1 hkw hrel hT hnn hS hhas hwy hT1 hb hrV hrgV hTV hT3 hk3 hrg3 hk1 hwk hkey hV hP hM1r hM1w
      go_upto_region 3 with fail
      try rw [HV.out]
      try rw [HP.out]
      go_wp2_with fail
      go_roundw
      case rel => exact HF
      case measure => exact Hm.out
end
end Go.Proofs.Ytigohccehllmnaa

namespace Go.Proofs.Ytigohccehllmnaa
set_option linter.unusedSimpArgs false
set_option linter.unusedVariables false
open Go.RowKit Go.Shelf

theorem came_start {zs : List Nl} {op : Wy → Bool} {fs : List Int} {tr : List Wy} (h : TrOk zs op fs tr) {y : Int} (hy : y ∈ fs) : cameW fs tr y = some ⟨0, 0, 0⟩ := by
  have h1 := (TrOk.nodup tr.length tr rfl h).2 y hy
  unfold cameW
  rw [find_none h1]
  simp [hy]
theorem split_to {p : List Wy} {y : Int} (h : y ∈ p.map (·.to)) : ∃ p1 w p2, p = p1 ++ w :: p2 ∧ w.to = y := by
  obtain ⟨w, hw, e⟩ := List.mem_map.1 h
  obtain ⟨p1, p2, rfl⟩ := List.append_of_mem hw
  exact ⟨p1, w, p2, rfl, e⟩
theorem came_way {zs : List Nl} {op : Wy → Bool} {fs : List Int} {p1 p2 : List Wy} {w : Wy} (h : TrOk zs op fs (p1 ++ w :: p2)) : cameW fs (p1 ++ w :: p2) w.to = some w := by
  obtain ⟨-, -, -, h4⟩ := h p1 w p2 rfl
  have h1 : w.to ∉ p1.map (·.to) := fun e => h4 (.inr e)
  unfold cameW
  rw [List.find?_append, find_none h1]
  simp
def lenV : Value → Nat
  | .slice _ n _ => n
  | _ => 0
/-- A search's ways back are under way: ws lead from y to the end, and p is what was before. -/
structure TkI (zs : List Nl) (op : Wy → Bool) (fs : List Int) (tr : List Wy) (en : Int) (M nn : Nat) (w0 : World) (y : Int) (p ws : List Wy) (v : Value) (W : World) : Prop where
  pre : ∃ s, tr = p ++ s
  rk : Rk fs p y
  path : IsPath y ws en
  mem : ∀ w ∈ ws, w ∈ tr ∧ ¬ Rk fs p w.to
  nod : (ws.map (·.to)).Nodup
  ny : y ∉ ws.map (·.to)
  map : ∃ S, Tm W M nn S ∧ ∀ x, Rk fs p x → S x = cameW fs tr x
  own : W.ownsRow 0 79 3 v ws.length (flatW ws.reverse)
  new : ∀ g, v.ownBlock = some g → w0.heap.size ≤ g
  keep : Keeps (fun j => j = M) w0 W
  len : p.length + ws.length ≤ tr.length
section
attribute [local go_sem ↓] exec_app at_app
attribute [local go_sem] Oper.semAt_some
set_option maxRecDepth 100000 in
set_option maxHeartbeats 16000000 in
theorem take73 (M nn : Nat) (N : Nat) (zs : List Nl) (op : Wy → Bool) (fs : List Int) (tr : List Wy) (en : Int) (w : World) (h : Tm w M nn (cameW fs tr)) (hz : OkL N zs) (hN : N ≤ 40) (ht : TrOk zs op fs tr) (hf : ∀ x ∈ fs, 0 ≤ x ∧ x < N) (hen : Rk fs tr en) (hne : en ∉ fs) (hlen : tr.length ≤ 100) :
    Calls Try.prog 73 #[.map (some M), .int .i64 en] w fun e w' => ∃ g cp ws a, e = .returned (.slice (some ⟨g, 0, none⟩) ws.length cp) ∧ RowW w' g ws ∧ ws.length ≤ cp ∧ w.heap.size ≤ g ∧ a ∈ fs ∧ IsPath a ws en ∧ (∀ x ∈ ws, x ∈ tr) ∧ (ws.map (·.to)).Nodup ∧ a ∉ ws.map (·.to) ∧ 0 < ws.length ∧ ws.length ≤ tr.length ∧ Keeps (fun j => j = M) w w' := by
  have hr : ∀ x, Rk fs tr x → 0 ≤ x ∧ x < N := fun x hx => Rk.in hz hf ht hx
  have hed := hr _ hen
  have hMw := h.lt
  -- the boxes
  have hb1 := below_alloc_ w (.cells #[.int .i64 0, .int .i64 0, .int .i64 0] 79)
  have hr1 := heap_alloc_new_ w (.cells #[.int .i64 0, .int .i64 0, .int .i64 0] 79)
  obtain ⟨w1, hw1⟩ : ∃ v, w.alloc (.cells #[.int .i64 0, .int .i64 0, .int .i64 0] 79) = v := ⟨_, rfl⟩
  rw [hw1] at hb1 hr1
  have hT1 := h.below hb1 (Nat.le_refl _)
  have hl1 := hT1.look (x := en) (by omega)
  obtain ⟨g0, hg0⟩ : ∃ g, (cameW fs tr en).getD ⟨0, 0, 0⟩ = g := ⟨_, rfl⟩
  rw [hg0] at hl1
  unfold wV at hl1
  obtain ⟨Z, hZ⟩ : ∃ v, w.heap.size = v := ⟨_, rfl⟩
  have hsz1 : w1.heap.size = Z + 1 := by rw [← hw1, ← hZ]; simp
  have hb2 := below_alloc_ w1 (.cells #[.int .i64 (g0.link : Int), .int .i64 g0.fr, .int .i64 g0.to] 79)
  have hr2 := heap_alloc_new_ w1 (.cells #[.int .i64 (g0.link : Int), .int .i64 g0.fr, .int .i64 g0.to] 79)
  obtain ⟨w2, hw2⟩ : ∃ v, w1.alloc (.cells #[.int .i64 (g0.link : Int), .int .i64 g0.fr, .int .i64 g0.to] 79) = v := ⟨_, rfl⟩
  rw [hw2] at hb2 hr2
  rw [hsz1] at hr2
  rw [hZ] at hr1
  have HZ0 := Lib.hid ((hb2.block _ (lt_of_block hr1)).trans hr1)
  have hbb := hb1.trans (hb2.mono hb1.size)
  have HI0 := Lib.hid (show ∃ (y : Int) (p ws : List Wy) (gw : Wy) (P : Nat), (cameW fs tr y).getD ⟨0, 0, 0⟩ = gw ∧ Z < P ∧ w2.heap[P]? = some (.cells #[.int .i64 (gw.link : Int), .int .i64 gw.fr, .int .i64 gw.to] 79 (0, 0)) ∧ Value.pointer (some ⟨Z + 1, 0, none⟩) = .pointer (some ⟨P, 0, none⟩) ∧ TkI zs op fs tr en M nn w y p ws (.slice none 0 0) w2 ∧ (∀ g, (Value.slice none 0 0).ownBlock = some g → g ≠ P ∧ g ≠ Z) from
    ⟨en, tr, [], g0, Z + 1, hg0, by omega, hr2, rfl, ⟨⟨[], by simp⟩, hen, rfl, by simp, List.nodup_nil, by simp, ⟨_, hT1.below hb2 (Nat.le_refl _), fun _ _ => rfl⟩, own_nil _ _ _, fun g e => (by cases e), Keeps.of_new hbb, by simp⟩, fun g e => (by cases e)⟩)
  have HT := Lib.hid ht
  have Hz := Lib.hid hz
  have Hf := Lib.hid hf
  have Hne := Lib.hid hne
  have HZ := Lib.hid hZ
  have Hr := Lib.hid hr
  have HZw : Z < w2.heap.size := lt_of_block HZ0.out
  have Hw1 := Lib.hid hw1
  have Hw2 := Lib.hid hw2
  have Hs1 := Lib.hid hsz1
  have Hlen := Lib.hid hlen
  clear hr hb1 hr1 hT1 hg0 hb2 hr2 hbb h hz ht hf hen hne hZ hw1 hw2 hsz1 hlen
  go_enter Try.func73, Try.ntmps73
  go_wp2_with fail
  rw [Hw1.out]
  rw [HZ.out]
  rw [hl1]
  go_wp2_with fail
  rw [Hs1.out]
  rw [Hw2.out]
  clear hl1
  go_loopw [6, 7] (fun v pv wr => Hid (∃ v0 : Value, v = v0 ∧ ∃ (y : Int) (p ws : List Wy) (gw : Wy) (P : Nat), (cameW fs tr y).getD ⟨0, 0, 0⟩ = gw ∧ Z < P ∧ wr.heap[P]? = some (.cells #[.int .i64 (gw.link : Int), .int .i64 gw.fr, .int .i64 gw.to] 79 (0, 0)) ∧ pv = .pointer (some ⟨P, 0, none⟩) ∧ TkI zs op fs tr en M nn w y p ws v0 wr ∧ (∀ g, v0.ownBlock = some g → g ≠ P ∧ g ≠ Z)) ∧ Hid (wr.heap[Z]? = some (.cells #[.int .i64 0, .int .i64 0, .int .i64 0] 79 (0, 0)))) (fun v pv wr => 100 - lenV v)
  case atStart => exact ⟨Lib.hid ⟨_, rfl, HI0.out⟩, HZ0⟩
  case round =>
    obtain ⟨HX, HZr⟩ := hrel
    obtain ⟨wk, rfl⟩ : ∃ wk, wk = wr := ⟨_, rfl⟩
    obtain ⟨v, hv, y, p, ws, gw, P, hgw, hP, hrow, rfl, hI, hvP⟩ := HX.out
    obtain rfl : v = _ := hv.symm
    have p0 : wk.cell? ⟨P, 0, none⟩ = some (.int .i64 (gw.link : Int)) := by rw [cell_row hrow]; rfl
    have p1' : wk.cell? ⟨P, 1, none⟩ = some (.int .i64 gw.fr) := by rw [cell_row hrow]; rfl
    have p2' : wk.cell? ⟨P, 2, none⟩ = some (.int .i64 gw.to) := by rw [cell_row hrow]; rfl
    have z0 : wk.cell? ⟨Z, 0, none⟩ = some (.int .i64 0) := by rw [cell_row HZr.out]; rfl
    have z1 : wk.cell? ⟨Z, 1, none⟩ = some (.int .i64 0) := by rw [cell_row HZr.out]; rfl
    have z2 : wk.cell? ⟨Z, 2, none⟩ = some (.int .i64 0) := by rw [cell_row HZr.out]; rfl
    have hlenW := hI.len
    have hl100 := Hlen.out
    by_cases hy : y ∈ fs
    · rw [came_start HT.out hy] at hgw
      simp only [Option.getD_some] at hgw
      subst hgw
      have hws : ws ≠ [] := fun e => by
        have := hI.path
        rw [e] at this
        exact Hne.out (show en ∈ fs from (show y = en from this) ▸ hy)
      have hwl : 0 < ws.length := List.length_pos_iff.2 hws
      obtain ⟨g, cp, rfl, hcp⟩ : ∃ g cp, v = .slice (some ⟨g, 0, none⟩) ws.length cp ∧ ws.length ≤ cp := by
        rcases hI.own.2 with ⟨_, e⟩ | ⟨g, cap, cur, e, hb, hg, hc, _⟩
        · omega
        · exact ⟨g, cap, e, hc⟩
      have hgZ := hI.new g rfl
      have k85 := reverse85 g ws.length cp ws.reverse wk (by simp) (rowW_own (by simp) hI.own) (by omega)
      rw [List.reverse_reverse] at k85
      have HK := Lib.hid k85
      have HF := Lib.hid (show y ∈ fs ∧ IsPath y ws en ∧ (∀ x ∈ ws, x ∈ tr) ∧ (ws.map (·.to)).Nodup ∧ y ∉ ws.map (·.to) ∧ 0 < ws.length ∧ ws.length ≤ tr.length ∧ ws.length ≤ cp ∧ w.heap.size ≤ g ∧ Keeps (fun j => j = M) w wk from ⟨hy, hI.path, fun x hx => (hI.mem x hx).1, hI.nod, hI.ny, hwl, by omega, hcp, hgZ, hI.keep⟩)
      clear hI HX hws hwl hcp hrow hvP k85 hy hgZ hlenW
      simp only at p0 p1' p2'
      go_wp2_with fail
      refine HK.out.mono ?_
      rintro en2 w5 ⟨⟨v5, rfl⟩, hr5, hk5⟩
      have Hr5 := Lib.hid hr5
      have Hk5 := Lib.hid (keeps_old3 HF.out.2.2.2.2.2.2.2.2.2 (hk5.mono (fun j _ e => .inl (by subst e; exact HF.out.2.2.2.2.2.2.2.2.1))))
      clear hr5 hk5 HK
      go_wp2_with fail
      go_ret
      obtain ⟨f1, f2, f3, f4, f5, f6, f7, f8, f9, f10⟩ := HF.out
      exact ⟨g, cp, ws, y, rfl, Hr5.out, f8, f9, f1, f2, f3, f4, f5, f6, f7, Hk5.out⟩
    · have hyp : y ∈ p.map (·.to) := hI.rk.resolve_left hy
      obtain ⟨q1, w1, q2, hp, hw1⟩ := split_to hyp
      obtain ⟨s, hs⟩ := hI.pre
      have htr : tr = q1 ++ w1 :: (q2 ++ s) := by rw [hs, hp]; simp
      have hcw := came_way (fs := fs) (htr ▸ HT.out)
      rw [← htr, hw1] at hcw
      rw [hcw] at hgw
      simp only [Option.getD_some] at hgw
      subst hgw
      obtain ⟨hway, hopw, hrkf, hnrk⟩ := HT.out q1 w1 (q2 ++ s) htr
      have hne2 := hway.ne Hz.out
      have hyr := Hr.out y (by obtain ⟨s, hs⟩ := hI.pre; rcases hI.rk with e | e; exact .inl e; exact .inr (by rw [hs, List.map_append]; exact List.mem_append_left _ e))
      have hrkt : ∀ x, Rk fs q1 x → Rk fs tr x := fun x hx => by
        rcases hx with e | e
        · exact .inl e
        · exact .inr (by rw [htr, List.map_append]; exact List.mem_append_left _ e)
      have hrkp : ∀ x, Rk fs q1 x → Rk fs p x := fun x hx => by
        rcases hx with e | e
        · exact .inl e
        · exact .inr (by rw [hp, List.map_append]; exact List.mem_append_left _ e)
      have hfr := Hr.out w1.fr (hrkt _ hrkf)
      obtain ⟨S, hT, hS⟩ := hI.map
      have hkw := hI.keep.size
      have hZlt := lt_of_block HZr.out
      have hZv := HZ.out
      -- one way more
      obtain ⟨g, c, W1, hrun, hown1, hK1, hc1, hg1⟩ := app_wy hI.own w1 (by omega)
      have hv1 : ∀ k, v.ownBlock = some k → k ≠ P ∧ k ≠ Z ∧ Z ≤ k := fun k e => ⟨(hvP k e).1, (hvP k e).2, by have := hI.new k e; omega⟩
      have hT1 := hT.keep hK1 (fun e => by have := (hv1 M e).2.2; omega)
      have hrow1 := (hK1.block _ (lt_of_block hrow) (fun e => (hv1 P e).1 rfl)).trans hrow
      have hZ1 := (hK1.block _ (lt_of_block HZr.out) (fun e => (hv1 Z e).2.1 rfl)).trans HZr.out
      -- its end is taken out
      obtain ⟨W2, hdel, hT2, hK2⟩ := hT1.del (x := w1.to) (by rw [hw1]; omega) 0
      have hrow2 := (hK2.block _ (lt_of_block hrow1) (by omega)).trans hrow1
      have hZ2 := (hK2.block _ (lt_of_block hZ1) (by omega)).trans hZ1
      -- the next round's box
      have hb3 := below_alloc_ W2 (.cells #[.int .i64 (w1.link : Int), .int .i64 w1.fr, .int .i64 w1.to] 79)
      have hr3 := heap_alloc_new_ W2 (.cells #[.int .i64 (w1.link : Int), .int .i64 w1.fr, .int .i64 w1.to] 79)
      obtain ⟨W3, hW3⟩ : ∃ W3, W2.alloc (.cells #[.int .i64 (w1.link : Int), .int .i64 w1.fr, .int .i64 w1.to] 79) = W3 := ⟨_, rfl⟩
      rw [hW3] at hb3 hr3
      obtain ⟨P3, hP3⟩ : ∃ P3, W2.heap.size = P3 := ⟨_, rfl⟩
      rw [hP3] at hr3
      have hT3 := hT2.below hb3 (Nat.le_refl _)
      have hl3 := hT3.look (x := w1.fr) (by omega)
      have hS3 : putW S w1.to none w1.fr = cameW fs tr w1.fr := by unfold putW; rw [if_neg hne2]; exact hS _ (hrkp _ hrkf)
      rw [hS3] at hl3
      obtain ⟨g3, hg3⟩ : ∃ g, (cameW fs tr w1.fr).getD ⟨0, 0, 0⟩ = g := ⟨_, rfl⟩
      rw [hg3] at hl3
      unfold wV at hl3
      obtain ⟨r30, r31, r32, f30, f31, f32⟩ := three_cells hr3
      have hr4 := set_same 2 (.int .i64 g3.to) (set_same 1 (.int .i64 g3.fr) (set_same 0 (.int .i64 (g3.link : Int)) hr3))
      have hk4 := ((keeps_setCell W3 P3 0 (.int .i64 (g3.link : Int))).trans (keeps_setCell _ P3 1 (.int .i64 g3.fr))).trans (keeps_setCell _ P3 2 (.int .i64 g3.to))
      obtain ⟨W4, hW4⟩ : ∃ W4, ((W3.setCell ⟨P3, 0, none⟩ (.int .i64 (g3.link : Int))).setCell ⟨P3, 1, none⟩ (.int .i64 g3.fr)).setCell ⟨P3, 2, none⟩ (.int .i64 g3.to) = W4 := ⟨_, rfl⟩
      rw [hW4] at hr4 hk4
      have hs1 := hK1.size
      have hs2 := hK2.size
      have hs3 := hb3.size
      have hMP3 : M ≠ P3 := by omega
      have hgP3 : g ≠ P3 := by rcases hg1 with e | e; have := own_lt hI.own g e; omega; omega
      have hgZ3 : Z < P3 := by omega
      have hKall : Keeps (fun j => j = M) w W4 := keeps_old3 hI.keep ((((hK1.mono (fun j _ e => .inl (by have := (hv1 j e).2.2; omega))).trans (hK2.mono (fun j _ e => .inr e))).trans (Keeps.of_new hb3)).trans (hk4.mono (fun j _ e => .inl (by omega))))
      have hgM : g ≠ M := by rcases hg1 with e | e; have := (hv1 g e).2.2; omega; omega
      have HN := Lib.hid (show ∃ v0 : Value, .slice (some ⟨g, 0, none⟩) (ws.length + 1) c = v0 ∧ ∃ (y : Int) (p ws : List Wy) (gw : Wy) (P : Nat), (cameW fs tr y).getD ⟨0, 0, 0⟩ = gw ∧ Z < P ∧ W4.heap[P]? = some (.cells #[.int .i64 (gw.link : Int), .int .i64 gw.fr, .int .i64 gw.to] 79 (0, 0)) ∧ Value.pointer (some ⟨P3, 0, none⟩) = .pointer (some ⟨P, 0, none⟩) ∧ TkI zs op fs tr en M nn w y p ws v0 W4 ∧ (∀ g, v0.ownBlock = some g → g ≠ P ∧ g ≠ Z) from by
        refine ⟨_, rfl, w1.fr, q1, w1 :: ws, g3, P3, hg3, hgZ3, ?_, rfl, ⟨⟨_, htr⟩, hrkf, ⟨rfl, by rw [hw1]; exact hI.path⟩, ?_, ?_, ?_, ⟨_, (hT3.keep hk4 hMP3), fun x hx => ?_⟩, ?_, fun k e => ?_, hKall, ?_⟩, fun k e => ?_⟩
        · rw [hr4]; rfl
        · intro x hx
          rcases List.mem_cons.1 hx with rfl | hx
          · exact ⟨by rw [htr]; simp, hnrk⟩
          · exact ⟨(hI.mem x hx).1, fun e => (hI.mem x hx).2 (hrkp _ e)⟩
        · rw [List.map_cons, List.nodup_cons]
          exact ⟨by rw [hw1]; exact hI.ny, hI.nod⟩
        · rw [List.map_cons, List.mem_cons]
          rintro (e | e)
          · exact hne2 e
          · obtain ⟨x, hx, e2⟩ := List.mem_map.1 e
            exact (hI.mem x hx).2 (by rw [e2]; exact hrkp _ hrkf)
        · unfold putW
          rw [if_neg (fun (e : x = w1.to) => hnrk (by rw [← e]; exact hx))]
          exact hS x (hrkp x hx)
        · rw [List.reverse_cons]
          refine own_keep (own_keep (own_keep hown1 hK2 (fun k e e2 => ?_)) (Keeps.of_new (Mut := fun _ => False) hb3) (fun _ _ e => e)) hk4 (fun k e e2 => ?_)
          · have e3 : g = k := Option.some.inj e
            omega
          · have e3 : g = k := Option.some.inj e
            omega
        · have e3 : g = k := Option.some.inj e
          rcases hg1 with e1 | e1
          · rw [← e3]; exact hI.new g e1
          · omega
        · have := hI.len
          rw [hp] at this
          simp only [List.length_append, List.length_cons] at this ⊢
          omega
        · have e3 : g = k := Option.some.inj e
          refine ⟨by omega, ?_⟩
          rcases hg1 with e1 | e1
          · rw [← e3]; exact (hv1 g e1).2.1
          · omega)
      have HZ4 := Lib.hid ((hk4.block _ (by have := lt_of_block hZ2; omega) (by omega)).trans ((hb3.block _ (lt_of_block hZ2)).trans hZ2))
      have HW3 := Lib.hid hW3
      have HP3 := Lib.hid hP3
      have HW4 := Lib.hid hW4
      have q20 : W2.cell? ⟨P, 0, none⟩ = some (.int .i64 (w1.link : Int)) := by rw [cell_row hrow2]; rfl
      have q21 : W2.cell? ⟨P, 1, none⟩ = some (.int .i64 w1.fr) := by rw [cell_row hrow2]; rfl
      have q22 : W2.cell? ⟨P, 2, none⟩ = some (.int .i64 w1.to) := by rw [cell_row hrow2]; rfl
      have q12 : W1.cell? ⟨P, 2, none⟩ = some (.int .i64 w1.to) := by rw [cell_row hrow1]; rfl
      have HVL := Lib.hid (show lenV v = ws.length by
        rcases hI.own.2 with ⟨e, e0⟩ | ⟨g, cap, cur, e, _⟩
        · rw [e]; exact e0.symm
        · rw [e]; rfl)
      have hcase : ¬ w1.fr = 0 ∨ ¬ w1.to = 0 := by omega
      have hwl : ws.length < 100 := by have := hI.len; rw [hp] at this; simp only [List.length_append, List.length_cons] at this; omega
      clear hI hT hS hT1 hT2 hT3 hown1 hK1 hK2 hb3 hr4 hk4 hKall hrow hrow1 hrow2 hZ1 hZ2 hr3 hv1 hvP hgM hgZ3 hgP3 hMP3 hs1 hs2 hs3 hZv hfr hrkp hrkt hyr hway hopw hrkf hnrk hcw htr hs hp hyp hS3 hg3 hlenW hkw HX hW3 hP3 hW4 hg1 hc1 hw1 hne2
      rcases hcase with hcs | hcs
      all_goals (
        go_wp2_with fail
        rw [HW3.out, HP3.out]
        rw [hl3]
        go_wp2_with fail
        rw [HW4.out]
        go_roundw
        case rel => exact ⟨HN, HZ4⟩
        case measure => show 100 - (ws.length + 1) < 100 - _; rw [HVL.out]; omega)
end
end Go.Proofs.Ytigohccehllmnaa

namespace Go.Proofs.Ytigohccehllmnaa
set_option linter.unusedSimpArgs false
set_option linter.unusedVariables false
open Go.RowKit Go.Shelf
abbrev opSr0 : Oper := { dst := some 67, op := Go.Op.load 94 (Go.Operand.tmp 8), type := 94, pos := "search.go:58", after := #[], guard := none }
abbrev opSr1 : Oper := { dst := some 68, op := Go.Op.load 3 (Go.Operand.tmp 9), type := 3, pos := "search.go:58", after := #[], guard := none }
abbrev opSr2 : Oper := { dst := some 69, op := Go.Op.load 4 (Go.Operand.tmp 10), type := 4, pos := "search.go:58", after := #[], guard := none }
abbrev opSr3 : Oper := { dst := none, op := Go.Op.store 94 (Go.Operand.tmp 8) (Go.Operand.tmp 67), type := 0, pos := "search.go:58", after := #[{ on := 0, ground := Go.Ground.data }, { on := 0, ground := Go.Ground.phase }, { on := 1, ground := Go.Ground.textOnly Go.Departure.inlinedCapture }, { on := 2, ground := Go.Ground.textOnly Go.Departure.inlinedCapture }], guard := none }
abbrev opSr4 : Oper := { dst := none, op := Go.Op.store 3 (Go.Operand.tmp 9) (Go.Operand.tmp 68), type := 0, pos := "search.go:58", after := #[{ on := 1, ground := Go.Ground.data }, { on := 3, ground := Go.Ground.chain }, { on := 0, ground := Go.Ground.phase }, { on := 1, ground := Go.Ground.phase }, { on := 2, ground := Go.Ground.textOnly Go.Departure.inlinedCapture }, { on := 3, ground := Go.Ground.phase }], guard := none }
abbrev opSr5 : Oper := { dst := none, op := Go.Op.store 4 (Go.Operand.tmp 10) (Go.Operand.tmp 69), type := 0, pos := "search.go:58", after := #[{ on := 2, ground := Go.Ground.data }, { on := 4, ground := Go.Ground.chain }, { on := 0, ground := Go.Ground.phase }, { on := 1, ground := Go.Ground.phase }, { on := 2, ground := Go.Ground.phase }, { on := 3, ground := Go.Ground.phase }, { on := 4, ground := Go.Ground.phase }], guard := none }

/-- A value of functions that tells of ways what op says. -/
def TellsW (W : World) (fv : Value) (D : Wy → Prop) (op : Wy → Bool) : Prop :=
  ∃ g ra lb, fv = .func (.func g) ra lb ∧ (∀ args w, (callFunc g args).run Try.prog w = .ok (.enter g args) w) ∧ ∀ W2 x, D x → Below W.heap.size W W2 → Calls Try.prog g (ra ++ #[wV x] ++ lb) W2 fun e W3 => e = .returned (.bool (op x)) ∧ Below W2.heap.size W2 W3
theorem TellsW.below {W W' : World} {fv : Value} {D : Wy → Prop} {op : Wy → Bool} (h : TellsW W fv D op) (hb : Below W.heap.size W W') : TellsW W' fv D op := by
  obtain ⟨g, ra, lb, a, b, c⟩ := h
  exact ⟨g, ra, lb, a, b, fun W2 x hx h2 => c W2 x hx (hb.trans (h2.mono hb.size))⟩
theorem BdOk.okl {b : BD} (h : BdOk b) : OkL b.l.N.toNat b.zs := fun k hk => by
  have := h.ok k (by rw [← h.zl]; exact hk)
  have := h.N
  omega
/-- Marks of ranges that are over. -/
def Marks (lo : Nat) (W : World) : List Deferred → Prop
  | [] => True
  | d :: ds => (∃ D, d = { target := .collected D, args := #[] } ∧ lo ≤ D ∧ D < W.heap.size ∧ W.heap[D]? = some (.deferred (some [])) ∧ (∀ d' ∈ ds, d' ≠ { target := .collected D, args := #[] })) ∧ Marks lo W ds
theorem Marks.keep {lo : Nat} {Mut : Nat → Prop} {W W' : World} {ds : List Deferred} (h : Marks lo W ds) (hK : Keeps Mut W W') (hm : ∀ k, Mut k → k < lo) : Marks lo W' ds := by
  induction ds with
  | nil => trivial
  | cons d ds ih =>
    obtain ⟨⟨D, h1, h2, h3, h4, h5⟩, h6⟩ := h
    exact ⟨⟨D, h1, h2, Nat.lt_of_lt_of_le h3 hK.size, (hK.block D h3 (fun e => by have := hm D e; omega)).trans h4, h5⟩, ih h6⟩
theorem Marks.old {lo : Nat} {W : World} {ds : List Deferred} (h : Marks lo W ds) : ∀ d ∈ ds, ∀ D, W.heap.size ≤ D → d ≠ { target := .collected D, args := #[] } := by
  induction ds with
  | nil => simp
  | cons d ds ih =>
    obtain ⟨⟨D, h1, h2, h3, h4, h5⟩, h6⟩ := h
    intro d' hd D' hD e
    rcases List.mem_cons.1 hd with rfl | hd
    · rw [h1] at e
      simp only [Deferred.mk.injEq, Target.collected.injEq, and_true] at e
      omega
    · exact ih h6 d' hd D' hD e
theorem Marks.push {lo D : Nat} {W0 W : World} {ds : List Deferred} (h0 : Marks lo W0 ds) (h : Marks lo W ds) (hlo : lo ≤ W0.heap.size) (hD : W0.heap.size ≤ D) (hDW : D < W.heap.size) (hd : W.heap[D]? = some (.deferred (some []))) :
    Marks lo W ({ target := .collected D, args := #[] } :: ds) :=
  ⟨⟨D, rfl, Nat.le_trans hlo hD, hDW, hd, fun d' hd' => h0.old d' hd' D hD⟩, h⟩
/-- What is no mark stays when the marks are taken. -/
theorem Marks.leaves {F : Fence} {n : Nat} {P : Program} {fn : Func} {tmps : Array Value} {R : Ending → World → Prop} {lo : Nat} (ds : List Deferred) (W : World) (h : Marks lo W ds)
    (hR : ∀ W', Keeps (fun j => lo ≤ j ∧ W.heap[j]? = some (.deferred (some []))) W W' → LeavesInM F n P fn tmps R [] .returning W') : LeavesInM F n P fn tmps R ds .returning W := by
  induction ds generalizing W with
  | nil => exact hR W (Keeps.refl _ _)
  | cons d ds ih =>
    obtain ⟨⟨D, rfl, h2, h3, h4, h5⟩, h6⟩ := h
    refine ⟨by simp, .inl ⟨D, _, rfl, run_takeDeferred h4, ?_⟩⟩
    have hp : Keeps (fun j => j = D) W (W.putObj D (.deferred none)) := Keeps.putObj _ _ _ rfl
    have hm : Marks lo (W.putObj D (.deferred none)) ds := by
      clear ih hR
      induction ds with
      | nil => trivial
      | cons d ds ih2 =>
        obtain ⟨⟨E, e1, e2, e3, e4, e5⟩, e6⟩ := h6
        have hE : E ≠ D := fun e => h5 d (by simp) (by rw [e1, e])
        exact ⟨⟨E, e1, e2, Nat.lt_of_lt_of_le e3 hp.size, (hp.block E e3 hE).trans e4, e5⟩, ih2 e6 (fun d' hd => h5 d' (List.mem_cons_of_mem _ hd))⟩
    refine ih _ hm (fun W' hK => hR W' ?_)
    refine (hp.mono (fun k _ e => by subst e; exact ⟨h2, h4⟩)).trans (hK.mono (fun k hk e => ?_))
    by_cases hkD : k = D
    · subst hkD; exact ⟨h2, h4⟩
    · refine ⟨e.1, ?_⟩
      have := World.putObj_heap_other (w := W) (o := Obj.deferred none) hkD
      rw [← this]; exact e.2
/-- Marks stay where no mark is changed. -/
theorem Marks.keepC {lo : Nat} {Mut : Nat → Prop} {W W' : World} {ds : List Deferred} (h : Marks lo W ds) (hK : Keeps Mut W W') (hm : ∀ k, Mut k → W.heap[k]? ≠ some (.deferred (some []))) : Marks lo W' ds := by
  induction ds with
  | nil => trivial
  | cons d ds ih =>
    obtain ⟨⟨D, h1, h2, h3, h4, h5⟩, h6⟩ := h
    exact ⟨⟨D, h1, h2, Nat.lt_of_lt_of_le h3 hK.size, (hK.block D h3 (fun e => hm D e h4)).trans h4, h5⟩, ih h6⟩
open Classical in
theorem nodup_le {α : Type} : ∀ (l L : List α), l.Pairwise (· ≠ ·) → (∀ x ∈ l, x ∈ L) → l.length ≤ L.length
  | [], L, _, _ => Nat.zero_le _
  | x :: l, L, hn, hs => by
    have h1 := nodup_le l (L.erase x) (List.pairwise_cons.1 hn).2 (fun y hy => (List.mem_erase_of_ne (Ne.symm ((List.pairwise_cons.1 hn).1 y hy))).2 (hs y (List.mem_cons_of_mem _ hy)))
    have h2 := List.length_erase_of_mem (hs x (by simp))
    have h3 := List.length_pos_of_mem (hs x (by simp))
    simp only [List.length_cons]
    omega
theorem tr_len {N : Nat} {zs : List Nl} (hz : OkL N zs) {op : Wy → Bool} {fs : List Int} {tr : List Wy} (h : TrOk zs op fs tr) (hf : ∀ x ∈ fs, 0 ≤ x ∧ x < N) : tr.length ≤ N := by
  have h1 := (TrOk.nodup tr.length tr rfl h).1
  have h2 := nodup_le (tr.map (·.to)) ((List.range N).map fun k : Nat => (k : Int)) (show List.Pairwise (· ≠ ·) (tr.map (·.to)) from h1) (fun x hx => by
    have := Rk.in hz hf h (.inr hx)
    exact List.mem_map.2 ⟨x.toNat, List.mem_range.2 (by omega), by omega⟩)
  simpa using h2
/-- What a search has in memory. -/
structure SrM (b : BD) (op : Wy → Bool) (fs : List Int) (W0 Q n : Nat) (fo fm : Value) (en : Int) (ok : Bool) (w : World) (tr : List Wy) (v : Value) (W : World) : Prop where
  map : Tm W (W0 + 5) (n + tr.length) (cameW fs tr)
  q : W.heap[Q]? = some (.cells #[v] 23 (0, 0))
  own : W.ownsRow 0 3 1 v (n + tr.length) (flatI (fs ++ tr.map (·.to)))
  new : ∀ g, v.ownBlock = some g → W0 + 6 ≤ g ∧ g ≠ Q
  c6 : W.heap[W0]? = some (.cells #[fo] 96 (0, 0))
  c7 : W.heap[W0 + 1]? = some (.cells #[fm] 73 (0, 0))
  c8 : W.heap[W0 + 2]? = some (.cells #[.map (some (W0 + 5))] 94 (0, 0))
  c9 : W.heap[W0 + 3]? = some (.cells #[.int .i64 en] 3 (0, 0))
  c10 : W.heap[W0 + 4]? = some (.cells #[.bool ok] 4 (0, 0))
  ok : TrOk b.zs op fs tr
  keep : Below W0 w W
  lo : W0 + 6 ≤ Q
theorem SrM.abide {b : BD} {op : Wy → Bool} {fs : List Int} {W0 Q n : Nat} {fo fm : Value} {en : Int} {ok : Bool} {w : World} {tr : List Wy} {v : Value} {W W' : World} {Mut : Nat → Prop} (h : SrM b op fs W0 Q n fo fm en ok w tr v W) (hK : Keeps Mut W W') (h1 : ∀ k, Mut k → W0 + 6 ≤ k ∧ k ≠ Q) (h2 : ∀ g, v.ownBlock = some g → ¬ Mut g) : SrM b op fs W0 Q n fo fm en ok w tr v W' := by
  have k : ∀ j x, j < W0 + 6 ∨ j = Q → W.heap[j]? = some x → W'.heap[j]? = some x := fun j x hj hx => (hK.block _ (lt_of_block hx) (fun e => by have := h1 _ e; omega)).trans hx
  refine ⟨h.map.keep hK (fun e => by have := h1 _ e; omega), k _ _ (.inr rfl) h.q, own_keep h.own hK h2, h.new, k _ _ (.inl (by omega)) h.c6, k _ _ (.inl (by omega)) h.c7, k _ _ (.inl (by omega)) h.c8, k _ _ (.inl (by omega)) h.c9, k _ _ (.inl (by omega)) h.c10, h.ok, ?_, h.lo⟩
  exact ⟨hK.os.trans h.keep.os, hK.tape.trans h.keep.tape, hK.output.trans h.keep.output, Nat.le_trans h.keep.size hK.size, fun j hj => (hK.block j (Nat.lt_of_lt_of_le (Nat.lt_of_lt_of_le hj (by have := lt_of_block h.c6; have := h.keep.size; exact Nat.le_of_lt (by omega))) (Nat.le_refl _)) (fun e => by have := h1 _ e; omega)).trans (h.keep.block j hj)⟩
theorem SrM.step {b : BD} {op : Wy → Bool} {fs : List Int} {W0 Q n : Nat} {fo fm : Value} {w : World} {tr : List Wy} {v : Value} {W : World} (h : SrM b op fs W0 Q n fo fm 0 false w tr v W) {wy : Wy} (hw : isWay b.zs wy) (ho : op wy = true) (h1 : Rk fs tr wy.fr) (h2 : ¬ Rk fs tr wy.to) (hto : 0 ≤ wy.to ∧ wy.to < 40) (hl : n + tr.length ≤ 1000) :
    ∃ W8 C c W9, (Instr.mapUpdate 94 (.map (some (W0 + 5))) (.int .i64 wy.to) (.agg #[.int .i64 (wy.link : Int), .int .i64 wy.fr, .int .i64 wy.to])).run Try.prog W = .ok () W8 ∧ Keeps (fun j => j = W0 + 5) W W8 ∧ W8.heap[Q]? = some (.cells #[v] 23 (0, 0)) ∧
      runA Try.prog 23 v (.slice (some ⟨W8.heap.size, 0, none⟩) 1 1) (W8.alloc (.cells #[.int .i64 wy.to] 3)) = .ok (.value (.slice C (n + tr.length + 1) c)) W9 ∧ Keeps (fun j => j = W0 + 5 ∨ v.ownBlock = some j) W W9 ∧ W9.heap[Q]? = some (.cells #[v] 23 (0, 0)) ∧
      SrM b op fs W0 Q n fo fm 0 false w (tr ++ [wy]) (.slice C (n + tr.length + 1) c) (W9.setCell ⟨Q, 0, none⟩ (.slice C (n + tr.length + 1) c)) ∧ (∀ g, (Value.slice C (n + tr.length + 1) c).ownBlock = some g → v.ownBlock = some g ∨ (W.heap.size ≤ g ∧ g < W9.heap.size)) := by
  obtain ⟨W8, hput, hT8, hk8⟩ := h.map.put hto wy (by omega)
  unfold wV at hput
  have hq8 := (hk8.block _ (lt_of_block h.q) (fun e => by
    have h9 := h.map
    obtain ⟨D, ⟨es, clock, hb, _⟩, _⟩ := h9
    rw [← e, h.q] at hb; cases hb)).trans h.q
  have hQM : Q ≠ W0 + 5 := fun e => by
    have h9 := h.map
    obtain ⟨D, ⟨es, clock, hb, _⟩, _⟩ := h9
    rw [← e, h.q] at hb; cases hb
  have hown8 := own_keep h.own hk8 (fun g e e2 => by have := h.new g e; omega)
  obtain ⟨C, c, W9, hrun, hown9, hk9, hd9⟩ := app_int hown8 wy.to (by omega)
  have hq9 := (hk9.block _ (lt_of_block hq8) (fun e => (h.new Q e).2 rfl)).trans hq8
  have hK9 : Keeps (fun j => j = W0 + 5 ∨ v.ownBlock = some j) W W9 := (hk8.mono (fun j _ e => .inl e)).trans (hk9.mono (fun j _ e => .inr e))
  have hk10 := keeps_setCell W9 Q 0 (.slice C (n + tr.length + 1) c)
  have hs8 := hk8.size
  have hs9 := hk9.size
  have hnew : ∀ g, (Value.slice C (n + tr.length + 1) c).ownBlock = some g → v.ownBlock = some g ∨ (W.heap.size ≤ g ∧ g < W9.heap.size) := fun g e => (hd9 g e).imp id (fun e => ⟨by omega, e.2⟩)
  have hQW := lt_of_block h.q
  have hMW := h.map.lt
  have hK10 : Keeps (fun j => j = W0 + 5 ∨ j = Q ∨ v.ownBlock = some j) W (W9.setCell ⟨Q, 0, none⟩ (.slice C (n + tr.length + 1) c)) := (hK9.mono (fun j _ e => e.elim .inl (fun e => .inr (.inr e)))).trans (hk10.mono (fun j _ e => .inr (.inl e)))
  have k : ∀ j x, j < W0 + 5 → j ≠ Q → W.heap[j]? = some x → (W9.setCell ⟨Q, 0, none⟩ (.slice C (n + tr.length + 1) c)).heap[j]? = some x := fun j x hj hq hx => (hK10.block _ (lt_of_block hx) (fun e => by
    rcases e with e | e | e
    · omega
    · exact hq e
    · have := h.new _ e; omega)).trans hx
  have nq : ∀ j x y, W.heap[j]? = some (.cells #[x] y (0, 0)) → j ≤ W0 + 4 → y ≠ 23 → j ≠ Q := fun j x y hx _ hy e => by
    rw [e, h.q] at hx
    simp only [Option.some.injEq, Obj.cells.injEq] at hx
    exact hy hx.2.1.symm
  refine ⟨W8, C, c, W9, hput, hk8, hq8, hrun, hK9, hq9, ⟨?_, ?_, ?_, fun g e => ?_, k _ _ (by omega) (nq _ _ _ h.c6 (by omega) (by decide)) h.c6, k _ _ (by omega) (nq _ _ _ h.c7 (by omega) (by decide)) h.c7, k _ _ (by omega) (nq _ _ _ h.c8 (by omega) (by decide)) h.c8, k _ _ (by omega) (nq _ _ _ h.c9 (by omega) (by decide)) h.c9, k _ _ (by omega) (nq _ _ _ h.c10 (by omega) (by decide)) h.c10, h.ok.snoc hw ho h1 h2, ?_, h.lo⟩, hnew⟩
  · rw [List.length_append, List.length_singleton, cameW_snoc h2, ← Nat.add_assoc]
    exact (hT8.keep hk9 (fun e => by have := h.new _ e; omega)).keep hk10 (Ne.symm hQM)
  · exact set_same 0 _ hq9
  · rw [List.length_append, List.length_singleton, ← Nat.add_assoc, List.map_append, ← List.append_assoc]
    exact own_keep hown9 hk10 (fun g e e2 => by
      rcases hd9 g e with e3 | e3
      · exact (h.new g e3).2 e2
      · omega)
  · rcases hnew g e with e3 | e3
    · exact h.new g e3
    · omega
  · refine h.keep.trans (hK10.below (by have := h.map.lt; omega) (fun j hj e => ?_))
    rcases e with e | e | e
    · omega
    · have h7 := nq (W0) _ _ h.c6 (by omega) (by decide)
      have h9 := h.keep.block j hj
      rw [e] at hj
      exact absurd hj (by have := h.lo; omega)
    · have := h.new _ e; omega
theorem SrM.fin {b : BD} {op : Wy → Bool} {fs : List Int} {W0 Q n : Nat} {fo fm : Value} {w : World} {tr : List Wy} {v : Value} {W : World} (h : SrM b op fs W0 Q n fo fm 0 false w tr v W) (en : Int) :
    SrM b op fs W0 Q n fo fm en true w tr v ((W.setCell ⟨W0 + 3, 0, none⟩ (.int .i64 en)).setCell ⟨W0 + 4, 0, none⟩ (.bool true)) ∧ Keeps (fun j => j = W0 + 3 ∨ j = W0 + 4) W ((W.setCell ⟨W0 + 3, 0, none⟩ (.int .i64 en)).setCell ⟨W0 + 4, 0, none⟩ (.bool true)) := by
  have hk1 := keeps_setCell W (W0 + 3) 0 (.int .i64 en)
  have hk2 := keeps_setCell (W.setCell ⟨W0 + 3, 0, none⟩ (.int .i64 en)) (W0 + 4) 0 (.bool true)
  have hK : Keeps (fun j => j = W0 + 3 ∨ j = W0 + 4) W ((W.setCell ⟨W0 + 3, 0, none⟩ (.int .i64 en)).setCell ⟨W0 + 4, 0, none⟩ (.bool true)) := (hk1.mono (fun j _ e => .inl e)).trans (hk2.mono (fun j _ e => .inr e))
  have hlo := h.lo
  have k : ∀ j x, j ≠ W0 + 3 → j ≠ W0 + 4 → W.heap[j]? = some x → ((W.setCell ⟨W0 + 3, 0, none⟩ (.int .i64 en)).setCell ⟨W0 + 4, 0, none⟩ (.bool true)).heap[j]? = some x := fun j x h1 h2 hx => (hK.block _ (lt_of_block hx) (fun e => e.elim h1 h2)).trans hx
  have c9 := set_same 0 (.int .i64 en) h.c9
  have c10 := set_same 0 (.bool true) ((hk1.block _ (lt_of_block h.c10) (by omega)).trans h.c10)
  refine ⟨⟨h.map.keep hK (by omega), k _ _ (by omega) (by omega) h.q, own_keep h.own hK (fun g e e2 => by have := h.new g e; omega), h.new, k _ _ (by omega) (by omega) h.c6, k _ _ (by omega) (by omega) h.c7, k _ _ (by omega) (by omega) h.c8, ?_, c10, h.ok, h.keep.trans (hK.below (by have := h.map.lt; omega) (fun j hj e => by omega)), hlo⟩, hK⟩
  exact (hk2.block _ (lt_of_block c9) (by omega)).trans c9
theorem set_id {W : World} {k : Nat} {v : Value} {t : TypeId} {fr : Nat × Nat} (h : W.heap[k]? = some (.cells #[v] t fr)) : W.setCell ⟨k, 0, none⟩ v = W := by
  have e : (W.setCell ⟨k, 0, none⟩ v).heap = W.heap := by
    apply Array.ext_getElem?
    intro i
    by_cases hi : i = k
    · subst hi
      simp [World.setCell, Array.getElem?_modify, h]
    · simp [World.setCell, Array.getElem?_modify, Ne.symm hi]
  cases W
  simp only [World.setCell] at e ⊢
  rw [e]
/-- What a search may change on its way through the ways of a name. -/
def SrMut (W0 Q : Nat) (v0 : Value) (j : Nat) : Prop := (W0 + 3 ≤ j ∧ j ≤ W0 + 5) ∨ j = Q ∨ v0.ownBlock = some j
/-- The ways pre of a name are looked through. -/
def SrI (b : BD) (op : Wy → Bool) (mn : Int → Bool) (fs : List Int) (W0 Q n : Nat) (fo fm : Value) (w : World) (tr : List Wy) (v0 : Value) (W4 : World) (pre : List Wy) (O : Nat → Prop) (U : World) : Prop :=
  ∃ s v', SrM b op fs W0 Q n fo fm 0 false w (tr ++ s) v' U ∧ (∀ x ∈ pre, op x = true → Rk fs (tr ++ s) x.to) ∧ (∀ x ∈ tr ++ s, mn x.to = false) ∧ (∀ g, v'.ownBlock = some g → v0.ownBlock = some g ∨ O g) ∧ Keeps (SrMut W0 Q v0) W4 U
/-- A name that is meant is reached. -/
def SrX (b : BD) (op : Wy → Bool) (mn : Int → Bool) (fs : List Int) (W0 Q n : Nat) (fo fm : Value) (w : World) (tr : List Wy) (v0 : Value) (W4 : World) (O : Nat → Prop) (U : World) : Prop :=
  ∃ s x v', SrM b op fs W0 Q n fo fm x.to true w (tr ++ s ++ [x]) v' U ∧ mn x.to = true ∧ (∀ g, v'.ownBlock = some g → v0.ownBlock = some g ∨ O g) ∧ Keeps (SrMut W0 Q v0) W4 U
theorem SrI.ab {b : BD} {op : Wy → Bool} {mn : Int → Bool} {fs : List Int} {W0 Q n : Nat} {fo fm : Value} {w : World} {tr : List Wy} {v0 : Value} {W4 : World} {pre : List Wy} (hv : ∀ g, v0.ownBlock = some g → g < W4.heap.size) (hQ : Q < W4.heap.size) (h6 : W0 + 6 ≤ W4.heap.size) : AbO W4.heap.size (SrI b op mn fs W0 Q n fo fm w tr v0 W4 pre) := by
  rintro O U U' ⟨s, v', h1, h2, h3, h4, h5⟩ hK
  exact ⟨s, v', h1.abide hK (fun k e => ⟨by omega, by omega⟩) (fun g e e2 => (h4 g e).elim (fun e3 => by have := hv g e3; omega) e2.2), h2, h3, h4, keeps_old3 h5 (hK.mono (fun j _ e => .inl e.1))⟩
theorem SrX.ab {b : BD} {op : Wy → Bool} {mn : Int → Bool} {fs : List Int} {W0 Q n : Nat} {fo fm : Value} {w : World} {tr : List Wy} {v0 : Value} {W4 : World} (hv : ∀ g, v0.ownBlock = some g → g < W4.heap.size) (hQ : Q < W4.heap.size) (h6 : W0 + 6 ≤ W4.heap.size) : AbO W4.heap.size (SrX b op mn fs W0 Q n fo fm w tr v0 W4) := by
  rintro O U U' ⟨s, x, v', h1, h2, h4, h5⟩ hK
  exact ⟨s, x, v', h1.abide hK (fun k e => ⟨by omega, by omega⟩) (fun g e e2 => (h4 g e).elim (fun e3 => by have := hv g e3; omega) e2.2), h2, h4, keeps_old3 h5 (hK.mono (fun j _ e => .inl e.1))⟩
theorem enters86 : ∀ args w, (callFunc 86 args).run Try.prog w = .ok (.enter 86 args) w := enters_of Try.func86 (by kernel_rfl) rfl
section
attribute [local go_sem ↓] exec_app at_app
attribute [local go_sem] Oper.semAt_some
set_option maxRecDepth 100000 in
set_option maxHeartbeats 16000000 in
theorem search72 (b : BD) (f : Nat → Int) (A : Option Addr) (n cap : Nat) (fs : List Int) (go gm : FuncId) (ra lb rm lm : Array Value) (op : Wy → Bool) (mn : Int → Bool) (w : World) (h : Bd w b f) (hok : BdOk b) (hI : Ints w A n fs) (h0 : 0 < n) (hn : n ≤ 40) (hfs : ∀ x ∈ fs, 0 ≤ x ∧ x < b.l.N)
    (hfo : TellsW w (.func (.func go) ra lb) (fun wy => isWay b.zs wy) op) (hfm : Tells w (.func (.func gm) rm lm) (fun x => 0 ≤ x ∧ x < b.l.N) mn) :
    Calls Try.prog 72 #[.pointer (some ⟨b.B, 0, none⟩), .slice A n cap, .func (.func go) ra lb, .func (.func gm) rm lm] w fun e w' => ∃ M en ok tr, e = .returned (.tuple #[.map (some M), .int .i64 en, .bool ok]) ∧ Tm w' M (n + tr.length) (cameW fs tr) ∧ w.heap.size ≤ M ∧ Below w.heap.size w w' ∧ TrOk b.zs op fs tr ∧
      (ok = false → (∀ x, isWay b.zs x → op x = true → Rk fs tr x.fr → Rk fs tr x.to) ∧ ∀ x ∈ tr, mn x.to = false) ∧ (ok = true → ∃ tr' x, tr = tr' ++ [x] ∧ x.to = en ∧ mn en = true) := by
  have hmm := @run_makeMap Try.prog
  have Hd := Lib.hid h
  have HI := Lib.hid hI
  have Hok := Lib.hid hok
  obtain ⟨go1, ra1, lb1, eo, ego, hfo⟩ := hfo
  cases eo
  obtain ⟨gm1, rm1, lm1, em, egm, hfm⟩ := hfm
  cases em
  have Hfo := Lib.hid hfo
  have Hfm := Lib.hid hfm
  have Hego := Lib.hid ego
  have Hegm := Lib.hid egm
  have Hfs := Lib.hid hfs
  obtain ⟨W0, hW0⟩ : ∃ W0, w.heap.size = W0 := ⟨_, rfl⟩
  have HW0 := Lib.hid hW0
  clear h hok hI hfs hfo hfm hW0 ego egm
  refine (callsIn_wide (n := 5)).1 ?_
  refine callsIn_of_wp_marks Try.func72 rfl trivial ?_ rfl
  simp only [Try.ntmps72, List.size_toArray, List.length_cons, List.length_nil, Nat.reduceAdd, Nat.reduceSub, Array.replicate_succ, Array.replicate_zero, List.push_toArray, List.append_toArray, List.nil_append, List.cons_append]
  gi_wp2_with fail
  refine wpIn_scope_ ?_
  gi_wp2_with fail
  obtain ⟨w1, hw1⟩ : ∃ v, ((((((w.alloc (.cells #[.func (.func go) ra lb] 96)).alloc (.cells #[.func (.func gm) rm lm] 73)).alloc (.cells #[.map (some (w.heap.size + 1 + 1 + 1 + 1 + 1))] 94)).alloc (.cells #[.int .i64 0] 3)).alloc (.cells #[.bool false] 4)).alloc (.map #[] 0)) = v := ⟨_, rfl⟩
  rw [hw1]
  have hb1 : Below w.heap.size w w1 := by
    rw [← hw1]
    exact (((((below_alloc_ _ _).trans ((below_alloc_ _ _).mono (by simp))).trans ((below_alloc_ _ _).mono (by simp; omega))).trans ((below_alloc_ _ _).mono (by simp; omega))).trans ((below_alloc_ _ _).mono (by simp; omega))).trans ((below_alloc_ _ _).mono (by simp; omega))
  have hr6 : w1.heap[W0]? = some (.cells #[.func (.func go) ra lb] 96 (0, 0)) := by rw [← hw1, ← HW0.out]; exact hal_old (hal_old (hal_old (hal_old (hal_old (heap_alloc_new_ _ _)))))
  have hr7 : w1.heap[W0 + 1]? = some (.cells #[.func (.func gm) rm lm] 73 (0, 0)) := by rw [← hw1, ← HW0.out]; exact hal_old (hal_old (hal_old (hal_old (hal_new (by simp)))))
  have hr8 : w1.heap[W0 + 2]? = some (.cells #[.map (some (W0 + 5))] 94 (0, 0)) := by rw [← hw1, ← HW0.out]; exact hal_old (hal_old (hal_old (hal_new (by simp))))
  have hr9 : w1.heap[W0 + 3]? = some (.cells #[.int .i64 0] 3 (0, 0)) := by rw [← hw1, ← HW0.out]; exact hal_old (hal_old (hal_new (by simp)))
  have hr10 : w1.heap[W0 + 4]? = some (.cells #[.bool false] 4 (0, 0)) := by rw [← hw1, ← HW0.out]; exact hal_old (hal_new (by simp))
  have hrM : w1.heap[W0 + 5]? = some (.map #[] 0) := by rw [← hw1, ← HW0.out]; exact hal_new (by simp)
  rw [HW0.out]
  simp only [Nat.add_assoc, Nat.reduceAdd]
  have HB1 := Lib.hid hb1
  have H6 := Lib.hid hr6
  have H7 := Lib.hid hr7
  have H8 := Lib.hid hr8
  have H9 := Lib.hid hr9
  have H10 := Lib.hid hr10
  have HM0 := Lib.hid (show Tm w1 (W0 + 5) 0 (cameW (fs.take 0) []) from by
    have := Tm.new hrM
    have e : cameW (fs.take 0) [] = fun _ => none := by funext x; simp [cameW]
    rw [e]; exact this)
  have hW1 : W0 + 6 ≤ w1.heap.size := lt_of_block hrM
  clear hw1 hb1 hr6 hr7 hr8 hr9 hr10 hrM hmm
  gi_loopw [12, 19] (fun x a wr => ∃ k : Nat, k ≤ n ∧ a = .int .i64 (k : Int) ∧ Hid (Tm wr (W0 + 5) k (cameW (fs.take k) []) ∧ Keeps (fun j => j = W0 + 5) w1 wr)) (fun x a _ => n - (intOf a).toNat)
  case atStart => exact ⟨0, Nat.zero_le _, rfl, Lib.hid ⟨HM0.out, Keeps.refl _ _⟩⟩
  case round =>
    obtain ⟨k, hk, rfl, HR⟩ := hrel
    obtain ⟨wk, rfl⟩ : ∃ wk, wk = wr := ⟨_, rfl⟩
    have hrK := HR.out.2
    by_cases hlt : k < n
    · have hIw := (HI.out.below HB1.out (by omega)).keepN hrK (fun hn a e => by
        obtain ⟨b0, o0, e2, hc⟩ := HI.out.2 hn
        rw [e] at e2; cases e2
        have := lt_of_cell (hc 0 hn)
        have := HW0.out
        simp only; omega)
      obtain ⟨bz, oz, rfl, hcz⟩ := hIw.2 (by omega)
      have z0 := hcz k hlt
      have c8 : wk.cell? ⟨W0 + 2, 0, none⟩ = some (.map (some (W0 + 5))) := by rw [cell_row ((hrK.block _ (lt_of_block H8.out) (by omega)).trans H8.out)]; rfl
      have hx := Hfs.out (iAt fs k) (by rw [iAt_eq (by rw [HI.out.1]; exact hlt)]; exact List.getElem_mem _)
      have hN := Hok.out.N
      obtain ⟨W2, hput, hT2, hk2⟩ := HR.out.1.put (x := iAt fs k) (by omega) ⟨0, 0, 0⟩ (by omega)
      unfold wV at hput
      simp only [Int.natCast_zero] at hput
      have e2 : cameW (fs.take (k + 1)) [] = putW (cameW (fs.take k) []) (iAt fs k) (some ⟨0, 0, 0⟩) := by
        rw [List.take_succ_eq_append_getElem (by rw [HI.out.1]; exact hlt), cameW_nil_snoc, iAt_eq (by rw [HI.out.1]; exact hlt)]
      have HN := Lib.hid (show Tm W2 (W0 + 5) (k + 1) (cameW (fs.take (k + 1)) []) ∧ Keeps (fun j => j = W0 + 5) w1 W2 from ⟨by rw [e2]; exact hT2, hrK.trans hk2⟩)
      have i0 : (0 : Int) ≤ (k : Int) := by omega
      have i1 : (k : Int) < (n : Int) := by omega
      clear hIw hcz hx hN hT2 hk2 e2 hrK
      gi_wp2_with fail
      try rw [hput]
      try gi_wp2_with fail
      go_roundw
      case rel => exact ⟨k + 1, by omega, by go_num, HN⟩
      case measure => simp [intOf]; omega
    · have e : k = n := by omega
      have HR2 := Lib.hid (show Tm wk (W0 + 5) n (cameW fs []) ∧ Keeps (fun j => j = W0 + 5) w1 wk from by
        have := HR.out
        rw [e, List.take_of_length_le (by rw [HI.out.1]; omega)] at this; exact this)
      have hIw := (HI.out.below HB1.out (by omega)).keepN hrK (fun hn a e => by
        obtain ⟨b0, o0, e2, hc⟩ := HI.out.2 hn
        rw [e] at e2; cases e2
        have := lt_of_cell (hc 0 hn)
        have := HW0.out
        simp only; omega)
      have HK := Lib.hid (clone84 A n cap fs wk hIw h0 (by omega))
      clear hIw hrK HR e
      gi_wp2_with fail
      refine ⟨trivial, (callsIn_wide.2 HK.out).mono ?_⟩
      rintro e2 w2 ⟨g, cp, rfl, hown, hg, hb2⟩
      have hb3 := below_alloc_ w2 (.cells #[.slice (some ⟨g, 0, none⟩) n cp] 23)
      have hr3 := heap_alloc_new_ w2 (.cells #[.slice (some ⟨g, 0, none⟩) n cp] 23)
      obtain ⟨w3, hw3⟩ : ∃ v, w2.alloc (.cells #[.slice (some ⟨g, 0, none⟩) n cp] 23) = v := ⟨_, rfl⟩
      rw [hw3] at hb3 hr3
      gi_wp2_with fail
      try rw [hw3]
      clear hw3
      refine wpIn_label ?_
      rename_i ux1 ux2 ux3 ux4 ux5 ux6 ux7
      have HS3 := Lib.hid (show SrM b op fs W0 w2.heap.size n (.func (.func go) ra lb) (.func (.func gm) rm lm) 0 false w [] (.slice (some ⟨g, 0, none⟩) n cp) w3 from by
        have hkk := HR2.out.2
        have hb23 := hb2.trans (hb3.mono hb2.size)
        have hs := hkk.size
        have hs2 := hb2.size
        have kk : ∀ j x, j < W0 + 5 → w1.heap[j]? = some x → w3.heap[j]? = some x := fun j x hj hx => (hb23.block j (by omega)).trans ((hkk.block _ (lt_of_block hx) (by omega)).trans hx)
        refine ⟨HR2.out.1.below hb23 (Nat.le_refl _), hr3, own_keep (by simpa using hown) (Keeps.of_new (Mut := fun _ => False) hb3) (fun _ _ e => e), fun k e => ?_, kk _ _ (by omega) H6.out, kk _ _ (by omega) H7.out, kk _ _ (by omega) H8.out, kk _ _ (by omega) H9.out, kk _ _ (by omega) H10.out, TrOk.nil _ _ _, ?_, by have := hkk.size; have := hb2.size; omega⟩
        · have e2 : g = k := Option.some.inj e
          have := own_lt hown g rfl
          omega
        · have h9 := HB1.out
          rw [HW0.out] at h9
          exact (h9.trans (hkk.below (by omega) (fun k hk e => by omega))).trans (hb23.mono (by omega)))
      obtain ⟨Q, hQ⟩ : ∃ Q, w2.heap.size = Q := ⟨_, rfl⟩
      have hQ6 : W0 + 6 ≤ Q := by have := HR2.out.2.size; have := hb2.size; omega
      rw [hQ] at HS3 ⊢
      clear hb2 hb3 hr3 hown hg hQ
      gi_wp2_with fail
      rename_i K9
      refine wpIn_loop (fun ac W => ∃ (q : Nat) (x12 x16 x17 x18 x19 x20 x21 x22 x23 x24 x25 x26 x27 x28 x29 x30 x31 x32 x33 x34 x35 x36 x37 x38 x39 x40 x41 : Value) (ds : List Deferred), ac = { tmps := #[.pointer (some ⟨b.B, 0, none⟩), .slice A n cap, .func (.func go) ra lb, .func (.func gm) rm lm, undef, undef, .pointer (some ⟨W0, 0, none⟩), .pointer (some ⟨W0 + 1, 0, none⟩), .pointer (some ⟨W0 + 2, 0, none⟩), .pointer (some ⟨W0 + 3, 0, none⟩), .pointer (some ⟨W0 + 4, 0, none⟩), undef, x12, .pointer (some ⟨Q, 0, none⟩), .int .i64 (q : Int), undef, x16, x17, x18, x19, x20, x21, x22, x23, x24, x25, x26, x27, x28, x29, x30, x31, x32, x33, x34, x35, x36, x37, x38, x39, x40, x41, undef, undef, undef, undef, undef, undef, undef, undef, undef, undef, undef, undef, undef, undef, undef, undef, undef, undef, undef, undef, undef, undef, undef, undef, undef, undef, undef, undef], defers := ds } ∧ Hid (∃ tr v, SrM b op fs W0 Q n (.func (.func go) ra lb) (.func (.func gm) rm lm) 0 false w tr v W ∧ q ≤ n + tr.length ∧ (∀ j, j < q → ∀ x, isWay b.zs x → op x = true → x.fr = iAt (fs ++ tr.map (·.to)) j → Rk fs tr x.to) ∧ (∀ x ∈ tr, mn x.to = false) ∧ Marks W0 W ds))
        (fun ac _ => 100 - (intOf (ac.tmps.getD 14 undef)).toNat) ?start ?round
      case start =>
        exact ⟨0, _, _, _, _, _, _, _, _, _, _, _, _, _, _, _, _, _, _, _, _, _, _, _, _, _, _, _, [], rfl, Lib.hid ⟨[], _, HS3.out, by omega, fun j hj => by omega, fun x hx => by simp at hx, trivial⟩⟩
      case round =>
        rintro ac W ⟨q, x12, x16, x17, x18, x19, x20, x21, x22, x23, x24, x25, x26, x27, x28, x29, x30, x31, x32, x33, x34, x35, x36, x37, x38, x39, x40, x41, ds, rfl, HQ⟩
        obtain ⟨tr, v, hS, hq, hcl, hnm, hD⟩ := HQ.out
        have hlt9 := tr_len Hok.out.okl hS.ok (fun x hx => by have := Hfs.out x hx; have := Hok.out.N; omega)
        have hN9 := Hok.out.N
        have hlen : n + tr.length ≤ 80 := by omega
        obtain ⟨C, cv, rfl, hcv, hCI, hCb⟩ := ints_own (by rw [List.length_append, List.length_map, HI.out.1]) hS.own
        have cq : W.cell? ⟨Q, 0, none⟩ = some (.slice C (n + tr.length) cv) := by rw [cell_row hS.q]; rfl
        by_cases hlt2 : q < n + tr.length
        · obtain ⟨bz, oz, rfl, hcz⟩ := hCI.2 (by omega)
          have zq := hcz q hlt2
          obtain ⟨x, hx⟩ : ∃ x, iAt (fs ++ tr.map (·.to)) q = x := ⟨_, rfl⟩
          rw [hx] at zq
          have hxR : Rk fs tr x := by
            have hql : q < (fs ++ tr.map (·.to)).length := by rw [List.length_append, List.length_map, HI.out.1]; exact hlt2
            have hmem : iAt (fs ++ tr.map (·.to)) q ∈ fs ++ tr.map (·.to) := by rw [iAt_eq hql]; exact List.getElem_mem _
            rw [hx] at hmem
            exact List.mem_append.1 hmem
          have hdW := Hd.out.below (show Below w.heap.size w W by rw [HW0.out]; exact hS.keep) (Nat.le_refl _)
          have HK7 := Lib.hid (ways76 b f x W hdW Hok.out)
          have i0 : (0 : Int) ≤ (q : Int) := by omega
          have i1 : (q : Int) < ((n + tr.length : Nat) : Int) := by omega
          have i1' : (q : Int) < (n : Int) + (tr.length : Int) := by omega
          have HS := Lib.hid hS
          have Hx := Lib.hid hx
          have HxR := Lib.hid hxR
          have Hcl := Lib.hid hcl
          have Hnm := Lib.hid hnm
          have HD := Lib.hid hD
          clear hS hx hxR hcl hnm hD hcz hCI hCb hdW HQ
          gi_wp2_with fail
          refine ⟨trivial, (callsIn_wide.2 HK7.out).mono ?_⟩
          rintro e4 W4 ⟨b1, b2, rfl, hb1e, hb2e, hsz4, hb4, hseq⟩
          have HS4 := Lib.hid (HS.out.abide (Keeps.of_new (Mut := fun j => W.heap.size ≤ j) hb4) (fun j e => ⟨by have := lt_of_block HS.out.q; omega, by have := lt_of_block HS.out.q; omega⟩) (fun g e e2 => by have := own_lt HS.out.own g e; omega))
          have HD4 := Lib.hid (HD.out.keep (Keeps.of_new (Mut := fun _ => False) hb4) (fun _ e => e.elim))
          have Hsq := Lib.hid hseq
          have HvW := Lib.hid (own_lt HS.out.own)
          have hQW := lt_of_block HS.out.q
          have hZ := Hd.out.z
          have hw0 := HW0.out
          have h6W : W0 + 6 ≤ W.heap.size := by have := HS.out.map.lt; omega
          have hZw : 0 < b.l.n → b.Z < W0 := fun h => by have := lt_of_cell (Hd.out.z 0 h).1; omega
          have HHd4 := Lib.hid (Hd.out.below (show Below w.heap.size w W4 by rw [HW0.out]; exact HS4.out.keep) (Nat.le_refl _))
          subst hb1e hb2e
          clear hseq hb4 HK7 hZ hw0
          gi_wp2_with fail
          refine wpIn_rangeO (gf := 86) rfl enters86 Hsq.out (fun k e => by rcases e with e | e | e; omega; omega; have := hZw e.2; omega) (fun x => rfl) (SrMut W0 Q (.slice (some ⟨bz, oz, none⟩) (n + tr.length) cv)) (fun k e => ⟨by rcases e with e | e | e; omega; omega; have := HvW.out k e; omega, fun e2 => ?mutneed⟩)
            (SrI b op mn fs W0 Q n (.func (.func go) ra lb) (.func (.func gm) rm lm) w tr (.slice (some ⟨bz, oz, none⟩) (n + tr.length) cv) W4) (fun c _ O U => c = .exit 2 ∧ SrX b op mn fs W0 Q n (.func (.func go) ra lb) (.func (.func gm) rm lm) w tr (.slice (some ⟨bz, oz, none⟩) (n + tr.length) cv) W4 O U)
            (fun pre => SrI.ab (fun g e => by have := HvW.out g e; omega) (by omega) (by omega)) (fun c pre O U U' h hK => ⟨h.1, SrX.ab (fun g e => by have := HvW.out g e; omega) (by omega) (by omega) O U U' h.2 hK⟩) ?start ?round ?done ?stop
          case mutneed =>
            rcases e with e | e | e
            · rcases e2 with e2 | e2 | e2
              · omega
              · omega
              · have := hZw e2.2; omega
            · rcases e2 with e2 | e2 | e2
              · omega
              · omega
              · have := hZw e2.2; omega
            · have h1 := HvW.out k e
              have h2 := HS4.out.new k e
              rcases e2 with e2 | e2 | e2
              · omega
              · omega
              · have := hZw e2.2; omega
          case start => exact ⟨[], _, by simpa using HS4.out, fun x hx => by simp at hx, by simpa using Hnm.out, fun g e => .inl e, Keeps.refl _ _⟩
          case stop =>
            rintro D c pre wy post U O hDl hDU hDO hOs hx ⟨rfl, hX⟩ hKd
            obtain ⟨s, x9, v9, hM, hmn9, hown9, hkp⟩ := hX
            have hDm : Marks W0 U ds := HD4.out.keepC hkp (fun k e e2 => by
              rcases e with e | e | e
              · rcases (by omega : k = W0 + 3 ∨ k = W0 + 4 ∨ k = W0 + 5) with rfl | rfl | rfl
                · rw [HS4.out.c9] at e2; cases e2
                · rw [HS4.out.c10] at e2; cases e2
                · obtain ⟨D1, ⟨es, clock, hb, _⟩, _⟩ := HS4.out.map
                  rw [hb] at e2; cases e2
              · rw [e, HS4.out.q] at e2; cases e2
              · rcases HS4.out.own.2 with ⟨e3, _⟩ | ⟨g3, cpx, cur, e3, _, hg, _⟩
                · rw [e3] at e; cases e
                · rw [e3] at e
                  cases (Option.some.inj e)
                  rw [hg] at e2; cases e2)
            have HDp := Lib.hid (Marks.push HD4.out hDm (by omega) hDl hDU hKd)
            have HMx := Lib.hid hM
            have Hmn9 := Lib.hid hmn9
            clear hM hmn9 hown9 hkp hDm hKd hOs
            gi_wp2_with fail
            rename_i K0 hK0
            have HK0 := Lib.hid hK0
            clear hK0
            refine Code.wpIn_mono (Q := Exit.then K0 (fun _ _ _ => False)) (fun e a w h => by
              cases e with
              | normal => exact h
              | ret => exact h.elim
              | exit id => exact h.elim
              | goto l => exact h.elim
              | panic c => exact h.elim
              | outgrown => exact h.elim) ?_
            obtain ⟨UD, hUD⟩ : ∃ UD, U.drew = UD := ⟨_, rfl⟩
            have HUD := Lib.hid (show Keeps (fun _ => False) U UD by rw [← hUD]; exact Keeps.of_new (drew_b _ _))
            have hr8 := (HUD.out.block _ (lt_of_block HMx.out.c8) (fun e => e)).trans HMx.out.c8
            have hr9 := (HUD.out.block _ (lt_of_block HMx.out.c9) (fun e => e)).trans HMx.out.c9
            have hr10 := (HUD.out.block _ (lt_of_block HMx.out.c10) (fun e => e)).trans HMx.out.c10
            have HR8 := Lib.hid hr8
            have HR9 := Lib.hid hr9
            have HR10 := Lib.hid hr10
            have c8 : UD.cell? ⟨W0 + 2, 0, none⟩ = some (.map (some (W0 + 5))) := by rw [cell_row hr8]; rfl
            have c9 : UD.cell? ⟨W0 + 3, 0, none⟩ = some (.int .i64 x9.to) := by rw [cell_row hr9]; rfl
            have c10 : UD.cell? ⟨W0 + 4, 0, none⟩ = some (.bool true) := by rw [cell_row hr10]; rfl
            have f8 := frozen_row (k := 0) hr8
            have f9 := frozen_row (k := 0) hr9
            have f10 := frozen_row (k := 0) hr10
            have e8 := set_id hr8
            have e9 := set_id hr9
            have e10 := set_id hr10
            clear hr8 hr9 hr10
            refine Out.region_R (z := 100) (S := fun W' => W' = UD) (by kernel_rfl) ?_
            rw [hUD]
            have hS0 : UD = UD := rfl
            clear hUD
            refine Out.anyR_take (i := 0) (oi := opSr0) (v := .map (some (W0 + 5))) rfl (by decide) (by kernel_rfl) (by kernel_rfl) (by kernel_rfl) (by kernel_rfl) (fun _ _ _ h => h) (Or.inl ⟨by rfl, by intro W' hSw; subst hSw; go_simp⟩) hS0 ?_
            try simp only [Act.put, List.setIfInBounds_toArray, List.set_cons_zero, List.set_cons_succ]
            refine Out.anyR_take (i := 1) (oi := opSr1) (v := .int .i64 x9.to) rfl (by decide) (by kernel_rfl) (by kernel_rfl) (by kernel_rfl) (by kernel_rfl) (fun _ _ _ h => h) (Or.inl ⟨by rfl, by intro W' hSw; subst hSw; go_simp⟩) hS0 ?_
            try simp only [Act.put, List.setIfInBounds_toArray, List.set_cons_zero, List.set_cons_succ]
            refine Out.anyR_take (i := 2) (oi := opSr2) (v := .bool true) rfl (by decide) (by kernel_rfl) (by kernel_rfl) (by kernel_rfl) (by kernel_rfl) (fun _ _ _ h => h) (Or.inl ⟨by rfl, by intro W' hSw; subst hSw; go_simp⟩) hS0 ?_
            try simp only [Act.put, List.setIfInBounds_toArray, List.set_cons_zero, List.set_cons_succ]
            refine Out.anyR_one (i := 3) (o := opSr3) (by kernel_rfl) rfl (by rfl) ?_
            intro K hK
            have HKK := Lib.hid hK
            clear hK
            gi_wp2_with fail
            try rw [e8]
            refine HKK.out _ _ (fun _ _ => rfl) ?_
            clear HKK K
            try simp only [Act.put, List.setIfInBounds_toArray, List.set_cons_zero, List.set_cons_succ]
            refine Out.anyR_one (i := 4) (o := opSr4) (by kernel_rfl) rfl (by rfl) ?_
            intro K hK
            have HKK := Lib.hid hK
            clear hK
            gi_wp2_with fail
            try rw [e9]
            refine HKK.out _ _ (fun _ _ => rfl) ?_
            clear HKK K
            try simp only [Act.put, List.setIfInBounds_toArray, List.set_cons_zero, List.set_cons_succ]
            refine Out.anyR_one (i := 5) (o := opSr5) (by kernel_rfl) rfl (by rfl) ?_
            intro K hK
            have HKK := Lib.hid hK
            clear hK
            gi_wp2_with fail
            try rw [e10]
            refine HKK.out _ _ (fun _ _ => rfl) ?_
            clear HKK K
            try simp only [Act.put, List.setIfInBounds_toArray, List.set_cons_zero, List.set_cons_succ]
            refine Out.anyR_done (by kernel_rfl) ?_ _
            refine HK0.out _ _ ?_
            clear HK0 c8 c9 c10 f8 f9 f10 e8 e9 e10 hS0
            gi_wp2_with fail
            refine Marks.leaves ({ target := .collected D, args := #[] } :: ds) UD (HDp.out.keep HUD.out (fun _ e => e.elim)) (fun W' hK' => ?_)
            have nd : ∀ j X ty fr, UD.heap[j]? = some (.cells X ty fr) → ¬ (W0 ≤ j ∧ UD.heap[j]? = some (.deferred (some []))) := fun j X ty fr h e => by rw [h] at e; cases e.2
            have g8 := (hK'.block _ (lt_of_block HR8.out) (nd _ _ _ _ HR8.out)).trans HR8.out
            have g9 := (hK'.block _ (lt_of_block HR9.out) (nd _ _ _ _ HR9.out)).trans HR9.out
            have g10 := (hK'.block _ (lt_of_block HR10.out) (nd _ _ _ _ HR10.out)).trans HR10.out
            have y8 : W'.cell? ⟨W0 + 2, 0, none⟩ = some (.map (some (W0 + 5))) := by rw [cell_row g8]; rfl
            have y9 : W'.cell? ⟨W0 + 3, 0, none⟩ = some (.int .i64 x9.to) := by rw [cell_row g9]; rfl
            have y10 : W'.cell? ⟨W0 + 4, 0, none⟩ = some (.bool true) := by rw [cell_row g10]; rfl
            have hTU := HMx.out.map.keep HUD.out (fun e => e)
            have hTW := hTU.keep hK' (fun e => by
              obtain ⟨D1, ⟨es, clock, hb, _⟩, _⟩ := hTU
              rw [hb] at e; cases e.2)
            have hBW := (HMx.out.keep.trans (HUD.out.new.mono (by have := HMx.out.map.lt; omega))).trans (hK'.below (B := W0) (by have := HMx.out.map.lt; have := HUD.out.size; omega) (fun j hj e => by omega))
            rw [← HW0.out] at hBW
            refine ⟨.tuple #[.map (some (W0 + 5)), .int .i64 x9.to, .bool true], by simp [results, Try.results72, go_sem, y8, y9, y10], ?_⟩
            exact ⟨W0 + 5, x9.to, true, tr ++ s ++ [x9], rfl, hTW, by have := HW0.out; omega, hBW, HMx.out.ok, fun e => (by cases e), fun _ => ⟨tr ++ s, x9, rfl, rfl, Hmn9.out⟩⟩
          case done =>
            rintro D U O hDl hDU hDO hOs ⟨s, v', hM, hpre, hnm2, hown2, hkp⟩ hKd
            have hDm : Marks W0 U ds := HD4.out.keepC hkp (fun k e e2 => by
              rcases e with e | e | e
              · rcases (by omega : k = W0 + 3 ∨ k = W0 + 4 ∨ k = W0 + 5) with rfl | rfl | rfl
                · rw [HS4.out.c9] at e2; cases e2
                · rw [HS4.out.c10] at e2; cases e2
                · obtain ⟨D1, ⟨es, clock, hb, _⟩, _⟩ := HS4.out.map
                  rw [hb] at e2; cases e2
              · rw [e, HS4.out.q] at e2; cases e2
              · rcases HS4.out.own.2 with ⟨e3, _⟩ | ⟨g3, cpx, cur, e3, _, hg, _⟩
                · rw [e3] at e; cases e
                · rw [e3] at e
                  cases (Option.some.inj e)
                  rw [hg] at e2; cases e2)
            have hDp := Marks.push HD4.out hDm (by omega) hDl hDU hKd
            have hFin : ∃ tr v, SrM b op fs W0 Q n (.func (.func go) ra lb) (.func (.func gm) rm lm) 0 false w tr v U ∧ q + 1 ≤ n + tr.length ∧ (∀ j, j < q + 1 → ∀ x, isWay b.zs x → op x = true → x.fr = iAt (fs ++ tr.map (·.to)) j → Rk fs tr x.to) ∧ (∀ x ∈ tr, mn x.to = false) ∧ Marks W0 U ({ target := .collected D, args := #[] } :: ds) := by
              have hfl := HI.out.1
              have hpfx : ∀ j, j < n + tr.length → iAt (fs ++ (tr ++ s).map (·.to)) j = iAt (fs ++ tr.map (·.to)) j := fun j hj => by
                unfold iAt
                rw [List.map_append, ← List.append_assoc, List.getD_eq_getElem?_getD, List.getD_eq_getElem?_getD, List.getElem?_append_left (by rw [List.length_append, List.length_map, hfl]; exact hj)]
              refine ⟨tr ++ s, v', hM, by rw [List.length_append]; omega, fun j hj z hz ho hf => ?_, hnm2, hDp⟩
              rw [hpfx j (by omega)] at hf
              rcases Nat.lt_or_ge j q with h9 | h9
              · exact (Hcl.out j h9 z hz ho hf).imp id (fun e => by rw [List.map_append]; exact List.mem_append_left _ e)
              · obtain rfl : j = q := by omega
                rw [Hx.out] at hf
                refine hpre z ?_ ho
                have := (isWay_wysK Hok.out.okl).1 hz
                rw [hf, Hok.out.zl] at this
                exact this
            have HFin := Lib.hid hFin
            clear hFin hDp hDm hM hpre hnm2 hown2 hkp hKd hOs
            gi_wp2_with fail
            refine ⟨⟨q + 1, _, _, _, _, _, _, _, _, _, _, _, _, _, _, _, _, _, _, _, _, _, _, _, _, _, _, _, { target := .collected D, args := #[] } :: ds, rfl, HFin⟩, ?_⟩
            simp [intOf]; omega
          case round =>
            intro l pre wy post U O hx9 hl1 hl2 hr hO hI mm
            have hP := heap_alloc_new_ U (.cells #[.int .i64 (wy.link : Int), .int .i64 wy.fr, .int .i64 wy.to] 79)
            have hmem : wy ∈ wysK b.zs x b.l.n := by rw [hx9]; simp
            simp only [wE, wV]
            gi_wp2_with fail
            refine ⟨keep_alloc _ _ _, ?_⟩
            rintro w5 ⟨hk5, hs5, hr5⟩ hI5
            obtain ⟨s, v', hM, hpre, hnm2, hown2, hkp⟩ := hI5
            obtain ⟨P, hPe⟩ : ∃ P, U.heap.size = P := ⟨_, rfl⟩
            have hPl : P ≠ l := by omega
            have hUU := (keep_alloc (fun _ => False) U (.cells #[.int .i64 (wy.link : Int), .int .i64 wy.fr, .int .i64 wy.to] 79)).size
            rw [hPe] at hP ⊢
            have hP5 := (hk5.block P (lt_of_block hP) hPl).trans hP
            have hN := Hok.out.N
            have hfx := (mem_wysK.1 hmem).2.1
            have hway : isWay b.zs wy := (isWay_wysK Hok.out.okl).2 (by rw [hfx, Hok.out.zl]; exact hmem)
            have hto : 0 ≤ wy.to ∧ wy.to < 40 := by have := (hway.lt Hok.out.okl).2; omega
            have hto2 := Lib.hid (show 0 ≤ wy.to ∧ wy.to < b.l.N by have := (hway.lt Hok.out.okl).2; omega)
            have hxs : Rk fs (tr ++ s) wy.fr := by
              rw [hfx]
              rcases HxR.out with e | e
              · exact .inl e
              · exact .inr (by rw [List.map_append]; exact List.mem_append_left _ e)
            have hlen2 := tr_len Hok.out.okl hM.ok (fun x hx => by have := Hfs.out x hx; omega)
            have k64 := has64 (W0 + 5) _ (cameW fs (tr ++ s)) wy.to w5 hM.map hto
            obtain ⟨hs, hhs⟩ : ∃ q, (cameW fs (tr ++ s) wy.to).isSome = q := ⟨_, rfl⟩
            have hRk : hs = true ↔ Rk fs (tr ++ s) wy.to := by rw [← hhs]; exact cameW_some
            rw [hhs] at k64
            have HK64 := Lib.hid k64
            have HM := Lib.hid hM
            have Hpre := Lib.hid hpre
            have Hnm2 := Lib.hid hnm2
            have Hown2 := Lib.hid hown2
            have Hkp := Lib.hid hkp
            have HRk := Lib.hid hRk
            have Hway := Lib.hid hway
            have Hxs := Lib.hid hxs
            have HP5 := Lib.hid hP5
            have p0 : w5.cell? ⟨P, 0, none⟩ = some (.int .i64 (wy.link : Int)) := by rw [cell_row hP5]; rfl
            have p1 : w5.cell? ⟨P, 1, none⟩ = some (.int .i64 wy.fr) := by rw [cell_row hP5]; rfl
            have p2 : w5.cell? ⟨P, 2, none⟩ = some (.int .i64 wy.to) := by rw [cell_row hP5]; rfl
            have c8 : w5.cell? ⟨W0 + 2, 0, none⟩ = some (.map (some (W0 + 5))) := by rw [cell_row hM.c8]; rfl
            clear hM hpre hnm2 hown2 hkp hRk hway hxs hP5 hP hk5 hI hr hhs k64 hfx hmem
            gi_wp2_with fail
            refine ⟨trivial, wide_d, CallsIn.inRound l ((callsIn_wide.2 HK64.out).mono ?_)⟩
            rintro e6 w6 ⟨rfl, hb6⟩
            have HM6 := Lib.hid (HM.out.abide (Keeps.of_new (Mut := fun j => w5.heap.size ≤ j) hb6) (fun j e => ⟨by have := HM.out.map.lt; omega, by have := lt_of_block HM.out.q; omega⟩) (fun g e e2 => by have := own_lt HM.out.own g e; omega))
            have HB6 := Lib.hid hb6
            clear HK64 hb6 p0 p1 p2 c8
            rcases hs with _ | _
            · have p0 : w6.cell? ⟨P, 0, none⟩ = some (.int .i64 (wy.link : Int)) := by rw [cell_row ((HB6.out.block _ (lt_of_block HP5.out)).trans HP5.out)]; rfl
              have p1 : w6.cell? ⟨P, 1, none⟩ = some (.int .i64 wy.fr) := by rw [cell_row ((HB6.out.block _ (lt_of_block HP5.out)).trans HP5.out)]; rfl
              have p2 : w6.cell? ⟨P, 2, none⟩ = some (.int .i64 wy.to) := by rw [cell_row ((HB6.out.block _ (lt_of_block HP5.out)).trans HP5.out)]; rfl
              have c6 : w6.cell? ⟨W0, 0, none⟩ = some (.func (.func go) ra lb) := by rw [cell_row HM6.out.c6]; rfl
              have kop := Hfo.out w6 wy Hway.out (by rw [HW0.out]; exact HM6.out.keep)
              unfold wV at kop
              obtain ⟨q9, hq9⟩ : ∃ q, op wy = q := ⟨_, rfl⟩
              rw [hq9] at kop
              have Hkop := Lib.hid kop
              have Hq9 := Lib.hid hq9
              have ego := Hego.out
              clear kop hq9
              gi_wp2_with fail
              refine ⟨trivial, wide_d, CallsIn.inRound l ((callsIn_wide.2 Hkop.out).mono ?_)⟩
              rintro e7 w7 ⟨rfl, hb7⟩
              have HM7 := Lib.hid (HM6.out.abide (Keeps.of_new (Mut := fun j => w6.heap.size ≤ j) hb7) (fun j e => ⟨by have := HM6.out.map.lt; omega, by have := lt_of_block HM6.out.q; omega⟩) (fun g e e2 => by have := own_lt HM6.out.own g e; omega))
              have HB7 := Lib.hid (HB6.out.trans (hb7.mono HB6.out.size))
              clear Hkop hb7 p0 p1 p2 c6 ego
              rcases q9 with _ | _
              · have HF := Lib.hid (show ∃ O', Grow O O' w5 w7 ∧ Keeps (fun k => SrMut W0 Q (.slice (some ⟨bz, oz, none⟩) (n + tr.length) cv) k ∨ O k) w5 w7 ∧ SrI b op mn fs W0 Q n (.func (.func go) ra lb) (.func (.func gm) rm lm) w tr (.slice (some ⟨bz, oz, none⟩) (n + tr.length) cv) W4 (pre ++ [wy]) O' w7 from
                  ⟨O, Grow.refl _ _ _, Keeps.of_new HB7.out, s, v', HM7.out, fun z hz ho => by
                    rcases List.mem_append.1 hz with e | e
                    · exact Hpre.out z e ho
                    · rw [List.mem_singleton.1 e, Hq9.out] at ho; exact absurd ho (by simp), Hnm2.out, Hown2.out, Hkp.out.trans (Keeps.of_new HB7.out)⟩)
                gi_wp2_with fail
                exact HF.out
              · have hnr : ¬ Rk fs (tr ++ s) wy.to := fun e => by have := HRk.out.2 e; cases this
                obtain ⟨W8, C, c, W9, hput, hk8, hq8, hrun, hK9, hq9, hM10, hnew⟩ := HM7.out.step Hway.out Hq9.out Hxs.out hnr hto (by omega)
                obtain ⟨L, hL⟩ : ∃ L, (tr ++ s).length = L := ⟨_, rfl⟩
                rw [hL] at hrun hM10 hnew
                have p7 := (HB7.out.block _ (lt_of_block HP5.out)).trans HP5.out
                have hs57 := HB7.out.size
                have hPv : v'.ownBlock ≠ some P := fun e => by
                  rcases Hown2.out P e with e2 | e2
                  · have := HvW.out P e2; omega
                  · have := hO P e2; omega
                have hPM : P ≠ W0 + 5 := by omega
                have hPQ : P ≠ Q := by omega
                have p8 := (hk8.block _ (lt_of_block p7) hPM).trans p7
                have p9 := (hK9.block _ (lt_of_block p7) (fun e => e.elim hPM hPv)).trans p7
                have hk10 := keeps_setCell W9 Q 0 (.slice C (n + L + 1) c)
                obtain ⟨W10, hW10⟩ : ∃ v, W9.setCell ⟨Q, 0, none⟩ (.slice C (n + L + 1) c) = v := ⟨_, rfl⟩
                rw [hW10] at hk10 hM10
                have p10 := (hk10.block _ (lt_of_block p9) hPQ).trans p9
                have d70 : w7.cell? ⟨P, 0, none⟩ = some (.int .i64 (wy.link : Int)) := by rw [cell_row p7]; rfl
                have d71 : w7.cell? ⟨P, 1, none⟩ = some (.int .i64 wy.fr) := by rw [cell_row p7]; rfl
                have d72 : w7.cell? ⟨P, 2, none⟩ = some (.int .i64 wy.to) := by rw [cell_row p7]; rfl
                have c78 : w7.cell? ⟨W0 + 2, 0, none⟩ = some (.map (some (W0 + 5))) := by rw [cell_row HM7.out.c8]; rfl
                have d82 : W8.cell? ⟨P, 2, none⟩ = some (.int .i64 wy.to) := by rw [cell_row p8]; rfl
                have c8q : W8.cell? ⟨Q, 0, none⟩ = some v' := by rw [cell_row hq8]; rfl
                have c9q : W9.cell? ⟨Q, 0, none⟩ = some v' := by rw [cell_row hq9]; rfl
                have f9q := frozen_row (k := 0) hq9
                have d102 : W10.cell? ⟨P, 2, none⟩ = some (.int .i64 wy.to) := by rw [cell_row p10]; rfl
                have c107 : W10.cell? ⟨W0 + 1, 0, none⟩ = some (.func (.func gm) rm lm) := by rw [cell_row hM10.c7]; rfl
                have kmn := Hfm.out W10 wy.to hto2.out (by rw [HW0.out]; exact hM10.keep)
                obtain ⟨m9, hm9⟩ : ∃ q, mn wy.to = q := ⟨_, rfl⟩
                rw [hm9] at kmn
                have Hkmn := Lib.hid kmn
                have Hm9 := Lib.hid hm9
                have egm := Hegm.out
                have HM10 := Lib.hid hM10
                have HK10 := Lib.hid (show Keeps (fun j => j = W0 + 5 ∨ j = Q ∨ v'.ownBlock = some j) w7 W10 from (hK9.mono (fun j _ e => e.elim .inl (fun e => .inr (.inr e)))).trans (hk10.mono (fun j _ e => .inr (.inl e))))
                have Hnew := Lib.hid hnew
                have Hs910 := Lib.hid (show W9.heap.size ≤ W10.heap.size from hk10.size)
                have HP10 := Lib.hid p10
                have hmx : s.length + 0 = s.length := rfl
                clear kmn hm9 hM10 hk10 hnew hK9 hk8 p7 p8 p9 p10 hnr hPv hPM hPQ hs57 hq8 hq9
                have HL := Lib.hid hL
                have hL9 : n + L ≤ 1000 := by omega
                clear hL
                gi_wp2_with fail
                refine ⟨trivial, wide_d, CallsIn.inRound l ((callsIn_wide.2 Hkmn.out).mono ?_)⟩
                rintro e11 w11 ⟨rfl, hb11⟩
                have HM11 := Lib.hid (HM10.out.abide (Keeps.of_new (Mut := fun j => W10.heap.size ≤ j) hb11) (fun j e => ⟨by have := HM10.out.map.lt; omega, by have := lt_of_block HM10.out.q; omega⟩) (fun g e e2 => by have := own_lt HM10.out.own g e; omega))
                have HK11 := Lib.hid (show Keeps (fun k => SrMut W0 Q (.slice (some ⟨bz, oz, none⟩) (n + tr.length) cv) k ∨ O k) w5 w11 from ((Keeps.of_new HB7.out).trans (HK10.out.mono (fun j _ e => by
                  rcases e with e | e | e
                  · exact .inl (.inl (by omega))
                  · exact .inl (.inr (.inl e))
                  · exact (Hown2.out j e).imp (fun e => .inr (.inr e)) id))).trans (Keeps.of_new hb11))
                have HKm := Lib.hid (show Keeps (SrMut W0 Q (.slice (some ⟨bz, oz, none⟩) (n + tr.length) cv)) W4 w11 from keeps_old3 Hkp.out (HK11.out.mono (fun j _ e => by
                  rcases e with e | e
                  · exact .inr e
                  · exact .inl (hO j e).1)))
                have hs11 := hb11.size
                have hs75 := HB7.out.size
                have HG := Lib.hid (show ∀ g, (Value.slice C (n + L + 1) c).ownBlock = some g → (Value.slice (some ⟨bz, oz, none⟩) (n + tr.length) cv).ownBlock = some g ∨ (O g ∨ (w5.heap.size ≤ g ∧ g < w11.heap.size)) from fun g e => by
                  have h9 := Hs910.out
                  rcases Hnew.out g e with e2 | e2
                  · exact (Hown2.out g e2).imp id .inl
                  · exact .inr (.inr (by omega)))
                have d112 : w11.cell? ⟨P, 2, none⟩ = some (.int .i64 wy.to) := by rw [cell_row ((hb11.block _ (lt_of_block HP10.out)).trans HP10.out)]; rfl
                have Hsub := Lib.hid (fun z (hz : Rk fs (tr ++ s) z) => (show Rk fs (tr ++ s ++ [wy]) z from hz.imp id (fun e => by rw [List.map_append]; exact List.mem_append_left _ e)))
                clear d70 d71 d72 c78 d82 c8q c9q f9q d102 c107 hput hrun Hkmn egm hb11 hs11 hs75
                rcases m9 with _ | _
                · have HF := Lib.hid (show ∃ O', Grow O O' w5 w11 ∧ Keeps (fun k => SrMut W0 Q (.slice (some ⟨bz, oz, none⟩) (n + tr.length) cv) k ∨ O k) w5 w11 ∧ SrI b op mn fs W0 Q n (.func (.func go) ra lb) (.func (.func gm) rm lm) w tr (.slice (some ⟨bz, oz, none⟩) (n + tr.length) cv) W4 (pre ++ [wy]) O' w11 from by
                    refine ⟨fun j => O j ∨ (w5.heap.size ≤ j ∧ j < w11.heap.size), ⟨fun k e => .inl e, fun k e => e⟩, HK11.out, s ++ [wy], _, by rw [← List.append_assoc]; exact HM11.out, fun z hz ho => ?_, fun z hz => ?_, HG.out, HKm.out⟩
                    · rw [← List.append_assoc]
                      rcases List.mem_append.1 hz with e | e
                      · exact Hsub.out _ (Hpre.out z e ho)
                      · rw [List.mem_singleton.1 e]; exact .inr (by simp)
                    · rw [← List.append_assoc] at hz
                      rcases List.mem_append.1 hz with e | e
                      · exact Hnm2.out z e
                      · rw [List.mem_singleton.1 e]; exact Hm9.out)
                  gi_wp2_with fail
                  exact HF.out
                · have c119 : w11.cell? ⟨W0 + 3, 0, none⟩ = some (.int .i64 0) := by rw [cell_row HM11.out.c9]; rfl
                  have c1110 : w11.cell? ⟨W0 + 4, 0, none⟩ = some (.bool false) := by rw [cell_row HM11.out.c10]; rfl
                  have f9 := frozen_row (k := 0) HM11.out.c9
                  have f10 := frozen_row (k := 0) HM11.out.c10
                  obtain ⟨hM13, hk13⟩ := HM11.out.fin wy.to
                  have HF := Lib.hid (show ∃ O', Grow O O' w5 ((w11.setCell ⟨W0 + 3, 0, none⟩ (.int .i64 wy.to)).setCell ⟨W0 + 4, 0, none⟩ (.bool true)) ∧ Keeps (fun k => SrMut W0 Q (.slice (some ⟨bz, oz, none⟩) (n + tr.length) cv) k ∨ O k) w5 ((w11.setCell ⟨W0 + 3, 0, none⟩ (.int .i64 wy.to)).setCell ⟨W0 + 4, 0, none⟩ (.bool true)) ∧ Code.exit 2 = Code.exit 2 ∧ SrX b op mn fs W0 Q n (.func (.func go) ra lb) (.func (.func gm) rm lm) w tr (.slice (some ⟨bz, oz, none⟩) (n + tr.length) cv) W4 O' ((w11.setCell ⟨W0 + 3, 0, none⟩ (.int .i64 wy.to)).setCell ⟨W0 + 4, 0, none⟩ (.bool true)) from by
                    refine ⟨fun j => O j ∨ (w5.heap.size ≤ j ∧ j < w11.heap.size), ⟨fun k e => .inl e, fun k e => e.imp id (fun e => ⟨e.1, by have := hk13.size; omega⟩)⟩, HK11.out.trans (hk13.mono (fun j _ e => .inl (.inl (by omega)))), rfl, s, wy, _, hM13, Hm9.out, HG.out, HKm.out.trans (hk13.mono (fun j _ e => .inl (by omega)))⟩)
                  clear hM13 hk13
                  gi_wp2_with fail
                  obtain ⟨O', f1, f2, _, f4⟩ := HF.out
                  exact ⟨O', f1, f2, rfl, f4⟩
            · have HF := Lib.hid (show ∃ O', Grow O O' w5 w6 ∧ Keeps (fun k => SrMut W0 Q (.slice (some ⟨bz, oz, none⟩) (n + tr.length) cv) k ∨ O k) w5 w6 ∧ SrI b op mn fs W0 Q n (.func (.func go) ra lb) (.func (.func gm) rm lm) w tr (.slice (some ⟨bz, oz, none⟩) (n + tr.length) cv) W4 (pre ++ [wy]) O' w6 from
                ⟨O, Grow.refl _ _ _, Keeps.of_new HB6.out, s, v', HM6.out, fun z hz ho => by
                  rcases List.mem_append.1 hz with e | e
                  · exact Hpre.out z e ho
                  · rw [List.mem_singleton.1 e]; exact HRk.out.1 rfl, Hnm2.out, Hown2.out, Hkp.out.trans (Keeps.of_new HB6.out)⟩)
              gi_wp2_with fail
              refine ⟨by simp, ?_⟩
              gi_wp2_with fail
              exact HF.out
        · have hFin : ∀ x, isWay b.zs x → op x = true → Rk fs tr x.fr → Rk fs tr x.to := fun z hz ho hf => by
            have hm : z.fr ∈ fs ++ tr.map (·.to) := List.mem_append.2 hf
            obtain ⟨j, hj, e⟩ := List.getElem_of_mem hm
            have hj2 : j < n + tr.length := by rw [List.length_append, List.length_map, HI.out.1] at hj; exact hj
            exact hcl j (by omega) z hz ho (by rw [iAt_eq hj, e])
          have HFin := Lib.hid hFin
          have HS := Lib.hid hS
          have Hnm := Lib.hid hnm
          have HD := Lib.hid hD
          clear hFin hS hcl hnm hD HQ hCI hCb
          gi_wp2_with fail
          rename_i K0 hK0
          have HK0 := Lib.hid hK0
          clear hK0
          refine Code.wpIn_mono (Q := Exit.then K0 (fun _ _ _ => False)) (fun e a w h => by
            cases e with
            | normal => exact h
            | ret => exact h.elim
            | exit id => exact h.elim
            | goto l => exact h.elim
            | panic c => exact h.elim
            | outgrown => exact h.elim) ?_
          obtain ⟨UD, hUD⟩ : ∃ UD, W.drew = UD := ⟨_, rfl⟩
          have HUD := Lib.hid (show Keeps (fun _ => False) W UD by rw [← hUD]; exact Keeps.of_new (drew_b _ _))
          have hr8 := (HUD.out.block _ (lt_of_block HS.out.c8) (fun e => e)).trans HS.out.c8
          have hr9 := (HUD.out.block _ (lt_of_block HS.out.c9) (fun e => e)).trans HS.out.c9
          have hr10 := (HUD.out.block _ (lt_of_block HS.out.c10) (fun e => e)).trans HS.out.c10
          have HR8 := Lib.hid hr8
          have HR9 := Lib.hid hr9
          have HR10 := Lib.hid hr10
          have c8 : UD.cell? ⟨W0 + 2, 0, none⟩ = some (.map (some (W0 + 5))) := by rw [cell_row hr8]; rfl
          have c9 : UD.cell? ⟨W0 + 3, 0, none⟩ = some (.int .i64 0) := by rw [cell_row hr9]; rfl
          have c10 : UD.cell? ⟨W0 + 4, 0, none⟩ = some (.bool false) := by rw [cell_row hr10]; rfl
          have f8 := frozen_row (k := 0) hr8
          have f9 := frozen_row (k := 0) hr9
          have f10 := frozen_row (k := 0) hr10
          have e8 := set_id hr8
          have e9 := set_id hr9
          have e10 := set_id hr10
          clear hr8 hr9 hr10
          refine Out.region_R (z := 100) (S := fun W' => W' = UD) (by kernel_rfl) ?_
          rw [hUD]
          have hS0 : UD = UD := rfl
          clear hUD
          refine Out.anyR_take (i := 0) (oi := opSr0) (v := .map (some (W0 + 5))) rfl (by decide) (by kernel_rfl) (by kernel_rfl) (by kernel_rfl) (by kernel_rfl) (fun _ _ _ h => h) (Or.inl ⟨by rfl, by intro W' hSw; subst hSw; go_simp⟩) hS0 ?_
          try simp only [Act.put, List.setIfInBounds_toArray, List.set_cons_zero, List.set_cons_succ]
          refine Out.anyR_take (i := 1) (oi := opSr1) (v := .int .i64 0) rfl (by decide) (by kernel_rfl) (by kernel_rfl) (by kernel_rfl) (by kernel_rfl) (fun _ _ _ h => h) (Or.inl ⟨by rfl, by intro W' hSw; subst hSw; go_simp⟩) hS0 ?_
          try simp only [Act.put, List.setIfInBounds_toArray, List.set_cons_zero, List.set_cons_succ]
          refine Out.anyR_take (i := 2) (oi := opSr2) (v := .bool false) rfl (by decide) (by kernel_rfl) (by kernel_rfl) (by kernel_rfl) (by kernel_rfl) (fun _ _ _ h => h) (Or.inl ⟨by rfl, by intro W' hSw; subst hSw; go_simp⟩) hS0 ?_
          try simp only [Act.put, List.setIfInBounds_toArray, List.set_cons_zero, List.set_cons_succ]
          refine Out.anyR_one (i := 3) (o := opSr3) (by kernel_rfl) rfl (by rfl) ?_
          intro K hK
          have HKK := Lib.hid hK
          clear hK
          gi_wp2_with fail
          try rw [e8]
          refine HKK.out _ _ (fun _ _ => rfl) ?_
          clear HKK K
          try simp only [Act.put, List.setIfInBounds_toArray, List.set_cons_zero, List.set_cons_succ]
          refine Out.anyR_one (i := 4) (o := opSr4) (by kernel_rfl) rfl (by rfl) ?_
          intro K hK
          have HKK := Lib.hid hK
          clear hK
          gi_wp2_with fail
          try rw [e9]
          refine HKK.out _ _ (fun _ _ => rfl) ?_
          clear HKK K
          try simp only [Act.put, List.setIfInBounds_toArray, List.set_cons_zero, List.set_cons_succ]
          refine Out.anyR_one (i := 5) (o := opSr5) (by kernel_rfl) rfl (by rfl) ?_
          intro K hK
          have HKK := Lib.hid hK
          clear hK
          gi_wp2_with fail
          try rw [e10]
          refine HKK.out _ _ (fun _ _ => rfl) ?_
          clear HKK K
          try simp only [Act.put, List.setIfInBounds_toArray, List.set_cons_zero, List.set_cons_succ]
          refine Out.anyR_done (by kernel_rfl) ?_ _
          refine HK0.out _ _ ?_
          clear HK0 c8 c9 c10 f8 f9 f10 e8 e9 e10 hS0
          gi_wp2_with fail
          refine Marks.leaves (ds) UD (HD.out.keep HUD.out (fun _ e => e.elim)) (fun W' hK' => ?_)
          have nd : ∀ j X ty fr, UD.heap[j]? = some (.cells X ty fr) → ¬ (W0 ≤ j ∧ UD.heap[j]? = some (.deferred (some []))) := fun j X ty fr h e => by rw [h] at e; cases e.2
          have g8 := (hK'.block _ (lt_of_block HR8.out) (nd _ _ _ _ HR8.out)).trans HR8.out
          have g9 := (hK'.block _ (lt_of_block HR9.out) (nd _ _ _ _ HR9.out)).trans HR9.out
          have g10 := (hK'.block _ (lt_of_block HR10.out) (nd _ _ _ _ HR10.out)).trans HR10.out
          have y8 : W'.cell? ⟨W0 + 2, 0, none⟩ = some (.map (some (W0 + 5))) := by rw [cell_row g8]; rfl
          have y9 : W'.cell? ⟨W0 + 3, 0, none⟩ = some (.int .i64 0) := by rw [cell_row g9]; rfl
          have y10 : W'.cell? ⟨W0 + 4, 0, none⟩ = some (.bool false) := by rw [cell_row g10]; rfl
          have hTU := HS.out.map.keep HUD.out (fun e => e)
          have hTW := hTU.keep hK' (fun e => by
            obtain ⟨D1, ⟨es, clock, hb, _⟩, _⟩ := hTU
            rw [hb] at e; cases e.2)
          have hBW := (HS.out.keep.trans (HUD.out.new.mono (by have := HS.out.map.lt; omega))).trans (hK'.below (B := W0) (by have := HS.out.map.lt; have := HUD.out.size; omega) (fun j hj e => by omega))
          rw [← HW0.out] at hBW
          refine ⟨.tuple #[.map (some (W0 + 5)), .int .i64 0, .bool false], by simp [results, Try.results72, go_sem, y8, y9, y10], ?_⟩
          exact ⟨W0 + 5, 0, false, tr, rfl, hTW, by have := HW0.out; omega, hBW, HS.out.ok, fun _ => ⟨HFin.out, Hnm.out⟩, fun e => (by cases e)⟩
end
end Go.Proofs.Ytigohccehllmnaa

namespace Go.Proofs.Ytigohccehllmnaa
set_option linter.unusedSimpArgs false
set_option linter.unusedVariables false
open Go.RowKit Go.Shelf
/-- One number more, where there is room. -/
theorem app_arr {W : World} {Q k m : Nat} {cur : Array Value} {t : TypeId} {L : List Int} (hQ : W.heap[Q]? = some (.cells cur t (0, 0))) (hk : k < m) (hm : m ≤ cur.size) (hL : L.length = k) (ht : cur.toList.take k = flatI L) (x : Int) :
    ∃ W' cur', runA Try.prog 23 (.slice (some ⟨Q, 0, none⟩) k m) (.slice (some ⟨W.heap.size, 0, none⟩) 1 1) (W.alloc (.cells #[.int .i64 x] 3)) = .ok (.value (.slice (some ⟨Q, 0, none⟩) (k + 1) m)) W' ∧ W'.heap[Q]? = some (.cells cur' t (0, 0)) ∧ cur'.size = cur.size ∧ cur'.toList.take (k + 1) = flatI (L ++ [x]) ∧ Keeps (fun j => j = Q) W W' := by
  obtain ⟨i, hi, hz, hs, hb⟩ := info_parts info3_
  have hQ1 : (W.alloc (.cells #[.int .i64 x] 3)).heap[Q]? = some (.cells cur t (0, 0)) := hal_old hQ
  have hZ := heap_alloc_new_ W (.cells #[.int .i64 x] 3)
  have h := run_append_room_cells (P := Try.prog) (W.alloc (.cells #[.int .i64 x] 3)) 23 23 3 i Try.underlying23 hi Q 0 k m ⟨W.heap.size, 0, none⟩ 1 1 [.int .i64 x] (by simp [hs]) (fun j u hj => by
      have hj0 : j = 0 := by
        have := (List.getElem?_eq_some_iff.1 hj).1
        simp at this; omega
      subst hj0
      rw [Addr.add_lit, cell_row hZ]; simpa using hj) (fun u hu => by simp at hu; subst hu; rfl) (by omega) (fun j hj => by
      simp at hj; subst hj
      rw [hs, Nat.mul_one, Nat.zero_add, Nat.add_zero, cell_row hQ1, Array.getElem?_eq_getElem (by omega)]; rfl) (fun j hj => frozen_row hQ1)
  rw [hs, Nat.mul_one, Nat.zero_add] at h
  have e : (W.alloc (.cells #[.int .i64 x] 3)).setCells Q k [.int .i64 x] = (W.alloc (.cells #[.int .i64 x] 3)).setCell ⟨Q, k, none⟩ (.int .i64 x) := by simp [World.setCells]
  rw [e] at h
  refine ⟨_, _, run_app h, set_same k (.int .i64 x) hQ1, by simp, ?_, (keep_alloc _ _ _).none.trans (keeps_setCell _ _ _ _)⟩
  rw [flatI_snoc, ← ht]
  have hlt : k < cur.toList.length := by simp; omega
  rw [Array.toList_setIfInBounds, List.take_set]
  have e2 : List.take (k + 1) cur.toList = List.take k cur.toList ++ [cur.toList[k]] := List.take_succ_eq_append_getElem hlt
  rw [e2, List.set_append]
  have e3 : (List.take k cur.toList).length = k := by rw [List.length_take]; omega
  rw [e3, if_neg (Nat.lt_irrefl k), Nat.sub_self]
  rfl
theorem ints_row {W : World} {Z : Nat} {L : List Int} {t : TypeId} (h : W.heap[Z]? = some (.cells (flatI L).toArray t (0, 0))) : Ints W (some ⟨Z, 0, none⟩) L.length L :=
  ⟨rfl, fun _ => ⟨Z, 0, rfl, fun j hj => by
    rw [cell_row h, Nat.zero_add, List.getElem?_toArray, flatI, List.getElem?_map, List.getElem?_eq_getElem hj, iAt_eq hj]; rfl⟩⟩
theorem make23 (n : Nat) (hn : n ≤ 1000) (W : World) : (Instr.makeSlice 23 (.int .i64 (n : Int)) (.int .i64 (n : Int))).run Try.prog W = .ok (.slice (some ⟨W.heap.size, 0, none⟩) n n) (W.alloc (.cells (flatI (List.replicate n 0)).toArray 3)) := by
  obtain ⟨i, hi, hz, hs, hb⟩ := info_parts info3_
  have h := run_makeSlice (P := Try.prog) W 23 3 i _ Try.underlying23 hi hz .i64 .i64 (n : Int) (n : Int) (by omega) (by omega) (by rw [hs]; omega) (by rw [hb]; omega) (by omega)
  simp only [Int.toNat_natCast, hs, Nat.mul_one] at h
  rw [h]
  have e : madeCells (Value.int IntKind.i64 0).cells n = (flatI (List.replicate n 0)).toArray := by
    apply Array.ext'
    have : (Value.int IntKind.i64 0).cells = #[Value.int IntKind.i64 0] := rfl
    rw [this, toList_madeCells_one]
    simp [flatI]
  rw [e]
theorem copy23 (Z Q m cp : Nat) (L : List Int) (cur : Array Value) (t : TypeId) (ty : TypeId) (W : World) (hZ : W.heap[Z]? = some (.cells (flatI (List.replicate m 0)).toArray 3 (0, 0))) (hQ : W.heap[Q]? = some (.cells cur t (0, 0))) (ht : cur.toList.take m = flatI L) (hL : L.length = m) :
    (Builtin.copy_ #[23, 23] ty #[.slice (some ⟨Z, 0, none⟩) m m, .slice (some ⟨Q, 0, none⟩) m cp]).run Try.prog W = .ok (.int .i64 (m : Int)) (W.setRow Z (flatI L).toArray) := by
  obtain ⟨i, hi, hz, hs, hb⟩ := info_parts info3_
  have hl : (flatI L).length = m := by rw [flatI_len, hL]
  have h := run_copy_row (P := Try.prog) W 23 23 ty 3 Z 0 m m ⟨Q, 0, none⟩ m cp (flatI (List.replicate m 0)).toArray 3 (flatI L) Try.underlying23 (by rw [hi]; simp [hs]) hZ (by rw [hl]; exact (Nat.min_eq_right (Nat.le_refl m)).symm)
    (fun j v hj => by
      rw [Addr.add_lit, Nat.zero_add, cell_row hQ]
      have hj2 : j < m := by
        have := (List.getElem?_eq_some_iff.1 hj).1
        omega
      rw [← ht, List.getElem?_take_of_lt hj2] at hj
      rw [← Array.getElem?_toList]; exact hj) (by rw [hl]; simp [flatI]) (fun v hv => by
      obtain ⟨x, _, rfl⟩ := List.mem_map.1 hv
      rfl)
  rw [h]
  have e : (List.take 0 (flatI (List.replicate m 0)).toArray.toList ++ flatI L ++ List.drop (0 + (flatI L).length) (flatI (List.replicate m 0)).toArray.toList) = flatI L := by
    rw [hl]; simp [flatI]
  rw [e, hl]
  rfl

/-- The first names that are told. -/
def nmK (p : Int → Bool) (k : Nat) : List Int := ((List.range k).filter fun x : Nat => p (x : Int)).map fun x : Nat => (x : Int)
theorem nmK_yes {p : Int → Bool} {k : Nat} (h : p (k : Int) = true) : nmK p (k + 1) = nmK p k ++ [(k : Int)] := by
  unfold nmK; rw [List.range_succ, List.filter_append, List.filter_cons, if_pos h]; simp
theorem nmK_no {p : Int → Bool} {k : Nat} (h : p (k : Int) = false) : nmK p (k + 1) = nmK p k := by
  unfold nmK; rw [List.range_succ, List.filter_append, List.filter_cons, if_neg (by rw [h]; simp)]; simp
theorem nmK_len (p : Int → Bool) (k : Nat) : (nmK p k).length ≤ k := by
  unfold nmK; rw [List.length_map]
  exact Nat.le_trans (List.length_filter_le _ _) (by simp)
theorem mem_nmK {p : Int → Bool} {k : Nat} {x : Int} : x ∈ nmK p k ↔ 0 ≤ x ∧ x < k ∧ p x = true := by
  unfold nmK
  rw [List.mem_map]
  constructor
  · rintro ⟨a, ha, rfl⟩
    rw [List.mem_filter, List.mem_range] at ha
    exact ⟨by omega, by omega, ha.2⟩
  · rintro ⟨h1, h2, h3⟩
    refine ⟨x.toNat, ?_, by omega⟩
    rw [List.mem_filter, List.mem_range]
    refine ⟨by omega, ?_⟩
    rw [show ((x.toNat : Nat) : Int) = x by omega]; exact h3
theorem nmK_congr {p q : Int → Bool} {k : Nat} (h : ∀ x : Nat, x < k → p (x : Int) = q (x : Int)) : nmK p k = nmK q k := by
  unfold nmK
  rw [List.filter_congr (fun x hx => h x (List.mem_range.1 hx))]
section
attribute [local go_sem ↓] exec_app at_app
attribute [local go_sem] Oper.semAt_some
set_option maxRecDepth 100000 in
set_option maxHeartbeats 16000000 in
theorem names67 (b : BD) (f : Nat → Int) (c : Nat) (p : Int → Bool) (g : FuncId) (ra lb : Array Value) (w : World) (h : Bd w b f) (hok : BdOk b) (hc : b.l.N = (c : Int)) (hT : Tells w (.func (.func g) ra lb) (fun x => 0 ≤ x ∧ x < b.l.N) p) :
    Calls Try.prog 67 #[.pointer (some ⟨b.B, 0, none⟩), .func (.func g) ra lb] w fun e w' => ∃ Q, e = .returned (.slice (some ⟨Q, 0, none⟩) (nmK p c).length (nmK p c).length) ∧ w.heap.size ≤ Q ∧ Ints w' (some ⟨Q, 0, none⟩) (nmK p c).length (nmK p c) ∧ Below w.heap.size w w' := by
  obtain ⟨g1, ra1, lb1, eg1, eg, hT⟩ := hT
  cases eg1
  have hN := hok.N
  have hb1 := below_alloc_ w (.cells #[.int .i64 0, .int .i64 0, .int .i64 0, .int .i64 0, .int .i64 0, .int .i64 0, .int .i64 0, .int .i64 0, .int .i64 0, .int .i64 0, .int .i64 0, .int .i64 0, .int .i64 0, .int .i64 0, .int .i64 0, .int .i64 0, .int .i64 0, .int .i64 0, .int .i64 0, .int .i64 0, .int .i64 0, .int .i64 0, .int .i64 0, .int .i64 0, .int .i64 0, .int .i64 0, .int .i64 0, .int .i64 0, .int .i64 0, .int .i64 0, .int .i64 0, .int .i64 0, .int .i64 0, .int .i64 0, .int .i64 0, .int .i64 0, .int .i64 0, .int .i64 0, .int .i64 0, .int .i64 0] 113)
  have hr1 := heap_alloc_new_ w (.cells #[.int .i64 0, .int .i64 0, .int .i64 0, .int .i64 0, .int .i64 0, .int .i64 0, .int .i64 0, .int .i64 0, .int .i64 0, .int .i64 0, .int .i64 0, .int .i64 0, .int .i64 0, .int .i64 0, .int .i64 0, .int .i64 0, .int .i64 0, .int .i64 0, .int .i64 0, .int .i64 0, .int .i64 0, .int .i64 0, .int .i64 0, .int .i64 0, .int .i64 0, .int .i64 0, .int .i64 0, .int .i64 0, .int .i64 0, .int .i64 0, .int .i64 0, .int .i64 0, .int .i64 0, .int .i64 0, .int .i64 0, .int .i64 0, .int .i64 0, .int .i64 0, .int .i64 0, .int .i64 0] 113)
  obtain ⟨w1, hw1⟩ : ∃ w1, w.alloc (.cells #[.int .i64 0, .int .i64 0, .int .i64 0, .int .i64 0, .int .i64 0, .int .i64 0, .int .i64 0, .int .i64 0, .int .i64 0, .int .i64 0, .int .i64 0, .int .i64 0, .int .i64 0, .int .i64 0, .int .i64 0, .int .i64 0, .int .i64 0, .int .i64 0, .int .i64 0, .int .i64 0, .int .i64 0, .int .i64 0, .int .i64 0, .int .i64 0, .int .i64 0, .int .i64 0, .int .i64 0, .int .i64 0, .int .i64 0, .int .i64 0, .int .i64 0, .int .i64 0, .int .i64 0, .int .i64 0, .int .i64 0, .int .i64 0, .int .i64 0, .int .i64 0, .int .i64 0, .int .i64 0] 113) = w1 := ⟨_, rfl⟩
  obtain ⟨Q, hQ⟩ : ∃ Q, w.heap.size = Q := ⟨_, rfl⟩
  rw [hw1] at hb1 hr1
  rw [hQ] at hr1
  have hbr := h.below hb1 (Nat.le_refl _)
  have x0 := hbr.c0
  rw [hc] at x0
  have hm40 : c ≤ 40 := by omega
  have Hle := Lib.hid (fun k => nmK_len p k)
  have Hb1 := Lib.hid hb1
  have HW1 := Lib.hid hw1
  have HQ := Lib.hid hQ
  have Hr1 := Lib.hid hr1
  have HT := Lib.hid hT
  have Heg := Lib.hid eg
  have Hc := Lib.hid hc
  clear h hbr hb1 hw1 hQ hr1 hT eg hc hok hN
  have i0 : (0 : Int) ≤ (c : Int) := by omega
  have i1 : (c : Int) ≤ 40 := by omega
  go_enter Try.func67, Try.ntmps67
  go_upto_region 2 with fail
  rw [HW1.out]
  rw [HQ.out]
  go_wp2_with fail
  clear x0
  go_loopw [6, 7, 20] (fun v y i wr => ∃ k : Nat, k ≤ c ∧ i = .int .i64 (k : Int) ∧ v = .slice (some ⟨Q, 0, none⟩) (nmK p k).length c ∧ Hid (∃ cur : Array Value, wr.heap[Q]? = some (.cells cur 113 (0, 0)) ∧ cur.size = 40 ∧ cur.toList.take (nmK p k).length = flatI (nmK p k) ∧ Below w.heap.size w wr)) (fun v y i _ => c - (intOf i).toNat)
  case atStart => exact ⟨0, Nat.zero_le _, rfl, rfl, Lib.hid ⟨_, Hr1.out, rfl, rfl, Hb1.out⟩⟩
  case round =>
    obtain ⟨k, hk9, rfl, rfl, HV⟩ := hrel
    obtain ⟨wk, rfl⟩ : ∃ wk, wk = wr := ⟨_, rfl⟩
    obtain ⟨q, hq⟩ : ∃ q, (nmK p k).length = q := ⟨_, rfl⟩
    rw [hq] at HV ⊢
    have Hq := Lib.hid hq
    have hqk : q ≤ k := by rw [← hq]; exact Hle.out k
    clear hq
    by_cases hlt : k < c
    · have i2 : (k : Int) < (c : Int) := by omega
      obtain ⟨cur, hcQ, hcs, hct, hbk⟩ := HV.out
      have kp := HT.out wk (k : Int) ⟨by omega, by rw [Hc.out]; omega⟩ hbk
      obtain ⟨jn, hjn⟩ : ∃ jn, p (k : Int) = jn := ⟨_, rfl⟩
      rw [hjn] at kp
      have KP := Lib.hid kp
      have Hjn := Lib.hid hjn
      have HcQ := Lib.hid hcQ
      have Hcs := Lib.hid hcs
      have Hct := Lib.hid hct
      have Hbk := Lib.hid hbk
      have eg := Heg.out
      clear HV hcQ hcs hct hbk kp hjn
      go_wp2_with fail
      refine KP.out.mono ?_
      rintro en w3 ⟨rfl, hb3⟩
      have hcQ3 := (hb3.block _ (lt_of_block HcQ.out)).trans HcQ.out
      have HcQ3 := Lib.hid hcQ3
      have HB3 := Lib.hid (Hbk.out.trans (hb3.mono Hbk.out.size))
      clear KP hcQ3 hb3 eg
      rcases jn with _ | _
      · have HJ := Lib.hid (nmK_no Hjn.out)
        go_wp2_with fail
        go_roundw
        case rel => exact ⟨k + 1, by omega, by go_num, by rw [HJ.out, Hq.out], Lib.hid ⟨cur, HcQ3.out, Hcs.out, by rw [HJ.out, Hq.out]; exact Hct.out, HB3.out⟩⟩
        case measure => simp [intOf]; omega
      · have HJ := Lib.hid (nmK_yes Hjn.out)
        obtain ⟨W', cur', hrun, h4, h5, h6, h7⟩ := app_arr HcQ3.out (show q < c by omega) (by rw [Hcs.out]; omega) Hq.out Hct.out (k : Int)
        have H4 := Lib.hid h4
        have H5 := Lib.hid h5
        have H6 := Lib.hid h6
        have H7 := Lib.hid (show Below w.heap.size w W' from HB3.out.trans (h7.below HB3.out.size (fun j hj e => by have := HQ.out; omega)))
        clear h4 h5 h6 h7
        go_wp2_with fail
        go_roundw
        case rel => exact ⟨k + 1, by omega, by go_num, by rw [HJ.out, List.length_append, Hq.out]; rfl, Lib.hid ⟨cur', H4.out, by rw [H5.out, Hcs.out], by rw [HJ.out, List.length_append, Hq.out]; exact H6.out, H7.out⟩⟩
        case measure => simp [intOf]; omega
    · obtain rfl : k = c := by omega
      obtain ⟨cur, hcQ, hcs, hct, hbk⟩ := HV.out
      have hmk := fun W => make23 q (by omega) W
      have hQ2 : (wk.alloc (.cells (flatI (List.replicate q 0)).toArray 3)).heap[Q]? = some (.cells cur 113 (0, 0)) := hal_old hcQ
      have hZ2 := heap_alloc_new_ wk (.cells (flatI (List.replicate q 0)).toArray 3)
      have hbA := below_alloc_ wk (.cells (flatI (List.replicate q 0)).toArray 3)
      obtain ⟨Z, hZ⟩ : ∃ Z, wk.heap.size = Z := ⟨_, rfl⟩
      rw [hZ] at hZ2 hbA
      have hcp := copy23 Z Q q k (nmK p k) cur 113 3 (wk.alloc (.cells (flatI (List.replicate q 0)).toArray 3)) hZ2 hQ2 hct Hq.out
      have hr9 := setRow_same (flatI (nmK p k)).toArray hZ2
      have hk9 := keeps_setRow (wk.alloc (.cells (flatI (List.replicate q 0)).toArray 3)) Z (flatI (nmK p k)).toArray
      have hwk : w.heap.size ≤ wk.heap.size := hbk.size
      have hbZ : Below w.heap.size w (wk.alloc (.cells (flatI (List.replicate q 0)).toArray 3)) := hbk.trans ((below_alloc_ wk _).mono hwk)
      obtain ⟨jl, hjl⟩ : ∃ jl, nmK p k = jl := ⟨_, rfl⟩
      rw [hjl] at hcp hr9 hk9 Hq
      have Hjl := Lib.hid hjl
      have HB9 := Lib.hid (show Below w.heap.size w ((wk.alloc (.cells (flatI (List.replicate q 0)).toArray 3)).setRow Z (flatI jl).toArray) from hbZ.trans (hk9.below hbZ.size (fun j hj e => by omega)))
      have Hr9 := Lib.hid hr9
      have HZ := Lib.hid hZ
      have hwZ : w.heap.size ≤ Z := by omega
      clear HV hcQ hcs hct hbk hQ2 hZ2 hbA hr9 hk9 hbZ hZ hjl hwk
      go_wp2_with fail
      try rw [HZ.out]
      rw [hcp]
      go_wp2_with fail
      go_ret
      exact ⟨Z, by rw [Hjl.out, Hq.out]; rfl, hwZ, by rw [Hjl.out]; exact ints_row Hr9.out, HB9.out⟩
end
end Go.Proofs.Ytigohccehllmnaa

namespace Go.Proofs.Ytigohccehllmnaa
set_option linter.unusedSimpArgs false
set_option linter.unusedVariables false
open Go.RowKit Go.Shelf

theorem Tells.mono {W : World} {fv : Value} {D D' : Int → Prop} {p : Int → Bool} (h : Tells W fv D p) (hd : ∀ x, D' x → D x) : Tells W fv D' p := by
  obtain ⟨g, ra, lb, a, b, c⟩ := h
  exact ⟨g, ra, lb, a, b, fun W2 x hx h2 => c W2 x (hd x hx) h2⟩
theorem enters66 : ∀ args w, (callFunc 66 args).run Try.prog w = .ok (.enter 66 args) w := enters_of Try.func66 (by kernel_rfl) rfl
theorem enters81 : ∀ args w, (callFunc 81 args).run Try.prog w = .ok (.enter 81 args) w := enters_of Try.func81 (by kernel_rfl) rfl
theorem tellsOpen {W : World} {b : BD} {f : Nat → Int} (h : Bd W b f) (hok : BdOk b) (hf : Small b f) : TellsW W (.func (.func 66) #[.pointer (some ⟨b.B, 0, none⟩)] #[]) (fun wy => isWay b.zs wy) (opF b.zs f) :=
  ⟨66, #[.pointer (some ⟨b.B, 0, none⟩)], #[], rfl, enters66, fun W2 x hx hb => open66 b f x.link x.fr x.to W2 (h.below hb (Nat.le_refl _)) hok (by have := hx.1; rw [hok.zl] at this; exact this) hf⟩
theorem tellsBack {W : World} {b : BD} {f : Nat → Int} (h : Bd W b f) (hok : BdOk b) (hf : Small b f) : TellsW W (.func (.func 81) #[.pointer (some ⟨b.B, 0, none⟩)] #[]) (fun wy => isWay b.zs wy) (opB b.zs f) :=
  ⟨81, #[.pointer (some ⟨b.B, 0, none⟩)], #[], rfl, enters81, fun W2 x hx hb => openBack81 b f x.link x.fr x.to W2 (h.below hb (Nat.le_refl _)) hok (by have := hx.1; rw [hok.zl] at this; exact this) hf⟩
/-- The set of all that can be reached. -/
structure RS (zs : List Nl) (op : Wy → Bool) (fs : List Int) (R : Int → Bool) : Prop where
  cl : ClosedS zs op R
  st : ∀ x ∈ fs, R x = true
  mi : ∀ S, ClosedS zs op S → (∀ x ∈ fs, S x = true) → ∀ x, R x = true → S x = true
theorem rs_of {zs : List Nl} {op : Wy → Bool} {fs : List Int} {tr : List Wy} (ht : TrOk zs op fs tr) (hc : ∀ x, isWay zs x → op x = true → Rk fs tr x.fr → Rk fs tr x.to) : RS zs op fs (fun x => (cameW fs tr x).isSome) :=
  ⟨fun x hx ho h => cameW_some.2 (hc x hx ho (cameW_some.1 h)), fun x hx => cameW_some.2 (.inl hx), fun S hS hf x hx => TrOk.sub hS hf tr.length tr rfl ht x (cameW_some.1 hx)⟩
theorem tr_mem {zs : List Nl} {op : Wy → Bool} {fs : List Int} {tr : List Wy} (ht : TrOk zs op fs tr) {x : Wy} (hx : x ∈ tr) : isWay zs x ∧ op x = true := by
  obtain ⟨p, s, rfl⟩ := List.append_of_mem hx
  obtain ⟨a, b, -, -⟩ := ht p x s rfl
  exact ⟨a, b⟩
theorem ris_mem {c : Int} {zs : List Int} (h : risI c zs = true) : ∀ x ∈ zs, 0 ≤ x ∧ x < c := fun x hx => by
  obtain ⟨j, hj, e⟩ := List.getElem_of_mem hx
  have := ris_in h rfl j hj
  rw [iAt_eq hj, e] at this
  exact this
section
attribute [local go_sem ↓] exec_app at_app
attribute [local go_sem] Oper.semAt_some
set_option maxRecDepth 100000 in
set_option maxHeartbeats 16000000 in
theorem reach65 (b : BD) (f : Nat → Int) (A : Option Addr) (n cap : Nat) (fs : List Int) (go : FuncId) (ra lb : Array Value) (op : Wy → Bool) (w : World) (h : Bd w b f) (hok : BdOk b) (hI : Ints w A n fs) (h0 : 0 < n) (hn : n ≤ 40) (hfs : ∀ x ∈ fs, 0 ≤ x ∧ x < b.l.N) (hfo : TellsW w (.func (.func go) ra lb) (fun wy => isWay b.zs wy) op) :
    Calls Try.prog 65 #[.pointer (some ⟨b.B, 0, none⟩), .slice A n cap, .func (.func go) ra lb] w fun e w' => ∃ M nn S, e = .returned (.map (some M)) ∧ Tm w' M nn S ∧ nn ≤ 100 ∧ w.heap.size ≤ M ∧ RS b.zs op fs (fun x => (S x).isSome) ∧ Below w.heap.size w w' := by
  have HD := Lib.hid h
  have Hok := Lib.hid hok
  have HI := Lib.hid hI
  have Hfs := Lib.hid hfs
  have Hfo := Lib.hid hfo
  have k49 := in49 none 0 0 [] w ⟨rfl, fun h => by omega⟩ (by omega)
  clear h hok hI hfs hfo
  go_enter Try.func65, Try.ntmps65
  go_wp2_with fail
  refine k49.mono ?_
  rintro e1 w1 ⟨fv, rfl, hT, hb1⟩
  obtain ⟨gm, rm, lm, rfl, egm, hTm⟩ := hT (fun x => 0 ≤ x ∧ x < b.l.N)
  have k72 := search72 b f A n cap fs go gm ra lb rm lm op (fun x => decide (x ∈ ([] : List Int))) w1 (HD.out.below hb1 (Nat.le_refl _)) Hok.out (HI.out.below hb1 (Nat.le_refl _)) h0 hn Hfs.out (Hfo.out.below hb1) ⟨gm, rm, lm, rfl, egm, hTm⟩
  have HB1 := Lib.hid hb1
  have K72 := Lib.hid k72
  clear k49 hT egm hTm hb1 k72
  go_wp2_with fail
  refine K72.out.mono ?_
  rintro e2 w2 ⟨M, en, ok, tr, rfl, hTm, hM, hb2, htr, hno, hyes⟩
  have hfalse : ok = false := by
    cases ok
    · rfl
    · obtain ⟨_, _, _, _, h9⟩ := hyes rfl
      simp at h9
  have HF := Lib.hid (show Tm w2 M (n + tr.length) (cameW fs tr) ∧ n + tr.length ≤ 100 ∧ w.heap.size ≤ M ∧ RS b.zs op fs (fun x => (cameW fs tr x).isSome) ∧ Below w.heap.size w w2 from
    ⟨hTm, by have := tr_len Hok.out.okl htr (fun x hx => by have := Hfs.out x hx; have := Hok.out.N; omega); have := Hok.out.N; omega, by have := HB1.out.size; omega, rs_of htr (hno hfalse).1, HB1.out.trans (hb2.mono HB1.out.size)⟩)
  clear hTm hM hb2 htr hno hyes hfalse K72
  go_wp2_with fail
  go_ret
  exact ⟨M, _, _, rfl, HF.out.1, HF.out.2.1, HF.out.2.2.1, HF.out.2.2.2.1, HF.out.2.2.2.2⟩
set_option maxRecDepth 100000 in
set_option maxHeartbeats 16000000 in
theorem through50 (b : BD) (f : Nat → Int) (w : World) (h : Bd w b f) (hok : BdOk b) (hf : Small b f) :
    Calls Try.prog 50 #[.pointer (some ⟨b.B, 0, none⟩)] w fun e w' => ((∃ g cp ws a en, e = .returned (.tuple #[.slice (some ⟨g, 0, none⟩) ws.length cp, .bool true]) ∧ RowW w' g ws ∧ ws.length ≤ cp ∧ w.heap.size ≤ g ∧ a ∈ b.l.ls ∧ en ∈ b.l.rs ∧ IsPath a ws en ∧ (∀ x ∈ ws, isWay b.zs x ∧ opF b.zs f x = true) ∧ (ws.map (·.to)).Nodup ∧ a ∉ ws.map (·.to) ∧ 0 < ws.length ∧ ws.length ≤ 40) ∨
      (e = .returned (.tuple #[.slice none 0 0, .bool false]) ∧ ∃ S, ClosedS b.zs (opF b.zs f) S ∧ IsSd b.l.ls b.l.rs S)) ∧ Below w.heap.size w w' := by
  obtain ⟨w0, hw0⟩ : ∃ v, w = v := ⟨_, rfl⟩
  subst hw0
  have D := Lib.hid h
  have Hok := Lib.hid hok
  have Hf := Lib.hid hf
  have B := Lib.hid (Below.refl w.heap.size w)
  have b2 := h.c2
  have b3 := h.c3
  clear h hok hf
  go_enter Try.func50, Try.ntmps50
  go_wp2_with fail
  refine wp_region_held_drew (S := fun w2 => Below w.heap.size w w2) (by kernel_rfl) (drew_b _ _) (fun hS0 => ?_)
  refine wpAnyH_take (i := 0) (oi := { dst := some 8, op := Go.Op.move (Go.Operand.tmp 0), type := 64, pos := "search.go:63", after := #[], guard := none }) (v := .pointer (some ⟨b.B, 0, none⟩)) rfl (by kernel_rfl) (by kernel_rfl) (by kernel_rfl) (fun _ _ _ h => h) (Or.inl ⟨by rfl, by intro w2 hSw; (try dsimp only at hSw);  have yb2 := (hSw.cell (lt_of_cell b2)).trans b2; have yb3 := (hSw.cell (lt_of_cell b3)).trans b3;  go_simp⟩) hS0 ?_
  try simp only [Act.put, List.setIfInBounds_toArray, List.set_cons_zero, List.set_cons_succ]
  refine wpAnyH_take (i := 1) (oi := { dst := some 9, op := Go.Op.move (Go.Operand.tmp 0), type := 64, pos := "search.go:63", after := #[], guard := none }) (v := .pointer (some ⟨b.B, 0, none⟩)) rfl (by kernel_rfl) (by kernel_rfl) (by kernel_rfl) (fun _ _ _ h => h) (Or.inl ⟨by rfl, by intro w2 hSw; (try dsimp only at hSw);  have yb2 := (hSw.cell (lt_of_cell b2)).trans b2; have yb3 := (hSw.cell (lt_of_cell b3)).trans b3;  go_simp⟩) hS0 ?_
  try simp only [Act.put, List.setIfInBounds_toArray, List.set_cons_zero, List.set_cons_succ]
  refine wpAnyH_take (i := 2) (oi := { dst := some 10, op := Go.Op.nilCheck (Go.Operand.tmp 9), type := 0, pos := "search.go:63", after := #[{ on := 1, ground := Go.Ground.data }], guard := none }) (v := .pointer (some ⟨b.B, 0, none⟩)) rfl (by kernel_rfl) (by kernel_rfl) (by kernel_rfl) (fun _ _ _ h => h) (Or.inl ⟨by rfl, by intro w2 hSw; (try dsimp only at hSw);  have yb2 := (hSw.cell (lt_of_cell b2)).trans b2; have yb3 := (hSw.cell (lt_of_cell b3)).trans b3;  go_simp⟩) hS0 ?_
  try simp only [Act.put, List.setIfInBounds_toArray, List.set_cons_zero, List.set_cons_succ]
  refine wpAnyH_take (i := 3) (oi := { dst := some 11, op := Go.Op.fieldAddr 87 (Go.Operand.tmp 10) 0, type := 0, pos := "search.go:63", after := #[{ on := 2, ground := Go.Ground.data }], guard := none }) (v := .pointer (some ⟨b.B, 0, none⟩)) rfl (by kernel_rfl) (by kernel_rfl) (by kernel_rfl) (fun _ _ _ h => h) (Or.inl ⟨by rfl, by intro w2 hSw; (try dsimp only at hSw);  have yb2 := (hSw.cell (lt_of_cell b2)).trans b2; have yb3 := (hSw.cell (lt_of_cell b3)).trans b3;  go_simp⟩) hS0 ?_
  try simp only [Act.put, List.setIfInBounds_toArray, List.set_cons_zero, List.set_cons_succ]
  refine wpAnyH_take (i := 4) (oi := { dst := some 12, op := Go.Op.fieldAddr 25 (Go.Operand.tmp 11) 2, type := 0, pos := "search.go:63", after := #[{ on := 3, ground := Go.Ground.data }], guard := none }) (v := .pointer (some ⟨b.B, 2, none⟩)) rfl (by kernel_rfl) (by kernel_rfl) (by kernel_rfl) (fun _ _ _ h => h) (Or.inl ⟨by rfl, by intro w2 hSw; (try dsimp only at hSw);  have yb2 := (hSw.cell (lt_of_cell b2)).trans b2; have yb3 := (hSw.cell (lt_of_cell b3)).trans b3;  go_simp⟩) hS0 ?_
  try simp only [Act.put, List.setIfInBounds_toArray, List.set_cons_zero, List.set_cons_succ]
  refine wpAnyH_take (i := 5) (oi := { dst := some 13, op := Go.Op.load 23 (Go.Operand.tmp 12), type := 23, pos := "search.go:63", after := #[{ on := 4, ground := Go.Ground.data }], guard := none }) (v := .slice b.l.LA b.l.ln b.l.lc) rfl (by kernel_rfl) (by kernel_rfl) (by kernel_rfl) (fun _ _ _ h => h) (Or.inl ⟨by rfl, by intro w2 hSw; (try dsimp only at hSw);  have yb2 := (hSw.cell (lt_of_cell b2)).trans b2; have yb3 := (hSw.cell (lt_of_cell b3)).trans b3;  go_simp⟩) hS0 ?_
  try simp only [Act.put, List.setIfInBounds_toArray, List.set_cons_zero, List.set_cons_succ]
  refine wpAnyH_take (i := 6) (oi := { dst := some 14, op := Go.Op.move (Go.Operand.tmp 0), type := 64, pos := "search.go:63", after := #[], guard := none }) (v := .pointer (some ⟨b.B, 0, none⟩)) rfl (by kernel_rfl) (by kernel_rfl) (by kernel_rfl) (fun _ _ _ h => h) (Or.inl ⟨by rfl, by intro w2 hSw; (try dsimp only at hSw);  have yb2 := (hSw.cell (lt_of_cell b2)).trans b2; have yb3 := (hSw.cell (lt_of_cell b3)).trans b3;  go_simp⟩) hS0 ?_
  try simp only [Act.put, List.setIfInBounds_toArray, List.set_cons_zero, List.set_cons_succ]
  refine wpAnyH_take (i := 7) (oi := { dst := some 15, op := Go.Op.makeFunc (Go.Fn.func 66) #[Go.Operand.tmp 14] #[], type := 96, pos := "search.go:63", after := #[{ on := 6, ground := Go.Ground.data }], guard := none }) (v := .func (.func 66) #[.pointer (some ⟨b.B, 0, none⟩)] #[]) rfl (by kernel_rfl) (by kernel_rfl) (by kernel_rfl) (fun _ _ _ h => h) (Or.inl ⟨by rfl, by intro w2 hSw; (try dsimp only at hSw);  have yb2 := (hSw.cell (lt_of_cell b2)).trans b2; have yb3 := (hSw.cell (lt_of_cell b3)).trans b3;  go_simp⟩) hS0 ?_
  try simp only [Act.put, List.setIfInBounds_toArray, List.set_cons_zero, List.set_cons_succ]
  refine wpAnyH_take (i := 8) (oi := { dst := some 16, op := Go.Op.move (Go.Operand.tmp 0), type := 64, pos := "search.go:63", after := #[], guard := none }) (v := .pointer (some ⟨b.B, 0, none⟩)) rfl (by kernel_rfl) (by kernel_rfl) (by kernel_rfl) (fun _ _ _ h => h) (Or.inl ⟨by rfl, by intro w2 hSw; (try dsimp only at hSw);  have yb2 := (hSw.cell (lt_of_cell b2)).trans b2; have yb3 := (hSw.cell (lt_of_cell b3)).trans b3;  go_simp⟩) hS0 ?_
  try simp only [Act.put, List.setIfInBounds_toArray, List.set_cons_zero, List.set_cons_succ]
  refine wpAnyH_take (i := 9) (oi := { dst := some 17, op := Go.Op.nilCheck (Go.Operand.tmp 16), type := 0, pos := "search.go:63", after := #[{ on := 8, ground := Go.Ground.data }], guard := none }) (v := .pointer (some ⟨b.B, 0, none⟩)) rfl (by kernel_rfl) (by kernel_rfl) (by kernel_rfl) (fun _ _ _ h => h) (Or.inl ⟨by rfl, by intro w2 hSw; (try dsimp only at hSw);  have yb2 := (hSw.cell (lt_of_cell b2)).trans b2; have yb3 := (hSw.cell (lt_of_cell b3)).trans b3;  go_simp⟩) hS0 ?_
  try simp only [Act.put, List.setIfInBounds_toArray, List.set_cons_zero, List.set_cons_succ]
  refine wpAnyH_take (i := 10) (oi := { dst := some 18, op := Go.Op.fieldAddr 87 (Go.Operand.tmp 17) 0, type := 0, pos := "search.go:63", after := #[{ on := 9, ground := Go.Ground.data }], guard := none }) (v := .pointer (some ⟨b.B, 0, none⟩)) rfl (by kernel_rfl) (by kernel_rfl) (by kernel_rfl) (fun _ _ _ h => h) (Or.inl ⟨by rfl, by intro w2 hSw; (try dsimp only at hSw);  have yb2 := (hSw.cell (lt_of_cell b2)).trans b2; have yb3 := (hSw.cell (lt_of_cell b3)).trans b3;  go_simp⟩) hS0 ?_
  try simp only [Act.put, List.setIfInBounds_toArray, List.set_cons_zero, List.set_cons_succ]
  refine wpAnyH_take (i := 11) (oi := { dst := some 19, op := Go.Op.fieldAddr 25 (Go.Operand.tmp 18) 3, type := 0, pos := "search.go:63", after := #[{ on := 10, ground := Go.Ground.data }], guard := none }) (v := .pointer (some ⟨b.B, 3, none⟩)) rfl (by kernel_rfl) (by kernel_rfl) (by kernel_rfl) (fun _ _ _ h => h) (Or.inl ⟨by rfl, by intro w2 hSw; (try dsimp only at hSw);  have yb2 := (hSw.cell (lt_of_cell b2)).trans b2; have yb3 := (hSw.cell (lt_of_cell b3)).trans b3;  go_simp⟩) hS0 ?_
  try simp only [Act.put, List.setIfInBounds_toArray, List.set_cons_zero, List.set_cons_succ]
  refine wpAnyH_take (i := 12) (oi := { dst := some 20, op := Go.Op.load 23 (Go.Operand.tmp 19), type := 23, pos := "search.go:63", after := #[{ on := 11, ground := Go.Ground.data }], guard := none }) (v := .slice b.l.RA b.l.rn b.l.rc) rfl (by kernel_rfl) (by kernel_rfl) (by kernel_rfl) (fun _ _ _ h => h) (Or.inl ⟨by rfl, by intro w2 hSw; (try dsimp only at hSw);  have yb2 := (hSw.cell (lt_of_cell b2)).trans b2; have yb3 := (hSw.cell (lt_of_cell b3)).trans b3;  go_simp⟩) hS0 ?_
  try simp only [Act.put, List.setIfInBounds_toArray, List.set_cons_zero, List.set_cons_succ]
  refine wpAnyH_ready (rs := [13]) (by kernel_rfl) (by simp) ?_
  refine AllReadyH.cons (o := { dst := some 21, op := Go.Op.call { callee := Go.Callee.value (Go.Operand.func 49), args := #[Go.Operand.tmp 20], argTypes := #[23] }, type := 73, pos := "search.go:63", after := #[{ on := 12, ground := Go.Ground.data }], guard := none }) rfl (fun K2 hK => ?_) AllReadyH.nil
  go_simp
  refine (in49 b.l.RA b.l.rn b.l.rc b.l.rs _ (D.out.below hS0 (Nat.le_refl _)).rs (by have := Hok.out.rn; omega)).mono ?_
  rintro e9 wv1 ⟨fv, rfl, hT, hb9⟩
  obtain ⟨gm, rm, lm, rfl, egm, hTm⟩ := hT (fun x => 0 ≤ x ∧ x < b.l.N)
  have HT := Lib.hid (show Tells wv1 (.func (.func gm) rm lm) (fun x => 0 ≤ x ∧ x < b.l.N) (fun x => decide (x ∈ b.l.rs)) from ⟨gm, rm, lm, rfl, egm, hTm⟩)
  clear hT egm hTm
  (try go_simp)
  refine hK.out _ _ (hS0.trans (hb9.mono hS0.size)) (fun hS1 => ?_)
  clear hK K2 hb9
  try simp only [Act.put, List.setIfInBounds_toArray, List.set_cons_zero, List.set_cons_succ]
  refine wpAnyH_ready (rs := [14]) (by kernel_rfl) (by simp) ?_
  refine AllReadyH.cons (o := { dst := some 22, op := Go.Op.call { callee := Go.Callee.value (Go.Operand.func 72), args := #[Go.Operand.tmp 8, Go.Operand.tmp 13, Go.Operand.tmp 15, Go.Operand.tmp 21], argTypes := #[64, 23, 96, 73] }, type := 100, pos := "search.go:63", after := #[{ on := 0, ground := Go.Ground.data }, { on := 5, ground := Go.Ground.data }, { on := 7, ground := Go.Ground.data }, { on := 13, ground := Go.Ground.data }, { on := 13, ground := Go.Ground.chain }], guard := none }) rfl (fun K2 hK => ?_) AllReadyH.nil
  go_simp
  refine (search72 b f b.l.LA b.l.ln b.l.lc b.l.ls 66 gm #[.pointer (some ⟨b.B, 0, none⟩)] #[] rm lm (opF b.zs f) (fun x => decide (x ∈ b.l.rs)) wv1 (D.out.below hS1 (Nat.le_refl _)) Hok.out (D.out.below hS1 (Nat.le_refl _)).ls (by have := Hok.out.ln; omega) (by have := Hok.out.ln; omega) (ris_mem Hok.out.lr) (tellsOpen (D.out.below hS1 (Nat.le_refl _)) Hok.out Hf.out) HT.out).mono ?_
  rintro e9 wv2 ⟨M, en, ok, tr, rfl, hTm, hM, hb9, htr, hno, hyes⟩
  have HTm := Lib.hid hTm
  have HM := Lib.hid (show w.heap.size ≤ M from Nat.le_trans hS1.size hM)
  have Htr := Lib.hid htr
  have Hno := Lib.hid hno
  have Hyes := Lib.hid hyes
  clear hTm hM htr hno hyes
  (try go_simp)
  refine hK.out _ _ (hS1.trans (hb9.mono hS1.size)) (fun hS2 => ?_)
  clear hK K2 hb9
  try simp only [Act.put, List.setIfInBounds_toArray, List.set_cons_zero, List.set_cons_succ]
  refine wpAnyH_take (i := 15) (oi := { dst := some 7, op := Go.Op.move (Go.Operand.tmp 22), type := 100, pos := "search.go:63", after := #[{ on := 14, ground := Go.Ground.data }], guard := none }) (v := .tuple #[.map (some M), .int .i64 en, .bool ok]) rfl (by kernel_rfl) (by kernel_rfl) (by kernel_rfl) (fun _ _ _ h => h) (Or.inl ⟨by rfl, by intro w2 hSw; (try dsimp only at hSw);  have yb2 := (hSw.cell (lt_of_cell b2)).trans b2; have yb3 := (hSw.cell (lt_of_cell b3)).trans b3;  go_simp⟩) hS2 ?_
  try simp only [Act.put, List.setIfInBounds_toArray, List.set_cons_zero, List.set_cons_succ]
  refine wpAnyH_take (i := 16) (oi := { dst := some 23, op := Go.Op.extract (Go.Operand.tmp 7) 0, type := 94, pos := "search.go:63", after := #[{ on := 15, ground := Go.Ground.data }], guard := none }) (v := .map (some M)) rfl (by kernel_rfl) (by kernel_rfl) (by kernel_rfl) (fun _ _ _ h => h) (Or.inl ⟨by rfl, by intro w2 hSw; (try dsimp only at hSw);  have yb2 := (hSw.cell (lt_of_cell b2)).trans b2; have yb3 := (hSw.cell (lt_of_cell b3)).trans b3;  go_simp⟩) hS2 ?_
  try simp only [Act.put, List.setIfInBounds_toArray, List.set_cons_zero, List.set_cons_succ]
  refine wpAnyH_take (i := 17) (oi := { dst := some 24, op := Go.Op.extract (Go.Operand.tmp 7) 1, type := 3, pos := "search.go:63", after := #[{ on := 15, ground := Go.Ground.data }, { on := 19, ground := Go.Ground.gcOnly Go.Departure.lateStores }], guard := none }) (v := .int .i64 en) rfl (by kernel_rfl) (by kernel_rfl) (by kernel_rfl) (fun _ _ _ h => h) (Or.inl ⟨by rfl, by intro w2 hSw; (try dsimp only at hSw);  have yb2 := (hSw.cell (lt_of_cell b2)).trans b2; have yb3 := (hSw.cell (lt_of_cell b3)).trans b3;  go_simp⟩) hS2 ?_
  try simp only [Act.put, List.setIfInBounds_toArray, List.set_cons_zero, List.set_cons_succ]
  refine wpAnyH_take (i := 18) (oi := { dst := some 25, op := Go.Op.extract (Go.Operand.tmp 7) 2, type := 4, pos := "search.go:63", after := #[{ on := 15, ground := Go.Ground.data }, { on := 20, ground := Go.Ground.gcOnly Go.Departure.lateStores }], guard := none }) (v := .bool ok) rfl (by kernel_rfl) (by kernel_rfl) (by kernel_rfl) (fun _ _ _ h => h) (Or.inl ⟨by rfl, by intro w2 hSw; (try dsimp only at hSw);  have yb2 := (hSw.cell (lt_of_cell b2)).trans b2; have yb3 := (hSw.cell (lt_of_cell b3)).trans b3;  go_simp⟩) hS2 ?_
  try simp only [Act.put, List.setIfInBounds_toArray, List.set_cons_zero, List.set_cons_succ]
  refine wpAnyH_take (i := 19) (oi := { dst := some 4, op := Go.Op.assign (Go.Operand.tmp 23), type := 94, pos := "search.go:63", after := #[{ on := 16, ground := Go.Ground.data }, { on := 14, ground := Go.Ground.chain }, { on := 0, ground := Go.Ground.phase }, { on := 1, ground := Go.Ground.phase }, { on := 2, ground := Go.Ground.phase }, { on := 3, ground := Go.Ground.phase }, { on := 4, ground := Go.Ground.phase }, { on := 5, ground := Go.Ground.phase }, { on := 6, ground := Go.Ground.phase }, { on := 7, ground := Go.Ground.phase }, { on := 8, ground := Go.Ground.phase }, { on := 9, ground := Go.Ground.phase }, { on := 10, ground := Go.Ground.phase }, { on := 11, ground := Go.Ground.phase }, { on := 12, ground := Go.Ground.phase }, { on := 13, ground := Go.Ground.phase }, { on := 14, ground := Go.Ground.phase }, { on := 15, ground := Go.Ground.phase }, { on := 16, ground := Go.Ground.phase }, { on := 17, ground := Go.Ground.textOnly Go.Departure.lateStores }, { on := 18, ground := Go.Ground.textOnly Go.Departure.lateStores }], guard := none }) (v := .map (some M)) rfl (by kernel_rfl) (by kernel_rfl) (by kernel_rfl) (fun _ _ _ h => h) (Or.inl ⟨by rfl, by intro w2 hSw; (try dsimp only at hSw);  have yb2 := (hSw.cell (lt_of_cell b2)).trans b2; have yb3 := (hSw.cell (lt_of_cell b3)).trans b3;  go_simp⟩) hS2 ?_
  try simp only [Act.put, List.setIfInBounds_toArray, List.set_cons_zero, List.set_cons_succ]
  refine wpAnyH_take (i := 20) (oi := { dst := some 5, op := Go.Op.assign (Go.Operand.tmp 24), type := 3, pos := "search.go:63", after := #[{ on := 17, ground := Go.Ground.data }, { on := 19, ground := Go.Ground.chain }, { on := 0, ground := Go.Ground.phase }, { on := 1, ground := Go.Ground.phase }, { on := 2, ground := Go.Ground.phase }, { on := 3, ground := Go.Ground.phase }, { on := 4, ground := Go.Ground.phase }, { on := 5, ground := Go.Ground.phase }, { on := 6, ground := Go.Ground.phase }, { on := 7, ground := Go.Ground.phase }, { on := 8, ground := Go.Ground.phase }, { on := 9, ground := Go.Ground.phase }, { on := 10, ground := Go.Ground.phase }, { on := 11, ground := Go.Ground.phase }, { on := 12, ground := Go.Ground.phase }, { on := 13, ground := Go.Ground.phase }, { on := 14, ground := Go.Ground.phase }, { on := 15, ground := Go.Ground.phase }, { on := 16, ground := Go.Ground.phase }, { on := 17, ground := Go.Ground.phase }, { on := 18, ground := Go.Ground.textOnly Go.Departure.lateStores }, { on := 19, ground := Go.Ground.phase }], guard := none }) (v := .int .i64 en) rfl (by kernel_rfl) (by kernel_rfl) (by kernel_rfl) (fun _ _ _ h => h) (Or.inl ⟨by rfl, by intro w2 hSw; (try dsimp only at hSw);  have yb2 := (hSw.cell (lt_of_cell b2)).trans b2; have yb3 := (hSw.cell (lt_of_cell b3)).trans b3;  go_simp⟩) hS2 ?_
  try simp only [Act.put, List.setIfInBounds_toArray, List.set_cons_zero, List.set_cons_succ]
  refine wpAnyH_take (i := 21) (oi := { dst := some 6, op := Go.Op.assign (Go.Operand.tmp 25), type := 4, pos := "search.go:63", after := #[{ on := 18, ground := Go.Ground.data }, { on := 20, ground := Go.Ground.chain }, { on := 0, ground := Go.Ground.phase }, { on := 1, ground := Go.Ground.phase }, { on := 2, ground := Go.Ground.phase }, { on := 3, ground := Go.Ground.phase }, { on := 4, ground := Go.Ground.phase }, { on := 5, ground := Go.Ground.phase }, { on := 6, ground := Go.Ground.phase }, { on := 7, ground := Go.Ground.phase }, { on := 8, ground := Go.Ground.phase }, { on := 9, ground := Go.Ground.phase }, { on := 10, ground := Go.Ground.phase }, { on := 11, ground := Go.Ground.phase }, { on := 12, ground := Go.Ground.phase }, { on := 13, ground := Go.Ground.phase }, { on := 14, ground := Go.Ground.phase }, { on := 15, ground := Go.Ground.phase }, { on := 16, ground := Go.Ground.phase }, { on := 17, ground := Go.Ground.phase }, { on := 18, ground := Go.Ground.phase }, { on := 19, ground := Go.Ground.phase }, { on := 20, ground := Go.Ground.phase }], guard := none }) (v := .bool ok) rfl (by kernel_rfl) (by kernel_rfl) (by kernel_rfl) (fun _ _ _ h => h) (Or.inl ⟨by rfl, by intro w2 hSw; (try dsimp only at hSw);  have yb2 := (hSw.cell (lt_of_cell b2)).trans b2; have yb3 := (hSw.cell (lt_of_cell b3)).trans b3;  go_simp⟩) hS2 ?_
  try simp only [Act.put, List.setIfInBounds_toArray, List.set_cons_zero, List.set_cons_succ]
  refine wpAnyH_done (by kernel_rfl) ?_ _
  clear b2 b3
  have hb := hS2
  clear hS0 hS1 hS2
  replace D := Lib.hid (D.out.below hb (Nat.le_refl _))
  replace B := Lib.hid (B.out.trans (hb.mono B.out.size))
  clear hb
  rcases ok with _ | _
  · have HF := Lib.hid (show ∃ S, ClosedS b.zs (opF b.zs f) S ∧ IsSd b.l.ls b.l.rs S from by
      have hr := rs_of Htr.out (Hno.out rfl).1
      refine ⟨_, hr.cl, hr.st, fun y hy => ?_⟩
      rw [← Bool.not_eq_true]
      intro e
      rcases cameW_some.1 e with e | e
      · exact Hok.out.dj y e hy
      · obtain ⟨x, hx, rfl⟩ := List.mem_map.1 e
        have := (Hno.out rfl).2 x hx
        simp only [decide_eq_false_iff_not] at this
        exact this hy)
    go_wp2_with fail
    go_ret2
    exact ⟨.inr ⟨rfl, HF.out⟩, B.out⟩
  · obtain ⟨tr', x9, htr9, hto9, hmn9⟩ := Hyes.out rfl
    have hlen9 := tr_len Hok.out.okl Htr.out (fun x hx => by have := ris_mem Hok.out.lr x hx; have := Hok.out.N; omega)
    have hN9 := Hok.out.N
    have hrk : Rk b.l.ls tr en := .inr (by rw [htr9, ← hto9]; simp)
    have hen : en ∈ b.l.rs := of_decide_eq_true hmn9
    have hne : en ∉ b.l.ls := fun e => Hok.out.dj en e hen
    have K73 := Lib.hid (take73 M _ b.l.N.toNat b.zs (opF b.zs f) b.l.ls tr en _ HTm.out Hok.out.okl (by omega) Htr.out (fun x hx => by have := ris_mem Hok.out.lr x hx; omega) hrk hne (by omega))
    have Hen := Lib.hid hen
    have Hl9 := Lib.hid (show tr.length ≤ 40 by omega)
    clear htr9 hto9 hmn9 hlen9 hN9 hrk hen hne
    go_wp2_with fail
    refine K73.out.mono ?_
    rintro e3 w3 ⟨g, cp, ws, a, rfl, hrow, hcp, hg, ha, hpath, hmem, hnod, hna, hpos, hle, hk⟩
    have HF := Lib.hid (show RowW w3 g ws ∧ ws.length ≤ cp ∧ w.heap.size ≤ g ∧ a ∈ b.l.ls ∧ en ∈ b.l.rs ∧ IsPath a ws en ∧ (∀ x ∈ ws, isWay b.zs x ∧ opF b.zs f x = true) ∧ (ws.map (·.to)).Nodup ∧ a ∉ ws.map (·.to) ∧ 0 < ws.length ∧ ws.length ≤ 40 from
      ⟨hrow, hcp, by have := B.out.size; omega, ha, Hen.out, hpath, fun x hx => tr_mem Htr.out (hmem x hx), hnod, hna, hpos, by have := Hl9.out; omega⟩)
    have HB3 := Lib.hid (B.out.trans (hk.below B.out.size (fun j hj e => by have := HM.out; have := B.out.size; omega)))
    clear hrow hcp hg ha hpath hmem hnod hna hpos hle hk K73
    go_wp2_with fail
    go_ret2
    exact ⟨.inl ⟨g, cp, ws, a, en, rfl, HF.out⟩, HB3.out⟩
end
end Go.Proofs.Ytigohccehllmnaa
