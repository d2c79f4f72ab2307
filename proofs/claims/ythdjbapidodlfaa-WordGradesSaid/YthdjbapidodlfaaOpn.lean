/- Stage 4: a dictionary is opened. -/
import Derived.Test.YthdjbapidodlfaaOp
import Derived.Deep.RegionHeld3
import Derived.Deep.RegionWith
import Derived.Deep.Cut
import Derived.Deep.CutRange
namespace Go.Proofs.Ythdjbapidodlfaa
set_option linter.unusedSimpArgs false
set_option linter.unusedVariables false
open Go.RowKit Go.Shelf
attribute [local go_sem ↓] exec_app
attribute [local go_sem] Oper.semAt_some

theorem CMap.mono {W : World} {M B0 nn nn' : Nat} {WS : Nat → Prop} {nm : List Int} {S : Nat → Option Row} (h : CMap W M B0 nn WS nm S) (hn : nn ≤ nn') : CMap W M B0 nn' WS nm S :=
  ⟨h.mp.mono hn, h.own, h.sep, h.mem, h.nd, h.has, h.ws, h.nmW, h.oth⟩
theorem CMap.at {W : World} {M B0 nn : Nat} {WS : Nat → Prop} {nm : List Int} {S : Nat → Option Row} (h : CMap W M B0 nn WS nm S) {c : Nat} {r : Row} (hc : S c = some r) (hcW : c ≤ 1000) :
    (Instr.lookup 104 (.map (some M)) (.int .i64 (c : Int)) false).run Try.prog W = .ok (rowV r) W := by
  have := h.mp.look (t := 104) (e := 38) Try.underlying104 (by kernel_rfl) (x := c) hcW
  have e : ((S c).map rowV).getD zSl = rowV r := by rw [hc]; rfl
  rw [e] at this
  exact this
theorem CMap.name {W : World} {M B0 nn : Nat} {WS : Nat → Prop} {nm : List Int} {S : Nat → Option Row} (h : CMap W M B0 nn WS nm S) {x one : Nat} (hx : WS x) (h1 : iAt nm x = (one : Int)) : WS one ∧ ∃ r, S one = some r := by
  obtain ⟨v, hv, e⟩ := h.nmW x hx
  obtain ⟨c, r, hc, e2⟩ := h.has x hx
  have e3 : v = one := by omega
  have e4 : c = one := by omega
  subst e3 e4
  exact ⟨hv, r, hc⟩
set_option maxRecDepth 100000 in
set_option maxHeartbeats 8000000 in
theorem join70 (D : Nat) (A : Option Addr) (n cap : Nat) (nm : List Int) (M B0 nn : Nat) (WS : Nat → Prop) (S : Nat → Option Row) (x y one two : Nat) (w : World) (h : Dic w D A n cap nm M) (hc : CMap w M B0 nn WS nm S) (hnn : nn < 100000) (hD : D < B0) (hM : M < B0) (hDM : D ≠ M)
    (hx : WS x) (hy : WS y) (h1 : iAt nm x = (one : Int)) (h2 : iAt nm y = (two : Int)) :
    Calls Try.prog 70 #[.pointer (some ⟨D, 0, none⟩), .int .i64 (one : Int), .int .i64 (two : Int)] w fun e w' => e = .returned (.tuple #[]) ∧ ∃ S', Dic w' D A n cap (ren nm one two) M ∧ CMap w' M B0 (nn + 1) WS (ren nm one two) S' ∧ Keeps (fun j => j = D ∨ j = M ∨ ∃ c r, S c = some r ∧ r.g = j) w w' := by
  obtain ⟨h1W, r1, hr1⟩ := hc.name hx h1
  obtain ⟨h2W, r2, hr2⟩ := hc.name hy h2
  have l1 := hc.ws one h1W
  have l2 := hc.ws two h2W
  have Hd := Lib.hid h
  have Hc := Lib.hid hc
  have HW := Lib.hid (And.intro h1W h2W)
  have HR1 := Lib.hid hr1
  have HR2 := Lib.hid hr2
  have HPOS := Lib.hid (show 1 ≤ r2.l.length from List.length_pos_of_mem ((hc.mem two r2 hr2 (y : Int)).2 ⟨y, rfl, hy, h2⟩))
  clear h1 h2 hx hy h1W h2W hr1 hr2
  by_cases e12 : one = two
  · have d1 : ((one : Int) == (two : Int)) = true := by rw [beq_iff_eq]; omega
    have HRN := Lib.hid (show ren nm one two = nm by rw [e12]; exact ren_same _ _)
    clear e12 h hc
    go_enter Try.func70, Try.ntmps70
    go_wp2_with fail
    refine bodyPost_ret (v := .tuple #[]) (by simp [results, Try.results70, go_sem]) rfl ?_
    exact ⟨rfl, S, by rw [HRN.out]; exact Hd.out, by rw [HRN.out]; exact Hc.out.mono (Nat.le_succ _), Keeps.refl _ _⟩
  have d1 : ((one : Int) == (two : Int)) = false := by rw [beq_eq_false_iff_ne]; omega
  have hlk := hc.at HR2.out (by omega)
  have hmp := h.map
  have HNE := Lib.hid e12
  have hlen2 := hc.len HR2.out
  have hrow2 := (hc.own two r2 HR2.out).1
  have HRI2 := Lib.hid (rowI_own rfl hrow2)
  have HB2 := Lib.hid (hc.own two r2 HR2.out).2
  have HW2 := Lib.hid (show ∀ z ∈ r2.l, ∃ u : Nat, z = (u : Int) ∧ u ≤ 100 from fun z hz => by
    obtain ⟨u, e, hu, _⟩ := (hc.mem two r2 HR2.out z).1 hz
    exact ⟨u, e, hc.ws u hu⟩)
  have HNM := Lib.hid (hc.names h.len (one := one) HR2.out HW.out.2)
  obtain ⟨g2, cp2, xs2⟩ := r2
  dsimp only at hlen2 HRI2 HB2 HW2 HNM
  simp only [rowV] at hlk
  obtain ⟨m2, hm2⟩ : ∃ m2, xs2.length = m2 := ⟨_, rfl⟩
  rw [hm2] at hlk hlen2
  have Hm2 := Lib.hid hm2
  clear h hc e12 hrow2 hm2
  go_enter Try.func70, Try.ntmps70
  go_wp2_with fail
  clear hlk hmp
  have HI0 : Hid (Dic w D A n cap (setL nm one (xs2.take 0)) M ∧ Keeps (fun j => j = D) w w) := Lib.hid ⟨Hd.out, Keeps.refl _ _⟩
  go_loopw [7, 18] (fun v i wr => ∃ k : Nat, k ≤ m2 ∧ i = .int .i64 (k : Int) ∧ Hid (Dic wr D A n cap (setL nm one (xs2.take k)) M ∧ Keeps (fun j => j = D) w wr)) (fun v i _ => m2 - (intOf i).toNat)
  case atStart => exact ⟨0, Nat.zero_le _, rfl, HI0⟩
  case round =>
    obtain ⟨k, hk, rfl, HI⟩ := hrel
    obtain ⟨wk, rfl⟩ : ∃ wk, wk = wr := ⟨_, rfl⟩
    by_cases hlt : k < m2
    · have hkl : k < xs2.length := by have := Hm2.out; omega
      obtain ⟨u, hu, hu100⟩ := HW2.out (iAt xs2 k) (by rw [iAt_eq hkl]; exact List.getElem_mem _)
      have hcell := (HRI2.out.keep HI.out.2 (by have := HB2.out; omega)).cell (j := k) hkl
      rw [hu] at hcell
      have z0 := HI.out.1.name hu100
      have zf := HI.out.1.fz (1 + u)
      obtain ⟨zv, hzv⟩ : ∃ zv, iAt (setL nm one (xs2.take k)) u = zv := ⟨_, rfl⟩
      rw [hzv] at z0
      have HN : Hid (Dic (wk.setCell ⟨D, 1 + u, none⟩ (.int .i64 (one : Int))) D A n cap (setL nm one (xs2.take (k + 1))) M ∧ Keeps (fun j => j = D) w (wk.setCell ⟨D, 1 + u, none⟩ (.int .i64 (one : Int)))) := Lib.hid ⟨by
        have e : xs2.take (k + 1) = xs2.take k ++ [(u : Int)] := by rw [List.take_succ_eq_append_getElem hkl, ← hu, iAt_eq hkl]
        rw [e, setL_snoc, Int.toNat_natCast]
        exact HI.out.1.put hu100 _, HI.out.2.trans (keeps_setCell _ _ _ _)⟩
      have i0 : (0 : Int) ≤ (k : Int) := by omega
      have i1 : (k : Int) < (m2 : Int) := by omega
      have i2 : (k : Int) ≤ 101 := by omega
      have j0 : (0 : Int) ≤ (u : Int) := by omega
      have j1 : (u : Int) < 101 := by omega
      clear hkl hu hzv HI
      go_wp2_with fail
      go_roundw
      case rel => exact ⟨k + 1, by omega, by go_num, HN⟩
      case measure => simp [intOf]; omega
    · obtain rfl : k = m2 := by omega
      have hdk := HI.out.1
      rw [List.take_of_length_le (by have := Hm2.out; omega), HNM.out] at hdk
      have hkk := HI.out.2
      have hck := Hc.out.keep hkk (fun e => hDM e.symm) (fun j hj _ e => by omega)
      have HDK := Lib.hid hdk
      have HCK := Lib.hid hck
      have HKK := Lib.hid hkk
      have hbX := drew_b wk 1
      have hdX := hdk.below hbX (Nat.le_refl _)
      have hcX := hck.keep (Mut := fun _ => False) (Keeps.of_new hbX) (fun e => e) (fun _ _ _ e => e)
      have HCX := Lib.hid hcX
      have hl1 := hcX.at HR1.out (by omega)
      have hl2 := hcX.at HR2.out (by omega)
      simp only [rowV] at hl1 hl2
      have hi2 := (rowI_own rfl (hcX.own two _ HR2.out).1).ints
      have hm2 := Hm2.out
      obtain ⟨g, cp, W3, hrun, hown3, hK3, hg3⟩ := app_rows (c2 := cp2) (hcX.own one r1 HR1.out).1 hi2 HPOS.out (by show xs2.length ≤ 10000; omega) (by have := hcX.len HR1.out; omega)
      have hgB : B0 ≤ g := by
        rcases hg3 with e | ⟨e, _⟩
        · rw [rowV_block] at e; cases e; exact (hcX.own one r1 HR1.out).2
        · have q1 : B0 ≤ r1.g := (hcX.own one r1 HR1.out).2
          have q2 : r1.g < (wk.drewN 1).heap.size := own_lt (hcX.own one r1 HR1.out).1 r1.g rfl
          omega
      have hb1 := (hcX.own one r1 HR1.out).2
      have hd3 := hdX.keep hK3 (fun e => by rw [rowV_block] at e; cases e; omega)
      have hmp3 := hcX.mp.keep hK3 (fun e => by rw [rowV_block] at e; cases e; omega)
      obtain ⟨W4, hup, hmp4, hK4⟩ := hmp3.put (t := 104) (e := 38) Try.underlying104 (x := one) (by show one ≤ 1000; omega) (.slice (some ⟨g, 0, none⟩) (r1.l.length + k) cp) (by omega)
      obtain ⟨W5, hdl, hmp5, hK5⟩ := hmp4.del (t := 104) (e := 38) Try.underlying104 (x := two) (by show two ≤ 1000; omega) 0
      have hd4 := hd3.keep hK4 hDM
      have hd5 := hd4.keep hK5 hDM
      have m0 := hdX.map
      have m3 := hd3.map
      have m4 := hd4.map
      dsimp only at hrun hown3
      rw [hm2] at hrun hown3
      simp only [rowV, hm2] at hrun hl2
      have hup' : (Instr.mapUpdate 104 (.map (some M)) (.int .i64 (one : Int)) (.slice (some ⟨g, 0, none⟩) (r1.l.length + k) cp)).run Try.prog W3 = .ok () W4 := hup
      have hdl' : (Builtin.delete_ #[104, 3] 0 #[.map (some M), .int .i64 (two : Int)]).run Try.prog W4 = .ok (.tuple #[]) W5 := hdl
      have HFIN := Lib.hid (show Dic W5 D A n cap (ren nm one two) M from hd5)
      have HCF : Hid (CMap W5 M B0 (nn + 1) WS (ren nm one two) (putR (putR S one (some ⟨g, cp, r1.l ++ xs2⟩)) two none)) := Lib.hid (by
        refine hcX.joined (W9 := W5) Hd.out.len HR1.out HR2.out HNE.out HW.out.1 HW.out.2 (by dsimp only; rw [hm2]; exact own_keep (own_keep hown3 hK4 (fun j e e2 => by cases e; have e3 : g = M := e2; omega)) hK5 (fun j e e2 => by cases e; have e3 : g = M := e2; omega)) ?_ hgB ?_ ?_
        · rcases hg3 with e | ⟨e, _⟩
          · rw [rowV_block] at e; cases e; exact .inl rfl
          · exact .inr (by omega)
        · rw [putR_map, putR_map]
          have e9 : (Option.map rowV (some (⟨g, cp, r1.l ++ xs2⟩ : Row))) = some (.slice (some ⟨g, 0, none⟩) (r1.l.length + k) cp) := by
            simp [rowV, hm2]
          dsimp only
          rw [e9]
          exact hmp5
        · intro c r hcr hne
          have hsep : r.g ≠ r1.g := fun e => hne (hcX.sep _ _ _ _ hcr HR1.out e)
          refine own_keep (own_keep (own_keep (hcX.own c r hcr).1 hK3 (fun j e e2 => ?_)) hK4 (fun j e e2 => ?_)) hK5 (fun j e e2 => ?_)
          · rw [rowV_block] at e e2; have e3 := e.trans e2.symm; exact hsep (Option.some.inj e3)
          · rw [rowV_block] at e; cases e; have := (hcX.own c r hcr).2; have e3 : r.g = M := e2; omega
          · rw [rowV_block] at e; cases e; have := (hcX.own c r hcr).2; have e3 : r.g = M := e2; omega)
      have HKF := Lib.hid (show Keeps (fun j => j = D ∨ j = M ∨ ∃ c r, S c = some r ∧ r.g = j) w W5 from by
        refine ((((hkk.mono (fun j _ e => .inl e)).trans (Keeps.of_new hbX)).trans (hK3.mono (fun j _ e => ?_))).trans (hK4.mono (fun j _ e => .inr (.inl e)))).trans (hK5.mono (fun j _ e => .inr (.inl e)))
        rw [rowV_block] at e; cases e; exact .inr (.inr ⟨one, r1, HR1.out, rfl⟩))
      obtain ⟨n1, hn1⟩ : ∃ n1, r1.l.length = n1 := ⟨_, rfl⟩
      rw [hn1] at hl1 hrun hup'
      have m00 := HDK.out.map
      replace hl1 : (Instr.lookup 104 (.map (some M)) (.int .i64 (one : Int)) false).run Try.prog wk.drew = .ok (.slice (some ⟨r1.g, 0, none⟩) n1 r1.cp) wk.drew := hl1
      replace hl2 : (Instr.lookup 104 (.map (some M)) (.int .i64 (two : Int)) false).run Try.prog wk.drew = .ok (.slice (some ⟨g2, 0, none⟩) k cp2) wk.drew := hl2
      replace hrun : runA Try.prog 38 (.slice (some ⟨r1.g, 0, none⟩) n1 r1.cp) (.slice (some ⟨g2, 0, none⟩) k cp2) wk.drew = .ok (.value (.slice (some ⟨g, 0, none⟩) (n1 + k) cp)) W3 := hrun
      clear hdk hkk hck hbX hdX hcX hi2 hown3 hK3 hg3 hgB hb1 hd3 hmp3 hup hmp4 hK4 hdl hmp5 hK5 hd4 hd5 hn1 hm2 HI
      go_wp2_with fail
      go_region
      all_goals (go_wp2_with fail)
      go_end0
      exact ⟨rfl, _, HFIN.out, HCF.out, HKF.out⟩
end Go.Proofs.Ythdjbapidodlfaa

namespace Go.Proofs.Ythdjbapidodlfaa
set_option linter.unusedSimpArgs false
set_option linter.unusedVariables false
open Go.RowKit Go.Shelf
attribute [local go_sem ↓] exec_app
attribute [local go_sem] Oper.semAt_some

/-- One word more has a row. -/
theorem CMap.add {W W9 : World} {M B0 nn : Nat} {WS : Nat → Prop} {S : Nat → Option Row} (h : CMap W M B0 nn WS nm0 S) {u : Nat} (hu : u ≤ 100) {g cp : Nat} (hg : W.heap.size ≤ g) (hgB : B0 ≤ g)
    (hrow : W9.ownsRow 0 3 1 (.slice (some ⟨g, 0, none⟩) 1 cp) 1 (flatI [(u : Int)])) (hmp : MpH kfW zSl W9 M (nn + 1) (fun c => (putR S u (some ⟨g, cp, [(u : Int)]⟩) c).map rowV))
    (hown : ∀ c r, S c = some r → W9.ownsRow 0 3 1 (rowV r) r.l.length (flatI r.l)) : CMap W9 M B0 (nn + 1) (fun x => WS x ∨ x = u) nm0 (putR S u (some ⟨g, cp, [(u : Int)]⟩)) := by
  have hS : ∀ c r, putR S u (some ⟨g, cp, [(u : Int)]⟩) c = some r → (c = u ∧ r = ⟨g, cp, [(u : Int)]⟩) ∨ (c ≠ u ∧ S c = some r) := by
    intro c r hc
    by_cases e1 : c = u
    · subst e1; rw [putR_same] at hc; cases hc; exact .inl ⟨rfl, rfl⟩
    · rw [putR_other _ _ e1] at hc; exact .inr ⟨e1, hc⟩
  have hlt : ∀ c r, S c = some r → r.g < W.heap.size := fun c r hc => own_lt (h.own c r hc).1 _ rfl
  refine ⟨hmp, ?_, ?_, ?_, ?_, ?_, ?_, ?_, ?_⟩
  · intro c r hc
    rcases hS c r hc with ⟨rfl, rfl⟩ | ⟨e1, hc⟩
    · exact ⟨hrow, hgB⟩
    · exact ⟨hown c r hc, (h.own c r hc).2⟩
  · intro c c' r r' hc hc' hgg
    have k1 := hS c r hc
    have k2 := hS c' r' hc'
    clear hc hc'
    rcases k1 with ⟨rfl, rfl⟩ | ⟨e1, hc⟩
    · rcases k2 with ⟨rfl, rfl⟩ | ⟨e1', hc'⟩
      · rfl
      · have := hlt c' r' hc'; dsimp only at hgg; omega
    · rcases k2 with ⟨rfl, rfl⟩ | ⟨e1', hc'⟩
      · have := hlt c r hc; dsimp only at hgg; omega
      · exact h.sep _ _ _ _ hc hc' hgg
  · intro c r hc x
    rcases hS c r hc with ⟨rfl, rfl⟩ | ⟨e1, hc⟩
    · dsimp only
      rw [List.mem_singleton]
      constructor
      · rintro rfl; exact ⟨c, rfl, .inr rfl, nm0_at hu⟩
      · rintro ⟨v, rfl, hv, hn⟩
        have hv100 : v ≤ 100 := by
          rcases hv with hv | rfl
          · exact h.ws v hv
          · exact hu
        rw [nm0_at hv100] at hn
        exact hn
    · rw [h.mem c r hc]
      constructor
      · rintro ⟨v, e, hv, hn⟩; exact ⟨v, e, .inl hv, hn⟩
      · rintro ⟨v, e, hv | rfl, hn⟩
        · exact ⟨v, e, hv, hn⟩
        · rw [nm0_at hu] at hn
          exact absurd (by omega : c = v) e1
  · intro c r hc
    rcases hS c r hc with ⟨rfl, rfl⟩ | ⟨e1, hc⟩
    · simp
    · exact h.nd c r hc
  · intro v hv
    by_cases e : v = u
    · subst e
      exact ⟨v, ⟨g, cp, [(v : Int)]⟩, putR_same _ _ _, nm0_at hu⟩
    · rcases hv with hv | hv
      · obtain ⟨c, r, hc, hn⟩ := h.has v hv
        rw [nm0_at (h.ws v hv)] at hn
        have : c = v := by omega
        subst this
        exact ⟨c, r, by rw [putR_other _ _ e]; exact hc, nm0_at (h.ws c hv)⟩
      · exact absurd hv e
  · rintro v (hv | rfl)
    · exact h.ws v hv
    · exact hu
  · rintro v (hv | rfl)
    · exact ⟨v, .inl hv, nm0_at (h.ws v hv)⟩
    · exact ⟨v, .inr rfl, nm0_at hu⟩
  · intro v hv _
    exact nm0_at hv
theorem CMap.congr {W : World} {M B0 nn : Nat} {WS WS' : Nat → Prop} {nm : List Int} {S : Nat → Option Row} (h : CMap W M B0 nn WS nm S) (e : ∀ u, WS u ↔ WS' u) : CMap W M B0 nn WS' nm S := by
  have : WS = WS' := funext fun u => propext (e u)
  subst this; exact h
theorem own_single {W : World} {Z : Nat} {u : Int} (hZ : W.heap[Z]? = some (.cells #[.int .i64 u] 3 (0, 0))) : W.ownsRow 0 3 1 (.slice (some ⟨Z, 0, none⟩) 1 1) 1 (flatI [u]) :=
  ⟨rfl, .inr ⟨Z, 1, #[.int .i64 u], rfl, Nat.zero_le _, hZ, Nat.le_refl _, by decide, rfl, rfl⟩⟩
/-- The words of the first k pairs. -/
def wsK (ps : List (Nat × Nat)) (k : Nat) (u : Nat) : Prop := ∃ p ∈ ps.take k, u = p.1 ∨ u = p.2
/-- The names that stand behind k stores. -/
def setK : Nat → List Int
  | 0 => List.replicate 101 0
  | k + 1 => (setK k).set k (k : Int)
theorem setK_len (k : Nat) : (setK k).length = 101 := by
  induction k with
  | zero => simp [setK]
  | succ k ih => simp only [setK, List.length_set]; exact ih
theorem setK_all : setK 101 = nm0 := by
  have h : ∀ k, k ≤ 101 → ∀ w, w < k → iAt (setK k) w = (w : Int) := by
    intro k
    induction k with
    | zero => intro _ w hw; omega
    | succ k ih =>
      intro hk w hw
      simp only [setK]
      rw [iAt_set9 _ (by rw [setK_len]; omega)]
      split
      · next e => omega
      · exact ih (by omega) w (by omega)
  refine List.ext_getElem (by rw [setK_len, nm0_len]) fun i h1 h2 => ?_
  have e1 := h 101 (Nat.le_refl _) i (by rw [setK_len] at h1; exact h1)
  have e2 := nm0_at (w := i) (by rw [nm0_len] at h2; omega)
  rw [iAt_eq h1] at e1
  rw [iAt_eq h2] at e2
  rw [e1, e2]
end Go.Proofs.Ythdjbapidodlfaa

namespace Go.Proofs.Ythdjbapidodlfaa
set_option linter.unusedSimpArgs false
set_option linter.unusedVariables false
open Go.RowKit Go.Shelf
attribute [local go_sem ↓] exec_app
attribute [local go_sem] Oper.semAt_some

theorem dic_new (A : Option Addr) (n cap M : Nat) : (Try.zeroCells107.setIfInBounds 0 (Value.slice A n cap)).setIfInBounds 102 (Value.map (some M)) = (dicL A n cap (setK 0) M).toArray := by kernel_rfl
theorem wsK_succ {ps : List (Nat × Nat)} {k a b : Nat} (h : k < ps.length) (e : ps[k] = (a, b)) (u : Nat) : wsK ps (k + 1) u ↔ ((wsK ps k u ∨ u = a) ∨ u = b) := by
  unfold wsK
  rw [List.take_succ_eq_append_getElem h, e]
  constructor
  · rintro ⟨p, hp, hu⟩
    rcases List.mem_append.1 hp with hp | hp
    · exact .inl (.inl ⟨p, hp, hu⟩)
    · rw [List.mem_singleton.1 hp] at hu
      rcases hu with hu | hu
      · exact .inl (.inr hu)
      · exact .inr hu
  · rintro ((⟨p, hp, hu⟩ | hu) | hu)
    · exact ⟨p, List.mem_append_left _ hp, hu⟩
    · exact ⟨(a, b), by simp, .inl hu⟩
    · exact ⟨(a, b), by simp, .inr hu⟩
theorem wsK_mem {ps : List (Nat × Nat)} {n k a b : Nat} (hn : ps.length ≤ n) (h : k < ps.length) (e : ps[k] = (a, b)) : wsK ps n a ∧ wsK ps n b := by
  unfold wsK
  rw [List.take_of_length_le hn]
  have hm : (a, b) ∈ ps := by rw [← e]; exact List.getElem_mem _
  exact ⟨⟨_, hm, .inl rfl⟩, ⟨_, hm, .inr rfl⟩⟩
theorem cmap_start {W : World} {M B0 : Nat} {ps : List (Nat × Nat)} (h : W.heap[M]? = some (.map #[] 0)) : CMap W M B0 0 (wsK ps 0) nm0 (fun _ => none) := by
  have hF : ∀ u, ¬ wsK ps 0 u := fun u hu => by obtain ⟨p, hp, _⟩ := hu; simp at hp
  exact ⟨MpH.new h, fun c r hc => (by cases hc), fun c c' r r' hc => (by cases hc), fun c r hc => (by cases hc), fun c r hc => (by cases hc), fun u hu => absurd hu (hF u), fun u hu => absurd hu (hF u), fun u hu => absurd hu (hF u), fun u hu _ => nm0_at hu⟩
theorem CMap.put {W : World} {M B0 nn : Nat} {WS : Nat → Prop} {S : Nat → Option Row} (h : CMap W M B0 nn WS nm0 S) {u : Nat} (hu : u ≤ 100) (hB : B0 ≤ W.heap.size) (hM : M < B0) (hnn : nn < 100000) :
    ∃ W', (Instr.mapUpdate 104 (.map (some M)) (.int .i64 (u : Int)) (.slice (some ⟨W.heap.size, 0, none⟩) 1 1)).run Try.prog (W.alloc (.cells #[.int .i64 (u : Int)] 3)) = .ok () W' ∧ (∃ S', CMap W' M B0 (nn + 1) (fun x => WS x ∨ x = u) nm0 S') ∧ Keeps (fun j => j = M ∨ B0 ≤ j) W W' := by
  have hb := below_alloc_ W (.cells #[.int .i64 (u : Int)] 3)
  have hz := heap_alloc_new_ W (.cells #[.int .i64 (u : Int)] 3)
  have h1 := h.keep (Mut := fun _ => False) (Keeps.of_new hb) (fun e => e) (fun _ _ _ e => e)
  obtain ⟨W', hup, hmp, hK⟩ := h1.mp.put (t := 104) (e := 38) Try.underlying104 (x := u) (by show u ≤ 1000; omega) (.slice (some ⟨W.heap.size, 0, none⟩) 1 1) (by omega)
  refine ⟨W', hup, ⟨_, h.add (W9 := W') hu (g := W.heap.size) (cp := 1) (Nat.le_refl _) hB (own_keep (own_single hz) hK (fun j e e2 => by cases e; have e3 : W.heap.size = M := e2; omega)) ?_ ?_⟩, (Keeps.of_new hb).trans (hK.mono (fun j _ e => .inl e))⟩
  · rw [putR_map]
    exact hmp
  · intro c r hc
    exact own_keep (h1.own c r hc).1 hK (fun j e e2 => by rw [rowV_block] at e; cases e; have := (h1.own c r hc).2; have e3 : r.g = M := e2; omega)
set_option maxRecDepth 100000 in
set_option maxHeartbeats 16000000 in
theorem open48 (A : Option Addr) (n cap : Nat) (zs : List Rg) (w : World) (h : Rgs w A n zs) (hz : chkB zs = 0) :
    Calls Try.prog 48 #[.agg #[.slice A n cap]] w fun e w' => ∃ D M, e = .returned (.pointer (some ⟨D, 0, none⟩)) ∧ Dic w' D A n cap (cls (prs zs)) M ∧ w.heap.size ≤ D ∧ Below w.heap.size w w' := by
  have Hlen := Lib.hid h.1
  have HZ := Lib.hid (chkB_zero.1 hz)
  have hn40 : n ≤ 40 := by have := HZ.out.1; rw [h.1] at this; exact this
  have hb0 := below_alloc_ w (.cells #[.slice A n cap] 24)
  have hr0 := heap_alloc_new_ w (.cells #[.slice A n cap] 24)
  obtain ⟨W0, hW0⟩ : ∃ W0, w.alloc (.cells #[.slice A n cap] 24) = W0 := ⟨_, rfl⟩
  obtain ⟨R, hR⟩ : ∃ R, w.heap.size = R := ⟨_, rfl⟩
  have hs0 : W0.heap.size = R + 1 := by rw [← hW0, ← hR]; simp
  rw [hW0] at hb0 hr0
  rw [hR] at hr0
  have HA := Lib.hid (show 0 < n → ∃ b o, A = some ⟨b, o, none⟩ ∧ b < R from fun hp => by
    obtain ⟨b, o, e, hc⟩ := h.2 hp
    have := lt_of_cell (hc 0 hp).1
    exact ⟨b, o, e, by omega⟩)
  have S0 := Lib.hid (h.below hb0 (Nat.le_refl _))
  have hk1 : Below W0.heap.size W0 ((W0.alloc (.map #[] 0)).alloc (.cells (dicL A n cap (setK 0) (R + 1)).toArray 107)) := (below_alloc_ _ _).trans ((below_alloc_ _ _).mono (below_alloc_ W0 (.map #[] 0)).size)
  have hm1 : ((W0.alloc (.map #[] 0)).alloc (.cells (dicL A n cap (setK 0) (R + 1)).toArray 107)).heap[R + 1]? = some (.map #[] 0) := hal_old (hal_new (by omega))
  have hd1 : ((W0.alloc (.map #[] 0)).alloc (.cells (dicL A n cap (setK 0) (R + 1)).toArray 107)).heap[R + 1 + 1]? = some (.cells (dicL A n cap (setK 0) (R + 1)).toArray 107 (0, 0)) := hal_new (by simp; omega)
  have hsz1 : ((W0.alloc (.map #[] 0)).alloc (.cells (dicL A n cap (setK 0) (R + 1)).toArray 107)).heap.size = R + 3 := by simp; omega
  obtain ⟨w1, hw1⟩ : ∃ w1, (W0.alloc (.map #[] 0)).alloc (.cells (dicL A n cap (setK 0) (R + 1)).toArray 107) = w1 := ⟨_, rfl⟩
  rw [hw1] at hk1 hm1 hd1 hsz1
  have B0' := Lib.hid (show Below w.heap.size w w1 from hb0.trans (hk1.mono hb0.size))
  have HS1 := Lib.hid (S0.out.below hk1 (Nat.le_refl _))
  have HW0 := Lib.hid hW0
  have HR := Lib.hid hR
  have HM1 := Lib.hid hm1
  have HDic1 := Lib.hid (show Dic w1 (R + 1 + 1) A n cap (setK 0) (R + 1) from ⟨hd1, setK_len 0⟩)
  have HSz := Lib.hid hsz1
  have HW1 := Lib.hid hw1
  have r0 : W0.cell? ⟨R, 0, none⟩ = some (.slice A n cap) := by rw [cell_row hr0]; rfl
  have hmm := @run_makeMap Try.prog
  obtain ⟨ps, hps⟩ : ∃ ps, prs zs = ps := ⟨_, rfl⟩
  have Hps := Lib.hid hps
  have HPL := Lib.hid (show ps.length = n by rw [← hps]; unfold prs; rw [List.length_map, Hlen.out])
  have HIN := Lib.hid (show inW ps by rw [← hps]; exact inW_prs HZ.out.2)
  have HPK := Lib.hid (show ∀ k, k < n → ∃ a b : Nat, gAt zs k = ⟨(a : Int), (b : Int)⟩ ∧ 1 ≤ a ∧ a ≤ 100 ∧ 1 ≤ b ∧ b ≤ 100 ∧ ∃ hk : k < ps.length, ps[k] = (a, b) from fun k hk => by
    obtain ⟨a, b, e, q⟩ := okP_of HZ.out.2 (k := k) (by rw [Hlen.out]; exact hk)
    refine ⟨a, b, e, q.1, q.2.1, q.2.2.1, q.2.2.2, by rw [HPL.out]; exact hk, ?_⟩
    have e2 : ps[k]'(by rw [HPL.out]; exact hk) = prW (gAt zs k) := by
      rw [gAt_eq (by rw [Hlen.out]; exact hk)]
      subst hps
      simp [prs]
    rw [e2, e]; rfl)
  clear h hb0 hr0 hW0 hR hz hk1 hm1 hd1 hw1 hsz1 hps
  go_enter Try.func48, Try.ntmps48
  go_wp2_with fail
  rw [HW0.out]
  try rw [HR.out]
  go_wp2_with fail
  rw [dic_new, HW1.out]
  obtain ⟨D, hD⟩ : ∃ D, R + 1 + 1 = D := ⟨_, rfl⟩
  obtain ⟨M, hM⟩ : ∃ M, R + 1 = M := ⟨_, rfl⟩
  obtain ⟨B0, hB0⟩ : ∃ B0, R + 3 = B0 := ⟨_, rfl⟩
  have hDB : D < B0 := by omega
  have hMB : M < B0 := by omega
  have hDM : D ≠ M := by omega
  have HRB := Lib.hid (show R < D ∧ R < M ∧ R < B0 by omega)
  rw [hD] at HDic1
  rw [hM] at HM1 HDic1
  rw [hB0] at HSz
  try rw [hD]
  try rw [hM]
  clear hD hM hB0 r0 hmm hs0
  have HI0 : Hid (Dic w1 D A n cap (setK 0) M ∧ Keeps (fun j => j = D) w1 w1) := Lib.hid ⟨HDic1.out, Keeps.refl _ _⟩
  go_loopw [4, 15] (fun x i wr => ∃ k : Nat, k ≤ 101 ∧ i = .int .i64 (k : Int) ∧ Hid (Dic wr D A n cap (setK k) M ∧ Keeps (fun j => j = D) w1 wr)) (fun x i _ => 101 - (intOf i).toNat)
  case atStart => exact ⟨0, Nat.zero_le _, rfl, HI0⟩
  case round =>
    obtain ⟨k, hk, rfl, HI⟩ := hrel
    obtain ⟨wk, rfl⟩ : ∃ wk, wk = wr := ⟨_, rfl⟩
    by_cases hlt : k < 101
    · have z0 := HI.out.1.name (j := k) (by omega)
      have zf := HI.out.1.fz (1 + k)
      obtain ⟨zv, hzv⟩ : ∃ zv, iAt (setK k) k = zv := ⟨_, rfl⟩
      rw [hzv] at z0
      have HN : Hid (Dic (wk.setCell ⟨D, 1 + k, none⟩ (.int .i64 (k : Int))) D A n cap (setK (k + 1)) M ∧ Keeps (fun j => j = D) w1 (wk.setCell ⟨D, 1 + k, none⟩ (.int .i64 (k : Int)))) := Lib.hid ⟨HI.out.1.put (by omega) _, HI.out.2.trans (keeps_setCell _ _ _ _)⟩
      have i0 : (0 : Int) ≤ (k : Int) := by omega
      have i1 : (k : Int) < 101 := by omega
      clear hzv HI
      go_wp2_with fail
      go_roundw
      case rel => exact ⟨k + 1, by omega, by go_num, HN⟩
      case measure => simp [intOf]; omega
    · have hdic := HI.out.1
      rw [show k = 101 from by omega, setK_all] at hdic
      have hkk := HI.out.2
      have HDic := Lib.hid hdic
      have HKK := Lib.hid hkk
      have hsz : B0 ≤ wk.heap.size := by rw [← HSz.out]; exact hkk.size
      have HSZ := Lib.hid hsz
      have HC0 := Lib.hid (cmap_start (B0 := B0) (ps := ps) ((hkk.block M (lt_of_block HM1.out) (fun e => hDM e.symm)).trans HM1.out))
      have HSK := Lib.hid (show ∀ W, Keeps (fun j => j = D ∨ j = M ∨ B0 ≤ j) wk W → 0 < n → ∃ b o, A = some ⟨b, o, none⟩ ∧ ∀ j, j < n → W.cell? ⟨b, o + j * 2, none⟩ = some (.int .i64 (gAt zs j).lo) ∧ W.cell? ⟨b, o + j * 2 + 1, none⟩ = some (.int .i64 (gAt zs j).hi) from fun W hK hp => by
        obtain ⟨b, o, e, hb⟩ := HA.out hp
        obtain ⟨b2, o2, e2, hc⟩ := HS1.out.2 hp
        rw [e] at e2
        cases e2
        have h9 := HRB.out
        have hl := lt_of_cell (hc 0 hp).1
        exact ⟨b, o, e, fun j hj => ⟨((keep_cells hK (Nat.lt_of_lt_of_le hl HKK.out.size) (by omega) _).trans (keep_cells HKK.out hl (by omega) _)).trans (hc j hj).1, ((keep_cells hK (Nat.lt_of_lt_of_le hl HKK.out.size) (by omega) _).trans (keep_cells HKK.out hl (by omega) _)).trans (hc j hj).2⟩⟩)
      have d0 := hdic.likes
      have i5 : ¬ (k : Int) < 101 := by omega
      clear hdic hkk hsz HI hlt hk
      have HJ0 : Hid (∃ S nn, nn ≤ 2 * 0 ∧ CMap wk M B0 nn (wsK ps 0) nm0 S ∧ Keeps (fun j => j = M ∨ B0 ≤ j) wk wk) := Lib.hid ⟨_, 0, Nat.le_refl _, HC0.out, Keeps.refl _ _⟩
      go_wp2_with fail
      clear d0 i5
      go_loopw [6, 8, 31, 35, 36] (fun p8 x i ar q wr => ∃ k : Nat, k ≤ n ∧ i = .int .i64 (k : Int) ∧ Hid (∃ S nn, nn ≤ 2 * k ∧ CMap wr M B0 nn (wsK ps k) nm0 S ∧ Keeps (fun j => j = M ∨ B0 ≤ j) wk wr)) (fun p8 x i ar q _ => n - (intOf i).toNat)
      case atStart => exact ⟨0, Nat.zero_le _, rfl, HJ0⟩
      case round =>
        obtain ⟨k, hk, rfl, HJ⟩ := hrel
        obtain ⟨wq, rfl⟩ : ∃ wq, wq = wr := ⟨_, rfl⟩
        by_cases hkl : k < n
        · obtain ⟨S, nn, hnn, hcm, hkq⟩ := HJ.out
          obtain ⟨a, b, hab, a1, a2, b1, b2, hkp, hpe⟩ := HPK.out k hkl
          obtain ⟨bb, oo, rfl, hcc⟩ := HSK.out _ (hkq.mono (fun j _ e => .inr e)) (by omega)
          obtain ⟨c0, c1⟩ := hcc k hkl
          rw [hab] at c0 c1
          dsimp only at c0 c1
          have HWS := Lib.hid (fun u => wsK_succ (k := k) hkp hpe u)
          have hDq := HDic.out.keep hkq (by omega)
          have HDq := Lib.hid hDq
          have hbz := below_alloc_ wq (.cells #[.int .i64 (a : Int), .int .i64 (b : Int)] 57)
          have hzz := heap_alloc_new_ wq (.cells #[.int .i64 (a : Int), .int .i64 (b : Int)] 57)
          obtain ⟨V, hV⟩ : ∃ V, wq.alloc (.cells #[.int .i64 (a : Int), .int .i64 (b : Int)] 57) = V := ⟨_, rfl⟩
          rw [hV] at hbz hzz
          obtain ⟨P, hP⟩ : ∃ P, wq.heap.size = P := ⟨_, rfl⟩
          rw [hP] at hzz
          have p0 : V.cell? ⟨P, 0, none⟩ = some (.int .i64 (a : Int)) := by rw [cell_row hzz]; rfl
          have p1 : V.cell? ⟨P, 1, none⟩ = some (.int .i64 (b : Int)) := by rw [cell_row hzz]; rfl
          have hszq : B0 ≤ wq.heap.size := Nat.le_trans HSZ.out hkq.size
          have hcV := hcm.keep (Mut := fun _ => False) (Keeps.of_new hbz) (fun e => e) (fun _ _ _ e => e)
          have hszV : B0 ≤ V.heap.size := Nat.le_trans hszq hbz.size
          -- the first word, then the second one
          obtain ⟨W4, hup1, ⟨S4, hc4⟩, hk4⟩ := hcV.put a2 hszV hMB (by omega)
          have hszW : B0 ≤ W4.heap.size := Nat.le_trans hszV hk4.size
          obtain ⟨W5, hup2, ⟨S5, hc5⟩, hk5⟩ := hc4.put b2 hszW hMB (by omega)
          have hD4 := (hDq.below hbz (Nat.le_refl _))
          have hDW := hD4.keep hk4 (by omega)
          have m0 := (hD4.below (below_alloc_ V (.cells #[.int .i64 (a : Int)] 3)) (Nat.le_refl _)).map
          have mV := hD4.map
          have m1 := (hDW.below (below_alloc_ W4 (.cells #[.int .i64 (b : Int)] 3)) (Nat.le_refl _)).map
          have mW := hDW.map
          have HC5 := Lib.hid (hc5.congr (WS' := wsK ps (k + 1)) (fun u => (HWS.out u).symm))
          have HK5 := Lib.hid (show Keeps (fun j => j = M ∨ B0 ≤ j) wk W5 from ((hkq.trans (Keeps.of_new hbz)).trans hk4).trans hk5)
          have i0 : (0 : Int) ≤ (k : Int) := by omega
          have i1 : (k : Int) < (n : Int) := by omega
          have i2 : (k : Int) ≤ 40 := by omega
          clear hcc hab hkp hpe hDq hbz hzz hszq hcV hszV hc4 hszW hc5 hk5 hD4 hDW hcm hkq hk4 HJ
          go_wp2_with fail
          try rw [hV]
          try rw [hP]
          clear c0 c1
          have x0 : ∀ w : World, (Instr.index 57 (.agg #[.int .i64 (a : Int), .int .i64 (b : Int)]) (.int .i64 0)).run Try.prog w = .ok (.int .i64 (a : Int)) w := fun _ => by kernel_rfl
          have x1 : ∀ w : World, (Instr.index 57 (.agg #[.int .i64 (a : Int), .int .i64 (b : Int)]) (.int .i64 1)).run Try.prog w = .ok (.int .i64 (b : Int)) w := fun _ => by kernel_rfl
          go_loopw [8, 36] (fun x i wr => (i = .int .i64 0 ∧ wr = V) ∨ (i = .int .i64 1 ∧ wr = W4) ∨ (i = .int .i64 2 ∧ wr = W5)) (fun x i _ => 2 - (intOf i).toNat)
          case atStart => exact .inl ⟨rfl, rfl⟩
          case round =>
            rcases hrel with ⟨rfl, rfl⟩ | ⟨rfl, rfl⟩ | ⟨rfl, rfl⟩
            · go_wp2_with fail
              go_roundw
              case rel => exact .inr (.inl ⟨by go_num, by first | rfl | trivial⟩)
              case measure => simp [intOf]
            · go_wp2_with fail
              go_roundw
              case rel => exact .inr (.inr ⟨by go_num, by first | rfl | trivial⟩)
              case measure => simp [intOf]
            · go_wp2_with fail
              go_roundw
              case rel => exact ⟨k + 1, by omega, by go_num, Lib.hid ⟨S5, nn + 1 + 1, by omega, HC5.out, HK5.out⟩⟩
              case measure => simp [intOf]; omega
        · obtain rfl : k = n := by omega
          obtain ⟨S, nn, hnn, hcm, hkq⟩ := HJ.out
          have hDq := HDic.out.keep hkq (by omega)
          have HL0 : Hid (∃ S nn, nn ≤ 80 + 0 ∧ Dic wq D A k cap (cls (ps.take 0)) M ∧ CMap wq M B0 nn (wsK ps k) (cls (ps.take 0)) S ∧ Keeps (fun j => j = D ∨ j = M ∨ B0 ≤ j) wk wq) := Lib.hid ⟨S, nn, by omega, hDq, hcm, hkq.mono (fun j _ e => .inr e)⟩
          have d0 := hDq.likes
          clear hDq hcm hkq HJ
          go_wp2_with fail
          clear d0
          go_loopw [10, 54] (fun p9 i wr => ∃ t : Nat, t ≤ k ∧ i = .int .i64 (t : Int) ∧ Hid (∃ S nn, nn ≤ 80 + t ∧ Dic wr D A k cap (cls (ps.take t)) M ∧ CMap wr M B0 nn (wsK ps k) (cls (ps.take t)) S ∧ Keeps (fun j => j = D ∨ j = M ∨ B0 ≤ j) wk wr)) (fun p9 i _ => k - (intOf i).toNat)
          case atStart => exact ⟨0, Nat.zero_le _, rfl, HL0⟩
          case round =>
            obtain ⟨t, ht, rfl, HL⟩ := hrel
            obtain ⟨wt, rfl⟩ : ∃ wt, wt = wr := ⟨_, rfl⟩
            by_cases htl : t < k
            · obtain ⟨S, nn, hnn, hdt, hct, hkt⟩ := HL.out
              obtain ⟨a, b, hab, a1, a2, b1, b2, hkp, hpe⟩ := HPK.out t htl
              obtain ⟨bb, oo, rfl, hcc⟩ := HSK.out _ hkt (by omega)
              obtain ⟨c0, c1⟩ := hcc t htl
              rw [hab] at c0 c1
              dsimp only at c0 c1
              have hW := wsK_mem (n := k) (by rw [HPL.out]; omega) hkp hpe
              have hbz := below_alloc_ wt (.cells #[.int .i64 (a : Int), .int .i64 (b : Int)] 57)
              have hzz := heap_alloc_new_ wt (.cells #[.int .i64 (a : Int), .int .i64 (b : Int)] 57)
              obtain ⟨V, hV⟩ : ∃ V, wt.alloc (.cells #[.int .i64 (a : Int), .int .i64 (b : Int)] 57) = V := ⟨_, rfl⟩
              rw [hV] at hbz hzz
              obtain ⟨P, hP⟩ : ∃ P, wt.heap.size = P := ⟨_, rfl⟩
              rw [hP] at hzz
              have HPn := Lib.hid (show ¬ (P = D ∨ P = M ∨ ∃ c r, S c = some r ∧ r.g = P) from by
                have q1 : B0 ≤ wt.heap.size := Nat.le_trans HSZ.out hkt.size
                rintro (e | e | ⟨c, r, hcr, e⟩)
                · omega
                · omega
                · have := own_lt (hct.own c r hcr).1 r.g rfl
                  omega)
              have hcV := hct.keep (Mut := fun _ => False) (Keeps.of_new hbz) (fun e => e) (fun _ _ _ e => e)
              have hdV := hdt.below hbz (Nat.le_refl _)
              obtain ⟨ua, hua, HA1⟩ := hcV.nmW a hW.1
              obtain ⟨ub, hub, HB1⟩ := hcV.nmW b hW.2
              obtain ⟨nm, hnm⟩ : ∃ nm, cls (ps.take t) = nm := ⟨_, rfl⟩
              have HNX := Lib.hid (show cls (ps.take (t + 1)) = ren nm (iAt nm a) (iAt nm b) from by
                rw [List.take_succ_eq_append_getElem hkp, hpe, cls_snoc, hnm]; rfl)
              rw [hnm] at hdV hcV HA1 HB1
              obtain ⟨one, h1e⟩ : ∃ one, ua = one := ⟨_, rfl⟩
              obtain ⟨two, h2e⟩ : ∃ two, ub = two := ⟨_, rfl⟩
              rw [h1e] at HA1
              rw [h2e] at HB1
              replace HA1 := Lib.hid HA1
              replace HB1 := Lib.hid HB1
              rw [HA1.out, HB1.out] at HNX
              have HWA := Lib.hid hW.1
              have HWB := Lib.hid hW.2
              have HD4 := Lib.hid hdV
              have HC4 := Lib.hid hcV
              have HK4 := Lib.hid (hkt.trans (Keeps.of_new hbz))
              have PB := Lib.hid hzz
              have i0 : (0 : Int) ≤ (t : Int) := by omega
              have i1 : (t : Int) < (k : Int) := by omega
              have i2 : (t : Int) ≤ 40 := by omega
              clear hcc hab hkp hpe hW hbz hzz hcV hdV hua hub h1e h2e hdt hct hkt hnm HL
              go_wp2_with fail
              try rw [hV]
              try rw [hP]
              clear hV hP c0 c1
              refine wp_region_held_drew (S := fun w2 => w2.heap[P]? = some (.cells #[.int .i64 (a : Int), .int .i64 (b : Int)] 57 (0, 0))) (by kernel_rfl) PB.out (fun hS0 => ?_)
              refine wpAnyH_take (i := 0) (oi := { dst := some 58, op := Go.Op.move (Go.Operand.tmp 3), type := 67, pos := "book.go:24", after := #[], guard := none }) (v := .pointer (some ⟨D, 0, none⟩)) rfl (by kernel_rfl) (by kernel_rfl) (by kernel_rfl) (fun _ _ _ h => h) (Or.inl ⟨by rfl, by intro w2 hSw; (try dsimp only at hSw); have y0 : w2.cell? ⟨P, 0, none⟩ = some (.int .i64 (a : Int)) := (by rw [cell_row hSw]; rfl); have y1 : w2.cell? ⟨P, 1, none⟩ = some (.int .i64 (b : Int)) := (by rw [cell_row hSw]; rfl); go_simp⟩) hS0 ?_
              try simp only [Act.put, List.setIfInBounds_toArray, List.set_cons_zero, List.set_cons_succ]
              refine wpAnyH_take (i := 1) (oi := { dst := some 59, op := Go.Op.move (Go.Operand.tmp 3), type := 67, pos := "book.go:24", after := #[], guard := none }) (v := .pointer (some ⟨D, 0, none⟩)) rfl (by kernel_rfl) (by kernel_rfl) (by kernel_rfl) (fun _ _ _ h => h) (Or.inl ⟨by rfl, by intro w2 hSw; (try dsimp only at hSw); have y0 : w2.cell? ⟨P, 0, none⟩ = some (.int .i64 (a : Int)) := (by rw [cell_row hSw]; rfl); have y1 : w2.cell? ⟨P, 1, none⟩ = some (.int .i64 (b : Int)) := (by rw [cell_row hSw]; rfl); go_simp⟩) hS0 ?_
              try simp only [Act.put, List.setIfInBounds_toArray, List.set_cons_zero, List.set_cons_succ]
              refine wpAnyH_take (i := 2) (oi := { dst := some 60, op := Go.Op.indexAddr 57 (Go.Operand.tmp 10) (Go.Operand.const (Go.Value.int Go.IntKind.i64 0)), type := 0, pos := "book.go:24", after := #[], guard := none }) (v := .pointer (some ⟨P, 0, none⟩)) rfl (by kernel_rfl) (by kernel_rfl) (by kernel_rfl) (fun _ _ _ h => h) (Or.inl ⟨by rfl, by intro w2 hSw; (try dsimp only at hSw); have y0 : w2.cell? ⟨P, 0, none⟩ = some (.int .i64 (a : Int)) := (by rw [cell_row hSw]; rfl); have y1 : w2.cell? ⟨P, 1, none⟩ = some (.int .i64 (b : Int)) := (by rw [cell_row hSw]; rfl); go_simp⟩) hS0 ?_
              try simp only [Act.put, List.setIfInBounds_toArray, List.set_cons_zero, List.set_cons_succ]
              refine wpAnyH_take (i := 3) (oi := { dst := some 61, op := Go.Op.load 3 (Go.Operand.tmp 60), type := 3, pos := "book.go:24", after := #[{ on := 2, ground := Go.Ground.data }], guard := none }) (v := .int .i64 (a : Int)) rfl (by kernel_rfl) (by kernel_rfl) (by kernel_rfl) (fun _ _ _ h => h) (Or.inl ⟨by rfl, by intro w2 hSw; (try dsimp only at hSw); have y0 : w2.cell? ⟨P, 0, none⟩ = some (.int .i64 (a : Int)) := (by rw [cell_row hSw]; rfl); have y1 : w2.cell? ⟨P, 1, none⟩ = some (.int .i64 (b : Int)) := (by rw [cell_row hSw]; rfl); go_simp⟩) hS0 ?_
              try simp only [Act.put, List.setIfInBounds_toArray, List.set_cons_zero, List.set_cons_succ]
              refine wpAnyH_take (i := 5) (oi := { dst := some 63, op := Go.Op.move (Go.Operand.tmp 3), type := 67, pos := "book.go:24", after := #[], guard := none }) (v := .pointer (some ⟨D, 0, none⟩)) rfl (by kernel_rfl) (by kernel_rfl) (by kernel_rfl) (fun _ _ _ h => h) (Or.inl ⟨by rfl, by intro w2 hSw; (try dsimp only at hSw); have y0 : w2.cell? ⟨P, 0, none⟩ = some (.int .i64 (a : Int)) := (by rw [cell_row hSw]; rfl); have y1 : w2.cell? ⟨P, 1, none⟩ = some (.int .i64 (b : Int)) := (by rw [cell_row hSw]; rfl); go_simp⟩) hS0 ?_
              try simp only [Act.put, List.setIfInBounds_toArray, List.set_cons_zero, List.set_cons_succ]
              refine wpAnyH_take (i := 6) (oi := { dst := some 64, op := Go.Op.indexAddr 57 (Go.Operand.tmp 10) (Go.Operand.const (Go.Value.int Go.IntKind.i64 1)), type := 0, pos := "book.go:24", after := #[], guard := none }) (v := .pointer (some ⟨P, 1, none⟩)) rfl (by kernel_rfl) (by kernel_rfl) (by kernel_rfl) (fun _ _ _ h => h) (Or.inl ⟨by rfl, by intro w2 hSw; (try dsimp only at hSw); have y0 : w2.cell? ⟨P, 0, none⟩ = some (.int .i64 (a : Int)) := (by rw [cell_row hSw]; rfl); have y1 : w2.cell? ⟨P, 1, none⟩ = some (.int .i64 (b : Int)) := (by rw [cell_row hSw]; rfl); go_simp⟩) hS0 ?_
              try simp only [Act.put, List.setIfInBounds_toArray, List.set_cons_zero, List.set_cons_succ]
              refine wpAnyH_take (i := 7) (oi := { dst := some 65, op := Go.Op.load 3 (Go.Operand.tmp 64), type := 3, pos := "book.go:24", after := #[{ on := 6, ground := Go.Ground.data }], guard := none }) (v := .int .i64 (b : Int)) rfl (by kernel_rfl) (by kernel_rfl) (by kernel_rfl) (fun _ _ _ h => h) (Or.inl ⟨by rfl, by intro w2 hSw; (try dsimp only at hSw); have y0 : w2.cell? ⟨P, 0, none⟩ = some (.int .i64 (a : Int)) := (by rw [cell_row hSw]; rfl); have y1 : w2.cell? ⟨P, 1, none⟩ = some (.int .i64 (b : Int)) := (by rw [cell_row hSw]; rfl); go_simp⟩) hS0 ?_
              try simp only [Act.put, List.setIfInBounds_toArray, List.set_cons_zero, List.set_cons_succ]
              refine wpAnyH_ready (rs := [4]) (by kernel_rfl) (by simp) ?_
              refine AllReadyH.cons (o := { dst := some 62, op := Go.Op.call { callee := Go.Callee.value (Go.Operand.func 71), args := #[Go.Operand.tmp 59, Go.Operand.tmp 61], argTypes := #[67, 3] }, type := 3, pos := "book.go:24", after := #[{ on := 1, ground := Go.Ground.data }, { on := 3, ground := Go.Ground.data }], guard := none }) rfl (fun K2 hK => ?_) AllReadyH.nil
              go_simp
              refine (class71 D (some ⟨bb, oo, none⟩) k cap nm M a _ (HD4.out.below (drew_b V 1) (Nat.le_refl _)) (by omega)).mono ?_
              rintro e9 V1 ⟨rfl, hV1⟩
              obtain rfl := hV1
              try go_simp
              refine hK.out _ _ hS0 (fun hS1 => ?_)
              clear hK K2
              try simp only [Act.put, List.setIfInBounds_toArray, List.set_cons_zero, List.set_cons_succ]
              refine wpAnyH_ready (rs := [8]) (by kernel_rfl) (by simp) ?_
              refine AllReadyH.cons (o := { dst := some 66, op := Go.Op.call { callee := Go.Callee.value (Go.Operand.func 71), args := #[Go.Operand.tmp 63, Go.Operand.tmp 65], argTypes := #[67, 3] }, type := 3, pos := "book.go:24", after := #[{ on := 5, ground := Go.Ground.data }, { on := 7, ground := Go.Ground.data }, { on := 4, ground := Go.Ground.chain }], guard := none }) rfl (fun K2 hK => ?_) AllReadyH.nil
              go_simp
              refine (class71 D (some ⟨bb, oo, none⟩) k cap nm M b _ (HD4.out.below (drew_b V 1) (Nat.le_refl _)) (by omega)).mono ?_
              rintro e9 V2 ⟨rfl, hV2⟩
              obtain rfl := hV2
              try go_simp
              refine hK.out _ _ hS1 (fun hS2 => ?_)
              clear hK K2
              try simp only [Act.put, List.setIfInBounds_toArray, List.set_cons_zero, List.set_cons_succ]
              rw [HA1.out, HB1.out]
              refine wpAnyH_ready (rs := [9]) (by kernel_rfl) (by simp) ?_
              refine AllReadyH.cons (o := { dst := some 67, op := Go.Op.call { callee := Go.Callee.value (Go.Operand.func 70), args := #[Go.Operand.tmp 58, Go.Operand.tmp 62, Go.Operand.tmp 66], argTypes := #[67, 3, 3] }, type := 0, pos := "book.go:24", after := #[{ on := 0, ground := Go.Ground.data }, { on := 4, ground := Go.Ground.data }, { on := 8, ground := Go.Ground.data }, { on := 8, ground := Go.Ground.chain }], guard := none }) rfl (fun K2 hK => ?_) AllReadyH.nil
              go_simp
              refine (join70 D (some ⟨bb, oo, none⟩) k cap nm M B0 nn (wsK ps k) S a b one two _ (HD4.out.below (drew_b V 1) (Nat.le_refl _)) (HC4.out.keep (Mut := fun _ => False) (Keeps.of_new (drew_b V 1)) (fun e => e) (fun _ _ _ e => e)) (by omega) hDB hMB hDM HWA.out HWB.out HA1.out HB1.out).mono ?_
              rintro e9 V3 ⟨rfl, S3, hd3, hc3, hk3⟩
              have hP3 : V3.heap[P]? = some (.cells #[.int .i64 (a : Int), .int .i64 (b : Int)] 57 (0, 0)) := (hk3.block _ (lt_of_block hS2) HPn.out).trans hS2
              have HD5 := Lib.hid hd3
              have HC5 := Lib.hid hc3
              have HK5 := Lib.hid (HK4.out.trans ((Keeps.of_new (drew_b V 1)).trans (hk3.mono (fun j _ e => e.elim .inl (fun e => .inr (e.elim .inl (fun ⟨c, r, hcr, e⟩ => .inr (by rw [← e]; exact (HC4.out.own c r hcr).2))))))))
              clear hd3 hc3 hk3
              try go_simp
              refine hK.out _ _ hP3 (fun hS3 => ?_)
              clear hK K2
              try simp only [Act.put, List.setIfInBounds_toArray, List.set_cons_zero, List.set_cons_succ]
              refine wpAnyH_done (by kernel_rfl) ?_ _
              clear hS0 hS1 hS2 hS3 hP3
              have HFX : Hid (∃ S nn, nn ≤ 80 + (t + 1) ∧ Dic V3 D (some ⟨bb, oo, none⟩) k cap (cls (ps.take (t + 1))) M ∧ CMap V3 M B0 nn (wsK ps k) (cls (ps.take (t + 1))) S ∧ Keeps (fun j => j = D ∨ j = M ∨ B0 ≤ j) wk V3) := Lib.hid ⟨S3, nn + 1, by omega, by rw [HNX.out]; exact HD5.out, by rw [HNX.out]; exact HC5.out, HK5.out⟩
              go_wp2_with fail
              go_roundw
              case rel => exact ⟨t + 1, by omega, by go_num, HFX⟩
              case measure => simp [intOf]; omega
            · obtain rfl : t = k := by omega
              obtain ⟨S, nn, hnn, hdt, hct, hkt⟩ := HL.out
              have hB9 : Below w.heap.size w wt := B0'.out.trans (((Keeps.mono HKK.out (Mut' := fun j => j = D ∨ j = M ∨ B0 ≤ j) (fun j _ e => .inl e)).trans hkt).below B0'.out.size (fun j hj e => by have := HRB.out; have := HR.out; omega))
              have HB9 := Lib.hid hB9
              have HDF := Lib.hid (show Dic wt D A t cap (cls (prs zs)) M from by rw [Hps.out, ← List.take_of_length_le (l := ps) (i := t) (by rw [HPL.out]; omega)]; exact hdt)
              have HDL := Lib.hid (show w.heap.size ≤ D from by have := HRB.out; have := HR.out; omega)
              clear hdt hct hkt hB9 HL
              go_wp2_with fail
              go_ret
              exact ⟨D, M, by first | rfl | trivial, HDF.out, HDL.out, HB9.out⟩
end Go.Proofs.Ythdjbapidodlfaa
