/- Stage 6: what groups, chains and flows of a list say: mathematics. -/
import Derived.Test.YtigohccehllmnaaRf
import Derived.Test.YtigohccehllmnaaLd
import Derived.Test.YtigohccehllmnaaSc
import Derived.Test.YtigohccehllmnaaPv
import Derived.Test.YtigohccehllmnaaTh
import Derived.Test.YtigohccehllmnaaDn
namespace Go.Proofs.Ytigohccehllmnaa
set_option linter.unusedSimpArgs false
set_option linter.unusedVariables false
open Go.RowKit Go.Shelf

/-- A row of numbers, with room behind it. -/
def RwI (W : World) (g c : Nat) (G : Int → Int) : Prop := ∃ rest : List Value, W.heap[g]? = some (.cells (flatI (flL (fun j => G (j : Int)) c) ++ rest).toArray 3 (0, 0))
theorem RwI.cell {W : World} {g c : Nat} {G : Int → Int} (h : RwI W g c G) {j : Nat} (hj : j < c) : W.cell? ⟨g, j, none⟩ = some (.int .i64 (G (j : Int))) := by
  obtain ⟨rest, h⟩ := h
  rw [cell_row h, List.getElem?_toArray, List.getElem?_append_left (by rw [flatI_len, flL_len]; exact hj)]
  simp [flatI, flL, hj]
theorem RwI.fz {W : World} {g c : Nat} {G : Int → Int} (h : RwI W g c G) (j : Nat) : W.frozen? ⟨g, j, none⟩ = false := by
  obtain ⟨rest, h⟩ := h
  exact frozen_row (k := j) h
theorem RwI.set {W : World} {g c : Nat} {G : Int → Int} (h : RwI W g c G) {j : Nat} (hj : j < c) (v : Int) : RwI (W.setCell ⟨g, j, none⟩ (.int .i64 v)) g c (fun x => if x = (j : Int) then v else G x) := by
  obtain ⟨rest, h⟩ := h
  refine ⟨rest, ?_⟩
  have := set_same j (.int .i64 v) h
  rw [this]
  congr 3
  rw [List.setIfInBounds_toArray, List.set_append_left _ _ (by rw [flatI_len, flL_len]; exact hj)]
  congr 2
  apply List.ext_getElem?
  intro i
  by_cases hi : i < c
  · by_cases e : j = i
    · subst e; simp [flatI, flL, hi]
    · have e2 : ¬ (i : Int) = (j : Int) := by omega
      simp [flatI, flL, List.getElem?_set, e, hi, e2]
  · rw [List.getElem?_eq_none (by simp [flatI, flL]; omega), List.getElem?_eq_none (by simp [flatI, flL]; omega)]
theorem RwI.keep {W W' : World} {g c : Nat} {G : Int → Int} {Mut : Nat → Prop} (h : RwI W g c G) (hK : Keeps Mut W W') (hm : ¬ Mut g) : RwI W' g c G := by
  obtain ⟨rest, h⟩ := h
  exact ⟨rest, (hK.block g (lt_of_block h) hm).trans h⟩
theorem RwI.lt {W : World} {g c : Nat} {G : Int → Int} (h : RwI W g c G) : g < W.heap.size := by
  obtain ⟨rest, h⟩ := h
  exact lt_of_block h
theorem RwI.below {W W' : World} {g c Bs : Nat} {G : Int → Int} (h : RwI W g c G) (hb : Below Bs W W') (hB : W.heap.size ≤ Bs) : RwI W' g c G := by
  have hl := h.lt
  obtain ⟨rest, h⟩ := h
  exact ⟨rest, (hb.block g (by omega)).trans h⟩
section
attribute [local go_sem ↓] exec_app at_app
attribute [local go_sem] Oper.semAt_some
end
end Go.Proofs.Ytigohccehllmnaa

namespace Go.Proofs.Ytigohccehllmnaa
set_option linter.unusedSimpArgs false
set_option linter.unusedVariables false
open Go.RowKit Go.Shelf

/-- A list of lists that grows. -/
structure GrR (w3 wr : World) (v : Value) (gs : List (List Int)) : Prop where
  own : ∃ cs, wr.ownsRow 0 23 1 v gs.length cs ∧ cs.length = gs.length ∧ ∀ j, j < gs.length → ∃ C m c, cs[j]? = some (.slice C m c) ∧ Ints wr C m (gs.getD j []) ∧ m ≤ c ∧ m ≤ 1000000 ∧ (0 < m → ∀ a, C = some a → v.ownBlock ≠ some a.block)
  new : ∀ g, v.ownBlock = some g → w3.heap.size ≤ g
theorem GrR.nil (w3 wr : World) : GrR w3 wr (.slice none 0 0) [] := ⟨⟨[], own_nil _ _ _, rfl, fun j hj => by simp at hj⟩, fun g e => (by cases e)⟩
theorem ints_lt {W : World} {C : Option Addr} {m : Nat} {l : List Int} (h : Ints W C m l) (hm : 0 < m) {a : Addr} (e : C = some a) : a.block < W.heap.size := by
  obtain ⟨b, o, e2, hc⟩ := h.2 hm
  rw [e] at e2
  cases e2
  exact lt_of_cell (hc 0 hm)
theorem GrR.below {w3 wr w4 : World} {Bs : Nat} {v : Value} {gs : List (List Int)} (h : GrR w3 wr v gs) (hb : Below Bs wr w4) (hB : wr.heap.size ≤ Bs) : GrR w3 w4 v gs := by
  obtain ⟨cs, h1, h2, h3⟩ := h.own
  refine ⟨⟨cs, own_keep h1 (Keeps.of_below (hb.mono hB) (Nat.le_refl _)) (fun k e hk => by have := own_lt h1 k e; omega), h2, fun j hj => ?_⟩, h.new⟩
  obtain ⟨C, m, c, a, b, d, e, f⟩ := h3 j hj
  exact ⟨C, m, c, a, b.below hb hB, d, e, f⟩
theorem GrR.app {w3 wr : World} {v : Value} {gs : List (List Int)} (h : GrR w3 wr v gs) {Q : Option Addr} {m cp : Nat} {l : List Int} (hI : Ints wr Q m l) (hcp : m ≤ cp) (hm : m ≤ 1000000) (hq : 0 < m → ∀ a, Q = some a → v.ownBlock ≠ some a.block) (h3 : w3.heap.size ≤ wr.heap.size) (hn : gs.length ≤ 100000) :
    ∃ C c W', runA Try.prog 28 v (.slice (some ⟨wr.heap.size, 0, none⟩) 1 1) (wr.alloc (.cells #[.slice Q m cp] 23)) = .ok (.value (.slice C (gs.length + 1) c)) W' ∧ GrR w3 W' (.slice C (gs.length + 1) c) (gs ++ [l]) ∧ Keeps (fun k => v.ownBlock = some k) wr W' := by
  obtain ⟨cs, o1, o2, o3⟩ := h.own
  have hk := keep_alloc (fun _ => False) wr (.cells #[.slice Q m cp] 23)
  obtain ⟨v', W', a1, a2, a3, a4⟩ := app_one (n := gs.length) Try.underlying28 info23_ rfl (by omega) (by omega) (own_keep o1 hk (fun _ _ e => e)) (vals := [.slice Q m cp]) rfl (heap_alloc_new_ wr (.cells #[.slice Q m cp] 23)) (by simp [Value.oneCell']) (by omega)
  obtain ⟨C, c, rfl⟩ : ∃ C c, v' = .slice C (gs.length + 1) c := by
    rcases a2.2 with ⟨e, e2⟩ | ⟨g, cp, cur, e, _⟩
    · omega
    · exact ⟨_, _, e⟩
  have hkk : Keeps (fun k => v.ownBlock = some k) wr W' := hk.none.trans a3
  have hs := hk.size
  have hnew : ∀ g, (Value.slice C (gs.length + 1) c).ownBlock = some g → v.ownBlock = some g ∨ wr.heap.size ≤ g := fun g e => by
    rcases a4 with e' | ⟨e', _⟩
    · rw [e'] at e; exact .inl e
    · rw [e'] at e; have := Option.some.inj e; exact .inr (by omega)
  have hne : ∀ {Q : Option Addr} {m : Nat} {l : List Int}, Ints wr Q m l → (0 < m → ∀ a, Q = some a → v.ownBlock ≠ some a.block) → 0 < m → ∀ a, Q = some a → (Value.slice C (gs.length + 1) c).ownBlock ≠ some a.block := fun hI hq hm a ea e => by
    rcases hnew _ e with e2 | e2
    · exact (hq hm a ea) e2
    · have := ints_lt hI hm ea; omega
  refine ⟨C, c, W', run_app a1, ⟨⟨cs ++ [.slice Q m cp], by rw [List.length_append]; exact a2, by simp [o2], fun j hj => ?_⟩, fun g e => ?_⟩, hkk⟩
  · rw [List.length_append] at hj
    simp only [List.length_cons, List.length_nil] at hj
    by_cases hj2 : j < gs.length
    · obtain ⟨Q2, m2, c2, b1, b2, b3, b4, b5⟩ := o3 j hj2
      refine ⟨Q2, m2, c2, by rw [List.getElem?_append_left (by omega)]; exact b1, ?_, b3, b4, hne b2 b5⟩
      rw [show (gs ++ [l]).getD j [] = gs.getD j [] by simp [List.getD, List.getElem?_append_left hj2]]
      exact b2.keepN hkk (fun hm2 a ea => b5 hm2 a ea)
    · obtain rfl : j = gs.length := by omega
      refine ⟨Q, m, cp, by rw [← o2]; simp, ?_, hcp, hm, hne hI hq⟩
      rw [show (gs ++ [l]).getD gs.length [] = l by simp [List.getD]]
      exact hI.keepN hkk (fun hm2 a ea => hq hm2 a ea)
  · rcases hnew g e with e2 | e2
    · exact h.new g e2
    · omega
theorem GrR.rows {w3 wr : World} {v : Value} {gs : List (List Int)} (h : GrR w3 wr v gs) : ∃ C cap, v = .slice C gs.length cap ∧ gs.length ≤ cap ∧ Rows wr C gs.length gs := by
  obtain ⟨cs, o1, o2, o3⟩ := h.own
  rcases o1.2 with ⟨rfl, h0⟩ | ⟨g, cap, cur, rfl, hb, hg, hc, _, hsz, htake⟩
  · have : gs.length = 0 := h0
    rw [this]
    exact ⟨none, 0, rfl, Nat.le_refl _, ⟨this, by omega⟩⟩
  · refine ⟨_, cap, rfl, hc, ⟨rfl, fun _ => ⟨g, 0, rfl, fun j hj => ?_⟩⟩⟩
    obtain ⟨Q, m, c, b1, b2, b3, b4, b5⟩ := o3 j hj
    refine ⟨Q, m, c, ?_, b2, b3, b4⟩
    have h1 : (cur.toList.take (gs.length * 1))[j]? = some (.slice Q m c) := by rw [htake]; exact b1
    rw [cell_row hg, Nat.zero_add]
    rw [List.getElem?_take_of_lt (by omega)] at h1
    simpa using h1
section
attribute [local go_sem ↓] exec_app at_app
attribute [local go_sem] Oper.semAt_some
end
end Go.Proofs.Ytigohccehllmnaa

namespace Go.Proofs.Ytigohccehllmnaa
set_option linter.unusedSimpArgs false
set_option linter.unusedVariables false
open Go.RowKit Go.Shelf
/-- Some name of the one list has the label of one of the other list. -/
def jnB (lab : Int → Int) (L R : List Int) : Bool := L.any fun a => R.any fun b => decide (lab a = lab b)
section
attribute [local go_sem ↓] exec_app at_app
attribute [local go_sem] Oper.semAt_some
end
end Go.Proofs.Ytigohccehllmnaa

namespace Go.Proofs.Ytigohccehllmnaa
set_option linter.unusedSimpArgs false
set_option linter.unusedVariables false
open Go.RowKit Go.Shelf

theorem own_one {W : World} {g : Nat} {x : Int} (h : W.heap[g]? = some (.cells #[.int .i64 x] 3 (0, 0))) : W.ownsRow 0 3 1 (.slice (some ⟨g, 0, none⟩) 1 1) 1 (flatI [x]) := ⟨by simp [flatI], .inr ⟨g, 1, #[.int .i64 x], rfl, by omega, h, Nat.le_refl _, by unfold maxLen; omega, by simp, by simp [flatI]⟩⟩
theorem ow_nil (zs : List Nl) (a en : Int) (ws : List Wy) (h : IsPath a ws en) (h0 : 0 < ws.length) : (wAt ws 0).fr = a := by
  cases ws with
  | nil => simp at h0
  | cons w ws => exact h.1
/-- The names of a chain. -/
def chnL (a : Int) (ws : List Wy) (k : Nat) : List Int := a :: (ws.take k).map (·.to)
theorem chnL_succ (a : Int) {ws : List Wy} {k : Nat} (hk : k < ws.length) : chnL a ws (k + 1) = chnL a ws k ++ [(wAt ws k).to] := by
  unfold chnL
  rw [List.take_succ_eq_append_getElem hk, wAt_eq hk, List.map_append]
  rfl
theorem chnL_len (a : Int) {ws : List Wy} {k : Nat} (hk : k ≤ ws.length) : (chnL a ws k).length = k + 1 := by
  simp [chnL]; omega
section
attribute [local go_sem ↓] exec_app at_app
attribute [local go_sem] Oper.semAt_some
set_option maxRecDepth 100000 in
set_option maxHeartbeats 16000000 in
theorem chain20 (l : NL) (DA : Option Addr) (dn dc : Nat) (ds : List Int) (w : World) (h : NLs w l) (hD : Ints w DA dn ds) (hdc : dn ≤ dc) (hd6 : dn ≤ 1000000) :
    Calls Try.prog 20 #[.agg #[.int .i64 l.N, .slice l.A l.n l.cap, .slice l.LA l.ln l.lc, .slice l.RA l.rn l.rc], .slice DA dn dc] w fun e w' => (layE l ds ≠ 0 ∧ e = .returned (.tuple #[.slice none 0 0, .int .i64 (layE l ds)]) ∨
      layE l ds = 0 ∧ ((∃ C cap ws a en, e = .returned (.tuple #[.slice C (ws.length + 1) cap, .int .i64 0]) ∧ ws.length + 1 ≤ cap ∧ Ints w' C (ws.length + 1) (chnL a ws ws.length) ∧ a ∈ l.ls ∧ en ∈ l.rs ∧ IsPath a ws en ∧ (∀ x ∈ ws, isWay (dropF l.zs ds) x ∧ opF (dropF l.zs ds) (fun _ => 0) x = true) ∧ (ws.map (·.to)).Nodup ∧ a ∉ ws.map (·.to) ∧ 0 < ws.length ∧ ws.length ≤ 40) ∨
        (e = .returned (.tuple #[.slice none 0 0, .int .i64 5]) ∧ ∃ S, ClosedS (dropF l.zs ds) (opF (dropF l.zs ds) (fun _ => 0)) S ∧ IsSd l.ls l.rs S))) ∧ Below w.heap.size w w' := by
  obtain ⟨R, hR⟩ : ∃ v, w.heap.size = v := ⟨_, rfl⟩
  have hb0 := below_alloc_ w (.cells #[.int .i64 l.N, .slice l.A l.n l.cap, .slice l.LA l.ln l.lc, .slice l.RA l.rn l.rc] 25)
  have hr0 := heap_alloc_new_ w (.cells #[.int .i64 l.N, .slice l.A l.n l.cap, .slice l.LA l.ln l.lc, .slice l.RA l.rn l.rc] 25)
  have hz0 : (w.alloc (.cells #[.int .i64 l.N, .slice l.A l.n l.cap, .slice l.LA l.ln l.lc, .slice l.RA l.rn l.rc] 25)).heap.size = w.heap.size + 1 := by simp
  obtain ⟨w0, hw0⟩ : ∃ v, w.alloc (.cells #[.int .i64 l.N, .slice l.A l.n l.cap, .slice l.LA l.ln l.lc, .slice l.RA l.rn l.rc] 25) = v := ⟨_, rfl⟩
  rw [hw0] at hb0 hr0 hz0
  rw [hR] at hr0 hz0
  have hB := hb0
  have S := Lib.hid (h.below hB (Nat.le_refl _))
  have SD := Lib.hid (hD.below hB (Nat.le_refl _))
  have X := Lib.hid hr0
  have HW0 := Lib.hid hw0
  have B := Lib.hid hB
  have HR := Lib.hid hR
  clear hB hR hb0 hr0 hz0 hw0 h hD
  have Hdc := Lib.hid hdc
  have Hd6 := Lib.hid hd6
  clear hdc hd6
  have ltX : R < w0.heap.size := lt_of_block X.out
  have zX0 : w0.cell? ⟨R, 0, none⟩ = some (.int .i64 l.N) := by rw [cell_row X.out]; rfl
  have zX1 : w0.cell? ⟨R, 1, none⟩ = some (.slice l.A l.n l.cap) := by rw [cell_row X.out]; rfl
  have zX2 : w0.cell? ⟨R, 2, none⟩ = some (.slice l.LA l.ln l.lc) := by rw [cell_row X.out]; rfl
  have zX3 : w0.cell? ⟨R, 3, none⟩ = some (.slice l.RA l.rn l.rc) := by rw [cell_row X.out]; rfl
  go_enter Try.func20, Try.ntmps20
  go_wp2_with fail
  try rw [HW0.out]
  try rw [HR.out]
  try simp only [Nat.add_assoc, Nat.reduceAdd]
  try go_wp2_with fail
  clear zX0 zX1 zX2 zX3 ltX
  refine (lay41E l DA dn dc ds w0 S.out SD.out Hdc.out Hd6.out).mono ?_
  rintro en w1 ⟨hh, hb⟩
  rcases hh with ⟨h0, rfl⟩ | ⟨h0, B1, F, Z, rfl, hbd, hok, hF⟩
  · obtain ⟨c, hc⟩ : ∃ v, layE l ds = v := ⟨_, rfl⟩
    rw [hc] at h0 ⊢
    have d0 : (c != 0) = true := by rw [bne_iff_ne]; exact h0
    have H0 := Lib.hid h0
    have HC := Lib.hid hc
    replace B := Lib.hid (B.out.trans (hb.mono B.out.size))
    clear h0 hc hb
    go_wp2_with fail
    go_ret2
    exact ⟨.inl ⟨by rw [HC.out]; exact H0.out, by rw [HC.out]; rfl⟩, B.out⟩
  · obtain ⟨b, hbe⟩ : ∃ b : BD, (⟨B1, F, Z, l, dropF l.zs ds⟩ : BD) = b := ⟨_, rfl⟩
    have e1 : b.l = l := by rw [← hbe]
    have e2 : b.zs = dropF l.zs ds := by rw [← hbe]
    have e3 : b.B = B1 := by rw [← hbe]
    rw [hbe] at hbd hok
    have D := Lib.hid hbd
    have Hok := Lib.hid hok
    have H0 := Lib.hid h0
    have E1 := Lib.hid e1
    have E2 := Lib.hid e2
    have Hbe := Lib.hid hbe
    replace S := Lib.hid (S.out.below hb (Nat.le_refl _))
    replace SD := Lib.hid (SD.out.below hb (Nat.le_refl _))
    replace X := Lib.hid ((hb.block _ (lt_of_block X.out)).trans X.out)
    replace B := Lib.hid (B.out.trans (hb.mono B.out.size))
    rw [← e3]
    clear hbd hok h0 hb hF e1 e2 e3 hbe
    have k50 := Lib.hid (through50 b (fun _ => 0) w1 D.out Hok.out (small_zero b))
    go_wp2_with fail
    refine k50.out.mono ?_
    rintro en w2 ⟨hh, hb⟩
    replace B := Lib.hid (B.out.trans (hb.mono B.out.size))
    clear hb k50
    rcases hh with ⟨g, cp, ws, a, en, rfl, hrow, hcp, hg, ha, hen, hp, hw, hnd, hna, hpos, hle⟩ | ⟨rfl, S9, hS1, hS2⟩
    rotate_left
    · rw [E2.out] at hS1
      rw [E1.out] at hS2
      have HS := Lib.hid (And.intro hS1 hS2)
      clear hS1 hS2
      go_wp2_with fail
      go_ret2
      exact ⟨.inr ⟨H0.out, .inr ⟨rfl, S9, HS.out.1, HS.out.2⟩⟩, B.out⟩
    rw [E1.out] at ha hen
    rw [E2.out] at hw
    obtain ⟨c0, c1, c2⟩ := hrow.cell hpos
    rw [ow_nil b.zs a en ws hp hpos] at c1
    rw [Nat.zero_mul, Nat.zero_add] at c1
    obtain ⟨m, hm⟩ : ∃ m, ws.length = m := ⟨_, rfl⟩
    have HF := Lib.hid (And.intro ha (And.intro hen (And.intro hp (And.intro hw (And.intro hnd (And.intro hna (And.intro hpos hle)))))))
    have Hrow := Lib.hid hrow
    have Hm := Lib.hid hm
    rw [hm] at hcp hpos hle ⊢
    have j0 : (0 : Int) < (m : Int) := by omega
    have ne0 : ¬ (m = 0) := by omega
    have hb3 := below_alloc_ w2 (.cells #[.int .i64 a] 3)
    have hr3 := heap_alloc_new_ w2 (.cells #[.int .i64 a] 3)
    obtain ⟨w3, hw3⟩ : ∃ v, w2.alloc (.cells #[.int .i64 a] 3) = v := ⟨_, rfl⟩
    obtain ⟨Q, hQ⟩ : ∃ v, w2.heap.size = v := ⟨_, rfl⟩
    rw [hw3] at hb3 hr3
    rw [hQ] at hr3
    have HG0 := Lib.hid (show GrI w2 w3 (.slice (some ⟨Q, 0, none⟩) 1 1) 1 (chnL a ws 0) from ⟨by rw [show chnL a ws 0 = [a] by simp [chnL]]; exact own_one hr3, fun g e => (by have e2 : Q = g := Option.some.inj e; omega), hb3⟩)
    have Hw3 := Lib.hid hw3
    have HQ := Lib.hid hQ
    clear ha hen hp hw hnd hna hm hb3 hr3 hw3 hQ c0 c2 hrow hg
    go_wp2_with fail
    rw [Hw3.out]
    rw [HQ.out]
    clear c1
    go_loopw [10, 36] (fun v i wr => ∃ k : Nat, k ≤ m ∧ i = .int .i64 (k : Int) ∧ Hid (∃ v0 : Value, v = v0 ∧ GrI w2 wr v0 (k + 1) (chnL a ws k))) (fun v i _ => m - (intOf i).toNat)
    case atStart => exact ⟨0, Nat.zero_le _, rfl, Lib.hid ⟨_, rfl, HG0.out⟩⟩
    case round =>
      obtain ⟨k, hk9, rfl, HX⟩ := hrel
      obtain ⟨wk, rfl⟩ : ∃ wk, wk = wr := ⟨_, rfl⟩
      obtain ⟨v0, hv, hG⟩ := HX.out
      obtain rfl : v0 = _ := hv.symm
      clear HX
      by_cases hlt : k < m
      · have hki : k < ws.length := by rw [Hm.out]; exact hlt
        have hrw := Hrow.out.keep (Keeps.of_new (Mut := fun _ => False) hG.2.2) (fun e => e)
        obtain ⟨c0, c1, c2⟩ := hrw.cell hki
        have hb4 := below_alloc_ wk (.cells #[.int .i64 ((wAt ws k).link : Int), .int .i64 (wAt ws k).fr, .int .i64 (wAt ws k).to] 79)
        have hr4 := heap_alloc_new_ wk (.cells #[.int .i64 ((wAt ws k).link : Int), .int .i64 (wAt ws k).fr, .int .i64 (wAt ws k).to] 79)
        obtain ⟨w4, hw4⟩ : ∃ v, wk.alloc (.cells #[.int .i64 ((wAt ws k).link : Int), .int .i64 (wAt ws k).fr, .int .i64 (wAt ws k).to] 79) = v := ⟨_, rfl⟩
        obtain ⟨P, hP⟩ : ∃ v, wk.heap.size = v := ⟨_, rfl⟩
        rw [hw4] at hb4 hr4
        rw [hP] at hr4
        obtain ⟨C, cc, W', hrun, hG2⟩ := (hG.keep hb4).app ((wAt ws k).to) (by omega)
        have HG2 := Lib.hid (show GrI w2 W' (.slice C (k + 1 + 1) cc) (k + 1 + 1) (chnL a ws (k + 1)) from by rw [chnL_succ a hki]; exact hG2)
        have HP4 := Lib.hid hr4
        have Hw4 := Lib.hid hw4
        have HP := Lib.hid hP
        have i0 : (0 : Int) ≤ (k : Int) := by omega
        have i1 : (k : Int) < (m : Int) := by omega
        have i2 : (m : Int) ≤ 40 := by omega
        clear hrw hki hb4 hr4 hw4 hP hG2 hG hv
        go_upto_region 11 with fail
        rw [Hw4.out]
        rw [HP.out]
        clear c0 c1 c2
        have q2 : w4.cell? ⟨P, 2, none⟩ = some (.int .i64 (wAt ws k).to) := by rw [cell_row HP4.out]; rfl
        go_wp2_with fail
        go_roundw
        case rel => exact ⟨k + 1, by omega, by go_num, Lib.hid ⟨_, rfl, HG2.out⟩⟩
        case measure => simp [intOf]; omega
      · obtain rfl : k = m := by omega
        have hmk := Hm.out
        obtain ⟨C, cap, rfl, hcap, hI, -⟩ := ints_own (chnL_len a (by omega)) hG.1
        have HI := Lib.hid hI
        have HB := Lib.hid (B.out.trans (hG.2.2.mono B.out.size))
        clear hI hG hmk
        go_wp2_with fail
        go_ret2
        exact ⟨.inr ⟨H0.out, .inl ⟨C, cap, ws, a, en, by rw [Hm.out] <;> rfl, by rw [Hm.out]; exact hcap, by have := HI.out; rw [Hm.out]; exact this, HF.out⟩⟩, HB.out⟩
end
end Go.Proofs.Ytigohccehllmnaa

namespace Go.Proofs.Ytigohccehllmnaa
set_option linter.unusedSimpArgs false
set_option linter.unusedVariables false
open Go.RowKit Go.Shelf

/-- A cheapest side. -/
def Cheap (zs : List Nl) (L R : List Int) (S : Int → Bool) : Prop := IsSd L R S ∧ ∀ T, IsSd L R T → costS zs S ≤ costS zs T
section
variable {N : Nat} {zs : List Nl} {L R : List Int} {f : Nat → Int}
theorem great_min (hz : OkL N zs) (hf : FlowOk N zs L R f) {T : Int → Bool} (hT : IsSd L R T) : greatF zs f L ≤ costS zs T := by
  rw [← great_side hz hf.right hT]; exact net_le hf.fit T
theorem closed_cost (hz : OkL N zs) (hf : FlowOk N zs L R f) {S : Int → Bool} (hS : IsSd L R S) (hc : ClosedS zs (opF zs f) S) : costS zs S = greatF zs f L := by
  rw [← net_tight ((closed_tight hz hf.fit).1 hc), great_side hz hf.right hS]
theorem closed_cheap (hz : OkL N zs) (hf : FlowOk N zs L R f) {S : Int → Bool} (hS : IsSd L R S) (hc : ClosedS zs (opF zs f) S) : Cheap zs L R S :=
  ⟨hS, fun T hT => by rw [closed_cost hz hf hS hc]; exact great_min hz hf hT⟩
theorem cheap_closed (hz : OkL N zs) (hf : FlowOk N zs L R f) {S0 : Int → Bool} (h0 : IsSd L R S0) (hc0 : ClosedS zs (opF zs f) S0) {S : Int → Bool} (h : Cheap zs L R S) : ClosedS zs (opF zs f) S := by
  refine (closed_tight hz hf.fit).2 (tight_of hf.fit ?_)
  rw [great_side hz hf.right h.1, ← closed_cost hz hf h0 hc0]
  exact h.2 S0 h0
/-- The names that can be reached are a cheapest side, and lie in each. -/
theorem rs_side {S0 : Int → Bool} (h0 : IsSd L R S0) (hc0 : ClosedS zs (opF zs f) S0) {Q : Int → Bool} (hQ : RS zs (opF zs f) L Q) : IsSd L R Q :=
  ⟨hQ.st, fun y hy => by
    cases e : Q y
    · rfl
    · have := hQ.mi S0 hc0 h0.1 y e
      rw [h0.2 y hy] at this; cases this⟩
theorem rs_cheap (hz : OkL N zs) (hf : FlowOk N zs L R f) {S0 : Int → Bool} (h0 : IsSd L R S0) (hc0 : ClosedS zs (opF zs f) S0) {Q : Int → Bool} (hQ : RS zs (opF zs f) L Q) : Cheap zs L R Q :=
  closed_cheap hz hf (rs_side h0 hc0 hQ) hQ.cl
theorem rs_all (hz : OkL N zs) (hf : FlowOk N zs L R f) {S0 : Int → Bool} (h0 : IsSd L R S0) (hc0 : ClosedS zs (opF zs f) S0) {Q : Int → Bool} (hQ : RS zs (opF zs f) L Q) (x : Int) : Q x = true ↔ ∀ S, Cheap zs L R S → S x = true :=
  ⟨fun h S hS => hQ.mi S (cheap_closed hz hf h0 hc0 hS) hS.1.1 x h, fun h => h Q (rs_cheap hz hf h0 hc0 hQ)⟩
theorem compl_closed {S : Int → Bool} (hc : ClosedS zs (opF zs f) S) : ClosedS zs (opB zs f) (fun x => !S x) := fun w hw ho h => by
  simp only [Bool.not_eq_true'] at h ⊢
  cases e : S w.to
  · rfl
  · have := hc w.back hw.back ho e
    change S w.fr = true at this
    rw [h] at this; cases this
theorem compl_closed' {S : Int → Bool} (hc : ClosedS zs (opB zs f) S) : ClosedS zs (opF zs f) (fun x => !S x) := fun w hw ho h => by
  simp only [Bool.not_eq_true'] at h ⊢
  cases e : S w.to
  · rfl
  · have := hc w.back hw.back (show opF zs f w.back.back = true from ho) e
    change S w.fr = true at this
    rw [h] at this; cases this
/-- The names from which the right ones can be reached lie in no cheapest side; the others are one. -/
theorem rb_cheap (hz : OkL N zs) (hf : FlowOk N zs L R f) {S0 : Int → Bool} (h0 : IsSd L R S0) (hc0 : ClosedS zs (opF zs f) S0) {Q : Int → Bool} (hQ : RS zs (opB zs f) R Q) : Cheap zs L R (fun x => !Q x) := by
  refine closed_cheap hz hf ⟨fun y hy => ?_, fun y hy => by simp [hQ.st y hy]⟩ (compl_closed' hQ.cl)
  show (!Q y) = true
  cases e : Q y
  · rfl
  · have := hQ.mi _ (compl_closed hc0) (fun z hz => by simp [h0.2 z hz]) y e
    simp [h0.1 y hy] at this
theorem rb_none (hz : OkL N zs) (hf : FlowOk N zs L R f) {S0 : Int → Bool} (h0 : IsSd L R S0) (hc0 : ClosedS zs (opF zs f) S0) {Q : Int → Bool} (hQ : RS zs (opB zs f) R Q) (x : Int) : Q x = true ↔ ∀ S, Cheap zs L R S → S x = false :=
  ⟨fun h S hS => by
    have := hQ.mi _ (compl_closed (cheap_closed hz hf h0 hc0 hS)) (fun z hz => by simp [hS.1.2 z hz]) x h
    simpa using this, fun h => by
    have := h _ (rb_cheap hz hf h0 hc0 hQ)
    simpa using this⟩
/-- The greatest flow is what a cheapest side costs. -/
theorem great_cheap (hz : OkL N zs) (hf : FlowOk N zs L R f) {S0 : Int → Bool} (h0 : IsSd L R S0) (hc0 : ClosedS zs (opF zs f) S0) {S : Int → Bool} (h : Cheap zs L R S) : costS zs S = greatF zs f L :=
  closed_cost hz hf h.1 (cheap_closed hz hf h0 hc0 h)
end
end Go.Proofs.Ytigohccehllmnaa

namespace Go.Proofs.Ytigohccehllmnaa
set_option linter.unusedSimpArgs false
set_option linter.unusedVariables false
open Go.RowKit Go.Shelf

/-- Links that are dropped change no names. -/
theorem foldG_congr {zs zs' : List Nl} {ds : List Int} {n : Nat} (h : ∀ k, k < n → (lAt zs' k).one = (lAt zs k).one ∧ (lAt zs' k).two = (lAt zs k).two) (g : Int → Int) : ∀ k, k ≤ n → foldG zs' ds g k = foldG zs ds g k
  | 0, _ => rfl
  | k + 1, hk => by
    simp only [foldG, foldG_congr h g k (by omega)]
    unfold stepG
    rw [(h k (by omega)).1, (h k (by omega)).2]
theorem labG_congr {zs zs' : List Nl} {ds : List Int} {n : Nat} (h : ∀ k, k < n → (lAt zs' k).one = (lAt zs k).one ∧ (lAt zs' k).two = (lAt zs k).two) : ∀ r, labG zs' ds n r = labG zs ds n r
  | 0 => rfl
  | r + 1 => by
    simp only [labG, labG_congr h r, foldG_congr h _ n (Nat.le_refl _)]
section
variable {l : NL} {W : World} {ds : List Int}
theorem okl_drop (hn : NLs W l) (h : layE l ds = 0) : OkL l.N.toNat (dropF l.zs ds) :=
  (bd_ok (layE_ok h).1 hn ds (layE_ok h).2 0 0 0).okl
theorem okl_list (hn : NLs W l) (h : chkL l = 0) : OkL l.N.toNat l.zs := (flow_bok h hn).okl
theorem op_drop (hn : NLs W l) (h : layE l ds = 0) : ∀ w, isWay (dropF l.zs ds) w → (opF (dropF l.zs ds) (fun _ => 0) w = true ↔ (w.link : Int) ∉ ds) := fun w hw => by
  have hk : w.link < l.n := by have := hw.1; rw [dropF_len, hn.zs.1] at this; exact this
  have := drop_tr (layE_ok h).1 hn (layE_ok h).2 hk
  unfold opF roomW
  rw [decide_eq_true_iff, ← this]
  split <;> (dsimp only; omega)
theorem lab_drop (hn : NLs W l) (h : layE l ds = 0) (r : Nat) : labG (dropF l.zs ds) ds (dropF l.zs ds).length r = labG l.zs ds l.n r := by
  rw [dropF_len, hn.zs.1]
  exact labG_congr (fun k hk => drop_ends hn (layE_ok h).2 hk) r
/-- The groups of the program are those of the document. -/
theorem gps_ref (hn : NLs W l) (h : layE l ds = 0) {gs : List (List Int)} {G : Int → Bool} (hg : Gps (dropF l.zs ds) (opF (dropF l.zs ds) (fun _ => 0)) l.N.toNat l.N.toNat gs G) : gs = dgK (labG l.zs ds l.n l.N.toNat) l.N.toNat l.N.toNat := by
  have := (gps_doc (okl_drop hn h) (op_drop hn h) hg (Nat.le_refl _)).1
  rw [lab_drop hn h] at this
  exact this
theorem ls_in (hn : NLs W l) (h : chkL l = 0) {a : Int} (ha : a ∈ l.ls) : 0 ≤ a ∧ a < (l.N.toNat : Int) := by
  have := ris_mem (chk_zero h).2.2.2.2.2.1 a ha; omega
theorem rs_in (hn : NLs W l) (h : chkL l = 0) {a : Int} (ha : a ∈ l.rs) : 0 ≤ a ∧ a < (l.N.toNat : Int) := by
  have := ris_mem (chk_zero h).2.2.2.2.2.2.1 a ha; omega
/-- Ways through join names. -/
theorem jn_path (hn : NLs W l) (h : layE l ds = 0) {a en : Int} {ws : List Wy} (ha : a ∈ l.ls) (hb : en ∈ l.rs) (hp : IsPath a ws en) (hw : ∀ x ∈ ws, isWay (dropF l.zs ds) x ∧ opF (dropF l.zs ds) (fun _ => 0) x = true) : jnB (labG l.zs ds l.n l.N.toNat) l.ls l.rs = true := by
  have := join_path (okl_drop hn h) (op_drop hn h) (ls_in hn (layE_ok h).1 ha) hw hp
  rw [lab_drop hn h] at this
  exact List.any_eq_true.2 ⟨a, ha, List.any_eq_true.2 ⟨en, hb, decide_eq_true this⟩⟩
theorem jn_none (hn : NLs W l) (h : layE l ds = 0) {S : Int → Bool} (hS : ClosedS (dropF l.zs ds) (opF (dropF l.zs ds) (fun _ => 0)) S) (hsd : IsSd l.ls l.rs S) : jnB (labG l.zs ds l.n l.N.toNat) l.ls l.rs = false := by
  rw [← Bool.not_eq_true]
  intro e
  obtain ⟨a, ha, e⟩ := List.any_eq_true.1 e
  obtain ⟨b, hb, e⟩ := List.any_eq_true.1 e
  have := join_none (okl_drop hn h) (op_drop hn h) hS hsd ha hb ⟨ls_in hn (layE_ok h).1 ha, rs_in hn (layE_ok h).1 hb⟩
  rw [lab_drop hn h] at this
  exact this (of_decide_eq_true e)
theorem path_end : ∀ (ws : List Wy) (a en : Int), IsPath a ws en → iAt (chnL a ws ws.length) ws.length = en
  | [], a, en, h => by obtain rfl : a = en := h; rfl
  | w :: ws, a, en, h => by
    have := path_end ws w.to en h.2
    unfold chnL at this ⊢
    simpa [iAt] using this
theorem path_at : ∀ (ws : List Wy) (a en : Int), IsPath a ws en → ∀ k, k < ws.length → iAt (chnL a ws ws.length) k = (wAt ws k).fr ∧ iAt (chnL a ws ws.length) (k + 1) = (wAt ws k).to
  | [], a, en, h, k, hk => by simp at hk
  | w :: ws, a, en, h, 0, hk => ⟨by show a = w.fr; exact h.1.symm, by simp [chnL, iAt, wAt]⟩
  | w :: ws, a, en, h, k + 1, hk => by
    have := path_at ws w.to en h.2 k (by simpa using hk)
    unfold chnL at this ⊢
    simpa [iAt, wAt] using this
/-- A chain of ways through is a chain. -/
theorem chn_chk (hn : NLs W l) (h : layE l ds = 0) {a en : Int} {ws : List Wy} (ha : a ∈ l.ls) (hb : en ∈ l.rs) (hp : IsPath a ws en) (hw : ∀ x ∈ ws, isWay (dropF l.zs ds) x ∧ opF (dropF l.zs ds) (fun _ => 0) x = true) (hnd : (ws.map (·.to)).Nodup) (hna : a ∉ ws.map (·.to)) (h0 : 0 < ws.length) : chkC l ds (chnL a ws ws.length) (ws.length + 1) = 0 := by
  have hch := (layE_ok h).1
  have hN := (chk_zero hch).1
  have hmem : ∀ x ∈ chnL a ws ws.length, 0 ≤ x ∧ x < (l.N.toNat : Int) := fun x hx => by
    unfold chnL at hx
    rw [List.take_length] at hx
    rcases List.mem_cons.1 hx with rfl | hx
    · exact ls_in hn hch ha
    · obtain ⟨v, hv, rfl⟩ := List.mem_map.1 hx
      exact ((hw v hv).1.lt (okl_drop hn h)).2
  have hlen : ws.length + 1 ≤ 40 := by
    have h1 := nodup_le (chnL a ws ws.length) ((List.range l.N.toNat).map fun k : Nat => (k : Int)) (by
      unfold chnL
      rw [List.take_length]
      exact List.pairwise_cons.2 ⟨fun x hx e => hna (by rw [e]; exact hx), hnd⟩) (fun x hx => by
      have := hmem x hx
      exact List.mem_map.2 ⟨x.toNat, List.mem_range.2 (by omega), by omega⟩)
    rw [chnL_len a (Nat.le_refl _)] at h1
    simp at h1
    omega
  rw [chk_hd h, if_neg (by rw [Bool.not_eq_false, inB_iff]; omega), if_neg (by
    rw [Bool.not_eq_false, withI_iff]
    intro x hx
    have := hmem x hx
    omega), isCh_lk h hn, if_pos]
  simp only [Bool.and_eq_true, decide_eq_true_eq]
  refine ⟨⟨ha, ?_⟩, ?_⟩
  · rw [Nat.add_sub_cancel, path_end ws a en hp]; exact hb
  · unfold lkC
    rw [List.all_eq_true]
    intro k hk
    rw [List.mem_range, Nat.add_sub_cancel] at hk
    obtain ⟨e1, e2⟩ := path_at ws a en hp k hk
    rw [e1, e2]
    obtain ⟨w1, w2⟩ := hw (wAt ws k) (by rw [wAt_eq hk]; exact List.getElem_mem _)
    have w3 := (op_drop hn h _ w1).1 w2
    have hkl : (wAt ws k).link < l.n := by have := w1.1; rw [dropF_len, hn.zs.1] at this; exact this
    refine lnkK_yes (k := (wAt ws k).link) ?_ hkl
    obtain ⟨d1, d2⟩ := drop_ends hn (layE_ok h).2 hkl
    have w4 := w1.2
    rw [d1, d2] at w4
    unfold lkB
    simp only [Bool.and_eq_true, Bool.or_eq_true, Bool.not_eq_true', decide_eq_false_iff_not, decide_eq_true_eq]
    refine ⟨w3, ?_⟩
    rcases w4 with ⟨a1, a2⟩ | ⟨a1, a2⟩
    · exact .inl ⟨a1.symm, a2.symm⟩
    · exact .inr ⟨a2.symm, a1.symm⟩
/-- A right flow is told so. -/
theorem flow_told (hn : NLs W l) (h : chkL l = 0) {f : Nat → Int} (hf : FlowOk l.N.toNat l.zs l.ls l.rs f) : flE l l.n (flL f l.n) = 0 ∧ grE l l.n (flL f l.n) = greatF l.zs f l.ls := by
  have he : ∀ k, k < l.n → iAt (flL f l.n) k = f k := fun k hk => flL_at f hk
  have hout : ∀ S, net l.zs (fun j => iAt (flL f l.n) j) S = net l.zs f S := fun S => sumN_congr fun k hk => by
    have e := he k (by rw [← hn.zs.1]; exact hk)
    simp only [e]
  have e0 : flE l l.n (flL f l.n) = 0 := by
    unfold flE
    have h1 : fitK l.zs (fun j => iAt (flL f l.n) j) l.n = true := fitK_iff.2 fun k hk => by
      rw [he k hk]; exact hf.fit k (by rw [hn.zs.1]; exact hk)
    have h2 : rightB ⟨0, 0, 0, l, l.zs⟩ (fun j => iAt (flL f l.n) j) = true := by
      rw [rightB_iff (flow_bok h hn)]
      intro x hx a b
      have := hf.right x hx a b
      unfold outN at this ⊢
      rw [hout]; exact this
    rw [layE_nil, h, if_neg (by decide), if_neg (by simp), h1, h2]
    rfl
  refine ⟨e0, ?_⟩
  unfold grE
  rw [e0, if_pos rfl]
  unfold greatF
  rw [hout]
end
end Go.Proofs.Ytigohccehllmnaa
