/- The contract of spread. -/
import Derived.Test.YtiankphkemakeaaStillIn
import Derived.Laws.ResultCell
namespace Go.Proofs.Ytiankphkemakeaa
set_option linter.unusedSimpArgs false
set_option linter.unusedVariables false
open Go.RowKit Go.Shelf
attribute [local go_sem] Oper.semAt_some

theorem reads4_lt {w : World} {Bs Bv g H : Nat} {lb : Array Value} {high : Bool} {T : Int} {A A' : Option Addr} {n cap N cap' : Nat} {ws : List R}
    (hv : IsView w g lb high H) (hbox : Box79 w Bs T A n cap A' N cap') (hbv : w.cell? ⟨Bv, 0, none⟩ = some (.func (.func g) #[] lb)) (hr : Rules w A' N ws) (hN : 0 < N) : ∀ k, Reads4 Bs Bv lb H A' k → k < w.heap.size := by
  intro k hk
  rcases hk with rfl | rfl | ⟨hl, rfl⟩ | ⟨o, ho⟩
  · exact lt_of_cell hbox.1
  · exact lt_of_cell hbv
  · rcases hv with ⟨_, h2, _⟩ | ⟨_, _, h3⟩
    · exact absurd h2 hl
    · exact lt_of_cell h3
  · obtain ⟨b, o', e, hc⟩ := hr.2 hN
    rw [ho] at e
    cases e
    exact lt_of_cell (hc 0 hN).1

theorem But.trans_ {G M : Nat} {A B C : World} (h : But G M A B) (k : But G M B C) : But G M A C :=
  ⟨k.os.trans h.os, k.tape.trans h.tape, k.output.trans h.output, Nat.le_trans h.size k.size, fun i hi h1 h2 => (k.block i (Nat.lt_of_lt_of_le hi h.size) h1 h2).trans (h.block i hi h1 h2)⟩
theorem CameAt.of_block {W W' : World} {M nn : Nat} {c : List Int} (h : CameAt W M c nn) (hb : W'.heap[M]? = W.heap[M]?) : CameAt W' M c nn := by
  obtain ⟨D, ⟨es, clock, h1, h2⟩, h3⟩ := h
  exact ⟨D, ⟨es, clock, hb.trans h1, h2⟩, h3⟩

theorem leaves64 {w W4 W6 : World} {tmps : Array Value} {B M nn : Nat} {b : Bool} {q c : List Int} {Ds : List Nat} {res : St × Bool} (h6 : tmps.getD 6 undef = .pointer (some ⟨B, 0, none⟩)) (h7 : tmps.getD 7 undef = .bool b)
    (hB : B < W4.heap.size) (hblk : W6.heap[B]? = some (.cells (fv q M) 97 (0, 0))) (hq : q.length = 21) (hm : MarksOk W6 W4.heap.size Ds) (hc : CameAt W6 M c nn) (hn : nn ≤ 100000) (hM : w.heap.size ≤ M) (hM4 : M < W4.heap.size)
    (hsz : w.heap.size ≤ W4.heap.size) (hb : Below w.heap.size w W6) (hres : res = ((q, c), b)) :
    LeavesInM Fence.wide 5 Try.prog Try.f64 tmps (fun e w' => ∃ M nn, e = .returned (.tuple #[.agg (fv res.1.1 M), .bool res.2]) ∧ CameAt w' M res.1.2 nn ∧ nn ≤ 100000 ∧ w.heap.size ≤ M ∧ Below w.heap.size w w') (marks Ds) .returning W6 := by
  subst hres
  refine leaves_marks W4.heap.size Ds W6 hm (fun w' h1 h2 h3 h4 h5 => ?_)
  have hlo : ∀ k, k < W4.heap.size → k ∉ Ds := fun k hk hd => by have := (hm.2 k hd).1; omega
  refine ⟨.tuple #[.agg (fv q M), .bool b], ?_, M, nn, rfl, hc.of_block (h5 M (hlo M hM4)), hn, hM, ?_⟩
  · rw [results_cell_tmp (fn := Try.f64) rfl, h6, h7, show (asAddr (.pointer (some ⟨B, 0, none⟩))).run Try.prog w' = .ok ⟨B, 0, none⟩ w' from rfl, Result.andThen_ok, run_loadVar_row w' B 97 97 (fv q M) (0, 0) _ ((h5 B (hlo B hB)).trans hblk) Try.underlying97 rfl (by rw [fv_size, hq]; kernel_rfl)]
    rfl
  · exact ⟨h1.trans hb.os, h2.trans hb.tape, h3.trans hb.output, by rw [h4]; exact hb.size, fun k hk => (h5 k (hlo k (by omega))).trans (hb.block k hk)⟩
theorem holdUpd {F : Fence} {n : Nat} {P : Program} {ops : Array Oper} {rest : List Oper} {o : Oper} {a : Act} {w : World} {Q : Exit → Act → World → Prop} (ty : TypeId) (x y v : Operand) (ho : o.op = .mapUpdate ty x y v) (h : Held (wpListIn F n P ops Q (o :: rest) a w)) : wpListIn F n P ops Q (o :: rest) a w := h

set_option maxRecDepth 100000 in
set_option maxHeartbeats 4000000 in
theorem spread64 (T x : Nat) (A A' : Option Addr) (n cap N cap' g : Nat) (lb : Array Value) (high : Bool) (H : Nat) (ws : List R) (w : World) (hr : Rules w A' N ws) (hT : T ≤ 20) (hx : x ≤ 20) (hN : N ≤ 1000) (hN1 : 0 < N) (hfit : ∀ r ∈ ws, FitR r) (hview : IsView w g lb high H) :
    Calls Try.prog 64 #[.agg #[.int .i64 (T : Int), .slice A n cap, .slice A' N cap'], .int .i64 (x : Int), .func (.func g) #[] lb] w fun e w' =>
      ∃ M nn, e = .returned (.tuple #[.agg (fv (spread high T ws x).1.1 M), .bool (spread high T ws x).2]) ∧ CameAt w' M (spread high T ws x).1.2 nn ∧ nn ≤ 100000 ∧ w.heap.size ≤ M ∧ Below w.heap.size w w' := by
  have hmm := @run_makeMap Try.prog
  refine (callsIn_wide (n := 5)).1 ?_
  refine callsIn_of_wp_marks Try.func64 rfl trivial ?_ rfl
  simp only [Try.ntmps64, List.size_toArray, List.length_cons, List.length_nil, Nat.reduceAdd, Nat.reduceSub, Array.replicate_succ, Array.replicate_zero, List.push_toArray, List.append_toArray, List.nil_append, List.cons_append]
  gi_wp2_with (with_reducible refine holdStore 97 _ _ rfl ?_)
  unfold Held
  refine wpListIn_store rfl 97 (.tmp 8) (.tmp 14) rfl _ _ rfl rfl (store22 (size3 _ _ _ _)) ?_
  clear hmm
  obtain ⟨M, hM⟩ : ∃ M, w.heap.size + 1 + 1 = M := ⟨_, rfl⟩
  obtain ⟨G, hG⟩ : ∃ G, w.heap.size + 1 + 1 + 1 = G := ⟨_, rfl⟩
  obtain ⟨W4, hW4⟩ : ∃ W4, (((w.alloc (.cells #[.int .i64 (T : Int), .slice A n cap, .slice A' N cap'] 79)).alloc (.cells #[.int .i64 0, .int .i64 0, .int .i64 0, .int .i64 0, .int .i64 0, .int .i64 0, .int .i64 0, .int .i64 0, .int .i64 0, .int .i64 0, .int .i64 0, .int .i64 0, .int .i64 0, .int .i64 0, .int .i64 0, .int .i64 0, .int .i64 0, .int .i64 0, .int .i64 0, .int .i64 0, .int .i64 0, .map none] 97)).alloc (.map #[] 0)).alloc (.cells (fv (farTo 0) M) 97) = W4 := ⟨_, rfl⟩
  have hsz : W4.heap.size = w.heap.size + 4 := by rw [← hW4]; simp
  have hB4 : Below w.heap.size w W4 := by rw [← hW4]; exact ((((Below.refl _ _).alloc (Nat.le_refl _) _).alloc (by simp) _).alloc (by simp; omega) _).alloc (by simp; omega) _
  have hbox : Box79 W4 w.heap.size T A n cap A' N cap' := by
    rw [← hW4]
    refine ⟨?_, ?_, ?_⟩ <;> (rw [World.cell?_alloc_past _ _ _ (by simp; omega), World.cell?_alloc_past _ _ _ (by simp; omega), World.cell?_alloc_past _ _ _ (by simp), World.cell?_alloc_new]; rfl)
  have hblk : W4.heap[G]? = some (.cells (fv (farTo 0) M) 97 (0, 0)) := by
    rw [← hW4, ← hG]
    have := heap_alloc_new (((w.alloc (.cells #[.int .i64 (T : Int), .slice A n cap, .slice A' N cap'] 79)).alloc (.cells #[.int .i64 0, .int .i64 0, .int .i64 0, .int .i64 0, .int .i64 0, .int .i64 0, .int .i64 0, .int .i64 0, .int .i64 0, .int .i64 0, .int .i64 0, .int .i64 0, .int .i64 0, .int .i64 0, .int .i64 0, .int .i64 0, .int .i64 0, .int .i64 0, .int .i64 0, .int .i64 0, .int .i64 0, .map none] 97)).alloc (.map #[] 0)) (.cells (fv (farTo 0) M) 97)
    simpa using this
  have hcame : CameAt W4 M (List.replicate 21 (-1)) 0 := by
    rw [← hW4, ← hM]
    have := (CameAt.new ((w.alloc (.cells #[.int .i64 (T : Int), .slice A n cap, .slice A' N cap'] 79)).alloc (.cells #[.int .i64 0, .int .i64 0, .int .i64 0, .int .i64 0, .int .i64 0, .int .i64 0, .int .i64 0, .int .i64 0, .int .i64 0, .int .i64 0, .int .i64 0, .int .i64 0, .int .i64 0, .int .i64 0, .int .i64 0, .int .i64 0, .int .i64 0, .int .i64 0, .int .i64 0, .int .i64 0, .int .i64 0, .map none] 97))).kept (World.grownBy_alloc _ (.cells (fv (farTo 0) M) 97) none) (by simp)
    rw [hM]
    simpa [hM] using this
  have hres : W4.heap[w.heap.size + 1]? = some (.cells #[.int .i64 0, .int .i64 0, .int .i64 0, .int .i64 0, .int .i64 0, .int .i64 0, .int .i64 0, .int .i64 0, .int .i64 0, .int .i64 0, .int .i64 0, .int .i64 0, .int .i64 0, .int .i64 0, .int .i64 0, .int .i64 0, .int .i64 0, .int .i64 0, .int .i64 0, .int .i64 0, .int .i64 0, .map none] 97 (0, 0)) := by
    rw [← hW4, heap_alloc_old _ _ _ (by simp), heap_alloc_old _ _ _ (by simp)]
    exact heap_alloc2_new w _ _
  rw [hG, hM, hW4]
  clear hW4
  have Hsz := Lib.hid hsz
  have HB4 := Lib.hid hB4
  have Hbox := Lib.hid hbox
  have Hblk := Lib.hid hblk
  have Hcame := Lib.hid hcame
  have Hres := Lib.hid hres
  have HG := Lib.hid hG
  have HM := Lib.hid hM
  have Hr := Lib.hid hr
  have Hview := Lib.hid hview
  have Hfit := Lib.hid hfit
  clear hsz hB4 hbox hblk hcame hres hG hM hr hview hfit
  gi_wp2_with fail
  gi_loopw [15] (fun i wr => ∃ k : Nat, k ≤ 21 ∧ i = .int .i64 k ∧ wr.heap[G]? = some (.cells (fv (farTo k) M) 97 (0, 0)) ∧ W4.grownBy wr (some G)) (fun i _ => 21 - (intOf i).toNat)
  case atStart => exact ⟨0, by omega, rfl, Hblk.out, World.grownBy.refl _ _⟩
  case round =>
    obtain ⟨k, hk, rfl, hblk, hgr⟩ := hrel
    have Hblk2 := Lib.hid hblk
    have Hgr := Lib.hid hgr
    clear hblk hgr
    by_cases hlt : k < 21
    · have ck : wr.cell? ⟨G, k, none⟩ = some (.int .i64 (nth (farTo k) k)) := by rw [cell_of_row wr G k _ _ _ Hblk2.out, fv_at _ _ _ (by rw [farTo_length k hk]; exact hlt)]
      have fk : wr.frozen? ⟨G, k, none⟩ = false := frozen_of_row wr G k _ _ Hblk2.out
      gi_wp2_with fail
      go_roundw
      case rel => exact ⟨k + 1, by omega, by go_num, by rw [heap_setCell_same wr G k _ _ _ Hblk2.out, fv_set _ _ _ (by rw [farTo_length k hk]; exact hlt), farTo_set k hlt], grown_trans Hgr.out ⟨rfl, rfl, rfl, by simp [World.setCell], fun j _ hj => heap_setCell_other _ _ _ _ (fun e => hj (by rw [e]))⟩⟩
      case measure => simp [intOf]; omega
    · obtain rfl : k = 21 := by omega
      have cx : wr.cell? ⟨G, x, none⟩ = some (.int .i64 (nth (farTo 21) x)) := by rw [cell_of_row wr G x _ _ _ Hblk2.out, fv_at _ _ _ (by rw [farTo_length 21 hk]; omega)]
      have fx : wr.frozen? ⟨G, x, none⟩ = false := frozen_of_row wr G x _ _ Hblk2.out
      have hx1 : (x : Int) < 21 := by omega
      have hne : w.heap.size ≠ G := by have := HG.out; omega
      have hboxr := Hbox.out
      have b0 : wr.cell? ⟨w.heap.size, 0, none⟩ = some (.int .i64 (T : Int)) := (World.cell?_of_block (w := W4) (Hgr.out.block w.heap.size (by have := Hsz.out; omega) (fun e => hne (by injection e)))).trans hboxr.1
      clear hboxr
      gi_wp2_with fail
      clear b0
      have Hblk3 := Lib.hid (show (wr.setCell ⟨G, x, none⟩ (.int .i64 0)).heap[G]? = some (.cells (fv (start0 x).1 M) 97 (0, 0)) by
        rw [heap_setCell_same wr G x _ _ _ Hblk2.out, fv_set _ _ _ (by rw [farTo_length 21 hk]; omega), farTo_all]; rfl)
      have Hgr3 := Lib.hid (grown_trans Hgr.out (grown_setCell wr G x (.int .i64 0)))
      have Hcame3 := Lib.hid (show CameAt (wr.setCell ⟨G, x, none⟩ (.int .i64 0)) M (start0 x).2 0 from Hcame.out.kept Hgr3.out (by have := HM.out; have := HG.out; simp; omega))
      obtain ⟨W5, hW5⟩ : ∃ W5, wr.setCell ⟨G, x, none⟩ (.int .i64 0) = W5 := ⟨_, rfl⟩
      rw [hW5] at Hblk3 Hgr3 Hcame3 ⊢
      clear hW5 fx cx
      refine wpIn_loop (Inv2 high ws T x M G w.heap.size g lb W4) (fun a' _ => T + 1 - (intOf (a'.tmps.getD 29 undef)).toNat) ?_ ?_
      · exact ⟨rfl, rfl, rfl, rfl, rfl, rfl, 0, start0 x, 0, [], rfl, rfl, ⟨by omega, rfl, start_within x, Hblk3.out, Hcame3.out, by omega, ⟨List.nodup_nil, fun D hD => by simp at hD⟩, (But.refl G M W4).grown Hgr3.out (fun r e => by injection e with e; exact .inl e.symm)⟩⟩
      · intro a' wq hinv
        obtain ⟨z, k, s, nn, Ds, hrel, rfl⟩ := hinv.open_
        have HR := Lib.hid hrel
        clear hrel hinv
        by_cases hlt : k < T + 1
        · gi_wp2_with (first | (with_reducible refine holdLoad 87 _ rfl ?_) | (with_reducible refine holdStore 87 _ _ rfl ?_))
          unfold Held
          refine wpListIn_load rfl 87 (.tmp 31) rfl _ _ rfl (load87_pre HR.out.hblk HR.out.hw.1) ?_
          have hzB : w.heap.size < wq.heap.size := by have := HR.out.hbut.size; have := Hsz.out; omega
          have hneG : w.heap.size ≠ G := by have := HG.out; omega
          have hneM : w.heap.size ≠ M := by have := HM.out; omega
          have hB4s : w.heap.size < W4.heap.size := by have := Hsz.out; omega
          have Hbq := Lib.hid (show Box79 wq w.heap.size T A n cap A' N cap' from
            ⟨(World.cell?_of_block (w := W4) (HR.out.hbut.block w.heap.size hB4s hneG hneM)).trans Hbox.out.1, (World.cell?_of_block (w := W4) (HR.out.hbut.block w.heap.size hB4s hneG hneM)).trans Hbox.out.2.1, (World.cell?_of_block (w := W4) (HR.out.hbut.block w.heap.size hB4s hneG hneM)).trans Hbox.out.2.2⟩)
          have b0 := Hbq.out.1
          have b1 := Hbq.out.2.1
          have b2 := Hbq.out.2.2
          clear hneG hneM
          gi_wp2_with (with_reducible refine holdStore 87 _ _ rfl ?_)
          unfold Held
          refine wpListIn_store rfl 87 (.tmp 10) (.tmp 32) rfl _ _ rfl rfl (store87_new rfl rfl HR.out.hw.1) ?_
          gi_wp2_with fail
          refine ⟨trivial, ?_⟩
          refine (callsIn_wide.2 (each73 (T : Int) A A' n cap N cap' g lb _)).mono ?_
          rintro e w' ⟨rfl, rfl⟩
          gi_wp2_with fail
          clear b0 b1 b2
          obtain ⟨WL, hWL⟩ : ∃ WL, ((wq.alloc (.cells (pv s.1) 87)).alloc (.cells #[.int .i64 (T : Int), .slice A n cap, .slice A' N cap'] 79)).alloc (.cells #[.func (.func g) #[] lb] 100) = WL := ⟨_, rfl⟩
          have hszL : WL.heap.size = wq.heap.size + 3 := by rw [← hWL]; simp
          have hbL : Below wq.heap.size wq WL := by rw [← hWL]; exact (((Below.refl _ _).alloc (Nat.le_refl _) _).alloc (by simp) _).alloc (by simp; omega) _
          have hbf : WL.heap[wq.heap.size]? = some (.cells (pv s.1) 87 (0, 0)) := by
            rw [← hWL, heap_alloc_old _ _ _ (by simp; omega)]
            exact heap_alloc2_old wq _ _
          have hbs : WL.heap[wq.heap.size + 1]? = some (.cells #[.int .i64 (T : Int), .slice A n cap, .slice A' N cap'] 79 (0, 0)) := by
            rw [← hWL, heap_alloc_old _ _ _ (by simp)]
            exact heap_alloc2_new wq _ _
          have hbv : WL.heap[wq.heap.size + 1 + 1]? = some (.cells #[.func (.func g) #[] lb] 100 (0, 0)) := by
            rw [← hWL]
            have := heap_alloc_new ((wq.alloc (.cells (pv s.1) 87)).alloc (.cells #[.int .i64 (T : Int), .slice A n cap, .slice A' N cap'] 79)) (.cells #[.func (.func g) #[] lb] 100)
            simpa using this
          rw [hWL]
          clear hWL
          have hwq : Below w.heap.size w wq := HB4.out.trans ⟨HR.out.hbut.os, HR.out.hbut.tape, HR.out.hbut.output, HR.out.hbut.size, fun j hj => HR.out.hbut.block j (by omega) (by have := HG.out; omega) (by have := HM.out; omega)⟩
          have hboxL : Box79 WL (wq.heap.size + 1) T A n cap A' N cap' := by
            refine ⟨?_, ?_, ?_⟩ <;> (rw [cell_of_row WL (wq.heap.size + 1) _ _ _ _ hbs]; rfl)
          have hcv : WL.cell? ⟨wq.heap.size + 1 + 1, 0, none⟩ = some (.func (.func g) #[] lb) := by rw [cell_of_row WL _ 0 _ _ _ hbv]; rfl
          have hrL : Rules WL A' N ws := (Hr.out.below hwq (Nat.le_refl _)).below hbL (Nat.le_refl _)
          have hviewL : IsView WL g lb high H := by
            rcases Hview.out with h1 | ⟨h1, h2, h3⟩
            · exact .inl h1
            · refine .inr ⟨h1, h2, ?_⟩
              have h4 := lt_of_cell h3
              rw [(bcell hbL).1 H 0 (by omega), (bcell hwq).1 H 0 h4]
              exact h3
          have hblkL : WL.heap[G]? = some (.cells (fv s.1 M) 97 (0, 0)) := by rw [hbL.block G (lt_of_block HR.out.hblk)]; exact HR.out.hblk
          have hcameL : CameAt WL M s.2 nn := HR.out.hcame.kept (grown_of_below hbL) (by simp)
          have HszL := Lib.hid hszL
          have HbL := Lib.hid hbL
          have Hbf := Lib.hid hbf
          have HboxL := Lib.hid hboxL
          have Hcv := Lib.hid hcv
          have HrL := Lib.hid hrL
          have HviewL := Lib.hid hviewL
          have HblkL := Lib.hid hblkL
          have HcameL := Lib.hid hcameL
          have HGM := Lib.hid (show G ≠ M by have := HG.out; have := HM.out; omega)
          have HGl := Lib.hid (show G < WL.heap.size by have := lt_of_block HR.out.hblk; omega)
          have HMl := Lib.hid (show M < WL.heap.size by have := HR.out.hcame.lt; omega)
          clear hszL hbL hbf hbs hbv hwq hboxL hcv hrL hviewL hblkL hcameL
          refine wpIn_rangeFunc_ownH rfl (by decide) (gf := 76) (lb := #[.pointer (some ⟨wq.heap.size + 1, 0, none⟩), .pointer (some ⟨wq.heap.size + 1 + 1, 0, none⟩)]) rfl trivial (enters_of Try.func76 (by kernel_rfl) rfl)
            (stops_view (wq.heap.size + 1) (wq.heap.size + 1 + 1) g H lb high T A A' n cap N cap' ws (by omega) Hfit.out WL HviewL.out HboxL.out Hcv.out HrL.out (by omega)) (fun h k => h.trans k) ?hKb (Below.refl _ _) (fun _ => rfl)
            (fun pre W => W.heap[G]? = some (.cells (fv (fold s pre).1 M) 97 (0, 0)) ∧ CameAt W M (fold s pre).2 (nn + pre.length) ∧ But G M WL W)
            (fun _ _ _ => False) ?hI (fun _ _ _ _ _ hs _ _ => hs) ⟨HblkL.out, HcameL.out, But.refl _ _ _⟩
            (fun y a' W => ∃ Bx, WL.heap.size ≤ Bx ∧ W.heap[Bx]? = some (.cells #[.int .i64 y.1.2.f, .int .i64 y.1.2.t, .int .i64 y.1.2.m] 68 (0, 0)) ∧ a' = { tmps := #[z 0, z 1, .func (.func g) #[] lb, .pointer (some ⟨w.heap.size, 0, none⟩), z 4, z 5, .pointer (some ⟨w.heap.size + 1, 0, none⟩), z 7, .pointer (some ⟨G, 0, none⟩), z 9, .pointer (some ⟨wq.heap.size, 0, none⟩), .int .i64 (y.1.1 : Int), .pointer (some ⟨Bx, 0, none⟩), z 13, z 14, z 15, z 16, z 17, z 18, z 19, z 20, z 21, z 22, z 23, z 24, z 25, z 26, z 27, .int .i64 ((T : Int) + 1), .int .i64 (k : Int), .bool true, .pointer (some ⟨G, 0, none⟩), .agg (pv s.1), .agg #[.int .i64 (T : Int), .slice A n cap, .slice A' N cap'], .func (.func g) #[] lb, .func (.func 76) #[] #[.pointer (some ⟨wq.heap.size + 1, 0, none⟩), .pointer (some ⟨wq.heap.size + 1 + 1, 0, none⟩)], .int .i64 (y.1.1 : Int), .agg #[.int .i64 y.1.2.f, .int .i64 y.1.2.t, .int .i64 y.1.2.m], z 38, z 39, z 40, z 41, z 42, z 43, z 44, z 45, z 46, z 47, z 48, z 49, z 50, z 51, z 52, z 53, z 54, z 55, z 56, z 57, z 58, z 59, z 60, z 61, z 62, z 63, z 64, z 65, z 66, z 67, z 68, z 69, z 70, z 71, z 72, z 73, z 74], defers := [] })
            ?hAx ?assign ?body ?done ?stop
          case hKb =>
            intro W l o o' hl _ _ _
            refine ⟨by simp, fun j hj => World.putObj_heap_other (fun e => ?_)⟩
            have := reads4_lt HviewL.out HboxL.out Hcv.out HrL.out hN1 j hj
            omega
          case hI =>
            rintro pre A B row ⟨h1, h2, h3⟩ hg hr
            exact ⟨(hg.block G (lt_of_block h1) (fun e => by have := (hr G e.symm).1; have := HGl.out; omega)).trans h1, h2.kept hg (fun e => by have := (hr M e.symm).1; have := HMl.out; omega), h3.grown hg (fun r e => .inr (.inr (hr r e).1))⟩
          case hAx =>
            rintro y a' _ A B row ⟨Bx, h1, h2, h3⟩ hg hr
            exact ⟨Bx, h1, (hg.block Bx (lt_of_block h2) (fun e => by
              obtain ⟨_, o, ho, hc⟩ := hr Bx e.symm
              rw [h2] at ho
              cases ho
              cases hc)).trans h2, h3⟩
          case assign =>
            rintro l pre y W K hi hK
            have HI := Lib.hid hi
            clear hi
            unfold encI
            gi_wp2
            refine hK _ _ ((KeepsOthers.alloc _ _).from _) (KeepB.of_below ((Below.refl _ W).alloc (Nat.le_refl _) _) (fun j hj => ?_)) ?_ ⟨W.heap.size, HI.out.2.2.size, heap_alloc_new _ _, rfl⟩
            · have := reads4_lt HviewL.out HboxL.out Hcv.out HrL.out hN1 j hj
              have := HI.out.2.2.size
              omega
            · exact ⟨(heap_alloc_old _ _ _ (lt_of_block HI.out.1)).trans HI.out.1, HI.out.2.1.kept (World.grownBy_alloc _ _ none) (by simp), HI.out.2.2.grown (World.grownBy_alloc _ _ none) (fun r e => by cases e)⟩
          case body =>
            rintro l pre y a' W hl hrec hi ⟨Bx, hBx, hbx, rfl⟩ hlen
            obtain ⟨⟨yk, yr⟩, hyk, hyr⟩ := y
            dsimp only at hbx ⊢
            have HI := Lib.hid hi
            have HF := Lib.hid (show FitR yr from hyr)
            have HW := Lib.hid ((fold_within pre HR.out.hw))
            have Hbx := Lib.hid hbx
            clear hi hbx hrec
            have hf0 : 0 ≤ yr.f := HF.out.1
            have hf1 : yr.f ≤ 20 := HF.out.2.1
            have ht0 : 0 ≤ yr.t := HF.out.2.2.1
            have ht1 : yr.t ≤ 20 := HF.out.2.2.2.1
            have hm0 : -1000000 ≤ yr.m := HF.out.2.2.2.2.1
            have hm1 : yr.m ≤ 1000000 := HF.out.2.2.2.2.2
            have c0 : W.cell? ⟨Bx, 0, none⟩ = some (.int .i64 yr.f) := by rw [cell_of_row W Bx 0 _ _ _ Hbx.out]; rfl
            have c1 : W.cell? ⟨Bx, 1, none⟩ = some (.int .i64 yr.t) := by rw [cell_of_row W Bx 1 _ _ _ Hbx.out]; rfl
            have c2 : W.cell? ⟨Bx, 2, none⟩ = some (.int .i64 yr.m) := by rw [cell_of_row W Bx 2 _ _ _ Hbx.out]; rfl
            obtain ⟨p, cm, hpc⟩ : ∃ p cm, fold s pre = (p, cm) := ⟨_, _, rfl⟩
            rw [hpc] at HI HW
            dsimp only at HI
            have Hpc := Lib.hid hpc
            clear hpc
            have hp21 : p.length = 21 := HW.out.1
            have Hp := Lib.hid hp21
            have gF : W.cell? ⟨G, yr.f.toNat, none⟩ = some (.int .i64 (nth p yr.f.toNat)) := by rw [cell_of_row W G _ _ _ _ HI.out.1, fv_at _ _ _ (by omega)]
            have gT : W.cell? ⟨G, yr.t.toNat, none⟩ = some (.int .i64 (nth p yr.t.toNat)) := by rw [cell_of_row W G _ _ _ _ HI.out.1, fv_at _ _ _ (by omega)]
            have hprelen := hlen
            have hkb : k * 1000 ≤ 21000 := by omega
            have hpb : ∀ i, -9000000000000 ≤ nth p i ∧ nth p i ≤ 9000000000000 := fun i => by have := HW.out.2.2.1 i; simp only at this; omega
            have Hpb := Lib.hid hpb
            obtain ⟨pf0, pf1⟩ := hpb yr.f.toNat
            clear hpb hp21 hprelen hkb
            have hyk6 : yk < 1000000 := hyk
            have Hsnoc := Lib.hid (show fold s (pre ++ [⟨(yk, yr), hyk, HF.out⟩]) = relax (p, cm) yk yr by rw [fold_snoc, Hpc.out])
            by_cases hlt1 : nth p yr.f.toNat < 1099511627776
            · gi_wp2_with (with_reducible refine holdLoad 87 _ rfl ?_)
              unfold Held
              refine wpListIn_load rfl 87 (.tmp 45) rfl _ _ rfl (load87_pre HI.out.1 Hp.out) ?_
              gi_wp2_with fail
              refine ⟨trivial, ?_⟩
              refine (CallsIn.inRound l (callsIn_wide.2 (keep59 p yr.f yr.t yr.m W Hp.out ⟨hf0, hf1⟩ ⟨ht0, ht1⟩ ⟨hm0, hm1⟩ Hpb.out))).mono ?_
              rintro e w1 ⟨rfl, hb1⟩
              have hGW : G < W.heap.size := lt_of_block HI.out.1
              have hBxW : Bx < W.heap.size := lt_of_block Hbx.out
              have d0 := ((bcell hb1).1 Bx 0 hBxW).trans c0
              have d1 := ((bcell hb1).1 Bx 1 hBxW).trans c1
              have d2 := ((bcell hb1).1 Bx 2 hBxW).trans c2
              have gF1 := ((bcell hb1).1 G yr.f.toNat hGW).trans gF
              have gT1 := ((bcell hb1).1 G yr.t.toNat hGW).trans gT
              have Hblk1 := Lib.hid ((hb1.block G hGW).trans HI.out.1)
              have Hcame1 := Lib.hid (HI.out.2.1.kept (grown_of_below hb1) (by simp))
              have Hbut1 := Lib.hid (HI.out.2.2.below hb1)
              have Hb1 := Lib.hid hb1
              have fT1 : w1.frozen? ⟨G, yr.t.toNat, none⟩ = false := frozen_of_row w1 G _ _ _ Hblk1.out
              have g21 : w1.cell? ⟨G, 21, none⟩ = some (.map (some M)) := by rw [cell_of_row w1 G _ _ _ _ Hblk1.out, fv_map _ _ Hp.out]
              clear hb1 c0 c1 c2 gF gT hGW hBxW
              cases hq : decide (nth p yr.t.toNat ≤ nth p yr.f.toNat + yr.m) with
              | true =>
                have Hq := Lib.hid (show keep p yr = true from hq)
                clear hq
                gi_wp2_with fail
                refine ⟨KeepsFrom.of_grownBy (grown_of_below Hb1.out) (fun j e => by cases e), KeepB.of_below Hb1.out (fun j hj => ?_), ?_⟩
                · have := reads4_lt HviewL.out HboxL.out Hcv.out HrL.out hN1 j hj
                  have := HI.out.2.2.size
                  omega
                · show w1.heap[G]? = some (.cells (fv (fold s (pre ++ [⟨(yk, yr), hyk, HF.out⟩])).1 M) 97 (0, 0)) ∧ CameAt w1 M (fold s (pre ++ [⟨(yk, yr), hyk, HF.out⟩])).2 (nn + (pre ++ [(⟨(yk, yr), hyk, HF.out⟩ : Item)]).length) ∧ But G M WL w1
                  rw [Hsnoc.out]
                  unfold relax
                  rw [if_neg (fun h => by rw [Hq.out] at h; cases h.2)]
                  exact ⟨Hblk1.out, Hcame1.out.mono (by simp), Hbut1.out⟩
              | false =>
                have Hq := Lib.hid (show keep p yr = false from hq)
                clear hq
                gi_wp2_with fail
                have hf2 : yr.f < 21 := by omega
                have ht2 : yr.t < 21 := by omega
                refine region_still_tail_in (openF_round l) 12 (by kernel_rfl) (by kernel_rfl) (by rfl) ?_
                simp only [List.take_succ_cons, List.take_zero, List.drop_succ_cons, List.drop_zero]
                still_step
                still_step
                still_step
                still_step
                still_step
                still_step
                still_step
                still_step
                still_step
                still_step
                still_step
                still_step
                refine wpStill_nil ?_
                refine wpListIn_store (w' := w1.drew.setCell ⟨G, yr.t.toNat, none⟩ (.int .i64 (nth p yr.f.toNat + yr.m))) rfl 2 (.tmp 62) (.tmp 60) rfl _ _ rfl rfl (by
                  have hwr : IntKind.i64.wrap (nth p yr.f.toNat + yr.m) = nth p yr.f.toNat + yr.m := IntWalk.i64_in _ (by omega)
                  go_simp) ?_
                have hBG : Bx ≠ G := by have := HGl.out; omega
                have hMl : M < W.heap.size := HI.out.2.1.lt
                have hdr : w1.grownBy w1.drew none := ⟨rfl, rfl, rfl, Nat.le_refl _, fun _ _ _ => rfl⟩
                have Hgr2 := Lib.hid (grown_setCell w1.drew G yr.t.toNat (.int .i64 (nth p yr.f.toNat + yr.m)))
                obtain ⟨W2, hW2⟩ : ∃ W2, w1.drew.setCell ⟨G, yr.t.toNat, none⟩ (.int .i64 (nth p yr.f.toNat + yr.m)) = W2 := ⟨_, rfl⟩
                have Hblk2 := Lib.hid (show W2.heap[G]? = some (.cells (fv (p.set yr.t.toNat (nth p yr.f.toNat + yr.m)) M) 97 (0, 0)) by
                  rw [← hW2, heap_setCell_same w1.drew G yr.t.toNat _ _ _ Hblk1.out, fv_set _ _ _ (by rw [Hp.out]; omega)])
                rw [hW2] at Hgr2 ⊢
                have Hcame2 := Lib.hid (show CameAt W2 M cm (nn + pre.length) from (Hcame1.out.kept hdr (by simp)).kept Hgr2.out (by intro e; injection e with e; exact HGM.out e.symm))
                have Hbut2 := Lib.hid (show But G M WL W2 from (Hbut1.out.grown hdr (fun r e => by cases e)).grown Hgr2.out (fun r e => by injection e with e; exact .inl e.symm))
                have Hkf2 := Lib.hid (show KeepsFrom WL.heap.size W W2 from ((KeepsFrom.of_grownBy (grown_of_below Hb1.out) (fun j e => by cases e)).trans (KeepsFrom.of_grownBy hdr (fun j e => by cases e))).trans (KeepsFrom.of_grownBy Hgr2.out (fun j e => by injection e with e; have := HGl.out; omega)))
                have e1 : W2.cell? ⟨Bx, 1, none⟩ = some (.int .i64 yr.t) := (World.cell?_of_block (w := w1) ((Hgr2.out.block Bx (by have := lt_of_cell d1; exact this) (fun e => hBG (by injection e))))).trans d1
                have e21 : W2.cell? ⟨G, 21, none⟩ = some (.map (some M)) := by rw [cell_of_row W2 G _ _ _ _ Hblk2.out, fv_map _ _ (by rw [List.length_set]; exact Hp.out)]
                clear hW2 d0 d1 d2 gF1 gT1 fT1 g21
                gi_wp2_with (with_reducible refine holdUpd 95 _ _ _ rfl ?_)
                unfold Held
                refine wpListIn_came_put rfl (.tmp 64) (.tmp 66) (.tmp 67) rfl M (nn + pre.length) cm rfl Hcame2.out (by have := HR.out.hnn; omega) yr.t yk ⟨ht0, ht1⟩ ⟨by omega, by omega⟩ rfl rfl ?_
                intro W3 hc3 hg3
                have Hc3 := Lib.hid hc3
                have Hg3 := Lib.hid hg3
                clear hc3 hg3 e1 e21
                gi_wp2_with fail
                refine ⟨Hkf2.out.trans (KeepsFrom.of_grownBy Hg3.out (fun j e => by injection e with e; have := HMl.out; omega)), ⟨Nat.le_trans Hkf2.out.size Hg3.out.size, fun j hj => ?_⟩, ?_⟩
                · have h1 := reads4_lt HviewL.out HboxL.out Hcv.out HrL.out hN1 j hj
                  have h2 := HI.out.2.2
                  have h3 : j ≠ G ∧ j ≠ M := by
                    have g1 := HG.out
                    have g2 := HM.out
                    have g3 := lt_of_block HR.out.hblk
                    rcases hj with rfl | rfl | ⟨hl, rfl⟩ | ⟨o, ho⟩
                    · exact ⟨by omega, by omega⟩
                    · exact ⟨by omega, by omega⟩
                    · rcases Hview.out with ⟨_, h4, _⟩ | ⟨_, _, h4⟩
                      · exact absurd h4 hl
                      · have := lt_of_cell h4
                        exact ⟨by omega, by omega⟩
                    · obtain ⟨b, o', e, hc⟩ := Hr.out.2 hN1
                      rw [ho] at e
                      cases e
                      have := lt_of_cell (hc 0 hN1).1
                      exact ⟨by omega, by omega⟩
                  rw [(Hbut2.out.grown Hg3.out (fun r e => by injection e with e; exact .inr (.inl e.symm))).block j h1 h3.1 h3.2, h2.block j h1 h3.1 h3.2]
                · show W3.heap[G]? = some (.cells (fv (fold s (pre ++ [⟨(yk, yr), hyk, HF.out⟩])).1 M) 97 (0, 0)) ∧ CameAt W3 M (fold s (pre ++ [⟨(yk, yr), hyk, HF.out⟩])).2 (nn + (pre ++ [(⟨(yk, yr), hyk, HF.out⟩ : Item)]).length) ∧ But G M WL W3
                  rw [Hsnoc.out]
                  unfold relax
                  rw [if_pos ⟨hlt1, Hq.out⟩]
                  exact ⟨(Hg3.out.block G (lt_of_block Hblk2.out) (fun e => HGM.out (by injection e))).trans Hblk2.out, Hc3.out.mono (by simp; omega), Hbut2.out.grown Hg3.out (fun r e => by injection e with e; exact .inr (.inl e.symm))⟩
            · gi_wp2_with fail
              refine ⟨trivial, ?_⟩
              gi_wp2_with fail
              refine ⟨KeepsFrom.refl _ _, KeepB.refl _ _, ?_⟩
              show W.heap[G]? = some (.cells (fv (fold s (pre ++ [⟨(yk, yr), hyk, HF.out⟩])).1 M) 97 (0, 0)) ∧ CameAt W M (fold s (pre ++ [⟨(yk, yr), hyk, HF.out⟩])).2 (nn + (pre ++ [(⟨(yk, yr), hyk, HF.out⟩ : Item)]).length) ∧ But G M WL W
              rw [Hsnoc.out]
              unfold relax
              rw [if_neg (fun h => by have := h.1; simp only at this; omega)]
              exact ⟨HI.out.1, HI.out.2.1.mono (by simp), HI.out.2.2⟩
          case done =>
            rintro D xs W hD rfl ⟨hblk, hcame, hbut⟩ hmD
            have hN2 : ws.length = N := Hr.out.1
            have hxs := fold_items high ws s (by omega) Hfit.out
            rw [hN2] at hxs
            obtain ⟨q, cq, hq⟩ : ∃ q cq, sweep high 0 ws s = (q, cq) := ⟨_, _, rfl⟩
            have hwN := fold_within (items high ws N) HR.out.hw
            rw [hxs, hq, items_length] at hwN
            rw [hxs, hq] at hblk hcame
            rw [items_length] at hcame
            have HblkW := Lib.hid hblk
            have HcameW := Lib.hid hcame
            have HbutW := Lib.hid hbut
            have HmD := Lib.hid hmD
            have HwN := Lib.hid hwN
            have Hsw := Lib.hid hq
            have HDl := Lib.hid hD
            have hq21 : q.length = 21 := hwN.1
            have Hq21 := Lib.hid hq21
            have Hs21 := Lib.hid (show s.1.length = 21 from HR.out.hw.1)
            have HbfW := Lib.hid (show W.heap[wq.heap.size]? = some (.cells (pv s.1) 87 (0, 0)) from (HbutW.out.block wq.heap.size (by have := HszL.out; omega) (by have := lt_of_block HR.out.hblk; omega) (by have := HR.out.hcame.lt; omega)).trans Hbf.out)
            have hGl4 : G < W4.heap.size := by have := Hsz.out; have := HG.out; omega
            have hMl4 : M < W4.heap.size := by have := Hsz.out; have := HM.out; omega
            have HbutA := Lib.hid (show But G M W4 W from ((HR.out.hbut.below HbL.out).trans_ HbutW.out))
            have HresW0 := Lib.hid (show W.heap[w.heap.size + 1]? = W4.heap[w.heap.size + 1]? from HbutA.out.block _ (by have := Hsz.out; omega) (by have := HG.out; omega) (by have := HM.out; omega))
            have HmarksA := Lib.hid (show MarksOk W W4.heap.size (D :: Ds) by
              obtain ⟨h1, h2⟩ := HR.out.hmarks
              refine ⟨List.nodup_cons.2 ⟨fun hm => ?_, h1⟩, fun E hE => ?_⟩
              · have := lt_of_block (h2 D hm).2
                have := HszL.out
                omega
              · rcases List.mem_cons.1 hE with rfl | hE
                · exact ⟨by have := HR.out.hbut.size; have := HszL.out; omega, HmD.out⟩
                · have h3 := lt_of_block (h2 E hE).2
                  have h4 := (h2 E hE).1
                  refine ⟨h4, ?_⟩
                  rw [HbutW.out.block E (by have := HszL.out; omega) (by omega) (by omega), HbL.out.block E h3]
                  exact (h2 E hE).2)
            clear hblk hcame hbut hmD hwN hq hxs hq21 hN2 hD hGl4 hMl4
            gi_wp2_with (with_reducible refine holdLoad 87 _ rfl ?_)
            unfold Held
            refine wpListIn_load rfl 87 (.tmp 68) rfl _ _ rfl (load87_pre HblkW.out Hq21.out) ?_
            gi_wp2_with (with_reducible refine holdLoad 87 _ rfl ?_)
            unfold Held
            refine wpListIn_load rfl 87 (.tmp 10) rfl _ _ rfl (load87 HbfW.out Hs21.out) ?_
            have hE : (Op.equalIn 10000 87 (.agg (pv q)) (.agg (pv s.1))).run Try.prog W = .ok (decide (q = s.1)) W := run_eqlArr 9998 W q s.1 Hq21.out Hs21.out
            by_cases hqs : q = s.1
            · have Hqs := Lib.hid hqs
              rw [decide_eq_true hqs] at hE
              clear hqs
              gi_wp2_with (first | (with_reducible refine holdLoad 97 _ rfl ?_) | (with_reducible refine holdStore 97 _ _ rfl ?_))
              unfold Held
              refine wpListIn_load rfl 97 (.tmp 8) rfl _ _ rfl (load97 HblkW.out Hq21.out) ?_
              have HresW := Hres.out
              rw [← HresW0.out] at HresW
              obtain ⟨W6, hst, hb6, hg6⟩ := store97 (p := q) (M := M) HresW rfl Hq21.out
              refine wpListIn_store rfl 97 (.tmp 6) (.tmp 72) rfl _ _ rfl rfl hst ?_
              clear hst HresW hE
              have Hb6 := Lib.hid hb6
              have Hg6 := Lib.hid hg6
              clear hb6 hg6
              gi_wp2_with fail
              have hsz := Hsz.out
              have hG := HG.out
              have hM := HM.out
              refine leaves64 (W4 := W4) (B := w.heap.size + 1) (q := q) (M := M) (c := cq) (nn := nn + N) (b := true) (Ds := D :: Ds) rfl rfl (by omega) Hb6.out Hq21.out ?_ (HcameW.out.kept Hg6.out (by intro e; injection e with e; omega)) (by have := HR.out.hnn; omega) (by omega) (by omega) (by omega) ?_ ?_
              · obtain ⟨h1, h2⟩ := HmarksA.out
                exact ⟨h1, fun E hE => ⟨(h2 E hE).1, (Hg6.out.block E (lt_of_block (h2 E hE).2) (fun e => by injection e with e; have := (h2 E hE).1; omega)).trans (h2 E hE).2⟩⟩
              · have hA := HbutA.out
                have h1 := HB4.out.trans (⟨hA.os, hA.tape, hA.output, hA.size, fun j hj => hA.block j (by omega) (by omega) (by omega)⟩ : Below w.heap.size W4 W)
                exact h1.trans ⟨Hg6.out.os, Hg6.out.tape, Hg6.out.output, Hg6.out.size, fun j hj => Hg6.out.block j (by have := hA.size; omega) (fun e => by injection e with e; omega)⟩
              · rw [HR.out.hs, show T + 1 - k = (T + 1 - (k + 1)) + 1 by omega, rounds, Hsw.out, if_pos Hqs.out]
            · have Hqs := Lib.hid hqs
              rw [decide_eq_false hqs] at hE
              clear hqs
              gi_wp2_with fail
              refine ⟨⟨rfl, rfl, rfl, rfl, rfl, rfl, k + 1, (q, cq), nn + N, D :: Ds, by rw [show ((k + 1 : Nat) : Int) = (k : Int) + 1 by omega]; rfl, rfl, ⟨by omega, ?_, HwN.out.mono (by omega), HblkW.out, HcameW.out, by have := HR.out.hnn; omega, ?_, HbutA.out⟩⟩, ?_⟩
              · rw [HR.out.hs, show T + 1 - k = (T + 1 - (k + 1)) + 1 by omega, rounds, Hsw.out, if_neg Hqs.out]
              · exact HmarksA.out
              · show T + 1 - (intOf (.int .i64 ((k : Int) + 1))).toNat < T + 1 - (intOf (.int .i64 (k : Int))).toNat
                simp only [intOf]
                omega
          case stop =>
            rintro D c pre W _ _ h _
            exact h.elim
        · obtain rfl : k = T + 1 := by have := HR.out.hk; omega
          gi_wp2_with (first | (with_reducible refine holdLoad 97 _ rfl ?_) | (with_reducible refine holdStore 97 _ _ rfl ?_))
          unfold Held
          refine wpListIn_load rfl 97 (.tmp 8) rfl _ _ rfl (load97 HR.out.hblk HR.out.hw.1) ?_
          have hsz := Hsz.out
          have hG := HG.out
          have hM := HM.out
          have HresW := (HR.out.hbut.block (w.heap.size + 1) (by omega) (by omega) (by omega)).trans Hres.out
          obtain ⟨W6, hst, hb6, hg6⟩ := store97 (p := s.1) (M := M) HresW rfl HR.out.hw.1
          refine wpListIn_store rfl 97 (.tmp 6) (.tmp 74) rfl _ _ rfl rfl hst ?_
          clear hst HresW
          have Hb6 := Lib.hid hb6
          have Hg6 := Lib.hid hg6
          clear hb6 hg6 hsz hG hM
          gi_wp2_with fail
          have hsz := Hsz.out
          have hG := HG.out
          have hM := HM.out
          refine leaves64 (W4 := W4) (B := w.heap.size + 1) (q := s.1) (M := M) (c := s.2) (nn := nn) (b := false) (Ds := Ds) rfl rfl (by omega) Hb6.out HR.out.hw.1 ?_ (HR.out.hcame.kept Hg6.out (by intro e; injection e with e; omega)) (by have := HR.out.hnn; omega) (by omega) (by omega) (by omega) ?_ ?_
          · obtain ⟨h1, h2⟩ := HR.out.hmarks
            exact ⟨h1, fun E hE => ⟨(h2 E hE).1, (Hg6.out.block E (lt_of_block (h2 E hE).2) (fun e => by injection e with e; have := (h2 E hE).1; omega)).trans (h2 E hE).2⟩⟩
          · have hA := HR.out.hbut
            have h1 := HB4.out.trans (⟨hA.os, hA.tape, hA.output, hA.size, fun j hj => hA.block j (by omega) (by omega) (by omega)⟩ : Below w.heap.size W4 wq)
            exact h1.trans ⟨Hg6.out.os, Hg6.out.tape, Hg6.out.output, Hg6.out.size, fun j hj => Hg6.out.block j (by have := hA.size; omega) (fun e => by injection e with e; omega)⟩
          · rw [HR.out.hs, Nat.sub_self, rounds]
end Go.Proofs.Ytiankphkemakeaa
