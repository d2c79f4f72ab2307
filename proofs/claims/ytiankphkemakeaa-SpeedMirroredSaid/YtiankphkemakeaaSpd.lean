/- The contract of the program's CheckSpeeds. -/
import Derived.Test.YtiankphkemakeaaPace
import Derived.Laws.CopyOwn
namespace Go.Proofs.Ytiankphkemakeaa
set_option linter.unusedSimpArgs false
set_option linter.unusedVariables false
open Go.RowKit

/-- Speeds as an array: that of the turn 0 in front. -/
def paceOf (vs : List Int) : List Int := 0 :: (vs ++ List.replicate (20 - vs.length) 0)
theorem paceOf_length (vs : List Int) (h : vs.length ≤ 20) : (paceOf vs).length = 21 := by simp [paceOf]; omega
theorem paceOf_zero (vs : List Int) : nth (paceOf vs) 0 = 0 := rfl
theorem paceOf_succ (vs : List Int) (k : Nat) (h : k < vs.length) : nth (paceOf vs) (k + 1) = nth vs k := by
  simp [paceOf, nth, List.getD, List.getElem?_append_left h]
theorem paceOf_tame (vs : List Int) (h : within 0 100000 vs = true) : ∀ i, 0 ≤ nth (paceOf vs) i ∧ nth (paceOf vs) i ≤ 100000 := by
  intro i
  have hm : ∀ x ∈ paceOf vs, 0 ≤ x ∧ x ≤ 100000 := by
    intro x hx
    simp only [paceOf, List.mem_cons, List.mem_append, List.mem_replicate] at hx
    rcases hx with rfl | hx | ⟨_, rfl⟩
    · omega
    · have := List.all_eq_true.1 h x hx
      simpa using this
    · omega
  unfold nth
  rcases Nat.lt_or_ge i (paceOf vs).length with hl | hl
  · have := hm _ (List.getElem_mem hl)
    simpa [List.getD, List.getElem?_eq_getElem hl] using this
  · simp [List.getD, List.getElem?_eq_none hl]

theorem splice_pace (vs : List Int) (h : vs.length ≤ 20) : splice (List.replicate 21 (Value.int .i64 0)) 1 (vs.map (Value.int .i64)) = (paceOf vs).map (Value.int .i64) := by
  unfold splice paceOf
  simp only [List.length_map, List.map_cons, List.map_append, List.map_replicate, List.drop_replicate]
  rw [show 21 - (1 + vs.length) = 20 - vs.length by omega]
  rfl

/-- What CheckSpeeds returns. -/
def checkSpeeds (T : Int) (rs : List R) (vs : List Int) : Int :=
  if chk T rs ≠ 0 then chk T rs else
  if (vs.length : Int) ≠ T then 15 else
  if within 0 100000 vs then
    if rs.all (keep (paceOf vs)) then 0 else 17
  else 3

theorem fit_of_chk {T : Int} {rs : List R} (he : chk T rs = 0) : ∀ r ∈ rs, FitR r := by
  intro r hr
  obtain ⟨_, _, _, hall⟩ := chk_ok he
  have := (chkR_iff _ _).1 (List.all_eq_true.1 hall r hr)
  unfold FitR
  omega

theorem ints_news {w : World} {b o n : Nat} {zs : List Int} (h : Ints w (some ⟨b, o, none⟩) n zs) : ∀ j v, (zs.map (Value.int .i64))[j]? = some v → w.cell? ((⟨b, o, none⟩ : Addr).add j) = some v := by
  intro j v hv
  obtain ⟨hl, hc⟩ := h
  have hj : j < zs.length := by
    have := (List.getElem?_eq_some_iff.1 hv).1
    simpa using this
  obtain ⟨b', o', e, hc⟩ := hc (by omega)
  cases e
  rw [Addr.add_lit, hc j (by omega), ← hv]
  simp [nth_eq zs j hj, hj]

theorem cell_pv {w : World} {B : Nat} {t : TypeId} {p : List Int} (h : w.heap[B]? = some (.cells (pv p) t (0, 0))) (i : Nat) (hi : i < p.length) : w.cell? ⟨B, i, none⟩ = some (.int .i64 (nth p i)) := by
  rw [cell_of_row w B i _ _ _ h, pv_at p i hi]
/-- An array that lies in a block is read whole. -/
theorem load87 {w : World} {B : Nat} {t : TypeId} {p : List Int} (h : w.heap[B]? = some (.cells (pv p) t (0, 0))) (hp : p.length = 21) :
    (Instr.loadAt 87 (.pointer (some ⟨B, 0, none⟩))).run Try.prog w = .ok (.agg (pv p)) w :=
  run_loadAt_mid w B 0 87 (p.map (Value.int .i64)) (.array 21 2) (fun j v hv => by
    rw [Nat.zero_add, cell_of_row w B j _ _ _ h]; simpa [pv] using hv) Try.underlying87 rfl (by rw [List.length_map, hp]; kernel_rfl)

theorem wpList_load87 {ops : Array Oper} {rest : List Oper} {o : Oper} {a : Act} {w : World} {Q : Exit → Act → World → Prop} (hgd : o.guard = none) (x : Operand) (ho : o.op = .load 87 x)
    (B : Nat) (hx : a.eval x = .pointer (some ⟨B, 0, none⟩)) (t : TypeId) (p : List Int) (hg : w.heap[B]? = some (.cells (pv p) t (0, 0))) (hp : p.length = 21)
    (h : wpList Try.prog ops Q rest (a.put o.dst (.agg (pv p))) w) : wpList Try.prog ops Q (o :: rest) a w :=
  wpList_load_mid hgd 87 x ho B 0 hx (p.map (Value.int .i64)) (.array 21 2) (fun j v hv => by
    rw [Nat.zero_add, cell_of_row w B j _ _ _ hg]; simpa [pv] using hv) Try.underlying87 rfl (by rw [List.length_map, hp]; kernel_rfl) h

theorem new21 (W : World) : (W.alloc (.cells #[.int .i64 0, .int .i64 0, .int .i64 0, .int .i64 0, .int .i64 0, .int .i64 0, .int .i64 0, .int .i64 0, .int .i64 0, .int .i64 0, .int .i64 0, .int .i64 0, .int .i64 0, .int .i64 0, .int .i64 0, .int .i64 0, .int .i64 0, .int .i64 0, .int .i64 0, .int .i64 0, .int .i64 0] 87)).heap[W.heap.size]? = some (.cells (List.replicate 21 (Value.int .i64 0)).toArray 87 (0, 0)) := heap_alloc_new W _
theorem copy_src {W : World} {C : Option Addr} {m : Nat} {vs : List Int} (B : Nat) (hk : Ints W C m vs) : 0 < (vs.map (Value.int .i64)).length → (some (⟨B, 1, none⟩ : Addr)) = some ⟨B, 1, none⟩ ∧ ∃ ad, C = some ad ∧ ∀ j v, (vs.map (Value.int .i64))[j]? = some v → W.cell? (ad.add j) = some v := fun hp => by
  refine ⟨rfl, ?_⟩
  obtain ⟨b, o, rfl, _⟩ := hk.2 (by simp at hp; have := hk.1; omega)
  exact ⟨_, rfl, ints_news hk⟩

set_option maxHeartbeats 400000 in
theorem checkSpeeds21_bad (A C : Option Addr) (n cap m capm : Nat) (T : Int) (rs : List R) (vs : List Int) (w : World) (h : Rules w A n rs) (hn : n ≤ 140737488355328) (he : chk T rs ≠ 0) :
    Calls Try.prog 21 #[.agg #[.int .i64 T, .slice A n cap], .slice C m capm] w fun e w' => e = .returned (.int .i64 (checkSpeeds T rs vs)) ∧ Below w.heap.size w w' := by
  have HB0 := Lib.hid (show Below w.heap.size w (w.alloc (.cells #[.int .i64 T, .slice A n cap] 24)) from (Below.refl _ _).alloc (Nat.le_refl _) _)
  have H0 := Lib.hid (h.below HB0.out (Nat.le_refl _))
  have he2 : (chk T rs != 0) = true := by rw [bne_iff_ne]; exact he
  have Hm := Lib.hid (show checkSpeeds T rs vs = chk T rs by unfold checkSpeeds; rw [if_pos he])
  clear h he
  go_enter Try.func21, Try.ntmps21
  go_wp2_with fail
  refine (checkSheet18 A n cap rs T _ H0.out hn).mono ?_
  rintro e w1 ⟨rfl, hb⟩
  have Hb := Lib.hid hb
  clear hb
  go_wp2_with fail
  go_ret
  exact ⟨by rw [Hm.out]; rfl, HB0.out.trans (Hb.out.mono (by simp))⟩

set_option maxRecDepth 100000 in
set_option maxHeartbeats 1000000 in
theorem checkSpeeds21_ok (A C : Option Addr) (n cap T m capm : Nat) (rs : List R) (vs : List Int) (w : World) (h : Rules w A n rs) (hk : Ints w C m vs) (hm : m ≤ 1000) (he : chk T rs = 0) :
    Calls Try.prog 21 #[.agg #[.int .i64 (T : Int), .slice A n cap], .slice C m capm] w fun e w' => e = .returned (.int .i64 (checkSpeeds T rs vs)) ∧ Below w.heap.size w w' := by
  obtain ⟨hl60, hT1, hT20, _⟩ := chk_ok he
  have hn60 : n ≤ 60 := by rw [← h.1]; exact hl60
  have Hm := Lib.hid (show checkSpeeds T rs vs = if (m : Int) ≠ (T : Int) then 15 else if within 0 100000 vs then (if rs.all (keep (paceOf vs)) then 0 else 17) else 3 by unfold checkSpeeds; rw [if_neg (by simpa using he), hk.1])
  have HB0 := Lib.hid (show Below w.heap.size w (w.alloc (.cells #[.int .i64 (T : Int), .slice A n cap] 24)) from (Below.refl _ _).alloc (Nat.le_refl _) _)
  have H0 := Lib.hid (h.below HB0.out (Nat.le_refl _))
  have Hk0 := Lib.hid (hk.below HB0.out (Nat.le_refl _))
  have He := Lib.hid he
  clear h hk he
  go_enter Try.func21, Try.ntmps21
  go_wp2_with fail
  refine (checkSheet18 A n cap rs T _ H0.out (by omega)).mono ?_
  rintro e w1 ⟨rfl, hb⟩
  rw [He.out]
  have hz : w.heap.size < w1.heap.size := by have := hb.size; simp at this; omega
  have c0 : w1.cell? ⟨w.heap.size, 0, none⟩ = some (.int .i64 (T : Int)) := by rw [(bcell hb).1 _ _ (by simp)]; go_simp
  have c1 : w1.cell? ⟨w.heap.size, 1, none⟩ = some (.slice A n cap) := by rw [(bcell hb).1 _ _ (by simp)]; go_simp
  have H1 := Lib.hid (H0.out.below hb (Nat.le_refl _))
  have Hk1 := Lib.hid (Hk0.out.below hb (Nat.le_refl _))
  have Hb := Lib.hid (HB0.out.trans (hb.mono (by simp)))
  clear hb
  by_cases hmT : m = T
  · have hmT2 : ((m : Int) != (T : Int)) = false := by rw [bne_eq_false_iff_eq]; omega
    have HmT := Lib.hid hmT
    clear hmT
    go_wp2_with fail
    refine (within56 C m capm vs 0 100000 _ Hk1.out (by omega)).mono ?_
    rintro e w2 ⟨rfl, rfl⟩
    cases hq : within 0 100000 vs with
    | false =>
      have Hq := Lib.hid hq
      clear hq
      go_wp2_with fail
      go_ret
      exact ⟨ret_int (by rw [Hm.out, if_neg (by rw [HmT.out]; simp), Hq.out]; rfl), Hb.out⟩
    | true =>
      have Hq := Lib.hid hq
      clear hq
      have hm20 : m ≤ 20 := by have := HmT.out; omega
      have hlen := Hk1.out.1
      have Hlen := Lib.hid hlen
      have Hk2 := Lib.hid (Hk1.out.below ((Below.refl _ w1).alloc (Nat.le_refl _) (.cells #[.int .i64 0, .int .i64 0, .int .i64 0, .int .i64 0, .int .i64 0, .int .i64 0, .int .i64 0, .int .i64 0, .int .i64 0, .int .i64 0, .int .i64 0, .int .i64 0, .int .i64 0, .int .i64 0, .int .i64 0, .int .i64 0, .int .i64 0, .int .i64 0, .int .i64 0, .int .i64 0, .int .i64 0] 87)) (Nat.le_refl _))
      clear hlen
      go_wp2_with (first | ((with_reducible refine wpList_load87 rfl (.tmp 6) rfl w1.heap.size rfl 87 (paceOf vs) HG3.out (paceOf_length vs (by rw [Hlen.out]; exact hm20)) ?_)) | ((with_reducible refine wpList_copy_splice rfl (.tmp 20) (.tmp 21) 25 25 rfl 2 Try.underlying25 (by kernel_rfl) _ _ 20 20 m capm rfl rfl w1.heap.size 1 _ 87 (new21 _) (vs.map (Value.int .i64)) (by rw [List.length_map, Hlen.out]; exact (Nat.min_eq_left hm20).symm) (copy_src _ Hk2.out) (by rw [List.length_map, Hlen.out, List.length_replicate]; omega) (ints_oneCell _ _) w1.heap.size w1 ((Below.refl _ _).alloc (Nat.le_refl _) _) (Nat.le_refl _) ?_); intro w2 HG2 hb2; have e1 := ((bcell hb2).1 _ _ hz).trans c1; have HG3 := Lib.hid (show w2.heap[w1.heap.size]? = some (.cells (pv (paceOf vs)) 87 (0, 0)) by rw [HG2.out, splice_pace vs (by rw [Hlen.out]; exact hm20)]; rfl); have Hb2 := Lib.hid hb2; clear hb2))
      refine (every58 (paceOf vs) A n cap rs _ (H1.out.below Hb2.out (Nat.le_refl _)) (by omega) (paceOf_length vs (by rw [Hlen.out]; exact hm20)) (fun i => by have := paceOf_tame vs Hq.out i; omega) (fit_of_chk He.out)).mono ?_
      rintro e w3 ⟨rfl, hb3⟩
      have Hb3 := Lib.hid ((Hb.out.trans (Hb2.out.mono (by omega))).trans (hb3.mono (by have := Hb2.out.size; omega)))
      clear hb3
      cases hq3 : rs.all (keep (paceOf vs)) with
      | false =>
        have Hq3 := Lib.hid hq3
        clear hq3
        go_wp2_with fail
        go_ret
        exact ⟨ret_int (by rw [Hm.out, if_neg (by rw [HmT.out]; simp), Hq.out, Hq3.out]; rfl), Hb3.out⟩
      | true =>
        have Hq3 := Lib.hid hq3
        clear hq3
        go_wp2_with fail
        go_ret
        exact ⟨ret_int (by rw [Hm.out, if_neg (by rw [HmT.out]; simp), Hq.out, Hq3.out]; rfl), Hb3.out⟩
  · have hmT2 : ((m : Int) != (T : Int)) = true := by rw [bne_iff_ne]; omega
    have HmT := Lib.hid hmT
    clear hmT
    go_wp2_with fail
    go_ret
    exact ⟨ret_int (by rw [Hm.out, if_pos (by have := HmT.out; omega)]), Hb.out⟩

theorem checkSpeeds21 (A C : Option Addr) (n cap m capm : Nat) (T : Int) (rs : List R) (vs : List Int) (w : World) (h : Rules w A n rs) (hk : Ints w C m vs) (hn : n ≤ 140737488355328) (hm : m ≤ 1000) :
    Calls Try.prog 21 #[.agg #[.int .i64 T, .slice A n cap], .slice C m capm] w fun e w' => e = .returned (.int .i64 (checkSpeeds T rs vs)) ∧ Below w.heap.size w w' := by
  by_cases he : chk T rs = 0
  · obtain ⟨_, hT1, _, _⟩ := chk_ok he
    obtain ⟨k, rfl⟩ := Int.eq_ofNat_of_zero_le (show 0 ≤ T by omega)
    exact checkSpeeds21_ok A C n cap k m capm rs vs w h hk hm he
  · exact checkSpeeds21_bad A C n cap m capm T rs vs w h hn he

end Go.Proofs.Ytiankphkemakeaa
