/- Stage 2: the first one that is good. -/
import Derived.Test.YtfmcfalghbaanaaTop
namespace Go.Proofs.Ytfmcfalghbaanaa
set_option linter.unusedSimpArgs false
set_option linter.unusedVariables false
open Go.RowKit Go.Shelf
attribute [local go_sem] Oper.semAt_some

/-- A step as what is yielded. -/
def stV (s : St) : Array Value := #[.agg #[.int .i64 s.p, .bool s.turned]]
set_option maxRecDepth 100000 in
theorem values68 (C : Option Addr) (m k : Nat) (w : World) :
    Calls Try.prog 68 #[.slice C m k] w fun e w' => e = .returned (.func (.func 75) #[] #[.pointer (some ⟨w.heap.size, 0, none⟩)]) ∧ w' = w.alloc (.cells #[.slice C m k] 29) := by
  go_enter Try.func68, Try.ntmps68
  go_wp2_with fail
  go_ret
  exact ⟨rfl, rfl⟩

set_option maxRecDepth 100000 in
set_option maxHeartbeats 1000000 in
theorem values_seq (C : Option Addr) (m cp B : Nat) (ss : List St) (w : World) (hB : w.cell? ⟨B, 0, none⟩ = some (.slice C m cp)) (hs : Sts w C m ss) (hm : m ≤ 9223372036854775807) :
    SeqL Try.prog 75 #[.pointer (some ⟨B, 0, none⟩)] stV ss (fun k => 0 < m ∧ ∃ o, C = some ⟨k, o, none⟩) w := by
  intro l Mut J Jx W hW hMut hJ hJx hY h0
  have c0 : W.cell? ⟨B, 0, none⟩ = some (.slice C m cp) := by
    rw [keep_cells hW (lt_of_cell hB) (fun e => e)]; exact hB
  have Hlen := Lib.hid hs.1
  refine (callsIn_wide (n := 3)).1 ?_
  refine callsIn_of_wp Try.func75 rfl trivial ?_ rfl
  simp only [Try.ntmps75, List.size_toArray, List.length_cons, List.length_nil, Nat.reduceAdd, Nat.reduceSub, Array.replicate_succ, Array.replicate_zero, List.push_toArray, List.append_toArray, List.nil_append, List.cons_append]
  gi_wp2_with fail
  clear c0
  gi_loopw [7] (fun i wr => ∃ k : Nat, k ≤ m ∧ i = .int .i64 (k : Int) ∧ J (ss.take k) wr ∧ Keeps (fun k => Mut k ∨ W.heap.size ≤ k) W wr) (fun i _ => m - (intOf i).toNat)
  case atStart => exact ⟨0, Nat.zero_le _, rfl, h0, Keeps.refl _ _⟩
  case round =>
    obtain ⟨k, hk, rfl, hj, hK⟩ := hrel
    have HK := Lib.hid hK
    have HJ := Lib.hid hj
    have HY := Lib.hid hY
    have HM := Lib.hid hMut
    by_cases hlt : k < m
    · obtain ⟨b, o, rfl, hc⟩ := hs.2 (by omega)
      have hbw := lt_of_cell (hc 0 (by omega)).1
      have hkb : ∀ j, wr.cell? ⟨b, j, none⟩ = w.cell? ⟨b, j, none⟩ := fun j => by
        have h1 : wr.heap[b]? = w.heap[b]? := (hK.block b (Nat.lt_of_lt_of_le hbw hW.size) (by
          rintro (e | e)
          · exact (hMut b e).2 ⟨by omega, o, rfl⟩
          · have := hW.size; omega)).trans (hW.block b hbw (fun e => e))
        simp [World.cell?, h1]
      obtain ⟨a0, a1⟩ := hc k hlt
      rw [← hkb] at a0 a1
      clear hkb hc
      have hkl : k < ss.length := by have := Hlen.out; omega
      have hsk : sAt ss k = ss[k] := by simp [sAt, List.getD_eq_getElem?_getD, hkl]
      have hsplit : ss = ss.take k ++ ss[k] :: ss.drop (k + 1) := by
        rw [← List.drop_eq_getElem_cons hkl, List.take_append_drop]
      have htk : ss.take (k + 1) = ss.take k ++ [ss[k]] := by rw [List.take_add_one, List.getElem?_eq_getElem hkl]; rfl
      obtain ⟨x, hx⟩ : ∃ x, ss[k] = x := ⟨_, rfl⟩
      rw [hsk, hx] at a0 a1
      rw [hx] at hsplit htk
      have HT := Lib.hid htk
      have HSp := Lib.hid hsplit
      have i0 : (0 : Int) ≤ (k : Int) := by omega
      have i1 : (k : Int) < (m : Int) := by omega
      have HK1 := Lib.hid (show Keeps (fun k => Mut k ∨ W.heap.size ≤ k) W (wr.alloc (.cells #[.int .i64 x.p, .bool x.turned] 28)) from hK.trans (keep_alloc _ _ _))
      have HJ1 := Lib.hid (hJ _ _ _ hj (keep_alloc _ wr (.cells #[.int .i64 x.p, .bool x.turned] 28)))
      have hwW := hK.size
      have hy0 := hY _ _ _ (wr.alloc (.cells #[.int .i64 x.p, .bool x.turned] 28)) hsplit (by simp; omega) HJ1.out (3 - 1)
      unfold stV at hy0
      obtain ⟨fn, tmps, assign, body, hy, hR⟩ := hy0
      clear hsplit htk hK hj hY hJ hMut hs hx hsk
      gi_wp2_with fail
      refine hR.mono ?_
      rintro e W2 (⟨rfl, hj2, hK2⟩ | ⟨rfl, hj2, hK2⟩)
      · have HJ2 := Lib.hid hj2
        have HK2 := Lib.hid (HK1.out.trans (hK2.mono (fun k _ e => .inl e)))
        clear hj2 hK2 hy
        gi_wp2_with fail
        go_roundw
        case rel => exact ⟨k + 1, by omega, by go_num, by rw [HT.out]; exact HJ2.out, HK2.out⟩
        case measure => simp [intOf]; omega
      · have HJ2 := Lib.hid hj2
        clear hj2 hK2 hy
        gi_wp2_with fail
        exact bodyPost_ret (results_none rfl _ _ _) rfl ⟨⟨_, rfl⟩, .inr ⟨_, _, _, HSp.out, HJ2.out⟩⟩
    · have hkn : ss.take k = ss := List.take_of_length_le (by have := Hlen.out; omega)
      have Hkn := Lib.hid hkn
      clear hK hj hY hJ hMut hs hkn
      gi_wp2_with fail
      go_end0
      exact ⟨⟨_, rfl⟩, .inl (by have := HJ.out; rw [Hkn.out] at this; exact this)⟩
end Go.Proofs.Ytfmcfalghbaanaa
