/- Stage 3: By: a right scale by numbers. -/
import Derived.Test.YtdfdlklglbefiaaPut
import Derived.Test.YtdfdlklglbefiaaLift
import Derived.BigQuiet
import Derived.Deep.QuietTactic
namespace Go.Proofs.Ytdfdlklglbefiaa
set_option linter.unusedSimpArgs false
set_option linter.unusedVariables false
open Go.RowKit Go.Shelf

/-- What the rounds of By know. -/
structure ByI (zs : List Rg) (k : Nat) (x : List Int) : Prop where
  incr : Incr x
  rng : ∀ y ∈ x, 0 ≤ y ∧ y ≤ 10000
  met : ∀ r ∈ zs.take k, meets x r = true
  len : x.length ≤ k
theorem ByI.skip {zs : List Rg} {k : Nat} {x : List Int} (h : ByI zs k x) (hk : k < zs.length) (hm : meets x (gAt zs k) = true) : ByI zs (k + 1) x :=
  ⟨h.incr, h.rng, fun r hr => by
    rw [List.take_succ_eq_append_getElem hk] at hr
    rcases List.mem_append.1 hr with h1 | h1
    · exact h.met r h1
    · rw [List.mem_singleton.1 h1, ← gAt_eq hk]; exact hm, by have := h.len; omega⟩
theorem ByI.put {zs : List Rg} {k : Nat} {x : List Int} {v : Int} (h : ByI zs k x) (hk : k < zs.length) (hz : okZ (gAt zs k) = true) (h1 : (gAt zs k).lo ≤ v) (h2 : v ≤ (gAt zs k).hi) : ByI zs (k + 1) (putL x v) := by
  have hz2 := okZ_iff.1 hz
  refine ⟨putL_incr h.incr v, fun y hy => ?_, fun r hr => ?_, ?_⟩
  · rcases putL_mem.1 hy with rfl | hy
    · omega
    · exact h.rng y hy
  · rw [List.take_succ_eq_append_getElem hk] at hr
    rcases List.mem_append.1 hr with h3 | h3
    · obtain ⟨y, hy, a, b⟩ := meets_iff.1 (h.met r h3)
      exact meets_iff.2 ⟨y, putL_mem.2 (.inr hy), a, b⟩
    · rw [List.mem_singleton.1 h3, ← gAt_eq hk]
      exact meets_iff.2 ⟨v, putL_mem.2 (.inl rfl), h1, h2⟩
  · have := putL_len x v h.incr; have := h.len; omega
theorem ByI.fin {zs : List Rg} {x : List Int} (hz : chkS zs = 0) (h : ByI zs zs.length x) : ckSc zs x = 0 := by
  rw [ckSc_iff hz]
  refine ⟨h.incr, by have := h.len; have := len_of hz; omega, h.rng, fun r hr => h.met r (by rwa [List.take_length])⟩
set_option maxRecDepth 100000 in
set_option maxHeartbeats 40000000 in
theorem by36 (A : Option Addr) (n cap : Nat) (zs : List Rg) (C : Option Addr) (m cap2 : Nat) (us : List Int) (w : World) (h : Rgs w A n zs) (hu : IntsU w C m us) (hz : chkS zs = 0) (hm : m ≤ 9223372036854775807) :
    Calls Try.prog 36 #[.slice A n cap, .slice C m cap2] w fun en w' => ∃ x D cp, ckSc zs x = 0 ∧ en = .returned (.slice D x.length cp) ∧ x.length ≤ cp ∧ Ints w' D x.length x ∧ (∀ b o, D = some ⟨b, o, none⟩ → w.heap.size ≤ b) ∧ Below w.heap.size w w' := by
  have H := Lib.hid h
  have HU := Lib.hid hu
  have Hn := Lib.hid h.1
  have HZ := Lib.hid hz
  have hn24 : n ≤ 24 := by have := len_of hz; have := h.1; omega
  clear h hu hz
  go_enter Try.func36, Try.ntmps36
  go_wp2_with fail
  go_loopw [5, 6] (fun v i wr => ∃ k : Nat, k ≤ n ∧ i = .int .i64 (k : Int) ∧ ∃ D ln cp, v = .slice D ln cp ∧ ln ≤ cp ∧ Hid (∃ x, ln = x.length ∧ ByI zs k x ∧ Ints wr D ln x ∧ (∀ b o, D = some ⟨b, o, none⟩ → w.heap.size ≤ b) ∧ Below w.heap.size w wr)) (fun _ i _ => n - (intOf i).toNat)
  case atStart => exact ⟨0, Nat.zero_le _, rfl, none, 0, 0, rfl, Nat.le_refl _, Lib.hid ⟨[], rfl, ⟨by simp [Incr], by simp, by simp, by simp⟩, ints_nil _, by simp, Below.refl _ _⟩⟩
  case round =>
    obtain ⟨k, hk, rfl, D, ln, cp, rfl, hlc, HR⟩ := hrel
    obtain ⟨wk, rfl⟩ : ∃ wk, wk = wr := ⟨_, rfl⟩
    obtain ⟨x, hxl, hI, hi, hD, hB⟩ := HR.out
    have Hxl := Lib.hid hxl
    have HI := Lib.hid hI
    have Hi := Lib.hid hi
    have HD := Lib.hid hD
    have HB := Lib.hid hB
    have hln : ln ≤ 24 := by have := hI.len; omega
    clear hxl hI hi hD hB HR
    by_cases hlt : k < n
    · have hkl : k < zs.length := by rw [Hn.out]; exact hlt
      obtain ⟨b, oo, rfl, hc⟩ := (H.out.below HB.out (Nat.le_refl _)).2 (by omega)
      obtain ⟨x0, x1⟩ := hc k hlt
      have Hzk := Lib.hid (show okZ (gAt zs k) = true from List.all_eq_true.1 (chkS_ok HZ.out).1 _ (by rw [gAt_eq hkl]; exact List.getElem_mem _))
      obtain ⟨g, hg⟩ : ∃ g, gAt zs k = g := ⟨_, rfl⟩
      rw [hg] at x0 x1 Hzk
      have Hg := Lib.hid hg
      obtain ⟨z0, z1, z2⟩ := okZ_iff.1 Hzk.out
      have i0 : (0 : Int) ≤ (k : Int) := by omega
      have i1 : (k : Int) < (n : Int) := by omega
      clear hc hg
      go_wp2_with fail
      refine (meets38 g D ln cp x wk Hi.out (by omega)).mono ?_
      rintro en w3 ⟨rfl, hb⟩
      replace HB := Lib.hid (HB.out.trans (hb.mono HB.out.size))
      replace Hi := Lib.hid (Hi.out.below hb (Nat.le_refl _))
      replace x0 := (hb.cell (p := ⟨b, oo + k * 2, none⟩) (lt_of_cell x0)).trans x0
      replace x1 := (hb.cell (p := ⟨b, oo + k * 2 + 1, none⟩) (lt_of_cell x1)).trans x1
      clear hb
      obtain ⟨mm, hmm⟩ : ∃ mm, meets x g = mm := ⟨_, rfl⟩
      rw [hmm]
      have Hmm := Lib.hid hmm
      clear hmm
      cases mm with
      | true =>
        go_wp2_with fail
        go_roundw
        case rel => exact ⟨k + 1, by omega, by go_num, D, ln, cp, rfl, hlc, Lib.hid ⟨x, Hxl.out, HI.out.skip hkl (by rw [Hg.out]; exact Hmm.out), Hi.out, HD.out, HB.out⟩⟩
        case measure => simp [intOf]; omega
      | false =>
        by_cases hm0 : 0 < m
        · have d0 : (0 : Int) < (m : Int) := by omega
          obtain ⟨j, hj⟩ : ∃ j : Nat, k % m = j := ⟨_, rfl⟩
          have hjm : j < m := by rw [← hj]; exact Nat.mod_lt _ hm0
          have j0 : (0 : Int) ≤ (j : Int) := by omega
          have j1 : (j : Int) < (m : Int) := by omega
          have e1 : (k : Int) % (m : Int) = (j : Int) := by rw [← hj]; exact (Int.natCast_emod k m).symm
          have e2 : (k : Int).tmod (m : Int) = (j : Int) := by rw [Int.tmod_eq_emod_of_nonneg (by omega)]; exact e1
          obtain ⟨bu, ou, rfl, hcu⟩ := HU.out.2.2 hm0
          have hub := HU.out.2.1 j
          have y0 := (HB.out.cell (p := ⟨bu, ou + j, none⟩) (lt_of_cell (hcu j hjm))).trans (hcu j hjm)
          obtain ⟨u, hu⟩ : ∃ u, iAt us j = u := ⟨_, rfl⟩
          rw [hu] at y0 hub
          obtain ⟨hub0, hub1⟩ := hub
          have e3 : IntKind.i64.wrap (g.hi - g.lo) = g.hi - g.lo := IntWalk.i64_in _ (by omega)
          have e4 : IntKind.i64.wrap (g.hi - g.lo + 1) = g.hi - g.lo + 1 := IntWalk.i64_in _ (by omega)
          obtain ⟨r, hr⟩ : ∃ r, u % (g.hi - g.lo + 1) = r := ⟨_, rfl⟩
          have hr0 : 0 ≤ r := by rw [← hr]; exact Int.emod_nonneg _ (by omega)
          have hr1 : r < g.hi - g.lo + 1 := by rw [← hr]; exact Int.emod_lt_of_pos _ (by omega)
          have e5 : u.tmod (g.hi - g.lo + 1) = r := by rw [Int.tmod_eq_emod_of_nonneg hub0]; exact hr
          have e6 : IntKind.i64.wrap (g.lo + r) = g.lo + r := IntWalk.i64_in _ (by omega)
          have e7 : IntKind.i64.wrap u = u := IntWalk.i64_in _ (by omega)
          have e8 : IntKind.i64.wrap r = r := IntWalk.i64_in _ (by omega)
          have hcx0 : ∀ a, (w3.drewN a).cell? ⟨b, oo + k * 2, none⟩ = some (.int .i64 g.lo) := fun a => x0
          have hcx1 : ∀ a, (w3.drewN a).cell? ⟨b, oo + k * 2 + 1, none⟩ = some (.int .i64 g.hi) := fun a => x1
          have hcx2 : ∀ a, (w3.drewN a).cell? ⟨bu, ou + j, none⟩ = some (.int .u16 u) := fun a => y0
          have HR := Lib.hid (show g.lo ≤ g.lo + r ∧ g.lo + r ≤ g.hi by omega)
          have dd : (g.hi - g.lo + 1 == 0) = false := by rw [beq_eq_false_iff_ne]; omega
          have dm : ((m : Int) == 0) = false := by rw [beq_eq_false_iff_ne]; omega
          clear hj hcu hu
          go_wp2_with fail
          go_quiet (fail)
          obtain ⟨X, hX⟩ : ∃ X, g.lo + r = X := ⟨_, rfl⟩
          rw [hX] at HR
          rw [hX]
          have hbq := drew_b w3 nq
          obtain ⟨wq, hwq⟩ : ∃ wq, w3.drewN nq = wq := ⟨_, rfl⟩
          rw [hwq] at hbq
          rw [hwq]
          replace Hi := Lib.hid (Hi.out.below hbq (Nat.le_refl _))
          replace HB := Lib.hid (HB.out.trans (hbq.mono HB.out.size))
          clear hX hwq hbq e1 e2 e3 e4 e5 e6 e7 e8 hcx0 hcx1 hcx2 dd dm hr hr0 hr1 y0 x0 x1 hub0 hub1 j0 j1 hjm
          go_wp2_with fail
          refine (put59 D ln cp x X wq Hi.out HI.out.incr (by omega)).mono ?_
          rintro en w4 ⟨D4, cp4, rfl, hcp4, hi4, hD4, hb4⟩
          have HI4 := Lib.hid (HI.out.put (v := X) hkl (by rw [Hg.out]; exact Hzk.out) (by rw [Hg.out]; exact HR.out.1) (by rw [Hg.out]; exact HR.out.2))
          obtain ⟨l4, hl4⟩ : ∃ l4, (putL x X).length = l4 := ⟨_, rfl⟩
          rw [hl4] at hcp4 hi4
          rw [hl4]
          have Hl4 := Lib.hid hl4
          have Hi4 := Lib.hid hi4
          have HD4 := Lib.hid hD4
          have HB3 := Lib.hid HB.out.size
          replace HB := Lib.hid (HB.out.trans (hb4.mono HB.out.size))
          clear hl4 hi4 hD4 hb4
          go_wp2_with fail
          go_roundw
          case rel => exact ⟨k + 1, by omega, by go_num, D4, l4, cp4, rfl, hcp4, Lib.hid ⟨_, Hl4.out.symm, HI4.out, Hi4.out, fun b o e => Nat.le_trans HB3.out (HD4.out b o e), HB.out⟩⟩
          case measure => simp [intOf]; omega
        · have d0 : ¬ (0 : Int) < (m : Int) := by omega
          go_wp2_with fail
          refine (put59 D ln cp x g.lo w3 Hi.out HI.out.incr (by omega)).mono ?_
          rintro en w4 ⟨D4, cp4, rfl, hcp4, hi4, hD4, hb4⟩
          have HI4 := Lib.hid (HI.out.put (v := g.lo) hkl (by rw [Hg.out]; exact Hzk.out) (by rw [Hg.out]; exact Int.le_refl _) (by rw [Hg.out]; exact z1))
          obtain ⟨l4, hl4⟩ : ∃ l4, (putL x g.lo).length = l4 := ⟨_, rfl⟩
          rw [hl4] at hcp4 hi4
          rw [hl4]
          have Hl4 := Lib.hid hl4
          have Hi4 := Lib.hid hi4
          have HD4 := Lib.hid hD4
          have HB3 := Lib.hid HB.out.size
          replace HB := Lib.hid (HB.out.trans (hb4.mono HB.out.size))
          clear hl4 hi4 hD4 hb4
          go_wp2_with fail
          go_roundw
          case rel => exact ⟨k + 1, by omega, by go_num, D4, l4, cp4, rfl, hcp4, Lib.hid ⟨_, Hl4.out.symm, HI4.out, Hi4.out, fun b o e => Nat.le_trans HB3.out (HD4.out b o e), HB.out⟩⟩
          case measure => simp [intOf]; omega
    · have e : k = n := by omega
      subst e
      have HF := Lib.hid (show ckSc zs x = 0 from ByI.fin HZ.out (by rw [Hn.out]; exact HI.out))
      go_wp2_with fail
      go_ret
      exact ⟨x, D, cp, HF.out, by rw [← Hxl.out]; rfl, by rw [← Hxl.out]; exact hlc, by rw [← Hxl.out]; exact Hi.out, HD.out, HB.out⟩
end Go.Proofs.Ytdfdlklglbefiaa
