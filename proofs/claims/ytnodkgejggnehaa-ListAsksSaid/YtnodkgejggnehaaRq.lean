/- Stage 5: what is left of a question, in the program's words and in the document's. -/
import Derived.Test.YtnodkgejggnehaaA31
namespace Go.Proofs.Ytnodkgejggnehaa
set_option linter.unusedSimpArgs false
set_option linter.unusedVariables false
theorem mayK_congr {n n' : Nat} {zs zs' : List Rg} {op op' : Nat → Bool} {J J' : List Nat} (k : Nat) (h : ∀ j, j < k → (kindS n zs op J j == 1) = (kindS n' zs' op' J' j == 1)) : mayK n zs op J k = mayK n' zs' op' J' k := by
  unfold mayK
  exact List.countP_congr (fun j hj => by rw [h j (List.mem_range.1 hj)])
section
variable {sl sr : Int} {n k : Nat} {zs : List Rg} {ks : List Int}
theorem rest1 (he : chkS sl sr zs ks = 0) (hn : zs.length = n) (hk : k < n) (ho : opnL n zs ks k = true) (hin : (k : Int) ∉ ks) :
    mayK n zs (opW n zs (opnL n zs ks) k) (k :: kNt ks) n = mayK n zs (opnL n zs (knwL (k : Int) ks)) (kNt (knwL (k : Int) ks)) n := by
  have H := shn_of he hn
  have H2 := shn_of (knw_chk he hn hk ho) hn
  have hop : opnL n zs (knwL (k : Int) ks) = opW n zs (opnL n zs ks) k := by
    funext j
    by_cases hj : j < n
    · exact kw_op H.z hk hj
    · simp [opnL, opW, hj]
  have hnd : (k :: kNt ks).Pairwise (· ≠ ·) := List.pairwise_cons.2 ⟨fun x hx e => hin ((mem_kNt H.nm).1 (by rw [e]; exact hx)), H.nd⟩
  have hmem : ∀ x, x ∈ k :: kNt ks ↔ x ∈ kNt (knwL (k : Int) ks) := fun x => by
    rw [List.mem_cons, mem_kNt H.nm, mem_kNt H2.nm, knwL_mem]
    constructor
    · rintro (e | e)
      · exact .inl (by omega)
      · exact .inr e
    · rintro (e | e)
      · exact .inl (by omega)
      · exact .inr e
  have hl : ∀ ns, (lessJ (k :: kNt ks) ns).length = (lessJ (kNt (knwL (k : Int) ks)) ns).length := fun ns => by
    unfold lessJ
    refine Nat.le_antisymm (nodup_le _ _ (List.Pairwise.filter _ hnd) (fun x hx => ?_)) (nodup_le _ _ (List.Pairwise.filter _ H2.nd) (fun x hx => ?_))
    · have := List.mem_filter.1 hx
      exact List.mem_filter.2 ⟨(hmem x).1 this.1, this.2⟩
    · have := List.mem_filter.1 hx
      exact List.mem_filter.2 ⟨(hmem x).2 this.1, this.2⟩
  have hl2 : (k :: kNt ks).length = (kNt (knwL (k : Int) ks)).length := by rw [List.length_cons, kNt_len, kNt_len, knwL_len]
  refine mayK_congr n (fun j hj => ?_)
  unfold kindS
  rw [hop, hl, hl2]
/-- Links of the sheet without one are links of the sheet. -/
theorem mm_old (hk : k < n) {op1 op2 : Nat → Bool} (h : ∀ j, j < n - 1 → op1 j = op2 (oldN k j)) (h2 : op2 k = false) : mm (mtB (wzP k zs n)) (opL (n - 1) op1) = mm (mtB zs) (opL n op2) := by
  have hL : (opL (n - 1) op1).map (oldN k) = opL n op2 := by
    have e1 : opL (n - 1) op1 = (List.range (n - 1)).filter (op2 ∘ oldN k) := by
      unfold opL
      exact List.filter_congr (fun j hj => h j (List.mem_range.1 hj))
    have e3 := range_old k n
    rw [if_pos hk] at e3
    rw [e1, ← List.filter_map, ← e3, List.filter_filter]
    unfold opL
    refine List.filter_congr (fun j hj => ?_)
    by_cases e : j = k
    · subst e; rw [h2]; rfl
    · simp [e]
  have h2 := mm_map (r := mtB zs) (r' := fun a b => mtB zs (oldN k a) (oldN k b)) (g := oldN k) (fun a b => rfl) (opL (n - 1) op1)
  rw [hL] at h2
  rw [← h2]
  unfold mm
  refine mm_congr _ _ (fun a ha b hb => ?_)
  have h3 := (mem_opL.1 ha).1
  have h4 := (mem_opL.1 hb).1
  unfold mtB
  rw [wz_end zs hk h3, wz_end zs hk h4, wz_end zs hk h3, wz_end zs hk h4]
theorem rest2 (he : chkS sl sr zs ks = 0) (hn : zs.length = n) (hk : k < n) (hin : (k : Int) ∉ ks) :
    mayK n zs (opX (opnL n zs ks) [(k : Int)]) (lessJ (kNt ks) [(k : Int)]) n = mayK (n - 1) (wzP k zs n) (opnL (n - 1) (wzP k zs n) (wkP k ks ks.length)) (kNt (wkP k ks ks.length)) (n - 1) := by
  have H := shn_of he hn
  have hch := wo_chk he hn hk hin
  have H2 := shn_of hch (wzP_lenE zs hk)
  obtain ⟨op1, hop1⟩ : ∃ v, opnL (n - 1) (wzP k zs n) (wkP k ks ks.length) = v := ⟨_, rfl⟩
  obtain ⟨op2, hop2⟩ : ∃ v, opX (opnL n zs ks) [(k : Int)] = v := ⟨_, rfl⟩
  have hkf : op2 k = false := by rw [← hop2]; unfold opX; simp
  have hoo : ∀ j, j < n - 1 → op1 j = op2 (oldN k j) := fun j hj => by
    rw [← hop1, ← hop2]
    have h3 := oldN_lt (k := k) hj
    unfold opX opnL
    rw [decide_eq_true hj, decide_eq_true h3, wz_tk H.nm hk hin hj]
    have hne := oldN_ne k j
    have : ¬ ((oldN k j : Nat) : Int) ∈ [(k : Int)] := by simp; omega
    rw [decide_eq_false this]; simp
  have hJ : lessJ (kNt ks) [(k : Int)] = kNt ks := by
    unfold lessJ
    refine List.filter_eq_self.2 (fun x hx => ?_)
    have := (mem_kNt H.nm).1 hx
    have hne : ¬ (x : Int) ∈ [(k : Int)] := fun e => by rw [List.mem_singleton] at e; rw [e] at this; exact hin this
    rw [decide_eq_false hne]; rfl
  have hlen : (kNt (wkP k ks ks.length)).length = (kNt ks).length := by rw [kNt_len, kNt_len, wkP_len]
  have hml : ∀ j, j < n - 1 → (lessJ (kNt (wkP k ks ks.length)) [(j : Int)]).length = (lessJ (kNt ks) [((oldN k j : Nat) : Int)]).length := fun j hj => by
    have hmem : ∀ x : Nat, (x ∈ kNt (wkP k ks ks.length) ↔ oldN k x ∈ kNt ks) := fun x => by rw [mem_kNt H2.nm, mem_kNt H.nm, mem_wk H.nm hin x]
    have hm : (lessJ (kNt (wkP k ks ks.length)) [(j : Int)]).length = ((lessJ (kNt (wkP k ks ks.length)) [(j : Int)]).map (oldN k)).length := by rw [List.length_map]
    rw [hm]
    unfold lessJ
    refine Nat.le_antisymm (nodup_le _ _ ?_ (fun y hy => ?_)) (nodup_le _ _ (List.Pairwise.filter _ H.nd) (fun y hy => ?_))
    · rw [List.pairwise_map]
      exact List.Pairwise.imp (fun hne e => hne (oldN_inj e)) (List.Pairwise.filter _ H2.nd)
    · obtain ⟨x, hx, rfl⟩ := List.mem_map.1 hy
      have hx := List.mem_filter.1 hx
      refine List.mem_filter.2 ⟨(hmem x).1 hx.1, ?_⟩
      have := hx.2
      simp only [List.mem_singleton, Bool.not_eq_true', decide_eq_false_iff_not] at this ⊢
      exact fun e => this (by have : oldN k x = oldN k j := by omega
                              rw [oldN_inj this])
    · have hy := List.mem_filter.1 hy
      have hyk : y ≠ k := fun e => hin (by have := (mem_kNt H.nm).1 hy.1; rwa [e] at this)
      refine List.mem_map.2 ⟨newN k y, List.mem_filter.2 ⟨(hmem _).2 (by rw [oldN_new hyk]; exact hy.1), ?_⟩, oldN_new hyk⟩
      have := hy.2
      simp only [List.mem_singleton, Bool.not_eq_true', decide_eq_false_iff_not] at this ⊢
      exact fun e => this (by have : newN k y = j := by omega
                              rw [← this, oldN_new hyk])
  rw [hop1, hop2, hJ]
  have hkind : ∀ j, j < n - 1 → kindS (n - 1) (wzP k zs n) op1 (kNt (wkP k ks ks.length)) j = kindS n zs op2 (kNt ks) (oldN k j) := fun j hj => by
    unfold kindS sizeF
    rw [mm_old hk hoo hkf, hlen, hml j hj, hoo j hj,
      mm_old (op1 := opX op1 [(j : Int)]) (op2 := opX op2 [((oldN k j : Nat) : Int)]) hk (fun i hi => by
        unfold opX
        rw [hoo i hi]
        congr 2
        simp only [List.mem_singleton]
        refine decide_eq_decide.2 ⟨fun e => by rw [show i = j by omega], fun e => ?_⟩
        have : oldN k i = oldN k j := by omega
        rw [oldN_inj this]) (by unfold opX; rw [hkf]; rfl),
      mm_old (op1 := opW (n - 1) (wzP k zs n) op1 j) (op2 := opW n zs op2 (oldN k j)) hk (fun i hi => by
        unfold opW
        rw [hoo i hi, decide_eq_true hi, decide_eq_true (oldN_lt (k := k) hi), wz_mt hk hi hj]) (by unfold opW; rw [hkf]; rfl)]
  have hk1 : (kindS n zs op2 (kNt ks) k == 1) = false := by
    unfold kindS
    rw [hkf]
    split
    · rfl
    · rfl
  unfold mayK
  have e3 := range_old k n
  rw [if_pos hk] at e3
  rw [List.countP_eq_length_filter, List.countP_eq_length_filter]
  have e4 : (List.range n).filter (fun j => kindS n zs op2 (kNt ks) j == 1) = ((List.range n).filter fun j => j != k).filter (fun j => kindS n zs op2 (kNt ks) j == 1) := by
    rw [List.filter_filter]
    refine List.filter_congr (fun j hj => ?_)
    by_cases e : j = k
    · subst e; rw [hk1]; rfl
    · simp [e]
  rw [e4, e3, List.filter_map, List.length_map]
  congr 1
  refine List.filter_congr (fun j hj => ?_)
  show (kindS n zs op2 (kNt ks) (oldN k j) == 1) = _
  rw [hkind j (List.mem_range.1 hj)]
theorem rest_doc (he : chkS sl sr zs ks = 0) (hn : zs.length = n) (hk : k < n) (h1 : (kindS n zs (opnL n zs ks) (kNt ks) k == 1) = true) : restS n zs (opnL n zs ks) (kNt ks) k = docR n zs ks ks.length k := by
  have hop := kind_open (eq_of_beq h1)
  have hki : (k : Int) ∉ ks := fun e => by
    have h2 := kind_doc (shn_of he hn).z (shn_of he hn).nm hk
    rw [eq_of_beq h1, dk_in e] at h2; omega
  unfold restS docR
  rw [rest1 he hn hk hop hki, rest2 he hn hk hki]
theorem best_congr {sel : Nat → Bool} {r r' : Nat → Nat} : ∀ q, (∀ x, x < q → sel x = true → r x = r' x) → bestQ sel r q = bestQ sel r' q ∧ ∀ y, bestQ sel r q = some y → y < q ∧ sel y = true
  | 0, _ => ⟨rfl, fun y h => (by cases h)⟩
  | q + 1, h => by
    obtain ⟨i1, i2⟩ := best_congr q (fun x hx => h x (by omega))
    unfold bestQ
    cases hs : sel q with
    | false =>
      simp only [Bool.false_eq_true, if_false]
      exact ⟨i1, fun y hy => ⟨by have := (i2 y hy).1; omega, (i2 y hy).2⟩⟩
    | true =>
      simp only [if_true]
      rw [← i1]
      cases hb : bestQ sel r q with
      | none => exact ⟨rfl, fun y hy => by obtain rfl : q = y := by simpa using hy
                                           exact ⟨by omega, hs⟩⟩
      | some p =>
        obtain ⟨p1, p2⟩ := i2 p hb
        simp only
        rw [h q (by omega) hs, h p (by omega) p2]
        refine ⟨rfl, fun y hy => ?_⟩
        split at hy
        · obtain rfl : q = y := by simpa using hy
          exact ⟨by omega, hs⟩
        · obtain rfl : p = y := by simpa using hy
          exact ⟨by omega, p2⟩
theorem ask_doc (he : chkS sl sr zs ks = 0) (hn : zs.length = n) : askQ n zs (opnL n zs ks) (kNt ks) = bestQ (fun k => kindS n zs (opnL n zs ks) (kNt ks) k == 1) (docR n zs ks ks.length) n ∧ bestB (restS n zs (opnL n zs ks) (kNt ks)) (askQ n zs (opnL n zs ks) (kNt ks)) = bestB (docR n zs ks ks.length) (askQ n zs (opnL n zs ks) (kNt ks)) := by
  obtain ⟨h1, h2⟩ := best_congr (sel := fun k => kindS n zs (opnL n zs ks) (kNt ks) k == 1) (r := restS n zs (opnL n zs ks) (kNt ks)) (r' := docR n zs ks ks.length) n (fun x hx hs => rest_doc he hn hx hs)
  refine ⟨h1, ?_⟩
  unfold askQ
  cases hb : bestQ (fun k => kindS n zs (opnL n zs ks) (kNt ks) k == 1) (restS n zs (opnL n zs ks) (kNt ks)) n with
  | none => rfl
  | some y => obtain ⟨a, b⟩ := h2 y hb
              show ((restS n zs (opnL n zs ks) (kNt ks) y : Nat) : Int) = _
              rw [rest_doc he hn a b]; rfl
end
end Go.Proofs.Ytnodkgejggnehaa
