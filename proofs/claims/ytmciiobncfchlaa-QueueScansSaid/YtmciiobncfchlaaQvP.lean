
/- Plain facts: granting in the order of turns. -/
import Derived.Test.YtmciiobncfchlaaQvO
namespace Go.Proofs.Ytmciiobncfchlaa
set_option linter.unusedVariables false

theorem steps_pre {W : Int} {q q' : List Rq} {ids : List Int} (h : Steps q ids q') (h0 : Ok W q) : ids <+: (scanQ q).1 := by
  have hw := h.wtg h0
  have := h.scn h0 (wtg q')
  unfold scanQ
  rw [← hw, Nat.add_comm, this]
  exact List.prefix_append _ _
theorem steps_len {W : Int} {q q' : List Rq} {ids : List Int} (h : Steps q ids q') (h0 : Ok W q) : q'.length = q.length := by
  rw [(h.form h0).1]; simp
/-- What holds between two grants. -/
structure TInv (q q' : List Rq) (T : List Int) (i : Nat) : Prop where
  same : ∀ x ∈ T.drop i, rqAt q' x = rqAt q x
  rest : ∀ k : Nat, k < q.length → (k : Int) ∉ T.drop i → ¬ 0 < (rqAt q' k).sn
structure TOk (q : List Rq) (T : List Int) : Prop where
  sorted : T.Pairwise (fun x y => tC q x y < 0)
  mem : ∀ x, x ∈ T ↔ ∃ k : Nat, k < q.length ∧ x = k ∧ 0 < (rqAt q x).sn
  nodup : T.Nodup
theorem ti_start {q : List Rq} {T : List Int} (h : TOk q T) : TInv q q T 0 := ⟨fun _ _ => rfl, fun k hk hn hs => hn (by rw [List.drop_zero]; exact (h.mem _).2 ⟨k, hk, rfl, hs⟩)⟩
theorem tC_tr {W : Int} {q : List Rq} (h : Ok W q) (x y z : Int) (h1 : tC q x y < 0) (h2 : tC q y z < 0) : tC q x z < 0 := by
  unfold tC at *
  rw [ahead_iff] at *
  generalize rqAt q x = a at *
  generalize rqAt q y = b at *
  generalize rqAt q z = c at *
  by_cases za : a.md = 0 <;> by_cases zb : b.md = 0 <;> by_cases zc : c.md = 0 <;> simp [za, zb, zc] at h1 h2 ⊢ <;> omega
theorem tC_tot {W : Int} {q : List Rq} (h : Ok W q) (x y : Int) (hx : ∃ k : Nat, k < q.length ∧ x = k ∧ 0 < (rqAt q x).sn) (hy : ∃ k : Nat, k < q.length ∧ y = k ∧ 0 < (rqAt q y).sn) (ne : x ≠ y) : tC q x y < 0 ∨ tC q y x < 0 := by
  obtain ⟨i, hi, rfl, si⟩ := hx
  obtain ⟨j, hj, rfl, sj⟩ := hy
  unfold tC
  rw [ahead_iff, ahead_iff]
  rw [rqAt_nat q i hi] at *
  rw [rqAt_nat q j hj] at *
  have hs : q[i].sn ≠ q[j].sn := by
    intro e
    have := h.injS _ (List.getElem_mem hi) _ (List.getElem_mem hj) si e
    have hid := List.pairwise_iff_getElem.1 h.pr
    rcases Nat.lt_trichotomy i j with g | g | g
    · exact (hid i j hi hj g).id (by rw [this])
    · exact ne (by rw [g])
    · exact (hid j i hj hi g).id (by rw [this])
  by_cases za : q[i].md = 0 <;> by_cases zb : q[j].md = 0 <;> simp [za, zb] <;> omega
theorem tok_of {W : Int} {q : List Rq} (h : Ok W q) (hst : StOk (tC q) (wpl q q.length)) : TOk q (stR (tC q) (wpl q q.length)) := by
  have hm : ∀ x, x ∈ wpl q q.length ↔ ∃ k : Nat, k < q.length ∧ x = k ∧ 0 < (rqAt q x).sn := fun x => wpl_mem q x _
  have hp := stR_perm (tC q) (wpl q q.length)
  exact ⟨stR_sorted (tC q) (fun x => ∃ k : Nat, k < q.length ∧ x = k ∧ 0 < (rqAt q x).sn) (fun x y z _ _ _ => tC_tr h x y z) (fun x y hx hy => tC_tot h x y hx hy) _ (fun x hx => (hm x).1 hx) (wpl_nodup q _) hst,
    fun x => hp.mem_iff.trans (hm x), hp.nodup_iff.2 (wpl_nodup q _)⟩
theorem at_drop {T : List Int} {i : Nat} (hi : i < T.length) : T.drop i = T[i] :: T.drop (i + 1) := List.drop_eq_getElem_cons hi
/-- Who is next in turn. -/
theorem turn_next {W : Int} {q q' : List Rq} {ids : List Int} {T : List Int} {i : Nat} (h : Ok W q) (hs : Steps q ids q') (hT : TOk q T) (hI : TInv q q' T i) (hi : i < T.length) :
    ∃ k : Nat, T[i] = k ∧ ∃ hk : k < q'.length, q'[k] = rqAt q k ∧ 0 < q'[k].sn ∧ (fitB (cntQ q') q'[k].md q'[k].wt = true → canG q' q'[k] = true) ∧ (fitB (cntQ q') q'[k].md q'[k].wt = false → Done q') := by
  have hm : T[i] ∈ T := List.getElem_mem hi
  obtain ⟨k, hk, e, hsn⟩ := (hT.mem _).1 hm
  have ok := hs.ok h
  have hl := steps_len hs h
  have hk' : k < q'.length := by omega
  have hd := at_drop hi
  have hsm : rqAt q' k = rqAt q k := by rw [← e]; exact hI.same _ (by rw [hd]; exact List.mem_cons_self)
  have hq' : q'[k] = rqAt q k := by rw [← rqAt_nat q' k hk']; exact hsm
  have hsn' : 0 < q'[k].sn := by rw [hq', ← e]; exact hsn
  -- all others that wait come later
  have hlate : ∀ j (hj : j < q'.length), j ≠ k → 0 < q'[j].sn → toI q'[k] q'[j] < 0 := by
    intro j hj ne hsj
    have hjm : (j : Int) ∈ T.drop i := by
      refine Classical.byContradiction fun hn => hI.rest j (by omega) hn ?_
      rw [rqAt_nat q' j hj]; exact hsj
    rw [hd] at hjm
    rcases List.mem_cons.1 hjm with q1 | q1
    · rw [e] at q1; omega
    · have hp := hT.sorted
      rw [List.pairwise_iff_getElem] at hp
      obtain ⟨m, hm1, hm2⟩ := List.getElem_of_mem q1
      simp at hm1 hm2
      have := hp i (i + 1 + m) hi (by omega) (by omega)
      rw [hm2, e] at this
      unfold tC at this
      have h2 : rqAt q' j = rqAt q j := hI.same _ (by rw [hd]; exact List.mem_cons_of_mem _ q1)
      rw [rqAt_nat q' j hj] at h2
      rw [hq', h2]
      exact this
  have hfit : fitB (cntQ q') q'[k].md q'[k].wt = true ↔ ∀ o ∈ q', o.id ≠ q'[k].id → cpI o.md q'[k].wt = true := by
    rw [fit_all q' k hk' _ (fun R hR => (ok.rt R hR).md), List.all_eq_true]
    obtain ⟨hq, hl1, hl2⟩ := ok.nth k hk'
    constructor
    · intro hf o ho ne
      rw [hq] at ho
      rcases List.mem_append.1 ho with g | g
      · exact hf o (List.mem_append_left _ g)
      · rcases List.mem_cons.1 g with rfl | g
        · exact absurd rfl ne
        · exact hf o (List.mem_append_right _ g)
    · intro hf o ho
      rcases List.mem_append.1 ho with g | g
      · exact hf o (List.mem_of_mem_take g) (hl1 o g)
      · exact hf o (List.mem_of_mem_drop g) (hl2 o g)
  have hex : fitB (cntQ q') q'[k].md q'[k].wt = false → ∃ o ∈ q', o.id ≠ q'[k].id ∧ o.md ≠ 0 ∧ cpI o.md q'[k].wt = false := by
    intro hf
    refine Classical.byContradiction fun hn => ?_
    have : fitB (cntQ q') q'[k].md q'[k].wt = true := hfit.2 fun o ho ne => by
      cases hc : cpI o.md q'[k].wt with
      | true => rfl
      | false =>
        refine absurd ⟨o, ho, ne, fun z => ?_, hc⟩ hn
        rw [z, cp_zero _ (ok.rt _ (List.getElem_mem hk')).wt] at hc
        cases hc
    rw [this] at hf; cases hf
  refine ⟨k, e, hk', hq', hsn', fun hf => ?_, fun hf => ?_⟩
  · have hf' := hfit.1 hf
    by_cases z : q'[k].md = 0
    · refine cand_wa ok hk' z (fun a ha za => ?_) (fun a ha hu => ?_) (fun o ho ne _ => hf' o ho ne)
      · obtain ⟨j, hj, rfl⟩ := List.getElem_of_mem ha
        simp at hj za
        have hp := List.pairwise_iff_getElem.1 ok.pr j k (by omega) hk' (by omega)
        have hlt := hlate j (by omega) (by omega) ((ok.rt _ (List.getElem_mem (by omega))).w' za)
        rw [ahead_iff] at hlt
        have := (hp.ord za).2
        simp [z, za] at hlt
        omega
      · obtain ⟨j, hj, rfl⟩ := List.getElem_of_mem ha
        by_cases ne : j = k
        · subst ne; exact hu.1 z
        · have hlt := hlate j hj ne hu.2
          rw [ahead_iff] at hlt
          simp [z, hu.1] at hlt
    · refine cand_up ok (List.getElem_mem hk') ⟨z, hsn'⟩ (fun a ha hu => ?_) (fun o ho ne _ => hf' o ho ne)
      obtain ⟨j, hj, rfl⟩ := List.getElem_of_mem ha
      by_cases ne : j = k
      · subst ne; exact Int.le_refl _
      · have hlt := hlate j hj ne hu.2
        rw [ahead_iff] at hlt
        simp [z, hu.1] at hlt
        omega
  · have hf' := hex hf
    by_cases z : q'[k].md = 0
    · refine done_wa ok hk' z (fun a ha za => ?_) (fun a ha hu => ?_) hf'
      · obtain ⟨j, hj, rfl⟩ := List.getElem_of_mem ha
        simp at hj za
        have hp := List.pairwise_iff_getElem.1 ok.pr j k (by omega) hk' (by omega)
        have hlt := hlate j (by omega) (by omega) ((ok.rt _ (List.getElem_mem (by omega))).w' za)
        rw [ahead_iff] at hlt
        have := (hp.ord za).2
        simp [z, za] at hlt
        omega
      · obtain ⟨j, hj, rfl⟩ := List.getElem_of_mem ha
        by_cases ne : j = k
        · subst ne; exact hu.1 z
        · have hlt := hlate j hj ne hu.2
          rw [ahead_iff] at hlt
          simp [z, hu.1] at hlt
    · refine done_up ok (List.getElem_mem hk') ⟨z, hsn'⟩ (fun a ha hu => ?_) hf'
      obtain ⟨j, hj, rfl⟩ := List.getElem_of_mem ha
      by_cases ne : j = k
      · subst ne; exact Int.le_refl _
      · have hlt := hlate j hj ne hu.2
        rw [ahead_iff] at hlt
        simp [z, hu.1] at hlt
        omega
theorem turn_step {W : Int} {q q' : List Rq} {ids : List Int} {T : List Int} {i k : Nat} (h : Ok W q) (hs : Steps q ids q') (hT : TOk q T) (hI : TInv q q' T i) (hi : i < T.length) (e : T[i] = k) (hk : k < q'.length) (hc : canG q' q'[k] = true) :
    Steps q (ids ++ [q'[k].id]) (q'.set k (grtR q'[k])) ∧ TInv q (q'.set k (grtR q'[k])) T (i + 1) := by
  have ok := hs.ok h
  have hl := steps_len hs h
  have hd := at_drop hi
  have hnd := hT.nodup
  have hnk : (k : Int) ∉ T.drop (i + 1) := by
    have : (T.drop i).Nodup := List.Sublist.nodup (List.drop_sublist _ _) hnd
    rw [hd, e] at this
    exact (List.nodup_cons.1 this).1
  have hst := hs.snoc (List.getElem_mem hk) hc
  rw [chg_set ok grtR k hk] at hst
  have hat : ∀ j : Nat, j ≠ k → rqAt (q'.set k (grtR q'[k])) j = rqAt q' j := by
    intro j ne
    unfold rqAt
    simp only [Int.toNat_natCast, List.getD]
    rw [List.getElem?_set_ne (by omega)]
  refine ⟨hst, fun x hx => ?_, fun j hj hn => ?_⟩
  · obtain ⟨j, hj, rfl, _⟩ := (hT.mem x).1 (List.mem_of_mem_drop hx)
    have ne : j ≠ k := fun q1 => hnk (by rw [← q1]; exact hx)
    rw [hat j ne]
    exact hI.same _ (by rw [hd]; exact List.mem_cons_of_mem _ hx)
  · by_cases ne : j = k
    · subst ne
      rw [rqAt_nat _ j (by simpa using hk)]
      simp [grtR]
    · rw [hat j ne]
      refine hI.rest j hj fun q1 => ?_
      rw [hd] at q1
      rcases List.mem_cons.1 q1 with q2 | q2
      · rw [e] at q2; omega
      · exact hn q2
theorem turn_end {W : Int} {q q' : List Rq} {ids : List Int} {T : List Int} {i : Nat} (h : Ok W q) (hs : Steps q ids q') (hI : TInv q q' T i) (hi : ¬ i < T.length) : Done q' := by
  have hl := steps_len hs h
  intro s hsm
  cases c : canG q' s with
  | false => rfl
  | true =>
    obtain ⟨j, hj, rfl⟩ := List.getElem_of_mem hsm
    refine absurd (can_sn c) ?_
    have := hI.rest j (by omega) (by rw [List.drop_of_length_le (by omega)]; simp)
    rwa [rqAt_nat q' j hj] at this
end Go.Proofs.Ytmciiobncfchlaa
