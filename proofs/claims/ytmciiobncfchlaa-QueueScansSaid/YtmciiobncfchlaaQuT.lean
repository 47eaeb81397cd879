
/- Plain facts of queues of requests: which one can be granted next. -/
import Derived.Test.YtmciiobncfchlaaQuH
namespace Go.Proofs.Ytmciiobncfchlaa
set_option linter.unusedVariables false

def isUp (a : Rq) : Prop := a.md ≠ 0 ∧ 0 < a.sn
theorem can_of {W : Int} {q : List Rq} {r : Rq} (h : Ok W q) (hr : r ∈ q) (hs : 0 < r.sn) (hb : ∀ o ∈ q, o.id ≠ r.id → blk r o = false) : canG q r = true := by
  unfold canG
  rw [Bool.and_eq_true]
  refine ⟨by simpa using hs, List.all_eq_true.2 fun o ho => ?_⟩
  by_cases e : o.id = r.id
  · simp [e]
  · simp [hb o ho e]
theorem not_can {q : List Rq} {r o : Rq} (ho : o ∈ q) (ne : o.id ≠ r.id) (hb : blk r o = true) : canG q r = false := by
  cases e : canG q r with
  | false => rfl
  | true =>
    have := no_blk e ho ne
    rw [hb] at this; cases this
theorem blk_holds {r o : Rq} (hm : o.md ≠ 0) (hc : cpI o.md r.wt = false) : blk r o = true := by simp [blk, hm, hc]
theorem blk_ups {r o : Rq} (hm : o.md ≠ 0) (hs : 0 < o.sn) (h : r.md = 0 ∨ o.sn < r.sn) : blk r o = true := by
  rcases h with h | h <;> simp [blk, hm, hs, h]
theorem blk_ahead {r o : Rq} (h1 : r.md = 0) (h2 : o.md = 0) (h3 : o.sn < r.sn) : blk r o = true := by simp [blk, h1, h2, h3]
/-- The one that upgrades with the least Since can be granted if its mode fits. -/
theorem cand_up {W : Int} {q : List Rq} (h : Ok W q) {r : Rq} (hr : r ∈ q) (hu : isUp r) (hmin : ∀ a ∈ q, isUp a → r.sn ≤ a.sn) (hf : ∀ o ∈ q, o.id ≠ r.id → o.md ≠ 0 → cpI o.md r.wt = true) : canG q r = true :=
  can_of h hr hu.2 fun o ho ne => by
    have hz := hu.1
    cases e : blk r o with
    | false => rfl
    | true =>
      exfalso
      unfold blk at e
      simp only [Bool.or_eq_true, Bool.and_eq_true, bne_iff_ne, beq_iff_eq, Bool.not_eq_true', decide_eq_true_eq] at e
      rcases e with (⟨e1, e2⟩ | ⟨⟨e1, e2⟩, e3⟩) | ⟨⟨e1, _⟩, _⟩
      · rw [hf o ho ne e1] at e2; cases e2
      · rcases e3 with e3 | e3
        · exact hz e3
        · have := hmin o ho ⟨e1, e2⟩; omega
      · exact hz e1
/-- The first one that waits can be granted if none upgrades and its mode fits. -/
theorem cand_wa {W : Int} {q : List Rq} (h : Ok W q) {k : Nat} (hk : k < q.length) (hz : q[k].md = 0) (hfirst : ∀ a ∈ q.take k, a.md ≠ 0) (hno : ∀ a ∈ q, ¬ isUp a) (hf : ∀ o ∈ q, o.id ≠ q[k].id → o.md ≠ 0 → cpI o.md q[k].wt = true) : canG q q[k] = true :=
  can_of h (List.getElem_mem hk) ((h.rt _ (List.getElem_mem hk)).w' hz) fun o ho ne => by
    cases e : blk q[k] o with
    | false => rfl
    | true =>
      exfalso
      unfold blk at e
      simp only [Bool.or_eq_true, Bool.and_eq_true, bne_iff_ne, beq_iff_eq, Bool.not_eq_true', decide_eq_true_eq] at e
      rcases e with (⟨e1, e2⟩ | ⟨⟨e1, e2⟩, _⟩) | ⟨⟨_, e1⟩, e2⟩
      · rw [hf o ho ne e1] at e2; cases e2
      · exact hno o ho ⟨e1, e2⟩
      · obtain ⟨j, hj, rfl⟩ := List.getElem_of_mem ho
        rcases Nat.lt_trichotomy j k with g | g | g
        · exact hfirst _ (List.mem_take_iff_getElem.2 ⟨j, by omega, rfl⟩) e1
        · subst g; exact ne rfl
        · have := ((List.pairwise_iff_getElem.1 h.pr k j hk hj g).ord hz).2; omega
/-- Where the candidate's mode does not fit nothing can be granted. -/
theorem done_up {W : Int} {q : List Rq} (h : Ok W q) {r : Rq} (hr : r ∈ q) (hu : isUp r) (hmin : ∀ a ∈ q, isUp a → r.sn ≤ a.sn) (hf : ∃ o ∈ q, o.id ≠ r.id ∧ o.md ≠ 0 ∧ cpI o.md r.wt = false) : Done q := by
  intro s hs
  by_cases e : s.id = r.id
  · obtain rfl := h.inj s hs r hr e
    obtain ⟨o, ho, ne, h1, h2⟩ := hf
    exact not_can ho ne (blk_holds h1 h2)
  · cases c : canG q s with
    | false => rfl
    | true =>
      have hsn := can_sn c
      rw [not_can hr (fun x => e x.symm) (blk_ups hu.1 hu.2 ?_)] at c
      · cases c
      · by_cases z : s.md = 0
        · exact .inl z
        · refine .inr ?_
          have h1 := hmin s hs ⟨z, hsn⟩
          have h2 : r.sn ≠ s.sn := fun x => e (by rw [h.injS r hr s hs hu.2 x])
          omega
theorem done_wa {W : Int} {q : List Rq} (h : Ok W q) {k : Nat} (hk : k < q.length) (hz : q[k].md = 0) (hfirst : ∀ a ∈ q.take k, a.md ≠ 0) (hno : ∀ a ∈ q, ¬ isUp a) (hf : ∃ o ∈ q, o.id ≠ q[k].id ∧ o.md ≠ 0 ∧ cpI o.md q[k].wt = false) : Done q := by
  intro s hs
  by_cases e : s.id = q[k].id
  · obtain rfl := h.inj s hs _ (List.getElem_mem hk) e
    obtain ⟨o, ho, ne, h1, h2⟩ := hf
    exact not_can ho ne (blk_holds h1 h2)
  · cases c : canG q s with
    | false => rfl
    | true =>
      have hsn := can_sn c
      have hsz : s.md = 0 := by
        refine Classical.byContradiction fun z => hno s hs ⟨z, hsn⟩
      obtain ⟨j, hj, rfl⟩ := List.getElem_of_mem hs
      rcases Nat.lt_trichotomy j k with g | g | g
      · exact absurd hsz (hfirst _ (List.mem_take_iff_getElem.2 ⟨j, by omega, rfl⟩))
      · subst g; exact absurd rfl e
      · have := ((List.pairwise_iff_getElem.1 h.pr k j hk hj g).ord hz).2
        rw [not_can (List.getElem_mem hk) (fun x => e x.symm) (blk_ahead hsz hz this)] at c
        cases c
theorem done_none {q : List Rq} (hno : ∀ a ∈ q, ¬ isUp a) (hw : ∀ a ∈ q, a.md ≠ 0) : Done q := by
  intro s hs
  cases c : canG q s with
  | false => rfl
  | true => exact absurd ⟨hw s hs, can_sn c⟩ (hno s hs)
end Go.Proofs.Ytmciiobncfchlaa
