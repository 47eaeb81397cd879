
/- The document's own queue: Upgrade. -/
import Derived.Test.YtmciiobncfchlaaQuO
namespace Go.Proofs.Ytmciiobncfchlaa
open Go.RowKit
set_option linter.unusedVariables false      -- a contract need not use every name

theorem upF_iff {W : Int} {q : List Rq} (h : Ok W q) {k : Nat} (hk : k < q.length) (hs : q[k].sn = 0) (want : Int) : upF q q[k] want = true ↔ fitI q want k ∧ ∀ a ∈ q, ¬ isUp a := by
  constructor
  · intro hf
    have hf' : ∀ o ∈ q, o.id ≠ q[k].id → ¬ (0 < o.sn ∧ o.md ≠ 0) ∧ (o.md = 0 ∨ cpI o.md want = true) := by
      intro o ho ne
      have := List.all_eq_true.1 hf o ho
      simp [ne] at this
      refine ⟨fun e => ?_, this.2⟩
      rcases this.1 with q1 | q1
      · have := e.1; omega
      · exact e.2 q1
    refine ⟨fun j hj ne hm => ?_, fun a ha u => ?_⟩
    · exact (hf' _ (List.getElem_mem hj) (id_ne h hj hk (by omega))).2.resolve_left hm
    · obtain ⟨j, hj, rfl⟩ := List.getElem_of_mem ha
      by_cases e : j = k
      · subst e; have := u.2; omega
      · exact (hf' _ (List.getElem_mem hj) (id_ne h hj hk e)).1 ⟨u.2, u.1⟩
  · rintro ⟨h1, h2⟩
    refine List.all_eq_true.2 fun a ha => ?_
    obtain ⟨j, hj, rfl⟩ := List.getElem_of_mem ha
    by_cases e : j = k
    · subst e; simp
    · have hu := h2 _ ha
      have hne := id_ne h hj hk e
      by_cases hm : q[j].md = 0
      · simp [hm]
      · have hsn : ¬ 0 < q[j].sn := fun e => hu ⟨hm, e⟩
        simp [hne, hm, h1 j hj (by omega) hm]
        omega
theorem up_bad {h : Hq} {id m : Int} (e : m = 0 ∨ knI m = false) : upR h id m = (noH, false, 2) := by unfold upR; rw [if_pos e]
theorem up_none {h : Hq} {id m : Int} (e : ¬ (m = 0 ∨ knI m = false)) (f : fnd h.q id = none) : upR h id m = (noH, false, 5) := by unfold upR; rw [if_neg e, f]
theorem up_wait {h : Hq} {id m : Int} {R : Rq} (e : ¬ (m = 0 ∨ knI m = false)) (f : fnd h.q id = some R) (s : 0 < R.sn) : upR h id m = (noH, false, 7) := by unfold upR; rw [if_neg e, f]; exact if_pos s
theorem up_go {h : Hq} {id m : Int} {R : Rq} (e : ¬ (m = 0 ∨ knI m = false)) (f : fnd h.q id = some R) (s : ¬ 0 < R.sn) : upR h id m = (⟨h.t, h.r, (upQ h.W h.q R m).1, (upQ h.W h.q R m).2.1⟩, (upQ h.W h.q R m).2.2, 0) := by unfold upR; rw [if_neg e, f]; exact if_neg s
theorem set_self {q : List Rq} {k : Nat} (hk : k < q.length) (x : Rq) (e : x = q[k]) : q.set k x = q := by subst e; exact List.set_getElem_self hk
end Go.Proofs.Ytmciiobncfchlaa
