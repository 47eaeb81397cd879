
/- The document's own queue: Hand. -/
import Derived.Test.YtmciiobncfchlaaQuK
namespace Go.Proofs.Ytmciiobncfchlaa
open Go.RowKit
set_option linter.unusedVariables false      -- a contract need not use every name

theorem id_ne {W : Int} {q : List Rq} (h : Ok W q) {m k : Nat} (hm : m < q.length) (hk : k < q.length) (ne : m ≠ k) : q[m].id ≠ q[k].id := by
  rcases Nat.lt_or_gt_of_ne ne with g | g
  · exact (List.pairwise_iff_getElem.1 h.pr m k hm hk g).id
  · exact fun e => (List.pairwise_iff_getElem.1 h.pr k m hk hm g).id e.symm
theorem hn_hit {W : Int} {q : List Rq} {id x : Int} {m k : Nat} (h : Ok W q) (hk : k < q.length) (hf : fnd q id = some q[k]) (hm : m < q.length) (ne : m ≠ k) (e : q[m].txn = x) : (q.any fun o => !(o.id == id) && o.txn == x) = true := by
  have := id_ne h hm hk ne
  rw [(fnd_is hf).2] at this
  exact List.any_eq_true.2 ⟨q[m], List.getElem_mem hm, by simp [this, e]⟩
theorem hn_none {q : List Rq} {id x : Int} {k : Nat} (hk : k < q.length) (hf : fnd q id = some q[k]) (h : ∀ m (hm : m < q.length), m ≠ k → q[m].txn ≠ x) : (q.any fun o => !(o.id == id) && o.txn == x) = false := by
  rw [List.any_eq_false]
  intro a ha
  obtain ⟨m, hm, rfl⟩ := List.getElem_of_mem ha
  by_cases e : m = k
  · subst e; simp [(fnd_is hf).2]
  · simp [h m hm e]
theorem hn_at {W : Int} {q : List Rq} {id x : Int} {k : Nat} (h : Ok W q) (hk : k < q.length) (hf : fnd q id = some q[k]) : chg (fun r => ⟨r.id, x, r.md, r.wt, r.sn⟩) id q = q.set k ⟨q[k].id, x, q[k].md, q[k].wt, q[k].sn⟩ := by
  rw [← chg_set h (fun r => ⟨r.id, x, r.md, r.wt, r.sn⟩) k hk, (fnd_is hf).2]
end Go.Proofs.Ytmciiobncfchlaa
