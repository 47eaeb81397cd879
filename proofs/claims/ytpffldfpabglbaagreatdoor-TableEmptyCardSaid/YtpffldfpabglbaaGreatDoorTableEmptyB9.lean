/- Texts merged: RefA, BkS, BkT, BkU, QuK, QuL -/
import Derived.Test.YtpffldfpabglbaaGreatDoorTableEmptyB8

/- Contracts of the reference's functions on names, first part: Database, Level, Check, Table, Record, Parent, Ancestors, Compare. -/
section
namespace Go.Proofs.YtpffldfpabglbaaGreatDoor
open Go.ChangeShapes Go.WideShapes Go.ChangeAt Go.RowKit

end Go.Proofs.YtpffldfpabglbaaGreatDoor
end

/- The document's own bucket: New, place, Find. -/
section
namespace Go.Proofs.YtpffldfpabglbaaGreatDoor
open Go.RowKit
set_option linter.unusedVariables false      -- a contract need not use every name

/-- Where a name's head is, or would be. -/
def PlIs (l : List Hm) (nm : Int × Int) (k : Nat) (b : Bool) : Prop := k ≤ l.length ∧ (∀ j (hj : j < l.length), j < k → nlt (nmH l[j].h) nm) ∧ ((k = l.length ∧ b = false) ∨ ∃ hk : k < l.length, ¬ nlt (nmH l[k].h) nm ∧ b = decide (nmH l[k].h = nm))
end Go.Proofs.YtpffldfpabglbaaGreatDoor
end

/- The document's own bucket: where a head is, in plain words; Find. -/
section
namespace Go.Proofs.YtpffldfpabglbaaGreatDoor
open Go.RowKit
set_option linter.unusedVariables false      -- a contract need not use every name

abbrev hsOf (l : List Hm) : List Hq := l.map Hm.h
theorem srt_at {l : List Hm} (s : SrtH (hsOf l)) {i j : Nat} (hi : i < l.length) (hj : j < l.length) (h : i < j) : nlt (nmH l[i].h) (nmH l[j].h) := by
  have := List.pairwise_iff_getElem.1 s i j (by simpa using hi) (by simpa using hj) h
  simpa using this
theorem PlIs.get {l : List Hm} {nm : Int × Int} {k : Nat} {b : Bool} (p : PlIs l nm k b) (s : SrtH (hsOf l)) :
    (b = false ∧ getH (hsOf l) nm = none ∧ (∀ j (hj : j < l.length), k ≤ j → nlt nm (nmH l[j].h))) ∨ (b = true ∧ ∃ hk : k < l.length, nmH l[k].h = nm ∧ getH (hsOf l) nm = some l[k].h) := by
  obtain ⟨hk, hb, he⟩ := p
  have key : b = false → (∀ j (hj : j < l.length), k ≤ j → nlt nm (nmH l[j].h)) → getH (hsOf l) nm = none := by
    intro _ ha
    refine List.find?_eq_none.2 fun x hx => ?_
    obtain ⟨j, hj, rfl⟩ := List.getElem_of_mem hx
    have hj' : j < l.length := by simpa using hj
    simp only [List.getElem_map, decide_eq_true_eq]
    intro e
    by_cases q : j < k
    · have := hb j hj' q; rw [e] at this; exact nlt_irr _ this
    · have := ha j hj' (by omega); rw [e] at this; exact nlt_irr _ this
  rcases he with ⟨rfl, rfl⟩ | ⟨hk2, hn, rfl⟩
  · have ha : ∀ j (hj : j < l.length), l.length ≤ j → nlt nm (nmH l[j].h) := fun j hj q => by omega
    exact .inl ⟨rfl, key rfl ha, ha⟩
  · by_cases e : nmH l[k].h = nm
    · refine .inr ⟨by simpa using e, hk2, e, ?_⟩
      cases hg : getH (hsOf l) nm with
      | none => exact absurd e (get_none hg _ (List.mem_map.2 ⟨_, List.getElem_mem hk2, rfl⟩))
      | some h =>
        obtain ⟨h1, h2⟩ := get_some hg
        rw [srt_inj s h1 (List.mem_map.2 ⟨_, List.getElem_mem hk2, rfl⟩) (h2.trans e.symm)]
    · have h0 : nlt nm (nmH l[k].h) := by
        rcases nlt_tot (nmH l[k].h) nm with q | q | q
        · exact absurd q hn
        · exact absurd q e
        · exact q
      have ha : ∀ j (hj : j < l.length), k ≤ j → nlt nm (nmH l[j].h) := fun j hj q => by
        rcases Nat.lt_or_eq_of_le q with q | rfl
        · exact nlt_tr h0 (srt_at s hk2 hj q)
        · exact h0
      exact .inl ⟨by simpa using e, key (by simpa using e) ha, ha⟩
theorem OfIs.of {l : List Hm} {id i : Int} (h : OfIs l id i) : (i = -1 ∧ ofId (hsOf l) id = none) ∨ ∃ k : Nat, i = k ∧ ∃ hk : k < l.length, ofId (hsOf l) id = some l[k].h := by
  rcases h with ⟨rfl, h⟩ | ⟨k, rfl, hk, h1, h2⟩
  · refine .inl ⟨rfl, List.find?_eq_none.2 fun x hx => ?_⟩
    obtain ⟨y, hy, rfl⟩ := List.mem_map.1 hx
    rw [h y hy]; simp
  · refine .inr ⟨k, rfl, hk, ?_⟩
    unfold ofId
    rw [List.find?_eq_some_iff_getElem]
    refine ⟨h1, k, by simpa using hk, by simp, fun j hj => ?_⟩
    simp only [List.getElem_map]
    rw [h2 j (by omega) hj]
    rfl
end Go.Proofs.YtpffldfpabglbaaGreatDoor
end

/- The document's own bucket: Get, New. -/
section
namespace Go.Proofs.YtpffldfpabglbaaGreatDoor
open Go.RowKit
set_option linter.unusedVariables false      -- a contract need not use every name

end Go.Proofs.YtpffldfpabglbaaGreatDoor
end

/- The document's own queue: Abandon, Hand. -/
section
namespace Go.Proofs.YtpffldfpabglbaaGreatDoor
open Go.RowKit
set_option linter.unusedVariables false      -- a contract need not use every name

theorem set_in {A M B : List Value} {j : Nat} (hj : j < M.length) (u : Value) : (A ++ (M ++ B)).set (A.length + j) u = A ++ (M.set j u ++ B) := by
  rw [List.set_append_right _ _ (by omega), Nat.add_sub_cancel_left, List.set_append_left _ _ hj]
theorem rows_mid (q : List Rq) (k : Nat) (hk : k < q.length) : rowsOf rqrow q = rowsOf rqrow (q.take k) ++ (rqrow q[k] ++ rowsOf rqrow (q.drop (k + 1))) := by
  have e : q = q.take k ++ q[k] :: q.drop (k + 1) := by rw [← List.drop_eq_getElem_cons hk, List.take_append_drop]
  conv => lhs; rw [e]
  rw [rows_app]
  rfl
theorem rows_upd (q : List Rq) (k : Nat) (hk : k < q.length) (j : Nat) (hj : j < 5) (u : Value) (new : Rq) (e : (rqrow q[k]).set j u = rqrow new) : (rowsOf rqrow q).set (k * 5 + j) u = rowsOf rqrow (q.set k new) := by
  have hA : (rowsOf rqrow (q.take k)).length = k * 5 := by rw [rows_len (sz := 5) (fun _ => rfl), List.length_take, Nat.min_eq_left (Nat.le_of_lt hk)]
  have h2 := rows_mid (q.set k new) k (by rw [List.length_set]; exact hk)
  rw [List.take_set_of_le (Nat.le_refl k), List.drop_set_of_lt (Nat.lt_succ_self k), List.getElem_set_self] at h2
  rw [rows_mid q k hk, h2, ← hA, set_in (by exact hj) u, e]
theorem own_upd {w : World} {g0 g cap n : Nat} {q : List Rq} (h : RqOwn w g0 (.slice (some ⟨g, 0, none⟩) n cap) q) (hn : n = q.length) (k : Nat) (hk : k < q.length) (j : Nat) (hj : j < 5) (u : Value) (new : Rq) (e : (rqrow q[k]).set j u = rqrow new) :
    RqOwn (w.setCell ⟨g, k * 5 + j, none⟩ u) g0 (.slice (some ⟨g, 0, none⟩) n cap) (q.set k new) := by
  subst hn
  have h1 := (World.ownsRow.stored h (k * 5 + j) u).1
  unfold RqOwn Own
  rw [List.length_set, ← rows_upd q k hk j hj u new e]
  exact h1
theorem own_cell {w : World} {g0 g cap n : Nat} {q : List Rq} (h : RqOwn w g0 (.slice (some ⟨g, 0, none⟩) n cap) q) (hn : n = q.length) (k : Nat) (hk : k < q.length) (j : Nat) (u : Value) (hu : (rqrow q[k])[j]? = some u) : w.cell? ⟨g, k * 5 + j, none⟩ = some u := by
  subst hn
  have hj : j < 5 := by have := (List.getElem?_eq_some_iff.1 hu).1; simpa [rqrow] using this
  refine (World.ownsRow.cellAt h (k * 5 + j) (by omega)).trans ?_
  rw [rows_at' (sz := 5) (fun _ => rfl) q k j hk hj]; exact hu
theorem own_frz {w : World} {g0 g cap n : Nat} {q : List Rq} (h : RqOwn w g0 (.slice (some ⟨g, 0, none⟩) n cap) q) (hn : n = q.length) (j : Nat) : w.frozen? ⟨g, j, none⟩ = false := by
  subst hn
  exact World.ownsRow.frozenAt h j
theorem ab_at {W : Int} {q : List Rq} {k : Nat} (h : Ok W q) (hk : k < q.length) (hm : q[k].md ≠ 0) : abQ q[k] q = q.set k (abR q[k]) := by
  unfold abQ
  rw [if_neg hm, chg_set h abR k hk]
end Go.Proofs.YtpffldfpabglbaaGreatDoor
end

/- The document's own queue: Hand. -/
section
namespace Go.Proofs.YtpffldfpabglbaaGreatDoor
open Go.RowKit
set_option linter.unusedVariables false      -- a contract need not use every name

theorem id_ne {W : Int} {q : List Rq} (h : Ok W q) {m k : Nat} (hm : m < q.length) (hk : k < q.length) (ne : m ≠ k) : q[m].id ≠ q[k].id := by
  rcases Nat.lt_or_gt_of_ne ne with g | g
  · exact (List.pairwise_iff_getElem.1 h.pr m k hm hk g).id
  · exact fun e => (List.pairwise_iff_getElem.1 h.pr k m hk hm g).id e.symm
theorem hn_hit {W : Int} {q : List Rq} {id x : Int} {m k : Nat} (h : Ok W q) (hk : k < q.length) (hf : fnd q id = some q[k]) (hm : m < q.length) (ne : m ≠ k) (e : q[m].txn = x) : (q.any fun o => !(o.id == id) && o.txn == x) = true := by
  have := id_ne h hm hk ne
  rw [(fnd_is hf).2] at this
  exact List.any_eq_true.2 ⟨q[m], List.getElem_mem hm, by simp [this, e]⟩
theorem hn_none {q : List Rq} {id x : Int} {k : Nat} (hk : k < q.length) (hf : fnd q id = some q[k]) (h : ∀ m (hm : m < q.length), m ≠ k → q[m].txn ≠ x) : (q.any fun o => !(o.id == id) && o.txn == x) = false := by
  rw [List.any_eq_false]
  intro a ha
  obtain ⟨m, hm, rfl⟩ := List.getElem_of_mem ha
  by_cases e : m = k
  · subst e; simp [(fnd_is hf).2]
  · simp [h m hm e]
theorem hn_at {W : Int} {q : List Rq} {id x : Int} {k : Nat} (h : Ok W q) (hk : k < q.length) (hf : fnd q id = some q[k]) : chg (fun r => ⟨r.id, x, r.md, r.wt, r.sn⟩) id q = q.set k ⟨q[k].id, x, q[k].md, q[k].wt, q[k].sn⟩ := by
  rw [← chg_set h (fun r => ⟨r.id, x, r.md, r.wt, r.sn⟩) k hk, (fnd_is hf).2]
end Go.Proofs.YtpffldfpabglbaaGreatDoor
end
