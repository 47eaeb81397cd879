
/- The document's own queue: Ask. -/
import Derived.Test.YtmciiobncfchlaaQuL
namespace Go.Proofs.Ytmciiobncfchlaa
open Go.RowKit
set_option linter.unusedVariables false      -- a contract need not use every name

/-- What a call gives that returns a head, whether it was granted, and an error. -/
def HR2 (X : Hq × Bool × Int) (w : World) (e : Ending) (w' : World) : Prop := ∃ v', e = .returned (.tuple #[hdV X.1.t X.1.r v' X.1.W, .bool X.2.1, .int .i64 X.2.2]) ∧ Nw w w' ∧ RqAt w' v' X.1.q ∧ capOk v'
theorem free_iff {W : Int} {q : List Rq} (h : Ok W q) (m : Int) : free q m = true ↔ (∀ a ∈ q, ¬ isUp a) ∧ (∀ a ∈ q, a.md ≠ 0) ∧ fitI q m (-1) := by
  constructor
  · intro hf
    have hf' : ∀ a ∈ q, a.sn = 0 ∧ cpI a.md m = true := by
      intro a ha
      have := List.all_eq_true.1 hf a ha
      simpa using this
    exact ⟨fun a ha u => by have := (hf' a ha).1; have := u.2; omega, fun a ha => ((h.rt a ha).h (hf' a ha).1).1, fun k hk _ _ => (hf' _ (List.getElem_mem hk)).2⟩
  · rintro ⟨h1, h2, h3⟩
    refine List.all_eq_true.2 fun a ha => ?_
    obtain ⟨k, hk, rfl⟩ := List.getElem_of_mem ha
    have hm := h2 _ ha
    have s0 := (h.rt _ ha).s0
    have hs : q[k].sn = 0 := by
      have := h1 _ ha
      unfold isUp at this
      have : ¬ 0 < q[k].sn := fun e => this ⟨hm, e⟩
      omega
    simp [hs, h3 k hk (by omega) hm]
theorem ask_bad {h : Hq} {id txn m : Int} (e : id < 0 ∨ m = 0 ∨ knI m = false) : askR h id txn m = (noH, false, 2) := by
  unfold askR
  have : askE h.q id txn m = 2 := by unfold askE; rw [if_pos e]
  rw [this]; rfl
theorem ask_two {h : Hq} {id txn m : Int} (e : ¬ (id < 0 ∨ m = 0 ∨ knI m = false)) (a : (h.q.any fun r => r.id == id || r.txn == txn) = true) : askR h id txn m = (noH, false, 4) := by
  unfold askR
  have : askE h.q id txn m = 4 := by unfold askE; rw [if_neg e, if_pos a]
  rw [this]; rfl
theorem ask_yes {h : Hq} {id txn m : Int} (e : ¬ (id < 0 ∨ m = 0 ∨ knI m = false)) (a : (h.q.any fun r => r.id == id || r.txn == txn) = false) (f : free h.q m = true) : askR h id txn m = (⟨h.t, h.r, h.W, h.q ++ [⟨id, txn, m, m, 0⟩]⟩, true, 0) := by
  unfold askR
  have : askE h.q id txn m = 0 := by unfold askE; rw [if_neg e, if_neg (by rw [a]; simp)]
  rw [this, if_pos rfl]; unfold askQ; rw [if_pos f]
theorem ask_no {h : Hq} {id txn m : Int} (e : ¬ (id < 0 ∨ m = 0 ∨ knI m = false)) (a : (h.q.any fun r => r.id == id || r.txn == txn) = false) (f : ¬ free h.q m = true) : askR h id txn m = (⟨h.t, h.r, h.W + 1, h.q ++ [⟨id, txn, 0, m, h.W + 1⟩]⟩, false, 0) := by
  unfold askR
  have : askE h.q id txn m = 0 := by unfold askE; rw [if_neg e, if_neg (by rw [a]; simp)]
  rw [this, if_pos rfl]; unfold askQ; rw [if_neg f]
theorem any_take {p : Rq → Bool} {q : List Rq} {k : Nat} (hk : k < q.length) (h : p q[k] = true) : q.any p = true := List.any_eq_true.2 ⟨_, List.getElem_mem hk, h⟩
theorem any_none {p : Rq → Bool} {q : List Rq} (h : ∀ k (hk : k < q.length), p q[k] = false) : q.any p = false := by
  rw [List.any_eq_false]
  intro a ha
  obtain ⟨k, hk, rfl⟩ := List.getElem_of_mem ha
  simp [h k hk]
theorem box_row (w : World) (a b c d e : Int) (T : TypeId) : ∀ j u, (rqrow ⟨a, b, c, d, e⟩)[j]? = some u → (w.alloc (.cells #[.int .i64 a, .int .i64 b, .int .i64 c, .int .i64 d, .int .i64 e] T)).cell? ⟨w.heap.size, j, none⟩ = some u := by
  intro j u hu
  rw [hcell (allocAt w _), ← Array.getElem?_toList]
  exact hu
/-- An append of one request to the row of a head's own. -/
theorem push_one {w z : World} {g0 pb n1 k1 : Nat} {a1 : Option Addr} {q : List Rq} (hz : Nw w z) (hg : w.heap.size ≤ g0) (h : RqOwn z g0 (.slice a1 n1 k1) q) (hl : q.length ≤ 1000) (a b c d e : Int) (hpb : pb < z.heap.size) (hg0 : g0 ≤ z.heap.size) (hne : ∀ g, (Value.slice a1 n1 k1).ownBlock = some g → g ≠ pb) :
    ∃ a2 n2 k2 w2, (Builtin.append_ #[25, 25] 25 #[.slice a1 n1 k1, .slice (some ⟨z.heap.size, 0, none⟩) 1 1]).run Try.prog (z.alloc (.cells #[.int .i64 a, .int .i64 b, .int .i64 c, .int .i64 d, .int .i64 e] 41)) = .ok (.slice a2 n2 k2) w2 ∧
      RqOwn w2 g0 (.slice a2 n2 k2) (q ++ [⟨a, b, c, d, e⟩]) ∧ Nw w w2 ∧ (∀ x, x < z.heap.size → (∀ g, (Value.slice a1 n1 k1).ownBlock = some g → x ≠ g) → w2.heap[x]? = z.heap[x]?) ∧ (∀ x, (Value.slice a2 n2 k2).ownBlock = some x → x ≠ pb) := by
  have hN : Nw z (z.alloc (.cells #[.int .i64 a, .int .i64 b, .int .i64 c, .int .i64 d, .int .i64 e] 41)) := (Nw.refl z).alloc _
  obtain ⟨v', w2, hrun, hR, hG, hbk, g2, k2, hv⟩ := Own.push elemRq (onw h hN) ⟨a, b, c, d, e⟩ z.heap.size 1 (box_row z a b c d e _) (by omega) (Nat.le_trans hg0 hN.sz)
  subst hv
  refine ⟨_, _, _, w2, hrun, hR, (hz.trans hN).gro hG (fun x hx => Nat.le_trans hg (oge h hx)), fun x hx hxg => (hG.block x (Nat.lt_of_lt_of_le hx hN.sz) (fun e => hxg x e.symm rfl)).trans (hN.block x hx), fun x hx e => ?_⟩
  subst e
  have hs : (z.alloc (.cells #[.int .i64 a, .int .i64 b, .int .i64 c, .int .i64 d, .int .i64 e] 41)).heap.size = z.heap.size + 1 := by simp
  rcases hbk with q1 | q1
  · rw [hx] at q1; exact hne x q1.symm rfl
  · rw [hx] at q1; have e2 : x = (z.alloc (.cells #[.int .i64 a, .int .i64 b, .int .i64 c, .int .i64 d, .int .i64 e] 41)).heap.size := Option.some.inj q1; omega
end Go.Proofs.Ytmciiobncfchlaa
