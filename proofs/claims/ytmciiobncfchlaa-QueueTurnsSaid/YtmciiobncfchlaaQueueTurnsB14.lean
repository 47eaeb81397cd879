/- Texts merged: QtA -/
import Derived.Test.YtmciiobncfchlaaQueueTurnsB13

/- Law 9: QueueTurns: what a scan makes of each request. Plain. -/
section
namespace Go.Proofs.Ytmciiobncfchlaa
set_option linter.unusedVariables false

/-- What became of one that stays. -/
theorem turn_x {W : Int} {l : List Rq} (h : Ok W l) (i : Nat) (hi : i < l.length) : ∃ x : Rq, fnd (scanQ l).2 l[i].id = some x ∧ x.txn = l[i].txn ∧ (l[i].sn = 0 → x = l[i]) ∧ (0 < x.sn → l[i].id ∉ (scanQ l).1) ∧ (x.sn = 0 → 0 < l[i].sn → l[i].id ∈ (scanQ l).1) ∧ 0 ≤ x.sn := by
  refine ⟨_, turn_at h i hi, ?_, ?_, ?_, ?_, ?_⟩
  · split <;> rfl
  · intro z
    rw [if_neg]
    intro c
    obtain ⟨r, hr, e, hs⟩ := ((scan_steps h).1.form h).2 _ (by simpa using c)
    have := h.inj r hr _ (List.getElem_mem hi) e
    subst this
    omega
  · split
    · intro z; simp [grtR] at z
    · rename_i hn
      intro _; simpa using hn
  · split
    · rename_i hn
      intro _ _; simpa using hn
    · intro z z'; omega
  · split
    · simp [grtR]
    · exact (h.rt _ (List.getElem_mem hi)).s0
/-- One that stands ahead of another one. -/
theorem turn_y {W : Int} {l : List Rq} (h : Ok W l) (k i : Nat) (hk : k < i) (hi : i < l.length) {x : Rq} (hx : fnd (scanQ l).2 l[i].id = some x) :
    ∃ y : Rq, fnd (scanQ l).2 l[k].id = some y ∧ (l[k].md ≠ 0 ∨ l[k].md = 0 ∧ l[i].md = 0 ∧ l[k].sn < l[i].sn ∧ (y.sn = 0 ∨ 0 < y.sn ∧ x.sn ≠ 0)) := by
  obtain ⟨y, hy, _, _, y1, _, y0⟩ := turn_x h k (by omega)
  obtain ⟨x', hx', _, _, _, x1, x0⟩ := turn_x h i hi
  obtain rfl : x = x' := by rw [hx] at hx'; exact Option.some.inj hx'
  refine ⟨y, hy, ?_⟩
  by_cases z : l[k].md = 0
  rotate_left
  · exact .inl z
  have hp := List.pairwise_iff_getElem.1 h.pr k i (by omega) hi hk
  obtain ⟨z2, lt⟩ := hp.ord z
  refine .inr ⟨z, z2, lt, ?_⟩
  by_cases s : y.sn = 0
  · exact .inl s
  refine .inr ⟨by omega, fun e => ?_⟩
  have h1 := x1 e ((h.rt _ (List.getElem_mem hi)).w' z2)
  exact y1 (by omega) ((scan_steps h).1.turn h (List.getElem_mem _) (List.getElem_mem hi) z z2 lt h1)
/-- Whoever was granted. -/
theorem turn_id {W : Int} {l : List Rq} (h : Ok W l) (j : Nat) (hj : j < (scanQ l).1.length) : ∃ r : Rq, fnd l (scanQ l).1[j] = some r ∧ 0 < r.sn ∧ ∀ u ∈ l, u.md ≠ 0 → 0 < u.sn → u.id ∉ (scanQ l).1 → r.md ≠ 0 := by
  obtain ⟨r, hr, e, hs⟩ := ((scan_steps h).1.form h).2 _ (List.getElem_mem hj)
  refine ⟨r, by rw [← e]; exact fnd_some h hr, hs, fun u hu z s n => ?_⟩
  exact (scan_steps h).1.ups h hu z s n hr (by rw [e]; exact List.getElem_mem hj)
end Go.Proofs.Ytmciiobncfchlaa
end
