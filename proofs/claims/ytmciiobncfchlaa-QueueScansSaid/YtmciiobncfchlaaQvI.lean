
/- Plain facts: what fits beside counts, who is ahead: as asks and upgrades have it. -/
import Derived.Test.YtmciiobncfchlaaQvH
import Derived.Test.YtmciiobncfchlaaQuQ
namespace Go.Proofs.Ytmciiobncfchlaa
open Go.RowKit
set_option linter.unusedVariables false

theorem split_at {α : Type} (q : List α) (k : Nat) (hk : k < q.length) : q = q.take k ++ q[k] :: q.drop (k + 1) := by rw [← List.drop_eq_getElem_cons hk, List.take_append_drop]
theorem set_at {α : Type} (q : List α) (k : Nat) (hk : k < q.length) (x : α) : q.set k x = q.take k ++ x :: q.drop (k + 1) := by
  have := set_mid (q.take k) (q.drop (k + 1)) q[k] x k (by simp; omega)
  rwa [← split_at q k hk] at this
theorem cnt_at (q : List Rq) (k : Nat) (hk : k < q.length) (x : Int) : cntQ q x - (if x = q[k].md then 1 else 0) = (((q.take k ++ q.drop (k + 1)).countP fun R => R.md == x : Nat) : Int) := by
  have : cntQ q x = cntQ (q.take k ++ q[k] :: q.drop (k + 1)) x := by rw [← split_at q k hk]
  rw [this]
  unfold cntQ
  rw [List.countP_append, List.countP_cons, List.countP_append]
  simp only [beq_iff_eq]
  by_cases e : x = q[k].md
  · rw [if_pos e, if_pos e.symm]; omega
  · rw [if_neg e, if_neg (fun y => e y.symm)]; omega
/-- What fits beside all but one. -/
theorem fit_all (q : List Rq) (k : Nat) (hk : k < q.length) (m : Int) (hkn : ∀ R ∈ q, knI R.md = true) : fitB (cntQ q) q[k].md m = (q.take k ++ q.drop (k + 1)).all fun a => cpI a.md m := by
  rw [Bool.eq_iff_iff, fitB_iff, List.all_eq_true]
  have hsub : ∀ a ∈ q.take k ++ q.drop (k + 1), a ∈ q := fun a ha => by
    rcases List.mem_append.1 ha with h | h
    · exact List.mem_of_mem_take h
    · exact List.mem_of_mem_drop h
  constructor
  · intro h a ha
    have h1 := h a.md (hkn a (hsub a ha))
    unfold okK at h1
    rw [cnt_at q k hk] at h1
    have h2 : 0 < (q.take k ++ q.drop (k + 1)).countP fun R => R.md == a.md := List.countP_pos_iff.2 ⟨a, ha, by simp⟩
    rw [Bool.or_eq_true, decide_eq_true_eq] at h1
    rcases h1 with h1 | h1
    · omega
    · exact h1
  · intro h x hx
    unfold okK
    rw [cnt_at q k hk, Bool.or_eq_true, decide_eq_true_eq]
    by_cases c : 0 < (q.take k ++ q.drop (k + 1)).countP fun R => R.md == x
    · obtain ⟨a, ha, e⟩ := List.countP_pos_iff.1 c
      have e' : a.md = x := by simpa using e
      exact .inr (e' ▸ h a ha)
    · exact .inl (by omega)
theorem ho_lt {a b : Rq} (h1 : a.md ≠ 0) (h2 : b.md = 0) : toI a b < 0 := by
  have : hoI a b = -1 := by unfold hoI; simp [h1, h2]
  unfold toI; rw [this, if_pos (by decide)]; decide
theorem ho_gt {a b : Rq} (h1 : a.md = 0) (h2 : b.md ≠ 0) : ¬ toI a b < 0 := by
  have : hoI a b = 1 := by unfold hoI; simp [h1, h2]
  unfold toI; rw [this, if_pos (by decide)]; decide
theorem ho_eq {a b : Rq} (h : a.md = 0 ↔ b.md = 0) : toI a b = cmI a.sn b.sn := by
  have e : (a.md != 0) = (b.md != 0) := by
    by_cases z : a.md = 0
    · rw [z, h.1 z]
    · have y : b.md ≠ 0 := fun e => z (h.2 e)
      rw [bne_iff_ne.2 z, bne_iff_ne.2 y]
  have : hoI a b = 0 := by unfold hoI; rw [if_pos e]
  unfold toI; rw [this]; simp
theorem cm_lt {a b : Int} : cmI a b < 0 ↔ a < b := by
  unfold cmI
  by_cases h1 : a < b
  · rw [if_pos h1]; exact ⟨fun _ => h1, fun _ => by decide⟩
  · rw [if_neg h1]
    by_cases h2 : b < a
    · rw [if_pos h2]; exact ⟨fun e => by omega, fun e => absurd e h1⟩
    · rw [if_neg h2]; exact ⟨fun e => by omega, fun e => absurd e h1⟩
theorem ahead_iff {a b : Rq} : toI a b < 0 ↔ (a.md ≠ 0 ∧ b.md = 0) ∨ ((a.md = 0 ↔ b.md = 0) ∧ a.sn < b.sn) := by
  by_cases z : a.md = 0
  · by_cases y : b.md = 0
    · rw [ho_eq (by simp [z, y]), cm_lt]; simp [z, y]
    · have := ho_gt z y
      simp [this, z, y]
  · by_cases y : b.md = 0
    · have := ho_lt z y
      simp [this, z, y]
    · rw [ho_eq (by simp [z, y]), cm_lt]; simp [z, y]
theorem dEnterB {w : World} {g0 p b n : Nat} {t r W : Int} {v : Value} {q : List Rq} (h : Ln w g0 p t r W v b n q (cntQ q)) (k : Nat) (hk : k < q.length) (hW : 0 ≤ W ∧ W ≤ 4611686018427387904) (hkn : ∀ R ∈ q, knI R.md = true) (hn : n < 800000) (hl : q.length ≤ 1000)
    (R : Rq) (hR : q[k] = R) (hkw : knI R.wt = true) (B : Bool) (hB : (fitB (cntQ q) R.md R.wt && !ahB (q.set k (enR R W)) (enR R W)) = B) :
    Calls Try.prog 40 #[.pointer (some ⟨p, 0, none⟩), .int .i64 k] w fun e w' => e = .returned (.bool B) ∧ Below g0 w w' ∧ ∃ n', n' ≤ n + 2 ∧
      (if B = true then Ln w' g0 p t r W v b n' (q.set k ⟨R.id, R.txn, R.wt, R.wt, 0⟩) (cntQ (q.set k ⟨R.id, R.txn, R.wt, R.wt, 0⟩)) else Ln w' g0 p t r (W + 1) v b n' (q.set k (enR R W)) (cntQ (q.set k (enR R W)))) := by
  subst hR hB
  exact dEnter h k hk hW hkn hkw hn hl _ _ rfl rfl
/-- A request that asks. -/
theorem ask_en {W : Int} {q : List Rq} (h : Ok W q) (id txn m : Int) :
    (fitB (cntQ (q ++ [⟨id, txn, 0, m, 0⟩])) 0 m && !ahB ((q ++ [(⟨id, txn, 0, m, 0⟩ : Rq)]).set q.length ⟨id, txn, 0, m, W + 1⟩) ⟨id, txn, 0, m, W + 1⟩) = free q m := by
  have hk : q.length < (q ++ [(⟨id, txn, 0, m, 0⟩ : Rq)]).length := by simp
  have e1 := fit_all (q ++ [⟨id, txn, 0, m, 0⟩]) q.length hk m (fun R hR => by
    rcases List.mem_append.1 hR with hR | hR
    · exact (h.rt R hR).md
    · rw [List.mem_singleton] at hR; subst hR; rfl)
  rw [show (q ++ [(⟨id, txn, 0, m, 0⟩ : Rq)])[q.length].md = 0 by simp] at e1
  rw [e1]
  rw [show (q ++ [(⟨id, txn, 0, m, 0⟩ : Rq)]).take q.length = q by simp, show (q ++ [(⟨id, txn, 0, m, 0⟩ : Rq)]).drop (q.length + 1) = [] by simp, List.append_nil]
  rw [show (q ++ [(⟨id, txn, 0, m, 0⟩ : Rq)]).set q.length ⟨id, txn, 0, m, W + 1⟩ = q ++ [⟨id, txn, 0, m, W + 1⟩] by simp]
  have e2 : ahB (q ++ [⟨id, txn, 0, m, W + 1⟩]) ⟨id, txn, 0, m, W + 1⟩ = q.any fun X => decide (0 < X.sn) := by
    unfold ahB
    rw [List.any_append]
    have z : ([(⟨id, txn, 0, m, W + 1⟩ : Rq)].any fun X => decide (0 < X.sn) && decide (toI X (⟨id, txn, 0, m, W + 1⟩ : Rq) < 0)) = false := by
      have : ¬ toI (⟨id, txn, 0, m, W + 1⟩ : Rq) (⟨id, txn, 0, m, W + 1⟩ : Rq) < 0 := by rw [ahead_iff]; simp
      simp [this]
    rw [z, Bool.or_false, Bool.eq_iff_iff, List.any_eq_true, List.any_eq_true]
    constructor
    · rintro ⟨x, hx, e⟩
      rw [Bool.and_eq_true] at e
      exact ⟨x, hx, e.1⟩
    · rintro ⟨x, hx, e⟩
      have hs := (h.rt x hx).sW
      have : toI x (⟨id, txn, 0, m, W + 1⟩ : Rq) < 0 := by
        rw [ahead_iff]
        by_cases zx : x.md = 0
        · exact .inr ⟨by simp [zx], by show x.sn < W + 1; omega⟩
        · exact .inl ⟨zx, rfl⟩
      exact ⟨x, hx, by rw [e]; simpa using this⟩
  rw [e2]
  unfold free
  rw [Bool.eq_iff_iff, Bool.and_eq_true, Bool.not_eq_true', List.any_eq_false, List.all_eq_true, List.all_eq_true]
  constructor
  · rintro ⟨h1, h2⟩ x hx
    have := h2 x hx
    have hs := (h.rt x hx).s0
    rw [h1 x hx]
    simp at this ⊢
    omega
  · intro h1
    refine ⟨fun x hx => ?_, fun x hx => ?_⟩
    · have := h1 x hx
      rw [Bool.and_eq_true] at this
      exact this.2
    · have := h1 x hx
      rw [Bool.and_eq_true] at this
      have h2 : x.sn = 0 := by simpa using this.1
      simp [h2]
/-- A request that upgrades. -/
theorem up_en {W : Int} {q : List Rq} (h : Ok W q) (k : Nat) (hk : k < q.length) (hs : q[k].sn = 0) (want : Int) (hw : knI want = true) :
    (fitB (cntQ (q.set k ⟨q[k].id, q[k].txn, q[k].md, want, 0⟩)) q[k].md want && !ahB (q.set k ⟨q[k].id, q[k].txn, q[k].md, want, W + 1⟩) ⟨q[k].id, q[k].txn, q[k].md, want, W + 1⟩) = upF q q[k] want := by
  have hz := ((h.rt _ (List.getElem_mem hk)).h hs).1
  rw [cntQ_same q k hk ⟨q[k].id, q[k].txn, q[k].md, want, 0⟩ rfl, fit_all q k hk want (fun R hR => (h.rt R hR).md)]
  obtain ⟨hq, hl, hr⟩ := h.nth k hk
  have hst : ∀ x : Rq, q.set k x = q.take k ++ x :: q.drop (k + 1) := fun x => set_at q k hk x
  have hmem : ∀ a, a ∈ q.take k ++ q.drop (k + 1) ↔ a ∈ q ∧ a.id ≠ q[k].id := by
    intro a
    constructor
    · intro ha
      rcases List.mem_append.1 ha with g | g
      · exact ⟨List.mem_of_mem_take g, hl a g⟩
      · exact ⟨List.mem_of_mem_drop g, hr a g⟩
    · rintro ⟨ha, ne⟩
      rw [hq] at ha
      rcases List.mem_append.1 ha with g | g
      · exact List.mem_append_left _ g
      · rcases List.mem_cons.1 g with rfl | g
        · exact absurd rfl ne
        · exact List.mem_append_right _ g
  have e2 : ahB (q.set k ⟨q[k].id, q[k].txn, q[k].md, want, W + 1⟩) ⟨q[k].id, q[k].txn, q[k].md, want, W + 1⟩ = (q.take k ++ q.drop (k + 1)).any fun X => decide (0 < X.sn) && (X.md != 0) := by
    unfold ahB
    rw [hst, List.any_append, List.any_cons, List.any_append]
    have z : decide (toI (⟨q[k].id, q[k].txn, q[k].md, want, W + 1⟩ : Rq) ⟨q[k].id, q[k].txn, q[k].md, want, W + 1⟩ < 0) = false := by
      have : ¬ toI (⟨q[k].id, q[k].txn, q[k].md, want, W + 1⟩ : Rq) ⟨q[k].id, q[k].txn, q[k].md, want, W + 1⟩ < 0 := by rw [ahead_iff]; simp
      simpa using this
    rw [z, Bool.and_false, Bool.false_or]
    have key : ∀ X, X ∈ q → (decide (0 < X.sn) && decide (toI X ⟨q[k].id, q[k].txn, q[k].md, want, W + 1⟩ < 0)) = (decide (0 < X.sn) && (X.md != 0)) := by
      intro X hX
      congr 1
      have hsW := (h.rt X hX).sW
      rw [Bool.eq_iff_iff, decide_eq_true_eq, ahead_iff]
      simp only [bne_iff_ne, ne_eq]
      constructor
      · rintro (⟨a, _⟩ | ⟨a, _⟩)
        · exact a
        · intro z; exact hz (a.1 z)
      · intro a
        exact .inr ⟨by simp [a, hz], by show X.sn < W + 1; omega⟩
    have c1 : ∀ l : List Rq, (∀ x ∈ l, x ∈ q) → (l.any fun X => decide (0 < X.sn) && decide (toI X ⟨q[k].id, q[k].txn, q[k].md, want, W + 1⟩ < 0)) = l.any fun X => decide (0 < X.sn) && (X.md != 0) := by
      intro l
      induction l with
      | nil => intro _; rfl
      | cons a l ih =>
        intro hl
        rw [List.any_cons, List.any_cons, key a (hl a (by simp)), ih (fun x hx => hl x (List.mem_cons_of_mem _ hx))]
    rw [c1 _ (fun x hx => List.mem_of_mem_take hx), c1 _ (fun x hx => List.mem_of_mem_drop hx)]
  rw [e2]
  unfold upF
  rw [Bool.eq_iff_iff, Bool.and_eq_true, Bool.not_eq_true', List.any_eq_false, List.all_eq_true, List.all_eq_true]
  constructor
  · rintro ⟨h1, h2⟩ x hx
    by_cases e : x.id = q[k].id
    · simp [e]
    · have hm := (hmem x).2 ⟨hx, e⟩
      have a1 := h1 x hm
      have a2 := h2 x hm
      simp only [Bool.not_eq_true] at a2
      rw [a2, a1]; simp
  · intro h1
    refine ⟨fun x hx => ?_, fun x hx => ?_⟩
    · obtain ⟨hx', ne⟩ := (hmem x).1 hx
      have := h1 x hx'
      simp only [beq_eq_false_iff_ne.2 ne, Bool.false_or, Bool.and_eq_true, Bool.or_eq_true, beq_iff_eq] at this
      rcases this.2 with z | z
      · rw [z, cp_zero want hw]
      · exact z
    · obtain ⟨hx', ne⟩ := (hmem x).1 hx
      have := h1 x hx'
      simp only [beq_eq_false_iff_ne.2 ne, Bool.false_or, Bool.and_eq_true, Bool.not_eq_true'] at this
      rw [this.1]; simp
end Go.Proofs.Ytmciiobncfchlaa
