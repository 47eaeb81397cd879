/- Texts merged: QuQ, QvI, QvJ, QvL -/
import Derived.Test.YtodnlelnpidliaaGreatBucketHoldsB15

/- The document's own queue: Upgrade. -/
section
namespace Go.Proofs.YtodnlelnpidliaaGreat
open Go.RowKit
set_option linter.unusedVariables false      -- a contract need not use every name

theorem up_bad {h : Hq} {id m : Int} (e : m = 0 ∨ knI m = false) : upR h id m = (noH, false, 2) := by unfold upR; rw [if_pos e]
theorem up_none {h : Hq} {id m : Int} (e : ¬ (m = 0 ∨ knI m = false)) (f : fnd h.q id = none) : upR h id m = (noH, false, 5) := by unfold upR; rw [if_neg e, f]
theorem up_wait {h : Hq} {id m : Int} {R : Rq} (e : ¬ (m = 0 ∨ knI m = false)) (f : fnd h.q id = some R) (s : 0 < R.sn) : upR h id m = (noH, false, 7) := by unfold upR; rw [if_neg e, f]; exact if_pos s
theorem up_go {h : Hq} {id m : Int} {R : Rq} (e : ¬ (m = 0 ∨ knI m = false)) (f : fnd h.q id = some R) (s : ¬ 0 < R.sn) : upR h id m = (⟨h.t, h.r, (upQ h.W h.q R m).1, (upQ h.W h.q R m).2.1⟩, (upQ h.W h.q R m).2.2, 0) := by unfold upR; rw [if_neg e, f]; exact if_neg s
theorem set_self {q : List Rq} {k : Nat} (hk : k < q.length) (x : Rq) (e : x = q[k]) : q.set k x = q := by subst e; exact List.set_getElem_self hk
end Go.Proofs.YtodnlelnpidliaaGreat
end

/- Plain facts: what fits beside counts, who is ahead: as asks and upgrades have it. -/
section
namespace Go.Proofs.YtodnlelnpidliaaGreat
open Go.RowKit
set_option linter.unusedVariables false

theorem split_at {α : Type} (q : List α) (k : Nat) (hk : k < q.length) : q = q.take k ++ q[k] :: q.drop (k + 1) := by rw [← List.drop_eq_getElem_cons hk, List.take_append_drop]
theorem set_at {α : Type} (q : List α) (k : Nat) (hk : k < q.length) (x : α) : q.set k x = q.take k ++ x :: q.drop (k + 1) := by
  have := set_mid (q.take k) (q.drop (k + 1)) q[k] x k (by simp; omega)
  rwa [← split_at q k hk] at this
theorem cnt_at (q : List Rq) (k : Nat) (hk : k < q.length) (x : Int) : cntQ q x - (if x = q[k].md then 1 else 0) = (((q.take k ++ q.drop (k + 1)).countP fun R => R.md == x : Nat) : Int) := by
  have : cntQ q x = cntQ (q.take k ++ q[k] :: q.drop (k + 1)) x := by rw [← split_at q k hk]
  rw [this]
  unfold cntQ
  rw [List.countP_append, List.countP_cons, List.countP_append]
  simp only [beq_iff_eq]
  by_cases e : x = q[k].md
  · rw [if_pos e, if_pos e.symm]; omega
  · rw [if_neg e, if_neg (fun y => e y.symm)]; omega
/-- What fits beside all but one. -/
theorem fit_all (q : List Rq) (k : Nat) (hk : k < q.length) (m : Int) (hkn : ∀ R ∈ q, knI R.md = true) : fitB (cntQ q) q[k].md m = (q.take k ++ q.drop (k + 1)).all fun a => cpI a.md m := by
  rw [Bool.eq_iff_iff, fitB_iff, List.all_eq_true]
  have hsub : ∀ a ∈ q.take k ++ q.drop (k + 1), a ∈ q := fun a ha => by
    rcases List.mem_append.1 ha with h | h
    · exact List.mem_of_mem_take h
    · exact List.mem_of_mem_drop h
  constructor
  · intro h a ha
    have h1 := h a.md (hkn a (hsub a ha))
    unfold okK at h1
    rw [cnt_at q k hk] at h1
    have h2 : 0 < (q.take k ++ q.drop (k + 1)).countP fun R => R.md == a.md := List.countP_pos_iff.2 ⟨a, ha, by simp⟩
    rw [Bool.or_eq_true, decide_eq_true_eq] at h1
    rcases h1 with h1 | h1
    · omega
    · exact h1
  · intro h x hx
    unfold okK
    rw [cnt_at q k hk, Bool.or_eq_true, decide_eq_true_eq]
    by_cases c : 0 < (q.take k ++ q.drop (k + 1)).countP fun R => R.md == x
    · obtain ⟨a, ha, e⟩ := List.countP_pos_iff.1 c
      have e' : a.md = x := by simpa using e
      exact .inr (e' ▸ h a ha)
    · exact .inl (by omega)
theorem ho_lt {a b : Rq} (h1 : a.md ≠ 0) (h2 : b.md = 0) : toI a b < 0 := by
  have : hoI a b = -1 := by unfold hoI; simp [h1, h2]
  unfold toI; rw [this, if_pos (by decide)]; decide
theorem ho_gt {a b : Rq} (h1 : a.md = 0) (h2 : b.md ≠ 0) : ¬ toI a b < 0 := by
  have : hoI a b = 1 := by unfold hoI; simp [h1, h2]
  unfold toI; rw [this, if_pos (by decide)]; decide
theorem ho_eq {a b : Rq} (h : a.md = 0 ↔ b.md = 0) : toI a b = cmI a.sn b.sn := by
  have e : (a.md != 0) = (b.md != 0) := by
    by_cases z : a.md = 0
    · rw [z, h.1 z]
    · have y : b.md ≠ 0 := fun e => z (h.2 e)
      rw [bne_iff_ne.2 z, bne_iff_ne.2 y]
  have : hoI a b = 0 := by unfold hoI; rw [if_pos e]
  unfold toI; rw [this]; simp
theorem cm_lt {a b : Int} : cmI a b < 0 ↔ a < b := by
  unfold cmI
  by_cases h1 : a < b
  · rw [if_pos h1]; exact ⟨fun _ => h1, fun _ => by decide⟩
  · rw [if_neg h1]
    by_cases h2 : b < a
    · rw [if_pos h2]; exact ⟨fun e => by omega, fun e => absurd e h1⟩
    · rw [if_neg h2]; exact ⟨fun e => by omega, fun e => absurd e h1⟩
theorem ahead_iff {a b : Rq} : toI a b < 0 ↔ (a.md ≠ 0 ∧ b.md = 0) ∨ ((a.md = 0 ↔ b.md = 0) ∧ a.sn < b.sn) := by
  by_cases z : a.md = 0
  · by_cases y : b.md = 0
    · rw [ho_eq (by simp [z, y]), cm_lt]; simp [z, y]
    · have := ho_gt z y
      simp [this, z, y]
  · by_cases y : b.md = 0
    · have := ho_lt z y
      simp [this, z, y]
    · rw [ho_eq (by simp [z, y]), cm_lt]; simp [z, y]
theorem dEnterB {w : World} {g0 p b n : Nat} {t r W : Int} {v : Value} {q : List Rq} (h : Ln w g0 p t r W v b n q (cntQ q)) (k : Nat) (hk : k < q.length) (hW : 0 ≤ W ∧ W ≤ 4611686018427387904) (hkn : ∀ R ∈ q, knI R.md = true) (hn : n < 800000) (hl : q.length ≤ 1000)
    (R : Rq) (hR : q[k] = R) (hkw : knI R.wt = true) (B : Bool) (hB : (fitB (cntQ q) R.md R.wt && !ahB (q.set k (enR R W)) (enR R W)) = B) :
    Calls Tryz.prog 96 #[.pointer (some ⟨p, 0, none⟩), .int .i64 k] w fun e w' => e = .returned (.bool B) ∧ Below g0 w w' ∧ ∃ n', n' ≤ n + 2 ∧
      (if B = true then Ln w' g0 p t r W v b n' (q.set k ⟨R.id, R.txn, R.wt, R.wt, 0⟩) (cntQ (q.set k ⟨R.id, R.txn, R.wt, R.wt, 0⟩)) else Ln w' g0 p t r (W + 1) v b n' (q.set k (enR R W)) (cntQ (q.set k (enR R W)))) := by
  subst hR hB
  exact dEnter h k hk hW hkn hkw hn hl _ _ rfl rfl
/-- A request that asks. -/
theorem ask_en {W : Int} {q : List Rq} (h : Ok W q) (id txn m : Int) :
    (fitB (cntQ (q ++ [⟨id, txn, 0, m, 0⟩])) 0 m && !ahB ((q ++ [(⟨id, txn, 0, m, 0⟩ : Rq)]).set q.length ⟨id, txn, 0, m, W + 1⟩) ⟨id, txn, 0, m, W + 1⟩) = free q m := by
  have hk : q.length < (q ++ [(⟨id, txn, 0, m, 0⟩ : Rq)]).length := by simp
  have e1 := fit_all (q ++ [⟨id, txn, 0, m, 0⟩]) q.length hk m (fun R hR => by
    rcases List.mem_append.1 hR with hR | hR
    · exact (h.rt R hR).md
    · rw [List.mem_singleton] at hR; subst hR; rfl)
  rw [show (q ++ [(⟨id, txn, 0, m, 0⟩ : Rq)])[q.length].md = 0 by simp] at e1
  rw [e1]
  rw [show (q ++ [(⟨id, txn, 0, m, 0⟩ : Rq)]).take q.length = q by simp, show (q ++ [(⟨id, txn, 0, m, 0⟩ : Rq)]).drop (q.length + 1) = [] by simp, List.append_nil]
  rw [show (q ++ [(⟨id, txn, 0, m, 0⟩ : Rq)]).set q.length ⟨id, txn, 0, m, W + 1⟩ = q ++ [⟨id, txn, 0, m, W + 1⟩] by simp]
  have e2 : ahB (q ++ [⟨id, txn, 0, m, W + 1⟩]) ⟨id, txn, 0, m, W + 1⟩ = q.any fun X => decide (0 < X.sn) := by
    unfold ahB
    rw [List.any_append]
    have z : ([(⟨id, txn, 0, m, W + 1⟩ : Rq)].any fun X => decide (0 < X.sn) && decide (toI X (⟨id, txn, 0, m, W + 1⟩ : Rq) < 0)) = false := by
      have : ¬ toI (⟨id, txn, 0, m, W + 1⟩ : Rq) (⟨id, txn, 0, m, W + 1⟩ : Rq) < 0 := by rw [ahead_iff]; simp
      simp [this]
    rw [z, Bool.or_false, Bool.eq_iff_iff, List.any_eq_true, List.any_eq_true]
    constructor
    · rintro ⟨x, hx, e⟩
      rw [Bool.and_eq_true] at e
      exact ⟨x, hx, e.1⟩
    · rintro ⟨x, hx, e⟩
      have hs := (h.rt x hx).sW
      have : toI x (⟨id, txn, 0, m, W + 1⟩ : Rq) < 0 := by
        rw [ahead_iff]
        by_cases zx : x.md = 0
        · exact .inr ⟨by simp [zx], by show x.sn < W + 1; omega⟩
        · exact .inl ⟨zx, rfl⟩
      exact ⟨x, hx, by rw [e]; simpa using this⟩
  rw [e2]
  unfold free
  rw [Bool.eq_iff_iff, Bool.and_eq_true, Bool.not_eq_true', List.any_eq_false, List.all_eq_true, List.all_eq_true]
  constructor
  · rintro ⟨h1, h2⟩ x hx
    have := h2 x hx
    have hs := (h.rt x hx).s0
    rw [h1 x hx]
    simp at this ⊢
    omega
  · intro h1
    refine ⟨fun x hx => ?_, fun x hx => ?_⟩
    · have := h1 x hx
      rw [Bool.and_eq_true] at this
      exact this.2
    · have := h1 x hx
      rw [Bool.and_eq_true] at this
      have h2 : x.sn = 0 := by simpa using this.1
      simp [h2]
/-- A request that upgrades. -/
theorem up_en {W : Int} {q : List Rq} (h : Ok W q) (k : Nat) (hk : k < q.length) (hs : q[k].sn = 0) (want : Int) (hw : knI want = true) :
    (fitB (cntQ (q.set k ⟨q[k].id, q[k].txn, q[k].md, want, 0⟩)) q[k].md want && !ahB (q.set k ⟨q[k].id, q[k].txn, q[k].md, want, W + 1⟩) ⟨q[k].id, q[k].txn, q[k].md, want, W + 1⟩) = upF q q[k] want := by
  have hz := ((h.rt _ (List.getElem_mem hk)).h hs).1
  rw [cntQ_same q k hk ⟨q[k].id, q[k].txn, q[k].md, want, 0⟩ rfl, fit_all q k hk want (fun R hR => (h.rt R hR).md)]
  obtain ⟨hq, hl, hr⟩ := h.nth k hk
  have hst : ∀ x : Rq, q.set k x = q.take k ++ x :: q.drop (k + 1) := fun x => set_at q k hk x
  have hmem : ∀ a, a ∈ q.take k ++ q.drop (k + 1) ↔ a ∈ q ∧ a.id ≠ q[k].id := by
    intro a
    constructor
    · intro ha
      rcases List.mem_append.1 ha with g | g
      · exact ⟨List.mem_of_mem_take g, hl a g⟩
      · exact ⟨List.mem_of_mem_drop g, hr a g⟩
    · rintro ⟨ha, ne⟩
      rw [hq] at ha
      rcases List.mem_append.1 ha with g | g
      · exact List.mem_append_left _ g
      · rcases List.mem_cons.1 g with rfl | g
        · exact absurd rfl ne
        · exact List.mem_append_right _ g
  have e2 : ahB (q.set k ⟨q[k].id, q[k].txn, q[k].md, want, W + 1⟩) ⟨q[k].id, q[k].txn, q[k].md, want, W + 1⟩ = (q.take k ++ q.drop (k + 1)).any fun X => decide (0 < X.sn) && (X.md != 0) := by
    unfold ahB
    rw [hst, List.any_append, List.any_cons, List.any_append]
    have z : decide (toI (⟨q[k].id, q[k].txn, q[k].md, want, W + 1⟩ : Rq) ⟨q[k].id, q[k].txn, q[k].md, want, W + 1⟩ < 0) = false := by
      have : ¬ toI (⟨q[k].id, q[k].txn, q[k].md, want, W + 1⟩ : Rq) ⟨q[k].id, q[k].txn, q[k].md, want, W + 1⟩ < 0 := by rw [ahead_iff]; simp
      simpa using this
    rw [z, Bool.and_false, Bool.false_or]
    have key : ∀ X, X ∈ q → (decide (0 < X.sn) && decide (toI X ⟨q[k].id, q[k].txn, q[k].md, want, W + 1⟩ < 0)) = (decide (0 < X.sn) && (X.md != 0)) := by
      intro X hX
      congr 1
      have hsW := (h.rt X hX).sW
      rw [Bool.eq_iff_iff, decide_eq_true_eq, ahead_iff]
      simp only [bne_iff_ne, ne_eq]
      constructor
      · rintro (⟨a, _⟩ | ⟨a, _⟩)
        · exact a
        · intro z; exact hz (a.1 z)
      · intro a
        exact .inr ⟨by simp [a, hz], by show X.sn < W + 1; omega⟩
    have c1 : ∀ l : List Rq, (∀ x ∈ l, x ∈ q) → (l.any fun X => decide (0 < X.sn) && decide (toI X ⟨q[k].id, q[k].txn, q[k].md, want, W + 1⟩ < 0)) = l.any fun X => decide (0 < X.sn) && (X.md != 0) := by
      intro l
      induction l with
      | nil => intro _; rfl
      | cons a l ih =>
        intro hl
        rw [List.any_cons, List.any_cons, key a (hl a (by simp)), ih (fun x hx => hl x (List.mem_cons_of_mem _ hx))]
    rw [c1 _ (fun x hx => List.mem_of_mem_take hx), c1 _ (fun x hx => List.mem_of_mem_drop hx)]
  rw [e2]
  unfold upF
  rw [Bool.eq_iff_iff, Bool.and_eq_true, Bool.not_eq_true', List.any_eq_false, List.all_eq_true, List.all_eq_true]
  constructor
  · rintro ⟨h1, h2⟩ x hx
    by_cases e : x.id = q[k].id
    · simp [e]
    · have hm := (hmem x).2 ⟨hx, e⟩
      have a1 := h1 x hm
      have a2 := h2 x hm
      simp only [Bool.not_eq_true] at a2
      rw [a2, a1]; simp
  · intro h1
    refine ⟨fun x hx => ?_, fun x hx => ?_⟩
    · obtain ⟨hx', ne⟩ := (hmem x).1 hx
      have := h1 x hx'
      simp only [beq_eq_false_iff_ne.2 ne, Bool.false_or, Bool.and_eq_true, Bool.or_eq_true, beq_iff_eq] at this
      rcases this.2 with z | z
      · rw [z, cp_zero want hw]
      · exact z
    · obtain ⟨hx', ne⟩ := (hmem x).1 hx
      have := h1 x hx'
      simp only [beq_eq_false_iff_ne.2 ne, Bool.false_or, Bool.and_eq_true, Bool.not_eq_true'] at this
      rw [this.1]; simp
end Go.Proofs.YtodnlelnpidliaaGreat
end

/- The developers' package queue: Ask. -/
section
namespace Go.Proofs.YtodnlelnpidliaaGreat
open Go.RowKit Go.Maps Go.ChangeMaps
set_option linter.unusedVariables false      -- a contract need not use every name

theorem plc_ne (p : Rq → Bool) (q : List Rq) : (plc p q != -1) = q.any p := by
  rw [← plc_any]
  rcases plc_form p q with ⟨h1, _⟩ | ⟨k, h1, _⟩
  · rw [h1]; rfl
  · rw [h1]
    have : ((k : Int) != -1) = true := by rw [bne_iff_ne]; omega
    rw [this]; simp
theorem any_or {α : Type} (q : List α) (a b : α → Bool) : (q.any fun x => a x || b x) = (q.any a || q.any b) := by
  induction q with
  | nil => rfl
  | cons x q ih => rw [List.any_cons, List.any_cons, List.any_cons, ih]; cases a x <;> cases b x <;> cases q.any a <;> cases q.any b <;> rfl
/-- A slice that lies in new blocks. -/
def Fresh (w : World) (v : Value) (q : List Rq) : Prop := ∀ b o n c, v = .slice (some ⟨b, o, none⟩) n c → w.heap.size ≤ b ∨ q = []
theorem Fresh.nil (w : World) (q : List Rq) : Fresh w (.slice none 0 0) q := fun b o n c e => by simp at e
theorem RqOwn.fresh {w w0 : World} {g0 : Nat} {v : Value} {q : List Rq} (h : RqOwn w g0 v q) (hb : w0.heap.size ≤ g0) : Fresh w0 v q := fun b o n c e => by
  subst e
  exact .inl (Nat.le_trans hb (oge h rfl))
theorem Fresh.old {w0 w : World} {v : Value} {q : List Rq} (h : Fresh w v q) (g : Nw w0 w) : Fresh w0 v q := fun b o n c e => (h b o n c e).imp (fun h => Nat.le_trans g.sz h) (fun h => h)
/-- What a call of the developers' gives that returns a head, whether it was granted, and an error; a head and an error. -/
def HD2 (X : Hq × Bool × Int) (w : World) (e : Ending) (w' : World) : Prop := ∃ v', e = .returned (.tuple #[hdV X.1.t X.1.r v' X.1.W, .bool X.2.1, .int .i64 X.2.2]) ∧ Nw w w' ∧ RqAt w' v' X.1.q ∧ capOk v' ∧ Fresh w v' X.1.q
def HD1 (X : Hq × Int) (w : World) (e : Ending) (w' : World) : Prop := ∃ v', e = .returned (.tuple #[hdV X.1.t X.1.r v' X.1.W, .int .i64 X.2]) ∧ Nw w w' ∧ RqAt w' v' X.1.q ∧ capOk v' ∧ Fresh w v' X.1.q
theorem Ln.done {w : World} {g0 p : Nat} {t r W : Int} {v : Value} {b n : Nat} {q : List Rq} {c : Int → Int} (h : Ln w g0 p t r W v b n q c) {rb : Nat} (hb : rb < g0) (u0 u1 u2 u3 : Value) :
    RqAt ((((w.setCell ⟨rb, 0, none⟩ u0).setCell ⟨rb, 1, none⟩ u1).setCell ⟨rb, 2, none⟩ u2).setCell ⟨rb, 3, none⟩ u3) v q ∧ capOk v := ⟨(fill_own h.own hb _ _ _ _).rd, h.own.cap⟩
set_option maxRecDepth 100000 in
set_option maxHeartbeats 8000000 in
theorem dAsk (t r W id x m : Int) (v : Value) (q : List Rq) (w : World) (hl : q.length ≤ 900) (hok : Ok W q) (h : RqAt w v q) :
    Calls Tryz.prog 65 #[hdV t r v W, .int .i64 id, .int .i64 x, .int .i64 m] w (HD2 (askR ⟨t, r, W, q⟩ id x m) w) := by
  obtain ⟨X, hX⟩ : ∃ X, askR ⟨t, r, W, q⟩ id x m = X := ⟨_, rfl⟩
  rw [hX]
  have HLo := Lib.hid (fun w => dLockable m w)
  have hat := h
  obtain ⟨a, c, rfl⟩ := h.form
  unfold HD2 hdV
  have HX := Lib.hid (two_boxes w (.cells #[.int .i64 t, .int .i64 r, .slice a q.length c, .int .i64 W] 56) (.cells #[.int .i64 0, .int .i64 0, .slice none 0 0, .int .i64 0] 56))
  obtain ⟨y, hy⟩ : ∃ y, ((m != 0) && knI m) = y := ⟨_, rfl⟩
  rw [hy] at HLo
  by_cases hi : id < 0
  · subst hX
    rw [ask_bad (h := ⟨t, r, W, q⟩) (.inl hi)]
    have di : decide (id < 0) = true := by simpa using hi
    have hq1 := HX.out.2.1
    have fz := fun k => hfz (j := k) hq1
    have hsl2 := hlt hq1
    have HQ := Lib.hid HX.out.2.2.1
    have d0 := hcell (j := 0) hq1
    have d1 := hcell (j := 1) hq1
    have d2 := hcell (j := 2) hq1
    have d3 := hcell (j := 3) hq1
    clear hq1 hi hy hat h hok HX HLo
    go_enter Tryz.func65, Tryz.ntmps65
    go_wp2
    exact bodyPost_ret (v := .tuple #[.agg #[.int .i64 0, .int .i64 0, .slice none 0 0, .int .i64 0], .bool false, .int .i64 2]) (by simp only [results, Tryz.results65]; simp [go_sem, *]) rfl ⟨_, rfl, HQ.out, Rd.nil _, Nat.le_refl _, Fresh.nil _ _⟩
  have di : decide (id < 0) = false := by simpa using hi
  cases y
  · subst hX
    rw [ask_bad (h := ⟨t, r, W, q⟩) (by cases e : knI m with | false => exact .inr (.inr rfl) | true => rw [e, Bool.and_true] at hy; exact .inr (.inl (by simpa using hy)))]
    clear hi hy hat h hok
    go_enter Tryz.func65, Tryz.ntmps65
    go_wp2_with fail
    go_at_call 93
    refine (HLo.out _).mono ?_
    rintro e w1 ⟨rfl, g1⟩
    have hq1 := g1.at' HX.out.2.1
    have HQ := Lib.hid (HX.out.2.2.1.trans g1)
    have d0 := hcell (j := 0) hq1
    have d1 := hcell (j := 1) hq1
    have d2 := hcell (j := 2) hq1
    have d3 := hcell (j := 3) hq1
    have fz := fun k => hfz (j := k) hq1
    have hsl2 := hlt hq1
    clear g1 hq1 HX HLo
    go_wp2
    exact bodyPost_ret (v := .tuple #[.agg #[.int .i64 0, .int .i64 0, .slice none 0 0, .int .i64 0], .bool false, .int .i64 2]) (by simp only [results, Tryz.results65]; simp [go_sem, *]) rfl ⟨_, rfl, fill_nw HQ.out (Nat.le_succ _) _ _ _ _, Rd.nil _, Nat.le_refl _, Fresh.nil _ _⟩
  have hgood : ¬ (id < 0 ∨ m = 0 ∨ knI m = false) := by
    rw [Bool.and_eq_true, bne_iff_ne] at hy
    rintro (e | e | e)
    · exact hi e
    · exact hy.1 e
    · rw [hy.2] at e; cases e
  have hkm : knI m = true := by
    rw [Bool.and_eq_true] at hy
    exact hy.2
  obtain ⟨px, hpx⟩ : ∃ px, plc (fun R => R.id == id) q = px := ⟨_, rfl⟩
  obtain ⟨py, hpy⟩ : ∃ py, plc (fun R => R.txn == x) q = py := ⟨_, rfl⟩
  have hFi := fun (w1 : World) (g : Nw w w1) (f : Value) (hf : Tells w1 f (fun R => R.id == id)) => dFind t r W (.slice a q.length c) f _ q w1 (by omega) (hat.nw g) hf
  have hFt := fun (w1 : World) (g : Nw w w1) (f : Value) (hf : Tells w1 f (fun R => R.txn == x)) => dFind t r W (.slice a q.length c) f _ q w1 (by omega) (hat.nw g) hf
  rw [hpx] at hFi
  rw [hpy] at hFt
  unfold hdV at hFi hFt
  have HFi := Lib.hid hFi
  have HFt := Lib.hid hFt
  have HLi := Lib.hid (fun (w1 : World) (g : Nw w w1) => dLineOf t r W (.slice a q.length c) q w1 (by omega) (fun R hR => (hok.rt R hR).md) (hat.nw g))
  unfold hdV at HLi
  have hany : (q.any fun R => R.id == id || R.txn == x) = ((px != -1) || (py != -1)) := by rw [any_or, ← plc_ne (fun R => R.id == id), ← plc_ne (fun R => R.txn == x), hpx, hpy]
  obtain ⟨bx, hbx⟩ : ∃ bx, (px != -1) = bx := ⟨_, rfl⟩
  obtain ⟨b2, hb2⟩ : ∃ b2, (py != -1) = b2 := ⟨_, rfl⟩
  rw [hbx, hb2] at hany
  clear hFi hFt hpx hpy
  have HWi := Lib.hid (dWithID id)
  have HTx := Lib.hid (dOfTxn x)
  go_enter Tryz.func65, Tryz.ntmps65
  go_wp2_with fail
  go_at_call 93
  refine (HLo.out _).mono ?_
  rintro e w1 ⟨rfl, g1⟩
  have HB1 := Lib.hid (And.intro (g1.at' HX.out.1) (And.intro (g1.at' HX.out.2.1) (HX.out.2.2.1.trans g1)))
  have hp1 := g1.at' HX.out.1
  have hN1 := HX.out.2.2.1.trans g1
  have s0 : ∀ z, Nw w1 z → z.cell? ⟨w.heap.size, 0, none⟩ = some (.int .i64 t) := fun z hz => hz.kp (hcell (j := 0) hp1)
  have s1 : ∀ z, Nw w1 z → z.cell? ⟨w.heap.size, 1, none⟩ = some (.int .i64 r) := fun z hz => hz.kp (hcell (j := 1) hp1)
  have s2 : ∀ z, Nw w1 z → z.cell? ⟨w.heap.size, 2, none⟩ = some (.slice a q.length c) := fun z hz => hz.kp (hcell (j := 2) hp1)
  have s3 : ∀ z, Nw w1 z → z.cell? ⟨w.heap.size, 3, none⟩ = some (.int .i64 W) := fun z hz => hz.kp (hcell (j := 3) hp1)
  clear hp1 g1 HX HLo
  go_wp2
  have q1 := (Nw.refl w1).drewQ
  obtain ⟨wc, hwc⟩ : ∃ wc, w1.drew = wc := ⟨_, rfl⟩
  have HH := Lib.hid (And.intro hok hat)
  clear hok hat h hi
  cases bx <;> cases b2
  all_goals
   refine region_told [some true, some true, some false, none, some false, none, some true, some true, some true, some true, some false, none, some false, none, some true, some true, some true] (Nw w1) (by kernel_rfl) (by kernel_rfl) (by kernel_rfl) q1 ?_
   rw [hwc] at q1 ⊢
   clear hwc
   repeat (first
    | (refine HW.off ?_)
    | (refine HW.take' ?_; (first | (refine ⟨undef, Or.inr ⟨by rfl, rfl⟩, ?_⟩) | (apply Exists.intro; refine ⟨Or.inl ⟨by rfl, ?_⟩, ?_⟩; (intro x hx; go_simp; first | done | with_reducible rfl))); (try simp only [Act.put, List.setIfInBounds_toArray, List.set_cons_zero, List.set_cons_succ]))
    | (refine HW.go (fun K hK => ?_); go_simp; (first
      | (go_at_call 88; (with_reducible refine (HWi.out _).mono ?_); rintro e wy ⟨pa, rfl, g2, hbx⟩; refine hK.out _ _ (q1.trans g2) ?_; intro _; replace q1 := q1.trans g2; clear hK K g2; replace hbx := Tells.withID hbx)
      | (go_at_call 94; (with_reducible refine (HTx.out _).mono ?_); rintro e wy ⟨pa, rfl, g2, hbx⟩; refine hK.out _ _ (q1.trans g2) ?_; intro _; replace q1 := q1.trans g2; clear hK K g2; replace hbx := Tells.ofTxn hbx)
      | (go_at_call 87; (first | (with_reducible refine (HFi.out _ (HB1.out.2.2.trans q1) _ hbx).mono ?_) | (with_reducible refine (HFt.out _ (HB1.out.2.2.trans q1) _ hbx).mono ?_)); rintro e wy ⟨rfl, g2⟩; refine hK.out _ _ (q1.trans g2) ?_; intro _; replace q1 := q1.trans g2; clear hK K g2 hbx)
      | (refine hK.out _ _ q1 ?_; intro _; clear hK K))))
   refine HW.end_ ?_
   refine NoPanic.normal ?_
  · have hq1 := q1.at' HB1.out.2.1
    have hp1 := q1.at' HB1.out.1
    have HQ := Lib.hid (And.intro hq1 (HB1.out.2.2.trans q1))
    have c0 := hcell (j := 0) hp1
    have c1 := hcell (j := 1) hp1
    have c2 := hcell (j := 2) hp1
    have c3 := hcell (j := 3) hp1
    have hpl := hlt hp1
    have HXX := Lib.hid (And.intro hX (And.intro hgood hany))
    clear hq1 hp1 q1 s0 s1 s2 s3 hX hgood hany HB1 HFi HFt HWi HTx hN1 hy
    go_wp2_with fail
    go_at_call 95
    refine (HLi.out _ HQ.out.2).mono ?_
    rintro e w2 ⟨p, v1, b, n, rfl, g2, hL2, hnq⟩
    have HQ2 := Lib.hid HQ.out
    clear c0 c1 c2 c3 hpl HLi HQ
    have hA := dAdd hL2 ⟨id, x, 0, m, 0⟩ rfl (fun y => by have := cntQ_bd q y; omega) (by omega) (by omega)
    unfold rqV at hA
    simp only at hA
    have HA := Lib.hid hA
    have HG2 := Lib.hid g2
    clear hA hL2 g2
    go_wp2_with fail
    go_at_call 97
    refine HA.out.mono ?_
    rintro e w3 ⟨rfl, v2, hL3, g3⟩
    have hlk : q.length < (q ++ [(⟨id, x, 0, m, 0⟩ : Rq)]).length := by simp
    have hke : (q ++ [(⟨id, x, 0, m, 0⟩ : Rq)])[q.length]'hlk = ⟨id, x, 0, m, 0⟩ := by simp
    obtain ⟨fr, hfr⟩ : ∃ fr, free q m = fr := ⟨_, rfl⟩
    have hE := dEnterB (hL3.eq (cntQ_snoc q ⟨id, x, 0, m, 0⟩).symm) q.length hlk ⟨HH.out.1.w0, HH.out.1.wB⟩ (fun R hR => by
      rcases List.mem_append.1 hR with hR | hR
      · exact (HH.out.1.rt R hR).md
      · rw [List.mem_singleton] at hR; subst hR; rfl) (by omega) (by simp; omega) ⟨id, x, 0, m, 0⟩ hke hkm fr ((ask_en HH.out.1 id x m).trans hfr)
    simp only [enR] at hE
    have HE := Lib.hid hE
    have HG3 := Lib.hid (And.intro HG2.out g3)
    clear hE hL3 g3 HA HG2 hke
    go_wp2_with fail
    go_at_call 96
    refine HE.out.mono ?_
    rintro e w5 ⟨rfl, g4, n5, _, hL5⟩
    have g5 : Nw wy w5 := Below.trans (Below.trans HG3.out.1 HG3.out.2) g4
    obtain ⟨hX, hgood, hany⟩ := HXX.out
    clear HE HG3 HXX
    have hset : ∀ R : Rq, (q ++ [(⟨id, x, 0, m, 0⟩ : Rq)]).set q.length R = q ++ [R] := fun R => by simp
    cases fr
    · have hR := hX.symm.trans (ask_no (h := ⟨t, r, W, q⟩) hgood hany (by rw [hfr]; simp))
      subst hR
      simp only [Bool.false_eq_true, if_false] at hL5
      rw [hset] at hL5
      obtain ⟨a2, k2, hv2⟩ := (RqOwn.rd hL5.own).form
      obtain ⟨n2, hn2⟩ : ∃ n, (q ++ [(⟨id, x, 0, m, W + 1⟩ : Rq)]).length = n := ⟨_, rfl⟩
      rw [hn2] at hv2
      subst hv2
      have HL5 := Lib.hid hL5
      have hpl := hlt hL5.obj
      have e0 := hcell (j := 0) hL5.obj
      have e1 := hcell (j := 1) hL5.obj
      have e2 := hcell (j := 2) hL5.obj
      have e3 := hcell (j := 3) hL5.obj
      have hq5 := g5.at' HQ2.out.1
      have HN5 := Lib.hid (HQ2.out.2.trans g5)
      have HS := Lib.hid (hlt HQ2.out.1)
      have HQF := Lib.hid (HQ2.out.2.sz)
      have d0 := hcell (j := 0) hq5
      have d1 := hcell (j := 1) hq5
      have d2 := hcell (j := 2) hq5
      have d3 := hcell (j := 3) hq5
      have fz := fun k => hfz (j := k) hq5
      have hsl2 := hlt hq5
      clear hL5 hset hq5 g5 HQ2 hn2 hX hfr
      go_wp2
      exact bodyPost_ret (v := .tuple #[.agg #[.int .i64 t, .int .i64 r, .slice a2 n2 k2, .int .i64 (W + 1)], .bool false, .int .i64 0]) (by simp only [results, Tryz.results65]; simp [go_sem, *]) rfl ⟨_, rfl, fill_nw HN5.out (Nat.le_succ _) _ _ _ _, (HL5.out.done HS.out _ _ _ _).1, HL5.out.own.cap, HL5.out.own.fresh HQF.out⟩
    · have hR := hX.symm.trans (ask_yes (h := ⟨t, r, W, q⟩) hgood hany (by rw [hfr]))
      subst hR
      simp only [if_true] at hL5
      rw [hset] at hL5
      obtain ⟨a2, k2, hv2⟩ := (RqOwn.rd hL5.own).form
      obtain ⟨n2, hn2⟩ : ∃ n, (q ++ [(⟨id, x, m, m, 0⟩ : Rq)]).length = n := ⟨_, rfl⟩
      rw [hn2] at hv2
      subst hv2
      have HL5 := Lib.hid hL5
      have hpl := hlt hL5.obj
      have e0 := hcell (j := 0) hL5.obj
      have e1 := hcell (j := 1) hL5.obj
      have e2 := hcell (j := 2) hL5.obj
      have e3 := hcell (j := 3) hL5.obj
      have hq5 := g5.at' HQ2.out.1
      have HN5 := Lib.hid (HQ2.out.2.trans g5)
      have HS := Lib.hid (hlt HQ2.out.1)
      have HQF := Lib.hid (HQ2.out.2.sz)
      have d0 := hcell (j := 0) hq5
      have d1 := hcell (j := 1) hq5
      have d2 := hcell (j := 2) hq5
      have d3 := hcell (j := 3) hq5
      have fz := fun k => hfz (j := k) hq5
      have hsl2 := hlt hq5
      clear hL5 hset hq5 g5 HQ2 hn2 hX hfr
      go_wp2
      exact bodyPost_ret (v := .tuple #[.agg #[.int .i64 t, .int .i64 r, .slice a2 n2 k2, .int .i64 W], .bool true, .int .i64 0]) (by simp only [results, Tryz.results65]; simp [go_sem, *]) rfl ⟨_, rfl, fill_nw HN5.out (Nat.le_succ _) _ _ _ _, (HL5.out.done HS.out _ _ _ _).1, HL5.out.own.cap, HL5.out.own.fresh HQF.out⟩
  · have hR := hX.symm.trans (ask_two (h := ⟨t, r, W, q⟩) hgood hany)
    subst hR
    have hq1 := q1.at' HB1.out.2.1
    have HQ := Lib.hid (HB1.out.2.2.trans q1)
    have d0 := hcell (j := 0) hq1
    have d1 := hcell (j := 1) hq1
    have d2 := hcell (j := 2) hq1
    have d3 := hcell (j := 3) hq1
    have fz := fun k => hfz (j := k) hq1
    have hsl2 := hlt hq1
    clear hq1 q1 s0 s1 s2 s3 hX hgood hany HB1 HFi HFt HLi HWi HTx HH hN1 hy hkm
    go_wp2
    exact bodyPost_ret (v := .tuple #[.agg #[.int .i64 0, .int .i64 0, .slice none 0 0, .int .i64 0], .bool false, .int .i64 4]) (by simp only [results, Tryz.results65]; simp [go_sem, *]) rfl ⟨_, rfl, fill_nw HQ.out (Nat.le_succ _) _ _ _ _, Rd.nil _, Nat.le_refl _, Fresh.nil _ _⟩
  · have hR := hX.symm.trans (ask_two (h := ⟨t, r, W, q⟩) hgood hany)
    subst hR
    have hq1 := q1.at' HB1.out.2.1
    have HQ := Lib.hid (HB1.out.2.2.trans q1)
    have d0 := hcell (j := 0) hq1
    have d1 := hcell (j := 1) hq1
    have d2 := hcell (j := 2) hq1
    have d3 := hcell (j := 3) hq1
    have fz := fun k => hfz (j := k) hq1
    have hsl2 := hlt hq1
    clear hq1 q1 s0 s1 s2 s3 hX hgood hany HB1 HFi HFt HLi HWi HTx HH hN1 hy hkm
    go_wp2
    exact bodyPost_ret (v := .tuple #[.agg #[.int .i64 0, .int .i64 0, .slice none 0 0, .int .i64 0], .bool false, .int .i64 4]) (by simp only [results, Tryz.results65]; simp [go_sem, *]) rfl ⟨_, rfl, fill_nw HQ.out (Nat.le_succ _) _ _ _ _, Rd.nil _, Nat.le_refl _, Fresh.nil _ _⟩
  · have hR := hX.symm.trans (ask_two (h := ⟨t, r, W, q⟩) hgood hany)
    subst hR
    have hq1 := q1.at' HB1.out.2.1
    have HQ := Lib.hid (HB1.out.2.2.trans q1)
    have d0 := hcell (j := 0) hq1
    have d1 := hcell (j := 1) hq1
    have d2 := hcell (j := 2) hq1
    have d3 := hcell (j := 3) hq1
    have fz := fun k => hfz (j := k) hq1
    have hsl2 := hlt hq1
    clear hq1 q1 s0 s1 s2 s3 hX hgood hany HB1 HFi HFt HLi HWi HTx HH hN1 hy hkm
    go_wp2
    exact bodyPost_ret (v := .tuple #[.agg #[.int .i64 0, .int .i64 0, .slice none 0 0, .int .i64 0], .bool false, .int .i64 4]) (by simp only [results, Tryz.results65]; simp [go_sem, *]) rfl ⟨_, rfl, fill_nw HQ.out (Nat.le_succ _) _ _ _ _, Rd.nil _, Nat.le_refl _, Fresh.nil _ _⟩
end Go.Proofs.YtodnlelnpidliaaGreat
end

/- The developers' package queue: without, Leave, Find, Mode. -/
section
namespace Go.Proofs.YtodnlelnpidliaaGreat
open Go.RowKit
set_option linter.unusedVariables false      -- a contract need not use every name

theorem at_plc (q : List Rq) (id : Int) : AtIs q id (plc (fun R => R.id == id) q) := by
  rcases plc_form (fun R => R.id == id) q with ⟨h1, h2⟩ | ⟨k, h1, hk, h3, h4⟩
  · refine .inl ⟨h1, ?_⟩
    unfold fnd
    rw [List.find?_eq_none]
    intro x hx; rw [h2 x hx]; simp
  · refine .inr ⟨k, h1, hk, ?_⟩
    unfold fnd
    have e := split_at q k hk
    conv => lhs; rw [e]
    rw [List.find?_append, List.find?_cons, h3]
    have : (q.take k).find? (fun r => r.id == id) = none := by
      rw [List.find?_eq_none]
      intro x hx
      obtain ⟨i, hi, rfl⟩ := List.getElem_of_mem hx
      simp at hi
      have := h4 i (by omega) (by omega)
      simpa using this
    rw [this]; rfl
theorem dWithIDn (i : Int) (w : World) : Calls Tryz.prog 88 #[.int .i64 i] w fun e w' => ∃ p, e = .returned (.func (.func 115) #[] #[.pointer (some ⟨p, 0, none⟩)]) ∧ Nw w w' ∧ w'.cell? ⟨p, 0, none⟩ = some (.int .i64 i) ∧ w.heap.size ≤ p := by
  go_enter Tryz.func88, Tryz.ntmps88
  go_wp2
  go_ret
  exact ⟨_, rfl, (Nw.refl _).alloc _, hcell (allocAt w _), Nat.le_refl _⟩
theorem rd_st {w : World} {v : Value} {q : List Rq} {w0 : World} (h : RqAt w v q) (hf : Fresh w0 v q) {p : Addr} (hp : p.block < w0.heap.size) (u : Value) : RqAt (w.setCell p u) v q := by
  obtain ⟨a, c, rfl, ⟨rfl, hh⟩ | ⟨b, o, rfl, hc⟩⟩ := h
  · exact ⟨a, c, rfl, .inl ⟨rfl, hh⟩⟩
  · rcases hf b o _ _ rfl with hb | rfl
    · refine ⟨_, c, rfl, .inr ⟨b, o, rfl, ⟨Nat.lt_of_lt_of_le hc.lt (sgrown w p u).size, fun i hi k x hx => ?_⟩⟩⟩
      have e := (sgrown w p u).block b hc.lt (fun e => by have := Option.some.inj e; omega)
      exact (World.cell?_of_block e).trans (hc.cell i hi k x hx)
    · exact ⟨_, c, rfl, .inr ⟨b, o, rfl, ⟨Nat.lt_of_lt_of_le hc.lt (sgrown w p u).size, fun i hi => by simp at hi⟩⟩⟩
theorem rd_fill {w : World} {v : Value} {q : List Rq} {w0 : World} (h : RqAt w v q) (hf : Fresh w0 v q) {rb : Nat} (hp : rb < w0.heap.size) (u0 u1 u2 u3 : Value) : RqAt ((((w.setCell ⟨rb, 0, none⟩ u0).setCell ⟨rb, 1, none⟩ u1).setCell ⟨rb, 2, none⟩ u2).setCell ⟨rb, 3, none⟩ u3) v q :=
  rd_st (rd_st (rd_st (rd_st h hf (p := ⟨rb, 0, none⟩) hp u0) hf (p := ⟨rb, 1, none⟩) hp u1) hf (p := ⟨rb, 2, none⟩) hp u2) hf (p := ⟨rb, 3, none⟩) hp u3
set_option maxRecDepth 100000 in
set_option maxHeartbeats 4000000 in
theorem dWithout (t r W id : Int) (v : Value) (q : List Rq) (w : World) (hl : q.length ≤ 1000) (h : RqAt w v q) :
    Calls Tryz.prog 100 #[hdV t r v W, .int .i64 id] w fun e w' => ∃ v', e = .returned (hdV t r v' W) ∧ Nw w w' ∧ RqAt w' v' (lvQ id q) ∧ capOk v' ∧ Fresh w v' (lvQ id q) := by
  have HCl := Lib.hid (fun (w1 : World) (g : Nw w w1) => dClone v q w1 hl (h.nw g))
  have HWi := Lib.hid (dWithIDn id)
  unfold hdV
  obtain ⟨a, c, rfl, _⟩ := h
  have HX := Lib.hid (two_boxes w (.cells #[.int .i64 t, .int .i64 r, .slice a q.length c, .int .i64 W] 56) (.cells #[.int .i64 0, .int .i64 0, .slice none 0 0, .int .i64 0] 56))
  go_enter Tryz.func100, Tryz.ntmps100
  go_wp2_with fail
  go_at_call 47
  refine (HCl.out _ HX.out.2.2.1).mono ?_
  rintro e w2 ⟨v1, rfl, g2, hO⟩
  have hq2 := g2.at' HX.out.2.1
  have hp2 := g2.at' HX.out.1
  have HQ := Lib.hid (And.intro hp2 (And.intro hq2 (HX.out.2.2.1.trans g2)))
  have hs2 : w.heap.size + 1 + 1 ≤ w2.heap.size := by have := g2.sz; rw [HX.out.2.2.2] at this; exact this
  have HO := Lib.hid (olow hO (g1 := w.heap.size + 1 + 1) (fun g hg => by have := oge hO hg; rw [HX.out.2.2.2] at this; exact this))
  clear hO g2 HCl HX hq2 hp2
  go_wp2_with fail
  go_at_call 88
  refine (HWi.out _).mono ?_
  rintro e w3 ⟨pa, rfl, g3, hc3, hge⟩
  have HD := Lib.hid (dDelete (fun R => R.id == id) _ (w.heap.size + 1 + 1) v1 q w3 hl (onw HO.out g3) (Tells.withID hc3) (fun w4 hT => by
    refine Tells.withID ((hT.cell (World.block_lt_of_cell? _ _ hc3) (fun e => ?_)).trans hc3)
    have := olt HO.out e
    simp only at this hge
    omega))
  have HG3 := Lib.hid g3
  obtain ⟨a1, c1, hv1⟩ := (RqOwn.rd HO.out).form
  subst hv1
  clear g3 hc3 hge HWi
  go_wp2_with fail
  go_at_call 126
  refine HD.out.mono ?_
  rintro e w4 ⟨v4, rfl, hR, hcap, hfr, hT⟩
  have HR := Lib.hid (And.intro hR (And.intro hcap (show Fresh ((w.alloc (.cells #[.int .i64 t, .int .i64 r, .slice a q.length c, .int .i64 W] 56)).alloc (.cells #[.int .i64 0, .int .i64 0, .slice none 0 0, .int .i64 0] 56)) v4 (lvQ id q) from fun b o n c e => by
    rcases hfr b o n c e with h | h
    · have := oge HO.out h
      exact .inl (by simpa using this)
    · exact .inr h)))
  have HN := Lib.hid (nw_tch (HQ.out.2.2.trans HG3.out) hT (fun i e => by have := oge HO.out e; omega))
  have hpl3 : w.heap.size < w3.heap.size := by have := HG3.out.sz; omega
  have hpl3' : w.heap.size + 1 < w3.heap.size := by have := HG3.out.sz; omega
  have hp4 := (hT.block w.heap.size hpl3 (fun e => by have := oge HO.out e; omega)).trans (HG3.out.at' HQ.out.1)
  have hq4 := (hT.block (w.heap.size + 1) hpl3' (fun e => by have := oge HO.out e; omega)).trans (HG3.out.at' HQ.out.2.1)
  obtain ⟨a4, c4, hv4⟩ := hR.form
  obtain ⟨n4, hn4⟩ : ∃ n, (outQ (fun R => R.id == id) q).length = n := ⟨_, rfl⟩
  rw [hn4] at hv4
  subst hv4
  have c0 := hcell (j := 0) hp4
  have c1' := hcell (j := 1) hp4
  have c2 := hcell (j := 2) hp4
  have c3 := hcell (j := 3) hp4
  have fp := fun k => hfz (j := k) hp4
  have d0 := hcell (j := 0) hq4
  have d1 := hcell (j := 1) hq4
  have d2 := hcell (j := 2) hq4
  have d3 := hcell (j := 3) hq4
  have fz := fun k => hfz (j := k) hq4
  have hs4 := hlt hp4
  have hs5 := hlt hq4
  clear hp4 hq4 hT hR hcap hn4 hpl3 hpl3' HD HO HG3 HQ hs2
  go_wp2
  exact bodyPost_ret (v := .agg #[.int .i64 t, .int .i64 r, .slice a4 n4 c4, .int .i64 W]) (by simp only [results, Tryz.results100]; simp [go_sem, *]) rfl ⟨_, rfl, fill_nw (HN.out.st (Nat.le_refl _) _) (Nat.le_succ _) _ _ _ _, rd_fill (w0 := (w.alloc (.cells #[.int .i64 t, .int .i64 r, .slice a q.length c, .int .i64 W] 56)).alloc (.cells #[.int .i64 0, .int .i64 0, .slice none 0 0, .int .i64 0] 56)) (rd_st (w0 := (w.alloc (.cells #[.int .i64 t, .int .i64 r, .slice a q.length c, .int .i64 W] 56)).alloc (.cells #[.int .i64 0, .int .i64 0, .slice none 0 0, .int .i64 0] 56)) HR.out.1 HR.out.2.2 (p := ⟨w.heap.size, 2, none⟩) (by simp; omega) _) HR.out.2.2 (by simp) _ _ _ _, HR.out.2.1, fun b o n c e => (HR.out.2.2 b o n c e).imp (fun h => by simp at h; omega) (fun h => h)⟩
set_option maxRecDepth 100000 in
set_option maxHeartbeats 4000000 in
theorem dFindQ (t r W id : Int) (v : Value) (q : List Rq) (w : World) (hl : q.length ≤ 1000) (h : RqAt w v q) :
    Calls Tryz.prog 52 #[hdV t r v W, .int .i64 id] w fun e w' => e = .returned (fndV q id) ∧ Nw w w' := by
  obtain ⟨V, hV⟩ : ∃ V, fndV q id = V := ⟨_, rfl⟩
  rw [hV]
  obtain ⟨px, hpx⟩ : ∃ px, plc (fun R => R.id == id) q = px := ⟨_, rfl⟩
  have hFi := fun (w1 : World) (g : Nw w w1) (f : Value) (hf : Tells w1 f (fun R => R.id == id)) => dFind t r W v f _ q w1 hl (h.nw g) hf
  rw [hpx] at hFi
  have HAt := Lib.hid h
  obtain ⟨a, c, rfl, _⟩ := h
  unfold hdV at hFi ⊢
  have HFi := Lib.hid hFi
  clear hFi
  have HWi := Lib.hid (dWithID id)
  obtain ⟨hx1, hx2, hx3, hx4⟩ := two_boxes w (.cells #[.int .i64 t, .int .i64 r, .slice a q.length c, .int .i64 W] 56) (.cells #[.int .i64 0, .int .i64 0, .int .i64 0, .int .i64 0, .int .i64 0] 47)
  obtain ⟨w1, hw1⟩ : ∃ w1, (w.alloc (.cells #[.int .i64 t, .int .i64 r, .slice a q.length c, .int .i64 W] 56)).alloc (.cells #[.int .i64 0, .int .i64 0, .int .i64 0, .int .i64 0, .int .i64 0] 47) = w1 := ⟨_, rfl⟩
  rw [hw1] at hx1 hx2 hx3
  have HB1 := Lib.hid (And.intro (And.intro hx1 hx2) hx3)
  have s0 : ∀ z, Nw w1 z → z.cell? ⟨w.heap.size, 0, none⟩ = some (.int .i64 t) := fun z hz => hz.kp (hcell (j := 0) hx1)
  have s1 : ∀ z, Nw w1 z → z.cell? ⟨w.heap.size, 1, none⟩ = some (.int .i64 r) := fun z hz => hz.kp (hcell (j := 1) hx1)
  have s2 : ∀ z, Nw w1 z → z.cell? ⟨w.heap.size, 2, none⟩ = some (.slice a q.length c) := fun z hz => hz.kp (hcell (j := 2) hx1)
  have s3 : ∀ z, Nw w1 z → z.cell? ⟨w.heap.size, 3, none⟩ = some (.int .i64 W) := fun z hz => hz.kp (hcell (j := 3) hx1)
  clear hx1 hx2 hx3 hx4
  have HW1 := Lib.hid hw1
  clear hw1
  have q1 := (Nw.refl w1).drewQ
  obtain ⟨wc, hwc⟩ : ∃ wc, w1.drew = wc := ⟨_, rfl⟩
  go_enter Tryz.func52, Tryz.ntmps52
  go_wp2
  rw [HW1.out]
  refine region_told [some true, some true, some false, none, some false, none, some true] (Nw w1) (by kernel_rfl) (by kernel_rfl) (by kernel_rfl) q1 ?_
  rw [hwc] at q1 ⊢
  clear hwc
  repeat (first
    | (refine HW.off ?_)
    | (refine HW.take' ?_; (first | (refine ⟨undef, Or.inr ⟨by rfl, rfl⟩, ?_⟩) | (apply Exists.intro; refine ⟨Or.inl ⟨by rfl, ?_⟩, ?_⟩; (intro x hx; go_simp; first | done | with_reducible rfl))); (try simp only [Act.put, List.setIfInBounds_toArray, List.set_cons_zero, List.set_cons_succ]))
    | (refine HW.go (fun K hK => ?_); go_simp; (first
      | (go_at_call 88; (with_reducible refine (HWi.out _).mono ?_); rintro e wy ⟨pa, rfl, g2, hbx⟩; refine hK.out _ _ (q1.trans g2) ?_; intro _; replace q1 := q1.trans g2; clear hK K g2; replace hbx := Tells.withID hbx)
      | (go_at_call 87; (with_reducible refine (HFi.out _ (HB1.out.2.trans q1) _ hbx).mono ?_); rintro e wy ⟨rfl, g2⟩; refine hK.out _ _ (q1.trans g2) ?_; intro _; replace q1 := q1.trans g2; clear hK K g2 hbx)
      | (refine hK.out _ _ q1 ?_; intro _; clear hK K))))
  refine HW.end_ ?_
  refine NoPanic.normal ?_
  have HN := Lib.hid (HB1.out.2.trans q1)
  have hp1 := q1.at' HB1.out.1.1
  have hq1 := q1.at' HB1.out.1.2
  have c0 := hcell (j := 0) hp1
  have c1 := hcell (j := 1) hp1
  have c2 := hcell (j := 2) hp1
  have c3 := hcell (j := 3) hp1
  have hpl := hlt hp1
  have d0 := hcell (j := 0) hq1
  have d1 := hcell (j := 1) hq1
  have d2 := hcell (j := 2) hq1
  have d3 := hcell (j := 3) hq1
  have d4 := hcell (j := 4) hq1
  have fz := fun k => hfz (j := k) hq1
  have hsl2 := hlt hq1
  rcases at_plc q id with ⟨e1, hf⟩ | ⟨k, e1, hk, hf⟩
  · obtain rfl := hpx.symm.trans e1
    have HF := Lib.hid (hV.symm.trans (show fndV q id = .tuple #[rqV ⟨0, 0, 0, 0, 0⟩, .bool false] by unfold fndV; rw [hf]))
    clear hpx hV e1 hf s0 s1 s2 s3 HB1 HFi HWi HAt HW1 q1 hp1 hq1
    go_wp2
    refine bodyPost_ret (v := .tuple #[.agg #[.int .i64 0, .int .i64 0, .int .i64 0, .int .i64 0, .int .i64 0], .bool false]) (by simp only [results, Tryz.results52]; simp [go_sem, *]) rfl ⟨by rw [HF.out]; rfl, ?_⟩
    exact ((((HN.out.st (Nat.le_succ _) _).st (Nat.le_succ _) _).st (Nat.le_succ _) _).st (Nat.le_succ _) _).st (Nat.le_succ _) _
  · obtain rfl := hpx.symm.trans e1
    rcases (HAt.out.nw HN.out) with ⟨a', c', e3, ⟨e4, _⟩ | ⟨b, o, e4, hc⟩⟩
    · subst e4; simp at hk
    simp only [Value.slice.injEq, true_and] at e3
    obtain ⟨rfl, rfl⟩ := e3
    subst e4
    have hce := hc.cell k hk
    have dk : ((k : Int) == -1) = false := by simp
    have hki : (k : Int) < (q.length : Int) := by omega
    have HF := Lib.hid (hV.symm.trans (show fndV q id = .tuple #[rqV q[k], .bool true] by unfold fndV; rw [hf]))
    clear hpx hV e1 hf s0 s1 s2 s3 HB1 HFi HWi HAt HW1 q1 hp1 hq1 hc
    generalize q[k] = R at *
    obtain ⟨b0, b1, b2, b3, b4⟩ := R
    have m0 := hce 0 _ rfl
    have m1 := hce 1 _ rfl
    have m2 := hce 2 _ rfl
    have m3 := hce 3 _ rfl
    have m4 := hce 4 _ rfl
    simp only [Nat.add_zero] at m0
    clear hce
    go_wp2
    refine bodyPost_ret (v := .tuple #[.agg #[.int .i64 b0, .int .i64 b1, .int .i64 b2, .int .i64 b3, .int .i64 b4], .bool true]) (by simp only [results, Tryz.results52]; simp [go_sem, *]) rfl ⟨by rw [HF.out]; rfl, ?_⟩
    exact ((((HN.out.st (Nat.le_succ _) _).st (Nat.le_succ _) _).st (Nat.le_succ _) _).st (Nat.le_succ _) _).st (Nat.le_succ _) _
set_option maxRecDepth 100000 in
set_option maxHeartbeats 4000000 in
theorem dLeave (t r W id : Int) (v : Value) (q : List Rq) (w : World) (hl : q.length ≤ 1000) (h : RqAt w v q) :
    Calls Tryz.prog 70 #[hdV t r v W, .int .i64 id] w (HD1 (lvR ⟨t, r, W, q⟩ id) w) := by
  obtain ⟨X, hX⟩ : ∃ X, lvR ⟨t, r, W, q⟩ id = X := ⟨_, rfl⟩
  rw [hX]
  unfold HD1
  have HWo := Lib.hid (fun (w1 : World) (g : Nw w w1) => dWithout t r W id v q w1 hl (h.nw g))
  unfold hdV at HWo
  obtain ⟨px, hpx⟩ : ∃ px, plc (fun R => R.id == id) q = px := ⟨_, rfl⟩
  have hFi := fun (w1 : World) (g : Nw w w1) (f : Value) (hf : Tells w1 f (fun R => R.id == id)) => dFind t r W v f _ q w1 hl (h.nw g) hf
  rw [hpx] at hFi
  have HAt := Lib.hid h
  obtain ⟨a, c, rfl, _⟩ := h
  unfold hdV at hFi ⊢
  have HFi := Lib.hid hFi
  clear hFi
  have HWi := Lib.hid (dWithID id)
  obtain ⟨hx1, hx2, hx3, hx4⟩ := two_boxes w (.cells #[.int .i64 t, .int .i64 r, .slice a q.length c, .int .i64 W] 56) (.cells #[.int .i64 0, .int .i64 0, .slice none 0 0, .int .i64 0] 56)
  obtain ⟨w1, hw1⟩ : ∃ w1, (w.alloc (.cells #[.int .i64 t, .int .i64 r, .slice a q.length c, .int .i64 W] 56)).alloc (.cells #[.int .i64 0, .int .i64 0, .slice none 0 0, .int .i64 0] 56) = w1 := ⟨_, rfl⟩
  rw [hw1] at hx1 hx2 hx3
  have HB1 := Lib.hid (And.intro (And.intro hx1 hx2) hx3)
  have s0 : ∀ z, Nw w1 z → z.cell? ⟨w.heap.size, 0, none⟩ = some (.int .i64 t) := fun z hz => hz.kp (hcell (j := 0) hx1)
  have s1 : ∀ z, Nw w1 z → z.cell? ⟨w.heap.size, 1, none⟩ = some (.int .i64 r) := fun z hz => hz.kp (hcell (j := 1) hx1)
  have s2 : ∀ z, Nw w1 z → z.cell? ⟨w.heap.size, 2, none⟩ = some (.slice a q.length c) := fun z hz => hz.kp (hcell (j := 2) hx1)
  have s3 : ∀ z, Nw w1 z → z.cell? ⟨w.heap.size, 3, none⟩ = some (.int .i64 W) := fun z hz => hz.kp (hcell (j := 3) hx1)
  clear hx1 hx2 hx3 hx4
  have HW1 := Lib.hid hw1
  clear hw1
  have q1 := (Nw.refl w1).drewQ
  obtain ⟨wc, hwc⟩ : ∃ wc, w1.drew = wc := ⟨_, rfl⟩
  go_enter Tryz.func70, Tryz.ntmps70
  go_wp2
  rw [HW1.out]
  refine region_told [some true, some true, some false, none, some false, none, some true] (Nw w1) (by kernel_rfl) (by kernel_rfl) (by kernel_rfl) q1 ?_
  rw [hwc] at q1 ⊢
  clear hwc
  repeat (first
    | (refine HW.off ?_)
    | (refine HW.take' ?_; (first | (refine ⟨undef, Or.inr ⟨by rfl, rfl⟩, ?_⟩) | (apply Exists.intro; refine ⟨Or.inl ⟨by rfl, ?_⟩, ?_⟩; (intro x hx; go_simp; first | done | with_reducible rfl))); (try simp only [Act.put, List.setIfInBounds_toArray, List.set_cons_zero, List.set_cons_succ]))
    | (refine HW.go (fun K hK => ?_); go_simp; (first
      | (go_at_call 88; (with_reducible refine (HWi.out _).mono ?_); rintro e wy ⟨pa, rfl, g2, hbx⟩; refine hK.out _ _ (q1.trans g2) ?_; intro _; replace q1 := q1.trans g2; clear hK K g2; replace hbx := Tells.withID hbx)
      | (go_at_call 87; (with_reducible refine (HFi.out _ (HB1.out.2.trans q1) _ hbx).mono ?_); rintro e wy ⟨rfl, g2⟩; refine hK.out _ _ (q1.trans g2) ?_; intro _; replace q1 := q1.trans g2; clear hK K g2 hbx)
      | (refine hK.out _ _ q1 ?_; intro _; clear hK K))))
  refine HW.end_ ?_
  refine NoPanic.normal ?_
  have HN := Lib.hid (HB1.out.2.trans q1)
  have hp1 := q1.at' HB1.out.1.1
  have hq1 := q1.at' HB1.out.1.2
  have c0 := hcell (j := 0) hp1
  have c1 := hcell (j := 1) hp1
  have c2 := hcell (j := 2) hp1
  have c3 := hcell (j := 3) hp1
  have hpl := hlt hp1
  rcases at_plc q id with ⟨e1, hf⟩ | ⟨k, e1, hk, hf⟩
  · obtain rfl := hpx.symm.trans e1
    have hR := hX.symm.trans (show lvR ⟨t, r, W, q⟩ id = (noH, 5) by unfold lvR; rw [hf])
    subst hR
    have d0 := hcell (j := 0) hq1
    have d1 := hcell (j := 1) hq1
    have d2 := hcell (j := 2) hq1
    have d3 := hcell (j := 3) hq1
    have fz := fun k => hfz (j := k) hq1
    have hsl2 := hlt hq1
    clear hpx hX e1 hf s0 s1 s2 s3 HB1 HFi HWi HAt HW1 q1 hp1 hq1 HWo
    go_wp2
    exact bodyPost_ret (v := .tuple #[.agg #[.int .i64 0, .int .i64 0, .slice none 0 0, .int .i64 0], .int .i64 5]) (by simp only [results, Tryz.results70]; simp [go_sem, *]) rfl ⟨_, rfl, fill_nw HN.out (Nat.le_succ _) _ _ _ _, Rd.nil _, Nat.le_refl _, Fresh.nil _ _⟩
  · obtain rfl := hpx.symm.trans e1
    have dk : ((k : Int) == -1) = false := by simp
    have hR := hX.symm.trans (show lvR ⟨t, r, W, q⟩ id = (⟨t, r, W, lvQ id q⟩, 0) by unfold lvR; rw [hf])
    subst hR
    have HQ := Lib.hid hq1
    have HWo2 := Lib.hid (HWo.out _ HN.out)
    clear hpx hX e1 hf s0 s1 s2 s3 HB1 HFi HWi HAt HW1 q1 hp1 hq1 HWo
    go_wp2_with fail
    go_at_call 100
    refine HWo2.out.mono ?_
    rintro e w2 ⟨v2, rfl, g2, hR, hcap, hfr⟩
    have hs := Lib.hid (hlt HQ.out)
    have hq2 := g2.at' HQ.out
    have HR := Lib.hid (And.intro hR (And.intro hcap hfr))
    have HN2 := Lib.hid (HN.out.trans g2)
    have HN1 := Lib.hid HN.out
    obtain ⟨a2, k2, hv2⟩ := hR.form
    obtain ⟨n2, hn2⟩ : ∃ n, (lvQ id q).length = n := ⟨_, rfl⟩
    rw [hn2] at hv2
    subst hv2
    have d0 := hcell (j := 0) hq2
    have d1 := hcell (j := 1) hq2
    have d2 := hcell (j := 2) hq2
    have d3 := hcell (j := 3) hq2
    have fz := fun k => hfz (j := k) hq2
    have hsl2 := hlt hq2
    clear hq2 hR hcap hfr g2 hn2 HQ HWo2 HN
    go_wp2
    exact bodyPost_ret (v := .tuple #[.agg #[.int .i64 t, .int .i64 r, .slice a2 n2 k2, .int .i64 W], .int .i64 0]) (by simp only [results, Tryz.results70]; simp [go_sem, *]) rfl ⟨_, rfl, fill_nw HN2.out (Nat.le_succ _) _ _ _ _, rd_fill HR.out.1 HR.out.2.2 hs.out _ _ _ _, HR.out.2.1, HR.out.2.2.old HN1.out⟩
end Go.Proofs.YtodnlelnpidliaaGreat
end
