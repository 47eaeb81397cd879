/- Texts merged: QuN, QuO, QuQ, QvI, QvO, QvP, QuV -/
import Derived.Test.YtmciiobncfchlaaQueueTurnsB7

/- The document's own queue: Ask. -/
section
namespace Go.Proofs.Ytmciiobncfchlaa
open Go.RowKit
set_option linter.unusedVariables false      -- a contract need not use every name

/-- What a call gives that returns a head, whether it was granted, and an error. -/
def HR2 (X : Hq × Bool × Int) (w : World) (e : Ending) (w' : World) : Prop := ∃ v', e = .returned (.tuple #[hdV X.1.t X.1.r v' X.1.W, .bool X.2.1, .int .i64 X.2.2]) ∧ Nw w w' ∧ RqAt w' v' X.1.q ∧ capOk v'
theorem free_iff {W : Int} {q : List Rq} (h : Ok W q) (m : Int) : free q m = true ↔ (∀ a ∈ q, ¬ isUp a) ∧ (∀ a ∈ q, a.md ≠ 0) ∧ fitI q m (-1) := by
  constructor
  · intro hf
    have hf' : ∀ a ∈ q, a.sn = 0 ∧ cpI a.md m = true := by
      intro a ha
      have := List.all_eq_true.1 hf a ha
      simpa using this
    exact ⟨fun a ha u => by have := (hf' a ha).1; have := u.2; omega, fun a ha => ((h.rt a ha).h (hf' a ha).1).1, fun k hk _ _ => (hf' _ (List.getElem_mem hk)).2⟩
  · rintro ⟨h1, h2, h3⟩
    refine List.all_eq_true.2 fun a ha => ?_
    obtain ⟨k, hk, rfl⟩ := List.getElem_of_mem ha
    have hm := h2 _ ha
    have s0 := (h.rt _ ha).s0
    have hs : q[k].sn = 0 := by
      have := h1 _ ha
      unfold isUp at this
      have : ¬ 0 < q[k].sn := fun e => this ⟨hm, e⟩
      omega
    simp [hs, h3 k hk (by omega) hm]
theorem ask_bad {h : Hq} {id txn m : Int} (e : id < 0 ∨ m = 0 ∨ knI m = false) : askR h id txn m = (noH, false, 2) := by
  unfold askR
  have : askE h.q id txn m = 2 := by unfold askE; rw [if_pos e]
  rw [this]; rfl
theorem ask_two {h : Hq} {id txn m : Int} (e : ¬ (id < 0 ∨ m = 0 ∨ knI m = false)) (a : (h.q.any fun r => r.id == id || r.txn == txn) = true) : askR h id txn m = (noH, false, 4) := by
  unfold askR
  have : askE h.q id txn m = 4 := by unfold askE; rw [if_neg e, if_pos a]
  rw [this]; rfl
theorem ask_yes {h : Hq} {id txn m : Int} (e : ¬ (id < 0 ∨ m = 0 ∨ knI m = false)) (a : (h.q.any fun r => r.id == id || r.txn == txn) = false) (f : free h.q m = true) : askR h id txn m = (⟨h.t, h.r, h.W, h.q ++ [⟨id, txn, m, m, 0⟩]⟩, true, 0) := by
  unfold askR
  have : askE h.q id txn m = 0 := by unfold askE; rw [if_neg e, if_neg (by rw [a]; simp)]
  rw [this, if_pos rfl]; unfold askQ; rw [if_pos f]
theorem ask_no {h : Hq} {id txn m : Int} (e : ¬ (id < 0 ∨ m = 0 ∨ knI m = false)) (a : (h.q.any fun r => r.id == id || r.txn == txn) = false) (f : ¬ free h.q m = true) : askR h id txn m = (⟨h.t, h.r, h.W + 1, h.q ++ [⟨id, txn, 0, m, h.W + 1⟩]⟩, false, 0) := by
  unfold askR
  have : askE h.q id txn m = 0 := by unfold askE; rw [if_neg e, if_neg (by rw [a]; simp)]
  rw [this, if_pos rfl]; unfold askQ; rw [if_neg f]
theorem any_take {p : Rq → Bool} {q : List Rq} {k : Nat} (hk : k < q.length) (h : p q[k] = true) : q.any p = true := List.any_eq_true.2 ⟨_, List.getElem_mem hk, h⟩
theorem any_none {p : Rq → Bool} {q : List Rq} (h : ∀ k (hk : k < q.length), p q[k] = false) : q.any p = false := by
  rw [List.any_eq_false]
  intro a ha
  obtain ⟨k, hk, rfl⟩ := List.getElem_of_mem ha
  simp [h k hk]
theorem box_row (w : World) (a b c d e : Int) (T : TypeId) : ∀ j u, (rqrow ⟨a, b, c, d, e⟩)[j]? = some u → (w.alloc (.cells #[.int .i64 a, .int .i64 b, .int .i64 c, .int .i64 d, .int .i64 e] T)).cell? ⟨w.heap.size, j, none⟩ = some u := by
  intro j u hu
  rw [hcell (allocAt w _), ← Array.getElem?_toList]
  exact hu
/-- An append of one request to the row of a head's own. -/
theorem push_one {w z : World} {g0 pb n1 k1 : Nat} {a1 : Option Addr} {q : List Rq} (hz : Nw w z) (hg : w.heap.size ≤ g0) (h : RqOwn z g0 (.slice a1 n1 k1) q) (hl : q.length ≤ 1000) (a b c d e : Int) (hpb : pb < z.heap.size) (hg0 : g0 ≤ z.heap.size) (hne : ∀ g, (Value.slice a1 n1 k1).ownBlock = some g → g ≠ pb) :
    ∃ a2 n2 k2 w2, (Builtin.append_ #[25, 25] 25 #[.slice a1 n1 k1, .slice (some ⟨z.heap.size, 0, none⟩) 1 1]).run Try.prog (z.alloc (.cells #[.int .i64 a, .int .i64 b, .int .i64 c, .int .i64 d, .int .i64 e] 41)) = .ok (.slice a2 n2 k2) w2 ∧
      RqOwn w2 g0 (.slice a2 n2 k2) (q ++ [⟨a, b, c, d, e⟩]) ∧ Nw w w2 ∧ (∀ x, x < z.heap.size → (∀ g, (Value.slice a1 n1 k1).ownBlock = some g → x ≠ g) → w2.heap[x]? = z.heap[x]?) ∧ (∀ x, (Value.slice a2 n2 k2).ownBlock = some x → x ≠ pb) := by
  have hN : Nw z (z.alloc (.cells #[.int .i64 a, .int .i64 b, .int .i64 c, .int .i64 d, .int .i64 e] 41)) := (Nw.refl z).alloc _
  obtain ⟨v', w2, hrun, hR, hG, hbk, g2, k2, hv⟩ := Own.push elemRq (onw h hN) ⟨a, b, c, d, e⟩ z.heap.size 1 (box_row z a b c d e _) (by omega) (Nat.le_trans hg0 hN.sz)
  subst hv
  refine ⟨_, _, _, w2, hrun, hR, (hz.trans hN).gro hG (fun x hx => Nat.le_trans hg (oge h hx)), fun x hx hxg => (hG.block x (Nat.lt_of_lt_of_le hx hN.sz) (fun e => hxg x e.symm rfl)).trans (hN.block x hx), fun x hx e => ?_⟩
  subst e
  have hs : (z.alloc (.cells #[.int .i64 a, .int .i64 b, .int .i64 c, .int .i64 d, .int .i64 e] 41)).heap.size = z.heap.size + 1 := by simp
  rcases hbk with q1 | q1
  · rw [hx] at q1; exact hne x q1.symm rfl
  · rw [hx] at q1; have e2 : x = (z.alloc (.cells #[.int .i64 a, .int .i64 b, .int .i64 c, .int .i64 d, .int .i64 e] 41)).heap.size := Option.some.inj q1; omega
end Go.Proofs.Ytmciiobncfchlaa
end

/- The checker's kit on heads: Own, OwnHead, LightHeads. -/
section
namespace Go.Proofs.Ytmciiobncfchlaa
open Go.RowKit
set_option linter.unusedVariables false      -- a contract need not use every name

theorem kOwn (v : Value) (q : List Rq) (w : World) (hl : q.length ≤ 1000) (h : RqAt w v q) :
    Calls Try.prog 49 #[v] w fun e w' => ∃ v', e = .returned v' ∧ Nw w w' ∧ RqOwn w' w.heap.size v' q := by
  obtain ⟨v', w1, hrun, hO, hN⟩ := own_clone elemRq h (by omega)
  obtain ⟨a, c, rfl⟩ := h.form
  have HR := Lib.hid hrun
  have HO := Lib.hid (And.intro hN hO)
  clear hrun hO hN h
  go_enter Try.func49, Try.ntmps49
  go_wp2_with (at_builtin; refine wpl_app (by rfl) (.tmp 3) (.tmp 4) 25 rfl _ _ _ _ rfl rfl HR.out ?_)
  go_ret
  exact ⟨_, rfl, HO.out.1, HO.out.2⟩
set_option maxHeartbeats 2000000 in
theorem kOwnHead (t r W : Int) (v : Value) (q : List Rq) (w : World) (hl : q.length ≤ 1000) (h : RqAt w v q) :
    Calls Try.prog 16 #[hdV t r v W] w fun e w' => ∃ v', e = .returned (hdV t r v' W) ∧ Nw w w' ∧ RqOwn w' w.heap.size v' q := by
  have HK := Lib.hid (fun (w1 : World) (g : Nw w w1) => kOwn v q w1 hl (h.nw g))
  unfold hdV
  obtain ⟨a, c, rfl, h⟩ := h
  clear h
  have HX := Lib.hid (two_boxes w (.cells #[.int .i64 t, .int .i64 r, .slice a q.length c, .int .i64 W] 27) (.cells #[.int .i64 0, .int .i64 0, .slice none 0 0, .int .i64 0] 27))
  go_enter Try.func16, Try.ntmps16
  go_wp2_with fail
  refine (HK.out _ HX.out.2.2.1).mono ?_
  rintro e w1 ⟨v1, rfl, g1, hO⟩
  obtain ⟨a1, k1, rfl⟩ := (RqOwn.rd hO).form
  have hp := g1.at' HX.out.1
  have hq := g1.at' HX.out.2.1
  have hN := HX.out.2.2.1.trans g1
  rw [HX.out.2.2.2] at hO
  have c0 := hcell (j := 0) hp
  have c1 := hcell (j := 1) hp
  have c2 := hcell (j := 2) hp
  have c3 := hcell (j := 3) hp
  have fz' := fun k => hfz (j := k) hp
  have d0 := hcell (j := 0) hq
  have d1 := hcell (j := 1) hq
  have d2 := hcell (j := 2) hq
  have d3 := hcell (j := 3) hq
  have fz := fun k => hfz (j := k) hq
  have HO := Lib.hid (And.intro hN hO)
  clear hp hq hN hO HX HK g1
  go_wp2
  refine bodyPost_ret (v := .agg #[.int .i64 t, .int .i64 r, .slice a1 q.length k1, .int .i64 W]) (by simp [results, Try.results16, go_sem, *]) rfl ⟨_, rfl, fill_nw (HO.out.1.st (Nat.le_refl _) _) (Nat.le_succ _) _ _ _ _, ?_⟩
  have h5 := own_st HO.out.2 (p := ⟨w.heap.size, 2, none⟩) (by show w.heap.size < _; omega) (.slice a1 q.length k1)
  have hr := fill_own (rb := w.heap.size + 1) h5 (by omega) (.int .i64 t) (.int .i64 r) (.slice a1 q.length k1) (.int .i64 W)
  exact olow hr (fun g hg => by have := oge hr hg; omega)
end Go.Proofs.Ytmciiobncfchlaa
end

/- The document's own queue: Upgrade. -/
section
namespace Go.Proofs.Ytmciiobncfchlaa
open Go.RowKit
set_option linter.unusedVariables false      -- a contract need not use every name

theorem upF_iff {W : Int} {q : List Rq} (h : Ok W q) {k : Nat} (hk : k < q.length) (hs : q[k].sn = 0) (want : Int) : upF q q[k] want = true ↔ fitI q want k ∧ ∀ a ∈ q, ¬ isUp a := by
  constructor
  · intro hf
    have hf' : ∀ o ∈ q, o.id ≠ q[k].id → ¬ (0 < o.sn ∧ o.md ≠ 0) ∧ (o.md = 0 ∨ cpI o.md want = true) := by
      intro o ho ne
      have := List.all_eq_true.1 hf o ho
      simp [ne] at this
      refine ⟨fun e => ?_, this.2⟩
      rcases this.1 with q1 | q1
      · have := e.1; omega
      · exact e.2 q1
    refine ⟨fun j hj ne hm => ?_, fun a ha u => ?_⟩
    · exact (hf' _ (List.getElem_mem hj) (id_ne h hj hk (by omega))).2.resolve_left hm
    · obtain ⟨j, hj, rfl⟩ := List.getElem_of_mem ha
      by_cases e : j = k
      · subst e; have := u.2; omega
      · exact (hf' _ (List.getElem_mem hj) (id_ne h hj hk e)).1 ⟨u.2, u.1⟩
  · rintro ⟨h1, h2⟩
    refine List.all_eq_true.2 fun a ha => ?_
    obtain ⟨j, hj, rfl⟩ := List.getElem_of_mem ha
    by_cases e : j = k
    · subst e; simp
    · have hu := h2 _ ha
      have hne := id_ne h hj hk e
      by_cases hm : q[j].md = 0
      · simp [hm]
      · have hsn : ¬ 0 < q[j].sn := fun e => hu ⟨hm, e⟩
        simp [hne, hm, h1 j hj (by omega) hm]
        omega
theorem up_bad {h : Hq} {id m : Int} (e : m = 0 ∨ knI m = false) : upR h id m = (noH, false, 2) := by unfold upR; rw [if_pos e]
theorem up_none {h : Hq} {id m : Int} (e : ¬ (m = 0 ∨ knI m = false)) (f : fnd h.q id = none) : upR h id m = (noH, false, 5) := by unfold upR; rw [if_neg e, f]
theorem up_wait {h : Hq} {id m : Int} {R : Rq} (e : ¬ (m = 0 ∨ knI m = false)) (f : fnd h.q id = some R) (s : 0 < R.sn) : upR h id m = (noH, false, 7) := by unfold upR; rw [if_neg e, f]; exact if_pos s
theorem up_go {h : Hq} {id m : Int} {R : Rq} (e : ¬ (m = 0 ∨ knI m = false)) (f : fnd h.q id = some R) (s : ¬ 0 < R.sn) : upR h id m = (⟨h.t, h.r, (upQ h.W h.q R m).1, (upQ h.W h.q R m).2.1⟩, (upQ h.W h.q R m).2.2, 0) := by unfold upR; rw [if_neg e, f]; exact if_neg s
theorem set_self {q : List Rq} {k : Nat} (hk : k < q.length) (x : Rq) (e : x = q[k]) : q.set k x = q := by subst e; exact List.set_getElem_self hk
end Go.Proofs.Ytmciiobncfchlaa
end

/- Plain facts: what fits beside counts, who is ahead: as asks and upgrades have it. -/
section
namespace Go.Proofs.Ytmciiobncfchlaa
open Go.RowKit
set_option linter.unusedVariables false

theorem split_at {α : Type} (q : List α) (k : Nat) (hk : k < q.length) : q = q.take k ++ q[k] :: q.drop (k + 1) := by rw [← List.drop_eq_getElem_cons hk, List.take_append_drop]
theorem set_at {α : Type} (q : List α) (k : Nat) (hk : k < q.length) (x : α) : q.set k x = q.take k ++ x :: q.drop (k + 1) := by
  have := set_mid (q.take k) (q.drop (k + 1)) q[k] x k (by simp; omega)
  rwa [← split_at q k hk] at this
theorem cnt_at (q : List Rq) (k : Nat) (hk : k < q.length) (x : Int) : cntQ q x - (if x = q[k].md then 1 else 0) = (((q.take k ++ q.drop (k + 1)).countP fun R => R.md == x : Nat) : Int) := by
  have : cntQ q x = cntQ (q.take k ++ q[k] :: q.drop (k + 1)) x := by rw [← split_at q k hk]
  rw [this]
  unfold cntQ
  rw [List.countP_append, List.countP_cons, List.countP_append]
  simp only [beq_iff_eq]
  by_cases e : x = q[k].md
  · rw [if_pos e, if_pos e.symm]; omega
  · rw [if_neg e, if_neg (fun y => e y.symm)]; omega
/-- What fits beside all but one. -/
theorem fit_all (q : List Rq) (k : Nat) (hk : k < q.length) (m : Int) (hkn : ∀ R ∈ q, knI R.md = true) : fitB (cntQ q) q[k].md m = (q.take k ++ q.drop (k + 1)).all fun a => cpI a.md m := by
  rw [Bool.eq_iff_iff, fitB_iff, List.all_eq_true]
  have hsub : ∀ a ∈ q.take k ++ q.drop (k + 1), a ∈ q := fun a ha => by
    rcases List.mem_append.1 ha with h | h
    · exact List.mem_of_mem_take h
    · exact List.mem_of_mem_drop h
  constructor
  · intro h a ha
    have h1 := h a.md (hkn a (hsub a ha))
    unfold okK at h1
    rw [cnt_at q k hk] at h1
    have h2 : 0 < (q.take k ++ q.drop (k + 1)).countP fun R => R.md == a.md := List.countP_pos_iff.2 ⟨a, ha, by simp⟩
    rw [Bool.or_eq_true, decide_eq_true_eq] at h1
    rcases h1 with h1 | h1
    · omega
    · exact h1
  · intro h x hx
    unfold okK
    rw [cnt_at q k hk, Bool.or_eq_true, decide_eq_true_eq]
    by_cases c : 0 < (q.take k ++ q.drop (k + 1)).countP fun R => R.md == x
    · obtain ⟨a, ha, e⟩ := List.countP_pos_iff.1 c
      have e' : a.md = x := by simpa using e
      exact .inr (e' ▸ h a ha)
    · exact .inl (by omega)
theorem ho_lt {a b : Rq} (h1 : a.md ≠ 0) (h2 : b.md = 0) : toI a b < 0 := by
  have : hoI a b = -1 := by unfold hoI; simp [h1, h2]
  unfold toI; rw [this, if_pos (by decide)]; decide
theorem ho_gt {a b : Rq} (h1 : a.md = 0) (h2 : b.md ≠ 0) : ¬ toI a b < 0 := by
  have : hoI a b = 1 := by unfold hoI; simp [h1, h2]
  unfold toI; rw [this, if_pos (by decide)]; decide
theorem ho_eq {a b : Rq} (h : a.md = 0 ↔ b.md = 0) : toI a b = cmI a.sn b.sn := by
  have e : (a.md != 0) = (b.md != 0) := by
    by_cases z : a.md = 0
    · rw [z, h.1 z]
    · have y : b.md ≠ 0 := fun e => z (h.2 e)
      rw [bne_iff_ne.2 z, bne_iff_ne.2 y]
  have : hoI a b = 0 := by unfold hoI; rw [if_pos e]
  unfold toI; rw [this]; simp
theorem cm_lt {a b : Int} : cmI a b < 0 ↔ a < b := by
  unfold cmI
  by_cases h1 : a < b
  · rw [if_pos h1]; exact ⟨fun _ => h1, fun _ => by decide⟩
  · rw [if_neg h1]
    by_cases h2 : b < a
    · rw [if_pos h2]; exact ⟨fun e => by omega, fun e => absurd e h1⟩
    · rw [if_neg h2]; exact ⟨fun e => by omega, fun e => absurd e h1⟩
theorem ahead_iff {a b : Rq} : toI a b < 0 ↔ (a.md ≠ 0 ∧ b.md = 0) ∨ ((a.md = 0 ↔ b.md = 0) ∧ a.sn < b.sn) := by
  by_cases z : a.md = 0
  · by_cases y : b.md = 0
    · rw [ho_eq (by simp [z, y]), cm_lt]; simp [z, y]
    · have := ho_gt z y
      simp [this, z, y]
  · by_cases y : b.md = 0
    · have := ho_lt z y
      simp [this, z, y]
    · rw [ho_eq (by simp [z, y]), cm_lt]; simp [z, y]
theorem dEnterB {w : World} {g0 p b n : Nat} {t r W : Int} {v : Value} {q : List Rq} (h : Ln w g0 p t r W v b n q (cntQ q)) (k : Nat) (hk : k < q.length) (hW : 0 ≤ W ∧ W ≤ 4611686018427387904) (hkn : ∀ R ∈ q, knI R.md = true) (hn : n < 800000) (hl : q.length ≤ 1000)
    (R : Rq) (hR : q[k] = R) (hkw : knI R.wt = true) (B : Bool) (hB : (fitB (cntQ q) R.md R.wt && !ahB (q.set k (enR R W)) (enR R W)) = B) :
    Calls Try.prog 40 #[.pointer (some ⟨p, 0, none⟩), .int .i64 k] w fun e w' => e = .returned (.bool B) ∧ Below g0 w w' ∧ ∃ n', n' ≤ n + 2 ∧
      (if B = true then Ln w' g0 p t r W v b n' (q.set k ⟨R.id, R.txn, R.wt, R.wt, 0⟩) (cntQ (q.set k ⟨R.id, R.txn, R.wt, R.wt, 0⟩)) else Ln w' g0 p t r (W + 1) v b n' (q.set k (enR R W)) (cntQ (q.set k (enR R W)))) := by
  subst hR hB
  exact dEnter h k hk hW hkn hkw hn hl _ _ rfl rfl
/-- A request that asks. -/
theorem ask_en {W : Int} {q : List Rq} (h : Ok W q) (id txn m : Int) :
    (fitB (cntQ (q ++ [⟨id, txn, 0, m, 0⟩])) 0 m && !ahB ((q ++ [(⟨id, txn, 0, m, 0⟩ : Rq)]).set q.length ⟨id, txn, 0, m, W + 1⟩) ⟨id, txn, 0, m, W + 1⟩) = free q m := by
  have hk : q.length < (q ++ [(⟨id, txn, 0, m, 0⟩ : Rq)]).length := by simp
  have e1 := fit_all (q ++ [⟨id, txn, 0, m, 0⟩]) q.length hk m (fun R hR => by
    rcases List.mem_append.1 hR with hR | hR
    · exact (h.rt R hR).md
    · rw [List.mem_singleton] at hR; subst hR; rfl)
  rw [show (q ++ [(⟨id, txn, 0, m, 0⟩ : Rq)])[q.length].md = 0 by simp] at e1
  rw [e1]
  rw [show (q ++ [(⟨id, txn, 0, m, 0⟩ : Rq)]).take q.length = q by simp, show (q ++ [(⟨id, txn, 0, m, 0⟩ : Rq)]).drop (q.length + 1) = [] by simp, List.append_nil]
  rw [show (q ++ [(⟨id, txn, 0, m, 0⟩ : Rq)]).set q.length ⟨id, txn, 0, m, W + 1⟩ = q ++ [⟨id, txn, 0, m, W + 1⟩] by simp]
  have e2 : ahB (q ++ [⟨id, txn, 0, m, W + 1⟩]) ⟨id, txn, 0, m, W + 1⟩ = q.any fun X => decide (0 < X.sn) := by
    unfold ahB
    rw [List.any_append]
    have z : ([(⟨id, txn, 0, m, W + 1⟩ : Rq)].any fun X => decide (0 < X.sn) && decide (toI X (⟨id, txn, 0, m, W + 1⟩ : Rq) < 0)) = false := by
      have : ¬ toI (⟨id, txn, 0, m, W + 1⟩ : Rq) (⟨id, txn, 0, m, W + 1⟩ : Rq) < 0 := by rw [ahead_iff]; simp
      simp [this]
    rw [z, Bool.or_false, Bool.eq_iff_iff, List.any_eq_true, List.any_eq_true]
    constructor
    · rintro ⟨x, hx, e⟩
      rw [Bool.and_eq_true] at e
      exact ⟨x, hx, e.1⟩
    · rintro ⟨x, hx, e⟩
      have hs := (h.rt x hx).sW
      have : toI x (⟨id, txn, 0, m, W + 1⟩ : Rq) < 0 := by
        rw [ahead_iff]
        by_cases zx : x.md = 0
        · exact .inr ⟨by simp [zx], by show x.sn < W + 1; omega⟩
        · exact .inl ⟨zx, rfl⟩
      exact ⟨x, hx, by rw [e]; simpa using this⟩
  rw [e2]
  unfold free
  rw [Bool.eq_iff_iff, Bool.and_eq_true, Bool.not_eq_true', List.any_eq_false, List.all_eq_true, List.all_eq_true]
  constructor
  · rintro ⟨h1, h2⟩ x hx
    have := h2 x hx
    have hs := (h.rt x hx).s0
    rw [h1 x hx]
    simp at this ⊢
    omega
  · intro h1
    refine ⟨fun x hx => ?_, fun x hx => ?_⟩
    · have := h1 x hx
      rw [Bool.and_eq_true] at this
      exact this.2
    · have := h1 x hx
      rw [Bool.and_eq_true] at this
      have h2 : x.sn = 0 := by simpa using this.1
      simp [h2]
/-- A request that upgrades. -/
theorem up_en {W : Int} {q : List Rq} (h : Ok W q) (k : Nat) (hk : k < q.length) (hs : q[k].sn = 0) (want : Int) (hw : knI want = true) :
    (fitB (cntQ (q.set k ⟨q[k].id, q[k].txn, q[k].md, want, 0⟩)) q[k].md want && !ahB (q.set k ⟨q[k].id, q[k].txn, q[k].md, want, W + 1⟩) ⟨q[k].id, q[k].txn, q[k].md, want, W + 1⟩) = upF q q[k] want := by
  have hz := ((h.rt _ (List.getElem_mem hk)).h hs).1
  rw [cntQ_same q k hk ⟨q[k].id, q[k].txn, q[k].md, want, 0⟩ rfl, fit_all q k hk want (fun R hR => (h.rt R hR).md)]
  obtain ⟨hq, hl, hr⟩ := h.nth k hk
  have hst : ∀ x : Rq, q.set k x = q.take k ++ x :: q.drop (k + 1) := fun x => set_at q k hk x
  have hmem : ∀ a, a ∈ q.take k ++ q.drop (k + 1) ↔ a ∈ q ∧ a.id ≠ q[k].id := by
    intro a
    constructor
    · intro ha
      rcases List.mem_append.1 ha with g | g
      · exact ⟨List.mem_of_mem_take g, hl a g⟩
      · exact ⟨List.mem_of_mem_drop g, hr a g⟩
    · rintro ⟨ha, ne⟩
      rw [hq] at ha
      rcases List.mem_append.1 ha with g | g
      · exact List.mem_append_left _ g
      · rcases List.mem_cons.1 g with rfl | g
        · exact absurd rfl ne
        · exact List.mem_append_right _ g
  have e2 : ahB (q.set k ⟨q[k].id, q[k].txn, q[k].md, want, W + 1⟩) ⟨q[k].id, q[k].txn, q[k].md, want, W + 1⟩ = (q.take k ++ q.drop (k + 1)).any fun X => decide (0 < X.sn) && (X.md != 0) := by
    unfold ahB
    rw [hst, List.any_append, List.any_cons, List.any_append]
    have z : decide (toI (⟨q[k].id, q[k].txn, q[k].md, want, W + 1⟩ : Rq) ⟨q[k].id, q[k].txn, q[k].md, want, W + 1⟩ < 0) = false := by
      have : ¬ toI (⟨q[k].id, q[k].txn, q[k].md, want, W + 1⟩ : Rq) ⟨q[k].id, q[k].txn, q[k].md, want, W + 1⟩ < 0 := by rw [ahead_iff]; simp
      simpa using this
    rw [z, Bool.and_false, Bool.false_or]
    have key : ∀ X, X ∈ q → (decide (0 < X.sn) && decide (toI X ⟨q[k].id, q[k].txn, q[k].md, want, W + 1⟩ < 0)) = (decide (0 < X.sn) && (X.md != 0)) := by
      intro X hX
      congr 1
      have hsW := (h.rt X hX).sW
      rw [Bool.eq_iff_iff, decide_eq_true_eq, ahead_iff]
      simp only [bne_iff_ne, ne_eq]
      constructor
      · rintro (⟨a, _⟩ | ⟨a, _⟩)
        · exact a
        · intro z; exact hz (a.1 z)
      · intro a
        exact .inr ⟨by simp [a, hz], by show X.sn < W + 1; omega⟩
    have c1 : ∀ l : List Rq, (∀ x ∈ l, x ∈ q) → (l.any fun X => decide (0 < X.sn) && decide (toI X ⟨q[k].id, q[k].txn, q[k].md, want, W + 1⟩ < 0)) = l.any fun X => decide (0 < X.sn) && (X.md != 0) := by
      intro l
      induction l with
      | nil => intro _; rfl
      | cons a l ih =>
        intro hl
        rw [List.any_cons, List.any_cons, key a (hl a (by simp)), ih (fun x hx => hl x (List.mem_cons_of_mem _ hx))]
    rw [c1 _ (fun x hx => List.mem_of_mem_take hx), c1 _ (fun x hx => List.mem_of_mem_drop hx)]
  rw [e2]
  unfold upF
  rw [Bool.eq_iff_iff, Bool.and_eq_true, Bool.not_eq_true', List.any_eq_false, List.all_eq_true, List.all_eq_true]
  constructor
  · rintro ⟨h1, h2⟩ x hx
    by_cases e : x.id = q[k].id
    · simp [e]
    · have hm := (hmem x).2 ⟨hx, e⟩
      have a1 := h1 x hm
      have a2 := h2 x hm
      simp only [Bool.not_eq_true] at a2
      rw [a2, a1]; simp
  · intro h1
    refine ⟨fun x hx => ?_, fun x hx => ?_⟩
    · obtain ⟨hx', ne⟩ := (hmem x).1 hx
      have := h1 x hx'
      simp only [beq_eq_false_iff_ne.2 ne, Bool.false_or, Bool.and_eq_true, Bool.or_eq_true, beq_iff_eq] at this
      rcases this.2 with z | z
      · rw [z, cp_zero want hw]
      · exact z
    · obtain ⟨hx', ne⟩ := (hmem x).1 hx
      have := h1 x hx'
      simp only [beq_eq_false_iff_ne.2 ne, Bool.false_or, Bool.and_eq_true, Bool.not_eq_true'] at this
      rw [this.1]; simp
end Go.Proofs.Ytmciiobncfchlaa
end

/- The developers' package queue: turns. -/
section
namespace Go.Proofs.Ytmciiobncfchlaa
open Go.RowKit
set_option linter.unusedVariables false      -- a contract need not use every name

def rqAt (q : List Rq) (x : Int) : Rq := q.getD x.toNat ⟨0, 0, 0, 0, 0⟩
def tC (q : List Rq) (x y : Int) : Int := toI (rqAt q x) (rqAt q y)
def isPl (q : List Rq) (x : Int) : Prop := ∃ k : Nat, x = k ∧ k < q.length
theorem rqAt_nat (q : List Rq) (k : Nat) (hk : k < q.length) : rqAt q (k : Int) = q[k] := by unfold rqAt; simp [List.getD, hk]
/-- The places of those that wait, among the first k. -/
def wpl (q : List Rq) : Nat → List Int
  | 0 => []
  | k + 1 => if 0 < (rqAt q k).sn then wpl q k ++ [(k : Int)] else wpl q k
theorem wpl_mem (q : List Rq) (x : Int) : ∀ k, x ∈ wpl q k ↔ ∃ j : Nat, j < k ∧ x = j ∧ 0 < (rqAt q x).sn
  | 0 => by simp [wpl]
  | k + 1 => by
    unfold wpl
    split
    · rename_i h
      rw [List.mem_append, wpl_mem q x k, List.mem_singleton]
      constructor
      · rintro (⟨j, h1, h2, h3⟩ | rfl)
        · exact ⟨j, by omega, h2, h3⟩
        · exact ⟨k, by omega, rfl, h⟩
      · rintro ⟨j, h1, rfl, h3⟩
        by_cases e : j = k
        · exact .inr (by rw [e])
        · exact .inl ⟨j, by omega, rfl, h3⟩
    · rename_i h
      rw [wpl_mem q x k]
      constructor
      · rintro ⟨j, h1, h2, h3⟩; exact ⟨j, by omega, h2, h3⟩
      · rintro ⟨j, h1, rfl, h3⟩
        refine ⟨j, ?_, rfl, h3⟩
        rcases Nat.lt_or_ge j k with g | g
        · exact g
        · have : j = k := by omega
          subst this; exact absurd h3 h
theorem wpl_nodup (q : List Rq) : ∀ k, (wpl q k).Nodup
  | 0 => by simp [wpl]
  | k + 1 => by
    unfold wpl
    split
    · rw [List.nodup_append]
      refine ⟨wpl_nodup q k, by simp, fun a ha b hb => ?_⟩
      rw [List.mem_singleton] at hb
      obtain ⟨j, h1, h2, _⟩ := (wpl_mem q a k).1 ha
      omega
    · exact wpl_nodup q k
theorem wpl_len (q : List Rq) : ∀ k, (wpl q k).length ≤ k
  | 0 => by simp [wpl]
  | k + 1 => by
    unfold wpl
    have := wpl_len q k
    split <;> simp <;> omega
theorem wpl_pl (q : List Rq) : ∀ x ∈ wpl q q.length, isPl q x := fun x hx => by
  obtain ⟨j, h1, h2, _⟩ := (wpl_mem q x _).1 hx
  exact ⟨j, h2, h1⟩
set_option maxRecDepth 100000 in
set_option maxHeartbeats 2000000 in
theorem dTurns1 {w : World} {g0 p b n : Nat} {t r W : Int} {v : Value} {q : List Rq} {c : Int → Int} (h : Ln w g0 p t r W v b n q c) (pb : Nat) (hpb : w.cell? ⟨pb, 0, none⟩ = some (.pointer (some ⟨p, 0, none⟩))) (x y : Int) (hx : isPl q x) (hy : isPl q y) :
    Calls Try.prog 90 #[.int .i64 x, .int .i64 y, .pointer (some ⟨pb, 0, none⟩)] w fun e w' => e = .returned (.int .i64 (tC q x y)) ∧ Nw w w' := by
  obtain ⟨i, rfl, hi⟩ := hx
  obtain ⟨j, rfl, hj⟩ := hy
  have hT := dByTurn q[i] q[j]
  unfold tC
  rw [rqAt_nat q i hi, rqAt_nat q j hj]
  obtain ⟨g, cap, rfl, _, hgl, hce⟩ := RqOwn.at h.own hi
  obtain ⟨g', cap', e, _, _, hde⟩ := RqOwn.at h.own hj
  simp only [Value.slice.injEq, Option.some.injEq, Addr.mk.injEq, and_true, true_and] at e
  obtain ⟨rfl, rfl⟩ := e
  have hii : (i : Int) < (q.length : Int) := by omega
  have hjj : (j : Int) < (q.length : Int) := by omega
  have hpl := hlt h.obj
  have hpbl := World.block_lt_of_cell? _ _ hpb
  have s0 : ∀ z, Nw w z → z.cell? ⟨pb, 0, none⟩ = some (.pointer (some ⟨p, 0, none⟩)) := fun z hz => hz.kp hpb
  have s1 : ∀ z, Nw w z → z.cell? ⟨p, 2, none⟩ = some (.slice (some ⟨g, 0, none⟩) q.length cap) := fun z hz => hz.kp (hcell (j := 2) h.obj)
  obtain ⟨V, hV⟩ : ∃ V, toI q[i] q[j] = V := ⟨_, rfl⟩
  rw [hV] at hT ⊢
  generalize q[i] = R at *
  generalize q[j] = S at *
  obtain ⟨a0, a1, a2, a3, a4⟩ := R
  obtain ⟨b0, b1, b2, b3, b4⟩ := S
  have m0 : ∀ z, Nw w z → z.cell? ⟨g, i * 5, none⟩ = some (.int .i64 a0) := fun z hz => hz.kp (hce 0 _ rfl)
  have m1 : ∀ z, Nw w z → z.cell? ⟨g, i * 5 + 1, none⟩ = some (.int .i64 a1) := fun z hz => hz.kp (hce 1 _ rfl)
  have m2 : ∀ z, Nw w z → z.cell? ⟨g, i * 5 + 2, none⟩ = some (.int .i64 a2) := fun z hz => hz.kp (hce 2 _ rfl)
  have m3 : ∀ z, Nw w z → z.cell? ⟨g, i * 5 + 3, none⟩ = some (.int .i64 a3) := fun z hz => hz.kp (hce 3 _ rfl)
  have m4 : ∀ z, Nw w z → z.cell? ⟨g, i * 5 + 4, none⟩ = some (.int .i64 a4) := fun z hz => hz.kp (hce 4 _ rfl)
  have n0 : ∀ z, Nw w z → z.cell? ⟨g, j * 5, none⟩ = some (.int .i64 b0) := fun z hz => hz.kp (hde 0 _ rfl)
  have n1 : ∀ z, Nw w z → z.cell? ⟨g, j * 5 + 1, none⟩ = some (.int .i64 b1) := fun z hz => hz.kp (hde 1 _ rfl)
  have n2 : ∀ z, Nw w z → z.cell? ⟨g, j * 5 + 2, none⟩ = some (.int .i64 b2) := fun z hz => hz.kp (hde 2 _ rfl)
  have n3 : ∀ z, Nw w z → z.cell? ⟨g, j * 5 + 3, none⟩ = some (.int .i64 b3) := fun z hz => hz.kp (hde 3 _ rfl)
  have n4 : ∀ z, Nw w z → z.cell? ⟨g, j * 5 + 4, none⟩ = some (.int .i64 b4) := fun z hz => hz.kp (hde 4 _ rfl)
  unfold rqV at hT
  have HT := Lib.hid hT
  clear hT hce hde h hpb hV
  have q1 := (Nw.refl w).drew1
  obtain ⟨wc, hwc⟩ : ∃ wc, w.drew = wc := ⟨_, rfl⟩
  go_enter Try.func90, Try.ntmps90
  go_wp2
  refine region_told [some true, some true, some true, some true, some true, some true, some true, some true, some true, some true, some true, some true, some true, some true, some true, some true, some false, none, some true] (Nw w) (by kernel_rfl) (by kernel_rfl) (by kernel_rfl) q1 ?_
  rw [hwc] at q1 ⊢
  clear hwc
  repeat (first
    | (refine HW.off ?_)
    | (refine HW.take' ?_; (apply Exists.intro; refine ⟨Or.inl ⟨by rfl, ?_⟩, ?_⟩; (intro x hx; go_simp; first | done | with_reducible rfl)); (try simp only [Act.put, List.setIfInBounds_toArray, List.set_cons_zero, List.set_cons_succ]))
    | (refine HW.go (fun K hK => ?_); go_simp; (go_at_call 80; (with_reducible refine (HT.out _).mono ?_); rintro e wy ⟨rfl, g2⟩; refine hK.out _ _ (q1.trans g2) ?_; intro _; replace q1 := q1.trans g2; clear hK K g2)))
  refine HW.end_ ?_
  refine NoPanic.normal ?_
  go_wp2
  go_ret
  exact ⟨rfl, q1⟩
theorem own_at {w : World} {v : Value} {l : List Int} (h : IS w v l) {m : Nat} (hf : ∀ g, v.ownBlock = some g → m ≤ g) : ∃ gi, (∀ g, v.ownBlock = some g → g = gi) ∧ m ≤ gi := by
  rcases h.form with ⟨rfl, _⟩ | ⟨g, cap, rfl⟩
  · exact ⟨m, fun g e => by simp [Value.ownBlock] at e, Nat.le_refl _⟩
  · exact ⟨g, fun g' e => (Option.some.inj e).symm, hf g rfl⟩
theorem e_turns1 : ∀ args w, (callFunc 90 args).run Try.prog w = .ok (.enter 90 args) w := enters_of Try.func90 (by kernel_rfl) rfl
set_option maxRecDepth 100000 in
set_option maxHeartbeats 4000000 in
theorem dTurns {w : World} {g0 p b n : Nat} {t r W : Int} {v : Value} {q : List Rq} {c : Int → Int} (h : Ln w g0 p t r W v b n q c) (hl : q.length ≤ 1000) (hst : StOk (tC q) (wpl q q.length)) :
    Calls Try.prog 78 #[.pointer (some ⟨p, 0, none⟩)] w fun e w' => ∃ v', e = .returned v' ∧ Nw w w' ∧ IS w' v' (stR (tC q) (wpl q q.length)) ∧ ∀ g, v'.ownBlock = some g → w.heap.size ≤ g := by
  have hWt := dWaits
  have hB : (w.alloc (.cells #[.pointer (some ⟨p, 0, none⟩)] 68)).cell? ⟨w.heap.size, 0, none⟩ = some (.pointer (some ⟨p, 0, none⟩)) := hcell (j := 0) (allocAt w _)
  have hN1 : Nw w (w.alloc (.cells #[.pointer (some ⟨p, 0, none⟩)] 68)) := (Nw.refl w).alloc _
  obtain ⟨w1, hw1⟩ : ∃ w1, w.alloc (.cells #[.pointer (some ⟨p, 0, none⟩)] 68) = w1 := ⟨_, rfl⟩
  have hs1 : w1.heap.size = w.heap.size + 1 := by rw [← hw1]; simp
  rw [hw1] at hB hN1
  have hL1 := h.nw hN1
  have HW1 := Lib.hid hw1
  have HL := Lib.hid (And.intro hL1 (And.intro hN1 (And.intro hs1 hB)))
  obtain ⟨a0, c0, rfl⟩ := (RqOwn.rd h.own).form
  have hp0 := hlt h.obj
  have m20 := hcell (j := 2) h.obj
  have hpb := World.block_lt_of_cell? _ _ hB
  have hB0 := hB
  clear h hw1 hL1 hs1 hN1
  go_enter Try.func78, Try.ntmps78
  go_wp2
  rw [HW1.out]
  have HW := Lib.hid hWt
  clear hWt hp0 m20 HW1 hpb hB hB0
  go_loopw [3, 12] (fun x i wr => ∃ (k : Nat), k ≤ q.length ∧ i = .int .i64 k ∧ IS wr x (wpl q k) ∧ Nw w1 wr ∧ ∀ g, x.ownBlock = some g → w1.heap.size ≤ g) (fun _ i _ => q.length - (intOf i).toNat)
  case atStart => exact ⟨0, Nat.zero_le _, rfl, IS.nil _, Nw.refl _, fun g e => by simp [Value.ownBlock] at e⟩
  case round =>
    obtain ⟨k, hk, rfl, hI, hN, hfr⟩ := hrel
    by_cases hlt : k < q.length
    · obtain ⟨g, cap, e, _, hgl, hce⟩ := RqOwn.at (onw HL.out.1.own hN) hlt
      simp only [Value.slice.injEq, true_and] at e
      obtain ⟨rfl, rfl⟩ := e
      have hki : (k : Int) < (q.length : Int) := by omega
      have hstep : wpl q (k + 1) = if 0 < (q[k]).sn then wpl q k ++ [(k : Int)] else wpl q k := by
        show (if 0 < (rqAt q k).sn then wpl q k ++ [(k : Int)] else wpl q k) = _
        rw [rqAt_nat q k hlt]
      have HWk := Lib.hid (HW.out q[k])
      generalize q[k] = R at *
      obtain ⟨b0, b1, b2, b3, b4⟩ := R
      have e0 := hce 0 _ rfl
      have e1 := hce 1 _ rfl
      have e2 := hce 2 _ rfl
      have e3 := hce 3 _ rfl
      have e4 := hce 4 _ rfl
      simp only [Nat.add_zero] at e0
      have g6 : Nw wr (wr.alloc (.cells #[.int .i64 b0, .int .i64 b1, .int .i64 b2, .int .i64 b3, .int .i64 b4] 41)) := (Nw.refl wr).alloc _
      unfold rqV at HWk
      simp only at HWk hstep
      obtain ⟨w6, hw6⟩ : ∃ w6, wr.alloc (.cells #[.int .i64 b0, .int .i64 b1, .int .i64 b2, .int .i64 b3, .int .i64 b4] 41) = w6 := ⟨_, rfl⟩
      have hq6 := RqB.made wr b0 b1 b2 b3 b4 41
      rw [hw6] at g6 hq6
      obtain ⟨hlq, y0, y1, y2, y3, y4⟩ := hq6
      have HI := Lib.hid (And.intro (hI.nw g6) (And.intro (hN.trans g6) hfr))
      have HW6 := Lib.hid hw6
      clear hce hI hN hfr g6 hw6
      by_cases hs : 0 < b4
      · have ds : decide (0 < b4) = true := by simpa using hs
        rw [ds] at HWk
        rw [if_pos hs] at hstep
        have HS := Lib.hid hstep
        clear hs ds hstep
        go_wp2_with fail
        rw [HW6.out]
        go_wp2_with fail
        go_at_call 42
        refine (HWk.out _).mono ?_
        rintro e w7 ⟨rfl, g7⟩
        have hI7 := HI.out.1.nw g7
        obtain ⟨v', w8, hr, q1, q2, q3, ⟨g', cap', hv'⟩⟩ := IS.push w7 _ (wpl q k) k hI7 (by have := wpl_len q k; omega)
        have HR := Lib.hid hr
        have HE : Hid (IS w8 v' (wpl q (k + 1)) ∧ Nw w1 w8 ∧ ∀ g, v'.ownBlock = some g → w1.heap.size ≤ g) := Lib.hid ⟨by rw [HS.out]; exact q1, nw_tch (HI.out.2.1.trans g7) q2 (fun i e => HI.out.2.2 i e), fun g e => by
          rcases q3 g e with h | h
          · exact HI.out.2.2 g h
          · have := (HI.out.2.1.trans g7).sz; omega⟩
        clear hr q1 q2 q3 hI7 g7 y0 y1 y2 y3 y4 hlq e0 e1 e2 e3 e4 hv'
        go_wp2_with (at_builtin; (refine wpl_app (by rfl) (.tmp 19) (.tmp 21) 36 rfl _ _ _ _ rfl rfl HR.out ?_))
        go_roundw
        case rel => exact ⟨k + 1, by omega, by go_num, HE.out⟩
        case measure => simp [intOf]; omega
      · have ds : decide (0 < b4) = false := by simpa using hs
        rw [ds] at HWk
        rw [if_neg hs] at hstep
        have HS := Lib.hid hstep
        clear hs ds hstep
        go_wp2_with fail
        rw [HW6.out]
        go_wp2_with fail
        go_at_call 42
        refine (HWk.out _).mono ?_
        rintro e w7 ⟨rfl, g7⟩
        have HE := Lib.hid g7
        clear g7 y0 y1 y2 y3 y4 hlq e0 e1 e2 e3 e4
        go_wp2
        go_roundw
        case rel => exact ⟨k + 1, by omega, by go_num, by rw [HS.out]; exact HI.out.1.nw HE.out, HI.out.2.1.trans HE.out, HI.out.2.2⟩
        case measure => simp [intOf]; omega
    · obtain rfl : k = q.length := by omega
      obtain ⟨gi, hgi, hge⟩ := own_at hI hfr
      have hCm : Cmps wr (.func (.func 90) #[] #[.pointer (some ⟨w.heap.size, 0, none⟩)]) gi (tC q) (isPl q) :=
        ⟨_, _, rfl, e_turns1, fun x y w2 hx hy hT => by
          have hN2 := nw_tch hN hT (fun i e => by subst e; exact hge)
          exact dTurns1 (HL.out.1.nw hN2) w.heap.size (hN2.kp HL.out.2.2.2) x y hx hy⟩
      have HS := Lib.hid (dStable _ (tC q) (isPl q) _ (wpl q q.length) wr gi hst hI (wpl_pl q) hCm hgi)
      have HE := Lib.hid (And.intro hN hfr)
      clear hI hN hfr hgi hge hCm hst
      go_wp2_with (go_at_call 89; refine HS.out.mono ?_; rintro e w9 ⟨rfl, hI9, hT9⟩)
      go_ret
      exact ⟨_, rfl, HL.out.2.1.trans (nw_tch HE.out.1 hT9 (fun i e => HE.out.2 i e)), hI9, fun g e => by have := HE.out.2 g e; have := HL.out.2.2.1; omega⟩
end Go.Proofs.Ytmciiobncfchlaa
end

/- Plain facts: granting in the order of turns. -/
section
namespace Go.Proofs.Ytmciiobncfchlaa
set_option linter.unusedVariables false

theorem steps_pre {W : Int} {q q' : List Rq} {ids : List Int} (h : Steps q ids q') (h0 : Ok W q) : ids <+: (scanQ q).1 := by
  have hw := h.wtg h0
  have := h.scn h0 (wtg q')
  unfold scanQ
  rw [← hw, Nat.add_comm, this]
  exact List.prefix_append _ _
theorem steps_len {W : Int} {q q' : List Rq} {ids : List Int} (h : Steps q ids q') (h0 : Ok W q) : q'.length = q.length := by
  rw [(h.form h0).1]; simp
/-- What holds between two grants. -/
structure TInv (q q' : List Rq) (T : List Int) (i : Nat) : Prop where
  same : ∀ x ∈ T.drop i, rqAt q' x = rqAt q x
  rest : ∀ k : Nat, k < q.length → (k : Int) ∉ T.drop i → ¬ 0 < (rqAt q' k).sn
structure TOk (q : List Rq) (T : List Int) : Prop where
  sorted : T.Pairwise (fun x y => tC q x y < 0)
  mem : ∀ x, x ∈ T ↔ ∃ k : Nat, k < q.length ∧ x = k ∧ 0 < (rqAt q x).sn
  nodup : T.Nodup
theorem ti_start {q : List Rq} {T : List Int} (h : TOk q T) : TInv q q T 0 := ⟨fun _ _ => rfl, fun k hk hn hs => hn (by rw [List.drop_zero]; exact (h.mem _).2 ⟨k, hk, rfl, hs⟩)⟩
theorem tC_tr {W : Int} {q : List Rq} (h : Ok W q) (x y z : Int) (h1 : tC q x y < 0) (h2 : tC q y z < 0) : tC q x z < 0 := by
  unfold tC at *
  rw [ahead_iff] at *
  generalize rqAt q x = a at *
  generalize rqAt q y = b at *
  generalize rqAt q z = c at *
  by_cases za : a.md = 0 <;> by_cases zb : b.md = 0 <;> by_cases zc : c.md = 0 <;> simp [za, zb, zc] at h1 h2 ⊢ <;> omega
theorem tC_tot {W : Int} {q : List Rq} (h : Ok W q) (x y : Int) (hx : ∃ k : Nat, k < q.length ∧ x = k ∧ 0 < (rqAt q x).sn) (hy : ∃ k : Nat, k < q.length ∧ y = k ∧ 0 < (rqAt q y).sn) (ne : x ≠ y) : tC q x y < 0 ∨ tC q y x < 0 := by
  obtain ⟨i, hi, rfl, si⟩ := hx
  obtain ⟨j, hj, rfl, sj⟩ := hy
  unfold tC
  rw [ahead_iff, ahead_iff]
  rw [rqAt_nat q i hi] at *
  rw [rqAt_nat q j hj] at *
  have hs : q[i].sn ≠ q[j].sn := by
    intro e
    have := h.injS _ (List.getElem_mem hi) _ (List.getElem_mem hj) si e
    have hid := List.pairwise_iff_getElem.1 h.pr
    rcases Nat.lt_trichotomy i j with g | g | g
    · exact (hid i j hi hj g).id (by rw [this])
    · exact ne (by rw [g])
    · exact (hid j i hj hi g).id (by rw [this])
  by_cases za : q[i].md = 0 <;> by_cases zb : q[j].md = 0 <;> simp [za, zb] <;> omega
theorem tok_of {W : Int} {q : List Rq} (h : Ok W q) (hst : StOk (tC q) (wpl q q.length)) : TOk q (stR (tC q) (wpl q q.length)) := by
  have hm : ∀ x, x ∈ wpl q q.length ↔ ∃ k : Nat, k < q.length ∧ x = k ∧ 0 < (rqAt q x).sn := fun x => wpl_mem q x _
  have hp := stR_perm (tC q) (wpl q q.length)
  exact ⟨stR_sorted (tC q) (fun x => ∃ k : Nat, k < q.length ∧ x = k ∧ 0 < (rqAt q x).sn) (fun x y z _ _ _ => tC_tr h x y z) (fun x y hx hy => tC_tot h x y hx hy) _ (fun x hx => (hm x).1 hx) (wpl_nodup q _) hst,
    fun x => hp.mem_iff.trans (hm x), hp.nodup_iff.2 (wpl_nodup q _)⟩
theorem at_drop {T : List Int} {i : Nat} (hi : i < T.length) : T.drop i = T[i] :: T.drop (i + 1) := List.drop_eq_getElem_cons hi
/-- Who is next in turn. -/
theorem turn_next {W : Int} {q q' : List Rq} {ids : List Int} {T : List Int} {i : Nat} (h : Ok W q) (hs : Steps q ids q') (hT : TOk q T) (hI : TInv q q' T i) (hi : i < T.length) :
    ∃ k : Nat, T[i] = k ∧ ∃ hk : k < q'.length, q'[k] = rqAt q k ∧ 0 < q'[k].sn ∧ (fitB (cntQ q') q'[k].md q'[k].wt = true → canG q' q'[k] = true) ∧ (fitB (cntQ q') q'[k].md q'[k].wt = false → Done q') := by
  have hm : T[i] ∈ T := List.getElem_mem hi
  obtain ⟨k, hk, e, hsn⟩ := (hT.mem _).1 hm
  have ok := hs.ok h
  have hl := steps_len hs h
  have hk' : k < q'.length := by omega
  have hd := at_drop hi
  have hsm : rqAt q' k = rqAt q k := by rw [← e]; exact hI.same _ (by rw [hd]; exact List.mem_cons_self)
  have hq' : q'[k] = rqAt q k := by rw [← rqAt_nat q' k hk']; exact hsm
  have hsn' : 0 < q'[k].sn := by rw [hq', ← e]; exact hsn
  -- all others that wait come later
  have hlate : ∀ j (hj : j < q'.length), j ≠ k → 0 < q'[j].sn → toI q'[k] q'[j] < 0 := by
    intro j hj ne hsj
    have hjm : (j : Int) ∈ T.drop i := by
      refine Classical.byContradiction fun hn => hI.rest j (by omega) hn ?_
      rw [rqAt_nat q' j hj]; exact hsj
    rw [hd] at hjm
    rcases List.mem_cons.1 hjm with q1 | q1
    · rw [e] at q1; omega
    · have hp := hT.sorted
      rw [List.pairwise_iff_getElem] at hp
      obtain ⟨m, hm1, hm2⟩ := List.getElem_of_mem q1
      simp at hm1 hm2
      have := hp i (i + 1 + m) hi (by omega) (by omega)
      rw [hm2, e] at this
      unfold tC at this
      have h2 : rqAt q' j = rqAt q j := hI.same _ (by rw [hd]; exact List.mem_cons_of_mem _ q1)
      rw [rqAt_nat q' j hj] at h2
      rw [hq', h2]
      exact this
  have hfit : fitB (cntQ q') q'[k].md q'[k].wt = true ↔ ∀ o ∈ q', o.id ≠ q'[k].id → cpI o.md q'[k].wt = true := by
    rw [fit_all q' k hk' _ (fun R hR => (ok.rt R hR).md), List.all_eq_true]
    obtain ⟨hq, hl1, hl2⟩ := ok.nth k hk'
    constructor
    · intro hf o ho ne
      rw [hq] at ho
      rcases List.mem_append.1 ho with g | g
      · exact hf o (List.mem_append_left _ g)
      · rcases List.mem_cons.1 g with rfl | g
        · exact absurd rfl ne
        · exact hf o (List.mem_append_right _ g)
    · intro hf o ho
      rcases List.mem_append.1 ho with g | g
      · exact hf o (List.mem_of_mem_take g) (hl1 o g)
      · exact hf o (List.mem_of_mem_drop g) (hl2 o g)
  have hex : fitB (cntQ q') q'[k].md q'[k].wt = false → ∃ o ∈ q', o.id ≠ q'[k].id ∧ o.md ≠ 0 ∧ cpI o.md q'[k].wt = false := by
    intro hf
    refine Classical.byContradiction fun hn => ?_
    have : fitB (cntQ q') q'[k].md q'[k].wt = true := hfit.2 fun o ho ne => by
      cases hc : cpI o.md q'[k].wt with
      | true => rfl
      | false =>
        refine absurd ⟨o, ho, ne, fun z => ?_, hc⟩ hn
        rw [z, cp_zero _ (ok.rt _ (List.getElem_mem hk')).wt] at hc
        cases hc
    rw [this] at hf; cases hf
  refine ⟨k, e, hk', hq', hsn', fun hf => ?_, fun hf => ?_⟩
  · have hf' := hfit.1 hf
    by_cases z : q'[k].md = 0
    · refine cand_wa ok hk' z (fun a ha za => ?_) (fun a ha hu => ?_) (fun o ho ne _ => hf' o ho ne)
      · obtain ⟨j, hj, rfl⟩ := List.getElem_of_mem ha
        simp at hj za
        have hp := List.pairwise_iff_getElem.1 ok.pr j k (by omega) hk' (by omega)
        have hlt := hlate j (by omega) (by omega) ((ok.rt _ (List.getElem_mem (by omega))).w' za)
        rw [ahead_iff] at hlt
        have := (hp.ord za).2
        simp [z, za] at hlt
        omega
      · obtain ⟨j, hj, rfl⟩ := List.getElem_of_mem ha
        by_cases ne : j = k
        · subst ne; exact hu.1 z
        · have hlt := hlate j hj ne hu.2
          rw [ahead_iff] at hlt
          simp [z, hu.1] at hlt
    · refine cand_up ok (List.getElem_mem hk') ⟨z, hsn'⟩ (fun a ha hu => ?_) (fun o ho ne _ => hf' o ho ne)
      obtain ⟨j, hj, rfl⟩ := List.getElem_of_mem ha
      by_cases ne : j = k
      · subst ne; exact Int.le_refl _
      · have hlt := hlate j hj ne hu.2
        rw [ahead_iff] at hlt
        simp [z, hu.1] at hlt
        omega
  · have hf' := hex hf
    by_cases z : q'[k].md = 0
    · refine done_wa ok hk' z (fun a ha za => ?_) (fun a ha hu => ?_) hf'
      · obtain ⟨j, hj, rfl⟩ := List.getElem_of_mem ha
        simp at hj za
        have hp := List.pairwise_iff_getElem.1 ok.pr j k (by omega) hk' (by omega)
        have hlt := hlate j (by omega) (by omega) ((ok.rt _ (List.getElem_mem (by omega))).w' za)
        rw [ahead_iff] at hlt
        have := (hp.ord za).2
        simp [z, za] at hlt
        omega
      · obtain ⟨j, hj, rfl⟩ := List.getElem_of_mem ha
        by_cases ne : j = k
        · subst ne; exact hu.1 z
        · have hlt := hlate j hj ne hu.2
          rw [ahead_iff] at hlt
          simp [z, hu.1] at hlt
    · refine done_up ok (List.getElem_mem hk') ⟨z, hsn'⟩ (fun a ha hu => ?_) hf'
      obtain ⟨j, hj, rfl⟩ := List.getElem_of_mem ha
      by_cases ne : j = k
      · subst ne; exact Int.le_refl _
      · have hlt := hlate j hj ne hu.2
        rw [ahead_iff] at hlt
        simp [z, hu.1] at hlt
        omega
theorem turn_step {W : Int} {q q' : List Rq} {ids : List Int} {T : List Int} {i k : Nat} (h : Ok W q) (hs : Steps q ids q') (hT : TOk q T) (hI : TInv q q' T i) (hi : i < T.length) (e : T[i] = k) (hk : k < q'.length) (hc : canG q' q'[k] = true) :
    Steps q (ids ++ [q'[k].id]) (q'.set k (grtR q'[k])) ∧ TInv q (q'.set k (grtR q'[k])) T (i + 1) := by
  have ok := hs.ok h
  have hl := steps_len hs h
  have hd := at_drop hi
  have hnd := hT.nodup
  have hnk : (k : Int) ∉ T.drop (i + 1) := by
    have : (T.drop i).Nodup := List.Sublist.nodup (List.drop_sublist _ _) hnd
    rw [hd, e] at this
    exact (List.nodup_cons.1 this).1
  have hst := hs.snoc (List.getElem_mem hk) hc
  rw [chg_set ok grtR k hk] at hst
  have hat : ∀ j : Nat, j ≠ k → rqAt (q'.set k (grtR q'[k])) j = rqAt q' j := by
    intro j ne
    unfold rqAt
    simp only [Int.toNat_natCast, List.getD]
    rw [List.getElem?_set_ne (by omega)]
  refine ⟨hst, fun x hx => ?_, fun j hj hn => ?_⟩
  · obtain ⟨j, hj, rfl, _⟩ := (hT.mem x).1 (List.mem_of_mem_drop hx)
    have ne : j ≠ k := fun q1 => hnk (by rw [← q1]; exact hx)
    rw [hat j ne]
    exact hI.same _ (by rw [hd]; exact List.mem_cons_of_mem _ hx)
  · by_cases ne : j = k
    · subst ne
      rw [rqAt_nat _ j (by simpa using hk)]
      simp [grtR]
    · rw [hat j ne]
      refine hI.rest j hj fun q1 => ?_
      rw [hd] at q1
      rcases List.mem_cons.1 q1 with q2 | q2
      · rw [e] at q2; omega
      · exact hn q2
theorem turn_end {W : Int} {q q' : List Rq} {ids : List Int} {T : List Int} {i : Nat} (h : Ok W q) (hs : Steps q ids q') (hI : TInv q q' T i) (hi : ¬ i < T.length) : Done q' := by
  have hl := steps_len hs h
  intro s hsm
  cases c : canG q' s with
  | false => rfl
  | true =>
    obtain ⟨j, hj, rfl⟩ := List.getElem_of_mem hsm
    refine absurd (can_sn c) ?_
    have := hI.rest j (by omega) (by rw [List.drop_of_length_le (by omega)]; simp)
    rwa [rqAt_nat q' j hj] at this
end Go.Proofs.Ytmciiobncfchlaa
end

/- The document's own: Group (of modes, and of a head's requests). -/
section
namespace Go.Proofs.Ytmciiobncfchlaa
open Go.RowKit
set_option linter.unusedVariables false      -- a contract need not use every name

def mdrow (x : Int) : List Value := [.int .i64 x]
theorem elemMd : Elem Try.prog 84 32 1 8 mdrow where
  und := Try.underlying84
  inf := by
    have h : (Try.prog.info? 32).map (fun i => (i.zero, i.size, i.bytes)) = some (some (.int .i64 0), 1, 8) := by kernel_rfl
    cases e : Try.prog.info? 32 with
    | none => rw [e] at h; cases h
    | some i =>
      rw [e] at h
      simp only [Option.map_some, Option.some.injEq, Prod.mk.injEq] at h
      exact ⟨i, _, rfl, h.1, h.2.1, h.2.2, rfl⟩
  pos := by decide
  byt := by decide
  len := fun _ => rfl
  one := fun a u hu => by
    simp only [mdrow, List.mem_cons, List.not_mem_nil, or_false] at hu
    subst hu; rfl
end Go.Proofs.Ytmciiobncfchlaa
end
