
/- Plain facts of queues of requests: scans. -/
import Derived.Test.YtmciiobncfchlaaQuM
namespace Go.Proofs.Ytmciiobncfchlaa
set_option linter.unusedVariables false

section
variable {W : Int} {q : List Rq}
theorem chg_none (f : Rq → Rq) (id : Int) : ∀ q : List Rq, (∀ a ∈ q, a.id ≠ id) → chg f id q = q
  | [], _ => rfl
  | a :: q, h => by
    show (if a.id = id then f a else a) :: chg f id q = _
    rw [if_neg (h a (by simp)), chg_none f id q (fun b hb => h b (List.mem_cons_of_mem _ hb))]
theorem lv_none (id : Int) (q : List Rq) (h : ∀ a ∈ q, a.id ≠ id) : lvQ id q = q := by
  unfold lvQ
  rw [List.filter_eq_self]
  intro a ha
  simpa using h a ha
/-- One request is what a change, or a leave, is about. -/
theorem Ok.part (h : Ok W q) {r : Rq} (hr : r ∈ q) : ∃ l m, q = l ++ r :: m ∧ (∀ a ∈ l, a.id ≠ r.id) ∧ (∀ a ∈ m, a.id ≠ r.id) := by
  obtain ⟨l, m, e⟩ := List.append_of_mem hr
  have hp := h.pr
  rw [e, List.pairwise_append, List.pairwise_cons] at hp
  exact ⟨l, m, e, fun a ha => (hp.2.2 a ha r (by simp)).id, fun b hb q => (hp.2.1.1 b hb).id q.symm⟩
theorem chg_mid (f : Rq → Rq) {l m : List Rq} {r : Rq} (h1 : ∀ a ∈ l, a.id ≠ r.id) (h2 : ∀ a ∈ m, a.id ≠ r.id) : chg f r.id (l ++ r :: m) = l ++ f r :: m := by
  have e : chg f r.id (l ++ r :: m) = chg f r.id l ++ (if r.id = r.id then f r else r) :: chg f r.id m := by simp [chg]
  rw [e, if_pos rfl, chg_none f _ l h1, chg_none f _ m h2]
theorem lv_mid {l m : List Rq} {r : Rq} (h1 : ∀ a ∈ l, a.id ≠ r.id) (h2 : ∀ a ∈ m, a.id ≠ r.id) : lvQ r.id (l ++ r :: m) = l ++ m := by
  have e : lvQ r.id (l ++ r :: m) = lvQ r.id l ++ lvQ r.id m := by simp [lvQ, List.filter_append]
  rw [e, lv_none _ l h1, lv_none _ m h2]
theorem Ok.nth (h : Ok W q) (k : Nat) (hk : k < q.length) : q = q.take k ++ q[k] :: q.drop (k + 1) ∧ (∀ a ∈ q.take k, a.id ≠ q[k].id) ∧ (∀ a ∈ q.drop (k + 1), a.id ≠ q[k].id) := by
  have e : q = q.take k ++ q[k] :: q.drop (k + 1) := by
    rw [← List.drop_eq_getElem_cons hk, List.take_append_drop]
  have hp := h.pr
  rw [e, List.pairwise_append, List.pairwise_cons] at hp
  exact ⟨e, fun a ha => (hp.2.2 a ha _ (List.mem_cons_self)).id, fun b hb q => (hp.2.1.1 b hb).id q.symm⟩
theorem set_mid {α : Type} (l m : List α) (r x : α) (k : Nat) (hl : l.length = k) : (l ++ r :: m).set k x = l ++ x :: m := by
  subst hl
  rw [List.set_append_right _ _ (Nat.le_refl _), Nat.sub_self, List.set_cons_zero]
theorem chg_set (h : Ok W q) (f : Rq → Rq) (k : Nat) (hk : k < q.length) : chg f q[k].id q = q.set k (f q[k]) := by
  obtain ⟨e, h1, h2⟩ := h.nth k hk
  have hl : (q.take k).length = k := by simp; omega
  have c := chg_mid f h1 h2
  rw [← e] at c
  rw [c, ← set_mid (q.take k) (q.drop (k + 1)) q[k] (f q[k]) k hl, ← e]
theorem lv_erase (h : Ok W q) (k : Nat) (hk : k < q.length) : lvQ q[k].id q = q.take k ++ q.drop (k + 1) := by
  obtain ⟨e, h1, h2⟩ := h.nth k hk
  have c := lv_mid h1 h2
  rw [← e] at c
  exact c

def wtg (q : List Rq) : Nat := q.countP fun r => decide (0 < r.sn)
theorem wtg_grt (h : Ok W q) {r : Rq} (hr : r ∈ q) (hs : 0 < r.sn) : wtg (chg grtR r.id q) + 1 = wtg q := by
  obtain ⟨l, m, e, h1, h2⟩ := h.part hr
  rw [e, chg_mid grtR h1 h2]
  simp [wtg, List.countP_append, grtR, hs]
  omega
def scn : Nat → List Rq → List Int × List Rq
  | 0, q => ([], q)
  | n + 1, q => match q.find? (canG q) with
    | none => ([], q)
    | some r => (r.id :: (scn n (chg grtR r.id q)).1, (scn n (chg grtR r.id q)).2)
def scanQ (q : List Rq) : List Int × List Rq := scn (wtg q) q
theorem find_can {r : Rq} (h : q.find? (canG q) = some r) : r ∈ q ∧ canG q r = true := ⟨List.mem_of_find?_eq_some h, List.find?_some h⟩
/-- Nothing can be granted. -/
def Done (q : List Rq) : Prop := ∀ r ∈ q, canG q r = false
theorem done_find (h : Done q) : q.find? (canG q) = none := by
  rw [List.find?_eq_none]
  intro r hr
  simp [h r hr]
theorem scn_done (h : Done q) : ∀ n, scn n q = ([], q)
  | 0 => rfl
  | n + 1 => by
    unfold scn
    rw [done_find h]
theorem can_find (h : Ok W q) {r : Rq} (hr : r ∈ q) (hc : canG q r = true) : q.find? (canG q) = some r := by
  cases e : q.find? (canG q) with
  | none =>
    rw [List.find?_eq_none] at e
    exact absurd hc (e r hr)
  | some s =>
    obtain ⟨hs, hs'⟩ := find_can e
    rw [can_one h hs hr hs' hc]
theorem scn_step (h : Ok W q) {r : Rq} (hr : r ∈ q) (hc : canG q r = true) (n : Nat) : scn (n + 1) q = (r.id :: (scn n (chg grtR r.id q)).1, (scn n (chg grtR r.id q)).2) := by
  conv => lhs; unfold scn
  rw [can_find h hr hc]
/-- What a scan has come to. -/
inductive Steps (q0 : List Rq) : List Int → List Rq → Prop
  | refl : Steps q0 [] q0
  | snoc {ids : List Int} {q : List Rq} {r : Rq} (h : Steps q0 ids q) (hr : r ∈ q) (hc : canG q r = true) : Steps q0 (ids ++ [r.id]) (chg grtR r.id q)
theorem Steps.ok {q0 : List Rq} {ids : List Int} (h : Steps q0 ids q) (h0 : Ok W q0) : Ok W q := by
  induction h with
  | refl => exact h0
  | snoc _ hr hc ih => exact ok_grt ih _ hr hc
theorem Steps.scn {q0 : List Rq} {ids : List Int} (h : Steps q0 ids q) (h0 : Ok W q0) : ∀ n, scn (ids.length + n) q0 = (ids ++ (scn n q).1, (scn n q).2) := by
  induction h with
  | refl => intro n; simp
  | snoc hs hr hc ih =>
    intro n
    have := ih (n + 1)
    rw [scn_step (hs.ok h0) hr hc] at this
    rw [List.length_append, List.length_singleton, show ∀ a : Nat, a + 1 + n = a + (n + 1) by intro a; omega, this]
    simp
theorem Steps.wtg {q0 : List Rq} {ids : List Int} (h : Steps q0 ids q) (h0 : Ok W q0) : wtg q + ids.length = wtg q0 := by
  induction h with
  | refl => simp
  | snoc hs hr hc ih =>
    have := wtg_grt (hs.ok h0) hr (can_sn hc)
    simp
    omega
/-- A scan that is at its end is the scan. -/
theorem Steps.scan {q0 : List Rq} {ids : List Int} (h : Steps q0 ids q) (h0 : Ok W q0) (hd : Done q) : scanQ q0 = (ids, q) := by
  have hw := h.wtg h0
  unfold scanQ
  rw [← hw, Nat.add_comm, h.scn h0, scn_done hd]
  simp
theorem scn_steps (h : Ok W q) : ∀ n, wtg q ≤ n → Steps q (scn n q).1 (scn n q).2 ∧ Done (scn n q).2
  | n, hn => by
    suffices H : ∀ n q0 ids q, Ok W q0 → Steps q0 ids q → wtg q ≤ n → Steps q0 (ids ++ (scn n q).1) (scn n q).2 ∧ Done (scn n q).2 by
      have := H n q [] q h .refl hn
      simpa using this
    clear hn n h
    intro n
    induction n with
    | zero =>
      intro q0 ids q h0 hs hn
      refine ⟨by simpa [scn] using hs, fun r hr => ?_⟩
      have hr' : r ∈ q := hr
      cases e : canG q r with
      | false => exact e
      | true =>
        have := wtg_grt (hs.ok h0) hr' (can_sn e)
        omega
    | succ n ih =>
      intro q0 ids q h0 hs hn
      cases e : q.find? (canG q) with
      | none =>
        have hd : Done q := fun r hr => by
          rw [List.find?_eq_none] at e
          simpa using e r hr
        rw [scn_done hd]
        exact ⟨by simpa using hs, hd⟩
      | some r =>
        obtain ⟨hr, hc⟩ := find_can e
        have hw := wtg_grt (hs.ok h0) hr (can_sn hc)
        have := ih q0 (ids ++ [r.id]) _ h0 (hs.snoc hr hc) (by omega)
        rw [scn_step (hs.ok h0) hr hc]
        simpa using this
theorem scan_steps (h : Ok W q) : Steps q (scanQ q).1 (scanQ q).2 ∧ Done (scanQ q).2 := scn_steps h _ (Nat.le_refl _)
theorem scan_done (h : Done q) : scanQ q = ([], q) := scn_done h _
theorem scan_ok (h : Ok W q) : Ok W (scanQ q).2 := (scan_steps h).1.ok h

/-- What was granted, and what was not. -/
theorem Steps.form {q0 : List Rq} {ids : List Int} (h : Steps q0 ids q) (h0 : Ok W q0) : q = q0.map (fun r => if ids.contains r.id = true then grtR r else r) ∧ ∀ i ∈ ids, ∃ r ∈ q0, r.id = i ∧ 0 < r.sn := by
  induction h with
  | refl => exact ⟨by simp, by simp⟩
  | @snoc ids q r hs hr hc ih =>
    obtain ⟨e, hi⟩ := ih
    have hr' := hr
    rw [e] at hr'
    obtain ⟨s, hs0, hsr⟩ := List.mem_map.1 hr'
    have hsn := can_sn hc
    have hse : s = r := by
      split at hsr
      · rw [← hsr] at hsn; exact absurd hsn (Int.lt_irrefl _)
      · exact hsr
    subst hse
    refine ⟨?_, fun i h => ?_⟩
    · conv => lhs; rw [e]
      unfold chg
      rw [List.map_map]
      refine List.map_congr_left fun x hx => ?_
      simp only [Function.comp]
      by_cases q1 : x.id = s.id
      · obtain rfl := h0.inj x hx s hs0 q1
        split at hsr
        · rw [← hsr] at hsn; exact absurd hsn (Int.lt_irrefl _)
        · rename_i hn
          rw [if_neg hn, if_pos rfl, if_pos (by simp)]
      · by_cases q2 : ids.contains x.id = true
        · rw [if_pos q2, if_neg (by exact q1), if_pos (by simp at q2 ⊢; exact .inl q2)]
        · rw [if_neg q2, if_neg q1, if_neg (by simp at q2 ⊢; exact ⟨q2, q1⟩)]
    · rcases List.mem_append.1 h with h | h
      · exact hi i h
      · rw [List.mem_singleton] at h; subst h
        exact ⟨s, hs0, rfl, hsn⟩
/-- Nobody overtakes. -/
theorem Steps.turn {q0 : List Rq} {ids : List Int} (h : Steps q0 ids q) (h0 : Ok W q0) {a b : Rq} (ha : a ∈ q0) (hb : b ∈ q0) (za : a.md = 0) (zb : b.md = 0) (hlt : a.sn < b.sn) (hi : b.id ∈ ids) : a.id ∈ ids := by
  induction h with
  | refl => cases hi
  | @snoc ids q r hs hr hc ih =>
    rcases List.mem_append.1 hi with hi | hi
    · exact List.mem_append_left _ (ih hi)
    · rw [List.mem_singleton] at hi
      by_cases q1 : a.id ∈ ids
      · exact List.mem_append_left _ q1
      · exfalso
        obtain ⟨e, _⟩ := hs.form h0
        have haq : a ∈ q := by
          rw [e]
          exact List.mem_map.2 ⟨a, ha, by rw [if_neg (by simpa using q1)]⟩
        have hbr : r = b := by
          have hr' := hr
          rw [e] at hr'
          obtain ⟨s, hs0, hsr⟩ := List.mem_map.1 hr'
          have hsn := can_sn hc
          split at hsr
          · rw [← hsr] at hsn; exact absurd hsn (Int.lt_irrefl _)
          · rw [← hsr]
            exact h0.inj s hs0 b hb (by rw [hsr]; exact hi.symm)
        subst hbr
        have ni : a.id ≠ r.id := fun q2 => by
          have := h0.inj a ha r hb q2
          subst this
          omega
        have := (blk_no (no_blk hc haq ni)).2.2 zb za
        omega
/-- While one upgrades, only such are granted. -/
theorem Steps.ups {q0 : List Rq} {ids : List Int} (h : Steps q0 ids q) (h0 : Ok W q0) {u s : Rq} (hu : u ∈ q0) (zu : u.md ≠ 0) (su : 0 < u.sn) (hui : u.id ∉ ids) (hs : s ∈ q0) (hsi : s.id ∈ ids) : s.md ≠ 0 := by
  induction h with
  | refl => cases hsi
  | @snoc ids q r hst hr hc ih =>
    rcases List.mem_append.1 hsi with hi | hi
    · exact ih (fun e => hui (List.mem_append_left _ e)) hi
    · rw [List.mem_singleton] at hi
      have hui1 : u.id ∉ ids := fun e => hui (List.mem_append_left _ e)
      have hui2 : u.id ≠ r.id := fun e => hui (List.mem_append_right _ (by simp [e]))
      obtain ⟨e, _⟩ := hst.form h0
      have huq : u ∈ q := by
        rw [e]
        exact List.mem_map.2 ⟨u, hu, by rw [if_neg (by simpa using hui1)]⟩
      have hbr : r = s := by
        have hr' := hr
        rw [e] at hr'
        obtain ⟨x, hx0, hxr⟩ := List.mem_map.1 hr'
        have hsn := can_sn hc
        split at hxr
        · rw [← hxr] at hsn; exact absurd hsn (Int.lt_irrefl _)
        · rw [← hxr]
          exact h0.inj x hx0 s hs (by rw [hxr]; exact hi.symm)
      subst hbr
      exact ((blk_no (no_blk hc huq hui2)).2.1 zu su).1
end
end Go.Proofs.Ytmciiobncfchlaa
