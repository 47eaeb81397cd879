/- Texts merged: QuD, QuT, Lex, Ord, OrdP, QuE, QuF, QuG, QuI, QuJ, BkR, NameA, NameB, NameC, NameD -/
import Derived.Test.YtpffldfpabglbaaGreatDoorTableApartB7
import Derived.Deep.RegionHeld3
import Derived.StillTailTactics
import Derived.ProofKit
import Derived.OpenShut
import Derived.ShutString
import Derived.Outline
import Derived.Deep.QuietTactic
import Derived.BigQuiet
import Derived.Deep.WholeRow
import Derived.LoopTactic
import Derived.WalkSpells

/- The document's own queue: at, waiting, fits. -/
section
namespace Go.Proofs.YtpffldfpabglbaaGreatDoor
open Go.RowKit
set_option linter.unusedVariables false      -- a contract need not use every name

theorem take_mem {α : Type} {l : List α} {k : Nat} (hk : k < l.length) {x : α} (hx : x ∈ l.take (k + 1)) : x ∈ l.take k ∨ x = l[k] := by
  rw [List.take_add_one, List.getElem?_eq_getElem hk] at hx
  rcases List.mem_append.1 hx with h | h
  · exact .inl h
  · simp at h; exact .inr h
end Go.Proofs.YtpffldfpabglbaaGreatDoor
end

/- Plain facts of queues of requests: which one can be granted next. -/
section
namespace Go.Proofs.YtpffldfpabglbaaGreatDoor
set_option linter.unusedVariables false

def isUp (a : Rq) : Prop := a.md ≠ 0 ∧ 0 < a.sn
theorem can_of {W : Int} {q : List Rq} {r : Rq} (h : Ok W q) (hr : r ∈ q) (hs : 0 < r.sn) (hb : ∀ o ∈ q, o.id ≠ r.id → blk r o = false) : canG q r = true := by
  unfold canG
  rw [Bool.and_eq_true]
  refine ⟨by simpa using hs, List.all_eq_true.2 fun o ho => ?_⟩
  by_cases e : o.id = r.id
  · simp [e]
  · simp [hb o ho e]
theorem not_can {q : List Rq} {r o : Rq} (ho : o ∈ q) (ne : o.id ≠ r.id) (hb : blk r o = true) : canG q r = false := by
  cases e : canG q r with
  | false => rfl
  | true =>
    have := no_blk e ho ne
    rw [hb] at this; cases this
theorem blk_holds {r o : Rq} (hm : o.md ≠ 0) (hc : cpI o.md r.wt = false) : blk r o = true := by simp [blk, hm, hc]
theorem blk_ups {r o : Rq} (hm : o.md ≠ 0) (hs : 0 < o.sn) (h : r.md = 0 ∨ o.sn < r.sn) : blk r o = true := by
  rcases h with h | h <;> simp [blk, hm, hs, h]
theorem blk_ahead {r o : Rq} (h1 : r.md = 0) (h2 : o.md = 0) (h3 : o.sn < r.sn) : blk r o = true := by simp [blk, h1, h2, h3]
/-- The one that upgrades with the least Since can be granted if its mode fits. -/
theorem cand_up {W : Int} {q : List Rq} (h : Ok W q) {r : Rq} (hr : r ∈ q) (hu : isUp r) (hmin : ∀ a ∈ q, isUp a → r.sn ≤ a.sn) (hf : ∀ o ∈ q, o.id ≠ r.id → o.md ≠ 0 → cpI o.md r.wt = true) : canG q r = true :=
  can_of h hr hu.2 fun o ho ne => by
    have hz := hu.1
    cases e : blk r o with
    | false => rfl
    | true =>
      exfalso
      unfold blk at e
      simp only [Bool.or_eq_true, Bool.and_eq_true, bne_iff_ne, beq_iff_eq, Bool.not_eq_true', decide_eq_true_eq] at e
      rcases e with (⟨e1, e2⟩ | ⟨⟨e1, e2⟩, e3⟩) | ⟨⟨e1, _⟩, _⟩
      · rw [hf o ho ne e1] at e2; cases e2
      · rcases e3 with e3 | e3
        · exact hz e3
        · have := hmin o ho ⟨e1, e2⟩; omega
      · exact hz e1
/-- The first one that waits can be granted if none upgrades and its mode fits. -/
theorem cand_wa {W : Int} {q : List Rq} (h : Ok W q) {k : Nat} (hk : k < q.length) (hz : q[k].md = 0) (hfirst : ∀ a ∈ q.take k, a.md ≠ 0) (hno : ∀ a ∈ q, ¬ isUp a) (hf : ∀ o ∈ q, o.id ≠ q[k].id → o.md ≠ 0 → cpI o.md q[k].wt = true) : canG q q[k] = true :=
  can_of h (List.getElem_mem hk) ((h.rt _ (List.getElem_mem hk)).w' hz) fun o ho ne => by
    cases e : blk q[k] o with
    | false => rfl
    | true =>
      exfalso
      unfold blk at e
      simp only [Bool.or_eq_true, Bool.and_eq_true, bne_iff_ne, beq_iff_eq, Bool.not_eq_true', decide_eq_true_eq] at e
      rcases e with (⟨e1, e2⟩ | ⟨⟨e1, e2⟩, _⟩) | ⟨⟨_, e1⟩, e2⟩
      · rw [hf o ho ne e1] at e2; cases e2
      · exact hno o ho ⟨e1, e2⟩
      · obtain ⟨j, hj, rfl⟩ := List.getElem_of_mem ho
        rcases Nat.lt_trichotomy j k with g | g | g
        · exact hfirst _ (List.mem_take_iff_getElem.2 ⟨j, by omega, rfl⟩) e1
        · subst g; exact ne rfl
        · have := ((List.pairwise_iff_getElem.1 h.pr k j hk hj g).ord hz).2; omega
/-- Where the candidate's mode does not fit nothing can be granted. -/
theorem done_up {W : Int} {q : List Rq} (h : Ok W q) {r : Rq} (hr : r ∈ q) (hu : isUp r) (hmin : ∀ a ∈ q, isUp a → r.sn ≤ a.sn) (hf : ∃ o ∈ q, o.id ≠ r.id ∧ o.md ≠ 0 ∧ cpI o.md r.wt = false) : Done q := by
  intro s hs
  by_cases e : s.id = r.id
  · obtain rfl := h.inj s hs r hr e
    obtain ⟨o, ho, ne, h1, h2⟩ := hf
    exact not_can ho ne (blk_holds h1 h2)
  · cases c : canG q s with
    | false => rfl
    | true =>
      have hsn := can_sn c
      rw [not_can hr (fun x => e x.symm) (blk_ups hu.1 hu.2 ?_)] at c
      · cases c
      · by_cases z : s.md = 0
        · exact .inl z
        · refine .inr ?_
          have h1 := hmin s hs ⟨z, hsn⟩
          have h2 : r.sn ≠ s.sn := fun x => e (by rw [h.injS r hr s hs hu.2 x])
          omega
theorem done_wa {W : Int} {q : List Rq} (h : Ok W q) {k : Nat} (hk : k < q.length) (hz : q[k].md = 0) (hfirst : ∀ a ∈ q.take k, a.md ≠ 0) (hno : ∀ a ∈ q, ¬ isUp a) (hf : ∃ o ∈ q, o.id ≠ q[k].id ∧ o.md ≠ 0 ∧ cpI o.md q[k].wt = false) : Done q := by
  intro s hs
  by_cases e : s.id = q[k].id
  · obtain rfl := h.inj s hs _ (List.getElem_mem hk) e
    obtain ⟨o, ho, ne, h1, h2⟩ := hf
    exact not_can ho ne (blk_holds h1 h2)
  · cases c : canG q s with
    | false => rfl
    | true =>
      have hsn := can_sn c
      have hsz : s.md = 0 := by
        refine Classical.byContradiction fun z => hno s hs ⟨z, hsn⟩
      obtain ⟨j, hj, rfl⟩ := List.getElem_of_mem hs
      rcases Nat.lt_trichotomy j k with g | g | g
      · exact absurd hsz (hfirst _ (List.mem_take_iff_getElem.2 ⟨j, by omega, rfl⟩))
      · subst g; exact absurd rfl e
      · have := ((List.pairwise_iff_getElem.1 h.pr k j hk hj g).ord hz).2
        rw [not_can (List.getElem_mem hk) (fun x => e x.symm) (blk_ahead hsz hz this)] at c
        cases c
end Go.Proofs.YtpffldfpabglbaaGreatDoor
end

/- A cheaper Bool over a region's text: each operation waits only for earlier ones, and each later one waits for it or is apart from it. Of no program. -/
section
namespace Go.Proofs.YtpffldfpabglbaaGreatDoor
open Go

/-- What the check asks of an operation: where it writes, what it looks at, for whom it waits. -/
def infoOf (ops : Array Oper) (o : Oper) : Option Tmp × List Tmp × List Nat := (o.dst, o.looksAt ops, (o.after.toList.filter (Region.binds .any)).map (·.on))
def pairI (k : Nat) (x y : Option Tmp × List Tmp × List Nat) : Bool :=
  y.2.2.contains k || ((match x.1 with
    | some d => !y.2.1.contains d && y.1 != some d
    | none => true) && (match y.1 with
    | some d => !x.2.1.contains d
    | none => true))
def lexI : Nat → List (Option Tmp × List Tmp × List Nat) → Bool
  | _, [] => true
  | k, x :: r => x.2.2.all (fun e => decide (e < k)) && r.all (pairI k x) && lexI (k + 1) r

theorem lex_walk {P : Program} {ops : Array Oper} {C : World → Prop} {Q : Act → Prop} (hs : Region.noSelect ops = true) : ∀ (l : List Oper) (k : Nat) (listed : Array Bool) (a : Act),
    (∀ j, l[j]? = ops[k + j]?) → (∀ j, j < k → listed.getD j false = true) → (∀ j, k ≤ j → j < k + l.length → listed.getD j true = false) → k + l.length = ops.size →
    lexI k (l.map (infoOf ops)) = true → wpQuiet P ops C Q l a → wpAnyQ P .any ops C Q l.length listed a
  | [], k, listed, a, _, hL, _, hn, _, h => by
    refine ⟨?_, h⟩
    rw [List.eq_nil_iff_forall_not_mem]
    intro j hj
    obtain ⟨h1, o, ho, _⟩ := mem_ready.1 hj
    have hlt : j < ops.size := (Array.getElem?_eq_some_iff.1 ho).1
    have h2 := hL j (by simp at hn; omega)
    rcases Nat.lt_or_ge j listed.size with g | g
    · simp [g] at h1 h2; rw [h1] at h2; cases h2
    · simp [Array.getElem?_eq_none g] at h2
  | o :: l, k, listed, a, hl, hL, hU, hn, hB, h => by
    have h0 : ops[k]? = some o := by simpa using (hl 0).symm
    simp only [List.map_cons, lexI, Bool.and_eq_true, List.all_eq_true, decide_eq_true_eq] at hB
    obtain ⟨⟨hd, hp⟩, hB'⟩ := hB
    have hst : qOp P ops C k (wpQuiet P ops C Q l) a := by unfold qOp; simp only [h0]; exact h
    obtain ⟨v, hy, hK⟩ := yieldsIn_of_qOp h0 hst
    have hr : k ∈ Region.ready .any ops listed := by
      refine mem_ready.2 ⟨hU k (Nat.le_refl _) (by simp), o, h0, fun e he hb => hL e.on (hd e.on ?_)⟩
      exact List.mem_map.2 ⟨e, List.mem_filter.2 ⟨Array.mem_toList_iff.2 he, hb⟩, rfl⟩
    refine wpAnyQ_first h0 (Region.noSelect_spec hs) l.length listed a ?_ hr hy (lex_walk hs l (k + 1) _ _ (fun j => ?_) (fun j hj => ?_) (fun j h1 h2 => ?_) (by simp at hn; omega) hB' hK)
    · intro j oj hoj hne hun hno
      have hkj : k < j := by
        rcases Nat.lt_or_ge j k with g | g
        · have h2 := hL j g
          rcases Nat.lt_or_ge j listed.size with g2 | g2
          · simp [g2] at hun h2; rw [hun] at h2; cases h2
          · simp [Array.getElem?_eq_none g2] at h2
        · omega
      have hlj := hl (j - k)
      rw [show k + (j - k) = j by omega, hoj, show j - k = (j - k - 1) + 1 by omega, List.getElem?_cons_succ] at hlj
      have hm : infoOf ops oj ∈ l.map (infoOf ops) := List.mem_map.2 ⟨oj, List.mem_of_getElem? hlj, rfl⟩
      have hq := hp _ hm
      unfold pairI at hq
      rw [Bool.or_eq_true] at hq
      rcases hq with hq | hq
      · obtain ⟨e, he, heq⟩ := List.mem_map.1 (List.contains_iff_mem.1 hq)
        obtain ⟨he1, he2⟩ := List.mem_filter.1 he
        exact absurd heq (hno e (Array.mem_toList_iff.1 he1) he2)
      · exact hq
    · have := hl (j + 1)
      simpa [Nat.add_assoc, Nat.add_comm 1 j] using this
    · rcases Nat.lt_or_ge j k with g | g
      · exact getD_set_true (hL j g)
      · obtain rfl : j = k := by omega
        have h3 := hU j (Nat.le_refl _) (by simp)
        have hsz : j < listed.size := by
          rcases Nat.lt_or_ge j listed.size with g2 | g2
          · exact g2
          · simp [Array.getElem?_eq_none g2] at h3
        simp [hsz]
    · rw [getD_set_ne true (by omega)]
      exact hU j (by omega) (by simp at h2 ⊢; omega)

theorem region_in' {P : Program} {id : Nat} {Q : Exit → Act → World → Prop} {a : Act} {w : World} {l : List Oper} (S : World → Prop) (hm : P.follows .mixedOrders = true) (hs : Region.noSelect l.toArray = true)
    (hB : lexI 0 (l.map (infoOf l.toArray)) = true) (hS : S w.drew)
    (h : wpQuiet P l.toArray (fun w' => ∃ d : Wd S, w' = d.w) (fun a' => ∀ d : Wd S, Q .normal a' d.w) l a) : (Code.region id l.toArray true).wp P Q a w := by
  refine wp_region_any hm (wpAny_of_quiet (C := fun w' => ∃ d : Wd S, w' = d.w) (Q := fun a' => ∀ d : Wd S, Q .normal a' d.w) (fun _ _ ⟨d, hd⟩ h => hd ▸ h d) _ _ _ _ ⟨⟨w.drew, hS⟩, rfl⟩ ?_)
  have := lex_walk (P := P) (C := fun w' => ∃ d : Wd S, w' = d.w) (Q := fun a' => ∀ d : Wd S, Q .normal a' d.w) hs l 0 (Array.replicate l.toArray.size false) a (by simp) (fun j hj => absurd hj (by omega)) (fun j _ hj => by simp at hj; simp [hj]) (by simp) hB h
  simpa using this
end Go.Proofs.YtpffldfpabglbaaGreatDoor
end

/- A region that draws its order, walked in one order that is told: what reads is taken first, a call waits till it is the only one that can come. Of no program. -/
section
namespace Go.Proofs.YtpffldfpabglbaaGreatDoor
open Go

/-- Number e has come up: it lies ahead of k, and is not the one put off. -/
def doneB (k : Nat) (q : Option (Nat × Option Tmp × List Tmp × List Nat)) (e : Nat) : Bool :=
  decide (e < k) && (match q with
    | some y => !(e == y.1)
    | none => true)
def ordB : List (Option Bool) → Nat → List (Option Tmp × List Tmp × List Nat) → Option (Nat × Option Tmp × List Tmp × List Nat) → Bool
  | [], _, l, q => l.isEmpty && q.isNone
  | some true :: fs, k, l, q =>
    match l with
    | [] => false
    | x :: r => x.2.2.all (doneB k q) && r.all (pairI k x) && (match q with
      | some y => pairI k x y.2
      | none => true) && ordB fs (k + 1) r q
  | some false :: fs, k, l, q =>
    match l, q with
    | x :: r, none => ordB fs (k + 1) r (some (k, x))
    | _, _ => false
  | none :: fs, k, l, q =>
    match q with
    | some y => y.2.2.2.all (doneB k q) && l.all (fun x => x.2.2.any fun e => !doneB k q e) && ordB fs k l none
    | none => false

/-- The walk: 'some true' takes the next one first, 'some false' puts it off, 'none' runs the one put off. -/
def HW (P : Program) (ops : Array Oper) (Q : Exit → Act → World → Prop) (S : World → Prop) : List (Option Bool) → List Oper → Option Oper → Act → World → Prop
  | [], _, _, a, w => Q .normal a w
  | some true :: fs, l, q, a, w =>
    match l with
    | [] => False
    | o :: r => ∃ v, YieldsIf P ops S o v a ∧ HW P ops Q S fs r q (a.put o.dst v) w
  | some false :: fs, l, q, a, w =>
    match l, q with
    | o :: r, none => HW P ops Q S fs r (some o) a w
    | _, _ => False
  | none :: fs, l, q, a, w =>
    match q with
    | some o => ∀ K' : Act → World → Prop, Shut (∀ a w, S w → (S w → HW P ops Q S fs l none a w) → K' a w) → if Region.wanted o (yielded ops a.tmps) = true then Oper.wp P o a w K' Q else K' (a.put o.dst undef) w
    | none => False

section
variable {P : Program} {ops : Array Oper} {Q : Exit → Act → World → Prop} {S : World → Prop}
theorem HW.end_ {l : List Oper} {q : Option Oper} {a : Act} {w : World} (h : Q .normal a w) : HW P ops Q S [] l q a w := h
theorem HW.take {fs : List (Option Bool)} {o : Oper} {r : List Oper} {q : Option Oper} {a : Act} {w : World} (v : Value) (hy : YieldsIf P ops S o v a) (h : HW P ops Q S fs r q (a.put o.dst v) w) : HW P ops Q S (some true :: fs) (o :: r) q a w := ⟨v, hy, h⟩
theorem HW.take' {fs : List (Option Bool)} {o : Oper} {r : List Oper} {q : Option Oper} {a : Act} {w : World} (h : ∃ v, YieldsIf P ops S o v a ∧ HW P ops Q S fs r q (a.put o.dst v) w) : HW P ops Q S (some true :: fs) (o :: r) q a w := h
theorem HW.off {fs : List (Option Bool)} {o : Oper} {r : List Oper} {a : Act} {w : World} (h : HW P ops Q S fs r (some o) a w) : HW P ops Q S (some false :: fs) (o :: r) none a w := h
theorem HW.go {fs : List (Option Bool)} {o : Oper} {l : List Oper} {a : Act} {w : World}
    (h : ∀ K' : Act → World → Prop, Shut (∀ a w, S w → (S w → HW P ops Q S fs l none a w) → K' a w) → if Region.wanted o (yielded ops a.tmps) = true then Oper.wp P o a w K' Q else K' (a.put o.dst undef) w) : HW P ops Q S (none :: fs) l (some o) a w := h

/-- What the check asks of a pair that is still to come: apart, or the later one waits. -/
theorem apart_of {k : Nat} {o oj : Oper} (h : pairI k (infoOf ops o) (infoOf ops oj) = true) (hno : ∀ e ∈ oj.after, Region.binds .any e = true → e.on ≠ k) : o.apart ops oj = true := by
  unfold pairI at h
  rw [Bool.or_eq_true] at h
  rcases h with h | h
  · obtain ⟨e, he, heq⟩ := List.mem_map.1 (List.contains_iff_mem.1 h)
    obtain ⟨he1, he2⟩ := List.mem_filter.1 he
    exact absurd heq (hno e (Array.mem_toList_iff.1 he1) he2)
  · exact h

theorem HW.run (hs : Region.noSelect ops = true) (hQ : ∀ c a d v w, Q (.panic c) (Act.put a d v) w → Q (.panic c) a w) : ∀ (fs : List (Option Bool)) (k : Nat) (l : List Oper) (qi : Option (Nat × Oper)) (listed : Array Bool) (a : Act) (w : World),
    (∀ j, l[j]? = ops[k + j]?) → k + l.length = ops.size → (∀ p, qi = some p → ops[p.1]? = some p.2 ∧ p.1 < k) → listed.size = ops.size →
    (∀ j, j < ops.size → (listed.getD j false = true ↔ doneB k (qi.map fun p => (p.1, infoOf ops p.2)) j = true)) →
    ordB fs k (l.map (infoOf ops)) (qi.map fun p => (p.1, infoOf ops p.2)) = true → S w → HW P ops Q S fs l (qi.map (·.2)) a w →
    wpAnyH P .any ops Q S (l.length + (qi.map fun _ => 1).getD 0) listed a w
  | [], k, l, qi, listed, a, w, hl, hn, hq, hsz, hD, hB, hS, h => by
    unfold ordB at hB
    rw [Bool.and_eq_true] at hB
    obtain rfl : l = [] := by cases l with
      | nil => rfl
      | cons o r => simp at hB
    obtain rfl : qi = none := by cases qi with
      | none => rfl
      | some p => simp at hB
    refine wpAnyH_done ?_ h _
    rw [List.eq_nil_iff_forall_not_mem]
    intro j hj
    obtain ⟨h1, o, ho, _⟩ := mem_ready.1 hj
    have hlt : j < ops.size := (Array.getElem?_eq_some_iff.1 ho).1
    have h2 := (hD j hlt).2 (by unfold doneB; simp at hn ⊢; omega)
    simp [hsz, hlt] at h1 h2
    rw [h1] at h2
    cases h2
  | some true :: fs, k, [], qi, listed, a, w, hl, hn, hq, hsz, hD, hB, hS, h => by unfold ordB at hB; simp at hB
  | some true :: fs, k, o :: r, qi, listed, a, w, hl, hn, hq, hsz, hD, hB, hS, h => by
    have h0 : ops[k]? = some o := by simpa using (hl 0).symm
    have hk : k < ops.size := (Array.getElem?_eq_some_iff.1 h0).1
    simp only [List.map_cons, ordB, Bool.and_eq_true, List.all_eq_true] at hB
    obtain ⟨⟨⟨hd, hp⟩, hpq⟩, hB'⟩ := hB
    obtain ⟨v, hy, hK⟩ := h
    have hnk : ∀ p, qi = some p → p.1 ≠ k := fun p hp => Nat.ne_of_lt (hq p hp).2
    have hun : listed.getD k true = false := by
      have h1 : ¬ listed.getD k false = true := fun e => by
        have := (hD k hk).1 e
        unfold doneB at this
        simp at this
      simp [hsz, hk] at h1 ⊢
      exact h1
    have hr : k ∈ Region.ready .any ops listed := by
      refine mem_ready.2 ⟨hun, o, h0, fun e he hb => ?_⟩
      have hdn := hd e.on (List.mem_map.2 ⟨e, List.mem_filter.2 ⟨Array.mem_toList_iff.2 he, hb⟩, rfl⟩)
      have hek : e.on < k := by unfold doneB at hdn; simp at hdn; exact hdn.1
      exact (hD e.on (by omega)).2 hdn
    have hfree : ∀ j oj, ops[j]? = some oj → j ≠ k → listed.getD j true = false → (∀ e ∈ oj.after, Region.binds .any e = true → e.on ≠ k) → o.apart ops oj = true := by
      intro j oj hoj hne hju hno
      have hj : j < ops.size := (Array.getElem?_eq_some_iff.1 hoj).1
      have hnd : ¬ doneB k (qi.map fun p => (p.1, infoOf ops p.2)) j = true := fun e => by
        have := (hD j hj).2 e
        simp [hsz, hj] at this hju
        rw [this] at hju
        cases hju
      rcases Nat.lt_or_ge j k with g | g
      · cases hqi : qi with
        | none => rw [hqi] at hnd; exact absurd (by unfold doneB; simp [g]) hnd
        | some p =>
          rw [hqi] at hnd hpq
          have hjp : j = p.1 := by
            rcases Nat.decEq j p.1 with h | h
            · exact absurd (by unfold doneB; simp [g, h]) hnd
            · exact h
          have hpo := (hq p hqi).1
          rw [← hjp, hoj] at hpo
          obtain rfl := Option.some.inj hpo
          exact apart_of hpq hno
      · have hlj := hl (j - k)
        rw [show k + (j - k) = j by omega, hoj, show j - k = (j - k - 1) + 1 by omega, List.getElem?_cons_succ] at hlj
        exact apart_of (hp _ (List.mem_map.2 ⟨oj, List.mem_of_getElem? hlj, rfl⟩)) hno
    have ih := HW.run hs hQ fs (k + 1) r qi (listed.setIfInBounds k true) (a.put o.dst v) w (fun j => by
        have := hl (j + 1)
        simpa [Nat.add_assoc, Nat.add_comm 1 j] using this) (by simp at hn; omega) (fun p hp => ⟨(hq p hp).1, Nat.lt_succ_of_lt (hq p hp).2⟩) (by simpa using hsz) (fun j hj => by
        by_cases hjk : k = j
        · subst hjk
          have h1 : (listed.setIfInBounds k true).getD k false = true := by simp [hsz, hk]
          refine ⟨fun _ => ?_, fun _ => h1⟩
          unfold doneB
          cases hqi : qi with
          | none => simp
          | some p => have := hnk p hqi; simp; exact fun e => this e.symm
        · rw [getD_set_ne false hjk, hD j hj]
          unfold doneB
          have : decide (j < k + 1) = decide (j < k) := decide_eq_decide.2 (by omega)
          rw [this]) hB' hS hK
    rw [show (o :: r).length + (qi.map fun _ => 1).getD 0 = (r.length + (qi.map fun _ => 1).getD 0) + 1 by simp; omega]
    exact wpAnyH_first h0 (Region.noSelect_spec hs) (fun c a w => hQ c a _ _ w) _ listed a w hfree hr hy hS ih
  | some false :: fs, k, [], qi, listed, a, w, hl, hn, hq, hsz, hD, hB, hS, h => by unfold ordB at hB; simp at hB
  | some false :: fs, k, o :: r, some p, listed, a, w, hl, hn, hq, hsz, hD, hB, hS, h => by unfold ordB at hB; simp at hB
  | some false :: fs, k, o :: r, none, listed, a, w, hl, hn, hq, hsz, hD, hB, hS, h => by
    have h0 : ops[k]? = some o := by simpa using (hl 0).symm
    have ih := HW.run hs hQ fs (k + 1) r (some (k, o)) listed a w (fun j => by
        have := hl (j + 1)
        simpa [Nat.add_assoc, Nat.add_comm 1 j] using this) (by simp at hn; omega) (fun p hp => by obtain rfl := Option.some.inj hp; exact ⟨h0, Nat.lt_succ_self _⟩) hsz (fun j hj => by
        rw [hD j hj]
        unfold doneB
        simp
        omega) (by unfold ordB at hB; exact hB) hS h
    exact ih
  | none :: fs, k, l, none, listed, a, w, hl, hn, hq, hsz, hD, hB, hS, h => by unfold ordB at hB; simp at hB
  | none :: fs, k, l, some p, listed, a, w, hl, hn, hq, hsz, hD, hB, hS, h => by
    obtain ⟨i, o⟩ := p
    obtain ⟨h0, hik⟩ := hq (i, o) rfl
    have hi : i < ops.size := (Array.getElem?_eq_some_iff.1 h0).1
    simp only [Option.map_some, ordB, Bool.and_eq_true, List.all_eq_true, List.any_eq_true] at hB
    obtain ⟨⟨hd, hw⟩, hB'⟩ := hB
    have hDu : ∀ j, j < ops.size → ¬ doneB k (some (i, infoOf ops o)) j = true → listed.getD j true = false := fun j hj hnd => by
      have h1 : ¬ listed.getD j false = true := fun e => hnd ((hD j hj).1 e)
      simp [hsz, hj] at h1 ⊢
      exact h1
    have hr : i ∈ Region.ready .any ops listed := by
      refine mem_ready.2 ⟨hDu i hi (by unfold doneB; simp), o, h0, fun e he hb => ?_⟩
      have hdn := hd e.on (List.mem_map.2 ⟨e, List.mem_filter.2 ⟨Array.mem_toList_iff.2 he, hb⟩, rfl⟩)
      have hek : e.on < k := by unfold doneB at hdn; simp at hdn; exact hdn.1
      exact (hD e.on (by omega)).2 hdn
    refine ⟨fun hz => (by rw [hz] at hr; cases hr), fun j hj => ?_⟩
    have hji : j = i := by
      obtain ⟨h1, oj, hoj, hall⟩ := mem_ready.1 hj
      have hjs : j < ops.size := (Array.getElem?_eq_some_iff.1 hoj).1
      rcases Nat.decEq j i with hne | he
      case isTrue => exact he
      exfalso
      have hnd : ¬ doneB k (some (i, infoOf ops o)) j = true := fun e => by
        have := (hD j hjs).2 e
        simp [hsz, hjs] at this h1
        rw [this] at h1
        cases h1
      have hjk : k ≤ j := by
        rcases Nat.lt_or_ge j k with g | g
        · exact absurd (by unfold doneB; simp [g, hne]) hnd
        · exact g
      have hlj := hl (j - k)
      rw [show k + (j - k) = j by omega, hoj] at hlj
      obtain ⟨e, he, hen⟩ := hw _ (List.mem_map.2 ⟨oj, List.mem_of_getElem? hlj, rfl⟩)
      obtain ⟨ea, hea, rfl⟩ := List.mem_map.1 he
      obtain ⟨he1, he2⟩ := List.mem_filter.1 hea
      have hls := hall ea (Array.mem_toList_iff.1 he1) he2
      have hlt : ea.on < ops.size := by
        rcases Nat.lt_or_ge ea.on ops.size with g | g
        · exact g
        · rw [← hsz] at g; simp [Array.getElem?_eq_none g] at hls
      have h3 := (hD ea.on hlt).1 hls
      simp only [Option.map_some] at h3
      rw [h3] at hen
      cases hen
    subst hji
    refine wpOp_step h0 (fun K' hK => h K' (fun a' w' hS' hW => hK a' w' ⟨hS', ?_⟩))
    exact HW.run hs hQ fs k l none (listed.setIfInBounds j true) a' w' hl hn (fun p hp => by cases hp) (by simpa using hsz) (fun m hm => by
      by_cases hmj : j = m
      · subst hmj
        have h1 : (listed.setIfInBounds j true).getD j false = true := by simp [hsz, hi]
        exact ⟨fun _ => by unfold doneB; simp [hik], fun _ => h1⟩
      · rw [getD_set_ne false hmj, hD m hm]
        unfold doneB
        have : ¬ m = j := fun e => hmj e.symm
        simp [this]) hB' hS' (hW hS')

/-- THE LAW: one order that is told serves every order. -/
theorem region_told {id : Nat} {a : Act} {w : World} {l : List Oper} (fs : List (Option Bool)) (S : World → Prop) (hm : P.follows .mixedOrders = true) (hs : Region.noSelect l.toArray = true)
    (hB : ordB fs 0 (l.map (infoOf l.toArray)) none = true) (hS : S w.drew) (h : HW P l.toArray (NoPanic Q) S fs l none a w.drew) : (Code.region id l.toArray true).wp P Q a w := by
  refine wp_region_noPanic (wp_region_held (S := S) hm ?_)
  have := HW.run hs (fun c a d v w h => h) fs 0 l none (Array.replicate l.toArray.size false) a w.drew (by simp) (by simp) (fun p hp => by cases hp) (by simp) (fun j hj => by unfold doneB; simp at hj ⊢; simp [hj]) hB hS h
  simpa using this
end
end Go.Proofs.YtpffldfpabglbaaGreatDoor
end

/- A region that draws its order, walked by a plan: what reads is taken first; up to two operations are put off; where two can come, both orders are walked. Of no program. -/
section
namespace Go.Proofs.YtpffldfpabglbaaGreatDoor
open Go
set_option linter.unusedVariables false

/-- A plan: take the next one, put it off, run the one put off, run the two put off in either order. -/
inductive Pl where
  | fin
  | take (p : Pl)
  | off (p : Pl)
  | go1 (p : Pl)
  | go2 (p q : Pl)
abbrev Inf := Option Tmp × List Tmp × List Nat
def doneP (k : Nat) (qs : List (Nat × Inf)) (e : Nat) : Bool := decide (e < k) && qs.all fun y => !(e == y.1)
def ordP : Pl → Nat → List Inf → List (Nat × Inf) → Bool
  | .fin, _, l, qs => l.isEmpty && qs.isEmpty
  | .take p, k, l, qs =>
    match l with
    | [] => false
    | x :: r => x.2.2.all (doneP k qs) && r.all (pairI k x) && qs.all (fun y => pairI k x y.2) && ordP p (k + 1) r qs
  | .off p, k, l, qs =>
    match l with
    | [] => false
    | x :: r => ordP p (k + 1) r (qs ++ [(k, x)])
  | .go1 p, k, l, qs =>
    match qs with
    | [y] => y.2.2.2.all (doneP k qs) && l.all (fun x => x.2.2.any fun e => !doneP k qs e) && ordP p k l []
    | _ => false
  | .go2 p q, k, l, qs =>
    match qs with
    | [y, z] => y.2.2.2.all (doneP k qs) && z.2.2.2.all (doneP k qs) && !(y.1 == z.1) && l.all (fun x => x.2.2.any fun e => !doneP k qs e) && ordP p k l [z] && ordP q k l [y]
    | _ => false
def HP (P : Program) (ops : Array Oper) (Q : Exit → Act → World → Prop) (S : World → Prop) : Pl → List Oper → List Oper → Act → World → Prop
  | .fin, _, _, a, w => Q .normal a w
  | .take p, l, qs, a, w =>
    match l with
    | [] => False
    | o :: r => ∃ v, YieldsIf P ops S o v a ∧ HP P ops Q S p r qs (a.put o.dst v) w
  | .off p, l, qs, a, w =>
    match l with
    | [] => False
    | o :: r => HP P ops Q S p r (qs ++ [o]) a w
  | .go1 p, l, qs, a, w =>
    match qs with
    | [o] => ∀ K' : Act → World → Prop, Shut (∀ a w, S w → (S w → HP P ops Q S p l [] a w) → K' a w) → if Region.wanted o (yielded ops a.tmps) = true then Oper.wp P o a w K' Q else K' (a.put o.dst undef) w
    | _ => False
  | .go2 p q, l, qs, a, w =>
    match qs with
    | [o, o'] => (∀ K' : Act → World → Prop, Shut (∀ a w, S w → (S w → HP P ops Q S p l [o'] a w) → K' a w) → if Region.wanted o (yielded ops a.tmps) = true then Oper.wp P o a w K' Q else K' (a.put o.dst undef) w) ∧
        ∀ K' : Act → World → Prop, Shut (∀ a w, S w → (S w → HP P ops Q S q l [o] a w) → K' a w) → if Region.wanted o' (yielded ops a.tmps) = true then Oper.wp P o' a w K' Q else K' (a.put o'.dst undef) w
    | _ => False

section
variable {P : Program} {ops : Array Oper} {Q : Exit → Act → World → Prop} {S : World → Prop}
theorem HP.end_ {l qs : List Oper} {a : Act} {w : World} (h : Q .normal a w) : HP P ops Q S .fin l qs a w := h
theorem HP.take' {p : Pl} {o : Oper} {r qs : List Oper} {a : Act} {w : World} (h : ∃ v, YieldsIf P ops S o v a ∧ HP P ops Q S p r qs (a.put o.dst v) w) : HP P ops Q S (.take p) (o :: r) qs a w := h
theorem HP.off {p : Pl} {o : Oper} {r qs : List Oper} {a : Act} {w : World} (h : HP P ops Q S p r (qs ++ [o]) a w) : HP P ops Q S (.off p) (o :: r) qs a w := h
theorem HP.go1 {p : Pl} {o : Oper} {l : List Oper} {a : Act} {w : World}
    (h : ∀ K' : Act → World → Prop, Shut (∀ a w, S w → (S w → HP P ops Q S p l [] a w) → K' a w) → if Region.wanted o (yielded ops a.tmps) = true then Oper.wp P o a w K' Q else K' (a.put o.dst undef) w) : HP P ops Q S (.go1 p) l [o] a w := h
theorem HP.go2 {p q : Pl} {o o' : Oper} {l : List Oper} {a : Act} {w : World}
    (h : ∀ K' : Act → World → Prop, Shut (∀ a w, S w → (S w → HP P ops Q S p l [o'] a w) → K' a w) → if Region.wanted o (yielded ops a.tmps) = true then Oper.wp P o a w K' Q else K' (a.put o.dst undef) w)
    (h' : ∀ K' : Act → World → Prop, Shut (∀ a w, S w → (S w → HP P ops Q S q l [o] a w) → K' a w) → if Region.wanted o' (yielded ops a.tmps) = true then Oper.wp P o' a w K' Q else K' (a.put o'.dst undef) w) : HP P ops Q S (.go2 p q) l [o, o'] a w := ⟨h, h'⟩

def infs (ops : Array Oper) (qs : List (Nat × Oper)) : List (Nat × Inf) := qs.map fun p => (p.1, infoOf ops p.2)
theorem doneP_iff {k : Nat} {qs : List (Nat × Oper)} {e : Nat} : doneP k (infs ops qs) e = true ↔ e < k ∧ ∀ p ∈ qs, e ≠ p.1 := by
  unfold doneP infs
  simp
/-- What holds of the walk: what lies ahead of k has come, but for those put off. -/
structure HI (ops : Array Oper) (k : Nat) (l : List Oper) (qs : List (Nat × Oper)) (listed : Array Bool) : Prop where
  rest : ∀ j, l[j]? = ops[k + j]?
  len : k + l.length = ops.size
  put : ∀ p ∈ qs, ops[p.1]? = some p.2 ∧ p.1 < k
  size : listed.size = ops.size
  come : ∀ j, j < ops.size → (listed.getD j false = true ↔ doneP k (infs ops qs) j = true)
theorem HI.un {k : Nat} {l : List Oper} {qs : List (Nat × Oper)} {listed : Array Bool} (h : HI ops k l qs listed) {j : Nat} (hj : j < ops.size) (hd : ¬ doneP k (infs ops qs) j = true) : listed.getD j true = false := by
  have h1 : ¬ listed.getD j false = true := fun e => hd ((h.come j hj).1 e)
  have := h.size
  simp [this, hj] at h1 ⊢
  exact h1
theorem HI.deps {k : Nat} {l : List Oper} {qs : List (Nat × Oper)} {listed : Array Bool} (h : HI ops k l qs listed) (hk : k ≤ ops.size) {o : Oper} (hd : (infoOf ops o).2.2.all (doneP k (infs ops qs)) = true) : ∀ e ∈ o.after, Region.binds .any e = true → listed.getD e.on false = true := by
  intro e he hb
  have hdn := List.all_eq_true.1 hd e.on (List.mem_map.2 ⟨e, List.mem_filter.2 ⟨Array.mem_toList_iff.2 he, hb⟩, rfl⟩)
  have hek := (doneP_iff.1 hdn).1
  exact (h.come e.on (by omega)).2 hdn
/-- Nothing of what lies behind can come while it waits for one that has not. -/
theorem HI.waits {k : Nat} {l : List Oper} {qs : List (Nat × Oper)} {listed : Array Bool} (h : HI ops k l qs listed) (hw : (l.map (infoOf ops)).all (fun x => x.2.2.any fun e => !doneP k (infs ops qs) e) = true) :
    ∀ j ∈ Region.ready .any ops listed, ∃ p ∈ qs, j = p.1 := by
  intro j hj
  obtain ⟨h1, oj, hoj, hall⟩ := mem_ready.1 hj
  have hjs : j < ops.size := (Array.getElem?_eq_some_iff.1 hoj).1
  have hnd : ¬ doneP k (infs ops qs) j = true := fun e => by
    have := (h.come j hjs).2 e
    have hsz := h.size
    simp [hsz, hjs] at this h1
    rw [h1] at this
    cases this
  rcases Nat.lt_or_ge j k with g | g
  · refine Classical.byContradiction fun hne => hnd (doneP_iff.2 ⟨g, fun p hp e => hne ⟨p, hp, e⟩⟩)
  · exfalso
    have hlj := h.rest (j - k)
    rw [show k + (j - k) = j by omega, hoj] at hlj
    have hx := List.all_eq_true.1 hw _ (List.mem_map.2 ⟨oj, List.mem_of_getElem? hlj, rfl⟩)
    obtain ⟨e, he, hen⟩ := List.any_eq_true.1 hx
    obtain ⟨ea, hea, rfl⟩ := List.mem_map.1 he
    obtain ⟨he1, he2⟩ := List.mem_filter.1 hea
    have hls := hall ea (Array.mem_toList_iff.1 he1) he2
    have hlt : ea.on < ops.size := by
      rcases Nat.lt_or_ge ea.on ops.size with g | g
      · exact g
      · have hsz := h.size
        rw [← hsz] at g; simp [Array.getElem?_eq_none g] at hls
    have h3 := (h.come ea.on hlt).1 hls
    rw [h3] at hen
    cases hen
theorem HI.set {k k' : Nat} {l l' : List Oper} {qs qs' : List (Nat × Oper)} {listed : Array Bool} (h : HI ops k l qs listed) {i : Nat} (hi : i < ops.size) (hr : ∀ j, l'[j]? = ops[k' + j]?) (hlen : k' + l'.length = ops.size) (hput : ∀ p ∈ qs', ops[p.1]? = some p.2 ∧ p.1 < k')
    (hd : ∀ j, doneP k' (infs ops qs') j = true ↔ (j = i ∨ doneP k (infs ops qs) j = true)) : HI ops k' l' qs' (listed.setIfInBounds i true) := by
  refine ⟨hr, hlen, hput, by simpa using h.size, fun j hj => ?_⟩
  rw [hd]
  by_cases q : i = j
  · subst q
    have h1 : (listed.setIfInBounds i true).getD i false = true := by simp [h.size, hi]
    exact ⟨fun _ => .inl rfl, fun _ => h1⟩
  · rw [getD_set_ne false q, h.come j hj]
    exact ⟨fun x => .inr x, fun x => x.resolve_left fun e => q e.symm⟩
theorem HP.run (hs : Region.noSelect ops = true) (hQ : ∀ c a d v w, Q (.panic c) (Act.put a d v) w → Q (.panic c) a w) : ∀ (p : Pl) (k : Nat) (l : List Oper) (qs : List (Nat × Oper)) (listed : Array Bool) (a : Act) (w : World),
    HI ops k l qs listed → ordP p k (l.map (infoOf ops)) (infs ops qs) = true → S w → HP P ops Q S p l (qs.map (·.2)) a w → wpAnyH P .any ops Q S (l.length + qs.length) listed a w
  | .fin, k, l, qs, listed, a, w, hI, hB, hS, h => by
    simp only [ordP, Bool.and_eq_true, List.isEmpty_iff, List.map_eq_nil_iff, infs] at hB
    obtain ⟨rfl, rfl⟩ := hB
    refine wpAnyH_done ?_ h _
    rw [List.eq_nil_iff_forall_not_mem]
    intro j hj
    obtain ⟨q, hq, _⟩ := hI.waits (by simp) j hj
    simp at hq
  | .take p, k, [], qs, listed, a, w, hI, hB, hS, h => by simp [ordP] at hB
  | .take p, k, o :: r, qs, listed, a, w, hI, hB, hS, h => by
    have h0 : ops[k]? = some o := by simpa using (hI.rest 0).symm
    have hk : k < ops.size := (Array.getElem?_eq_some_iff.1 h0).1
    simp only [List.map_cons, ordP, Bool.and_eq_true] at hB
    obtain ⟨⟨⟨hd, hp⟩, hpq⟩, hB'⟩ := hB
    obtain ⟨v, hy, hK⟩ := h
    have hnk : ∀ q ∈ qs, q.1 ≠ k := fun q hq => Nat.ne_of_lt (hI.put q hq).2
    have hkd : ¬ doneP k (infs ops qs) k = true := fun e => by have := (doneP_iff.1 e).1; omega
    have hun := hI.un hk hkd
    have hr : k ∈ Region.ready .any ops listed := mem_ready.2 ⟨hun, o, h0, hI.deps (by omega) hd⟩
    have hfree : ∀ j oj, ops[j]? = some oj → j ≠ k → listed.getD j true = false → (∀ e ∈ oj.after, Region.binds .any e = true → e.on ≠ k) → o.apart ops oj = true := by
      intro j oj hoj hne hju hno
      have hj : j < ops.size := (Array.getElem?_eq_some_iff.1 hoj).1
      have hsz := hI.size
      have hnd : ¬ doneP k (infs ops qs) j = true := fun e => by
        have := (hI.come j hj).2 e
        simp [hsz, hj] at this hju
        rw [this] at hju
        cases hju
      rcases Nat.lt_or_ge j k with g | g
      · obtain ⟨q, hq, e⟩ : ∃ q ∈ qs, j = q.1 := Classical.byContradiction fun hx => hnd (doneP_iff.2 ⟨g, fun q hq e => hx ⟨q, hq, e⟩⟩)
        have hqo := (hI.put q hq).1
        rw [← e, hoj] at hqo
        have e2 := Option.some.inj hqo
        have := List.all_eq_true.1 hpq (q.1, infoOf ops q.2) (List.mem_map.2 ⟨q, hq, rfl⟩)
        rw [← e2] at this
        exact apart_of this hno
      · have hlj := hI.rest (j - k)
        rw [show k + (j - k) = j by omega, hoj, show j - k = (j - k - 1) + 1 by omega, List.getElem?_cons_succ] at hlj
        exact apart_of (List.all_eq_true.1 hp _ (List.mem_map.2 ⟨oj, List.mem_of_getElem? hlj, rfl⟩)) hno
    have hlen := hI.len
    have hI' : HI ops (k + 1) r qs (listed.setIfInBounds k true) := hI.set hk (fun j => by
        have := hI.rest (j + 1)
        simpa [Nat.add_assoc, Nat.add_comm 1 j] using this) (by simp at hlen; omega) (fun q hq => ⟨(hI.put q hq).1, Nat.lt_succ_of_lt (hI.put q hq).2⟩) (fun j => by
        rw [doneP_iff, doneP_iff]
        constructor
        · rintro ⟨h1, h2⟩
          by_cases q : j = k
          · exact .inl q
          · exact .inr ⟨by omega, h2⟩
        · rintro (rfl | ⟨h1, h2⟩)
          · exact ⟨by omega, fun q hq e => hnk q hq e.symm⟩
          · exact ⟨by omega, h2⟩)
    have ih := HP.run hs hQ p (k + 1) r qs (listed.setIfInBounds k true) (a.put o.dst v) w hI' hB' hS hK
    rw [show (o :: r).length + qs.length = (r.length + qs.length) + 1 by simp; omega]
    exact wpAnyH_first h0 (Region.noSelect_spec hs) (fun c a w => hQ c a _ _ w) _ listed a w hfree hr hy hS ih
  | .off p, k, [], qs, listed, a, w, hI, hB, hS, h => by simp [ordP] at hB
  | .off p, k, o :: r, qs, listed, a, w, hI, hB, hS, h => by
    have h0 : ops[k]? = some o := by simpa using (hI.rest 0).symm
    have hlen := hI.len
    have hI' : HI ops (k + 1) r (qs ++ [(k, o)]) listed := ⟨fun j => by
        have := hI.rest (j + 1)
        simpa [Nat.add_assoc, Nat.add_comm 1 j] using this, by simp at hlen; omega, fun q hq => by
        rcases List.mem_append.1 hq with hq | hq
        · exact ⟨(hI.put q hq).1, Nat.lt_succ_of_lt (hI.put q hq).2⟩
        · simp at hq; subst hq; exact ⟨h0, Nat.lt_succ_self _⟩, hI.size, fun j hj => by
        rw [hI.come j hj, doneP_iff, doneP_iff]
        constructor
        · rintro ⟨h1, h2⟩
          refine ⟨by omega, fun q hq => ?_⟩
          rcases List.mem_append.1 hq with hq | hq
          · exact h2 q hq
          · simp at hq; subst hq; show j ≠ k; omega
        · rintro ⟨h1, h2⟩
          have h3 := h2 (k, o) (by simp)
          exact ⟨by simp only at h3; omega, fun q hq => h2 q (List.mem_append_left _ hq)⟩⟩
    have hB' : ordP p (k + 1) (r.map (infoOf ops)) (infs ops (qs ++ [(k, o)])) = true := by
      simp only [List.map_cons, ordP] at hB
      simpa [infs] using hB
    have ih := HP.run hs hQ p (k + 1) r (qs ++ [(k, o)]) listed a w hI' hB' hS (by simpa [HP] using h)
    rw [show (o :: r).length + qs.length = r.length + (qs ++ [(k, o)]).length by simp; omega]
    exact ih
  | .go1 p, k, l, [], listed, a, w, hI, hB, hS, h => by simp [ordP, infs] at hB
  | .go1 p, k, l, [(i, o)], listed, a, w, hI, hB, hS, h => by
    obtain ⟨h0, hik⟩ := hI.put (i, o) (by simp)
    simp only at h0 hik
    have hi : i < ops.size := (Array.getElem?_eq_some_iff.1 h0).1
    simp only [ordP, infs, List.map_cons, List.map_nil, Bool.and_eq_true] at hB
    obtain ⟨⟨hd, hw⟩, hB'⟩ := hB
    have hkl := hI.len
    have hr : i ∈ Region.ready .any ops listed := mem_ready.2 ⟨hI.un hi fun e => by have := (doneP_iff.1 e).2 (i, o) (by simp); exact this rfl, o, h0, hI.deps (by omega) hd⟩
    refine ⟨fun hz => (by rw [hz] at hr; cases hr), fun j hj => ?_⟩
    obtain ⟨q, hq, hji⟩ := hI.waits hw j hj
    simp at hq
    subst hq
    simp only at hji
    subst hji
    refine wpOp_step h0 (fun K' hK => h K' (fun a' w' hS' hW => hK a' w' ⟨hS', ?_⟩))
    have hI' : HI ops k l [] (listed.setIfInBounds j true) := hI.set hi hI.rest hI.len (by simp) (fun m => by
      rw [doneP_iff, doneP_iff]
      constructor
      · rintro ⟨h1, _⟩
        by_cases q : m = j
        · exact .inl q
        · exact .inr ⟨h1, fun p hp => by simp at hp; subst hp; exact q⟩
      · rintro (rfl | ⟨h1, _⟩)
        · exact ⟨hik, by simp⟩
        · exact ⟨h1, by simp⟩)
    exact HP.run hs hQ p k l [] _ a' w' hI' hB' hS' (hW hS')
  | .go1 p, k, l, _ :: _ :: _, listed, a, w, hI, hB, hS, h => by simp [ordP, infs] at hB
  | .go2 p q, k, l, [], listed, a, w, hI, hB, hS, h => by simp [ordP, infs] at hB
  | .go2 p q, k, l, [_], listed, a, w, hI, hB, hS, h => by simp [ordP, infs] at hB
  | .go2 p q, k, l, [(i, o), (i', o')], listed, a, w, hI, hB, hS, h => by
    obtain ⟨h0, hik⟩ := hI.put (i, o) (by simp)
    obtain ⟨h0', hik'⟩ := hI.put (i', o') (by simp)
    simp only at h0 hik h0' hik'
    have hi : i < ops.size := (Array.getElem?_eq_some_iff.1 h0).1
    have hi' : i' < ops.size := (Array.getElem?_eq_some_iff.1 h0').1
    simp only [ordP, infs, List.map_cons, List.map_nil, Bool.and_eq_true] at hB
    obtain ⟨⟨⟨⟨⟨hd, hd'⟩, hne⟩, hw⟩, hB1⟩, hB2⟩ := hB
    have hne' : i ≠ i' := by simpa using hne
    have hkl := hI.len
    have hr : i ∈ Region.ready .any ops listed := mem_ready.2 ⟨hI.un hi fun e => by have := (doneP_iff.1 e).2 (i, o) (by simp); exact this rfl, o, h0, hI.deps (by omega) hd⟩
    refine ⟨fun hz => (by rw [hz] at hr; cases hr), fun j hj => ?_⟩
    obtain ⟨x, hx, hji⟩ := hI.waits hw j hj
    simp at hx
    rcases hx with rfl | rfl
    · simp only at hji
      subst hji
      refine wpOp_step h0 (fun K' hK => h.1 K' (fun a' w' hS' hW => hK a' w' ⟨hS', ?_⟩))
      have hI' : HI ops k l [(i', o')] (listed.setIfInBounds j true) := hI.set hi hI.rest hI.len (fun p hp => hI.put p (by simp at hp; simp [hp])) (fun m => by
        rw [doneP_iff, doneP_iff]
        constructor
        · rintro ⟨h1, h2⟩
          by_cases q : m = j
          · exact .inl q
          · exact .inr ⟨h1, fun p hp => by
              simp at hp
              rcases hp with rfl | rfl
              · exact q
              · exact h2 _ (by simp)⟩
        · rintro (rfl | ⟨h1, h2⟩)
          · exact ⟨hik, fun p hp => by simp at hp; subst hp; exact hne'⟩
          · exact ⟨h1, fun p hp => h2 p (by simp at hp; simp [hp])⟩)
      have ih := HP.run hs hQ p k l [(i', o')] _ a' w' hI' hB1 hS' (hW hS')
      exact ih
    · simp only at hji
      subst hji
      refine wpOp_step h0' (fun K' hK => h.2 K' (fun a' w' hS' hW => hK a' w' ⟨hS', ?_⟩))
      have hI' : HI ops k l [(i, o)] (listed.setIfInBounds j true) := hI.set hi' hI.rest hI.len (fun p hp => hI.put p (by simp at hp; simp [hp])) (fun m => by
        rw [doneP_iff, doneP_iff]
        constructor
        · rintro ⟨h1, h2⟩
          by_cases q : m = j
          · exact .inl q
          · exact .inr ⟨h1, fun p hp => by
              simp at hp
              rcases hp with rfl | rfl
              · exact h2 _ (by simp)
              · exact q⟩
        · rintro (rfl | ⟨h1, h2⟩)
          · exact ⟨hik', fun p hp => by simp at hp; subst hp; exact fun e => hne' e.symm⟩
          · exact ⟨h1, fun p hp => h2 p (by simp at hp; simp [hp])⟩)
      have ih := HP.run hs hQ q k l [(i, o)] _ a' w' hI' hB2 hS' (hW hS')
      exact ih
  | .go2 p q, k, l, _ :: _ :: _ :: _, listed, a, w, hI, hB, hS, h => by simp [ordP, infs] at hB
/-- Two that may come in either order, each with what it gives: one way goes on. -/
theorem put_comm (a : Act) {d d' : Tmp} (hne : d ≠ d') (v v' : Value) : (a.put (some d') v').put (some d) v = (a.put (some d) v).put (some d') v' := by
  simp only [Act.put]
  congr 1
  exact (Array.setIfInBounds_comm _ _ hne).symm
theorem HP.both {p : Pl} {o o' : Oper} {l : List Oper} {a : Act} {w : World} (d d' : Tmp) (hd : o.dst = some d) (hd' : o'.dst = some d') (hne : d ≠ d') (φ φ' : Value → World → Prop)
    (hφ : ∀ v w1 w2, φ v w1 → Nw w1 w2 → φ v w2) (hφ' : ∀ v w1 w2, φ' v w1 → Nw w1 w2 → φ' v w2) (hS : S w)
    (h1 : ∀ w1, S w1 → ∀ K' : Act → World → Prop, (∀ v w', Nw w1 w' → φ v w' → K' (a.put (some d) v) w') → if Region.wanted o (yielded ops a.tmps) = true then Oper.wp P o a w1 K' Q else K' (a.put o.dst undef) w1)
    (h1' : ∀ u w1, S w1 → ∀ K' : Act → World → Prop, (∀ v w', Nw w1 w' → φ v w' → K' ((a.put (some d') u).put (some d) v) w') → if Region.wanted o (yielded ops (a.put (some d') u).tmps) = true then Oper.wp P o (a.put (some d') u) w1 K' Q else K' ((a.put (some d') u).put o.dst undef) w1)
    (h2 : ∀ w1, S w1 → ∀ K' : Act → World → Prop, (∀ v w', Nw w1 w' → φ' v w' → K' (a.put (some d') v) w') → if Region.wanted o' (yielded ops a.tmps) = true then Oper.wp P o' a w1 K' Q else K' (a.put o'.dst undef) w1)
    (h2' : ∀ u w1, S w1 → ∀ K' : Act → World → Prop, (∀ v w', Nw w1 w' → φ' v w' → K' ((a.put (some d) u).put (some d') v) w') → if Region.wanted o' (yielded ops (a.put (some d) u).tmps) = true then Oper.wp P o' (a.put (some d) u) w1 K' Q else K' ((a.put (some d) u).put o'.dst undef) w1)
    (hN : ∀ w1 w2, S w1 → Nw w1 w2 → S w2)
    (h : ∀ v v' w', S w' → φ v w' → φ' v' w' → HP P ops Q S p l [] ((a.put (some d) v).put (some d') v') w') : HP P ops Q S (.go2 (.go1 p) (.go1 p)) l [o, o'] a w := by
  refine HP.go2 (fun KK hKK => h1 w hS KK fun v w' g hv => hKK.out _ _ (hN _ _ hS g) fun _ => HP.go1 fun K2 hK2 => h2' v w' (hN _ _ hS g) K2 fun v2 w2 g2 hv2 => hK2.out _ _ (hN _ _ (hN _ _ hS g) g2) fun _ => h v v2 w2 (hN _ _ (hN _ _ hS g) g2) (hφ _ _ _ hv g2) hv2)
    (fun KK hKK => h2 w hS KK fun v w' g hv => hKK.out _ _ (hN _ _ hS g) fun _ => HP.go1 fun K2 hK2 => h1' v w' (hN _ _ hS g) K2 fun v2 w2 g2 hv2 => hK2.out _ _ (hN _ _ (hN _ _ hS g) g2) fun _ => ?_)
  rw [put_comm a hne]
  exact h v2 v w2 (hN _ _ (hN _ _ hS g) g2) hv2 (hφ' _ _ _ hv g2)
end
end Go.Proofs.YtpffldfpabglbaaGreatDoor
end

/- The document's own queue: upgrading. -/
section
namespace Go.Proofs.YtpffldfpabglbaaGreatDoor
open Go.RowKit
set_option linter.unusedVariables false      -- a contract need not use every name

/-- Of the first k: the place of the one that upgrades with the least Since. -/
def UpT (q : List Rq) (k : Nat) (i : Int) : Prop := (i = -1 ∧ ∀ a ∈ q.take k, ¬ isUp a) ∨ ∃ m : Nat, i = m ∧ m < k ∧ ∃ h : m < q.length, isUp q[m] ∧ ∀ a ∈ q.take k, isUp a → q[m].sn ≤ a.sn
theorem UpT.no {q : List Rq} {k : Nat} {i : Int} (h : UpT q k i) (hk : k < q.length) (hn : ¬ isUp q[k]) : UpT q (k + 1) i := by
  rcases h with ⟨rfl, h⟩ | ⟨m, rfl, hm, hml, hu, h⟩
  · refine .inl ⟨rfl, fun a ha => ?_⟩
    rcases take_mem hk ha with q1 | rfl
    · exact h a q1
    · exact hn
  · refine .inr ⟨m, rfl, by omega, hml, hu, fun a ha => ?_⟩
    rcases take_mem hk ha with q1 | rfl
    · exact h a q1
    · exact fun e => absurd e hn
theorem UpT.keep {q : List Rq} {k m : Nat} (h : UpT q k m) (hk : k < q.length) (hml : m < q.length) (hl : q[m].sn ≤ q[k].sn) : UpT q (k + 1) m := by
  rcases h with ⟨e, h⟩ | ⟨m', e, hm, hml', hu, h⟩
  · omega
  · obtain rfl : m = m' := by omega
    refine .inr ⟨m, rfl, by omega, hml, hu, fun a ha hau => ?_⟩
    rcases take_mem hk ha with q1 | rfl
    · exact h a q1 hau
    · exact hl
end Go.Proofs.YtpffldfpabglbaaGreatDoor
end

/- The document's own queue: copied, Find, Mode. -/
section
namespace Go.Proofs.YtpffldfpabglbaaGreatDoor
open Go.RowKit
set_option linter.unusedVariables false      -- a contract need not use every name

end Go.Proofs.YtpffldfpabglbaaGreatDoor
end

/- The document's own queue: Find, Mode, Same. -/
section
namespace Go.Proofs.YtpffldfpabglbaaGreatDoor
open Go.RowKit
set_option linter.unusedVariables false      -- a contract need not use every name

end Go.Proofs.YtpffldfpabglbaaGreatDoor
end

/- The document's own queue: without. -/
section
namespace Go.Proofs.YtpffldfpabglbaaGreatDoor
open Go.RowKit
set_option linter.unusedVariables false      -- a contract need not use every name

theorem own_pre {w : World} {g0 e size g n cap i : Nat} {xs : List Value} (h : w.ownsRow g0 e size (.slice (some ⟨g, 0, none⟩) n cap) n xs) (hi : i ≤ n) : w.ownsRow g0 e size (.slice (some ⟨g, 0, none⟩) i cap) i (xs.take (i * size)) := by
  obtain ⟨hl, q | ⟨g', cap', cur, e1, hb, hg, hn, hc, hs, ht⟩⟩ := h
  · simp at q
  · simp only [Value.slice.injEq, Option.some.injEq, Addr.mk.injEq, and_true, true_and] at e1
    obtain ⟨rfl, rfl⟩ := e1
    have hm := Nat.mul_le_mul_right size hi
    refine ⟨by rw [List.length_take, hl]; omega, .inr ⟨g, cap, cur, rfl, hb, hg, by omega, hc, hs, ?_⟩⟩
    rw [← ht, List.take_take, Nat.min_eq_left hm]
theorem rows_take {α : Type} {sz : Nat} {row : α → List Value} (hl : ∀ a, (row a).length = sz) (i : Nat) (l : List α) (hi : i ≤ l.length) : (rowsOf row l).take (i * sz) = rowsOf row (l.take i) := by
  have e : rowsOf row l = rowsOf row (l.take i) ++ rowsOf row (l.drop i) := by rw [← rows_app, List.take_append_drop]
  have hll : (rowsOf row (l.take i)).length = i * sz := by rw [rows_len hl, List.length_take, Nat.min_eq_left hi]
  rw [e, ← hll, List.take_left]
theorem Own.pre {w : World} {g0 g n cap : Nat} {q : List Rq} (h : RqOwn w g0 (.slice (some ⟨g, 0, none⟩) n cap) q) (hn : n = q.length) {i : Nat} (hi : i ≤ n) : RqOwn w g0 (.slice (some ⟨g, 0, none⟩) i cap) (q.take i) := by
  subst hn
  have := own_pre h hi
  unfold RqOwn Own
  rw [List.length_take, Nat.min_eq_left hi, ← rows_take (sz := 5) (row := rqrow) (fun _ => rfl) i q hi]
  exact this
theorem own_cap {w : World} {g0 e size g n cap : Nat} {xs : List Value} (h : w.ownsRow g0 e size (.slice (some ⟨g, 0, none⟩) n cap) n xs) : n ≤ cap := by
  obtain ⟨_, q | ⟨g', cap', cur, e1, _, _, hn, _⟩⟩ := h
  · simp at q
  · simp only [Value.slice.injEq] at e1
    rw [e1.2.2]; exact hn
end Go.Proofs.YtpffldfpabglbaaGreatDoor
end

/- The document's own queue: Leave. -/
section
namespace Go.Proofs.YtpffldfpabglbaaGreatDoor
open Go.RowKit
set_option linter.unusedVariables false      -- a contract need not use every name

def capOk : Value → Prop
  | .slice _ n c => n ≤ c
  | _ => True
/-- What a call gives that returns a head and an error. -/
def HR1 (X : Hq × Int) (w : World) (e : Ending) (w' : World) : Prop := ∃ v', e = .returned (.tuple #[hdV X.1.t X.1.r v' X.1.W, .int .i64 X.2]) ∧ Nw w w' ∧ RqAt w' v' X.1.q ∧ capOk v'
/-- A slice whose block is not below a mark. -/
def newV (n : Nat) (v : Value) : Prop := ∀ a l c, v = .slice (some a) l c → n ≤ a.block
theorem newV_nil (n : Nat) : newV n (.slice none 0 0) := fun a l c e => by cases e
theorem RqOwn.newV {w : World} {g0 n : Nat} {v : Value} {q : List Rq} (h : RqOwn w g0 v q) (hn : n ≤ g0) : newV n v := by
  rcases oform h with ⟨rfl, _⟩ | ⟨g, cap, rfl⟩
  · exact newV_nil n
  · intro a l c e
    cases e
    exact Nat.le_trans hn (oge h rfl)
/-- The same, and the row that is returned is new. -/
def HR1n (X : Hq × Int) (w : World) (e : Ending) (w' : World) : Prop := ∃ v', e = .returned (.tuple #[hdV X.1.t X.1.r v' X.1.W, .int .i64 X.2]) ∧ Nw w w' ∧ RqAt w' v' X.1.q ∧ capOk v' ∧ newV w.heap.size v'
theorem HR1n.old {X : Hq × Int} {w : World} {e : Ending} {w' : World} (h : HR1n X w e w') : HR1 X w e w' := by
  obtain ⟨v, h1, h2, h3, h4, _⟩ := h
  exact ⟨v, h1, h2, h3, h4⟩
theorem RqOwn.cap {w : World} {g0 : Nat} {v : Value} {q : List Rq} (h : RqOwn w g0 v q) : capOk v := by
  rcases oform h with ⟨rfl, _⟩ | ⟨g, cap, rfl⟩
  · exact Nat.le_refl _
  · exact own_cap h
/-- The result's box is filled. -/
theorem fill_nw {w a : World} {rb : Nat} (h : Nw w a) (hb : w.heap.size ≤ rb) (u0 u1 u2 u3 : Value) : Nw w ((((a.setCell ⟨rb, 0, none⟩ u0).setCell ⟨rb, 1, none⟩ u1).setCell ⟨rb, 2, none⟩ u2).setCell ⟨rb, 3, none⟩ u3) :=
  (((h.st hb _).st hb _).st hb _).st hb _
theorem fill_own {a : World} {rb g0 : Nat} {v : Value} {q : List Rq} (h : RqOwn a g0 v q) (hb : rb < g0) (u0 u1 u2 u3 : Value) : RqOwn ((((a.setCell ⟨rb, 0, none⟩ u0).setCell ⟨rb, 1, none⟩ u1).setCell ⟨rb, 2, none⟩ u2).setCell ⟨rb, 3, none⟩ u3) g0 v q :=
  own_st (own_st (own_st (own_st h (p := ⟨rb, 0, none⟩) hb u0) (p := ⟨rb, 1, none⟩) hb u1) (p := ⟨rb, 2, none⟩) hb u2) (p := ⟨rb, 3, none⟩) hb u3
theorem two_boxes (w : World) (o1 o2 : Obj) : ((w.alloc o1).alloc o2).heap[w.heap.size]? = some o1 ∧ ((w.alloc o1).alloc o2).heap[w.heap.size + 1]? = some o2 ∧ Nw w ((w.alloc o1).alloc o2) ∧ ((w.alloc o1).alloc o2).heap.size = w.heap.size + 1 + 1 := by
  have hs : (w.alloc o1).heap.size = w.heap.size + 1 := by simp
  refine ⟨((Nw.refl _).alloc o2).at' (allocAt w o1), ?_, ((Nw.refl w).alloc _).alloc _, by simp⟩
  have := allocAt (w.alloc o1) o2
  rwa [hs] at this
end Go.Proofs.YtpffldfpabglbaaGreatDoor
end

/- The document's own bucket in memory; Len, of. -/
section
namespace Go.Proofs.YtpffldfpabglbaaGreatDoor
open Go.RowKit
set_option linter.unusedVariables false      -- a contract need not use every name

/-- A head in a row of heads: the head, its requests' address and capacity. -/
structure Hm where
  h : Hq
  a : Option Addr
  c : Nat
def hmV (x : Hm) : Value := .slice x.a x.h.q.length x.c
def hmrow (x : Hm) : List Value := [.int .i64 x.h.t, .int .i64 x.h.r, .slice x.a x.h.q.length x.c, .int .i64 x.h.W]
theorem elemHm : Elem Tryz.prog 40 63 4 48 hmrow where
  und := Tryz.underlying40
  inf := by
    have h : (Tryz.prog.info? 63).map (fun i => (i.zero, i.size, i.bytes)) = some (some (.agg #[.int .i64 0, .int .i64 0, .slice none 0 0, .int .i64 0]), 4, 48) := by kernel_rfl
    cases e : Tryz.prog.info? 63 with
    | none => rw [e] at h; cases h
    | some i =>
      rw [e] at h
      simp only [Option.map_some, Option.some.injEq, Prod.mk.injEq] at h
      exact ⟨i, _, rfl, h.1, h.2.1, h.2.2, rfl⟩
  pos := by decide
  byt := by decide
  len := fun _ => rfl
  one := fun a u hu => by
    simp only [hmrow, List.mem_cons, List.not_mem_nil, or_false] at hu
    rcases hu with rfl | rfl | rfl | rfl <;> rfl
abbrev HmOwn (w : World) (g0 : Nat) (v : Value) (l : List Hm) : Prop := Own 63 4 hmrow w g0 v l
/-- A head's requests can be read; they lie behind the bucket, and beside its heads. -/
structure HmOk (w : World) (o : Nat) (u : Option Nat) (x : Hm) : Prop where
  rd : RqAt w (hmV x) x.h.q
  cap : x.h.q.length ≤ x.c
  len : x.h.q.length ≤ 1000
  new : newV (o + 1) (hmV x)
  off : ∀ b, x.a = some b → x.h.q ≠ [] → u ≠ some b.block
/-- The document's own bucket: its cell at o, its pool's cell at po (below o), its heads at v. -/
structure Rb (w : World) (o po : Nat) (most : Int) (v : Value) (l : List Hm) : Prop where
  c0 : w.cell? ⟨o, 0, none⟩ = some (.int .i64 most)
  c1 : w.cell? ⟨o, 1, none⟩ = some (.pointer (some ⟨po, 0, none⟩))
  c2 : w.cell? ⟨o, 2, none⟩ = some v
  fz : ∀ j, w.frozen? ⟨o, j, none⟩ = false
  ol : o < w.heap.size
  pl : po < o
  own : HmOwn w (o + 1) v l
  ok : ∀ x ∈ l, HmOk w o v.ownBlock x
  len : l.length ≤ 64
theorem HmOk.nw {w w' : World} {o : Nat} {u : Option Nat} {x : Hm} (h : HmOk w o u x) (g : Nw w w') : HmOk w' o u x := ⟨h.rd.nw g, h.cap, h.len, h.new, h.off⟩
theorem Rb.nw {w w' : World} {o po : Nat} {most : Int} {v : Value} {l : List Hm} (h : Rb w o po most v l) (g : Nw w w') : Rb w' o po most v l :=
  ⟨(g.cell h.ol).trans h.c0, (g.cell h.ol).trans h.c1, (g.cell h.ol).trans h.c2, fun j => (g.froz h.ol).trans (h.fz j), Nat.lt_of_lt_of_le h.ol g.sz, h.pl, onw h.own g, fun x hx => (h.ok x hx).nw g, h.len⟩
/-- The heads' slice, and what lies in its cells. -/
theorem Rb.form {w : World} {o po : Nat} {most : Int} {v : Value} {l : List Hm} (h : Rb w o po most v l) : ∃ a c, v = .slice a l.length c ∧ ((a = none ∧ l = [] ∧ c = 0) ∨ ∃ g, a = some ⟨g, 0, none⟩ ∧ o < g ∧ g < w.heap.size) := by
  rcases oform h.own with ⟨rfl, e⟩ | ⟨g, cap, rfl⟩
  · exact ⟨none, 0, by rw [e], .inl ⟨rfl, List.length_eq_zero_iff.1 e, rfl⟩⟩
  · exact ⟨_, cap, rfl, .inr ⟨g, rfl, oge h.own rfl, olt h.own rfl⟩⟩
/-- Where the head is that has a request. -/
def OfIs (l : List Hm) (id i : Int) : Prop := (i = -1 ∧ ∀ x ∈ l, fnd x.h.q id = none) ∨ ∃ k : Nat, i = k ∧ ∃ hk : k < l.length, (fnd l[k].h.q id).isSome = true ∧ ∀ j (hj : j < l.length), j < k → fnd l[j].h.q id = none
end Go.Proofs.YtpffldfpabglbaaGreatDoor
end

/- Contracts of package name, first part: Database, numbered, Level, Check. -/
section
namespace Go.Proofs.YtpffldfpabglbaaGreatDoor
open Go.ChangeShapes Go.WideShapes Go.ChangeAt Go.RowKit

/-- A name as a value. -/
def nm (t r : Int) : Value := .agg #[.int .i64 t, .int .i64 r]

theorem database_any (w : World) :
    Calls Tryz.prog 202 #[] w fun e w' => e = .returned (.agg #[.int .i64 (-1), .int .i64 (-1)]) ∧ Nw w w' := by
  go_enter Tryz.func202, Tryz.ntmps202
  go_wp2
  exact bodyPost_ret (v := .agg #[.int .i64 (-1), .int .i64 (-1)]) (by simp [results, Tryz.results202, go_sem]) rfl ⟨rfl, (Nw.refl _).alloc _⟩

theorem numbered_yes (i : Int) (w : World) (h0 : 0 ≤ i) (h1 : i < 100) :
    Calls Tryz.prog 203 #[.int .i64 i] w fun e w' => e = .returned (.bool true) ∧ w = w' := by
  go_enter Tryz.func203, Tryz.ntmps203
  go_wp2
  go_ret
  exact ⟨rfl, rfl⟩
theorem numbered_no (i : Int) (w : World) (h : i < 0 ∨ 100 ≤ i) :
    Calls Tryz.prog 203 #[.int .i64 i] w fun e w' => e = .returned (.bool false) ∧ w = w' := by
  rcases h with h | h
  · go_enter Tryz.func203, Tryz.ntmps203
    go_wp2
    go_ret
    exact ⟨rfl, rfl⟩
  · have h0 : 0 ≤ i := by omega
    have hd : decide (i < 100) = false := by simp; omega
    go_enter Tryz.func203, Tryz.ntmps203
    go_wp2
    go_ret
    exact ⟨rfl, rfl⟩

/-- The box of a name lies in the first new block; nothing that was there has changed. -/
theorem box_start (w : World) (t r : Int) (ty : TypeId) :
    (w.alloc (.cells #[.int .i64 t, .int .i64 r] ty)).drew.cell? ⟨w.heap.size, 0, none⟩ = some (.int .i64 t) ∧ (w.alloc (.cells #[.int .i64 t, .int .i64 r] ty)).drew.cell? ⟨w.heap.size, 1, none⟩ = some (.int .i64 r) ∧ (w.heap.size < (w.alloc (.cells #[.int .i64 t, .int .i64 r] ty)).drew.heap.size ∧ Nw w (w.alloc (.cells #[.int .i64 t, .int .i64 r] ty)).drew) :=
  ⟨cell_of_row _ _ 0 _ ty (0, 0) (heap_alloc_last w _), cell_of_row _ _ 1 _ ty (0, 0) (heap_alloc_last w _), by show _ < (w.heap.push _).size; simp, ((Nw.refl w).alloc _).drewN 1⟩
theorem box_step {w a b : World} {t r : Int} (g : Nw a b)
    (h : a.cell? ⟨w.heap.size, 0, none⟩ = some (.int .i64 t) ∧ a.cell? ⟨w.heap.size, 1, none⟩ = some (.int .i64 r) ∧ (w.heap.size < a.heap.size ∧ Nw w a)) :
    b.cell? ⟨w.heap.size, 0, none⟩ = some (.int .i64 t) ∧ b.cell? ⟨w.heap.size, 1, none⟩ = some (.int .i64 r) ∧ (w.heap.size < b.heap.size ∧ Nw w b) :=
  ⟨(g.cell h.2.2.1).trans h.1, (g.cell h.2.2.1).trans h.2.1, Nat.lt_of_lt_of_le h.2.2.1 g.sz, h.2.2.2.trans g⟩

theorem level_db (w : World) :
    Calls Tryz.prog 161 #[.agg #[.int .i64 (-1), .int .i64 (-1)]] w fun e w' => e = .returned (.int .i64 0) ∧ Nw w w' := by
  go_enter Tryz.func161, Tryz.ntmps161
  go_wp2
  go_region_held3 (fun w' => w'.cell? ⟨w.heap.size, 0, none⟩ = some (.int .i64 (-1)) ∧ w'.cell? ⟨w.heap.size, 1, none⟩ = some (.int .i64 (-1)) ∧ (w.heap.size < w'.heap.size ∧ Nw w w')) (first | exact box_start _ _ _ _ | exact box_step (by assumption) (by assumption))
    (first | (go_at_call 202; refine (database_any _).mono ?_; rintro e w' ⟨rfl, hg⟩))
  all_goals
    rename_i hS
    obtain ⟨hc0, hc1, _, hG⟩ := hS
    clear hg
    go_wp2_with (first | (go_at_call 203; refine (numbered_yes _ _ (by omega) (by omega)).mono ?_; rintro e w' ⟨rfl, rfl⟩) | (go_at_call 203; refine (numbered_no _ _ (by omega)).mono ?_; rintro e w' ⟨rfl, rfl⟩))
    go_ret
    exact ⟨rfl, hG⟩

theorem level_tab (t : Int) (w : World) (h0 : 0 ≤ t) (h1 : t < 100) :
    Calls Tryz.prog 161 #[.agg #[.int .i64 t, .int .i64 (-1)]] w fun e w' => e = .returned (.int .i64 1) ∧ Nw w w' := by
  have e0 : (t == -1) = false := by simp; omega
  go_enter Tryz.func161, Tryz.ntmps161
  go_wp2
  go_region_held3 (fun w' => w'.cell? ⟨w.heap.size, 0, none⟩ = some (.int .i64 (t)) ∧ w'.cell? ⟨w.heap.size, 1, none⟩ = some (.int .i64 (-1)) ∧ (w.heap.size < w'.heap.size ∧ Nw w w')) (first | exact box_start _ _ _ _ | exact box_step (by assumption) (by assumption))
    (first | (go_at_call 202; refine (database_any _).mono ?_; rintro e w' ⟨rfl, hg⟩))
  all_goals
    rename_i hS
    obtain ⟨hc0, hc1, _, hG⟩ := hS
    clear hg
    go_wp2_with (first | (go_at_call 203; refine (numbered_yes _ _ (by omega) (by omega)).mono ?_; rintro e w' ⟨rfl, rfl⟩) | (go_at_call 203; refine (numbered_no _ _ (by omega)).mono ?_; rintro e w' ⟨rfl, rfl⟩))
    go_ret
    exact ⟨rfl, hG⟩

theorem level_rec (t r : Int) (w : World) (h0 : 0 ≤ t) (h1 : t < 100) (h2 : 0 ≤ r) (h3 : r < 100) :
    Calls Tryz.prog 161 #[.agg #[.int .i64 t, .int .i64 r]] w fun e w' => e = .returned (.int .i64 2) ∧ Nw w w' := by
  have e0 : (t == -1) = false := by simp; omega
  have e1 : (r == -1) = false := by simp; omega
  go_enter Tryz.func161, Tryz.ntmps161
  go_wp2
  go_region_held3 (fun w' => w'.cell? ⟨w.heap.size, 0, none⟩ = some (.int .i64 (t)) ∧ w'.cell? ⟨w.heap.size, 1, none⟩ = some (.int .i64 (r)) ∧ (w.heap.size < w'.heap.size ∧ Nw w w')) (first | exact box_start _ _ _ _ | exact box_step (by assumption) (by assumption))
    (first | (go_at_call 202; refine (database_any _).mono ?_; rintro e w' ⟨rfl, hg⟩))
  all_goals
    rename_i hS
    obtain ⟨hc0, hc1, _, hG⟩ := hS
    clear hg
    go_wp2_with (first | (go_at_call 203; refine (numbered_yes _ _ (by omega) (by omega)).mono ?_; rintro e w' ⟨rfl, rfl⟩) | (go_at_call 203; refine (numbered_no _ _ (by omega)).mono ?_; rintro e w' ⟨rfl, rfl⟩))
    go_ret
    exact ⟨rfl, hG⟩

theorem level_bad1 (r : Int) (w : World) (h : r < -1 ∨ -1 < r) :
    Calls Tryz.prog 161 #[.agg #[.int .i64 (-1), .int .i64 r]] w fun e w' => e = .returned (.int .i64 (-1)) ∧ Nw w w' := by
  have e1 : (r == -1) = false := by simp; omega
  go_enter Tryz.func161, Tryz.ntmps161
  go_wp2
  go_region_held3 (fun w' => w'.cell? ⟨w.heap.size, 0, none⟩ = some (.int .i64 (-1)) ∧ w'.cell? ⟨w.heap.size, 1, none⟩ = some (.int .i64 (r)) ∧ (w.heap.size < w'.heap.size ∧ Nw w w')) (first | exact box_start _ _ _ _ | exact box_step (by assumption) (by assumption))
    (first | (go_at_call 202; refine (database_any _).mono ?_; rintro e w' ⟨rfl, hg⟩))
  all_goals
    rename_i hS
    obtain ⟨hc0, hc1, _, hG⟩ := hS
    clear hg
    go_wp2_with (first | (go_at_call 203; refine (numbered_yes _ _ (by omega) (by omega)).mono ?_; rintro e w' ⟨rfl, rfl⟩) | (go_at_call 203; refine (numbered_no _ _ (by omega)).mono ?_; rintro e w' ⟨rfl, rfl⟩))
    go_ret
    exact ⟨rfl, hG⟩

theorem level_bad2 (t r : Int) (w : World) (h : t < -1 ∨ 100 ≤ t) :
    Calls Tryz.prog 161 #[.agg #[.int .i64 t, .int .i64 r]] w fun e w' => e = .returned (.int .i64 (-1)) ∧ Nw w w' := by
  have e0 : (t == -1) = false := by simp; omega
  go_enter Tryz.func161, Tryz.ntmps161
  go_wp2
  go_region_held3 (fun w' => w'.cell? ⟨w.heap.size, 0, none⟩ = some (.int .i64 (t)) ∧ w'.cell? ⟨w.heap.size, 1, none⟩ = some (.int .i64 (r)) ∧ (w.heap.size < w'.heap.size ∧ Nw w w')) (first | exact box_start _ _ _ _ | exact box_step (by assumption) (by assumption))
    (first | (go_at_call 202; refine (database_any _).mono ?_; rintro e w' ⟨rfl, hg⟩))
  all_goals
    rename_i hS
    obtain ⟨hc0, hc1, _, hG⟩ := hS
    clear hg
    go_wp2_with (first | (go_at_call 203; refine (numbered_yes _ _ (by omega) (by omega)).mono ?_; rintro e w' ⟨rfl, rfl⟩) | (go_at_call 203; refine (numbered_no _ _ (by omega)).mono ?_; rintro e w' ⟨rfl, rfl⟩))
    go_ret
    exact ⟨rfl, hG⟩

theorem level_bad3 (t r : Int) (w : World) (h0 : 0 ≤ t) (h1 : t < 100) (h : r < -1 ∨ 100 ≤ r) :
    Calls Tryz.prog 161 #[.agg #[.int .i64 t, .int .i64 r]] w fun e w' => e = .returned (.int .i64 (-1)) ∧ Nw w w' := by
  have e0 : (t == -1) = false := by simp; omega
  have e1 : (r == -1) = false := by simp; omega
  go_enter Tryz.func161, Tryz.ntmps161
  go_wp2
  go_region_held3 (fun w' => w'.cell? ⟨w.heap.size, 0, none⟩ = some (.int .i64 (t)) ∧ w'.cell? ⟨w.heap.size, 1, none⟩ = some (.int .i64 (r)) ∧ (w.heap.size < w'.heap.size ∧ Nw w w')) (first | exact box_start _ _ _ _ | exact box_step (by assumption) (by assumption))
    (first | (go_at_call 202; refine (database_any _).mono ?_; rintro e w' ⟨rfl, hg⟩))
  all_goals
    rename_i hS
    obtain ⟨hc0, hc1, _, hG⟩ := hS
    clear hg
    go_wp2_with (first | (go_at_call 203; refine (numbered_yes _ _ (by omega) (by omega)).mono ?_; rintro e w' ⟨rfl, rfl⟩) | (go_at_call 203; refine (numbered_no _ _ (by omega)).mono ?_; rintro e w' ⟨rfl, rfl⟩))
    go_ret
    exact ⟨rfl, hG⟩

end Go.Proofs.YtpffldfpabglbaaGreatDoor
end

/- Contracts of package name, second part: Level at every name, Check, Table, Record, Parent, Ancestors; T, DB, R of the checker's kit. -/
section
namespace Go.Proofs.YtpffldfpabglbaaGreatDoor
open Go.ChangeShapes Go.WideShapes Go.ChangeAt Go.RowKit

def lvl (t r : Int) : Int := if t = -1 ∧ r = -1 then 0 else if 0 ≤ t ∧ t < 100 then (if r = -1 then 1 else if 0 ≤ r ∧ r < 100 then 2 else -1) else -1
theorem lvl_db : lvl (-1) (-1) = 0 := by decide
theorem lvl_tab (t : Int) (h0 : 0 ≤ t) (h1 : t < 100) : lvl t (-1) = 1 := by unfold lvl; split <;> omega
theorem lvl_rec (t r : Int) (h0 : 0 ≤ t) (h1 : t < 100) (h2 : 0 ≤ r) (h3 : r < 100) : lvl t r = 2 := by unfold lvl; repeat' split
                                                                                                        all_goals omega
/-- The four kinds of a name. -/
theorem kinds (t r : Int) : (t = -1 ∧ r = -1) ∨ (0 ≤ t ∧ t < 100 ∧ r = -1) ∨ (0 ≤ t ∧ t < 100 ∧ 0 ≤ r ∧ r < 100) ∨ lvl t r = -1 := by
  by_cases h1 : t = -1 ∧ r = -1
  · exact .inl h1
  · by_cases h2 : 0 ≤ t ∧ t < 100
    · by_cases h3 : r = -1
      · exact .inr (.inl ⟨h2.1, h2.2, h3⟩)
      · by_cases h4 : 0 ≤ r ∧ r < 100
        · exact .inr (.inr (.inl ⟨h2.1, h2.2, h4⟩))
        · refine .inr (.inr (.inr ?_)); unfold lvl; rw [if_neg h1, if_pos h2, if_neg h3, if_neg h4]
    · refine .inr (.inr (.inr ?_)); unfold lvl; rw [if_neg h1, if_neg h2]
/-- What was there reads, and is frozen, as before: two rules for the walk. -/
theorem Nw.rules {a b : World} (h : Nw a b) : (∀ k o, k < a.heap.size → b.cell? ⟨k, o, none⟩ = a.cell? ⟨k, o, none⟩) ∧ (∀ k o, k < a.heap.size → b.frozen? ⟨k, o, none⟩ = a.frozen? ⟨k, o, none⟩) :=
  ⟨fun k o hk => Below.cell (p := ⟨k, o, none⟩) h hk, fun k o hk => Below.frozen (p := ⟨k, o, none⟩) h hk⟩
theorem level_any (t r : Int) (w : World) :
    Calls Tryz.prog 161 #[.agg #[.int .i64 t, .int .i64 r]] w fun e w' => e = .returned (.int .i64 (lvl t r)) ∧ Nw w w' := by
  by_cases h1 : t = -1
  · subst h1
    by_cases h2 : r = -1
    · subst h2; exact level_db w
    · have e : lvl (-1) r = -1 := by unfold lvl; repeat' split
                                     all_goals omega
      rw [e]; exact level_bad1 r w (by omega)
  · by_cases h3 : 0 ≤ t ∧ t < 100
    · obtain ⟨h3, h4⟩ := h3
      by_cases h2 : r = -1
      · subst h2; rw [lvl_tab t h3 h4]; exact level_tab t w h3 h4
      · by_cases h5 : 0 ≤ r ∧ r < 100
        · rw [lvl_rec t r h3 h4 h5.1 h5.2]; exact level_rec t r w h3 h4 h5.1 h5.2
        · have e : lvl t r = -1 := by unfold lvl; repeat' split
                                      all_goals omega
          rw [e]; exact level_bad3 t r w h3 h4 (by omega)
    · have e : lvl t r = -1 := by unfold lvl; repeat' split
                                  all_goals omega
      rw [e]; exact level_bad2 t r w (by omega)
theorem level_val (t r L : Int) (w : World) (h : lvl t r = L) :
    Calls Tryz.prog 161 #[.agg #[.int .i64 t, .int .i64 r]] w fun e w' => e = .returned (.int .i64 L) ∧ Nw w w' := by
  subst h; exact level_any t r w

theorem check_ok (t r : Int) (w : World) (h : lvl t r ≠ -1) :
    Calls Tryz.prog 112 #[.agg #[.int .i64 t, .int .i64 r]] w fun e w' => e = .returned (.int .i64 0) ∧ Nw w w' := by
  have hL : (lvl t r == -1) = false := by simpa using h
  have H := level_any t r
  generalize lvl t r = L at *
  have H2 := Lib.hid H
  clear H h
  go_enter Tryz.func112, Tryz.ntmps112
  go_wp2_with (go_at_call 161; refine (H2.out _).mono ?_; rintro e w' ⟨rfl, hg⟩)
  go_ret
  exact ⟨rfl, ((Nw.refl _).alloc _).trans hg⟩
theorem check_no (t r : Int) (w : World) (h : lvl t r = -1) :
    Calls Tryz.prog 112 #[.agg #[.int .i64 t, .int .i64 r]] w fun e w' => e = .returned (.int .i64 2) ∧ Nw w w' := by
  have H2 := Lib.hid h
  clear h
  go_enter Tryz.func112, Tryz.ntmps112
  go_wp2_with (go_at_call 161; refine (level_val _ _ _ _ H2.out).mono ?_; rintro e w' ⟨rfl, hg⟩)
  go_ret
  exact ⟨rfl, ((Nw.refl _).alloc _).trans hg⟩

/-! ### Names out of numbers -/
theorem Nw.set {w a : World} (h : Nw w a) {p : Addr} (hp : w.heap.size ≤ p.block) (u : Value) : Nw w (a.setCell p u) := Below.setCell h hp u

/-! ### Rows of names -/
/-- The cells of a slice of names over a row that is there. -/
def NCells (w : World) (b o : Nat) (zs : List (Int × Int)) : Prop := b < w.heap.size ∧ ∀ k (h : k < zs.length), w.cell? ⟨b, o + k * 2, none⟩ = some (.int .i64 zs[k].1) ∧ w.cell? ⟨b, o + k * 2 + 1, none⟩ = some (.int .i64 zs[k].2)
theorem NCells.grown {w w' : World} {b o : Nat} {zs : List (Int × Int)} (h : NCells w b o zs) (g : Nw w w') : NCells w' b o zs :=
  ⟨Nat.lt_of_lt_of_le h.1 g.sz, fun k hk => ⟨(g.cell h.1).trans (h.2 k hk).1, (g.cell h.1).trans (h.2 k hk).2⟩⟩
/-- A new row of names, by its cells. -/
def flat : List (Int × Int) → List Value
  | [] => []
  | z :: r => .int .i64 z.1 :: .int .i64 z.2 :: flat r
theorem Nw.drew1 {w w' : World} (h : Nw w w') : Nw w w'.drew := h.drewN 1
theorem box_start' (w : World) (t r : Int) (ty : TypeId) :
    (w.alloc (.cells #[.int .i64 t, .int .i64 r] ty)).cell? ⟨w.heap.size, 0, none⟩ = some (.int .i64 t) ∧ (w.alloc (.cells #[.int .i64 t, .int .i64 r] ty)).cell? ⟨w.heap.size, 1, none⟩ = some (.int .i64 r) ∧ (w.heap.size < (w.alloc (.cells #[.int .i64 t, .int .i64 r] ty)).heap.size ∧ Nw w (w.alloc (.cells #[.int .i64 t, .int .i64 r] ty))) :=
  ⟨cell_of_row _ _ 0 _ ty (0, 0) (heap_alloc_last w _), cell_of_row _ _ 1 _ ty (0, 0) (heap_alloc_last w _), by show _ < (w.heap.push _).size; simp, (Nw.refl w).alloc _⟩
end Go.Proofs.YtpffldfpabglbaaGreatDoor
end

/- Contracts of package name, third part: Compare (with cmp.Compare, cmp.Or), slices.Index and Contains over names, Under. -/
section
namespace Go.Proofs.YtpffldfpabglbaaGreatDoor
open Go.ChangeShapes Go.WideShapes Go.ChangeAt Go.RowKit

/-- -1, 0 or 1. -/
def c3 (a b : Int) : Int := if a < b then -1 else if b < a then 1 else 0
/-! ### slices.Index and Contains over names -/
end Go.Proofs.YtpffldfpabglbaaGreatDoor
end

/- Contracts of package name, fourth part: Under. -/
section
namespace Go.Proofs.YtpffldfpabglbaaGreatDoor
open Go.ChangeShapes Go.WideShapes Go.ChangeAt Go.RowKit

/-- One name is under another one. -/
def und (t r t' r' : Int) : Bool := decide (lvl t r ≠ -1 ∧ lvl t' r' ≠ -1 ∧ ((t' = -1 ∧ r' = -1) ∨ (t' = t ∧ (r' = -1 ∨ r' = r))))
end Go.Proofs.YtpffldfpabglbaaGreatDoor
end
