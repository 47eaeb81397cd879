
/- A region that draws its order, walked in one order that is told: what reads is taken first, a call waits till it is the only one that can come. Of no program. -/
import Derived.Test.YtckbjgcelpmffaaLex
import Derived.Deep.RegionHeld3
namespace Go.Proofs.Ytckbjgcelpmffaa
open Go

/-- Number e has come up: it lies ahead of k, and is not the one put off. -/
def doneB (k : Nat) (q : Option (Nat × Option Tmp × List Tmp × List Nat)) (e : Nat) : Bool :=
  decide (e < k) && (match q with
    | some y => !(e == y.1)
    | none => true)
def ordB : List (Option Bool) → Nat → List (Option Tmp × List Tmp × List Nat) → Option (Nat × Option Tmp × List Tmp × List Nat) → Bool
  | [], _, l, q => l.isEmpty && q.isNone
  | some true :: fs, k, l, q =>
    match l with
    | [] => false
    | x :: r => x.2.2.all (doneB k q) && r.all (pairI k x) && (match q with
      | some y => pairI k x y.2
      | none => true) && ordB fs (k + 1) r q
  | some false :: fs, k, l, q =>
    match l, q with
    | x :: r, none => ordB fs (k + 1) r (some (k, x))
    | _, _ => false
  | none :: fs, k, l, q =>
    match q with
    | some y => y.2.2.2.all (doneB k q) && l.all (fun x => x.2.2.any fun e => !doneB k q e) && ordB fs k l none
    | none => false

/-- The walk: 'some true' takes the next one first, 'some false' puts it off, 'none' runs the one put off. -/
def HW (P : Program) (ops : Array Oper) (Q : Exit → Act → World → Prop) (S : World → Prop) : List (Option Bool) → List Oper → Option Oper → Act → World → Prop
  | [], _, _, a, w => Q .normal a w
  | some true :: fs, l, q, a, w =>
    match l with
    | [] => False
    | o :: r => ∃ v, YieldsIf P ops S o v a ∧ HW P ops Q S fs r q (a.put o.dst v) w
  | some false :: fs, l, q, a, w =>
    match l, q with
    | o :: r, none => HW P ops Q S fs r (some o) a w
    | _, _ => False
  | none :: fs, l, q, a, w =>
    match q with
    | some o => ∀ K' : Act → World → Prop, Shut (∀ a w, S w → (S w → HW P ops Q S fs l none a w) → K' a w) → if Region.wanted o (yielded ops a.tmps) = true then Oper.wp P o a w K' Q else K' (a.put o.dst undef) w
    | none => False

section
variable {P : Program} {ops : Array Oper} {Q : Exit → Act → World → Prop} {S : World → Prop}
theorem HW.end_ {l : List Oper} {q : Option Oper} {a : Act} {w : World} (h : Q .normal a w) : HW P ops Q S [] l q a w := h
theorem HW.take {fs : List (Option Bool)} {o : Oper} {r : List Oper} {q : Option Oper} {a : Act} {w : World} (v : Value) (hy : YieldsIf P ops S o v a) (h : HW P ops Q S fs r q (a.put o.dst v) w) : HW P ops Q S (some true :: fs) (o :: r) q a w := ⟨v, hy, h⟩
theorem HW.take' {fs : List (Option Bool)} {o : Oper} {r : List Oper} {q : Option Oper} {a : Act} {w : World} (h : ∃ v, YieldsIf P ops S o v a ∧ HW P ops Q S fs r q (a.put o.dst v) w) : HW P ops Q S (some true :: fs) (o :: r) q a w := h
theorem HW.off {fs : List (Option Bool)} {o : Oper} {r : List Oper} {a : Act} {w : World} (h : HW P ops Q S fs r (some o) a w) : HW P ops Q S (some false :: fs) (o :: r) none a w := h
theorem HW.go {fs : List (Option Bool)} {o : Oper} {l : List Oper} {a : Act} {w : World}
    (h : ∀ K' : Act → World → Prop, Shut (∀ a w, S w → (S w → HW P ops Q S fs l none a w) → K' a w) → if Region.wanted o (yielded ops a.tmps) = true then Oper.wp P o a w K' Q else K' (a.put o.dst undef) w) : HW P ops Q S (none :: fs) l (some o) a w := h

/-- What the check asks of a pair that is still to come: apart, or the later one waits. -/
theorem apart_of {k : Nat} {o oj : Oper} (h : pairI k (infoOf ops o) (infoOf ops oj) = true) (hno : ∀ e ∈ oj.after, Region.binds .any e = true → e.on ≠ k) : o.apart ops oj = true := by
  unfold pairI at h
  rw [Bool.or_eq_true] at h
  rcases h with h | h
  · obtain ⟨e, he, heq⟩ := List.mem_map.1 (List.contains_iff_mem.1 h)
    obtain ⟨he1, he2⟩ := List.mem_filter.1 he
    exact absurd heq (hno e (Array.mem_toList_iff.1 he1) he2)
  · exact h

theorem HW.run (hs : Region.noSelect ops = true) (hQ : ∀ c a d v w, Q (.panic c) (Act.put a d v) w → Q (.panic c) a w) : ∀ (fs : List (Option Bool)) (k : Nat) (l : List Oper) (qi : Option (Nat × Oper)) (listed : Array Bool) (a : Act) (w : World),
    (∀ j, l[j]? = ops[k + j]?) → k + l.length = ops.size → (∀ p, qi = some p → ops[p.1]? = some p.2 ∧ p.1 < k) → listed.size = ops.size →
    (∀ j, j < ops.size → (listed.getD j false = true ↔ doneB k (qi.map fun p => (p.1, infoOf ops p.2)) j = true)) →
    ordB fs k (l.map (infoOf ops)) (qi.map fun p => (p.1, infoOf ops p.2)) = true → S w → HW P ops Q S fs l (qi.map (·.2)) a w →
    wpAnyH P .any ops Q S (l.length + (qi.map fun _ => 1).getD 0) listed a w
  | [], k, l, qi, listed, a, w, hl, hn, hq, hsz, hD, hB, hS, h => by
    unfold ordB at hB
    rw [Bool.and_eq_true] at hB
    obtain rfl : l = [] := by cases l with
      | nil => rfl
      | cons o r => simp at hB
    obtain rfl : qi = none := by cases qi with
      | none => rfl
      | some p => simp at hB
    refine wpAnyH_done ?_ h _
    rw [List.eq_nil_iff_forall_not_mem]
    intro j hj
    obtain ⟨h1, o, ho, _⟩ := mem_ready.1 hj
    have hlt : j < ops.size := (Array.getElem?_eq_some_iff.1 ho).1
    have h2 := (hD j hlt).2 (by unfold doneB; simp at hn ⊢; omega)
    simp [hsz, hlt] at h1 h2
    rw [h1] at h2
    cases h2
  | some true :: fs, k, [], qi, listed, a, w, hl, hn, hq, hsz, hD, hB, hS, h => by unfold ordB at hB; simp at hB
  | some true :: fs, k, o :: r, qi, listed, a, w, hl, hn, hq, hsz, hD, hB, hS, h => by
    have h0 : ops[k]? = some o := by simpa using (hl 0).symm
    have hk : k < ops.size := (Array.getElem?_eq_some_iff.1 h0).1
    simp only [List.map_cons, ordB, Bool.and_eq_true, List.all_eq_true] at hB
    obtain ⟨⟨⟨hd, hp⟩, hpq⟩, hB'⟩ := hB
    obtain ⟨v, hy, hK⟩ := h
    have hnk : ∀ p, qi = some p → p.1 ≠ k := fun p hp => Nat.ne_of_lt (hq p hp).2
    have hun : listed.getD k true = false := by
      have h1 : ¬ listed.getD k false = true := fun e => by
        have := (hD k hk).1 e
        unfold doneB at this
        simp at this
      simp [hsz, hk] at h1 ⊢
      exact h1
    have hr : k ∈ Region.ready .any ops listed := by
      refine mem_ready.2 ⟨hun, o, h0, fun e he hb => ?_⟩
      have hdn := hd e.on (List.mem_map.2 ⟨e, List.mem_filter.2 ⟨Array.mem_toList_iff.2 he, hb⟩, rfl⟩)
      have hek : e.on < k := by unfold doneB at hdn; simp at hdn; exact hdn.1
      exact (hD e.on (by omega)).2 hdn
    have hfree : ∀ j oj, ops[j]? = some oj → j ≠ k → listed.getD j true = false → (∀ e ∈ oj.after, Region.binds .any e = true → e.on ≠ k) → o.apart ops oj = true := by
      intro j oj hoj hne hju hno
      have hj : j < ops.size := (Array.getElem?_eq_some_iff.1 hoj).1
      have hnd : ¬ doneB k (qi.map fun p => (p.1, infoOf ops p.2)) j = true := fun e => by
        have := (hD j hj).2 e
        simp [hsz, hj] at this hju
        rw [this] at hju
        cases hju
      rcases Nat.lt_or_ge j k with g | g
      · cases hqi : qi with
        | none => rw [hqi] at hnd; exact absurd (by unfold doneB; simp [g]) hnd
        | some p =>
          rw [hqi] at hnd hpq
          have hjp : j = p.1 := by
            rcases Nat.decEq j p.1 with h | h
            · exact absurd (by unfold doneB; simp [g, h]) hnd
            · exact h
          have hpo := (hq p hqi).1
          rw [← hjp, hoj] at hpo
          obtain rfl := Option.some.inj hpo
          exact apart_of hpq hno
      · have hlj := hl (j - k)
        rw [show k + (j - k) = j by omega, hoj, show j - k = (j - k - 1) + 1 by omega, List.getElem?_cons_succ] at hlj
        exact apart_of (hp _ (List.mem_map.2 ⟨oj, List.mem_of_getElem? hlj, rfl⟩)) hno
    have ih := HW.run hs hQ fs (k + 1) r qi (listed.setIfInBounds k true) (a.put o.dst v) w (fun j => by
        have := hl (j + 1)
        simpa [Nat.add_assoc, Nat.add_comm 1 j] using this) (by simp at hn; omega) (fun p hp => ⟨(hq p hp).1, Nat.lt_succ_of_lt (hq p hp).2⟩) (by simpa using hsz) (fun j hj => by
        by_cases hjk : k = j
        · subst hjk
          have h1 : (listed.setIfInBounds k true).getD k false = true := by simp [hsz, hk]
          refine ⟨fun _ => ?_, fun _ => h1⟩
          unfold doneB
          cases hqi : qi with
          | none => simp
          | some p => have := hnk p hqi; simp; exact fun e => this e.symm
        · rw [getD_set_ne false hjk, hD j hj]
          unfold doneB
          have : decide (j < k + 1) = decide (j < k) := decide_eq_decide.2 (by omega)
          rw [this]) hB' hS hK
    rw [show (o :: r).length + (qi.map fun _ => 1).getD 0 = (r.length + (qi.map fun _ => 1).getD 0) + 1 by simp; omega]
    exact wpAnyH_first h0 (Region.noSelect_spec hs) (fun c a w => hQ c a _ _ w) _ listed a w hfree hr hy hS ih
  | some false :: fs, k, [], qi, listed, a, w, hl, hn, hq, hsz, hD, hB, hS, h => by unfold ordB at hB; simp at hB
  | some false :: fs, k, o :: r, some p, listed, a, w, hl, hn, hq, hsz, hD, hB, hS, h => by unfold ordB at hB; simp at hB
  | some false :: fs, k, o :: r, none, listed, a, w, hl, hn, hq, hsz, hD, hB, hS, h => by
    have h0 : ops[k]? = some o := by simpa using (hl 0).symm
    have ih := HW.run hs hQ fs (k + 1) r (some (k, o)) listed a w (fun j => by
        have := hl (j + 1)
        simpa [Nat.add_assoc, Nat.add_comm 1 j] using this) (by simp at hn; omega) (fun p hp => by obtain rfl := Option.some.inj hp; exact ⟨h0, Nat.lt_succ_self _⟩) hsz (fun j hj => by
        rw [hD j hj]
        unfold doneB
        simp
        omega) (by unfold ordB at hB; exact hB) hS h
    exact ih
  | none :: fs, k, l, none, listed, a, w, hl, hn, hq, hsz, hD, hB, hS, h => by unfold ordB at hB; simp at hB
  | none :: fs, k, l, some p, listed, a, w, hl, hn, hq, hsz, hD, hB, hS, h => by
    obtain ⟨i, o⟩ := p
    obtain ⟨h0, hik⟩ := hq (i, o) rfl
    have hi : i < ops.size := (Array.getElem?_eq_some_iff.1 h0).1
    simp only [Option.map_some, ordB, Bool.and_eq_true, List.all_eq_true, List.any_eq_true] at hB
    obtain ⟨⟨hd, hw⟩, hB'⟩ := hB
    have hDu : ∀ j, j < ops.size → ¬ doneB k (some (i, infoOf ops o)) j = true → listed.getD j true = false := fun j hj hnd => by
      have h1 : ¬ listed.getD j false = true := fun e => hnd ((hD j hj).1 e)
      simp [hsz, hj] at h1 ⊢
      exact h1
    have hr : i ∈ Region.ready .any ops listed := by
      refine mem_ready.2 ⟨hDu i hi (by unfold doneB; simp), o, h0, fun e he hb => ?_⟩
      have hdn := hd e.on (List.mem_map.2 ⟨e, List.mem_filter.2 ⟨Array.mem_toList_iff.2 he, hb⟩, rfl⟩)
      have hek : e.on < k := by unfold doneB at hdn; simp at hdn; exact hdn.1
      exact (hD e.on (by omega)).2 hdn
    refine ⟨fun hz => (by rw [hz] at hr; cases hr), fun j hj => ?_⟩
    have hji : j = i := by
      obtain ⟨h1, oj, hoj, hall⟩ := mem_ready.1 hj
      have hjs : j < ops.size := (Array.getElem?_eq_some_iff.1 hoj).1
      rcases Nat.decEq j i with hne | he
      case isTrue => exact he
      exfalso
      have hnd : ¬ doneB k (some (i, infoOf ops o)) j = true := fun e => by
        have := (hD j hjs).2 e
        simp [hsz, hjs] at this h1
        rw [this] at h1
        cases h1
      have hjk : k ≤ j := by
        rcases Nat.lt_or_ge j k with g | g
        · exact absurd (by unfold doneB; simp [g, hne]) hnd
        · exact g
      have hlj := hl (j - k)
      rw [show k + (j - k) = j by omega, hoj] at hlj
      obtain ⟨e, he, hen⟩ := hw _ (List.mem_map.2 ⟨oj, List.mem_of_getElem? hlj, rfl⟩)
      obtain ⟨ea, hea, rfl⟩ := List.mem_map.1 he
      obtain ⟨he1, he2⟩ := List.mem_filter.1 hea
      have hls := hall ea (Array.mem_toList_iff.1 he1) he2
      have hlt : ea.on < ops.size := by
        rcases Nat.lt_or_ge ea.on ops.size with g | g
        · exact g
        · rw [← hsz] at g; simp [Array.getElem?_eq_none g] at hls
      have h3 := (hD ea.on hlt).1 hls
      simp only [Option.map_some] at h3
      rw [h3] at hen
      cases hen
    subst hji
    refine wpOp_step h0 (fun K' hK => h K' (fun a' w' hS' hW => hK a' w' ⟨hS', ?_⟩))
    exact HW.run hs hQ fs k l none (listed.setIfInBounds j true) a' w' hl hn (fun p hp => by cases hp) (by simpa using hsz) (fun m hm => by
      by_cases hmj : j = m
      · subst hmj
        have h1 : (listed.setIfInBounds j true).getD j false = true := by simp [hsz, hi]
        exact ⟨fun _ => by unfold doneB; simp [hik], fun _ => h1⟩
      · rw [getD_set_ne false hmj, hD m hm]
        unfold doneB
        have : ¬ m = j := fun e => hmj e.symm
        simp [this]) hB' hS' (hW hS')

/-- THE LAW: one order that is told serves every order. -/
theorem region_told {id : Nat} {a : Act} {w : World} {l : List Oper} (fs : List (Option Bool)) (S : World → Prop) (hm : P.follows .mixedOrders = true) (hs : Region.noSelect l.toArray = true)
    (hB : ordB fs 0 (l.map (infoOf l.toArray)) none = true) (hS : S w.drew) (h : HW P l.toArray (NoPanic Q) S fs l none a w.drew) : (Code.region id l.toArray true).wp P Q a w := by
  refine wp_region_noPanic (wp_region_held (S := S) hm ?_)
  have := HW.run hs (fun c a d v w h => h) fs 0 l none (Array.replicate l.toArray.size false) a w.drew (by simp) (by simp) (fun p hp => by cases hp) (by simp) (fun j hj => by unfold doneB; simp at hj ⊢; simp [hj]) hB hS h
  simpa using this
end
end Go.Proofs.Ytckbjgcelpmffaa
