
/- A region that draws its order, walked by a plan: what reads is taken first; up to two operations are put off; where two can come, both orders are walked. Of no program. -/
import Derived.Test.YtmciiobncfchlaaLex
import Derived.Test.YtmciiobncfchlaaOrd
import Derived.Deep.RegionHeld3
namespace Go.Proofs.Ytmciiobncfchlaa
open Go
set_option linter.unusedVariables false

/-- A plan: take the next one, put it off, run the one put off, run the two put off in either order. -/
inductive Pl where
  | fin
  | take (p : Pl)
  | off (p : Pl)
  | go1 (p : Pl)
  | go2 (p q : Pl)
abbrev Inf := Option Tmp × List Tmp × List Nat
def doneP (k : Nat) (qs : List (Nat × Inf)) (e : Nat) : Bool := decide (e < k) && qs.all fun y => !(e == y.1)
def ordP : Pl → Nat → List Inf → List (Nat × Inf) → Bool
  | .fin, _, l, qs => l.isEmpty && qs.isEmpty
  | .take p, k, l, qs =>
    match l with
    | [] => false
    | x :: r => x.2.2.all (doneP k qs) && r.all (pairI k x) && qs.all (fun y => pairI k x y.2) && ordP p (k + 1) r qs
  | .off p, k, l, qs =>
    match l with
    | [] => false
    | x :: r => ordP p (k + 1) r (qs ++ [(k, x)])
  | .go1 p, k, l, qs =>
    match qs with
    | [y] => y.2.2.2.all (doneP k qs) && l.all (fun x => x.2.2.any fun e => !doneP k qs e) && ordP p k l []
    | _ => false
  | .go2 p q, k, l, qs =>
    match qs with
    | [y, z] => y.2.2.2.all (doneP k qs) && z.2.2.2.all (doneP k qs) && !(y.1 == z.1) && l.all (fun x => x.2.2.any fun e => !doneP k qs e) && ordP p k l [z] && ordP q k l [y]
    | _ => false
def HP (P : Program) (ops : Array Oper) (Q : Exit → Act → World → Prop) (S : World → Prop) : Pl → List Oper → List Oper → Act → World → Prop
  | .fin, _, _, a, w => Q .normal a w
  | .take p, l, qs, a, w =>
    match l with
    | [] => False
    | o :: r => ∃ v, YieldsIf P ops S o v a ∧ HP P ops Q S p r qs (a.put o.dst v) w
  | .off p, l, qs, a, w =>
    match l with
    | [] => False
    | o :: r => HP P ops Q S p r (qs ++ [o]) a w
  | .go1 p, l, qs, a, w =>
    match qs with
    | [o] => ∀ K' : Act → World → Prop, Shut (∀ a w, S w → (S w → HP P ops Q S p l [] a w) → K' a w) → if Region.wanted o (yielded ops a.tmps) = true then Oper.wp P o a w K' Q else K' (a.put o.dst undef) w
    | _ => False
  | .go2 p q, l, qs, a, w =>
    match qs with
    | [o, o'] => (∀ K' : Act → World → Prop, Shut (∀ a w, S w → (S w → HP P ops Q S p l [o'] a w) → K' a w) → if Region.wanted o (yielded ops a.tmps) = true then Oper.wp P o a w K' Q else K' (a.put o.dst undef) w) ∧
        ∀ K' : Act → World → Prop, Shut (∀ a w, S w → (S w → HP P ops Q S q l [o] a w) → K' a w) → if Region.wanted o' (yielded ops a.tmps) = true then Oper.wp P o' a w K' Q else K' (a.put o'.dst undef) w
    | _ => False

section
variable {P : Program} {ops : Array Oper} {Q : Exit → Act → World → Prop} {S : World → Prop}
theorem HP.end_ {l qs : List Oper} {a : Act} {w : World} (h : Q .normal a w) : HP P ops Q S .fin l qs a w := h
theorem HP.take' {p : Pl} {o : Oper} {r qs : List Oper} {a : Act} {w : World} (h : ∃ v, YieldsIf P ops S o v a ∧ HP P ops Q S p r qs (a.put o.dst v) w) : HP P ops Q S (.take p) (o :: r) qs a w := h
theorem HP.off {p : Pl} {o : Oper} {r qs : List Oper} {a : Act} {w : World} (h : HP P ops Q S p r (qs ++ [o]) a w) : HP P ops Q S (.off p) (o :: r) qs a w := h
theorem HP.go1 {p : Pl} {o : Oper} {l : List Oper} {a : Act} {w : World}
    (h : ∀ K' : Act → World → Prop, Shut (∀ a w, S w → (S w → HP P ops Q S p l [] a w) → K' a w) → if Region.wanted o (yielded ops a.tmps) = true then Oper.wp P o a w K' Q else K' (a.put o.dst undef) w) : HP P ops Q S (.go1 p) l [o] a w := h
theorem HP.go2 {p q : Pl} {o o' : Oper} {l : List Oper} {a : Act} {w : World}
    (h : ∀ K' : Act → World → Prop, Shut (∀ a w, S w → (S w → HP P ops Q S p l [o'] a w) → K' a w) → if Region.wanted o (yielded ops a.tmps) = true then Oper.wp P o a w K' Q else K' (a.put o.dst undef) w)
    (h' : ∀ K' : Act → World → Prop, Shut (∀ a w, S w → (S w → HP P ops Q S q l [o] a w) → K' a w) → if Region.wanted o' (yielded ops a.tmps) = true then Oper.wp P o' a w K' Q else K' (a.put o'.dst undef) w) : HP P ops Q S (.go2 p q) l [o, o'] a w := ⟨h, h'⟩

def infs (ops : Array Oper) (qs : List (Nat × Oper)) : List (Nat × Inf) := qs.map fun p => (p.1, infoOf ops p.2)
theorem doneP_iff {k : Nat} {qs : List (Nat × Oper)} {e : Nat} : doneP k (infs ops qs) e = true ↔ e < k ∧ ∀ p ∈ qs, e ≠ p.1 := by
  unfold doneP infs
  simp
/-- What holds of the walk: what lies ahead of k has come, but for those put off. -/
structure HI (ops : Array Oper) (k : Nat) (l : List Oper) (qs : List (Nat × Oper)) (listed : Array Bool) : Prop where
  rest : ∀ j, l[j]? = ops[k + j]?
  len : k + l.length = ops.size
  put : ∀ p ∈ qs, ops[p.1]? = some p.2 ∧ p.1 < k
  size : listed.size = ops.size
  come : ∀ j, j < ops.size → (listed.getD j false = true ↔ doneP k (infs ops qs) j = true)
theorem HI.un {k : Nat} {l : List Oper} {qs : List (Nat × Oper)} {listed : Array Bool} (h : HI ops k l qs listed) {j : Nat} (hj : j < ops.size) (hd : ¬ doneP k (infs ops qs) j = true) : listed.getD j true = false := by
  have h1 : ¬ listed.getD j false = true := fun e => hd ((h.come j hj).1 e)
  have := h.size
  simp [this, hj] at h1 ⊢
  exact h1
theorem HI.deps {k : Nat} {l : List Oper} {qs : List (Nat × Oper)} {listed : Array Bool} (h : HI ops k l qs listed) (hk : k ≤ ops.size) {o : Oper} (hd : (infoOf ops o).2.2.all (doneP k (infs ops qs)) = true) : ∀ e ∈ o.after, Region.binds .any e = true → listed.getD e.on false = true := by
  intro e he hb
  have hdn := List.all_eq_true.1 hd e.on (List.mem_map.2 ⟨e, List.mem_filter.2 ⟨Array.mem_toList_iff.2 he, hb⟩, rfl⟩)
  have hek := (doneP_iff.1 hdn).1
  exact (h.come e.on (by omega)).2 hdn
/-- Nothing of what lies behind can come while it waits for one that has not. -/
theorem HI.waits {k : Nat} {l : List Oper} {qs : List (Nat × Oper)} {listed : Array Bool} (h : HI ops k l qs listed) (hw : (l.map (infoOf ops)).all (fun x => x.2.2.any fun e => !doneP k (infs ops qs) e) = true) :
    ∀ j ∈ Region.ready .any ops listed, ∃ p ∈ qs, j = p.1 := by
  intro j hj
  obtain ⟨h1, oj, hoj, hall⟩ := mem_ready.1 hj
  have hjs : j < ops.size := (Array.getElem?_eq_some_iff.1 hoj).1
  have hnd : ¬ doneP k (infs ops qs) j = true := fun e => by
    have := (h.come j hjs).2 e
    have hsz := h.size
    simp [hsz, hjs] at this h1
    rw [h1] at this
    cases this
  rcases Nat.lt_or_ge j k with g | g
  · refine Classical.byContradiction fun hne => hnd (doneP_iff.2 ⟨g, fun p hp e => hne ⟨p, hp, e⟩⟩)
  · exfalso
    have hlj := h.rest (j - k)
    rw [show k + (j - k) = j by omega, hoj] at hlj
    have hx := List.all_eq_true.1 hw _ (List.mem_map.2 ⟨oj, List.mem_of_getElem? hlj, rfl⟩)
    obtain ⟨e, he, hen⟩ := List.any_eq_true.1 hx
    obtain ⟨ea, hea, rfl⟩ := List.mem_map.1 he
    obtain ⟨he1, he2⟩ := List.mem_filter.1 hea
    have hls := hall ea (Array.mem_toList_iff.1 he1) he2
    have hlt : ea.on < ops.size := by
      rcases Nat.lt_or_ge ea.on ops.size with g | g
      · exact g
      · have hsz := h.size
        rw [← hsz] at g; simp [Array.getElem?_eq_none g] at hls
    have h3 := (h.come ea.on hlt).1 hls
    rw [h3] at hen
    cases hen
theorem HI.set {k k' : Nat} {l l' : List Oper} {qs qs' : List (Nat × Oper)} {listed : Array Bool} (h : HI ops k l qs listed) {i : Nat} (hi : i < ops.size) (hr : ∀ j, l'[j]? = ops[k' + j]?) (hlen : k' + l'.length = ops.size) (hput : ∀ p ∈ qs', ops[p.1]? = some p.2 ∧ p.1 < k')
    (hd : ∀ j, doneP k' (infs ops qs') j = true ↔ (j = i ∨ doneP k (infs ops qs) j = true)) : HI ops k' l' qs' (listed.setIfInBounds i true) := by
  refine ⟨hr, hlen, hput, by simpa using h.size, fun j hj => ?_⟩
  rw [hd]
  by_cases q : i = j
  · subst q
    have h1 : (listed.setIfInBounds i true).getD i false = true := by simp [h.size, hi]
    exact ⟨fun _ => .inl rfl, fun _ => h1⟩
  · rw [getD_set_ne false q, h.come j hj]
    exact ⟨fun x => .inr x, fun x => x.resolve_left fun e => q e.symm⟩
theorem HP.run (hs : Region.noSelect ops = true) (hQ : ∀ c a d v w, Q (.panic c) (Act.put a d v) w → Q (.panic c) a w) : ∀ (p : Pl) (k : Nat) (l : List Oper) (qs : List (Nat × Oper)) (listed : Array Bool) (a : Act) (w : World),
    HI ops k l qs listed → ordP p k (l.map (infoOf ops)) (infs ops qs) = true → S w → HP P ops Q S p l (qs.map (·.2)) a w → wpAnyH P .any ops Q S (l.length + qs.length) listed a w
  | .fin, k, l, qs, listed, a, w, hI, hB, hS, h => by
    simp only [ordP, Bool.and_eq_true, List.isEmpty_iff, List.map_eq_nil_iff, infs] at hB
    obtain ⟨rfl, rfl⟩ := hB
    refine wpAnyH_done ?_ h _
    rw [List.eq_nil_iff_forall_not_mem]
    intro j hj
    obtain ⟨q, hq, _⟩ := hI.waits (by simp) j hj
    simp at hq
  | .take p, k, [], qs, listed, a, w, hI, hB, hS, h => by simp [ordP] at hB
  | .take p, k, o :: r, qs, listed, a, w, hI, hB, hS, h => by
    have h0 : ops[k]? = some o := by simpa using (hI.rest 0).symm
    have hk : k < ops.size := (Array.getElem?_eq_some_iff.1 h0).1
    simp only [List.map_cons, ordP, Bool.and_eq_true] at hB
    obtain ⟨⟨⟨hd, hp⟩, hpq⟩, hB'⟩ := hB
    obtain ⟨v, hy, hK⟩ := h
    have hnk : ∀ q ∈ qs, q.1 ≠ k := fun q hq => Nat.ne_of_lt (hI.put q hq).2
    have hkd : ¬ doneP k (infs ops qs) k = true := fun e => by have := (doneP_iff.1 e).1; omega
    have hun := hI.un hk hkd
    have hr : k ∈ Region.ready .any ops listed := mem_ready.2 ⟨hun, o, h0, hI.deps (by omega) hd⟩
    have hfree : ∀ j oj, ops[j]? = some oj → j ≠ k → listed.getD j true = false → (∀ e ∈ oj.after, Region.binds .any e = true → e.on ≠ k) → o.apart ops oj = true := by
      intro j oj hoj hne hju hno
      have hj : j < ops.size := (Array.getElem?_eq_some_iff.1 hoj).1
      have hsz := hI.size
      have hnd : ¬ doneP k (infs ops qs) j = true := fun e => by
        have := (hI.come j hj).2 e
        simp [hsz, hj] at this hju
        rw [this] at hju
        cases hju
      rcases Nat.lt_or_ge j k with g | g
      · obtain ⟨q, hq, e⟩ : ∃ q ∈ qs, j = q.1 := Classical.byContradiction fun hx => hnd (doneP_iff.2 ⟨g, fun q hq e => hx ⟨q, hq, e⟩⟩)
        have hqo := (hI.put q hq).1
        rw [← e, hoj] at hqo
        have e2 := Option.some.inj hqo
        have := List.all_eq_true.1 hpq (q.1, infoOf ops q.2) (List.mem_map.2 ⟨q, hq, rfl⟩)
        rw [← e2] at this
        exact apart_of this hno
      · have hlj := hI.rest (j - k)
        rw [show k + (j - k) = j by omega, hoj, show j - k = (j - k - 1) + 1 by omega, List.getElem?_cons_succ] at hlj
        exact apart_of (List.all_eq_true.1 hp _ (List.mem_map.2 ⟨oj, List.mem_of_getElem? hlj, rfl⟩)) hno
    have hlen := hI.len
    have hI' : HI ops (k + 1) r qs (listed.setIfInBounds k true) := hI.set hk (fun j => by
        have := hI.rest (j + 1)
        simpa [Nat.add_assoc, Nat.add_comm 1 j] using this) (by simp at hlen; omega) (fun q hq => ⟨(hI.put q hq).1, Nat.lt_succ_of_lt (hI.put q hq).2⟩) (fun j => by
        rw [doneP_iff, doneP_iff]
        constructor
        · rintro ⟨h1, h2⟩
          by_cases q : j = k
          · exact .inl q
          · exact .inr ⟨by omega, h2⟩
        · rintro (rfl | ⟨h1, h2⟩)
          · exact ⟨by omega, fun q hq e => hnk q hq e.symm⟩
          · exact ⟨by omega, h2⟩)
    have ih := HP.run hs hQ p (k + 1) r qs (listed.setIfInBounds k true) (a.put o.dst v) w hI' hB' hS hK
    rw [show (o :: r).length + qs.length = (r.length + qs.length) + 1 by simp; omega]
    exact wpAnyH_first h0 (Region.noSelect_spec hs) (fun c a w => hQ c a _ _ w) _ listed a w hfree hr hy hS ih
  | .off p, k, [], qs, listed, a, w, hI, hB, hS, h => by simp [ordP] at hB
  | .off p, k, o :: r, qs, listed, a, w, hI, hB, hS, h => by
    have h0 : ops[k]? = some o := by simpa using (hI.rest 0).symm
    have hlen := hI.len
    have hI' : HI ops (k + 1) r (qs ++ [(k, o)]) listed := ⟨fun j => by
        have := hI.rest (j + 1)
        simpa [Nat.add_assoc, Nat.add_comm 1 j] using this, by simp at hlen; omega, fun q hq => by
        rcases List.mem_append.1 hq with hq | hq
        · exact ⟨(hI.put q hq).1, Nat.lt_succ_of_lt (hI.put q hq).2⟩
        · simp at hq; subst hq; exact ⟨h0, Nat.lt_succ_self _⟩, hI.size, fun j hj => by
        rw [hI.come j hj, doneP_iff, doneP_iff]
        constructor
        · rintro ⟨h1, h2⟩
          refine ⟨by omega, fun q hq => ?_⟩
          rcases List.mem_append.1 hq with hq | hq
          · exact h2 q hq
          · simp at hq; subst hq; show j ≠ k; omega
        · rintro ⟨h1, h2⟩
          have h3 := h2 (k, o) (by simp)
          exact ⟨by simp only at h3; omega, fun q hq => h2 q (List.mem_append_left _ hq)⟩⟩
    have hB' : ordP p (k + 1) (r.map (infoOf ops)) (infs ops (qs ++ [(k, o)])) = true := by
      simp only [List.map_cons, ordP] at hB
      simpa [infs] using hB
    have ih := HP.run hs hQ p (k + 1) r (qs ++ [(k, o)]) listed a w hI' hB' hS (by simpa [HP] using h)
    rw [show (o :: r).length + qs.length = r.length + (qs ++ [(k, o)]).length by simp; omega]
    exact ih
  | .go1 p, k, l, [], listed, a, w, hI, hB, hS, h => by simp [ordP, infs] at hB
  | .go1 p, k, l, [(i, o)], listed, a, w, hI, hB, hS, h => by
    obtain ⟨h0, hik⟩ := hI.put (i, o) (by simp)
    simp only at h0 hik
    have hi : i < ops.size := (Array.getElem?_eq_some_iff.1 h0).1
    simp only [ordP, infs, List.map_cons, List.map_nil, Bool.and_eq_true] at hB
    obtain ⟨⟨hd, hw⟩, hB'⟩ := hB
    have hkl := hI.len
    have hr : i ∈ Region.ready .any ops listed := mem_ready.2 ⟨hI.un hi fun e => by have := (doneP_iff.1 e).2 (i, o) (by simp); exact this rfl, o, h0, hI.deps (by omega) hd⟩
    refine ⟨fun hz => (by rw [hz] at hr; cases hr), fun j hj => ?_⟩
    obtain ⟨q, hq, hji⟩ := hI.waits hw j hj
    simp at hq
    subst hq
    simp only at hji
    subst hji
    refine wpOp_step h0 (fun K' hK => h K' (fun a' w' hS' hW => hK a' w' ⟨hS', ?_⟩))
    have hI' : HI ops k l [] (listed.setIfInBounds j true) := hI.set hi hI.rest hI.len (by simp) (fun m => by
      rw [doneP_iff, doneP_iff]
      constructor
      · rintro ⟨h1, _⟩
        by_cases q : m = j
        · exact .inl q
        · exact .inr ⟨h1, fun p hp => by simp at hp; subst hp; exact q⟩
      · rintro (rfl | ⟨h1, _⟩)
        · exact ⟨hik, by simp⟩
        · exact ⟨h1, by simp⟩)
    exact HP.run hs hQ p k l [] _ a' w' hI' hB' hS' (hW hS')
  | .go1 p, k, l, _ :: _ :: _, listed, a, w, hI, hB, hS, h => by simp [ordP, infs] at hB
  | .go2 p q, k, l, [], listed, a, w, hI, hB, hS, h => by simp [ordP, infs] at hB
  | .go2 p q, k, l, [_], listed, a, w, hI, hB, hS, h => by simp [ordP, infs] at hB
  | .go2 p q, k, l, [(i, o), (i', o')], listed, a, w, hI, hB, hS, h => by
    obtain ⟨h0, hik⟩ := hI.put (i, o) (by simp)
    obtain ⟨h0', hik'⟩ := hI.put (i', o') (by simp)
    simp only at h0 hik h0' hik'
    have hi : i < ops.size := (Array.getElem?_eq_some_iff.1 h0).1
    have hi' : i' < ops.size := (Array.getElem?_eq_some_iff.1 h0').1
    simp only [ordP, infs, List.map_cons, List.map_nil, Bool.and_eq_true] at hB
    obtain ⟨⟨⟨⟨⟨hd, hd'⟩, hne⟩, hw⟩, hB1⟩, hB2⟩ := hB
    have hne' : i ≠ i' := by simpa using hne
    have hkl := hI.len
    have hr : i ∈ Region.ready .any ops listed := mem_ready.2 ⟨hI.un hi fun e => by have := (doneP_iff.1 e).2 (i, o) (by simp); exact this rfl, o, h0, hI.deps (by omega) hd⟩
    refine ⟨fun hz => (by rw [hz] at hr; cases hr), fun j hj => ?_⟩
    obtain ⟨x, hx, hji⟩ := hI.waits hw j hj
    simp at hx
    rcases hx with rfl | rfl
    · simp only at hji
      subst hji
      refine wpOp_step h0 (fun K' hK => h.1 K' (fun a' w' hS' hW => hK a' w' ⟨hS', ?_⟩))
      have hI' : HI ops k l [(i', o')] (listed.setIfInBounds j true) := hI.set hi hI.rest hI.len (fun p hp => hI.put p (by simp at hp; simp [hp])) (fun m => by
        rw [doneP_iff, doneP_iff]
        constructor
        · rintro ⟨h1, h2⟩
          by_cases q : m = j
          · exact .inl q
          · exact .inr ⟨h1, fun p hp => by
              simp at hp
              rcases hp with rfl | rfl
              · exact q
              · exact h2 _ (by simp)⟩
        · rintro (rfl | ⟨h1, h2⟩)
          · exact ⟨hik, fun p hp => by simp at hp; subst hp; exact hne'⟩
          · exact ⟨h1, fun p hp => h2 p (by simp at hp; simp [hp])⟩)
      have ih := HP.run hs hQ p k l [(i', o')] _ a' w' hI' hB1 hS' (hW hS')
      exact ih
    · simp only at hji
      subst hji
      refine wpOp_step h0' (fun K' hK => h.2 K' (fun a' w' hS' hW => hK a' w' ⟨hS', ?_⟩))
      have hI' : HI ops k l [(i, o)] (listed.setIfInBounds j true) := hI.set hi' hI.rest hI.len (fun p hp => hI.put p (by simp at hp; simp [hp])) (fun m => by
        rw [doneP_iff, doneP_iff]
        constructor
        · rintro ⟨h1, h2⟩
          by_cases q : m = j
          · exact .inl q
          · exact .inr ⟨h1, fun p hp => by
              simp at hp
              rcases hp with rfl | rfl
              · exact h2 _ (by simp)
              · exact q⟩
        · rintro (rfl | ⟨h1, h2⟩)
          · exact ⟨hik', fun p hp => by simp at hp; subst hp; exact fun e => hne' e.symm⟩
          · exact ⟨h1, fun p hp => h2 p (by simp at hp; simp [hp])⟩)
      have ih := HP.run hs hQ q k l [(i, o)] _ a' w' hI' hB2 hS' (hW hS')
      exact ih
  | .go2 p q, k, l, _ :: _ :: _ :: _, listed, a, w, hI, hB, hS, h => by simp [ordP, infs] at hB
/-- Two that may come in either order, each with what it gives: one way goes on. -/
theorem put_comm (a : Act) {d d' : Tmp} (hne : d ≠ d') (v v' : Value) : (a.put (some d') v').put (some d) v = (a.put (some d) v).put (some d') v' := by
  simp only [Act.put]
  congr 1
  exact (Array.setIfInBounds_comm _ _ hne).symm
theorem HP.both {p : Pl} {o o' : Oper} {l : List Oper} {a : Act} {w : World} (d d' : Tmp) (hd : o.dst = some d) (hd' : o'.dst = some d') (hne : d ≠ d') (φ φ' : Value → World → Prop)
    (hφ : ∀ v w1 w2, φ v w1 → Nw w1 w2 → φ v w2) (hφ' : ∀ v w1 w2, φ' v w1 → Nw w1 w2 → φ' v w2) (hS : S w)
    (h1 : ∀ w1, S w1 → ∀ K' : Act → World → Prop, (∀ v w', Nw w1 w' → φ v w' → K' (a.put (some d) v) w') → if Region.wanted o (yielded ops a.tmps) = true then Oper.wp P o a w1 K' Q else K' (a.put o.dst undef) w1)
    (h1' : ∀ u w1, S w1 → ∀ K' : Act → World → Prop, (∀ v w', Nw w1 w' → φ v w' → K' ((a.put (some d') u).put (some d) v) w') → if Region.wanted o (yielded ops (a.put (some d') u).tmps) = true then Oper.wp P o (a.put (some d') u) w1 K' Q else K' ((a.put (some d') u).put o.dst undef) w1)
    (h2 : ∀ w1, S w1 → ∀ K' : Act → World → Prop, (∀ v w', Nw w1 w' → φ' v w' → K' (a.put (some d') v) w') → if Region.wanted o' (yielded ops a.tmps) = true then Oper.wp P o' a w1 K' Q else K' (a.put o'.dst undef) w1)
    (h2' : ∀ u w1, S w1 → ∀ K' : Act → World → Prop, (∀ v w', Nw w1 w' → φ' v w' → K' ((a.put (some d) u).put (some d') v) w') → if Region.wanted o' (yielded ops (a.put (some d) u).tmps) = true then Oper.wp P o' (a.put (some d) u) w1 K' Q else K' ((a.put (some d) u).put o'.dst undef) w1)
    (hN : ∀ w1 w2, S w1 → Nw w1 w2 → S w2)
    (h : ∀ v v' w', S w' → φ v w' → φ' v' w' → HP P ops Q S p l [] ((a.put (some d) v).put (some d') v') w') : HP P ops Q S (.go2 (.go1 p) (.go1 p)) l [o, o'] a w := by
  refine HP.go2 (fun KK hKK => h1 w hS KK fun v w' g hv => hKK.out _ _ (hN _ _ hS g) fun _ => HP.go1 fun K2 hK2 => h2' v w' (hN _ _ hS g) K2 fun v2 w2 g2 hv2 => hK2.out _ _ (hN _ _ (hN _ _ hS g) g2) fun _ => h v v2 w2 (hN _ _ (hN _ _ hS g) g2) (hφ _ _ _ hv g2) hv2)
    (fun KK hKK => h2 w hS KK fun v w' g hv => hKK.out _ _ (hN _ _ hS g) fun _ => HP.go1 fun K2 hK2 => h1' v w' (hN _ _ hS g) K2 fun v2 w2 g2 hv2 => hK2.out _ _ (hN _ _ (hN _ _ hS g) g2) fun _ => ?_)
  rw [put_comm a hne]
  exact h v2 v w2 (hN _ _ (hN _ _ hS g) g2) hv2 (hφ' _ _ _ hv g2)
/-- THE LAW: a plan that is told serves every order. -/
theorem region_plan {id : Nat} {a : Act} {w : World} {l : List Oper} (p : Pl) (S : World → Prop) (hm : P.follows .mixedOrders = true) (hs : Region.noSelect l.toArray = true)
    (hB : ordP p 0 (l.map (infoOf l.toArray)) [] = true) (hS : S w.drew) (h : HP P l.toArray (NoPanic Q) S p l [] a w.drew) : (Code.region id l.toArray true).wp P Q a w := by
  refine wp_region_noPanic (wp_region_held (S := S) hm ?_)
  have := HP.run hs (fun c a d v w h => h) p 0 l [] (Array.replicate l.toArray.size false) a w.drew ⟨by simp, by simp, by simp, by simp, fun j hj => by rw [doneP_iff]; simp at hj ⊢; simp [hj]⟩ hB hS h
  simpa using this
end
end Go.Proofs.Ytmciiobncfchlaa
