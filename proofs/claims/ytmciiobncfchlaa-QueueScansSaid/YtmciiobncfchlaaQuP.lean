
/- Plain facts of queues of requests: what the calls give; blockers; whether a head is valid. -/
import Derived.Test.YtmciiobncfchlaaQuS
namespace Go.Proofs.Ytmciiobncfchlaa
set_option linter.unusedVariables false

structure Hq where
  t : Int
  r : Int
  W : Int
  q : List Rq
def noH : Hq := ⟨0, 0, 0, []⟩
def rtB (W : Int) (r : Rq) : Bool := !(((((decide (r.id < 0) || !knI r.md) || !knI r.wt) || decide (r.sn < 0)) || decide (W < r.sn))) && (if 0 < r.sn then !cvI r.md r.wt else ((r.md != 0) && (r.wt == r.md)))
def prB (a b : Rq) : Bool := !((((a.id == b.id || a.txn == b.txn) || (decide (0 < a.sn) && a.sn == b.sn)) || ((a.md == 0) && ((b.md != 0) || decide (b.sn < a.sn)))) || (((a.md != 0) && (b.md != 0)) && !cpI a.md b.md))
def pwB : List Rq → Bool
  | [] => true
  | a :: r => r.all (prB a) && pwB r
def okP (W : Int) (q : List Rq) : Bool := q.all (rtB W) && pwB q
def okQ (W : Int) (q : List Rq) : Bool := (decide (0 ≤ W) && decide (W ≤ 4611686018427387904)) && okP W q
theorem pwB_snoc (b : Rq) : ∀ q : List Rq, pwB (q ++ [b]) = (pwB q && q.all fun a => prB a b)
  | [] => rfl
  | a :: q => by
    show ((q ++ [b]).all (prB a) && pwB (q ++ [b])) = ((q.all (prB a) && pwB q) && (a :: q).all fun a => prB a b)
    rw [pwB_snoc b q, List.all_append]
    simp only [List.all_cons, List.all_nil, Bool.and_true]
    cases q.all (prB a) <;> cases prB a b <;> cases pwB q <;> simp
theorem okP_snoc (W : Int) (b : Rq) (q : List Rq) : okP W (q ++ [b]) = (okP W q && (rtB W b && q.all fun a => prB a b)) := by
  unfold okP
  rw [pwB_snoc, List.all_append]
  simp only [List.all_cons, List.all_nil, Bool.and_true]
  cases q.all (rtB W) <;> cases rtB W b <;> cases pwB q <;> simp
theorem rtB_iff (W : Int) (r : Rq) : rtB W r = true ↔ Rt W r := by
  unfold rtB
  simp only [Bool.and_eq_true, Bool.not_eq_true', Bool.or_eq_false_iff, decide_eq_false_iff_not, Bool.not_eq_false', Int.not_lt]
  constructor
  · rintro ⟨⟨⟨⟨⟨h1, h2⟩, h3⟩, h4⟩, h5⟩, h6⟩
    refine ⟨h1, h2, h3, h4, h5, fun z => ?_, fun z => ?_⟩
    · rw [if_pos z] at h6
      simpa using h6
    · rw [if_neg (by omega)] at h6
      simpa using h6
  · intro h
    refine ⟨⟨⟨⟨⟨h.id, h.md⟩, h.wt⟩, h.s0⟩, h.sW⟩, ?_⟩
    by_cases z : 0 < r.sn
    · rw [if_pos z]; simpa using h.w z
    · rw [if_neg z]
      have := h.h (by have := h.s0; omega)
      simpa using this
theorem prB_iff {W : Int} {a b : Rq} (ha : Rt W a) : prB a b = true ↔ Pr a b := by
  unfold prB
  simp only [Bool.not_eq_true', Bool.or_eq_false_iff, Bool.and_eq_false_iff, beq_eq_false_iff_ne, bne_eq_false_iff_eq, decide_eq_false_iff_not, Bool.not_eq_false', Int.not_lt, ne_eq]
  constructor
  · rintro ⟨⟨⟨⟨h1, h2⟩, h3⟩, h4⟩, h5⟩
    refine ⟨h1, h2, fun z => ?_, fun z => ?_, fun z y => ?_⟩
    · rcases h3 with h3 | h3
      · omega
      · exact h3
    · have hs := ha.w' z
      rcases h4 with h4 | h4
      · exact absurd z h4
      · refine ⟨h4.1, ?_⟩
        rcases h3 with h3 | h3
        · omega
        · omega
    · rcases h5 with (h5 | h5) | h5
      · exact absurd h5 z
      · exact absurd h5 y
      · exact h5
  · intro h
    refine ⟨⟨⟨⟨h.id, h.txn⟩, ?_⟩, ?_⟩, ?_⟩
    · by_cases z : 0 < a.sn
      · exact .inr (h.sn z)
      · exact .inl (Int.not_lt.1 z)
    · by_cases z : a.md = 0
      · exact .inr ⟨(h.ord z).1, Int.le_of_lt (h.ord z).2⟩
      · exact .inl z
    · by_cases z : a.md = 0
      · exact .inl (.inl z)
      · by_cases y : b.md = 0
        · exact .inl (.inr y)
        · exact .inr (h.cp z y)
theorem pwB_iff {W : Int} : ∀ q : List Rq, (∀ r ∈ q, Rt W r) → (pwB q = true ↔ q.Pairwise Pr)
  | [], _ => by simp [pwB]
  | a :: q, h => by
    have ha := h a (by simp)
    show (q.all (prB a) && pwB q) = true ↔ _
    rw [Bool.and_eq_true, pwB_iff q (fun r hr => h r (List.mem_cons_of_mem _ hr)), List.pairwise_cons, List.all_eq_true]
    constructor
    · rintro ⟨h1, h2⟩
      exact ⟨fun b hb => (prB_iff ha).1 (h1 b hb), h2⟩
    · rintro ⟨h1, h2⟩
      exact ⟨fun b hb => (prB_iff ha).2 (h1 b hb), h2⟩
theorem okQ_iff (W : Int) (q : List Rq) : okQ W q = true ↔ Ok W q := by
  unfold okQ okP
  simp only [Bool.and_eq_true, decide_eq_true_eq, List.all_eq_true]
  constructor
  · rintro ⟨⟨h1, h2⟩, h3, h4⟩
    have hr : ∀ r ∈ q, Rt W r := fun r hr => (rtB_iff W r).1 (h3 r hr)
    exact ⟨h1, h2, hr, (pwB_iff q hr).1 h4⟩
  · intro h
    exact ⟨⟨h.w0, h.wB⟩, fun r hr => (rtB_iff W r).2 (h.rt r hr), (pwB_iff q h.rt).2 h.pr⟩

/-- What the calls give: a head, whether it was granted, an error. -/
def askR (h : Hq) (id txn m : Int) : Hq × Bool × Int := if askE h.q id txn m = 0 then (⟨h.t, h.r, (askQ h.W h.q id txn m).1, (askQ h.W h.q id txn m).2.1⟩, (askQ h.W h.q id txn m).2.2, 0) else (noH, false, askE h.q id txn m)
def upR (h : Hq) (id m : Int) : Hq × Bool × Int :=
  if m = 0 ∨ knI m = false then (noH, false, 2)
  else match fnd h.q id with
  | none => (noH, false, 5)
  | some r => if 0 < r.sn then (noH, false, 7) else (⟨h.t, h.r, (upQ h.W h.q r m).1, (upQ h.W h.q r m).2.1⟩, (upQ h.W h.q r m).2.2, 0)
def lvR (h : Hq) (id : Int) : Hq × Int := match fnd h.q id with
  | none => (noH, 5)
  | some _ => (⟨h.t, h.r, h.W, lvQ id h.q⟩, 0)
def abRes (h : Hq) (id : Int) : Hq × Int := match fnd h.q id with
  | none => (noH, 5)
  | some r => if 0 < r.sn then (⟨h.t, h.r, h.W, abQ r h.q⟩, 0) else (noH, 7)
def hnR (h : Hq) (id txn : Int) : Hq × Int := match fnd h.q id with
  | none => (noH, 5)
  | some r => if (h.q.any fun o => !(o.id == id) && o.txn == txn) = true then (noH, 4) else if 0 < r.sn then (noH, 7) else (⟨h.t, h.r, h.W, chg (fun x => ⟨x.id, txn, x.md, x.wt, x.sn⟩) id h.q⟩, 0)
def mdQ (q : List Rq) (txn : Int) : Int := match q.find? fun r => r.txn == txn with
  | none => 0
  | some r => r.md
def grpQ (q : List Rq) : Int := (q.map fun x => x.md).foldl supT 0
/-- A number into rising ones, once. -/
def putL (n : Int) : List Int → List Int
  | [] => [n]
  | a :: r => if a < n then a :: putL n r else if a = n then a :: r else n :: a :: r
def blkL (q : List Rq) (r : Rq) : List Int := (q.filter fun o => !(o.id == r.id) && blk r o).foldl (fun l o => putL o.txn l) []
def blkR (q : List Rq) (id : Int) : List Int := match fnd q id with
  | none => []
  | some r => if 0 < r.sn then blkL q r else []
theorem putL_mem (n x : Int) : ∀ l : List Int, x ∈ putL n l ↔ x = n ∨ x ∈ l
  | [] => by simp [putL]
  | a :: r => by
    unfold putL
    split
    · simp only [List.mem_cons, putL_mem n x r]
      constructor
      · rintro (h | h | h)
        · exact .inr (.inl h)
        · exact .inl h
        · exact .inr (.inr h)
      · rintro (h | h | h)
        · exact .inr (.inl h)
        · exact .inl h
        · exact .inr (.inr h)
    split
    · rename_i e
      simp [← e]
    · simp
theorem fold_mem (x : Int) : ∀ (q : List Rq) (l : List Int), x ∈ q.foldl (fun l o => putL o.txn l) l ↔ x ∈ l ∨ ∃ o ∈ q, o.txn = x
  | [], l => by simp
  | a :: q, l => by
    rw [List.foldl_cons, fold_mem x q, putL_mem]
    simp only [List.mem_cons, exists_eq_or_imp]
    constructor
    · rintro ((h | h) | h)
      · exact .inr (.inl h.symm)
      · exact .inl h
      · exact .inr (.inr h)
    · rintro (h | h | h)
      · exact .inl (.inr h)
      · exact .inl (.inl h.symm)
      · exact .inr h
theorem blkL_mem (q : List Rq) (r : Rq) (x : Int) : x ∈ blkL q r ↔ ∃ o ∈ q, o.id ≠ r.id ∧ blk r o = true ∧ o.txn = x := by
  unfold blkL
  rw [fold_mem]
  simp only [List.not_mem_nil, false_or, List.mem_filter]
  constructor
  · rintro ⟨o, ⟨ho, hb⟩, rfl⟩
    simp only [Bool.and_eq_true, Bool.not_eq_true', beq_eq_false_iff_ne] at hb
    exact ⟨o, ho, hb.1, hb.2, rfl⟩
  · rintro ⟨o, ho, h1, h2, rfl⟩
    exact ⟨o, ⟨ho, by simp [h1, h2]⟩, rfl⟩
/-- Who waits can be granted exactly if it has no blockers. -/
theorem blkL_nil (q : List Rq) (r : Rq) (hs : 0 < r.sn) : blkL q r = [] ↔ canG q r = true := by
  rw [List.eq_nil_iff_forall_not_mem]
  unfold canG
  simp only [blkL_mem, Bool.and_eq_true, decide_eq_true_eq, List.all_eq_true, Bool.or_eq_true, beq_iff_eq, Bool.not_eq_true']
  constructor
  · intro h
    refine ⟨hs, fun o ho => ?_⟩
    by_cases e : o.id = r.id
    · exact .inl e
    · refine .inr ?_
      cases hb : blk r o with
      | false => rfl
      | true => exact absurd ⟨o, ho, e, hb, rfl⟩ (h o.txn)
  · rintro ⟨_, h⟩ x ⟨o, ho, e, hb, _⟩
    rcases h o ho with h | h
    · exact e h
    · rw [h] at hb; cases hb
theorem putL_sorted (n : Int) : ∀ l : List Int, l.Pairwise (· < ·) → (putL n l).Pairwise (· < ·)
  | [], _ => by simp [putL]
  | a :: r, h => by
    rw [List.pairwise_cons] at h
    unfold putL
    split
    · rename_i h1
      rw [List.pairwise_cons]
      refine ⟨fun x hx => ?_, putL_sorted n r h.2⟩
      rcases (putL_mem n x r).1 hx with rfl | hx
      · exact h1
      · exact h.1 x hx
    split
    · rw [List.pairwise_cons]; exact h
    · rename_i h1 h2
      rw [List.pairwise_cons]
      refine ⟨fun x hx => ?_, by rw [List.pairwise_cons]; exact h⟩
      rcases List.mem_cons.1 hx with rfl | hx
      · omega
      · have := h.1 x hx
        omega
theorem blkL_sorted (q : List Rq) (r : Rq) : (blkL q r).Pairwise (· < ·) := by
  unfold blkL
  suffices H : ∀ (q : List Rq) (l : List Int), l.Pairwise (· < ·) → (q.foldl (fun l o => putL o.txn l) l).Pairwise (· < ·) from H _ [] .nil
  intro q
  induction q with
  | nil => intro l h; exact h
  | cons a q ih => intro l h; exact ih _ (putL_sorted _ _ h)
/-- Rising lists with the same members are the same. -/
theorem rising_eq : ∀ {l m : List Int}, l.Pairwise (· < ·) → m.Pairwise (· < ·) → (∀ x, x ∈ l ↔ x ∈ m) → l = m
  | [], [], _, _, _ => rfl
  | [], b :: m, _, _, h => absurd ((h b).2 (by simp)) (by simp)
  | a :: l, [], _, _, h => absurd ((h a).1 (by simp)) (by simp)
  | a :: l, b :: m, h1, h2, h => by
    rw [List.pairwise_cons] at h1 h2
    have e : a = b := by
      rcases List.mem_cons.1 ((h a).1 (by simp)) with q | q
      · exact q
      · rcases List.mem_cons.1 ((h b).2 (by simp)) with q' | q'
        · exact q'.symm
        · have := h2.1 a q; have := h1.1 b q'; omega
    subst e
    refine congrArg _ (rising_eq h1.2 h2.2 fun x => ⟨fun hx => ?_, fun hx => ?_⟩)
    · rcases List.mem_cons.1 ((h x).1 (List.mem_cons_of_mem _ hx)) with q | q
      · subst q; have := h1.1 _ hx; omega
      · exact q
    · rcases List.mem_cons.1 ((h x).2 (List.mem_cons_of_mem _ hx)) with q | q
      · subst q; have := h2.1 _ hx; omega
      · exact q
/-- The request of a number. -/
theorem fnd_some {W : Int} {q : List Rq} (h : Ok W q) {r : Rq} (hr : r ∈ q) : fnd q r.id = some r := by
  unfold fnd
  cases e : q.find? fun x => x.id == r.id with
  | none =>
    rw [List.find?_eq_none] at e
    exact absurd (by simp) (e r hr)
  | some s =>
    have h1 := List.mem_of_find?_eq_some e
    have h2 := List.find?_some e
    rw [h.inj s h1 r hr (by simpa using h2)]
theorem fnd_is {q : List Rq} {id : Int} {r : Rq} (h : fnd q id = some r) : r ∈ q ∧ r.id = id := by
  have h1 := List.mem_of_find?_eq_some h
  have h2 := List.find?_some h
  exact ⟨h1, by simpa using h2⟩
theorem mdQ_some {W : Int} {q : List Rq} (h : Ok W q) {r : Rq} (hr : r ∈ q) : mdQ q r.txn = r.md := by
  unfold mdQ
  cases e : q.find? fun x => x.txn == r.txn with
  | none =>
    rw [List.find?_eq_none] at e
    exact absurd (by simp) (e r hr)
  | some s =>
    have h1 := List.mem_of_find?_eq_some e
    have h2 := List.find?_some e
    rw [h.injT s h1 r hr (by simpa using h2)]
end Go.Proofs.Ytmciiobncfchlaa
