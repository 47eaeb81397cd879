
/- Plain facts of pools: which numbers are lent, which is the first one that is free. Of no program. -/
import Derived.Test.YtckbjgcelpmffaaNw
namespace Go.Proofs.Ytckbjgcelpmffaa
set_option linter.unusedVariables false

/-- The first one that is free; the length where there is none. -/
def fre : List Bool → Nat
  | [] => 0
  | true :: r => fre r + 1
  | false :: _ => 0
theorem fre_le : ∀ L : List Bool, fre L ≤ L.length
  | [] => Nat.le_refl _
  | true :: r => by have := fre_le r; simp [fre]; omega
  | false :: r => by simp [fre]
theorem fre_free : ∀ (L : List Bool) (h : fre L < L.length), L[fre L] = false
  | true :: r, h => by
    simp only [fre, List.getElem_cons_succ]
    exact fre_free r (by simp [fre] at h; omega)
  | false :: r, h => rfl
theorem fre_below : ∀ (L : List Bool) (k : Nat) (h : k < L.length), k < fre L → L[k] = true
  | true :: r, 0, _, _ => rfl
  | true :: r, k + 1, h, hk => by
    simp only [List.getElem_cons_succ]
    exact fre_below r k (by simpa using h) (by simpa [fre] using hk)
  | false :: r, k, h, hk => by simp [fre] at hk
/-- What the first free one is known by. -/
theorem fre_is {L : List Bool} {n : Nat} (hn : n ≤ L.length) (h1 : ∀ k (h : k < L.length), k < n → L[k] = true) (h2 : ∀ h : n < L.length, L[n] = false) : fre L = n := by
  rcases Nat.lt_trichotomy (fre L) n with g | g | g
  · have := h1 (fre L) (by omega) g
    rw [fre_free L (by omega)] at this; cases this
  · exact g
  · have hl : n < L.length := Nat.lt_of_lt_of_le g (fre_le L)
    have := fre_below L n hl g
    rw [h2 hl] at this; cases this
theorem fre_full {L : List Bool} : fre L = L.length ↔ ∀ k (h : k < L.length), L[k] = true := by
  constructor
  · intro e k h; exact fre_below L k h (by omega)
  · intro h; exact fre_is (Nat.le_refl _) (fun k hk _ => h k hk) (fun h => absurd h (Nat.lt_irrefl _))
/-- Those that are lent, below a number; all. -/
def lntT (L : List Bool) (k : Nat) : List Nat := (List.range k).filter fun i => L.getD i false
def lnt (L : List Bool) : List Nat := lntT L L.length
def liv (L : List Bool) : Nat := L.countP id
theorem lntT_zero (L : List Bool) : lntT L 0 = [] := rfl
theorem lntT_succ (L : List Bool) (k : Nat) : lntT L (k + 1) = lntT L k ++ (if L.getD k false = true then [k] else []) := by
  unfold lntT
  rw [List.range_succ, List.filter_append]
  congr 1
  by_cases h : L.getD k false = true
  · rw [if_pos h]; simp only [List.filter_cons, h, if_true, List.filter_nil]
  · rw [if_neg h]; simp only [List.filter_cons, h, List.filter_nil]; rfl
theorem lntT_len (L : List Bool) (k : Nat) : (lntT L k).length ≤ k := by
  have := List.length_filter_le (fun i => L.getD i false) (List.range k)
  simpa [lntT] using this
theorem liv_take (L : List Bool) : ∀ k, k ≤ L.length → (lntT L k).length = (L.take k).countP id
  | 0, _ => by simp [lntT]
  | k + 1, h => by
    rw [lntT_succ, List.length_append, liv_take L k (by omega), List.take_add_one, List.getElem?_eq_getElem (by omega), List.countP_append]
    congr 1
    simp only [List.getD_eq_getElem?_getD, List.getElem?_eq_getElem (show k < L.length by omega), Option.getD_some]
    cases L[k]'(by omega) <;> rfl
theorem liv_lnt (L : List Bool) : (lnt L).length = liv L := by
  unfold lnt liv
  rw [liv_take L _ (Nat.le_refl _), List.take_length]
theorem lnt_mem (L : List Bool) (i : Nat) : i ∈ lnt L ↔ ∃ h : i < L.length, L[i] = true := by
  unfold lnt lntT
  rw [List.mem_filter, List.mem_range]
  constructor
  · rintro ⟨h, e⟩
    refine ⟨h, ?_⟩
    simpa [List.getD_eq_getElem?_getD, List.getElem?_eq_getElem h] using e
  · rintro ⟨h, e⟩
    refine ⟨h, ?_⟩
    simpa [List.getD_eq_getElem?_getD, List.getElem?_eq_getElem h] using e
theorem lnt_asc (L : List Bool) : (lnt L).Pairwise (· < ·) := List.Pairwise.filter _ List.pairwise_lt_range
theorem liv_le (L : List Bool) : liv L ≤ L.length := List.countP_le_length
theorem fre_liv : ∀ L : List Bool, fre L ≤ liv L
  | [] => Nat.le_refl _
  | true :: r => by have := fre_liv r; simp [fre, liv] at this ⊢; omega
  | false :: r => by simp [fre]
theorem liv_full {L : List Bool} : liv L = L.length ↔ fre L = L.length := by
  rw [fre_full]
  unfold liv
  rw [List.countP_eq_length]
  constructor
  · intro h k hk; exact h _ (List.getElem_mem hk)
  · intro h x hx
    obtain ⟨k, hk, rfl⟩ := List.getElem_of_mem hx
    exact h k hk
theorem liv_set : ∀ (L : List Bool) (k : Nat) (h : k < L.length) (b : Bool), liv (L.set k b) + (if L[k] = true then 1 else 0) = liv L + (if b = true then 1 else 0)
  | x :: r, 0, _, b => by
    cases x <;> cases b <;> simp [liv]
  | x :: r, k + 1, h, b => by
    have ih := liv_set r k (by simpa using h) b
    simp only [List.set_cons_succ, List.getElem_cons_succ]
    cases x <;> simp [liv] at ih ⊢ <;> omega
/-- A list that is lent again as it was. -/
theorem set_set_back (L : List Bool) (k : Nat) (h : k < L.length) (e : L[k] = true) : (L.set k false).set k true = L := by
  rw [List.set_set]
  apply List.ext_getElem (by simp)
  intro i h1 h2
  by_cases q : k = i
  · subst q; simp [e]
  · rw [List.getElem_set_ne q]
/-- Take: the number, whether there is one, the list behind it. -/
def tkL (L : List Bool) : List Bool := if fre L < L.length then L.set (fre L) true else L
def gvL (L : List Bool) (n : Int) : List Bool := if 0 ≤ n ∧ L.getD n.toNat false = true then L.set n.toNat false else L
def hsL (L : List Bool) (n : Int) : Bool := decide (0 ≤ n) && L.getD n.toNat false
theorem tkL_len (L : List Bool) : (tkL L).length = L.length := by unfold tkL; split <;> simp
theorem gvL_len (L : List Bool) (n : Int) : (gvL L n).length = L.length := by unfold gvL; split <;> simp
theorem getD_lt {L : List Bool} {k : Nat} (h : L.getD k false = true) : ∃ hk : k < L.length, L[k] = true := by
  by_cases hk : k < L.length
  · exact ⟨hk, by simpa [List.getD_eq_getElem?_getD, List.getElem?_eq_getElem hk] using h⟩
  · rw [List.getD_eq_getElem?_getD, List.getElem?_eq_none (by omega)] at h; cases h
theorem getD_at {L : List Bool} {k : Nat} (hk : k < L.length) : L.getD k false = L[k] := by
  simp [List.getD_eq_getElem?_getD, List.getElem?_eq_getElem hk]
/-- One that is given back, and the first free one taken. -/
theorem back_le (L : List Bool) (n : Nat) (h : n < L.length) (e : L[n] = true) : fre (L.set n false) ≤ n ∧ fre (L.set n false) < (L.set n false).length := by
  have : fre (L.set n false) ≤ n := by
    refine Nat.le_of_not_lt fun g => ?_
    have := fre_below (L.set n false) n (by simpa using h) g
    simp at this
  exact ⟨this, by simp; omega⟩
theorem back_same (L : List Bool) (n : Nat) (h : n < L.length) (e : L[n] = true) : lnt (tkL (L.set n false)) = lnt L ↔ fre (L.set n false) = n := by
  obtain ⟨h1, h2⟩ := back_le L n h e
  constructor
  · intro q
    have hm : n ∈ lnt (tkL (L.set n false)) := by rw [q]; exact (lnt_mem L n).2 ⟨h, e⟩
    obtain ⟨g1, g2⟩ := (lnt_mem _ n).1 hm
    refine Classical.byContradiction fun ne => ?_
    have q2 : tkL (L.set n false) = (L.set n false).set (fre (L.set n false)) true := by unfold tkL; rw [if_pos h2]
    have : (tkL (L.set n false))[n]? = some false := by
      rw [q2, List.getElem?_set_ne ne]
      simp [h]
    rw [List.getElem?_eq_getElem g1, g2] at this
    cases this
  · intro q
    unfold tkL
    rw [if_pos h2, q, set_set_back L n h e]
theorem back_live (L : List Bool) (n : Nat) (h : n < L.length) (e : L[n] = true) : liv (tkL (L.set n false)) = liv L ∧ liv (L.set n false) + 1 = liv L := by
  obtain ⟨h1, h2⟩ := back_le L n h e
  have a := liv_set L n h false
  rw [e] at a
  simp at a
  have b := liv_set (L.set n false) (fre (L.set n false)) h2 true
  rw [fre_free _ h2] at b
  simp at b
  refine ⟨?_, a⟩
  unfold tkL
  rw [if_pos h2]
  omega
/-- All of them lent, in order. -/
def upto (k n : Nat) : List Bool := List.replicate k true ++ List.replicate (n - k) false
theorem upto_len {k n : Nat} (h : k ≤ n) : (upto k n).length = n := by simp [upto]; omega
theorem upto_at {k n i : Nat} (h : k ≤ n) (hi : i < (upto k n).length) : (upto k n)[i] = decide (i < k) := by
  have e : (upto k n)[i]? = some (decide (i < k)) := by
    have hn : i < n := by rw [upto_len h] at hi; exact hi
    unfold upto
    rw [List.getElem?_append]
    by_cases q : i < k
    · simp [q]
    · rw [if_neg (by simpa using q), List.getElem?_replicate, if_pos (by simp; omega)]
      simp [q]
  rw [List.getElem?_eq_getElem hi] at e
  exact Option.some.inj e
theorem fre_upto {k n : Nat} (h : k ≤ n) : fre (upto k n) = k :=
  fre_is (by rw [upto_len h]; exact h) (fun i hi q => by rw [upto_at h]; simpa using q) (fun hi => by rw [upto_at h]; simp)
theorem tk_upto {k n : Nat} (h : k < n) : tkL (upto k n) = upto (k + 1) n := by
  have hl := upto_len (Nat.le_of_lt h)
  unfold tkL
  rw [fre_upto (Nat.le_of_lt h), if_pos (by rw [hl]; exact h)]
  apply List.ext_getElem
  · simp [hl, upto_len (show k + 1 ≤ n from h)]
  · intro i h1 h2
    rw [upto_at (show k + 1 ≤ n from h)]
    by_cases q : k = i
    · subst q; simp
    · rw [List.getElem_set_ne q, upto_at (Nat.le_of_lt h)]
      by_cases g : i < k
      · simp [g]; omega
      · simp [g]; omega
theorem lnt_upto (n : Nat) : lnt (upto n n) = List.range n := by
  unfold lnt lntT
  rw [upto_len (Nat.le_refl _), List.filter_eq_self]
  intro i hi
  rw [List.mem_range] at hi
  rw [getD_at (by rw [upto_len (Nat.le_refl _)]; exact hi), upto_at (Nat.le_refl _)]
  simpa using hi
/-- Given back one after the other, from a place on, round about: what is left. -/
def rotL (n t i : Nat) : List Bool := (List.range n).map fun k => !decide ((k + n - t) % n < i)
theorem rot_zero (n t : Nat) : rotL n t 0 = upto n n := by
  apply List.ext_getElem
  · simp [rotL, upto_len]
  · intro k h1 h2
    rw [upto_at (Nat.le_refl _)]
    have hk : k < n := by simpa [rotL] using h1
    simp [rotL, hk]
theorem rot_full (n t : Nat) : ∀ k (h : k < (rotL n t n).length), (rotL n t n)[k] = false := by
  intro k h
  have hk : k < n := by simpa [rotL] using h
  have := Nat.mod_lt (k + n - t) (show 0 < n by omega)
  simp [rotL, this]
theorem rot_at {n t i : Nat} (ht : t < n) (hi : i < n) : ((i + t) % n + n - t) % n = i := by
  by_cases g : i + t < n
  · rw [Nat.mod_eq_of_lt g, show i + t + n - t = i + n by omega, Nat.add_mod_right, Nat.mod_eq_of_lt hi]
  · rw [show (i + t) % n = i + t - n by rw [Nat.mod_eq_sub_mod (by omega), Nat.mod_eq_of_lt (by omega)], show i + t - n + n - t = i by omega, Nat.mod_eq_of_lt hi]
theorem rot_inj {n t k i : Nat} (ht : t < n) (hk : k < n) (h : (k + n - t) % n = i) : k = (i + t) % n := by
  subst h
  by_cases g : t ≤ k
  · rw [show k + n - t = (k - t) + n by omega, Nat.add_mod_right, Nat.mod_eq_of_lt (show k - t < n by omega), show k - t + t = k by omega, Nat.mod_eq_of_lt hk]
  · rw [Nat.mod_eq_of_lt (show k + n - t < n by omega), show k + n - t + t = k + n by omega, Nat.add_mod_right, Nat.mod_eq_of_lt hk]
theorem rot_len (n t i : Nat) : (rotL n t i).length = n := by simp [rotL]
theorem rot_lent {n t i : Nat} (ht : t < n) (hi : i < n) : (rotL n t i).getD ((i + t) % n) false = true := by
  have hm := Nat.mod_lt (i + t) (show 0 < n by omega)
  rw [getD_at (by rw [rot_len]; exact hm)]
  simp [rotL, rot_at ht hi]
theorem gvL_nat (L : List Bool) (p : Nat) (h : L.getD p false = true) : gvL L (p : Int) = L.set p false := by
  unfold gvL
  rw [Int.toNat_natCast, if_pos ⟨by omega, h⟩]
theorem rot_give {n t i : Nat} (ht : t < n) (hi : i < n) : gvL (rotL n t i) (((i + t) % n : Nat) : Int) = rotL n t (i + 1) := by
  have hm := Nat.mod_lt (i + t) (show 0 < n by omega)
  rw [gvL_nat _ _ (rot_lent ht hi)]
  apply List.ext_getElem
  · simp [rot_len]
  · intro k h1 h2
    have hk : k < n := by simpa [rot_len] using h2
    by_cases q : (i + t) % n = k
    · subst q
      simp [rotL, rot_at ht hi]
    · rw [List.getElem_set_ne q]
      have : (k + n - t) % n ≠ i := fun e => q (rot_inj ht hk e).symm
      simp only [rotL, List.getElem_map, List.getElem_range]
      congr 1
      by_cases g : (k + n - t) % n < i
      · simp [g]; omega
      · simp [g]; omega
/-- Those that are free, in order. -/
def frl (L : List Bool) : List Nat := (List.range L.length).filter fun i => !L.getD i false
theorem frl_mem (L : List Bool) (i : Nat) : i ∈ frl L ↔ ∃ h : i < L.length, L[i] = false := by
  unfold frl
  rw [List.mem_filter, List.mem_range]
  constructor
  · rintro ⟨h, e⟩
    refine ⟨h, ?_⟩
    rw [getD_at h] at e
    simpa using e
  · rintro ⟨h, e⟩
    refine ⟨h, ?_⟩
    rw [getD_at h, e]; rfl
theorem frl_asc (L : List Bool) : (frl L).Pairwise (· < ·) := List.Pairwise.filter _ List.pairwise_lt_range
theorem frl_len (L : List Bool) : (frl L).length + liv L = L.length := by
  have h1 := liv_lnt L
  have h2 : ∀ l : List Nat, (l.filter fun i => !L.getD i false).length + (l.filter fun i => L.getD i false).length = l.length := by
    intro l
    induction l with
    | nil => rfl
    | cons a l ih =>
      simp only [List.filter_cons]
      cases L.getD a false <;> simp at ih ⊢ <;> omega
  have h3 := h2 (List.range L.length)
  rw [List.length_range] at h3
  unfold lnt lntT at h1
  unfold frl
  omega
/-- Rising lists with the same members are the same. -/
theorem asc_eq : ∀ {l m : List Nat}, l.Pairwise (· < ·) → m.Pairwise (· < ·) → (∀ x, x ∈ l ↔ x ∈ m) → l = m
  | [], [], _, _, _ => rfl
  | [], b :: m, _, _, h => absurd ((h b).2 (by simp)) (by simp)
  | a :: l, [], _, _, h => absurd ((h a).1 (by simp)) (by simp)
  | a :: l, b :: m, h1, h2, h => by
    rw [List.pairwise_cons] at h1 h2
    have e : a = b := by
      rcases List.mem_cons.1 ((h a).1 (by simp)) with q | q
      · exact q
      · rcases List.mem_cons.1 ((h b).2 (by simp)) with q' | q'
        · exact q'.symm
        · have := h2.1 a q; have := h1.1 b q'; omega
    subst e
    refine congrArg _ (asc_eq h1.2 h2.2 fun x => ⟨fun hx => ?_, fun hx => ?_⟩)
    · rcases List.mem_cons.1 ((h x).1 (List.mem_cons_of_mem _ hx)) with q | q
      · subst q; have := h1.1 _ hx; omega
      · exact q
    · rcases List.mem_cons.1 ((h x).2 (List.mem_cons_of_mem _ hx)) with q | q
      · subst q; have := h2.1 _ hx; omega
      · exact q
theorem frl_none {L : List Bool} (h : fre L = L.length) : frl L = [] := by
  rw [List.eq_nil_iff_forall_not_mem]
  intro i hi
  obtain ⟨h1, h2⟩ := (frl_mem L i).1 hi
  rw [fre_full.1 h i h1] at h2; cases h2
theorem frl_take {L : List Bool} (h : fre L < L.length) : frl L = fre L :: frl (tkL L) := by
  have hs : tkL L = L.set (fre L) true := by unfold tkL; rw [if_pos h]
  refine asc_eq (frl_asc L) (List.pairwise_cons.2 ⟨fun x hx => ?_, frl_asc _⟩) fun x => ?_
  · obtain ⟨h1, h2⟩ := (frl_mem _ x).1 hx
    have hx1 : x < L.length := by rw [tkL_len] at h1; exact h1
    refine Nat.lt_of_not_le fun g => ?_
    by_cases q : x = fre L
    · subst q
      simp [hs] at h2
    · have := fre_below L x hx1 (by omega)
      simp only [hs] at h2
      rw [List.getElem_set_ne (fun e => q e.symm), this] at h2; cases h2
  · rw [List.mem_cons, frl_mem, frl_mem]
    constructor
    · rintro ⟨h1, h2⟩
      by_cases q : x = fre L
      · exact .inl q
      · refine .inr ⟨by rw [tkL_len]; exact h1, ?_⟩
        simp only [hs]
        rw [List.getElem_set_ne (fun e => q e.symm)]; exact h2
    · rintro (rfl | ⟨h1, h2⟩)
      · exact ⟨h, fre_free L h⟩
      · have hx1 : x < L.length := by rw [tkL_len] at h1; exact h1
        refine ⟨hx1, ?_⟩
        simp only [hs] at h2
        by_cases q : fre L = x
        · subst q; simp at h2
        · rw [List.getElem_set_ne q] at h2; exact h2
theorem frl_give {L : List Bool} {p : Nat} (h : p < L.length) (e : L[p] = true) : p ∉ frl L ∧ ∀ x, x ∈ frl (L.set p false) ↔ x = p ∨ x ∈ frl L := by
  constructor
  · intro hp
    obtain ⟨_, h2⟩ := (frl_mem L p).1 hp
    rw [e] at h2; cases h2
  · intro x
    rw [frl_mem, frl_mem]
    constructor
    · rintro ⟨h1, h2⟩
      by_cases q : p = x
      · exact .inl q.symm
      · rw [List.getElem_set_ne q] at h2
        exact .inr ⟨by simpa using h1, h2⟩
    · rintro (rfl | ⟨h1, h2⟩)
      · exact ⟨by simpa using h, by simp⟩
      · refine ⟨by simpa using h1, ?_⟩
        by_cases q : p = x
        · subst q; simp
        · rw [List.getElem_set_ne q]; exact h2
theorem frl_new (n : Nat) : frl (List.replicate n false) = List.range n := by
  unfold frl
  rw [List.length_replicate, List.filter_eq_self]
  intro i hi
  rw [List.mem_range] at hi
  rw [getD_at (by simpa using hi)]
  simp
end Go.Proofs.Ytckbjgcelpmffaa
