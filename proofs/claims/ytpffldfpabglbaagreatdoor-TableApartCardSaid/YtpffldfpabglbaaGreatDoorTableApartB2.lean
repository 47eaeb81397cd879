/- Texts merged: PoM, PhM, PoF, BkB, BdK, BdB, BdC, BkO, BkP, BkQ, BdP, BdD -/
import Derived.Test.YtpffldfpabglbaaGreatDoorTableApartB1
import Derived.WalkKit
import Derived.Lib.Hide
import Derived.Maps.OwnSet
import Derived.Maps.Range
import Derived.DeepKeys4
import Derived.Sort.MapsRangeIn
import Derived.RegionIn

/- Plain facts of pools: which numbers are lent, which is the first one that is free. Of no program. -/
section
namespace Go.Proofs.YtpffldfpabglbaaGreatDoor
set_option linter.unusedVariables false

/-- The first one that is free; the length where there is none. -/
def fre : List Bool → Nat
  | [] => 0
  | true :: r => fre r + 1
  | false :: _ => 0
theorem fre_le : ∀ L : List Bool, fre L ≤ L.length
  | [] => Nat.le_refl _
  | true :: r => by have := fre_le r; simp [fre]; omega
  | false :: r => by simp [fre]
theorem fre_free : ∀ (L : List Bool) (h : fre L < L.length), L[fre L] = false
  | true :: r, h => by
    simp only [fre, List.getElem_cons_succ]
    exact fre_free r (by simp [fre] at h; omega)
  | false :: r, h => rfl
theorem fre_below : ∀ (L : List Bool) (k : Nat) (h : k < L.length), k < fre L → L[k] = true
  | true :: r, 0, _, _ => rfl
  | true :: r, k + 1, h, hk => by
    simp only [List.getElem_cons_succ]
    exact fre_below r k (by simpa using h) (by simpa [fre] using hk)
  | false :: r, k, h, hk => by simp [fre] at hk
/-- What the first free one is known by. -/
theorem fre_is {L : List Bool} {n : Nat} (hn : n ≤ L.length) (h1 : ∀ k (h : k < L.length), k < n → L[k] = true) (h2 : ∀ h : n < L.length, L[n] = false) : fre L = n := by
  rcases Nat.lt_trichotomy (fre L) n with g | g | g
  · have := h1 (fre L) (by omega) g
    rw [fre_free L (by omega)] at this; cases this
  · exact g
  · have hl : n < L.length := Nat.lt_of_lt_of_le g (fre_le L)
    have := fre_below L n hl g
    rw [h2 hl] at this; cases this
theorem fre_full {L : List Bool} : fre L = L.length ↔ ∀ k (h : k < L.length), L[k] = true := by
  constructor
  · intro e k h; exact fre_below L k h (by omega)
  · intro h; exact fre_is (Nat.le_refl _) (fun k hk _ => h k hk) (fun h => absurd h (Nat.lt_irrefl _))
/-- Those that are lent, below a number; all. -/
def lntT (L : List Bool) (k : Nat) : List Nat := (List.range k).filter fun i => L.getD i false
def lnt (L : List Bool) : List Nat := lntT L L.length
def liv (L : List Bool) : Nat := L.countP id
theorem lntT_succ (L : List Bool) (k : Nat) : lntT L (k + 1) = lntT L k ++ (if L.getD k false = true then [k] else []) := by
  unfold lntT
  rw [List.range_succ, List.filter_append]
  congr 1
  by_cases h : L.getD k false = true
  · rw [if_pos h]; simp only [List.filter_cons, h, if_true, List.filter_nil]
  · rw [if_neg h]; simp only [List.filter_cons, h, List.filter_nil]; rfl
theorem liv_take (L : List Bool) : ∀ k, k ≤ L.length → (lntT L k).length = (L.take k).countP id
  | 0, _ => by simp [lntT]
  | k + 1, h => by
    rw [lntT_succ, List.length_append, liv_take L k (by omega), List.take_add_one, List.getElem?_eq_getElem (by omega), List.countP_append]
    congr 1
    simp only [List.getD_eq_getElem?_getD, List.getElem?_eq_getElem (show k < L.length by omega), Option.getD_some]
    cases L[k]'(by omega) <;> rfl
theorem liv_lnt (L : List Bool) : (lnt L).length = liv L := by
  unfold lnt liv
  rw [liv_take L _ (Nat.le_refl _), List.take_length]
theorem lnt_mem (L : List Bool) (i : Nat) : i ∈ lnt L ↔ ∃ h : i < L.length, L[i] = true := by
  unfold lnt lntT
  rw [List.mem_filter, List.mem_range]
  constructor
  · rintro ⟨h, e⟩
    refine ⟨h, ?_⟩
    simpa [List.getD_eq_getElem?_getD, List.getElem?_eq_getElem h] using e
  · rintro ⟨h, e⟩
    refine ⟨h, ?_⟩
    simpa [List.getD_eq_getElem?_getD, List.getElem?_eq_getElem h] using e
theorem lnt_asc (L : List Bool) : (lnt L).Pairwise (· < ·) := List.Pairwise.filter _ List.pairwise_lt_range
theorem liv_le (L : List Bool) : liv L ≤ L.length := List.countP_le_length
theorem fre_liv : ∀ L : List Bool, fre L ≤ liv L
  | [] => Nat.le_refl _
  | true :: r => by have := fre_liv r; simp [fre, liv] at this ⊢; omega
  | false :: r => by simp [fre]
theorem liv_full {L : List Bool} : liv L = L.length ↔ fre L = L.length := by
  rw [fre_full]
  unfold liv
  rw [List.countP_eq_length]
  constructor
  · intro h k hk; exact h _ (List.getElem_mem hk)
  · intro h x hx
    obtain ⟨k, hk, rfl⟩ := List.getElem_of_mem hx
    exact h k hk
theorem liv_set : ∀ (L : List Bool) (k : Nat) (h : k < L.length) (b : Bool), liv (L.set k b) + (if L[k] = true then 1 else 0) = liv L + (if b = true then 1 else 0)
  | x :: r, 0, _, b => by
    cases x <;> cases b <;> simp [liv]
  | x :: r, k + 1, h, b => by
    have ih := liv_set r k (by simpa using h) b
    simp only [List.set_cons_succ, List.getElem_cons_succ]
    cases x <;> simp [liv] at ih ⊢ <;> omega
/-- Take: the number, whether there is one, the list behind it. -/
def tkL (L : List Bool) : List Bool := if fre L < L.length then L.set (fre L) true else L
def gvL (L : List Bool) (n : Int) : List Bool := if 0 ≤ n ∧ L.getD n.toNat false = true then L.set n.toNat false else L
def hsL (L : List Bool) (n : Int) : Bool := decide (0 ≤ n) && L.getD n.toNat false
theorem tkL_len (L : List Bool) : (tkL L).length = L.length := by unfold tkL; split <;> simp
theorem gvL_len (L : List Bool) (n : Int) : (gvL L n).length = L.length := by unfold gvL; split <;> simp
theorem getD_lt {L : List Bool} {k : Nat} (h : L.getD k false = true) : ∃ hk : k < L.length, L[k] = true := by
  by_cases hk : k < L.length
  · exact ⟨hk, by simpa [List.getD_eq_getElem?_getD, List.getElem?_eq_getElem hk] using h⟩
  · rw [List.getD_eq_getElem?_getD, List.getElem?_eq_none (by omega)] at h; cases h
theorem getD_at {L : List Bool} {k : Nat} (hk : k < L.length) : L.getD k false = L[k] := by
  simp [List.getD_eq_getElem?_getD, List.getElem?_eq_getElem hk]
theorem gvL_nat (L : List Bool) (p : Nat) (h : L.getD p false = true) : gvL L (p : Int) = L.set p false := by
  unfold gvL
  rw [Int.toNat_natCast, if_pos ⟨by omega, h⟩]
/-- Those that are free, in order. -/
def frl (L : List Bool) : List Nat := (List.range L.length).filter fun i => !L.getD i false
theorem frl_mem (L : List Bool) (i : Nat) : i ∈ frl L ↔ ∃ h : i < L.length, L[i] = false := by
  unfold frl
  rw [List.mem_filter, List.mem_range]
  constructor
  · rintro ⟨h, e⟩
    refine ⟨h, ?_⟩
    rw [getD_at h] at e
    simpa using e
  · rintro ⟨h, e⟩
    refine ⟨h, ?_⟩
    rw [getD_at h, e]; rfl
theorem frl_asc (L : List Bool) : (frl L).Pairwise (· < ·) := List.Pairwise.filter _ List.pairwise_lt_range
theorem frl_len (L : List Bool) : (frl L).length + liv L = L.length := by
  have h1 := liv_lnt L
  have h2 : ∀ l : List Nat, (l.filter fun i => !L.getD i false).length + (l.filter fun i => L.getD i false).length = l.length := by
    intro l
    induction l with
    | nil => rfl
    | cons a l ih =>
      simp only [List.filter_cons]
      cases L.getD a false <;> simp at ih ⊢ <;> omega
  have h3 := h2 (List.range L.length)
  rw [List.length_range] at h3
  unfold lnt lntT at h1
  unfold frl
  omega
/-- Rising lists with the same members are the same. -/
theorem asc_eq : ∀ {l m : List Nat}, l.Pairwise (· < ·) → m.Pairwise (· < ·) → (∀ x, x ∈ l ↔ x ∈ m) → l = m
  | [], [], _, _, _ => rfl
  | [], b :: m, _, _, h => absurd ((h b).2 (by simp)) (by simp)
  | a :: l, [], _, _, h => absurd ((h a).1 (by simp)) (by simp)
  | a :: l, b :: m, h1, h2, h => by
    rw [List.pairwise_cons] at h1 h2
    have e : a = b := by
      rcases List.mem_cons.1 ((h a).1 (by simp)) with q | q
      · exact q
      · rcases List.mem_cons.1 ((h b).2 (by simp)) with q' | q'
        · exact q'.symm
        · have := h2.1 a q; have := h1.1 b q'; omega
    subst e
    refine congrArg _ (asc_eq h1.2 h2.2 fun x => ⟨fun hx => ?_, fun hx => ?_⟩)
    · rcases List.mem_cons.1 ((h x).1 (List.mem_cons_of_mem _ hx)) with q | q
      · subst q; have := h1.1 _ hx; omega
      · exact q
    · rcases List.mem_cons.1 ((h x).2 (List.mem_cons_of_mem _ hx)) with q | q
      · subst q; have := h2.1 _ hx; omega
      · exact q
theorem frl_none {L : List Bool} (h : fre L = L.length) : frl L = [] := by
  rw [List.eq_nil_iff_forall_not_mem]
  intro i hi
  obtain ⟨h1, h2⟩ := (frl_mem L i).1 hi
  rw [fre_full.1 h i h1] at h2; cases h2
theorem frl_take {L : List Bool} (h : fre L < L.length) : frl L = fre L :: frl (tkL L) := by
  have hs : tkL L = L.set (fre L) true := by unfold tkL; rw [if_pos h]
  refine asc_eq (frl_asc L) (List.pairwise_cons.2 ⟨fun x hx => ?_, frl_asc _⟩) fun x => ?_
  · obtain ⟨h1, h2⟩ := (frl_mem _ x).1 hx
    have hx1 : x < L.length := by rw [tkL_len] at h1; exact h1
    refine Nat.lt_of_not_le fun g => ?_
    by_cases q : x = fre L
    · subst q
      simp [hs] at h2
    · have := fre_below L x hx1 (by omega)
      simp only [hs] at h2
      rw [List.getElem_set_ne (fun e => q e.symm), this] at h2; cases h2
  · rw [List.mem_cons, frl_mem, frl_mem]
    constructor
    · rintro ⟨h1, h2⟩
      by_cases q : x = fre L
      · exact .inl q
      · refine .inr ⟨by rw [tkL_len]; exact h1, ?_⟩
        simp only [hs]
        rw [List.getElem_set_ne (fun e => q e.symm)]; exact h2
    · rintro (rfl | ⟨h1, h2⟩)
      · exact ⟨h, fre_free L h⟩
      · have hx1 : x < L.length := by rw [tkL_len] at h1; exact h1
        refine ⟨hx1, ?_⟩
        simp only [hs] at h2
        by_cases q : fre L = x
        · subst q; simp at h2
        · rw [List.getElem_set_ne q] at h2; exact h2
theorem frl_new (n : Nat) : frl (List.replicate n false) = List.range n := by
  unfold frl
  rw [List.length_replicate, List.filter_eq_self]
  intro i hi
  rw [List.mem_range] at hi
  rw [getD_at (by simpa using hi)]
  simp
end Go.Proofs.YtpffldfpabglbaaGreatDoor
end

/- Numbers, heaps of them: plain facts. -/
section
namespace Go.Proofs.YtpffldfpabglbaaGreatDoor

/-- The order of numbers, as a truth. -/
def itlt (a b : Int) : Bool := decide (a < b)
def itle (a b : Int) : Prop := itlt b a = false
theorem itlt_iff (a b : Int) : itlt a b = true ↔ a < b := by unfold itlt; exact decide_eq_true_iff
theorem itle_iff (a b : Int) : itle a b ↔ ¬ b < a := by unfold itle itlt; exact decide_eq_false_iff_not
theorem itle_refl (a : Int) : itle a a := by rw [itle_iff]; omega
theorem itle_trans {a b c : Int} (h : itle a b) (k : itle b c) : itle a c := by rw [itle_iff] at *; omega
theorem itle_of_lt {a b : Int} (h : itlt a b = true) : itle a b := by rw [itle_iff]; rw [itlt_iff] at h; omega
theorem itle_antisymm {a b : Int} (h : itle a b) (k : itle b a) : a = b := by rw [itle_iff] at *; omega

/-! ### Heaps as functions -/
def IHp (f : Nat → Int) (n : Nat) : Prop := ∀ k, 0 < k → k < n → itle (f ((k - 1) / 2)) (f k)
def IEx (f : Nat → Int) (n j : Nat) : Prop := ∀ k, 0 < k → k < n → k ≠ j → (k - 1) / 2 ≠ j → itle (f ((k - 1) / 2)) (f k)
def IGr (f : Nat → Int) (n j : Nat) : Prop := 0 < j → ∀ k, 0 < k → k < n → (k - 1) / 2 = j → itle (f ((j - 1) / 2)) (f k)
def ICh (f : Nat → Int) (n j : Nat) : Prop := ∀ k, 0 < k → k < n → (k - 1) / 2 = j → itle (f j) (f k)
def IPa (f : Nat → Int) (j : Nat) : Prop := 0 < j → itle (f ((j - 1) / 2)) (f j)
def isw (f : Nat → Int) (i j : Nat) : Nat → Int := fun k => if k = i then f j else if k = j then f i else f k
theorem isw_l (f : Nat → Int) (i j : Nat) : isw f i j i = f j := if_pos rfl
theorem isw_r (f : Nat → Int) (i j : Nat) : isw f i j j = f i := by unfold isw; split <;> simp_all
theorem isw_o (f : Nat → Int) {i j k : Nat} (h : k ≠ i) (h' : k ≠ j) : isw f i j k = f k := by unfold isw; rw [if_neg h, if_neg h']

theorem IHp.ex {f : Nat → Int} {n : Nat} (h : IHp f n) (j : Nat) : IEx f n j := fun k h0 h1 _ _ => h k h0 h1
theorem IHp.gr {f : Nat → Int} {n j : Nat} (h : IHp f n) (hj : j < n) : IGr f n j := fun h0 k h1 h2 h3 => by
  have a := h j h0 hj
  have b := h k h1 h2
  rw [h3] at b
  exact itle_trans a b
theorem IHp.of {f : Nat → Int} {n j : Nat} (he : IEx f n j) (hc : ICh f n j) (hp : IPa f j) : IHp f n := fun k h0 h1 => by
  by_cases e : k = j
  · subst e; exact hp h0
  · by_cases e' : (k - 1) / 2 = j
    · rw [e']; exact hc k h0 h1 e'
    · exact he k h0 h1 e e'
theorem IHp.min {f : Nat → Int} {n : Nat} (h : IHp f n) : ∀ k, k < n → itle (f 0) (f k) := by
  intro k
  induction k using Nat.strongRecOn with
  | ind k ih =>
    intro hk
    rcases Nat.eq_zero_or_pos k with rfl | h0
    · exact itle_refl _
    · exact itle_trans (ih ((k - 1) / 2) (by omega) (by omega)) (h k h0 hk)
theorem IHp.sub {f : Nat → Int} {n m : Nat} (h : IHp f n) (hm : m ≤ n) : IHp f m := fun k h0 h1 => h k h0 (by omega)
theorem IHp.congr {f g : Nat → Int} {n : Nat} (h : IHp f n) (e : ∀ k, k < n → g k = f k) : IHp g n := fun k h0 h1 => by
  rw [e k h1, e _ (by omega)]; exact h k h0 h1

theorem iup_step {f : Nat → Int} {n i j : Nat} (hi : (j - 1) / 2 = i) (hj : 0 < j) (hn : j < n) (he : IEx f n j) (hg : IGr f n j) (hc : ICh f n j) (hl : itlt (f j) (f i) = true) :
    IEx (isw f i j) n i ∧ IGr (isw f i j) n i ∧ ICh (isw f i j) n i := by
  have hlt := itle_of_lt hl
  have hij : i ≠ j := by omega
  refine ⟨fun k h0 h1 h2 h3 => ?_, fun hi0 k h0 h1 h2 => ?_, fun k h0 h1 h2 => ?_⟩
  · have hkj : k ≠ j := fun e => h3 (by rw [e]; exact hi)
    rw [isw_o f h2 hkj]
    by_cases e : (k - 1) / 2 = j
    · rw [e, isw_r]
      have := hg hj k h0 h1 e
      rwa [hi] at this
    · rw [isw_o f h3 e]; exact he k h0 h1 hkj e
  · have hpi : (i - 1) / 2 ≠ i := by omega
    have hpj : (i - 1) / 2 ≠ j := by omega
    rw [isw_o f hpi hpj]
    have a := he i hi0 (by omega) hij hpj
    by_cases e : k = j
    · subst e; rw [isw_r]; exact a
    · rw [isw_o f (by omega) e]
      have b := he k h0 h1 e (by omega)
      rw [h2] at b
      exact itle_trans a b
  · rw [isw_l]
    by_cases e : k = j
    · subst e; rw [isw_r]; exact hlt
    · rw [isw_o f (by omega) e]
      have b := he k h0 h1 e (by omega)
      rw [h2] at b
      exact itle_trans hlt b
theorem idown_step {f : Nat → Int} {n i m : Nat} (hm : (m - 1) / 2 = i) (h0m : 0 < m) (he : IEx f n i) (hg : IGr f n i) (hmin : ∀ k, 0 < k → k < n → (k - 1) / 2 = i → itle (f m) (f k)) (hmn : m < n) (hl : itlt (f m) (f i) = true) :
    IEx (isw f i m) n m ∧ IGr (isw f i m) n m ∧ IPa (isw f i m) m := by
  have hlt := itle_of_lt hl
  have him : i ≠ m := by omega
  refine ⟨fun k h0 h1 h2 h3 => ?_, fun _ k h0 h1 h2 => ?_, fun _ => ?_⟩
  · by_cases e : (k - 1) / 2 = i
    · rw [e, isw_l, isw_o f (by omega) h2]; exact hmin k h0 h1 e
    · rw [isw_o f e h3]
      by_cases e' : k = i
      · subst e'; rw [isw_l]; exact hg h0 m h0m hmn hm
      · rw [isw_o f e' h2]; exact he k h0 h1 e' e
  · rw [hm, isw_l, isw_o f (by omega) (by omega)]
    have := he k h0 h1 (by omega) (by omega)
    rwa [h2] at this
  · rw [hm, isw_l, isw_r]; exact hlt

/-! ### Lists -/
def iat (l : List Int) (k : Nat) : Int := l.getD k 0
theorem iat_lt (l : List Int) {k : Nat} (h : k < l.length) : iat l k = l[k] := by simp [iat, List.getD, h]
def iswp (l : List Int) (i j : Nat) : List Int := (l.set i (iat l j)).set j (iat l i)
theorem iswp_len (l : List Int) (i j : Nat) : (iswp l i j).length = l.length := by simp [iswp]
theorem iat_swp (l : List Int) {i j : Nat} (hi : i < l.length) (hj : j < l.length) : iat (iswp l i j) = isw (iat l) i j := by
  funext k
  unfold iswp isw
  by_cases e : k = j
  · subst e
    by_cases e' : k = i
    · subst e'; rw [if_pos rfl, iat_lt _ (by simpa using hj)]; simp
    · rw [if_neg e', if_pos rfl, iat_lt _ (by simpa using hj)]; simp
  · by_cases e' : k = i
    · subst e'; rw [if_pos rfl]
      rw [iat_lt _ (by simpa using hi)]
      rw [List.getElem_set_ne (fun h => e h.symm)]; simp
    · rw [if_neg e', if_neg e]
      simp [iat, List.getD, Ne.symm e, Ne.symm e']
theorem iswp_perm (l : List Int) {i j : Nat} (hi : i < l.length) (hj : j < l.length) : (iswp l i j).Perm l := by
  have h := Array.swap_perm (xs := l.toArray) (i := i) (j := j) (by simpa using hi) (by simpa using hj)
  have h2 := h.toList
  simp only [Array.toList_swap] at h2
  unfold iswp
  rw [iat_lt l hi, iat_lt l hj]
  simpa using h2
theorem iat_app_l (l m : List Int) {k : Nat} (h : k < l.length) : iat (l ++ m) k = iat l k := by simp [iat, List.getD, h, List.getElem?_append_left]
theorem ihp_app {l : List Int} (x : Int) (h : IHp (iat l) l.length) : IEx (iat (l ++ [x])) (l.length + 1) l.length ∧ IGr (iat (l ++ [x])) (l.length + 1) l.length ∧ ICh (iat (l ++ [x])) (l.length + 1) l.length := by
  refine ⟨fun k h0 h1 h2 h3 => ?_, fun _ k h0 h1 h2 => ?_, fun k h0 h1 h2 => ?_⟩
  · rw [iat_app_l l [x] (by omega), iat_app_l l [x] (by omega)]
    exact h k h0 (by omega)
  · omega
  · omega

/-! ### Sorted lists -/
def ISrt (s : List Int) : Prop := s.Pairwise itle
def iins (x : Int) : List Int → List Int
  | [] => [x]
  | a :: s => if itlt a x = true then a :: iins x s else x :: a :: s
theorem iins_perm (x : Int) : ∀ s, (iins x s).Perm (x :: s)
  | [] => .refl _
  | a :: s => by
    unfold iins
    split
    · exact ((iins_perm x s).cons a).trans (List.Perm.swap x a s)
    · exact .refl _
theorem iins_srt (x : Int) : ∀ s, ISrt s → ISrt (iins x s)
  | [], _ => by simp [iins, ISrt]
  | a :: s, h => by
    have h2 := List.pairwise_cons.1 h
    unfold iins
    split
    · rename_i hx
      refine List.pairwise_cons.2 ⟨fun b hb => ?_, iins_srt x s h2.2⟩
      rcases List.mem_cons.1 ((iins_perm x s).mem_iff.1 hb) with rfl | hb
      · exact itle_of_lt hx
      · exact h2.1 b hb
    · rename_i hx
      have hx' : itle x a := by unfold itle; simpa using hx
      refine List.pairwise_cons.2 ⟨fun b hb => ?_, h⟩
      rcases List.mem_cons.1 hb with rfl | hb
      · exact hx'
      · exact itle_trans hx' (h2.1 b hb)
theorem isrt_uniq : ∀ {s t : List Int}, ISrt s → ISrt t → s.Perm t → s = t
  | [], t, _, _, h => (List.nil_perm.1 h).symm
  | a :: s, [], _, _, h => by have := h.length_eq; simp at this
  | a :: s, b :: t, hs, ht, h => by
    have h1 := List.pairwise_cons.1 hs
    have h2 := List.pairwise_cons.1 ht
    have ha : itle b a := by
      rcases List.mem_cons.1 (h.mem_iff.1 (List.mem_cons_self ..)) with rfl | hm
      · exact itle_refl _
      · exact h2.1 a hm
    have hb : itle a b := by
      rcases List.mem_cons.1 (h.mem_iff.2 (List.mem_cons_self ..)) with rfl | hm
      · exact itle_refl _
      · exact h1.1 b hm
    obtain rfl := itle_antisymm hb ha
    rw [isrt_uniq h1.2 h2.2 h.cons_inv]

/-- A heap, and the timers that it holds in order. -/
def IHs (l s : List Int) : Prop := IHp (iat l) l.length ∧ l.Perm s ∧ ISrt s
theorem IHs.nil : IHs [] [] := ⟨fun k _ h => by simp at h, .refl _, by simp [ISrt]⟩
theorem IHs.len {l s : List Int} (h : IHs l s) : l.length = s.length := h.2.1.length_eq
theorem IHs.head {l s : List Int} {a : Int} (h : IHs l (a :: s)) : iat l 0 = a := by
  obtain ⟨h1, h2, h3⟩ := h
  have hl : 0 < l.length := by rw [h2.length_eq]; simp
  have h4 := List.pairwise_cons.1 h3
  refine itle_antisymm ?_ ?_
  · obtain ⟨k, hk, e⟩ := List.getElem_of_mem (h2.mem_iff.2 (List.mem_cons_self ..))
    have := h1.min k hk
    rwa [iat_lt l hk, e] at this
  · have hm : iat l 0 ∈ a :: s := h2.mem_iff.1 (by rw [iat_lt l hl]; exact List.getElem_mem hl)
    rcases List.mem_cons.1 hm with e | hm
    · rw [e]; exact itle_refl _
    · exact h4.1 _ hm
/-- What is left in a heap behind a removal: the last place is cut off. -/
theorem IHs.cut {l l' s s' : List Int} {x : Int} {n : Nat} (hs : IHs l s) (hp : l'.Perm l) (hn : l'.length = n + 1) (hx : iat l' n = x) (hh : IHp (iat l') n) (hs' : s.Perm (x :: s')) (h' : ISrt s') :
    l' = l'.take n ++ [x] ∧ IHs (l'.take n) s' := by
  have e : l' = l'.take n ++ [x] := by
    rw [← hx, iat_lt l' (by omega)]
    have := List.take_succ_eq_append_getElem (l := l') (i := n) (by omega)
    rw [← this, List.take_of_length_le (by omega)]
  have hl : (l'.take n).length = n := by simp; omega
  refine ⟨e, ?_, ?_, h'⟩
  · rw [hl]
    refine hh.congr fun k hk => ?_
    have := iat_app_l (l'.take n) [x] (k := k) (by omega)
    rw [← e] at this
    exact this.symm
  · have h1 : (l'.take n ++ [x]).Perm (x :: s') := by rw [← e]; exact (hp.trans hs.2.1).trans hs'
    exact (List.perm_append_comm.symm.trans h1).cons_inv
end Go.Proofs.YtpffldfpabglbaaGreatDoor
end

/- The free numbers of a pool, as the heap has them: plain facts. -/
section
namespace Go.Proofs.YtpffldfpabglbaaGreatDoor
set_option linter.unusedVariables false

def castL (l : List Nat) : List Int := l.map fun n : Nat => (n : Int)
def frI (L : List Bool) : List Int := castL (frl L)
theorem castL_srt {l : List Nat} (h : l.Pairwise (· < ·)) : ISrt (castL l) := by
  unfold ISrt castL
  rw [List.pairwise_map]
  exact h.imp fun {a b} hab => by rw [itle_iff]; omega
theorem asc_nodup {l : List Nat} (h : l.Pairwise (· < ·)) : l.Nodup := h.imp fun {a b} hab => Nat.ne_of_lt hab
theorem frI_len (L : List Bool) : (frI L).length + liv L = L.length := by
  unfold frI castL
  rw [List.length_map]
  exact frl_len L
theorem frI_new (n : Nat) : frI (List.replicate n false) = castL (List.range n) := by unfold frI; rw [frl_new]
theorem range_ins (k : Nat) : iins (k : Int) (castL (List.range k)) = castL (List.range (k + 1)) := by
  refine isrt_uniq (iins_srt _ _ (castL_srt List.pairwise_lt_range)) (castL_srt List.pairwise_lt_range) ((iins_perm _ _).trans ?_)
  have hp : (k :: List.range k).Perm (List.range (k + 1)) := by
    rw [List.range_succ]
    exact (List.perm_append_comm (l₁ := List.range k) (l₂ := [k])).symm
  exact hp.map _
theorem frI_take {L : List Bool} (h : fre L < L.length) : frI L = (fre L : Int) :: frI (tkL L) := by
  unfold frI
  rw [frl_take h]
  rfl
theorem frI_none {L : List Bool} (h : fre L = L.length) : frI L = [] := by unfold frI; rw [frl_none h]; rfl
theorem castL_range_len (n : Nat) : (castL (List.range n)).length = n := by simp [castL]
end Go.Proofs.YtpffldfpabglbaaGreatDoor
end

/- Plain facts of buckets: heads by rising names, the numbers that are lent. Of no program. -/
section
namespace Go.Proofs.YtpffldfpabglbaaGreatDoor
set_option linter.unusedVariables false

/-- One name is ahead of another one: by table, then record. -/
def nlt (a b : Int × Int) : Prop := a.1 < b.1 ∨ (a.1 = b.1 ∧ a.2 < b.2)
instance (a b : Int × Int) : Decidable (nlt a b) := by unfold nlt; infer_instance
theorem nlt_irr (a : Int × Int) : ¬ nlt a a := by unfold nlt; omega
theorem nlt_tr {a b c : Int × Int} (h : nlt a b) (k : nlt b c) : nlt a c := by unfold nlt at *; omega
theorem nlt_tot (a b : Int × Int) : nlt a b ∨ a = b ∨ nlt b a := by
  obtain ⟨a1, a2⟩ := a
  obtain ⟨b1, b2⟩ := b
  unfold nlt
  simp only [Prod.mk.injEq]
  omega
def nmH (h : Hq) : Int × Int := (h.t, h.r)
abbrev SrtH (hs : List Hq) : Prop := hs.Pairwise fun a b => nlt (nmH a) (nmH b)
def getH (hs : List Hq) (nm : Int × Int) : Option Hq := hs.find? fun h => decide (nmH h = nm)
def putH : List Hq → Hq → List Hq
  | [], h => [h]
  | a :: l, h => if nlt (nmH a) (nmH h) then a :: putH l h else if nmH a = nmH h then h :: l else h :: a :: l
def delH (hs : List Hq) (nm : Int × Int) : List Hq := hs.filter fun h => !decide (nmH h = nm)
def ofId (hs : List Hq) (id : Int) : Option Hq := hs.find? fun h => (fnd h.q id).isSome
def allIds (hs : List Hq) : List Int := hs.flatMap fun h => idsQ h.q
theorem allIds_app (l m : List Hq) : allIds (l ++ m) = allIds l ++ allIds m := by simp [allIds]
theorem allIds_cons (h : Hq) (l : List Hq) : allIds (h :: l) = idsQ h.q ++ allIds l := rfl
/-- Where a name stands, or would stand. -/
theorem split_nm {hs : List Hq} (h : SrtH hs) (nm : Int × Int) : ∃ l m, hs = l ++ m ∧ (∀ x ∈ l, nlt (nmH x) nm) ∧ (∀ x ∈ m, ¬ nlt (nmH x) nm) := by
  induction hs with
  | nil => exact ⟨[], [], rfl, by simp, by simp⟩
  | cons a hs ih =>
    rw [SrtH, List.pairwise_cons] at h
    by_cases e : nlt (nmH a) nm
    · obtain ⟨l, m, rfl, h1, h2⟩ := ih h.2
      exact ⟨a :: l, m, rfl, fun x hx => by rcases List.mem_cons.1 hx with rfl | hx; exact e; exact h1 x hx, h2⟩
    · refine ⟨[], a :: hs, rfl, by simp, fun x hx => ?_⟩
      rcases List.mem_cons.1 hx with rfl | hx
      · exact e
      · exact fun k => e (nlt_tr (h.1 x hx) k)
theorem put_split {l m : List Hq} {h : Hq} (h1 : ∀ x ∈ l, nlt (nmH x) (nmH h)) : putH (l ++ m) h = l ++ putH m h := by
  induction l with
  | nil => rfl
  | cons a l ih =>
    rw [List.cons_append]
    show (if nlt (nmH a) (nmH h) then a :: putH (l ++ m) h else _) = _
    rw [if_pos (h1 a (by simp)), ih fun x hx => h1 x (List.mem_cons_of_mem _ hx)]
    rfl
theorem put_new {m : List Hq} {h : Hq} (h2 : ∀ x ∈ m, nlt (nmH h) (nmH x)) : putH m h = h :: m := by
  cases m with
  | nil => rfl
  | cons a m =>
    have := h2 a (by simp)
    show (if nlt (nmH a) (nmH h) then _ else if nmH a = nmH h then _ else _) = _
    rw [if_neg (fun k => nlt_irr _ (nlt_tr this k)), if_neg (fun e => by rw [e] at this; exact nlt_irr _ this)]
theorem put_old {a h : Hq} {m : List Hq} (e : nmH a = nmH h) : putH (a :: m) h = h :: m := by
  show (if nlt (nmH a) (nmH h) then _ else if nmH a = nmH h then _ else _) = _
  rw [if_neg (by rw [e]; exact nlt_irr _), if_pos e]
theorem get_some {hs : List Hq} {nm : Int × Int} {h : Hq} (e : getH hs nm = some h) : h ∈ hs ∧ nmH h = nm := by
  unfold getH at e
  exact ⟨List.mem_of_find?_eq_some e, by simpa using List.find?_some e⟩
theorem get_none {hs : List Hq} {nm : Int × Int} (e : getH hs nm = none) : ∀ h ∈ hs, nmH h ≠ nm := fun h hh => by
  unfold getH at e
  simpa using List.find?_eq_none.1 e h hh
/-- A head among the others. -/
theorem srt_mid {hs : List Hq} (h : SrtH hs) {a : Hq} (ha : a ∈ hs) : ∃ l m, hs = l ++ a :: m ∧ (∀ x ∈ l, nlt (nmH x) (nmH a)) ∧ (∀ x ∈ m, nlt (nmH a) (nmH x)) := by
  obtain ⟨l, m, rfl⟩ := List.append_of_mem ha
  obtain ⟨h1, h2, h3⟩ := List.pairwise_append.1 h
  rw [List.pairwise_cons] at h2
  exact ⟨l, m, rfl, fun x hx => h3 x hx a (by simp), h2.1⟩
theorem srt_inj {hs : List Hq} (h : SrtH hs) {a b : Hq} (ha : a ∈ hs) (hb : b ∈ hs) (e : nmH a = nmH b) : a = b := by
  obtain ⟨l, m, rfl, h1, h2⟩ := srt_mid h ha
  rcases List.mem_append.1 hb with q | q
  · have := h1 b q; rw [e] at this; exact absurd this (nlt_irr _)
  · rcases List.mem_cons.1 q with q | q
    · exact q.symm
    · have := h2 b q; rw [e] at this; exact absurd this (nlt_irr _)
theorem put_at {hs : List Hq} (h : SrtH hs) {a x : Hq} (ha : a ∈ hs) (e : nmH x = nmH a) : ∃ l m, hs = l ++ a :: m ∧ putH hs x = l ++ x :: m ∧ SrtH (l ++ x :: m) := by
  obtain ⟨l, m, rfl, h1, h2⟩ := srt_mid h ha
  refine ⟨l, m, rfl, ?_, ?_⟩
  · rw [put_split (fun y hy => by rw [e]; exact h1 y hy), put_old e.symm]
  · obtain ⟨g1, g2, g3⟩ := List.pairwise_append.1 h
    rw [List.pairwise_cons] at g2
    refine List.pairwise_append.2 ⟨g1, List.pairwise_cons.2 ⟨fun y hy => by rw [e]; exact h2 y hy, g2.2⟩, fun y hy z hz => ?_⟩
    rcases List.mem_cons.1 hz with rfl | hz
    · rw [e]; exact h1 y hy
    · exact g3 y hy z (List.mem_cons_of_mem _ hz)
theorem put_no {hs : List Hq} (h : SrtH hs) {x : Hq} (hn : ∀ a ∈ hs, nmH a ≠ nmH x) : ∃ l m, hs = l ++ m ∧ putH hs x = l ++ x :: m ∧ SrtH (l ++ x :: m) := by
  obtain ⟨l, m, rfl, h1, h2⟩ := split_nm h (nmH x)
  have h3 : ∀ y ∈ m, nlt (nmH x) (nmH y) := fun y hy => by
    rcases nlt_tot (nmH x) (nmH y) with q | q | q
    · exact q
    · exact absurd q.symm (hn y (List.mem_append_right _ hy))
    · exact absurd q (h2 y hy)
  refine ⟨l, m, rfl, by rw [put_split h1, put_new h3], ?_⟩
  obtain ⟨g1, g2, g3⟩ := List.pairwise_append.1 h
  refine List.pairwise_append.2 ⟨g1, List.pairwise_cons.2 ⟨h3, g2⟩, fun y hy z hz => ?_⟩
  rcases List.mem_cons.1 hz with rfl | hz
  · exact h1 y hy
  · exact g3 y hy z hz
theorem del_at {hs : List Hq} (h : SrtH hs) {a : Hq} (ha : a ∈ hs) : ∃ l m, hs = l ++ a :: m ∧ delH hs (nmH a) = l ++ m ∧ SrtH (l ++ m) := by
  obtain ⟨l, m, rfl, h1, h2⟩ := srt_mid h ha
  have e1 : l.filter (fun h => !decide (nmH h = nmH a)) = l := List.filter_eq_self.2 fun x hx => by
    have := h1 x hx
    simp only [Bool.not_eq_true', decide_eq_false_iff_not]
    intro e
    rw [e] at this
    exact nlt_irr _ this
  have e2 : m.filter (fun h => !decide (nmH h = nmH a)) = m := List.filter_eq_self.2 fun x hx => by
    have := h2 x hx
    simp only [Bool.not_eq_true', decide_eq_false_iff_not]
    intro e
    rw [e] at this
    exact nlt_irr _ this
  refine ⟨l, m, rfl, ?_, List.Pairwise.sublist (List.Sublist.append_left (List.sublist_cons_self _ _) _) h⟩
  unfold delH
  rw [List.filter_append, e1]
  simp [e2]

/-! ### What holds of a bucket -/
/-- A bucket's heads and the numbers that are lent, to it and (X) to others: most heads at most, k calls. -/
structure BInv (most k : Nat) (hs : List Hq) (X : List Int) (L : List Bool) : Prop where
  srt : SrtH hs
  len : hs.length ≤ most
  inv : ∀ h ∈ hs, HInv h
  ne : ∀ h ∈ hs, h.q ≠ []
  ids : (allIds hs ++ X).Perm (castL (lnt L))
  wt : ∀ h ∈ hs, h.W ≤ k
  ql : ∀ h ∈ hs, h.q.length ≤ k
theorem lnt_none (n : Nat) : lnt (List.replicate n false) = [] := by
  rw [List.eq_nil_iff_forall_not_mem]
  intro x hx
  obtain ⟨h, e⟩ := (lnt_mem _ x).1 hx
  simp at e
theorem binv_start (most : Nat) {X : List Int} {L : List Bool} (h : X.Perm (castL (lnt L))) : BInv most 0 [] X L := ⟨by simp [SrtH], by simp, by simp, by simp, h, by simp, by simp⟩
theorem binv_nil (most : Nat) (n : Nat) : BInv most 0 [] [] (List.replicate n false) := binv_start most (by rw [lnt_none]; exact .refl _)
theorem BInv.more {most k k' : Nat} {hs : List Hq} {X : List Int} {L : List Bool} (h : BInv most k hs X L) (hk : k ≤ k') : BInv most k' hs X L := ⟨h.srt, h.len, h.inv, h.ne, h.ids, fun x hx => by have := h.wt x hx; omega, fun x hx => by have := h.ql x hx; omega⟩
theorem mem_lnt {L : List Bool} {id : Int} : id ∈ castL (lnt L) ↔ hsL L id = true := by
  unfold castL
  rw [List.mem_map]
  constructor
  · rintro ⟨n, hn, rfl⟩
    obtain ⟨h1, h2⟩ := (lnt_mem L n).1 hn
    simp [hsL, h1, h2]
  · intro e
    unfold hsL at e
    simp only [Bool.and_eq_true, decide_eq_true_eq] at e
    obtain ⟨i, rfl⟩ := Int.eq_ofNat_of_zero_le e.1
    exact ⟨i, (lnt_mem L i).2 (getD_lt (by simpa using e.2)), rfl⟩
theorem BInv.all {most k : Nat} {hs : List Hq} {X : List Int} {L : List Bool} (h : BInv most k hs X L) {id : Int} : (id ∈ allIds hs ∨ id ∈ X) ↔ hsL L id = true := by
  rw [← mem_lnt, ← h.ids.mem_iff, List.mem_append]
theorem BInv.mem {most k : Nat} {hs : List Hq} {X : List Int} {L : List Bool} (h : BInv most k hs X L) {id : Int} (hi : id ∈ allIds hs) : hsL L id = true := h.all.1 (.inl hi)
theorem all_len (hs : List Hq) : (allIds hs).length = (hs.map fun x => x.q.length).sum := by
  unfold allIds
  rw [List.length_flatMap]
  congr 1
  apply List.map_congr_left
  intro x _
  simp [idsQ]
theorem BInv.countX {most k : Nat} {hs : List Hq} {X : List Int} {L : List Bool} (h : BInv most k hs X L) : (hs.map fun x => x.q.length).sum + X.length = liv L := by
  rw [← all_len, ← List.length_append, h.ids.length_eq]
  simp [castL, liv_lnt]
theorem BInv.count {most k : Nat} {hs : List Hq} {L : List Bool} (h : BInv most k hs [] L) : (hs.map fun x => x.q.length).sum = liv L := by
  have := h.countX
  simpa using this
theorem cast_nodup {l : List Nat} (h : l.Nodup) : (castL l).Nodup := by
  unfold castL
  exact List.Pairwise.map _ (fun a b e q => e (Int.ofNat_inj.1 q)) h
theorem BInv.nodupX {most k : Nat} {hs : List Hq} {X : List Int} {L : List Bool} (h : BInv most k hs X L) : (allIds hs ++ X).Nodup := (cast_nodup (asc_nodup (lnt_asc L))).perm h.ids.symm
theorem BInv.nodup {most k : Nat} {hs : List Hq} {X : List Int} {L : List Bool} (h : BInv most k hs X L) : (allIds hs).Nodup := (List.nodup_append.1 h.nodupX).1
theorem of_some {hs : List Hq} {id : Int} {h : Hq} (e : ofId hs id = some h) : h ∈ hs ∧ ∃ r, fnd h.q id = some r := by
  unfold ofId at e
  have q := List.find?_some e
  exact ⟨List.mem_of_find?_eq_some e, Option.isSome_iff_exists.1 (by simpa using q)⟩
/-- Numbers lent and given back. -/
theorem lnt_take {L : List Bool} (h : fre L < L.length) : (castL (lnt (tkL L))).Perm ((fre L : Int) :: castL (lnt L)) := by
  have hp : (lnt (tkL L)).Perm (fre L :: lnt L) := by
    have nf : fre L ∉ lnt L := fun q => by
      obtain ⟨_, e⟩ := (lnt_mem L _).1 q
      rw [fre_free L h] at e; cases e
    refine (List.perm_ext_iff_of_nodup (asc_nodup (lnt_asc _)) (List.nodup_cons.2 ⟨nf, asc_nodup (lnt_asc L)⟩)).2 fun x => ?_
    rw [List.mem_cons, lnt_mem, lnt_mem]
    have hs : tkL L = L.set (fre L) true := by unfold tkL; rw [if_pos h]
    constructor
    · rintro ⟨h1, h2⟩
      have hx : x < L.length := by rw [tkL_len] at h1; exact h1
      by_cases e : x = fre L
      · exact .inl e
      · refine .inr ⟨hx, ?_⟩
        simp only [hs] at h2
        rwa [List.getElem_set_ne (fun q => e q.symm)] at h2
    · rintro (rfl | ⟨h1, h2⟩)
      · exact ⟨by rw [tkL_len]; exact h, by simp [hs]⟩
      · refine ⟨by rw [tkL_len]; exact h1, ?_⟩
        simp only [hs]
        by_cases e : fre L = x
        · subst e; simp
        · rw [List.getElem_set_ne e]; exact h2
  exact hp.map _
theorem lnt_give {L : List Bool} {p : Nat} (h : p < L.length) (e : L[p] = true) : ((p : Int) :: castL (lnt (L.set p false))).Perm (castL (lnt L)) := by
  have hp : (p :: lnt (L.set p false)).Perm (lnt L) := by
    have nf : p ∉ lnt (L.set p false) := fun q => by
      obtain ⟨_, e2⟩ := (lnt_mem _ _).1 q
      simp at e2
    refine (List.perm_ext_iff_of_nodup (List.nodup_cons.2 ⟨nf, asc_nodup (lnt_asc _)⟩) (asc_nodup (lnt_asc L))).2 fun x => ?_
    rw [List.mem_cons, lnt_mem, lnt_mem]
    constructor
    · rintro (rfl | ⟨h1, h2⟩)
      · exact ⟨h, e⟩
      · have hx : x < L.length := by simpa using h1
        by_cases q : p = x
        · subst q; simp at h2
        · rw [List.getElem_set_ne q] at h2; exact ⟨hx, h2⟩
    · rintro ⟨h1, h2⟩
      by_cases q : x = p
      · exact .inl q
      · exact .inr ⟨by simpa using h1, by rw [List.getElem_set_ne (fun r => q r.symm)]; exact h2⟩
  exact hp.map _
end Go.Proofs.YtpffldfpabglbaaGreatDoor
end

/- Map keys that are structs of two ints: what they read as. Of no program. -/
section
namespace Go.Proofs.YtpffldfpabglbaaGreatDoor
open Go.RowKit Go.Maps Go.ChangeMaps Go.WideShapes
abbrev wfI (a : Int) : Prop := (Lit.int .i64 a).wf = true
def wfN (a : Int × Int) : Prop := wfI a.1 ∧ wfI a.2
def nmV (a : Int × Int) : Value := .agg #[.int .i64 a.1, .int .i64 a.2]
def nmL (a : Int × Int) : Lit := .string (keyBytes [.int .i64 a.1, .int .i64 a.2])
/-- A struct of two ints. -/
structure Two (P : Program) (k i : TypeId) : Prop where
  st : ∃ fs, P.underlying k = some (.struct fs) ∧ (∃ f g, fs.toList = [f, g] ∧ f.type = i ∧ g.type = i ∧ f.offset = 0 ∧ g.offset = 1) ∧ fs.all (·.name != "_") = true
  un : P.underlying i = some (.int .i64)
  ck : P.cellsOf k = 2
  ci : P.cellsOf i = 1
  sz : ∃ m, P.types.size = m + 1
  kt : P.keyType k = true
theorem Two.lits {P : Program} {k i : TypeId} (T : Two P k i) (u v : Value) : P.keyLits (P.types.size + 1) k [u, v] = (match u, v with
    | .int q a, .int r b => if (q = .i64 ∧ wfI a) ∧ r = .i64 ∧ wfI b then some [.int .i64 a, .int .i64 b] else none
    | _, _ => none) := by
  obtain ⟨⟨fs, hk, ⟨f, g, hf, t1, t2, o1, o2⟩, ha⟩, hi, c2, c1, ⟨m, hm⟩, kt⟩ := T
  rw [hm]
  simp only [Program.keyLits, hk, c2, ha, hf, List.length_cons, List.length_nil, and_self, if_true, List.mapM_cons, List.mapM_nil, t1, t2, o1, o2, c1, hi, List.drop_zero, List.take_succ_cons, List.take_zero, List.drop_succ_cons]
  cases u <;> cases v <;> simp
  rename_i q a r b
  by_cases h1 : q = .i64 ∧ (Lit.int .i64 a).wf = true <;> by_cases h2 : r = .i64 ∧ (Lit.int .i64 b).wf = true <;> simp [h1, h2, wfI]
theorem Two.key {P : Program} {k i : TypeId} (T : Two P k i) {a : Int × Int} (h : wfN a) : keyOf P k (nmV a) = some (nmL a) := by
  obtain ⟨h1, h2⟩ := h
  have hl := T.lits (.int .i64 a.1) (.int .i64 a.2)
  obtain ⟨⟨fs, hk, _⟩, hi, c2, c1, _, kt⟩ := T
  have hf : (nmV a).formed P k = true := by simp [nmV, Value.formed, hk, c2]
  unfold keyOf
  simp only [hk, kt, hf, Bool.and_self, if_true]
  rw [show (nmV a).cells.toList = [.int .i64 a.1, .int .i64 a.2] from rfl, hl]
  simp [h1, h2, nmL]
theorem Two.inv {P : Program} {k i : TypeId} (T : Two P k i) {key : Value} {kl : Lit} (h : keyOf P k key = some kl) : ∃ a : Int × Int, key = nmV a ∧ wfN a := by
  have hl := T.lits
  obtain ⟨⟨fs, hk, _⟩, hi, c2, c1, _, kt⟩ := T
  unfold keyOf at h
  simp only [hk] at h
  split at h
  · rename_i hc
    simp only [Bool.and_eq_true] at hc
    obtain ⟨_, hf⟩ := hc
    obtain ⟨c, rfl⟩ : ∃ c : Array Value, key = .agg c := by
      cases key <;> simp [Value.formed, hk] at hf
      exact ⟨_, rfl⟩
    simp only [Value.formed, hk, c2, beq_iff_eq] at hf
    obtain ⟨c⟩ := c
    have hl2 : c.length = 2 := by simpa using hf
    obtain ⟨u, v, rfl⟩ : ∃ u v, c = [u, v] := by
      match c, hl2 with
      | [u, v], _ => exact ⟨u, v, rfl⟩
    rw [show (Value.agg ⟨[u, v]⟩).cells.toList = [u, v] from rfl, hl] at h
    cases u <;> cases v <;> simp at h
    rename_i q a r b
    obtain ⟨⟨⟨rfl, w1⟩, rfl, w2⟩, _⟩ := h
    exact ⟨(a, b), rfl, w1, w2⟩
  · cases h
end Go.Proofs.YtpffldfpabglbaaGreatDoor
end

/- The map of a bucket: names as keys. -/
section
namespace Go.Proofs.YtpffldfpabglbaaGreatDoor
open Go.RowKit Go.Maps Go.ChangeMaps Go.WideShapes
set_option linter.unusedVariables false      -- a contract need not use every name

theorem pos_succ {k n : Nat} (h : k < n) : ∃ m, n = m + 1 := ⟨n - 1, by omega⟩
theorem laidOutN : laidOutB Tryz.prog = true := by kernel_rfl
theorem rowN : (34 : TypeId) < Tryz.prog.types.size := of_decide_eq_true (by kernel_rfl)
theorem wideN : (match Tryz.prog.underlying 34 with | some (.array _ _) | some (.struct _) => true | _ => false) = true := by rw [Tryz.underlying34]
set_option maxRecDepth 100000 in
theorem lawN : Keyed Tryz.prog 34 := Keyed.of_law (deep_law_laid laidOutN (m := 3) (by omega) rowN (by kernel_rfl) wideN)
theorem twoN : Two Tryz.prog 34 3 where
  st := ⟨_, Tryz.underlying34, ⟨_, _, rfl, rfl, rfl, rfl, rfl⟩, by kernel_rfl⟩
  un := Tryz.underlying3
  ck := by kernel_rfl
  ci := by kernel_rfl
  sz := pos_succ rowN
  kt := by kernel_rfl
theorem keyN {a : Int × Int} (h : wfN a) : keyOf Tryz.prog 34 (nmV a) = some (nmL a) := twoN.key h
theorem nmV_inj {a b : Int × Int} (e : nmV a = nmV b) : a = b := by
  simp only [nmV, Value.agg.injEq, Array.mk.injEq, List.cons.injEq, Value.int.injEq, true_and, and_true] at e
  exact Prod.ext e.1 e.2
theorem nmL_inj {a b : Int × Int} (h : wfN a) (k : wfN b) (e : nmL a = nmL b) : a = b := nmV_inj (lawN.inj (keyN h) (e ▸ keyN k))
theorem isKeyN (a : Int × Int) : WideAt.IsKeyLit (nmL a) := trivial
/-- What reads as a name is one. -/
theorem nmV_inv {key : Value} {kl : Lit} (h : keyOf Tryz.prog 34 key = some kl) : ∃ a : Int × Int, key = nmV a ∧ wfN a := twoN.inv h
end Go.Proofs.YtpffldfpabglbaaGreatDoor
end

/- The map of a bucket in memory: what a look-up, a store, a delete, a length give. -/
section
namespace Go.Proofs.YtpffldfpabglbaaGreatDoor
open Go.RowKit Go.Maps Go.ChangeMaps Go.WideShapes
set_option linter.unusedVariables false      -- a contract need not use every name

/-- A head in the map: the head, its block, its requests' address and capacity. -/
structure Hp where
  h : Hq
  p : Nat
  a : Option Addr
  c : Nat
abbrev ptP (x : Hp) : Value := .pointer (some ⟨x.p, 0, none⟩)
/-- How a pointer to a head reads. -/
def ptrElem : Value → Option (DataW Unit × List MemPlace)
  | .pointer (some ⟨p, 0, none⟩) => some (.lit (.int .i64 (p : Int)), [])
  | .pointer none => some (.nil, [])
  | _ => none
theorem ptrElem_inv {v : Value} {p : Nat} {ps : List MemPlace} (h : ptrElem v = some (.lit (.int .i64 (p : Int)), ps)) : v = .pointer (some ⟨p, 0, none⟩) := by
  unfold ptrElem at h
  split at h
  · injection h with h
    injection h with h1 _
    injection h1 with h1
    injection h1 with _ h1
    rw [show _ = p from Int.ofNat.inj h1]
  · injection h with h
    injection h with h1 _
    cases h1
  · cases h
theorem ptrElem_nil {v : Value} {ps : List MemPlace} (h : ptrElem v = some (.nil, ps)) : v = .pointer none := by
  unfold ptrElem at h
  split at h
  · injection h with h
    injection h with h1 _
    cases h1
  · rfl
  · cases h
def entP (x : Hp) : Lit × DataW Unit := (nmL (nmH x.h), .lit (.int .i64 (x.p : Int)))
/-- The map at mb holds these heads. -/
structure MapH (w : World) (mb : Nat) (l : List Hp) : Prop where
  own : ∃ es, w.ownsMap Tryz.prog 34 ptrElem mb l.length (.map es) ∧ es.Perm (l.map entP)
  wf : ∀ x ∈ l, wfN (nmH x.h)
  ne : l.Pairwise fun x y => nmH x.h ≠ nmH y.h
theorem zeroP (w : World) : (zeroValue 176).run Tryz.prog w = .ok (.pointer none) w := by kernel_rfl
variable {w w' : World} {mb : Nat} {l : List Hp}
theorem MapH.kept {row : Option Nat} (h : MapH w mb l) (hg : w.grownBy w' row) (hne : some mb ≠ row) : MapH w' mb l := by
  obtain ⟨⟨es, h1, h2⟩, h3, h4⟩ := h
  exact ⟨⟨es, h1.kept hg hne, h2⟩, h3, h4⟩
theorem MapH.nw (h : MapH w mb l) (g : Nw w w') : MapH w' mb l := h.kept (g.grownBy none) (by simp)
theorem MapH.lt (h : MapH w mb l) : mb < w.heap.size := by obtain ⟨⟨es, h1, _⟩, _⟩ := h; exact h1.lt
theorem MapH.same (h : MapH w mb l) (e : w'.heap[mb]? = w.heap[mb]?) : MapH w' mb l := by
  obtain ⟨⟨es, ⟨a, c, h1, h2⟩, h3⟩, h4, h5⟩ := h
  exact ⟨⟨es, ⟨a, c, e.trans h1, h2⟩, h3⟩, h4, h5⟩
theorem MapH.tch {S : Nat → Prop} (h : MapH w mb l) (t : Tch S w w') (hS : ¬ S mb) : MapH w' mb l := h.same (t.block mb h.lt hS)
theorem MapH.perm {l' : List Hp} (h : MapH w mb l) (p : l.Perm l') : MapH w mb l' := by
  obtain ⟨⟨es, h1, h2⟩, h3, h4⟩ := h
  exact ⟨⟨es, by rw [← p.length_eq]; exact h1, h2.trans (p.map entP)⟩, fun x hx => h3 x (p.mem_iff.2 hx), (p.pairwise_iff (fun {a b} (e : nmH a.h ≠ nmH b.h) => e.symm)).1 h4⟩
theorem MapH.made (w : World) : MapH (w.alloc (.map #[] 0)) w.heap.size [] := ⟨⟨[], World.ownsMap_made _ _ _ _, by simp⟩, by simp, by simp⟩
/-- The head of a name. -/
def getP (l : List Hp) (a : Int × Int) : Option Hp := l.find? fun x => decide (nmH x.h = a)
theorem getP_some {a : Int × Int} {x : Hp} (e : getP l a = some x) : x ∈ l ∧ nmH x.h = a := ⟨List.mem_of_find?_eq_some e, by simpa using List.find?_some e⟩
theorem getP_none {a : Int × Int} (e : getP l a = none) : ∀ x ∈ l, nmH x.h ≠ a := fun x hx => by
  have := List.find?_eq_none.1 e x hx
  simpa using this
theorem getP_of (h4 : l.Pairwise fun x y => nmH x.h ≠ nmH y.h) {x : Hp} (hx : x ∈ l) : getP l (nmH x.h) = some x := by
  cases e : getP l (nmH x.h) with
  | none => exact absurd rfl (getP_none e x hx)
  | some y =>
    obtain ⟨hy, hn⟩ := getP_some e
    by_cases q : y = x
    · rw [q]
    · exfalso
      have : ∀ {l : List Hp}, (l.Pairwise fun x y => nmH x.h ≠ nmH y.h) → x ∈ l → y ∈ l → False := by
        intro l hp
        induction l with
        | nil => intro hx; cases hx
        | cons z t ih =>
          intro hx hy
          obtain ⟨p1, p2⟩ := List.pairwise_cons.1 hp
          rcases List.mem_cons.1 hx with rfl | hx'
          · rcases List.mem_cons.1 hy with rfl | hy'
            · exact q rfl
            · exact p1 y hy' hn.symm
          · rcases List.mem_cons.1 hy with rfl | hy'
            · exact p1 x hx' hn
            · exact ih p2 hx' hy'
      exact this h4 hx hy
theorem any_perm {α : Type} {f : α → Bool} {l l' : List α} (p : l.Perm l') : l.any f = l'.any f := by
  rw [Bool.eq_iff_iff, List.any_eq_true, List.any_eq_true]
  exact ⟨fun ⟨x, hx, h⟩ => ⟨x, p.mem_iff.1 hx, h⟩, fun ⟨x, hx, h⟩ => ⟨x, p.mem_iff.2 hx, h⟩⟩
theorem MapH.has_iff (h3 : ∀ x ∈ l, wfN (nmH x.h)) {es : List (Lit × DataW Unit)} (h2 : es.Perm (l.map entP)) {a : Int × Int} (wa : wfN a) : Maps.has (DataW.map es) (nmL a) = (getP l a).isSome := by
  rw [has_eq, any_perm h2, List.any_map]
  cases e : getP l a with
  | none =>
    simp only [Option.isSome_none, List.any_eq_false, Function.comp]
    intro x hx hs
    exact getP_none e x hx (nmL_inj (h3 x hx) wa (WideAt.sameKey_eq hs))
  | some x =>
    obtain ⟨hx, rfl⟩ := getP_some e
    simp only [Option.isSome_some, List.any_eq_true, Function.comp]
    exact ⟨x, hx, WideAt.sameKey_self (isKeyN _)⟩
theorem MapH.at_iff (h3 : ∀ x ∈ l, wfN (nmH x.h)) (h4 : l.Pairwise fun x y => nmH x.h ≠ nmH y.h) {es : List (Lit × DataW Unit)} (h2 : es.Perm (l.map entP)) {x : Hp} (hx : x ∈ l) (z : DataW Unit) : (DataW.map es).atKey (nmL (nmH x.h)) z = .lit (.int .i64 (x.p : Int)) := by
  unfold DataW.atKey
  simp only
  cases e : es.find? (fun p => p.1.sameKey (nmL (nmH x.h))) with
  | none =>
    exfalso
    have := List.find?_eq_none.1 e (entP x) (h2.mem_iff.2 (List.mem_map.2 ⟨x, hx, rfl⟩))
    exact this (WideAt.sameKey_self (isKeyN _))
  | some p =>
    have hm := h2.mem_iff.1 (List.mem_of_find?_eq_some e)
    obtain ⟨y, hy, rfl⟩ := List.mem_map.1 hm
    have hn := nmL_inj (h3 y hy) (h3 x hx) (WideAt.sameKey_eq (List.find?_some (p := fun p : Lit × DataW Unit => p.1.sameKey (nmL (nmH x.h))) e))
    have e1 := getP_of h4 hy
    rw [hn, getP_of h4 hx] at e1
    rw [Option.some.inj e1]
    rfl
/-- 'h, is := m[n]'. -/
theorem MapH.look_yes (h : MapH w mb l) {a : Int × Int} (wa : wfN a) {x : Hp} (e : getP l a = some x) :
    (Instr.lookup 135 (.map (some mb)) (nmV a) true).run Tryz.prog w = .ok (.tuple #[ptP x, .bool true]) w := by
  obtain ⟨⟨es, o, h2⟩, h3, h4⟩ := h
  obtain ⟨v, ps, hr, hv⟩ := o.look_ok (t := 135) lawN Tryz.underlying135 (zeroP w) (zd := .nil) (zp := []) rfl (keyN wa)
  obtain ⟨hx, rfl⟩ := getP_some e
  rw [MapH.at_iff h3 h4 h2 hx] at hv
  rw [ptrElem_inv hv, MapH.has_iff h3 h2 wa, e] at hr
  exact hr
theorem MapH.look_no (h : MapH w mb l) {a : Int × Int} (wa : wfN a) (e : getP l a = none) :
    (Instr.lookup 135 (.map (some mb)) (nmV a) true).run Tryz.prog w = .ok (.tuple #[.pointer none, .bool false]) w := by
  obtain ⟨⟨es, o, h2⟩, h3, h4⟩ := h
  obtain ⟨v, ps, hr, hv⟩ := o.look_ok (t := 135) lawN Tryz.underlying135 (zeroP w) (zd := .nil) (zp := []) rfl (keyN wa)
  have hh : Maps.has (DataW.map es) (nmL a) = false := by rw [MapH.has_iff h3 h2 wa, e]; rfl
  rw [atKey_of_not_has hh] at hv
  rw [ptrElem_nil hv, hh] at hr
  exact hr
/-- 'm[n]'. -/
theorem MapH.look (h : MapH w mb l) {x : Hp} (hx : x ∈ l) :
    (Instr.lookup 135 (.map (some mb)) (nmV (nmH x.h)) false).run Tryz.prog w = .ok (ptP x) w := by
  obtain ⟨⟨es, o, h2⟩, h3, h4⟩ := h
  obtain ⟨v, ps, hr, hv⟩ := o.lookup (t := 135) lawN Tryz.underlying135 (zeroP w) (zd := .nil) (zp := []) rfl (keyN (h3 x hx))
  rw [MapH.at_iff h3 h4 h2 hx] at hv
  rw [ptrElem_inv hv] at hr
  exact hr
theorem MapH.len (h : MapH w mb l) (ty : TypeId) : (Builtin.len_ #[135] ty #[.map (some mb)]).run Tryz.prog w = .ok (.int .i64 l.length) w := by
  obtain ⟨⟨es, o, h2⟩, h3, h4⟩ := h
  have := o.len (t := 135) Tryz.underlying135 ty
  rw [size_eq, h2.length_eq, List.length_map] at this
  exact this
theorem own_tight {P : Program} {k : TypeId} {R : Value → Option (DataW Unit × List MemPlace)} {n m : Nat} {D : DataW Unit} (h : w.ownsMap P k R mb n D) (hm : Maps.size D = m) : w.ownsMap P k R mb m D := by
  obtain ⟨es, clock, h1, h2, h3, rfl⟩ := h
  refine ⟨es, clock, h1, h2, ?_, rfl⟩
  simp only [size_eq, length_sorted, List.length_map, Array.length_toList] at hm
  omega
/-- The list behind a store. -/
def putP (l : List Hp) (x : Hp) : List Hp := x :: l.filter fun y => !decide (nmH y.h = nmH x.h)
def delP (l : List Hp) (a : Int × Int) : List Hp := l.filter fun y => !decide (nmH y.h = a)
theorem filt_map (h3 : ∀ x ∈ l, wfN (nmH x.h)) {a : Int × Int} (wa : wfN a) : (l.map entP).filter (notKey (nmL a)) = (delP l a).map entP := by
  unfold delP
  induction l with
  | nil => rfl
  | cons y t ih =>
    have ih' := ih (fun x hx => h3 x (List.mem_cons_of_mem _ hx))
    have e : notKey (nmL a) (entP y) = !decide (nmH y.h = a) := by
      unfold notKey entP
      by_cases q : nmH y.h = a
      · subst q
        rw [WideAt.sameKey_self (isKeyN _)]
        simp
      · have : (nmL (nmH y.h)).sameKey (nmL a) = false := sameKey_ne (fun e => q (nmL_inj (h3 y (by simp)) wa e))
        rw [this]
        simp [q]
    rw [List.map_cons, List.filter_cons, List.filter_cons, e, ih']
    split <;> simp
/-- 'm[n] = h'. -/
theorem MapH.put (h : MapH w mb l) (hn : l.length < 1000) (x : Hp) (wa : wfN (nmH x.h)) :
    ∃ w', (Instr.mapUpdate 135 (.map (some mb)) (nmV (nmH x.h)) (ptP x)).run Tryz.prog w = .ok () w' ∧ MapH w' mb (putP l x) ∧ w.mapTurned w' mb := by
  obtain ⟨⟨es, o, h2⟩, h3, h4⟩ := h
  obtain ⟨w', hr, o', hg⟩ := o.store (t := 135) lawN Tryz.underlying135 (by unfold maxLen; omega) (keyN wa) (val := ptP x) (d := .lit (.int .i64 (x.p : Int))) (ps := []) rfl
  have hp : (putKey (nmL (nmH x.h)) (.lit (.int .i64 (x.p : Int))) es).Perm ((putP l x).map entP) := by
    unfold putKey putP
    refine (insert_perm _ _).trans ?_
    rw [List.map_cons]
    refine List.Perm.cons _ ?_
    rw [show (l.filter fun y => !decide (nmH y.h = nmH x.h)) = delP l (nmH x.h) from rfl, ← filt_map h3 wa]
    exact h2.filter _
  refine ⟨w', hr, ⟨⟨_, own_tight o' ?_, hp⟩, fun y hy => ?_, ?_⟩, hg⟩
  · show (putKey (nmL (nmH x.h)) (.lit (.int .i64 (x.p : Int))) es).length = _
    rw [hp.length_eq, List.length_map]
  · rcases List.mem_cons.1 hy with rfl | hy
    · exact wa
    · exact h3 y ((List.mem_filter.1 hy).1)
  · refine List.pairwise_cons.2 ⟨fun y hy e => ?_, h4.filter _⟩
    have := (List.mem_filter.1 hy).2
    simp [e] at this
/-- 'delete(m, n)'. -/
theorem MapH.del (h : MapH w mb l) {a : Int × Int} (wa : wfN a) (ty : TypeId) :
    ∃ w', (Builtin.delete_ #[135, 34] ty #[.map (some mb), nmV a]).run Tryz.prog w = .ok (.tuple #[]) w' ∧ MapH w' mb (delP l a) ∧ w.mapTurned w' mb := by
  obtain ⟨⟨es, o, h2⟩, h3, h4⟩ := h
  obtain ⟨w', hr, o', hg⟩ := o.drop (t := 135) lawN Tryz.underlying135 (keyN wa) ty
  have hp : (delKey (nmL a) es).Perm ((delP l a).map entP) := by
    unfold delKey
    rw [← filt_map h3 wa]
    exact h2.filter _
  refine ⟨w', hr, ⟨⟨_, own_tight o' ?_, hp⟩, fun y hy => h3 y ((List.mem_filter.1 hy).1), h4.filter _⟩, hg⟩
  show (delKey (nmL a) es).length = _
  rw [hp.length_eq, List.length_map]
theorem turned_tch (h : w.mapTurned w' mb) : Tch (fun b => b = mb) w w' := by
  have g := h.grown
  exact ⟨g.os, g.tape, g.output, g.size, fun k hk hn => g.block k hk (fun e => hn (Option.some.inj e))⟩
end Go.Proofs.YtpffldfpabglbaaGreatDoor
end

/- Plain facts of buckets: what the calls give, and that what holds of a bucket is kept. Of no program. -/
section
namespace Go.Proofs.YtpffldfpabglbaaGreatDoor
set_option linter.unusedVariables false

/-- The head of a name, or an empty one. -/
def hdB (hs : List Hq) (t r : Int) : Hq := (getH hs (t, r)).getD ⟨t, r, 0, []⟩
def twB (hs : List Hq) (t r txn : Int) : Bool := (hdB hs t r).q.any fun x => x.txn == txn
def fullB (most : Nat) (hs : List Hq) (L : List Bool) (t r : Int) : Prop := (getH hs (t, r) = none ∧ most ≤ hs.length) ∨ L.length ≤ liv L
instance (most : Nat) (hs : List Hq) (L : List Bool) (t r : Int) : Decidable (fullB most hs L t r) := by unfold fullB; infer_instance
def badM (m : Int) : Prop := m = 0 ∨ knI m = false
instance (m : Int) : Decidable (badM m) := by unfold badM; infer_instance
def askH (hs : List Hq) (L : List Bool) (t r txn m : Int) : Hq := ⟨t, r, (askQ (hdB hs t r).W (hdB hs t r).q (fre L) txn m).1, (askQ (hdB hs t r).W (hdB hs t r).q (fre L) txn m).2.1⟩
/-- Ask's error. -/
def askBE (most : Nat) (hs : List Hq) (L : List Bool) (t r txn m : Int) : Int := if badM m then 2 else if twB hs t r txn = true then 4 else if fullB most hs L t r then 8 else 0
def askBR (most : Nat) (hs : List Hq) (L : List Bool) (t r txn m : Int) : Int × Bool × Int := if askBE most hs L t r txn m = 0 then (fre L, (askQ (hdB hs t r).W (hdB hs t r).q (fre L) txn m).2.2, 0) else (0, false, askBE most hs L t r txn m)
def askBS (most : Nat) (hs : List Hq) (L : List Bool) (t r txn m : Int) : List Hq × List Bool := if askBE most hs L t r txn m = 0 then (putH hs (askH hs L t r txn m), tkL L) else (hs, L)
/-- A head behind a call: scanned; gone, if it has no request. -/
def endS (hs : List Hq) (h : Hq) : List Hq := if (scH h).q = [] then delH hs (nmH h) else putH hs (scH h)
def upBE (hs : List Hq) (id m : Int) : Int := if badM m then 2 else match ofId hs id with
  | none => 5
  | some h => (upR h id m).2.2
def upBS (hs : List Hq) (id m : Int) : List Hq := if upBE hs id m = 0 then match ofId hs id with
  | none => hs
  | some h => putH hs (upR h id m).1
  else hs
/-- The request of a number. -/
def rqB (h : Hq) (id : Int) : Rq := (fnd h.q id).getD ⟨0, 0, 0, 0, 0⟩
def abBS (hs : List Hq) (L : List Bool) (id : Int) : List Hq × List Bool := match ofId hs id with
  | none => (hs, L)
  | some h => if 0 < (rqB h id).sn then (endS hs ⟨h.t, h.r, h.W, abQ (rqB h id) h.q⟩, if (rqB h id).md = 0 then gvL L id else L) else (hs, L)
def hnBE (hs : List Hq) (id txn : Int) : Int := match ofId hs id with
  | none => 5
  | some h => (hnR h id txn).2
def hnBS (hs : List Hq) (id txn : Int) : List Hq := if hnBE hs id txn = 0 then match ofId hs id with
  | none => hs
  | some h => putH hs (hnR h id txn).1
  else hs

theorem all_mid (l m : List Hq) (a : Hq) : (allIds (l ++ a :: m)).Perm (idsQ a.q ++ (allIds l ++ allIds m)) := by
  rw [allIds_app, allIds_cons, ← List.append_assoc, ← List.append_assoc]
  exact List.perm_append_comm.append_right _
theorem binv_put {most k k' : Nat} {hs : List Hq} {X : List Int} {L L' : List Bool} (b : BInv most k hs X L) {a x : Hq} (ha : a ∈ hs) (e : nmH x = nmH a) (hi : HInv x) (hn : x.q ≠ []) (hk : k ≤ k') (hw : x.W ≤ k') (hl : x.q.length ≤ k')
    (hp : ∀ rest, (idsQ a.q ++ rest).Perm (castL (lnt L)) → (idsQ x.q ++ rest).Perm (castL (lnt L'))) : BInv most k' (putH hs x) X L' := by
  obtain ⟨l, m, rfl, e2, s⟩ := put_at b.srt ha e
  rw [e2]
  have old : ∀ y ∈ l ++ x :: m, y = x ∨ y ∈ l ++ a :: m := fun y hy => by
    rcases List.mem_append.1 hy with q | q
    · exact .inr (List.mem_append_left _ q)
    · rcases List.mem_cons.1 q with q | q
      · exact .inl q
      · exact .inr (List.mem_append_right _ (List.mem_cons_of_mem _ q))
  refine ⟨s, by have := b.len; simp at this ⊢; omega, fun y hy => ?_, fun y hy => ?_, ?_, fun y hy => ?_, fun y hy => ?_⟩
  · rcases old y hy with rfl | q
    · exact hi
    · exact b.inv y q
  · rcases old y hy with rfl | q
    · exact hn
    · exact b.ne y q
  · have q := b.ids
    have e1 := ((all_mid l m a).append_right X)
    have e2 := ((all_mid l m x).append_right X)
    rw [List.append_assoc] at e1 e2
    exact e2.trans (hp _ (e1.symm.trans q))
  · rcases old y hy with rfl | q
    · exact hw
    · have := b.wt y q; omega
  · rcases old y hy with rfl | q
    · exact hl
    · have := b.ql y q; omega
theorem binv_del {most k k' : Nat} {hs : List Hq} {X : List Int} {L L' : List Bool} (b : BInv most k hs X L) {a : Hq} (ha : a ∈ hs) (hk : k ≤ k') (hp : ∀ rest, (idsQ a.q ++ rest).Perm (castL (lnt L)) → rest.Perm (castL (lnt L'))) : BInv most k' (delH hs (nmH a)) X L' := by
  obtain ⟨l, m, rfl, e2, s⟩ := del_at b.srt ha
  rw [e2]
  have old : ∀ y ∈ l ++ m, y ∈ l ++ a :: m := fun y hy => by
    rcases List.mem_append.1 hy with q | q
    · exact List.mem_append_left _ q
    · exact List.mem_append_right _ (List.mem_cons_of_mem _ q)
  refine ⟨s, by have := b.len; simp at this ⊢; omega, fun y hy => b.inv y (old y hy), fun y hy => b.ne y (old y hy), ?_, fun y hy => by have := b.wt y (old y hy); omega, fun y hy => by have := b.ql y (old y hy); omega⟩
  rw [allIds_app]
  have e1 := ((all_mid l m a).append_right X)
  rw [List.append_assoc] at e1
  exact hp _ (e1.symm.trans b.ids)
theorem binv_new {most k k' : Nat} {hs : List Hq} {X : List Int} {L L' : List Bool} (b : BInv most k hs X L) {x : Hq} (hno : ∀ a ∈ hs, nmH a ≠ nmH x) (hlt : hs.length < most) (hi : HInv x) (hn : x.q ≠ []) (hk : k ≤ k') (hw : x.W ≤ k') (hl : x.q.length ≤ k')
    (hp : ∀ rest, rest.Perm (castL (lnt L)) → (idsQ x.q ++ rest).Perm (castL (lnt L'))) : BInv most k' (putH hs x) X L' := by
  obtain ⟨l, m, rfl, e2, s⟩ := put_no b.srt hno
  rw [e2]
  have old : ∀ y ∈ l ++ x :: m, y = x ∨ y ∈ l ++ m := fun y hy => by
    rcases List.mem_append.1 hy with q | q
    · exact .inr (List.mem_append_left _ q)
    · rcases List.mem_cons.1 q with q | q
      · exact .inl q
      · exact .inr (List.mem_append_right _ q)
  refine ⟨s, by simp at hlt ⊢; omega, fun y hy => ?_, fun y hy => ?_, ?_, fun y hy => ?_, fun y hy => ?_⟩
  · rcases old y hy with rfl | q
    · exact hi
    · exact b.inv y q
  · rcases old y hy with rfl | q
    · exact hn
    · exact b.ne y q
  · have q := b.ids
    rw [allIds_app] at q
    have e2 := ((all_mid l m x).append_right X)
    rw [List.append_assoc] at e2
    exact e2.trans (hp _ q)
  · rcases old y hy with rfl | q
    · exact hw
    · have := b.wt y q; omega
  · rcases old y hy with rfl | q
    · exact hl
    · have := b.ql y q; omega
theorem fre_has (L : List Bool) : hsL L (fre L) = false := by
  by_cases h : fre L < L.length
  · rw [show hsL L (fre L) = L[fre L] by simp [hsL, h]]
    exact fre_free L h
  · simp [hsL, List.getElem?_eq_none (show L.length ≤ fre L by omega)]
theorem hd_name (hs : List Hq) (t r : Int) : nmH (hdB hs t r) = (t, r) := by
  unfold hdB
  cases e : getH hs (t, r) with
  | none => rfl
  | some h => exact (get_some e).2
theorem BInv.hd {most k : Nat} {hs : List Hq} {X : List Int} {L : List Bool} (b : BInv most k hs X L) (t r : Int) : HInv (hdB hs t r) ∧ (hdB hs t r).W ≤ k ∧ (hdB hs t r).q.length ≤ k ∧ (∀ x ∈ (hdB hs t r).q, x.id ∈ allIds hs) := by
  unfold hdB
  cases e : getH hs (t, r) with
  | none => exact ⟨inv_nil t r, by show (0 : Int) ≤ (k : Int); omega, Nat.zero_le _, fun x hx => by cases hx⟩
  | some h =>
    have hm := (get_some e).1
    exact ⟨b.inv h hm, b.wt h hm, b.ql h hm, fun x hx => List.mem_flatMap.2 ⟨h, hm, List.mem_map.2 ⟨x, hx, rfl⟩⟩⟩
/-- What Ask does when it can. -/
theorem ask_can {most k : Nat} {hs : List Hq} {X : List Int} {L : List Bool} (b : BInv most k hs X L) {t r txn m : Int} (he : askBE most hs L t r txn m = 0) : askE (hdB hs t r).q (fre L) txn m = 0 ∧ fre L < L.length ∧ (getH hs (t, r) = none → hs.length < most) := by
  unfold askBE at he
  by_cases h1 : badM m
  · rw [if_pos h1] at he; cases he
  · rw [if_neg h1] at he
    by_cases h2 : twB hs t r txn = true
    · rw [if_pos h2] at he; cases he
    · rw [if_neg h2] at he
      by_cases h3 : fullB most hs L t r
      · rw [if_pos h3] at he; cases he
      · unfold fullB at h3
        have h5 : liv L < L.length := Nat.lt_of_not_le fun q => h3 (.inr q)
        refine ⟨?_, ?_, fun e => Nat.lt_of_not_le fun q => h3 (.inl ⟨e, q⟩)⟩
        · unfold askE
          rw [if_neg, if_neg]
          · intro ha
            rw [List.any_eq_true] at ha
            obtain ⟨x, hx, e⟩ := ha
            rw [Bool.or_eq_true] at e
            rcases e with e | e
            · have h6 := (b.hd t r).2.2.2 x hx
              have h7 := b.mem h6
              rw [show x.id = (fre L : Int) by simpa using e, fre_has] at h7
              cases h7
            · apply h2
              unfold twB
              rw [List.any_eq_true]
              exact ⟨x, hx, e⟩
          · rintro (q | q | q)
            · omega
            · exact h1 (.inl q)
            · exact h1 (.inr q)
        · have := fre_liv L
          omega
theorem ask_ne (W : Int) (q : List Rq) (id txn m : Int) : (askQ W q id txn m).2.1 ≠ [] := by
  intro e
  have := (askQ_W W q id txn m).2.2
  rw [e] at this
  simp at this
theorem binv_ask {most k : Nat} {hs : List Hq} {X : List Int} {L : List Bool} (b : BInv most k hs X L) (hk : k ≤ 1000) (t r txn m : Int) : BInv most (k + 1) (askBS most hs L t r txn m).1 X (askBS most hs L t r txn m).2 := by
  unfold askBS
  by_cases he : askBE most hs L t r txn m = 0
  · rw [if_pos he]
    obtain ⟨h1, h2, h3⟩ := ask_can b he
    obtain ⟨d1, d2, d3, _⟩ := b.hd t r
    obtain ⟨w1, w2, w3⟩ := askQ_W (hdB hs t r).W (hdB hs t r).q (fre L) txn m
    have hB : (hdB hs t r).W + 1 ≤ 4611686018427387904 := by omega
    have hi : HInv (askH hs L t r txn m) := ⟨ok_ask d1.ok _ _ _ h1 hB, done_ask d1.ok d1.done _ _ _ h1⟩
    have hids : ∀ rest, (idsQ (hdB hs t r).q ++ rest).Perm (castL (lnt L)) → (idsQ (askH hs L t r txn m).q ++ rest).Perm (castL (lnt (tkL L))) := fun rest q => by
      show (idsQ (askQ (hdB hs t r).W (hdB hs t r).q (fre L) txn m).2.1 ++ rest).Perm _
      rw [ids_ask, List.append_assoc]
      exact (List.perm_middle).trans ((q.cons _).trans (lnt_take h2).symm)
    have c1 : (askH hs L t r txn m).W ≤ ((k + 1 : Nat) : Int) := by show (askQ _ _ _ _ _).1 ≤ _; omega
    have c2 : (askH hs L t r txn m).q.length ≤ k + 1 := by show (askQ _ _ _ _ _).2.1.length ≤ _; omega
    cases e : getH hs (t, r) with
    | none =>
      have eh : hdB hs t r = ⟨t, r, 0, []⟩ := by unfold hdB; rw [e]; rfl
      refine binv_new b (x := askH hs L t r txn m) (get_none e) (h3 e) hi (ask_ne _ _ _ _ _) (Nat.le_succ _) c1 c2 fun rest q => hids rest ?_
      rw [eh]
      exact q
    | some h =>
      have eh : hdB hs t r = h := by unfold hdB; rw [e]; rfl
      obtain ⟨g1, g2⟩ := get_some e
      exact binv_put b g1 (show nmH (askH hs L t r txn m) = nmH h from g2.symm) hi (ask_ne _ _ _ _ _) (Nat.le_succ _) c1 c2 (by rw [eh] at hids; exact hids)
  · rw [if_neg he]
    exact b.more (Nat.le_succ _)
end Go.Proofs.YtpffldfpabglbaaGreatDoor
end

/- Plain facts of buckets: upgrades, leaves, abandons, hand-overs keep what holds. Of no program. -/
section
namespace Go.Proofs.YtpffldfpabglbaaGreatDoor
set_option linter.unusedVariables false

theorem badM_no {m : Int} (h : ¬ badM m) : knI m = true := by
  cases e : knI m with
  | true => rfl
  | false => exact absurd (.inr e) h
theorem rqB_of {h : Hq} {id : Int} {r : Rq} (e : fnd h.q id = some r) : rqB h id = r := by unfold rqB; rw [e]; rfl
/-- A head behind a call. -/
theorem binv_end {most k k' : Nat} {hs : List Hq} {X : List Int} {L L' : List Bool} (b : BInv most k hs X L) {a : Hq} (ha : a ∈ hs) {W : Int} {q : List Rq} (ok : Ok W q) (hk : k ≤ k') (hw : W ≤ k') (hl : q.length ≤ k')
    (hp : ∀ rest, (idsQ a.q ++ rest).Perm (castL (lnt L)) → (idsQ q ++ rest).Perm (castL (lnt L'))) : BInv most k' (endS hs ⟨a.t, a.r, W, q⟩) X L' := by
  have hids : idsQ (scH ⟨a.t, a.r, W, q⟩).q = idsQ q := ids_scan ok
  unfold endS
  by_cases e : (scH ⟨a.t, a.r, W, q⟩).q = []
  · rw [if_pos e]
    rw [e] at hids
    refine binv_del (a := a) b ha hk fun rest p => ?_
    have := hp rest p
    rw [← hids] at this
    exact this
  · rw [if_neg e]
    refine binv_put b ha rfl (scH_inv _ ok) e hk hw ?_ fun rest p => by rw [hids]; exact hp rest p
    show (scanQ q).2.length ≤ k'
    rw [scan_len ok]; exact hl
theorem up_is {h : Hq} {id m : Int} (h0 : Ok h.W h.q) (he : (upR h id m).2.2 = 0) : ∃ r, r ∈ h.q ∧ r.id = id ∧ fnd h.q id = some r ∧ r.sn = 0 ∧ knI m = true ∧ m ≠ 0 ∧ upR h id m = (⟨h.t, h.r, (upQ h.W h.q r m).1, (upQ h.W h.q r m).2.1⟩, (upQ h.W h.q r m).2.2, 0) := by
  unfold upR at he ⊢
  split at he
  · cases he
  · rename_i hm
    rw [if_neg hm]
    split at he
    · cases he
    · rename_i r hr
      split at he
      · cases he
      · rename_i hs
        have hf := fndI hr
        refine ⟨r, hf.1, hf.2, hr, by have := (h0.rt r hf.1).s0; omega, badM_no hm, fun e => hm (.inl e), ?_⟩
        simp only [if_neg hs]
theorem binv_up {most k : Nat} {hs : List Hq} {X : List Int} {L : List Bool} (b : BInv most k hs X L) (hk : k ≤ 1000) (id m : Int) : BInv most (k + 1) (upBS hs id m) X L := by
  unfold upBS
  by_cases he : upBE hs id m = 0
  · rw [if_pos he]
    unfold upBE at he
    split at he
    · cases he
    · cases e : ofId hs id with
      | none => rw [e] at he; cases he
      | some h =>
        rw [e] at he
        obtain ⟨g1, _⟩ := of_some e
        have hi := b.inv h g1
        obtain ⟨r, r1, r2, r3, r4, r5, r6, r7⟩ := up_is hi.ok he
        have hw := b.wt h g1
        have hl := b.ql h g1
        obtain ⟨w1, w2, w3⟩ := upQ_W h.W h.q r m
        show BInv most (k + 1) (putH hs (upR h id m).1) X L
        rw [r7]
        refine binv_put b g1 rfl ⟨ok_up hi.ok r r1 m r4 r5 (by omega), done_upg hi.ok hi.done r r1 m r4 r5⟩ (fun q => ?_) (Nat.le_succ _) (by show (upQ _ _ _ _).1 ≤ _; omega) (by show (upQ _ _ _ _).2.1.length ≤ _; omega) fun rest p => ?_
        · have q' : (upQ h.W h.q r m).2.1 = [] := q
          rw [q'] at w3
          have := List.length_pos_of_mem r1
          simp at w3
          omega
        · show (idsQ (upQ h.W h.q r m).2.1 ++ rest).Perm _
          rw [ids_up]
          exact p
  · rw [if_neg he]
    exact b.more (Nat.le_succ _)
theorem BInv.lent {most k : Nat} {hs : List Hq} {X : List Int} {L : List Bool} (b : BInv most k hs X L) {h : Hq} (hh : h ∈ hs) {r : Rq} (hr : r ∈ h.q) : ∃ i : Nat, r.id = i ∧ ∃ hi : i < L.length, L[i] = true := by
  have h1 : r.id ∈ allIds hs := List.mem_flatMap.2 ⟨h, hh, List.mem_map.2 ⟨r, hr, rfl⟩⟩
  replace h1 := b.mem h1
  unfold hsL at h1
  simp only [Bool.and_eq_true, decide_eq_true_eq] at h1
  obtain ⟨i, hi⟩ := Int.eq_ofNat_of_zero_le h1.1
  rw [hi] at h1
  exact ⟨i, hi, getD_lt (by simpa using h1.2)⟩
/-- A number that is given back with its request. -/
theorem give_ids {L : List Bool} {i : Nat} (hi : i < L.length) (e : L[i] = true) {a q : List Int} (hp : ((i : Int) :: q).Perm a) : ∀ rest, (a ++ rest).Perm (castL (lnt L)) → (q ++ rest).Perm (castL (lnt (gvL L (i : Int)))) := fun rest p => by
  rw [gvL_nat L i (by rw [getD_at hi]; exact e)]
  have h1 : ((i : Int) :: (q ++ rest)).Perm ((i : Int) :: castL (lnt (L.set i false))) := by
    rw [← List.cons_append]
    exact ((hp.append_right rest).trans p).trans (lnt_give hi e).symm
  exact h1.cons_inv
theorem binv_ab {most k : Nat} {hs : List Hq} {X : List Int} {L : List Bool} (b : BInv most k hs X L) (id : Int) : BInv most (k + 1) (abBS hs L id).1 X (abBS hs L id).2 := by
  unfold abBS
  cases e : ofId hs id with
  | none => exact b.more (Nat.le_succ _)
  | some h =>
    obtain ⟨g1, r, hr⟩ := of_some e
    have er := rqB_of hr
    obtain ⟨r1, rfl⟩ := fndI hr
    simp only [er]
    by_cases hs0 : 0 < r.sn
    · simp only [if_pos hs0]
      have hi := b.inv h g1
      obtain ⟨i, hid, hlt, hL⟩ := b.lent g1 r1
      have hw := b.wt h g1
      have hl := b.ql h g1
      have hlq := abQ_len r h.q
      obtain ⟨i1, i2⟩ := ids_ab hi.ok r1
      by_cases hm : r.md = 0
      · rw [if_pos hm]
        have := i1 hm
        rw [hid] at this ⊢
        exact binv_end b g1 (ok_ab hi.ok r r1) (Nat.le_succ _) (by omega) (by omega) (give_ids hlt hL this)
      · rw [if_neg hm]
        exact binv_end b g1 (ok_ab hi.ok r r1) (Nat.le_succ _) (by omega) (by omega) fun rest p => by rw [i2 hm]; exact p
    · simp only [if_neg hs0]
      exact b.more (Nat.le_succ _)
theorem hn_is {h : Hq} {id txn : Int} (h0 : Ok h.W h.q) (he : (hnR h id txn).2 = 0) : ∃ r, r ∈ h.q ∧ r.id = id ∧ fnd h.q id = some r ∧ r.sn = 0 ∧ (∀ o ∈ h.q, o.id ≠ r.id → o.txn ≠ txn) ∧ hnR h id txn = (⟨h.t, h.r, h.W, chg (hnF txn) r.id h.q⟩, 0) := by
  unfold hnR at he ⊢
  cases hr : fnd h.q id with
  | none => rw [hr] at he; cases he
  | some r =>
    rw [hr] at he
    simp only at he ⊢
    split at he
    · cases he
    · rename_i ha
      rw [if_neg ha]
      split at he
      · cases he
      · rename_i hs
        rw [if_neg hs]
        obtain ⟨r1, rfl⟩ := fndI hr
        refine ⟨r, r1, rfl, rfl, by have := (h0.rt r r1).s0; omega, fun o ho ne e2 => ha ?_, rfl⟩
        rw [List.any_eq_true]
        exact ⟨o, ho, by simp [ne, e2]⟩
theorem binv_hn {most k : Nat} {hs : List Hq} {X : List Int} {L : List Bool} (b : BInv most k hs X L) (id txn : Int) : BInv most (k + 1) (hnBS hs id txn) X L := by
  unfold hnBS
  by_cases he : hnBE hs id txn = 0
  · rw [if_pos he]
    unfold hnBE at he
    cases e : ofId hs id with
    | none => rw [e] at he; cases he
    | some h =>
      rw [e] at he
      obtain ⟨g1, _⟩ := of_some e
      have hi := b.inv h g1
      obtain ⟨r, r1, r2, r3, r4, r5, r6⟩ := hn_is hi.ok he
      have hw := b.wt h g1
      have hl := b.ql h g1
      show BInv most (k + 1) (putH hs (hnR h id txn).1) X L
      rw [r6]
      refine binv_put b g1 rfl ⟨ok_hn hi.ok r r1 txn r5, done_hn hi.done _ _⟩ (fun q => ?_) (Nat.le_succ _) (by show h.W ≤ _; omega) (by show (chg _ _ _).length ≤ _; rw [chg_len]; omega) fun rest p => ?_
      · have q' : chg (hnF txn) r.id h.q = [] := q
        have c1 := congrArg List.length q'
        rw [chg_len, List.length_nil] at c1
        have := List.length_pos_of_mem r1
        omega
      · show (idsQ (chg (hnF txn) r.id h.q) ++ rest).Perm _
        rw [ids_chg (hnF txn) r.id h.q (fun _ => rfl)]
        exact p
  · rw [if_neg he]
    exact b.more (Nat.le_succ _)
end Go.Proofs.YtpffldfpabglbaaGreatDoor
end

/- Plain facts of buckets: what lookups tell behind calls; what a rejected call, a lock handed there and back leave. Of no program. -/
section
namespace Go.Proofs.YtpffldfpabglbaaGreatDoor
set_option linter.unusedVariables false

theorem liv_tk {L : List Bool} (h : fre L < L.length) : liv (tkL L) = liv L + 1 := by
  have a := liv_set L (fre L) h true
  rw [fre_free L h] at a
  simp at a
  unfold tkL
  rw [if_pos h]
  omega
theorem ask_rej {most : Nat} {hs : List Hq} {L : List Bool} {t r txn m : Int} (he : askBE most hs L t r txn m ≠ 0) : askBS most hs L t r txn m = (hs, L) ∧ askBR most hs L t r txn m = (0, false, askBE most hs L t r txn m) ∧ (askBE most hs L t r txn m = 2 ∨ askBE most hs L t r txn m = 4 ∨ askBE most hs L t r txn m = 8) := by
  refine ⟨by unfold askBS; rw [if_neg he], by unfold askBR; rw [if_neg he], ?_⟩
  unfold askBE at he ⊢
  split
  · exact .inl rfl
  · split
    · exact .inr (.inl rfl)
    · split
      · exact .inr (.inr rfl)
      · rename_i h1 h2 h3
        rw [if_neg h1, if_neg h2, if_neg h3] at he
        exact absurd rfl he
theorem BInv.empty {most k : Nat} {hs : List Hq} {L : List Bool} (b : BInv most k hs [] L) : liv L = 0 ↔ hs = [] := by
  have hc := b.count
  cases hs with
  | nil => simp at hc; simp [← hc]
  | cons a l =>
    have := List.length_pos_iff.2 (b.ne a (by simp))
    simp at hc
    constructor
    · intro e; omega
    · intro e; cases e
/-! ### Handed there and back -/
end Go.Proofs.YtpffldfpabglbaaGreatDoor
end

/- The developers' bucket, its plain side: heads with their places, sorted. -/
section
namespace Go.Proofs.YtpffldfpabglbaaGreatDoor
set_option linter.unusedVariables false

abbrev hsP (l : List Hp) : List Hq := l.map Hp.h
abbrev SrtP (l : List Hp) : Prop := l.Pairwise fun a b => nlt (nmH a.h) (nmH b.h)
theorem SrtP.hs {l : List Hp} (h : SrtP l) : SrtH (hsP l) := List.pairwise_map.2 h
theorem SrtP.ne {l : List Hp} (h : SrtP l) : l.Pairwise fun x y => nmH x.h ≠ nmH y.h := List.Pairwise.imp (fun {a b : Hp} (q : nlt (nmH a.h) (nmH b.h)) e => by rw [e] at q; exact nlt_irr _ q) h
theorem getH_map (l : List Hp) (a : Int × Int) : getH (hsP l) a = (getP l a).map Hp.h := by
  unfold getH getP
  rw [List.find?_map]
  rfl
theorem delH_map (l : List Hp) (a : Int × Int) : delH (hsP l) a = hsP (delP l a) := by
  unfold delH delP hsP
  rw [List.filter_map]
  rfl
def insP : List Hp → Hp → List Hp
  | [], h => [h]
  | a :: l, h => if nlt (nmH a.h) (nmH h.h) then a :: insP l h else if nmH a.h = nmH h.h then h :: l else h :: a :: l
theorem ins_map (l : List Hp) (x : Hp) : hsP (insP l x) = putH (hsP l) x.h := by
  induction l with
  | nil => rfl
  | cons a t ih =>
    unfold insP
    show _ = putH (a.h :: hsP t) x.h
    unfold putH
    split
    · rw [← ih]; rfl
    · split
      · rfl
      · rfl
theorem ins_perm {l : List Hp} (h : SrtP l) (x : Hp) : (putP l x).Perm (insP l x) := by
  induction l with
  | nil => exact List.Perm.refl _
  | cons a t ih =>
    obtain ⟨h1, h2⟩ := List.pairwise_cons.1 h
    unfold insP putP
    by_cases c1 : nlt (nmH a.h) (nmH x.h)
    · rw [if_pos c1, List.filter_cons_of_pos (by simp; intro e; rw [e] at c1; exact nlt_irr _ c1)]
      exact (List.Perm.swap _ _ _).trans ((ih h2).cons _)
    · rw [if_neg c1]
      by_cases c2 : nmH a.h = nmH x.h
      · rw [if_pos c2, List.filter_cons_of_neg (by simp [c2]), List.filter_eq_self.2 (fun y hy => ?_)]
        have := h1 y hy
        simp only [Bool.not_eq_true', decide_eq_false_iff_not]
        intro e
        rw [← c2] at e
        rw [e] at this
        exact nlt_irr _ this
      · rw [if_neg c2, List.filter_eq_self.2 (fun y hy => ?_)]
        simp only [Bool.not_eq_true', decide_eq_false_iff_not]
        have hx : nlt (nmH x.h) (nmH a.h) := by
          rcases nlt_tot (nmH a.h) (nmH x.h) with q | q | q
          · exact absurd q c1
          · exact absurd q c2
          · exact q
        intro e
        rcases List.mem_cons.1 hy with rfl | hy
        · exact c2 e
        · have := nlt_tr hx (h1 y hy)
          rw [e] at this
          exact nlt_irr _ this
theorem ins_srt {l : List Hp} (h : SrtP l) (x : Hp) : SrtP (insP l x) := by
  induction l with
  | nil => simp [insP, SrtP]
  | cons a t ih =>
    obtain ⟨h1, h2⟩ := List.pairwise_cons.1 h
    unfold insP
    by_cases c1 : nlt (nmH a.h) (nmH x.h)
    · rw [if_pos c1]
      refine List.pairwise_cons.2 ⟨fun y hy => ?_, ih h2⟩
      have := (ins_perm h2 x).mem_iff.2 hy
      rcases List.mem_cons.1 this with rfl | q
      · exact c1
      · exact h1 y ((List.mem_filter.1 q).1)
    · rw [if_neg c1]
      by_cases c2 : nmH a.h = nmH x.h
      · rw [if_pos c2]
        exact List.pairwise_cons.2 ⟨fun y hy => by rw [← c2]; exact h1 y hy, h2⟩
      · rw [if_neg c2]
        have hx : nlt (nmH x.h) (nmH a.h) := by
          rcases nlt_tot (nmH a.h) (nmH x.h) with q | q | q
          · exact absurd q c1
          · exact absurd q c2
          · exact q
        refine List.pairwise_cons.2 ⟨fun y hy => ?_, h⟩
        rcases List.mem_cons.1 hy with rfl | hy
        · exact hx
        · exact nlt_tr hx (h1 y hy)
theorem del_srt {l : List Hp} (h : SrtP l) (a : Int × Int) : SrtP (delP l a) := h.filter _
theorem ins_mem {l : List Hp} (h : SrtP l) {x y : Hp} (hy : y ∈ insP l x) : y = x ∨ y ∈ l := by
  have := (ins_perm h x).mem_iff.2 hy
  rcases List.mem_cons.1 this with q | q
  · exact .inl q
  · exact .inr ((List.mem_filter.1 q).1)
theorem nodup_sub_len {α : Type} [DecidableEq α] : ∀ {l m : List α}, l.Nodup → (∀ x ∈ l, x ∈ m) → l.length ≤ m.length
  | [], m, _, _ => Nat.zero_le _
  | a :: t, m, h, hs => by
    obtain ⟨h1, h2⟩ := List.nodup_cons.1 h
    have ha := hs a (by simp)
    have := nodup_sub_len (l := t) (m := m.erase a) h2 (fun x hx => by
      have hx' := hs x (by simp [hx])
      exact (List.mem_erase_of_ne (fun e : x = a => h1 (by rw [← e]; exact hx))).2 hx')
    rw [List.length_erase_of_mem ha] at this
    have hp : 0 < m.length := List.length_pos_of_mem ha
    simp only [List.length_cons]
    omega
end Go.Proofs.YtpffldfpabglbaaGreatDoor
end

/- maps.Keys over a bucket's map, its iterator: each name once, in some order. -/
section
namespace Go.Proofs.YtpffldfpabglbaaGreatDoor
open Go.RowKit Go.Shelf Go.Maps
set_option linter.unusedVariables false      -- a contract need not use every name
attribute [local go_sem] Oper.semAt_some

/-- The names that have come. -/
def ColN (D0 : DataW Unit) (left : Lit → Bool) (ss : List (Int × Int)) : Prop := ss.Nodup ∧ (∀ a ∈ ss, wfN a) ∧ ∀ a, wfN a → (a ∈ ss ↔ (Maps.has D0 (nmL a) = true ∧ left (nmL a) = false))
theorem ColN.start (D0 : DataW Unit) : ColN D0 (Maps.has D0) [] := ⟨List.nodup_nil, by simp, fun x _ => by cases Maps.has D0 (nmL x) <;> simp⟩
theorem ColN.step {D0 : DataW Unit} {left : Lit → Bool} {ss : List (Int × Int)} (h : ColN D0 left ss) {x : Int × Int} (wx : wfN x) {y : DataW Unit} (hlk : left (nmL x) = true) (hat : ∀ zd, D0.atKey (nmL x) zd = y) : ColN D0 (fun z => left z && !z.sameKey (nmL x)) (ss ++ [x]) := by
  have hhas : Maps.has D0 (nmL x) = true := has_true_of_atKey hat
  have hnew : x ∉ ss := fun hx => by have := ((h.2.2 x wx).1 hx).2; rw [hlk] at this; cases this
  refine ⟨List.nodup_append.2 ⟨h.1, by simp, fun a ha b hb => by simp at hb; subst hb; exact fun e => hnew (e ▸ ha)⟩, fun a ha => ?_, fun y hy => ?_⟩
  · rcases List.mem_append.1 ha with q | q
    · exact h.2.1 a q
    · simp at q; subst q; exact wx
  · by_cases e : y = x
    · subst e
      simp [hhas, WideAt.sameKey_self (isKeyN y)]
    · have : (nmL y).sameKey (nmL x) = false := sameKey_ne (fun q => e (nmL_inj hy wx q))
      simp [h.2.2 y hy, e, this]
def nmsP (l : List Hp) : List (Int × Int) := l.map fun x => nmH x.h
theorem getP_isSome {l : List Hp} {a : Int × Int} : (getP l a).isSome = true ↔ a ∈ nmsP l := by
  constructor
  · intro h
    obtain ⟨x, hx⟩ := Option.isSome_iff_exists.1 h
    obtain ⟨h1, rfl⟩ := getP_some hx
    exact List.mem_map.2 ⟨x, h1, rfl⟩
  · intro h
    obtain ⟨x, hx, rfl⟩ := List.mem_map.1 h
    cases e : getP l (nmH x.h) with
    | none => exact absurd rfl (getP_none e x hx)
    | some y => rfl
theorem ColN.sub {l : List Hp} {es : List (Lit × DataW Unit)} {left : Lit → Bool} {ss : List (Int × Int)} (h : ColN (DataW.map es) left ss) (h3 : ∀ x ∈ l, wfN (nmH x.h)) (h2 : es.Perm (l.map entP)) : ∀ a ∈ ss, a ∈ nmsP l := fun a ha => by
  have wa := h.2.1 a ha
  have := ((h.2.2 a wa).1 ha).1
  rw [MapH.has_iff h3 h2 wa] at this
  exact getP_isSome.1 this
theorem nms_nodup {l : List Hp} (h : l.Pairwise fun x y => nmH x.h ≠ nmH y.h) : (nmsP l).Nodup := List.pairwise_map.2 h
theorem ColN.perm {l : List Hp} {es : List (Lit × DataW Unit)} {left : Lit → Bool} {ss : List (Int × Int)} (h : ColN (DataW.map es) left ss) (h3 : ∀ x ∈ l, wfN (nmH x.h)) (h4 : l.Pairwise fun x y => nmH x.h ≠ nmH y.h) (h2 : es.Perm (l.map entP)) (hl : ∀ kl, left kl = false) : ss.Perm (nmsP l) := by
  refine (List.perm_ext_iff_of_nodup h.1 (nms_nodup h4)).2 fun a => ⟨h.sub h3 h2 a, fun ha => ?_⟩
  obtain ⟨x, hx, rfl⟩ := List.mem_map.1 ha
  refine (h.2.2 _ (h3 x hx)).2 ⟨?_, hl _⟩
  rw [MapH.has_iff h3 h2 (h3 x hx)]
  exact getP_isSome.2 ha

theorem keys_any (mb : Nat) (w : World) : Calls Tryz.prog 187 #[.map (some mb)] w fun e w' => e = .returned (.func (.func 220) #[] #[.pointer (some ⟨w.heap.size, 0, none⟩)]) ∧ w' = w.alloc (.cells #[.map (some mb)] 135) := by
  go_enter Tryz.func187, Tryz.ntmps187
  go_wp2
  go_ret
  exact ⟨rfl, rfl⟩
theorem e_keys1 : ∀ args w, (callFunc 220 args).run Tryz.prog w = .ok (.enter 220 args) w := enters_of Tryz.func220 (by kernel_rfl) rfl

theorem ranges_same {H : Type} {P : Program} {k : TypeId} {R : Value → Option (DataW H × List MemPlace)} {w w' : World} {b r n : Nat} {D : DataW H} {left : Lit → Bool} {cnt : Nat} (h : w.ranges P k R b r n D left cnt) (h1 : w'.heap[b]? = w.heap[b]?) (h2 : w'.heap[r]? = w.heap[r]?) : w'.ranges P k R b r n D left cnt := by
  obtain ⟨es, clock, since, seen, c0, hb, F, hs, hD, hr, rest⟩ := h
  exact ⟨es, clock, since, seen, c0, h1.trans hb, F, hs, hD, h2.trans hr, rest⟩
set_option maxRecDepth 100000 in
set_option maxHeartbeats 4000000 in
theorem keys1_in (n : Nat) (hn : 3 ≤ n) (pc mb : Nat) (l : List Hp) (w : World) (hpc : w.cell? ⟨pc, 0, none⟩ = some (.map (some mb))) (hm : MapH w mb l) :
    SeqB Fence.wide n Tryz.prog 220 #[] #[.pointer (some ⟨pc, 0, none⟩)] nmV (fun pre => pre.Nodup ∧ ∀ a ∈ pre, a ∈ nmsP l) (fun ss => ss.Perm (nmsP l)) (fun k => k = mb) w := by
  intro L J Jx W hW hJ hJx hY h0
  have h1 : 1 ≤ n := by omega
  have hcW : W.cell? ⟨pc, 0, none⟩ = some (.map (some mb)) := (hW.cell (World.block_lt_of_cell? _ _ hpc)).trans hpc
  have hmW := hm.nw hW
  obtain ⟨⟨es, hown, hes⟩, hwf, hne⟩ := hmW
  have hmb := hown.lt
  have HY := Lib.hid hY
  have HJ := Lib.hid hJ
  have H0 := Lib.hid h0
  have HE := Lib.hid hes
  have HW := Lib.hid hwf
  have HN := Lib.hid hne
  clear hpc hm hY hJ hJx h0 hes hwf hne hW
  refine callsIn_of_wp Tryz.func220 rfl trivial ?_ rfl
  simp only [Tryz.ntmps220, List.size_toArray, List.length_cons, List.length_nil, Nat.reduceAdd, Nat.reduceSub, Array.replicate_succ, Array.replicate_zero, List.push_toArray, List.append_toArray, List.nil_append, List.cons_append]
  gi_wp2_with (first
    | (gi_at_range; refine wpListIn_range_own _ rfl _ 135 rfl 34 176 lawN Tryz.underlying135 _ mb l.length _ rfl hown ?_; intro w0 hrg0 hg0 hs0)
    | gi_in)
  try go_frame
  gi_loopw [3] (fun _ wr => ∃ (left : Lit → Bool) (cnt : Nat) (ss : List (Int × Int)), wr.ranges Tryz.prog 34 ptrElem mb W.heap.size l.length (.map es) left cnt ∧ ColN (DataW.map es) left ss ∧ Hid (J (fun k => k = mb ∨ k = W.heap.size) ss wr) ∧ W.heap.size < wr.heap.size)
    (fun _ wr => wr.rangeLeft mb W.heap.size)
  case atStart =>
    have hnw : Nw W w0 := ⟨hg0.os, hg0.tape, hg0.output, hg0.size, fun k hk => hg0.block k hk (by simp)⟩
    exact ⟨_, _, [], hrg0, ColN.start _, Lib.hid (HJ.out (fun k => k = mb) _ [] W w0 H0.out (Tch.nw hnw) (fun k e => .inl e) (fun k e => e.elim .inl (fun e => .inr (by omega))) (fun k e => by rcases e with rfl | rfl <;> omega)), by omega⟩
  case round =>
    obtain ⟨left, cnt, ss, hrg, hC, HJs, hsz⟩ := hrel
    gi_wp2_with (first
      | (gi_at_next; refine wpListIn_next_ranges _ rfl _ rfl 34 lawN ptrElem nmV id (fun key kl hk => by obtain ⟨x, hx, _⟩ := nmV_inv hk; exact ⟨x, hx⟩) (fun v _ _ => ⟨v, rfl⟩) mb W.heap.size l.length _ _ _ rfl hrg ?_ ?_)
      | gi_in)
    · -- nothing is left
      intro hc0 hl0
      gi_wp2
      go_end0
      exact ⟨⟨_, rfl⟩, .inl ⟨_, ss, hC.perm HW.out HN.out HE.out hl0, HJs.out⟩⟩
    · -- a name has come
      intro xa xb c kl yd yp w2 cnt2 hkey hlk hv hat hrg2 hlt hg2 hs2 hen
      obtain ⟨x', ex, wx⟩ := nmV_inv hkey
      obtain ⟨x, hx⟩ : ∃ x : Int × Int, (xa, xb) = x := ⟨_, rfl⟩
      obtain rfl : x = x' := by rw [← hx]; exact nmV_inj ex
      rw [hx] at hkey hen
      obtain rfl : nmL x = kl := Option.some.inj ((keyN wx).symm.trans hkey)
      have hC2 := hC.step wx hlk hat
      have hsub := hC2.sub HW.out HE.out
      have hW2 : W.heap.size < w2.heap.size := by omega
      have hmb2 : mb < w2.heap.size := by omega
      have hJ2 : J (fun k => k = mb ∨ k = W.heap.size) ss w2 := HJ.out _ _ ss wr w2 HJs.out
        ⟨hg2.os, hg2.tape, hg2.output, hg2.size, fun k hk hq => hg2.block k hk (fun e => hq ⟨.inr (Option.some.inj e), fun e2 => by have := Option.some.inj e; omega⟩)⟩ (fun k e => e) (fun k e => .inl e) (fun k e => by rcases e with rfl | rfl <;> omega)
      have HJ2 := Lib.hid hJ2
      have hJal : ∀ (o : Obj), J (fun k => k = mb ∨ k = W.heap.size) ss (w2.alloc o) := fun o => HJ.out _ _ ss w2 _ hJ2 (Tch.nw ((Nw.refl w2).alloc o)) (fun k e => e) (fun k e => .inl e) (fun k e => by rw [World.size_alloc]; rcases e with rfl | rfl <;> omega)
      have HJal := Lib.hid hJal
      have HC := Lib.hid hC
      have HC2 := Lib.hid hC2
      have HR2 := Lib.hid hrg2
      have hY2 := fun o => HY.out _ ss x _ (HJal.out o) (fun k e => .inl e) (fun k e => by rw [World.size_alloc]; rcases e with rfl | rfl <;> omega) ⟨hC2.1, hsub⟩
      have HL := Lib.hid hrg.left_eq
      clear hC hC2 hrg2 hs2 hg2 hJ2 hJal hat hv hsub hkey ex
      obtain ⟨x1, x2⟩ := x
      cases hx
      have HYs := Lib.hid (hY2 (.cells #[.int .i64 xa, .int .i64 xb] 34))
      clear hY2
      unfold nmV at hen HYs
      simp only at hen HYs
      obtain ⟨fn, tmps, assign, body, hy, hR⟩ := HYs.out
      gi_wp2
      refine hR.mono ?_
      rintro e W3 (⟨rfl, hJ3, hk3⟩ | ⟨rfl, hJ3, hk3⟩)
      · have HJ3 := Lib.hid hJ3
        clear hJ3 hy hR
        gi_wp2
        have hrg3 := ranges_same (HR2.out.alloc (.cells #[.int .i64 xa, .int .i64 xb] 34)) (hk3.same mb (.inl rfl)) (hk3.same _ (.inr rfl))
        have hz3 := hk3.size
        go_roundw
        case rel => exact ⟨_, cnt2, ss ++ [(xa, xb)], hrg3, HC2.out, HJ3, by rw [World.size_alloc] at hz3; omega⟩
        case measure => rw [hrg3.left_eq, HL.out]; exact hlt
      · have HJ3 := Lib.hid hJ3
        have HP := Lib.hid (show (ss ++ [(xa, xb)]).Nodup ∧ ∀ a ∈ ss ++ [(xa, xb)], a ∈ nmsP l from ⟨HC2.out.1, HC2.out.sub HW.out HE.out⟩)
        clear hJ3 hy hR
        gi_wp2
        refine bodyPost_ret (results_none rfl _ _ _) rfl ?_
        exact ⟨⟨_, rfl⟩, .inr ⟨_, ss ++ [(xa, xb)], HP.out, HJ3.out⟩⟩
end Go.Proofs.YtpffldfpabglbaaGreatDoor
end
