
/- Numbers, heaps of them: plain facts. -/
import Derived.WalkKit
import Derived.Lib.Hide
namespace Go.Proofs.Ytckbjgcelpmffaa

/-- The order of numbers, as a truth. -/
def itlt (a b : Int) : Bool := decide (a < b)
def itle (a b : Int) : Prop := itlt b a = false
theorem itlt_iff (a b : Int) : itlt a b = true ↔ a < b := by unfold itlt; exact decide_eq_true_iff
theorem itle_iff (a b : Int) : itle a b ↔ ¬ b < a := by unfold itle itlt; exact decide_eq_false_iff_not
theorem itle_refl (a : Int) : itle a a := by rw [itle_iff]; omega
theorem itle_trans {a b c : Int} (h : itle a b) (k : itle b c) : itle a c := by rw [itle_iff] at *; omega
theorem itle_of_lt {a b : Int} (h : itlt a b = true) : itle a b := by rw [itle_iff]; rw [itlt_iff] at h; omega
theorem itle_antisymm {a b : Int} (h : itle a b) (k : itle b a) : a = b := by rw [itle_iff] at *; omega

/-! ### Heaps as functions -/
def IHp (f : Nat → Int) (n : Nat) : Prop := ∀ k, 0 < k → k < n → itle (f ((k - 1) / 2)) (f k)
def IEx (f : Nat → Int) (n j : Nat) : Prop := ∀ k, 0 < k → k < n → k ≠ j → (k - 1) / 2 ≠ j → itle (f ((k - 1) / 2)) (f k)
def IGr (f : Nat → Int) (n j : Nat) : Prop := 0 < j → ∀ k, 0 < k → k < n → (k - 1) / 2 = j → itle (f ((j - 1) / 2)) (f k)
def ICh (f : Nat → Int) (n j : Nat) : Prop := ∀ k, 0 < k → k < n → (k - 1) / 2 = j → itle (f j) (f k)
def IPa (f : Nat → Int) (j : Nat) : Prop := 0 < j → itle (f ((j - 1) / 2)) (f j)
def isw (f : Nat → Int) (i j : Nat) : Nat → Int := fun k => if k = i then f j else if k = j then f i else f k
theorem isw_l (f : Nat → Int) (i j : Nat) : isw f i j i = f j := if_pos rfl
theorem isw_r (f : Nat → Int) (i j : Nat) : isw f i j j = f i := by unfold isw; split <;> simp_all
theorem isw_o (f : Nat → Int) {i j k : Nat} (h : k ≠ i) (h' : k ≠ j) : isw f i j k = f k := by unfold isw; rw [if_neg h, if_neg h']

theorem IHp.ex {f : Nat → Int} {n : Nat} (h : IHp f n) (j : Nat) : IEx f n j := fun k h0 h1 _ _ => h k h0 h1
theorem IHp.gr {f : Nat → Int} {n j : Nat} (h : IHp f n) (hj : j < n) : IGr f n j := fun h0 k h1 h2 h3 => by
  have a := h j h0 hj
  have b := h k h1 h2
  rw [h3] at b
  exact itle_trans a b
theorem IHp.of {f : Nat → Int} {n j : Nat} (he : IEx f n j) (hc : ICh f n j) (hp : IPa f j) : IHp f n := fun k h0 h1 => by
  by_cases e : k = j
  · subst e; exact hp h0
  · by_cases e' : (k - 1) / 2 = j
    · rw [e']; exact hc k h0 h1 e'
    · exact he k h0 h1 e e'
theorem IHp.min {f : Nat → Int} {n : Nat} (h : IHp f n) : ∀ k, k < n → itle (f 0) (f k) := by
  intro k
  induction k using Nat.strongRecOn with
  | ind k ih =>
    intro hk
    rcases Nat.eq_zero_or_pos k with rfl | h0
    · exact itle_refl _
    · exact itle_trans (ih ((k - 1) / 2) (by omega) (by omega)) (h k h0 hk)
theorem IHp.sub {f : Nat → Int} {n m : Nat} (h : IHp f n) (hm : m ≤ n) : IHp f m := fun k h0 h1 => h k h0 (by omega)
theorem IHp.congr {f g : Nat → Int} {n : Nat} (h : IHp f n) (e : ∀ k, k < n → g k = f k) : IHp g n := fun k h0 h1 => by
  rw [e k h1, e _ (by omega)]; exact h k h0 h1

theorem iup_step {f : Nat → Int} {n i j : Nat} (hi : (j - 1) / 2 = i) (hj : 0 < j) (hn : j < n) (he : IEx f n j) (hg : IGr f n j) (hc : ICh f n j) (hl : itlt (f j) (f i) = true) :
    IEx (isw f i j) n i ∧ IGr (isw f i j) n i ∧ ICh (isw f i j) n i := by
  have hlt := itle_of_lt hl
  have hij : i ≠ j := by omega
  refine ⟨fun k h0 h1 h2 h3 => ?_, fun hi0 k h0 h1 h2 => ?_, fun k h0 h1 h2 => ?_⟩
  · have hkj : k ≠ j := fun e => h3 (by rw [e]; exact hi)
    rw [isw_o f h2 hkj]
    by_cases e : (k - 1) / 2 = j
    · rw [e, isw_r]
      have := hg hj k h0 h1 e
      rwa [hi] at this
    · rw [isw_o f h3 e]; exact he k h0 h1 hkj e
  · have hpi : (i - 1) / 2 ≠ i := by omega
    have hpj : (i - 1) / 2 ≠ j := by omega
    rw [isw_o f hpi hpj]
    have a := he i hi0 (by omega) hij hpj
    by_cases e : k = j
    · subst e; rw [isw_r]; exact a
    · rw [isw_o f (by omega) e]
      have b := he k h0 h1 e (by omega)
      rw [h2] at b
      exact itle_trans a b
  · rw [isw_l]
    by_cases e : k = j
    · subst e; rw [isw_r]; exact hlt
    · rw [isw_o f (by omega) e]
      have b := he k h0 h1 e (by omega)
      rw [h2] at b
      exact itle_trans hlt b
theorem idown_step {f : Nat → Int} {n i m : Nat} (hm : (m - 1) / 2 = i) (h0m : 0 < m) (he : IEx f n i) (hg : IGr f n i) (hmin : ∀ k, 0 < k → k < n → (k - 1) / 2 = i → itle (f m) (f k)) (hmn : m < n) (hl : itlt (f m) (f i) = true) :
    IEx (isw f i m) n m ∧ IGr (isw f i m) n m ∧ IPa (isw f i m) m := by
  have hlt := itle_of_lt hl
  have him : i ≠ m := by omega
  refine ⟨fun k h0 h1 h2 h3 => ?_, fun _ k h0 h1 h2 => ?_, fun _ => ?_⟩
  · by_cases e : (k - 1) / 2 = i
    · rw [e, isw_l, isw_o f (by omega) h2]; exact hmin k h0 h1 e
    · rw [isw_o f e h3]
      by_cases e' : k = i
      · subst e'; rw [isw_l]; exact hg h0 m h0m hmn hm
      · rw [isw_o f e' h2]; exact he k h0 h1 e' e
  · rw [hm, isw_l, isw_o f (by omega) (by omega)]
    have := he k h0 h1 (by omega) (by omega)
    rwa [h2] at this
  · rw [hm, isw_l, isw_r]; exact hlt

/-! ### Lists -/
def iat (l : List Int) (k : Nat) : Int := l.getD k 0
theorem iat_lt (l : List Int) {k : Nat} (h : k < l.length) : iat l k = l[k] := by simp [iat, List.getD, h]
def iswp (l : List Int) (i j : Nat) : List Int := (l.set i (iat l j)).set j (iat l i)
theorem iswp_len (l : List Int) (i j : Nat) : (iswp l i j).length = l.length := by simp [iswp]
theorem iat_swp (l : List Int) {i j : Nat} (hi : i < l.length) (hj : j < l.length) : iat (iswp l i j) = isw (iat l) i j := by
  funext k
  unfold iswp isw
  by_cases e : k = j
  · subst e
    by_cases e' : k = i
    · subst e'; rw [if_pos rfl, iat_lt _ (by simpa using hj)]; simp
    · rw [if_neg e', if_pos rfl, iat_lt _ (by simpa using hj)]; simp
  · by_cases e' : k = i
    · subst e'; rw [if_pos rfl]
      rw [iat_lt _ (by simpa using hi)]
      rw [List.getElem_set_ne (fun h => e h.symm)]; simp
    · rw [if_neg e', if_neg e]
      simp [iat, List.getD, List.getElem?_set, Ne.symm e, Ne.symm e', fun h : i = k => e' h.symm, fun h : j = k => e h.symm]
theorem iswp_perm (l : List Int) {i j : Nat} (hi : i < l.length) (hj : j < l.length) : (iswp l i j).Perm l := by
  have h := Array.swap_perm (xs := l.toArray) (i := i) (j := j) (by simpa using hi) (by simpa using hj)
  have h2 := h.toList
  simp only [Array.toList_swap] at h2
  unfold iswp
  rw [iat_lt l hi, iat_lt l hj]
  simpa using h2
theorem iat_app_l (l m : List Int) {k : Nat} (h : k < l.length) : iat (l ++ m) k = iat l k := by simp [iat, List.getD, h, List.getElem?_append_left]
theorem iat_ext {l m : List Int} (hl : l.length = m.length) (h : ∀ k, k < l.length → iat l k = iat m k) : l = m := by
  refine List.ext_getElem hl fun k h1 h2 => ?_
  have := h k h1
  rwa [iat_lt _ h1, iat_lt _ h2] at this
theorem ihp_app {l : List Int} (x : Int) (h : IHp (iat l) l.length) : IEx (iat (l ++ [x])) (l.length + 1) l.length ∧ IGr (iat (l ++ [x])) (l.length + 1) l.length ∧ ICh (iat (l ++ [x])) (l.length + 1) l.length := by
  refine ⟨fun k h0 h1 h2 h3 => ?_, fun _ k h0 h1 h2 => ?_, fun k h0 h1 h2 => ?_⟩
  · rw [iat_app_l l [x] (by omega), iat_app_l l [x] (by omega)]
    exact h k h0 (by omega)
  · omega
  · omega

/-! ### Sorted lists -/
def ISrt (s : List Int) : Prop := s.Pairwise itle
def iins (x : Int) : List Int → List Int
  | [] => [x]
  | a :: s => if itlt a x = true then a :: iins x s else x :: a :: s
theorem iins_perm (x : Int) : ∀ s, (iins x s).Perm (x :: s)
  | [] => .refl _
  | a :: s => by
    unfold iins
    split
    · exact ((iins_perm x s).cons a).trans (List.Perm.swap x a s)
    · exact .refl _
theorem iins_len (x : Int) (s : List Int) : (iins x s).length = s.length + 1 := (iins_perm x s).length_eq
theorem iins_srt (x : Int) : ∀ s, ISrt s → ISrt (iins x s)
  | [], _ => by simp [iins, ISrt]
  | a :: s, h => by
    have h2 := List.pairwise_cons.1 h
    unfold iins
    split
    · rename_i hx
      refine List.pairwise_cons.2 ⟨fun b hb => ?_, iins_srt x s h2.2⟩
      rcases List.mem_cons.1 ((iins_perm x s).mem_iff.1 hb) with rfl | hb
      · exact itle_of_lt hx
      · exact h2.1 b hb
    · rename_i hx
      have hx' : itle x a := by unfold itle; simpa using hx
      refine List.pairwise_cons.2 ⟨fun b hb => ?_, h⟩
      rcases List.mem_cons.1 hb with rfl | hb
      · exact hx'
      · exact itle_trans hx' (h2.1 b hb)
theorem isrt_uniq : ∀ {s t : List Int}, ISrt s → ISrt t → s.Perm t → s = t
  | [], t, _, _, h => (List.nil_perm.1 h).symm
  | a :: s, [], _, _, h => by have := h.length_eq; simp at this
  | a :: s, b :: t, hs, ht, h => by
    have h1 := List.pairwise_cons.1 hs
    have h2 := List.pairwise_cons.1 ht
    have ha : itle b a := by
      rcases List.mem_cons.1 (h.mem_iff.1 (List.mem_cons_self ..)) with rfl | hm
      · exact itle_refl _
      · exact h2.1 a hm
    have hb : itle a b := by
      rcases List.mem_cons.1 (h.mem_iff.2 (List.mem_cons_self ..)) with rfl | hm
      · exact itle_refl _
      · exact h1.1 b hm
    obtain rfl := itle_antisymm hb ha
    rw [isrt_uniq h1.2 h2.2 h.cons_inv]

/-- A heap, and the timers that it holds in order. -/
def IHs (l s : List Int) : Prop := IHp (iat l) l.length ∧ l.Perm s ∧ ISrt s
theorem IHs.nil : IHs [] [] := ⟨fun k _ h => by simp at h, .refl _, by simp [ISrt]⟩
theorem IHs.len {l s : List Int} (h : IHs l s) : l.length = s.length := h.2.1.length_eq
theorem IHs.head {l s : List Int} {a : Int} (h : IHs l (a :: s)) : iat l 0 = a := by
  obtain ⟨h1, h2, h3⟩ := h
  have hl : 0 < l.length := by rw [h2.length_eq]; simp
  have h4 := List.pairwise_cons.1 h3
  refine itle_antisymm ?_ ?_
  · obtain ⟨k, hk, e⟩ := List.getElem_of_mem (h2.mem_iff.2 (List.mem_cons_self ..))
    have := h1.min k hk
    rwa [iat_lt l hk, e] at this
  · have hm : iat l 0 ∈ a :: s := h2.mem_iff.1 (by rw [iat_lt l hl]; exact List.getElem_mem hl)
    rcases List.mem_cons.1 hm with e | hm
    · rw [e]; exact itle_refl _
    · exact h4.1 _ hm
/-- What is left in a heap behind a removal: the last place is cut off. -/
theorem IHs.cut {l l' s s' : List Int} {x : Int} {n : Nat} (hs : IHs l s) (hp : l'.Perm l) (hn : l'.length = n + 1) (hx : iat l' n = x) (hh : IHp (iat l') n) (hs' : s.Perm (x :: s')) (h' : ISrt s') :
    l' = l'.take n ++ [x] ∧ IHs (l'.take n) s' := by
  have e : l' = l'.take n ++ [x] := by
    rw [← hx, iat_lt l' (by omega)]
    have := List.take_succ_eq_append_getElem (l := l') (i := n) (by omega)
    rw [← this, List.take_of_length_le (by omega)]
  have hl : (l'.take n).length = n := by simp; omega
  refine ⟨e, ?_, ?_, h'⟩
  · rw [hl]
    refine hh.congr fun k hk => ?_
    have := iat_app_l (l'.take n) [x] (k := k) (by omega)
    rw [← e] at this
    exact this.symm
  · have h1 : (l'.take n ++ [x]).Perm (x :: s') := by rw [← e]; exact (hp.trans hs.2.1).trans hs'
    exact (List.perm_append_comm.symm.trans h1).cons_inv
end Go.Proofs.Ytckbjgcelpmffaa
