
/- Timers, their order, heaps: plain facts. -/
import Derived.WalkKit
import Derived.Lib.Hide
namespace Go.Proofs.Ytolpccchhjcddaa

abbrev Tm := Int × Int × Int
/-- The order of timers: by time, then owner, then mark. -/
def tlt (a b : Tm) : Bool := decide (a.1 < b.1 ∨ (a.1 = b.1 ∧ (a.2.1 < b.2.1 ∨ (a.2.1 = b.2.1 ∧ a.2.2 < b.2.2))))
def tle (a b : Tm) : Prop := tlt b a = false
theorem tlt_iff (a b : Tm) : tlt a b = true ↔ (a.1 < b.1 ∨ (a.1 = b.1 ∧ (a.2.1 < b.2.1 ∨ (a.2.1 = b.2.1 ∧ a.2.2 < b.2.2)))) := by unfold tlt; exact decide_eq_true_iff
theorem tle_iff (a b : Tm) : tle a b ↔ ¬ (b.1 < a.1 ∨ (b.1 = a.1 ∧ (b.2.1 < a.2.1 ∨ (b.2.1 = a.2.1 ∧ b.2.2 < a.2.2)))) := by unfold tle tlt; exact decide_eq_false_iff_not
theorem tle_refl (a : Tm) : tle a a := by rw [tle_iff]; omega
theorem tle_trans {a b c : Tm} (h : tle a b) (k : tle b c) : tle a c := by rw [tle_iff] at *; omega
theorem tle_of_lt {a b : Tm} (h : tlt a b = true) : tle a b := by rw [tle_iff]; rw [tlt_iff] at h; omega
theorem tle_antisymm {a b : Tm} (h : tle a b) (k : tle b a) : a = b := by
  rw [tle_iff] at *
  obtain ⟨a1, a2, a3⟩ := a; obtain ⟨b1, b2, b3⟩ := b
  simp only at h k
  simp only [Prod.mk.injEq]; omega
theorem tle_total (a b : Tm) : tle a b ∨ tle b a := by
  rcases h : tlt b a with _ | _
  · exact .inl h
  · exact .inr (tle_of_lt h)

/-! ### Heaps as functions -/
def Hp (f : Nat → Tm) (n : Nat) : Prop := ∀ k, 0 < k → k < n → tle (f ((k - 1) / 2)) (f k)
def Ex (f : Nat → Tm) (n j : Nat) : Prop := ∀ k, 0 < k → k < n → k ≠ j → (k - 1) / 2 ≠ j → tle (f ((k - 1) / 2)) (f k)
def Gr (f : Nat → Tm) (n j : Nat) : Prop := 0 < j → ∀ k, 0 < k → k < n → (k - 1) / 2 = j → tle (f ((j - 1) / 2)) (f k)
def Ch (f : Nat → Tm) (n j : Nat) : Prop := ∀ k, 0 < k → k < n → (k - 1) / 2 = j → tle (f j) (f k)
def Pa (f : Nat → Tm) (j : Nat) : Prop := 0 < j → tle (f ((j - 1) / 2)) (f j)
def sw (f : Nat → Tm) (i j : Nat) : Nat → Tm := fun k => if k = i then f j else if k = j then f i else f k
theorem sw_l (f : Nat → Tm) (i j : Nat) : sw f i j i = f j := if_pos rfl
theorem sw_r (f : Nat → Tm) (i j : Nat) : sw f i j j = f i := by unfold sw; split <;> simp_all
theorem sw_o (f : Nat → Tm) {i j k : Nat} (h : k ≠ i) (h' : k ≠ j) : sw f i j k = f k := by unfold sw; rw [if_neg h, if_neg h']

theorem Hp.ex {f : Nat → Tm} {n : Nat} (h : Hp f n) (j : Nat) : Ex f n j := fun k h0 h1 _ _ => h k h0 h1
theorem Hp.gr {f : Nat → Tm} {n j : Nat} (h : Hp f n) (hj : j < n) : Gr f n j := fun h0 k h1 h2 h3 => by
  have a := h j h0 hj
  have b := h k h1 h2
  rw [h3] at b
  exact tle_trans a b
theorem Hp.of {f : Nat → Tm} {n j : Nat} (he : Ex f n j) (hc : Ch f n j) (hp : Pa f j) : Hp f n := fun k h0 h1 => by
  by_cases e : k = j
  · subst e; exact hp h0
  · by_cases e' : (k - 1) / 2 = j
    · rw [e']; exact hc k h0 h1 e'
    · exact he k h0 h1 e e'
theorem Hp.min {f : Nat → Tm} {n : Nat} (h : Hp f n) : ∀ k, k < n → tle (f 0) (f k) := by
  intro k
  induction k using Nat.strongRecOn with
  | ind k ih =>
    intro hk
    rcases Nat.eq_zero_or_pos k with rfl | h0
    · exact tle_refl _
    · exact tle_trans (ih ((k - 1) / 2) (by omega) (by omega)) (h k h0 hk)
theorem Hp.sub {f : Nat → Tm} {n m : Nat} (h : Hp f n) (hm : m ≤ n) : Hp f m := fun k h0 h1 => h k h0 (by omega)
theorem Hp.congr {f g : Nat → Tm} {n : Nat} (h : Hp f n) (e : ∀ k, k < n → g k = f k) : Hp g n := fun k h0 h1 => by
  rw [e k h1, e _ (by omega)]; exact h k h0 h1

theorem up_step {f : Nat → Tm} {n i j : Nat} (hi : (j - 1) / 2 = i) (hj : 0 < j) (hn : j < n) (he : Ex f n j) (hg : Gr f n j) (hc : Ch f n j) (hl : tlt (f j) (f i) = true) :
    Ex (sw f i j) n i ∧ Gr (sw f i j) n i ∧ Ch (sw f i j) n i := by
  have hlt := tle_of_lt hl
  have hij : i ≠ j := by omega
  refine ⟨fun k h0 h1 h2 h3 => ?_, fun hi0 k h0 h1 h2 => ?_, fun k h0 h1 h2 => ?_⟩
  · have hkj : k ≠ j := fun e => h3 (by rw [e]; exact hi)
    rw [sw_o f h2 hkj]
    by_cases e : (k - 1) / 2 = j
    · rw [e, sw_r]
      have := hg hj k h0 h1 e
      rwa [hi] at this
    · rw [sw_o f h3 e]; exact he k h0 h1 hkj e
  · have hpi : (i - 1) / 2 ≠ i := by omega
    have hpj : (i - 1) / 2 ≠ j := by omega
    rw [sw_o f hpi hpj]
    have a := he i hi0 (by omega) hij hpj
    by_cases e : k = j
    · subst e; rw [sw_r]; exact a
    · rw [sw_o f (by omega) e]
      have b := he k h0 h1 e (by omega)
      rw [h2] at b
      exact tle_trans a b
  · rw [sw_l]
    by_cases e : k = j
    · subst e; rw [sw_r]; exact hlt
    · rw [sw_o f (by omega) e]
      have b := he k h0 h1 e (by omega)
      rw [h2] at b
      exact tle_trans hlt b
theorem down_step {f : Nat → Tm} {n i m : Nat} (hm : (m - 1) / 2 = i) (h0m : 0 < m) (he : Ex f n i) (hg : Gr f n i) (hmin : ∀ k, 0 < k → k < n → (k - 1) / 2 = i → tle (f m) (f k)) (hmn : m < n) (hl : tlt (f m) (f i) = true) :
    Ex (sw f i m) n m ∧ Gr (sw f i m) n m ∧ Pa (sw f i m) m := by
  have hlt := tle_of_lt hl
  have him : i ≠ m := by omega
  refine ⟨fun k h0 h1 h2 h3 => ?_, fun _ k h0 h1 h2 => ?_, fun _ => ?_⟩
  · by_cases e : (k - 1) / 2 = i
    · rw [e, sw_l, sw_o f (by omega) h2]; exact hmin k h0 h1 e
    · rw [sw_o f e h3]
      by_cases e' : k = i
      · subst e'; rw [sw_l]; exact hg h0 m h0m hmn hm
      · rw [sw_o f e' h2]; exact he k h0 h1 e' e
  · rw [hm, sw_l, sw_o f (by omega) (by omega)]
    have := he k h0 h1 (by omega) (by omega)
    rwa [h2] at this
  · rw [hm, sw_l, sw_r]; exact hlt

/-! ### Lists -/
def at' (l : List Tm) (k : Nat) : Tm := l.getD k (0, 0, 0)
theorem at_lt (l : List Tm) {k : Nat} (h : k < l.length) : at' l k = l[k] := by simp [at', List.getD, h]
def swp (l : List Tm) (i j : Nat) : List Tm := (l.set i (at' l j)).set j (at' l i)
theorem swp_len (l : List Tm) (i j : Nat) : (swp l i j).length = l.length := by simp [swp]
theorem at_swp (l : List Tm) {i j : Nat} (hi : i < l.length) (hj : j < l.length) : at' (swp l i j) = sw (at' l) i j := by
  funext k
  unfold swp sw
  by_cases e : k = j
  · subst e
    by_cases e' : k = i
    · subst e'; rw [if_pos rfl, at_lt _ (by simpa using hj)]; simp
    · rw [if_neg e', if_pos rfl, at_lt _ (by simpa using hj)]; simp
  · by_cases e' : k = i
    · subst e'; rw [if_pos rfl]
      rw [at_lt _ (by simpa using hi)]
      rw [List.getElem_set_ne (fun h => e h.symm)]; simp
    · rw [if_neg e', if_neg e]
      simp [at', List.getD, List.getElem?_set, Ne.symm e, Ne.symm e', fun h : i = k => e' h.symm, fun h : j = k => e h.symm]
theorem swp_perm (l : List Tm) {i j : Nat} (hi : i < l.length) (hj : j < l.length) : (swp l i j).Perm l := by
  have h := Array.swap_perm (xs := l.toArray) (i := i) (j := j) (by simpa using hi) (by simpa using hj)
  have h2 := h.toList
  simp only [Array.toList_swap] at h2
  unfold swp
  rw [at_lt l hi, at_lt l hj]
  simpa using h2
theorem at_app_l (l m : List Tm) {k : Nat} (h : k < l.length) : at' (l ++ m) k = at' l k := by simp [at', List.getD, h, List.getElem?_append_left]
theorem at_ext {l m : List Tm} (hl : l.length = m.length) (h : ∀ k, k < l.length → at' l k = at' m k) : l = m := by
  refine List.ext_getElem hl fun k h1 h2 => ?_
  have := h k h1
  rwa [at_lt _ h1, at_lt _ h2] at this
theorem hp_app {l : List Tm} (x : Tm) (h : Hp (at' l) l.length) : Ex (at' (l ++ [x])) (l.length + 1) l.length ∧ Gr (at' (l ++ [x])) (l.length + 1) l.length ∧ Ch (at' (l ++ [x])) (l.length + 1) l.length := by
  refine ⟨fun k h0 h1 h2 h3 => ?_, fun _ k h0 h1 h2 => ?_, fun k h0 h1 h2 => ?_⟩
  · rw [at_app_l l [x] (by omega), at_app_l l [x] (by omega)]
    exact h k h0 (by omega)
  · omega
  · omega

/-! ### Sorted lists -/
def Srt (s : List Tm) : Prop := s.Pairwise tle
def ins (x : Tm) : List Tm → List Tm
  | [] => [x]
  | a :: s => if tlt a x = true then a :: ins x s else x :: a :: s
theorem ins_perm (x : Tm) : ∀ s, (ins x s).Perm (x :: s)
  | [] => .refl _
  | a :: s => by
    unfold ins
    split
    · exact ((ins_perm x s).cons a).trans (List.Perm.swap x a s)
    · exact .refl _
theorem ins_len (x : Tm) (s : List Tm) : (ins x s).length = s.length + 1 := (ins_perm x s).length_eq
theorem ins_srt (x : Tm) : ∀ s, Srt s → Srt (ins x s)
  | [], _ => by simp [ins, Srt]
  | a :: s, h => by
    have h2 := List.pairwise_cons.1 h
    unfold ins
    split
    · rename_i hx
      refine List.pairwise_cons.2 ⟨fun b hb => ?_, ins_srt x s h2.2⟩
      rcases List.mem_cons.1 ((ins_perm x s).mem_iff.1 hb) with rfl | hb
      · exact tle_of_lt hx
      · exact h2.1 b hb
    · rename_i hx
      have hx' : tle x a := by unfold tle; simpa using hx
      refine List.pairwise_cons.2 ⟨fun b hb => ?_, h⟩
      rcases List.mem_cons.1 hb with rfl | hb
      · exact hx'
      · exact tle_trans hx' (h2.1 b hb)
theorem srt_uniq : ∀ {s t : List Tm}, Srt s → Srt t → s.Perm t → s = t
  | [], t, _, _, h => (List.nil_perm.1 h).symm
  | a :: s, [], _, _, h => by have := h.length_eq; simp at this
  | a :: s, b :: t, hs, ht, h => by
    have h1 := List.pairwise_cons.1 hs
    have h2 := List.pairwise_cons.1 ht
    have ha : tle b a := by
      rcases List.mem_cons.1 (h.mem_iff.1 (List.mem_cons_self ..)) with rfl | hm
      · exact tle_refl _
      · exact h2.1 a hm
    have hb : tle a b := by
      rcases List.mem_cons.1 (h.mem_iff.2 (List.mem_cons_self ..)) with rfl | hm
      · exact tle_refl _
      · exact h1.1 b hm
    obtain rfl := tle_antisymm hb ha
    rw [srt_uniq h1.2 h2.2 h.cons_inv]

/-- A heap, and the timers that it holds in order. -/
def Hs (l s : List Tm) : Prop := Hp (at' l) l.length ∧ l.Perm s ∧ Srt s
theorem Hs.nil : Hs [] [] := ⟨fun k _ h => by simp at h, .refl _, by simp [Srt]⟩
theorem Hs.len {l s : List Tm} (h : Hs l s) : l.length = s.length := h.2.1.length_eq
theorem Hs.head {l s : List Tm} {a : Tm} (h : Hs l (a :: s)) : at' l 0 = a := by
  obtain ⟨h1, h2, h3⟩ := h
  have hl : 0 < l.length := by rw [h2.length_eq]; simp
  have h4 := List.pairwise_cons.1 h3
  refine tle_antisymm ?_ ?_
  · obtain ⟨k, hk, e⟩ := List.getElem_of_mem (h2.mem_iff.2 (List.mem_cons_self ..))
    have := h1.min k hk
    rwa [at_lt l hk, e] at this
  · have hm : at' l 0 ∈ a :: s := h2.mem_iff.1 (by rw [at_lt l hl]; exact List.getElem_mem hl)
    rcases List.mem_cons.1 hm with e | hm
    · rw [e]; exact tle_refl _
    · exact h4.1 _ hm
/-- What is left in a heap behind a removal: the last place is cut off. -/
theorem Hs.cut {l l' s s' : List Tm} {x : Tm} {n : Nat} (hs : Hs l s) (hp : l'.Perm l) (hn : l'.length = n + 1) (hx : at' l' n = x) (hh : Hp (at' l') n) (hs' : s.Perm (x :: s')) (h' : Srt s') :
    l' = l'.take n ++ [x] ∧ Hs (l'.take n) s' := by
  have e : l' = l'.take n ++ [x] := by
    rw [← hx, at_lt l' (by omega)]
    have := List.take_succ_eq_append_getElem (l := l') (i := n) (by omega)
    rw [← this, List.take_of_length_le (by omega)]
  have hl : (l'.take n).length = n := by simp; omega
  refine ⟨e, ?_, ?_, h'⟩
  · rw [hl]
    refine hh.congr fun k hk => ?_
    have := at_app_l (l'.take n) [x] (k := k) (by omega)
    rw [← e] at this
    exact this.symm
  · have h1 : (l'.take n ++ [x]).Perm (x :: s') := by rw [← e]; exact (hp.trans hs.2.1).trans hs'
    exact (List.perm_append_comm.symm.trans h1).cons_inv
end Go.Proofs.Ytolpccchhjcddaa
