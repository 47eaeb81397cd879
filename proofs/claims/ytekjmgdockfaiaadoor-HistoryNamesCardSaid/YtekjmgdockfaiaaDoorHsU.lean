
/- A history without its pending calls: plain facts. -/
import Derived.Test.YtekjmgdockfaiaaDoorHsS
namespace Go.Proofs.YtekjmgdockfaiaaDoor

def endB' (s : Sp) : Bool := decide (0 ≤ s.to)
/-- Calls that are not pending. -/
def doneC (S : List Sp) : Int → Int → Bool := fun c _ => !(S.any fun s => s.call == c && decide (s.to < 0))
theorem doneC_no {S : List Sp} {c t : Int} (h : doneC S c t = false) : ∃ s ∈ S, s.call = c ∧ s.to < 0 := by
  unfold doneC at h
  simp at h
  obtain ⟨s, hs, h1, h2⟩ := h
  exact ⟨s, hs, h1, h2⟩
theorem same_call {S : List Sp} (h : S.Pairwise fun s s' => s.call ≠ s'.call) {s s' : Sp} (hs : s ∈ S) (hs' : s' ∈ S) (e : s.call = s'.call) : s = s' := by
  obtain ⟨i, hi, rfl⟩ := List.getElem_of_mem hs
  obtain ⟨j, hj, rfl⟩ := List.getElem_of_mem hs'
  rcases Nat.lt_trichotomy i j with r | r | r
  · exact absurd e (List.pairwise_iff_getElem.1 h i j hi hj r)
  · subst r; rfl
  · exact absurd e.symm (List.pairwise_iff_getElem.1 h j i hj hi r)
theorem doneC_span {S : List Sp} (h : S.Pairwise fun s s' => s.call ≠ s'.call) {s : Sp} (hs : s ∈ S) (t : Int) : doneC S s.call t = decide (0 ≤ s.to) := by
  cases q : doneC S s.call t with
  | false =>
    obtain ⟨x, hx, h1, h2⟩ := doneC_no q
    obtain rfl := same_call h hx hs h1
    symm
    simp; omega
  | true =>
    symm
    unfold doneC at q
    simp at q
    have := q s hs rfl
    simpa using this
theorem keep_done {S : List Sp} (h : S.Pairwise fun s s' => s.call ≠ s'.call) : keepS (doneC S) S = S.filter fun s => decide (0 ≤ s.to) :=
  List.filter_congr fun s hs => doneC_span h hs _
/-- What is left is right, has no pending call, and twice as many events as calls. -/
theorem done_right {l : List Ev} {S : List Sp} (h : (trk l 0 []).2.2 = 0) (hS : (trk l 0 []).1 = S) :
    (trk (keepE (doneC S) l) 0 []).2.2 = 0 ∧ ((trk (keepE (doneC S) l) 0 []).1.filter fun s => !decide (0 ≤ s.to)) = [] ∧ (keepE (doneC S) l).length = 2 * (S.filter fun s => decide (0 ≤ s.to)).length := by
  have hg := Good.trk l 0 [] Good.nil h
  rw [hS] at hg
  obtain ⟨h1, h2⟩ := sim (P := doneC S) l 0 0 [] [] rfl h
  rw [hS, keep_done hg.calls] at h2
  have ht := Told.trk (keepE (doneC S) l) [] [] Told.nil Good.nil h1
  simp only [List.nil_append, List.length_nil] at ht
  generalize (trk (keepE (doneC S) l) 0 []).1 = M at *
  have hall : ∀ s ∈ M, 0 ≤ s.to := fun s hs => by
    have : ab s ∈ M.map ab := List.mem_map.2 ⟨s, hs, rfl⟩
    rw [h2] at this
    obtain ⟨x, hx, e⟩ := List.mem_map.1 this
    have e2 : decide (x.to < 0) = decide (s.to < 0) := congrArg (fun y => y.2.2.1) e
    have := (List.mem_filter.1 hx).2
    simp at this
    have e3 : decide (x.to < 0) = false := by simpa using this
    rw [e3] at e2
    simpa using e2.symm
  have hl := congrArg List.length h2
  simp only [List.length_map] at hl
  have hc := ht.cnt
  have e1 : (M.filter fun s => decide (0 ≤ s.to)) = M := List.filter_eq_self.2 fun s hs => by simpa using hall s hs
  rw [e1] at hc
  exact ⟨h1, List.filter_eq_nil_iff.2 fun s hs => by simpa using hall s hs, by omega⟩

/-! ### where the events lie that go -/
structure Cut (l : List Ev) (S Pd : List Sp) : Prop where
  rise : Pd.Pairwise fun s s' => s.fr < s'.fr
  fr : ∀ s ∈ Pd, 0 ≤ s.fr ∧ s.fr < l.length
  gone : ∀ i (hi : i < l.length), doneC S (l[i]).call (l[i]).thread = false → ∃ s ∈ Pd, s.fr = i
  is : ∀ s ∈ Pd, ∀ (hi : s.fr.toNat < l.length), doneC S (l[s.fr.toNat]).call (l[s.fr.toNat]).thread = false
theorem cut_of {l : List Ev} {S : List Sp} (h : (trk l 0 []).2.2 = 0) (hS : (trk l 0 []).1 = S) : Cut l S (S.filter fun s => !decide (0 ≤ s.to)) := by
  have hg := Good.trk l 0 [] Good.nil h
  have ht := Told.trk l [] [] Told.nil Good.nil h
  simp only [List.nil_append, List.length_nil, Nat.zero_add] at ht hg
  rw [hS] at hg ht
  refine ⟨hg.rise.filter _, fun s hs => hg.fr s (List.mem_filter.1 hs).1, fun i hi hd => ?_, fun s hs hi => ?_⟩
  · obtain ⟨s, hs, h1, h2⟩ := doneC_no hd
    obtain ⟨x, hx, hq⟩ := ht.cov i hi
    have hxc : x.call = (l[i]).call := by
      rcases hq with q | q
      · have := ht.beg x hx
        rw [q, Int.toNat_natCast, List.getElem?_eq_getElem hi] at this
        have := Option.some.inj this
        rw [this]; rfl
      · have := ht.ends x hx (by omega)
        rw [q, Int.toNat_natCast, List.getElem?_eq_getElem hi] at this
        have := Option.some.inj this
        rw [this]; rfl
    obtain rfl := same_call hg.calls hx hs (hxc.trans h1.symm)
    refine ⟨x, List.mem_filter.2 ⟨hs, by simp; omega⟩, ?_⟩
    rcases hq with q | q
    · exact q
    · omega
  · have hm := List.mem_filter.1 hs
    have := ht.beg s hm.1
    rw [List.getElem?_eq_getElem hi] at this
    have := Option.some.inj this
    rw [this]
    show doneC S s.call s.thread = false
    rw [doneC_span hg.calls hm.1]
    have := hm.2
    simpa using this
theorem seg {P : Int → Int → Bool} (l : List Ev) (a m : Nat) (hb : a + m ≤ l.length) (h : ∀ i (hi : i < l.length), a ≤ i → i < a + m → P (l[i]).call (l[i]).thread = true) :
    keepE P (l.take (a + m)) = keepE P (l.take a) ++ (l.drop a).take m := by
  rw [List.take_add, keepE, List.filter_append]
  congr 1
  refine List.filter_eq_self.2 fun e he => ?_
  obtain ⟨i, hi, rfl⟩ := List.getElem_of_mem he
  simp only [List.length_take, List.length_drop] at hi
  simp only [List.getElem_take, List.getElem_drop]
  exact h (a + i) (by omega) (by omega) (by omega)
theorem seg_skip {P : Int → Int → Bool} (l : List Ev) (a : Nat) (ha : a < l.length) (h : P (l[a]).call (l[a]).thread = false) : keepE P (l.take (a + 1)) = keepE P (l.take a) := by
  rw [List.take_add_one, List.getElem?_eq_getElem ha]
  simp only [keepE, List.filter_append, Option.toList_some, List.filter_cons, List.filter_nil]
  rw [if_neg (by rw [h]; simp), List.append_nil]
/-- Between two that go nothing goes. -/
theorem Cut.between {l : List Ev} {S Pd : List Sp} (c : Cut l S Pd) {j : Nat} {nx : Nat} (hnx : ∀ m (hm : m < Pd.length), m < j → (Pd[m]).fr < nx) (f : Nat) (hf : ∀ m (hm : m < Pd.length), j ≤ m → (f : Int) ≤ (Pd[m]).fr) :
    ∀ i (hi : i < l.length), nx ≤ i → i < f → doneC S (l[i]).call (l[i]).thread = true := by
  intro i hi h1 h2
  rcases Bool.eq_false_or_eq_true (doneC S (l[i]).call (l[i]).thread) with q | q
  · exact q
  · obtain ⟨s, hs, e⟩ := c.gone i hi q
    obtain ⟨m, hm, rfl⟩ := List.getElem_of_mem hs
    by_cases r : m < j
    · have := hnx m hm r; omega
    · have := hf m hm (by omega); omega
end Go.Proofs.YtekjmgdockfaiaaDoor
