
/- What is wanted of a clock: plain facts for the law on firing once. -/
import Derived.Test.YtolpccchhjcddaaTkW
namespace Go.Proofs.Ytolpccchhjcddaa
open Go.RowKit Go.Shelf

/-- The timers that a list of times stands for: place j has the owner j; what is not above 0 stands for none. -/
def act : Nat → List Int → List Tm
  | _, [] => []
  | j, v :: l => if 0 < v then (v, (j : Int), 7) :: act (j + 1) l else act (j + 1) l
theorem act_app : ∀ (j : Nat) (l : List Int) (v : Int), 0 < v → act j (l ++ [v]) = act j l ++ [(v, ((j + l.length : Nat) : Int), 7)]
  | j, [], v, h => by simp [act, h]
  | j, a :: l, v, h => by
    have ih := act_app (j + 1) l v h
    have e : j + 1 + l.length = j + (a :: l).length := by simp; omega
    rw [e] at ih
    show (if 0 < a then (a, (j : Int), (7 : Int)) :: act (j + 1) (l ++ [v]) else act (j + 1) (l ++ [v])) = (if 0 < a then (a, (j : Int), (7 : Int)) :: act (j + 1) l else act (j + 1) l) ++ _
    rw [ih]
    split <;> simp
theorem act_mem : ∀ (j : Nat) (l : List Int) (x : Tm), x ∈ act j l → ∃ i, i < l.length ∧ 0 < l.getD i 0 ∧ x = (l.getD i 0, ((j + i : Nat) : Int), 7)
  | j, [], x, h => by cases h
  | j, a :: l, x, h => by
    have h' : x ∈ (if 0 < a then (a, (j : Int), (7 : Int)) :: act (j + 1) l else act (j + 1) l) := h
    have rec_ : x ∈ act (j + 1) l → ∃ i, i < (a :: l).length ∧ 0 < (a :: l).getD i 0 ∧ x = ((a :: l).getD i 0, ((j + i : Nat) : Int), 7) := fun h => by
      obtain ⟨i, h1, h2, h3⟩ := act_mem (j + 1) l x h
      refine ⟨i + 1, by simpa using h1, by simpa using h2, ?_⟩
      rw [h3]
      simp
      omega
    split at h'
    · rename_i ha
      rcases List.mem_cons.1 h' with rfl | h'
      · exact ⟨0, by simp, by simpa using ha, by simp⟩
      · exact rec_ h'
    · exact rec_ h'
theorem act_in : ∀ (j : Nat) (l : List Int) (i : Nat), i < l.length → 0 < l.getD i 0 → (l.getD i 0, ((j + i : Nat) : Int), (7 : Int)) ∈ act j l
  | j, [], i, h, _ => by simp at h
  | j, a :: l, 0, _, h => by
    have ha : 0 < a := by simpa using h
    show _ ∈ (if 0 < a then (a, (j : Int), (7 : Int)) :: act (j + 1) l else act (j + 1) l)
    rw [if_pos ha]
    simp
  | j, a :: l, i + 1, h, h2 => by
    have ih := act_in (j + 1) l i (by simpa using h) (by simpa using h2)
    have e : ((j + 1 + i : Nat) : Int) = ((j + (i + 1) : Nat) : Int) := by omega
    rw [e] at ih
    show _ ∈ (if 0 < a then (a, (j : Int), (7 : Int)) :: act (j + 1) l else act (j + 1) l)
    have e2 : (a :: l).getD (i + 1) 0 = l.getD i 0 := by simp
    rw [e2]
    split
    · exact List.mem_cons_of_mem _ ih
    · exact ih
theorem act_set : ∀ (j : Nat) (l : List Int) (i : Nat), i < l.length → 0 < l.getD i 0 → (act j l).Perm ((l.getD i 0, ((j + i : Nat) : Int), (7 : Int)) :: act j (l.set i 0))
  | j, [], i, h, _ => by simp at h
  | j, a :: l, 0, _, h => by
    have ha : 0 < a := by simpa using h
    show (if 0 < a then (a, (j : Int), (7 : Int)) :: act (j + 1) l else act (j + 1) l).Perm _
    rw [if_pos ha]
    show ((a, (j : Int), (7 : Int)) :: act (j + 1) l).Perm ((a, (j : Int), (7 : Int)) :: (if (0 : Int) < 0 then _ else act (j + 1) l))
    rw [if_neg (by omega)]
  | j, a :: l, i + 1, h, h2 => by
    have ih := act_set (j + 1) l i (by simpa using h) (by simpa using h2)
    have e : ((j + 1 + i : Nat) : Int) = ((j + (i + 1) : Nat) : Int) := by omega
    have e2 : (a :: l).getD (i + 1) 0 = l.getD i 0 := by simp
    rw [e] at ih
    rw [e2]
    show (if 0 < a then (a, (j : Int), (7 : Int)) :: act (j + 1) l else act (j + 1) l).Perm (_ :: (if 0 < a then (a, (j : Int), (7 : Int)) :: act (j + 1) (l.set i 0) else act (j + 1) (l.set i 0)))
    split
    · exact (ih.cons _).trans (List.Perm.swap _ _ _)
    · exact ih
/-- How many are above 0. -/
def pos (l : List Int) : Nat := (l.filter fun v => decide (0 < v)).length
theorem act_pos : ∀ (j : Nat) (l : List Int), (act j l).length = pos l
  | j, [] => rfl
  | j, a :: l => by
    have ih := act_pos (j + 1) l
    show (if 0 < a then (a, (j : Int), (7 : Int)) :: act (j + 1) l else act (j + 1) l).length = _
    unfold pos at *
    by_cases h : 0 < a
    · rw [if_pos h, List.filter_cons, if_pos (by simpa using h)]; simp [ih]
    · rw [if_neg h, List.filter_cons, if_neg (by simpa using h)]; exact ih
theorem pos_take (l : List Int) (k : Nat) (h : k < l.length) : pos (l.take (k + 1)) = pos (l.take k) + if 0 < l.getD k 0 then 1 else 0 := by
  unfold pos
  rw [List.take_succ_eq_append_getElem h, List.filter_append, List.length_append]
  have e : l.getD k 0 = l[k] := by simp [List.getD, h]
  rw [e]
  by_cases hp : 0 < l[k] <;> simp [hp]
theorem pos_le (l : List Int) : pos l ≤ l.length := List.length_filter_le _ _

/-- One has fired ahead of the other. -/
def Bf (last x : Tm) : Prop := last.1 < x.1 ∨ (last.1 = x.1 ∧ last.2.1 < x.2.1)
/-- What holds of a clock, the times wanted, and the last that fired. -/
structure Once (want : List Int) (s : List Tm) (now : Int) (last : Tm) : Prop where
  pm : s.Perm (act 0 want)
  srt : Srt s
  uq : (s.map (·.2)).Nodup
  later : ∀ x ∈ s, now < x.1
  bf : ∀ x ∈ s, Bf last x
  nn : ∀ i, i < want.length → 0 ≤ want.getD i 0
theorem Once.who {want : List Int} {s : List Tm} {now : Int} {last : Tm} (h : Once want s now last) {x : Tm} (hx : x ∈ s) : ∃ i, i < want.length ∧ 0 < want.getD i 0 ∧ x = (want.getD i 0, (i : Int), 7) := by
  obtain ⟨i, h1, h2, h3⟩ := act_mem 0 want x (h.pm.mem_iff.1 hx)
  exact ⟨i, h1, h2, by rw [h3]; simp⟩
theorem getD_set (l : List Int) (i k : Nat) (v : Int) (h : i < l.length) : (l.set i v).getD k 0 = if k = i then v else l.getD k 0 := by
  by_cases e : k = i
  · subst e; simp [List.getD, h]
  · simp [List.getD, List.getElem?_set, e, Ne.symm e, fun q : i = k => e q.symm]
/-- The first one fires. -/
theorem Once.fire {want : List Int} {x : Tm} {r : List Tm} {now : Int} {last : Tm} (h : Once want (x :: r) now last) : ∃ i, i < want.length ∧ x = (want.getD i 0, (i : Int), 7) ∧ 0 < want.getD i 0 ∧ now < x.1 ∧ Bf last x ∧ Once (want.set i 0) r now x := by
  obtain ⟨i, h1, h2, h3⟩ := h.who (List.mem_cons_self ..)
  have ps := List.pairwise_cons.1 h.srt
  have hn := List.nodup_cons.1 (show (x.2 :: r.map (·.2)).Nodup from h.uq)
  refine ⟨i, h1, h3, h2, h.later x (List.mem_cons_self ..), h.bf x (List.mem_cons_self ..), ?_, ps.2, hn.2, fun y hy => h.later y (List.mem_cons_of_mem _ hy), fun y hy => ?_, fun k hk => ?_⟩
  · have hp := h.pm.trans (act_set 0 want i h1 h2)
    rw [Nat.zero_add, ← h3] at hp
    exact hp.cons_inv
  · obtain ⟨j, j1, j2, j3⟩ := h.who (List.mem_cons_of_mem _ hy)
    have hle := (tle_iff x y).1 (ps.1 y hy)
    have hne : (i : Int) ≠ (j : Int) := fun e => hn.1 (List.mem_map.2 ⟨y, hy, by rw [j3, h3, e]⟩)
    rw [h3, j3] at hle ⊢
    unfold Bf
    simp only at hle ⊢
    omega
  · rw [getD_set want i k 0 h1]
    rw [List.length_set] at hk
    split
    · omega
    · exact h.nn k hk
/-- The clock is filled. -/
theorem Once.add {want : List Int} {s : List Tm} {v : Int} (h : Once want s 0 (0, 0, 0)) (hv : 0 < v) : s.any (keyB (want.length : Int) 7) = false ∧ Once (want ++ [v]) (ins (v, (want.length : Int), 7) s) 0 (0, 0, 0) := by
  have hno : s.any (keyB (want.length : Int) 7) = false := by
    rw [List.any_eq_false]
    intro x hx hk
    obtain ⟨i, h1, _, rfl⟩ := h.who hx
    have := (keyB_iff _ _ _).1 hk
    simp at this
    omega
  have hp := ins_perm (v, (want.length : Int), 7) s
  have hmem : ∀ x ∈ ins (v, (want.length : Int), 7) s, x = (v, (want.length : Int), 7) ∨ x ∈ s := fun x hx => List.mem_cons.1 (hp.mem_iff.1 hx)
  refine ⟨hno, ?_, ins_srt _ s h.srt, ?_, fun x hx => ?_, fun x hx => ?_, fun k hk => ?_⟩
  · rw [act_app 0 want v hv, Nat.zero_add]
    exact hp.trans ((h.pm.cons _).trans (List.perm_append_comm (l₁ := [(v, (want.length : Int), (7 : Int))]) (l₂ := act 0 want)))
  · refine perm_nodup hp.symm ?_
    show (((want.length : Int), (7 : Int)) :: s.map (·.2)).Nodup
    refine List.nodup_cons.2 ⟨fun hm => ?_, h.uq⟩
    obtain ⟨y, hy, e⟩ := List.mem_map.1 hm
    rw [List.any_eq_false] at hno
    exact hno y hy ((keyB_iff _ _ y).2 e)
  · rcases hmem x hx with rfl | hx
    · exact hv
    · exact h.later x hx
  · rcases hmem x hx with rfl | hx
    · exact .inl hv
    · exact h.bf x hx
  · rw [List.length_append] at hk
    by_cases e : k < want.length
    · have : (want ++ [v]).getD k 0 = want.getD k 0 := by simp [List.getD, List.getElem?_append_left e]
      rw [this]; exact h.nn k e
    · have : k = want.length := by simp at hk; omega
      subst this
      simp [List.getD]
      omega
/-- One is dropped. -/
theorem Once.drop {want : List Int} {s : List Tm} {last : Tm} {now : Int} (h : Once want s now last) {i : Nat} (hi : i < want.length) (hv : 0 < want.getD i 0) : s.any (keyB (i : Int) 7) = true ∧ Once (want.set i 0) (drp s (i : Int) 7) now last := by
  have hm : (want.getD i 0, (i : Int), (7 : Int)) ∈ s := by
    have := act_in 0 want i hi hv
    rw [Nat.zero_add] at this
    exact h.pm.mem_iff.2 this
  have hk : keyB (i : Int) 7 (want.getD i 0, (i : Int), 7) = true := (keyB_iff _ _ _).2 rfl
  have hp := drp_perm s _ (i : Int) 7 h.uq hm hk
  have hsub : ∀ x ∈ drp s (i : Int) 7, x ∈ s := fun x hx => (List.mem_filter.1 hx).1
  refine ⟨List.any_eq_true.2 ⟨_, hm, hk⟩, ?_, drp_srt h.srt _ _, drp_uq h.uq _ _, fun x hx => h.later x (hsub x hx), fun x hx => h.bf x (hsub x hx), fun k hk => ?_⟩
  · have h2 := act_set 0 want i hi hv
    rw [Nat.zero_add] at h2
    exact (hp.symm.trans (h.pm.trans h2)).cons_inv
  · rw [getD_set want i k 0 hi]
    rw [List.length_set] at hk
    split
    · omega
    · exact h.nn k hk
theorem srt_drop {s : List Tm} (h : Srt s) (k : Nat) : Srt (s.drop k) := List.Pairwise.drop h
theorem late_gt {s : List Tm} (h : Srt s) (t : Int) : ∀ x ∈ late t s, t < x.1 := by
  induction s with
  | nil => intro x hx; cases hx
  | cons a s ih =>
    have hp := List.pairwise_cons.1 h
    intro x hx
    by_cases ha : a.1 ≤ t
    · rw [(due_cons_le (r := s) ha).2] at hx
      exact ih hp.2 x hx
    · rw [(due_cons_gt (r := s) ha).2] at hx
      rcases List.mem_cons.1 hx with rfl | hx
      · omega
      · have := (tle_iff a x).1 (hp.1 x hx)
        omega
theorem due_le (t : Int) : ∀ s : List Tm, ∀ x ∈ due t s, x.1 ≤ t
  | [], x, h => by cases h
  | a :: s, x, h => by
    by_cases ha : a.1 ≤ t
    · rw [(due_cons_le (r := s) ha).1] at h
      rcases List.mem_cons.1 h with rfl | h
      · exact ha
      · exact due_le t s x h
    · rw [(due_cons_gt (r := s) ha).1] at h
      cases h
theorem due_late (t : Int) (s : List Tm) : due t s ++ late t s = s := List.takeWhile_append_dropWhile
end Go.Proofs.Ytolpccchhjcddaa
