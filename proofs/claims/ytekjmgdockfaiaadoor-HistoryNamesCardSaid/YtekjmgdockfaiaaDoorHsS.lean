
/- Parts of a history: the events of some calls alone; one of each thread. Plain facts. -/
import Derived.Test.YtekjmgdockfaiaaDoorHsM
namespace Go.Proofs.YtekjmgdockfaiaaDoor

/-- What counts of a span for what comes next. -/
def ab (s : Sp) : Int × Int × Bool × Ac := (s.call, s.thread, decide (s.to < 0), s.act)
theorem any_ab {l L : List Sp} (h : L.map ab = l.map ab) (f : Int × Int × Bool × Ac → Bool) : (L.any fun s => f (ab s)) = l.any fun s => f (ab s) := by
  have := congrArg (fun x => x.any f) h
  simpa [List.any_map, Function.comp_def] using this
theorem nxt_ab {l L : List Sp} (h : L.map ab = l.map ab) (e : Ev) : nxt L e = nxt l e := by
  have h1 : hasC L e.call = hasC l e.call := any_ab h fun x => x.1 == e.call
  have h2 : busyT L e.thread = busyT l e.thread := any_ab h fun x => x.2.1 == e.thread && x.2.2.1
  have h3 : L.any (mt e) = l.any (mt e) := any_ab h fun x => (x.1 == e.call && x.2.1 == e.thread) && x.2.2.1
  unfold nxt
  rw [h1, h2, h3]
def finA (e : Ev) (x : Int × Int × Bool × Ac) : Int × Int × Bool × Ac :=
  if ((x.1 == e.call && x.2.1 == e.thread) && x.2.2.1) = true then (x.1, x.2.1, false, ⟨x.2.2.2.kind, x.2.2.2.txn, x.2.2.2.tab, x.2.2.2.rcd, x.2.2.2.mode, e.act.code⟩) else x
theorem ab_fin (i : Nat) (e : Ev) (s : Sp) : ab (if mt e s = true then fin i e s else s) = finA e (ab s) := by
  unfold finA
  have : ((ab s).1 == e.call && (ab s).2.1 == e.thread && (ab s).2.2.1) = mt e s := rfl
  rw [this]
  by_cases q : mt e s = true
  · rw [if_pos q, if_pos q]
    have : decide ((i : Int) < 0) = false := by simp
    show (s.call, s.thread, decide ((i : Int) < 0), _) = _
    rw [this]
    rfl
  · rw [if_neg q, if_neg q]
theorem upd_ab {l L : List Sp} (h : L.map ab = l.map ab) (i j : Nat) (e : Ev) : (upd L j e).map ab = (upd l i e).map ab := by
  unfold upd
  cases hi : e.inv with
  | true => rw [if_pos rfl, if_pos rfl, List.map_append, List.map_append, h]; rfl
  | false =>
    rw [if_neg (by simp), if_neg (by simp), List.map_map, List.map_map]
    have e1 : ∀ (M : List Sp) (k : Nat), M.map (ab ∘ fun s => if mt e s = true then fin k e s else s) = (M.map ab).map (finA e) := fun M k => by
      rw [List.map_map]
      exact List.map_congr_left fun s _ => ab_fin k e s
    rw [e1, e1, h]
section
variable {P : Int → Int → Bool}
abbrev keepS (P : Int → Int → Bool) (l : List Sp) : List Sp := l.filter fun s => P s.call s.thread
abbrev keepE (P : Int → Int → Bool) (l : List Ev) : List Ev := l.filter fun e => P e.call e.thread
theorem keep_upd (l : List Sp) (i : Nat) (e : Ev) (h : P e.call e.thread = true) : keepS P (upd l i e) = upd (keepS P l) i e := by
  unfold upd
  cases hi : e.inv with
  | true =>
    rw [if_pos rfl, if_pos rfl]
    simp only [keepS, List.filter_append, List.filter_cons, List.filter_nil]
    rw [if_pos (show P (new i e).call (new i e).thread = true from h)]
  | false =>
    rw [if_neg (by simp), if_neg (by simp)]
    simp only [keepS, List.filter_map]
    congr 1
    refine List.filter_congr fun s _ => ?_
    show P _ _ = _
    by_cases q : mt e s = true
    · simp only [if_pos q, fin]
    · simp only [if_neg q]
theorem keep_skip (l : List Sp) (i : Nat) (e : Ev) (h : P e.call e.thread = false) : keepS P (upd l i e) = keepS P l := by
  unfold upd
  cases hi : e.inv with
  | true =>
    rw [if_pos rfl]
    simp only [keepS, List.filter_append, List.filter_cons, List.filter_nil]
    rw [if_neg (show ¬ P (new i e).call (new i e).thread = true by show ¬ P e.call e.thread = true; rw [h]; simp), List.append_nil]
  | false =>
    rw [if_neg (by simp)]
    induction l with
    | nil => rfl
    | cons s r ih =>
      simp only [keepS] at ih ⊢
      rw [List.map_cons, List.filter_cons, List.filter_cons, ih]
      by_cases q : mt e s = true
      · obtain ⟨q1, q2, _⟩ := mt_iff.1 q
        have e1 : P s.call s.thread = false := by rw [q1, q2]; exact h
        rw [if_pos q, if_neg (show ¬ P (fin i e s).call (fin i e s).thread = true by show ¬ P s.call s.thread = true; rw [e1]; simp), if_neg (by rw [e1]; simp)]
      · rw [if_neg q]
/-- What is right for all is right for the part. -/
theorem nxt_keep {l : List Sp} {e : Ev} (h : nxt l e = 0) (hP : P e.call e.thread = true) : nxt (keepS P l) e = 0 := by
  have hk := nxt_okE h
  cases hi : e.inv with
  | true =>
    obtain ⟨h1, h2⟩ := nxt_inv h hi
    have k1 : hasC (keepS P l) e.call = false := by
      unfold hasC
      rw [List.any_eq_false]
      intro s hs
      have := any_no h1 s (List.mem_filter.1 hs).1
      simpa using this
    have k2 : busyT (keepS P l) e.thread = false := by
      unfold busyT
      rw [List.any_eq_false]
      intro s hs
      have := any_no h2 s (List.mem_filter.1 hs).1
      simpa using this
    unfold nxt
    rw [if_neg (by simp [hk]), if_pos hi, if_neg (by simp [k1]), if_neg (by simp [k2])]
  | false =>
    obtain ⟨s, hs, hm⟩ := List.any_eq_true.1 (nxt_end h hi)
    obtain ⟨q1, q2, _⟩ := mt_iff.1 hm
    have : (keepS P l).any (mt e) = true := List.any_eq_true.2 ⟨s, List.mem_filter.2 ⟨hs, by rw [q1, q2]; exact hP⟩, hm⟩
    unfold nxt
    rw [if_neg (by simp [hk]), if_neg (by simp [hi]), if_pos this]
theorem sim : ∀ (r : List Ev) (i j : Nat) (l L : List Sp), L.map ab = (keepS P l).map ab → (trk r i l).2.2 = 0 →
    (trk (keepE P r) j L).2.2 = 0 ∧ (trk (keepE P r) j L).1.map ab = (keepS P (trk r i l).1).map ab
  | [], i, j, l, L, h, _ => ⟨rfl, h⟩
  | e :: r, i, j, l, L, h, h0 => by
    by_cases hx : nxt l e = 0
    · rw [trk_ok r i hx] at h0 ⊢
      by_cases hP : P e.call e.thread = true
      · have e1 : keepE P (e :: r) = e :: keepE P r := by simp only [keepE, List.filter_cons]; rw [if_pos hP]
        have e2 : nxt L e = 0 := by rw [nxt_ab h]; exact nxt_keep hx hP
        rw [e1, trk_ok _ j e2]
        exact sim r (i + 1) (j + 1) _ _ (by rw [keep_upd l i e hP]; exact upd_ab h i j e) h0
      · have hP' : P e.call e.thread = false := by simpa using hP
        have e1 : keepE P (e :: r) = keepE P r := by simp only [keepE, List.filter_cons]; rw [if_neg hP]
        rw [e1]
        exact sim r (i + 1) j _ _ (by rw [keep_skip l i e hP']; exact h) h0
    · rw [trk_no r i hx] at h0; exact absurd h0 hx
end
theorem trk_at0 : ∀ (r : List Ev) (i : Nat) (l : List Sp), (trk r i l).2.2 = 0 → (trk r i l).2.1 = 0
  | [], _, _, _ => rfl
  | e :: r, i, l, h => by
    by_cases hx : nxt l e = 0
    · rw [trk_ok r i hx] at h ⊢; exact trk_at0 r (i + 1) _ h
    · rw [trk_no r i hx] at h; exact absurd h hx

/-! ### one of each thread -/
def byT (t : Int) : Int → Int → Bool := fun _ x => x == t
theorem mine_ab {l : List Ev} (h : (trk l 0 []).2.2 = 0) (t : Int) : (trk (keepE (byT t) l) 0 []).2.2 = 0 ∧ (trk (keepE (byT t) l) 0 []).1.map ab = (keepS (byT t) (trk l 0 []).1).map ab :=
  sim l 0 0 [] [] rfl h
/-- Of one thread at most one call is pending. -/
theorem one_pending {l : List Sp} {k : Nat} (g : Good l k) (t : Int) (h : ∀ s ∈ l, s.thread = t) : (l.filter fun s => decide (s.to < 0)).length ≤ 1 := by
  have hp : (l.filter fun s => decide (s.to < 0)).Pairwise fun s s' => s.to < 0 → s'.to < 0 → s.thread ≠ s'.thread := g.busy.filter _
  match hm : (l.filter fun s => decide (s.to < 0)) with
  | [] => rw [hm]; simp
  | [_] => rw [hm]; simp
  | a :: b :: r =>
    rw [hm] at hp
    have ha : a ∈ l.filter fun s => decide (s.to < 0) := by rw [hm]; simp
    have hb : b ∈ l.filter fun s => decide (s.to < 0) := by rw [hm]; simp
    have ha' := List.mem_filter.1 ha
    have hb' := List.mem_filter.1 hb
    exact absurd ((h a ha'.1).trans (h b hb'.1).symm) ((List.pairwise_cons.1 hp).1 b (by simp) (by simpa using ha'.2) (by simpa using hb'.2))
theorem ab_thread {l L : List Sp} (h : L.map ab = l.map ab) {t : Int} (hl : ∀ s ∈ l, s.thread = t) : ∀ s ∈ L, s.thread = t := by
  intro s hs
  have : ab s ∈ L.map ab := List.mem_map.2 ⟨s, hs, rfl⟩
  rw [h] at this
  obtain ⟨x, hx, e⟩ := List.mem_map.1 this
  have e2 : x.thread = s.thread := congrArg (fun y => y.2.1) e
  rw [← e2]; exact hl x hx
/-- The place of a span among those of its thread. -/
theorem place (q : Sp → Bool) : ∀ (S : List Sp) (k : Nat) (hk : k < S.length), q S[k] = true → (S.filter q)[(S.take k).countP q]? = some S[k]
  | s :: r, 0, _, h => by
    have h' : q s = true := h
    simp [h']
  | s :: r, k + 1, hk, h => by
    have hk' : k < r.length := by simpa using hk
    have ih := place q r k hk' h
    rw [List.take_succ_cons, List.countP_cons, List.filter_cons]
    by_cases q1 : q s = true
    · rw [if_pos q1, if_pos q1, List.getElem?_cons_succ]; exact ih
    · rw [if_neg q1, if_neg q1, Nat.add_zero]; exact ih
theorem place_ab {S M : List Sp} {t : Int} (h : M.map ab = (keepS (byT t) S).map ab) {k : Nat} (hk : k < S.length) (ht : (S[k]).thread = t) :
    ∃ hn : (S.take k).countP (fun s => s.thread == t) < M.length, ab (M[(S.take k).countP fun s => s.thread == t]) = ab S[k] := by
  have h1 := place (fun s => s.thread == t) S k hk (by simpa using ht)
  have h2 := congrArg (fun x => x[(S.take k).countP fun s => s.thread == t]?) h
  simp only [List.getElem?_map] at h2
  rw [show (keepS (byT t) S) = S.filter (fun s => s.thread == t) from rfl, h1] at h2
  simp only [Option.map_some, Option.map_eq_some_iff] at h2
  obtain ⟨x, hx, e⟩ := h2
  obtain ⟨hn, rfl⟩ := List.getElem?_eq_some_iff.1 hx
  exact ⟨hn, e⟩
theorem ab_parts {s s' : Sp} (h : ab s = ab s') : s.call = s'.call ∧ s.act = s'.act ∧ decide (s.to < 0) = decide (s'.to < 0) :=
  ⟨congrArg (fun x => x.1) h, congrArg (fun x => x.2.2.2) h, congrArg (fun x => x.2.2.1) h⟩
theorem count_all {S M : List Sp} {t : Int} (h : M.map ab = (keepS (byT t) S).map ab) : S.countP (fun s => s.thread == t) = M.length := by
  have := congrArg List.length h
  simp only [List.length_map] at this
  rw [this, List.countP_eq_length_filter]; rfl
theorem count_snoc (S : List Sp) (q : Sp → Bool) {k : Nat} (hk : k < S.length) : (S.take (k + 1)).countP q = (S.take k).countP q + (if q S[k] = true then 1 else 0) := by
  rw [List.take_add_one, List.getElem?_eq_getElem hk, List.countP_append]
  simp [List.countP_cons]
/-- How many events are of some threads. -/
def ofT (l : List Ev) (T : List Int) : Nat := l.countP fun e => T.contains e.thread
theorem ofT_cons (l : List Ev) (T : List Int) (t : Int) (h : T.contains t = false) : ofT l (t :: T) = ofT l T + (keepE (byT t) l).length := by
  unfold ofT
  rw [← List.countP_eq_length_filter]
  induction l with
  | nil => rfl
  | cons e r ih =>
    rw [List.countP_cons, List.countP_cons, List.countP_cons, ih]
    by_cases q : e.thread = t
    · have e1 : T.contains e.thread = false := by rw [q]; exact h
      have e2 : (t :: T).contains e.thread = true := by rw [List.contains_cons, q]; simp
      have e3 : byT t e.call e.thread = true := by unfold byT; rw [q]; simp
      rw [if_pos e2, if_neg (by rw [e1]; simp), if_pos e3]
      omega
    · have e2 : (t :: T).contains e.thread = T.contains e.thread := by
        rw [List.contains_cons, show (e.thread == t) = false by simpa using q, Bool.false_or]
      have e3 : ¬ byT t e.call e.thread = true := by unfold byT; simpa using q
      rw [e2, if_neg e3]
      omega
theorem ofT_all {l : List Ev} {T : List Int} (h : ∀ e ∈ l, T.contains e.thread = true) : ofT l T = l.length := by
  unfold ofT
  rw [List.countP_eq_length]
  exact h
theorem ofT_nil (l : List Ev) : ofT l [] = 0 := by unfold ofT; simp
theorem ofT_le (l : List Ev) (T : List Int) : ofT l T ≤ l.length := List.countP_le_length
end Go.Proofs.YtekjmgdockfaiaaDoor
