
/- Plain facts of histories: events, spans, what is wrong next, what a history comes to, parts of it. -/
import Derived.Test.YtekjmgdockfaiaaDoorNw
namespace Go.Proofs.YtekjmgdockfaiaaDoor

structure Ac where
  kind : Int
  txn : Int
  tab : Int
  rcd : Int
  mode : Int
  code : Int
structure Ev where
  call : Int
  thread : Int
  inv : Bool
  act : Ac
structure Sp where
  call : Int
  thread : Int
  fr : Int
  to : Int
  act : Ac

def okB (a : Ac) : Bool := (decide (1 ≤ a.kind) && decide (a.kind ≤ 4)) && (a.code == 0)
def okF (a : Ac) : Bool := (decide (1 ≤ a.code) && decide (a.code ≤ 6)) && ((a.kind == 0) && (a.txn == 0) && (a.tab == 0) && (a.rcd == 0) && (a.mode == 0))
/-- What an event is by itself. -/
def okE (e : Ev) : Bool := !(decide (e.call < 0) || decide (e.thread < 0)) && (if e.inv = true then okB e.act else okF e.act)
def hasC (l : List Sp) (c : Int) : Bool := l.any fun s => s.call == c
def busyT (l : List Sp) (t : Int) : Bool := l.any fun s => s.thread == t && decide (s.to < 0)
/-- The span that an event ends. -/
def mt (e : Ev) (s : Sp) : Bool := (s.call == e.call && s.thread == e.thread) && decide (s.to < 0)
def nxt (l : List Sp) (e : Ev) : Int :=
  if okE e = false then 2
  else if e.inv = true then (if hasC l e.call = true then 4 else if busyT l e.thread = true then 7 else 0)
  else if l.any (mt e) = true then 0 else 5
def fin (i : Nat) (e : Ev) (s : Sp) : Sp := ⟨s.call, s.thread, s.fr, i, ⟨s.act.kind, s.act.txn, s.act.tab, s.act.rcd, s.act.mode, e.act.code⟩⟩
def new (i : Nat) (e : Ev) : Sp := ⟨e.call, e.thread, i, -1, e.act⟩
def upd (l : List Sp) (i : Nat) (e : Ev) : List Sp :=
  if e.inv = true then l ++ [new i e] else l.map fun s => if mt e s = true then fin i e s else s
/-- What a history comes to: spans, the place of the first wrong event, its error. -/
def trk : List Ev → Nat → List Sp → List Sp × Nat × Int
  | [], _, l => (l, 0, 0)
  | e :: r, i, l => if nxt l e = 0 then trk r (i + 1) (upd l i e) else (l, i, nxt l e)

theorem trk_ok {e : Ev} {l : List Sp} (r : List Ev) (i : Nat) (h : nxt l e = 0) : trk (e :: r) i l = trk r (i + 1) (upd l i e) := by
  show (if nxt l e = 0 then _ else _) = _
  rw [if_pos h]
theorem trk_no {e : Ev} {l : List Sp} (r : List Ev) (i : Nat) (h : nxt l e ≠ 0) : trk (e :: r) i l = (l, i, nxt l e) := by
  show (if nxt l e = 0 then _ else _) = _
  rw [if_neg h]

/-- Where it goes wrong, the part before is right. -/
theorem trk_front : ∀ (r : List Ev) (i : Nat) (l : List Sp), (trk r i l).2.2 ≠ 0 → i ≤ (trk r i l).2.1 ∧ (trk r i l).2.1 < i + r.length ∧ trk (r.take ((trk r i l).2.1 - i)) i l = ((trk r i l).1, 0, 0)
  | [], i, l, h => by simp [trk] at h
  | e :: r, i, l, h => by
    by_cases h0 : nxt l e = 0
    · rw [trk_ok r i h0] at h ⊢
      obtain ⟨h1, h2, h3⟩ := trk_front r (i + 1) _ h
      refine ⟨by omega, by simp; omega, ?_⟩
      generalize hk : (trk r (i + 1) (upd l i e)).2.1 = k at *
      obtain ⟨d, rfl⟩ : ∃ d, k = i + 1 + d := ⟨k - (i + 1), by omega⟩
      rw [show i + 1 + d - i = d + 1 by omega, List.take_succ_cons, trk_ok _ i h0]
      rw [show i + 1 + d - (i + 1) = d by omega] at h3
      exact h3
    · rw [trk_no r i h0]
      simp [trk]

/-! ### what holds of the spans of a right history -/
structure Good (l : List Sp) (i : Nat) : Prop where
  calls : l.Pairwise fun s s' => s.call ≠ s'.call
  busy : l.Pairwise fun s s' => s.to < 0 → s'.to < 0 → s.thread ≠ s'.thread
  rise : l.Pairwise fun s s' => s.fr < s'.fr
  apart : l.Pairwise fun s s' => s.thread = s'.thread → 0 ≤ s.to ∧ s.to < s'.fr
  fr : ∀ s ∈ l, 0 ≤ s.fr ∧ s.fr < i
  to : ∀ s ∈ l, s.to = -1 ∨ (s.fr < s.to ∧ s.to < i)
  pos : ∀ s ∈ l, 0 ≤ s.call ∧ 0 ≤ s.thread

theorem any_no {α : Type} {p : α → Bool} {l : List α} (h : l.any p = false) : ∀ x ∈ l, p x = false := by simpa using h
theorem Good.nil : Good [] 0 := ⟨.nil, .nil, .nil, .nil, by simp, by simp, by simp⟩
theorem okE_pos {e : Ev} (h : okE e = true) : 0 ≤ e.call ∧ 0 ≤ e.thread := by
  unfold okE at h
  simp at h
  omega
theorem nxt_okE {l : List Sp} {e : Ev} (h : nxt l e = 0) : okE e = true := by
  unfold nxt at h
  by_cases q : okE e = false
  · rw [if_pos q] at h; cases h
  · simpa using q
theorem nxt_inv {l : List Sp} {e : Ev} (h : nxt l e = 0) (hi : e.inv = true) : hasC l e.call = false ∧ busyT l e.thread = false := by
  have hk := nxt_okE h
  unfold nxt at h
  rw [if_neg (by simp [hk]), if_pos hi] at h
  by_cases q : hasC l e.call = true
  · rw [if_pos q] at h; cases h
  · rw [if_neg q] at h
    by_cases q2 : busyT l e.thread = true
    · rw [if_pos q2] at h; cases h
    · exact ⟨by simpa using q, by simpa using q2⟩
theorem nxt_end {l : List Sp} {e : Ev} (h : nxt l e = 0) (hi : e.inv = false) : l.any (mt e) = true := by
  have hk := nxt_okE h
  unfold nxt at h
  rw [if_neg (by simp [hk]), if_neg (by simp [hi])] at h
  by_cases q : l.any (mt e) = true
  · exact q
  · rw [if_neg q] at h; cases h
theorem pw_app {α : Type} {R : α → α → Prop} {l : List α} {x : α} (h : l.Pairwise R) (hx : ∀ y ∈ l, R y x) : (l ++ [x]).Pairwise R := by
  rw [List.pairwise_append]
  exact ⟨h, List.pairwise_singleton _ _, fun a ha b hb => by simp at hb; subst hb; exact hx a ha⟩
theorem pw_map {α : Type} {R : α → α → Prop} {l : List α} {f : α → α} (h : l.Pairwise R) (hf : ∀ a ∈ l, ∀ b ∈ l, R a b → R (f a) (f b)) : (l.map f).Pairwise R := by
  rw [List.pairwise_map]
  exact h.imp_of_mem fun {a b} ha hb r => hf a ha b hb r
theorem mt_iff {e : Ev} {s : Sp} : mt e s = true ↔ s.call = e.call ∧ s.thread = e.thread ∧ s.to < 0 := by
  unfold mt
  simp [and_assoc]

theorem Good.step {l : List Sp} {i : Nat} {e : Ev} (g : Good l i) (h : nxt l e = 0) : Good (upd l i e) (i + 1) := by
  have hp := okE_pos (nxt_okE h)
  unfold upd
  cases hi : e.inv with
  | true =>
    obtain ⟨h1, h2⟩ := nxt_inv h hi
    have c := any_no h1
    have b := any_no h2
    rw [if_pos rfl]
    refine ⟨pw_app g.calls fun y hy => by have := c y hy; simpa [new] using this, pw_app g.busy fun y hy a _ q => ?_, pw_app g.rise fun y hy => by have := g.fr y hy; show y.fr < (i : Int); omega, pw_app g.apart fun y hy q => ?_, ?_, ?_, ?_⟩
    · have := b y hy
      simp [new] at this q
      exact absurd (this q) (by omega)
    · have := b y hy
      simp [new] at this q
      have t := g.to y hy
      have f := this q
      show 0 ≤ y.to ∧ y.to < (i : Int)
      omega
    · intro s hs
      rcases List.mem_append.1 hs with hs | hs
      · have := g.fr s hs; omega
      · simp at hs; subst hs; show 0 ≤ (i : Int) ∧ (i : Int) < _; omega
    · intro s hs
      rcases List.mem_append.1 hs with hs | hs
      · have := g.to s hs; omega
      · simp at hs; subst hs; exact .inl rfl
    · intro s hs
      rcases List.mem_append.1 hs with hs | hs
      · exact g.pos s hs
      · simp at hs; subst hs; exact hp
  | false =>
    rw [if_neg (by simp)]
    have hc : ∀ s, (if mt e s = true then fin i e s else s).call = s.call ∧ (if mt e s = true then fin i e s else s).thread = s.thread ∧ (if mt e s = true then fin i e s else s).fr = s.fr := fun s => by
      by_cases q : mt e s = true
      · rw [if_pos q]; exact ⟨rfl, rfl, rfl⟩
      · rw [if_neg q]; exact ⟨rfl, rfl, rfl⟩
    have ht : ∀ s, (if mt e s = true then fin i e s else s).to < 0 → s.to < 0 ∧ (if mt e s = true then fin i e s else s) = s := fun s => by
      by_cases q : mt e s = true
      · rw [if_pos q]; intro z; simp [fin] at z; omega
      · rw [if_neg q]; exact fun z => ⟨z, rfl⟩
    refine ⟨pw_map g.calls fun a _ b _ r => by rw [(hc a).1, (hc b).1]; exact r, pw_map g.busy fun a _ b _ r x y => by rw [(hc a).2.1, (hc b).2.1]; exact r (ht a x).1 (ht b y).1, pw_map g.rise fun a _ b _ r => by rw [(hc a).2.2, (hc b).2.2]; exact r, pw_map g.apart fun a ha b hb r q => ?_, ?_, ?_, ?_⟩
    · rw [(hc a).2.1, (hc b).2.1] at q
      rw [(hc b).2.2]
      have r' := r q
      by_cases z : mt e a = true
      · have := (mt_iff.1 z).2.2; omega
      · rw [if_neg z]; exact r'
    · intro s hs
      obtain ⟨a, ha, rfl⟩ := List.mem_map.1 hs
      rw [(hc a).2.2]
      have := g.fr a ha; omega
    · intro s hs
      obtain ⟨a, ha, rfl⟩ := List.mem_map.1 hs
      rw [(hc a).2.2]
      have := g.to a ha
      have := g.fr a ha
      by_cases z : mt e a = true
      · rw [if_pos z]; right; show a.fr < (i : Int) ∧ (i : Int) < _; omega
      · rw [if_neg z]; omega
    · intro s hs
      obtain ⟨a, ha, rfl⟩ := List.mem_map.1 hs
      rw [(hc a).1, (hc a).2.1]
      exact g.pos a ha
theorem Good.trk : ∀ (r : List Ev) (i : Nat) (l : List Sp), Good l i → (Go.Proofs.YtekjmgdockfaiaaDoor.trk r i l).2.2 = 0 → Good (Go.Proofs.YtekjmgdockfaiaaDoor.trk r i l).1 (i + r.length)
  | [], i, l, g, _ => g
  | e :: r, i, l, g, h => by
    by_cases h0 : nxt l e = 0
    · rw [trk_ok r i h0] at h ⊢
      have := Good.trk r (i + 1) _ (g.step h0) h
      rwa [List.length_cons, show i + (r.length + 1) = i + 1 + r.length by omega]
    · rw [trk_no r i h0] at h; exact absurd h h0
theorem Good.part : ∀ (r : List Ev) (i : Nat) (l : List Sp), Good l i → ∃ k, k ≤ i + r.length ∧ Good (Go.Proofs.YtekjmgdockfaiaaDoor.trk r i l).1 k
  | [], i, l, g => ⟨i, by simp, g⟩
  | e :: r, i, l, g => by
    by_cases h0 : nxt l e = 0
    · rw [trk_ok r i h0]
      obtain ⟨k, h1, h2⟩ := Good.part r (i + 1) _ (g.step h0)
      exact ⟨k, by simp; omega, h2⟩
    · rw [trk_no r i h0]; exact ⟨i, by simp, g⟩

/-! ### spans and events -/
def begOf (s : Sp) : Ev := ⟨s.call, s.thread, true, ⟨s.act.kind, s.act.txn, s.act.tab, s.act.rcd, s.act.mode, 0⟩⟩
def endOf (s : Sp) : Ev := ⟨s.call, s.thread, false, ⟨0, 0, 0, 0, 0, s.act.code⟩⟩
/-- Each span tells its events; each event is a span's. -/
structure Told (l : List Sp) (p : List Ev) : Prop where
  beg : ∀ s ∈ l, p[s.fr.toNat]? = some (begOf s)
  ends : ∀ s ∈ l, 0 ≤ s.to → p[s.to.toNat]? = some (endOf s)
  cov : ∀ i, i < p.length → ∃ s ∈ l, s.fr = i ∨ s.to = i
  pend : ∀ s ∈ l, s.to < 0 → s.act.code = 0
  cnt : l.length + (l.filter fun s => decide (0 ≤ s.to)).length = p.length
theorem Told.nil : Told [] [] := ⟨by simp, by simp, by simp, by simp, rfl⟩
theorem ac_eta (a : Ac) : (⟨a.kind, a.txn, a.tab, a.rcd, a.mode, a.code⟩ : Ac) = a := rfl
theorem Told.step {l : List Sp} {p : List Ev} {e : Ev} (t : Told l p) (g : Good l p.length) (h : nxt l e = 0) : Told (upd l p.length e) (p ++ [e]) := by
  have hk := nxt_okE h
  have inFront : ∀ {n : Nat} {x : Ev}, p[n]? = some x → (p ++ [e])[n]? = some x := fun {n x} hx => by
    rw [List.getElem?_append_left (List.getElem?_eq_some_iff.1 hx).1]; exact hx
  have atEnd : (p ++ [e])[((p.length : Nat) : Int).toNat]? = some e := by simp
  unfold upd
  cases hi : e.inv with
  | true =>
    rw [if_pos rfl]
    have hcode : e.act.code = 0 := by
      unfold okE okB at hk
      rw [hi] at hk
      simp at hk
      exact hk.2.2
    refine ⟨?_, ?_, ?_, ?_, ?_⟩
    · intro s hs
      rcases List.mem_append.1 hs with hs | hs
      · exact inFront (t.beg s hs)
      · simp at hs; subst hs
        show (p ++ [e])[((p.length : Nat) : Int).toNat]? = _
        rw [atEnd]
        unfold begOf new
        rw [← hcode, ← hi]
    · intro s hs h0
      rcases List.mem_append.1 hs with hs | hs
      · exact inFront (t.ends s hs h0)
      · simp at hs; subst hs; simp [new] at h0
    · intro i hl
      simp at hl
      by_cases q : i < p.length
      · obtain ⟨s, hs, r⟩ := t.cov i q
        exact ⟨s, List.mem_append_left _ hs, r⟩
      · exact ⟨new p.length e, by simp, .inl (by simp [new]; omega)⟩
    · intro s hs h0
      rcases List.mem_append.1 hs with hs | hs
      · exact t.pend s hs h0
      · simp at hs; subst hs; exact hcode
    · have hf : (l ++ [new p.length e]).filter (fun s => decide (0 ≤ s.to)) = l.filter (fun s => decide (0 ≤ s.to)) := by
        rw [List.filter_append]; simp [new]
      rw [hf]
      have := t.cnt
      simp
      omega
  | false =>
    rw [if_neg (by simp)]
    have hany := nxt_end h hi
    have he : e = ⟨e.call, e.thread, false, ⟨0, 0, 0, 0, 0, e.act.code⟩⟩ := by
      unfold okE okF at hk
      rw [hi] at hk
      simp at hk
      obtain ⟨ec, et, ei, ⟨k1, k2, k3, k4, k5, k6⟩⟩ := e
      simp at hk hi ⊢
      subst hi
      simp [hk]
    refine ⟨?_, ?_, ?_, ?_, ?_⟩
    · intro s hs
      obtain ⟨a, ha, rfl⟩ := List.mem_map.1 hs
      by_cases z : mt e a = true
      · rw [if_pos z]; exact inFront (t.beg a ha)
      · rw [if_neg z]; exact inFront (t.beg a ha)
    · intro s hs h0
      obtain ⟨a, ha, rfl⟩ := List.mem_map.1 hs
      by_cases z : mt e a = true
      · rw [if_pos z]
        obtain ⟨z1, z2, _⟩ := mt_iff.1 z
        show (p ++ [e])[((p.length : Nat) : Int).toNat]? = _
        rw [atEnd]
        unfold endOf fin
        rw [z1, z2]
        exact congrArg some he
      · rw [if_neg z] at h0 ⊢; exact inFront (t.ends a ha h0)
    · intro i hl
      simp at hl
      by_cases q : i < p.length
      · obtain ⟨s, hs, r⟩ := t.cov i q
        refine ⟨_, List.mem_map.2 ⟨s, hs, rfl⟩, ?_⟩
        by_cases z : mt e s = true
        · rw [if_pos z]
          rcases r with r | r
          · exact .inl r
          · have := (mt_iff.1 z).2.2; omega
        · rw [if_neg z]; exact r
      · obtain ⟨s, hs, z⟩ := List.any_eq_true.1 hany
        refine ⟨_, List.mem_map.2 ⟨s, hs, rfl⟩, .inr ?_⟩
        rw [if_pos z]; show ((p.length : Nat) : Int) = i; omega
    · intro s hs h0
      obtain ⟨a, ha, rfl⟩ := List.mem_map.1 hs
      by_cases z : mt e a = true
      · rw [if_pos z] at h0; simp [fin] at h0; omega
      · rw [if_neg z] at h0 ⊢; exact t.pend a ha h0
    · -- one more has ended
      have key : ∀ l : List Sp, l.Pairwise (fun s s' => s.call ≠ s'.call) → l.any (mt e) = true → ((l.map fun s => if mt e s = true then fin p.length e s else s).filter fun s => decide (0 ≤ s.to)).length = (l.filter fun s => decide (0 ≤ s.to)).length + 1 := by
        intro l
        induction l with
        | nil => intro _ h; simp at h
        | cons s r ih =>
          intro hp ha
          obtain ⟨hp1, hp2⟩ := List.pairwise_cons.1 hp
          by_cases z : mt e s = true
          · have z1 := mt_iff.1 z
            have hr : r.map (fun s => if mt e s = true then fin p.length e s else s) = r := (List.map_congr_left (g := id) (fun x hx => by
                have : ¬ mt e x = true := fun q => hp1 x hx (z1.1.trans (mt_iff.1 q).1.symm)
                rw [if_neg this]; rfl)).trans (List.map_id _)
            rw [List.map_cons, hr, if_pos z, List.filter_cons, List.filter_cons, if_pos (by simp [fin]), if_neg (by simp; omega)]
            simp
          · have ha' : r.any (mt e) = true := by
              simp only [List.any_cons, Bool.or_eq_true] at ha
              exact ha.resolve_left z
            have := ih hp2 ha'
            rw [List.map_cons, if_neg z, List.filter_cons, List.filter_cons]
            by_cases q : decide (0 ≤ s.to) = true
            · rw [if_pos q, if_pos q]; simp only [List.length_cons]; omega
            · rw [if_neg q, if_neg q]; exact this
      have := key l g.calls hany
      have := t.cnt
      simp
      omega
theorem Told.trk : ∀ (r p : List Ev) (l : List Sp), Told l p → Good l p.length → (Go.Proofs.YtekjmgdockfaiaaDoor.trk r p.length l).2.2 = 0 → Told (Go.Proofs.YtekjmgdockfaiaaDoor.trk r p.length l).1 (p ++ r)
  | [], p, l, t, _, _ => by simpa [Go.Proofs.YtekjmgdockfaiaaDoor.trk] using t
  | e :: r, p, l, t, g, h => by
    by_cases h0 : nxt l e = 0
    · rw [trk_ok r _ h0] at h ⊢
      have t' := t.step g h0
      have g' : Good (upd l p.length e) (p ++ [e]).length := by simpa using g.step h0
      have := Told.trk r (p ++ [e]) _ t' g' (by simpa using h)
      simpa using this
    · rw [trk_no r _ h0] at h; exact absurd h h0
end Go.Proofs.YtekjmgdockfaiaaDoor
