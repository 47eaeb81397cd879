
/- Scripts and their bytes: the plain facts. -/
import Derived.Test.YtmegaipedagcjaaNameB
namespace Go.Proofs.Ytmegaipedagcjaa

abbrev Od := Int × Int × Int × Int × Int × Int
abbrev Bw := Int × Int
abbrev Sh := Bw × Bw × Bw × Bw
abbrev Cp := Int × Int × Int × Int
def inB (b : Bw) (x : Int) : Bool := decide (b.1 ≤ x) && decide (x ≤ b.2)
def sh0 : Sh := ((0, 0), (0, 0), (0, 0), (0, 0))
def shR : Sh := ((2, 2), (0, 0), (0, 0), (0, 255))
def shW : Sh := ((2, 2), (0, 0), (0, 255), (0, 255))
def shS : Sh := ((1, 1), (0, 0), (0, 0), (0, 255))
def shL : Sh := ((0, 2), (1, 6), (0, 0), (0, 255))
def shU : Sh := ((0, 2), (0, 0), (0, 0), (0, 0))
/-- What operations of one kind have, and whether there is such a kind. -/
def shp (k : Int) : Sh × Bool :=
  if k = 1 ∨ k = 7 ∨ k = 8 ∨ k = 11 then (sh0, true) else if k = 2 ∨ k = 5 then (shR, true) else if k = 3 ∨ k = 4 then (shW, true)
  else if k = 6 then (shS, true) else if k = 9 then (shL, true) else if k = 10 then (shU, true) else (sh0, false)
theorem shp_cases (k : Int) : ((k = 1 ∨ k = 7 ∨ k = 8 ∨ k = 11) ∧ shp k = (sh0, true)) ∨ ((k = 2 ∨ k = 5) ∧ shp k = (shR, true)) ∨ ((k = 3 ∨ k = 4) ∧ shp k = (shW, true)) ∨
    (k = 6 ∧ shp k = (shS, true)) ∨ (k = 9 ∧ shp k = (shL, true)) ∨ (k = 10 ∧ shp k = (shU, true)) ∨ ((k < 1 ∨ 11 < k) ∧ shp k = (sh0, false)) := by
  by_cases h : k < 1 ∨ 11 < k
  · refine .inr (.inr (.inr (.inr (.inr (.inr ⟨h, ?_⟩)))))
    unfold shp
    rw [if_neg (by omega), if_neg (by omega), if_neg (by omega), if_neg (by omega), if_neg (by omega), if_neg (by omega)]
  · have : k = 1 ∨ k = 2 ∨ k = 3 ∨ k = 4 ∨ k = 5 ∨ k = 6 ∨ k = 7 ∨ k = 8 ∨ k = 9 ∨ k = 10 ∨ k = 11 := by omega
    rcases this with rfl | rfl | rfl | rfl | rfl | rfl | rfl | rfl | rfl | rfl | rfl <;> simp [shp]
/-- Whether an operation is valid. -/
def okO (o : Od) : Bool := (shp o.1).2 && (inB (shp o.1).1.1 (lvl o.2.1 o.2.2.1) && (inB (shp o.1).1.2.1 o.2.2.2.1 && (inB (shp o.1).1.2.2.1 o.2.2.2.2.1 && inB (shp o.1).1.2.2.2 o.2.2.2.2.2)))
theorem lvl_in (t r : Int) (h : 0 ≤ lvl t r) : -1 ≤ t ∧ t < 100 ∧ -1 ≤ r ∧ r < 100 := by
  unfold lvl at h
  repeat' split at h
  all_goals omega
theorem okO_range {k t r m v x : Int} (h : okO (k, t, r, m, v, x) = true) : (1 ≤ k ∧ k ≤ 11) ∧ (-1 ≤ t ∧ t < 100 ∧ -1 ≤ r ∧ r < 100) ∧ (0 ≤ m ∧ m ≤ 6) ∧ (0 ≤ v ∧ v ≤ 255) ∧ (0 ≤ x ∧ x ≤ 255) := by
  simp only [okO, inB, Bool.and_eq_true, decide_eq_true_eq] at h
  rcases shp_cases k with ⟨hk, e⟩ | ⟨hk, e⟩ | ⟨hk, e⟩ | ⟨hk, e⟩ | ⟨hk, e⟩ | ⟨hk, e⟩ | ⟨hk, e⟩ <;> rw [e] at h <;> simp only [sh0, shR, shW, shS, shL, shU] at h <;> try exact absurd h.1 (by decide)
  all_goals
    obtain ⟨_, ⟨h1, h2⟩, ⟨h3, h4⟩, ⟨h5, h6⟩, h7, h8⟩ := h
    exact ⟨by omega, lvl_in t r (by omega), by omega, by omega, by omega⟩

def bt (x : Int) : UInt8 := UInt8.ofNat (x % 256).toNat
def vl (u : UInt8) : Int := (u.toNat : Int)
theorem vl_bd (u : UInt8) : 0 ≤ vl u ∧ vl u < 256 := by have := u.toNat_lt; unfold vl; omega
theorem bt_nat (x : Int) : ((bt x).toNat : Int) = x % 256 := by
  unfold bt
  rw [UInt8.toNat_ofNat']
  omega
theorem bt_of (x : Int) (h0 : 0 ≤ x) (h1 : x < 256) : vl (bt x) = x := by unfold vl; rw [bt_nat]; omega
theorem bt_toNat (t : Nat) (h1 : t < 256) : (bt t).toNat = t := by have := bt_nat t; omega
theorem bt_vl (u : UInt8) : bt (vl u) = u := by
  apply UInt8.toNat_inj.1
  have := bt_nat (vl u)
  have h := u.toNat_lt
  unfold vl at this ⊢
  omega

def capsE (c : Cp) (n : Int) : List UInt8 := [1, bt c.1, bt c.2.1, bt c.2.2.1, bt c.2.2.2, bt n, 0, 0]
def opE (t : Int) (o : Od) : List UInt8 := [2, bt t, bt o.1, bt (o.2.1 + 1), bt (o.2.2.1 + 1), bt o.2.2.2.1, bt o.2.2.2.2.1, bt o.2.2.2.2.2]
def pickE (p : Int × Int) : List UInt8 := [3, bt p.1, bt p.2, 0, 0, 0, 0, 0]

/-- The operation that the last six bytes of an entry say. -/
def odOf (e2 e3 e4 e5 e6 e7 : UInt8) : Od := (vl e2, vl e3 - 1, vl e4 - 1, vl e5, vl e6, vl e7)
/-- The thread and the operation of an entry. -/
def ent : List UInt8 → Option (Nat × Od)
  | [e0, e1, e2, e3, e4, e5, e6, e7] => if e0 = 2 ∧ e1.toNat < 8 ∧ okO (odOf e2 e3 e4 e5 e6 e7) = true then some (e1.toNat, odOf e2 e3 e4 e5 e6 e7) else none
  | _ => none
theorem odOf_op (o : Od) (h : okO o = true) : odOf (bt o.1) (bt (o.2.1 + 1)) (bt (o.2.2.1 + 1)) (bt o.2.2.2.1) (bt o.2.2.2.2.1) (bt o.2.2.2.2.2) = o := by
  obtain ⟨k, t, r, m, v, x⟩ := o
  obtain ⟨⟨a1, a2⟩, ⟨b1, b2, b3, b4⟩, ⟨c1, c2⟩, ⟨d1, d2⟩, f1, f2⟩ := okO_range h
  simp only [odOf, Prod.mk.injEq]
  exact ⟨bt_of k (by omega) (by omega), by rw [bt_of _ (by omega) (by omega)]; omega, by rw [bt_of _ (by omega) (by omega)]; omega, bt_of m (by omega) (by omega), bt_of v (by omega) (by omega), bt_of x (by omega) (by omega)⟩
theorem ent_op (t : Nat) (ht : t < 8) (o : Od) (h : okO o = true) : ent (opE t o) = some (t, o) := by
  have e1 : (bt (t : Int)).toNat = t := bt_toNat t (by omega)
  simp only [opE, ent, odOf_op o h, e1]
  rw [if_pos ⟨trivial, ht, h⟩]
theorem ent_is {e0 e1 e2 e3 e4 e5 e6 e7 : UInt8} {t : Nat} {o : Od} (h : ent [e0, e1, e2, e3, e4, e5, e6, e7] = some (t, o)) : e0 = 2 ∧ e1.toNat < 8 ∧ t = e1.toNat ∧ o = odOf e2 e3 e4 e5 e6 e7 ∧ okO o = true := by
  simp only [ent] at h
  split at h
  · next hc => simp only [Option.some.injEq, Prod.mk.injEq] at h; obtain ⟨rfl, rfl⟩ := h; exact ⟨hc.1, hc.2.1, rfl, rfl, hc.2.2⟩
  · simp at h

/-- A script. -/
structure PS where
  th : List (List Od)
  pk : List (Int × Int)
  cp : Cp
def okC (c : Cp) : Bool := decide (1 ≤ c.1 ∧ c.1 ≤ 16) && (decide (1 ≤ c.2.1 ∧ c.2.1 ≤ 64) && (decide (1 ≤ c.2.2.1 ∧ c.2.2.1 ≤ 128) && decide (0 ≤ c.2.2.2 ∧ c.2.2.2 ≤ 8)))
def okT (n : Int) : Bool := decide (1 ≤ n) && decide (n ≤ 8)
def okP (p : Int × Int) : Bool := decide (1 ≤ p.1 ∧ p.1 ≤ 4 ∧ 0 ≤ p.2 ∧ p.2 ≤ 255)
def okR (l : List Od) : Bool := decide (l.length ≤ 32) && l.all okO
def okS (s : PS) : Bool := okT s.th.length && (s.th.all okR && (decide (s.pk.length ≤ 4096) && (s.pk.all okP && okC s.cp)))
/-- At least n threads. -/
def grow (n : Nat) (th : List (List Od)) : List (List Od) := th ++ List.replicate (n - th.length) []
theorem grow_len (n : Nat) (th : List (List Od)) : (grow n th).length = max th.length n := by simp [grow]; omega
theorem grow_id (n : Nat) (th : List (List Od)) (h : n ≤ th.length) : grow n th = th := by
  unfold grow
  rw [show n - th.length = 0 by omega]; simp
theorem grow_all (n : Nat) (th : List (List Od)) (h : th.all okR = true) : (grow n th).all okR = true := by
  unfold grow
  rw [List.all_append, h, Bool.true_and, List.all_eq_true]
  intro x hx
  rw [List.eq_of_mem_replicate hx]
  decide
theorem grow_one (n : Nat) (h : 1 ≤ n) : grow n [[]] = List.replicate n [] := by
  unfold grow
  obtain ⟨m, rfl⟩ : ∃ m, n = m + 1 := ⟨n - 1, by omega⟩
  simp [List.replicate_succ]
/-- The threads with an operation more. -/
def putO (t : Nat) (o : Od) (th : List (List Od)) : List (List Od) :=
  if (th.getD t []).length < 32 then th.set t (th.getD t [] ++ [o]) else th
def addC (s : PS) (c : Cp) (n : Nat) (e : List UInt8) : PS := if okC c = true ∧ okT n = true ∧ capsE c n = e then ⟨grow n s.th, s.pk, c⟩ else s
def addO (s : PS) (e : List UInt8) : PS := match ent e with
  | none => s
  | some (t, o) => ⟨putO t o (grow (t + 1) s.th), s.pk, s.cp⟩
def addP (s : PS) (p : Int × Int) (e : List UInt8) : PS := if s.pk.length < 4096 ∧ okP p = true ∧ pickE p = e then ⟨s.th, s.pk ++ [p], s.cp⟩ else s
/-- What an entry does to a script. -/
def step (s : PS) : List UInt8 → PS
  | [e0, e1, e2, e3, e4, e5, e6, e7] =>
    if e0 = 1 then addC s (vl e1, vl e2, vl e3, vl e4) e5.toNat [e0, e1, e2, e3, e4, e5, e6, e7]
    else if e0 = 2 then addO s [e0, e1, e2, e3, e4, e5, e6, e7]
    else if e0 = 3 then addP s (vl e1, vl e2) [e0, e1, e2, e3, e4, e5, e6, e7]
    else s
  | _ => s
def ps0 : PS := ⟨[[]], [], (4, 32, 64, 2)⟩
/-- The entries of bytes. -/
def chunks (l : List UInt8) : List (List UInt8) := (List.range (l.length / 8)).map fun k => (l.drop (8 * k)).take 8
/-- The script that bytes represent. -/
def rd (l : List UInt8) : PS := (chunks l).foldl step ps0

theorem okS_parts {s : PS} : okS s = true ↔ (1 ≤ s.th.length ∧ s.th.length ≤ 8) ∧ s.th.all okR = true ∧ s.pk.length ≤ 4096 ∧ s.pk.all okP = true ∧ okC s.cp = true := by
  simp only [okS, okT, Bool.and_eq_true, decide_eq_true_eq]
  constructor
  · rintro ⟨⟨a, b⟩, c, d, e, f⟩; exact ⟨⟨by omega, by omega⟩, c, d, e, f⟩
  · rintro ⟨⟨a, b⟩, c, d, e, f⟩; exact ⟨⟨by omega, by omega⟩, c, d, e, f⟩
theorem putO_len (t : Nat) (o : Od) (th : List (List Od)) : (putO t o th).length = th.length := by unfold putO; split <;> simp
theorem putO_all (t : Nat) (o : Od) (th : List (List Od)) (ho : okO o = true) (h : th.all okR = true) : (putO t o th).all okR = true := by
  unfold putO
  split
  · next hl =>
    rw [List.all_eq_true] at h ⊢
    intro x hx
    rcases List.mem_or_eq_of_mem_set hx with q | rfl
    · exact h x q
    · have hg : okR (th.getD t []) = true := by
        rw [List.getD_eq_getElem?_getD]
        cases hq : th[t]? with
        | none => decide
        | some y => exact h y (List.mem_of_getElem? hq)
      simp only [okR, Bool.and_eq_true, decide_eq_true_eq] at hg ⊢
      refine ⟨by rw [List.length_append, List.length_singleton]; omega, ?_⟩
      rw [List.all_append, hg.2]; simp [ho]
  · exact h
theorem okS_zero : okS ps0 = true := by decide
theorem addC_ok (s : PS) (c : Cp) (n : Nat) (e : List UInt8) (h : okS s = true) : okS (addC s c n e) = true := by
  unfold addC
  split
  · next hc =>
    obtain ⟨h1, h2, h3, h4, h5⟩ := okS_parts.1 h
    have hn := hc.2.1
    simp only [okT, Bool.and_eq_true, decide_eq_true_eq] at hn
    exact okS_parts.2 ⟨by simp only [grow_len]; omega, grow_all _ _ h2, h3, h4, hc.1⟩
  · exact h
theorem addO_ok (s : PS) (e : List UInt8) (h : okS s = true) (he : ∀ t o, ent e = some (t, o) → t < 8 ∧ okO o = true) : okS (addO s e) = true := by
  unfold addO
  cases hq : ent e with
  | none => exact h
  | some p =>
    obtain ⟨t, o⟩ := p
    obtain ⟨h1, h2, h3, h4, h5⟩ := okS_parts.1 h
    obtain ⟨q1, q2⟩ := he t o hq
    exact okS_parts.2 ⟨by simp only [putO_len, grow_len]; omega, putO_all _ _ _ q2 (grow_all _ _ h2), h3, h4, h5⟩
theorem addP_ok (s : PS) (p : Int × Int) (e : List UInt8) (h : okS s = true) : okS (addP s p e) = true := by
  unfold addP
  split
  · next hc =>
    obtain ⟨h1, h2, h3, h4, h5⟩ := okS_parts.1 h
    exact okS_parts.2 ⟨h1, h2, by simp; omega, by rw [List.all_append, h4]; simp [hc.2.1], h5⟩
  · exact h
theorem step_ok (s : PS) (e : List UInt8) (h : okS s = true) : okS (step s e) = true := by
  unfold step
  split
  · next e0 e1 e2 e3 e4 e5 e6 e7 =>
    split
    · exact addC_ok _ _ _ _ h
    · split
      · refine addO_ok _ _ h fun t o q => ?_
        obtain ⟨_, a, b, _, c⟩ := ent_is q
        exact ⟨by omega, c⟩
      · split
        · exact addP_ok _ _ _ h
        · exact h
  · exact h
theorem fold_ok (es : List (List UInt8)) : ∀ s : PS, okS s = true → okS (es.foldl step s) = true := by
  induction es with
  | nil => intro s h; exact h
  | cons e es ih => intro s h; exact ih _ (step_ok s e h)
/-- What is read is valid. -/
theorem rd_ok (l : List UInt8) : okS (rd l) = true := fold_ok _ _ okS_zero

theorem chunks_append (a b : List UInt8) (h : a.length % 8 = 0) : chunks (a ++ b) = chunks a ++ chunks b := by
  obtain ⟨m, hm⟩ : ∃ m, a.length = 8 * m := ⟨a.length / 8, by omega⟩
  have e1 : (a ++ b).length / 8 = m + b.length / 8 := by rw [List.length_append, hm]; omega
  unfold chunks
  rw [e1, show a.length / 8 = m by omega, List.range_add, List.map_append, List.map_map]
  congr 1
  · apply List.map_congr_left
    intro k hk
    have hk := List.mem_range.1 hk
    rw [List.drop_append_of_le_length (by omega), List.take_append_of_le_length (by rw [List.length_drop]; omega)]
  · apply List.map_congr_left
    intro k _
    simp only [Function.comp]
    rw [List.drop_append, List.drop_of_length_le (by omega), List.nil_append, show 8 * (m + k) - a.length = 8 * k by omega]
theorem chunks_short (l : List UInt8) (h : l.length < 8) : chunks l = [] := by
  unfold chunks
  rw [show l.length / 8 = 0 by omega]; rfl
theorem chunks_one (e : List UInt8) (h : e.length = 8) : chunks e = [e] := by
  unfold chunks
  rw [h]
  simp [List.take_of_length_le (by omega : e.length ≤ 8)]
theorem chunks_flat (es : List (List UInt8)) (h : ∀ e ∈ es, e.length = 8) : chunks es.flatten = es := by
  induction es with
  | nil => rfl
  | cons e es ih =>
    have he := h e (List.mem_cons_self ..)
    rw [List.flatten_cons, chunks_append _ _ (by omega), chunks_one e he, ih fun x hx => h x (List.mem_cons_of_mem _ hx)]; rfl
theorem chunks_len (l : List UInt8) : ∀ e ∈ chunks l, e.length = 8 := by
  intro e he
  obtain ⟨k, hk, rfl⟩ := List.mem_map.1 he
  have := List.mem_range.1 hk
  rw [List.length_take, List.length_drop]; omega

/-- The entries of threads from the i-th on, and their bytes. -/
def thsE : Nat → List (List Od) → List (List UInt8)
  | _, [] => []
  | i, ops :: r => ops.map (opE i) ++ thsE (i + 1) r
theorem thsE_append (a b : List (List Od)) : ∀ i, thsE i (a ++ b) = thsE i a ++ thsE (i + a.length) b := by
  induction a with
  | nil => intro i; simp [thsE]
  | cons x a ih => intro i; simp only [List.cons_append, thsE, ih, List.append_assoc, List.length_cons]; rw [show i + 1 + a.length = i + (a.length + 1) by omega]
def ents (s : PS) : List (List UInt8) := capsE s.cp s.th.length :: (thsE 0 s.th ++ s.pk.map pickE)
def bytesOf (s : PS) : List UInt8 := (ents s).flatten
theorem thsE_len (th : List (List Od)) : ∀ i, ∀ e ∈ thsE i th, e.length = 8 := by
  induction th with
  | nil => intro i e he; simp [thsE] at he
  | cons x th ih =>
    intro i e he
    simp only [thsE, List.mem_append, List.mem_map] at he
    rcases he with ⟨o, _, rfl⟩ | he
    · rfl
    · exact ih _ e he
theorem ents_len (s : PS) : ∀ e ∈ ents s, e.length = 8 := by
  intro e he
  simp only [ents, List.mem_cons, List.mem_append, List.mem_map] at he
  rcases he with rfl | he | ⟨p, _, rfl⟩
  · rfl
  · exact thsE_len _ _ e he
  · rfl
theorem flat_mod (es : List (List UInt8)) (h : ∀ e ∈ es, e.length = 8) : es.flatten.length = 8 * es.length := by
  induction es with
  | nil => rfl
  | cons e es ih =>
    rw [List.flatten_cons, List.length_append, h e (List.mem_cons_self ..), ih fun x hx => h x (List.mem_cons_of_mem _ hx), List.length_cons]; omega
theorem bytesOf_len (s : PS) : (bytesOf s).length = 8 * (ents s).length := flat_mod _ (ents_len s)
theorem rd_bytes' (s : PS) : rd (bytesOf s) = (ents s).foldl step ps0 := by unfold rd bytesOf; rw [chunks_flat _ (ents_len s)]

theorem step_op (s : PS) (i : Nat) (hi : i < 8) (o : Od) (ho : okO o = true) : step s (opE i o) = ⟨putO i o (grow (i + 1) s.th), s.pk, s.cp⟩ := by
  have h : step s (opE i o) = addO s (opE i o) := by simp [step, opE]
  rw [h, addO, ent_op i hi o ho]
theorem step_caps (s : PS) (c : Cp) (n : Nat) (hc : okC c = true) (hn : okT n = true) : step s (capsE c n) = ⟨grow n s.th, s.pk, c⟩ := by
  obtain ⟨c1, c2, c3, c4⟩ := c
  have hc' := hc
  have hn' := hn
  simp only [okC, okT, Bool.and_eq_true, decide_eq_true_eq] at hc' hn'
  have e5 : (bt (n : Int)).toNat = n := bt_toNat n (by omega)
  have h : step s (capsE (c1, c2, c3, c4) n) = addC s (c1, c2, c3, c4) n (capsE (c1, c2, c3, c4) n) := by
    simp only [step, capsE, bt_of c1 (by omega) (by omega), bt_of c2 (by omega) (by omega), bt_of c3 (by omega) (by omega), bt_of c4 (by omega) (by omega), e5, if_true]
  rw [h, addC, if_pos ⟨hc, hn, rfl⟩]
theorem step_pick (s : PS) (p : Int × Int) (hp : okP p = true) (hl : s.pk.length < 4096) : step s (pickE p) = ⟨s.th, s.pk ++ [p], s.cp⟩ := by
  obtain ⟨p1, p2⟩ := p
  have hp' := hp
  simp only [okP, decide_eq_true_eq] at hp'
  have h : step s (pickE (p1, p2)) = addP s (p1, p2) (pickE (p1, p2)) := by
    simp [step, pickE, bt_of p1 (by omega) (by omega), bt_of p2 (by omega) (by omega)]
  rw [h, addP, if_pos ⟨hl, hp, rfl⟩]
theorem fold_ops (i : Nat) (hi : i < 8) (ops : List Od) : ∀ (s : PS) (pre : List Od), s.th[i]? = some pre → pre.length + ops.length ≤ 32 → ops.all okO = true →
    (ops.map (opE i)).foldl step s = ⟨s.th.set i (pre ++ ops), s.pk, s.cp⟩ := by
  induction ops with
  | nil =>
    intro s pre h _ _
    obtain ⟨hl, hv⟩ := List.getElem?_eq_some_iff.1 h
    subst hv
    simp
  | cons o ops ih =>
    intro s pre h hlen hall
    rw [List.all_cons, Bool.and_eq_true] at hall
    rw [List.length_cons] at hlen
    obtain ⟨hl, hv⟩ := List.getElem?_eq_some_iff.1 h
    have hp : putO i o (grow (i + 1) s.th) = s.th.set i (pre ++ [o]) := by
      rw [grow_id _ _ (by omega), putO]
      have hg : s.th.getD i [] = pre := by rw [List.getD_eq_getElem?_getD, h]; rfl
      rw [hg, if_pos (by omega)]
    rw [List.map_cons, List.foldl_cons, step_op s i hi o hall.1, hp, ih ⟨s.th.set i (pre ++ [o]), s.pk, s.cp⟩ (pre ++ [o]) (by simp [hl]) (by simp; omega) hall.2]
    simp
theorem fold_ths (rest : List (List Od)) : ∀ (done : List (List Od)) (s : PS), s.th = done ++ List.replicate rest.length [] → done.length + rest.length ≤ 8 → rest.all okR = true →
    (thsE done.length rest).foldl step s = ⟨done ++ rest, s.pk, s.cp⟩ := by
  induction rest with
  | nil => intro done s h _ _; simp [thsE] at h ⊢; cases s; simp_all
  | cons ops rest ih =>
    intro done s h hl hall
    rw [List.all_cons, Bool.and_eq_true] at hall
    have h1 := hall.1
    simp only [okR, Bool.and_eq_true, decide_eq_true_eq] at h1
    rw [List.length_cons] at hl h
    rw [List.replicate_succ] at h
    have hs : s.th[done.length]? = some [] := by rw [h]; simp
    rw [thsE, List.foldl_append, fold_ops done.length (by omega) ops s [] hs (by simp; omega) h1.2]
    have hs2 : s.th.set done.length ([] ++ ops) = (done ++ [ops]) ++ List.replicate rest.length [] := by rw [h]; simp
    rw [hs2]
    have := ih (done ++ [ops]) ⟨(done ++ [ops]) ++ List.replicate rest.length [], s.pk, s.cp⟩ rfl (by simp; omega) hall.2
    simp only [List.length_append, List.length_cons, List.length_nil, Nat.zero_add] at this
    rw [this]
    simp
theorem fold_picks (ps : List (Int × Int)) : ∀ s : PS, s.pk.length + ps.length ≤ 4096 → ps.all okP = true → (ps.map pickE).foldl step s = ⟨s.th, s.pk ++ ps, s.cp⟩ := by
  induction ps with
  | nil => intro s _ _; simp
  | cons p ps ih =>
    intro s hl hall
    rw [List.all_cons, Bool.and_eq_true] at hall
    rw [List.length_cons] at hl
    rw [List.map_cons, List.foldl_cons, step_pick s p hall.1 (by omega), ih _ (by simp; omega) hall.2]
    simp
/-- What is written of a valid script is read as that script. -/
theorem rd_bytes (s : PS) (h : okS s = true) : rd (bytesOf s) = s := by
  obtain ⟨⟨h1, h1'⟩, h2, h3, h4, h5⟩ := okS_parts.1 h
  obtain ⟨th, pk, cp⟩ := s
  have hT : okT (th.length : Int) = true := by
    have := h
    simp only [okS, Bool.and_eq_true] at this
    exact this.1
  rw [rd_bytes', ents, List.foldl_cons, step_caps ps0 cp th.length h5 hT, List.foldl_append]
  have := fold_ths th [] ⟨grow th.length ps0.th, ps0.pk, cp⟩ (by rw [show ps0.th = [[]] from rfl]; simp only [List.nil_append]; exact grow_one _ h1) (by simpa using h1') h2
  simp only [List.length_nil, List.nil_append] at this
  rw [this, fold_picks pk _ (by simpa [ps0] using h3) h4]
  simp [ps0]
theorem rd_append (a b : List UInt8) (h : a.length % 8 = 0) : rd (a ++ b) = (chunks b).foldl step (rd a) := by unfold rd; rw [chunks_append a b h, List.foldl_append]
theorem rd_short (a b : List UInt8) (h : a.length % 8 = 0) (hb : b.length < 8) : rd (a ++ b) = rd a := by rw [rd_append a b h, chunks_short b hb]; rfl
theorem rd_one (a e : List UInt8) (h : a.length % 8 = 0) (he : e.length = 8) : rd (a ++ e) = step (rd a) e := by rw [rd_append a e h, chunks_one e he]; rfl
theorem rd_mid (a e b : List UInt8) (h : a.length % 8 = 0) (he : e.length = 8) (hs : ∀ s, step s e = s) : rd (a ++ e ++ b) = rd (a ++ b) := by
  rw [rd_append (a ++ e) b (by simp; omega), rd_one a e h he, hs, rd_append a b h]
end Go.Proofs.Ytmegaipedagcjaa
