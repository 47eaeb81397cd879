
/- Plain facts of queues of requests: what a head may be, who blocks whom, what asks, upgrades, leaves and grants make of it. -/
import Derived.Test.YtmciiobncfchlaaModeA
namespace Go.Proofs.Ytmciiobncfchlaa
set_option linter.unusedVariables false

structure Rq where
  id : Int
  txn : Int
  md : Int
  wt : Int
  sn : Int

def knI (m : Int) : Bool := decide (0 ≤ m) && decide (m < 7)
def cpI (a b : Int) : Bool := (knI a && knI b) && cmpT a b
def cvI (a b : Int) : Bool := (knI a && knI b) && (supT a b == a)
theorem knI_iff (m : Int) : knI m = true ↔ 0 ≤ m ∧ m < 7 := by simp [knI]
theorem two_kn {p : Int → Int → Bool} (h : ∀ i < 7, ∀ j < 7, p (Int.ofNat i) (Int.ofNat j) = true) (a b : Int) (ha : knI a = true) (hb : knI b = true) : p a b = true := by
  rw [knI_iff] at ha hb
  obtain ⟨i, rfl⟩ := Int.eq_ofNat_of_zero_le ha.1
  obtain ⟨j, rfl⟩ := Int.eq_ofNat_of_zero_le hb.1
  exact h i (by omega) j (by omega)
theorem cmp_symm_all : ∀ i < 7, ∀ j < 7, (cmpT (Int.ofNat i) (Int.ofNat j) == cmpT (Int.ofNat j) (Int.ofNat i)) = true := by decide +kernel
theorem cmp_symm (a b : Int) (ha : knI a = true) (hb : knI b = true) : cmpT a b = cmpT b a := by
  have := two_kn (p := fun a b => cmpT a b == cmpT b a) cmp_symm_all a b ha hb
  simpa using this
theorem sup_kn_all : ∀ i < 7, ∀ j < 7, knI (supT (Int.ofNat i) (Int.ofNat j)) = true := by decide +kernel
theorem sup_kn (a b : Int) (ha : knI a = true) (hb : knI b = true) : knI (supT a b) = true := two_kn (p := fun a b => knI (supT a b)) sup_kn_all a b ha hb
theorem cv_zero_all : ∀ i < 7, ∀ j < 7, (cvI (Int.ofNat i) 0 && (cvI 0 (Int.ofNat j) == (Int.ofNat j == 0))) = true := by decide +kernel
theorem cv_zero (a : Int) (ha : knI a = true) : cvI a 0 = true := by
  have := two_kn (p := fun a b => cvI a 0 && (cvI 0 b == (b == 0))) cv_zero_all a a ha ha
  simp at this
  exact this.1
theorem zero_cv (a : Int) (ha : knI a = true) (h : a ≠ 0) : cvI 0 a = false := by
  have := two_kn (p := fun a b => cvI a 0 && (cvI 0 b == (b == 0))) cv_zero_all a a ha ha
  simp at this
  rw [this.2]
  simpa using h
/-- The supremum is not covered unless it is the mode itself; it is no mode's none. -/
theorem sup_cv_all : ∀ i < 7, ∀ j < 7, ((supT (Int.ofNat i) (Int.ofNat j) == Int.ofNat i) == cvI (Int.ofNat i) (supT (Int.ofNat i) (Int.ofNat j)) && (Int.ofNat i == 0 || supT (Int.ofNat i) (Int.ofNat j) != 0)) = true := by decide +kernel
theorem sup_cv (a b : Int) (ha : knI a = true) (hb : knI b = true) (h : supT a b ≠ a) : cvI a (supT a b) = false := by
  have := two_kn (p := fun a b => (supT a b == a) == cvI a (supT a b) && (a == 0 || supT a b != 0)) sup_cv_all a b ha hb
  simp only [Bool.and_eq_true, beq_iff_eq] at this
  rw [← this.1]
  simpa using h
theorem sup_ne (a b : Int) (ha : knI a = true) (hb : knI b = true) (h : a ≠ 0) : supT a b ≠ 0 := by
  have := two_kn (p := fun a b => (supT a b == a) == cvI a (supT a b) && (a == 0 || supT a b != 0)) sup_cv_all a b ha hb
  simp only [Bool.and_eq_true, beq_iff_eq, Bool.or_eq_true, bne_iff_ne] at this
  exact this.2.resolve_left h
theorem cp_kn (a b : Int) (ha : knI a = true) (hb : knI b = true) : cpI a b = cmpT a b := by simp [cpI, ha, hb]
theorem cp_symm (a b : Int) : cpI a b = cpI b a := by
  unfold cpI
  by_cases ha : knI a = true
  · by_cases hb : knI b = true
    · rw [ha, hb, cmp_symm a b ha hb]
    · simp [hb]
  · simp [ha]

/-- A request is as it may be. -/
structure Rt (W : Int) (r : Rq) : Prop where
  id : 0 ≤ r.id
  md : knI r.md = true
  wt : knI r.wt = true
  s0 : 0 ≤ r.sn
  sW : r.sn ≤ W
  w : 0 < r.sn → cvI r.md r.wt = false
  h : r.sn = 0 → r.md ≠ 0 ∧ r.wt = r.md
/-- Two requests, the first one ahead of the second, are as they may be. -/
structure Pr (a b : Rq) : Prop where
  id : a.id ≠ b.id
  txn : a.txn ≠ b.txn
  sn : 0 < a.sn → a.sn ≠ b.sn
  ord : a.md = 0 → b.md = 0 ∧ a.sn < b.sn
  cp : a.md ≠ 0 → b.md ≠ 0 → cpI a.md b.md = true
structure Ok (W : Int) (q : List Rq) : Prop where
  w0 : 0 ≤ W
  wB : W ≤ 4611686018427387904
  rt : ∀ r ∈ q, Rt W r
  pr : q.Pairwise Pr
theorem Rt.w' {W : Int} {r : Rq} (h : Rt W r) (z : r.md = 0) : 0 < r.sn := by
  have := h.h
  have h0 := h.s0
  rcases Int.lt_or_eq_of_le h0 with q | q
  · exact q
  · exact absurd z (this q.symm).1
theorem Rt.wne {W : Int} {r : Rq} (h : Rt W r) : r.wt ≠ 0 := by
  intro z
  rcases Int.lt_or_eq_of_le h.s0 with q | q
  · have := h.w q
    rw [z, cv_zero _ h.md] at this
    cases this
  · have := h.h q.symm
    exact this.1 (this.2.symm.trans z)
theorem Rt.mono {W W' : Int} {r : Rq} (h : Rt W r) (hW : W ≤ W') : Rt W' r := ⟨h.id, h.md, h.wt, h.s0, Int.le_trans h.sW hW, h.w, h.h⟩

/-- Does o block r? -/
def blk (r o : Rq) : Bool := ((o.md != 0) && !cpI o.md r.wt) || ((o.md != 0) && decide (0 < o.sn) && ((r.md == 0) || decide (o.sn < r.sn))) || ((r.md == 0) && (o.md == 0) && decide (o.sn < r.sn))
def canG (q : List Rq) (r : Rq) : Bool := decide (0 < r.sn) && q.all fun o => (o.id == r.id) || !blk r o
def chg (f : Rq → Rq) (id : Int) (q : List Rq) : List Rq := q.map fun r => if r.id = id then f r else r
def grtR (r : Rq) : Rq := ⟨r.id, r.txn, r.wt, r.wt, 0⟩
def lvQ (id : Int) (q : List Rq) : List Rq := q.filter fun r => !(r.id == id)
def abR (r : Rq) : Rq := ⟨r.id, r.txn, r.md, r.md, 0⟩
def has (q : List Rq) (id : Int) : Bool := q.any fun r => r.id == id
def fnd (q : List Rq) (id : Int) : Option Rq := q.find? fun r => r.id == id
def abQ (r : Rq) (q : List Rq) : List Rq := if r.md = 0 then lvQ r.id q else chg abR r.id q
def askE (q : List Rq) (id txn m : Int) : Int := if id < 0 ∨ m = 0 ∨ knI m = false then 2 else if (q.any fun r => r.id == id || r.txn == txn) = true then 4 else 0
def free (q : List Rq) (m : Int) : Bool := q.all fun r => r.sn == 0 && cpI r.md m
def askQ (W : Int) (q : List Rq) (id txn m : Int) : Int × List Rq × Bool := if free q m = true then (W, q ++ [⟨id, txn, m, m, 0⟩], true) else (W + 1, q ++ [⟨id, txn, 0, m, W + 1⟩], false)
def upF (q : List Rq) (r : Rq) (want : Int) : Bool := q.all fun o => (o.id == r.id) || (!(decide (0 < o.sn) && (o.md != 0)) && ((o.md == 0) || cpI o.md want))
def upQ (W : Int) (q : List Rq) (r : Rq) (m : Int) : Int × List Rq × Bool :=
  if supT r.md m = r.md then (W, q, true)
  else if upF q r (supT r.md m) = true then (W, chg (fun x => ⟨x.id, x.txn, supT r.md m, supT r.md m, 0⟩) r.id q, true)
  else (W + 1, chg (fun x => ⟨x.id, x.txn, x.md, supT r.md m, W + 1⟩) r.id q, false)

section
variable {W : Int} {q : List Rq}
theorem Ok.inj (h : Ok W q) : ∀ a ∈ q, ∀ b ∈ q, a.id = b.id → a = b := by
  have hp := h.pr
  clear h
  induction hp with
  | nil => intro a ha; cases ha
  | cons hx _ ih =>
    intro a ha b hb e
    rcases List.mem_cons.1 ha with rfl | ha'
    · rcases List.mem_cons.1 hb with rfl | hb'
      · rfl
      · exact absurd e (hx b hb').id
    · rcases List.mem_cons.1 hb with rfl | hb'
      · exact absurd e.symm (hx a ha').id
      · exact ih a ha' b hb' e
theorem Ok.injT (h : Ok W q) : ∀ a ∈ q, ∀ b ∈ q, a.txn = b.txn → a = b := by
  have hp := h.pr
  clear h
  induction hp with
  | nil => intro a ha; cases ha
  | cons hx _ ih =>
    intro a ha b hb e
    rcases List.mem_cons.1 ha with rfl | ha'
    · rcases List.mem_cons.1 hb with rfl | hb'
      · rfl
      · exact absurd e (hx b hb').txn
    · rcases List.mem_cons.1 hb with rfl | hb'
      · exact absurd e.symm (hx a ha').txn
      · exact ih a ha' b hb' e
theorem Ok.injS (h : Ok W q) : ∀ a ∈ q, ∀ b ∈ q, 0 < a.sn → a.sn = b.sn → a = b := by
  have hp := h.pr
  clear h
  induction hp with
  | nil => intro a ha; cases ha
  | cons hx _ ih =>
    intro a ha b hb h0 e
    rcases List.mem_cons.1 ha with rfl | ha'
    · rcases List.mem_cons.1 hb with rfl | hb'
      · rfl
      · exact absurd e ((hx b hb').sn h0)
    · rcases List.mem_cons.1 hb with rfl | hb'
      · exact absurd e.symm ((hx a ha').sn (e ▸ h0))
      · exact ih a ha' b hb' h0 e
/-- Two different ones that hold are compatible. -/
theorem Ok.cp (h : Ok W q) : ∀ a ∈ q, ∀ b ∈ q, a.id ≠ b.id → a.md ≠ 0 → b.md ≠ 0 → cpI a.md b.md = true := by
  have hp := h.pr
  clear h
  induction hp with
  | nil => intro a ha; cases ha
  | cons hx _ ih =>
    intro a ha b hb e h1 h2
    rcases List.mem_cons.1 ha with rfl | ha'
    · rcases List.mem_cons.1 hb with rfl | hb'
      · exact absurd rfl e
      · exact (hx b hb').cp h1 h2
    · rcases List.mem_cons.1 hb with rfl | hb'
      · rw [cp_symm]; exact (hx a ha').cp h2 h1
      · exact ih a ha' b hb' e h1 h2
/-- A change of one request: what is asked of it alone, and of it with each other one. -/
theorem ok_chg (h : Ok W q) {W' : Int} (hW : W ≤ W') (hB : W' ≤ 4611686018427387904) (f : Rq → Rq) (r : Rq) (hr : r ∈ q) (hrt : Rt W' (f r))
    (h1 : ∀ a ∈ q, a.id ≠ r.id → Pr a r → Pr a (f r)) (h2 : ∀ b ∈ q, b.id ≠ r.id → Pr r b → Pr (f r) b) : Ok W' (chg f r.id q) := by
  have hw := h.w0
  refine ⟨by omega, hB, fun x hx => ?_, ?_⟩
  · obtain ⟨y, hy, rfl⟩ := List.mem_map.1 hx
    by_cases e : y.id = r.id
    · rw [if_pos e, h.inj y hy r hr e]; exact hrt
    · rw [if_neg e]; exact (h.rt y hy).mono hW
  · unfold chg
    rw [List.pairwise_map]
    refine h.pr.imp_of_mem fun {a b} ha hb hp => ?_
    by_cases e1 : a.id = r.id
    · obtain rfl := h.inj a ha r hr e1
      rw [if_pos rfl, if_neg (fun e => hp.id e.symm)]
      exact h2 b hb (fun e => hp.id e.symm) hp
    · by_cases e2 : b.id = r.id
      · obtain rfl := h.inj b hb r hr e2
        rw [if_neg e1, if_pos rfl]
        exact h1 a ha e1 hp
      · rw [if_neg e1, if_neg e2]
        exact hp
theorem ok_lv (h : Ok W q) (id : Int) : Ok W (lvQ id q) := ⟨h.w0, h.wB, fun r hr => h.rt r (List.mem_filter.1 hr).1, h.pr.filter _⟩
theorem ok_ab (h : Ok W q) (r : Rq) (hr : r ∈ q) : Ok W (abQ r q) := by
  unfold abQ
  by_cases z : r.md = 0
  · rw [if_pos z]; exact ok_lv h _
  · rw [if_neg z]
    have t := h.rt r hr
    refine ok_chg h (Int.le_refl _) h.wB abR r hr ⟨t.id, t.md, t.md, Int.le_refl _, h.w0, fun e => absurd e (Int.lt_irrefl _), fun _ => ⟨z, rfl⟩⟩ (fun a ha ne p => ?_) (fun b hb ne p => ?_)
    · exact ⟨p.id, p.txn, fun e => by show a.sn ≠ 0; omega, fun e => absurd (p.ord e).1 z, p.cp⟩
    · exact ⟨p.id, p.txn, fun e => absurd e (Int.lt_irrefl _), fun e => absurd e z, p.cp⟩
theorem ok_ask (h : Ok W q) (id txn m : Int) (he : askE q id txn m = 0) (hB : W + 1 ≤ 4611686018427387904) : Ok (askQ W q id txn m).1 (askQ W q id txn m).2.1 := by
  unfold askE at he
  split at he
  · cases he
  split at he
  · cases he
  rename_i h1 h2
  have hi : 0 ≤ id := Int.not_lt.1 fun e => h1 (.inl e)
  have hm0 : m ≠ 0 := fun e => h1 (.inr (.inl e))
  have hmk : knI m = true := by
    cases e : knI m with
    | true => rfl
    | false => exact absurd (.inr (.inr e)) h1
  have hn : ∀ a ∈ q, a.id ≠ id ∧ a.txn ≠ txn := by
    intro a ha
    have := fun e => h2 (List.any_eq_true.2 ⟨a, ha, e⟩)
    simpa using this
  have hw := h.w0
  unfold askQ
  by_cases hf : free q m = true
  · rw [if_pos hf]
    have hf' : ∀ a ∈ q, a.sn = 0 ∧ cpI a.md m = true := by
      intro a ha
      have := List.all_eq_true.1 hf a ha
      simpa using this
    refine ⟨hw, h.wB, fun r hr => ?_, ?_⟩
    · rcases List.mem_append.1 hr with hr | hr
      · exact h.rt r hr
      · rw [List.mem_singleton] at hr; subst hr
        exact ⟨hi, hmk, hmk, Int.le_refl _, hw, fun e => absurd e (Int.lt_irrefl _), fun _ => ⟨hm0, rfl⟩⟩
    · rw [List.pairwise_append]
      refine ⟨h.pr, List.pairwise_singleton _ _, fun a ha b hb => ?_⟩
      rw [List.mem_singleton] at hb; subst hb
      obtain ⟨s0, c0⟩ := hf' a ha
      exact ⟨(hn a ha).1, (hn a ha).2, fun e => by omega, fun e => absurd e ((h.rt a ha).h s0).1, fun _ _ => c0⟩
  · rw [if_neg hf]
    refine ⟨by show 0 ≤ W + 1; omega, hB, fun r hr => ?_, ?_⟩
    · rcases List.mem_append.1 hr with hr | hr
      · exact (h.rt r hr).mono (by show W ≤ W + 1; omega)
      · rw [List.mem_singleton] at hr; subst hr
        exact ⟨hi, rfl, hmk, by show 0 ≤ W + 1; omega, Int.le_refl _, fun _ => zero_cv m hmk hm0, fun e => by simp only at e; omega⟩
    · rw [List.pairwise_append]
      refine ⟨h.pr, List.pairwise_singleton _ _, fun a ha b hb => ?_⟩
      rw [List.mem_singleton] at hb; subst hb
      have s := (h.rt a ha).sW
      exact ⟨(hn a ha).1, (hn a ha).2, fun e => by show a.sn ≠ W + 1; omega, fun e => ⟨rfl, by show a.sn < W + 1; omega⟩, fun _ e => absurd rfl e⟩
theorem ok_up (h : Ok W q) (r : Rq) (hr : r ∈ q) (m : Int) (hs : r.sn = 0) (hm : knI m = true) (hB : W + 1 ≤ 4611686018427387904) : Ok (upQ W q r m).1 (upQ W q r m).2.1 := by
  have t := h.rt r hr
  have z := (t.h hs).1
  have hk := sup_kn r.md m t.md hm
  have hw := h.w0
  unfold upQ
  by_cases c : supT r.md m = r.md
  · rw [if_pos c]; exact h
  · rw [if_neg c]
    have hne := sup_ne r.md m t.md hm z
    by_cases f : upF q r (supT r.md m) = true
    · rw [if_pos f]
      have f' : ∀ o ∈ q, o.id ≠ r.id → o.md ≠ 0 → cpI o.md (supT r.md m) = true := by
        intro o ho ne hz
        have := List.all_eq_true.1 f o ho
        simp [ne, hz] at this
        exact this.2
      refine ok_chg h (Int.le_refl _) h.wB _ r hr ⟨t.id, hk, hk, Int.le_refl _, hw, fun e => absurd e (Int.lt_irrefl _), fun _ => ⟨hne, rfl⟩⟩ (fun a ha ne p => ?_) (fun b hb ne p => ?_)
      · exact ⟨p.id, p.txn, fun e => by show a.sn ≠ 0; omega, fun e => absurd (p.ord e).1 z, fun e _ => f' a ha ne e⟩
      · exact ⟨p.id, p.txn, fun e => absurd e (Int.lt_irrefl _), fun e => absurd e hne, fun _ e => by rw [cp_symm]; exact f' b hb ne e⟩
    · rw [if_neg f]
      refine ok_chg h (by show W ≤ W + 1; omega) hB _ r hr ⟨t.id, t.md, hk, by show 0 ≤ W + 1; omega, Int.le_refl _, fun _ => sup_cv r.md m t.md hm c, fun e => by simp only at e; omega⟩ (fun a ha ne p => ?_) (fun b hb ne p => ?_)
      · have s := (h.rt a ha).sW
        exact ⟨p.id, p.txn, fun e => by show a.sn ≠ W + 1; omega, fun e => absurd (p.ord e).1 z, p.cp⟩
      · have s := (h.rt b hb).sW
        exact ⟨p.id, p.txn, fun e => by show W + 1 ≠ b.sn; omega, fun e => absurd e z, p.cp⟩
theorem no_blk {r o : Rq} (hc : canG q r = true) (ho : o ∈ q) (ne : o.id ≠ r.id) : blk r o = false := by
  unfold canG at hc
  rw [Bool.and_eq_true] at hc
  have := List.all_eq_true.1 hc.2 o ho
  simpa [ne] using this
theorem can_sn {r : Rq} (hc : canG q r = true) : 0 < r.sn := by
  unfold canG at hc
  rw [Bool.and_eq_true] at hc
  simpa using hc.1
theorem blk_no {r o : Rq} (h : blk r o = false) : (o.md ≠ 0 → cpI o.md r.wt = true) ∧ (o.md ≠ 0 → 0 < o.sn → r.md ≠ 0 ∧ r.sn ≤ o.sn) ∧ (r.md = 0 → o.md = 0 → r.sn ≤ o.sn) := by
  unfold blk at h
  simp only [Bool.or_eq_false_iff, Bool.and_eq_false_iff, bne_eq_false_iff_eq, Bool.not_eq_false', decide_eq_false_iff_not, beq_eq_false_iff_ne, Int.not_lt] at h
  obtain ⟨⟨h1, h2⟩, h3⟩ := h
  refine ⟨fun z => h1.resolve_left z, fun z s => ?_, fun z z' => ?_⟩
  · rcases h2 with (h2 | h2) | h2
    · exact absurd h2 z
    · omega
    · exact h2
  · rcases h3 with (h3 | h3) | h3
    · exact absurd z h3
    · exact absurd z' h3
    · exact h3
theorem ok_grt (h : Ok W q) (r : Rq) (hr : r ∈ q) (hc : canG q r = true) : Ok W (chg grtR r.id q) := by
  have t := h.rt r hr
  refine ok_chg h (Int.le_refl _) h.wB grtR r hr ⟨t.id, t.wt, t.wt, Int.le_refl _, h.w0, fun e => absurd e (Int.lt_irrefl _), fun _ => ⟨t.wne, rfl⟩⟩ (fun a ha ne p => ?_) (fun b hb ne p => ?_)
  · obtain ⟨b1, b2, b3⟩ := blk_no (no_blk hc ha ne)
    refine ⟨p.id, p.txn, fun e => by show a.sn ≠ 0; omega, fun e => ?_, fun e _ => b1 e⟩
    obtain ⟨z, s⟩ := p.ord e
    have := b3 z e
    omega
  · obtain ⟨b1, b2, b3⟩ := blk_no (no_blk hc hb ne)
    exact ⟨p.id, p.txn, fun e => absurd e (Int.lt_irrefl _), fun e => absurd e t.wne, fun _ e => by rw [cp_symm]; exact b1 e⟩
/-- At most one can be granted. -/
theorem can_one (h : Ok W q) {r s : Rq} (hr : r ∈ q) (hs : s ∈ q) (h1 : canG q r = true) (h2 : canG q s = true) : r = s := by
  refine Classical.byContradiction fun ne => ?_
  have ni : s.id ≠ r.id := fun e => ne (h.inj r hr s hs e.symm)
  obtain ⟨_, b2, b3⟩ := blk_no (no_blk h1 hs ni)
  obtain ⟨_, c2, c3⟩ := blk_no (no_blk h2 hr (fun e => ni e.symm))
  have p1 := can_sn h1
  have p2 := can_sn h2
  have hne : r.sn ≠ s.sn := fun e => ne (h.injS r hr s hs p1 e)
  by_cases z : r.md = 0
  · by_cases y : s.md = 0
    · have := b3 z y; have := c3 y z; omega
    · exact (b2 y p2).1 z
  · by_cases y : s.md = 0
    · exact (c2 z p1).1 y
    · have := (b2 y p2).2; have := (c2 z p1).2; omega
end
end Go.Proofs.Ytmciiobncfchlaa
