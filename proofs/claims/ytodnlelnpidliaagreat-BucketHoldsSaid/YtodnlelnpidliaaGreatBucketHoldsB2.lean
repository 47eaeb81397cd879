/- Texts merged: ModeA, QuM, QuS, QuP -/
import Derived.Test.YtodnlelnpidliaaGreatBucketHoldsB1
import Derived.Test.YtodnlelnpidliaaGreatRows
import Derived.WalkKit
import Derived.ProofKit
import Derived.OpenShut
import Derived.ShutString
import Derived.Deep.WholeRow
import Derived.Outline

/- Contracts of the functions of package mode: for every mode by its number, what the call returns; the world has at most new blocks. No conditions but those typed. -/
section
namespace Go.Proofs.YtodnlelnpidliaaGreat
open Go.ChangeShapes Go.WideShapes Go.ChangeAt Go.RowKit

theorem known_yes (m : Int) (w : World) (h0 : 0 ≤ m) (h1 : m < 7) :
    Calls Tryz.prog 117 #[.int .i64 m] w fun e w' => e = .returned (.bool true) ∧ w = w' := by
  go_enter Tryz.func117, Tryz.ntmps117
  go_wp2
  go_ret
  exact ⟨rfl, rfl⟩

theorem known_no (m : Int) (w : World) (h : m < 0 ∨ 7 ≤ m) :
    Calls Tryz.prog 117 #[.int .i64 m] w fun e w' => e = .returned (.bool false) ∧ w = w' := by
  rcases h with h | h
  · go_enter Tryz.func117, Tryz.ntmps117
    go_wp2
    go_ret
    exact ⟨rfl, rfl⟩
  · have h0 : 0 ≤ m := by omega
    have hd : decide (m < 7) = false := by simp; omega
    go_enter Tryz.func117, Tryz.ntmps117
    go_wp2
    go_ret
    exact ⟨rfl, rfl⟩

/-! ### The tables -/
/-- The suprema, as numbers, row by row. -/
def supL : List Int := [0,1,2,3,4,5,6, 1,1,2,3,4,5,6, 2,2,2,4,4,6,6, 3,3,4,3,4,5,6, 4,4,4,4,4,6,6, 5,5,6,5,6,5,6, 6,6,6,6,6,6,6]
def supTab : Array Value := (supL.map (Value.int .i64)).toArray
def supT (a b : Int) : Int := supL.getD (a.toNat * 7 + b.toNat) 0
theorem supTab_at (a b : Int) (ha : 0 ≤ a) (ha' : a < 7) (hb : 0 ≤ b) (hb' : b < 7) : supTab[a.toNat * 7 + b.toNat]? = some (.int .i64 (supT a b)) := by
  have h : a.toNat * 7 + b.toNat < supL.length := by show _ < 49; omega
  unfold supTab supT
  simp [List.getElem?_eq_getElem h, List.getD]
theorem supInfo : (Tryz.prog.info? 165).map (·.size) = some 49 := by kernel_rfl
theorem supOne : supTab.all (·.oneCell') = true := by kernel_rfl

/-- Who is compatible with whom, row by row. -/
def cmpL : List Bool := [true,true,true,true,true,true,true, true,true,true,true,true,true,false, true,true,true,false,false,false,false, true,true,false,true,false,true,false, true,true,false,false,false,false,false, true,true,false,true,false,false,false, true,false,false,false,false,false,false]
def cmpTab : Array Value := (cmpL.map Value.bool).toArray
def cmpT (a b : Int) : Bool := cmpL.getD (a.toNat * 7 + b.toNat) false
theorem cmpTab_at (a b : Int) (ha : 0 ≤ a) (ha' : a < 7) (hb : 0 ≤ b) (hb' : b < 7) : cmpTab[a.toNat * 7 + b.toNat]? = some (.bool (cmpT a b)) := by
  have h : a.toNat * 7 + b.toNat < cmpL.length := by show _ < 49; omega
  unfold cmpTab cmpT
  simp [List.getElem?_eq_getElem h, List.getD]
theorem cmpInfo : (Tryz.prog.info? 185).map (·.size) = some 49 := by kernel_rfl
theorem cmpOne : cmpTab.all (·.oneCell') = true := by kernel_rfl

set_option maxHeartbeats 400000 in
theorem sup_in (a b : Int) (w : World) (ha : 0 ≤ a) (ha' : a < 7) (hb : 0 ≤ b) (hb' : b < 7) :
    Calls Tryz.prog 103 #[.int .i64 a, .int .i64 b] w fun e w' => e = .returned (.int .i64 (supT a b)) ∧ Nw w w' := by
  have hT := supTab_at a b ha ha' hb hb'
  go_enter Tryz.func103, Tryz.ntmps103
  go_wp2_with (first | (go_at_call 117; refine (known_yes _ _ (by omega) (by omega)).mono ?_; rintro e w' ⟨rfl, rfl⟩) | (refine wpList_store_row rfl 165 _ _ rfl _ supTab rfl rfl 165 _ (heap_alloc_last _ _) supInfo rfl supOne ?_; rw [World.setRow_alloc_new]))
  go_ret
  exact ⟨rfl, (Nw.refl _).alloc _⟩

set_option maxHeartbeats 400000 in
theorem cmp_in (a b : Int) (w : World) (ha : 0 ≤ a) (ha' : a < 7) (hb : 0 ≤ b) (hb' : b < 7) :
    Calls Tryz.prog 131 #[.int .i64 a, .int .i64 b] w fun e w' => e = .returned (.bool (cmpT a b)) ∧ Nw w w' := by
  have hT := cmpTab_at a b ha ha' hb hb'
  go_enter Tryz.func131, Tryz.ntmps131
  go_wp2_with (first | (go_at_call 117; refine (known_yes _ _ (by omega) (by omega)).mono ?_; rintro e w' ⟨rfl, rfl⟩) | (refine wpList_store_row rfl 185 _ _ rfl _ cmpTab rfl rfl 185 _ (heap_alloc_last _ _) cmpInfo rfl cmpOne ?_; rw [World.setRow_alloc_new]))
  go_ret
  exact ⟨rfl, (Nw.refl _).alloc _⟩
end Go.Proofs.YtodnlelnpidliaaGreat
end

/- Plain facts of queues of requests: what a head may be, who blocks whom, what asks, upgrades, leaves and grants make of it. -/
section
namespace Go.Proofs.YtodnlelnpidliaaGreat
set_option linter.unusedVariables false

structure Rq where
  id : Int
  txn : Int
  md : Int
  wt : Int
  sn : Int

def knI (m : Int) : Bool := decide (0 ≤ m) && decide (m < 7)
def cpI (a b : Int) : Bool := (knI a && knI b) && cmpT a b
def cvI (a b : Int) : Bool := (knI a && knI b) && (supT a b == a)
theorem knI_iff (m : Int) : knI m = true ↔ 0 ≤ m ∧ m < 7 := by simp [knI]
theorem two_kn {p : Int → Int → Bool} (h : ∀ i < 7, ∀ j < 7, p (Int.ofNat i) (Int.ofNat j) = true) (a b : Int) (ha : knI a = true) (hb : knI b = true) : p a b = true := by
  rw [knI_iff] at ha hb
  obtain ⟨i, rfl⟩ := Int.eq_ofNat_of_zero_le ha.1
  obtain ⟨j, rfl⟩ := Int.eq_ofNat_of_zero_le hb.1
  exact h i (by omega) j (by omega)
theorem cmp_symm_all : ∀ i < 7, ∀ j < 7, (cmpT (Int.ofNat i) (Int.ofNat j) == cmpT (Int.ofNat j) (Int.ofNat i)) = true := by decide +kernel
theorem cmp_symm (a b : Int) (ha : knI a = true) (hb : knI b = true) : cmpT a b = cmpT b a := by
  have := two_kn (p := fun a b => cmpT a b == cmpT b a) cmp_symm_all a b ha hb
  simpa using this
theorem sup_kn_all : ∀ i < 7, ∀ j < 7, knI (supT (Int.ofNat i) (Int.ofNat j)) = true := by decide +kernel
theorem sup_kn (a b : Int) (ha : knI a = true) (hb : knI b = true) : knI (supT a b) = true := two_kn (p := fun a b => knI (supT a b)) sup_kn_all a b ha hb
theorem cv_zero_all : ∀ i < 7, ∀ j < 7, (cvI (Int.ofNat i) 0 && (cvI 0 (Int.ofNat j) == (Int.ofNat j == 0))) = true := by decide +kernel
theorem cv_zero (a : Int) (ha : knI a = true) : cvI a 0 = true := by
  have := two_kn (p := fun a b => cvI a 0 && (cvI 0 b == (b == 0))) cv_zero_all a a ha ha
  simp at this
  exact this.1
theorem zero_cv (a : Int) (ha : knI a = true) (h : a ≠ 0) : cvI 0 a = false := by
  have := two_kn (p := fun a b => cvI a 0 && (cvI 0 b == (b == 0))) cv_zero_all a a ha ha
  simp at this
  rw [this.2]
  simpa using h
/-- The supremum is not covered unless it is the mode itself; it is no mode's none. -/
theorem sup_cv_all : ∀ i < 7, ∀ j < 7, ((supT (Int.ofNat i) (Int.ofNat j) == Int.ofNat i) == cvI (Int.ofNat i) (supT (Int.ofNat i) (Int.ofNat j)) && (Int.ofNat i == 0 || supT (Int.ofNat i) (Int.ofNat j) != 0)) = true := by decide +kernel
theorem sup_cv (a b : Int) (ha : knI a = true) (hb : knI b = true) (h : supT a b ≠ a) : cvI a (supT a b) = false := by
  have := two_kn (p := fun a b => (supT a b == a) == cvI a (supT a b) && (a == 0 || supT a b != 0)) sup_cv_all a b ha hb
  simp only [Bool.and_eq_true, beq_iff_eq] at this
  rw [← this.1]
  simpa using h
theorem sup_ne (a b : Int) (ha : knI a = true) (hb : knI b = true) (h : a ≠ 0) : supT a b ≠ 0 := by
  have := two_kn (p := fun a b => (supT a b == a) == cvI a (supT a b) && (a == 0 || supT a b != 0)) sup_cv_all a b ha hb
  simp only [Bool.and_eq_true, beq_iff_eq, Bool.or_eq_true, bne_iff_ne] at this
  exact this.2.resolve_left h
theorem cp_kn (a b : Int) (ha : knI a = true) (hb : knI b = true) : cpI a b = cmpT a b := by simp [cpI, ha, hb]
theorem cp_symm (a b : Int) : cpI a b = cpI b a := by
  unfold cpI
  by_cases ha : knI a = true
  · by_cases hb : knI b = true
    · rw [ha, hb, cmp_symm a b ha hb]
    · simp [hb]
  · simp [ha]

/-- A request is as it may be. -/
structure Rt (W : Int) (r : Rq) : Prop where
  id : 0 ≤ r.id
  md : knI r.md = true
  wt : knI r.wt = true
  s0 : 0 ≤ r.sn
  sW : r.sn ≤ W
  w : 0 < r.sn → cvI r.md r.wt = false
  h : r.sn = 0 → r.md ≠ 0 ∧ r.wt = r.md
/-- Two requests, the first one ahead of the second, are as they may be. -/
structure Pr (a b : Rq) : Prop where
  id : a.id ≠ b.id
  txn : a.txn ≠ b.txn
  sn : 0 < a.sn → a.sn ≠ b.sn
  ord : a.md = 0 → b.md = 0 ∧ a.sn < b.sn
  cp : a.md ≠ 0 → b.md ≠ 0 → cpI a.md b.md = true
structure Ok (W : Int) (q : List Rq) : Prop where
  w0 : 0 ≤ W
  wB : W ≤ 4611686018427387904
  rt : ∀ r ∈ q, Rt W r
  pr : q.Pairwise Pr
theorem Rt.w' {W : Int} {r : Rq} (h : Rt W r) (z : r.md = 0) : 0 < r.sn := by
  have := h.h
  have h0 := h.s0
  rcases Int.lt_or_eq_of_le h0 with q | q
  · exact q
  · exact absurd z (this q.symm).1
theorem Rt.wne {W : Int} {r : Rq} (h : Rt W r) : r.wt ≠ 0 := by
  intro z
  rcases Int.lt_or_eq_of_le h.s0 with q | q
  · have := h.w q
    rw [z, cv_zero _ h.md] at this
    cases this
  · have := h.h q.symm
    exact this.1 (this.2.symm.trans z)
theorem Rt.mono {W W' : Int} {r : Rq} (h : Rt W r) (hW : W ≤ W') : Rt W' r := ⟨h.id, h.md, h.wt, h.s0, Int.le_trans h.sW hW, h.w, h.h⟩

/-- Does o block r? -/
def blk (r o : Rq) : Bool := ((o.md != 0) && !cpI o.md r.wt) || ((o.md != 0) && decide (0 < o.sn) && ((r.md == 0) || decide (o.sn < r.sn))) || ((r.md == 0) && (o.md == 0) && decide (o.sn < r.sn))
def canG (q : List Rq) (r : Rq) : Bool := decide (0 < r.sn) && q.all fun o => (o.id == r.id) || !blk r o
def chg (f : Rq → Rq) (id : Int) (q : List Rq) : List Rq := q.map fun r => if r.id = id then f r else r
def grtR (r : Rq) : Rq := ⟨r.id, r.txn, r.wt, r.wt, 0⟩
def lvQ (id : Int) (q : List Rq) : List Rq := q.filter fun r => !(r.id == id)
def abR (r : Rq) : Rq := ⟨r.id, r.txn, r.md, r.md, 0⟩
def has (q : List Rq) (id : Int) : Bool := q.any fun r => r.id == id
def fnd (q : List Rq) (id : Int) : Option Rq := q.find? fun r => r.id == id
def abQ (r : Rq) (q : List Rq) : List Rq := if r.md = 0 then lvQ r.id q else chg abR r.id q
def askE (q : List Rq) (id txn m : Int) : Int := if id < 0 ∨ m = 0 ∨ knI m = false then 2 else if (q.any fun r => r.id == id || r.txn == txn) = true then 4 else 0
def free (q : List Rq) (m : Int) : Bool := q.all fun r => r.sn == 0 && cpI r.md m
def askQ (W : Int) (q : List Rq) (id txn m : Int) : Int × List Rq × Bool := if free q m = true then (W, q ++ [⟨id, txn, m, m, 0⟩], true) else (W + 1, q ++ [⟨id, txn, 0, m, W + 1⟩], false)
def upF (q : List Rq) (r : Rq) (want : Int) : Bool := q.all fun o => (o.id == r.id) || (!(decide (0 < o.sn) && (o.md != 0)) && ((o.md == 0) || cpI o.md want))
def upQ (W : Int) (q : List Rq) (r : Rq) (m : Int) : Int × List Rq × Bool :=
  if supT r.md m = r.md then (W, q, true)
  else if upF q r (supT r.md m) = true then (W, chg (fun x => ⟨x.id, x.txn, supT r.md m, supT r.md m, 0⟩) r.id q, true)
  else (W + 1, chg (fun x => ⟨x.id, x.txn, x.md, supT r.md m, W + 1⟩) r.id q, false)

section
variable {W : Int} {q : List Rq}
theorem Ok.inj (h : Ok W q) : ∀ a ∈ q, ∀ b ∈ q, a.id = b.id → a = b := by
  have hp := h.pr
  clear h
  induction hp with
  | nil => intro a ha; cases ha
  | cons hx _ ih =>
    intro a ha b hb e
    rcases List.mem_cons.1 ha with rfl | ha'
    · rcases List.mem_cons.1 hb with rfl | hb'
      · rfl
      · exact absurd e (hx b hb').id
    · rcases List.mem_cons.1 hb with rfl | hb'
      · exact absurd e.symm (hx a ha').id
      · exact ih a ha' b hb' e
theorem Ok.injT (h : Ok W q) : ∀ a ∈ q, ∀ b ∈ q, a.txn = b.txn → a = b := by
  have hp := h.pr
  clear h
  induction hp with
  | nil => intro a ha; cases ha
  | cons hx _ ih =>
    intro a ha b hb e
    rcases List.mem_cons.1 ha with rfl | ha'
    · rcases List.mem_cons.1 hb with rfl | hb'
      · rfl
      · exact absurd e (hx b hb').txn
    · rcases List.mem_cons.1 hb with rfl | hb'
      · exact absurd e.symm (hx a ha').txn
      · exact ih a ha' b hb' e
theorem Ok.injS (h : Ok W q) : ∀ a ∈ q, ∀ b ∈ q, 0 < a.sn → a.sn = b.sn → a = b := by
  have hp := h.pr
  clear h
  induction hp with
  | nil => intro a ha; cases ha
  | cons hx _ ih =>
    intro a ha b hb h0 e
    rcases List.mem_cons.1 ha with rfl | ha'
    · rcases List.mem_cons.1 hb with rfl | hb'
      · rfl
      · exact absurd e ((hx b hb').sn h0)
    · rcases List.mem_cons.1 hb with rfl | hb'
      · exact absurd e.symm ((hx a ha').sn (e ▸ h0))
      · exact ih a ha' b hb' h0 e
/-- Two different ones that hold are compatible. -/
theorem Ok.cp (h : Ok W q) : ∀ a ∈ q, ∀ b ∈ q, a.id ≠ b.id → a.md ≠ 0 → b.md ≠ 0 → cpI a.md b.md = true := by
  have hp := h.pr
  clear h
  induction hp with
  | nil => intro a ha; cases ha
  | cons hx _ ih =>
    intro a ha b hb e h1 h2
    rcases List.mem_cons.1 ha with rfl | ha'
    · rcases List.mem_cons.1 hb with rfl | hb'
      · exact absurd rfl e
      · exact (hx b hb').cp h1 h2
    · rcases List.mem_cons.1 hb with rfl | hb'
      · rw [cp_symm]; exact (hx a ha').cp h2 h1
      · exact ih a ha' b hb' e h1 h2
/-- A change of one request: what is asked of it alone, and of it with each other one. -/
theorem ok_chg (h : Ok W q) {W' : Int} (hW : W ≤ W') (hB : W' ≤ 4611686018427387904) (f : Rq → Rq) (r : Rq) (hr : r ∈ q) (hrt : Rt W' (f r))
    (h1 : ∀ a ∈ q, a.id ≠ r.id → Pr a r → Pr a (f r)) (h2 : ∀ b ∈ q, b.id ≠ r.id → Pr r b → Pr (f r) b) : Ok W' (chg f r.id q) := by
  have hw := h.w0
  refine ⟨by omega, hB, fun x hx => ?_, ?_⟩
  · obtain ⟨y, hy, rfl⟩ := List.mem_map.1 hx
    by_cases e : y.id = r.id
    · rw [if_pos e, h.inj y hy r hr e]; exact hrt
    · rw [if_neg e]; exact (h.rt y hy).mono hW
  · unfold chg
    rw [List.pairwise_map]
    refine h.pr.imp_of_mem fun {a b} ha hb hp => ?_
    by_cases e1 : a.id = r.id
    · obtain rfl := h.inj a ha r hr e1
      rw [if_pos rfl, if_neg (fun e => hp.id e.symm)]
      exact h2 b hb (fun e => hp.id e.symm) hp
    · by_cases e2 : b.id = r.id
      · obtain rfl := h.inj b hb r hr e2
        rw [if_neg e1, if_pos rfl]
        exact h1 a ha e1 hp
      · rw [if_neg e1, if_neg e2]
        exact hp
theorem ok_lv (h : Ok W q) (id : Int) : Ok W (lvQ id q) := ⟨h.w0, h.wB, fun r hr => h.rt r (List.mem_filter.1 hr).1, h.pr.filter _⟩
theorem ok_ab (h : Ok W q) (r : Rq) (hr : r ∈ q) : Ok W (abQ r q) := by
  unfold abQ
  by_cases z : r.md = 0
  · rw [if_pos z]; exact ok_lv h _
  · rw [if_neg z]
    have t := h.rt r hr
    refine ok_chg h (Int.le_refl _) h.wB abR r hr ⟨t.id, t.md, t.md, Int.le_refl _, h.w0, fun e => absurd e (Int.lt_irrefl _), fun _ => ⟨z, rfl⟩⟩ (fun a ha ne p => ?_) (fun b hb ne p => ?_)
    · exact ⟨p.id, p.txn, fun e => by show a.sn ≠ 0; omega, fun e => absurd (p.ord e).1 z, p.cp⟩
    · exact ⟨p.id, p.txn, fun e => absurd e (Int.lt_irrefl _), fun e => absurd e z, p.cp⟩
theorem ok_ask (h : Ok W q) (id txn m : Int) (he : askE q id txn m = 0) (hB : W + 1 ≤ 4611686018427387904) : Ok (askQ W q id txn m).1 (askQ W q id txn m).2.1 := by
  unfold askE at he
  split at he
  · cases he
  split at he
  · cases he
  rename_i h1 h2
  have hi : 0 ≤ id := Int.not_lt.1 fun e => h1 (.inl e)
  have hm0 : m ≠ 0 := fun e => h1 (.inr (.inl e))
  have hmk : knI m = true := by
    cases e : knI m with
    | true => rfl
    | false => exact absurd (.inr (.inr e)) h1
  have hn : ∀ a ∈ q, a.id ≠ id ∧ a.txn ≠ txn := by
    intro a ha
    have := fun e => h2 (List.any_eq_true.2 ⟨a, ha, e⟩)
    simpa using this
  have hw := h.w0
  unfold askQ
  by_cases hf : free q m = true
  · rw [if_pos hf]
    have hf' : ∀ a ∈ q, a.sn = 0 ∧ cpI a.md m = true := by
      intro a ha
      have := List.all_eq_true.1 hf a ha
      simpa using this
    refine ⟨hw, h.wB, fun r hr => ?_, ?_⟩
    · rcases List.mem_append.1 hr with hr | hr
      · exact h.rt r hr
      · rw [List.mem_singleton] at hr; subst hr
        exact ⟨hi, hmk, hmk, Int.le_refl _, hw, fun e => absurd e (Int.lt_irrefl _), fun _ => ⟨hm0, rfl⟩⟩
    · rw [List.pairwise_append]
      refine ⟨h.pr, List.pairwise_singleton _ _, fun a ha b hb => ?_⟩
      rw [List.mem_singleton] at hb; subst hb
      obtain ⟨s0, c0⟩ := hf' a ha
      exact ⟨(hn a ha).1, (hn a ha).2, fun e => by omega, fun e => absurd e ((h.rt a ha).h s0).1, fun _ _ => c0⟩
  · rw [if_neg hf]
    refine ⟨by show 0 ≤ W + 1; omega, hB, fun r hr => ?_, ?_⟩
    · rcases List.mem_append.1 hr with hr | hr
      · exact (h.rt r hr).mono (by show W ≤ W + 1; omega)
      · rw [List.mem_singleton] at hr; subst hr
        exact ⟨hi, rfl, hmk, by show 0 ≤ W + 1; omega, Int.le_refl _, fun _ => zero_cv m hmk hm0, fun e => by simp only at e; omega⟩
    · rw [List.pairwise_append]
      refine ⟨h.pr, List.pairwise_singleton _ _, fun a ha b hb => ?_⟩
      rw [List.mem_singleton] at hb; subst hb
      have s := (h.rt a ha).sW
      exact ⟨(hn a ha).1, (hn a ha).2, fun e => by show a.sn ≠ W + 1; omega, fun e => ⟨rfl, by show a.sn < W + 1; omega⟩, fun _ e => absurd rfl e⟩
theorem ok_up (h : Ok W q) (r : Rq) (hr : r ∈ q) (m : Int) (hs : r.sn = 0) (hm : knI m = true) (hB : W + 1 ≤ 4611686018427387904) : Ok (upQ W q r m).1 (upQ W q r m).2.1 := by
  have t := h.rt r hr
  have z := (t.h hs).1
  have hk := sup_kn r.md m t.md hm
  have hw := h.w0
  unfold upQ
  by_cases c : supT r.md m = r.md
  · rw [if_pos c]; exact h
  · rw [if_neg c]
    have hne := sup_ne r.md m t.md hm z
    by_cases f : upF q r (supT r.md m) = true
    · rw [if_pos f]
      have f' : ∀ o ∈ q, o.id ≠ r.id → o.md ≠ 0 → cpI o.md (supT r.md m) = true := by
        intro o ho ne hz
        have := List.all_eq_true.1 f o ho
        simp [ne, hz] at this
        exact this.2
      refine ok_chg h (Int.le_refl _) h.wB _ r hr ⟨t.id, hk, hk, Int.le_refl _, hw, fun e => absurd e (Int.lt_irrefl _), fun _ => ⟨hne, rfl⟩⟩ (fun a ha ne p => ?_) (fun b hb ne p => ?_)
      · exact ⟨p.id, p.txn, fun e => by show a.sn ≠ 0; omega, fun e => absurd (p.ord e).1 z, fun e _ => f' a ha ne e⟩
      · exact ⟨p.id, p.txn, fun e => absurd e (Int.lt_irrefl _), fun e => absurd e hne, fun _ e => by rw [cp_symm]; exact f' b hb ne e⟩
    · rw [if_neg f]
      refine ok_chg h (by show W ≤ W + 1; omega) hB _ r hr ⟨t.id, t.md, hk, by show 0 ≤ W + 1; omega, Int.le_refl _, fun _ => sup_cv r.md m t.md hm c, fun e => by simp only at e; omega⟩ (fun a ha ne p => ?_) (fun b hb ne p => ?_)
      · have s := (h.rt a ha).sW
        exact ⟨p.id, p.txn, fun e => by show a.sn ≠ W + 1; omega, fun e => absurd (p.ord e).1 z, p.cp⟩
      · have s := (h.rt b hb).sW
        exact ⟨p.id, p.txn, fun e => by show W + 1 ≠ b.sn; omega, fun e => absurd e z, p.cp⟩
theorem no_blk {r o : Rq} (hc : canG q r = true) (ho : o ∈ q) (ne : o.id ≠ r.id) : blk r o = false := by
  unfold canG at hc
  rw [Bool.and_eq_true] at hc
  have := List.all_eq_true.1 hc.2 o ho
  simpa [ne] using this
theorem can_sn {r : Rq} (hc : canG q r = true) : 0 < r.sn := by
  unfold canG at hc
  rw [Bool.and_eq_true] at hc
  simpa using hc.1
theorem blk_no {r o : Rq} (h : blk r o = false) : (o.md ≠ 0 → cpI o.md r.wt = true) ∧ (o.md ≠ 0 → 0 < o.sn → r.md ≠ 0 ∧ r.sn ≤ o.sn) ∧ (r.md = 0 → o.md = 0 → r.sn ≤ o.sn) := by
  unfold blk at h
  simp only [Bool.or_eq_false_iff, Bool.and_eq_false_iff, bne_eq_false_iff_eq, Bool.not_eq_false', decide_eq_false_iff_not, beq_eq_false_iff_ne, Int.not_lt] at h
  obtain ⟨⟨h1, h2⟩, h3⟩ := h
  refine ⟨fun z => h1.resolve_left z, fun z s => ?_, fun z z' => ?_⟩
  · rcases h2 with (h2 | h2) | h2
    · exact absurd h2 z
    · omega
    · exact h2
  · rcases h3 with (h3 | h3) | h3
    · exact absurd z h3
    · exact absurd z' h3
    · exact h3
theorem ok_grt (h : Ok W q) (r : Rq) (hr : r ∈ q) (hc : canG q r = true) : Ok W (chg grtR r.id q) := by
  have t := h.rt r hr
  refine ok_chg h (Int.le_refl _) h.wB grtR r hr ⟨t.id, t.wt, t.wt, Int.le_refl _, h.w0, fun e => absurd e (Int.lt_irrefl _), fun _ => ⟨t.wne, rfl⟩⟩ (fun a ha ne p => ?_) (fun b hb ne p => ?_)
  · obtain ⟨b1, b2, b3⟩ := blk_no (no_blk hc ha ne)
    refine ⟨p.id, p.txn, fun e => by show a.sn ≠ 0; omega, fun e => ?_, fun e _ => b1 e⟩
    obtain ⟨z, s⟩ := p.ord e
    have := b3 z e
    omega
  · obtain ⟨b1, b2, b3⟩ := blk_no (no_blk hc hb ne)
    exact ⟨p.id, p.txn, fun e => absurd e (Int.lt_irrefl _), fun e => absurd e t.wne, fun _ e => by rw [cp_symm]; exact b1 e⟩
/-- At most one can be granted. -/
theorem can_one (h : Ok W q) {r s : Rq} (hr : r ∈ q) (hs : s ∈ q) (h1 : canG q r = true) (h2 : canG q s = true) : r = s := by
  refine Classical.byContradiction fun ne => ?_
  have ni : s.id ≠ r.id := fun e => ne (h.inj r hr s hs e.symm)
  obtain ⟨_, b2, b3⟩ := blk_no (no_blk h1 hs ni)
  obtain ⟨_, c2, c3⟩ := blk_no (no_blk h2 hr (fun e => ni e.symm))
  have p1 := can_sn h1
  have p2 := can_sn h2
  have hne : r.sn ≠ s.sn := fun e => ne (h.injS r hr s hs p1 e)
  by_cases z : r.md = 0
  · by_cases y : s.md = 0
    · have := b3 z y; have := c3 y z; omega
    · exact (b2 y p2).1 z
  · by_cases y : s.md = 0
    · exact (c2 z p1).1 y
    · have := (b2 y p2).2; have := (c2 z p1).2; omega
end
end Go.Proofs.YtodnlelnpidliaaGreat
end

/- Plain facts of queues of requests: scans. -/
section
namespace Go.Proofs.YtodnlelnpidliaaGreat
set_option linter.unusedVariables false

section
variable {W : Int} {q : List Rq}
theorem chg_none (f : Rq → Rq) (id : Int) : ∀ q : List Rq, (∀ a ∈ q, a.id ≠ id) → chg f id q = q
  | [], _ => rfl
  | a :: q, h => by
    show (if a.id = id then f a else a) :: chg f id q = _
    rw [if_neg (h a (by simp)), chg_none f id q (fun b hb => h b (List.mem_cons_of_mem _ hb))]
theorem lv_none (id : Int) (q : List Rq) (h : ∀ a ∈ q, a.id ≠ id) : lvQ id q = q := by
  unfold lvQ
  rw [List.filter_eq_self]
  intro a ha
  simpa using h a ha
/-- One request is what a change, or a leave, is about. -/
theorem Ok.part (h : Ok W q) {r : Rq} (hr : r ∈ q) : ∃ l m, q = l ++ r :: m ∧ (∀ a ∈ l, a.id ≠ r.id) ∧ (∀ a ∈ m, a.id ≠ r.id) := by
  obtain ⟨l, m, e⟩ := List.append_of_mem hr
  have hp := h.pr
  rw [e, List.pairwise_append, List.pairwise_cons] at hp
  exact ⟨l, m, e, fun a ha => (hp.2.2 a ha r (by simp)).id, fun b hb q => (hp.2.1.1 b hb).id q.symm⟩
theorem chg_mid (f : Rq → Rq) {l m : List Rq} {r : Rq} (h1 : ∀ a ∈ l, a.id ≠ r.id) (h2 : ∀ a ∈ m, a.id ≠ r.id) : chg f r.id (l ++ r :: m) = l ++ f r :: m := by
  have e : chg f r.id (l ++ r :: m) = chg f r.id l ++ (if r.id = r.id then f r else r) :: chg f r.id m := by simp [chg]
  rw [e, if_pos rfl, chg_none f _ l h1, chg_none f _ m h2]
theorem lv_mid {l m : List Rq} {r : Rq} (h1 : ∀ a ∈ l, a.id ≠ r.id) (h2 : ∀ a ∈ m, a.id ≠ r.id) : lvQ r.id (l ++ r :: m) = l ++ m := by
  have e : lvQ r.id (l ++ r :: m) = lvQ r.id l ++ lvQ r.id m := by simp [lvQ, List.filter_append]
  rw [e, lv_none _ l h1, lv_none _ m h2]
theorem Ok.nth (h : Ok W q) (k : Nat) (hk : k < q.length) : q = q.take k ++ q[k] :: q.drop (k + 1) ∧ (∀ a ∈ q.take k, a.id ≠ q[k].id) ∧ (∀ a ∈ q.drop (k + 1), a.id ≠ q[k].id) := by
  have e : q = q.take k ++ q[k] :: q.drop (k + 1) := by
    rw [← List.drop_eq_getElem_cons hk, List.take_append_drop]
  have hp := h.pr
  rw [e, List.pairwise_append, List.pairwise_cons] at hp
  exact ⟨e, fun a ha => (hp.2.2 a ha _ (List.mem_cons_self)).id, fun b hb q => (hp.2.1.1 b hb).id q.symm⟩
theorem set_mid {α : Type} (l m : List α) (r x : α) (k : Nat) (hl : l.length = k) : (l ++ r :: m).set k x = l ++ x :: m := by
  subst hl
  rw [List.set_append_right _ _ (Nat.le_refl _), Nat.sub_self, List.set_cons_zero]
theorem chg_set (h : Ok W q) (f : Rq → Rq) (k : Nat) (hk : k < q.length) : chg f q[k].id q = q.set k (f q[k]) := by
  obtain ⟨e, h1, h2⟩ := h.nth k hk
  have hl : (q.take k).length = k := by simp; omega
  have c := chg_mid f h1 h2
  rw [← e] at c
  rw [c, ← set_mid (q.take k) (q.drop (k + 1)) q[k] (f q[k]) k hl, ← e]
def wtg (q : List Rq) : Nat := q.countP fun r => decide (0 < r.sn)
theorem wtg_grt (h : Ok W q) {r : Rq} (hr : r ∈ q) (hs : 0 < r.sn) : wtg (chg grtR r.id q) + 1 = wtg q := by
  obtain ⟨l, m, e, h1, h2⟩ := h.part hr
  rw [e, chg_mid grtR h1 h2]
  simp [wtg, List.countP_append, grtR, hs]
  omega
def scn : Nat → List Rq → List Int × List Rq
  | 0, q => ([], q)
  | n + 1, q => match q.find? (canG q) with
    | none => ([], q)
    | some r => (r.id :: (scn n (chg grtR r.id q)).1, (scn n (chg grtR r.id q)).2)
def scanQ (q : List Rq) : List Int × List Rq := scn (wtg q) q
theorem find_can {r : Rq} (h : q.find? (canG q) = some r) : r ∈ q ∧ canG q r = true := ⟨List.mem_of_find?_eq_some h, List.find?_some h⟩
/-- Nothing can be granted. -/
def Done (q : List Rq) : Prop := ∀ r ∈ q, canG q r = false
theorem done_find (h : Done q) : q.find? (canG q) = none := by
  rw [List.find?_eq_none]
  intro r hr
  simp [h r hr]
theorem scn_done (h : Done q) : ∀ n, scn n q = ([], q)
  | 0 => rfl
  | n + 1 => by
    unfold scn
    rw [done_find h]
theorem can_find (h : Ok W q) {r : Rq} (hr : r ∈ q) (hc : canG q r = true) : q.find? (canG q) = some r := by
  cases e : q.find? (canG q) with
  | none =>
    rw [List.find?_eq_none] at e
    exact absurd hc (e r hr)
  | some s =>
    obtain ⟨hs, hs'⟩ := find_can e
    rw [can_one h hs hr hs' hc]
theorem scn_step (h : Ok W q) {r : Rq} (hr : r ∈ q) (hc : canG q r = true) (n : Nat) : scn (n + 1) q = (r.id :: (scn n (chg grtR r.id q)).1, (scn n (chg grtR r.id q)).2) := by
  conv => lhs; unfold scn
  rw [can_find h hr hc]
/-- What a scan has come to. -/
inductive Steps (q0 : List Rq) : List Int → List Rq → Prop
  | refl : Steps q0 [] q0
  | snoc {ids : List Int} {q : List Rq} {r : Rq} (h : Steps q0 ids q) (hr : r ∈ q) (hc : canG q r = true) : Steps q0 (ids ++ [r.id]) (chg grtR r.id q)
theorem Steps.ok {q0 : List Rq} {ids : List Int} (h : Steps q0 ids q) (h0 : Ok W q0) : Ok W q := by
  induction h with
  | refl => exact h0
  | snoc _ hr hc ih => exact ok_grt ih _ hr hc
theorem Steps.scn {q0 : List Rq} {ids : List Int} (h : Steps q0 ids q) (h0 : Ok W q0) : ∀ n, scn (ids.length + n) q0 = (ids ++ (scn n q).1, (scn n q).2) := by
  induction h with
  | refl => intro n; simp
  | snoc hs hr hc ih =>
    intro n
    have := ih (n + 1)
    rw [scn_step (hs.ok h0) hr hc] at this
    rw [List.length_append, List.length_singleton, show ∀ a : Nat, a + 1 + n = a + (n + 1) by intro a; omega, this]
    simp
theorem Steps.wtg {q0 : List Rq} {ids : List Int} (h : Steps q0 ids q) (h0 : Ok W q0) : wtg q + ids.length = wtg q0 := by
  induction h with
  | refl => simp
  | snoc hs hr hc ih =>
    have := wtg_grt (hs.ok h0) hr (can_sn hc)
    simp
    omega
/-- A scan that is at its end is the scan. -/
theorem Steps.scan {q0 : List Rq} {ids : List Int} (h : Steps q0 ids q) (h0 : Ok W q0) (hd : Done q) : scanQ q0 = (ids, q) := by
  have hw := h.wtg h0
  unfold scanQ
  rw [← hw, Nat.add_comm, h.scn h0, scn_done hd]
  simp
theorem scn_steps (h : Ok W q) : ∀ n, wtg q ≤ n → Steps q (scn n q).1 (scn n q).2 ∧ Done (scn n q).2
  | n, hn => by
    suffices H : ∀ n q0 ids q, Ok W q0 → Steps q0 ids q → wtg q ≤ n → Steps q0 (ids ++ (scn n q).1) (scn n q).2 ∧ Done (scn n q).2 by
      have := H n q [] q h .refl hn
      simpa using this
    clear hn n h
    intro n
    induction n with
    | zero =>
      intro q0 ids q h0 hs hn
      refine ⟨by simpa [scn] using hs, fun r hr => ?_⟩
      have hr' : r ∈ q := hr
      cases e : canG q r with
      | false => exact e
      | true =>
        have := wtg_grt (hs.ok h0) hr' (can_sn e)
        omega
    | succ n ih =>
      intro q0 ids q h0 hs hn
      cases e : q.find? (canG q) with
      | none =>
        have hd : Done q := fun r hr => by
          rw [List.find?_eq_none] at e
          simpa using e r hr
        rw [scn_done hd]
        exact ⟨by simpa using hs, hd⟩
      | some r =>
        obtain ⟨hr, hc⟩ := find_can e
        have hw := wtg_grt (hs.ok h0) hr (can_sn hc)
        have := ih q0 (ids ++ [r.id]) _ h0 (hs.snoc hr hc) (by omega)
        rw [scn_step (hs.ok h0) hr hc]
        simpa using this
theorem scan_steps (h : Ok W q) : Steps q (scanQ q).1 (scanQ q).2 ∧ Done (scanQ q).2 := scn_steps h _ (Nat.le_refl _)
theorem scan_done (h : Done q) : scanQ q = ([], q) := scn_done h _
theorem scan_ok (h : Ok W q) : Ok W (scanQ q).2 := (scan_steps h).1.ok h

/-- What was granted, and what was not. -/
theorem Steps.form {q0 : List Rq} {ids : List Int} (h : Steps q0 ids q) (h0 : Ok W q0) : q = q0.map (fun r => if ids.contains r.id = true then grtR r else r) ∧ ∀ i ∈ ids, ∃ r ∈ q0, r.id = i ∧ 0 < r.sn := by
  induction h with
  | refl => exact ⟨by simp, by simp⟩
  | @snoc ids q r hs hr hc ih =>
    obtain ⟨e, hi⟩ := ih
    have hr' := hr
    rw [e] at hr'
    obtain ⟨s, hs0, hsr⟩ := List.mem_map.1 hr'
    have hsn := can_sn hc
    have hse : s = r := by
      split at hsr
      · rw [← hsr] at hsn; exact absurd hsn (Int.lt_irrefl _)
      · exact hsr
    subst hse
    refine ⟨?_, fun i h => ?_⟩
    · conv => lhs; rw [e]
      unfold chg
      rw [List.map_map]
      refine List.map_congr_left fun x hx => ?_
      simp only [Function.comp]
      by_cases q1 : x.id = s.id
      · obtain rfl := h0.inj x hx s hs0 q1
        split at hsr
        · rw [← hsr] at hsn; exact absurd hsn (Int.lt_irrefl _)
        · rename_i hn
          rw [if_neg hn, if_pos rfl, if_pos (by simp)]
      · by_cases q2 : ids.contains x.id = true
        · rw [if_pos q2, if_neg (by exact q1), if_pos (by simp at q2 ⊢; exact .inl q2)]
        · rw [if_neg q2, if_neg q1, if_neg (by simp at q2 ⊢; exact ⟨q2, q1⟩)]
    · rcases List.mem_append.1 h with h | h
      · exact hi i h
      · rw [List.mem_singleton] at h; subst h
        exact ⟨s, hs0, rfl, hsn⟩
/-- Nobody overtakes. -/
theorem Steps.turn {q0 : List Rq} {ids : List Int} (h : Steps q0 ids q) (h0 : Ok W q0) {a b : Rq} (ha : a ∈ q0) (hb : b ∈ q0) (za : a.md = 0) (zb : b.md = 0) (hlt : a.sn < b.sn) (hi : b.id ∈ ids) : a.id ∈ ids := by
  induction h with
  | refl => cases hi
  | @snoc ids q r hs hr hc ih =>
    rcases List.mem_append.1 hi with hi | hi
    · exact List.mem_append_left _ (ih hi)
    · rw [List.mem_singleton] at hi
      by_cases q1 : a.id ∈ ids
      · exact List.mem_append_left _ q1
      · exfalso
        obtain ⟨e, _⟩ := hs.form h0
        have haq : a ∈ q := by
          rw [e]
          exact List.mem_map.2 ⟨a, ha, by rw [if_neg (by simpa using q1)]⟩
        have hbr : r = b := by
          have hr' := hr
          rw [e] at hr'
          obtain ⟨s, hs0, hsr⟩ := List.mem_map.1 hr'
          have hsn := can_sn hc
          split at hsr
          · rw [← hsr] at hsn; exact absurd hsn (Int.lt_irrefl _)
          · rw [← hsr]
            exact h0.inj s hs0 b hb (by rw [hsr]; exact hi.symm)
        subst hbr
        have ni : a.id ≠ r.id := fun q2 => by
          have := h0.inj a ha r hb q2
          subst this
          omega
        have := (blk_no (no_blk hc haq ni)).2.2 zb za
        omega
end
end Go.Proofs.YtodnlelnpidliaaGreat
end

/- Plain facts of queues of requests: what the calls give; blockers; whether a head is valid. -/
section
namespace Go.Proofs.YtodnlelnpidliaaGreat
set_option linter.unusedVariables false

structure Hq where
  t : Int
  r : Int
  W : Int
  q : List Rq
def noH : Hq := ⟨0, 0, 0, []⟩
def rtB (W : Int) (r : Rq) : Bool := !(((((decide (r.id < 0) || !knI r.md) || !knI r.wt) || decide (r.sn < 0)) || decide (W < r.sn))) && (if 0 < r.sn then !cvI r.md r.wt else ((r.md != 0) && (r.wt == r.md)))
def prB (a b : Rq) : Bool := !((((a.id == b.id || a.txn == b.txn) || (decide (0 < a.sn) && a.sn == b.sn)) || ((a.md == 0) && ((b.md != 0) || decide (b.sn < a.sn)))) || (((a.md != 0) && (b.md != 0)) && !cpI a.md b.md))
def pwB : List Rq → Bool
  | [] => true
  | a :: r => r.all (prB a) && pwB r
def okP (W : Int) (q : List Rq) : Bool := q.all (rtB W) && pwB q
def okQ (W : Int) (q : List Rq) : Bool := (decide (0 ≤ W) && decide (W ≤ 4611686018427387904)) && okP W q
theorem pwB_snoc (b : Rq) : ∀ q : List Rq, pwB (q ++ [b]) = (pwB q && q.all fun a => prB a b)
  | [] => rfl
  | a :: q => by
    show ((q ++ [b]).all (prB a) && pwB (q ++ [b])) = ((q.all (prB a) && pwB q) && (a :: q).all fun a => prB a b)
    rw [pwB_snoc b q, List.all_append]
    simp only [List.all_cons, List.all_nil, Bool.and_true]
    cases q.all (prB a) <;> cases prB a b <;> cases pwB q <;> simp
theorem okP_snoc (W : Int) (b : Rq) (q : List Rq) : okP W (q ++ [b]) = (okP W q && (rtB W b && q.all fun a => prB a b)) := by
  unfold okP
  rw [pwB_snoc, List.all_append]
  simp only [List.all_cons, List.all_nil, Bool.and_true]
  cases q.all (rtB W) <;> cases rtB W b <;> cases pwB q <;> simp
theorem rtB_iff (W : Int) (r : Rq) : rtB W r = true ↔ Rt W r := by
  unfold rtB
  simp only [Bool.and_eq_true, Bool.not_eq_true', Bool.or_eq_false_iff, decide_eq_false_iff_not, Bool.not_eq_false', Int.not_lt]
  constructor
  · rintro ⟨⟨⟨⟨⟨h1, h2⟩, h3⟩, h4⟩, h5⟩, h6⟩
    refine ⟨h1, h2, h3, h4, h5, fun z => ?_, fun z => ?_⟩
    · rw [if_pos z] at h6
      simpa using h6
    · rw [if_neg (by omega)] at h6
      simpa using h6
  · intro h
    refine ⟨⟨⟨⟨⟨h.id, h.md⟩, h.wt⟩, h.s0⟩, h.sW⟩, ?_⟩
    by_cases z : 0 < r.sn
    · rw [if_pos z]; simpa using h.w z
    · rw [if_neg z]
      have := h.h (by have := h.s0; omega)
      simpa using this
theorem prB_iff {W : Int} {a b : Rq} (ha : Rt W a) : prB a b = true ↔ Pr a b := by
  unfold prB
  simp only [Bool.not_eq_true', Bool.or_eq_false_iff, Bool.and_eq_false_iff, beq_eq_false_iff_ne, bne_eq_false_iff_eq, decide_eq_false_iff_not, Bool.not_eq_false', Int.not_lt, ne_eq]
  constructor
  · rintro ⟨⟨⟨⟨h1, h2⟩, h3⟩, h4⟩, h5⟩
    refine ⟨h1, h2, fun z => ?_, fun z => ?_, fun z y => ?_⟩
    · rcases h3 with h3 | h3
      · omega
      · exact h3
    · have hs := ha.w' z
      rcases h4 with h4 | h4
      · exact absurd z h4
      · refine ⟨h4.1, ?_⟩
        rcases h3 with h3 | h3
        · omega
        · omega
    · rcases h5 with (h5 | h5) | h5
      · exact absurd h5 z
      · exact absurd h5 y
      · exact h5
  · intro h
    refine ⟨⟨⟨⟨h.id, h.txn⟩, ?_⟩, ?_⟩, ?_⟩
    · by_cases z : 0 < a.sn
      · exact .inr (h.sn z)
      · exact .inl (Int.not_lt.1 z)
    · by_cases z : a.md = 0
      · exact .inr ⟨(h.ord z).1, Int.le_of_lt (h.ord z).2⟩
      · exact .inl z
    · by_cases z : a.md = 0
      · exact .inl (.inl z)
      · by_cases y : b.md = 0
        · exact .inl (.inr y)
        · exact .inr (h.cp z y)
theorem pwB_iff {W : Int} : ∀ q : List Rq, (∀ r ∈ q, Rt W r) → (pwB q = true ↔ q.Pairwise Pr)
  | [], _ => by simp [pwB]
  | a :: q, h => by
    have ha := h a (by simp)
    show (q.all (prB a) && pwB q) = true ↔ _
    rw [Bool.and_eq_true, pwB_iff q (fun r hr => h r (List.mem_cons_of_mem _ hr)), List.pairwise_cons, List.all_eq_true]
    constructor
    · rintro ⟨h1, h2⟩
      exact ⟨fun b hb => (prB_iff ha).1 (h1 b hb), h2⟩
    · rintro ⟨h1, h2⟩
      exact ⟨fun b hb => (prB_iff ha).2 (h1 b hb), h2⟩
theorem okQ_iff (W : Int) (q : List Rq) : okQ W q = true ↔ Ok W q := by
  unfold okQ okP
  simp only [Bool.and_eq_true, decide_eq_true_eq, List.all_eq_true]
  constructor
  · rintro ⟨⟨h1, h2⟩, h3, h4⟩
    have hr : ∀ r ∈ q, Rt W r := fun r hr => (rtB_iff W r).1 (h3 r hr)
    exact ⟨h1, h2, hr, (pwB_iff q hr).1 h4⟩
  · intro h
    exact ⟨⟨h.w0, h.wB⟩, fun r hr => (rtB_iff W r).2 (h.rt r hr), (pwB_iff q h.rt).2 h.pr⟩

/-- What the calls give: a head, whether it was granted, an error. -/
def askR (h : Hq) (id txn m : Int) : Hq × Bool × Int := if askE h.q id txn m = 0 then (⟨h.t, h.r, (askQ h.W h.q id txn m).1, (askQ h.W h.q id txn m).2.1⟩, (askQ h.W h.q id txn m).2.2, 0) else (noH, false, askE h.q id txn m)
def upR (h : Hq) (id m : Int) : Hq × Bool × Int :=
  if m = 0 ∨ knI m = false then (noH, false, 2)
  else match fnd h.q id with
  | none => (noH, false, 5)
  | some r => if 0 < r.sn then (noH, false, 7) else (⟨h.t, h.r, (upQ h.W h.q r m).1, (upQ h.W h.q r m).2.1⟩, (upQ h.W h.q r m).2.2, 0)
def lvR (h : Hq) (id : Int) : Hq × Int := match fnd h.q id with
  | none => (noH, 5)
  | some _ => (⟨h.t, h.r, h.W, lvQ id h.q⟩, 0)
def abRes (h : Hq) (id : Int) : Hq × Int := match fnd h.q id with
  | none => (noH, 5)
  | some r => if 0 < r.sn then (⟨h.t, h.r, h.W, abQ r h.q⟩, 0) else (noH, 7)
def hnR (h : Hq) (id txn : Int) : Hq × Int := match fnd h.q id with
  | none => (noH, 5)
  | some r => if (h.q.any fun o => !(o.id == id) && o.txn == txn) = true then (noH, 4) else if 0 < r.sn then (noH, 7) else (⟨h.t, h.r, h.W, chg (fun x => ⟨x.id, txn, x.md, x.wt, x.sn⟩) id h.q⟩, 0)
theorem fnd_is {q : List Rq} {id : Int} {r : Rq} (h : fnd q id = some r) : r ∈ q ∧ r.id = id := by
  have h1 := List.mem_of_find?_eq_some h
  have h2 := List.find?_some h
  exact ⟨h1, by simpa using h2⟩
end Go.Proofs.YtodnlelnpidliaaGreat
end
