/- Texts merged: Nw, ModeA, QuM, QuS, QuP, QuH, QuT, Tch, Rw -/
import Derived.Test.YtmciiobncfchlaaRows
import Derived.WalkKit
import Derived.Lib.Hide
import Derived.Deep.Draws
import Derived.ProofKit
import Derived.OpenShut
import Derived.ShutString
import Derived.Deep.WholeRow
import Derived.Outline
import Derived.LoopTactic
import Derived.WalkSpells
import Derived.Laws.OwnMore
import Derived.WalkSmall

/- An append to a slice that the call itself made, with one thing more than the library's law: where the result lies. Over whatever program. -/
section
namespace Go.Proofs.Ytmciiobncfchlaa
open Go.RowKit

/-- The worlds: w' is w with new blocks; nothing that was there has changed. -/
def Nw (w w' : World) : Prop := Below w.heap.size w w'
theorem Nw.refl (w : World) : Nw w w := Below.refl _ _
theorem Nw.trans {a b c : World} (h : Nw a b) (k : Nw b c) : Nw a c := Below.trans h (Below.mono k h.size)
theorem Nw.alloc {w w' : World} (h : Nw w w') (o : Obj) : Nw w (w'.alloc o) := Below.alloc h h.size o
theorem Nw.drewN {w w' : World} (h : Nw w w') (n : Nat) : Nw w (w'.drewN n) := ⟨h.os, h.tape, h.output, h.size, h.block⟩
theorem Nw.sz {w w' : World} (h : Nw w w') : w.heap.size ≤ w'.heap.size := Below.size h
theorem Nw.cell {w w' : World} (h : Nw w w') {b o : Nat} (hb : b < w.heap.size) : w'.cell? ⟨b, o, none⟩ = w.cell? ⟨b, o, none⟩ := Below.cell h hb
theorem Nw.below {B : Nat} {w w1 w2 : World} (h : Below B w w1) (k : Nw w1 w2) (hB : B ≤ w1.heap.size) : Below B w w2 := Below.trans h (Below.mono k hB)
theorem Nw.grownBy {w w' : World} (h : Nw w w') (row : Option Nat) : w.grownBy w' row := ⟨h.os, h.tape, h.output, h.size, fun k hk _ => h.block k hk⟩
theorem Nw.owns {w w' : World} (h : Nw w w') {base : Nat} {e : TypeId} {size : Nat} {v : Value} {n : Nat} {xs : List Value} (ho : w.ownsRow base e size v n xs) : w'.ownsRow base e size v n xs := by
  by_cases hv : v.ownBlock = none
  · exact ho.kept (h.grownBy none) (.inl hv)
  · exact ho.kept (h.grownBy none) (.inr hv)

variable {P : Program}

theorem run_append_fresh (w : World) (base : Nat) (t ty e : TypeId) (i : TypeInfo) (z : Value) (size bytes : Nat) (ht : P.underlying t = some (.slice e)) (hi : P.info? e = some i) (hz : i.zero = some z)
    (hsize : i.size = size) (hby : i.bytes = bytes) (hzs : z.cells.size = size) (hsz : 0 < size)
    (v : Value) (n : Nat) (xs : List Value) (hown : w.ownsRow base e size v n xs)
    (a : Addr) (m c : Nat) (news : List Value) (hl : news.length = m * size) (hnews : ∀ j u, news[j]? = some u → w.cell? (a.add j) = some u) (h1 : ∀ u ∈ news, u.oneCell' = true)
    (h63 : n + m ≤ maxLen) (hbytes : (n + m) * bytes ≤ 140737488355328) (hbase : base ≤ w.heap.size) :
    ∃ v' w', (Builtin.append_ #[t, t] ty #[v, .slice (some a) m c]).run P w = .ok v' w' ∧ w'.ownsRow base e size v' (n + m) (xs ++ news) ∧ w.grownBy w' v.ownBlock ∧
      (v'.ownBlock = v.ownBlock ∨ v'.ownBlock = some w.heap.size) := by
  obtain ⟨v', w', hr, g1, g2, g3⟩ := run_append_own (P := P) w base t ty e i z size bytes ht hi hz hsize hby hzs hsz v n xs hown a m c news hl hnews h1 h63 hbytes hbase
  refine ⟨v', w', hr, g1, g2, ?_⟩
  have h63' : ((n + m : Nat) : Int) ≤ 9223372036854775807 := by unfold maxLen at h63; omega
  subst hsize
  subst hby
  rcases hown.2 with ⟨rfl, rfl⟩ | ⟨g, cap, cur, rfl, hbg, hg, hnc, hcm, hcs, htake⟩
  · by_cases hm : m = 0
    · have e1 := g3.2 ⟨rfl, hm⟩
      subst e1
      exact .inl rfl
    · have hr2 := run_append_nil (P := P) w t ty e i z ht hi hz a m c news hl hnews (by omega) (by omega) (by simp only [Nat.zero_add] at hbytes; omega)
      rw [hr2] at hr
      injection hr with e1 _
      subst e1
      exact .inr rfl
  · by_cases hroom : n + m ≤ cap
    · have hfit : n * i.size + news.length ≤ cur.size := by rw [hl, hcs, ← Nat.add_mul]; exact Nat.mul_le_mul_right _ hroom
      have hr2 := run_append_room (P := P) w t ty e i ht hi g n cap cur hg a m c news hl hnews h1 hroom hfit
      rw [hr2] at hr
      injection hr with e1 _
      subst e1
      exact .inl rfl
    · have hr2 := run_append_grow (P := P) w t ty e i z ht hi hz ⟨g, 0, none⟩ n cap xs hown.1 (hown.cells (g := g) rfl) a m c news hl hnews (by omega) h63' (growslice_fits (by omega) hbytes)
      rw [hr2] at hr
      injection hr with e1 _
      subst e1
      exact .inr rfl

theorem wpList_append_fresh (w : World) {ops : Array Oper} {rest : List Oper} {o : Oper} {a : Act} {Q : Exit → Act → World → Prop} (hgd : Region.wanted o (yielded ops a.tmps) = true) (s x : Operand) (t : TypeId)
    (ho : o.op = .call { callee := .builtin .append, args := #[s, x], argTypes := #[t, t] })
    (base : Nat) (e : TypeId) (i : TypeInfo) (z : Value) (size bytes : Nat) (ht : P.underlying t = some (.slice e)) (hi : P.info? e = some i) (hz : i.zero = some z)
    (hsize : i.size = size) (hby : i.bytes = bytes) (hzs : z.cells.size = size) (hsz : 0 < size)
    (v : Value) (n : Nat) (xs : List Value) (hs : a.eval s = v) (hown : w.ownsRow base e size v n xs)
    (ad : Addr) (m c : Nat) (news : List Value) (hx : a.eval x = .slice (some ad) m c) (hl : news.length = m * size) (hnews : ∀ j u, news[j]? = some u → w.cell? (ad.add j) = some u) (h1 : ∀ u ∈ news, u.oneCell' = true)
    (h63 : n + m ≤ maxLen) (hbytes : (n + m) * bytes ≤ 140737488355328) (hbase : base ≤ w.heap.size)
    (h : ∀ v' w', w'.ownsRow base e size v' (n + m) (xs ++ news) → w.grownBy w' v.ownBlock → (v'.ownBlock = v.ownBlock ∨ v'.ownBlock = some w.heap.size) → wpList P ops Q rest (a.put o.dst v') w') :
    wpList P ops Q (o :: rest) a w := by
  obtain ⟨v', w', hr, h2, h3, h4⟩ := run_append_fresh (P := P) w base t o.type e i z size bytes ht hi hz hsize hby hzs hsz v n xs hown ad m c news hl hnews h1 h63 hbytes hbase
  refine wpList_step fun _ hK => ?_
  rw [if_pos hgd]
  unfold Oper.wp execOp
  simp only [ho, resolve, invoke, builtin, Sem.run_bind, Sem.run_pure, Result.andThen_ok, List.map_toArray, List.map_cons, List.map_nil, hs, hx, hr]
  exact hK _ _ (h v' w' h2 h3 h4)
end Go.Proofs.Ytmciiobncfchlaa
end

/- Contracts of the functions of package mode: for every mode by its number, what the call returns; the world has at most new blocks. No conditions but those typed. -/
section
namespace Go.Proofs.Ytmciiobncfchlaa
open Go.ChangeShapes Go.WideShapes Go.ChangeAt Go.RowKit

theorem known_yes (m : Int) (w : World) (h0 : 0 ≤ m) (h1 : m < 7) :
    Calls Try.prog 69 #[.int .i64 m] w fun e w' => e = .returned (.bool true) ∧ w = w' := by
  go_enter Try.func69, Try.ntmps69
  go_wp2
  go_ret
  exact ⟨rfl, rfl⟩

theorem known_no (m : Int) (w : World) (h : m < 0 ∨ 7 ≤ m) :
    Calls Try.prog 69 #[.int .i64 m] w fun e w' => e = .returned (.bool false) ∧ w = w' := by
  rcases h with h | h
  · go_enter Try.func69, Try.ntmps69
    go_wp2
    go_ret
    exact ⟨rfl, rfl⟩
  · have h0 : 0 ≤ m := by omega
    have hd : decide (m < 7) = false := by simp; omega
    go_enter Try.func69, Try.ntmps69
    go_wp2
    go_ret
    exact ⟨rfl, rfl⟩

/-! ### The tables -/
/-- The suprema, as numbers, row by row. -/
def supL : List Int := [0,1,2,3,4,5,6, 1,1,2,3,4,5,6, 2,2,2,4,4,6,6, 3,3,4,3,4,5,6, 4,4,4,4,4,6,6, 5,5,6,5,6,5,6, 6,6,6,6,6,6,6]
def supTab : Array Value := (supL.map (Value.int .i64)).toArray
def supT (a b : Int) : Int := supL.getD (a.toNat * 7 + b.toNat) 0
theorem supTab_at (a b : Int) (ha : 0 ≤ a) (ha' : a < 7) (hb : 0 ≤ b) (hb' : b < 7) : supTab[a.toNat * 7 + b.toNat]? = some (.int .i64 (supT a b)) := by
  have h : a.toNat * 7 + b.toNat < supL.length := by show _ < 49; omega
  unfold supTab supT
  simp [List.getElem?_eq_getElem h, List.getD]
theorem supInfo : (Try.prog.info? 96).map (·.size) = some 49 := by kernel_rfl
theorem supOne : supTab.all (·.oneCell') = true := by kernel_rfl

/-- Who is compatible with whom, row by row. -/
def cmpL : List Bool := [true,true,true,true,true,true,true, true,true,true,true,true,true,false, true,true,true,false,false,false,false, true,true,false,true,false,true,false, true,true,false,false,false,false,false, true,true,false,true,false,false,false, true,false,false,false,false,false,false]
def cmpTab : Array Value := (cmpL.map Value.bool).toArray
def cmpT (a b : Int) : Bool := cmpL.getD (a.toNat * 7 + b.toNat) false
theorem cmpTab_at (a b : Int) (ha : 0 ≤ a) (ha' : a < 7) (hb : 0 ≤ b) (hb' : b < 7) : cmpTab[a.toNat * 7 + b.toNat]? = some (.bool (cmpT a b)) := by
  have h : a.toNat * 7 + b.toNat < cmpL.length := by show _ < 49; omega
  unfold cmpTab cmpT
  simp [List.getElem?_eq_getElem h, List.getD]
theorem cmpInfo : (Try.prog.info? 103).map (·.size) = some 49 := by kernel_rfl
theorem cmpOne : cmpTab.all (·.oneCell') = true := by kernel_rfl

set_option maxHeartbeats 400000 in
theorem sup_in (a b : Int) (w : World) (ha : 0 ≤ a) (ha' : a < 7) (hb : 0 ≤ b) (hb' : b < 7) :
    Calls Try.prog 43 #[.int .i64 a, .int .i64 b] w fun e w' => e = .returned (.int .i64 (supT a b)) ∧ Nw w w' := by
  have hT := supTab_at a b ha ha' hb hb'
  go_enter Try.func43, Try.ntmps43
  go_wp2_with (first | (go_at_call 69; refine (known_yes _ _ (by omega) (by omega)).mono ?_; rintro e w' ⟨rfl, rfl⟩) | (refine wpList_store_row rfl 96 _ _ rfl _ supTab rfl rfl 96 _ (heap_alloc_last _ _) supInfo rfl supOne ?_; rw [World.setRow_alloc_new]))
  go_ret
  exact ⟨rfl, (Nw.refl _).alloc _⟩

set_option maxHeartbeats 400000 in
theorem cmp_in (a b : Int) (w : World) (ha : 0 ≤ a) (ha' : a < 7) (hb : 0 ≤ b) (hb' : b < 7) :
    Calls Try.prog 51 #[.int .i64 a, .int .i64 b] w fun e w' => e = .returned (.bool (cmpT a b)) ∧ Nw w w' := by
  have hT := cmpTab_at a b ha ha' hb hb'
  go_enter Try.func51, Try.ntmps51
  go_wp2_with (first | (go_at_call 69; refine (known_yes _ _ (by omega) (by omega)).mono ?_; rintro e w' ⟨rfl, rfl⟩) | (refine wpList_store_row rfl 103 _ _ rfl _ cmpTab rfl rfl 103 _ (heap_alloc_last _ _) cmpInfo rfl cmpOne ?_; rw [World.setRow_alloc_new]))
  go_ret
  exact ⟨rfl, (Nw.refl _).alloc _⟩
end Go.Proofs.Ytmciiobncfchlaa
end

/- Plain facts of queues of requests: what a head may be, who blocks whom, what asks, upgrades, leaves and grants make of it. -/
section
namespace Go.Proofs.Ytmciiobncfchlaa
set_option linter.unusedVariables false

structure Rq where
  id : Int
  txn : Int
  md : Int
  wt : Int
  sn : Int

def knI (m : Int) : Bool := decide (0 ≤ m) && decide (m < 7)
def cpI (a b : Int) : Bool := (knI a && knI b) && cmpT a b
def cvI (a b : Int) : Bool := (knI a && knI b) && (supT a b == a)
theorem knI_iff (m : Int) : knI m = true ↔ 0 ≤ m ∧ m < 7 := by simp [knI]
theorem two_kn {p : Int → Int → Bool} (h : ∀ i < 7, ∀ j < 7, p (Int.ofNat i) (Int.ofNat j) = true) (a b : Int) (ha : knI a = true) (hb : knI b = true) : p a b = true := by
  rw [knI_iff] at ha hb
  obtain ⟨i, rfl⟩ := Int.eq_ofNat_of_zero_le ha.1
  obtain ⟨j, rfl⟩ := Int.eq_ofNat_of_zero_le hb.1
  exact h i (by omega) j (by omega)
theorem cmp_symm_all : ∀ i < 7, ∀ j < 7, (cmpT (Int.ofNat i) (Int.ofNat j) == cmpT (Int.ofNat j) (Int.ofNat i)) = true := by decide +kernel
theorem cmp_symm (a b : Int) (ha : knI a = true) (hb : knI b = true) : cmpT a b = cmpT b a := by
  have := two_kn (p := fun a b => cmpT a b == cmpT b a) cmp_symm_all a b ha hb
  simpa using this
theorem sup_kn_all : ∀ i < 7, ∀ j < 7, knI (supT (Int.ofNat i) (Int.ofNat j)) = true := by decide +kernel
theorem sup_kn (a b : Int) (ha : knI a = true) (hb : knI b = true) : knI (supT a b) = true := two_kn (p := fun a b => knI (supT a b)) sup_kn_all a b ha hb
theorem cv_zero_all : ∀ i < 7, ∀ j < 7, (cvI (Int.ofNat i) 0 && (cvI 0 (Int.ofNat j) == (Int.ofNat j == 0))) = true := by decide +kernel
theorem cv_zero (a : Int) (ha : knI a = true) : cvI a 0 = true := by
  have := two_kn (p := fun a b => cvI a 0 && (cvI 0 b == (b == 0))) cv_zero_all a a ha ha
  simp at this
  exact this.1
theorem zero_cv (a : Int) (ha : knI a = true) (h : a ≠ 0) : cvI 0 a = false := by
  have := two_kn (p := fun a b => cvI a 0 && (cvI 0 b == (b == 0))) cv_zero_all a a ha ha
  simp at this
  rw [this.2]
  simpa using h
/-- The supremum is not covered unless it is the mode itself; it is no mode's none. -/
theorem sup_cv_all : ∀ i < 7, ∀ j < 7, ((supT (Int.ofNat i) (Int.ofNat j) == Int.ofNat i) == cvI (Int.ofNat i) (supT (Int.ofNat i) (Int.ofNat j)) && (Int.ofNat i == 0 || supT (Int.ofNat i) (Int.ofNat j) != 0)) = true := by decide +kernel
theorem sup_cv (a b : Int) (ha : knI a = true) (hb : knI b = true) (h : supT a b ≠ a) : cvI a (supT a b) = false := by
  have := two_kn (p := fun a b => (supT a b == a) == cvI a (supT a b) && (a == 0 || supT a b != 0)) sup_cv_all a b ha hb
  simp only [Bool.and_eq_true, beq_iff_eq] at this
  rw [← this.1]
  simpa using h
theorem sup_ne (a b : Int) (ha : knI a = true) (hb : knI b = true) (h : a ≠ 0) : supT a b ≠ 0 := by
  have := two_kn (p := fun a b => (supT a b == a) == cvI a (supT a b) && (a == 0 || supT a b != 0)) sup_cv_all a b ha hb
  simp only [Bool.and_eq_true, beq_iff_eq, Bool.or_eq_true, bne_iff_ne] at this
  exact this.2.resolve_left h
theorem cp_kn (a b : Int) (ha : knI a = true) (hb : knI b = true) : cpI a b = cmpT a b := by simp [cpI, ha, hb]
theorem cp_symm (a b : Int) : cpI a b = cpI b a := by
  unfold cpI
  by_cases ha : knI a = true
  · by_cases hb : knI b = true
    · rw [ha, hb, cmp_symm a b ha hb]
    · simp [hb]
  · simp [ha]

/-- A request is as it may be. -/
structure Rt (W : Int) (r : Rq) : Prop where
  id : 0 ≤ r.id
  md : knI r.md = true
  wt : knI r.wt = true
  s0 : 0 ≤ r.sn
  sW : r.sn ≤ W
  w : 0 < r.sn → cvI r.md r.wt = false
  h : r.sn = 0 → r.md ≠ 0 ∧ r.wt = r.md
/-- Two requests, the first one ahead of the second, are as they may be. -/
structure Pr (a b : Rq) : Prop where
  id : a.id ≠ b.id
  txn : a.txn ≠ b.txn
  sn : 0 < a.sn → a.sn ≠ b.sn
  ord : a.md = 0 → b.md = 0 ∧ a.sn < b.sn
  cp : a.md ≠ 0 → b.md ≠ 0 → cpI a.md b.md = true
structure Ok (W : Int) (q : List Rq) : Prop where
  w0 : 0 ≤ W
  wB : W ≤ 4611686018427387904
  rt : ∀ r ∈ q, Rt W r
  pr : q.Pairwise Pr
theorem Rt.w' {W : Int} {r : Rq} (h : Rt W r) (z : r.md = 0) : 0 < r.sn := by
  have := h.h
  have h0 := h.s0
  rcases Int.lt_or_eq_of_le h0 with q | q
  · exact q
  · exact absurd z (this q.symm).1
theorem Rt.wne {W : Int} {r : Rq} (h : Rt W r) : r.wt ≠ 0 := by
  intro z
  rcases Int.lt_or_eq_of_le h.s0 with q | q
  · have := h.w q
    rw [z, cv_zero _ h.md] at this
    cases this
  · have := h.h q.symm
    exact this.1 (this.2.symm.trans z)
theorem Rt.mono {W W' : Int} {r : Rq} (h : Rt W r) (hW : W ≤ W') : Rt W' r := ⟨h.id, h.md, h.wt, h.s0, Int.le_trans h.sW hW, h.w, h.h⟩

/-- Does o block r? -/
def blk (r o : Rq) : Bool := ((o.md != 0) && !cpI o.md r.wt) || ((o.md != 0) && decide (0 < o.sn) && ((r.md == 0) || decide (o.sn < r.sn))) || ((r.md == 0) && (o.md == 0) && decide (o.sn < r.sn))
def canG (q : List Rq) (r : Rq) : Bool := decide (0 < r.sn) && q.all fun o => (o.id == r.id) || !blk r o
def chg (f : Rq → Rq) (id : Int) (q : List Rq) : List Rq := q.map fun r => if r.id = id then f r else r
def grtR (r : Rq) : Rq := ⟨r.id, r.txn, r.wt, r.wt, 0⟩
def lvQ (id : Int) (q : List Rq) : List Rq := q.filter fun r => !(r.id == id)
def abR (r : Rq) : Rq := ⟨r.id, r.txn, r.md, r.md, 0⟩
def has (q : List Rq) (id : Int) : Bool := q.any fun r => r.id == id
def fnd (q : List Rq) (id : Int) : Option Rq := q.find? fun r => r.id == id
def abQ (r : Rq) (q : List Rq) : List Rq := if r.md = 0 then lvQ r.id q else chg abR r.id q
def askE (q : List Rq) (id txn m : Int) : Int := if id < 0 ∨ m = 0 ∨ knI m = false then 2 else if (q.any fun r => r.id == id || r.txn == txn) = true then 4 else 0
def free (q : List Rq) (m : Int) : Bool := q.all fun r => r.sn == 0 && cpI r.md m
def askQ (W : Int) (q : List Rq) (id txn m : Int) : Int × List Rq × Bool := if free q m = true then (W, q ++ [⟨id, txn, m, m, 0⟩], true) else (W + 1, q ++ [⟨id, txn, 0, m, W + 1⟩], false)
def upF (q : List Rq) (r : Rq) (want : Int) : Bool := q.all fun o => (o.id == r.id) || (!(decide (0 < o.sn) && (o.md != 0)) && ((o.md == 0) || cpI o.md want))
def upQ (W : Int) (q : List Rq) (r : Rq) (m : Int) : Int × List Rq × Bool :=
  if supT r.md m = r.md then (W, q, true)
  else if upF q r (supT r.md m) = true then (W, chg (fun x => ⟨x.id, x.txn, supT r.md m, supT r.md m, 0⟩) r.id q, true)
  else (W + 1, chg (fun x => ⟨x.id, x.txn, x.md, supT r.md m, W + 1⟩) r.id q, false)

section
variable {W : Int} {q : List Rq}
theorem Ok.inj (h : Ok W q) : ∀ a ∈ q, ∀ b ∈ q, a.id = b.id → a = b := by
  have hp := h.pr
  clear h
  induction hp with
  | nil => intro a ha; cases ha
  | cons hx _ ih =>
    intro a ha b hb e
    rcases List.mem_cons.1 ha with rfl | ha'
    · rcases List.mem_cons.1 hb with rfl | hb'
      · rfl
      · exact absurd e (hx b hb').id
    · rcases List.mem_cons.1 hb with rfl | hb'
      · exact absurd e.symm (hx a ha').id
      · exact ih a ha' b hb' e
theorem Ok.injT (h : Ok W q) : ∀ a ∈ q, ∀ b ∈ q, a.txn = b.txn → a = b := by
  have hp := h.pr
  clear h
  induction hp with
  | nil => intro a ha; cases ha
  | cons hx _ ih =>
    intro a ha b hb e
    rcases List.mem_cons.1 ha with rfl | ha'
    · rcases List.mem_cons.1 hb with rfl | hb'
      · rfl
      · exact absurd e (hx b hb').txn
    · rcases List.mem_cons.1 hb with rfl | hb'
      · exact absurd e.symm (hx a ha').txn
      · exact ih a ha' b hb' e
theorem Ok.injS (h : Ok W q) : ∀ a ∈ q, ∀ b ∈ q, 0 < a.sn → a.sn = b.sn → a = b := by
  have hp := h.pr
  clear h
  induction hp with
  | nil => intro a ha; cases ha
  | cons hx _ ih =>
    intro a ha b hb h0 e
    rcases List.mem_cons.1 ha with rfl | ha'
    · rcases List.mem_cons.1 hb with rfl | hb'
      · rfl
      · exact absurd e ((hx b hb').sn h0)
    · rcases List.mem_cons.1 hb with rfl | hb'
      · exact absurd e.symm ((hx a ha').sn (e ▸ h0))
      · exact ih a ha' b hb' h0 e
/-- Two different ones that hold are compatible. -/
theorem Ok.cp (h : Ok W q) : ∀ a ∈ q, ∀ b ∈ q, a.id ≠ b.id → a.md ≠ 0 → b.md ≠ 0 → cpI a.md b.md = true := by
  have hp := h.pr
  clear h
  induction hp with
  | nil => intro a ha; cases ha
  | cons hx _ ih =>
    intro a ha b hb e h1 h2
    rcases List.mem_cons.1 ha with rfl | ha'
    · rcases List.mem_cons.1 hb with rfl | hb'
      · exact absurd rfl e
      · exact (hx b hb').cp h1 h2
    · rcases List.mem_cons.1 hb with rfl | hb'
      · rw [cp_symm]; exact (hx a ha').cp h2 h1
      · exact ih a ha' b hb' e h1 h2
/-- A change of one request: what is asked of it alone, and of it with each other one. -/
theorem ok_chg (h : Ok W q) {W' : Int} (hW : W ≤ W') (hB : W' ≤ 4611686018427387904) (f : Rq → Rq) (r : Rq) (hr : r ∈ q) (hrt : Rt W' (f r))
    (h1 : ∀ a ∈ q, a.id ≠ r.id → Pr a r → Pr a (f r)) (h2 : ∀ b ∈ q, b.id ≠ r.id → Pr r b → Pr (f r) b) : Ok W' (chg f r.id q) := by
  have hw := h.w0
  refine ⟨by omega, hB, fun x hx => ?_, ?_⟩
  · obtain ⟨y, hy, rfl⟩ := List.mem_map.1 hx
    by_cases e : y.id = r.id
    · rw [if_pos e, h.inj y hy r hr e]; exact hrt
    · rw [if_neg e]; exact (h.rt y hy).mono hW
  · unfold chg
    rw [List.pairwise_map]
    refine h.pr.imp_of_mem fun {a b} ha hb hp => ?_
    by_cases e1 : a.id = r.id
    · obtain rfl := h.inj a ha r hr e1
      rw [if_pos rfl, if_neg (fun e => hp.id e.symm)]
      exact h2 b hb (fun e => hp.id e.symm) hp
    · by_cases e2 : b.id = r.id
      · obtain rfl := h.inj b hb r hr e2
        rw [if_neg e1, if_pos rfl]
        exact h1 a ha e1 hp
      · rw [if_neg e1, if_neg e2]
        exact hp
theorem ok_lv (h : Ok W q) (id : Int) : Ok W (lvQ id q) := ⟨h.w0, h.wB, fun r hr => h.rt r (List.mem_filter.1 hr).1, h.pr.filter _⟩
theorem ok_ab (h : Ok W q) (r : Rq) (hr : r ∈ q) : Ok W (abQ r q) := by
  unfold abQ
  by_cases z : r.md = 0
  · rw [if_pos z]; exact ok_lv h _
  · rw [if_neg z]
    have t := h.rt r hr
    refine ok_chg h (Int.le_refl _) h.wB abR r hr ⟨t.id, t.md, t.md, Int.le_refl _, h.w0, fun e => absurd e (Int.lt_irrefl _), fun _ => ⟨z, rfl⟩⟩ (fun a ha ne p => ?_) (fun b hb ne p => ?_)
    · exact ⟨p.id, p.txn, fun e => by show a.sn ≠ 0; omega, fun e => absurd (p.ord e).1 z, p.cp⟩
    · exact ⟨p.id, p.txn, fun e => absurd e (Int.lt_irrefl _), fun e => absurd e z, p.cp⟩
theorem ok_ask (h : Ok W q) (id txn m : Int) (he : askE q id txn m = 0) (hB : W + 1 ≤ 4611686018427387904) : Ok (askQ W q id txn m).1 (askQ W q id txn m).2.1 := by
  unfold askE at he
  split at he
  · cases he
  split at he
  · cases he
  rename_i h1 h2
  have hi : 0 ≤ id := Int.not_lt.1 fun e => h1 (.inl e)
  have hm0 : m ≠ 0 := fun e => h1 (.inr (.inl e))
  have hmk : knI m = true := by
    cases e : knI m with
    | true => rfl
    | false => exact absurd (.inr (.inr e)) h1
  have hn : ∀ a ∈ q, a.id ≠ id ∧ a.txn ≠ txn := by
    intro a ha
    have := fun e => h2 (List.any_eq_true.2 ⟨a, ha, e⟩)
    simpa using this
  have hw := h.w0
  unfold askQ
  by_cases hf : free q m = true
  · rw [if_pos hf]
    have hf' : ∀ a ∈ q, a.sn = 0 ∧ cpI a.md m = true := by
      intro a ha
      have := List.all_eq_true.1 hf a ha
      simpa using this
    refine ⟨hw, h.wB, fun r hr => ?_, ?_⟩
    · rcases List.mem_append.1 hr with hr | hr
      · exact h.rt r hr
      · rw [List.mem_singleton] at hr; subst hr
        exact ⟨hi, hmk, hmk, Int.le_refl _, hw, fun e => absurd e (Int.lt_irrefl _), fun _ => ⟨hm0, rfl⟩⟩
    · rw [List.pairwise_append]
      refine ⟨h.pr, List.pairwise_singleton _ _, fun a ha b hb => ?_⟩
      rw [List.mem_singleton] at hb; subst hb
      obtain ⟨s0, c0⟩ := hf' a ha
      exact ⟨(hn a ha).1, (hn a ha).2, fun e => by omega, fun e => absurd e ((h.rt a ha).h s0).1, fun _ _ => c0⟩
  · rw [if_neg hf]
    refine ⟨by show 0 ≤ W + 1; omega, hB, fun r hr => ?_, ?_⟩
    · rcases List.mem_append.1 hr with hr | hr
      · exact (h.rt r hr).mono (by show W ≤ W + 1; omega)
      · rw [List.mem_singleton] at hr; subst hr
        exact ⟨hi, rfl, hmk, by show 0 ≤ W + 1; omega, Int.le_refl _, fun _ => zero_cv m hmk hm0, fun e => by simp only at e; omega⟩
    · rw [List.pairwise_append]
      refine ⟨h.pr, List.pairwise_singleton _ _, fun a ha b hb => ?_⟩
      rw [List.mem_singleton] at hb; subst hb
      have s := (h.rt a ha).sW
      exact ⟨(hn a ha).1, (hn a ha).2, fun e => by show a.sn ≠ W + 1; omega, fun e => ⟨rfl, by show a.sn < W + 1; omega⟩, fun _ e => absurd rfl e⟩
theorem ok_up (h : Ok W q) (r : Rq) (hr : r ∈ q) (m : Int) (hs : r.sn = 0) (hm : knI m = true) (hB : W + 1 ≤ 4611686018427387904) : Ok (upQ W q r m).1 (upQ W q r m).2.1 := by
  have t := h.rt r hr
  have z := (t.h hs).1
  have hk := sup_kn r.md m t.md hm
  have hw := h.w0
  unfold upQ
  by_cases c : supT r.md m = r.md
  · rw [if_pos c]; exact h
  · rw [if_neg c]
    have hne := sup_ne r.md m t.md hm z
    by_cases f : upF q r (supT r.md m) = true
    · rw [if_pos f]
      have f' : ∀ o ∈ q, o.id ≠ r.id → o.md ≠ 0 → cpI o.md (supT r.md m) = true := by
        intro o ho ne hz
        have := List.all_eq_true.1 f o ho
        simp [ne, hz] at this
        exact this.2
      refine ok_chg h (Int.le_refl _) h.wB _ r hr ⟨t.id, hk, hk, Int.le_refl _, hw, fun e => absurd e (Int.lt_irrefl _), fun _ => ⟨hne, rfl⟩⟩ (fun a ha ne p => ?_) (fun b hb ne p => ?_)
      · exact ⟨p.id, p.txn, fun e => by show a.sn ≠ 0; omega, fun e => absurd (p.ord e).1 z, fun e _ => f' a ha ne e⟩
      · exact ⟨p.id, p.txn, fun e => absurd e (Int.lt_irrefl _), fun e => absurd e hne, fun _ e => by rw [cp_symm]; exact f' b hb ne e⟩
    · rw [if_neg f]
      refine ok_chg h (by show W ≤ W + 1; omega) hB _ r hr ⟨t.id, t.md, hk, by show 0 ≤ W + 1; omega, Int.le_refl _, fun _ => sup_cv r.md m t.md hm c, fun e => by simp only at e; omega⟩ (fun a ha ne p => ?_) (fun b hb ne p => ?_)
      · have s := (h.rt a ha).sW
        exact ⟨p.id, p.txn, fun e => by show a.sn ≠ W + 1; omega, fun e => absurd (p.ord e).1 z, p.cp⟩
      · have s := (h.rt b hb).sW
        exact ⟨p.id, p.txn, fun e => by show W + 1 ≠ b.sn; omega, fun e => absurd e z, p.cp⟩
theorem no_blk {r o : Rq} (hc : canG q r = true) (ho : o ∈ q) (ne : o.id ≠ r.id) : blk r o = false := by
  unfold canG at hc
  rw [Bool.and_eq_true] at hc
  have := List.all_eq_true.1 hc.2 o ho
  simpa [ne] using this
theorem can_sn {r : Rq} (hc : canG q r = true) : 0 < r.sn := by
  unfold canG at hc
  rw [Bool.and_eq_true] at hc
  simpa using hc.1
theorem blk_no {r o : Rq} (h : blk r o = false) : (o.md ≠ 0 → cpI o.md r.wt = true) ∧ (o.md ≠ 0 → 0 < o.sn → r.md ≠ 0 ∧ r.sn ≤ o.sn) ∧ (r.md = 0 → o.md = 0 → r.sn ≤ o.sn) := by
  unfold blk at h
  simp only [Bool.or_eq_false_iff, Bool.and_eq_false_iff, bne_eq_false_iff_eq, Bool.not_eq_false', decide_eq_false_iff_not, beq_eq_false_iff_ne, Int.not_lt] at h
  obtain ⟨⟨h1, h2⟩, h3⟩ := h
  refine ⟨fun z => h1.resolve_left z, fun z s => ?_, fun z z' => ?_⟩
  · rcases h2 with (h2 | h2) | h2
    · exact absurd h2 z
    · omega
    · exact h2
  · rcases h3 with (h3 | h3) | h3
    · exact absurd z h3
    · exact absurd z' h3
    · exact h3
theorem ok_grt (h : Ok W q) (r : Rq) (hr : r ∈ q) (hc : canG q r = true) : Ok W (chg grtR r.id q) := by
  have t := h.rt r hr
  refine ok_chg h (Int.le_refl _) h.wB grtR r hr ⟨t.id, t.wt, t.wt, Int.le_refl _, h.w0, fun e => absurd e (Int.lt_irrefl _), fun _ => ⟨t.wne, rfl⟩⟩ (fun a ha ne p => ?_) (fun b hb ne p => ?_)
  · obtain ⟨b1, b2, b3⟩ := blk_no (no_blk hc ha ne)
    refine ⟨p.id, p.txn, fun e => by show a.sn ≠ 0; omega, fun e => ?_, fun e _ => b1 e⟩
    obtain ⟨z, s⟩ := p.ord e
    have := b3 z e
    omega
  · obtain ⟨b1, b2, b3⟩ := blk_no (no_blk hc hb ne)
    exact ⟨p.id, p.txn, fun e => absurd e (Int.lt_irrefl _), fun e => absurd e t.wne, fun _ e => by rw [cp_symm]; exact b1 e⟩
/-- At most one can be granted. -/
theorem can_one (h : Ok W q) {r s : Rq} (hr : r ∈ q) (hs : s ∈ q) (h1 : canG q r = true) (h2 : canG q s = true) : r = s := by
  refine Classical.byContradiction fun ne => ?_
  have ni : s.id ≠ r.id := fun e => ne (h.inj r hr s hs e.symm)
  obtain ⟨_, b2, b3⟩ := blk_no (no_blk h1 hs ni)
  obtain ⟨_, c2, c3⟩ := blk_no (no_blk h2 hr (fun e => ni e.symm))
  have p1 := can_sn h1
  have p2 := can_sn h2
  have hne : r.sn ≠ s.sn := fun e => ne (h.injS r hr s hs p1 e)
  by_cases z : r.md = 0
  · by_cases y : s.md = 0
    · have := b3 z y; have := c3 y z; omega
    · exact (b2 y p2).1 z
  · by_cases y : s.md = 0
    · exact (c2 z p1).1 y
    · have := (b2 y p2).2; have := (c2 z p1).2; omega
end
end Go.Proofs.Ytmciiobncfchlaa
end

/- Plain facts of queues of requests: scans. -/
section
namespace Go.Proofs.Ytmciiobncfchlaa
set_option linter.unusedVariables false

section
variable {W : Int} {q : List Rq}
theorem chg_none (f : Rq → Rq) (id : Int) : ∀ q : List Rq, (∀ a ∈ q, a.id ≠ id) → chg f id q = q
  | [], _ => rfl
  | a :: q, h => by
    show (if a.id = id then f a else a) :: chg f id q = _
    rw [if_neg (h a (by simp)), chg_none f id q (fun b hb => h b (List.mem_cons_of_mem _ hb))]
theorem lv_none (id : Int) (q : List Rq) (h : ∀ a ∈ q, a.id ≠ id) : lvQ id q = q := by
  unfold lvQ
  rw [List.filter_eq_self]
  intro a ha
  simpa using h a ha
/-- One request is what a change, or a leave, is about. -/
theorem Ok.part (h : Ok W q) {r : Rq} (hr : r ∈ q) : ∃ l m, q = l ++ r :: m ∧ (∀ a ∈ l, a.id ≠ r.id) ∧ (∀ a ∈ m, a.id ≠ r.id) := by
  obtain ⟨l, m, e⟩ := List.append_of_mem hr
  have hp := h.pr
  rw [e, List.pairwise_append, List.pairwise_cons] at hp
  exact ⟨l, m, e, fun a ha => (hp.2.2 a ha r (by simp)).id, fun b hb q => (hp.2.1.1 b hb).id q.symm⟩
theorem chg_mid (f : Rq → Rq) {l m : List Rq} {r : Rq} (h1 : ∀ a ∈ l, a.id ≠ r.id) (h2 : ∀ a ∈ m, a.id ≠ r.id) : chg f r.id (l ++ r :: m) = l ++ f r :: m := by
  have e : chg f r.id (l ++ r :: m) = chg f r.id l ++ (if r.id = r.id then f r else r) :: chg f r.id m := by simp [chg]
  rw [e, if_pos rfl, chg_none f _ l h1, chg_none f _ m h2]
theorem lv_mid {l m : List Rq} {r : Rq} (h1 : ∀ a ∈ l, a.id ≠ r.id) (h2 : ∀ a ∈ m, a.id ≠ r.id) : lvQ r.id (l ++ r :: m) = l ++ m := by
  have e : lvQ r.id (l ++ r :: m) = lvQ r.id l ++ lvQ r.id m := by simp [lvQ, List.filter_append]
  rw [e, lv_none _ l h1, lv_none _ m h2]
theorem Ok.nth (h : Ok W q) (k : Nat) (hk : k < q.length) : q = q.take k ++ q[k] :: q.drop (k + 1) ∧ (∀ a ∈ q.take k, a.id ≠ q[k].id) ∧ (∀ a ∈ q.drop (k + 1), a.id ≠ q[k].id) := by
  have e : q = q.take k ++ q[k] :: q.drop (k + 1) := by
    rw [← List.drop_eq_getElem_cons hk, List.take_append_drop]
  have hp := h.pr
  rw [e, List.pairwise_append, List.pairwise_cons] at hp
  exact ⟨e, fun a ha => (hp.2.2 a ha _ (List.mem_cons_self)).id, fun b hb q => (hp.2.1.1 b hb).id q.symm⟩
theorem set_mid {α : Type} (l m : List α) (r x : α) (k : Nat) (hl : l.length = k) : (l ++ r :: m).set k x = l ++ x :: m := by
  subst hl
  rw [List.set_append_right _ _ (Nat.le_refl _), Nat.sub_self, List.set_cons_zero]
theorem chg_set (h : Ok W q) (f : Rq → Rq) (k : Nat) (hk : k < q.length) : chg f q[k].id q = q.set k (f q[k]) := by
  obtain ⟨e, h1, h2⟩ := h.nth k hk
  have hl : (q.take k).length = k := by simp; omega
  have c := chg_mid f h1 h2
  rw [← e] at c
  rw [c, ← set_mid (q.take k) (q.drop (k + 1)) q[k] (f q[k]) k hl, ← e]
theorem lv_erase (h : Ok W q) (k : Nat) (hk : k < q.length) : lvQ q[k].id q = q.take k ++ q.drop (k + 1) := by
  obtain ⟨e, h1, h2⟩ := h.nth k hk
  have c := lv_mid h1 h2
  rw [← e] at c
  exact c

def wtg (q : List Rq) : Nat := q.countP fun r => decide (0 < r.sn)
theorem wtg_grt (h : Ok W q) {r : Rq} (hr : r ∈ q) (hs : 0 < r.sn) : wtg (chg grtR r.id q) + 1 = wtg q := by
  obtain ⟨l, m, e, h1, h2⟩ := h.part hr
  rw [e, chg_mid grtR h1 h2]
  simp [wtg, List.countP_append, grtR, hs]
  omega
def scn : Nat → List Rq → List Int × List Rq
  | 0, q => ([], q)
  | n + 1, q => match q.find? (canG q) with
    | none => ([], q)
    | some r => (r.id :: (scn n (chg grtR r.id q)).1, (scn n (chg grtR r.id q)).2)
def scanQ (q : List Rq) : List Int × List Rq := scn (wtg q) q
theorem find_can {r : Rq} (h : q.find? (canG q) = some r) : r ∈ q ∧ canG q r = true := ⟨List.mem_of_find?_eq_some h, List.find?_some h⟩
/-- Nothing can be granted. -/
def Done (q : List Rq) : Prop := ∀ r ∈ q, canG q r = false
theorem done_find (h : Done q) : q.find? (canG q) = none := by
  rw [List.find?_eq_none]
  intro r hr
  simp [h r hr]
theorem scn_done (h : Done q) : ∀ n, scn n q = ([], q)
  | 0 => rfl
  | n + 1 => by
    unfold scn
    rw [done_find h]
theorem can_find (h : Ok W q) {r : Rq} (hr : r ∈ q) (hc : canG q r = true) : q.find? (canG q) = some r := by
  cases e : q.find? (canG q) with
  | none =>
    rw [List.find?_eq_none] at e
    exact absurd hc (e r hr)
  | some s =>
    obtain ⟨hs, hs'⟩ := find_can e
    rw [can_one h hs hr hs' hc]
theorem scn_step (h : Ok W q) {r : Rq} (hr : r ∈ q) (hc : canG q r = true) (n : Nat) : scn (n + 1) q = (r.id :: (scn n (chg grtR r.id q)).1, (scn n (chg grtR r.id q)).2) := by
  conv => lhs; unfold scn
  rw [can_find h hr hc]
/-- What a scan has come to. -/
inductive Steps (q0 : List Rq) : List Int → List Rq → Prop
  | refl : Steps q0 [] q0
  | snoc {ids : List Int} {q : List Rq} {r : Rq} (h : Steps q0 ids q) (hr : r ∈ q) (hc : canG q r = true) : Steps q0 (ids ++ [r.id]) (chg grtR r.id q)
theorem Steps.ok {q0 : List Rq} {ids : List Int} (h : Steps q0 ids q) (h0 : Ok W q0) : Ok W q := by
  induction h with
  | refl => exact h0
  | snoc _ hr hc ih => exact ok_grt ih _ hr hc
theorem Steps.scn {q0 : List Rq} {ids : List Int} (h : Steps q0 ids q) (h0 : Ok W q0) : ∀ n, scn (ids.length + n) q0 = (ids ++ (scn n q).1, (scn n q).2) := by
  induction h with
  | refl => intro n; simp
  | snoc hs hr hc ih =>
    intro n
    have := ih (n + 1)
    rw [scn_step (hs.ok h0) hr hc] at this
    rw [List.length_append, List.length_singleton, show ∀ a : Nat, a + 1 + n = a + (n + 1) by intro a; omega, this]
    simp
theorem Steps.wtg {q0 : List Rq} {ids : List Int} (h : Steps q0 ids q) (h0 : Ok W q0) : wtg q + ids.length = wtg q0 := by
  induction h with
  | refl => simp
  | snoc hs hr hc ih =>
    have := wtg_grt (hs.ok h0) hr (can_sn hc)
    simp
    omega
/-- A scan that is at its end is the scan. -/
theorem Steps.scan {q0 : List Rq} {ids : List Int} (h : Steps q0 ids q) (h0 : Ok W q0) (hd : Done q) : scanQ q0 = (ids, q) := by
  have hw := h.wtg h0
  unfold scanQ
  rw [← hw, Nat.add_comm, h.scn h0, scn_done hd]
  simp
theorem scn_steps (h : Ok W q) : ∀ n, wtg q ≤ n → Steps q (scn n q).1 (scn n q).2 ∧ Done (scn n q).2
  | n, hn => by
    suffices H : ∀ n q0 ids q, Ok W q0 → Steps q0 ids q → wtg q ≤ n → Steps q0 (ids ++ (scn n q).1) (scn n q).2 ∧ Done (scn n q).2 by
      have := H n q [] q h .refl hn
      simpa using this
    clear hn n h
    intro n
    induction n with
    | zero =>
      intro q0 ids q h0 hs hn
      refine ⟨by simpa [scn] using hs, fun r hr => ?_⟩
      have hr' : r ∈ q := hr
      cases e : canG q r with
      | false => exact e
      | true =>
        have := wtg_grt (hs.ok h0) hr' (can_sn e)
        omega
    | succ n ih =>
      intro q0 ids q h0 hs hn
      cases e : q.find? (canG q) with
      | none =>
        have hd : Done q := fun r hr => by
          rw [List.find?_eq_none] at e
          simpa using e r hr
        rw [scn_done hd]
        exact ⟨by simpa using hs, hd⟩
      | some r =>
        obtain ⟨hr, hc⟩ := find_can e
        have hw := wtg_grt (hs.ok h0) hr (can_sn hc)
        have := ih q0 (ids ++ [r.id]) _ h0 (hs.snoc hr hc) (by omega)
        rw [scn_step (hs.ok h0) hr hc]
        simpa using this
theorem scan_steps (h : Ok W q) : Steps q (scanQ q).1 (scanQ q).2 ∧ Done (scanQ q).2 := scn_steps h _ (Nat.le_refl _)
theorem scan_done (h : Done q) : scanQ q = ([], q) := scn_done h _
theorem scan_ok (h : Ok W q) : Ok W (scanQ q).2 := (scan_steps h).1.ok h

/-- What was granted, and what was not. -/
theorem Steps.form {q0 : List Rq} {ids : List Int} (h : Steps q0 ids q) (h0 : Ok W q0) : q = q0.map (fun r => if ids.contains r.id = true then grtR r else r) ∧ ∀ i ∈ ids, ∃ r ∈ q0, r.id = i ∧ 0 < r.sn := by
  induction h with
  | refl => exact ⟨by simp, by simp⟩
  | @snoc ids q r hs hr hc ih =>
    obtain ⟨e, hi⟩ := ih
    have hr' := hr
    rw [e] at hr'
    obtain ⟨s, hs0, hsr⟩ := List.mem_map.1 hr'
    have hsn := can_sn hc
    have hse : s = r := by
      split at hsr
      · rw [← hsr] at hsn; exact absurd hsn (Int.lt_irrefl _)
      · exact hsr
    subst hse
    refine ⟨?_, fun i h => ?_⟩
    · conv => lhs; rw [e]
      unfold chg
      rw [List.map_map]
      refine List.map_congr_left fun x hx => ?_
      simp only [Function.comp]
      by_cases q1 : x.id = s.id
      · obtain rfl := h0.inj x hx s hs0 q1
        split at hsr
        · rw [← hsr] at hsn; exact absurd hsn (Int.lt_irrefl _)
        · rename_i hn
          rw [if_neg hn, if_pos rfl, if_pos (by simp)]
      · by_cases q2 : ids.contains x.id = true
        · rw [if_pos q2, if_neg (by exact q1), if_pos (by simp at q2 ⊢; exact .inl q2)]
        · rw [if_neg q2, if_neg q1, if_neg (by simp at q2 ⊢; exact ⟨q2, q1⟩)]
    · rcases List.mem_append.1 h with h | h
      · exact hi i h
      · rw [List.mem_singleton] at h; subst h
        exact ⟨s, hs0, rfl, hsn⟩
/-- Nobody overtakes. -/
theorem Steps.turn {q0 : List Rq} {ids : List Int} (h : Steps q0 ids q) (h0 : Ok W q0) {a b : Rq} (ha : a ∈ q0) (hb : b ∈ q0) (za : a.md = 0) (zb : b.md = 0) (hlt : a.sn < b.sn) (hi : b.id ∈ ids) : a.id ∈ ids := by
  induction h with
  | refl => cases hi
  | @snoc ids q r hs hr hc ih =>
    rcases List.mem_append.1 hi with hi | hi
    · exact List.mem_append_left _ (ih hi)
    · rw [List.mem_singleton] at hi
      by_cases q1 : a.id ∈ ids
      · exact List.mem_append_left _ q1
      · exfalso
        obtain ⟨e, _⟩ := hs.form h0
        have haq : a ∈ q := by
          rw [e]
          exact List.mem_map.2 ⟨a, ha, by rw [if_neg (by simpa using q1)]⟩
        have hbr : r = b := by
          have hr' := hr
          rw [e] at hr'
          obtain ⟨s, hs0, hsr⟩ := List.mem_map.1 hr'
          have hsn := can_sn hc
          split at hsr
          · rw [← hsr] at hsn; exact absurd hsn (Int.lt_irrefl _)
          · rw [← hsr]
            exact h0.inj s hs0 b hb (by rw [hsr]; exact hi.symm)
        subst hbr
        have ni : a.id ≠ r.id := fun q2 => by
          have := h0.inj a ha r hb q2
          subst this
          omega
        have := (blk_no (no_blk hc haq ni)).2.2 zb za
        omega
/-- While one upgrades, only such are granted. -/
theorem Steps.ups {q0 : List Rq} {ids : List Int} (h : Steps q0 ids q) (h0 : Ok W q0) {u s : Rq} (hu : u ∈ q0) (zu : u.md ≠ 0) (su : 0 < u.sn) (hui : u.id ∉ ids) (hs : s ∈ q0) (hsi : s.id ∈ ids) : s.md ≠ 0 := by
  induction h with
  | refl => cases hsi
  | @snoc ids q r hst hr hc ih =>
    rcases List.mem_append.1 hsi with hi | hi
    · exact ih (fun e => hui (List.mem_append_left _ e)) hi
    · rw [List.mem_singleton] at hi
      have hui1 : u.id ∉ ids := fun e => hui (List.mem_append_left _ e)
      have hui2 : u.id ≠ r.id := fun e => hui (List.mem_append_right _ (by simp [e]))
      obtain ⟨e, _⟩ := hst.form h0
      have huq : u ∈ q := by
        rw [e]
        exact List.mem_map.2 ⟨u, hu, by rw [if_neg (by simpa using hui1)]⟩
      have hbr : r = s := by
        have hr' := hr
        rw [e] at hr'
        obtain ⟨x, hx0, hxr⟩ := List.mem_map.1 hr'
        have hsn := can_sn hc
        split at hxr
        · rw [← hxr] at hsn; exact absurd hsn (Int.lt_irrefl _)
        · rw [← hxr]
          exact h0.inj x hx0 s hs (by rw [hxr]; exact hi.symm)
      subst hbr
      exact ((blk_no (no_blk hc huq hui2)).2.1 zu su).1
end
end Go.Proofs.Ytmciiobncfchlaa
end

/- Plain facts of queues of requests: what the calls give; blockers; whether a head is valid. -/
section
namespace Go.Proofs.Ytmciiobncfchlaa
set_option linter.unusedVariables false

structure Hq where
  t : Int
  r : Int
  W : Int
  q : List Rq
def noH : Hq := ⟨0, 0, 0, []⟩
def rtB (W : Int) (r : Rq) : Bool := !(((((decide (r.id < 0) || !knI r.md) || !knI r.wt) || decide (r.sn < 0)) || decide (W < r.sn))) && (if 0 < r.sn then !cvI r.md r.wt else ((r.md != 0) && (r.wt == r.md)))
def prB (a b : Rq) : Bool := !((((a.id == b.id || a.txn == b.txn) || (decide (0 < a.sn) && a.sn == b.sn)) || ((a.md == 0) && ((b.md != 0) || decide (b.sn < a.sn)))) || (((a.md != 0) && (b.md != 0)) && !cpI a.md b.md))
def pwB : List Rq → Bool
  | [] => true
  | a :: r => r.all (prB a) && pwB r
def okP (W : Int) (q : List Rq) : Bool := q.all (rtB W) && pwB q
def okQ (W : Int) (q : List Rq) : Bool := (decide (0 ≤ W) && decide (W ≤ 4611686018427387904)) && okP W q
theorem pwB_snoc (b : Rq) : ∀ q : List Rq, pwB (q ++ [b]) = (pwB q && q.all fun a => prB a b)
  | [] => rfl
  | a :: q => by
    show ((q ++ [b]).all (prB a) && pwB (q ++ [b])) = ((q.all (prB a) && pwB q) && (a :: q).all fun a => prB a b)
    rw [pwB_snoc b q, List.all_append]
    simp only [List.all_cons, List.all_nil, Bool.and_true]
    cases q.all (prB a) <;> cases prB a b <;> cases pwB q <;> simp
theorem okP_snoc (W : Int) (b : Rq) (q : List Rq) : okP W (q ++ [b]) = (okP W q && (rtB W b && q.all fun a => prB a b)) := by
  unfold okP
  rw [pwB_snoc, List.all_append]
  simp only [List.all_cons, List.all_nil, Bool.and_true]
  cases q.all (rtB W) <;> cases rtB W b <;> cases pwB q <;> simp
theorem rtB_iff (W : Int) (r : Rq) : rtB W r = true ↔ Rt W r := by
  unfold rtB
  simp only [Bool.and_eq_true, Bool.not_eq_true', Bool.or_eq_false_iff, decide_eq_false_iff_not, Bool.not_eq_false', Int.not_lt]
  constructor
  · rintro ⟨⟨⟨⟨⟨h1, h2⟩, h3⟩, h4⟩, h5⟩, h6⟩
    refine ⟨h1, h2, h3, h4, h5, fun z => ?_, fun z => ?_⟩
    · rw [if_pos z] at h6
      simpa using h6
    · rw [if_neg (by omega)] at h6
      simpa using h6
  · intro h
    refine ⟨⟨⟨⟨⟨h.id, h.md⟩, h.wt⟩, h.s0⟩, h.sW⟩, ?_⟩
    by_cases z : 0 < r.sn
    · rw [if_pos z]; simpa using h.w z
    · rw [if_neg z]
      have := h.h (by have := h.s0; omega)
      simpa using this
theorem prB_iff {W : Int} {a b : Rq} (ha : Rt W a) : prB a b = true ↔ Pr a b := by
  unfold prB
  simp only [Bool.not_eq_true', Bool.or_eq_false_iff, Bool.and_eq_false_iff, beq_eq_false_iff_ne, bne_eq_false_iff_eq, decide_eq_false_iff_not, Bool.not_eq_false', Int.not_lt, ne_eq]
  constructor
  · rintro ⟨⟨⟨⟨h1, h2⟩, h3⟩, h4⟩, h5⟩
    refine ⟨h1, h2, fun z => ?_, fun z => ?_, fun z y => ?_⟩
    · rcases h3 with h3 | h3
      · omega
      · exact h3
    · have hs := ha.w' z
      rcases h4 with h4 | h4
      · exact absurd z h4
      · refine ⟨h4.1, ?_⟩
        rcases h3 with h3 | h3
        · omega
        · omega
    · rcases h5 with (h5 | h5) | h5
      · exact absurd h5 z
      · exact absurd h5 y
      · exact h5
  · intro h
    refine ⟨⟨⟨⟨h.id, h.txn⟩, ?_⟩, ?_⟩, ?_⟩
    · by_cases z : 0 < a.sn
      · exact .inr (h.sn z)
      · exact .inl (Int.not_lt.1 z)
    · by_cases z : a.md = 0
      · exact .inr ⟨(h.ord z).1, Int.le_of_lt (h.ord z).2⟩
      · exact .inl z
    · by_cases z : a.md = 0
      · exact .inl (.inl z)
      · by_cases y : b.md = 0
        · exact .inl (.inr y)
        · exact .inr (h.cp z y)
theorem pwB_iff {W : Int} : ∀ q : List Rq, (∀ r ∈ q, Rt W r) → (pwB q = true ↔ q.Pairwise Pr)
  | [], _ => by simp [pwB]
  | a :: q, h => by
    have ha := h a (by simp)
    show (q.all (prB a) && pwB q) = true ↔ _
    rw [Bool.and_eq_true, pwB_iff q (fun r hr => h r (List.mem_cons_of_mem _ hr)), List.pairwise_cons, List.all_eq_true]
    constructor
    · rintro ⟨h1, h2⟩
      exact ⟨fun b hb => (prB_iff ha).1 (h1 b hb), h2⟩
    · rintro ⟨h1, h2⟩
      exact ⟨fun b hb => (prB_iff ha).2 (h1 b hb), h2⟩
theorem okQ_iff (W : Int) (q : List Rq) : okQ W q = true ↔ Ok W q := by
  unfold okQ okP
  simp only [Bool.and_eq_true, decide_eq_true_eq, List.all_eq_true]
  constructor
  · rintro ⟨⟨h1, h2⟩, h3, h4⟩
    have hr : ∀ r ∈ q, Rt W r := fun r hr => (rtB_iff W r).1 (h3 r hr)
    exact ⟨h1, h2, hr, (pwB_iff q hr).1 h4⟩
  · intro h
    exact ⟨⟨h.w0, h.wB⟩, fun r hr => (rtB_iff W r).2 (h.rt r hr), (pwB_iff q h.rt).2 h.pr⟩

/-- What the calls give: a head, whether it was granted, an error. -/
def askR (h : Hq) (id txn m : Int) : Hq × Bool × Int := if askE h.q id txn m = 0 then (⟨h.t, h.r, (askQ h.W h.q id txn m).1, (askQ h.W h.q id txn m).2.1⟩, (askQ h.W h.q id txn m).2.2, 0) else (noH, false, askE h.q id txn m)
def upR (h : Hq) (id m : Int) : Hq × Bool × Int :=
  if m = 0 ∨ knI m = false then (noH, false, 2)
  else match fnd h.q id with
  | none => (noH, false, 5)
  | some r => if 0 < r.sn then (noH, false, 7) else (⟨h.t, h.r, (upQ h.W h.q r m).1, (upQ h.W h.q r m).2.1⟩, (upQ h.W h.q r m).2.2, 0)
def lvR (h : Hq) (id : Int) : Hq × Int := match fnd h.q id with
  | none => (noH, 5)
  | some _ => (⟨h.t, h.r, h.W, lvQ id h.q⟩, 0)
def abRes (h : Hq) (id : Int) : Hq × Int := match fnd h.q id with
  | none => (noH, 5)
  | some r => if 0 < r.sn then (⟨h.t, h.r, h.W, abQ r h.q⟩, 0) else (noH, 7)
def hnR (h : Hq) (id txn : Int) : Hq × Int := match fnd h.q id with
  | none => (noH, 5)
  | some r => if (h.q.any fun o => !(o.id == id) && o.txn == txn) = true then (noH, 4) else if 0 < r.sn then (noH, 7) else (⟨h.t, h.r, h.W, chg (fun x => ⟨x.id, txn, x.md, x.wt, x.sn⟩) id h.q⟩, 0)
def mdQ (q : List Rq) (txn : Int) : Int := match q.find? fun r => r.txn == txn with
  | none => 0
  | some r => r.md
def grpQ (q : List Rq) : Int := (q.map fun x => x.md).foldl supT 0
/-- A number into rising ones, once. -/
def putL (n : Int) : List Int → List Int
  | [] => [n]
  | a :: r => if a < n then a :: putL n r else if a = n then a :: r else n :: a :: r
def blkL (q : List Rq) (r : Rq) : List Int := (q.filter fun o => !(o.id == r.id) && blk r o).foldl (fun l o => putL o.txn l) []
def blkR (q : List Rq) (id : Int) : List Int := match fnd q id with
  | none => []
  | some r => if 0 < r.sn then blkL q r else []
theorem putL_mem (n x : Int) : ∀ l : List Int, x ∈ putL n l ↔ x = n ∨ x ∈ l
  | [] => by simp [putL]
  | a :: r => by
    unfold putL
    split
    · simp only [List.mem_cons, putL_mem n x r]
      constructor
      · rintro (h | h | h)
        · exact .inr (.inl h)
        · exact .inl h
        · exact .inr (.inr h)
      · rintro (h | h | h)
        · exact .inr (.inl h)
        · exact .inl h
        · exact .inr (.inr h)
    split
    · rename_i e
      simp [← e]
    · simp
theorem fold_mem (x : Int) : ∀ (q : List Rq) (l : List Int), x ∈ q.foldl (fun l o => putL o.txn l) l ↔ x ∈ l ∨ ∃ o ∈ q, o.txn = x
  | [], l => by simp
  | a :: q, l => by
    rw [List.foldl_cons, fold_mem x q, putL_mem]
    simp only [List.mem_cons, exists_eq_or_imp]
    constructor
    · rintro ((h | h) | h)
      · exact .inr (.inl h.symm)
      · exact .inl h
      · exact .inr (.inr h)
    · rintro (h | h | h)
      · exact .inl (.inr h)
      · exact .inl (.inl h.symm)
      · exact .inr h
theorem blkL_mem (q : List Rq) (r : Rq) (x : Int) : x ∈ blkL q r ↔ ∃ o ∈ q, o.id ≠ r.id ∧ blk r o = true ∧ o.txn = x := by
  unfold blkL
  rw [fold_mem]
  simp only [List.not_mem_nil, false_or, List.mem_filter]
  constructor
  · rintro ⟨o, ⟨ho, hb⟩, rfl⟩
    simp only [Bool.and_eq_true, Bool.not_eq_true', beq_eq_false_iff_ne] at hb
    exact ⟨o, ho, hb.1, hb.2, rfl⟩
  · rintro ⟨o, ho, h1, h2, rfl⟩
    exact ⟨o, ⟨ho, by simp [h1, h2]⟩, rfl⟩
/-- Who waits can be granted exactly if it has no blockers. -/
theorem blkL_nil (q : List Rq) (r : Rq) (hs : 0 < r.sn) : blkL q r = [] ↔ canG q r = true := by
  rw [List.eq_nil_iff_forall_not_mem]
  unfold canG
  simp only [blkL_mem, Bool.and_eq_true, decide_eq_true_eq, List.all_eq_true, Bool.or_eq_true, beq_iff_eq, Bool.not_eq_true']
  constructor
  · intro h
    refine ⟨hs, fun o ho => ?_⟩
    by_cases e : o.id = r.id
    · exact .inl e
    · refine .inr ?_
      cases hb : blk r o with
      | false => rfl
      | true => exact absurd ⟨o, ho, e, hb, rfl⟩ (h o.txn)
  · rintro ⟨_, h⟩ x ⟨o, ho, e, hb, _⟩
    rcases h o ho with h | h
    · exact e h
    · rw [h] at hb; cases hb
theorem putL_sorted (n : Int) : ∀ l : List Int, l.Pairwise (· < ·) → (putL n l).Pairwise (· < ·)
  | [], _ => by simp [putL]
  | a :: r, h => by
    rw [List.pairwise_cons] at h
    unfold putL
    split
    · rename_i h1
      rw [List.pairwise_cons]
      refine ⟨fun x hx => ?_, putL_sorted n r h.2⟩
      rcases (putL_mem n x r).1 hx with rfl | hx
      · exact h1
      · exact h.1 x hx
    split
    · rw [List.pairwise_cons]; exact h
    · rename_i h1 h2
      rw [List.pairwise_cons]
      refine ⟨fun x hx => ?_, by rw [List.pairwise_cons]; exact h⟩
      rcases List.mem_cons.1 hx with rfl | hx
      · omega
      · have := h.1 x hx
        omega
theorem blkL_sorted (q : List Rq) (r : Rq) : (blkL q r).Pairwise (· < ·) := by
  unfold blkL
  suffices H : ∀ (q : List Rq) (l : List Int), l.Pairwise (· < ·) → (q.foldl (fun l o => putL o.txn l) l).Pairwise (· < ·) from H _ [] .nil
  intro q
  induction q with
  | nil => intro l h; exact h
  | cons a q ih => intro l h; exact ih _ (putL_sorted _ _ h)
/-- Rising lists with the same members are the same. -/
theorem rising_eq : ∀ {l m : List Int}, l.Pairwise (· < ·) → m.Pairwise (· < ·) → (∀ x, x ∈ l ↔ x ∈ m) → l = m
  | [], [], _, _, _ => rfl
  | [], b :: m, _, _, h => absurd ((h b).2 (by simp)) (by simp)
  | a :: l, [], _, _, h => absurd ((h a).1 (by simp)) (by simp)
  | a :: l, b :: m, h1, h2, h => by
    rw [List.pairwise_cons] at h1 h2
    have e : a = b := by
      rcases List.mem_cons.1 ((h a).1 (by simp)) with q | q
      · exact q
      · rcases List.mem_cons.1 ((h b).2 (by simp)) with q' | q'
        · exact q'.symm
        · have := h2.1 a q; have := h1.1 b q'; omega
    subst e
    refine congrArg _ (rising_eq h1.2 h2.2 fun x => ⟨fun hx => ?_, fun hx => ?_⟩)
    · rcases List.mem_cons.1 ((h x).1 (List.mem_cons_of_mem _ hx)) with q | q
      · subst q; have := h1.1 _ hx; omega
      · exact q
    · rcases List.mem_cons.1 ((h x).2 (List.mem_cons_of_mem _ hx)) with q | q
      · subst q; have := h2.1 _ hx; omega
      · exact q
/-- The request of a number. -/
theorem fnd_some {W : Int} {q : List Rq} (h : Ok W q) {r : Rq} (hr : r ∈ q) : fnd q r.id = some r := by
  unfold fnd
  cases e : q.find? fun x => x.id == r.id with
  | none =>
    rw [List.find?_eq_none] at e
    exact absurd (by simp) (e r hr)
  | some s =>
    have h1 := List.mem_of_find?_eq_some e
    have h2 := List.find?_some e
    rw [h.inj s h1 r hr (by simpa using h2)]
theorem fnd_is {q : List Rq} {id : Int} {r : Rq} (h : fnd q id = some r) : r ∈ q ∧ r.id = id := by
  have h1 := List.mem_of_find?_eq_some h
  have h2 := List.find?_some h
  exact ⟨h1, by simpa using h2⟩
theorem mdQ_some {W : Int} {q : List Rq} (h : Ok W q) {r : Rq} (hr : r ∈ q) : mdQ q r.txn = r.md := by
  unfold mdQ
  cases e : q.find? fun x => x.txn == r.txn with
  | none =>
    rw [List.find?_eq_none] at e
    exact absurd (by simp) (e r hr)
  | some s =>
    have h1 := List.mem_of_find?_eq_some e
    have h2 := List.find?_some e
    rw [h.injT s h1 r hr (by simpa using h2)]
end Go.Proofs.Ytmciiobncfchlaa
end

/- Plain facts of queues of requests: calls followed by scans: what holds between them. -/
section
namespace Go.Proofs.Ytmciiobncfchlaa
set_option linter.unusedVariables false

def scH (h : Hq) : Hq := ⟨h.t, h.r, h.W, (scanQ h.q).2⟩
/-- A call by its number. -/
def actR (h : Hq) (k id txn m : Int) : Hq × Int := if k = 0 then ((askR h id txn m).1, (askR h id txn m).2.2) else if k = 1 then ((upR h id m).1, (upR h id m).2.2) else if k = 2 then lvR h id else abRes h id
def doQ (h : Hq) (k id txn m : Int) : Hq := if (actR h k id txn m).2 = 0 then scH (actR h k id txn m).1 else h
theorem askQ_W (W : Int) (q : List Rq) (id txn m : Int) : W ≤ (askQ W q id txn m).1 ∧ (askQ W q id txn m).1 ≤ W + 1 ∧ (askQ W q id txn m).2.1.length = q.length + 1 := by
  unfold askQ
  split
  · exact ⟨by simp, by show W ≤ W + 1; omega, by simp⟩
  · exact ⟨by show W ≤ W + 1; omega, by simp, by simp⟩
theorem chg_len (f : Rq → Rq) (id : Int) (q : List Rq) : (chg f id q).length = q.length := by simp [chg]
theorem upQ_W (W : Int) (q : List Rq) (r : Rq) (m : Int) : W ≤ (upQ W q r m).1 ∧ (upQ W q r m).1 ≤ W + 1 ∧ (upQ W q r m).2.1.length = q.length := by
  unfold upQ
  split
  · exact ⟨by simp, by show W ≤ W + 1; omega, rfl⟩
  split
  · exact ⟨by simp, by show W ≤ W + 1; omega, chg_len _ _ _⟩
  · exact ⟨by show W ≤ W + 1; omega, by simp, chg_len _ _ _⟩
theorem lvQ_len (id : Int) (q : List Rq) : (lvQ id q).length ≤ q.length := List.length_filter_le _ _
theorem abQ_len (r : Rq) (q : List Rq) : (abQ r q).length ≤ q.length := by
  unfold abQ
  split
  · exact lvQ_len _ _
  · rw [chg_len]; exact Nat.le_refl _
theorem act_ok (h : Hq) (h0 : Ok h.W h.q) (hB : h.W + 1 ≤ 4611686018427387904) (k id txn m : Int) (he : (actR h k id txn m).2 = 0) :
    Ok (actR h k id txn m).1.W (actR h k id txn m).1.q ∧ (actR h k id txn m).1.t = h.t ∧ (actR h k id txn m).1.r = h.r ∧ h.W ≤ (actR h k id txn m).1.W ∧ (actR h k id txn m).1.W ≤ h.W + 1 ∧ (actR h k id txn m).1.q.length ≤ h.q.length + 1 := by
  unfold actR at he ⊢
  by_cases k0 : k = 0
  · simp only [if_pos k0] at he ⊢
    unfold askR at he ⊢
    by_cases e : askE h.q id txn m = 0
    · simp only [if_pos e]
      obtain ⟨w1, w2, w3⟩ := askQ_W h.W h.q id txn m
      exact ⟨ok_ask h0 id txn m e hB, trivial, trivial, w1, w2, by omega⟩
    · simp only [if_neg e] at he
      exact absurd he e
  simp only [if_neg k0] at he ⊢
  by_cases k1 : k = 1
  · simp only [if_pos k1] at he ⊢
    unfold upR at he ⊢
    by_cases e : m = 0 ∨ knI m = false
    · simp only [if_pos e] at he; cases he
    simp only [if_neg e] at he ⊢
    cases f : fnd h.q id with
    | none => rw [f] at he; cases he
    | some r =>
      rw [f] at he
      obtain ⟨hr, _⟩ := fnd_is f
      by_cases s : 0 < r.sn
      · simp only [if_pos s] at he; cases he
      · simp only [if_neg s]
        obtain ⟨w1, w2, w3⟩ := upQ_W h.W h.q r m
        have t := (h0.rt r hr).s0
        have hm : knI m = true := by
          cases z : knI m with
          | true => rfl
          | false => exact absurd (.inr z) e
        exact ⟨ok_up h0 r hr m (by omega) hm hB, trivial, trivial, w1, w2, by omega⟩
  simp only [if_neg k1] at he ⊢
  by_cases k2 : k = 2
  · simp only [if_pos k2] at he ⊢
    unfold lvR at he ⊢
    cases f : fnd h.q id with
    | none => rw [f] at he; cases he
    | some r =>
      have := lvQ_len id h.q
      exact ⟨ok_lv h0 id, rfl, rfl, Int.le_refl _, by show h.W ≤ h.W + 1; omega, by show (lvQ id h.q).length ≤ _; omega⟩
  simp only [if_neg k2] at he ⊢
  unfold abRes at he ⊢
  cases f : fnd h.q id with
  | none => rw [f] at he; cases he
  | some r =>
    rw [f] at he
    obtain ⟨hr, _⟩ := fnd_is f
    by_cases s : 0 < r.sn
    · simp only [if_pos s]
      have := abQ_len r h.q
      exact ⟨ok_ab h0 r hr, trivial, trivial, Int.le_refl _, by show h.W ≤ h.W + 1; omega, by show (abQ r h.q).length ≤ _; omega⟩
    · simp only [if_neg s] at he; cases he
/-- What holds of a head between two calls. -/
structure HInv (h : Hq) : Prop where
  ok : Ok h.W h.q
  done : Done h.q
theorem scan_len {W : Int} {q : List Rq} (h : Ok W q) : (scanQ q).2.length = q.length := by
  rw [((scan_steps h).1.form h).1]
  simp
theorem scH_inv (h : Hq) (h0 : Ok h.W h.q) : HInv (scH h) := ⟨scan_ok h0, (scan_steps h0).2⟩
theorem do_inv (h : Hq) (h0 : HInv h) (hB : h.W + 1 ≤ 4611686018427387904) (k id txn m : Int) :
    HInv (doQ h k id txn m) ∧ (doQ h k id txn m).t = h.t ∧ (doQ h k id txn m).r = h.r ∧ h.W ≤ (doQ h k id txn m).W ∧ (doQ h k id txn m).W ≤ h.W + 1 ∧ (doQ h k id txn m).q.length ≤ h.q.length + 1 := by
  unfold doQ
  by_cases e : (actR h k id txn m).2 = 0
  · rw [if_pos e]
    obtain ⟨a, b, c, d, f, g⟩ := act_ok h h0.ok hB k id txn m e
    refine ⟨scH_inv _ a, b, c, d, f, ?_⟩
    show (scanQ _).2.length ≤ _
    rw [scan_len a]
    exact g
  · rw [if_neg e]
    exact ⟨h0, rfl, rfl, Int.le_refl _, by omega, by omega⟩
theorem inv_nil (t r : Int) : HInv ⟨t, r, 0, []⟩ := ⟨⟨Int.le_refl _, by show (0 : Int) ≤ _; omega, by simp, .nil⟩, by intro r hr; cases hr⟩
/-- After a scan who waits has blockers, and nobody else. -/
theorem inv_blk {h : Hq} (h0 : HInv h) {r : Rq} (hr : r ∈ h.q) : decide (0 < (blkR h.q r.id).length) = decide (0 < r.sn) := by
  unfold blkR
  rw [fnd_some h0.ok hr]
  by_cases s : 0 < r.sn
  · simp only [if_pos s]
    have : blkL h.q r ≠ [] := fun e => by
      have := (blkL_nil h.q r s).1 e
      rw [h0.done r hr] at this
      cases this
    have := List.length_pos_iff.2 this
    simp [s, this]
  · simp [s]
theorem cmp_zero_all : ∀ i < 7, ∀ j < 7, (cmpT 0 (Int.ofNat j) && cmpT (Int.ofNat i) 0) = true := by decide +kernel
theorem cp_zero (a : Int) (ha : knI a = true) : cpI 0 a = true := by
  have := two_kn (p := fun a b => cmpT 0 b && cmpT a 0) cmp_zero_all a a ha ha
  rw [cp_kn 0 a rfl ha]
  simp at this
  exact this.1
theorem inv_cp {W : Int} {q : List Rq} (h : Ok W q) (n k : Nat) (hn : n < k) (hk : k < q.length) : cpI q[n].md q[k].md = true := by
  have hp := List.pairwise_iff_getElem.1 h.pr n k (by omega) hk hn
  have hr := h.rt q[k] (List.getElem_mem hk)
  have hl := h.rt q[n] (List.getElem_mem (by omega))
  by_cases z : q[n].md = 0
  · rw [z]; exact cp_zero _ hr.md
  · by_cases y : q[k].md = 0
    · rw [y, cp_symm]; exact cp_zero _ hl.md
    · exact hp.cp z y
theorem cov_sup3_all : ∀ i < 7, ∀ j < 7, ∀ k < 7, (cvI (supT (Int.ofNat i) (Int.ofNat j)) (Int.ofNat j) && (!cvI (Int.ofNat i) (Int.ofNat k) || cvI (supT (Int.ofNat i) (Int.ofNat j)) (Int.ofNat k))) = true := by decide +kernel
theorem cov_sup3 (a b c : Int) (ha : knI a = true) (hb : knI b = true) (hc : knI c = true) : cvI (supT a b) b = true ∧ (cvI a c = true → cvI (supT a b) c = true) := by
  rw [knI_iff] at ha hb hc
  obtain ⟨i, rfl⟩ := Int.eq_ofNat_of_zero_le ha.1
  obtain ⟨j, rfl⟩ := Int.eq_ofNat_of_zero_le hb.1
  obtain ⟨k, rfl⟩ := Int.eq_ofNat_of_zero_le hc.1
  have := cov_sup3_all i (by omega) j (by omega) k (by omega)
  rw [Bool.and_eq_true, Bool.or_eq_true, Bool.not_eq_true'] at this
  refine ⟨this.1, fun h => this.2.resolve_left fun e => ?_⟩
  rw [show (Int.ofNat i : Int) = (i : Int) from rfl, show (Int.ofNat k : Int) = (k : Int) from rfl, h] at e
  cases e
theorem fold_cov (c : Int) (hc : knI c = true) : ∀ (l : List Int) (a : Int), knI a = true → (∀ z ∈ l, knI z = true) → knI (l.foldl supT a) = true ∧ (cvI a c = true ∨ c ∈ l → cvI (l.foldl supT a) c = true)
  | [], a, ha, _ => ⟨ha, fun h => h.resolve_right (by simp)⟩
  | b :: l, a, ha, h => by
    have hb := h b (by simp)
    obtain ⟨k1, k2⟩ := fold_cov c hc l (supT a b) (sup_kn a b ha hb) (fun z hz => h z (List.mem_cons_of_mem _ hz))
    refine ⟨k1, fun q => k2 ?_⟩
    rcases q with q | q
    · exact .inl ((cov_sup3 a b c ha hb hc).2 q)
    · rcases List.mem_cons.1 q with rfl | q
      · exact .inl (cov_sup3 a c c ha hb hc).1
      · exact .inr q
theorem grp_all {W : Int} {q : List Rq} (h : Ok W q) : ∀ z ∈ q.map (fun x => x.md), knI z = true := by
  intro z hz
  obtain ⟨x, hx, rfl⟩ := List.mem_map.1 hz
  exact (h.rt x hx).md
theorem grp_cov {W : Int} {q : List Rq} (h : Ok W q) {r : Rq} (hr : r ∈ q) : cvI (grpQ q) r.md = true := by
  unfold grpQ
  exact (fold_cov r.md (h.rt r hr).md _ 0 rfl (grp_all h)).2 (.inr (List.mem_map.2 ⟨r, hr, rfl⟩))
theorem grp_kn {W : Int} {q : List Rq} (h : Ok W q) : knI (grpQ q) = true := by
  unfold grpQ
  exact (fold_cov 0 rfl _ 0 rfl (grp_all h)).1
/-- A leave, and a scan: what became of each one that is left. -/
theorem turn_at {W : Int} {q : List Rq} (h : Ok W q) (k : Nat) (hk : k < q.length) : fnd (scanQ q).2 q[k].id = some (if (scanQ q).1.contains q[k].id = true then grtR q[k] else q[k]) := by
  have e := ((scan_steps h).1.form h).1
  have ok := scan_ok h
  have hm : (if (scanQ q).1.contains q[k].id = true then grtR q[k] else q[k]) ∈ (scanQ q).2 := by
    have hx : (if (scanQ q).1.contains q[k].id = true then grtR q[k] else q[k]) ∈ q.map (fun r => if (scanQ q).1.contains r.id = true then grtR r else r) := List.mem_map.2 ⟨q[k], List.getElem_mem hk, rfl⟩
    rwa [← e] at hx
  have := fnd_some ok hm
  rw [← this]
  congr 1
  split <;> rfl
end Go.Proofs.Ytmciiobncfchlaa
end

/- Plain facts of queues of requests: which one can be granted next. -/
section
namespace Go.Proofs.Ytmciiobncfchlaa
set_option linter.unusedVariables false

def isUp (a : Rq) : Prop := a.md ≠ 0 ∧ 0 < a.sn
theorem can_of {W : Int} {q : List Rq} {r : Rq} (h : Ok W q) (hr : r ∈ q) (hs : 0 < r.sn) (hb : ∀ o ∈ q, o.id ≠ r.id → blk r o = false) : canG q r = true := by
  unfold canG
  rw [Bool.and_eq_true]
  refine ⟨by simpa using hs, List.all_eq_true.2 fun o ho => ?_⟩
  by_cases e : o.id = r.id
  · simp [e]
  · simp [hb o ho e]
theorem not_can {q : List Rq} {r o : Rq} (ho : o ∈ q) (ne : o.id ≠ r.id) (hb : blk r o = true) : canG q r = false := by
  cases e : canG q r with
  | false => rfl
  | true =>
    have := no_blk e ho ne
    rw [hb] at this; cases this
theorem blk_holds {r o : Rq} (hm : o.md ≠ 0) (hc : cpI o.md r.wt = false) : blk r o = true := by simp [blk, hm, hc]
theorem blk_ups {r o : Rq} (hm : o.md ≠ 0) (hs : 0 < o.sn) (h : r.md = 0 ∨ o.sn < r.sn) : blk r o = true := by
  rcases h with h | h <;> simp [blk, hm, hs, h]
theorem blk_ahead {r o : Rq} (h1 : r.md = 0) (h2 : o.md = 0) (h3 : o.sn < r.sn) : blk r o = true := by simp [blk, h1, h2, h3]
/-- The one that upgrades with the least Since can be granted if its mode fits. -/
theorem cand_up {W : Int} {q : List Rq} (h : Ok W q) {r : Rq} (hr : r ∈ q) (hu : isUp r) (hmin : ∀ a ∈ q, isUp a → r.sn ≤ a.sn) (hf : ∀ o ∈ q, o.id ≠ r.id → o.md ≠ 0 → cpI o.md r.wt = true) : canG q r = true :=
  can_of h hr hu.2 fun o ho ne => by
    have hz := hu.1
    cases e : blk r o with
    | false => rfl
    | true =>
      exfalso
      unfold blk at e
      simp only [Bool.or_eq_true, Bool.and_eq_true, bne_iff_ne, beq_iff_eq, Bool.not_eq_true', decide_eq_true_eq] at e
      rcases e with (⟨e1, e2⟩ | ⟨⟨e1, e2⟩, e3⟩) | ⟨⟨e1, _⟩, _⟩
      · rw [hf o ho ne e1] at e2; cases e2
      · rcases e3 with e3 | e3
        · exact hz e3
        · have := hmin o ho ⟨e1, e2⟩; omega
      · exact hz e1
/-- The first one that waits can be granted if none upgrades and its mode fits. -/
theorem cand_wa {W : Int} {q : List Rq} (h : Ok W q) {k : Nat} (hk : k < q.length) (hz : q[k].md = 0) (hfirst : ∀ a ∈ q.take k, a.md ≠ 0) (hno : ∀ a ∈ q, ¬ isUp a) (hf : ∀ o ∈ q, o.id ≠ q[k].id → o.md ≠ 0 → cpI o.md q[k].wt = true) : canG q q[k] = true :=
  can_of h (List.getElem_mem hk) ((h.rt _ (List.getElem_mem hk)).w' hz) fun o ho ne => by
    cases e : blk q[k] o with
    | false => rfl
    | true =>
      exfalso
      unfold blk at e
      simp only [Bool.or_eq_true, Bool.and_eq_true, bne_iff_ne, beq_iff_eq, Bool.not_eq_true', decide_eq_true_eq] at e
      rcases e with (⟨e1, e2⟩ | ⟨⟨e1, e2⟩, _⟩) | ⟨⟨_, e1⟩, e2⟩
      · rw [hf o ho ne e1] at e2; cases e2
      · exact hno o ho ⟨e1, e2⟩
      · obtain ⟨j, hj, rfl⟩ := List.getElem_of_mem ho
        rcases Nat.lt_trichotomy j k with g | g | g
        · exact hfirst _ (List.mem_take_iff_getElem.2 ⟨j, by omega, rfl⟩) e1
        · subst g; exact ne rfl
        · have := ((List.pairwise_iff_getElem.1 h.pr k j hk hj g).ord hz).2; omega
/-- Where the candidate's mode does not fit nothing can be granted. -/
theorem done_up {W : Int} {q : List Rq} (h : Ok W q) {r : Rq} (hr : r ∈ q) (hu : isUp r) (hmin : ∀ a ∈ q, isUp a → r.sn ≤ a.sn) (hf : ∃ o ∈ q, o.id ≠ r.id ∧ o.md ≠ 0 ∧ cpI o.md r.wt = false) : Done q := by
  intro s hs
  by_cases e : s.id = r.id
  · obtain rfl := h.inj s hs r hr e
    obtain ⟨o, ho, ne, h1, h2⟩ := hf
    exact not_can ho ne (blk_holds h1 h2)
  · cases c : canG q s with
    | false => rfl
    | true =>
      have hsn := can_sn c
      rw [not_can hr (fun x => e x.symm) (blk_ups hu.1 hu.2 ?_)] at c
      · cases c
      · by_cases z : s.md = 0
        · exact .inl z
        · refine .inr ?_
          have h1 := hmin s hs ⟨z, hsn⟩
          have h2 : r.sn ≠ s.sn := fun x => e (by rw [h.injS r hr s hs hu.2 x])
          omega
theorem done_wa {W : Int} {q : List Rq} (h : Ok W q) {k : Nat} (hk : k < q.length) (hz : q[k].md = 0) (hfirst : ∀ a ∈ q.take k, a.md ≠ 0) (hno : ∀ a ∈ q, ¬ isUp a) (hf : ∃ o ∈ q, o.id ≠ q[k].id ∧ o.md ≠ 0 ∧ cpI o.md q[k].wt = false) : Done q := by
  intro s hs
  by_cases e : s.id = q[k].id
  · obtain rfl := h.inj s hs _ (List.getElem_mem hk) e
    obtain ⟨o, ho, ne, h1, h2⟩ := hf
    exact not_can ho ne (blk_holds h1 h2)
  · cases c : canG q s with
    | false => rfl
    | true =>
      have hsn := can_sn c
      have hsz : s.md = 0 := by
        refine Classical.byContradiction fun z => hno s hs ⟨z, hsn⟩
      obtain ⟨j, hj, rfl⟩ := List.getElem_of_mem hs
      rcases Nat.lt_trichotomy j k with g | g | g
      · exact absurd hsz (hfirst _ (List.mem_take_iff_getElem.2 ⟨j, by omega, rfl⟩))
      · subst g; exact absurd rfl e
      · have := ((List.pairwise_iff_getElem.1 h.pr k j hk hj g).ord hz).2
        rw [not_can (List.getElem_mem hk) (fun x => e x.symm) (blk_ahead hsz hz this)] at c
        cases c
theorem done_none {q : List Rq} (hno : ∀ a ∈ q, ¬ isUp a) (hw : ∀ a ∈ q, a.md ≠ 0) : Done q := by
  intro s hs
  cases c : canG q s with
  | false => rfl
  | true => exact absurd ⟨hw s hs, can_sn c⟩ (hno s hs)
end Go.Proofs.Ytmciiobncfchlaa
end

/- What changes: blocks of a set alone, and new ones. -/
section
namespace Go.Proofs.Ytmciiobncfchlaa
open Go.RowKit

structure Tch (S : Nat → Prop) (w w' : World) : Prop where
  os : w'.os = w.os
  tape : w'.tape = w.tape
  output : w'.output = w.output
  size : w.heap.size ≤ w'.heap.size
  block : ∀ k, k < w.heap.size → ¬ S k → w'.heap[k]? = w.heap[k]?
theorem Tch.refl (S : Nat → Prop) (w : World) : Tch S w w := ⟨rfl, rfl, rfl, Nat.le_refl _, fun _ _ _ => rfl⟩
theorem Tch.trans' {S S' : Nat → Prop} {a b c : World} (h : Tch S a b) (k : Tch S' b c) (hS : ∀ i, i < a.heap.size → S' i → S i) : Tch S a c :=
  ⟨k.os.trans h.os, k.tape.trans h.tape, k.output.trans h.output, Nat.le_trans h.size k.size, fun i hi hn => (k.block i (Nat.lt_of_lt_of_le hi h.size) (fun e => hn (hS i hi e))).trans (h.block i hi hn)⟩
theorem Tch.trans {S : Nat → Prop} {a b c : World} (h : Tch S a b) (k : Tch S b c) : Tch S a c := h.trans' k fun _ _ e => e
theorem Tch.mono {S S' : Nat → Prop} {a b : World} (h : Tch S a b) (hS : ∀ i, i < a.heap.size → S i → S' i) : Tch S' a b :=
  ⟨h.os, h.tape, h.output, h.size, fun i hi hn => h.block i hi (fun e => hn (hS i hi e))⟩
theorem Tch.nw {S : Nat → Prop} {a b : World} (h : Nw a b) : Tch S a b := ⟨h.os, h.tape, h.output, h.size, fun k hk _ => h.block k hk⟩
theorem Tch.toNw {a b : World} (h : Tch (fun _ => False) a b) : Nw a b := ⟨h.os, h.tape, h.output, h.size, fun k hk => h.block k hk (fun e => e)⟩
theorem Tch.alloc {S : Nat → Prop} {a b : World} (h : Tch S a b) (o : Obj) : Tch S a (b.alloc o) := h.trans (.nw ((Nw.refl b).alloc o))
theorem Tch.set {S : Nat → Prop} {a b : World} (h : Tch S a b) {p : Addr} (hp : S p.block ∨ a.heap.size ≤ p.block) (v : Value) : Tch S a (b.setCell p v) :=
  h.trans' (S' := fun k => k = p.block) ⟨rfl, rfl, rfl, by simp [World.setCell], fun k _ hk => Below.heap_setCell _ _ _ _ hk⟩ (fun i hi e => by subst e; exact hp.resolve_right (by omega))
theorem Tch.drewN {S : Nat → Prop} {a b : World} (h : Tch S a b) (n : Nat) : Tch S a (b.drewN n) := ⟨h.os, h.tape, h.output, h.size, h.block⟩
theorem Tch.drew {S : Nat → Prop} {a b : World} (h : Tch S a b) : Tch S a b.drew := ⟨h.os, h.tape, h.output, h.size, h.block⟩
theorem Tch.grown {S : Nat → Prop} {a b c : World} {row : Option Nat} (h : Tch S a b) (hg : b.grownBy c row) (hr : ∀ k, row = some k → S k ∨ a.heap.size ≤ k) : Tch S a c :=
  h.trans' (S' := fun k => row = some k) ⟨hg.os, hg.tape, hg.output, hg.size, fun k hk hn => hg.block k hk (fun e => hn e.symm)⟩ (fun i hi e => (hr i e).resolve_right (by omega))
theorem Tch.cell {S : Nat → Prop} {a b : World} (h : Tch S a b) {k o : Nat} (hk : k < a.heap.size) (hn : ¬ S k) : b.cell? ⟨k, o, none⟩ = a.cell? ⟨k, o, none⟩ := World.cell?_of_block (h.block k hk hn)
theorem Tch.froz {S : Nat → Prop} {a b : World} (h : Tch S a b) {k o : Nat} (hk : k < a.heap.size) (hn : ¬ S k) : b.frozen? ⟨k, o, none⟩ = a.frozen? ⟨k, o, none⟩ := World.frozen?_of_block (h.block k hk hn)
theorem Nw.froz {a b : World} (h : Nw a b) {k o : Nat} (hk : k < a.heap.size) : b.frozen? ⟨k, o, none⟩ = a.frozen? ⟨k, o, none⟩ := (Tch.nw (S := fun _ => False) h).froz hk (fun e => e)
theorem nw_tch {w a b : World} {F : Nat → Prop} (h : Nw w a) (k : Tch F a b) (hF : ∀ i, F i → w.heap.size ≤ i) : Nw w b :=
  Tch.toNw ((Tch.nw (S := fun _ => False) h).trans' k fun i hi e => by have := hF i e; omega)
theorem setCell_at (w : World) (p : Addr) (v : Value) : Tch (fun k => k = p.block) w (w.setCell p v) := Tch.set (S := fun k => k = p.block) (Tch.refl _ w) (.inl rfl) v
end Go.Proofs.Ytmciiobncfchlaa
end

/- Rows of structs in memory, of whatever program and type: read, of the call's own, made, appended to, changed. Of no program. -/
section
namespace Go.Proofs.Ytmciiobncfchlaa
open Go.RowKit
set_option linter.unusedVariables false      -- a law need not use every name

theorem Nw.kp {a b : World} (g : Nw a b) {k o : Nat} {v : Value} (h : a.cell? ⟨k, o, none⟩ = some v) : b.cell? ⟨k, o, none⟩ = some v :=
  (g.cell (World.block_lt_of_cell? _ _ h)).trans h
theorem Nw.dr {a b : World} (h : Nw a b) : Nw a b.drew := h.drewN 1
theorem Nw.dl {a b : World} (h : Nw a b) : Nw a.drew b := ⟨h.os, h.tape, h.output, h.size, h.block⟩
theorem Nw.at' {a b : World} (g : Nw a b) {k : Nat} {o : Obj} (h : a.heap[k]? = some o) : b.heap[k]? = some o := (g.block k (Array.getElem?_eq_some_iff.1 h).1).trans h
theorem allocAt (w : World) (o : Obj) : (w.alloc o).heap[w.heap.size]? = some o := by
  show (w.heap.push o)[w.heap.size]? = some o
  simp
theorem hcell {w : World} {B j : Nat} {c : Array Value} {T : TypeId} {fr : Nat × Nat} (hb : w.heap[B]? = some (.cells c T fr)) : w.cell? ⟨B, j, none⟩ = c[j]? := by simp [World.cell?, hb]
theorem hfz {w : World} {B j : Nat} {c : Array Value} {T : TypeId} (hb : w.heap[B]? = some (.cells c T (0, 0))) : w.frozen? ⟨B, j, none⟩ = false := by simp [World.frozen?, hb]
theorem hlt {w : World} {B : Nat} {o : Obj} (hb : w.heap[B]? = some o) : B < w.heap.size := (Array.getElem?_eq_some_iff.1 hb).1
theorem hset {w : World} {B j : Nat} {c : Array Value} {T : TypeId} {fr : Nat × Nat} (u : Value) (hb : w.heap[B]? = some (.cells c T fr)) : (w.setCell ⟨B, j, none⟩ u).heap[B]? = some (.cells (c.setIfInBounds j u) T fr) := by
  simp [World.setCell, Array.getElem?_modify, hb]
theorem sgrown (w : World) (p : Addr) (u : Value) : w.grownBy (w.setCell p u) (some p.block) :=
  ⟨rfl, rfl, rfl, by simp [World.setCell], fun k _ hk => Below.heap_setCell _ _ _ _ (fun q => hk (by rw [q]))⟩
/-- A world that grew at a block that is new. -/
theorem Nw.gro {w a b : World} {row : Option Nat} (h : Nw w a) (g : a.grownBy b row) (hB : ∀ k, row = some k → w.heap.size ≤ k) : Nw w b :=
  ⟨g.os.trans h.os, g.tape.trans h.tape, g.output.trans h.output, Nat.le_trans h.size g.size, fun j hj => (g.block j (Nat.lt_of_lt_of_le hj h.size) (fun q => by have := hB j q.symm; omega)).trans (h.block j hj)⟩
section
variable {w w' : World} {g0 e size n : Nat} {v : Value} {xs : List Value}
theorem okeep {row : Option Nat} (ho : w.ownsRow g0 e size v n xs) (hg : w.grownBy w' row) (hne : ∀ g, v.ownBlock = some g → row ≠ some g) : w'.ownsRow g0 e size v n xs := by
  cases hv : v.ownBlock with
  | none => exact ho.kept hg (.inl hv)
  | some g => exact ho.kept hg (.inr fun q => hne g hv (q ▸ hv))
theorem onw (ho : w.ownsRow g0 e size v n xs) (hg : Nw w w') : w'.ownsRow g0 e size v n xs := okeep ho (hg.grownBy none) (fun _ _ => by simp)
theorem oheap (ho : w.ownsRow g0 e size v n xs) {g : Nat} (hv : v.ownBlock = some g) : ∃ c, w.heap[g]? = some (.cells c e (0, 0)) := by
  rcases ho.2 with ⟨rfl, _⟩ | ⟨g', cap, cur, rfl, _, hh, _⟩
  · simp [Value.ownBlock] at hv
  · simp only [Value.ownBlock, Option.some.injEq] at hv
    subst hv
    exact ⟨cur, hh⟩
theorem olt (ho : w.ownsRow g0 e size v n xs) {g : Nat} (hv : v.ownBlock = some g) : g < w.heap.size := (World.ownsRow.lt ho g hv).2
theorem oge (ho : w.ownsRow g0 e size v n xs) {g : Nat} (hv : v.ownBlock = some g) : g0 ≤ g := (World.ownsRow.lt ho g hv).1
theorem oform (h : w.ownsRow g0 e size v n xs) : (v = .slice none 0 0 ∧ n = 0) ∨ ∃ g cap, v = .slice (some ⟨g, 0, none⟩) n cap := by
  rcases h.2 with q | ⟨g, cap, cur, rfl, _⟩
  · exact .inl q
  · exact .inr ⟨g, cap, rfl⟩
theorem olow (ho : w.ownsRow g0 e size v n xs) {g1 : Nat} (h : ∀ g, v.ownBlock = some g → g1 ≤ g) : w.ownsRow g1 e size v n xs := by
  refine ⟨ho.1, ?_⟩
  rcases ho.2 with q | ⟨g, cap, cur, rfl, hb, rest⟩
  · exact .inl q
  · exact .inr ⟨g, cap, cur, rfl, h g rfl, rest⟩
end

theorem Nw.st {w a : World} {p : Addr} (h : Nw w a) (hB : w.heap.size ≤ p.block) (u : Value) : Nw w (a.setCell p u) := h.gro (sgrown a p u) (fun k hk => by have := Option.some.inj hk; omega)
theorem own_st {w : World} {g0 e size n : Nat} {v : Value} {xs : List Value} {p : Addr} (h : w.ownsRow g0 e size v n xs) (hp : p.block < g0) (u : Value) : (w.setCell p u).ownsRow g0 e size v n xs :=
  okeep h (sgrown w p u) (fun g hg q => by have := oge h hg; have := Option.some.inj q; omega)

/-- What is known of an element's type: cells, bytes, its slice; and of a reader's rows. -/
structure Elem {α : Type} (P : Program) (ST T : TypeId) (sz bytes : Nat) (row : α → List Value) : Prop where
  und : P.underlying ST = some (.slice T)
  inf : ∃ i z, P.info? T = some i ∧ i.zero = some z ∧ i.size = sz ∧ i.bytes = bytes ∧ z.cells.size = sz
  pos : 0 < sz
  byt : bytes ≤ 800
  len : ∀ a, (row a).length = sz
  one : ∀ a, ∀ u ∈ row a, u.oneCell' = true
def rowsOf {α : Type} (row : α → List Value) (l : List α) : List Value := l.flatMap row
abbrev Own {α : Type} (T : TypeId) (sz : Nat) (row : α → List Value) (w : World) (g0 : Nat) (v : Value) (l : List α) : Prop := w.ownsRow g0 T sz v l.length (rowsOf row l)
/-- A slice that reads as a list: the cells of its rows. -/
structure RdC {α : Type} (sz : Nat) (row : α → List Value) (w : World) (b o : Nat) (l : List α) : Prop where
  lt : b < w.heap.size
  cell : ∀ i (h : i < l.length) c u, (row l[i])[c]? = some u → w.cell? ⟨b, o + i * sz + c, none⟩ = some u
def Rd {α : Type} (sz : Nat) (row : α → List Value) (w : World) (v : Value) (l : List α) : Prop := ∃ a c, v = .slice a l.length c ∧ (l = [] ∧ (a = none → c = 0) ∨ ∃ b o, a = some ⟨b, o, none⟩ ∧ RdC sz row w b o l)
section
variable {α : Type} {sz : Nat} {row : α → List Value} {w w' : World} {b o : Nat} {l : List α} {v : Value}
theorem RdC.nw (h : RdC sz row w b o l) (g : Nw w w') : RdC sz row w' b o l := ⟨Nat.lt_of_lt_of_le h.lt g.sz, fun i hi c u hu => (g.cell h.lt).trans (h.cell i hi c u hu)⟩
theorem Rd.nw (h : Rd sz row w v l) (g : Nw w w') : Rd sz row w' v l := by
  obtain ⟨a, c, rfl, h | ⟨b, o, rfl, h⟩⟩ := h
  · exact ⟨a, c, rfl, .inl h⟩
  · exact ⟨_, c, rfl, .inr ⟨b, o, rfl, h.nw g⟩⟩
theorem Rd.nil (w : World) : Rd sz row w (.slice none 0 0) [] := ⟨none, 0, rfl, .inl ⟨rfl, fun _ => rfl⟩⟩
theorem Rd.form (h : Rd sz row w v l) : ∃ a c, v = .slice a l.length c := by
  obtain ⟨a, c, rfl, _⟩ := h
  exact ⟨a, c, rfl⟩
theorem rows_len (hl : ∀ a, (row a).length = sz) : ∀ l : List α, (rowsOf row l).length = l.length * sz
  | [] => by simp [rowsOf]
  | s :: r => by
    show (row s ++ rowsOf row r).length = _
    rw [List.length_append, rows_len hl r, hl, List.length_cons, Nat.add_mul, Nat.one_mul, Nat.add_comm]
theorem rows_at' (hl : ∀ a, (row a).length = sz) : ∀ (l : List α) (j c : Nat) (hj : j < l.length), c < sz → (rowsOf row l)[j * sz + c]? = (row l[j])[c]?
  | s :: r, 0, c, _, hc => by
    show (row s ++ rowsOf row r)[0 * sz + c]? = _
    rw [List.getElem?_append_left (by rw [hl]; simpa using hc)]
    simp
  | s :: r, j + 1, c, hj, hc => by
    have hj' : j < r.length := by simpa using hj
    show (row s ++ rowsOf row r)[(j + 1) * sz + c]? = _
    rw [Nat.add_mul, Nat.one_mul, List.getElem?_append_right (by rw [hl]; omega), hl, show j * sz + sz + c - sz = j * sz + c by omega, rows_at' hl r j c hj' hc]
    rfl
theorem rows_app (a b : List α) : rowsOf row (a ++ b) = rowsOf row a ++ rowsOf row b := by simp [rowsOf]
/-- A block of rows can be read. -/
theorem rd_block (hl : ∀ a, (row a).length = sz) {B : Nat} {T : TypeId} {fr : Nat × Nat} (h : w.heap[B]? = some (.cells ⟨rowsOf row l⟩ T fr)) (c : Nat) : Rd sz row w (.slice (some ⟨B, 0, none⟩) l.length c) l := by
  refine ⟨_, c, rfl, .inr ⟨B, 0, rfl, hlt h, fun i hi c u hu => ?_⟩⟩
  have hc : c < sz := by have := (List.getElem?_eq_some_iff.1 hu).1; rwa [hl] at this
  rw [Nat.zero_add, hcell h, ← Array.getElem?_toList]
  show (rowsOf row l)[i * sz + c]? = _
  rw [rows_at' hl l i c hi hc]; exact hu
theorem Own.rd {T g0 : Nat} (hl : ∀ a, (row a).length = sz) (h : Own T sz row w g0 v l) : Rd sz row w v l := by
  rcases oform h with ⟨rfl, q⟩ | ⟨g, cap, rfl⟩
  · exact ⟨none, 0, by rw [q], .inl ⟨List.length_eq_zero_iff.1 q, fun _ => rfl⟩⟩
  · refine ⟨_, cap, rfl, .inr ⟨g, 0, rfl, olt h rfl, fun i hi c u hu => ?_⟩⟩
    have hc : c < sz := by have := (List.getElem?_eq_some_iff.1 hu).1; rwa [hl] at this
    rw [Nat.zero_add]
    have hb : i * sz + c < l.length * sz := by
      have : (i + 1) * sz ≤ l.length * sz := Nat.mul_le_mul_right _ hi
      rw [Nat.add_mul, Nat.one_mul] at this
      omega
    refine (World.ownsRow.cellAt h (i * sz + c) hb).trans ?_
    rw [rows_at' hl l i c hi hc]; exact hu
/-- The cells behind an address, as an append reads them. -/
theorem RdC.flat (hl : ∀ a, (row a).length = sz) (hz : 0 < sz) (h : RdC sz row w b o l) : ∀ j u, (rowsOf row l)[j]? = some u → w.cell? ((⟨b, o, none⟩ : Addr).add j) = some u := by
  intro j u hu
  have hj := (List.getElem?_eq_some_iff.1 hu).1
  rw [rows_len hl] at hj
  have hq : j / sz < l.length := Nat.div_lt_of_lt_mul (by rwa [Nat.mul_comm])
  have hm : j % sz < sz := Nat.mod_lt _ hz
  have e : j = j / sz * sz + j % sz := by rw [Nat.mul_comm]; exact (Nat.div_add_mod j sz).symm
  rw [e, rows_at' hl _ _ _ hq hm] at hu
  have := h.cell _ hq _ u hu
  rw [Addr.add_lit]
  rwa [Nat.add_assoc, ← e] at this
/-- A part of a slice. -/
theorem RdC.part (h : RdC sz row w b o l) (i m : Nat) : RdC sz row w b (o + i * sz) ((l.drop i).take m) := ⟨h.lt, fun k hk c u hu => by
    simp only [List.length_take, List.length_drop] at hk
    simp only [List.getElem_take, List.getElem_drop] at hu
    have := h.cell (i + k) (by omega) c u hu
    rw [Nat.add_mul] at this
    rwa [show o + i * sz + k * sz + c = o + (i * sz + k * sz) + c by omega]⟩
end

section
variable {α : Type} {P : Program} {ST T : TypeId} {sz bytes : Nat} {row : α → List Value}
theorem Elem.oneAll (E : Elem P ST T sz bytes row) (l : List α) : ∀ u ∈ rowsOf row l, u.oneCell' = true := by
  intro u hu
  obtain ⟨a, _, hu⟩ := List.mem_flatMap.1 hu
  exact E.one a u hu
/-- Append of a slice that reads as a list, to a row of the call's own. -/
theorem Own.many (E : Elem P ST T sz bytes row) {w : World} {g0 : Nat} {v : Value} {l : List α} (h : Own T sz row w g0 v l) (sg : List α) (a : Addr) (c : Nat) (hc : ∀ j u, (rowsOf row sg)[j]? = some u → w.cell? (a.add j) = some u) (hsm : l.length + sg.length ≤ 100000) (hg0 : g0 ≤ w.heap.size) :
    ∃ v' w1, (Builtin.append_ #[ST, ST] ST #[v, .slice (some a) sg.length c]).run P w = .ok v' w1 ∧ Own T sz row w1 g0 v' (l ++ sg) ∧ w.grownBy w1 v.ownBlock ∧ (v'.ownBlock = v.ownBlock ∨ v'.ownBlock = some w.heap.size) := by
  obtain ⟨i0, z, hi, hz0, hz1, hz2, hz3⟩ := E.inf
  have hb := E.byt
  obtain ⟨v', w1, hrun, ho, hg, hp⟩ := run_append_fresh (P := P) w g0 ST ST T i0 z sz bytes E.und hi hz0 hz1 hz2 hz3 E.pos v l.length _ h
    a sg.length c (rowsOf row sg) (rows_len E.len sg) hc (E.oneAll sg) (by unfold maxLen; omega) (Nat.le_trans (Nat.mul_le_mul hsm hb) (by omega)) hg0
  refine ⟨v', w1, hrun, ?_, hg, hp⟩
  unfold Own
  rw [List.length_append, rows_app]
  exact ho
/-- Append of one that lies in a box. -/
theorem Own.push (E : Elem P ST T sz bytes row) {w : World} {g0 : Nat} {v : Value} {l : List α} (h : Own T sz row w g0 v l) (x : α) (b : Nat) (c : Nat) (hx : ∀ j u, (row x)[j]? = some u → w.cell? ⟨b, j, none⟩ = some u) (hsm : l.length < 100000) (hg0 : g0 ≤ w.heap.size) :
    ∃ v' w1, (Builtin.append_ #[ST, ST] ST #[v, .slice (some ⟨b, 0, none⟩) 1 c]).run P w = .ok v' w1 ∧ Own T sz row w1 g0 v' (l ++ [x]) ∧ w.grownBy w1 v.ownBlock ∧ (v'.ownBlock = v.ownBlock ∨ v'.ownBlock = some w.heap.size) ∧ ∃ g cap, v' = .slice (some ⟨g, 0, none⟩) (l.length + 1) cap := by
  obtain ⟨v', w1, h1, h2, h3, h4⟩ := Own.many E h [x] ⟨b, 0, none⟩ c (fun j u hu => by
    rw [Addr.add_lit, Nat.zero_add]
    exact hx j u (by simpa [rowsOf] using hu)) (by rw [List.length_singleton]; omega) hg0
  refine ⟨v', w1, h1, h2, h3, h4, ?_⟩
  rcases oform h2 with ⟨_, q⟩ | ⟨g, cap, rfl⟩
  · simp at q
  · exact ⟨g, cap, by simp⟩
/-- An empty row in a new block. -/
theorem own_empty (w : World) : (w.alloc (.cells #[] T)).ownsRow w.heap.size T sz (.slice (some ⟨w.heap.size, 0, none⟩) 0 0) 0 [] := World.ownsRow_lit w #[] 0 (Nat.le_refl _) (Nat.zero_le _) (by simp)
theorem own_lit (E : Elem P ST T sz bytes row) (w : World) (l : List α) (hl : l.length ≤ 100000) : Own T sz row (w.alloc (.cells ⟨rowsOf row l⟩ T)) w.heap.size (.slice (some ⟨w.heap.size, 0, none⟩) l.length l.length) l := by
  have := World.ownsRow_lit (base := w.heap.size) (size := sz) (e := T) w ⟨rowsOf row l⟩ l.length (Nat.le_refl _) (by unfold maxLen; omega) (by simpa using rows_len E.len l)
  simpa [Own] using this
/-- append([]T{}, l...): the empty row's append of a slice that reads as a list. -/
theorem own_clone (E : Elem P ST T sz bytes row) {w : World} {v : Value} {l : List α} (h : Rd sz row w v l) (hsm : l.length ≤ 100000) :
    ∃ v' w1, (Builtin.append_ #[ST, ST] ST #[.slice (some ⟨w.heap.size, 0, none⟩) 0 0, v]).run P (w.alloc (.cells #[] T)) = .ok v' w1 ∧ Own T sz row w1 w.heap.size v' l ∧ Nw w w1 := by
  have he := own_empty (T := T) (sz := sz) w
  have hN : Nw w (w.alloc (.cells #[] T)) := (Nw.refl w).alloc _
  have hE : Own T sz row (w.alloc (.cells #[] T)) w.heap.size (.slice (some ⟨w.heap.size, 0, none⟩) 0 0) ([] : List α) := he
  obtain ⟨a, c, rfl, ⟨rfl, h0⟩ | ⟨b, o, rfl, hc⟩⟩ := h
  · cases a with
    | none =>
      obtain rfl := h0 rfl
      obtain ⟨i0, z, hi, hz0, hz1, hz2, hz3⟩ := E.inf
      exact ⟨_, _, run_append_owned_none (P := P) (w.alloc (.cells #[] T)) w.heap.size ST ST T i0 sz E.und hi _ 0 [] he, hE, hN⟩
    | some ad =>
      obtain ⟨v', w1, h1, h2, h3, _⟩ := Own.many E hE [] ad c (fun j u hu => by simp [rowsOf] at hu) (by simp) hN.sz
      exact ⟨v', w1, h1, h2, hN.gro h3 (fun k hk => Nat.le_of_eq (Option.some.inj hk))⟩
  · obtain ⟨v', w1, h1, h2, h3, _⟩ := Own.many E hE l ⟨b, o, none⟩ c ((hc.nw hN).flat E.len E.pos) (by simpa using hsm) hN.sz
    exact ⟨v', w1, h1, by simpa using h2, hN.gro h3 (fun k hk => Nat.le_of_eq (Option.some.inj hk))⟩
end
/-- An append by the equation of its run: in a list of operations, and in a plan. -/
theorem wpl_app {P : Program} {w : World} {ops : Array Oper} {rest : List Oper} {o : Oper} {a : Act} {Q : Exit → Act → World → Prop}
    (hgd : Region.wanted o (yielded ops a.tmps) = true) (s x : Operand) (t : TypeId) (hop : o.op = Op.call { callee := Callee.builtin Builtin.append, args := #[s, x], argTypes := #[t, t] })
    (v u v' : Value) (w' : World) (hs : a.eval s = v) (hx : a.eval x = u) (hr : (Builtin.append_ #[t, t] o.type #[v, u]).run P w = .ok v' w') (h : wpList P ops Q rest (a.put o.dst v') w') : wpList P ops Q (o :: rest) a w := by
  refine wpList_step fun _ hK => ?_
  rw [if_pos hgd]
  unfold Oper.wp execOp
  simp only [hop, resolve, invoke, builtin, Sem.run_bind, Sem.run_pure, Result.andThen_ok, List.map_toArray, List.map_cons, List.map_nil, hs, hx, hr]
  exact hK _ _ h
theorem stp_app {P : Program} {ops : Array Oper} {o : Oper} {a : Act} {w : World} {K : Act → World → Prop} {Q : Exit → Act → World → Prop} {E : Prop} (hgd : Region.wanted o (yielded ops a.tmps) = true) (s x : Operand) (t : TypeId)
    (ho : o.op = .call { callee := .builtin .append, args := #[s, x], argTypes := #[t, t] }) (v u v' : Value) (w' : World) (hs : a.eval s = v) (hx : a.eval x = u) (hr : (Builtin.append_ #[t, t] o.type #[v, u]).run P w = .ok v' w')
    (h : K (a.put o.dst v') w') : if Region.wanted o (yielded ops a.tmps) = true then Oper.wp P o a w K Q else E := by
  rw [if_pos hgd]
  unfold Oper.wp execOp
  simp only [ho, resolve, invoke, builtin, Sem.run_bind, Sem.run_pure, Result.andThen_ok, List.map_toArray, List.map_cons, List.map_nil, hs, hx, hr]
  exact h
end Go.Proofs.Ytmciiobncfchlaa
end
