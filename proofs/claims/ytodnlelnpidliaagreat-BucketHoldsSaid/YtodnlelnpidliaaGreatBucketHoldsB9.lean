/- Texts merged: R1B, QuA, BdH, BdI, Rr, QuT, Lex, Ord, OrdP -/
import Derived.Test.YtodnlelnpidliaaGreatBucketHoldsB8
import Derived.RegionIn
import Derived.OrdersHeld
import Derived.Deep.RegionHeld3

/- The document's own answers on modes: Compatible, Covers, Sup, Group at whatever modes. -/
section
namespace Go.Proofs.YtodnlelnpidliaaGreat
open Go.RowKit
set_option linter.unusedVariables false      -- a contract need not use every name

theorem r1comp (a b : Int) (w : World) : Calls Tryz.prog 64 #[.int .i64 a, .int .i64 b] w fun e w' => e = .returned (.bool (cpI a b)) ∧ Nw w w' := by
  cases ha : knI a with
  | true =>
    cases hb : knI b with
    | true => exact r1comp_in a b ha hb w
    | false =>
      have hc : cpI a b = false := by simp [cpI, hb]
      rw [hc]
      have HA := Lib.hid (r1knT a ha)
      have HB := Lib.hid (r1knF b hb)
      clear ha hb hc
      go_enter Tryz.func64, Tryz.ntmps64
      go_wp2_with fail
      refine (HA.out _).mono ?_
      rintro e w' ⟨rfl, rfl⟩
      go_wp2_with fail
      refine (HB.out _).mono ?_
      rintro e w' ⟨rfl, rfl⟩
      go_wp2
      go_ret
      exact ⟨rfl, Nw.refl _⟩
  | false =>
    have hc : cpI a b = false := by simp [cpI, ha]
    rw [hc]
    have HA := Lib.hid (r1knF a ha)
    clear ha hc
    go_enter Tryz.func64, Tryz.ntmps64
    go_wp2_with fail
    refine (HA.out _).mono ?_
    rintro e w' ⟨rfl, rfl⟩
    go_wp2
    go_ret
    exact ⟨rfl, Nw.refl _⟩
set_option maxHeartbeats 4000000 in
theorem r1cov_in (a b : Int) (ha : knI a = true) (hb : knI b = true) (w : World) : Calls Tryz.prog 91 #[.int .i64 a, .int .i64 b] w fun e w' => e = .returned (.bool (cvI a b)) ∧ Nw w w' := by
  have hr := r1under a ha
  rcases kn_cases ha with rfl | rfl | rfl | rfl | rfl | rfl | rfl <;> rcases kn_cases hb with rfl | rfl | rfl | rfl | rfl | rfl | rfl
  all_goals
    go_enter Tryz.func91, Tryz.ntmps91
    go_wp2_with (first | (go_at_call 29; refine (r1knT _ rfl _).mono ?_; rintro e w' ⟨rfl, rfl⟩) | (go_at_call 116; refine (hr _).mono ?_; rintro e w' ⟨rfl, hg⟩))
    go_ret
    exact ⟨rfl, hg⟩
theorem r1cov (a b : Int) (w : World) : Calls Tryz.prog 91 #[.int .i64 a, .int .i64 b] w fun e w' => e = .returned (.bool (cvI a b)) ∧ Nw w w' := by
  cases ha : knI a with
  | true =>
    cases hb : knI b with
    | true => exact r1cov_in a b ha hb w
    | false =>
      have hc : cvI a b = false := by simp [cvI, hb]
      rw [hc]
      have HA := Lib.hid (r1knT a ha)
      have HB := Lib.hid (r1knF b hb)
      clear ha hb hc
      go_enter Tryz.func91, Tryz.ntmps91
      go_wp2_with fail
      refine (HA.out _).mono ?_
      rintro e w' ⟨rfl, rfl⟩
      go_wp2_with fail
      refine (HB.out _).mono ?_
      rintro e w' ⟨rfl, rfl⟩
      go_wp2
      go_ret
      exact ⟨rfl, Nw.refl _⟩
  | false =>
    have hc : cvI a b = false := by simp [cvI, ha]
    rw [hc]
    have HA := Lib.hid (r1knF a ha)
    clear ha hc
    go_enter Tryz.func91, Tryz.ntmps91
    go_wp2_with fail
    refine (HA.out _).mono ?_
    rintro e w' ⟨rfl, rfl⟩
    go_wp2
    go_ret
    exact ⟨rfl, Nw.refl _⟩
end Go.Proofs.YtodnlelnpidliaaGreat
end

/- Requests and heads in memory; of the document's own: Holds, Waits, right. -/
section
namespace Go.Proofs.YtodnlelnpidliaaGreat
open Go.RowKit
set_option linter.unusedVariables false      -- a contract need not use every name

def rqrow (r : Rq) : List Value := [.int .i64 r.id, .int .i64 r.txn, .int .i64 r.md, .int .i64 r.wt, .int .i64 r.sn]
def rqV (r : Rq) : Value := .agg #[.int .i64 r.id, .int .i64 r.txn, .int .i64 r.md, .int .i64 r.wt, .int .i64 r.sn]
def hdV (t r : Int) (v : Value) (W : Int) : Value := .agg #[.int .i64 t, .int .i64 r, v, .int .i64 W]
theorem elemRq : Elem Tryz.prog 54 47 5 40 rqrow where
  und := Tryz.underlying54
  inf := by
    have h : (Tryz.prog.info? 47).map (fun i => (i.zero, i.size, i.bytes)) = some (some (.agg #[.int .i64 0, .int .i64 0, .int .i64 0, .int .i64 0, .int .i64 0]), 5, 40) := by kernel_rfl
    cases e : Tryz.prog.info? 47 with
    | none => rw [e] at h; cases h
    | some i =>
      rw [e] at h
      simp only [Option.map_some, Option.some.injEq, Prod.mk.injEq] at h
      exact ⟨i, _, rfl, h.1, h.2.1, h.2.2, rfl⟩
  pos := by decide
  byt := by decide
  len := fun _ => rfl
  one := fun a u hu => by
    simp only [rqrow, List.mem_cons, List.not_mem_nil, or_false] at hu
    rcases hu with rfl | rfl | rfl | rfl | rfl <;> rfl
abbrev RqC := RdC 5 rqrow
abbrev RqAt := Rd 5 rqrow
abbrev RqOwn (w : World) (g0 : Nat) (v : Value) (q : List Rq) : Prop := Own 47 5 rqrow w g0 v q
theorem RqOwn.rd {w : World} {g0 : Nat} {v : Value} {q : List Rq} (h : RqOwn w g0 v q) : RqAt w v q := Own.rd (fun _ => rfl) h
/-- A head in a box. -/
structure HBox (w : World) (p : Nat) (t r : Int) (v : Value) (W : Int) : Prop where
  lt : p < w.heap.size
  c0 : w.cell? ⟨p, 0, none⟩ = some (.int .i64 t)
  c1 : w.cell? ⟨p, 1, none⟩ = some (.int .i64 r)
  c2 : w.cell? ⟨p, 2, none⟩ = some v
  c3 : w.cell? ⟨p, 3, none⟩ = some (.int .i64 W)
theorem HBox.nw {w w' : World} {p : Nat} {t r : Int} {v : Value} {W : Int} (h : HBox w p t r v W) (g : Nw w w') : HBox w' p t r v W :=
  ⟨Nat.lt_of_lt_of_le h.lt g.sz, (g.cell h.lt).trans h.c0, (g.cell h.lt).trans h.c1, (g.cell h.lt).trans h.c2, (g.cell h.lt).trans h.c3⟩
theorem HBox.made (w : World) (t r : Int) (v : Value) (W : Int) (T : TypeId) : HBox (w.alloc (.cells #[.int .i64 t, .int .i64 r, v, .int .i64 W] T)) w.heap.size t r v W := by
  have h := allocAt w (.cells #[.int .i64 t, .int .i64 r, v, .int .i64 W] T)
  exact ⟨hlt h, hcell h, hcell h, hcell h, hcell h⟩

theorem r9holds (a b m wn s : Int) (w : World) : Calls Tryz.prog 63 #[.agg #[.int .i64 a, .int .i64 b, .int .i64 m, .int .i64 wn, .int .i64 s]] w fun e w' => e = .returned (.bool (m != 0)) ∧ Nw w w' := by
  go_enter Tryz.func63, Tryz.ntmps63
  go_wp2
  go_ret
  exact ⟨rfl, (Nw.refl _).alloc _⟩
theorem r9waits (a b m wn s : Int) (w : World) : Calls Tryz.prog 62 #[.agg #[.int .i64 a, .int .i64 b, .int .i64 m, .int .i64 wn, .int .i64 s]] w fun e w' => e = .returned (.bool (decide (0 < s))) ∧ Nw w w' := by
  go_enter Tryz.func62, Tryz.ntmps62
  go_wp2
  go_ret
  exact ⟨rfl, (Nw.refl _).alloc _⟩
end Go.Proofs.YtodnlelnpidliaaGreat
end

/- The developers' bucket in memory; SortedFunc over its map's names; each. -/
section
namespace Go.Proofs.YtodnlelnpidliaaGreat
open Go.RowKit Go.Sort Go.Shelf
set_option linter.unusedVariables false      -- a contract need not use every name
attribute [local go_sem] Oper.semAt_some

def hpV (x : Hp) : Value := .slice x.a x.h.q.length x.c
/-- A head of the bucket: its block, its requests; none of it is the pool's. -/
structure HpOk (w : World) (F : Nat → Prop) (x : Hp) : Prop where
  c0 : w.cell? ⟨x.p, 0, none⟩ = some (.int .i64 x.h.t)
  c1 : w.cell? ⟨x.p, 1, none⟩ = some (.int .i64 x.h.r)
  c2 : w.cell? ⟨x.p, 2, none⟩ = some (.slice x.a x.h.q.length x.c)
  c3 : w.cell? ⟨x.p, 3, none⟩ = some (.int .i64 x.h.W)
  rd : RqAt w (hpV x) x.h.q
  cap : x.h.q.length ≤ x.c
  len : x.h.q.length ≤ 1000
  nf : ¬ F x.p
  qf : ∀ b, x.a = some b → x.h.q ≠ [] → ¬ F b.block
/-- The developers' bucket at o, its map at mb, its pool at po. -/
structure Db (w : World) (o mb po n : Nat) (l : List Hp) (L : List Bool) (F : Nat → Prop) : Prop where
  c0 : w.cell? ⟨o, 0, none⟩ = some (.pointer (some ⟨o, 0, none⟩))
  c1 : w.cell? ⟨o, 1, none⟩ = some (.int .i64 n)
  c2 : w.cell? ⟨o, 2, none⟩ = some (.pointer (some ⟨po, 0, none⟩))
  c3 : w.cell? ⟨o, 3, none⟩ = some (.map (some mb))
  ol : o < w.heap.size
  nf : ¬ F o
  mf : ¬ F mb
  map : MapH w mb l
  srt : SrtP l
  ok : ∀ x ∈ l, HpOk w F x
  pol : Pol w po L F
  len : l.length ≤ 64
theorem HpOk.lt {w : World} {F : Nat → Prop} {x : Hp} (h : HpOk w F x) : x.p < w.heap.size := World.block_lt_of_cell? _ _ h.c0
theorem MapH.cellne {w : World} {mb : Nat} {l : List Hp} (h : MapH w mb l) {b j : Nat} {v : Value} (hc : w.cell? ⟨b, j, none⟩ = some v) : b ≠ mb := by
  obtain ⟨⟨es, ⟨a, c, h1, _⟩, _⟩, _⟩ := h
  rintro rfl
  unfold World.cell? at hc
  simp only [h1] at hc
  cases hc
theorem Db.omb {w : World} {o mb po n : Nat} {l : List Hp} {L : List Bool} {F : Nat → Prop} (h : Db w o mb po n l L F) : o ≠ mb := h.map.cellne h.c0
/-- A head's requests lie in cells: they are no map. -/
theorem HpOk.qne {w : World} {F : Nat → Prop} {x : Hp} (h : HpOk w F x) {mb : Nat} {l : List Hp} (m : MapH w mb l) : ∀ b, x.a = some b → x.h.q ≠ [] → b.block ≠ mb := fun b e hq => by
  obtain ⟨a, c, e1, ⟨q, _⟩ | ⟨b', o', e2, hc⟩⟩ := h.rd
  · exact absurd q hq
  · unfold hpV at e1
    rw [e, e2] at e1
    injection e1 with e1 _ _
    injection e1 with e1
    subst e1
    obtain ⟨y, t, hy⟩ := List.exists_cons_of_ne_nil hq
    have h0 : 0 < x.h.q.length := by rw [hy]; simp
    have := hc.cell 0 h0 0 _ rfl
    exact m.cellne this
theorem HpOk.step {w w' : World} {F F' : Nat → Prop} {x : Hp} {S : Nat → Prop} (h : HpOk w F x) (t : Tch S w w') (hp : ¬ S x.p) (hq : ∀ b, x.a = some b → x.h.q ≠ [] → ¬ S b.block) (hF : ∀ k, F' k → F k ∨ w.heap.size ≤ k) : HpOk w' F' x := by
  have hpl := h.lt
  refine ⟨(t.cell hpl hp).trans h.c0, (t.cell hpl hp).trans h.c1, (t.cell hpl hp).trans h.c2, (t.cell hpl hp).trans h.c3, ?_, h.cap, h.len, fun e => (hF _ e).elim h.nf (fun q => by omega), fun b e hne q => ?_⟩
  · obtain ⟨a, c, e, q | ⟨b, o', e2, hc⟩⟩ := h.rd
    · exact ⟨a, c, e, .inl q⟩
    · subst e2
      by_cases hqn : x.h.q = []
      · exact ⟨_, c, e, .inl ⟨hqn, fun q => by cases q⟩⟩
      have hb : ¬ S b := hq _ (by unfold hpV at e; injection e) hqn
      exact ⟨_, c, e, .inr ⟨b, o', rfl, Nat.lt_of_lt_of_le hc.lt t.size, fun i hi c u hu => (t.cell hc.lt hb).trans (hc.cell i hi c u hu)⟩⟩
  · rcases hF _ q with q | q
    · exact h.qf b e hne q
    · obtain ⟨a, c, e1, ⟨q1, _⟩ | ⟨b', o', e2, hc⟩⟩ := h.rd
      · exact hne q1
      · unfold hpV at e1
        rw [e, e2] at e1
        injection e1 with e1 _ _
        injection e1 with e1
        subst e1
        have := hc.lt
        have e3 : (⟨b', o', none⟩ : Addr).block = b' := rfl
        omega
/-- Blocks that are none of the bucket's and none of its pool's may change. -/
theorem Db.tch {w w' : World} {o mb po n : Nat} {l : List Hp} {L : List Bool} {F : Nat → Prop} {S : Nat → Prop} (h : Db w o mb po n l L F) (t : Tch S w w') (ho : ¬ S o) (hm : ¬ S mb) (hF : ∀ k, F k → ¬ S k) (hx : ∀ x ∈ l, ¬ S x.p ∧ ∀ b, x.a = some b → x.h.q ≠ [] → ¬ S b.block) : Db w' o mb po n l L F :=
  ⟨(t.cell h.ol ho).trans h.c0, (t.cell h.ol ho).trans h.c1, (t.cell h.ol ho).trans h.c2, (t.cell h.ol ho).trans h.c3, Nat.lt_of_lt_of_le h.ol t.size, h.nf, h.mf, h.map.tch t hm, h.srt,
    fun x q => (h.ok x q).step t (hx x q).1 (hx x q).2 (fun k e => .inl e), h.pol.tch t hF, h.len⟩
theorem Db.nw {w w' : World} {o mb po n : Nat} {l : List Hp} {L : List Bool} {F : Nat → Prop} (h : Db w o mb po n l L F) (g : Nw w w') : Db w' o mb po n l L F := h.tch (Tch.nw (S := fun _ => False) g) (fun e => e) (fun e => e) (fun _ _ e => e) (fun _ _ => ⟨fun e => e, fun _ _ _ e => e⟩)
/-- The blocks of a bucket's heads. -/
def HdIn (l : List Hp) (b : Nat) : Prop := ∃ x ∈ l, b = x.p ∨ ∃ a, x.a = some a ∧ x.h.q ≠ [] ∧ b = a.block
/-- Heads lie where some lay, or in new blocks. -/
def HdN (w : World) (l l' : List Hp) : Prop := ∀ b, HdIn l' b → HdIn l b ∨ w.heap.size ≤ b
theorem HdN.refl (w : World) (l : List Hp) : HdN w l l := fun _ e => .inl e
theorem HdN.pre {w w1 : World} {l l' : List Hp} (h : HdN w1 l l') (g : w.heap.size ≤ w1.heap.size) : HdN w l l' := fun b e => (h b e).imp id (fun q => Nat.le_trans g q)
/-- What a call comes to. -/
def DbTo (w : World) (o mb po n : Nat) (F : Nat → Prop) (l : List Hp) (w' : World) (l' : List Hp) (L' : List Bool) : Prop := ∃ F', Db w' o mb po n l' L' F' ∧ (∀ k, F' k → F k ∨ w.heap.size ≤ k) ∧ Tch (fun b => b = mb ∨ F b) w w' ∧ HdN w l l'
theorem Db.to {w w' : World} {o mb po n : Nat} {l : List Hp} {L : List Bool} {F : Nat → Prop} (h : Db w o mb po n l L F) (g : Nw w w') : DbTo w o mb po n F l w' l L := ⟨F, h.nw g, fun _ e => .inl e, Tch.nw g, HdN.refl w l⟩
theorem DbTo.pre {w w1 w' : World} {o mb po n : Nat} {F : Nat → Prop} {l l' : List Hp} {L' : List Bool} (g : Nw w w1) (h : DbTo w1 o mb po n F l w' l' L') : DbTo w o mb po n F l w' l' L' := by
  obtain ⟨F', h1, h2, h3, h4⟩ := h
  exact ⟨F', h1, fun k e => (h2 k e).imp id (fun q => Nat.le_trans g.sz q), (Tch.nw g).trans h3, h4.pre g.sz⟩
theorem DbTo.nw {w w1 w' : World} {o mb po n : Nat} {F : Nat → Prop} {l l' : List Hp} {L' : List Bool} (h : DbTo w o mb po n F l w1 l' L') (g : Nw w1 w') : DbTo w o mb po n F l w' l' L' := by
  obtain ⟨F', h1, h2, h3, h4⟩ := h
  exact ⟨F', h1.nw g, h2, h3.trans (Tch.nw g), h4⟩
/-- The pool takes a step. -/
theorem Db.pool {w w' : World} {o mb po n : Nat} {l : List Hp} {L L' : List Bool} {F : Nat → Prop} (h : Db w o mb po n l L F) (k : PolTo w po F L' w') : DbTo w o mb po n F l w' l L' := by
  obtain ⟨F', h1, h2, h3⟩ := k
  have hml := h.map.lt
  have hol := h.ol
  refine ⟨F', ⟨(h3.cell hol h.nf).trans h.c0, (h3.cell hol h.nf).trans h.c1, (h3.cell hol h.nf).trans h.c2, (h3.cell hol h.nf).trans h.c3, Nat.lt_of_lt_of_le hol h3.size, fun e => (h2 _ e).elim h.nf (fun q => by omega), fun e => (h2 _ e).elim h.mf (fun q => by omega), h.map.tch h3 h.mf, h.srt,
    fun x q => (h.ok x q).step h3 (h.ok x q).nf (h.ok x q).qf h2, h1, h.len⟩, h2, h3.mono (fun _ _ e => .inr e), HdN.refl w l⟩
theorem DbTo.then {w w1 w' : World} {o mb po n : Nat} {F : Nat → Prop} {l l1 l' : List Hp} {L1 L' : List Bool} (h : DbTo w o mb po n F l w1 l1 L1) (k : ∀ F1, Db w1 o mb po n l1 L1 F1 → DbTo w1 o mb po n F1 l1 w' l' L') : DbTo w o mb po n F l w' l' L' := by
  obtain ⟨F1, h1, h2, h3, h4⟩ := h
  obtain ⟨F', k1, k2, k3, k4⟩ := k F1 h1
  exact ⟨F', k1, fun b e => (k2 b e).elim (h2 b) (fun q => .inr (Nat.le_trans h3.size q)), h3.trans' k3 (fun b hb e => e.elim .inl (fun e => (h2 b e).elim .inr (fun q => by omega))), fun b e => (k4 b e).elim (h4 b) (fun q => .inr (Nat.le_trans h3.size q))⟩

theorem srtN_eq {ss : List (Int × Int)} {l : List Hp} (p : ss.Perm (nmsP l)) (s : SrtP l) : srtN ss = nmsP l := by
  have tr : ∀ a b c : Int × Int, (!(ltOf cmpN b a)) = true → (!(ltOf cmpN c b)) = true → (!(ltOf cmpN c a)) = true := fun a b c h1 h2 => by
    rw [cmpN_lt] at *; simp only [Bool.not_eq_true', decide_eq_false_iff_not] at *; unfold nlt at *; omega
  have to : ∀ a b : Int × Int, ((!(ltOf cmpN b a)) || !(ltOf cmpN a b)) = true := fun a b => by
    rw [cmpN_lt, cmpN_lt]; simp only [Bool.or_eq_true, Bool.not_eq_true', decide_eq_false_iff_not]; unfold nlt; omega
  refine List.Perm.eq_of_pairwise (le := fun a b => (!(ltOf cmpN b a)) = true) (fun a b _ _ h1 h2 => cmpN_tot a b (by simpa using h2) (by simpa using h1)) (List.pairwise_mergeSort tr to ss) ?_ ((List.mergeSort_perm ss _).trans p)
  refine List.pairwise_map.2 (s.imp fun {a b} h => ?_)
  rw [cmpN_lt]
  simp only [Bool.not_eq_true', decide_eq_false_iff_not]
  intro q
  exact nlt_irr _ (nlt_tr h q)
set_option maxHeartbeats 1000000 in
theorem sortedFunc_any (gf : Nat) (lb : Array Value) (eg : ∀ args w, (callFunc gf args).run Tryz.prog w = .ok (.enter gf args) w) (Pre Fin : List (Int × Int) → Prop) (S0 : Nat → Prop) (w : World) (hsm : ∀ xs, Pre xs → xs.length ≤ 100000) (hfm : ∀ xs, Fin xs → xs.length ≤ 100000)
    (hS0 : ∀ k, S0 k → k < w.heap.size) (hseq : SeqB Fence.wide 4 Tryz.prog gf #[] lb nmV Pre Fin S0 w) :
    Calls Tryz.prog 84 #[.func (.func gf) #[] lb, .func (.func 86) #[] #[]] w fun e w' => ∃ v xs, e = .returned v ∧ Fin xs ∧ NmOwn w' w.heap.size v (srtN xs) ∧ Nw w w' := by
  have HC := Lib.hid (collectNames gf lb eg Pre Fin S0 w hsm hS0 hseq)
  clear hseq hS0 hsm
  go_enter Tryz.func84, Tryz.ntmps84
  go_wp2_with fail
  refine HC.out.mono ?_
  rintro e w1 ⟨v, xs, rfl, hf, hO, g1⟩
  have hxl := hfm xs hf
  have HF := Lib.hid (And.intro hf g1)
  have HO := Lib.hid hO
  rcases oform hO with ⟨rfl, hz⟩ | ⟨g, cap, rfl⟩
  · have HS := Lib.hid (AnyF.slices_SortFunc_none (P := Tryz.prog) { Tryz.sortN with } none 0 (.func (.func 86) #[] #[]) w1)
    have hx : xs = [] := List.length_eq_zero_iff.1 hz
    subst hx
    clear hO hf g1 hxl hz hfm
    go_wp2_with fail
    refine Calls.mono HS.out ?_
    rintro e w2 ⟨rfl, rfl⟩
    go_wp2
    go_ret
    have e0 : srtN ([] : List (Int × Int)) = [] := by unfold srtN; simp
    exact ⟨_, [], rfl, HF.out.1, by rw [e0]; exact HO.out, HF.out.2⟩
  · have HS := Lib.hid (sort_names w.heap.size g cap xs w1 hO hxl)
    have HG := Lib.hid (oge hO rfl)
    clear hO hf g1 hxl hfm
    go_wp2_with fail
    refine HS.out.mono ?_
    rintro e w2 ⟨rfl, hO2, ht⟩
    have HO2 := Lib.hid hO2
    have HT := Lib.hid ht
    clear hO2 ht
    go_wp2
    go_ret
    exact ⟨_, xs, rfl, HF.out.1, HO2.out, nw_tch HF.out.2 HT.out (fun i e => by have := HG.out; omega)⟩
end Go.Proofs.YtodnlelnpidliaaGreat
end

/- each: the heads of the developers' bucket, by rising names. -/
section
namespace Go.Proofs.YtodnlelnpidliaaGreat
open Go.RowKit Go.Sort Go.Shelf
set_option linter.unusedVariables false      -- a contract need not use every name
attribute [local go_sem] Oper.semAt_some

theorem e_each : ∀ args w, (callFunc 46 args).run Tryz.prog w = .ok (.enter 46 args) w := enters_of Tryz.func46 (by kernel_rfl) rfl
/-- The names of a bucket's map, in order. -/
theorem names_any {w : World} {mb : Nat} {l : List Hp} (m : MapH w mb l) (s : SrtP l) (hl : l.length ≤ 1000) (pc : Nat) (hpc : w.cell? ⟨pc, 0, none⟩ = some (.map (some mb))) :
    Calls Tryz.prog 84 #[.func (.func 111) #[] #[.pointer (some ⟨pc, 0, none⟩)], .func (.func 86) #[] #[]] w fun e w' => ∃ v, e = .returned v ∧ NmOwn w' w.heap.size v (nmsP l) ∧ Nw w w' := by
  have hnl : (nmsP l).length = l.length := List.length_map _
  refine (sortedFunc_any _ _ e_keys1 _ (fun ss => ss.Perm (nmsP l)) (fun k => k = mb) w (fun xs h => ?_) (fun xs h => by rw [h.length_eq]; omega) (fun k e => by subst e; exact m.lt) (keys1_in 4 (by omega) pc mb l w hpc m)).mono ?_
  · have := nodup_sub_len h.1 h.2
    omega
  · rintro e w' ⟨v, xs, rfl, hp, hO, g⟩
    rw [srtN_eq hp s] at hO
    exact ⟨v, rfl, hO, g⟩
/-- What each holds between two rounds. -/
structure EaI (J : (Nat → Prop) → List Hp → World → Prop) (S : Nat → Prop) (o mb : Nat) (l : List Hp) (v : Value) (i : Nat) (wr : World) : Prop where
  j : J S (l.take i) wr
  bd : ∀ k, S k → k < wr.heap.size
  row : NmOwn wr 0 v (nmsP l)
  c3 : wr.cell? ⟨o, 3, none⟩ = some (.map (some mb))
  map : MapH wr mb l
theorem nms_at {w : World} {g cap : Nat} {l : List Hp} (h : NmOwn w 0 (.slice (some ⟨g, 0, none⟩) l.length cap) (nmsP l)) (i : Nat) (hi : i < l.length) :
    w.cell? ⟨g, i * 2, none⟩ = some (.int .i64 l[i].h.t) ∧ w.cell? ⟨g, i * 2 + 1, none⟩ = some (.int .i64 l[i].h.r) := by
  have hnl : (nmsP l).length = l.length := List.length_map _
  obtain ⟨a, c, e, ⟨q, _⟩ | ⟨b, o', e2, hc⟩⟩ := Own.rd elemNm.len h
  · rw [q] at hnl; simp at hnl; omega
  · subst e2
    simp only [Value.slice.injEq, Option.some.injEq, Addr.mk.injEq, and_true] at e
    obtain ⟨⟨rfl, rfl⟩, _, rfl⟩ := e
    have hk := hc.cell i (by omega)
    have e : (nmsP l)[i]'(by omega) = (l[i].h.t, l[i].h.r) := by simp [nmsP, nmH]
    rw [e] at hk
    simp only [Nat.zero_add] at hk
    exact ⟨hk 0 _ rfl, hk 1 _ rfl⟩
theorem EaI.keep {J : (Nat → Prop) → List Hp → World → Prop} {S : Nat → Prop} {o mb : Nat} {l : List Hp} {v : Value} {i i' : Nat} {A B : World} (h : EaI J S o mb l v i A) (hj : J S (l.take i') B) (k : KpS S A B) (ho : S o) (hm : S mb) (hv : ∀ g, v.ownBlock = some g → S g) : EaI J S o mb l v i' B := by
  refine ⟨hj, fun b e => Nat.lt_of_lt_of_le (h.bd b e) k.size, ?_, (World.cell?_of_block (k.same o ho)).trans h.c3, h.map.same (k.same mb hm)⟩
  refine ⟨h.row.1, ?_⟩
  rcases h.row.2 with h0 | ⟨g, cap, cur, rfl, hb, hg, rest⟩
  · exact .inl h0
  · exact .inr ⟨g, cap, cur, rfl, hb, (k.same g (hv g rfl)).trans hg, rest⟩
set_option maxRecDepth 100000 in
set_option maxHeartbeats 4000000 in
theorem each_in (n : Nat) (hn : 1 ≤ n) (o mb : Nat) (l : List Hp) (w : World) (hc : w.cell? ⟨o, 3, none⟩ = some (.map (some mb))) (hm : MapH w mb l) (hs : SrtP l) (hl : l.length ≤ 1000) :
    SeqB Fence.wide n Tryz.prog 46 #[.pointer (some ⟨o, 0, none⟩)] #[] ptP (fun pre => pre <+: l) (fun xs => xs = l) (fun k => k = o ∨ k = mb) w := by
  intro L J Jx W hW hJ hJx hY h0
  have hol : o < w.heap.size := World.block_lt_of_cell? _ _ hc
  have hcW : W.cell? ⟨o, 3, none⟩ = some (.map (some mb)) := hW.kp hc
  have hmW := hm.nw hW
  have hmlt := hmW.lt
  have hoW : o < W.heap.size := Nat.lt_of_lt_of_le hol hW.sz
  have HK := Lib.hid (keys_any mb W)
  have hal := allocAt W (.cells #[.map (some mb)] 87)
  have hNa : Nw W (W.alloc (.cells #[.map (some mb)] 87)) := (Nw.refl W).alloc _
  have HN := Lib.hid (names_any (hmW.nw hNa) hs hl W.heap.size (hcell (j := 0) hal))
  have HY := Lib.hid hY
  have HJ := Lib.hid hJ
  have H0 := Lib.hid h0
  have HM := Lib.hid (And.intro hmW hNa)
  clear hc hm hs hW hY hJ hJx h0 hmW hNa hal
  refine callsIn_of_wp Tryz.func46 rfl trivial ?_ rfl
  simp only [Tryz.ntmps46, List.size_toArray, List.length_cons, List.length_nil, Nat.reduceAdd, Nat.reduceSub, Array.replicate_succ, Array.replicate_zero, List.push_toArray, List.append_toArray, List.nil_append, List.cons_append]
  gi_wp2_with fail
  refine ⟨trivial, (callsIn_wide.2 HK.out).mono ?_⟩
  rintro e w1 ⟨rfl, rfl⟩
  gi_wp2_with fail
  refine ⟨trivial, (callsIn_wide.2 HN.out).mono ?_⟩
  rintro e w1 ⟨v, rfl, hO, g1⟩
  have hnl : (nmsP l).length = l.length := List.length_map _
  have hN1 := HM.out.2.trans g1
  have hN1s := hN1.sz
  obtain ⟨S, hS⟩ : ∃ S : Nat → Prop, (fun k => (k = o ∨ k = mb) ∨ (W.heap.size ≤ k ∧ k < w1.heap.size)) = S := ⟨_, rfl⟩
  have hSo : S o := by rw [← hS]; exact .inl (.inl rfl)
  have hSm : S mb := by rw [← hS]; exact .inl (.inr rfl)
  have hSv : ∀ g, v.ownBlock = some g → S g := fun g e => by rw [← hS]; exact .inr ⟨by have := oge hO e; have := HM.out.2.sz; omega, olt hO e⟩
  have hSub : ∀ k, (k = o ∨ k = mb) → S k := fun k e => by rw [← hS]; exact .inl e
  have hbd : ∀ k, S k → k < w1.heap.size := fun k e => by
    rw [← hS] at e
    rcases e with (rfl | rfl) | e
    · omega
    · omega
    · exact e.2
  have hE0 : EaI J S o mb l v 0 w1 := ⟨HJ.out (fun k => k = o ∨ k = mb) S [] W w1 H0.out (Tch.nw hN1) hSub (fun k e => by rw [← hS] at e; rcases e with e | e; exact .inl e; exact .inr e.1) hbd, hbd, olow hO (fun g hg => Nat.zero_le _), hN1.kp hcW, HM.out.1.nw hN1⟩
  have HE := Lib.hid hE0
  have HS := Lib.hid (And.intro hSo (And.intro hSm (And.intro hSv hSub)))
  have hf := oform hO
  rw [hnl] at hf
  obtain ⟨av, cv, rfl, hav⟩ : ∃ a c, v = .slice a l.length c ∧ (a = none → l.length = 0) ∧ ∀ b, a = some b → ∃ g, b = ⟨g, 0, none⟩ := by
    rcases hf with ⟨rfl, e⟩ | ⟨g, cap, rfl⟩
    · exact ⟨none, 0, by rw [e], fun _ => e, fun b q => by cases q⟩
    · exact ⟨_, cap, rfl, fun q => (by cases q), fun b q => ⟨g, (Option.some.inj q).symm⟩⟩
  have HA := Lib.hid hav
  clear hav hE0 hSo hSm hSv hSub hbd hS hN1 hf hO g1 hnl HK HN hcW hN1s
  gi_wp2
  gi_loopw [13] (fun x wr => ∃ i : Nat, x = .int .i64 i ∧ i ≤ l.length ∧ Hid (EaI J S o mb l (.slice av l.length cv) i wr)) (fun x _ => l.length - (intOf x).toNat)
  case atStart => exact ⟨0, rfl, Nat.zero_le _, HE⟩
  case round =>
    obtain ⟨i, rfl, hi, HR⟩ := hrel
    by_cases hlt : i < l.length
    · obtain ⟨g, rfl⟩ : ∃ g, av = some ⟨g, 0, none⟩ := by
        cases av with
        | none => have := HA.out.1 rfl; omega
        | some b => obtain ⟨g, rfl⟩ := HA.out.2 b rfl; exact ⟨g, rfl⟩
      obtain ⟨n0, n1⟩ := nms_at HR.out.row i hlt
      have hii : (i : Int) < (l.length : Int) := by omega
      have hgl : g < wr.heap.size := olt HR.out.row rfl
      have hx : l[i] ∈ l := List.getElem_mem hlt
      have htk : l.take (i + 1) = l.take i ++ [l[i]] := List.take_succ_eq_append_getElem hlt
      have hpre : l.take i ++ [l[i]] <+: l := by rw [← htk]; exact List.take_prefix _ _
      obtain ⟨w2, hw2⟩ : ∃ w2, wr.alloc (.cells #[.int .i64 l[i].h.t, .int .i64 l[i].h.r] 38) = w2 := ⟨_, rfl⟩
      have hal := allocAt wr (.cells #[.int .i64 l[i].h.t, .int .i64 l[i].h.r] 38)
      have hNa : Nw wr (wr.alloc (.cells #[.int .i64 l[i].h.t, .int .i64 l[i].h.r] 38)) := (Nw.refl wr).alloc _
      rw [hw2] at hal hNa
      have b0 : w2.cell? ⟨wr.heap.size, 0, none⟩ = some (.int .i64 l[i].h.t) := hcell hal
      have b1 : w2.cell? ⟨wr.heap.size, 1, none⟩ = some (.int .i64 l[i].h.r) := hcell hal
      have c3 : w2.cell? ⟨o, 3, none⟩ = some (.map (some mb)) := hNa.kp HR.out.c3
      have hlk := (HR.out.map.nw hNa.dr).look hx
      have hkp2 : KpS S wr w2.drew := KpS.tch (Tch.nw (S := fun _ => False) hNa.dr) (fun k e => ⟨HR.out.bd k e, fun q => q⟩)
      have hj2 := HJ.out S S _ wr w2.drew HR.out.j (Tch.nw hNa.dr) (fun _ e => e) (fun _ e => .inl e) (fun k e => Nat.lt_of_lt_of_le (HR.out.bd k e) hNa.dr.sz)
      obtain ⟨fn, tmps, assign, body, hy, hYR⟩ := HY.out S (l.take i) l[i] w2.drew hj2 HS.out.2.2.2 (fun k e => Nat.lt_of_lt_of_le (HR.out.bd k e) hNa.dr.sz) hpre
      have hol2 : o < w2.heap.size := World.block_lt_of_cell? _ _ c3
      have HE2 := Lib.hid (HR.out.keep hj2 hkp2 HS.out.1 HS.out.2.1 HS.out.2.2.1)
      have HT := Lib.hid (And.intro htk hpre)
      have HW2 := Lib.hid hw2
      unfold nmV nmH at hlk
      generalize l[i] = x at *
      obtain ⟨⟨xt, xr, xW, xq⟩, xp, xa, xc⟩ := x
      simp only at n0 n1 b0 b1 hlk hy HW2
      clear htk hpre hw2 hal hNa hx hkp2 hj2
      gi_wp2_with fail
      rw [HW2.out]
      generalize wr.heap.size = bx at *
      obtain ⟨y, hyd⟩ : ∃ y, w2.drew = y := ⟨_, rfl⟩
      have d3 : y.cell? ⟨o, 3, none⟩ = some (.map (some mb)) := by subst hyd; exact c3
      have e0 : y.cell? ⟨bx, 0, none⟩ = some (.int .i64 xt) := by subst hyd; exact b0
      have e1 : y.cell? ⟨bx, 1, none⟩ = some (.int .i64 xr) := by subst hyd; exact b1
      rw [hyd] at hlk hy hYR HE2
      clear c3 b0 b1 n0 n1 hgl hol2 HW2
      refine wpIn_region_any (by kernel_rfl) ?_
      change wpAnyIn _ _ _ _ _ _ 9 #[false, false, false, false, false, false, false, false, false] _ w2.drew
      rw [hyd]
      clear hyd
      refine wpAnyIn_take (i := 0) (v := .func (.yield L) #[] #[]) rfl rfl (by kernel_rfl) (by kernel_rfl) (by kernel_rfl) (fun c a w h => h) ⟨.inl ⟨rfl, fun w => by simp [go_sem]⟩, fun w => rfl⟩ ?_
      simp only [Act.put, List.getElem_toArray, List.getElem_cons_zero, List.setIfInBounds_toArray, List.set_cons_zero, List.set_cons_succ]
      refine wpAnyIn_take (i := 1) (v := .pointer (some ⟨o, 0, none⟩)) rfl rfl (by kernel_rfl) (by kernel_rfl) (by kernel_rfl) (fun c a w h => h) ⟨.inl ⟨rfl, fun w => by simp [go_sem]⟩, fun w => rfl⟩ ?_
      simp only [Act.put, List.getElem_toArray, List.getElem_cons_zero, List.getElem_cons_succ, List.setIfInBounds_toArray, List.set_cons_zero, List.set_cons_succ]
      refine wpAnyIn_take (i := 2) (v := .pointer (some ⟨o, 0, none⟩)) rfl rfl (by kernel_rfl) (by kernel_rfl) (by kernel_rfl) (fun c a w h => h) ⟨.inl ⟨rfl, fun w => by simp [go_sem]⟩, fun w => rfl⟩ ?_
      simp only [Act.put, List.getElem_toArray, List.getElem_cons_zero, List.getElem_cons_succ, List.setIfInBounds_toArray, List.set_cons_zero, List.set_cons_succ]
      refine wpAnyIn_take (i := 3) (v := .pointer (some ⟨o, 3, none⟩)) rfl rfl (by kernel_rfl) (by kernel_rfl) (by kernel_rfl) (fun c a w h => h) ⟨.inl ⟨rfl, fun w => by simp [go_sem]⟩, fun w => rfl⟩ ?_
      simp only [Act.put, List.getElem_toArray, List.getElem_cons_zero, List.getElem_cons_succ, List.setIfInBounds_toArray, List.set_cons_zero, List.set_cons_succ]
      refine wpAnyIn_ready (rs := [4, 5]) (by kernel_rfl) (by simp) ?_
      refine AllReadyIn.cons rfl (fun K hK => ?_) (AllReadyIn.cons rfl (fun K hK => ?_) AllReadyIn.nil)
      · rw [if_pos (by rfl)]
        simp only [List.getElem_toArray, List.getElem_cons_zero, List.getElem_cons_succ]
        gi_big_op
        refine hK _ _ ?_
        clear hK K
        refine wpAnyIn_ready (rs := [5]) (by kernel_rfl) (by simp) ?_
        refine AllReadyIn.cons rfl (fun K hK => ?_) AllReadyIn.nil
        rw [if_pos (by rfl)]
        simp only [List.getElem_toArray, List.getElem_cons_zero, List.getElem_cons_succ]
        gi_big_op
        refine hK _ _ ?_
        clear hK K
        refine wpAnyIn_ready (rs := [6]) (by kernel_rfl) (by simp) ?_
        refine AllReadyIn.cons rfl (fun K hK => ?_) AllReadyIn.nil
        rw [if_pos (by rfl)]
        simp only [List.getElem_toArray, List.getElem_cons_zero, List.getElem_cons_succ]
        gi_big_op
        refine hK _ _ ?_
        clear hK K
        refine wpAnyIn_ready (rs := [7]) (by kernel_rfl) (by simp) ?_
        refine AllReadyIn.cons rfl (fun K hK => ?_) AllReadyIn.nil
        rw [if_pos (by rfl)]
        simp only [List.getElem_toArray, List.getElem_cons_zero, List.getElem_cons_succ]
        go_simp
        refine hYR.mono ?_
        rintro e w3 (⟨rfl, hJ3, hk3⟩ | ⟨rfl, hJ3, hk3⟩)
        · refine hK _ _ ?_
          clear hK K hy hYR
          have HJ3 := Lib.hid (HE2.out.keep (i' := i + 1) (by rw [HT.out.1]; exact hJ3) hk3 HS.out.1 HS.out.2.1 HS.out.2.2.1)
          clear hJ3 hk3
          refine wpAnyIn_ready (rs := [8]) (by kernel_rfl) (by simp) ?_
          refine AllReadyIn.cons rfl (fun K hK => ?_) AllReadyIn.nil
          rw [if_pos (by rfl)]
          simp only [List.getElem_toArray, List.getElem_cons_zero, List.getElem_cons_succ]
          gi_big_op
          refine hK _ _ ?_
          clear hK K
          refine wpAnyIn_done (by kernel_rfl) ?_ _
          gi_wp2
          go_roundw
          case rel => exact ⟨i + 1, by go_num, by omega, HJ3⟩
          case measure => simp [intOf]; omega
        · refine hK _ _ ?_
          clear hK K hy hYR
          have HJ3 := Lib.hid hJ3
          clear hJ3 hk3
          refine wpAnyIn_ready (rs := [8]) (by kernel_rfl) (by simp) ?_
          refine AllReadyIn.cons rfl (fun K hK => ?_) AllReadyIn.nil
          rw [if_pos (by rfl)]
          simp only [List.getElem_toArray, List.getElem_cons_zero, List.getElem_cons_succ]
          gi_big_op
          refine hK _ _ ?_
          clear hK K
          refine wpAnyIn_done (by kernel_rfl) ?_ _
          gi_wp2
          refine bodyPost_ret (results_none rfl _ _ _) rfl ?_
          exact ⟨⟨_, rfl⟩, .inr ⟨S, _, HT.out.2, HJ3.out⟩⟩
      · rw [if_pos (by rfl)]
        simp only [List.getElem_toArray, List.getElem_cons_zero, List.getElem_cons_succ]
        gi_big_op
        refine hK _ _ ?_
        clear hK K
        refine wpAnyIn_ready (rs := [4]) (by kernel_rfl) (by simp) ?_
        refine AllReadyIn.cons rfl (fun K hK => ?_) AllReadyIn.nil
        rw [if_pos (by rfl)]
        simp only [List.getElem_toArray, List.getElem_cons_zero, List.getElem_cons_succ]
        gi_big_op
        refine hK _ _ ?_
        clear hK K
        refine wpAnyIn_ready (rs := [6]) (by kernel_rfl) (by simp) ?_
        refine AllReadyIn.cons rfl (fun K hK => ?_) AllReadyIn.nil
        rw [if_pos (by rfl)]
        simp only [List.getElem_toArray, List.getElem_cons_zero, List.getElem_cons_succ]
        gi_big_op
        refine hK _ _ ?_
        clear hK K
        refine wpAnyIn_ready (rs := [7]) (by kernel_rfl) (by simp) ?_
        refine AllReadyIn.cons rfl (fun K hK => ?_) AllReadyIn.nil
        rw [if_pos (by rfl)]
        simp only [List.getElem_toArray, List.getElem_cons_zero, List.getElem_cons_succ]
        go_simp
        refine hYR.mono ?_
        rintro e w3 (⟨rfl, hJ3, hk3⟩ | ⟨rfl, hJ3, hk3⟩)
        · refine hK _ _ ?_
          clear hK K hy hYR
          have HJ3 := Lib.hid (HE2.out.keep (i' := i + 1) (by rw [HT.out.1]; exact hJ3) hk3 HS.out.1 HS.out.2.1 HS.out.2.2.1)
          clear hJ3 hk3
          refine wpAnyIn_ready (rs := [8]) (by kernel_rfl) (by simp) ?_
          refine AllReadyIn.cons rfl (fun K hK => ?_) AllReadyIn.nil
          rw [if_pos (by rfl)]
          simp only [List.getElem_toArray, List.getElem_cons_zero, List.getElem_cons_succ]
          gi_big_op
          refine hK _ _ ?_
          clear hK K
          refine wpAnyIn_done (by kernel_rfl) ?_ _
          gi_wp2
          go_roundw
          case rel => exact ⟨i + 1, by go_num, by omega, HJ3⟩
          case measure => simp [intOf]; omega
        · refine hK _ _ ?_
          clear hK K hy hYR
          have HJ3 := Lib.hid hJ3
          clear hJ3 hk3
          refine wpAnyIn_ready (rs := [8]) (by kernel_rfl) (by simp) ?_
          refine AllReadyIn.cons rfl (fun K hK => ?_) AllReadyIn.nil
          rw [if_pos (by rfl)]
          simp only [List.getElem_toArray, List.getElem_cons_zero, List.getElem_cons_succ]
          gi_big_op
          refine hK _ _ ?_
          clear hK K
          refine wpAnyIn_done (by kernel_rfl) ?_ _
          gi_wp2
          refine bodyPost_ret (results_none rfl _ _ _) rfl ?_
          exact ⟨⟨_, rfl⟩, .inr ⟨S, _, HT.out.2, HJ3.out⟩⟩
    · obtain rfl : i = l.length := by omega
      have HZ := Lib.hid HR.out.j
      rw [List.take_length] at HZ
      gi_wp2
      go_end0
      exact ⟨⟨_, rfl⟩, .inl ⟨S, l, rfl, HZ.out⟩⟩
end Go.Proofs.YtodnlelnpidliaaGreat
end

/- A region that draws its order, in a round of a range over a function: what is shown of it outside of a round serves. Of no program. -/
section
namespace Go.Proofs.YtodnlelnpidliaaGreat
open Go.RowKit Go.Shelf

/-- The region is left off its end. -/
def NOr (Q : Exit → Act → World → Prop) : Exit → Act → World → Prop
  | .normal, a, w => Q .normal a w
  | _, _, _ => False
theorem NOr.imp {Q : Exit → Act → World → Prop} (e : Exit) (a : Act) (w : World) (h : NOr Q e a w) : Q e a w := by
  cases e with
  | normal => exact h
  | _ => exact h.elim
theorem NOr.lets {Q : Exit → Act → World → Prop} (h : LetsOut (NOr Q)) : False := by obtain ⟨a, w, h⟩ := h; exact h
def notDefer (o : Oper) : Bool := match o.op with | .defer _ => false | _ => true
theorem notDefer_ne {o : Oper} (h : notDefer o = true) : ∀ c, o.op ≠ .defer c := fun c e => by
  unfold notDefer at h; rw [e] at h; cases h
theorem rowsRound {r n : Nat} {P : Program} {row : String} {args : Array Value} {w : World} {R : Value → World → Prop} (h : Rows P row args w R) : RowsIn (Fence.wide.inRound r) n P row args w R :=
  fun c cs _ => let ⟨v, w', q, s⟩ := h c cs; ⟨v, w', q, stepsIn_wide.2 s⟩
theorem callsRound {r n : Nat} {P : Program} {f : FuncId} {args : Array Value} {w : World} {R : Ending → World → Prop} (h : Calls P f args w R) : CallsIn (Fence.wide.inRound r) n P f args w R := (callsIn_wide (n := n)).2 h
theorem operRound {r n : Nat} {P : Program} {o : Oper} {a : Act} {w : World} {K : Act → World → Prop} {Q : Exit → Act → World → Prop} (hd : notDefer o = true) (h : o.wp P a w K Q) : o.wpIn (Fence.wide.inRound r) n P a w K Q := by
  unfold Oper.wp at h
  unfold Oper.wpIn
  refine ⟨fun _ _ => trivial, ?_⟩
  rw [Oper.semAt_plain _ _ _ (notDefer_ne hd)]
  generalize (execOp a.eval o).run P w = x at *
  cases x with
  | ok v w' =>
    cases v <;> simp only [Oper.upon] at h <;> simp only [Oper.uponIn]
    case value => exact h
    case skip => exact h
    case defer => exact h
    case enter => exact ⟨fun e => by simp [Fence.inRound, Fence.wide] at e, callsRound h⟩
    case row => exact ⟨fun e => by simp [Fence.inRound, Fence.wide] at e, rowsRound h⟩
  | halt v w' =>
    cases v <;> simp only [Oper.upon] at h <;> simp only [Oper.uponIn]
    exact h
theorem anyRound {r n : Nat} {P : Program} {md : Region.Mode} {ops : Array Oper} {Q : Exit → Act → World → Prop} (hd : ∀ o ∈ ops.toList, notDefer o = true) : ∀ (fuel : Nat) (listed : Array Bool) (a : Act) (w : World),
    wpAny P md ops (NOr Q) fuel listed a w → wpAnyIn (Fence.wide.inRound r) n P md ops (NOr Q) fuel listed a w
  | 0, _, _, _, h => h
  | fuel + 1, listed, a, w, h => ⟨h.1, fun i hi => by
    have hh := h.2 i hi
    unfold wpOp at hh
    unfold wpOpIn
    cases ho : ops[i]? with
    | none => simp only [ho] at hh ⊢; exact anyRound hd fuel _ _ _ hh
    | some o =>
      simp only [ho] at hh ⊢
      split
      · rename_i hw
        rw [if_pos hw] at hh
        rcases hh with hh | ⟨_, hh⟩
        · exact Oper.wpIn_mono (fun a w q => anyRound hd fuel _ _ _ q) (operRound (hd o (List.mem_of_getElem? (by rw [Array.getElem?_toList]; exact ho))) hh)
        · exact (NOr.lets hh).elim
      · rename_i hw
        rw [if_neg hw] at hh
        exact ⟨fun _ _ => trivial, anyRound hd fuel _ _ _ hh⟩⟩
theorem region_round {r n : Nat} {P : Program} {id : Nat} {l : List Oper} {Q : Exit → Act → World → Prop} {a : Act} {w : World} {S : World → Prop} (hm : P.follows .mixedOrders = true) (hd : l.all notDefer = true)
    (h : wpAnyH P .any l.toArray (NOr Q) S l.toArray.size (Array.replicate l.toArray.size false) a w.drew) : (Code.region id l.toArray true).wpIn (Fence.wide.inRound r) n P Q a w :=
  wpIn_mono (wpIn_region_any hm (anyRound (fun o ho => List.all_eq_true.1 hd o (by simpa using ho)) _ _ _ _ (wpAny_of_held _ _ _ _ h))) NOr.imp
/-- An operation that comes up now. -/
theorem opH {P : Program} {ops : Array Oper} {Q : Exit → Act → World → Prop} {i : Nat} {o : Oper} {K : Act → World → Prop} {a : Act} {w : World} (ho : ops[i]? = some o)
    (h : ∀ K' : Act → World → Prop, (∀ a w, K a w → K' a w) → if Region.wanted o (yielded ops a.tmps) = true then Oper.wp P o a w K' Q else K' (a.put o.dst undef) w) : wpOp P ops Q i K a w := by
  unfold wpOp
  simp only [ho]
  have := h K (fun _ _ q => q)
  split
  · rename_i hw
    rw [if_pos hw] at this
    exact .inl this
  · rename_i hw
    rw [if_neg hw] at this
    exact this
theorem oneH {P : Program} {md : Region.Mode} {ops : Array Oper} {Q : Exit → Act → World → Prop} {S : World → Prop} {i : Nat} {o : Oper} {fuel : Nat} {listed : Array Bool} {a : Act} {w : World} (hr : Region.ready md ops listed = [i]) (ho : ops[i]? = some o)
    (h : ∀ K' : Act → World → Prop, (∀ a w, S w → wpAnyH P md ops Q S fuel (listed.setIfInBounds i true) a w → K' a w) → if Region.wanted o (yielded ops a.tmps) = true then Oper.wp P o a w K' Q else K' (a.put o.dst undef) w) : wpAnyH P md ops Q S (fuel + 1) listed a w :=
  wpAnyH_all hr (by simp) (fun j hj => by
    obtain rfl : j = i := by simpa using hj
    exact opH ho (fun K' hK => h K' (fun a w q1 q2 => hK a w ⟨q1, q2⟩)))
theorem twoH {P : Program} {md : Region.Mode} {ops : Array Oper} {Q : Exit → Act → World → Prop} {S : World → Prop} {i j : Nat} {o o' : Oper} {fuel : Nat} {listed : Array Bool} {a : Act} {w : World} (hr : Region.ready md ops listed = [i, j]) (ho : ops[i]? = some o) (ho' : ops[j]? = some o')
    (h : ∀ K' : Act → World → Prop, (∀ a w, S w → wpAnyH P md ops Q S fuel (listed.setIfInBounds i true) a w → K' a w) → if Region.wanted o (yielded ops a.tmps) = true then Oper.wp P o a w K' Q else K' (a.put o.dst undef) w)
    (h' : ∀ K' : Act → World → Prop, (∀ a w, S w → wpAnyH P md ops Q S fuel (listed.setIfInBounds j true) a w → K' a w) → if Region.wanted o' (yielded ops a.tmps) = true then Oper.wp P o' a w K' Q else K' (a.put o'.dst undef) w) : wpAnyH P md ops Q S (fuel + 1) listed a w :=
  wpAnyH_all hr (by simp) (fun k hk => by
    rcases (by simpa using hk : k = i ∨ k = j) with rfl | rfl
    · exact opH ho (fun K' hK => h K' (fun a w q1 q2 => hK a w ⟨q1, q2⟩))
    · exact opH ho' (fun K' hK => h' K' (fun a w q1 q2 => hK a w ⟨q1, q2⟩)))
end Go.Proofs.YtodnlelnpidliaaGreat
end

/- Plain facts of queues of requests: which one can be granted next. -/
section
namespace Go.Proofs.YtodnlelnpidliaaGreat
set_option linter.unusedVariables false

def isUp (a : Rq) : Prop := a.md ≠ 0 ∧ 0 < a.sn
theorem can_of {W : Int} {q : List Rq} {r : Rq} (h : Ok W q) (hr : r ∈ q) (hs : 0 < r.sn) (hb : ∀ o ∈ q, o.id ≠ r.id → blk r o = false) : canG q r = true := by
  unfold canG
  rw [Bool.and_eq_true]
  refine ⟨by simpa using hs, List.all_eq_true.2 fun o ho => ?_⟩
  by_cases e : o.id = r.id
  · simp [e]
  · simp [hb o ho e]
theorem not_can {q : List Rq} {r o : Rq} (ho : o ∈ q) (ne : o.id ≠ r.id) (hb : blk r o = true) : canG q r = false := by
  cases e : canG q r with
  | false => rfl
  | true =>
    have := no_blk e ho ne
    rw [hb] at this; cases this
theorem blk_holds {r o : Rq} (hm : o.md ≠ 0) (hc : cpI o.md r.wt = false) : blk r o = true := by simp [blk, hm, hc]
theorem blk_ups {r o : Rq} (hm : o.md ≠ 0) (hs : 0 < o.sn) (h : r.md = 0 ∨ o.sn < r.sn) : blk r o = true := by
  rcases h with h | h <;> simp [blk, hm, hs, h]
theorem blk_ahead {r o : Rq} (h1 : r.md = 0) (h2 : o.md = 0) (h3 : o.sn < r.sn) : blk r o = true := by simp [blk, h1, h2, h3]
/-- The one that upgrades with the least Since can be granted if its mode fits. -/
theorem cand_up {W : Int} {q : List Rq} (h : Ok W q) {r : Rq} (hr : r ∈ q) (hu : isUp r) (hmin : ∀ a ∈ q, isUp a → r.sn ≤ a.sn) (hf : ∀ o ∈ q, o.id ≠ r.id → o.md ≠ 0 → cpI o.md r.wt = true) : canG q r = true :=
  can_of h hr hu.2 fun o ho ne => by
    have hz := hu.1
    cases e : blk r o with
    | false => rfl
    | true =>
      exfalso
      unfold blk at e
      simp only [Bool.or_eq_true, Bool.and_eq_true, bne_iff_ne, beq_iff_eq, Bool.not_eq_true', decide_eq_true_eq] at e
      rcases e with (⟨e1, e2⟩ | ⟨⟨e1, e2⟩, e3⟩) | ⟨⟨e1, _⟩, _⟩
      · rw [hf o ho ne e1] at e2; cases e2
      · rcases e3 with e3 | e3
        · exact hz e3
        · have := hmin o ho ⟨e1, e2⟩; omega
      · exact hz e1
/-- The first one that waits can be granted if none upgrades and its mode fits. -/
theorem cand_wa {W : Int} {q : List Rq} (h : Ok W q) {k : Nat} (hk : k < q.length) (hz : q[k].md = 0) (hfirst : ∀ a ∈ q.take k, a.md ≠ 0) (hno : ∀ a ∈ q, ¬ isUp a) (hf : ∀ o ∈ q, o.id ≠ q[k].id → o.md ≠ 0 → cpI o.md q[k].wt = true) : canG q q[k] = true :=
  can_of h (List.getElem_mem hk) ((h.rt _ (List.getElem_mem hk)).w' hz) fun o ho ne => by
    cases e : blk q[k] o with
    | false => rfl
    | true =>
      exfalso
      unfold blk at e
      simp only [Bool.or_eq_true, Bool.and_eq_true, bne_iff_ne, beq_iff_eq, Bool.not_eq_true', decide_eq_true_eq] at e
      rcases e with (⟨e1, e2⟩ | ⟨⟨e1, e2⟩, _⟩) | ⟨⟨_, e1⟩, e2⟩
      · rw [hf o ho ne e1] at e2; cases e2
      · exact hno o ho ⟨e1, e2⟩
      · obtain ⟨j, hj, rfl⟩ := List.getElem_of_mem ho
        rcases Nat.lt_trichotomy j k with g | g | g
        · exact hfirst _ (List.mem_take_iff_getElem.2 ⟨j, by omega, rfl⟩) e1
        · subst g; exact ne rfl
        · have := ((List.pairwise_iff_getElem.1 h.pr k j hk hj g).ord hz).2; omega
/-- Where the candidate's mode does not fit nothing can be granted. -/
theorem done_up {W : Int} {q : List Rq} (h : Ok W q) {r : Rq} (hr : r ∈ q) (hu : isUp r) (hmin : ∀ a ∈ q, isUp a → r.sn ≤ a.sn) (hf : ∃ o ∈ q, o.id ≠ r.id ∧ o.md ≠ 0 ∧ cpI o.md r.wt = false) : Done q := by
  intro s hs
  by_cases e : s.id = r.id
  · obtain rfl := h.inj s hs r hr e
    obtain ⟨o, ho, ne, h1, h2⟩ := hf
    exact not_can ho ne (blk_holds h1 h2)
  · cases c : canG q s with
    | false => rfl
    | true =>
      have hsn := can_sn c
      rw [not_can hr (fun x => e x.symm) (blk_ups hu.1 hu.2 ?_)] at c
      · cases c
      · by_cases z : s.md = 0
        · exact .inl z
        · refine .inr ?_
          have h1 := hmin s hs ⟨z, hsn⟩
          have h2 : r.sn ≠ s.sn := fun x => e (by rw [h.injS r hr s hs hu.2 x])
          omega
theorem done_wa {W : Int} {q : List Rq} (h : Ok W q) {k : Nat} (hk : k < q.length) (hz : q[k].md = 0) (hfirst : ∀ a ∈ q.take k, a.md ≠ 0) (hno : ∀ a ∈ q, ¬ isUp a) (hf : ∃ o ∈ q, o.id ≠ q[k].id ∧ o.md ≠ 0 ∧ cpI o.md q[k].wt = false) : Done q := by
  intro s hs
  by_cases e : s.id = q[k].id
  · obtain rfl := h.inj s hs _ (List.getElem_mem hk) e
    obtain ⟨o, ho, ne, h1, h2⟩ := hf
    exact not_can ho ne (blk_holds h1 h2)
  · cases c : canG q s with
    | false => rfl
    | true =>
      have hsn := can_sn c
      have hsz : s.md = 0 := by
        refine Classical.byContradiction fun z => hno s hs ⟨z, hsn⟩
      obtain ⟨j, hj, rfl⟩ := List.getElem_of_mem hs
      rcases Nat.lt_trichotomy j k with g | g | g
      · exact absurd hsz (hfirst _ (List.mem_take_iff_getElem.2 ⟨j, by omega, rfl⟩))
      · subst g; exact absurd rfl e
      · have := ((List.pairwise_iff_getElem.1 h.pr k j hk hj g).ord hz).2
        rw [not_can (List.getElem_mem hk) (fun x => e x.symm) (blk_ahead hsz hz this)] at c
        cases c
theorem done_none {q : List Rq} (hno : ∀ a ∈ q, ¬ isUp a) (hw : ∀ a ∈ q, a.md ≠ 0) : Done q := by
  intro s hs
  cases c : canG q s with
  | false => rfl
  | true => exact absurd ⟨hw s hs, can_sn c⟩ (hno s hs)
end Go.Proofs.YtodnlelnpidliaaGreat
end

/- A cheaper Bool over a region's text: each operation waits only for earlier ones, and each later one waits for it or is apart from it. Of no program. -/
section
namespace Go.Proofs.YtodnlelnpidliaaGreat
open Go

/-- What the check asks of an operation: where it writes, what it looks at, for whom it waits. -/
def infoOf (ops : Array Oper) (o : Oper) : Option Tmp × List Tmp × List Nat := (o.dst, o.looksAt ops, (o.after.toList.filter (Region.binds .any)).map (·.on))
def pairI (k : Nat) (x y : Option Tmp × List Tmp × List Nat) : Bool :=
  y.2.2.contains k || ((match x.1 with
    | some d => !y.2.1.contains d && y.1 != some d
    | none => true) && (match y.1 with
    | some d => !x.2.1.contains d
    | none => true))
def lexI : Nat → List (Option Tmp × List Tmp × List Nat) → Bool
  | _, [] => true
  | k, x :: r => x.2.2.all (fun e => decide (e < k)) && r.all (pairI k x) && lexI (k + 1) r

theorem lex_walk {P : Program} {ops : Array Oper} {C : World → Prop} {Q : Act → Prop} (hs : Region.noSelect ops = true) : ∀ (l : List Oper) (k : Nat) (listed : Array Bool) (a : Act),
    (∀ j, l[j]? = ops[k + j]?) → (∀ j, j < k → listed.getD j false = true) → (∀ j, k ≤ j → j < k + l.length → listed.getD j true = false) → k + l.length = ops.size →
    lexI k (l.map (infoOf ops)) = true → wpQuiet P ops C Q l a → wpAnyQ P .any ops C Q l.length listed a
  | [], k, listed, a, _, hL, _, hn, _, h => by
    refine ⟨?_, h⟩
    rw [List.eq_nil_iff_forall_not_mem]
    intro j hj
    obtain ⟨h1, o, ho, _⟩ := mem_ready.1 hj
    have hlt : j < ops.size := (Array.getElem?_eq_some_iff.1 ho).1
    have h2 := hL j (by simp at hn; omega)
    rcases Nat.lt_or_ge j listed.size with g | g
    · simp [g] at h1 h2; rw [h1] at h2; cases h2
    · simp [Array.getElem?_eq_none g] at h2
  | o :: l, k, listed, a, hl, hL, hU, hn, hB, h => by
    have h0 : ops[k]? = some o := by simpa using (hl 0).symm
    simp only [List.map_cons, lexI, Bool.and_eq_true, List.all_eq_true, decide_eq_true_eq] at hB
    obtain ⟨⟨hd, hp⟩, hB'⟩ := hB
    have hst : qOp P ops C k (wpQuiet P ops C Q l) a := by unfold qOp; simp only [h0]; exact h
    obtain ⟨v, hy, hK⟩ := yieldsIn_of_qOp h0 hst
    have hr : k ∈ Region.ready .any ops listed := by
      refine mem_ready.2 ⟨hU k (Nat.le_refl _) (by simp), o, h0, fun e he hb => hL e.on (hd e.on ?_)⟩
      exact List.mem_map.2 ⟨e, List.mem_filter.2 ⟨Array.mem_toList_iff.2 he, hb⟩, rfl⟩
    refine wpAnyQ_first h0 (Region.noSelect_spec hs) l.length listed a ?_ hr hy (lex_walk hs l (k + 1) _ _ (fun j => ?_) (fun j hj => ?_) (fun j h1 h2 => ?_) (by simp at hn; omega) hB' hK)
    · intro j oj hoj hne hun hno
      have hkj : k < j := by
        rcases Nat.lt_or_ge j k with g | g
        · have h2 := hL j g
          rcases Nat.lt_or_ge j listed.size with g2 | g2
          · simp [g2] at hun h2; rw [hun] at h2; cases h2
          · simp [Array.getElem?_eq_none g2] at h2
        · omega
      have hlj := hl (j - k)
      rw [show k + (j - k) = j by omega, hoj, show j - k = (j - k - 1) + 1 by omega, List.getElem?_cons_succ] at hlj
      have hm : infoOf ops oj ∈ l.map (infoOf ops) := List.mem_map.2 ⟨oj, List.mem_of_getElem? hlj, rfl⟩
      have hq := hp _ hm
      unfold pairI at hq
      rw [Bool.or_eq_true] at hq
      rcases hq with hq | hq
      · obtain ⟨e, he, heq⟩ := List.mem_map.1 (List.contains_iff_mem.1 hq)
        obtain ⟨he1, he2⟩ := List.mem_filter.1 he
        exact absurd heq (hno e (Array.mem_toList_iff.1 he1) he2)
      · exact hq
    · have := hl (j + 1)
      simpa [Nat.add_assoc, Nat.add_comm 1 j] using this
    · rcases Nat.lt_or_ge j k with g | g
      · exact getD_set_true (hL j g)
      · obtain rfl : j = k := by omega
        have h3 := hU j (Nat.le_refl _) (by simp)
        have hsz : j < listed.size := by
          rcases Nat.lt_or_ge j listed.size with g2 | g2
          · exact g2
          · simp [Array.getElem?_eq_none g2] at h3
        simp [hsz]
    · rw [getD_set_ne true (by omega)]
      exact hU j (by omega) (by simp at h2 ⊢; omega)

theorem region_in' {P : Program} {id : Nat} {Q : Exit → Act → World → Prop} {a : Act} {w : World} {l : List Oper} (S : World → Prop) (hm : P.follows .mixedOrders = true) (hs : Region.noSelect l.toArray = true)
    (hB : lexI 0 (l.map (infoOf l.toArray)) = true) (hS : S w.drew)
    (h : wpQuiet P l.toArray (fun w' => ∃ d : Wd S, w' = d.w) (fun a' => ∀ d : Wd S, Q .normal a' d.w) l a) : (Code.region id l.toArray true).wp P Q a w := by
  refine wp_region_any hm (wpAny_of_quiet (C := fun w' => ∃ d : Wd S, w' = d.w) (Q := fun a' => ∀ d : Wd S, Q .normal a' d.w) (fun _ _ ⟨d, hd⟩ h => hd ▸ h d) _ _ _ _ ⟨⟨w.drew, hS⟩, rfl⟩ ?_)
  have := lex_walk (P := P) (C := fun w' => ∃ d : Wd S, w' = d.w) (Q := fun a' => ∀ d : Wd S, Q .normal a' d.w) hs l 0 (Array.replicate l.toArray.size false) a (by simp) (fun j hj => absurd hj (by omega)) (fun j _ hj => by simp at hj; simp [hj]) (by simp) hB h
  simpa using this
end Go.Proofs.YtodnlelnpidliaaGreat
end

/- A region that draws its order, walked in one order that is told: what reads is taken first, a call waits till it is the only one that can come. Of no program. -/
section
namespace Go.Proofs.YtodnlelnpidliaaGreat
open Go

/-- Number e has come up: it lies ahead of k, and is not the one put off. -/
def doneB (k : Nat) (q : Option (Nat × Option Tmp × List Tmp × List Nat)) (e : Nat) : Bool :=
  decide (e < k) && (match q with
    | some y => !(e == y.1)
    | none => true)
def ordB : List (Option Bool) → Nat → List (Option Tmp × List Tmp × List Nat) → Option (Nat × Option Tmp × List Tmp × List Nat) → Bool
  | [], _, l, q => l.isEmpty && q.isNone
  | some true :: fs, k, l, q =>
    match l with
    | [] => false
    | x :: r => x.2.2.all (doneB k q) && r.all (pairI k x) && (match q with
      | some y => pairI k x y.2
      | none => true) && ordB fs (k + 1) r q
  | some false :: fs, k, l, q =>
    match l, q with
    | x :: r, none => ordB fs (k + 1) r (some (k, x))
    | _, _ => false
  | none :: fs, k, l, q =>
    match q with
    | some y => y.2.2.2.all (doneB k q) && l.all (fun x => x.2.2.any fun e => !doneB k q e) && ordB fs k l none
    | none => false

/-- The walk: 'some true' takes the next one first, 'some false' puts it off, 'none' runs the one put off. -/
def HW (P : Program) (ops : Array Oper) (Q : Exit → Act → World → Prop) (S : World → Prop) : List (Option Bool) → List Oper → Option Oper → Act → World → Prop
  | [], _, _, a, w => Q .normal a w
  | some true :: fs, l, q, a, w =>
    match l with
    | [] => False
    | o :: r => ∃ v, YieldsIf P ops S o v a ∧ HW P ops Q S fs r q (a.put o.dst v) w
  | some false :: fs, l, q, a, w =>
    match l, q with
    | o :: r, none => HW P ops Q S fs r (some o) a w
    | _, _ => False
  | none :: fs, l, q, a, w =>
    match q with
    | some o => ∀ K' : Act → World → Prop, Shut (∀ a w, S w → (S w → HW P ops Q S fs l none a w) → K' a w) → if Region.wanted o (yielded ops a.tmps) = true then Oper.wp P o a w K' Q else K' (a.put o.dst undef) w
    | none => False

section
variable {P : Program} {ops : Array Oper} {Q : Exit → Act → World → Prop} {S : World → Prop}
theorem HW.end_ {l : List Oper} {q : Option Oper} {a : Act} {w : World} (h : Q .normal a w) : HW P ops Q S [] l q a w := h
theorem HW.take {fs : List (Option Bool)} {o : Oper} {r : List Oper} {q : Option Oper} {a : Act} {w : World} (v : Value) (hy : YieldsIf P ops S o v a) (h : HW P ops Q S fs r q (a.put o.dst v) w) : HW P ops Q S (some true :: fs) (o :: r) q a w := ⟨v, hy, h⟩
theorem HW.take' {fs : List (Option Bool)} {o : Oper} {r : List Oper} {q : Option Oper} {a : Act} {w : World} (h : ∃ v, YieldsIf P ops S o v a ∧ HW P ops Q S fs r q (a.put o.dst v) w) : HW P ops Q S (some true :: fs) (o :: r) q a w := h
theorem HW.off {fs : List (Option Bool)} {o : Oper} {r : List Oper} {a : Act} {w : World} (h : HW P ops Q S fs r (some o) a w) : HW P ops Q S (some false :: fs) (o :: r) none a w := h
theorem HW.go {fs : List (Option Bool)} {o : Oper} {l : List Oper} {a : Act} {w : World}
    (h : ∀ K' : Act → World → Prop, Shut (∀ a w, S w → (S w → HW P ops Q S fs l none a w) → K' a w) → if Region.wanted o (yielded ops a.tmps) = true then Oper.wp P o a w K' Q else K' (a.put o.dst undef) w) : HW P ops Q S (none :: fs) l (some o) a w := h

/-- What the check asks of a pair that is still to come: apart, or the later one waits. -/
theorem apart_of {k : Nat} {o oj : Oper} (h : pairI k (infoOf ops o) (infoOf ops oj) = true) (hno : ∀ e ∈ oj.after, Region.binds .any e = true → e.on ≠ k) : o.apart ops oj = true := by
  unfold pairI at h
  rw [Bool.or_eq_true] at h
  rcases h with h | h
  · obtain ⟨e, he, heq⟩ := List.mem_map.1 (List.contains_iff_mem.1 h)
    obtain ⟨he1, he2⟩ := List.mem_filter.1 he
    exact absurd heq (hno e (Array.mem_toList_iff.1 he1) he2)
  · exact h

theorem HW.run (hs : Region.noSelect ops = true) (hQ : ∀ c a d v w, Q (.panic c) (Act.put a d v) w → Q (.panic c) a w) : ∀ (fs : List (Option Bool)) (k : Nat) (l : List Oper) (qi : Option (Nat × Oper)) (listed : Array Bool) (a : Act) (w : World),
    (∀ j, l[j]? = ops[k + j]?) → k + l.length = ops.size → (∀ p, qi = some p → ops[p.1]? = some p.2 ∧ p.1 < k) → listed.size = ops.size →
    (∀ j, j < ops.size → (listed.getD j false = true ↔ doneB k (qi.map fun p => (p.1, infoOf ops p.2)) j = true)) →
    ordB fs k (l.map (infoOf ops)) (qi.map fun p => (p.1, infoOf ops p.2)) = true → S w → HW P ops Q S fs l (qi.map (·.2)) a w →
    wpAnyH P .any ops Q S (l.length + (qi.map fun _ => 1).getD 0) listed a w
  | [], k, l, qi, listed, a, w, hl, hn, hq, hsz, hD, hB, hS, h => by
    unfold ordB at hB
    rw [Bool.and_eq_true] at hB
    obtain rfl : l = [] := by cases l with
      | nil => rfl
      | cons o r => simp at hB
    obtain rfl : qi = none := by cases qi with
      | none => rfl
      | some p => simp at hB
    refine wpAnyH_done ?_ h _
    rw [List.eq_nil_iff_forall_not_mem]
    intro j hj
    obtain ⟨h1, o, ho, _⟩ := mem_ready.1 hj
    have hlt : j < ops.size := (Array.getElem?_eq_some_iff.1 ho).1
    have h2 := (hD j hlt).2 (by unfold doneB; simp at hn ⊢; omega)
    simp [hsz, hlt] at h1 h2
    rw [h1] at h2
    cases h2
  | some true :: fs, k, [], qi, listed, a, w, hl, hn, hq, hsz, hD, hB, hS, h => by unfold ordB at hB; simp at hB
  | some true :: fs, k, o :: r, qi, listed, a, w, hl, hn, hq, hsz, hD, hB, hS, h => by
    have h0 : ops[k]? = some o := by simpa using (hl 0).symm
    have hk : k < ops.size := (Array.getElem?_eq_some_iff.1 h0).1
    simp only [List.map_cons, ordB, Bool.and_eq_true, List.all_eq_true] at hB
    obtain ⟨⟨⟨hd, hp⟩, hpq⟩, hB'⟩ := hB
    obtain ⟨v, hy, hK⟩ := h
    have hnk : ∀ p, qi = some p → p.1 ≠ k := fun p hp => Nat.ne_of_lt (hq p hp).2
    have hun : listed.getD k true = false := by
      have h1 : ¬ listed.getD k false = true := fun e => by
        have := (hD k hk).1 e
        unfold doneB at this
        simp at this
      simp [hsz, hk] at h1 ⊢
      exact h1
    have hr : k ∈ Region.ready .any ops listed := by
      refine mem_ready.2 ⟨hun, o, h0, fun e he hb => ?_⟩
      have hdn := hd e.on (List.mem_map.2 ⟨e, List.mem_filter.2 ⟨Array.mem_toList_iff.2 he, hb⟩, rfl⟩)
      have hek : e.on < k := by unfold doneB at hdn; simp at hdn; exact hdn.1
      exact (hD e.on (by omega)).2 hdn
    have hfree : ∀ j oj, ops[j]? = some oj → j ≠ k → listed.getD j true = false → (∀ e ∈ oj.after, Region.binds .any e = true → e.on ≠ k) → o.apart ops oj = true := by
      intro j oj hoj hne hju hno
      have hj : j < ops.size := (Array.getElem?_eq_some_iff.1 hoj).1
      have hnd : ¬ doneB k (qi.map fun p => (p.1, infoOf ops p.2)) j = true := fun e => by
        have := (hD j hj).2 e
        simp [hsz, hj] at this hju
        rw [this] at hju
        cases hju
      rcases Nat.lt_or_ge j k with g | g
      · cases hqi : qi with
        | none => rw [hqi] at hnd; exact absurd (by unfold doneB; simp [g]) hnd
        | some p =>
          rw [hqi] at hnd hpq
          have hjp : j = p.1 := by
            rcases Nat.decEq j p.1 with h | h
            · exact absurd (by unfold doneB; simp [g, h]) hnd
            · exact h
          have hpo := (hq p hqi).1
          rw [← hjp, hoj] at hpo
          obtain rfl := Option.some.inj hpo
          exact apart_of hpq hno
      · have hlj := hl (j - k)
        rw [show k + (j - k) = j by omega, hoj, show j - k = (j - k - 1) + 1 by omega, List.getElem?_cons_succ] at hlj
        exact apart_of (hp _ (List.mem_map.2 ⟨oj, List.mem_of_getElem? hlj, rfl⟩)) hno
    have ih := HW.run hs hQ fs (k + 1) r qi (listed.setIfInBounds k true) (a.put o.dst v) w (fun j => by
        have := hl (j + 1)
        simpa [Nat.add_assoc, Nat.add_comm 1 j] using this) (by simp at hn; omega) (fun p hp => ⟨(hq p hp).1, Nat.lt_succ_of_lt (hq p hp).2⟩) (by simpa using hsz) (fun j hj => by
        by_cases hjk : k = j
        · subst hjk
          have h1 : (listed.setIfInBounds k true).getD k false = true := by simp [hsz, hk]
          refine ⟨fun _ => ?_, fun _ => h1⟩
          unfold doneB
          cases hqi : qi with
          | none => simp
          | some p => have := hnk p hqi; simp; exact fun e => this e.symm
        · rw [getD_set_ne false hjk, hD j hj]
          unfold doneB
          have : decide (j < k + 1) = decide (j < k) := decide_eq_decide.2 (by omega)
          rw [this]) hB' hS hK
    rw [show (o :: r).length + (qi.map fun _ => 1).getD 0 = (r.length + (qi.map fun _ => 1).getD 0) + 1 by simp; omega]
    exact wpAnyH_first h0 (Region.noSelect_spec hs) (fun c a w => hQ c a _ _ w) _ listed a w hfree hr hy hS ih
  | some false :: fs, k, [], qi, listed, a, w, hl, hn, hq, hsz, hD, hB, hS, h => by unfold ordB at hB; simp at hB
  | some false :: fs, k, o :: r, some p, listed, a, w, hl, hn, hq, hsz, hD, hB, hS, h => by unfold ordB at hB; simp at hB
  | some false :: fs, k, o :: r, none, listed, a, w, hl, hn, hq, hsz, hD, hB, hS, h => by
    have h0 : ops[k]? = some o := by simpa using (hl 0).symm
    have ih := HW.run hs hQ fs (k + 1) r (some (k, o)) listed a w (fun j => by
        have := hl (j + 1)
        simpa [Nat.add_assoc, Nat.add_comm 1 j] using this) (by simp at hn; omega) (fun p hp => by obtain rfl := Option.some.inj hp; exact ⟨h0, Nat.lt_succ_self _⟩) hsz (fun j hj => by
        rw [hD j hj]
        unfold doneB
        simp
        omega) (by unfold ordB at hB; exact hB) hS h
    exact ih
  | none :: fs, k, l, none, listed, a, w, hl, hn, hq, hsz, hD, hB, hS, h => by unfold ordB at hB; simp at hB
  | none :: fs, k, l, some p, listed, a, w, hl, hn, hq, hsz, hD, hB, hS, h => by
    obtain ⟨i, o⟩ := p
    obtain ⟨h0, hik⟩ := hq (i, o) rfl
    have hi : i < ops.size := (Array.getElem?_eq_some_iff.1 h0).1
    simp only [Option.map_some, ordB, Bool.and_eq_true, List.all_eq_true, List.any_eq_true] at hB
    obtain ⟨⟨hd, hw⟩, hB'⟩ := hB
    have hDu : ∀ j, j < ops.size → ¬ doneB k (some (i, infoOf ops o)) j = true → listed.getD j true = false := fun j hj hnd => by
      have h1 : ¬ listed.getD j false = true := fun e => hnd ((hD j hj).1 e)
      simp [hsz, hj] at h1 ⊢
      exact h1
    have hr : i ∈ Region.ready .any ops listed := by
      refine mem_ready.2 ⟨hDu i hi (by unfold doneB; simp), o, h0, fun e he hb => ?_⟩
      have hdn := hd e.on (List.mem_map.2 ⟨e, List.mem_filter.2 ⟨Array.mem_toList_iff.2 he, hb⟩, rfl⟩)
      have hek : e.on < k := by unfold doneB at hdn; simp at hdn; exact hdn.1
      exact (hD e.on (by omega)).2 hdn
    refine ⟨fun hz => (by rw [hz] at hr; cases hr), fun j hj => ?_⟩
    have hji : j = i := by
      obtain ⟨h1, oj, hoj, hall⟩ := mem_ready.1 hj
      have hjs : j < ops.size := (Array.getElem?_eq_some_iff.1 hoj).1
      rcases Nat.decEq j i with hne | he
      case isTrue => exact he
      exfalso
      have hnd : ¬ doneB k (some (i, infoOf ops o)) j = true := fun e => by
        have := (hD j hjs).2 e
        simp [hsz, hjs] at this h1
        rw [this] at h1
        cases h1
      have hjk : k ≤ j := by
        rcases Nat.lt_or_ge j k with g | g
        · exact absurd (by unfold doneB; simp [g, hne]) hnd
        · exact g
      have hlj := hl (j - k)
      rw [show k + (j - k) = j by omega, hoj] at hlj
      obtain ⟨e, he, hen⟩ := hw _ (List.mem_map.2 ⟨oj, List.mem_of_getElem? hlj, rfl⟩)
      obtain ⟨ea, hea, rfl⟩ := List.mem_map.1 he
      obtain ⟨he1, he2⟩ := List.mem_filter.1 hea
      have hls := hall ea (Array.mem_toList_iff.1 he1) he2
      have hlt : ea.on < ops.size := by
        rcases Nat.lt_or_ge ea.on ops.size with g | g
        · exact g
        · rw [← hsz] at g; simp [Array.getElem?_eq_none g] at hls
      have h3 := (hD ea.on hlt).1 hls
      simp only [Option.map_some] at h3
      rw [h3] at hen
      cases hen
    subst hji
    refine wpOp_step h0 (fun K' hK => h K' (fun a' w' hS' hW => hK a' w' ⟨hS', ?_⟩))
    exact HW.run hs hQ fs k l none (listed.setIfInBounds j true) a' w' hl hn (fun p hp => by cases hp) (by simpa using hsz) (fun m hm => by
      by_cases hmj : j = m
      · subst hmj
        have h1 : (listed.setIfInBounds j true).getD j false = true := by simp [hsz, hi]
        exact ⟨fun _ => by unfold doneB; simp [hik], fun _ => h1⟩
      · rw [getD_set_ne false hmj, hD m hm]
        unfold doneB
        have : ¬ m = j := fun e => hmj e.symm
        simp [this]) hB' hS' (hW hS')

/-- THE LAW: one order that is told serves every order. -/
theorem region_told {id : Nat} {a : Act} {w : World} {l : List Oper} (fs : List (Option Bool)) (S : World → Prop) (hm : P.follows .mixedOrders = true) (hs : Region.noSelect l.toArray = true)
    (hB : ordB fs 0 (l.map (infoOf l.toArray)) none = true) (hS : S w.drew) (h : HW P l.toArray (NoPanic Q) S fs l none a w.drew) : (Code.region id l.toArray true).wp P Q a w := by
  refine wp_region_noPanic (wp_region_held (S := S) hm ?_)
  have := HW.run hs (fun c a d v w h => h) fs 0 l none (Array.replicate l.toArray.size false) a w.drew (by simp) (by simp) (fun p hp => by cases hp) (by simp) (fun j hj => by unfold doneB; simp at hj ⊢; simp [hj]) hB hS h
  simpa using this
end
end Go.Proofs.YtodnlelnpidliaaGreat
end

/- A region that draws its order, walked by a plan: what reads is taken first; up to two operations are put off; where two can come, both orders are walked. Of no program. -/
section
namespace Go.Proofs.YtodnlelnpidliaaGreat
open Go
set_option linter.unusedVariables false

/-- A plan: take the next one, put it off, run the one put off, run the two put off in either order. -/
inductive Pl where
  | fin
  | take (p : Pl)
  | off (p : Pl)
  | go1 (p : Pl)
  | go2 (p q : Pl)
abbrev Inf := Option Tmp × List Tmp × List Nat
def doneP (k : Nat) (qs : List (Nat × Inf)) (e : Nat) : Bool := decide (e < k) && qs.all fun y => !(e == y.1)
def ordP : Pl → Nat → List Inf → List (Nat × Inf) → Bool
  | .fin, _, l, qs => l.isEmpty && qs.isEmpty
  | .take p, k, l, qs =>
    match l with
    | [] => false
    | x :: r => x.2.2.all (doneP k qs) && r.all (pairI k x) && qs.all (fun y => pairI k x y.2) && ordP p (k + 1) r qs
  | .off p, k, l, qs =>
    match l with
    | [] => false
    | x :: r => ordP p (k + 1) r (qs ++ [(k, x)])
  | .go1 p, k, l, qs =>
    match qs with
    | [y] => y.2.2.2.all (doneP k qs) && l.all (fun x => x.2.2.any fun e => !doneP k qs e) && ordP p k l []
    | _ => false
  | .go2 p q, k, l, qs =>
    match qs with
    | [y, z] => y.2.2.2.all (doneP k qs) && z.2.2.2.all (doneP k qs) && !(y.1 == z.1) && l.all (fun x => x.2.2.any fun e => !doneP k qs e) && ordP p k l [z] && ordP q k l [y]
    | _ => false
def HP (P : Program) (ops : Array Oper) (Q : Exit → Act → World → Prop) (S : World → Prop) : Pl → List Oper → List Oper → Act → World → Prop
  | .fin, _, _, a, w => Q .normal a w
  | .take p, l, qs, a, w =>
    match l with
    | [] => False
    | o :: r => ∃ v, YieldsIf P ops S o v a ∧ HP P ops Q S p r qs (a.put o.dst v) w
  | .off p, l, qs, a, w =>
    match l with
    | [] => False
    | o :: r => HP P ops Q S p r (qs ++ [o]) a w
  | .go1 p, l, qs, a, w =>
    match qs with
    | [o] => ∀ K' : Act → World → Prop, Shut (∀ a w, S w → (S w → HP P ops Q S p l [] a w) → K' a w) → if Region.wanted o (yielded ops a.tmps) = true then Oper.wp P o a w K' Q else K' (a.put o.dst undef) w
    | _ => False
  | .go2 p q, l, qs, a, w =>
    match qs with
    | [o, o'] => (∀ K' : Act → World → Prop, Shut (∀ a w, S w → (S w → HP P ops Q S p l [o'] a w) → K' a w) → if Region.wanted o (yielded ops a.tmps) = true then Oper.wp P o a w K' Q else K' (a.put o.dst undef) w) ∧
        ∀ K' : Act → World → Prop, Shut (∀ a w, S w → (S w → HP P ops Q S q l [o] a w) → K' a w) → if Region.wanted o' (yielded ops a.tmps) = true then Oper.wp P o' a w K' Q else K' (a.put o'.dst undef) w
    | _ => False

section
variable {P : Program} {ops : Array Oper} {Q : Exit → Act → World → Prop} {S : World → Prop}
theorem HP.end_ {l qs : List Oper} {a : Act} {w : World} (h : Q .normal a w) : HP P ops Q S .fin l qs a w := h
theorem HP.take' {p : Pl} {o : Oper} {r qs : List Oper} {a : Act} {w : World} (h : ∃ v, YieldsIf P ops S o v a ∧ HP P ops Q S p r qs (a.put o.dst v) w) : HP P ops Q S (.take p) (o :: r) qs a w := h
theorem HP.off {p : Pl} {o : Oper} {r qs : List Oper} {a : Act} {w : World} (h : HP P ops Q S p r (qs ++ [o]) a w) : HP P ops Q S (.off p) (o :: r) qs a w := h
theorem HP.go1 {p : Pl} {o : Oper} {l : List Oper} {a : Act} {w : World}
    (h : ∀ K' : Act → World → Prop, Shut (∀ a w, S w → (S w → HP P ops Q S p l [] a w) → K' a w) → if Region.wanted o (yielded ops a.tmps) = true then Oper.wp P o a w K' Q else K' (a.put o.dst undef) w) : HP P ops Q S (.go1 p) l [o] a w := h
theorem HP.go2 {p q : Pl} {o o' : Oper} {l : List Oper} {a : Act} {w : World}
    (h : ∀ K' : Act → World → Prop, Shut (∀ a w, S w → (S w → HP P ops Q S p l [o'] a w) → K' a w) → if Region.wanted o (yielded ops a.tmps) = true then Oper.wp P o a w K' Q else K' (a.put o.dst undef) w)
    (h' : ∀ K' : Act → World → Prop, Shut (∀ a w, S w → (S w → HP P ops Q S q l [o] a w) → K' a w) → if Region.wanted o' (yielded ops a.tmps) = true then Oper.wp P o' a w K' Q else K' (a.put o'.dst undef) w) : HP P ops Q S (.go2 p q) l [o, o'] a w := ⟨h, h'⟩

def infs (ops : Array Oper) (qs : List (Nat × Oper)) : List (Nat × Inf) := qs.map fun p => (p.1, infoOf ops p.2)
theorem doneP_iff {k : Nat} {qs : List (Nat × Oper)} {e : Nat} : doneP k (infs ops qs) e = true ↔ e < k ∧ ∀ p ∈ qs, e ≠ p.1 := by
  unfold doneP infs
  simp
/-- What holds of the walk: what lies ahead of k has come, but for those put off. -/
structure HI (ops : Array Oper) (k : Nat) (l : List Oper) (qs : List (Nat × Oper)) (listed : Array Bool) : Prop where
  rest : ∀ j, l[j]? = ops[k + j]?
  len : k + l.length = ops.size
  put : ∀ p ∈ qs, ops[p.1]? = some p.2 ∧ p.1 < k
  size : listed.size = ops.size
  come : ∀ j, j < ops.size → (listed.getD j false = true ↔ doneP k (infs ops qs) j = true)
theorem HI.un {k : Nat} {l : List Oper} {qs : List (Nat × Oper)} {listed : Array Bool} (h : HI ops k l qs listed) {j : Nat} (hj : j < ops.size) (hd : ¬ doneP k (infs ops qs) j = true) : listed.getD j true = false := by
  have h1 : ¬ listed.getD j false = true := fun e => hd ((h.come j hj).1 e)
  have := h.size
  simp [this, hj] at h1 ⊢
  exact h1
theorem HI.deps {k : Nat} {l : List Oper} {qs : List (Nat × Oper)} {listed : Array Bool} (h : HI ops k l qs listed) (hk : k ≤ ops.size) {o : Oper} (hd : (infoOf ops o).2.2.all (doneP k (infs ops qs)) = true) : ∀ e ∈ o.after, Region.binds .any e = true → listed.getD e.on false = true := by
  intro e he hb
  have hdn := List.all_eq_true.1 hd e.on (List.mem_map.2 ⟨e, List.mem_filter.2 ⟨Array.mem_toList_iff.2 he, hb⟩, rfl⟩)
  have hek := (doneP_iff.1 hdn).1
  exact (h.come e.on (by omega)).2 hdn
/-- Nothing of what lies behind can come while it waits for one that has not. -/
theorem HI.waits {k : Nat} {l : List Oper} {qs : List (Nat × Oper)} {listed : Array Bool} (h : HI ops k l qs listed) (hw : (l.map (infoOf ops)).all (fun x => x.2.2.any fun e => !doneP k (infs ops qs) e) = true) :
    ∀ j ∈ Region.ready .any ops listed, ∃ p ∈ qs, j = p.1 := by
  intro j hj
  obtain ⟨h1, oj, hoj, hall⟩ := mem_ready.1 hj
  have hjs : j < ops.size := (Array.getElem?_eq_some_iff.1 hoj).1
  have hnd : ¬ doneP k (infs ops qs) j = true := fun e => by
    have := (h.come j hjs).2 e
    have hsz := h.size
    simp [hsz, hjs] at this h1
    rw [h1] at this
    cases this
  rcases Nat.lt_or_ge j k with g | g
  · refine Classical.byContradiction fun hne => hnd (doneP_iff.2 ⟨g, fun p hp e => hne ⟨p, hp, e⟩⟩)
  · exfalso
    have hlj := h.rest (j - k)
    rw [show k + (j - k) = j by omega, hoj] at hlj
    have hx := List.all_eq_true.1 hw _ (List.mem_map.2 ⟨oj, List.mem_of_getElem? hlj, rfl⟩)
    obtain ⟨e, he, hen⟩ := List.any_eq_true.1 hx
    obtain ⟨ea, hea, rfl⟩ := List.mem_map.1 he
    obtain ⟨he1, he2⟩ := List.mem_filter.1 hea
    have hls := hall ea (Array.mem_toList_iff.1 he1) he2
    have hlt : ea.on < ops.size := by
      rcases Nat.lt_or_ge ea.on ops.size with g | g
      · exact g
      · have hsz := h.size
        rw [← hsz] at g; simp [Array.getElem?_eq_none g] at hls
    have h3 := (h.come ea.on hlt).1 hls
    rw [h3] at hen
    cases hen
theorem HI.set {k k' : Nat} {l l' : List Oper} {qs qs' : List (Nat × Oper)} {listed : Array Bool} (h : HI ops k l qs listed) {i : Nat} (hi : i < ops.size) (hr : ∀ j, l'[j]? = ops[k' + j]?) (hlen : k' + l'.length = ops.size) (hput : ∀ p ∈ qs', ops[p.1]? = some p.2 ∧ p.1 < k')
    (hd : ∀ j, doneP k' (infs ops qs') j = true ↔ (j = i ∨ doneP k (infs ops qs) j = true)) : HI ops k' l' qs' (listed.setIfInBounds i true) := by
  refine ⟨hr, hlen, hput, by simpa using h.size, fun j hj => ?_⟩
  rw [hd]
  by_cases q : i = j
  · subst q
    have h1 : (listed.setIfInBounds i true).getD i false = true := by simp [h.size, hi]
    exact ⟨fun _ => .inl rfl, fun _ => h1⟩
  · rw [getD_set_ne false q, h.come j hj]
    exact ⟨fun x => .inr x, fun x => x.resolve_left fun e => q e.symm⟩
theorem HP.run (hs : Region.noSelect ops = true) (hQ : ∀ c a d v w, Q (.panic c) (Act.put a d v) w → Q (.panic c) a w) : ∀ (p : Pl) (k : Nat) (l : List Oper) (qs : List (Nat × Oper)) (listed : Array Bool) (a : Act) (w : World),
    HI ops k l qs listed → ordP p k (l.map (infoOf ops)) (infs ops qs) = true → S w → HP P ops Q S p l (qs.map (·.2)) a w → wpAnyH P .any ops Q S (l.length + qs.length) listed a w
  | .fin, k, l, qs, listed, a, w, hI, hB, hS, h => by
    simp only [ordP, Bool.and_eq_true, List.isEmpty_iff, List.map_eq_nil_iff, infs] at hB
    obtain ⟨rfl, rfl⟩ := hB
    refine wpAnyH_done ?_ h _
    rw [List.eq_nil_iff_forall_not_mem]
    intro j hj
    obtain ⟨q, hq, _⟩ := hI.waits (by simp) j hj
    simp at hq
  | .take p, k, [], qs, listed, a, w, hI, hB, hS, h => by simp [ordP] at hB
  | .take p, k, o :: r, qs, listed, a, w, hI, hB, hS, h => by
    have h0 : ops[k]? = some o := by simpa using (hI.rest 0).symm
    have hk : k < ops.size := (Array.getElem?_eq_some_iff.1 h0).1
    simp only [List.map_cons, ordP, Bool.and_eq_true] at hB
    obtain ⟨⟨⟨hd, hp⟩, hpq⟩, hB'⟩ := hB
    obtain ⟨v, hy, hK⟩ := h
    have hnk : ∀ q ∈ qs, q.1 ≠ k := fun q hq => Nat.ne_of_lt (hI.put q hq).2
    have hkd : ¬ doneP k (infs ops qs) k = true := fun e => by have := (doneP_iff.1 e).1; omega
    have hun := hI.un hk hkd
    have hr : k ∈ Region.ready .any ops listed := mem_ready.2 ⟨hun, o, h0, hI.deps (by omega) hd⟩
    have hfree : ∀ j oj, ops[j]? = some oj → j ≠ k → listed.getD j true = false → (∀ e ∈ oj.after, Region.binds .any e = true → e.on ≠ k) → o.apart ops oj = true := by
      intro j oj hoj hne hju hno
      have hj : j < ops.size := (Array.getElem?_eq_some_iff.1 hoj).1
      have hsz := hI.size
      have hnd : ¬ doneP k (infs ops qs) j = true := fun e => by
        have := (hI.come j hj).2 e
        simp [hsz, hj] at this hju
        rw [this] at hju
        cases hju
      rcases Nat.lt_or_ge j k with g | g
      · obtain ⟨q, hq, e⟩ : ∃ q ∈ qs, j = q.1 := Classical.byContradiction fun hx => hnd (doneP_iff.2 ⟨g, fun q hq e => hx ⟨q, hq, e⟩⟩)
        have hqo := (hI.put q hq).1
        rw [← e, hoj] at hqo
        have e2 := Option.some.inj hqo
        have := List.all_eq_true.1 hpq (q.1, infoOf ops q.2) (List.mem_map.2 ⟨q, hq, rfl⟩)
        rw [← e2] at this
        exact apart_of this hno
      · have hlj := hI.rest (j - k)
        rw [show k + (j - k) = j by omega, hoj, show j - k = (j - k - 1) + 1 by omega, List.getElem?_cons_succ] at hlj
        exact apart_of (List.all_eq_true.1 hp _ (List.mem_map.2 ⟨oj, List.mem_of_getElem? hlj, rfl⟩)) hno
    have hlen := hI.len
    have hI' : HI ops (k + 1) r qs (listed.setIfInBounds k true) := hI.set hk (fun j => by
        have := hI.rest (j + 1)
        simpa [Nat.add_assoc, Nat.add_comm 1 j] using this) (by simp at hlen; omega) (fun q hq => ⟨(hI.put q hq).1, Nat.lt_succ_of_lt (hI.put q hq).2⟩) (fun j => by
        rw [doneP_iff, doneP_iff]
        constructor
        · rintro ⟨h1, h2⟩
          by_cases q : j = k
          · exact .inl q
          · exact .inr ⟨by omega, h2⟩
        · rintro (rfl | ⟨h1, h2⟩)
          · exact ⟨by omega, fun q hq e => hnk q hq e.symm⟩
          · exact ⟨by omega, h2⟩)
    have ih := HP.run hs hQ p (k + 1) r qs (listed.setIfInBounds k true) (a.put o.dst v) w hI' hB' hS hK
    rw [show (o :: r).length + qs.length = (r.length + qs.length) + 1 by simp; omega]
    exact wpAnyH_first h0 (Region.noSelect_spec hs) (fun c a w => hQ c a _ _ w) _ listed a w hfree hr hy hS ih
  | .off p, k, [], qs, listed, a, w, hI, hB, hS, h => by simp [ordP] at hB
  | .off p, k, o :: r, qs, listed, a, w, hI, hB, hS, h => by
    have h0 : ops[k]? = some o := by simpa using (hI.rest 0).symm
    have hlen := hI.len
    have hI' : HI ops (k + 1) r (qs ++ [(k, o)]) listed := ⟨fun j => by
        have := hI.rest (j + 1)
        simpa [Nat.add_assoc, Nat.add_comm 1 j] using this, by simp at hlen; omega, fun q hq => by
        rcases List.mem_append.1 hq with hq | hq
        · exact ⟨(hI.put q hq).1, Nat.lt_succ_of_lt (hI.put q hq).2⟩
        · simp at hq; subst hq; exact ⟨h0, Nat.lt_succ_self _⟩, hI.size, fun j hj => by
        rw [hI.come j hj, doneP_iff, doneP_iff]
        constructor
        · rintro ⟨h1, h2⟩
          refine ⟨by omega, fun q hq => ?_⟩
          rcases List.mem_append.1 hq with hq | hq
          · exact h2 q hq
          · simp at hq; subst hq; show j ≠ k; omega
        · rintro ⟨h1, h2⟩
          have h3 := h2 (k, o) (by simp)
          exact ⟨by simp only at h3; omega, fun q hq => h2 q (List.mem_append_left _ hq)⟩⟩
    have hB' : ordP p (k + 1) (r.map (infoOf ops)) (infs ops (qs ++ [(k, o)])) = true := by
      simp only [List.map_cons, ordP] at hB
      simpa [infs] using hB
    have ih := HP.run hs hQ p (k + 1) r (qs ++ [(k, o)]) listed a w hI' hB' hS (by simpa [HP] using h)
    rw [show (o :: r).length + qs.length = r.length + (qs ++ [(k, o)]).length by simp; omega]
    exact ih
  | .go1 p, k, l, [], listed, a, w, hI, hB, hS, h => by simp [ordP, infs] at hB
  | .go1 p, k, l, [(i, o)], listed, a, w, hI, hB, hS, h => by
    obtain ⟨h0, hik⟩ := hI.put (i, o) (by simp)
    simp only at h0 hik
    have hi : i < ops.size := (Array.getElem?_eq_some_iff.1 h0).1
    simp only [ordP, infs, List.map_cons, List.map_nil, Bool.and_eq_true] at hB
    obtain ⟨⟨hd, hw⟩, hB'⟩ := hB
    have hkl := hI.len
    have hr : i ∈ Region.ready .any ops listed := mem_ready.2 ⟨hI.un hi fun e => by have := (doneP_iff.1 e).2 (i, o) (by simp); exact this rfl, o, h0, hI.deps (by omega) hd⟩
    refine ⟨fun hz => (by rw [hz] at hr; cases hr), fun j hj => ?_⟩
    obtain ⟨q, hq, hji⟩ := hI.waits hw j hj
    simp at hq
    subst hq
    simp only at hji
    subst hji
    refine wpOp_step h0 (fun K' hK => h K' (fun a' w' hS' hW => hK a' w' ⟨hS', ?_⟩))
    have hI' : HI ops k l [] (listed.setIfInBounds j true) := hI.set hi hI.rest hI.len (by simp) (fun m => by
      rw [doneP_iff, doneP_iff]
      constructor
      · rintro ⟨h1, _⟩
        by_cases q : m = j
        · exact .inl q
        · exact .inr ⟨h1, fun p hp => by simp at hp; subst hp; exact q⟩
      · rintro (rfl | ⟨h1, _⟩)
        · exact ⟨hik, by simp⟩
        · exact ⟨h1, by simp⟩)
    exact HP.run hs hQ p k l [] _ a' w' hI' hB' hS' (hW hS')
  | .go1 p, k, l, _ :: _ :: _, listed, a, w, hI, hB, hS, h => by simp [ordP, infs] at hB
  | .go2 p q, k, l, [], listed, a, w, hI, hB, hS, h => by simp [ordP, infs] at hB
  | .go2 p q, k, l, [_], listed, a, w, hI, hB, hS, h => by simp [ordP, infs] at hB
  | .go2 p q, k, l, [(i, o), (i', o')], listed, a, w, hI, hB, hS, h => by
    obtain ⟨h0, hik⟩ := hI.put (i, o) (by simp)
    obtain ⟨h0', hik'⟩ := hI.put (i', o') (by simp)
    simp only at h0 hik h0' hik'
    have hi : i < ops.size := (Array.getElem?_eq_some_iff.1 h0).1
    have hi' : i' < ops.size := (Array.getElem?_eq_some_iff.1 h0').1
    simp only [ordP, infs, List.map_cons, List.map_nil, Bool.and_eq_true] at hB
    obtain ⟨⟨⟨⟨⟨hd, hd'⟩, hne⟩, hw⟩, hB1⟩, hB2⟩ := hB
    have hne' : i ≠ i' := by simpa using hne
    have hkl := hI.len
    have hr : i ∈ Region.ready .any ops listed := mem_ready.2 ⟨hI.un hi fun e => by have := (doneP_iff.1 e).2 (i, o) (by simp); exact this rfl, o, h0, hI.deps (by omega) hd⟩
    refine ⟨fun hz => (by rw [hz] at hr; cases hr), fun j hj => ?_⟩
    obtain ⟨x, hx, hji⟩ := hI.waits hw j hj
    simp at hx
    rcases hx with rfl | rfl
    · simp only at hji
      subst hji
      refine wpOp_step h0 (fun K' hK => h.1 K' (fun a' w' hS' hW => hK a' w' ⟨hS', ?_⟩))
      have hI' : HI ops k l [(i', o')] (listed.setIfInBounds j true) := hI.set hi hI.rest hI.len (fun p hp => hI.put p (by simp at hp; simp [hp])) (fun m => by
        rw [doneP_iff, doneP_iff]
        constructor
        · rintro ⟨h1, h2⟩
          by_cases q : m = j
          · exact .inl q
          · exact .inr ⟨h1, fun p hp => by
              simp at hp
              rcases hp with rfl | rfl
              · exact q
              · exact h2 _ (by simp)⟩
        · rintro (rfl | ⟨h1, h2⟩)
          · exact ⟨hik, fun p hp => by simp at hp; subst hp; exact hne'⟩
          · exact ⟨h1, fun p hp => h2 p (by simp at hp; simp [hp])⟩)
      have ih := HP.run hs hQ p k l [(i', o')] _ a' w' hI' hB1 hS' (hW hS')
      exact ih
    · simp only at hji
      subst hji
      refine wpOp_step h0' (fun K' hK => h.2 K' (fun a' w' hS' hW => hK a' w' ⟨hS', ?_⟩))
      have hI' : HI ops k l [(i, o)] (listed.setIfInBounds j true) := hI.set hi' hI.rest hI.len (fun p hp => hI.put p (by simp at hp; simp [hp])) (fun m => by
        rw [doneP_iff, doneP_iff]
        constructor
        · rintro ⟨h1, h2⟩
          by_cases q : m = j
          · exact .inl q
          · exact .inr ⟨h1, fun p hp => by
              simp at hp
              rcases hp with rfl | rfl
              · exact h2 _ (by simp)
              · exact q⟩
        · rintro (rfl | ⟨h1, h2⟩)
          · exact ⟨hik', fun p hp => by simp at hp; subst hp; exact fun e => hne' e.symm⟩
          · exact ⟨h1, fun p hp => h2 p (by simp at hp; simp [hp])⟩)
      have ih := HP.run hs hQ q k l [(i, o)] _ a' w' hI' hB2 hS' (hW hS')
      exact ih
  | .go2 p q, k, l, _ :: _ :: _ :: _, listed, a, w, hI, hB, hS, h => by simp [ordP, infs] at hB
/-- THE LAW: a plan that is told serves every order. -/
theorem region_plan {id : Nat} {a : Act} {w : World} {l : List Oper} (p : Pl) (S : World → Prop) (hm : P.follows .mixedOrders = true) (hs : Region.noSelect l.toArray = true)
    (hB : ordP p 0 (l.map (infoOf l.toArray)) [] = true) (hS : S w.drew) (h : HP P l.toArray (NoPanic Q) S p l [] a w.drew) : (Code.region id l.toArray true).wp P Q a w := by
  refine wp_region_noPanic (wp_region_held (S := S) hm ?_)
  have := HP.run hs (fun c a d v w h => h) p 0 l [] (Array.replicate l.toArray.size false) a w.drew ⟨by simp, by simp, by simp, by simp, fun j hj => by rw [doneP_iff]; simp at hj ⊢; simp [hj]⟩ hB hS h
  simpa using this
end
end Go.Proofs.YtodnlelnpidliaaGreat
end
