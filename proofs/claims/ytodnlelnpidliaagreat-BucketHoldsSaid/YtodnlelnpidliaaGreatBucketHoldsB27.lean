/- Texts merged: PoR, PoRE, PoG, PoL, PoS, BeA, QvT, QvU, BeB, BeF, BeH -/
import Derived.Test.YtodnlelnpidliaaGreatBucketHoldsB26
import Derived.WalkKit
import Derived.ProofKit
import Derived.OpenShut
import Derived.ShutString
import Derived.ChangeOld
import Derived.Below
import Derived.Deep.Slices
import Derived.Deep.Fields
import Derived.ChangeSame
import Derived.Lib.SmallJoins

/- The document's own pool. -/
section
namespace Go.Proofs.YtodnlelnpidliaaGreat
open Go.RowKit
set_option linter.unusedVariables false

/-- The document's own pool in memory: a row of truths. -/
structure Rp (W : World) (o g : Nat) (L : List Bool) : Prop where
  p0 : W.cell? ⟨o, 0, none⟩ = some (.slice (some ⟨g, 0, none⟩) L.length L.length)
  cs : ∀ i, i < L.length → W.cell? ⟨g, i, none⟩ = some (.bool (L.getD i false)) ∧ W.frozen? ⟨g, i, none⟩ = false
  ol : o < W.heap.size
  gl : g < W.heap.size
  og : g ≠ o
  sz : L.length ≤ 128
theorem Rp.tch {S : Nat → Prop} {W W' : World} {o g : Nat} {L : List Bool} (h : Rp W o g L) (k : Tch S W W') (ho : ¬ S o) (hg : ¬ S g) : Rp W' o g L :=
  ⟨(k.cell h.ol ho).trans h.p0, fun i hi => ⟨(k.cell h.gl hg).trans (h.cs i hi).1, (k.froz h.gl hg).trans (h.cs i hi).2⟩, Nat.lt_of_lt_of_le h.ol k.size, Nat.lt_of_lt_of_le h.gl k.size, h.og, h.sz⟩
theorem Rp.nw {W W' : World} {o g : Nat} {L : List Bool} (h : Rp W o g L) (k : Nw W W') : Rp W' o g L := h.tch (Tch.nw (S := fun _ => False) k) (fun e => e) (fun e => e)
def RpTo (W : World) (o g : Nat) (L : List Bool) (W' : World) : Prop := Rp W' o g L ∧ Tch (fun k => k = g) W W'
theorem Rp.keep {W : World} {o g : Nat} {L : List Bool} (h : Rp W o g L) : RpTo W o g L W := ⟨h, Tch.refl _ W⟩
theorem Rp.put {W : World} {o g : Nat} {L : List Bool} (h : Rp W o g L) {i : Nat} (b : Bool) (hi : i < L.length) : RpTo W o g (L.set i b) (W.setCell ⟨g, i, none⟩ (.bool b)) := by
  have t := setCell_at W ⟨g, i, none⟩ (.bool b)
  refine ⟨⟨by rw [List.length_set]; exact (t.cell h.ol (fun e => h.og e.symm)).trans h.p0, fun j hj => ?_, by simpa using h.ol, by simpa using h.gl, h.og, by rw [List.length_set]; exact h.sz⟩, t⟩
  rw [List.length_set] at hj
  refine ⟨?_, by rw [World.frozen?_setCell]; exact (h.cs j hj).2⟩
  by_cases q : i = j
  · subst q
    rw [getD_at (by simpa using hj), List.getElem_set_self]
    exact World.cell?_setCell_same _ _ _ (h.cs _ hj).1
  · rw [getD_at (by simpa using hj), List.getElem_set_ne q, ← getD_at hj]
    exact (World.cell?_setCell_other _ _ _ _ (fun r => q (congrArg Addr.off r))).trans (h.cs j hj).1

end Go.Proofs.YtodnlelnpidliaaGreat
end

/- The document's own pool: Each, Live. -/
section
namespace Go.Proofs.YtodnlelnpidliaaGreat
open Go.RowKit
set_option linter.unusedVariables false

end Go.Proofs.YtodnlelnpidliaaGreat
end

/- A pool: Each and its iterator. -/
section
namespace Go.Proofs.YtodnlelnpidliaaGreat
open Go.RowKit Go.Shelf
set_option linter.unusedVariables false
attribute [local go_sem] Oper.semAt_some

/-- A value that reads as a row of truths of the call's own. -/
abbrev BS (w : World) (v : Value) (L : List Bool) : Prop := w.ownsRow 0 4 1 v L.length (L.map Value.bool)
theorem BS.form {w : World} {v : Value} {l : List Bool} (h : BS w v l) : (v = .slice none 0 0 ∧ l = []) ∨ ∃ g cap, v = .slice (some ⟨g, 0, none⟩) l.length cap := by
  rcases h.2 with ⟨rfl, h0⟩ | ⟨g, cap, cur, rfl, _⟩
  · exact .inl ⟨rfl, List.length_eq_zero_iff.1 h0⟩
  · exact .inr ⟨g, cap, rfl⟩
theorem BS.cell {w : World} {g cap : Nat} {l : List Bool} (h : BS w (.slice (some ⟨g, 0, none⟩) l.length cap) l) (i : Nat) (hi : i < l.length) : w.cell? ⟨g, i, none⟩ = some (.bool (l.getD i false)) :=
  (World.ownsRow.cellAt h i (by omega)).trans (by simp [List.getD, hi])
end Go.Proofs.YtodnlelnpidliaaGreat
end

/- What the law's own loop over Each collects; lives. -/
section
namespace Go.Proofs.YtodnlelnpidliaaGreat
open Go.RowKit Go.Shelf
set_option linter.unusedVariables false
attribute [local go_sem] Oper.semAt_some

theorem tch_put {S : Nat → Prop} {A : World} {D : Nat} (o : Obj) (h : S D) : Tch S A (A.putObj D o) := ⟨rfl, rfl, rfl, by simp, fun k _ hk => World.putObj_heap_other (fun e => hk (e ▸ h))⟩

/-- The answer of the law's own lent. -/
def LentP (w : World) (l : List Int) (e : Ending) (W : World) : Prop := ∃ v, e = .returned (.tuple #[v, .bool true]) ∧ IS W v l ∧ (∀ k, v.ownBlock = some k → w.heap.size ≤ k) ∧ Nw w W
/-- Between two rounds: s is the size of the heap at the law's start. -/
structure LnI (w : World) (S : Nat → Prop) (pre : List Int) (A : World) (v : Value) : Prop where
  nw : Nw w A
  is : IS A v pre
  own : ∀ k, v.ownBlock = some k → w.heap.size + 6 ≤ k ∧ ¬ S k
  out : A.cell? ⟨w.heap.size + 3, 0, none⟩ = some v ∧ A.frozen? ⟨w.heap.size + 3, 0, none⟩ = false
  r1 : A.cell? ⟨w.heap.size, 0, none⟩ = some (.slice none 0 0) ∧ A.frozen? ⟨w.heap.size, 0, none⟩ = false
  r2 : A.cell? ⟨w.heap.size + 1, 0, none⟩ = some (.bool false) ∧ A.frozen? ⟨w.heap.size + 1, 0, none⟩ = false
  sb : ∀ k, S k → w.heap.size + 4 ≤ k ∧ k < A.heap.size
theorem LnI.tch {w A B : World} {S T : Nat → Prop} {pre : List Int} {v : Value} (h : LnI w S pre A v) (k : Tch T A B) (hT : ∀ i, T i → w.heap.size + 4 ≤ i ∧ v.ownBlock ≠ some i) : LnI w S pre B v := by
  have hlt : w.heap.size + 3 < A.heap.size := World.block_lt_of_cell? _ _ h.out.1
  have n3 : ¬ T (w.heap.size + 3) := fun e => by have := (hT _ e).1; omega
  have n1 : ¬ T (w.heap.size + 1) := fun e => by have := (hT _ e).1; omega
  have n0 : ¬ T w.heap.size := fun e => by have := (hT _ e).1; omega
  exact ⟨nw_tch h.nw k (fun i e => by have := (hT _ e).1; omega), h.is.tch k (fun g e q => (hT _ q).2 e), h.own, ⟨(k.cell hlt n3).trans h.out.1, (k.froz hlt n3).trans h.out.2⟩,
    ⟨(k.cell (by omega) n0).trans h.r1.1, (k.froz (by omega) n0).trans h.r1.2⟩, ⟨(k.cell (by omega) n1).trans h.r2.1, (k.froz (by omega) n1).trans h.r2.2⟩, fun i e => ⟨(h.sb i e).1, Nat.lt_of_lt_of_le (h.sb i e).2 k.size⟩⟩
theorem LnI.push {w A w1 : World} {S : Nat → Prop} {pre : List Int} {v : Value} {x : Int} {g cap : Nat} (h : LnI w S pre A v) (hA : w.heap.size + 6 ≤ A.heap.size) (q1 : IS w1 (.slice (some ⟨g, 0, none⟩) (pre.length + 1) cap) (pre ++ [x])) (q2 : Tch (fun k => v.ownBlock = some k) A w1)
    (q3 : ∀ k, (Value.slice (some ⟨g, 0, none⟩) (pre.length + 1) cap).ownBlock = some k → v.ownBlock = some k ∨ A.heap.size ≤ k) :
    LnI w S (pre ++ [x]) (w1.setCell ⟨w.heap.size + 3, 0, none⟩ (.slice (some ⟨g, 0, none⟩) (pre.length + 1) cap)) (.slice (some ⟨g, 0, none⟩) (pre.length + 1) cap) ∧
    KpI S A (w1.setCell ⟨w.heap.size + 3, 0, none⟩ (.slice (some ⟨g, 0, none⟩) (pre.length + 1) cap)) ∧
    (∀ k, (k = w.heap.size + 4 ∨ k = w.heap.size + 5) → (w1.setCell ⟨w.heap.size + 3, 0, none⟩ (.slice (some ⟨g, 0, none⟩) (pre.length + 1) cap)).heap[k]? = A.heap[k]?) ∧
    w1.cell? ⟨w.heap.size + 3, 0, none⟩ = some v ∧ w1.frozen? ⟨w.heap.size + 3, 0, none⟩ = false := by
  have hg := q3 g rfl
  have hgo : w.heap.size + 6 ≤ g ∧ ¬ S g := by
    rcases hg with e | e
    · exact h.own g e
    · exact ⟨by omega, fun q => by have := (h.sb g q).2; omega⟩
  have no : ∀ i, i < w.heap.size + 6 → ¬ (v.ownBlock = some i) := fun i hi e => by have := (h.own i e).1; omega
  have t2 := setCell_at w1 ⟨w.heap.size + 3, 0, none⟩ (.slice (some ⟨g, 0, none⟩) (pre.length + 1) cap)
  have c3 := (q2.cell (o := 0) (show w.heap.size + 3 < A.heap.size by omega) (no _ (by omega))).trans h.out.1
  have f3 := (q2.froz (o := 0) (show w.heap.size + 3 < A.heap.size by omega) (no _ (by omega))).trans h.out.2
  have sz := q2.size
  have c : ∀ b, b < w.heap.size + 6 → b ≠ w.heap.size + 3 → (w1.setCell ⟨w.heap.size + 3, 0, none⟩ (.slice (some ⟨g, 0, none⟩) (pre.length + 1) cap)).heap[b]? = A.heap[b]? := fun b hb hn =>
    (t2.block b (by omega) hn).trans (q2.block b (by omega) (no _ hb))
  refine ⟨⟨nw_tch (nw_tch h.nw q2 (fun i e => by have := (h.own i e).1; omega)) t2 (fun i e => by simp at e; omega), q1.tch t2 (fun b e => by simp [Value.ownBlock] at e; subst e; simp; omega), fun k e => by simp [Value.ownBlock] at e; subst e; exact hgo, ⟨World.cell?_setCell_same _ _ _ c3, by rw [World.frozen?_setCell]; exact f3⟩, ?_, ?_, fun i e => ⟨(h.sb i e).1, by have := (h.sb i e).2; simp; omega⟩⟩, ⟨by simp; omega, fun k e => ?_⟩, fun k e => ?_, c3, f3⟩
  · exact ⟨(World.cell?_of_block (c w.heap.size (by omega) (by omega))).trans h.r1.1, (World.frozen?_of_block (c w.heap.size (by omega) (by omega))).trans h.r1.2⟩
  · exact ⟨(World.cell?_of_block (c (w.heap.size + 1) (by omega) (by omega))).trans h.r2.1, (World.frozen?_of_block (c (w.heap.size + 1) (by omega) (by omega))).trans h.r2.2⟩
  · have hk := h.sb k e
    exact (t2.block k (by omega) (by simp; omega)).trans (q2.block k hk.2 (fun q => (h.own k q).2 e))
  · rcases e with rfl | rfl
    · exact c _ (by omega) (by omega)
    · exact c _ (by omega) (by omega)
theorem LnI.done {w A : World} {S : Nat → Prop} {pre : List Int} {v : Value} (h : LnI w S pre A v) (hK : A.heap[w.heap.size + 4]? = some (.deferred (some []))) :
    LentP w pre (.returned (.tuple #[v, .bool true])) (((A.setCell ⟨w.heap.size, 0, none⟩ v).setCell ⟨w.heap.size + 1, 0, none⟩ (.bool true)).putObj (w.heap.size + 4) (.deferred none)) ∧
    (((A.setCell ⟨w.heap.size, 0, none⟩ v).setCell ⟨w.heap.size + 1, 0, none⟩ (.bool true)).putObj (w.heap.size + 4) (.deferred none)).cell? ⟨w.heap.size, 0, none⟩ = some v ∧
    (((A.setCell ⟨w.heap.size, 0, none⟩ v).setCell ⟨w.heap.size + 1, 0, none⟩ (.bool true)).putObj (w.heap.size + 4) (.deferred none)).cell? ⟨w.heap.size + 1, 0, none⟩ = some (.bool true) ∧
    ((A.setCell ⟨w.heap.size, 0, none⟩ v).setCell ⟨w.heap.size + 1, 0, none⟩ (.bool true)).heap[w.heap.size + 4]? = some (.deferred (some [])) := by
  have hlt : w.heap.size + 4 < A.heap.size := (Array.getElem?_eq_some_iff.1 hK).1
  have t1 : Tch (fun k => k = w.heap.size ∨ k = w.heap.size + 1) A ((A.setCell ⟨w.heap.size, 0, none⟩ v).setCell ⟨w.heap.size + 1, 0, none⟩ (.bool true)) :=
    Tch.set (S := fun k => k = w.heap.size ∨ k = w.heap.size + 1) (p := ⟨w.heap.size + 1, 0, none⟩) (Tch.set (S := fun k => k = w.heap.size ∨ k = w.heap.size + 1) (p := ⟨w.heap.size, 0, none⟩) (Tch.refl _ A) (.inl (.inl rfl)) v) (.inl (.inr rfl)) _
  have t2 : Tch (fun k => k = w.heap.size + 4) _ (((A.setCell ⟨w.heap.size, 0, none⟩ v).setCell ⟨w.heap.size + 1, 0, none⟩ (.bool true)).putObj (w.heap.size + 4) (.deferred none)) := tch_put _ rfl
  have t3 := (t1.mono (S' := fun k => k = w.heap.size ∨ k = w.heap.size + 1 ∨ k = w.heap.size + 4) (fun k _ e => by omega)).trans (t2.mono (fun k _ e => by omega))
  have hs : A.heap.size ≤ ((A.setCell ⟨w.heap.size, 0, none⟩ v).setCell ⟨w.heap.size + 1, 0, none⟩ (.bool true)).heap.size := t1.size
  refine ⟨⟨v, rfl, h.is.tch t3 (fun g e q => by have := (h.own g e).1; omega), fun k e => by have := (h.own k e).1; omega, nw_tch h.nw t3 (fun i e => by omega)⟩, ?_, ?_, ?_⟩
  · rw [t2.cell (by omega) (by omega), World.cell?_setCell_other _ _ _ _ (by simp)]
    exact World.cell?_setCell_same _ _ _ h.r1.1
  · rw [t2.cell (by omega) (by omega)]
    exact World.cell?_setCell_same _ _ _ (by rw [World.cell?_setCell_other _ _ _ _ (by simp)]; exact h.r2.1)
  · exact (t1.block _ hlt (by omega)).trans hK
end Go.Proofs.YtodnlelnpidliaaGreat
end

/- A pool of the call's own, step by step; lives; rows of numbers that came in. -/
section
namespace Go.Proofs.YtodnlelnpidliaaGreat
open Go.RowKit
set_option linter.unusedVariables false

/-- A pool of the call's own: nothing that was there has changed. -/
structure PAcc (w W : World) (p : Nat) (L : List Bool) (F : Nat → Prop) : Prop where
  po : Pol W p L F
  new : ∀ k, F k → w.heap.size ≤ k
  nw : Nw w W
theorem PAcc.step {w W W' : World} {p : Nat} {L : List Bool} {F : Nat → Prop} (h : PAcc w W p L F) (k : Nw W W') : PAcc w W' p L F := ⟨h.po.nw k, h.new, h.nw.trans k⟩
/-- A step of such a pool: what else changes. -/
def PAccTo (w W : World) (p : Nat) (F : Nat → Prop) (L : List Bool) (W' : World) : Prop := ∃ F', PAcc w W' p L F' ∧ (∀ k, F' k → F k ∨ W.heap.size ≤ k) ∧ Tch F W W'
theorem PAcc.to {w W W' : World} {p : Nat} {L L' : List Bool} {F : Nat → Prop} (h : PAcc w W p L F) (k : PolTo W p F L' W') : PAccTo w W p F L' W' := by
  obtain ⟨F', h1, h2, h3⟩ := k
  exact ⟨F', ⟨h1, fun k e => (h2 k e).elim (h.new k) (fun q => Nat.le_trans h.nw.sz q), nw_tch h.nw h3 h.new⟩, h2, h3⟩
/-- What the walk is told of a slice of numbers that came in. -/
def IsNum (w : World) (a : Option Addr) (len cap : Nat) (zs : List Int) : Prop :=
  (a = none ∧ len = 0 ∧ cap = 0 ∧ zs = []) ∨
  ∃ x, a = some x ∧ len ≤ cap ∧ cap ≤ maxLen ∧ zs.length = cap ∧ (∀ i, i < zs.length → w.cell? (x.add i) = some (.int .i64 (zs.getD i 0))) ∧ ∀ n ∈ zs, (Lit.int .i64 n).wf = true
theorem IsNum.at {w : World} {a : Option Addr} {len cap : Nat} {zs : List Int} (h : IsNum w a len cap zs) (hl : 0 < len) : ∃ b o, a = some ⟨b, o, none⟩ ∧ len ≤ maxLen ∧ b < w.heap.size ∧ (∀ i, i < len → w.cell? ⟨b, o + i, none⟩ = some (.int .i64 (zs.getD i 0))) ∧ ∀ i, i < len → (Lit.int .i64 (zs.getD i 0)).wf = true := by
  rcases h with ⟨_, h0, _⟩ | ⟨x, rfl, h1, h2, h3, h4, h5⟩
  · omega
  · obtain ⟨b, o, spot⟩ := x
    have hs : spot = none := by simpa [Addr.add] using World.cell?_spot (h4 0 (by omega))
    subst hs
    have hc : ∀ i, i < len → w.cell? ⟨b, o + i, none⟩ = some (.int .i64 (zs.getD i 0)) := fun i hi => by
      have := h4 i (by omega)
      rwa [Addr.add_lit] at this
    refine ⟨b, o, rfl, by omega, World.block_lt_of_cell? _ _ (hc 0 hl), hc, fun i hi => h5 _ ?_⟩
    have : i < zs.length := by omega
    simp [List.getD, this]
end Go.Proofs.YtodnlelnpidliaaGreat
end

/- The laws of buckets: a bucket and its pool of the call's own; made, lives, call. -/
section
namespace Go.Proofs.YtodnlelnpidliaaGreat
open Go.RowKit Go.Shelf
set_option linter.unusedVariables false      -- a contract need not use every name

structure BA (w W : World) (o mb po n k : Nat) (l : List Hp) (L : List Bool) (F : Nat → Prop) : Prop where
  db : Db W o mb po n l L F
  inv : BInv n k (hsP l) L
  nw : Nw w W
  mn : w.heap.size ≤ mb
  new : ∀ k, F k → w.heap.size ≤ k
theorem BA.step {w W W' : World} {o mb po n k : Nat} {l : List Hp} {L : List Bool} {F : Nat → Prop} (h : BA w W o mb po n k l L F) (g : Nw W W') : BA w W' o mb po n k l L F := ⟨h.db.nw g, h.inv, h.nw.trans g, h.mn, h.new⟩
theorem BA.to {w W W' : World} {o mb po n k : Nat} {l l' : List Hp} {L L' : List Bool} {F : Nat → Prop} (h : BA w W o mb po n k l L F) (d : DbTo W o mb po n F l W' l' L') (b : BInv n (k + 1) (hsP l') L') : ∃ F', BA w W' o mb po n (k + 1) l' L' F' := by
  obtain ⟨F', h1, h2, h3, _⟩ := d
  exact ⟨F', h1, b, nw_tch h.nw h3 (fun i e => e.elim (fun e => e ▸ h.mn) (h.new i)), h.mn, fun i e => (h2 i e).elim (h.new i) (fun q => Nat.le_trans h.nw.sz q)⟩
/-- What a call leaves. -/
def BaTo (w : World) (o mb po n k : Nat) (hs : List Hq) (L : List Bool) (W : World) : Prop := ∃ l F, hsP l = hs ∧ BA w W o mb po n k l L F
section
variable {w W : World} {o mb po n k : Nat} {l : List Hp} {L : List Bool} {F : Nat → Prop}
theorem ba_ask (h : BA w W o mb po n k l L F) (hk : k ≤ 800) (hn : n ≤ 64) (t r txn m : Int) (wa : wfN (t, r)) (i : Int) (g : Bool) (E : Int) (hR : askBR n (hsP l) L t r txn m = (i, g, E)) :
    Calls Tryz.prog 28 #[.pointer (some ⟨o, 0, none⟩), .agg #[.int .i64 t, .int .i64 r], .int .i64 txn, .int .i64 m] W fun e W' => e = .returned (.tuple #[.int .i64 i, .bool g, .int .i64 E]) ∧ BaTo w o mb po n (k + 1) (askBS n (hsP l) L t r txn m).1 (askBS n (hsP l) L t r txn m).2 W' := by
  refine (ask_d h.db h.inv hk hn t r txn m wa).mono ?_
  rintro e W' ⟨h1, l', h2, h3⟩
  rw [hR] at h1
  obtain ⟨F', h4⟩ := h.to h3 (by rw [h2]; exact binv_ask h.inv (by omega) t r txn m)
  exact ⟨h1, l', F', h2, h4⟩
theorem ba_upgrade (h : BA w W o mb po n k l L F) (hk : k ≤ 800) (hn : n ≤ 64) (id m : Int) (g : Bool) (E : Int) (hG : upBG (hsP l) id m = g) (hE : upBE (hsP l) id m = E) :
    Calls Tryz.prog 36 #[.pointer (some ⟨o, 0, none⟩), .int .i64 id, .int .i64 m] W fun e W' => e = .returned (.tuple #[.bool g, .int .i64 E]) ∧ BaTo w o mb po n (k + 1) (upBS (hsP l) id m) L W' := by
  refine (upgrade_d h.db h.inv hk hn id m).mono ?_
  rintro e W' ⟨h1, l', h2, h3⟩
  rw [hG, hE] at h1
  obtain ⟨F', h4⟩ := h.to h3 (by rw [h2]; exact binv_up h.inv (by omega) id m)
  exact ⟨h1, l', F', h2, h4⟩
theorem ba_leave (h : BA w W o mb po n k l L F) (hk : k ≤ 800) (hn : n ≤ 64) (id E : Int) (hE : (lvBR (hsP l) id).2 = E) :
    Calls Tryz.prog 31 #[.pointer (some ⟨o, 0, none⟩), .int .i64 id] W fun e W' => ∃ vi, e = .returned (.tuple #[vi, .int .i64 E]) ∧ IS W' vi (lvBR (hsP l) id).1 ∧ BaTo w o mb po n (k + 1) (lvBS (hsP l) L id).1 (lvBS (hsP l) L id).2 W' := by
  refine (leave_d h.db h.inv hk hn id).mono ?_
  rintro e W' ⟨vi, l', h1, h0, h2, h3, _⟩
  rw [hE] at h1
  obtain ⟨F', h4⟩ := h.to h3 (by rw [h2]; exact binv_lv h.inv id)
  exact ⟨vi, h1, h0, l', F', h2, h4⟩
theorem ba_abandon (h : BA w W o mb po n k l L F) (hk : k ≤ 800) (hn : n ≤ 64) (id E : Int) (hE : (abBR (hsP l) id).2 = E) :
    Calls Tryz.prog 40 #[.pointer (some ⟨o, 0, none⟩), .int .i64 id] W fun e W' => ∃ vi, e = .returned (.tuple #[vi, .int .i64 E]) ∧ IS W' vi (abBR (hsP l) id).1 ∧ BaTo w o mb po n (k + 1) (abBS (hsP l) L id).1 (abBS (hsP l) L id).2 W' := by
  refine (abandon_d h.db h.inv hk hn id).mono ?_
  rintro e W' ⟨vi, l', h1, h0, h2, h3, _⟩
  rw [hE] at h1
  obtain ⟨F', h4⟩ := h.to h3 (by rw [h2]; exact binv_ab h.inv id)
  exact ⟨vi, h1, h0, l', F', h2, h4⟩
theorem ba_hand (h : BA w W o mb po n k l L F) (hk : k ≤ 800) (hn : n ≤ 64) (id a E : Int) (hE : hnBE (hsP l) id a = E) :
    Calls Tryz.prog 32 #[.pointer (some ⟨o, 0, none⟩), .int .i64 id, .int .i64 a] W fun e W' => e = .returned (.int .i64 E) ∧ BaTo w o mb po n (k + 1) (hnBS (hsP l) id a) L W' := by
  refine (hand_d h.db h.inv hk hn id a).mono ?_
  rintro e W' ⟨h1, l', h2, h3⟩
  rw [hE] at h1
  obtain ⟨F', h4⟩ := h.to h3 (by rw [h2]; exact binv_hn h.inv id a)
  exact ⟨h1, l', F', h2, h4⟩
theorem ba_get (h : BA w W o mb po n k l L F) (id t r b0 b1 b2 b3 b4 : Int) (y : Bool) (hR : getBD (hsP l) id = (t, r, ⟨b0, b1, b2, b3, b4⟩, y)) :
    Calls Tryz.prog 20 #[.pointer (some ⟨o, 0, none⟩), .int .i64 id] W fun e W' => e = .returned (.tuple #[.agg #[.int .i64 t, .int .i64 r], .agg #[.int .i64 b0, .int .i64 b1, .int .i64 b2, .int .i64 b3, .int .i64 b4], .bool y]) ∧ Nw W W' := by
  have := get_d h.db (fun x hx => (h.db.ok x hx).len) id
  rw [hR] at this
  exact this
theorem ba_heads (h : BA w W o mb po n k l L F) : Calls Tryz.prog 14 #[.pointer (some ⟨o, 0, none⟩)] W (HdPost W (hsP l)) := heads_d h.db
theorem ba_live (h : BA w W o mb po n k l L F) (K : Nat) (hR : liv L = K) : Calls Tryz.prog 18 #[.pointer (some ⟨po, 0, none⟩)] W fun e W' => e = .returned (.int .i64 K) ∧ Nw W W' := by
  subst hR
  obtain ⟨g, v, l, hp, _⟩ := h.db.pol
  exact live_at hp
end
/-- Heads stay where their blocks do. -/
theorem HdsAt.keep {w w' : World} {o : Nat} {v : Value} {hs : List Hq} (h : HdsAt w o v hs) (hk : ∀ k, o < k → k < w.heap.size → w'.heap[k]? = w.heap[k]?) : HdsAt w' o v hs := by
  obtain ⟨lm, h1, h2, h3⟩ := h
  refine ⟨lm, ⟨h1.1, ?_⟩, h2, fun x hx => (h3 x hx).blk fun b j z e hq hc => ⟨hk _ (by have := (h3 x hx).new b _ _ (by unfold hmV; rw [e]); omega) (World.block_lt_of_cell? _ ⟨b.block, j, none⟩ hc), (h3 x hx).off b e hq⟩⟩
  have hge : ∀ g, v.ownBlock = some g → o + 1 ≤ g ∧ g < w.heap.size := fun g e => ⟨oge h1 e, olt h1 e⟩
  rcases h1.2 with h0 | ⟨g, cap, cur, rfl, hb, hg, rest⟩
  · exact .inl h0
  · have := hge g rfl
    exact .inr ⟨g, cap, cur, rfl, hb, (hk g (by omega) this.2).trans hg, rest⟩
/-- What made gives. -/
def MadeD (w W : World) (n N : Nat) (e : Ending) (W' : World) : Prop := ∃ o mb po F, e = .returned (.tuple #[.pointer (some ⟨o, 0, none⟩), .pointer (some ⟨po, 0, none⟩), .bool true]) ∧ BA w W' o mb po n 0 [] (List.replicate N false) F
set_option maxHeartbeats 1000000 in
theorem made_d (w W : World) (g0 : Nw w W) (n N : Nat) (h1 : 1 ≤ n) (h2 : n ≤ 64) (hN : N ≤ 128) : Calls Tryz.prog 9 #[.int .i64 n, .int .i64 N] W (MadeD w W n N) := by
  have HP := Lib.hid (pnew_any N hN W)
  have HG := Lib.hid (And.intro h1 (And.intro h2 g0))
  clear h1 h2 hN g0
  go_enter Tryz.func9, Tryz.ntmps9
  go_wp2_with fail
  refine HP.out.mono ?_
  rintro e w1 ⟨po, F, rfl, hp, g1, hF⟩
  have HN := Lib.hid (new_d hp n HG.out.1 HG.out.2.1)
  have HI := Lib.hid (And.intro hp (And.intro g1 hF))
  clear hp g1 hF HP
  go_wp2_with fail
  refine HN.out.mono ?_
  rintro e w2 ⟨o, mb, rfl, hd, g2, ho, hm⟩
  have HE : Hid (MadeD w W n N (.returned (.tuple #[.pointer (some ⟨o, 0, none⟩), .pointer (some ⟨po, 0, none⟩), .bool true])) w2) :=
    ⟨o, mb, po, F, rfl, hd, binv_nil n N, HG.out.2.2.trans (HI.out.2.1.trans g2), Nat.le_trans HG.out.2.2.sz (Nat.le_trans HI.out.2.1.sz hm), fun k e => Nat.le_trans HG.out.2.2.sz (HI.out.2.2 k e)⟩
  clear hd g2 ho hm HN HI HG
  go_wp2_with fail
  exact bodyPost_ret (v := .tuple #[.pointer (some ⟨o, 0, none⟩), .pointer (some ⟨po, 0, none⟩), .bool true]) (by simp [results, Tryz.results9, go_sem, *]) rfl HE.out
theorem kit_T (t : Int) (w : World) : Calls Tryz.prog 33 #[.int .i64 t] w fun e w' => e = .returned (.agg #[.int .i64 t, .int .i64 (-1)]) ∧ Nw w w' := by
  go_enter Tryz.func33, Tryz.ntmps33
  go_wp2
  exact bodyPost_ret (v := .agg #[.int .i64 t, .int .i64 (-1)]) (by simp [results, Tryz.results33, go_sem, *]) rfl ⟨rfl, (Nw.refl w).alloc _⟩
theorem lives_a1 : askBR 1 [] (List.replicate 4 false) 0 (-1) 1 6 = (0, true, 0) := by decide +kernel
theorem lives_s1 : askBS 1 [] (List.replicate 4 false) 0 (-1) 1 6 = ([⟨0, -1, 0, [⟨0, 1, 6, 6, 0⟩]⟩], [true, false, false, false]) := by kernel_rfl
theorem lives_a2 : askBR 1 [⟨0, -1, 0, [⟨0, 1, 6, 6, 0⟩]⟩] [true, false, false, false] 1 (-1) 1 6 = (0, false, 8) := by decide +kernel
theorem wf_T0 : wfN (0, -1) := ⟨by decide +kernel, by decide +kernel⟩
theorem wf_T1 : wfN (1, -1) := ⟨by decide +kernel, by decide +kernel⟩
set_option maxHeartbeats 1000000 in
theorem lives_b (W : World) : Calls Tryz.prog 7 #[] W fun e w' => e = .returned (.bool true) ∧ Nw W w' := by
  have HM := Lib.hid (made_d W W (Nw.refl W) 1 4 (by omega) (by omega) (by omega))
  go_enter Tryz.func7, Tryz.ntmps7
  go_wp2_with fail
  refine HM.out.mono ?_
  rintro e w1 ⟨o, mb, po, F, rfl, hb⟩
  have HB := Lib.hid hb
  clear hb HM
  go_wp2_with fail
  refine (kit_T 0 w1).mono ?_
  rintro e w2 ⟨rfl, g2⟩
  have HB2 := Lib.hid (HB.out.step g2)
  clear g2 HB
  go_wp2_with fail
  refine (ba_ask HB2.out (by omega) (by omega) 0 (-1) 1 6 wf_T0 0 true 0 lives_a1).mono ?_
  rintro e w3 ⟨rfl, hb⟩
  have HB3 := Lib.hid hb
  clear hb HB2
  go_wp2_with fail
  refine (kit_T 1 w3).mono ?_
  rintro e w4 ⟨rfl, g2⟩
  obtain ⟨l, F', hl, hb⟩ := HB3.out
  have hL : (askBS 1 (hsP []) (List.replicate 4 false) 0 (-1) 1 6) = ([⟨0, -1, 0, [⟨0, 1, 6, 6, 0⟩]⟩], [true, false, false, false]) := lives_s1
  rw [hL] at hl hb
  simp only at hl hb
  have HB4 := Lib.hid (ba_ask (hb.step g2) (by omega) (by omega) 1 (-1) 1 6 wf_T1 0 false 8 (by rw [hl]; exact lives_a2))
  clear g2 hb hl hL HB3
  go_wp2_with fail
  refine HB4.out.mono ?_
  rintro e w5 ⟨rfl, l2, F2, _, hb⟩
  have HG := Lib.hid hb.nw
  clear hb HB4
  go_wp2_with fail
  go_ret
  exact ⟨rfl, HG.out⟩
/-- After some calls. -/
def BaS (w : World) (o mb po n k : Nat) (W : World) : Prop := ∃ l L F, BA w W o mb po n k l L F
theorem BaTo.some {w W : World} {o mb po n k : Nat} {hs : List Hq} {L : List Bool} (h : BaTo w o mb po n k hs L W) : BaS w o mb po n k W := by
  obtain ⟨l, F, _, h⟩ := h
  exact ⟨l, L, F, h⟩
end Go.Proofs.YtodnlelnpidliaaGreat
end

/- Law 9: empty, lives; the kit's LightHeads. -/
section
namespace Go.Proofs.YtodnlelnpidliaaGreat
open Go.RowKit
set_option linter.unusedVariables false      -- a contract need not use every name

/-- A head in a box. -/
def HB (w : World) (B : Nat) (t r : Int) (v : Value) (W : Int) : Prop := w.heap[B]? = some (.cells #[.int .i64 t, .int .i64 r, v, .int .i64 W] 56)
theorem HB.made (w : World) (t r : Int) (v : Value) (W : Int) : HB (w.alloc (.cells #[.int .i64 t, .int .i64 r, v, .int .i64 W] 56)) w.heap.size t r v W := allocAt w _
theorem HB.nw {w w' : World} {B : Nat} {t r W : Int} {v : Value} (h : HB w B t r v W) (g : Nw w w') : HB w' B t r v W := g.at' h
end Go.Proofs.YtodnlelnpidliaaGreat
end

/- Arguments: a request, a slice of requests, a head; the kit's LightHeads. -/
section
namespace Go.Proofs.YtodnlelnpidliaaGreat
open Go.ChangeShapes Go.WideShapes Go.ChangeAt Go.RowKit Go.Deep
set_option linter.unusedVariables false

theorem list_of {α : Type} {n : Nat} {Q : Nat → α → Prop} (h : ∀ i, i < n → ∃ x, Q i x) : ∃ l : List α, l.length = n ∧ ∀ i (hi : i < l.length), Q i l[i] := by
  induction n with
  | zero => exact ⟨[], rfl, fun i hi => by simp at hi⟩
  | succ n ih =>
    obtain ⟨l, hl, hq⟩ := ih fun i hi => h i (by omega)
    obtain ⟨x, hx⟩ := h n (by omega)
    refine ⟨l ++ [x], by simp [hl], fun i hi => ?_⟩
    rw [List.length_append, List.length_singleton] at hi
    by_cases q : i < l.length
    · rw [List.getElem_append_left q]; exact hq i q
    · have : i = n := by omega
      subst this
      rw [List.getElem_append_right (by omega)]
      simpa using hx
theorem cellsI : Tryz.prog.cellsOf 3 = 1 := by kernel_rfl
theorem cellsMode : Tryz.prog.cellsOf 39 = 1 := by kernel_rfl
theorem cellsNm : Tryz.prog.cellsOf 38 = 2 := by kernel_rfl
section
variable {H : Type} {enc : TypeId × Value → H} {w : World} {base : Nat} {spare : Nat → Bool} {held : Bool}
theorem some_of {α : Type} {xs : List α} {i : Nat} (h : i < xs.length) : ∃ y, xs[i]? = some y := ⟨_, List.getElem?_eq_getElem h⟩
end
end Go.Proofs.YtodnlelnpidliaaGreat
end

/- The bucket laws: calls that come in. -/
section
namespace Go.Proofs.YtodnlelnpidliaaGreat
open Go.ChangeShapes Go.WideShapes Go.ChangeAt Go.RowKit Go.Deep
set_option linter.unusedVariables false

/-- A call: its kind, a name, a request, a transaction, a mode. -/
structure Cl where
  k : Int
  t : Int
  r : Int
  id : Int
  tx : Int
  md : Int
def clrow (a : Cl) : List Value := [.int .i64 a.k, .int .i64 a.t, .int .i64 a.r, .int .i64 a.id, .int .i64 a.tx, .int .i64 a.md]
/-- Its name is of numbers that an int holds. -/
def Cl.ok (a : Cl) : Prop := (Lit.int .i64 a.t).wf = true ∧ (Lit.int .i64 a.r).wf = true
theorem len6 {cs : List Value} (h : cs.length = 6) : ∃ v0 v1 v2 v3 v4 v5, cs = [v0, v1, v2, v3, v4, v5] := by
  match cs, h with
  | [v0, v1, v2, v3, v4, v5], _ => exact ⟨v0, v1, v2, v3, v4, v5, rfl⟩
theorem cellsCl : Tryz.prog.cellsOf 41 = 6 := by kernel_rfl
section
variable {H : Type} {enc : TypeId × Value → H} {w : World} {base : Nat} {spare : Nat → Bool} {held : Bool}
theorem open_nm {fuel : Nat} {v0 v1 : Value} {x : DataW H × List MemPlace} (f0 : DataW.trod enc Tryz.prog w base spare held fuel 38 [v0, v1] = some x) : ∃ a b, v0 = .int .i64 a ∧ v1 = .int .i64 b ∧ (Lit.int .i64 a).wf = true ∧ (Lit.int .i64 b).wf = true := by
  obtain ⟨xs', n', _, _, hl', hxl', hf'⟩ := DataW.trod_struct Tryz.underlying38 f0
  have g0 : DataW.trod enc Tryz.prog w base spare held n' 3 (([v0, v1].drop 0).take (Tryz.prog.cellsOf 3)) = xs'[0]? := hf' 0 _ rfl
  have g1 : DataW.trod enc Tryz.prog w base spare held n' 3 (([v0, v1].drop 1).take (Tryz.prog.cellsOf 3)) = xs'[1]? := hf' 1 _ rfl
  simp at hxl'
  obtain ⟨z0, r0⟩ := some_of (xs := xs') (i := 0) (by omega)
  obtain ⟨z1, r1⟩ := some_of (xs := xs') (i := 1) (by omega)
  rw [r0] at g0
  rw [r1] at g1
  simp only [cellsI, List.drop_succ_cons, List.drop_zero, List.take_succ_cons, List.take_zero] at g0 g1
  obtain ⟨a0, q0, _, u0⟩ := DataW.trod_int Tryz.underlying3 g0
  obtain ⟨a1, q1, _, u1⟩ := DataW.trod_int Tryz.underlying3 g1
  exact ⟨a0, a1, (List.cons.inj q0).1, (List.cons.inj q1).1, u0, u1⟩
theorem open_cl {fuel : Nat} {cs : List Value} {x : DataW H × List MemPlace} (h : DataW.trod enc Tryz.prog w base spare held fuel 41 cs = some x) : ∃ R : Cl, cs = clrow R ∧ R.ok := by
  obtain ⟨xs, n, _, _, hl, hxl, hf⟩ := DataW.trod_struct Tryz.underlying41 h
  rw [cellsCl] at hl
  obtain ⟨v0, v1, v2, v3, v4, v5, rfl⟩ := len6 hl
  have f0 : DataW.trod enc Tryz.prog w base spare held n 3 (([v0, v1, v2, v3, v4, v5].drop 0).take (Tryz.prog.cellsOf 3)) = xs[0]? := hf 0 _ rfl
  have f1 : DataW.trod enc Tryz.prog w base spare held n 38 (([v0, v1, v2, v3, v4, v5].drop 1).take (Tryz.prog.cellsOf 38)) = xs[1]? := hf 1 _ rfl
  have f2 : DataW.trod enc Tryz.prog w base spare held n 3 (([v0, v1, v2, v3, v4, v5].drop 3).take (Tryz.prog.cellsOf 3)) = xs[2]? := hf 2 _ rfl
  have f3 : DataW.trod enc Tryz.prog w base spare held n 3 (([v0, v1, v2, v3, v4, v5].drop 4).take (Tryz.prog.cellsOf 3)) = xs[3]? := hf 3 _ rfl
  have f4 : DataW.trod enc Tryz.prog w base spare held n 39 (([v0, v1, v2, v3, v4, v5].drop 5).take (Tryz.prog.cellsOf 39)) = xs[4]? := hf 4 _ rfl
  simp at hxl
  obtain ⟨y0, e0⟩ := some_of (xs := xs) (i := 0) (by omega)
  obtain ⟨y1, e1⟩ := some_of (xs := xs) (i := 1) (by omega)
  obtain ⟨y2, e2⟩ := some_of (xs := xs) (i := 2) (by omega)
  obtain ⟨y3, e3⟩ := some_of (xs := xs) (i := 3) (by omega)
  obtain ⟨y4, e4⟩ := some_of (xs := xs) (i := 4) (by omega)
  rw [e0] at f0
  rw [e1] at f1
  rw [e2] at f2
  rw [e3] at f3
  rw [e4] at f4
  simp only [cellsI, cellsMode, cellsNm, List.drop_succ_cons, List.drop_zero, List.take_succ_cons, List.take_zero] at f0 f1 f2 f3 f4
  obtain ⟨a0, q0, _, u0⟩ := DataW.trod_int Tryz.underlying3 f0
  obtain ⟨a2, q2, _, u2⟩ := DataW.trod_int Tryz.underlying3 f2
  obtain ⟨a3, q3, _, u3⟩ := DataW.trod_int Tryz.underlying3 f3
  obtain ⟨a4, q4, _, u4⟩ := DataW.trod_int Tryz.underlying39 f4
  obtain ⟨b0, b1, rfl, rfl, w0, w1⟩ := open_nm f1
  obtain rfl := (List.cons.inj q0).1
  obtain rfl := (List.cons.inj q2).1
  obtain rfl := (List.cons.inj q3).1
  obtain rfl := (List.cons.inj q4).1
  exact ⟨⟨a0, b0, b1, a2, a3, a4⟩, rfl, w0, w1⟩
theorem open_cls {fuel : Nat} {v : Value} {x : DataW H × List MemPlace} (h : DataW.trod enc Tryz.prog w base spare held fuel 22 [v] = some x) : ∃ l, Rd 6 clrow w v l ∧ ∀ R ∈ l, Cl.ok R := by
  rcases open_slice Tryz.underlying22 h with ⟨hcs, _⟩ | ⟨a, len, cap, m, n, D, Pl, hcs, _, hl, hm, hmm, _, hi⟩
  · simp only [List.cons.injEq, and_true] at hcs
    subst hcs
    exact ⟨[], Rd.nil w, fun R hR => by simp at hR⟩
  · simp only [List.cons.injEq, and_true] at hcs
    subst hcs
    have hlm : len ≤ m := by rw [hmm]; split <;> omega
    have each : ∀ i, i < len → ∃ R : Cl, R.ok ∧ ∀ j u, (clrow R)[j]? = some u → w.cell? (a.add (i * 6 + j)) = some u := by
      intro i hil
      obtain ⟨cs', hc, ht⟩ := hi i (by omega)
      rw [cellsCl] at hc
      obtain ⟨R, rfl, hF⟩ := open_cl ht
      obtain ⟨_, hcl, hat⟩ := World.cells?_some hc
      have key : ∀ j, j < 6 → w.cell? (a.add (i * 6 + j)) = (clrow R)[j]? := fun j hj => by rw [← Go.Deep.add_add]; exact hat j hj
      refine ⟨R, hF, fun j u hj => ?_⟩
      have hj6 : j < 6 := by have := (List.getElem?_eq_some_iff.1 hj).1; simpa [clrow] using this
      rw [key j hj6]; exact hj
    obtain ⟨l, hll, hq⟩ := list_of each
    refine ⟨l, ?_, fun R hR => by obtain ⟨i, hi, rfl⟩ := List.getElem_of_mem hR; exact (hq i (by omega)).1⟩
    subst hll
    rcases Nat.eq_zero_or_pos l.length with h0 | h0
    · obtain rfl := List.length_eq_zero_iff.1 h0
      exact ⟨some a, cap, rfl, .inl ⟨rfl, fun e => by cases e⟩⟩
    · have hu := (hq 0 h0).2 0 _ rfl
      obtain ⟨b, o, spot⟩ := a
      have hs : spot = none := by simpa [Addr.add] using World.cell?_spot hu
      subst hs
      refine ⟨some ⟨b, o, none⟩, cap, rfl, .inr ⟨b, o, rfl, ⟨?_, fun i hi c u hu => ?_⟩⟩⟩
      · rw [Addr.add_lit] at hu
        exact World.block_lt_of_cell? _ _ hu
      · have := (hq i hi).2 c u hu
        rw [Addr.add_lit, ← Nat.add_assoc] at this
        exact this
end
end Go.Proofs.YtodnlelnpidliaaGreat
end

/- BucketHolds: plain facts; a call keeps how many numbers there are. -/
section
namespace Go.Proofs.YtodnlelnpidliaaGreat
open Go.RowKit Go.Shelf
set_option linter.unusedVariables false

theorem tk_lenN (L : List Bool) : (tkL L).length = L.length := by unfold tkL; split <;> simp
theorem gv_lenN (L : List Bool) (i : Int) : (gvL L i).length = L.length := by unfold gvL; split <;> simp
theorem ask_lenN (most : Nat) (hs : List Hq) (L : List Bool) (t r txn m : Int) : (askBS most hs L t r txn m).2.length = L.length := by
  unfold askBS
  split
  · exact tk_lenN L
  · rfl
theorem lv_lenN (hs : List Hq) (L : List Bool) (id : Int) : (lvBS hs L id).2.length = L.length := by
  unfold lvBS
  split
  · rfl
  · exact gv_lenN L id
theorem ab_lenN (hs : List Hq) (L : List Bool) (id : Int) : (abBS hs L id).2.length = L.length := by
  unfold abBS
  cases ofId hs id with
  | none => rfl
  | some h =>
    by_cases h1 : 0 < (rqB h id).sn
    · by_cases h2 : (rqB h id).md = 0
      · simp only [h1, h2, if_true]; exact gv_lenN L id
      · simp only [h1, h2, if_true, if_false]
    · simp only [h1, if_false]
/-- After some calls: as many numbers as there were. -/
def BaN (w : World) (o mb po n k N : Nat) (W : World) : Prop := ∃ l L F, L.length = N ∧ BA w W o mb po n k l L F
theorem BaTo.someN {w W : World} {o mb po n k N : Nat} {hs : List Hq} {L : List Bool} (h : BaTo w o mb po n k hs L W) (e : L.length = N) : BaN w o mb po n k N W := by
  obtain ⟨l, F, _, h⟩ := h
  exact ⟨l, L, F, e, h⟩
theorem fnd_mem {W : Int} {q : List Rq} (h : Ok W q) {r : Rq} (hr : r ∈ q) : fnd q r.id = some r := by
  cases e : fnd q r.id with
  | none =>
    unfold fnd at e
    have := List.find?_eq_none.1 e r hr
    simp at this
  | some x =>
    unfold fnd at e
    have h1 := List.mem_of_find?_eq_some e
    have h2 := List.find?_some e
    rw [h.inj x h1 r hr (by simpa using h2)]
/-- What Get says of a request that is there. -/
theorem get_mem {most k : Nat} {hs : List Hq} {L : List Bool} (b : BInv most k hs L) {h : Hq} (hh : h ∈ hs) {r : Rq} (hr : r ∈ h.q) : getBD hs r.id = (h.t, h.r, r, true) ∧ hsL L r.id = true := by
  have e := b.of_mem hh hr
  refine ⟨?_, ?_⟩
  · unfold getBD
    rw [e]
    simp only
    unfold rqB
    rw [fnd_mem (b.inv h hh).ok hr]
    rfl
  · obtain ⟨i, hi, hl, e2⟩ := b.lent hh hr
    rw [hi, hsL_nat hl, e2]
theorem head_ok {most k : Nat} {hs : List Hq} {L : List Bool} (b : BInv most k hs L) {h : Hq} (hh : h ∈ hs) : okQ h.W h.q = true ∧ scanQ h.q = ([], h.q) ∧ 0 < h.q.length :=
  ⟨(okQ_iff h.W h.q).2 (b.inv h hh).ok, scan_done (b.inv h hh).done, List.length_pos_iff.2 (b.ne h hh)⟩
theorem srt_next {hs : List Hq} (s : SrtH hs) {k : Nat} (hk : k + 1 < hs.length) : nlt (nmH hs[k]) (nmH hs[k + 1]) := List.pairwise_iff_getElem.1 s k (k + 1) (by omega) hk (Nat.lt_succ_self k)
theorem liv_leN (L : List Bool) : liv L ≤ L.length := List.countP_le_length
def sumQ (hs : List Hq) (k : Nat) : Nat := ((hs.take k).map fun x => x.q.length).sum
theorem sum_all {most k : Nat} {hs : List Hq} {L : List Bool} (b : BInv most k hs L) : sumQ hs hs.length = liv L := by
  unfold sumQ
  rw [List.take_length]
  exact b.count
set_option maxHeartbeats 4000000 in
theorem call_n {w W : World} {o mb po n k : Nat} {N : Nat} (h : BaN w o mb po n k N W) (hk : k ≤ 800) (hn : n ≤ 64) (a0 a1 a2 a3 a4 a5 : Int) (wa : wfN (a1, a2)) :
    Calls Tryz.prog 24 #[.pointer (some ⟨o, 0, none⟩), .agg #[.int .i64 a0, .int .i64 a1, .int .i64 a2, .int .i64 a3, .int .i64 a4, .int .i64 a5]] W fun e W' => (∃ v, e = .returned v) ∧ BaN w o mb po n (k + 1) N W' := by
  obtain ⟨l, L, F, hLN, h⟩ := h
  have g1 : Nw W (W.alloc (.cells #[.int .i64 a0, .int .i64 a1, .int .i64 a2, .int .i64 a3, .int .i64 a4, .int .i64 a5] 41)) := (Nw.refl W).alloc _
  have hal := allocAt W (.cells #[.int .i64 a0, .int .i64 a1, .int .i64 a2, .int .i64 a3, .int .i64 a4, .int .i64 a5] 41)
  obtain ⟨z, hz⟩ : ∃ z, W.alloc (.cells #[.int .i64 a0, .int .i64 a1, .int .i64 a2, .int .i64 a3, .int .i64 a4, .int .i64 a5] 41) = z := ⟨_, rfl⟩
  rw [hz] at g1 hal
  have HZ := Lib.hid hz
  have H := Lib.hid (h.step g1)
  obtain ⟨⟨i, g, E⟩, hA⟩ : ∃ q, askBR n (hsP l) L a1 a2 a4 a5 = q := ⟨_, rfl⟩
  have HA := Lib.hid (ba_ask H.out hk hn a1 a2 a4 a5 wa i g E hA)
  have HU := Lib.hid (ba_upgrade H.out hk hn a3 a5 _ _ rfl rfl)
  have HL := Lib.hid (ba_leave H.out hk hn a3 _ rfl)
  have HB := Lib.hid (ba_abandon H.out hk hn a3 _ rfl)
  have HH := Lib.hid (ba_hand H.out hk hn a3 a4 _ rfl)
  have c0 := hcell (j := 0) hal
  have c1 := hcell (j := 1) hal
  have c2 := hcell (j := 2) hal
  have c3 := hcell (j := 3) hal
  have c4 := hcell (j := 4) hal
  have c5 := hcell (j := 5) hal
  have cl := hlt hal
  have HP := Lib.hid (pick_any a0 6 z (by omega) (by omega))
  obtain ⟨x, hx⟩ : ∃ x, a0 % 6 = x := ⟨_, rfl⟩
  rw [hx] at HP
  clear hz g1 hal h hA wa hx hk hn
  generalize upBG (hsP l) a3 a5 = ug at *
  generalize upBE (hsP l) a3 a5 = ue at *
  generalize (lvBR (hsP l) a3).2 = le at *
  generalize (abBR (hsP l) a3).2 = ae at *
  generalize hnBE (hsP l) a3 a4 = he at *
  obtain ⟨d2, e2⟩ : ∃ d, (x == 2) = d := ⟨_, rfl⟩
  obtain ⟨d3, e3⟩ : ∃ d, (x == 3) = d := ⟨_, rfl⟩
  obtain ⟨d4, e4⟩ : ∃ d, (x == 4) = d := ⟨_, rfl⟩
  obtain ⟨d5, e5⟩ : ∃ d, (x == 5) = d := ⟨_, rfl⟩
  go_enter Tryz.func24, Tryz.ntmps24
  go_wp2_with fail
  rw [HZ.out]
  refine HP.out.mono ?_
  rintro e z' ⟨rfl, rfl⟩
  cases d2
  · cases d3
    · cases d4
      · cases d5
        · go_wp2_with fail
          refine HA.out.mono ?_
          rintro e y ⟨rfl, hb⟩
          have HE := Lib.hid (hb.someN ((ask_lenN _ _ _ _ _ _ _).trans hLN))
          clear hb HA HU HL HB HH H HP HZ
          go_wp2
          exact bodyPost_end (results_none rfl _ _ _) rfl ⟨⟨_, rfl⟩, HE.out⟩
        · go_wp2_with fail
          refine HH.out.mono ?_
          rintro e y ⟨rfl, hb⟩
          have HE := Lib.hid (hb.someN hLN)
          clear hb HA HU HL HB HH H HP HZ
          go_wp2
          exact bodyPost_end (results_none rfl _ _ _) rfl ⟨⟨_, rfl⟩, HE.out⟩
      · go_wp2_with fail
        refine HB.out.mono ?_
        rintro e y ⟨vi, rfl, _, hb⟩
        have HE := Lib.hid (hb.someN ((ab_lenN _ _ _).trans hLN))
        clear hb HA HU HL HB HH H HP HZ
        go_wp2
        exact bodyPost_end (results_none rfl _ _ _) rfl ⟨⟨_, rfl⟩, HE.out⟩
    · go_wp2_with fail
      refine HL.out.mono ?_
      rintro e y ⟨vi, rfl, _, hb⟩
      have HE := Lib.hid (hb.someN ((lv_lenN _ _ _).trans hLN))
      clear hb HA HU HL HB HH H HP HZ
      go_wp2
      exact bodyPost_end (results_none rfl _ _ _) rfl ⟨⟨_, rfl⟩, HE.out⟩
  · go_wp2_with fail
    refine HU.out.mono ?_
    rintro e y ⟨rfl, hb⟩
    have HE := Lib.hid (hb.someN hLN)
    clear hb HA HU HL HB HH H HP HZ
    go_wp2
    exact bodyPost_end (results_none rfl _ _ _) rfl ⟨⟨_, rfl⟩, HE.out⟩
end Go.Proofs.YtodnlelnpidliaaGreat
end

/- BucketHolds: what a round over the heads knows, and one over a head's requests. -/
section
namespace Go.Proofs.YtodnlelnpidliaaGreat
open Go.RowKit Go.Shelf
set_option linter.unusedVariables false

theorem sum_le (hs : List Hq) (k : Nat) : sumQ hs k ≤ sumQ hs hs.length := by
  unfold sumQ
  rw [List.take_length]
  conv => rhs; rw [← List.take_append_drop k hs, List.map_append, List.sum_append]
  exact Nat.le_add_right _ _
theorem sum_nx {hs : List Hq} {k : Nat} {x : Hq} (hk : hs[k]? = some x) : sumQ hs (k + 1) = sumQ hs k + x.q.length := by
  unfold sumQ
  rw [List.take_add_one, hk, List.map_append, List.sum_append]
  simp
theorem ba_hasN {w W : World} {o mb po n k : Nat} {l : List Hp} {L : List Bool} {F : Nat → Prop} (h : BA w W o mb po n k l L F) (i : Int) (b : Bool) (hR : hsL L i = b) : Calls Tryz.prog 27 #[.pointer (some ⟨po, 0, none⟩), .int .i64 i] W fun e W' => e = .returned (.bool b) ∧ Nw W W' := by
  subst hR
  obtain ⟨g, v, l, hp, _⟩ := h.db.pol
  exact (has_at hp i).mono fun _ _ q => ⟨q.1, by rw [q.2]; exact Nw.refl _⟩
/-- How a head stands to the one before it. -/
def PrevK (y1 : World) (bb oo len k : Nat) (xt xr : Int) : Prop :=
  decide ((0 : Int) < (k : Int)) = false ∨ ∃ (k' : Nat) (t' r' : Int), decide ((0 : Int) < (k : Int)) = true ∧ wrap64 ((k : Int) - 1) = (k' : Int) ∧ IntKind.i64.wrap ((k : Int) - 1) = (k' : Int) ∧ (k' : Int) < (len : Int) ∧
    (∀ z, Nw y1 z → z.cell? ⟨bb, oo + k' * 4, none⟩ = some (.int .i64 t') ∧ z.cell? ⟨bb, oo + k' * 4 + 1, none⟩ = some (.int .i64 r')) ∧
    decide (xt < t') = false ∧ ((t' == xt) = false ∨ ((t' == xt) = true ∧ decide (xr ≤ r') = false))
/-- What a head's cells hold. -/
def HdCells (y1 : World) (bb oo k : Nat) (xt xr xW : Int) (xa : Option Addr) (ql xc : Nat) : Prop :=
  (∀ z, Nw y1 z → z.cell? ⟨bb, oo + k * 4, none⟩ = some (.int .i64 xt)) ∧ (∀ z, Nw y1 z → z.cell? ⟨bb, oo + k * 4 + 1, none⟩ = some (.int .i64 xr)) ∧ (∀ z, Nw y1 z → z.cell? ⟨bb, oo + k * 4 + 2, none⟩ = some (.slice xa ql xc)) ∧ (∀ z, Nw y1 z → z.cell? ⟨bb, oo + k * 4 + 3, none⟩ = some (.int .i64 xW))
/-- What the calls on a head answer. -/
def HdCalls (y1 : World) (xt xr xW : Int) (xa : Option Addr) (ql xc : Nat) : Prop :=
  (∀ z, Nw y1 z → Calls Tryz.prog 25 #[.agg #[.int .i64 xt, .int .i64 xr, .slice xa ql xc, .int .i64 xW]] z fun e w' => ∃ a n u c, e = .returned (.tuple #[.agg #[.int .i64 xt, .int .i64 xr, .slice a ql n, .int .i64 xW], .slice u 0 c]) ∧ Nw z w') ∧
  (∀ z, Nw y1 z → Calls Tryz.prog 26 #[.agg #[.int .i64 xt, .int .i64 xr, .slice xa ql xc, .int .i64 xW]] z fun e w' => e = .returned (.int .i64 0) ∧ Nw z w')
/-- What is known of a head's requests. -/
def HdReqs (y1 : World) (o po : Nat) (xt xr : Int) (xa : Option Addr) (ql : Nat) : Prop :=
  ∀ j, j < ql → ∃ (b' o' : Nat) (r0 r1 r2 r3 r4 : Int), xa = some ⟨b', o', none⟩ ∧ wrap64 ((j : Int) + 1) = (j : Int) + 1 ∧ (j : Int) < (ql : Int) ∧
    (∀ z, Nw y1 z → z.cell? ⟨b', o' + j * 5, none⟩ = some (.int .i64 r0) ∧ z.cell? ⟨b', o' + j * 5 + 1, none⟩ = some (.int .i64 r1) ∧ z.cell? ⟨b', o' + j * 5 + 2, none⟩ = some (.int .i64 r2) ∧ z.cell? ⟨b', o' + j * 5 + 3, none⟩ = some (.int .i64 r3) ∧ z.cell? ⟨b', o' + j * 5 + 4, none⟩ = some (.int .i64 r4)) ∧
    (∀ z, Nw y1 z → Calls Tryz.prog 20 #[.pointer (some ⟨o, 0, none⟩), .int .i64 r0] z fun e W' => e = .returned (.tuple #[.agg #[.int .i64 xt, .int .i64 xr], .agg #[.int .i64 r0, .int .i64 r1, .int .i64 r2, .int .i64 r3, .int .i64 r4], .bool true]) ∧ Nw z W') ∧
    (∀ z, Nw y1 z → Calls Tryz.prog 27 #[.pointer (some ⟨po, 0, none⟩), .int .i64 r0] z fun e W' => e = .returned (.bool true) ∧ Nw z W')
theorem rnd {w y1 : World} {o mb po n m : Nat} {l1 : List Hp} {L1 : List Bool} {F1 : Nat → Prop} (h : BA w y1 o mb po n m l1 L1 F1) {lm : List Hm} {s0 : Option Addr} {s2 : Nat} (hrd : Rd 4 hmrow y1 (.slice s0 lm.length s2) lm) (hxs : ∀ x ∈ lm, RqAt y1 (hmV x) x.h.q ∧ x.h.q.length ≤ 1000) (hlm : lm.map Hm.h = hsP l1) (hl64 : lm.length ≤ 64) {k : Nat} (hkl : k < lm.length) :
    ∃ (bb oo : Nat) (xt xr xW : Int) (xa : Option Addr) (ql xc S0 S1 : Nat), s0 = some ⟨bb, oo, none⟩ ∧ sumQ (hsP l1) k = S0 ∧ sumQ (hsP l1) (k + 1) = S1 ∧ (S1 : Int) = (S0 : Int) + (ql : Int) ∧ wrap64 ((S0 : Int) + (ql : Int)) = (S0 : Int) + (ql : Int) ∧ ((ql : Int) == 0) = false ∧ (k : Int) < (lm.length : Int) ∧ wrap64 ((k : Int) + 1) = (k : Int) + 1 ∧
      HdCells y1 bb oo k xt xr xW xa ql xc ∧ HdCalls y1 xt xr xW xa ql xc ∧ HdReqs y1 o po xt xr xa ql ∧ PrevK y1 bb oo lm.length k xt xr := by
  obtain ⟨a', c', e, ⟨q, _⟩ | ⟨bb, oo, e2, hc⟩⟩ := hrd
  · rw [q] at hkl; simp at hkl
  subst e2
  cases e
  have hx := hxs _ (List.getElem_mem hkl)
  have hmem : lm[k].h ∈ hsP l1 := by rw [← hlm]; exact List.mem_map.2 ⟨_, List.getElem_mem hkl, rfl⟩
  have hk? : (hsP l1)[k]? = some lm[k].h := by rw [← hlm, List.getElem?_map, List.getElem?_eq_getElem hkl]; rfl
  obtain ⟨h1, h2, h3⟩ := head_ok h.inv hmem
  have hokx := (h.inv.inv _ hmem).ok
  have hsn := sum_nx hk?
  have hsl : sumQ (hsP l1) (k + 1) ≤ 128 := by
    have e1 := sum_le (hsP l1) (k + 1)
    rw [sum_all h.inv] at e1
    have e2 := liv_leN L1
    have e3 := h.db.pol.sz
    omega
  have hcs := fun z (g : Nw y1 z) => (hc.nw g).cell k hkl
  have hgm := fun (r : Rq) (hr : r ∈ lm[k].h.q) => get_mem h.inv hmem hr
  refine ⟨bb, oo, lm[k].h.t, lm[k].h.r, lm[k].h.W, lm[k].a, lm[k].h.q.length, lm[k].c, _, _, rfl, rfl, rfl, by omega, by unfold wrap64; omega, by rw [beq_eq_false_iff_ne]; omega, by omega, by unfold wrap64; omega, ⟨fun z g => hcs z g 0 _ rfl, fun z g => hcs z g 1 _ rfl, fun z g => hcs z g 2 _ rfl, fun z g => hcs z g 3 _ rfl⟩, ⟨fun z g => ?_, fun z g => ?_⟩, fun j hj => ?_, ?_⟩
  · refine (r9scan lm[k].h.t lm[k].h.r lm[k].h.W (hmV lm[k]) lm[k].h.q z hx.2 hokx (hx.1.nw g)).mono ?_
    rw [h2]
    rintro e y2 ⟨v4, vi, rfl, g2, hr4, _, hi4⟩
    obtain ⟨a4, n4, rfl⟩ := hr4.form
    obtain ⟨a5, c5, e5, _⟩ := hi4.box
    subst e5
    exact ⟨a4, n4, a5, c5, rfl, g2⟩
  · have := r9check lm[k].h.t lm[k].h.r lm[k].h.W (hmV lm[k]) lm[k].h.q z hx.2 (hx.1.nw g)
    rw [if_pos h1] at this
    exact this
  · obtain ⟨a6, c6, e6, ⟨q6, _⟩ | ⟨b', o', e7, hc6⟩⟩ := hx.1
    · rw [q6] at hj; simp at hj
    subst e7
    unfold hmV at e6
    injection e6 with e6 _ _
    have hr := hgm _ (List.getElem_mem hj)
    have hcr := fun z (g : Nw y1 z) => (hc6.nw g).cell j hj
    have h1000 := hx.2
    refine ⟨b', o', lm[k].h.q[j].id, lm[k].h.q[j].txn, lm[k].h.q[j].md, lm[k].h.q[j].wt, lm[k].h.q[j].sn, e6, by unfold wrap64; omega, by omega, fun z g => ⟨hcr z g 0 _ rfl, hcr z g 1 _ rfl, hcr z g 2 _ rfl, hcr z g 3 _ rfl, hcr z g 4 _ rfl⟩, fun z g => ba_get (h.step g) _ _ _ _ _ _ _ _ _ hr.1, fun z g => ba_hasN (h.step g) _ _ hr.2⟩
  · unfold PrevK
    by_cases h0 : 0 < k
    · obtain ⟨k', rfl⟩ : ∃ k', k = k' + 1 := ⟨k - 1, by omega⟩
      have hk' : k' < lm.length := by omega
      have hs := srt_next (hs := lm.map Hm.h) (by rw [hlm]; exact h.inv.srt) (k := k') (by simpa using hkl)
      simp only [List.getElem_map] at hs
      unfold nmH nlt at hs
      simp only at hs
      refine .inr ⟨k', lm[k'].h.t, lm[k'].h.r, by rw [decide_eq_true_eq]; omega, by unfold wrap64; omega, by rw [IntKind.wrap_i64] <;> omega, by omega, fun z g => ⟨(hc.nw g).cell k' hk' 0 _ rfl, (hc.nw g).cell k' hk' 1 _ rfl⟩, by rw [decide_eq_false_iff_not]; omega, ?_⟩
      by_cases ht : lm[k'].h.t = lm[k' + 1].h.t
      · exact .inr ⟨by simpa using ht, by rw [decide_eq_false_iff_not]; omega⟩
      · exact .inl (by simpa using ht)
    · exact .inl (by simpa using h0)
theorem sum_end {w y1 : World} {o mb po n m N : Nat} {l1 : List Hp} {L1 : List Bool} {F1 : Nat → Prop} (h : BA w y1 o mb po n m l1 L1 F1) {lm : List Hm} (hlm : lm.map Hm.h = hsP l1) (hN : L1.length = N) : sumQ (hsP l1) lm.length = liv L1 ∧ decide ((N : Int) < ((liv L1 : Nat) : Int)) = false := by
  constructor
  · have := sum_all h.inv
    rw [← this, ← hlm, List.length_map]
  · rw [decide_eq_false_iff_not]
    have := liv_leN L1
    omega
end Go.Proofs.YtodnlelnpidliaaGreat
end
