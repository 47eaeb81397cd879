/- Texts merged: BkZK, BkZL, BdU, PoE, PoG, PoL, PoS, BeA, TbO, SortH, TbU, SortL, TbV, TbG, TcA -/
import Derived.Test.YtpffldfpabglbaaGreatDoorTableApartB19
import Derived.RangeFuncNested
import Derived.RangeFuncBound
import Derived.RangeFuncCalls
import Derived.RangeFuncLeaves
import Derived.Shelf.RegionOpen
import Derived.OwnWalkIn
import Derived.TacticsInMore
import Derived.LoopNIn
import Derived.LoopIn
import Derived.Shelf.SlSortCmp.NoneTotal
import Derived.Test.YtpffldfpabglbaaGreatDoorChecked

/- The document's own bucket: Ask, as far as it rejects. -/
section
namespace Go.Proofs.YtpffldfpabglbaaGreatDoor
open Go.RowKit
set_option linter.unusedVariables false      -- a contract need not use every name

end Go.Proofs.YtpffldfpabglbaaGreatDoor
end

/- The document's own bucket: what leaves it as it is; another row of heads. -/
section
namespace Go.Proofs.YtpffldfpabglbaaGreatDoor
open Go.RowKit
set_option linter.unusedVariables false      -- a contract need not use every name

theorem HmOk.tchS {w w' : World} {o : Nat} {u : Option Nat} {x : Hm} {S : Nat → Prop} (h : HmOk w o u x) (t : Tch S w w') (hS : ∀ b, x.a = some b → x.h.q ≠ [] → ¬ S b.block) : HmOk w' o u x := by
  refine ⟨?_, h.cap, h.len, h.new, h.off⟩
  obtain ⟨a, c, e, q | ⟨b, o', e2, hc⟩⟩ := h.rd
  · exact ⟨a, c, e, .inl q⟩
  · subst e2
    by_cases hq : x.h.q = []
    · exact ⟨_, c, e, .inl ⟨hq, fun q => by cases q⟩⟩
    have hb : ¬ S b := hS _ (by unfold hmV at e; injection e) hq
    exact ⟨_, c, e, .inr ⟨b, o', rfl, Nat.lt_of_lt_of_le hc.lt t.size, fun i hi c u hu => (t.cell hc.lt hb).trans (hc.cell i hi c u hu)⟩⟩
/-- Blocks that are none of the bucket's may change. -/
theorem Rb.tchS {w w' : World} {S : Nat → Prop} {o po : Nat} {most : Int} {v : Value} {l : List Hm} (h : Rb w o po most v l) (t : Tch S w w') (ho : ¬ S o) (hv : ∀ b, v.ownBlock = some b → ¬ S b) (hx : ∀ x ∈ l, ∀ b, x.a = some b → x.h.q ≠ [] → ¬ S b.block) : Rb w' o po most v l :=
  ⟨(t.cell h.ol ho).trans h.c0, (t.cell h.ol ho).trans h.c1, (t.cell h.ol ho).trans h.c2, fun j => (t.froz h.ol ho).trans (h.fz j), Nat.lt_of_lt_of_le h.ol t.size, h.pl, own_tchS h.own t hv, fun x q => (h.ok x q).tchS t (hx x q), h.len⟩
end Go.Proofs.YtpffldfpabglbaaGreatDoor
end

/- Get, Len; the calls of no bucket. -/
section
namespace Go.Proofs.YtpffldfpabglbaaGreatDoor
open Go.RowKit Go.Shelf
set_option linter.unusedVariables false      -- a contract need not use every name

end Go.Proofs.YtpffldfpabglbaaGreatDoor
end

/- A range over a function that yields numbers out of a row of its own, which it has made ahead of the first one: the law. -/
section
namespace Go.Proofs.YtpffldfpabglbaaGreatDoor
open Go.RowKit Go.Shelf

/-- What lies in S lies as it lay. -/
structure KpI (S : Nat → Prop) (A B : World) : Prop where
  size : A.heap.size ≤ B.heap.size
  same : ∀ k, S k → B.heap[k]? = A.heap[k]?
theorem KpI.refl (S : Nat → Prop) (A : World) : KpI S A A := ⟨Nat.le_refl _, fun _ _ => rfl⟩
theorem KpI.trans {S : Nat → Prop} {A B C : World} (h : KpI S A B) (k : KpI S B C) : KpI S A C := ⟨Nat.le_trans h.size k.size, fun i hi => (k.same i hi).trans (h.same i hi)⟩
theorem KpI.put {S : Nat → Prop} {A : World} {l : Nat} (o : Obj) (hl : ¬ S l) : KpI S A (A.putObj l o) := ⟨by simp, fun i hi => World.putObj_heap_other (fun e => hl (e ▸ hi))⟩
variable {F : Fence} {n : Nat} {P : Program}
end Go.Proofs.YtpffldfpabglbaaGreatDoor
end

/- A pool: Each and its iterator. -/
section
namespace Go.Proofs.YtpffldfpabglbaaGreatDoor
open Go.RowKit Go.Shelf
set_option linter.unusedVariables false
attribute [local go_sem] Oper.semAt_some

/-- A value that reads as a row of truths of the call's own. -/
abbrev BS (w : World) (v : Value) (L : List Bool) : Prop := w.ownsRow 0 4 1 v L.length (L.map Value.bool)
theorem BS.form {w : World} {v : Value} {l : List Bool} (h : BS w v l) : (v = .slice none 0 0 ∧ l = []) ∨ ∃ g cap, v = .slice (some ⟨g, 0, none⟩) l.length cap := by
  rcases h.2 with ⟨rfl, h0⟩ | ⟨g, cap, cur, rfl, _⟩
  · exact .inl ⟨rfl, List.length_eq_zero_iff.1 h0⟩
  · exact .inr ⟨g, cap, rfl⟩
theorem BS.cell {w : World} {g cap : Nat} {l : List Bool} (h : BS w (.slice (some ⟨g, 0, none⟩) l.length cap) l) (i : Nat) (hi : i < l.length) : w.cell? ⟨g, i, none⟩ = some (.bool (l.getD i false)) :=
  (World.ownsRow.cellAt h i (by omega)).trans (by simp [List.getD, hi])
end Go.Proofs.YtpffldfpabglbaaGreatDoor
end

/- What the law's own loop over Each collects; lives. -/
section
namespace Go.Proofs.YtpffldfpabglbaaGreatDoor
open Go.RowKit Go.Shelf
set_option linter.unusedVariables false
attribute [local go_sem] Oper.semAt_some

theorem tch_put {S : Nat → Prop} {A : World} {D : Nat} (o : Obj) (h : S D) : Tch S A (A.putObj D o) := ⟨rfl, rfl, rfl, by simp, fun k _ hk => World.putObj_heap_other (fun e => hk (e ▸ h))⟩

/-- The answer of the law's own lent. -/
def LentP (w : World) (l : List Int) (e : Ending) (W : World) : Prop := ∃ v, e = .returned (.tuple #[v, .bool true]) ∧ IS W v l ∧ (∀ k, v.ownBlock = some k → w.heap.size ≤ k) ∧ Nw w W
/-- Between two rounds: s is the size of the heap at the law's start. -/
structure LnI (w : World) (S : Nat → Prop) (pre : List Int) (A : World) (v : Value) : Prop where
  nw : Nw w A
  is : IS A v pre
  own : ∀ k, v.ownBlock = some k → w.heap.size + 6 ≤ k ∧ ¬ S k
  out : A.cell? ⟨w.heap.size + 3, 0, none⟩ = some v ∧ A.frozen? ⟨w.heap.size + 3, 0, none⟩ = false
  r1 : A.cell? ⟨w.heap.size, 0, none⟩ = some (.slice none 0 0) ∧ A.frozen? ⟨w.heap.size, 0, none⟩ = false
  r2 : A.cell? ⟨w.heap.size + 1, 0, none⟩ = some (.bool false) ∧ A.frozen? ⟨w.heap.size + 1, 0, none⟩ = false
  sb : ∀ k, S k → w.heap.size + 4 ≤ k ∧ k < A.heap.size
theorem LnI.tch {w A B : World} {S T : Nat → Prop} {pre : List Int} {v : Value} (h : LnI w S pre A v) (k : Tch T A B) (hT : ∀ i, T i → w.heap.size + 4 ≤ i ∧ v.ownBlock ≠ some i) : LnI w S pre B v := by
  have hlt : w.heap.size + 3 < A.heap.size := World.block_lt_of_cell? _ _ h.out.1
  have n3 : ¬ T (w.heap.size + 3) := fun e => by have := (hT _ e).1; omega
  have n1 : ¬ T (w.heap.size + 1) := fun e => by have := (hT _ e).1; omega
  have n0 : ¬ T w.heap.size := fun e => by have := (hT _ e).1; omega
  exact ⟨nw_tch h.nw k (fun i e => by have := (hT _ e).1; omega), h.is.tch k (fun g e q => (hT _ q).2 e), h.own, ⟨(k.cell hlt n3).trans h.out.1, (k.froz hlt n3).trans h.out.2⟩,
    ⟨(k.cell (by omega) n0).trans h.r1.1, (k.froz (by omega) n0).trans h.r1.2⟩, ⟨(k.cell (by omega) n1).trans h.r2.1, (k.froz (by omega) n1).trans h.r2.2⟩, fun i e => ⟨(h.sb i e).1, Nat.lt_of_lt_of_le (h.sb i e).2 k.size⟩⟩
theorem LnI.push {w A w1 : World} {S : Nat → Prop} {pre : List Int} {v : Value} {x : Int} {g cap : Nat} (h : LnI w S pre A v) (hA : w.heap.size + 6 ≤ A.heap.size) (q1 : IS w1 (.slice (some ⟨g, 0, none⟩) (pre.length + 1) cap) (pre ++ [x])) (q2 : Tch (fun k => v.ownBlock = some k) A w1)
    (q3 : ∀ k, (Value.slice (some ⟨g, 0, none⟩) (pre.length + 1) cap).ownBlock = some k → v.ownBlock = some k ∨ A.heap.size ≤ k) :
    LnI w S (pre ++ [x]) (w1.setCell ⟨w.heap.size + 3, 0, none⟩ (.slice (some ⟨g, 0, none⟩) (pre.length + 1) cap)) (.slice (some ⟨g, 0, none⟩) (pre.length + 1) cap) ∧
    KpI S A (w1.setCell ⟨w.heap.size + 3, 0, none⟩ (.slice (some ⟨g, 0, none⟩) (pre.length + 1) cap)) ∧
    (∀ k, (k = w.heap.size + 4 ∨ k = w.heap.size + 5) → (w1.setCell ⟨w.heap.size + 3, 0, none⟩ (.slice (some ⟨g, 0, none⟩) (pre.length + 1) cap)).heap[k]? = A.heap[k]?) ∧
    w1.cell? ⟨w.heap.size + 3, 0, none⟩ = some v ∧ w1.frozen? ⟨w.heap.size + 3, 0, none⟩ = false := by
  have hg := q3 g rfl
  have hgo : w.heap.size + 6 ≤ g ∧ ¬ S g := by
    rcases hg with e | e
    · exact h.own g e
    · exact ⟨by omega, fun q => by have := (h.sb g q).2; omega⟩
  have no : ∀ i, i < w.heap.size + 6 → ¬ (v.ownBlock = some i) := fun i hi e => by have := (h.own i e).1; omega
  have t2 := setCell_at w1 ⟨w.heap.size + 3, 0, none⟩ (.slice (some ⟨g, 0, none⟩) (pre.length + 1) cap)
  have c3 := (q2.cell (o := 0) (show w.heap.size + 3 < A.heap.size by omega) (no _ (by omega))).trans h.out.1
  have f3 := (q2.froz (o := 0) (show w.heap.size + 3 < A.heap.size by omega) (no _ (by omega))).trans h.out.2
  have sz := q2.size
  have c : ∀ b, b < w.heap.size + 6 → b ≠ w.heap.size + 3 → (w1.setCell ⟨w.heap.size + 3, 0, none⟩ (.slice (some ⟨g, 0, none⟩) (pre.length + 1) cap)).heap[b]? = A.heap[b]? := fun b hb hn =>
    (t2.block b (by omega) hn).trans (q2.block b (by omega) (no _ hb))
  refine ⟨⟨nw_tch (nw_tch h.nw q2 (fun i e => by have := (h.own i e).1; omega)) t2 (fun i e => by simp at e; omega), q1.tch t2 (fun b e => by simp [Value.ownBlock] at e; subst e; simp; omega), fun k e => by simp [Value.ownBlock] at e; subst e; exact hgo, ⟨World.cell?_setCell_same _ _ _ c3, by rw [World.frozen?_setCell]; exact f3⟩, ?_, ?_, fun i e => ⟨(h.sb i e).1, by have := (h.sb i e).2; simp; omega⟩⟩, ⟨by simp; omega, fun k e => ?_⟩, fun k e => ?_, c3, f3⟩
  · exact ⟨(World.cell?_of_block (c w.heap.size (by omega) (by omega))).trans h.r1.1, (World.frozen?_of_block (c w.heap.size (by omega) (by omega))).trans h.r1.2⟩
  · exact ⟨(World.cell?_of_block (c (w.heap.size + 1) (by omega) (by omega))).trans h.r2.1, (World.frozen?_of_block (c (w.heap.size + 1) (by omega) (by omega))).trans h.r2.2⟩
  · have hk := h.sb k e
    exact (t2.block k (by omega) (by simp; omega)).trans (q2.block k hk.2 (fun q => (h.own k q).2 e))
  · rcases e with rfl | rfl
    · exact c _ (by omega) (by omega)
    · exact c _ (by omega) (by omega)
theorem LnI.done {w A : World} {S : Nat → Prop} {pre : List Int} {v : Value} (h : LnI w S pre A v) (hK : A.heap[w.heap.size + 4]? = some (.deferred (some []))) :
    LentP w pre (.returned (.tuple #[v, .bool true])) (((A.setCell ⟨w.heap.size, 0, none⟩ v).setCell ⟨w.heap.size + 1, 0, none⟩ (.bool true)).putObj (w.heap.size + 4) (.deferred none)) ∧
    (((A.setCell ⟨w.heap.size, 0, none⟩ v).setCell ⟨w.heap.size + 1, 0, none⟩ (.bool true)).putObj (w.heap.size + 4) (.deferred none)).cell? ⟨w.heap.size, 0, none⟩ = some v ∧
    (((A.setCell ⟨w.heap.size, 0, none⟩ v).setCell ⟨w.heap.size + 1, 0, none⟩ (.bool true)).putObj (w.heap.size + 4) (.deferred none)).cell? ⟨w.heap.size + 1, 0, none⟩ = some (.bool true) ∧
    ((A.setCell ⟨w.heap.size, 0, none⟩ v).setCell ⟨w.heap.size + 1, 0, none⟩ (.bool true)).heap[w.heap.size + 4]? = some (.deferred (some [])) := by
  have hlt : w.heap.size + 4 < A.heap.size := (Array.getElem?_eq_some_iff.1 hK).1
  have t1 : Tch (fun k => k = w.heap.size ∨ k = w.heap.size + 1) A ((A.setCell ⟨w.heap.size, 0, none⟩ v).setCell ⟨w.heap.size + 1, 0, none⟩ (.bool true)) :=
    Tch.set (S := fun k => k = w.heap.size ∨ k = w.heap.size + 1) (p := ⟨w.heap.size + 1, 0, none⟩) (Tch.set (S := fun k => k = w.heap.size ∨ k = w.heap.size + 1) (p := ⟨w.heap.size, 0, none⟩) (Tch.refl _ A) (.inl (.inl rfl)) v) (.inl (.inr rfl)) _
  have t2 : Tch (fun k => k = w.heap.size + 4) _ (((A.setCell ⟨w.heap.size, 0, none⟩ v).setCell ⟨w.heap.size + 1, 0, none⟩ (.bool true)).putObj (w.heap.size + 4) (.deferred none)) := tch_put _ rfl
  have t3 := (t1.mono (S' := fun k => k = w.heap.size ∨ k = w.heap.size + 1 ∨ k = w.heap.size + 4) (fun k _ e => by omega)).trans (t2.mono (fun k _ e => by omega))
  have hs : A.heap.size ≤ ((A.setCell ⟨w.heap.size, 0, none⟩ v).setCell ⟨w.heap.size + 1, 0, none⟩ (.bool true)).heap.size := t1.size
  refine ⟨⟨v, rfl, h.is.tch t3 (fun g e q => by have := (h.own g e).1; omega), fun k e => by have := (h.own k e).1; omega, nw_tch h.nw t3 (fun i e => by omega)⟩, ?_, ?_, ?_⟩
  · rw [t2.cell (by omega) (by omega), World.cell?_setCell_other _ _ _ _ (by simp)]
    exact World.cell?_setCell_same _ _ _ h.r1.1
  · rw [t2.cell (by omega) (by omega)]
    exact World.cell?_setCell_same _ _ _ (by rw [World.cell?_setCell_other _ _ _ _ (by simp)]; exact h.r2.1)
  · exact (t1.block _ hlt (by omega)).trans hK
end Go.Proofs.YtpffldfpabglbaaGreatDoor
end

/- A pool of the call's own, step by step; lives; rows of numbers that came in. -/
section
namespace Go.Proofs.YtpffldfpabglbaaGreatDoor
open Go.RowKit
set_option linter.unusedVariables false

/-- A pool of the call's own: nothing that was there has changed. -/
structure PAcc (w W : World) (p : Nat) (L : List Bool) (F : Nat → Prop) : Prop where
  po : Pol W p L F
  new : ∀ k, F k → w.heap.size ≤ k
  nw : Nw w W
theorem PAcc.step {w W W' : World} {p : Nat} {L : List Bool} {F : Nat → Prop} (h : PAcc w W p L F) (k : Nw W W') : PAcc w W' p L F := ⟨h.po.nw k, h.new, h.nw.trans k⟩
/-- A step of such a pool: what else changes. -/
def PAccTo (w W : World) (p : Nat) (F : Nat → Prop) (L : List Bool) (W' : World) : Prop := ∃ F', PAcc w W' p L F' ∧ (∀ k, F' k → F k ∨ W.heap.size ≤ k) ∧ Tch F W W'
theorem PAcc.to {w W W' : World} {p : Nat} {L L' : List Bool} {F : Nat → Prop} (h : PAcc w W p L F) (k : PolTo W p F L' W') : PAccTo w W p F L' W' := by
  obtain ⟨F', h1, h2, h3⟩ := k
  exact ⟨F', ⟨h1, fun k e => (h2 k e).elim (h.new k) (fun q => Nat.le_trans h.nw.sz q), nw_tch h.nw h3 h.new⟩, h2, h3⟩
/-- What the walk is told of a slice of numbers that came in. -/
def IsNum (w : World) (a : Option Addr) (len cap : Nat) (zs : List Int) : Prop :=
  (a = none ∧ len = 0 ∧ cap = 0 ∧ zs = []) ∨
  ∃ x, a = some x ∧ len ≤ cap ∧ cap ≤ maxLen ∧ zs.length = cap ∧ (∀ i, i < zs.length → w.cell? (x.add i) = some (.int .i64 (zs.getD i 0))) ∧ ∀ n ∈ zs, (Lit.int .i64 n).wf = true
theorem IsNum.at {w : World} {a : Option Addr} {len cap : Nat} {zs : List Int} (h : IsNum w a len cap zs) (hl : 0 < len) : ∃ b o, a = some ⟨b, o, none⟩ ∧ len ≤ maxLen ∧ b < w.heap.size ∧ (∀ i, i < len → w.cell? ⟨b, o + i, none⟩ = some (.int .i64 (zs.getD i 0))) ∧ ∀ i, i < len → (Lit.int .i64 (zs.getD i 0)).wf = true := by
  rcases h with ⟨_, h0, _⟩ | ⟨x, rfl, h1, h2, h3, h4, h5⟩
  · omega
  · obtain ⟨b, o, spot⟩ := x
    have hs : spot = none := by simpa [Addr.add] using World.cell?_spot (h4 0 (by omega))
    subst hs
    have hc : ∀ i, i < len → w.cell? ⟨b, o + i, none⟩ = some (.int .i64 (zs.getD i 0)) := fun i hi => by
      have := h4 i (by omega)
      rwa [Addr.add_lit] at this
    refine ⟨b, o, rfl, by omega, World.block_lt_of_cell? _ _ (hc 0 hl), hc, fun i hi => h5 _ ?_⟩
    have : i < zs.length := by omega
    simp [List.getD, this]
end Go.Proofs.YtpffldfpabglbaaGreatDoor
end

/- The laws of buckets: a bucket and its pool of the call's own; made, lives, call. -/
section
namespace Go.Proofs.YtpffldfpabglbaaGreatDoor
open Go.RowKit Go.Shelf
set_option linter.unusedVariables false      -- a contract need not use every name

structure BA (w W : World) (o mb po n k : Nat) (l : List Hp) (L : List Bool) (F : Nat → Prop) : Prop where
  db : Db W o mb po n l L F
  inv : BInv n k (hsP l) [] L
  nw : Nw w W
  mn : w.heap.size ≤ mb
  new : ∀ k, F k → w.heap.size ≤ k
theorem BA.step {w W W' : World} {o mb po n k : Nat} {l : List Hp} {L : List Bool} {F : Nat → Prop} (h : BA w W o mb po n k l L F) (g : Nw W W') : BA w W' o mb po n k l L F := ⟨h.db.nw g, h.inv, h.nw.trans g, h.mn, h.new⟩
theorem BA.to {w W W' : World} {o mb po n k : Nat} {l l' : List Hp} {L L' : List Bool} {F : Nat → Prop} (h : BA w W o mb po n k l L F) (d : DbTo W o mb po n F l W' l' L') (b : BInv n (k + 1) (hsP l') [] L') : ∃ F', BA w W' o mb po n (k + 1) l' L' F' := by
  obtain ⟨F', h1, h2, h3, _⟩ := d
  exact ⟨F', h1, b, nw_tch h.nw h3 (fun i e => e.elim (fun e => e ▸ h.mn) (h.new i)), h.mn, fun i e => (h2 i e).elim (h.new i) (fun q => Nat.le_trans h.nw.sz q)⟩
/-- What a call leaves. -/
def BaTo (w : World) (o mb po n k : Nat) (hs : List Hq) (L : List Bool) (W : World) : Prop := ∃ l F, hsP l = hs ∧ BA w W o mb po n k l L F
section
variable {w W : World} {o mb po n k : Nat} {l : List Hp} {L : List Bool} {F : Nat → Prop}
end
/-- Heads stay where their blocks do. -/
theorem HdsAt.keep {w w' : World} {o : Nat} {v : Value} {hs : List Hq} (h : HdsAt w o v hs) (hk : ∀ k, o < k → k < w.heap.size → w'.heap[k]? = w.heap[k]?) : HdsAt w' o v hs := by
  obtain ⟨lm, h1, h2, h3⟩ := h
  refine ⟨lm, ⟨h1.1, ?_⟩, h2, fun x hx => (h3 x hx).blk fun b j z e hq hc => ⟨hk _ (by have := (h3 x hx).new b _ _ (by unfold hmV; rw [e]); omega) (World.block_lt_of_cell? _ ⟨b.block, j, none⟩ hc), (h3 x hx).off b e hq⟩⟩
  have hge : ∀ g, v.ownBlock = some g → o + 1 ≤ g ∧ g < w.heap.size := fun g e => ⟨oge h1 e, olt h1 e⟩
  rcases h1.2 with h0 | ⟨g, cap, cur, rfl, hb, hg, rest⟩
  · exact .inl h0
  · have := hge g rfl
    exact .inr ⟨g, cap, cur, rfl, hb, (hk g (by omega) this.2).trans hg, rest⟩
theorem kit_T (t : Int) (w : World) : Calls Tryz.prog 41 #[.int .i64 t] w fun e w' => e = .returned (.agg #[.int .i64 t, .int .i64 (-1)]) ∧ Nw w w' := by
  go_enter Tryz.func41, Tryz.ntmps41
  go_wp2
  exact bodyPost_ret (v := .agg #[.int .i64 t, .int .i64 (-1)]) (by simp [results, Tryz.results41, go_sem, *]) rfl ⟨rfl, (Nw.refl w).alloc _⟩
/-- After some calls. -/
def BaS (w : World) (o mb po n k : Nat) (W : World) : Prop := ∃ l L F, BA w W o mb po n k l L F
theorem BaTo.some {w W : World} {o mb po n k : Nat} {hs : List Hq} {L : List Bool} (h : BaTo w o mb po n k hs L W) : BaS w o mb po n k W := by
  obtain ⟨l, F, _, h⟩ := h
  exact ⟨l, L, F, h⟩
end Go.Proofs.YtpffldfpabglbaaGreatDoor
end

/- Rows of heads of the call's own: one row appended to another one; sorted. -/
section
namespace Go.Proofs.YtpffldfpabglbaaGreatDoor
open Go.RowKit Go.Sort
set_option linter.unusedVariables false

theorem gro_tch {w w' : World} {row : Option Nat} (g : w.grownBy w' row) : Tch (fun b => row = some b) w w' := ⟨g.os, g.tape, g.output, g.size, fun k hk hn => g.block k hk (fun e => hn e.symm)⟩
/-- Append of whatever reads as a list; where the result lies. -/
theorem own_appP {α : Type} {P : Program} {ST T : TypeId} {sz bytes : Nat} {row : α → List Value} (E : Elem P ST T sz bytes row) {w : World} {g0 : Nat} {v v2 : Value} {l sg : List α} (h : Own T sz row w g0 v l) (h2 : Rd sz row w v2 sg) (hsm : l.length + sg.length ≤ 100000) (hg0 : g0 ≤ w.heap.size) :
    ∃ v' w1, (Builtin.append_ #[ST, ST] ST #[v, v2]).run P w = .ok v' w1 ∧ Own T sz row w1 g0 v' (l ++ sg) ∧ w.grownBy w1 v.ownBlock ∧ (v'.ownBlock = v.ownBlock ∨ v'.ownBlock = some w.heap.size) := by
  obtain ⟨a, c, rfl, ⟨rfl, h0⟩ | ⟨b, o, rfl, hc⟩⟩ := h2
  · cases a with
    | none =>
      obtain rfl := h0 rfl
      obtain ⟨i0, z, hi, hz0, hz1, hz2, hz3⟩ := E.inf
      exact ⟨_, _, run_append_owned_none (P := P) w g0 ST ST T i0 sz E.und hi _ _ _ h, by rw [List.append_nil]; exact h, (Nw.refl w).grownBy _, .inl rfl⟩
    | some ad => exact Own.many E h [] ad c (fun j u hu => by simp [rowsOf] at hu) hsm hg0
  · exact Own.many E h sg ⟨b, o, none⟩ c (hc.flat E.len E.pos) hsm hg0
theorem newV_le {n m : Nat} {v : Value} (h : newV n v) (k : m ≤ n) : newV m v := fun a c d e => Nat.le_trans k (h a c d e)
theorem HdsAt.lm {w : World} {o : Nat} {v : Value} {hs : List Hq} (h : HdsAt w o v hs) : ∃ lm, HmOwn w (o + 1) v lm ∧ lm.map Hm.h = hs ∧ ∀ x ∈ lm, HmOk w o v.ownBlock x := h
theorem hds_nil (w : World) (o : Nat) : HdsAt w o (.slice none 0 0) [] := ⟨[], World.ownsRow_nil _ _ _ _, rfl, fun x hx => by cases hx⟩
theorem HdsAt.form {w : World} {o : Nat} {v : Value} {hs : List Hq} (h : HdsAt w o v hs) : (v = .slice none 0 0 ∧ hs = []) ∨ ∃ g cap, v = .slice (some ⟨g, 0, none⟩) hs.length cap ∧ o < g ∧ g < w.heap.size := by
  obtain ⟨lm, h1, rfl, h3⟩ := h
  rcases oform h1 with ⟨rfl, e⟩ | ⟨g, cap, rfl⟩
  · exact .inl ⟨rfl, by rw [List.length_eq_zero_iff.1 e]; rfl⟩
  · exact .inr ⟨g, cap, by rw [List.length_map], oge h1 rfl, olt h1 rfl⟩
theorem HdsAt.app {w : World} {o o2 : Nat} {v v2 : Value} {hs hs2 : List Hq} (h : HdsAt w o v hs) (h2 : HdsAt w o2 v2 hs2) (ho : o ≤ o2) (hv : ∀ b, v.ownBlock = some b → b ≤ o2) (hsm : hs.length + hs2.length ≤ 100000) :
    ∃ v' w1, (Builtin.append_ #[40, 40] 40 #[v, v2]).run Tryz.prog w = .ok v' w1 ∧ HdsAt w1 o v' (hs ++ hs2) ∧ w.grownBy w1 v.ownBlock ∧ (v'.ownBlock = v.ownBlock ∨ v'.ownBlock = some w.heap.size) := by
  rcases h2.form with ⟨rfl, rfl⟩ | ⟨g2, cap2, e2, hg2, hg2'⟩
  · obtain ⟨lm, h1, rfl, h3⟩ := h
    obtain ⟨i0, z, hi, hz0, hz1, hz2, hz3⟩ := elemHm.inf
    exact ⟨_, _, run_append_owned_none (P := Tryz.prog) w (o + 1) 40 40 63 i0 4 elemHm.und hi _ _ _ h1, ⟨lm, h1, by rw [List.append_nil], h3⟩, (Nw.refl w).grownBy _, .inl rfl⟩
  have hol : o < w.heap.size := by omega
  clear e2
  obtain ⟨lm, h1, rfl, h3⟩ := h
  obtain ⟨lm2, k1, rfl, k3⟩ := h2
  obtain ⟨v', w1, hr, hO, hg, hp⟩ := own_appP elemHm h1 (Own.rd elemHm.len k1) (by simpa using hsm) hol
  have t := gro_tch hg
  refine ⟨v', w1, hr, ⟨lm ++ lm2, hO, by rw [List.map_append], fun x hx => ?_⟩, hg, hp⟩
  rcases List.mem_append.1 hx with q | q
  · have k := (h3 x q).tchS t (fun b e hq e2 => (h3 x q).off b e hq e2)
    refine ⟨k.rd, k.cap, k.len, k.new, fun b e hq e2 => ?_⟩
    rcases hp with hp | hp
    · exact (h3 x q).off b e hq (hp ▸ e2)
    · have h5 := rq_low (h3 x q).rd e hq
      rw [hp] at e2
      have := Option.some.inj e2
      omega
  · have hb : ∀ b, x.a = some b → o2 + 1 ≤ b.block := fun b e => (k3 x q).new b x.h.q.length x.c (by unfold hmV; rw [e])
    have k := (k3 x q).tchS t (fun b e hq e2 => by have := hv _ e2; have := hb b e; omega)
    refine ⟨k.rd, k.cap, k.len, newV_le k.new (by omega), fun b e hq e2 => ?_⟩
    rcases hp with hp | hp
    · rw [hp] at e2
      have := hv _ e2
      have := hb b e
      omega
    · have h5 := rq_low (k3 x q).rd e hq
      rw [hp] at e2
      have := Option.some.inj e2
      omega
/-- A row whose cells were put into another order. -/
theorem HdsAt.sort {w w' : World} {o g cap : Nat} {lm l : List Hm} (h1 : HmOwn w (o + 1) (.slice (some ⟨g, 0, none⟩) lm.length cap) lm) (h3 : ∀ x ∈ lm, HmOk w o (some g) x) (p : l.Perm lm) (h2 : HmOwn w' (o + 1) (.slice (some ⟨g, 0, none⟩) l.length cap) l) (t : Tch (fun b => b = g) w w') :
    HdsAt w' o (.slice (some ⟨g, 0, none⟩) l.length cap) (l.map Hm.h) :=
  ⟨l, h2, rfl, fun x hx => (h3 x (p.mem_iff.1 hx)).tchS t (fun b e hq e2 => (h3 x (p.mem_iff.1 hx)).off b e hq (congrArg some e2.symm))⟩
end Go.Proofs.YtpffldfpabglbaaGreatDoor
end

/- The library's SortFunc at this program, over heads, laid by the kit's own command in plain words. -/
section
namespace Go.Proofs
open Go.Shelf
def Tryz.sortH_ren : Go.Shelf.Ren := ⟨fun | 6 => 58 | 15 => 106 | 14 => 105 | 28 => 157 | 29 => 158 | 20 => 149 | 21 => 150 | 22 => 151 | 23 => 152 | 24 => 153 | 25 => 154 | 26 => 155 | 27 => 156 | 46 => 189 | 47 => 190 | 48 => 191 | 49 => 192 | 50 => 193 | 57 => 221 | n => n, fun | 22 => 40 | 24 => 63 | 25 => 107 | 3 => 3 | 39 => 144 | 0 => 0 | 53 => 149 | 55 => 187 | 4 => 4 | 46 => 180 | 45 => 179 | 50 => 53 | 5 => 5 | 9 => 9 | 66 => 213 | 70 => 217 | 76 => 239 | 77 => 55 | n => n, fun | n => n⟩
theorem Tryz.sortH : Go.Proofs.SlLaysF0.n6 Tryz.prog Tryz.sortH_ren := {
  mixed := by kernel_rfl
  f6 := ⟨Tryz.f58.name, by decide, Tryz.func58.trans (congrArg some (by kernel_rfl))⟩
  f14 := ⟨Tryz.f105.name, by decide, Tryz.func105.trans (congrArg some (by kernel_rfl))⟩
  f15 := Tryz.func106.trans (congrArg some (by kernel_rfl))
  f20 := ⟨Tryz.f149.name, by decide, Tryz.func149.trans (congrArg some (by kernel_rfl))⟩
  f21 := ⟨Tryz.f150.name, by decide, Tryz.func150.trans (congrArg some (by kernel_rfl))⟩
  f22 := ⟨Tryz.f151.name, by decide, Tryz.func151.trans (congrArg some (by kernel_rfl))⟩
  f23 := ⟨Tryz.f152.name, by decide, Tryz.func152.trans (congrArg some (by kernel_rfl))⟩
  f24 := ⟨Tryz.f153.name, by decide, Tryz.func153.trans (congrArg some (by kernel_rfl))⟩
  f25 := ⟨Tryz.f154.name, by decide, Tryz.func154.trans (congrArg some (by kernel_rfl))⟩
  f26 := ⟨Tryz.f155.name, by decide, Tryz.func155.trans (congrArg some (by kernel_rfl))⟩
  f27 := ⟨Tryz.f156.name, by decide, Tryz.func156.trans (congrArg some (by kernel_rfl))⟩
  f28 := Tryz.func157.trans (congrArg some (by kernel_rfl))
  f29 := Tryz.func158.trans (congrArg some (by kernel_rfl))
  f46 := ⟨Tryz.f189.name, by decide, Tryz.func189.trans (congrArg some (by kernel_rfl))⟩
  f47 := Tryz.func190.trans (congrArg some (by kernel_rfl))
  f48 := Tryz.func191.trans (congrArg some (by kernel_rfl))
  f49 := ⟨Tryz.f192.name, by decide, Tryz.func192.trans (congrArg some (by kernel_rfl))⟩
  f50 := ⟨Tryz.f193.name, by decide, Tryz.func193.trans (congrArg some (by kernel_rfl))⟩
  f57 := ⟨Tryz.f221.name, by decide, Tryz.func221.trans (congrArg some (by kernel_rfl))⟩
  t0 := Tryz.underlying0
  a0 := Tryz.isAgg0
  z0 := Tryz.sizeOf0
  v0 := Tryz.zeroValue0
  t3 := Tryz.underlying3
  a3 := Tryz.isAgg3
  z3 := Tryz.sizeOf3
  v3 := Tryz.zeroValue3
  t4 := Tryz.underlying4
  a4 := Tryz.isAgg4
  z4 := Tryz.sizeOf4
  v4 := Tryz.zeroValue4
  t5 := Tryz.underlying5
  a5 := Tryz.isAgg5
  z5 := Tryz.sizeOf5
  v5 := Tryz.zeroValue5
  t9 := Tryz.underlying9
  a9 := Tryz.isAgg9
  z9 := Tryz.sizeOf9
  v9 := Tryz.zeroValue9
  t22 := Tryz.underlying40
  a22 := Tryz.isAgg40
  z22 := Tryz.sizeOf40
  v22 := Tryz.zeroValue40
  t25 := Tryz.underlying107
  a25 := Tryz.isAgg107
  z25 := Tryz.sizeOf107
  v25 := Tryz.zeroValue107
  t39 := Tryz.underlying144
  a39 := Tryz.isAgg144
  z39 := Tryz.sizeOf144
  v39 := Tryz.zeroValue144
  t45 := Tryz.underlying179
  a45 := Tryz.isAgg179
  z45 := Tryz.sizeOf179
  v45 := Tryz.zeroValue179
  t46 := Tryz.underlying180
  a46 := Tryz.isAgg180
  z46 := Tryz.sizeOf180
  v46 := Tryz.zeroValue180
  t50 := Tryz.underlying53
  a50 := Tryz.isAgg53
  z50 := Tryz.sizeOf53
  v50 := Tryz.zeroValue53
  t53 := Tryz.underlying149
  a53 := Tryz.isAgg149
  z53 := Tryz.sizeOf149
  v53 := Tryz.zeroValue149
  t55 := Tryz.underlying187
  a55 := Tryz.isAgg187
  z55 := Tryz.sizeOf187
  v55 := Tryz.zeroValue187
  t66 := Tryz.underlying213
  a66 := Tryz.isAgg213
  z66 := Tryz.sizeOf213
  v66 := Tryz.zeroValue213
  t70 := Tryz.underlying217
  a70 := Tryz.isAgg217
  z70 := Tryz.sizeOf217
  v70 := Tryz.zeroValue217
  t76 := Tryz.underlying239
  a76 := Tryz.isAgg239
  z76 := Tryz.sizeOf239
  v76 := Tryz.zeroValue239
  t77 := Tryz.underlying55
  a77 := Tryz.isAgg55
  z77 := Tryz.sizeOf55
  v77 := Tryz.zeroValue55 }
end Go.Proofs
end

/- The developers' table: heads, Snapshot. -/
section
namespace Go.Proofs.YtpffldfpabglbaaGreatDoor
open Go.RowKit Go.Sort Go.Shelf
set_option linter.unusedVariables false      -- a contract need not use every name

theorem tbyPlace_any (t r t' r' : Int) (w : World) :
    Calls Tryz.prog 60 #[.agg #[.int .i64 t, .int .i64 r], .agg #[.int .i64 t', .int .i64 r']] w fun e w' => e = .returned (.int .i64 (orP (cP t t') (cP r r'))) ∧ GG w w' := by
  go_enter Tryz.func60, Tryz.ntmps60
  go_wp2
  go_region_held3 (fun w' => TwoB w t r t' r' w') (first | assumption | exact twoB_start w t r t' r' _ | exact twoB_step (by assumption) (by assumption) | exact twoB_step ((GG.refl _).alloc _) (by assumption) | exact twoB_step (GG.refl _).drew (by assumption))
    (first | (go_at_call 108; refine (cmpInt_p _ _ _).mono ?_; rintro e w' ⟨rfl, rfl⟩) | (go_at_call 107; refine (or_p _ (cP t t') (cP r r') _ (by simp [go_sem]) (by simp [go_sem])).mono ?_; rintro e w' ⟨rfl, rfl⟩))
  all_goals
    rename_i hS
    go_wp2
    go_ret
    exact ⟨rfl, hS.2.2⟩
theorem snapCmp_any (x y : Hm) (w : World) : Calls Tryz.prog 59 #[.agg (hmrow x).toArray, .agg (hmrow y).toArray] w fun e w' => e = .returned (.int .i64 (cmpM x y)) ∧ GG w w' := by
  obtain ⟨⟨xt, xr, xW, xq⟩, xa, xc⟩ := x
  obtain ⟨⟨yt, yr, yW, yq⟩, ya, yc⟩ := y
  simp only [hmrow, cmpM, cmpN, nmH]
  obtain ⟨xl, hxl⟩ : ∃ n, xq.length = n := ⟨_, rfl⟩
  obtain ⟨yl, hyl⟩ : ∃ n, yq.length = n := ⟨_, rfl⟩
  rw [hxl, hyl]
  clear hxl hyl
  have HG := Lib.hid (((GG.refl w).alloc (.cells #[.int .i64 xt, .int .i64 xr, .slice xa xl xc, .int .i64 xW] 63)).alloc (.cells #[.int .i64 yt, .int .i64 yr, .slice ya yl yc, .int .i64 yW] 63))
  go_enter Tryz.func59, Tryz.ntmps59
  go_wp2_with fail
  refine (tbyPlace_any xt xr yt yr _).mono ?_
  rintro e w1 ⟨rfl, g1⟩
  have HE := Lib.hid (HG.out.trans g1)
  clear g1 HG
  go_wp2
  go_ret
  exact ⟨rfl, HE.out⟩
theorem e_snap : ∀ args w, (callFunc 59 args).run Tryz.prog w = .ok (.enter 59 args) w := enters_of Tryz.func59 (by kernel_rfl) rfl
theorem nxU (k : Nat) : (k : Int) + 1 = ((k + 1 : Nat) : Int) := rfl
theorem downU (a b : Nat) (h : b < a) : a - (intOf (.int .i64 ((b : Int) + 1))).toNat < a - (intOf (.int .i64 (b : Int))).toNat := by
  show a - ((b : Int) + 1).toNat < a - (b : Int).toNat
  omega
theorem flat_take {hss : List (List Hq)} {j : Nat} (hj : j < hss.length) : (hss.take (j + 1)).flatten = (hss.take j).flatten ++ hss[j] := by
  rw [List.take_succ_eq_append_getElem hj, List.flatten_append]
  simp
theorem flatT_len {hss : List (List Hq)} (h : ∀ l ∈ hss, l.length ≤ 64) (hn : hss.length ≤ 16) (j : Nat) : (hss.take j).flatten.length ≤ 1024 := by
  have key : ∀ (l : List (List Hq)), (∀ x ∈ l, x.length ≤ 64) → l.flatten.length ≤ 64 * l.length := by
    intro l
    induction l with
    | nil => intro _; simp
    | cons a t ih =>
      intro h1
      have := ih (fun x hx => h1 x (List.mem_cons_of_mem _ hx))
      have := h1 a (by simp)
      simp only [List.flatten_cons, List.length_append, List.length_cons]
      omega
  have h2 := key (hss.take j) (fun x hx => h x (List.mem_of_mem_take hx))
  have h3 : (hss.take j).length ≤ 16 := by rw [List.length_take]; omega
  omega
section
variable {W : World} {o S n N k : Nat} {C : Cps} {hss : List (List Hq)} {L : List Bool} {J : Nat → Prop}
set_option maxRecDepth 20000 in
set_option maxHeartbeats 4000000 in
theorem theads_t (h : Tab W o S n N k C hss L J) (hS : S ≤ 16) (hn : n ≤ 64) : Calls Tryz.prog 57 #[.pointer (some ⟨o, 0, none⟩)] W (HdPost W hss.flatten) := by
  obtain ⟨bb, cp, hb, po, ds, hv, F, hm, hp, rfl, rfl, ok⟩ := h
  have hSl : ds.length = S := by rw [← hss_len]; exact ok.sl
  have h64 : ∀ l ∈ hssD ds, l.length ≤ 64 := fun l hl => Nat.le_trans (ok.inv.part l hl).len hn
  have HK := Lib.hid (And.intro h64 (show (hssD ds).length ≤ 16 by rw [ok.sl]; exact hS))
  have HMd := Lib.hid (tmade_yes o W hm.c0)
  have HM := Lib.hid hm
  have c6 := hm.c6
  have hnn : ds.length ≤ 16 := by omega
  clear hm hp ok hSl h64
  obtain ⟨nn, hnl⟩ : ∃ nn, ds.length = nn := ⟨_, rfl⟩
  rw [hnl] at c6 hnn
  have HN := Lib.hid hnl
  clear hnl
  go_enter Tryz.func57, Tryz.ntmps57
  go_wp2_with fail
  refine HMd.out.mono ?_
  rintro e w' ⟨rfl, rfl⟩
  go_wp2_with fail
  go_loopw [3, 5, 14] (fun vi bi i wr => ∃ (j : Nat) (s0 : Option Addr) (s1 s2 : Nat), vi = .slice s0 s1 s2 ∧ i = .int .i64 j ∧ j ≤ nn ∧ Hid (HdsAt wr W.heap.size (.slice s0 s1 s2) ((hssD ds).take j).flatten ∧ Nw W wr)) (fun _ _ i _ => nn - (intOf i).toNat)
  case atStart => exact ⟨0, none, 0, 0, rfl, rfl, Nat.zero_le _, hds_nil _ _, Nw.refl _⟩
  case round =>
    obtain ⟨j, s0, s1, s2, rfl, rfl, hj, HI⟩ := hrel
    by_cases hjl : j < nn
    · have hjd : j < ds.length := by rw [HN.out]; exact hjl
      have hjh : j < (hssD ds).length := by rw [hss_len]; exact hjd
      have hmr := HM.out.nw HI.out.2
      have cr := hmr.row j hjd
      have HH := Lib.hid (heads_d (hmr.db.db _ (List.getElem_mem hjd)))
      have hji : (j : Int) < (nn : Int) := by omega
      have hwj : wrap64 ((j : Int) + 1) = (j : Int) + 1 := by unfold wrap64; omega
      have hbl := hmr.bl
      obtain ⟨B, hB⟩ : ∃ B, ds[j].o = B := ⟨_, rfl⟩
      rw [hB] at cr HH
      clear hmr
      go_wp2_with fail
      refine HH.out.mono ?_
      rintro e w2 ⟨v2, rfl, hh2, g2⟩
      have e2 := flat_take hjh
      rw [hss_at hjd hjh] at e2
      have hl1 := flatT_len HK.out.1 HK.out.2 (j + 1)
      rw [e2, List.length_append] at hl1
      obtain ⟨v3, w3, hrun, hh3, hg3, hp3⟩ := HdsAt.app (HI.out.1.nw g2) hh2 HI.out.2.sz (fun b e => by
        rcases HI.out.1.form with ⟨q, _⟩ | ⟨g, cap, q, _, q2⟩
        · rw [q] at e; cases e
        · rw [q] at e; have e' : g = b := Option.some.inj e; omega) (by omega)
      rw [← e2] at hh3
      obtain ⟨t0, t1, t2, hv3⟩ : ∃ a b c, v3 = .slice a b c := by
        rcases hh3.form with ⟨q, _⟩ | ⟨g, cap, q, _⟩
        · exact ⟨_, _, _, q⟩
        · exact ⟨_, _, _, q⟩
      subst hv3
      have HI3 := Lib.hid (show HdsAt w3 W.heap.size (.slice t0 t1 t2) ((hssD ds).take (j + 1)).flatten ∧ Nw W w3 from ⟨hh3, (HI.out.2.trans g2).gro hg3 (fun k e => by
        rcases HI.out.1.form with ⟨q, _⟩ | ⟨g, cap, q, q1, q2⟩
        · rw [q] at e; cases e
        · rw [q] at e; have e' : g = k := Option.some.inj e; omega)⟩)
      have HR := Lib.hid hrun
      clear hh2 g2 e2 hl1 hrun hh3 hg3 hp3 HI HH cr hbl hB
      go_wp2_with (at_builtin; refine wpl_app (by rfl) (.tmp 18) (.tmp 20) 40 rfl _ _ _ _ (by first | rfl | simp [Act.eval, *]) (by first | rfl | simp [Act.eval, *]) HR.out ?_)
      go_roundw
      case rel => exact ⟨j + 1, _, _, _, rfl, congrArg (Value.int .i64) (by first | exact nxU j | exact hwj.trans (nxU j)), hjl, HI3⟩
      case measure => first | exact downU nn j hjl | (rw [hwj]; exact downU nn j hjl)
    · obtain rfl : j = nn := by omega
      have HE : Hid (HdPost W (hssD ds).flatten (.returned (.slice s0 s1 s2)) wr) := by
        have e := HI.out.1
        rw [← HN.out, ← hss_len, List.take_length] at e
        exact ⟨_, rfl, e, HI.out.2⟩
      clear HI
      go_wp2
      go_ret
      exact HE.out
set_option maxRecDepth 20000 in
set_option maxHeartbeats 2000000 in
theorem snapshot_t (h : Tab W o S n N k C hss L J) (hS : S ≤ 16) (hn : n ≤ 64) : Calls Tryz.prog 13 #[.pointer (some ⟨o, 0, none⟩)] W (HdPost W (snapT hss)) := by
  have HH := Lib.hid (theads_t h hS hn)
  have hap := h.ok.apart
  have hlen : hss.flatten.length ≤ 1024 := by
    have := flatT_len (fun l hl => Nat.le_trans (h.ok.inv.part l hl).len hn) (by rw [h.ok.sl]; exact hS) hss.length
    rwa [List.take_length] at this
  have HA := Lib.hid (And.intro hap hlen)
  clear h hap hlen
  go_enter Tryz.func13, Tryz.ntmps13
  go_wp2_with fail
  refine HH.out.mono ?_
  rintro e w1 ⟨v, rfl, hh, g1⟩
  rcases hh.form with ⟨rfl, hz⟩ | ⟨g, cap, hv, _⟩
  · have HS := Lib.hid (AnyF.slices_SortFunc_none (P := Tryz.prog) { Tryz.sortH with } none 0 (.func (.func 59) #[] #[]) w1)
    have HE : Hid (HdPost W (snapT hss) (.returned (.slice none 0 0)) w1) := by
      refine ⟨_, rfl, ?_, g1⟩
      have : snapT hss = [] := by unfold snapT; rw [hz]; rfl
      rw [this]
      exact hds_nil _ _
    clear hh hz g1 HH
    go_wp2_with fail
    refine Calls.mono HS.out ?_
    rintro e w2 ⟨rfl, rfl⟩
    go_wp2
    go_ret
    exact HE.out
  · obtain ⟨lm, h1, h2, h3⟩ := hh
    subst hv
    have hll : lm.length = hss.flatten.length := by rw [← h2, List.length_map]
    rw [← hll] at h1 ⊢
    have HS := Lib.hid (sort_rows elemHm (ρ := _) { Tryz.sortH with } (by intro w; kernel_rfl) (by intro w; kernel_rfl) cmpM cmpM_swo 59 e_snap snapCmp_any _ g cap lm w1 h1 (by have := HA.out.2; omega))
    have HX := Lib.hid (And.intro h1 (And.intro h2 (And.intro h3 g1)))
    clear h1 h2 h3 g1 HH hll
    go_wp2_with fail
    refine Calls.mono HS.out ?_
    rintro e w2 ⟨rfl, l, hp, hs, hO, ht⟩
    have hl : l.length = lm.length := hp.length_eq
    have HE : Hid (HdPost W (snapT hss) (.returned (.slice (some ⟨g, 0, none⟩) lm.length cap)) w2) := by
      refine ⟨_, rfl, ?_, nw_tch HX.out.2.2.2 ht (fun i e => ?_)⟩
      · rw [← snap_of HA.out.1 HX.out.2.1 hp hs, ← hl]
        exact HdsAt.sort HX.out.1 HX.out.2.2.1 hp hO ht
      · have := oge HX.out.1 rfl
        omega
    clear hp hs hO ht hl HS
    go_wp2
    go_ret
    exact HE.out
end
end Go.Proofs.YtpffldfpabglbaaGreatDoor
end

/- The library's SortFunc at this program, over what is held, laid by the kit's own command in plain words. -/
section
namespace Go.Proofs
open Go.Shelf
def Tryz.sortL_ren : Go.Shelf.Ren := ⟨fun | 6 => 109 | 15 => 106 | 14 => 160 | 28 => 157 | 29 => 158 | 20 => 194 | 21 => 195 | 22 => 196 | 23 => 197 | 24 => 198 | 25 => 199 | 26 => 200 | 27 => 201 | 46 => 222 | 47 => 190 | 48 => 191 | 49 => 223 | 50 => 224 | 57 => 233 | n => n, fun | 22 => 45 | 24 => 44 | 25 => 147 | 3 => 3 | 39 => 144 | 0 => 0 | 53 => 149 | 55 => 187 | 4 => 4 | 46 => 180 | 45 => 179 | 50 => 53 | 5 => 5 | 9 => 9 | 66 => 213 | 70 => 217 | 76 => 239 | 77 => 55 | n => n, fun | n => n⟩
theorem Tryz.sortL : Go.Proofs.SlLaysF0.n6 Tryz.prog Tryz.sortL_ren := {
  mixed := by kernel_rfl
  f6 := ⟨Tryz.f109.name, by decide, Tryz.func109.trans (congrArg some (by kernel_rfl))⟩
  f14 := ⟨Tryz.f160.name, by decide, Tryz.func160.trans (congrArg some (by kernel_rfl))⟩
  f15 := Tryz.func106.trans (congrArg some (by kernel_rfl))
  f20 := ⟨Tryz.f194.name, by decide, Tryz.func194.trans (congrArg some (by kernel_rfl))⟩
  f21 := ⟨Tryz.f195.name, by decide, Tryz.func195.trans (congrArg some (by kernel_rfl))⟩
  f22 := ⟨Tryz.f196.name, by decide, Tryz.func196.trans (congrArg some (by kernel_rfl))⟩
  f23 := ⟨Tryz.f197.name, by decide, Tryz.func197.trans (congrArg some (by kernel_rfl))⟩
  f24 := ⟨Tryz.f198.name, by decide, Tryz.func198.trans (congrArg some (by kernel_rfl))⟩
  f25 := ⟨Tryz.f199.name, by decide, Tryz.func199.trans (congrArg some (by kernel_rfl))⟩
  f26 := ⟨Tryz.f200.name, by decide, Tryz.func200.trans (congrArg some (by kernel_rfl))⟩
  f27 := ⟨Tryz.f201.name, by decide, Tryz.func201.trans (congrArg some (by kernel_rfl))⟩
  f28 := Tryz.func157.trans (congrArg some (by kernel_rfl))
  f29 := Tryz.func158.trans (congrArg some (by kernel_rfl))
  f46 := ⟨Tryz.f222.name, by decide, Tryz.func222.trans (congrArg some (by kernel_rfl))⟩
  f47 := Tryz.func190.trans (congrArg some (by kernel_rfl))
  f48 := Tryz.func191.trans (congrArg some (by kernel_rfl))
  f49 := ⟨Tryz.f223.name, by decide, Tryz.func223.trans (congrArg some (by kernel_rfl))⟩
  f50 := ⟨Tryz.f224.name, by decide, Tryz.func224.trans (congrArg some (by kernel_rfl))⟩
  f57 := ⟨Tryz.f233.name, by decide, Tryz.func233.trans (congrArg some (by kernel_rfl))⟩
  t0 := Tryz.underlying0
  a0 := Tryz.isAgg0
  z0 := Tryz.sizeOf0
  v0 := Tryz.zeroValue0
  t3 := Tryz.underlying3
  a3 := Tryz.isAgg3
  z3 := Tryz.sizeOf3
  v3 := Tryz.zeroValue3
  t4 := Tryz.underlying4
  a4 := Tryz.isAgg4
  z4 := Tryz.sizeOf4
  v4 := Tryz.zeroValue4
  t5 := Tryz.underlying5
  a5 := Tryz.isAgg5
  z5 := Tryz.sizeOf5
  v5 := Tryz.zeroValue5
  t9 := Tryz.underlying9
  a9 := Tryz.isAgg9
  z9 := Tryz.sizeOf9
  v9 := Tryz.zeroValue9
  t22 := Tryz.underlying45
  a22 := Tryz.isAgg45
  z22 := Tryz.sizeOf45
  v22 := Tryz.zeroValue45
  t25 := Tryz.underlying147
  a25 := Tryz.isAgg147
  z25 := Tryz.sizeOf147
  v25 := Tryz.zeroValue147
  t39 := Tryz.underlying144
  a39 := Tryz.isAgg144
  z39 := Tryz.sizeOf144
  v39 := Tryz.zeroValue144
  t45 := Tryz.underlying179
  a45 := Tryz.isAgg179
  z45 := Tryz.sizeOf179
  v45 := Tryz.zeroValue179
  t46 := Tryz.underlying180
  a46 := Tryz.isAgg180
  z46 := Tryz.sizeOf180
  v46 := Tryz.zeroValue180
  t50 := Tryz.underlying53
  a50 := Tryz.isAgg53
  z50 := Tryz.sizeOf53
  v50 := Tryz.zeroValue53
  t53 := Tryz.underlying149
  a53 := Tryz.isAgg149
  z53 := Tryz.sizeOf149
  v53 := Tryz.zeroValue149
  t55 := Tryz.underlying187
  a55 := Tryz.isAgg187
  z55 := Tryz.sizeOf187
  v55 := Tryz.zeroValue187
  t66 := Tryz.underlying213
  a66 := Tryz.isAgg213
  z66 := Tryz.sizeOf213
  v66 := Tryz.zeroValue213
  t70 := Tryz.underlying217
  a70 := Tryz.isAgg217
  z70 := Tryz.sizeOf217
  v70 := Tryz.zeroValue217
  t76 := Tryz.underlying239
  a76 := Tryz.isAgg239
  z76 := Tryz.sizeOf239
  v76 := Tryz.zeroValue239
  t77 := Tryz.underlying55
  a77 := Tryz.isAgg55
  z77 := Tryz.sizeOf55
  v77 := Tryz.zeroValue55 }
end Go.Proofs
end

/- The developers' table: held, Holds, All. -/
section
namespace Go.Proofs.YtpffldfpabglbaaGreatDoor
open Go.RowKit Go.Sort Go.Shelf
set_option linter.unusedVariables false      -- a contract need not use every name

/-- What the comparison reads. -/
abbrev TwoL (w : World) (x t r x' t' r' : Int) (a : World) : Prop := (a.cell? ⟨w.heap.size, 0, none⟩ = some (.int .i64 x) ∧ a.cell? ⟨w.heap.size, 1, none⟩ = some (.int .i64 t) ∧ a.cell? ⟨w.heap.size, 2, none⟩ = some (.int .i64 r) ∧ a.cell? ⟨w.heap.size + 1, 0, none⟩ = some (.int .i64 x') ∧ a.cell? ⟨w.heap.size + 1, 1, none⟩ = some (.int .i64 t') ∧ a.cell? ⟨w.heap.size + 1, 2, none⟩ = some (.int .i64 r')) ∧ w.heap.size + 1 < a.heap.size ∧ GG w a
theorem twoL_start (w : World) (x t r m x' t' r' m' : Int) (ty : TypeId) : TwoL w x t r x' t' r' (((w.alloc (.cells #[.int .i64 x, .int .i64 t, .int .i64 r, .int .i64 m] ty)).alloc (.cells #[.int .i64 x', .int .i64 t', .int .i64 r', .int .i64 m'] ty)).drew) := by
  have h1 := allocAt w (.cells #[.int .i64 x, .int .i64 t, .int .i64 r, .int .i64 m] ty)
  have hz : (w.alloc (.cells #[.int .i64 x, .int .i64 t, .int .i64 r, .int .i64 m] ty)).heap.size = w.heap.size + 1 := by simp
  have h2 := allocAt (w.alloc (.cells #[.int .i64 x, .int .i64 t, .int .i64 r, .int .i64 m] ty)) (.cells #[.int .i64 x', .int .i64 t', .int .i64 r', .int .i64 m'] ty)
  have h3 := ((Nw.refl (w.alloc (.cells #[.int .i64 x, .int .i64 t, .int .i64 r, .int .i64 m] ty))).alloc (.cells #[.int .i64 x', .int .i64 t', .int .i64 r', .int .i64 m'] ty)).at' h1
  rw [hz] at h2
  exact ⟨⟨hcell (j := 0) h3, hcell (j := 1) h3, hcell (j := 2) h3, hcell (j := 0) h2, hcell (j := 1) h2, hcell (j := 2) h2⟩, hlt h2, (((GG.refl w).alloc _).alloc _).drew⟩
theorem twoL_step {w a b : World} {x t r x' t' r' : Int} (g : GG a b) (h : TwoL w x t r x' t' r' a) : TwoL w x t r x' t' r' b := by
  obtain ⟨⟨h0, h1, h2, h3, h4, h5⟩, hs, hn⟩ := h
  exact ⟨⟨g.nw.kp h0, g.nw.kp h1, g.nw.kp h2, g.nw.kp h3, g.nw.kp h4, g.nw.kp h5⟩, Nat.lt_of_lt_of_le hs g.nw.sz, hn.trans g⟩
set_option maxRecDepth 10000 in
set_option maxHeartbeats 2000000 in
theorem heldCmp_any (x y : Hl) (w : World) : Calls Tryz.prog 110 #[.agg (hlrow x).toArray, .agg (hlrow y).toArray] w fun e w' => e = .returned (.int .i64 (cmpHl x y)) ∧ GG w w' := by
  obtain ⟨x, t, r, m⟩ := x
  obtain ⟨x', t', r', m'⟩ := y
  simp only [hlrow, cmpHl, cmpN]
  go_enter Tryz.func110, Tryz.ntmps110
  go_wp2
  go_region_held3 (fun w' => TwoL w x t r x' t' r' w') (first | assumption | exact twoL_start w x t r m x' t' r' m' _ | exact twoL_step (by assumption) (by assumption) | exact twoL_step ((GG.refl _).alloc _) (by assumption) | exact twoL_step (GG.refl _).drew (by assumption))
    (first | (go_at_call 108; refine (cmpInt_p _ _ _).mono ?_; rintro e w' ⟨rfl, rfl⟩) | (go_at_call 60; refine (tbyPlace_any t r t' r' _).mono ?_; rintro e w' ⟨rfl, gg⟩) | (go_at_call 107; refine (or_p _ (cP x x') (orP (cP t t') (cP r r')) _ (by simp [go_sem]) (by simp [go_sem])).mono ?_; rintro e w' ⟨rfl, rfl⟩))
  all_goals
    rename_i hS
    go_wp2
    go_ret
    exact ⟨rfl, hS.2.2⟩
theorem e_held : ∀ args w, (callFunc 110 args).run Tryz.prog w = .ok (.enter 110 args) w := enters_of Tryz.func110 (by kernel_rfl) rfl
def HlPost (W : World) (l : List Hl) (e : Ending) (W' : World) : Prop := ∃ v, e = .returned v ∧ HlOwn W' W.heap.size v l ∧ Nw W W'
/-- What is told, while one head is gone through (its box at pb). -/
structure HlI (w1 : World) (pb : Nat) (hc : Array Value) (v : Value) (l : List Hl) (y : World) : Prop where
  own : HlOwn y w1.heap.size v l
  nw : Nw w1 y
  off : v.ownBlock ≠ some pb
  box : y.heap[pb]? = some (.cells hc 63)
theorem HlI.step {w1 y y' : World} {pb : Nat} {hc : Array Value} {v : Value} {l : List Hl} (h : HlI w1 pb hc v l y) (g : Nw y y') : HlI w1 pb hc v l y' := ⟨onw h.own g, h.nw.trans g, h.off, g.at' h.box⟩
theorem HlI.push {w1 y : World} {pb : Nat} {hc : Array Value} {v : Value} {l : List Hl} (h : HlI w1 pb hc v l y) (x t r m : Int) (hl : l.length < 100000) :
    ∃ s0 s1 s2 w3, (Builtin.append_ #[45, 45] 45 #[v, .slice (some ⟨y.heap.size, 0, none⟩) 1 1]).run Tryz.prog (y.alloc (.cells #[.int .i64 x, .int .i64 t, .int .i64 r, .int .i64 m] 44)) = .ok (.slice s0 s1 s2) w3 ∧ HlI w1 pb hc (.slice s0 s1 s2) (l ++ [⟨x, t, r, m⟩]) w3 := by
  have hal := allocAt y (.cells #[.int .i64 x, .int .i64 t, .int .i64 r, .int .i64 m] 44)
  have g0 : Nw y (y.alloc (.cells #[.int .i64 x, .int .i64 t, .int .i64 r, .int .i64 m] 44)) := (Nw.refl y).alloc _
  obtain ⟨z, hz⟩ : ∃ z, y.alloc (.cells #[.int .i64 x, .int .i64 t, .int .i64 r, .int .i64 m] 44) = z := ⟨_, rfl⟩
  rw [hz] at hal g0
  rw [hz]
  have hs := h.step g0
  have hpl := hlt h.box
  obtain ⟨v', w3, hr, hO, hg, hp, g, cap, rfl⟩ := Own.push elemHl hs.own ⟨x, t, r, m⟩ y.heap.size 1 (fun j u hu => by
    rw [hcell hal]
    simpa [hlrow] using hu) hl hs.nw.sz
  refine ⟨_, _, _, w3, hr, hO, hs.nw.gro hg (fun k hk => oge hs.own hk), fun e => ?_, ?_⟩
  · rcases hp with q | q
    · exact h.off (q ▸ e)
    · rw [q] at e
      have e' : z.heap.size = pb := Option.some.inj e
      have := g0.sz
      omega
  · rw [hg.block pb (by have := g0.sz; omega) (fun e => h.off e.symm)]
    exact hs.box
/-- What one head tells, up to one of its requests. -/
def heF (f : Rq → Bool) (h : Hq) (q : List Rq) : List Hl := (q.filter fun r => !(r.md == 0) && f r).map fun r => ⟨r.txn, h.t, h.r, r.md⟩
theorem entF_take {f : Rq → Bool} {s : List Hq} {i : Nat} (hi : i < s.length) : entF f (s.take (i + 1)) = entF f (s.take i) ++ heF f s[i] s[i].q := by
  unfold entF
  rw [List.take_succ_eq_append_getElem hi, List.flatMap_append]
  simp [heF]
theorem heF_take {f : Rq → Bool} {h : Hq} {q : List Rq} {j : Nat} (hj : j < q.length) : heF f h (q.take (j + 1)) = heF f h (q.take j) ++ (if (!(q[j].md == 0) && f q[j]) = true then [⟨q[j].txn, h.t, h.r, q[j].md⟩] else []) := by
  unfold heF
  rw [List.take_succ_eq_append_getElem hj, List.filter_append, List.map_append]
  congr 1
  by_cases e : (!(q[j].md == 0) && f q[j]) = true
  · rw [if_pos e, List.filter_cons, if_pos e]; rfl
  · rw [if_neg e, List.filter_cons, if_neg e]; rfl
theorem sum_take (s : List Hq) (j : Nat) : ((s.take j).map fun h => h.q.length).sum ≤ (s.map fun h => h.q.length).sum := by
  conv => rhs; rw [← List.take_append_drop j s, List.map_append, List.sum_append]
  exact Nat.le_add_right _ _
theorem flat_sum (hss : List (List Hq)) : (hss.flatten.map fun h => h.q.length).sum = (hss.map fun hs => (hs.map fun x => x.q.length).sum).sum := by
  induction hss with
  | nil => rfl
  | cons a t ih => rw [List.flatten_cons, List.map_append, List.sum_append, ih]; rfl
theorem Tab.len128 {W : World} {o S n N k : Nat} {C : Cps} {hss : List (List Hq)} {L : List Bool} {J : Nat → Prop} (h : Tab W o S n N k C hss L J) : L.length ≤ 128 := by
  obtain ⟨bb, cp, hb, po, ds, hv, F, hm, _⟩ := h
  exact hm.db.pol.sz
theorem entF_len {f : Rq → Bool} {s : List Hq} {M : Nat} (h : (s.map fun h => h.q.length).sum ≤ M) : (entF f s).length ≤ M := by
  refine Nat.le_trans ?_ h
  unfold entF
  induction s with
  | nil => simp
  | cons a t ih =>
    simp only [List.flatMap_cons, List.length_append, List.map_cons, List.sum_cons, List.length_map]
    have h1 := List.length_filter_le (fun r => !(r.md == 0) && f r) a.q
    simp only [List.map_cons, List.sum_cons] at h
    have := ih (by omega)
    omega
section
variable {W : World} {o S n N k : Nat} {C : Cps} {hss : List (List Hq)} {L : List Bool} {J : Nat → Prop}
set_option maxRecDepth 20000 in
set_option maxHeartbeats 8000000 in
theorem held_t (h : Tab W o S n N k C hss L J) (hS : S ≤ 16) (hn : n ≤ 64) (fn : Nat) (cb : Array Value) (f : Rq → Bool) (eg : ∀ args w, (callFunc fn args).run Tryz.prog w = .ok (.enter fn args) w)
    (hF : ∀ y, Nw W y → ∀ r : Rq, Calls Tryz.prog fn (#[rqV r] ++ cb) y fun e y' => e = .returned (.bool (f r)) ∧ Nw y y') (l : List Hl) (hl : ∀ l' : List Hl, l'.Perm (entF f hss.flatten) → (l'.Pairwise fun a b => ltOf cmpHl b a = false) → l' = l) :
    Calls Tryz.prog 62 #[.pointer (some ⟨o, 0, none⟩), .func (.func fn) #[] cb] W (HlPost W l) := by
  have HH := Lib.hid (theads_t h hS hn)
  have hlen : hss.flatten.length ≤ 1024 := by
    have := flatT_len (fun l hl => Nat.le_trans (h.ok.inv.part l hl).len hn) (by rw [h.ok.sl]; exact hS) hss.length
    rwa [List.take_length] at this
  have HQ : Hid ((hss.flatten.map fun h => h.q.length).sum ≤ 50000) := Lib.hid (by
    rw [flat_sum, h.ok.inv.count]
    have h1 : liv L ≤ L.length := List.countP_le_length
    have h2 := h.len128
    omega)
  have HF := Lib.hid hF
  have HL := Lib.hid hl
  clear h hF hl
  go_enter Tryz.func62, Tryz.ntmps62
  go_wp2_with fail
  refine HH.out.mono ?_
  rintro e w1 ⟨v, rfl, hh, g1⟩
  obtain ⟨lm, h1, h2, h3⟩ := hh
  have HX := Lib.hid (And.intro h1 (And.intro h2 (And.intro h3 g1)))
  obtain ⟨va, vc, rfl, hrd⟩ := Own.rd elemHm.len h1
  have HB := Lib.hid (show lm.length ≤ 1024 by rw [← h2, List.length_map] at hlen; exact hlen)
  clear hlen
  have HRd := Lib.hid hrd
  clear h1 h2 h3 g1 hrd HH
  go_wp2_with fail
  go_loopw [5, 7, 9, 13] (fun vi _ _ i wr => ∃ (j : Nat) (s0 : Option Addr) (s1 s2 : Nat), vi = .slice s0 s1 s2 ∧ i = .int .i64 j ∧ j ≤ lm.length ∧ Hid (HlOwn wr w1.heap.size (.slice s0 s1 s2) (entF f (hss.flatten.take j)) ∧ Nw w1 wr)) (fun _ _ _ i _ => lm.length - (intOf i).toNat)
  case atStart => exact ⟨0, none, 0, 0, rfl, rfl, Nat.zero_le _, World.ownsRow_nil _ _ _ _, Nw.refl _⟩
  case round =>
    obtain ⟨j, s0, s1, s2, rfl, rfl, hj, HI⟩ := hrel
    by_cases hjl : j < lm.length
    · rcases HRd.out with ⟨q, _⟩ | ⟨b, ob, rfl, hc⟩
      · rw [q] at hjl; simp at hjl
      have hce := (hc.nw HI.out.2).cell j hjl
      have hok := HX.out.2.2.1 _ (List.getElem_mem hjl)
      have hjs : j < hss.flatten.length := by rw [← HX.out.2.1, List.length_map]; exact hjl
      have hhe : hss.flatten[j] = lm[j].h := by
        have : (lm.map Hm.h)[j]'(by rw [List.length_map]; exact hjl) = hss.flatten[j] := by congr 1; exact HX.out.2.1
        rw [← this, List.getElem_map]
      have hent := entF_take (f := f) hjs
      rw [hhe] at hent
      have hji : (j : Int) < (lm.length : Int) := by omega
      have hwj : wrap64 ((j : Int) + 1) = (j : Int) + 1 := by have := HB.out; unfold wrap64; omega
      clear hc
      generalize lm[j] = x at *
      obtain ⟨⟨xt, xr, xW, q⟩, xa, xc⟩ := x
      have c0 := hce 0 _ rfl
      have c1 := hce 1 _ rfl
      have c2 := hce 2 _ rfl
      have c3 := hce 3 _ rfl
      simp only [Nat.add_zero] at c0 c1 c2 c3
      obtain ⟨ql, hql⟩ : ∃ ql, q.length = ql := ⟨_, rfl⟩
      rw [hql] at c2
      have hbl := World.block_lt_of_cell? _ _ c0
      simp only at hbl
      have hbx := allocAt wr (.cells #[.int .i64 xt, .int .i64 xr, .slice xa ql xc, .int .i64 xW] 63)
      have gbx : Nw wr (wr.alloc (.cells #[.int .i64 xt, .int .i64 xr, .slice xa ql xc, .int .i64 xW] 63)) := (Nw.refl wr).alloc _
      obtain ⟨z, hz⟩ : ∃ z, wr.alloc (.cells #[.int .i64 xt, .int .i64 xr, .slice xa ql xc, .int .i64 xW] 63) = z := ⟨_, rfl⟩
      rw [hz] at hbx gbx
      have HZ := Lib.hid hz
      have HI2 := Lib.hid (show HlI w1 wr.heap.size #[.int .i64 xt, .int .i64 xr, .slice xa ql xc, .int .i64 xW] (.slice s0 s1 s2) (entF f (hss.flatten.take j)) z from ⟨onw HI.out.1 gbx, HI.out.2.trans gbx, fun e => by have := olt HI.out.1 e; omega, hbx⟩)
      have HK := Lib.hid (And.intro hok (And.intro hent hql))
      have hM : ((hss.flatten.take j).map fun h => h.q.length).sum ≤ 50000 := Nat.le_trans (sum_take _ j) HQ.out
      have HM := Lib.hid hM
      clear hce hok hent hhe hz gbx hbx hjs hM
      go_upto_region 5 with fail
      rw [HZ.out]
      obtain ⟨pb, hpb⟩ : ∃ pb, wr.heap.size = pb := ⟨_, rfl⟩
      rw [hpb] at HI2 ⊢
      have b2 := hcell (j := 2) HI2.out.box
      have bl := hlt HI2.out.box
      clear hpb c0 c1 c2 c3 hbl HZ
      go_wp2_with fail
      go_loopw [5, 9, 20] (fun vi _ kk y => ∃ (m : Nat) (s0 : Option Addr) (s1 s2 : Nat), vi = .slice s0 s1 s2 ∧ kk = .int .i64 m ∧ m ≤ ql ∧ Hid (HlI w1 pb #[.int .i64 xt, .int .i64 xr, .slice xa ql xc, .int .i64 xW] (.slice s0 s1 s2) (entF f (hss.flatten.take j) ++ heF f ⟨xt, xr, xW, q⟩ (q.take m)) y)) (fun _ _ kk _ => ql - (intOf kk).toNat)
      case atStart => exact ⟨0, _, _, _, rfl, rfl, Nat.zero_le _, (show Hid (HlI w1 pb _ _ _ z) from ((List.append_nil _).symm ▸ HI2.out : HlI w1 pb _ _ (entF f (hss.flatten.take j) ++ []) z))⟩
      case round =>
        clear HI2 b2 bl HI
        obtain ⟨m, r0, r1, r2, rfl, rfl, hm, HJ⟩ := hrel
        by_cases hml : m < ql
        · have hmq : m < q.length := by rw [HK.out.2.2]; exact hml
          obtain ⟨a', c', e, ⟨q0, _⟩ | ⟨qb, qo, e2, hcq⟩⟩ := HK.out.1.rd
          · simp only at q0; rw [q0] at hmq; simp at hmq
          unfold hmV at e
          subst e2
          simp only [Value.slice.injEq] at e
          obtain ⟨rfl, _, rfl⟩ := e
          have hcr := (hcq.nw HJ.out.nw).cell m hmq
          have hen := heF_take (f := f) (h := ⟨xt, xr, xW, q⟩) hmq
          simp only at hen hcr
          generalize q[m] = R at *
          obtain ⟨i0, i1, i2, i3, i4⟩ := R
          have c0 := hcr 0 _ rfl
          have c1 := hcr 1 _ rfl
          have c2 := hcr 2 _ rfl
          have c3 := hcr 3 _ rfl
          have c4 := hcr 4 _ rfl
          simp only [Nat.add_zero] at c0 c1 c2 c3 c4
          have cl := World.block_lt_of_cell? _ _ c0
          simp only at cl
          have hmi : (m : Int) < (ql : Int) := by omega
          have hwm : wrap64 ((m : Int) + 1) = (m : Int) + 1 := by have h7 := HK.out.1.len; have h8 := HK.out.2.2; simp only at h7; unfold wrap64; omega
          have hbx := allocAt wr (.cells #[.int .i64 i0, .int .i64 i1, .int .i64 i2, .int .i64 i3, .int .i64 i4] 50)
          have gbx : Nw wr (wr.alloc (.cells #[.int .i64 i0, .int .i64 i1, .int .i64 i2, .int .i64 i3, .int .i64 i4] 50)) := (Nw.refl wr).alloc _
          obtain ⟨z, hz⟩ : ∃ z, wr.alloc (.cells #[.int .i64 i0, .int .i64 i1, .int .i64 i2, .int .i64 i3, .int .i64 i4] 50) = z := ⟨_, rfl⟩
          rw [hz] at hbx gbx
          have HZ := Lib.hid hz
          have HJ2 := Lib.hid (HJ.out.step gbx)
          have HEn := Lib.hid hen
          obtain ⟨rb, hrb⟩ : ∃ rb, wr.heap.size = rb := ⟨_, rfl⟩
          rw [hrb] at hbx
          have HRb := Lib.hid hrb
          clear hz gbx hcq hcr hen hrb HJ
          go_upto_region 8 with fail
          rw [HZ.out, HRb.out]
          have d1 := hcell (j := 1) hbx
          have d0 := hcell (j := 0) hbx
          have d2 := hcell (j := 2) hbx
          have d3 := hcell (j := 3) hbx
          have d4 := hcell (j := 4) hbx
          have dl := hlt hbx
          clear c0 c1 c2 c3 c4 cl HZ HRb
          have hsml : (entF f (hss.flatten.take j) ++ heF f ⟨xt, xr, xW, q⟩ (q.take m)).length < 100000 := by
            rw [List.length_append]
            have e1 := entF_len (f := f) (s := hss.flatten.take j) (M := 50000) HM.out
            have e2 : (heF f ⟨xt, xr, xW, q⟩ (q.take m)).length ≤ 1000 := by
              unfold heF
              rw [List.length_map]
              refine Nat.le_trans (List.length_filter_le _ _) ?_
              have h7 := HK.out.1.len
              simp only at h7
              rw [List.length_take]
              omega
            omega
          have HSm := Lib.hid hsml
          clear hsml
          by_cases hm0 : i2 = 0
          · subst hm0
            have HE := Lib.hid (show HlI w1 pb _ (.slice r0 r1 r2) (entF f (hss.flatten.take j) ++ heF f ⟨xt, xr, xW, q⟩ (q.take (m + 1))) z from by
              rw [HEn.out, if_neg (by simp), List.append_nil]
              exact HJ2.out)
            clear HJ2 HEn
            go_wp2_with fail
            go_roundw
            case rel => exact ⟨m + 1, _, _, _, rfl, congrArg (Value.int .i64) (by first | exact nxU m | exact hwm.trans (nxU m)), hml, HE⟩
            case measure => first | exact downU ql m hml | (rw [hwm]; exact downU ql m hml)
          · have dm : (i2 != 0) = true := by simpa using hm0
            have hfr := HF.out z (HX.out.2.2.2.trans HJ2.out.nw) ⟨i0, i1, i2, i3, i4⟩
            obtain ⟨fv, hfv⟩ : ∃ fv, f ⟨i0, i1, i2, i3, i4⟩ = fv := ⟨_, rfl⟩
            rw [hfv] at hfr
            unfold rqV at hfr
            have HFr := Lib.hid hfr
            have HFv := Lib.hid hfv
            have HM0 := Lib.hid hm0
            clear hfr hfv hm0
            go_wp2_with fail
            refine HFr.out.mono ?_
            rintro e z2 ⟨rfl, g2⟩
            have HJ3 := Lib.hid (HJ2.out.step g2)
            have hbx3 := g2.at' hbx
            have hbh := HJ3.out.box
            have d1 := hcell (j := 1) hbx3
            have d2 := hcell (j := 2) hbx3
            have dl := hlt hbx3
            have n0 := hcell (j := 0) hbh
            have n1 := hcell (j := 1) hbh
            have nl := hlt hbh
            clear d0 d3 d4 HJ2 HFr g2 hbx3 hbh hbx
            cases fv
            · have HE := Lib.hid (show HlI w1 pb _ (.slice r0 r1 r2) (entF f (hss.flatten.take j) ++ heF f ⟨xt, xr, xW, q⟩ (q.take (m + 1))) z2 from by
                rw [HEn.out, HFv.out, if_neg (by simp), List.append_nil]
                exact HJ3.out)
              clear HJ3 HEn
              go_wp2_with fail
              go_roundw
              case rel => exact ⟨m + 1, _, _, _, rfl, congrArg (Value.int .i64) (by first | exact nxU m | exact hwm.trans (nxU m)), hml, HE⟩
              case measure => first | exact downU ql m hml | (rw [hwm]; exact downU ql m hml)
            · obtain ⟨t0, t1, t2, w3, hrun, hnx⟩ := HJ3.out.push i1 xt xr i2 HSm.out
              have HE := Lib.hid (show HlI w1 pb _ (.slice t0 t1 t2) (entF f (hss.flatten.take j) ++ heF f ⟨xt, xr, xW, q⟩ (q.take (m + 1))) w3 from by
                rw [HEn.out, HFv.out, if_pos (by simp [HM0.out]), ← List.append_assoc]
                exact hnx)
              have HR := Lib.hid hrun
              clear HJ3 HEn hrun hnx
              go_wp2_with (at_builtin; refine wpl_app (by rfl) (.tmp 32) (.tmp 40) 45 rfl _ _ _ _ (by first | rfl | simp [Act.eval, *]) (by first | rfl | simp [Act.eval, *]) HR.out ?_)
              go_roundw
              case rel => exact ⟨m + 1, _, _, _, rfl, congrArg (Value.int .i64) (by first | exact nxU m | exact hwm.trans (nxU m)), hml, HE⟩
              case measure => first | exact downU ql m hml | (rw [hwm]; exact downU ql m hml)
        · obtain rfl : m = ql := by omega
          have HE := Lib.hid (show HlOwn wr w1.heap.size (.slice r0 r1 r2) (entF f (hss.flatten.take (j + 1))) ∧ Nw w1 wr from ⟨by
            rw [HK.out.2.1]
            have e : q.take m = q := by rw [← HK.out.2.2, List.take_length]
            have := HJ.out.own
            rw [e] at this
            exact this, HJ.out.nw⟩)
          clear HJ
          go_wp2_with fail
          go_roundw
          case rel => exact ⟨j + 1, _, _, _, rfl, congrArg (Value.int .i64) (by first | exact nxU j | exact hwj.trans (nxU j)), hjl, HE⟩
          case measure => first | exact downU lm.length j hjl | (rw [hwj]; exact downU lm.length j hjl)
    · obtain rfl : j = lm.length := by omega
      have hE : (hss.flatten.take lm.length) = hss.flatten := by rw [← HX.out.2.1]; exact List.take_of_length_le (by rw [List.length_map]; exact Nat.le_refl _)
      have hO := HI.out.1
      rw [hE] at hO
      have hen : (entF f hss.flatten).length ≤ 50000 := entF_len HQ.out
      rcases oform hO with ⟨e, hz⟩ | ⟨g, cap, e⟩
      · simp only [Value.slice.injEq] at e
        obtain ⟨rfl, rfl, rfl⟩ := e
        have HS := Lib.hid (AnyF.slices_SortFunc_none (P := Tryz.prog) { Tryz.sortL with } none 0 (.func (.func 110) #[] #[]) wr)
        have h0 : entF f hss.flatten = [] := List.length_eq_zero_iff.1 hz
        have HE : Hid (HlPost W l (.returned (.slice none 0 0)) wr) := by
          refine ⟨_, rfl, ?_, HX.out.2.2.2.trans HI.out.2⟩
          have : l = [] := (HL.out [] (by rw [h0]) .nil).symm
          rw [this]
          exact World.ownsRow_nil _ _ _ _
        clear hO hen hz HI h0 hE
        go_wp2_with fail
        refine Calls.mono HS.out ?_
        rintro e w2 ⟨rfl, rfl⟩
        go_wp2
        go_ret
        exact HE.out
      · simp only [Value.slice.injEq] at e
        obtain ⟨rfl, rfl, rfl⟩ := e
        have HS := Lib.hid (sort_rows elemHl (ρ := _) { Tryz.sortL with } (by intro w; kernel_rfl) (by intro w; kernel_rfl) cmpHl cmpL_swo 110 e_held heldCmp_any _ g s2 (entF f hss.flatten) wr hO (by omega))
        have HO := Lib.hid (And.intro hO (HX.out.2.2.2.trans HI.out.2))
        obtain ⟨N1, hN1⟩ : ∃ N1, (entF f hss.flatten).length = N1 := ⟨_, rfl⟩
        have HN1 := Lib.hid hN1
        rw [hN1] at HS ⊢
        clear hO hen HI hE hN1
        go_wp2_with fail
        refine Calls.mono HS.out ?_
        rintro e w2 ⟨rfl, l', hp, hs, hO2, ht⟩
        have hl : l'.length = N1 := by rw [hp.length_eq]; exact HN1.out
        have HE : Hid (HlPost W l (.returned (.slice (some ⟨g, 0, none⟩) N1 s2)) w2) := by
          have e2 := HL.out l' hp hs
          subst e2
          rw [hl] at hO2
          refine ⟨_, rfl, olow hO2 (fun b e => ?_), nw_tch HO.out.2 ht (fun i e => ?_)⟩
          · have h1 : w1.heap.size ≤ g := oge HO.out.1 rfl
            have h2 := HX.out.2.2.2.sz
            have e' : g = b := Option.some.inj e
            omega
          · have h1 : w1.heap.size ≤ g := oge HO.out.1 rfl
            have h2 := HX.out.2.2.2.sz
            omega
        clear hp hs hO2 ht hl HS
        go_wp2
        go_ret
        exact HE.out
set_option maxHeartbeats 1000000 in
theorem isTxn_any (r : Rq) (txn : Int) (pb : Nat) (w : World) (hb : w.cell? ⟨pb, 0, none⟩ = some (.int .i64 txn)) : Calls Tryz.prog 63 #[rqV r, .pointer (some ⟨pb, 0, none⟩)] w fun e w' => e = .returned (.bool (r.txn == txn)) ∧ Nw w w' := by
  obtain ⟨a, b, c, d, e⟩ := r
  unfold rqV
  have hbl := World.block_lt_of_cell? _ _ hb
  simp only at hbl
  have HG := Lib.hid ((Nw.refl w).alloc (.cells #[.int .i64 a, .int .i64 b, .int .i64 c, .int .i64 d, .int .i64 e] 50))
  go_enter Tryz.func63, Tryz.ntmps63
  go_wp2
  go_ret
  exact ⟨rfl, HG.out⟩
theorem e_isTxn : ∀ args w, (callFunc 63 args).run Tryz.prog w = .ok (.enter 63 args) w := enters_of Tryz.func63 (by kernel_rfl) rfl
theorem TbOk.snap_srt (ok : TbOk S n N k hss L) : SrtH (snapT hss) ∧ (snapT hss).Perm hss.flatten := Go.Proofs.YtpffldfpabglbaaGreatDoor.snap_srt ok.apart
theorem TbOk.snap_ok (ok : TbOk S n N k hss L) : ∀ h ∈ snapT hss, Ok h.W h.q := fun h hh => by
  obtain ⟨l, hl, h2⟩ := List.mem_flatten.1 (ok.snap_srt.2.mem_iff.1 hh)
  exact ((ok.inv.part l hl).inv h h2).ok
set_option maxHeartbeats 1000000 in
theorem holds_t (h : Tab W o S n N k C hss L J) (hS : S ≤ 16) (hn : n ≤ 64) (txn : Int) : Calls Tryz.prog 16 #[.pointer (some ⟨o, 0, none⟩), .int .i64 txn] W (HlPost W (hdsT (snapT hss) txn)) := by
  have hs := h.ok.snap_srt
  have hal := allocAt W (.cells #[.int .i64 txn] 3)
  obtain ⟨z, hz⟩ : ∃ z, W.alloc (.cells #[.int .i64 txn] 3) = z := ⟨_, rfl⟩
  have g1 : Nw W z := by rw [← hz]; exact (Nw.refl W).alloc _
  rw [hz] at hal
  have HH := Lib.hid (held_t (h.nw g1) hS hn 63 #[.pointer (some ⟨W.heap.size, 0, none⟩)] (fun r => r.txn == txn) e_isTxn (fun y g r => isTxn_any r txn W.heap.size y (g.kp ((hcell (j := 0) hal).trans rfl))) (hdsT (snapT hss) txn) (fun l' p q => hds_of hs.1 h.ok.snap_ok hs.2.symm txn (by rwa [entF_txn] at p) q))
  have HZ := Lib.hid hz
  have HG := Lib.hid g1
  clear hs h hal hz g1
  go_enter Tryz.func16, Tryz.ntmps16
  go_wp2_with fail
  rw [HZ.out]
  refine HH.out.mono ?_
  rintro e w1 ⟨v, rfl, h1, g1⟩
  have HE : Hid (HlPost W (hdsT (snapT hss) txn) (.returned v) w1) := ⟨v, rfl, olow h1 (fun b e => Nat.le_trans HG.out.sz (oge h1 e)), HG.out.trans g1⟩
  clear h1 g1 HH
  go_wp2
  go_ret
  exact HE.out
end
end Go.Proofs.YtpffldfpabglbaaGreatDoor
end

/- Plain facts of buckets: what is asked for, and left at once, leaves names and requests as they were. Of no program. -/
section
namespace Go.Proofs.YtpffldfpabglbaaGreatDoor
set_option linter.unusedVariables false

end Go.Proofs.YtpffldfpabglbaaGreatDoor
end

/- Plain facts of tables: what is rejected, what is asked and left at once. -/
section
namespace Go.Proofs.YtpffldfpabglbaaGreatDoor
set_option linter.unusedVariables false

section
variable {S n N k : Nat} {hss : List (List Hq)} {L : List Bool}
/-- There are no more heads than requests. -/
theorem TbOk.sumq (ok : TbOk S n N k hss L) : ((snapT hss).map fun h => h.q.length).sum = liv L := by
  rw [← ok.inv.count, ← flat_sum]
  exact (ok.snap_srt.2.map _).sum_nat
theorem sum_ge {s : List Hq} (h : ∀ x ∈ s, x.q ≠ []) : s.length ≤ (s.map fun h => h.q.length).sum := by
  induction s with
  | nil => simp
  | cons a t ih =>
    have h1 := ih (fun x hx => h x (List.mem_cons_of_mem _ hx))
    have h2 := List.length_pos_iff.2 (h a (by simp))
    simp only [List.length_cons, List.map_cons, List.sum_cons]
    omega
theorem TbOk.snap_ne (ok : TbOk S n N k hss L) : ∀ h ∈ snapT hss, h.q ≠ [] := fun h hh => by
  obtain ⟨l, hl, h2⟩ := List.mem_flatten.1 (ok.snap_srt.2.mem_iff.1 hh)
  exact (ok.inv.part l hl).ne h h2
theorem TbOk.liv_le (ok : TbOk S n N k hss L) : liv L ≤ N := by
  have : liv L ≤ L.length := List.countP_le_length
  rw [ok.ll] at this
  exact this
theorem TbOk.snap_len (ok : TbOk S n N k hss L) : (snapT hss).length ≤ N := Nat.le_trans (sum_ge ok.snap_ne) (ok.sumq ▸ ok.liv_le)
theorem TbOk.all_len (ok : TbOk S n N k hss L) : (allT (snapT hss)).length ≤ N := by
  rw [(all_perm ok.snap_srt.1 ok.snap_ok).length_eq, ← entF_all]
  exact entF_len (ok.sumq ▸ ok.liv_le)
end
end Go.Proofs.YtpffldfpabglbaaGreatDoor
end
