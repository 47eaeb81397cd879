/- Texts merged: QuN, QuO, QuQ, BkV, BkW, BkX, Sum -/
import Derived.Test.YtpffldfpabglbaaGreatDoorTableApartB9
import Derived.StillTailTactics
import Derived.ProofKit
import Derived.OpenShut
import Derived.ShutString
import Derived.Outline
import Derived.Lib.ConvBytes

/- The document's own queue: Ask. -/
section
namespace Go.Proofs.YtpffldfpabglbaaGreatDoor
open Go.RowKit
set_option linter.unusedVariables false      -- a contract need not use every name

/-- What a call gives that returns a head, whether it was granted, and an error. -/
def HR2 (X : Hq × Bool × Int) (w : World) (e : Ending) (w' : World) : Prop := ∃ v', e = .returned (.tuple #[hdV X.1.t X.1.r v' X.1.W, .bool X.2.1, .int .i64 X.2.2]) ∧ Nw w w' ∧ RqAt w' v' X.1.q ∧ capOk v'
/-- The same, and the row that is returned is new. -/
def HR2n (X : Hq × Bool × Int) (w : World) (e : Ending) (w' : World) : Prop := ∃ v', e = .returned (.tuple #[hdV X.1.t X.1.r v' X.1.W, .bool X.2.1, .int .i64 X.2.2]) ∧ Nw w w' ∧ RqAt w' v' X.1.q ∧ capOk v' ∧ newV w.heap.size v'
theorem HR2n.old {X : Hq × Bool × Int} {w : World} {e : Ending} {w' : World} (h : HR2n X w e w') : HR2 X w e w' := by
  obtain ⟨v, h1, h2, h3, h4, _⟩ := h
  exact ⟨v, h1, h2, h3, h4⟩
theorem ask_bad {h : Hq} {id txn m : Int} (e : id < 0 ∨ m = 0 ∨ knI m = false) : askR h id txn m = (noH, false, 2) := by
  unfold askR
  have : askE h.q id txn m = 2 := by unfold askE; rw [if_pos e]
  rw [this]; rfl
theorem ask_two {h : Hq} {id txn m : Int} (e : ¬ (id < 0 ∨ m = 0 ∨ knI m = false)) (a : (h.q.any fun r => r.id == id || r.txn == txn) = true) : askR h id txn m = (noH, false, 4) := by
  unfold askR
  have : askE h.q id txn m = 4 := by unfold askE; rw [if_neg e, if_pos a]
  rw [this]; rfl
theorem ask_yes {h : Hq} {id txn m : Int} (e : ¬ (id < 0 ∨ m = 0 ∨ knI m = false)) (a : (h.q.any fun r => r.id == id || r.txn == txn) = false) (f : free h.q m = true) : askR h id txn m = (⟨h.t, h.r, h.W, h.q ++ [⟨id, txn, m, m, 0⟩]⟩, true, 0) := by
  unfold askR
  have : askE h.q id txn m = 0 := by unfold askE; rw [if_neg e, if_neg (by rw [a]; simp)]
  rw [this, if_pos rfl]; unfold askQ; rw [if_pos f]
theorem ask_no {h : Hq} {id txn m : Int} (e : ¬ (id < 0 ∨ m = 0 ∨ knI m = false)) (a : (h.q.any fun r => r.id == id || r.txn == txn) = false) (f : ¬ free h.q m = true) : askR h id txn m = (⟨h.t, h.r, h.W + 1, h.q ++ [⟨id, txn, 0, m, h.W + 1⟩]⟩, false, 0) := by
  unfold askR
  have : askE h.q id txn m = 0 := by unfold askE; rw [if_neg e, if_neg (by rw [a]; simp)]
  rw [this, if_pos rfl]; unfold askQ; rw [if_neg f]
end Go.Proofs.YtpffldfpabglbaaGreatDoor
end

/- The checker's kit on heads: Own, OwnHead, LightHeads. -/
section
namespace Go.Proofs.YtpffldfpabglbaaGreatDoor
open Go.RowKit
set_option linter.unusedVariables false      -- a contract need not use every name

end Go.Proofs.YtpffldfpabglbaaGreatDoor
end

/- The document's own queue: Upgrade. -/
section
namespace Go.Proofs.YtpffldfpabglbaaGreatDoor
open Go.RowKit
set_option linter.unusedVariables false      -- a contract need not use every name

end Go.Proofs.YtpffldfpabglbaaGreatDoor
end

/- The document's own bucket: a head is put in place of another one. -/
section
namespace Go.Proofs.YtpffldfpabglbaaGreatDoor
open Go.RowKit
set_option linter.unusedVariables false      -- a contract need not use every name

theorem hrows_mid (l : List Hm) (k : Nat) (hk : k < l.length) : rowsOf hmrow l = rowsOf hmrow (l.take k) ++ (hmrow l[k] ++ rowsOf hmrow (l.drop (k + 1))) := by
  have e : l = l.take k ++ l[k] :: l.drop (k + 1) := by rw [← List.drop_eq_getElem_cons hk, List.take_append_drop]
  conv => lhs; rw [e]
  rw [rows_app]
  rfl
theorem hrows_put (l : List Hm) (k : Nat) (hk : k < l.length) (x : Hm) :
    ((((rowsOf hmrow l).set (k * 4) (.int .i64 x.h.t)).set (k * 4 + 1) (.int .i64 x.h.r)).set (k * 4 + 2) (.slice x.a x.h.q.length x.c)).set (k * 4 + 3) (.int .i64 x.h.W) = rowsOf hmrow (l.set k x) := by
  have hA : (rowsOf hmrow (l.take k)).length = k * 4 := by rw [rows_len (sz := 4) elemHm.len, List.length_take, Nat.min_eq_left (Nat.le_of_lt hk)]
  have h2 := hrows_mid (l.set k x) k (by rw [List.length_set]; exact hk)
  rw [List.take_set_of_le (Nat.le_refl k), List.drop_set_of_lt (Nat.lt_succ_self k), List.getElem_set_self] at h2
  rw [hrows_mid l k hk, h2, ← hA]
  have h0 := set_in (A := rowsOf hmrow (l.take k)) (M := hmrow l[k]) (B := rowsOf hmrow (l.drop (k + 1))) (j := 0) (by simp [hmrow]) (.int .i64 x.h.t)
  have h0' : (rowsOf hmrow (l.take k) ++ (hmrow l[k] ++ rowsOf hmrow (l.drop (k + 1)))).set (rowsOf hmrow (l.take k)).length (.int .i64 x.h.t) = _ := h0
  rw [h0', set_in (by simp [hmrow]), set_in (by simp [hmrow]), set_in (by simp [hmrow])]
  rfl
theorem hown_put {w : World} {g0 g cap : Nat} {l : List Hm} (h : HmOwn w g0 (.slice (some ⟨g, 0, none⟩) l.length cap) l) (k : Nat) (hk : k < l.length) (x : Hm) :
    HmOwn ((((w.setCell ⟨g, k * 4, none⟩ (.int .i64 x.h.t)).setCell ⟨g, k * 4 + 1, none⟩ (.int .i64 x.h.r)).setCell ⟨g, k * 4 + 2, none⟩ (.slice x.a x.h.q.length x.c)).setCell ⟨g, k * 4 + 3, none⟩ (.int .i64 x.h.W)) g0 (.slice (some ⟨g, 0, none⟩) l.length cap) (l.set k x) := by
  have h1 := (World.ownsRow.stored h (k * 4) (.int .i64 x.h.t)).1
  have h2 := (World.ownsRow.stored h1 (k * 4 + 1) (.int .i64 x.h.r)).1
  have h3 := (World.ownsRow.stored h2 (k * 4 + 2) (.slice x.a x.h.q.length x.c)).1
  have h4 := (World.ownsRow.stored h3 (k * 4 + 3) (.int .i64 x.h.W)).1
  unfold HmOwn Own
  rw [List.length_set, ← hrows_put l k hk x]
  exact h4
theorem HmOk.tch {w w' : World} {o : Nat} {u : Option Nat} {x : Hm} {S : Nat → Prop} (h : HmOk w o u x) (t : Tch S w w') (hS : ∀ b, S b → b ≤ o ∨ u = some b) : HmOk w' o u x := by
  refine ⟨?_, h.cap, h.len, h.new, h.off⟩
  obtain ⟨a, c, e, q | ⟨b, o', e2, hc⟩⟩ := h.rd
  · exact ⟨a, c, e, .inl q⟩
  · subst e2
    by_cases hq : x.h.q = []
    · exact ⟨_, c, e, .inl ⟨hq, fun q => by cases q⟩⟩
    have hb : ¬ S b := fun hs => by
      rcases hS b hs with q | q
      · have := h.new _ _ _ e
        have : o + 1 ≤ b := this
        omega
      · unfold hmV at e
        injection e with e1 _ _
        exact h.off _ e1 hq q
    exact ⟨_, c, e, .inr ⟨b, o', rfl, Nat.lt_of_lt_of_le hc.lt t.size, fun i hi c u hu => (t.cell hc.lt hb).trans (hc.cell i hi c u hu)⟩⟩
/-- The blocks that a bucket uses. -/
def RbIn (o : Nat) (v : Value) (l : List Hm) (b : Nat) : Prop := b = o ∨ v.ownBlock = some b ∨ ∃ x ∈ l, ∃ a, x.a = some a ∧ b = a.block
/-- What a call does to a bucket: it changes the bucket's own blocks and its pool's row. -/
structure RbTo (w : World) (o po pg : Nat) (most : Int) (v : Value) (l : List Hm) (w' : World) (v' : Value) (l' : List Hm) : Prop where
  rb : Rb w' o po most v' l'
  tch : Tch (fun b => b = o ∨ v.ownBlock = some b ∨ b = pg) w w'
  inn : ∀ b, RbIn o v' l' b → RbIn o v l b ∨ w.heap.size ≤ b
theorem Rb.same {w w' : World} {o po : Nat} {most : Int} {v : Value} {l : List Hm} (h : Rb w o po most v l) (g : Nw w w') (pg : Nat) : RbTo w o po pg most v l w' v l := ⟨h.nw g, Tch.nw g, fun b hb => .inl hb⟩
theorem Rb.put {w : World} {o po : Nat} {most : Int} {g cap : Nat} {l : List Hm} (h : Rb w o po most (.slice (some ⟨g, 0, none⟩) l.length cap) l) (k : Nat) (hk : k < l.length) (x : Hm) (hx : HmOk w o (some g) x) :
    Rb ((((w.setCell ⟨g, k * 4, none⟩ (.int .i64 x.h.t)).setCell ⟨g, k * 4 + 1, none⟩ (.int .i64 x.h.r)).setCell ⟨g, k * 4 + 2, none⟩ (.slice x.a x.h.q.length x.c)).setCell ⟨g, k * 4 + 3, none⟩ (.int .i64 x.h.W)) o po most (.slice (some ⟨g, 0, none⟩) l.length cap) (l.set k x)
    ∧ Tch (fun b => b = g) w ((((w.setCell ⟨g, k * 4, none⟩ (.int .i64 x.h.t)).setCell ⟨g, k * 4 + 1, none⟩ (.int .i64 x.h.r)).setCell ⟨g, k * 4 + 2, none⟩ (.slice x.a x.h.q.length x.c)).setCell ⟨g, k * 4 + 3, none⟩ (.int .i64 x.h.W)) := by
  have ho := hown_put h.own k hk x
  have t : Tch (fun b => b = g) w ((((w.setCell ⟨g, k * 4, none⟩ (.int .i64 x.h.t)).setCell ⟨g, k * 4 + 1, none⟩ (.int .i64 x.h.r)).setCell ⟨g, k * 4 + 2, none⟩ (.slice x.a x.h.q.length x.c)).setCell ⟨g, k * 4 + 3, none⟩ (.int .i64 x.h.W)) :=
    ((((Tch.refl (fun b => b = g) w).set (p := ⟨g, k * 4, none⟩) (.inl rfl) _).set (p := ⟨g, k * 4 + 1, none⟩) (.inl rfl) _).set (p := ⟨g, k * 4 + 2, none⟩) (.inl rfl) _).set (p := ⟨g, k * 4 + 3, none⟩) (.inl rfl) _
  have hog : o < g := oge h.own rfl
  have hne : ¬ (o = g) := by omega
  refine ⟨?_, t⟩
  revert ho t
  generalize ((((w.setCell ⟨g, k * 4, none⟩ (.int .i64 x.h.t)).setCell ⟨g, k * 4 + 1, none⟩ (.int .i64 x.h.r)).setCell ⟨g, k * 4 + 2, none⟩ (.slice x.a x.h.q.length x.c)).setCell ⟨g, k * 4 + 3, none⟩ (.int .i64 x.h.W)) = w4
  intro ho t
  refine ⟨(t.cell h.ol hne).trans h.c0, (t.cell h.ol hne).trans h.c1, (t.cell h.ol hne).trans h.c2, fun j => (t.froz h.ol hne).trans (h.fz j), Nat.lt_of_lt_of_le h.ol t.size, h.pl, ho, fun y hy => ?_, by rw [List.length_set]; exact h.len⟩
  rcases List.mem_or_eq_of_mem_set hy with q | rfl
  · exact (h.ok y q).tch t (fun b e => .inr (by rw [e]; rfl))
  · exact hx.tch t (fun b e => .inr (by rw [e]))
theorem RbTo.nw {w w' w2 : World} {o po pg : Nat} {most : Int} {v v' : Value} {l l' : List Hm} (h : RbTo w o po pg most v l w' v' l') (g : Nw w' w2) : RbTo w o po pg most v l w2 v' l' := ⟨h.rb.nw g, h.tch.trans (Tch.nw g), h.inn⟩
theorem RbTo.pre {w w1 w' : World} {o po pg : Nat} {most : Int} {v v' : Value} {l l' : List Hm} (g : Nw w w1) (h : RbTo w1 o po pg most v l w' v' l') : RbTo w o po pg most v l w' v' l' :=
  ⟨h.rb, (Tch.nw g).trans h.tch, fun b hb => (h.inn b hb).imp id (fun q => Nat.le_trans g.sz q)⟩
theorem own_tchS {w w' : World} {S : Nat → Prop} {g0 e size n : Nat} {v : Value} {xs : List Value} (h : w.ownsRow g0 e size v n xs) (t : Tch S w w') (hS : ∀ g, v.ownBlock = some g → ¬ S g) : w'.ownsRow g0 e size v n xs := by
  refine ⟨h.1, ?_⟩
  rcases h.2 with hn | ⟨g, cap, cur, rfl, hb, hgg, rest⟩
  · exact .inl hn
  · exact .inr ⟨g, cap, cur, rfl, hb, (t.block g (Array.getElem?_eq_some_iff.1 hgg).1 (hS g rfl)).trans hgg, rest⟩
theorem rq_low {w : World} {x : Hm} {b : Addr} (h : RqAt w (hmV x) x.h.q) (e : x.a = some b) (hq : x.h.q ≠ []) : b.block < w.heap.size := by
  obtain ⟨a, c, e1, ⟨q, _⟩ | ⟨b', o', e2, hc⟩⟩ := h
  · exact absurd q hq
  · unfold hmV at e1
    rw [e, e2] at e1
    injection e1 with e1 _ _
    injection e1 with e1
    rw [e1]
    exact hc.lt
/-- The bucket gets another row of heads. -/
theorem Rb.row {w w5 : World} {o po : Nat} {most : Int} {v v6 : Value} {l l6 : List Hm} {g0 : Nat} (h : Rb w o po most v l) (g : Nw w w5) (ho : HmOwn w5 g0 v6 l6) (hg : w.heap.size ≤ g0)
    (hs : ∀ x ∈ l6, x ∈ l ∨ (HmOk w5 o none x ∧ newV w.heap.size (hmV x) ∧ ∀ b, x.a = some b → x.h.q ≠ [] → b.block < g0)) (hl : l6.length ≤ 64) (pg : Nat) :
    RbTo w o po pg most v l (w5.setCell ⟨o, 2, none⟩ v6) v6 l6 := by
  have hol := h.ol
  have h5 := h.nw g
  have t : Tch (fun b => b = o) w5 (w5.setCell ⟨o, 2, none⟩ v6) := setCell_at w5 ⟨o, 2, none⟩ v6
  have hge : ∀ b, v6.ownBlock = some b → g0 ≤ b := fun b hb => oge ho hb
  refine ⟨⟨?_, ?_, ?_, fun j => ?_, ?_, h.pl, ?_, fun x hx => ?_, hl⟩, (Tch.nw g).trans' t (fun i _ e => .inl e), fun b hb => ?_⟩
  · exact (World.cell?_setCell_other _ _ _ _ (by simp)).trans h5.c0
  · exact (World.cell?_setCell_other _ _ _ _ (by simp)).trans h5.c1
  · exact World.cell?_setCell_same _ _ _ h5.c2
  · rw [World.frozen?_setCell]; exact h5.fz j
  · simpa using h5.ol
  · refine olow (own_tchS ho t (fun b hb e => ?_)) (fun b hb => ?_)
    · have := hge b hb; omega
    · have := hge b hb; omega
  · have key : HmOk w5 o v6.ownBlock x := by
      rcases hs x hx with q | ⟨q1, q2, q3⟩
      · have hx5 := (h.ok x q).nw g
        refine ⟨hx5.rd, hx5.cap, hx5.len, hx5.new, fun b e hq e2 => ?_⟩
        have h1 := rq_low (h.ok x q).rd e hq
        have h2 := hge _ e2
        omega
      · refine ⟨q1.rd, q1.cap, q1.len, q1.new, fun b e hq e2 => ?_⟩
        have h1 := q3 b e hq
        have h2 := hge _ e2
        omega
    exact key.tch t (fun b e => .inl (by omega))
  · rcases hb with q | q | ⟨x, hx, a, ha, e⟩
    · exact .inl (.inl q)
    · exact .inr (Nat.le_trans hg (hge b q))
    · rcases hs x hx with q | ⟨q1, q2, q3⟩
      · exact .inl (.inr (.inr ⟨x, q, a, ha, e⟩))
      · refine .inr ?_
        rw [e]
        refine q2 a x.h.q.length x.c ?_
        unfold hmV
        rw [ha]
/-- Two changes, the first of which keeps the heads' row. -/
theorem RbTo.then {w w1 w2 : World} {o po pg : Nat} {most : Int} {v v2 : Value} {l l1 l2 : List Hm} (h : RbTo w o po pg most v l w1 v l1) (k : RbTo w1 o po pg most v l1 w2 v2 l2) : RbTo w o po pg most v l w2 v2 l2 :=
  ⟨k.rb, h.tch.trans k.tch, fun b hb => (k.inn b hb).elim (h.inn b) (fun q => .inr (Nat.le_trans h.tch.size q))⟩
theorem RbTo.pg {w w' : World} {o po pg : Nat} {most : Int} {v v' : Value} {l l' : List Hm} (h : RbTo w o po o most v l w' v' l') : RbTo w o po pg most v l w' v' l' :=
  ⟨h.rb, h.tch.mono (fun b _ e => by rcases e with e | e | e; exact .inl e; exact .inr (.inl e); exact .inl e), h.inn⟩
end Go.Proofs.YtpffldfpabglbaaGreatDoor
end

/- The document's own bucket: Hand. -/
section
namespace Go.Proofs.YtpffldfpabglbaaGreatDoor
open Go.RowKit
set_option linter.unusedVariables false      -- a contract need not use every name

theorem hnR_nm (h : Hq) (id txn : Int) (he : (hnR h id txn).2 = 0) : (hnR h id txn).1.t = h.t ∧ (hnR h id txn).1.r = h.r := by
  unfold hnR at he ⊢
  split
  · rename_i e; rw [e] at he; cases he
  · rename_i e
    rw [e] at he
    split
    · rename_i e2; simp only [e2, if_true] at he; cases he
    · rename_i e2
      split
      · rename_i e3; simp only [e2, e3, if_true] at he; simp at he
      · exact ⟨rfl, rfl⟩
end Go.Proofs.YtpffldfpabglbaaGreatDoor
end

/- The document's own bucket: Upgrade. -/
section
namespace Go.Proofs.YtpffldfpabglbaaGreatDoor
open Go.RowKit
set_option linter.unusedVariables false      -- a contract need not use every name

theorem upR_nm (h : Hq) (id m : Int) (he : (upR h id m).2.2 = 0) : (upR h id m).1.t = h.t ∧ (upR h id m).1.r = h.r := by
  revert he
  unfold upR
  split
  · intro he; cases he
  · split
    · intro he; cases he
    · split
      · intro he; cases he
      · intro _; exact ⟨rfl, rfl⟩
end Go.Proofs.YtpffldfpabglbaaGreatDoor
end

/- The hash of a string: stripe.Sum, at strings of at most 100,000 bytes. -/
section
namespace Go.Proofs.YtpffldfpabglbaaGreatDoor
open Go.ChangeShapes Go.WideShapes Go.ChangeAt Go.RowKit

def fnv1 (h : Int) (b : UInt8) : Int := bits .xor .u32 h (b.toNat : Int) * 16777619 % 4294967296
def fnv (l : List UInt8) : Int := l.foldl fnv1 2166136261
theorem fnv_snoc (l : List UInt8) (b : UInt8) : fnv (l ++ [b]) = fnv1 (fnv l) b := by simp [fnv]
theorem bw_nw (w : World) (e : TypeId) (s : ByteArray) : Nw w (Lib.bytesWorld w e s) :=
  ⟨rfl, by simp [Lib.bytesWorld, World.freeze], rfl, by rw [Lib.bytesWorld_size]; omega, fun k hk => Lib.bytesWorld_at_old w e s k hk⟩
theorem fnv_byte (b : UInt8) : (b.toNat : Int) % 4294967296 = b.toNat := by have := b.toNat_lt; omega
theorem fnv1_range (h : Int) (b : UInt8) : 0 ≤ fnv1 h b ∧ fnv1 h b < 4294967296 := by
  unfold fnv1
  generalize bits .xor .u32 h (b.toNat : Int) = z
  exact ⟨Int.emod_nonneg _ (by decide), Int.emod_lt_of_pos _ (by decide)⟩
theorem fnv_range (l : List UInt8) : 0 ≤ fnv l ∧ fnv l < 4294967296 := by
  rcases List.eq_nil_or_concat l with rfl | ⟨r, b, rfl⟩
  · decide
  · rw [List.concat_eq_append, fnv_snoc]; exact fnv1_range _ _
theorem take_more (l : List UInt8) (k : Nat) (h : k < l.length) : l.take (k + 1) = l.take k ++ [l.getD k 0] := by
  rw [List.take_succ_eq_append_getElem h]; simp [List.getD, h]

set_option maxHeartbeats 1000000 in
theorem sum_any (s : ByteArray) (w : World) (hs : s.size ≤ 100000) :
    Calls Tryz.prog 162 #[.string s] w fun e w' => e = .returned (.int .u32 (fnv s.data.toList)) ∧ Nw w w' := by
  have hcv := Lib.run_convert_string_bytes (P := Tryz.prog) w 9 124 5 s (u := .string) Tryz.underlying9 Tryz.underlying124 Tryz.underlying5
  have hB : ∀ t, t < s.size → (Lib.bytesWorld w 5 s).cell? ⟨w.heap.size, t, none⟩ = some (.int .u8 (s.data.toList.getD t 0).toNat) := fun t ht => Lib.bytesWorld_cell w 5 s t ht
  have hN := bw_nw w 5 s
  have hl : s.data.toList.length = s.size := by simp
  generalize Lib.bytesWorld w 5 s = W1 at hcv hB hN
  have HL := Lib.hid hl
  clear hl
  go_enter Tryz.func162, Tryz.ntmps162
  go_wp2
  go_loop [3, 9] (fun h i => ∃ k : Nat, k ≤ s.size ∧ i = .int .i64 k ∧ h = .int .u32 (fnv (s.data.toList.take k))) (fun _ i => s.size - (intOf i).toNat)
  case atStart => exact ⟨0, Nat.zero_le _, rfl, rfl⟩
  case round =>
    obtain ⟨k, hk, rfl, rfl⟩ := hrel
    by_cases h : k < s.size
    · have hb := hB k h
      have e : fnv (s.data.toList.take (k + 1)) = fnv1 (fnv (s.data.toList.take k)) (s.data.toList.getD k 0) := by rw [take_more _ k (by rw [HL.out]; exact h), fnv_snoc]
      have E := Lib.hid e
      generalize fnv (s.data.toList.take k) = H at *
      generalize s.data.toList.getD k 0 = b at *
      clear e hB hcv
      go_wp2
      go_round
      case rel => exact ⟨k + 1, by omega, by go_num, by rw [E.out, fnv1, fnv_byte]⟩
      case measure => simp [intOf]; omega
    · have hk' : k = s.size := by omega
      have ht : s.data.toList.take k = s.data.toList := by rw [hk', ← HL.out]; exact List.take_length
      rw [ht]
      clear ht
      go_wp2
      go_ret
      exact ⟨rfl, hN⟩
end Go.Proofs.YtpffldfpabglbaaGreatDoor
end
