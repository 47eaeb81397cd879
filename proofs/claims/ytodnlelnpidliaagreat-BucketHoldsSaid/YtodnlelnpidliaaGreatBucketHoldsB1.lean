/- Texts merged: Nw, Tch, Rf, BdA -/
import Derived.Test.YtodnlelnpidliaaGreatRows
import Derived.WalkKit
import Derived.Lib.Hide
import Derived.Deep.Draws
import Derived.LoopTactic
import Derived.WalkSpells
import Derived.Laws.OwnMore
import Derived.WalkSmall
import Derived.RangeFuncNested
import Derived.RangeFuncBound
import Derived.RangeFuncCalls
import Derived.RangeFuncLeaves
import Derived.Shelf.RegionOpen
import Derived.OwnWalkIn
import Derived.TacticsInMore
import Derived.LoopNIn
import Derived.LoopIn

/- An append to a slice that the call itself made, with one thing more than the library's law: where the result lies. Over whatever program. -/
section
namespace Go.Proofs.YtodnlelnpidliaaGreat
open Go.RowKit

/-- The worlds: w' is w with new blocks; nothing that was there has changed. -/
def Nw (w w' : World) : Prop := Below w.heap.size w w'
theorem Nw.refl (w : World) : Nw w w := Below.refl _ _
theorem Nw.trans {a b c : World} (h : Nw a b) (k : Nw b c) : Nw a c := Below.trans h (Below.mono k h.size)
theorem Nw.alloc {w w' : World} (h : Nw w w') (o : Obj) : Nw w (w'.alloc o) := Below.alloc h h.size o
theorem Nw.drewN {w w' : World} (h : Nw w w') (n : Nat) : Nw w (w'.drewN n) := ⟨h.os, h.tape, h.output, h.size, h.block⟩
theorem Nw.sz {w w' : World} (h : Nw w w') : w.heap.size ≤ w'.heap.size := Below.size h
theorem Nw.cell {w w' : World} (h : Nw w w') {b o : Nat} (hb : b < w.heap.size) : w'.cell? ⟨b, o, none⟩ = w.cell? ⟨b, o, none⟩ := Below.cell h hb
theorem Nw.below {B : Nat} {w w1 w2 : World} (h : Below B w w1) (k : Nw w1 w2) (hB : B ≤ w1.heap.size) : Below B w w2 := Below.trans h (Below.mono k hB)
theorem Nw.grownBy {w w' : World} (h : Nw w w') (row : Option Nat) : w.grownBy w' row := ⟨h.os, h.tape, h.output, h.size, fun k hk _ => h.block k hk⟩
theorem Nw.owns {w w' : World} (h : Nw w w') {base : Nat} {e : TypeId} {size : Nat} {v : Value} {n : Nat} {xs : List Value} (ho : w.ownsRow base e size v n xs) : w'.ownsRow base e size v n xs := by
  by_cases hv : v.ownBlock = none
  · exact ho.kept (h.grownBy none) (.inl hv)
  · exact ho.kept (h.grownBy none) (.inr hv)

variable {P : Program}

theorem run_append_fresh (w : World) (base : Nat) (t ty e : TypeId) (i : TypeInfo) (z : Value) (size bytes : Nat) (ht : P.underlying t = some (.slice e)) (hi : P.info? e = some i) (hz : i.zero = some z)
    (hsize : i.size = size) (hby : i.bytes = bytes) (hzs : z.cells.size = size) (hsz : 0 < size)
    (v : Value) (n : Nat) (xs : List Value) (hown : w.ownsRow base e size v n xs)
    (a : Addr) (m c : Nat) (news : List Value) (hl : news.length = m * size) (hnews : ∀ j u, news[j]? = some u → w.cell? (a.add j) = some u) (h1 : ∀ u ∈ news, u.oneCell' = true)
    (h63 : n + m ≤ maxLen) (hbytes : (n + m) * bytes ≤ 140737488355328) (hbase : base ≤ w.heap.size) :
    ∃ v' w', (Builtin.append_ #[t, t] ty #[v, .slice (some a) m c]).run P w = .ok v' w' ∧ w'.ownsRow base e size v' (n + m) (xs ++ news) ∧ w.grownBy w' v.ownBlock ∧
      (v'.ownBlock = v.ownBlock ∨ v'.ownBlock = some w.heap.size) := by
  obtain ⟨v', w', hr, g1, g2, g3⟩ := run_append_own (P := P) w base t ty e i z size bytes ht hi hz hsize hby hzs hsz v n xs hown a m c news hl hnews h1 h63 hbytes hbase
  refine ⟨v', w', hr, g1, g2, ?_⟩
  have h63' : ((n + m : Nat) : Int) ≤ 9223372036854775807 := by unfold maxLen at h63; omega
  subst hsize
  subst hby
  rcases hown.2 with ⟨rfl, rfl⟩ | ⟨g, cap, cur, rfl, hbg, hg, hnc, hcm, hcs, htake⟩
  · by_cases hm : m = 0
    · have e1 := g3.2 ⟨rfl, hm⟩
      subst e1
      exact .inl rfl
    · have hr2 := run_append_nil (P := P) w t ty e i z ht hi hz a m c news hl hnews (by omega) (by omega) (by simp only [Nat.zero_add] at hbytes; omega)
      rw [hr2] at hr
      injection hr with e1 _
      subst e1
      exact .inr rfl
  · by_cases hroom : n + m ≤ cap
    · have hfit : n * i.size + news.length ≤ cur.size := by rw [hl, hcs, ← Nat.add_mul]; exact Nat.mul_le_mul_right _ hroom
      have hr2 := run_append_room (P := P) w t ty e i ht hi g n cap cur hg a m c news hl hnews h1 hroom hfit
      rw [hr2] at hr
      injection hr with e1 _
      subst e1
      exact .inl rfl
    · have hr2 := run_append_grow (P := P) w t ty e i z ht hi hz ⟨g, 0, none⟩ n cap xs hown.1 (hown.cells (g := g) rfl) a m c news hl hnews (by omega) h63' (growslice_fits (by omega) hbytes)
      rw [hr2] at hr
      injection hr with e1 _
      subst e1
      exact .inr rfl

end Go.Proofs.YtodnlelnpidliaaGreat
end

/- What changes: blocks of a set alone, and new ones. -/
section
namespace Go.Proofs.YtodnlelnpidliaaGreat
open Go.RowKit

structure Tch (S : Nat → Prop) (w w' : World) : Prop where
  os : w'.os = w.os
  tape : w'.tape = w.tape
  output : w'.output = w.output
  size : w.heap.size ≤ w'.heap.size
  block : ∀ k, k < w.heap.size → ¬ S k → w'.heap[k]? = w.heap[k]?
theorem Tch.refl (S : Nat → Prop) (w : World) : Tch S w w := ⟨rfl, rfl, rfl, Nat.le_refl _, fun _ _ _ => rfl⟩
theorem Tch.trans' {S S' : Nat → Prop} {a b c : World} (h : Tch S a b) (k : Tch S' b c) (hS : ∀ i, i < a.heap.size → S' i → S i) : Tch S a c :=
  ⟨k.os.trans h.os, k.tape.trans h.tape, k.output.trans h.output, Nat.le_trans h.size k.size, fun i hi hn => (k.block i (Nat.lt_of_lt_of_le hi h.size) (fun e => hn (hS i hi e))).trans (h.block i hi hn)⟩
theorem Tch.trans {S : Nat → Prop} {a b c : World} (h : Tch S a b) (k : Tch S b c) : Tch S a c := h.trans' k fun _ _ e => e
theorem Tch.mono {S S' : Nat → Prop} {a b : World} (h : Tch S a b) (hS : ∀ i, i < a.heap.size → S i → S' i) : Tch S' a b :=
  ⟨h.os, h.tape, h.output, h.size, fun i hi hn => h.block i hi (fun e => hn (hS i hi e))⟩
theorem Tch.nw {S : Nat → Prop} {a b : World} (h : Nw a b) : Tch S a b := ⟨h.os, h.tape, h.output, h.size, fun k hk _ => h.block k hk⟩
theorem Tch.toNw {a b : World} (h : Tch (fun _ => False) a b) : Nw a b := ⟨h.os, h.tape, h.output, h.size, fun k hk => h.block k hk (fun e => e)⟩
theorem Tch.alloc {S : Nat → Prop} {a b : World} (h : Tch S a b) (o : Obj) : Tch S a (b.alloc o) := h.trans (.nw ((Nw.refl b).alloc o))
theorem Tch.set {S : Nat → Prop} {a b : World} (h : Tch S a b) {p : Addr} (hp : S p.block ∨ a.heap.size ≤ p.block) (v : Value) : Tch S a (b.setCell p v) :=
  h.trans' (S' := fun k => k = p.block) ⟨rfl, rfl, rfl, by simp [World.setCell], fun k _ hk => Below.heap_setCell _ _ _ _ hk⟩ (fun i hi e => by subst e; exact hp.resolve_right (by omega))
theorem Tch.drewN {S : Nat → Prop} {a b : World} (h : Tch S a b) (n : Nat) : Tch S a (b.drewN n) := ⟨h.os, h.tape, h.output, h.size, h.block⟩
theorem Tch.drew {S : Nat → Prop} {a b : World} (h : Tch S a b) : Tch S a b.drew := ⟨h.os, h.tape, h.output, h.size, h.block⟩
theorem Tch.grown {S : Nat → Prop} {a b c : World} {row : Option Nat} (h : Tch S a b) (hg : b.grownBy c row) (hr : ∀ k, row = some k → S k ∨ a.heap.size ≤ k) : Tch S a c :=
  h.trans' (S' := fun k => row = some k) ⟨hg.os, hg.tape, hg.output, hg.size, fun k hk hn => hg.block k hk (fun e => hn e.symm)⟩ (fun i hi e => (hr i e).resolve_right (by omega))
theorem Tch.cell {S : Nat → Prop} {a b : World} (h : Tch S a b) {k o : Nat} (hk : k < a.heap.size) (hn : ¬ S k) : b.cell? ⟨k, o, none⟩ = a.cell? ⟨k, o, none⟩ := World.cell?_of_block (h.block k hk hn)
theorem Tch.froz {S : Nat → Prop} {a b : World} (h : Tch S a b) {k o : Nat} (hk : k < a.heap.size) (hn : ¬ S k) : b.frozen? ⟨k, o, none⟩ = a.frozen? ⟨k, o, none⟩ := World.frozen?_of_block (h.block k hk hn)
theorem Nw.froz {a b : World} (h : Nw a b) {k o : Nat} (hk : k < a.heap.size) : b.frozen? ⟨k, o, none⟩ = a.frozen? ⟨k, o, none⟩ := (Tch.nw (S := fun _ => False) h).froz hk (fun e => e)
theorem nw_tch {w a b : World} {F : Nat → Prop} (h : Nw w a) (k : Tch F a b) (hF : ∀ i, F i → w.heap.size ≤ i) : Nw w b :=
  Tch.toNw ((Tch.nw (S := fun _ => False) h).trans' k fun i hi e => by have := hF i e; omega)
theorem setCell_at (w : World) (p : Addr) (v : Value) : Tch (fun k => k = p.block) w (w.setCell p v) := Tch.set (S := fun k => k = p.block) (Tch.refl _ w) (.inl rfl) v
end Go.Proofs.YtodnlelnpidliaaGreat
end

/- A range over a function that hands out ints and writes memory of its own: the iterator owns a set of blocks, which grows; the loop's body leaves them alone, the iterator leaves all others alone. The function may be a method value. Of no program. -/
section
namespace Go.Proofs.YtodnlelnpidliaaGreat
open Go.RowKit Go.Shelf

/-- What lies in S lies as it lay. -/
structure KpS (S : Nat → Prop) (A B : World) : Prop where
  size : A.heap.size ≤ B.heap.size
  same : ∀ k, S k → B.heap[k]? = A.heap[k]?
theorem KpS.refl (S : Nat → Prop) (A : World) : KpS S A A := ⟨Nat.le_refl _, fun _ _ => rfl⟩
theorem KpS.trans {S : Nat → Prop} {A B C : World} (h : KpS S A B) (k : KpS S B C) : KpS S A C := ⟨Nat.le_trans h.size k.size, fun i hi => (k.same i hi).trans (h.same i hi)⟩
theorem KpS.mono {S S' : Nat → Prop} {A B : World} (h : KpS S A B) (hs : ∀ k, S' k → S k) : KpS S' A B := ⟨h.size, fun i hi => h.same i (hs i hi)⟩
theorem KpS.tch {S T : Nat → Prop} {A B : World} (h : Tch T A B) (hs : ∀ k, S k → k < A.heap.size ∧ ¬ T k) : KpS S A B := ⟨h.size, fun i hi => h.block i (hs i hi).1 (hs i hi).2⟩
theorem KpS.put {S : Nat → Prop} {A : World} {l : Nat} (o : Obj) (hl : ¬ S l) : KpS S A (A.putObj l o) := ⟨by simp, fun i hi => World.putObj_heap_other (fun e => hl (e ▸ hi))⟩

/-- What an iterator, or the loop's own book-keeping, may do: blocks of S, new blocks, and the loop's two blocks, which are no cells. -/
structure Ch' (n₀ : Nat) (S : Nat → Prop) (A B : World) : Prop where
  os : B.os = A.os
  tape : B.tape = A.tape
  output : B.output = A.output
  size : A.heap.size ≤ B.heap.size
  block : ∀ k, k < A.heap.size → ¬ S k → B.heap[k]? = A.heap[k]? ∨ ((k = n₀ ∨ k = n₀ + 1) ∧ ∃ o, A.heap[k]? = some o ∧ o.isCells = false)
theorem Ch'.of_tch {n₀ : Nat} {S : Nat → Prop} {A B : World} (h : Tch S A B) : Ch' n₀ S A B := ⟨h.os, h.tape, h.output, h.size, fun k hk hn => .inl (h.block k hk hn)⟩
theorem Ch'.put {n₀ : Nat} {S : Nat → Prop} {A : World} {l : Nat} {o : Obj} (o' : Obj) (hn : l = n₀ ∨ l = n₀ + 1) (h : A.heap[l]? = some o) (ho : o.isCells = false) : Ch' n₀ S A (A.putObj l o') :=
  ⟨rfl, rfl, rfl, by simp, fun k _ _ => by
    by_cases e : k = l
    · subst e; exact .inr ⟨hn, o, h, ho⟩
    · exact .inl (World.putObj_heap_other e)⟩
theorem Ch'.cells {n₀ : Nat} {S : Nat → Prop} {A B : World} {k : Nat} {c : Array Value} {t : TypeId} {f : Nat × Nat} (h : Ch' n₀ S A B) (hk : A.heap[k]? = some (.cells c t f)) (hn : ¬ S k) : B.heap[k]? = some (.cells c t f) := by
  rcases h.block k (Array.getElem?_eq_some_iff.1 hk).1 hn with e | ⟨_, o, ho, hc⟩
  · exact e.trans hk
  · rw [hk] at ho; cases ho; cases hc
theorem Ch'.row {n₀ : Nat} {S : Nat → Prop} {A B : World} {v : Value} {n : Nat} {e : TypeId} {size : Nat} {xs : List Value} (h : Ch' n₀ S A B) (hr : A.ownsRow 0 e size v n xs) (hn : ∀ k, v.ownBlock = some k → ¬ S k) : B.ownsRow 0 e size v n xs := by
  refine ⟨hr.1, ?_⟩
  rcases hr.2 with h0 | ⟨g, cap, cur, rfl, hb, hg, rest⟩
  · exact .inl h0
  · exact .inr ⟨g, cap, cur, rfl, hb, h.cells hg (hn g rfl), rest⟩
/-- From w on nothing has changed but blocks of T and what came later. -/
theorem Ch'.tch {n₀ : Nat} {S T : Nat → Prop} {w A B : World} (h : Ch' n₀ S A B) (k : Tch T w A) (hn : w.heap.size ≤ n₀) (hS : ∀ i, i < w.heap.size → S i → T i) : Tch T w B :=
  ⟨h.os.trans k.os, h.tape.trans k.tape, h.output.trans k.output, Nat.le_trans k.size h.size, fun i hi ht => by
    rcases h.block i (Nat.lt_of_lt_of_le hi k.size) (fun e => ht (hS i hi e)) with e | ⟨e, _⟩
    · exact e.trans (k.block i hi ht)
    · omega⟩

/-- The loop's two blocks lie as they lay. -/
def KpD (n₀ : Nat) (A B : World) : Prop := ∀ k, (k = n₀ ∨ k = n₀ + 1) → B.heap[k]? = A.heap[k]?
/-- The iterator's contract. -/
def SeqH (F : Fence) (n : Nat) (P : Program) (g : Nat) (fa lb : Array Value) (xs : List Int) (S0 : Nat → Prop) (End : World → Prop) (w : World) : Prop :=
  ∀ (l : Nat) (J Jx : (Nat → Prop) → List Int → World → Prop) (W : World), Nw w W →
    (∀ S S' pre A B, J S pre A → Tch S A B → (∀ k, S k → S' k) → (∀ k, S' k → S k ∨ A.heap.size ≤ k) → (∀ k, S' k → k < B.heap.size) → J S' pre B) →
    (∀ S S' pre A B, Jx S pre A → Tch S A B → (∀ k, S k → S' k) → (∀ k, S' k → S k ∨ A.heap.size ≤ k) → (∀ k, S' k → k < B.heap.size) → Jx S' pre B) →
    (∀ S pre x A, J S pre A → (∀ k, S0 k → S k) → (∀ k, S k → k < A.heap.size) → (pre ++ [x]) <+: xs → YieldAt F (n - 1) P l #[.int .i64 x] A fun e B =>
      (e = .returned (.bool true) ∧ J S (pre ++ [x]) B ∧ KpS S A B) ∨ (e = .returned (.bool false) ∧ Jx S (pre ++ [x]) B ∧ KpS S A B)) →
    J S0 [] W →
    CallsIn F n P g (fa ++ #[.func (.yield l) #[] #[]] ++ lb) W fun e W' => (∃ v, e = .returned v) ∧ ((∃ S, J S xs W' ∧ End W') ∨ (∃ S pre, pre <+: xs ∧ Jx S pre W'))

/-- How the body of a round may be left. -/
def rfPost (n₀ : Nat) (S : Nat → Prop) (I : (Nat → Prop) → List Int → World → Prop) (Ix : Code → (Nat → Prop) → List Int → World → Prop) (pre : List Int) (A : World) : Exit → Act → World → Prop
  | .normal, _, B => KpD n₀ A B ∧ KpS S A B ∧ I S pre B
  | .ret, _, B => KpD n₀ A B ∧ KpS S A B ∧ Ix .ret S pre B
  | .exit id, _, B => KpD n₀ A B ∧ KpS S A B ∧ Ix (.exit id) S pre B
  | .goto t, _, B => KpD n₀ A B ∧ KpS S A B ∧ Ix (.goto t) S pre B
  | .panic _, _, _ => False
  | .outgrown, _, _ => False

variable {F : Fence} {n : Nat} {P : Program}
theorem rf_law {g : Operand} {ps : Array Tmp} {assign body : Code} {Q : Exit → Act → World → Prop} {a : Act} {w : World}
    (hro : F.round = none) (h1 : 1 ≤ n) {gf : Nat} {fa lb : Array Value} (hg : a.eval g = .func (.func gf) fa lb) (hFg : F.fn gf) (eg : ∀ args w, (callFunc gf args).run P w = .ok (.enter gf args) w)
    {xs : List Int} {S0 : Nat → Prop} {End : World → Prop} (hS0 : ∀ k, S0 k → k < w.heap.size) (hseq : SeqH F (n - 1) P gf fa lb xs S0 End w) (hps : ps.size = 1)
    (hEnd : ∀ (A : World) (l : Nat) (o o' : Obj), w.heap.size ≤ l → A.heap[l]? = some o → o.isCells = false → End A → End (A.putObj l o'))
    (I : (Nat → Prop) → List Int → World → Prop) (Ix : Code → (Nat → Prop) → List Int → World → Prop)
    (hI : ∀ S S' pre A B, I S pre A → Ch' w.heap.size S A B → (∀ k, S k → S' k) → (∀ k, S' k → S k ∨ A.heap.size ≤ k) → (∀ k, S' k → k < B.heap.size) → I S' pre B)
    (hIx : ∀ c S S' pre A B, Ix c S pre A → Ch' w.heap.size S A B → (∀ k, S k → S' k) → (∀ k, S' k → S k ∨ A.heap.size ≤ k) → (∀ k, S' k → k < B.heap.size) → Ix c S' pre B)
    (h0 : I S0 [] w) (a₁ : Int → Act)
    (hassign : ∀ (l : Nat) (x : Int) (A : World) (K : Act → World → Prop), K (a₁ x) A →
      assign.wpIn (F.inRound l) (n - 1 - 1) P (Exit.then K (fun _ _ _ => False)) { tmps := (ps.zip #[.int .i64 x]).foldl (fun t (p, v) => t.setIfInBounds p v) a.tmps, defers := [] } A)
    (hbody : ∀ (l : Nat) (S : Nat → Prop) (pre : List Int) (x : Int) (A : World), I S pre A → (∀ k, S0 k → S k) → (∀ k, S k → k < A.heap.size) → (∀ k, (k = w.heap.size ∨ k = w.heap.size + 1) → ¬ S k ∧ ∃ o, A.heap[k]? = some o ∧ o.isCells = false) →
      (pre ++ [x]) <+: xs → body.wpIn (F.inRound l) (n - 1 - 1) P (rfPost w.heap.size S I Ix (pre ++ [x]) A) (a₁ x) A)
    (hdone : ∀ (D : Nat) (S : Nat → Prop) (W : World), D = w.heap.size → (∀ k, S k → k < W.heap.size) → I S xs W → End W → W.heap[D]? = some (.deferred (some [])) → Q .normal { a with defers := { target := .collected D, args := #[] } :: a.defers } W)
    (hstop : ∀ (D : Nat) (c : Code) (S : Nat → Prop) (pre : List Int) (W : World), D = w.heap.size → pre <+: xs → Ix c S pre W → W.heap[D]? = some (.deferred (some [])) → c.wpIn F n P Q { a with defers := { target := .collected D, args := #[] } :: a.defers } W) :
    (Code.rangeFunc g ps assign body).wpIn F n P Q a w := by
  refine wpIn_rangeFunc ?_
  intro fn hfn
  rw [hro]
  obtain ⟨rec, hrec⟩ : ∃ rec : LoopState → Option Code → Loop, rec = fun st pe => { state := st, pending := pe, fn, tmps := a.tmps, params := ps, assign, body, defers := w.heap.size } := ⟨_, rfl⟩
  obtain ⟨W1, hW1⟩ : ∃ W1, (w.alloc (.deferred (some []))).alloc (.loop (rec .ready none)) = W1 := ⟨_, rfl⟩
  have hL1 : W1.heap[w.heap.size + 1]? = some (.loop (rec .ready none)) := by
    rw [← hW1]; have := World.alloc_heap_new (w.alloc (.deferred (some []))) (.loop (rec .ready none)); rwa [World.size_alloc] at this
  have hK1 : W1.heap[w.heap.size]? = some (.deferred (some [])) := by
    rw [← hW1]; exact (Below.heap_alloc _ _ _ (by simp)).trans (World.alloc_heap_new w _)
  have hb1 : Nw w W1 := by rw [← hW1]; exact ((Nw.refl w).alloc _).alloc _
  have hI1 : I S0 [] W1 := hI S0 S0 [] w W1 h0 (Ch'.of_tch (Tch.nw hb1)) (fun _ e => e) (fun _ e => .inl e) (fun k e => Nat.lt_of_lt_of_le (hS0 k e) hb1.sz)
  refine ⟨w.heap.size + 1, [{ target := .collected w.heap.size, args := #[] }], W1, { target := .fn (.func gf) lb, args := fa ++ #[.func (.yield (w.heap.size + 1)) #[] #[]] }, W1, gf,
    fa ++ #[.func (.yield (w.heap.size + 1)) #[] #[]] ++ lb, W1, ?_, ?_, ?_, ?_, fun _ => h1, ?_⟩
  · rw [← hW1, hrec]; exact run_enterLoop_outer _ _ _ _ _
  · simp only [resolve, hg]
    simp [go_sem]
  · intro f' hf'; simp [Target.leads] at hf'; subst hf'; exact hFg
  · simp [invoke, go_sem, eg]
  · have lt_of : ∀ {A : World} {k : Nat} {o : Obj}, A.heap[k]? = some o → k < A.heap.size := fun h => (Array.getElem?_eq_some_iff.1 h).1
    refine (hseq (w.heap.size + 1)
      (fun S pre W => I S pre W ∧ W.heap[w.heap.size + 1]? = some (.loop (rec .ready none)) ∧ W.heap[w.heap.size]? = some (.deferred (some [])) ∧ ¬ S (w.heap.size + 1) ∧ ¬ S w.heap.size ∧ (∀ k, S k → k < W.heap.size))
      (fun S pre W => ∃ c, Ix c S pre W ∧ W.heap[w.heap.size + 1]? = some (.loop (rec .done (some c))) ∧ W.heap[w.heap.size]? = some (.deferred (some [])) ∧ ¬ S (w.heap.size + 1) ∧ ¬ S w.heap.size ∧ (∀ k, S k → k < W.heap.size))
      W1 hb1 ?_ ?_ ?_ ⟨hI1, hL1, hK1, fun e => by have := hS0 _ e; omega, fun e => by have := hS0 _ e; omega, fun k e => Nat.lt_of_lt_of_le (hS0 k e) hb1.sz⟩).mono ?_
    · rintro S S' pre A B ⟨hi, hl, hk, hn1, hn2, hbd⟩ ht hs1 hs2 hs3
      exact ⟨hI S S' pre A B hi (Ch'.of_tch ht) hs1 hs2 hs3, (ht.block _ (lt_of hl) hn1).trans hl, (ht.block _ (lt_of hk) hn2).trans hk,
        fun e => (hs2 _ e).elim hn1 (fun h => by have := lt_of hl; omega), fun e => (hs2 _ e).elim hn2 (fun h => by have := lt_of hk; omega), hs3⟩
    · rintro S S' pre A B ⟨c, hi, hl, hk, hn1, hn2, hbd⟩ ht hs1 hs2 hs3
      exact ⟨c, hIx c S S' pre A B hi (Ch'.of_tch ht) hs1 hs2 hs3, (ht.block _ (lt_of hl) hn1).trans hl, (ht.block _ (lt_of hk) hn2).trans hk,
        fun e => (hs2 _ e).elim hn1 (fun h => by have := lt_of hl; omega), fun e => (hs2 _ e).elim hn2 (fun h => by have := lt_of hk; omega), hs3⟩
    · -- one round
      rintro S pre x W ⟨hi, hl, hk, hn1, hn2, hbd⟩ hsub hex hpre
      have hy := run_yield (P := P) (args := #[.int .i64 x]) hl (by rw [hrec]; exact hps.symm)
      rw [hrec] at hy
      refine ⟨fn, _, assign, body, hy, roundIn_of_wpIn hfn (hassign _ x W _ ?_)⟩
      clear hy
      have nw1 : Nw W W := Nw.refl W
      have hl1 : W.heap[w.heap.size + 1]? = some (.loop (rec .ready none)) := (nw1.block _ (lt_of hl)).trans hl
      have hk1 : W.heap[w.heap.size]? = some (.deferred (some [])) := (nw1.block _ (lt_of hk)).trans hk
      have hlW := lt_of hl
      have hi1 : I S pre W := hI S S pre W W hi (Ch'.of_tch (Tch.nw nw1)) (fun _ e => e) (fun _ e => .inl e) (fun k e => Nat.lt_of_lt_of_le (hex k e) nw1.sz)
      refine ⟨_, run_beginRound hl1 (by rw [hrec]), ?_⟩
      obtain ⟨A2, hA2⟩ : ∃ A2, W.putObj (w.heap.size + 1) (.loop { rec .ready none with state := .busy }) = A2 := ⟨_, rfl⟩
      rw [hA2]
      have hl2 : A2.heap[w.heap.size + 1]? = some (.loop { rec .ready none with state := .busy }) := by rw [← hA2]; exact World.putObj_heap_same (lt_of hl1)
      have hk2 : A2.heap[w.heap.size]? = some (.deferred (some [])) := by rw [← hA2]; exact (World.putObj_heap_other (by omega)).trans hk1
      have hi2 : I S pre A2 := by rw [← hA2]; exact hI S S pre W _ hi1 (Ch'.put _ (.inr rfl) hl1 rfl) (fun _ e => e) (fun _ e => .inl e) (fun k e => by rw [World.putObj_size]; exact Nat.lt_of_lt_of_le (hex k e) nw1.sz)
      have hsz2 : W.heap.size ≤ A2.heap.size := by rw [← hA2]; simp
      have kps : KpS S W A2 := by
        rw [← hA2]
        exact (KpS.tch (Tch.nw (S := fun _ => False) nw1) (fun k e => ⟨hex k e, fun h => h⟩)).trans (KpS.put _ hn1)
      refine wpIn_mono (hbody _ S pre x A2 hi2 hsub (fun k e => Nat.lt_of_lt_of_le (hex k e) hsz2) (fun k e => by
        rcases e with rfl | rfl
        · exact ⟨hn2, _, hk2, rfl⟩
        · exact ⟨hn1, _, hl2, rfl⟩) hpre) ?_
      have fin : ∀ (jump : Option Code) (W3 : World), KpD w.heap.size A2 W3 →
          (Instr.endRound (w.heap.size + 1) jump).run P W3 = .ok (.bool jump.isNone) (W3.putObj (w.heap.size + 1) (.loop (rec (if jump.isNone then .ready else .done) jump))) ∧
          W3.heap[w.heap.size + 1]? = some (.loop { rec .ready none with state := .busy }) ∧
          (W3.putObj (w.heap.size + 1) (.loop (rec (if jump.isNone then .ready else .done) jump))).heap[w.heap.size + 1]? = some (.loop (rec (if jump.isNone then .ready else .done) jump)) ∧
          (W3.putObj (w.heap.size + 1) (.loop (rec (if jump.isNone then .ready else .done) jump))).heap[w.heap.size]? = some (.deferred (some [])) := fun jump W3 hk3 => by
        have hl3 := (hk3 _ (.inr rfl)).trans hl2
        have := run_endRound (P := P) jump hl3
        rw [hrec] at this ⊢
        exact ⟨this, by rw [hrec] at hl3; exact hl3, World.putObj_heap_same (lt_of hl3), (World.putObj_heap_other (by omega)).trans ((hk3 _ (.inl rfl)).trans hk2)⟩
      have b3 : ∀ {W3 : World}, KpS S A2 W3 → ∀ {jj : Obj} (k : Nat), S k → k < (W3.putObj (w.heap.size + 1) jj).heap.size := fun h3 _ k e => by rw [World.putObj_size]; exact Nat.lt_of_lt_of_le (hex k e) (kps.trans h3).size
      rintro e a3 W3 hp
      cases e with
      | normal =>
        obtain ⟨hk3, hkp3, hi3⟩ := hp
        obtain ⟨hr, hl3, hl4, hk4⟩ := fin none W3 hk3
        exact ⟨_, _, hr, .inl ⟨rfl, ⟨hI S S _ W3 _ hi3 (Ch'.put _ (.inr rfl) hl3 rfl) (fun _ e => e) (fun _ e => .inl e) (b3 hkp3), hl4, hk4, hn1, hn2, b3 hkp3⟩, (kps.trans hkp3).trans (KpS.put _ hn1)⟩⟩
      | ret =>
        obtain ⟨hk3, hkp3, hi3⟩ := hp
        obtain ⟨hr, hl3, hl4, hk4⟩ := fin (some .ret) W3 hk3
        exact ⟨_, _, hr, .inr ⟨rfl, ⟨.ret, hIx _ S S _ W3 _ hi3 (Ch'.put _ (.inr rfl) hl3 rfl) (fun _ e => e) (fun _ e => .inl e) (b3 hkp3), hl4, hk4, hn1, hn2, b3 hkp3⟩, (kps.trans hkp3).trans (KpS.put _ hn1)⟩⟩
      | exit id =>
        obtain ⟨hk3, hkp3, hi3⟩ := hp
        obtain ⟨hr, hl3, hl4, hk4⟩ := fin (some (.exit id)) W3 hk3
        exact ⟨_, _, hr, .inr ⟨rfl, ⟨.exit id, hIx _ S S _ W3 _ hi3 (Ch'.put _ (.inr rfl) hl3 rfl) (fun _ e => e) (fun _ e => .inl e) (b3 hkp3), hl4, hk4, hn1, hn2, b3 hkp3⟩, (kps.trans hkp3).trans (KpS.put _ hn1)⟩⟩
      | goto t =>
        obtain ⟨hk3, hkp3, hi3⟩ := hp
        obtain ⟨hr, hl3, hl4, hk4⟩ := fin (some (.goto t)) W3 hk3
        exact ⟨_, _, hr, .inr ⟨rfl, ⟨.goto t, hIx _ S S _ W3 _ hi3 (Ch'.put _ (.inr rfl) hl3 rfl) (fun _ e => e) (fun _ e => .inl e) (b3 hkp3), hl4, hk4, hn1, hn2, b3 hkp3⟩, (kps.trans hkp3).trans (KpS.put _ hn1)⟩⟩
      | panic ch => exact hp.elim
      | outgrown => exact hp.elim
    · -- behind the iterator
      rintro e W2 ⟨⟨v, rfl⟩, (⟨S, ⟨hi, hl, hk, hn1, hn2, hbd⟩, hE⟩ | ⟨S, pre, hp, c, hi, hl, hk, hn1, hn2, hbd⟩)⟩
      · exact ⟨none, _, by have := run_endLoop (P := P) hl (by rw [hrec]; simp); rw [hrec] at this; exact this,
          hdone _ S _ rfl (fun k e => by rw [World.putObj_size]; exact hbd k e) (hI S S _ W2 _ hi (Ch'.put _ (.inr rfl) hl rfl) (fun _ e => e) (fun _ e => .inl e) (fun k e => by rw [World.putObj_size]; exact hbd k e)) (hEnd _ _ _ _ (by omega) hl rfl hE) ((World.putObj_heap_other (by omega)).trans hk)⟩
      · exact ⟨some c, _, by have := run_endLoop (P := P) hl (by rw [hrec]; simp); rw [hrec] at this; exact this,
          hstop _ c S pre _ rfl hp (hIx c S S _ W2 _ hi (Ch'.put _ (.inr rfl) hl rfl) (fun _ e => e) (fun _ e => .inl e) (fun k e => by rw [World.putObj_size]; exact hbd k e)) ((World.putObj_heap_other (by omega)).trans hk)⟩
end Go.Proofs.YtodnlelnpidliaaGreat
end

/- A range over a function that hands out values of any one kind, in an order that is not said: the iterator writes new blocks of its own alone; those of S0 it reads. A round may box its parameter. Of no program. -/
section
namespace Go.Proofs.YtodnlelnpidliaaGreat
open Go.RowKit Go.Shelf

/-- The iterator's contract: what it may give ahead of the end (Pre), what it has given at the end (Fin). -/
def SeqB {α : Type} (F : Fence) (n : Nat) (P : Program) (g : Nat) (fa lb : Array Value) (yv : α → Value) (Pre Fin : List α → Prop) (S0 : Nat → Prop) (w : World) : Prop :=
  ∀ (l : Nat) (J Jx : (Nat → Prop) → List α → World → Prop) (W : World), Nw w W →
    (∀ S S' pre A B, J S pre A → Tch (fun k => S k ∧ ¬ S0 k) A B → (∀ k, S k → S' k) → (∀ k, S' k → S k ∨ A.heap.size ≤ k) → (∀ k, S' k → k < B.heap.size) → J S' pre B) →
    (∀ S S' pre A B, Jx S pre A → Tch (fun k => S k ∧ ¬ S0 k) A B → (∀ k, S k → S' k) → (∀ k, S' k → S k ∨ A.heap.size ≤ k) → (∀ k, S' k → k < B.heap.size) → Jx S' pre B) →
    (∀ S pre x A, J S pre A → (∀ k, S0 k → S k) → (∀ k, S k → k < A.heap.size) → Pre (pre ++ [x]) → YieldAt F (n - 1) P l #[yv x] A fun e B =>
      (e = .returned (.bool true) ∧ J S (pre ++ [x]) B ∧ KpS S A B) ∨ (e = .returned (.bool false) ∧ Jx S (pre ++ [x]) B ∧ KpS S A B)) →
    J S0 [] W →
    CallsIn F n P g (fa ++ #[.func (.yield l) #[] #[]] ++ lb) W fun e W' => (∃ v, e = .returned v) ∧ ((∃ S xs, Fin xs ∧ J S xs W') ∨ (∃ S pre, Pre pre ∧ Jx S pre W'))
theorem SeqB.later {α : Type} {F : Fence} {n : Nat} {P : Program} {g : Nat} {fa lb : Array Value} {yv : α → Value} {Pre Fin : List α → Prop} {S0 : Nat → Prop} {w w' : World} (h : SeqB F n P g fa lb yv Pre Fin S0 w) (k : Nw w w') : SeqB F n P g fa lb yv Pre Fin S0 w' :=
  fun l J Jx W hW => h l J Jx W (k.trans hW)

/-- How the body of a round may be left. -/
def rbPost {α : Type} (n₀ : Nat) (S : Nat → Prop) (I : (Nat → Prop) → List α → World → Prop) (Ix : Code → (Nat → Prop) → List α → World → Prop) (pre : List α) (A : World) : Exit → Act → World → Prop
  | .normal, _, B => KpD n₀ A B ∧ KpS S A B ∧ I S pre B
  | .ret, _, B => KpD n₀ A B ∧ KpS S A B ∧ Ix .ret S pre B
  | .exit id, _, B => KpD n₀ A B ∧ KpS S A B ∧ Ix (.exit id) S pre B
  | .goto t, _, B => KpD n₀ A B ∧ KpS S A B ∧ Ix (.goto t) S pre B
  | .panic _, _, _ => False
  | .outgrown, _, _ => False

/-- What a round makes of its parameter: nothing, or a box. -/
def mkB (o : Option Obj) (A : World) : World := match o with | none => A | some o => A.alloc o
theorem mkB_nw (o : Option Obj) (A : World) : Nw A (mkB o A) := by
  cases o with
  | none => exact Nw.refl A
  | some o => exact (Nw.refl A).alloc _
theorem mkB_at (o : Obj) (A : World) : (mkB (some o) A).heap[A.heap.size]? = some o := World.alloc_heap_new _ _

variable {F : Fence} {n : Nat} {P : Program} {α : Type}
theorem rg_law {g : Operand} {ps : Array Tmp} {assign body : Code} {Q : Exit → Act → World → Prop} {a : Act} {w : World}
    (hro : F.round = none) (h1 : 1 ≤ n) {gf : Nat} {fa lb : Array Value} (hg : a.eval g = .func (.func gf) fa lb) (hFg : F.fn gf) (eg : ∀ args w, (callFunc gf args).run P w = .ok (.enter gf args) w)
    {yv : α → Value} {Pre Fin : List α → Prop} {S0 : Nat → Prop} (hS0 : ∀ k, S0 k → k < w.heap.size) (hseq : SeqB F (n - 1) P gf fa lb yv Pre Fin S0 w) (hps : ps.size = 1)
    (I : (Nat → Prop) → List α → World → Prop) (Ix : Code → (Nat → Prop) → List α → World → Prop)
    (hI : ∀ S S' pre A B, I S pre A → Ch' w.heap.size (fun k => S k ∧ ¬ S0 k) A B → (∀ k, S k → S' k) → (∀ k, S' k → S k ∨ A.heap.size ≤ k) → (∀ k, S' k → k < B.heap.size) → I S' pre B)
    (hIx : ∀ c S S' pre A B, Ix c S pre A → Ch' w.heap.size (fun k => S k ∧ ¬ S0 k) A B → (∀ k, S k → S' k) → (∀ k, S' k → S k ∨ A.heap.size ≤ k) → (∀ k, S' k → k < B.heap.size) → Ix c S' pre B)
    (h0 : I S0 [] w) (bxo : α → Option Obj) (a₁ : α → Nat → Act)
    (hassign : ∀ (l : Nat) (x : α) (A : World) (K : Act → World → Prop), K (a₁ x A.heap.size) (mkB (bxo x) A) →
      assign.wpIn (F.inRound l) (n - 1 - 1) P (Exit.then K (fun _ _ _ => False)) { tmps := (ps.zip #[yv x]).foldl (fun t (p, v) => t.setIfInBounds p v) a.tmps, defers := [] } A)
    (hbody : ∀ (l : Nat) (S : Nat → Prop) (pre : List α) (x : α) (bx : Nat) (A : World), I S pre A → (∀ k, S0 k → S k) → (∀ k, S k → k < A.heap.size) → ¬ S bx → w.heap.size ≤ bx → (∀ k, (k = w.heap.size ∨ k = w.heap.size + 1) → ¬ S k ∧ ∃ o, A.heap[k]? = some o ∧ o.isCells = false) → (∀ o, bxo x = some o → A.heap[bx]? = some o) →
      Pre (pre ++ [x]) → body.wpIn (F.inRound l) (n - 1 - 1) P (rbPost w.heap.size S I Ix (pre ++ [x]) A) (a₁ x bx) A)
    (hdone : ∀ (D : Nat) (S : Nat → Prop) (xs : List α) (W : World), D = w.heap.size → (∀ k, S k → k < W.heap.size) → Fin xs → I S xs W → W.heap[D]? = some (.deferred (some [])) → Q .normal { a with defers := { target := .collected D, args := #[] } :: a.defers } W)
    (hstop : ∀ (D : Nat) (c : Code) (S : Nat → Prop) (pre : List α) (W : World), D = w.heap.size → Pre pre → Ix c S pre W → W.heap[D]? = some (.deferred (some [])) → c.wpIn F n P Q { a with defers := { target := .collected D, args := #[] } :: a.defers } W) :
    (Code.rangeFunc g ps assign body).wpIn F n P Q a w := by
  refine wpIn_rangeFunc ?_
  intro fn hfn
  rw [hro]
  obtain ⟨rec, hrec⟩ : ∃ rec : LoopState → Option Code → Loop, rec = fun st pe => { state := st, pending := pe, fn, tmps := a.tmps, params := ps, assign, body, defers := w.heap.size } := ⟨_, rfl⟩
  obtain ⟨W1, hW1⟩ : ∃ W1, (w.alloc (.deferred (some []))).alloc (.loop (rec .ready none)) = W1 := ⟨_, rfl⟩
  have hL1 : W1.heap[w.heap.size + 1]? = some (.loop (rec .ready none)) := by
    rw [← hW1]; have := World.alloc_heap_new (w.alloc (.deferred (some []))) (.loop (rec .ready none)); rwa [World.size_alloc] at this
  have hK1 : W1.heap[w.heap.size]? = some (.deferred (some [])) := by
    rw [← hW1]; exact (Below.heap_alloc _ _ _ (by simp)).trans (World.alloc_heap_new w _)
  have hb1 : Nw w W1 := by rw [← hW1]; exact ((Nw.refl w).alloc _).alloc _
  have hI1 : I S0 [] W1 := hI S0 S0 [] w W1 h0 (Ch'.of_tch (Tch.nw hb1)) (fun _ e => e) (fun _ e => .inl e) (fun k e => Nat.lt_of_lt_of_le (hS0 k e) hb1.sz)
  refine ⟨w.heap.size + 1, [{ target := .collected w.heap.size, args := #[] }], W1, { target := .fn (.func gf) lb, args := fa ++ #[.func (.yield (w.heap.size + 1)) #[] #[]] }, W1, gf,
    fa ++ #[.func (.yield (w.heap.size + 1)) #[] #[]] ++ lb, W1, ?_, ?_, ?_, ?_, fun _ => h1, ?_⟩
  · rw [← hW1, hrec]; exact run_enterLoop_outer _ _ _ _ _
  · simp only [resolve, hg]
    simp [go_sem]
  · intro f' hf'; simp [Target.leads] at hf'; subst hf'; exact hFg
  · simp [invoke, go_sem, eg]
  · have lt_of : ∀ {A : World} {k : Nat} {o : Obj}, A.heap[k]? = some o → k < A.heap.size := fun h => (Array.getElem?_eq_some_iff.1 h).1
    refine (hseq (w.heap.size + 1)
      (fun S pre W => I S pre W ∧ W.heap[w.heap.size + 1]? = some (.loop (rec .ready none)) ∧ W.heap[w.heap.size]? = some (.deferred (some [])) ∧ ¬ S (w.heap.size + 1) ∧ ¬ S w.heap.size ∧ (∀ k, S k → k < W.heap.size))
      (fun S pre W => ∃ c, Ix c S pre W ∧ W.heap[w.heap.size + 1]? = some (.loop (rec .done (some c))) ∧ W.heap[w.heap.size]? = some (.deferred (some [])) ∧ ¬ S (w.heap.size + 1) ∧ ¬ S w.heap.size ∧ (∀ k, S k → k < W.heap.size))
      W1 hb1 ?_ ?_ ?_ ⟨hI1, hL1, hK1, fun e => by have := hS0 _ e; omega, fun e => by have := hS0 _ e; omega, fun k e => Nat.lt_of_lt_of_le (hS0 k e) hb1.sz⟩).mono ?_
    · rintro S S' pre A B ⟨hi, hl, hk, hn1, hn2, hbd⟩ ht hs1 hs2 hs3
      exact ⟨hI S S' pre A B hi (Ch'.of_tch ht) hs1 hs2 hs3, (ht.block _ (lt_of hl) (fun e => hn1 e.1)).trans hl, (ht.block _ (lt_of hk) (fun e => hn2 e.1)).trans hk,
        fun e => (hs2 _ e).elim hn1 (fun h => by have := lt_of hl; omega), fun e => (hs2 _ e).elim hn2 (fun h => by have := lt_of hk; omega), hs3⟩
    · rintro S S' pre A B ⟨c, hi, hl, hk, hn1, hn2, hbd⟩ ht hs1 hs2 hs3
      exact ⟨c, hIx c S S' pre A B hi (Ch'.of_tch ht) hs1 hs2 hs3, (ht.block _ (lt_of hl) (fun e => hn1 e.1)).trans hl, (ht.block _ (lt_of hk) (fun e => hn2 e.1)).trans hk,
        fun e => (hs2 _ e).elim hn1 (fun h => by have := lt_of hl; omega), fun e => (hs2 _ e).elim hn2 (fun h => by have := lt_of hk; omega), hs3⟩
    · -- one round
      rintro S pre x W ⟨hi, hl, hk, hn1, hn2, hbd⟩ hsub hex hpre
      have hy := run_yield (P := P) (args := #[yv x]) hl (by rw [hrec]; exact hps.symm)
      rw [hrec] at hy
      refine ⟨fn, _, assign, body, hy, roundIn_of_wpIn hfn (hassign _ x W _ ?_)⟩
      clear hy
      have hbx : ∀ o, bxo x = some o → (mkB (bxo x) W).heap[W.heap.size]? = some o := fun o e => by rw [e]; exact mkB_at o W
      have nw1 := mkB_nw (bxo x) W
      obtain ⟨A1, hA1⟩ : ∃ A1, mkB (bxo x) W = A1 := ⟨_, rfl⟩
      rw [hA1] at nw1 hbx ⊢
      have hl1 : A1.heap[w.heap.size + 1]? = some (.loop (rec .ready none)) := (nw1.block _ (lt_of hl)).trans hl
      have hk1 : A1.heap[w.heap.size]? = some (.deferred (some [])) := (nw1.block _ (lt_of hk)).trans hk
      have hlW := lt_of hl
      have hi1 : I S pre A1 := hI S S pre W A1 hi (Ch'.of_tch (Tch.nw nw1)) (fun _ e => e) (fun _ e => .inl e) (fun k e => Nat.lt_of_lt_of_le (hex k e) nw1.sz)
      refine ⟨_, run_beginRound hl1 (by rw [hrec]), ?_⟩
      obtain ⟨A2, hA2⟩ : ∃ A2, A1.putObj (w.heap.size + 1) (.loop { rec .ready none with state := .busy }) = A2 := ⟨_, rfl⟩
      rw [hA2]
      have hl2 : A2.heap[w.heap.size + 1]? = some (.loop { rec .ready none with state := .busy }) := by rw [← hA2]; exact World.putObj_heap_same (lt_of hl1)
      have hk2 : A2.heap[w.heap.size]? = some (.deferred (some [])) := by rw [← hA2]; exact (World.putObj_heap_other (by omega)).trans hk1
      have hbx2 : ∀ o, bxo x = some o → A2.heap[W.heap.size]? = some o := fun o e => by rw [← hA2]; exact (World.putObj_heap_other (by omega)).trans (hbx o e)
      have hi2 : I S pre A2 := by rw [← hA2]; exact hI S S pre A1 _ hi1 (Ch'.put _ (.inr rfl) hl1 rfl) (fun _ e => e) (fun _ e => .inl e) (fun k e => by rw [World.putObj_size]; exact Nat.lt_of_lt_of_le (hex k e) nw1.sz)
      have hsz2 : W.heap.size ≤ A2.heap.size := by rw [← hA2]; simp; exact nw1.sz
      have kps : KpS S W A2 := by
        rw [← hA2]
        exact (KpS.tch (Tch.nw (S := fun _ => False) nw1) (fun k e => ⟨hex k e, fun h => h⟩)).trans (KpS.put _ hn1)
      refine wpIn_mono (hbody _ S pre x W.heap.size A2 hi2 hsub (fun k e => Nat.lt_of_lt_of_le (hex k e) hsz2) (fun e => by have := hex _ e; omega) (by omega) (fun k e => by
        rcases e with rfl | rfl
        · exact ⟨hn2, _, hk2, rfl⟩
        · exact ⟨hn1, _, hl2, rfl⟩) hbx2 hpre) ?_
      have fin : ∀ (jump : Option Code) (W3 : World), KpD w.heap.size A2 W3 →
          (Instr.endRound (w.heap.size + 1) jump).run P W3 = .ok (.bool jump.isNone) (W3.putObj (w.heap.size + 1) (.loop (rec (if jump.isNone then .ready else .done) jump))) ∧
          W3.heap[w.heap.size + 1]? = some (.loop { rec .ready none with state := .busy }) ∧
          (W3.putObj (w.heap.size + 1) (.loop (rec (if jump.isNone then .ready else .done) jump))).heap[w.heap.size + 1]? = some (.loop (rec (if jump.isNone then .ready else .done) jump)) ∧
          (W3.putObj (w.heap.size + 1) (.loop (rec (if jump.isNone then .ready else .done) jump))).heap[w.heap.size]? = some (.deferred (some [])) := fun jump W3 hk3 => by
        have hl3 := (hk3 _ (.inr rfl)).trans hl2
        have := run_endRound (P := P) jump hl3
        rw [hrec] at this ⊢
        exact ⟨this, by rw [hrec] at hl3; exact hl3, World.putObj_heap_same (lt_of hl3), (World.putObj_heap_other (by omega)).trans ((hk3 _ (.inl rfl)).trans hk2)⟩
      have b3 : ∀ {W3 : World}, KpS S A2 W3 → ∀ {jj : Obj} (k : Nat), S k → k < (W3.putObj (w.heap.size + 1) jj).heap.size := fun h3 _ k e => by rw [World.putObj_size]; exact Nat.lt_of_lt_of_le (hex k e) (kps.trans h3).size
      rintro e a3 W3 hp
      cases e with
      | normal =>
        obtain ⟨hk3, hkp3, hi3⟩ := hp
        obtain ⟨hr, hl3, hl4, hk4⟩ := fin none W3 hk3
        exact ⟨_, _, hr, .inl ⟨rfl, ⟨hI S S _ W3 _ hi3 (Ch'.put _ (.inr rfl) hl3 rfl) (fun _ e => e) (fun _ e => .inl e) (b3 hkp3), hl4, hk4, hn1, hn2, b3 hkp3⟩, (kps.trans hkp3).trans (KpS.put _ hn1)⟩⟩
      | ret =>
        obtain ⟨hk3, hkp3, hi3⟩ := hp
        obtain ⟨hr, hl3, hl4, hk4⟩ := fin (some .ret) W3 hk3
        exact ⟨_, _, hr, .inr ⟨rfl, ⟨.ret, hIx _ S S _ W3 _ hi3 (Ch'.put _ (.inr rfl) hl3 rfl) (fun _ e => e) (fun _ e => .inl e) (b3 hkp3), hl4, hk4, hn1, hn2, b3 hkp3⟩, (kps.trans hkp3).trans (KpS.put _ hn1)⟩⟩
      | exit id =>
        obtain ⟨hk3, hkp3, hi3⟩ := hp
        obtain ⟨hr, hl3, hl4, hk4⟩ := fin (some (.exit id)) W3 hk3
        exact ⟨_, _, hr, .inr ⟨rfl, ⟨.exit id, hIx _ S S _ W3 _ hi3 (Ch'.put _ (.inr rfl) hl3 rfl) (fun _ e => e) (fun _ e => .inl e) (b3 hkp3), hl4, hk4, hn1, hn2, b3 hkp3⟩, (kps.trans hkp3).trans (KpS.put _ hn1)⟩⟩
      | goto t =>
        obtain ⟨hk3, hkp3, hi3⟩ := hp
        obtain ⟨hr, hl3, hl4, hk4⟩ := fin (some (.goto t)) W3 hk3
        exact ⟨_, _, hr, .inr ⟨rfl, ⟨.goto t, hIx _ S S _ W3 _ hi3 (Ch'.put _ (.inr rfl) hl3 rfl) (fun _ e => e) (fun _ e => .inl e) (b3 hkp3), hl4, hk4, hn1, hn2, b3 hkp3⟩, (kps.trans hkp3).trans (KpS.put _ hn1)⟩⟩
      | panic ch => exact hp.elim
      | outgrown => exact hp.elim
    · -- behind the iterator
      rintro e W2 ⟨⟨v, rfl⟩, (⟨S, xs, hf, hi, hl, hk, hn1, hn2, hbd⟩ | ⟨S, pre, hp, c, hi, hl, hk, hn1, hn2, hbd⟩)⟩
      · exact ⟨none, _, by have := run_endLoop (P := P) hl (by rw [hrec]; simp); rw [hrec] at this; exact this,
          hdone _ S xs _ rfl (fun k e => by rw [World.putObj_size]; exact hbd k e) hf (hI S S _ W2 _ hi (Ch'.put _ (.inr rfl) hl rfl) (fun _ e => e) (fun _ e => .inl e) (fun k e => by rw [World.putObj_size]; exact hbd k e)) ((World.putObj_heap_other (by omega)).trans hk)⟩
      · exact ⟨some c, _, by have := run_endLoop (P := P) hl (by rw [hrec]; simp); rw [hrec] at this; exact this,
          hstop _ c S pre _ rfl hp (hIx c S S _ W2 _ hi (Ch'.put _ (.inr rfl) hl rfl) (fun _ e => e) (fun _ e => .inl e) (fun k e => by rw [World.putObj_size]; exact hbd k e)) ((World.putObj_heap_other (by omega)).trans hk)⟩
end Go.Proofs.YtodnlelnpidliaaGreat
end
