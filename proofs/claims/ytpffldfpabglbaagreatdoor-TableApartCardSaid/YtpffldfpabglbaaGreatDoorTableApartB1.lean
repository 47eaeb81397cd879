/- Texts merged: Nw, Tch, Rf, BdA, ModeA, QuM, QuS, QuP, QuH, BkM -/
import Derived.Test.YtpffldfpabglbaaGreatDoorRows
import Derived.WalkKit
import Derived.Lib.Hide
import Derived.Deep.Draws
import Derived.LoopTactic
import Derived.WalkSpells
import Derived.Laws.OwnMore
import Derived.WalkSmall
import Derived.RangeFuncNested
import Derived.RangeFuncBound
import Derived.RangeFuncCalls
import Derived.RangeFuncLeaves
import Derived.Shelf.RegionOpen
import Derived.OwnWalkIn
import Derived.TacticsInMore
import Derived.LoopNIn
import Derived.LoopIn
import Derived.ProofKit
import Derived.OpenShut
import Derived.ShutString
import Derived.Deep.WholeRow
import Derived.Outline

/- An append to a slice that the call itself made, with one thing more than the library's law: where the result lies. Over whatever program. -/
section
namespace Go.Proofs.YtpffldfpabglbaaGreatDoor
open Go.RowKit

/-- The worlds: w' is w with new blocks; nothing that was there has changed. -/
def Nw (w w' : World) : Prop := Below w.heap.size w w'
theorem Nw.refl (w : World) : Nw w w := Below.refl _ _
theorem Nw.trans {a b c : World} (h : Nw a b) (k : Nw b c) : Nw a c := Below.trans h (Below.mono k h.size)
theorem Nw.alloc {w w' : World} (h : Nw w w') (o : Obj) : Nw w (w'.alloc o) := Below.alloc h h.size o
theorem Nw.drewN {w w' : World} (h : Nw w w') (n : Nat) : Nw w (w'.drewN n) := ⟨h.os, h.tape, h.output, h.size, h.block⟩
theorem Nw.sz {w w' : World} (h : Nw w w') : w.heap.size ≤ w'.heap.size := Below.size h
theorem Nw.cell {w w' : World} (h : Nw w w') {b o : Nat} (hb : b < w.heap.size) : w'.cell? ⟨b, o, none⟩ = w.cell? ⟨b, o, none⟩ := Below.cell h hb
theorem Nw.below {B : Nat} {w w1 w2 : World} (h : Below B w w1) (k : Nw w1 w2) (hB : B ≤ w1.heap.size) : Below B w w2 := Below.trans h (Below.mono k hB)
theorem Nw.grownBy {w w' : World} (h : Nw w w') (row : Option Nat) : w.grownBy w' row := ⟨h.os, h.tape, h.output, h.size, fun k hk _ => h.block k hk⟩
theorem Nw.owns {w w' : World} (h : Nw w w') {base : Nat} {e : TypeId} {size : Nat} {v : Value} {n : Nat} {xs : List Value} (ho : w.ownsRow base e size v n xs) : w'.ownsRow base e size v n xs := by
  by_cases hv : v.ownBlock = none
  · exact ho.kept (h.grownBy none) (.inl hv)
  · exact ho.kept (h.grownBy none) (.inr hv)

variable {P : Program}

theorem run_append_fresh (w : World) (base : Nat) (t ty e : TypeId) (i : TypeInfo) (z : Value) (size bytes : Nat) (ht : P.underlying t = some (.slice e)) (hi : P.info? e = some i) (hz : i.zero = some z)
    (hsize : i.size = size) (hby : i.bytes = bytes) (hzs : z.cells.size = size) (hsz : 0 < size)
    (v : Value) (n : Nat) (xs : List Value) (hown : w.ownsRow base e size v n xs)
    (a : Addr) (m c : Nat) (news : List Value) (hl : news.length = m * size) (hnews : ∀ j u, news[j]? = some u → w.cell? (a.add j) = some u) (h1 : ∀ u ∈ news, u.oneCell' = true)
    (h63 : n + m ≤ maxLen) (hbytes : (n + m) * bytes ≤ 140737488355328) (hbase : base ≤ w.heap.size) :
    ∃ v' w', (Builtin.append_ #[t, t] ty #[v, .slice (some a) m c]).run P w = .ok v' w' ∧ w'.ownsRow base e size v' (n + m) (xs ++ news) ∧ w.grownBy w' v.ownBlock ∧
      (v'.ownBlock = v.ownBlock ∨ v'.ownBlock = some w.heap.size) := by
  obtain ⟨v', w', hr, g1, g2, g3⟩ := run_append_own (P := P) w base t ty e i z size bytes ht hi hz hsize hby hzs hsz v n xs hown a m c news hl hnews h1 h63 hbytes hbase
  refine ⟨v', w', hr, g1, g2, ?_⟩
  have h63' : ((n + m : Nat) : Int) ≤ 9223372036854775807 := by unfold maxLen at h63; omega
  subst hsize
  subst hby
  rcases hown.2 with ⟨rfl, rfl⟩ | ⟨g, cap, cur, rfl, hbg, hg, hnc, hcm, hcs, htake⟩
  · by_cases hm : m = 0
    · have e1 := g3.2 ⟨rfl, hm⟩
      subst e1
      exact .inl rfl
    · have hr2 := run_append_nil (P := P) w t ty e i z ht hi hz a m c news hl hnews (by omega) (by omega) (by simp only [Nat.zero_add] at hbytes; omega)
      rw [hr2] at hr
      injection hr with e1 _
      subst e1
      exact .inr rfl
  · by_cases hroom : n + m ≤ cap
    · have hfit : n * i.size + news.length ≤ cur.size := by rw [hl, hcs, ← Nat.add_mul]; exact Nat.mul_le_mul_right _ hroom
      have hr2 := run_append_room (P := P) w t ty e i ht hi g n cap cur hg a m c news hl hnews h1 hroom hfit
      rw [hr2] at hr
      injection hr with e1 _
      subst e1
      exact .inl rfl
    · have hr2 := run_append_grow (P := P) w t ty e i z ht hi hz ⟨g, 0, none⟩ n cap xs hown.1 (hown.cells (g := g) rfl) a m c news hl hnews (by omega) h63' (growslice_fits (by omega) hbytes)
      rw [hr2] at hr
      injection hr with e1 _
      subst e1
      exact .inr rfl

end Go.Proofs.YtpffldfpabglbaaGreatDoor
end

/- What changes: blocks of a set alone, and new ones. -/
section
namespace Go.Proofs.YtpffldfpabglbaaGreatDoor
open Go.RowKit

structure Tch (S : Nat → Prop) (w w' : World) : Prop where
  os : w'.os = w.os
  tape : w'.tape = w.tape
  output : w'.output = w.output
  size : w.heap.size ≤ w'.heap.size
  block : ∀ k, k < w.heap.size → ¬ S k → w'.heap[k]? = w.heap[k]?
theorem Tch.refl (S : Nat → Prop) (w : World) : Tch S w w := ⟨rfl, rfl, rfl, Nat.le_refl _, fun _ _ _ => rfl⟩
theorem Tch.trans' {S S' : Nat → Prop} {a b c : World} (h : Tch S a b) (k : Tch S' b c) (hS : ∀ i, i < a.heap.size → S' i → S i) : Tch S a c :=
  ⟨k.os.trans h.os, k.tape.trans h.tape, k.output.trans h.output, Nat.le_trans h.size k.size, fun i hi hn => (k.block i (Nat.lt_of_lt_of_le hi h.size) (fun e => hn (hS i hi e))).trans (h.block i hi hn)⟩
theorem Tch.trans {S : Nat → Prop} {a b c : World} (h : Tch S a b) (k : Tch S b c) : Tch S a c := h.trans' k fun _ _ e => e
theorem Tch.mono {S S' : Nat → Prop} {a b : World} (h : Tch S a b) (hS : ∀ i, i < a.heap.size → S i → S' i) : Tch S' a b :=
  ⟨h.os, h.tape, h.output, h.size, fun i hi hn => h.block i hi (fun e => hn (hS i hi e))⟩
theorem Tch.nw {S : Nat → Prop} {a b : World} (h : Nw a b) : Tch S a b := ⟨h.os, h.tape, h.output, h.size, fun k hk _ => h.block k hk⟩
theorem Tch.toNw {a b : World} (h : Tch (fun _ => False) a b) : Nw a b := ⟨h.os, h.tape, h.output, h.size, fun k hk => h.block k hk (fun e => e)⟩
theorem Tch.alloc {S : Nat → Prop} {a b : World} (h : Tch S a b) (o : Obj) : Tch S a (b.alloc o) := h.trans (.nw ((Nw.refl b).alloc o))
theorem Tch.set {S : Nat → Prop} {a b : World} (h : Tch S a b) {p : Addr} (hp : S p.block ∨ a.heap.size ≤ p.block) (v : Value) : Tch S a (b.setCell p v) :=
  h.trans' (S' := fun k => k = p.block) ⟨rfl, rfl, rfl, by simp [World.setCell], fun k _ hk => Below.heap_setCell _ _ _ _ hk⟩ (fun i hi e => by subst e; exact hp.resolve_right (by omega))
theorem Tch.drewN {S : Nat → Prop} {a b : World} (h : Tch S a b) (n : Nat) : Tch S a (b.drewN n) := ⟨h.os, h.tape, h.output, h.size, h.block⟩
theorem Tch.drew {S : Nat → Prop} {a b : World} (h : Tch S a b) : Tch S a b.drew := ⟨h.os, h.tape, h.output, h.size, h.block⟩
theorem Tch.grown {S : Nat → Prop} {a b c : World} {row : Option Nat} (h : Tch S a b) (hg : b.grownBy c row) (hr : ∀ k, row = some k → S k ∨ a.heap.size ≤ k) : Tch S a c :=
  h.trans' (S' := fun k => row = some k) ⟨hg.os, hg.tape, hg.output, hg.size, fun k hk hn => hg.block k hk (fun e => hn e.symm)⟩ (fun i hi e => (hr i e).resolve_right (by omega))
theorem Tch.cell {S : Nat → Prop} {a b : World} (h : Tch S a b) {k o : Nat} (hk : k < a.heap.size) (hn : ¬ S k) : b.cell? ⟨k, o, none⟩ = a.cell? ⟨k, o, none⟩ := World.cell?_of_block (h.block k hk hn)
theorem Tch.froz {S : Nat → Prop} {a b : World} (h : Tch S a b) {k o : Nat} (hk : k < a.heap.size) (hn : ¬ S k) : b.frozen? ⟨k, o, none⟩ = a.frozen? ⟨k, o, none⟩ := World.frozen?_of_block (h.block k hk hn)
theorem Nw.froz {a b : World} (h : Nw a b) {k o : Nat} (hk : k < a.heap.size) : b.frozen? ⟨k, o, none⟩ = a.frozen? ⟨k, o, none⟩ := (Tch.nw (S := fun _ => False) h).froz hk (fun e => e)
theorem nw_tch {w a b : World} {F : Nat → Prop} (h : Nw w a) (k : Tch F a b) (hF : ∀ i, F i → w.heap.size ≤ i) : Nw w b :=
  Tch.toNw ((Tch.nw (S := fun _ => False) h).trans' k fun i hi e => by have := hF i e; omega)
theorem setCell_at (w : World) (p : Addr) (v : Value) : Tch (fun k => k = p.block) w (w.setCell p v) := Tch.set (S := fun k => k = p.block) (Tch.refl _ w) (.inl rfl) v
end Go.Proofs.YtpffldfpabglbaaGreatDoor
end

/- A range over a function that hands out ints and writes memory of its own: the iterator owns a set of blocks, which grows; the loop's body leaves them alone, the iterator leaves all others alone. The function may be a method value. Of no program. -/
section
namespace Go.Proofs.YtpffldfpabglbaaGreatDoor
open Go.RowKit Go.Shelf

/-- What lies in S lies as it lay. -/
structure KpS (S : Nat → Prop) (A B : World) : Prop where
  size : A.heap.size ≤ B.heap.size
  same : ∀ k, S k → B.heap[k]? = A.heap[k]?
theorem KpS.refl (S : Nat → Prop) (A : World) : KpS S A A := ⟨Nat.le_refl _, fun _ _ => rfl⟩
theorem KpS.trans {S : Nat → Prop} {A B C : World} (h : KpS S A B) (k : KpS S B C) : KpS S A C := ⟨Nat.le_trans h.size k.size, fun i hi => (k.same i hi).trans (h.same i hi)⟩
theorem KpS.mono {S S' : Nat → Prop} {A B : World} (h : KpS S A B) (hs : ∀ k, S' k → S k) : KpS S' A B := ⟨h.size, fun i hi => h.same i (hs i hi)⟩
theorem KpS.tch {S T : Nat → Prop} {A B : World} (h : Tch T A B) (hs : ∀ k, S k → k < A.heap.size ∧ ¬ T k) : KpS S A B := ⟨h.size, fun i hi => h.block i (hs i hi).1 (hs i hi).2⟩
theorem KpS.put {S : Nat → Prop} {A : World} {l : Nat} (o : Obj) (hl : ¬ S l) : KpS S A (A.putObj l o) := ⟨by simp, fun i hi => World.putObj_heap_other (fun e => hl (e ▸ hi))⟩

/-- What an iterator, or the loop's own book-keeping, may do: blocks of S, new blocks, and the loop's two blocks, which are no cells. -/
structure Ch' (n₀ : Nat) (S : Nat → Prop) (A B : World) : Prop where
  os : B.os = A.os
  tape : B.tape = A.tape
  output : B.output = A.output
  size : A.heap.size ≤ B.heap.size
  block : ∀ k, k < A.heap.size → ¬ S k → B.heap[k]? = A.heap[k]? ∨ ((k = n₀ ∨ k = n₀ + 1) ∧ ∃ o, A.heap[k]? = some o ∧ o.isCells = false)
theorem Ch'.of_tch {n₀ : Nat} {S : Nat → Prop} {A B : World} (h : Tch S A B) : Ch' n₀ S A B := ⟨h.os, h.tape, h.output, h.size, fun k hk hn => .inl (h.block k hk hn)⟩
theorem Ch'.put {n₀ : Nat} {S : Nat → Prop} {A : World} {l : Nat} {o : Obj} (o' : Obj) (hn : l = n₀ ∨ l = n₀ + 1) (h : A.heap[l]? = some o) (ho : o.isCells = false) : Ch' n₀ S A (A.putObj l o') :=
  ⟨rfl, rfl, rfl, by simp, fun k _ _ => by
    by_cases e : k = l
    · subst e; exact .inr ⟨hn, o, h, ho⟩
    · exact .inl (World.putObj_heap_other e)⟩
theorem Ch'.cells {n₀ : Nat} {S : Nat → Prop} {A B : World} {k : Nat} {c : Array Value} {t : TypeId} {f : Nat × Nat} (h : Ch' n₀ S A B) (hk : A.heap[k]? = some (.cells c t f)) (hn : ¬ S k) : B.heap[k]? = some (.cells c t f) := by
  rcases h.block k (Array.getElem?_eq_some_iff.1 hk).1 hn with e | ⟨_, o, ho, hc⟩
  · exact e.trans hk
  · rw [hk] at ho; cases ho; cases hc
theorem Ch'.row {n₀ : Nat} {S : Nat → Prop} {A B : World} {v : Value} {n : Nat} {e : TypeId} {size : Nat} {xs : List Value} (h : Ch' n₀ S A B) (hr : A.ownsRow 0 e size v n xs) (hn : ∀ k, v.ownBlock = some k → ¬ S k) : B.ownsRow 0 e size v n xs := by
  refine ⟨hr.1, ?_⟩
  rcases hr.2 with h0 | ⟨g, cap, cur, rfl, hb, hg, rest⟩
  · exact .inl h0
  · exact .inr ⟨g, cap, cur, rfl, hb, h.cells hg (hn g rfl), rest⟩
/-- From w on nothing has changed but blocks of T and what came later. -/
theorem Ch'.tch {n₀ : Nat} {S T : Nat → Prop} {w A B : World} (h : Ch' n₀ S A B) (k : Tch T w A) (hn : w.heap.size ≤ n₀) (hS : ∀ i, i < w.heap.size → S i → T i) : Tch T w B :=
  ⟨h.os.trans k.os, h.tape.trans k.tape, h.output.trans k.output, Nat.le_trans k.size h.size, fun i hi ht => by
    rcases h.block i (Nat.lt_of_lt_of_le hi k.size) (fun e => ht (hS i hi e)) with e | ⟨e, _⟩
    · exact e.trans (k.block i hi ht)
    · omega⟩

/-- The loop's two blocks lie as they lay. -/
def KpD (n₀ : Nat) (A B : World) : Prop := ∀ k, (k = n₀ ∨ k = n₀ + 1) → B.heap[k]? = A.heap[k]?
/-- The iterator's contract. -/
def SeqH (F : Fence) (n : Nat) (P : Program) (g : Nat) (fa lb : Array Value) (xs : List Int) (S0 : Nat → Prop) (End : World → Prop) (w : World) : Prop :=
  ∀ (l : Nat) (J Jx : (Nat → Prop) → List Int → World → Prop) (W : World), Nw w W →
    (∀ S S' pre A B, J S pre A → Tch S A B → (∀ k, S k → S' k) → (∀ k, S' k → S k ∨ A.heap.size ≤ k) → (∀ k, S' k → k < B.heap.size) → J S' pre B) →
    (∀ S S' pre A B, Jx S pre A → Tch S A B → (∀ k, S k → S' k) → (∀ k, S' k → S k ∨ A.heap.size ≤ k) → (∀ k, S' k → k < B.heap.size) → Jx S' pre B) →
    (∀ S pre x A, J S pre A → (∀ k, S0 k → S k) → (∀ k, S k → k < A.heap.size) → (pre ++ [x]) <+: xs → YieldAt F (n - 1) P l #[.int .i64 x] A fun e B =>
      (e = .returned (.bool true) ∧ J S (pre ++ [x]) B ∧ KpS S A B) ∨ (e = .returned (.bool false) ∧ Jx S (pre ++ [x]) B ∧ KpS S A B)) →
    J S0 [] W →
    CallsIn F n P g (fa ++ #[.func (.yield l) #[] #[]] ++ lb) W fun e W' => (∃ v, e = .returned v) ∧ ((∃ S, J S xs W' ∧ End W') ∨ (∃ S pre, pre <+: xs ∧ Jx S pre W'))

/-- How the body of a round may be left. -/
def rfPost (n₀ : Nat) (S : Nat → Prop) (I : (Nat → Prop) → List Int → World → Prop) (Ix : Code → (Nat → Prop) → List Int → World → Prop) (pre : List Int) (A : World) : Exit → Act → World → Prop
  | .normal, _, B => KpD n₀ A B ∧ KpS S A B ∧ I S pre B
  | .ret, _, B => KpD n₀ A B ∧ KpS S A B ∧ Ix .ret S pre B
  | .exit id, _, B => KpD n₀ A B ∧ KpS S A B ∧ Ix (.exit id) S pre B
  | .goto t, _, B => KpD n₀ A B ∧ KpS S A B ∧ Ix (.goto t) S pre B
  | .panic _, _, _ => False
  | .outgrown, _, _ => False

variable {F : Fence} {n : Nat} {P : Program}
theorem rf_law {g : Operand} {ps : Array Tmp} {assign body : Code} {Q : Exit → Act → World → Prop} {a : Act} {w : World}
    (hro : F.round = none) (h1 : 1 ≤ n) {gf : Nat} {fa lb : Array Value} (hg : a.eval g = .func (.func gf) fa lb) (hFg : F.fn gf) (eg : ∀ args w, (callFunc gf args).run P w = .ok (.enter gf args) w)
    {xs : List Int} {S0 : Nat → Prop} {End : World → Prop} (hS0 : ∀ k, S0 k → k < w.heap.size) (hseq : SeqH F (n - 1) P gf fa lb xs S0 End w) (hps : ps.size = 1)
    (hEnd : ∀ (A : World) (l : Nat) (o o' : Obj), w.heap.size ≤ l → A.heap[l]? = some o → o.isCells = false → End A → End (A.putObj l o'))
    (I : (Nat → Prop) → List Int → World → Prop) (Ix : Code → (Nat → Prop) → List Int → World → Prop)
    (hI : ∀ S S' pre A B, I S pre A → Ch' w.heap.size S A B → (∀ k, S k → S' k) → (∀ k, S' k → S k ∨ A.heap.size ≤ k) → (∀ k, S' k → k < B.heap.size) → I S' pre B)
    (hIx : ∀ c S S' pre A B, Ix c S pre A → Ch' w.heap.size S A B → (∀ k, S k → S' k) → (∀ k, S' k → S k ∨ A.heap.size ≤ k) → (∀ k, S' k → k < B.heap.size) → Ix c S' pre B)
    (h0 : I S0 [] w) (a₁ : Int → Act)
    (hassign : ∀ (l : Nat) (x : Int) (A : World) (K : Act → World → Prop), K (a₁ x) A →
      assign.wpIn (F.inRound l) (n - 1 - 1) P (Exit.then K (fun _ _ _ => False)) { tmps := (ps.zip #[.int .i64 x]).foldl (fun t (p, v) => t.setIfInBounds p v) a.tmps, defers := [] } A)
    (hbody : ∀ (l : Nat) (S : Nat → Prop) (pre : List Int) (x : Int) (A : World), I S pre A → (∀ k, S0 k → S k) → (∀ k, S k → k < A.heap.size) → (∀ k, (k = w.heap.size ∨ k = w.heap.size + 1) → ¬ S k ∧ ∃ o, A.heap[k]? = some o ∧ o.isCells = false) →
      (pre ++ [x]) <+: xs → body.wpIn (F.inRound l) (n - 1 - 1) P (rfPost w.heap.size S I Ix (pre ++ [x]) A) (a₁ x) A)
    (hdone : ∀ (D : Nat) (S : Nat → Prop) (W : World), D = w.heap.size → (∀ k, S k → k < W.heap.size) → I S xs W → End W → W.heap[D]? = some (.deferred (some [])) → Q .normal { a with defers := { target := .collected D, args := #[] } :: a.defers } W)
    (hstop : ∀ (D : Nat) (c : Code) (S : Nat → Prop) (pre : List Int) (W : World), D = w.heap.size → pre <+: xs → Ix c S pre W → W.heap[D]? = some (.deferred (some [])) → c.wpIn F n P Q { a with defers := { target := .collected D, args := #[] } :: a.defers } W) :
    (Code.rangeFunc g ps assign body).wpIn F n P Q a w := by
  refine wpIn_rangeFunc ?_
  intro fn hfn
  rw [hro]
  obtain ⟨rec, hrec⟩ : ∃ rec : LoopState → Option Code → Loop, rec = fun st pe => { state := st, pending := pe, fn, tmps := a.tmps, params := ps, assign, body, defers := w.heap.size } := ⟨_, rfl⟩
  obtain ⟨W1, hW1⟩ : ∃ W1, (w.alloc (.deferred (some []))).alloc (.loop (rec .ready none)) = W1 := ⟨_, rfl⟩
  have hL1 : W1.heap[w.heap.size + 1]? = some (.loop (rec .ready none)) := by
    rw [← hW1]; have := World.alloc_heap_new (w.alloc (.deferred (some []))) (.loop (rec .ready none)); rwa [World.size_alloc] at this
  have hK1 : W1.heap[w.heap.size]? = some (.deferred (some [])) := by
    rw [← hW1]; exact (Below.heap_alloc _ _ _ (by simp)).trans (World.alloc_heap_new w _)
  have hb1 : Nw w W1 := by rw [← hW1]; exact ((Nw.refl w).alloc _).alloc _
  have hI1 : I S0 [] W1 := hI S0 S0 [] w W1 h0 (Ch'.of_tch (Tch.nw hb1)) (fun _ e => e) (fun _ e => .inl e) (fun k e => Nat.lt_of_lt_of_le (hS0 k e) hb1.sz)
  refine ⟨w.heap.size + 1, [{ target := .collected w.heap.size, args := #[] }], W1, { target := .fn (.func gf) lb, args := fa ++ #[.func (.yield (w.heap.size + 1)) #[] #[]] }, W1, gf,
    fa ++ #[.func (.yield (w.heap.size + 1)) #[] #[]] ++ lb, W1, ?_, ?_, ?_, ?_, fun _ => h1, ?_⟩
  · rw [← hW1, hrec]; exact run_enterLoop_outer _ _ _ _ _
  · simp only [resolve, hg]
    simp [go_sem]
  · intro f' hf'; simp [Target.leads] at hf'; subst hf'; exact hFg
  · simp [invoke, go_sem, eg]
  · have lt_of : ∀ {A : World} {k : Nat} {o : Obj}, A.heap[k]? = some o → k < A.heap.size := fun h => (Array.getElem?_eq_some_iff.1 h).1
    refine (hseq (w.heap.size + 1)
      (fun S pre W => I S pre W ∧ W.heap[w.heap.size + 1]? = some (.loop (rec .ready none)) ∧ W.heap[w.heap.size]? = some (.deferred (some [])) ∧ ¬ S (w.heap.size + 1) ∧ ¬ S w.heap.size ∧ (∀ k, S k → k < W.heap.size))
      (fun S pre W => ∃ c, Ix c S pre W ∧ W.heap[w.heap.size + 1]? = some (.loop (rec .done (some c))) ∧ W.heap[w.heap.size]? = some (.deferred (some [])) ∧ ¬ S (w.heap.size + 1) ∧ ¬ S w.heap.size ∧ (∀ k, S k → k < W.heap.size))
      W1 hb1 ?_ ?_ ?_ ⟨hI1, hL1, hK1, fun e => by have := hS0 _ e; omega, fun e => by have := hS0 _ e; omega, fun k e => Nat.lt_of_lt_of_le (hS0 k e) hb1.sz⟩).mono ?_
    · rintro S S' pre A B ⟨hi, hl, hk, hn1, hn2, hbd⟩ ht hs1 hs2 hs3
      exact ⟨hI S S' pre A B hi (Ch'.of_tch ht) hs1 hs2 hs3, (ht.block _ (lt_of hl) hn1).trans hl, (ht.block _ (lt_of hk) hn2).trans hk,
        fun e => (hs2 _ e).elim hn1 (fun h => by have := lt_of hl; omega), fun e => (hs2 _ e).elim hn2 (fun h => by have := lt_of hk; omega), hs3⟩
    · rintro S S' pre A B ⟨c, hi, hl, hk, hn1, hn2, hbd⟩ ht hs1 hs2 hs3
      exact ⟨c, hIx c S S' pre A B hi (Ch'.of_tch ht) hs1 hs2 hs3, (ht.block _ (lt_of hl) hn1).trans hl, (ht.block _ (lt_of hk) hn2).trans hk,
        fun e => (hs2 _ e).elim hn1 (fun h => by have := lt_of hl; omega), fun e => (hs2 _ e).elim hn2 (fun h => by have := lt_of hk; omega), hs3⟩
    · -- one round
      rintro S pre x W ⟨hi, hl, hk, hn1, hn2, hbd⟩ hsub hex hpre
      have hy := run_yield (P := P) (args := #[.int .i64 x]) hl (by rw [hrec]; exact hps.symm)
      rw [hrec] at hy
      refine ⟨fn, _, assign, body, hy, roundIn_of_wpIn hfn (hassign _ x W _ ?_)⟩
      clear hy
      have nw1 : Nw W W := Nw.refl W
      have hl1 : W.heap[w.heap.size + 1]? = some (.loop (rec .ready none)) := (nw1.block _ (lt_of hl)).trans hl
      have hk1 : W.heap[w.heap.size]? = some (.deferred (some [])) := (nw1.block _ (lt_of hk)).trans hk
      have hlW := lt_of hl
      have hi1 : I S pre W := hI S S pre W W hi (Ch'.of_tch (Tch.nw nw1)) (fun _ e => e) (fun _ e => .inl e) (fun k e => Nat.lt_of_lt_of_le (hex k e) nw1.sz)
      refine ⟨_, run_beginRound hl1 (by rw [hrec]), ?_⟩
      obtain ⟨A2, hA2⟩ : ∃ A2, W.putObj (w.heap.size + 1) (.loop { rec .ready none with state := .busy }) = A2 := ⟨_, rfl⟩
      rw [hA2]
      have hl2 : A2.heap[w.heap.size + 1]? = some (.loop { rec .ready none with state := .busy }) := by rw [← hA2]; exact World.putObj_heap_same (lt_of hl1)
      have hk2 : A2.heap[w.heap.size]? = some (.deferred (some [])) := by rw [← hA2]; exact (World.putObj_heap_other (by omega)).trans hk1
      have hi2 : I S pre A2 := by rw [← hA2]; exact hI S S pre W _ hi1 (Ch'.put _ (.inr rfl) hl1 rfl) (fun _ e => e) (fun _ e => .inl e) (fun k e => by rw [World.putObj_size]; exact Nat.lt_of_lt_of_le (hex k e) nw1.sz)
      have hsz2 : W.heap.size ≤ A2.heap.size := by rw [← hA2]; simp
      have kps : KpS S W A2 := by
        rw [← hA2]
        exact (KpS.tch (Tch.nw (S := fun _ => False) nw1) (fun k e => ⟨hex k e, fun h => h⟩)).trans (KpS.put _ hn1)
      refine wpIn_mono (hbody _ S pre x A2 hi2 hsub (fun k e => Nat.lt_of_lt_of_le (hex k e) hsz2) (fun k e => by
        rcases e with rfl | rfl
        · exact ⟨hn2, _, hk2, rfl⟩
        · exact ⟨hn1, _, hl2, rfl⟩) hpre) ?_
      have fin : ∀ (jump : Option Code) (W3 : World), KpD w.heap.size A2 W3 →
          (Instr.endRound (w.heap.size + 1) jump).run P W3 = .ok (.bool jump.isNone) (W3.putObj (w.heap.size + 1) (.loop (rec (if jump.isNone then .ready else .done) jump))) ∧
          W3.heap[w.heap.size + 1]? = some (.loop { rec .ready none with state := .busy }) ∧
          (W3.putObj (w.heap.size + 1) (.loop (rec (if jump.isNone then .ready else .done) jump))).heap[w.heap.size + 1]? = some (.loop (rec (if jump.isNone then .ready else .done) jump)) ∧
          (W3.putObj (w.heap.size + 1) (.loop (rec (if jump.isNone then .ready else .done) jump))).heap[w.heap.size]? = some (.deferred (some [])) := fun jump W3 hk3 => by
        have hl3 := (hk3 _ (.inr rfl)).trans hl2
        have := run_endRound (P := P) jump hl3
        rw [hrec] at this ⊢
        exact ⟨this, by rw [hrec] at hl3; exact hl3, World.putObj_heap_same (lt_of hl3), (World.putObj_heap_other (by omega)).trans ((hk3 _ (.inl rfl)).trans hk2)⟩
      have b3 : ∀ {W3 : World}, KpS S A2 W3 → ∀ {jj : Obj} (k : Nat), S k → k < (W3.putObj (w.heap.size + 1) jj).heap.size := fun h3 _ k e => by rw [World.putObj_size]; exact Nat.lt_of_lt_of_le (hex k e) (kps.trans h3).size
      rintro e a3 W3 hp
      cases e with
      | normal =>
        obtain ⟨hk3, hkp3, hi3⟩ := hp
        obtain ⟨hr, hl3, hl4, hk4⟩ := fin none W3 hk3
        exact ⟨_, _, hr, .inl ⟨rfl, ⟨hI S S _ W3 _ hi3 (Ch'.put _ (.inr rfl) hl3 rfl) (fun _ e => e) (fun _ e => .inl e) (b3 hkp3), hl4, hk4, hn1, hn2, b3 hkp3⟩, (kps.trans hkp3).trans (KpS.put _ hn1)⟩⟩
      | ret =>
        obtain ⟨hk3, hkp3, hi3⟩ := hp
        obtain ⟨hr, hl3, hl4, hk4⟩ := fin (some .ret) W3 hk3
        exact ⟨_, _, hr, .inr ⟨rfl, ⟨.ret, hIx _ S S _ W3 _ hi3 (Ch'.put _ (.inr rfl) hl3 rfl) (fun _ e => e) (fun _ e => .inl e) (b3 hkp3), hl4, hk4, hn1, hn2, b3 hkp3⟩, (kps.trans hkp3).trans (KpS.put _ hn1)⟩⟩
      | exit id =>
        obtain ⟨hk3, hkp3, hi3⟩ := hp
        obtain ⟨hr, hl3, hl4, hk4⟩ := fin (some (.exit id)) W3 hk3
        exact ⟨_, _, hr, .inr ⟨rfl, ⟨.exit id, hIx _ S S _ W3 _ hi3 (Ch'.put _ (.inr rfl) hl3 rfl) (fun _ e => e) (fun _ e => .inl e) (b3 hkp3), hl4, hk4, hn1, hn2, b3 hkp3⟩, (kps.trans hkp3).trans (KpS.put _ hn1)⟩⟩
      | goto t =>
        obtain ⟨hk3, hkp3, hi3⟩ := hp
        obtain ⟨hr, hl3, hl4, hk4⟩ := fin (some (.goto t)) W3 hk3
        exact ⟨_, _, hr, .inr ⟨rfl, ⟨.goto t, hIx _ S S _ W3 _ hi3 (Ch'.put _ (.inr rfl) hl3 rfl) (fun _ e => e) (fun _ e => .inl e) (b3 hkp3), hl4, hk4, hn1, hn2, b3 hkp3⟩, (kps.trans hkp3).trans (KpS.put _ hn1)⟩⟩
      | panic ch => exact hp.elim
      | outgrown => exact hp.elim
    · -- behind the iterator
      rintro e W2 ⟨⟨v, rfl⟩, (⟨S, ⟨hi, hl, hk, hn1, hn2, hbd⟩, hE⟩ | ⟨S, pre, hp, c, hi, hl, hk, hn1, hn2, hbd⟩)⟩
      · exact ⟨none, _, by have := run_endLoop (P := P) hl (by rw [hrec]; simp); rw [hrec] at this; exact this,
          hdone _ S _ rfl (fun k e => by rw [World.putObj_size]; exact hbd k e) (hI S S _ W2 _ hi (Ch'.put _ (.inr rfl) hl rfl) (fun _ e => e) (fun _ e => .inl e) (fun k e => by rw [World.putObj_size]; exact hbd k e)) (hEnd _ _ _ _ (by omega) hl rfl hE) ((World.putObj_heap_other (by omega)).trans hk)⟩
      · exact ⟨some c, _, by have := run_endLoop (P := P) hl (by rw [hrec]; simp); rw [hrec] at this; exact this,
          hstop _ c S pre _ rfl hp (hIx c S S _ W2 _ hi (Ch'.put _ (.inr rfl) hl rfl) (fun _ e => e) (fun _ e => .inl e) (fun k e => by rw [World.putObj_size]; exact hbd k e)) ((World.putObj_heap_other (by omega)).trans hk)⟩
end Go.Proofs.YtpffldfpabglbaaGreatDoor
end

/- A range over a function that hands out values of any one kind, in an order that is not said: the iterator writes new blocks of its own alone; those of S0 it reads. A round may box its parameter. Of no program. -/
section
namespace Go.Proofs.YtpffldfpabglbaaGreatDoor
open Go.RowKit Go.Shelf

/-- The iterator's contract: what it may give ahead of the end (Pre), what it has given at the end (Fin). -/
def SeqB {α : Type} (F : Fence) (n : Nat) (P : Program) (g : Nat) (fa lb : Array Value) (yv : α → Value) (Pre Fin : List α → Prop) (S0 : Nat → Prop) (w : World) : Prop :=
  ∀ (l : Nat) (J Jx : (Nat → Prop) → List α → World → Prop) (W : World), Nw w W →
    (∀ S S' pre A B, J S pre A → Tch (fun k => S k ∧ ¬ S0 k) A B → (∀ k, S k → S' k) → (∀ k, S' k → S k ∨ A.heap.size ≤ k) → (∀ k, S' k → k < B.heap.size) → J S' pre B) →
    (∀ S S' pre A B, Jx S pre A → Tch (fun k => S k ∧ ¬ S0 k) A B → (∀ k, S k → S' k) → (∀ k, S' k → S k ∨ A.heap.size ≤ k) → (∀ k, S' k → k < B.heap.size) → Jx S' pre B) →
    (∀ S pre x A, J S pre A → (∀ k, S0 k → S k) → (∀ k, S k → k < A.heap.size) → Pre (pre ++ [x]) → YieldAt F (n - 1) P l #[yv x] A fun e B =>
      (e = .returned (.bool true) ∧ J S (pre ++ [x]) B ∧ KpS S A B) ∨ (e = .returned (.bool false) ∧ Jx S (pre ++ [x]) B ∧ KpS S A B)) →
    J S0 [] W →
    CallsIn F n P g (fa ++ #[.func (.yield l) #[] #[]] ++ lb) W fun e W' => (∃ v, e = .returned v) ∧ ((∃ S xs, Fin xs ∧ J S xs W') ∨ (∃ S pre, Pre pre ∧ Jx S pre W'))
theorem SeqB.later {α : Type} {F : Fence} {n : Nat} {P : Program} {g : Nat} {fa lb : Array Value} {yv : α → Value} {Pre Fin : List α → Prop} {S0 : Nat → Prop} {w w' : World} (h : SeqB F n P g fa lb yv Pre Fin S0 w) (k : Nw w w') : SeqB F n P g fa lb yv Pre Fin S0 w' :=
  fun l J Jx W hW => h l J Jx W (k.trans hW)

/-- How the body of a round may be left. -/
def rbPost {α : Type} (n₀ : Nat) (S : Nat → Prop) (I : (Nat → Prop) → List α → World → Prop) (Ix : Code → (Nat → Prop) → List α → World → Prop) (pre : List α) (A : World) : Exit → Act → World → Prop
  | .normal, _, B => KpD n₀ A B ∧ KpS S A B ∧ I S pre B
  | .ret, _, B => KpD n₀ A B ∧ KpS S A B ∧ Ix .ret S pre B
  | .exit id, _, B => KpD n₀ A B ∧ KpS S A B ∧ Ix (.exit id) S pre B
  | .goto t, _, B => KpD n₀ A B ∧ KpS S A B ∧ Ix (.goto t) S pre B
  | .panic _, _, _ => False
  | .outgrown, _, _ => False

/-- What a round makes of its parameter: nothing, or a box. -/
def mkB (o : Option Obj) (A : World) : World := match o with | none => A | some o => A.alloc o
theorem mkB_nw (o : Option Obj) (A : World) : Nw A (mkB o A) := by
  cases o with
  | none => exact Nw.refl A
  | some o => exact (Nw.refl A).alloc _
theorem mkB_at (o : Obj) (A : World) : (mkB (some o) A).heap[A.heap.size]? = some o := World.alloc_heap_new _ _

variable {F : Fence} {n : Nat} {P : Program} {α : Type}
theorem rg_law {g : Operand} {ps : Array Tmp} {assign body : Code} {Q : Exit → Act → World → Prop} {a : Act} {w : World}
    (hro : F.round = none) (h1 : 1 ≤ n) {gf : Nat} {fa lb : Array Value} (hg : a.eval g = .func (.func gf) fa lb) (hFg : F.fn gf) (eg : ∀ args w, (callFunc gf args).run P w = .ok (.enter gf args) w)
    {yv : α → Value} {Pre Fin : List α → Prop} {S0 : Nat → Prop} (hS0 : ∀ k, S0 k → k < w.heap.size) (hseq : SeqB F (n - 1) P gf fa lb yv Pre Fin S0 w) (hps : ps.size = 1)
    (I : (Nat → Prop) → List α → World → Prop) (Ix : Code → (Nat → Prop) → List α → World → Prop)
    (hI : ∀ S S' pre A B, I S pre A → Ch' w.heap.size (fun k => S k ∧ ¬ S0 k) A B → (∀ k, S k → S' k) → (∀ k, S' k → S k ∨ A.heap.size ≤ k) → (∀ k, S' k → k < B.heap.size) → I S' pre B)
    (hIx : ∀ c S S' pre A B, Ix c S pre A → Ch' w.heap.size (fun k => S k ∧ ¬ S0 k) A B → (∀ k, S k → S' k) → (∀ k, S' k → S k ∨ A.heap.size ≤ k) → (∀ k, S' k → k < B.heap.size) → Ix c S' pre B)
    (h0 : I S0 [] w) (bxo : α → Option Obj) (a₁ : α → Nat → Act)
    (hassign : ∀ (l : Nat) (x : α) (A : World) (K : Act → World → Prop), K (a₁ x A.heap.size) (mkB (bxo x) A) →
      assign.wpIn (F.inRound l) (n - 1 - 1) P (Exit.then K (fun _ _ _ => False)) { tmps := (ps.zip #[yv x]).foldl (fun t (p, v) => t.setIfInBounds p v) a.tmps, defers := [] } A)
    (hbody : ∀ (l : Nat) (S : Nat → Prop) (pre : List α) (x : α) (bx : Nat) (A : World), I S pre A → (∀ k, S0 k → S k) → (∀ k, S k → k < A.heap.size) → ¬ S bx → w.heap.size ≤ bx → (∀ k, (k = w.heap.size ∨ k = w.heap.size + 1) → ¬ S k ∧ ∃ o, A.heap[k]? = some o ∧ o.isCells = false) → (∀ o, bxo x = some o → A.heap[bx]? = some o) →
      Pre (pre ++ [x]) → body.wpIn (F.inRound l) (n - 1 - 1) P (rbPost w.heap.size S I Ix (pre ++ [x]) A) (a₁ x bx) A)
    (hdone : ∀ (D : Nat) (S : Nat → Prop) (xs : List α) (W : World), D = w.heap.size → (∀ k, S k → k < W.heap.size) → Fin xs → I S xs W → W.heap[D]? = some (.deferred (some [])) → Q .normal { a with defers := { target := .collected D, args := #[] } :: a.defers } W)
    (hstop : ∀ (D : Nat) (c : Code) (S : Nat → Prop) (pre : List α) (W : World), D = w.heap.size → Pre pre → Ix c S pre W → W.heap[D]? = some (.deferred (some [])) → c.wpIn F n P Q { a with defers := { target := .collected D, args := #[] } :: a.defers } W) :
    (Code.rangeFunc g ps assign body).wpIn F n P Q a w := by
  refine wpIn_rangeFunc ?_
  intro fn hfn
  rw [hro]
  obtain ⟨rec, hrec⟩ : ∃ rec : LoopState → Option Code → Loop, rec = fun st pe => { state := st, pending := pe, fn, tmps := a.tmps, params := ps, assign, body, defers := w.heap.size } := ⟨_, rfl⟩
  obtain ⟨W1, hW1⟩ : ∃ W1, (w.alloc (.deferred (some []))).alloc (.loop (rec .ready none)) = W1 := ⟨_, rfl⟩
  have hL1 : W1.heap[w.heap.size + 1]? = some (.loop (rec .ready none)) := by
    rw [← hW1]; have := World.alloc_heap_new (w.alloc (.deferred (some []))) (.loop (rec .ready none)); rwa [World.size_alloc] at this
  have hK1 : W1.heap[w.heap.size]? = some (.deferred (some [])) := by
    rw [← hW1]; exact (Below.heap_alloc _ _ _ (by simp)).trans (World.alloc_heap_new w _)
  have hb1 : Nw w W1 := by rw [← hW1]; exact ((Nw.refl w).alloc _).alloc _
  have hI1 : I S0 [] W1 := hI S0 S0 [] w W1 h0 (Ch'.of_tch (Tch.nw hb1)) (fun _ e => e) (fun _ e => .inl e) (fun k e => Nat.lt_of_lt_of_le (hS0 k e) hb1.sz)
  refine ⟨w.heap.size + 1, [{ target := .collected w.heap.size, args := #[] }], W1, { target := .fn (.func gf) lb, args := fa ++ #[.func (.yield (w.heap.size + 1)) #[] #[]] }, W1, gf,
    fa ++ #[.func (.yield (w.heap.size + 1)) #[] #[]] ++ lb, W1, ?_, ?_, ?_, ?_, fun _ => h1, ?_⟩
  · rw [← hW1, hrec]; exact run_enterLoop_outer _ _ _ _ _
  · simp only [resolve, hg]
    simp [go_sem]
  · intro f' hf'; simp [Target.leads] at hf'; subst hf'; exact hFg
  · simp [invoke, go_sem, eg]
  · have lt_of : ∀ {A : World} {k : Nat} {o : Obj}, A.heap[k]? = some o → k < A.heap.size := fun h => (Array.getElem?_eq_some_iff.1 h).1
    refine (hseq (w.heap.size + 1)
      (fun S pre W => I S pre W ∧ W.heap[w.heap.size + 1]? = some (.loop (rec .ready none)) ∧ W.heap[w.heap.size]? = some (.deferred (some [])) ∧ ¬ S (w.heap.size + 1) ∧ ¬ S w.heap.size ∧ (∀ k, S k → k < W.heap.size))
      (fun S pre W => ∃ c, Ix c S pre W ∧ W.heap[w.heap.size + 1]? = some (.loop (rec .done (some c))) ∧ W.heap[w.heap.size]? = some (.deferred (some [])) ∧ ¬ S (w.heap.size + 1) ∧ ¬ S w.heap.size ∧ (∀ k, S k → k < W.heap.size))
      W1 hb1 ?_ ?_ ?_ ⟨hI1, hL1, hK1, fun e => by have := hS0 _ e; omega, fun e => by have := hS0 _ e; omega, fun k e => Nat.lt_of_lt_of_le (hS0 k e) hb1.sz⟩).mono ?_
    · rintro S S' pre A B ⟨hi, hl, hk, hn1, hn2, hbd⟩ ht hs1 hs2 hs3
      exact ⟨hI S S' pre A B hi (Ch'.of_tch ht) hs1 hs2 hs3, (ht.block _ (lt_of hl) (fun e => hn1 e.1)).trans hl, (ht.block _ (lt_of hk) (fun e => hn2 e.1)).trans hk,
        fun e => (hs2 _ e).elim hn1 (fun h => by have := lt_of hl; omega), fun e => (hs2 _ e).elim hn2 (fun h => by have := lt_of hk; omega), hs3⟩
    · rintro S S' pre A B ⟨c, hi, hl, hk, hn1, hn2, hbd⟩ ht hs1 hs2 hs3
      exact ⟨c, hIx c S S' pre A B hi (Ch'.of_tch ht) hs1 hs2 hs3, (ht.block _ (lt_of hl) (fun e => hn1 e.1)).trans hl, (ht.block _ (lt_of hk) (fun e => hn2 e.1)).trans hk,
        fun e => (hs2 _ e).elim hn1 (fun h => by have := lt_of hl; omega), fun e => (hs2 _ e).elim hn2 (fun h => by have := lt_of hk; omega), hs3⟩
    · -- one round
      rintro S pre x W ⟨hi, hl, hk, hn1, hn2, hbd⟩ hsub hex hpre
      have hy := run_yield (P := P) (args := #[yv x]) hl (by rw [hrec]; exact hps.symm)
      rw [hrec] at hy
      refine ⟨fn, _, assign, body, hy, roundIn_of_wpIn hfn (hassign _ x W _ ?_)⟩
      clear hy
      have hbx : ∀ o, bxo x = some o → (mkB (bxo x) W).heap[W.heap.size]? = some o := fun o e => by rw [e]; exact mkB_at o W
      have nw1 := mkB_nw (bxo x) W
      obtain ⟨A1, hA1⟩ : ∃ A1, mkB (bxo x) W = A1 := ⟨_, rfl⟩
      rw [hA1] at nw1 hbx ⊢
      have hl1 : A1.heap[w.heap.size + 1]? = some (.loop (rec .ready none)) := (nw1.block _ (lt_of hl)).trans hl
      have hk1 : A1.heap[w.heap.size]? = some (.deferred (some [])) := (nw1.block _ (lt_of hk)).trans hk
      have hlW := lt_of hl
      have hi1 : I S pre A1 := hI S S pre W A1 hi (Ch'.of_tch (Tch.nw nw1)) (fun _ e => e) (fun _ e => .inl e) (fun k e => Nat.lt_of_lt_of_le (hex k e) nw1.sz)
      refine ⟨_, run_beginRound hl1 (by rw [hrec]), ?_⟩
      obtain ⟨A2, hA2⟩ : ∃ A2, A1.putObj (w.heap.size + 1) (.loop { rec .ready none with state := .busy }) = A2 := ⟨_, rfl⟩
      rw [hA2]
      have hl2 : A2.heap[w.heap.size + 1]? = some (.loop { rec .ready none with state := .busy }) := by rw [← hA2]; exact World.putObj_heap_same (lt_of hl1)
      have hk2 : A2.heap[w.heap.size]? = some (.deferred (some [])) := by rw [← hA2]; exact (World.putObj_heap_other (by omega)).trans hk1
      have hbx2 : ∀ o, bxo x = some o → A2.heap[W.heap.size]? = some o := fun o e => by rw [← hA2]; exact (World.putObj_heap_other (by omega)).trans (hbx o e)
      have hi2 : I S pre A2 := by rw [← hA2]; exact hI S S pre A1 _ hi1 (Ch'.put _ (.inr rfl) hl1 rfl) (fun _ e => e) (fun _ e => .inl e) (fun k e => by rw [World.putObj_size]; exact Nat.lt_of_lt_of_le (hex k e) nw1.sz)
      have hsz2 : W.heap.size ≤ A2.heap.size := by rw [← hA2]; simp; exact nw1.sz
      have kps : KpS S W A2 := by
        rw [← hA2]
        exact (KpS.tch (Tch.nw (S := fun _ => False) nw1) (fun k e => ⟨hex k e, fun h => h⟩)).trans (KpS.put _ hn1)
      refine wpIn_mono (hbody _ S pre x W.heap.size A2 hi2 hsub (fun k e => Nat.lt_of_lt_of_le (hex k e) hsz2) (fun e => by have := hex _ e; omega) (by omega) (fun k e => by
        rcases e with rfl | rfl
        · exact ⟨hn2, _, hk2, rfl⟩
        · exact ⟨hn1, _, hl2, rfl⟩) hbx2 hpre) ?_
      have fin : ∀ (jump : Option Code) (W3 : World), KpD w.heap.size A2 W3 →
          (Instr.endRound (w.heap.size + 1) jump).run P W3 = .ok (.bool jump.isNone) (W3.putObj (w.heap.size + 1) (.loop (rec (if jump.isNone then .ready else .done) jump))) ∧
          W3.heap[w.heap.size + 1]? = some (.loop { rec .ready none with state := .busy }) ∧
          (W3.putObj (w.heap.size + 1) (.loop (rec (if jump.isNone then .ready else .done) jump))).heap[w.heap.size + 1]? = some (.loop (rec (if jump.isNone then .ready else .done) jump)) ∧
          (W3.putObj (w.heap.size + 1) (.loop (rec (if jump.isNone then .ready else .done) jump))).heap[w.heap.size]? = some (.deferred (some [])) := fun jump W3 hk3 => by
        have hl3 := (hk3 _ (.inr rfl)).trans hl2
        have := run_endRound (P := P) jump hl3
        rw [hrec] at this ⊢
        exact ⟨this, by rw [hrec] at hl3; exact hl3, World.putObj_heap_same (lt_of hl3), (World.putObj_heap_other (by omega)).trans ((hk3 _ (.inl rfl)).trans hk2)⟩
      have b3 : ∀ {W3 : World}, KpS S A2 W3 → ∀ {jj : Obj} (k : Nat), S k → k < (W3.putObj (w.heap.size + 1) jj).heap.size := fun h3 _ k e => by rw [World.putObj_size]; exact Nat.lt_of_lt_of_le (hex k e) (kps.trans h3).size
      rintro e a3 W3 hp
      cases e with
      | normal =>
        obtain ⟨hk3, hkp3, hi3⟩ := hp
        obtain ⟨hr, hl3, hl4, hk4⟩ := fin none W3 hk3
        exact ⟨_, _, hr, .inl ⟨rfl, ⟨hI S S _ W3 _ hi3 (Ch'.put _ (.inr rfl) hl3 rfl) (fun _ e => e) (fun _ e => .inl e) (b3 hkp3), hl4, hk4, hn1, hn2, b3 hkp3⟩, (kps.trans hkp3).trans (KpS.put _ hn1)⟩⟩
      | ret =>
        obtain ⟨hk3, hkp3, hi3⟩ := hp
        obtain ⟨hr, hl3, hl4, hk4⟩ := fin (some .ret) W3 hk3
        exact ⟨_, _, hr, .inr ⟨rfl, ⟨.ret, hIx _ S S _ W3 _ hi3 (Ch'.put _ (.inr rfl) hl3 rfl) (fun _ e => e) (fun _ e => .inl e) (b3 hkp3), hl4, hk4, hn1, hn2, b3 hkp3⟩, (kps.trans hkp3).trans (KpS.put _ hn1)⟩⟩
      | exit id =>
        obtain ⟨hk3, hkp3, hi3⟩ := hp
        obtain ⟨hr, hl3, hl4, hk4⟩ := fin (some (.exit id)) W3 hk3
        exact ⟨_, _, hr, .inr ⟨rfl, ⟨.exit id, hIx _ S S _ W3 _ hi3 (Ch'.put _ (.inr rfl) hl3 rfl) (fun _ e => e) (fun _ e => .inl e) (b3 hkp3), hl4, hk4, hn1, hn2, b3 hkp3⟩, (kps.trans hkp3).trans (KpS.put _ hn1)⟩⟩
      | goto t =>
        obtain ⟨hk3, hkp3, hi3⟩ := hp
        obtain ⟨hr, hl3, hl4, hk4⟩ := fin (some (.goto t)) W3 hk3
        exact ⟨_, _, hr, .inr ⟨rfl, ⟨.goto t, hIx _ S S _ W3 _ hi3 (Ch'.put _ (.inr rfl) hl3 rfl) (fun _ e => e) (fun _ e => .inl e) (b3 hkp3), hl4, hk4, hn1, hn2, b3 hkp3⟩, (kps.trans hkp3).trans (KpS.put _ hn1)⟩⟩
      | panic ch => exact hp.elim
      | outgrown => exact hp.elim
    · -- behind the iterator
      rintro e W2 ⟨⟨v, rfl⟩, (⟨S, xs, hf, hi, hl, hk, hn1, hn2, hbd⟩ | ⟨S, pre, hp, c, hi, hl, hk, hn1, hn2, hbd⟩)⟩
      · exact ⟨none, _, by have := run_endLoop (P := P) hl (by rw [hrec]; simp); rw [hrec] at this; exact this,
          hdone _ S xs _ rfl (fun k e => by rw [World.putObj_size]; exact hbd k e) hf (hI S S _ W2 _ hi (Ch'.put _ (.inr rfl) hl rfl) (fun _ e => e) (fun _ e => .inl e) (fun k e => by rw [World.putObj_size]; exact hbd k e)) ((World.putObj_heap_other (by omega)).trans hk)⟩
      · exact ⟨some c, _, by have := run_endLoop (P := P) hl (by rw [hrec]; simp); rw [hrec] at this; exact this,
          hstop _ c S pre _ rfl hp (hIx c S S _ W2 _ hi (Ch'.put _ (.inr rfl) hl rfl) (fun _ e => e) (fun _ e => .inl e) (fun k e => by rw [World.putObj_size]; exact hbd k e)) ((World.putObj_heap_other (by omega)).trans hk)⟩
end Go.Proofs.YtpffldfpabglbaaGreatDoor
end

/- Contracts of the functions of package mode: for every mode by its number, what the call returns; the world has at most new blocks. No conditions but those typed. -/
section
namespace Go.Proofs.YtpffldfpabglbaaGreatDoor
open Go.ChangeShapes Go.WideShapes Go.ChangeAt Go.RowKit

theorem known_yes (m : Int) (w : World) (h0 : 0 ≤ m) (h1 : m < 7) :
    Calls Tryz.prog 208 #[.int .i64 m] w fun e w' => e = .returned (.bool true) ∧ w = w' := by
  go_enter Tryz.func208, Tryz.ntmps208
  go_wp2
  go_ret
  exact ⟨rfl, rfl⟩

theorem known_no (m : Int) (w : World) (h : m < 0 ∨ 7 ≤ m) :
    Calls Tryz.prog 208 #[.int .i64 m] w fun e w' => e = .returned (.bool false) ∧ w = w' := by
  rcases h with h | h
  · go_enter Tryz.func208, Tryz.ntmps208
    go_wp2
    go_ret
    exact ⟨rfl, rfl⟩
  · have h0 : 0 ≤ m := by omega
    have hd : decide (m < 7) = false := by simp; omega
    go_enter Tryz.func208, Tryz.ntmps208
    go_wp2
    go_ret
    exact ⟨rfl, rfl⟩

/-! ### The tables -/
/-- The suprema, as numbers, row by row. -/
def supL : List Int := [0,1,2,3,4,5,6, 1,1,2,3,4,5,6, 2,2,2,4,4,6,6, 3,3,4,3,4,5,6, 4,4,4,4,4,6,6, 5,5,6,5,6,5,6, 6,6,6,6,6,6,6]
def supT (a b : Int) : Int := supL.getD (a.toNat * 7 + b.toNat) 0
/-- Who is compatible with whom, row by row. -/
def cmpL : List Bool := [true,true,true,true,true,true,true, true,true,true,true,true,true,false, true,true,true,false,false,false,false, true,true,false,true,false,true,false, true,true,false,false,false,false,false, true,true,false,true,false,false,false, true,false,false,false,false,false,false]
def cmpTab : Array Value := (cmpL.map Value.bool).toArray
def cmpT (a b : Int) : Bool := cmpL.getD (a.toNat * 7 + b.toNat) false
theorem cmpTab_at (a b : Int) (ha : 0 ≤ a) (ha' : a < 7) (hb : 0 ≤ b) (hb' : b < 7) : cmpTab[a.toNat * 7 + b.toNat]? = some (.bool (cmpT a b)) := by
  have h : a.toNat * 7 + b.toNat < cmpL.length := by show _ < 49; omega
  unfold cmpTab cmpT
  simp [List.getElem?_eq_getElem h, List.getD]
theorem cmpInfo : (Tryz.prog.info? 251).map (·.size) = some 49 := by kernel_rfl
theorem cmpOne : cmpTab.all (·.oneCell') = true := by kernel_rfl

set_option maxHeartbeats 400000 in
theorem cmp_in (a b : Int) (w : World) (ha : 0 ≤ a) (ha' : a < 7) (hb : 0 ≤ b) (hb' : b < 7) :
    Calls Tryz.prog 226 #[.int .i64 a, .int .i64 b] w fun e w' => e = .returned (.bool (cmpT a b)) ∧ Nw w w' := by
  have hT := cmpTab_at a b ha ha' hb hb'
  go_enter Tryz.func226, Tryz.ntmps226
  go_wp2_with (first | (go_at_call 208; refine (known_yes _ _ (by omega) (by omega)).mono ?_; rintro e w' ⟨rfl, rfl⟩) | (refine wpList_store_row rfl 251 _ _ rfl _ cmpTab rfl rfl 251 _ (heap_alloc_last _ _) cmpInfo rfl cmpOne ?_; rw [World.setRow_alloc_new]))
  go_ret
  exact ⟨rfl, (Nw.refl _).alloc _⟩
end Go.Proofs.YtpffldfpabglbaaGreatDoor
end

/- Plain facts of queues of requests: what a head may be, who blocks whom, what asks, upgrades, leaves and grants make of it. -/
section
namespace Go.Proofs.YtpffldfpabglbaaGreatDoor
set_option linter.unusedVariables false

structure Rq where
  id : Int
  txn : Int
  md : Int
  wt : Int
  sn : Int

def knI (m : Int) : Bool := decide (0 ≤ m) && decide (m < 7)
def cpI (a b : Int) : Bool := (knI a && knI b) && cmpT a b
def cvI (a b : Int) : Bool := (knI a && knI b) && (supT a b == a)
theorem knI_iff (m : Int) : knI m = true ↔ 0 ≤ m ∧ m < 7 := by simp [knI]
theorem two_kn {p : Int → Int → Bool} (h : ∀ i < 7, ∀ j < 7, p (Int.ofNat i) (Int.ofNat j) = true) (a b : Int) (ha : knI a = true) (hb : knI b = true) : p a b = true := by
  rw [knI_iff] at ha hb
  obtain ⟨i, rfl⟩ := Int.eq_ofNat_of_zero_le ha.1
  obtain ⟨j, rfl⟩ := Int.eq_ofNat_of_zero_le hb.1
  exact h i (by omega) j (by omega)
theorem cmp_symm_all : ∀ i < 7, ∀ j < 7, (cmpT (Int.ofNat i) (Int.ofNat j) == cmpT (Int.ofNat j) (Int.ofNat i)) = true := by decide +kernel
theorem cmp_symm (a b : Int) (ha : knI a = true) (hb : knI b = true) : cmpT a b = cmpT b a := by
  have := two_kn (p := fun a b => cmpT a b == cmpT b a) cmp_symm_all a b ha hb
  simpa using this
theorem sup_kn_all : ∀ i < 7, ∀ j < 7, knI (supT (Int.ofNat i) (Int.ofNat j)) = true := by decide +kernel
theorem sup_kn (a b : Int) (ha : knI a = true) (hb : knI b = true) : knI (supT a b) = true := two_kn (p := fun a b => knI (supT a b)) sup_kn_all a b ha hb
theorem cv_zero_all : ∀ i < 7, ∀ j < 7, (cvI (Int.ofNat i) 0 && (cvI 0 (Int.ofNat j) == (Int.ofNat j == 0))) = true := by decide +kernel
theorem cv_zero (a : Int) (ha : knI a = true) : cvI a 0 = true := by
  have := two_kn (p := fun a b => cvI a 0 && (cvI 0 b == (b == 0))) cv_zero_all a a ha ha
  simp at this
  exact this.1
theorem zero_cv (a : Int) (ha : knI a = true) (h : a ≠ 0) : cvI 0 a = false := by
  have := two_kn (p := fun a b => cvI a 0 && (cvI 0 b == (b == 0))) cv_zero_all a a ha ha
  simp at this
  rw [this.2]
  simpa using h
/-- The supremum is not covered unless it is the mode itself; it is no mode's none. -/
theorem sup_cv_all : ∀ i < 7, ∀ j < 7, ((supT (Int.ofNat i) (Int.ofNat j) == Int.ofNat i) == cvI (Int.ofNat i) (supT (Int.ofNat i) (Int.ofNat j)) && (Int.ofNat i == 0 || supT (Int.ofNat i) (Int.ofNat j) != 0)) = true := by decide +kernel
theorem sup_cv (a b : Int) (ha : knI a = true) (hb : knI b = true) (h : supT a b ≠ a) : cvI a (supT a b) = false := by
  have := two_kn (p := fun a b => (supT a b == a) == cvI a (supT a b) && (a == 0 || supT a b != 0)) sup_cv_all a b ha hb
  simp only [Bool.and_eq_true, beq_iff_eq] at this
  rw [← this.1]
  simpa using h
theorem sup_ne (a b : Int) (ha : knI a = true) (hb : knI b = true) (h : a ≠ 0) : supT a b ≠ 0 := by
  have := two_kn (p := fun a b => (supT a b == a) == cvI a (supT a b) && (a == 0 || supT a b != 0)) sup_cv_all a b ha hb
  simp only [Bool.and_eq_true, beq_iff_eq, Bool.or_eq_true, bne_iff_ne] at this
  exact this.2.resolve_left h
theorem cp_kn (a b : Int) (ha : knI a = true) (hb : knI b = true) : cpI a b = cmpT a b := by simp [cpI, ha, hb]
theorem cp_symm (a b : Int) : cpI a b = cpI b a := by
  unfold cpI
  by_cases ha : knI a = true
  · by_cases hb : knI b = true
    · rw [ha, hb, cmp_symm a b ha hb]
    · simp [hb]
  · simp [ha]

/-- A request is as it may be. -/
structure Rt (W : Int) (r : Rq) : Prop where
  id : 0 ≤ r.id
  md : knI r.md = true
  wt : knI r.wt = true
  s0 : 0 ≤ r.sn
  sW : r.sn ≤ W
  w : 0 < r.sn → cvI r.md r.wt = false
  h : r.sn = 0 → r.md ≠ 0 ∧ r.wt = r.md
/-- Two requests, the first one ahead of the second, are as they may be. -/
structure Pr (a b : Rq) : Prop where
  id : a.id ≠ b.id
  txn : a.txn ≠ b.txn
  sn : 0 < a.sn → a.sn ≠ b.sn
  ord : a.md = 0 → b.md = 0 ∧ a.sn < b.sn
  cp : a.md ≠ 0 → b.md ≠ 0 → cpI a.md b.md = true
structure Ok (W : Int) (q : List Rq) : Prop where
  w0 : 0 ≤ W
  wB : W ≤ 4611686018427387904
  rt : ∀ r ∈ q, Rt W r
  pr : q.Pairwise Pr
theorem Rt.w' {W : Int} {r : Rq} (h : Rt W r) (z : r.md = 0) : 0 < r.sn := by
  have := h.h
  have h0 := h.s0
  rcases Int.lt_or_eq_of_le h0 with q | q
  · exact q
  · exact absurd z (this q.symm).1
theorem Rt.wne {W : Int} {r : Rq} (h : Rt W r) : r.wt ≠ 0 := by
  intro z
  rcases Int.lt_or_eq_of_le h.s0 with q | q
  · have := h.w q
    rw [z, cv_zero _ h.md] at this
    cases this
  · have := h.h q.symm
    exact this.1 (this.2.symm.trans z)
theorem Rt.mono {W W' : Int} {r : Rq} (h : Rt W r) (hW : W ≤ W') : Rt W' r := ⟨h.id, h.md, h.wt, h.s0, Int.le_trans h.sW hW, h.w, h.h⟩

/-- Does o block r? -/
def blk (r o : Rq) : Bool := ((o.md != 0) && !cpI o.md r.wt) || ((o.md != 0) && decide (0 < o.sn) && ((r.md == 0) || decide (o.sn < r.sn))) || ((r.md == 0) && (o.md == 0) && decide (o.sn < r.sn))
def canG (q : List Rq) (r : Rq) : Bool := decide (0 < r.sn) && q.all fun o => (o.id == r.id) || !blk r o
def chg (f : Rq → Rq) (id : Int) (q : List Rq) : List Rq := q.map fun r => if r.id = id then f r else r
def grtR (r : Rq) : Rq := ⟨r.id, r.txn, r.wt, r.wt, 0⟩
def lvQ (id : Int) (q : List Rq) : List Rq := q.filter fun r => !(r.id == id)
def abR (r : Rq) : Rq := ⟨r.id, r.txn, r.md, r.md, 0⟩
def has (q : List Rq) (id : Int) : Bool := q.any fun r => r.id == id
def fnd (q : List Rq) (id : Int) : Option Rq := q.find? fun r => r.id == id
def abQ (r : Rq) (q : List Rq) : List Rq := if r.md = 0 then lvQ r.id q else chg abR r.id q
def askE (q : List Rq) (id txn m : Int) : Int := if id < 0 ∨ m = 0 ∨ knI m = false then 2 else if (q.any fun r => r.id == id || r.txn == txn) = true then 4 else 0
def free (q : List Rq) (m : Int) : Bool := q.all fun r => r.sn == 0 && cpI r.md m
def askQ (W : Int) (q : List Rq) (id txn m : Int) : Int × List Rq × Bool := if free q m = true then (W, q ++ [⟨id, txn, m, m, 0⟩], true) else (W + 1, q ++ [⟨id, txn, 0, m, W + 1⟩], false)
def upF (q : List Rq) (r : Rq) (want : Int) : Bool := q.all fun o => (o.id == r.id) || (!(decide (0 < o.sn) && (o.md != 0)) && ((o.md == 0) || cpI o.md want))
def upQ (W : Int) (q : List Rq) (r : Rq) (m : Int) : Int × List Rq × Bool :=
  if supT r.md m = r.md then (W, q, true)
  else if upF q r (supT r.md m) = true then (W, chg (fun x => ⟨x.id, x.txn, supT r.md m, supT r.md m, 0⟩) r.id q, true)
  else (W + 1, chg (fun x => ⟨x.id, x.txn, x.md, supT r.md m, W + 1⟩) r.id q, false)

section
variable {W : Int} {q : List Rq}
theorem Ok.inj (h : Ok W q) : ∀ a ∈ q, ∀ b ∈ q, a.id = b.id → a = b := by
  have hp := h.pr
  clear h
  induction hp with
  | nil => intro a ha; cases ha
  | cons hx _ ih =>
    intro a ha b hb e
    rcases List.mem_cons.1 ha with rfl | ha'
    · rcases List.mem_cons.1 hb with rfl | hb'
      · rfl
      · exact absurd e (hx b hb').id
    · rcases List.mem_cons.1 hb with rfl | hb'
      · exact absurd e.symm (hx a ha').id
      · exact ih a ha' b hb' e
theorem Ok.injT (h : Ok W q) : ∀ a ∈ q, ∀ b ∈ q, a.txn = b.txn → a = b := by
  have hp := h.pr
  clear h
  induction hp with
  | nil => intro a ha; cases ha
  | cons hx _ ih =>
    intro a ha b hb e
    rcases List.mem_cons.1 ha with rfl | ha'
    · rcases List.mem_cons.1 hb with rfl | hb'
      · rfl
      · exact absurd e (hx b hb').txn
    · rcases List.mem_cons.1 hb with rfl | hb'
      · exact absurd e.symm (hx a ha').txn
      · exact ih a ha' b hb' e
theorem Ok.injS (h : Ok W q) : ∀ a ∈ q, ∀ b ∈ q, 0 < a.sn → a.sn = b.sn → a = b := by
  have hp := h.pr
  clear h
  induction hp with
  | nil => intro a ha; cases ha
  | cons hx _ ih =>
    intro a ha b hb h0 e
    rcases List.mem_cons.1 ha with rfl | ha'
    · rcases List.mem_cons.1 hb with rfl | hb'
      · rfl
      · exact absurd e ((hx b hb').sn h0)
    · rcases List.mem_cons.1 hb with rfl | hb'
      · exact absurd e.symm ((hx a ha').sn (e ▸ h0))
      · exact ih a ha' b hb' h0 e
/-- Two different ones that hold are compatible. -/
theorem Ok.cp (h : Ok W q) : ∀ a ∈ q, ∀ b ∈ q, a.id ≠ b.id → a.md ≠ 0 → b.md ≠ 0 → cpI a.md b.md = true := by
  have hp := h.pr
  clear h
  induction hp with
  | nil => intro a ha; cases ha
  | cons hx _ ih =>
    intro a ha b hb e h1 h2
    rcases List.mem_cons.1 ha with rfl | ha'
    · rcases List.mem_cons.1 hb with rfl | hb'
      · exact absurd rfl e
      · exact (hx b hb').cp h1 h2
    · rcases List.mem_cons.1 hb with rfl | hb'
      · rw [cp_symm]; exact (hx a ha').cp h2 h1
      · exact ih a ha' b hb' e h1 h2
/-- A change of one request: what is asked of it alone, and of it with each other one. -/
theorem ok_chg (h : Ok W q) {W' : Int} (hW : W ≤ W') (hB : W' ≤ 4611686018427387904) (f : Rq → Rq) (r : Rq) (hr : r ∈ q) (hrt : Rt W' (f r))
    (h1 : ∀ a ∈ q, a.id ≠ r.id → Pr a r → Pr a (f r)) (h2 : ∀ b ∈ q, b.id ≠ r.id → Pr r b → Pr (f r) b) : Ok W' (chg f r.id q) := by
  have hw := h.w0
  refine ⟨by omega, hB, fun x hx => ?_, ?_⟩
  · obtain ⟨y, hy, rfl⟩ := List.mem_map.1 hx
    by_cases e : y.id = r.id
    · rw [if_pos e, h.inj y hy r hr e]; exact hrt
    · rw [if_neg e]; exact (h.rt y hy).mono hW
  · unfold chg
    rw [List.pairwise_map]
    refine h.pr.imp_of_mem fun {a b} ha hb hp => ?_
    by_cases e1 : a.id = r.id
    · obtain rfl := h.inj a ha r hr e1
      rw [if_pos rfl, if_neg (fun e => hp.id e.symm)]
      exact h2 b hb (fun e => hp.id e.symm) hp
    · by_cases e2 : b.id = r.id
      · obtain rfl := h.inj b hb r hr e2
        rw [if_neg e1, if_pos rfl]
        exact h1 a ha e1 hp
      · rw [if_neg e1, if_neg e2]
        exact hp
theorem ok_lv (h : Ok W q) (id : Int) : Ok W (lvQ id q) := ⟨h.w0, h.wB, fun r hr => h.rt r (List.mem_filter.1 hr).1, h.pr.filter _⟩
theorem ok_ab (h : Ok W q) (r : Rq) (hr : r ∈ q) : Ok W (abQ r q) := by
  unfold abQ
  by_cases z : r.md = 0
  · rw [if_pos z]; exact ok_lv h _
  · rw [if_neg z]
    have t := h.rt r hr
    refine ok_chg h (Int.le_refl _) h.wB abR r hr ⟨t.id, t.md, t.md, Int.le_refl _, h.w0, fun e => absurd e (Int.lt_irrefl _), fun _ => ⟨z, rfl⟩⟩ (fun a ha ne p => ?_) (fun b hb ne p => ?_)
    · exact ⟨p.id, p.txn, fun e => by show a.sn ≠ 0; omega, fun e => absurd (p.ord e).1 z, p.cp⟩
    · exact ⟨p.id, p.txn, fun e => absurd e (Int.lt_irrefl _), fun e => absurd e z, p.cp⟩
theorem ok_ask (h : Ok W q) (id txn m : Int) (he : askE q id txn m = 0) (hB : W + 1 ≤ 4611686018427387904) : Ok (askQ W q id txn m).1 (askQ W q id txn m).2.1 := by
  unfold askE at he
  split at he
  · cases he
  split at he
  · cases he
  rename_i h1 h2
  have hi : 0 ≤ id := Int.not_lt.1 fun e => h1 (.inl e)
  have hm0 : m ≠ 0 := fun e => h1 (.inr (.inl e))
  have hmk : knI m = true := by
    cases e : knI m with
    | true => rfl
    | false => exact absurd (.inr (.inr e)) h1
  have hn : ∀ a ∈ q, a.id ≠ id ∧ a.txn ≠ txn := by
    intro a ha
    have := fun e => h2 (List.any_eq_true.2 ⟨a, ha, e⟩)
    simpa using this
  have hw := h.w0
  unfold askQ
  by_cases hf : free q m = true
  · rw [if_pos hf]
    have hf' : ∀ a ∈ q, a.sn = 0 ∧ cpI a.md m = true := by
      intro a ha
      have := List.all_eq_true.1 hf a ha
      simpa using this
    refine ⟨hw, h.wB, fun r hr => ?_, ?_⟩
    · rcases List.mem_append.1 hr with hr | hr
      · exact h.rt r hr
      · rw [List.mem_singleton] at hr; subst hr
        exact ⟨hi, hmk, hmk, Int.le_refl _, hw, fun e => absurd e (Int.lt_irrefl _), fun _ => ⟨hm0, rfl⟩⟩
    · rw [List.pairwise_append]
      refine ⟨h.pr, List.pairwise_singleton _ _, fun a ha b hb => ?_⟩
      rw [List.mem_singleton] at hb; subst hb
      obtain ⟨s0, c0⟩ := hf' a ha
      exact ⟨(hn a ha).1, (hn a ha).2, fun e => by omega, fun e => absurd e ((h.rt a ha).h s0).1, fun _ _ => c0⟩
  · rw [if_neg hf]
    refine ⟨by show 0 ≤ W + 1; omega, hB, fun r hr => ?_, ?_⟩
    · rcases List.mem_append.1 hr with hr | hr
      · exact (h.rt r hr).mono (by show W ≤ W + 1; omega)
      · rw [List.mem_singleton] at hr; subst hr
        exact ⟨hi, rfl, hmk, by show 0 ≤ W + 1; omega, Int.le_refl _, fun _ => zero_cv m hmk hm0, fun e => by simp only at e; omega⟩
    · rw [List.pairwise_append]
      refine ⟨h.pr, List.pairwise_singleton _ _, fun a ha b hb => ?_⟩
      rw [List.mem_singleton] at hb; subst hb
      have s := (h.rt a ha).sW
      exact ⟨(hn a ha).1, (hn a ha).2, fun e => by show a.sn ≠ W + 1; omega, fun e => ⟨rfl, by show a.sn < W + 1; omega⟩, fun _ e => absurd rfl e⟩
theorem ok_up (h : Ok W q) (r : Rq) (hr : r ∈ q) (m : Int) (hs : r.sn = 0) (hm : knI m = true) (hB : W + 1 ≤ 4611686018427387904) : Ok (upQ W q r m).1 (upQ W q r m).2.1 := by
  have t := h.rt r hr
  have z := (t.h hs).1
  have hk := sup_kn r.md m t.md hm
  have hw := h.w0
  unfold upQ
  by_cases c : supT r.md m = r.md
  · rw [if_pos c]; exact h
  · rw [if_neg c]
    have hne := sup_ne r.md m t.md hm z
    by_cases f : upF q r (supT r.md m) = true
    · rw [if_pos f]
      have f' : ∀ o ∈ q, o.id ≠ r.id → o.md ≠ 0 → cpI o.md (supT r.md m) = true := by
        intro o ho ne hz
        have := List.all_eq_true.1 f o ho
        simp [ne, hz] at this
        exact this.2
      refine ok_chg h (Int.le_refl _) h.wB _ r hr ⟨t.id, hk, hk, Int.le_refl _, hw, fun e => absurd e (Int.lt_irrefl _), fun _ => ⟨hne, rfl⟩⟩ (fun a ha ne p => ?_) (fun b hb ne p => ?_)
      · exact ⟨p.id, p.txn, fun e => by show a.sn ≠ 0; omega, fun e => absurd (p.ord e).1 z, fun e _ => f' a ha ne e⟩
      · exact ⟨p.id, p.txn, fun e => absurd e (Int.lt_irrefl _), fun e => absurd e hne, fun _ e => by rw [cp_symm]; exact f' b hb ne e⟩
    · rw [if_neg f]
      refine ok_chg h (by show W ≤ W + 1; omega) hB _ r hr ⟨t.id, t.md, hk, by show 0 ≤ W + 1; omega, Int.le_refl _, fun _ => sup_cv r.md m t.md hm c, fun e => by simp only at e; omega⟩ (fun a ha ne p => ?_) (fun b hb ne p => ?_)
      · have s := (h.rt a ha).sW
        exact ⟨p.id, p.txn, fun e => by show a.sn ≠ W + 1; omega, fun e => absurd (p.ord e).1 z, p.cp⟩
      · have s := (h.rt b hb).sW
        exact ⟨p.id, p.txn, fun e => by show W + 1 ≠ b.sn; omega, fun e => absurd e z, p.cp⟩
theorem no_blk {r o : Rq} (hc : canG q r = true) (ho : o ∈ q) (ne : o.id ≠ r.id) : blk r o = false := by
  unfold canG at hc
  rw [Bool.and_eq_true] at hc
  have := List.all_eq_true.1 hc.2 o ho
  simpa [ne] using this
theorem can_sn {r : Rq} (hc : canG q r = true) : 0 < r.sn := by
  unfold canG at hc
  rw [Bool.and_eq_true] at hc
  simpa using hc.1
theorem blk_no {r o : Rq} (h : blk r o = false) : (o.md ≠ 0 → cpI o.md r.wt = true) ∧ (o.md ≠ 0 → 0 < o.sn → r.md ≠ 0 ∧ r.sn ≤ o.sn) ∧ (r.md = 0 → o.md = 0 → r.sn ≤ o.sn) := by
  unfold blk at h
  simp only [Bool.or_eq_false_iff, Bool.and_eq_false_iff, bne_eq_false_iff_eq, Bool.not_eq_false', decide_eq_false_iff_not, beq_eq_false_iff_ne, Int.not_lt] at h
  obtain ⟨⟨h1, h2⟩, h3⟩ := h
  refine ⟨fun z => h1.resolve_left z, fun z s => ?_, fun z z' => ?_⟩
  · rcases h2 with (h2 | h2) | h2
    · exact absurd h2 z
    · omega
    · exact h2
  · rcases h3 with (h3 | h3) | h3
    · exact absurd z h3
    · exact absurd z' h3
    · exact h3
theorem ok_grt (h : Ok W q) (r : Rq) (hr : r ∈ q) (hc : canG q r = true) : Ok W (chg grtR r.id q) := by
  have t := h.rt r hr
  refine ok_chg h (Int.le_refl _) h.wB grtR r hr ⟨t.id, t.wt, t.wt, Int.le_refl _, h.w0, fun e => absurd e (Int.lt_irrefl _), fun _ => ⟨t.wne, rfl⟩⟩ (fun a ha ne p => ?_) (fun b hb ne p => ?_)
  · obtain ⟨b1, b2, b3⟩ := blk_no (no_blk hc ha ne)
    refine ⟨p.id, p.txn, fun e => by show a.sn ≠ 0; omega, fun e => ?_, fun e _ => b1 e⟩
    obtain ⟨z, s⟩ := p.ord e
    have := b3 z e
    omega
  · obtain ⟨b1, b2, b3⟩ := blk_no (no_blk hc hb ne)
    exact ⟨p.id, p.txn, fun e => absurd e (Int.lt_irrefl _), fun e => absurd e t.wne, fun _ e => by rw [cp_symm]; exact b1 e⟩
/-- At most one can be granted. -/
theorem can_one (h : Ok W q) {r s : Rq} (hr : r ∈ q) (hs : s ∈ q) (h1 : canG q r = true) (h2 : canG q s = true) : r = s := by
  refine Classical.byContradiction fun ne => ?_
  have ni : s.id ≠ r.id := fun e => ne (h.inj r hr s hs e.symm)
  obtain ⟨_, b2, b3⟩ := blk_no (no_blk h1 hs ni)
  obtain ⟨_, c2, c3⟩ := blk_no (no_blk h2 hr (fun e => ni e.symm))
  have p1 := can_sn h1
  have p2 := can_sn h2
  have hne : r.sn ≠ s.sn := fun e => ne (h.injS r hr s hs p1 e)
  by_cases z : r.md = 0
  · by_cases y : s.md = 0
    · have := b3 z y; have := c3 y z; omega
    · exact (b2 y p2).1 z
  · by_cases y : s.md = 0
    · exact (c2 z p1).1 y
    · have := (b2 y p2).2; have := (c2 z p1).2; omega
end
end Go.Proofs.YtpffldfpabglbaaGreatDoor
end

/- Plain facts of queues of requests: scans. -/
section
namespace Go.Proofs.YtpffldfpabglbaaGreatDoor
set_option linter.unusedVariables false

section
variable {W : Int} {q : List Rq}
theorem chg_none (f : Rq → Rq) (id : Int) : ∀ q : List Rq, (∀ a ∈ q, a.id ≠ id) → chg f id q = q
  | [], _ => rfl
  | a :: q, h => by
    show (if a.id = id then f a else a) :: chg f id q = _
    rw [if_neg (h a (by simp)), chg_none f id q (fun b hb => h b (List.mem_cons_of_mem _ hb))]
theorem lv_none (id : Int) (q : List Rq) (h : ∀ a ∈ q, a.id ≠ id) : lvQ id q = q := by
  unfold lvQ
  rw [List.filter_eq_self]
  intro a ha
  simpa using h a ha
/-- One request is what a change, or a leave, is about. -/
theorem Ok.part (h : Ok W q) {r : Rq} (hr : r ∈ q) : ∃ l m, q = l ++ r :: m ∧ (∀ a ∈ l, a.id ≠ r.id) ∧ (∀ a ∈ m, a.id ≠ r.id) := by
  obtain ⟨l, m, e⟩ := List.append_of_mem hr
  have hp := h.pr
  rw [e, List.pairwise_append, List.pairwise_cons] at hp
  exact ⟨l, m, e, fun a ha => (hp.2.2 a ha r (by simp)).id, fun b hb q => (hp.2.1.1 b hb).id q.symm⟩
theorem chg_mid (f : Rq → Rq) {l m : List Rq} {r : Rq} (h1 : ∀ a ∈ l, a.id ≠ r.id) (h2 : ∀ a ∈ m, a.id ≠ r.id) : chg f r.id (l ++ r :: m) = l ++ f r :: m := by
  have e : chg f r.id (l ++ r :: m) = chg f r.id l ++ (if r.id = r.id then f r else r) :: chg f r.id m := by simp [chg]
  rw [e, if_pos rfl, chg_none f _ l h1, chg_none f _ m h2]
theorem lv_mid {l m : List Rq} {r : Rq} (h1 : ∀ a ∈ l, a.id ≠ r.id) (h2 : ∀ a ∈ m, a.id ≠ r.id) : lvQ r.id (l ++ r :: m) = l ++ m := by
  have e : lvQ r.id (l ++ r :: m) = lvQ r.id l ++ lvQ r.id m := by simp [lvQ, List.filter_append]
  rw [e, lv_none _ l h1, lv_none _ m h2]
theorem Ok.nth (h : Ok W q) (k : Nat) (hk : k < q.length) : q = q.take k ++ q[k] :: q.drop (k + 1) ∧ (∀ a ∈ q.take k, a.id ≠ q[k].id) ∧ (∀ a ∈ q.drop (k + 1), a.id ≠ q[k].id) := by
  have e : q = q.take k ++ q[k] :: q.drop (k + 1) := by
    rw [← List.drop_eq_getElem_cons hk, List.take_append_drop]
  have hp := h.pr
  rw [e, List.pairwise_append, List.pairwise_cons] at hp
  exact ⟨e, fun a ha => (hp.2.2 a ha _ (List.mem_cons_self)).id, fun b hb q => (hp.2.1.1 b hb).id q.symm⟩
theorem set_mid {α : Type} (l m : List α) (r x : α) (k : Nat) (hl : l.length = k) : (l ++ r :: m).set k x = l ++ x :: m := by
  subst hl
  rw [List.set_append_right _ _ (Nat.le_refl _), Nat.sub_self, List.set_cons_zero]
theorem chg_set (h : Ok W q) (f : Rq → Rq) (k : Nat) (hk : k < q.length) : chg f q[k].id q = q.set k (f q[k]) := by
  obtain ⟨e, h1, h2⟩ := h.nth k hk
  have hl : (q.take k).length = k := by simp; omega
  have c := chg_mid f h1 h2
  rw [← e] at c
  rw [c, ← set_mid (q.take k) (q.drop (k + 1)) q[k] (f q[k]) k hl, ← e]
def wtg (q : List Rq) : Nat := q.countP fun r => decide (0 < r.sn)
theorem wtg_grt (h : Ok W q) {r : Rq} (hr : r ∈ q) (hs : 0 < r.sn) : wtg (chg grtR r.id q) + 1 = wtg q := by
  obtain ⟨l, m, e, h1, h2⟩ := h.part hr
  rw [e, chg_mid grtR h1 h2]
  simp [wtg, List.countP_append, grtR, hs]
  omega
def scn : Nat → List Rq → List Int × List Rq
  | 0, q => ([], q)
  | n + 1, q => match q.find? (canG q) with
    | none => ([], q)
    | some r => (r.id :: (scn n (chg grtR r.id q)).1, (scn n (chg grtR r.id q)).2)
def scanQ (q : List Rq) : List Int × List Rq := scn (wtg q) q
theorem find_can {r : Rq} (h : q.find? (canG q) = some r) : r ∈ q ∧ canG q r = true := ⟨List.mem_of_find?_eq_some h, List.find?_some h⟩
/-- Nothing can be granted. -/
def Done (q : List Rq) : Prop := ∀ r ∈ q, canG q r = false
theorem done_find (h : Done q) : q.find? (canG q) = none := by
  rw [List.find?_eq_none]
  intro r hr
  simp [h r hr]
theorem scn_done (h : Done q) : ∀ n, scn n q = ([], q)
  | 0 => rfl
  | n + 1 => by
    unfold scn
    rw [done_find h]
theorem can_find (h : Ok W q) {r : Rq} (hr : r ∈ q) (hc : canG q r = true) : q.find? (canG q) = some r := by
  cases e : q.find? (canG q) with
  | none =>
    rw [List.find?_eq_none] at e
    exact absurd hc (e r hr)
  | some s =>
    obtain ⟨hs, hs'⟩ := find_can e
    rw [can_one h hs hr hs' hc]
theorem scn_step (h : Ok W q) {r : Rq} (hr : r ∈ q) (hc : canG q r = true) (n : Nat) : scn (n + 1) q = (r.id :: (scn n (chg grtR r.id q)).1, (scn n (chg grtR r.id q)).2) := by
  conv => lhs; unfold scn
  rw [can_find h hr hc]
/-- What a scan has come to. -/
inductive Steps (q0 : List Rq) : List Int → List Rq → Prop
  | refl : Steps q0 [] q0
  | snoc {ids : List Int} {q : List Rq} {r : Rq} (h : Steps q0 ids q) (hr : r ∈ q) (hc : canG q r = true) : Steps q0 (ids ++ [r.id]) (chg grtR r.id q)
theorem Steps.ok {q0 : List Rq} {ids : List Int} (h : Steps q0 ids q) (h0 : Ok W q0) : Ok W q := by
  induction h with
  | refl => exact h0
  | snoc _ hr hc ih => exact ok_grt ih _ hr hc
theorem Steps.scn {q0 : List Rq} {ids : List Int} (h : Steps q0 ids q) (h0 : Ok W q0) : ∀ n, scn (ids.length + n) q0 = (ids ++ (scn n q).1, (scn n q).2) := by
  induction h with
  | refl => intro n; simp
  | snoc hs hr hc ih =>
    intro n
    have := ih (n + 1)
    rw [scn_step (hs.ok h0) hr hc] at this
    rw [List.length_append, List.length_singleton, show ∀ a : Nat, a + 1 + n = a + (n + 1) by intro a; omega, this]
    simp
theorem Steps.wtg {q0 : List Rq} {ids : List Int} (h : Steps q0 ids q) (h0 : Ok W q0) : wtg q + ids.length = wtg q0 := by
  induction h with
  | refl => simp
  | snoc hs hr hc ih =>
    have := wtg_grt (hs.ok h0) hr (can_sn hc)
    simp
    omega
/-- A scan that is at its end is the scan. -/
theorem Steps.scan {q0 : List Rq} {ids : List Int} (h : Steps q0 ids q) (h0 : Ok W q0) (hd : Done q) : scanQ q0 = (ids, q) := by
  have hw := h.wtg h0
  unfold scanQ
  rw [← hw, Nat.add_comm, h.scn h0, scn_done hd]
  simp
theorem scn_steps (h : Ok W q) : ∀ n, wtg q ≤ n → Steps q (scn n q).1 (scn n q).2 ∧ Done (scn n q).2
  | n, hn => by
    suffices H : ∀ n q0 ids q, Ok W q0 → Steps q0 ids q → wtg q ≤ n → Steps q0 (ids ++ (scn n q).1) (scn n q).2 ∧ Done (scn n q).2 by
      have := H n q [] q h .refl hn
      simpa using this
    clear hn n h
    intro n
    induction n with
    | zero =>
      intro q0 ids q h0 hs hn
      refine ⟨by simpa [scn] using hs, fun r hr => ?_⟩
      have hr' : r ∈ q := hr
      cases e : canG q r with
      | false => exact e
      | true =>
        have := wtg_grt (hs.ok h0) hr' (can_sn e)
        omega
    | succ n ih =>
      intro q0 ids q h0 hs hn
      cases e : q.find? (canG q) with
      | none =>
        have hd : Done q := fun r hr => by
          rw [List.find?_eq_none] at e
          simpa using e r hr
        rw [scn_done hd]
        exact ⟨by simpa using hs, hd⟩
      | some r =>
        obtain ⟨hr, hc⟩ := find_can e
        have hw := wtg_grt (hs.ok h0) hr (can_sn hc)
        have := ih q0 (ids ++ [r.id]) _ h0 (hs.snoc hr hc) (by omega)
        rw [scn_step (hs.ok h0) hr hc]
        simpa using this
theorem scan_steps (h : Ok W q) : Steps q (scanQ q).1 (scanQ q).2 ∧ Done (scanQ q).2 := scn_steps h _ (Nat.le_refl _)
theorem scan_done (h : Done q) : scanQ q = ([], q) := scn_done h _
theorem scan_ok (h : Ok W q) : Ok W (scanQ q).2 := (scan_steps h).1.ok h

/-- What was granted, and what was not. -/
theorem Steps.form {q0 : List Rq} {ids : List Int} (h : Steps q0 ids q) (h0 : Ok W q0) : q = q0.map (fun r => if ids.contains r.id = true then grtR r else r) ∧ ∀ i ∈ ids, ∃ r ∈ q0, r.id = i ∧ 0 < r.sn := by
  induction h with
  | refl => exact ⟨by simp, by simp⟩
  | @snoc ids q r hs hr hc ih =>
    obtain ⟨e, hi⟩ := ih
    have hr' := hr
    rw [e] at hr'
    obtain ⟨s, hs0, hsr⟩ := List.mem_map.1 hr'
    have hsn := can_sn hc
    have hse : s = r := by
      split at hsr
      · rw [← hsr] at hsn; exact absurd hsn (Int.lt_irrefl _)
      · exact hsr
    subst hse
    refine ⟨?_, fun i h => ?_⟩
    · conv => lhs; rw [e]
      unfold chg
      rw [List.map_map]
      refine List.map_congr_left fun x hx => ?_
      simp only [Function.comp]
      by_cases q1 : x.id = s.id
      · obtain rfl := h0.inj x hx s hs0 q1
        split at hsr
        · rw [← hsr] at hsn; exact absurd hsn (Int.lt_irrefl _)
        · rename_i hn
          rw [if_neg hn, if_pos rfl, if_pos (by simp)]
      · by_cases q2 : ids.contains x.id = true
        · rw [if_pos q2, if_neg (by exact q1), if_pos (by simp at q2 ⊢; exact .inl q2)]
        · rw [if_neg q2, if_neg q1, if_neg (by simp at q2 ⊢; exact ⟨q2, q1⟩)]
    · rcases List.mem_append.1 h with h | h
      · exact hi i h
      · rw [List.mem_singleton] at h; subst h
        exact ⟨s, hs0, rfl, hsn⟩
/-- Nobody overtakes. -/
theorem Steps.turn {q0 : List Rq} {ids : List Int} (h : Steps q0 ids q) (h0 : Ok W q0) {a b : Rq} (ha : a ∈ q0) (hb : b ∈ q0) (za : a.md = 0) (zb : b.md = 0) (hlt : a.sn < b.sn) (hi : b.id ∈ ids) : a.id ∈ ids := by
  induction h with
  | refl => cases hi
  | @snoc ids q r hs hr hc ih =>
    rcases List.mem_append.1 hi with hi | hi
    · exact List.mem_append_left _ (ih hi)
    · rw [List.mem_singleton] at hi
      by_cases q1 : a.id ∈ ids
      · exact List.mem_append_left _ q1
      · exfalso
        obtain ⟨e, _⟩ := hs.form h0
        have haq : a ∈ q := by
          rw [e]
          exact List.mem_map.2 ⟨a, ha, by rw [if_neg (by simpa using q1)]⟩
        have hbr : r = b := by
          have hr' := hr
          rw [e] at hr'
          obtain ⟨s, hs0, hsr⟩ := List.mem_map.1 hr'
          have hsn := can_sn hc
          split at hsr
          · rw [← hsr] at hsn; exact absurd hsn (Int.lt_irrefl _)
          · rw [← hsr]
            exact h0.inj s hs0 b hb (by rw [hsr]; exact hi.symm)
        subst hbr
        have ni : a.id ≠ r.id := fun q2 => by
          have := h0.inj a ha r hb q2
          subst this
          omega
        have := (blk_no (no_blk hc haq ni)).2.2 zb za
        omega
end
end Go.Proofs.YtpffldfpabglbaaGreatDoor
end

/- Plain facts of queues of requests: what the calls give; blockers; whether a head is valid. -/
section
namespace Go.Proofs.YtpffldfpabglbaaGreatDoor
set_option linter.unusedVariables false

structure Hq where
  t : Int
  r : Int
  W : Int
  q : List Rq
def noH : Hq := ⟨0, 0, 0, []⟩
/-- What the calls give: a head, whether it was granted, an error. -/
def askR (h : Hq) (id txn m : Int) : Hq × Bool × Int := if askE h.q id txn m = 0 then (⟨h.t, h.r, (askQ h.W h.q id txn m).1, (askQ h.W h.q id txn m).2.1⟩, (askQ h.W h.q id txn m).2.2, 0) else (noH, false, askE h.q id txn m)
def upR (h : Hq) (id m : Int) : Hq × Bool × Int :=
  if m = 0 ∨ knI m = false then (noH, false, 2)
  else match fnd h.q id with
  | none => (noH, false, 5)
  | some r => if 0 < r.sn then (noH, false, 7) else (⟨h.t, h.r, (upQ h.W h.q r m).1, (upQ h.W h.q r m).2.1⟩, (upQ h.W h.q r m).2.2, 0)
def hnR (h : Hq) (id txn : Int) : Hq × Int := match fnd h.q id with
  | none => (noH, 5)
  | some r => if (h.q.any fun o => !(o.id == id) && o.txn == txn) = true then (noH, 4) else if 0 < r.sn then (noH, 7) else (⟨h.t, h.r, h.W, chg (fun x => ⟨x.id, txn, x.md, x.wt, x.sn⟩) id h.q⟩, 0)
def mdQ (q : List Rq) (txn : Int) : Int := match q.find? fun r => r.txn == txn with
  | none => 0
  | some r => r.md
/-- A number into rising ones, once. -/
def putL (n : Int) : List Int → List Int
  | [] => [n]
  | a :: r => if a < n then a :: putL n r else if a = n then a :: r else n :: a :: r
theorem putL_mem (n x : Int) : ∀ l : List Int, x ∈ putL n l ↔ x = n ∨ x ∈ l
  | [] => by simp [putL]
  | a :: r => by
    unfold putL
    split
    · simp only [List.mem_cons, putL_mem n x r]
      constructor
      · rintro (h | h | h)
        · exact .inr (.inl h)
        · exact .inl h
        · exact .inr (.inr h)
      · rintro (h | h | h)
        · exact .inr (.inl h)
        · exact .inl h
        · exact .inr (.inr h)
    split
    · rename_i e
      simp [← e]
    · simp
theorem fold_mem (x : Int) : ∀ (q : List Rq) (l : List Int), x ∈ q.foldl (fun l o => putL o.txn l) l ↔ x ∈ l ∨ ∃ o ∈ q, o.txn = x
  | [], l => by simp
  | a :: q, l => by
    rw [List.foldl_cons, fold_mem x q, putL_mem]
    simp only [List.mem_cons, exists_eq_or_imp]
    constructor
    · rintro ((h | h) | h)
      · exact .inr (.inl h.symm)
      · exact .inl h
      · exact .inr (.inr h)
    · rintro (h | h | h)
      · exact .inl (.inr h)
      · exact .inl (.inl h.symm)
      · exact .inr h
theorem putL_sorted (n : Int) : ∀ l : List Int, l.Pairwise (· < ·) → (putL n l).Pairwise (· < ·)
  | [], _ => by simp [putL]
  | a :: r, h => by
    rw [List.pairwise_cons] at h
    unfold putL
    split
    · rename_i h1
      rw [List.pairwise_cons]
      refine ⟨fun x hx => ?_, putL_sorted n r h.2⟩
      rcases (putL_mem n x r).1 hx with rfl | hx
      · exact h1
      · exact h.1 x hx
    split
    · rw [List.pairwise_cons]; exact h
    · rename_i h1 h2
      rw [List.pairwise_cons]
      refine ⟨fun x hx => ?_, by rw [List.pairwise_cons]; exact h⟩
      rcases List.mem_cons.1 hx with rfl | hx
      · omega
      · have := h.1 x hx
        omega
end Go.Proofs.YtpffldfpabglbaaGreatDoor
end

/- Plain facts of queues of requests: calls followed by scans: what holds between them. -/
section
namespace Go.Proofs.YtpffldfpabglbaaGreatDoor
set_option linter.unusedVariables false

def scH (h : Hq) : Hq := ⟨h.t, h.r, h.W, (scanQ h.q).2⟩
theorem askQ_W (W : Int) (q : List Rq) (id txn m : Int) : W ≤ (askQ W q id txn m).1 ∧ (askQ W q id txn m).1 ≤ W + 1 ∧ (askQ W q id txn m).2.1.length = q.length + 1 := by
  unfold askQ
  split
  · exact ⟨by simp, by show W ≤ W + 1; omega, by simp⟩
  · exact ⟨by show W ≤ W + 1; omega, by simp, by simp⟩
theorem chg_len (f : Rq → Rq) (id : Int) (q : List Rq) : (chg f id q).length = q.length := by simp [chg]
theorem upQ_W (W : Int) (q : List Rq) (r : Rq) (m : Int) : W ≤ (upQ W q r m).1 ∧ (upQ W q r m).1 ≤ W + 1 ∧ (upQ W q r m).2.1.length = q.length := by
  unfold upQ
  split
  · exact ⟨by simp, by show W ≤ W + 1; omega, rfl⟩
  split
  · exact ⟨by simp, by show W ≤ W + 1; omega, chg_len _ _ _⟩
  · exact ⟨by show W ≤ W + 1; omega, by simp, chg_len _ _ _⟩
theorem lvQ_len (id : Int) (q : List Rq) : (lvQ id q).length ≤ q.length := List.length_filter_le _ _
theorem abQ_len (r : Rq) (q : List Rq) : (abQ r q).length ≤ q.length := by
  unfold abQ
  split
  · exact lvQ_len _ _
  · rw [chg_len]; exact Nat.le_refl _
/-- What holds of a head between two calls. -/
structure HInv (h : Hq) : Prop where
  ok : Ok h.W h.q
  done : Done h.q
theorem scan_len {W : Int} {q : List Rq} (h : Ok W q) : (scanQ q).2.length = q.length := by
  rw [((scan_steps h).1.form h).1]
  simp
theorem scH_inv (h : Hq) (h0 : Ok h.W h.q) : HInv (scH h) := ⟨scan_ok h0, (scan_steps h0).2⟩
theorem inv_nil (t r : Int) : HInv ⟨t, r, 0, []⟩ := ⟨⟨Int.le_refl _, by show (0 : Int) ≤ _; omega, by simp, .nil⟩, by intro r hr; cases hr⟩
theorem cmp_zero_all : ∀ i < 7, ∀ j < 7, (cmpT 0 (Int.ofNat j) && cmpT (Int.ofNat i) 0) = true := by decide +kernel
theorem cp_zero (a : Int) (ha : knI a = true) : cpI 0 a = true := by
  have := two_kn (p := fun a b => cmpT 0 b && cmpT a 0) cmp_zero_all a a ha ha
  rw [cp_kn 0 a rfl ha]
  simp at this
  exact this.1
end Go.Proofs.YtpffldfpabglbaaGreatDoor
end

/- Plain facts of heads for buckets: what a request, an upgrade and a hand-over leave when nothing could be granted ahead of them; the numbers of a queue. Of no program. -/
section
namespace Go.Proofs.YtpffldfpabglbaaGreatDoor
set_option linter.unusedVariables false

theorem cp_sup_all : ∀ i < 7, ∀ j < 7, ∀ k < 7, (!cpI (supT (Int.ofNat i) (Int.ofNat j)) (Int.ofNat k) || cpI (Int.ofNat i) (Int.ofNat k)) = true := by decide +kernel
theorem cp_sup (a b c : Int) (ha : knI a = true) (hb : knI b = true) (hc : knI c = true) (h : cpI (supT a b) c = true) : cpI a c = true := by
  rw [knI_iff] at ha hb hc
  obtain ⟨i, rfl⟩ := Int.eq_ofNat_of_zero_le ha.1
  obtain ⟨j, rfl⟩ := Int.eq_ofNat_of_zero_le hb.1
  obtain ⟨k, rfl⟩ := Int.eq_ofNat_of_zero_le hc.1
  have := cp_sup_all i (by omega) j (by omega) k (by omega)
  simp only [Int.ofNat_eq_natCast] at this
  rw [h] at this
  simpa using this
theorem can_no {q : List Rq} {r : Rq} (h : canG q r = false) (hs : 0 < r.sn) : ∃ o ∈ q, o.id ≠ r.id ∧ blk r o = true := by
  refine Classical.byContradiction fun hn => ?_
  have : canG q r = true := by
    unfold canG
    rw [Bool.and_eq_true]
    refine ⟨by simpa using hs, ?_⟩
    rw [List.all_eq_true]
    intro o ho
    by_cases e : o.id = r.id
    · simp [e]
    · have : blk r o = false := by
        cases hb : blk r o with
        | false => rfl
        | true => exact absurd ⟨o, ho, e, hb⟩ hn
      simp [this]
  rw [h] at this; cases this
theorem no_can {q : List Rq} {r o : Rq} (ho : o ∈ q) (ne : o.id ≠ r.id) (hb : blk r o = true) : canG q r = false := by
  cases h : canG q r with
  | false => rfl
  | true => have := no_blk h ho ne; rw [hb] at this; cases this
theorem no_can' {q : List Rq} {r : Rq} (hs : ¬ 0 < r.sn) : canG q r = false := by unfold canG; simp [hs]
theorem blk1 {r o : Rq} (h1 : o.md ≠ 0) (h2 : cpI o.md r.wt = false) : blk r o = true := by unfold blk; simp [h1, h2]
theorem blk2 {r o : Rq} (h1 : o.md ≠ 0) (h2 : 0 < o.sn) (h3 : r.md = 0 ∨ o.sn < r.sn) : blk r o = true := by
  unfold blk
  rcases h3 with h3 | h3 <;> simp [h1, h2, h3]
theorem blk3 {r o : Rq} (h1 : r.md = 0) (h2 : o.md = 0) (h3 : o.sn < r.sn) : blk r o = true := by unfold blk; simp [h1, h2, h3]
theorem done_ask {W : Int} {q : List Rq} (h : Ok W q) (hd : Done q) (id txn m : Int) (he : askE q id txn m = 0) : Done (askQ W q id txn m).2.1 := by
  have hk : knI m = true ∧ ∀ r ∈ q, r.id ≠ id := by
    unfold askE at he
    split at he
    · cases he
    · rename_i hn
      split at he
      · cases he
      · rename_i h2
        refine ⟨?_, fun r hr e => h2 ?_⟩
        · cases hm : knI m with
          | true => rfl
          | false => exact absurd (.inr (.inr hm)) hn
        · rw [List.any_eq_true]
          exact ⟨r, hr, by simp [e]⟩
  unfold askQ
  by_cases hf : free q m = true
  · rw [if_pos hf]
    have hz : ∀ r ∈ q, r.sn = 0 := fun r hr => by
      have := List.all_eq_true.1 hf r hr
      simp only [Bool.and_eq_true, beq_iff_eq] at this
      exact this.1
    intro r hr
    rcases List.mem_append.1 hr with hr | hr
    · exact no_can' (by rw [hz r hr]; omega)
    · simp at hr
      subst hr
      exact no_can' (by simp)
  · rw [if_neg hf]
    intro r hr
    rcases List.mem_append.1 hr with hr | hr
    · by_cases hs : 0 < r.sn
      · obtain ⟨o, ho, ne, hb⟩ := can_no (hd r hr) hs
        exact no_can (List.mem_append_left _ ho) ne hb
      · exact no_can' hs
    · simp at hr
      subst hr
      have : ∃ o ∈ q, ¬ (o.sn = 0 ∧ cpI o.md m = true) := by
        refine Classical.byContradiction fun hn => hf ?_
        unfold free
        rw [List.all_eq_true]
        intro o ho
        have : o.sn = 0 ∧ cpI o.md m = true := Classical.byContradiction fun h2 => hn ⟨o, ho, h2⟩
        simp [this.1, this.2]
      obtain ⟨o, ho, hno⟩ := this
      have hrt := h.rt o ho
      refine no_can (List.mem_append_left _ ho) (hk.2 o ho) ?_
      by_cases hs : o.sn = 0
      · have hc : cpI o.md m = false := by
          cases e : cpI o.md m with
          | false => rfl
          | true => exact absurd ⟨hs, e⟩ hno
        exact blk1 (hrt.h hs).1 hc
      · have h0 : 0 < o.sn := by have := hrt.s0; omega
        have hW := hrt.sW
        by_cases hm : o.md = 0
        · exact blk3 rfl hm (by show o.sn < W + 1; omega)
        · exact blk2 hm h0 (.inl rfl)
theorem mem_chg' {f : Rq → Rq} {id : Int} {q : List Rq} {x : Rq} : x ∈ chg f id q ↔ ∃ r ∈ q, x = if r.id = id then f r else r := by
  unfold chg
  rw [List.mem_map]
  constructor
  · rintro ⟨r, hr, e⟩; exact ⟨r, hr, e.symm⟩
  · rintro ⟨r, hr, e⟩; exact ⟨r, hr, e.symm⟩
theorem done_upg {W : Int} {q : List Rq} (h : Ok W q) (hd : Done q) (r : Rq) (hr : r ∈ q) (m : Int) (hs : r.sn = 0) (hm : knI m = true) : Done (upQ W q r m).2.1 := by
  have hrt := h.rt r hr
  unfold upQ
  by_cases h1 : supT r.md m = r.md
  · rw [if_pos h1]; exact hd
  · rw [if_neg h1]
    have inj := h.inj
    by_cases h2 : upF q r (supT r.md m) = true
    · rw [if_pos h2]
      intro x hx
      obtain ⟨s, hsq, rfl⟩ := mem_chg'.1 hx
      by_cases e : s.id = r.id
      · rw [if_pos e]; exact no_can' (by simp)
      · rw [if_neg e]
        by_cases hsn : 0 < s.sn
        · obtain ⟨o, ho, ne, hb⟩ := can_no (hd s hsq) hsn
          by_cases eo : o.id = r.id
          · obtain rfl := inj o ho r hr eo
            refine no_can (o := ⟨o.id, o.txn, supT o.md m, supT o.md m, 0⟩) (mem_chg'.2 ⟨o, ho, by rw [if_pos rfl]⟩) ne ?_
            have hmd := (hrt.h hs).1
            refine blk1 (sup_ne _ _ hrt.md hm hmd) ?_
            unfold blk at hb
            simp only [hs, Int.lt_irrefl, decide_false, Bool.and_false, Bool.false_and, Bool.or_false] at hb
            have hb' : cpI o.md s.wt = false := by
              have hne : (o.md == 0) = false := by simpa using hmd
              simp [hne, hmd] at hb
              exact hb
            cases e2 : cpI (supT o.md m) s.wt with
            | false => rfl
            | true => rw [cp_sup _ _ _ hrt.md hm (h.rt s hsq).wt e2] at hb'; cases hb'
          · exact no_can (mem_chg'.2 ⟨o, ho, by rw [if_neg eo]⟩) ne hb
        · exact no_can' hsn
    · rw [if_neg h2]
      intro x hx
      obtain ⟨s, hsq, rfl⟩ := mem_chg'.1 hx
      by_cases e : s.id = r.id
      · rw [if_pos e]
        obtain rfl := inj s hsq r hr e
        have : ∃ o ∈ q, o.id ≠ s.id ∧ ((0 < o.sn ∧ o.md ≠ 0) ∨ (o.md ≠ 0 ∧ cpI o.md (supT s.md m) = false)) := by
          refine Classical.byContradiction fun hn => h2 ?_
          unfold upF
          rw [List.all_eq_true]
          intro o ho
          by_cases e1 : o.id = s.id
          · simp [e1]
          · have hno : ¬ ((0 < o.sn ∧ o.md ≠ 0) ∨ (o.md ≠ 0 ∧ cpI o.md (supT s.md m) = false)) := fun h3 => hn ⟨o, ho, e1, h3⟩
            by_cases e2 : o.md = 0
            · simp [e2]
            · have e3 : ¬ 0 < o.sn := fun h4 => hno (.inl ⟨h4, e2⟩)
              have e4 : cpI o.md (supT s.md m) = true := by
                cases h5 : cpI o.md (supT s.md m) with
                | true => rfl
                | false => exact absurd (.inr ⟨e2, h5⟩) hno
              simp [e3, e4]
        obtain ⟨o, ho, ne, hc⟩ := this
        refine no_can (mem_chg'.2 ⟨o, ho, by rw [if_neg ne]⟩) ne ?_
        rcases hc with ⟨c1, c2⟩ | ⟨c1, c2⟩
        · refine blk2 c2 c1 (.inr ?_)
          have := (h.rt o ho).sW
          show o.sn < W + 1
          omega
        · exact blk1 c1 c2
      · rw [if_neg e]
        by_cases hsn : 0 < s.sn
        · obtain ⟨o, ho, ne, hb⟩ := can_no (hd s hsq) hsn
          by_cases eo : o.id = r.id
          · obtain rfl := inj o ho r hr eo
            refine no_can (o := ⟨o.id, o.txn, o.md, supT o.md m, W + 1⟩) (mem_chg'.2 ⟨o, ho, by rw [if_pos rfl]⟩) ne ?_
            have hmd := (hrt.h hs).1
            refine blk1 hmd ?_
            unfold blk at hb
            simp only [hs, Int.lt_irrefl, decide_false, Bool.and_false, Bool.false_and, Bool.or_false] at hb
            have hne : (o.md == 0) = false := by simpa using hmd
            simp [hne, hmd] at hb
            exact hb
          · exact no_can (mem_chg'.2 ⟨o, ho, by rw [if_neg eo]⟩) ne hb
        · exact no_can' hsn
/-- A request that holds is given to another transaction. -/
abbrev hnF (txn : Int) (x : Rq) : Rq := ⟨x.id, txn, x.md, x.wt, x.sn⟩
theorem ok_hn {W : Int} {q : List Rq} (h : Ok W q) (r : Rq) (hr : r ∈ q) (txn : Int) (hno : ∀ o ∈ q, o.id ≠ r.id → o.txn ≠ txn) : Ok W (chg (hnF txn) r.id q) := by
  have hrt := h.rt r hr
  refine ok_chg h (Int.le_refl _) h.wB (hnF txn) r hr ⟨hrt.id, hrt.md, hrt.wt, hrt.s0, hrt.sW, hrt.w, hrt.h⟩ ?_ ?_
  · intro a ha ne p
    exact ⟨p.id, hno a ha ne, p.sn, p.ord, p.cp⟩
  · intro b hb ne p
    exact ⟨p.id, fun e => hno b hb ne e.symm, p.sn, p.ord, p.cp⟩
theorem done_hn {q : List Rq} (hd : Done q) (id txn : Int) : Done (chg (hnF txn) id q) := by
  intro x hx
  obtain ⟨s, hs, rfl⟩ := mem_chg'.1 hx
  have key : ∀ r : Rq, (if r.id = id then hnF txn r else r).id = r.id ∧ (if r.id = id then hnF txn r else r).sn = r.sn ∧ (if r.id = id then hnF txn r else r).md = r.md ∧ (if r.id = id then hnF txn r else r).wt = r.wt := fun r => by split <;> exact ⟨rfl, rfl, rfl, rfl⟩
  obtain ⟨k1, k2, k3, k4⟩ := key s
  by_cases h0 : 0 < s.sn
  · obtain ⟨o, ho, ne, hb⟩ := can_no (hd s hs) h0
    obtain ⟨j1, j2, j3, j4⟩ := key o
    refine no_can (mem_chg'.2 ⟨o, ho, rfl⟩) (by rw [j1, k1]; exact ne) ?_
    unfold blk at hb ⊢
    rw [j2, j3, k2, k3, k4]
    exact hb
  · exact no_can' (by rw [k2]; exact h0)

/-! ### The numbers of a queue -/
def idsQ (q : List Rq) : List Int := q.map fun r => r.id
theorem ids_chg (f : Rq → Rq) (id : Int) (q : List Rq) (hf : ∀ r, (f r).id = r.id) : idsQ (chg f id q) = idsQ q := by
  unfold idsQ chg
  rw [List.map_map]
  apply List.map_congr_left
  intro r _
  show (if r.id = id then f r else r).id = r.id
  split
  · exact hf r
  · rfl
theorem ids_ask (W : Int) (q : List Rq) (id txn m : Int) : idsQ (askQ W q id txn m).2.1 = idsQ q ++ [id] := by
  unfold askQ idsQ
  split <;> simp
theorem ids_up (W : Int) (q : List Rq) (r : Rq) (m : Int) : idsQ (upQ W q r m).2.1 = idsQ q := by
  unfold upQ
  split
  · rfl
  · split
    · exact ids_chg _ _ _ fun _ => rfl
    · exact ids_chg _ _ _ fun _ => rfl
theorem ids_scan {W : Int} {q : List Rq} (h : Ok W q) : idsQ (scanQ q).2 = idsQ q := by
  rw [((scan_steps h).1.form h).1]
  unfold idsQ
  rw [List.map_map]
  apply List.map_congr_left
  intro r _
  show (if _ then grtR r else r).id = r.id
  split <;> rfl
theorem ids_lv {W : Int} {q : List Rq} (h : Ok W q) {r : Rq} (hr : r ∈ q) : (r.id :: idsQ (lvQ r.id q)).Perm (idsQ q) := by
  obtain ⟨l, m, e, h1, h2⟩ := h.part hr
  subst e
  rw [lv_mid h1 h2]
  unfold idsQ
  simp only [List.map_append, List.map_cons]
  exact List.perm_middle.symm
theorem ids_ab {W : Int} {q : List Rq} (h : Ok W q) {r : Rq} (hr : r ∈ q) : (r.md = 0 → (r.id :: idsQ (abQ r q)).Perm (idsQ q)) ∧ (r.md ≠ 0 → idsQ (abQ r q) = idsQ q) := by
  unfold abQ
  refine ⟨fun z => ?_, fun z => ?_⟩
  · rw [if_pos z]; exact ids_lv h hr
  · rw [if_neg z]; exact ids_chg _ _ _ fun _ => rfl
theorem fndI {q : List Rq} {id : Int} {r : Rq} (h : fnd q id = some r) : r ∈ q ∧ r.id = id := by
  unfold fnd at h
  exact ⟨List.mem_of_find?_eq_some h, by simpa using List.find?_some h⟩
end Go.Proofs.YtpffldfpabglbaaGreatDoor
end
