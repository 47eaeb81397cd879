/- Texts merged: Rf, QvQ, QvR, QwB, QwC, QwD, QwE, QwF, QwG -/
import Derived.Test.YtmciiobncfchlaaQueueHoldsB10
import Derived.RangeFuncNested
import Derived.RangeFuncBound
import Derived.RangeFuncCalls
import Derived.RangeFuncLeaves
import Derived.Shelf.RegionOpen
import Derived.OwnWalkIn
import Derived.TacticsInMore
import Derived.LoopNIn
import Derived.LoopIn
import Derived.Shelf.Abstract
import Derived.Maps.OwnSet

/- A range over a function that hands out ints and writes memory of its own: the iterator owns a set of blocks, which grows; the loop's body leaves them alone, the iterator leaves all others alone. The function may be a method value. Of no program. -/
section
namespace Go.Proofs.Ytmciiobncfchlaa
open Go.RowKit Go.Shelf

/-- What lies in S lies as it lay. -/
structure KpS (S : Nat → Prop) (A B : World) : Prop where
  size : A.heap.size ≤ B.heap.size
  same : ∀ k, S k → B.heap[k]? = A.heap[k]?
theorem KpS.refl (S : Nat → Prop) (A : World) : KpS S A A := ⟨Nat.le_refl _, fun _ _ => rfl⟩
theorem KpS.trans {S : Nat → Prop} {A B C : World} (h : KpS S A B) (k : KpS S B C) : KpS S A C := ⟨Nat.le_trans h.size k.size, fun i hi => (k.same i hi).trans (h.same i hi)⟩
theorem KpS.mono {S S' : Nat → Prop} {A B : World} (h : KpS S A B) (hs : ∀ k, S' k → S k) : KpS S' A B := ⟨h.size, fun i hi => h.same i (hs i hi)⟩
theorem KpS.tch {S T : Nat → Prop} {A B : World} (h : Tch T A B) (hs : ∀ k, S k → k < A.heap.size ∧ ¬ T k) : KpS S A B := ⟨h.size, fun i hi => h.block i (hs i hi).1 (hs i hi).2⟩
theorem KpS.put {S : Nat → Prop} {A : World} {l : Nat} (o : Obj) (hl : ¬ S l) : KpS S A (A.putObj l o) := ⟨by simp, fun i hi => World.putObj_heap_other (fun e => hl (e ▸ hi))⟩

/-- What an iterator, or the loop's own book-keeping, may do: blocks of S, new blocks, and the loop's two blocks, which are no cells. -/
structure Ch' (n₀ : Nat) (S : Nat → Prop) (A B : World) : Prop where
  os : B.os = A.os
  tape : B.tape = A.tape
  output : B.output = A.output
  size : A.heap.size ≤ B.heap.size
  block : ∀ k, k < A.heap.size → ¬ S k → B.heap[k]? = A.heap[k]? ∨ ((k = n₀ ∨ k = n₀ + 1) ∧ ∃ o, A.heap[k]? = some o ∧ o.isCells = false)
theorem Ch'.of_tch {n₀ : Nat} {S : Nat → Prop} {A B : World} (h : Tch S A B) : Ch' n₀ S A B := ⟨h.os, h.tape, h.output, h.size, fun k hk hn => .inl (h.block k hk hn)⟩
theorem Ch'.put {n₀ : Nat} {S : Nat → Prop} {A : World} {l : Nat} {o : Obj} (o' : Obj) (hn : l = n₀ ∨ l = n₀ + 1) (h : A.heap[l]? = some o) (ho : o.isCells = false) : Ch' n₀ S A (A.putObj l o') :=
  ⟨rfl, rfl, rfl, by simp, fun k _ _ => by
    by_cases e : k = l
    · subst e; exact .inr ⟨hn, o, h, ho⟩
    · exact .inl (World.putObj_heap_other e)⟩
theorem Ch'.cells {n₀ : Nat} {S : Nat → Prop} {A B : World} {k : Nat} {c : Array Value} {t : TypeId} {f : Nat × Nat} (h : Ch' n₀ S A B) (hk : A.heap[k]? = some (.cells c t f)) (hn : ¬ S k) : B.heap[k]? = some (.cells c t f) := by
  rcases h.block k (Array.getElem?_eq_some_iff.1 hk).1 hn with e | ⟨_, o, ho, hc⟩
  · exact e.trans hk
  · rw [hk] at ho; cases ho; cases hc
theorem Ch'.row {n₀ : Nat} {S : Nat → Prop} {A B : World} {v : Value} {n : Nat} {e : TypeId} {size : Nat} {xs : List Value} (h : Ch' n₀ S A B) (hr : A.ownsRow 0 e size v n xs) (hn : ∀ k, v.ownBlock = some k → ¬ S k) : B.ownsRow 0 e size v n xs := by
  refine ⟨hr.1, ?_⟩
  rcases hr.2 with h0 | ⟨g, cap, cur, rfl, hb, hg, rest⟩
  · exact .inl h0
  · exact .inr ⟨g, cap, cur, rfl, hb, h.cells hg (hn g rfl), rest⟩
/-- From w on nothing has changed but blocks of T and what came later. -/
theorem Ch'.tch {n₀ : Nat} {S T : Nat → Prop} {w A B : World} (h : Ch' n₀ S A B) (k : Tch T w A) (hn : w.heap.size ≤ n₀) (hS : ∀ i, i < w.heap.size → S i → T i) : Tch T w B :=
  ⟨h.os.trans k.os, h.tape.trans k.tape, h.output.trans k.output, Nat.le_trans k.size h.size, fun i hi ht => by
    rcases h.block i (Nat.lt_of_lt_of_le hi k.size) (fun e => ht (hS i hi e)) with e | ⟨e, _⟩
    · exact e.trans (k.block i hi ht)
    · omega⟩

/-- The loop's two blocks lie as they lay. -/
def KpD (n₀ : Nat) (A B : World) : Prop := ∀ k, (k = n₀ ∨ k = n₀ + 1) → B.heap[k]? = A.heap[k]?
/-- The iterator's contract. -/
def SeqH (F : Fence) (n : Nat) (P : Program) (g : Nat) (fa lb : Array Value) (xs : List Int) (S0 : Nat → Prop) (End : World → Prop) (w : World) : Prop :=
  ∀ (l : Nat) (J Jx : (Nat → Prop) → List Int → World → Prop) (W : World), Nw w W →
    (∀ S S' pre A B, J S pre A → Tch S A B → (∀ k, S k → S' k) → (∀ k, S' k → S k ∨ A.heap.size ≤ k) → (∀ k, S' k → k < B.heap.size) → J S' pre B) →
    (∀ S S' pre A B, Jx S pre A → Tch S A B → (∀ k, S k → S' k) → (∀ k, S' k → S k ∨ A.heap.size ≤ k) → (∀ k, S' k → k < B.heap.size) → Jx S' pre B) →
    (∀ S pre x A, J S pre A → (∀ k, S0 k → S k) → (∀ k, S k → k < A.heap.size) → (pre ++ [x]) <+: xs → YieldAt F (n - 1) P l #[.int .i64 x] A fun e B =>
      (e = .returned (.bool true) ∧ J S (pre ++ [x]) B ∧ KpS S A B) ∨ (e = .returned (.bool false) ∧ Jx S (pre ++ [x]) B ∧ KpS S A B)) →
    J S0 [] W →
    CallsIn F n P g (fa ++ #[.func (.yield l) #[] #[]] ++ lb) W fun e W' => (∃ v, e = .returned v) ∧ ((∃ S, J S xs W' ∧ End W') ∨ (∃ S pre, pre <+: xs ∧ Jx S pre W'))

/-- How the body of a round may be left. -/
def rfPost (n₀ : Nat) (S : Nat → Prop) (I : (Nat → Prop) → List Int → World → Prop) (Ix : Code → (Nat → Prop) → List Int → World → Prop) (pre : List Int) (A : World) : Exit → Act → World → Prop
  | .normal, _, B => KpD n₀ A B ∧ KpS S A B ∧ I S pre B
  | .ret, _, B => KpD n₀ A B ∧ KpS S A B ∧ Ix .ret S pre B
  | .exit id, _, B => KpD n₀ A B ∧ KpS S A B ∧ Ix (.exit id) S pre B
  | .goto t, _, B => KpD n₀ A B ∧ KpS S A B ∧ Ix (.goto t) S pre B
  | .panic _, _, _ => False
  | .outgrown, _, _ => False

variable {F : Fence} {n : Nat} {P : Program}
theorem rf_law {g : Operand} {ps : Array Tmp} {assign body : Code} {Q : Exit → Act → World → Prop} {a : Act} {w : World}
    (hro : F.round = none) (h1 : 1 ≤ n) {gf : Nat} {fa lb : Array Value} (hg : a.eval g = .func (.func gf) fa lb) (hFg : F.fn gf) (eg : ∀ args w, (callFunc gf args).run P w = .ok (.enter gf args) w)
    {xs : List Int} {S0 : Nat → Prop} {End : World → Prop} (hS0 : ∀ k, S0 k → k < w.heap.size) (hseq : SeqH F (n - 1) P gf fa lb xs S0 End w) (hps : ps.size = 1)
    (hEnd : ∀ (A : World) (l : Nat) (o o' : Obj), w.heap.size ≤ l → A.heap[l]? = some o → o.isCells = false → End A → End (A.putObj l o'))
    (I : (Nat → Prop) → List Int → World → Prop) (Ix : Code → (Nat → Prop) → List Int → World → Prop)
    (hI : ∀ S S' pre A B, I S pre A → Ch' w.heap.size S A B → (∀ k, S k → S' k) → (∀ k, S' k → S k ∨ A.heap.size ≤ k) → (∀ k, S' k → k < B.heap.size) → I S' pre B)
    (hIx : ∀ c S S' pre A B, Ix c S pre A → Ch' w.heap.size S A B → (∀ k, S k → S' k) → (∀ k, S' k → S k ∨ A.heap.size ≤ k) → (∀ k, S' k → k < B.heap.size) → Ix c S' pre B)
    (h0 : I S0 [] w) (a₁ : Int → Act)
    (hassign : ∀ (l : Nat) (x : Int) (A : World) (K : Act → World → Prop), K (a₁ x) A →
      assign.wpIn (F.inRound l) (n - 1 - 1) P (Exit.then K (fun _ _ _ => False)) { tmps := (ps.zip #[.int .i64 x]).foldl (fun t (p, v) => t.setIfInBounds p v) a.tmps, defers := [] } A)
    (hbody : ∀ (l : Nat) (S : Nat → Prop) (pre : List Int) (x : Int) (A : World), I S pre A → (∀ k, S0 k → S k) → (∀ k, S k → k < A.heap.size) → (∀ k, (k = w.heap.size ∨ k = w.heap.size + 1) → ¬ S k ∧ ∃ o, A.heap[k]? = some o ∧ o.isCells = false) →
      (pre ++ [x]) <+: xs → body.wpIn (F.inRound l) (n - 1 - 1) P (rfPost w.heap.size S I Ix (pre ++ [x]) A) (a₁ x) A)
    (hdone : ∀ (D : Nat) (S : Nat → Prop) (W : World), D = w.heap.size → (∀ k, S k → k < W.heap.size) → I S xs W → End W → W.heap[D]? = some (.deferred (some [])) → Q .normal { a with defers := { target := .collected D, args := #[] } :: a.defers } W)
    (hstop : ∀ (D : Nat) (c : Code) (S : Nat → Prop) (pre : List Int) (W : World), D = w.heap.size → pre <+: xs → Ix c S pre W → W.heap[D]? = some (.deferred (some [])) → c.wpIn F n P Q { a with defers := { target := .collected D, args := #[] } :: a.defers } W) :
    (Code.rangeFunc g ps assign body).wpIn F n P Q a w := by
  refine wpIn_rangeFunc ?_
  intro fn hfn
  rw [hro]
  obtain ⟨rec, hrec⟩ : ∃ rec : LoopState → Option Code → Loop, rec = fun st pe => { state := st, pending := pe, fn, tmps := a.tmps, params := ps, assign, body, defers := w.heap.size } := ⟨_, rfl⟩
  obtain ⟨W1, hW1⟩ : ∃ W1, (w.alloc (.deferred (some []))).alloc (.loop (rec .ready none)) = W1 := ⟨_, rfl⟩
  have hL1 : W1.heap[w.heap.size + 1]? = some (.loop (rec .ready none)) := by
    rw [← hW1]; have := World.alloc_heap_new (w.alloc (.deferred (some []))) (.loop (rec .ready none)); rwa [World.size_alloc] at this
  have hK1 : W1.heap[w.heap.size]? = some (.deferred (some [])) := by
    rw [← hW1]; exact (Below.heap_alloc _ _ _ (by simp)).trans (World.alloc_heap_new w _)
  have hb1 : Nw w W1 := by rw [← hW1]; exact ((Nw.refl w).alloc _).alloc _
  have hI1 : I S0 [] W1 := hI S0 S0 [] w W1 h0 (Ch'.of_tch (Tch.nw hb1)) (fun _ e => e) (fun _ e => .inl e) (fun k e => Nat.lt_of_lt_of_le (hS0 k e) hb1.sz)
  refine ⟨w.heap.size + 1, [{ target := .collected w.heap.size, args := #[] }], W1, { target := .fn (.func gf) lb, args := fa ++ #[.func (.yield (w.heap.size + 1)) #[] #[]] }, W1, gf,
    fa ++ #[.func (.yield (w.heap.size + 1)) #[] #[]] ++ lb, W1, ?_, ?_, ?_, ?_, fun _ => h1, ?_⟩
  · rw [← hW1, hrec]; exact run_enterLoop_outer _ _ _ _ _
  · simp only [resolve, hg]
    simp [go_sem]
  · intro f' hf'; simp [Target.leads] at hf'; subst hf'; exact hFg
  · simp [invoke, go_sem, eg]
  · have lt_of : ∀ {A : World} {k : Nat} {o : Obj}, A.heap[k]? = some o → k < A.heap.size := fun h => (Array.getElem?_eq_some_iff.1 h).1
    refine (hseq (w.heap.size + 1)
      (fun S pre W => I S pre W ∧ W.heap[w.heap.size + 1]? = some (.loop (rec .ready none)) ∧ W.heap[w.heap.size]? = some (.deferred (some [])) ∧ ¬ S (w.heap.size + 1) ∧ ¬ S w.heap.size ∧ (∀ k, S k → k < W.heap.size))
      (fun S pre W => ∃ c, Ix c S pre W ∧ W.heap[w.heap.size + 1]? = some (.loop (rec .done (some c))) ∧ W.heap[w.heap.size]? = some (.deferred (some [])) ∧ ¬ S (w.heap.size + 1) ∧ ¬ S w.heap.size ∧ (∀ k, S k → k < W.heap.size))
      W1 hb1 ?_ ?_ ?_ ⟨hI1, hL1, hK1, fun e => by have := hS0 _ e; omega, fun e => by have := hS0 _ e; omega, fun k e => Nat.lt_of_lt_of_le (hS0 k e) hb1.sz⟩).mono ?_
    · rintro S S' pre A B ⟨hi, hl, hk, hn1, hn2, hbd⟩ ht hs1 hs2 hs3
      exact ⟨hI S S' pre A B hi (Ch'.of_tch ht) hs1 hs2 hs3, (ht.block _ (lt_of hl) hn1).trans hl, (ht.block _ (lt_of hk) hn2).trans hk,
        fun e => (hs2 _ e).elim hn1 (fun h => by have := lt_of hl; omega), fun e => (hs2 _ e).elim hn2 (fun h => by have := lt_of hk; omega), hs3⟩
    · rintro S S' pre A B ⟨c, hi, hl, hk, hn1, hn2, hbd⟩ ht hs1 hs2 hs3
      exact ⟨c, hIx c S S' pre A B hi (Ch'.of_tch ht) hs1 hs2 hs3, (ht.block _ (lt_of hl) hn1).trans hl, (ht.block _ (lt_of hk) hn2).trans hk,
        fun e => (hs2 _ e).elim hn1 (fun h => by have := lt_of hl; omega), fun e => (hs2 _ e).elim hn2 (fun h => by have := lt_of hk; omega), hs3⟩
    · -- one round
      rintro S pre x W ⟨hi, hl, hk, hn1, hn2, hbd⟩ hsub hex hpre
      have hy := run_yield (P := P) (args := #[.int .i64 x]) hl (by rw [hrec]; exact hps.symm)
      rw [hrec] at hy
      refine ⟨fn, _, assign, body, hy, roundIn_of_wpIn hfn (hassign _ x W _ ?_)⟩
      clear hy
      have nw1 : Nw W W := Nw.refl W
      have hl1 : W.heap[w.heap.size + 1]? = some (.loop (rec .ready none)) := (nw1.block _ (lt_of hl)).trans hl
      have hk1 : W.heap[w.heap.size]? = some (.deferred (some [])) := (nw1.block _ (lt_of hk)).trans hk
      have hlW := lt_of hl
      have hi1 : I S pre W := hI S S pre W W hi (Ch'.of_tch (Tch.nw nw1)) (fun _ e => e) (fun _ e => .inl e) (fun k e => Nat.lt_of_lt_of_le (hex k e) nw1.sz)
      refine ⟨_, run_beginRound hl1 (by rw [hrec]), ?_⟩
      obtain ⟨A2, hA2⟩ : ∃ A2, W.putObj (w.heap.size + 1) (.loop { rec .ready none with state := .busy }) = A2 := ⟨_, rfl⟩
      rw [hA2]
      have hl2 : A2.heap[w.heap.size + 1]? = some (.loop { rec .ready none with state := .busy }) := by rw [← hA2]; exact World.putObj_heap_same (lt_of hl1)
      have hk2 : A2.heap[w.heap.size]? = some (.deferred (some [])) := by rw [← hA2]; exact (World.putObj_heap_other (by omega)).trans hk1
      have hi2 : I S pre A2 := by rw [← hA2]; exact hI S S pre W _ hi1 (Ch'.put _ (.inr rfl) hl1 rfl) (fun _ e => e) (fun _ e => .inl e) (fun k e => by rw [World.putObj_size]; exact Nat.lt_of_lt_of_le (hex k e) nw1.sz)
      have hsz2 : W.heap.size ≤ A2.heap.size := by rw [← hA2]; simp
      have kps : KpS S W A2 := by
        rw [← hA2]
        exact (KpS.tch (Tch.nw (S := fun _ => False) nw1) (fun k e => ⟨hex k e, fun h => h⟩)).trans (KpS.put _ hn1)
      refine wpIn_mono (hbody _ S pre x A2 hi2 hsub (fun k e => Nat.lt_of_lt_of_le (hex k e) hsz2) (fun k e => by
        rcases e with rfl | rfl
        · exact ⟨hn2, _, hk2, rfl⟩
        · exact ⟨hn1, _, hl2, rfl⟩) hpre) ?_
      have fin : ∀ (jump : Option Code) (W3 : World), KpD w.heap.size A2 W3 →
          (Instr.endRound (w.heap.size + 1) jump).run P W3 = .ok (.bool jump.isNone) (W3.putObj (w.heap.size + 1) (.loop (rec (if jump.isNone then .ready else .done) jump))) ∧
          W3.heap[w.heap.size + 1]? = some (.loop { rec .ready none with state := .busy }) ∧
          (W3.putObj (w.heap.size + 1) (.loop (rec (if jump.isNone then .ready else .done) jump))).heap[w.heap.size + 1]? = some (.loop (rec (if jump.isNone then .ready else .done) jump)) ∧
          (W3.putObj (w.heap.size + 1) (.loop (rec (if jump.isNone then .ready else .done) jump))).heap[w.heap.size]? = some (.deferred (some [])) := fun jump W3 hk3 => by
        have hl3 := (hk3 _ (.inr rfl)).trans hl2
        have := run_endRound (P := P) jump hl3
        rw [hrec] at this ⊢
        exact ⟨this, by rw [hrec] at hl3; exact hl3, World.putObj_heap_same (lt_of hl3), (World.putObj_heap_other (by omega)).trans ((hk3 _ (.inl rfl)).trans hk2)⟩
      have b3 : ∀ {W3 : World}, KpS S A2 W3 → ∀ {jj : Obj} (k : Nat), S k → k < (W3.putObj (w.heap.size + 1) jj).heap.size := fun h3 _ k e => by rw [World.putObj_size]; exact Nat.lt_of_lt_of_le (hex k e) (kps.trans h3).size
      rintro e a3 W3 hp
      cases e with
      | normal =>
        obtain ⟨hk3, hkp3, hi3⟩ := hp
        obtain ⟨hr, hl3, hl4, hk4⟩ := fin none W3 hk3
        exact ⟨_, _, hr, .inl ⟨rfl, ⟨hI S S _ W3 _ hi3 (Ch'.put _ (.inr rfl) hl3 rfl) (fun _ e => e) (fun _ e => .inl e) (b3 hkp3), hl4, hk4, hn1, hn2, b3 hkp3⟩, (kps.trans hkp3).trans (KpS.put _ hn1)⟩⟩
      | ret =>
        obtain ⟨hk3, hkp3, hi3⟩ := hp
        obtain ⟨hr, hl3, hl4, hk4⟩ := fin (some .ret) W3 hk3
        exact ⟨_, _, hr, .inr ⟨rfl, ⟨.ret, hIx _ S S _ W3 _ hi3 (Ch'.put _ (.inr rfl) hl3 rfl) (fun _ e => e) (fun _ e => .inl e) (b3 hkp3), hl4, hk4, hn1, hn2, b3 hkp3⟩, (kps.trans hkp3).trans (KpS.put _ hn1)⟩⟩
      | exit id =>
        obtain ⟨hk3, hkp3, hi3⟩ := hp
        obtain ⟨hr, hl3, hl4, hk4⟩ := fin (some (.exit id)) W3 hk3
        exact ⟨_, _, hr, .inr ⟨rfl, ⟨.exit id, hIx _ S S _ W3 _ hi3 (Ch'.put _ (.inr rfl) hl3 rfl) (fun _ e => e) (fun _ e => .inl e) (b3 hkp3), hl4, hk4, hn1, hn2, b3 hkp3⟩, (kps.trans hkp3).trans (KpS.put _ hn1)⟩⟩
      | goto t =>
        obtain ⟨hk3, hkp3, hi3⟩ := hp
        obtain ⟨hr, hl3, hl4, hk4⟩ := fin (some (.goto t)) W3 hk3
        exact ⟨_, _, hr, .inr ⟨rfl, ⟨.goto t, hIx _ S S _ W3 _ hi3 (Ch'.put _ (.inr rfl) hl3 rfl) (fun _ e => e) (fun _ e => .inl e) (b3 hkp3), hl4, hk4, hn1, hn2, b3 hkp3⟩, (kps.trans hkp3).trans (KpS.put _ hn1)⟩⟩
      | panic ch => exact hp.elim
      | outgrown => exact hp.elim
    · -- behind the iterator
      rintro e W2 ⟨⟨v, rfl⟩, (⟨S, ⟨hi, hl, hk, hn1, hn2, hbd⟩, hE⟩ | ⟨S, pre, hp, c, hi, hl, hk, hn1, hn2, hbd⟩)⟩
      · exact ⟨none, _, by have := run_endLoop (P := P) hl (by rw [hrec]; simp); rw [hrec] at this; exact this,
          hdone _ S _ rfl (fun k e => by rw [World.putObj_size]; exact hbd k e) (hI S S _ W2 _ hi (Ch'.put _ (.inr rfl) hl rfl) (fun _ e => e) (fun _ e => .inl e) (fun k e => by rw [World.putObj_size]; exact hbd k e)) (hEnd _ _ _ _ (by omega) hl rfl hE) ((World.putObj_heap_other (by omega)).trans hk)⟩
      · exact ⟨some c, _, by have := run_endLoop (P := P) hl (by rw [hrec]; simp); rw [hrec] at this; exact this,
          hstop _ c S pre _ rfl hp (hIx c S S _ W2 _ hi (Ch'.put _ (.inr rfl) hl rfl) (fun _ e => e) (fun _ e => .inl e) (fun k e => by rw [World.putObj_size]; exact hbd k e)) ((World.putObj_heap_other (by omega)).trans hk)⟩
end Go.Proofs.Ytmciiobncfchlaa
end

/- AppendSeq, Collect of ints. -/
section
namespace Go.Proofs.Ytmciiobncfchlaa
open Go.RowKit Go.Shelf
attribute [local go_sem] Oper.semAt_some

theorem cell_isCells {w : World} {a : Addr} {v : Value} (h : w.cell? a = some v) : ∃ o : Obj, w.heap[a.block]? = some o ∧ o.isCells = true := by
  unfold World.cell? at h
  cases ho : w.heap[a.block]? with
  | none => simp [ho] at h
  | some o => exact ⟨o, rfl, by cases o <;> simp_all [Obj.isCells]⟩
theorem Ch'.same {n₀ : Nat} {S : Nat → Prop} {A B : World} {a : Addr} {v : Value} (h : Ch' n₀ S A B) (hc : A.cell? a = some v) (hn : ¬ S a.block) : B.heap[a.block]? = A.heap[a.block]? := by
  obtain ⟨o, ho, hco⟩ := cell_isCells hc
  rcases h.block a.block (Array.getElem?_eq_some_iff.1 ho).1 hn with e | ⟨_, o', ho', hc'⟩
  · exact e
  · rw [ho] at ho'; cases ho'; rw [hco] at hc'; cases hc'
theorem SeqH.later {F : Fence} {n : Nat} {P : Program} {g : Nat} {fa lb : Array Value} {xs : List Int} {S0 : Nat → Prop} {End : World → Prop} {w w' : World} (h : SeqH F n P g fa lb xs S0 End w) (k : Nw w w') : SeqH F n P g fa lb xs S0 End w' :=
  fun l J Jx W hW => h l J Jx W (k.trans hW)
theorem wpListIn_append_run {F : Fence} {n : Nat} {P : Program} {w : World} {ops : Array Oper} {rest : List Oper} {o : Oper} {a : Act} {Q : Exit → Act → World → Prop}
    (hg : o.guard = none) (s x : Operand) (t : TypeId) (hop : o.op = Op.call { callee := Callee.builtin Builtin.append, args := #[s, x], argTypes := #[t, t] })
    (v u v' : Value) (w' : World) (hs : a.eval s = v) (hx : a.eval x = u) (hr : (Builtin.append_ #[t, t] o.type #[v, u]).run P w = .ok v' w') (h : wpListIn F n P ops Q rest (a.put o.dst v') w') : wpListIn F n P ops Q (o :: rest) a w := by
  refine wpListIn_plain hg fun K hK' => ?_
  unfold Oper.wpIn
  refine ⟨?_, ?_⟩
  · simp [Oper.about, hop, resolve, Target.leads, Sem.run_pure]
  · rw [Oper.semAt_plain F _ _ (by rw [hop]; intro c hc'; cases hc')]
    simp [execOp, hop, resolve, invoke, builtin, hs, hx, hr, Result.andThen]
    exact hK' _ _ h
theorem keepsD {a n₀ : Nat} {A B : World} (h : KeepsFrom a A B) (k : a ≤ n₀) (hn : ∀ k, (k = n₀ ∨ k = n₀ + 1) → ∃ o, A.heap[k]? = some o ∧ o.isCells = false) : KpD n₀ A B := fun i hi => by
  obtain ⟨o, ho, hc⟩ := hn i hi
  exact (h.same i o (by omega) ho hc).trans ho.symm
/-- What AppendSeq holds between two rounds. -/
def AsI (w : World) (S0 : Nat → Prop) (S : Nat → Prop) (pre : List Int) (A : World) : Prop :=
  ∃ v, A.cell? ⟨w.heap.size, 0, none⟩ = some v ∧ A.frozen? ⟨w.heap.size, 0, none⟩ = false ∧ IS A v pre ∧ (∀ k, v.ownBlock = some k → w.heap.size < k ∧ ¬ S k) ∧ ¬ S w.heap.size ∧ (∀ k, S k → S0 k ∨ w.heap.size ≤ k) ∧ Tch S0 w A
theorem AsI.step {w : World} {n₀ : Nat} {S0 S S' : Nat → Prop} {pre : List Int} {A B : World} (hn : w.heap.size ≤ n₀) (h : AsI w S0 S pre A) (k : Ch' n₀ S A B) (_h1 : ∀ k, S k → S' k) (h2 : ∀ k, S' k → S k ∨ A.heap.size ≤ k) : AsI w S0 S' pre B := by
  obtain ⟨v, a0, af, a1, a2, a3, a4, a5⟩ := h
  have e := k.same a0 a3
  refine ⟨v, (World.cell?_of_block e).trans a0, (World.frozen?_of_block e).trans af, k.row a1 (fun g e => (a2 g e).2), fun g e => ⟨(a2 g e).1, fun hs => ?_⟩, fun hs => ?_, fun i hs => ?_, k.tch a5 hn (fun i hi hs => (a4 i hs).resolve_right (by omega))⟩
  · rcases h2 g hs with h | h
    · exact (a2 g e).2 h
    · have := a1.lt e; omega
  · rcases h2 _ hs with h | h
    · exact a3 h
    · have := World.block_lt_of_cell? _ _ a0; simp only at this; omega
  · rcases h2 i hs with h | h
    · exact a4 i h
    · exact .inr (Nat.le_trans a5.size h)
/-- An append in a round. -/
theorem AsI.push {w : World} {S0 S : Nat → Prop} {pre : List Int} {x : Int} {A w1 : World} {v v' : Value} (a0 : A.cell? ⟨w.heap.size, 0, none⟩ = some v) (af : A.frozen? ⟨w.heap.size, 0, none⟩ = false) (a1 : IS A v pre) (a2 : ∀ k, v.ownBlock = some k → w.heap.size < k ∧ ¬ S k) (a3 : ¬ S w.heap.size) (a4 : ∀ k, S k → S0 k ∨ w.heap.size ≤ k) (a5 : Tch S0 w A)
    (hex : ∀ k, S k → k < A.heap.size) (p1 : IS w1 v' (pre ++ [x])) (p2 : Tch (fun k => v.ownBlock = some k) A w1) (p3 : ∀ k, v'.ownBlock = some k → v.ownBlock = some k ∨ A.heap.size ≤ k) :
    w1.cell? ⟨w.heap.size, 0, none⟩ = some v ∧ w1.frozen? ⟨w.heap.size, 0, none⟩ = false ∧ AsI w S0 S (pre ++ [x]) (w1.setCell ⟨w.heap.size, 0, none⟩ v') ∧ KpS S A (w1.setCell ⟨w.heap.size, 0, none⟩ v') ∧ KeepsFrom w.heap.size A (w1.setCell ⟨w.heap.size, 0, none⟩ v') := by
  have hbl := World.block_lt_of_cell? _ _ a0
  simp only at hbl
  have hnv : v.ownBlock ≠ some w.heap.size := fun e => by have := (a2 _ e).1; omega
  have c1 : w1.cell? ⟨w.heap.size, 0, none⟩ = some v := (p2.cell hbl hnv).trans a0
  have f1 : w1.frozen? ⟨w.heap.size, 0, none⟩ = false := (p2.froz hbl hnv).trans af
  have p4 : Tch (fun k => v.ownBlock = some k ∨ k = w.heap.size) A (w1.setCell ⟨w.heap.size, 0, none⟩ v') := (p2.mono (fun _ _ e => .inl e)).set (p := ⟨w.heap.size, 0, none⟩) (.inl (.inr rfl)) v'
  have hne : ∀ k, v'.ownBlock = some k → k ≠ w.heap.size := fun k e q => by
    rcases p3 k e with h | h
    · have := (a2 k h).1; omega
    · omega
  have hI : IS (w1.setCell ⟨w.heap.size, 0, none⟩ v') v' (pre ++ [x]) := p1.tch (setCell_at w1 ⟨w.heap.size, 0, none⟩ v') (fun g e q => hne g e q)
  refine ⟨c1, f1, ⟨v', ?_, ?_, hI, fun k e => ?_, a3, a4, a5.trans' p4 fun i hi e => ?_⟩, KpS.tch p4 fun k e => ⟨hex k e, fun q => ?_⟩, ⟨p4.size, fun k o hk h0 ho => ?_⟩⟩
  · exact World.cell?_setCell_same _ _ _ c1
  · rw [World.frozen?_setCell]; exact f1
  · rcases p3 k e with h | h
    · exact a2 k h
    · exact ⟨by omega, fun q => by have := hex k q; omega⟩
  · rcases e with e | rfl
    · have := (a2 i e).1; omega
    · omega
  · rcases q with q | rfl
    · exact (a2 k q).2 e
    · exact a3 e
  · refine (p4.block k (Array.getElem?_eq_some_iff.1 h0).1 ?_).trans h0
    rintro (e | rfl)
    · rcases a1.form with ⟨rfl, _⟩ | ⟨g, cap, rfl⟩
      · simp [Value.ownBlock] at e
      · rcases a1.2 with ⟨h', _⟩ | ⟨g2, cap2, cur, h', _, hg, _⟩
        · simp at h'
        · simp only [Value.slice.injEq, Option.some.injEq, Addr.mk.injEq, and_true, true_and] at h'
          obtain ⟨rfl, rfl⟩ := h'
          simp [Value.ownBlock] at e
          subst e
          rw [h0] at hg; cases hg; cases ho
    · obtain ⟨o', ho', hc'⟩ := cell_isCells a0
      rw [h0] at ho'; cases ho'; rw [ho] at hc'; cases hc'
def AsPost (w : World) (S0 : Nat → Prop) (End : World → Prop) (xs : List Int) (e : Ending) (W : World) : Prop :=
  ∃ v, e = .returned v ∧ IS W v xs ∧ (∀ k, v.ownBlock = some k → w.heap.size ≤ k) ∧ End W ∧ Tch S0 w W
set_option maxRecDepth 100000 in
set_option maxHeartbeats 4000000 in
theorem appendSeq_in (n : Nat) (hn : 3 ≤ n) (gf : Nat) (fa lb : Array Value) (eg : ∀ args w, (callFunc gf args).run Try.prog w = .ok (.enter gf args) w) (xs : List Int) (S0 : Nat → Prop) (End : World → Prop) (w : World) (hsm : xs.length ≤ 100000)
    (hS0 : ∀ k, S0 k → k < w.heap.size) (hseq : SeqH Fence.wide (n - 1) Try.prog gf fa lb xs S0 End w) (hEnd : ∀ (A : World) (l : Nat) (o o' : Obj), w.heap.size ≤ l → A.heap[l]? = some o → o.isCells = false → End A → End (A.putObj l o')) :
    CallsIn Fence.wide n Try.prog 77 #[.slice none 0 0, .func (.func gf) fa lb] w (AsPost w S0 End xs) := by
  have h1 : 1 ≤ n := by omega
  refine callsIn_of_wp_marks Try.func77 rfl trivial ?_ rfl
  simp only [Try.ntmps77, List.size_toArray, List.length_cons, List.length_nil, Nat.reduceAdd, Nat.reduceSub, Array.replicate_succ, Array.replicate_zero, List.push_toArray, List.append_toArray, List.nil_append, List.cons_append]
  gi_wp2
  have hA0 : AsI w S0 S0 [] (w.alloc (.cells #[.slice none 0 0] 36)) :=
    ⟨.slice none 0 0, by simp [go_sem], by simp [go_sem], World.ownsRow_nil _ _ _ _, fun k e => by simp [Value.ownBlock] at e, fun e => by have := hS0 _ e; omega, fun k e => .inl e, (Tch.refl _ _).alloc _⟩
  have hsz : (w.alloc (.cells #[.slice none 0 0] 36)).heap.size = w.heap.size + 1 := by simp
  have hnw : Nw w (w.alloc (.cells #[.slice none 0 0] 36)) := (Nw.refl w).alloc _
  obtain ⟨W0, hW0⟩ : ∃ W0, w.alloc (.cells #[.slice none 0 0] 36) = W0 := ⟨_, rfl⟩
  rw [hW0] at hA0 hsz hnw ⊢
  clear hW0
  refine rf_law rfl h1 (gf := gf) (fa := fa) (lb := lb) rfl trivial eg (S0 := S0) (End := End) (xs := xs) (fun k e => by have := hS0 k e; omega) (hseq.later hnw) rfl (fun A l o o' hl => hEnd A l o o' (by omega))
    (AsI w S0) (fun _ _ _ _ => False) (fun S S' pre A B hi hc e1 e2 _ => hi.step (by omega) hc e1 e2) (fun _ _ _ _ _ _ h _ _ _ _ => h) hA0
    (fun x => { tmps := #[.slice none 0 0, .func (.func gf) fa lb, .pointer (some ⟨w.heap.size, 0, none⟩), undef, .slice none 0 0, .int .i64 x, .func (.func gf) fa lb, .int .i64 x, undef, undef, undef, undef, undef], defers := [] }) ?assign ?body ?done ?stop
  case assign =>
    intro l x A K hK
    gi_wp2
    exact hK
  case body =>
    intro l S pre x A hi hsub hex hnc hpre
    obtain ⟨v, a0, af, a1, a2, a3, a4, a5⟩ := hi
    have hln : pre.length + 1 ≤ xs.length := by have := hpre.length_le; simpa using this
    obtain ⟨v', w1, hr, q1, q2, q3, ⟨g', cap', hv'⟩⟩ := IS.push A v pre x a1 (by omega)
    have HR := Lib.hid hr
    have HE0 := AsI.push a0 af a1 a2 a3 a4 a5 hex q1 q2 q3
    have hlt := World.block_lt_of_cell? _ _ a0
    have hf := a1.form
    have HN := Lib.hid hnc
    have c1 := HE0.1
    have f1 := HE0.2.1
    have HE := Lib.hid HE0.2.2
    have hlt1 := World.block_lt_of_cell? _ _ c1
    subst hv'
    clear hr q1 q2 q3 af a1 a2 a3 a4 a5 hex hsub hnc hpre hseq hEnd hA0 HE0
    have HSZ := Lib.hid hsz
    clear hsz
    rcases hf with ⟨rfl, hp0⟩ | ⟨g, cap, rfl⟩
    all_goals
      try clear hp0
      gi_wp2_with (gi_at_builtin; refine wpListIn_append_run rfl (.tmp 8) (.tmp 10) 36 rfl _ _ _ _ rfl rfl HR.out ?_)
      exact ⟨keepsD HE.out.2.2 (by have := HSZ.out; omega) (fun k e => (HN.out k e).2), HE.out.2.1, HE.out.1⟩
  case done =>
    intro D S W hD _ hi hE hK
    obtain ⟨v, a0, af, a1, a2, a3, a4, a5⟩ := hi
    have hlt := World.block_lt_of_cell? _ _ a0
    have HE : Hid (AsPost w S0 End xs (.returned v) (W.putObj D (.deferred none))) := by
      have hc : Ch' D (fun _ => False) W (W.putObj D (.deferred none)) := Ch'.put _ (.inl rfl) hK rfl
      exact ⟨v, rfl, hc.row a1 (fun _ _ e => e), fun k e => Nat.le_of_lt (a2 k e).1, hEnd W D _ _ (by omega) hK rfl hE, hc.tch a5 (by omega) (fun _ _ e => e.elim)⟩
    have hf := a1.form
    clear hseq hEnd hA0 a1 a2 a3 a4 a5 hE hS0 hD
    have HSZ := Lib.hid hsz
    clear hsz
    rcases hf with ⟨rfl, hp0⟩ | ⟨g, cap, rfl⟩
    all_goals
      try clear hp0
      gi_wp2
      refine ⟨by simp, .inl ⟨_, _, rfl, run_takeDeferred hK, ?_⟩⟩
      exact ⟨_, results_tmp (t := 4) rfl _ _ _, HE.out⟩
  case stop =>
    intro D c S pre W _ _ h _
    exact h.elim
theorem collect_any (gf : Nat) (fa lb : Array Value) (eg : ∀ args w, (callFunc gf args).run Try.prog w = .ok (.enter gf args) w) (xs : List Int) (S0 : Nat → Prop) (End : World → Prop) (w : World) (hsm : xs.length ≤ 100000)
    (hS0 : ∀ k, S0 k → k < w.heap.size) (hseq : SeqH Fence.wide 4 Try.prog gf fa lb xs S0 End w) (hEnd : ∀ (A : World) (l : Nat) (o o' : Obj), w.heap.size ≤ l → A.heap[l]? = some o → o.isCells = false → End A → End (A.putObj l o')) :
    Calls Try.prog 45 #[.func (.func gf) fa lb] w (AsPost w S0 End xs) := by
  have H := Lib.hid (callsIn_wide.1 (appendSeq_in 5 (by omega) gf fa lb eg xs S0 End w hsm hS0 hseq hEnd))
  clear hseq hEnd hS0
  go_enter Try.func45, Try.ntmps45
  go_wp2_with fail
  refine H.out.mono ?_
  rintro e w1 h
  obtain ⟨v, rfl, h⟩ := h
  have HP := Lib.hid h
  clear h
  go_wp2
  go_ret
  exact ⟨v, rfl, HP.out⟩
end Go.Proofs.Ytmciiobncfchlaa
end

/- The developers' package queue: grants, an iterator; Scan. -/
section
namespace Go.Proofs.Ytmciiobncfchlaa
open Go.RowKit Go.Shelf Go.Maps Go.ChangeMaps
attribute [local go_sem] Oper.semAt_some
set_option linter.unusedVariables false

theorem e_grants : ∀ args w, (callFunc 46 args).run Try.prog w = .ok (.enter 46 args) w := enters_of Try.func46 (by kernel_rfl) rfl
theorem rq_int_ne : 41 ≠ 3 := by decide
def SL (p b : Nat) (v : Value) : Nat → Prop := fun k => k = p ∨ k = b ∨ v.ownBlock = some k
theorem Ln.bound {w : World} {g0 p : Nat} {t r W : Int} {v : Value} {b n : Nat} {q : List Rq} {c : Int → Int} (h : Ln w g0 p t r W v b n q c) : ∀ k, SL p b v k → k < w.heap.size := by
  rintro k (rfl | rfl | e)
  · exact hlt h.obj
  · exact h.map.lt
  · exact olt h.own e
theorem Ln.kps {S : Nat → Prop} {A B : World} {g0 p : Nat} {t r W : Int} {v : Value} {b n : Nat} {q : List Rq} {c : Int → Int} (h : Ln A g0 p t r W v b n q c) (k : KpS S A B) (hS : ∀ i, SL p b v i → S i) : Ln B g0 p t r W v b n q c := by
  refine ⟨(k.same p (hS p (.inl rfl))).trans h.obj, ?_, ?_, h.gp, h.gb⟩
  · refine ⟨h.own.1, ?_⟩
    rcases h.own.2 with e | ⟨g, cap, cur, rfl, hb, hg, rest⟩
    · exact .inl e
    · exact .inr ⟨g, cap, cur, rfl, hb, (k.same g (hS g (.inr (.inr rfl)))).trans hg, rest⟩
  · obtain ⟨D, ⟨es, cl, hb, F, hs, hD⟩, h2, h3⟩ := h.map
    exact ⟨D, ⟨es, cl, (k.same b (hS b (.inr (.inl rfl)))).trans hb, F, hs, hD⟩, h2, h3⟩
theorem IS.kps {S : Nat → Prop} {A B : World} {v : Value} {l : List Int} (h : IS A v l) (k : KpS S A B) (hS : ∀ g, v.ownBlock = some g → S g) : IS B v l := by
  refine ⟨h.1, ?_⟩
  rcases h.2 with e | ⟨g, cap, cur, rfl, hb, hg, rest⟩
  · exact .inl e
  · exact .inr ⟨g, cap, cur, rfl, hb, (k.same g (hS g rfl)).trans hg, rest⟩
/-- What holds between two grants. -/
structure GrI (J : (Nat → Prop) → List Int → World → Prop) (S : Nat → Prop) (g0 p : Nat) (t r W : Int) (v : Value) (b n : Nat) (q : List Rq) (T : List Int) (vt : Value) (i : Nat) (pre : List Int) (q' : List Rq) (wr : World) : Prop where
  j : J S pre wr
  bd : ∀ k, S k → k < wr.heap.size
  row : IS wr vt T
  st : Steps q pre q'
  ti : TInv q q' T i
  ln : ∃ n', n' ≤ n + 2 * i ∧ Ln wr g0 p t r W v b n' q' (cntQ q')
def EndL (g0 p : Nat) (t r W : Int) (v : Value) (b : Nat) (q : List Rq) (w : World) : Prop := ∃ n', Ln w g0 p t r W v b n' q (cntQ q)
set_option maxRecDepth 100000 in
set_option maxHeartbeats 4000000 in
theorem grants_in (m : Nat) (hm : 1 ≤ m) (g0 p b n : Nat) (t r W : Int) (v : Value) (q : List Rq) (w : World) (h : Ln w g0 p t r W v b n q (cntQ q)) (hok : Ok W q) (hl : q.length ≤ 1000) (hn : n ≤ 2000) (hst : StOk (tC q) (wpl q q.length)) :
    SeqH Fence.wide m Try.prog 46 #[.pointer (some ⟨p, 0, none⟩)] #[] (scanQ q).1 (SL p b v) (EndL g0 p t r W v b (scanQ q).2) w := by
  intro L J Jx W0 hW hJ hJx hY h0
  have hL0 := h.nw hW
  have HTu := Lib.hid (dTurns hL0 hl hst)
  have hTk := tok_of hok hst
  obtain ⟨T, hT⟩ : ∃ T, stR (tC q) (wpl q q.length) = T := ⟨_, rfl⟩
  rw [hT] at HTu hTk
  have hTl : T.length ≤ 1000 := by rw [← hT, (stR_perm (tC q) _).length_eq]; have := wpl_len q q.length; omega
  have HJ := Lib.hid hJ
  have HY := Lib.hid hY
  have H0 := Lib.hid (And.intro h0 (And.intro hL0 (And.intro hok hTk)))
  clear h hW hJ hJx hY h0 hL0 hok hTk hT hst
  refine callsIn_of_wp Try.func46 rfl trivial ?_ rfl
  simp only [Try.ntmps46, List.size_toArray, List.length_cons, List.length_nil, Nat.reduceAdd, Nat.reduceSub, Array.replicate_succ, Array.replicate_zero, List.push_toArray, List.append_toArray, List.nil_append, List.cons_append]
  gi_wp2_with fail
  refine ⟨trivial, (callsIn_wide.2 HTu.out).mono ?_⟩
  rintro e w1 ⟨vt, rfl, g1, hIT, hfT⟩
  obtain ⟨S, hS⟩ : ∃ S : Nat → Prop, (fun k => SL p b v k ∨ (W0.heap.size ≤ k ∧ k < w1.heap.size)) = S := ⟨_, rfl⟩
  have hSL : ∀ k, SL p b v k → S k := fun k e => by rw [← hS]; exact .inl e
  have hST : ∀ g, vt.ownBlock = some g → S g := fun g e => by rw [← hS]; exact .inr ⟨hfT g e, hIT.lt e⟩
  have hbd1 : ∀ k, S k → k < w1.heap.size := fun k e => by
    rw [← hS] at e
    rcases e with e | e
    · exact Nat.lt_of_lt_of_le (H0.out.2.1.bound k e) g1.sz
    · exact e.2
  have hG0 : GrI J S g0 p t r W v b n q T vt 0 [] q w1 :=
    ⟨HJ.out (SL p b v) S [] W0 w1 H0.out.1 (Tch.nw g1) hSL (fun k e => by rw [← hS] at e; rcases e with e | e; exact .inl e; exact .inr e.1) hbd1, hbd1, hIT, .refl, ti_start H0.out.2.2.2, n, by omega, H0.out.2.1.nw g1⟩
  have HG := Lib.hid hG0
  have HS := Lib.hid (And.intro hSL hST)
  obtain ⟨at1, ct, hvt, _⟩ := hIT.box
  subst hvt
  clear hG0 hSL hST hbd1 hS g1 hIT hfT HTu
  gi_wp2
  gi_loopw [10] (fun x wr => ∃ (i : Nat) (pre : List Int) (q' : List Rq), x = .int .i64 i ∧ i ≤ T.length ∧ Hid (GrI J S g0 p t r W v b n q T (.slice at1 T.length ct) i pre q' wr)) (fun x _ => T.length - (intOf x).toNat)
  case atStart => exact ⟨0, [], q, rfl, Nat.zero_le _, HG⟩
  case round =>
    obtain ⟨i, pre, q', rfl, hi, HR⟩ := hrel
    by_cases hlt : i < T.length
    · obtain ⟨k, eT, hk, hqk, hsn, hfy, hfn⟩ := turn_next H0.out.2.2.1 HR.out.st H0.out.2.2.2 HR.out.ti hlt
      obtain ⟨n', hn', hLn⟩ := HR.out.ln
      have hlen := steps_len HR.out.st H0.out.2.2.1
      have okq := HR.out.st.ok H0.out.2.2.1
      obtain ⟨g, cap, hv, hg0, hgl, hce⟩ := RqOwn.at hLn.own hk
      subst hv
      obtain ⟨ao, c2, hvv, hbx⟩ := HR.out.row.box
      obtain ⟨gt, rfl, _⟩ := hbx (by omega)
      simp only [Value.slice.injEq, true_and] at hvv
      obtain ⟨rfl, rfl⟩ := hvv
      have hTc := HR.out.row.cell i hlt
      rw [show T.getD i 0 = (k : Int) by rw [← eT]; simp [List.getD, hlt]] at hTc
      have hTl2 := HR.out.row.glt
      have hii : (i : Int) < (T.length : Int) := by omega
      have hkk : (k : Int) < (q'.length : Int) := by omega
      have hpl := heap_lt' hLn.obj
      have m2 := hcell (j := 2) hLn.obj
      have hrt := okq.rt _ (List.getElem_mem hk)
      have hcb := cntQ_bd q'
      have hql : q'.length ≤ 1000 := by omega
      have hts := fun hc => turn_step H0.out.2.2.1 HR.out.st H0.out.2.2.2 HR.out.ti hlt eT hk hc
      have hgr := fun (w7 : World) (hN : Nw wr w7) => dGrant (hLn.nw hN) k hk hrt.md hrt.wt (fun y => by have := hcb y; omega) (by omega) hql
      have hcs := cntQ_set q' k hk (grtR q'[k])
      generalize hR : q'[k] = R at *
      obtain ⟨b0, b1, b2, b3, b4⟩ := R
      have e0 := hce 0 _ rfl
      have e1 := hce 1 _ rfl
      have e2 := hce 2 _ rfl
      have e3 := hce 3 _ rfl
      have e4 := hce 4 _ rfl
      simp only [Nat.add_zero] at e0
      simp only at hrt hfy hfn hts hgr hcs hsn
      have g6 : Nw wr (wr.alloc (.cells #[.int .i64 b0, .int .i64 b1, .int .i64 b2, .int .i64 b3, .int .i64 b4] 41)) := (Nw.refl wr).alloc _
      have hq6 := RqB.made wr b0 b1 b2 b3 b4 41
      obtain ⟨w6, hw6⟩ : ∃ w6, wr.alloc (.cells #[.int .i64 b0, .int .i64 b1, .int .i64 b2, .int .i64 b3, .int .i64 b4] 41) = w6 := ⟨_, rfl⟩
      rw [hw6] at g6 hq6
      have hF := dFits p b n' (cntQ q') b2 b3 _ _ _ _ _ w6 (hLn.nw g6).obj (hLn.nw g6).map (fun y => by have := hcb y; omega) hrt.wt
      obtain ⟨hlq, y0, y1, y2, y3, y4⟩ := hq6
      obtain ⟨B, hB⟩ : ∃ B, fitB (cntQ q') b2 b3 = B := ⟨_, rfl⟩
      rw [hB] at hF hfy hfn
      have HW6 := Lib.hid hw6
      have HF := Lib.hid hF
      have HGr := Lib.hid hgr
      have HTs := Lib.hid (And.intro hts (And.intro hcs (And.intro hn' g6)))
      have HY0 := Lib.hid (And.intro y0 (And.intro hlq (And.intro hLn.map.lt hgl)))
      cases B
      · have hd := hfn rfl
        have hsc := HR.out.st.scan H0.out.2.2.1 hd
        have HSc := Lib.hid hsc
        clear hce hrt hfy hfn hts hgr hcs hR hF hB hw6 hLn hlen okq hcb hd hsc eT hqk hsn
        gi_wp2_with fail
        rw [HW6.out]
        gi_wp2_with fail
        refine ⟨trivial, (callsIn_wide.2 HF.out).mono ?_⟩
        rintro e w7 ⟨rfl, g7⟩
        have HE : Hid ((∃ S, J S (scanQ q).1 w7 ∧ EndL g0 p t r W (.slice (some ⟨g, 0, none⟩) q'.length cap) b (scanQ q).2 w7) ∨ ∃ S pre, pre <+: (scanQ q).1 ∧ Jx S pre w7) := Lib.hid (by
          rw [HSc.out]
          have hN := HTs.out.2.2.2.trans g7
          obtain ⟨n'', _, hl2⟩ := HR.out.ln
          exact .inl ⟨S, HJ.out S S pre wr w7 HR.out.j (Tch.nw hN) (fun _ e => e) (fun _ e => .inl e) (fun k e => Nat.lt_of_lt_of_le (HR.out.bd k e) hN.sz), n'', hl2.nw hN⟩)
        clear g7 y0 y1 y2 y3 y4 hlq
        gi_wp2
        refine bodyPost_ret (results_none rfl _ _ _) rfl ?_
        exact ⟨⟨_, rfl⟩, HE.out⟩
      · have hst2 := hts (hfy rfl)
        have HSt := Lib.hid hst2
        have HC := Lib.hid hcs
        clear hce hrt hfy hfn hts hgr hcs hR hF hB hw6 hLn hlen okq hcb eT hqk hsn hst2
        gi_wp2_with fail
        rw [HW6.out]
        gi_wp2_with fail
        refine ⟨trivial, (callsIn_wide.2 HF.out).mono ?_⟩
        rintro e w7 ⟨rfl, g7⟩
        have HG7 := Lib.hid (HTs.out.2.2.2.trans g7)
        have HK7 := Lib.hid g7
        clear g7 y0 y1 y2 y3 y4 hlq
        gi_wp2_with fail
        refine ⟨trivial, (callsIn_wide.2 (HGr.out w7 HG7.out)).mono ?_⟩
        rintro e w8 ⟨rfl, hL8, hT8⟩
        have hbxl : wr.heap.size < w7.heap.size := Nat.lt_of_lt_of_le HY0.out.2.1 HK7.out.sz
        have z0 : w8.cell? ⟨wr.heap.size, 0, none⟩ = some (.int .i64 b0) := (hT8.cell hbxl (fun e => by have := HY0.out.2.2; omega)).trans (HK7.out.kp HY0.out.1)
        have hz0 := World.block_lt_of_cell? _ _ z0
        have hTS : Tch S wr w8 := (Tch.nw HG7.out).trans' hT8 (fun i _ e => by
          rcases e with rfl | rfl
          · exact HS.out.1 _ (.inr (.inl rfl))
          · exact HS.out.1 _ (.inr (.inr rfl)))
        have hbd8 : ∀ k, S k → k < w8.heap.size := fun k e => Nat.lt_of_lt_of_le (HR.out.bd k e) hTS.size
        have hJ8 : J S pre w8 := HJ.out S S pre wr w8 HR.out.j hTS (fun _ e => e) (fun _ e => .inl e) hbd8
        have hpre := steps_pre HSt.out.1 H0.out.2.2.1
        obtain ⟨fn, tmps, assign, body, hy, hRd⟩ := HY.out S pre b0 w8 hJ8 HS.out.1 hbd8 hpre
        have hI8 : IS w8 (.slice (some ⟨gt, 0, none⟩) T.length ct) T := (HR.out.row.nw HG7.out).tch hT8 (fun g' e q1 => by
          have hg' := HS.out.2 g' e
          have e1 := Option.some.inj e
          subst e1
          rcases q1 with q1 | q1
          · obtain ⟨es, cl, ob⟩ := (HR.out.ln.choose_spec.2).map.obj
            rcases HR.out.row.2 with ⟨h', _⟩ | ⟨g2, cap2, cur, h', _, hg2, _⟩
            · simp at h'
            · simp only [Value.slice.injEq, Option.some.injEq, Addr.mk.injEq, and_true, true_and] at h'
              obtain ⟨rfl, rfl⟩ := h'
              simp only at q1
              rw [q1, ob] at hg2; cases hg2
          · obtain ⟨cs, hc⟩ := oheap (HR.out.ln.choose_spec.2).own (g := g) rfl
            rcases HR.out.row.2 with ⟨h', _⟩ | ⟨g2, cap2, cur, h', _, hg2, _⟩
            · simp at h'
            · simp only [Value.slice.injEq, Option.some.injEq, Addr.mk.injEq, and_true, true_and] at h'
              obtain ⟨rfl, rfl⟩ := h'
              simp only at q1
              rw [q1, hc] at hg2
              injection hg2 with hg2
              injection hg2 with _ hg2
              exact absurd hg2 rq_int_ne)
        have HN8 := Lib.hid (And.intro hI8 (And.intro hL8 (And.intro hbd8 hpre)))
        clear hL8 hT8 hTS hbd8 hJ8 hpre hI8
        gi_wp2
        refine hRd.mono ?_
        rintro e w9 (⟨rfl, j2, k2⟩ | ⟨rfl, jx2, _⟩)
        · have H2 : Hid (GrI J S g0 p t r W (.slice (some ⟨g, 0, none⟩) q'.length cap) b n q T (.slice (some ⟨gt, 0, none⟩) T.length ct) (i + 1) (pre ++ [b0]) (q'.set k (grtR ⟨b0, b1, b2, b3, b4⟩)) w9) := Lib.hid
            ⟨j2, fun k e => Nat.lt_of_lt_of_le (HN8.out.2.2.1 k e) k2.size, HN8.out.1.kps k2 HS.out.2, HSt.out.1, HSt.out.2, n' + 2, by have := HTs.out.2.2.1; omega, (HN8.out.2.1.eq HC.out.symm).kps k2 HS.out.1⟩
          clear j2 k2 hy hRd
          gi_wp2
          go_roundw
          case rel => exact ⟨i + 1, _, _, by go_num, by omega, H2⟩
          case measure => simp [intOf]; omega
        · have H2 := Lib.hid jx2
          clear jx2 hy hRd
          gi_wp2
          refine bodyPost_ret (results_none rfl _ _ _) rfl ?_
          exact ⟨⟨_, rfl⟩, .inr ⟨S, pre ++ [b0], HN8.out.2.2.2, H2.out⟩⟩
    · have hd := turn_end H0.out.2.2.1 HR.out.st HR.out.ti hlt
      have hsc := HR.out.st.scan H0.out.2.2.1 hd
      have HE : Hid ((∃ S, J S (scanQ q).1 wr ∧ EndL g0 p t r W v b (scanQ q).2 wr) ∨ ∃ S pre, pre <+: (scanQ q).1 ∧ Jx S pre wr) := Lib.hid (by
        rw [hsc]
        obtain ⟨n'', _, hl2⟩ := HR.out.ln
        exact .inl ⟨S, HR.out.j, n'', hl2⟩)
      obtain rfl : i = T.length := by omega
      clear hd hsc
      gi_wp2
      refine bodyPost_end (results_none rfl _ _ _) rfl ?_
      exact ⟨⟨_, rfl⟩, HE.out⟩
theorem is_fill {w : World} {v : Value} {l : List Int} {rb : Nat} (h : IS w v l) (hb : ∀ g, v.ownBlock = some g → g ≠ rb) (u0 u1 u2 u3 : Value) : IS ((((w.setCell ⟨rb, 0, none⟩ u0).setCell ⟨rb, 1, none⟩ u1).setCell ⟨rb, 2, none⟩ u2).setCell ⟨rb, 3, none⟩ u3) v l :=
  (((h.tch (setCell_at w ⟨rb, 0, none⟩ u0) hb).tch (setCell_at _ ⟨rb, 1, none⟩ u1) hb).tch (setCell_at _ ⟨rb, 2, none⟩ u2) hb).tch (setCell_at _ ⟨rb, 3, none⟩ u3) hb
theorem endl_put {g0 p : Nat} {t r W : Int} {v : Value} {b : Nat} {q : List Rq} {m : Nat} (hb : ∀ k, SL p b v k → k < m) (A : World) (l : Nat) (o o' : Obj) (hl : m ≤ l) (h : EndL g0 p t r W v b q A) : EndL g0 p t r W v b q (A.putObj l o') := by
  obtain ⟨n', h⟩ := h
  refine ⟨n', h.kps (S := SL p b v) ⟨by simp, fun k e => ?_⟩ (fun _ e => e)⟩
  exact World.putObj_heap_other (fun e2 => by have := hb k e; omega)
set_option maxRecDepth 100000 in
set_option maxHeartbeats 4000000 in
theorem dScan (t r W : Int) (v : Value) (q : List Rq) (w : World) (hl : q.length ≤ 1000) (hok : Ok W q) (h : RqAt w v q) (hst : StOk (tC q) (wpl q q.length)) :
    Calls Try.prog 12 #[hdV t r v W] w fun e w' => ∃ v' vi, e = .returned (.tuple #[hdV t r v' W, vi]) ∧ Nw w w' ∧ RqAt w' v' (scanQ q).2 ∧ capOk v' ∧ IS w' vi (scanQ q).1 ∧ Fresh w v' (scanQ q).2 ∧ ∀ g, vi.ownBlock = some g → w.heap.size ≤ g := by
  have HLi := Lib.hid (fun (w1 : World) (g : Nw w w1) => dLineOf t r W v q w1 hl (fun R hR => (hok.rt R hR).md) (h.nw g))
  obtain ⟨a, c, rfl⟩ := h.form
  unfold hdV at HLi ⊢
  obtain ⟨hx1, hx2, hx3, hx4⟩ := two_boxes w (.cells #[.int .i64 t, .int .i64 r, .slice a q.length c, .int .i64 W] 27) (.cells #[.int .i64 0, .int .i64 0, .slice none 0 0, .int .i64 0] 27)
  obtain ⟨w1, hw1⟩ : ∃ w1, (w.alloc (.cells #[.int .i64 t, .int .i64 r, .slice a q.length c, .int .i64 W] 27)).alloc (.cells #[.int .i64 0, .int .i64 0, .slice none 0 0, .int .i64 0] 27) = w1 := ⟨_, rfl⟩
  rw [hw1] at hx2 hx3
  have HX := Lib.hid (And.intro hx2 hx3)
  have HW1 := Lib.hid hw1
  clear hx1 hx2 hx3 hx4 h hw1
  go_enter Try.func12, Try.ntmps12
  go_wp2_with fail
  rw [HW1.out]
  go_at_call 39
  refine (HLi.out _ HX.out.2).mono ?_
  rintro e w2 ⟨p, v1, b, n, rfl, g2, hL2, hnq⟩
  have hq2 := g2.at' HX.out.1
  have HQ := Lib.hid (And.intro hq2 (And.intro (HX.out.2.trans g2) (And.intro hL2 (hlt HX.out.1))))
  have hsl := hL2.bound
  have hls : (scanQ q).1.length ≤ 100000 := by
    have hw := (scan_steps hok).1.wtg hok
    have : wtg q ≤ q.length := List.countP_le_length
    omega
  have hC := collect_any _ #[.pointer (some ⟨p, 0, none⟩)] #[] e_grants (scanQ q).1 (SL p b v1) (EndL w1.heap.size p t r W v1 b (scanQ q).2) w2 hls hsl (grants_in 4 (by omega) w1.heap.size p b n t r W v1 q w2 hL2 hok hl (by omega) hst) (fun A l o o' h1 _ _ h2 => endl_put hsl A l o o' h1 h2)
  have HC := Lib.hid hC
  have HSL := Lib.hid (And.intro hsl (fun k (e : SL p b v1 k) => show w1.heap.size ≤ k by
    rcases e with rfl | rfl | e
    · exact hL2.gp
    · exact hL2.gb
    · exact oge hL2.own e))
  clear hq2 g2 hL2 hsl hls hC hst HLi HX
  go_wp2_with fail
  go_at_call 45
  refine HC.out.mono ?_
  rintro e w3 ⟨vi, rfl, hIi, hif, ⟨n3, hL3⟩, hT3⟩
  have hq3 := (hT3.block (w.heap.size + 1) (hlt HQ.out.1) (fun e => by have := HSL.out.2 _ e; have := HQ.out.2.2.2; omega)).trans HQ.out.1
  have hN3 : Nw w w3 := nw_tch HQ.out.2.1 hT3 (fun k e => by have := HSL.out.2 k e; have := HQ.out.2.2.2; omega)
  obtain ⟨a2, k2, hv2⟩ := (RqOwn.rd hL3.own).form
  obtain ⟨n2, hn2⟩ : ∃ n, (scanQ q).2.length = n := ⟨_, rfl⟩
  rw [hn2] at hv2
  subst hv2
  obtain ⟨ai, ci, hvi, _⟩ := hIi.box
  obtain ⟨ni, hni⟩ : ∃ n, (scanQ q).1.length = n := ⟨_, rfl⟩
  rw [hni] at hvi
  subst hvi
  have HE := Lib.hid (And.intro hN3 (And.intro hL3 (And.intro hIi (And.intro hif HQ.out.2.2.2))))
  have hpl := hlt hL3.obj
  have e0 := hcell (j := 0) hL3.obj
  have e1 := hcell (j := 1) hL3.obj
  have e2 := hcell (j := 2) hL3.obj
  have e3 := hcell (j := 3) hL3.obj
  have d0 := hcell (j := 0) hq3
  have d1 := hcell (j := 1) hq3
  have d2 := hcell (j := 2) hq3
  have d3 := hcell (j := 3) hq3
  have fz := fun k => hfz (j := k) hq3
  have hsl2 := hlt hq3
  have HS2 := Lib.hid (hlt HQ.out.1)
  have HQF : Hid (w.heap.size ≤ w1.heap.size) := Lib.hid (by have := HQ.out.2.2.2; omega)
  clear hL3 hT3 hN3 hq3 hIi hif hn2 hni HC HSL HQ
  go_wp2
  exact bodyPost_ret (v := .tuple #[.agg #[.int .i64 t, .int .i64 r, .slice a2 n2 k2, .int .i64 W], .slice ai ni ci]) (by simp only [results, Try.results12]; simp [go_sem, *]) rfl ⟨_, _, rfl, fill_nw HE.out.1 (Nat.le_succ _) _ _ _ _, (HE.out.2.1.done HE.out.2.2.2.2 _ _ _ _).1, HE.out.2.1.own.cap, is_fill HE.out.2.2.1 (fun g e => by have := HE.out.2.2.2.1 g e; have := HS2.out; omega) _ _ _ _, HE.out.2.1.own.fresh HQF.out, fun g e => by have := HE.out.2.2.2.1 g e; have := HS2.out; omega⟩
end Go.Proofs.Ytmciiobncfchlaa
end

/- The developers' package queue: Blockers. -/
section
namespace Go.Proofs.Ytmciiobncfchlaa
open Go.RowKit
set_option linter.unusedVariables false      -- a contract need not use every name

/-- Because of whom a request waits, in the order of the queue. -/
def bkC (S R : Rq) : Bool := !(R.id == S.id) && ((decide (0 < R.sn) && decide (toI R S < 0)) || !cpI R.md S.wt)
def bkT (q : List Rq) (S : Rq) (k : Nat) : List Int := ((q.take k).filter (bkC S)).map fun R => R.txn
theorem bkT_succ (q : List Rq) (S : Rq) (k : Nat) (hk : k < q.length) : bkT q S (k + 1) = if bkC S q[k] = true then bkT q S k ++ [q[k].txn] else bkT q S k := by
  unfold bkT
  rw [List.take_add_one, List.getElem?_eq_getElem hk, List.filter_append, List.map_append]
  by_cases e : bkC S q[k] = true
  · rw [if_pos e]; simp [e]
  · rw [if_neg e]; simp at e; simp [e]
theorem bkT_len (q : List Rq) (S : Rq) (k : Nat) : (bkT q S k).length ≤ q.length := by
  unfold bkT
  rw [List.length_map]
  exact Nat.le_trans (List.length_filter_le _ _) (by rw [List.length_take]; omega)
theorem bk_blk {W : Int} {q : List Rq} (h : Ok W q) {S R : Rq} (hS : S ∈ q) (hR : R ∈ q) (hw : 0 < S.sn) (ne : R.id ≠ S.id) : bkC S R = blk S R := by
  have h1 := h.rt R hR
  have h2 := h.rt S hS
  have hz : R.md = 0 → 0 < R.sn := fun e => by
    rcases Int.lt_or_eq_of_le h1.s0 with g | g
    · exact g
    · exact absurd e (h1.h g.symm).1
  have hc0 : R.md = 0 → cpI R.md S.wt = true := fun e => by rw [e]; exact cp_zero _ h2.wt
  unfold bkC blk
  rw [Bool.eq_iff_iff]
  simp only [Bool.and_eq_true, Bool.or_eq_true, Bool.not_eq_true', beq_eq_false_iff_ne, ne_eq, decide_eq_true_eq, bne_iff_ne, beq_iff_eq, ahead_iff]
  constructor
  · rintro ⟨_, ⟨a, b | b⟩ | b⟩
    · exact .inl (.inr ⟨⟨b.1, a⟩, .inl b.2⟩)
    · by_cases e : R.md = 0
      · exact .inr ⟨⟨b.1.1 e, e⟩, b.2⟩
      · exact .inl (.inr ⟨⟨e, a⟩, .inr b.2⟩)
    · by_cases e : R.md = 0
      · rw [hc0 e] at b; cases b
      · exact .inl (.inl ⟨e, b⟩)
  · rintro ((⟨a, b⟩ | ⟨⟨a, b⟩, c⟩) | ⟨⟨a, b⟩, c⟩)
    · exact ⟨ne, .inr b⟩
    · refine ⟨ne, .inl ⟨b, ?_⟩⟩
      by_cases e : S.md = 0
      · exact .inl ⟨a, e⟩
      · rcases c with c | c
        · exact absurd c e
        · exact .inr ⟨by simp [a, e], c⟩
    · exact ⟨ne, .inl ⟨hz b, .inr ⟨by simp [a, b], c⟩⟩⟩
theorem bk_all {W : Int} {q : List Rq} (h : Ok W q) {S : Rq} (hS : S ∈ q) (hw : 0 < S.sn) : Lib.compact ((bkT q S q.length).mergeSort fun x y => decide (x ≤ y)) = blkL q S := by
  obtain ⟨h1, h2⟩ := cmp_sorted (bkT q S q.length)
  refine sorted_ext h1 (blkL_sorted q S) (fun x => ?_)
  rw [h2 x, blkL_mem]
  unfold bkT
  rw [List.take_of_length_le (Nat.le_refl _), List.mem_map]
  constructor
  · rintro ⟨R, hR, e⟩
    obtain ⟨hR, hc⟩ := List.mem_filter.1 hR
    have ne : R.id ≠ S.id := by unfold bkC at hc; simp at hc; exact hc.1
    exact ⟨R, hR, ne, by rw [← bk_blk h hS hR hw ne]; exact hc, e⟩
  · rintro ⟨R, hR, ne, hc, e⟩
    exact ⟨R, List.mem_filter.2 ⟨hR, by rw [bk_blk h hS hR hw ne]; exact hc⟩, e⟩
set_option maxRecDepth 100000 in
set_option maxHeartbeats 8000000 in
theorem dBlockers (t r W id : Int) (v : Value) (q : List Rq) (w : World) (hl : q.length ≤ 1000) (hok : Ok W q) (h : RqAt w v q) :
    Calls Try.prog 20 #[hdV t r v W, .int .i64 id] w fun e w' => ∃ v', e = .returned v' ∧ Nw w w' ∧ IS w' v' (blkR q id) := by
  have HOk := Lib.hid hok
  have HAt := Lib.hid h
  clear hok
  obtain ⟨X, hX⟩ : ∃ X, blkR q id = X := ⟨_, rfl⟩
  rw [hX]
  have HFq := Lib.hid (fun (z : World) (g : Nw w z) => dFindQ t r W id v q z hl (h.nw g))
  obtain ⟨a, c, rfl, _⟩ := h
  unfold hdV at HFq ⊢
  have hx1 := allocAt w (.cells #[.int .i64 t, .int .i64 r, .slice a q.length c, .int .i64 W] 27)
  have hN : Nw w (w.alloc (.cells #[.int .i64 t, .int .i64 r, .slice a q.length c, .int .i64 W] 27)) := (Nw.refl w).alloc _
  obtain ⟨w1, hw1⟩ : ∃ w1, w.alloc (.cells #[.int .i64 t, .int .i64 r, .slice a q.length c, .int .i64 W] 27) = w1 := ⟨_, rfl⟩
  rw [hw1] at hx1 hN
  have HW1 := Lib.hid hw1
  have HB := Lib.hid (And.intro hx1 hN)
  have HFq1 := Lib.hid (HFq.out w1 hN)
  have c0 := hcell (j := 0) hx1
  have c1 := hcell (j := 1) hx1
  have c2 := hcell (j := 2) hx1
  have c3 := hcell (j := 3) hx1
  have hpl := hlt hx1
  clear hw1 hx1 hN HFq
  unfold fndV at HFq1
  cases hf : fnd q id with
  | none =>
    rw [hf] at HFq1
    simp only at HFq1
    have hR := hX.symm.trans (show blkR q id = [] by unfold blkR; rw [hf])
    subst hR
    unfold rqV at HFq1
    clear hX hf
    go_enter Try.func20, Try.ntmps20
    go_wp2_with fail
    rw [HW1.out]
    go_wp2_with fail
    go_at_call 15
    refine HFq1.out.mono ?_
    rintro e w2 ⟨rfl, g2⟩
    have HG := Lib.hid (HB.out.2.trans g2)
    clear c0 c1 c2 c3 hpl g2 HFq1
    go_wp2
    go_ret
    exact ⟨_, rfl, HG.out.alloc _, IS.nil _⟩
  | some S =>
    rw [hf] at HFq1
    simp only at HFq1
    have hS := (fnd_is hf).1
    have hSi := (fnd_is hf).2
    have hX1 : ¬ 0 < S.sn → X = [] := fun s => hX.symm.trans (by unfold blkR; rw [hf]; exact if_neg s)
    have hX2 : 0 < S.sn → X = blkL q S := fun s => hX.symm.trans (by unfold blkR; rw [hf]; exact if_pos s)
    have HX1 := Lib.hid hX1
    have HX2 := Lib.hid hX2
    have HSq := Lib.hid (And.intro hS hSi)
    have HWa := Lib.hid (fun z => dWaits S z)
    have HAh := Lib.hid (fun z => dAheadOf S z)
    clear hX hf hX1 hX2 hS hSi
    have HSv : Hid (S = ⟨S.id, S.txn, S.md, S.wt, S.sn⟩) := Lib.hid rfl
    obtain ⟨s0, s1, s2, s3, s4⟩ := S
    simp only at HX1 HX2 HAh HSq
    unfold rqV at HFq1 HWa HAh
    clear HSv
    go_enter Try.func20, Try.ntmps20
    go_wp2_with fail
    rw [HW1.out]
    go_wp2_with fail
    go_at_call 15
    refine HFq1.out.mono ?_
    rintro e w2 ⟨rfl, g2⟩
    have hb3 := RqB.made w2 s0 s1 s2 s3 s4 41
    obtain ⟨w3, hw3⟩ : ∃ w3, w2.alloc (.cells #[.int .i64 s0, .int .i64 s1, .int .i64 s2, .int .i64 s3, .int .i64 s4] 41) = w3 := ⟨_, rfl⟩
    have g3 : Nw w2 w3 := by rw [← hw3]; exact (Nw.refl w2).alloc _
    rw [hw3] at hb3
    have HW3 := Lib.hid hw3
    have HB3 := Lib.hid (And.intro hb3 (And.intro ((HB.out.2.trans g2).trans g3) (g3.at' (g2.at' HB.out.1))))
    obtain ⟨yl, y0, y1, y2, y3, y4⟩ := hb3
    clear c0 c1 c2 c3 hpl g2 g3 hw3 HFq1
    go_wp2_with fail
    rw [HW3.out]
    go_wp2_with fail
    go_at_call 42
    refine (HWa.out _).mono ?_
    rintro e w4 ⟨rfl, g4⟩
    have HB4 := Lib.hid (And.intro (HB3.out.1.nw g4) (And.intro (HB3.out.2.1.trans g4) (g4.at' HB3.out.2.2)))
    clear yl y0 y1 y2 y3 y4 g4 HWa
    by_cases hs : 0 < s4
    rotate_left
    · have ds : decide (0 < s4) = false := by simpa using hs
      have hR := HX1.out (by first | exact hs | exact Int.not_lt.1 hs)
      subst hR
      clear hs HX1 HX2
      go_wp2
      go_ret
      exact ⟨_, rfl, HB4.out.2.1, IS.nil _⟩
    have ds : decide (0 < s4) = true := by simpa using hs
    have hR := HX2.out hs
    have HAll := Lib.hid (bk_all HOk.out HSq.out.1 hs)
    rw [← hR] at HAll
    obtain ⟨yl, y0, y1, y2, y3, y4⟩ := HB4.out.1
    clear hs HX1 HX2 hR
    go_wp2_with fail
    go_at_call 50
    refine (HAh.out _).mono ?_
    rintro e w5 ⟨pa, rfl, g5, hbx⟩
    obtain ⟨g, lb, hfv, eg, hT⟩ := Tells.ahead (S := ⟨s0, s1, s2, s3, s4⟩) hbx
    have HT := Lib.hid hT
    have HB5 := Lib.hid (And.intro (HB4.out.1.nw g5) (And.intro (HB4.out.2.1.trans g5) (g5.at' HB4.out.2.2)))
    have c2 := hcell (j := 2) HB5.out.2.2
    have hpl := hlt HB5.out.2.2
    rw [hfv]
    clear yl y0 y1 y2 y3 y4 g5 hbx hT hfv HAh ds
    go_wp2
    clear c2 hpl
    go_loopw [8, 29] (fun x i wr => ∃ k : Nat, k ≤ q.length ∧ i = .int .i64 k ∧ IS wr x (bkT q ⟨s0, s1, s2, s3, s4⟩ k) ∧ Nw w5 wr ∧ ∀ g, x.ownBlock = some g → w5.heap.size ≤ g) (fun _ i _ => q.length - (intOf i).toNat)
    case atStart => exact ⟨0, Nat.zero_le _, rfl, IS.nil _, Nw.refl _, fun g e => by simp [Value.ownBlock] at e⟩
    case round =>
      obtain ⟨k, hk, rfl, hI, hN, hfr⟩ := hrel
      by_cases hlk : k < q.length
      · obtain ⟨a', c', e, ⟨e4, _⟩ | ⟨b, o, e4, hc⟩⟩ := (HAt.out.nw (HB5.out.2.1.trans hN))
        · subst e4; simp at hlk
        simp only [Value.slice.injEq, true_and] at e
        obtain ⟨rfl, rfl⟩ := e
        subst e4
        have hki : (k : Int) < (q.length : Int) := by omega
        have hstep := bkT_succ q ⟨s0, s1, s2, s3, s4⟩ k hlk
        have hce := hc.cell k hlk
        have HKn := Lib.hid (And.intro (HOk.out.rt _ (List.getElem_mem hlk)).md (HOk.out.rt _ HSq.out.1).wt)
        have HTk := Lib.hid (fun (z : World) (g : Nw w5 z) => HT.out q[k] z g)
        generalize q[k] = R at *
        obtain ⟨b0, b1, b2, b3, b4⟩ := R
        unfold rqV at HTk
        have e0 := hce 0 _ rfl
        have e1 := hce 1 _ rfl
        have e2 := hce 2 _ rfl
        have e3 := hce 3 _ rfl
        have e4 := hce 4 _ rfl
        simp only [Nat.add_zero] at e0
        simp only at hstep HTk HKn
        have hbk : bkC ⟨s0, s1, s2, s3, s4⟩ ⟨b0, b1, b2, b3, b4⟩ = (!(b0 == s0) && ((decide (0 < b4) && decide (toI ⟨b0, b1, b2, b3, b4⟩ ⟨s0, s1, s2, s3, s4⟩ < 0)) || !cpI b2 s3)) := rfl
        have g6 : Nw wr (wr.alloc (.cells #[.int .i64 b0, .int .i64 b1, .int .i64 b2, .int .i64 b3, .int .i64 b4] 41)) := (Nw.refl wr).alloc _
        obtain ⟨w6, hw6⟩ : ∃ w6, wr.alloc (.cells #[.int .i64 b0, .int .i64 b1, .int .i64 b2, .int .i64 b3, .int .i64 b4] 41) = w6 := ⟨_, rfl⟩
        have hs6 : w6.heap.size = wr.heap.size + 1 := by rw [← hw6]; simp
        have hq6 := RqB.made wr b0 b1 b2 b3 b4 41
        rw [hw6] at g6 hq6
        have HQ6 := Lib.hid hq6
        obtain ⟨hlq, x0, x1, x2, x3, x4⟩ := hq6
        have HI := Lib.hid (And.intro (hI.nw g6) (And.intro (hN.trans g6) hfr))
        have HW6 := Lib.hid hw6
        have HCp := Lib.hid (fun z => dCp b2 s3 z HKn.out.1 HKn.out.2)
        obtain ⟨A, hA⟩ : ∃ A, (decide (0 < b4) && decide (toI ⟨b0, b1, b2, b3, b4⟩ ⟨s0, s1, s2, s3, s4⟩ < 0)) = A := ⟨_, rfl⟩
        obtain ⟨B, hB⟩ : ∃ B, cpI b2 s3 = B := ⟨_, rfl⟩
        rw [hA] at hbk HTk
        rw [hB] at hbk HCp
        have hy3 : ∀ z, Nw w5 z → z.cell? ⟨w2.heap.size, 3, none⟩ = some (.int .i64 s3) := fun z hz => hz.kp HB5.out.1.c3
        clear hce hI hN hfr g6 hw6 hA hB hc
        by_cases hi : b0 = s0
        · have di : (b0 != id) = false := by have := HSq.out.2; simp [hi, this]
          have hst : bkT q ⟨s0, s1, s2, s3, s4⟩ (k + 1) = bkT q ⟨s0, s1, s2, s3, s4⟩ k := by rw [hstep, if_neg (by rw [hbk]; simp [hi])]
          have HS := Lib.hid hst
          clear hstep hst hi hbk
          go_wp2_with fail
          go_roundw
          case rel => exact ⟨k + 1, by omega, by go_num, by rw [HS.out]; first | exact HI.out.1 | (rw [HW6.out]; exact HI.out.1), by first | exact HI.out.2.1 | (rw [HW6.out]; exact HI.out.2.1), HI.out.2.2⟩
          case measure => simp [intOf]; omega
        · have di : (b0 != id) = true := by have := HSq.out.2; rw [← this]; simpa using hi
          have hnb : (b0 == s0) = false := by simpa using hi
          rw [hnb] at hbk
          clear hi hnb
          cases A
          · cases B
            · -- stands in the way by what it holds
              have hst : bkT q ⟨s0, s1, s2, s3, s4⟩ (k + 1) = bkT q ⟨s0, s1, s2, s3, s4⟩ k ++ [b1] := by rw [hstep, if_pos (by rw [hbk]; rfl)]
              have HS := Lib.hid hst
              clear hstep hst hbk
              go_wp2_with fail
              rw [HW6.out]
              go_wp2_with fail
              go_at_fn g
              refine (HTk.out _ HI.out.2.1).mono ?_
              rintro e w7 ⟨rfl, g7⟩
              have hz3 := hy3 _ (HI.out.2.1.trans g7)
              have hzl := World.block_lt_of_cell? _ _ hz3
              obtain ⟨zl, z0, z1, z2, z3, z4⟩ := HQ6.out.nw g7
              have G7 := Lib.hid g7
              clear x0 x1 x2 x3 x4 hlq e0 e1 e2 e3 e4 g7
              go_wp2_with fail
              go_at_call 51
              refine (HCp.out _).mono ?_
              rintro e w8 ⟨rfl, g8⟩
              have hI8 := HI.out.1.nw (G7.out.trans g8)
              obtain ⟨v', w9, hr, q1, q2, q3, ⟨g', cap', hv'⟩⟩ := IS.push w8 _ (bkT q ⟨s0, s1, s2, s3, s4⟩ k) b1 hI8 (by have := bkT_len q ⟨s0, s1, s2, s3, s4⟩ k; omega)
              have HR := Lib.hid hr
              have HN8 := Lib.hid ((HI.out.2.1.trans G7.out).trans g8)
              have HE : Hid (IS w9 v' (bkT q ⟨s0, s1, s2, s3, s4⟩ (k + 1)) ∧ Nw w5 w9 ∧ ∀ g, v'.ownBlock = some g → w5.heap.size ≤ g) := Lib.hid ⟨by rw [HS.out]; exact q1, nw_tch HN8.out q2 (fun i e => HI.out.2.2 i e), fun g e => by
                rcases q3 g e with h | h
                · exact HI.out.2.2 g h
                · have := HN8.out.sz; omega⟩
              obtain ⟨zl', z0', z1', z2', z3', z4'⟩ := (HQ6.out.nw G7.out).nw g8
              clear hr q1 q2 q3 hI8 g8 hv' zl z0 z1 z2 z3 z4 hz3 hzl
              go_wp2_with (at_builtin; (refine wpl_app (by rfl) (.tmp 50) (.tmp 53) 36 rfl _ _ _ _ rfl rfl HR.out ?_))
              go_roundw
              case rel => exact ⟨k + 1, by omega, by go_num, HE.out⟩
              case measure => simp [intOf]; omega
            · have hst : bkT q ⟨s0, s1, s2, s3, s4⟩ (k + 1) = bkT q ⟨s0, s1, s2, s3, s4⟩ k := by rw [hstep, if_neg (by rw [hbk]; simp)]
              have HS := Lib.hid hst
              clear hstep hst hbk
              go_wp2_with fail
              rw [HW6.out]
              go_wp2_with fail
              go_at_fn g
              refine (HTk.out _ HI.out.2.1).mono ?_
              rintro e w7 ⟨rfl, g7⟩
              have hz3 := hy3 _ (HI.out.2.1.trans g7)
              have hzl := World.block_lt_of_cell? _ _ hz3
              obtain ⟨zl, z0, z1, z2, z3, z4⟩ := HQ6.out.nw g7
              have G7 := Lib.hid g7
              clear x0 x1 x2 x3 x4 hlq e0 e1 e2 e3 e4 g7
              go_wp2_with fail
              go_at_call 51
              refine (HCp.out _).mono ?_
              rintro e w8 ⟨rfl, g8⟩
              have G8 := Lib.hid (G7.out.trans g8)
              clear g8 zl z0 z1 z2 z3 z4 hz3 hzl
              go_wp2
              go_roundw
              case rel => exact ⟨k + 1, by omega, by go_num, by rw [HS.out]; exact HI.out.1.nw G8.out, HI.out.2.1.trans G8.out, HI.out.2.2⟩
              case measure => simp [intOf]; omega
          · have hst : bkT q ⟨s0, s1, s2, s3, s4⟩ (k + 1) = bkT q ⟨s0, s1, s2, s3, s4⟩ k ++ [b1] := by rw [hstep, if_pos (by rw [hbk]; simp)]
            have HS := Lib.hid hst
            clear hstep hst hbk
            go_wp2_with fail
            rw [HW6.out]
            go_wp2_with fail
            go_at_fn g
            refine (HTk.out _ HI.out.2.1).mono ?_
            rintro e w8 ⟨rfl, g8⟩
            have hI8 := HI.out.1.nw g8
            obtain ⟨v', w9, hr, q1, q2, q3, ⟨g', cap', hv'⟩⟩ := IS.push w8 _ (bkT q ⟨s0, s1, s2, s3, s4⟩ k) b1 hI8 (by have := bkT_len q ⟨s0, s1, s2, s3, s4⟩ k; omega)
            have HR := Lib.hid hr
            have HN8 := Lib.hid (HI.out.2.1.trans g8)
            have HE : Hid (IS w9 v' (bkT q ⟨s0, s1, s2, s3, s4⟩ (k + 1)) ∧ Nw w5 w9 ∧ ∀ g, v'.ownBlock = some g → w5.heap.size ≤ g) := Lib.hid ⟨by rw [HS.out]; exact q1, nw_tch HN8.out q2 (fun i e => HI.out.2.2 i e), fun g e => by
              rcases q3 g e with h | h
              · exact HI.out.2.2 g h
              · have := HN8.out.sz; omega⟩
            obtain ⟨zl', z0', z1', z2', z3', z4'⟩ := HQ6.out.nw g8
            clear hr q1 q2 q3 hI8 g8 hv' x0 x1 x2 x3 x4 hlq e0 e1 e2 e3 e4
            go_wp2_with (at_builtin; (refine wpl_app (by rfl) (.tmp 50) (.tmp 53) 36 rfl _ _ _ _ rfl rfl HR.out ?_))
            go_roundw
            case rel => exact ⟨k + 1, by omega, by go_num, HE.out⟩
            case measure => simp [intOf]; omega
      · obtain rfl : k = q.length := by omega
        have HSo := Lib.hid (dSortI _ _ _ hI (Nat.le_trans (bkT_len q _ _) hl))
        have HE := Lib.hid (And.intro hN hfr)
        clear hI hN hfr
        go_wp2_with fail
        go_at_call 52
        refine HSo.out.mono ?_
        rintro e w9 ⟨rfl, hI9, hT9⟩
        have HCm := Lib.hid (dCompactI _ _ _ hI9 (by rw [List.length_mergeSort]; exact Nat.le_trans (bkT_len q _ _) hl))
        have HN9 := Lib.hid (nw_tch HE.out.1 hT9 (fun i e => HE.out.2 i e))
        clear hI9 hT9
        go_wp2_with fail
        go_at_call 53
        refine HCm.out.mono ?_
        rintro e w10 ⟨v10, rfl, hI10, _, hT10⟩
        have HZ := Lib.hid (And.intro hI10 (nw_tch HN9.out hT10 (fun i e => HE.out.2 i e)))
        clear hI10 hT10
        go_wp2
        go_ret
        exact ⟨_, rfl, HB5.out.2.1.trans HZ.out.2, by rw [← HAll.out]; exact HZ.out.1⟩
end Go.Proofs.Ytmciiobncfchlaa
end

/- The developers' package queue: what a request of a valid head is. -/
section
namespace Go.Proofs.Ytmciiobncfchlaa
open Go.RowKit
set_option linter.unusedVariables false      -- a contract need not use every name

theorem dKnownS (m : Int) (w : World) : Calls Try.prog 69 #[.int .i64 m] w fun e w' => e = .returned (.bool (knI m)) ∧ w = w' := by
  by_cases h : 0 ≤ m ∧ m < 7
  · refine (known_yes m w h.1 h.2).mono ?_
    rintro e w' ⟨rfl, rfl⟩
    exact ⟨by rw [(knI_iff m).2 h], rfl⟩
  · refine (known_no m w (by omega)).mono ?_
    rintro e w' ⟨rfl, rfl⟩
    have : knI m = false := by
      cases e : knI m with
      | false => rfl
      | true => exact absurd ((knI_iff m).1 e) h
    exact ⟨by rw [this], rfl⟩
theorem dCovers (a b : Int) (w : World) : Calls Try.prog 105 #[.int .i64 a, .int .i64 b] w fun e w' => e = .returned (.bool (cvI a b)) ∧ Nw w w' := by
  have K1 := Lib.hid (fun w => dKnownS a w)
  have K2 := Lib.hid (fun w => dKnownS b w)
  unfold cvI
  cases h1 : knI a with
  | false =>
    rw [h1] at K1
    go_enter Try.func105, Try.ntmps105
    go_wp2_with (go_at_call 69; refine (K1.out _).mono ?_; rintro e w' ⟨rfl, rfl⟩)
    go_ret
    exact ⟨rfl, Nw.refl _⟩
  | true =>
    rw [h1] at K1
    cases h2 : knI b with
    | false =>
      rw [h2] at K2
      go_enter Try.func105, Try.ntmps105
      go_wp2_with fail
      go_at_call 69
      refine (K1.out _).mono ?_
      rintro e w' ⟨rfl, rfl⟩
      go_wp2_with fail
      go_at_call 69
      refine (K2.out _).mono ?_
      rintro e w' ⟨rfl, rfl⟩
      go_wp2
      go_ret
      exact ⟨rfl, Nw.refl _⟩
    | true =>
      rw [h2] at K2
      have HS := Lib.hid (fun w => dSup a b w h1 h2)
      generalize supT a b = x at *
      obtain ⟨B, hB⟩ : ∃ B, (x == a) = B := ⟨_, rfl⟩
      rw [hB]
      clear h1 h2
      go_enter Try.func105, Try.ntmps105
      go_wp2_with fail
      go_at_call 69
      refine (K1.out _).mono ?_
      rintro e w' ⟨rfl, rfl⟩
      go_wp2_with fail
      go_at_call 69
      refine (K2.out _).mono ?_
      rintro e w' ⟨rfl, rfl⟩
      go_wp2_with fail
      go_at_call 43
      refine (HS.out _).mono ?_
      rintro e w2 ⟨rfl, g2⟩
      go_wp2
      go_ret
      exact ⟨by simp, g2⟩
set_option maxRecDepth 100000 in
set_option maxHeartbeats 2000000 in
theorem dFormed (a b m n s W : Int) (w : World) : Calls Try.prog 84 #[.agg #[.int .i64 a, .int .i64 b, .int .i64 m, .int .i64 n, .int .i64 s], .int .i64 W] w fun e w' => e = .returned (.bool (rtB W ⟨a, b, m, n, s⟩)) ∧ Nw w w' := by
  have hK1 := fun w => dKnownS m w
  have hK2 := fun w => dKnownS n w
  have hCV := fun w => dCovers m n w
  have HWa := Lib.hid (fun z => dWaits ⟨a, b, m, n, s⟩ z)
  have HHo := Lib.hid (fun z => dHolds ⟨a, b, m, n, s⟩ z)
  unfold rqV at HWa HHo
  simp only at HWa HHo
  unfold rtB
  simp only
  generalize knI m = k1 at *
  generalize knI n = k2 at *
  generalize cvI m n = cv at *
  have K1 := Lib.hid hK1
  have K2 := Lib.hid hK2
  have CV := Lib.hid hCV
  clear hK1 hK2 hCV
  by_cases h1 : a < 0
  · rw [show (!(((((decide (a < 0) || !k1) || !k2) || decide (s < 0)) || decide (W < s))) && (if 0 < s then !cv else ((m != 0) && (n == m)))) = false by simp [h1]]
    go_enter Try.func84, Try.ntmps84
    go_wp2
    go_ret
    exact ⟨rfl, (Nw.refl _).alloc _⟩
  by_cases h4 : s < 0
  · rw [show (!(((((decide (a < 0) || !k1) || !k2) || decide (s < 0)) || decide (W < s))) && (if 0 < s then !cv else ((m != 0) && (n == m)))) = false by simp [h4]]
    go_enter Try.func84, Try.ntmps84
    go_wp2
    go_ret
    exact ⟨rfl, (Nw.refl _).alloc _⟩
  by_cases h5 : W < s
  · rw [show (!(((((decide (a < 0) || !k1) || !k2) || decide (s < 0)) || decide (W < s))) && (if 0 < s then !cv else ((m != 0) && (n == m)))) = false by simp [h5]]
    go_enter Try.func84, Try.ntmps84
    go_wp2
    go_ret
    exact ⟨rfl, (Nw.refl _).alloc _⟩
  cases k1
  · rw [show (!(((((decide (a < 0) || !false) || !k2) || decide (s < 0)) || decide (W < s))) && (if 0 < s then !cv else ((m != 0) && (n == m)))) = false by simp]
    go_enter Try.func84, Try.ntmps84
    go_wp2_with fail
    go_at_call 69
    refine (K1.out _).mono ?_
    rintro e w' ⟨rfl, rfl⟩
    go_wp2
    go_ret
    exact ⟨rfl, (Nw.refl _).alloc _⟩
  cases k2
  · rw [show (!(((((decide (a < 0) || !true) || !false) || decide (s < 0)) || decide (W < s))) && (if 0 < s then !cv else ((m != 0) && (n == m)))) = false by simp]
    go_enter Try.func84, Try.ntmps84
    go_wp2_with fail
    go_at_call 69
    refine (K1.out _).mono ?_
    rintro e w' ⟨rfl, rfl⟩
    go_wp2_with fail
    go_at_call 69
    refine (K2.out _).mono ?_
    rintro e w' ⟨rfl, rfl⟩
    go_wp2
    go_ret
    exact ⟨rfl, (Nw.refl _).alloc _⟩
  by_cases h6 : 0 < s
  · rw [show (!(((((decide (a < 0) || !true) || !true) || decide (s < 0)) || decide (W < s))) && (if 0 < s then !cv else ((m != 0) && (n == m)))) = !cv by simp [h1, h4, h5, h6]]
    have d6 : decide (0 < s) = true := by simpa using h6
    have hb := RqB.made w a b m n s 41
    obtain ⟨w1, hw1⟩ : ∃ w1, w.alloc (.cells #[.int .i64 a, .int .i64 b, .int .i64 m, .int .i64 n, .int .i64 s] 41) = w1 := ⟨_, rfl⟩
    have g1 : Nw w w1 := by rw [← hw1]; exact (Nw.refl w).alloc _
    rw [hw1] at hb
    have HW1 := Lib.hid hw1
    have HB := Lib.hid (And.intro hb g1)
    obtain ⟨yl, y0, y1, y2, y3, y4⟩ := hb
    clear hw1 g1
    go_enter Try.func84, Try.ntmps84
    go_wp2_with fail
    rw [HW1.out]
    go_wp2_with fail
    go_at_call 69
    refine (K1.out _).mono ?_
    rintro e w' ⟨rfl, rfl⟩
    go_wp2_with fail
    go_at_call 69
    refine (K2.out _).mono ?_
    rintro e w' ⟨rfl, rfl⟩
    go_wp2_with fail
    go_at_call 42
    refine (HWa.out _).mono ?_
    rintro e w2 ⟨rfl, g2⟩
    have HB2 := Lib.hid (And.intro (HB.out.1.nw g2) (HB.out.2.trans g2))
    clear yl y0 y1 y2 y3 y4 g2
    obtain ⟨yl, y0, y1, y2, y3, y4⟩ := HB2.out.1
    go_wp2_with fail
    go_at_call 105
    refine (CV.out _).mono ?_
    rintro e w4 ⟨rfl, g4⟩
    go_wp2
    go_ret
    exact ⟨rfl, HB2.out.2.trans g4⟩
  · rw [show (!(((((decide (a < 0) || !true) || !true) || decide (s < 0)) || decide (W < s))) && (if 0 < s then !cv else ((m != 0) && (n == m)))) = ((m != 0) && (n == m)) by simp [h1, h4, h5, h6]]
    have d6 : decide (0 < s) = false := by simpa using h6
    obtain ⟨M, hM⟩ : ∃ M, (m != 0) = M := ⟨_, rfl⟩
    rw [hM] at HHo ⊢
    clear hM
    have hb := RqB.made w a b m n s 41
    obtain ⟨w1, hw1⟩ : ∃ w1, w.alloc (.cells #[.int .i64 a, .int .i64 b, .int .i64 m, .int .i64 n, .int .i64 s] 41) = w1 := ⟨_, rfl⟩
    have g1 : Nw w w1 := by rw [← hw1]; exact (Nw.refl w).alloc _
    rw [hw1] at hb
    have HW1 := Lib.hid hw1
    have HB := Lib.hid (And.intro hb g1)
    obtain ⟨yl, y0, y1, y2, y3, y4⟩ := hb
    clear hw1 g1
    go_enter Try.func84, Try.ntmps84
    go_wp2_with fail
    rw [HW1.out]
    go_wp2_with fail
    go_at_call 69
    refine (K1.out _).mono ?_
    rintro e w' ⟨rfl, rfl⟩
    go_wp2_with fail
    go_at_call 69
    refine (K2.out _).mono ?_
    rintro e w' ⟨rfl, rfl⟩
    go_wp2_with fail
    go_at_call 42
    refine (HWa.out _).mono ?_
    rintro e w2 ⟨rfl, g2⟩
    have HB2 := Lib.hid (And.intro (HB.out.1.nw g2) (HB.out.2.trans g2))
    clear yl y0 y1 y2 y3 y4 g2
    obtain ⟨yl, y0, y1, y2, y3, y4⟩ := HB2.out.1
    go_wp2_with fail
    go_at_call 47
    refine (HHo.out _).mono ?_
    rintro e w4 ⟨rfl, g4⟩
    have HB4 := Lib.hid (And.intro (HB2.out.1.nw g4) (HB2.out.2.trans g4))
    clear yl y0 y1 y2 y3 y4 g4
    obtain ⟨yl, y0, y1, y2, y3, y4⟩ := HB4.out.1
    cases M
    · go_wp2
      go_ret
      exact ⟨by simp, HB4.out.2⟩
    · go_wp2
      go_ret
      exact ⟨by simp, HB4.out.2⟩
end Go.Proofs.Ytmciiobncfchlaa
end

/- The developers' package queue: the functions of a request that Check hands on. -/
section
namespace Go.Proofs.Ytmciiobncfchlaa
open Go.RowKit
set_option linter.unusedVariables false      -- a contract need not use every name

theorem dValid1 (W : Int) (R : Rq) (p : Nat) (w : World) (h : w.cell? ⟨p, 3, none⟩ = some (.int .i64 W)) :
    Calls Try.prog 83 #[rqV R, .pointer (some ⟨p, 0, none⟩)] w fun e w' => e = .returned (.bool (!rtB W R)) ∧ Nw w w' := by
  obtain ⟨a, b, m, n, s⟩ := R
  have HF := Lib.hid (fun z => dFormed a b m n s W z)
  have hpl := World.block_lt_of_cell? _ _ h
  unfold rqV
  generalize rtB W ⟨a, b, m, n, s⟩ = B at *
  have hN : Nw w (w.alloc (.cells #[.int .i64 a, .int .i64 b, .int .i64 m, .int .i64 n, .int .i64 s] 41)) := (Nw.refl w).alloc _
  go_enter Try.func83, Try.ntmps83
  go_wp2_with (go_at_call 84; refine (HF.out _).mono ?_; rintro e w2 ⟨rfl, g2⟩)
  go_ret
  exact ⟨rfl, hN.trans g2⟩
theorem Tells.valid {w : World} {W : Int} {p : Nat} (h : w.cell? ⟨p, 3, none⟩ = some (.int .i64 W)) : Tells w (.func (.func 83) #[] #[.pointer (some ⟨p, 0, none⟩)]) (fun R => !rtB W R) :=
  ⟨_, _, rfl, enters_of Try.func83 (by kernel_rfl) rfl, fun R w1 g => dValid1 W R p w1 (g.kp h)⟩
/-- By where requests stand. -/
def bpI (A B : Rq) : Int := if ((A.md != 0) && (B.md != 0)) = true then 0 else toI A B
theorem dByPlace (A B : Rq) (w : World) : Calls Try.prog 87 #[rqV A, rqV B] w fun e w' => e = .returned (.int .i64 (bpI A B)) ∧ Nw w w' := by
  have HA := Lib.hid (fun z => dHolds A z)
  have HB := Lib.hid (fun z => dHolds B z)
  have HT := Lib.hid (fun z => dByTurn A B z)
  unfold bpI
  obtain ⟨x, hx⟩ : ∃ x, (A.md != 0) = x := ⟨_, rfl⟩
  obtain ⟨y, hy⟩ : ∃ y, (B.md != 0) = y := ⟨_, rfl⟩
  rw [hx] at HA ⊢
  rw [hy] at HB ⊢
  clear hx hy
  generalize toI A B = T at *
  obtain ⟨a0, a1, a2, a3, a4⟩ := A
  obtain ⟨b0, b1, b2, b3, b4⟩ := B
  unfold rqV at *
  simp only at *
  have hA := RqB.made w a0 a1 a2 a3 a4 41
  obtain ⟨w1, hw1⟩ : ∃ w1, w.alloc (.cells #[.int .i64 a0, .int .i64 a1, .int .i64 a2, .int .i64 a3, .int .i64 a4] 41) = w1 := ⟨_, rfl⟩
  have g1 : Nw w w1 := by rw [← hw1]; exact (Nw.refl w).alloc _
  have hs1 : w1.heap.size = w.heap.size + 1 := by rw [← hw1]; simp
  rw [hw1] at hA
  have hB := RqB.made w1 b0 b1 b2 b3 b4 41
  obtain ⟨w2, hw2⟩ : ∃ w2, w1.alloc (.cells #[.int .i64 b0, .int .i64 b1, .int .i64 b2, .int .i64 b3, .int .i64 b4] 41) = w2 := ⟨_, rfl⟩
  have g2 : Nw w1 w2 := by rw [← hw2]; exact (Nw.refl w1).alloc _
  rw [hw2, hs1] at hB
  have hww : (w.alloc (.cells #[.int .i64 a0, .int .i64 a1, .int .i64 a2, .int .i64 a3, .int .i64 a4] 41)).alloc (.cells #[.int .i64 b0, .int .i64 b1, .int .i64 b2, .int .i64 b3, .int .i64 b4] 41) = w2 := by rw [hw1]; exact hw2
  have HW := Lib.hid hww
  have HH := Lib.hid (And.intro (hA.nw g2) (And.intro hB (g1.trans g2)))
  obtain ⟨xl, x0, x1, x2, x3, x4⟩ := hA.nw g2
  obtain ⟨yl, y0, y1, y2, y3, y4⟩ := hB
  clear hA hw1 hw2 hww g1 g2 hs1
  go_enter Try.func87, Try.ntmps87
  go_wp2_with fail
  rw [HW.out]
  go_wp2_with fail
  go_at_call 47
  refine (HA.out _).mono ?_
  rintro e w3 ⟨rfl, g3⟩
  have H3 := Lib.hid (And.intro (HH.out.1.nw g3) (And.intro (HH.out.2.1.nw g3) (HH.out.2.2.trans g3)))
  clear xl x0 x1 x2 x3 x4 yl y0 y1 y2 y3 y4 g3
  obtain ⟨xl, x0, x1, x2, x3, x4⟩ := H3.out.1
  obtain ⟨yl, y0, y1, y2, y3, y4⟩ := H3.out.2.1
  cases x
  · go_wp2_with fail
    go_at_call 80
    refine (HT.out _).mono ?_
    rintro e w4 ⟨rfl, g4⟩
    go_wp2
    go_ret
    exact ⟨by simp, H3.out.2.2.trans g4⟩
  · go_wp2_with fail
    go_at_call 47
    refine (HB.out _).mono ?_
    rintro e w4 ⟨rfl, g4⟩
    have H4 := Lib.hid (And.intro (H3.out.1.nw g4) (And.intro (H3.out.2.1.nw g4) (H3.out.2.2.trans g4)))
    clear xl x0 x1 x2 x3 x4 yl y0 y1 y2 y3 y4 g4
    obtain ⟨xl, x0, x1, x2, x3, x4⟩ := H4.out.1
    obtain ⟨yl, y0, y1, y2, y3, y4⟩ := H4.out.2.1
    cases y
    · go_wp2_with fail
      go_at_call 80
      refine (HT.out _).mono ?_
      rintro e w5 ⟨rfl, g5⟩
      go_wp2
      go_ret
      exact ⟨by simp, H4.out.2.2.trans g5⟩
    · go_wp2
      go_ret
      exact ⟨by simp, H4.out.2.2⟩
/-- A function value that gives a number of a request. -/
def Nums (w : World) (f : Value) (p : Rq → Int) : Prop := ∃ (g : Nat) (lb : Array Value), f = .func (.func g) #[] lb ∧ (∀ args w, (callFunc g args).run Try.prog w = .ok (.enter g args) w) ∧ ∀ (R : Rq) (w1 : World), Nw w w1 → Calls Try.prog g (#[rqV R] ++ lb) w1 fun e w' => e = .returned (.int .i64 (p R)) ∧ Nw w1 w'
theorem dNumI (R : Rq) (w : World) : Calls Try.prog 108 #[rqV R] w fun e w' => e = .returned (.int .i64 R.id) ∧ Nw w w' := by
  obtain ⟨a, b, m, n, s⟩ := R
  unfold rqV
  go_enter Try.func108, Try.ntmps108
  go_wp2
  go_ret
  exact ⟨rfl, (Nw.refl _).alloc _⟩
theorem dNumT (R : Rq) (w : World) : Calls Try.prog 109 #[rqV R] w fun e w' => e = .returned (.int .i64 R.txn) ∧ Nw w w' := by
  obtain ⟨a, b, m, n, s⟩ := R
  unfold rqV
  go_enter Try.func109, Try.ntmps109
  go_wp2
  go_ret
  exact ⟨rfl, (Nw.refl _).alloc _⟩
theorem dNumS (R : Rq) (w : World) : Calls Try.prog 110 #[rqV R] w fun e w' => e = .returned (.int .i64 R.sn) ∧ Nw w w' := by
  obtain ⟨a, b, m, n, s⟩ := R
  unfold rqV
  go_enter Try.func110, Try.ntmps110
  go_wp2
  go_ret
  exact ⟨rfl, (Nw.refl _).alloc _⟩
theorem dIdle (R : Rq) (w : World) : Calls Try.prog 106 #[rqV R] w fun e w' => e = .returned (.bool (!decide (0 < R.sn))) ∧ Nw w w' := by
  have HW := Lib.hid (fun z => dWaits R z)
  obtain ⟨a, b, m, n, s⟩ := R
  unfold rqV at *
  simp only at *
  have hN : Nw w (w.alloc (.cells #[.int .i64 a, .int .i64 b, .int .i64 m, .int .i64 n, .int .i64 s] 41)) := (Nw.refl w).alloc _
  go_enter Try.func106, Try.ntmps106
  go_wp2_with (go_at_call 42; refine (HW.out _).mono ?_; rintro e w2 ⟨rfl, g2⟩)
  go_ret
  exact ⟨rfl, hN.trans g2⟩
end Go.Proofs.Ytmciiobncfchlaa
end

/- The library's IsSortedFunc at requests. -/
section
namespace Go.Proofs.Ytmciiobncfchlaa
open Go.RowKit
set_option linter.unusedVariables false      -- a contract need not use every name

/-- A function value that compares two requests. -/
def Comps (w : World) (f : Value) (c : Rq → Rq → Int) : Prop := ∃ (g : Nat) (lb : Array Value), f = .func (.func g) #[] lb ∧ (∀ args w, (callFunc g args).run Try.prog w = .ok (.enter g args) w) ∧ ∀ (A B : Rq) (w1 : World), Nw w w1 → Calls Try.prog g (#[rqV A, rqV B] ++ lb) w1 fun e w' => e = .returned (.int .i64 (c A B)) ∧ Nw w1 w'
theorem Comps.place (w : World) : Comps w (.func (.func 87) #[] #[]) bpI :=
  ⟨_, _, rfl, enters_of Try.func87 (by kernel_rfl) rfl, fun A B w1 g => dByPlace A B w1⟩
def Asc (c : Rq → Rq → Int) (q : List Rq) (k : Int) : Prop := ∀ j : Nat, k ≤ j → ∀ h : j + 1 < q.length, ¬ c q[j + 1] q[j] < 0
set_option maxRecDepth 100000 in
set_option maxHeartbeats 4000000 in
theorem dIsSorted (v f : Value) (c : Rq → Rq → Int) (q : List Rq) (w : World) (hl : q.length ≤ 1000) (h : RqAt w v q) (hf : Comps w f c) :
    Calls Try.prog 86 #[v, f] w fun e w' => ∃ b, e = .returned (.bool b) ∧ Nw w w' ∧ (b = true ↔ Asc c q 0) := by
  obtain ⟨g, lb, rfl, eg, hT⟩ := hf
  have HT := Lib.hid hT
  have HAt := Lib.hid h
  obtain ⟨a, cp, rfl, _⟩ := h
  clear hT
  have hw0 : IntKind.i64.wrap ((q.length : Int) - 1) = (q.length : Int) - 1 := by rw [IntKind.wrap_i64]; omega
  go_enter Try.func86, Try.ntmps86
  go_wp2
  go_loopw [5] (fun i wr => ∃ k : Int, -1 ≤ k ∧ k < q.length ∧ i = .int .i64 k ∧ Asc c q k ∧ Nw w wr) (fun i _ => (intOf i + 1).toNat)
  case atStart => exact ⟨(q.length : Int) - 1, by omega, by omega, by first | rfl | rw [hw0], fun j hj h => by omega, Nw.refl _⟩
  case round =>
    obtain ⟨k, hk0, hk1, rfl, hA, hG⟩ := hrel
    clear hw0
    by_cases hp : 0 < k
    · obtain ⟨m, rfl⟩ := Int.eq_ofNat_of_zero_le (show 0 ≤ k by omega)
      obtain ⟨m1, hm1⟩ : ∃ m1 : Nat, m = m1 + 1 := ⟨m - 1, by omega⟩
      have hml : m < q.length := by omega
      have hm1l : m1 < q.length := by omega
      have hmi : (m : Int) < (q.length : Int) := by omega
      have hm1i : (m1 : Int) < (q.length : Int) := by omega
      have hwm : IntKind.i64.wrap ((m : Int) - 1) = (m1 : Int) := by rw [IntKind.wrap_i64]; omega
      obtain ⟨a', c', e, ⟨e4, _⟩ | ⟨b, o, e4, hc⟩⟩ := (HAt.out.nw hG)
      · subst e4; simp at hml
      simp only [Value.slice.injEq, true_and] at e
      obtain ⟨rfl, rfl⟩ := e
      subst e4
      have hce := hc.cell m hml
      have hde := hc.cell m1 hm1l
      have hstep : ¬ c q[m] q[m1] < 0 → Asc c q m1 := fun hn j hj h => by
        by_cases e : j = m1
        · subst e; subst hm1; exact hn
        · exact hA j (by omega) h
      have hbad : c q[m] q[m1] < 0 → ¬ Asc c q 0 := fun hn h => by
        subst hm1
        exact h m1 (by omega) hml hn
      have HTk := Lib.hid (fun (z : World) (g : Nw w z) => HT.out q[m] q[m1] z g)
      have HSt := Lib.hid (And.intro hstep hbad)
      obtain ⟨x, hx⟩ : ∃ x, c q[m] q[m1] = x := ⟨_, rfl⟩
      rw [hx] at HTk HSt
      clear hx hstep hbad hA
      have HM := Lib.hid hm1
      clear hm1
      generalize q[m] = R at *
      generalize q[m1] = S at *
      obtain ⟨b0, b1, b2, b3, b4⟩ := R
      obtain ⟨f0, f1, f2, f3, f4⟩ := S
      unfold rqV at HTk
      simp only at HTk
      have e0 := fun (z : World) (hz : Nw wr z) => hz.kp (hce 0 _ rfl)
      have e1 := fun (z : World) (hz : Nw wr z) => hz.kp (hce 1 _ rfl)
      have e2 := fun (z : World) (hz : Nw wr z) => hz.kp (hce 2 _ rfl)
      have e3 := fun (z : World) (hz : Nw wr z) => hz.kp (hce 3 _ rfl)
      have e4 := fun (z : World) (hz : Nw wr z) => hz.kp (hce 4 _ rfl)
      have g0 := fun (z : World) (hz : Nw wr z) => hz.kp (hde 0 _ rfl)
      have g1 := fun (z : World) (hz : Nw wr z) => hz.kp (hde 1 _ rfl)
      have g2 := fun (z : World) (hz : Nw wr z) => hz.kp (hde 2 _ rfl)
      have g3 := fun (z : World) (hz : Nw wr z) => hz.kp (hde 3 _ rfl)
      have g4 := fun (z : World) (hz : Nw wr z) => hz.kp (hde 4 _ rfl)
      simp only [Nat.add_zero] at e0 g0
      have HG := Lib.hid hG
      clear hce hde hc hG
      have q1 := (Nw.refl wr).drew1
      obtain ⟨wc, hwc⟩ : ∃ wc, wr.drew = wc := ⟨_, rfl⟩
      have dpos : decide (0 < (m : Int)) = true := by simpa using hp
      go_wp2
      refine region_told [some true, some true, some true, some true, some true, some true, some true, some true, some true, some true, some false, none, some true] (Nw wr) (by kernel_rfl) (by kernel_rfl) (by kernel_rfl) q1 ?_
      rw [hwc] at q1 ⊢
      clear hwc
      repeat (first
        | (refine HW.off ?_)
        | (refine HW.take' ?_; (apply Exists.intro; refine ⟨Or.inl ⟨by rfl, ?_⟩, ?_⟩; (intro x hx; go_simp; first | done | with_reducible rfl)); (try simp only [Act.put, List.setIfInBounds_toArray, List.set_cons_zero, List.set_cons_succ]))
        | (refine HW.go (fun K hK => ?_); go_simp; (go_at_fn g; (with_reducible refine (HTk.out _ (HG.out.trans q1)).mono ?_); rintro e wy ⟨rfl, gy⟩; refine hK.out _ _ (q1.trans gy) ?_; intro _; replace q1 := q1.trans gy; clear hK K gy)))
      refine HW.end_ ?_
      refine NoPanic.normal ?_
      have HG2 := Lib.hid (HG.out.trans q1)
      clear e0 e1 e2 e3 e4 g0 g1 g2 g3 g4 q1
      by_cases hx : x < 0
      · have dx : decide (x < 0) = true := by simpa using hx
        have HB := Lib.hid (HSt.out.2 hx)
        go_wp2
        go_ret
        exact ⟨false, rfl, HG2.out, by simpa using HB.out⟩
      · have dx : decide (x < 0) = false := by simpa using hx
        have hx' : 0 ≤ x := Int.not_lt.1 hx
        have HB := Lib.hid (HSt.out.1 (by first | exact hx | exact hx'))
        go_wp2
        go_roundw
        case rel => exact ⟨(m1 : Int), by omega, by omega, by first | rfl | rw [hwm], HB.out, HG2.out⟩
        case measure => have := HM.out; simp [intOf]; first | omega | (rw [hwm]; omega)
    · have dpos : decide (0 < k) = false := by simpa using hp
      have HA := Lib.hid (show Asc c q 0 from fun j hj h => hA j (by omega) h)
      have HG := Lib.hid hG
      clear hA hG hp
      go_wp2
      go_ret
      exact ⟨true, rfl, HG.out, by simpa using HA.out⟩
end Go.Proofs.Ytmciiobncfchlaa
end

/- The developers' package queue: whether what all hold agrees. -/
section
namespace Go.Proofs.Ytmciiobncfchlaa
open Go.RowKit Go.Maps Go.ChangeMaps
set_option linter.unusedVariables false      -- a contract need not use every name

set_option maxHeartbeats 1000000 in
theorem dAgree1 {w : World} {g0 p b n : Nat} {t r W : Int} {v : Value} {q : List Rq} (h : Ln w g0 p t r W v b n q (cntQ q)) (hl : q.length ≤ 1000) (x : Nat) (hx : w.cell? ⟨x, 0, none⟩ = some (.pointer (some ⟨p, 0, none⟩))) (R : Rq) :
    Calls Try.prog 111 #[rqV R, .pointer (some ⟨x, 0, none⟩)] w fun e w' => e = .returned (.bool (!fitB (cntQ q) R.md R.md)) ∧ Nw w w' := by
  obtain ⟨b0, b1, b2, b3, b4⟩ := R
  unfold rqV
  simp only
  have hN : Nw w (w.alloc (.cells #[.int .i64 b0, .int .i64 b1, .int .i64 b2, .int .i64 b3, .int .i64 b4] 41)) := (Nw.refl w).alloc _
  have HF := Lib.hid (fun (z : World) (g : Nw w z) => dFitsA p b n (cntQ q) b2 b2 _ _ _ _ _ z (h.nw g).obj (h.nw g).map (fun y => by have := cntQ_bd q y; omega))
  have hxl := World.block_lt_of_cell? _ _ hx
  generalize fitB (cntQ q) b2 b2 = B at *
  clear h
  go_enter Try.func111, Try.ntmps111
  go_wp2_with (go_at_call 73; refine (HF.out _ hN).mono ?_; rintro e w2 ⟨rfl, g2⟩)
  go_ret
  exact ⟨rfl, hN.trans g2⟩
set_option maxRecDepth 100000 in
set_option maxHeartbeats 2000000 in
theorem dAgree (t r W : Int) (v : Value) (q : List Rq) (w : World) (hl : q.length ≤ 1000) (hkn : ∀ R ∈ q, knI R.md = true) (h : RqAt w v q) :
    Calls Try.prog 88 #[hdV t r v W] w fun e w' => e = .returned (.bool (!q.any fun R => !fitB (cntQ q) R.md R.md)) ∧ Nw w w' := by
  have HLi := Lib.hid (fun (w1 : World) (g : Nw w w1) => dLineOf t r W v q w1 hl hkn (h.nw g))
  obtain ⟨a, c, rfl, _⟩ := h
  unfold hdV at *
  have hx1 := allocAt w (.cells #[.int .i64 t, .int .i64 r, .slice a q.length c, .int .i64 W] 27)
  have hN : Nw w (w.alloc (.cells #[.int .i64 t, .int .i64 r, .slice a q.length c, .int .i64 W] 27)) := (Nw.refl w).alloc _
  go_enter Try.func88, Try.ntmps88
  go_wp2_with fail
  go_at_call 39
  refine (HLi.out _ hN).mono ?_
  rintro e w2 ⟨p, v1, b, n, rfl, g2, hL2, hnq⟩
  have hc3 := allocAt w2 (.cells #[.pointer (some ⟨p, 0, none⟩)] 68)
  have g3 : Nw w2 (w2.alloc (.cells #[.pointer (some ⟨p, 0, none⟩)] 68)) := (Nw.refl w2).alloc _
  obtain ⟨w3, hw3⟩ : ∃ w3, w2.alloc (.cells #[.pointer (some ⟨p, 0, none⟩)] 68) = w3 := ⟨_, rfl⟩
  rw [hw3] at hc3 g3
  have HW3 := Lib.hid hw3
  have hL3 := hL2.nw g3
  have hcl := hcell (j := 0) hc3
  have hxl := hlt hc3
  have HCo := Lib.hid (dContains v1 _ _ q w3 hl (RqOwn.rd hL3.own) ⟨111, #[.pointer (some ⟨w2.heap.size, 0, none⟩)], rfl, enters_of Try.func111 (by kernel_rfl) rfl, fun R w1 g => dAgree1 (hL3.nw g) hl w2.heap.size (g.kp hcl) R⟩)
  have p2 := hcell (j := 2) hL2.obj
  have hpl := hlt hL2.obj
  obtain ⟨a1, c1, hv1⟩ := (RqOwn.rd hL3.own).form
  subst hv1
  have HN := Lib.hid ((hN.trans g2).trans g3)
  clear hx1 hN g2 g3 hw3 hL2 hL3 hc3 hkn HLi
  clear hcl hxl
  go_wp2_with fail
  rw [HW3.out]
  go_at_call 74
  refine HCo.out.mono ?_
  rintro e w4 ⟨rfl, g4⟩
  go_wp2
  go_ret
  exact ⟨rfl, HN.out.trans g4⟩
end Go.Proofs.Ytmciiobncfchlaa
end

/- The developers' package queue: whether numbers are distinct: a map of keys. -/
section
namespace Go.Proofs.Ytmciiobncfchlaa
open Go.RowKit Go.Maps Go.ChangeMaps
set_option linter.unusedVariables false      -- a contract need not use every name

theorem lawK : Keyed Try.prog 3 := int_keyed Try.underlying3
/-- A number that an int holds. -/
def Fit (k : Int) : Prop := -9223372036854775808 ≤ k ∧ k ≤ 9223372036854775807
theorem keyK {k : Int} (h : Fit k) : keyOf Try.prog 3 (.int .i64 k) = some (.int .i64 k) := keyOf_int_mk Try.underlying3 (wfM h.1 h.2)
theorem isKeyK {k : Int} (h : Fit k) : WideAt.IsKeyLit (.int .i64 k) := lawK.key (keyK h)
/-- The map in block b has these keys. -/
def KeyS (w : World) (b n : Nat) (l : List Int) : Prop :=
  ∃ D : DataW Unit, w.ownsMap Try.prog 3 (fun _ => some (.lit (.int .i64 0), [])) b n D ∧ (∀ k, Maps.has D (.int .i64 k) = decide (k ∈ l)) ∧ Maps.size D ≤ l.length ∧ (Maps.size D = l.length ↔ l.Nodup)
theorem KeyS.kept {w w' : World} {b n : Nat} {l : List Int} {row : Option Nat} (h : KeyS w b n l) (hg : w.grownBy w' row) (hne : some b ≠ row) : KeyS w' b n l := by
  obtain ⟨D, h1, h2⟩ := h
  exact ⟨D, h1.kept hg hne, h2⟩
theorem KeyS.nw {w w' : World} {b n : Nat} {l : List Int} (h : KeyS w b n l) (g : Nw w w') : KeyS w' b n l := h.kept (g.grownBy none) (by simp)
theorem KeyS.made (w : World) : KeyS (w.alloc (.map #[] 0)) w.heap.size 0 [] :=
  ⟨_, World.ownsMap_made _ _ _ _, fun k => by simp [Maps.has], by simp [Maps.size], by simp [Maps.size]⟩
theorem nodup_snoc {l : List Int} {k : Int} : (l ++ [k]).Nodup ↔ l.Nodup ∧ k ∉ l := by
  rw [List.nodup_append]
  constructor
  · rintro ⟨h1, _, h3⟩
    exact ⟨h1, fun m => h3 k m k (by simp) rfl⟩
  · rintro ⟨h1, h2⟩
    exact ⟨h1, by simp, fun a ha b hb e => by
      rw [List.mem_singleton] at hb
      subst hb; subst e; exact h2 ha⟩
set_option maxRecDepth 100000 in
theorem KeyS.put {w : World} {b n : Nat} {l : List Int} (h : KeyS w b n l) (hn : n < 1000000) {k : Int} (hk : Fit k) :
    ∃ w', (Instr.mapUpdate 133 (.map (some b)) (.int .i64 k) (.agg #[])).run Try.prog w = .ok () w' ∧ KeyS w' b (n + 1) (l ++ [k]) ∧ w.grownBy w' (some b) := by
  obtain ⟨D, o, h2, h3, h4⟩ := h
  obtain ⟨w', hr, o', hg⟩ := o.update (t := 133) lawK Try.underlying133 (by unfold maxLen; omega) (keyK hk) (show (fun _ : Value => some ((.lit (.int .i64 0) : DataW Unit), ([] : List MemPlace))) (.agg #[]) = some (.lit (.int .i64 0), []) from rfl)
  have hsz := size_put (k := .int .i64 k) (o.tidy lawK) (.lit (.int .i64 0))
  rw [h2 k] at hsz
  refine ⟨w', hr, ⟨_, o', fun y => ?_, ?_, ?_⟩, hg⟩
  · by_cases q : y = k
    · subst q
      rw [has_put_same o.isMap (isKeyK hk)]
      simp
    · rw [has_put_other (litM_ne q), h2 y]
      simp [q]
  · rw [hsz, List.length_append, List.length_singleton]
    split <;> omega
  · rw [hsz, nodup_snoc, List.length_append, List.length_singleton]
    by_cases m : k ∈ l
    · rw [if_pos (by simpa using m)]
      exact ⟨fun e => by omega, fun e => absurd m e.2⟩
    · rw [if_neg (by simpa using m)]
      exact ⟨fun e => ⟨h4.1 (by omega), m⟩, fun e => by have := h4.2 e.1; omega⟩
theorem KeyS.len {w : World} {b n : Nat} {l : List Int} (h : KeyS w b n l) : ∃ s : Nat, (∀ ty, (Builtin.len_ #[133] ty #[.map (some b)]).run Try.prog w = .ok (.int .i64 s) w) ∧ s ≤ l.length ∧ (s = l.length ↔ l.Nodup) := by
  obtain ⟨D, o, _, h3, h4⟩ := h
  exact ⟨Maps.size D, fun ty => o.len Try.underlying133 ty, h3, h4⟩
end Go.Proofs.Ytmciiobncfchlaa
end
