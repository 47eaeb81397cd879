/- Texts merged: Rf, QvQ, QvJ, QvR, QvK -/
import Derived.Test.YtmciiobncfchlaaGreatQueueCallsB8
import Derived.RangeFuncNested
import Derived.RangeFuncBound
import Derived.RangeFuncCalls
import Derived.RangeFuncLeaves
import Derived.Shelf.RegionOpen
import Derived.OwnWalkIn
import Derived.TacticsInMore
import Derived.LoopNIn
import Derived.LoopIn
import Derived.Shelf.Abstract
import Derived.Lib.SliceRun
import Derived.Deep.Upon

/- A range over a function that hands out ints and writes memory of its own: the iterator owns a set of blocks, which grows; the loop's body leaves them alone, the iterator leaves all others alone. The function may be a method value. Of no program. -/
section
namespace Go.Proofs.YtmciiobncfchlaaGreat
open Go.RowKit Go.Shelf

/-- What lies in S lies as it lay. -/
structure KpS (S : Nat → Prop) (A B : World) : Prop where
  size : A.heap.size ≤ B.heap.size
  same : ∀ k, S k → B.heap[k]? = A.heap[k]?
theorem KpS.refl (S : Nat → Prop) (A : World) : KpS S A A := ⟨Nat.le_refl _, fun _ _ => rfl⟩
theorem KpS.trans {S : Nat → Prop} {A B C : World} (h : KpS S A B) (k : KpS S B C) : KpS S A C := ⟨Nat.le_trans h.size k.size, fun i hi => (k.same i hi).trans (h.same i hi)⟩
theorem KpS.mono {S S' : Nat → Prop} {A B : World} (h : KpS S A B) (hs : ∀ k, S' k → S k) : KpS S' A B := ⟨h.size, fun i hi => h.same i (hs i hi)⟩
theorem KpS.tch {S T : Nat → Prop} {A B : World} (h : Tch T A B) (hs : ∀ k, S k → k < A.heap.size ∧ ¬ T k) : KpS S A B := ⟨h.size, fun i hi => h.block i (hs i hi).1 (hs i hi).2⟩
theorem KpS.put {S : Nat → Prop} {A : World} {l : Nat} (o : Obj) (hl : ¬ S l) : KpS S A (A.putObj l o) := ⟨by simp, fun i hi => World.putObj_heap_other (fun e => hl (e ▸ hi))⟩

/-- What an iterator, or the loop's own book-keeping, may do: blocks of S, new blocks, and the loop's two blocks, which are no cells. -/
structure Ch' (n₀ : Nat) (S : Nat → Prop) (A B : World) : Prop where
  os : B.os = A.os
  tape : B.tape = A.tape
  output : B.output = A.output
  size : A.heap.size ≤ B.heap.size
  block : ∀ k, k < A.heap.size → ¬ S k → B.heap[k]? = A.heap[k]? ∨ ((k = n₀ ∨ k = n₀ + 1) ∧ ∃ o, A.heap[k]? = some o ∧ o.isCells = false)
theorem Ch'.of_tch {n₀ : Nat} {S : Nat → Prop} {A B : World} (h : Tch S A B) : Ch' n₀ S A B := ⟨h.os, h.tape, h.output, h.size, fun k hk hn => .inl (h.block k hk hn)⟩
theorem Ch'.put {n₀ : Nat} {S : Nat → Prop} {A : World} {l : Nat} {o : Obj} (o' : Obj) (hn : l = n₀ ∨ l = n₀ + 1) (h : A.heap[l]? = some o) (ho : o.isCells = false) : Ch' n₀ S A (A.putObj l o') :=
  ⟨rfl, rfl, rfl, by simp, fun k _ _ => by
    by_cases e : k = l
    · subst e; exact .inr ⟨hn, o, h, ho⟩
    · exact .inl (World.putObj_heap_other e)⟩
theorem Ch'.cells {n₀ : Nat} {S : Nat → Prop} {A B : World} {k : Nat} {c : Array Value} {t : TypeId} {f : Nat × Nat} (h : Ch' n₀ S A B) (hk : A.heap[k]? = some (.cells c t f)) (hn : ¬ S k) : B.heap[k]? = some (.cells c t f) := by
  rcases h.block k (Array.getElem?_eq_some_iff.1 hk).1 hn with e | ⟨_, o, ho, hc⟩
  · exact e.trans hk
  · rw [hk] at ho; cases ho; cases hc
theorem Ch'.row {n₀ : Nat} {S : Nat → Prop} {A B : World} {v : Value} {n : Nat} {e : TypeId} {size : Nat} {xs : List Value} (h : Ch' n₀ S A B) (hr : A.ownsRow 0 e size v n xs) (hn : ∀ k, v.ownBlock = some k → ¬ S k) : B.ownsRow 0 e size v n xs := by
  refine ⟨hr.1, ?_⟩
  rcases hr.2 with h0 | ⟨g, cap, cur, rfl, hb, hg, rest⟩
  · exact .inl h0
  · exact .inr ⟨g, cap, cur, rfl, hb, h.cells hg (hn g rfl), rest⟩
/-- From w on nothing has changed but blocks of T and what came later. -/
theorem Ch'.tch {n₀ : Nat} {S T : Nat → Prop} {w A B : World} (h : Ch' n₀ S A B) (k : Tch T w A) (hn : w.heap.size ≤ n₀) (hS : ∀ i, i < w.heap.size → S i → T i) : Tch T w B :=
  ⟨h.os.trans k.os, h.tape.trans k.tape, h.output.trans k.output, Nat.le_trans k.size h.size, fun i hi ht => by
    rcases h.block i (Nat.lt_of_lt_of_le hi k.size) (fun e => ht (hS i hi e)) with e | ⟨e, _⟩
    · exact e.trans (k.block i hi ht)
    · omega⟩

/-- The loop's two blocks lie as they lay. -/
def KpD (n₀ : Nat) (A B : World) : Prop := ∀ k, (k = n₀ ∨ k = n₀ + 1) → B.heap[k]? = A.heap[k]?
/-- The iterator's contract. -/
def SeqH (F : Fence) (n : Nat) (P : Program) (g : Nat) (fa lb : Array Value) (xs : List Int) (S0 : Nat → Prop) (End : World → Prop) (w : World) : Prop :=
  ∀ (l : Nat) (J Jx : (Nat → Prop) → List Int → World → Prop) (W : World), Nw w W →
    (∀ S S' pre A B, J S pre A → Tch S A B → (∀ k, S k → S' k) → (∀ k, S' k → S k ∨ A.heap.size ≤ k) → (∀ k, S' k → k < B.heap.size) → J S' pre B) →
    (∀ S S' pre A B, Jx S pre A → Tch S A B → (∀ k, S k → S' k) → (∀ k, S' k → S k ∨ A.heap.size ≤ k) → (∀ k, S' k → k < B.heap.size) → Jx S' pre B) →
    (∀ S pre x A, J S pre A → (∀ k, S0 k → S k) → (∀ k, S k → k < A.heap.size) → (pre ++ [x]) <+: xs → YieldAt F (n - 1) P l #[.int .i64 x] A fun e B =>
      (e = .returned (.bool true) ∧ J S (pre ++ [x]) B ∧ KpS S A B) ∨ (e = .returned (.bool false) ∧ Jx S (pre ++ [x]) B ∧ KpS S A B)) →
    J S0 [] W →
    CallsIn F n P g (fa ++ #[.func (.yield l) #[] #[]] ++ lb) W fun e W' => (∃ v, e = .returned v) ∧ ((∃ S, J S xs W' ∧ End W') ∨ (∃ S pre, pre <+: xs ∧ Jx S pre W'))

/-- How the body of a round may be left. -/
def rfPost (n₀ : Nat) (S : Nat → Prop) (I : (Nat → Prop) → List Int → World → Prop) (Ix : Code → (Nat → Prop) → List Int → World → Prop) (pre : List Int) (A : World) : Exit → Act → World → Prop
  | .normal, _, B => KpD n₀ A B ∧ KpS S A B ∧ I S pre B
  | .ret, _, B => KpD n₀ A B ∧ KpS S A B ∧ Ix .ret S pre B
  | .exit id, _, B => KpD n₀ A B ∧ KpS S A B ∧ Ix (.exit id) S pre B
  | .goto t, _, B => KpD n₀ A B ∧ KpS S A B ∧ Ix (.goto t) S pre B
  | .panic _, _, _ => False
  | .outgrown, _, _ => False

variable {F : Fence} {n : Nat} {P : Program}
theorem rf_law {g : Operand} {ps : Array Tmp} {assign body : Code} {Q : Exit → Act → World → Prop} {a : Act} {w : World}
    (hro : F.round = none) (h1 : 1 ≤ n) {gf : Nat} {fa lb : Array Value} (hg : a.eval g = .func (.func gf) fa lb) (hFg : F.fn gf) (eg : ∀ args w, (callFunc gf args).run P w = .ok (.enter gf args) w)
    {xs : List Int} {S0 : Nat → Prop} {End : World → Prop} (hS0 : ∀ k, S0 k → k < w.heap.size) (hseq : SeqH F (n - 1) P gf fa lb xs S0 End w) (hps : ps.size = 1)
    (hEnd : ∀ (A : World) (l : Nat) (o o' : Obj), w.heap.size ≤ l → A.heap[l]? = some o → o.isCells = false → End A → End (A.putObj l o'))
    (I : (Nat → Prop) → List Int → World → Prop) (Ix : Code → (Nat → Prop) → List Int → World → Prop)
    (hI : ∀ S S' pre A B, I S pre A → Ch' w.heap.size S A B → (∀ k, S k → S' k) → (∀ k, S' k → S k ∨ A.heap.size ≤ k) → (∀ k, S' k → k < B.heap.size) → I S' pre B)
    (hIx : ∀ c S S' pre A B, Ix c S pre A → Ch' w.heap.size S A B → (∀ k, S k → S' k) → (∀ k, S' k → S k ∨ A.heap.size ≤ k) → (∀ k, S' k → k < B.heap.size) → Ix c S' pre B)
    (h0 : I S0 [] w) (a₁ : Int → Act)
    (hassign : ∀ (l : Nat) (x : Int) (A : World) (K : Act → World → Prop), K (a₁ x) A →
      assign.wpIn (F.inRound l) (n - 1 - 1) P (Exit.then K (fun _ _ _ => False)) { tmps := (ps.zip #[.int .i64 x]).foldl (fun t (p, v) => t.setIfInBounds p v) a.tmps, defers := [] } A)
    (hbody : ∀ (l : Nat) (S : Nat → Prop) (pre : List Int) (x : Int) (A : World), I S pre A → (∀ k, S0 k → S k) → (∀ k, S k → k < A.heap.size) → (∀ k, (k = w.heap.size ∨ k = w.heap.size + 1) → ¬ S k ∧ ∃ o, A.heap[k]? = some o ∧ o.isCells = false) →
      (pre ++ [x]) <+: xs → body.wpIn (F.inRound l) (n - 1 - 1) P (rfPost w.heap.size S I Ix (pre ++ [x]) A) (a₁ x) A)
    (hdone : ∀ (D : Nat) (S : Nat → Prop) (W : World), D = w.heap.size → (∀ k, S k → k < W.heap.size) → I S xs W → End W → W.heap[D]? = some (.deferred (some [])) → Q .normal { a with defers := { target := .collected D, args := #[] } :: a.defers } W)
    (hstop : ∀ (D : Nat) (c : Code) (S : Nat → Prop) (pre : List Int) (W : World), D = w.heap.size → pre <+: xs → Ix c S pre W → W.heap[D]? = some (.deferred (some [])) → c.wpIn F n P Q { a with defers := { target := .collected D, args := #[] } :: a.defers } W) :
    (Code.rangeFunc g ps assign body).wpIn F n P Q a w := by
  refine wpIn_rangeFunc ?_
  intro fn hfn
  rw [hro]
  obtain ⟨rec, hrec⟩ : ∃ rec : LoopState → Option Code → Loop, rec = fun st pe => { state := st, pending := pe, fn, tmps := a.tmps, params := ps, assign, body, defers := w.heap.size } := ⟨_, rfl⟩
  obtain ⟨W1, hW1⟩ : ∃ W1, (w.alloc (.deferred (some []))).alloc (.loop (rec .ready none)) = W1 := ⟨_, rfl⟩
  have hL1 : W1.heap[w.heap.size + 1]? = some (.loop (rec .ready none)) := by
    rw [← hW1]; have := World.alloc_heap_new (w.alloc (.deferred (some []))) (.loop (rec .ready none)); rwa [World.size_alloc] at this
  have hK1 : W1.heap[w.heap.size]? = some (.deferred (some [])) := by
    rw [← hW1]; exact (Below.heap_alloc _ _ _ (by simp)).trans (World.alloc_heap_new w _)
  have hb1 : Nw w W1 := by rw [← hW1]; exact ((Nw.refl w).alloc _).alloc _
  have hI1 : I S0 [] W1 := hI S0 S0 [] w W1 h0 (Ch'.of_tch (Tch.nw hb1)) (fun _ e => e) (fun _ e => .inl e) (fun k e => Nat.lt_of_lt_of_le (hS0 k e) hb1.sz)
  refine ⟨w.heap.size + 1, [{ target := .collected w.heap.size, args := #[] }], W1, { target := .fn (.func gf) lb, args := fa ++ #[.func (.yield (w.heap.size + 1)) #[] #[]] }, W1, gf,
    fa ++ #[.func (.yield (w.heap.size + 1)) #[] #[]] ++ lb, W1, ?_, ?_, ?_, ?_, fun _ => h1, ?_⟩
  · rw [← hW1, hrec]; exact run_enterLoop_outer _ _ _ _ _
  · simp only [resolve, hg]
    simp [go_sem]
  · intro f' hf'; simp [Target.leads] at hf'; subst hf'; exact hFg
  · simp [invoke, go_sem, eg]
  · have lt_of : ∀ {A : World} {k : Nat} {o : Obj}, A.heap[k]? = some o → k < A.heap.size := fun h => (Array.getElem?_eq_some_iff.1 h).1
    refine (hseq (w.heap.size + 1)
      (fun S pre W => I S pre W ∧ W.heap[w.heap.size + 1]? = some (.loop (rec .ready none)) ∧ W.heap[w.heap.size]? = some (.deferred (some [])) ∧ ¬ S (w.heap.size + 1) ∧ ¬ S w.heap.size ∧ (∀ k, S k → k < W.heap.size))
      (fun S pre W => ∃ c, Ix c S pre W ∧ W.heap[w.heap.size + 1]? = some (.loop (rec .done (some c))) ∧ W.heap[w.heap.size]? = some (.deferred (some [])) ∧ ¬ S (w.heap.size + 1) ∧ ¬ S w.heap.size ∧ (∀ k, S k → k < W.heap.size))
      W1 hb1 ?_ ?_ ?_ ⟨hI1, hL1, hK1, fun e => by have := hS0 _ e; omega, fun e => by have := hS0 _ e; omega, fun k e => Nat.lt_of_lt_of_le (hS0 k e) hb1.sz⟩).mono ?_
    · rintro S S' pre A B ⟨hi, hl, hk, hn1, hn2, hbd⟩ ht hs1 hs2 hs3
      exact ⟨hI S S' pre A B hi (Ch'.of_tch ht) hs1 hs2 hs3, (ht.block _ (lt_of hl) hn1).trans hl, (ht.block _ (lt_of hk) hn2).trans hk,
        fun e => (hs2 _ e).elim hn1 (fun h => by have := lt_of hl; omega), fun e => (hs2 _ e).elim hn2 (fun h => by have := lt_of hk; omega), hs3⟩
    · rintro S S' pre A B ⟨c, hi, hl, hk, hn1, hn2, hbd⟩ ht hs1 hs2 hs3
      exact ⟨c, hIx c S S' pre A B hi (Ch'.of_tch ht) hs1 hs2 hs3, (ht.block _ (lt_of hl) hn1).trans hl, (ht.block _ (lt_of hk) hn2).trans hk,
        fun e => (hs2 _ e).elim hn1 (fun h => by have := lt_of hl; omega), fun e => (hs2 _ e).elim hn2 (fun h => by have := lt_of hk; omega), hs3⟩
    · -- one round
      rintro S pre x W ⟨hi, hl, hk, hn1, hn2, hbd⟩ hsub hex hpre
      have hy := run_yield (P := P) (args := #[.int .i64 x]) hl (by rw [hrec]; exact hps.symm)
      rw [hrec] at hy
      refine ⟨fn, _, assign, body, hy, roundIn_of_wpIn hfn (hassign _ x W _ ?_)⟩
      clear hy
      have nw1 : Nw W W := Nw.refl W
      have hl1 : W.heap[w.heap.size + 1]? = some (.loop (rec .ready none)) := (nw1.block _ (lt_of hl)).trans hl
      have hk1 : W.heap[w.heap.size]? = some (.deferred (some [])) := (nw1.block _ (lt_of hk)).trans hk
      have hlW := lt_of hl
      have hi1 : I S pre W := hI S S pre W W hi (Ch'.of_tch (Tch.nw nw1)) (fun _ e => e) (fun _ e => .inl e) (fun k e => Nat.lt_of_lt_of_le (hex k e) nw1.sz)
      refine ⟨_, run_beginRound hl1 (by rw [hrec]), ?_⟩
      obtain ⟨A2, hA2⟩ : ∃ A2, W.putObj (w.heap.size + 1) (.loop { rec .ready none with state := .busy }) = A2 := ⟨_, rfl⟩
      rw [hA2]
      have hl2 : A2.heap[w.heap.size + 1]? = some (.loop { rec .ready none with state := .busy }) := by rw [← hA2]; exact World.putObj_heap_same (lt_of hl1)
      have hk2 : A2.heap[w.heap.size]? = some (.deferred (some [])) := by rw [← hA2]; exact (World.putObj_heap_other (by omega)).trans hk1
      have hi2 : I S pre A2 := by rw [← hA2]; exact hI S S pre W _ hi1 (Ch'.put _ (.inr rfl) hl1 rfl) (fun _ e => e) (fun _ e => .inl e) (fun k e => by rw [World.putObj_size]; exact Nat.lt_of_lt_of_le (hex k e) nw1.sz)
      have hsz2 : W.heap.size ≤ A2.heap.size := by rw [← hA2]; simp
      have kps : KpS S W A2 := by
        rw [← hA2]
        exact (KpS.tch (Tch.nw (S := fun _ => False) nw1) (fun k e => ⟨hex k e, fun h => h⟩)).trans (KpS.put _ hn1)
      refine wpIn_mono (hbody _ S pre x A2 hi2 hsub (fun k e => Nat.lt_of_lt_of_le (hex k e) hsz2) (fun k e => by
        rcases e with rfl | rfl
        · exact ⟨hn2, _, hk2, rfl⟩
        · exact ⟨hn1, _, hl2, rfl⟩) hpre) ?_
      have fin : ∀ (jump : Option Code) (W3 : World), KpD w.heap.size A2 W3 →
          (Instr.endRound (w.heap.size + 1) jump).run P W3 = .ok (.bool jump.isNone) (W3.putObj (w.heap.size + 1) (.loop (rec (if jump.isNone then .ready else .done) jump))) ∧
          W3.heap[w.heap.size + 1]? = some (.loop { rec .ready none with state := .busy }) ∧
          (W3.putObj (w.heap.size + 1) (.loop (rec (if jump.isNone then .ready else .done) jump))).heap[w.heap.size + 1]? = some (.loop (rec (if jump.isNone then .ready else .done) jump)) ∧
          (W3.putObj (w.heap.size + 1) (.loop (rec (if jump.isNone then .ready else .done) jump))).heap[w.heap.size]? = some (.deferred (some [])) := fun jump W3 hk3 => by
        have hl3 := (hk3 _ (.inr rfl)).trans hl2
        have := run_endRound (P := P) jump hl3
        rw [hrec] at this ⊢
        exact ⟨this, by rw [hrec] at hl3; exact hl3, World.putObj_heap_same (lt_of hl3), (World.putObj_heap_other (by omega)).trans ((hk3 _ (.inl rfl)).trans hk2)⟩
      have b3 : ∀ {W3 : World}, KpS S A2 W3 → ∀ {jj : Obj} (k : Nat), S k → k < (W3.putObj (w.heap.size + 1) jj).heap.size := fun h3 _ k e => by rw [World.putObj_size]; exact Nat.lt_of_lt_of_le (hex k e) (kps.trans h3).size
      rintro e a3 W3 hp
      cases e with
      | normal =>
        obtain ⟨hk3, hkp3, hi3⟩ := hp
        obtain ⟨hr, hl3, hl4, hk4⟩ := fin none W3 hk3
        exact ⟨_, _, hr, .inl ⟨rfl, ⟨hI S S _ W3 _ hi3 (Ch'.put _ (.inr rfl) hl3 rfl) (fun _ e => e) (fun _ e => .inl e) (b3 hkp3), hl4, hk4, hn1, hn2, b3 hkp3⟩, (kps.trans hkp3).trans (KpS.put _ hn1)⟩⟩
      | ret =>
        obtain ⟨hk3, hkp3, hi3⟩ := hp
        obtain ⟨hr, hl3, hl4, hk4⟩ := fin (some .ret) W3 hk3
        exact ⟨_, _, hr, .inr ⟨rfl, ⟨.ret, hIx _ S S _ W3 _ hi3 (Ch'.put _ (.inr rfl) hl3 rfl) (fun _ e => e) (fun _ e => .inl e) (b3 hkp3), hl4, hk4, hn1, hn2, b3 hkp3⟩, (kps.trans hkp3).trans (KpS.put _ hn1)⟩⟩
      | exit id =>
        obtain ⟨hk3, hkp3, hi3⟩ := hp
        obtain ⟨hr, hl3, hl4, hk4⟩ := fin (some (.exit id)) W3 hk3
        exact ⟨_, _, hr, .inr ⟨rfl, ⟨.exit id, hIx _ S S _ W3 _ hi3 (Ch'.put _ (.inr rfl) hl3 rfl) (fun _ e => e) (fun _ e => .inl e) (b3 hkp3), hl4, hk4, hn1, hn2, b3 hkp3⟩, (kps.trans hkp3).trans (KpS.put _ hn1)⟩⟩
      | goto t =>
        obtain ⟨hk3, hkp3, hi3⟩ := hp
        obtain ⟨hr, hl3, hl4, hk4⟩ := fin (some (.goto t)) W3 hk3
        exact ⟨_, _, hr, .inr ⟨rfl, ⟨.goto t, hIx _ S S _ W3 _ hi3 (Ch'.put _ (.inr rfl) hl3 rfl) (fun _ e => e) (fun _ e => .inl e) (b3 hkp3), hl4, hk4, hn1, hn2, b3 hkp3⟩, (kps.trans hkp3).trans (KpS.put _ hn1)⟩⟩
      | panic ch => exact hp.elim
      | outgrown => exact hp.elim
    · -- behind the iterator
      rintro e W2 ⟨⟨v, rfl⟩, (⟨S, ⟨hi, hl, hk, hn1, hn2, hbd⟩, hE⟩ | ⟨S, pre, hp, c, hi, hl, hk, hn1, hn2, hbd⟩)⟩
      · exact ⟨none, _, by have := run_endLoop (P := P) hl (by rw [hrec]; simp); rw [hrec] at this; exact this,
          hdone _ S _ rfl (fun k e => by rw [World.putObj_size]; exact hbd k e) (hI S S _ W2 _ hi (Ch'.put _ (.inr rfl) hl rfl) (fun _ e => e) (fun _ e => .inl e) (fun k e => by rw [World.putObj_size]; exact hbd k e)) (hEnd _ _ _ _ (by omega) hl rfl hE) ((World.putObj_heap_other (by omega)).trans hk)⟩
      · exact ⟨some c, _, by have := run_endLoop (P := P) hl (by rw [hrec]; simp); rw [hrec] at this; exact this,
          hstop _ c S pre _ rfl hp (hIx c S S _ W2 _ hi (Ch'.put _ (.inr rfl) hl rfl) (fun _ e => e) (fun _ e => .inl e) (fun k e => by rw [World.putObj_size]; exact hbd k e)) ((World.putObj_heap_other (by omega)).trans hk)⟩
end Go.Proofs.YtmciiobncfchlaaGreat
end

/- AppendSeq, Collect of ints. -/
section
namespace Go.Proofs.YtmciiobncfchlaaGreat
open Go.RowKit Go.Shelf
attribute [local go_sem] Oper.semAt_some

theorem cell_isCells {w : World} {a : Addr} {v : Value} (h : w.cell? a = some v) : ∃ o : Obj, w.heap[a.block]? = some o ∧ o.isCells = true := by
  unfold World.cell? at h
  cases ho : w.heap[a.block]? with
  | none => simp [ho] at h
  | some o => exact ⟨o, rfl, by cases o <;> simp_all [Obj.isCells]⟩
theorem Ch'.same {n₀ : Nat} {S : Nat → Prop} {A B : World} {a : Addr} {v : Value} (h : Ch' n₀ S A B) (hc : A.cell? a = some v) (hn : ¬ S a.block) : B.heap[a.block]? = A.heap[a.block]? := by
  obtain ⟨o, ho, hco⟩ := cell_isCells hc
  rcases h.block a.block (Array.getElem?_eq_some_iff.1 ho).1 hn with e | ⟨_, o', ho', hc'⟩
  · exact e
  · rw [ho] at ho'; cases ho'; rw [hco] at hc'; cases hc'
theorem SeqH.later {F : Fence} {n : Nat} {P : Program} {g : Nat} {fa lb : Array Value} {xs : List Int} {S0 : Nat → Prop} {End : World → Prop} {w w' : World} (h : SeqH F n P g fa lb xs S0 End w) (k : Nw w w') : SeqH F n P g fa lb xs S0 End w' :=
  fun l J Jx W hW => h l J Jx W (k.trans hW)
theorem wpListIn_append_run {F : Fence} {n : Nat} {P : Program} {w : World} {ops : Array Oper} {rest : List Oper} {o : Oper} {a : Act} {Q : Exit → Act → World → Prop}
    (hg : o.guard = none) (s x : Operand) (t : TypeId) (hop : o.op = Op.call { callee := Callee.builtin Builtin.append, args := #[s, x], argTypes := #[t, t] })
    (v u v' : Value) (w' : World) (hs : a.eval s = v) (hx : a.eval x = u) (hr : (Builtin.append_ #[t, t] o.type #[v, u]).run P w = .ok v' w') (h : wpListIn F n P ops Q rest (a.put o.dst v') w') : wpListIn F n P ops Q (o :: rest) a w := by
  refine wpListIn_plain hg fun K hK' => ?_
  unfold Oper.wpIn
  refine ⟨?_, ?_⟩
  · simp [Oper.about, hop, resolve, Target.leads, Sem.run_pure]
  · rw [Oper.semAt_plain F _ _ (by rw [hop]; intro c hc'; cases hc')]
    simp [execOp, hop, resolve, invoke, builtin, hs, hx, hr, Result.andThen]
    exact hK' _ _ h
theorem keepsD {a n₀ : Nat} {A B : World} (h : KeepsFrom a A B) (k : a ≤ n₀) (hn : ∀ k, (k = n₀ ∨ k = n₀ + 1) → ∃ o, A.heap[k]? = some o ∧ o.isCells = false) : KpD n₀ A B := fun i hi => by
  obtain ⟨o, ho, hc⟩ := hn i hi
  exact (h.same i o (by omega) ho hc).trans ho.symm
/-- What AppendSeq holds between two rounds. -/
def AsI (w : World) (S0 : Nat → Prop) (S : Nat → Prop) (pre : List Int) (A : World) : Prop :=
  ∃ v, A.cell? ⟨w.heap.size, 0, none⟩ = some v ∧ A.frozen? ⟨w.heap.size, 0, none⟩ = false ∧ IS A v pre ∧ (∀ k, v.ownBlock = some k → w.heap.size < k ∧ ¬ S k) ∧ ¬ S w.heap.size ∧ (∀ k, S k → S0 k ∨ w.heap.size ≤ k) ∧ Tch S0 w A
theorem AsI.step {w : World} {n₀ : Nat} {S0 S S' : Nat → Prop} {pre : List Int} {A B : World} (hn : w.heap.size ≤ n₀) (h : AsI w S0 S pre A) (k : Ch' n₀ S A B) (_h1 : ∀ k, S k → S' k) (h2 : ∀ k, S' k → S k ∨ A.heap.size ≤ k) : AsI w S0 S' pre B := by
  obtain ⟨v, a0, af, a1, a2, a3, a4, a5⟩ := h
  have e := k.same a0 a3
  refine ⟨v, (World.cell?_of_block e).trans a0, (World.frozen?_of_block e).trans af, k.row a1 (fun g e => (a2 g e).2), fun g e => ⟨(a2 g e).1, fun hs => ?_⟩, fun hs => ?_, fun i hs => ?_, k.tch a5 hn (fun i hi hs => (a4 i hs).resolve_right (by omega))⟩
  · rcases h2 g hs with h | h
    · exact (a2 g e).2 h
    · have := a1.lt e; omega
  · rcases h2 _ hs with h | h
    · exact a3 h
    · have := World.block_lt_of_cell? _ _ a0; simp only at this; omega
  · rcases h2 i hs with h | h
    · exact a4 i h
    · exact .inr (Nat.le_trans a5.size h)
/-- An append in a round. -/
theorem AsI.push {w : World} {S0 S : Nat → Prop} {pre : List Int} {x : Int} {A w1 : World} {v v' : Value} (a0 : A.cell? ⟨w.heap.size, 0, none⟩ = some v) (af : A.frozen? ⟨w.heap.size, 0, none⟩ = false) (a1 : IS A v pre) (a2 : ∀ k, v.ownBlock = some k → w.heap.size < k ∧ ¬ S k) (a3 : ¬ S w.heap.size) (a4 : ∀ k, S k → S0 k ∨ w.heap.size ≤ k) (a5 : Tch S0 w A)
    (hex : ∀ k, S k → k < A.heap.size) (p1 : IS w1 v' (pre ++ [x])) (p2 : Tch (fun k => v.ownBlock = some k) A w1) (p3 : ∀ k, v'.ownBlock = some k → v.ownBlock = some k ∨ A.heap.size ≤ k) :
    w1.cell? ⟨w.heap.size, 0, none⟩ = some v ∧ w1.frozen? ⟨w.heap.size, 0, none⟩ = false ∧ AsI w S0 S (pre ++ [x]) (w1.setCell ⟨w.heap.size, 0, none⟩ v') ∧ KpS S A (w1.setCell ⟨w.heap.size, 0, none⟩ v') ∧ KeepsFrom w.heap.size A (w1.setCell ⟨w.heap.size, 0, none⟩ v') := by
  have hbl := World.block_lt_of_cell? _ _ a0
  simp only at hbl
  have hnv : v.ownBlock ≠ some w.heap.size := fun e => by have := (a2 _ e).1; omega
  have c1 : w1.cell? ⟨w.heap.size, 0, none⟩ = some v := (p2.cell hbl hnv).trans a0
  have f1 : w1.frozen? ⟨w.heap.size, 0, none⟩ = false := (p2.froz hbl hnv).trans af
  have p4 : Tch (fun k => v.ownBlock = some k ∨ k = w.heap.size) A (w1.setCell ⟨w.heap.size, 0, none⟩ v') := (p2.mono (fun _ _ e => .inl e)).set (p := ⟨w.heap.size, 0, none⟩) (.inl (.inr rfl)) v'
  have hne : ∀ k, v'.ownBlock = some k → k ≠ w.heap.size := fun k e q => by
    rcases p3 k e with h | h
    · have := (a2 k h).1; omega
    · omega
  have hI : IS (w1.setCell ⟨w.heap.size, 0, none⟩ v') v' (pre ++ [x]) := p1.tch (setCell_at w1 ⟨w.heap.size, 0, none⟩ v') (fun g e q => hne g e q)
  refine ⟨c1, f1, ⟨v', ?_, ?_, hI, fun k e => ?_, a3, a4, a5.trans' p4 fun i hi e => ?_⟩, KpS.tch p4 fun k e => ⟨hex k e, fun q => ?_⟩, ⟨p4.size, fun k o hk h0 ho => ?_⟩⟩
  · exact World.cell?_setCell_same _ _ _ c1
  · rw [World.frozen?_setCell]; exact f1
  · rcases p3 k e with h | h
    · exact a2 k h
    · exact ⟨by omega, fun q => by have := hex k q; omega⟩
  · rcases e with e | rfl
    · have := (a2 i e).1; omega
    · omega
  · rcases q with q | rfl
    · exact (a2 k q).2 e
    · exact a3 e
  · refine (p4.block k (Array.getElem?_eq_some_iff.1 h0).1 ?_).trans h0
    rintro (e | rfl)
    · rcases a1.form with ⟨rfl, _⟩ | ⟨g, cap, rfl⟩
      · simp [Value.ownBlock] at e
      · rcases a1.2 with ⟨h', _⟩ | ⟨g2, cap2, cur, h', _, hg, _⟩
        · simp at h'
        · simp only [Value.slice.injEq, Option.some.injEq, Addr.mk.injEq, and_true, true_and] at h'
          obtain ⟨rfl, rfl⟩ := h'
          simp [Value.ownBlock] at e
          subst e
          rw [h0] at hg; cases hg; cases ho
    · obtain ⟨o', ho', hc'⟩ := cell_isCells a0
      rw [h0] at ho'; cases ho'; rw [ho] at hc'; cases hc'
def AsPost (w : World) (S0 : Nat → Prop) (End : World → Prop) (xs : List Int) (e : Ending) (W : World) : Prop :=
  ∃ v, e = .returned v ∧ IS W v xs ∧ (∀ k, v.ownBlock = some k → w.heap.size ≤ k) ∧ End W ∧ Tch S0 w W
set_option maxRecDepth 100000 in
set_option maxHeartbeats 4000000 in
theorem appendSeq_in (n : Nat) (hn : 3 ≤ n) (gf : Nat) (fa lb : Array Value) (eg : ∀ args w, (callFunc gf args).run Tryz.prog w = .ok (.enter gf args) w) (xs : List Int) (S0 : Nat → Prop) (End : World → Prop) (w : World) (hsm : xs.length ≤ 100000)
    (hS0 : ∀ k, S0 k → k < w.heap.size) (hseq : SeqH Fence.wide (n - 1) Tryz.prog gf fa lb xs S0 End w) (hEnd : ∀ (A : World) (l : Nat) (o o' : Obj), w.heap.size ≤ l → A.heap[l]? = some o → o.isCells = false → End A → End (A.putObj l o')) :
    CallsIn Fence.wide n Tryz.prog 90 #[.slice none 0 0, .func (.func gf) fa lb] w (AsPost w S0 End xs) := by
  have h1 : 1 ≤ n := by omega
  refine callsIn_of_wp_marks Tryz.func90 rfl trivial ?_ rfl
  simp only [Tryz.ntmps90, List.size_toArray, List.length_cons, List.length_nil, Nat.reduceAdd, Nat.reduceSub, Array.replicate_succ, Array.replicate_zero, List.push_toArray, List.append_toArray, List.nil_append, List.cons_append]
  gi_wp2
  have hA0 : AsI w S0 S0 [] (w.alloc (.cells #[.slice none 0 0] 48)) :=
    ⟨.slice none 0 0, by simp [go_sem], by simp [go_sem], World.ownsRow_nil _ _ _ _, fun k e => by simp [Value.ownBlock] at e, fun e => by have := hS0 _ e; omega, fun k e => .inl e, (Tch.refl _ _).alloc _⟩
  have hsz : (w.alloc (.cells #[.slice none 0 0] 48)).heap.size = w.heap.size + 1 := by simp
  have hnw : Nw w (w.alloc (.cells #[.slice none 0 0] 48)) := (Nw.refl w).alloc _
  obtain ⟨W0, hW0⟩ : ∃ W0, w.alloc (.cells #[.slice none 0 0] 48) = W0 := ⟨_, rfl⟩
  rw [hW0] at hA0 hsz hnw ⊢
  clear hW0
  refine rf_law rfl h1 (gf := gf) (fa := fa) (lb := lb) rfl trivial eg (S0 := S0) (End := End) (xs := xs) (fun k e => by have := hS0 k e; omega) (hseq.later hnw) rfl (fun A l o o' hl => hEnd A l o o' (by omega))
    (AsI w S0) (fun _ _ _ _ => False) (fun S S' pre A B hi hc e1 e2 _ => hi.step (by omega) hc e1 e2) (fun _ _ _ _ _ _ h _ _ _ _ => h) hA0
    (fun x => { tmps := #[.slice none 0 0, .func (.func gf) fa lb, .pointer (some ⟨w.heap.size, 0, none⟩), undef, .slice none 0 0, .int .i64 x, .func (.func gf) fa lb, .int .i64 x, undef, undef, undef, undef, undef], defers := [] }) ?assign ?body ?done ?stop
  case assign =>
    intro l x A K hK
    gi_wp2
    exact hK
  case body =>
    intro l S pre x A hi hsub hex hnc hpre
    obtain ⟨v, a0, af, a1, a2, a3, a4, a5⟩ := hi
    have hln : pre.length + 1 ≤ xs.length := by have := hpre.length_le; simpa using this
    obtain ⟨v', w1, hr, q1, q2, q3, ⟨g', cap', hv'⟩⟩ := IS.push A v pre x a1 (by omega)
    have HR := Lib.hid hr
    have HE0 := AsI.push a0 af a1 a2 a3 a4 a5 hex q1 q2 q3
    have hlt := World.block_lt_of_cell? _ _ a0
    have hf := a1.form
    have HN := Lib.hid hnc
    have c1 := HE0.1
    have f1 := HE0.2.1
    have HE := Lib.hid HE0.2.2
    have hlt1 := World.block_lt_of_cell? _ _ c1
    subst hv'
    clear hr q1 q2 q3 af a1 a2 a3 a4 a5 hex hsub hnc hpre hseq hEnd hA0 HE0
    have HSZ := Lib.hid hsz
    clear hsz
    rcases hf with ⟨rfl, hp0⟩ | ⟨g, cap, rfl⟩
    all_goals
      try clear hp0
      gi_wp2_with (gi_at_builtin; refine wpListIn_append_run rfl (.tmp 8) (.tmp 10) 48 rfl _ _ _ _ rfl rfl HR.out ?_)
      exact ⟨keepsD HE.out.2.2 (by have := HSZ.out; omega) (fun k e => (HN.out k e).2), HE.out.2.1, HE.out.1⟩
  case done =>
    intro D S W hD _ hi hE hK
    obtain ⟨v, a0, af, a1, a2, a3, a4, a5⟩ := hi
    have hlt := World.block_lt_of_cell? _ _ a0
    have HE : Hid (AsPost w S0 End xs (.returned v) (W.putObj D (.deferred none))) := by
      have hc : Ch' D (fun _ => False) W (W.putObj D (.deferred none)) := Ch'.put _ (.inl rfl) hK rfl
      exact ⟨v, rfl, hc.row a1 (fun _ _ e => e), fun k e => Nat.le_of_lt (a2 k e).1, hEnd W D _ _ (by omega) hK rfl hE, hc.tch a5 (by omega) (fun _ _ e => e.elim)⟩
    have hf := a1.form
    clear hseq hEnd hA0 a1 a2 a3 a4 a5 hE hS0 hD
    have HSZ := Lib.hid hsz
    clear hsz
    rcases hf with ⟨rfl, hp0⟩ | ⟨g, cap, rfl⟩
    all_goals
      try clear hp0
      gi_wp2
      refine ⟨by simp, .inl ⟨_, _, rfl, run_takeDeferred hK, ?_⟩⟩
      exact ⟨_, results_tmp (t := 4) rfl _ _ _, HE.out⟩
  case stop =>
    intro D c S pre W _ _ h _
    exact h.elim
theorem collect_any (gf : Nat) (fa lb : Array Value) (eg : ∀ args w, (callFunc gf args).run Tryz.prog w = .ok (.enter gf args) w) (xs : List Int) (S0 : Nat → Prop) (End : World → Prop) (w : World) (hsm : xs.length ≤ 100000)
    (hS0 : ∀ k, S0 k → k < w.heap.size) (hseq : SeqH Fence.wide 4 Tryz.prog gf fa lb xs S0 End w) (hEnd : ∀ (A : World) (l : Nat) (o o' : Obj), w.heap.size ≤ l → A.heap[l]? = some o → o.isCells = false → End A → End (A.putObj l o')) :
    Calls Tryz.prog 67 #[.func (.func gf) fa lb] w (AsPost w S0 End xs) := by
  have H := Lib.hid (callsIn_wide.1 (appendSeq_in 5 (by omega) gf fa lb eg xs S0 End w hsm hS0 hseq hEnd))
  clear hseq hEnd hS0
  go_enter Tryz.func67, Tryz.ntmps67
  go_wp2_with fail
  refine H.out.mono ?_
  rintro e w1 h
  obtain ⟨v, rfl, h⟩ := h
  have HP := Lib.hid h
  clear h
  go_wp2
  go_ret
  exact ⟨v, rfl, HP.out⟩
end Go.Proofs.YtmciiobncfchlaaGreat
end

/- The developers' package queue: Ask. -/
section
namespace Go.Proofs.YtmciiobncfchlaaGreat
open Go.RowKit Go.Maps Go.ChangeMaps
set_option linter.unusedVariables false      -- a contract need not use every name

theorem plc_ne (p : Rq → Bool) (q : List Rq) : (plc p q != -1) = q.any p := by
  rw [← plc_any]
  rcases plc_form p q with ⟨h1, _⟩ | ⟨k, h1, _⟩
  · rw [h1]; rfl
  · rw [h1]
    have : ((k : Int) != -1) = true := by rw [bne_iff_ne]; omega
    rw [this]; simp
theorem any_or {α : Type} (q : List α) (a b : α → Bool) : (q.any fun x => a x || b x) = (q.any a || q.any b) := by
  induction q with
  | nil => rfl
  | cons x q ih => rw [List.any_cons, List.any_cons, List.any_cons, ih]; cases a x <;> cases b x <;> cases q.any a <;> cases q.any b <;> rfl
/-- A slice that lies in new blocks. -/
def Fresh (w : World) (v : Value) (q : List Rq) : Prop := ∀ b o n c, v = .slice (some ⟨b, o, none⟩) n c → w.heap.size ≤ b ∨ q = []
theorem Fresh.nil (w : World) (q : List Rq) : Fresh w (.slice none 0 0) q := fun b o n c e => by simp at e
theorem RqOwn.fresh {w w0 : World} {g0 : Nat} {v : Value} {q : List Rq} (h : RqOwn w g0 v q) (hb : w0.heap.size ≤ g0) : Fresh w0 v q := fun b o n c e => by
  subst e
  exact .inl (Nat.le_trans hb (oge h rfl))
theorem Fresh.old {w0 w : World} {v : Value} {q : List Rq} (h : Fresh w v q) (g : Nw w0 w) : Fresh w0 v q := fun b o n c e => (h b o n c e).imp (fun h => Nat.le_trans g.sz h) (fun h => h)
/-- What a call of the developers' gives that returns a head, whether it was granted, and an error; a head and an error. -/
def HD2 (X : Hq × Bool × Int) (w : World) (e : Ending) (w' : World) : Prop := ∃ v', e = .returned (.tuple #[hdV X.1.t X.1.r v' X.1.W, .bool X.2.1, .int .i64 X.2.2]) ∧ Nw w w' ∧ RqAt w' v' X.1.q ∧ capOk v' ∧ Fresh w v' X.1.q
def HD1 (X : Hq × Int) (w : World) (e : Ending) (w' : World) : Prop := ∃ v', e = .returned (.tuple #[hdV X.1.t X.1.r v' X.1.W, .int .i64 X.2]) ∧ Nw w w' ∧ RqAt w' v' X.1.q ∧ capOk v' ∧ Fresh w v' X.1.q
theorem Ln.done {w : World} {g0 p : Nat} {t r W : Int} {v : Value} {b n : Nat} {q : List Rq} {c : Int → Int} (h : Ln w g0 p t r W v b n q c) {rb : Nat} (hb : rb < g0) (u0 u1 u2 u3 : Value) :
    RqAt ((((w.setCell ⟨rb, 0, none⟩ u0).setCell ⟨rb, 1, none⟩ u1).setCell ⟨rb, 2, none⟩ u2).setCell ⟨rb, 3, none⟩ u3) v q ∧ capOk v := ⟨(fill_own h.own hb _ _ _ _).rd, h.own.cap⟩
set_option maxRecDepth 100000 in
set_option maxHeartbeats 8000000 in
theorem dAsk (t r W id x m : Int) (v : Value) (q : List Rq) (w : World) (hl : q.length ≤ 900) (hok : Ok W q) (h : RqAt w v q) :
    Calls Tryz.prog 10 #[hdV t r v W, .int .i64 id, .int .i64 x, .int .i64 m] w (HD2 (askR ⟨t, r, W, q⟩ id x m) w) := by
  obtain ⟨X, hX⟩ : ∃ X, askR ⟨t, r, W, q⟩ id x m = X := ⟨_, rfl⟩
  rw [hX]
  have HLo := Lib.hid (fun w => dLockable m w)
  have hat := h
  obtain ⟨a, c, rfl⟩ := h.form
  unfold HD2 hdV
  have HX := Lib.hid (two_boxes w (.cells #[.int .i64 t, .int .i64 r, .slice a q.length c, .int .i64 W] 26) (.cells #[.int .i64 0, .int .i64 0, .slice none 0 0, .int .i64 0] 26))
  obtain ⟨y, hy⟩ : ∃ y, ((m != 0) && knI m) = y := ⟨_, rfl⟩
  rw [hy] at HLo
  by_cases hi : id < 0
  · subst hX
    rw [ask_bad (h := ⟨t, r, W, q⟩) (.inl hi)]
    have di : decide (id < 0) = true := by simpa using hi
    have hq1 := HX.out.2.1
    have fz := fun k => hfz (j := k) hq1
    have hsl2 := hlt hq1
    have HQ := Lib.hid HX.out.2.2.1
    have d0 := hcell (j := 0) hq1
    have d1 := hcell (j := 1) hq1
    have d2 := hcell (j := 2) hq1
    have d3 := hcell (j := 3) hq1
    clear hq1 hi hy hat h hok HX HLo
    go_enter Tryz.func10, Tryz.ntmps10
    go_wp2
    exact bodyPost_ret (v := .tuple #[.agg #[.int .i64 0, .int .i64 0, .slice none 0 0, .int .i64 0], .bool false, .int .i64 2]) (by simp only [results, Tryz.results10]; simp [go_sem, *]) rfl ⟨_, rfl, HQ.out, Rd.nil _, Nat.le_refl _, Fresh.nil _ _⟩
  have di : decide (id < 0) = false := by simpa using hi
  cases y
  · subst hX
    rw [ask_bad (h := ⟨t, r, W, q⟩) (by cases e : knI m with | false => exact .inr (.inr rfl) | true => rw [e, Bool.and_true] at hy; exact .inr (.inl (by simpa using hy)))]
    clear hi hy hat h hok
    go_enter Tryz.func10, Tryz.ntmps10
    go_wp2_with fail
    go_at_call 38
    refine (HLo.out _).mono ?_
    rintro e w1 ⟨rfl, g1⟩
    have hq1 := g1.at' HX.out.2.1
    have HQ := Lib.hid (HX.out.2.2.1.trans g1)
    have d0 := hcell (j := 0) hq1
    have d1 := hcell (j := 1) hq1
    have d2 := hcell (j := 2) hq1
    have d3 := hcell (j := 3) hq1
    have fz := fun k => hfz (j := k) hq1
    have hsl2 := hlt hq1
    clear g1 hq1 HX HLo
    go_wp2
    exact bodyPost_ret (v := .tuple #[.agg #[.int .i64 0, .int .i64 0, .slice none 0 0, .int .i64 0], .bool false, .int .i64 2]) (by simp only [results, Tryz.results10]; simp [go_sem, *]) rfl ⟨_, rfl, fill_nw HQ.out (Nat.le_succ _) _ _ _ _, Rd.nil _, Nat.le_refl _, Fresh.nil _ _⟩
  have hgood : ¬ (id < 0 ∨ m = 0 ∨ knI m = false) := by
    rw [Bool.and_eq_true, bne_iff_ne] at hy
    rintro (e | e | e)
    · exact hi e
    · exact hy.1 e
    · rw [hy.2] at e; cases e
  have hkm : knI m = true := by
    rw [Bool.and_eq_true] at hy
    exact hy.2
  obtain ⟨px, hpx⟩ : ∃ px, plc (fun R => R.id == id) q = px := ⟨_, rfl⟩
  obtain ⟨py, hpy⟩ : ∃ py, plc (fun R => R.txn == x) q = py := ⟨_, rfl⟩
  have hFi := fun (w1 : World) (g : Nw w w1) (f : Value) (hf : Tells w1 f (fun R => R.id == id)) => dFind t r W (.slice a q.length c) f _ q w1 (by omega) (hat.nw g) hf
  have hFt := fun (w1 : World) (g : Nw w w1) (f : Value) (hf : Tells w1 f (fun R => R.txn == x)) => dFind t r W (.slice a q.length c) f _ q w1 (by omega) (hat.nw g) hf
  rw [hpx] at hFi
  rw [hpy] at hFt
  unfold hdV at hFi hFt
  have HFi := Lib.hid hFi
  have HFt := Lib.hid hFt
  have HLi := Lib.hid (fun (w1 : World) (g : Nw w w1) => dLineOf t r W (.slice a q.length c) q w1 (by omega) (fun R hR => (hok.rt R hR).md) (hat.nw g))
  unfold hdV at HLi
  have hany : (q.any fun R => R.id == id || R.txn == x) = ((px != -1) || (py != -1)) := by rw [any_or, ← plc_ne (fun R => R.id == id), ← plc_ne (fun R => R.txn == x), hpx, hpy]
  obtain ⟨bx, hbx⟩ : ∃ bx, (px != -1) = bx := ⟨_, rfl⟩
  obtain ⟨b2, hb2⟩ : ∃ b2, (py != -1) = b2 := ⟨_, rfl⟩
  rw [hbx, hb2] at hany
  clear hFi hFt hpx hpy
  have HWi := Lib.hid (dWithID id)
  have HTx := Lib.hid (dOfTxn x)
  go_enter Tryz.func10, Tryz.ntmps10
  go_wp2_with fail
  go_at_call 38
  refine (HLo.out _).mono ?_
  rintro e w1 ⟨rfl, g1⟩
  have HB1 := Lib.hid (And.intro (g1.at' HX.out.1) (And.intro (g1.at' HX.out.2.1) (HX.out.2.2.1.trans g1)))
  have hp1 := g1.at' HX.out.1
  have hN1 := HX.out.2.2.1.trans g1
  have s0 : ∀ z, Nw w1 z → z.cell? ⟨w.heap.size, 0, none⟩ = some (.int .i64 t) := fun z hz => hz.kp (hcell (j := 0) hp1)
  have s1 : ∀ z, Nw w1 z → z.cell? ⟨w.heap.size, 1, none⟩ = some (.int .i64 r) := fun z hz => hz.kp (hcell (j := 1) hp1)
  have s2 : ∀ z, Nw w1 z → z.cell? ⟨w.heap.size, 2, none⟩ = some (.slice a q.length c) := fun z hz => hz.kp (hcell (j := 2) hp1)
  have s3 : ∀ z, Nw w1 z → z.cell? ⟨w.heap.size, 3, none⟩ = some (.int .i64 W) := fun z hz => hz.kp (hcell (j := 3) hp1)
  clear hp1 g1 HX HLo
  go_wp2
  have q1 := (Nw.refl w1).drew1
  obtain ⟨wc, hwc⟩ : ∃ wc, w1.drew = wc := ⟨_, rfl⟩
  have HH := Lib.hid (And.intro hok hat)
  clear hok hat h hi
  cases bx <;> cases b2
  all_goals
   refine region_told [some true, some true, some false, none, some false, none, some true, some true, some true, some true, some false, none, some false, none, some true, some true, some true] (Nw w1) (by kernel_rfl) (by kernel_rfl) (by kernel_rfl) q1 ?_
   rw [hwc] at q1 ⊢
   clear hwc
   repeat (first
    | (refine HW.off ?_)
    | (refine HW.take' ?_; (first | (refine ⟨undef, Or.inr ⟨by rfl, rfl⟩, ?_⟩) | (apply Exists.intro; refine ⟨Or.inl ⟨by rfl, ?_⟩, ?_⟩; (intro x hx; go_simp; first | done | with_reducible rfl))); (try simp only [Act.put, List.setIfInBounds_toArray, List.set_cons_zero, List.set_cons_succ]))
    | (refine HW.go (fun K hK => ?_); go_simp; (first
      | (go_at_call 40; (with_reducible refine (HWi.out _).mono ?_); rintro e wy ⟨pa, rfl, g2, hbx⟩; refine hK.out _ _ (q1.trans g2) ?_; intro _; replace q1 := q1.trans g2; clear hK K g2; replace hbx := Tells.withID hbx)
      | (go_at_call 41; (with_reducible refine (HTx.out _).mono ?_); rintro e wy ⟨pa, rfl, g2, hbx⟩; refine hK.out _ _ (q1.trans g2) ?_; intro _; replace q1 := q1.trans g2; clear hK K g2; replace hbx := Tells.ofTxn hbx)
      | (go_at_call 39; (first | (with_reducible refine (HFi.out _ (HB1.out.2.2.trans q1) _ hbx).mono ?_) | (with_reducible refine (HFt.out _ (HB1.out.2.2.trans q1) _ hbx).mono ?_)); rintro e wy ⟨rfl, g2⟩; refine hK.out _ _ (q1.trans g2) ?_; intro _; replace q1 := q1.trans g2; clear hK K g2 hbx)
      | (refine hK.out _ _ q1 ?_; intro _; clear hK K))))
   refine HW.end_ ?_
   refine NoPanic.normal ?_
  · have hq1 := q1.at' HB1.out.2.1
    have hp1 := q1.at' HB1.out.1
    have HQ := Lib.hid (And.intro hq1 (HB1.out.2.2.trans q1))
    have c0 := hcell (j := 0) hp1
    have c1 := hcell (j := 1) hp1
    have c2 := hcell (j := 2) hp1
    have c3 := hcell (j := 3) hp1
    have hpl := hlt hp1
    have HXX := Lib.hid (And.intro hX (And.intro hgood hany))
    clear hq1 hp1 q1 s0 s1 s2 s3 hX hgood hany HB1 HFi HFt HWi HTx hN1 hy
    go_wp2_with fail
    go_at_call 42
    refine (HLi.out _ HQ.out.2).mono ?_
    rintro e w2 ⟨p, v1, b, n, rfl, g2, hL2, hnq⟩
    have HQ2 := Lib.hid HQ.out
    clear c0 c1 c2 c3 hpl HLi HQ
    have hA := dAdd hL2 ⟨id, x, 0, m, 0⟩ rfl (fun y => by have := cntQ_bd q y; omega) (by omega) (by omega)
    unfold rqV at hA
    simp only at hA
    have HA := Lib.hid hA
    have HG2 := Lib.hid g2
    clear hA hL2 g2
    go_wp2_with fail
    go_at_call 44
    refine HA.out.mono ?_
    rintro e w3 ⟨rfl, v2, hL3, g3⟩
    have hlk : q.length < (q ++ [(⟨id, x, 0, m, 0⟩ : Rq)]).length := by simp
    have hke : (q ++ [(⟨id, x, 0, m, 0⟩ : Rq)])[q.length]'hlk = ⟨id, x, 0, m, 0⟩ := by simp
    obtain ⟨fr, hfr⟩ : ∃ fr, free q m = fr := ⟨_, rfl⟩
    have hE := dEnterB (hL3.eq (cntQ_snoc q ⟨id, x, 0, m, 0⟩).symm) q.length hlk ⟨HH.out.1.w0, HH.out.1.wB⟩ (fun R hR => by
      rcases List.mem_append.1 hR with hR | hR
      · exact (HH.out.1.rt R hR).md
      · rw [List.mem_singleton] at hR; subst hR; rfl) (by omega) (by simp; omega) ⟨id, x, 0, m, 0⟩ hke hkm fr ((ask_en HH.out.1 id x m).trans hfr)
    simp only [enR] at hE
    have HE := Lib.hid hE
    have HG3 := Lib.hid (And.intro HG2.out g3)
    clear hE hL3 g3 HA HG2 hke
    go_wp2_with fail
    go_at_call 43
    refine HE.out.mono ?_
    rintro e w5 ⟨rfl, g4, n5, _, hL5⟩
    have g5 : Nw wy w5 := Below.trans (Below.trans HG3.out.1 HG3.out.2) g4
    obtain ⟨hX, hgood, hany⟩ := HXX.out
    clear HE HG3 HXX
    have hset : ∀ R : Rq, (q ++ [(⟨id, x, 0, m, 0⟩ : Rq)]).set q.length R = q ++ [R] := fun R => by simp
    cases fr
    · have hR := hX.symm.trans (ask_no (h := ⟨t, r, W, q⟩) hgood hany (by rw [hfr]; simp))
      subst hR
      simp only [Bool.false_eq_true, if_true, if_false] at hL5
      rw [hset] at hL5
      obtain ⟨a2, k2, hv2⟩ := (RqOwn.rd hL5.own).form
      obtain ⟨n2, hn2⟩ : ∃ n, (q ++ [(⟨id, x, 0, m, W + 1⟩ : Rq)]).length = n := ⟨_, rfl⟩
      rw [hn2] at hv2
      subst hv2
      have HL5 := Lib.hid hL5
      have hpl := hlt hL5.obj
      have e0 := hcell (j := 0) hL5.obj
      have e1 := hcell (j := 1) hL5.obj
      have e2 := hcell (j := 2) hL5.obj
      have e3 := hcell (j := 3) hL5.obj
      have hq5 := g5.at' HQ2.out.1
      have HN5 := Lib.hid (HQ2.out.2.trans g5)
      have HS := Lib.hid (hlt HQ2.out.1)
      have HQF := Lib.hid (HQ2.out.2.sz)
      have d0 := hcell (j := 0) hq5
      have d1 := hcell (j := 1) hq5
      have d2 := hcell (j := 2) hq5
      have d3 := hcell (j := 3) hq5
      have fz := fun k => hfz (j := k) hq5
      have hsl2 := hlt hq5
      clear hL5 hset hq5 g5 HQ2 hn2 hX hfr
      go_wp2
      exact bodyPost_ret (v := .tuple #[.agg #[.int .i64 t, .int .i64 r, .slice a2 n2 k2, .int .i64 (W + 1)], .bool false, .int .i64 0]) (by simp only [results, Tryz.results10]; simp [go_sem, *]) rfl ⟨_, rfl, fill_nw HN5.out (Nat.le_succ _) _ _ _ _, (HL5.out.done HS.out _ _ _ _).1, HL5.out.own.cap, HL5.out.own.fresh HQF.out⟩
    · have hR := hX.symm.trans (ask_yes (h := ⟨t, r, W, q⟩) hgood hany (by rw [hfr]))
      subst hR
      simp only [Bool.false_eq_true, if_true, if_false] at hL5
      rw [hset] at hL5
      obtain ⟨a2, k2, hv2⟩ := (RqOwn.rd hL5.own).form
      obtain ⟨n2, hn2⟩ : ∃ n, (q ++ [(⟨id, x, m, m, 0⟩ : Rq)]).length = n := ⟨_, rfl⟩
      rw [hn2] at hv2
      subst hv2
      have HL5 := Lib.hid hL5
      have hpl := hlt hL5.obj
      have e0 := hcell (j := 0) hL5.obj
      have e1 := hcell (j := 1) hL5.obj
      have e2 := hcell (j := 2) hL5.obj
      have e3 := hcell (j := 3) hL5.obj
      have hq5 := g5.at' HQ2.out.1
      have HN5 := Lib.hid (HQ2.out.2.trans g5)
      have HS := Lib.hid (hlt HQ2.out.1)
      have HQF := Lib.hid (HQ2.out.2.sz)
      have d0 := hcell (j := 0) hq5
      have d1 := hcell (j := 1) hq5
      have d2 := hcell (j := 2) hq5
      have d3 := hcell (j := 3) hq5
      have fz := fun k => hfz (j := k) hq5
      have hsl2 := hlt hq5
      clear hL5 hset hq5 g5 HQ2 hn2 hX hfr
      go_wp2
      exact bodyPost_ret (v := .tuple #[.agg #[.int .i64 t, .int .i64 r, .slice a2 n2 k2, .int .i64 W], .bool true, .int .i64 0]) (by simp only [results, Tryz.results10]; simp [go_sem, *]) rfl ⟨_, rfl, fill_nw HN5.out (Nat.le_succ _) _ _ _ _, (HL5.out.done HS.out _ _ _ _).1, HL5.out.own.cap, HL5.out.own.fresh HQF.out⟩
  · have hR := hX.symm.trans (ask_two (h := ⟨t, r, W, q⟩) hgood hany)
    subst hR
    have hq1 := q1.at' HB1.out.2.1
    have HQ := Lib.hid (HB1.out.2.2.trans q1)
    have d0 := hcell (j := 0) hq1
    have d1 := hcell (j := 1) hq1
    have d2 := hcell (j := 2) hq1
    have d3 := hcell (j := 3) hq1
    have fz := fun k => hfz (j := k) hq1
    have hsl2 := hlt hq1
    clear hq1 q1 s0 s1 s2 s3 hX hgood hany HB1 HFi HFt HLi HWi HTx HH hN1 hy hkm
    go_wp2
    exact bodyPost_ret (v := .tuple #[.agg #[.int .i64 0, .int .i64 0, .slice none 0 0, .int .i64 0], .bool false, .int .i64 4]) (by simp only [results, Tryz.results10]; simp [go_sem, *]) rfl ⟨_, rfl, fill_nw HQ.out (Nat.le_succ _) _ _ _ _, Rd.nil _, Nat.le_refl _, Fresh.nil _ _⟩
  · have hR := hX.symm.trans (ask_two (h := ⟨t, r, W, q⟩) hgood hany)
    subst hR
    have hq1 := q1.at' HB1.out.2.1
    have HQ := Lib.hid (HB1.out.2.2.trans q1)
    have d0 := hcell (j := 0) hq1
    have d1 := hcell (j := 1) hq1
    have d2 := hcell (j := 2) hq1
    have d3 := hcell (j := 3) hq1
    have fz := fun k => hfz (j := k) hq1
    have hsl2 := hlt hq1
    clear hq1 q1 s0 s1 s2 s3 hX hgood hany HB1 HFi HFt HLi HWi HTx HH hN1 hy hkm
    go_wp2
    exact bodyPost_ret (v := .tuple #[.agg #[.int .i64 0, .int .i64 0, .slice none 0 0, .int .i64 0], .bool false, .int .i64 4]) (by simp only [results, Tryz.results10]; simp [go_sem, *]) rfl ⟨_, rfl, fill_nw HQ.out (Nat.le_succ _) _ _ _ _, Rd.nil _, Nat.le_refl _, Fresh.nil _ _⟩
  · have hR := hX.symm.trans (ask_two (h := ⟨t, r, W, q⟩) hgood hany)
    subst hR
    have hq1 := q1.at' HB1.out.2.1
    have HQ := Lib.hid (HB1.out.2.2.trans q1)
    have d0 := hcell (j := 0) hq1
    have d1 := hcell (j := 1) hq1
    have d2 := hcell (j := 2) hq1
    have d3 := hcell (j := 3) hq1
    have fz := fun k => hfz (j := k) hq1
    have hsl2 := hlt hq1
    clear hq1 q1 s0 s1 s2 s3 hX hgood hany HB1 HFi HFt HLi HWi HTx HH hN1 hy hkm
    go_wp2
    exact bodyPost_ret (v := .tuple #[.agg #[.int .i64 0, .int .i64 0, .slice none 0 0, .int .i64 0], .bool false, .int .i64 4]) (by simp only [results, Tryz.results10]; simp [go_sem, *]) rfl ⟨_, rfl, fill_nw HQ.out (Nat.le_succ _) _ _ _ _, Rd.nil _, Nat.le_refl _, Fresh.nil _ _⟩
end Go.Proofs.YtmciiobncfchlaaGreat
end

/- The developers' package queue: grants, an iterator; Scan. -/
section
namespace Go.Proofs.YtmciiobncfchlaaGreat
open Go.RowKit Go.Shelf Go.Maps Go.ChangeMaps
attribute [local go_sem] Oper.semAt_some
set_option linter.unusedVariables false

theorem e_grants : ∀ args w, (callFunc 68 args).run Tryz.prog w = .ok (.enter 68 args) w := enters_of Tryz.func68 (by kernel_rfl) rfl
theorem rq_int_ne : 42 ≠ 3 := by decide
def SL (p b : Nat) (v : Value) : Nat → Prop := fun k => k = p ∨ k = b ∨ v.ownBlock = some k
theorem Ln.bound {w : World} {g0 p : Nat} {t r W : Int} {v : Value} {b n : Nat} {q : List Rq} {c : Int → Int} (h : Ln w g0 p t r W v b n q c) : ∀ k, SL p b v k → k < w.heap.size := by
  rintro k (rfl | rfl | e)
  · exact hlt h.obj
  · exact h.map.lt
  · exact olt h.own e
theorem Ln.kps {S : Nat → Prop} {A B : World} {g0 p : Nat} {t r W : Int} {v : Value} {b n : Nat} {q : List Rq} {c : Int → Int} (h : Ln A g0 p t r W v b n q c) (k : KpS S A B) (hS : ∀ i, SL p b v i → S i) : Ln B g0 p t r W v b n q c := by
  refine ⟨(k.same p (hS p (.inl rfl))).trans h.obj, ?_, ?_, h.gp, h.gb⟩
  · refine ⟨h.own.1, ?_⟩
    rcases h.own.2 with e | ⟨g, cap, cur, rfl, hb, hg, rest⟩
    · exact .inl e
    · exact .inr ⟨g, cap, cur, rfl, hb, (k.same g (hS g (.inr (.inr rfl)))).trans hg, rest⟩
  · obtain ⟨D, ⟨es, cl, hb, F, hs, hD⟩, h2, h3⟩ := h.map
    exact ⟨D, ⟨es, cl, (k.same b (hS b (.inr (.inl rfl)))).trans hb, F, hs, hD⟩, h2, h3⟩
theorem IS.kps {S : Nat → Prop} {A B : World} {v : Value} {l : List Int} (h : IS A v l) (k : KpS S A B) (hS : ∀ g, v.ownBlock = some g → S g) : IS B v l := by
  refine ⟨h.1, ?_⟩
  rcases h.2 with e | ⟨g, cap, cur, rfl, hb, hg, rest⟩
  · exact .inl e
  · exact .inr ⟨g, cap, cur, rfl, hb, (k.same g (hS g rfl)).trans hg, rest⟩
/-- What holds between two grants. -/
structure GrI (J : (Nat → Prop) → List Int → World → Prop) (S : Nat → Prop) (g0 p : Nat) (t r W : Int) (v : Value) (b n : Nat) (q : List Rq) (T : List Int) (vt : Value) (i : Nat) (pre : List Int) (q' : List Rq) (wr : World) : Prop where
  j : J S pre wr
  bd : ∀ k, S k → k < wr.heap.size
  row : IS wr vt T
  st : Steps q pre q'
  ti : TInv q q' T i
  ln : ∃ n', n' ≤ n + 2 * i ∧ Ln wr g0 p t r W v b n' q' (cntQ q')
def EndL (g0 p : Nat) (t r W : Int) (v : Value) (b : Nat) (q : List Rq) (w : World) : Prop := ∃ n', Ln w g0 p t r W v b n' q (cntQ q)
set_option maxRecDepth 100000 in
set_option maxHeartbeats 4000000 in
theorem grants_in (m : Nat) (hm : 1 ≤ m) (g0 p b n : Nat) (t r W : Int) (v : Value) (q : List Rq) (w : World) (h : Ln w g0 p t r W v b n q (cntQ q)) (hok : Ok W q) (hl : q.length ≤ 1000) (hn : n ≤ 2000) (hst : StOk (tC q) (wpl q q.length)) :
    SeqH Fence.wide m Tryz.prog 68 #[.pointer (some ⟨p, 0, none⟩)] #[] (scanQ q).1 (SL p b v) (EndL g0 p t r W v b (scanQ q).2) w := by
  intro L J Jx W0 hW hJ hJx hY h0
  have hL0 := h.nw hW
  have HTu := Lib.hid (dTurns hL0 hl hst)
  have hTk := tok_of hok hst
  obtain ⟨T, hT⟩ : ∃ T, stR (tC q) (wpl q q.length) = T := ⟨_, rfl⟩
  rw [hT] at HTu hTk
  have hTl : T.length ≤ 1000 := by rw [← hT, (stR_perm (tC q) _).length_eq]; have := wpl_len q q.length; omega
  have HJ := Lib.hid hJ
  have HY := Lib.hid hY
  have H0 := Lib.hid (And.intro h0 (And.intro hL0 (And.intro hok hTk)))
  clear h hW hJ hJx hY h0 hL0 hok hTk hT hst
  refine callsIn_of_wp Tryz.func68 rfl trivial ?_ rfl
  simp only [Tryz.ntmps68, List.size_toArray, List.length_cons, List.length_nil, Nat.reduceAdd, Nat.reduceSub, Array.replicate_succ, Array.replicate_zero, List.push_toArray, List.append_toArray, List.nil_append, List.cons_append]
  gi_wp2_with fail
  refine ⟨trivial, (callsIn_wide.2 HTu.out).mono ?_⟩
  rintro e w1 ⟨vt, rfl, g1, hIT, hfT⟩
  obtain ⟨S, hS⟩ : ∃ S : Nat → Prop, (fun k => SL p b v k ∨ (W0.heap.size ≤ k ∧ k < w1.heap.size)) = S := ⟨_, rfl⟩
  have hSL : ∀ k, SL p b v k → S k := fun k e => by rw [← hS]; exact .inl e
  have hST : ∀ g, vt.ownBlock = some g → S g := fun g e => by rw [← hS]; exact .inr ⟨hfT g e, hIT.lt e⟩
  have hbd1 : ∀ k, S k → k < w1.heap.size := fun k e => by
    rw [← hS] at e
    rcases e with e | e
    · exact Nat.lt_of_lt_of_le (H0.out.2.1.bound k e) g1.sz
    · exact e.2
  have hG0 : GrI J S g0 p t r W v b n q T vt 0 [] q w1 :=
    ⟨HJ.out (SL p b v) S [] W0 w1 H0.out.1 (Tch.nw g1) hSL (fun k e => by rw [← hS] at e; rcases e with e | e; exact .inl e; exact .inr e.1) hbd1, hbd1, hIT, .refl, ti_start H0.out.2.2.2, n, by omega, H0.out.2.1.nw g1⟩
  have HG := Lib.hid hG0
  have HS := Lib.hid (And.intro hSL hST)
  obtain ⟨at1, ct, hvt, _⟩ := hIT.box
  subst hvt
  clear hG0 hSL hST hbd1 hS g1 hIT hfT HTu
  gi_wp2
  gi_loopw [10] (fun x wr => ∃ (i : Nat) (pre : List Int) (q' : List Rq), x = .int .i64 i ∧ i ≤ T.length ∧ Hid (GrI J S g0 p t r W v b n q T (.slice at1 T.length ct) i pre q' wr)) (fun x _ => T.length - (intOf x).toNat)
  case atStart => exact ⟨0, [], q, rfl, Nat.zero_le _, HG⟩
  case round =>
    obtain ⟨i, pre, q', rfl, hi, HR⟩ := hrel
    by_cases hlt : i < T.length
    · obtain ⟨k, eT, hk, hqk, hsn, hfy, hfn⟩ := turn_next H0.out.2.2.1 HR.out.st H0.out.2.2.2 HR.out.ti hlt
      obtain ⟨n', hn', hLn⟩ := HR.out.ln
      have hlen := steps_len HR.out.st H0.out.2.2.1
      have okq := HR.out.st.ok H0.out.2.2.1
      obtain ⟨g, cap, hv, hg0, hgl, hce⟩ := RqOwn.at hLn.own hk
      subst hv
      obtain ⟨ao, c2, hvv, hbx⟩ := HR.out.row.box
      obtain ⟨gt, rfl, _⟩ := hbx (by omega)
      simp only [Value.slice.injEq, true_and] at hvv
      obtain ⟨rfl, rfl⟩ := hvv
      have hTc := HR.out.row.cell i hlt
      rw [show T.getD i 0 = (k : Int) by rw [← eT]; simp [List.getD, hlt]] at hTc
      have hTl2 := HR.out.row.glt
      have hii : (i : Int) < (T.length : Int) := by omega
      have hkk : (k : Int) < (q'.length : Int) := by omega
      have hpl := heap_lt' hLn.obj
      have m2 := hcell (j := 2) hLn.obj
      have hrt := okq.rt _ (List.getElem_mem hk)
      have hcb := cntQ_bd q'
      have hql : q'.length ≤ 1000 := by omega
      have hts := fun hc => turn_step H0.out.2.2.1 HR.out.st H0.out.2.2.2 HR.out.ti hlt eT hk hc
      have hgr := fun (w7 : World) (hN : Nw wr w7) => dGrant (hLn.nw hN) k hk hrt.md hrt.wt (fun y => by have := hcb y; omega) (by omega) hql
      have hcs := cntQ_set q' k hk (grtR q'[k])
      generalize hR : q'[k] = R at *
      obtain ⟨b0, b1, b2, b3, b4⟩ := R
      have e0 := hce 0 _ rfl
      have e1 := hce 1 _ rfl
      have e2 := hce 2 _ rfl
      have e3 := hce 3 _ rfl
      have e4 := hce 4 _ rfl
      simp only [Nat.add_zero] at e0
      simp only at hrt hfy hfn hts hgr hcs hsn
      have g6 : Nw wr (wr.alloc (.cells #[.int .i64 b0, .int .i64 b1, .int .i64 b2, .int .i64 b3, .int .i64 b4] 42)) := (Nw.refl wr).alloc _
      have hq6 := RqB.made wr b0 b1 b2 b3 b4 42
      obtain ⟨w6, hw6⟩ : ∃ w6, wr.alloc (.cells #[.int .i64 b0, .int .i64 b1, .int .i64 b2, .int .i64 b3, .int .i64 b4] 42) = w6 := ⟨_, rfl⟩
      rw [hw6] at g6 hq6
      have hF := dFits p b n' (cntQ q') b2 b3 _ _ _ _ _ w6 (hLn.nw g6).obj (hLn.nw g6).map (fun y => by have := hcb y; omega) hrt.wt
      obtain ⟨hlq, y0, y1, y2, y3, y4⟩ := hq6
      obtain ⟨B, hB⟩ : ∃ B, fitB (cntQ q') b2 b3 = B := ⟨_, rfl⟩
      rw [hB] at hF hfy hfn
      have HW6 := Lib.hid hw6
      have HF := Lib.hid hF
      have HGr := Lib.hid hgr
      have HTs := Lib.hid (And.intro hts (And.intro hcs (And.intro hn' g6)))
      have HY0 := Lib.hid (And.intro y0 (And.intro hlq (And.intro hLn.map.lt hgl)))
      cases B
      · have hd := hfn rfl
        have hsc := HR.out.st.scan H0.out.2.2.1 hd
        have HSc := Lib.hid hsc
        clear hce hrt hfy hfn hts hgr hcs hR hF hB hw6 hLn hlen okq hcb hd hsc eT hqk hsn
        gi_wp2_with fail
        rw [HW6.out]
        gi_wp2_with fail
        refine ⟨trivial, (callsIn_wide.2 HF.out).mono ?_⟩
        rintro e w7 ⟨rfl, g7⟩
        have HE : Hid ((∃ S, J S (scanQ q).1 w7 ∧ EndL g0 p t r W (.slice (some ⟨g, 0, none⟩) q'.length cap) b (scanQ q).2 w7) ∨ ∃ S pre, pre <+: (scanQ q).1 ∧ Jx S pre w7) := Lib.hid (by
          rw [HSc.out]
          have hN := HTs.out.2.2.2.trans g7
          obtain ⟨n'', _, hl2⟩ := HR.out.ln
          exact .inl ⟨S, HJ.out S S pre wr w7 HR.out.j (Tch.nw hN) (fun _ e => e) (fun _ e => .inl e) (fun k e => Nat.lt_of_lt_of_le (HR.out.bd k e) hN.sz), n'', hl2.nw hN⟩)
        clear g7 y0 y1 y2 y3 y4 hlq
        gi_wp2
        refine bodyPost_ret (results_none rfl _ _ _) rfl ?_
        exact ⟨⟨_, rfl⟩, HE.out⟩
      · have hst2 := hts (hfy rfl)
        have HSt := Lib.hid hst2
        have HC := Lib.hid hcs
        clear hce hrt hfy hfn hts hgr hcs hR hF hB hw6 hLn hlen okq hcb eT hqk hsn hst2
        gi_wp2_with fail
        rw [HW6.out]
        gi_wp2_with fail
        refine ⟨trivial, (callsIn_wide.2 HF.out).mono ?_⟩
        rintro e w7 ⟨rfl, g7⟩
        have HG7 := Lib.hid (HTs.out.2.2.2.trans g7)
        have HK7 := Lib.hid g7
        clear g7 y0 y1 y2 y3 y4 hlq
        gi_wp2_with fail
        refine ⟨trivial, (callsIn_wide.2 (HGr.out w7 HG7.out)).mono ?_⟩
        rintro e w8 ⟨rfl, hL8, hT8⟩
        have hbxl : wr.heap.size < w7.heap.size := Nat.lt_of_lt_of_le HY0.out.2.1 HK7.out.sz
        have z0 : w8.cell? ⟨wr.heap.size, 0, none⟩ = some (.int .i64 b0) := (hT8.cell hbxl (fun e => by have := HY0.out.2.2; omega)).trans (HK7.out.kp HY0.out.1)
        have hz0 := World.block_lt_of_cell? _ _ z0
        have hTS : Tch S wr w8 := (Tch.nw HG7.out).trans' hT8 (fun i _ e => by
          rcases e with rfl | rfl
          · exact HS.out.1 _ (.inr (.inl rfl))
          · exact HS.out.1 _ (.inr (.inr rfl)))
        have hbd8 : ∀ k, S k → k < w8.heap.size := fun k e => Nat.lt_of_lt_of_le (HR.out.bd k e) hTS.size
        have hJ8 : J S pre w8 := HJ.out S S pre wr w8 HR.out.j hTS (fun _ e => e) (fun _ e => .inl e) hbd8
        have hpre := steps_pre HSt.out.1 H0.out.2.2.1
        obtain ⟨fn, tmps, assign, body, hy, hRd⟩ := HY.out S pre b0 w8 hJ8 HS.out.1 hbd8 hpre
        have hI8 : IS w8 (.slice (some ⟨gt, 0, none⟩) T.length ct) T := (HR.out.row.nw HG7.out).tch hT8 (fun g' e q1 => by
          have hg' := HS.out.2 g' e
          have e1 := Option.some.inj e
          subst e1
          rcases q1 with q1 | q1
          · obtain ⟨es, cl, ob⟩ := (HR.out.ln.choose_spec.2).map.obj
            rcases HR.out.row.2 with ⟨h', _⟩ | ⟨g2, cap2, cur, h', _, hg2, _⟩
            · simp at h'
            · simp only [Value.slice.injEq, Option.some.injEq, Addr.mk.injEq, and_true, true_and] at h'
              obtain ⟨rfl, rfl⟩ := h'
              simp only at q1
              rw [q1, ob] at hg2; cases hg2
          · obtain ⟨cs, hc⟩ := oheap (HR.out.ln.choose_spec.2).own (g := g) rfl
            rcases HR.out.row.2 with ⟨h', _⟩ | ⟨g2, cap2, cur, h', _, hg2, _⟩
            · simp at h'
            · simp only [Value.slice.injEq, Option.some.injEq, Addr.mk.injEq, and_true, true_and] at h'
              obtain ⟨rfl, rfl⟩ := h'
              simp only at q1
              rw [q1, hc] at hg2
              injection hg2 with hg2
              injection hg2 with _ hg2
              exact absurd hg2 rq_int_ne)
        have HN8 := Lib.hid (And.intro hI8 (And.intro hL8 (And.intro hbd8 hpre)))
        clear hL8 hT8 hTS hbd8 hJ8 hpre hI8
        gi_wp2
        refine hRd.mono ?_
        rintro e w9 (⟨rfl, j2, k2⟩ | ⟨rfl, jx2, _⟩)
        · have H2 : Hid (GrI J S g0 p t r W (.slice (some ⟨g, 0, none⟩) q'.length cap) b n q T (.slice (some ⟨gt, 0, none⟩) T.length ct) (i + 1) (pre ++ [b0]) (q'.set k (grtR ⟨b0, b1, b2, b3, b4⟩)) w9) := Lib.hid
            ⟨j2, fun k e => Nat.lt_of_lt_of_le (HN8.out.2.2.1 k e) k2.size, HN8.out.1.kps k2 HS.out.2, HSt.out.1, HSt.out.2, n' + 2, by have := HTs.out.2.2.1; omega, (HN8.out.2.1.eq HC.out.symm).kps k2 HS.out.1⟩
          clear j2 k2 hy hRd
          gi_wp2
          go_roundw
          case rel => exact ⟨i + 1, _, _, by go_num, by omega, H2⟩
          case measure => simp [intOf]; omega
        · have H2 := Lib.hid jx2
          clear jx2 hy hRd
          gi_wp2
          refine bodyPost_ret (results_none rfl _ _ _) rfl ?_
          exact ⟨⟨_, rfl⟩, .inr ⟨S, pre ++ [b0], HN8.out.2.2.2, H2.out⟩⟩
    · have hd := turn_end H0.out.2.2.1 HR.out.st HR.out.ti hlt
      have hsc := HR.out.st.scan H0.out.2.2.1 hd
      have HE : Hid ((∃ S, J S (scanQ q).1 wr ∧ EndL g0 p t r W v b (scanQ q).2 wr) ∨ ∃ S pre, pre <+: (scanQ q).1 ∧ Jx S pre wr) := Lib.hid (by
        rw [hsc]
        obtain ⟨n'', _, hl2⟩ := HR.out.ln
        exact .inl ⟨S, HR.out.j, n'', hl2⟩)
      obtain rfl : i = T.length := by omega
      clear hd hsc
      gi_wp2
      refine bodyPost_end (results_none rfl _ _ _) rfl ?_
      exact ⟨⟨_, rfl⟩, HE.out⟩
theorem is_fill {w : World} {v : Value} {l : List Int} {rb : Nat} (h : IS w v l) (hb : ∀ g, v.ownBlock = some g → g ≠ rb) (u0 u1 u2 u3 : Value) : IS ((((w.setCell ⟨rb, 0, none⟩ u0).setCell ⟨rb, 1, none⟩ u1).setCell ⟨rb, 2, none⟩ u2).setCell ⟨rb, 3, none⟩ u3) v l :=
  (((h.tch (setCell_at w ⟨rb, 0, none⟩ u0) hb).tch (setCell_at _ ⟨rb, 1, none⟩ u1) hb).tch (setCell_at _ ⟨rb, 2, none⟩ u2) hb).tch (setCell_at _ ⟨rb, 3, none⟩ u3) hb
theorem endl_put {g0 p : Nat} {t r W : Int} {v : Value} {b : Nat} {q : List Rq} {m : Nat} (hb : ∀ k, SL p b v k → k < m) (A : World) (l : Nat) (o o' : Obj) (hl : m ≤ l) (h : EndL g0 p t r W v b q A) : EndL g0 p t r W v b q (A.putObj l o') := by
  obtain ⟨n', h⟩ := h
  refine ⟨n', h.kps (S := SL p b v) ⟨by simp, fun k e => ?_⟩ (fun _ e => e)⟩
  exact World.putObj_heap_other (fun e2 => by have := hb k e; omega)
set_option maxRecDepth 100000 in
set_option maxHeartbeats 4000000 in
theorem dScan (t r W : Int) (v : Value) (q : List Rq) (w : World) (hl : q.length ≤ 1000) (hok : Ok W q) (h : RqAt w v q) (hst : StOk (tC q) (wpl q q.length)) :
    Calls Tryz.prog 31 #[hdV t r v W] w fun e w' => ∃ v' vi, e = .returned (.tuple #[hdV t r v' W, vi]) ∧ Nw w w' ∧ RqAt w' v' (scanQ q).2 ∧ capOk v' ∧ IS w' vi (scanQ q).1 ∧ Fresh w v' (scanQ q).2 ∧ ∀ g, vi.ownBlock = some g → w.heap.size ≤ g := by
  have HLi := Lib.hid (fun (w1 : World) (g : Nw w w1) => dLineOf t r W v q w1 hl (fun R hR => (hok.rt R hR).md) (h.nw g))
  obtain ⟨a, c, rfl⟩ := h.form
  unfold hdV at HLi ⊢
  obtain ⟨hx1, hx2, hx3, hx4⟩ := two_boxes w (.cells #[.int .i64 t, .int .i64 r, .slice a q.length c, .int .i64 W] 26) (.cells #[.int .i64 0, .int .i64 0, .slice none 0 0, .int .i64 0] 26)
  obtain ⟨w1, hw1⟩ : ∃ w1, (w.alloc (.cells #[.int .i64 t, .int .i64 r, .slice a q.length c, .int .i64 W] 26)).alloc (.cells #[.int .i64 0, .int .i64 0, .slice none 0 0, .int .i64 0] 26) = w1 := ⟨_, rfl⟩
  rw [hw1] at hx2 hx3
  have HX := Lib.hid (And.intro hx2 hx3)
  have HW1 := Lib.hid hw1
  clear hx1 hx2 hx3 hx4 h hw1
  go_enter Tryz.func31, Tryz.ntmps31
  go_wp2_with fail
  rw [HW1.out]
  go_at_call 42
  refine (HLi.out _ HX.out.2).mono ?_
  rintro e w2 ⟨p, v1, b, n, rfl, g2, hL2, hnq⟩
  have hq2 := g2.at' HX.out.1
  have HQ := Lib.hid (And.intro hq2 (And.intro (HX.out.2.trans g2) (And.intro hL2 (hlt HX.out.1))))
  have hsl := hL2.bound
  have hls : (scanQ q).1.length ≤ 100000 := by
    have hw := (scan_steps hok).1.wtg hok
    have : wtg q ≤ q.length := List.countP_le_length
    omega
  have hC := collect_any _ #[.pointer (some ⟨p, 0, none⟩)] #[] e_grants (scanQ q).1 (SL p b v1) (EndL w1.heap.size p t r W v1 b (scanQ q).2) w2 hls hsl (grants_in 4 (by omega) w1.heap.size p b n t r W v1 q w2 hL2 hok hl (by omega) hst) (fun A l o o' h1 _ _ h2 => endl_put hsl A l o o' h1 h2)
  have HC := Lib.hid hC
  have HSL := Lib.hid (And.intro hsl (fun k (e : SL p b v1 k) => show w1.heap.size ≤ k by
    rcases e with rfl | rfl | e
    · exact hL2.gp
    · exact hL2.gb
    · exact oge hL2.own e))
  clear hq2 g2 hL2 hsl hls hC hst HLi HX
  go_wp2_with fail
  go_at_call 67
  refine HC.out.mono ?_
  rintro e w3 ⟨vi, rfl, hIi, hif, ⟨n3, hL3⟩, hT3⟩
  have hq3 := (hT3.block (w.heap.size + 1) (hlt HQ.out.1) (fun e => by have := HSL.out.2 _ e; have := HQ.out.2.2.2; omega)).trans HQ.out.1
  have hN3 : Nw w w3 := nw_tch HQ.out.2.1 hT3 (fun k e => by have := HSL.out.2 k e; have := HQ.out.2.2.2; omega)
  obtain ⟨a2, k2, hv2⟩ := (RqOwn.rd hL3.own).form
  obtain ⟨n2, hn2⟩ : ∃ n, (scanQ q).2.length = n := ⟨_, rfl⟩
  rw [hn2] at hv2
  subst hv2
  obtain ⟨ai, ci, hvi, _⟩ := hIi.box
  obtain ⟨ni, hni⟩ : ∃ n, (scanQ q).1.length = n := ⟨_, rfl⟩
  rw [hni] at hvi
  subst hvi
  have HE := Lib.hid (And.intro hN3 (And.intro hL3 (And.intro hIi (And.intro hif HQ.out.2.2.2))))
  have hpl := hlt hL3.obj
  have e0 := hcell (j := 0) hL3.obj
  have e1 := hcell (j := 1) hL3.obj
  have e2 := hcell (j := 2) hL3.obj
  have e3 := hcell (j := 3) hL3.obj
  have d0 := hcell (j := 0) hq3
  have d1 := hcell (j := 1) hq3
  have d2 := hcell (j := 2) hq3
  have d3 := hcell (j := 3) hq3
  have fz := fun k => hfz (j := k) hq3
  have hsl2 := hlt hq3
  have HS2 := Lib.hid (hlt HQ.out.1)
  have HQF : Hid (w.heap.size ≤ w1.heap.size) := Lib.hid (by have := HQ.out.2.2.2; omega)
  clear hL3 hT3 hN3 hq3 hIi hif hn2 hni HC HSL HQ
  go_wp2
  exact bodyPost_ret (v := .tuple #[.agg #[.int .i64 t, .int .i64 r, .slice a2 n2 k2, .int .i64 W], .slice ai ni ci]) (by simp only [results, Tryz.results31]; simp [go_sem, *]) rfl ⟨_, _, rfl, fill_nw HE.out.1 (Nat.le_succ _) _ _ _ _, (HE.out.2.1.done HE.out.2.2.2.2 _ _ _ _).1, HE.out.2.1.own.cap, is_fill HE.out.2.2.1 (fun g e => by have := HE.out.2.2.2.1 g e; have := HS2.out; omega) _ _ _ _, HE.out.2.1.own.fresh HQF.out, fun g e => by have := HE.out.2.2.2.1 g e; have := HS2.out; omega⟩
end Go.Proofs.YtmciiobncfchlaaGreat
end

/- The developers' package queue: DeleteFunc of requests; without. -/
section
namespace Go.Proofs.YtmciiobncfchlaaGreat
open Go.RowKit
set_option linter.unusedVariables false      -- a contract need not use every name

abbrev zQ : Value := .agg #[.int .i64 0, .int .i64 0, .int .i64 0, .int .i64 0, .int .i64 0]
theorem zeroQ (w : World) : (zeroValue 42).run Tryz.prog w = .ok zQ w := by kernel_rfl
theorem clear_rqs (w : World) (g o n c : Nat) (hn : 0 < n) (hc : ∀ j, j < n * 5 → (w.cell? ⟨g, o + j, none⟩).isSome = true) (hf : ∀ j, w.frozen? ⟨g, j, none⟩ = false) :
    ∃ vs, ∀ ty, (Builtin.clear_ #[24] ty #[.slice (some ⟨g, o, none⟩) n c]).run Tryz.prog w = .ok (.tuple #[]) (w.setCells g o vs) := by
  obtain ⟨m, rfl⟩ : ∃ m, n = m + 1 := ⟨n - 1, by omega⟩
  refine ⟨(Builtin.zeroCells zQ.cells (m + 1)).toList, fun ty => ?_⟩
  have hlen : (Builtin.zeroCells zQ.cells (m + 1)).toList.length = (m + 1) * 5 := by simp [Builtin.zeroCells, Value.cells]
  have hst := run_storeCells_cells (P := Tryz.prog) g o (Builtin.zeroCells zQ.cells (m + 1)).toList 0 w (by rw [hlen]; simpa using hc) (by intro j _; exact hf _) (by
    intro v hv
    obtain ⟨i, hi, rfl⟩ := List.getElem_of_mem hv
    simp only [Builtin.zeroCells, Array.toList_map, List.getElem_map]
    have h5 : ∀ i : Nat, i < 5 → (zQ.cells[i]!).oneCell' = true := by decide
    exact h5 _ (Nat.mod_lt _ (by decide)))
  simp only [Nat.add_zero] at hst
  simp [Builtin.clear_, run_underlying Tryz.underlying24, zeroQ, hst]
theorem Nw.rls {a b : World} (h : Nw a b) : (∀ k o, k < a.heap.size → b.cell? ⟨k, o, none⟩ = a.cell? ⟨k, o, none⟩) ∧ (∀ k o, k < a.heap.size → b.frozen? ⟨k, o, none⟩ = a.frozen? ⟨k, o, none⟩) := ⟨fun _ _ h1 => h.cell h1, fun _ _ h1 => h.froz h1⟩
theorem rq_there {w : World} {g0 g n cap : Nat} {l : List Rq} (h : RqOwn w g0 (.slice (some ⟨g, 0, none⟩) n cap) l) (hn : n = l.length) (j : Nat) (hj : j < l.length * 5) : (w.cell? ⟨g, j, none⟩).isSome = true := by
  subst hn
  have e : w.cell? ⟨g, j, none⟩ = (rowsOf rqrow l)[j]? := World.ownsRow.cellAt h j hj
  rw [e, List.getElem?_eq_getElem (by rw [rows_len (sz := 5) (fun _ => rfl)]; exact hj)]; rfl
theorem tch_cells (g : Nat) : ∀ (vs : List Value) (o : Nat) (w : World), Tch (fun k => k = g) w (w.setCells g o vs)
  | [], _, w => Tch.refl _ w
  | v :: r, o, w => by
    rw [World.setCells]
    exact (setCell_at w ⟨g, o, none⟩ v).trans (tch_cells g r (o + 1) _)
def putQ (w : World) (g a : Nat) (s : Rq) : World := ((((w.setCell ⟨g, a * 5, none⟩ (.int .i64 s.id)).setCell ⟨g, a * 5 + 1, none⟩ (.int .i64 s.txn)).setCell ⟨g, a * 5 + 2, none⟩ (.int .i64 s.md)).setCell ⟨g, a * 5 + 3, none⟩ (.int .i64 s.wt)).setCell ⟨g, a * 5 + 4, none⟩ (.int .i64 s.sn)
theorem own_putQ {w : World} {g0 g n cap a : Nat} {R : List Rq} (h : RqOwn w g0 (.slice (some ⟨g, 0, none⟩) n cap) R) (hn : n = R.length) (ha : a < R.length) (s : Rq) : RqOwn (putQ w g a s) g0 (.slice (some ⟨g, 0, none⟩) n cap) (R.set a s) := by
  have l1 : ∀ x : Rq, n = (R.set a x).length := fun x => by rw [List.length_set]; exact hn
  have k1 : ∀ x : Rq, a < (R.set a x).length := fun x => by rw [List.length_set]; exact ha
  have h0 := own_upd h hn a ha 0 (by decide) (.int .i64 s.id) ⟨s.id, R[a].txn, R[a].md, R[a].wt, R[a].sn⟩ rfl
  have h1 := own_upd h0 (l1 _) a (k1 _) 1 (by decide) (.int .i64 s.txn) ⟨s.id, s.txn, R[a].md, R[a].wt, R[a].sn⟩ (by rw [List.getElem_set_self]; rfl)
  rw [List.set_set] at h1
  have h2 := own_upd h1 (l1 _) a (k1 _) 2 (by decide) (.int .i64 s.md) ⟨s.id, s.txn, s.md, R[a].wt, R[a].sn⟩ (by rw [List.getElem_set_self]; rfl)
  rw [List.set_set] at h2
  have h3 := own_upd h2 (l1 _) a (k1 _) 3 (by decide) (.int .i64 s.wt) ⟨s.id, s.txn, s.md, s.wt, R[a].sn⟩ (by rw [List.getElem_set_self]; rfl)
  rw [List.set_set] at h3
  have h4 := own_upd h3 (l1 _) a (k1 _) 4 (by decide) (.int .i64 s.sn) s (by rw [List.getElem_set_self]; rfl)
  rw [List.set_set] at h4
  exact h4
theorem putQ_tch (w : World) (g a : Nat) (s : Rq) : Tch (fun k => k = g) w (putQ w g a s) := by
  unfold putQ
  exact (((((Tch.refl (fun k => k = g) w).set (p := ⟨g, a * 5, none⟩) (.inl rfl) _).set (p := ⟨g, a * 5 + 1, none⟩) (.inl rfl) _).set (p := ⟨g, a * 5 + 2, none⟩) (.inl rfl) _).set (p := ⟨g, a * 5 + 3, none⟩) (.inl rfl) _).set (p := ⟨g, a * 5 + 4, none⟩) (.inl rfl) _
abbrev outQ (p : Rq → Bool) (l : List Rq) : List Rq := l.filter fun s => !p s
/-- What the loop of DeleteFunc keeps: a requests moved to the front, b looked at. -/
structure Del (p : Rq → Bool) (w wr : World) (g0 g n cap a b : Nat) (l R : List Rq) : Prop where
  ab : a < b
  bn : b ≤ l.length
  len : R.length = l.length
  front : R.take a = outQ p (l.take b)
  rest : R.drop b = l.drop b
  row : RqOwn wr g0 (.slice (some ⟨g, 0, none⟩) n cap) R
  tch : Tch (fun k => k = g) w wr
theorem taken {α : Type} {l : List α} {b : Nat} (h : b < l.length) : l.take (b + 1) = l.take b ++ [l[b]] := by
  rw [List.take_add_one, List.getElem?_eq_getElem h]; rfl
theorem out_end {p : Rq → Bool} {L : List Rq} {s : Rq} (h : p s = true) : outQ p (L ++ [s]) = outQ p L := by
  simp only [outQ, List.filter_append, List.filter_cons, h, Bool.not_true, Bool.false_eq_true, if_false, List.filter_nil, List.append_nil]
theorem out_on {p : Rq → Bool} {L : List Rq} {s : Rq} (h : p s = false) : outQ p (L ++ [s]) = outQ p L ++ [s] := by
  simp only [outQ, List.filter_append, List.filter_cons, h, Bool.not_false, if_true, List.filter_nil]
theorem drops_at {α : Type} {R l : List α} {b : Nat} (h : R.drop b = l.drop b) (hb : b < l.length) (hR : R.length = l.length) : ∃ hr : b < R.length, R[b] = l[b] := by
  refine ⟨by omega, ?_⟩
  have := congrArg (fun x => x[0]?) h
  simp only [List.getElem?_drop, Nat.add_zero] at this
  rw [List.getElem?_eq_getElem hb, List.getElem?_eq_getElem (by omega)] at this
  exact Option.some.inj this
theorem drops_up {α : Type} {R l : List α} {b : Nat} (h : R.drop b = l.drop b) : R.drop (b + 1) = l.drop (b + 1) := by
  rw [← List.drop_drop, ← List.drop_drop, h]
section
variable {p : Rq → Bool} {w wr wr' : World} {g0 g n cap a b : Nat} {l R : List Rq}
theorem Del.skip (h : Del p w wr g0 g n cap a b l R) (hb : b < l.length) (he : p l[b] = true) (g' : Nw wr wr') : Del p w wr' g0 g n cap a (b + 1) l R :=
  ⟨by have := h.ab; omega, hb, h.len, by rw [h.front, taken hb, out_end he], drops_up h.rest, onw h.row g', h.tch.trans (Tch.nw g')⟩
theorem Del.move (h : Del p w wr g0 g n cap a b l R) (hn : n = l.length) (hb : b < l.length) (he : p l[b] = false) (g' : Nw wr wr') : Del p w (putQ wr' g a l[b]) g0 g n cap (a + 1) (b + 1) l (R.set a l[b]) := by
  have hab := h.ab
  have hR := h.len
  have ha : a < R.length := by omega
  refine ⟨by omega, hb, by simp [hR], ?_, ?_, ?_, ?_⟩
  · rw [taken (by simpa using ha), taken hb]
    have e1 : (R.set a l[b]).take a = R.take a := List.take_set_of_le (Nat.le_refl a)
    rw [e1, h.front, out_on he]
    simp
  · rw [List.drop_set_of_lt (by omega)]; exact drops_up h.rest
  · exact own_putQ (onw h.row g') (by omega) ha _
  · exact (h.tch.trans (Tch.nw g')).trans (putQ_tch _ _ _ _)
end
theorem takes_filter {p : Rq → Bool} {l : List Rq} {j : Nat} (hj : j < l.length) (he : p l[j] = true) (hF : ∀ i (hi : i < l.length), i < j → p l[i] = false) : l.take j = outQ p (l.take (j + 1)) := by
  rw [taken hj, out_end he]
  symm
  rw [outQ, List.filter_eq_self]
  intro s hs
  obtain ⟨i, hi, rfl⟩ := List.getElem_of_mem hs
  simp at hi
  simp [hF i (by omega) (by omega)]
theorem out_all {p : Rq → Bool} {l : List Rq} (h : ∀ s ∈ l, p s = false) : outQ p l = l := by
  rw [outQ, List.filter_eq_self]
  intro s hs
  simp [h s hs]
set_option maxRecDepth 100000 in
set_option maxHeartbeats 4000000 in
theorem dDelete (p : Rq → Bool) (f : Value) (g0 : Nat) (v : Value) (l : List Rq) (w : World) (hl : l.length ≤ 1000) (h : RqOwn w g0 v l) (hf : Tells w f p) (hfr : ∀ w1, Tch (fun k => v.ownBlock = some k) w w1 → Tells w1 f p) :
    Calls Tryz.prog 85 #[v, f] w fun e w' => ∃ v', e = .returned v' ∧ RqAt w' v' (outQ p l) ∧ capOk v' ∧ (∀ b o n c, v' = .slice (some ⟨b, o, none⟩) n c → v.ownBlock = some b ∨ (outQ p l) = []) ∧ Tch (fun k => v.ownBlock = some k) w w' := by
  have HI0 := dIndex v f p l w hl (RqOwn.rd h) hf
  have hf' := hf
  obtain ⟨gf, lb, rfl, eg, _⟩ := hf'
  obtain ⟨hfo, -⟩ : True ∧ True := ⟨trivial, trivial⟩
  obtain ⟨px, hpx⟩ : ∃ px, plc p l = px := ⟨_, rfl⟩
  rw [hpx] at HI0
  have HI := Lib.hid HI0
  clear HI0
  rcases plc_form p l with ⟨h1, h2⟩ | ⟨j, h1, hj, he, hF⟩
  · obtain rfl := hpx.symm.trans h1
    obtain ⟨a, c, rfl⟩ := (RqOwn.rd h).form
    have HR := Lib.hid h
    clear h hfr hf
    go_enter Tryz.func85, Tryz.ntmps85
    go_wp2_with (go_at_call 80; refine HI.out.mono ?_; rintro e w1 ⟨rfl, g1⟩)
    go_ret
    exact ⟨_, rfl, by rw [out_all h2]; exact RqOwn.rd (onw HR.out g1), RqOwn.cap HR.out, fun b o n k e => by
      rcases oform HR.out with ⟨e2, z⟩ | ⟨g, cap, e2⟩
      · exact .inr (by rw [out_all h2]; exact List.length_eq_zero_iff.1 z)
      · have e3 := e2.symm.trans e
        simp only [Value.slice.injEq, Option.some.injEq, Addr.mk.injEq] at e3
        refine .inl ?_
        rw [e2, ← e3.1.1]; rfl, Tch.nw g1⟩
  obtain rfl := hpx.symm.trans h1
  obtain ⟨g, cap, rfl, hg0, hgl, _⟩ := RqOwn.at h hj
  have hcap := RqOwn.cap h
  have hcap : l.length ≤ cap := hcap
  have d0 : ((j : Int) == -1) = false := by simp
  have HX := Lib.hid (And.intro he hF)
  have HFr := Lib.hid hfr
  have H := Lib.hid h
  clear he hF hfr hf h
  go_enter Tryz.func85, Tryz.ntmps85
  go_wp2_with (go_at_call 80; refine HI.out.mono ?_; rintro e w1 ⟨rfl, g1⟩)
  have HD : Hid (Del p w w1 g0 g l.length cap j (j + 1) l l) := Lib.hid ⟨by omega, hj, rfl, takes_filter hj HX.out.1 HX.out.2, rfl, onw H.out g1, Tch.nw g1⟩
  clear HX H HI g1
  case _ =>
    go_loopw [5, 6] (fun i k wr => ∃ (a b : Nat) (R : List Rq), i = .int .i64 a ∧ k = .int .i64 b ∧ Del p w wr g0 g l.length cap a b l R) (fun _ k _ => l.length - (intOf k).toNat)
    case atStart => exact ⟨j, j + 1, l, rfl, by go_num, HD.out⟩
    case round =>
      obtain ⟨a, b, R, rfl, rfl, hD⟩ := hrel
      have hab := hD.ab
      have hbn := hD.bn
      by_cases hlt : b < l.length
      · obtain ⟨hrb, hRb⟩ := drops_at hD.rest hlt hD.len
        obtain ⟨s, hs⟩ : ∃ s, l[b] = s := ⟨_, rfl⟩
        rw [hs] at hRb
        have hcell : ∀ c u, (rqrow s)[c]? = some u → wr.cell? ⟨g, b * 5 + c, none⟩ = some u := fun c u hu => own_cell hD.row hD.len.symm b hrb c u (by rw [hRb]; exact hu)
        have c0 := hcell 0 _ rfl
        have c1 := hcell 1 _ rfl
        have c2 := hcell 2 _ rfl
        have c3 := hcell 3 _ rfl
        have c4 := hcell 4 _ rfl
        simp only [Nat.add_zero] at c0
        have hgl := olt hD.row rfl
        have hT := HFr.out wr (hD.tch.mono fun i _ e => by rw [e]; rfl)
        obtain ⟨gf', lb', eqf, _, hTT⟩ := hT
        simp only [Value.func.injEq, Fn.func.injEq, true_and] at eqf
        obtain ⟨rfl, rfl⟩ := eqf
        have HE := Lib.hid (hTT s)
        obtain ⟨B, hB⟩ : ∃ B, p s = B := ⟨_, rfl⟩
        rw [hB] at HE
        have HB := Lib.hid (show p l[b] = B by rw [hs]; exact hB)
        have HS := Lib.hid hs
        have HR := Lib.hid hD
        clear hB hcell hs hRb hTT
        have g6 : Nw wr (wr.alloc (.cells #[.int .i64 s.id, .int .i64 s.txn, .int .i64 s.md, .int .i64 s.wt, .int .i64 s.sn] 42)) := (Nw.refl wr).alloc _
        have hq6 := Lib.hid (RqB.made wr s.id s.txn s.md s.wt s.sn 42)
        cases B
        case true =>
          clear hD
          go_wp2_with (go_at_fn gf; refine (HE.out _ g6).mono ?_; rintro e w1 ⟨rfl, g1⟩)
          go_roundw
          case rel => exact ⟨a, b + 1, R, rfl, by go_num, HR.out.skip hlt HB.out (g6.trans g1)⟩
          case measure => simp [intOf]; omega
        case false =>
          have har : a < R.length := by have := hD.len; omega
          have k0 : ∀ c, c < 5 → ∃ u, wr.cell? ⟨g, a * 5 + c, none⟩ = some u := fun c hc => by
            have : c < (rqrow R[a]).length := hc
            exact ⟨_, own_cell hD.row hD.len.symm a har c _ (List.getElem?_eq_getElem this)⟩
          obtain ⟨y0, a0⟩ := k0 0 (by omega)
          obtain ⟨y1, a1⟩ := k0 1 (by omega)
          obtain ⟨y2, a2⟩ := k0 2 (by omega)
          obtain ⟨y3, a3⟩ := k0 3 (by omega)
          obtain ⟨y4, a4⟩ := k0 4 (by omega)
          simp only [Nat.add_zero] at a0
          have fz := fun c => own_frz hD.row hD.len.symm c
          have z0 := fz (a * 5)
          have z1 := fz (a * 5 + 1)
          have z2 := fz (a * 5 + 2)
          have z3 := fz (a * 5 + 3)
          have z4 := fz (a * 5 + 4)
          have hRl := hD.len
          have hai : (a : Int) < (l.length : Int) := by omega
          clear k0 fz hD
          go_wp2_with (go_at_fn gf; refine (HE.out _ g6).mono ?_; rintro e w1 ⟨rfl, g1⟩; obtain ⟨hc1, hf1⟩ := g1.rls)
          go_roundw
          case rel => exact ⟨a + 1, b + 1, _, by go_num, by go_num, by have := HR.out.move rfl hlt HB.out (g6.trans g1); rw [HS.out] at this; exact this⟩
          case measure => simp [intOf]; omega
      · have hbe : b = l.length := by omega
        subst hbe
        have HR := Lib.hid hD
        have hlen := hD.len
        have hcc : ∀ q, q < (l.length - a) * 5 → (wr.cell? ⟨g, a * 5 + q, none⟩).isSome = true := fun q hq => rq_there hD.row hlen.symm (a * 5 + q) (by omega)
        obtain ⟨vs, hvs⟩ := clear_rqs wr g (a * 5) (l.length - a) (cap - a) (by omega) hcc (fun q => own_frz hD.row hlen.symm q)
        have e1 : ((l.length : Int) - (a : Int)).toNat = l.length - a := by omega
        have hne : ¬ cap = a := by omega
        clear hD hcc
        go_wp2
        go_ret
        have hfr := HR.out.front
        rw [List.take_length] at hfr
        have hpl : (outQ p l).length = a := by rw [← hfr, List.length_take]; omega
        have hT := tch_cells g vs (a * 5) wr
        refine ⟨_, rfl, ⟨_, cap, by rw [hpl]; rfl, .inr ⟨g, 0, rfl, Nat.lt_of_lt_of_le (olt HR.out.row rfl) hT.size, fun i hi c u hu => ?_⟩⟩, by show a ≤ cap; omega, fun b o n c e => by
          injection e with e _ _
          injection e with e
          injection e with e _ _
          rw [← e]; exact .inl rfl, (HR.out.tch.trans hT).mono fun i _ e => by rw [e]; rfl⟩
        have hc : c < 5 := by have := (List.getElem?_eq_some_iff.1 hu).1; simpa [rqrow] using this
        rw [Nat.zero_add, World.cell?_setCells_out g vs _ wr _ (fun _ _ => .inl (show i * 5 + c < a * 5 by omega))]
        have hiR : i < R.length := by omega
        refine own_cell HR.out.row hlen.symm i hiR c u ?_
        have hx : (outQ p l)[i] = R[i] := by
          have : ∀ (M : List Rq) (e : R.take a = M) (h : i < M.length), M[i] = R[i] := fun M e h => by subst e; simp
          exact this _ hfr hi
        rw [← hx]; exact hu
end Go.Proofs.YtmciiobncfchlaaGreat
end
