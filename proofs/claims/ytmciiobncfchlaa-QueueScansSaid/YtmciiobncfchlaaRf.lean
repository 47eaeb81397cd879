
/- A range over a function that hands out ints and writes memory of its own: the iterator owns a set of blocks, which grows; the loop's body leaves them alone, the iterator leaves all others alone. The function may be a method value. Of no program. -/
import Derived.Test.YtmciiobncfchlaaTch
import Derived.RangeFuncNested
import Derived.RangeFuncBound
import Derived.RangeFuncCalls
import Derived.RangeFuncLeaves
import Derived.Shelf.RegionOpen
import Derived.OwnWalkIn
import Derived.TacticsInMore
import Derived.LoopNIn
import Derived.LoopIn
namespace Go.Proofs.Ytmciiobncfchlaa
open Go.RowKit Go.Shelf

/-- What lies in S lies as it lay. -/
structure KpS (S : Nat → Prop) (A B : World) : Prop where
  size : A.heap.size ≤ B.heap.size
  same : ∀ k, S k → B.heap[k]? = A.heap[k]?
theorem KpS.refl (S : Nat → Prop) (A : World) : KpS S A A := ⟨Nat.le_refl _, fun _ _ => rfl⟩
theorem KpS.trans {S : Nat → Prop} {A B C : World} (h : KpS S A B) (k : KpS S B C) : KpS S A C := ⟨Nat.le_trans h.size k.size, fun i hi => (k.same i hi).trans (h.same i hi)⟩
theorem KpS.mono {S S' : Nat → Prop} {A B : World} (h : KpS S A B) (hs : ∀ k, S' k → S k) : KpS S' A B := ⟨h.size, fun i hi => h.same i (hs i hi)⟩
theorem KpS.tch {S T : Nat → Prop} {A B : World} (h : Tch T A B) (hs : ∀ k, S k → k < A.heap.size ∧ ¬ T k) : KpS S A B := ⟨h.size, fun i hi => h.block i (hs i hi).1 (hs i hi).2⟩
theorem KpS.put {S : Nat → Prop} {A : World} {l : Nat} (o : Obj) (hl : ¬ S l) : KpS S A (A.putObj l o) := ⟨by simp, fun i hi => World.putObj_heap_other (fun e => hl (e ▸ hi))⟩

/-- What an iterator, or the loop's own book-keeping, may do: blocks of S, new blocks, and the loop's two blocks, which are no cells. -/
structure Ch' (n₀ : Nat) (S : Nat → Prop) (A B : World) : Prop where
  os : B.os = A.os
  tape : B.tape = A.tape
  output : B.output = A.output
  size : A.heap.size ≤ B.heap.size
  block : ∀ k, k < A.heap.size → ¬ S k → B.heap[k]? = A.heap[k]? ∨ ((k = n₀ ∨ k = n₀ + 1) ∧ ∃ o, A.heap[k]? = some o ∧ o.isCells = false)
theorem Ch'.of_tch {n₀ : Nat} {S : Nat → Prop} {A B : World} (h : Tch S A B) : Ch' n₀ S A B := ⟨h.os, h.tape, h.output, h.size, fun k hk hn => .inl (h.block k hk hn)⟩
theorem Ch'.put {n₀ : Nat} {S : Nat → Prop} {A : World} {l : Nat} {o : Obj} (o' : Obj) (hn : l = n₀ ∨ l = n₀ + 1) (h : A.heap[l]? = some o) (ho : o.isCells = false) : Ch' n₀ S A (A.putObj l o') :=
  ⟨rfl, rfl, rfl, by simp, fun k _ _ => by
    by_cases e : k = l
    · subst e; exact .inr ⟨hn, o, h, ho⟩
    · exact .inl (World.putObj_heap_other e)⟩
theorem Ch'.cells {n₀ : Nat} {S : Nat → Prop} {A B : World} {k : Nat} {c : Array Value} {t : TypeId} {f : Nat × Nat} (h : Ch' n₀ S A B) (hk : A.heap[k]? = some (.cells c t f)) (hn : ¬ S k) : B.heap[k]? = some (.cells c t f) := by
  rcases h.block k (Array.getElem?_eq_some_iff.1 hk).1 hn with e | ⟨_, o, ho, hc⟩
  · exact e.trans hk
  · rw [hk] at ho; cases ho; cases hc
theorem Ch'.row {n₀ : Nat} {S : Nat → Prop} {A B : World} {v : Value} {n : Nat} {e : TypeId} {size : Nat} {xs : List Value} (h : Ch' n₀ S A B) (hr : A.ownsRow 0 e size v n xs) (hn : ∀ k, v.ownBlock = some k → ¬ S k) : B.ownsRow 0 e size v n xs := by
  refine ⟨hr.1, ?_⟩
  rcases hr.2 with h0 | ⟨g, cap, cur, rfl, hb, hg, rest⟩
  · exact .inl h0
  · exact .inr ⟨g, cap, cur, rfl, hb, h.cells hg (hn g rfl), rest⟩
/-- From w on nothing has changed but blocks of T and what came later. -/
theorem Ch'.tch {n₀ : Nat} {S T : Nat → Prop} {w A B : World} (h : Ch' n₀ S A B) (k : Tch T w A) (hn : w.heap.size ≤ n₀) (hS : ∀ i, i < w.heap.size → S i → T i) : Tch T w B :=
  ⟨h.os.trans k.os, h.tape.trans k.tape, h.output.trans k.output, Nat.le_trans k.size h.size, fun i hi ht => by
    rcases h.block i (Nat.lt_of_lt_of_le hi k.size) (fun e => ht (hS i hi e)) with e | ⟨e, _⟩
    · exact e.trans (k.block i hi ht)
    · omega⟩

/-- The loop's two blocks lie as they lay. -/
def KpD (n₀ : Nat) (A B : World) : Prop := ∀ k, (k = n₀ ∨ k = n₀ + 1) → B.heap[k]? = A.heap[k]?
/-- The iterator's contract. -/
def SeqH (F : Fence) (n : Nat) (P : Program) (g : Nat) (fa lb : Array Value) (xs : List Int) (S0 : Nat → Prop) (End : World → Prop) (w : World) : Prop :=
  ∀ (l : Nat) (J Jx : (Nat → Prop) → List Int → World → Prop) (W : World), Nw w W →
    (∀ S S' pre A B, J S pre A → Tch S A B → (∀ k, S k → S' k) → (∀ k, S' k → S k ∨ A.heap.size ≤ k) → (∀ k, S' k → k < B.heap.size) → J S' pre B) →
    (∀ S S' pre A B, Jx S pre A → Tch S A B → (∀ k, S k → S' k) → (∀ k, S' k → S k ∨ A.heap.size ≤ k) → (∀ k, S' k → k < B.heap.size) → Jx S' pre B) →
    (∀ S pre x A, J S pre A → (∀ k, S0 k → S k) → (∀ k, S k → k < A.heap.size) → (pre ++ [x]) <+: xs → YieldAt F (n - 1) P l #[.int .i64 x] A fun e B =>
      (e = .returned (.bool true) ∧ J S (pre ++ [x]) B ∧ KpS S A B) ∨ (e = .returned (.bool false) ∧ Jx S (pre ++ [x]) B ∧ KpS S A B)) →
    J S0 [] W →
    CallsIn F n P g (fa ++ #[.func (.yield l) #[] #[]] ++ lb) W fun e W' => (∃ v, e = .returned v) ∧ ((∃ S, J S xs W' ∧ End W') ∨ (∃ S pre, pre <+: xs ∧ Jx S pre W'))

/-- How the body of a round may be left. -/
def rfPost (n₀ : Nat) (S : Nat → Prop) (I : (Nat → Prop) → List Int → World → Prop) (Ix : Code → (Nat → Prop) → List Int → World → Prop) (pre : List Int) (A : World) : Exit → Act → World → Prop
  | .normal, _, B => KpD n₀ A B ∧ KpS S A B ∧ I S pre B
  | .ret, _, B => KpD n₀ A B ∧ KpS S A B ∧ Ix .ret S pre B
  | .exit id, _, B => KpD n₀ A B ∧ KpS S A B ∧ Ix (.exit id) S pre B
  | .goto t, _, B => KpD n₀ A B ∧ KpS S A B ∧ Ix (.goto t) S pre B
  | .panic _, _, _ => False
  | .outgrown, _, _ => False

variable {F : Fence} {n : Nat} {P : Program}
theorem rf_law {g : Operand} {ps : Array Tmp} {assign body : Code} {Q : Exit → Act → World → Prop} {a : Act} {w : World}
    (hro : F.round = none) (h1 : 1 ≤ n) {gf : Nat} {fa lb : Array Value} (hg : a.eval g = .func (.func gf) fa lb) (hFg : F.fn gf) (eg : ∀ args w, (callFunc gf args).run P w = .ok (.enter gf args) w)
    {xs : List Int} {S0 : Nat → Prop} {End : World → Prop} (hS0 : ∀ k, S0 k → k < w.heap.size) (hseq : SeqH F (n - 1) P gf fa lb xs S0 End w) (hps : ps.size = 1)
    (hEnd : ∀ (A : World) (l : Nat) (o o' : Obj), w.heap.size ≤ l → A.heap[l]? = some o → o.isCells = false → End A → End (A.putObj l o'))
    (I : (Nat → Prop) → List Int → World → Prop) (Ix : Code → (Nat → Prop) → List Int → World → Prop)
    (hI : ∀ S S' pre A B, I S pre A → Ch' w.heap.size S A B → (∀ k, S k → S' k) → (∀ k, S' k → S k ∨ A.heap.size ≤ k) → (∀ k, S' k → k < B.heap.size) → I S' pre B)
    (hIx : ∀ c S S' pre A B, Ix c S pre A → Ch' w.heap.size S A B → (∀ k, S k → S' k) → (∀ k, S' k → S k ∨ A.heap.size ≤ k) → (∀ k, S' k → k < B.heap.size) → Ix c S' pre B)
    (h0 : I S0 [] w) (a₁ : Int → Act)
    (hassign : ∀ (l : Nat) (x : Int) (A : World) (K : Act → World → Prop), K (a₁ x) A →
      assign.wpIn (F.inRound l) (n - 1 - 1) P (Exit.then K (fun _ _ _ => False)) { tmps := (ps.zip #[.int .i64 x]).foldl (fun t (p, v) => t.setIfInBounds p v) a.tmps, defers := [] } A)
    (hbody : ∀ (l : Nat) (S : Nat → Prop) (pre : List Int) (x : Int) (A : World), I S pre A → (∀ k, S0 k → S k) → (∀ k, S k → k < A.heap.size) → (∀ k, (k = w.heap.size ∨ k = w.heap.size + 1) → ¬ S k ∧ ∃ o, A.heap[k]? = some o ∧ o.isCells = false) →
      (pre ++ [x]) <+: xs → body.wpIn (F.inRound l) (n - 1 - 1) P (rfPost w.heap.size S I Ix (pre ++ [x]) A) (a₁ x) A)
    (hdone : ∀ (D : Nat) (S : Nat → Prop) (W : World), D = w.heap.size → (∀ k, S k → k < W.heap.size) → I S xs W → End W → W.heap[D]? = some (.deferred (some [])) → Q .normal { a with defers := { target := .collected D, args := #[] } :: a.defers } W)
    (hstop : ∀ (D : Nat) (c : Code) (S : Nat → Prop) (pre : List Int) (W : World), D = w.heap.size → pre <+: xs → Ix c S pre W → W.heap[D]? = some (.deferred (some [])) → c.wpIn F n P Q { a with defers := { target := .collected D, args := #[] } :: a.defers } W) :
    (Code.rangeFunc g ps assign body).wpIn F n P Q a w := by
  refine wpIn_rangeFunc ?_
  intro fn hfn
  rw [hro]
  obtain ⟨rec, hrec⟩ : ∃ rec : LoopState → Option Code → Loop, rec = fun st pe => { state := st, pending := pe, fn, tmps := a.tmps, params := ps, assign, body, defers := w.heap.size } := ⟨_, rfl⟩
  obtain ⟨W1, hW1⟩ : ∃ W1, (w.alloc (.deferred (some []))).alloc (.loop (rec .ready none)) = W1 := ⟨_, rfl⟩
  have hL1 : W1.heap[w.heap.size + 1]? = some (.loop (rec .ready none)) := by
    rw [← hW1]; have := World.alloc_heap_new (w.alloc (.deferred (some []))) (.loop (rec .ready none)); rwa [World.size_alloc] at this
  have hK1 : W1.heap[w.heap.size]? = some (.deferred (some [])) := by
    rw [← hW1]; exact (Below.heap_alloc _ _ _ (by simp)).trans (World.alloc_heap_new w _)
  have hb1 : Nw w W1 := by rw [← hW1]; exact ((Nw.refl w).alloc _).alloc _
  have hI1 : I S0 [] W1 := hI S0 S0 [] w W1 h0 (Ch'.of_tch (Tch.nw hb1)) (fun _ e => e) (fun _ e => .inl e) (fun k e => Nat.lt_of_lt_of_le (hS0 k e) hb1.sz)
  refine ⟨w.heap.size + 1, [{ target := .collected w.heap.size, args := #[] }], W1, { target := .fn (.func gf) lb, args := fa ++ #[.func (.yield (w.heap.size + 1)) #[] #[]] }, W1, gf,
    fa ++ #[.func (.yield (w.heap.size + 1)) #[] #[]] ++ lb, W1, ?_, ?_, ?_, ?_, fun _ => h1, ?_⟩
  · rw [← hW1, hrec]; exact run_enterLoop_outer _ _ _ _ _
  · simp only [resolve, hg]
    simp [go_sem]
  · intro f' hf'; simp [Target.leads] at hf'; subst hf'; exact hFg
  · simp [invoke, go_sem, eg]
  · have lt_of : ∀ {A : World} {k : Nat} {o : Obj}, A.heap[k]? = some o → k < A.heap.size := fun h => (Array.getElem?_eq_some_iff.1 h).1
    refine (hseq (w.heap.size + 1)
      (fun S pre W => I S pre W ∧ W.heap[w.heap.size + 1]? = some (.loop (rec .ready none)) ∧ W.heap[w.heap.size]? = some (.deferred (some [])) ∧ ¬ S (w.heap.size + 1) ∧ ¬ S w.heap.size ∧ (∀ k, S k → k < W.heap.size))
      (fun S pre W => ∃ c, Ix c S pre W ∧ W.heap[w.heap.size + 1]? = some (.loop (rec .done (some c))) ∧ W.heap[w.heap.size]? = some (.deferred (some [])) ∧ ¬ S (w.heap.size + 1) ∧ ¬ S w.heap.size ∧ (∀ k, S k → k < W.heap.size))
      W1 hb1 ?_ ?_ ?_ ⟨hI1, hL1, hK1, fun e => by have := hS0 _ e; omega, fun e => by have := hS0 _ e; omega, fun k e => Nat.lt_of_lt_of_le (hS0 k e) hb1.sz⟩).mono ?_
    · rintro S S' pre A B ⟨hi, hl, hk, hn1, hn2, hbd⟩ ht hs1 hs2 hs3
      exact ⟨hI S S' pre A B hi (Ch'.of_tch ht) hs1 hs2 hs3, (ht.block _ (lt_of hl) hn1).trans hl, (ht.block _ (lt_of hk) hn2).trans hk,
        fun e => (hs2 _ e).elim hn1 (fun h => by have := lt_of hl; omega), fun e => (hs2 _ e).elim hn2 (fun h => by have := lt_of hk; omega), hs3⟩
    · rintro S S' pre A B ⟨c, hi, hl, hk, hn1, hn2, hbd⟩ ht hs1 hs2 hs3
      exact ⟨c, hIx c S S' pre A B hi (Ch'.of_tch ht) hs1 hs2 hs3, (ht.block _ (lt_of hl) hn1).trans hl, (ht.block _ (lt_of hk) hn2).trans hk,
        fun e => (hs2 _ e).elim hn1 (fun h => by have := lt_of hl; omega), fun e => (hs2 _ e).elim hn2 (fun h => by have := lt_of hk; omega), hs3⟩
    · -- one round
      rintro S pre x W ⟨hi, hl, hk, hn1, hn2, hbd⟩ hsub hex hpre
      have hy := run_yield (P := P) (args := #[.int .i64 x]) hl (by rw [hrec]; exact hps.symm)
      rw [hrec] at hy
      refine ⟨fn, _, assign, body, hy, roundIn_of_wpIn hfn (hassign _ x W _ ?_)⟩
      clear hy
      have nw1 : Nw W W := Nw.refl W
      have hl1 : W.heap[w.heap.size + 1]? = some (.loop (rec .ready none)) := (nw1.block _ (lt_of hl)).trans hl
      have hk1 : W.heap[w.heap.size]? = some (.deferred (some [])) := (nw1.block _ (lt_of hk)).trans hk
      have hlW := lt_of hl
      have hi1 : I S pre W := hI S S pre W W hi (Ch'.of_tch (Tch.nw nw1)) (fun _ e => e) (fun _ e => .inl e) (fun k e => Nat.lt_of_lt_of_le (hex k e) nw1.sz)
      refine ⟨_, run_beginRound hl1 (by rw [hrec]), ?_⟩
      obtain ⟨A2, hA2⟩ : ∃ A2, W.putObj (w.heap.size + 1) (.loop { rec .ready none with state := .busy }) = A2 := ⟨_, rfl⟩
      rw [hA2]
      have hl2 : A2.heap[w.heap.size + 1]? = some (.loop { rec .ready none with state := .busy }) := by rw [← hA2]; exact World.putObj_heap_same (lt_of hl1)
      have hk2 : A2.heap[w.heap.size]? = some (.deferred (some [])) := by rw [← hA2]; exact (World.putObj_heap_other (by omega)).trans hk1
      have hi2 : I S pre A2 := by rw [← hA2]; exact hI S S pre W _ hi1 (Ch'.put _ (.inr rfl) hl1 rfl) (fun _ e => e) (fun _ e => .inl e) (fun k e => by rw [World.putObj_size]; exact Nat.lt_of_lt_of_le (hex k e) nw1.sz)
      have hsz2 : W.heap.size ≤ A2.heap.size := by rw [← hA2]; simp
      have kps : KpS S W A2 := by
        rw [← hA2]
        exact (KpS.tch (Tch.nw (S := fun _ => False) nw1) (fun k e => ⟨hex k e, fun h => h⟩)).trans (KpS.put _ hn1)
      refine wpIn_mono (hbody _ S pre x A2 hi2 hsub (fun k e => Nat.lt_of_lt_of_le (hex k e) hsz2) (fun k e => by
        rcases e with rfl | rfl
        · exact ⟨hn2, _, hk2, rfl⟩
        · exact ⟨hn1, _, hl2, rfl⟩) hpre) ?_
      have fin : ∀ (jump : Option Code) (W3 : World), KpD w.heap.size A2 W3 →
          (Instr.endRound (w.heap.size + 1) jump).run P W3 = .ok (.bool jump.isNone) (W3.putObj (w.heap.size + 1) (.loop (rec (if jump.isNone then .ready else .done) jump))) ∧
          W3.heap[w.heap.size + 1]? = some (.loop { rec .ready none with state := .busy }) ∧
          (W3.putObj (w.heap.size + 1) (.loop (rec (if jump.isNone then .ready else .done) jump))).heap[w.heap.size + 1]? = some (.loop (rec (if jump.isNone then .ready else .done) jump)) ∧
          (W3.putObj (w.heap.size + 1) (.loop (rec (if jump.isNone then .ready else .done) jump))).heap[w.heap.size]? = some (.deferred (some [])) := fun jump W3 hk3 => by
        have hl3 := (hk3 _ (.inr rfl)).trans hl2
        have := run_endRound (P := P) jump hl3
        rw [hrec] at this ⊢
        exact ⟨this, by rw [hrec] at hl3; exact hl3, World.putObj_heap_same (lt_of hl3), (World.putObj_heap_other (by omega)).trans ((hk3 _ (.inl rfl)).trans hk2)⟩
      have b3 : ∀ {W3 : World}, KpS S A2 W3 → ∀ {jj : Obj} (k : Nat), S k → k < (W3.putObj (w.heap.size + 1) jj).heap.size := fun h3 _ k e => by rw [World.putObj_size]; exact Nat.lt_of_lt_of_le (hex k e) (kps.trans h3).size
      rintro e a3 W3 hp
      cases e with
      | normal =>
        obtain ⟨hk3, hkp3, hi3⟩ := hp
        obtain ⟨hr, hl3, hl4, hk4⟩ := fin none W3 hk3
        exact ⟨_, _, hr, .inl ⟨rfl, ⟨hI S S _ W3 _ hi3 (Ch'.put _ (.inr rfl) hl3 rfl) (fun _ e => e) (fun _ e => .inl e) (b3 hkp3), hl4, hk4, hn1, hn2, b3 hkp3⟩, (kps.trans hkp3).trans (KpS.put _ hn1)⟩⟩
      | ret =>
        obtain ⟨hk3, hkp3, hi3⟩ := hp
        obtain ⟨hr, hl3, hl4, hk4⟩ := fin (some .ret) W3 hk3
        exact ⟨_, _, hr, .inr ⟨rfl, ⟨.ret, hIx _ S S _ W3 _ hi3 (Ch'.put _ (.inr rfl) hl3 rfl) (fun _ e => e) (fun _ e => .inl e) (b3 hkp3), hl4, hk4, hn1, hn2, b3 hkp3⟩, (kps.trans hkp3).trans (KpS.put _ hn1)⟩⟩
      | exit id =>
        obtain ⟨hk3, hkp3, hi3⟩ := hp
        obtain ⟨hr, hl3, hl4, hk4⟩ := fin (some (.exit id)) W3 hk3
        exact ⟨_, _, hr, .inr ⟨rfl, ⟨.exit id, hIx _ S S _ W3 _ hi3 (Ch'.put _ (.inr rfl) hl3 rfl) (fun _ e => e) (fun _ e => .inl e) (b3 hkp3), hl4, hk4, hn1, hn2, b3 hkp3⟩, (kps.trans hkp3).trans (KpS.put _ hn1)⟩⟩
      | goto t =>
        obtain ⟨hk3, hkp3, hi3⟩ := hp
        obtain ⟨hr, hl3, hl4, hk4⟩ := fin (some (.goto t)) W3 hk3
        exact ⟨_, _, hr, .inr ⟨rfl, ⟨.goto t, hIx _ S S _ W3 _ hi3 (Ch'.put _ (.inr rfl) hl3 rfl) (fun _ e => e) (fun _ e => .inl e) (b3 hkp3), hl4, hk4, hn1, hn2, b3 hkp3⟩, (kps.trans hkp3).trans (KpS.put _ hn1)⟩⟩
      | panic ch => exact hp.elim
      | outgrown => exact hp.elim
    · -- behind the iterator
      rintro e W2 ⟨⟨v, rfl⟩, (⟨S, ⟨hi, hl, hk, hn1, hn2, hbd⟩, hE⟩ | ⟨S, pre, hp, c, hi, hl, hk, hn1, hn2, hbd⟩)⟩
      · exact ⟨none, _, by have := run_endLoop (P := P) hl (by rw [hrec]; simp); rw [hrec] at this; exact this,
          hdone _ S _ rfl (fun k e => by rw [World.putObj_size]; exact hbd k e) (hI S S _ W2 _ hi (Ch'.put _ (.inr rfl) hl rfl) (fun _ e => e) (fun _ e => .inl e) (fun k e => by rw [World.putObj_size]; exact hbd k e)) (hEnd _ _ _ _ (by omega) hl rfl hE) ((World.putObj_heap_other (by omega)).trans hk)⟩
      · exact ⟨some c, _, by have := run_endLoop (P := P) hl (by rw [hrec]; simp); rw [hrec] at this; exact this,
          hstop _ c S pre _ rfl hp (hIx c S S _ W2 _ hi (Ch'.put _ (.inr rfl) hl rfl) (fun _ e => e) (fun _ e => .inl e) (fun k e => by rw [World.putObj_size]; exact hbd k e)) ((World.putObj_heap_other (by omega)).trans hk)⟩
end Go.Proofs.Ytmciiobncfchlaa
