
/- A range over a function that yields numbers out of a row of its own, which it has made ahead of the first one: the law. -/
import Derived.Test.YtckbjgcelpmffaaPoC
import Derived.RangeFuncNested
import Derived.RangeFuncBound
import Derived.RangeFuncCalls
import Derived.RangeFuncLeaves
import Derived.Shelf.RegionOpen
import Derived.OwnWalkIn
import Derived.TacticsInMore
import Derived.LoopNIn
import Derived.LoopIn
namespace Go.Proofs.Ytckbjgcelpmffaa
open Go.RowKit Go.Shelf

/-- What lies in S lies as it lay. -/
structure KpI (S : Nat → Prop) (A B : World) : Prop where
  size : A.heap.size ≤ B.heap.size
  same : ∀ k, S k → B.heap[k]? = A.heap[k]?
theorem KpI.refl (S : Nat → Prop) (A : World) : KpI S A A := ⟨Nat.le_refl _, fun _ _ => rfl⟩
theorem KpI.trans {S : Nat → Prop} {A B C : World} (h : KpI S A B) (k : KpI S B C) : KpI S A C := ⟨Nat.le_trans h.size k.size, fun i hi => (k.same i hi).trans (h.same i hi)⟩
theorem KpI.put {S : Nat → Prop} {A : World} {l : Nat} (o : Obj) (hl : ¬ S l) : KpI S A (A.putObj l o) := ⟨by simp, fun i hi => World.putObj_heap_other (fun e => hl (e ▸ hi))⟩
/-- The iterator's contract. -/
def SeqI (F : Fence) (n : Nat) (P : Program) (g : Nat) (lb : Array Value) (xs : List Int) (w : World) : Prop :=
  ∀ (l : Nat) (J Jx : (Nat → Prop) → List Int → World → Prop) (W : World), Nw w W →
    (∀ S pre x A, J S pre A → (pre ++ [x]) <+: xs → YieldAt F (n - 1) P l #[.int .i64 x] A fun e B => (e = .returned (.bool true) ∧ J S (pre ++ [x]) B ∧ KpI S A B) ∨ (e = .returned (.bool false) ∧ Jx S (pre ++ [x]) B ∧ KpI S A B)) →
    (∀ S B, Nw W B → (∀ k, S k → W.heap.size ≤ k ∧ k < B.heap.size) → J S [] B) →
    CallsIn F n P g (#[.func (.yield l) #[] #[]] ++ lb) W fun e W' => (∃ v, e = .returned v) ∧ ∃ S, (J S xs W' ∨ ∃ pre, pre <+: xs ∧ Jx S pre W')
/-- The loop's two blocks lie as they lay. -/
def KpJ (n₀ : Nat) (A B : World) : Prop := ∀ k, (k = n₀ ∨ k = n₀ + 1) → B.heap[k]? = A.heap[k]?
/-- How the body of a round may be left. -/
def riPost (n₀ : Nat) (S : Nat → Prop) (I : (Nat → Prop) → List Int → World → Prop) (Ix : Code → (Nat → Prop) → List Int → World → Prop) (pre : List Int) (A : World) : Exit → Act → World → Prop
  | .normal, _, B => KpJ n₀ A B ∧ KpI S A B ∧ I S pre B
  | .ret, _, B => KpJ n₀ A B ∧ KpI S A B ∧ Ix .ret S pre B
  | .exit id, _, B => KpJ n₀ A B ∧ KpI S A B ∧ Ix (.exit id) S pre B
  | .goto t, _, B => KpJ n₀ A B ∧ KpI S A B ∧ Ix (.goto t) S pre B
  | .panic _, _, _ => False
  | .outgrown, _, _ => False

variable {F : Fence} {n : Nat} {P : Program}
theorem ri_law {g : Operand} {ps : Array Tmp} {assign body : Code} {Q : Exit → Act → World → Prop} {a : Act} {w : World}
    (hro : F.round = none) (h1 : 1 ≤ n) {gf : Nat} {lb : Array Value} (hg : a.eval g = .func (.func gf) #[] lb) (hFg : F.fn gf) (eg : ∀ args w, (callFunc gf args).run P w = .ok (.enter gf args) w)
    {xs : List Int} (hseq : SeqI F (n - 1) P gf lb xs w) (hps : ps.size = 1)
    (I : (Nat → Prop) → List Int → World → Prop) (Ix : Code → (Nat → Prop) → List Int → World → Prop)
    (hI : ∀ S pre A l o o', I S pre A → (l = w.heap.size ∨ l = w.heap.size + 1) → A.heap[l]? = some o → o.isCells = false → I S pre (A.putObj l o'))
    (hIx : ∀ c S pre A l o o', Ix c S pre A → (l = w.heap.size ∨ l = w.heap.size + 1) → A.heap[l]? = some o → o.isCells = false → Ix c S pre (A.putObj l o'))
    (h0 : ∀ S W, Nw w W → (∀ k, S k → w.heap.size ≤ k ∧ k < W.heap.size) → I S [] W) (a₁ : Int → Act)
    (hassign : ∀ (l : Nat) (x : Int) (A : World) (K : Act → World → Prop), K (a₁ x) A →
      assign.wpIn (F.inRound l) (n - 1 - 1) P (Exit.then K (fun _ _ _ => False)) { tmps := (ps.zip #[.int .i64 x]).foldl (fun t (p, v) => t.setIfInBounds p v) a.tmps, defers := [] } A)
    (hbody : ∀ (l : Nat) (S : Nat → Prop) (pre : List Int) (x : Int) (A : World), I S pre A → (∀ k, (k = w.heap.size ∨ k = w.heap.size + 1) → ∃ o, A.heap[k]? = some o ∧ o.isCells = false) →
      (pre ++ [x]) <+: xs → body.wpIn (F.inRound l) (n - 1 - 1) P (riPost w.heap.size S I Ix (pre ++ [x]) A) (a₁ x) A)
    (hdone : ∀ (D : Nat) (S : Nat → Prop) (W : World), D = w.heap.size → I S xs W → W.heap[D]? = some (.deferred (some [])) → Q .normal { a with defers := { target := .collected D, args := #[] } :: a.defers } W)
    (hstop : ∀ (D : Nat) (c : Code) (S : Nat → Prop) (pre : List Int) (W : World), D = w.heap.size → pre <+: xs → Ix c S pre W → W.heap[D]? = some (.deferred (some [])) → c.wpIn F n P Q { a with defers := { target := .collected D, args := #[] } :: a.defers } W) :
    (Code.rangeFunc g ps assign body).wpIn F n P Q a w := by
  refine wpIn_rangeFunc ?_
  intro fn hfn
  rw [hro]
  obtain ⟨rec, hrec⟩ : ∃ rec : LoopState → Option Code → Loop, rec = fun st pe => { state := st, pending := pe, fn, tmps := a.tmps, params := ps, assign, body, defers := w.heap.size } := ⟨_, rfl⟩
  obtain ⟨W1, hW1⟩ : ∃ W1, (w.alloc (.deferred (some []))).alloc (.loop (rec .ready none)) = W1 := ⟨_, rfl⟩
  have hL1 : W1.heap[w.heap.size + 1]? = some (.loop (rec .ready none)) := by
    rw [← hW1]; have := World.alloc_heap_new (w.alloc (.deferred (some []))) (.loop (rec .ready none)); rwa [World.size_alloc] at this
  have hK1 : W1.heap[w.heap.size]? = some (.deferred (some [])) := by
    rw [← hW1]; exact (Below.heap_alloc _ _ _ (by simp)).trans (World.alloc_heap_new w _)
  have hb1 : Nw w W1 := by rw [← hW1]; exact ((Nw.refl w).alloc _).alloc _
  refine ⟨w.heap.size + 1, [{ target := .collected w.heap.size, args := #[] }], W1, { target := .fn (.func gf) lb, args := #[.func (.yield (w.heap.size + 1)) #[] #[]] }, W1, gf,
    #[.func (.yield (w.heap.size + 1)) #[] #[]] ++ lb, W1, ?_, ?_, ?_, ?_, fun _ => h1, ?_⟩
  · rw [← hW1, hrec]; exact run_enterLoop_outer _ _ _ _ _
  · simp only [resolve, hg]
    simp [go_sem]
  · intro f' hf'; simp [Target.leads] at hf'; subst hf'; exact hFg
  · simp [invoke, go_sem, eg]
  · have lt_of : ∀ {A : World} {k : Nat} {o : Obj}, A.heap[k]? = some o → k < A.heap.size := fun h => (Array.getElem?_eq_some_iff.1 h).1
    refine (hseq (w.heap.size + 1)
      (fun S pre W => I S pre W ∧ W.heap[w.heap.size + 1]? = some (.loop (rec .ready none)) ∧ W.heap[w.heap.size]? = some (.deferred (some [])) ∧ ¬ S (w.heap.size + 1) ∧ ¬ S w.heap.size)
      (fun S pre W => ∃ c, Ix c S pre W ∧ W.heap[w.heap.size + 1]? = some (.loop (rec .done (some c))) ∧ W.heap[w.heap.size]? = some (.deferred (some [])) ∧ ¬ S (w.heap.size + 1) ∧ ¬ S w.heap.size)
      W1 hb1 ?_ (fun S B g hS => ⟨h0 S B (hb1.trans g) (fun k e => ⟨Nat.le_trans hb1.sz (hS k e).1, (hS k e).2⟩), (g.block _ (lt_of hL1)).trans hL1, (g.block _ (lt_of hK1)).trans hK1, fun e => by have := (hS _ e).1; have := lt_of hL1; omega, fun e => by have := (hS _ e).1; have := lt_of hK1; omega⟩)).mono ?_
    · -- one round
      rintro S pre x W ⟨hi, hl, hk, hn1, hn2⟩ hpre
      have hy := run_yield (P := P) (args := #[.int .i64 x]) hl (by rw [hrec]; exact hps.symm)
      rw [hrec] at hy
      refine ⟨fn, _, assign, body, hy, roundIn_of_wpIn hfn (hassign _ x W _ ?_)⟩
      clear hy
      refine ⟨_, run_beginRound hl (by rw [hrec]), ?_⟩
      obtain ⟨A2, hA2⟩ : ∃ A2, W.putObj (w.heap.size + 1) (.loop { rec .ready none with state := .busy }) = A2 := ⟨_, rfl⟩
      rw [hA2]
      have hl2 : A2.heap[w.heap.size + 1]? = some (.loop { rec .ready none with state := .busy }) := by rw [← hA2]; exact World.putObj_heap_same (lt_of hl)
      have hk2 : A2.heap[w.heap.size]? = some (.deferred (some [])) := by rw [← hA2]; exact (World.putObj_heap_other (by omega)).trans hk
      have hi2 : I S pre A2 := by rw [← hA2]; exact hI S pre W _ _ _ hi (.inr rfl) hl rfl
      have kps : KpI S W A2 := by rw [← hA2]; exact KpI.put _ hn1
      refine wpIn_mono (hbody _ S pre x A2 hi2 (fun k e => by
        rcases e with rfl | rfl
        · exact ⟨_, hk2, rfl⟩
        · exact ⟨_, hl2, rfl⟩) hpre) ?_
      have fin : ∀ (jump : Option Code) (W3 : World), KpJ w.heap.size A2 W3 →
          (Instr.endRound (w.heap.size + 1) jump).run P W3 = .ok (.bool jump.isNone) (W3.putObj (w.heap.size + 1) (.loop (rec (if jump.isNone then .ready else .done) jump))) ∧
          W3.heap[w.heap.size + 1]? = some (.loop { rec .ready none with state := .busy }) ∧
          (W3.putObj (w.heap.size + 1) (.loop (rec (if jump.isNone then .ready else .done) jump))).heap[w.heap.size + 1]? = some (.loop (rec (if jump.isNone then .ready else .done) jump)) ∧
          (W3.putObj (w.heap.size + 1) (.loop (rec (if jump.isNone then .ready else .done) jump))).heap[w.heap.size]? = some (.deferred (some [])) := fun jump W3 hk3 => by
        have hl3 := (hk3 _ (.inr rfl)).trans hl2
        have := run_endRound (P := P) jump hl3
        rw [hrec] at this ⊢
        exact ⟨this, by rw [hrec] at hl3; exact hl3, World.putObj_heap_same (lt_of hl3), (World.putObj_heap_other (by omega)).trans ((hk3 _ (.inl rfl)).trans hk2)⟩
      rintro e a3 W3 hp
      cases e with
      | normal =>
        obtain ⟨hk3, hkp3, hi3⟩ := hp
        obtain ⟨hr, hl3, hl4, hk4⟩ := fin none W3 hk3
        exact ⟨_, _, hr, .inl ⟨rfl, ⟨hI S _ W3 _ _ _ hi3 (.inr rfl) hl3 rfl, hl4, hk4, hn1, hn2⟩, (kps.trans hkp3).trans (KpI.put _ hn1)⟩⟩
      | ret =>
        obtain ⟨hk3, hkp3, hi3⟩ := hp
        obtain ⟨hr, hl3, hl4, hk4⟩ := fin (some .ret) W3 hk3
        exact ⟨_, _, hr, .inr ⟨rfl, ⟨.ret, hIx _ S _ W3 _ _ _ hi3 (.inr rfl) hl3 rfl, hl4, hk4, hn1, hn2⟩, (kps.trans hkp3).trans (KpI.put _ hn1)⟩⟩
      | exit id =>
        obtain ⟨hk3, hkp3, hi3⟩ := hp
        obtain ⟨hr, hl3, hl4, hk4⟩ := fin (some (.exit id)) W3 hk3
        exact ⟨_, _, hr, .inr ⟨rfl, ⟨.exit id, hIx _ S _ W3 _ _ _ hi3 (.inr rfl) hl3 rfl, hl4, hk4, hn1, hn2⟩, (kps.trans hkp3).trans (KpI.put _ hn1)⟩⟩
      | goto t =>
        obtain ⟨hk3, hkp3, hi3⟩ := hp
        obtain ⟨hr, hl3, hl4, hk4⟩ := fin (some (.goto t)) W3 hk3
        exact ⟨_, _, hr, .inr ⟨rfl, ⟨.goto t, hIx _ S _ W3 _ _ _ hi3 (.inr rfl) hl3 rfl, hl4, hk4, hn1, hn2⟩, (kps.trans hkp3).trans (KpI.put _ hn1)⟩⟩
      | panic ch => exact hp.elim
      | outgrown => exact hp.elim
    · -- behind the iterator
      rintro e W2 ⟨⟨v, rfl⟩, S, (⟨hi, hl, hk, hn1, hn2⟩ | ⟨pre, hp, c, hi, hl, hk, hn1, hn2⟩)⟩
      · exact ⟨none, _, by have := run_endLoop (P := P) hl (by rw [hrec]; simp); rw [hrec] at this; exact this,
          hdone _ S _ rfl (hI S _ W2 _ _ _ hi (.inr rfl) hl rfl) ((World.putObj_heap_other (by omega)).trans hk)⟩
      · exact ⟨some c, _, by have := run_endLoop (P := P) hl (by rw [hrec]; simp); rw [hrec] at this; exact this,
          hstop _ c S pre _ rfl hp (hIx c S pre W2 _ _ _ hi (.inr rfl) hl rfl) ((World.putObj_heap_other (by omega)).trans hk)⟩
end Go.Proofs.Ytckbjgcelpmffaa
