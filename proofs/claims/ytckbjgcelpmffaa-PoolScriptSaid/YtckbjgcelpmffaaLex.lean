
/- A cheaper Bool over a region's text: each operation waits only for earlier ones, and each later one waits for it or is apart from it. Of no program. -/
import Derived.Test.YtckbjgcelpmffaaRegion
namespace Go.Proofs.Ytckbjgcelpmffaa
open Go

/-- What the check asks of an operation: where it writes, what it looks at, for whom it waits. -/
def infoOf (ops : Array Oper) (o : Oper) : Option Tmp × List Tmp × List Nat := (o.dst, o.looksAt ops, (o.after.toList.filter (Region.binds .any)).map (·.on))
def pairI (k : Nat) (x y : Option Tmp × List Tmp × List Nat) : Bool :=
  y.2.2.contains k || ((match x.1 with
    | some d => !y.2.1.contains d && y.1 != some d
    | none => true) && (match y.1 with
    | some d => !x.2.1.contains d
    | none => true))
def lexI : Nat → List (Option Tmp × List Tmp × List Nat) → Bool
  | _, [] => true
  | k, x :: r => x.2.2.all (fun e => decide (e < k)) && r.all (pairI k x) && lexI (k + 1) r

theorem lex_walk {P : Program} {ops : Array Oper} {C : World → Prop} {Q : Act → Prop} (hs : Region.noSelect ops = true) : ∀ (l : List Oper) (k : Nat) (listed : Array Bool) (a : Act),
    (∀ j, l[j]? = ops[k + j]?) → (∀ j, j < k → listed.getD j false = true) → (∀ j, k ≤ j → j < k + l.length → listed.getD j true = false) → k + l.length = ops.size →
    lexI k (l.map (infoOf ops)) = true → wpQuiet P ops C Q l a → wpAnyQ P .any ops C Q l.length listed a
  | [], k, listed, a, _, hL, _, hn, _, h => by
    refine ⟨?_, h⟩
    rw [List.eq_nil_iff_forall_not_mem]
    intro j hj
    obtain ⟨h1, o, ho, _⟩ := mem_ready.1 hj
    have hlt : j < ops.size := (Array.getElem?_eq_some_iff.1 ho).1
    have h2 := hL j (by simp at hn; omega)
    rcases Nat.lt_or_ge j listed.size with g | g
    · simp [g] at h1 h2; rw [h1] at h2; cases h2
    · simp [Array.getElem?_eq_none g] at h2
  | o :: l, k, listed, a, hl, hL, hU, hn, hB, h => by
    have h0 : ops[k]? = some o := by simpa using (hl 0).symm
    simp only [List.map_cons, lexI, Bool.and_eq_true, List.all_eq_true, decide_eq_true_eq] at hB
    obtain ⟨⟨hd, hp⟩, hB'⟩ := hB
    have hst : qOp P ops C k (wpQuiet P ops C Q l) a := by unfold qOp; simp only [h0]; exact h
    obtain ⟨v, hy, hK⟩ := yieldsIn_of_qOp h0 hst
    have hr : k ∈ Region.ready .any ops listed := by
      refine mem_ready.2 ⟨hU k (Nat.le_refl _) (by simp), o, h0, fun e he hb => hL e.on (hd e.on ?_)⟩
      exact List.mem_map.2 ⟨e, List.mem_filter.2 ⟨Array.mem_toList_iff.2 he, hb⟩, rfl⟩
    refine wpAnyQ_first h0 (Region.noSelect_spec hs) l.length listed a ?_ hr hy (lex_walk hs l (k + 1) _ _ (fun j => ?_) (fun j hj => ?_) (fun j h1 h2 => ?_) (by simp at hn; omega) hB' hK)
    · intro j oj hoj hne hun hno
      have hkj : k < j := by
        rcases Nat.lt_or_ge j k with g | g
        · have h2 := hL j g
          rcases Nat.lt_or_ge j listed.size with g2 | g2
          · simp [g2] at hun h2; rw [hun] at h2; cases h2
          · simp [Array.getElem?_eq_none g2] at h2
        · omega
      have hlj := hl (j - k)
      rw [show k + (j - k) = j by omega, hoj, show j - k = (j - k - 1) + 1 by omega, List.getElem?_cons_succ] at hlj
      have hm : infoOf ops oj ∈ l.map (infoOf ops) := List.mem_map.2 ⟨oj, List.mem_of_getElem? hlj, rfl⟩
      have hq := hp _ hm
      unfold pairI at hq
      rw [Bool.or_eq_true] at hq
      rcases hq with hq | hq
      · obtain ⟨e, he, heq⟩ := List.mem_map.1 (List.contains_iff_mem.1 hq)
        obtain ⟨he1, he2⟩ := List.mem_filter.1 he
        exact absurd heq (hno e (Array.mem_toList_iff.1 he1) he2)
      · exact hq
    · have := hl (j + 1)
      simpa [Nat.add_assoc, Nat.add_comm 1 j] using this
    · rcases Nat.lt_or_ge j k with g | g
      · exact getD_set_true (hL j g)
      · obtain rfl : j = k := by omega
        have h3 := hU j (Nat.le_refl _) (by simp)
        have hsz : j < listed.size := by
          rcases Nat.lt_or_ge j listed.size with g2 | g2
          · exact g2
          · simp [Array.getElem?_eq_none g2] at h3
        simp [hsz]
    · rw [getD_set_ne true (by omega)]
      exact hU j (by omega) (by simp at h2 ⊢; omega)

theorem region_in' {P : Program} {id : Nat} {Q : Exit → Act → World → Prop} {a : Act} {w : World} {l : List Oper} (S : World → Prop) (hm : P.follows .mixedOrders = true) (hs : Region.noSelect l.toArray = true)
    (hB : lexI 0 (l.map (infoOf l.toArray)) = true) (hS : S w.drew)
    (h : wpQuiet P l.toArray (fun w' => ∃ d : Wd S, w' = d.w) (fun a' => ∀ d : Wd S, Q .normal a' d.w) l a) : (Code.region id l.toArray true).wp P Q a w := by
  refine wp_region_any hm (wpAny_of_quiet (C := fun w' => ∃ d : Wd S, w' = d.w) (Q := fun a' => ∀ d : Wd S, Q .normal a' d.w) (fun _ _ ⟨d, hd⟩ h => hd ▸ h d) _ _ _ _ ⟨⟨w.drew, hS⟩, rfl⟩ ?_)
  have := lex_walk (P := P) (C := fun w' => ∃ d : Wd S, w' = d.w) (Q := fun a' => ∀ d : Wd S, Q .normal a' d.w) hs l 0 (Array.replicate l.toArray.size false) a (by simp) (fun j hj => absurd hj (by omega)) (fun j _ hj => by simp at hj; simp [hj]) (by simp) hB h
  simpa using this
end Go.Proofs.Ytckbjgcelpmffaa
