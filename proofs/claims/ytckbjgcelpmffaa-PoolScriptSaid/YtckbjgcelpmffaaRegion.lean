
/- A region that draws its order, whose operations read, and whose callees may make new blocks: one walk of the text's order, in the class of the worlds that meet a condition. -/
import Derived.Test.YtckbjgcelpmffaaNw
import Derived.Deep.QuietTactic
import Derived.BigQuiet
namespace Go.Proofs.Ytckbjgcelpmffaa
open Go.RowKit

/-- A world that meets a condition. -/
structure Wd (S : World → Prop) : Type where
  w : World
  h : S w

theorem region_in {P : Program} {id : Nat} {Q : Exit → Act → World → Prop} {a : Act} {w : World} {l : List Oper} (S : World → Prop) (hm : P.follows .mixedOrders = true) (hB : Region.lexB .any l.toArray = true) (hS : S w.drew)
    (h : wpQuiet P l.toArray (fun w' => ∃ d : Wd S, w' = d.w) (fun a' => ∀ d : Wd S, Q .normal a' d.w) l a) : (Code.region id l.toArray true).wp P Q a w := by
  refine wp_region_quiet (C := fun w' => ∃ d : Wd S, w' = d.w) hm hB ⟨⟨w.drew, hS⟩, rfl⟩ ?_
  have e : (fun a' => ∀ w', (∃ d : Wd S, w' = d.w) → Q .normal a' w') = (fun a' => ∀ d : Wd S, Q .normal a' d.w) := by
    funext a'
    exact propext ⟨fun H d => H _ ⟨d, rfl⟩, fun H _ ⟨d, hd⟩ => hd ▸ H d⟩
  rw [e]
  simpa using h

/-- A callee that returns one value and makes at most new blocks, where the condition lasts through new blocks. -/
theorem quietN {P : Program} {f : FuncId} {args : Array Value} {S : World → Prop} (hS : ∀ a b, S a → Nw a b → S b) {d : Wd S} {v : Value}
    (h : Calls P f args d.w fun e w' => e = .returned v ∧ Nw d.w w') : Calls P f args d.w fun e w'' => e = .returned v ∧ ∃ d' : Wd S, w'' = d'.w :=
  h.mono fun _ w'' ⟨he, hg⟩ => ⟨he, ⟨w'', hS _ _ d.h hg⟩, rfl⟩
end Go.Proofs.Ytckbjgcelpmffaa
