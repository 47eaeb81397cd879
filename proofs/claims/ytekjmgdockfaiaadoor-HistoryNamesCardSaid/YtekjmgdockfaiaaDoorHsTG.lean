
/- Check and Spans behind the three and one odd event. -/
import Derived.Test.YtekjmgdockfaiaaDoorHsTF
namespace Go.Proofs.YtekjmgdockfaiaaDoor
open Go.RowKit
set_option linter.unusedVariables false      -- a contract need not use every name

theorem odd_len : oddL.length = 9 := rfl
theorem fit_odd (k : Nat) (h : k < oddL.length) : ∀ e ∈ threeL ++ [oddL[k]], fitE e := by
  intro e he
  rcases List.mem_append.1 he with he | he
  · exact fit_three e he
  · rw [List.mem_singleton] at he
    subst he
    exact odd_fit _ (List.getElem_mem h)
def want (k : Nat) : Int := oddWhy.getD k 0
theorem want_at (k : Nat) (h : k < oddL.length) : (trk (threeL ++ [oddL[k]]) 0 []).2.2 = want k := by
  unfold want oddWhy
  rw [List.getD_eq_getElem?_getD, List.getElem?_map, List.getElem?_eq_getElem h]
  rfl
theorem check_odd (k : Nat) (h : k < oddL.length) (v : Value) (w : World) (hv : EvAt w v (threeL ++ [oddL[k]])) :
    Calls Tryd.prog 6 #[v] w fun e w' => e = .returned (.tuple #[.int .i64 3, .int .i64 (want k)]) ∧ Nw w w' := by
  have hc := check_any v _ w (by simp [threeL]) (fit_odd k h) hv
  rw [(odd_at _ (List.getElem_mem h)).1, want_at k h] at hc
  exact hc
theorem spans_odd (k : Nat) (h : k < oddL.length) (v : Value) (w : World) (hv : EvAt w v (threeL ++ [oddL[k]])) :
    Calls Tryd.prog 7 #[v] w fun e w' => (∃ a c, e = .returned (.slice a 2 c)) ∧ Nw w w' := by
  refine (spans_any v _ w (by simp [threeL]) (fit_odd k h) hv).mono ?_
  rintro e w' ⟨v', rfl, g, hs⟩
  have hl := (odd_at _ (List.getElem_mem h)).2
  rcases own_form hs with ⟨_, q⟩ | ⟨b, cap, rfl⟩
  · rw [hl] at q; cases q
  · rw [hl]; exact ⟨⟨_, _, rfl⟩, g⟩
theorem odd_cells {w : World} {B : Nat} {T : TypeId} {fr : Nat × Nat} (h : w.heap[B]? = some (.cells ⟨oddL.flatMap erow⟩ T fr)) (c : Nat) : EvAt w (.slice (some ⟨B, 0, none⟩) 9 c) oddL := evs_at (l := oddL) h c
end Go.Proofs.YtekjmgdockfaiaaDoor
