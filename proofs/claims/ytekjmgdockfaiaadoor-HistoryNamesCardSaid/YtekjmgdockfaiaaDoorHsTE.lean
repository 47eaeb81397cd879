
/- The nine odd events, and what tracking finds behind the three. -/
import Derived.Test.YtekjmgdockfaiaaDoorHsTD
import Derived.Test.YtekjmgdockfaiaaDoorHsO
import Derived.Test.YtekjmgdockfaiaaDoorHsX
namespace Go.Proofs.YtekjmgdockfaiaaDoor
open Go.RowKit

def oddL : List Ev := [⟨-1, 0, true, ⟨1, 0, 0, 0, 0, 0⟩⟩, ⟨2, 2, true, ⟨0, 0, 0, 0, 0, 0⟩⟩, ⟨2, 2, true, ⟨1, 0, 0, 0, 0, 1⟩⟩, ⟨1, 1, false, ⟨0, 0, 0, 0, 0, 7⟩⟩, ⟨1, 1, false, ⟨0, 1, 0, 0, 0, 1⟩⟩, ⟨1, 3, true, ⟨1, 0, 0, 0, 0, 0⟩⟩, ⟨2, 1, true, ⟨1, 0, 0, 0, 0, 0⟩⟩, ⟨0, 0, false, ⟨0, 0, 0, 0, 0, 1⟩⟩, ⟨1, 0, false, ⟨0, 0, 0, 0, 0, 1⟩⟩]
theorem odd_at : ∀ e ∈ oddL, (trk (threeL ++ [e]) 0 []).2.1 = 3 ∧ (trk (threeL ++ [e]) 0 []).1.length = 2 := by decide +kernel
def oddWhy : List Int := oddL.map fun e => (trk (threeL ++ [e]) 0 []).2.2
theorem odd_fit : ∀ e ∈ oddL, fitE e := by
  intro e h
  simp only [oddL, List.mem_cons, List.not_mem_nil, or_false] at h
  rcases h with rfl | rfl | rfl | rfl | rfl | rfl | rfl | rfl | rfl <;> exact ⟨by decide, by decide⟩
theorem odd_why : oddWhy = [2, 2, 2, 2, 2, 4, 7, 5, 5] := by decide +kernel
end Go.Proofs.YtekjmgdockfaiaaDoor
