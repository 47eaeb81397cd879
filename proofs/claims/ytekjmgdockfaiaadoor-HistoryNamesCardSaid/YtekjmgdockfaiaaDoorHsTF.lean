
/- The three events as a row of one's own. -/
import Derived.Test.YtekjmgdockfaiaaDoorHsTE
namespace Go.Proofs.YtekjmgdockfaiaaDoor
open Go.RowKit
set_option linter.unusedVariables false      -- a contract need not use every name

set_option maxRecDepth 100000 in
set_option maxHeartbeats 1000000 in
theorem three_own (w : World) : Calls Tryd.prog 5 #[] w fun e w' => ∃ B, e = .returned (.slice (some ⟨B, 0, none⟩) 3 3) ∧ w.heap.size ≤ B ∧ ERow w' w.heap.size (.slice (some ⟨B, 0, none⟩) 3 3) threeL ∧ Nw w w' := by
  go_enter Tryd.func5, Tryd.ntmps5
  go_wp2_with fail
  refine (kitT_val 1 _).mono ?_
  rintro e w1 ⟨rfl, g1⟩
  go_wp2_with fail
  refine (kitT_val 1 _).mono ?_
  rintro e w2 ⟨rfl, g2⟩
  go_wp2
  go_ret
  have hB : w.heap.size ≤ w2.heap.size := (g1.trans g2).sz
  exact ⟨_, rfl, hB, ⟨by decide, .inr ⟨_, 3, _, rfl, hB, alloc_at w2 _ _, by decide, by decide, rfl, rfl⟩⟩, (g1.trans g2).alloc _⟩
end Go.Proofs.YtekjmgdockfaiaaDoor
