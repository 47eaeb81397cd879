
/- What the calls of the last region give at the three. -/
import Derived.Test.YtekjmgdockfaiaaDoorHsTG
import Derived.Test.YtekjmgdockfaiaaDoorHsL
import Derived.Test.YtekjmgdockfaiaaDoorHsN
namespace Go.Proofs.YtekjmgdockfaiaaDoor
open Go.RowKit
set_option linter.unusedVariables false      -- a contract need not use every name

def firstThird : List Ev := [⟨0, 0, true, ⟨1, 4, 1, -1, 3, 0⟩⟩, ⟨0, 0, false, ⟨0, 0, 0, 0, 0, 1⟩⟩]
theorem check_three (v : Value) (w : World) (h : EvAt w v threeL) :
    Calls Tryd.prog 6 #[v] w fun e w' => e = .returned (.tuple #[.int .i64 0, .int .i64 0]) ∧ Nw w w' :=
  check_any v threeL w (by decide) fit_three h
theorem spans_three (v : Value) (w : World) (h : EvAt w v threeL) :
    Calls Tryd.prog 7 #[v] w fun e w' => ∃ v', e = .returned v' ∧ Nw w w' ∧ SRow w' w.heap.size v' threeS :=
  spans_any v threeL w (by decide) fit_three h
theorem pending_three (v : Value) (w : World) (h : EvAt w v threeL) :
    Calls Tryd.prog 9 #[v] w fun e w' => ∃ v', e = .returned v' ∧ Nw w w' ∧ IS w' v' [1] :=
  pending_any v threeL w (by decide) fit_three h (by decide)
theorem of_three (v : Value) (w : World) (h : EvAt w v threeL) :
    Calls Tryd.prog 12 #[v, .int .i64 0] w fun e w' => ∃ v', e = .returned v' ∧ Nw w w' ∧ EvAt w' v' firstThird :=
  of_any v threeL 0 w (by decide) h
theorem complete_three (a : Option Addr) (c : Nat) (w : World) (hc : 3 ≤ c) (h : EvAt w (.slice a 3 c) threeL) :
    Calls Tryd.prog 11 #[.slice a 3 c] w fun e w' => ∃ v', e = .returned v' ∧ Nw w w' ∧ EvAt w' v' firstThird :=
  complete_any a c threeL w (by decide) hc fit_three h (S := threeS) (by rfl) (by rfl) (by decide)
theorem resp_10 : resp threeS [1, 0] = true := by decide +kernel
theorem resp_00 : resp threeS [0, 0] = false := by decide +kernel
theorem resp_0 : resp threeS [0] = false := by decide +kernel
theorem bef_01 : befS ⟨0, 0, 0, 2, ⟨1, 4, 1, -1, 3, 1⟩⟩ ⟨1, 1, 1, -1, ⟨2, 0, 1, -1, 0, 0⟩⟩ = false := by decide
theorem bef_3 : befS ⟨0, 0, 0, 2, ⟨1, 4, 1, -1, 3, 1⟩⟩ ⟨0, 0, 3, 0, ⟨0, 0, 0, 0, 0, 0⟩⟩ = true := by decide
end Go.Proofs.YtekjmgdockfaiaaDoor
