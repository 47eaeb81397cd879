
/- DB of the checker's kit; a world that grew at a block that is new. -/
import Derived.Test.YtekjmgdockfaiaaDoorHsTH
namespace Go.Proofs.YtekjmgdockfaiaaDoor
open Go.RowKit
set_option linter.unusedVariables false      -- a contract need not use every name

theorem kitDB_val (w : World) :
    Calls Tryd.prog 16 #[] w fun e w' => e = .returned (.agg #[.int .i64 (-1), .int .i64 (-1)]) ∧ Nw w w' := by
  go_enter Tryd.func16, Tryd.ntmps16
  go_wp2
  exact bodyPost_ret (v := .agg #[.int .i64 (-1), .int .i64 (-1)]) (by simp [results, Tryd.results16, go_sem]) rfl ⟨rfl, (Nw.refl _).alloc _⟩
theorem nw_grown {w a b : World} {B : Nat} (h : Nw w a) (g : a.grownBy b (some B)) (hB : w.heap.size ≤ B) : Nw w b :=
  ⟨g.os.trans h.os, g.tape.trans h.tape, g.output.trans h.output, Nat.le_trans h.size g.size, fun j hj => (g.block j (Nat.lt_of_lt_of_le hj h.size) (fun q => by injection q with q; omega)).trans (h.block j hj)⟩
end Go.Proofs.YtekjmgdockfaiaaDoor
