/- Texts merged: QuC -/
import Derived.Test.YtpffldfpabglbaaGreatDoorTableRoomB6

/- The document's own queue: Check. -/
section
namespace Go.Proofs.YtpffldfpabglbaaGreatDoor
open Go.RowKit
set_option linter.unusedVariables false      -- a contract need not use every name

theorem hlt' {w : World} {B : Nat} {o : Obj} (hb : w.heap[B]? = some o) : B < w.heap.size := hlt hb
end Go.Proofs.YtpffldfpabglbaaGreatDoor
end
