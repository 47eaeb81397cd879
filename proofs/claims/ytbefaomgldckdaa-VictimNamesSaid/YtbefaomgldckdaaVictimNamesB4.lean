/- Texts merged: QuC -/
import Derived.Test.YtbefaomgldckdaaVictimNamesB3
set_option linter.unusedVariables false
set_option maxRecDepth 100000
set_option maxHeartbeats 16000000
namespace Go.Proofs.Ytbefaomgldckdaa
open Go.RowKit _root_.Go.Proofs.Try
theorem Yh{w:World}{B:Nat}{o:Obj}(hb:w.heap[B]?=some o):B<w.heap.size:=hlt hb
end Go.Proofs.Ytbefaomgldckdaa
