/- Texts merged: QuC -/
import Derived.Test.YtbnpnccpobkodaaVictimRingB3
set_option linter.unusedVariables false
set_option maxRecDepth 100000
set_option maxHeartbeats 16000000
namespace Go.Proofs.Ytbnpnccpobkodaa
open Go.RowKit _root_.Go.Proofs.Try
theorem Yl{w:World}{B:Nat}{o:Obj}(hb:w.heap[B]?=some o):B<w.heap.size:=hlt hb
end Go.Proofs.Ytbnpnccpobkodaa
