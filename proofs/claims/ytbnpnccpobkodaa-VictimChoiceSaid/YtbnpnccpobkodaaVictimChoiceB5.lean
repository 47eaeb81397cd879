/- Texts merged: WeF -/
import Derived.Test.YtbnpnccpobkodaaVictimChoiceB4
set_option linter.unusedVariables false
set_option maxRecDepth 100000
set_option maxHeartbeats 16000000
namespace Go.Proofs.Ytbnpnccpobkodaa
open Go.RowKit _root_.Go.Proofs.Try
section
variable {P:Program} {md:Region.Mode} {ops:Array Oper} {Q:Exit→Act→World→Prop} {S:World→Prop} {ts:List Nat}
end
structure Fr3(W0:World)(now seen next:List Int)(v7 v8 v10:Value)(w:World):Prop where
 n7:IS w v7 now
 o8:InO w W0.heap.size v8 seen
 o10:InO w W0.heap.size v10 next
 nw:Nw W0 w
 d78:∀b,v7.ownBlock=some b→v8.ownBlock≠some b
 d710:∀b,v7.ownBlock=some b→v10.ownBlock≠some b
 d810:∀b,v8.ownBlock=some b→v10.ownBlock≠some b
section
variable {W0 w z:World} {now seen next:List Int} {v7 v8 v10:Value}
end
end Go.Proofs.Ytbnpnccpobkodaa
