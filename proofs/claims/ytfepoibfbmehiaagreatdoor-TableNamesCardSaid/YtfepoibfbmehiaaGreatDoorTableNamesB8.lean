/- Texts merged: QsA, QvS -/
import Derived.Test.YtfepoibfbmehiaaGreatDoorTableNamesB7
set_option linter.unusedVariables false
set_option maxRecDepth 100000
set_option maxHeartbeats 16000000
namespace Go.Proofs.YtfepoibfbmehiaaGreatDoor
open Go.RowKit _root_.Go.Proofs.Tryz
structure SmH(w:World)(gf:Nat)(lb:Array Value)(g n a b:Nat)(l:List Int):Prop where
 eg:∀args w,(callFunc gf args).run prog w=.ok (.enter gf args) w
 cell:∀i z,i<n→Nw w z→z.cell? ⟨g,i,none⟩=some (.int .i64 (l.getD i 0))
 call:∀i j,a≤i→i<j→j<b→∃v:Int,decide (v<0)=false∧∀z,Nw w z→Calls prog gf (#[.int .i64 (l.getD j 0),.int .i64 (l.getD i 0)]++lb) z fun e w'=>e=.returned (.int .i64 v)∧Nw z w'
theorem Yk(x y:Nat)(hx:x≤2000)(hy:y≤2000):IntKind.i64.wrap ((x:Int)+(y:Int))=((x+y:Nat):Int):=by rw[IntKind.wrap_i64];omega
theorem Zr(x y z:Nat)(hx:x≤4000)(hz:x=y+z):IntKind.i64.wrap ((x:Int)-(y:Int))=(z:Int):=by rw[IntKind.wrap_i64];omega
theorem Z4a(x z:Nat)(hx:x≤4000)(hz:x=z+1):IntKind.i64.wrap ((x:Int)-1)=(z:Int):=by rw[IntKind.wrap_i64];omega
theorem Z2o(x z:Nat)(hx:x≤4000)(hz:z=x+1):IntKind.i64.wrap ((x:Int)+1)=(z:Int):=by rw[IntKind.wrap_i64];omega
theorem Z0r.later{w w1:World}{f:Value}{gi:Nat}{c:Int→Int→Int}{P:Int→Prop}(h:Z0r w f gi c P)(hT:Z3 (fun k=>k=gi) w w1):Z0r w1 f gi c P:=by
 obtain⟨g,lb,e,eg,hc⟩:=h
 exact⟨g,lb,e,eg,fun x y w2 hx hy h2=>hc x y w2 hx hy (hT.trans h2)⟩
end Go.Proofs.YtfepoibfbmehiaaGreatDoor
