/- Texts merged: Nw, Tch, Rf, ModeA, QuM, QuS, QuP, QuH, BkM, PoM, PoF, BkB, BdK, BdC, BkO, Rw, BdE, BdF, Region, Ints, WaM, WbM -/
import Derived.Test.YtobnolgphljoeaaGreatRows
import Derived.WalkKit
import Derived.Lib.Hide
import Derived.Deep.Draws
import Derived.LoopTactic
import Derived.WalkSpells
import Derived.Laws.OwnMore
import Derived.WalkSmall
import Derived.RangeFuncNested
import Derived.RangeFuncBound
import Derived.RangeFuncCalls
import Derived.RangeFuncLeaves
import Derived.Shelf.RegionOpen
import Derived.OwnWalkIn
import Derived.TacticsInMore
import Derived.LoopNIn
import Derived.LoopIn
import Derived.ProofKit
import Derived.OpenShut
import Derived.ShutString
import Derived.Deep.WholeRow
import Derived.Outline
import Derived.Maps.OwnSet
import Derived.Maps.Range
import Derived.DeepKeys4
import Derived.Shelf.SlSortCmp.NoneTotal
import Derived.Deep.RegionHeld3
import Derived.BigQuiet
import Derived.Deep.QuietTactic
import Derived.Sort.MapsRangeIn
import Derived.RegionIn
set_option linter.unusedVariables false
set_option maxRecDepth 100000
set_option maxHeartbeats 16000000
namespace Go.Proofs.YtobnolgphljoeaaGreat
theorem dF0{p:Prop}[Decidable p](h:¬p):decide p=false:=decide_eq_false h
theorem dT0{p:Prop}[Decidable p](h:p):decide p=true:=decide_eq_true h
theorem aI0{p q:Prop}(h:p)(k:q):p∧q:=⟨h,k⟩
theorem lL0{a b c:Nat}(h:a<b)(k:b≤c):a<c:=Nat.lt_of_lt_of_le h k
theorem gM0{α:Type _}{l:List α}{n:Nat}(h:n<l.length):l[n]∈l:=List.getElem_mem h
theorem hD0{p:Prop}(h:p):RowKit.Hid p:=h
open Go.RowKit _root_.Go.Proofs.Tryz
section
def Nw(w w':World):Prop:=Below w.heap.size w w'
theorem Nw.refl(w:World):Nw w w:=Below.refl _ _
theorem Nw.trans{a b c:World}(h:Nw a b)(k:Nw b c):Nw a c:=Below.trans h (Below.mono k h.size)
theorem Nw.alloc{w w':World}(h:Nw w w')(o:Obj):Nw w (w'.alloc o):=Below.alloc h h.size o
theorem Nw.drewN{w w':World}(h:Nw w w')(n:Nat):Nw w (w'.drewN n):=⟨h.os,h.tape,h.output,h.size,h.block⟩
theorem Nw.sz{w w':World}(h:Nw w w'):w.heap.size≤w'.heap.size:=Below.size h
theorem Nw.cell{w w':World}(h:Nw w w'){b o:Nat}(hb:b<w.heap.size):w'.cell? ⟨b,o,none⟩=w.cell? ⟨b,o,none⟩:=Below.cell h hb
theorem Nw.grownBy{w w':World}(h:Nw w w')(row:Option Nat):w.grownBy w' row:=⟨h.os,h.tape,h.output,h.size,fun k hk _=>h.block k hk⟩
variable {P:Program}
theorem Yw(w:World)(base:Nat)(t ty e:TypeId)(i:TypeInfo)(z:Value)(size bytes:Nat)(ht:P.underlying t=some (.slice e))(hi:P.info? e=some i)(hz:i.zero=some z)
  (hsize:i.size=size) (hby:i.bytes=bytes) (hzs:z.cells.size=size) (hsz:0<size)
  (v:Value) (n:Nat) (xs:List Value) (hown:w.ownsRow base e size v n xs)
  (a:Addr) (m c:Nat) (news:List Value) (hl:news.length=m*size) (hnews:∀j u,news[j]?=some u→w.cell? (a.add j)=some u) (h1:∀u∈news,u.oneCell'=true)
  (h63:n+m≤maxLen) (hbytes:(n+m)*bytes≤140737488355328) (hbase:base≤w.heap.size) :
  ∃v' w',(Builtin.append_ #[t,t] ty #[v,.slice (some a) m c]).run P w=.ok v' w'∧w'.ownsRow base e size v' (n+m) (xs++news)∧w.grownBy w' v.ownBlock ∧
   (v'.ownBlock=v.ownBlock∨v'.ownBlock=some w.heap.size):=by
 obtain⟨v',w',hr,g1,g2,g3⟩:=run_append_own (P:=P) w base t ty e i z size bytes ht hi hz hsize hby hzs hsz v n xs hown a m c news hl hnews h1 h63 hbytes hbase
 refine⟨v',w',hr,g1,g2,?_⟩
 have h63':((n+m:Nat):Int)≤9223372036854775807:=by unfold maxLen at h63;omega
 subst hsize
 subst hby
 rcases hown.2 with⟨rfl,rfl⟩ | ⟨g,cap,cur,rfl,hbg,hg,hnc,hcm,hcs,htake⟩
 ·by_cases hm:m=0
  ·have e1:=g3.2 ⟨rfl,hm⟩
   subst e1
   exact .inl rfl
  ·have hr2:=run_append_nil (P:=P) w t ty e i z ht hi hz a m c news hl hnews (by omega) (by omega) (by simp only[Nat.zero_add] at hbytes;omega)
   rw[hr2] at hr
   injection hr with e1 _
   subst e1
   exact .inr rfl
 ·by_cases hroom:n+m≤cap
  ·have hfit:n*i.size+news.length≤cur.size:=by rw[hl,hcs,←Nat.add_mul];exact Nat.mul_le_mul_right _ hroom
   have hr2:=run_append_room (P:=P) w t ty e i ht hi g n cap cur hg a m c news hl hnews h1 hroom hfit
   rw[hr2] at hr
   injection hr with e1 _
   subst e1
   exact .inl rfl
  ·have hr2:=run_append_grow (P:=P) w t ty e i z ht hi hz ⟨g,0,none⟩ n cap xs hown.1 (hown.cells (g:=g) rfl) a m c news hl hnews (by omega) h63' (growslice_fits (by omega) hbytes)
   rw[hr2] at hr
   injection hr with e1 _
   subst e1
   exact .inr rfl
end
structure Zd(S:Nat→Prop)(w w':World):Prop where
 os:w'.os=w.os
 tape:w'.tape=w.tape
 output:w'.output=w.output
 size:w.heap.size≤w'.heap.size
 block:∀k,k<w.heap.size→¬S k→w'.heap[k]?=w.heap[k]?
theorem Zd.refl(S:Nat→Prop)(w:World):Zd S w w:=⟨rfl,rfl,rfl,Nat.le_refl _,fun _ _ _=>rfl⟩
theorem Zd.trans'{S S':Nat→Prop}{a b c:World}(h:Zd S a b)(k:Zd S' b c)(hS:∀i,i<a.heap.size→S' i→S i):Zd S a c :=
 ⟨k.os.trans h.os,k.tape.trans h.tape,k.output.trans h.output,Nat.le_trans h.size k.size,fun i hi hn=>(k.block i (lL0 hi h.size) (fun e=>hn (hS i hi e))).trans (h.block i hi hn)⟩
theorem Zd.trans{S:Nat→Prop}{a b c:World}(h:Zd S a b)(k:Zd S b c):Zd S a c:=h.trans' k fun _ _ e=>e
theorem Zd.mono{S S':Nat→Prop}{a b:World}(h:Zd S a b)(hS:∀i,i<a.heap.size→S i→S' i):Zd S' a b :=
 ⟨h.os,h.tape,h.output,h.size,fun i hi hn=>h.block i hi (fun e=>hn (hS i hi e))⟩
theorem Zd.nw{S:Nat→Prop}{a b:World}(h:Nw a b):Zd S a b:=⟨h.os,h.tape,h.output,h.size,fun k hk _=>h.block k hk⟩
theorem Zd.toNw{a b:World}(h:Zd (fun _=>False) a b):Nw a b:=⟨h.os,h.tape,h.output,h.size,fun k hk=>h.block k hk (fun e=>e)⟩
theorem Zd.alloc{S:Nat→Prop}{a b:World}(h:Zd S a b)(o:Obj):Zd S a (b.alloc o):=h.trans (.nw ((Nw.refl b).alloc o))
theorem Zd.set{S:Nat→Prop}{a b:World}(h:Zd S a b){p:Addr}(hp:S p.block∨a.heap.size≤p.block)(v:Value):Zd S a (b.setCell p v) :=
 h.trans' (S':=fun k=>k=p.block) ⟨rfl,rfl,rfl,by simp[World.setCell],fun k _ hk=>Below.heap_setCell _ _ _ _ hk⟩ (fun i hi e=>by subst e;exact hp.resolve_right (by omega))
theorem Zd.grown{S:Nat→Prop}{a b c:World}{row:Option Nat}(h:Zd S a b)(hg:b.grownBy c row)(hr:∀k,row=some k→S k∨a.heap.size≤k):Zd S a c :=
 h.trans' (S':=fun k=>row=some k) ⟨hg.os,hg.tape,hg.output,hg.size,fun k hk hn=>hg.block k hk (fun e=>hn e.symm)⟩ (fun i hi e=>(hr i e).resolve_right (by omega))
theorem Zd.cell{S:Nat→Prop}{a b:World}(h:Zd S a b){k o:Nat}(hk:k<a.heap.size)(hn:¬S k):b.cell? ⟨k,o,none⟩=a.cell? ⟨k,o,none⟩:=World.cell?_of_block (h.block k hk hn)
theorem Zd.froz{S:Nat→Prop}{a b:World}(h:Zd S a b){k o:Nat}(hk:k<a.heap.size)(hn:¬S k):b.frozen? ⟨k,o,none⟩=a.frozen? ⟨k,o,none⟩:=World.frozen?_of_block (h.block k hk hn)
theorem Nw.froz{a b:World}(h:Nw a b){k o:Nat}(hk:k<a.heap.size):b.frozen? ⟨k,o,none⟩=a.frozen? ⟨k,o,none⟩:=(Zd.nw (S:=fun _=>False) h).froz hk (fun e=>e)
theorem Zi{w a b:World}{F:Nat→Prop}(h:Nw w a)(k:Zd F a b)(hF:∀i,F i→w.heap.size≤i):Nw w b :=
 Zd.toNw ((Zd.nw (S:=fun _=>False) h).trans' k fun i hi e=>by have:=hF i e;omega)
theorem Zy(w:World)(p:Addr)(v:Value):Zd (fun k=>k=p.block) w (w.setCell p v):=Zd.set (S:=fun k=>k=p.block) (Zd.refl _ w) (.inl rfl) v
open Go.Shelf
section
structure KpS(S:Nat→Prop)(A B:World):Prop where
 size:A.heap.size≤B.heap.size
 same:∀k,S k→B.heap[k]?=A.heap[k]?
structure Ch'(n₀:Nat)(S:Nat→Prop)(A B:World):Prop where
 os:B.os=A.os
 tape:B.tape=A.tape
 output:B.output=A.output
 size:A.heap.size≤B.heap.size
 block:∀k,k<A.heap.size→¬S k→B.heap[k]?=A.heap[k]?∨((k=n₀∨k=n₀+1)∧∃o,A.heap[k]?=some o∧o.isCells=false)
variable {F:Fence} {n:Nat} {P:Program}
end
section
open Go.ChangeShapes Go.WideShapes Go.ChangeAt Go.RowKit
theorem Z52(m:Int)(w:World)(h0:0≤m)(h1:m<7) :
  Calls prog 88 #[.int .i64 m] w fun e w'=>e=.returned (.bool true)∧w=w':=by
 go_enter func88,ntmps88
 go_wp2
 go_ret
 exact⟨rfl,rfl⟩
def Z9t:List Int:=[0,1,2,3,4,5,6,1,1,2,3,4,5,6,2,2,2,4,4,6,6,3,3,4,3,4,5,6,4,4,4,4,4,6,6,5,5,6,5,6,5,6,6,6,6,6,6,6,6]
def Z77:Array Value:=(Z9t.map (Value.int .i64)).toArray
def Z30(a b:Int):Int:=Z9t.getD (a.toNat*7+b.toNat) 0
theorem Z9w(a b:Int)(ha:0≤a)(ha':a<7)(hb:0≤b)(hb':b<7):Z77[a.toNat*7+b.toNat]?=some (.int .i64 (Z30 a b)):=by
 have h:a.toNat*7+b.toNat<Z9t.length:=by show _<49;omega
 unfold Z77 Z30
 simp[List.getElem?_eq_getElem h,List.getD]
def Z92:List Bool:=[true,true,true,true,true,true,true,true,true,true,true,true,true,false,true,true,true,false,false,false,false,true,true,false,true,false,true,false,true,true,false,false,false,false,false,true,true,false,true,false,false,false,true,false,false,false,false,false,false]
def Z14:Array Value:=(Z92.map Value.bool).toArray
def Z13(a b:Int):Bool:=Z92.getD (a.toNat*7+b.toNat) false
theorem Z4s(a b:Int)(ha:0≤a)(ha':a<7)(hb:0≤b)(hb':b<7):Z14[a.toNat*7+b.toNat]?=some (.bool (Z13 a b)):=by
 have h:a.toNat*7+b.toNat<Z92.length:=by show _<49;omega
 unfold Z14 Z13
 simp[List.getElem?_eq_getElem h,List.getD]
theorem Z7m:(prog.info? 112).map (·.size)=some 49:=by kernel_rfl
theorem Z93:Z14.all (·.oneCell')=true:=by kernel_rfl
theorem Z94(a b:Int)(w:World)(ha:0≤a)(ha':a<7)(hb:0≤b)(hb':b<7) :
  Calls prog 62 #[.int .i64 a,.int .i64 b] w fun e w'=>e=.returned (.bool (Z13 a b))∧Nw w w':=by
 have hT:=Z4s a b ha ha' hb hb'
 go_enter func62,ntmps62
 go_wp2_with (first | (go_at_call 88;refine(Z52 _ _ (by omega) (by omega)).mono ?_;rintro e w' ⟨rfl,rfl⟩) | (refine wpList_store_row rfl 112 _ _ rfl _ Z14 rfl rfl 112 _ (heap_alloc_last _ _) Z7m rfl Z93 ?_;rw[World.setRow_alloc_new]))
 go_ret
 exact⟨rfl,(Nw.refl _).alloc _⟩
end
structure Rq where
 id:Int
 txn:Int
 md:Int
 wt:Int
 sn:Int
def V4(m:Int):Bool:=decide (0≤m)&&decide (m<7)
def cpI(a b:Int):Bool:=(V4 a&&V4 b)&&Z13 a b
def cvI(a b:Int):Bool:=(V4 a&&V4 b)&&(Z30 a b==a)
theorem Vf(m:Int):V4 m=true↔0≤m∧m<7:=by simp[V4]
theorem Z9v{p:Int→Int→Bool}(h:∀i<7,∀j<7,p (Int.ofNat i) (Int.ofNat j)=true)(a b:Int)(ha:V4 a=true)(hb:V4 b=true):p a b=true:=by
 rw[Vf] at ha hb
 obtain⟨i,rfl⟩:=Int.eq_ofNat_of_zero_le ha.1
 obtain⟨j,rfl⟩:=Int.eq_ofNat_of_zero_le hb.1
 exact h i (by omega) j (by omega)
theorem Z8q(a b:Int)(ha:V4 a=true)(hb:V4 b=true):cpI a b=Z13 a b:=by simp[cpI,ha,hb]
structure Rt(W:Int)(r:Rq):Prop where
 id:0≤r.id
 md:V4 r.md=true
 wt:V4 r.wt=true
 s0:0≤r.sn
 sW:r.sn≤W
 w:0<r.sn→cvI r.md r.wt=false
 h:r.sn=0→r.md≠0∧r.wt=r.md
structure Pr(a b:Rq):Prop where
 id:a.id≠b.id
 txn:a.txn≠b.txn
 sn:0<a.sn→a.sn≠b.sn
 ord:a.md=0→b.md=0∧a.sn<b.sn
 cp:a.md≠0→b.md≠0→cpI a.md b.md=true
structure Ok(W:Int)(q:List Rq):Prop where
 w0:0≤W
 wB:W≤4611686018427387904
 rt:∀r∈q,Rt W r
 pr:q.Pairwise Pr
theorem Rt.w'{W:Int}{r:Rq}(h:Rt W r)(z:r.md=0):0<r.sn:=by
 have:=h.h
 have h0:=h.s0
 rcases Int.lt_or_eq_of_le h0 with q | q
 ·exact q
 ·exact absurd z (this q.symm).1
def blk(r o:Rq):Bool:=((o.md != 0)&&!cpI o.md r.wt) || ((o.md != 0)&&decide (0<o.sn)&&((r.md==0) || decide (o.sn<r.sn))) || ((r.md==0)&&(o.md==0)&&decide (o.sn<r.sn))
def Za1(q:List Rq)(r:Rq):Bool:=decide (0<r.sn)&&q.all fun o=>(o.id==r.id) || !blk r o
def chg(f:Rq→Rq)(id:Int)(q:List Rq):List Rq:=q.map fun r=>if r.id=id then f r else r
def Zar(r:Rq):Rq:=⟨r.id,r.txn,r.wt,r.wt,0⟩
def fnd(q:List Rq)(id:Int):Option Rq:=q.find? fun r=>r.id==id
def upF(q:List Rq)(r:Rq)(want:Int):Bool:=q.all fun o=>(o.id==r.id) || (!(decide (0<o.sn)&&(o.md != 0))&&((o.md==0) || cpI o.md want))
def upQ(W:Int)(q:List Rq)(r:Rq)(m:Int):Int × List Rq × Bool :=
 if Z30 r.md m=r.md then(W,q,true)
 else if upF q r (Z30 r.md m)=true then(W,chg (fun x=>⟨x.id,x.txn,Z30 r.md m,Z30 r.md m,0⟩) r.id q,true)
 else(W+1,chg (fun x=>⟨x.id,x.txn,x.md,Z30 r.md m,W+1⟩) r.id q,false)
section
variable {W:Int} {q:List Rq}
theorem Ok.inj(h:Ok W q):∀a∈q,∀b∈q,a.id=b.id→a=b:=by
 have hp:=h.pr
 clear h
 induction hp with
 | nil=>intro a ha;cases ha
 | cons hx _ ih =>
  intro a ha b hb e
  rcases List.mem_cons.1 ha with rfl | ha'
  ·rcases List.mem_cons.1 hb with rfl | hb'
   ·rfl
   ·exact absurd e (hx b hb').id
  ·rcases List.mem_cons.1 hb with rfl | hb'
   ·exact absurd e.symm (hx a ha').id
   ·exact ih a ha' b hb' e
end
section
variable {W:Int} {q:List Rq}
def Zak(q:List Rq):Prop:=∀r∈q,Za1 q r=false
inductive Steps (q0:List Rq):List Int→List Rq→Prop
 | refl:Steps q0 [] q0
 | snoc {ids:List Int} {q:List Rq} {r:Rq} (h:Steps q0 ids q) (hr:r∈q) (hc:Za1 q r=true):Steps q0 (ids++[r.id]) (chg Zar r.id q)
end
structure Hq where
 t:Int
 r:Int
 W:Int
 q:List Rq
def noH:Hq:=⟨0,0,0,[]⟩
def rtB(W:Int)(r:Rq):Bool:=!(((((decide (r.id<0) || !V4 r.md) || !V4 r.wt) || decide (r.sn<0)) || decide (W<r.sn)))&&(if 0<r.sn then !cvI r.md r.wt else((r.md != 0)&&(r.wt==r.md)))
def prB(a b:Rq):Bool:=!((((a.id==b.id || a.txn==b.txn) || (decide (0<a.sn)&&a.sn==b.sn)) || ((a.md==0)&&((b.md != 0) || decide (b.sn<a.sn)))) || (((a.md != 0)&&(b.md != 0))&&!cpI a.md b.md))
def pwB:List Rq→Bool
 | []=>true
 | a::r=>r.all (prB a)&&pwB r
def okP(W:Int)(q:List Rq):Bool:=q.all (rtB W)&&pwB q
def okQ(W:Int)(q:List Rq):Bool:=(decide (0≤W)&&decide (W≤4611686018427387904))&&okP W q
theorem Z2q(b:Rq):∀q:List Rq,pwB (q++[b])=(pwB q&&q.all fun a=>prB a b)
 | []=>rfl
 | a::q=>by
  show((q++[b]).all (prB a)&&pwB (q++[b]))=((q.all (prB a)&&pwB q)&&(a::q).all fun a=>prB a b)
  rw[Z2q b q,List.all_append]
  simp only[List.all_cons,List.all_nil,Bool.and_true]
  cases q.all (prB a)<;>cases prB a b<;>cases pwB q<;>simp
theorem Z2i(W:Int)(b:Rq)(q:List Rq):okP W (q++[b])=(okP W q&&(rtB W b&&q.all fun a=>prB a b)):=by
 unfold okP
 rw[Z2q,List.all_append]
 simp only[List.all_cons,List.all_nil,Bool.and_true]
 cases q.all (rtB W)<;>cases rtB W b<;>cases pwB q<;>simp
theorem Z4h(W:Int)(r:Rq):rtB W r=true↔Rt W r:=by
 unfold rtB
 simp only[Bool.and_eq_true,Bool.not_eq_true',Bool.or_eq_false_iff,decide_eq_false_iff_not,Bool.not_eq_false',Int.not_lt]
 constructor
 ·rintro⟨⟨⟨⟨⟨h1,h2⟩,h3⟩,h4⟩,h5⟩,h6⟩
  refine⟨h1,h2,h3,h4,h5,fun z=>?_,fun z=>?_⟩
  ·rw[if_pos z] at h6
   simpa using h6
  ·rw[if_neg (by omega)] at h6
   simpa using h6
 ·intro h
  refine⟨⟨⟨⟨⟨h.id,h.md⟩,h.wt⟩,h.s0⟩,h.sW⟩,?_⟩
  by_cases z:0<r.sn
  ·rw[if_pos z];simpa using h.w z
  ·rw[if_neg z]
   have:=h.h (by have:=h.s0;omega)
   simpa using this
theorem Z4a{W:Int}{a b:Rq}(ha:Rt W a):prB a b=true↔Pr a b:=by
 unfold prB
 simp only[Bool.not_eq_true',Bool.or_eq_false_iff,Bool.and_eq_false_iff,beq_eq_false_iff_ne,bne_eq_false_iff_eq,decide_eq_false_iff_not,Bool.not_eq_false',Int.not_lt,ne_eq]
 constructor
 ·rintro⟨⟨⟨⟨h1,h2⟩,h3⟩,h4⟩,h5⟩
  refine⟨h1,h2,fun z=>?_,fun z=>?_,fun z y=>?_⟩
  ·rcases h3 with h3 | h3
   ·omega
   ·exact h3
  ·have hs:=ha.w' z
   rcases h4 with h4 | h4
   ·exact absurd z h4
   ·refine⟨h4.1,?_⟩
    rcases h3 with h3 | h3
    ·omega
    ·omega
  ·rcases h5 with(h5 | h5) | h5
   ·exact absurd h5 z
   ·exact absurd h5 y
   ·exact h5
 ·intro h
  refine⟨⟨⟨⟨h.id,h.txn⟩,?_⟩,?_⟩,?_⟩
  ·by_cases z:0<a.sn
   ·exact .inr (h.sn z)
   ·exact .inl (Int.not_lt.1 z)
  ·by_cases z:a.md=0
   ·exact .inr ⟨(h.ord z).1,Int.le_of_lt (h.ord z).2⟩
   ·exact .inl z
  ·by_cases z:a.md=0
   ·exact .inl (.inl z)
   ·by_cases y:b.md=0
    ·exact .inl (.inr y)
    ·exact .inr (h.cp z y)
theorem Z1e{W:Int}:∀q:List Rq,(∀r∈q,Rt W r)→(pwB q=true↔q.Pairwise Pr)
 | [],_=>by simp[pwB]
 | a::q,h=>by
  have ha:=h a (by simp)
  show(q.all (prB a)&&pwB q)=true↔_
  rw[Bool.and_eq_true,Z1e q (fun r hr=>h r (List.mem_cons_of_mem _ hr)),List.pairwise_cons,List.all_eq_true]
  constructor
  ·rintro⟨h1,h2⟩
   exact⟨fun b hb=>(Z4a ha).1 (h1 b hb),h2⟩
  ·rintro⟨h1,h2⟩
   exact⟨fun b hb=>(Z4a ha).2 (h1 b hb),h2⟩
theorem Z83(W:Int)(q:List Rq):okQ W q=true↔Ok W q:=by
 unfold okQ okP
 simp only[Bool.and_eq_true,decide_eq_true_eq,List.all_eq_true]
 constructor
 ·rintro⟨⟨h1,h2⟩,h3,h4⟩
  have hr:∀r∈q,Rt W r:=fun r hr=>(Z4h W r).1 (h3 r hr)
  exact⟨h1,h2,hr,(Z1e q hr).1 h4⟩
 ·intro h
  exact⟨⟨h.w0,h.wB⟩,fun r hr=>(Z4h W r).2 (h.rt r hr),(Z1e q h.rt).2 h.pr⟩
def upR(h:Hq)(id m:Int):Hq × Bool × Int :=
 if m=0∨V4 m=false then(noH,false,2)
 else match fnd h.q id with
 | none=>(noH,false,5)
 | some r=>if 0<r.sn then(noH,false,7) else(⟨h.t,h.r,(upQ h.W h.q r m).1,(upQ h.W h.q r m).2.1⟩,(upQ h.W h.q r m).2.2,0)
def Zs(n:Int):List Int→List Int
 | []=>[n]
 | a::r=>if a<n then a::Zs n r else if a=n then a::r else n::a::r
def Us(q:List Rq)(r:Rq):List Int:=(q.filter fun o=>!(o.id==r.id)&&blk r o).foldl (fun l o=>Zs o.txn l) []
def Yj(q:List Rq)(id:Int):List Int:=match fnd q id with
 | none=>[]
 | some r=>if 0<r.sn then Us q r else[]
theorem V9(n x:Int):∀l:List Int,x∈Zs n l↔x=n∨x∈l
 | []=>by simp[Zs]
 | a::r=>by
  unfold Zs
  split
  ·simp only[List.mem_cons,V9 n x r]
   constructor
   ·rintro(h | h | h)
    ·exact .inr (.inl h)
    ·exact .inl h
    ·exact .inr (.inr h)
   ·rintro(h | h | h)
    ·exact .inr (.inl h)
    ·exact .inl h
    ·exact .inr (.inr h)
  split
  ·rename_i e
   simp[←e]
  ·simp
theorem Z27(x:Int):∀(q:List Rq) (l:List Int),x∈q.foldl (fun l o=>Zs o.txn l) l↔x∈l∨∃o∈q,o.txn=x
 | [],l=>by simp
 | a::q,l=>by
  rw[List.foldl_cons,Z27 x q,V9]
  simp only[List.mem_cons,exists_eq_or_imp]
  constructor
  ·rintro((h | h) | h)
   ·exact .inr (.inl h.symm)
   ·exact .inl h
   ·exact .inr (.inr h)
  ·rintro(h | h | h)
   ·exact .inl (.inr h)
   ·exact .inl (.inl h.symm)
   ·exact .inr h
theorem Z1u(q:List Rq)(r:Rq)(x:Int):x∈Us q r↔∃o∈q,o.id≠r.id∧blk r o=true∧o.txn=x:=by
 unfold Us
 rw[Z27]
 simp only[List.not_mem_nil,false_or,List.mem_filter]
 constructor
 ·rintro⟨o,⟨ho,hb⟩,rfl⟩
  simp only[Bool.and_eq_true,Bool.not_eq_true',beq_eq_false_iff_ne] at hb
  exact⟨o,ho,hb.1,hb.2,rfl⟩
 ·rintro⟨o,ho,h1,h2,rfl⟩
  exact⟨o,⟨ho,by simp[h1,h2]⟩,rfl⟩
theorem Va(n:Int):∀l:List Int,l.Pairwise (·<·)→(Zs n l).Pairwise (·<·)
 | [],_=>by simp[Zs]
 | a::r,h=>by
  rw[List.pairwise_cons] at h
  unfold Zs
  split
  ·rename_i h1
   rw[List.pairwise_cons]
   refine⟨fun x hx=>?_,Va n r h.2⟩
   rcases(V9 n x r).1 hx with rfl | hx
   ·exact h1
   ·exact h.1 x hx
  split
  ·rw[List.pairwise_cons];exact h
  ·rename_i h1 h2
   rw[List.pairwise_cons]
   refine⟨fun x hx=>?_,by rw[List.pairwise_cons];exact h⟩
   rcases List.mem_cons.1 hx with rfl | hx
   ·omega
   ·have:=h.1 x hx
    omega
theorem U7(q:List Rq)(r:Rq):(Us q r).Pairwise (·<·):=by
 unfold Us
 suffices H:∀(q:List Rq) (l:List Int),l.Pairwise (·<·)→(q.foldl (fun l o=>Zs o.txn l) l).Pairwise (·<·) from H _ [] .nil
 intro q
 induction q with
 | nil=>intro l h;exact h
 | cons a q ih=>intro l h;exact ih _ (Va _ _ h)
theorem Z69{W:Int}{q:List Rq}(h:Ok W q){r:Rq}(hr:r∈q):fnd q r.id=some r:=by
 unfold fnd
 cases e:q.find? fun x=>x.id==r.id with
 | none =>
  rw[List.find?_eq_none] at e
  exact absurd (by simp) (e r hr)
 | some s =>
  have h1:=List.mem_of_find?_eq_some e
  have h2:=List.find?_some e
  rw[h.inj s h1 r hr (by simpa using h2)]
theorem Z68{q:List Rq}{id:Int}{r:Rq}(h:fnd q id=some r):r∈q∧r.id=id:=by
 have h1:=List.mem_of_find?_eq_some h
 have h2:=List.find?_some h
 exact⟨h1,by simpa using h2⟩
structure Zal(h:Hq):Prop where
 ok:Ok h.W h.q
 done:Zak h.q
theorem Z15:∀i<7,∀j<7,(Z13 0 (Int.ofNat j)&&Z13 (Int.ofNat i) 0)=true:=by decide +kernel
theorem Z7n(a:Int)(ha:V4 a=true):cpI 0 a=true:=by
 have:=Z9v (p:=fun a b=>Z13 0 b&&Z13 a 0) Z15 a a ha ha
 rw[Z8q 0 a rfl ha]
 simp at this
 exact this.1
def Zas(q:List Rq):List Int:=q.map fun r=>r.id
def Zaw(L:List Bool)(k:Nat):List Nat:=(List.range k).filter fun i=>L.getD i false
def lnt(L:List Bool):List Nat:=Zaw L L.length
def liv(L:List Bool):Nat:=L.countP id
def Za2(l:List Nat):List Int:=l.map fun n:Nat=>(n:Int)
def nlt(a b:Int × Int):Prop:=a.1<b.1∨(a.1=b.1∧a.2<b.2)
instance (a b:Int × Int):Decidable (nlt a b):=by unfold nlt;infer_instance
theorem Z81(a:Int × Int):¬nlt a a:=by unfold nlt;omega
theorem Z9g{a b c:Int × Int}(h:nlt a b)(k:nlt b c):nlt a c:=by unfold nlt at *;omega
def nmH(h:Hq):Int × Int:=(h.t,h.r)
abbrev Zam(hs:List Hq):Prop:=hs.Pairwise fun a b=>nlt (nmH a) (nmH b)
def Zaq(hs:List Hq)(nm:Int × Int):Option Hq:=hs.find? fun h=>decide (nmH h=nm)
def Z8x(hs:List Hq):List Int:=hs.flatMap fun h=>Zas h.q
structure Zb3(most k:Nat)(hs:List Hq)(X:List Int)(L:List Bool):Prop where
 srt:Zam hs
 len:hs.length≤most
 inv:∀h∈hs,Zal h
 ne:∀h∈hs,h.q≠[]
 ids:(Z8x hs++X).Perm (Za2 (lnt L))
 wt:∀h∈hs,h.W≤k
 ql:∀h∈hs,h.q.length≤k
section
open Go.RowKit Go.Maps Go.ChangeMaps Go.WideShapes
abbrev wfI(a:Int):Prop:=(Lit.int .i64 a).wf=true
def wfN(a:Int × Int):Prop:=wfI a.1∧wfI a.2
def nmL(a:Int × Int):Lit:=.string (keyBytes [.int .i64 a.1,.int .i64 a.2])
structure Two(P:Program)(k i:TypeId):Prop where
 st : ∃ fs, P.underlying k = some (.struct fs) ∧ (∃ f g, fs.toList = [f, g] ∧ f.type = i ∧ g.type = i ∧ f.offset = 0 ∧ g.offset = 1) ∧ fs.all (·.name != "_") = true
 un:P.underlying i=some (.int .i64)
 ck:P.cellsOf k=2
 ci:P.cellsOf i=1
 sz:∃m,P.types.size=m+1
 kt:P.keyType k=true
end
section
open Go.RowKit Go.Maps Go.ChangeMaps Go.WideShapes
structure Hp where
 h:Hq
 p:Nat
 a:Option Addr
 c:Nat
def Z87:Value→Option (DataW Unit × List MemPlace)
 | .pointer (some ⟨p,0,none⟩)=>some (.lit (.int .i64 (p:Int)),[])
 | .pointer none=>some (.nil,[])
 | _=>none
def Zap(x:Hp):Lit × DataW Unit:=(nmL (nmH x.h),.lit (.int .i64 (x.p:Int)))
structure Zb4(w:World)(mb:Nat)(l:List Hp):Prop where
 own:∃es,w.ownsMap prog 63 Z87 mb l.length (.map es)∧es.Perm (l.map Zap)
 wf:∀x∈l,wfN (nmH x.h)
 ne:l.Pairwise fun x y=>nmH x.h≠nmH y.h
variable {w w':World} {mb:Nat} {l:List Hp}
end
def Z8s(most:Nat)(hs:List Hq)(L:List Bool)(t r:Int):Prop:=(Zaq hs (t,r)=none∧most≤hs.length)∨L.length≤liv L
instance (most:Nat) (hs:List Hq) (L:List Bool) (t r:Int):Decidable (Z8s most hs L t r):=by unfold Z8s;infer_instance
def Z9y(m:Int):Prop:=m=0∨V4 m=false
instance (m:Int):Decidable (Z9y m):=by unfold Z9y;infer_instance
theorem Nw.kp{a b:World}(g:Nw a b){k o:Nat}{v:Value}(h:a.cell? ⟨k,o,none⟩=some v):b.cell? ⟨k,o,none⟩=some v :=
 (g.cell (World.block_lt_of_cell? _ _ h)).trans h
theorem Nw.dr{a b:World}(h:Nw a b):Nw a b.drew:=h.drewN 1
theorem Nw.at'{a b:World}(g:Nw a b){k:Nat}{o:Obj}(h:a.heap[k]?=some o):b.heap[k]?=some o:=(g.block k (Array.getElem?_eq_some_iff.1 h).1).trans h
theorem Z4(w:World)(o:Obj):(w.alloc o).heap[w.heap.size]?=some o:=by
 show(w.heap.push o)[w.heap.size]?=some o
 simp
theorem Z2{w:World}{B j:Nat}{c:Array Value}{T:TypeId}{fr:Nat × Nat}(hb:w.heap[B]?=some (.cells c T fr)):w.cell? ⟨B,j,none⟩=c[j]?:=by simp[World.cell?,hb]
theorem hfz{w:World}{B j:Nat}{c:Array Value}{T:TypeId}(hb:w.heap[B]?=some (.cells c T (0,0))):w.frozen? ⟨B,j,none⟩=false:=by simp[World.frozen?,hb]
theorem hlt{w:World}{B:Nat}{o:Obj}(hb:w.heap[B]?=some o):B<w.heap.size:=(Array.getElem?_eq_some_iff.1 hb).1
theorem hset{w:World}{B j:Nat}{c:Array Value}{T:TypeId}{fr:Nat × Nat}(u:Value)(hb:w.heap[B]?=some (.cells c T fr)):(w.setCell ⟨B,j,none⟩ u).heap[B]?=some (.cells (c.setIfInBounds j u) T fr):=by
 simp[World.setCell,Array.getElem?_modify,hb]
theorem Z9n(w:World)(p:Addr)(u:Value):w.grownBy (w.setCell p u) (some p.block) :=
 ⟨rfl,rfl,rfl,by simp[World.setCell],fun k _ hk=>Below.heap_setCell _ _ _ _ (fun q=>hk (by rw[q]))⟩
theorem Nw.gro{w a b:World}{row:Option Nat}(h:Nw w a)(g:a.grownBy b row)(hB:∀k,row=some k→w.heap.size≤k):Nw w b :=
 ⟨g.os.trans h.os,g.tape.trans h.tape,g.output.trans h.output,Nat.le_trans h.size g.size,fun j hj=>(g.block j (lL0 hj h.size) (fun q=>by have:=hB j q.symm;omega)).trans (h.block j hj)⟩
section
variable {w w':World} {g0 e size n:Nat} {v:Value} {xs:List Value}
theorem Z2j{row:Option Nat}(ho:w.ownsRow g0 e size v n xs)(hg:w.grownBy w' row)(hne:∀g,v.ownBlock=some g→row≠some g):w'.ownsRow g0 e size v n xs:=by
 cases hv:v.ownBlock with
 | none=>exact ho.kept hg (.inl hv)
 | some g=>exact ho.kept hg (.inr fun q=>hne g hv (q▸hv))
theorem Yq(ho:w.ownsRow g0 e size v n xs)(hg:Nw w w'):w'.ownsRow g0 e size v n xs:=Z2j ho (hg.grownBy none) (fun _ _=>by simp)
theorem Y1(ho:w.ownsRow g0 e size v n xs){g:Nat}(hv:v.ownBlock=some g):∃c,w.heap[g]?=some (.cells c e (0,0)):=by
 rcases ho.2 with⟨rfl,_⟩ | ⟨g',cap,cur,rfl,_,hh,_⟩
 ·simp[Value.ownBlock] at hv
 ·simp only[Value.ownBlock,Option.some.injEq] at hv
  subst hv
  exact⟨cur,hh⟩
theorem Uo(ho:w.ownsRow g0 e size v n xs){g:Nat}(hv:v.ownBlock=some g):g<w.heap.size:=(World.ownsRow.lt ho g hv).2
theorem Vg(ho:w.ownsRow g0 e size v n xs){g:Nat}(hv:v.ownBlock=some g):g0≤g:=(World.ownsRow.lt ho g hv).1
theorem V8(h:w.ownsRow g0 e size v n xs):(v=.slice none 0 0∧n=0)∨∃g cap,v=.slice (some ⟨g,0,none⟩) n cap:=by
 rcases h.2 with q | ⟨g,cap,cur,rfl,_⟩
 ·exact .inl q
 ·exact .inr ⟨g,cap,rfl⟩
theorem Z0k(ho:w.ownsRow g0 e size v n xs){g1:Nat}(h:∀g,v.ownBlock=some g→g1≤g):w.ownsRow g1 e size v n xs:=by
 refine⟨ho.1,?_⟩
 rcases ho.2 with q | ⟨g,cap,cur,rfl,hb,rest⟩
 ·exact .inl q
 ·exact .inr ⟨g,cap,cur,rfl,h g rfl,rest⟩
end
theorem Nw.st{w a:World}{p:Addr}(h:Nw w a)(hB:w.heap.size≤p.block)(u:Value):Nw w (a.setCell p u):=h.gro (Z9n a p u) (fun k hk=>by have:=Option.some.inj hk;omega)
structure Ud{α:Type}(P:Program)(ST T:TypeId)(sz bytes:Nat)(row:α→List Value):Prop where
 und:P.underlying ST=some (.slice T)
 inf:∃i z,P.info? T=some i∧i.zero=some z∧i.size=sz∧i.bytes=bytes∧z.cells.size=sz
 pos:0<sz
 byt:bytes≤800
 len:∀a,(row a).length=sz
 one:∀a,∀u∈row a,u.oneCell'=true
def Z8{α:Type}(row:α→List Value)(l:List α):List Value:=l.flatMap row
abbrev Zt{α:Type}(T:TypeId)(sz:Nat)(row:α→List Value)(w:World)(g0:Nat)(v:Value)(l:List α):Prop:=w.ownsRow g0 T sz v l.length (Z8 row l)
structure RdC{α:Type}(sz:Nat)(row:α→List Value)(w:World)(b o:Nat)(l:List α):Prop where
 lt:b<w.heap.size
 cell:∀i (h:i<l.length) c u,(row l[i])[c]?=some u→w.cell? ⟨b,o+i*sz+c,none⟩=some u
def Rd{α:Type}(sz:Nat)(row:α→List Value)(w:World)(v:Value)(l:List α):Prop:=∃a c,v=.slice a l.length c∧(l=[]∧(a=none→c=0)∨∃b o,a=some ⟨b,o,none⟩∧RdC sz row w b o l)
section
variable {α:Type} {sz:Nat} {row:α→List Value} {w w':World} {b o:Nat} {l:List α} {v:Value}
theorem RdC.nw(h:RdC sz row w b o l)(g:Nw w w'):RdC sz row w' b o l:=⟨lL0 h.lt g.sz,fun i hi c u hu=>(g.cell h.lt).trans (h.cell i hi c u hu)⟩
theorem Rd.nw(h:Rd sz row w v l)(g:Nw w w'):Rd sz row w' v l:=by
 obtain⟨a,c,rfl,h | ⟨b,o,rfl,h⟩⟩:=h
 ·exact⟨a,c,rfl,.inl h⟩
 ·exact⟨_,c,rfl,.inr ⟨b,o,rfl,h.nw g⟩⟩
theorem Rd.nil(w:World):Rd sz row w (.slice none 0 0) []:=⟨none,0,rfl,.inl ⟨rfl,fun _=>rfl⟩⟩
theorem Rd.form(h:Rd sz row w v l):∃a c,v=.slice a l.length c:=by
 obtain⟨a,c,rfl,_⟩:=h
 exact⟨a,c,rfl⟩
theorem Ye(hl:∀a,(row a).length=sz):∀l:List α,(Z8 row l).length=l.length*sz
 | []=>by simp[Z8]
 | s::r=>by
  show(row s++Z8 row r).length=_
  rw[List.length_append,Ye hl r,hl,List.length_cons,Nat.add_mul,Nat.one_mul,Nat.add_comm]
theorem Yd(hl:∀a,(row a).length=sz):∀(l:List α) (j c:Nat) (hj:j<l.length),c<sz→(Z8 row l)[j*sz+c]?=(row l[j])[c]?
 | s::r,0,c,_,hc=>by
  show(row s++Z8 row r)[0*sz+c]?=_
  rw[List.getElem?_append_left (by rw[hl];simpa using hc)]
  simp
 | s::r,j+1,c,hj,hc=>by
  have hj':j<r.length:=by simpa using hj
  show(row s++Z8 row r)[(j+1)*sz+c]?=_
  rw[Nat.add_mul,Nat.one_mul,List.getElem?_append_right (by rw[hl];omega),hl,show j*sz+sz+c-sz=j*sz+c by omega,Yd hl r j c hj' hc]
  rfl
theorem Z6x(a b:List α):Z8 row (a++b)=Z8 row a++Z8 row b:=by simp[Z8]
theorem Z6v(hl:∀a,(row a).length=sz){B:Nat}{T:TypeId}{fr:Nat × Nat}(h:w.heap[B]?=some (.cells ⟨Z8 row l⟩ T fr))(c:Nat):Rd sz row w (.slice (some ⟨B,0,none⟩) l.length c) l:=by
 refine⟨_,c,rfl,.inr ⟨B,0,rfl,hlt h,fun i hi c u hu=>?_⟩⟩
 have hc:c<sz:=by have:=(List.getElem?_eq_some_iff.1 hu).1;rwa [hl] at this
 rw[Nat.zero_add,Z2 h,←Array.getElem?_toList]
 show(Z8 row l)[i*sz+c]?=_
 rw[Yd hl l i c hi hc];exact hu
theorem Zt.rd{T g0:Nat}(hl:∀a,(row a).length=sz)(h:Zt T sz row w g0 v l):Rd sz row w v l:=by
 rcases V8 h with⟨rfl,q⟩ | ⟨g,cap,rfl⟩
 ·exact⟨none,0,by rw[q],.inl ⟨List.length_eq_zero_iff.1 q,fun _=>rfl⟩⟩
 ·refine⟨_,cap,rfl,.inr ⟨g,0,rfl,Uo h rfl,fun i hi c u hu=>?_⟩⟩
  have hc:c<sz:=by have:=(List.getElem?_eq_some_iff.1 hu).1;rwa [hl] at this
  rw[Nat.zero_add]
  have hb:i*sz+c<l.length*sz:=by
   have:(i+1)*sz≤l.length*sz:=Nat.mul_le_mul_right _ hi
   rw[Nat.add_mul,Nat.one_mul] at this
   omega
  refine(World.ownsRow.cellAt h (i*sz+c) hb).trans ?_
  rw[Yd hl l i c hi hc];exact hu
theorem RdC.flat(hl:∀a,(row a).length=sz)(hz:0<sz)(h:RdC sz row w b o l):∀j u,(Z8 row l)[j]?=some u→w.cell? ((⟨b,o,none⟩:Addr).add j)=some u:=by
 intro j u hu
 have hj:=(List.getElem?_eq_some_iff.1 hu).1
 rw[Ye hl] at hj
 have hq:j/sz<l.length:=Nat.div_lt_of_lt_mul (by rwa [Nat.mul_comm])
 have hm:j%sz<sz:=Nat.mod_lt _ hz
 have e:j=j/sz*sz+j%sz:=by rw[Nat.mul_comm];exact(Nat.div_add_mod j sz).symm
 rw[e,Yd hl _ _ _ hq hm] at hu
 have:=h.cell _ hq _ u hu
 rw[Addr.add_lit]
 rwa [Nat.add_assoc,←e] at this
theorem RdC.part(h:RdC sz row w b o l)(i m:Nat):RdC sz row w b (o+i*sz) ((l.drop i).take m):=⟨h.lt,fun k hk c u hu=>by
  simp only[List.length_take,List.length_drop] at hk
  simp only[List.getElem_take,List.getElem_drop] at hu
  have:=h.cell (i+k) (by omega) c u hu
  rw[Nat.add_mul] at this
  rwa [show o+i*sz+k*sz+c=o+(i*sz+k*sz)+c by omega]⟩
end
section
variable {α:Type} {P:Program} {ST T:TypeId} {sz bytes:Nat} {row:α→List Value}
theorem Ud.oneAll(E:Ud P ST T sz bytes row)(l:List α):∀u∈Z8 row l,u.oneCell'=true:=by
 intro u hu
 obtain⟨a,_,hu⟩:=List.mem_flatMap.1 hu
 exact E.one a u hu
theorem Zt.many(E:Ud P ST T sz bytes row){w:World}{g0:Nat}{v:Value}{l:List α}(h:Zt T sz row w g0 v l)(sg:List α)(a:Addr)(c:Nat)(hc:∀j u,(Z8 row sg)[j]?=some u→w.cell? (a.add j)=some u)(hsm:l.length+sg.length≤100000)(hg0:g0≤w.heap.size) :
  ∃v' w1,(Builtin.append_ #[ST,ST] ST #[v,.slice (some a) sg.length c]).run P w=.ok v' w1∧Zt T sz row w1 g0 v' (l++sg)∧w.grownBy w1 v.ownBlock∧(v'.ownBlock=v.ownBlock∨v'.ownBlock=some w.heap.size):=by
 obtain⟨i0,z,hi,hz0,hz1,hz2,hz3⟩:=E.inf
 have hb:=E.byt
 obtain⟨v',w1,hrun,ho,hg,hp⟩:=Yw (P:=P) w g0 ST ST T i0 z sz bytes E.und hi hz0 hz1 hz2 hz3 E.pos v l.length _ h
  a sg.length c (Z8 row sg) (Ye E.len sg) hc (E.oneAll sg) (by unfold maxLen;omega) (Nat.le_trans (Nat.mul_le_mul hsm hb) (by omega)) hg0
 refine⟨v',w1,hrun,?_,hg,hp⟩
 unfold Zt
 rw[List.length_append,Z6x]
 exact ho
theorem Zt.push(E:Ud P ST T sz bytes row){w:World}{g0:Nat}{v:Value}{l:List α}(h:Zt T sz row w g0 v l)(x:α)(b:Nat)(c:Nat)(hx:∀j u,(row x)[j]?=some u→w.cell? ⟨b,j,none⟩=some u)(hsm:l.length<100000)(hg0:g0≤w.heap.size) :
  ∃v' w1,(Builtin.append_ #[ST,ST] ST #[v,.slice (some ⟨b,0,none⟩) 1 c]).run P w=.ok v' w1∧Zt T sz row w1 g0 v' (l++[x])∧w.grownBy w1 v.ownBlock∧(v'.ownBlock=v.ownBlock∨v'.ownBlock=some w.heap.size)∧∃g cap,v'=.slice (some ⟨g,0,none⟩) (l.length+1) cap:=by
 obtain⟨v',w1,h1,h2,h3,h4⟩:=Zt.many E h [x] ⟨b,0,none⟩ c (fun j u hu=>by
  rw[Addr.add_lit,Nat.zero_add]
  exact hx j u (by simpa [Z8] using hu)) (by rw[List.length_singleton];omega) hg0
 refine⟨v',w1,h1,h2,h3,h4,?_⟩
 rcases V8 h2 with⟨_,q⟩ | ⟨g,cap,rfl⟩
 ·simp at q
 ·exact⟨g,cap,by simp⟩
theorem Z0w(w:World):(w.alloc (.cells #[] T)).ownsRow w.heap.size T sz (.slice (some ⟨w.heap.size,0,none⟩) 0 0) 0 []:=World.ownsRow_lit w #[] 0 (Nat.le_refl _) (Nat.zero_le _) (by simp)
theorem Z47(E:Ud P ST T sz bytes row)(w:World)(l:List α)(hl:l.length≤100000):Zt T sz row (w.alloc (.cells ⟨Z8 row l⟩ T)) w.heap.size (.slice (some ⟨w.heap.size,0,none⟩) l.length l.length) l:=by
 have:=World.ownsRow_lit (base:=w.heap.size) (size:=sz) (e:=T) w ⟨Z8 row l⟩ l.length (Nat.le_refl _) (by unfold maxLen;omega) (by simpa using Ye E.len l)
 simpa [Zt] using this
theorem Yu(E:Ud P ST T sz bytes row){w:World}{v:Value}{l:List α}(h:Rd sz row w v l)(hsm:l.length≤100000) :
  ∃v' w1,(Builtin.append_ #[ST,ST] ST #[.slice (some ⟨w.heap.size,0,none⟩) 0 0,v]).run P (w.alloc (.cells #[] T))=.ok v' w1∧Zt T sz row w1 w.heap.size v' l∧Nw w w1:=by
 have he:=Z0w (T:=T) (sz:=sz) w
 have hN:Nw w (w.alloc (.cells #[] T)):=(Nw.refl w).alloc _
 have hE:Zt T sz row (w.alloc (.cells #[] T)) w.heap.size (.slice (some ⟨w.heap.size,0,none⟩) 0 0) ([]:List α):=he
 obtain⟨a,c,rfl,⟨rfl,h0⟩ | ⟨b,o,rfl,hc⟩⟩:=h
 ·cases a with
  | none =>
   obtain rfl:=h0 rfl
   obtain⟨i0,z,hi,hz0,hz1,hz2,hz3⟩:=E.inf
   exact⟨_,_,run_append_owned_none (P:=P) (w.alloc (.cells #[] T)) w.heap.size ST ST T i0 sz E.und hi _ 0 [] he,hE,hN⟩
  | some ad =>
   obtain⟨v',w1,h1,h2,h3,_⟩:=Zt.many E hE [] ad c (fun j u hu=>by simp[Z8] at hu) (by simp) hN.sz
   exact⟨v',w1,h1,h2,hN.gro h3 (fun k hk=>Nat.le_of_eq (Option.some.inj hk))⟩
 ·obtain⟨v',w1,h1,h2,h3,_⟩:=Zt.many E hE l ⟨b,o,none⟩ c ((hc.nw hN).flat E.len E.pos) (by simpa using hsm) hN.sz
  exact⟨v',w1,h1,by simpa using h2,hN.gro h3 (fun k hk=>Nat.le_of_eq (Option.some.inj hk))⟩
end
theorem Z7{P:Program}{w:World}{ops:Array Oper}{rest:List Oper}{o:Oper}{a:Act}{Q:Exit→Act→World→Prop}
  (hgd:Region.wanted o (yielded ops a.tmps)=true) (s x:Operand) (t:TypeId) (hop:o.op=Op.call { callee:=Callee.builtin Builtin.append,args:=#[s,x],argTypes:=#[t,t] })
  (v u v':Value) (w':World) (hs:a.eval s=v) (hx:a.eval x=u) (hr:(Builtin.append_ #[t,t] o.type #[v,u]).run P w=.ok v' w') (h:wpList P ops Q rest (a.put o.dst v') w'):wpList P ops Q (o::rest) a w:=by
 refine wpList_step fun _ hK=>?_
 rw[if_pos hgd]
 unfold Oper.wp execOp
 simp only[hop,resolve,invoke,builtin,Sem.run_bind,Sem.run_pure,Result.andThen_ok,List.map_toArray,List.map_cons,List.map_nil,hs,hx,hr]
 exact hK _ _ h
theorem Yh{P:Program}{ops:Array Oper}{o:Oper}{a:Act}{w:World}{K:Act→World→Prop}{Q:Exit→Act→World→Prop}{E:Prop}(hgd:Region.wanted o (yielded ops a.tmps)=true)(s x:Operand)(t:TypeId)
  (ho:o.op=.call { callee:=.builtin .append,args:=#[s,x],argTypes:=#[t,t] }) (v u v':Value) (w':World) (hs:a.eval s=v) (hx:a.eval x=u) (hr:(Builtin.append_ #[t,t] o.type #[v,u]).run P w=.ok v' w')
  (h:K (a.put o.dst v') w'):if Region.wanted o (yielded ops a.tmps)=true then Oper.wp P o a w K Q else E:=by
 rw[if_pos hgd]
 unfold Oper.wp execOp
 simp only[ho,resolve,invoke,builtin,Sem.run_bind,Sem.run_pure,Result.andThen_ok,List.map_toArray,List.map_cons,List.map_nil,hs,hx,hr]
 exact h
section
attribute [local go_sem] Oper.semAt_some
structure BxI{α:Type}(T sz:Nat)(row:α→List Value)(w:World)(c:Nat)(S0 S:Nat→Prop)(v:Value)(pre:List α)(A:World):Prop where
 cell:A.cell? ⟨c,0,none⟩=some v
 froz:A.frozen? ⟨c,0,none⟩=false
 own:Zt T sz row A (c+1) v pre
 row:∀k,v.ownBlock=some k→¬S k
 box:¬S c
 sub:∀k,S k→S0 k∨w.heap.size≤k
 nw:Nw w A
end
section
open Go.RowKit Go.Sort
def cP(a b:Int):Int:=if a<b then -1 else if b<a then 1 else 0
theorem Z8o(a b:Int)(h:a<b):cP a b = -1:=if_pos h
theorem Za0(a b:Int)(h:b<a):cP a b=1:=by unfold cP;rw[if_neg (by omega),if_pos h]
theorem Z9z(a:Int):cP a a=0:=by unfold cP;simp
theorem Z1c(a:Int)(w:World):Calls prog 50 #[.int .i64 a] w fun e w'=>e=.returned (.bool false)∧w=w':=by
 go_enter func50,ntmps50
 go_wp2
 go_ret
 exact⟨rfl,rfl⟩
theorem Z1w(a b:Int)(w:World):Calls prog 30 #[.int .i64 a,.int .i64 b] w fun e w'=>e=.returned (.int .i64 (cP a b))∧w=w':=by
 rcases Int.lt_trichotomy a b with h | h | h
 ·rw[Z8o a b h]
  have hd:decide (a<b)=true:=by simpa using h
  go_enter func30,ntmps30
  go_wp2_with (go_at_call 50;refine(Z1c _ _).mono ?_;rintro e w' ⟨rfl,rfl⟩)
  go_ret
  exact⟨rfl,rfl⟩
 ·subst h
  rw[Z9z a]
  go_enter func30,ntmps30
  go_wp2_with (go_at_call 50;refine(Z1c _ _).mono ?_;rintro e w' ⟨rfl,rfl⟩)
  go_ret
  exact⟨rfl,rfl⟩
 ·rw[Za0 a b h]
  have hd:decide (a<b)=false:=by simp;omega
  have hd2:decide (b<a)=true:=by simpa using h
  go_enter func30,ntmps30
  go_wp2_with (go_at_call 50;refine(Z1c _ _).mono ?_;rintro e w' ⟨rfl,rfl⟩)
  go_ret
  exact⟨rfl,rfl⟩
def orP(x y:Int):Int:=if x=0 then y else x
theorem Zax(b:Nat)(x y:Int)(w:World)(h0:w.cell? ⟨b,0,none⟩=some (.int .i64 x))(h1:w.cell? ⟨b,1,none⟩=some (.int .i64 y)) :
  Calls prog 29 #[.slice (some ⟨b,0,none⟩) 2 2] w fun e w'=>e=.returned (.int .i64 (orP x y))∧w=w':=by
 by_cases hx:x=0
 ·subst hx
  by_cases hy:y=0
  ·subst hy
   go_enter func29,ntmps29
   go_wp2
   refine wp_loop_rounds 3 ?_
   rw[rounds_succ]
   go_wp2
   rw[rounds_succ]
   go_wp2
   rw[rounds_succ]
   go_wp2
   go_ret
   exact⟨rfl,rfl⟩
  ·have hy':(y==0)=false:=by simpa using hy
   have hy2:(y != 0)=true:=by simpa using hy
   go_enter func29,ntmps29
   go_wp2
   refine wp_loop_rounds 3 ?_
   rw[rounds_succ]
   go_wp2
   rw[rounds_succ]
   go_wp2
   go_ret
   exact⟨rfl,rfl⟩
 ·have hx':(x==0)=false:=by simpa using hx
  have hx2:(x != 0)=true:=by simpa using hx
  have e:orP x y=x:=if_neg hx
  rw[e]
  clear hx e
  go_enter func29,ntmps29
  go_wp2
  refine wp_loop_rounds 3 ?_
  rw[rounds_succ]
  go_wp2
  go_ret
  exact⟨rfl,rfl⟩
def GG(w w':World):Prop:=∃q os,w'=grow (w.drewN q) os
theorem GG.refl(w:World):GG w w:=⟨0,#[],by unfold grow;simp[World.drewN]⟩
theorem GG.drew{w w':World}(h:GG w w'):GG w w'.drew:=by obtain⟨q,os,rfl⟩:=h;exact⟨q+1,os,rfl⟩
theorem GG.alloc{w w':World}(h:GG w w')(o:Obj):GG w (w'.alloc o):=by obtain⟨q,os,rfl⟩:=h;exact⟨q,os.push o,by rw[alloc_eq_grow,grow_grow];rfl⟩
theorem GG.nw{w w':World}(h:GG w w'):Nw w w':=by
 obtain⟨q,os,rfl⟩:=h
 refine⟨rfl,rfl,rfl,by rw[size_grow];exact Nat.le_add_right _ _,fun k hk=>?_⟩
 exact heap_grow_old _ _ hk
theorem GG.trans{a b c:World}(h:GG a b)(k:GG b c):GG a c:=by
 obtain⟨q,os,rfl⟩:=h
 obtain⟨q',os',rfl⟩:=k
 refine⟨q+q',os++os',?_⟩
 unfold grow World.drewN
 simp[Nat.add_assoc,Array.append_assoc]
abbrev Z7g(w:World)(t r t' r':Int)(a:World):Prop:=(a.cell? ⟨w.heap.size,0,none⟩=some (.int .i64 t)∧a.cell? ⟨w.heap.size,1,none⟩=some (.int .i64 r)∧a.cell? ⟨w.heap.size+1,0,none⟩=some (.int .i64 t')∧a.cell? ⟨w.heap.size+1,1,none⟩=some (.int .i64 r'))∧(w.heap.size+1<a.heap.size∧GG w a)
theorem Z3t(w:World)(t r t' r':Int)(ty:TypeId):Z7g w t r t' r' (((w.alloc (.cells #[.int .i64 t,.int .i64 r] ty)).alloc (.cells #[.int .i64 t',.int .i64 r'] ty)).drew):=by
 have h1:=Z4 w (.cells #[.int .i64 t,.int .i64 r] ty)
 have hz:(w.alloc (.cells #[.int .i64 t,.int .i64 r] ty)).heap.size=w.heap.size+1:=by simp
 have h2:=Z4 (w.alloc (.cells #[.int .i64 t,.int .i64 r] ty)) (.cells #[.int .i64 t',.int .i64 r'] ty)
 have h3:=((Nw.refl (w.alloc (.cells #[.int .i64 t,.int .i64 r] ty))).alloc (.cells #[.int .i64 t',.int .i64 r'] ty)).at' h1
 rw[hz] at h2
 refine⟨⟨?_,?_,?_,?_⟩,?_,(((GG.refl w).alloc _).alloc _).drew⟩
 ·exact Z2 (j:=0) h3
 ·exact Z2 (j:=1) h3
 ·exact Z2 (j:=0) h2
 ·exact Z2 (j:=1) h2
 ·exact hlt h2
theorem U5{w a b:World}{t r t' r':Int}(g:GG a b)(h:Z7g w t r t' r' a):Z7g w t r t' r' b:=by
 obtain⟨⟨h0,h1,h2,h3⟩,hs,hn⟩:=h
 exact⟨⟨g.nw.kp h0,g.nw.kp h1,g.nw.kp h2,g.nw.kp h3⟩,lL0 hs g.nw.sz,hn.trans g⟩
def Z38(a b:Int × Int):Int:=orP (cP a.1 b.1) (cP a.2 b.2)
theorem Uk(a b:Int × Int):ltOf Z38 a b=decide (nlt a b):=by
 obtain⟨a,a'⟩:=a
 obtain⟨b,b'⟩:=b
 unfold ltOf Z38 orP cP nlt
 rcases Int.lt_trichotomy a b with h | h | h
 ·simp[h]
 ·subst h
  rcases Int.lt_trichotomy a' b' with q | q | q
  ·simp[q]
  ·subst q;simp
  ·have:¬a'<b':=by omega
   simp[q,this]
 ·have h1:¬a<b:=by omega
  have h2:a≠b:=by omega
  simp[h,h1,h2]
theorem Z5s:SWO (ltOf Z38) where
 irrefl x:=by rw[Uk];simpa using Z81 x
 trans x y z h1 h2:=by rw[Uk] at *;simp only[decide_eq_true_eq] at *;exact Z9g h1 h2
 ntrans x y z h1 h2:=by rw[Uk] at *;simp only[decide_eq_false_iff_not] at *;intro h;unfold nlt at *;omega
end
structure Wd(S:World→Prop):Type where
 w:World
 h:S w
theorem Zq{P:Program}{id:Nat}{Q:Exit→Act→World→Prop}{a:Act}{w:World}{l:List Oper}(S:World→Prop)(hm:P.follows .mixedOrders=true)(hB:Region.lexB .any l.toArray=true)(hS:S w.drew)
  (h:wpQuiet P l.toArray (fun w'=>∃d:Wd S,w'=d.w) (fun a'=>∀d:Wd S,Q .normal a' d.w) l a):(Code.region id l.toArray true).wp P Q a w:=by
 refine wp_region_quiet (C:=fun w'=>∃d:Wd S,w'=d.w) hm hB ⟨⟨w.drew,hS⟩,rfl⟩ ?_
 have e:(fun a'=>∀w',(∃d:Wd S,w'=d.w)→Q .normal a' w')=(fun a'=>∀d:Wd S,Q .normal a' d.w):=by
  funext a'
  exact propext ⟨fun H d=>H _ ⟨d,rfl⟩,fun H _ ⟨d,hd⟩=>hd▸H d⟩
 rw[e]
 simpa using h
theorem Vb{P:Program}{f:FuncId}{args:Array Value}{S:World→Prop}(hS:∀a b,S a→Nw a b→S b){d:Wd S}{v:Value}
  (h:Calls P f args d.w fun e w'=>e=.returned v∧Nw d.w w'):Calls P f args d.w fun e w''=>e=.returned v∧∃d':Wd S,w''=d'.w :=
 h.mono fun _ w'' ⟨he,hg⟩=>⟨he,⟨w'',hS _ _ d.h hg⟩,rfl⟩
abbrev IS(w:World)(v:Value)(l:List Int):Prop:=w.ownsRow 0 3 1 v l.length (l.map (Value.int .i64))
theorem IS.form{w:World}{v:Value}{l:List Int}(h:IS w v l):(v=.slice none 0 0∧l=[])∨∃g cap,v=.slice (some ⟨g,0,none⟩) l.length cap:=by
 rcases h.2 with⟨rfl,h0⟩ | ⟨g,cap,cur,rfl,_⟩
 ·exact .inl ⟨rfl,List.length_eq_zero_iff.1 h0⟩
 ·exact .inr ⟨g,cap,rfl⟩
theorem IS.tch{S:Nat→Prop}{w w':World}{v:Value}{l:List Int}(h:IS w v l)(k:Zd S w w')(hn:∀g,v.ownBlock=some g→¬S g):IS w' v l:=by
 refine⟨h.1,?_⟩
 rcases h.2 with h0 | ⟨g,cap,cur,rfl,hb,hg,rest⟩
 ·exact .inl h0
 ·exact .inr ⟨g,cap,cur,rfl,hb,(k.block g (Array.getElem?_eq_some_iff.1 hg).1 (hn g rfl)).trans hg,rest⟩
theorem IS.nw{w w':World}{v:Value}{l:List Int}(h:IS w v l)(k:Nw w w'):IS w' v l:=h.tch (Zd.nw (S:=fun _=>False) k) (fun _ _ e=>e)
theorem IS.nil(w:World):IS w (.slice none 0 0) []:=World.ownsRow_nil _ _ _ _
theorem IS.nlen{w:World}{g cap n:Nat}{l:List Int}(h:IS w (.slice (some ⟨g,0,none⟩) n cap) l):n=l.length:=by
 rcases h.2 with⟨h',_⟩ | ⟨g',cap',cur,h',_⟩
 ·simp at h'
 ·simp only[Value.slice.injEq] at h'
  exact h'.2.1
theorem IS.cell{w:World}{g cap n:Nat}{l:List Int}(h:IS w (.slice (some ⟨g,0,none⟩) n cap) l)(i:Nat)(hi:i<l.length):w.cell? ⟨g,i,none⟩=some (.int .i64 (l.getD i 0)):=by
 have e:=h.nlen
 subst e
 exact(World.ownsRow.cellAt h i (by omega)).trans (by simp[List.getD,hi])
theorem IS.frozen{w:World}{g cap n:Nat}{l:List Int}(h:IS w (.slice (some ⟨g,0,none⟩) n cap) l)(j:Nat):w.frozen? ⟨g,j,none⟩=false:=by
 have e:=h.nlen
 subst e
 exact World.ownsRow.frozenAt h j
theorem IS.lt{w:World}{v:Value}{l:List Int}(h:IS w v l){k:Nat}(hk:v.ownBlock=some k):k<w.heap.size:=(World.ownsRow.lt h k hk).2
theorem IS.glt{w:World}{g cap n:Nat}{l:List Int}(h:IS w (.slice (some ⟨g,0,none⟩) n cap) l):g<w.heap.size:=h.lt rfl
theorem IS.len{w:World}{v:Value}{l:List Int}(h:IS w v l):l.length≤maxLen:=by
 rcases h.2 with⟨rfl,h0⟩ | ⟨g',cap',cur,h',_,_,h1,h2,_⟩
 ·rw[h0];exact Nat.zero_le _
 ·exact Nat.le_trans h1 h2
theorem IS.box{w:World}{v:Value}{l:List Int}(h:IS w v l):∃ao cap,v=.slice ao l.length cap∧(0<l.length→∃g,ao=some ⟨g,0,none⟩∧v.ownBlock=some g):=by
 rcases h.form with⟨rfl,rfl⟩ | ⟨g,cap,rfl⟩
 ·exact⟨none,0,rfl,fun h=>by simp at h⟩
 ·exact⟨_,cap,rfl,fun _=>⟨g,rfl,rfl⟩⟩
theorem Z8u:(prog.info? 3).map (fun i=>(i.zero,i.size,i.bytes))=some (some (.int .i64 0),1,8):=by kernel_rfl
theorem IS.push(w:World)(v:Value)(l:List Int)(x:Int)(h:IS w v l)(hsm:l.length≤100000) :
  ∃v' w1,(Builtin.append_ #[25,25] 25 #[v,.slice (some ⟨w.heap.size,0,none⟩) 1 1]).run prog (w.alloc (.cells #[.int .i64 x] 3))=.ok v' w1∧IS w1 v' (l++[x])∧Zd (fun k=>v.ownBlock=some k) w w1 ∧
   (∀k,v'.ownBlock=some k→v.ownBlock=some k∨w.heap.size≤k)∧(∃g cap,v'=.slice (some ⟨g,0,none⟩) (l.length+1) cap):=by
 obtain⟨i0,hi,hz0,hz1,hz2⟩:=info_parts Z8u
 have ha:IS (w.alloc (.cells #[.int .i64 x] 3)) v l:=h.nw ((Nw.refl w).alloc _)
 have hc:(w.alloc (.cells #[.int .i64 x] 3)).cell? ⟨w.heap.size,0,none⟩=some (.int .i64 x):=by simp[go_sem]
 obtain⟨v',w1,hrun,ho,hg,hp⟩:=Yw (P:=prog) (w.alloc (.cells #[.int .i64 x] 3)) 0 25 25 3 i0 _ 1 8 underlying25 hi hz0 hz1 hz2 rfl (by decide) v l.length _ ha
  ⟨w.heap.size,0,none⟩ 1 1 [.int .i64 x] rfl (by
   intro j u hu
   match j,hu with
   | 0,hu=>simp at hu;subst hu;exact hc) (by simp[Value.oneCell']) (by unfold maxLen;omega) (by omega) (Nat.zero_le _)
 have hI:IS w1 v' (l++[x]):=by
  unfold IS
  rw[List.length_append,List.map_append]
  exact ho
 refine⟨v',w1,hrun,hI,(Zd.alloc (Zd.refl _ w) _).grown hg (fun k e=>.inl e),fun k e=>?_,?_⟩
 ·rcases hp with hp | hp
  ·exact .inl (hp▸e)
  ·rw[hp] at e
   simp at e
   exact .inr (by omega)
 ·rcases hI.form with⟨_,q⟩ | ⟨g,cap,rfl⟩
  ·simp at q
  ·exact⟨g,cap,by simp⟩
theorem Z5g(g cap g' cap':Nat)(l:List Int)(w:World)(h:IS w (.slice (some ⟨g,0,none⟩) l.length cap) l)(h':IS w (.slice (some ⟨g',0,none⟩) l.length cap') l) :
  Calls prog 8 #[.slice (some ⟨g,0,none⟩) l.length cap,.slice (some ⟨g',0,none⟩) l.length cap'] w fun e w'=>e=.returned (.bool true)∧Nw w w':=by
 have hm:=h.len
 unfold maxLen at hm
 have H:=hD0 (aI0 h h')
 clear h h'
 go_enter func8,ntmps8
 go_wp2
 go_loopw [5] (fun i wr=>∃k:Nat,k≤l.length∧i=.int .i64 k∧Nw w wr) (fun i _=>l.length-(intOf i).toNat)
 case atStart=>exact⟨0,Nat.zero_le _,rfl,Nw.refl _⟩
 case round =>
  obtain⟨k,hk,rfl,hG⟩:=hrel
  by_cases hlt:k<l.length
  ·have c0:=(H.out.1.nw hG).cell k hlt
   have d0:=(H.out.2.nw hG).cell k hlt
   generalize l.getD k 0=x at *
   go_wp2_with fail
   go_quiet (fail)
   go_wp2
   go_roundw
   case rel=>exact⟨k+1,by omega,by go_num,hG.drewN _⟩
   case measure=>simp[intOf];omega
  ·go_wp2
   go_ret
   exact⟨rfl,hG⟩
theorem Z0a(w:World)(v v':Value)(h:(v=.slice none 0 0)∨∃g cap,v=.slice (some ⟨g,0,none⟩) 0 cap)(h':(v'=.slice none 0 0)∨∃g cap,v'=.slice (some ⟨g,0,none⟩) 0 cap) :
  Calls prog 8 #[v,v'] w fun e w'=>e=.returned (.bool true)∧Nw w w':=by
 rcases h with rfl | ⟨g,cap,rfl⟩<;>rcases h' with rfl | ⟨g',cap',rfl⟩
 all_goals
  go_enter func8,ntmps8
  go_wp2
  refine wp_loop_rounds 1 ?_
  repeat (rw[rounds_succ];go_wp2)
  go_ret
  exact⟨rfl,Nw.refl _⟩
theorem Z09(w:World)(v v':Value)(l:List Int)(h:IS w v l)(h':IS w v' l) :
  Calls prog 8 #[v,v'] w fun e w'=>e=.returned (.bool true)∧Nw w w':=by
 rcases h.form with⟨rfl,rfl⟩ | ⟨g,cap,rfl⟩
 ·rcases h'.form with⟨rfl,_⟩ | ⟨g',cap',rfl⟩
  ·exact Z0a w _ _ (.inl rfl) (.inl rfl)
  ·exact Z0a w _ _ (.inl rfl) (.inr ⟨_,_,rfl⟩)
 ·rcases h'.form with⟨rfl,rfl⟩ | ⟨g',cap',rfl⟩
  ·exact Z0a w _ _ (.inr ⟨_,_,rfl⟩) (.inl rfl)
  ·exact Z5g g cap g' cap' l w h h'
def Yy(a b:Int × Int):Prop:=a.1<b.1∨(a.1=b.1∧a.2<b.2)
instance (a b:Int × Int):Decidable (Yy a b):=by unfold Yy;infer_instance
theorem Z18(a:Int × Int):¬Yy a a:=by unfold Yy;omega
theorem Z63{a b c:Int × Int}(h:Yy a b)(k:Yy b c):Yy a c:=by unfold Yy at *;omega
theorem Z19(a b:Int × Int):Yy a b∨a=b∨Yy b a:=by
 obtain⟨a1,a2⟩:=a
 obtain⟨b1,b2⟩:=b
 unfold Yy
 simp only[Prod.mk.injEq]
 omega
abbrev Zj(l:List (Int × Int)):Prop:=l.Pairwise Yy
def Yv(x:Int × Int):List (Int × Int)→List (Int × Int)
 | []=>[x]
 | a::t=>if Yy a x then a::Yv x t else if a=x then a::t else x::a::t
theorem Z2p{x y:Int × Int}:∀ {l:List (Int × Int)},y∈Yv x l↔y=x∨y∈l:=by
 intro l
 induction l with
 | nil=>simp[Yv]
 | cons a t ih =>
  unfold Yv
  split
  ·rw[List.mem_cons,ih,List.mem_cons]
   constructor
   ·rintro(h | h | h)
    ·exact .inr (.inl h)
    ·exact .inl h
    ·exact .inr (.inr h)
   ·rintro(h | h | h)
    ·exact .inr (.inl h)
    ·exact .inl h
    ·exact .inr (.inr h)
  ·split
   ·rename_i h
    subst h
    rw[List.mem_cons]
    exact⟨.inr,fun h=>h.elim .inl id⟩
   ·rw[List.mem_cons]
theorem Z6q{x:Int × Int}:∀ {l:List (Int × Int)},Zj l→Zj (Yv x l):=by
 intro l
 induction l with
 | nil=>intro _;simp[Yv]
 | cons a t ih =>
  intro h
  have h':=List.pairwise_cons.1 h
  unfold Yv
  split
  ·rename_i q
   refine List.pairwise_cons.2 ⟨fun y hy=>?_,ih h'.2⟩
   rcases Z2p.1 hy with e | e
   ·rw[e];exact q
   ·exact h'.1 y e
  ·split
   ·exact h
   ·rename_i q1 q2
    have q3:Yy x a:=(Z19 x a).resolve_right (fun k=>k.elim (fun e=>q2 e.symm) q1)
    refine List.pairwise_cons.2 ⟨fun y hy=>?_,h⟩
    rcases List.mem_cons.1 hy with e | e
    ·rw[e];exact q3
    ·exact Z63 q3 (h'.1 y e)
def sortE(l:List (Int × Int)):List (Int × Int):=l.foldl (fun o x=>Yv x o) []
theorem Z2z{l o:List (Int × Int)}(h:Zj o):Zj (l.foldl (fun o x=>Yv x o) o)∧∀y,y∈l.foldl (fun o x=>Yv x o) o↔y∈l∨y∈o:=by
 induction l generalizing o with
 | nil=>exact⟨h,fun y=>by simp⟩
 | cons a t ih =>
  obtain⟨h1,h2⟩:=ih (Z6q (x:=a) h)
  refine⟨h1,fun y=>?_⟩
  rw[List.foldl_cons,h2,Z2p,List.mem_cons]
  constructor
  ·rintro(q | q | q)
   ·exact .inl (.inr q)
   ·exact .inl (.inl q)
   ·exact .inr q
  ·rintro((q | q) | q)
   ·exact .inr (.inl q)
   ·exact .inl q
   ·exact .inr (.inr q)
theorem Yx(l:List (Int × Int)):Zj (sortE l):=(Z2z List.Pairwise.nil).1
theorem Y7{l:List (Int × Int)}{y:Int × Int}:y∈sortE l↔y∈l:=by
 have:=(Z2z (l:=l) List.Pairwise.nil).2 y
 simpa [sortE] using this
theorem Z4j:∀ {a b:List (Int × Int)},Zj a→Zj b→(∀x,x∈a↔x∈b)→a=b:=by
 intro a
 induction a with
 | nil =>
  intro b _ _ h
  cases b with
  | nil=>rfl
  | cons y t=>exact absurd ((h y).2 (by simp)) (by simp)
 | cons x s ih =>
  intro b ha hb h
  cases b with
  | nil=>exact absurd ((h x).1 (by simp)) (by simp)
  | cons y t =>
   have ha':=List.pairwise_cons.1 ha
   have hb':=List.pairwise_cons.1 hb
   have e:x=y:=by
    rcases List.mem_cons.1 ((h x).1 (by simp))with q | q
    ·exact q
    ·rcases List.mem_cons.1 ((h y).2 (by simp))with k | k
     ·exact k.symm
     ·exact absurd (Z63 (hb'.1 x q) (ha'.1 y k)) (Z18 y)
   subst e
   rw[ih ha'.2 hb'.2 fun z=>?_]
   constructor
   ·intro hz
    rcases List.mem_cons.1 ((h z).1 (List.mem_cons_of_mem _ hz))with q | q
    ·subst q;exact absurd (ha'.1 z hz) (Z18 z)
    ·exact q
   ·intro hz
    rcases List.mem_cons.1 ((h z).2 (List.mem_cons_of_mem _ hz))with q | q
    ·subst q;exact absurd (hb'.1 z hz) (Z18 z)
    ·exact q
theorem Z72{l o:List (Int × Int)}(h:Zj o)(hm:∀x,x∈o↔x∈l):o=sortE l:=Z4j h (Yx l) fun x=>(hm x).trans Y7.symm
abbrev Ya(l:List (Int × Int))(a b:Int):Prop:=Relation.TransGen (fun x y=>(x,y)∈l) a b
theorem Z6u{l:List (Int × Int)}{a:Int}{out:List Int}(cl:∀x y,(x,y)∈l→x=a∨x∈out→y∈out)(so:∀y∈out,Ya l a y)(y:Int):y∈out↔Ya l a y:=by
 refine⟨so y,fun h=>?_⟩
 induction h with
 | single h=>exact cl _ _ h (.inl rfl)
 | tail _ h ih=>exact cl _ _ h (.inr ih)
theorem Z2u{l m:List (Int × Int)}(h:∀x∈l,x∈m){a b:Int}(r:Ya l a b):Ya m a b:=by
 induction r with
 | single q=>exact .single (h _ q)
 | tail _ q ih=>exact .tail ih (h _ q)
theorem Vc{l:List (Int × Int)}{a b:Int}(r:Ya l a b):∃y,(a,y)∈l:=by
 induction r with
 | single q=>exact⟨_,q⟩
 | tail _ _ ih=>exact ih
theorem Z2t{l:List (Int × Int)}{a b:Int}(r:Ya l a b):∃x,(x,b)∈l:=by
 cases r with
 | single q=>exact⟨_,q⟩
 | tail _ q=>exact⟨_,q⟩
def Ym(l:List (Int × Int))(t:Int):List (Int × Int):=l.filter fun e=>!decide (e.1=t)&&!decide (e.2=t)
inductive Way (l:List (Int × Int)):Int→Nat→Int→Prop
 | one {a b:Int} (h:(a,b)∈l):Way l a 1 b
 | step {a x b:Int} {n:Nat} (h:(a,x)∈l) (r:Way l x n b):Way l a (n+1) b
theorem Yo{l:List (Int × Int)}{a b:Int}{n:Nat}(w:Way l a n b):0<n:=by
 cases w with
 | one _=>exact Nat.one_pos
 | step _ _=>exact Nat.succ_pos _
theorem Ur{l:List (Int × Int)}{a b:Int}{n:Nat}(w:Way l a n b):Ya l a b:=by
 induction w with
 | one h=>exact .single h
 | step h _ ih=>exact Relation.TransGen.trans (.single h) ih
theorem Vv{l:List (Int × Int)}{a x b:Int}{n:Nat}(w:Way l a n x)(h:(x,b)∈l):Way l a (n+1) b:=by
 induction w with
 | one q=>exact .step q (.one h)
 | step q _ ih=>exact .step q (ih h)
theorem Z8d{l:List (Int × Int)}{a b:Int}(r:Ya l a b):∃n,Way l a n b:=by
 induction r with
 | single h=>exact⟨1,.one h⟩
 | tail _ h ih =>
  obtain⟨n,w⟩:=ih
  exact⟨n+1,Vv w h⟩
def Vh(l:List (Int × Int))(a b:Int)(n:Nat):Prop:=Way l a n b∧∀m,Way l a m b→n≤m
theorem Z9c{l:List (Int × Int)}{a b:Int}(r:Ya l a b):∃n,Vh l a b n:=by
 obtain⟨n,w⟩:=Z8d r
 induction n using Nat.strongRecOn with
 | _ n ih =>
  by_cases h:∃m,m<n∧Way l a m b
  ·obtain⟨m,h1,h2⟩:=h
   exact ih m h1 h2
  ·exact⟨n,w,fun m hm=>Nat.le_of_not_lt fun q=>h ⟨m,q,hm⟩⟩
theorem Z26{l:List (Int × Int)}{a b:Int}{n m:Nat}(h:Vh l a b n)(k:Vh l a b m):n=m:=Nat.le_antisymm (h.2 _ k.1) (k.2 _ h.1)
theorem Z67{l:List (Int × Int)}{a b:Int}{n:Nat}(h:Vh l a b (n+2)):∃x,(a,x)∈l∧Vh l x b (n+1):=by
 cases h.1 with
 | step q r=>exact⟨_,q,r,fun m hm=>Nat.le_of_succ_le_succ (h.2 _ (.step q hm))⟩
inductive Greedy (l:List (Int × Int)) (b:Int):Int→Nat→List Int→Prop
 | last {a:Int} (h:(a,b)∈l):Greedy l b a 1 []
 | step {a x:Int} {n:Nat} {r:List Int} (h:(a,x)∈l) (f:Vh l x b (n+1)) (m:∀y,(a,y)∈l→Vh l y b (n+1)→x≤y) (g:Greedy l b x (n+1) r):Greedy l b a (n+2) (x::r)
theorem Z2a{l:List (Int × Int)}{b:Int}:∀ {n:Nat} {a:Int} {r r':List Int},Greedy l b a n r→Greedy l b a n r'→r=r':=by
 intro n
 induction n with
 | zero=>intro a r r' h _;cases h
 | succ n ih =>
  intro a r r' h k
  cases h with
  | last h=>cases k with
   | last _=>rfl
  | step h f m g=>cases k with
   | step h' f' m' g' =>
    obtain rfl:=Int.le_antisymm (m _ h' f') (m' _ h f)
    rw[ih g g']
structure Kn where
 f:Nat
 lp:Bool
structure Gb where
 nx:Int→Option Nat
 pl:Int→Option Int
 path:List Int
 op:List Int
 kn:List Kn
 fd:Bool
 ls:Int
def Zm{α:Type}(f:Int→Option α)(k:Int)(v:α):Int→Option α:=fun x=>if x=k then some v else f x
theorem Y9{α:Type}(f:Int→Option α)(k:Int)(v:α):Zm f k v k=some v:=if_pos rfl
theorem Y8{α:Type}(f:Int→Option α){k x:Int}(v:α)(h:x≠k):Zm f k v x=f x:=if_neg h
def Vw(E:List (Int × Int))(v:Int):Nat:=(E.takeWhile fun e=>decide (e.1<v)).length
theorem Z7b{α:Type}(p:α→Bool):∀(l:List α),(l.takeWhile p).length≤l.length
 | []=>Nat.le_refl _
 | a::l=>by
  rw[List.takeWhile_cons]
  split
  ·simpa using Z7b p l
  ·simp
theorem Z1l(E:List (Int × Int))(v:Int):Vw E v≤E.length:=Z7b _ E
theorem U4:∀ {E:List (Int × Int)} {v:Int} {i:Nat} {e:Int × Int},i<Vw E v→E[i]?=some e→e.1<v
 | [],v,i,e,_,h=>by simp at h
 | a::E,v,i,e,hi,h=>by
  unfold Vw at hi
  rw[List.takeWhile_cons] at hi
  split at hi
  ·rename_i q
   cases i with
   | zero=>simp at h;subst h;simpa using q
   | succ i=>exact U4 (E:=E) (by unfold Vw;simpa using hi) (by simpa using h)
  ·simp at hi
theorem Z3q:∀ {E:List (Int × Int)} (_:Zj E) {v:Int} {i:Nat} {e:Int × Int},Vw E v≤i→E[i]?=some e→v≤e.1
 | [],_,v,i,e,_,h=>by simp at h
 | a::E,hs,v,i,e,hi,h=>by
  have hs':=List.pairwise_cons.1 hs
  unfold Vw at hi
  rw[List.takeWhile_cons] at hi
  split at hi
  ·rename_i q
   cases i with
   | zero=>simp at hi
   | succ i=>exact Z3q (E:=E) hs'.2 (by unfold Vw;simpa using hi) (by simpa using h)
  ·rename_i q
   have q':v≤a.1:=by simpa using q
   cases i with
   | zero=>simp at h;subst h;exact q'
   | succ i =>
    have:e∈E:=List.mem_of_getElem? (by simpa using h)
    have:=hs'.1 e this
    unfold Yy at this
    omega
theorem Z9r{E:List (Int × Int)}(hs:Zj E){v:Int}{i:Nat}{e:Int × Int}(h:E[i]?=some e)(he:e.1=v):Vw E v≤i :=
 Nat.le_of_not_lt fun q=>by have:=U4 q h;omega
def ExG(E:List (Int × Int))(s:Gb)(v w:Int):Prop:=∃i m,E[i]?=some (v,w)∧s.nx v=some m∧i<m
structure GI(E:List (Int × Int))(s:Gb)(Y:Int→Int→Prop):Prop where
 inc:s.kn.Pairwise fun a b=>a.f<b.f
 bnd:∀k∈s.kn,k.f<s.op.length
 zer:s.op≠[]→∃k∈s.kn,k.f=0
 nd:s.op.Nodup
 at':∀v (i:Nat),s.pl v=some (i:Int)↔s.op[i]?=some v
 cl:∀v p,s.pl v=some p→p = -1∨0≤p
 nxn:∀v,s.nx v=none↔s.pl v=none
 lo:∀v m,s.nx v=some m→Vw E v≤m∧m≤E.length
 fw:∀(i j:Nat) a b,i<j→s.op[i]?=some a→s.op[j]?=some b→Ya E a b
 bk:∀(i j:Nat) a b,i<j→s.op[i]?=some a→s.op[j]?=some b→(∀k∈s.kn,¬(i<k.f∧k.f≤j))→Ya E b a
 lp:∀k∈s.kn,k.lp=true→∀a,s.op[k.f]?=some a→Ya E a a
 nl:∀k∈s.kn,k.lp=false→k.f+1=s.op.length∨∃k'∈s.kn,k'.f=k.f+1
 vis:∀v w,ExG E s v w→Y v w→s.pl w≠none
 cc:∀v w,ExG E s v w→s.pl v=some (-1)→s.pl w=some (-1)
 oo:∀v w (i j:Nat),ExG E s v w→Y v w→s.op[i]?=some v→s.op[j]?=some w→j≤i→∃k∈s.kn,k.lp=true∧k.f≤j∧∀k'∈s.kn,¬(k.f<k'.f∧k'.f≤i)
 sub:s.path.Sublist s.op
 fst:∀k∈s.kn,∃a,s.op[k.f]?=some a∧a∈s.path
 ful:∀v,s.pl v≠none→v∉s.path→∀w,(v,w)∈E→ExG E s v w
 res:s.fd=true→Ya E s.ls s.ls
 all:∀v,s.pl v=some (-1)→Ya E v v→s.fd=true∧s.ls≤v
abbrev Ui(E:List (Int × Int))(s:Gb):Prop:=GI E s fun _ _=>True
def Z0e:Gb:=⟨fun _=>none,fun _=>none,[],[],[],false,0⟩
theorem Z5i(E:List (Int × Int)):Ui E Z0e:=by
 refine⟨List.Pairwise.nil,?_,?_,List.Pairwise.nil,?_,?_,?_,?_,?_,?_,?_,?_,?_,?_,?_,List.Sublist.refl _,?_,?_,?_,?_⟩<;>simp[Z0e,ExG]
theorem V6{l:List Int}(h:l.Nodup){i j:Nat}{a:Int}(hi:l[i]?=some a)(hj:l[j]?=some a):i=j :=
 (List.getElem?_inj (List.getElem?_eq_some_iff.1 hi).1 h).1 (hi.trans hj.symm)
theorem Z76{p A B:List Int}{t:Int}(h:(p++[t]).Sublist (A++t::B))(hA:t∉A)(hB:t∉B):p.Sublist A:=by
 obtain⟨l1,l2,e,h1,h2⟩:=List.sublist_append_iff.1 h
 rcases List.eq_nil_or_concat l2 with rfl | ⟨l2',y,rfl⟩
 ·rw[List.append_nil] at e
  subst e
  exact absurd (h1.subset (by simp)) hA
 ·rw[List.concat_eq_append,←List.append_assoc] at e
  obtain⟨e1,e2⟩:=List.append_inj' e rfl
  obtain rfl:t=y:=by simpa using e2
  subst e1
  have h2':l2'=[]:=by
   cases l2' with
   | nil=>rfl
   | cons z r =>
    have h3:(z::(r++[t])).Sublist (t::B):=by simpa using h2
    have:(r++[t]).Sublist B:=by
     cases h3 with
     | cons _ h=>exact(List.sublist_cons_self _ _).trans h
     | cons_cons _ h=>exact h
    exact absurd (this.subset (by simp)) hB
  subst h2'
  simpa using h1
section
variable {E:List (Int × Int)} {s:Gb} {Y:Int→Int→Prop} {p:List Int} {t:Int}
theorem GI.split(g:GI E s Y)(hp:s.path=p++[t]):∃A B,s.op=A++t::B∧t∉A∧t∉B∧p.Sublist A:=by
 have hs:=g.sub
 rw[hp] at hs
 have ht:t∈s.op:=hs.subset (by simp)
 obtain⟨A,B,e⟩:=List.append_of_mem ht
 have hn:=g.nd
 rw[e] at hn hs
 have hn2:=List.nodup_append.1 hn
 have hA:t∉A:=fun q=>hn2.2.2 t q t (by simp) rfl
 have hB:t∉B:=(List.nodup_cons.1 hn2.2.1).1
 exact⟨A,B,e,hA,hB,Z76 hs hA hB⟩
theorem GI.last(g:GI E s Y)(hp:s.path=p++[t]){i j:Nat}{x:Int}(hx:x∈s.path)(hi:s.op[i]?=some t)(hj:s.op[j]?=some x):j≤i:=by
 obtain⟨A,B,e,hA,hB,hs⟩:=g.split hp
 have h1:i=A.length:=V6 g.nd hi (by rw[e];simp)
 rw[hp] at hx
 rcases List.mem_append.1 hx with q | q
 ·obtain⟨k,hk,ek⟩:=List.getElem_of_mem (hs.subset q)
  have:j=k:=V6 g.nd hj (by rw[e,List.getElem?_append_left hk,List.getElem?_eq_getElem hk,ek])
  omega
 ·obtain rfl:x=t:=by simpa using q
  exact Nat.le_of_eq (V6 g.nd hj hi)
theorem GI.tpos(g:GI E s Y)(hp:s.path=p++[t]):∃i:Nat,s.op[i]?=some t∧s.pl t=some (i:Int)∧∀k∈s.kn,k.f≤i:=by
 obtain⟨A,B,e,hA,hB,hs⟩:=g.split hp
 have h1:s.op[A.length]?=some t:=by rw[e];simp
 refine⟨A.length,h1,(g.at' t _).2 h1,fun k hk=>?_⟩
 obtain⟨a,ha,hm⟩:=g.fst k hk
 exact g.last hp hm h1 ha
theorem GI.toEnd(g:GI E s Y)(hp:s.path=p++[t]){i:Nat}{a:Int}(hi:s.op[i]?=some a):a=t∨Ya E a t:=by
 obtain⟨it,h1,_,h3⟩:=g.tpos hp
 rcases Nat.lt_trichotomy i it with q | q | q
 ·exact .inr (g.fw i it a t q hi h1)
 ·subst q
  exact .inl (Option.some.inj (hi.symm.trans h1))
 ·exact .inr (g.bk it i t a q h1 hi fun k hk h=>by have:=h3 k hk;omega)
def Y3(s:Gb)(t:Int)(i:Nat):Gb:={ s with nx:=Zm s.nx t (i+1) }
theorem Z3g{i:Nat}{u:Int}(hn:s.nx t=some i)(he:E[i]?=some (t,u))(hs:Zj E){v w:Int}(h:ExG E (Y3 s t i) v w):ExG E s v w∨(v=t∧w=u):=by
 obtain⟨j,m,h1,h2,h3⟩:=h
 by_cases q:v=t
 ·subst q
  have:m=i+1:=by simpa [Y3,Zm] using h2.symm
  subst this
  by_cases r:j=i
  ·subst r
   rw[he] at h1
   injection h1 with h1
   injection h1 with _ h1
   exact .inr ⟨rfl,h1.symm⟩
  ·exact .inl ⟨j,i,h1,hn,by omega⟩
 ·exact .inl ⟨j,m,h1,by simpa [Y3,Zm,q] using h2,h3⟩
theorem Z9b{i:Nat}(hn:s.nx t=some i){v w:Int}(h:ExG E s v w):ExG E (Y3 s t i) v w:=by
 obtain⟨j,m,h1,h2,h3⟩:=h
 by_cases q:v=t
 ·subst q
  have:m=i:=Option.some.inj (h2.symm.trans hn)
  subst this
  exact⟨j,m+1,h1,by simp[Y3,Zm],by omega⟩
 ·exact⟨j,m,h1,by simpa [Y3,Zm,q] using h2,h3⟩
theorem GI.inc1(g:Ui E s)(hs:Zj E){i:Nat}{u:Int}(hn:s.nx t=some i)(he:E[i]?=some (t,u))(ht:s.pl t≠some (-1)):GI E (Y3 s t i) fun v w=>¬(v=t∧w=u):=by
 have hl:=(List.getElem?_eq_some_iff.1 he).1
 refine⟨g.inc,g.bnd,g.zer,g.nd,g.at',g.cl,fun v=>?_,fun v m hv=>?_,g.fw,g.bk,g.lp,g.nl,fun v w h y=>?_,fun v w h y=>?_,fun v w a b h y=>?_,g.sub,g.fst,fun v h1 h2 w h3=>Z9b hn (g.ful v h1 h2 w h3),g.res,g.all⟩
 ·show Zm s.nx t (i+1) v=none↔s.pl v=none
  rw[←g.nxn v]
  by_cases q:v=t
  ·subst q;simp[Zm,hn]
  ·simp[Zm,q]
 ·by_cases q:v=t
  ·subst q
   have:m=i+1:=by simpa [Y3,Zm] using hv.symm
   subst this
   exact⟨Nat.le_succ_of_le (g.lo v i hn).1,hl⟩
  ·exact g.lo v m (by simpa [Y3,Zm,q] using hv)
 ·exact g.vis v w ((Z3g hn he hs h).resolve_right y) trivial
 ·exact g.cc v w ((Z3g hn he hs h).resolve_right fun k=>ht (k.1▸y)) y
 ·exact g.oo v w a b ((Z3g hn he hs h).resolve_right y) trivial
def Zx(E:List (Int × Int))(s:Gb)(u:Int):Gb:={ s with nx:=Zm s.nx u (Vw E u),pl:=Zm s.pl u (s.op.length:Int),path:=s.path++[u],op:=s.op++[u],kn:=s.kn++[⟨s.op.length,false⟩] }
theorem Vl{l:List Int}{u a:Int}{i:Nat}(h:(l++[u])[i]?=some a):l[i]?=some a∨(i=l.length∧a=u):=by
 by_cases q:i<l.length
 ·rw[List.getElem?_append_left q] at h
  exact .inl h
 ·have hl:=(List.getElem?_eq_some_iff.1 h).1
  simp only[List.length_append,List.length_singleton] at hl
  have e:i=l.length:=by omega
  subst e
  simp at h
  exact .inr ⟨rfl,h.symm⟩
theorem Z8n{l:List Int}{u a:Int}{i:Nat}(h:l[i]?=some a):(l++[u])[i]?=some a:=by
 rw[List.getElem?_append_left (List.getElem?_eq_some_iff.1 h).1]
 exact h
theorem Z1d{u:Int}(hs:Zj E)(hu:s.nx u=none){v w:Int}:ExG E (Zx E s u) v w↔ExG E s v w:=by
 constructor
 ·rintro⟨j,m,h1,h2,h3⟩
  by_cases q:v=u
  ·subst q
   have:m=Vw E v:=by simpa [Zx,Zm] using h2.symm
   subst this
   have:=U4 h3 h1
   simp at this
  ·exact⟨j,m,h1,by simpa [Zx,Zm,q] using h2,h3⟩
 ·rintro⟨j,m,h1,h2,h3⟩
  have q:v≠u:=fun e=>by subst e;rw[hu] at h2;cases h2
  exact⟨j,m,h1,by simpa [Zx,Zm,q] using h2,h3⟩
theorem GI.new(g:GI E s Y)(hs:Zj E){u:Int}(hu:s.pl u=none)(hy:∀v w,¬Y v w→w=u∧∃p,s.path=p++[v])(hr:∀(i:Nat) a,s.op[i]?=some a→Ya E a u):Ui E (Zx E s u):=by
 have hun:s.nx u=none:=(g.nxn u).2 hu
 have huo:u∉s.op:=fun q=>by
  obtain⟨i,hi,e⟩:=List.getElem_of_mem q
  have:=(g.at' u i).2 (by rw[List.getElem?_eq_getElem hi,e])
  rw[hu] at this;cases this
 have hlt:∀k∈s.kn,k.f<s.op.length:=g.bnd
 have hmem:∀k,k∈s.kn++[(⟨s.op.length,false⟩:Kn)]↔k∈s.kn∨k=⟨s.op.length,false⟩:=fun k=>by simp
 have hpl:∀v,v≠u→(Zx E s u).pl v=s.pl v:=fun v q=>Y8 _ _ q
 refine⟨?_,?_,?_,?_,?_,?_,?_,?_,?_,?_,?_,?_,?_,?_,?_,?_,?_,?_,g.res,?_⟩
 ·refine List.pairwise_append.2 ⟨g.inc,by simp,fun a ha b hb=>?_⟩
  rw[List.mem_singleton.1 hb]
  exact hlt a ha
 ·intro k hk
  show k.f<(s.op++[u]).length
  rw[List.length_append,List.length_singleton]
  rcases(hmem k).1 hk with q | rfl
  ·have:=hlt k q;omega
  ·exact Nat.lt_succ_self _
 ·intro _
  by_cases q:s.op=[]
  ·exact⟨⟨s.op.length,false⟩,(hmem _).2 (.inr rfl),by rw[q];rfl⟩
  ·obtain⟨k,hk,e⟩:=g.zer q
   exact⟨k,(hmem _).2 (.inl hk),e⟩
 ·exact List.nodup_append.2 ⟨g.nd,by simp,fun a ha b hb e=>by rw[List.mem_singleton.1 hb] at e;subst e;exact huo ha⟩
 ·intro v i
  show Zm s.pl u _ v=_↔(s.op++[u])[i]?=some v
  by_cases q:v=u
  ·subst q
   rw[Y9]
   constructor
   ·intro h
    have:i=s.op.length:=by injection h with h;omega
    subst this
    simp
   ·intro h
    rcases Vl h with q | ⟨rfl,_⟩
    ·exact absurd (List.mem_of_getElem? q) huo
    ·rfl
  ·rw[Y8 _ _ q,g.at' v i]
   exact⟨Z8n,fun h=>(Vl h).resolve_right fun k=>q k.2⟩
 ·intro v p h
  by_cases q:v=u
  ·subst q
   have:p=(s.op.length:Int):=by simpa [Zx,Zm] using h.symm
   omega
  ·exact g.cl v p ((hpl v q).symm.trans h)
 ·intro v
  by_cases q:v=u
  ·subst q;simp[Zx,Zm]
  ·simpa [Zx,Zm,q] using g.nxn v
 ·intro v m h
  by_cases q:v=u
  ·subst q
   have:m=Vw E v:=by simpa [Zx,Zm] using h.symm
   subst this
   exact⟨Nat.le_refl _,Z1l _ _⟩
  ·exact g.lo v m (by simpa [Zx,Zm,q] using h)
 ·intro i j a b hij ha hb
  rcases Vl ha with ha' | ⟨rfl,rfl⟩
  ·rcases Vl hb with hb' | ⟨rfl,rfl⟩
   ·exact g.fw i j a b hij ha' hb'
   ·exact hr i a ha'
  ·have:=(List.getElem?_eq_some_iff.1 hb).1
   simp[Zx] at this
   omega
 ·intro i j a b hij ha hb hk
  rcases Vl ha with ha' | ⟨rfl,rfl⟩
  ·rcases Vl hb with hb' | ⟨rfl,rfl⟩
   ·exact g.bk i j a b hij ha' hb' fun k h=>hk k ((hmem k).2 (.inl h))
   ·exact absurd ⟨hij,Nat.le_refl _⟩ (hk ⟨s.op.length,false⟩ ((hmem _).2 (.inr rfl)))
  ·have:=(List.getElem?_eq_some_iff.1 hb).1
   simp[Zx] at this
   omega
 ·intro k hk hl a ha
  rcases(hmem k).1 hk with q | rfl
  ·rcases Vl ha with ha' | ⟨e,_⟩
   ·exact g.lp k q hl a ha'
   ·have:=hlt k q;omega
  ·cases hl
 ·intro k hk hl
  rcases(hmem k).1 hk with q | rfl
  ·rcases g.nl k q hl with h | ⟨k',h1,h2⟩
   ·exact .inr ⟨⟨s.op.length,false⟩,(hmem _).2 (.inr rfl),h.symm⟩
   ·exact .inr ⟨k',(hmem _).2 (.inl h1),h2⟩
  ·exact .inl (by simp[Zx])
 ·intro v w h _
  by_cases q:w=u
  ·subst q;simp[Zx,Zm]
  ·rw[hpl w q]
   have h':=(Z1d hs hun).1 h
   by_cases y:Y v w
   ·exact g.vis v w h' y
   ·exact absurd (hy v w y).1 q
 ·intro v w h hv
  have h':=(Z1d hs hun).1 h
  by_cases q:v=u
  ·subst q
   have:((s.op.length:Nat):Int) = -1:=Option.some.inj ((Y9 s.pl v _).symm.trans hv)
   omega
  ·have hw:=g.cc v w h' ((hpl v q).symm.trans hv)
   have q2:w≠u:=fun e=>by rw[e,hu] at hw;cases hw
   rw[hpl w q2];exact hw
 ·intro v w i j h _ hi hj hji
  have h':=(Z1d hs hun).1 h
  have hv:v≠u:=fun e=>by
   obtain⟨_,m,_,h2,_⟩:=h'
   rw[e,hun] at h2;cases h2
  have hi':=(Vl hi).resolve_right fun k=>hv k.2
  have hil:=(List.getElem?_eq_some_iff.1 hi').1
  have hj':s.op[j]?=some w:=(Vl hj).resolve_right fun k=>by omega
  by_cases y:Y v w
  ·obtain⟨k,k1,k2,k3,k4⟩:=g.oo v w i j h' y hi' hj' hji
   refine⟨k,(hmem _).2 (.inl k1),k2,k3,fun k' h'=>?_⟩
   rcases(hmem k').1 h' with q | rfl
   ·exact k4 k' q
   ·show ¬(_∧s.op.length≤i)
    omega
  ·have hw:=(hy v w y).1
   subst hw
   exact absurd (List.mem_of_getElem? hj') huo
 ·exact List.Sublist.append g.sub (List.Sublist.refl _)
 ·intro k hk
  rcases(hmem k).1 hk with q | rfl
  ·obtain⟨a,h1,h2⟩:=g.fst k q
   exact⟨a,Z8n h1,List.mem_append_left _ h2⟩
  ·exact⟨u,by simp[Zx],by simp[Zx]⟩
 ·intro v h1 h2 w h3
  have q:v≠u:=fun e=>h2 (by rw[e];simp[Zx])
  exact(Z1d hs hun).2 (g.ful v (by rwa [←hpl v q]) (fun k=>h2 (List.mem_append_left _ k)) w h3)
 ·intro v h1 h2
  have q:v≠u:=fun e=>by
   rw[e] at h1
   have:((s.op.length:Nat):Int) = -1:=Option.some.inj ((Y9 s.pl u _).symm.trans h1)
   omega
  exact g.all v ((hpl v q).symm.trans h1) h2
theorem GI.shut(g:GI E s Y){u:Int}(hu:s.pl u=some (-1))(hy:∀v w,¬Y v w→w=u):Ui E s:=by
 have hno:∀(j:Nat),s.op[j]?≠some u:=fun j h=>by
  have:=(g.at' u j).2 h
  rw[hu] at this
  injection this with this
  omega
 refine⟨g.inc,g.bnd,g.zer,g.nd,g.at',g.cl,g.nxn,g.lo,g.fw,g.bk,g.lp,g.nl,fun v w h _=>?_,g.cc,fun v w i j h _ hi hj hji=>?_,g.sub,g.fst,g.ful,g.res,g.all⟩
 ·by_cases y:Y v w
  ·exact g.vis v w h y
  ·rw[hy v w y,hu];simp
 ·by_cases y:Y v w
  ·exact g.oo v w i j h y hi hj hji
  ·exact absurd (hy v w y▸hj) (hno j)
def Ug(s:Gb)(K:List Kn)(k0:Kn):Gb:={ s with kn:=K++[⟨k0.f,true⟩] }
theorem GI.cut(g:GI E s Y){p:Nat}(hp:p<s.op.length):∃K k0 K',s.kn=K++k0::K'∧k0.f≤p∧∀k∈K',p<k.f:=by
 have:∀(l:List Kn),(l.Pairwise fun a b=>a.f<b.f)→(∃k∈l,k.f≤p)→∃K k0 K',l=K++k0::K'∧k0.f≤p∧∀k∈K',p<k.f:=by
  intro l
  induction l with
  | nil=>rintro _ ⟨k,hk,_⟩;cases hk
  | cons a t ih =>
   intro hi hx
   have hi':=List.pairwise_cons.1 hi
   by_cases q:∃k∈t,k.f≤p
   ·obtain⟨K,k0,K',rfl,h2,h3⟩:=ih hi'.2 q
    exact⟨a::K,k0,K',rfl,h2,h3⟩
   ·have q':∀k∈t,p<k.f:=fun k hk=>Nat.lt_of_not_le fun h=>q ⟨k,hk,h⟩
    obtain⟨k,hk,h⟩:=hx
    rcases List.mem_cons.1 hk with e | e
    ·subst e
     exact⟨[],k,t,rfl,h,q'⟩
    ·have:=q' k e;omega
 obtain⟨k,hk,e⟩:=g.zer (fun h=>by rw[h] at hp;cases hp)
 exact this s.kn g.inc ⟨k,hk,by omega⟩
theorem GI.tie(g:GI E s Y){q:List Int}(hpa:s.path=q++[t]){u:Int}{p:Nat}(hu:s.op[p]?=some u)(he:(t,u)∈E)(hy:∀v w,¬Y v w→v=t∧w=u){K K':List Kn}{k0:Kn}(hk:s.kn=K++k0::K')(h0:k0.f≤p)(h1:∀k∈K',p<k.f):Ui E (Ug s K k0):=by
 obtain⟨it,ht1,ht2,ht3⟩:=g.tpos hpa
 have hinc:=g.inc
 rw[hk,List.pairwise_append] at hinc
 obtain⟨i1,i2,i3⟩:=hinc
 have i2':=List.pairwise_cons.1 i2
 have hK0:∀k∈K,k.f<k0.f:=fun k h=>i3 k h k0 (by simp)
 have hm:∀k,k∈s.kn↔k∈K∨k=k0∨k∈K':=fun k=>by rw[hk];simp
 have hm':∀k,k∈(Ug s K k0).kn↔k∈K∨k=⟨k0.f,true⟩:=fun k=>by simp[Ug]
 have hk0:k0∈s.kn:=(hm k0).2 (.inr (.inl rfl))
 have hmax:∀k∈(Ug s K k0).kn,k.f≤k0.f:=fun k h=>by
  rcases(hm' k).1 h with h | rfl
  ·exact Nat.le_of_lt (hK0 k h)
  ·exact Nat.le_refl _
 have htoU:∀(j:Nat) b,s.op[j]?=some b→Ya E b u:=fun j b hb=>by
  rcases g.toEnd hpa hb with e | e
  ·rw[e];exact .single he
  ·exact .tail e he
 have hpl:=(List.getElem?_eq_some_iff.1 hu).1
 have hback:∀(i j:Nat) a b,i<j→s.op[i]?=some a→s.op[j]?=some b→(∀k∈(Ug s K k0).kn,¬(i<k.f∧k.f≤j))→Ya E b a:=by
  intro i j a b hij ha hb hno
  by_cases c:∃k∈s.kn,i<k.f∧k.f≤j
  ·obtain⟨k,hks,c1,c2⟩:=c
   rcases(hm k).1 hks with h | rfl | h
   ·exact absurd ⟨c1,c2⟩ (hno k ((hm' k).2 (.inl h)))
   ·exact absurd ⟨c1,c2⟩ (hno ⟨k.f,true⟩ ((hm' _).2 (.inr rfl)))
   ·have hpk:=h1 k h
    have r:=htoU j b hb
    rcases Nat.lt_trichotomy i p with x | x | x
    ·refine Relation.TransGen.trans r (g.bk i p a u x ha hu fun k' hk'=>?_)
     rintro⟨d1,d2⟩
     rcases(hm k').1 hk' with h | rfl | h
     ·exact hno k' ((hm' k').2 (.inl h)) ⟨d1,by omega⟩
     ·exact hno ⟨k'.f,true⟩ ((hm' _).2 (.inr rfl)) ⟨d1,show k'.f≤j by omega⟩
     ·have:=h1 k' h;omega
    ·subst x
     obtain rfl:a=u:=Option.some.inj (ha.symm.trans hu)
     exact r
    ·exact Relation.TransGen.trans r (g.fw p i u a x hu ha)
  ·exact g.bk i j a b hij ha hb fun k hk h=>c ⟨k,hk,h⟩
 refine⟨?_,?_,?_,g.nd,g.at',g.cl,g.nxn,g.lo,g.fw,hback,?_,?_,?_,g.cc,?_,g.sub,?_,g.ful,g.res,g.all⟩
 ·refine List.pairwise_append.2 ⟨i1,by simp,fun a ha b hb=>?_⟩
  rw[List.mem_singleton.1 hb]
  exact hK0 a ha
 ·intro k h
  rcases(hm' k).1 h with h | rfl
  ·exact g.bnd k ((hm k).2 (.inl h))
  ·exact g.bnd k0 hk0
 ·intro h
  obtain⟨k,h1',h2'⟩:=g.zer h
  rcases(hm k).1 h1' with h | rfl | h
  ·exact⟨k,(hm' k).2 (.inl h),h2'⟩
  ·exact⟨⟨k.f,true⟩,(hm' _).2 (.inr rfl),h2'⟩
  ·have:=h1 k h;omega
 ·intro k h hl a ha
  rcases(hm' k).1 h with h | rfl
  ·exact g.lp k ((hm k).2 (.inl h)) hl a ha
  ·have ha':s.op[k0.f]?=some a:=ha
   have r:=htoU k0.f a ha'
   rcases Nat.lt_or_eq_of_le h0 with x | x
   ·refine Relation.TransGen.trans r (g.bk k0.f p a u x ha' hu fun k' hk'=>?_)
    rintro⟨d1,d2⟩
    rcases(hm k').1 hk' with h | rfl | h
    ·have:=hK0 k' h;omega
    ·omega
    ·have:=h1 k' h;omega
   ·rw[x] at ha'
    obtain rfl:a=u:=Option.some.inj (ha'.symm.trans hu)
    exact r
 ·intro k h hl
  rcases(hm' k).1 h with h | rfl
  ·have b0:=g.bnd k0 hk0
   have hlt:=hK0 k h
   rcases g.nl k ((hm k).2 (.inl h)) hl with x | ⟨k',x1,x2⟩
   ·omega
   ·rcases(hm k').1 x1 with y | rfl | y
    ·exact .inr ⟨k',(hm' _).2 (.inl y),x2⟩
    ·exact .inr ⟨⟨k'.f,true⟩,(hm' _).2 (.inr rfl),x2⟩
    ·have:=h1 k' y;omega
  ·cases hl
 ·intro v w h _
  by_cases y:Y v w
  ·exact g.vis v w h y
  ·rw[(hy v w y).2]
   show s.pl u≠none
   rw[(g.at' u p).2 hu];simp
 ·intro v w i j h _ hi hj hji
  by_cases y:Y v w
  ·obtain⟨k,k1,k2,k3,k4⟩:=g.oo v w i j h y hi hj hji
   rcases(hm k).1 k1 with x | rfl | x
   ·refine⟨k,(hm' _).2 (.inl x),k2,k3,fun k' hk'=>?_⟩
    rcases(hm' k').1 hk' with z | rfl
    ·exact k4 k' ((hm k').2 (.inl z))
    ·exact k4 k0 hk0
   ·exact⟨⟨k.f,true⟩,(hm' _).2 (.inr rfl),rfl,k3,fun k' hk'=>by have:=hmax k' hk';show ¬(k.f<k'.f∧_);omega⟩
   ·have hx:=h1 k x
    exact⟨⟨k0.f,true⟩,(hm' _).2 (.inr rfl),rfl,show k0.f≤j by omega,fun k' hk'=>by have:=hmax k' hk';show ¬(k0.f<k'.f∧_);omega⟩
  ·obtain⟨rfl,rfl⟩:=hy v w y
   have e1:j=p:=V6 g.nd hj hu
   subst e1
   exact⟨⟨k0.f,true⟩,(hm' _).2 (.inr rfl),rfl,h0,fun k' hk'=>by have:=hmax k' hk';show ¬(k0.f<k'.f∧_);omega⟩
 ·intro k h
  rcases(hm' k).1 h with h | rfl
  ·exact g.fst k ((hm k).2 (.inl h))
  ·exact g.fst k0 hk0
def Zu(s:Gb)(p:List Int):Gb:={ s with path:=p }
theorem GI.back(g:Ui E s)(hp:s.path=p++[t])(hf:∀w,(t,w)∈E→ExG E s t w){it:Nat}(ht:s.op[it]?=some t)(hn:∀k∈s.kn,k.f≠it):Ui E (Zu s p):=by
 refine⟨g.inc,g.bnd,g.zer,g.nd,g.at',g.cl,g.nxn,g.lo,g.fw,g.bk,g.lp,g.nl,g.vis,g.cc,g.oo,?_,fun k hk=>?_,fun v h1 h2 w h3=>?_,g.res,g.all⟩
 ·have:=g.sub
  rw[hp] at this
  exact(List.sublist_append_left p [t]).trans this
 ·obtain⟨a,h1,h2⟩:=g.fst k hk
  rw[hp] at h2
  rcases List.mem_append.1 h2 with q | q
  ·exact⟨a,h1,q⟩
  ·rw[List.mem_singleton.1 q] at h1
   exact absurd (V6 g.nd h1 ht) (hn k hk)
 ·by_cases q:v=t
  ·subst q;exact hf w h3
  ·exact g.ful v h1 (fun k=>by
    rw[hp] at k
    rcases List.mem_append.1 k with x | x
    ·exact h2 x
    ·exact q (List.mem_singleton.1 x)) w h3
def Zh(s:Gb)(b:Bool)(m:Int):Gb:=if b=true∧(s.fd=false∨m<s.ls)then { s with fd:=true,ls:=m } else s
theorem U0(s:Gb)(b:Bool)(m:Int):(Zh s b m).nx=s.nx∧(Zh s b m).pl=s.pl∧(Zh s b m).path=s.path∧(Zh s b m).op=s.op∧(Zh s b m).kn=s.kn:=by
 unfold Zh
 split<;>exact⟨rfl,rfl,rfl,rfl,rfl⟩
def Zp(s:Gb)(p:List Int)(K:List Kn)(k0:Kn)(m:Int):Gb :=
 { nx:=s.nx,pl:=fun x=>if x∈s.op.drop k0.f then some (-1)else s.pl x,path:=p,op:=s.op.take k0.f,kn:=K,fd:=(Zh s k0.lp m).fd,ls:=(Zh s k0.lp m).ls }
theorem Z6i{b:Bool}{m:Int}(h:s.fd=true→Ya E s.ls s.ls)(hm:b=true→Ya E m m):(Zh s b m).fd=true→Ya E (Zh s b m).ls (Zh s b m).ls:=by
 unfold Zh
 split
 ·rename_i c
  exact fun _=>hm c.1
 ·exact h
theorem Z82{b:Bool}{m v:Int}(h:s.fd=true∧s.ls≤v):(Zh s b m).fd=true∧(Zh s b m).ls≤v:=by
 unfold Zh
 split
 ·rename_i c
  refine⟨rfl,?_⟩
  rcases c.2 with x | x
  ·rw[h.1] at x;cases x
  ·have:=h.2
   show m≤v
   omega
 ·exact h
theorem Z9h{b:Bool}{m v:Int}(hb:b=true)(hm:m≤v):(Zh s b m).fd=true∧(Zh s b m).ls≤v:=by
 unfold Zh
 split
 ·exact⟨rfl,hm⟩
 ·rename_i c
  have c1:¬(s.fd=false∨m<s.ls):=fun x=>c ⟨hb,x⟩
  refine⟨?_,?_⟩
  ·cases h:s.fd with
   | true=>rfl
   | false=>exact absurd (.inl h) c1
  ·have:¬m<s.ls:=fun x=>c1 (.inr x)
   omega
theorem GI.close(g:Ui E s)(hp:s.path=p++[t])(hf:∀w,(t,w)∈E→ExG E s t w){K:List Kn}{k0:Kn}(hk:s.kn=K++[k0])(ht:s.op[k0.f]?=some t){m:Int}(hm:m∈s.op.drop k0.f)(hmm:∀x∈s.op.drop k0.f,m≤x):Ui E (Zp s p K k0 m):=by
 obtain⟨A,B,e,hA,hB,hs⟩:=g.split hp
 have hAl:A.length=k0.f:=V6 g.nd (by rw[e];simp) ht
 have hTake:s.op.take k0.f=A:=by rw[e,←hAl];simp
 have hDrop:s.op.drop k0.f=t::B:=by rw[e,←hAl];simp
 have hinc:=g.inc
 rw[hk,List.pairwise_append] at hinc
 obtain⟨i1,_,i3⟩:=hinc
 have hK0:∀k∈K,k.f<k0.f:=fun k h=>i3 k h k0 (by simp)
 have hmk:∀k,k∈s.kn↔k∈K∨k=k0:=fun k=>by rw[hk];simp
 have hk0:k0∈s.kn:=(hmk k0).2 (.inr rfl)
 have hdp:∀x,x∈s.op.drop k0.f↔∃j,k0.f≤j∧s.op[j]?=some x:=fun x=>by
  rw[List.mem_iff_getElem?]
  constructor
  ·rintro⟨j,hj⟩
   rw[List.getElem?_drop] at hj
   exact⟨k0.f+j,Nat.le_add_right _ _,hj⟩
  ·rintro⟨j,h1,h2⟩
   refine⟨j-k0.f,?_⟩
   rw[List.getElem?_drop,show k0.f+(j-k0.f)=j by omega]
   exact h2
 have htk:∀(j:Nat) x,(s.op.take k0.f)[j]?=some x↔j<k0.f∧s.op[j]?=some x:=fun j x=>by
  rw[List.getElem?_take]
  split
  ·rename_i c;exact⟨fun h=>⟨c,h⟩,fun h=>h.2⟩
  ·rename_i c;exact⟨fun h=>(by cases h),fun h=>absurd h.1 c⟩
 have hpl:∀x,(Zp s p K k0 m).pl x=if x∈s.op.drop k0.f then some (-1)else s.pl x:=fun _=>rfl
 have hpin:∀x,x∈s.op.drop k0.f→(Zp s p K k0 m).pl x=some (-1):=fun x h=>if_pos h
 have hpout:∀x,x∉s.op.drop k0.f→(Zp s p K k0 m).pl x=s.pl x:=fun x h=>if_neg h
 have hvisi:∀x,(Zp s p K k0 m).pl x=none↔s.pl x=none:=fun x=>by
  by_cases c:x∈s.op.drop k0.f
  ·rw[hpin x c]
   obtain⟨j,_,h2⟩:=(hdp x).1 c
   rw[(g.at' x j).2 h2];simp
  ·rw[hpout x c]
 have hex:∀v w,ExG E (Zp s p K k0 m) v w↔ExG E s v w:=fun _ _=>Iff.rfl
 have hcl:∀v w,v∈s.op.drop k0.f→(v,w)∈E→(w∈s.op.drop k0.f∨s.pl w=some (-1)):=by
  intro v w hv hw
  obtain⟨j,h1,h2⟩:=(hdp v).1 hv
  have hx:ExG E s v w:=by
   by_cases q:v=t
   ·subst q;exact hf w hw
   ·refine g.ful v (by rw[(g.at' v j).2 h2];simp) (fun k=>?_) w hw
    have h3:=g.last hp k ht h2
    have:j=k0.f:=by omega
    subst this
    exact q (Option.some.inj (h2.symm.trans ht))
  have hvw:=g.vis v w hx trivial
  cases hq:s.pl w with
  | none=>exact absurd hq hvw
  | some pw =>
   rcases g.cl w pw hq with x | x
   ·exact .inr (by rw[x])
   ·obtain⟨jw,rfl⟩:=Int.eq_ofNat_of_zero_le x
    have h4:=(g.at' w jw).1 hq
    refine .inl ((hdp w).2 ⟨jw,?_,h4⟩)
    rcases Nat.lt_or_ge j jw with y | y
    ·omega
    ·obtain⟨k,k1,_,k3,k4⟩:=g.oo v w j jw hx trivial h2 h4 y
     have:=k4 k0 hk0
     rcases(hmk k).1 k1 with z | rfl
     ·have:=hK0 k z;omega
     ·exact k3
 have hcc:∀v w,(Zp s p K k0 m).pl v=some (-1)→(v,w)∈E→(Zp s p K k0 m).pl w=some (-1):=by
  intro v w hv hw
  by_cases c:v∈s.op.drop k0.f
  ·rcases hcl v w c hw with x | x
   ·exact hpin w x
   ·by_cases c2:w∈s.op.drop k0.f
    ·exact hpin w c2
    ·rw[hpout w c2];exact x
  ·have hv':=(hpout v c).symm.trans hv
   have hnp:v∉s.path:=fun k=>by
    obtain⟨j,hj,ej⟩:=List.getElem_of_mem (g.sub.subset k)
    have:=(g.at' v j).2 (by rw[List.getElem?_eq_getElem hj,ej])
    rw[hv'] at this
    injection this with this
    omega
   have h5:=g.cc v w (g.ful v (by rw[hv'];simp) hnp w hw) hv'
   by_cases c2:w∈s.op.drop k0.f
   ·exact hpin w c2
   ·rw[hpout w c2];exact h5
 have hccR:∀v w,(Zp s p K k0 m).pl v=some (-1)→Ya E v w→(Zp s p K k0 m).pl w=some (-1):=by
  intro v w hv r
  induction r with
  | single h=>exact hcc _ _ hv h
  | tail _ h ih=>exact hcc _ _ ih h
 have hoR:∀v w,s.pl v=some (-1)→Ya E v w→s.pl w=some (-1):=by
  intro v w hv r
  have step:∀a b,s.pl a=some (-1)→(a,b)∈E→s.pl b=some (-1):=by
   intro a b ha hb
   have hnp:a∉s.path:=fun k=>by
    obtain⟨j,hj,ej⟩:=List.getElem_of_mem (g.sub.subset k)
    have:=(g.at' a j).2 (by rw[List.getElem?_eq_getElem hj,ej])
    rw[ha] at this
    injection this with this
    omega
   exact g.cc a b (g.ful a (by rw[ha];simp) hnp b hb) ha
  induction r with
  | single h=>exact step _ _ hv h
  | tail _ h ih=>exact step _ _ ih h
 have hself:k0.lp=true→∀x,x∈s.op.drop k0.f→Ya E x x:=by
  intro hl x hx
  obtain⟨j,h1,h2⟩:=(hdp x).1 hx
  have r:=g.lp k0 hk0 hl t ht
  rcases Nat.lt_or_eq_of_le h1 with y | y
  ·refine Relation.TransGen.trans (g.bk k0.f j t x y ht h2 fun k hk'=>?_) (g.fw k0.f j t x y ht h2)
   rintro⟨d1,d2⟩
   rcases(hmk k).1 hk' with z | rfl
   ·have:=hK0 k z;omega
   ·omega
  ·subst y
   obtain rfl:t=x:=Option.some.inj (ht.symm.trans h2)
   exact r
 refine⟨i1,?_,?_,?_,?_,?_,?_,g.lo,?_,?_,?_,?_,?_,?_,?_,?_,?_,?_,?_,?_⟩
 ·intro k h
  show k.f<(s.op.take k0.f).length
  rw[hTake,hAl];exact hK0 k h
 ·intro h
  have h':s.op≠[]:=fun q=>h (by show s.op.take k0.f=[];rw[q];simp)
  obtain⟨k,x1,x2⟩:=g.zer h'
  rcases(hmk k).1 x1 with z | rfl
  ·exact⟨k,z,x2⟩
  ·exact absurd (by show s.op.take k.f=[];rw[x2];rfl) h
 ·exact g.nd.sublist (List.take_sublist _ _)
 ·intro v i
  show(if v∈s.op.drop k0.f then some (-1)else s.pl v)=_↔(s.op.take k0.f)[i]?=some v
  rw[htk]
  by_cases c:v∈s.op.drop k0.f
  ·rw[if_pos c]
   constructor
   ·intro h;injection h with h;omega
   ·rintro⟨h1,h2⟩
    obtain⟨j,h3,h4⟩:=(hdp v).1 c
    have:=V6 g.nd h2 h4
    omega
  ·rw[if_neg c,g.at' v i]
   exact⟨fun h=>⟨Nat.lt_of_not_le fun q=>c ((hdp v).2 ⟨i,q,h⟩),h⟩,fun h=>h.2⟩
 ·intro v q h
  by_cases c:v∈s.op.drop k0.f
  ·rw[hpin v c] at h
   injection h with h
   exact .inl h.symm
  ·exact g.cl v q ((hpout v c).symm.trans h)
 ·intro v
  exact(g.nxn v).trans (hvisi v).symm
 ·intro i j a b hij ha hb
  exact g.fw i j a b hij ((htk i a).1 ha).2 ((htk j b).1 hb).2
 ·intro i j a b hij ha hb hno
  have hb':=(htk j b).1 hb
  refine g.bk i j a b hij ((htk i a).1 ha).2 hb'.2 fun k hk'=>?_
  rcases(hmk k).1 hk' with z | rfl
  ·exact hno k z
  ·omega
 ·intro k h hl a ha
  exact g.lp k ((hmk k).2 (.inl h)) hl a ((htk _ a).1 ha).2
 ·intro k h hl
  rcases g.nl k ((hmk k).2 (.inl h)) hl with x | ⟨k',x1,x2⟩
  ·have:=hK0 k h
   have:=g.bnd k0 hk0
   omega
  ·rcases(hmk k').1 x1 with z | rfl
   ·exact .inr ⟨k',z,x2⟩
   ·refine .inl ?_
    show k.f+1=(s.op.take k'.f).length
    rw[hTake,hAl,x2]
 ·intro v w h _
  exact fun q=>g.vis v w h trivial ((hvisi w).1 q)
 ·intro v w h hv
  obtain⟨i,_,h1,_⟩:=h
  exact hcc v w hv (List.mem_of_getElem? h1)
 ·intro v w i j h _ hi hj hji
  have hi':=(htk i v).1 hi
  obtain⟨k,k1,k2,k3,k4⟩:=g.oo v w i j h trivial hi'.2 ((htk j w).1 hj).2 hji
  rcases(hmk k).1 k1 with z | rfl
  ·exact⟨k,z,k2,k3,fun k' hk'=>k4 k' ((hmk k').2 (.inl hk'))⟩
  ·omega
 ·show p.Sublist (s.op.take k0.f)
  rw[hTake];exact hs
 ·intro k h
  obtain⟨a,x1,x2⟩:=g.fst k ((hmk k).2 (.inl h))
  have:=hK0 k h
  refine⟨a,(htk _ a).2 ⟨this,x1⟩,?_⟩
  rw[hp] at x2
  rcases List.mem_append.1 x2 with q | q
  ·exact q
  ·rw[List.mem_singleton.1 q] at x1
   have:=V6 g.nd x1 ht
   omega
 ·intro v h1 h2 w h3
  by_cases q:v=t
  ·subst q;exact hf w h3
  ·exact g.ful v (fun k=>h1 ((hvisi v).2 k)) (fun k=>by
    rw[hp] at k
    rcases List.mem_append.1 k with x | x
    ·exact h2 x
    ·exact q (List.mem_singleton.1 x)) w h3
 ·exact Z6i g.res fun hl=>hself hl m hm
 ·intro v hv r
  by_cases c:v∈s.op.drop k0.f
  ·cases hl:k0.lp with
   | true=>exact Z9h hl (hmm v c)
   | false =>
    exfalso
    have hvt:v=t:=by
     obtain⟨j,h1,h2⟩:=(hdp v).1 c
     have hj:=(List.getElem?_eq_some_iff.1 h2).1
     rcases g.nl k0 hk0 hl with x | ⟨k',x1,x2⟩
     ·have:j=k0.f:=by omega
      subst this
      exact Option.some.inj (h2.symm.trans ht)
     ·rcases(hmk k').1 x1 with z | rfl
      ·have:=hK0 k' z;omega
      ·omega
    subst hvt
    have hvo:s.pl v=some (k0.f:Int):=(g.at' v _).2 ht
    have single:∀w,(v,w)∈E→s.pl w=some (-1):=fun w hw=>by
     rcases hcl v w c hw with x | x
     ·obtain⟨j,h1,h2⟩:=(hdp w).1 x
      have hj:=(List.getElem?_eq_some_iff.1 h2).1
      have hjk:j=k0.f:=by
       rcases g.nl k0 hk0 hl with x | ⟨k',x1,x2⟩
       ·omega
       ·rcases(hmk k').1 x1 with z | rfl
        ·have:=hK0 k' z;omega
        ·omega
      subst hjk
      obtain rfl:v=w:=Option.some.inj (ht.symm.trans h2)
      obtain⟨k,k1,k2,k3,k4⟩:=g.oo v v k0.f k0.f (hf v hw) trivial ht ht (Nat.le_refl _)
      rcases(hmk k).1 k1 with z | rfl
      ·have:=k4 k0 hk0
       have:=hK0 k z
       omega
      ·rw[hl] at k2;cases k2
     ·exact x
    have hall:s.pl v=some (-1):=by
     have gen:∀a b,Ya E a b→a=v→s.pl b=some (-1):=by
      intro a b r
      induction r with
      | single h=>intro e;rw[e] at h;exact single _ h
      | tail r h ih=>intro e;exact hoR _ _ (ih e) (.single h)
     exact gen v v r rfl
    rw[hvo] at hall
    injection hall with hall
    omega
  ·exact Z82 (g.all v ((hpout v c).symm.trans hv) r)
theorem GI.done(g:GI E s Y)(hp:s.path=[]):s.op=[]∧s.kn=[]∧∀v,s.pl v≠none→s.pl v=some (-1):=by
 have hk:s.kn=[]:=by
  cases h:s.kn with
  | nil=>rfl
  | cons k l =>
   obtain⟨a,_,h2⟩:=g.fst k (by rw[h];simp)
   rw[hp] at h2;cases h2
 have ho:s.op=[]:=by
  cases h:s.op with
  | nil=>rfl
  | cons a l =>
   obtain⟨k,h1,_⟩:=g.zer (by rw[h];simp)
   rw[hk] at h1;cases h1
 refine⟨ho,hk,fun v hv=>?_⟩
 cases h:s.pl v with
 | none=>exact absurd h hv
 | some q =>
  rcases g.cl v q h with x | x
  ·rw[x]
  ·obtain⟨j,rfl⟩:=Int.eq_ofNat_of_zero_le x
   have:=(g.at' v j).1 h
   rw[ho] at this;simp at this
def Vo(E:List (Int × Int))(s:Gb)(i:Nat):Bool:=match E[i]? with
 | some e=>(match s.nx e.1 with
  | some m=>decide (i<m)
  | none=>false)
 | none=>false
def Yr(p:Nat→Bool):Nat→Nat
 | 0=>0
 | n+1=>Yr p n+if p n=true then 0 else 1
theorem Z0n{p q:Nat→Bool}:∀ {n:Nat},(∀j,j<n→q j=p j)→Yr q n=Yr p n
 | 0,_=>rfl
 | n+1,h=>by
  unfold Yr
  rw[Z0n (n:=n) fun j hj=>h j (by omega),h n (by omega)]
theorem Z1y{p q:Nat→Bool}{i:Nat}(hp:p i=false)(hq:q i=true):∀ {n:Nat},i<n→(∀j,j≠i→q j=p j)→Yr q n+1=Yr p n
 | n+1,hi,h=>by
  unfold Yr
  by_cases e:n=i
  ·subst e
   rw[Z0n (p:=p) (q:=q) (n:=n) fun j hj=>h j (by omega),hp,hq]
   simp
  ·rw[h n e,←Z1y hp hq (n:=n) (by omega) h]
   omega
def Um(E:List (Int × Int))(s:Gb):Nat:=2*Yr (Vo E s) E.length+s.path.length
theorem Z3e{E:List (Int × Int)}{s s':Gb}(h:s'.nx=s.nx):Vo E s'=Vo E s:=by
 funext i
 unfold Vo
 rw[h]
theorem Ul(hs:Zj E){i:Nat}{u:Int}(hn:s.nx t=some i)(he:E[i]?=some (t,u)):Yr (Vo E (Y3 s t i)) E.length+1=Yr (Vo E s) E.length:=by
 refine Z1y (i:=i) ?_ ?_ (List.getElem?_eq_some_iff.1 he).1 fun j hj=>?_
 ·simp[Vo,he,hn]
 ·simp[Vo,he,Y3,Zm]
 ·unfold Vo
  cases h:E[j]? with
  | none=>rfl
  | some e =>
   by_cases q:e.1=t
   ·simp only[Y3,q,Y9,hn]
    exact decide_eq_decide.2 (by omega)
   ·simp only[Y3,Y8 _ _ q]
theorem Z45(hs:Zj E){u:Int}(hu:s.nx u=none):Vo E (Zx E s u)=Vo E s:=by
 funext j
 unfold Vo
 cases h:E[j]? with
 | none=>rfl
 | some e =>
  by_cases q:e.1=u
  ·simp only[Zx,q,Y9,hu]
   have:=Z9r hs h q
   simp;omega
  ·simp only[Zx,Y8 _ _ q]
theorem Z41(hs:Zj E){i:Nat}(hn:s.nx t=some i)(hi:Vw E t≤i)(h:∀w,E[i]?≠some (t,w)):∀w,(t,w)∈E→ExG E s t w:=by
 intro w hw
 obtain⟨j,hj,e⟩:=List.getElem_of_mem hw
 have e':E[j]?=some (t,w):=by rw[List.getElem?_eq_getElem hj,e]
 refine⟨j,i,e',hn,Nat.lt_of_not_le fun q=>?_⟩
 cases hE:E[i]? with
 | none =>
  rw[List.getElem?_eq_none_iff] at hE
  omega
 | some x =>
  have h1:=Z3q hs hi hE
  have h2:i≠j:=fun k=>by subst k;rw[e'] at hE;injection hE with hE;exact h w (by rw[e'])
  have hi':=(List.getElem?_eq_some_iff.1 hE).1
  have h3:=List.pairwise_iff_getElem.1 hs i j hi' hj (by omega)
  have h4:x=E[i]:=(List.getElem?_eq_some_iff.1 hE).2.symm
  rw[←h4,e] at h3
  unfold Yy at h3
  have h5:x.1=t:=by
   rcases h3 with y | y
   ·have:x.1<t:=y
    omega
   ·exact y.1
  exact h x.2 (by rw[hE,←h5])
end
def Z8l(E:List (Int × Int))(fd:Bool)(ls:Int):Prop:=(fd=true↔∃v,Ya E v v)∧(fd=true→Ya E ls ls∧∀v,Ya E v v→ls≤v)
theorem Z2e{E:List (Int × Int)}(hs:Zj E){s:Gb}(g:Ui E s)(hp:s.path=[])(k:Nat)(hv:∀i e,i<k→E[i]?=some e→s.pl e.1≠none)(hk:E.length≤k∨(s.fd=true∧∃e,E[k]?=some e∧s.ls≤e.1)):Z8l E s.fd s.ls:=by
 obtain⟨_,_,h3⟩:=g.done hp
 have key:∀v,Ya E v v→s.fd=true∧s.ls≤v:=by
  intro v r
  obtain⟨y,hy⟩:=Vc r
  obtain⟨i,hi,e⟩:=List.getElem_of_mem hy
  have e':E[i]?=some (v,y):=by rw[List.getElem?_eq_getElem hi,e]
  by_cases q:i<k
  ·exact g.all v (h3 v (hv i _ q e')) r
  ·rcases hk with x | ⟨x1,ek,x2,x3⟩
   ·omega
   ·refine⟨x1,Int.le_trans x3 ?_⟩
    rcases Nat.lt_or_eq_of_le (Nat.le_of_not_lt q)with z | z
    ·obtain⟨hk',rfl⟩:=List.getElem?_eq_some_iff.1 x2
     have:=List.pairwise_iff_getElem.1 hs k i hk' hi z
     rw[e] at this
     unfold Yy at this
     simp only at this
     omega
    ·subst z
     rw[x2] at e'
     injection e' with e'
     rw[e'];exact Int.le_refl _
 exact⟨⟨fun h=>⟨_,g.res h⟩,fun⟨v,r⟩=>(key v r).1⟩,fun h=>⟨g.res h,fun v r=>(key v r).2⟩⟩
end Go.Proofs.YtobnolgphljoeaaGreat
