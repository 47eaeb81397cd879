/- Texts merged: Nw, Tch, Rf, ModeA, QuM, QuS, QuP, QuH, BkM, PoM, PoF, BkB, BdK, BdC, BkO, Rw, BdE, BdF, Region, Ints, WaM -/
import Derived.Test.YtpmlaphjlghpmaaRows
import Derived.WalkKit
import Derived.Lib.Hide
import Derived.Deep.Draws
import Derived.LoopTactic
import Derived.WalkSpells
import Derived.Laws.OwnMore
import Derived.WalkSmall
import Derived.RangeFuncNested
import Derived.RangeFuncBound
import Derived.RangeFuncCalls
import Derived.RangeFuncLeaves
import Derived.Shelf.RegionOpen
import Derived.OwnWalkIn
import Derived.TacticsInMore
import Derived.LoopNIn
import Derived.LoopIn
import Derived.ProofKit
import Derived.OpenShut
import Derived.ShutString
import Derived.Deep.WholeRow
import Derived.Outline
import Derived.Maps.OwnSet
import Derived.Maps.Range
import Derived.DeepKeys4
import Derived.Shelf.SlSortCmp.NoneTotal
import Derived.Deep.RegionHeld3
import Derived.BigQuiet
import Derived.Deep.QuietTactic
import Derived.Sort.MapsRangeIn
import Derived.RegionIn
set_option linter.unusedVariables false
set_option maxRecDepth 100000
set_option maxHeartbeats 16000000
namespace Go.Proofs.Ytpmlaphjlghpmaa
theorem dF0{p:Prop}[Decidable p](h:¬p):decide p=false:=decide_eq_false h
theorem dT0{p:Prop}[Decidable p](h:p):decide p=true:=decide_eq_true h
theorem aI0{p q:Prop}(h:p)(k:q):p∧q:=⟨h,k⟩
theorem lL0{a b c:Nat}(h:a<b)(k:b≤c):a<c:=Nat.lt_of_lt_of_le h k
theorem gM0{α:Type _}{l:List α}{n:Nat}(h:n<l.length):l[n]∈l:=List.getElem_mem h
theorem hD0{p:Prop}(h:p):RowKit.Hid p:=h
open Go.RowKit _root_.Go.Proofs.Try
section
def Nw(w w':World):Prop:=Below w.heap.size w w'
theorem Nw.refl(w:World):Nw w w:=Below.refl _ _
theorem Nw.trans{a b c:World}(h:Nw a b)(k:Nw b c):Nw a c:=Below.trans h (Below.mono k h.size)
theorem Nw.alloc{w w':World}(h:Nw w w')(o:Obj):Nw w (w'.alloc o):=Below.alloc h h.size o
theorem Nw.drewN{w w':World}(h:Nw w w')(n:Nat):Nw w (w'.drewN n):=⟨h.os,h.tape,h.output,h.size,h.block⟩
theorem Nw.sz{w w':World}(h:Nw w w'):w.heap.size≤w'.heap.size:=Below.size h
theorem Nw.cell{w w':World}(h:Nw w w'){b o:Nat}(hb:b<w.heap.size):w'.cell? ⟨b,o,none⟩=w.cell? ⟨b,o,none⟩:=Below.cell h hb
theorem Nw.grownBy{w w':World}(h:Nw w w')(row:Option Nat):w.grownBy w' row:=⟨h.os,h.tape,h.output,h.size,fun k hk _=>h.block k hk⟩
variable {P:Program}
theorem Yj(w:World)(base:Nat)(t ty e:TypeId)(i:TypeInfo)(z:Value)(size bytes:Nat)(ht:P.underlying t=some (.slice e))(hi:P.info? e=some i)(hz:i.zero=some z)
  (hsize:i.size=size) (hby:i.bytes=bytes) (hzs:z.cells.size=size) (hsz:0<size)
  (v:Value) (n:Nat) (xs:List Value) (hown:w.ownsRow base e size v n xs)
  (a:Addr) (m c:Nat) (news:List Value) (hl:news.length=m*size) (hnews:∀j u,news[j]?=some u→w.cell? (a.add j)=some u) (h1:∀u∈news,u.oneCell'=true)
  (h63:n+m≤maxLen) (hbytes:(n+m)*bytes≤140737488355328) (hbase:base≤w.heap.size) :
  ∃v' w',(Builtin.append_ #[t,t] ty #[v,.slice (some a) m c]).run P w=.ok v' w'∧w'.ownsRow base e size v' (n+m) (xs++news)∧w.grownBy w' v.ownBlock ∧
   (v'.ownBlock=v.ownBlock∨v'.ownBlock=some w.heap.size):=by
 obtain⟨v',w',hr,g1,g2,g3⟩:=run_append_own (P:=P) w base t ty e i z size bytes ht hi hz hsize hby hzs hsz v n xs hown a m c news hl hnews h1 h63 hbytes hbase
 refine⟨v',w',hr,g1,g2,?_⟩
 have h63':((n+m:Nat):Int)≤9223372036854775807:=by unfold maxLen at h63;omega
 subst hsize
 subst hby
 rcases hown.2 with⟨rfl,rfl⟩ | ⟨g,cap,cur,rfl,hbg,hg,hnc,hcm,hcs,htake⟩
 ·by_cases hm:m=0
  ·have e1:=g3.2 ⟨rfl,hm⟩
   subst e1
   exact .inl rfl
  ·have hr2:=run_append_nil (P:=P) w t ty e i z ht hi hz a m c news hl hnews (by omega) (by omega) (by simp only[Nat.zero_add] at hbytes;omega)
   rw[hr2] at hr
   injection hr with e1 _
   subst e1
   exact .inr rfl
 ·by_cases hroom:n+m≤cap
  ·have hfit:n*i.size+news.length≤cur.size:=by rw[hl,hcs,←Nat.add_mul];exact Nat.mul_le_mul_right _ hroom
   have hr2:=run_append_room (P:=P) w t ty e i ht hi g n cap cur hg a m c news hl hnews h1 hroom hfit
   rw[hr2] at hr
   injection hr with e1 _
   subst e1
   exact .inl rfl
  ·have hr2:=run_append_grow (P:=P) w t ty e i z ht hi hz ⟨g,0,none⟩ n cap xs hown.1 (hown.cells (g:=g) rfl) a m c news hl hnews (by omega) h63' (growslice_fits (by omega) hbytes)
   rw[hr2] at hr
   injection hr with e1 _
   subst e1
   exact .inr rfl
end
structure Zc(S:Nat→Prop)(w w':World):Prop where
 os:w'.os=w.os
 tape:w'.tape=w.tape
 output:w'.output=w.output
 size:w.heap.size≤w'.heap.size
 block:∀k,k<w.heap.size→¬S k→w'.heap[k]?=w.heap[k]?
theorem Zc.refl(S:Nat→Prop)(w:World):Zc S w w:=⟨rfl,rfl,rfl,Nat.le_refl _,fun _ _ _=>rfl⟩
theorem Zc.trans'{S S':Nat→Prop}{a b c:World}(h:Zc S a b)(k:Zc S' b c)(hS:∀i,i<a.heap.size→S' i→S i):Zc S a c :=
 ⟨k.os.trans h.os,k.tape.trans h.tape,k.output.trans h.output,Nat.le_trans h.size k.size,fun i hi hn=>(k.block i (lL0 hi h.size) (fun e=>hn (hS i hi e))).trans (h.block i hi hn)⟩
theorem Zc.trans{S:Nat→Prop}{a b c:World}(h:Zc S a b)(k:Zc S b c):Zc S a c:=h.trans' k fun _ _ e=>e
theorem Zc.mono{S S':Nat→Prop}{a b:World}(h:Zc S a b)(hS:∀i,i<a.heap.size→S i→S' i):Zc S' a b :=
 ⟨h.os,h.tape,h.output,h.size,fun i hi hn=>h.block i hi (fun e=>hn (hS i hi e))⟩
theorem Zc.nw{S:Nat→Prop}{a b:World}(h:Nw a b):Zc S a b:=⟨h.os,h.tape,h.output,h.size,fun k hk _=>h.block k hk⟩
theorem Zc.toNw{a b:World}(h:Zc (fun _=>False) a b):Nw a b:=⟨h.os,h.tape,h.output,h.size,fun k hk=>h.block k hk (fun e=>e)⟩
theorem Zc.alloc{S:Nat→Prop}{a b:World}(h:Zc S a b)(o:Obj):Zc S a (b.alloc o):=h.trans (.nw ((Nw.refl b).alloc o))
theorem Zc.set{S:Nat→Prop}{a b:World}(h:Zc S a b){p:Addr}(hp:S p.block∨a.heap.size≤p.block)(v:Value):Zc S a (b.setCell p v) :=
 h.trans' (S':=fun k=>k=p.block) ⟨rfl,rfl,rfl,by simp[World.setCell],fun k _ hk=>Below.heap_setCell _ _ _ _ hk⟩ (fun i hi e=>by subst e;exact hp.resolve_right (by omega))
theorem Zc.grown{S:Nat→Prop}{a b c:World}{row:Option Nat}(h:Zc S a b)(hg:b.grownBy c row)(hr:∀k,row=some k→S k∨a.heap.size≤k):Zc S a c :=
 h.trans' (S':=fun k=>row=some k) ⟨hg.os,hg.tape,hg.output,hg.size,fun k hk hn=>hg.block k hk (fun e=>hn e.symm)⟩ (fun i hi e=>(hr i e).resolve_right (by omega))
theorem Zc.cell{S:Nat→Prop}{a b:World}(h:Zc S a b){k o:Nat}(hk:k<a.heap.size)(hn:¬S k):b.cell? ⟨k,o,none⟩=a.cell? ⟨k,o,none⟩:=World.cell?_of_block (h.block k hk hn)
theorem Zc.froz{S:Nat→Prop}{a b:World}(h:Zc S a b){k o:Nat}(hk:k<a.heap.size)(hn:¬S k):b.frozen? ⟨k,o,none⟩=a.frozen? ⟨k,o,none⟩:=World.frozen?_of_block (h.block k hk hn)
theorem Nw.froz{a b:World}(h:Nw a b){k o:Nat}(hk:k<a.heap.size):b.frozen? ⟨k,o,none⟩=a.frozen? ⟨k,o,none⟩:=(Zc.nw (S:=fun _=>False) h).froz hk (fun e=>e)
theorem Zf{w a b:World}{F:Nat→Prop}(h:Nw w a)(k:Zc F a b)(hF:∀i,F i→w.heap.size≤i):Nw w b :=
 Zc.toNw ((Zc.nw (S:=fun _=>False) h).trans' k fun i hi e=>by have:=hF i e;omega)
theorem Zm(w:World)(p:Addr)(v:Value):Zc (fun k=>k=p.block) w (w.setCell p v):=Zc.set (S:=fun k=>k=p.block) (Zc.refl _ w) (.inl rfl) v
open Go.Shelf
section
structure KpS(S:Nat→Prop)(A B:World):Prop where
 size:A.heap.size≤B.heap.size
 same:∀k,S k→B.heap[k]?=A.heap[k]?
structure Ch'(n₀:Nat)(S:Nat→Prop)(A B:World):Prop where
 os:B.os=A.os
 tape:B.tape=A.tape
 output:B.output=A.output
 size:A.heap.size≤B.heap.size
 block:∀k,k<A.heap.size→¬S k→B.heap[k]?=A.heap[k]?∨((k=n₀∨k=n₀+1)∧∃o,A.heap[k]?=some o∧o.isCells=false)
variable {F:Fence} {n:Nat} {P:Program}
end
section
open Go.ChangeShapes Go.WideShapes Go.ChangeAt Go.RowKit
theorem Z41(m:Int)(w:World)(h0:0≤m)(h1:m<7) :
  Calls prog 61 #[.int .i64 m] w fun e w'=>e=.returned (.bool true)∧w=w':=by
 go_enter func61,ntmps61
 go_wp2
 go_ret
 exact⟨rfl,rfl⟩
def Z8j:List Int:=[0,1,2,3,4,5,6,1,1,2,3,4,5,6,2,2,2,4,4,6,6,3,3,4,3,4,5,6,4,4,4,4,4,6,6,5,5,6,5,6,5,6,6,6,6,6,6,6,6]
def Z60:Array Value:=(Z8j.map (Value.int .i64)).toArray
def Z2e(a b:Int):Int:=Z8j.getD (a.toNat*7+b.toNat) 0
theorem Z8q(a b:Int)(ha:0≤a)(ha':a<7)(hb:0≤b)(hb':b<7):Z60[a.toNat*7+b.toNat]?=some (.int .i64 (Z2e a b)):=by
 have h:a.toNat*7+b.toNat<Z8j.length:=by show _<49;omega
 unfold Z60 Z2e
 simp[List.getElem?_eq_getElem h,List.getD]
def Z7u:List Bool:=[true,true,true,true,true,true,true,true,true,true,true,true,true,false,true,true,true,false,false,false,false,true,true,false,true,false,true,false,true,true,false,false,false,false,false,true,true,false,true,false,false,false,true,false,false,false,false,false,false]
def Z0v:Array Value:=(Z7u.map Value.bool).toArray
def Z0u(a b:Int):Bool:=Z7u.getD (a.toNat*7+b.toNat) false
theorem Z3s(a b:Int)(ha:0≤a)(ha':a<7)(hb:0≤b)(hb':b<7):Z0v[a.toNat*7+b.toNat]?=some (.bool (Z0u a b)):=by
 have h:a.toNat*7+b.toNat<Z7u.length:=by show _<49;omega
 unfold Z0v Z0u
 simp[List.getElem?_eq_getElem h,List.getD]
theorem Z6h:(prog.info? 93).map (·.size)=some 49:=by kernel_rfl
theorem Z7v:Z0v.all (·.oneCell')=true:=by kernel_rfl
theorem Z7w(a b:Int)(w:World)(ha:0≤a)(ha':a<7)(hb:0≤b)(hb':b<7) :
  Calls prog 44 #[.int .i64 a,.int .i64 b] w fun e w'=>e=.returned (.bool (Z0u a b))∧Nw w w':=by
 have hT:=Z3s a b ha ha' hb hb'
 go_enter func44,ntmps44
 go_wp2_with (first | (go_at_call 61;refine(Z41 _ _ (by omega) (by omega)).mono ?_;rintro e w' ⟨rfl,rfl⟩) | (refine wpList_store_row rfl 93 _ _ rfl _ Z0v rfl rfl 93 _ (heap_alloc_last _ _) Z6h rfl Z7v ?_;rw[World.setRow_alloc_new]))
 go_ret
 exact⟨rfl,(Nw.refl _).alloc _⟩
end
structure Rq where
 id:Int
 txn:Int
 md:Int
 wt:Int
 sn:Int
def Yk(m:Int):Bool:=decide (0≤m)&&decide (m<7)
def Vq(a b:Int):Bool:=(Yk a&&Yk b)&&Z0u a b
def cvI(a b:Int):Bool:=(Yk a&&Yk b)&&(Z2e a b==a)
theorem V1(m:Int):Yk m=true↔0≤m∧m<7:=by simp[Yk]
theorem Z8l{p:Int→Int→Bool}(h:∀i<7,∀j<7,p (Int.ofNat i) (Int.ofNat j)=true)(a b:Int)(ha:Yk a=true)(hb:Yk b=true):p a b=true:=by
 rw[V1] at ha hb
 obtain⟨i,rfl⟩:=Int.eq_ofNat_of_zero_le ha.1
 obtain⟨j,rfl⟩:=Int.eq_ofNat_of_zero_le hb.1
 exact h i (by omega) j (by omega)
theorem Z7h(a b:Int)(ha:Yk a=true)(hb:Yk b=true):Vq a b=Z0u a b:=by simp[Vq,ha,hb]
structure Rt(W:Int)(r:Rq):Prop where
 id:0≤r.id
 md:Yk r.md=true
 wt:Yk r.wt=true
 s0:0≤r.sn
 sW:r.sn≤W
 w:0<r.sn→cvI r.md r.wt=false
 h:r.sn=0→r.md≠0∧r.wt=r.md
structure Pr(a b:Rq):Prop where
 id:a.id≠b.id
 txn:a.txn≠b.txn
 sn:0<a.sn→a.sn≠b.sn
 ord:a.md=0→b.md=0∧a.sn<b.sn
 cp:a.md≠0→b.md≠0→Vq a.md b.md=true
structure Ok(W:Int)(q:List Rq):Prop where
 w0:0≤W
 wB:W≤4611686018427387904
 rt:∀r∈q,Rt W r
 pr:q.Pairwise Pr
theorem Rt.w'{W:Int}{r:Rq}(h:Rt W r)(z:r.md=0):0<r.sn:=by
 have:=h.h
 have h0:=h.s0
 rcases Int.lt_or_eq_of_le h0 with q | q
 ·exact q
 ·exact absurd z (this q.symm).1
def blk(r o:Rq):Bool:=((o.md != 0)&&!Vq o.md r.wt) || ((o.md != 0)&&decide (0<o.sn)&&((r.md==0) || decide (o.sn<r.sn))) || ((r.md==0)&&(o.md==0)&&decide (o.sn<r.sn))
def Z8w(q:List Rq)(r:Rq):Bool:=decide (0<r.sn)&&q.all fun o=>(o.id==r.id) || !blk r o
def chg(f:Rq→Rq)(id:Int)(q:List Rq):List Rq:=q.map fun r=>if r.id=id then f r else r
def Z9j(r:Rq):Rq:=⟨r.id,r.txn,r.wt,r.wt,0⟩
def fnd(q:List Rq)(id:Int):Option Rq:=q.find? fun r=>r.id==id
def Z08(q:List Rq)(id txn m:Int):Int:=if id<0∨m=0∨Yk m=false then 2 else if (q.any fun r=>r.id==id || r.txn==txn)=true then 4 else 0
def free(q:List Rq)(m:Int):Bool:=q.all fun r=>r.sn==0&&Vq r.md m
def Z4o(W:Int)(q:List Rq)(id txn m:Int):Int × List Rq × Bool:=if free q m=true then(W,q++[⟨id,txn,m,m,0⟩],true) else(W+1,q++[⟨id,txn,0,m,W+1⟩],false)
def upF(q:List Rq)(r:Rq)(want:Int):Bool:=q.all fun o=>(o.id==r.id) || (!(decide (0<o.sn)&&(o.md != 0))&&((o.md==0) || Vq o.md want))
def upQ(W:Int)(q:List Rq)(r:Rq)(m:Int):Int × List Rq × Bool :=
 if Z2e r.md m=r.md then(W,q,true)
 else if upF q r (Z2e r.md m)=true then(W,chg (fun x=>⟨x.id,x.txn,Z2e r.md m,Z2e r.md m,0⟩) r.id q,true)
 else(W+1,chg (fun x=>⟨x.id,x.txn,x.md,Z2e r.md m,W+1⟩) r.id q,false)
section
variable {W:Int} {q:List Rq}
end
section
variable {W:Int} {q:List Rq}
def Z9c(q:List Rq):Prop:=∀r∈q,Z8w q r=false
inductive Steps (q0:List Rq):List Int→List Rq→Prop
 | refl:Steps q0 [] q0
 | snoc {ids:List Int} {q:List Rq} {r:Rq} (h:Steps q0 ids q) (hr:r∈q) (hc:Z8w q r=true):Steps q0 (ids++[r.id]) (chg Z9j r.id q)
end
structure Hq where
 t:Int
 r:Int
 W:Int
 q:List Rq
def noH:Hq:=⟨0,0,0,[]⟩
def rtB(W:Int)(r:Rq):Bool:=!(((((decide (r.id<0) || !Yk r.md) || !Yk r.wt) || decide (r.sn<0)) || decide (W<r.sn)))&&(if 0<r.sn then !cvI r.md r.wt else((r.md != 0)&&(r.wt==r.md)))
def prB(a b:Rq):Bool:=!((((a.id==b.id || a.txn==b.txn) || (decide (0<a.sn)&&a.sn==b.sn)) || ((a.md==0)&&((b.md != 0) || decide (b.sn<a.sn)))) || (((a.md != 0)&&(b.md != 0))&&!Vq a.md b.md))
def pwB:List Rq→Bool
 | []=>true
 | a::r=>r.all (prB a)&&pwB r
def okP(W:Int)(q:List Rq):Bool:=q.all (rtB W)&&pwB q
def okQ(W:Int)(q:List Rq):Bool:=(decide (0≤W)&&decide (W≤4611686018427387904))&&okP W q
theorem Z3k(W:Int)(r:Rq):rtB W r=true↔Rt W r:=by
 unfold rtB
 simp only[Bool.and_eq_true,Bool.not_eq_true',Bool.or_eq_false_iff,decide_eq_false_iff_not,Bool.not_eq_false',Int.not_lt]
 constructor
 ·rintro⟨⟨⟨⟨⟨h1,h2⟩,h3⟩,h4⟩,h5⟩,h6⟩
  refine⟨h1,h2,h3,h4,h5,fun z=>?_,fun z=>?_⟩
  ·rw[if_pos z] at h6
   simpa using h6
  ·rw[if_neg (by omega)] at h6
   simpa using h6
 ·intro h
  refine⟨⟨⟨⟨⟨h.id,h.md⟩,h.wt⟩,h.s0⟩,h.sW⟩,?_⟩
  by_cases z:0<r.sn
  ·rw[if_pos z];simpa using h.w z
  ·rw[if_neg z]
   have:=h.h (by have:=h.s0;omega)
   simpa using this
theorem Z3h{W:Int}{a b:Rq}(ha:Rt W a):prB a b=true↔Pr a b:=by
 unfold prB
 simp only[Bool.not_eq_true',Bool.or_eq_false_iff,Bool.and_eq_false_iff,beq_eq_false_iff_ne,bne_eq_false_iff_eq,decide_eq_false_iff_not,Bool.not_eq_false',Int.not_lt,ne_eq]
 constructor
 ·rintro⟨⟨⟨⟨h1,h2⟩,h3⟩,h4⟩,h5⟩
  refine⟨h1,h2,fun z=>?_,fun z=>?_,fun z y=>?_⟩
  ·rcases h3 with h3 | h3
   ·omega
   ·exact h3
  ·have hs:=ha.w' z
   rcases h4 with h4 | h4
   ·exact absurd z h4
   ·refine⟨h4.1,?_⟩
    rcases h3 with h3 | h3
    ·omega
    ·omega
  ·rcases h5 with(h5 | h5) | h5
   ·exact absurd h5 z
   ·exact absurd h5 y
   ·exact h5
 ·intro h
  refine⟨⟨⟨⟨h.id,h.txn⟩,?_⟩,?_⟩,?_⟩
  ·by_cases z:0<a.sn
   ·exact .inr (h.sn z)
   ·exact .inl (Int.not_lt.1 z)
  ·by_cases z:a.md=0
   ·exact .inr ⟨(h.ord z).1,Int.le_of_lt (h.ord z).2⟩
   ·exact .inl z
  ·by_cases z:a.md=0
   ·exact .inl (.inl z)
   ·by_cases y:b.md=0
    ·exact .inl (.inr y)
    ·exact .inr (h.cp z y)
theorem Z12{W:Int}:∀q:List Rq,(∀r∈q,Rt W r)→(pwB q=true↔q.Pairwise Pr)
 | [],_=>by simp[pwB]
 | a::q,h=>by
  have ha:=h a (by simp)
  show(q.all (prB a)&&pwB q)=true↔_
  rw[Bool.and_eq_true,Z12 q (fun r hr=>h r (List.mem_cons_of_mem _ hr)),List.pairwise_cons,List.all_eq_true]
  constructor
  ·rintro⟨h1,h2⟩
   exact⟨fun b hb=>(Z3h ha).1 (h1 b hb),h2⟩
  ·rintro⟨h1,h2⟩
   exact⟨fun b hb=>(Z3h ha).2 (h1 b hb),h2⟩
theorem Ue(W:Int)(q:List Rq):okQ W q=true↔Ok W q:=by
 unfold okQ okP
 simp only[Bool.and_eq_true,decide_eq_true_eq,List.all_eq_true]
 constructor
 ·rintro⟨⟨h1,h2⟩,h3,h4⟩
  have hr:∀r∈q,Rt W r:=fun r hr=>(Z3k W r).1 (h3 r hr)
  exact⟨h1,h2,hr,(Z12 q hr).1 h4⟩
 ·intro h
  exact⟨⟨h.w0,h.wB⟩,fun r hr=>(Z3k W r).2 (h.rt r hr),(Z12 q h.rt).2 h.pr⟩
def Vo(h:Hq)(id txn m:Int):Hq × Bool × Int:=if Z08 h.q id txn m=0 then(⟨h.t,h.r,(Z4o h.W h.q id txn m).1,(Z4o h.W h.q id txn m).2.1⟩,(Z4o h.W h.q id txn m).2.2,0) else(noH,false,Z08 h.q id txn m)
def upR(h:Hq)(id m:Int):Hq × Bool × Int :=
 if m=0∨Yk m=false then(noH,false,2)
 else match fnd h.q id with
 | none=>(noH,false,5)
 | some r=>if 0<r.sn then(noH,false,7) else(⟨h.t,h.r,(upQ h.W h.q r m).1,(upQ h.W h.q r m).2.1⟩,(upQ h.W h.q r m).2.2,0)
def Z0b(n:Int):List Int→List Int
 | []=>[n]
 | a::r=>if a<n then a::Z0b n r else if a=n then a::r else n::a::r
def Z1f(q:List Rq)(r:Rq):List Int:=(q.filter fun o=>!(o.id==r.id)&&blk r o).foldl (fun l o=>Z0b o.txn l) []
def Vp(q:List Rq)(id:Int):List Int:=match fnd q id with
 | none=>[]
 | some r=>if 0<r.sn then Z1f q r else[]
theorem Uq(n x:Int):∀l:List Int,x∈Z0b n l↔x=n∨x∈l
 | []=>by simp[Z0b]
 | a::r=>by
  unfold Z0b
  split
  ·simp only[List.mem_cons,Uq n x r]
   constructor
   ·rintro(h | h | h)
    ·exact .inr (.inl h)
    ·exact .inl h
    ·exact .inr (.inr h)
   ·rintro(h | h | h)
    ·exact .inr (.inl h)
    ·exact .inl h
    ·exact .inr (.inr h)
  split
  ·rename_i e
   simp[←e]
  ·simp
theorem Z1t(x:Int):∀(q:List Rq) (l:List Int),x∈q.foldl (fun l o=>Z0b o.txn l) l↔x∈l∨∃o∈q,o.txn=x
 | [],l=>by simp
 | a::q,l=>by
  rw[List.foldl_cons,Z1t x q,Uq]
  simp only[List.mem_cons,exists_eq_or_imp]
  constructor
  ·rintro((h | h) | h)
   ·exact .inr (.inl h.symm)
   ·exact .inl h
   ·exact .inr (.inr h)
  ·rintro(h | h | h)
   ·exact .inl (.inr h)
   ·exact .inl (.inl h.symm)
   ·exact .inr h
theorem Z1g(q:List Rq)(r:Rq)(x:Int):x∈Z1f q r↔∃o∈q,o.id≠r.id∧blk r o=true∧o.txn=x:=by
 unfold Z1f
 rw[Z1t]
 simp only[List.not_mem_nil,false_or,List.mem_filter]
 constructor
 ·rintro⟨o,⟨ho,hb⟩,rfl⟩
  simp only[Bool.and_eq_true,Bool.not_eq_true',beq_eq_false_iff_ne] at hb
  exact⟨o,ho,hb.1,hb.2,rfl⟩
 ·rintro⟨o,ho,h1,h2,rfl⟩
  exact⟨o,⟨ho,by simp[h1,h2]⟩,rfl⟩
theorem U3(n:Int):∀l:List Int,l.Pairwise (·<·)→(Z0b n l).Pairwise (·<·)
 | [],_=>by simp[Z0b]
 | a::r,h=>by
  rw[List.pairwise_cons] at h
  unfold Z0b
  split
  ·rename_i h1
   rw[List.pairwise_cons]
   refine⟨fun x hx=>?_,U3 n r h.2⟩
   rcases(Uq n x r).1 hx with rfl | hx
   ·exact h1
   ·exact h.1 x hx
  split
  ·rw[List.pairwise_cons];exact h
  ·rename_i h1 h2
   rw[List.pairwise_cons]
   refine⟨fun x hx=>?_,by rw[List.pairwise_cons];exact h⟩
   rcases List.mem_cons.1 hx with rfl | hx
   ·omega
   ·have:=h.1 x hx
    omega
theorem U0(q:List Rq)(r:Rq):(Z1f q r).Pairwise (·<·):=by
 unfold Z1f
 suffices H:∀(q:List Rq) (l:List Int),l.Pairwise (·<·)→(q.foldl (fun l o=>Z0b o.txn l) l).Pairwise (·<·) from H _ [] .nil
 intro q
 induction q with
 | nil=>intro l h;exact h
 | cons a q ih=>intro l h;exact ih _ (U3 _ _ h)
theorem Z5a{q:List Rq}{id:Int}{r:Rq}(h:fnd q id=some r):r∈q∧r.id=id:=by
 have h1:=List.mem_of_find?_eq_some h
 have h2:=List.find?_some h
 exact⟨h1,by simpa using h2⟩
structure Z9d(h:Hq):Prop where
 ok:Ok h.W h.q
 done:Z9c h.q
theorem Z0w:∀i<7,∀j<7,(Z0u 0 (Int.ofNat j)&&Z0u (Int.ofNat i) 0)=true:=by decide +kernel
theorem Z6i(a:Int)(ha:Yk a=true):Vq 0 a=true:=by
 have:=Z8l (p:=fun a b=>Z0u 0 b&&Z0u a 0) Z0w a a ha ha
 rw[Z7h 0 a rfl ha]
 simp at this
 exact this.1
def Z9k(q:List Rq):List Int:=q.map fun r=>r.id
def Z9l(L:List Bool)(k:Nat):List Nat:=(List.range k).filter fun i=>L.getD i false
def lnt(L:List Bool):List Nat:=Z9l L L.length
def liv(L:List Bool):Nat:=L.countP id
def Z8x(l:List Nat):List Int:=l.map fun n:Nat=>(n:Int)
def nlt(a b:Int × Int):Prop:=a.1<b.1∨(a.1=b.1∧a.2<b.2)
instance (a b:Int × Int):Decidable (nlt a b):=by unfold nlt;infer_instance
theorem Z6w(a:Int × Int):¬nlt a a:=by unfold nlt;omega
theorem Z86{a b c:Int × Int}(h:nlt a b)(k:nlt b c):nlt a c:=by unfold nlt at *;omega
def nmH(h:Hq):Int × Int:=(h.t,h.r)
abbrev Z9e(hs:List Hq):Prop:=hs.Pairwise fun a b=>nlt (nmH a) (nmH b)
def Z9i(hs:List Hq)(nm:Int × Int):Option Hq:=hs.find? fun h=>decide (nmH h=nm)
def Z7q(hs:List Hq):List Int:=hs.flatMap fun h=>Z9k h.q
structure Z9q(most k:Nat)(hs:List Hq)(X:List Int)(L:List Bool):Prop where
 srt:Z9e hs
 len:hs.length≤most
 inv:∀h∈hs,Z9d h
 ne:∀h∈hs,h.q≠[]
 ids:(Z7q hs++X).Perm (Z8x (lnt L))
 wt:∀h∈hs,h.W≤k
 ql:∀h∈hs,h.q.length≤k
section
open Go.RowKit Go.Maps Go.ChangeMaps Go.WideShapes
abbrev wfI(a:Int):Prop:=(Lit.int .i64 a).wf=true
def wfN(a:Int × Int):Prop:=wfI a.1∧wfI a.2
def nmL(a:Int × Int):Lit:=.string (keyBytes [.int .i64 a.1,.int .i64 a.2])
structure Two(P:Program)(k i:TypeId):Prop where
 st : ∃ fs, P.underlying k = some (.struct fs) ∧ (∃ f g, fs.toList = [f, g] ∧ f.type = i ∧ g.type = i ∧ f.offset = 0 ∧ g.offset = 1) ∧ fs.all (·.name != "_") = true
 un:P.underlying i=some (.int .i64)
 ck:P.cellsOf k=2
 ci:P.cellsOf i=1
 sz:∃m,P.types.size=m+1
 kt:P.keyType k=true
end
section
open Go.RowKit Go.Maps Go.ChangeMaps Go.WideShapes
structure Hp where
 h:Hq
 p:Nat
 a:Option Addr
 c:Nat
def Z73:Value→Option (DataW Unit × List MemPlace)
 | .pointer (some ⟨p,0,none⟩)=>some (.lit (.int .i64 (p:Int)),[])
 | .pointer none=>some (.nil,[])
 | _=>none
def Z9h(x:Hp):Lit × DataW Unit:=(nmL (nmH x.h),.lit (.int .i64 (x.p:Int)))
structure Z9s(w:World)(mb:Nat)(l:List Hp):Prop where
 own:∃es,w.ownsMap prog 24 Z73 mb l.length (.map es)∧es.Perm (l.map Z9h)
 wf:∀x∈l,wfN (nmH x.h)
 ne:l.Pairwise fun x y=>nmH x.h≠nmH y.h
variable {w w':World} {mb:Nat} {l:List Hp}
end
def Z7j(most:Nat)(hs:List Hq)(L:List Bool)(t r:Int):Prop:=(Z9i hs (t,r)=none∧most≤hs.length)∨L.length≤liv L
instance (most:Nat) (hs:List Hq) (L:List Bool) (t r:Int):Decidable (Z7j most hs L t r):=by unfold Z7j;infer_instance
def Z8t(m:Int):Prop:=m=0∨Yk m=false
instance (m:Int):Decidable (Z8t m):=by unfold Z8t;infer_instance
theorem Nw.kp{a b:World}(g:Nw a b){k o:Nat}{v:Value}(h:a.cell? ⟨k,o,none⟩=some v):b.cell? ⟨k,o,none⟩=some v :=
 (g.cell (World.block_lt_of_cell? _ _ h)).trans h
theorem Nw.dr{a b:World}(h:Nw a b):Nw a b.drew:=h.drewN 1
theorem Nw.at'{a b:World}(g:Nw a b){k:Nat}{o:Obj}(h:a.heap[k]?=some o):b.heap[k]?=some o:=(g.block k (Array.getElem?_eq_some_iff.1 h).1).trans h
theorem Z5(w:World)(o:Obj):(w.alloc o).heap[w.heap.size]?=some o:=by
 show(w.heap.push o)[w.heap.size]?=some o
 simp
theorem Z2{w:World}{B j:Nat}{c:Array Value}{T:TypeId}{fr:Nat × Nat}(hb:w.heap[B]?=some (.cells c T fr)):w.cell? ⟨B,j,none⟩=c[j]?:=by simp[World.cell?,hb]
theorem hfz{w:World}{B j:Nat}{c:Array Value}{T:TypeId}(hb:w.heap[B]?=some (.cells c T (0,0))):w.frozen? ⟨B,j,none⟩=false:=by simp[World.frozen?,hb]
theorem hlt{w:World}{B:Nat}{o:Obj}(hb:w.heap[B]?=some o):B<w.heap.size:=(Array.getElem?_eq_some_iff.1 hb).1
theorem hset{w:World}{B j:Nat}{c:Array Value}{T:TypeId}{fr:Nat × Nat}(u:Value)(hb:w.heap[B]?=some (.cells c T fr)):(w.setCell ⟨B,j,none⟩ u).heap[B]?=some (.cells (c.setIfInBounds j u) T fr):=by
 simp[World.setCell,Array.getElem?_modify,hb]
theorem Yn(w:World)(p:Addr)(u:Value):w.grownBy (w.setCell p u) (some p.block) :=
 ⟨rfl,rfl,rfl,by simp[World.setCell],fun k _ hk=>Below.heap_setCell _ _ _ _ (fun q=>hk (by rw[q]))⟩
theorem Nw.gro{w a b:World}{row:Option Nat}(h:Nw w a)(g:a.grownBy b row)(hB:∀k,row=some k→w.heap.size≤k):Nw w b :=
 ⟨g.os.trans h.os,g.tape.trans h.tape,g.output.trans h.output,Nat.le_trans h.size g.size,fun j hj=>(g.block j (lL0 hj h.size) (fun q=>by have:=hB j q.symm;omega)).trans (h.block j hj)⟩
section
variable {w w':World} {g0 e size n:Nat} {v:Value} {xs:List Value}
theorem Vg{row:Option Nat}(ho:w.ownsRow g0 e size v n xs)(hg:w.grownBy w' row)(hne:∀g,v.ownBlock=some g→row≠some g):w'.ownsRow g0 e size v n xs:=by
 cases hv:v.ownBlock with
 | none=>exact ho.kept hg (.inl hv)
 | some g=>exact ho.kept hg (.inr fun q=>hne g hv (q▸hv))
theorem Uf(ho:w.ownsRow g0 e size v n xs)(hg:Nw w w'):w'.ownsRow g0 e size v n xs:=Vg ho (hg.grownBy none) (fun _ _=>by simp)
theorem Zt(ho:w.ownsRow g0 e size v n xs){g:Nat}(hv:v.ownBlock=some g):∃c,w.heap[g]?=some (.cells c e (0,0)):=by
 rcases ho.2 with⟨rfl,_⟩ | ⟨g',cap,cur,rfl,_,hh,_⟩
 ·simp[Value.ownBlock] at hv
 ·simp only[Value.ownBlock,Option.some.injEq] at hv
  subst hv
  exact⟨cur,hh⟩
theorem olt(ho:w.ownsRow g0 e size v n xs){g:Nat}(hv:v.ownBlock=some g):g<w.heap.size:=(World.ownsRow.lt ho g hv).2
theorem oge(ho:w.ownsRow g0 e size v n xs){g:Nat}(hv:v.ownBlock=some g):g0≤g:=(World.ownsRow.lt ho g hv).1
theorem Yt(h:w.ownsRow g0 e size v n xs):(v=.slice none 0 0∧n=0)∨∃g cap,v=.slice (some ⟨g,0,none⟩) n cap:=by
 rcases h.2 with q | ⟨g,cap,cur,rfl,_⟩
 ·exact .inl q
 ·exact .inr ⟨g,cap,rfl⟩
theorem Z6y(ho:w.ownsRow g0 e size v n xs){g1:Nat}(h:∀g,v.ownBlock=some g→g1≤g):w.ownsRow g1 e size v n xs:=by
 refine⟨ho.1,?_⟩
 rcases ho.2 with q | ⟨g,cap,cur,rfl,hb,rest⟩
 ·exact .inl q
 ·exact .inr ⟨g,cap,cur,rfl,h g rfl,rest⟩
end
theorem Nw.st{w a:World}{p:Addr}(h:Nw w a)(hB:w.heap.size≤p.block)(u:Value):Nw w (a.setCell p u):=h.gro (Yn a p u) (fun k hk=>by have:=Option.some.inj hk;omega)
theorem Ym{w:World}{g0 e size n:Nat}{v:Value}{xs:List Value}{p:Addr}(h:w.ownsRow g0 e size v n xs)(hp:p.block<g0)(u:Value):(w.setCell p u).ownsRow g0 e size v n xs :=
 Vg h (Yn w p u) (fun g hg q=>by have:=oge h hg;have:=Option.some.inj q;omega)
structure Z07{α:Type}(P:Program)(ST T:TypeId)(sz bytes:Nat)(row:α→List Value):Prop where
 und:P.underlying ST=some (.slice T)
 inf:∃i z,P.info? T=some i∧i.zero=some z∧i.size=sz∧i.bytes=bytes∧z.cells.size=sz
 pos:0<sz
 byt:bytes≤800
 len:∀a,(row a).length=sz
 one:∀a,∀u∈row a,u.oneCell'=true
def Z6{α:Type}(row:α→List Value)(l:List α):List Value:=l.flatMap row
abbrev Yq{α:Type}(T:TypeId)(sz:Nat)(row:α→List Value)(w:World)(g0:Nat)(v:Value)(l:List α):Prop:=w.ownsRow g0 T sz v l.length (Z6 row l)
structure RdC{α:Type}(sz:Nat)(row:α→List Value)(w:World)(b o:Nat)(l:List α):Prop where
 lt:b<w.heap.size
 cell:∀i (h:i<l.length) c u,(row l[i])[c]?=some u→w.cell? ⟨b,o+i*sz+c,none⟩=some u
def Rd{α:Type}(sz:Nat)(row:α→List Value)(w:World)(v:Value)(l:List α):Prop:=∃a c,v=.slice a l.length c∧(l=[]∧(a=none→c=0)∨∃b o,a=some ⟨b,o,none⟩∧RdC sz row w b o l)
section
variable {α:Type} {sz:Nat} {row:α→List Value} {w w':World} {b o:Nat} {l:List α} {v:Value}
theorem RdC.nw(h:RdC sz row w b o l)(g:Nw w w'):RdC sz row w' b o l:=⟨lL0 h.lt g.sz,fun i hi c u hu=>(g.cell h.lt).trans (h.cell i hi c u hu)⟩
theorem Rd.nw(h:Rd sz row w v l)(g:Nw w w'):Rd sz row w' v l:=by
 obtain⟨a,c,rfl,h | ⟨b,o,rfl,h⟩⟩:=h
 ·exact⟨a,c,rfl,.inl h⟩
 ·exact⟨_,c,rfl,.inr ⟨b,o,rfl,h.nw g⟩⟩
theorem Rd.nil(w:World):Rd sz row w (.slice none 0 0) []:=⟨none,0,rfl,.inl ⟨rfl,fun _=>rfl⟩⟩
theorem Rd.form(h:Rd sz row w v l):∃a c,v=.slice a l.length c:=by
 obtain⟨a,c,rfl,_⟩:=h
 exact⟨a,c,rfl⟩
theorem Y9(hl:∀a,(row a).length=sz):∀l:List α,(Z6 row l).length=l.length*sz
 | []=>by simp[Z6]
 | s::r=>by
  show(row s++Z6 row r).length=_
  rw[List.length_append,Y9 hl r,hl,List.length_cons,Nat.add_mul,Nat.one_mul,Nat.add_comm]
theorem Y3(hl:∀a,(row a).length=sz):∀(l:List α) (j c:Nat) (hj:j<l.length),c<sz→(Z6 row l)[j*sz+c]?=(row l[j])[c]?
 | s::r,0,c,_,hc=>by
  show(row s++Z6 row r)[0*sz+c]?=_
  rw[List.getElem?_append_left (by rw[hl];simpa using hc)]
  simp
 | s::r,j+1,c,hj,hc=>by
  have hj':j<r.length:=by simpa using hj
  show(row s++Z6 row r)[(j+1)*sz+c]?=_
  rw[Nat.add_mul,Nat.one_mul,List.getElem?_append_right (by rw[hl];omega),hl,show j*sz+sz+c-sz=j*sz+c by omega,Y3 hl r j c hj' hc]
  rfl
theorem Z5q(a b:List α):Z6 row (a++b)=Z6 row a++Z6 row b:=by simp[Z6]
theorem Yi(hl:∀a,(row a).length=sz){B:Nat}{T:TypeId}{fr:Nat × Nat}(h:w.heap[B]?=some (.cells ⟨Z6 row l⟩ T fr))(c:Nat):Rd sz row w (.slice (some ⟨B,0,none⟩) l.length c) l:=by
 refine⟨_,c,rfl,.inr ⟨B,0,rfl,hlt h,fun i hi c u hu=>?_⟩⟩
 have hc:c<sz:=by have:=(List.getElem?_eq_some_iff.1 hu).1;rwa [hl] at this
 rw[Nat.zero_add,Z2 h,←Array.getElem?_toList]
 show(Z6 row l)[i*sz+c]?=_
 rw[Y3 hl l i c hi hc];exact hu
theorem Yq.rd{T g0:Nat}(hl:∀a,(row a).length=sz)(h:Yq T sz row w g0 v l):Rd sz row w v l:=by
 rcases Yt h with⟨rfl,q⟩ | ⟨g,cap,rfl⟩
 ·exact⟨none,0,by rw[q],.inl ⟨List.length_eq_zero_iff.1 q,fun _=>rfl⟩⟩
 ·refine⟨_,cap,rfl,.inr ⟨g,0,rfl,olt h rfl,fun i hi c u hu=>?_⟩⟩
  have hc:c<sz:=by have:=(List.getElem?_eq_some_iff.1 hu).1;rwa [hl] at this
  rw[Nat.zero_add]
  have hb:i*sz+c<l.length*sz:=by
   have:(i+1)*sz≤l.length*sz:=Nat.mul_le_mul_right _ hi
   rw[Nat.add_mul,Nat.one_mul] at this
   omega
  refine(World.ownsRow.cellAt h (i*sz+c) hb).trans ?_
  rw[Y3 hl l i c hi hc];exact hu
theorem RdC.flat(hl:∀a,(row a).length=sz)(hz:0<sz)(h:RdC sz row w b o l):∀j u,(Z6 row l)[j]?=some u→w.cell? ((⟨b,o,none⟩:Addr).add j)=some u:=by
 intro j u hu
 have hj:=(List.getElem?_eq_some_iff.1 hu).1
 rw[Y9 hl] at hj
 have hq:j/sz<l.length:=Nat.div_lt_of_lt_mul (by rwa [Nat.mul_comm])
 have hm:j%sz<sz:=Nat.mod_lt _ hz
 have e:j=j/sz*sz+j%sz:=by rw[Nat.mul_comm];exact(Nat.div_add_mod j sz).symm
 rw[e,Y3 hl _ _ _ hq hm] at hu
 have:=h.cell _ hq _ u hu
 rw[Addr.add_lit]
 rwa [Nat.add_assoc,←e] at this
end
section
variable {α:Type} {P:Program} {ST T:TypeId} {sz bytes:Nat} {row:α→List Value}
theorem Z07.oneAll(E:Z07 P ST T sz bytes row)(l:List α):∀u∈Z6 row l,u.oneCell'=true:=by
 intro u hu
 obtain⟨a,_,hu⟩:=List.mem_flatMap.1 hu
 exact E.one a u hu
theorem Yq.many(E:Z07 P ST T sz bytes row){w:World}{g0:Nat}{v:Value}{l:List α}(h:Yq T sz row w g0 v l)(sg:List α)(a:Addr)(c:Nat)(hc:∀j u,(Z6 row sg)[j]?=some u→w.cell? (a.add j)=some u)(hsm:l.length+sg.length≤100000)(hg0:g0≤w.heap.size) :
  ∃v' w1,(Builtin.append_ #[ST,ST] ST #[v,.slice (some a) sg.length c]).run P w=.ok v' w1∧Yq T sz row w1 g0 v' (l++sg)∧w.grownBy w1 v.ownBlock∧(v'.ownBlock=v.ownBlock∨v'.ownBlock=some w.heap.size):=by
 obtain⟨i0,z,hi,hz0,hz1,hz2,hz3⟩:=E.inf
 have hb:=E.byt
 obtain⟨v',w1,hrun,ho,hg,hp⟩:=Yj (P:=P) w g0 ST ST T i0 z sz bytes E.und hi hz0 hz1 hz2 hz3 E.pos v l.length _ h
  a sg.length c (Z6 row sg) (Y9 E.len sg) hc (E.oneAll sg) (by unfold maxLen;omega) (Nat.le_trans (Nat.mul_le_mul hsm hb) (by omega)) hg0
 refine⟨v',w1,hrun,?_,hg,hp⟩
 unfold Yq
 rw[List.length_append,Z5q]
 exact ho
theorem Yq.push(E:Z07 P ST T sz bytes row){w:World}{g0:Nat}{v:Value}{l:List α}(h:Yq T sz row w g0 v l)(x:α)(b:Nat)(c:Nat)(hx:∀j u,(row x)[j]?=some u→w.cell? ⟨b,j,none⟩=some u)(hsm:l.length<100000)(hg0:g0≤w.heap.size) :
  ∃v' w1,(Builtin.append_ #[ST,ST] ST #[v,.slice (some ⟨b,0,none⟩) 1 c]).run P w=.ok v' w1∧Yq T sz row w1 g0 v' (l++[x])∧w.grownBy w1 v.ownBlock∧(v'.ownBlock=v.ownBlock∨v'.ownBlock=some w.heap.size)∧∃g cap,v'=.slice (some ⟨g,0,none⟩) (l.length+1) cap:=by
 obtain⟨v',w1,h1,h2,h3,h4⟩:=Yq.many E h [x] ⟨b,0,none⟩ c (fun j u hu=>by
  rw[Addr.add_lit,Nat.zero_add]
  exact hx j u (by simpa [Z6] using hu)) (by rw[List.length_singleton];omega) hg0
 refine⟨v',w1,h1,h2,h3,h4,?_⟩
 rcases Yt h2 with⟨_,q⟩ | ⟨g,cap,rfl⟩
 ·simp at q
 ·exact⟨g,cap,by simp⟩
theorem Z47(w:World):(w.alloc (.cells #[] T)).ownsRow w.heap.size T sz (.slice (some ⟨w.heap.size,0,none⟩) 0 0) 0 []:=World.ownsRow_lit w #[] 0 (Nat.le_refl _) (Nat.zero_le _) (by simp)
theorem Z0l(E:Z07 P ST T sz bytes row){w:World}{v:Value}{l:List α}(h:Rd sz row w v l)(hsm:l.length≤100000) :
  ∃v' w1,(Builtin.append_ #[ST,ST] ST #[.slice (some ⟨w.heap.size,0,none⟩) 0 0,v]).run P (w.alloc (.cells #[] T))=.ok v' w1∧Yq T sz row w1 w.heap.size v' l∧Nw w w1:=by
 have he:=Z47 (T:=T) (sz:=sz) w
 have hN:Nw w (w.alloc (.cells #[] T)):=(Nw.refl w).alloc _
 have hE:Yq T sz row (w.alloc (.cells #[] T)) w.heap.size (.slice (some ⟨w.heap.size,0,none⟩) 0 0) ([]:List α):=he
 obtain⟨a,c,rfl,⟨rfl,h0⟩ | ⟨b,o,rfl,hc⟩⟩:=h
 ·cases a with
  | none =>
   obtain rfl:=h0 rfl
   obtain⟨i0,z,hi,hz0,hz1,hz2,hz3⟩:=E.inf
   exact⟨_,_,run_append_owned_none (P:=P) (w.alloc (.cells #[] T)) w.heap.size ST ST T i0 sz E.und hi _ 0 [] he,hE,hN⟩
  | some ad =>
   obtain⟨v',w1,h1,h2,h3,_⟩:=Yq.many E hE [] ad c (fun j u hu=>by simp[Z6] at hu) (by simp) hN.sz
   exact⟨v',w1,h1,h2,hN.gro h3 (fun k hk=>Nat.le_of_eq (Option.some.inj hk))⟩
 ·obtain⟨v',w1,h1,h2,h3,_⟩:=Yq.many E hE l ⟨b,o,none⟩ c ((hc.nw hN).flat E.len E.pos) (by simpa using hsm) hN.sz
  exact⟨v',w1,h1,by simpa using h2,hN.gro h3 (fun k hk=>Nat.le_of_eq (Option.some.inj hk))⟩
end
theorem Zg{P:Program}{w:World}{ops:Array Oper}{rest:List Oper}{o:Oper}{a:Act}{Q:Exit→Act→World→Prop}
  (hgd:Region.wanted o (yielded ops a.tmps)=true) (s x:Operand) (t:TypeId) (hop:o.op=Op.call { callee:=Callee.builtin Builtin.append,args:=#[s,x],argTypes:=#[t,t] })
  (v u v':Value) (w':World) (hs:a.eval s=v) (hx:a.eval x=u) (hr:(Builtin.append_ #[t,t] o.type #[v,u]).run P w=.ok v' w') (h:wpList P ops Q rest (a.put o.dst v') w'):wpList P ops Q (o::rest) a w:=by
 refine wpList_step fun _ hK=>?_
 rw[if_pos hgd]
 unfold Oper.wp execOp
 simp only[hop,resolve,invoke,builtin,Sem.run_bind,Sem.run_pure,Result.andThen_ok,List.map_toArray,List.map_cons,List.map_nil,hs,hx,hr]
 exact hK _ _ h
theorem Z3o{P:Program}{ops:Array Oper}{o:Oper}{a:Act}{w:World}{K:Act→World→Prop}{Q:Exit→Act→World→Prop}{E:Prop}(hgd:Region.wanted o (yielded ops a.tmps)=true)(s x:Operand)(t:TypeId)
  (ho:o.op=.call { callee:=.builtin .append,args:=#[s,x],argTypes:=#[t,t] }) (v u v':Value) (w':World) (hs:a.eval s=v) (hx:a.eval x=u) (hr:(Builtin.append_ #[t,t] o.type #[v,u]).run P w=.ok v' w')
  (h:K (a.put o.dst v') w'):if Region.wanted o (yielded ops a.tmps)=true then Oper.wp P o a w K Q else E:=by
 rw[if_pos hgd]
 unfold Oper.wp execOp
 simp only[ho,resolve,invoke,builtin,Sem.run_bind,Sem.run_pure,Result.andThen_ok,List.map_toArray,List.map_cons,List.map_nil,hs,hx,hr]
 exact h
section
attribute [local go_sem] Oper.semAt_some
structure BxI{α:Type}(T sz:Nat)(row:α→List Value)(w:World)(c:Nat)(S0 S:Nat→Prop)(v:Value)(pre:List α)(A:World):Prop where
 cell:A.cell? ⟨c,0,none⟩=some v
 froz:A.frozen? ⟨c,0,none⟩=false
 own:Yq T sz row A (c+1) v pre
 row:∀k,v.ownBlock=some k→¬S k
 box:¬S c
 sub:∀k,S k→S0 k∨w.heap.size≤k
 nw:Nw w A
end
section
open Go.RowKit Go.Sort
def cP(a b:Int):Int:=if a<b then -1 else if b<a then 1 else 0
theorem Z7f(a b:Int)(h:a<b):cP a b = -1:=if_pos h
theorem Z8v(a b:Int)(h:b<a):cP a b=1:=by unfold cP;rw[if_neg (by omega),if_pos h]
theorem Z8u(a:Int):cP a a=0:=by unfold cP;simp
theorem Z10(a:Int)(w:World):Calls prog 55 #[.int .i64 a] w fun e w'=>e=.returned (.bool false)∧w=w':=by
 go_enter func55,ntmps55
 go_wp2
 go_ret
 exact⟨rfl,rfl⟩
theorem Z1i(a b:Int)(w:World):Calls prog 35 #[.int .i64 a,.int .i64 b] w fun e w'=>e=.returned (.int .i64 (cP a b))∧w=w':=by
 rcases Int.lt_trichotomy a b with h | h | h
 ·rw[Z7f a b h]
  have hd:decide (a<b)=true:=by simpa using h
  go_enter func35,ntmps35
  go_wp2_with (go_at_call 55;refine(Z10 _ _).mono ?_;rintro e w' ⟨rfl,rfl⟩)
  go_ret
  exact⟨rfl,rfl⟩
 ·subst h
  rw[Z8u a]
  go_enter func35,ntmps35
  go_wp2_with (go_at_call 55;refine(Z10 _ _).mono ?_;rintro e w' ⟨rfl,rfl⟩)
  go_ret
  exact⟨rfl,rfl⟩
 ·rw[Z8v a b h]
  have hd:decide (a<b)=false:=by simp;omega
  have hd2:decide (b<a)=true:=by simpa using h
  go_enter func35,ntmps35
  go_wp2_with (go_at_call 55;refine(Z10 _ _).mono ?_;rintro e w' ⟨rfl,rfl⟩)
  go_ret
  exact⟨rfl,rfl⟩
def orP(x y:Int):Int:=if x=0 then y else x
theorem Z9m(b:Nat)(x y:Int)(w:World)(h0:w.cell? ⟨b,0,none⟩=some (.int .i64 x))(h1:w.cell? ⟨b,1,none⟩=some (.int .i64 y)) :
  Calls prog 34 #[.slice (some ⟨b,0,none⟩) 2 2] w fun e w'=>e=.returned (.int .i64 (orP x y))∧w=w':=by
 by_cases hx:x=0
 ·subst hx
  by_cases hy:y=0
  ·subst hy
   go_enter func34,ntmps34
   go_wp2
   refine wp_loop_rounds 3 ?_
   rw[rounds_succ]
   go_wp2
   rw[rounds_succ]
   go_wp2
   rw[rounds_succ]
   go_wp2
   go_ret
   exact⟨rfl,rfl⟩
  ·have hy':(y==0)=false:=by simpa using hy
   have hy2:(y != 0)=true:=by simpa using hy
   go_enter func34,ntmps34
   go_wp2
   refine wp_loop_rounds 3 ?_
   rw[rounds_succ]
   go_wp2
   rw[rounds_succ]
   go_wp2
   go_ret
   exact⟨rfl,rfl⟩
 ·have hx':(x==0)=false:=by simpa using hx
  have hx2:(x != 0)=true:=by simpa using hx
  have e:orP x y=x:=if_neg hx
  rw[e]
  clear hx e
  go_enter func34,ntmps34
  go_wp2
  refine wp_loop_rounds 3 ?_
  rw[rounds_succ]
  go_wp2
  go_ret
  exact⟨rfl,rfl⟩
def GG(w w':World):Prop:=∃q os,w'=grow (w.drewN q) os
theorem GG.refl(w:World):GG w w:=⟨0,#[],by unfold grow;simp[World.drewN]⟩
theorem GG.drew{w w':World}(h:GG w w'):GG w w'.drew:=by obtain⟨q,os,rfl⟩:=h;exact⟨q+1,os,rfl⟩
theorem GG.alloc{w w':World}(h:GG w w')(o:Obj):GG w (w'.alloc o):=by obtain⟨q,os,rfl⟩:=h;exact⟨q,os.push o,by rw[alloc_eq_grow,grow_grow];rfl⟩
theorem GG.nw{w w':World}(h:GG w w'):Nw w w':=by
 obtain⟨q,os,rfl⟩:=h
 refine⟨rfl,rfl,rfl,by rw[size_grow];exact Nat.le_add_right _ _,fun k hk=>?_⟩
 exact heap_grow_old _ _ hk
theorem GG.trans{a b c:World}(h:GG a b)(k:GG b c):GG a c:=by
 obtain⟨q,os,rfl⟩:=h
 obtain⟨q',os',rfl⟩:=k
 refine⟨q+q',os++os',?_⟩
 unfold grow World.drewN
 simp[Nat.add_assoc,Array.append_assoc]
abbrev Z6c(w:World)(t r t' r':Int)(a:World):Prop:=(a.cell? ⟨w.heap.size,0,none⟩=some (.int .i64 t)∧a.cell? ⟨w.heap.size,1,none⟩=some (.int .i64 r)∧a.cell? ⟨w.heap.size+1,0,none⟩=some (.int .i64 t')∧a.cell? ⟨w.heap.size+1,1,none⟩=some (.int .i64 r'))∧(w.heap.size+1<a.heap.size∧GG w a)
theorem Z32(w:World)(t r t' r':Int)(ty:TypeId):Z6c w t r t' r' (((w.alloc (.cells #[.int .i64 t,.int .i64 r] ty)).alloc (.cells #[.int .i64 t',.int .i64 r'] ty)).drew):=by
 have h1:=Z5 w (.cells #[.int .i64 t,.int .i64 r] ty)
 have hz:(w.alloc (.cells #[.int .i64 t,.int .i64 r] ty)).heap.size=w.heap.size+1:=by simp
 have h2:=Z5 (w.alloc (.cells #[.int .i64 t,.int .i64 r] ty)) (.cells #[.int .i64 t',.int .i64 r'] ty)
 have h3:=((Nw.refl (w.alloc (.cells #[.int .i64 t,.int .i64 r] ty))).alloc (.cells #[.int .i64 t',.int .i64 r'] ty)).at' h1
 rw[hz] at h2
 refine⟨⟨?_,?_,?_,?_⟩,?_,(((GG.refl w).alloc _).alloc _).drew⟩
 ·exact Z2 (j:=0) h3
 ·exact Z2 (j:=1) h3
 ·exact Z2 (j:=0) h2
 ·exact Z2 (j:=1) h2
 ·exact hlt h2
theorem Vz{w a b:World}{t r t' r':Int}(g:GG a b)(h:Z6c w t r t' r' a):Z6c w t r t' r' b:=by
 obtain⟨⟨h0,h1,h2,h3⟩,hs,hn⟩:=h
 exact⟨⟨g.nw.kp h0,g.nw.kp h1,g.nw.kp h2,g.nw.kp h3⟩,lL0 hs g.nw.sz,hn.trans g⟩
def Z2k(a b:Int × Int):Int:=orP (cP a.1 b.1) (cP a.2 b.2)
theorem U9(a b:Int × Int):ltOf Z2k a b=decide (nlt a b):=by
 obtain⟨a,a'⟩:=a
 obtain⟨b,b'⟩:=b
 unfold ltOf Z2k orP cP nlt
 rcases Int.lt_trichotomy a b with h | h | h
 ·simp[h]
 ·subst h
  rcases Int.lt_trichotomy a' b' with q | q | q
  ·simp[q]
  ·subst q;simp
  ·have:¬a'<b':=by omega
   simp[q,this]
 ·have h1:¬a<b:=by omega
  have h2:a≠b:=by omega
  simp[h,h1,h2]
theorem Z4r:SWO (ltOf Z2k) where
 irrefl x:=by rw[U9];simpa using Z6w x
 trans x y z h1 h2:=by rw[U9] at *;simp only[decide_eq_true_eq] at *;exact Z86 h1 h2
 ntrans x y z h1 h2:=by rw[U9] at *;simp only[decide_eq_false_iff_not] at *;intro h;unfold nlt at *;omega
end
structure Wd(S:World→Prop):Type where
 w:World
 h:S w
theorem Z4a{P:Program}{id:Nat}{Q:Exit→Act→World→Prop}{a:Act}{w:World}{l:List Oper}(S:World→Prop)(hm:P.follows .mixedOrders=true)(hB:Region.lexB .any l.toArray=true)(hS:S w.drew)
  (h:wpQuiet P l.toArray (fun w'=>∃d:Wd S,w'=d.w) (fun a'=>∀d:Wd S,Q .normal a' d.w) l a):(Code.region id l.toArray true).wp P Q a w:=by
 refine wp_region_quiet (C:=fun w'=>∃d:Wd S,w'=d.w) hm hB ⟨⟨w.drew,hS⟩,rfl⟩ ?_
 have e:(fun a'=>∀w',(∃d:Wd S,w'=d.w)→Q .normal a' w')=(fun a'=>∀d:Wd S,Q .normal a' d.w):=by
  funext a'
  exact propext ⟨fun H d=>H _ ⟨d,rfl⟩,fun H _ ⟨d,hd⟩=>hd▸H d⟩
 rw[e]
 simpa using h
theorem Z13{P:Program}{f:FuncId}{args:Array Value}{S:World→Prop}(hS:∀a b,S a→Nw a b→S b){d:Wd S}{v:Value}
  (h:Calls P f args d.w fun e w'=>e=.returned v∧Nw d.w w'):Calls P f args d.w fun e w''=>e=.returned v∧∃d':Wd S,w''=d'.w :=
 h.mono fun _ w'' ⟨he,hg⟩=>⟨he,⟨w'',hS _ _ d.h hg⟩,rfl⟩
abbrev IS(w:World)(v:Value)(l:List Int):Prop:=w.ownsRow 0 3 1 v l.length (l.map (Value.int .i64))
theorem IS.form{w:World}{v:Value}{l:List Int}(h:IS w v l):(v=.slice none 0 0∧l=[])∨∃g cap,v=.slice (some ⟨g,0,none⟩) l.length cap:=by
 rcases h.2 with⟨rfl,h0⟩ | ⟨g,cap,cur,rfl,_⟩
 ·exact .inl ⟨rfl,List.length_eq_zero_iff.1 h0⟩
 ·exact .inr ⟨g,cap,rfl⟩
theorem IS.tch{S:Nat→Prop}{w w':World}{v:Value}{l:List Int}(h:IS w v l)(k:Zc S w w')(hn:∀g,v.ownBlock=some g→¬S g):IS w' v l:=by
 refine⟨h.1,?_⟩
 rcases h.2 with h0 | ⟨g,cap,cur,rfl,hb,hg,rest⟩
 ·exact .inl h0
 ·exact .inr ⟨g,cap,cur,rfl,hb,(k.block g (Array.getElem?_eq_some_iff.1 hg).1 (hn g rfl)).trans hg,rest⟩
theorem IS.nw{w w':World}{v:Value}{l:List Int}(h:IS w v l)(k:Nw w w'):IS w' v l:=h.tch (Zc.nw (S:=fun _=>False) k) (fun _ _ e=>e)
theorem IS.nil(w:World):IS w (.slice none 0 0) []:=World.ownsRow_nil _ _ _ _
theorem IS.nlen{w:World}{g cap n:Nat}{l:List Int}(h:IS w (.slice (some ⟨g,0,none⟩) n cap) l):n=l.length:=by
 rcases h.2 with⟨h',_⟩ | ⟨g',cap',cur,h',_⟩
 ·simp at h'
 ·simp only[Value.slice.injEq] at h'
  exact h'.2.1
theorem IS.cell{w:World}{g cap n:Nat}{l:List Int}(h:IS w (.slice (some ⟨g,0,none⟩) n cap) l)(i:Nat)(hi:i<l.length):w.cell? ⟨g,i,none⟩=some (.int .i64 (l.getD i 0)):=by
 have e:=h.nlen
 subst e
 exact(World.ownsRow.cellAt h i (by omega)).trans (by simp[List.getD,hi])
theorem IS.frozen{w:World}{g cap n:Nat}{l:List Int}(h:IS w (.slice (some ⟨g,0,none⟩) n cap) l)(j:Nat):w.frozen? ⟨g,j,none⟩=false:=by
 have e:=h.nlen
 subst e
 exact World.ownsRow.frozenAt h j
theorem IS.lt{w:World}{v:Value}{l:List Int}(h:IS w v l){k:Nat}(hk:v.ownBlock=some k):k<w.heap.size:=(World.ownsRow.lt h k hk).2
theorem IS.glt{w:World}{g cap n:Nat}{l:List Int}(h:IS w (.slice (some ⟨g,0,none⟩) n cap) l):g<w.heap.size:=h.lt rfl
theorem IS.len{w:World}{v:Value}{l:List Int}(h:IS w v l):l.length≤maxLen:=by
 rcases h.2 with⟨rfl,h0⟩ | ⟨g',cap',cur,h',_,_,h1,h2,_⟩
 ·rw[h0];exact Nat.zero_le _
 ·exact Nat.le_trans h1 h2
theorem IS.box{w:World}{v:Value}{l:List Int}(h:IS w v l):∃ao cap,v=.slice ao l.length cap∧(0<l.length→∃g,ao=some ⟨g,0,none⟩∧v.ownBlock=some g):=by
 rcases h.form with⟨rfl,rfl⟩ | ⟨g,cap,rfl⟩
 ·exact⟨none,0,rfl,fun h=>by simp at h⟩
 ·exact⟨_,cap,rfl,fun _=>⟨g,rfl,rfl⟩⟩
theorem Z7m:(prog.info? 3).map (fun i=>(i.zero,i.size,i.bytes))=some (some (.int .i64 0),1,8):=by kernel_rfl
theorem IS.push(w:World)(v:Value)(l:List Int)(x:Int)(h:IS w v l)(hsm:l.length≤100000) :
  ∃v' w1,(Builtin.append_ #[36,36] 36 #[v,.slice (some ⟨w.heap.size,0,none⟩) 1 1]).run prog (w.alloc (.cells #[.int .i64 x] 3))=.ok v' w1∧IS w1 v' (l++[x])∧Zc (fun k=>v.ownBlock=some k) w w1 ∧
   (∀k,v'.ownBlock=some k→v.ownBlock=some k∨w.heap.size≤k)∧(∃g cap,v'=.slice (some ⟨g,0,none⟩) (l.length+1) cap):=by
 obtain⟨i0,hi,hz0,hz1,hz2⟩:=info_parts Z7m
 have ha:IS (w.alloc (.cells #[.int .i64 x] 3)) v l:=h.nw ((Nw.refl w).alloc _)
 have hc:(w.alloc (.cells #[.int .i64 x] 3)).cell? ⟨w.heap.size,0,none⟩=some (.int .i64 x):=by simp[go_sem]
 obtain⟨v',w1,hrun,ho,hg,hp⟩:=Yj (P:=prog) (w.alloc (.cells #[.int .i64 x] 3)) 0 36 36 3 i0 _ 1 8 underlying36 hi hz0 hz1 hz2 rfl (by decide) v l.length _ ha
  ⟨w.heap.size,0,none⟩ 1 1 [.int .i64 x] rfl (by
   intro j u hu
   match j,hu with
   | 0,hu=>simp at hu;subst hu;exact hc) (by simp[Value.oneCell']) (by unfold maxLen;omega) (by omega) (Nat.zero_le _)
 have hI:IS w1 v' (l++[x]):=by
  unfold IS
  rw[List.length_append,List.map_append]
  exact ho
 refine⟨v',w1,hrun,hI,(Zc.alloc (Zc.refl _ w) _).grown hg (fun k e=>.inl e),fun k e=>?_,?_⟩
 ·rcases hp with hp | hp
  ·exact .inl (hp▸e)
  ·rw[hp] at e
   simp at e
   exact .inr (by omega)
 ·rcases hI.form with⟨_,q⟩ | ⟨g,cap,rfl⟩
  ·simp at q
  ·exact⟨g,cap,by simp⟩
theorem Z4d(g cap g' cap':Nat)(l:List Int)(w:World)(h:IS w (.slice (some ⟨g,0,none⟩) l.length cap) l)(h':IS w (.slice (some ⟨g',0,none⟩) l.length cap') l) :
  Calls prog 10 #[.slice (some ⟨g,0,none⟩) l.length cap,.slice (some ⟨g',0,none⟩) l.length cap'] w fun e w'=>e=.returned (.bool true)∧Nw w w':=by
 have hm:=h.len
 unfold maxLen at hm
 have H:=hD0 (aI0 h h')
 clear h h'
 go_enter func10,ntmps10
 go_wp2
 go_loopw [5] (fun i wr=>∃k:Nat,k≤l.length∧i=.int .i64 k∧Nw w wr) (fun i _=>l.length-(intOf i).toNat)
 case atStart=>exact⟨0,Nat.zero_le _,rfl,Nw.refl _⟩
 case round =>
  obtain⟨k,hk,rfl,hG⟩:=hrel
  by_cases hlt:k<l.length
  ·have c0:=(H.out.1.nw hG).cell k hlt
   have d0:=(H.out.2.nw hG).cell k hlt
   generalize l.getD k 0=x at *
   go_wp2_with fail
   go_quiet (fail)
   go_wp2
   go_roundw
   case rel=>exact⟨k+1,by omega,by go_num,hG.drewN _⟩
   case measure=>simp[intOf];omega
  ·go_wp2
   go_ret
   exact⟨rfl,hG⟩
theorem Ut(w:World)(v v':Value)(h:(v=.slice none 0 0)∨∃g cap,v=.slice (some ⟨g,0,none⟩) 0 cap)(h':(v'=.slice none 0 0)∨∃g cap,v'=.slice (some ⟨g,0,none⟩) 0 cap) :
  Calls prog 10 #[v,v'] w fun e w'=>e=.returned (.bool true)∧Nw w w':=by
 rcases h with rfl | ⟨g,cap,rfl⟩<;>rcases h' with rfl | ⟨g',cap',rfl⟩
 all_goals
  go_enter func10,ntmps10
  go_wp2
  refine wp_loop_rounds 1 ?_
  repeat (rw[rounds_succ];go_wp2)
  go_ret
  exact⟨rfl,Nw.refl _⟩
theorem Vk(w:World)(v v':Value)(l:List Int)(h:IS w v l)(h':IS w v' l) :
  Calls prog 10 #[v,v'] w fun e w'=>e=.returned (.bool true)∧Nw w w':=by
 rcases h.form with⟨rfl,rfl⟩ | ⟨g,cap,rfl⟩
 ·rcases h'.form with⟨rfl,_⟩ | ⟨g',cap',rfl⟩
  ·exact Ut w _ _ (.inl rfl) (.inl rfl)
  ·exact Ut w _ _ (.inl rfl) (.inr ⟨_,_,rfl⟩)
 ·rcases h'.form with⟨rfl,rfl⟩ | ⟨g',cap',rfl⟩
  ·exact Ut w _ _ (.inr ⟨_,_,rfl⟩) (.inl rfl)
  ·exact Z4d g cap g' cap' l w h h'
def elt(a b:Int × Int):Prop:=a.1<b.1∨(a.1=b.1∧a.2<b.2)
instance (a b:Int × Int):Decidable (elt a b):=by unfold elt;infer_instance
theorem Z0x(a:Int × Int):¬elt a a:=by unfold elt;omega
theorem Z56{a b c:Int × Int}(h:elt a b)(k:elt b c):elt a c:=by unfold elt at *;omega
theorem Z0y(a b:Int × Int):elt a b∨a=b∨elt b a:=by
 obtain⟨a1,a2⟩:=a
 obtain⟨b1,b2⟩:=b
 unfold elt
 simp only[Prod.mk.injEq]
 omega
abbrev Zh(l:List (Int × Int)):Prop:=l.Pairwise elt
def V9(x:Int × Int):List (Int × Int)→List (Int × Int)
 | []=>[x]
 | a::t=>if elt a x then a::V9 x t else if a=x then a::t else x::a::t
theorem Z25{x y:Int × Int}:∀ {l:List (Int × Int)},y∈V9 x l↔y=x∨y∈l:=by
 intro l
 induction l with
 | nil=>simp[V9]
 | cons a t ih =>
  unfold V9
  split
  ·rw[List.mem_cons,ih,List.mem_cons]
   constructor
   ·rintro(h | h | h)
    ·exact .inr (.inl h)
    ·exact .inl h
    ·exact .inr (.inr h)
   ·rintro(h | h | h)
    ·exact .inr (.inl h)
    ·exact .inl h
    ·exact .inr (.inr h)
  ·split
   ·rename_i h
    subst h
    rw[List.mem_cons]
    exact⟨.inr,fun h=>h.elim .inl id⟩
   ·rw[List.mem_cons]
theorem Z5o{x:Int × Int}:∀ {l:List (Int × Int)},Zh l→Zh (V9 x l):=by
 intro l
 induction l with
 | nil=>intro _;simp[V9]
 | cons a t ih =>
  intro h
  have h':=List.pairwise_cons.1 h
  unfold V9
  split
  ·rename_i q
   refine List.pairwise_cons.2 ⟨fun y hy=>?_,ih h'.2⟩
   rcases Z25.1 hy with e | e
   ·rw[e];exact q
   ·exact h'.1 y e
  ·split
   ·exact h
   ·rename_i q1 q2
    have q3:elt x a:=(Z0y x a).resolve_right (fun k=>k.elim (fun e=>q2 e.symm) q1)
    refine List.pairwise_cons.2 ⟨fun y hy=>?_,h⟩
    rcases List.mem_cons.1 hy with e | e
    ·rw[e];exact q3
    ·exact Z56 q3 (h'.1 y e)
def sortE(l:List (Int × Int)):List (Int × Int):=l.foldl (fun o x=>V9 x o) []
theorem Z2d{l o:List (Int × Int)}(h:Zh o):Zh (l.foldl (fun o x=>V9 x o) o)∧∀y,y∈l.foldl (fun o x=>V9 x o) o↔y∈l∨y∈o:=by
 induction l generalizing o with
 | nil=>exact⟨h,fun y=>by simp⟩
 | cons a t ih =>
  obtain⟨h1,h2⟩:=ih (Z5o (x:=a) h)
  refine⟨h1,fun y=>?_⟩
  rw[List.foldl_cons,h2,Z25,List.mem_cons]
  constructor
  ·rintro(q | q | q)
   ·exact .inl (.inr q)
   ·exact .inl (.inl q)
   ·exact .inr q
  ·rintro((q | q) | q)
   ·exact .inr (.inl q)
   ·exact .inl q
   ·exact .inr (.inr q)
theorem V2(l:List (Int × Int)):Zh (sortE l):=(Z2d List.Pairwise.nil).1
theorem Y5{l:List (Int × Int)}{y:Int × Int}:y∈sortE l↔y∈l:=by
 have:=(Z2d (l:=l) List.Pairwise.nil).2 y
 simpa [sortE] using this
theorem Z3n:∀ {a b:List (Int × Int)},Zh a→Zh b→(∀x,x∈a↔x∈b)→a=b:=by
 intro a
 induction a with
 | nil =>
  intro b _ _ h
  cases b with
  | nil=>rfl
  | cons y t=>exact absurd ((h y).2 (by simp)) (by simp)
 | cons x s ih =>
  intro b ha hb h
  cases b with
  | nil=>exact absurd ((h x).1 (by simp)) (by simp)
  | cons y t =>
   have ha':=List.pairwise_cons.1 ha
   have hb':=List.pairwise_cons.1 hb
   have e:x=y:=by
    rcases List.mem_cons.1 ((h x).1 (by simp))with q | q
    ·exact q
    ·rcases List.mem_cons.1 ((h y).2 (by simp))with k | k
     ·exact k.symm
     ·exact absurd (Z56 (hb'.1 x q) (ha'.1 y k)) (Z0x y)
   subst e
   rw[ih ha'.2 hb'.2 fun z=>?_]
   constructor
   ·intro hz
    rcases List.mem_cons.1 ((h z).1 (List.mem_cons_of_mem _ hz))with q | q
    ·subst q;exact absurd (ha'.1 z hz) (Z0x z)
    ·exact q
   ·intro hz
    rcases List.mem_cons.1 ((h z).2 (List.mem_cons_of_mem _ hz))with q | q
    ·subst q;exact absurd (hb'.1 z hz) (Z0x z)
    ·exact q
theorem Z5v{l o:List (Int × Int)}(h:Zh o)(hm:∀x,x∈o↔x∈l):o=sortE l:=Z3n h (V2 l) fun x=>(hm x).trans Y5.symm
abbrev Ya(l:List (Int × Int))(a b:Int):Prop:=Relation.TransGen (fun x y=>(x,y)∈l) a b
theorem Z8b{l:List (Int × Int)}{a:Int}{out:List Int}(cl:∀x y,(x,y)∈l→x=a∨x∈out→y∈out)(so:∀y∈out,Ya l a y)(y:Int):y∈out↔Ya l a y:=by
 refine⟨so y,fun h=>?_⟩
 induction h with
 | single h=>exact cl _ _ h (.inl rfl)
 | tail _ h ih=>exact cl _ _ h (.inr ih)
theorem Z27{l m:List (Int × Int)}(h:∀x∈l,x∈m){a b:Int}(r:Ya l a b):Ya m a b:=by
 induction r with
 | single q=>exact .single (h _ q)
 | tail _ q ih=>exact .tail ih (h _ q)
theorem Yh{l:List (Int × Int)}{a b:Int}(r:Ya l a b):∃y,(a,y)∈l:=by
 induction r with
 | single q=>exact⟨_,q⟩
 | tail _ _ ih=>exact ih
def Z38(l:List (Int × Int))(t:Int):List (Int × Int):=l.filter fun e=>!decide (e.1=t)&&!decide (e.2=t)
inductive Way (l:List (Int × Int)):Int→Nat→Int→Prop
 | one {a b:Int} (h:(a,b)∈l):Way l a 1 b
 | step {a x b:Int} {n:Nat} (h:(a,x)∈l) (r:Way l x n b):Way l a (n+1) b
theorem Yp{l:List (Int × Int)}{a b:Int}{n:Nat}(w:Way l a n b):0<n:=by
 cases w with
 | one _=>exact Nat.one_pos
 | step _ _=>exact Nat.succ_pos _
theorem Z67{l:List (Int × Int)}{a x b:Int}{n:Nat}(w:Way l a n x)(h:(x,b)∈l):Way l a (n+1) b:=by
 induction w with
 | one q=>exact .step q (.one h)
 | step q _ ih=>exact .step q (ih h)
def Far(l:List (Int × Int))(a b:Int)(n:Nat):Prop:=Way l a n b∧∀m,Way l a m b→n≤m
theorem Z58{l:List (Int × Int)}{a b:Int}{n m:Nat}(h:Far l a b n)(k:Far l a b m):n=m:=Nat.le_antisymm (h.2 _ k.1) (k.2 _ h.1)
inductive Greedy (l:List (Int × Int)) (b:Int):Int→Nat→List Int→Prop
 | last {a:Int} (h:(a,b)∈l):Greedy l b a 1 []
 | step {a x:Int} {n:Nat} {r:List Int} (h:(a,x)∈l) (f:Far l x b (n+1)) (m:∀y,(a,y)∈l→Far l y b (n+1)→x≤y) (g:Greedy l b x (n+1) r):Greedy l b a (n+2) (x::r)
theorem Z1w{l:List (Int × Int)}{b:Int}:∀ {n:Nat} {a:Int} {r r':List Int},Greedy l b a n r→Greedy l b a n r'→r=r':=by
 intro n
 induction n with
 | zero=>intro a r r' h _;cases h
 | succ n ih =>
  intro a r r' h k
  cases h with
  | last h=>cases k with
   | last _=>rfl
  | step h f m g=>cases k with
   | step h' f' m' g' =>
    obtain rfl:=Int.le_antisymm (m _ h' f') (m' _ h f)
    rw[ih g g']
end Go.Proofs.Ytpmlaphjlghpmaa
