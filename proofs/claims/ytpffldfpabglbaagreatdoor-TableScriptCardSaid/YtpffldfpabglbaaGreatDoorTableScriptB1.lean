/- Texts merged: Nw, ModeA, QuM, QuS, QuP, QuH, BkM, PoM, PhM, PoF, BkB, BkO, BkP, Tch -/
import Derived.Test.YtpffldfpabglbaaGreatDoorRows
import Derived.WalkKit
import Derived.Lib.Hide
import Derived.Deep.Draws
import Derived.ProofKit
import Derived.OpenShut
import Derived.ShutString
import Derived.Deep.WholeRow
import Derived.Outline
import Derived.LoopTactic
import Derived.WalkSpells
import Derived.Laws.OwnMore
import Derived.WalkSmall
set_option linter.unusedVariables false
set_option maxRecDepth 100000
set_option maxHeartbeats 16000000
namespace Go.Proofs.YtpffldfpabglbaaGreatDoor
theorem dF0{p:Prop}[Decidable p](h:¬p):decide p=false:=decide_eq_false h
theorem dT0{p:Prop}[Decidable p](h:p):decide p=true:=decide_eq_true h
theorem aI0{p q:Prop}(h:p)(k:q):p∧q:=⟨h,k⟩
theorem lL0{a b c:Nat}(h:a<b)(k:b≤c):a<c:=Nat.lt_of_lt_of_le h k
theorem gM0{α:Type _}{l:List α}{n:Nat}(h:n<l.length):l[n]∈l:=List.getElem_mem h
theorem hD0{p:Prop}(h:p):RowKit.Hid p:=h
open Go.RowKit _root_.Go.Proofs.Tryz
section
def Nw(w w':World):Prop:=Below w.heap.size w w'
theorem Nw.refl(w:World):Nw w w:=Below.refl _ _
theorem Nw.trans{a b c:World}(h:Nw a b)(k:Nw b c):Nw a c:=Below.trans h (Below.mono k h.size)
theorem Nw.alloc{w w':World}(h:Nw w w')(o:Obj):Nw w (w'.alloc o):=Below.alloc h h.size o
theorem Nw.drewN{w w':World}(h:Nw w w')(n:Nat):Nw w (w'.drewN n):=⟨h.os,h.tape,h.output,h.size,h.block⟩
theorem Nw.sz{w w':World}(h:Nw w w'):w.heap.size≤w'.heap.size:=Below.size h
theorem Nw.cell{w w':World}(h:Nw w w'){b o:Nat}(hb:b<w.heap.size):w'.cell? ⟨b,o,none⟩=w.cell? ⟨b,o,none⟩:=Below.cell h hb
theorem Nw.below{B:Nat}{w w1 w2:World}(h:Below B w w1)(k:Nw w1 w2)(hB:B≤w1.heap.size):Below B w w2:=Below.trans h (Below.mono k hB)
theorem Nw.grownBy{w w':World}(h:Nw w w')(row:Option Nat):w.grownBy w' row:=⟨h.os,h.tape,h.output,h.size,fun k hk _=>h.block k hk⟩
variable {P:Program}
theorem Um(w:World)(base:Nat)(t ty e:TypeId)(i:TypeInfo)(z:Value)(size bytes:Nat)(ht:P.underlying t=some (.slice e))(hi:P.info? e=some i)(hz:i.zero=some z)
  (hsize:i.size=size) (hby:i.bytes=bytes) (hzs:z.cells.size=size) (hsz:0<size)
  (v:Value) (n:Nat) (xs:List Value) (hown:w.ownsRow base e size v n xs)
  (a:Addr) (m c:Nat) (news:List Value) (hl:news.length=m*size) (hnews:∀j u,news[j]?=some u→w.cell? (a.add j)=some u) (h1:∀u∈news,u.oneCell'=true)
  (h63:n+m≤maxLen) (hbytes:(n+m)*bytes≤140737488355328) (hbase:base≤w.heap.size) :
  ∃v' w',(Builtin.append_ #[t,t] ty #[v,.slice (some a) m c]).run P w=.ok v' w'∧w'.ownsRow base e size v' (n+m) (xs++news)∧w.grownBy w' v.ownBlock ∧
   (v'.ownBlock=v.ownBlock∨v'.ownBlock=some w.heap.size):=by
 obtain⟨v',w',hr,g1,g2,g3⟩:=run_append_own (P:=P) w base t ty e i z size bytes ht hi hz hsize hby hzs hsz v n xs hown a m c news hl hnews h1 h63 hbytes hbase
 refine⟨v',w',hr,g1,g2,?_⟩
 have h63':((n+m:Nat):Int)≤9223372036854775807:=by unfold maxLen at h63;omega
 subst hsize
 subst hby
 rcases hown.2 with⟨rfl,rfl⟩ | ⟨g,cap,cur,rfl,hbg,hg,hnc,hcm,hcs,htake⟩
 ·by_cases hm:m=0
  ·have e1:=g3.2 ⟨rfl,hm⟩
   subst e1
   exact .inl rfl
  ·have hr2:=run_append_nil (P:=P) w t ty e i z ht hi hz a m c news hl hnews (by omega) (by omega) (by simp only[Nat.zero_add] at hbytes;omega)
   rw[hr2] at hr
   injection hr with e1 _
   subst e1
   exact .inr rfl
 ·by_cases hroom:n+m≤cap
  ·have hfit:n*i.size+news.length≤cur.size:=by rw[hl,hcs,←Nat.add_mul];exact Nat.mul_le_mul_right _ hroom
   have hr2:=run_append_room (P:=P) w t ty e i ht hi g n cap cur hg a m c news hl hnews h1 hroom hfit
   rw[hr2] at hr
   injection hr with e1 _
   subst e1
   exact .inl rfl
  ·have hr2:=run_append_grow (P:=P) w t ty e i z ht hi hz ⟨g,0,none⟩ n cap xs hown.1 (hown.cells (g:=g) rfl) a m c news hl hnews (by omega) h63' (growslice_fits (by omega) hbytes)
   rw[hr2] at hr
   injection hr with e1 _
   subst e1
   exact .inr rfl
end
section
open Go.ChangeShapes Go.WideShapes Go.ChangeAt Go.RowKit
theorem Z2x(m:Int)(w:World)(h0:0≤m)(h1:m<7) :
  Calls prog 208 #[.int .i64 m] w fun e w'=>e=.returned (.bool true)∧w=w':=by
 go_enter func208,ntmps208
 go_wp2
 go_ret
 exact⟨rfl,rfl⟩
theorem Zd2(m:Int)(w:World)(h:m<0∨7≤m) :
  Calls prog 208 #[.int .i64 m] w fun e w'=>e=.returned (.bool false)∧w=w':=by
 rcases h with h | h
 ·go_enter func208,ntmps208
  go_wp2
  go_ret
  exact⟨rfl,rfl⟩
 ·have h0:0≤m:=by omega
  have hd:decide (m<7)=false:=by simp;omega
  go_enter func208,ntmps208
  go_wp2
  go_ret
  exact⟨rfl,rfl⟩
def Zxx:List Int:=[0,1,2,3,4,5,6,1,1,2,3,4,5,6,2,2,2,4,4,6,6,3,3,4,3,4,5,6,4,4,4,4,4,6,6,5,5,6,5,6,5,6,6,6,6,6,6,6,6]
def Zbl:Array Value:=(Zxx.map (Value.int .i64)).toArray
def Yi(a b:Int):Int:=Zxx.getD (a.toNat*7+b.toNat) 0
theorem Zkt(a b:Int)(ha:0≤a)(ha':a<7)(hb:0≤b)(hb':b<7):Zbl[a.toNat*7+b.toNat]?=some (.int .i64 (Yi a b)):=by
 have h:a.toNat*7+b.toNat<Zxx.length:=by show _<49;omega
 unfold Zbl Yi
 simp[List.getElem?_eq_getElem h,List.getD]
theorem Ztt:(prog.info? 235).map (·.size)=some 49:=by kernel_rfl
theorem Zxy:Zbl.all (·.oneCell')=true:=by kernel_rfl
def Zvs:List Bool:=[true,true,true,true,true,true,true,true,true,true,true,true,true,false,true,true,true,false,false,false,false,true,true,false,true,false,true,false,true,true,false,false,false,false,false,true,true,false,true,false,false,false,true,false,false,false,false,false,false]
def Zac:Array Value:=(Zvs.map Value.bool).toArray
def Z3k(a b:Int):Bool:=Zvs.getD (a.toNat*7+b.toNat) false
theorem Zjg(a b:Int)(ha:0≤a)(ha':a<7)(hb:0≤b)(hb':b<7):Zac[a.toNat*7+b.toNat]?=some (.bool (Z3k a b)):=by
 have h:a.toNat*7+b.toNat<Zvs.length:=by show _<49;omega
 unfold Zac Z3k
 simp[List.getElem?_eq_getElem h,List.getD]
theorem Zr8:(prog.info? 251).map (·.size)=some 49:=by kernel_rfl
theorem Zvt:Zac.all (·.oneCell')=true:=by kernel_rfl
theorem Zy0(a b:Int)(w:World)(ha:0≤a)(ha':a<7)(hb:0≤b)(hb':b<7) :
  Calls prog 180 #[.int .i64 a,.int .i64 b] w fun e w'=>e=.returned (.int .i64 (Yi a b))∧Nw w w':=by
 have hT:=Zkt a b ha ha' hb hb'
 go_enter func180,ntmps180
 go_wp2_with (first | (go_at_call 208;refine(Z2x _ _ (by omega) (by omega)).mono ?_;rintro e w' ⟨rfl,rfl⟩) | (refine wpList_store_row rfl 235 _ _ rfl _ Zbl rfl rfl 235 _ (heap_alloc_last _ _) Ztt rfl Zxy ?_;rw[World.setRow_alloc_new]))
 go_ret
 exact⟨rfl,(Nw.refl _).alloc _⟩
theorem Zvu(a b:Int)(w:World)(ha:0≤a)(ha':a<7)(hb:0≤b)(hb':b<7) :
  Calls prog 226 #[.int .i64 a,.int .i64 b] w fun e w'=>e=.returned (.bool (Z3k a b))∧Nw w w':=by
 have hT:=Zjg a b ha ha' hb hb'
 go_enter func226,ntmps226
 go_wp2_with (first | (go_at_call 208;refine(Z2x _ _ (by omega) (by omega)).mono ?_;rintro e w' ⟨rfl,rfl⟩) | (refine wpList_store_row rfl 251 _ _ rfl _ Zac rfl rfl 251 _ (heap_alloc_last _ _) Zr8 rfl Zvt ?_;rw[World.setRow_alloc_new]))
 go_ret
 exact⟨rfl,(Nw.refl _).alloc _⟩
end
structure Rq where
 id:Int
 txn:Int
 md:Int
 wt:Int
 sn:Int
def Zr(m:Int):Bool:=decide (0≤m)&&decide (m<7)
def U2(a b:Int):Bool:=(Zr a&&Zr b)&&Z3k a b
def cvI(a b:Int):Bool:=(Zr a&&Zr b)&&(Yi a b==a)
theorem Va(m:Int):Zr m=true↔0≤m∧m<7:=by simp[Zr]
theorem Z2u{p:Int→Int→Bool}(h:∀i<7,∀j<7,p (Int.ofNat i) (Int.ofNat j)=true)(a b:Int)(ha:Zr a=true)(hb:Zr b=true):p a b=true:=by
 rw[Va] at ha hb
 obtain⟨i,rfl⟩:=Int.eq_ofNat_of_zero_le ha.1
 obtain⟨j,rfl⟩:=Int.eq_ofNat_of_zero_le hb.1
 exact h i (by omega) j (by omega)
theorem Zad:∀i<7,∀j<7,(Z3k (Int.ofNat i) (Int.ofNat j)==Z3k (Int.ofNat j) (Int.ofNat i))=true:=by decide +kernel
theorem Zm0(a b:Int)(ha:Zr a=true)(hb:Zr b=true):Z3k a b=Z3k b a:=by
 have:=Z2u (p:=fun a b=>Z3k a b==Z3k b a) Zad a b ha hb
 simpa using this
theorem Zgl:∀i<7,∀j<7,Zr (Yi (Int.ofNat i) (Int.ofNat j))=true:=by decide +kernel
theorem Zpt(a b:Int)(ha:Zr a=true)(hb:Zr b=true):Zr (Yi a b)=true:=Z2u (p:=fun a b=>Zr (Yi a b)) Zgl a b ha hb
theorem Z5s:∀i<7,∀j<7,(cvI (Int.ofNat i) 0&&(cvI 0 (Int.ofNat j)==(Int.ofNat j==0)))=true:=by decide +kernel
theorem Zr9(a:Int)(ha:Zr a=true):cvI a 0=true:=by
 have:=Z2u (p:=fun a b=>cvI a 0&&(cvI 0 b==(b==0))) Z5s a a ha ha
 simp at this
 exact this.1
theorem Zud(a:Int)(ha:Zr a=true)(h:a≠0):cvI 0 a=false:=by
 have:=Z2u (p:=fun a b=>cvI a 0&&(cvI 0 b==(b==0))) Z5s a a ha ha
 simp at this
 rw[this.2]
 simpa using h
theorem Z8e:∀i<7,∀j<7,((Yi (Int.ofNat i) (Int.ofNat j)==Int.ofNat i)==cvI (Int.ofNat i) (Yi (Int.ofNat i) (Int.ofNat j))&&(Int.ofNat i==0 || Yi (Int.ofNat i) (Int.ofNat j) != 0))=true:=by decide +kernel
theorem Zxz(a b:Int)(ha:Zr a=true)(hb:Zr b=true)(h:Yi a b≠a):cvI a (Yi a b)=false:=by
 have:=Z2u (p:=fun a b=>(Yi a b==a)==cvI a (Yi a b)&&(a==0 || Yi a b != 0)) Z8e a b ha hb
 simp only[Bool.and_eq_true,beq_iff_eq] at this
 rw[←this.1]
 simpa using h
theorem Zpu(a b:Int)(ha:Zr a=true)(hb:Zr b=true)(h:a≠0):Yi a b≠0:=by
 have:=Z2u (p:=fun a b=>(Yi a b==a)==cvI a (Yi a b)&&(a==0 || Yi a b != 0)) Z8e a b ha hb
 simp only[Bool.and_eq_true,beq_iff_eq,Bool.or_eq_true,bne_iff_ne] at this
 exact this.2.resolve_left h
theorem Zuu(a b:Int)(ha:Zr a=true)(hb:Zr b=true):U2 a b=Z3k a b:=by simp[U2,ha,hb]
theorem Zh7(a b:Int):U2 a b=U2 b a:=by
 unfold U2
 by_cases ha:Zr a=true
 ·by_cases hb:Zr b=true
  ·rw[ha,hb,Zm0 a b ha hb]
  ·simp[hb]
 ·simp[ha]
structure Rt(W:Int)(r:Rq):Prop where
 id:0≤r.id
 md:Zr r.md=true
 wt:Zr r.wt=true
 s0:0≤r.sn
 sW:r.sn≤W
 w:0<r.sn→cvI r.md r.wt=false
 h:r.sn=0→r.md≠0∧r.wt=r.md
structure Pr(a b:Rq):Prop where
 id:a.id≠b.id
 txn:a.txn≠b.txn
 sn:0<a.sn→a.sn≠b.sn
 ord:a.md=0→b.md=0∧a.sn<b.sn
 cp:a.md≠0→b.md≠0→U2 a.md b.md=true
structure Ok(W:Int)(q:List Rq):Prop where
 w0:0≤W
 wB:W≤4611686018427387904
 rt:∀r∈q,Rt W r
 pr:q.Pairwise Pr
theorem Rt.w'{W:Int}{r:Rq}(h:Rt W r)(z:r.md=0):0<r.sn:=by
 have:=h.h
 have h0:=h.s0
 rcases Int.lt_or_eq_of_le h0 with q | q
 ·exact q
 ·exact absurd z (this q.symm).1
theorem Rt.wne{W:Int}{r:Rq}(h:Rt W r):r.wt≠0:=by
 intro z
 rcases Int.lt_or_eq_of_le h.s0 with q | q
 ·have:=h.w q
  rw[z,Zr9 _ h.md] at this
  cases this
 ·have:=h.h q.symm
  exact this.1 (this.2.symm.trans z)
theorem Rt.mono{W W':Int}{r:Rq}(h:Rt W r)(hW:W≤W'):Rt W' r:=⟨h.id,h.md,h.wt,h.s0,Int.le_trans h.sW hW,h.w,h.h⟩
def blk(r o:Rq):Bool:=((o.md != 0)&&!U2 o.md r.wt) || ((o.md != 0)&&decide (0<o.sn)&&((r.md==0) || decide (o.sn<r.sn))) || ((r.md==0)&&(o.md==0)&&decide (o.sn<r.sn))
def V4(q:List Rq)(r:Rq):Bool:=decide (0<r.sn)&&q.all fun o=>(o.id==r.id) || !blk r o
def chg(f:Rq→Rq)(id:Int)(q:List Rq):List Rq:=q.map fun r=>if r.id=id then f r else r
def Z00(r:Rq):Rq:=⟨r.id,r.txn,r.wt,r.wt,0⟩
def lvQ(id:Int)(q:List Rq):List Rq:=q.filter fun r=>!(r.id==id)
def abR(r:Rq):Rq:=⟨r.id,r.txn,r.md,r.md,0⟩
def Yr(q:List Rq)(id:Int):Option Rq:=q.find? fun r=>r.id==id
def abQ(r:Rq)(q:List Rq):List Rq:=if r.md=0 then lvQ r.id q else chg abR r.id q
def Z12(q:List Rq)(id txn m:Int):Int:=if id<0∨m=0∨Zr m=false then 2 else if (q.any fun r=>r.id==id || r.txn==txn)=true then 4 else 0
def free(q:List Rq)(m:Int):Bool:=q.all fun r=>r.sn==0&&U2 r.md m
def Yv(W:Int)(q:List Rq)(id txn m:Int):Int × List Rq × Bool:=if free q m=true then(W,q++[⟨id,txn,m,m,0⟩],true) else(W+1,q++[⟨id,txn,0,m,W+1⟩],false)
def upF(q:List Rq)(r:Rq)(want:Int):Bool:=q.all fun o=>(o.id==r.id) || (!(decide (0<o.sn)&&(o.md != 0))&&((o.md==0) || U2 o.md want))
def upQ(W:Int)(q:List Rq)(r:Rq)(m:Int):Int × List Rq × Bool :=
 if Yi r.md m=r.md then(W,q,true)
 else if upF q r (Yi r.md m)=true then(W,chg (fun x=>⟨x.id,x.txn,Yi r.md m,Yi r.md m,0⟩) r.id q,true)
 else(W+1,chg (fun x=>⟨x.id,x.txn,x.md,Yi r.md m,W+1⟩) r.id q,false)
section
variable {W:Int} {q:List Rq}
theorem Ok.inj(h:Ok W q):∀a∈q,∀b∈q,a.id=b.id→a=b:=by
 have hp:=h.pr
 clear h
 induction hp with
 | nil=>intro a ha;cases ha
 | cons hx _ ih =>
  intro a ha b hb e
  rcases List.mem_cons.1 ha with rfl | ha'
  ·rcases List.mem_cons.1 hb with rfl | hb'
   ·rfl
   ·exact absurd e (hx b hb').id
  ·rcases List.mem_cons.1 hb with rfl | hb'
   ·exact absurd e.symm (hx a ha').id
   ·exact ih a ha' b hb' e
theorem Ok.injT(h:Ok W q):∀a∈q,∀b∈q,a.txn=b.txn→a=b:=by
 have hp:=h.pr
 clear h
 induction hp with
 | nil=>intro a ha;cases ha
 | cons hx _ ih =>
  intro a ha b hb e
  rcases List.mem_cons.1 ha with rfl | ha'
  ·rcases List.mem_cons.1 hb with rfl | hb'
   ·rfl
   ·exact absurd e (hx b hb').txn
  ·rcases List.mem_cons.1 hb with rfl | hb'
   ·exact absurd e.symm (hx a ha').txn
   ·exact ih a ha' b hb' e
theorem Ok.injS(h:Ok W q):∀a∈q,∀b∈q,0<a.sn→a.sn=b.sn→a=b:=by
 have hp:=h.pr
 clear h
 induction hp with
 | nil=>intro a ha;cases ha
 | cons hx _ ih =>
  intro a ha b hb h0 e
  rcases List.mem_cons.1 ha with rfl | ha'
  ·rcases List.mem_cons.1 hb with rfl | hb'
   ·rfl
   ·exact absurd e ((hx b hb').sn h0)
  ·rcases List.mem_cons.1 hb with rfl | hb'
   ·exact absurd e.symm ((hx a ha').sn (e▸h0))
   ·exact ih a ha' b hb' h0 e
theorem Z7x(h:Ok W q){W':Int}(hW:W≤W')(hB:W'≤4611686018427387904)(f:Rq→Rq)(r:Rq)(hr:r∈q)(hrt:Rt W' (f r))
  (h1:∀a∈q,a.id≠r.id→Pr a r→Pr a (f r)) (h2:∀b∈q,b.id≠r.id→Pr r b→Pr (f r) b):Ok W' (chg f r.id q):=by
 have hw:=h.w0
 refine⟨by omega,hB,fun x hx=>?_,?_⟩
 ·obtain⟨y,hy,rfl⟩:=List.mem_map.1 hx
  by_cases e:y.id=r.id
  ·rw[if_pos e,h.inj y hy r hr e];exact hrt
  ·rw[if_neg e];exact(h.rt y hy).mono hW
 ·unfold chg
  rw[List.pairwise_map]
  refine h.pr.imp_of_mem fun {a b} ha hb hp=>?_
  by_cases e1:a.id=r.id
  ·obtain rfl:=h.inj a ha r hr e1
   rw[if_pos rfl,if_neg (fun e=>hp.id e.symm)]
   exact h2 b hb (fun e=>hp.id e.symm) hp
  ·by_cases e2:b.id=r.id
   ·obtain rfl:=h.inj b hb r hr e2
    rw[if_neg e1,if_pos rfl]
    exact h1 a ha e1 hp
   ·rw[if_neg e1,if_neg e2]
    exact hp
theorem Zi5(h:Ok W q)(id:Int):Ok W (lvQ id q):=⟨h.w0,h.wB,fun r hr=>h.rt r (List.mem_filter.1 hr).1,h.pr.filter _⟩
theorem Zi4(h:Ok W q)(r:Rq)(hr:r∈q):Ok W (abQ r q):=by
 unfold abQ
 by_cases z:r.md=0
 ·rw[if_pos z];exact Zi5 h _
 ·rw[if_neg z]
  have t:=h.rt r hr
  refine Z7x h (Int.le_refl _) h.wB abR r hr ⟨t.id,t.md,t.md,Int.le_refl _,h.w0,fun e=>absurd e (Int.lt_irrefl _),fun _=>⟨z,rfl⟩⟩ (fun a ha ne p=>?_) (fun b hb ne p=>?_)
  ·exact⟨p.id,p.txn,fun e=>by show a.sn≠0;omega,fun e=>absurd (p.ord e).1 z,p.cp⟩
  ·exact⟨p.id,p.txn,fun e=>absurd e (Int.lt_irrefl _),fun e=>absurd e z,p.cp⟩
theorem Zfu(h:Ok W q)(id txn m:Int)(he:Z12 q id txn m=0)(hB:W+1≤4611686018427387904):Ok (Yv W q id txn m).1 (Yv W q id txn m).2.1:=by
 unfold Z12 at he
 split at he
 ·cases he
 split at he
 ·cases he
 rename_i h1 h2
 have hi:0≤id:=Int.not_lt.1 fun e=>h1 (.inl e)
 have hm0:m≠0:=fun e=>h1 (.inr (.inl e))
 have hmk:Zr m=true:=by
  cases e:Zr m with
  | true=>rfl
  | false=>exact absurd (.inr (.inr e)) h1
 have hn:∀a∈q,a.id≠id∧a.txn≠txn:=by
  intro a ha
  have:=fun e=>h2 (List.any_eq_true.2 ⟨a,ha,e⟩)
  simpa using this
 have hw:=h.w0
 unfold Yv
 by_cases hf:free q m=true
 ·rw[if_pos hf]
  have hf':∀a∈q,a.sn=0∧U2 a.md m=true:=by
   intro a ha
   have:=List.all_eq_true.1 hf a ha
   simpa using this
  refine⟨hw,h.wB,fun r hr=>?_,?_⟩
  ·rcases List.mem_append.1 hr with hr | hr
   ·exact h.rt r hr
   ·rw[List.mem_singleton] at hr;subst hr
    exact⟨hi,hmk,hmk,Int.le_refl _,hw,fun e=>absurd e (Int.lt_irrefl _),fun _=>⟨hm0,rfl⟩⟩
  ·rw[List.pairwise_append]
   refine⟨h.pr,List.pairwise_singleton _ _,fun a ha b hb=>?_⟩
   rw[List.mem_singleton] at hb;subst hb
   obtain⟨s0,c0⟩:=hf' a ha
   exact⟨(hn a ha).1,(hn a ha).2,fun e=>by omega,fun e=>absurd e ((h.rt a ha).h s0).1,fun _ _=>c0⟩
 ·rw[if_neg hf]
  refine⟨by show 0≤W+1;omega,hB,fun r hr=>?_,?_⟩
  ·rcases List.mem_append.1 hr with hr | hr
   ·exact(h.rt r hr).mono (by show W≤W+1;omega)
   ·rw[List.mem_singleton] at hr;subst hr
    exact⟨hi,rfl,hmk,by show 0≤W+1;omega,Int.le_refl _,fun _=>Zud m hmk hm0,fun e=>by simp only at e;omega⟩
  ·rw[List.pairwise_append]
   refine⟨h.pr,List.pairwise_singleton _ _,fun a ha b hb=>?_⟩
   rw[List.mem_singleton] at hb;subst hb
   have s:=(h.rt a ha).sW
   exact⟨(hn a ha).1,(hn a ha).2,fun e=>by show a.sn≠W+1;omega,fun e=>⟨rfl,by show a.sn<W+1;omega⟩,fun _ e=>absurd rfl e⟩
theorem Zv7(h:Ok W q)(r:Rq)(hr:r∈q)(m:Int)(hs:r.sn=0)(hm:Zr m=true)(hB:W+1≤4611686018427387904):Ok (upQ W q r m).1 (upQ W q r m).2.1:=by
 have t:=h.rt r hr
 have z:=(t.h hs).1
 have hk:=Zpt r.md m t.md hm
 have hw:=h.w0
 unfold upQ
 by_cases c:Yi r.md m=r.md
 ·rw[if_pos c];exact h
 ·rw[if_neg c]
  have hne:=Zpu r.md m t.md hm z
  by_cases f:upF q r (Yi r.md m)=true
  ·rw[if_pos f]
   have f':∀o∈q,o.id≠r.id→o.md≠0→U2 o.md (Yi r.md m)=true:=by
    intro o ho ne hz
    have:=List.all_eq_true.1 f o ho
    simp[ne,hz] at this
    exact this.2
   refine Z7x h (Int.le_refl _) h.wB _ r hr ⟨t.id,hk,hk,Int.le_refl _,hw,fun e=>absurd e (Int.lt_irrefl _),fun _=>⟨hne,rfl⟩⟩ (fun a ha ne p=>?_) (fun b hb ne p=>?_)
   ·exact⟨p.id,p.txn,fun e=>by show a.sn≠0;omega,fun e=>absurd (p.ord e).1 z,fun e _=>f' a ha ne e⟩
   ·exact⟨p.id,p.txn,fun e=>absurd e (Int.lt_irrefl _),fun e=>absurd e hne,fun _ e=>by rw[Zh7];exact f' b hb ne e⟩
  ·rw[if_neg f]
   refine Z7x h (by show W≤W+1;omega) hB _ r hr ⟨t.id,t.md,hk,by show 0≤W+1;omega,Int.le_refl _,fun _=>Zxz r.md m t.md hm c,fun e=>by simp only at e;omega⟩ (fun a ha ne p=>?_) (fun b hb ne p=>?_)
   ·have s:=(h.rt a ha).sW
    exact⟨p.id,p.txn,fun e=>by show a.sn≠W+1;omega,fun e=>absurd (p.ord e).1 z,p.cp⟩
   ·have s:=(h.rt b hb).sW
    exact⟨p.id,p.txn,fun e=>by show W+1≠b.sn;omega,fun e=>absurd e z,p.cp⟩
theorem Z5h{r o:Rq}(hc:V4 q r=true)(ho:o∈q)(ne:o.id≠r.id):blk r o=false:=by
 unfold V4 at hc
 rw[Bool.and_eq_true] at hc
 have:=List.all_eq_true.1 hc.2 o ho
 simpa [ne] using this
theorem Z13{r:Rq}(hc:V4 q r=true):0<r.sn:=by
 unfold V4 at hc
 rw[Bool.and_eq_true] at hc
 simpa using hc.1
theorem Za7{r o:Rq}(h:blk r o=false):(o.md≠0→U2 o.md r.wt=true)∧(o.md≠0→0<o.sn→r.md≠0∧r.sn≤o.sn)∧(r.md=0→o.md=0→r.sn≤o.sn):=by
 unfold blk at h
 simp only[Bool.or_eq_false_iff,Bool.and_eq_false_iff,bne_eq_false_iff_eq,Bool.not_eq_false',decide_eq_false_iff_not,beq_eq_false_iff_ne,Int.not_lt] at h
 obtain⟨⟨h1,h2⟩,h3⟩:=h
 refine⟨fun z=>h1.resolve_left z,fun z s=>?_,fun z z'=>?_⟩
 ·rcases h2 with(h2 | h2) | h2
  ·exact absurd h2 z
  ·omega
  ·exact h2
 ·rcases h3 with(h3 | h3) | h3
  ·exact absurd z h3
  ·exact absurd z' h3
  ·exact h3
theorem Zxa(h:Ok W q)(r:Rq)(hr:r∈q)(hc:V4 q r=true):Ok W (chg Z00 r.id q):=by
 have t:=h.rt r hr
 refine Z7x h (Int.le_refl _) h.wB Z00 r hr ⟨t.id,t.wt,t.wt,Int.le_refl _,h.w0,fun e=>absurd e (Int.lt_irrefl _),fun _=>⟨t.wne,rfl⟩⟩ (fun a ha ne p=>?_) (fun b hb ne p=>?_)
 ·obtain⟨b1,b2,b3⟩:=Za7 (Z5h hc ha ne)
  refine⟨p.id,p.txn,fun e=>by show a.sn≠0;omega,fun e=>?_,fun e _=>b1 e⟩
  obtain⟨z,s⟩:=p.ord e
  have:=b3 z e
  omega
 ·obtain⟨b1,b2,b3⟩:=Za7 (Z5h hc hb ne)
  exact⟨p.id,p.txn,fun e=>absurd e (Int.lt_irrefl _),fun e=>absurd e t.wne,fun _ e=>by rw[Zh7];exact b1 e⟩
theorem Zr5(h:Ok W q){r s:Rq}(hr:r∈q)(hs:s∈q)(h1:V4 q r=true)(h2:V4 q s=true):r=s:=by
 refine Classical.byContradiction fun ne=>?_
 have ni:s.id≠r.id:=fun e=>ne (h.inj r hr s hs e.symm)
 obtain⟨_,b2,b3⟩:=Za7 (Z5h h1 hs ni)
 obtain⟨_,c2,c3⟩:=Za7 (Z5h h2 hr (fun e=>ni e.symm))
 have p1:=Z13 h1
 have p2:=Z13 h2
 have hne:r.sn≠s.sn:=fun e=>ne (h.injS r hr s hs p1 e)
 by_cases z:r.md=0
 ·by_cases y:s.md=0
  ·have:=b3 z y;have:=c3 y z;omega
  ·exact(b2 y p2).1 z
 ·by_cases y:s.md=0
  ·exact(c2 z p1).1 y
  ·have:=(b2 y p2).2;have:=(c2 z p1).2;omega
end
section
variable {W:Int} {q:List Rq}
theorem Z79(f:Rq→Rq)(id:Int):∀q:List Rq,(∀a∈q,a.id≠id)→chg f id q=q
 | [],_=>rfl
 | a::q,h=>by
  show(if a.id=id then f a else a)::chg f id q=_
  rw[if_neg (h a (by simp)),Z79 f id q (fun b hb=>h b (List.mem_cons_of_mem _ hb))]
theorem Zhw(id:Int)(q:List Rq)(h:∀a∈q,a.id≠id):lvQ id q=q:=by
 unfold lvQ
 rw[List.filter_eq_self]
 intro a ha
 simpa using h a ha
theorem Ok.part(h:Ok W q){r:Rq}(hr:r∈q):∃l m,q=l++r::m∧(∀a∈l,a.id≠r.id)∧(∀a∈m,a.id≠r.id):=by
 obtain⟨l,m,e⟩:=List.append_of_mem hr
 have hp:=h.pr
 rw[e,List.pairwise_append,List.pairwise_cons] at hp
 exact⟨l,m,e,fun a ha=>(hp.2.2 a ha r (by simp)).id,fun b hb q=>(hp.2.1.1 b hb).id q.symm⟩
theorem Zh5(f:Rq→Rq){l m:List Rq}{r:Rq}(h1:∀a∈l,a.id≠r.id)(h2:∀a∈m,a.id≠r.id):chg f r.id (l++r::m)=l++f r::m:=by
 have e:chg f r.id (l++r::m)=chg f r.id l++(if r.id=r.id then f r else r)::chg f r.id m:=by simp[chg]
 rw[e,if_pos rfl,Z79 f _ l h1,Z79 f _ m h2]
theorem Zoe{l m:List Rq}{r:Rq}(h1:∀a∈l,a.id≠r.id)(h2:∀a∈m,a.id≠r.id):lvQ r.id (l++r::m)=l++m:=by
 have e:lvQ r.id (l++r::m)=lvQ r.id l++lvQ r.id m:=by simp[lvQ,List.filter_append]
 rw[e,Zhw _ l h1,Zhw _ m h2]
theorem Ok.nth(h:Ok W q)(k:Nat)(hk:k<q.length):q=q.take k++q[k]::q.drop (k+1)∧(∀a∈q.take k,a.id≠q[k].id)∧(∀a∈q.drop (k+1),a.id≠q[k].id):=by
 have e:q=q.take k++q[k]::q.drop (k+1):=by
  rw[←List.drop_eq_getElem_cons hk,List.take_append_drop]
 have hp:=h.pr
 rw[e,List.pairwise_append,List.pairwise_cons] at hp
 exact⟨e,fun a ha=>(hp.2.2 a ha _ (List.mem_cons_self)).id,fun b hb q=>(hp.2.1.1 b hb).id q.symm⟩
theorem Zbd{α:Type}(l m:List α)(r x:α)(k:Nat)(hl:l.length=k):(l++r::m).set k x=l++x::m:=by
 subst hl
 rw[List.set_append_right _ _ (Nat.le_refl _),Nat.sub_self,List.set_cons_zero]
theorem Z1q(h:Ok W q)(f:Rq→Rq)(k:Nat)(hk:k<q.length):chg f q[k].id q=q.set k (f q[k]):=by
 obtain⟨e,h1,h2⟩:=h.nth k hk
 have hl:(q.take k).length=k:=by simp;omega
 have c:=Zh5 f h1 h2
 rw[←e] at c
 rw[c,←Zbd (q.take k) (q.drop (k+1)) q[k] (f q[k]) k hl,←e]
theorem Zda(h:Ok W q)(k:Nat)(hk:k<q.length):lvQ q[k].id q=q.take k++q.drop (k+1):=by
 obtain⟨e,h1,h2⟩:=h.nth k hk
 have c:=Zoe h1 h2
 rw[←e] at c
 exact c
def wtg(q:List Rq):Nat:=q.countP fun r=>decide (0<r.sn)
theorem Zbs(h:Ok W q){r:Rq}(hr:r∈q)(hs:0<r.sn):wtg (chg Z00 r.id q)+1=wtg q:=by
 obtain⟨l,m,e,h1,h2⟩:=h.part hr
 rw[e,Zh5 Z00 h1 h2]
 simp[wtg,List.countP_append,Z00,hs]
 omega
def scn:Nat→List Rq→List Int × List Rq
 | 0,q=>([],q)
 | n+1,q=>match q.find? (V4 q) with
  | none=>([],q)
  | some r=>(r.id::(scn n (chg Z00 r.id q)).1,(scn n (chg Z00 r.id q)).2)
def Zc(q:List Rq):List Int × List Rq:=scn (wtg q) q
theorem Zcg{r:Rq}(h:q.find? (V4 q)=some r):r∈q∧V4 q r=true:=⟨List.mem_of_find?_eq_some h,List.find?_some h⟩
def Z02(q:List Rq):Prop:=∀r∈q,V4 q r=false
theorem Zjl(h:Z02 q):q.find? (V4 q)=none:=by
 rw[List.find?_eq_none]
 intro r hr
 simp[h r hr]
theorem Z87(h:Z02 q):∀n,scn n q=([],q)
 | 0=>rfl
 | n+1=>by
  unfold scn
  rw[Zjl h]
theorem Zlt(h:Ok W q){r:Rq}(hr:r∈q)(hc:V4 q r=true):q.find? (V4 q)=some r:=by
 cases e:q.find? (V4 q) with
 | none =>
  rw[List.find?_eq_none] at e
  exact absurd hc (e r hr)
 | some s =>
  obtain⟨hs,hs'⟩:=Zcg e
  rw[Zr5 h hs hr hs' hc]
theorem Ze0(h:Ok W q){r:Rq}(hr:r∈q)(hc:V4 q r=true)(n:Nat):scn (n+1) q=(r.id::(scn n (chg Z00 r.id q)).1,(scn n (chg Z00 r.id q)).2):=by
 conv=>lhs;unfold scn
 rw[Zlt h hr hc]
inductive Steps (q0:List Rq):List Int→List Rq→Prop
 | refl:Steps q0 [] q0
 | snoc {ids:List Int} {q:List Rq} {r:Rq} (h:Steps q0 ids q) (hr:r∈q) (hc:V4 q r=true):Steps q0 (ids++[r.id]) (chg Z00 r.id q)
theorem Steps.ok{q0:List Rq}{ids:List Int}(h:Steps q0 ids q)(h0:Ok W q0):Ok W q:=by
 induction h with
 | refl=>exact h0
 | snoc _ hr hc ih=>exact Zxa ih _ hr hc
theorem Steps.scn{q0:List Rq}{ids:List Int}(h:Steps q0 ids q)(h0:Ok W q0):∀n,scn (ids.length+n) q0=(ids++(scn n q).1,(scn n q).2):=by
 induction h with
 | refl=>intro n;simp
 | snoc hs hr hc ih =>
  intro n
  have:=ih (n+1)
  rw[Ze0 (hs.ok h0) hr hc] at this
  rw[List.length_append,List.length_singleton,show ∀a:Nat,a+1+n=a+(n+1)by intro a;omega,this]
  simp
theorem Steps.wtg{q0:List Rq}{ids:List Int}(h:Steps q0 ids q)(h0:Ok W q0):wtg q+ids.length=wtg q0:=by
 induction h with
 | refl=>simp
 | snoc hs hr hc ih =>
  have:=Zbs (hs.ok h0) hr (Z13 hc)
  simp
  omega
theorem Steps.scan{q0:List Rq}{ids:List Int}(h:Steps q0 ids q)(h0:Ok W q0)(hd:Z02 q):Zc q0=(ids,q):=by
 have hw:=h.wtg h0
 unfold Zc
 rw[←hw,Nat.add_comm,h.scn h0,Z87 hd]
 simp
theorem Zkm(h:Ok W q):∀n,wtg q≤n→Steps q (scn n q).1 (scn n q).2∧Z02 (scn n q).2
 | n,hn=>by
  suffices H:∀n q0 ids q,Ok W q0→Steps q0 ids q→wtg q≤n→Steps q0 (ids++(scn n q).1) (scn n q).2∧Z02 (scn n q).2 by
   have:=H n q [] q h .refl hn
   simpa using this
  clear hn n h
  intro n
  induction n with
  | zero =>
   intro q0 ids q h0 hs hn
   refine⟨by simpa [scn] using hs,fun r hr=>?_⟩
   have hr':r∈q:=hr
   cases e:V4 q r with
   | false=>exact e
   | true =>
    have:=Zbs (hs.ok h0) hr' (Z13 e)
    omega
  | succ n ih =>
   intro q0 ids q h0 hs hn
   cases e:q.find? (V4 q) with
   | none =>
    have hd:Z02 q:=fun r hr=>by
     rw[List.find?_eq_none] at e
     simpa using e r hr
    rw[Z87 hd]
    exact⟨by simpa using hs,hd⟩
   | some r =>
    obtain⟨hr,hc⟩:=Zcg e
    have hw:=Zbs (hs.ok h0) hr (Z13 hc)
    have:=ih q0 (ids++[r.id]) _ h0 (hs.snoc hr hc) (by omega)
    rw[Ze0 (hs.ok h0) hr hc]
    simpa using this
theorem Z0r(h:Ok W q):Steps q (Zc q).1 (Zc q).2∧Z02 (Zc q).2:=Zkm h _ (Nat.le_refl _)
theorem Z5k(h:Z02 q):Zc q=([],q):=Z87 h _
theorem Zim(h:Ok W q):Ok W (Zc q).2:=(Z0r h).1.ok h
theorem Steps.form{q0:List Rq}{ids:List Int}(h:Steps q0 ids q)(h0:Ok W q0):q=q0.map (fun r=>if ids.contains r.id=true then Z00 r else r)∧∀i∈ids,∃r∈q0,r.id=i∧0<r.sn:=by
 induction h with
 | refl=>exact⟨by simp,by simp⟩
 | @snoc ids q r hs hr hc ih =>
  obtain⟨e,hi⟩:=ih
  have hr':=hr
  rw[e] at hr'
  obtain⟨s,hs0,hsr⟩:=List.mem_map.1 hr'
  have hsn:=Z13 hc
  have hse:s=r:=by
   split at hsr
   ·rw[←hsr] at hsn;exact absurd hsn (Int.lt_irrefl _)
   ·exact hsr
  subst hse
  refine⟨?_,fun i h=>?_⟩
  ·conv=>lhs;rw[e]
   unfold chg
   rw[List.map_map]
   refine List.map_congr_left fun x hx=>?_
   simp only[Function.comp]
   by_cases q1:x.id=s.id
   ·obtain rfl:=h0.inj x hx s hs0 q1
    split at hsr
    ·rw[←hsr] at hsn;exact absurd hsn (Int.lt_irrefl _)
    ·rename_i hn
     rw[if_neg hn,if_pos rfl,if_pos (by simp)]
   ·by_cases q2:ids.contains x.id=true
    ·rw[if_pos q2,if_neg (by exact q1),if_pos (by simp at q2 ⊢;exact .inl q2)]
    ·rw[if_neg q2,if_neg q1,if_neg (by simp at q2 ⊢;exact⟨q2,q1⟩)]
  ·rcases List.mem_append.1 h with h | h
   ·exact hi i h
   ·rw[List.mem_singleton] at h;subst h
    exact⟨s,hs0,rfl,hsn⟩
end
structure Hq where
 t:Int
 r:Int
 W:Int
 q:List Rq
def noH:Hq:=⟨0,0,0,[]⟩
def rtB(W:Int)(r:Rq):Bool:=!(((((decide (r.id<0) || !Zr r.md) || !Zr r.wt) || decide (r.sn<0)) || decide (W<r.sn)))&&(if 0<r.sn then !cvI r.md r.wt else((r.md != 0)&&(r.wt==r.md)))
def prB(a b:Rq):Bool:=!((((a.id==b.id || a.txn==b.txn) || (decide (0<a.sn)&&a.sn==b.sn)) || ((a.md==0)&&((b.md != 0) || decide (b.sn<a.sn)))) || (((a.md != 0)&&(b.md != 0))&&!U2 a.md b.md))
def pwB:List Rq→Bool
 | []=>true
 | a::r=>r.all (prB a)&&pwB r
def okP(W:Int)(q:List Rq):Bool:=q.all (rtB W)&&pwB q
def okQ(W:Int)(q:List Rq):Bool:=(decide (0≤W)&&decide (W≤4611686018427387904))&&okP W q
theorem Zil(W:Int)(r:Rq):rtB W r=true↔Rt W r:=by
 unfold rtB
 simp only[Bool.and_eq_true,Bool.not_eq_true',Bool.or_eq_false_iff,decide_eq_false_iff_not,Bool.not_eq_false',Int.not_lt]
 constructor
 ·rintro⟨⟨⟨⟨⟨h1,h2⟩,h3⟩,h4⟩,h5⟩,h6⟩
  refine⟨h1,h2,h3,h4,h5,fun z=>?_,fun z=>?_⟩
  ·rw[if_pos z] at h6
   simpa using h6
  ·rw[if_neg (by omega)] at h6
   simpa using h6
 ·intro h
  refine⟨⟨⟨⟨⟨h.id,h.md⟩,h.wt⟩,h.s0⟩,h.sW⟩,?_⟩
  by_cases z:0<r.sn
  ·rw[if_pos z];simpa using h.w z
  ·rw[if_neg z]
   have:=h.h (by have:=h.s0;omega)
   simpa using this
theorem Zia{W:Int}{a b:Rq}(ha:Rt W a):prB a b=true↔Pr a b:=by
 unfold prB
 simp only[Bool.not_eq_true',Bool.or_eq_false_iff,Bool.and_eq_false_iff,beq_eq_false_iff_ne,bne_eq_false_iff_eq,decide_eq_false_iff_not,Bool.not_eq_false',Int.not_lt,ne_eq]
 constructor
 ·rintro⟨⟨⟨⟨h1,h2⟩,h3⟩,h4⟩,h5⟩
  refine⟨h1,h2,fun z=>?_,fun z=>?_,fun z y=>?_⟩
  ·rcases h3 with h3 | h3
   ·omega
   ·exact h3
  ·have hs:=ha.w' z
   rcases h4 with h4 | h4
   ·exact absurd z h4
   ·refine⟨h4.1,?_⟩
    rcases h3 with h3 | h3
    ·omega
    ·omega
  ·rcases h5 with(h5 | h5) | h5
   ·exact absurd h5 z
   ·exact absurd h5 y
   ·exact h5
 ·intro h
  refine⟨⟨⟨⟨h.id,h.txn⟩,?_⟩,?_⟩,?_⟩
  ·by_cases z:0<a.sn
   ·exact .inr (h.sn z)
   ·exact .inl (Int.not_lt.1 z)
  ·by_cases z:a.md=0
   ·exact .inr ⟨(h.ord z).1,Int.le_of_lt (h.ord z).2⟩
   ·exact .inl z
  ·by_cases z:a.md=0
   ·exact .inl (.inl z)
   ·by_cases y:b.md=0
    ·exact .inl (.inr y)
    ·exact .inr (h.cp z y)
theorem Zb7{W:Int}:∀q:List Rq,(∀r∈q,Rt W r)→(pwB q=true↔q.Pairwise Pr)
 | [],_=>by simp[pwB]
 | a::q,h=>by
  have ha:=h a (by simp)
  show(q.all (prB a)&&pwB q)=true↔_
  rw[Bool.and_eq_true,Zb7 q (fun r hr=>h r (List.mem_cons_of_mem _ hr)),List.pairwise_cons,List.all_eq_true]
  constructor
  ·rintro⟨h1,h2⟩
   exact⟨fun b hb=>(Zia ha).1 (h1 b hb),h2⟩
  ·rintro⟨h1,h2⟩
   exact⟨fun b hb=>(Zia ha).2 (h1 b hb),h2⟩
theorem Zsv(W:Int)(q:List Rq):okQ W q=true↔Ok W q:=by
 unfold okQ okP
 simp only[Bool.and_eq_true,decide_eq_true_eq,List.all_eq_true]
 constructor
 ·rintro⟨⟨h1,h2⟩,h3,h4⟩
  have hr:∀r∈q,Rt W r:=fun r hr=>(Zil W r).1 (h3 r hr)
  exact⟨h1,h2,hr,(Zb7 q hr).1 h4⟩
 ·intro h
  exact⟨⟨h.w0,h.wB⟩,fun r hr=>(Zil W r).2 (h.rt r hr),(Zb7 q h.rt).2 h.pr⟩
def Z03(h:Hq)(id txn m:Int):Hq × Bool × Int:=if Z12 h.q id txn m=0 then(⟨h.t,h.r,(Yv h.W h.q id txn m).1,(Yv h.W h.q id txn m).2.1⟩,(Yv h.W h.q id txn m).2.2,0) else(noH,false,Z12 h.q id txn m)
def upR(h:Hq)(id m:Int):Hq × Bool × Int :=
 if m=0∨Zr m=false then(noH,false,2)
 else match Yr h.q id with
 | none=>(noH,false,5)
 | some r=>if 0<r.sn then(noH,false,7) else(⟨h.t,h.r,(upQ h.W h.q r m).1,(upQ h.W h.q r m).2.1⟩,(upQ h.W h.q r m).2.2,0)
def lvR(h:Hq)(id:Int):Hq × Int:=match Yr h.q id with
 | none=>(noH,5)
 | some _=>(⟨h.t,h.r,h.W,lvQ id h.q⟩,0)
def Vm(h:Hq)(id:Int):Hq × Int:=match Yr h.q id with
 | none=>(noH,5)
 | some r=>if 0<r.sn then(⟨h.t,h.r,h.W,abQ r h.q⟩,0) else(noH,7)
def hnR(h:Hq)(id txn:Int):Hq × Int:=match Yr h.q id with
 | none=>(noH,5)
 | some r=>if (h.q.any fun o=>!(o.id==id)&&o.txn==txn)=true then(noH,4)else if 0<r.sn then(noH,7) else(⟨h.t,h.r,h.W,chg (fun x=>⟨x.id,txn,x.md,x.wt,x.sn⟩) id h.q⟩,0)
def mdQ(q:List Rq)(txn:Int):Int:=match q.find? fun r=>r.txn==txn with
 | none=>0
 | some r=>r.md
def Ul(n:Int):List Int→List Int
 | []=>[n]
 | a::r=>if a<n then a::Ul n r else if a=n then a::r else n::a::r
theorem Z7z(n x:Int):∀l:List Int,x∈Ul n l↔x=n∨x∈l
 | []=>by simp[Ul]
 | a::r=>by
  unfold Ul
  split
  ·simp only[List.mem_cons,Z7z n x r]
   constructor
   ·rintro(h | h | h)
    ·exact .inr (.inl h)
    ·exact .inl h
    ·exact .inr (.inr h)
   ·rintro(h | h | h)
    ·exact .inr (.inl h)
    ·exact .inl h
    ·exact .inr (.inr h)
  split
  ·rename_i e
   simp[←e]
  ·simp
theorem Zck(x:Int):∀(q:List Rq) (l:List Int),x∈q.foldl (fun l o=>Ul o.txn l) l↔x∈l∨∃o∈q,o.txn=x
 | [],l=>by simp
 | a::q,l=>by
  rw[List.foldl_cons,Zck x q,Z7z]
  simp only[List.mem_cons,exists_eq_or_imp]
  constructor
  ·rintro((h | h) | h)
   ·exact .inr (.inl h.symm)
   ·exact .inl h
   ·exact .inr (.inr h)
  ·rintro(h | h | h)
   ·exact .inl (.inr h)
   ·exact .inl (.inl h.symm)
   ·exact .inr h
theorem Z5z(n:Int):∀l:List Int,l.Pairwise (·<·)→(Ul n l).Pairwise (·<·)
 | [],_=>by simp[Ul]
 | a::r,h=>by
  rw[List.pairwise_cons] at h
  unfold Ul
  split
  ·rename_i h1
   rw[List.pairwise_cons]
   refine⟨fun x hx=>?_,Z5z n r h.2⟩
   rcases(Z7z n x r).1 hx with rfl | hx
   ·exact h1
   ·exact h.1 x hx
  split
  ·rw[List.pairwise_cons];exact h
  ·rename_i h1 h2
   rw[List.pairwise_cons]
   refine⟨fun x hx=>?_,by rw[List.pairwise_cons];exact h⟩
   rcases List.mem_cons.1 hx with rfl | hx
   ·omega
   ·have:=h.1 x hx
    omega
theorem Z2j{q:List Rq}{id:Int}{r:Rq}(h:Yr q id=some r):r∈q∧r.id=id:=by
 have h1:=List.mem_of_find?_eq_some h
 have h2:=List.find?_some h
 exact⟨h1,by simpa using h2⟩
def scH(h:Hq):Hq:=⟨h.t,h.r,h.W,(Zc h.q).2⟩
theorem Zlj(W:Int)(q:List Rq)(id txn m:Int):W≤(Yv W q id txn m).1∧(Yv W q id txn m).1≤W+1∧(Yv W q id txn m).2.1.length=q.length+1:=by
 unfold Yv
 split
 ·exact⟨by simp,by show W≤W+1;omega,by simp⟩
 ·exact⟨by show W≤W+1;omega,by simp,by simp⟩
theorem Z1p(f:Rq→Rq)(id:Int)(q:List Rq):(chg f id q).length=q.length:=by simp[chg]
theorem Zva(W:Int)(q:List Rq)(r:Rq)(m:Int):W≤(upQ W q r m).1∧(upQ W q r m).1≤W+1∧(upQ W q r m).2.1.length=q.length:=by
 unfold upQ
 split
 ·exact⟨by simp,by show W≤W+1;omega,rfl⟩
 split
 ·exact⟨by simp,by show W≤W+1;omega,Z1p _ _ _⟩
 ·exact⟨by show W≤W+1;omega,by simp,Z1p _ _ _⟩
theorem Z6m(id:Int)(q:List Rq):(lvQ id q).length≤q.length:=List.length_filter_le _ _
theorem Za2(r:Rq)(q:List Rq):(abQ r q).length≤q.length:=by
 unfold abQ
 split
 ·exact Z6m _ _
 ·rw[Z1p];exact Nat.le_refl _
structure Z9z(h:Hq):Prop where
 ok:Ok h.W h.q
 done:Z02 h.q
theorem Z86{W:Int}{q:List Rq}(h:Ok W q):(Zc q).2.length=q.length:=by
 rw[((Z0r h).1.form h).1]
 simp
theorem Zte(h:Hq)(h0:Ok h.W h.q):Z9z (scH h):=⟨Zim h0,(Z0r h0).2⟩
theorem Zay(t r:Int):Z9z ⟨t,r,0,[]⟩:=⟨⟨Int.le_refl _,by show(0:Int)≤_;omega,by simp,.nil⟩,by intro r hr;cases hr⟩
theorem Zae:∀i<7,∀j<7,(Z3k 0 (Int.ofNat j)&&Z3k (Int.ofNat i) 0)=true:=by decide +kernel
theorem Zh8(a:Int)(ha:Zr a=true):U2 0 a=true:=by
 have:=Z2u (p:=fun a b=>Z3k 0 b&&Z3k a 0) Zae a a ha ha
 rw[Zuu 0 a rfl ha]
 simp at this
 exact this.1
theorem Zez:∀i<7,∀j<7,∀k<7,(!U2 (Yi (Int.ofNat i) (Int.ofNat j)) (Int.ofNat k) || U2 (Int.ofNat i) (Int.ofNat k))=true:=by decide +kernel
theorem Zvv(a b c:Int)(ha:Zr a=true)(hb:Zr b=true)(hc:Zr c=true)(h:U2 (Yi a b) c=true):U2 a c=true:=by
 rw[Va] at ha hb hc
 obtain⟨i,rfl⟩:=Int.eq_ofNat_of_zero_le ha.1
 obtain⟨j,rfl⟩:=Int.eq_ofNat_of_zero_le hb.1
 obtain⟨k,rfl⟩:=Int.eq_ofNat_of_zero_le hc.1
 have:=Zez i (by omega) j (by omega) k (by omega)
 simp only[Int.ofNat_eq_natCast] at this
 rw[h] at this
 simpa using this
theorem Zab{q:List Rq}{r:Rq}(h:V4 q r=false)(hs:0<r.sn):∃o∈q,o.id≠r.id∧blk r o=true:=by
 refine Classical.byContradiction fun hn=>?_
 have:V4 q r=true:=by
  unfold V4
  rw[Bool.and_eq_true]
  refine⟨by simpa using hs,?_⟩
  rw[List.all_eq_true]
  intro o ho
  by_cases e:o.id=r.id
  ·simp[e]
  ·have:blk r o=false:=by
    cases hb:blk r o with
    | false=>rfl
    | true=>exact absurd ⟨o,ho,e,hb⟩ hn
   simp[this]
 rw[h] at this;cases this
theorem Z2p{q:List Rq}{r o:Rq}(ho:o∈q)(ne:o.id≠r.id)(hb:blk r o=true):V4 q r=false:=by
 cases h:V4 q r with
 | false=>rfl
 | true=>have:=Z5h h ho ne;rw[hb] at this;cases this
theorem Z1x{q:List Rq}{r:Rq}(hs:¬0<r.sn):V4 q r=false:=by unfold V4;simp[hs]
theorem Zr1{r o:Rq}(h1:o.md≠0)(h2:U2 o.md r.wt=false):blk r o=true:=by unfold blk;simp[h1,h2]
theorem Zyj{r o:Rq}(h1:o.md≠0)(h2:0<o.sn)(h3:r.md=0∨o.sn<r.sn):blk r o=true:=by
 unfold blk
 rcases h3 with h3 | h3<;>simp[h1,h2,h3]
theorem Zzl{r o:Rq}(h1:r.md=0)(h2:o.md=0)(h3:o.sn<r.sn):blk r o=true:=by unfold blk;simp[h1,h2,h3]
theorem Z7f{W:Int}{q:List Rq}(h:Ok W q)(hd:Z02 q)(id txn m:Int)(he:Z12 q id txn m=0):Z02 (Yv W q id txn m).2.1:=by
 have hk:Zr m=true∧∀r∈q,r.id≠id:=by
  unfold Z12 at he
  split at he
  ·cases he
  ·rename_i hn
   split at he
   ·cases he
   ·rename_i h2
    refine⟨?_,fun r hr e=>h2 ?_⟩
    ·cases hm:Zr m with
     | true=>rfl
     | false=>exact absurd (.inr (.inr hm)) hn
    ·rw[List.any_eq_true]
     exact⟨r,hr,by simp[e]⟩
 unfold Yv
 by_cases hf:free q m=true
 ·rw[if_pos hf]
  have hz:∀r∈q,r.sn=0:=fun r hr=>by
   have:=List.all_eq_true.1 hf r hr
   simp only[Bool.and_eq_true,beq_iff_eq] at this
   exact this.1
  intro r hr
  rcases List.mem_append.1 hr with hr | hr
  ·exact Z1x (by rw[hz r hr];omega)
  ·simp at hr
   subst hr
   exact Z1x (by simp)
 ·rw[if_neg hf]
  intro r hr
  rcases List.mem_append.1 hr with hr | hr
  ·by_cases hs:0<r.sn
   ·obtain⟨o,ho,ne,hb⟩:=Zab (hd r hr) hs
    exact Z2p (List.mem_append_left _ ho) ne hb
   ·exact Z1x hs
  ·simp at hr
   subst hr
   have:∃o∈q,¬(o.sn=0∧U2 o.md m=true):=by
    refine Classical.byContradiction fun hn=>hf ?_
    unfold free
    rw[List.all_eq_true]
    intro o ho
    have:o.sn=0∧U2 o.md m=true:=Classical.byContradiction fun h2=>hn ⟨o,ho,h2⟩
    simp[this.1,this.2]
   obtain⟨o,ho,hno⟩:=this
   have hrt:=h.rt o ho
   refine Z2p (List.mem_append_left _ ho) (hk.2 o ho) ?_
   by_cases hs:o.sn=0
   ·have hc:U2 o.md m=false:=by
     cases e:U2 o.md m with
     | false=>rfl
     | true=>exact absurd ⟨hs,e⟩ hno
    exact Zr1 (hrt.h hs).1 hc
   ·have h0:0<o.sn:=by have:=hrt.s0;omega
    have hW:=hrt.sW
    by_cases hm:o.md=0
    ·exact Zzl rfl hm (by show o.sn<W+1;omega)
    ·exact Zyj hm h0 (.inl rfl)
theorem Ua{f:Rq→Rq}{id:Int}{q:List Rq}{x:Rq}:x∈chg f id q↔∃r∈q,x=if r.id=id then f r else r:=by
 unfold chg
 rw[List.mem_map]
 constructor
 ·rintro⟨r,hr,e⟩;exact⟨r,hr,e.symm⟩
 ·rintro⟨r,hr,e⟩;exact⟨r,hr,e.symm⟩
theorem Zca{W:Int}{q:List Rq}(h:Ok W q)(hd:Z02 q)(r:Rq)(hr:r∈q)(m:Int)(hs:r.sn=0)(hm:Zr m=true):Z02 (upQ W q r m).2.1:=by
 have hrt:=h.rt r hr
 unfold upQ
 by_cases h1:Yi r.md m=r.md
 ·rw[if_pos h1];exact hd
 ·rw[if_neg h1]
  have inj:=h.inj
  by_cases h2:upF q r (Yi r.md m)=true
  ·rw[if_pos h2]
   intro x hx
   obtain⟨s,hsq,rfl⟩:=Ua.1 hx
   by_cases e:s.id=r.id
   ·rw[if_pos e];exact Z1x (by simp)
   ·rw[if_neg e]
    by_cases hsn:0<s.sn
    ·obtain⟨o,ho,ne,hb⟩:=Zab (hd s hsq) hsn
     by_cases eo:o.id=r.id
     ·obtain rfl:=inj o ho r hr eo
      refine Z2p (o:=⟨o.id,o.txn,Yi o.md m,Yi o.md m,0⟩) (Ua.2 ⟨o,ho,by rw[if_pos rfl]⟩) ne ?_
      have hmd:=(hrt.h hs).1
      refine Zr1 (Zpu _ _ hrt.md hm hmd) ?_
      unfold blk at hb
      simp only[hs,Int.lt_irrefl,decide_false,Bool.and_false,Bool.false_and,Bool.or_false] at hb
      have hb':U2 o.md s.wt=false:=by
       have hne:(o.md==0)=false:=by simpa using hmd
       simp[hne,hmd] at hb
       exact hb
      cases e2:U2 (Yi o.md m) s.wt with
      | false=>rfl
      | true=>rw[Zvv _ _ _ hrt.md hm (h.rt s hsq).wt e2] at hb';cases hb'
     ·exact Z2p (Ua.2 ⟨o,ho,by rw[if_neg eo]⟩) ne hb
    ·exact Z1x hsn
  ·rw[if_neg h2]
   intro x hx
   obtain⟨s,hsq,rfl⟩:=Ua.1 hx
   by_cases e:s.id=r.id
   ·rw[if_pos e]
    obtain rfl:=inj s hsq r hr e
    have:∃o∈q,o.id≠s.id∧((0<o.sn∧o.md≠0)∨(o.md≠0∧U2 o.md (Yi s.md m)=false)):=by
     refine Classical.byContradiction fun hn=>h2 ?_
     unfold upF
     rw[List.all_eq_true]
     intro o ho
     by_cases e1:o.id=s.id
     ·simp[e1]
     ·have hno:¬((0<o.sn∧o.md≠0)∨(o.md≠0∧U2 o.md (Yi s.md m)=false)):=fun h3=>hn ⟨o,ho,e1,h3⟩
      by_cases e2:o.md=0
      ·simp[e2]
      ·have e3:¬0<o.sn:=fun h4=>hno (.inl ⟨h4,e2⟩)
       have e4:U2 o.md (Yi s.md m)=true:=by
        cases h5:U2 o.md (Yi s.md m) with
        | true=>rfl
        | false=>exact absurd (.inr ⟨e2,h5⟩) hno
       simp[e3,e4]
    obtain⟨o,ho,ne,hc⟩:=this
    refine Z2p (Ua.2 ⟨o,ho,by rw[if_neg ne]⟩) ne ?_
    rcases hc with⟨c1,c2⟩ | ⟨c1,c2⟩
    ·refine Zyj c2 c1 (.inr ?_)
     have:=(h.rt o ho).sW
     show o.sn<W+1
     omega
    ·exact Zr1 c1 c2
   ·rw[if_neg e]
    by_cases hsn:0<s.sn
    ·obtain⟨o,ho,ne,hb⟩:=Zab (hd s hsq) hsn
     by_cases eo:o.id=r.id
     ·obtain rfl:=inj o ho r hr eo
      refine Z2p (o:=⟨o.id,o.txn,o.md,Yi o.md m,W+1⟩) (Ua.2 ⟨o,ho,by rw[if_pos rfl]⟩) ne ?_
      have hmd:=(hrt.h hs).1
      refine Zr1 hmd ?_
      unfold blk at hb
      simp only[hs,Int.lt_irrefl,decide_false,Bool.and_false,Bool.false_and,Bool.or_false] at hb
      have hne:(o.md==0)=false:=by simpa using hmd
      simp[hne,hmd] at hb
      exact hb
     ·exact Z2p (Ua.2 ⟨o,ho,by rw[if_neg eo]⟩) ne hb
    ·exact Z1x hsn
abbrev hnF(txn:Int)(x:Rq):Rq:=⟨x.id,txn,x.md,x.wt,x.sn⟩
theorem Zv6{W:Int}{q:List Rq}(h:Ok W q)(r:Rq)(hr:r∈q)(txn:Int)(hno:∀o∈q,o.id≠r.id→o.txn≠txn):Ok W (chg (hnF txn) r.id q):=by
 have hrt:=h.rt r hr
 refine Z7x h (Int.le_refl _) h.wB (hnF txn) r hr ⟨hrt.id,hrt.md,hrt.wt,hrt.s0,hrt.sW,hrt.w,hrt.h⟩ ?_ ?_
 ·intro a ha ne p
  exact⟨p.id,hno a ha ne,p.sn,p.ord,p.cp⟩
 ·intro b hb ne p
  exact⟨p.id,fun e=>hno b hb ne e.symm,p.sn,p.ord,p.cp⟩
theorem Zhb{q:List Rq}(hd:Z02 q)(id txn:Int):Z02 (chg (hnF txn) id q):=by
 intro x hx
 obtain⟨s,hs,rfl⟩:=Ua.1 hx
 have key:∀r:Rq,(if r.id=id then hnF txn r else r).id=r.id∧(if r.id=id then hnF txn r else r).sn=r.sn∧(if r.id=id then hnF txn r else r).md=r.md∧(if r.id=id then hnF txn r else r).wt=r.wt:=fun r=>by split<;>exact⟨rfl,rfl,rfl,rfl⟩
 obtain⟨k1,k2,k3,k4⟩:=key s
 by_cases h0:0<s.sn
 ·obtain⟨o,ho,ne,hb⟩:=Zab (hd s hs) h0
  obtain⟨j1,j2,j3,j4⟩:=key o
  refine Z2p (Ua.2 ⟨o,ho,rfl⟩) (by rw[j1,k1];exact ne) ?_
  unfold blk at hb ⊢
  rw[j2,j3,k2,k3,k4]
  exact hb
 ·exact Z1x (by rw[k2];exact h0)
def V7(q:List Rq):List Int:=q.map fun r=>r.id
theorem Z6i(f:Rq→Rq)(id:Int)(q:List Rq)(hf:∀r,(f r).id=r.id):V7 (chg f id q)=V7 q:=by
 unfold V7 chg
 rw[List.map_map]
 apply List.map_congr_left
 intro r _
 show(if r.id=id then f r else r).id=r.id
 split
 ·exact hf r
 ·rfl
theorem Zs5(W:Int)(q:List Rq)(id txn m:Int):V7 (Yv W q id txn m).2.1=V7 q++[id]:=by
 unfold Yv V7
 split<;>simp
theorem Zwn(W:Int)(q:List Rq)(r:Rq)(m:Int):V7 (upQ W q r m).2.1=V7 q:=by
 unfold upQ
 split
 ·rfl
 ·split
  ·exact Z6i _ _ _ fun _=>rfl
  ·exact Z6i _ _ _ fun _=>rfl
theorem Zno{W:Int}{q:List Rq}(h:Ok W q):V7 (Zc q).2=V7 q:=by
 rw[((Z0r h).1.form h).1]
 unfold V7
 rw[List.map_map]
 apply List.map_congr_left
 intro r _
 show(if _ then Z00 r else r).id=r.id
 split<;>rfl
theorem Znn{W:Int}{q:List Rq}(h:Ok W q){r:Rq}(hr:r∈q):(r.id::V7 (lvQ r.id q)).Perm (V7 q):=by
 obtain⟨l,m,e,h1,h2⟩:=h.part hr
 subst e
 rw[Zoe h1 h2]
 unfold V7
 simp only[List.map_append,List.map_cons]
 exact List.perm_middle.symm
theorem Zwm{W:Int}{q:List Rq}(h:Ok W q){r:Rq}(hr:r∈q):(r.md=0→(r.id::V7 (abQ r q)).Perm (V7 q))∧(r.md≠0→V7 (abQ r q)=V7 q):=by
 unfold abQ
 refine⟨fun z=>?_,fun z=>?_⟩
 ·rw[if_pos z];exact Znn h hr
 ·rw[if_neg z];exact Z6i _ _ _ fun _=>rfl
theorem Zf9{q:List Rq}{id:Int}{r:Rq}(h:Yr q id=some r):r∈q∧r.id=id:=by
 unfold Yr at h
 exact⟨List.mem_of_find?_eq_some h,by simpa using List.find?_some h⟩
theorem Zci{q:List Rq}{id:Int}:(∃r,Yr q id=some r)↔id∈V7 q:=by
 unfold V7
 rw[List.mem_map]
 constructor
 ·rintro⟨r,h⟩
  exact⟨r,(Zf9 h).1,(Zf9 h).2⟩
 ·rintro⟨r,hr,e⟩
  unfold Yr
  cases hf:q.find? (fun r=>r.id==id) with
  | some x=>exact⟨x,rfl⟩
  | none=>have:=List.find?_eq_none.1 hf r hr;simp[e] at this
def Zo:List Bool→Nat
 | []=>0
 | true::r=>Zo r+1
 | false::_=>0
theorem Z59:∀L:List Bool,Zo L≤L.length
 | []=>Nat.le_refl _
 | true::r=>by have:=Z59 r;simp[Zo];omega
 | false::r=>by simp[Zo]
theorem Z0m:∀(L:List Bool) (h:Zo L<L.length),L[Zo L]=false
 | true::r,h=>by
  simp only[Zo,List.getElem_cons_succ]
  exact Z0m r (by simp[Zo] at h;omega)
 | false::r,h=>rfl
theorem Z1b:∀(L:List Bool) (k:Nat) (h:k<L.length),k<Zo L→L[k]=true
 | true::r,0,_,_=>rfl
 | true::r,k+1,h,hk=>by
  simp only[List.getElem_cons_succ]
  exact Z1b r k (by simpa using h) (by simpa [Zo] using hk)
 | false::r,k,h,hk=>by simp[Zo] at hk
theorem Zw9{L:List Bool}{n:Nat}(hn:n≤L.length)(h1:∀k (h:k<L.length),k<n→L[k]=true)(h2:∀h:n<L.length,L[n]=false):Zo L=n:=by
 rcases Nat.lt_trichotomy (Zo L) n with g | g | g
 ·have:=h1 (Zo L) (by omega) g
  rw[Z0m L (by omega)] at this;cases this
 ·exact g
 ·have hl:n<L.length:=lL0 g (Z59 L)
  have:=Z1b L n hl g
  rw[h2 hl] at this;cases this
theorem Zcn{L:List Bool}:Zo L=L.length↔∀k (h:k<L.length),L[k]=true:=by
 constructor
 ·intro e k h;exact Z1b L k h (by omega)
 ·intro h;exact Zw9 (Nat.le_refl _) (fun k hk _=>h k hk) (fun h=>absurd h (Nat.lt_irrefl _))
def Z2n(L:List Bool)(k:Nat):List Nat:=(List.range k).filter fun i=>L.getD i false
def lnt(L:List Bool):List Nat:=Z2n L L.length
def liv(L:List Bool):Nat:=L.countP id
theorem Z9g(L:List Bool)(k:Nat):Z2n L (k+1)=Z2n L k++(if L.getD k false=true then[k] else[]):=by
 unfold Z2n
 rw[List.range_succ,List.filter_append]
 congr 1
 by_cases h:L.getD k false=true
 ·rw[if_pos h];simp only[List.filter_cons,h,if_true,List.filter_nil]
 ·rw[if_neg h];simp only[List.filter_cons,h,List.filter_nil];rfl
theorem Zoc(L:List Bool)(k:Nat):(Z2n L k).length≤k:=by
 have:=List.length_filter_le (fun i=>L.getD i false) (List.range k)
 simpa [Z2n] using this
theorem Zd5(L:List Bool):∀k,k≤L.length→(Z2n L k).length=(L.take k).countP id
 | 0,_=>by simp[Z2n]
 | k+1,h=>by
  rw[Z9g,List.length_append,Zd5 L k (by omega),List.take_add_one,List.getElem?_eq_getElem (by omega),List.countP_append]
  congr 1
  simp only[List.getD_eq_getElem?_getD,List.getElem?_eq_getElem (show k<L.length by omega),Option.getD_some]
  cases L[k]'(by omega)<;>rfl
theorem Z6k(L:List Bool):(lnt L).length=liv L:=by
 unfold lnt liv
 rw[Zd5 L _ (Nat.le_refl _),List.take_length]
theorem Z0b(L:List Bool)(i:Nat):i∈lnt L↔∃h:i<L.length,L[i]=true:=by
 unfold lnt Z2n
 rw[List.mem_filter,List.mem_range]
 constructor
 ·rintro⟨h,e⟩
  refine⟨h,?_⟩
  simpa [List.getD_eq_getElem?_getD,List.getElem?_eq_getElem h] using e
 ·rintro⟨h,e⟩
  refine⟨h,?_⟩
  simpa [List.getD_eq_getElem?_getD,List.getElem?_eq_getElem h] using e
theorem Z6l(L:List Bool):(lnt L).Pairwise (·<·):=List.Pairwise.filter _ List.pairwise_lt_range
theorem Zfp(L:List Bool):liv L≤L.length:=List.countP_le_length
theorem Zhi:∀L:List Bool,Zo L≤liv L
 | []=>Nat.le_refl _
 | true::r=>by have:=Zhi r;simp[Zo,liv] at this ⊢;omega
 | false::r=>by simp[Zo]
theorem Zo8{L:List Bool}:liv L=L.length↔Zo L=L.length:=by
 rw[Zcn]
 unfold liv
 rw[List.countP_eq_length]
 constructor
 ·intro h k hk;exact h _ (gM0 hk)
 ·intro h x hx
  obtain⟨k,hk,rfl⟩:=List.getElem_of_mem hx
  exact h k hk
def tkL(L:List Bool):List Bool:=if Zo L<L.length then L.set (Zo L) true else L
def gvL(L:List Bool)(n:Int):List Bool:=if 0≤n∧L.getD n.toNat false=true then L.set n.toNat false else L
def hsL(L:List Bool)(n:Int):Bool:=decide (0≤n)&&L.getD n.toNat false
theorem Us(L:List Bool):(tkL L).length=L.length:=by unfold tkL;split<;>simp
theorem Zhl(L:List Bool)(n:Int):(gvL L n).length=L.length:=by unfold gvL;split<;>simp
theorem Zal{L:List Bool}{k:Nat}(h:L.getD k false=true):∃hk:k<L.length,L[k]=true:=by
 by_cases hk:k<L.length
 ·exact⟨hk,by simpa [List.getD_eq_getElem?_getD,List.getElem?_eq_getElem hk] using h⟩
 ·rw[List.getD_eq_getElem?_getD,List.getElem?_eq_none (by omega)] at h;cases h
theorem Ye{L:List Bool}{k:Nat}(hk:k<L.length):L.getD k false=L[k]:=by
 simp[List.getD_eq_getElem?_getD,List.getElem?_eq_getElem hk]
theorem Z48(L:List Bool)(p:Nat)(h:L.getD p false=true):gvL L (p:Int)=L.set p false:=by
 unfold gvL
 rw[Int.toNat_natCast,if_pos ⟨by omega,h⟩]
def frl(L:List Bool):List Nat:=(List.range L.length).filter fun i=>!L.getD i false
theorem Z1r(L:List Bool)(i:Nat):i∈frl L↔∃h:i<L.length,L[i]=false:=by
 unfold frl
 rw[List.mem_filter,List.mem_range]
 constructor
 ·rintro⟨h,e⟩
  refine⟨h,?_⟩
  rw[Ye h] at e
  simpa using e
 ·rintro⟨h,e⟩
  refine⟨h,?_⟩
  rw[Ye h,e];rfl
theorem Z45(L:List Bool):(frl L).Pairwise (·<·):=List.Pairwise.filter _ List.pairwise_lt_range
theorem Zrq(L:List Bool):(frl L).length+liv L=L.length:=by
 have h1:=Z6k L
 have h2:∀l:List Nat,(l.filter fun i=>!L.getD i false).length+(l.filter fun i=>L.getD i false).length=l.length:=by
  intro l
  induction l with
  | nil=>rfl
  | cons a l ih =>
   simp only[List.filter_cons]
   cases L.getD a false<;>simp at ih ⊢<;>omega
 have h3:=h2 (List.range L.length)
 rw[List.length_range] at h3
 unfold lnt Z2n at h1
 unfold frl
 omega
theorem Zli:∀ {l m:List Nat},l.Pairwise (·<·)→m.Pairwise (·<·)→(∀x,x∈l↔x∈m)→l=m
 | [],[],_,_,_=>rfl
 | [],b::m,_,_,h=>absurd ((h b).2 (by simp)) (by simp)
 | a::l,[],_,_,h=>absurd ((h a).1 (by simp)) (by simp)
 | a::l,b::m,h1,h2,h=>by
  rw[List.pairwise_cons] at h1 h2
  have e:a=b:=by
   rcases List.mem_cons.1 ((h a).1 (by simp))with q | q
   ·exact q
   ·rcases List.mem_cons.1 ((h b).2 (by simp))with q' | q'
    ·exact q'.symm
    ·have:=h2.1 a q;have:=h1.1 b q';omega
  subst e
  refine congrArg _ (Zli h1.2 h2.2 fun x=>⟨fun hx=>?_,fun hx=>?_⟩)
  ·rcases List.mem_cons.1 ((h x).1 (List.mem_cons_of_mem _ hx))with q | q
   ·subst q;have:=h1.1 _ hx;omega
   ·exact q
  ·rcases List.mem_cons.1 ((h x).2 (List.mem_cons_of_mem _ hx))with q | q
   ·subst q;have:=h2.1 _ hx;omega
   ·exact q
theorem Zmz{L:List Bool}(h:Zo L=L.length):frl L=[]:=by
 rw[List.eq_nil_iff_forall_not_mem]
 intro i hi
 obtain⟨h1,h2⟩:=(Z1r L i).1 hi
 rw[Zcn.1 h i h1] at h2;cases h2
theorem Zn0{L:List Bool}(h:Zo L<L.length):frl L=Zo L::frl (tkL L):=by
 have hs:tkL L=L.set (Zo L) true:=by unfold tkL;rw[if_pos h]
 refine Zli (Z45 L) (List.pairwise_cons.2 ⟨fun x hx=>?_,Z45 _⟩) fun x=>?_
 ·obtain⟨h1,h2⟩:=(Z1r _ x).1 hx
  have hx1:x<L.length:=by rw[Us] at h1;exact h1
  refine Nat.lt_of_not_le fun g=>?_
  by_cases q:x=Zo L
  ·subst q
   simp[hs] at h2
  ·have:=Z1b L x hx1 (by omega)
   simp only[hs] at h2
   rw[List.getElem_set_ne (fun e=>q e.symm),this] at h2;cases h2
 ·rw[List.mem_cons,Z1r,Z1r]
  constructor
  ·rintro⟨h1,h2⟩
   by_cases q:x=Zo L
   ·exact .inl q
   ·refine .inr ⟨by rw[Us];exact h1,?_⟩
    simp only[hs]
    rw[List.getElem_set_ne (fun e=>q e.symm)];exact h2
  ·rintro(rfl | ⟨h1,h2⟩)
   ·exact⟨h,Z0m L h⟩
   ·have hx1:x<L.length:=by rw[Us] at h1;exact h1
    refine⟨hx1,?_⟩
    simp only[hs] at h2
    by_cases q:Zo L=x
    ·subst q;simp at h2
    ·rw[List.getElem_set_ne q] at h2;exact h2
theorem Zmy{L:List Bool}{p:Nat}(h:p<L.length)(e:L[p]=true):p∉frl L∧∀x,x∈frl (L.set p false)↔x=p∨x∈frl L:=by
 constructor
 ·intro hp
  obtain⟨_,h2⟩:=(Z1r L p).1 hp
  rw[e] at h2;cases h2
 ·intro x
  rw[Z1r,Z1r]
  constructor
  ·rintro⟨h1,h2⟩
   by_cases q:p=x
   ·exact .inl q.symm
   ·rw[List.getElem_set_ne q] at h2
    exact .inr ⟨by simpa using h1,h2⟩
  ·rintro(rfl | ⟨h1,h2⟩)
   ·exact⟨by simpa using h,by simp⟩
   ·refine⟨by simpa using h1,?_⟩
    by_cases q:p=x
    ·subst q;simp
    ·rw[List.getElem_set_ne q];exact h2
theorem Zrr(n:Nat):frl (List.replicate n false)=List.range n:=by
 unfold frl
 rw[List.length_replicate,List.filter_eq_self]
 intro i hi
 rw[List.mem_range] at hi
 rw[Ye (by simpa using hi)]
 simp
def Z3a(a b:Int):Bool:=decide (a<b)
def Z04(a b:Int):Prop:=Z3a b a=false
theorem Znz(a b:Int):Z3a a b=true↔a<b:=by unfold Z3a;exact decide_eq_true_iff
theorem Z2m(a b:Int):Z04 a b↔¬b<a:=by unfold Z04 Z3a;exact decide_eq_false_iff_not
theorem Uj(a:Int):Z04 a a:=by rw[Z2m];omega
theorem Vx{a b c:Int}(h:Z04 a b)(k:Z04 b c):Z04 a c:=by rw[Z2m] at *;omega
theorem Z1v{a b:Int}(h:Z3a a b=true):Z04 a b:=by rw[Z2m];rw[Znz] at h;omega
theorem Z3f{a b:Int}(h:Z04 a b)(k:Z04 b a):a=b:=by rw[Z2m] at *;omega
def IHp(f:Nat→Int)(n:Nat):Prop:=∀k,0<k→k<n→Z04 (f ((k-1)/2)) (f k)
def IEx(f:Nat→Int)(n j:Nat):Prop:=∀k,0<k→k<n→k≠j→(k-1)/2≠j→Z04 (f ((k-1)/2)) (f k)
def IGr(f:Nat→Int)(n j:Nat):Prop:=0<j→∀k,0<k→k<n→(k-1)/2=j→Z04 (f ((j-1)/2)) (f k)
def ICh(f:Nat→Int)(n j:Nat):Prop:=∀k,0<k→k<n→(k-1)/2=j→Z04 (f j) (f k)
def IPa(f:Nat→Int)(j:Nat):Prop:=0<j→Z04 (f ((j-1)/2)) (f j)
def isw(f:Nat→Int)(i j:Nat):Nat→Int:=fun k=>if k=i then f j else if k=j then f i else f k
theorem Zcz(f:Nat→Int)(i j:Nat):isw f i j i=f j:=if_pos rfl
theorem Zd0(f:Nat→Int)(i j:Nat):isw f i j j=f i:=by unfold isw;split<;>simp_all
theorem Z0x(f:Nat→Int){i j k:Nat}(h:k≠i)(h':k≠j):isw f i j k=f k:=by unfold isw;rw[if_neg h,if_neg h']
theorem IHp.of{f:Nat→Int}{n j:Nat}(he:IEx f n j)(hc:ICh f n j)(hp:IPa f j):IHp f n:=fun k h0 h1=>by
 by_cases e:k=j
 ·subst e;exact hp h0
 ·by_cases e':(k-1)/2=j
  ·rw[e'];exact hc k h0 h1 e'
  ·exact he k h0 h1 e e'
theorem IHp.min{f:Nat→Int}{n:Nat}(h:IHp f n):∀k,k<n→Z04 (f 0) (f k):=by
 intro k
 induction k using Nat.strongRecOn with
 | ind k ih =>
  intro hk
  rcases Nat.eq_zero_or_pos k with rfl | h0
  ·exact Uj _
  ·exact Vx (ih ((k-1)/2) (by omega) (by omega)) (h k h0 hk)
theorem IHp.congr{f g:Nat→Int}{n:Nat}(h:IHp f n)(e:∀k,k<n→g k=f k):IHp g n:=fun k h0 h1=>by
 rw[e k h1,e _ (by omega)];exact h k h0 h1
theorem Zo0{f:Nat→Int}{n i j:Nat}(hi:(j-1)/2=i)(hj:0<j)(hn:j<n)(he:IEx f n j)(hg:IGr f n j)(hc:ICh f n j)(hl:Z3a (f j) (f i)=true) :
  IEx (isw f i j) n i∧IGr (isw f i j) n i∧ICh (isw f i j) n i:=by
 have hlt:=Z1v hl
 have hij:i≠j:=by omega
 refine⟨fun k h0 h1 h2 h3=>?_,fun hi0 k h0 h1 h2=>?_,fun k h0 h1 h2=>?_⟩
 ·have hkj:k≠j:=fun e=>h3 (by rw[e];exact hi)
  rw[Z0x f h2 hkj]
  by_cases e:(k-1)/2=j
  ·rw[e,Zd0]
   have:=hg hj k h0 h1 e
   rwa [hi] at this
  ·rw[Z0x f h3 e];exact he k h0 h1 hkj e
 ·have hpi:(i-1)/2≠i:=by omega
  have hpj:(i-1)/2≠j:=by omega
  rw[Z0x f hpi hpj]
  have a:=he i hi0 (by omega) hij hpj
  by_cases e:k=j
  ·subst e;rw[Zd0];exact a
  ·rw[Z0x f (by omega) e]
   have b:=he k h0 h1 e (by omega)
   rw[h2] at b
   exact Vx a b
 ·rw[Zcz]
  by_cases e:k=j
  ·subst e;rw[Zd0];exact hlt
  ·rw[Z0x f (by omega) e]
   have b:=he k h0 h1 e (by omega)
   rw[h2] at b
   exact Vx hlt b
theorem Zfi{f:Nat→Int}{n i m:Nat}(hm:(m-1)/2=i)(h0m:0<m)(he:IEx f n i)(hg:IGr f n i)(hmin:∀k,0<k→k<n→(k-1)/2=i→Z04 (f m) (f k))(hmn:m<n)(hl:Z3a (f m) (f i)=true) :
  IEx (isw f i m) n m∧IGr (isw f i m) n m∧IPa (isw f i m) m:=by
 have hlt:=Z1v hl
 have him:i≠m:=by omega
 refine⟨fun k h0 h1 h2 h3=>?_,fun _ k h0 h1 h2=>?_,fun _=>?_⟩
 ·by_cases e:(k-1)/2=i
  ·rw[e,Zcz,Z0x f (by omega) h2];exact hmin k h0 h1 e
  ·rw[Z0x f e h3]
   by_cases e':k=i
   ·subst e';rw[Zcz];exact hg h0 m h0m hmn hm
   ·rw[Z0x f e' h2];exact he k h0 h1 e' e
 ·rw[hm,Zcz,Z0x f (by omega) (by omega)]
  have:=he k h0 h1 (by omega) (by omega)
  rwa [h2] at this
 ·rw[hm,Zcz,Zd0];exact hlt
def V1(l:List Int)(k:Nat):Int:=l.getD k 0
theorem Z2l(l:List Int){k:Nat}(h:k<l.length):V1 l k=l[k]:=by simp[V1,List.getD,h]
def Z39(l:List Int)(i j:Nat):List Int:=(l.set i (V1 l j)).set j (V1 l i)
theorem Vt(l:List Int)(i j:Nat):(Z39 l i j).length=l.length:=by simp[Z39]
theorem Z6h(l:List Int){i j:Nat}(hi:i<l.length)(hj:j<l.length):V1 (Z39 l i j)=isw (V1 l) i j:=by
 funext k
 unfold Z39 isw
 by_cases e:k=j
 ·subst e
  by_cases e':k=i
  ·subst e';rw[if_pos rfl,Z2l _ (by simpa using hj)];simp
  ·rw[if_neg e',if_pos rfl,Z2l _ (by simpa using hj)];simp
 ·by_cases e':k=i
  ·subst e';rw[if_pos rfl]
   rw[Z2l _ (by simpa using hi)]
   rw[List.getElem_set_ne (fun h=>e h.symm)];simp
  ·rw[if_neg e',if_neg e]
   simp[V1,List.getD,Ne.symm e,Ne.symm e']
theorem Z5f(l:List Int){i j:Nat}(hi:i<l.length)(hj:j<l.length):(Z39 l i j).Perm l:=by
 have h:=Array.swap_perm (xs:=l.toArray) (i:=i) (j:=j) (by simpa using hi) (by simpa using hj)
 have h2:=h.toList
 simp only[Array.toList_swap] at h2
 unfold Z39
 rw[Z2l l hi,Z2l l hj]
 simpa using h2
theorem Z5c(l m:List Int){k:Nat}(h:k<l.length):V1 (l++m) k=V1 l k:=by simp[V1,List.getD,h,List.getElem?_append_left]
theorem Zs7{l:List Int}(x:Int)(h:IHp (V1 l) l.length):IEx (V1 (l++[x])) (l.length+1) l.length∧IGr (V1 (l++[x])) (l.length+1) l.length∧ICh (V1 (l++[x])) (l.length+1) l.length:=by
 refine⟨fun k h0 h1 h2 h3=>?_,fun _ k h0 h1 h2=>?_,fun k h0 h1 h2=>?_⟩
 ·rw[Z5c l [x] (by omega),Z5c l [x] (by omega)]
  exact h k h0 (by omega)
 ·omega
 ·omega
def Z6y(s:List Int):Prop:=s.Pairwise Z04
def Zaw(x:Int):List Int→List Int
 | []=>[x]
 | a::s=>if Z3a a x=true then a::Zaw x s else x::a::s
theorem Z1d(x:Int):∀s,(Zaw x s).Perm (x::s)
 | []=>.refl _
 | a::s=>by
  unfold Zaw
  split
  ·exact((Z1d x s).cons a).trans (List.Perm.swap x a s)
  ·exact .refl _
theorem Z4a(x:Int):∀s,Z6y s→Z6y (Zaw x s)
 | [],_=>by simp[Zaw,Z6y]
 | a::s,h=>by
  have h2:=List.pairwise_cons.1 h
  unfold Zaw
  split
  ·rename_i hx
   refine List.pairwise_cons.2 ⟨fun b hb=>?_,Z4a x s h2.2⟩
   rcases List.mem_cons.1 ((Z1d x s).mem_iff.1 hb)with rfl | hb
   ·exact Z1v hx
   ·exact h2.1 b hb
  ·rename_i hx
   have hx':Z04 x a:=by unfold Z04;simpa using hx
   refine List.pairwise_cons.2 ⟨fun b hb=>?_,h⟩
   rcases List.mem_cons.1 hb with rfl | hb
   ·exact hx'
   ·exact Vx hx' (h2.1 b hb)
theorem Z5e:∀ {s t:List Int},Z6y s→Z6y t→s.Perm t→s=t
 | [],t,_,_,h=>(List.nil_perm.1 h).symm
 | a::s,[],_,_,h=>by have:=h.length_eq;simp at this
 | a::s,b::t,hs,ht,h=>by
  have h1:=List.pairwise_cons.1 hs
  have h2:=List.pairwise_cons.1 ht
  have ha:Z04 b a:=by
   rcases List.mem_cons.1 (h.mem_iff.1 (List.mem_cons_self ..))with rfl | hm
   ·exact Uj _
   ·exact h2.1 a hm
  have hb:Z04 a b:=by
   rcases List.mem_cons.1 (h.mem_iff.2 (List.mem_cons_self ..))with rfl | hm
   ·exact Uj _
   ·exact h1.1 b hm
  obtain rfl:=Z3f hb ha
  rw[Z5e h1.2 h2.2 h.cons_inv]
def IHs(l s:List Int):Prop:=IHp (V1 l) l.length∧l.Perm s∧Z6y s
theorem IHs.nil:IHs [] []:=⟨fun k _ h=>by simp at h,.refl _,by simp[Z6y]⟩
theorem IHs.len{l s:List Int}(h:IHs l s):l.length=s.length:=h.2.1.length_eq
theorem IHs.head{l s:List Int}{a:Int}(h:IHs l (a::s)):V1 l 0=a:=by
 obtain⟨h1,h2,h3⟩:=h
 have hl:0<l.length:=by rw[h2.length_eq];simp
 have h4:=List.pairwise_cons.1 h3
 refine Z3f ?_ ?_
 ·obtain⟨k,hk,e⟩:=List.getElem_of_mem (h2.mem_iff.2 (List.mem_cons_self ..))
  have:=h1.min k hk
  rwa [Z2l l hk,e] at this
 ·have hm:V1 l 0∈a::s:=h2.mem_iff.1 (by rw[Z2l l hl];exact gM0 hl)
  rcases List.mem_cons.1 hm with e | hm
  ·rw[e];exact Uj _
  ·exact h4.1 _ hm
theorem IHs.cut{l l' s s':List Int}{x:Int}{n:Nat}(hs:IHs l s)(hp:l'.Perm l)(hn:l'.length=n+1)(hx:V1 l' n=x)(hh:IHp (V1 l') n)(hs':s.Perm (x::s'))(h':Z6y s') :
  l'=l'.take n++[x]∧IHs (l'.take n) s':=by
 have e:l'=l'.take n++[x]:=by
  rw[←hx,Z2l l' (by omega)]
  have:=List.take_succ_eq_append_getElem (l:=l') (i:=n) (by omega)
  rw[←this,List.take_of_length_le (by omega)]
 have hl:(l'.take n).length=n:=by simp;omega
 refine⟨e,?_,?_,h'⟩
 ·rw[hl]
  refine hh.congr fun k hk=>?_
  have:=Z5c (l'.take n) [x] (k:=k) (by omega)
  rw[←e] at this
  exact this.symm
 ·have h1:(l'.take n++[x]).Perm (x::s'):=by rw[←e];exact(hp.trans hs.2.1).trans hs'
  exact(List.perm_append_comm.symm.trans h1).cons_inv
def Zg(l:List Nat):List Int:=l.map fun n:Nat=>(n:Int)
def frI(L:List Bool):List Int:=Zg (frl L)
theorem Z55{l:List Nat}(h:l.Pairwise (·<·)):Z6y (Zg l):=by
 unfold Z6y Zg
 rw[List.pairwise_map]
 exact h.imp fun {a b} hab=>by rw[Z2m];omega
theorem Zhg(L:List Bool):Z6y (frI L):=Z55 (Z45 L)
theorem Z0d{l:List Nat}(h:l.Pairwise (·<·)):l.Nodup:=h.imp fun {a b} hab=>Nat.ne_of_lt hab
theorem Zhf(L:List Bool):(frI L).length+liv L=L.length:=by
 unfold frI Zg
 rw[List.length_map]
 exact Zrq L
theorem Zmw{L:List Bool}{p:Nat}(h:p<L.length)(e:L[p]=true):Zaw (p:Int) (frI L)=frI (L.set p false):=by
 refine Z5e (Z4a _ _ (Zhg L)) (Zhg _) ((Z1d _ _).trans ?_)
 obtain⟨h1,h2⟩:=Zmy h e
 have hp:(p::frl L).Perm (frl (L.set p false)):=by
  refine(List.perm_ext_iff_of_nodup (List.nodup_cons.2 ⟨h1,Z0d (Z45 L)⟩) (Z0d (Z45 _))).2 fun x=>?_
  rw[List.mem_cons,h2 x]
 exact hp.map _
theorem Zrp(n:Nat):frI (List.replicate n false)=Zg (List.range n):=by unfold frI;rw[Zrr]
theorem Zk9(k:Nat):Zaw (k:Int) (Zg (List.range k))=Zg (List.range (k+1)):=by
 refine Z5e (Z4a _ _ (Z55 List.pairwise_lt_range)) (Z55 List.pairwise_lt_range) ((Z1d _ _).trans ?_)
 have hp:(k::List.range k).Perm (List.range (k+1)):=by
  rw[List.range_succ]
  exact(List.perm_append_comm (l₁:=List.range k) (l₂:=[k])).symm
 exact hp.map _
theorem Zcm{L:List Bool}(h:Zo L<L.length):frI L=(Zo L:Int)::frI (tkL L):=by
 unfold frI
 rw[Zn0 h]
 rfl
theorem Zcl{L:List Bool}(h:Zo L=L.length):frI L=[]:=by unfold frI;rw[Zmz h];rfl
theorem Z65(n:Nat):(Zg (List.range n)).length=n:=by simp[Zg]
def Vq(a b:Int × Int):Prop:=a.1<b.1∨(a.1=b.1∧a.2<b.2)
instance (a b:Int × Int):Decidable (Vq a b):=by unfold Vq;infer_instance
theorem Yj(a:Int × Int):¬Vq a a:=by unfold Vq;omega
theorem Z2o{a b c:Int × Int}(h:Vq a b)(k:Vq b c):Vq a c:=by unfold Vq at *;omega
theorem Z2y(a b:Int × Int):Vq a b∨a=b∨Vq b a:=by
 obtain⟨a1,a2⟩:=a
 obtain⟨b1,b2⟩:=b
 unfold Vq
 simp only[Prod.mk.injEq]
 omega
def Z9(h:Hq):Int × Int:=(h.t,h.r)
abbrev Y9(hs:List Hq):Prop:=hs.Pairwise fun a b=>Vq (Z9 a) (Z9 b)
def Z0a(hs:List Hq)(nm:Int × Int):Option Hq:=hs.find? fun h=>decide (Z9 h=nm)
def Yh:List Hq→Hq→List Hq
 | [],h=>[h]
 | a::l,h=>if Vq (Z9 a) (Z9 h)then a::Yh l h else if Z9 a=Z9 h then h::l else h::a::l
def Zc9(hs:List Hq)(nm:Int × Int):List Hq:=hs.filter fun h=>!decide (Z9 h=nm)
def Zt(hs:List Hq)(id:Int):Option Hq:=hs.find? fun h=>(Yr h.q id).isSome
def Za(hs:List Hq):List Int:=hs.flatMap fun h=>V7 h.q
theorem Z3j(l m:List Hq):Za (l++m)=Za l++Za m:=by simp[Za]
theorem Zbz(h:Hq)(l:List Hq):Za (h::l)=V7 h.q++Za l:=rfl
theorem Zpo{hs:List Hq}(h:Y9 hs)(nm:Int × Int):∃l m,hs=l++m∧(∀x∈l,Vq (Z9 x) nm)∧(∀x∈m,¬Vq (Z9 x) nm):=by
 induction hs with
 | nil=>exact⟨[],[],rfl,by simp,by simp⟩
 | cons a hs ih =>
  rw[Y9,List.pairwise_cons] at h
  by_cases e:Vq (Z9 a) nm
  ·obtain⟨l,m,rfl,h1,h2⟩:=ih h.2
   exact⟨a::l,m,rfl,fun x hx=>by rcases List.mem_cons.1 hx with rfl | hx;exact e;exact h1 x hx,h2⟩
  ·refine⟨[],a::hs,rfl,by simp,fun x hx=>?_⟩
   rcases List.mem_cons.1 hx with rfl | hx
   ·exact e
   ·exact fun k=>e (Z2o (h.1 x hx) k)
theorem Z31{l m:List Hq}{h:Hq}(h1:∀x∈l,Vq (Z9 x) (Z9 h)):Yh (l++m) h=l++Yh m h:=by
 induction l with
 | nil=>rfl
 | cons a l ih =>
  rw[List.cons_append]
  show(if Vq (Z9 a) (Z9 h)then a::Yh (l++m) h else _)=_
  rw[if_pos (h1 a (by simp)),ih fun x hx=>h1 x (List.mem_cons_of_mem _ hx)]
  rfl
theorem Zid{m:List Hq}{h:Hq}(h2:∀x∈m,Vq (Z9 h) (Z9 x)):Yh m h=h::m:=by
 cases m with
 | nil=>rfl
 | cons a m =>
  have:=h2 a (by simp)
  show(if Vq (Z9 a) (Z9 h)then _ else if Z9 a=Z9 h then _ else _)=_
  rw[if_neg (fun k=>Yj _ (Z2o this k)),if_neg (fun e=>by rw[e] at this;exact Yj _ this)]
theorem Zie{a h:Hq}{m:List Hq}(e:Z9 a=Z9 h):Yh (a::m) h=h::m:=by
 show(if Vq (Z9 a) (Z9 h)then _ else if Z9 a=Z9 h then _ else _)=_
 rw[if_neg (by rw[e];exact Yj _),if_pos e]
theorem Z47{hs:List Hq}{nm:Int × Int}{h:Hq}(e:Z0a hs nm=some h):h∈hs∧Z9 h=nm:=by
 unfold Z0a at e
 exact⟨List.mem_of_find?_eq_some e,by simpa using List.find?_some e⟩
theorem Zcq{hs:List Hq}{nm:Int × Int}(e:Z0a hs nm=none):∀h∈hs,Z9 h≠nm:=fun h hh=>by
 unfold Z0a at e
 simpa using List.find?_eq_none.1 e h hh
theorem Zbj{hs:List Hq}(h:Y9 hs){a:Hq}(ha:a∈hs):∃l m,hs=l++a::m∧(∀x∈l,Vq (Z9 x) (Z9 a))∧(∀x∈m,Vq (Z9 a) (Z9 x)):=by
 obtain⟨l,m,rfl⟩:=List.append_of_mem ha
 obtain⟨h1,h2,h3⟩:=List.pairwise_append.1 h
 rw[List.pairwise_cons] at h2
 exact⟨l,m,rfl,fun x hx=>h3 x hx a (by simp),h2.1⟩
theorem Zto{hs:List Hq}(h:Y9 hs){a b:Hq}(ha:a∈hs)(hb:b∈hs)(e:Z9 a=Z9 b):a=b:=by
 obtain⟨l,m,rfl,h1,h2⟩:=Zbj h ha
 rcases List.mem_append.1 hb with q | q
 ·have:=h1 b q;rw[e] at this;exact absurd this (Yj _)
 ·rcases List.mem_cons.1 q with q | q
  ·exact q.symm
  ·have:=h2 b q;rw[e] at this;exact absurd this (Yj _)
theorem Zxe{hs:List Hq}(h:Y9 hs){a x:Hq}(ha:a∈hs)(e:Z9 x=Z9 a):∃l m,hs=l++a::m∧Yh hs x=l++x::m∧Y9 (l++x::m):=by
 obtain⟨l,m,rfl,h1,h2⟩:=Zbj h ha
 refine⟨l,m,rfl,?_,?_⟩
 ·rw[Z31 (fun y hy=>by rw[e];exact h1 y hy),Zie e.symm]
 ·obtain⟨g1,g2,g3⟩:=List.pairwise_append.1 h
  rw[List.pairwise_cons] at g2
  refine List.pairwise_append.2 ⟨g1,List.pairwise_cons.2 ⟨fun y hy=>by rw[e];exact h2 y hy,g2.2⟩,fun y hy z hz=>?_⟩
  rcases List.mem_cons.1 hz with rfl | hz
  ·rw[e];exact h1 y hy
  ·exact g3 y hy z (List.mem_cons_of_mem _ hz)
theorem Zp0{hs:List Hq}(h:Y9 hs){x:Hq}(hn:∀a∈hs,Z9 a≠Z9 x):∃l m,hs=l++m∧Yh hs x=l++x::m∧Y9 (l++x::m):=by
 obtain⟨l,m,rfl,h1,h2⟩:=Zpo h (Z9 x)
 have h3:∀y∈m,Vq (Z9 x) (Z9 y):=fun y hy=>by
  rcases Z2y (Z9 x) (Z9 y)with q | q | q
  ·exact q
  ·exact absurd q.symm (hn y (List.mem_append_right _ hy))
  ·exact absurd q (h2 y hy)
 refine⟨l,m,rfl,by rw[Z31 h1,Zid h3],?_⟩
 obtain⟨g1,g2,g3⟩:=List.pairwise_append.1 h
 refine List.pairwise_append.2 ⟨g1,List.pairwise_cons.2 ⟨h3,g2⟩,fun y hy z hz=>?_⟩
 rcases List.mem_cons.1 hz with rfl | hz
 ·exact h1 y hy
 ·exact g3 y hy z hz
theorem Zw2{hs:List Hq}(h:Y9 hs){a:Hq}(ha:a∈hs):∃l m,hs=l++a::m∧Zc9 hs (Z9 a)=l++m∧Y9 (l++m):=by
 obtain⟨l,m,rfl,h1,h2⟩:=Zbj h ha
 have e1:l.filter (fun h=>!decide (Z9 h=Z9 a))=l:=List.filter_eq_self.2 fun x hx=>by
  have:=h1 x hx
  simp only[Bool.not_eq_true',decide_eq_false_iff_not]
  intro e
  rw[e] at this
  exact Yj _ this
 have e2:m.filter (fun h=>!decide (Z9 h=Z9 a))=m:=List.filter_eq_self.2 fun x hx=>by
  have:=h2 x hx
  simp only[Bool.not_eq_true',decide_eq_false_iff_not]
  intro e
  rw[e] at this
  exact Yj _ this
 refine⟨l,m,rfl,?_,List.Pairwise.sublist (List.Sublist.append_left (List.sublist_cons_self _ _) _) h⟩
 unfold Zc9
 rw[List.filter_append,e1]
 simp[e2]
structure Zs(most k:Nat)(hs:List Hq)(X:List Int)(L:List Bool):Prop where
 srt:Y9 hs
 len:hs.length≤most
 inv:∀h∈hs,Z9z h
 ne:∀h∈hs,h.q≠[]
 ids:(Za hs++X).Perm (Zg (lnt L))
 wt:∀h∈hs,h.W≤k
 ql:∀h∈hs,h.q.length≤k
theorem Zd7(n:Nat):lnt (List.replicate n false)=[]:=by
 rw[List.eq_nil_iff_forall_not_mem]
 intro x hx
 obtain⟨h,e⟩:=(Z0b _ x).1 hx
 simp at e
theorem Zet(most:Nat){X:List Int}{L:List Bool}(h:X.Perm (Zg (lnt L))):Zs most 0 [] X L:=⟨by simp[Y9],by simp,by simp,by simp,h,by simp,by simp⟩
theorem Zlr(most:Nat)(n:Nat):Zs most 0 [] [] (List.replicate n false):=Zet most (by rw[Zd7];exact .refl _)
theorem Zs.more{most k k':Nat}{hs:List Hq}{X:List Int}{L:List Bool}(h:Zs most k hs X L)(hk:k≤k'):Zs most k' hs X L:=⟨h.srt,h.len,h.inv,h.ne,h.ids,fun x hx=>by have:=h.wt x hx;omega,fun x hx=>by have:=h.ql x hx;omega⟩
theorem Zhx{L:List Bool}{id:Int}:id∈Zg (lnt L)↔hsL L id=true:=by
 unfold Zg
 rw[List.mem_map]
 constructor
 ·rintro⟨n,hn,rfl⟩
  obtain⟨h1,h2⟩:=(Z0b L n).1 hn
  simp[hsL,h1,h2]
 ·intro e
  unfold hsL at e
  simp only[Bool.and_eq_true,decide_eq_true_eq] at e
  obtain⟨i,rfl⟩:=Int.eq_ofNat_of_zero_le e.1
  exact⟨i,(Z0b L i).2 (Zal (by simpa using e.2)),rfl⟩
theorem Zs.all{most k:Nat}{hs:List Hq}{X:List Int}{L:List Bool}(h:Zs most k hs X L){id:Int}:(id∈Za hs∨id∈X)↔hsL L id=true:=by
 rw[←Zhx,←h.ids.mem_iff,List.mem_append]
theorem Zs.mem{most k:Nat}{hs:List Hq}{X:List Int}{L:List Bool}(h:Zs most k hs X L){id:Int}(hi:id∈Za hs):hsL L id=true:=h.all.1 (.inl hi)
theorem Zqw(hs:List Hq):(Za hs).length=(hs.map fun x=>x.q.length).sum:=by
 unfold Za
 rw[List.length_flatMap]
 congr 1
 apply List.map_congr_left
 intro x _
 simp[V7]
theorem Z0c{hs:List Hq}{id:Int}{h:Hq}(e:Zt hs id=some h):h∈hs∧∃r,Yr h.q id=some r:=by
 unfold Zt at e
 have q:=List.find?_some e
 exact⟨List.mem_of_find?_eq_some e,Option.isSome_iff_exists.1 (by simpa using q)⟩
theorem Zsu{hs:List Hq}{id:Int}(e:Zt hs id=none):id∉Za hs:=fun hx=>by
 obtain⟨h,hh,hi⟩:=List.mem_flatMap.1 hx
 have:=List.find?_eq_none.1 e h hh
 obtain⟨r,hr⟩:=Zci.2 hi
 simp[hr] at this
theorem Zd8{L:List Bool}(h:Zo L<L.length):(Zg (lnt (tkL L))).Perm ((Zo L:Int)::Zg (lnt L)):=by
 have hp:(lnt (tkL L)).Perm (Zo L::lnt L):=by
  have nf:Zo L∉lnt L:=fun q=>by
   obtain⟨_,e⟩:=(Z0b L _).1 q
   rw[Z0m L h] at e;cases e
  refine(List.perm_ext_iff_of_nodup (Z0d (Z6l _)) (List.nodup_cons.2 ⟨nf,Z0d (Z6l L)⟩)).2 fun x=>?_
  rw[List.mem_cons,Z0b,Z0b]
  have hs:tkL L=L.set (Zo L) true:=by unfold tkL;rw[if_pos h]
  constructor
  ·rintro⟨h1,h2⟩
   have hx:x<L.length:=by rw[Us] at h1;exact h1
   by_cases e:x=Zo L
   ·exact .inl e
   ·refine .inr ⟨hx,?_⟩
    simp only[hs] at h2
    rwa [List.getElem_set_ne (fun q=>e q.symm)] at h2
  ·rintro(rfl | ⟨h1,h2⟩)
   ·exact⟨by rw[Us];exact h,by simp[hs]⟩
   ·refine⟨by rw[Us];exact h1,?_⟩
    simp only[hs]
    by_cases e:Zo L=x
    ·subst e;simp
    ·rw[List.getElem_set_ne e];exact h2
 exact hp.map _
theorem Zd6{L:List Bool}{p:Nat}(h:p<L.length)(e:L[p]=true):((p:Int)::Zg (lnt (L.set p false))).Perm (Zg (lnt L)):=by
 have hp:(p::lnt (L.set p false)).Perm (lnt L):=by
  have nf:p∉lnt (L.set p false):=fun q=>by
   obtain⟨_,e2⟩:=(Z0b _ _).1 q
   simp at e2
  refine(List.perm_ext_iff_of_nodup (List.nodup_cons.2 ⟨nf,Z0d (Z6l _)⟩) (Z0d (Z6l L))).2 fun x=>?_
  rw[List.mem_cons,Z0b,Z0b]
  constructor
  ·rintro(rfl | ⟨h1,h2⟩)
   ·exact⟨h,e⟩
   ·have hx:x<L.length:=by simpa using h1
    by_cases q:p=x
    ·subst q;simp at h2
    ·rw[List.getElem_set_ne q] at h2;exact⟨hx,h2⟩
  ·rintro⟨h1,h2⟩
   by_cases q:x=p
   ·exact .inl q
   ·exact .inr ⟨by simpa using h1,by rw[List.getElem_set_ne (fun r=>q r.symm)];exact h2⟩
 exact hp.map _
def hdB(hs:List Hq)(t r:Int):Hq:=(Z0a hs (t,r)).getD ⟨t,r,0,[]⟩
def twB(hs:List Hq)(t r txn:Int):Bool:=(hdB hs t r).q.any fun x=>x.txn==txn
def Z1c(most:Nat)(hs:List Hq)(L:List Bool)(t r:Int):Prop:=(Z0a hs (t,r)=none∧most≤hs.length)∨L.length≤liv L
instance (most:Nat) (hs:List Hq) (L:List Bool) (t r:Int):Decidable (Z1c most hs L t r):=by unfold Z1c;infer_instance
def Z07(m:Int):Prop:=m=0∨Zr m=false
instance (m:Int):Decidable (Z07 m):=by unfold Z07;infer_instance
def Z8o(hs:List Hq)(L:List Bool)(t r txn m:Int):Hq:=⟨t,r,(Yv (hdB hs t r).W (hdB hs t r).q (Zo L) txn m).1,(Yv (hdB hs t r).W (hdB hs t r).q (Zo L) txn m).2.1⟩
def Zz(most:Nat)(hs:List Hq)(L:List Bool)(t r txn m:Int):Int:=if Z07 m then 2 else if twB hs t r txn=true then 4 else if Z1c most hs L t r then 8 else 0
def Uu(most:Nat)(hs:List Hq)(L:List Bool)(t r txn m:Int):Int × Bool × Int:=if Zz most hs L t r txn m=0 then(Zo L,(Yv (hdB hs t r).W (hdB hs t r).q (Zo L) txn m).2.2,0) else(0,false,Zz most hs L t r txn m)
def V9(most:Nat)(hs:List Hq)(L:List Bool)(t r txn m:Int):List Hq × List Bool:=if Zz most hs L t r txn m=0 then(Yh hs (Z8o hs L t r txn m),tkL L) else(hs,L)
def Yy(hs:List Hq)(h:Hq):List Hq:=if (scH h).q=[] then Zc9 hs (Z9 h)else Yh hs (scH h)
def Z0u(hs:List Hq)(id m:Int):Int:=if Z07 m then 2 else match Zt hs id with
 | none=>5
 | some h=>(upR h id m).2.2
def Z3c(hs:List Hq)(id m:Int):Bool:=if Z0u hs id m=0 then match Zt hs id with
 | none=>false
 | some h=>(upR h id m).2.1
 else false
def Z22(hs:List Hq)(id m:Int):List Hq:=if Z0u hs id m=0 then match Zt hs id with
 | none=>hs
 | some h=>Yh hs (upR h id m).1
 else hs
def Z1w(hs:List Hq)(id:Int):List Int × Int:=match Zt hs id with
 | none=>([],5)
 | some h=>((Zc (lvQ id h.q)).1,0)
def Vy(hs:List Hq)(L:List Bool)(id:Int):List Hq × List Bool:=match Zt hs id with
 | none=>(hs,L)
 | some h=>(Yy hs ⟨h.t,h.r,h.W,lvQ id h.q⟩,gvL L id)
def rqB(h:Hq)(id:Int):Rq:=(Yr h.q id).getD ⟨0,0,0,0,0⟩
def Z1a(hs:List Hq)(id:Int):List Int × Int:=match Zt hs id with
 | none=>([],5)
 | some h=>if 0<(rqB h id).sn then((Zc (abQ (rqB h id) h.q)).1,0) else([],7)
def Vb(hs:List Hq)(L:List Bool)(id:Int):List Hq × List Bool:=match Zt hs id with
 | none=>(hs,L)
 | some h=>if 0<(rqB h id).sn then(Yy hs ⟨h.t,h.r,h.W,abQ (rqB h id) h.q⟩,if (rqB h id).md=0 then gvL L id else L) else(hs,L)
def Z1s(hs:List Hq)(id txn:Int):Int:=match Zt hs id with
 | none=>5
 | some h=>(hnR h id txn).2
def Z1t(hs:List Hq)(id txn:Int):List Hq:=if Z1s hs id txn=0 then match Zt hs id with
 | none=>hs
 | some h=>Yh hs (hnR h id txn).1
 else hs
theorem Z69(l m:List Hq)(a:Hq):(Za (l++a::m)).Perm (V7 a.q++(Za l++Za m)):=by
 rw[Z3j,Zbz,←List.append_assoc,←List.append_assoc]
 exact List.perm_append_comm.append_right _
theorem Z40{most k k':Nat}{hs:List Hq}{X:List Int}{L L':List Bool}(b:Zs most k hs X L){a x:Hq}(ha:a∈hs)(e:Z9 x=Z9 a)(hi:Z9z x)(hn:x.q≠[])(hk:k≤k')(hw:x.W≤k')(hl:x.q.length≤k')
  (hp:∀rest,(V7 a.q++rest).Perm (Zg (lnt L))→(V7 x.q++rest).Perm (Zg (lnt L'))):Zs most k' (Yh hs x) X L':=by
 obtain⟨l,m,rfl,e2,s⟩:=Zxe b.srt ha e
 rw[e2]
 have old:∀y∈l++x::m,y=x∨y∈l++a::m:=fun y hy=>by
  rcases List.mem_append.1 hy with q | q
  ·exact .inr (List.mem_append_left _ q)
  ·rcases List.mem_cons.1 q with q | q
   ·exact .inl q
   ·exact .inr (List.mem_append_right _ (List.mem_cons_of_mem _ q))
 refine⟨s,by have:=b.len;simp at this ⊢;omega,fun y hy=>?_,fun y hy=>?_,?_,fun y hy=>?_,fun y hy=>?_⟩
 ·rcases old y hy with rfl | q
  ·exact hi
  ·exact b.inv y q
 ·rcases old y hy with rfl | q
  ·exact hn
  ·exact b.ne y q
 ·have q:=b.ids
  have e1:=((Z69 l m a).append_right X)
  have e2:=((Z69 l m x).append_right X)
  rw[List.append_assoc] at e1 e2
  exact e2.trans (hp _ (e1.symm.trans q))
 ·rcases old y hy with rfl | q
  ·exact hw
  ·have:=b.wt y q;omega
 ·rcases old y hy with rfl | q
  ·exact hl
  ·have:=b.ql y q;omega
theorem Zlp{most k k':Nat}{hs:List Hq}{X:List Int}{L L':List Bool}(b:Zs most k hs X L){a:Hq}(ha:a∈hs)(hk:k≤k')(hp:∀rest,(V7 a.q++rest).Perm (Zg (lnt L))→rest.Perm (Zg (lnt L'))):Zs most k' (Zc9 hs (Z9 a)) X L':=by
 obtain⟨l,m,rfl,e2,s⟩:=Zw2 b.srt ha
 rw[e2]
 have old:∀y∈l++m,y∈l++a::m:=fun y hy=>by
  rcases List.mem_append.1 hy with q | q
  ·exact List.mem_append_left _ q
  ·exact List.mem_append_right _ (List.mem_cons_of_mem _ q)
 refine⟨s,by have:=b.len;simp at this ⊢;omega,fun y hy=>b.inv y (old y hy),fun y hy=>b.ne y (old y hy),?_,fun y hy=>by have:=b.wt y (old y hy);omega,fun y hy=>by have:=b.ql y (old y hy);omega⟩
 rw[Z3j]
 have e1:=((Z69 l m a).append_right X)
 rw[List.append_assoc] at e1
 exact hp _ (e1.symm.trans b.ids)
theorem Zlq{most k k':Nat}{hs:List Hq}{X:List Int}{L L':List Bool}(b:Zs most k hs X L){x:Hq}(hno:∀a∈hs,Z9 a≠Z9 x)(hlt:hs.length<most)(hi:Z9z x)(hn:x.q≠[])(hk:k≤k')(hw:x.W≤k')(hl:x.q.length≤k')
  (hp:∀rest,rest.Perm (Zg (lnt L))→(V7 x.q++rest).Perm (Zg (lnt L'))):Zs most k' (Yh hs x) X L':=by
 obtain⟨l,m,rfl,e2,s⟩:=Zp0 b.srt hno
 rw[e2]
 have old:∀y∈l++x::m,y=x∨y∈l++m:=fun y hy=>by
  rcases List.mem_append.1 hy with q | q
  ·exact .inr (List.mem_append_left _ q)
  ·rcases List.mem_cons.1 q with q | q
   ·exact .inl q
   ·exact .inr (List.mem_append_right _ q)
 refine⟨s,by simp at hlt ⊢;omega,fun y hy=>?_,fun y hy=>?_,?_,fun y hy=>?_,fun y hy=>?_⟩
 ·rcases old y hy with rfl | q
  ·exact hi
  ·exact b.inv y q
 ·rcases old y hy with rfl | q
  ·exact hn
  ·exact b.ne y q
 ·have q:=b.ids
  rw[Z3j] at q
  have e2:=((Z69 l m x).append_right X)
  rw[List.append_assoc] at e2
  exact e2.trans (hp _ q)
 ·rcases old y hy with rfl | q
  ·exact hw
  ·have:=b.wt y q;omega
 ·rcases old y hy with rfl | q
  ·exact hl
  ·have:=b.ql y q;omega
theorem Zhh(L:List Bool):hsL L (Zo L)=false:=by
 by_cases h:Zo L<L.length
 ·rw[show hsL L (Zo L)=L[Zo L] by simp[hsL,h]]
  exact Z0m L h
 ·simp[hsL,List.getElem?_eq_none (show L.length≤Zo L by omega)]
theorem Zrt(hs:List Hq)(t r:Int):Z9 (hdB hs t r)=(t,r):=by
 unfold hdB
 cases e:Z0a hs (t,r) with
 | none=>rfl
 | some h=>exact(Z47 e).2
theorem Zs.hd{most k:Nat}{hs:List Hq}{X:List Int}{L:List Bool}(b:Zs most k hs X L)(t r:Int):Z9z (hdB hs t r)∧(hdB hs t r).W≤k∧(hdB hs t r).q.length≤k∧(∀x∈(hdB hs t r).q,x.id∈Za hs):=by
 unfold hdB
 cases e:Z0a hs (t,r) with
 | none=>exact⟨Zay t r,by show(0:Int)≤(k:Int);omega,Nat.zero_le _,fun x hx=>by cases hx⟩
 | some h =>
  have hm:=(Z47 e).1
  exact⟨b.inv h hm,b.wt h hm,b.ql h hm,fun x hx=>List.mem_flatMap.2 ⟨h,hm,List.mem_map.2 ⟨x,hx,rfl⟩⟩⟩
theorem Z3y{most k:Nat}{hs:List Hq}{X:List Int}{L:List Bool}(b:Zs most k hs X L){t r txn m:Int}(he:Zz most hs L t r txn m=0):Z12 (hdB hs t r).q (Zo L) txn m=0∧Zo L<L.length∧(Z0a hs (t,r)=none→hs.length<most):=by
 unfold Zz at he
 by_cases h1:Z07 m
 ·rw[if_pos h1] at he;cases he
 ·rw[if_neg h1] at he
  by_cases h2:twB hs t r txn=true
  ·rw[if_pos h2] at he;cases he
  ·rw[if_neg h2] at he
   by_cases h3:Z1c most hs L t r
   ·rw[if_pos h3] at he;cases he
   ·unfold Z1c at h3
    have h5:liv L<L.length:=Nat.lt_of_not_le fun q=>h3 (.inr q)
    refine⟨?_,?_,fun e=>Nat.lt_of_not_le fun q=>h3 (.inl ⟨e,q⟩)⟩
    ·unfold Z12
     rw[if_neg,if_neg]
     ·intro ha
      rw[List.any_eq_true] at ha
      obtain⟨x,hx,e⟩:=ha
      rw[Bool.or_eq_true] at e
      rcases e with e | e
      ·have h6:=(b.hd t r).2.2.2 x hx
       have h7:=b.mem h6
       rw[show x.id=(Zo L:Int)by simpa using e,Zhh] at h7
       cases h7
      ·apply h2
       unfold twB
       rw[List.any_eq_true]
       exact⟨x,hx,e⟩
     ·rintro(q | q | q)
      ·omega
      ·exact h1 (.inl q)
      ·exact h1 (.inr q)
    ·have:=Zhi L
     omega
theorem Za4(W:Int)(q:List Rq)(id txn m:Int):(Yv W q id txn m).2.1≠[]:=by
 intro e
 have:=(Zlj W q id txn m).2.2
 rw[e] at this
 simp at this
theorem Z76{most k:Nat}{hs:List Hq}{X:List Int}{L:List Bool}(b:Zs most k hs X L)(hk:k≤1000)(t r txn m:Int):Zs most (k+1) (V9 most hs L t r txn m).1 X (V9 most hs L t r txn m).2:=by
 unfold V9
 by_cases he:Zz most hs L t r txn m=0
 ·rw[if_pos he]
  obtain⟨h1,h2,h3⟩:=Z3y b he
  obtain⟨d1,d2,d3,_⟩:=b.hd t r
  obtain⟨w1,w2,w3⟩:=Zlj (hdB hs t r).W (hdB hs t r).q (Zo L) txn m
  have hB:(hdB hs t r).W+1≤4611686018427387904:=by omega
  have hi:Z9z (Z8o hs L t r txn m):=⟨Zfu d1.ok _ _ _ h1 hB,Z7f d1.ok d1.done _ _ _ h1⟩
  have hids:∀rest,(V7 (hdB hs t r).q++rest).Perm (Zg (lnt L))→(V7 (Z8o hs L t r txn m).q++rest).Perm (Zg (lnt (tkL L))):=fun rest q=>by
   show(V7 (Yv (hdB hs t r).W (hdB hs t r).q (Zo L) txn m).2.1++rest).Perm _
   rw[Zs5,List.append_assoc]
   exact(List.perm_middle).trans ((q.cons _).trans (Zd8 h2).symm)
  have c1:(Z8o hs L t r txn m).W≤((k+1:Nat):Int):=by show(Yv _ _ _ _ _).1≤_;omega
  have c2:(Z8o hs L t r txn m).q.length≤k+1:=by show(Yv _ _ _ _ _).2.1.length≤_;omega
  cases e:Z0a hs (t,r) with
  | none =>
   have eh:hdB hs t r=⟨t,r,0,[]⟩:=by unfold hdB;rw[e];rfl
   refine Zlq b (x:=Z8o hs L t r txn m) (Zcq e) (h3 e) hi (Za4 _ _ _ _ _) (Nat.le_succ _) c1 c2 fun rest q=>hids rest ?_
   rw[eh]
   exact q
  | some h =>
   have eh:hdB hs t r=h:=by unfold hdB;rw[e];rfl
   obtain⟨g1,g2⟩:=Z47 e
   exact Z40 b g1 (show Z9 (Z8o hs L t r txn m)=Z9 h from g2.symm) hi (Za4 _ _ _ _ _) (Nat.le_succ _) c1 c2 (by rw[eh] at hids;exact hids)
 ·rw[if_neg he]
  exact b.more (Nat.le_succ _)
theorem Zr0{m:Int}(h:¬Z07 m):Zr m=true:=by
 cases e:Zr m with
 | true=>rfl
 | false=>exact absurd (.inr e) h
theorem Zgb{h:Hq}{id:Int}{r:Rq}(e:Yr h.q id=some r):rqB h id=r:=by unfold rqB;rw[e];rfl
theorem Z77{most k k':Nat}{hs:List Hq}{X:List Int}{L L':List Bool}(b:Zs most k hs X L){a:Hq}(ha:a∈hs){W:Int}{q:List Rq}(ok:Ok W q)(hk:k≤k')(hw:W≤k')(hl:q.length≤k')
  (hp:∀rest,(V7 a.q++rest).Perm (Zg (lnt L))→(V7 q++rest).Perm (Zg (lnt L'))):Zs most k' (Yy hs ⟨a.t,a.r,W,q⟩) X L':=by
 have hids:V7 (scH ⟨a.t,a.r,W,q⟩).q=V7 q:=Zno ok
 unfold Yy
 by_cases e:(scH ⟨a.t,a.r,W,q⟩).q=[]
 ·rw[if_pos e]
  rw[e] at hids
  refine Zlp (a:=a) b ha hk fun rest p=>?_
  have:=hp rest p
  rw[←hids] at this
  exact this
 ·rw[if_neg e]
  refine Z40 b ha rfl (Zte _ ok) e hk hw ?_ fun rest p=>by rw[hids];exact hp rest p
  show(Zc q).2.length≤k'
  rw[Z86 ok];exact hl
theorem Zvc{h:Hq}{id m:Int}(h0:Ok h.W h.q)(he:(upR h id m).2.2=0):∃r,r∈h.q∧r.id=id∧Yr h.q id=some r∧r.sn=0∧Zr m=true∧m≠0∧upR h id m=(⟨h.t,h.r,(upQ h.W h.q r m).1,(upQ h.W h.q r m).2.1⟩,(upQ h.W h.q r m).2.2,0):=by
 unfold upR at he ⊢
 split at he
 ·cases he
 ·rename_i hm
  rw[if_neg hm]
  split at he
  ·cases he
  ·rename_i r hr
   split at he
   ·cases he
   ·rename_i hs
    have hf:=Zf9 hr
    refine⟨r,hf.1,hf.2,hr,by have:=(h0.rt r hf.1).s0;omega,Zr0 hm,fun e=>hm (.inl e),?_⟩
    simp only[if_neg hs]
theorem Zgz{most k:Nat}{hs:List Hq}{X:List Int}{L:List Bool}(b:Zs most k hs X L)(hk:k≤1000)(id m:Int):Zs most (k+1) (Z22 hs id m) X L:=by
 unfold Z22
 by_cases he:Z0u hs id m=0
 ·rw[if_pos he]
  unfold Z0u at he
  split at he
  ·cases he
  ·cases e:Zt hs id with
   | none=>rw[e] at he;cases he
   | some h =>
    rw[e] at he
    obtain⟨g1,_⟩:=Z0c e
    have hi:=b.inv h g1
    obtain⟨r,r1,r2,r3,r4,r5,r6,r7⟩:=Zvc hi.ok he
    have hw:=b.wt h g1
    have hl:=b.ql h g1
    obtain⟨w1,w2,w3⟩:=Zva h.W h.q r m
    show Zs most (k+1) (Yh hs (upR h id m).1) X L
    rw[r7]
    refine Z40 b g1 rfl ⟨Zv7 hi.ok r r1 m r4 r5 (by omega),Zca hi.ok hi.done r r1 m r4 r5⟩ (fun q=>?_) (Nat.le_succ _) (by show(upQ _ _ _ _).1≤_;omega) (by show(upQ _ _ _ _).2.1.length≤_;omega) fun rest p=>?_
    ·have q':(upQ h.W h.q r m).2.1=[]:=q
     rw[q'] at w3
     have:=List.length_pos_of_mem r1
     simp at w3
     omega
    ·show(V7 (upQ h.W h.q r m).2.1++rest).Perm _
     rw[Zwn]
     exact p
 ·rw[if_neg he]
  exact b.more (Nat.le_succ _)
theorem Zs.lent{most k:Nat}{hs:List Hq}{X:List Int}{L:List Bool}(b:Zs most k hs X L){h:Hq}(hh:h∈hs){r:Rq}(hr:r∈h.q):∃i:Nat,r.id=i∧∃hi:i<L.length,L[i]=true:=by
 have h1:r.id∈Za hs:=List.mem_flatMap.2 ⟨h,hh,List.mem_map.2 ⟨r,hr,rfl⟩⟩
 replace h1:=b.mem h1
 unfold hsL at h1
 simp only[Bool.and_eq_true,decide_eq_true_eq] at h1
 obtain⟨i,hi⟩:=Int.eq_ofNat_of_zero_le h1.1
 rw[hi] at h1
 exact⟨i,hi,Zal (by simpa using h1.2)⟩
theorem Zcs{L:List Bool}{i:Nat}(hi:i<L.length)(e:L[i]=true){a q:List Int}(hp:((i:Int)::q).Perm a):∀rest,(a++rest).Perm (Zg (lnt L))→(q++rest).Perm (Zg (lnt (gvL L (i:Int)))):=fun rest p=>by
 rw[Z48 L i (by rw[Ye hi];exact e)]
 have h1:((i:Int)::(q++rest)).Perm ((i:Int)::Zg (lnt (L.set i false))):=by
  rw[←List.cons_append]
  exact((hp.append_right rest).trans p).trans (Zd6 hi e).symm
 exact h1.cons_inv
theorem Za6{most k:Nat}{hs:List Hq}{X:List Int}{L:List Bool}(b:Zs most k hs X L)(id:Int):Zs most (k+1) (Vy hs L id).1 X (Vy hs L id).2:=by
 unfold Vy
 cases e:Zt hs id with
 | none=>exact b.more (Nat.le_succ _)
 | some h =>
  obtain⟨g1,r,hr⟩:=Z0c e
  obtain⟨r1,rfl⟩:=Zf9 hr
  have hi:=b.inv h g1
  obtain⟨i,hid,hlt,hL⟩:=b.lent g1 r1
  have hw:=b.wt h g1
  have hl:=b.ql h g1
  have hlq:=Z6m r.id h.q
  have hids:=Znn hi.ok r1
  show Zs most (k+1) (Yy hs ⟨h.t,h.r,h.W,lvQ r.id h.q⟩) X (gvL L r.id)
  rw[hid] at hids hlq ⊢
  exact Z77 b g1 (Zi5 hi.ok _) (Nat.le_succ _) (by omega) (by omega) (Zcs hlt hL hids)
theorem Za5{most k:Nat}{hs:List Hq}{X:List Int}{L:List Bool}(b:Zs most k hs X L)(id:Int):Zs most (k+1) (Vb hs L id).1 X (Vb hs L id).2:=by
 unfold Vb
 cases e:Zt hs id with
 | none=>exact b.more (Nat.le_succ _)
 | some h =>
  obtain⟨g1,r,hr⟩:=Z0c e
  have er:=Zgb hr
  obtain⟨r1,rfl⟩:=Zf9 hr
  simp only[er]
  by_cases hs0:0<r.sn
  ·simp only[if_pos hs0]
   have hi:=b.inv h g1
   obtain⟨i,hid,hlt,hL⟩:=b.lent g1 r1
   have hw:=b.wt h g1
   have hl:=b.ql h g1
   have hlq:=Za2 r h.q
   obtain⟨i1,i2⟩:=Zwm hi.ok r1
   by_cases hm:r.md=0
   ·rw[if_pos hm]
    have:=i1 hm
    rw[hid] at this ⊢
    exact Z77 b g1 (Zi4 hi.ok r r1) (Nat.le_succ _) (by omega) (by omega) (Zcs hlt hL this)
   ·rw[if_neg hm]
    exact Z77 b g1 (Zi4 hi.ok r r1) (Nat.le_succ _) (by omega) (by omega) fun rest p=>by rw[i2 hm];exact p
  ·simp only[if_neg hs0]
   exact b.more (Nat.le_succ _)
theorem Zv1{h:Hq}{id txn:Int}(h0:Ok h.W h.q)(he:(hnR h id txn).2=0):∃r,r∈h.q∧r.id=id∧Yr h.q id=some r∧r.sn=0∧(∀o∈h.q,o.id≠r.id→o.txn≠txn)∧hnR h id txn=(⟨h.t,h.r,h.W,chg (hnF txn) r.id h.q⟩,0):=by
 unfold hnR at he ⊢
 cases hr:Yr h.q id with
 | none=>rw[hr] at he;cases he
 | some r =>
  rw[hr] at he
  simp only at he ⊢
  split at he
  ·cases he
  ·rename_i ha
   rw[if_neg ha]
   split at he
   ·cases he
   ·rename_i hs
    rw[if_neg hs]
    obtain⟨r1,rfl⟩:=Zf9 hr
    refine⟨r,r1,rfl,rfl,by have:=(h0.rt r r1).s0;omega,fun o ho ne e2=>ha ?_,rfl⟩
    rw[List.any_eq_true]
    exact⟨o,ho,by simp[ne,e2]⟩
theorem Zgy{most k:Nat}{hs:List Hq}{X:List Int}{L:List Bool}(b:Zs most k hs X L)(id txn:Int):Zs most (k+1) (Z1t hs id txn) X L:=by
 unfold Z1t
 by_cases he:Z1s hs id txn=0
 ·rw[if_pos he]
  unfold Z1s at he
  cases e:Zt hs id with
  | none=>rw[e] at he;cases he
  | some h =>
   rw[e] at he
   obtain⟨g1,_⟩:=Z0c e
   have hi:=b.inv h g1
   obtain⟨r,r1,r2,r3,r4,r5,r6⟩:=Zv1 hi.ok he
   have hw:=b.wt h g1
   have hl:=b.ql h g1
   show Zs most (k+1) (Yh hs (hnR h id txn).1) X L
   rw[r6]
   refine Z40 b g1 rfl ⟨Zv6 hi.ok r r1 txn r5,Zhb hi.done _ _⟩ (fun q=>?_) (Nat.le_succ _) (by show h.W≤_;omega) (by show(chg _ _ _).length≤_;rw[Z1p];omega) fun rest p=>?_
   ·have q':chg (hnF txn) r.id h.q=[]:=q
    have c1:=congrArg List.length q'
    rw[Z1p,List.length_nil] at c1
    have:=List.length_pos_of_mem r1
    omega
   ·show(V7 (chg (hnF txn) r.id h.q)++rest).Perm _
    rw[Z6i (hnF txn) r.id h.q (fun _=>rfl)]
    exact p
 ·rw[if_neg he]
  exact b.more (Nat.le_succ _)
structure Z4(S:Nat→Prop)(w w':World):Prop where
 os:w'.os=w.os
 tape:w'.tape=w.tape
 output:w'.output=w.output
 size:w.heap.size≤w'.heap.size
 block:∀k,k<w.heap.size→¬S k→w'.heap[k]?=w.heap[k]?
theorem Z4.refl(S:Nat→Prop)(w:World):Z4 S w w:=⟨rfl,rfl,rfl,Nat.le_refl _,fun _ _ _=>rfl⟩
theorem Z4.trans'{S S':Nat→Prop}{a b c:World}(h:Z4 S a b)(k:Z4 S' b c)(hS:∀i,i<a.heap.size→S' i→S i):Z4 S a c :=
 ⟨k.os.trans h.os,k.tape.trans h.tape,k.output.trans h.output,Nat.le_trans h.size k.size,fun i hi hn=>(k.block i (lL0 hi h.size) (fun e=>hn (hS i hi e))).trans (h.block i hi hn)⟩
theorem Z4.trans{S:Nat→Prop}{a b c:World}(h:Z4 S a b)(k:Z4 S b c):Z4 S a c:=h.trans' k fun _ _ e=>e
theorem Z4.mono{S S':Nat→Prop}{a b:World}(h:Z4 S a b)(hS:∀i,i<a.heap.size→S i→S' i):Z4 S' a b :=
 ⟨h.os,h.tape,h.output,h.size,fun i hi hn=>h.block i hi (fun e=>hn (hS i hi e))⟩
theorem Z4.nw{S:Nat→Prop}{a b:World}(h:Nw a b):Z4 S a b:=⟨h.os,h.tape,h.output,h.size,fun k hk _=>h.block k hk⟩
theorem Z4.toNw{a b:World}(h:Z4 (fun _=>False) a b):Nw a b:=⟨h.os,h.tape,h.output,h.size,fun k hk=>h.block k hk (fun e=>e)⟩
theorem Z4.alloc{S:Nat→Prop}{a b:World}(h:Z4 S a b)(o:Obj):Z4 S a (b.alloc o):=h.trans (.nw ((Nw.refl b).alloc o))
theorem Z4.set{S:Nat→Prop}{a b:World}(h:Z4 S a b){p:Addr}(hp:S p.block∨a.heap.size≤p.block)(v:Value):Z4 S a (b.setCell p v) :=
 h.trans' (S':=fun k=>k=p.block) ⟨rfl,rfl,rfl,by simp[World.setCell],fun k _ hk=>Below.heap_setCell _ _ _ _ hk⟩ (fun i hi e=>by subst e;exact hp.resolve_right (by omega))
theorem Z4.drewN{S:Nat→Prop}{a b:World}(h:Z4 S a b)(n:Nat):Z4 S a (b.drewN n):=⟨h.os,h.tape,h.output,h.size,h.block⟩
theorem Z4.drew{S:Nat→Prop}{a b:World}(h:Z4 S a b):Z4 S a b.drew:=⟨h.os,h.tape,h.output,h.size,h.block⟩
theorem Z4.grown{S:Nat→Prop}{a b c:World}{row:Option Nat}(h:Z4 S a b)(hg:b.grownBy c row)(hr:∀k,row=some k→S k∨a.heap.size≤k):Z4 S a c :=
 h.trans' (S':=fun k=>row=some k) ⟨hg.os,hg.tape,hg.output,hg.size,fun k hk hn=>hg.block k hk (fun e=>hn e.symm)⟩ (fun i hi e=>(hr i e).resolve_right (by omega))
theorem Z4.cell{S:Nat→Prop}{a b:World}(h:Z4 S a b){k o:Nat}(hk:k<a.heap.size)(hn:¬S k):b.cell? ⟨k,o,none⟩=a.cell? ⟨k,o,none⟩:=World.cell?_of_block (h.block k hk hn)
theorem Z4.froz{S:Nat→Prop}{a b:World}(h:Z4 S a b){k o:Nat}(hk:k<a.heap.size)(hn:¬S k):b.frozen? ⟨k,o,none⟩=a.frozen? ⟨k,o,none⟩:=World.frozen?_of_block (h.block k hk hn)
theorem Nw.froz{a b:World}(h:Nw a b){k o:Nat}(hk:k<a.heap.size):b.frozen? ⟨k,o,none⟩=a.frozen? ⟨k,o,none⟩:=(Z4.nw (S:=fun _=>False) h).froz hk (fun e=>e)
theorem Yq{w a b:World}{F:Nat→Prop}(h:Nw w a)(k:Z4 F a b)(hF:∀i,F i→w.heap.size≤i):Nw w b :=
 Z4.toNw ((Z4.nw (S:=fun _=>False) h).trans' k fun i hi e=>by have:=hF i e;omega)
theorem Zi(w:World)(p:Addr)(v:Value):Z4 (fun k=>k=p.block) w (w.setCell p v):=Z4.set (S:=fun k=>k=p.block) (Z4.refl _ w) (.inl rfl) v
end Go.Proofs.YtpffldfpabglbaaGreatDoor
