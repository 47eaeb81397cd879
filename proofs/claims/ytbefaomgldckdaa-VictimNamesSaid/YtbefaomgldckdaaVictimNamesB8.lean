/- Texts merged: WcE, WcH -/
import Derived.Test.YtbefaomgldckdaaVictimNamesB7
set_option linter.unusedVariables false
set_option maxRecDepth 100000
set_option maxHeartbeats 16000000
namespace Go.Proofs.Ytbefaomgldckdaa
open Go.RowKit _root_.Go.Proofs.Try
theorem Ui{α:Type}{row:α→List Value}{sz:Nat}(hl:∀a,(row a).length=sz):∀(q:List α) (k:Nat) (hk:k<q.length) (j:Nat) (hj:j<sz) (u:Value) (x:α) (e:(row q[k]).set j u=row x),(Z7 row q).set (k*sz+j) u=Z7 row (q.set k x)
 | a::q,0,hk,j,hj,u,x,e=>by
  show(row a++Z7 row q).set (0*sz+j) u=row x++Z7 row q
  rw[Nat.zero_mul,Nat.zero_add,List.set_append_left _ _ (by rw[hl];exact hj)]
  exact congrArg (·++_) e
 | a::q,k+1,hk,j,hj,u,x,e=>by
  show(row a++Z7 row q).set ((k+1)*sz+j) u=row a++Z7 row (q.set k x)
  rw[List.set_append_right _ _ (by rw[hl,Nat.add_mul];omega),hl,show(k+1)*sz+j-sz=k*sz+j by rw[Nat.add_mul];omega,Ui hl q k (by simpa using hk) j hj u x e]
theorem V0.cell{w:World}{g0 g cap n:Nat}{q:List Kn}(h:V0 w g0 (.slice (some ⟨g,0,none⟩) n cap) q)(hn:n=q.length)(k:Nat)(hk:k<q.length):w.cell? ⟨g,k*2,none⟩=some (.int .i64 q[k].f)∧w.cell? ⟨g,k*2+1,none⟩=some (.bool q[k].lp):=by
 subst hn
 refine⟨(World.ownsRow.cellAt h (k*2) (by omega)).trans ?_,(World.ownsRow.cellAt h (k*2+1) (by omega)).trans ?_⟩
 ·have:=Y3 (row:=Vt) (sz:=2) (fun _=>rfl) q k 0 hk (by decide)
  rw[Nat.add_zero] at this
  rw[this];rfl
 ·rw[Y3 (row:=Vt) (sz:=2) (fun _=>rfl) q k 1 hk (by decide)];rfl
section
variable {W0 w:World} {o N:Nat} {ev:Value} {E:List (Int × Int)} {s:Gb}
theorem Y0.note{mb pb:Nat}{vp vo vk:Value}(h:Y0 W0 w o mb pb ev vp vo vk E s N)(m:Int):Y0 W0 ((w.setCell ⟨o,6,none⟩ (.bool true)).setCell ⟨o,7,none⟩ (.int .i64 m)) o mb pb ev vp vo vk E { s with fd:=true,ls:=m } N:=by
 obtain⟨o1,o2,o3,o4,o5⟩:=h.off
 have t:Zc (fun k=>k=o) w ((w.setCell ⟨o,6,none⟩ (.bool true)).setCell ⟨o,7,none⟩ (.int .i64 m)):=((Zc.refl (fun k=>k=o) w).set (p:=⟨o,6,none⟩) (.inl rfl) _).set (p:=⟨o,7,none⟩) (.inl rfl) _
 exact h.box t (hset (.int .i64 m) (hset (.bool true) h.obj)) rfl rfl (h.pa.keep t o3) (h.op.keep t o4) (Zy h.kn t o5) h.pg h.og h.ne h.bd
theorem Z7z{mb pb:Nat}{vp vo vk:Value}(h:Y0 W0 w o mb pb ev vp vo vk E s N)(m:Int):Calls prog 68 #[.pointer (some ⟨o,0,none⟩),.int .i64 m] w fun e w'=>e=.returned (.tuple #[])∧Y0 W0 w' o mb pb ev vp vo vk E (Zd s true m) N∧Zc (fun k=>k=o) w w':=by
 obtain⟨_,_,_,_,_,_,c6,c7⟩:=h.c
 have hol:=h.ol
 have fz:=h.fz
 have HW:=hD0 h
 clear h
 obtain⟨fd,hfd⟩:∃b,s.fd=b:=⟨_,rfl⟩
 obtain⟨ls,hls⟩:∃x,s.ls=x:=⟨_,rfl⟩
 rw[hfd] at c6
 rw[hls] at c7
 cases fd with
 | false =>
  have HR:=hD0 (show Zd s true m={ s with fd:=true,ls:=m } from if_pos ⟨rfl,.inl hfd⟩)
  clear hfd hls
  go_enter func68,ntmps68
  go_wp2
  refine bodyPost_end (results_none rfl _ _ _) rfl ?_
  rw[HR.out]
  exact⟨rfl,HW.out.note m,((Zc.refl (fun k=>k=o) w).set (p:=⟨o,6,none⟩) (.inl rfl) _).set (p:=⟨o,7,none⟩) (.inl rfl) _⟩
 | true =>
  by_cases q:m<ls
  ·have HR:=hD0 (show Zd s true m={ s with fd:=true,ls:=m } from if_pos ⟨rfl,.inr (by rw[hls];exact q)⟩)
   have d:decide (m<ls)=true:=by simpa using q
   clear hfd hls q
   go_enter func68,ntmps68
   go_wp2
   refine bodyPost_end (results_none rfl _ _ _) rfl ?_
   rw[HR.out]
   exact⟨rfl,HW.out.note m,((Zc.refl (fun k=>k=o) w).set (p:=⟨o,6,none⟩) (.inl rfl) _).set (p:=⟨o,7,none⟩) (.inl rfl) _⟩
  ·have HR:=hD0 (show Zd s true m=s from if_neg (fun k=>by
    rcases k.2 with x | x
    ·rw[hfd] at x;cases x
    ·rw[hls] at x;exact q x))
   have d:decide (m<ls)=false:=by simpa using q
   clear hfd hls q
   go_enter func68,ntmps68
   go_wp2
   refine bodyPost_end (results_none rfl _ _ _) rfl ?_
   rw[HR.out]
   exact⟨rfl,HW.out,Zc.refl _ w⟩
theorem Y0.tie{mb pb gk cap n:Nat}{vp vo:Value}(h:Y0 W0 w o mb pb ev vp vo (.slice (some ⟨gk,0,none⟩) n cap) E s N)(hn:n=s.kn.length){K K':List Kn}{k0:Kn}(hk:s.kn=K++k0::K') :
  Y0 W0 ((w.setCell ⟨o,5,none⟩ (.slice (some ⟨gk,0,none⟩) (K.length+1) cap)).setCell ⟨gk,K.length*2+1,none⟩ (.bool true)) o mb pb ev vp vo (.slice (some ⟨gk,0,none⟩) (K.length+1) cap) E (Vx s K k0) N:=by
 subst hn
 obtain⟨o1,o2,o3,o4,o5⟩:=h.off
 obtain⟨a1,⟨a2,a3,a4⟩,a5,a6,a7⟩:=h.apart
 have hgo:gk≠o:=fun e=>o5 (by rw[e];rfl)
 have t1:Zc (fun k=>k=o) w (w.setCell ⟨o,5,none⟩ (.slice (some ⟨gk,0,none⟩) (K.length+1) cap)):=(Zc.refl (fun k=>k=o) w).set (p:=⟨o,5,none⟩) (.inl rfl) _
 have hlen:K.length+1≤s.kn.length:=by rw[hk];simp
 have hc:=h.kn.cut hlen
 have hbd:=h.bd
 have hw:=h.nw
 have htake:s.kn.take (K.length+1)=K++[k0]:=by
  rw[hk,show K++k0::K'=(K++[k0])++K' by simp]
  exact List.take_left' (by simp)
 rw[htake] at hc
 have h1:Y0 W0 (w.setCell ⟨o,5,none⟩ (.slice (some ⟨gk,0,none⟩) (K.length+1) cap)) o mb pb ev vp vo (.slice (some ⟨gk,0,none⟩) (K.length+1) cap) E { s with kn:=K++[k0] } N :=
  h.box t1 (hset _ h.obj) rfl rfl (h.pa.keep t1 o3) (h.op.keep t1 o4) (Zy hc t1 (fun e=>hgo (Option.some.inj e))) h.pg h.og h.ne ⟨hbd.1,hbd.2.1,by show(K++[k0]).length≤N;simp;omega⟩
 obtain⟨w1,hw1⟩:∃w1,w.setCell ⟨o,5,none⟩ (.slice (some ⟨gk,0,none⟩) (K.length+1) cap)=w1:=⟨_,rfl⟩
 rw[hw1] at h1 ⊢
 have t2:Zc (fun k=>k=gk) w1 (w1.setCell ⟨gk,K.length*2+1,none⟩ (.bool true)):=(Zc.refl (fun k=>k=gk) w1).set (p:=⟨gk,K.length*2+1,none⟩) (.inl rfl) _
 have hkn:=h1.kn
 have hkl1:(K++[k0]).length=K.length+1:=by simp
 unfold V0 Y4 at hkn
 simp only at hkn
 rw[hkl1] at hkn
 have hst:=(World.ownsRow.stored hkn (K.length*2+1) (.bool true)).1
 have hkl:K.length<(K++[k0]).length:=by simp
 rw[Ui (row:=Vt) (sz:=2) (fun _=>rfl) (K++[k0]) K.length hkl 1 (by decide) (.bool true) ⟨k0.f,true⟩ (by simp[Vt])] at hst
 have hset':(K++[k0]).set K.length (⟨k0.f,true⟩:Kn)=K++[⟨k0.f,true⟩]:=by simp
 rw[hset'] at hst
 obtain⟨b1,⟨b2,b3,b4⟩,b5,b6,b7⟩:=h1.apart
 obtain⟨b8,b9⟩:=b1 gk rfl
 refine⟨(t2.block o h1.ol (fun e=>hgo e.symm)).trans h1.obj,h1.ed,Ze h1.nw t2 (fun i e=>by subst e;exact oge h1.kn rfl),h1.mn.tch t2 (fun e=>b4 (by rw[e];rfl)),h1.mp.tch t2 (fun e=>b7 (by rw[e];rfl)),h1.pa.keep t2 b8,h1.op.keep t2 b9,?_,h1.oW,h1.mW,h1.pW,h1.mne,h1.pg,h1.og,h1.ne,?_⟩
 ·show Y4 _ _ _ _ _ _ (K++[(⟨k0.f,true⟩:Kn)])
  unfold Y4
  have:(K++[(⟨k0.f,true⟩:Kn)]).length=K.length+1:=by simp
  rw[this]
  exact hst
 ·have:=h1.bd
  exact⟨this.1,this.2.1,by show(K++[(⟨k0.f,true⟩:Kn)]).length≤N;have:=this.2.2;simp at this ⊢;exact this⟩
theorem Z6u(h:Wk W0 w o ev E s N)(hN:N≤1000000)(p:Nat){K K':List Kn}{k0:Kn}(hk:s.kn=K++k0::K')(h0:k0.f≤p)(h1:∀k∈K',p<k.f) :
  Calls prog 67 #[.pointer (some ⟨o,0,none⟩),.int .i64 p] w fun e w'=>e=.returned (.tuple #[])∧Wk W0 w' o ev E (Vx s K k0) N:=by
 obtain⟨mb,pb,vp,vo,vk,h⟩:=h
 obtain⟨_,_,_,_,_,c5,_,_⟩:=h.c
 have hol:=h.ol
 have fz:=h.fz
 have hlen:s.kn.length=K.length+1+K'.length:=by rw[hk];simp;omega
 have hbd:=h.bd.2.2
 obtain⟨gk,cap,rfl⟩:∃g cap,vk=.slice (some ⟨g,0,none⟩) s.kn.length cap:=by
  rcases Yv h.kn with⟨_,q⟩ | ⟨g,cap,q⟩
  ·omega
  ·exact⟨g,cap,q⟩
 have hcap:s.kn.length≤cap:=by
  rcases h.kn.2 with⟨q,_⟩ | ⟨g',cap',cur,q,_,_,q4,_⟩
  ·simp at q
  ·simp only[Value.slice.injEq] at q
   omega
 have hgl:=olt h.kn (g:=gk) rfl
 have hgz:=hfz (j:=K.length*2+1) (Zx h.kn (g:=gk) rfl).choose_spec
 have hne:¬gk=o:=fun e=>h.off.2.2.2.2 (by rw[e];rfl)
 have hne2:¬o=gk:=fun e=>hne e.symm
 have HM:=hD0 (h.tie rfl hk)
 have hce:∀t,t<s.kn.length→∃f:Nat,w.cell? ⟨gk,t*2,none⟩=some (.int .i64 f)∧(K.length<t→p<f)∧(t=K.length→f≤p):=fun t ht=>by
  refine⟨s.kn[t].f,(h.kn.cell rfl t ht).1,fun hlt=>?_,fun e=>?_⟩
  ·have:s.kn[t]∈K':=by
    have e:s.kn[t]?=some s.kn[t]:=List.getElem?_eq_getElem ht
    have e2:s.kn[t]?=K'[t-K.length-1]?:=by
     rw[hk,List.getElem?_append_right (by omega)]
     obtain⟨d,hd⟩:∃d,t-K.length=d+1:=⟨t-K.length-1,by omega⟩
     rw[hd,List.getElem?_cons_succ];rfl
    rw[e2] at e
    exact List.mem_of_getElem? e
   exact h1 _ this
  ·subst e
   have e:s.kn[K.length]?=some s.kn[K.length]:=List.getElem?_eq_getElem ht
   have e2:s.kn[K.length]?=some k0:=by rw[hk];simp
   rw[e2] at e
   rw[←Option.some.inj e];exact h0
 have hcl:∃b,w.cell? ⟨gk,K.length*2+1,none⟩=some (.bool b):=⟨_,(h.kn.cell rfl K.length (by omega)).2⟩
 obtain⟨n,hn⟩:∃n,s.kn.length=n:=⟨_,rfl⟩
 obtain⟨j,hj⟩:∃j,K.length=j:=⟨_,rfl⟩
 rw[hn] at c5 hlen hbd hcap hce
 rw[hj] at hlen hgz HM hce hcl
 have HK:=hD0 hce
 obtain⟨bl,hcl⟩:=hcl
 have hjn:j<n:=by omega
 obtain⟨n1,hn1,hjn1,hn1n⟩:=Z36 hjn
 obtain⟨j1,hj1⟩:∃j1,j1=j+1:=⟨_,rfl⟩
 have hd1:=Yt n n1 (by omega) hn1
 have hd2:=Ya j j1 (by omega) hj1
 have hjc:j1≤cap:=by omega
 have hjc':(j1:Int)≤(cap:Int):=by omega
 have hj1n:0≤(j1:Int):=by omega
 have hjj:j<j1:=by omega
 have hjj':(j:Int)<(j1:Int):=by omega
 rw[←hj1] at HM
 have hn0:0<n:=by omega
 have HB:=hD0 (show n≤1000000 by omega)
 have HN1:=hD0 (aI0 hjn1 hn1n)
 clear hce h hk h1 hn hj hbd hlen h0 hn1 hj1 hjn1 hn1n
 go_enter func67,ntmps67
 go_wp2
 go_loopw [4] (fun v wr=>∃t:Nat,v=.int .i64 t∧j≤t∧t<n∧wr=w) (fun v _=>(intOf v).toNat)
 case atStart=>exact⟨n1,rfl,HN1.out.1,HN1.out.2,rfl⟩
 case round =>
  obtain⟨t,rfl,hjt,htn,rfl⟩:=hrel
  obtain⟨f,ct,hf1,hf2⟩:=HK.out t htn
  have htn':=Y6 htn
  by_cases q:j<t
  ·obtain⟨d1,d2⟩:=Z69 (hf1 q)
   obtain⟨t1,e1,hjt1,ht1t⟩:=Z36 q
   have ht1:=Yt t t1 (Nat.le_trans (Nat.le_of_lt htn) HB.out) e1
   have HQ:=hD0 (aI0 hjt1 (aI0 (Nat.lt_trans ht1t htn) e1))
   clear hf1 hf2 hjt q e1 hjt1 ht1t
   go_wp2
   go_roundw
   case rel=>exact⟨t1,rfl,HQ.out.1,HQ.out.2.1,by first | rfl | trivial⟩
   case measure=>exact Z99 HQ.out.2.2
  ·obtain rfl:j=t:=Nat.le_antisymm hjt (Nat.le_of_not_lt q)
   obtain⟨d1,d2⟩:=Z4o (Nat.not_lt.2 (hf2 rfl))
   clear hf1 hf2 q
   go_wp2
   refine bodyPost_end (results_none rfl _ _ _) rfl ?_
   exact⟨rfl,mb,pb,vp,vo,_,HM.out⟩
end
theorem Z0h{P:Program}{ops:Array Oper}{o:Oper}{a:Act}{w:World}{K:Act→World→Prop}{Q:Exit→Act→World→Prop}{E:Prop}(hgd:Region.wanted o (yielded ops a.tmps)=true)(m x u:Operand)(t:TypeId)(ho:o.op=Op.mapUpdate t m x u)
  (M X V:Value) (w':World) (hm:a.eval m=M) (hx:a.eval x=X) (hu:a.eval u=V) (hr:(Instr.mapUpdate t M X V).run P w=.ok () w') (h:K (a.put o.dst undef) w'):if Region.wanted o (yielded ops a.tmps)=true then Oper.wp P o a w K Q else E:=by
 rw[if_pos hgd]
 unfold Oper.wp
 simp[execOp,ho,hm,hx,hu,hr,Result.andThen]
 exact h
theorem Z6h(s:Gb)(k:Int)(m:Nat):fnx { s with nx:=Zg s.nx k m }=Zg (fnx s) k (m:Int):=by
 funext v
 show(if v=k then some m else s.nx v).map Int.ofNat=if v=k then some (m:Int) else(s.nx v).map Int.ofNat
 by_cases q:v=k
 ·rw[if_pos q,if_pos q];rfl
 ·rw[if_neg q,if_neg q]
section
variable {W0 w w':World} {o mb pb N N':Nat} {ev vp vo vk:Value} {E:List (Int × Int)} {s:Gb}
theorem Z12{b:Nat}(hg:w.grownBy w' (some b)):Zc (fun k=>k=b) w w':=(Zc.refl (fun k=>k=b) w).grown hg (fun k e=>.inl (Option.some.inj e).symm)
theorem Y0.next(h:Y0 W0 w o mb pb ev vp vo vk E s N){k:Int}{m:Nat}(hm:Zb w' mb (Zg (fnx s) k m) N')(hg:w.grownBy w' (some mb))(hN:N≤N'):Y0 W0 w' o mb pb ev vp vo vk E { s with nx:=Zg s.nx k m } N':=by
 obtain⟨o1,o2,o3,o4,o5⟩:=h.off
 obtain⟨a1,⟨a2,a3,a4⟩,a5,a6,a7⟩:=h.apart
 have t:=Z12 hg
 refine⟨(t.block o h.ol (fun e=>o1 e.symm)).trans h.obj,h.ed,Ze h.nw t (fun i e=>by subst e;exact h.mW),?_,(h.mp.tch t (fun e=>h.mne e.symm)).le hN,h.pa.keep t a2,h.op.keep t a3,Zy h.kn t a4,h.oW,h.mW,h.pW,h.mne,h.pg,h.og,h.ne,?_⟩
 ·rw[Z6h];exact hm
 ·obtain⟨b1,b2,b3⟩:=h.bd
  exact⟨Nat.le_trans b1 hN,Nat.le_trans b2 hN,Nat.le_trans b3 hN⟩
theorem Y0.plc(h:Y0 W0 w o mb pb ev vp vo vk E s N){k p:Int}(hm:Zb w' pb (Zg s.pl k p) N')(hg:w.grownBy w' (some pb))(hN:N≤N'):Y0 W0 w' o mb pb ev vp vo vk E { s with pl:=Zg s.pl k p } N':=by
 obtain⟨o1,o2,o3,o4,o5⟩:=h.off
 obtain⟨a1,⟨a2,a3,a4⟩,a5,a6,a7⟩:=h.apart
 have t:=Z12 hg
 refine⟨(t.block o h.ol (fun e=>o2 e.symm)).trans h.obj,h.ed,Ze h.nw t (fun i e=>by subst e;exact h.pW),(h.mn.tch t h.mne).le hN,hm,h.pa.keep t a5,h.op.keep t a6,Zy h.kn t a7,h.oW,h.mW,h.pW,h.mne,h.pg,h.og,h.ne,?_⟩
 obtain⟨b1,b2,b3⟩:=h.bd
 exact⟨Nat.le_trans b1 hN,Nat.le_trans b2 hN,Nat.le_trans b3 hN⟩
def BxO(w w':World)(o:Nat):Prop:=(∀j,w'.cell? ⟨o,j,none⟩=w.cell? ⟨o,j,none⟩)∧(∀j,w'.frozen? ⟨o,j,none⟩=w.frozen? ⟨o,j,none⟩)∧o<w'.heap.size
theorem Z0l{S:Nat→Prop}(t:Zc S w w')(hl:o<w.heap.size)(hn:¬S o):BxO w w' o:=⟨fun j=>t.cell hl hn,fun j=>t.froz hl hn,lL0 hl t.size⟩
def Nk(w:World)(o:Nat)(vk:Value)(oa:Option Addr)(oc n:Nat)(x:World):Prop:=x.cell? ⟨o,5,none⟩=some vk∧x.cell? ⟨o,4,none⟩=some (.slice oa n oc)∧o<x.heap.size
theorem Y0.pushK(h:Y0 W0 w o mb pb ev vp vo vk E s N)(f:Nat)(hl:s.kn.length<N)(hN:N≤100000) :
  ∃g cap w2,(Builtin.append_ #[71,71] 71 #[vk,.slice (some ⟨w.heap.size,0,none⟩) 1 1]).run prog (w.alloc (.cells #[.int .i64 f,.bool false] 108))=.ok (.slice (some ⟨g,0,none⟩) (s.kn.length+1) cap) w2∧BxO w w2 o ∧
   Y0 W0 (w2.setCell ⟨o,5,none⟩ (.slice (some ⟨g,0,none⟩) (s.kn.length+1) cap)) o mb pb ev vp vo (.slice (some ⟨g,0,none⟩) (s.kn.length+1) cap) E { s with kn:=s.kn++[⟨f,false⟩] } N:=by
 obtain⟨o1,o2,o3,o4,o5⟩:=h.off
 obtain⟨a1,⟨a2,a3,a4⟩,a5,a6,a7⟩:=h.apart
 have hal:=Z5 w (.cells #[.int .i64 f,.bool false] 108)
 have g0:Nw w (w.alloc (.cells #[.int .i64 f,.bool false] 108)):=(Nw.refl w).alloc _
 obtain⟨z,hz⟩:∃z,w.alloc (.cells #[.int .i64 f,.bool false] 108)=z:=⟨_,rfl⟩
 rw[hz] at hal g0 ⊢
 obtain⟨v',w2,hr,hO,hg,hp,g,cap,rfl⟩:=Y4.push Z7s (onw h.kn g0) (⟨f,false⟩:Kn) w.heap.size 1 (fun j u hu=>by
  rw[Z2 hal]
  simpa [Vt] using hu) (by omega) (h.nw.trans g0).sz
 have t0:Zc (fun k=>vk.ownBlock=some k) w w2:=(Zc.nw g0).grown hg (fun k e=>.inl e)
 have hb:=Z0l t0 h.ol o5
 refine⟨g,cap,w2,hr,hb,?_⟩
 have t1:Zc (fun k=>k=o) w2 (w2.setCell ⟨o,5,none⟩ (.slice (some ⟨g,0,none⟩) (s.kn.length+1) cap)):=(Zc.refl (fun k=>k=o) w2).set (p:=⟨o,5,none⟩) (.inl rfl) _
 have ho:w2.heap[o]?=_:=(t0.block o h.ol o5).trans h.obj
 have hnw2:Nw W0 w2:=Ze h.nw t0 (fun i e=>oge h.kn e)
 have hgo:g≠o:=fun e=>by
  obtain⟨c,q⟩:=Zx hO (g:=g) rfl
  rw[e,ho] at q
  injection q with q
  injection q with _ q _
  exact absurd q (by decide)
 refine⟨hset _ ho,h.ed,Ze hnw2 t1 (fun i e=>by subst e;exact h.oW),(h.mn.tch t0 a4).tch t1 o1,(h.mp.tch t0 a7).tch t1 o2,(h.pa.tch t0 (fun k hk e=>(a1 k e).1 hk)).keep t1 o3,(h.op.tch t0 (fun k hk e=>(a1 k e).2 hk)).keep t1 o4,?_,h.oW,h.mW,h.pW,h.mne,h.pg,h.og,h.ne,?_⟩
 ·exact Zy hO t1 (fun e=>hgo (Option.some.inj e))
 ·obtain⟨b1,b2,b3⟩:=h.bd
  exact⟨b1,b2,by show(s.kn++[_]).length≤N;simp;omega⟩
theorem Y0.pushO(h:Y0 W0 w o mb pb ev vp vo vk E s N)(u:Int)(hl:s.op.length<N)(hN:N≤100000) :
  ∃g cap w2,(Builtin.append_ #[28,28] 28 #[vo,.slice (some ⟨w.heap.size,0,none⟩) 1 1]).run prog (w.alloc (.cells #[.int .i64 u] 3))=.ok (.slice (some ⟨g,0,none⟩) (s.op.length+1) cap) w2∧BxO w w2 o ∧
   Y0 W0 (w2.setCell ⟨o,4,none⟩ (.slice (some ⟨g,0,none⟩) (s.op.length+1) cap)) o mb pb ev vp (.slice (some ⟨g,0,none⟩) (s.op.length+1) cap) vk E { s with op:=s.op++[u] } N:=by
 obtain⟨o1,o2,o3,o4,o5⟩:=h.off
 obtain⟨a1,⟨a2,a3,a4⟩,a5,a6,a7⟩:=h.apart
 obtain⟨v',w2,hr,hI,t0,hk,g,cap,rfl⟩:=IS.push w vo s.op u h.op (by omega)
 have hb:=Z0l t0 h.ol o4
 refine⟨g,cap,w2,hr,hb,?_⟩
 have t1:Zc (fun k=>k=o) w2 (w2.setCell ⟨o,4,none⟩ (.slice (some ⟨g,0,none⟩) (s.op.length+1) cap)):=(Zc.refl (fun k=>k=o) w2).set (p:=⟨o,4,none⟩) (.inl rfl) _
 have ho:w2.heap[o]?=_:=(t0.block o h.ol o4).trans h.obj
 have hnw2:Nw W0 w2:=Ze h.nw t0 (fun i e=>h.og i e)
 have hgo:g≠o:=fun e=>by
  obtain⟨c,q⟩:=Zx hI (g:=g) rfl
  rw[e,ho] at q
  injection q with q
  injection q with _ q _
  exact absurd q (by decide)
 have hgW:W0.heap.size≤g:=by
  rcases hk g rfl with e | e
  ·exact h.og g e
  ·exact Nat.le_trans h.nw.sz e
 refine⟨hset _ ho,h.ed,Ze hnw2 t1 (fun i e=>by subst e;exact h.oW),(h.mn.tch t0 a3).tch t1 o1,(h.mp.tch t0 a6).tch t1 o2,(h.pa.tch t0 (fun k hk e=>h.ne k hk e)).keep t1 o3,hI.keep t1 (fun e=>hgo (Option.some.inj e)),?_,h.oW,h.mW,h.pW,h.mne,h.pg,?_,?_,?_⟩
 ·refine Zy ?_ t1 o5
  refine⟨h.kn.1,?_⟩
  rcases h.kn.2 with h0 | ⟨g',cap',cur,rfl,hb',hg',rest⟩
  ·exact .inl h0
  ·exact .inr ⟨g',cap',cur,rfl,hb',(t0.block g' (hlt hg') (fun e=>(a1 g' rfl).2 e)).trans hg',rest⟩
 ·intro k e
  rw[←Option.some.inj e];exact hgW
 ·intro k hkp e
  have e':g=k:=Option.some.inj e
  subst e'
  rcases hk g rfl with q | q
  ·exact h.ne g hkp q
  ·have:=h.pa.lt hkp
   omega
 ·obtain⟨b1,b2,b3⟩:=h.bd
  exact⟨b1,by show(s.op++[_]).length≤N;simp;omega,b3⟩
theorem Y0.pushP(h:Y0 W0 w o mb pb ev vp vo vk E s N)(u:Int)(hl:s.path.length<N)(hN:N≤100000) :
  ∃g cap w2,(Builtin.append_ #[28,28] 28 #[vp,.slice (some ⟨w.heap.size,0,none⟩) 1 1]).run prog (w.alloc (.cells #[.int .i64 u] 3))=.ok (.slice (some ⟨g,0,none⟩) (s.path.length+1) cap) w2∧BxO w w2 o ∧
   Y0 W0 (w2.setCell ⟨o,3,none⟩ (.slice (some ⟨g,0,none⟩) (s.path.length+1) cap)) o mb pb ev (.slice (some ⟨g,0,none⟩) (s.path.length+1) cap) vo vk E { s with path:=s.path++[u] } N:=by
 obtain⟨o1,o2,o3,o4,o5⟩:=h.off
 obtain⟨a1,⟨a2,a3,a4⟩,a5,a6,a7⟩:=h.apart
 obtain⟨v',w2,hr,hI,t0,hk,g,cap,rfl⟩:=IS.push w vp s.path u h.pa (by omega)
 have hb:=Z0l t0 h.ol o3
 refine⟨g,cap,w2,hr,hb,?_⟩
 have t1:Zc (fun k=>k=o) w2 (w2.setCell ⟨o,3,none⟩ (.slice (some ⟨g,0,none⟩) (s.path.length+1) cap)):=(Zc.refl (fun k=>k=o) w2).set (p:=⟨o,3,none⟩) (.inl rfl) _
 have ho:w2.heap[o]?=_:=(t0.block o h.ol o3).trans h.obj
 have hnw2:Nw W0 w2:=Ze h.nw t0 (fun i e=>h.pg i e)
 have hgo:g≠o:=fun e=>by
  obtain⟨c,q⟩:=Zx hI (g:=g) rfl
  rw[e,ho] at q
  injection q with q
  injection q with _ q _
  exact absurd q (by decide)
 have hgW:W0.heap.size≤g:=by
  rcases hk g rfl with e | e
  ·exact h.pg g e
  ·exact Nat.le_trans h.nw.sz e
 refine⟨hset _ ho,h.ed,Ze hnw2 t1 (fun i e=>by subst e;exact h.oW),(h.mn.tch t0 a2).tch t1 o1,(h.mp.tch t0 a5).tch t1 o2,hI.keep t1 (fun e=>hgo (Option.some.inj e)),(h.op.tch t0 (fun k hk e=>h.ne k e hk)).keep t1 o4,?_,h.oW,h.mW,h.pW,h.mne,?_,h.og,?_,?_⟩
 ·refine Zy ?_ t1 o5
  refine⟨h.kn.1,?_⟩
  rcases h.kn.2 with h0 | ⟨g',cap',cur,rfl,hb',hg',rest⟩
  ·exact .inl h0
  ·exact .inr ⟨g',cap',cur,rfl,hb',(t0.block g' (hlt hg') (fun e=>(a1 g' rfl).1 e)).trans hg',rest⟩
 ·intro k e
  rw[←Option.some.inj e];exact hgW
 ·intro k e hko
  have e':g=k:=Option.some.inj e
  subst e'
  rcases hk g rfl with q | q
  ·exact h.ne g q hko
  ·have:=h.op.lt hko
   omega
 ·obtain⟨b1,b2,b3⟩:=h.bd
  exact⟨by show(s.path++[_]).length≤N;simp;omega,b2,b3⟩
theorem Z1s(h:Wk W0 w o ev E s N)(hN:N+2≤100000)(hl:E.length≤100000)(hs:Zh E){u:Int}(hu:Z6 u)(hp:s.pl u=none) :
  Calls prog 47 #[.pointer (some ⟨o,0,none⟩),.int .i64 u] w fun e w'=>e=.returned (.tuple #[])∧Wk W0 w' o ev E (Zu E s u) (N+2):=by
 obtain⟨mb,pb,vp,vo,vk,h⟩:=h
 obtain⟨c0,c1,c2,c3,c4,c5,c6,c7⟩:=h.c
 have hol:=h.ol
 have hlk:=h.mp.look_no hu hp
 obtain⟨oa,oc,rfl,_⟩:=h.op.box
 have HS:=hD0 (fun(x:World) (g:Nw w x)=>Z0g u ev E x hl hs (h.ed.nw (h.nw.trans g)))
 have HW:=hD0 h
 have HU:=hD0 (aI0 hN (aI0 hu h.bd))
 clear h c6 c7 c3 hN hu hp hl hs
 go_enter func47,ntmps47
 go_wp2_with fail
 refine Z9 [11] (Nw w) (by kernel_rfl) ?_
 change Z8 _ _ _ _ _ _ 12 #[false,false,false,false,false,false,false,false,false,false,false,false] _ w.drew
 obtain⟨y0,hy0⟩:∃y,w.drew=y:=⟨_,rfl⟩
 rw[hy0]
 have hS0:Nw w y0:=by rw[←hy0];exact(Nw.refl w).dr
 have t0:∀x,Nw w x→x.cell? ⟨o,0,none⟩=some ev:=fun x g=>g.kp c0
 have t1:∀x,Nw w x→x.cell? ⟨o,1,none⟩=some (.map (some mb)):=fun x g=>g.kp c1
 clear hy0 c0 c1 c2 c4 c5 hlk hol
 refine Z1 0 rfl (by kernel_rfl) (by kernel_rfl) (by kernel_rfl) (by kernel_rfl) (fun v c a w h=>h) hS0 ?_
 (first | (refine⟨undef,Or.inr ⟨by rfl,rfl⟩,?_⟩) | (apply Exists.intro;refine⟨Or.inl ⟨by rfl,?_⟩,?_⟩;(intro x hx';go_simp;first | done | with_reducible rfl)))
 (try simp only[Act.put,List.getElem_toArray,List.getElem_cons_zero,List.getElem_cons_succ,List.setIfInBounds_toArray,List.set_cons_zero,List.set_cons_succ])
 refine Z1 1 rfl (by kernel_rfl) (by kernel_rfl) (by kernel_rfl) (by kernel_rfl) (fun v c a w h=>h) hS0 ?_
 (first | (refine⟨undef,Or.inr ⟨by rfl,rfl⟩,?_⟩) | (apply Exists.intro;refine⟨Or.inl ⟨by rfl,?_⟩,?_⟩;(intro x hx';go_simp;first | done | with_reducible rfl)))
 (try simp only[Act.put,List.getElem_toArray,List.getElem_cons_zero,List.getElem_cons_succ,List.setIfInBounds_toArray,List.set_cons_zero,List.set_cons_succ])
 refine Z1 2 rfl (by kernel_rfl) (by kernel_rfl) (by kernel_rfl) (by kernel_rfl) (fun v c a w h=>h) hS0 ?_
 (first | (refine⟨undef,Or.inr ⟨by rfl,rfl⟩,?_⟩) | (apply Exists.intro;refine⟨Or.inl ⟨by rfl,?_⟩,?_⟩;(intro x hx';go_simp;first | done | with_reducible rfl)))
 (try simp only[Act.put,List.getElem_toArray,List.getElem_cons_zero,List.getElem_cons_succ,List.setIfInBounds_toArray,List.set_cons_zero,List.set_cons_succ])
 refine Z1 3 rfl (by kernel_rfl) (by kernel_rfl) (by kernel_rfl) (by kernel_rfl) (fun v c a w h=>h) hS0 ?_
 (first | (refine⟨undef,Or.inr ⟨by rfl,rfl⟩,?_⟩) | (apply Exists.intro;refine⟨Or.inl ⟨by rfl,?_⟩,?_⟩;(intro x hx';go_simp;first | done | with_reducible rfl)))
 (try simp only[Act.put,List.getElem_toArray,List.getElem_cons_zero,List.getElem_cons_succ,List.setIfInBounds_toArray,List.set_cons_zero,List.set_cons_succ])
 refine Z1 4 rfl (by kernel_rfl) (by kernel_rfl) (by kernel_rfl) (by kernel_rfl) (fun v c a w h=>h) hS0 ?_
 (first | (refine⟨undef,Or.inr ⟨by rfl,rfl⟩,?_⟩) | (apply Exists.intro;refine⟨Or.inl ⟨by rfl,?_⟩,?_⟩;(intro x hx';go_simp;first | done | with_reducible rfl)))
 (try simp only[Act.put,List.getElem_toArray,List.getElem_cons_zero,List.getElem_cons_succ,List.setIfInBounds_toArray,List.set_cons_zero,List.set_cons_succ])
 refine Z1 5 rfl (by kernel_rfl) (by kernel_rfl) (by kernel_rfl) (by kernel_rfl) (fun v c a w h=>h) hS0 ?_
 (first | (refine⟨undef,Or.inr ⟨by rfl,rfl⟩,?_⟩) | (apply Exists.intro;refine⟨Or.inl ⟨by rfl,?_⟩,?_⟩;(intro x hx';go_simp;first | done | with_reducible rfl)))
 (try simp only[Act.put,List.getElem_toArray,List.getElem_cons_zero,List.getElem_cons_succ,List.setIfInBounds_toArray,List.set_cons_zero,List.set_cons_succ])
 refine Z1 6 rfl (by kernel_rfl) (by kernel_rfl) (by kernel_rfl) (by kernel_rfl) (fun v c a w h=>h) hS0 ?_
 (first | (refine⟨undef,Or.inr ⟨by rfl,rfl⟩,?_⟩) | (apply Exists.intro;refine⟨Or.inl ⟨by rfl,?_⟩,?_⟩;(intro x hx';go_simp;first | done | with_reducible rfl)))
 (try simp only[Act.put,List.getElem_toArray,List.getElem_cons_zero,List.getElem_cons_succ,List.setIfInBounds_toArray,List.set_cons_zero,List.set_cons_succ])
 refine Z1 7 rfl (by kernel_rfl) (by kernel_rfl) (by kernel_rfl) (by kernel_rfl) (fun v c a w h=>h) hS0 ?_
 (first | (refine⟨undef,Or.inr ⟨by rfl,rfl⟩,?_⟩) | (apply Exists.intro;refine⟨Or.inl ⟨by rfl,?_⟩,?_⟩;(intro x hx';go_simp;first | done | with_reducible rfl)))
 (try simp only[Act.put,List.getElem_toArray,List.getElem_cons_zero,List.getElem_cons_succ,List.setIfInBounds_toArray,List.set_cons_zero,List.set_cons_succ])
 refine Z1 8 rfl (by kernel_rfl) (by kernel_rfl) (by kernel_rfl) (by kernel_rfl) (fun v c a w h=>h) hS0 ?_
 (first | (refine⟨undef,Or.inr ⟨by rfl,rfl⟩,?_⟩) | (apply Exists.intro;refine⟨Or.inl ⟨by rfl,?_⟩,?_⟩;(intro x hx';go_simp;first | done | with_reducible rfl)))
 (try simp only[Act.put,List.getElem_toArray,List.getElem_cons_zero,List.getElem_cons_succ,List.setIfInBounds_toArray,List.set_cons_zero,List.set_cons_succ])
 refine Z1 9 rfl (by kernel_rfl) (by kernel_rfl) (by kernel_rfl) (by kernel_rfl) (fun v c a w h=>h) hS0 ?_
 (first | (refine⟨undef,Or.inr ⟨by rfl,rfl⟩,?_⟩) | (apply Exists.intro;refine⟨Or.inl ⟨by rfl,?_⟩,?_⟩;(intro x hx';go_simp;first | done | with_reducible rfl)))
 (try simp only[Act.put,List.getElem_toArray,List.getElem_cons_zero,List.getElem_cons_succ,List.setIfInBounds_toArray,List.set_cons_zero,List.set_cons_succ])
 refine Z3 10 (by kernel_rfl) rfl (fun K hK=>?_)
 rw[if_pos (by rfl)]
 (try simp only[List.getElem_toArray,List.getElem_cons_zero,List.getElem_cons_succ])
 go_simp
 refine(HS.out y0 hS0).mono ?_
 rintro e w2 ⟨rfl,g2⟩
 refine hK _ _ (.inr (hS0.trans g2)) ?_
 clear hK K t0 t1 HS
 (try simp only[Act.put,List.getElem_toArray,List.getElem_cons_zero,List.getElem_cons_succ,List.setIfInBounds_toArray,List.set_cons_zero,List.set_cons_succ])
 have h2:=HW.out.nwr (hS0.trans g2)
 obtain⟨w3,hr3,hm3,hg3⟩:=h2.mn.put (by have:=HU.out.1;omega) HU.out.2.1 (Vf E u:Int)
 have h3:=h2.next hm3 hg3 (Nat.le_succ N)
 have HW3:=hD0 h3
 have HR3:=hD0 hr3
 clear h2 hm3 hg3 h3 hr3 hS0 g2 HW
 refine Z3 11 (by kernel_rfl) rfl (fun K hK=>?_)
 refine Z0h (by rfl) (.tmp 21) (.tmp 22) (.tmp 28) 50 rfl _ _ _ _ rfl rfl rfl HR3.out ?_
 refine hK _ _ (.inl (by decide)) ?_
 clear hK K HR3
 refine Z4 (by kernel_rfl) ?_ _
 refine NoPanic.normal ?_
 (try simp only[Act.put,List.getElem_toArray,List.getElem_cons_zero,List.getElem_cons_succ,List.setIfInBounds_toArray,List.set_cons_zero,List.set_cons_succ])
 obtain⟨c0,c1,c2,c3,c4,c5,c6,c7⟩:=HW3.out.c
 have hol:=HW3.out.ol
 clear c0 c1 c3 c6 c7
 go_wp2_with fail
 refine Z9 [10] (Nw w3) (by kernel_rfl) ?_
 change Z8 _ _ _ _ _ _ 11 #[false,false,false,false,false,false,false,false,false,false,false] _ w3.drew
 obtain⟨y1,hy1⟩:∃y,w3.drew=y:=⟨_,rfl⟩
 rw[hy1]
 have hS0:Nw w3 y1:=by rw[←hy1];exact(Nw.refl w3).dr
 have t0:∀x,Nw w3 x→x.cell? ⟨o,2,none⟩=some (.map (some pb)):=fun x g=>g.kp c2
 have t1:∀x,Nw w3 x→x.cell? ⟨o,4,none⟩=some (.slice oa s.op.length oc):=fun x g=>g.kp c4
 clear hy1 c2 c4 c5 hol
 refine Z1 0 rfl (by kernel_rfl) (by kernel_rfl) (by kernel_rfl) (by kernel_rfl) (fun v c a w h=>h) hS0 ?_
 (first | (refine⟨undef,Or.inr ⟨by rfl,rfl⟩,?_⟩) | (apply Exists.intro;refine⟨Or.inl ⟨by rfl,?_⟩,?_⟩;(intro x hx';go_simp;first | done | with_reducible rfl)))
 (try simp only[Act.put,List.getElem_toArray,List.getElem_cons_zero,List.getElem_cons_succ,List.setIfInBounds_toArray,List.set_cons_zero,List.set_cons_succ])
 refine Z1 1 rfl (by kernel_rfl) (by kernel_rfl) (by kernel_rfl) (by kernel_rfl) (fun v c a w h=>h) hS0 ?_
 (first | (refine⟨undef,Or.inr ⟨by rfl,rfl⟩,?_⟩) | (apply Exists.intro;refine⟨Or.inl ⟨by rfl,?_⟩,?_⟩;(intro x hx';go_simp;first | done | with_reducible rfl)))
 (try simp only[Act.put,List.getElem_toArray,List.getElem_cons_zero,List.getElem_cons_succ,List.setIfInBounds_toArray,List.set_cons_zero,List.set_cons_succ])
 refine Z1 2 rfl (by kernel_rfl) (by kernel_rfl) (by kernel_rfl) (by kernel_rfl) (fun v c a w h=>h) hS0 ?_
 (first | (refine⟨undef,Or.inr ⟨by rfl,rfl⟩,?_⟩) | (apply Exists.intro;refine⟨Or.inl ⟨by rfl,?_⟩,?_⟩;(intro x hx';go_simp;first | done | with_reducible rfl)))
 (try simp only[Act.put,List.getElem_toArray,List.getElem_cons_zero,List.getElem_cons_succ,List.setIfInBounds_toArray,List.set_cons_zero,List.set_cons_succ])
 refine Z1 3 rfl (by kernel_rfl) (by kernel_rfl) (by kernel_rfl) (by kernel_rfl) (fun v c a w h=>h) hS0 ?_
 (first | (refine⟨undef,Or.inr ⟨by rfl,rfl⟩,?_⟩) | (apply Exists.intro;refine⟨Or.inl ⟨by rfl,?_⟩,?_⟩;(intro x hx';go_simp;first | done | with_reducible rfl)))
 (try simp only[Act.put,List.getElem_toArray,List.getElem_cons_zero,List.getElem_cons_succ,List.setIfInBounds_toArray,List.set_cons_zero,List.set_cons_succ])
 refine Z1 4 rfl (by kernel_rfl) (by kernel_rfl) (by kernel_rfl) (by kernel_rfl) (fun v c a w h=>h) hS0 ?_
 (first | (refine⟨undef,Or.inr ⟨by rfl,rfl⟩,?_⟩) | (apply Exists.intro;refine⟨Or.inl ⟨by rfl,?_⟩,?_⟩;(intro x hx';go_simp;first | done | with_reducible rfl)))
 (try simp only[Act.put,List.getElem_toArray,List.getElem_cons_zero,List.getElem_cons_succ,List.setIfInBounds_toArray,List.set_cons_zero,List.set_cons_succ])
 refine Z1 5 rfl (by kernel_rfl) (by kernel_rfl) (by kernel_rfl) (by kernel_rfl) (fun v c a w h=>h) hS0 ?_
 (first | (refine⟨undef,Or.inr ⟨by rfl,rfl⟩,?_⟩) | (apply Exists.intro;refine⟨Or.inl ⟨by rfl,?_⟩,?_⟩;(intro x hx';go_simp;first | done | with_reducible rfl)))
 (try simp only[Act.put,List.getElem_toArray,List.getElem_cons_zero,List.getElem_cons_succ,List.setIfInBounds_toArray,List.set_cons_zero,List.set_cons_succ])
 refine Z1 6 rfl (by kernel_rfl) (by kernel_rfl) (by kernel_rfl) (by kernel_rfl) (fun v c a w h=>h) hS0 ?_
 (first | (refine⟨undef,Or.inr ⟨by rfl,rfl⟩,?_⟩) | (apply Exists.intro;refine⟨Or.inl ⟨by rfl,?_⟩,?_⟩;(intro x hx';go_simp;first | done | with_reducible rfl)))
 (try simp only[Act.put,List.getElem_toArray,List.getElem_cons_zero,List.getElem_cons_succ,List.setIfInBounds_toArray,List.set_cons_zero,List.set_cons_succ])
 refine Z1 7 rfl (by kernel_rfl) (by kernel_rfl) (by kernel_rfl) (by kernel_rfl) (fun v c a w h=>h) hS0 ?_
 (first | (refine⟨undef,Or.inr ⟨by rfl,rfl⟩,?_⟩) | (apply Exists.intro;refine⟨Or.inl ⟨by rfl,?_⟩,?_⟩;(intro x hx';go_simp;first | done | with_reducible rfl)))
 (try simp only[Act.put,List.getElem_toArray,List.getElem_cons_zero,List.getElem_cons_succ,List.setIfInBounds_toArray,List.set_cons_zero,List.set_cons_succ])
 refine Z1 8 rfl (by kernel_rfl) (by kernel_rfl) (by kernel_rfl) (by kernel_rfl) (fun v c a w h=>h) hS0 ?_
 (first | (refine⟨undef,Or.inr ⟨by rfl,rfl⟩,?_⟩) | (apply Exists.intro;refine⟨Or.inl ⟨by rfl,?_⟩,?_⟩;(intro x hx';go_simp;first | done | with_reducible rfl)))
 (try simp only[Act.put,List.getElem_toArray,List.getElem_cons_zero,List.getElem_cons_succ,List.setIfInBounds_toArray,List.set_cons_zero,List.set_cons_succ])
 refine Z1 9 rfl (by kernel_rfl) (by kernel_rfl) (by kernel_rfl) (by kernel_rfl) (fun v c a w h=>h) hS0 ?_
 (first | (refine⟨undef,Or.inr ⟨by rfl,rfl⟩,?_⟩) | (apply Exists.intro;refine⟨Or.inl ⟨by rfl,?_⟩,?_⟩;(intro x hx';go_simp;first | done | with_reducible rfl)))
 (try simp only[Act.put,List.getElem_toArray,List.getElem_cons_zero,List.getElem_cons_succ,List.setIfInBounds_toArray,List.set_cons_zero,List.set_cons_succ])
 have h4:=HW3.out.nwr hS0
 obtain⟨w5,hr5,hm5,hg5⟩:=(h4.mp.put (by have:=HU.out.1;omega) HU.out.2.1 (s.op.length:Int))
 have h5:=h4.plc hm5 hg5 (Nat.le_succ _)
 have HW5:=hD0 h5
 have HR5:=hD0 hr5
 clear h4 hm5 hg5 h5 hr5 hS0 t0 t1 HW3
 refine Z3 10 (by kernel_rfl) rfl (fun K hK=>?_)
 refine Z0h (by rfl) (.tmp 32) (.tmp 33) (.tmp 38) 50 rfl _ _ _ _ rfl rfl rfl HR5.out ?_
 refine hK _ _ (.inl (by decide)) ?_
 clear hK K HR5
 refine Z4 (by kernel_rfl) ?_ _
 refine NoPanic.normal ?_
 (try simp only[Act.put,List.getElem_toArray,List.getElem_cons_zero,List.getElem_cons_succ,List.setIfInBounds_toArray,List.set_cons_zero,List.set_cons_succ])
 obtain⟨c0,c1,c2,c3,c4,c5,c6,c7⟩:=HW5.out.c
 have hol:=HW5.out.ol
 have hfz:=HW5.out.fz 5
 clear c0 c1 c2 c3 c6 c7
 go_wp2_with fail
 refine Z9 [15] (Nk w5 o vk oa oc s.op.length) (by kernel_rfl) ?_
 change Z8 _ _ _ _ _ _ 16 #[false,false,false,false,false,false,false,false,false,false,false,false,false,false,false,false] _ w5.drew
 obtain⟨y2,hy2⟩:∃y,w5.drew=y:=⟨_,rfl⟩
 rw[hy2]
 have h6:=HW5.out.nwr (show Nw w5 y2 by rw[←hy2];exact(Nw.refl w5).dr)
 obtain⟨d0,d1,d2,d3,d4,d5,d6,d7⟩:=h6.c
 have hol6:=h6.ol
 have hS0:Nk w5 o vk oa oc s.op.length y2:=⟨d5,d4,hol6⟩
 have t0:∀x,Nk w5 o vk oa oc s.op.length x→x.cell? ⟨o,5,none⟩=some vk:=fun x g=>g.1
 have t1:∀x,Nk w5 o vk oa oc s.op.length x→x.cell? ⟨o,4,none⟩=some (.slice oa s.op.length oc):=fun x g=>g.2.1
 have HW6:=hD0 h6
 clear hy2 c4 c5 hol hfz d0 d1 d2 d3 d4 d5 d6 d7 h6 HW5
 refine Z1 0 rfl (by kernel_rfl) (by kernel_rfl) (by kernel_rfl) (by kernel_rfl) (fun v c a w h=>h) hS0 ?_
 (first | (refine⟨undef,Or.inr ⟨by rfl,rfl⟩,?_⟩) | (apply Exists.intro;refine⟨Or.inl ⟨by rfl,?_⟩,?_⟩;(intro x hx';go_simp;first | done | with_reducible rfl)))
 (try simp only[Act.put,List.getElem_toArray,List.getElem_cons_zero,List.getElem_cons_succ,List.setIfInBounds_toArray,List.set_cons_zero,List.set_cons_succ])
 refine Z1 1 rfl (by kernel_rfl) (by kernel_rfl) (by kernel_rfl) (by kernel_rfl) (fun v c a w h=>h) hS0 ?_
 (first | (refine⟨undef,Or.inr ⟨by rfl,rfl⟩,?_⟩) | (apply Exists.intro;refine⟨Or.inl ⟨by rfl,?_⟩,?_⟩;(intro x hx';go_simp;first | done | with_reducible rfl)))
 (try simp only[Act.put,List.getElem_toArray,List.getElem_cons_zero,List.getElem_cons_succ,List.setIfInBounds_toArray,List.set_cons_zero,List.set_cons_succ])
 refine Z1 2 rfl (by kernel_rfl) (by kernel_rfl) (by kernel_rfl) (by kernel_rfl) (fun v c a w h=>h) hS0 ?_
 (first | (refine⟨undef,Or.inr ⟨by rfl,rfl⟩,?_⟩) | (apply Exists.intro;refine⟨Or.inl ⟨by rfl,?_⟩,?_⟩;(intro x hx';go_simp;first | done | with_reducible rfl)))
 (try simp only[Act.put,List.getElem_toArray,List.getElem_cons_zero,List.getElem_cons_succ,List.setIfInBounds_toArray,List.set_cons_zero,List.set_cons_succ])
 refine Z1 3 rfl (by kernel_rfl) (by kernel_rfl) (by kernel_rfl) (by kernel_rfl) (fun v c a w h=>h) hS0 ?_
 (first | (refine⟨undef,Or.inr ⟨by rfl,rfl⟩,?_⟩) | (apply Exists.intro;refine⟨Or.inl ⟨by rfl,?_⟩,?_⟩;(intro x hx';go_simp;first | done | with_reducible rfl)))
 (try simp only[Act.put,List.getElem_toArray,List.getElem_cons_zero,List.getElem_cons_succ,List.setIfInBounds_toArray,List.set_cons_zero,List.set_cons_succ])
 refine Z1 4 rfl (by kernel_rfl) (by kernel_rfl) (by kernel_rfl) (by kernel_rfl) (fun v c a w h=>h) hS0 ?_
 (first | (refine⟨undef,Or.inr ⟨by rfl,rfl⟩,?_⟩) | (apply Exists.intro;refine⟨Or.inl ⟨by rfl,?_⟩,?_⟩;(intro x hx';go_simp;first | done | with_reducible rfl)))
 (try simp only[Act.put,List.getElem_toArray,List.getElem_cons_zero,List.getElem_cons_succ,List.setIfInBounds_toArray,List.set_cons_zero,List.set_cons_succ])
 refine Z1 5 rfl (by kernel_rfl) (by kernel_rfl) (by kernel_rfl) (by kernel_rfl) (fun v c a w h=>h) hS0 ?_
 (first | (refine⟨undef,Or.inr ⟨by rfl,rfl⟩,?_⟩) | (apply Exists.intro;refine⟨Or.inl ⟨by rfl,?_⟩,?_⟩;(intro x hx';go_simp;first | done | with_reducible rfl)))
 (try simp only[Act.put,List.getElem_toArray,List.getElem_cons_zero,List.getElem_cons_succ,List.setIfInBounds_toArray,List.set_cons_zero,List.set_cons_succ])
 refine Z1 6 rfl (by kernel_rfl) (by kernel_rfl) (by kernel_rfl) (by kernel_rfl) (fun v c a w h=>h) hS0 ?_
 (first | (refine⟨undef,Or.inr ⟨by rfl,rfl⟩,?_⟩) | (apply Exists.intro;refine⟨Or.inl ⟨by rfl,?_⟩,?_⟩;(intro x hx';go_simp;first | done | with_reducible rfl)))
 (try simp only[Act.put,List.getElem_toArray,List.getElem_cons_zero,List.getElem_cons_succ,List.setIfInBounds_toArray,List.set_cons_zero,List.set_cons_succ])
 refine Z1 7 rfl (by kernel_rfl) (by kernel_rfl) (by kernel_rfl) (by kernel_rfl) (fun v c a w h=>h) hS0 ?_
 (first | (refine⟨undef,Or.inr ⟨by rfl,rfl⟩,?_⟩) | (apply Exists.intro;refine⟨Or.inl ⟨by rfl,?_⟩,?_⟩;(intro x hx';go_simp;first | done | with_reducible rfl)))
 (try simp only[Act.put,List.getElem_toArray,List.getElem_cons_zero,List.getElem_cons_succ,List.setIfInBounds_toArray,List.set_cons_zero,List.set_cons_succ])
 refine Z1 8 rfl (by kernel_rfl) (by kernel_rfl) (by kernel_rfl) (by kernel_rfl) (fun v c a w h=>h) hS0 ?_
 (first | (refine⟨undef,Or.inr ⟨by rfl,rfl⟩,?_⟩) | (apply Exists.intro;refine⟨Or.inl ⟨by rfl,?_⟩,?_⟩;(intro x hx';go_simp;first | done | with_reducible rfl)))
 (try simp only[Act.put,List.getElem_toArray,List.getElem_cons_zero,List.getElem_cons_succ,List.setIfInBounds_toArray,List.set_cons_zero,List.set_cons_succ])
 refine Z1 9 rfl (by kernel_rfl) (by kernel_rfl) (by kernel_rfl) (by kernel_rfl) (fun v c a w h=>h) hS0 ?_
 (first | (refine⟨undef,Or.inr ⟨by rfl,rfl⟩,?_⟩) | (apply Exists.intro;refine⟨Or.inl ⟨by rfl,?_⟩,?_⟩;(intro x hx';go_simp;first | done | with_reducible rfl)))
 (try simp only[Act.put,List.getElem_toArray,List.getElem_cons_zero,List.getElem_cons_succ,List.setIfInBounds_toArray,List.set_cons_zero,List.set_cons_succ])
 refine Z1 10 rfl (by kernel_rfl) (by kernel_rfl) (by kernel_rfl) (by kernel_rfl) (fun v c a w h=>h) hS0 ?_
 (first | (refine⟨undef,Or.inr ⟨by rfl,rfl⟩,?_⟩) | (apply Exists.intro;refine⟨Or.inl ⟨by rfl,?_⟩,?_⟩;(intro x hx';go_simp;first | done | with_reducible rfl)))
 (try simp only[Act.put,List.getElem_toArray,List.getElem_cons_zero,List.getElem_cons_succ,List.setIfInBounds_toArray,List.set_cons_zero,List.set_cons_succ])
 refine Z3 11 (by kernel_rfl) rfl (fun K hK=>?_)
 rw[if_pos (by rfl)]
 (try simp only[List.getElem_toArray,List.getElem_cons_zero,List.getElem_cons_succ])
 go_simp
 have e7:Nw y2 (y2.alloc (.cells #[.int .i64 s.op.length,.bool false] 108)):=(Nw.refl _).alloc _
 refine hK _ _ (.inr ⟨e7.kp hS0.1,e7.kp hS0.2.1,lL0 hS0.2.2 e7.sz⟩) ?_
 clear hK K
 (try simp only[Act.put,List.getElem_toArray,List.getElem_cons_zero,List.getElem_cons_succ,List.setIfInBounds_toArray,List.set_cons_zero,List.set_cons_succ])
 obtain⟨gk,kc,w8,hr8,⟨hc8,hf8,ho8⟩,h8⟩:=HW6.out.pushK s.op.length (by have:=HU.out.2.2.2.2;show s.kn.length<N+1+1;omega) (by have:=HU.out.1;omega)
 have f8:=(hf8 5).trans (HW6.out.fz 5)
 have b5:=(hc8 5).trans hS0.1
 have b4:=(hc8 4).trans hS0.2.1
 have HR8:=hD0 hr8
 have HW8:=hD0 h8
 clear hc8 hf8 h8 hr8 e7
 refine Z3 12 (by kernel_rfl) rfl (fun K hK=>?_)
 refine Z39 (by rfl) (.tmp 43) (.tmp 50) 71 rfl _ _ _ _ rfl rfl HR8.out ?_
 refine hK _ _ (.inr ⟨b5,b4,ho8⟩) ?_
 clear hK K HR8 hS0
 (try simp only[Act.put,List.getElem_toArray,List.getElem_cons_zero,List.getElem_cons_succ,List.setIfInBounds_toArray,List.set_cons_zero,List.set_cons_succ])
 have hS0:Nk w5 o vk oa oc s.op.length w8:=⟨b5,b4,ho8⟩
 refine Z3 13 (by kernel_rfl) rfl (fun K hK=>?_)
 rw[if_pos (by rfl)]
 (try simp only[List.getElem_toArray,List.getElem_cons_zero,List.getElem_cons_succ])
 go_simp
 refine hK _ _ (.inr hS0) ?_
 clear hK K
 (try simp only[Act.put,List.getElem_toArray,List.getElem_cons_zero,List.getElem_cons_succ,List.setIfInBounds_toArray,List.set_cons_zero,List.set_cons_succ])
 refine Z3 14 (by kernel_rfl) rfl (fun K hK=>?_)
 rw[if_pos (by rfl)]
 (try simp only[List.getElem_toArray,List.getElem_cons_zero,List.getElem_cons_succ])
 go_simp
 refine hK _ _ (.inr hS0) ?_
 clear hK K
 (try simp only[Act.put,List.getElem_toArray,List.getElem_cons_zero,List.getElem_cons_succ,List.setIfInBounds_toArray,List.set_cons_zero,List.set_cons_succ])
 refine Z3 15 (by kernel_rfl) rfl (fun K hK=>?_)
 rw[if_pos (by rfl)]
 (try simp only[List.getElem_toArray,List.getElem_cons_zero,List.getElem_cons_succ])
 go_simp
 refine hK _ _ (.inl (by decide)) ?_
 clear hK K hS0 t0 t1 b5 b4 f8 ho8 HW6
 refine Z4 (by kernel_rfl) ?_ _
 refine NoPanic.normal ?_
 (try simp only[Act.put,List.getElem_toArray,List.getElem_cons_zero,List.getElem_cons_succ,List.setIfInBounds_toArray,List.set_cons_zero,List.set_cons_succ])
 obtain⟨w9,hw9⟩:∃x,w8.setCell ⟨o,5,none⟩ (.slice (some ⟨gk,0,none⟩) (s.kn.length+1) kc)=x:=⟨_,rfl⟩
 rw[hw9] at HW8 ⊢
 clear hw9
 obtain⟨c0,c1,c2,c3,c4,c5,c6,c7⟩:=HW8.out.c
 have hol:=HW8.out.ol
 have hfz:=HW8.out.fz
 clear c0 c1 c2 c3 c5 c6 c7
 obtain⟨go,oc2,w10,hr10,⟨hc10,hf10,ho10⟩,h10⟩:=HW8.out.pushO u (by have:=HU.out.2.2.2.1;show s.op.length<N+1+1;omega) (by have:=HU.out.1;omega)
 have f10:=(hf10 4).trans (hfz 4)
 have b10:=(hc10 4).trans c4
 have HR10:=hD0 hr10
 have HW10:=hD0 h10
 clear hc10 hf10 h10 hr10
 go_upto_region 6 with(at_builtin;refine Zr (by rfl) (.tmp 58) (.tmp 60) 28 rfl _ _ _ _ rfl rfl HR10.out ?_)
 obtain⟨w11,hw11⟩:∃x,w10.setCell ⟨o,4,none⟩ (.slice (some ⟨go,0,none⟩) (s.op.length+1) oc2)=x:=⟨_,rfl⟩
 rw[hw11] at HW10 ⊢
 clear hw11 c4 hol hfz ho10 f10 b10 HR10 HW8
 obtain⟨c0,c1,c2,c3,c4,c5,c6,c7⟩:=HW10.out.c
 have hol:=HW10.out.ol
 have hfz:=HW10.out.fz
 clear c0 c1 c2 c4 c5 c6 c7
 obtain⟨gp,pc,w12,hr12,⟨hc12,hf12,ho12⟩,h12⟩:=HW10.out.pushP u (by have:=HU.out.2.2.1;show s.path.length<N+1+1;omega) (by have:=HU.out.1;omega)
 have f12:=(hf12 3).trans (hfz 3)
 have b12:=(hc12 3).trans c3
 have HR12:=hD0 hr12
 have HW12:=hD0 h12
 clear hc12 hf12 h12 hr12
 go_wp2_with (at_builtin;refine Zr (by rfl) (.tmp 68) (.tmp 70) 28 rfl _ _ _ _ rfl rfl HR12.out ?_)
 refine bodyPost_end (results_none rfl _ _ _) rfl ?_
 exact⟨rfl,mb,pb,_,_,_,HW12.out⟩
end
end Go.Proofs.Ytbefaomgldckdaa
