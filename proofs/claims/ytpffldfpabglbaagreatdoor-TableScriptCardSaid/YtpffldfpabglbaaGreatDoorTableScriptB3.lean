/- Texts merged: QuI, QuJ, BkR, NameA, NameB, NameC, NameD, RefA, BkS, BkQ, BkT, BkU, QuK, QuL -/
import Derived.Test.YtpffldfpabglbaaGreatDoorTableScriptB2
import Derived.StillTailTactics
set_option linter.unusedVariables false
set_option maxRecDepth 100000
set_option maxHeartbeats 16000000
namespace Go.Proofs.YtpffldfpabglbaaGreatDoor
open Go.RowKit _root_.Go.Proofs.Tryz
theorem Zi8{w:World}{g0 e size g n cap i:Nat}{xs:List Value}(h:w.ownsRow g0 e size (.slice (some ⟨g,0,none⟩) n cap) n xs)(hi:i≤n):w.ownsRow g0 e size (.slice (some ⟨g,0,none⟩) i cap) i (xs.take (i*size)):=by
 obtain⟨hl,q | ⟨g',cap',cur,e1,hb,hg,hn,hc,hs,ht⟩⟩:=h
 ·simp at q
 ·simp only[Value.slice.injEq,Option.some.injEq,Addr.mk.injEq,and_true,true_and] at e1
  obtain⟨rfl,rfl⟩:=e1
  have hm:=Nat.mul_le_mul_right size hi
  refine⟨by rw[List.length_take,hl];omega,.inr ⟨g,cap,cur,rfl,hb,hg,by omega,hc,hs,?_⟩⟩
  rw[←ht,List.take_take,Nat.min_eq_left hm]
theorem Z9p{α:Type}{sz:Nat}{row:α→List Value}(hl:∀a,(row a).length=sz)(i:Nat)(l:List α)(hi:i≤l.length):(Z6 row l).take (i*sz)=Z6 row (l.take i):=by
 have e:Z6 row l=Z6 row (l.take i)++Z6 row (l.drop i):=by rw[←Z4s,List.take_append_drop]
 have hll:(Z6 row (l.take i)).length=i*sz:=by rw[Yw hl,List.length_take,Nat.min_eq_left hi]
 rw[e,←hll,List.take_left]
theorem Yz.pre{w:World}{g0 g n cap:Nat}{q:List Rq}(h:Z2 w g0 (.slice (some ⟨g,0,none⟩) n cap) q)(hn:n=q.length){i:Nat}(hi:i≤n):Z2 w g0 (.slice (some ⟨g,0,none⟩) i cap) (q.take i):=by
 subst hn
 have:=Zi8 h hi
 unfold Z2 Yz
 rw[List.length_take,Nat.min_eq_left hi,←Z9p (sz:=5) (row:=Zk) (fun _=>rfl) i q hi]
 exact this
theorem Ur{w:World}{g0 e size g n cap:Nat}{xs:List Value}(h:w.ownsRow g0 e size (.slice (some ⟨g,0,none⟩) n cap) n xs):n≤cap:=by
 obtain⟨_,q | ⟨g',cap',cur,e1,_,_,hn,_⟩⟩:=h
 ·simp at q
 ·simp only[Value.slice.injEq] at e1
  rw[e1.2.2];exact hn
theorem Zt3{w:World}{b o c k:Nat}{q:List Rq}(h:RqC w b o q)(hk:k≤q.length)(hc:q.length≤c) :
  ∀j u,(Z6 Zk (q.drop k))[j]?=some u→w.cell? ((if c=k then(⟨b,o,none⟩:Addr) else⟨b,o+k*5,none⟩).add j)=some u:=by
 by_cases e:c=k
 ·intro j u hu
  have:q.drop k=[]:=List.drop_eq_nil_of_le (by omega)
  rw[this] at hu
  simp[Z6] at hu
 ·rw[if_neg e]
  have hp:=h.part k (q.length-k)
  rw[List.take_of_length_le (by simp)] at hp
  exact hp.flat (fun _=>rfl) (by decide)
theorem Z9m(t r W:Int)(b o c k:Nat)(q:List Rq)(w:World)(hl:q.length≤1000)(hk:k<q.length)(hcq:q.length≤c)(h:RqC w b o q) :
  Calls prog 183 #[.agg #[.int .i64 t,.int .i64 r,.slice (some ⟨b,o,none⟩) q.length c,.int .i64 W],.int .i64 k] w fun e w'=>∃v',e=.returned (Yf t r v' W)∧Nw w w'∧Z2 w' w.heap.size v' (q.take k++q.drop (k+1)):=by
 have HH:=hD0 h
 have HCp:=hD0 (fun(w1:World) (h:RqC w1 b o q)=>Z0o t r W (.slice (some ⟨b,o,none⟩) q.length c) q w1 hl ⟨_,c,rfl,.inr ⟨b,o,rfl,h⟩⟩)
 unfold Yf at HCp ⊢
 clear h
 have hp0:=Z1 w (.cells #[.int .i64 t,.int .i64 r,.slice (some ⟨b,o,none⟩) q.length c,.int .i64 W] 63)
 have hp:=((Nw.refl _).alloc (.cells #[.int .i64 0,.int .i64 0,.slice none 0 0,.int .i64 0] 63)).at' hp0
 have hq:=Z1 (w.alloc (.cells #[.int .i64 t,.int .i64 r,.slice (some ⟨b,o,none⟩) q.length c,.int .i64 W] 63)) (.cells #[.int .i64 0,.int .i64 0,.slice none 0 0,.int .i64 0] 63)
 have hsz1:(w.alloc (.cells #[.int .i64 t,.int .i64 r,.slice (some ⟨b,o,none⟩) q.length c,.int .i64 W] 63)).heap.size=w.heap.size+1:=by simp
 have hsz2:((w.alloc (.cells #[.int .i64 t,.int .i64 r,.slice (some ⟨b,o,none⟩) q.length c,.int .i64 W] 63)).alloc (.cells #[.int .i64 0,.int .i64 0,.slice none 0 0,.int .i64 0] 63)).heap.size=w.heap.size+1+1:=by simp
 have hN2:Nw w ((w.alloc (.cells #[.int .i64 t,.int .i64 r,.slice (some ⟨b,o,none⟩) q.length c,.int .i64 W] 63)).alloc (.cells #[.int .i64 0,.int .i64 0,.slice none 0 0,.int .i64 0] 63)):=((Nw.refl w).alloc _).alloc _
 rw[hsz1] at hq
 have HX:=hD0 (aI0 hp (aI0 hq (aI0 hN2 hsz2)))
 clear hp0 hp hq hsz1 hsz2 hN2
 go_enter func183,ntmps183
 go_wp2_with fail
 refine(HCp.out _ (HH.out.nw HX.out.2.2.1)).mono ?_
 rintro e w1 ⟨v1,rfl,g1,hO⟩
 rw[HX.out.2.2.2] at hO
 rcases Y7 hO with⟨_,q0⟩ | ⟨g,cap,rfl⟩
 ·omega
 have hp1:=g1.at' HX.out.1
 have hq1:=g1.at' HX.out.2.1
 have hN1:=HX.out.2.2.1.trans g1
 have hC1:=HH.out.nw hN1
 have hs1:w.heap.size+1+1≤w1.heap.size:=by rw[←HX.out.2.2.2];exact g1.sz
 have hcap:=Ur hO
 clear g1 HX HCp
 go_wp2_with fail
 have hal:=Z1 w1 (.cells #[.int .i64 t,.int .i64 r,.slice (some ⟨g,0,none⟩) q.length cap,.int .i64 W] 63)
 have hNa:Nw w1 (w1.alloc (.cells #[.int .i64 t,.int .i64 r,.slice (some ⟨g,0,none⟩) q.length cap,.int .i64 W] 63)):=(Nw.refl w1).alloc _
 have hlg:=olt hO (g:=g) rfl
 obtain⟨pb,hpb⟩:∃pb,w1.heap.size=pb:=⟨_,rfl⟩
 rw[hpb] at hal
 rw[hpb]
 generalize w1.alloc (.cells #[.int .i64 t,.int .i64 r,.slice (some ⟨g,0,none⟩) q.length cap,.int .i64 W] 63)=y at *
 have hpy:=hNa.at' hp1
 have hqy:=hNa.at' hq1
 have hCy:=(hC1.nw hNa).nw (Nw.refl y).dr
 have hOy:=onw (onw hO hNa) (Nw.refl y).dr
 have hNy:Nw w y.drew:=(hN1.trans hNa).dr
 have hsy:w.heap.size+1+1≤y.drew.heap.size:=Nat.le_trans hs1 hNa.sz
 have hgp:g≠pb:=by omega
 have hg0:w.heap.size+1+1≤g:=Vr hO rfl
 obtain⟨nx,hnx⟩:∃nx:Nat,k+1=nx:=⟨_,rfl⟩
 have hdl:(q.drop (k+1)).length=q.length-nx:=by rw[List.length_drop,hnx]
 obtain⟨ad,had,hadc⟩:∃ad:Addr,(if c=k+1 then(⟨b,o,none⟩:Addr) else⟨b,o+(k+1)*5,none⟩)=ad∧∀j u,(Z6 Zk (q.drop (k+1)))[j]?=some u→y.drew.cell? (ad.add j)=some u:=⟨_,rfl,Zt3 hCy (by omega) hcq⟩
 obtain⟨v2,w2,hrun,hR2,hG2,hbk⟩:=Yz.many Z57 (Yz.pre hOy rfl (i:=k) (by omega)) (q.drop (k+1)) ad (c-nx) hadc (by rw[List.length_take,List.length_drop];omega) hsy
 rw[hdl] at hrun
 have hnb:∀x,v2.ownBlock=some x→x≠pb:=by
  intro x hx e
  subst e
  have h1:=hlt hal
  rcases hbk with e | e
  ·rw[hx] at e;have e2:x=g:=Option.some.inj e;omega
  ·rw[hx] at e;have e2:x=y.heap.size:=Option.some.inj e;omega
 have hg2:∀x,x<y.heap.size→x≠g→w2.heap[x]?=y.heap[x]?:=fun x h1 h2=>hG2.block x h1 (fun e=>h2 (Option.some.inj e))
 have hpb2:=(hg2 pb (hlt hal) (fun e=>hgp e.symm)).trans hal
 have hq2:=(hg2 _ (hlt hqy) (by omega)).trans hqy
 have hN2':Nw w w2:=hNy.gro hG2 (fun x hx=>by have e:g=x:=Option.some.inj hx;omega)
 have hpc:∀j,y.cell? ⟨pb,j,none⟩=_:=fun j=>Z0 (j:=j) hal
 have c0:=hpc 0
 have c1:=hpc 1
 have c2:=hpc 2
 have c3:=hpc 3
 have hpp:∀j,y.cell? ⟨w.heap.size,j,none⟩=_:=fun j=>Z0 (j:=j) hpy
 have h0:=hpp 0
 have h1:=hpp 1
 have h2:=hpp 2
 have h3:=hpp 3
 have hp2:∀j,w2.cell? ⟨pb,j,none⟩=_:=fun j=>Z0 (j:=j) hpb2
 have x0:=hp2 0
 have x1:=hp2 1
 have x2:=hp2 2
 have x3:=hp2 3
 have fz:=fun j=>hfz (j:=j) hpb2
 have hqc:∀j,w2.cell? ⟨w.heap.size+1,j,none⟩=_:=fun j=>Z0 (j:=j) hq2
 have d0:=hqc 0
 have d1:=hqc 1
 have d2:=hqc 2
 have d3:=hqc 3
 have fz':=fun j=>hfz (j:=j) hq2
 have hrp:¬(w.heap.size+1=pb):=by omega
 have hrp':¬(pb=w.heap.size+1):=by omega
 have hpbw:w.heap.size≤pb:=by omega
 obtain⟨a2,k2,hv2⟩:=(Z2.rd hR2).form
 obtain⟨n2,hn2⟩:∃n,(q.take k++q.drop (k+1)).length=n:=⟨_,rfl⟩
 rw[hn2] at hv2
 subst hv2
 have k1:(k:Int)+1=(nx:Int):=by omega
 have k3:nx≤c:=by omega
 have k4:(nx:Int)≤(q.length:Int):=by omega
 have k5:(q.length:Int)≤(c:Int):=by omega
 have k6:((q.length:Int)-(nx:Int)).toNat=q.length-nx:=by omega
 have k7:k≤cap:=by omega
 have hki:(k:Int)≤(cap:Int):=by omega
 have hkn:IntKind.i64.wrap ((k:Int)+1)=(nx:Int):=by rw[IntKind.wrap_i64]<;>omega
 have hkn2:IntKind.i64.wrap (nx:Int)=(nx:Int):=by rw[IntKind.wrap_i64]<;>omega
 have HR:=hD0 hrun
 have HX:=hD0 (aI0 hR2 (aI0 hN2' (aI0 hg0 (aI0 hpbw hnb))))
 clear hpc hpp hp2 hqc hnb hbk hrun hR2 hG2 hg2 hpb2 hq2 hN2' hal hNa hp1 hq1 hN1 hC1 hs1 hpy hqy hCy hOy hNy hsy hO hdl hadc hn2 hlg hgp hg0
 refine wp_region_still_tail 9 (by kernel_rfl) (by kernel_rfl) ?_
 simp only[List.take_succ_cons,List.take_zero,List.drop_succ_cons,List.drop_zero]
 rw[hnx] at had
 clear hnx
 by_cases hcn:c=nx
 ·rw[if_pos hcn] at had
  subst had
  repeat still_step
  try refine wpStill_nil ?_
  change wpList _ _ _ _ _ y.drew
  refine Z5 (by rfl) (.tmp 11) (.tmp 16) 61 rfl _ _ _ _ (by first | rfl | simp[Act.eval,hcn]) (by first | rfl | simp[Act.eval,hcn]) HR.out ?_
  go_wp2
  refine bodyPost_ret (v:=.agg #[.int .i64 t,.int .i64 r,.slice a2 n2 k2,.int .i64 W]) (by simp[results,results183,go_sem, *]) rfl ⟨_,rfl,?_,?_⟩
  ·exact((((HX.out.2.1.st HX.out.2.2.2.1 _).st (Nat.le_succ _) _).st (Nat.le_succ _) _).st (Nat.le_succ _) _).st (Nat.le_succ _) _
  ·have hO5:=Ug HX.out.1 (Yg w2 ⟨pb,2,none⟩ (.slice a2 n2 k2)) (fun x hx e=>HX.out.2.2.2.2 x hx (Option.some.inj e).symm)
   have hr:=Yn (Yn (Yn (Yn hO5 (p:=⟨w.heap.size+1,0,none⟩) (by show w.heap.size+1<_;omega) (.int .i64 t)) (p:=⟨w.heap.size+1,1,none⟩) (by show w.heap.size+1<_;omega) (.int .i64 r)) (p:=⟨w.heap.size+1,2,none⟩) (by show w.heap.size+1<_;omega) (.slice a2 n2 k2)) (p:=⟨w.heap.size+1,3,none⟩) (by show w.heap.size+1<_;omega) (.int .i64 W)
   exact Z4i hr (fun g hg=>by have:=Vr hr hg;omega)
 ·rw[if_neg hcn] at had
  subst had
  repeat still_step
  try refine wpStill_nil ?_
  change wpList _ _ _ _ _ y.drew
  refine Z5 (by rfl) (.tmp 11) (.tmp 16) 61 rfl _ _ _ _ rfl rfl HR.out ?_
  go_wp2
  refine bodyPost_ret (v:=.agg #[.int .i64 t,.int .i64 r,.slice a2 n2 k2,.int .i64 W]) (by simp[results,results183,go_sem, *]) rfl ⟨_,rfl,?_,?_⟩
  ·exact((((HX.out.2.1.st HX.out.2.2.2.1 _).st (Nat.le_succ _) _).st (Nat.le_succ _) _).st (Nat.le_succ _) _).st (Nat.le_succ _) _
  ·have hO5:=Ug HX.out.1 (Yg w2 ⟨pb,2,none⟩ (.slice a2 n2 k2)) (fun x hx e=>HX.out.2.2.2.2 x hx (Option.some.inj e).symm)
   have hr:=Yn (Yn (Yn (Yn hO5 (p:=⟨w.heap.size+1,0,none⟩) (by show w.heap.size+1<_;omega) (.int .i64 t)) (p:=⟨w.heap.size+1,1,none⟩) (by show w.heap.size+1<_;omega) (.int .i64 r)) (p:=⟨w.heap.size+1,2,none⟩) (by show w.heap.size+1<_;omega) (.slice a2 n2 k2)) (p:=⟨w.heap.size+1,3,none⟩) (by show w.heap.size+1<_;omega) (.int .i64 W)
   exact Z4i hr (fun g hg=>by have:=Vr hr hg;omega)
def Z06:Value→Prop
 | .slice _ n c=>n≤c
 | _=>True
def HR1(X:Hq × Int)(w:World)(e:Ending)(w':World):Prop:=∃v',e=.returned (.tuple #[Yf X.1.t X.1.r v' X.1.W,.int .i64 X.2])∧Nw w w'∧Zl w' v' X.1.q∧Z06 v'
def newV(n:Nat)(v:Value):Prop:=∀a l c,v=.slice (some a) l c→n≤a.block
theorem Yp(n:Nat):newV n (.slice none 0 0):=fun a l c e=>by cases e
theorem Z2.newV{w:World}{g0 n:Nat}{v:Value}{q:List Rq}(h:Z2 w g0 v q)(hn:n≤g0):newV n v:=by
 rcases Y7 h with⟨rfl,_⟩ | ⟨g,cap,rfl⟩
 ·exact Yp n
 ·intro a l c e
  cases e
  exact Nat.le_trans hn (Vr h rfl)
def Zj0(X:Hq × Int)(w:World)(e:Ending)(w':World):Prop:=∃v',e=.returned (.tuple #[Yf X.1.t X.1.r v' X.1.W,.int .i64 X.2])∧Nw w w'∧Zl w' v' X.1.q∧Z06 v'∧newV w.heap.size v'
theorem Z2.cap{w:World}{g0:Nat}{v:Value}{q:List Rq}(h:Z2 w g0 v q):Z06 v:=by
 rcases Y7 h with⟨rfl,_⟩ | ⟨g,cap,rfl⟩
 ·exact Nat.le_refl _
 ·exact Ur h
theorem Z7{w a:World}{rb:Nat}(h:Nw w a)(hb:w.heap.size≤rb)(u0 u1 u2 u3:Value):Nw w ((((a.setCell ⟨rb,0,none⟩ u0).setCell ⟨rb,1,none⟩ u1).setCell ⟨rb,2,none⟩ u2).setCell ⟨rb,3,none⟩ u3) :=
 (((h.st hb _).st hb _).st hb _).st hb _
theorem Y4{a:World}{rb g0:Nat}{v:Value}{q:List Rq}(h:Z2 a g0 v q)(hb:rb<g0)(u0 u1 u2 u3:Value):Z2 ((((a.setCell ⟨rb,0,none⟩ u0).setCell ⟨rb,1,none⟩ u1).setCell ⟨rb,2,none⟩ u2).setCell ⟨rb,3,none⟩ u3) g0 v q :=
 Yn (Yn (Yn (Yn h (p:=⟨rb,0,none⟩) hb u0) (p:=⟨rb,1,none⟩) hb u1) (p:=⟨rb,2,none⟩) hb u2) (p:=⟨rb,3,none⟩) hb u3
theorem Zx(w:World)(o1 o2:Obj):((w.alloc o1).alloc o2).heap[w.heap.size]?=some o1∧((w.alloc o1).alloc o2).heap[w.heap.size+1]?=some o2∧Nw w ((w.alloc o1).alloc o2)∧((w.alloc o1).alloc o2).heap.size=w.heap.size+1+1:=by
 have hs:(w.alloc o1).heap.size=w.heap.size+1:=by simp
 refine⟨((Nw.refl _).alloc o2).at' (Z1 w o1),?_,((Nw.refl w).alloc _).alloc _,by simp⟩
 have:=Z1 (w.alloc o1) o2
 rwa [hs] at this
theorem Zz4{W:Int}{q:List Rq}{id:Int}{k:Nat}(h:Ok W q)(hk:k<q.length)(hf:Yr q id=some q[k]):lvQ id q=q.take k++q.drop (k+1):=by
 have e:=(Z2j hf).2
 rw[←Zda h k hk,e]
theorem Zp6(t r W id:Int)(v:Value)(q:List Rq)(w:World)(hl:q.length≤1000)(hok:Ok W q)(hcap:Z06 v)(h:Zl w v q) :
  Calls prog 137 #[Yf t r v W,.int .i64 id] w (Zj0 (lvR ⟨t,r,W,q⟩ id) w):=by
 have HOk:=hD0 hok
 clear hok
 obtain⟨X,hX⟩:∃X,lvR ⟨t,r,W,q⟩ id=X:=⟨_,rfl⟩
 rw[hX]
 have HXx:=hD0 hX
 clear hX
 have HA:=hD0 (fun(w1:World) (g:Nw w w1)=>Zp5 t r W id v q w1 hl (h.nw g))
 have HCp:=hD0 (fun(w1:World) (g:Nw w w1)=>Z0o t r W v q w1 hl (h.nw g))
 unfold Yf at HA HCp
 unfold Zj0 Yf
 obtain⟨a,c,rfl,h⟩:=h
 have HH:=hD0 h
 have hcq:q.length≤c:=hcap
 clear h hcap
 have HX:=hD0 (Zx w (.cells #[.int .i64 t,.int .i64 r,.slice a q.length c,.int .i64 W] 63) (.cells #[.int .i64 0,.int .i64 0,.slice none 0 0,.int .i64 0] 63))
 go_enter func137,ntmps137
 go_wp2_with fail
 refine(HA.out _ HX.out.2.2.1).mono ?_
 rintro e w1 ⟨i,rfl,g1,hi⟩
 have hp1:=g1.at' HX.out.1
 have hq1:=g1.at' HX.out.2.1
 have HN1:=hD0 (HX.out.2.2.1.trans g1)
 have c0:=Z0 (j:=0) hp1
 have c1:=Z0 (j:=1) hp1
 have c2:=Z0 (j:=2) hp1
 have c3:=Z0 (j:=3) hp1
 have hsl:=hlt hp1
 have hsl2:=hlt hq1
 rcases hi with⟨rfl,hf⟩ | ⟨k,rfl,hk,hf⟩
 ·have hR:=HXx.out.symm.trans (show lvR ⟨t,r,W,q⟩ id=(noH,5)by unfold lvR;rw[hf])
  subst hR
  have d0:=Z0 (j:=0) hq1
  have d1:=Z0 (j:=1) hq1
  have d2:=Z0 (j:=2) hq1
  have d3:=Z0 (j:=3) hq1
  have fz:=fun k=>hfz (j:=k) hq1
  clear hf hp1 hq1 g1 HA HCp HX HOk HXx HH
  go_wp2
  refine bodyPost_ret (v:=.tuple #[.agg #[.int .i64 0,.int .i64 0,.slice none 0 0,.int .i64 0],.int .i64 5]) (by simp[results,results137,go_sem, *]) rfl ⟨_,rfl,Z7 HN1.out (Nat.le_succ _) _ _ _ _,Rd.nil _,Nat.le_refl _,Yp _⟩
 ·rcases HH.out with⟨e,_⟩ | ⟨b,o,rfl,hc⟩
  ·subst e;simp at hk
  have hR:=HXx.out.symm.trans (show lvR ⟨t,r,W,q⟩ id=(⟨t,r,W,q.take k++q.drop (k+1)⟩,0)by unfold lvR;rw[hf,Zz4 HOk.out hk hf])
  subst hR
  have HWo:=hD0 (Z9m t r W b o c k q w1 hl hk hcq (hc.nw HN1.out))
  unfold Yf at HWo
  have HQ1:=hD0 hq1
  have hs1:w.heap.size+1<w1.heap.size:=hlt hq1
  clear hf hp1 hq1 g1 HA HCp HX HOk HXx HH hc
  go_wp2_with fail
  refine HWo.out.mono ?_
  rintro e w2 ⟨v2,rfl,g2,hO⟩
  have hq2:=g2.at' HQ1.out
  obtain⟨a2,k2,hv2⟩:=(Z2.rd hO).form
  have HO:=hD0 hO
  have HN2:=hD0 (HN1.out.trans g2)
  obtain⟨n2,hn2⟩:∃n,(q.take k++q.drop (k+1)).length=n:=⟨_,rfl⟩
  rw[hn2] at hv2
  subst hv2
  have d0:=Z0 (j:=0) hq2
  have d1:=Z0 (j:=1) hq2
  have d2:=Z0 (j:=2) hq2
  have d3:=Z0 (j:=3) hq2
  have fz:=fun k=>hfz (j:=k) hq2
  have hsl3:=hlt hq2
  clear hO g2 hq2 hn2 HWo HQ1
  go_wp2
  refine bodyPost_ret (v:=.tuple #[.agg #[.int .i64 t,.int .i64 r,.slice a2 n2 k2,.int .i64 W],.int .i64 0]) (by simp[results,results137,go_sem, *]) rfl ⟨_,rfl,Z7 HN2.out (Nat.le_succ _) _ _ _ _,(Y4 HO.out (by omega) _ _ _ _).rd,HO.out.cap,Z2.newV HO.out (by omega)⟩
structure Hm where
 h:Hq
 a:Option Addr
 c:Nat
def hmV(x:Hm):Value:=.slice x.a x.h.q.length x.c
def Zm(x:Hm):List Value:=[.int .i64 x.h.t,.int .i64 x.h.r,.slice x.a x.h.q.length x.c,.int .i64 x.h.W]
theorem Y6:Z29 prog 40 63 4 48 Zm where
 und:=underlying40
 inf:=by
  have h:(prog.info? 63).map (fun i=>(i.zero,i.size,i.bytes))=some (some (.agg #[.int .i64 0,.int .i64 0,.slice none 0 0,.int .i64 0]),4,48):=by kernel_rfl
  cases e:prog.info? 63 with
  | none=>rw[e] at h;cases h
  | some i =>
   rw[e] at h
   simp only[Option.map_some,Option.some.injEq,Prod.mk.injEq] at h
   exact⟨i,_,rfl,h.1,h.2.1,h.2.2,rfl⟩
 pos:=by decide
 byt:=by decide
 len:=fun _=>rfl
 one:=fun a u hu=>by
  simp only[Zm,List.mem_cons,List.not_mem_nil,or_false] at hu
  rcases hu with rfl | rfl | rfl | rfl<;>rfl
abbrev U7(w:World)(g0:Nat)(v:Value)(l:List Hm):Prop:=Yz 63 4 Zm w g0 v l
structure Vh(w:World)(o:Nat)(u:Option Nat)(x:Hm):Prop where
 rd:Zl w (hmV x) x.h.q
 cap:x.h.q.length≤x.c
 len:x.h.q.length≤1000
 new:newV (o+1) (hmV x)
 off:∀b,x.a=some b→x.h.q≠[]→u≠some b.block
structure Rb(w:World)(o po:Nat)(most:Int)(v:Value)(l:List Hm):Prop where
 c0:w.cell? ⟨o,0,none⟩=some (.int .i64 most)
 c1:w.cell? ⟨o,1,none⟩=some (.pointer (some ⟨po,0,none⟩))
 c2:w.cell? ⟨o,2,none⟩=some v
 fz:∀j,w.frozen? ⟨o,j,none⟩=false
 ol:o<w.heap.size
 pl:po<o
 own:U7 w (o+1) v l
 ok:∀x∈l,Vh w o v.ownBlock x
 len:l.length≤64
theorem Vh.nw{w w':World}{o:Nat}{u:Option Nat}{x:Hm}(h:Vh w o u x)(g:Nw w w'):Vh w' o u x:=⟨h.rd.nw g,h.cap,h.len,h.new,h.off⟩
theorem Rb.nw{w w':World}{o po:Nat}{most:Int}{v:Value}{l:List Hm}(h:Rb w o po most v l)(g:Nw w w'):Rb w' o po most v l :=
 ⟨(g.cell h.ol).trans h.c0,(g.cell h.ol).trans h.c1,(g.cell h.ol).trans h.c2,fun j=>(g.froz h.ol).trans (h.fz j),lL0 h.ol g.sz,h.pl,onw h.own g,fun x hx=>(h.ok x hx).nw g,h.len⟩
theorem Rb.form{w:World}{o po:Nat}{most:Int}{v:Value}{l:List Hm}(h:Rb w o po most v l):∃a c,v=.slice a l.length c∧((a=none∧l=[]∧c=0)∨∃g,a=some ⟨g,0,none⟩∧o<g∧g<w.heap.size):=by
 rcases Y7 h.own with⟨rfl,e⟩ | ⟨g,cap,rfl⟩
 ·exact⟨none,0,by rw[e],.inl ⟨rfl,List.length_eq_zero_iff.1 e,rfl⟩⟩
 ·exact⟨_,cap,rfl,.inr ⟨g,rfl,Vr h.own rfl,olt h.own rfl⟩⟩
theorem Rb.at_{w:World}{o po:Nat}{most:Int}{g cap:Nat}{l:List Hm}(h:Rb w o po most (.slice (some ⟨g,0,none⟩) l.length cap) l)(k:Nat)(hk:k<l.length) :
  w.cell? ⟨g,k*4,none⟩=some (.int .i64 l[k].h.t)∧w.cell? ⟨g,k*4+1,none⟩=some (.int .i64 l[k].h.r)∧w.cell? ⟨g,k*4+2,none⟩=some (.slice l[k].a l[k].h.q.length l[k].c)∧w.cell? ⟨g,k*4+3,none⟩=some (.int .i64 l[k].h.W):=by
 obtain⟨a,c,e,he | ⟨b,o',e2,hc⟩⟩:=Yz.rd Y6.len h.own
 ·rw[he.1] at hk;simp at hk
 ·subst e2
  cases e
  have:=hc.cell k hk
  simp only[Nat.zero_add] at this
  exact⟨this 0 _ rfl,this 1 _ rfl,this 2 _ rfl,this 3 _ rfl⟩
theorem Z44(q:List Rq)(id:Int):∃a b c d e,Z38 q id=.tuple #[.agg #[.int .i64 a,.int .i64 b,.int .i64 c,.int .i64 d,.int .i64 e],.bool (Yr q id).isSome]∧(Yr q id).getD ⟨0,0,0,0,0⟩=⟨a,b,c,d,e⟩:=by
 unfold Z38
 cases Yr q id with
 | none=>exact⟨0,0,0,0,0,rfl,rfl⟩
 | some r=>obtain⟨a,b,c,d,e⟩:=r;exact⟨a,b,c,d,e,rfl,rfl⟩
theorem Zxl{w:World}{o po:Nat}{most:Int}{v:Value}{l:List Hm}(h:Rb w o po most v l) :
  Calls prog 78 #[.pointer (some ⟨o,0,none⟩)] w fun e w'=>e=.returned (.int .i64 l.length)∧w=w':=by
 have c2:=h.c2
 obtain⟨a,c,rfl,_⟩:=h.form
 clear h
 go_enter func78,ntmps78
 go_wp2
 go_ret
 exact⟨rfl,rfl⟩
def Zvh(l:List Hm)(id i:Int):Prop:=(i = -1∧∀x∈l,Yr x.h.q id=none)∨∃k:Nat,i=k∧∃hk:k<l.length,(Yr l[k].h.q id).isSome=true∧∀j (hj:j<l.length),j<k→Yr l[j].h.q id=none
theorem Z9n{w:World}{o po:Nat}{most:Int}{v:Value}{l:List Hm}(h:Rb w o po most v l)(id:Int) :
  Calls prog 119 #[.pointer (some ⟨o,0,none⟩),.int .i64 id] w fun e w'=>∃i,e=.returned (.int .i64 i)∧Zvh l id i∧Nw w w':=by
 obtain⟨a,c,rfl,hf⟩:=h.form
 have HF:=hD0 hf
 have H:=hD0 h
 clear h hf
 go_enter func119,ntmps119
 go_wp2
 go_loopw [5] (fun i wr=>∃k:Nat,k≤l.length∧i=.int .i64 k∧(∀j (hj:j<l.length),j<k→Yr l[j].h.q id=none)∧Nw w wr) (fun i _=>l.length-(intOf i).toNat)
 case atStart=>exact⟨0,Nat.zero_le _,rfl,fun j _ hj=>by omega,Nw.refl _⟩
 case round =>
  obtain⟨k,hk,rfl,hn,hG⟩:=hrel
  have HR:=hD0 (H.out.nw hG)
  have c2:=HR.out.c2
  have HG:=hD0 hG
  have HN:=hD0 hn
  clear hG hn
  have hll:=H.out.len
  by_cases hlt:k<l.length
  ·rcases HF.out with⟨_,e,_⟩ | ⟨g,rfl,_,_⟩
   ·rw[e] at hlt;simp at hlt
   obtain⟨e0,e1,e2,e3⟩:=HR.out.at_ k hlt
   have hx:=HR.out.ok _ (gM0 hlt)
   have hki:(k:Int)<(l.length:Int):=by omega
   have HX:=hD0 (fun w1 (g:Nw wr w1)=>Zfw l[k].h.t l[k].h.r l[k].h.W id (hmV l[k]) l[k].h.q w1 hx.len (hx.rd.nw g))
   unfold Yf hmV at HX
   obtain⟨b0,b1,b2,b3,b4,hv,_⟩:=Z44 l[k].h.q id
   rw[hv] at HX
   obtain⟨y,hy⟩:∃y,(Yr l[k].h.q id).isSome=y:=⟨_,rfl⟩
   rw[hy] at HX
   have HY:=hD0 hy
   clear hy hv hx
   generalize l[k].h.t=t at *
   generalize l[k].h.r=r at *
   generalize l[k].h.W=W at *
   generalize l[k].a=qa at *
   generalize l[k].c=qc at *
   obtain⟨n,hn⟩:∃n,l[k].h.q.length=n:=⟨_,rfl⟩
   rw[hn] at e2 HX
   clear hn
   cases y
   ·go_wp2_with (go_at_call 120;refine(HX.out _ (Nw.refl _)).mono ?_;rintro e w' ⟨rfl,g1⟩)
    go_roundw
    case rel =>
     refine⟨k+1,by omega,by go_num,fun j hj hjk=>?_,HG.out.trans (g1.alloc _)⟩
     rcases Nat.lt_succ_iff_lt_or_eq.1 hjk with q | rfl
     ·exact HN.out j hj q
     ·have:=HY.out
      cases e:Yr l[j].h.q id with
      | none=>rfl
      | some r=>rw[e] at this;cases this
    case measure=>simp[intOf];omega
   ·go_wp2_with (go_at_call 120;refine(HX.out _ (Nw.refl _)).mono ?_;rintro e w' ⟨rfl,g1⟩)
    go_ret
    exact⟨_,rfl,.inr ⟨k,rfl,hlt,HY.out,HN.out⟩,HG.out.trans (g1.alloc _)⟩
  ·obtain rfl:k=l.length:=by omega
   go_wp2
   go_ret
   refine⟨_,rfl,.inl ⟨rfl,fun x hx=>?_⟩,HG.out⟩
   obtain⟨j,hj,rfl⟩:=List.getElem_of_mem hx
   exact HN.out j hj hj
section
open Go.ChangeShapes Go.WideShapes Go.ChangeAt Go.RowKit
def nm(t r:Int):Value:=.agg #[.int .i64 t,.int .i64 r]
theorem Vj(w:World) :
  Calls prog 202 #[] w fun e w'=>e=.returned (.agg #[.int .i64 (-1),.int .i64 (-1)])∧Nw w w':=by
 go_enter func202,ntmps202
 go_wp2
 exact bodyPost_ret (v:=.agg #[.int .i64 (-1),.int .i64 (-1)]) (by simp[results,results202,go_sem]) rfl ⟨rfl,(Nw.refl _).alloc _⟩
theorem Vl(i:Int)(w:World)(h0:0≤i)(h1:i<100) :
  Calls prog 203 #[.int .i64 i] w fun e w'=>e=.returned (.bool true)∧w=w':=by
 go_enter func203,ntmps203
 go_wp2
 go_ret
 exact⟨rfl,rfl⟩
theorem U3(i:Int)(w:World)(h:i<0∨100≤i) :
  Calls prog 203 #[.int .i64 i] w fun e w'=>e=.returned (.bool false)∧w=w':=by
 rcases h with h | h
 ·go_enter func203,ntmps203
  go_wp2
  go_ret
  exact⟨rfl,rfl⟩
 ·have h0:0≤i:=by omega
  have hd:decide (i<100)=false:=by simp;omega
  go_enter func203,ntmps203
  go_wp2
  go_ret
  exact⟨rfl,rfl⟩
theorem Yd(w:World)(t r:Int)(ty:TypeId) :
  (w.alloc (.cells #[.int .i64 t,.int .i64 r] ty)).drew.cell? ⟨w.heap.size,0,none⟩=some (.int .i64 t)∧(w.alloc (.cells #[.int .i64 t,.int .i64 r] ty)).drew.cell? ⟨w.heap.size,1,none⟩=some (.int .i64 r)∧(w.heap.size<(w.alloc (.cells #[.int .i64 t,.int .i64 r] ty)).drew.heap.size∧Nw w (w.alloc (.cells #[.int .i64 t,.int .i64 r] ty)).drew) :=
 ⟨cell_of_row _ _ 0 _ ty (0,0) (heap_alloc_last w _),cell_of_row _ _ 1 _ ty (0,0) (heap_alloc_last w _),by show _<(w.heap.push _).size;simp,((Nw.refl w).alloc _).drewN 1⟩
theorem Zn{w a b:World}{t r:Int}(g:Nw a b)
  (h:a.cell? ⟨w.heap.size,0,none⟩=some (.int .i64 t)∧a.cell? ⟨w.heap.size,1,none⟩=some (.int .i64 r)∧(w.heap.size<a.heap.size∧Nw w a)) :
  b.cell? ⟨w.heap.size,0,none⟩=some (.int .i64 t)∧b.cell? ⟨w.heap.size,1,none⟩=some (.int .i64 r)∧(w.heap.size<b.heap.size∧Nw w b) :=
 ⟨(g.cell h.2.2.1).trans h.1,(g.cell h.2.2.1).trans h.2.1,lL0 h.2.2.1 g.sz,h.2.2.2.trans g⟩
theorem Zd4(w:World) :
  Calls prog 161 #[.agg #[.int .i64 (-1),.int .i64 (-1)]] w fun e w'=>e=.returned (.int .i64 0)∧Nw w w':=by
 go_enter func161,ntmps161
 go_wp2
 go_region_held3 (fun w'=>w'.cell? ⟨w.heap.size,0,none⟩=some (.int .i64 (-1))∧w'.cell? ⟨w.heap.size,1,none⟩=some (.int .i64 (-1))∧(w.heap.size<w'.heap.size∧Nw w w')) (first | exact Yd _ _ _ _ | exact Zn (by assumption) (by assumption))
  (first | (go_at_call 202;refine(Vj _).mono ?_;rintro e w' ⟨rfl,hg⟩))
 all_goals
  rename_i hS
  obtain⟨hc0,hc1,_,hG⟩:=hS
  clear hg
  go_wp2_with (first | (go_at_call 203;refine(Vl _ _ (by omega) (by omega)).mono ?_;rintro e w' ⟨rfl,rfl⟩) | (go_at_call 203;refine(U3 _ _ (by omega)).mono ?_;rintro e w' ⟨rfl,rfl⟩))
  go_ret
  exact⟨rfl,hG⟩
theorem Z9e(t:Int)(w:World)(h0:0≤t)(h1:t<100) :
  Calls prog 161 #[.agg #[.int .i64 t,.int .i64 (-1)]] w fun e w'=>e=.returned (.int .i64 1)∧Nw w w':=by
 have e0:(t==-1)=false:=by simp;omega
 go_enter func161,ntmps161
 go_wp2
 go_region_held3 (fun w'=>w'.cell? ⟨w.heap.size,0,none⟩=some (.int .i64 (t))∧w'.cell? ⟨w.heap.size,1,none⟩=some (.int .i64 (-1))∧(w.heap.size<w'.heap.size∧Nw w w')) (first | exact Yd _ _ _ _ | exact Zn (by assumption) (by assumption))
  (first | (go_at_call 202;refine(Vj _).mono ?_;rintro e w' ⟨rfl,hg⟩))
 all_goals
  rename_i hS
  obtain⟨hc0,hc1,_,hG⟩:=hS
  clear hg
  go_wp2_with (first | (go_at_call 203;refine(Vl _ _ (by omega) (by omega)).mono ?_;rintro e w' ⟨rfl,rfl⟩) | (go_at_call 203;refine(U3 _ _ (by omega)).mono ?_;rintro e w' ⟨rfl,rfl⟩))
  go_ret
  exact⟨rfl,hG⟩
theorem Z9d(t r:Int)(w:World)(h0:0≤t)(h1:t<100)(h2:0≤r)(h3:r<100) :
  Calls prog 161 #[.agg #[.int .i64 t,.int .i64 r]] w fun e w'=>e=.returned (.int .i64 2)∧Nw w w':=by
 have e0:(t==-1)=false:=by simp;omega
 have e1:(r==-1)=false:=by simp;omega
 go_enter func161,ntmps161
 go_wp2
 go_region_held3 (fun w'=>w'.cell? ⟨w.heap.size,0,none⟩=some (.int .i64 (t))∧w'.cell? ⟨w.heap.size,1,none⟩=some (.int .i64 (r))∧(w.heap.size<w'.heap.size∧Nw w w')) (first | exact Yd _ _ _ _ | exact Zn (by assumption) (by assumption))
  (first | (go_at_call 202;refine(Vj _).mono ?_;rintro e w' ⟨rfl,hg⟩))
 all_goals
  rename_i hS
  obtain⟨hc0,hc1,_,hG⟩:=hS
  clear hg
  go_wp2_with (first | (go_at_call 203;refine(Vl _ _ (by omega) (by omega)).mono ?_;rintro e w' ⟨rfl,rfl⟩) | (go_at_call 203;refine(U3 _ _ (by omega)).mono ?_;rintro e w' ⟨rfl,rfl⟩))
  go_ret
  exact⟨rfl,hG⟩
theorem Zfm(r:Int)(w:World)(h:r < -1∨-1<r) :
  Calls prog 161 #[.agg #[.int .i64 (-1),.int .i64 r]] w fun e w'=>e=.returned (.int .i64 (-1))∧Nw w w':=by
 have e1:(r==-1)=false:=by simp;omega
 go_enter func161,ntmps161
 go_wp2
 go_region_held3 (fun w'=>w'.cell? ⟨w.heap.size,0,none⟩=some (.int .i64 (-1))∧w'.cell? ⟨w.heap.size,1,none⟩=some (.int .i64 (r))∧(w.heap.size<w'.heap.size∧Nw w w')) (first | exact Yd _ _ _ _ | exact Zn (by assumption) (by assumption))
  (first | (go_at_call 202;refine(Vj _).mono ?_;rintro e w' ⟨rfl,hg⟩))
 all_goals
  rename_i hS
  obtain⟨hc0,hc1,_,hG⟩:=hS
  clear hg
  go_wp2_with (first | (go_at_call 203;refine(Vl _ _ (by omega) (by omega)).mono ?_;rintro e w' ⟨rfl,rfl⟩) | (go_at_call 203;refine(U3 _ _ (by omega)).mono ?_;rintro e w' ⟨rfl,rfl⟩))
  go_ret
  exact⟨rfl,hG⟩
theorem Zfn(t r:Int)(w:World)(h:t < -1∨100≤t) :
  Calls prog 161 #[.agg #[.int .i64 t,.int .i64 r]] w fun e w'=>e=.returned (.int .i64 (-1))∧Nw w w':=by
 have e0:(t==-1)=false:=by simp;omega
 go_enter func161,ntmps161
 go_wp2
 go_region_held3 (fun w'=>w'.cell? ⟨w.heap.size,0,none⟩=some (.int .i64 (t))∧w'.cell? ⟨w.heap.size,1,none⟩=some (.int .i64 (r))∧(w.heap.size<w'.heap.size∧Nw w w')) (first | exact Yd _ _ _ _ | exact Zn (by assumption) (by assumption))
  (first | (go_at_call 202;refine(Vj _).mono ?_;rintro e w' ⟨rfl,hg⟩))
 all_goals
  rename_i hS
  obtain⟨hc0,hc1,_,hG⟩:=hS
  clear hg
  go_wp2_with (first | (go_at_call 203;refine(Vl _ _ (by omega) (by omega)).mono ?_;rintro e w' ⟨rfl,rfl⟩) | (go_at_call 203;refine(U3 _ _ (by omega)).mono ?_;rintro e w' ⟨rfl,rfl⟩))
  go_ret
  exact⟨rfl,hG⟩
theorem Zfo(t r:Int)(w:World)(h0:0≤t)(h1:t<100)(h:r < -1∨100≤r) :
  Calls prog 161 #[.agg #[.int .i64 t,.int .i64 r]] w fun e w'=>e=.returned (.int .i64 (-1))∧Nw w w':=by
 have e0:(t==-1)=false:=by simp;omega
 have e1:(r==-1)=false:=by simp;omega
 go_enter func161,ntmps161
 go_wp2
 go_region_held3 (fun w'=>w'.cell? ⟨w.heap.size,0,none⟩=some (.int .i64 (t))∧w'.cell? ⟨w.heap.size,1,none⟩=some (.int .i64 (r))∧(w.heap.size<w'.heap.size∧Nw w w')) (first | exact Yd _ _ _ _ | exact Zn (by assumption) (by assumption))
  (first | (go_at_call 202;refine(Vj _).mono ?_;rintro e w' ⟨rfl,hg⟩))
 all_goals
  rename_i hS
  obtain⟨hc0,hc1,_,hG⟩:=hS
  clear hg
  go_wp2_with (first | (go_at_call 203;refine(Vl _ _ (by omega) (by omega)).mono ?_;rintro e w' ⟨rfl,rfl⟩) | (go_at_call 203;refine(U3 _ _ (by omega)).mono ?_;rintro e w' ⟨rfl,rfl⟩))
  go_ret
  exact⟨rfl,hG⟩
end
section
open Go.ChangeShapes Go.WideShapes Go.ChangeAt Go.RowKit
def Uk(t r:Int):Int:=if t = -1∧r = -1 then 0 else if 0≤t∧t<100 then(if r = -1 then 1 else if 0≤r∧r<100 then 2 else -1)else -1
theorem Zwy:Uk (-1) (-1)=0:=by decide
theorem Z4g(t:Int)(h0:0≤t)(h1:t<100):Uk t (-1)=1:=by unfold Uk;split<;>omega
theorem Z4f(t r:Int)(h0:0≤t)(h1:t<100)(h2:0≤r)(h3:r<100):Uk t r=2:=by unfold Uk;(repeat' split);all_goals omega
theorem Zhu(t r:Int):(t = -1∧r = -1)∨(0≤t∧t<100∧r = -1)∨(0≤t∧t<100∧0≤r∧r<100)∨Uk t r = -1:=by
 by_cases h1:t = -1∧r = -1
 ·exact .inl h1
 ·by_cases h2:0≤t∧t<100
  ·by_cases h3:r = -1
   ·exact .inr (.inl ⟨h2.1,h2.2,h3⟩)
   ·by_cases h4:0≤r∧r<100
    ·exact .inr (.inr (.inl ⟨h2.1,h2.2,h4⟩))
    ·refine .inr (.inr (.inr ?_));unfold Uk;rw[if_neg h1,if_pos h2,if_neg h3,if_neg h4]
  ·refine .inr (.inr (.inr ?_));unfold Uk;rw[if_neg h1,if_neg h2]
theorem Nw.rules{a b:World}(h:Nw a b):(∀k o,k<a.heap.size→b.cell? ⟨k,o,none⟩=a.cell? ⟨k,o,none⟩)∧(∀k o,k<a.heap.size→b.frozen? ⟨k,o,none⟩=a.frozen? ⟨k,o,none⟩) :=
 ⟨fun k o hk=>Below.cell (p:=⟨k,o,none⟩) h hk,fun k o hk=>Below.frozen (p:=⟨k,o,none⟩) h hk⟩
theorem Z9c(t r:Int)(w:World) :
  Calls prog 161 #[.agg #[.int .i64 t,.int .i64 r]] w fun e w'=>e=.returned (.int .i64 (Uk t r))∧Nw w w':=by
 by_cases h1:t = -1
 ·subst h1
  by_cases h2:r = -1
  ·subst h2;exact Zd4 w
  ·have e:Uk (-1) r = -1:=by unfold Uk;(repeat' split);all_goals omega
   rw[e];exact Zfm r w (by omega)
 ·by_cases h3:0≤t∧t<100
  ·obtain⟨h3,h4⟩:=h3
   by_cases h2:r = -1
   ·subst h2;rw[Z4g t h3 h4];exact Z9e t w h3 h4
   ·by_cases h5:0≤r∧r<100
    ·rw[Z4f t r h3 h4 h5.1 h5.2];exact Z9d t r w h3 h4 h5.1 h5.2
    ·have e:Uk t r = -1:=by unfold Uk;(repeat' split);all_goals omega
     rw[e];exact Zfo t r w h3 h4 (by omega)
  ·have e:Uk t r = -1:=by unfold Uk;(repeat' split);all_goals omega
   rw[e];exact Zfn t r w (by omega)
theorem Z9f(t r L:Int)(w:World)(h:Uk t r=L) :
  Calls prog 161 #[.agg #[.int .i64 t,.int .i64 r]] w fun e w'=>e=.returned (.int .i64 L)∧Nw w w':=by
 subst h;exact Z9c t r w
theorem Zlx(t r:Int)(w:World)(h:Uk t r≠-1) :
  Calls prog 112 #[.agg #[.int .i64 t,.int .i64 r]] w fun e w'=>e=.returned (.int .i64 0)∧Nw w w':=by
 have hL:(Uk t r==-1)=false:=by simpa using h
 have H:=Z9c t r
 generalize Uk t r=L at *
 have H2:=hD0 H
 clear H h
 go_enter func112,ntmps112
 go_wp2_with (go_at_call 161;refine(H2.out _).mono ?_;rintro e w' ⟨rfl,hg⟩)
 go_ret
 exact⟨rfl,((Nw.refl _).alloc _).trans hg⟩
theorem Zlw(t r:Int)(w:World)(h:Uk t r = -1) :
  Calls prog 112 #[.agg #[.int .i64 t,.int .i64 r]] w fun e w'=>e=.returned (.int .i64 2)∧Nw w w':=by
 have H2:=hD0 h
 clear h
 go_enter func112,ntmps112
 go_wp2_with (go_at_call 161;refine(Z9f _ _ _ _ H2.out).mono ?_;rintro e w' ⟨rfl,hg⟩)
 go_ret
 exact⟨rfl,((Nw.refl _).alloc _).trans hg⟩
def flat:List (Int × Int)→List Value
 | []=>[]
 | z::r=>.int .i64 z.1::.int .i64 z.2::flat r
theorem Nw.drew1{w w':World}(h:Nw w w'):Nw w w'.drew:=h.drewN 1
theorem Z78(w:World)(t r:Int)(ty:TypeId) :
  (w.alloc (.cells #[.int .i64 t,.int .i64 r] ty)).cell? ⟨w.heap.size,0,none⟩=some (.int .i64 t)∧(w.alloc (.cells #[.int .i64 t,.int .i64 r] ty)).cell? ⟨w.heap.size,1,none⟩=some (.int .i64 r)∧(w.heap.size<(w.alloc (.cells #[.int .i64 t,.int .i64 r] ty)).heap.size∧Nw w (w.alloc (.cells #[.int .i64 t,.int .i64 r] ty))) :=
 ⟨cell_of_row _ _ 0 _ ty (0,0) (heap_alloc_last w _),cell_of_row _ _ 1 _ ty (0,0) (heap_alloc_last w _),by show _<(w.heap.push _).size;simp,(Nw.refl w).alloc _⟩
end
section
open Go.ChangeShapes Go.WideShapes Go.ChangeAt Go.RowKit
def c3(a b:Int):Int:=if a<b then -1 else if b<a then 1 else 0
theorem Zuo(a b:Int)(h:a<b):c3 a b = -1:=if_pos h
theorem Zun(a b:Int)(h:b<a):c3 a b=1:=by unfold c3;rw[if_neg (by omega),if_pos h]
theorem Zum(a:Int):c3 a a=0:=by unfold c3;simp
def or2(x y:Int):Int:=if x=0 then y else x
end
section
open Go.ChangeShapes Go.WideShapes Go.ChangeAt Go.RowKit
def und(t r t' r':Int):Bool:=decide (Uk t r≠-1∧Uk t' r'≠-1∧((t' = -1∧r' = -1)∨(t'=t∧(r' = -1∨r'=r))))
end
section
open Go.ChangeShapes Go.WideShapes Go.ChangeAt Go.RowKit
theorem Y2(w:World) :
  Calls prog 133 #[] w fun e w'=>e=.returned (.agg #[.int .i64 (-1),.int .i64 (-1)])∧Nw w w':=by
 go_enter func133,ntmps133
 go_wp2
 exact bodyPost_ret (v:=.agg #[.int .i64 (-1),.int .i64 (-1)]) (by simp[results,results133,go_sem]) rfl ⟨rfl,(Nw.refl _).alloc _⟩
theorem Z61(w:World) :
  Calls prog 92 #[.agg #[.int .i64 (-1),.int .i64 (-1)]] w fun e w'=>e=.returned (.int .i64 (0))∧Nw w w':=by
 go_enter func92,ntmps92
 go_wp2
 go_region_held3 (fun w'=>w'.cell? ⟨w.heap.size,0,none⟩=some (.int .i64 (-1))∧w'.cell? ⟨w.heap.size,1,none⟩=some (.int .i64 (-1))∧(w.heap.size<w'.heap.size∧Nw w w')) (first | exact Yd _ _ _ _ | exact Zn (by assumption) (by assumption))
  (first | (go_at_call 133;refine(Y2 _).mono ?_;rintro e w' ⟨rfl,hg⟩))
 all_goals
  rename_i hS
  obtain⟨hc0,hc1,_,hG⟩:=hS
  clear hg
  go_wp2
  go_ret
  exact⟨rfl,hG⟩
theorem Z4p(t:Int)(w:World)(h0:0≤t)(h1:t<100) :
  Calls prog 92 #[.agg #[.int .i64 t,.int .i64 (-1)]] w fun e w'=>e=.returned (.int .i64 (1))∧Nw w w':=by
 have e0:(t==-1)=false:=by simp;omega
 go_enter func92,ntmps92
 go_wp2
 go_region_held3 (fun w'=>w'.cell? ⟨w.heap.size,0,none⟩=some (.int .i64 t)∧w'.cell? ⟨w.heap.size,1,none⟩=some (.int .i64 (-1))∧(w.heap.size<w'.heap.size∧Nw w w')) (first | exact Yd _ _ _ _ | exact Zn (by assumption) (by assumption))
  (first | (go_at_call 133;refine(Y2 _).mono ?_;rintro e w' ⟨rfl,hg⟩))
 all_goals
  rename_i hS
  obtain⟨hc0,hc1,_,hG⟩:=hS
  clear hg
  go_wp2
  go_ret
  exact⟨rfl,hG⟩
theorem Z4o(t r:Int)(w:World)(h0:0≤t)(h1:t<100)(h2:0≤r)(h3:r<100) :
  Calls prog 92 #[.agg #[.int .i64 t,.int .i64 r]] w fun e w'=>e=.returned (.int .i64 (2))∧Nw w w':=by
 have e0:(t==-1)=false:=by simp;omega
 have e1:(r==-1)=false:=by simp;omega
 have d2:decide (r < -1)=false:=by simp;omega
 go_enter func92,ntmps92
 go_wp2
 go_region_held3 (fun w'=>w'.cell? ⟨w.heap.size,0,none⟩=some (.int .i64 t)∧w'.cell? ⟨w.heap.size,1,none⟩=some (.int .i64 r)∧(w.heap.size<w'.heap.size∧Nw w w')) (first | exact Yd _ _ _ _ | exact Zn (by assumption) (by assumption))
  (first | (go_at_call 133;refine(Y2 _).mono ?_;rintro e w' ⟨rfl,hg⟩))
 all_goals
  rename_i hS
  obtain⟨hc0,hc1,_,hG⟩:=hS
  clear hg
  go_wp2
  go_ret
  exact⟨rfl,hG⟩
theorem Zdl(r:Int)(w:World)(h:r < -1∨-1<r) :
  Calls prog 92 #[.agg #[.int .i64 (-1),.int .i64 r]] w fun e w'=>e=.returned (.int .i64 (-1))∧Nw w w':=by
 have e1:(r==-1)=false:=by simp;omega
 go_enter func92,ntmps92
 go_wp2
 go_region_held3 (fun w'=>w'.cell? ⟨w.heap.size,0,none⟩=some (.int .i64 (-1))∧w'.cell? ⟨w.heap.size,1,none⟩=some (.int .i64 r)∧(w.heap.size<w'.heap.size∧Nw w w')) (first | exact Yd _ _ _ _ | exact Zn (by assumption) (by assumption))
  (first | (go_at_call 133;refine(Y2 _).mono ?_;rintro e w' ⟨rfl,hg⟩))
 all_goals
  rename_i hS
  obtain⟨hc0,hc1,_,hG⟩:=hS
  clear hg
  go_wp2
  go_ret
  exact⟨rfl,hG⟩
theorem Zdm(t r:Int)(w:World)(h:t < -1) :
  Calls prog 92 #[.agg #[.int .i64 t,.int .i64 r]] w fun e w'=>e=.returned (.int .i64 (-1))∧Nw w w':=by
 have e0:(t==-1)=false:=by simp;omega
 have d0:decide (t<0)=true:=by simp;omega
 go_enter func92,ntmps92
 go_wp2
 go_region_held3 (fun w'=>w'.cell? ⟨w.heap.size,0,none⟩=some (.int .i64 t)∧w'.cell? ⟨w.heap.size,1,none⟩=some (.int .i64 r)∧(w.heap.size<w'.heap.size∧Nw w w')) (first | exact Yd _ _ _ _ | exact Zn (by assumption) (by assumption))
  (first | (go_at_call 133;refine(Y2 _).mono ?_;rintro e w' ⟨rfl,hg⟩))
 all_goals
  rename_i hS
  obtain⟨hc0,hc1,_,hG⟩:=hS
  clear hg
  go_wp2
  go_ret
  exact⟨rfl,hG⟩
theorem Zdn(t r:Int)(w:World)(h:100≤t) :
  Calls prog 92 #[.agg #[.int .i64 t,.int .i64 r]] w fun e w'=>e=.returned (.int .i64 (-1))∧Nw w w':=by
 have e0:(t==-1)=false:=by simp;omega
 have h0:0≤t:=by omega
 have d1:decide (t<100)=false:=by simp;omega
 go_enter func92,ntmps92
 go_wp2
 go_region_held3 (fun w'=>w'.cell? ⟨w.heap.size,0,none⟩=some (.int .i64 t)∧w'.cell? ⟨w.heap.size,1,none⟩=some (.int .i64 r)∧(w.heap.size<w'.heap.size∧Nw w w')) (first | exact Yd _ _ _ _ | exact Zn (by assumption) (by assumption))
  (first | (go_at_call 133;refine(Y2 _).mono ?_;rintro e w' ⟨rfl,hg⟩))
 all_goals
  rename_i hS
  obtain⟨hc0,hc1,_,hG⟩:=hS
  clear hg
  go_wp2
  go_ret
  exact⟨rfl,hG⟩
theorem Zdo(t r:Int)(w:World)(h0:0≤t)(h1:t<100)(h:r < -1) :
  Calls prog 92 #[.agg #[.int .i64 t,.int .i64 r]] w fun e w'=>e=.returned (.int .i64 (-1))∧Nw w w':=by
 have e0:(t==-1)=false:=by simp;omega
 have e1:(r==-1)=false:=by simp;omega
 have d2:decide (r < -1)=true:=by simp;omega
 go_enter func92,ntmps92
 go_wp2
 go_region_held3 (fun w'=>w'.cell? ⟨w.heap.size,0,none⟩=some (.int .i64 t)∧w'.cell? ⟨w.heap.size,1,none⟩=some (.int .i64 r)∧(w.heap.size<w'.heap.size∧Nw w w')) (first | exact Yd _ _ _ _ | exact Zn (by assumption) (by assumption))
  (first | (go_at_call 133;refine(Y2 _).mono ?_;rintro e w' ⟨rfl,hg⟩))
 all_goals
  rename_i hS
  obtain⟨hc0,hc1,_,hG⟩:=hS
  clear hg
  go_wp2
  go_ret
  exact⟨rfl,hG⟩
theorem Zdp(t r:Int)(w:World)(h0:0≤t)(h1:t<100)(h:100≤r) :
  Calls prog 92 #[.agg #[.int .i64 t,.int .i64 r]] w fun e w'=>e=.returned (.int .i64 (-1))∧Nw w w':=by
 have e0:(t==-1)=false:=by simp;omega
 have e1:(r==-1)=false:=by simp;omega
 have d2:decide (r < -1)=false:=by simp;omega
 have d3:decide (r<100)=false:=by simp;omega
 go_enter func92,ntmps92
 go_wp2
 go_region_held3 (fun w'=>w'.cell? ⟨w.heap.size,0,none⟩=some (.int .i64 t)∧w'.cell? ⟨w.heap.size,1,none⟩=some (.int .i64 r)∧(w.heap.size<w'.heap.size∧Nw w w')) (first | exact Yd _ _ _ _ | exact Zn (by assumption) (by assumption))
  (first | (go_at_call 133;refine(Y2 _).mono ?_;rintro e w' ⟨rfl,hg⟩))
 all_goals
  rename_i hS
  obtain⟨hc0,hc1,_,hG⟩:=hS
  clear hg
  go_wp2
  go_ret
  exact⟨rfl,hG⟩
theorem Z4n(t r:Int)(w:World) :
  Calls prog 92 #[.agg #[.int .i64 t,.int .i64 r]] w fun e w'=>e=.returned (.int .i64 (Uk t r))∧Nw w w':=by
 by_cases h1:t = -1
 ·subst h1
  by_cases h2:r = -1
  ·subst h2;exact Z61 w
  ·have e:Uk (-1) r = -1:=by unfold Uk;rw[if_neg (by omega),if_neg (by omega)]
   rw[e];exact Zdl r w (by omega)
 ·by_cases h3:0≤t∧t<100
  ·obtain⟨h3,h4⟩:=h3
   by_cases h2:r = -1
   ·subst h2;rw[Z4g t h3 h4];exact Z4p t w h3 h4
   ·by_cases h5:0≤r∧r<100
    ·rw[Z4f t r h3 h4 h5.1 h5.2];exact Z4o t r w h3 h4 h5.1 h5.2
    ·have e:Uk t r = -1:=by unfold Uk;rw[if_neg (by omega),if_pos ⟨h3,h4⟩,if_neg h2,if_neg h5]
     rw[e]
     by_cases h6:r < -1
     ·exact Zdo t r w h3 h4 h6
     ·exact Zdp t r w h3 h4 (by omega)
  ·have e:Uk t r = -1:=by unfold Uk;rw[if_neg (by omega),if_neg h3]
   rw[e]
   by_cases h6:t < -1
   ·exact Zdm t r w h6
   ·exact Zdn t r w (by omega)
theorem Z4q(t r L:Int)(w:World)(h:Uk t r=L) :
  Calls prog 92 #[.agg #[.int .i64 t,.int .i64 r]] w fun e w'=>e=.returned (.int .i64 L)∧Nw w w':=by
 subst h;exact Z4n t r w
theorem Zwz(t r:Int)(h:Uk t r≠-1):0≤Uk t r:=by
 rcases Zhu t r with⟨rfl,rfl⟩ | ⟨h0,h1,rfl⟩ | ⟨h0,h1,h2,h3⟩ | h0
 ·rw[Zwy];decide
 ·rw[Z4g t h0 h1];decide
 ·rw[Z4f t r h0 h1 h2 h3];decide
 ·exact absurd h0 h
theorem Z60(t r:Int)(w:World)(h:Uk t r≠-1) :
  Calls prog 37 #[.agg #[.int .i64 t,.int .i64 r]] w fun e w'=>e=.returned (.int .i64 0)∧Nw w w':=by
 have hL:=Zwz t r h
 have H:=Z4n t r
 generalize Uk t r=L at *
 have H2:=hD0 H
 clear H h
 go_enter func37,ntmps37
 go_wp2_with (go_at_call 92;refine(H2.out _).mono ?_;rintro e w' ⟨rfl,hg⟩)
 go_ret
 exact⟨rfl,((Nw.refl _).alloc _).trans hg⟩
theorem Zdj(t r:Int)(w:World)(h:Uk t r = -1) :
  Calls prog 37 #[.agg #[.int .i64 t,.int .i64 r]] w fun e w'=>e=.returned (.int .i64 2)∧Nw w w':=by
 have H2:=hD0 h
 clear h
 go_enter func37,ntmps37
 go_wp2_with (go_at_call 92;refine(Z4q _ _ _ _ H2.out).mono ?_;rintro e w' ⟨rfl,hg⟩)
 go_ret
 exact⟨rfl,((Nw.refl _).alloc _).trans hg⟩
theorem Zg6(t r t' r':Int)(w:World)(h:t<t') :
  Calls prog 32 #[.agg #[.int .i64 t,.int .i64 r],.agg #[.int .i64 t',.int .i64 r']] w fun e w'=>e=.returned (.int .i64 (-1))∧Nw w w':=by
 have d0:decide (t<t')=true:=by simp<;>omega
 go_enter func32,ntmps32
 go_wp2
 go_ret
 exact⟨rfl,((Nw.refl _).alloc _).alloc _⟩
theorem Zg7(t r r':Int)(w:World)(h:r<r') :
  Calls prog 32 #[.agg #[.int .i64 t,.int .i64 r],.agg #[.int .i64 t,.int .i64 r']] w fun e w'=>e=.returned (.int .i64 (-1))∧Nw w w':=by
 have d1:decide (r<r')=true:=by simp<;>omega
 go_enter func32,ntmps32
 go_wp2
 go_ret
 exact⟨rfl,((Nw.refl _).alloc _).alloc _⟩
theorem Zkb(t r:Int)(w:World) :
  Calls prog 32 #[.agg #[.int .i64 t,.int .i64 r],.agg #[.int .i64 t,.int .i64 r]] w fun e w'=>e=.returned (.int .i64 (0))∧Nw w w':=by
 go_enter func32,ntmps32
 go_wp2
 go_ret
 exact⟨rfl,((Nw.refl _).alloc _).alloc _⟩
theorem Zg5(t r r':Int)(w:World)(h:r'<r) :
  Calls prog 32 #[.agg #[.int .i64 t,.int .i64 r],.agg #[.int .i64 t,.int .i64 r']] w fun e w'=>e=.returned (.int .i64 (1))∧Nw w w':=by
 have d1:decide (r<r')=false:=by simp<;>omega
 have d2:(r==r')=false:=by simp<;>omega
 go_enter func32,ntmps32
 go_wp2
 go_ret
 exact⟨rfl,((Nw.refl _).alloc _).alloc _⟩
theorem Zg4(t r t' r':Int)(w:World)(h:t'<t) :
  Calls prog 32 #[.agg #[.int .i64 t,.int .i64 r],.agg #[.int .i64 t',.int .i64 r']] w fun e w'=>e=.returned (.int .i64 (1))∧Nw w w':=by
 have d0:decide (t<t')=false:=by simp<;>omega
 have d2:(t==t')=false:=by simp<;>omega
 go_enter func32,ntmps32
 go_wp2
 go_ret
 exact⟨rfl,((Nw.refl _).alloc _).alloc _⟩
theorem Z2s(t r t' r':Int)(w:World) :
  Calls prog 32 #[.agg #[.int .i64 t,.int .i64 r],.agg #[.int .i64 t',.int .i64 r']] w fun e w'=>e=.returned ((.int .i64 (or2 (c3 t t') (c3 r r'))))∧Nw w w':=by
 rcases Int.lt_trichotomy t t' with h | h | h
 ·rw[Zuo t t' h];exact Zg6 t r t' r' w h
 ·subst h
  rw[Zum]
  rcases Int.lt_trichotomy r r' with h | h | h
  ·rw[Zuo r r' h];exact Zg7 t r r' w h
  ·subst h;rw[Zum];exact Zkb t r w
  ·rw[Zun r r' h];exact Zg5 t r r' w h
 ·rw[Zun t t' h];exact Zg4 t r t' r' w h
end
theorem Zh6(t r t' r':Int):(or2 (c3 t t') (c3 r r')<0↔Vq (t,r) (t',r'))∧(or2 (c3 t t') (c3 r r')=0↔(t,r)=(t',r')):=by
 unfold Vq
 simp only[Prod.mk.injEq]
 rcases Int.lt_trichotomy t t' with h | h | h<;>rcases Int.lt_trichotomy r r' with k | k | k<;>simp[or2,c3,h,k]<;>omega
def Zj1(l:List Hm)(nm:Int × Int)(k:Nat)(b:Bool):Prop:=k≤l.length∧(∀j (hj:j<l.length),j<k→Vq (Z9 l[j].h) nm)∧((k=l.length∧b=false)∨∃hk:k<l.length,¬Vq (Z9 l[k].h) nm∧b=decide (Z9 l[k].h=nm))
theorem Z4m{w:World}{o po:Nat}{most:Int}{v:Value}{l:List Hm}(h:Rb w o po most v l)(t r:Int) :
  Calls prog 122 #[.pointer (some ⟨o,0,none⟩),.agg #[.int .i64 t,.int .i64 r]] w fun e w'=>∃(k:Nat) (b:Bool),e=.returned (.tuple #[.int .i64 k,.bool b])∧Zj1 l (t,r) k b∧Nw w w':=by
 obtain⟨a,c,rfl,hf⟩:=h.form
 have HF:=hD0 hf
 have H:=hD0 h
 have hol:=h.ol
 clear h hf
 have hN:Nw w (w.alloc (.cells #[.int .i64 t,.int .i64 r] 34)):=(Nw.refl w).alloc _
 have hb0:=Z1 w (.cells #[.int .i64 t,.int .i64 r] 34)
 obtain⟨z,hz⟩:∃z,w.alloc (.cells #[.int .i64 t,.int .i64 r] 34)=z:=⟨_,rfl⟩
 go_enter func122,ntmps122
 go_wp2
 simp only[hz] at *
 obtain⟨p,hp⟩:∃p,w.heap.size=p:=⟨_,rfl⟩
 simp only[hp] at *
 have HZ:=hD0 (aI0 hb0 hN)
 clear hz hb0 hN
 go_loopw [6] (fun i wr=>∃k:Nat,k≤l.length∧i=.int .i64 k∧(∀j (hj:j<l.length),j<k→Vq (Z9 l[j].h) (t,r))∧Nw z wr) (fun i _=>l.length-(intOf i).toNat)
 case atStart=>exact⟨0,Nat.zero_le _,rfl,fun j _ hj=>by omega,Nw.refl _⟩
 case round =>
  obtain⟨k,hk,rfl,hn,hG⟩:=hrel
  have HR:=hD0 ((H.out.nw HZ.out.2).nw hG)
  have c2:=HR.out.c2
  have hq:=hG.at' HZ.out.1
  have n0:wr.cell? ⟨p,0,none⟩=some (.int .i64 t):=Z0 hq
  have n1:wr.cell? ⟨p,1,none⟩=some (.int .i64 r):=Z0 hq
  have HG:=hD0 (HZ.out.2.trans hG)
  have HG2:=hD0 hG
  have HN:=hD0 hn
  clear hG hn hq
  have hll:=H.out.len
  by_cases hlt:k<l.length
  ·rcases HF.out with⟨_,e,_⟩ | ⟨g,rfl,_,_⟩
   ·rw[e] at hlt;simp at hlt
   obtain⟨e0,e1,e2,e3⟩:=HR.out.at_ k hlt
   have hki:(k:Int)<(l.length:Int):=by omega
   have HC:=hD0 (Z2s l[k].h.t l[k].h.r t r)
   have HCm:=hD0 (Zh6 l[k].h.t l[k].h.r t r)
   have HP:=hD0 (show Z9 l[k].h=(l[k].h.t,l[k].h.r) from rfl)
   obtain⟨y,hy⟩:∃y,or2 (c3 l[k].h.t t) (c3 l[k].h.r r)=y:=⟨_,rfl⟩
   rw[hy] at HC HCm
   clear hy e2 e3
   generalize l[k].h.t=t0 at *
   generalize l[k].h.r=r0 at *
   go_wp2
   refine Zf (fun y=>Nw wr y) (by kernel_rfl) (by kernel_rfl) (Nw.refl _).dr ?_
   have d1:∀d:Wd (fun y=>Nw wr y),d.w.cell? _=_:=fun d=>d.h.kp c2
   have d2:∀d:Wd (fun y=>Nw wr y),d.w.cell? _=_:=fun d=>d.h.kp e0
   have d3:∀d:Wd (fun y=>Nw wr y),d.w.cell? _=_:=fun d=>d.h.kp e1
   have d4:∀d:Wd (fun y=>Nw wr y),d.w.cell? _=_:=fun d=>d.h.kp n0
   have d5:∀d:Wd (fun y=>Nw wr y),d.w.cell? _=_:=fun d=>d.h.kp n1
   have hne:Nonempty (Wd (fun y=>Nw wr y)):=⟨⟨_,Nw.refl wr⟩⟩
   repeat (first | go_big_quiet_step ((exact Zd (fun a b h g=>h.trans g) (HC.out _))) | quiet_step ((exact Zd (fun a b h g=>h.trans g) (HC.out _))))
   refine wpQuiet_nil ?_
   intro d
   have g1:=d.h
   clear d1 d2 d3 d4 d5 hne
   revert g1
   generalize d.w=w'
   intro g1
   by_cases hy:0≤y
   ·go_wp2
    refine bodyPost_ret (v:=.tuple #[.int .i64 k,.bool (y==0)]) (by simp[results,results122,go_sem, *]) rfl ⟨k,(y==0),rfl,⟨hk,HN.out,.inr ⟨hlt,?_,?_⟩⟩,HG.out.trans g1⟩
    ·rw[HP.out,←HCm.out.1];omega
    ·rw[HP.out,show(y==0)=decide (y=0) from rfl];exact decide_eq_decide.2 HCm.out.2
   ·have hy2:y<0:=by omega
    go_wp2
    go_roundw
    case rel =>
     refine⟨k+1,by omega,by go_num,fun j hj hjk=>?_,HG2.out.trans g1⟩
     rcases Nat.lt_succ_iff_lt_or_eq.1 hjk with q | rfl
     ·exact HN.out j hj q
     ·rw[HP.out,←HCm.out.1];exact hy2
    case measure=>simp[intOf];omega
  ·obtain rfl:k=l.length:=by omega
   go_wp2
   refine bodyPost_ret (v:=.tuple #[.int .i64 l.length,.bool false]) (by simp[results,results122,go_sem, *]) rfl ⟨l.length,false,rfl,⟨Nat.le_refl _,HN.out,.inl ⟨rfl,rfl⟩⟩,HG.out⟩
def Uf(hs:List Hq)(t r txn:Int):Int × Bool:=match(hdB hs t r).q.find? fun x=>x.txn==txn with
 | none=>(0,false)
 | some x=>(x.id,true)
theorem Z6b{most:Nat}{hs:List Hq}{L:List Bool}{t r txn m:Int}(he:Zz most hs L t r txn m≠0):V9 most hs L t r txn m=(hs,L)∧Uu most hs L t r txn m=(0,false,Zz most hs L t r txn m)∧(Zz most hs L t r txn m=2∨Zz most hs L t r txn m=4∨Zz most hs L t r txn m=8):=by
 refine⟨by unfold V9;rw[if_neg he],by unfold Uu;rw[if_neg he],?_⟩
 unfold Zz at he ⊢
 split
 ·exact .inl rfl
 ·split
  ·exact .inr (.inl rfl)
  ·split
   ·exact .inr (.inr rfl)
   ·rename_i h1 h2 h3
    rw[if_neg h1,if_neg h2,if_neg h3] at he
    exact absurd rfl he
abbrev Z3(l:List Hm):List Hq:=l.map Hm.h
theorem Zbi{l:List Hm}(s:Y9 (Z3 l)){i j:Nat}(hi:i<l.length)(hj:j<l.length)(h:i<j):Vq (Z9 l[i].h) (Z9 l[j].h):=by
 have:=List.pairwise_iff_getElem.1 s i j (by simpa using hi) (by simpa using hj) h
 simpa using this
theorem Zj1.get{l:List Hm}{nm:Int × Int}{k:Nat}{b:Bool}(p:Zj1 l nm k b)(s:Y9 (Z3 l)) :
  (b=false∧Z0a (Z3 l) nm=none∧(∀j (hj:j<l.length),k≤j→Vq nm (Z9 l[j].h)))∨(b=true∧∃hk:k<l.length,Z9 l[k].h=nm∧Z0a (Z3 l) nm=some l[k].h):=by
 obtain⟨hk,hb,he⟩:=p
 have key:b=false→(∀j (hj:j<l.length),k≤j→Vq nm (Z9 l[j].h))→Z0a (Z3 l) nm=none:=by
  intro _ ha
  refine List.find?_eq_none.2 fun x hx=>?_
  obtain⟨j,hj,rfl⟩:=List.getElem_of_mem hx
  have hj':j<l.length:=by simpa using hj
  simp only[List.getElem_map,decide_eq_true_eq]
  intro e
  by_cases q:j<k
  ·have:=hb j hj' q;rw[e] at this;exact Yj _ this
  ·have:=ha j hj' (by omega);rw[e] at this;exact Yj _ this
 rcases he with⟨rfl,rfl⟩ | ⟨hk2,hn,rfl⟩
 ·have ha:∀j (hj:j<l.length),l.length≤j→Vq nm (Z9 l[j].h):=fun j hj q=>by omega
  exact .inl ⟨rfl,key rfl ha,ha⟩
 ·by_cases e:Z9 l[k].h=nm
  ·refine .inr ⟨by simpa using e,hk2,e,?_⟩
   cases hg:Z0a (Z3 l) nm with
   | none=>exact absurd e (Zcq hg _ (List.mem_map.2 ⟨_,gM0 hk2,rfl⟩))
   | some h =>
    obtain⟨h1,h2⟩:=Z47 hg
    rw[Zto s h1 (List.mem_map.2 ⟨_,gM0 hk2,rfl⟩) (h2.trans e.symm)]
  ·have h0:Vq nm (Z9 l[k].h):=by
    rcases Z2y (Z9 l[k].h) nm with q | q | q
    ·exact absurd q hn
    ·exact absurd q e
    ·exact q
   have ha:∀j (hj:j<l.length),k≤j→Vq nm (Z9 l[j].h):=fun j hj q=>by
    rcases Nat.lt_or_eq_of_le q with q | rfl
    ·exact Z2o h0 (Zbi s hk2 hj q)
    ·exact h0
   exact .inl ⟨by simpa using e,key (by simpa using e) ha,ha⟩
theorem Zvh.of{l:List Hm}{id i:Int}(h:Zvh l id i):(i = -1∧Zt (Z3 l) id=none)∨∃k:Nat,i=k∧∃hk:k<l.length,Zt (Z3 l) id=some l[k].h:=by
 rcases h with⟨rfl,h⟩ | ⟨k,rfl,hk,h1,h2⟩
 ·refine .inl ⟨rfl,List.find?_eq_none.2 fun x hx=>?_⟩
  obtain⟨y,hy,rfl⟩:=List.mem_map.1 hx
  rw[h y hy];simp
 ·refine .inr ⟨k,rfl,hk,?_⟩
  unfold Zt
  rw[List.find?_eq_some_iff_getElem]
  refine⟨h1,k,by simpa using hk,by simp,fun j hj=>?_⟩
  simp only[List.getElem_map]
  rw[h2 j (by omega) hj]
  rfl
theorem Zf7{hs:List Hq}{t r txn:Int}{h:Hq}(hg:Z0a hs (t,r)=some h):Uf hs t r txn=match h.q.find? (fun x=>x.txn==txn) with
  | none=>(0,false)
  | some x=>(x.id,true):=by unfold Uf hdB;rw[hg];rfl
theorem Zf6{hs:List Hq}{t r txn:Int}(hg:Z0a hs (t,r)=none):Uf hs t r txn=(0,false):=by unfold Uf hdB;rw[hg];rfl
theorem Zjq{q:List Rq}{x:Int}(h:∀j (hj:j<q.length),q[j].txn≠x):q.find? (fun r=>r.txn==x)=none:=by
 refine List.find?_eq_none.2 fun r hr=>?_
 obtain⟨j,hj,rfl⟩:=List.getElem_of_mem hr
 simpa using h j hj
theorem Zrl{q:List Rq}{x:Int}{k:Nat}(hk:k<q.length)(e:q[k].txn=x)(h:∀j (hj:j<q.length),j<k→q[j].txn≠x):q.find? (fun r=>r.txn==x)=some q[k]:=by
 rw[List.find?_eq_some_iff_getElem]
 exact⟨by simpa using e,k,hk,rfl,fun j hj=>by simpa using h j (by omega) hj⟩
theorem Z6s{w:World}{o po:Nat}{most:Int}{v:Value}{l:List Hm}(h:Rb w o po most v l)(s:Y9 (Z3 l))(t r txn:Int) :
  Calls prog 75 #[.pointer (some ⟨o,0,none⟩),.agg #[.int .i64 t,.int .i64 r],.int .i64 txn] w fun e w'=>e=.returned (.tuple #[.int .i64 (Uf (Z3 l) t r txn).1,.bool (Uf (Z3 l) t r txn).2])∧Nw w w':=by
 obtain⟨X,hX⟩:∃X,Uf (Z3 l) t r txn=X:=⟨_,rfl⟩
 rw[hX]
 obtain⟨a,c,rfl,hf⟩:=h.form
 have HF:=hD0 hf
 have H:=hD0 h
 have HS:=hD0 s
 have HX:=hD0 hX
 have hol:=h.ol
 clear h hf s hX
 have hN:Nw w (w.alloc (.cells #[.int .i64 t,.int .i64 r] 34)):=(Nw.refl w).alloc _
 obtain⟨z,hz⟩:∃z,w.alloc (.cells #[.int .i64 t,.int .i64 r] 34)=z:=⟨_,rfl⟩
 have hb0:=Z1 w (.cells #[.int .i64 t,.int .i64 r] 34)
 rw[hz] at hN hb0
 have n0:z.cell? ⟨w.heap.size,0,none⟩=some (.int .i64 t):=Z0 hb0
 have n1:z.cell? ⟨w.heap.size,1,none⟩=some (.int .i64 r):=Z0 hb0
 have HP:=hD0 (Z4m (H.out.nw hN) t r)
 go_enter func75,ntmps75
 go_wp2_with fail
 refine HP.out.mono ?_
 rintro e w1 ⟨k,b,rfl,hp,g1⟩
 have HN1:=hD0 (hN.trans g1)
 rcases hp.get HS.out with⟨rfl,hg,_⟩ | ⟨rfl,hk,hn,hg⟩
 ·have HR:=hD0 (HX.out.symm.trans (Zf6 hg))
  clear HX HP hg hp g1 hz hN n0 n1 hb0
  go_wp2
  refine bodyPost_ret (v:=.tuple #[.int .i64 0,.bool false]) (by simp[results,results75,go_sem, *]) rfl ⟨by rw[HR.out],HN1.out⟩
 ·have HR:=hD0 (HX.out.symm.trans (Zf7 hg))
  rcases HF.out with⟨_,e,_⟩ | ⟨g,rfl,hog,hgl⟩
  ·subst e;simp at hk
  have HW:=hD0 (H.out.nw HN1.out)
  have hx:=HW.out.ok _ (gM0 hk)
  obtain⟨f0,f1,f2,f3⟩:=HW.out.at_ k hk
  have hl1:=HW.out.len
  have hki:(k:Int)<(l.length:Int):=by omega
  have HE:=hD0 (aI0 HW.out.c2 (aI0 f2 (aI0 HW.out.ol HW.out.own)))
  obtain⟨q,hq⟩:∃q,l[k].h.q=q:=⟨_,rfl⟩
  have hx1:=hx.rd
  have hx2:=hx.len
  unfold hmV at hx1
  rw[hq] at hx1 hx2 HR HE
  generalize l[k].a=qa at *
  generalize l[k].c=qc at *
  have HQ:=hD0 hx1
  clear HX HP hg hp g1 hz hN n0 n1 hb0 hx hx1 hq f0 f1 f2 f3 hn
  go_wp2
  go_loopw [10] (fun i wr=>∃j:Nat,j≤q.length∧i=.int .i64 j∧(∀m (hm:m<q.length),m<j→q[m].txn≠txn)∧Nw w1 wr) (fun i _=>q.length-(intOf i).toNat)
  case atStart=>exact⟨0,Nat.zero_le _,rfl,fun j _ hj=>by omega,Nw.refl _⟩
  case round =>
   obtain⟨j,hj,rfl,hno,hG⟩:=hrel
   have c2:=hG.kp HE.out.1
   have e2:=hG.kp HE.out.2.1
   have HG:=hD0 hG
   have HNo:=hD0 hno
   clear hno
   by_cases hlt:j<q.length
   ·have hji:(j:Int)<(q.length:Int):=by omega
    obtain⟨qa',qc',e,⟨e',_⟩ | ⟨qb,qo,e',hc⟩⟩:=HQ.out
    ·subst e';simp at hlt
    cases e
    subst e'
    have hce:=(hc.nw hG).cell j hlt
    have HA:=hD0 (fun e=>Zrl hlt e HNo.out)
    have HB:=hD0 (fun(e:q[j].txn≠txn) m (hm:m<q.length) (hmj:m<j+1)=>(Nat.lt_succ_iff_lt_or_eq.1 hmj).elim (HNo.out m hm) (fun q'=>by subst q';exact e))
    generalize q[j]=R at *
    obtain⟨b0,b1,b2,b3,b4⟩:=R
    have d0:=hce 0 _ rfl
    have d1:=hce 1 _ rfl
    simp only[Nat.add_zero] at d0
    clear hce hG hc
    by_cases he:b1=txn
    ·have d:(b1==txn)=true:=by simpa using he
     have HF2:=HA.out he
     rw[HF2] at HR
     clear he HA HB HF2
     go_wp2
     refine bodyPost_ret (v:=.tuple #[.int .i64 b0,.bool true]) (by simp[results,results75,go_sem, *]) rfl ⟨by rw[HR.out],HN1.out.trans HG.out⟩
    ·have d:(b1==txn)=false:=by simpa using he
     have HS2:=hD0 (HB.out he)
     clear he HA HB
     go_wp2
     go_roundw
     case rel=>exact⟨j+1,by omega,by go_num,HS2.out,HG.out⟩
     case measure=>simp[intOf];omega
   ·obtain rfl:j=q.length:=by omega
    have HF2:=Zjq (x:=txn) (fun j hj=>HNo.out j hj hj)
    rw[HF2] at HR
    clear hG HF2
    go_wp2
    refine bodyPost_ret (v:=.tuple #[.int .i64 0,.bool false]) (by simp[results,results75,go_sem, *]) rfl ⟨by rw[HR.out],HN1.out.trans HG.out⟩
def Zfb(hs:List Hq)(id:Int):Int × Int × Rq × Bool:=match Zt hs id with
 | none=>(0,0,⟨0,0,0,0,0⟩,false)
 | some h=>(h.t,h.r,rqB h id,true)
def Zyp(X:Int × Int × Rq × Bool):Value:=.tuple #[.agg #[.int .i64 X.1,.int .i64 X.2.1],rqV X.2.2.1,.bool X.2.2.2]
theorem Zxj{w:World}{o po:Nat}{most:Int}{v:Value}{l:List Hm}(h:Rb w o po most v l)(id:Int) :
  Calls prog 73 #[.pointer (some ⟨o,0,none⟩),.int .i64 id] w fun e w'=>e=.returned (Zyp (Zfb (Z3 l) id))∧Nw w w':=by
 obtain⟨X,hX⟩:∃X,Zfb (Z3 l) id=X:=⟨_,rfl⟩
 rw[hX]
 obtain⟨a,c,rfl,hf⟩:=h.form
 have HF:=hD0 hf
 have H:=hD0 h
 have HX:=hD0 hX
 have hol:=h.ol
 clear h hf hX
 obtain⟨b1,b2,hN,hs2⟩:=Zx w (.cells #[.int .i64 0,.int .i64 0] 34) (.cells #[.int .i64 0,.int .i64 0,.int .i64 0,.int .i64 0,.int .i64 0] 50)
 obtain⟨z,hz⟩:∃z,((w.alloc (.cells #[.int .i64 0,.int .i64 0] 34)).alloc (.cells #[.int .i64 0,.int .i64 0,.int .i64 0,.int .i64 0,.int .i64 0] 50))=z:=⟨_,rfl⟩
 rw[hz] at b1 b2 hN hs2
 have HP:=hD0 (Z9n (H.out.nw hN) id)
 go_enter func73,ntmps73
 go_wp2_with fail
 refine HP.out.mono ?_
 rintro e w1 ⟨i,rfl,hi,g1⟩
 have HN1:=hD0 (hN.trans g1)
 have hq1:=g1.at' b1
 have hq2:=g1.at' b2
 have hsl:=hlt hq2
 have hss:w.heap.size+1<w1.heap.size:=hsl
 rcases hi.of with⟨rfl,ho⟩ | ⟨k,rfl,hk,ho⟩
 ·have HR:=hD0 (HX.out.symm.trans (show Zfb (Z3 l) id=_ by unfold Zfb;rw[ho]))
  have m0:=Z0 (j:=0) hq1
  have m1:=Z0 (j:=1) hq1
  have mz:=fun k=>hfz (j:=k) hq1
  have d0:=Z0 (j:=0) hq2
  have d1:=Z0 (j:=1) hq2
  have d2:=Z0 (j:=2) hq2
  have d3:=Z0 (j:=3) hq2
  have d4:=Z0 (j:=4) hq2
  have fz:=fun k=>hfz (j:=k) hq2
  clear HX HP ho hi g1 hz hN b1 b2 hs2 hq1 hq2
  go_wp2
  refine bodyPost_ret (v:=.tuple #[.agg #[.int .i64 0,.int .i64 0],.agg #[.int .i64 0,.int .i64 0,.int .i64 0,.int .i64 0,.int .i64 0],.bool false]) (by simp[results,results73,go_sem, *]) rfl ⟨by rw[HR.out];rfl,?_⟩
  exact((((((HN1.out.st (Nat.le_refl _) _).st (Nat.le_refl _) _).st (Nat.le_succ _) _).st (Nat.le_succ _) _).st (Nat.le_succ _) _).st (Nat.le_succ _) _).st (Nat.le_succ _) _
 ·have HR:=hD0 (HX.out.symm.trans (show Zfb (Z3 l) id=_ by unfold Zfb;rw[ho]))
  rcases HF.out with⟨_,e,_⟩ | ⟨g,rfl,hog,hgl⟩
  ·subst e;simp at hk
  have HW:=hD0 (H.out.nw HN1.out)
  have hx:=HW.out.ok _ (gM0 hk)
  obtain⟨f0,f1,f2,f3⟩:=HW.out.at_ k hk
  have hl1:=HW.out.len
  have hki:(k:Int)<(l.length:Int):=by omega
  have c2:=HW.out.c2
  have HG:=hD0 (fun w2 (g:Nw w1 w2)=>Zfw l[k].h.t l[k].h.r l[k].h.W id (hmV l[k]) l[k].h.q w2 hx.len (hx.rd.nw g))
  unfold Yf hmV at HG
  obtain⟨q0,q1,q2,q3,q4,hv,hR2⟩:=Z44 l[k].h.q id
  rw[hv] at HG
  obtain⟨y,hy⟩:∃y,(Yr l[k].h.q id).isSome=y:=⟨_,rfl⟩
  rw[hy] at HG
  have HR3:=hD0 (HR.out.trans (show(l[k].h.t,l[k].h.r,rqB l[k].h id,true)=(l[k].h.t,l[k].h.r,(⟨q0,q1,q2,q3,q4⟩:Rq),true)by unfold rqB;rw[hR2]))
  clear hv hR2 hy HR ho hi hx
  generalize l[k].h.t=t at *
  generalize l[k].h.r=r at *
  generalize l[k].h.W=W at *
  generalize l[k].a=qa at *
  generalize l[k].c=qc at *
  obtain⟨n,hn⟩:∃n,l[k].h.q.length=n:=⟨_,rfl⟩
  rw[hn] at f2 HG
  have HQ:=hD0 (aI0 hq1 hq2)
  clear hn HX HP g1 hz hN b1 b2 hs2 hq1 hq2
  go_wp2_with fail
  refine(HG.out _ (Nw.refl _)).mono ?_
  rintro e w2 ⟨rfl,g2⟩
  have hal:=Z1 w2 (.cells #[.int .i64 q0,.int .i64 q1,.int .i64 q2,.int .i64 q3,.int .i64 q4] 50)
  have hNa:Nw w2 (w2.alloc (.cells #[.int .i64 q0,.int .i64 q1,.int .i64 q2,.int .i64 q3,.int .i64 q4] 50)):=(Nw.refl w2).alloc _
  have hNy:=g2.trans hNa
  have HN2:=hD0 (HN1.out.trans hNy)
  have hq1:=hNy.at' HQ.out.1
  have hq2:=hNy.at' HQ.out.2
  have hw2:w1.heap.size≤w2.heap.size:=g2.sz
  clear hNa g2
  go_wp2_with fail
  generalize hy2:w2.alloc (.cells #[.int .i64 q0,.int .i64 q1,.int .i64 q2,.int .i64 q3,.int .i64 q4] 50)=y2 at *
  clear hy2
  obtain⟨pb,hpb⟩:∃pb,w2.heap.size=pb:=⟨_,rfl⟩
  rw[hpb] at hal hw2
  try rw[hpb]
  have hpl:=hlt hal
  have p0:y2.cell? ⟨pb,0,none⟩=some (.int .i64 q0):=Z0 hal
  have p1:y2.cell? ⟨pb,1,none⟩=some (.int .i64 q1):=Z0 hal
  have p2:y2.cell? ⟨pb,2,none⟩=some (.int .i64 q2):=Z0 hal
  have p3:y2.cell? ⟨pb,3,none⟩=some (.int .i64 q3):=Z0 hal
  have p4:y2.cell? ⟨pb,4,none⟩=some (.int .i64 q4):=Z0 hal
  have m0:y2.cell? ⟨w.heap.size,0,none⟩=some (.int .i64 0):=Z0 hq1
  have m1:y2.cell? ⟨w.heap.size,1,none⟩=some (.int .i64 0):=Z0 hq1
  have mz:=fun k=>hfz (j:=k) hq1
  have d0:y2.cell? ⟨w.heap.size+1,0,none⟩=some (.int .i64 0):=Z0 hq2
  have d1:y2.cell? ⟨w.heap.size+1,1,none⟩=some (.int .i64 0):=Z0 hq2
  have d2:y2.cell? ⟨w.heap.size+1,2,none⟩=some (.int .i64 0):=Z0 hq2
  have d3:y2.cell? ⟨w.heap.size+1,3,none⟩=some (.int .i64 0):=Z0 hq2
  have d4:y2.cell? ⟨w.heap.size+1,4,none⟩=some (.int .i64 0):=Z0 hq2
  have fz:=fun k=>hfz (j:=k) hq2
  replace c2:=hNy.kp c2
  replace f0:=hNy.kp f0
  replace f1:=hNy.kp f1
  clear f2 f3 hNy hq1 hq2 HG hal
  have ng1:¬(w.heap.size=o):=by omega
  have ng2:¬(w.heap.size+1=o):=by omega
  have ng3:¬(w.heap.size=g):=by omega
  have ng4:¬(w.heap.size+1=g):=by omega
  have ng5:¬(w.heap.size=pb):=by omega
  have ng6:¬(w.heap.size+1=pb):=by omega
  obtain⟨y0,hy0⟩:∃y0,y2.drew=y0:=⟨_,rfl⟩
  obtain⟨S,hSe⟩:∃S:World→Prop,S=fun x=>x=y0∨x=((y0.setCell ⟨w.heap.size,0,none⟩ (.int .i64 t)).setCell ⟨w.heap.size,1,none⟩ (.int .i64 r))∨x=(((((((y0.setCell ⟨w.heap.size,0,none⟩ (.int .i64 t)).setCell ⟨w.heap.size,1,none⟩ (.int .i64 r)).setCell ⟨w.heap.size+1,0,none⟩ (.int .i64 q0)).setCell ⟨w.heap.size+1,1,none⟩ (.int .i64 q1)).setCell ⟨w.heap.size+1,2,none⟩ (.int .i64 q2)).setCell ⟨w.heap.size+1,3,none⟩ (.int .i64 q3)).setCell ⟨w.heap.size+1,4,none⟩ (.int .i64 q4)):=⟨_,rfl⟩
  have s0:y0.cell? ⟨o,2,none⟩=some (.slice (some ⟨g,0,none⟩) l.length c):=by subst hy0;exact c2
  have t0:∀x,Hs S x→x.cell? ⟨o,2,none⟩=some (.slice (some ⟨g,0,none⟩) l.length c):=fun x h=>by subst hSe;rcases h with rfl | rfl | rfl<;>simp[go_sem,s0]
  have s1:y0.cell? ⟨g,k*4,none⟩=some (.int .i64 t):=by subst hy0;exact f0
  have t1:∀x,Hs S x→x.cell? ⟨g,k*4,none⟩=some (.int .i64 t):=fun x h=>by subst hSe;rcases h with rfl | rfl | rfl<;>simp[go_sem,s1]
  have s2:y0.cell? ⟨g,k*4+1,none⟩=some (.int .i64 r):=by subst hy0;exact f1
  have t2:∀x,Hs S x→x.cell? ⟨g,k*4+1,none⟩=some (.int .i64 r):=fun x h=>by subst hSe;rcases h with rfl | rfl | rfl<;>simp[go_sem,s2]
  have s3:y0.cell? ⟨pb,0,none⟩=some (.int .i64 q0):=by subst hy0;exact p0
  have t3:∀x,Hs S x→x.cell? ⟨pb,0,none⟩=some (.int .i64 q0):=fun x h=>by subst hSe;rcases h with rfl | rfl | rfl<;>simp[go_sem,s3]
  have s4:y0.cell? ⟨pb,1,none⟩=some (.int .i64 q1):=by subst hy0;exact p1
  have t4:∀x,Hs S x→x.cell? ⟨pb,1,none⟩=some (.int .i64 q1):=fun x h=>by subst hSe;rcases h with rfl | rfl | rfl<;>simp[go_sem,s4]
  have s5:y0.cell? ⟨pb,2,none⟩=some (.int .i64 q2):=by subst hy0;exact p2
  have t5:∀x,Hs S x→x.cell? ⟨pb,2,none⟩=some (.int .i64 q2):=fun x h=>by subst hSe;rcases h with rfl | rfl | rfl<;>simp[go_sem,s5]
  have s6:y0.cell? ⟨pb,3,none⟩=some (.int .i64 q3):=by subst hy0;exact p3
  have t6:∀x,Hs S x→x.cell? ⟨pb,3,none⟩=some (.int .i64 q3):=fun x h=>by subst hSe;rcases h with rfl | rfl | rfl<;>simp[go_sem,s6]
  have s7:y0.cell? ⟨pb,4,none⟩=some (.int .i64 q4):=by subst hy0;exact p4
  have t7:∀x,Hs S x→x.cell? ⟨pb,4,none⟩=some (.int .i64 q4):=fun x h=>by subst hSe;rcases h with rfl | rfl | rfl<;>simp[go_sem,s7]
  have m0':y0.cell? ⟨w.heap.size,0,none⟩=some (.int .i64 0):=by subst hy0;exact m0
  have m1':y0.cell? ⟨w.heap.size,1,none⟩=some (.int .i64 0):=by subst hy0;exact m1
  have d0':y0.cell? ⟨w.heap.size+1,0,none⟩=some (.int .i64 0):=by subst hy0;exact d0
  have d1':y0.cell? ⟨w.heap.size+1,1,none⟩=some (.int .i64 0):=by subst hy0;exact d1
  have d2':y0.cell? ⟨w.heap.size+1,2,none⟩=some (.int .i64 0):=by subst hy0;exact d2
  have d3':y0.cell? ⟨w.heap.size+1,3,none⟩=some (.int .i64 0):=by subst hy0;exact d3
  have d4':y0.cell? ⟨w.heap.size+1,4,none⟩=some (.int .i64 0):=by subst hy0;exact d4
  have mz':∀j,y0.frozen? ⟨w.heap.size,j,none⟩=false:=by subst hy0;exact mz
  have fz':∀j,y0.frozen? ⟨w.heap.size+1,j,none⟩=false:=by subst hy0;exact fz
  have hS0:Hs S y2.drew:=by rw[hy0,hSe];exact .inl rfl
  have hS1:Hs S ((y0.setCell ⟨w.heap.size,0,none⟩ (.int .i64 t)).setCell ⟨w.heap.size,1,none⟩ (.int .i64 r)):=by rw[hSe];exact .inr (.inl rfl)
  have hS2:Hs S (((((((y0.setCell ⟨w.heap.size,0,none⟩ (.int .i64 t)).setCell ⟨w.heap.size,1,none⟩ (.int .i64 r)).setCell ⟨w.heap.size+1,0,none⟩ (.int .i64 q0)).setCell ⟨w.heap.size+1,1,none⟩ (.int .i64 q1)).setCell ⟨w.heap.size+1,2,none⟩ (.int .i64 q2)).setCell ⟨w.heap.size+1,3,none⟩ (.int .i64 q3)).setCell ⟨w.heap.size+1,4,none⟩ (.int .i64 q4)):=by rw[hSe];exact .inr (.inr rfl)
  clear hSe c2 f0 f1 p0 p1 p2 p3 p4
  refine Zp (.take (.take (.take (.take (.take (.take (.take (.take (.take (.off (.go1 (.off (.go1 (.take .fin)))))))))))))) (Hs S) (by kernel_rfl) (by kernel_rfl) (by kernel_rfl) hS0 ?_
  rw[hy0]
  iterate 9 (refine HP.take' ?_;(first | (refine⟨undef,Or.inr ⟨by rfl,rfl⟩,?_⟩) | (apply Exists.intro;refine⟨Or.inl ⟨by rfl,?_⟩,?_⟩;(intro x hx';go_simp;first | done | with_reducible rfl)));(try simp only[Act.put,List.setIfInBounds_toArray,List.set_cons_zero,List.set_cons_succ]))
  refine HP.off ?_
  refine HP.go1 (fun KK hKK=>?_)
  go_simp
  refine hKK.out _ _ hS1 ?_
  intro _
  clear hKK KK
  (try simp only[Act.put,List.setIfInBounds_toArray,List.set_cons_zero,List.set_cons_succ])
  refine HP.off ?_
  refine HP.go1 (fun KK hKK=>?_)
  go_simp
  refine hKK.out _ _ hS2 ?_
  intro _
  clear hKK KK
  (try simp only[Act.put,List.setIfInBounds_toArray,List.set_cons_zero,List.set_cons_succ])
  iterate 1 (refine HP.take' ?_;(first | (refine⟨undef,Or.inr ⟨by rfl,rfl⟩,?_⟩) | (apply Exists.intro;refine⟨Or.inl ⟨by rfl,?_⟩,?_⟩;(intro x hx';go_simp;first | done | with_reducible rfl)));(try simp only[Act.put,List.setIfInBounds_toArray,List.set_cons_zero,List.set_cons_succ]))
  refine HP.end_ ?_
  refine NoPanic.normal ?_
  subst hy0
  clear hS0 hS1 hS2
  go_wp2
  refine bodyPost_ret (v:=.tuple #[.agg #[.int .i64 t,.int .i64 r],.agg #[.int .i64 q0,.int .i64 q1,.int .i64 q2,.int .i64 q3,.int .i64 q4],.bool true]) (by simp[results,results73,go_sem, *]) rfl ⟨by rw[HR3.out];rfl,?_⟩
  exact((((((HN2.out.dr.st (Nat.le_refl _) _).st (Nat.le_refl _) _).st (Nat.le_succ _) _).st (Nat.le_succ _) _).st (Nat.le_succ _) _).st (Nat.le_succ _) _).st (Nat.le_succ _) _
theorem Z88{A M B:List Value}{j:Nat}(hj:j<M.length)(u:Value):(A++(M++B)).set (A.length+j) u=A++(M.set j u++B):=by
 rw[List.set_append_right _ _ (by omega),Nat.add_sub_cancel_left,List.set_append_left _ _ hj]
theorem Zdv(q:List Rq)(k:Nat)(hk:k<q.length):Z6 Zk q=Z6 Zk (q.take k)++(Zk q[k]++Z6 Zk (q.drop (k+1))):=by
 have e:q=q.take k++q[k]::q.drop (k+1):=by rw[←List.drop_eq_getElem_cons hk,List.take_append_drop]
 conv=>lhs;rw[e]
 rw[Z4s]
 rfl
theorem Zpe(q:List Rq)(k:Nat)(hk:k<q.length)(j:Nat)(hj:j<5)(u:Value)(new:Rq)(e:(Zk q[k]).set j u=Zk new):(Z6 Zk q).set (k*5+j) u=Z6 Zk (q.set k new):=by
 have hA:(Z6 Zk (q.take k)).length=k*5:=by rw[Yw (sz:=5) (fun _=>rfl),List.length_take,Nat.min_eq_left (Nat.le_of_lt hk)]
 have h2:=Zdv (q.set k new) k (by rw[List.length_set];exact hk)
 rw[List.take_set_of_le (Nat.le_refl k),List.drop_set_of_lt (Nat.lt_succ_self k),List.getElem_set_self] at h2
 rw[Zdv q k hk,h2,←hA,Z88 (by exact hj) u,e]
theorem Zy{w:World}{g0 g cap n:Nat}{q:List Rq}(h:Z2 w g0 (.slice (some ⟨g,0,none⟩) n cap) q)(hn:n=q.length)(k:Nat)(hk:k<q.length)(j:Nat)(hj:j<5)(u:Value)(new:Rq)(e:(Zk q[k]).set j u=Zk new) :
  Z2 (w.setCell ⟨g,k*5+j,none⟩ u) g0 (.slice (some ⟨g,0,none⟩) n cap) (q.set k new):=by
 subst hn
 have h1:=(World.ownsRow.stored h (k*5+j) u).1
 unfold Z2 Yz
 rw[List.length_set,←Zpe q k hk j hj u new e]
 exact h1
theorem Y5{w:World}{g0 g cap n:Nat}{q:List Rq}(h:Z2 w g0 (.slice (some ⟨g,0,none⟩) n cap) q)(hn:n=q.length)(k:Nat)(hk:k<q.length)(j:Nat)(u:Value)(hu:(Zk q[k])[j]?=some u):w.cell? ⟨g,k*5+j,none⟩=some u:=by
 subst hn
 have hj:j<5:=by have:=(List.getElem?_eq_some_iff.1 hu).1;simpa [Zk] using this
 refine(World.ownsRow.cellAt h (k*5+j) (by omega)).trans ?_
 rw[Z0q (sz:=5) (fun _=>rfl) q k j hk hj];exact hu
theorem V2{w:World}{g0 g cap n:Nat}{q:List Rq}(h:Z2 w g0 (.slice (some ⟨g,0,none⟩) n cap) q)(hn:n=q.length)(j:Nat):w.frozen? ⟨g,j,none⟩=false:=by
 subst hn
 exact World.ownsRow.frozenAt h j
theorem Zui{W:Int}{q:List Rq}{k:Nat}(h:Ok W q)(hk:k<q.length)(hm:q[k].md≠0):abQ q[k] q=q.set k (abR q[k]):=by
 unfold abQ
 rw[if_neg hm,Z1q h abR k hk]
theorem Zye{W:Int}{q:List Rq}{k:Nat}(h:Ok W q)(hk:k<q.length)(hm:q[k].md=0):abQ q[k] q=q.take k++q.drop (k+1):=by
 unfold abQ
 rw[if_pos hm,Zda h k hk]
theorem Zfv(t r W id:Int)(v:Value)(q:List Rq)(w:World)(hl:q.length≤1000)(hok:Ok W q)(hcap:Z06 v)(h:Zl w v q) :
  Calls prog 141 #[Yf t r v W,.int .i64 id] w (Zj0 (Vm ⟨t,r,W,q⟩ id) w):=by
 have HOk:=hD0 hok
 clear hok
 obtain⟨X,hX⟩:∃X,Vm ⟨t,r,W,q⟩ id=X:=⟨_,rfl⟩
 rw[hX]
 have HXx:=hD0 hX
 clear hX
 have HA:=hD0 (fun(w1:World) (g:Nw w w1)=>Zp5 t r W id v q w1 hl (h.nw g))
 have HCp:=hD0 (fun(w1:World) (g:Nw w w1)=>Z0o t r W v q w1 hl (h.nw g))
 unfold Yf at HA HCp
 unfold Zj0 Yf
 obtain⟨a,c,rfl,h⟩:=h
 have HH:=hD0 h
 have hcq:q.length≤c:=hcap
 clear h hcap
 have HX:=hD0 (Zx w (.cells #[.int .i64 t,.int .i64 r,.slice a q.length c,.int .i64 W] 63) (.cells #[.int .i64 0,.int .i64 0,.slice none 0 0,.int .i64 0] 63))
 go_enter func141,ntmps141
 go_wp2_with fail
 refine(HA.out _ HX.out.2.2.1).mono ?_
 rintro e w1 ⟨i,rfl,g1,hi⟩
 have hp1:=g1.at' HX.out.1
 have hq1:=g1.at' HX.out.2.1
 have HN1:=hD0 (HX.out.2.2.1.trans g1)
 have c0:=Z0 (j:=0) hp1
 have c1:=Z0 (j:=1) hp1
 have c2:=Z0 (j:=2) hp1
 have c3:=Z0 (j:=3) hp1
 have hsl:=hlt hp1
 have hsl2:=hlt hq1
 rcases hi with⟨rfl,hf⟩ | ⟨k,rfl,hk,hf⟩
 ·have hR:=HXx.out.symm.trans (show Vm ⟨t,r,W,q⟩ id=(noH,5)by unfold Vm;rw[hf])
  subst hR
  have d0:=Z0 (j:=0) hq1
  have d1:=Z0 (j:=1) hq1
  have d2:=Z0 (j:=2) hq1
  have d3:=Z0 (j:=3) hq1
  have fz:=fun k=>hfz (j:=k) hq1
  clear hf hp1 hq1 g1 HA HCp HX HOk HXx HH
  go_wp2
  refine bodyPost_ret (v:=.tuple #[.agg #[.int .i64 0,.int .i64 0,.slice none 0 0,.int .i64 0],.int .i64 5]) (by simp[results,results141,go_sem, *]) rfl ⟨_,rfl,Z7 HN1.out (Nat.le_succ _) _ _ _ _,Rd.nil _,Nat.le_refl _,Yp _⟩
 ·rcases HH.out with⟨e,_⟩ | ⟨b,o,rfl,hc⟩
  ·subst e;simp at hk
  have hC1:=hc.nw HN1.out
  have hce:=hC1.cell k hk
  have hki:(k:Int)<(q.length:Int):=by omega
  have HNw:=hD0 (show ¬0<q[k].sn→Vm ⟨t,r,W,q⟩ id=(noH,7) from fun e=>by unfold Vm;rw[hf];exact if_neg e)
  have HLv:=hD0 (show 0<q[k].sn→q[k].md=0→Vm ⟨t,r,W,q⟩ id=(⟨t,r,W,q.take k++q.drop (k+1)⟩,0) from fun e m=>by unfold Vm;rw[hf];simp only[if_pos e];rw[Zye HOk.out hk m])
  have HAb:=hD0 (show 0<q[k].sn→q[k].md≠0→Vm ⟨t,r,W,q⟩ id=(⟨t,r,W,q.set k (abR q[k])⟩,0) from fun e m=>by unfold Vm;rw[hf];simp only[if_pos e];rw[Zui HOk.out hk m])
  have HWo:=hD0 (fun(w2:World) (g:Nw w w2)=>Z9m t r W b o c k q w2 hl hk hcq (hc.nw g))
  unfold Yf at HWo
  have HOC:=hD0 (fun(w2:World) (g0 g cap:Nat) (h:Z2 w2 g0 (.slice (some ⟨g,0,none⟩) q.length cap) q)=>Y5 h rfl k hk)
  have HOU:=hD0 (fun(w2:World) (g0 g cap:Nat) (md wt:Int) (h:Z2 w2 g0 (.slice (some ⟨g,0,none⟩) q.length cap) q) (hm:md=q[k].md)=>Zy (Zy h rfl k hk 3 (by decide) (.int .i64 md) ⟨q[k].id,q[k].txn,q[k].md,md,q[k].sn⟩ rfl) (by rw[List.length_set]) k (by rw[List.length_set];exact hk) 4 (by decide) (.int .i64 0) (abR q[k]) (by rw[List.getElem_set_self,hm];rfl))
  simp only[List.set_set] at HOU
  have hIdx:=hk
  generalize q[k]=R at *
  obtain⟨b0,b1,b2,b3,b4⟩:=R
  have e0:=hce 0 _ rfl
  have e1:=hce 1 _ rfl
  have e2:=hce 2 _ rfl
  have e3:=hce 3 _ rfl
  have e4:=hce 4 _ rfl
  simp only[Nat.add_zero] at e0
  clear hce
  have HC:=hD0 hc
  clear hc hC1 hf HA HX HH
  go_wp2_with fail
  refine(Z6r _ _ _ _ _ _).mono ?_
  rintro e w2 ⟨rfl,g2⟩
  have hp2:=g2.at' hp1
  have hq2:=g2.at' hq1
  have HN2:=hD0 (HN1.out.trans g2)
  clear c0 c1 c2 c3
  have c0:=Z0 (j:=0) hp2
  have c1:=Z0 (j:=1) hp2
  have c2:=Z0 (j:=2) hp2
  have c3:=Z0 (j:=3) hp2
  have hsl:=hlt hp2
  have hsl2:=hlt hq2
  replace e0:=g2.kp e0
  replace e1:=g2.kp e1
  replace e2:=g2.kp e2
  replace e3:=g2.kp e3
  replace e4:=g2.kp e4
  by_cases hs:0<b4
  rotate_left
  ·have d:decide (0<b4)=false:=by simpa using hs
   have hR:=HXx.out.symm.trans (HNw.out (by first | exact hs | exact Int.not_lt.1 hs))
   subst hR
   have d0:=Z0 (j:=0) hq2
   have d1:=Z0 (j:=1) hq2
   have d2:=Z0 (j:=2) hq2
   have d3:=Z0 (j:=3) hq2
   have fz:=fun k=>hfz (j:=k) hq2
   clear hs HNw HLv HAb HXx HOk HWo HOC HOU HCp HC
   go_wp2
   refine bodyPost_ret (v:=.tuple #[.agg #[.int .i64 0,.int .i64 0,.slice none 0 0,.int .i64 0],.int .i64 7]) (by simp[results,results141,go_sem, *]) rfl ⟨_,rfl,Z7 HN2.out (Nat.le_succ _) _ _ _ _,Rd.nil _,Nat.le_refl _,Yp _⟩
  have d:decide (0<b4)=true:=by simpa using hs
  clear HNw
  go_wp2_with fail
  refine(Z32 _ _ _ _ _ _).mono ?_
  rintro e w3 ⟨rfl,g3⟩
  have hp3:=g3.at' hp2
  have hq3:=g3.at' hq2
  have HN3:=hD0 (HN2.out.trans g3)
  clear c0 c1 c2 c3
  have c0:=Z0 (j:=0) hp3
  have c1:=Z0 (j:=1) hp3
  have c2:=Z0 (j:=2) hp3
  have c3:=Z0 (j:=3) hp3
  have hsl:=hlt hp3
  have hsl2:=hlt hq3
  by_cases hm:b2=0
  ·have d2:(b2 != 0)=false:=by simpa using hm
   have hR:=HXx.out.symm.trans (HLv.out hs hm)
   subst hR
   have hs1:w.heap.size+1<w3.heap.size:=hsl2
   have HQ1:=hD0 hq3
   clear hs hm HLv HAb HXx HOk HOC HOU HCp hp1 hp2 hq1 hq2 hp3 hq3 g1 g2 g3
   go_wp2_with fail
   refine(HWo.out _ HN3.out).mono ?_
   rintro e w4 ⟨v2,rfl,g4,hO⟩
   have hq4:=g4.at' HQ1.out
   obtain⟨a2,k2,hv2⟩:=(Z2.rd hO).form
   have HO:=hD0 hO
   have HN4:=hD0 (HN3.out.trans g4)
   obtain⟨n2,hn2⟩:∃n,(q.take k++q.drop (k+1)).length=n:=⟨_,rfl⟩
   rw[hn2] at hv2
   subst hv2
   have d0:=Z0 (j:=0) hq4
   have d1:=Z0 (j:=1) hq4
   have d2:=Z0 (j:=2) hq4
   have d3:=Z0 (j:=3) hq4
   have fz:=fun k=>hfz (j:=k) hq4
   have hsl3:=hlt hq4
   clear hO g4 hq4 hn2 HWo HQ1
   go_wp2
   refine bodyPost_ret (v:=.tuple #[.agg #[.int .i64 t,.int .i64 r,.slice a2 n2 k2,.int .i64 W],.int .i64 0]) (by simp[results,results141,go_sem, *]) rfl ⟨_,rfl,Z7 HN4.out (Nat.le_succ _) _ _ _ _,(Y4 HO.out (by omega) _ _ _ _).rd,HO.out.cap,Z2.newV HO.out (by omega)⟩
  ·have d2:(b2 != 0)=true:=by simpa using hm
   have hR:=HXx.out.symm.trans (HAb.out hs hm)
   subst hR
   have hs1:w.heap.size+1<w3.heap.size:=hsl2
   have HQ1:=hD0 hq3
   clear hs hm HLv HAb HXx HOk HWo hp1 hp2 hq1 hq2 hp3 hq3 g1 g2 g3 e0 e1 e2 e3 e4
   go_wp2_with fail
   refine(HCp.out _ HN3.out).mono ?_
   rintro e w4 ⟨v1,rfl,g4,hO⟩
   rcases Y7 hO with⟨_,q0⟩ | ⟨g,cap,rfl⟩
   ·omega
   have hq4:=g4.at' HQ1.out
   have hg0:=Vr hO (g:=g) rfl
   have hgl:=olt hO (g:=g) rfl
   have hal:=Z1 w4 (.cells #[.int .i64 t,.int .i64 r,.slice (some ⟨g,0,none⟩) q.length cap,.int .i64 W] 63)
   have hNa:Nw w4 (w4.alloc (.cells #[.int .i64 t,.int .i64 r,.slice (some ⟨g,0,none⟩) q.length cap,.int .i64 W] 63)):=(Nw.refl w4).alloc _
   have HNy:=hD0 (HN3.out.trans (g4.trans hNa))
   have hOy:=onw hO hNa
   have hqy:=hNa.at' hq4
   have hs4:=g4.sz
   obtain⟨pb,hpb⟩:∃pb,w4.heap.size=pb:=⟨_,rfl⟩
   rw[hpb] at hal hgl
   clear hO
   go_wp2_with fail
   try rw[hpb]
   have hpl4:w4.heap.size=pb:=hpb
   generalize w4.alloc (.cells #[.int .i64 t,.int .i64 r,.slice (some ⟨g,0,none⟩) q.length cap,.int .i64 W] 63)=y at *
   have hpc:∀j,y.cell? ⟨pb,j,none⟩=_:=fun j=>Z0 (j:=j) hal
   have p0:=hpc 0
   have p1:=hpc 1
   have p2:=hpc 2
   have p3:=hpc 3
   have pz:=fun j=>hfz (j:=j) hal
   have r2:=HOC.out _ _ _ _ hOy 2 _ rfl
   have r3:=HOC.out _ _ _ _ hOy 3 _ rfl
   have r4:=HOC.out _ _ _ _ hOy 4 _ rfl
   have rz:=V2 hOy rfl
   have hU:=HOU.out _ _ _ _ b2 b3 hOy rfl
   have d0:=Z0 (j:=0) hqy
   have d1:=Z0 (j:=1) hqy
   have d2:=Z0 (j:=2) hqy
   have d3:=Z0 (j:=3) hqy
   have fz:=fun k=>hfz (j:=k) hqy
   have n1:¬(w.heap.size+1=g):=by omega
   have n2:¬(g=w.heap.size+1):=by omega
   have n3:¬(pb=g):=by omega
   have n4:¬(g=pb):=by omega
   have hgw:w.heap.size≤g:=by omega
   have hrb:w.heap.size+1<w3.heap.size:=hs1
   have HU:=hD0 hU
   have HG:=hD0 (aI0 hgw hrb)
   clear hU hpc hOy hal hqy hNa g4 hq4 hgw hrb HCp HOC HOU HQ1 hg0 hgl hpb hpl4 hs4 hs1 hsl hsl2 c0 c1 c2 c3
   obtain⟨y0,hy0⟩:∃y0,y.drew=y0:=⟨_,rfl⟩
   obtain⟨S,hSe⟩:∃S:World→Prop,S=fun x=>x=y0∨x=y0.setCell ⟨g,k*5+3,none⟩ (.int .i64 b2)∨x=(y0.setCell ⟨g,k*5+3,none⟩ (.int .i64 b2)).setCell ⟨g,k*5+4,none⟩ (.int .i64 0):=⟨_,rfl⟩
   have s0:y0.cell? ⟨pb,0,none⟩=some (.int .i64 t):=by subst hy0;exact p0
   have s1:y0.cell? ⟨pb,1,none⟩=some (.int .i64 r):=by subst hy0;exact p1
   have s2:y0.cell? ⟨pb,2,none⟩=some (.slice (some ⟨g,0,none⟩) q.length cap):=by subst hy0;exact p2
   have s3:y0.cell? ⟨pb,3,none⟩=some (.int .i64 W):=by subst hy0;exact p3
   have s4:y0.cell? ⟨g,k*5+2,none⟩=some (.int .i64 b2):=by subst hy0;exact r2
   have s5:y0.cell? ⟨g,k*5+3,none⟩=some (.int .i64 b3):=by subst hy0;exact r3
   have s6:y0.cell? ⟨g,k*5+4,none⟩=some (.int .i64 b4):=by subst hy0;exact r4
   have s7:∀j,y0.frozen? ⟨g,j,none⟩=false:=by subst hy0;exact rz
   have s8:∀j,y0.cell? ⟨w.heap.size+1,j,none⟩=_:=fun j=>(by subst hy0;rfl:y0.cell? ⟨w.heap.size+1,j,none⟩=y.cell? ⟨w.heap.size+1,j,none⟩)
   have t0:∀x,Hs S x→x.cell? ⟨pb,0,none⟩=some (.int .i64 t):=fun x h=>by subst hSe;rcases h with rfl | rfl | rfl<;>simp[go_sem,s0]
   have t1:∀x,Hs S x→x.cell? ⟨pb,1,none⟩=some (.int .i64 r):=fun x h=>by subst hSe;rcases h with rfl | rfl | rfl<;>simp[go_sem,s1]
   have t2:∀x,Hs S x→x.cell? ⟨pb,2,none⟩=some (.slice (some ⟨g,0,none⟩) q.length cap):=fun x h=>by subst hSe;rcases h with rfl | rfl | rfl<;>simp[go_sem,s2]
   have t3:∀x,Hs S x→x.cell? ⟨pb,3,none⟩=some (.int .i64 W):=fun x h=>by subst hSe;rcases h with rfl | rfl | rfl<;>simp[go_sem,s3]
   have t4:∀x,Hs S x→x.cell? ⟨g,k*5+2,none⟩=some (.int .i64 b2):=fun x h=>by subst hSe;rcases h with rfl | rfl | rfl<;>simp[go_sem,s4]
   have hS0:Hs S y.drew:=by rw[hy0,hSe];exact .inl rfl
   have hS1:Hs S (y0.setCell ⟨g,k*5+3,none⟩ (.int .i64 b2)):=by rw[hSe];exact .inr (.inl rfl)
   have hS2:Hs S ((y0.setCell ⟨g,k*5+3,none⟩ (.int .i64 b2)).setCell ⟨g,k*5+4,none⟩ (.int .i64 0)):=by rw[hSe];exact .inr (.inr rfl)
   clear hSe
   refine Zp (.take (.take (.take (.take (.take (.take (.take (.take (.take (.take (.take (.take (.take (.take (.off (.go1 (.take (.take (.off (.go1 .fin)))))))))))))))))))) (Hs S) (by kernel_rfl) (by kernel_rfl) (by kernel_rfl) hS0 ?_
   rw[hy0]
   iterate 14 (refine HP.take' ?_;(first | (refine⟨undef,Or.inr ⟨by rfl,rfl⟩,?_⟩) | (apply Exists.intro;refine⟨Or.inl ⟨by rfl,?_⟩,?_⟩;(intro x hx';go_simp;first | done | with_reducible rfl)));(try simp only[Act.put,List.setIfInBounds_toArray,List.set_cons_zero,List.set_cons_succ]))
   refine HP.off ?_
   refine HP.go1 (fun KK hKK=>?_)
   go_simp
   refine hKK.out _ _ hS1 ?_
   intro _
   clear hKK KK
   (try simp only[Act.put,List.setIfInBounds_toArray,List.set_cons_zero,List.set_cons_succ])
   iterate 2 (refine HP.take' ?_;(first | (refine⟨undef,Or.inr ⟨by rfl,rfl⟩,?_⟩) | (apply Exists.intro;refine⟨Or.inl ⟨by rfl,?_⟩,?_⟩;(intro x hx';go_simp;first | done | with_reducible rfl)));(try simp only[Act.put,List.setIfInBounds_toArray,List.set_cons_zero,List.set_cons_succ]))
   refine HP.off ?_
   refine HP.go1 (fun KK hKK=>?_)
   go_simp
   refine hKK.out _ _ hS2 ?_
   intro _
   clear hKK KK
   (try simp only[Act.put,List.setIfInBounds_toArray,List.set_cons_zero,List.set_cons_succ])
   refine HP.end_ ?_
   refine NoPanic.normal ?_
   subst hy0
   clear hS0 hS1 hS2 t0 t1 t2 t3 t4 s0 s1 s2 s3 s4 s5 s6 s7 s8
   go_wp2
   refine bodyPost_ret (v:=.tuple #[.agg #[.int .i64 t,.int .i64 r,.slice (some ⟨g,0,none⟩) q.length cap,.int .i64 W],.int .i64 0]) (by simp[results,results141,go_sem, *]) rfl ⟨_,rfl,(Z7 ((HNy.out.st HG.out.1 _).st HG.out.1 _) (Nat.le_succ _) _ _ _ _).dr,?_,?_⟩
   ·have:=(Y4 HU.out HG.out.2 (.int .i64 t) (.int .i64 r) (.slice (some ⟨g,0,none⟩) q.length cap) (.int .i64 W)).rd.nw (Nw.refl _).dr
    exact this
   ·exact⟨HU.out.cap,Z2.newV HU.out (by have:=HG.out.2;omega)⟩
theorem Z96{W:Int}{q:List Rq}(h:Ok W q){m k:Nat}(hm:m<q.length)(hk:k<q.length)(ne:m≠k):q[m].id≠q[k].id:=by
 rcases Nat.lt_or_gt_of_ne ne with g | g
 ·exact(List.pairwise_iff_getElem.1 h.pr m k hm hk g).id
 ·exact fun e=>(List.pairwise_iff_getElem.1 h.pr k m hk hm g).id e.symm
theorem Zne{W:Int}{q:List Rq}{id x:Int}{m k:Nat}(h:Ok W q)(hk:k<q.length)(hf:Yr q id=some q[k])(hm:m<q.length)(ne:m≠k)(e:q[m].txn=x):(q.any fun o=>!(o.id==id)&&o.txn==x)=true:=by
 have:=Z96 h hm hk ne
 rw[(Z2j hf).2] at this
 exact List.any_eq_true.2 ⟨q[m],gM0 hm,by simp[this,e]⟩
theorem Zar{q:List Rq}{id x:Int}{k:Nat}(hk:k<q.length)(hf:Yr q id=some q[k])(h:∀m (hm:m<q.length),m≠k→q[m].txn≠x):(q.any fun o=>!(o.id==id)&&o.txn==x)=false:=by
 rw[List.any_eq_false]
 intro a ha
 obtain⟨m,hm,rfl⟩:=List.getElem_of_mem ha
 by_cases e:m=k
 ·subst e;simp[(Z2j hf).2]
 ·simp[h m hm e]
theorem Zv0{W:Int}{q:List Rq}{id x:Int}{k:Nat}(h:Ok W q)(hk:k<q.length)(hf:Yr q id=some q[k]):chg (fun r=>⟨r.id,x,r.md,r.wt,r.sn⟩) id q=q.set k ⟨q[k].id,x,q[k].md,q[k].wt,q[k].sn⟩:=by
 rw[←Z1q h (fun r=>⟨r.id,x,r.md,r.wt,r.sn⟩) k hk,(Z2j hf).2]
theorem Zt9(t r W id x:Int)(v:Value)(q:List Rq)(w:World)(hl:q.length≤1000)(hok:Ok W q)(hcap:Z06 v)(h:Zl w v q) :
  Calls prog 143 #[Yf t r v W,.int .i64 id,.int .i64 x] w (Zj0 (hnR ⟨t,r,W,q⟩ id x) w):=by
 have HOk:=hD0 hok
 clear hok
 obtain⟨X,hX⟩:∃X,hnR ⟨t,r,W,q⟩ id x=X:=⟨_,rfl⟩
 rw[hX]
 have HXx:=hD0 hX
 clear hX
 have HA:=hD0 (fun(w1:World) (g:Nw w w1)=>Zp5 t r W id v q w1 hl (h.nw g))
 have HCp:=hD0 (fun(w1:World) (g:Nw w w1)=>Z0o t r W v q w1 hl (h.nw g))
 unfold Yf at HA HCp
 unfold Zj0 Yf
 obtain⟨a,c,rfl,h⟩:=h
 have HH:=hD0 h
 have hcq:q.length≤c:=hcap
 clear h hcap
 have HX:=hD0 (Zx w (.cells #[.int .i64 t,.int .i64 r,.slice a q.length c,.int .i64 W] 63) (.cells #[.int .i64 0,.int .i64 0,.slice none 0 0,.int .i64 0] 63))
 go_enter func143,ntmps143
 go_wp2_with fail
 refine(HA.out _ HX.out.2.2.1).mono ?_
 rintro e w1 ⟨i,rfl,g1,hi⟩
 have hp1:=g1.at' HX.out.1
 have hq1:=g1.at' HX.out.2.1
 have HN1:=hD0 (HX.out.2.2.1.trans g1)
 have c0:=Z0 (j:=0) hp1
 have c1:=Z0 (j:=1) hp1
 have c2:=Z0 (j:=2) hp1
 have c3:=Z0 (j:=3) hp1
 have hsl:=hlt hp1
 have hsl2:=hlt hq1
 rcases hi with⟨rfl,hf⟩ | ⟨k,rfl,hk,hf⟩
 ·have hR:=HXx.out.symm.trans (show hnR ⟨t,r,W,q⟩ id x=(noH,5)by unfold hnR;rw[hf])
  subst hR
  have d0:=Z0 (j:=0) hq1
  have d1:=Z0 (j:=1) hq1
  have d2:=Z0 (j:=2) hq1
  have d3:=Z0 (j:=3) hq1
  have fz:=fun k=>hfz (j:=k) hq1
  clear hf hp1 hq1 g1 HA HCp HX HOk HXx HH
  go_wp2
  refine bodyPost_ret (v:=.tuple #[.agg #[.int .i64 0,.int .i64 0,.slice none 0 0,.int .i64 0],.int .i64 5]) (by simp[results,results143,go_sem, *]) rfl ⟨_,rfl,Z7 HN1.out (Nat.le_succ _) _ _ _ _,Rd.nil _,Nat.le_refl _,Yp _⟩
 ·rcases HH.out with⟨e,_⟩ | ⟨b,o,rfl,hc⟩
  ·subst e;simp at hk
  have hC1:=hc.nw HN1.out
  have hki:(k:Int)<(q.length:Int):=by omega
  have HTw:=hD0 (show(q.any fun o=>!(o.id==id)&&o.txn==x)=true→hnR ⟨t,r,W,q⟩ id x=(noH,4) from fun e=>by unfold hnR;rw[hf];simp only[e,if_true])
  have HNw:=hD0 (show(q.any fun o=>!(o.id==id)&&o.txn==x)=false→0<q[k].sn→hnR ⟨t,r,W,q⟩ id x=(noH,7) from fun e s=>by unfold hnR;rw[hf];simp only[e,Bool.false_eq_true,if_false];exact if_pos s)
  have HSt:=hD0 (show(q.any fun o=>!(o.id==id)&&o.txn==x)=false→¬0<q[k].sn→hnR ⟨t,r,W,q⟩ id x=(⟨t,r,W,q.set k ⟨q[k].id,x,q[k].md,q[k].wt,q[k].sn⟩⟩,0) from fun e s=>by unfold hnR;rw[hf];simp only[e,Bool.false_eq_true,if_false];rw[if_neg s,Zv0 HOk.out hk hf])
  have HHit:=hD0 (fun m hm ne e=>HTw.out (Zne HOk.out hk hf (m:=m) hm ne e))
  have HNo:=hD0 (fun h=>Zar (x:=x) hk hf h)
  have HOC:=hD0 (fun(w2:World) (g0 g cap:Nat) (h:Z2 w2 g0 (.slice (some ⟨g,0,none⟩) q.length cap) q)=>Y5 h rfl k hk)
  have HOU:=hD0 (fun(w2:World) (g0 g cap:Nat) (h:Z2 w2 g0 (.slice (some ⟨g,0,none⟩) q.length cap) q)=>Zy h rfl k hk 1 (by decide) (.int .i64 x) ⟨q[k].id,x,q[k].md,q[k].wt,q[k].sn⟩ rfl)
  have HC:=hD0 hC1
  have HC0:=hD0 hc
  have HCe:=hD0 (fun(w2:World) (g:Nw w1 w2)=>(hC1.nw g).cell k hk)
  generalize q[k]=R at *
  obtain⟨b0,b1,b2,b3,b4⟩:=R
  have HP1:=hD0 (aI0 hp1 hq1)
  clear hc hC1 hf HA HX HH HTw hp1 hq1 g1
  go_wp2
  go_loopw [9] (fun i wr=>∃m:Nat,m≤q.length∧i=.int .i64 m∧(∀n (hn:n<q.length),n<m→n≠k→q[n].txn≠x)∧Nw w1 wr) (fun i _=>q.length-(intOf i).toNat)
  case atStart=>exact⟨0,Nat.zero_le _,rfl,fun n _ h=>absurd h (Nat.not_lt_zero _),Nw.refl _⟩
  case round =>
   clear c0 c1 c2 c3 hsl hsl2
   obtain⟨m,hm,rfl,hf,hG⟩:=hrel
   have hp2:=hG.at' HP1.out.1
   have hq2:=hG.at' HP1.out.2
   have HN2:=hD0 (HN1.out.trans hG)
   have c0:=Z0 (j:=0) hp2
   have c1:=Z0 (j:=1) hp2
   have c2:=Z0 (j:=2) hp2
   have c3:=Z0 (j:=3) hp2
   have hsl:=hlt hp2
   have hsl2:=hlt hq2
   by_cases hlm:m<q.length
   ·have hce:=(HC.out.nw hG).cell m hlm
    have hHm:=hD0 (HHit.out m hlm)
    have hSm:=hD0 (show(m≠k→q[m].txn≠x)→∀n (hn:n<q.length),n<m+1→n≠k→q[n].txn≠x from fun e n hn hnm ne=>by
     rcases Nat.lt_or_ge n m with g | g
     ·exact hf n hn g ne
     ·obtain rfl:n=m:=by omega
      exact e ne)
    generalize q[m]=A at *
    obtain⟨f0,f1,f2,f3,f4⟩:=A
    have e0:=hce 0 _ rfl
    have e1:=hce 1 _ rfl
    have e2:=hce 2 _ rfl
    have e3:=hce 3 _ rfl
    have e4:=hce 4 _ rfl
    simp only[Nat.add_zero] at e0
    have HG:=hD0 hG
    clear hce hf hG
    by_cases hmk:m=k
    ·have d:((m:Int) != (k:Int))=false:=by simp[hmk]
     have HS2:=hD0 (hSm.out (fun e=>absurd hmk e))
     clear hmk hSm hHm HHit HNw HSt HNo HXx HOC HOU HCp
     go_wp2
     go_roundw
     case rel=>exact⟨m+1,by omega,by go_num,HS2.out,HG.out⟩
     case measure=>simp[intOf];omega
    ·have d:((m:Int) != (k:Int))=true:=by simp;omega
     by_cases hx:f1=x
     ·have d2:(f1==x)=true:=by simpa using hx
      have hR:=HXx.out.symm.trans (hHm.out hmk hx)
      subst hR
      have d0:=Z0 (j:=0) hq2
      have d1:=Z0 (j:=1) hq2
      have d2:=Z0 (j:=2) hq2
      have d3:=Z0 (j:=3) hq2
      have fz:=fun k=>hfz (j:=k) hq2
      clear hmk hx hSm hHm HHit HNw HSt HNo HXx HOC HOU HCp
      go_wp2
      refine bodyPost_ret (v:=.tuple #[.agg #[.int .i64 0,.int .i64 0,.slice none 0 0,.int .i64 0],.int .i64 4]) (by simp[results,results143,go_sem, *]) rfl ⟨_,rfl,Z7 HN2.out (Nat.le_succ _) _ _ _ _,Rd.nil _,Nat.le_refl _,Yp _⟩
     ·have d2:(f1==x)=false:=by simpa using hx
      have HS2:=hD0 (hSm.out (fun _=>hx))
      clear hmk hx hSm hHm HHit HNw HSt HNo HXx HOC HOU HCp
      go_wp2
      go_roundw
      case rel=>exact⟨m+1,by omega,by go_num,HS2.out,HG.out⟩
      case measure=>simp[intOf];omega
   ·obtain rfl:m=q.length:=by omega
    have hany:=HNo.out (fun n hn ne=>hf n hn hn ne)
    have hce:=HCe.out _ hG
    have e0:=hce 0 _ rfl
    have e1:=hce 1 _ rfl
    have e2:=hce 2 _ rfl
    have e3:=hce 3 _ rfl
    have e4:=hce 4 _ rfl
    simp only[Nat.add_zero] at e0
    clear hce hf
    go_wp2_with fail
    refine(Z6r _ _ _ _ _ _).mono ?_
    rintro e w3 ⟨rfl,g3⟩
    have hp3:=g3.at' hp2
    have hq3:=g3.at' hq2
    have HN3:=hD0 (HN2.out.trans g3)
    clear c0 c1 c2 c3
    have c0:=Z0 (j:=0) hp3
    have c1:=Z0 (j:=1) hp3
    have c2:=Z0 (j:=2) hp3
    have c3:=Z0 (j:=3) hp3
    have hsl:=hlt hp3
    have hsl2:=hlt hq3
    by_cases hs:0<b4
    ·have d:decide (0<b4)=true:=by simpa using hs
     have hR:=HXx.out.symm.trans (HNw.out hany hs)
     subst hR
     have d0:=Z0 (j:=0) hq3
     have d1:=Z0 (j:=1) hq3
     have d2:=Z0 (j:=2) hq3
     have d3:=Z0 (j:=3) hq3
     have fz:=fun k=>hfz (j:=k) hq3
     clear hs hany HHit HNw HSt HNo HXx HOC HOU HCp
     go_wp2
     refine bodyPost_ret (v:=.tuple #[.agg #[.int .i64 0,.int .i64 0,.slice none 0 0,.int .i64 0],.int .i64 7]) (by simp[results,results143,go_sem, *]) rfl ⟨_,rfl,Z7 HN3.out (Nat.le_succ _) _ _ _ _,Rd.nil _,Nat.le_refl _,Yp _⟩
    ·have d:decide (0<b4)=false:=by simpa using hs
     have hR:=HXx.out.symm.trans (HSt.out hany (by first | exact hs | exact Int.not_lt.1 hs))
     subst hR
     have hs1:w.heap.size+1<w3.heap.size:=hsl2
     have HQ1:=hD0 hq3
     clear hs hany HHit HNw HSt HNo HXx hp2 hq2 hp3 hq3 g3 e0 e1 e2 e3 e4 hG
     go_wp2_with fail
     refine(HCp.out _ HN3.out).mono ?_
     rintro e w4 ⟨v1,rfl,g4,hO⟩
     rcases Y7 hO with⟨_,q0⟩ | ⟨g,cap,rfl⟩
     ·omega
     have hq4:=g4.at' HQ1.out
     have hg0:=Vr hO (g:=g) rfl
     have hgl:=olt hO (g:=g) rfl
     have hal:=Z1 w4 (.cells #[.int .i64 t,.int .i64 r,.slice (some ⟨g,0,none⟩) q.length cap,.int .i64 W] 63)
     have hNa:Nw w4 (w4.alloc (.cells #[.int .i64 t,.int .i64 r,.slice (some ⟨g,0,none⟩) q.length cap,.int .i64 W] 63)):=(Nw.refl w4).alloc _
     have HNy:=hD0 (HN3.out.trans (g4.trans hNa))
     have hOy:=onw hO hNa
     have hqy:=hNa.at' hq4
     have hs4:=g4.sz
     obtain⟨pb,hpb⟩:∃pb,w4.heap.size=pb:=⟨_,rfl⟩
     rw[hpb] at hal hgl
     have hpc:∀j,(w4.alloc (.cells #[.int .i64 t,.int .i64 r,.slice (some ⟨g,0,none⟩) q.length cap,.int .i64 W] 63)).cell? ⟨pb,j,none⟩=_:=fun j=>Z0 (j:=j) hal
     have p0:=hpc 0
     have p1:=hpc 1
     have p2:=hpc 2
     have p3:=hpc 3
     have r1:=HOC.out _ _ _ _ hOy 1 _ rfl
     have rz:=V2 hOy rfl
     have hU:=HOU.out _ _ _ _ hOy
     have d0:=Z0 (j:=0) hqy
     have d1:=Z0 (j:=1) hqy
     have d2:=Z0 (j:=2) hqy
     have d3:=Z0 (j:=3) hqy
     have fz:=fun k=>hfz (j:=k) hqy
     have n1:¬(w.heap.size+1=g):=by omega
     have n2:¬(g=w.heap.size+1):=by omega
     have n3:¬(pb=g):=by omega
     have n4:¬(g=pb):=by omega
     have hgw:w.heap.size≤g:=by omega
     have hrb:w.heap.size+1<w3.heap.size:=hs1
     have HU:=hD0 hU
     have HG:=hD0 (aI0 hgw hrb)
     clear hU hpc hOy hal hqy hNa g4 hq4 hgw hrb HCp HOC HOU HQ1 hg0 hgl hs4 hs1 hsl hsl2 c0 c1 c2 c3 hO
     go_wp2
     refine bodyPost_ret (v:=.tuple #[.agg #[.int .i64 t,.int .i64 r,.slice (some ⟨g,0,none⟩) q.length cap,.int .i64 W],.int .i64 0]) (by simp[results,results143,go_sem, *]) rfl ⟨_,rfl,Z7 (HNy.out.st HG.out.1 _) (Nat.le_succ _) _ _ _ _,?_,?_⟩
     ·have:=(Y4 HU.out HG.out.2 (.int .i64 t) (.int .i64 r) (.slice (some ⟨g,0,none⟩) q.length cap) (.int .i64 W)).rd
      exact this
     ·exact⟨HU.out.cap,Z2.newV HU.out (by have:=HG.out.2;omega)⟩
end Go.Proofs.YtpffldfpabglbaaGreatDoor
