/- Texts merged: QuN, QuQ, BkV, BkW, BkX, Ints -/
import Derived.Test.YtpffldfpabglbaaGreatDoorTableScriptB3
set_option linter.unusedVariables false
set_option maxRecDepth 100000
set_option maxHeartbeats 16000000
namespace Go.Proofs.YtpffldfpabglbaaGreatDoor
open Go.RowKit _root_.Go.Proofs.Tryz
def HR2(X:Hq × Bool × Int)(w:World)(e:Ending)(w':World):Prop:=∃v',e=.returned (.tuple #[Yf X.1.t X.1.r v' X.1.W,.bool X.2.1,.int .i64 X.2.2])∧Nw w w'∧Zl w' v' X.1.q∧Z06 v'
def Zqq(X:Hq × Bool × Int)(w:World)(e:Ending)(w':World):Prop:=∃v',e=.returned (.tuple #[Yf X.1.t X.1.r v' X.1.W,.bool X.2.1,.int .i64 X.2.2])∧Nw w w'∧Zl w' v' X.1.q∧Z06 v'∧newV w.heap.size v'
theorem Zmx{W:Int}{q:List Rq}(h:Ok W q)(m:Int):free q m=true↔(∀a∈q,¬Z3n a)∧(∀a∈q,a.md≠0)∧Z67 q m (-1):=by
 constructor
 ·intro hf
  have hf':∀a∈q,a.sn=0∧U2 a.md m=true:=by
   intro a ha
   have:=List.all_eq_true.1 hf a ha
   simpa using this
  exact⟨fun a ha u=>by have:=(hf' a ha).1;have:=u.2;omega,fun a ha=>((h.rt a ha).h (hf' a ha).1).1,fun k hk _ _=>(hf' _ (gM0 hk)).2⟩
 ·rintro⟨h1,h2,h3⟩
  refine List.all_eq_true.2 fun a ha=>?_
  obtain⟨k,hk,rfl⟩:=List.getElem_of_mem ha
  have hm:=h2 _ ha
  have s0:=(h.rt _ ha).s0
  have hs:q[k].sn=0:=by
   have:=h1 _ ha
   unfold Z3n at this
   have:¬0<q[k].sn:=fun e=>this ⟨hm,e⟩
   omega
  simp[hs,h3 k hk (by omega) hm]
theorem Z6a{h:Hq}{id txn m:Int}(e:id<0∨m=0∨Zr m=false):Z03 h id txn m=(noH,false,2):=by
 unfold Z03
 have:Z12 h.q id txn m=2:=by unfold Z12;rw[if_pos e]
 rw[this];rfl
theorem Z6c{h:Hq}{id txn m:Int}(e:¬(id<0∨m=0∨Zr m=false))(a:(h.q.any fun r=>r.id==id || r.txn==txn)=true):Z03 h id txn m=(noH,false,4):=by
 unfold Z03
 have:Z12 h.q id txn m=4:=by unfold Z12;rw[if_neg e,if_pos a]
 rw[this];rfl
theorem Zgv{h:Hq}{id txn m:Int}(e:¬(id<0∨m=0∨Zr m=false))(a:(h.q.any fun r=>r.id==id || r.txn==txn)=false)(f:free h.q m=true):Z03 h id txn m=(⟨h.t,h.r,h.W,h.q++[⟨id,txn,m,m,0⟩]⟩,true,0):=by
 unfold Z03
 have:Z12 h.q id txn m=0:=by unfold Z12;rw[if_neg e,if_neg (by rw[a];simp)]
 rw[this,if_pos rfl];unfold Yv;rw[if_pos f]
theorem Zln{h:Hq}{id txn m:Int}(e:¬(id<0∨m=0∨Zr m=false))(a:(h.q.any fun r=>r.id==id || r.txn==txn)=false)(f:¬free h.q m=true):Z03 h id txn m=(⟨h.t,h.r,h.W+1,h.q++[⟨id,txn,0,m,h.W+1⟩]⟩,false,0):=by
 unfold Z03
 have:Z12 h.q id txn m=0:=by unfold Z12;rw[if_neg e,if_neg (by rw[a];simp)]
 rw[this,if_pos rfl];unfold Yv;rw[if_neg f]
theorem Zlg{p:Rq→Bool}{q:List Rq}{k:Nat}(hk:k<q.length)(h:p q[k]=true):q.any p=true:=List.any_eq_true.2 ⟨_,gM0 hk,h⟩
theorem Zlf{p:Rq→Bool}{q:List Rq}(h:∀k (hk:k<q.length),p q[k]=false):q.any p=false:=by
 rw[List.any_eq_false]
 intro a ha
 obtain⟨k,hk,rfl⟩:=List.getElem_of_mem ha
 simp[h k hk]
theorem Zr4(w:World)(a b c d e:Int)(T:TypeId):∀j u,(Zk ⟨a,b,c,d,e⟩)[j]?=some u→(w.alloc (.cells #[.int .i64 a,.int .i64 b,.int .i64 c,.int .i64 d,.int .i64 e] T)).cell? ⟨w.heap.size,j,none⟩=some u:=by
 intro j u hu
 rw[Z0 (Z1 w _),←Array.getElem?_toList]
 exact hu
theorem Z4l{w z:World}{g0 pb n1 k1:Nat}{a1:Option Addr}{q:List Rq}(hz:Nw w z)(hg:w.heap.size≤g0)(h:Z2 z g0 (.slice a1 n1 k1) q)(hl:q.length≤1000)(a b c d e:Int)(hpb:pb<z.heap.size)(hg0:g0≤z.heap.size)(hne:∀g,(Value.slice a1 n1 k1).ownBlock=some g→g≠pb) :
  ∃a2 n2 k2 w2,(Builtin.append_ #[61,61] 61 #[.slice a1 n1 k1,.slice (some ⟨z.heap.size,0,none⟩) 1 1]).run prog (z.alloc (.cells #[.int .i64 a,.int .i64 b,.int .i64 c,.int .i64 d,.int .i64 e] 50))=.ok (.slice a2 n2 k2) w2 ∧
   Z2 w2 g0 (.slice a2 n2 k2) (q++[⟨a,b,c,d,e⟩])∧Nw w w2∧(∀x,x<z.heap.size→(∀g,(Value.slice a1 n1 k1).ownBlock=some g→x≠g)→w2.heap[x]?=z.heap[x]?)∧(∀x,(Value.slice a2 n2 k2).ownBlock=some x→x≠pb):=by
 have hN:Nw z (z.alloc (.cells #[.int .i64 a,.int .i64 b,.int .i64 c,.int .i64 d,.int .i64 e] 50)):=(Nw.refl z).alloc _
 obtain⟨v',w2,hrun,hR,hG,hbk,g2,k2,hv⟩:=Yz.push Z57 (onw h hN) ⟨a,b,c,d,e⟩ z.heap.size 1 (Zr4 z a b c d e _) (by omega) (Nat.le_trans hg0 hN.sz)
 subst hv
 refine⟨_,_,_,w2,hrun,hR,(hz.trans hN).gro hG (fun x hx=>Nat.le_trans hg (Vr h hx)),fun x hx hxg=>(hG.block x (lL0 hx hN.sz) (fun e=>hxg x e.symm rfl)).trans (hN.block x hx),fun x hx e=>?_⟩
 subst e
 have hs:(z.alloc (.cells #[.int .i64 a,.int .i64 b,.int .i64 c,.int .i64 d,.int .i64 e] 50)).heap.size=z.heap.size+1:=by simp
 rcases hbk with q1 | q1
 ·rw[hx] at q1;exact hne x q1.symm rfl
 ·rw[hx] at q1;have e2:x=(z.alloc (.cells #[.int .i64 a,.int .i64 b,.int .i64 c,.int .i64 d,.int .i64 e] 50)).heap.size:=Option.some.inj q1;omega
theorem Zp4(t r W id x m:Int)(v:Value)(q:List Rq)(w:World)(hl:q.length≤1000)(hok:Ok W q)(h:Zl w v q) :
  Calls prog 146 #[Yf t r v W,.int .i64 id,.int .i64 x,.int .i64 m] w (Zqq (Z03 ⟨t,r,W,q⟩ id x m) w):=by
 have HOk:=hD0 hok
 clear hok
 obtain⟨X,hX⟩:∃X,Z03 ⟨t,r,W,q⟩ id x m=X:=⟨_,rfl⟩
 rw[hX]
 have HXx:=hD0 hX
 clear hX
 have HU:=hD0 (fun(w1:World) (g:Nw w w1)=>Z2r t r W v q w1 hl (h.nw g))
 have HWa:=hD0 (fun(w1:World) (g:Nw w w1)=>Z9l t r W v q w1 hl (h.nw g))
 have HF:=hD0 (fun(w1:World) (g:Nw w w1)=>Zfx t r W m (-1) v q w1 hl (h.nw g))
 have HCp:=hD0 (fun(w1:World) (g:Nw w w1)=>Z0o t r W v q w1 hl (h.nw g))
 have HAs:=hD0 (fun w=>Zig m w)
 unfold Yf at HCp HU HWa HF
 unfold Zqq Yf
 obtain⟨a,c,rfl,h⟩:=h
 have HH:=hD0 h
 clear h
 have HX:=hD0 (Zx w (.cells #[.int .i64 t,.int .i64 r,.slice a q.length c,.int .i64 W] 63) (.cells #[.int .i64 0,.int .i64 0,.slice none 0 0,.int .i64 0] 63))
 by_cases hid:id<0
 ·have hR:=HXx.out.symm.trans (Z6a (h:=⟨t,r,W,q⟩) (.inl hid))
  subst hR
  have HN0:=HX.out.2.2.1
  have hq0:=HX.out.2.1
  have d0:=Z0 (j:=0) hq0
  have d1:=Z0 (j:=1) hq0
  have d2:=Z0 (j:=2) hq0
  have d3:=Z0 (j:=3) hq0
  have fz:=fun k=>hfz (j:=k) hq0
  have hsl2:=hlt hq0
  have HQ:=hD0 HN0
  clear HN0 hq0 HOk HXx HU HWa HF HCp HH HX
  go_enter func146,ntmps146
  go_wp2
  refine bodyPost_ret (v:=.tuple #[.agg #[.int .i64 0,.int .i64 0,.slice none 0 0,.int .i64 0],.bool false,.int .i64 2]) (by simp[results,results146,go_sem, *]) rfl ⟨_,rfl,by first | exact HQ.out | exact Z7 HQ.out (Nat.le_succ _) _ _ _ _,Rd.nil _,Nat.le_refl _,Yp _⟩
 have hid2:decide (id<0)=false:=by simpa using hid
 obtain⟨y,hy⟩:∃y,((m != 0)&&Zr m)=y:=⟨_,rfl⟩
 rw[hy] at HAs
 cases y
 ·have hR:=HXx.out.symm.trans (Z6a (h:=⟨t,r,W,q⟩) (.inr (by cases e:Zr m with | false=>exact .inr rfl | true=>rw[e,Bool.and_true] at hy;exact .inl (by simpa using hy))))
  subst hR
  go_enter func146,ntmps146
  go_wp2_with fail
  refine(HAs.out _).mono ?_
  rintro e w1 ⟨rfl,g1⟩
  have hq1:=g1.at' HX.out.2.1
  have HQ:=hD0 (HX.out.2.2.1.trans g1)
  have d0:=Z0 (j:=0) hq1
  have d1:=Z0 (j:=1) hq1
  have d2:=Z0 (j:=2) hq1
  have d3:=Z0 (j:=3) hq1
  have fz:=fun k=>hfz (j:=k) hq1
  have hsl2:=hlt hq1
  clear g1 hq1 hy HAs HOk HXx HU HWa HF HCp HH HX
  go_wp2
  refine bodyPost_ret (v:=.tuple #[.agg #[.int .i64 0,.int .i64 0,.slice none 0 0,.int .i64 0],.bool false,.int .i64 2]) (by simp[results,results146,go_sem, *]) rfl ⟨_,rfl,Z7 HQ.out (Nat.le_succ _) _ _ _ _,Rd.nil _,Nat.le_refl _,Yp _⟩
 have hgood:¬(id<0∨m=0∨Zr m=false):=by
  rw[Bool.and_eq_true] at hy
  rintro(e | e | e)
  ·exact hid e
  ·rw[e] at hy;exact absurd hy.1 (by simp)
  ·rw[hy.2] at e;cases e
 have HTw:=hD0 (fun a=>Z6c (h:=⟨t,r,W,q⟩) (txn:=x) hgood a)
 have HYes:=hD0 (fun a f=>Zgv (h:=⟨t,r,W,q⟩) (txn:=x) hgood a f)
 have HNo:=hD0 (fun a f=>Zln (h:=⟨t,r,W,q⟩) (txn:=x) hgood a f)
 have HFr:=hD0 (Zmx HOk.out m)
 have HWB:=hD0 (aI0 HOk.out.w0 HOk.out.wB)
 clear hgood hy
 go_enter func146,ntmps146
 go_wp2_with fail
 refine(HAs.out _).mono ?_
 rintro e w1 ⟨rfl,g1⟩
 have hp1:=g1.at' HX.out.1
 have hq1:=g1.at' HX.out.2.1
 have HN1:=hD0 (HX.out.2.2.1.trans g1)
 have HP1:=hD0 (aI0 hp1 hq1)
 have c0:=Z0 (j:=0) hp1
 have c1:=Z0 (j:=1) hp1
 have c2:=Z0 (j:=2) hp1
 have c3:=Z0 (j:=3) hp1
 have hsl:=hlt hp1
 have hsl2:=hlt hq1
 clear hp1 hq1 g1 HAs HX HOk
 go_wp2
 go_loopw [11] (fun i wr=>∃k:Nat,k≤q.length∧i=.int .i64 k∧(∀n (hn:n<q.length),n<k→(q[n].id==id || q[n].txn==x)=false)∧Nw w1 wr) (fun i _=>q.length-(intOf i).toNat)
 case atStart=>exact⟨0,Nat.zero_le _,rfl,fun n _ h=>absurd h (Nat.not_lt_zero _),Nw.refl _⟩
 case round =>
  clear c0 c1 c2 c3 hsl hsl2
  obtain⟨k,hk,rfl,hf,hG⟩:=hrel
  have hp2:=hG.at' HP1.out.1
  have hq2:=hG.at' HP1.out.2
  have HN2:=hD0 (HN1.out.trans hG)
  have c0:=Z0 (j:=0) hp2
  have c1:=Z0 (j:=1) hp2
  have c2:=Z0 (j:=2) hp2
  have c3:=Z0 (j:=3) hp2
  have hsl:=hlt hp2
  have hsl2:=hlt hq2
  by_cases hlk:k<q.length
  ·rcases HH.out with⟨e,_⟩ | ⟨b,o,rfl,hc⟩
   ·subst e;simp at hlk
   have hce:=(hc.nw HN2.out).cell k hlk
   have hAny:=hD0 (fun e=>HTw.out (Zlg (p:=fun r=>r.id==id || r.txn==x) hlk e))
   have hSm:=hD0 (show(q[k].id==id || q[k].txn==x)=false→∀n (hn:n<q.length),n<k+1→(q[n].id==id || q[n].txn==x)=false from fun e n hn hnk=>by
    rcases Nat.lt_or_ge n k with g | g
    ·exact hf n hn g
    ·obtain rfl:n=k:=by omega
     exact e)
   generalize q[k]=A at *
   obtain⟨f0,f1,f2,f3,f4⟩:=A
   have e0:=hce 0 _ rfl
   have e1:=hce 1 _ rfl
   have e2:=hce 2 _ rfl
   have e3:=hce 3 _ rfl
   have e4:=hce 4 _ rfl
   simp only[Nat.add_zero] at e0
   have HG:=hD0 hG
   clear hce hf hG HU HWa HF HCp HYes HNo HFr hc HH
   by_cases h1:f0=id
   ·have d:(f0==id)=true:=by simpa using h1
    have hR:=HXx.out.symm.trans (hAny.out (by simp[h1]))
    subst hR
    have d0:=Z0 (j:=0) hq2
    have d1:=Z0 (j:=1) hq2
    have d2:=Z0 (j:=2) hq2
    have d3:=Z0 (j:=3) hq2
    have fz:=fun k=>hfz (j:=k) hq2
    clear h1 hAny hSm HTw HXx
    go_wp2
    refine bodyPost_ret (v:=.tuple #[.agg #[.int .i64 0,.int .i64 0,.slice none 0 0,.int .i64 0],.bool false,.int .i64 4]) (by simp[results,results146,go_sem, *]) rfl ⟨_,rfl,Z7 HN2.out (Nat.le_succ _) _ _ _ _,Rd.nil _,Nat.le_refl _,Yp _⟩
   have d:(f0==id)=false:=by simpa using h1
   by_cases h2:f1=x
   ·have d2:(f1==x)=true:=by simpa using h2
    have hR:=HXx.out.symm.trans (hAny.out (by simp[h2]))
    subst hR
    have d0:=Z0 (j:=0) hq2
    have d1:=Z0 (j:=1) hq2
    have d2:=Z0 (j:=2) hq2
    have d3:=Z0 (j:=3) hq2
    have fz:=fun k=>hfz (j:=k) hq2
    clear h1 h2 hAny hSm HTw HXx
    go_wp2
    refine bodyPost_ret (v:=.tuple #[.agg #[.int .i64 0,.int .i64 0,.slice none 0 0,.int .i64 0],.bool false,.int .i64 4]) (by simp[results,results146,go_sem, *]) rfl ⟨_,rfl,Z7 HN2.out (Nat.le_succ _) _ _ _ _,Rd.nil _,Nat.le_refl _,Yp _⟩
   have d2:(f1==x)=false:=by simpa using h2
   have HS2:=hD0 (hSm.out (by simp[h1,h2]))
   clear h1 h2 hAny hSm HTw HXx
   go_wp2
   go_roundw
   case rel=>exact⟨k+1,by omega,by go_num,HS2.out,HG.out⟩
   case measure=>simp[intOf];omega
  ·obtain rfl:k=q.length:=by omega
   have hany:(q.any fun r=>r.id==id || r.txn==x)=false:=Zlf (fun n hn=>hf n hn hn)
   have HYs:=hD0 (fun f=>HXx.out.symm.trans (HYes.out hany f))
   have HNs:=hD0 (fun f=>HXx.out.symm.trans (HNo.out hany f))
   have HQ1:=hD0 (aI0 hp2 hq2)
   clear hf hany HTw HYes HNo HXx hp2 hq2 hG HH
   go_wp2_with fail
   refine(HCp.out _ HN2.out).mono ?_
   rintro e w4 ⟨v1,rfl,g4,hO⟩
   obtain⟨a1,k1,hv1⟩:=(Z2.rd hO).form
   subst hv1
   have hq4:=g4.at' HQ1.out.2
   have hp4:=g4.at' HQ1.out.1
   have hal:=Z1 w4 (.cells #[.int .i64 t,.int .i64 r,.slice a1 q.length k1,.int .i64 W] 63)
   have hNa:Nw w4 (w4.alloc (.cells #[.int .i64 t,.int .i64 r,.slice a1 q.length k1,.int .i64 W] 63)):=(Nw.refl w4).alloc _
   have HNy:=hD0 (HN2.out.trans (g4.trans hNa))
   have hOy:=onw hO hNa
   have hqy:=hNa.at' hq4
   have hpy:=hNa.at' hp4
   have hs4:=g4.sz
   have hs1:w.heap.size+1<wr.heap.size:=hsl2
   obtain⟨pb,hpb⟩:∃pb,w4.heap.size=pb:=⟨_,rfl⟩
   rw[hpb] at hal
   have hne:∀g,(Value.slice a1 q.length k1).ownBlock=some g→g≠pb:=fun g hg e=>by have:=olt hO hg;omega
   have hge:∀g,(Value.slice a1 q.length k1).ownBlock=some g→wr.heap.size≤g:=fun g hg=>Vr hO hg
   have hrp:¬(w.heap.size+1=pb):=by omega
   have hrp2:¬(pb=w.heap.size+1):=by omega
   have HA:=hD0 (aI0 hal (aI0 hqy (aI0 hOy (aI0 hne (aI0 hge (aI0 (show w.heap.size≤pb∧w.heap.size≤wr.heap.size∧w.heap.size+1<wr.heap.size∧wr.heap.size≤pb from⟨by omega,by omega,hs1,by omega⟩) hpy))))))
   clear c0 c1 c2 c3 hsl hsl2 hO g4 hq4 hs4 HQ1 hal hqy hOy hne hge hs1
   have c0:=Z0 (j:=0) hp4
   have c1:=Z0 (j:=1) hp4
   have c2:=Z0 (j:=2) hp4
   have c3:=Z0 (j:=3) hp4
   have hsl:=hlt hp4
   clear hp4
   have HPb:=hD0 hpb
   clear hpb
   go_wp2_with fail
   rw[HPb.out]
   clear HPb
   generalize w4.alloc (.cells #[.int .i64 t,.int .i64 r,.slice a1 q.length k1,.int .i64 W] 63)=y at *
   clear hNa hpy c0 c1 c2 c3 hsl
   have hpy:=HA.out.2.2.2.2.2.2
   have c0:=Z0 (j:=0) hpy
   have c1:=Z0 (j:=1) hpy
   have c2:=Z0 (j:=2) hpy
   have c3:=Z0 (j:=3) hpy
   have hsl:=hlt hpy
   clear hpy
   refine(HU.out _ HNy.out).mono ?_
   rintro e w5 ⟨ju,rfl,g5,hju⟩
   rcases hju with⟨rfl,hju⟩ | ⟨mu,rfl,_,hmu,hum,_⟩
   rotate_left
   ·have hR:=HNs.out (fun e=>((HFr.out.1 e).1 _ (gM0 hmu)) hum)
    subst hR
    have du:decide ((mu:Int)<0)=false:=by simp
    have hal:=g5.at' HA.out.1
    have hqz:=g5.at' HA.out.2.1
    have hOz:=onw HA.out.2.2.1 g5
    have hNz:=HNy.out.trans g5
    have hpl:=hlt hal
    have hw0:=HWB.out.1
    have hw1:=HWB.out.2
    have hwr:IntKind.i64.wrap (W+1)=W+1:=by rw[IntKind.wrap_i64]<;>omega
    have hal2:(w5.setCell ⟨pb,3,none⟩ (.int .i64 (W+1))).heap[pb]?=some (.cells #[.int .i64 t,.int .i64 r,.slice a1 q.length k1,.int .i64 (W+1)] 63 (0,0)):=Vw (j:=3) (.int .i64 (W+1)) hal
    have hqz2:(w5.setCell ⟨pb,3,none⟩ (.int .i64 (W+1))).heap[w.heap.size+1]?=_:=(Below.heap_setCell _ _ _ _ (fun e=>hrp e)).trans hqz
    have hOz2:=Ug hOz (Yg w5 ⟨pb,3,none⟩ (.int .i64 (W+1))) (fun x hx e=>HA.out.2.2.2.1 x hx (Option.some.inj e).symm)
    have hNz2:Nw w (w5.setCell ⟨pb,3,none⟩ (.int .i64 (W+1))):=hNz.st HA.out.2.2.2.2.2.1.1 _
    have hsz2:(w5.setCell ⟨pb,3,none⟩ (.int .i64 (W+1))).heap.size=w5.heap.size:=by simp[World.setCell]
    obtain⟨a2,n2,k2,w8,hrun,hR8,hN8,hK8,hb8⟩:=Z4l hNz2 HA.out.2.2.2.2.2.1.2.1 hOz2 hl id x 0 m (W+1) (by rw[hsz2];exact hpl) (by rw[hsz2];have:=HA.out.2.2.2.2.2.1.2.2.2;omega) HA.out.2.2.2.1
    rw[hsz2] at hrun
    have hal8:=(hK8 pb (by rw[hsz2];exact hpl) (fun x hx e=>HA.out.2.2.2.1 x hx e.symm)).trans hal2
    have hq8:=(hK8 _ (by rw[hsz2];exact hlt hqz) (fun x hx e=>by have:=HA.out.2.2.2.2.1 x hx;have:=HA.out.2.2.2.2.2.1.2.2.1;omega)).trans hqz2
    have p0:=Z0 (j:=0) hal
    have p1:=Z0 (j:=1) hal
    have p2:=Z0 (j:=2) hal
    have p3:=Z0 (j:=3) hal
    have pz:=fun j=>hfz (j:=j) hal
    have x0:=Z0 (j:=0) hal8
    have x1:=Z0 (j:=1) hal8
    have x2:=Z0 (j:=2) hal8
    have x3:=Z0 (j:=3) hal8
    have xz:=fun j=>hfz (j:=j) hal8
    have d0:=Z0 (j:=0) hq8
    have d1:=Z0 (j:=1) hq8
    have d2:=Z0 (j:=2) hq8
    have d3:=Z0 (j:=3) hq8
    have fz:=fun k=>hfz (j:=k) hq8
    have HR:=hD0 hrun
    have HO8:=hD0 (aI0 hR8 (aI0 hN8 hb8))
    clear hrun hR8 hN8 hK8 hb8 hal8 hq8 hal2 hqz2 hOz2 hNz2 hsz2 hal hqz hOz hNz hw0 hw1 c0 c1 c2 c3 hsl HU HWa HF HNs HYs HFr
    go_wp2_with (at_builtin;refine Z5 (by rfl) (.tmp 78) (.tmp 85) 61 rfl _ _ _ _ rfl rfl HR.out ?_)
    refine bodyPost_ret (v:=.tuple #[.agg #[.int .i64 t,.int .i64 r,.slice a2 n2 k2,.int .i64 (W+1)],.bool false,.int .i64 0]) (by simp[results,results146,go_sem, *]) rfl ⟨_,rfl,Z7 (HO8.out.2.1.st HA.out.2.2.2.2.2.1.1 _) (Nat.le_succ _) _ _ _ _,?_,?_⟩
    ·have hO5:=Ug HO8.out.1 (Yg w8 ⟨pb,2,none⟩ (.slice a2 n2 k2)) (fun x hx e=>HO8.out.2.2 x hx (Option.some.inj e).symm)
     exact Z2.rd (Y4 hO5 HA.out.2.2.2.2.2.1.2.2.1 _ _ _ _)
    ·exact⟨HO8.out.1.cap,Z2.newV HO8.out.1 (by have:=HA.out.2.2.2.2.2.1.2.2.1;omega)⟩
   have hpy:=g5.at' HA.out.2.2.2.2.2.2
   clear c0 c1 c2 c3 hsl
   have c0:=Z0 (j:=0) hpy
   have c1:=Z0 (j:=1) hpy
   have c2:=Z0 (j:=2) hpy
   have c3:=Z0 (j:=3) hpy
   have hsl:=hlt hpy
   clear hpy
   go_wp2_with fail
   refine(HWa.out _ (HNy.out.trans g5)).mono ?_
   rintro e w6 ⟨jw,rfl,g6,hjw⟩
   rcases hjw with⟨rfl,hjw⟩ | ⟨mw,rfl,hmw,hwm,_⟩
   rotate_left
   ·have hR:=HNs.out (fun e=>((HFr.out.1 e).2.1 _ (gM0 hmw)) hwm)
    subst hR
    have dw:decide ((mw:Int)<0)=false:=by simp
    have g56:=g5.trans g6
    have hal:=g56.at' HA.out.1
    have hqz:=g56.at' HA.out.2.1
    have hOz:=onw HA.out.2.2.1 g56
    have hNz:=HNy.out.trans g56
    have hpl:=hlt hal
    have hw0:=HWB.out.1
    have hw1:=HWB.out.2
    have hwr:IntKind.i64.wrap (W+1)=W+1:=by rw[IntKind.wrap_i64]<;>omega
    have hal2:(w6.setCell ⟨pb,3,none⟩ (.int .i64 (W+1))).heap[pb]?=some (.cells #[.int .i64 t,.int .i64 r,.slice a1 q.length k1,.int .i64 (W+1)] 63 (0,0)):=Vw (j:=3) (.int .i64 (W+1)) hal
    have hqz2:(w6.setCell ⟨pb,3,none⟩ (.int .i64 (W+1))).heap[w.heap.size+1]?=_:=(Below.heap_setCell _ _ _ _ (fun e=>hrp e)).trans hqz
    have hOz2:=Ug hOz (Yg w6 ⟨pb,3,none⟩ (.int .i64 (W+1))) (fun x hx e=>HA.out.2.2.2.1 x hx (Option.some.inj e).symm)
    have hNz2:Nw w (w6.setCell ⟨pb,3,none⟩ (.int .i64 (W+1))):=hNz.st HA.out.2.2.2.2.2.1.1 _
    have hsz2:(w6.setCell ⟨pb,3,none⟩ (.int .i64 (W+1))).heap.size=w6.heap.size:=by simp[World.setCell]
    obtain⟨a2,n2,k2,w8,hrun,hR8,hN8,hK8,hb8⟩:=Z4l hNz2 HA.out.2.2.2.2.2.1.2.1 hOz2 hl id x 0 m (W+1) (by rw[hsz2];exact hpl) (by rw[hsz2];have:=HA.out.2.2.2.2.2.1.2.2.2;omega) HA.out.2.2.2.1
    rw[hsz2] at hrun
    have hal8:=(hK8 pb (by rw[hsz2];exact hpl) (fun x hx e=>HA.out.2.2.2.1 x hx e.symm)).trans hal2
    have hq8:=(hK8 _ (by rw[hsz2];exact hlt hqz) (fun x hx e=>by have:=HA.out.2.2.2.2.1 x hx;have:=HA.out.2.2.2.2.2.1.2.2.1;omega)).trans hqz2
    have p0:=Z0 (j:=0) hal
    have p1:=Z0 (j:=1) hal
    have p2:=Z0 (j:=2) hal
    have p3:=Z0 (j:=3) hal
    have pz:=fun j=>hfz (j:=j) hal
    have x0:=Z0 (j:=0) hal8
    have x1:=Z0 (j:=1) hal8
    have x2:=Z0 (j:=2) hal8
    have x3:=Z0 (j:=3) hal8
    have xz:=fun j=>hfz (j:=j) hal8
    have d0:=Z0 (j:=0) hq8
    have d1:=Z0 (j:=1) hq8
    have d2:=Z0 (j:=2) hq8
    have d3:=Z0 (j:=3) hq8
    have fz:=fun k=>hfz (j:=k) hq8
    have HR:=hD0 hrun
    have HO8:=hD0 (aI0 hR8 (aI0 hN8 hb8))
    clear hrun hR8 hN8 hK8 hb8 hal8 hq8 hal2 hqz2 hOz2 hNz2 hsz2 hal hqz hOz hNz hw0 hw1 c0 c1 c2 c3 hsl HU HWa HF HNs HYs HFr
    go_wp2_with (at_builtin;refine Z5 (by rfl) (.tmp 78) (.tmp 85) 61 rfl _ _ _ _ rfl rfl HR.out ?_)
    refine bodyPost_ret (v:=.tuple #[.agg #[.int .i64 t,.int .i64 r,.slice a2 n2 k2,.int .i64 (W+1)],.bool false,.int .i64 0]) (by simp[results,results146,go_sem, *]) rfl ⟨_,rfl,Z7 (HO8.out.2.1.st HA.out.2.2.2.2.2.1.1 _) (Nat.le_succ _) _ _ _ _,?_,?_⟩
    ·have hO5:=Ug HO8.out.1 (Yg w8 ⟨pb,2,none⟩ (.slice a2 n2 k2)) (fun x hx e=>HO8.out.2.2 x hx (Option.some.inj e).symm)
     exact Z2.rd (Y4 hO5 HA.out.2.2.2.2.2.1.2.2.1 _ _ _ _)
    ·exact⟨HO8.out.1.cap,Z2.newV HO8.out.1 (by have:=HA.out.2.2.2.2.2.1.2.2.1;omega)⟩
   have g56:=g5.trans g6
   have hpy:=g56.at' HA.out.2.2.2.2.2.2
   clear c0 c1 c2 c3 hsl
   have c0:=Z0 (j:=0) hpy
   have c1:=Z0 (j:=1) hpy
   have c2:=Z0 (j:=2) hpy
   have c3:=Z0 (j:=3) hpy
   have hsl:=hlt hpy
   clear hpy
   go_wp2_with fail
   refine(HF.out _ (HNy.out.trans g56)).mono ?_
   rintro e w7 ⟨f,rfl,g7,hff⟩
   have g57:=g56.trans g7
   have hall:=fun a ha u=>hju a (by rw[List.take_length];exact ha) u
   cases f
   ·have hR:=HNs.out (fun e=>by have:=hff.2 (HFr.out.1 e).2.2;cases this)
    subst hR
    clear hff hall hju hjw
    have hal:=g57.at' HA.out.1
    have hqz:=g57.at' HA.out.2.1
    have hOz:=onw HA.out.2.2.1 g57
    have hNz:=HNy.out.trans g57
    have hpl:=hlt hal
    have hw0:=HWB.out.1
    have hw1:=HWB.out.2
    have hwr:IntKind.i64.wrap (W+1)=W+1:=by rw[IntKind.wrap_i64]<;>omega
    have hal2:(w7.setCell ⟨pb,3,none⟩ (.int .i64 (W+1))).heap[pb]?=some (.cells #[.int .i64 t,.int .i64 r,.slice a1 q.length k1,.int .i64 (W+1)] 63 (0,0)):=Vw (j:=3) (.int .i64 (W+1)) hal
    have hqz2:(w7.setCell ⟨pb,3,none⟩ (.int .i64 (W+1))).heap[w.heap.size+1]?=_:=(Below.heap_setCell _ _ _ _ (fun e=>hrp e)).trans hqz
    have hOz2:=Ug hOz (Yg w7 ⟨pb,3,none⟩ (.int .i64 (W+1))) (fun x hx e=>HA.out.2.2.2.1 x hx (Option.some.inj e).symm)
    have hNz2:Nw w (w7.setCell ⟨pb,3,none⟩ (.int .i64 (W+1))):=hNz.st HA.out.2.2.2.2.2.1.1 _
    have hsz2:(w7.setCell ⟨pb,3,none⟩ (.int .i64 (W+1))).heap.size=w7.heap.size:=by simp[World.setCell]
    obtain⟨a2,n2,k2,w8,hrun,hR8,hN8,hK8,hb8⟩:=Z4l hNz2 HA.out.2.2.2.2.2.1.2.1 hOz2 hl id x 0 m (W+1) (by rw[hsz2];exact hpl) (by rw[hsz2];have:=HA.out.2.2.2.2.2.1.2.2.2;omega) HA.out.2.2.2.1
    rw[hsz2] at hrun
    have hal8:=(hK8 pb (by rw[hsz2];exact hpl) (fun x hx e=>HA.out.2.2.2.1 x hx e.symm)).trans hal2
    have hq8:=(hK8 _ (by rw[hsz2];exact hlt hqz) (fun x hx e=>by have:=HA.out.2.2.2.2.1 x hx;have:=HA.out.2.2.2.2.2.1.2.2.1;omega)).trans hqz2
    have p0:=Z0 (j:=0) hal
    have p1:=Z0 (j:=1) hal
    have p2:=Z0 (j:=2) hal
    have p3:=Z0 (j:=3) hal
    have pz:=fun j=>hfz (j:=j) hal
    have x0:=Z0 (j:=0) hal8
    have x1:=Z0 (j:=1) hal8
    have x2:=Z0 (j:=2) hal8
    have x3:=Z0 (j:=3) hal8
    have xz:=fun j=>hfz (j:=j) hal8
    have d0:=Z0 (j:=0) hq8
    have d1:=Z0 (j:=1) hq8
    have d2:=Z0 (j:=2) hq8
    have d3:=Z0 (j:=3) hq8
    have fz:=fun k=>hfz (j:=k) hq8
    have HR:=hD0 hrun
    have HO8:=hD0 (aI0 hR8 (aI0 hN8 hb8))
    clear hrun hR8 hN8 hK8 hb8 hal8 hq8 hal2 hqz2 hOz2 hNz2 hsz2 hal hqz hOz hNz hw0 hw1 c0 c1 c2 c3 hsl HU HWa HF HNs HYs HFr
    go_wp2_with (at_builtin;refine Z5 (by rfl) (.tmp 78) (.tmp 85) 61 rfl _ _ _ _ rfl rfl HR.out ?_)
    refine bodyPost_ret (v:=.tuple #[.agg #[.int .i64 t,.int .i64 r,.slice a2 n2 k2,.int .i64 (W+1)],.bool false,.int .i64 0]) (by simp[results,results146,go_sem, *]) rfl ⟨_,rfl,Z7 (HO8.out.2.1.st HA.out.2.2.2.2.2.1.1 _) (Nat.le_succ _) _ _ _ _,?_,?_⟩
    ·have hO5:=Ug HO8.out.1 (Yg w8 ⟨pb,2,none⟩ (.slice a2 n2 k2)) (fun x hx e=>HO8.out.2.2 x hx (Option.some.inj e).symm)
     exact Z2.rd (Y4 hO5 HA.out.2.2.2.2.2.1.2.2.1 _ _ _ _)
    ·exact⟨HO8.out.1.cap,Z2.newV HO8.out.1 (by have:=HA.out.2.2.2.2.2.1.2.2.1;omega)⟩
   ·have hR:=HYs.out (HFr.out.2 ⟨hall,hjw,hff.1 rfl⟩)
    subst hR
    clear hff hall hju hjw
    have hal:=g57.at' HA.out.1
    have hqz:=g57.at' HA.out.2.1
    have hOz:=onw HA.out.2.2.1 g57
    have hNz:=HNy.out.trans g57
    have hpl:=hlt hal
    have hw0:=HWB.out.1
    have hw1:=HWB.out.2
    obtain⟨a2,n2,k2,w8,hrun,hR8,hN8,hK8,hb8⟩:=Z4l hNz HA.out.2.2.2.2.2.1.2.1 hOz hl id x m m 0 hpl (by have:=HA.out.2.2.2.2.2.1.2.2.2;omega) HA.out.2.2.2.1
    have hal8:=(hK8 pb hpl (fun x hx e=>HA.out.2.2.2.1 x hx e.symm)).trans hal
    have hq8:=(hK8 _ (hlt hqz) (fun x hx e=>by have:=HA.out.2.2.2.2.1 x hx;have:=HA.out.2.2.2.2.2.1.2.2.1;omega)).trans hqz
    have p0:=Z0 (j:=0) hal
    have p1:=Z0 (j:=1) hal
    have p2:=Z0 (j:=2) hal
    have p3:=Z0 (j:=3) hal
    have pz:=fun j=>hfz (j:=j) hal
    have x0:=Z0 (j:=0) hal8
    have x1:=Z0 (j:=1) hal8
    have x2:=Z0 (j:=2) hal8
    have x3:=Z0 (j:=3) hal8
    have xz:=fun j=>hfz (j:=j) hal8
    have d0:=Z0 (j:=0) hq8
    have d1:=Z0 (j:=1) hq8
    have d2:=Z0 (j:=2) hq8
    have d3:=Z0 (j:=3) hq8
    have fz:=fun k=>hfz (j:=k) hq8
    have HR:=hD0 hrun
    have HO8:=hD0 (aI0 hR8 (aI0 hN8 hb8))
    clear hrun hR8 hN8 hK8 hb8 hal8 hq8 hal hqz hOz hNz hw0 hw1 c0 c1 c2 c3 hsl HU HWa HF HNs HYs HFr
    go_wp2_with (at_builtin;refine Z5 (by rfl) (.tmp 63) (.tmp 69) 61 rfl _ _ _ _ rfl rfl HR.out ?_)
    refine bodyPost_ret (v:=.tuple #[.agg #[.int .i64 t,.int .i64 r,.slice a2 n2 k2,.int .i64 W],.bool true,.int .i64 0]) (by simp[results,results146,go_sem, *]) rfl ⟨_,rfl,Z7 (HO8.out.2.1.st HA.out.2.2.2.2.2.1.1 _) (Nat.le_succ _) _ _ _ _,?_,?_⟩
    ·have hO5:=Ug HO8.out.1 (Yg w8 ⟨pb,2,none⟩ (.slice a2 n2 k2)) (fun x hx e=>HO8.out.2.2 x hx (Option.some.inj e).symm)
     exact Z2.rd (Y4 hO5 HA.out.2.2.2.2.2.1.2.2.1 _ _ _ _)
    ·exact⟨HO8.out.1.cap,Z2.newV HO8.out.1 (by have:=HA.out.2.2.2.2.2.1.2.2.1;omega)⟩
theorem Zu9{W:Int}{q:List Rq}(h:Ok W q){k:Nat}(hk:k<q.length)(hs:q[k].sn=0)(want:Int):upF q q[k] want=true↔Z67 q want k∧∀a∈q,¬Z3n a:=by
 constructor
 ·intro hf
  have hf':∀o∈q,o.id≠q[k].id→¬(0<o.sn∧o.md≠0)∧(o.md=0∨U2 o.md want=true):=by
   intro o ho ne
   have:=List.all_eq_true.1 hf o ho
   simp[ne] at this
   refine⟨fun e=>?_,this.2⟩
   rcases this.1 with q1 | q1
   ·have:=e.1;omega
   ·exact e.2 q1
  refine⟨fun j hj ne hm=>?_,fun a ha u=>?_⟩
  ·exact(hf' _ (gM0 hj) (Z96 h hj hk (by omega))).2.resolve_left hm
  ·obtain⟨j,hj,rfl⟩:=List.getElem_of_mem ha
   by_cases e:j=k
   ·subst e;have:=u.2;omega
   ·exact(hf' _ (gM0 hj) (Z96 h hj hk e)).1 ⟨u.2,u.1⟩
 ·rintro⟨h1,h2⟩
  refine List.all_eq_true.2 fun a ha=>?_
  obtain⟨j,hj,rfl⟩:=List.getElem_of_mem ha
  by_cases e:j=k
  ·subst e;simp
  ·have hu:=h2 _ ha
   have hne:=Z96 h hj hk e
   by_cases hm:q[j].md=0
   ·simp[hm]
   ·have hsn:¬0<q[j].sn:=fun e=>hu ⟨hm,e⟩
    simp[hne,hm,h1 j hj (by omega) hm]
    omega
theorem Zqj{h:Hq}{id m:Int}(e:m=0∨Zr m=false):upR h id m=(noH,false,2):=by unfold upR;rw[if_pos e]
theorem Ziw{h:Hq}{id m:Int}(e:¬(m=0∨Zr m=false))(f:Yr h.q id=none):upR h id m=(noH,false,5):=by unfold upR;rw[if_neg e,f]
theorem Zix{h:Hq}{id m:Int}{R:Rq}(e:¬(m=0∨Zr m=false))(f:Yr h.q id=some R)(s:0<R.sn):upR h id m=(noH,false,7):=by unfold upR;rw[if_neg e,f];exact if_pos s
theorem Zvb{h:Hq}{id m:Int}{R:Rq}(e:¬(m=0∨Zr m=false))(f:Yr h.q id=some R)(s:¬0<R.sn):upR h id m=(⟨h.t,h.r,(upQ h.W h.q R m).1,(upQ h.W h.q R m).2.1⟩,(upQ h.W h.q R m).2.2,0):=by unfold upR;rw[if_neg e,f];exact if_neg s
theorem Ze1{q:List Rq}{k:Nat}(hk:k<q.length)(x:Rq)(e:x=q[k]):q.set k x=q:=by subst e;exact List.set_getElem_self hk
theorem Z80(t r W id m:Int)(v:Value)(q:List Rq)(w:World)(hl:q.length≤1000)(hok:Ok W q)(h:Zl w v q) :
  Calls prog 136 #[Yf t r v W,.int .i64 id,.int .i64 m] w (Zqq (upR ⟨t,r,W,q⟩ id m) w):=by
 have HOk:=hD0 hok
 clear hok
 obtain⟨X,hX⟩:∃X,upR ⟨t,r,W,q⟩ id m=X:=⟨_,rfl⟩
 rw[hX]
 have HXx:=hD0 hX
 clear hX
 have HA:=hD0 (fun(w1:World) (g:Nw w w1)=>Zp5 t r W id v q w1 hl (h.nw g))
 have HU:=hD0 (fun(w1:World) (g:Nw w w1)=>Z2r t r W v q w1 hl (h.nw g))
 have HF:=hD0 (fun(mm but:Int) (w1:World) (g:Nw w w1)=>Zfx t r W mm but v q w1 hl (h.nw g))
 have HCp:=hD0 (fun(w1:World) (g:Nw w w1)=>Z0o t r W v q w1 hl (h.nw g))
 have HAs:=hD0 (fun w=>Zig m w)
 unfold Yf at HCp HU HA HF
 unfold Zqq Yf
 obtain⟨a,c,rfl,h⟩:=h
 have HH:=hD0 h
 clear h
 have HX:=hD0 (Zx w (.cells #[.int .i64 t,.int .i64 r,.slice a q.length c,.int .i64 W] 63) (.cells #[.int .i64 0,.int .i64 0,.slice none 0 0,.int .i64 0] 63))
 obtain⟨y,hy⟩:∃y,((m != 0)&&Zr m)=y:=⟨_,rfl⟩
 rw[hy] at HAs
 cases y
 ·have hR:=HXx.out.symm.trans (Zqj (h:=⟨t,r,W,q⟩) (by cases e:Zr m with | false=>exact .inr rfl | true=>rw[e,Bool.and_true] at hy;exact .inl (by simpa using hy)))
  subst hR
  go_enter func136,ntmps136
  go_wp2_with fail
  refine(HAs.out _).mono ?_
  rintro e w1 ⟨rfl,g1⟩
  have hq1:=g1.at' HX.out.2.1
  have HQ:=hD0 (HX.out.2.2.1.trans g1)
  have d0:=Z0 (j:=0) hq1
  have d1:=Z0 (j:=1) hq1
  have d2:=Z0 (j:=2) hq1
  have d3:=Z0 (j:=3) hq1
  have fz:=fun k=>hfz (j:=k) hq1
  have hsl2:=hlt hq1
  clear g1 hq1 hy HAs HOk HXx HU HF HCp HH HX HA
  go_wp2
  refine bodyPost_ret (v:=.tuple #[.agg #[.int .i64 0,.int .i64 0,.slice none 0 0,.int .i64 0],.bool false,.int .i64 2]) (by simp[results,results136,go_sem, *]) rfl ⟨_,rfl,Z7 HQ.out (Nat.le_succ _) _ _ _ _,Rd.nil _,Nat.le_refl _,Yp _⟩
 have hgood:¬(m=0∨Zr m=false):=by
  rw[Bool.and_eq_true] at hy
  rintro(e | e)
  ·rw[e] at hy;exact absurd hy.1 (by simp)
  ·rw[hy.2] at e;cases e
 have hmk:Zr m=true:=by rw[Bool.and_eq_true] at hy;exact hy.2
 have HGd:=hD0 (aI0 hgood hmk)
 have HWB:=hD0 (aI0 HOk.out.w0 HOk.out.wB)
 clear hgood hy hmk
 go_enter func136,ntmps136
 go_wp2_with fail
 refine(HAs.out _).mono ?_
 rintro e w0 ⟨rfl,g0⟩
 have hp0:=g0.at' HX.out.1
 have hq0:=g0.at' HX.out.2.1
 have HN0:=hD0 (HX.out.2.2.1.trans g0)
 have c0:=Z0 (j:=0) hp0
 have c1:=Z0 (j:=1) hp0
 have c2:=Z0 (j:=2) hp0
 have c3:=Z0 (j:=3) hp0
 have hsl:=hlt hp0
 have hsl2:=hlt hq0
 clear HAs HX
 go_wp2_with fail
 refine(HA.out _ HN0.out).mono ?_
 rintro e w1 ⟨i,rfl,g1,hi⟩
 have hp1:=g1.at' hp0
 have hq1:=g1.at' hq0
 have HN1:=hD0 (HN0.out.trans g1)
 clear c0 c1 c2 c3
 have c0:=Z0 (j:=0) hp1
 have c1:=Z0 (j:=1) hp1
 have c2:=Z0 (j:=2) hp1
 have c3:=Z0 (j:=3) hp1
 have hsl:=hlt hp1
 have hsl2:=hlt hq1
 clear g0 g1 hp0 hq0 HA
 rcases hi with⟨rfl,hf⟩ | ⟨k,rfl,hk,hf⟩
 ·have hR:=HXx.out.symm.trans (Ziw (h:=⟨t,r,W,q⟩) HGd.out.1 hf)
  subst hR
  have d0:=Z0 (j:=0) hq1
  have d1:=Z0 (j:=1) hq1
  have d2:=Z0 (j:=2) hq1
  have d3:=Z0 (j:=3) hq1
  have fz:=fun k=>hfz (j:=k) hq1
  clear hf hp1 hq1 HOk HXx HU HF HCp HH
  go_wp2
  refine bodyPost_ret (v:=.tuple #[.agg #[.int .i64 0,.int .i64 0,.slice none 0 0,.int .i64 0],.bool false,.int .i64 5]) (by simp[results,results136,go_sem, *]) rfl ⟨_,rfl,Z7 HN1.out (Nat.le_succ _) _ _ _ _,Rd.nil _,Nat.le_refl _,Yp _⟩
 ·rcases HH.out with⟨e,_⟩ | ⟨b,o,rfl,hc⟩
  ·subst e;simp at hk
  have hC1:=hc.nw HN1.out
  have hki:(k:Int)<(q.length:Int):=by omega
  have hbw:=hc.lt
  have HRt:=hD0 (HOk.out.rt _ (gM0 hk))
  have HWt:=hD0 (fun s=>HXx.out.symm.trans (Zix (h:=⟨t,r,W,q⟩) HGd.out.1 hf s))
  have HGo:=hD0 (fun s=>HXx.out.symm.trans (Zvb (h:=⟨t,r,W,q⟩) HGd.out.1 hf s))
  have HUf:=hD0 (fun s=>Zu9 HOk.out hk s (Yi q[k].md m))
  have HCh:=hD0 (fun(f:Rq→Rq)=>Z1q HOk.out f k hk)
  have HSl:=hD0 (fun x e=>Ze1 hk x e)
  have HOC:=hD0 (fun(w2:World) (g0 g cap:Nat) (X:Rq) (h:Z2 w2 g0 (.slice (some ⟨g,0,none⟩) q.length cap) (q.set k X)) (j:Nat) (u:Value) (hu:(Zk X)[j]?=some u)=>Y5 h (by rw[List.length_set]) k (by rw[List.length_set];exact hk) j u (by rw[List.getElem_set_self];exact hu))
  have HOD:=hD0 (fun(w2:World) (g0 g cap:Nat) (h:Z2 w2 g0 (.slice (some ⟨g,0,none⟩) q.length cap) q)=>Y5 h rfl k hk)
  have HOU:=hD0 (fun(w2:World) (g0 g cap:Nat) (wn:Int) (h:Z2 w2 g0 (.slice (some ⟨g,0,none⟩) q.length cap) q)=>Zy h rfl k hk 3 (by decide) (.int .i64 wn) ⟨q[k].id,q[k].txn,q[k].md,wn,q[k].sn⟩ rfl)
  have HOV:=hD0 (fun(w2:World) (g0 g cap:Nat) (X Y:Rq) (j:Nat) (u:Value) (hj:j<5) (e:(Zk X).set j u=Zk Y) (h:Z2 w2 g0 (.slice (some ⟨g,0,none⟩) q.length cap) (q.set k X))=>Zy h (by rw[List.length_set]) k (by rw[List.length_set];exact hk) j hj u Y (by rw[List.getElem_set_self];exact e))
  simp only[List.set_set] at HOV
  have HCe:=hD0 (fun(w2:World) (g:Nw w w2)=>(hc.nw g).cell k hk)
  have hce:=hC1.cell k hk
  generalize q[k]=R at *
  obtain⟨b0,b1,b2,b3,b4⟩:=R
  have e0:=hce 0 _ rfl
  have e1:=hce 1 _ rfl
  have e2:=hce 2 _ rfl
  have e3:=hce 3 _ rfl
  have e4:=hce 4 _ rfl
  simp only[Nat.add_zero] at e0
  clear hce
  have HP1:=hD0 (aI0 hp1 hq1)
  clear hc hC1 hf HXx HH HOk
  go_wp2_with fail
  refine(Z6r _ _ _ _ _ _).mono ?_
  rintro e w2 ⟨rfl,g2⟩
  have hp2:=g2.at' hp1
  have hq2:=g2.at' hq1
  have HN2:=hD0 (HN1.out.trans g2)
  clear c0 c1 c2 c3
  have c0:=Z0 (j:=0) hp2
  have c1:=Z0 (j:=1) hp2
  have c2:=Z0 (j:=2) hp2
  have c3:=Z0 (j:=3) hp2
  have hsl:=hlt hp2
  have hsl2:=hlt hq2
  clear e0 e1 e2 e3 e4
  by_cases hs:0<b4
  ·have d:decide (0<b4)=true:=by simpa using hs
   have hR:=HWt.out hs
   subst hR
   have d0:=Z0 (j:=0) hq2
   have d1:=Z0 (j:=1) hq2
   have d2:=Z0 (j:=2) hq2
   have d3:=Z0 (j:=3) hq2
   have fz:=fun k=>hfz (j:=k) hq2
   clear hs HWt HGo HUf HCh HSl HOC HOD HOU HOV HCe HU HF HCp HP1 hp1 hq1 hp2 hq2 g2
   go_wp2
   refine bodyPost_ret (v:=.tuple #[.agg #[.int .i64 0,.int .i64 0,.slice none 0 0,.int .i64 0],.bool false,.int .i64 7]) (by simp[results,results136,go_sem, *]) rfl ⟨_,rfl,Z7 HN2.out (Nat.le_succ _) _ _ _ _,Rd.nil _,Nat.le_refl _,Yp _⟩
  have d:decide (0<b4)=false:=by simpa using hs
  have hb4:b4=0:=by have:=HRt.out.s0;simp only at this;omega
  have hR:=HGo.out (by first | exact hs | exact Int.not_lt.1 hs)
  have hmd:=(HRt.out.h hb4).1
  have hwt:=(HRt.out.h hb4).2
  have hmk:=HRt.out.md
  try simp only at hmd
  try simp only at hwt
  try simp only at hmk
  subst hb4
  have HSp:=hD0 (fun w=>Zp3 b2 m hmk HGd.out.2 w)
  have hUf:=HUf.out rfl
  try simp only at hUf
  obtain⟨wn,hwn⟩:∃wn,Yi b2 m=wn:=⟨_,rfl⟩
  rw[hwn] at HSp hUf
  unfold upQ at hR
  simp only[hwn] at hR
  have HHR:=hD0 hR
  have HHU:=hD0 hUf
  have HHw:=hD0 (aI0 hmd hwt)
  clear hs HWt HGo HUf HRt hR hUf hmd hwt hmk hwn HGd g2 hp1 hq1
  have HQ1:=hD0 (aI0 hp2 hq2)
  clear hp2 hq2
  go_wp2_with fail
  refine(HCp.out _ HN2.out).mono ?_
  rintro e w4 ⟨v1,rfl,g4,hO⟩
  rcases Y7 hO with⟨_,q0⟩ | ⟨g,cap,rfl⟩
  ·omega
  have hq4:=g4.at' HQ1.out.2
  have hp4:=g4.at' HQ1.out.1
  have hg0:=Vr hO (g:=g) rfl
  have hgl:=olt hO (g:=g) rfl
  have hs1:w.heap.size+1<w2.heap.size:=hsl2
  have hwb:b<w.heap.size:=hbw
  have hal:=Z1 w4 (.cells #[.int .i64 t,.int .i64 r,.slice (some ⟨g,0,none⟩) q.length cap,.int .i64 W] 63)
  have hNa:Nw w4 (w4.alloc (.cells #[.int .i64 t,.int .i64 r,.slice (some ⟨g,0,none⟩) q.length cap,.int .i64 W] 63)):=(Nw.refl w4).alloc _
  have HNy:=hD0 (HN2.out.trans (g4.trans hNa))
  have hOy:=onw hO hNa
  have HNw4:=HN2.out.trans g4
  have HBl:=hD0 (lL0 hbw HNw4.sz)
  have hqy:=hNa.at' hq4
  have hpy:=hNa.at' hp4
  have hs4:=g4.sz
  obtain⟨pb,hpb⟩:∃pb,w4.heap.size=pb:=⟨_,rfl⟩
  rw[hpb] at hal
  have n1:¬(w.heap.size+1=g):=by omega
  have n2:¬(g=w.heap.size+1):=by omega
  have n3:¬(pb=g):=by omega
  have n4:¬(g=pb):=by omega
  have n5:¬(w.heap.size=g):=by omega
  have n6:¬(g=w.heap.size):=by omega
  have n7:¬(b=g):=by omega
  have n8:¬(g=b):=by omega
  have n9:¬(pb=w.heap.size+1):=by omega
  have n10:¬(w.heap.size+1=pb):=by omega
  have HZ:=hD0 (aI0 hal (aI0 hqy (aI0 hOy (aI0 hpy (show w.heap.size≤g∧w.heap.size+1<w2.heap.size∧w.heap.size≤pb from⟨by omega,hs1,by omega⟩)))))
  clear c0 c1 c2 c3 hsl hsl2 hO g4 hq4 hs4 HQ1 HP1 hal hqy hOy hpy hg0 hgl hs1 hwb hbw
  have c0:=Z0 (j:=0) hp4
  have c1:=Z0 (j:=1) hp4
  have c2:=Z0 (j:=2) hp4
  have c3:=Z0 (j:=3) hp4
  have hsl:=hlt hp4
  clear hp4
  have HPb:=hD0 hpb
  clear hpb
  have HN4:=hD0 HNw4
  clear HNw4
  have ew4:=HCe.out w4 HN4.out 2 _ rfl
  have hbl4:b<w4.heap.size:=HBl.out
  go_wp2_with fail
  rw[HPb.out]
  clear HPb c0 c1 c2 c3 hsl ew4 hbl4
  generalize w4.alloc (.cells #[.int .i64 t,.int .i64 r,.slice (some ⟨g,0,none⟩) q.length cap,.int .i64 W] 63)=y at *
  refine(HSp.out _).mono ?_
  rintro e w5 ⟨rfl,g5⟩
  have hal:=g5.at' HZ.out.1
  have hqz:=g5.at' HZ.out.2.1
  have hO5:=onw HZ.out.2.2.1 g5
  have hpy:=g5.at' HZ.out.2.2.2.1
  have HN5:=hD0 (HNy.out.trans g5)
  have ew5:=HCe.out w5 HN5.out 2 _ rfl
  have s3:=HOD.out _ _ _ _ hO5 3 _ rfl
  have s2:=HOD.out _ _ _ _ hO5 2 _ rfl
  have s4:=HOD.out _ _ _ _ hO5 4 _ rfl
  have sz:=V2 hO5 rfl
  have hO6:=HOU.out _ _ _ _ wn hO5
  clear hNa
  have c0:=Z0 (j:=0) hpy
  have c1:=Z0 (j:=1) hpy
  have c2:=Z0 (j:=2) hpy
  have c3:=Z0 (j:=3) hpy
  have p0:=Z0 (j:=0) hal
  have p1:=Z0 (j:=1) hal
  have p2:=Z0 (j:=2) hal
  have p3:=Z0 (j:=3) hal
  have pz:=fun j=>hfz (j:=j) hal
  have hsl:=hlt hpy
  have HO6:=hD0 hO6
  have HG5:=hD0 g5
  clear hO5 hO6 g5
  by_cases hwb:wn=b2
  ·have d0:=Z0 (j:=0) hqz
   have d1:=Z0 (j:=1) hqz
   have d2:=Z0 (j:=2) hqz
   have d3:=Z0 (j:=3) hqz
   have fz:=fun k=>hfz (j:=k) hqz
   have dw:(wn==b2)=true:=by simpa using hwb
   have hR:=HHR.out
   simp only[if_pos hwb] at hR
   subst hR
   have hO7:=HOV.out _ _ _ _ ⟨b0,b1,b2,wn,0⟩ ⟨b0,b1,wn,wn,0⟩ 2 (.int .i64 wn) (by decide) rfl HO6.out
   rw[HSl.out ⟨b0,b1,wn,wn,0⟩ (by rw[hwb,HHw.out.2])] at hO7
   have HO7:=hD0 hO7
   clear hO7 HOV HOD HOC HOU HO6 HCh HSl HCe HU HF HCp hwb hal hqz hpy HSp HHU
   go_wp2
   refine bodyPost_ret (v:=.tuple #[.agg #[.int .i64 t,.int .i64 r,.slice (some ⟨g,0,none⟩) q.length cap,.int .i64 W],.bool true,.int .i64 0]) (by simp[results,results136,go_sem, *]) rfl ⟨_,rfl,Z7 ((HN5.out.st HZ.out.2.2.2.2.1 _).st HZ.out.2.2.2.2.1 _) (Nat.le_succ _) _ _ _ _,?_,?_⟩
   ·exact Z2.rd (Y4 HO7.out HZ.out.2.2.2.2.2.1 _ _ _ _)
   ·exact⟨HO7.out.cap,Z2.newV HO7.out (by have:=HZ.out.2.2.2.2;omega)⟩
  ·have dw:(wn==b2)=false:=by simpa using hwb
   have hR:=HHR.out
   simp only[if_neg hwb] at hR
   have HR6:=hD0 hR
   have hNw6:Nw w (w5.setCell ⟨g,k*5+3,none⟩ (.int .i64 wn)):=HN5.out.st HZ.out.2.2.2.2.1 _
   have hal6:(w5.setCell ⟨g,k*5+3,none⟩ (.int .i64 wn)).heap[pb]?=_:=(Below.heap_setCell _ _ _ _ n3).trans hal
   have hqz6:(w5.setCell ⟨g,k*5+3,none⟩ (.int .i64 wn)).heap[w.heap.size+1]?=_:=(Below.heap_setCell _ _ _ _ n1).trans hqz
   have hpy6:(w5.setCell ⟨g,k*5+3,none⟩ (.int .i64 wn)).heap[w.heap.size]?=_:=(Below.heap_setCell _ _ _ _ n5).trans hpy
   have H6:=hD0 (aI0 hNw6 (aI0 hal6 (aI0 hqz6 hpy6)))
   clear hR hwb hNw6 hal6 hqz6 hpy6 hal hqz hpy HOD HOU HSl
   go_wp2_with fail
   refine(HF.out wn (k:Int) _ H6.out.1).mono ?_
   rintro e w7 ⟨f,rfl,g7,hff⟩
   have HN7:=hD0 (H6.out.1.trans g7)
   have hal:=g7.at' H6.out.2.1
   have hqz:=g7.at' H6.out.2.2.1
   have hpy:=g7.at' H6.out.2.2.2
   have hO7:=onw HO6.out g7
   clear c0 c1 c2 c3 p0 p1 p2 p3 pz s2 s3 s4 sz hsl ew5
   cases f
   ·have hno:¬upF q ⟨b0,b1,b2,b3,0⟩ wn=true:=fun e=>by have:=hff.2 (HHU.out.1 e).1;cases this
    have hR:=HR6.out
    simp only[if_neg hno] at hR
    rw[HCh.out] at hR
    subst hR
    clear hff hno
    have s2:=HOC.out _ _ _ _ _ hO7 2 _ rfl
    have s3:=HOC.out _ _ _ _ _ hO7 3 _ rfl
    have s4:=HOC.out _ _ _ _ _ hO7 4 _ rfl
    have sz:=V2 hO7 (by rw[List.length_set])
    have c0:=Z0 (j:=0) hpy
    have c1:=Z0 (j:=1) hpy
    have c2:=Z0 (j:=2) hpy
    have c3:=Z0 (j:=3) hpy
    have p0:=Z0 (j:=0) hal
    have p1:=Z0 (j:=1) hal
    have p2:=Z0 (j:=2) hal
    have p3:=Z0 (j:=3) hal
    have pz:=fun j=>hfz (j:=j) hal
    have hsl:=hlt hpy
    have d0:=Z0 (j:=0) hqz
    have d1:=Z0 (j:=1) hqz
    have d2:=Z0 (j:=2) hqz
    have d3:=Z0 (j:=3) hqz
    have fz:=fun k=>hfz (j:=k) hqz
    have hwr:IntKind.i64.wrap (W+1)=W+1:=by have:=HWB.out;rw[IntKind.wrap_i64]<;>omega
    have hO8:=Ug hO7 (Yg w7 ⟨pb,3,none⟩ (.int .i64 (W+1))) (fun x hx e=>n4 ((Option.some.inj hx).trans (Option.some.inj e).symm))
    have hO9:=HOV.out _ _ _ _ ⟨b0,b1,b2,wn,0⟩ ⟨b0,b1,b2,wn,W+1⟩ 4 (.int .i64 (W+1)) (by decide) rfl hO8
    have HO9:=hD0 hO9
    clear hO9 hO8 hO7 hal hqz hpy HOV HOC HO6 HCh HCe HU HF HCp HSp HHU HHR HR6 HHw H6
    go_wp2
    refine bodyPost_ret (v:=.tuple #[.agg #[.int .i64 t,.int .i64 r,.slice (some ⟨g,0,none⟩) q.length cap,.int .i64 (W+1)],.bool false,.int .i64 0]) (by simp[results,results136,go_sem, *]) rfl ⟨_,rfl,Z7 ((HN7.out.st HZ.out.2.2.2.2.2.2 _).st HZ.out.2.2.2.2.1 _) (Nat.le_succ _) _ _ _ _,?_,?_⟩
    ·exact Z2.rd (Y4 HO9.out HZ.out.2.2.2.2.2.1 _ _ _ _)
    ·exact⟨HO9.out.cap,Z2.newV HO9.out (by have:=HZ.out.2.2.2.2;omega)⟩
   have hfit:=hff.1 rfl
   clear hff
   have c0:=Z0 (j:=0) hpy
   have c1:=Z0 (j:=1) hpy
   have c2:=Z0 (j:=2) hpy
   have c3:=Z0 (j:=3) hpy
   have hsl:=hlt hpy
   have H7:=hD0 (aI0 hal (aI0 hqz (aI0 hpy hO7)))
   clear hal hqz hpy hO7
   have HFt:=hD0 hfit
   clear hfit
   go_wp2_with fail
   refine(HU.out _ HN7.out).mono ?_
   rintro e w8 ⟨ju,rfl,g8,hju⟩
   have HN8:=hD0 (HN7.out.trans g8)
   have hal:=g8.at' H7.out.1
   have hqz:=g8.at' H7.out.2.1
   have hpy:=g8.at' H7.out.2.2.1
   have hO7:=onw H7.out.2.2.2 g8
   clear c0 c1 c2 c3 hsl
   rcases hju with⟨rfl,hju⟩ | ⟨mu,rfl,_,hmu,hum,_⟩
   ·have hyes:=HHU.out.2 ⟨HFt.out,fun a ha=>hju a (by rw[List.take_length];exact ha)⟩
    have hR:=HR6.out
    simp only[if_pos hyes] at hR
    rw[HCh.out] at hR
    subst hR
    clear hju hyes
    have s2:=HOC.out _ _ _ _ _ hO7 2 _ rfl
    have s3:=HOC.out _ _ _ _ _ hO7 3 _ rfl
    have s4:=HOC.out _ _ _ _ _ hO7 4 _ rfl
    have sz:=V2 hO7 (by rw[List.length_set])
    have c0:=Z0 (j:=0) hpy
    have c1:=Z0 (j:=1) hpy
    have c2:=Z0 (j:=2) hpy
    have c3:=Z0 (j:=3) hpy
    have p0:=Z0 (j:=0) hal
    have p1:=Z0 (j:=1) hal
    have p2:=Z0 (j:=2) hal
    have p3:=Z0 (j:=3) hal
    have pz:=fun j=>hfz (j:=j) hal
    have hsl:=hlt hpy
    have d0:=Z0 (j:=0) hqz
    have d1:=Z0 (j:=1) hqz
    have d2:=Z0 (j:=2) hqz
    have d3:=Z0 (j:=3) hqz
    have fz:=fun k=>hfz (j:=k) hqz
    have hO9:=HOV.out _ _ _ _ ⟨b0,b1,b2,wn,0⟩ ⟨b0,b1,wn,wn,0⟩ 2 (.int .i64 wn) (by decide) rfl hO7
    have HO9:=hD0 hO9
    clear hO9 hO7 hal hqz hpy HOV HOC HO6 HCh HCe HU HF HCp HSp HHU HHR HR6 HHw H6
    go_wp2
    refine bodyPost_ret (v:=.tuple #[.agg #[.int .i64 t,.int .i64 r,.slice (some ⟨g,0,none⟩) q.length cap,.int .i64 W],.bool true,.int .i64 0]) (by simp[results,results136,go_sem, *]) rfl ⟨_,rfl,Z7 (HN8.out.st HZ.out.2.2.2.2.1 _) (Nat.le_succ _) _ _ _ _,?_,?_⟩
    ·exact Z2.rd (Y4 HO9.out HZ.out.2.2.2.2.2.1 _ _ _ _)
    ·exact⟨HO9.out.cap,Z2.newV HO9.out (by have:=HZ.out.2.2.2.2;omega)⟩
   ·have hno:¬upF q ⟨b0,b1,b2,b3,0⟩ wn=true:=fun e=>(HHU.out.1 e).2 _ (gM0 hmu) hum
    have hR:=HR6.out
    simp only[if_neg hno] at hR
    rw[HCh.out] at hR
    subst hR
    have dmu:decide ((mu:Int)<0)=false:=by simp
    clear hum hno
    have s2:=HOC.out _ _ _ _ _ hO7 2 _ rfl
    have s3:=HOC.out _ _ _ _ _ hO7 3 _ rfl
    have s4:=HOC.out _ _ _ _ _ hO7 4 _ rfl
    have sz:=V2 hO7 (by rw[List.length_set])
    have c0:=Z0 (j:=0) hpy
    have c1:=Z0 (j:=1) hpy
    have c2:=Z0 (j:=2) hpy
    have c3:=Z0 (j:=3) hpy
    have p0:=Z0 (j:=0) hal
    have p1:=Z0 (j:=1) hal
    have p2:=Z0 (j:=2) hal
    have p3:=Z0 (j:=3) hal
    have pz:=fun j=>hfz (j:=j) hal
    have hsl:=hlt hpy
    have d0:=Z0 (j:=0) hqz
    have d1:=Z0 (j:=1) hqz
    have d2:=Z0 (j:=2) hqz
    have d3:=Z0 (j:=3) hqz
    have fz:=fun k=>hfz (j:=k) hqz
    have hwr:IntKind.i64.wrap (W+1)=W+1:=by have:=HWB.out;rw[IntKind.wrap_i64]<;>omega
    have hO8:=Ug hO7 (Yg w8 ⟨pb,3,none⟩ (.int .i64 (W+1))) (fun x hx e=>n4 ((Option.some.inj hx).trans (Option.some.inj e).symm))
    have hO9:=HOV.out _ _ _ _ ⟨b0,b1,b2,wn,0⟩ ⟨b0,b1,b2,wn,W+1⟩ 4 (.int .i64 (W+1)) (by decide) rfl hO8
    have HO9:=hD0 hO9
    clear hO9 hO8 hO7 hal hqz hpy HOV HOC HO6 HCh HCe HU HF HCp HSp HHU HHR HR6 HHw H6
    go_wp2
    refine bodyPost_ret (v:=.tuple #[.agg #[.int .i64 t,.int .i64 r,.slice (some ⟨g,0,none⟩) q.length cap,.int .i64 (W+1)],.bool false,.int .i64 0]) (by simp[results,results136,go_sem, *]) rfl ⟨_,rfl,Z7 ((HN8.out.st HZ.out.2.2.2.2.2.2 _).st HZ.out.2.2.2.2.1 _) (Nat.le_succ _) _ _ _ _,?_,?_⟩
    ·exact Z2.rd (Y4 HO9.out HZ.out.2.2.2.2.2.1 _ _ _ _)
    ·exact⟨HO9.out.cap,Z2.newV HO9.out (by have:=HZ.out.2.2.2.2;omega)⟩
theorem Z92(l:List Hm)(k:Nat)(hk:k<l.length):Z6 Zm l=Z6 Zm (l.take k)++(Zm l[k]++Z6 Zm (l.drop (k+1))):=by
 have e:l=l.take k++l[k]::l.drop (k+1):=by rw[←List.drop_eq_getElem_cons hk,List.take_append_drop]
 conv=>lhs;rw[e]
 rw[Z4s]
 rfl
theorem Zjt(l:List Hm)(k:Nat)(hk:k<l.length)(x:Hm) :
  ((((Z6 Zm l).set (k*4) (.int .i64 x.h.t)).set (k*4+1) (.int .i64 x.h.r)).set (k*4+2) (.slice x.a x.h.q.length x.c)).set (k*4+3) (.int .i64 x.h.W)=Z6 Zm (l.set k x):=by
 have hA:(Z6 Zm (l.take k)).length=k*4:=by rw[Yw (sz:=4) Y6.len,List.length_take,Nat.min_eq_left (Nat.le_of_lt hk)]
 have h2:=Z92 (l.set k x) k (by rw[List.length_set];exact hk)
 rw[List.take_set_of_le (Nat.le_refl k),List.drop_set_of_lt (Nat.lt_succ_self k),List.getElem_set_self] at h2
 rw[Z92 l k hk,h2,←hA]
 have h0:=Z88 (A:=Z6 Zm (l.take k)) (M:=Zm l[k]) (B:=Z6 Zm (l.drop (k+1))) (j:=0) (by simp[Zm]) (.int .i64 x.h.t)
 have h0':(Z6 Zm (l.take k)++(Zm l[k]++Z6 Zm (l.drop (k+1)))).set (Z6 Zm (l.take k)).length (.int .i64 x.h.t)=_:=h0
 rw[h0',Z88 (by simp[Zm]),Z88 (by simp[Zm]),Z88 (by simp[Zm])]
 rfl
theorem Znf{w:World}{g0 g cap:Nat}{l:List Hm}(h:U7 w g0 (.slice (some ⟨g,0,none⟩) l.length cap) l)(k:Nat)(hk:k<l.length)(x:Hm) :
  U7 ((((w.setCell ⟨g,k*4,none⟩ (.int .i64 x.h.t)).setCell ⟨g,k*4+1,none⟩ (.int .i64 x.h.r)).setCell ⟨g,k*4+2,none⟩ (.slice x.a x.h.q.length x.c)).setCell ⟨g,k*4+3,none⟩ (.int .i64 x.h.W)) g0 (.slice (some ⟨g,0,none⟩) l.length cap) (l.set k x):=by
 have h1:=(World.ownsRow.stored h (k*4) (.int .i64 x.h.t)).1
 have h2:=(World.ownsRow.stored h1 (k*4+1) (.int .i64 x.h.r)).1
 have h3:=(World.ownsRow.stored h2 (k*4+2) (.slice x.a x.h.q.length x.c)).1
 have h4:=(World.ownsRow.stored h3 (k*4+3) (.int .i64 x.h.W)).1
 unfold U7 Yz
 rw[List.length_set,←Zjt l k hk x]
 exact h4
theorem Vh.tch{w w':World}{o:Nat}{u:Option Nat}{x:Hm}{S:Nat→Prop}(h:Vh w o u x)(t:Z4 S w w')(hS:∀b,S b→b≤o∨u=some b):Vh w' o u x:=by
 refine⟨?_,h.cap,h.len,h.new,h.off⟩
 obtain⟨a,c,e,q | ⟨b,o',e2,hc⟩⟩:=h.rd
 ·exact⟨a,c,e,.inl q⟩
 ·subst e2
  by_cases hq:x.h.q=[]
  ·exact⟨_,c,e,.inl ⟨hq,fun q=>by cases q⟩⟩
  have hb:¬S b:=fun hs=>by
   rcases hS b hs with q | q
   ·have:=h.new _ _ _ e
    have:o+1≤b:=this
    omega
   ·unfold hmV at e
    injection e with e1 _ _
    exact h.off _ e1 hq q
  exact⟨_,c,e,.inr ⟨b,o',rfl,lL0 hc.lt t.size,fun i hi c u hu=>(t.cell hc.lt hb).trans (hc.cell i hi c u hu)⟩⟩
def Zbw(o:Nat)(v:Value)(l:List Hm)(b:Nat):Prop:=b=o∨v.ownBlock=some b∨∃x∈l,∃a,x.a=some a∧b=a.block
structure Yx(w:World)(o po pg:Nat)(most:Int)(v:Value)(l:List Hm)(w':World)(v':Value)(l':List Hm):Prop where
 rb:Rb w' o po most v' l'
 tch:Z4 (fun b=>b=o∨v.ownBlock=some b∨b=pg) w w'
 inn:∀b,Zbw o v' l' b→Zbw o v l b∨w.heap.size≤b
theorem Rb.same{w w':World}{o po:Nat}{most:Int}{v:Value}{l:List Hm}(h:Rb w o po most v l)(g:Nw w w')(pg:Nat):Yx w o po pg most v l w' v l:=⟨h.nw g,Z4.nw g,fun b hb=>.inl hb⟩
theorem Rb.put{w:World}{o po:Nat}{most:Int}{g cap:Nat}{l:List Hm}(h:Rb w o po most (.slice (some ⟨g,0,none⟩) l.length cap) l)(k:Nat)(hk:k<l.length)(x:Hm)(hx:Vh w o (some g) x) :
  Rb ((((w.setCell ⟨g,k*4,none⟩ (.int .i64 x.h.t)).setCell ⟨g,k*4+1,none⟩ (.int .i64 x.h.r)).setCell ⟨g,k*4+2,none⟩ (.slice x.a x.h.q.length x.c)).setCell ⟨g,k*4+3,none⟩ (.int .i64 x.h.W)) o po most (.slice (some ⟨g,0,none⟩) l.length cap) (l.set k x)
  ∧ Z4 (fun b=>b=g) w ((((w.setCell ⟨g,k*4,none⟩ (.int .i64 x.h.t)).setCell ⟨g,k*4+1,none⟩ (.int .i64 x.h.r)).setCell ⟨g,k*4+2,none⟩ (.slice x.a x.h.q.length x.c)).setCell ⟨g,k*4+3,none⟩ (.int .i64 x.h.W)):=by
 have ho:=Znf h.own k hk x
 have t:Z4 (fun b=>b=g) w ((((w.setCell ⟨g,k*4,none⟩ (.int .i64 x.h.t)).setCell ⟨g,k*4+1,none⟩ (.int .i64 x.h.r)).setCell ⟨g,k*4+2,none⟩ (.slice x.a x.h.q.length x.c)).setCell ⟨g,k*4+3,none⟩ (.int .i64 x.h.W)) :=
  ((((Z4.refl (fun b=>b=g) w).set (p:=⟨g,k*4,none⟩) (.inl rfl) _).set (p:=⟨g,k*4+1,none⟩) (.inl rfl) _).set (p:=⟨g,k*4+2,none⟩) (.inl rfl) _).set (p:=⟨g,k*4+3,none⟩) (.inl rfl) _
 have hog:o<g:=Vr h.own rfl
 have hne:¬(o=g):=by omega
 refine⟨?_,t⟩
 revert ho t
 generalize ((((w.setCell ⟨g,k*4,none⟩ (.int .i64 x.h.t)).setCell ⟨g,k*4+1,none⟩ (.int .i64 x.h.r)).setCell ⟨g,k*4+2,none⟩ (.slice x.a x.h.q.length x.c)).setCell ⟨g,k*4+3,none⟩ (.int .i64 x.h.W))=w4
 intro ho t
 refine⟨(t.cell h.ol hne).trans h.c0,(t.cell h.ol hne).trans h.c1,(t.cell h.ol hne).trans h.c2,fun j=>(t.froz h.ol hne).trans (h.fz j),lL0 h.ol t.size,h.pl,ho,fun y hy=>?_,by rw[List.length_set];exact h.len⟩
 rcases List.mem_or_eq_of_mem_set hy with q | rfl
 ·exact(h.ok y q).tch t (fun b e=>.inr (by rw[e];rfl))
 ·exact hx.tch t (fun b e=>.inr (by rw[e]))
theorem Z6q{l:List Hm}(s:Y9 (Z3 l)){k:Nat}(hk:k<l.length){x:Hm}(e:Z9 x.h=Z9 l[k].h):Yh (Z3 l) x.h=Z3 (l.set k x):=by
 have e0:Z3 l=Z3 (l.take k)++l[k].h::Z3 (l.drop (k+1)):=by
  have:l=l.take k++l[k]::l.drop (k+1):=by rw[←List.drop_eq_getElem_cons hk,List.take_append_drop]
  show l.map Hm.h=(l.take k).map Hm.h++l[k].h::(l.drop (k+1)).map Hm.h
  conv=>lhs;rw[this]
  rw[List.map_append,List.map_cons]
 have e1:Z3 (l.set k x)=Z3 (l.take k)++x.h::Z3 (l.drop (k+1)):=by
  rw[List.set_eq_take_append_cons_drop,if_pos hk];simp[Z3]
 rw[e1,e0]
 have hb:∀y∈Z3 (l.take k),Vq (Z9 y) (Z9 x.h):=by
  intro y hy
  rw[e]
  obtain⟨z,hz,rfl⟩:=List.mem_map.1 hy
  obtain⟨j,hj,rfl⟩:=List.getElem_of_mem hz
  simp only[List.length_take] at hj
  rw[List.getElem_take]
  exact Zbi s (by omega) hk (by omega)
 rw[Z31 hb,Zie e.symm]
theorem Rb.got{w w2:World}{o po:Nat}{most:Int}{g cap:Nat}{l:List Hm}(h:Rb w o po most (.slice (some ⟨g,0,none⟩) l.length cap) l)(g2:Nw w w2)(X:Hq){a:Option Addr}{c:Nat}(hrd:Zl w2 (.slice a X.q.length c) X.q)(hcap:Z06 (.slice a X.q.length c))(hnew:newV w.heap.size (.slice a X.q.length c))(hlen:X.q.length≤1000) :
  Vh w2 o (some g) ⟨X,a,c⟩:=by
 have hg:g<w.heap.size:=olt h.own rfl
 refine⟨hrd,hcap,hlen,fun b n k e=>?_,fun b e _ q=>?_⟩
 ·have:=hnew b n k e
  have:=h.ol
  omega
 ·have:a=some b:=e
  subst this
  have:=hnew b _ _ rfl
  have:=Option.some.inj q
  omega
theorem Rb.put_to{w w2:World}{o po:Nat}{most:Int}{g cap:Nat}{l:List Hm}(h:Rb w o po most (.slice (some ⟨g,0,none⟩) l.length cap) l)(g2:Nw w w2)(pg:Nat)(k:Nat)(hk:k<l.length)(x:Hm)(hx:Vh w2 o (some g) x)(hnew:newV w.heap.size (hmV x)) :
  Yx w o po pg most (.slice (some ⟨g,0,none⟩) l.length cap) l ((((w2.setCell ⟨g,k*4,none⟩ (.int .i64 x.h.t)).setCell ⟨g,k*4+1,none⟩ (.int .i64 x.h.r)).setCell ⟨g,k*4+2,none⟩ (.slice x.a x.h.q.length x.c)).setCell ⟨g,k*4+3,none⟩ (.int .i64 x.h.W)) (.slice (some ⟨g,0,none⟩) l.length cap) (l.set k x):=by
 obtain⟨h1,h2⟩:=(h.nw g2).put k hk x hx
 refine⟨h1,(Z4.nw g2).trans' h2 (fun i _ e=>.inr (.inl (by rw[e];rfl))),fun b hb=>?_⟩
 rcases hb with q | q | ⟨y,hy,a,ha,e⟩
 ·exact .inl (.inl q)
 ·exact .inl (.inr (.inl q))
 ·rcases List.mem_or_eq_of_mem_set hy with q | rfl
  ·exact .inl (.inr (.inr ⟨y,q,a,ha,e⟩))
  ·refine .inr ?_
   rw[e]
   refine hnew a y.h.q.length y.c ?_
   unfold hmV
   rw[ha]
theorem Yx.nw{w w' w2:World}{o po pg:Nat}{most:Int}{v v':Value}{l l':List Hm}(h:Yx w o po pg most v l w' v' l')(g:Nw w' w2):Yx w o po pg most v l w2 v' l':=⟨h.rb.nw g,h.tch.trans (Z4.nw g),h.inn⟩
theorem Yx.pre{w w1 w':World}{o po pg:Nat}{most:Int}{v v':Value}{l l':List Hm}(g:Nw w w1)(h:Yx w1 o po pg most v l w' v' l'):Yx w o po pg most v l w' v' l' :=
 ⟨h.rb,(Z4.nw g).trans h.tch,fun b hb=>(h.inn b hb).imp id (fun q=>Nat.le_trans g.sz q)⟩
theorem Zpg{w w':World}{S:Nat→Prop}{v:Value}{q:List Rq}(h:Zl w v q)(t:Z4 S w w')(hS:∀a n c,v=.slice (some a) n c→¬S a.block):Zl w' v q:=by
 obtain⟨a,c,e,h | ⟨b,o,e2,hc⟩⟩:=h
 ·exact⟨a,c,e,.inl h⟩
 ·subst e2
  have hb:=hS _ _ _ e
  exact⟨_,c,e,.inr ⟨b,o,rfl,lL0 hc.lt t.size,fun i hi c u hu=>(t.cell hc.lt hb).trans (hc.cell i hi c u hu)⟩⟩
theorem Vf{w w':World}{S:Nat→Prop}{g0 e size n:Nat}{v:Value}{xs:List Value}(h:w.ownsRow g0 e size v n xs)(t:Z4 S w w')(hS:∀g,v.ownBlock=some g→¬S g):w'.ownsRow g0 e size v n xs:=by
 refine⟨h.1,?_⟩
 rcases h.2 with hn | ⟨g,cap,cur,rfl,hb,hgg,rest⟩
 ·exact .inl hn
 ·exact .inr ⟨g,cap,cur,rfl,hb,(t.block g (Array.getElem?_eq_some_iff.1 hgg).1 (hS g rfl)).trans hgg,rest⟩
theorem Z2t{w:World}{x:Hm}{b:Addr}(h:Zl w (hmV x) x.h.q)(e:x.a=some b)(hq:x.h.q≠[]):b.block<w.heap.size:=by
 obtain⟨a,c,e1,⟨q,_⟩ | ⟨b',o',e2,hc⟩⟩:=h
 ·exact absurd q hq
 ·unfold hmV at e1
  rw[e,e2] at e1
  injection e1 with e1 _ _
  injection e1 with e1
  rw[e1]
  exact hc.lt
theorem Rb.row{w w5:World}{o po:Nat}{most:Int}{v v6:Value}{l l6:List Hm}{g0:Nat}(h:Rb w o po most v l)(g:Nw w w5)(ho:U7 w5 g0 v6 l6)(hg:w.heap.size≤g0)
  (hs:∀x∈l6,x∈l∨(Vh w5 o none x∧newV w.heap.size (hmV x)∧∀b,x.a=some b→x.h.q≠[]→b.block<g0)) (hl:l6.length≤64) (pg:Nat) :
  Yx w o po pg most v l (w5.setCell ⟨o,2,none⟩ v6) v6 l6:=by
 have hol:=h.ol
 have h5:=h.nw g
 have t:Z4 (fun b=>b=o) w5 (w5.setCell ⟨o,2,none⟩ v6):=Zi w5 ⟨o,2,none⟩ v6
 have hge:∀b,v6.ownBlock=some b→g0≤b:=fun b hb=>Vr ho hb
 refine⟨⟨?_,?_,?_,fun j=>?_,?_,h.pl,?_,fun x hx=>?_,hl⟩,(Z4.nw g).trans' t (fun i _ e=>.inl e),fun b hb=>?_⟩
 ·exact(World.cell?_setCell_other _ _ _ _ (by simp)).trans h5.c0
 ·exact(World.cell?_setCell_other _ _ _ _ (by simp)).trans h5.c1
 ·exact World.cell?_setCell_same _ _ _ h5.c2
 ·rw[World.frozen?_setCell];exact h5.fz j
 ·simpa using h5.ol
 ·refine Z4i (Vf ho t (fun b hb e=>?_)) (fun b hb=>?_)
  ·have:=hge b hb;omega
  ·have:=hge b hb;omega
 ·have key:Vh w5 o v6.ownBlock x:=by
   rcases hs x hx with q | ⟨q1,q2,q3⟩
   ·have hx5:=(h.ok x q).nw g
    refine⟨hx5.rd,hx5.cap,hx5.len,hx5.new,fun b e hq e2=>?_⟩
    have h1:=Z2t (h.ok x q).rd e hq
    have h2:=hge _ e2
    omega
   ·refine⟨q1.rd,q1.cap,q1.len,q1.new,fun b e hq e2=>?_⟩
    have h1:=q3 b e hq
    have h2:=hge _ e2
    omega
  exact key.tch t (fun b e=>.inl (by omega))
 ·rcases hb with q | q | ⟨x,hx,a,ha,e⟩
  ·exact .inl (.inl q)
  ·exact .inr (Nat.le_trans hg (hge b q))
  ·rcases hs x hx with q | ⟨q1,q2,q3⟩
   ·exact .inl (.inr (.inr ⟨x,q,a,ha,e⟩))
   ·refine .inr ?_
    rw[e]
    refine q2 a x.h.q.length x.c ?_
    unfold hmV
    rw[ha]
theorem Zrf{l:List Hm}(s:Y9 (Z3 l)){k:Nat}(hk:k<l.length):Zc9 (Z3 l) (Z9 l[k].h)=Z3 (l.take k++l.drop (k+1)):=by
 have e0:Z3 l=Z3 (l.take k)++l[k].h::Z3 (l.drop (k+1)):=by
  have:l=l.take k++l[k]::l.drop (k+1):=by rw[←List.drop_eq_getElem_cons hk,List.take_append_drop]
  show l.map Hm.h=(l.take k).map Hm.h++l[k].h::(l.drop (k+1)).map Hm.h
  conv=>lhs;rw[this]
  rw[List.map_append,List.map_cons]
 have h1:∀y∈Z3 (l.take k),(!decide (Z9 y=Z9 l[k].h))=true:=by
  intro y hy
  obtain⟨z,hz,rfl⟩:=List.mem_map.1 hy
  obtain⟨j,hj,rfl⟩:=List.getElem_of_mem hz
  simp only[List.length_take] at hj
  rw[List.getElem_take]
  have:=Zbi s (show j<l.length by omega) hk (by omega)
  simp only[Bool.not_eq_true',decide_eq_false_iff_not]
  intro e;rw[e] at this;exact Yj _ this
 have h2:∀y∈Z3 (l.drop (k+1)),(!decide (Z9 y=Z9 l[k].h))=true:=by
  intro y hy
  obtain⟨z,hz,rfl⟩:=List.mem_map.1 hy
  obtain⟨j,hj,rfl⟩:=List.getElem_of_mem hz
  simp only[List.length_drop] at hj
  rw[List.getElem_drop]
  have:=Zbi s hk (show k+1+j<l.length by omega) (by omega)
  simp only[Bool.not_eq_true',decide_eq_false_iff_not]
  intro e;rw[e] at this;exact Yj _ this
 unfold Zc9
 rw[e0,List.filter_append,List.filter_cons,if_neg (by simp),List.filter_eq_self.2 h1,List.filter_eq_self.2 h2]
 show _=(l.take k++l.drop (k+1)).map Hm.h
 rw[List.map_append]
theorem Yx.then{w w1 w2:World}{o po pg:Nat}{most:Int}{v v2:Value}{l l1 l2:List Hm}(h:Yx w o po pg most v l w1 v l1)(k:Yx w1 o po pg most v l1 w2 v2 l2):Yx w o po pg most v l w2 v2 l2 :=
 ⟨k.rb,h.tch.trans k.tch,fun b hb=>(k.inn b hb).elim (h.inn b) (fun q=>.inr (Nat.le_trans h.tch.size q))⟩
theorem Rb.low{w w':World}{S:Nat→Prop}{o po:Nat}{most:Int}{v:Value}{l:List Hm}(h:Rb w o po most v l)(t:Z4 S w w')(hS:∀b,S b→b<o):Rb w' o po most v l:=by
 have ho:¬S o:=fun e=>by have:=hS o e;omega
 exact⟨(t.cell h.ol ho).trans h.c0,(t.cell h.ol ho).trans h.c1,(t.cell h.ol ho).trans h.c2,fun j=>(t.froz h.ol ho).trans (h.fz j),lL0 h.ol t.size,h.pl,
  Vf h.own t (fun b hb e=>by have:=Vr h.own hb;have:=hS b e;omega),fun x hx=>(h.ok x hx).tch t (fun b e=>.inl (Nat.le_of_lt (hS b e))),h.len⟩
theorem Yx.pg{w w':World}{o po pg:Nat}{most:Int}{v v':Value}{l l':List Hm}(h:Yx w o po o most v l w' v' l'):Yx w o po pg most v l w' v' l' :=
 ⟨h.rb,h.tch.mono (fun b _ e=>by rcases e with e | e | e;exact .inl e;exact .inr (.inl e);exact .inl e),h.inn⟩
theorem Yx.low{w w1 w':World}{o po pg:Nat}{most:Int}{v v':Value}{l l':List Hm}(g:Z4 (fun b=>b=pg) w w1)(h:Yx w1 o po pg most v l w' v' l'):Yx w o po pg most v l w' v' l' :=
 ⟨h.rb,(g.mono (fun b _ e=>.inr (.inr e))).trans h.tch,fun b hb=>(h.inn b hb).imp id (fun q=>Nat.le_trans g.size q)⟩
theorem Zrx(h:Hq)(id txn:Int):(hnR h id txn).1.q.length≤h.q.length:=by
 unfold hnR
 split
 ·exact Nat.zero_le _
 ·split
  ·exact Nat.zero_le _
  ·split
   ·exact Nat.zero_le _
   ·show(chg _ _ _).length≤_
    rw[Z1p];exact Nat.le_refl _
theorem Znc(h:Hq)(id txn:Int)(he:(hnR h id txn).2=0):(hnR h id txn).1.t=h.t∧(hnR h id txn).1.r=h.r:=by
 unfold hnR at he ⊢
 split
 ·rename_i e;rw[e] at he;cases he
 ·rename_i e
  rw[e] at he
  split
  ·rename_i e2;simp only[e2,if_true] at he;cases he
  ·rename_i e2
   split
   ·rename_i e3;simp only[e2,e3,if_true] at he;simp at he
   ·exact⟨rfl,rfl⟩
theorem Ztb{w:World}{o po:Nat}{most:Int}{v:Value}{l:List Hm}(h:Rb w o po most v l)(s:Y9 (Z3 l))(hok:∀x∈l,Ok x.h.W x.h.q)(pg:Nat)(id txn:Int) :
  Calls prog 102 #[.pointer (some ⟨o,0,none⟩),.int .i64 id,.int .i64 txn] w fun e w'=>e=.returned (.int .i64 (Z1s (Z3 l) id txn))∧∃v' l',Z3 l'=Z1t (Z3 l) id txn∧Yx w o po pg most v l w' v' l':=by
 obtain⟨a,c,rfl,hf⟩:=h.form
 have HF:=hD0 hf
 have H:=hD0 h
 have HS:=hD0 s
 have HO:=hD0 hok
 have hol:=h.ol
 have HP:=hD0 (Z9n h id)
 obtain⟨E,hE⟩:∃E,Z1s (Z3 l) id txn=E:=⟨_,rfl⟩
 obtain⟨T,hT⟩:∃T,Z1t (Z3 l) id txn=T:=⟨_,rfl⟩
 rw[hE,hT]
 have HE:=hD0 hE
 have HT:=hD0 hT
 clear h hf s hok hE hT
 go_enter func102,ntmps102
 go_wp2_with fail
 refine HP.out.mono ?_
 rintro e w1 ⟨i,rfl,hi,g1⟩
 have HN1:=hD0 g1
 rcases hi.of with⟨rfl,ho⟩ | ⟨k,rfl,hk,ho⟩
 ·have he:Z1s (Z3 l) id txn=5:=by unfold Z1s;rw[ho]
  have HR:=hD0 (HE.out.symm.trans he)
  have HR2:=hD0 (HT.out.symm.trans (show Z1t (Z3 l) id txn=Z3 l by unfold Z1t;rw[if_neg (by rw[he];decide)]))
  clear he HE HT HP ho hi g1
  go_wp2
  go_ret
  exact⟨by rw[HR.out];rfl,_,l,HR2.out.symm,H.out.same HN1.out pg⟩
 ·rcases HF.out with⟨_,e,_⟩ | ⟨g,rfl,hog,hgl⟩
  ·subst e;simp at hk
  have HW:=hD0 (H.out.nw HN1.out)
  have hx:=HW.out.ok _ (gM0 hk)
  obtain⟨f0,f1,f2,f3⟩:=HW.out.at_ k hk
  have hl1:=HW.out.len
  have hki:(k:Int)<(l.length:Int):=by omega
  have c2:=HW.out.c2
  have HG:=hD0 (fun w2 (g:Nw w1 w2)=>Zt9 l[k].h.t l[k].h.r l[k].h.W id txn (hmV l[k]) l[k].h.q w2 hx.len (HO.out _ (gM0 hk)) hx.cap (hx.rd.nw g))
  have he:Z1s (Z3 l) id txn=(hnR l[k].h id txn).2:=by unfold Z1s;rw[ho]
  have hs:Z1t (Z3 l) id txn=if (hnR l[k].h id txn).2=0 then Yh (Z3 l) (hnR l[k].h id txn).1 else Z3 l:=by unfold Z1t;rw[he];split;rw[ho];rfl
  have HR:=hD0 (HE.out.symm.trans he)
  have HR2:=hD0 (HT.out.symm.trans hs)
  have hln:=Nat.le_trans (Zrx l[k].h id txn) hx.len
  have hnm:=Znc l[k].h id txn
  rw[show(⟨l[k].h.t,l[k].h.r,l[k].h.W,l[k].h.q⟩:Hq)=l[k].h from rfl] at HG
  unfold Yf hmV at HG
  obtain⟨Y,hY⟩:∃Y,hnR l[k].h id txn=Y:=⟨_,rfl⟩
  rw[hY] at HG HR HR2 hln hnm
  obtain⟨Y,er⟩:=Y
  have HLn:=hD0 hln
  have HNm:=hD0 (fun e=>(hnm e:Y.t=l[k].h.t∧Y.r=l[k].h.r))
  clear hY he hs HE HT ho hi hx hln hnm HP
  generalize l[k].a=qa at *
  generalize l[k].c=qc at *
  obtain⟨n,hn⟩:∃n,l[k].h.q.length=n:=⟨_,rfl⟩
  obtain⟨ht0,ht⟩:∃t,l[k].h.t=t:=⟨_,rfl⟩
  obtain⟨hr0,hr⟩:∃r,l[k].h.r=r:=⟨_,rfl⟩
  obtain⟨hW0,hW⟩:∃W,l[k].h.W=W:=⟨_,rfl⟩
  rw[ht] at f0 HG
  rw[hr] at f1 HG
  rw[hn] at f2 HG
  rw[hW] at f3 HG
  clear hn ht hr hW g1
  go_wp2_with fail
  refine(HG.out _ (Nw.refl _)).mono ?_
  rintro e w2 ⟨v2,rfl,g2,hrd,hcap,hnew⟩
  obtain⟨a2,n2,rfl⟩:=hrd.form
  simp only[Yf]
  have hal:=Z1 w2 (.cells #[.int .i64 Y.t,.int .i64 Y.r,.slice a2 Y.q.length n2,.int .i64 Y.W] 63)
  have hNa:Nw w2 (w2.alloc (.cells #[.int .i64 Y.t,.int .i64 Y.r,.slice a2 Y.q.length n2,.int .i64 Y.W] 63)):=(Nw.refl w2).alloc _
  have hNy:=g2.trans hNa
  have HK:=hD0 (aI0 hrd (aI0 hcap hnew))
  have HA:=hD0 hNa
  clear hrd hcap hnew hNa
  by_cases her:er=0
  ·subst her
   have HY:=hD0 (HNm.out rfl)
   go_wp2_with fail
   generalize hy2:w2.alloc (.cells #[.int .i64 Y.t,.int .i64 Y.r,.slice a2 Y.q.length n2,.int .i64 Y.W] 63)=y2 at *
   clear hy2
   obtain⟨pb,hpb⟩:∃pb,w2.heap.size=pb:=⟨_,rfl⟩
   rw[hpb] at hal
   try rw[hpb]
   have hpl:=hlt hal
   have hgy:g<y2.heap.size:=lL0 hgl (HN1.out.trans hNy).sz
   have p0:y2.cell? ⟨pb,0,none⟩=some (.int .i64 Y.t):=Z0 hal
   have p1:y2.cell? ⟨pb,1,none⟩=some (.int .i64 Y.r):=Z0 hal
   have p2:y2.cell? ⟨pb,2,none⟩=some (.slice a2 Y.q.length n2):=Z0 hal
   have p3:y2.cell? ⟨pb,3,none⟩=some (.int .i64 Y.W):=Z0 hal
   have fz:∀j,y2.frozen? ⟨g,j,none⟩=false:=fun j=>World.ownsRow.frozenAt (HW.out.nw hNy).own j
   replace c2:=hNy.kp c2
   replace f0:=hNy.kp f0
   replace f1:=hNy.kp f1
   replace f2:=hNy.kp f2
   replace f3:=hNy.kp f3
   have HQ:=hD0 (HW.out.put_to hNy pg k hk ⟨Y,a2,n2⟩ (HW.out.got hNy Y (HK.out.1.nw HA.out) HK.out.2.1 HK.out.2.2 HLn.out) HK.out.2.2)
   have HQs:=hD0 (HR2.out.trans (show(if (0:Int)=0 then Yh (Z3 l) Y else Z3 l)=Z3 (l.set k ⟨Y,a2,n2⟩) by
    rw[if_pos rfl]
    refine Z6q HS.out hk (x:=⟨Y,a2,n2⟩) ?_
    show(Y.t,Y.r)=(l[k].h.t,l[k].h.r)
    rw[HY.out.1,HY.out.2]))
   clear hal hNy HG g2
   refine wp_region_still_tail 7 (by kernel_rfl) (by kernel_rfl) ?_
   simp only[List.take_succ_cons,List.take_zero,List.drop_succ_cons,List.drop_zero]
   iterate 7 still_step
   try refine wpStill_nil ?_
   change wpList _ _ _ _ _ y2.drew
   go_wp2
   go_ret
   exact⟨by rw[HR.out];rfl,.slice (some ⟨g,0,none⟩) l.length c,l.set k ⟨Y,a2,n2⟩,HQs.out.symm,Yx.pre HN1.out (HQ.out.nw (Nw.refl _).dr)⟩
  ·have hd:(er==0)=false:=by simpa using her
   have HQs:=hD0 (HR2.out.trans (if_neg her))
   have HNy:=hD0 (HN1.out.trans hNy)
   clear hal hNy HG g2 her
   go_wp2
   go_ret
   exact⟨by rw[HR.out];rfl,_,l,HQs.out.symm,H.out.same HNy.out pg⟩
theorem Zua(W:Int)(q:List Rq)(r:Rq)(m:Int):(upQ W q r m).2.1.length=q.length:=by
 unfold upQ
 split
 ·rfl
 ·split<;>simp[Z1p]
theorem Zub(h:Hq)(id m:Int):(upR h id m).1.q.length≤h.q.length:=by
 unfold upR
 split
 ·exact Nat.zero_le _
 ·split
  ·exact Nat.zero_le _
  ·split
   ·exact Nat.zero_le _
   ·exact Nat.le_of_eq (Zua _ _ _ _)
theorem Zqi(h:Hq)(id m:Int)(he:(upR h id m).2.2=0):(upR h id m).1.t=h.t∧(upR h id m).1.r=h.r:=by
 revert he
 unfold upR
 split
 ·intro he;cases he
 ·split
  ·intro he;cases he
  ·split
   ·intro he;cases he
   ·intro _;exact⟨rfl,rfl⟩
theorem Zsw:Ok 0 []:=(Zsv 0 []).1 (by kernel_rfl)
theorem Zit(hs:List Hq)(id m:Int):Z0u hs id m=match Zt hs id with
  | none=>(upR ⟨0,0,0,[]⟩ id m).2.2
  | some h=>(upR h id m).2.2:=by
 unfold Z0u upR Z07
 split
 ·cases Zt hs id<;>rfl
 ·cases Zt hs id with
  | none=>rfl
  | some h=>rfl
theorem Zl6(hs:List Hq)(id m:Int)(h:Zt hs id=none):(upR ⟨0,0,0,[]⟩ id m).2.2≠0:=by
 unfold upR
 split
 ·decide
 ·show(5:Int)≠0
  decide
theorem Zg2{w:World}{o po:Nat}{most:Int}{v:Value}{l:List Hm}(h:Rb w o po most v l)(s:Y9 (Z3 l))(hok:∀x∈l,Ok x.h.W x.h.q)(pg:Nat)(id m:Int) :
  Calls prog 97 #[.pointer (some ⟨o,0,none⟩),.int .i64 id,.int .i64 m] w fun e w'=>e=.returned (.tuple #[.bool (Z3c (Z3 l) id m),.int .i64 (Z0u (Z3 l) id m)])∧∃v' l',Z3 l'=Z22 (Z3 l) id m∧Yx w o po pg most v l w' v' l':=by
 obtain⟨a,c,rfl,hf⟩:=h.form
 have HF:=hD0 hf
 have H:=hD0 h
 have HS:=hD0 s
 have HO:=hD0 hok
 have hol:=h.ol
 have HP:=hD0 (Z9n h id)
 obtain⟨G,hG⟩:∃G,Z3c (Z3 l) id m=G:=⟨_,rfl⟩
 obtain⟨E,hE⟩:∃E,Z0u (Z3 l) id m=E:=⟨_,rfl⟩
 obtain⟨T,hT⟩:∃T,Z22 (Z3 l) id m=T:=⟨_,rfl⟩
 rw[hG,hE,hT]
 have HG0:=hD0 hG
 have HE:=hD0 hE
 have HT:=hD0 hT
 clear h hf s hok hE hT hG
 go_enter func97,ntmps97
 go_wp2_with fail
 refine HP.out.mono ?_
 rintro e w1 ⟨i,rfl,hi,g1⟩
 have HN1:=hD0 g1
 rcases hi.of with⟨rfl,ho⟩ | ⟨k,rfl,hk,ho⟩
 ·have he:Z0u (Z3 l) id m=(upR ⟨0,0,0,[]⟩ id m).2.2:=by rw[Zit,ho]
  have hz:=Zl6 (Z3 l) id m ho
  have HC:=hD0 (Z80 0 0 0 id m (.slice none 0 0) [] w1 (Nat.zero_le _) Zsw (Rd.nil _))
  obtain⟨Y,hY⟩:∃Y,upR ⟨0,0,0,[]⟩ id m=Y:=⟨_,rfl⟩
  rw[hY] at he hz HC
  obtain⟨Y,gt,er⟩:=Y
  have hz':er≠0:=hz
  have hd:(er==0)=false:=by simpa using hz'
  have HR:=hD0 (HE.out.symm.trans he)
  have HR2:=hD0 (HT.out.symm.trans (show Z22 (Z3 l) id m=Z3 l by unfold Z22;rw[if_neg (by rw[he];exact hz')]))
  have HR3:=hD0 (HG0.out.symm.trans (show Z3c (Z3 l) id m=false by unfold Z3c;rw[if_neg (by rw[he];exact hz')]))
  clear he HE HT HG0 HP ho hi g1 hz hz' hY
  unfold Yf at HC
  go_wp2_with fail
  refine HC.out.mono ?_
  rintro e w2 ⟨v2,rfl,g2,hrd,hcap,hnew⟩
  obtain⟨a2,n2,rfl⟩:=hrd.form
  simp only[Yf]
  have HN2:=hD0 (HN1.out.trans (g2.trans ((Nw.refl w2).alloc (.cells #[.int .i64 Y.t,.int .i64 Y.r,.slice a2 Y.q.length n2,.int .i64 Y.W] 63))))
  clear hrd hcap hnew g2 HC
  go_wp2
  refine bodyPost_ret (v:=.tuple #[.bool false,.int .i64 er]) (by simp[results,results97,go_sem, *]) rfl ?_
  exact⟨by rw[HR.out,HR3.out],_,l,HR2.out.symm,H.out.same HN2.out pg⟩
 ·rcases HF.out with⟨_,e,_⟩ | ⟨g,rfl,hog,hgl⟩
  ·subst e;simp at hk
  have HW:=hD0 (H.out.nw HN1.out)
  have hx:=HW.out.ok _ (gM0 hk)
  obtain⟨f0,f1,f2,f3⟩:=HW.out.at_ k hk
  have hl1:=HW.out.len
  have hki:(k:Int)<(l.length:Int):=by omega
  have c2:=HW.out.c2
  have HG:=hD0 (fun w2 (g:Nw w1 w2)=>Z80 l[k].h.t l[k].h.r l[k].h.W id m (hmV l[k]) l[k].h.q w2 hx.len (HO.out _ (gM0 hk)) (hx.rd.nw g))
  have he:Z0u (Z3 l) id m=(upR l[k].h id m).2.2:=by rw[Zit,ho]
  have hs:Z22 (Z3 l) id m=if (upR l[k].h id m).2.2=0 then Yh (Z3 l) (upR l[k].h id m).1 else Z3 l:=by unfold Z22;rw[he];split;rw[ho];rfl
  have hg:Z3c (Z3 l) id m=if (upR l[k].h id m).2.2=0 then(upR l[k].h id m).2.1 else false:=by unfold Z3c;rw[he];split;rw[ho];rfl
  have HR:=hD0 (HE.out.symm.trans he)
  have HR2:=hD0 (HT.out.symm.trans hs)
  have HR3:=hD0 (HG0.out.symm.trans hg)
  have hln:=Nat.le_trans (Zub l[k].h id m) hx.len
  have hnm:=Zqi l[k].h id m
  rw[show(⟨l[k].h.t,l[k].h.r,l[k].h.W,l[k].h.q⟩:Hq)=l[k].h from rfl] at HG
  unfold Yf hmV at HG
  obtain⟨Y,hY⟩:∃Y,upR l[k].h id m=Y:=⟨_,rfl⟩
  rw[hY] at HG HR HR2 HR3 hln hnm
  obtain⟨Y,gt,er⟩:=Y
  have HLn:=hD0 hln
  have HNm:=hD0 (fun e=>(hnm e:Y.t=l[k].h.t∧Y.r=l[k].h.r))
  clear hY he hs hg HE HT HG0 ho hi hx hln hnm HP
  generalize l[k].a=qa at *
  generalize l[k].c=qc at *
  obtain⟨n,hn⟩:∃n,l[k].h.q.length=n:=⟨_,rfl⟩
  obtain⟨ht0,ht⟩:∃t,l[k].h.t=t:=⟨_,rfl⟩
  obtain⟨hr0,hr⟩:∃r,l[k].h.r=r:=⟨_,rfl⟩
  obtain⟨hW0,hW⟩:∃W,l[k].h.W=W:=⟨_,rfl⟩
  rw[ht] at f0 HG
  rw[hr] at f1 HG
  rw[hn] at f2 HG
  rw[hW] at f3 HG
  clear hn ht hr hW g1
  go_wp2_with fail
  refine(HG.out _ (Nw.refl _)).mono ?_
  rintro e w2 ⟨v2,rfl,g2,hrd,hcap,hnew⟩
  obtain⟨a2,n2,rfl⟩:=hrd.form
  simp only[Yf]
  have hal:=Z1 w2 (.cells #[.int .i64 Y.t,.int .i64 Y.r,.slice a2 Y.q.length n2,.int .i64 Y.W] 63)
  have hNa:Nw w2 (w2.alloc (.cells #[.int .i64 Y.t,.int .i64 Y.r,.slice a2 Y.q.length n2,.int .i64 Y.W] 63)):=(Nw.refl w2).alloc _
  have hNy:=g2.trans hNa
  have HK:=hD0 (aI0 hrd (aI0 hcap hnew))
  have HA:=hD0 hNa
  clear hrd hcap hnew hNa
  by_cases her:er=0
  ·subst her
   have HY:=hD0 (HNm.out rfl)
   have HGs:Hid (G=gt):=hD0 (HR3.out.trans (if_pos rfl))
   go_wp2_with fail
   generalize hy2:w2.alloc (.cells #[.int .i64 Y.t,.int .i64 Y.r,.slice a2 Y.q.length n2,.int .i64 Y.W] 63)=y2 at *
   clear hy2
   obtain⟨pb,hpb⟩:∃pb,w2.heap.size=pb:=⟨_,rfl⟩
   rw[hpb] at hal
   try rw[hpb]
   have hpl:=hlt hal
   have hgy:g<y2.heap.size:=lL0 hgl (HN1.out.trans hNy).sz
   have p0:y2.cell? ⟨pb,0,none⟩=some (.int .i64 Y.t):=Z0 hal
   have p1:y2.cell? ⟨pb,1,none⟩=some (.int .i64 Y.r):=Z0 hal
   have p2:y2.cell? ⟨pb,2,none⟩=some (.slice a2 Y.q.length n2):=Z0 hal
   have p3:y2.cell? ⟨pb,3,none⟩=some (.int .i64 Y.W):=Z0 hal
   have fz:∀j,y2.frozen? ⟨g,j,none⟩=false:=fun j=>World.ownsRow.frozenAt (HW.out.nw hNy).own j
   replace c2:=hNy.kp c2
   replace f0:=hNy.kp f0
   replace f1:=hNy.kp f1
   replace f2:=hNy.kp f2
   replace f3:=hNy.kp f3
   have HQ:=hD0 (HW.out.put_to hNy pg k hk ⟨Y,a2,n2⟩ (HW.out.got hNy Y (HK.out.1.nw HA.out) HK.out.2.1 HK.out.2.2 HLn.out) HK.out.2.2)
   have HQs:=hD0 (HR2.out.trans (show(if (0:Int)=0 then Yh (Z3 l) Y else Z3 l)=Z3 (l.set k ⟨Y,a2,n2⟩) by
    rw[if_pos rfl]
    refine Z6q HS.out hk (x:=⟨Y,a2,n2⟩) ?_
    show(Y.t,Y.r)=(l[k].h.t,l[k].h.r)
    rw[HY.out.1,HY.out.2]))
   clear hal hNy HG g2
   refine wp_region_still_tail 7 (by kernel_rfl) (by kernel_rfl) ?_
   simp only[List.take_succ_cons,List.take_zero,List.drop_succ_cons,List.drop_zero]
   iterate 7 still_step
   try refine wpStill_nil ?_
   change wpList _ _ _ _ _ y2.drew
   go_wp2
   refine bodyPost_ret (v:=.tuple #[.bool gt,.int .i64 0]) (by simp[results,results97,go_sem, *]) rfl ?_
   exact⟨by rw[HR.out,HGs.out],.slice (some ⟨g,0,none⟩) l.length c,l.set k ⟨Y,a2,n2⟩,HQs.out.symm,Yx.pre HN1.out (HQ.out.nw (Nw.refl _).dr)⟩
  ·have hd:(er==0)=false:=by simpa using her
   have HQs:=hD0 (HR2.out.trans (if_neg her))
   have HGs:=hD0 (HR3.out.trans (if_neg her))
   have HNy:=hD0 (HN1.out.trans hNy)
   clear hal hNy HG g2 her
   go_wp2
   refine bodyPost_ret (v:=.tuple #[.bool false,.int .i64 er]) (by simp[results,results97,go_sem, *]) rfl ?_
   exact⟨by rw[HR.out,HGs.out],_,l,HQs.out.symm,H.out.same HNy.out pg⟩
abbrev IS(w:World)(v:Value)(l:List Int):Prop:=w.ownsRow 0 3 1 v l.length (l.map (Value.int .i64))
theorem IS.form{w:World}{v:Value}{l:List Int}(h:IS w v l):(v=.slice none 0 0∧l=[])∨∃g cap,v=.slice (some ⟨g,0,none⟩) l.length cap:=by
 rcases h.2 with⟨rfl,h0⟩ | ⟨g,cap,cur,rfl,_⟩
 ·exact .inl ⟨rfl,List.length_eq_zero_iff.1 h0⟩
 ·exact .inr ⟨g,cap,rfl⟩
theorem IS.tch{S:Nat→Prop}{w w':World}{v:Value}{l:List Int}(h:IS w v l)(k:Z4 S w w')(hn:∀g,v.ownBlock=some g→¬S g):IS w' v l:=by
 refine⟨h.1,?_⟩
 rcases h.2 with h0 | ⟨g,cap,cur,rfl,hb,hg,rest⟩
 ·exact .inl h0
 ·exact .inr ⟨g,cap,cur,rfl,hb,(k.block g (Array.getElem?_eq_some_iff.1 hg).1 (hn g rfl)).trans hg,rest⟩
theorem IS.nw{w w':World}{v:Value}{l:List Int}(h:IS w v l)(k:Nw w w'):IS w' v l:=h.tch (Z4.nw (S:=fun _=>False) k) (fun _ _ e=>e)
theorem IS.nil(w:World):IS w (.slice none 0 0) []:=World.ownsRow_nil _ _ _ _
theorem IS.nlen{w:World}{g cap n:Nat}{l:List Int}(h:IS w (.slice (some ⟨g,0,none⟩) n cap) l):n=l.length:=by
 rcases h.2 with⟨h',_⟩ | ⟨g',cap',cur,h',_⟩
 ·simp at h'
 ·simp only[Value.slice.injEq] at h'
  exact h'.2.1
theorem IS.cell{w:World}{g cap n:Nat}{l:List Int}(h:IS w (.slice (some ⟨g,0,none⟩) n cap) l)(i:Nat)(hi:i<l.length):w.cell? ⟨g,i,none⟩=some (.int .i64 (l.getD i 0)):=by
 have e:=h.nlen
 subst e
 exact(World.ownsRow.cellAt h i (by omega)).trans (by simp[List.getD,hi])
theorem IS.frozen{w:World}{g cap n:Nat}{l:List Int}(h:IS w (.slice (some ⟨g,0,none⟩) n cap) l)(j:Nat):w.frozen? ⟨g,j,none⟩=false:=by
 have e:=h.nlen
 subst e
 exact World.ownsRow.frozenAt h j
theorem IS.lt{w:World}{v:Value}{l:List Int}(h:IS w v l){k:Nat}(hk:v.ownBlock=some k):k<w.heap.size:=(World.ownsRow.lt h k hk).2
theorem IS.glt{w:World}{g cap n:Nat}{l:List Int}(h:IS w (.slice (some ⟨g,0,none⟩) n cap) l):g<w.heap.size:=h.lt rfl
theorem IS.len{w:World}{v:Value}{l:List Int}(h:IS w v l):l.length≤maxLen:=by
 rcases h.2 with⟨rfl,h0⟩ | ⟨g',cap',cur,h',_,_,h1,h2,_⟩
 ·rw[h0];exact Nat.zero_le _
 ·exact Nat.le_trans h1 h2
theorem IS.set{w:World}{g cap n:Nat}{l:List Int}(h:IS w (.slice (some ⟨g,0,none⟩) n cap) l)(i:Nat)(x:Int):IS (w.setCell ⟨g,i,none⟩ (.int .i64 x)) (.slice (some ⟨g,0,none⟩) n cap) (l.set i x):=by
 have e:=h.nlen
 subst e
 have h1:=(World.ownsRow.stored h i (.int .i64 x)).1
 unfold IS
 rw[List.length_set,List.map_set]
 exact h1
theorem IS.box{w:World}{v:Value}{l:List Int}(h:IS w v l):∃ao cap,v=.slice ao l.length cap∧(0<l.length→∃g,ao=some ⟨g,0,none⟩∧v.ownBlock=some g):=by
 rcases h.form with⟨rfl,rfl⟩ | ⟨g,cap,rfl⟩
 ·exact⟨none,0,rfl,fun h=>by simp at h⟩
 ·exact⟨_,cap,rfl,fun _=>⟨g,rfl,rfl⟩⟩
theorem Zv3:(prog.info? 3).map (fun i=>(i.zero,i.size,i.bytes))=some (some (.int .i64 0),1,8):=by kernel_rfl
theorem IS.push(w:World)(v:Value)(l:List Int)(x:Int)(h:IS w v l)(hsm:l.length≤100000) :
  ∃v' w1,(Builtin.append_ #[60,60] 60 #[v,.slice (some ⟨w.heap.size,0,none⟩) 1 1]).run prog (w.alloc (.cells #[.int .i64 x] 3))=.ok v' w1∧IS w1 v' (l++[x])∧Z4 (fun k=>v.ownBlock=some k) w w1 ∧
   (∀k,v'.ownBlock=some k→v.ownBlock=some k∨w.heap.size≤k)∧(∃g cap,v'=.slice (some ⟨g,0,none⟩) (l.length+1) cap):=by
 obtain⟨i0,hi,hz0,hz1,hz2⟩:=info_parts Zv3
 have ha:IS (w.alloc (.cells #[.int .i64 x] 3)) v l:=h.nw ((Nw.refl w).alloc _)
 have hc:(w.alloc (.cells #[.int .i64 x] 3)).cell? ⟨w.heap.size,0,none⟩=some (.int .i64 x):=by simp[go_sem]
 obtain⟨v',w1,hrun,ho,hg,hp⟩:=Um (P:=prog) (w.alloc (.cells #[.int .i64 x] 3)) 0 60 60 3 i0 _ 1 8 underlying60 hi hz0 hz1 hz2 rfl (by decide) v l.length _ ha
  ⟨w.heap.size,0,none⟩ 1 1 [.int .i64 x] rfl (by
   intro j u hu
   match j,hu with
   | 0,hu=>simp at hu;subst hu;exact hc) (by simp[Value.oneCell']) (by unfold maxLen;omega) (by omega) (Nat.zero_le _)
 have hI:IS w1 v' (l++[x]):=by
  unfold IS
  rw[List.length_append,List.map_append]
  exact ho
 refine⟨v',w1,hrun,hI,(Z4.alloc (Z4.refl _ w) _).grown hg (fun k e=>.inl e),fun k e=>?_,?_⟩
 ·rcases hp with hp | hp
  ·exact .inl (hp▸e)
  ·rw[hp] at e
   simp at e
   exact .inr (by omega)
 ·rcases hI.form with⟨_,q⟩ | ⟨g,cap,rfl⟩
  ·simp at q
  ·exact⟨g,cap,by simp⟩
theorem Zkl(g cap g' cap':Nat)(l:List Int)(w:World)(h:IS w (.slice (some ⟨g,0,none⟩) l.length cap) l)(h':IS w (.slice (some ⟨g',0,none⟩) l.length cap') l) :
  Calls prog 51 #[.slice (some ⟨g,0,none⟩) l.length cap,.slice (some ⟨g',0,none⟩) l.length cap'] w fun e w'=>e=.returned (.bool true)∧Nw w w':=by
 have hm:=h.len
 unfold maxLen at hm
 have H:=hD0 (aI0 h h')
 clear h h'
 go_enter func51,ntmps51
 go_wp2
 go_loopw [5] (fun i wr=>∃k:Nat,k≤l.length∧i=.int .i64 k∧Nw w wr) (fun i _=>l.length-(intOf i).toNat)
 case atStart=>exact⟨0,Nat.zero_le _,rfl,Nw.refl _⟩
 case round =>
  obtain⟨k,hk,rfl,hG⟩:=hrel
  by_cases hlt:k<l.length
  ·have c0:=(H.out.1.nw hG).cell k hlt
   have d0:=(H.out.2.nw hG).cell k hlt
   generalize l.getD k 0=x at *
   go_wp2_with fail
   go_quiet (fail)
   go_wp2
   go_roundw
   case rel=>exact⟨k+1,by omega,by go_num,hG.drewN _⟩
   case measure=>simp[intOf];omega
  ·go_wp2
   go_ret
   exact⟨rfl,hG⟩
theorem Z85(w:World)(v v':Value)(h:(v=.slice none 0 0)∨∃g cap,v=.slice (some ⟨g,0,none⟩) 0 cap)(h':(v'=.slice none 0 0)∨∃g cap,v'=.slice (some ⟨g,0,none⟩) 0 cap) :
  Calls prog 51 #[v,v'] w fun e w'=>e=.returned (.bool true)∧Nw w w':=by
 rcases h with rfl | ⟨g,cap,rfl⟩<;>rcases h' with rfl | ⟨g',cap',rfl⟩
 all_goals
  go_enter func51,ntmps51
  go_wp2
  refine wp_loop_rounds 1 ?_
  repeat (rw[rounds_succ];go_wp2)
  go_ret
  exact⟨rfl,Nw.refl _⟩
theorem Zdy(w:World)(v v':Value)(l:List Int)(h:IS w v l)(h':IS w v' l) :
  Calls prog 51 #[v,v'] w fun e w'=>e=.returned (.bool true)∧Nw w w':=by
 rcases h.form with⟨rfl,rfl⟩ | ⟨g,cap,rfl⟩
 ·rcases h'.form with⟨rfl,_⟩ | ⟨g',cap',rfl⟩
  ·exact Z85 w _ _ (.inl rfl) (.inl rfl)
  ·exact Z85 w _ _ (.inl rfl) (.inr ⟨_,_,rfl⟩)
 ·rcases h'.form with⟨rfl,rfl⟩ | ⟨g',cap',rfl⟩
  ·exact Z85 w _ _ (.inr ⟨_,_,rfl⟩) (.inl rfl)
  ·exact Zkl g cap g' cap' l w h h'
theorem Zpc(n m:Int)(hm:0<m):-m<n.tmod m∧n.tmod m<m:=by
 refine⟨?_,Int.tmod_lt_of_pos n hm⟩
 have:=Int.tmod_lt_of_pos (-n) hm
 rw[Int.neg_tmod] at this;omega
theorem Zpd(n m:Int)(hm:0<m):n%m=if n.tmod m<0 then n.tmod m+m else n.tmod m:=by
 have h1:n.tmod m+m*n.tdiv m=n:=Int.tmod_add_mul_tdiv n m
 have h2:=Zpc n m hm
 generalize n.tmod m=r at *
 generalize n.tdiv m=q at *
 subst h1
 rw[Int.add_mul_emod_self_left]
 by_cases h:r<0
 ·rw[if_pos h,←Int.add_emod_right,Int.emod_eq_of_lt (by omega) (by omega)]
 ·rw[if_neg h,Int.emod_eq_of_lt (by omega) (by omega)]
theorem Zih{k:IntKind}{a b:Int}(h:a=b):Ending.returned (.int k a)=.returned (.int k b):=by rw[h]
theorem Zot(n m:Int)(w:World)(hm:0<m)(hm':m≤9223372036854775807) :
  Calls prog 39 #[.int .i64 n,.int .i64 m] w fun e w'=>e=.returned (.int .i64 (n%m))∧w=w':=by
 have hr:=hD0 (Zpd n m hm)
 obtain⟨b1,b2⟩:=Zpc n m hm
 by_cases hneg:n.tmod m<0
 ·go_enter func39,ntmps39
  go_wp2
  go_ret
  exact⟨Zih (by rw[hr.out,if_pos hneg]),rfl⟩
 ·go_enter func39,ntmps39
  go_wp2
  go_ret
  exact⟨Zih (by rw[hr.out,if_neg (by omega)]),rfl⟩
end Go.Proofs.YtpffldfpabglbaaGreatDoor
