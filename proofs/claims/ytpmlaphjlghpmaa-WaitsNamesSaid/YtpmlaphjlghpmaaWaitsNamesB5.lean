/- Texts merged: QuN, QvI, QvO, QvK, QvL, Shelf, QwA, QvP -/
import Derived.Test.YtpmlaphjlghpmaaWaitsNamesB4
import Derived.Lib.SliceRun
import Derived.Deep.Upon
import Derived.Shelf.Small.Bits
import Derived.Shelf.Small.Wraps
import Derived.Shelf.Strconv.Itoa0
import Derived.Shelf.Sort.Plain
import Derived.Shelf.Slices.Turned
import Derived.Shelf.Slices.Reverse
import Derived.Ground.Names2Prog
import Derived.Shelf.Slices.CompactI
import Derived.Shelf.Slices.SearchI
import Derived.Shelf.Slices.Cells
import Derived.Shelf.Slices.In.SortNone
import Derived.Test.YtpmlaphjlghpmaaProg
import Derived.Sort.OwnSortedInts
import Derived.Lib.RowBridge
import Derived.Deep.RegionLaw
set_option linter.unusedVariables false
set_option maxRecDepth 100000
set_option maxHeartbeats 16000000
namespace Go.Proofs.Ytpmlaphjlghpmaa
open Go.RowKit _root_.Go.Proofs.Try
def HR2(X:Hq × Bool × Int)(w:World)(e:Ending)(w':World):Prop:=∃v',e=.returned (.tuple #[Ua X.1.t X.1.r v' X.1.W,.bool X.2.1,.int .i64 X.2.2])∧Nw w w'∧Y7 w' v' X.1.q∧Z35 v'
def Z4j(X:Hq × Bool × Int)(w:World)(e:Ending)(w':World):Prop:=∃v',e=.returned (.tuple #[Ua X.1.t X.1.r v' X.1.W,.bool X.2.1,.int .i64 X.2.2])∧Nw w w'∧Y7 w' v' X.1.q∧Z35 v'∧newV w.heap.size v'
theorem Z5b{W:Int}{q:List Rq}(h:Ok W q)(m:Int):free q m=true↔(∀a∈q,¬Z2r a)∧(∀a∈q,a.md≠0)∧Z59 q m (-1):=by
 constructor
 ·intro hf
  have hf':∀a∈q,a.sn=0∧Vq a.md m=true:=by
   intro a ha
   have:=List.all_eq_true.1 hf a ha
   simpa using this
  exact⟨fun a ha u=>by have:=(hf' a ha).1;have:=u.2;omega,fun a ha=>((h.rt a ha).h (hf' a ha).1).1,fun k hk _ _=>(hf' _ (gM0 hk)).2⟩
 ·rintro⟨h1,h2,h3⟩
  refine List.all_eq_true.2 fun a ha=>?_
  obtain⟨k,hk,rfl⟩:=List.getElem_of_mem ha
  have hm:=h2 _ ha
  have s0:=(h.rt _ ha).s0
  have hs:q[k].sn=0:=by
   have:=h1 _ ha
   unfold Z2r at this
   have:¬0<q[k].sn:=fun e=>this ⟨hm,e⟩
   omega
  simp[hs,h3 k hk (by omega) hm]
theorem Z34{h:Hq}{id txn m:Int}(e:id<0∨m=0∨Yk m=false):Vo h id txn m=(noH,false,2):=by
 unfold Vo
 have:Z08 h.q id txn m=2:=by unfold Z08;rw[if_pos e]
 rw[this];rfl
theorem Z6d{h:Hq}{id txn m:Int}(e:¬(id<0∨m=0∨Yk m=false))(a:(h.q.any fun r=>r.id==id || r.txn==txn)=true):Vo h id txn m=(noH,false,4):=by
 unfold Vo
 have:Z08 h.q id txn m=4:=by unfold Z08;rw[if_neg e,if_pos a]
 rw[this];rfl
theorem Z6e{h:Hq}{id txn m:Int}(e:¬(id<0∨m=0∨Yk m=false))(a:(h.q.any fun r=>r.id==id || r.txn==txn)=false)(f:free h.q m=true):Vo h id txn m=(⟨h.t,h.r,h.W,h.q++[⟨id,txn,m,m,0⟩]⟩,true,0):=by
 unfold Vo
 have:Z08 h.q id txn m=0:=by unfold Z08;rw[if_neg e,if_neg (by rw[a];simp)]
 rw[this,if_pos rfl];unfold Z4o;rw[if_pos f]
theorem Z7r{h:Hq}{id txn m:Int}(e:¬(id<0∨m=0∨Yk m=false))(a:(h.q.any fun r=>r.id==id || r.txn==txn)=false)(f:¬free h.q m=true):Vo h id txn m=(⟨h.t,h.r,h.W+1,h.q++[⟨id,txn,0,m,h.W+1⟩]⟩,false,0):=by
 unfold Vo
 have:Z08 h.q id txn m=0:=by unfold Z08;rw[if_neg e,if_neg (by rw[a];simp)]
 rw[this,if_pos rfl];unfold Z4o;rw[if_neg f]
theorem Z4m{p:Rq→Bool}{q:List Rq}{k:Nat}(hk:k<q.length)(h:p q[k]=true):q.any p=true:=List.any_eq_true.2 ⟨_,gM0 hk,h⟩
theorem Z4l{p:Rq→Bool}{q:List Rq}(h:∀k (hk:k<q.length),p q[k]=false):q.any p=false:=by
 rw[List.any_eq_false]
 intro a ha
 obtain⟨k,hk,rfl⟩:=List.getElem_of_mem ha
 simp[h k hk]
theorem Z6f(w:World)(a b c d e:Int)(T:TypeId):∀j u,(Z2a ⟨a,b,c,d,e⟩)[j]?=some u→(w.alloc (.cells #[.int .i64 a,.int .i64 b,.int .i64 c,.int .i64 d,.int .i64 e] T)).cell? ⟨w.heap.size,j,none⟩=some u:=by
 intro j u hu
 rw[Z2 (Z5 w _),←Array.getElem?_toList]
 exact hu
theorem Vi{w z:World}{g0 pb n1 k1:Nat}{a1:Option Addr}{q:List Rq}(hz:Nw w z)(hg:w.heap.size≤g0)(h:Zn z g0 (.slice a1 n1 k1) q)(hl:q.length≤1000)(a b c d e:Int)(hpb:pb<z.heap.size)(hg0:g0≤z.heap.size)(hne:∀g,(Value.slice a1 n1 k1).ownBlock=some g→g≠pb) :
  ∃a2 n2 k2 w2,(Builtin.append_ #[25,25] 25 #[.slice a1 n1 k1,.slice (some ⟨z.heap.size,0,none⟩) 1 1]).run prog (z.alloc (.cells #[.int .i64 a,.int .i64 b,.int .i64 c,.int .i64 d,.int .i64 e] 49))=.ok (.slice a2 n2 k2) w2 ∧
   Zn w2 g0 (.slice a2 n2 k2) (q++[⟨a,b,c,d,e⟩])∧Nw w w2∧(∀x,x<z.heap.size→(∀g,(Value.slice a1 n1 k1).ownBlock=some g→x≠g)→w2.heap[x]?=z.heap[x]?)∧(∀x,(Value.slice a2 n2 k2).ownBlock=some x→x≠pb):=by
 have hN:Nw z (z.alloc (.cells #[.int .i64 a,.int .i64 b,.int .i64 c,.int .i64 d,.int .i64 e] 49)):=(Nw.refl z).alloc _
 obtain⟨v',w2,hrun,hR,hG,hbk,g2,k2,hv⟩:=Yq.push Z55 (Uf h hN) ⟨a,b,c,d,e⟩ z.heap.size 1 (Z6f z a b c d e _) (by omega) (Nat.le_trans hg0 hN.sz)
 subst hv
 refine⟨_,_,_,w2,hrun,hR,(hz.trans hN).gro hG (fun x hx=>Nat.le_trans hg (oge h hx)),fun x hx hxg=>(hG.block x (lL0 hx hN.sz) (fun e=>hxg x e.symm rfl)).trans (hN.block x hx),fun x hx e=>?_⟩
 subst e
 have hs:(z.alloc (.cells #[.int .i64 a,.int .i64 b,.int .i64 c,.int .i64 d,.int .i64 e] 49)).heap.size=z.heap.size+1:=by simp
 rcases hbk with q1 | q1
 ·rw[hx] at q1;exact hne x q1.symm rfl
 ·rw[hx] at q1;have e2:x=(z.alloc (.cells #[.int .i64 a,.int .i64 b,.int .i64 c,.int .i64 d,.int .i64 e] 49)).heap.size:=Option.some.inj q1;omega
theorem Z2w(t r W id x m:Int)(v:Value)(q:List Rq)(w:World)(hl:q.length≤1000)(hok:Ok W q)(h:Y7 w v q) :
  Calls prog 5 #[Ua t r v W,.int .i64 id,.int .i64 x,.int .i64 m] w (Z4j (Vo ⟨t,r,W,q⟩ id x m) w):=by
 have HOk:=hD0 hok
 clear hok
 obtain⟨X,hX⟩:∃X,Vo ⟨t,r,W,q⟩ id x m=X:=⟨_,rfl⟩
 rw[hX]
 have HXx:=hD0 hX
 clear hX
 have HU:=hD0 (fun(w1:World) (g:Nw w w1)=>Z26 t r W v q w1 hl (h.nw g))
 have HWa:=hD0 (fun(w1:World) (g:Nw w w1)=>Z49 t r W v q w1 hl (h.nw g))
 have HF:=hD0 (fun(w1:World) (g:Nw w w1)=>Z8a t r W m (-1) v q w1 hl (h.nw g))
 have HCp:=hD0 (fun(w1:World) (g:Nw w w1)=>Z5p t r W v q w1 hl (h.nw g))
 have HAs:=hD0 (fun w=>Z75 m w)
 unfold Ua at HCp HU HWa HF
 unfold Z4j Ua
 obtain⟨a,c,rfl,h⟩:=h
 have HH:=hD0 h
 clear h
 have HX:=hD0 (V3 w (.cells #[.int .i64 t,.int .i64 r,.slice a q.length c,.int .i64 W] 27) (.cells #[.int .i64 0,.int .i64 0,.slice none 0 0,.int .i64 0] 27))
 by_cases hid:id<0
 ·have hR:=HXx.out.symm.trans (Z34 (h:=⟨t,r,W,q⟩) (.inl hid))
  subst hR
  have HN0:=HX.out.2.2.1
  have hq0:=HX.out.2.1
  have d0:=Z2 (j:=0) hq0
  have d1:=Z2 (j:=1) hq0
  have d2:=Z2 (j:=2) hq0
  have d3:=Z2 (j:=3) hq0
  have fz:=fun k=>hfz (j:=k) hq0
  have hsl2:=hlt hq0
  have HQ:=hD0 HN0
  clear HN0 hq0 HOk HXx HU HWa HF HCp HH HX
  go_enter func5,ntmps5
  go_wp2
  refine bodyPost_ret (v:=.tuple #[.agg #[.int .i64 0,.int .i64 0,.slice none 0 0,.int .i64 0],.bool false,.int .i64 2]) (by simp[results,results5,go_sem, *]) rfl ⟨_,rfl,by first | exact HQ.out | exact Yc HQ.out (Nat.le_succ _) _ _ _ _,Rd.nil _,Nat.le_refl _,Yv _⟩
 have hid2:decide (id<0)=false:=by simpa using hid
 obtain⟨y,hy⟩:∃y,((m != 0)&&Yk m)=y:=⟨_,rfl⟩
 rw[hy] at HAs
 cases y
 ·have hR:=HXx.out.symm.trans (Z34 (h:=⟨t,r,W,q⟩) (.inr (by cases e:Yk m with | false=>exact .inr rfl | true=>rw[e,Bool.and_true] at hy;exact .inl (by simpa using hy))))
  subst hR
  go_enter func5,ntmps5
  go_wp2_with fail
  refine(HAs.out _).mono ?_
  rintro e w1 ⟨rfl,g1⟩
  have hq1:=g1.at' HX.out.2.1
  have HQ:=hD0 (HX.out.2.2.1.trans g1)
  have d0:=Z2 (j:=0) hq1
  have d1:=Z2 (j:=1) hq1
  have d2:=Z2 (j:=2) hq1
  have d3:=Z2 (j:=3) hq1
  have fz:=fun k=>hfz (j:=k) hq1
  have hsl2:=hlt hq1
  clear g1 hq1 hy HAs HOk HXx HU HWa HF HCp HH HX
  go_wp2
  refine bodyPost_ret (v:=.tuple #[.agg #[.int .i64 0,.int .i64 0,.slice none 0 0,.int .i64 0],.bool false,.int .i64 2]) (by simp[results,results5,go_sem, *]) rfl ⟨_,rfl,Yc HQ.out (Nat.le_succ _) _ _ _ _,Rd.nil _,Nat.le_refl _,Yv _⟩
 have hgood:¬(id<0∨m=0∨Yk m=false):=by
  rw[Bool.and_eq_true] at hy
  rintro(e | e | e)
  ·exact hid e
  ·rw[e] at hy;exact absurd hy.1 (by simp)
  ·rw[hy.2] at e;cases e
 have HTw:=hD0 (fun a=>Z6d (h:=⟨t,r,W,q⟩) (txn:=x) hgood a)
 have HYes:=hD0 (fun a f=>Z6e (h:=⟨t,r,W,q⟩) (txn:=x) hgood a f)
 have HNo:=hD0 (fun a f=>Z7r (h:=⟨t,r,W,q⟩) (txn:=x) hgood a f)
 have HFr:=hD0 (Z5b HOk.out m)
 have HWB:=hD0 (aI0 HOk.out.w0 HOk.out.wB)
 clear hgood hy
 go_enter func5,ntmps5
 go_wp2_with fail
 refine(HAs.out _).mono ?_
 rintro e w1 ⟨rfl,g1⟩
 have hp1:=g1.at' HX.out.1
 have hq1:=g1.at' HX.out.2.1
 have HN1:=hD0 (HX.out.2.2.1.trans g1)
 have HP1:=hD0 (aI0 hp1 hq1)
 have c0:=Z2 (j:=0) hp1
 have c1:=Z2 (j:=1) hp1
 have c2:=Z2 (j:=2) hp1
 have c3:=Z2 (j:=3) hp1
 have hsl:=hlt hp1
 have hsl2:=hlt hq1
 clear hp1 hq1 g1 HAs HX HOk
 go_wp2
 go_loopw [11] (fun i wr=>∃k:Nat,k≤q.length∧i=.int .i64 k∧(∀n (hn:n<q.length),n<k→(q[n].id==id || q[n].txn==x)=false)∧Nw w1 wr) (fun i _=>q.length-(intOf i).toNat)
 case atStart=>exact⟨0,Nat.zero_le _,rfl,fun n _ h=>absurd h (Nat.not_lt_zero _),Nw.refl _⟩
 case round =>
  clear c0 c1 c2 c3 hsl hsl2
  obtain⟨k,hk,rfl,hf,hG⟩:=hrel
  have hp2:=hG.at' HP1.out.1
  have hq2:=hG.at' HP1.out.2
  have HN2:=hD0 (HN1.out.trans hG)
  have c0:=Z2 (j:=0) hp2
  have c1:=Z2 (j:=1) hp2
  have c2:=Z2 (j:=2) hp2
  have c3:=Z2 (j:=3) hp2
  have hsl:=hlt hp2
  have hsl2:=hlt hq2
  by_cases hlk:k<q.length
  ·rcases HH.out with⟨e,_⟩ | ⟨b,o,rfl,hc⟩
   ·subst e;simp at hlk
   have hce:=(hc.nw HN2.out).cell k hlk
   have hAny:=hD0 (fun e=>HTw.out (Z4m (p:=fun r=>r.id==id || r.txn==x) hlk e))
   have hSm:=hD0 (show(q[k].id==id || q[k].txn==x)=false→∀n (hn:n<q.length),n<k+1→(q[n].id==id || q[n].txn==x)=false from fun e n hn hnk=>by
    rcases Nat.lt_or_ge n k with g | g
    ·exact hf n hn g
    ·obtain rfl:n=k:=by omega
     exact e)
   generalize q[k]=A at *
   obtain⟨f0,f1,f2,f3,f4⟩:=A
   have e0:=hce 0 _ rfl
   have e1:=hce 1 _ rfl
   have e2:=hce 2 _ rfl
   have e3:=hce 3 _ rfl
   have e4:=hce 4 _ rfl
   simp only[Nat.add_zero] at e0
   have HG:=hD0 hG
   clear hce hf hG HU HWa HF HCp HYes HNo HFr hc HH
   by_cases h1:f0=id
   ·have d:(f0==id)=true:=by simpa using h1
    have hR:=HXx.out.symm.trans (hAny.out (by simp[h1]))
    subst hR
    have d0:=Z2 (j:=0) hq2
    have d1:=Z2 (j:=1) hq2
    have d2:=Z2 (j:=2) hq2
    have d3:=Z2 (j:=3) hq2
    have fz:=fun k=>hfz (j:=k) hq2
    clear h1 hAny hSm HTw HXx
    go_wp2
    refine bodyPost_ret (v:=.tuple #[.agg #[.int .i64 0,.int .i64 0,.slice none 0 0,.int .i64 0],.bool false,.int .i64 4]) (by simp[results,results5,go_sem, *]) rfl ⟨_,rfl,Yc HN2.out (Nat.le_succ _) _ _ _ _,Rd.nil _,Nat.le_refl _,Yv _⟩
   have d:(f0==id)=false:=by simpa using h1
   by_cases h2:f1=x
   ·have d2:(f1==x)=true:=by simpa using h2
    have hR:=HXx.out.symm.trans (hAny.out (by simp[h2]))
    subst hR
    have d0:=Z2 (j:=0) hq2
    have d1:=Z2 (j:=1) hq2
    have d2:=Z2 (j:=2) hq2
    have d3:=Z2 (j:=3) hq2
    have fz:=fun k=>hfz (j:=k) hq2
    clear h1 h2 hAny hSm HTw HXx
    go_wp2
    refine bodyPost_ret (v:=.tuple #[.agg #[.int .i64 0,.int .i64 0,.slice none 0 0,.int .i64 0],.bool false,.int .i64 4]) (by simp[results,results5,go_sem, *]) rfl ⟨_,rfl,Yc HN2.out (Nat.le_succ _) _ _ _ _,Rd.nil _,Nat.le_refl _,Yv _⟩
   have d2:(f1==x)=false:=by simpa using h2
   have HS2:=hD0 (hSm.out (by simp[h1,h2]))
   clear h1 h2 hAny hSm HTw HXx
   go_wp2
   go_roundw
   case rel=>exact⟨k+1,by omega,by go_num,HS2.out,HG.out⟩
   case measure=>simp[intOf];omega
  ·obtain rfl:k=q.length:=by omega
   have hany:(q.any fun r=>r.id==id || r.txn==x)=false:=Z4l (fun n hn=>hf n hn hn)
   have HYs:=hD0 (fun f=>HXx.out.symm.trans (HYes.out hany f))
   have HNs:=hD0 (fun f=>HXx.out.symm.trans (HNo.out hany f))
   have HQ1:=hD0 (aI0 hp2 hq2)
   clear hf hany HTw HYes HNo HXx hp2 hq2 hG HH
   go_wp2_with fail
   refine(HCp.out _ HN2.out).mono ?_
   rintro e w4 ⟨v1,rfl,g4,hO⟩
   obtain⟨a1,k1,hv1⟩:=(Zn.rd hO).form
   subst hv1
   have hq4:=g4.at' HQ1.out.2
   have hp4:=g4.at' HQ1.out.1
   have hal:=Z5 w4 (.cells #[.int .i64 t,.int .i64 r,.slice a1 q.length k1,.int .i64 W] 27)
   have hNa:Nw w4 (w4.alloc (.cells #[.int .i64 t,.int .i64 r,.slice a1 q.length k1,.int .i64 W] 27)):=(Nw.refl w4).alloc _
   have HNy:=hD0 (HN2.out.trans (g4.trans hNa))
   have hOy:=Uf hO hNa
   have hqy:=hNa.at' hq4
   have hpy:=hNa.at' hp4
   have hs4:=g4.sz
   have hs1:w.heap.size+1<wr.heap.size:=hsl2
   obtain⟨pb,hpb⟩:∃pb,w4.heap.size=pb:=⟨_,rfl⟩
   rw[hpb] at hal
   have hne:∀g,(Value.slice a1 q.length k1).ownBlock=some g→g≠pb:=fun g hg e=>by have:=olt hO hg;omega
   have hge:∀g,(Value.slice a1 q.length k1).ownBlock=some g→wr.heap.size≤g:=fun g hg=>oge hO hg
   have hrp:¬(w.heap.size+1=pb):=by omega
   have hrp2:¬(pb=w.heap.size+1):=by omega
   have HA:=hD0 (aI0 hal (aI0 hqy (aI0 hOy (aI0 hne (aI0 hge (aI0 (show w.heap.size≤pb∧w.heap.size≤wr.heap.size∧w.heap.size+1<wr.heap.size∧wr.heap.size≤pb from⟨by omega,by omega,hs1,by omega⟩) hpy))))))
   clear c0 c1 c2 c3 hsl hsl2 hO g4 hq4 hs4 HQ1 hal hqy hOy hne hge hs1
   have c0:=Z2 (j:=0) hp4
   have c1:=Z2 (j:=1) hp4
   have c2:=Z2 (j:=2) hp4
   have c3:=Z2 (j:=3) hp4
   have hsl:=hlt hp4
   clear hp4
   have HPb:=hD0 hpb
   clear hpb
   go_wp2_with fail
   rw[HPb.out]
   clear HPb
   generalize w4.alloc (.cells #[.int .i64 t,.int .i64 r,.slice a1 q.length k1,.int .i64 W] 27)=y at *
   clear hNa hpy c0 c1 c2 c3 hsl
   have hpy:=HA.out.2.2.2.2.2.2
   have c0:=Z2 (j:=0) hpy
   have c1:=Z2 (j:=1) hpy
   have c2:=Z2 (j:=2) hpy
   have c3:=Z2 (j:=3) hpy
   have hsl:=hlt hpy
   clear hpy
   refine(HU.out _ HNy.out).mono ?_
   rintro e w5 ⟨ju,rfl,g5,hju⟩
   rcases hju with⟨rfl,hju⟩ | ⟨mu,rfl,_,hmu,hum,_⟩
   rotate_left
   ·have hR:=HNs.out (fun e=>((HFr.out.1 e).1 _ (gM0 hmu)) hum)
    subst hR
    have du:decide ((mu:Int)<0)=false:=by simp
    have hal:=g5.at' HA.out.1
    have hqz:=g5.at' HA.out.2.1
    have hOz:=Uf HA.out.2.2.1 g5
    have hNz:=HNy.out.trans g5
    have hpl:=hlt hal
    have hw0:=HWB.out.1
    have hw1:=HWB.out.2
    have hwr:IntKind.i64.wrap (W+1)=W+1:=by rw[IntKind.wrap_i64]<;>omega
    have hal2:(w5.setCell ⟨pb,3,none⟩ (.int .i64 (W+1))).heap[pb]?=some (.cells #[.int .i64 t,.int .i64 r,.slice a1 q.length k1,.int .i64 (W+1)] 27 (0,0)):=hset (j:=3) (.int .i64 (W+1)) hal
    have hqz2:(w5.setCell ⟨pb,3,none⟩ (.int .i64 (W+1))).heap[w.heap.size+1]?=_:=(Below.heap_setCell _ _ _ _ (fun e=>hrp e)).trans hqz
    have hOz2:=Vg hOz (Yn w5 ⟨pb,3,none⟩ (.int .i64 (W+1))) (fun x hx e=>HA.out.2.2.2.1 x hx (Option.some.inj e).symm)
    have hNz2:Nw w (w5.setCell ⟨pb,3,none⟩ (.int .i64 (W+1))):=hNz.st HA.out.2.2.2.2.2.1.1 _
    have hsz2:(w5.setCell ⟨pb,3,none⟩ (.int .i64 (W+1))).heap.size=w5.heap.size:=by simp[World.setCell]
    obtain⟨a2,n2,k2,w8,hrun,hR8,hN8,hK8,hb8⟩:=Vi hNz2 HA.out.2.2.2.2.2.1.2.1 hOz2 hl id x 0 m (W+1) (by rw[hsz2];exact hpl) (by rw[hsz2];have:=HA.out.2.2.2.2.2.1.2.2.2;omega) HA.out.2.2.2.1
    rw[hsz2] at hrun
    have hal8:=(hK8 pb (by rw[hsz2];exact hpl) (fun x hx e=>HA.out.2.2.2.1 x hx e.symm)).trans hal2
    have hq8:=(hK8 _ (by rw[hsz2];exact hlt hqz) (fun x hx e=>by have:=HA.out.2.2.2.2.1 x hx;have:=HA.out.2.2.2.2.2.1.2.2.1;omega)).trans hqz2
    have p0:=Z2 (j:=0) hal
    have p1:=Z2 (j:=1) hal
    have p2:=Z2 (j:=2) hal
    have p3:=Z2 (j:=3) hal
    have pz:=fun j=>hfz (j:=j) hal
    have x0:=Z2 (j:=0) hal8
    have x1:=Z2 (j:=1) hal8
    have x2:=Z2 (j:=2) hal8
    have x3:=Z2 (j:=3) hal8
    have xz:=fun j=>hfz (j:=j) hal8
    have d0:=Z2 (j:=0) hq8
    have d1:=Z2 (j:=1) hq8
    have d2:=Z2 (j:=2) hq8
    have d3:=Z2 (j:=3) hq8
    have fz:=fun k=>hfz (j:=k) hq8
    have HR:=hD0 hrun
    have HO8:=hD0 (aI0 hR8 (aI0 hN8 hb8))
    clear hrun hR8 hN8 hK8 hb8 hal8 hq8 hal2 hqz2 hOz2 hNz2 hsz2 hal hqz hOz hNz hw0 hw1 c0 c1 c2 c3 hsl HU HWa HF HNs HYs HFr
    go_wp2_with (at_builtin;refine Zg (by rfl) (.tmp 78) (.tmp 85) 25 rfl _ _ _ _ rfl rfl HR.out ?_)
    refine bodyPost_ret (v:=.tuple #[.agg #[.int .i64 t,.int .i64 r,.slice a2 n2 k2,.int .i64 (W+1)],.bool false,.int .i64 0]) (by simp[results,results5,go_sem, *]) rfl ⟨_,rfl,Yc (HO8.out.2.1.st HA.out.2.2.2.2.2.1.1 _) (Nat.le_succ _) _ _ _ _,?_,?_⟩
    ·have hO5:=Vg HO8.out.1 (Yn w8 ⟨pb,2,none⟩ (.slice a2 n2 k2)) (fun x hx e=>HO8.out.2.2 x hx (Option.some.inj e).symm)
     exact Zn.rd (Ve hO5 HA.out.2.2.2.2.2.1.2.2.1 _ _ _ _)
    ·exact⟨HO8.out.1.cap,Zn.newV HO8.out.1 (by have:=HA.out.2.2.2.2.2.1.2.2.1;omega)⟩
   have hpy:=g5.at' HA.out.2.2.2.2.2.2
   clear c0 c1 c2 c3 hsl
   have c0:=Z2 (j:=0) hpy
   have c1:=Z2 (j:=1) hpy
   have c2:=Z2 (j:=2) hpy
   have c3:=Z2 (j:=3) hpy
   have hsl:=hlt hpy
   clear hpy
   go_wp2_with fail
   refine(HWa.out _ (HNy.out.trans g5)).mono ?_
   rintro e w6 ⟨jw,rfl,g6,hjw⟩
   rcases hjw with⟨rfl,hjw⟩ | ⟨mw,rfl,hmw,hwm,_⟩
   rotate_left
   ·have hR:=HNs.out (fun e=>((HFr.out.1 e).2.1 _ (gM0 hmw)) hwm)
    subst hR
    have dw:decide ((mw:Int)<0)=false:=by simp
    have g56:=g5.trans g6
    have hal:=g56.at' HA.out.1
    have hqz:=g56.at' HA.out.2.1
    have hOz:=Uf HA.out.2.2.1 g56
    have hNz:=HNy.out.trans g56
    have hpl:=hlt hal
    have hw0:=HWB.out.1
    have hw1:=HWB.out.2
    have hwr:IntKind.i64.wrap (W+1)=W+1:=by rw[IntKind.wrap_i64]<;>omega
    have hal2:(w6.setCell ⟨pb,3,none⟩ (.int .i64 (W+1))).heap[pb]?=some (.cells #[.int .i64 t,.int .i64 r,.slice a1 q.length k1,.int .i64 (W+1)] 27 (0,0)):=hset (j:=3) (.int .i64 (W+1)) hal
    have hqz2:(w6.setCell ⟨pb,3,none⟩ (.int .i64 (W+1))).heap[w.heap.size+1]?=_:=(Below.heap_setCell _ _ _ _ (fun e=>hrp e)).trans hqz
    have hOz2:=Vg hOz (Yn w6 ⟨pb,3,none⟩ (.int .i64 (W+1))) (fun x hx e=>HA.out.2.2.2.1 x hx (Option.some.inj e).symm)
    have hNz2:Nw w (w6.setCell ⟨pb,3,none⟩ (.int .i64 (W+1))):=hNz.st HA.out.2.2.2.2.2.1.1 _
    have hsz2:(w6.setCell ⟨pb,3,none⟩ (.int .i64 (W+1))).heap.size=w6.heap.size:=by simp[World.setCell]
    obtain⟨a2,n2,k2,w8,hrun,hR8,hN8,hK8,hb8⟩:=Vi hNz2 HA.out.2.2.2.2.2.1.2.1 hOz2 hl id x 0 m (W+1) (by rw[hsz2];exact hpl) (by rw[hsz2];have:=HA.out.2.2.2.2.2.1.2.2.2;omega) HA.out.2.2.2.1
    rw[hsz2] at hrun
    have hal8:=(hK8 pb (by rw[hsz2];exact hpl) (fun x hx e=>HA.out.2.2.2.1 x hx e.symm)).trans hal2
    have hq8:=(hK8 _ (by rw[hsz2];exact hlt hqz) (fun x hx e=>by have:=HA.out.2.2.2.2.1 x hx;have:=HA.out.2.2.2.2.2.1.2.2.1;omega)).trans hqz2
    have p0:=Z2 (j:=0) hal
    have p1:=Z2 (j:=1) hal
    have p2:=Z2 (j:=2) hal
    have p3:=Z2 (j:=3) hal
    have pz:=fun j=>hfz (j:=j) hal
    have x0:=Z2 (j:=0) hal8
    have x1:=Z2 (j:=1) hal8
    have x2:=Z2 (j:=2) hal8
    have x3:=Z2 (j:=3) hal8
    have xz:=fun j=>hfz (j:=j) hal8
    have d0:=Z2 (j:=0) hq8
    have d1:=Z2 (j:=1) hq8
    have d2:=Z2 (j:=2) hq8
    have d3:=Z2 (j:=3) hq8
    have fz:=fun k=>hfz (j:=k) hq8
    have HR:=hD0 hrun
    have HO8:=hD0 (aI0 hR8 (aI0 hN8 hb8))
    clear hrun hR8 hN8 hK8 hb8 hal8 hq8 hal2 hqz2 hOz2 hNz2 hsz2 hal hqz hOz hNz hw0 hw1 c0 c1 c2 c3 hsl HU HWa HF HNs HYs HFr
    go_wp2_with (at_builtin;refine Zg (by rfl) (.tmp 78) (.tmp 85) 25 rfl _ _ _ _ rfl rfl HR.out ?_)
    refine bodyPost_ret (v:=.tuple #[.agg #[.int .i64 t,.int .i64 r,.slice a2 n2 k2,.int .i64 (W+1)],.bool false,.int .i64 0]) (by simp[results,results5,go_sem, *]) rfl ⟨_,rfl,Yc (HO8.out.2.1.st HA.out.2.2.2.2.2.1.1 _) (Nat.le_succ _) _ _ _ _,?_,?_⟩
    ·have hO5:=Vg HO8.out.1 (Yn w8 ⟨pb,2,none⟩ (.slice a2 n2 k2)) (fun x hx e=>HO8.out.2.2 x hx (Option.some.inj e).symm)
     exact Zn.rd (Ve hO5 HA.out.2.2.2.2.2.1.2.2.1 _ _ _ _)
    ·exact⟨HO8.out.1.cap,Zn.newV HO8.out.1 (by have:=HA.out.2.2.2.2.2.1.2.2.1;omega)⟩
   have g56:=g5.trans g6
   have hpy:=g56.at' HA.out.2.2.2.2.2.2
   clear c0 c1 c2 c3 hsl
   have c0:=Z2 (j:=0) hpy
   have c1:=Z2 (j:=1) hpy
   have c2:=Z2 (j:=2) hpy
   have c3:=Z2 (j:=3) hpy
   have hsl:=hlt hpy
   clear hpy
   go_wp2_with fail
   refine(HF.out _ (HNy.out.trans g56)).mono ?_
   rintro e w7 ⟨f,rfl,g7,hff⟩
   have g57:=g56.trans g7
   have hall:=fun a ha u=>hju a (by rw[List.take_length];exact ha) u
   cases f
   ·have hR:=HNs.out (fun e=>by have:=hff.2 (HFr.out.1 e).2.2;cases this)
    subst hR
    clear hff hall hju hjw
    have hal:=g57.at' HA.out.1
    have hqz:=g57.at' HA.out.2.1
    have hOz:=Uf HA.out.2.2.1 g57
    have hNz:=HNy.out.trans g57
    have hpl:=hlt hal
    have hw0:=HWB.out.1
    have hw1:=HWB.out.2
    have hwr:IntKind.i64.wrap (W+1)=W+1:=by rw[IntKind.wrap_i64]<;>omega
    have hal2:(w7.setCell ⟨pb,3,none⟩ (.int .i64 (W+1))).heap[pb]?=some (.cells #[.int .i64 t,.int .i64 r,.slice a1 q.length k1,.int .i64 (W+1)] 27 (0,0)):=hset (j:=3) (.int .i64 (W+1)) hal
    have hqz2:(w7.setCell ⟨pb,3,none⟩ (.int .i64 (W+1))).heap[w.heap.size+1]?=_:=(Below.heap_setCell _ _ _ _ (fun e=>hrp e)).trans hqz
    have hOz2:=Vg hOz (Yn w7 ⟨pb,3,none⟩ (.int .i64 (W+1))) (fun x hx e=>HA.out.2.2.2.1 x hx (Option.some.inj e).symm)
    have hNz2:Nw w (w7.setCell ⟨pb,3,none⟩ (.int .i64 (W+1))):=hNz.st HA.out.2.2.2.2.2.1.1 _
    have hsz2:(w7.setCell ⟨pb,3,none⟩ (.int .i64 (W+1))).heap.size=w7.heap.size:=by simp[World.setCell]
    obtain⟨a2,n2,k2,w8,hrun,hR8,hN8,hK8,hb8⟩:=Vi hNz2 HA.out.2.2.2.2.2.1.2.1 hOz2 hl id x 0 m (W+1) (by rw[hsz2];exact hpl) (by rw[hsz2];have:=HA.out.2.2.2.2.2.1.2.2.2;omega) HA.out.2.2.2.1
    rw[hsz2] at hrun
    have hal8:=(hK8 pb (by rw[hsz2];exact hpl) (fun x hx e=>HA.out.2.2.2.1 x hx e.symm)).trans hal2
    have hq8:=(hK8 _ (by rw[hsz2];exact hlt hqz) (fun x hx e=>by have:=HA.out.2.2.2.2.1 x hx;have:=HA.out.2.2.2.2.2.1.2.2.1;omega)).trans hqz2
    have p0:=Z2 (j:=0) hal
    have p1:=Z2 (j:=1) hal
    have p2:=Z2 (j:=2) hal
    have p3:=Z2 (j:=3) hal
    have pz:=fun j=>hfz (j:=j) hal
    have x0:=Z2 (j:=0) hal8
    have x1:=Z2 (j:=1) hal8
    have x2:=Z2 (j:=2) hal8
    have x3:=Z2 (j:=3) hal8
    have xz:=fun j=>hfz (j:=j) hal8
    have d0:=Z2 (j:=0) hq8
    have d1:=Z2 (j:=1) hq8
    have d2:=Z2 (j:=2) hq8
    have d3:=Z2 (j:=3) hq8
    have fz:=fun k=>hfz (j:=k) hq8
    have HR:=hD0 hrun
    have HO8:=hD0 (aI0 hR8 (aI0 hN8 hb8))
    clear hrun hR8 hN8 hK8 hb8 hal8 hq8 hal2 hqz2 hOz2 hNz2 hsz2 hal hqz hOz hNz hw0 hw1 c0 c1 c2 c3 hsl HU HWa HF HNs HYs HFr
    go_wp2_with (at_builtin;refine Zg (by rfl) (.tmp 78) (.tmp 85) 25 rfl _ _ _ _ rfl rfl HR.out ?_)
    refine bodyPost_ret (v:=.tuple #[.agg #[.int .i64 t,.int .i64 r,.slice a2 n2 k2,.int .i64 (W+1)],.bool false,.int .i64 0]) (by simp[results,results5,go_sem, *]) rfl ⟨_,rfl,Yc (HO8.out.2.1.st HA.out.2.2.2.2.2.1.1 _) (Nat.le_succ _) _ _ _ _,?_,?_⟩
    ·have hO5:=Vg HO8.out.1 (Yn w8 ⟨pb,2,none⟩ (.slice a2 n2 k2)) (fun x hx e=>HO8.out.2.2 x hx (Option.some.inj e).symm)
     exact Zn.rd (Ve hO5 HA.out.2.2.2.2.2.1.2.2.1 _ _ _ _)
    ·exact⟨HO8.out.1.cap,Zn.newV HO8.out.1 (by have:=HA.out.2.2.2.2.2.1.2.2.1;omega)⟩
   ·have hR:=HYs.out (HFr.out.2 ⟨hall,hjw,hff.1 rfl⟩)
    subst hR
    clear hff hall hju hjw
    have hal:=g57.at' HA.out.1
    have hqz:=g57.at' HA.out.2.1
    have hOz:=Uf HA.out.2.2.1 g57
    have hNz:=HNy.out.trans g57
    have hpl:=hlt hal
    have hw0:=HWB.out.1
    have hw1:=HWB.out.2
    obtain⟨a2,n2,k2,w8,hrun,hR8,hN8,hK8,hb8⟩:=Vi hNz HA.out.2.2.2.2.2.1.2.1 hOz hl id x m m 0 hpl (by have:=HA.out.2.2.2.2.2.1.2.2.2;omega) HA.out.2.2.2.1
    have hal8:=(hK8 pb hpl (fun x hx e=>HA.out.2.2.2.1 x hx e.symm)).trans hal
    have hq8:=(hK8 _ (hlt hqz) (fun x hx e=>by have:=HA.out.2.2.2.2.1 x hx;have:=HA.out.2.2.2.2.2.1.2.2.1;omega)).trans hqz
    have p0:=Z2 (j:=0) hal
    have p1:=Z2 (j:=1) hal
    have p2:=Z2 (j:=2) hal
    have p3:=Z2 (j:=3) hal
    have pz:=fun j=>hfz (j:=j) hal
    have x0:=Z2 (j:=0) hal8
    have x1:=Z2 (j:=1) hal8
    have x2:=Z2 (j:=2) hal8
    have x3:=Z2 (j:=3) hal8
    have xz:=fun j=>hfz (j:=j) hal8
    have d0:=Z2 (j:=0) hq8
    have d1:=Z2 (j:=1) hq8
    have d2:=Z2 (j:=2) hq8
    have d3:=Z2 (j:=3) hq8
    have fz:=fun k=>hfz (j:=k) hq8
    have HR:=hD0 hrun
    have HO8:=hD0 (aI0 hR8 (aI0 hN8 hb8))
    clear hrun hR8 hN8 hK8 hb8 hal8 hq8 hal hqz hOz hNz hw0 hw1 c0 c1 c2 c3 hsl HU HWa HF HNs HYs HFr
    go_wp2_with (at_builtin;refine Zg (by rfl) (.tmp 63) (.tmp 69) 25 rfl _ _ _ _ rfl rfl HR.out ?_)
    refine bodyPost_ret (v:=.tuple #[.agg #[.int .i64 t,.int .i64 r,.slice a2 n2 k2,.int .i64 W],.bool true,.int .i64 0]) (by simp[results,results5,go_sem, *]) rfl ⟨_,rfl,Yc (HO8.out.2.1.st HA.out.2.2.2.2.2.1.1 _) (Nat.le_succ _) _ _ _ _,?_,?_⟩
    ·have hO5:=Vg HO8.out.1 (Yn w8 ⟨pb,2,none⟩ (.slice a2 n2 k2)) (fun x hx e=>HO8.out.2.2 x hx (Option.some.inj e).symm)
     exact Zn.rd (Ve hO5 HA.out.2.2.2.2.2.1.2.2.1 _ _ _ _)
    ·exact⟨HO8.out.1.cap,Zn.newV HO8.out.1 (by have:=HA.out.2.2.2.2.2.1.2.2.1;omega)⟩
theorem Z5x{α:Type}(q:List α)(k:Nat)(hk:k<q.length):q=q.take k++q[k]::q.drop (k+1):=by rw[←List.drop_eq_getElem_cons hk,List.take_append_drop]
theorem Z91{a b:Rq}(h1:a.md≠0)(h2:b.md=0):toI a b<0:=by
 have:hoI a b = -1:=by unfold hoI;simp[h1,h2]
 unfold toI;rw[this,if_pos (by decide)];decide
theorem Z90{a b:Rq}(h1:a.md=0)(h2:b.md≠0):¬toI a b<0:=by
 have:hoI a b=1:=by unfold hoI;simp[h1,h2]
 unfold toI;rw[this,if_pos (by decide)];decide
theorem Z7k{a b:Rq}(h:a.md=0↔b.md=0):toI a b=cmI a.sn b.sn:=by
 have e:(a.md != 0)=(b.md != 0):=by
  by_cases z:a.md=0
  ·rw[z,h.1 z]
  ·have y:b.md≠0:=fun e=>z (h.2 e)
   rw[bne_iff_ne.2 z,bne_iff_ne.2 y]
 have:hoI a b=0:=by unfold hoI;rw[if_pos e]
 unfold toI;rw[this];simp
theorem Z7g{a b:Int}:cmI a b<0↔a<b:=by
 unfold cmI
 by_cases h1:a<b
 ·rw[if_pos h1];exact⟨fun _=>h1,fun _=>by decide⟩
 ·rw[if_neg h1]
  by_cases h2:b<a
  ·rw[if_pos h2];exact⟨fun e=>by omega,fun e=>absurd e h1⟩
  ·rw[if_neg h2];exact⟨fun e=>by omega,fun e=>absurd e h1⟩
theorem Z3r{a b:Rq}:toI a b<0↔(a.md≠0∧b.md=0)∨((a.md=0↔b.md=0)∧a.sn<b.sn):=by
 by_cases z:a.md=0
 ·by_cases y:b.md=0
  ·rw[Z7k (by simp[z,y]),Z7g];simp[z,y]
  ·have:=Z90 z y
   simp[this,z,y]
 ·by_cases y:b.md=0
  ·have:=Z91 z y
   simp[this,z,y]
  ·rw[Z7k (by simp[z,y]),Z7g];simp[z,y]
def Z4c(q:List Rq)(x:Int):Rq:=q.getD x.toNat ⟨0,0,0,0,0⟩
def tC(q:List Rq)(x y:Int):Int:=toI (Z4c q x) (Z4c q y)
abbrev Z9n(p:Rq→Bool)(l:List Rq):List Rq:=l.filter fun s=>!p s
structure Del(p:Rq→Bool)(w wr:World)(g0 g n cap a b:Nat)(l R:List Rq):Prop where
 ab:a<b
 bn:b≤l.length
 len:R.length=l.length
 front:R.take a=Z9n p (l.take b)
 rest:R.drop b=l.drop b
 row:Zn wr g0 (.slice (some ⟨g,0,none⟩) n cap) R
 tch:Zc (fun k=>k=g) w wr
section
variable {p:Rq→Bool} {w wr wr':World} {g0 g n cap a b:Nat} {l R:List Rq}
end
theorem Z7s(q:List Rq)(id:Int):Z9b q id (plc (fun R=>R.id==id) q):=by
 rcases Vh (fun R=>R.id==id) q with⟨h1,h2⟩ | ⟨k,h1,hk,h3,h4⟩
 ·refine .inl ⟨h1,?_⟩
  unfold fnd
  rw[List.find?_eq_none]
  intro x hx;rw[h2 x hx];simp
 ·refine .inr ⟨k,h1,hk,?_⟩
  unfold fnd
  have e:=Z5x q k hk
  conv=>lhs;rw[e]
  rw[List.find?_append,List.find?_cons,h3]
  have:(q.take k).find? (fun r=>r.id==id)=none:=by
   rw[List.find?_eq_none]
   intro x hx
   obtain⟨i,hi,rfl⟩:=List.getElem_of_mem hx
   simp at hi
   have:=h4 i (by omega) (by omega)
   simpa using this
  rw[this];rfl
theorem Z7x(t r W id:Int)(v:Value)(q:List Rq)(w:World)(hl:q.length≤1000)(h:Y7 w v q) :
  Calls prog 41 #[Ua t r v W,.int .i64 id] w fun e w'=>e=.returned (Z2p q id)∧Nw w w':=by
 obtain⟨V,hV⟩:∃V,Z2p q id=V:=⟨_,rfl⟩
 rw[hV]
 obtain⟨px,hpx⟩:∃px,plc (fun R=>R.id==id) q=px:=⟨_,rfl⟩
 have hFi:=fun(w1:World) (g:Nw w w1) (f:Value) (hf:Yr w1 f (fun R=>R.id==id))=>Z8y t r W v f _ q w1 hl (h.nw g) hf
 rw[hpx] at hFi
 have HAt:=hD0 h
 obtain⟨a,c,rfl,_⟩:=h
 unfold Ua at hFi ⊢
 have HFi:=hD0 hFi
 clear hFi
 have HWi:=hD0 (Z6m id)
 obtain⟨hx1,hx2,hx3,hx4⟩:=V3 w (.cells #[.int .i64 t,.int .i64 r,.slice a q.length c,.int .i64 W] 27) (.cells #[.int .i64 0,.int .i64 0,.int .i64 0,.int .i64 0,.int .i64 0] 49)
 obtain⟨w1,hw1⟩:∃w1,(w.alloc (.cells #[.int .i64 t,.int .i64 r,.slice a q.length c,.int .i64 W] 27)).alloc (.cells #[.int .i64 0,.int .i64 0,.int .i64 0,.int .i64 0,.int .i64 0] 49)=w1:=⟨_,rfl⟩
 rw[hw1] at hx1 hx2 hx3
 have HB1:=hD0 (aI0 (aI0 hx1 hx2) hx3)
 have s0:∀z,Nw w1 z→z.cell? ⟨w.heap.size,0,none⟩=some (.int .i64 t):=fun z hz=>hz.kp (Z2 (j:=0) hx1)
 have s1:∀z,Nw w1 z→z.cell? ⟨w.heap.size,1,none⟩=some (.int .i64 r):=fun z hz=>hz.kp (Z2 (j:=1) hx1)
 have s2:∀z,Nw w1 z→z.cell? ⟨w.heap.size,2,none⟩=some (.slice a q.length c):=fun z hz=>hz.kp (Z2 (j:=2) hx1)
 have s3:∀z,Nw w1 z→z.cell? ⟨w.heap.size,3,none⟩=some (.int .i64 W):=fun z hz=>hz.kp (Z2 (j:=3) hx1)
 clear hx1 hx2 hx3 hx4
 have HW1:=hD0 hw1
 clear hw1
 have q1:=(Nw.refl w1).drewQ
 obtain⟨wc,hwc⟩:∃wc,w1.drew=wc:=⟨_,rfl⟩
 go_enter func41,ntmps41
 go_wp2
 rw[HW1.out]
 refine U4 [some true,some true,some false,none,some false,none,some true] (Nw w1) (by kernel_rfl) (by kernel_rfl) (by kernel_rfl) q1 ?_
 rw[hwc] at q1 ⊢
 clear hwc
 repeat (first
  | (refine HW.off ?_)
  | (refine HW.take' ?_;(first | (refine⟨undef,Or.inr ⟨by rfl,rfl⟩,?_⟩) | (apply Exists.intro;refine⟨Or.inl ⟨by rfl,?_⟩,?_⟩;(intro x hx;go_simp;first | done | with_reducible rfl)));(try simp only[Act.put,List.setIfInBounds_toArray,List.set_cons_zero,List.set_cons_succ]))
  | (refine HW.go (fun K hK=>?_);go_simp;(first
   | (go_at_call 58;(with_reducible refine(HWi.out _).mono ?_);rintro e wy ⟨pa,rfl,g2,hbx⟩;refine hK.out _ _ (q1.trans g2) ?_;intro _;replace q1:=q1.trans g2;clear hK K g2;replace hbx:=Yr.withID hbx)
   | (go_at_call 57;(with_reducible refine(HFi.out _ (HB1.out.2.trans q1) _ hbx).mono ?_);rintro e wy ⟨rfl,g2⟩;refine hK.out _ _ (q1.trans g2) ?_;intro _;replace q1:=q1.trans g2;clear hK K g2 hbx)
   | (refine hK.out _ _ q1 ?_;intro _;clear hK K))))
 refine HW.end_ ?_
 refine NoPanic.normal ?_
 have HN:=hD0 (HB1.out.2.trans q1)
 have hp1:=q1.at' HB1.out.1.1
 have hq1:=q1.at' HB1.out.1.2
 have c0:=Z2 (j:=0) hp1
 have c1:=Z2 (j:=1) hp1
 have c2:=Z2 (j:=2) hp1
 have c3:=Z2 (j:=3) hp1
 have hpl:=hlt hp1
 have d0:=Z2 (j:=0) hq1
 have d1:=Z2 (j:=1) hq1
 have d2:=Z2 (j:=2) hq1
 have d3:=Z2 (j:=3) hq1
 have d4:=Z2 (j:=4) hq1
 have fz:=fun k=>hfz (j:=k) hq1
 have hsl2:=hlt hq1
 rcases Z7s q id with⟨e1,hf⟩ | ⟨k,e1,hk,hf⟩
 ·obtain rfl:=hpx.symm.trans e1
  have HF:=hD0 (hV.symm.trans (show Z2p q id=.tuple #[Ug ⟨0,0,0,0,0⟩,.bool false] by unfold Z2p;rw[hf]))
  clear hpx hV e1 hf s0 s1 s2 s3 HB1 HFi HWi HAt HW1 q1 hp1 hq1
  go_wp2
  refine bodyPost_ret (v:=.tuple #[.agg #[.int .i64 0,.int .i64 0,.int .i64 0,.int .i64 0,.int .i64 0],.bool false]) (by simp only[results,results41];simp[go_sem, *]) rfl ⟨by rw[HF.out];rfl,?_⟩
  exact((((HN.out.st (Nat.le_succ _) _).st (Nat.le_succ _) _).st (Nat.le_succ _) _).st (Nat.le_succ _) _).st (Nat.le_succ _) _
 ·obtain rfl:=hpx.symm.trans e1
  rcases(HAt.out.nw HN.out) with⟨a',c',e3,⟨e4,_⟩ | ⟨b,o,e4,hc⟩⟩
  ·subst e4;simp at hk
  simp only[Value.slice.injEq,true_and] at e3
  obtain⟨rfl,rfl⟩:=e3
  subst e4
  have hce:=hc.cell k hk
  have dk:((k:Int)==-1)=false:=by simp
  have hki:(k:Int)<(q.length:Int):=by omega
  have HF:=hD0 (hV.symm.trans (show Z2p q id=.tuple #[Ug q[k],.bool true] by unfold Z2p;rw[hf]))
  clear hpx hV e1 hf s0 s1 s2 s3 HB1 HFi HWi HAt HW1 q1 hp1 hq1 hc
  generalize q[k]=R at *
  obtain⟨b0,b1,b2,b3,b4⟩:=R
  have m0:=hce 0 _ rfl
  have m1:=hce 1 _ rfl
  have m2:=hce 2 _ rfl
  have m3:=hce 3 _ rfl
  have m4:=hce 4 _ rfl
  simp only[Nat.add_zero] at m0
  clear hce
  go_wp2
  refine bodyPost_ret (v:=.tuple #[.agg #[.int .i64 b0,.int .i64 b1,.int .i64 b2,.int .i64 b3,.int .i64 b4],.bool true]) (by simp only[results,results41];simp[go_sem, *]) rfl ⟨by rw[HF.out];rfl,?_⟩
  exact((((HN.out.st (Nat.le_succ _) _).st (Nat.le_succ _) _).st (Nat.le_succ _) _).st (Nat.le_succ _) _).st (Nat.le_succ _) _
end Go.Proofs.Ytpmlaphjlghpmaa
namespace Go.Proofs
open _root_.Go.Proofs.Try
open Go.Shelf
def Try.lays189_ren:Go.Shelf.Ren:=⟨fun | 189=>45 | 125=>54 | 257=>62 | 128=>76 | 129=>77 | 294=>81 | 295=>82 | 296=>83 | 297=>84 | 298=>85 | 299=>86 | 216=>87 | 300=>88 | 301=>89 | 328=>99 | 329=>94 | 330=>95 | 331=>100 | 332=>101 | 215=>55 | 343=>103 | n=>n,fun | 28=>36 | 3=>3 | 46=>87 | 0=>0 | 51=>106 | 53=>108 | 4=>4 | 183=>100 | 182=>99 | 131=>55 | 5=>5 | 9=>9 | 218=>120 | 222=>124 | 228=>128 | 229=>129 | n=>n,fun | n=>n⟩
theorem Try.lays189:Go.Proofs.Lays.n189 prog Try.lays189_ren:={
 mixed:=by kernel_rfl
 f125:=func54.trans (congrArg some (by kernel_rfl))
 f128:=func76.trans (congrArg some (by kernel_rfl))
 f129:=func77.trans (congrArg some (by kernel_rfl))
 f189:=func45.trans (congrArg some (by kernel_rfl))
 f215:=func55.trans (congrArg some (by kernel_rfl))
 f216:=func87.trans (congrArg some (by kernel_rfl))
 f257:=func62.trans (congrArg some (by kernel_rfl))
 f294:=func81.trans (congrArg some (by kernel_rfl))
 f295:=func82.trans (congrArg some (by kernel_rfl))
 f296:=func83.trans (congrArg some (by kernel_rfl))
 f297:=func84.trans (congrArg some (by kernel_rfl))
 f298:=func85.trans (congrArg some (by kernel_rfl))
 f299:=func86.trans (congrArg some (by kernel_rfl))
 f300:=func88.trans (congrArg some (by kernel_rfl))
 f301:=func89.trans (congrArg some (by kernel_rfl))
 f328:=func99.trans (congrArg some (by kernel_rfl))
 f329:=func94.trans (congrArg some (by kernel_rfl))
 f330:=func95.trans (congrArg some (by kernel_rfl))
 f331:=func100.trans (congrArg some (by kernel_rfl))
 f332:=func101.trans (congrArg some (by kernel_rfl))
 f343:=func103.trans (congrArg some (by kernel_rfl))
 t0:=underlying0
 a0:=Try.isAgg0
 z0:=Try.sizeOf0
 v0:=Try.zeroValue0
 t3:=underlying3
 a3:=Try.isAgg3
 z3:=Try.sizeOf3
 v3:=Try.zeroValue3
 t4:=underlying4
 a4:=Try.isAgg4
 z4:=Try.sizeOf4
 v4:=Try.zeroValue4
 t5:=underlying5
 a5:=Try.isAgg5
 z5:=Try.sizeOf5
 v5:=Try.zeroValue5
 t9:=underlying9
 a9:=Try.isAgg9
 z9:=Try.sizeOf9
 v9:=Try.zeroValue9
 t28:=underlying36
 a28:=Try.isAgg36
 z28:=Try.sizeOf36
 v28:=Try.zeroValue36
 t46:=underlying87
 a46:=Try.isAgg87
 z46:=Try.sizeOf87
 v46:=Try.zeroValue87
 t51:=underlying106
 a51:=Try.isAgg106
 z51:=Try.sizeOf106
 v51:=Try.zeroValue106
 t53:=underlying108
 a53:=Try.isAgg108
 z53:=Try.sizeOf108
 v53:=Try.zeroValue108
 t131:=underlying55
 a131:=Try.isAgg55
 z131:=Try.sizeOf55
 v131:=Try.zeroValue55
 t182:=underlying99
 a182:=Try.isAgg99
 z182:=Try.sizeOf99
 v182:=Try.zeroValue99
 t183:=underlying100
 a183:=Try.isAgg100
 z183:=Try.sizeOf100
 v183:=Try.zeroValue100
 t218:=underlying120
 a218:=Try.isAgg120
 z218:=Try.sizeOf120
 v218:=Try.zeroValue120
 t222:=underlying124
 a222:=Try.isAgg124
 z222:=Try.sizeOf124
 v222:=Try.zeroValue124
 t228:=underlying128
 a228:=Try.isAgg128
 z228:=Try.sizeOf128
 v228:=Try.zeroValue128
 t229:=underlying129
 a229:=Try.isAgg129
 z229:=Try.sizeOf129
 v229:=Try.zeroValue129 }
open Go.Sort Go.RowKit in
theorem Try.slices_Sort_int(blk off cap:Nat)(zs:List Int)(w:World)(hH:Holds (Value.int .i64) w blk off zs.toArray)(hblk:blk<w.heap.size)(hsz:zs.length<4611686018427387904) :
  Calls prog 45 #[.slice (some ⟨blk,off,none⟩) zs.length cap] w fun e w' =>
   e=.returned (.tuple #[])∧∃n os,w'=grow (putRow (Value.int .i64) (Sort.ahead w n) blk off (zs.mergeSort fun x y=>decide (x≤y)).toArray) os:=Any.slices_Sort_int Try.lays189 blk off cap zs w hH hblk hsz
def Try.lays114_ren:Go.Shelf.Ren:=⟨fun | 114=>92 | n=>n,fun | 28=>36 | 3=>3 | 4=>4 | 9=>9 | 20=>20 | 0=>0 | n=>n,fun | n=>n⟩
theorem Try.lays114:Go.Proofs.Lays.n114 prog Try.lays114_ren:={
 mixed:=by kernel_rfl
 f114:=func92.trans (congrArg some (by kernel_rfl))
 t0:=underlying0
 a0:=Try.isAgg0
 z0:=Try.sizeOf0
 v0:=Try.zeroValue0
 t3:=underlying3
 a3:=Try.isAgg3
 z3:=Try.sizeOf3
 v3:=Try.zeroValue3
 t4:=underlying4
 a4:=Try.isAgg4
 z4:=Try.sizeOf4
 v4:=Try.zeroValue4
 t9:=underlying9
 a9:=Try.isAgg9
 z9:=Try.sizeOf9
 v9:=Try.zeroValue9
 t20:=underlying20
 a20:=Try.isAgg20
 z20:=Try.sizeOf20
 v20:=Try.zeroValue20
 t28:=underlying36
 a28:=Try.isAgg36
 z28:=Try.sizeOf36
 v28:=Try.zeroValue36 }
open Go.Lib in
theorem Try.slices_Min_int(b off n c:Nat)(zs:List Int)(w:World)(hn:0<n)(hz:n≤zs.length)(hbig:n≤9223372036854775807)(hc:∀j,j<zs.length→w.cell? ⟨b,off+j,none⟩=some (.int .i64 (zs.getD j 0))) :
  Calls prog 92 #[.slice (some ⟨b,off,none⟩) n c] w fun e w'=>e=.returned (.int .i64 (Lib.minOf (zs.take n)))∧w'=w:=Any.slices_Min_int Try.lays114 b off n c zs w hn hz hbig hc
def Try.lays112_ren:Go.Shelf.Ren:=⟨fun | 112=>49 | n=>n,fun | 28=>36 | 3=>3 | 4=>4 | 0=>0 | n=>n,fun | n=>n⟩
theorem Try.lays112:Go.Proofs.Lays.n112 prog Try.lays112_ren:={
 mixed:=by kernel_rfl
 f112:=func49.trans (congrArg some (by kernel_rfl))
 t0:=underlying0
 a0:=Try.isAgg0
 z0:=Try.sizeOf0
 v0:=Try.zeroValue0
 t3:=underlying3
 a3:=Try.isAgg3
 z3:=Try.sizeOf3
 v3:=Try.zeroValue3
 t4:=underlying4
 a4:=Try.isAgg4
 z4:=Try.sizeOf4
 v4:=Try.zeroValue4
 t28:=underlying36
 a28:=Try.isAgg36
 z28:=Try.sizeOf36
 v28:=Try.zeroValue36 }
open Go.RowKit Go.Lib Go.Sort in
theorem Try.slices_Reverse_int(blk off cap:Nat)(zs:List Int)(w:World)(hH:Holds (Value.int .i64) w blk off zs.toArray)(hsz:zs.length≤9223372036854775807) :
  Calls prog 49 #[.slice (some ⟨blk,off,none⟩) zs.length cap] w fun e w'=>e=.returned (.tuple #[])∧∃n,w'=putRow (Value.int .i64) (Sort.ahead w n) blk off zs.reverse.toArray:=Any.slices_Reverse_int Try.lays112 blk off cap zs w hH hsz
open Go.RowKit Go.Lib Go.Sort in
theorem Try.slices_Reverse_int_empty(a:Option Addr)(cap:Nat)(w:World) :
  Calls prog 49 #[.slice a 0 cap] w fun e w'=>e=.returned (.tuple #[])∧w'=w:=Any.slices_Reverse_int_empty Try.lays112 a cap w
def Try.laysNm220_ren:Go.Shelf.Ren:=⟨fun | 20=>46 | n=>n,fun | 22=>36 | 3=>3 | 4=>4 | 0=>0 | n=>n,fun | n=>n⟩
theorem Try.laysNm220:Go.Proofs.Lays2.n20 prog Try.laysNm220_ren:={
 mixed:=by kernel_rfl
 f20:=func46.trans (congrArg some (by kernel_rfl))
 t0:=underlying0
 a0:=Try.isAgg0
 z0:=Try.sizeOf0
 v0:=Try.zeroValue0
 t3:=underlying3
 a3:=Try.isAgg3
 z3:=Try.sizeOf3
 v3:=Try.zeroValue3
 t4:=underlying4
 a4:=Try.isAgg4
 z4:=Try.sizeOf4
 v4:=Try.zeroValue4
 t22:=underlying36
 a22:=Try.isAgg36
 z22:=Try.sizeOf36
 v22:=Try.zeroValue36
 i3:=by kernel_rfl }
open Go.RowKit Go.Lib Go.Sort in
theorem Try.slices_Compact_int(blk off cap:Nat)(zs:List Int)(w:World)(hH:Holds (Value.int .i64) w blk off zs.toArray)(hsz:zs.length≤9223372036854775807)(hcap:zs.length≤cap) :
  Calls prog 46 #[.slice (some ⟨blk,off,none⟩) zs.length cap] w fun e w'=>e=.returned (.slice (some ⟨blk,off,none⟩) (Lib.compact zs).length cap)∧∃q,w'=putRow (Value.int .i64) (Sort.ahead w q) blk off (Lib.compact zs++List.replicate (zs.length-(Lib.compact zs).length) 0).toArray:=Any.slices_Compact_int Try.laysNm220 blk off cap zs w hH hsz hcap
open Go.RowKit Go.Lib Go.Sort in
theorem Try.slices_Compact_int_empty(a:Option Addr)(cap:Nat)(w:World) :
  Calls prog 46 #[.slice a 0 cap] w fun e w'=>e=.returned (.slice a 0 cap)∧w'=w:=Any.slices_Compact_int_empty Try.laysNm220 a cap w
open Go.RowKit Go.Sort in
theorem Try.slices_Sort_int_none(p:Option Addr)(cap:Nat)(w:World) :
  Calls prog 45 #[.slice p 0 cap] w fun e w'=>e=.returned (.tuple #[])∧w'=w:=Any.slices_Sort_int_none Try.lays189 p cap w
end Go.Proofs
namespace Go.Proofs.Ytpmlaphjlghpmaa
open Go.RowKit _root_.Go.Proofs.Try
section
open Go.RowKit Go.Sort
theorem Z01:∀ {a b:List Int},a.Pairwise (·<·)→b.Pairwise (·<·)→(∀x,x∈a↔x∈b)→a=b
 | [],b,_,_,h=>by
  cases b with
  | nil=>rfl
  | cons y b=>exact absurd ((h y).2 (by simp)) (by simp)
 | x::a,[],_,_,h=>absurd ((h x).1 (by simp)) (by simp)
 | x::a,y::b,ha,hb,h=>by
  rw[List.pairwise_cons] at ha hb
  have e:x=y:=by
   rcases List.mem_cons.1 ((h x).1 (by simp))with e | e
   ·exact e
   ·rcases List.mem_cons.1 ((h y).2 (by simp))with e2 | e2
    ·exact e2.symm
    ·have:=hb.1 x e;have:=ha.1 y e2;omega
  subst e
  congr 1
  refine Z01 ha.2 hb.2 (fun z=>?_)
  have hz:=h z
  rw[List.mem_cons,List.mem_cons] at hz
  constructor
  ·intro m
   rcases hz.1 (.inr m)with e | e
   ·have:=ha.1 z m;omega
   ·exact e
  ·intro m
   rcases hz.2 (.inr m)with e | e
   ·have:=hb.1 z m;omega
   ·exact e
theorem Z1j(l:List Int)(hs:l.Pairwise (·≤·)):∀m,m≤l.length→(Lib.compactUpTo l.toArray m).Pairwise (·<·)∧∀x,x∈Lib.compactUpTo l.toArray m↔∃j,j<m∧l.toArray[j]! = x
 | 0,_=>by
  have:Lib.compactUpTo l.toArray 0=[]:=rfl
  rw[this]
  exact⟨List.Pairwise.nil,fun x=>by simp⟩
 | m+1,hm=>by
  obtain⟨h1,h2⟩:=Z1j l hs m (by omega)
  have hle:∀i j,i<j→j<l.length→l.toArray[i]!≤l.toArray[j]!:=fun i j hij hj=>by
   have:=List.pairwise_iff_getElem.1 hs i j (by omega) hj hij
   simpa [hj,show i<l.length by omega] using this
  rw[Lib.compactUpTo_succ]
  by_cases k:Lib.keeps l.toArray m=true
  ·rw[if_pos k]
   refine⟨List.pairwise_append.2 ⟨h1,by simp,fun x hx y hy=>?_⟩,fun x=>?_⟩
   ·obtain rfl:=List.mem_singleton.1 hy
    obtain⟨j,hj,rfl⟩:=(h2 x).1 hx
    have hk:l.toArray[m]!≠l.toArray[m-1]!:=by
     unfold Lib.keeps at k
     simp at k
     rcases k with k | k
     ·omega
     ·simpa using k
    have a1:l.toArray[j]!≤l.toArray[m-1]!:=by
     by_cases e:j=m-1
     ·rw[e];exact Int.le_refl _
     ·exact hle j (m-1) (by omega) (by omega)
    have a2:=hle (m-1) m (by omega) (by omega)
    omega
   ·rw[List.mem_append,List.mem_singleton,h2 x]
    constructor
    ·rintro(⟨j,hj,e⟩ | e)
     ·exact⟨j,by omega,e⟩
     ·exact⟨m,by omega,e.symm⟩
    ·rintro⟨j,hj,e⟩
     by_cases q:j=m
     ·subst q;exact .inr e.symm
     ·exact .inl ⟨j,by omega,e⟩
  ·rw[if_neg k,List.append_nil]
   refine⟨h1,fun x=>?_⟩
   rw[h2 x]
   have hk:0<m∧l.toArray[m]! = l.toArray[m-1]!:=by
    unfold Lib.keeps at k
    simp at k
    refine⟨by omega,?_⟩
    have:=k.2
    simpa using this
   constructor
   ·rintro⟨j,hj,e⟩;exact⟨j,by omega,e⟩
   ·rintro⟨j,hj,e⟩
    by_cases q:j=m
    ·subst q;exact⟨j-1,by omega,by rw[←hk.2];exact e⟩
    ·exact⟨j,by omega,e⟩
theorem Z4n(l:List Int)(j:Nat)(h:j<l.length):l.toArray[j]! = l[j]:=by simp[h]
theorem Z2l(l:List Int):(Lib.compact (l.mergeSort fun x y=>decide (x≤y))).Pairwise (·<·)∧∀x,x∈Lib.compact (l.mergeSort fun x y=>decide (x≤y))↔x∈l:=by
 have hs:(l.mergeSort fun x y=>decide (x≤y)).Pairwise (·≤·):=by
  have:=List.pairwise_mergeSort (le:=fun(x y:Int)=>decide (x≤y)) (fun a b c h1 h2=>by simp at *;omega) (fun a b=>by simp;omega) l
  exact this.imp (fun h=>by simpa using h)
 obtain⟨h1,h2⟩:=Z1j _ hs _ (Nat.le_refl _)
 refine⟨h1,fun x=>?_⟩
 have h3:=h2 x
 unfold Lib.compact
 rw[h3,←(List.mergeSort_perm l _).mem_iff (a:=x),List.mem_iff_getElem]
 constructor
 ·rintro⟨j,hj,e⟩
  exact⟨j,hj,(Z4n _ j hj).symm.trans e⟩
 ·rintro⟨j,hj,e⟩
  exact⟨j,hj,(Z4n _ j hj).trans e⟩
theorem Z7z(v:Value)(l:List Int)(w:World)(h:IS w v l)(hl:l.length≤1000) :
  Calls prog 45 #[v] w fun e w'=>e=.returned (.tuple #[])∧IS w' v (l.mergeSort fun x y=>decide (x≤y))∧Zc (fun i=>v.ownBlock=some i) w w':=by
 rcases h.2 with⟨rfl,e⟩ | ⟨g,cap,cur,rfl,_,hb,h1,h2,h3,ht⟩
 ·obtain rfl:=List.length_eq_zero_iff.1 e
  refine(Try.slices_Sort_int_none none 0 w).mono ?_
  rintro e w' ⟨rfl,h⟩
  exact⟨rfl,by simpa using IS.nil w',by first | (subst h;exact Zc.refl _ _) | (obtain⟨n,rfl⟩:=h;exact(Zc.refl _ _).drewN _)⟩
 ·rw[Nat.mul_one] at ht
  have hH:=holds_of_blockI hb ht
  have hlen:(l.mergeSort fun x y=>decide (x≤y)).length=l.length:=List.length_mergeSort _
  refine(Try.slices_Sort_int g 0 cap l w hH (hlt hb) (by omega)).mono ?_
  rintro e w' ⟨rfl,n,os,rfl⟩
  refine⟨rfl,?_,(Zc.refl _ w).grown (grownBy_sortedI _) (fun k hk=>.inl hk)⟩
  unfold IS
  rw[hlen]
  exact ownsRow_sortedI hlen (Nat.zero_le _) hb h1 h2 h3
theorem Z3u(v:Value)(l:List Int)(w:World)(h:IS w v l)(hl:l.length≤1000) :
  Calls prog 46 #[v] w fun e w'=>∃v',e=.returned v'∧IS w' v' (Lib.compact l)∧v'.ownBlock=v.ownBlock∧Zc (fun i=>v.ownBlock=some i) w w':=by
 rcases h.2 with⟨rfl,e⟩ | ⟨g,cap,cur,rfl,_,hb,h1,h2,h3,ht⟩
 ·obtain rfl:=List.length_eq_zero_iff.1 e
  refine(Try.slices_Compact_int_empty none 0 w).mono ?_
  rintro e w' ⟨rfl,rfl⟩
  exact⟨_,rfl,IS.nil _,rfl,Zc.refl _ _⟩
 ·rw[Nat.mul_one] at ht
  have hH:=holds_of_blockI hb ht
  have hle:=Lib.compact_length_le l
  refine(Try.slices_Compact_int g 0 cap l w hH (by omega) h1).mono ?_
  rintro e w' ⟨rfl,n,rfl⟩
  have hg:=grownBy_sortedI (w:=w) (g:=g) (n:=n) (os:=#[]) (Lib.compact l++List.replicate (l.length-(Lib.compact l).length) 0).toArray
  have hh:=heap_sortedI (n:=n) (os:=#[]) (Lib.compact l++List.replicate (l.length-(Lib.compact l).length) 0).toArray hb
  rw[grow_empty] at hg hh
  refine⟨_,rfl,⟨by simp,.inr ⟨g,cap,_,rfl,Nat.zero_le _,hh,by omega,h2,by simp[putCells,h3],?_⟩⟩,rfl,(Zc.refl _ w).grown hg (fun k hk=>.inl hk)⟩
  have hlen:(Lib.compact l++List.replicate (l.length-(Lib.compact l).length) 0).length=l.length:=by simp;omega
  have hta:=take_putCellsI cur (Lib.compact l++List.replicate (l.length-(Lib.compact l).length) 0) (by rw[hlen];omega)
  have hta2:=congrArg (List.take (Lib.compact l).length) hta
  rw[List.take_take,hlen,Nat.min_eq_left hle,List.map_append,List.take_append_of_le_length (by simp)] at hta2
  rw[Nat.mul_one,hta2]
  exact List.take_of_length_le (by simp)
end
structure Z9t(q q':List Rq)(T:List Int)(i:Nat):Prop where
 same:∀x∈T.drop i,Z4c q' x=Z4c q x
 rest:∀k:Nat,k<q.length→(k:Int)∉T.drop i→¬0<(Z4c q' k).sn
structure TOk(q:List Rq)(T:List Int):Prop where
 sorted:T.Pairwise (fun x y=>tC q x y<0)
 mem:∀x,x∈T↔∃k:Nat,k<q.length∧x=k∧0<(Z4c q x).sn
 nodup:T.Nodup
end Go.Proofs.Ytpmlaphjlghpmaa
