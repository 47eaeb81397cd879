/- Texts merged: WdN -/
import Derived.Test.YtobnolgphljoeaaWaitsHeadsB11
set_option linter.unusedVariables false
set_option maxRecDepth 100000
set_option maxHeartbeats 16000000
namespace Go.Proofs.Ytobnolgphljoeaa
open Go.RowKit _root_.Go.Proofs.Try
theorem Z2l{W:Int}{q:List Rq}(h:Ok W q):∀R∈(Ya q).2,∃R'∈q,R'.txn=R.txn:=by
 rw[((Yv h).1.form h).1]
 intro R hR
 obtain⟨R',h1,h2⟩:=List.mem_map.1 hR
 refine⟨R',h1,?_⟩
 rw[←h2]
 split<;>rfl
structure HdK(xW:Int)(q:List Rq)(E:List (Int × Int)):Prop where
 ok:Ok xW q
 dn:Vp q
 len:q.length≤12
 fit:∀e∈E,Zb e.1∧Zb e.2
 mem:∀e,e∈E↔e∈Uc q q.length
 small:E.length≤144
theorem Z8v{xW:Int}{q:List Rq}(h:Ok xW q)(hl:q.length≤12)(hf:∀R∈q,Z4x R):HdK xW (Ya q).2 (sortE (Uc (Ya q).2 (Ya q).2.length)):=by
 have hk:=Z80 h
 have hln:(Ya q).2.length≤12:=by rw[Z6c h];exact hl
 refine⟨hk,(Yv h).2,hln,fun e he=>?_,fun e=>Y4,Nat.le_trans (Vu _) (Z15 hln _)⟩
 obtain⟨R,hR,_,e1,o,ho,_,_,e2⟩:=(V2 hk e).1 (Y4.1 he)
 obtain⟨R1,hR1,t1⟩:=Z2l h R hR
 obtain⟨R2,hR2,t2⟩:=Z2l h o ho
 refine⟨?_,?_⟩
 ·rw[e1,←t1];exact(hf R1 hR1).2.1
 ·rw[←e2,←t2];exact(hf R2 hR2).2.1
theorem HdK.upg{xW:Int}{q:List Rq}{E:List (Int × Int)}(h:HdK xW q E){b:Bool}(hb:b=false↔∃x,Yj E x x)(e:b=false):decide (1<U7 q q.length)=true:=by
 rw[decide_eq_true_iff]
 refine Nat.lt_of_not_le fun k=>?_
 obtain⟨x,r⟩:=hb.1 e
 unfold U7 at k
 rw[List.take_of_length_le (Nat.le_refl _)] at k
 exact Z1u h.ok k ⟨x,(Ye h.mem).1 r⟩
theorem HdK.self{xW:Int}{q:List Rq}{E:List (Int × Int)}(h:HdK xW q E){j:Nat}(hj:j<E.length):(E[j].1==E[j].2)=false:=by
 rw[beq_eq_false_iff_ne]
 exact Z5i h.ok _ ((h.mem _).1 (gM0 hj))
def Vq(E:List (Int × Int))(t:Int)(k:Nat):Bool:=(E.take k).any fun e=>e.1==t
theorem Z0l{E:List (Int × Int)}{t:Int}{k:Nat}(h:k<E.length):Vq E t (k+1)=(Vq E t k || (E[k].1==t)):=by
 unfold Vq
 rw[List.take_succ_eq_append_getElem h,List.any_append]
 simp
theorem HdK.some{xW:Int}{q:List Rq}{E:List (Int × Int)}(h:HdK xW q E){R:Rq}(hR:R∈q):Vq E R.txn E.length=decide (0<R.sn):=by
 unfold Vq
 rw[List.take_of_length_le (Nat.le_refl _),Bool.eq_iff_iff,decide_eq_true_iff,List.any_eq_true,←Z5j h.ok h.dn hR]
 constructor
 ·rintro⟨e,he,k⟩
  exact⟨e,(h.mem e).1 he,by simpa using k⟩
 ·rintro⟨e,he,k⟩
  exact⟨e,(h.mem e).2 he,by simpa using k⟩
theorem Z4b(a0:Option Addr)(len0 cap0:Nat)(l:List Hv)(W:World)(h:HdsIn W a0 len0 cap0 l) :
  Calls prog 5 #[.slice a0 len0 cap0] W fun e W'=>e=.returned (.bool true)∧Nw W W':=by
 have HL:=hD0 (Z4w W)
 have HH:=hD0 h
 have HR:=hD0 (fun(z:World) (g:Nw W z)=>Z4o (h.nw g))
 clear h
 obtain⟨rg,hrg⟩:∃b,Z1f l=b:=⟨_,rfl⟩
 have HRG:=hD0 hrg
 rw[hrg] at HR
 clear hrg
 go_enter func5,ntmps5
 go_wp2_with fail
 refine HL.out.mono ?_
 rintro e w1 ⟨rfl,g1⟩
 have HR1:=hD0 (HR.out w1 g1)
 have HG:=hD0 g1
 clear g1 HL HR
 go_wp2_with fail
 refine HR1.out.mono ?_
 rintro e w2 ⟨rfl,g2⟩
 have HG2:=hD0 (HG.out.trans g2)
 clear g2 HG HR1
 cases rg with
 | false =>
  go_wp2_with fail
  go_ret
  exact⟨rfl,HG2.out⟩
 | true =>
  have hrg:=HRG.out
  unfold Z1f at hrg
  rw[Bool.and_eq_true,List.all_eq_true] at hrg
  obtain⟨hlg,hok⟩:=hrg
  unfold Z00 at hlg
  rw[Bool.and_eq_true,decide_eq_true_iff,List.all_eq_true] at hlg
  have h8:len0≤8:=by rw[←HH.out.hl];exact hlg.1
  have HQ:=hD0 (show ∀x∈l,Ok x.h.W x.h.q∧x.h.q.length≤12 from fun x hx=>⟨(Z7m _ _).1 (hok x hx),of_decide_eq_true (hlg.2 x hx)⟩)
  have H8:=hD0 h8
  clear hlg hok h8
  go_wp2_with fail
  go_loopw [3] (fun v wr=>∃k:Nat,v=.int .i64 k∧k≤len0∧Hid (Nw W wr)) (fun v _=>len0-(intOf v).toNat)
  case atStart=>exact⟨0,rfl,Nat.zero_le _,hD0 HG2.out⟩
  case round =>
   obtain⟨k,rfl,hk,HI⟩:=hrel
   by_cases hlt:k<len0
   ·have hkl:k<l.length:=by rw[HH.out.hl];exact hlt
    have hin:=HH.out.nw HI.out
    obtain⟨a',c',e',hed⟩:=hin.rd
    simp only[Value.slice.injEq] at e'
    obtain⟨rfl,hlx,rfl⟩:=e'
    rcases hed with⟨q,_⟩ | ⟨eb,eo,rfl,hrw⟩
    ·rw[q] at hkl;simp at hkl
    obtain⟨x,hx⟩:∃x,l[k]=x:=⟨_,rfl⟩
    have hxm:x∈l:=hx▸gM0 hkl
    have z0:=hrw.cell k hkl 0 (.int .i64 x.h.t) (by rw[hx];rfl)
    have z1:=hrw.cell k hkl 1 (.int .i64 x.h.r) (by rw[hx];rfl)
    have z2:=hrw.cell k hkl 2 x.v (by rw[hx];rfl)
    have z3:=hrw.cell k hkl 3 (.int .i64 x.h.W) (by rw[hx];rfl)
    simp only[Nat.add_zero] at z0 z1 z2 z3
    have hebl:=hrw.lt
    obtain⟨hqo,hql⟩:=HQ.out x hxm
    have hxi:=hin.all x hxm
    have HSc:=hD0 (aI0 (Z98 x.h.t x.h.r x.h.W x.v x.h.q wr (Nat.le_trans hql (by decide)) hqo hxi.at_) (Z8v hqo hql hxi.fit))
    obtain⟨⟨xt,xr,xW,q0⟩,xv⟩:=x
    simp only at z0 z1 z2 z3 HSc
    have Yc:=Zx hlt
    have hw:=Zw k (k+1) (by have:=H8.out;omega) rfl
    obtain⟨k1,hk1⟩:∃m,k+1=m:=⟨_,rfl⟩
    have HK1:=hD0 (aI0 hk1 hlt)
    rw[hk1] at hw
    clear hk1 hkl hin hrw hxm hlt hx hlx hqo hql hxi
    unfold Vi at HSc
    go_wp2_with fail
    refine HSc.out.1.mono ?_
    rintro e w4 ⟨v4,vi,rfl,g4,hat4,hcap4,hI4⟩
    obtain⟨q,hq⟩:∃q,(Ya q0).2=q:=⟨_,rfl⟩
    have hK:=HSc.out.2
    rw[hq] at hat4 hK
    obtain⟨ia,ic,rfl,_⟩:=hI4.box
    obtain⟨qa,qc,rfl,hd4⟩:=hat4
    obtain⟨n,hn⟩:∃n,q.length=n:=⟨_,rfl⟩
    have HN:=hD0 hn
    rw[hn] at hK ⊢
    have hn12:n≤12:=hn▸hK.len
    have hK':=hK
    obtain⟨E,hE⟩:∃E,sortE (Uc q n)=E:=⟨_,rfl⟩
    rw[hE] at hK
    obtain⟨m,hm⟩:∃m,E.length=m:=⟨_,rfl⟩
    have HM:=hD0 hm
    have hm144:m≤144:=hm▸hK.small
    have HQ4:=hD0 hd4
    have HKK:=hD0 hK
    have HGW:=hD0 (HI.out.trans g4)
    have HGR:=hD0 g4
    have HEE:=hD0 hE
    clear hd4 hK hK' g4 hcap4 hI4 HSc hq hn z0 z1 z2 z3 hE hm
    go_upto_region 9 with fail
    have hal:=Z5 w4 (.cells #[.int .i64 xt,.int .i64 xr,.slice qa n qc,.int .i64 xW] 40)
    have g5:Nw w4 (w4.alloc (.cells #[.int .i64 xt,.int .i64 xr,.slice qa n qc,.int .i64 xW] 40)):=(Nw.refl _).alloc _
    obtain⟨w5,hw5⟩:∃x,w4.alloc (.cells #[.int .i64 xt,.int .i64 xr,.slice qa n qc,.int .i64 xW] 40)=x:=⟨_,rfl⟩
    obtain⟨P,hP⟩:∃x,w4.heap.size=x:=⟨_,rfl⟩
    rw[hw5,hP]
    rw[hw5,hP] at hal
    rw[hw5] at g5
    have C5:=hD0 (show ∀z,Nw w5 z→z.cell? ⟨P,0,none⟩=some (.int .i64 xt)∧z.cell? ⟨P,1,none⟩=some (.int .i64 xr)∧z.cell? ⟨P,2,none⟩=some (.slice qa n qc)∧z.cell? ⟨P,3,none⟩=some (.int .i64 xW)∧P<z.heap.size from fun z g =>
     ⟨g.kp (Z2 (j:=0) hal),g.kp (Z2 (j:=1) hal),g.kp (Z2 (j:=2) hal),g.kp (Z2 (j:=3) hal),lL0 (hlt hal) g.sz⟩)
    have HG5:=hD0 g5
    have hal6:=Z5 w5 (.cells #[.int .i64 xt,.int .i64 xr,.slice qa n qc,.int .i64 xW] 40)
    have g6:Nw w5 (w5.alloc (.cells #[.int .i64 xt,.int .i64 xr,.slice qa n qc,.int .i64 xW] 40)):=(Nw.refl _).alloc _
    have HE6:=hD0 (Z4a (w0:=w5.alloc (.cells #[.int .i64 xt,.int .i64 xr,.slice qa n qc,.int .i64 xW] 40)) (l:=[⟨⟨xt,xr,xW,q⟩,.slice qa n qc⟩]) (Z2f (row:=Uu) (l:=[⟨⟨xt,xr,xW,q⟩,.slice qa n qc⟩]) (fun _=>rfl) hal6 1) (fun x hx=>by
     rw[List.mem_singleton.1 hx]
     exact⟨(show Yg w4 (.slice qa n qc) q from⟨qa,qc,by rw[HN.out],HQ4.out⟩).nw (HG5.out.trans g6),HKK.out.ok,HKK.out.len⟩) (by simp))
    have hEL:sortE (edL [⟨⟨xt,xr,xW,q⟩,.slice qa n qc⟩] [(⟨⟨xt,xr,xW,q⟩,.slice qa n qc⟩:Hv)].length)=E:=by
     rw[←HEE.out]
     simp[edL,HN.out]
    rw[hEL] at HE6
    have HG6:=hD0 g6
    obtain⟨p0,p1,p2,p3,p4⟩:=C5.out w5 (Nw.refl _)
    clear hw5 hP hal g5 hal6 g6 hEL HEE
    go_wp2_with fail
    refine HE6.out.mono ?_
    rintro e w7 ⟨v7,rfl,hE7,g7⟩
    obtain⟨ea,ec,rfl,hd7⟩:=Zo.at_ hE7
    have HA7:=hD0 (Z1o (Zo.at_ hE7) (Nat.le_trans HKK.out.small (by decide)) HKK.out.fit)
    rw[HM.out] at HA7 ⊢
    have HD7:=hD0 hd7
    have HG7:=hD0 (HG6.out.trans g7)
    clear hE7 hd7 g7 HE6 HG6 p0 p1 p2 p3 p4
    go_wp2_with fail
    refine HA7.out.mono ?_
    rintro e w8 ⟨b,rfl,hb,g8⟩
    have HUp:=hD0 (HKK.out.upg hb)
    have HG8:=hD0 g8
    have HG58:=hD0 (HG7.out.trans g8)
    clear hb g8 HA7 HG7
    cases b with
    | true =>
     go_wp2_with fail
     go_loopw [7] (fun v wr=>∃j:Nat,v=.int .i64 j∧j≤n∧Hid (Nw w8 wr)) (fun v _=>n-(intOf v).toNat)
     case atStart=>exact⟨0,rfl,Nat.zero_le _,hD0 (Nw.refl _)⟩
     case round =>
      obtain⟨j,rfl,hj,HJ⟩:=hrel
      obtain⟨p0,p1,p2,p3,p4⟩:=C5.out wr (HG58.out.trans HJ.out)
      by_cases hjl:j<n
      ·have hjq:j<q.length:=by rw[HN.out];exact hjl
       rcases HQ4.out with⟨e,_⟩ | ⟨qb,qo,rfl,hqc⟩
       ·rw[e] at hjq;simp at hjq
       have hrq:=hqc.nw (HG5.out.trans (HG58.out.trans HJ.out))
       have hce:=hrq.cell j hjq
       have hql:=hrq.lt
       have HSm:=hD0 (HKK.out.some (gM0 hjq))
       obtain⟨R,hR⟩:∃R,q[j]=R:=⟨_,rfl⟩
       simp only[hR,HM.out] at hce HSm
       obtain⟨r0,r1,r2,r3,r4⟩:=R
       have e0:=hce 0 _ rfl
       have e1:=hce 1 _ rfl
       have e2:=hce 2 _ rfl
       have e3:=hce 3 _ rfl
       have e4:=hce 4 _ rfl
       simp only[Nat.add_zero] at e0
       have hjl':=Zx hjl
       have hwj:=Zw j (j+1) (by omega) rfl
       obtain⟨j1,hj1⟩:∃m,j+1=m:=⟨_,rfl⟩
       have HJ1:=hD0 (aI0 hj1 hjl)
       rw[hj1] at hwj
       clear hj1 hjq hqc hrq hce hjl hR
       go_upto_region 16 with fail
       have hal:=Z5 wr (.cells #[.int .i64 r0,.int .i64 r1,.int .i64 r2,.int .i64 r3,.int .i64 r4] 47)
       have g10:Nw wr (wr.alloc (.cells #[.int .i64 r0,.int .i64 r1,.int .i64 r2,.int .i64 r3,.int .i64 r4] 47)):=(Nw.refl _).alloc _
       obtain⟨w10,hw10⟩:∃x,wr.alloc (.cells #[.int .i64 r0,.int .i64 r1,.int .i64 r2,.int .i64 r3,.int .i64 r4] 47)=x:=⟨_,rfl⟩
       obtain⟨B,hB⟩:∃x,wr.heap.size=x:=⟨_,rfl⟩
       rw[hw10,hB]
       rw[hw10,hB] at hal
       rw[hw10] at g10
       have D10:=hD0 (show ∀z,Nw w10 z→z.cell? ⟨B,1,none⟩=some (.int .i64 r1)∧z.cell? ⟨B,4,none⟩=some (.int .i64 r4)∧B<z.heap.size from fun z g=>⟨g.kp (Z2 (j:=1) hal),g.kp (Z2 (j:=4) hal),lL0 (hlt hal) g.sz⟩)
       have HGA:=hD0 (HJ.out.trans g10)
       have HG710:=hD0 (HG8.out.trans (HJ.out.trans g10))
       clear hw10 hB hal g10 e0 e1 e2 e3 e4 p0 p1 p2 p3 p4 hql HJ
       go_wp2_with fail
       go_loopw [9,10] (fun v9 v10 wr=>∃(i:Nat) (b:Bool),v9=.bool b∧v10=.int .i64 i∧i≤m∧Hid (b=Vq E r1 i∧Nw w10 wr)) (fun _ v10 _=>m-(intOf v10).toNat)
       case atStart=>exact⟨0,false,rfl,rfl,Nat.zero_le _,hD0 ⟨by simp[Vq],Nw.refl _⟩⟩
       case round =>
        obtain⟨i,b,rfl,rfl,hi,HB⟩:=hrel
        by_cases hil:i<m
        ·have hiE:i<E.length:=by rw[HM.out];exact hil
         rcases HD7.out with⟨e,_⟩ | ⟨eg,eu,rfl,hec⟩
         ·rw[e] at hiE;simp at hiE
         have hre:=hec.nw (HG710.out.trans HB.out.2)
         obtain⟨x0,x1⟩:=hre.eg hiE
         have hel:=hre.lt
         have hne:=HKK.out.self hiE
         have HAS:=hD0 (Z0l (t:=r1) hiE)
         obtain⟨s,hs⟩:∃s,E[i]=s:=⟨_,rfl⟩
         simp only[hs] at x0 x1 hne HAS
         obtain⟨ex,ey⟩:=s
         simp only at x0 x1 hne HAS
         obtain⟨y1,_,y3⟩:=D10.out wr HB.out.2
         have t0:∀z,Nw wr z→z.cell? ⟨eg,eu+i*2,none⟩=some (.int .i64 ex):=fun z g=>g.kp x0
         have t1:∀z,Nw wr z→z.cell? ⟨eg,eu+i*2+1,none⟩=some (.int .i64 ey):=fun z g=>g.kp x1
         have tr:∀z,Nw wr z→z.cell? ⟨B,1,none⟩=some (.int .i64 r1):=fun z g=>g.kp y1
         have hil':=Zx hil
         have hwi:=Zw i (i+1) (by omega) rfl
         obtain⟨i1,hi1⟩:∃m,i+1=m:=⟨_,rfl⟩
         have HI1:=hD0 (aI0 hi1 hil)
         rw[hi1] at hwi
         have HG10i:=hD0 HB.out.2
         have HBb:=hD0 HB.out.1
         clear hi1 hiE hec hre hil hs x0 x1 y1 HB
         cases b with
         | true =>
          have HB2:=hD0 (show true=Vq E r1 i1 from by rw[←HI1.out.1,HAS.out,←HBb.out];rfl)
          clear HBb HAS
          go_wp2_with fail
          refine Z6 [] (Nw wr) (by kernel_rfl) ?_
          change Z7 _ _ _ _ _ _ 12 #[false,false,false,false,false,false,false,false,false,false,false,false] _ wr.drew
          obtain⟨y4,hy4⟩:∃y,wr.drew=y:=⟨_,rfl⟩
          rw[hy4]
          have hS0:Nw wr y4:=by rw[←hy4];exact(Nw.refl wr).dr
          clear hy4
          refine Z0 0 rfl (by kernel_rfl) (by kernel_rfl) (by kernel_rfl) (fun v c a w h=>h) ?_
          (first | (refine⟨undef,Or.inr ⟨by rfl,rfl⟩,?_⟩) | (apply Exists.intro;refine⟨Or.inl ⟨by rfl,?_⟩,?_⟩;(intro x hx';go_simp;first | done | with_reducible rfl)))
          (try simp only[Act.put,List.getElem_toArray,List.getElem_cons_zero,List.getElem_cons_succ,List.setIfInBounds_toArray,List.set_cons_zero,List.set_cons_succ])
          refine Z0 1 rfl (by kernel_rfl) (by kernel_rfl) (by kernel_rfl) (fun v c a w h=>h) ?_
          (first | (refine⟨undef,Or.inr ⟨by rfl,rfl⟩,?_⟩) | (apply Exists.intro;refine⟨Or.inl ⟨by rfl,?_⟩,?_⟩;(intro x hx';go_simp;first | done | with_reducible rfl)))
          (try simp only[Act.put,List.getElem_toArray,List.getElem_cons_zero,List.getElem_cons_succ,List.setIfInBounds_toArray,List.set_cons_zero,List.set_cons_succ])
          refine Z0 2 rfl (by kernel_rfl) (by kernel_rfl) (by kernel_rfl) (fun v c a w h=>h) ?_
          (first | (refine⟨undef,Or.inr ⟨by rfl,rfl⟩,?_⟩) | (apply Exists.intro;refine⟨Or.inl ⟨by rfl,?_⟩,?_⟩;(intro x hx';go_simp;first | done | with_reducible rfl)))
          (try simp only[Act.put,List.getElem_toArray,List.getElem_cons_zero,List.getElem_cons_succ,List.setIfInBounds_toArray,List.set_cons_zero,List.set_cons_succ])
          refine Z0 3 rfl (by kernel_rfl) (by kernel_rfl) (by kernel_rfl) (fun v c a w h=>h) ?_
          (first | (refine⟨undef,Or.inr ⟨by rfl,rfl⟩,?_⟩) | (apply Exists.intro;refine⟨Or.inl ⟨by rfl,?_⟩,?_⟩;(intro x hx';go_simp;first | done | with_reducible rfl)))
          (try simp only[Act.put,List.getElem_toArray,List.getElem_cons_zero,List.getElem_cons_succ,List.setIfInBounds_toArray,List.set_cons_zero,List.set_cons_succ])
          refine Z0 4 rfl (by kernel_rfl) (by kernel_rfl) (by kernel_rfl) (fun v c a w h=>h) ?_
          (first | (refine⟨undef,Or.inr ⟨by rfl,rfl⟩,?_⟩) | (apply Exists.intro;refine⟨Or.inl ⟨by rfl,?_⟩,?_⟩;(intro x hx';go_simp;first | done | with_reducible rfl)))
          (try simp only[Act.put,List.getElem_toArray,List.getElem_cons_zero,List.getElem_cons_succ,List.setIfInBounds_toArray,List.set_cons_zero,List.set_cons_succ])
          refine Z0 5 rfl (by kernel_rfl) (by kernel_rfl) (by kernel_rfl) (fun v c a w h=>h) ?_
          (first | (refine⟨undef,Or.inr ⟨by rfl,rfl⟩,?_⟩) | (apply Exists.intro;refine⟨Or.inl ⟨by rfl,?_⟩,?_⟩;(intro x hx';go_simp;first | done | with_reducible rfl)))
          (try simp only[Act.put,List.getElem_toArray,List.getElem_cons_zero,List.getElem_cons_succ,List.setIfInBounds_toArray,List.set_cons_zero,List.set_cons_succ])
          refine Z1 6 rfl (by kernel_rfl) (by kernel_rfl) (by kernel_rfl) (by kernel_rfl) (fun v c a w h=>h) hS0 ?_
          (first | (refine⟨undef,Or.inr ⟨by rfl,rfl⟩,?_⟩) | (apply Exists.intro;refine⟨Or.inl ⟨by rfl,?_⟩,?_⟩;(intro x hx';go_simp;first | done | with_reducible rfl)))
          (try simp only[Act.put,List.getElem_toArray,List.getElem_cons_zero,List.getElem_cons_succ,List.setIfInBounds_toArray,List.set_cons_zero,List.set_cons_succ])
          refine Z0 7 rfl (by kernel_rfl) (by kernel_rfl) (by kernel_rfl) (fun v c a w h=>h) ?_
          (first | (refine⟨undef,Or.inr ⟨by rfl,rfl⟩,?_⟩) | (apply Exists.intro;refine⟨Or.inl ⟨by rfl,?_⟩,?_⟩;(intro x hx';go_simp;first | done | with_reducible rfl)))
          (try simp only[Act.put,List.getElem_toArray,List.getElem_cons_zero,List.getElem_cons_succ,List.setIfInBounds_toArray,List.set_cons_zero,List.set_cons_succ])
          refine Z1 8 rfl (by kernel_rfl) (by kernel_rfl) (by kernel_rfl) (by kernel_rfl) (fun v c a w h=>h) hS0 ?_
          (first | (refine⟨undef,Or.inr ⟨by rfl,rfl⟩,?_⟩) | (apply Exists.intro;refine⟨Or.inl ⟨by rfl,?_⟩,?_⟩;(intro x hx';go_simp;first | done | with_reducible rfl)))
          (try simp only[Act.put,List.getElem_toArray,List.getElem_cons_zero,List.getElem_cons_succ,List.setIfInBounds_toArray,List.set_cons_zero,List.set_cons_succ])
          refine Z0 9 rfl (by kernel_rfl) (by kernel_rfl) (by kernel_rfl) (fun v c a w h=>h) ?_
          (first | (refine⟨undef,Or.inr ⟨by rfl,rfl⟩,?_⟩) | (apply Exists.intro;refine⟨Or.inl ⟨by rfl,?_⟩,?_⟩;(intro x hx';go_simp;first | done | with_reducible rfl)))
          (try simp only[Act.put,List.getElem_toArray,List.getElem_cons_zero,List.getElem_cons_succ,List.setIfInBounds_toArray,List.set_cons_zero,List.set_cons_succ])
          refine Z0 10 rfl (by kernel_rfl) (by kernel_rfl) (by kernel_rfl) (fun v c a w h=>h) ?_
          (first | (refine⟨undef,Or.inr ⟨by rfl,rfl⟩,?_⟩) | (apply Exists.intro;refine⟨Or.inl ⟨by rfl,?_⟩,?_⟩;(intro x hx';go_simp;first | done | with_reducible rfl)))
          (try simp only[Act.put,List.getElem_toArray,List.getElem_cons_zero,List.getElem_cons_succ,List.setIfInBounds_toArray,List.set_cons_zero,List.set_cons_succ])
          refine Z0 11 rfl (by kernel_rfl) (by kernel_rfl) (by kernel_rfl) (fun v c a w h=>h) ?_
          (first | (refine⟨undef,Or.inr ⟨by rfl,rfl⟩,?_⟩) | (apply Exists.intro;refine⟨Or.inl ⟨by rfl,?_⟩,?_⟩;(intro x hx';go_simp;first | done | with_reducible rfl)))
          (try simp only[Act.put,List.getElem_toArray,List.getElem_cons_zero,List.getElem_cons_succ,List.setIfInBounds_toArray,List.set_cons_zero,List.set_cons_succ])
          refine Z3 (by kernel_rfl) ?_ _
          refine NoPanic.normal ?_
          (try simp only[Act.put,List.getElem_toArray,List.getElem_cons_zero,List.getElem_cons_succ,List.setIfInBounds_toArray,List.set_cons_zero,List.set_cons_succ])
          have HS4:=hD0 hS0
          clear hS0
          go_wp2_with fail
          refine Z6 [] (Nw wr) (by kernel_rfl) ?_
          change Z7 _ _ _ _ _ _ 11 #[false,false,false,false,false,false,false,false,false,false,false] _ y4.drew
          obtain⟨y5,hy5⟩:∃y,y4.drew=y:=⟨_,rfl⟩
          rw[hy5]
          have hS0:Nw wr y5:=by rw[←hy5];exact HS4.out.dr
          clear hy5
          refine Z0 0 rfl (by kernel_rfl) (by kernel_rfl) (by kernel_rfl) (fun v c a w h=>h) ?_
          (first | (refine⟨undef,Or.inr ⟨by rfl,rfl⟩,?_⟩) | (apply Exists.intro;refine⟨Or.inl ⟨by rfl,?_⟩,?_⟩;(intro x hx';go_simp;first | done | with_reducible rfl)))
          (try simp only[Act.put,List.getElem_toArray,List.getElem_cons_zero,List.getElem_cons_succ,List.setIfInBounds_toArray,List.set_cons_zero,List.set_cons_succ])
          refine Z0 1 rfl (by kernel_rfl) (by kernel_rfl) (by kernel_rfl) (fun v c a w h=>h) ?_
          (first | (refine⟨undef,Or.inr ⟨by rfl,rfl⟩,?_⟩) | (apply Exists.intro;refine⟨Or.inl ⟨by rfl,?_⟩,?_⟩;(intro x hx';go_simp;first | done | with_reducible rfl)))
          (try simp only[Act.put,List.getElem_toArray,List.getElem_cons_zero,List.getElem_cons_succ,List.setIfInBounds_toArray,List.set_cons_zero,List.set_cons_succ])
          refine Z0 2 rfl (by kernel_rfl) (by kernel_rfl) (by kernel_rfl) (fun v c a w h=>h) ?_
          (first | (refine⟨undef,Or.inr ⟨by rfl,rfl⟩,?_⟩) | (apply Exists.intro;refine⟨Or.inl ⟨by rfl,?_⟩,?_⟩;(intro x hx';go_simp;first | done | with_reducible rfl)))
          (try simp only[Act.put,List.getElem_toArray,List.getElem_cons_zero,List.getElem_cons_succ,List.setIfInBounds_toArray,List.set_cons_zero,List.set_cons_succ])
          refine Z0 3 rfl (by kernel_rfl) (by kernel_rfl) (by kernel_rfl) (fun v c a w h=>h) ?_
          (first | (refine⟨undef,Or.inr ⟨by rfl,rfl⟩,?_⟩) | (apply Exists.intro;refine⟨Or.inl ⟨by rfl,?_⟩,?_⟩;(intro x hx';go_simp;first | done | with_reducible rfl)))
          (try simp only[Act.put,List.getElem_toArray,List.getElem_cons_zero,List.getElem_cons_succ,List.setIfInBounds_toArray,List.set_cons_zero,List.set_cons_succ])
          refine Z1 4 rfl (by kernel_rfl) (by kernel_rfl) (by kernel_rfl) (by kernel_rfl) (fun v c a w h=>h) hS0 ?_
          (first | (refine⟨undef,Or.inr ⟨by rfl,rfl⟩,?_⟩) | (apply Exists.intro;refine⟨Or.inl ⟨by rfl,?_⟩,?_⟩;(intro x hx';go_simp;first | done | with_reducible rfl)))
          (try simp only[Act.put,List.getElem_toArray,List.getElem_cons_zero,List.getElem_cons_succ,List.setIfInBounds_toArray,List.set_cons_zero,List.set_cons_succ])
          refine Z0 5 rfl (by kernel_rfl) (by kernel_rfl) (by kernel_rfl) (fun v c a w h=>h) ?_
          (first | (refine⟨undef,Or.inr ⟨by rfl,rfl⟩,?_⟩) | (apply Exists.intro;refine⟨Or.inl ⟨by rfl,?_⟩,?_⟩;(intro x hx';go_simp;first | done | with_reducible rfl)))
          (try simp only[Act.put,List.getElem_toArray,List.getElem_cons_zero,List.getElem_cons_succ,List.setIfInBounds_toArray,List.set_cons_zero,List.set_cons_succ])
          refine Z0 6 rfl (by kernel_rfl) (by kernel_rfl) (by kernel_rfl) (fun v c a w h=>h) ?_
          (first | (refine⟨undef,Or.inr ⟨by rfl,rfl⟩,?_⟩) | (apply Exists.intro;refine⟨Or.inl ⟨by rfl,?_⟩,?_⟩;(intro x hx';go_simp;first | done | with_reducible rfl)))
          (try simp only[Act.put,List.getElem_toArray,List.getElem_cons_zero,List.getElem_cons_succ,List.setIfInBounds_toArray,List.set_cons_zero,List.set_cons_succ])
          refine Z0 7 rfl (by kernel_rfl) (by kernel_rfl) (by kernel_rfl) (fun v c a w h=>h) ?_
          (first | (refine⟨undef,Or.inr ⟨by rfl,rfl⟩,?_⟩) | (apply Exists.intro;refine⟨Or.inl ⟨by rfl,?_⟩,?_⟩;(intro x hx';go_simp;first | done | with_reducible rfl)))
          (try simp only[Act.put,List.getElem_toArray,List.getElem_cons_zero,List.getElem_cons_succ,List.setIfInBounds_toArray,List.set_cons_zero,List.set_cons_succ])
          refine Z0 8 rfl (by kernel_rfl) (by kernel_rfl) (by kernel_rfl) (fun v c a w h=>h) ?_
          (first | (refine⟨undef,Or.inr ⟨by rfl,rfl⟩,?_⟩) | (apply Exists.intro;refine⟨Or.inl ⟨by rfl,?_⟩,?_⟩;(intro x hx';go_simp;first | done | with_reducible rfl)))
          (try simp only[Act.put,List.getElem_toArray,List.getElem_cons_zero,List.getElem_cons_succ,List.setIfInBounds_toArray,List.set_cons_zero,List.set_cons_succ])
          refine Z1 9 rfl (by kernel_rfl) (by kernel_rfl) (by kernel_rfl) (by kernel_rfl) (fun v c a w h=>h) hS0 ?_
          (first | (refine⟨undef,Or.inr ⟨by rfl,rfl⟩,?_⟩) | (apply Exists.intro;refine⟨Or.inl ⟨by rfl,?_⟩,?_⟩;(intro x hx';go_simp;first | done | with_reducible rfl)))
          (try simp only[Act.put,List.getElem_toArray,List.getElem_cons_zero,List.getElem_cons_succ,List.setIfInBounds_toArray,List.set_cons_zero,List.set_cons_succ])
          refine Z0 10 rfl (by kernel_rfl) (by kernel_rfl) (by kernel_rfl) (fun v c a w h=>h) ?_
          (first | (refine⟨undef,Or.inr ⟨by rfl,rfl⟩,?_⟩) | (apply Exists.intro;refine⟨Or.inl ⟨by rfl,?_⟩,?_⟩;(intro x hx';go_simp;first | done | with_reducible rfl)))
          (try simp only[Act.put,List.getElem_toArray,List.getElem_cons_zero,List.getElem_cons_succ,List.setIfInBounds_toArray,List.set_cons_zero,List.set_cons_succ])
          refine Z3 (by kernel_rfl) ?_ _
          refine NoPanic.normal ?_
          (try simp only[Act.put,List.getElem_toArray,List.getElem_cons_zero,List.getElem_cons_succ,List.setIfInBounds_toArray,List.set_cons_zero,List.set_cons_succ])
          have HS5:=hD0 hS0
          clear hS0 t0 t1 tr
          go_wp2_with fail
          exact⟨⟨i1,true,rfl,rfl,by rw[←HI1.out.1];exact HI1.out.2,hD0 ⟨HB2.out,HG10i.out.trans HS5.out⟩⟩,by rw[←HI1.out.1];exact Y1 HI1.out.2⟩
         | false =>
          obtain⟨b2,hb2⟩:∃b2,(ex==r1)=b2:=⟨_,rfl⟩
          have HB2:=hD0 (show b2=Vq E r1 i1 from by rw[←HI1.out.1,HAS.out,←HBb.out,hb2];rfl)
          clear HBb HAS
          go_wp2_with fail
          refine Z6 [] (Nw wr) (by kernel_rfl) ?_
          change Z7 _ _ _ _ _ _ 12 #[false,false,false,false,false,false,false,false,false,false,false,false] _ wr.drew
          obtain⟨y4,hy4⟩:∃y,wr.drew=y:=⟨_,rfl⟩
          rw[hy4]
          have hS0:Nw wr y4:=by rw[←hy4];exact(Nw.refl wr).dr
          clear hy4
          refine Z0 0 rfl (by kernel_rfl) (by kernel_rfl) (by kernel_rfl) (fun v c a w h=>h) ?_
          (first | (refine⟨undef,Or.inr ⟨by rfl,rfl⟩,?_⟩) | (apply Exists.intro;refine⟨Or.inl ⟨by rfl,?_⟩,?_⟩;(intro x hx';go_simp;first | done | with_reducible rfl)))
          (try simp only[Act.put,List.getElem_toArray,List.getElem_cons_zero,List.getElem_cons_succ,List.setIfInBounds_toArray,List.set_cons_zero,List.set_cons_succ])
          refine Z0 1 rfl (by kernel_rfl) (by kernel_rfl) (by kernel_rfl) (fun v c a w h=>h) ?_
          (first | (refine⟨undef,Or.inr ⟨by rfl,rfl⟩,?_⟩) | (apply Exists.intro;refine⟨Or.inl ⟨by rfl,?_⟩,?_⟩;(intro x hx';go_simp;first | done | with_reducible rfl)))
          (try simp only[Act.put,List.getElem_toArray,List.getElem_cons_zero,List.getElem_cons_succ,List.setIfInBounds_toArray,List.set_cons_zero,List.set_cons_succ])
          refine Z0 2 rfl (by kernel_rfl) (by kernel_rfl) (by kernel_rfl) (fun v c a w h=>h) ?_
          (first | (refine⟨undef,Or.inr ⟨by rfl,rfl⟩,?_⟩) | (apply Exists.intro;refine⟨Or.inl ⟨by rfl,?_⟩,?_⟩;(intro x hx';go_simp;first | done | with_reducible rfl)))
          (try simp only[Act.put,List.getElem_toArray,List.getElem_cons_zero,List.getElem_cons_succ,List.setIfInBounds_toArray,List.set_cons_zero,List.set_cons_succ])
          refine Z0 3 rfl (by kernel_rfl) (by kernel_rfl) (by kernel_rfl) (fun v c a w h=>h) ?_
          (first | (refine⟨undef,Or.inr ⟨by rfl,rfl⟩,?_⟩) | (apply Exists.intro;refine⟨Or.inl ⟨by rfl,?_⟩,?_⟩;(intro x hx';go_simp;first | done | with_reducible rfl)))
          (try simp only[Act.put,List.getElem_toArray,List.getElem_cons_zero,List.getElem_cons_succ,List.setIfInBounds_toArray,List.set_cons_zero,List.set_cons_succ])
          refine Z0 4 rfl (by kernel_rfl) (by kernel_rfl) (by kernel_rfl) (fun v c a w h=>h) ?_
          (first | (refine⟨undef,Or.inr ⟨by rfl,rfl⟩,?_⟩) | (apply Exists.intro;refine⟨Or.inl ⟨by rfl,?_⟩,?_⟩;(intro x hx';go_simp;first | done | with_reducible rfl)))
          (try simp only[Act.put,List.getElem_toArray,List.getElem_cons_zero,List.getElem_cons_succ,List.setIfInBounds_toArray,List.set_cons_zero,List.set_cons_succ])
          refine Z0 5 rfl (by kernel_rfl) (by kernel_rfl) (by kernel_rfl) (fun v c a w h=>h) ?_
          (first | (refine⟨undef,Or.inr ⟨by rfl,rfl⟩,?_⟩) | (apply Exists.intro;refine⟨Or.inl ⟨by rfl,?_⟩,?_⟩;(intro x hx';go_simp;first | done | with_reducible rfl)))
          (try simp only[Act.put,List.getElem_toArray,List.getElem_cons_zero,List.getElem_cons_succ,List.setIfInBounds_toArray,List.set_cons_zero,List.set_cons_succ])
          refine Z1 6 rfl (by kernel_rfl) (by kernel_rfl) (by kernel_rfl) (by kernel_rfl) (fun v c a w h=>h) hS0 ?_
          (first | (refine⟨undef,Or.inr ⟨by rfl,rfl⟩,?_⟩) | (apply Exists.intro;refine⟨Or.inl ⟨by rfl,?_⟩,?_⟩;(intro x hx';go_simp;first | done | with_reducible rfl)))
          (try simp only[Act.put,List.getElem_toArray,List.getElem_cons_zero,List.getElem_cons_succ,List.setIfInBounds_toArray,List.set_cons_zero,List.set_cons_succ])
          refine Z0 7 rfl (by kernel_rfl) (by kernel_rfl) (by kernel_rfl) (fun v c a w h=>h) ?_
          (first | (refine⟨undef,Or.inr ⟨by rfl,rfl⟩,?_⟩) | (apply Exists.intro;refine⟨Or.inl ⟨by rfl,?_⟩,?_⟩;(intro x hx';go_simp;first | done | with_reducible rfl)))
          (try simp only[Act.put,List.getElem_toArray,List.getElem_cons_zero,List.getElem_cons_succ,List.setIfInBounds_toArray,List.set_cons_zero,List.set_cons_succ])
          refine Z1 8 rfl (by kernel_rfl) (by kernel_rfl) (by kernel_rfl) (by kernel_rfl) (fun v c a w h=>h) hS0 ?_
          (first | (refine⟨undef,Or.inr ⟨by rfl,rfl⟩,?_⟩) | (apply Exists.intro;refine⟨Or.inl ⟨by rfl,?_⟩,?_⟩;(intro x hx';go_simp;first | done | with_reducible rfl)))
          (try simp only[Act.put,List.getElem_toArray,List.getElem_cons_zero,List.getElem_cons_succ,List.setIfInBounds_toArray,List.set_cons_zero,List.set_cons_succ])
          refine Z0 9 rfl (by kernel_rfl) (by kernel_rfl) (by kernel_rfl) (fun v c a w h=>h) ?_
          (first | (refine⟨undef,Or.inr ⟨by rfl,rfl⟩,?_⟩) | (apply Exists.intro;refine⟨Or.inl ⟨by rfl,?_⟩,?_⟩;(intro x hx';go_simp;first | done | with_reducible rfl)))
          (try simp only[Act.put,List.getElem_toArray,List.getElem_cons_zero,List.getElem_cons_succ,List.setIfInBounds_toArray,List.set_cons_zero,List.set_cons_succ])
          refine Z0 10 rfl (by kernel_rfl) (by kernel_rfl) (by kernel_rfl) (fun v c a w h=>h) ?_
          (first | (refine⟨undef,Or.inr ⟨by rfl,rfl⟩,?_⟩) | (apply Exists.intro;refine⟨Or.inl ⟨by rfl,?_⟩,?_⟩;(intro x hx';go_simp;first | done | with_reducible rfl)))
          (try simp only[Act.put,List.getElem_toArray,List.getElem_cons_zero,List.getElem_cons_succ,List.setIfInBounds_toArray,List.set_cons_zero,List.set_cons_succ])
          refine Z0 11 rfl (by kernel_rfl) (by kernel_rfl) (by kernel_rfl) (fun v c a w h=>h) ?_
          (first | (refine⟨undef,Or.inr ⟨by rfl,rfl⟩,?_⟩) | (apply Exists.intro;refine⟨Or.inl ⟨by rfl,?_⟩,?_⟩;(intro x hx';go_simp;first | done | with_reducible rfl)))
          (try simp only[Act.put,List.getElem_toArray,List.getElem_cons_zero,List.getElem_cons_succ,List.setIfInBounds_toArray,List.set_cons_zero,List.set_cons_succ])
          refine Z3 (by kernel_rfl) ?_ _
          refine NoPanic.normal ?_
          (try simp only[Act.put,List.getElem_toArray,List.getElem_cons_zero,List.getElem_cons_succ,List.setIfInBounds_toArray,List.set_cons_zero,List.set_cons_succ])
          have HS4:=hD0 hS0
          clear hS0
          go_wp2_with fail
          refine Z6 [] (Nw wr) (by kernel_rfl) ?_
          change Z7 _ _ _ _ _ _ 11 #[false,false,false,false,false,false,false,false,false,false,false] _ y4.drew
          obtain⟨y5,hy5⟩:∃y,y4.drew=y:=⟨_,rfl⟩
          rw[hy5]
          have hS0:Nw wr y5:=by rw[←hy5];exact HS4.out.dr
          clear hy5
          refine Z0 0 rfl (by kernel_rfl) (by kernel_rfl) (by kernel_rfl) (fun v c a w h=>h) ?_
          (first | (refine⟨undef,Or.inr ⟨by rfl,rfl⟩,?_⟩) | (apply Exists.intro;refine⟨Or.inl ⟨by rfl,?_⟩,?_⟩;(intro x hx';go_simp;first | done | with_reducible rfl)))
          (try simp only[Act.put,List.getElem_toArray,List.getElem_cons_zero,List.getElem_cons_succ,List.setIfInBounds_toArray,List.set_cons_zero,List.set_cons_succ])
          refine Z0 1 rfl (by kernel_rfl) (by kernel_rfl) (by kernel_rfl) (fun v c a w h=>h) ?_
          (first | (refine⟨undef,Or.inr ⟨by rfl,rfl⟩,?_⟩) | (apply Exists.intro;refine⟨Or.inl ⟨by rfl,?_⟩,?_⟩;(intro x hx';go_simp;first | done | with_reducible rfl)))
          (try simp only[Act.put,List.getElem_toArray,List.getElem_cons_zero,List.getElem_cons_succ,List.setIfInBounds_toArray,List.set_cons_zero,List.set_cons_succ])
          refine Z0 2 rfl (by kernel_rfl) (by kernel_rfl) (by kernel_rfl) (fun v c a w h=>h) ?_
          (first | (refine⟨undef,Or.inr ⟨by rfl,rfl⟩,?_⟩) | (apply Exists.intro;refine⟨Or.inl ⟨by rfl,?_⟩,?_⟩;(intro x hx';go_simp;first | done | with_reducible rfl)))
          (try simp only[Act.put,List.getElem_toArray,List.getElem_cons_zero,List.getElem_cons_succ,List.setIfInBounds_toArray,List.set_cons_zero,List.set_cons_succ])
          refine Z0 3 rfl (by kernel_rfl) (by kernel_rfl) (by kernel_rfl) (fun v c a w h=>h) ?_
          (first | (refine⟨undef,Or.inr ⟨by rfl,rfl⟩,?_⟩) | (apply Exists.intro;refine⟨Or.inl ⟨by rfl,?_⟩,?_⟩;(intro x hx';go_simp;first | done | with_reducible rfl)))
          (try simp only[Act.put,List.getElem_toArray,List.getElem_cons_zero,List.getElem_cons_succ,List.setIfInBounds_toArray,List.set_cons_zero,List.set_cons_succ])
          refine Z1 4 rfl (by kernel_rfl) (by kernel_rfl) (by kernel_rfl) (by kernel_rfl) (fun v c a w h=>h) hS0 ?_
          (first | (refine⟨undef,Or.inr ⟨by rfl,rfl⟩,?_⟩) | (apply Exists.intro;refine⟨Or.inl ⟨by rfl,?_⟩,?_⟩;(intro x hx';go_simp;first | done | with_reducible rfl)))
          (try simp only[Act.put,List.getElem_toArray,List.getElem_cons_zero,List.getElem_cons_succ,List.setIfInBounds_toArray,List.set_cons_zero,List.set_cons_succ])
          refine Z0 5 rfl (by kernel_rfl) (by kernel_rfl) (by kernel_rfl) (fun v c a w h=>h) ?_
          (first | (refine⟨undef,Or.inr ⟨by rfl,rfl⟩,?_⟩) | (apply Exists.intro;refine⟨Or.inl ⟨by rfl,?_⟩,?_⟩;(intro x hx';go_simp;first | done | with_reducible rfl)))
          (try simp only[Act.put,List.getElem_toArray,List.getElem_cons_zero,List.getElem_cons_succ,List.setIfInBounds_toArray,List.set_cons_zero,List.set_cons_succ])
          refine Z0 6 rfl (by kernel_rfl) (by kernel_rfl) (by kernel_rfl) (fun v c a w h=>h) ?_
          (first | (refine⟨undef,Or.inr ⟨by rfl,rfl⟩,?_⟩) | (apply Exists.intro;refine⟨Or.inl ⟨by rfl,?_⟩,?_⟩;(intro x hx';go_simp;first | done | with_reducible rfl)))
          (try simp only[Act.put,List.getElem_toArray,List.getElem_cons_zero,List.getElem_cons_succ,List.setIfInBounds_toArray,List.set_cons_zero,List.set_cons_succ])
          refine Z0 7 rfl (by kernel_rfl) (by kernel_rfl) (by kernel_rfl) (fun v c a w h=>h) ?_
          (first | (refine⟨undef,Or.inr ⟨by rfl,rfl⟩,?_⟩) | (apply Exists.intro;refine⟨Or.inl ⟨by rfl,?_⟩,?_⟩;(intro x hx';go_simp;first | done | with_reducible rfl)))
          (try simp only[Act.put,List.getElem_toArray,List.getElem_cons_zero,List.getElem_cons_succ,List.setIfInBounds_toArray,List.set_cons_zero,List.set_cons_succ])
          refine Z0 8 rfl (by kernel_rfl) (by kernel_rfl) (by kernel_rfl) (fun v c a w h=>h) ?_
          (first | (refine⟨undef,Or.inr ⟨by rfl,rfl⟩,?_⟩) | (apply Exists.intro;refine⟨Or.inl ⟨by rfl,?_⟩,?_⟩;(intro x hx';go_simp;first | done | with_reducible rfl)))
          (try simp only[Act.put,List.getElem_toArray,List.getElem_cons_zero,List.getElem_cons_succ,List.setIfInBounds_toArray,List.set_cons_zero,List.set_cons_succ])
          refine Z1 9 rfl (by kernel_rfl) (by kernel_rfl) (by kernel_rfl) (by kernel_rfl) (fun v c a w h=>h) hS0 ?_
          (first | (refine⟨undef,Or.inr ⟨by rfl,rfl⟩,?_⟩) | (apply Exists.intro;refine⟨Or.inl ⟨by rfl,?_⟩,?_⟩;(intro x hx';go_simp;first | done | with_reducible rfl)))
          (try simp only[Act.put,List.getElem_toArray,List.getElem_cons_zero,List.getElem_cons_succ,List.setIfInBounds_toArray,List.set_cons_zero,List.set_cons_succ])
          refine Z0 10 rfl (by kernel_rfl) (by kernel_rfl) (by kernel_rfl) (fun v c a w h=>h) ?_
          (first | (refine⟨undef,Or.inr ⟨by rfl,rfl⟩,?_⟩) | (apply Exists.intro;refine⟨Or.inl ⟨by rfl,?_⟩,?_⟩;(intro x hx';go_simp;first | done | with_reducible rfl)))
          (try simp only[Act.put,List.getElem_toArray,List.getElem_cons_zero,List.getElem_cons_succ,List.setIfInBounds_toArray,List.set_cons_zero,List.set_cons_succ])
          refine Z3 (by kernel_rfl) ?_ _
          refine NoPanic.normal ?_
          (try simp only[Act.put,List.getElem_toArray,List.getElem_cons_zero,List.getElem_cons_succ,List.setIfInBounds_toArray,List.set_cons_zero,List.set_cons_succ])
          have HS5:=hD0 hS0
          clear hS0 t0 t1 tr
          go_wp2_with fail
          exact⟨⟨i1,b2,rfl,rfl,by rw[←HI1.out.1];exact HI1.out.2,hD0 ⟨HB2.out,HG10i.out.trans HS5.out⟩⟩,by rw[←HI1.out.1];exact Y1 HI1.out.2⟩
        ·obtain rfl:i=m:=Nat.le_antisymm hi (Nat.le_of_not_lt hil)
         have hil':¬i<i:=Nat.lt_irrefl i
         have dS:decide (0<r4)=b:=by rw[HB.out.1];exact HSm.out.symm
         have hbb:(b != b)=false:=by cases b<;>rfl
         obtain⟨_,y2,y3⟩:=D10.out wr HB.out.2
         have HGB:=hD0 (HGA.out.trans HB.out.2)
         clear hil HB
         go_wp2_with fail
         exact⟨⟨j1,rfl,by rw[←HJ1.out.1];exact HJ1.out.2,HGB⟩,by rw[←HJ1.out.1];exact Y1 HJ1.out.2⟩
      ·obtain rfl:j=n:=Nat.le_antisymm hj (Nat.le_of_not_lt hjl)
       have hjl':¬j<j:=Nat.lt_irrefl j
       have HGE:=hD0 (HGW.out.trans (HG5.out.trans (HG58.out.trans HJ.out)))
       clear hjl
       go_wp2_with fail
       exact⟨⟨k1,rfl,by rw[←HK1.out.1];exact HK1.out.2,HGE⟩,by rw[←HK1.out.1];exact Y1 HK1.out.2⟩
    | false =>
     obtain⟨p0,p1,p2,p3,p4⟩:=C5.out w8 HG58.out
     have HU8:=hD0 (Z1i (w0:=w8) xt xr xW (.slice qa n qc) q (Nat.le_trans HKK.out.len (by decide)) ((show Yg w4 (.slice qa n qc) q from⟨qa,qc,by rw[HN.out],HQ4.out⟩).nw (HG5.out.trans HG58.out)))
     rw[HUp.out rfl] at HU8
     unfold Vi at HU8
     go_wp2_with fail
     refine HU8.out.mono ?_
     rintro e w9 ⟨rfl,g9⟩
     have HG89:=hD0 (HG8.out.trans g9)
     have HG59:=hD0 (HG58.out.trans g9)
     clear g9 HU8 p0 p1 p2 p3 p4
     go_wp2_with fail
     go_loopw [7] (fun v wr=>∃j:Nat,v=.int .i64 j∧j≤n∧Hid (Nw w9 wr)) (fun v _=>n-(intOf v).toNat)
     case atStart=>exact⟨0,rfl,Nat.zero_le _,hD0 (Nw.refl _)⟩
     case round =>
      obtain⟨j,rfl,hj,HJ⟩:=hrel
      obtain⟨p0,p1,p2,p3,p4⟩:=C5.out wr (HG59.out.trans HJ.out)
      by_cases hjl:j<n
      ·have hjq:j<q.length:=by rw[HN.out];exact hjl
       rcases HQ4.out with⟨e,_⟩ | ⟨qb,qo,rfl,hqc⟩
       ·rw[e] at hjq;simp at hjq
       have hrq:=hqc.nw (HG5.out.trans (HG59.out.trans HJ.out))
       have hce:=hrq.cell j hjq
       have hql:=hrq.lt
       have HSm:=hD0 (HKK.out.some (gM0 hjq))
       obtain⟨R,hR⟩:∃R,q[j]=R:=⟨_,rfl⟩
       simp only[hR,HM.out] at hce HSm
       obtain⟨r0,r1,r2,r3,r4⟩:=R
       have e0:=hce 0 _ rfl
       have e1:=hce 1 _ rfl
       have e2:=hce 2 _ rfl
       have e3:=hce 3 _ rfl
       have e4:=hce 4 _ rfl
       simp only[Nat.add_zero] at e0
       have hjl':=Zx hjl
       have hwj:=Zw j (j+1) (by omega) rfl
       obtain⟨j1,hj1⟩:∃m,j+1=m:=⟨_,rfl⟩
       have HJ1:=hD0 (aI0 hj1 hjl)
       rw[hj1] at hwj
       clear hj1 hjq hqc hrq hce hjl hR
       go_upto_region 16 with fail
       have hal:=Z5 wr (.cells #[.int .i64 r0,.int .i64 r1,.int .i64 r2,.int .i64 r3,.int .i64 r4] 47)
       have g10:Nw wr (wr.alloc (.cells #[.int .i64 r0,.int .i64 r1,.int .i64 r2,.int .i64 r3,.int .i64 r4] 47)):=(Nw.refl _).alloc _
       obtain⟨w10,hw10⟩:∃x,wr.alloc (.cells #[.int .i64 r0,.int .i64 r1,.int .i64 r2,.int .i64 r3,.int .i64 r4] 47)=x:=⟨_,rfl⟩
       obtain⟨B,hB⟩:∃x,wr.heap.size=x:=⟨_,rfl⟩
       rw[hw10,hB]
       rw[hw10,hB] at hal
       rw[hw10] at g10
       have D10:=hD0 (show ∀z,Nw w10 z→z.cell? ⟨B,1,none⟩=some (.int .i64 r1)∧z.cell? ⟨B,4,none⟩=some (.int .i64 r4)∧B<z.heap.size from fun z g=>⟨g.kp (Z2 (j:=1) hal),g.kp (Z2 (j:=4) hal),lL0 (hlt hal) g.sz⟩)
       have HGA:=hD0 (HJ.out.trans g10)
       have HG710:=hD0 (HG89.out.trans (HJ.out.trans g10))
       clear hw10 hB hal g10 e0 e1 e2 e3 e4 p0 p1 p2 p3 p4 hql HJ
       go_wp2_with fail
       go_loopw [9,10] (fun v9 v10 wr=>∃(i:Nat) (b:Bool),v9=.bool b∧v10=.int .i64 i∧i≤m∧Hid (b=Vq E r1 i∧Nw w10 wr)) (fun _ v10 _=>m-(intOf v10).toNat)
       case atStart=>exact⟨0,false,rfl,rfl,Nat.zero_le _,hD0 ⟨by simp[Vq],Nw.refl _⟩⟩
       case round =>
        obtain⟨i,b,rfl,rfl,hi,HB⟩:=hrel
        by_cases hil:i<m
        ·have hiE:i<E.length:=by rw[HM.out];exact hil
         rcases HD7.out with⟨e,_⟩ | ⟨eg,eu,rfl,hec⟩
         ·rw[e] at hiE;simp at hiE
         have hre:=hec.nw (HG710.out.trans HB.out.2)
         obtain⟨x0,x1⟩:=hre.eg hiE
         have hel:=hre.lt
         have hne:=HKK.out.self hiE
         have HAS:=hD0 (Z0l (t:=r1) hiE)
         obtain⟨s,hs⟩:∃s,E[i]=s:=⟨_,rfl⟩
         simp only[hs] at x0 x1 hne HAS
         obtain⟨ex,ey⟩:=s
         simp only at x0 x1 hne HAS
         obtain⟨y1,_,y3⟩:=D10.out wr HB.out.2
         have t0:∀z,Nw wr z→z.cell? ⟨eg,eu+i*2,none⟩=some (.int .i64 ex):=fun z g=>g.kp x0
         have t1:∀z,Nw wr z→z.cell? ⟨eg,eu+i*2+1,none⟩=some (.int .i64 ey):=fun z g=>g.kp x1
         have tr:∀z,Nw wr z→z.cell? ⟨B,1,none⟩=some (.int .i64 r1):=fun z g=>g.kp y1
         have hil':=Zx hil
         have hwi:=Zw i (i+1) (by omega) rfl
         obtain⟨i1,hi1⟩:∃m,i+1=m:=⟨_,rfl⟩
         have HI1:=hD0 (aI0 hi1 hil)
         rw[hi1] at hwi
         have HG10i:=hD0 HB.out.2
         have HBb:=hD0 HB.out.1
         clear hi1 hiE hec hre hil hs x0 x1 y1 HB
         cases b with
         | true =>
          have HB2:=hD0 (show true=Vq E r1 i1 from by rw[←HI1.out.1,HAS.out,←HBb.out];rfl)
          clear HBb HAS
          go_wp2_with fail
          refine Z6 [] (Nw wr) (by kernel_rfl) ?_
          change Z7 _ _ _ _ _ _ 12 #[false,false,false,false,false,false,false,false,false,false,false,false] _ wr.drew
          obtain⟨y4,hy4⟩:∃y,wr.drew=y:=⟨_,rfl⟩
          rw[hy4]
          have hS0:Nw wr y4:=by rw[←hy4];exact(Nw.refl wr).dr
          clear hy4
          refine Z0 0 rfl (by kernel_rfl) (by kernel_rfl) (by kernel_rfl) (fun v c a w h=>h) ?_
          (first | (refine⟨undef,Or.inr ⟨by rfl,rfl⟩,?_⟩) | (apply Exists.intro;refine⟨Or.inl ⟨by rfl,?_⟩,?_⟩;(intro x hx';go_simp;first | done | with_reducible rfl)))
          (try simp only[Act.put,List.getElem_toArray,List.getElem_cons_zero,List.getElem_cons_succ,List.setIfInBounds_toArray,List.set_cons_zero,List.set_cons_succ])
          refine Z0 1 rfl (by kernel_rfl) (by kernel_rfl) (by kernel_rfl) (fun v c a w h=>h) ?_
          (first | (refine⟨undef,Or.inr ⟨by rfl,rfl⟩,?_⟩) | (apply Exists.intro;refine⟨Or.inl ⟨by rfl,?_⟩,?_⟩;(intro x hx';go_simp;first | done | with_reducible rfl)))
          (try simp only[Act.put,List.getElem_toArray,List.getElem_cons_zero,List.getElem_cons_succ,List.setIfInBounds_toArray,List.set_cons_zero,List.set_cons_succ])
          refine Z0 2 rfl (by kernel_rfl) (by kernel_rfl) (by kernel_rfl) (fun v c a w h=>h) ?_
          (first | (refine⟨undef,Or.inr ⟨by rfl,rfl⟩,?_⟩) | (apply Exists.intro;refine⟨Or.inl ⟨by rfl,?_⟩,?_⟩;(intro x hx';go_simp;first | done | with_reducible rfl)))
          (try simp only[Act.put,List.getElem_toArray,List.getElem_cons_zero,List.getElem_cons_succ,List.setIfInBounds_toArray,List.set_cons_zero,List.set_cons_succ])
          refine Z0 3 rfl (by kernel_rfl) (by kernel_rfl) (by kernel_rfl) (fun v c a w h=>h) ?_
          (first | (refine⟨undef,Or.inr ⟨by rfl,rfl⟩,?_⟩) | (apply Exists.intro;refine⟨Or.inl ⟨by rfl,?_⟩,?_⟩;(intro x hx';go_simp;first | done | with_reducible rfl)))
          (try simp only[Act.put,List.getElem_toArray,List.getElem_cons_zero,List.getElem_cons_succ,List.setIfInBounds_toArray,List.set_cons_zero,List.set_cons_succ])
          refine Z0 4 rfl (by kernel_rfl) (by kernel_rfl) (by kernel_rfl) (fun v c a w h=>h) ?_
          (first | (refine⟨undef,Or.inr ⟨by rfl,rfl⟩,?_⟩) | (apply Exists.intro;refine⟨Or.inl ⟨by rfl,?_⟩,?_⟩;(intro x hx';go_simp;first | done | with_reducible rfl)))
          (try simp only[Act.put,List.getElem_toArray,List.getElem_cons_zero,List.getElem_cons_succ,List.setIfInBounds_toArray,List.set_cons_zero,List.set_cons_succ])
          refine Z0 5 rfl (by kernel_rfl) (by kernel_rfl) (by kernel_rfl) (fun v c a w h=>h) ?_
          (first | (refine⟨undef,Or.inr ⟨by rfl,rfl⟩,?_⟩) | (apply Exists.intro;refine⟨Or.inl ⟨by rfl,?_⟩,?_⟩;(intro x hx';go_simp;first | done | with_reducible rfl)))
          (try simp only[Act.put,List.getElem_toArray,List.getElem_cons_zero,List.getElem_cons_succ,List.setIfInBounds_toArray,List.set_cons_zero,List.set_cons_succ])
          refine Z1 6 rfl (by kernel_rfl) (by kernel_rfl) (by kernel_rfl) (by kernel_rfl) (fun v c a w h=>h) hS0 ?_
          (first | (refine⟨undef,Or.inr ⟨by rfl,rfl⟩,?_⟩) | (apply Exists.intro;refine⟨Or.inl ⟨by rfl,?_⟩,?_⟩;(intro x hx';go_simp;first | done | with_reducible rfl)))
          (try simp only[Act.put,List.getElem_toArray,List.getElem_cons_zero,List.getElem_cons_succ,List.setIfInBounds_toArray,List.set_cons_zero,List.set_cons_succ])
          refine Z0 7 rfl (by kernel_rfl) (by kernel_rfl) (by kernel_rfl) (fun v c a w h=>h) ?_
          (first | (refine⟨undef,Or.inr ⟨by rfl,rfl⟩,?_⟩) | (apply Exists.intro;refine⟨Or.inl ⟨by rfl,?_⟩,?_⟩;(intro x hx';go_simp;first | done | with_reducible rfl)))
          (try simp only[Act.put,List.getElem_toArray,List.getElem_cons_zero,List.getElem_cons_succ,List.setIfInBounds_toArray,List.set_cons_zero,List.set_cons_succ])
          refine Z1 8 rfl (by kernel_rfl) (by kernel_rfl) (by kernel_rfl) (by kernel_rfl) (fun v c a w h=>h) hS0 ?_
          (first | (refine⟨undef,Or.inr ⟨by rfl,rfl⟩,?_⟩) | (apply Exists.intro;refine⟨Or.inl ⟨by rfl,?_⟩,?_⟩;(intro x hx';go_simp;first | done | with_reducible rfl)))
          (try simp only[Act.put,List.getElem_toArray,List.getElem_cons_zero,List.getElem_cons_succ,List.setIfInBounds_toArray,List.set_cons_zero,List.set_cons_succ])
          refine Z0 9 rfl (by kernel_rfl) (by kernel_rfl) (by kernel_rfl) (fun v c a w h=>h) ?_
          (first | (refine⟨undef,Or.inr ⟨by rfl,rfl⟩,?_⟩) | (apply Exists.intro;refine⟨Or.inl ⟨by rfl,?_⟩,?_⟩;(intro x hx';go_simp;first | done | with_reducible rfl)))
          (try simp only[Act.put,List.getElem_toArray,List.getElem_cons_zero,List.getElem_cons_succ,List.setIfInBounds_toArray,List.set_cons_zero,List.set_cons_succ])
          refine Z0 10 rfl (by kernel_rfl) (by kernel_rfl) (by kernel_rfl) (fun v c a w h=>h) ?_
          (first | (refine⟨undef,Or.inr ⟨by rfl,rfl⟩,?_⟩) | (apply Exists.intro;refine⟨Or.inl ⟨by rfl,?_⟩,?_⟩;(intro x hx';go_simp;first | done | with_reducible rfl)))
          (try simp only[Act.put,List.getElem_toArray,List.getElem_cons_zero,List.getElem_cons_succ,List.setIfInBounds_toArray,List.set_cons_zero,List.set_cons_succ])
          refine Z0 11 rfl (by kernel_rfl) (by kernel_rfl) (by kernel_rfl) (fun v c a w h=>h) ?_
          (first | (refine⟨undef,Or.inr ⟨by rfl,rfl⟩,?_⟩) | (apply Exists.intro;refine⟨Or.inl ⟨by rfl,?_⟩,?_⟩;(intro x hx';go_simp;first | done | with_reducible rfl)))
          (try simp only[Act.put,List.getElem_toArray,List.getElem_cons_zero,List.getElem_cons_succ,List.setIfInBounds_toArray,List.set_cons_zero,List.set_cons_succ])
          refine Z3 (by kernel_rfl) ?_ _
          refine NoPanic.normal ?_
          (try simp only[Act.put,List.getElem_toArray,List.getElem_cons_zero,List.getElem_cons_succ,List.setIfInBounds_toArray,List.set_cons_zero,List.set_cons_succ])
          have HS4:=hD0 hS0
          clear hS0
          go_wp2_with fail
          refine Z6 [] (Nw wr) (by kernel_rfl) ?_
          change Z7 _ _ _ _ _ _ 11 #[false,false,false,false,false,false,false,false,false,false,false] _ y4.drew
          obtain⟨y5,hy5⟩:∃y,y4.drew=y:=⟨_,rfl⟩
          rw[hy5]
          have hS0:Nw wr y5:=by rw[←hy5];exact HS4.out.dr
          clear hy5
          refine Z0 0 rfl (by kernel_rfl) (by kernel_rfl) (by kernel_rfl) (fun v c a w h=>h) ?_
          (first | (refine⟨undef,Or.inr ⟨by rfl,rfl⟩,?_⟩) | (apply Exists.intro;refine⟨Or.inl ⟨by rfl,?_⟩,?_⟩;(intro x hx';go_simp;first | done | with_reducible rfl)))
          (try simp only[Act.put,List.getElem_toArray,List.getElem_cons_zero,List.getElem_cons_succ,List.setIfInBounds_toArray,List.set_cons_zero,List.set_cons_succ])
          refine Z0 1 rfl (by kernel_rfl) (by kernel_rfl) (by kernel_rfl) (fun v c a w h=>h) ?_
          (first | (refine⟨undef,Or.inr ⟨by rfl,rfl⟩,?_⟩) | (apply Exists.intro;refine⟨Or.inl ⟨by rfl,?_⟩,?_⟩;(intro x hx';go_simp;first | done | with_reducible rfl)))
          (try simp only[Act.put,List.getElem_toArray,List.getElem_cons_zero,List.getElem_cons_succ,List.setIfInBounds_toArray,List.set_cons_zero,List.set_cons_succ])
          refine Z0 2 rfl (by kernel_rfl) (by kernel_rfl) (by kernel_rfl) (fun v c a w h=>h) ?_
          (first | (refine⟨undef,Or.inr ⟨by rfl,rfl⟩,?_⟩) | (apply Exists.intro;refine⟨Or.inl ⟨by rfl,?_⟩,?_⟩;(intro x hx';go_simp;first | done | with_reducible rfl)))
          (try simp only[Act.put,List.getElem_toArray,List.getElem_cons_zero,List.getElem_cons_succ,List.setIfInBounds_toArray,List.set_cons_zero,List.set_cons_succ])
          refine Z0 3 rfl (by kernel_rfl) (by kernel_rfl) (by kernel_rfl) (fun v c a w h=>h) ?_
          (first | (refine⟨undef,Or.inr ⟨by rfl,rfl⟩,?_⟩) | (apply Exists.intro;refine⟨Or.inl ⟨by rfl,?_⟩,?_⟩;(intro x hx';go_simp;first | done | with_reducible rfl)))
          (try simp only[Act.put,List.getElem_toArray,List.getElem_cons_zero,List.getElem_cons_succ,List.setIfInBounds_toArray,List.set_cons_zero,List.set_cons_succ])
          refine Z1 4 rfl (by kernel_rfl) (by kernel_rfl) (by kernel_rfl) (by kernel_rfl) (fun v c a w h=>h) hS0 ?_
          (first | (refine⟨undef,Or.inr ⟨by rfl,rfl⟩,?_⟩) | (apply Exists.intro;refine⟨Or.inl ⟨by rfl,?_⟩,?_⟩;(intro x hx';go_simp;first | done | with_reducible rfl)))
          (try simp only[Act.put,List.getElem_toArray,List.getElem_cons_zero,List.getElem_cons_succ,List.setIfInBounds_toArray,List.set_cons_zero,List.set_cons_succ])
          refine Z0 5 rfl (by kernel_rfl) (by kernel_rfl) (by kernel_rfl) (fun v c a w h=>h) ?_
          (first | (refine⟨undef,Or.inr ⟨by rfl,rfl⟩,?_⟩) | (apply Exists.intro;refine⟨Or.inl ⟨by rfl,?_⟩,?_⟩;(intro x hx';go_simp;first | done | with_reducible rfl)))
          (try simp only[Act.put,List.getElem_toArray,List.getElem_cons_zero,List.getElem_cons_succ,List.setIfInBounds_toArray,List.set_cons_zero,List.set_cons_succ])
          refine Z0 6 rfl (by kernel_rfl) (by kernel_rfl) (by kernel_rfl) (fun v c a w h=>h) ?_
          (first | (refine⟨undef,Or.inr ⟨by rfl,rfl⟩,?_⟩) | (apply Exists.intro;refine⟨Or.inl ⟨by rfl,?_⟩,?_⟩;(intro x hx';go_simp;first | done | with_reducible rfl)))
          (try simp only[Act.put,List.getElem_toArray,List.getElem_cons_zero,List.getElem_cons_succ,List.setIfInBounds_toArray,List.set_cons_zero,List.set_cons_succ])
          refine Z0 7 rfl (by kernel_rfl) (by kernel_rfl) (by kernel_rfl) (fun v c a w h=>h) ?_
          (first | (refine⟨undef,Or.inr ⟨by rfl,rfl⟩,?_⟩) | (apply Exists.intro;refine⟨Or.inl ⟨by rfl,?_⟩,?_⟩;(intro x hx';go_simp;first | done | with_reducible rfl)))
          (try simp only[Act.put,List.getElem_toArray,List.getElem_cons_zero,List.getElem_cons_succ,List.setIfInBounds_toArray,List.set_cons_zero,List.set_cons_succ])
          refine Z0 8 rfl (by kernel_rfl) (by kernel_rfl) (by kernel_rfl) (fun v c a w h=>h) ?_
          (first | (refine⟨undef,Or.inr ⟨by rfl,rfl⟩,?_⟩) | (apply Exists.intro;refine⟨Or.inl ⟨by rfl,?_⟩,?_⟩;(intro x hx';go_simp;first | done | with_reducible rfl)))
          (try simp only[Act.put,List.getElem_toArray,List.getElem_cons_zero,List.getElem_cons_succ,List.setIfInBounds_toArray,List.set_cons_zero,List.set_cons_succ])
          refine Z1 9 rfl (by kernel_rfl) (by kernel_rfl) (by kernel_rfl) (by kernel_rfl) (fun v c a w h=>h) hS0 ?_
          (first | (refine⟨undef,Or.inr ⟨by rfl,rfl⟩,?_⟩) | (apply Exists.intro;refine⟨Or.inl ⟨by rfl,?_⟩,?_⟩;(intro x hx';go_simp;first | done | with_reducible rfl)))
          (try simp only[Act.put,List.getElem_toArray,List.getElem_cons_zero,List.getElem_cons_succ,List.setIfInBounds_toArray,List.set_cons_zero,List.set_cons_succ])
          refine Z0 10 rfl (by kernel_rfl) (by kernel_rfl) (by kernel_rfl) (fun v c a w h=>h) ?_
          (first | (refine⟨undef,Or.inr ⟨by rfl,rfl⟩,?_⟩) | (apply Exists.intro;refine⟨Or.inl ⟨by rfl,?_⟩,?_⟩;(intro x hx';go_simp;first | done | with_reducible rfl)))
          (try simp only[Act.put,List.getElem_toArray,List.getElem_cons_zero,List.getElem_cons_succ,List.setIfInBounds_toArray,List.set_cons_zero,List.set_cons_succ])
          refine Z3 (by kernel_rfl) ?_ _
          refine NoPanic.normal ?_
          (try simp only[Act.put,List.getElem_toArray,List.getElem_cons_zero,List.getElem_cons_succ,List.setIfInBounds_toArray,List.set_cons_zero,List.set_cons_succ])
          have HS5:=hD0 hS0
          clear hS0 t0 t1 tr
          go_wp2_with fail
          exact⟨⟨i1,true,rfl,rfl,by rw[←HI1.out.1];exact HI1.out.2,hD0 ⟨HB2.out,HG10i.out.trans HS5.out⟩⟩,by rw[←HI1.out.1];exact Y1 HI1.out.2⟩
         | false =>
          obtain⟨b2,hb2⟩:∃b2,(ex==r1)=b2:=⟨_,rfl⟩
          have HB2:=hD0 (show b2=Vq E r1 i1 from by rw[←HI1.out.1,HAS.out,←HBb.out,hb2];rfl)
          clear HBb HAS
          go_wp2_with fail
          refine Z6 [] (Nw wr) (by kernel_rfl) ?_
          change Z7 _ _ _ _ _ _ 12 #[false,false,false,false,false,false,false,false,false,false,false,false] _ wr.drew
          obtain⟨y4,hy4⟩:∃y,wr.drew=y:=⟨_,rfl⟩
          rw[hy4]
          have hS0:Nw wr y4:=by rw[←hy4];exact(Nw.refl wr).dr
          clear hy4
          refine Z0 0 rfl (by kernel_rfl) (by kernel_rfl) (by kernel_rfl) (fun v c a w h=>h) ?_
          (first | (refine⟨undef,Or.inr ⟨by rfl,rfl⟩,?_⟩) | (apply Exists.intro;refine⟨Or.inl ⟨by rfl,?_⟩,?_⟩;(intro x hx';go_simp;first | done | with_reducible rfl)))
          (try simp only[Act.put,List.getElem_toArray,List.getElem_cons_zero,List.getElem_cons_succ,List.setIfInBounds_toArray,List.set_cons_zero,List.set_cons_succ])
          refine Z0 1 rfl (by kernel_rfl) (by kernel_rfl) (by kernel_rfl) (fun v c a w h=>h) ?_
          (first | (refine⟨undef,Or.inr ⟨by rfl,rfl⟩,?_⟩) | (apply Exists.intro;refine⟨Or.inl ⟨by rfl,?_⟩,?_⟩;(intro x hx';go_simp;first | done | with_reducible rfl)))
          (try simp only[Act.put,List.getElem_toArray,List.getElem_cons_zero,List.getElem_cons_succ,List.setIfInBounds_toArray,List.set_cons_zero,List.set_cons_succ])
          refine Z0 2 rfl (by kernel_rfl) (by kernel_rfl) (by kernel_rfl) (fun v c a w h=>h) ?_
          (first | (refine⟨undef,Or.inr ⟨by rfl,rfl⟩,?_⟩) | (apply Exists.intro;refine⟨Or.inl ⟨by rfl,?_⟩,?_⟩;(intro x hx';go_simp;first | done | with_reducible rfl)))
          (try simp only[Act.put,List.getElem_toArray,List.getElem_cons_zero,List.getElem_cons_succ,List.setIfInBounds_toArray,List.set_cons_zero,List.set_cons_succ])
          refine Z0 3 rfl (by kernel_rfl) (by kernel_rfl) (by kernel_rfl) (fun v c a w h=>h) ?_
          (first | (refine⟨undef,Or.inr ⟨by rfl,rfl⟩,?_⟩) | (apply Exists.intro;refine⟨Or.inl ⟨by rfl,?_⟩,?_⟩;(intro x hx';go_simp;first | done | with_reducible rfl)))
          (try simp only[Act.put,List.getElem_toArray,List.getElem_cons_zero,List.getElem_cons_succ,List.setIfInBounds_toArray,List.set_cons_zero,List.set_cons_succ])
          refine Z0 4 rfl (by kernel_rfl) (by kernel_rfl) (by kernel_rfl) (fun v c a w h=>h) ?_
          (first | (refine⟨undef,Or.inr ⟨by rfl,rfl⟩,?_⟩) | (apply Exists.intro;refine⟨Or.inl ⟨by rfl,?_⟩,?_⟩;(intro x hx';go_simp;first | done | with_reducible rfl)))
          (try simp only[Act.put,List.getElem_toArray,List.getElem_cons_zero,List.getElem_cons_succ,List.setIfInBounds_toArray,List.set_cons_zero,List.set_cons_succ])
          refine Z0 5 rfl (by kernel_rfl) (by kernel_rfl) (by kernel_rfl) (fun v c a w h=>h) ?_
          (first | (refine⟨undef,Or.inr ⟨by rfl,rfl⟩,?_⟩) | (apply Exists.intro;refine⟨Or.inl ⟨by rfl,?_⟩,?_⟩;(intro x hx';go_simp;first | done | with_reducible rfl)))
          (try simp only[Act.put,List.getElem_toArray,List.getElem_cons_zero,List.getElem_cons_succ,List.setIfInBounds_toArray,List.set_cons_zero,List.set_cons_succ])
          refine Z1 6 rfl (by kernel_rfl) (by kernel_rfl) (by kernel_rfl) (by kernel_rfl) (fun v c a w h=>h) hS0 ?_
          (first | (refine⟨undef,Or.inr ⟨by rfl,rfl⟩,?_⟩) | (apply Exists.intro;refine⟨Or.inl ⟨by rfl,?_⟩,?_⟩;(intro x hx';go_simp;first | done | with_reducible rfl)))
          (try simp only[Act.put,List.getElem_toArray,List.getElem_cons_zero,List.getElem_cons_succ,List.setIfInBounds_toArray,List.set_cons_zero,List.set_cons_succ])
          refine Z0 7 rfl (by kernel_rfl) (by kernel_rfl) (by kernel_rfl) (fun v c a w h=>h) ?_
          (first | (refine⟨undef,Or.inr ⟨by rfl,rfl⟩,?_⟩) | (apply Exists.intro;refine⟨Or.inl ⟨by rfl,?_⟩,?_⟩;(intro x hx';go_simp;first | done | with_reducible rfl)))
          (try simp only[Act.put,List.getElem_toArray,List.getElem_cons_zero,List.getElem_cons_succ,List.setIfInBounds_toArray,List.set_cons_zero,List.set_cons_succ])
          refine Z1 8 rfl (by kernel_rfl) (by kernel_rfl) (by kernel_rfl) (by kernel_rfl) (fun v c a w h=>h) hS0 ?_
          (first | (refine⟨undef,Or.inr ⟨by rfl,rfl⟩,?_⟩) | (apply Exists.intro;refine⟨Or.inl ⟨by rfl,?_⟩,?_⟩;(intro x hx';go_simp;first | done | with_reducible rfl)))
          (try simp only[Act.put,List.getElem_toArray,List.getElem_cons_zero,List.getElem_cons_succ,List.setIfInBounds_toArray,List.set_cons_zero,List.set_cons_succ])
          refine Z0 9 rfl (by kernel_rfl) (by kernel_rfl) (by kernel_rfl) (fun v c a w h=>h) ?_
          (first | (refine⟨undef,Or.inr ⟨by rfl,rfl⟩,?_⟩) | (apply Exists.intro;refine⟨Or.inl ⟨by rfl,?_⟩,?_⟩;(intro x hx';go_simp;first | done | with_reducible rfl)))
          (try simp only[Act.put,List.getElem_toArray,List.getElem_cons_zero,List.getElem_cons_succ,List.setIfInBounds_toArray,List.set_cons_zero,List.set_cons_succ])
          refine Z0 10 rfl (by kernel_rfl) (by kernel_rfl) (by kernel_rfl) (fun v c a w h=>h) ?_
          (first | (refine⟨undef,Or.inr ⟨by rfl,rfl⟩,?_⟩) | (apply Exists.intro;refine⟨Or.inl ⟨by rfl,?_⟩,?_⟩;(intro x hx';go_simp;first | done | with_reducible rfl)))
          (try simp only[Act.put,List.getElem_toArray,List.getElem_cons_zero,List.getElem_cons_succ,List.setIfInBounds_toArray,List.set_cons_zero,List.set_cons_succ])
          refine Z0 11 rfl (by kernel_rfl) (by kernel_rfl) (by kernel_rfl) (fun v c a w h=>h) ?_
          (first | (refine⟨undef,Or.inr ⟨by rfl,rfl⟩,?_⟩) | (apply Exists.intro;refine⟨Or.inl ⟨by rfl,?_⟩,?_⟩;(intro x hx';go_simp;first | done | with_reducible rfl)))
          (try simp only[Act.put,List.getElem_toArray,List.getElem_cons_zero,List.getElem_cons_succ,List.setIfInBounds_toArray,List.set_cons_zero,List.set_cons_succ])
          refine Z3 (by kernel_rfl) ?_ _
          refine NoPanic.normal ?_
          (try simp only[Act.put,List.getElem_toArray,List.getElem_cons_zero,List.getElem_cons_succ,List.setIfInBounds_toArray,List.set_cons_zero,List.set_cons_succ])
          have HS4:=hD0 hS0
          clear hS0
          go_wp2_with fail
          refine Z6 [] (Nw wr) (by kernel_rfl) ?_
          change Z7 _ _ _ _ _ _ 11 #[false,false,false,false,false,false,false,false,false,false,false] _ y4.drew
          obtain⟨y5,hy5⟩:∃y,y4.drew=y:=⟨_,rfl⟩
          rw[hy5]
          have hS0:Nw wr y5:=by rw[←hy5];exact HS4.out.dr
          clear hy5
          refine Z0 0 rfl (by kernel_rfl) (by kernel_rfl) (by kernel_rfl) (fun v c a w h=>h) ?_
          (first | (refine⟨undef,Or.inr ⟨by rfl,rfl⟩,?_⟩) | (apply Exists.intro;refine⟨Or.inl ⟨by rfl,?_⟩,?_⟩;(intro x hx';go_simp;first | done | with_reducible rfl)))
          (try simp only[Act.put,List.getElem_toArray,List.getElem_cons_zero,List.getElem_cons_succ,List.setIfInBounds_toArray,List.set_cons_zero,List.set_cons_succ])
          refine Z0 1 rfl (by kernel_rfl) (by kernel_rfl) (by kernel_rfl) (fun v c a w h=>h) ?_
          (first | (refine⟨undef,Or.inr ⟨by rfl,rfl⟩,?_⟩) | (apply Exists.intro;refine⟨Or.inl ⟨by rfl,?_⟩,?_⟩;(intro x hx';go_simp;first | done | with_reducible rfl)))
          (try simp only[Act.put,List.getElem_toArray,List.getElem_cons_zero,List.getElem_cons_succ,List.setIfInBounds_toArray,List.set_cons_zero,List.set_cons_succ])
          refine Z0 2 rfl (by kernel_rfl) (by kernel_rfl) (by kernel_rfl) (fun v c a w h=>h) ?_
          (first | (refine⟨undef,Or.inr ⟨by rfl,rfl⟩,?_⟩) | (apply Exists.intro;refine⟨Or.inl ⟨by rfl,?_⟩,?_⟩;(intro x hx';go_simp;first | done | with_reducible rfl)))
          (try simp only[Act.put,List.getElem_toArray,List.getElem_cons_zero,List.getElem_cons_succ,List.setIfInBounds_toArray,List.set_cons_zero,List.set_cons_succ])
          refine Z0 3 rfl (by kernel_rfl) (by kernel_rfl) (by kernel_rfl) (fun v c a w h=>h) ?_
          (first | (refine⟨undef,Or.inr ⟨by rfl,rfl⟩,?_⟩) | (apply Exists.intro;refine⟨Or.inl ⟨by rfl,?_⟩,?_⟩;(intro x hx';go_simp;first | done | with_reducible rfl)))
          (try simp only[Act.put,List.getElem_toArray,List.getElem_cons_zero,List.getElem_cons_succ,List.setIfInBounds_toArray,List.set_cons_zero,List.set_cons_succ])
          refine Z1 4 rfl (by kernel_rfl) (by kernel_rfl) (by kernel_rfl) (by kernel_rfl) (fun v c a w h=>h) hS0 ?_
          (first | (refine⟨undef,Or.inr ⟨by rfl,rfl⟩,?_⟩) | (apply Exists.intro;refine⟨Or.inl ⟨by rfl,?_⟩,?_⟩;(intro x hx';go_simp;first | done | with_reducible rfl)))
          (try simp only[Act.put,List.getElem_toArray,List.getElem_cons_zero,List.getElem_cons_succ,List.setIfInBounds_toArray,List.set_cons_zero,List.set_cons_succ])
          refine Z0 5 rfl (by kernel_rfl) (by kernel_rfl) (by kernel_rfl) (fun v c a w h=>h) ?_
          (first | (refine⟨undef,Or.inr ⟨by rfl,rfl⟩,?_⟩) | (apply Exists.intro;refine⟨Or.inl ⟨by rfl,?_⟩,?_⟩;(intro x hx';go_simp;first | done | with_reducible rfl)))
          (try simp only[Act.put,List.getElem_toArray,List.getElem_cons_zero,List.getElem_cons_succ,List.setIfInBounds_toArray,List.set_cons_zero,List.set_cons_succ])
          refine Z0 6 rfl (by kernel_rfl) (by kernel_rfl) (by kernel_rfl) (fun v c a w h=>h) ?_
          (first | (refine⟨undef,Or.inr ⟨by rfl,rfl⟩,?_⟩) | (apply Exists.intro;refine⟨Or.inl ⟨by rfl,?_⟩,?_⟩;(intro x hx';go_simp;first | done | with_reducible rfl)))
          (try simp only[Act.put,List.getElem_toArray,List.getElem_cons_zero,List.getElem_cons_succ,List.setIfInBounds_toArray,List.set_cons_zero,List.set_cons_succ])
          refine Z0 7 rfl (by kernel_rfl) (by kernel_rfl) (by kernel_rfl) (fun v c a w h=>h) ?_
          (first | (refine⟨undef,Or.inr ⟨by rfl,rfl⟩,?_⟩) | (apply Exists.intro;refine⟨Or.inl ⟨by rfl,?_⟩,?_⟩;(intro x hx';go_simp;first | done | with_reducible rfl)))
          (try simp only[Act.put,List.getElem_toArray,List.getElem_cons_zero,List.getElem_cons_succ,List.setIfInBounds_toArray,List.set_cons_zero,List.set_cons_succ])
          refine Z0 8 rfl (by kernel_rfl) (by kernel_rfl) (by kernel_rfl) (fun v c a w h=>h) ?_
          (first | (refine⟨undef,Or.inr ⟨by rfl,rfl⟩,?_⟩) | (apply Exists.intro;refine⟨Or.inl ⟨by rfl,?_⟩,?_⟩;(intro x hx';go_simp;first | done | with_reducible rfl)))
          (try simp only[Act.put,List.getElem_toArray,List.getElem_cons_zero,List.getElem_cons_succ,List.setIfInBounds_toArray,List.set_cons_zero,List.set_cons_succ])
          refine Z1 9 rfl (by kernel_rfl) (by kernel_rfl) (by kernel_rfl) (by kernel_rfl) (fun v c a w h=>h) hS0 ?_
          (first | (refine⟨undef,Or.inr ⟨by rfl,rfl⟩,?_⟩) | (apply Exists.intro;refine⟨Or.inl ⟨by rfl,?_⟩,?_⟩;(intro x hx';go_simp;first | done | with_reducible rfl)))
          (try simp only[Act.put,List.getElem_toArray,List.getElem_cons_zero,List.getElem_cons_succ,List.setIfInBounds_toArray,List.set_cons_zero,List.set_cons_succ])
          refine Z0 10 rfl (by kernel_rfl) (by kernel_rfl) (by kernel_rfl) (fun v c a w h=>h) ?_
          (first | (refine⟨undef,Or.inr ⟨by rfl,rfl⟩,?_⟩) | (apply Exists.intro;refine⟨Or.inl ⟨by rfl,?_⟩,?_⟩;(intro x hx';go_simp;first | done | with_reducible rfl)))
          (try simp only[Act.put,List.getElem_toArray,List.getElem_cons_zero,List.getElem_cons_succ,List.setIfInBounds_toArray,List.set_cons_zero,List.set_cons_succ])
          refine Z3 (by kernel_rfl) ?_ _
          refine NoPanic.normal ?_
          (try simp only[Act.put,List.getElem_toArray,List.getElem_cons_zero,List.getElem_cons_succ,List.setIfInBounds_toArray,List.set_cons_zero,List.set_cons_succ])
          have HS5:=hD0 hS0
          clear hS0 t0 t1 tr
          go_wp2_with fail
          exact⟨⟨i1,b2,rfl,rfl,by rw[←HI1.out.1];exact HI1.out.2,hD0 ⟨HB2.out,HG10i.out.trans HS5.out⟩⟩,by rw[←HI1.out.1];exact Y1 HI1.out.2⟩
        ·obtain rfl:i=m:=Nat.le_antisymm hi (Nat.le_of_not_lt hil)
         have hil':¬i<i:=Nat.lt_irrefl i
         have dS:decide (0<r4)=b:=by rw[HB.out.1];exact HSm.out.symm
         have hbb:(b != b)=false:=by cases b<;>rfl
         obtain⟨_,y2,y3⟩:=D10.out wr HB.out.2
         have HGB:=hD0 (HGA.out.trans HB.out.2)
         clear hil HB
         go_wp2_with fail
         exact⟨⟨j1,rfl,by rw[←HJ1.out.1];exact HJ1.out.2,HGB⟩,by rw[←HJ1.out.1];exact Y1 HJ1.out.2⟩
      ·obtain rfl:j=n:=Nat.le_antisymm hj (Nat.le_of_not_lt hjl)
       have hjl':¬j<j:=Nat.lt_irrefl j
       have HGE:=hD0 (HGW.out.trans (HG5.out.trans (HG59.out.trans HJ.out)))
       clear hjl
       go_wp2_with fail
       exact⟨⟨k1,rfl,by rw[←HK1.out.1];exact HK1.out.2,HGE⟩,by rw[←HK1.out.1];exact Y1 HK1.out.2⟩
   ·obtain rfl:k=len0:=Nat.le_antisymm hk (Nat.le_of_not_lt hlt)
    have Yc:¬k<k:=Nat.lt_irrefl k
    clear hlt
    go_wp2_with fail
    go_ret
    exact⟨rfl,HI.out⟩
theorem waitsHeads_law(a0:Option Addr)(len0 cap0:Nat)(l:List Hv)(W:World)(h:HdsIn W a0 len0 cap0 l) :
  Calls prog 5 #[.slice a0 len0 cap0] W fun e W'=>e=.returned (.bool true)∧Below W.heap.size W W':=Z4b a0 len0 cap0 l W h
end Go.Proofs.Ytobnolgphljoeaa
