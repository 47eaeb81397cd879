/- Texts merged: QwB, WdH, QvT, QvU, WdJ, QuU, WdK, WdL, WdM, WcB -/
import Derived.Test.YtobnolgphljoeaaWaitsHeadsB6
import Derived.ChangeOld
import Derived.Below
import Derived.Deep.Slices
import Derived.Deep.Fields
import Derived.ChangeSame
import Derived.Lib.SmallJoins
set_option linter.unusedVariables false
set_option maxRecDepth 100000
set_option maxHeartbeats 16000000
namespace Go.Proofs.Ytobnolgphljoeaa
open Go.RowKit _root_.Go.Proofs.Try
def bkC(S R:Rq):Bool:=!(R.id==S.id)&&((decide (0<R.sn)&&decide (toI R S<0)) || !Ys R.md S.wt)
def bkT(q:List Rq)(S:Rq)(k:Nat):List Int:=((q.take k).filter (bkC S)).map fun R=>R.txn
theorem Z52(q:List Rq)(S:Rq)(k:Nat)(hk:k<q.length):bkT q S (k+1)=if bkC S q[k]=true then bkT q S k++[q[k].txn] else bkT q S k:=by
 unfold bkT
 rw[List.take_add_one,List.getElem?_eq_getElem hk,List.filter_append,List.map_append]
 by_cases e:bkC S q[k]=true
 ·rw[if_pos e];simp[e]
 ·rw[if_neg e];simp at e;simp[e]
theorem Ua(q:List Rq)(S:Rq)(k:Nat):(bkT q S k).length≤q.length:=by
 unfold bkT
 rw[List.length_map]
 exact Nat.le_trans (List.length_filter_le _ _) (by rw[List.length_take];omega)
theorem Z53{W:Int}{q:List Rq}(h:Ok W q){S R:Rq}(hS:S∈q)(hR:R∈q)(hw:0<S.sn)(ne:R.id≠S.id):bkC S R=blk S R:=by
 have h1:=h.rt R hR
 have h2:=h.rt S hS
 have hz:R.md=0→0<R.sn:=fun e=>by
  rcases Int.lt_or_eq_of_le h1.s0 with g | g
  ·exact g
  ·exact absurd e (h1.h g.symm).1
 have hc0:R.md=0→Ys R.md S.wt=true:=fun e=>by rw[e];exact Z74 _ h2.wt
 unfold bkC blk
 rw[Bool.eq_iff_iff]
 simp only[Bool.and_eq_true,Bool.or_eq_true,Bool.not_eq_true',beq_eq_false_iff_ne,ne_eq,decide_eq_true_eq,bne_iff_ne,beq_iff_eq,Z40]
 constructor
 ·rintro⟨_,⟨a,b | b⟩ | b⟩
  ·exact .inl (.inr ⟨⟨b.1,a⟩,.inl b.2⟩)
  ·by_cases e:R.md=0
   ·exact .inr ⟨⟨b.1.1 e,e⟩,b.2⟩
   ·exact .inl (.inr ⟨⟨e,a⟩,.inr b.2⟩)
  ·by_cases e:R.md=0
   ·rw[hc0 e] at b;cases b
   ·exact .inl (.inl ⟨e,b⟩)
 ·rintro((⟨a,b⟩ | ⟨⟨a,b⟩,c⟩) | ⟨⟨a,b⟩,c⟩)
  ·exact⟨ne,.inr b⟩
  ·refine⟨ne,.inl ⟨b,?_⟩⟩
   by_cases e:S.md=0
   ·exact .inl ⟨a,e⟩
   ·rcases c with c | c
    ·exact absurd c e
    ·exact .inr ⟨by simp[a,e],c⟩
  ·exact⟨ne,.inl ⟨hz b,.inr ⟨by simp[a,b],c⟩⟩⟩
theorem Z8k{W:Int}{q:List Rq}(h:Ok W q){S:Rq}(hS:S∈q)(hw:0<S.sn):Lib.compact ((bkT q S q.length).mergeSort fun x y=>decide (x≤y))=Un q S:=by
 obtain⟨h1,h2⟩:=Z2v (bkT q S q.length)
 refine Z0b h1 (Vz q S) (fun x=>?_)
 rw[h2 x,Yl]
 unfold bkT
 rw[List.take_of_length_le (Nat.le_refl _),List.mem_map]
 constructor
 ·rintro⟨R,hR,e⟩
  obtain⟨hR,hc⟩:=List.mem_filter.1 hR
  have ne:R.id≠S.id:=by unfold bkC at hc;simp at hc;exact hc.1
  exact⟨R,hR,ne,by rw[←Z53 h hS hR hw ne];exact hc,e⟩
 ·rintro⟨R,hR,ne,hc,e⟩
  exact⟨R,List.mem_filter.2 ⟨hR,by rw[Z53 h hS hR hw ne];exact hc⟩,e⟩
theorem Z46(t r W id:Int)(v:Value)(q:List Rq)(w:World)(hl:q.length≤1000)(hok:Ok W q)(h:Yg w v q) :
  Calls prog 38 #[Vi t r v W,.int .i64 id] w fun e w'=>∃v',e=.returned v'∧Nw w w'∧IS w' v' (V8 q id):=by
 have HOk:=hD0 hok
 have HAt:=hD0 h
 clear hok
 obtain⟨X,hX⟩:∃X,V8 q id=X:=⟨_,rfl⟩
 rw[hX]
 have HFq:=hD0 (fun(z:World) (g:Nw w z)=>Z8o t r W id v q z hl (h.nw g))
 obtain⟨a,c,rfl,_⟩:=h
 unfold Vi at HFq ⊢
 have hx1:=Z5 w (.cells #[.int .i64 t,.int .i64 r,.slice a q.length c,.int .i64 W] 40)
 have hN:Nw w (w.alloc (.cells #[.int .i64 t,.int .i64 r,.slice a q.length c,.int .i64 W] 40)):=(Nw.refl w).alloc _
 obtain⟨w1,hw1⟩:∃w1,w.alloc (.cells #[.int .i64 t,.int .i64 r,.slice a q.length c,.int .i64 W] 40)=w1:=⟨_,rfl⟩
 rw[hw1] at hx1 hN
 have HW1:=hD0 hw1
 have HB:=hD0 (aI0 hx1 hN)
 have HFq1:=hD0 (HFq.out w1 hN)
 have c0:=Z2 (j:=0) hx1
 have c1:=Z2 (j:=1) hx1
 have c2:=Z2 (j:=2) hx1
 have c3:=Z2 (j:=3) hx1
 have hpl:=hlt hx1
 clear hw1 hx1 hN HFq
 unfold Z2y at HFq1
 cases hf:fnd q id with
 | none =>
  rw[hf] at HFq1
  simp only at HFq1
  have hR:=hX.symm.trans (show V8 q id=[] by unfold V8;rw[hf])
  subst hR
  unfold Uk at HFq1
  clear hX hf
  go_enter func38,ntmps38
  go_wp2_with fail
  rw[HW1.out]
  go_wp2_with fail
  go_at_call 55
  refine HFq1.out.mono ?_
  rintro e w2 ⟨rfl,g2⟩
  have HG:=hD0 (HB.out.2.trans g2)
  clear c0 c1 c2 c3 hpl g2 HFq1
  go_wp2
  go_ret
  exact⟨_,rfl,HG.out.alloc _,IS.nil _⟩
 | some S =>
  rw[hf] at HFq1
  simp only at HFq1
  have hS:=(Z5o hf).1
  have hSi:=(Z5o hf).2
  have hX1:¬0<S.sn→X=[]:=fun s=>hX.symm.trans (by unfold V8;rw[hf];exact if_neg s)
  have hX2:0<S.sn→X=Un q S:=fun s=>hX.symm.trans (by unfold V8;rw[hf];exact if_pos s)
  have HX1:=hD0 hX1
  have HX2:=hD0 hX2
  have HSq:=hD0 (aI0 hS hSi)
  have HWa:=hD0 (fun z=>Z5c S z)
  have HAh:=hD0 (fun z=>Z59 S z)
  clear hX hf hX1 hX2 hS hSi
  have HSv:Hid (S=⟨S.id,S.txn,S.md,S.wt,S.sn⟩):=hD0 rfl
  obtain⟨s0,s1,s2,s3,s4⟩:=S
  simp only at HX1 HX2 HAh HSq
  unfold Uk at HFq1 HWa HAh
  clear HSv
  go_enter func38,ntmps38
  go_wp2_with fail
  rw[HW1.out]
  go_wp2_with fail
  go_at_call 55
  refine HFq1.out.mono ?_
  rintro e w2 ⟨rfl,g2⟩
  have hb3:=RqB.made w2 s0 s1 s2 s3 s4 47
  obtain⟨w3,hw3⟩:∃w3,w2.alloc (.cells #[.int .i64 s0,.int .i64 s1,.int .i64 s2,.int .i64 s3,.int .i64 s4] 47)=w3:=⟨_,rfl⟩
  have g3:Nw w2 w3:=by rw[←hw3];exact(Nw.refl w2).alloc _
  rw[hw3] at hb3
  have HW3:=hD0 hw3
  have HB3:=hD0 (aI0 hb3 (aI0 ((HB.out.2.trans g2).trans g3) (g3.at' (g2.at' HB.out.1))))
  obtain⟨yl,y0,y1,y2,y3,y4⟩:=hb3
  clear c0 c1 c2 c3 hpl g2 g3 hw3 HFq1
  go_wp2_with fail
  rw[HW3.out]
  go_wp2_with fail
  go_at_call 56
  refine(HWa.out _).mono ?_
  rintro e w4 ⟨rfl,g4⟩
  have HB4:=hD0 (aI0 (HB3.out.1.nw g4) (aI0 (HB3.out.2.1.trans g4) (g4.at' HB3.out.2.2)))
  clear yl y0 y1 y2 y3 y4 g4 HWa
  by_cases hs:0<s4
  rotate_left
  ·have ds:decide (0<s4)=false:=by simpa using hs
   have hR:=HX1.out (by first | exact hs | exact Int.not_lt.1 hs)
   subst hR
   clear hs HX1 HX2
   go_wp2
   go_ret
   exact⟨_,rfl,HB4.out.2.1,IS.nil _⟩
  have ds:decide (0<s4)=true:=by simpa using hs
  have hR:=HX2.out hs
  have HAll:=hD0 (Z8k HOk.out HSq.out.1 hs)
  rw[←hR] at HAll
  obtain⟨yl,y0,y1,y2,y3,y4⟩:=HB4.out.1
  clear hs HX1 HX2 hR
  go_wp2_with fail
  go_at_call 57
  refine(HAh.out _).mono ?_
  rintro e w5 ⟨pa,rfl,g5,hbx⟩
  obtain⟨g,lb,hfv,eg,hT⟩:=Yw.ahead (S:=⟨s0,s1,s2,s3,s4⟩) hbx
  have HT:=hD0 hT
  have HB5:=hD0 (aI0 (HB4.out.1.nw g5) (aI0 (HB4.out.2.1.trans g5) (g5.at' HB4.out.2.2)))
  have c2:=Z2 (j:=2) HB5.out.2.2
  have hpl:=hlt HB5.out.2.2
  rw[hfv]
  clear yl y0 y1 y2 y3 y4 g5 hbx hT hfv HAh ds
  go_wp2
  clear c2 hpl
  go_loopw [8,29] (fun x i wr=>∃k:Nat,k≤q.length∧i=.int .i64 k∧IS wr x (bkT q ⟨s0,s1,s2,s3,s4⟩ k)∧Nw w5 wr∧∀g,x.ownBlock=some g→w5.heap.size≤g) (fun _ i _=>q.length-(intOf i).toNat)
  case atStart=>exact⟨0,Nat.zero_le _,rfl,IS.nil _,Nw.refl _,fun g e=>by simp[Value.ownBlock] at e⟩
  case round =>
   obtain⟨k,hk,rfl,hI,hN,hfr⟩:=hrel
   by_cases hlk:k<q.length
   ·obtain⟨a',c',e,⟨e4,_⟩ | ⟨b,o,e4,hc⟩⟩:=(HAt.out.nw (HB5.out.2.1.trans hN))
    ·subst e4;simp at hlk
    simp only[Value.slice.injEq,true_and] at e
    obtain⟨rfl,rfl⟩:=e
    subst e4
    have hki:(k:Int)<(q.length:Int):=by omega
    have hstep:=Z52 q ⟨s0,s1,s2,s3,s4⟩ k hlk
    have hce:=hc.cell k hlk
    have HKn:=hD0 (aI0 (HOk.out.rt _ (gM0 hlk)).md (HOk.out.rt _ HSq.out.1).wt)
    have HTk:=hD0 (fun(z:World) (g:Nw w5 z)=>HT.out q[k] z g)
    generalize q[k]=R at *
    obtain⟨b0,b1,b2,b3,b4⟩:=R
    unfold Uk at HTk
    have e0:=hce 0 _ rfl
    have e1:=hce 1 _ rfl
    have e2:=hce 2 _ rfl
    have e3:=hce 3 _ rfl
    have e4:=hce 4 _ rfl
    simp only[Nat.add_zero] at e0
    simp only at hstep HTk HKn
    have hbk:bkC ⟨s0,s1,s2,s3,s4⟩ ⟨b0,b1,b2,b3,b4⟩=(!(b0==s0)&&((decide (0<b4)&&decide (toI ⟨b0,b1,b2,b3,b4⟩ ⟨s0,s1,s2,s3,s4⟩<0)) || !Ys b2 s3)):=rfl
    have g6:Nw wr (wr.alloc (.cells #[.int .i64 b0,.int .i64 b1,.int .i64 b2,.int .i64 b3,.int .i64 b4] 47)):=(Nw.refl wr).alloc _
    obtain⟨w6,hw6⟩:∃w6,wr.alloc (.cells #[.int .i64 b0,.int .i64 b1,.int .i64 b2,.int .i64 b3,.int .i64 b4] 47)=w6:=⟨_,rfl⟩
    have hs6:w6.heap.size=wr.heap.size+1:=by rw[←hw6];simp
    have hq6:=RqB.made wr b0 b1 b2 b3 b4 47
    rw[hw6] at g6 hq6
    have HQ6:=hD0 hq6
    obtain⟨hlq,x0,x1,x2,x3,x4⟩:=hq6
    have HI:=hD0 (aI0 (hI.nw g6) (aI0 (hN.trans g6) hfr))
    have HW6:=hD0 hw6
    have HCp:=hD0 (fun z=>dCp b2 s3 z HKn.out.1 HKn.out.2)
    obtain⟨A,hA⟩:∃A,(decide (0<b4)&&decide (toI ⟨b0,b1,b2,b3,b4⟩ ⟨s0,s1,s2,s3,s4⟩<0))=A:=⟨_,rfl⟩
    obtain⟨B,hB⟩:∃B,Ys b2 s3=B:=⟨_,rfl⟩
    rw[hA] at hbk HTk
    rw[hB] at hbk HCp
    have hy3:∀z,Nw w5 z→z.cell? ⟨w2.heap.size,3,none⟩=some (.int .i64 s3):=fun z hz=>hz.kp HB5.out.1.c3
    clear hce hI hN hfr g6 hw6 hA hB hc
    by_cases hi:b0=s0
    ·have di:(b0 != id)=false:=by have:=HSq.out.2;simp[hi,this]
     have hst:bkT q ⟨s0,s1,s2,s3,s4⟩ (k+1)=bkT q ⟨s0,s1,s2,s3,s4⟩ k:=by rw[hstep,if_neg (by rw[hbk];simp[hi])]
     have HS:=hD0 hst
     clear hstep hst hi hbk
     go_wp2_with fail
     go_roundw
     case rel=>exact⟨k+1,by omega,by go_num,by rw[HS.out];first | exact HI.out.1 | (rw[HW6.out];exact HI.out.1),by first | exact HI.out.2.1 | (rw[HW6.out];exact HI.out.2.1),HI.out.2.2⟩
     case measure=>simp[intOf];omega
    ·have di:(b0 != id)=true:=by have:=HSq.out.2;rw[←this];simpa using hi
     have hnb:(b0==s0)=false:=by simpa using hi
     rw[hnb] at hbk
     clear hi hnb
     cases A
     ·cases B
      ·
       have hst:bkT q ⟨s0,s1,s2,s3,s4⟩ (k+1)=bkT q ⟨s0,s1,s2,s3,s4⟩ k++[b1]:=by rw[hstep,if_pos (by rw[hbk];rfl)]
       have HS:=hD0 hst
       clear hstep hst hbk
       go_wp2_with fail
       rw[HW6.out]
       go_wp2_with fail
       go_at_fn g
       refine(HTk.out _ HI.out.2.1).mono ?_
       rintro e w7 ⟨rfl,g7⟩
       have hz3:=hy3 _ (HI.out.2.1.trans g7)
       have hzl:=World.block_lt_of_cell? _ _ hz3
       obtain⟨zl,z0,z1,z2,z3,z4⟩:=HQ6.out.nw g7
       have G7:=hD0 g7
       clear x0 x1 x2 x3 x4 hlq e0 e1 e2 e3 e4 g7
       go_wp2_with fail
       go_at_call 58
       refine(HCp.out _).mono ?_
       rintro e w8 ⟨rfl,g8⟩
       have hI8:=HI.out.1.nw (G7.out.trans g8)
       obtain⟨v',w9,hr,q1,q2,q3,⟨g',cap',hv'⟩⟩:=IS.push w8 _ (bkT q ⟨s0,s1,s2,s3,s4⟩ k) b1 hI8 (by have:=Ua q ⟨s0,s1,s2,s3,s4⟩ k;omega)
       have HR:=hD0 hr
       have HN8:=hD0 ((HI.out.2.1.trans G7.out).trans g8)
       have HE:Hid (IS w9 v' (bkT q ⟨s0,s1,s2,s3,s4⟩ (k+1))∧Nw w5 w9∧∀g,v'.ownBlock=some g→w5.heap.size≤g):=hD0 ⟨by rw[HS.out];exact q1,Zg HN8.out q2 (fun i e=>HI.out.2.2 i e),fun g e=>by
        rcases q3 g e with h | h
        ·exact HI.out.2.2 g h
        ·have:=HN8.out.sz;omega⟩
       obtain⟨zl',z0',z1',z2',z3',z4'⟩:=(HQ6.out.nw G7.out).nw g8
       clear hr q1 q2 q3 hI8 g8 hv' zl z0 z1 z2 z3 z4 hz3 hzl
       go_wp2_with (at_builtin;(refine Zn (by rfl) (.tmp 50) (.tmp 53) 24 rfl _ _ _ _ rfl rfl HR.out ?_))
       go_roundw
       case rel=>exact⟨k+1,by omega,by go_num,HE.out⟩
       case measure=>simp[intOf];omega
      ·have hst:bkT q ⟨s0,s1,s2,s3,s4⟩ (k+1)=bkT q ⟨s0,s1,s2,s3,s4⟩ k:=by rw[hstep,if_neg (by rw[hbk];simp)]
       have HS:=hD0 hst
       clear hstep hst hbk
       go_wp2_with fail
       rw[HW6.out]
       go_wp2_with fail
       go_at_fn g
       refine(HTk.out _ HI.out.2.1).mono ?_
       rintro e w7 ⟨rfl,g7⟩
       have hz3:=hy3 _ (HI.out.2.1.trans g7)
       have hzl:=World.block_lt_of_cell? _ _ hz3
       obtain⟨zl,z0,z1,z2,z3,z4⟩:=HQ6.out.nw g7
       have G7:=hD0 g7
       clear x0 x1 x2 x3 x4 hlq e0 e1 e2 e3 e4 g7
       go_wp2_with fail
       go_at_call 58
       refine(HCp.out _).mono ?_
       rintro e w8 ⟨rfl,g8⟩
       have G8:=hD0 (G7.out.trans g8)
       clear g8 zl z0 z1 z2 z3 z4 hz3 hzl
       go_wp2
       go_roundw
       case rel=>exact⟨k+1,by omega,by go_num,by rw[HS.out];exact HI.out.1.nw G8.out,HI.out.2.1.trans G8.out,HI.out.2.2⟩
       case measure=>simp[intOf];omega
     ·have hst:bkT q ⟨s0,s1,s2,s3,s4⟩ (k+1)=bkT q ⟨s0,s1,s2,s3,s4⟩ k++[b1]:=by rw[hstep,if_pos (by rw[hbk];simp)]
      have HS:=hD0 hst
      clear hstep hst hbk
      go_wp2_with fail
      rw[HW6.out]
      go_wp2_with fail
      go_at_fn g
      refine(HTk.out _ HI.out.2.1).mono ?_
      rintro e w8 ⟨rfl,g8⟩
      have hI8:=HI.out.1.nw g8
      obtain⟨v',w9,hr,q1,q2,q3,⟨g',cap',hv'⟩⟩:=IS.push w8 _ (bkT q ⟨s0,s1,s2,s3,s4⟩ k) b1 hI8 (by have:=Ua q ⟨s0,s1,s2,s3,s4⟩ k;omega)
      have HR:=hD0 hr
      have HN8:=hD0 (HI.out.2.1.trans g8)
      have HE:Hid (IS w9 v' (bkT q ⟨s0,s1,s2,s3,s4⟩ (k+1))∧Nw w5 w9∧∀g,v'.ownBlock=some g→w5.heap.size≤g):=hD0 ⟨by rw[HS.out];exact q1,Zg HN8.out q2 (fun i e=>HI.out.2.2 i e),fun g e=>by
       rcases q3 g e with h | h
       ·exact HI.out.2.2 g h
       ·have:=HN8.out.sz;omega⟩
      obtain⟨zl',z0',z1',z2',z3',z4'⟩:=HQ6.out.nw g8
      clear hr q1 q2 q3 hI8 g8 hv' x0 x1 x2 x3 x4 hlq e0 e1 e2 e3 e4
      go_wp2_with (at_builtin;(refine Zn (by rfl) (.tmp 50) (.tmp 53) 24 rfl _ _ _ _ rfl rfl HR.out ?_))
      go_roundw
      case rel=>exact⟨k+1,by omega,by go_num,HE.out⟩
      case measure=>simp[intOf];omega
   ·obtain rfl:k=q.length:=by omega
    have HSo:=hD0 (Z8q _ _ _ hI (Nat.le_trans (Ua q _ _) hl))
    have HE:=hD0 (aI0 hN hfr)
    clear hI hN hfr
    go_wp2_with fail
    go_at_call 48
    refine HSo.out.mono ?_
    rintro e w9 ⟨rfl,hI9,hT9⟩
    have HCm:=hD0 (Z47 _ _ _ hI9 (by rw[List.length_mergeSort];exact Nat.le_trans (Ua q _ _) hl))
    have HN9:=hD0 (Zg HE.out.1 hT9 (fun i e=>HE.out.2 i e))
    clear hI9 hT9
    go_wp2_with fail
    go_at_call 59
    refine HCm.out.mono ?_
    rintro e w10 ⟨v10,rfl,hI10,_,hT10⟩
    have HZ:=hD0 (aI0 hI10 (Zg HN9.out hT10 (fun i e=>HE.out.2 i e)))
    clear hI10 hT10
    go_wp2
    go_ret
    exact⟨_,rfl,HB5.out.2.1.trans HZ.out.2,by rw[←HAll.out];exact HZ.out.1⟩
structure Hv where
 h:Hq
 v:Value
def Uu(x:Hv):List Value:=[.int .i64 x.h.t,.int .i64 x.h.r,x.v,.int .i64 x.h.W]
structure Z6t(w:World)(x:Hv):Prop where
 at_:Yg w x.v x.h.q
 ok:Ok x.h.W x.h.q
 len:x.h.q.length≤12
theorem Z6t.nw{w w':World}{x:Hv}(h:Z6t w x)(g:Nw w w'):Z6t w' x:=⟨h.at_.nw g,h.ok,h.len⟩
def edL(l:List Hv)(k:Nat):List (Int × Int):=(l.take k).flatMap fun x=>Uc x.h.q x.h.q.length
theorem Ut{α β:Type}(f:α→List β)(N:Nat):∀(p:List α),(∀x∈p,(f x).length≤N)→(p.flatMap f).length≤p.length*N
 | [],_=>by simp
 | x::r,h=>by
  rw[List.flatMap_cons,List.length_append,List.length_cons,Nat.add_mul,Nat.one_mul,Nat.add_comm]
  exact Nat.add_le_add (Ut f N r fun y hy=>h y (List.mem_cons_of_mem _ hy)) (h x (List.mem_cons_self ..))
theorem Uo(q:List Rq)(id:Int):(V8 q id).length≤q.length:=by
 unfold V8
 split
 ·simp
 ·split
  ·rename_i r _ _
   have hn:(Un q r).Nodup:=(Vz q r).imp (fun {a b} k=>by omega)
   have:=Z03 (m:=q.map Rq.txn) hn fun y hy=>by
    obtain⟨o,ho,_,_,e⟩:=(Yl q r y).1 hy
    exact List.mem_map.2 ⟨o,ho,e⟩
   simpa using this
  ·simp
theorem Z7f(q:List Rq)(r:Rq):(edR q r).length≤q.length:=by
 unfold edR
 split
 ·rw[Z0d];exact Uo q r.id
 ·simp
theorem Z15{q:List Rq}(h:q.length≤12)(n:Nat):(Uc q n).length≤144:=by
 have h1:=Ut (edR q) 12 (q.take n) fun r _=>Nat.le_trans (Z7f q r) h
 have h2:(q.take n).length≤12:=Nat.le_trans (by rw[List.length_take];omega) h
 unfold Uc
 omega
theorem Z3g{l:List Hv}(hl:l.length≤8)(h:∀x∈l,x.h.q.length≤12)(n:Nat):(edL l n).length≤1152:=by
 have h1:=Ut (fun x:Hv=>Uc x.h.q x.h.q.length) 144 (l.take n) fun x hx=>Z15 (h x (List.mem_of_mem_take hx)) _
 have h2:(l.take n).length≤8:=Nat.le_trans (by rw[List.length_take];omega) hl
 unfold edL
 omega
theorem Z5k{q:List Rq}{j:Nat}(hj:j<q.length):Uc q (j+1)=Uc q j++edR q q[j]:=by
 unfold Uc
 rw[List.take_succ_eq_append_getElem hj,List.flatMap_append]
 simp
theorem Z5l{l:List Hv}{k:Nat}(hk:k<l.length):edL l (k+1)=edL l k++Uc l[k].h.q l[k].h.q.length:=by
 unfold edL
 rw[List.take_succ_eq_append_getElem hk,List.flatMap_append]
 simp
theorem Z5p{w w':World}{row:Option Nat}(g:w.grownBy w' row):Zd (fun b=>row=some b) w w':=⟨g.os,g.tape,g.output,g.size,fun k hk hn=>g.block k hk (fun e=>hn e.symm)⟩
theorem Z62{α:Type}{P:Program}{ST T:TypeId}{sz bytes:Nat}{row:α→List Value}(E:Z0g P ST T sz bytes row){w:World}{g0:Nat}{v v2:Value}{l sg:List α}(h:Yy T sz row w g0 v l)(h2:Rd sz row w v2 sg)(hsm:l.length+sg.length≤100000)(hg0:g0≤w.heap.size) :
  ∃v' w1,(Builtin.append_ #[ST,ST] ST #[v,v2]).run P w=.ok v' w1∧Yy T sz row w1 g0 v' (l++sg)∧w.grownBy w1 v.ownBlock∧(v'.ownBlock=v.ownBlock∨v'.ownBlock=some w.heap.size):=by
 obtain⟨a,c,rfl,⟨rfl,h0⟩ | ⟨b,o,rfl,hc⟩⟩:=h2
 ·cases a with
  | none =>
   obtain rfl:=h0 rfl
   obtain⟨i0,z,hi,hz0,hz1,hz2,hz3⟩:=E.inf
   exact⟨_,_,run_append_owned_none (P:=P) w g0 ST ST T i0 sz E.und hi _ _ _ h,by rw[List.append_nil];exact h,(Nw.refl w).grownBy _,.inl rfl⟩
  | some ad=>exact Yy.many E h [] ad c (fun j u hu=>by simp[Z8] at hu) hsm hg0
 ·exact Yy.many E h sg ⟨b,o,none⟩ c (hc.flat E.len E.pos) hsm hg0
def CsE(A B:Nat)(ht hr:Int)(v:Value)(hW ri rt:Int)(z:World):Prop :=
 z.cell? ⟨A,0,none⟩=some (.int .i64 ht)∧z.cell? ⟨A,1,none⟩=some (.int .i64 hr)∧z.cell? ⟨A,2,none⟩=some v∧z.cell? ⟨A,3,none⟩=some (.int .i64 hW)∧z.cell? ⟨B,0,none⟩=some (.int .i64 ri)∧z.cell? ⟨B,1,none⟩=some (.int .i64 rt)
theorem CsE.tch{A B:Nat}{ht hr:Int}{v:Value}{hW ri rt:Int}{z z':World}(h:CsE A B ht hr v hW ri rt z){S:Nat→Prop}(t:Zd S z z')(hA:A<z.heap.size)(hB:B<z.heap.size)(nA:¬S A)(nB:¬S B):CsE A B ht hr v hW ri rt z' :=
 ⟨(t.cell hA nA).trans h.1,(t.cell hA nA).trans h.2.1,(t.cell hA nA).trans h.2.2.1,(t.cell hA nA).trans h.2.2.2.1,(t.cell hB nB).trans h.2.2.2.2.1,(t.cell hB nB).trans h.2.2.2.2.2⟩
theorem Z7p{w:World}{g0 g1:Nat}{v:Value}{l:List (Int × Int)}(h:Zo w g1 v l)(k:g0≤g1):Zo w g0 v l:=by
 obtain⟨h1,h2⟩:=h
 refine⟨h1,?_⟩
 rcases h2 with h2 | ⟨g,cap,cur,q1,q2,q3⟩
 ·exact .inl h2
 ·exact .inr ⟨g,cap,cur,q1,Nat.le_trans k q2,q3⟩
structure EdI(W0:World)(l:List Hv)(v:Value)(k:Nat)(w:World):Prop where
 own:Zo w W0.heap.size v (edL l k)
 nw:Nw W0 w
structure EdJ(W0 w4:World)(A:Nat)(l:List Hv)(q:List Rq)(v:Value)(k n:Nat)(w:World):Prop where
 own:Zo w W0.heap.size v (edL l k++Uc q n)
 nw:Nw W0 w
 tch:Zd (fun j=>W0.heap.size≤j∧j≠A) w4 w
 off:v.ownBlock≠some A
theorem Z4a{w0:World}{v:Value}{l:List Hv}(h:Rd 4 Uu w0 v l)(hx:∀x∈l,Z6t w0 x)(hl:l.length≤8) :
  Calls prog 16 #[v] w0 fun e w'=>∃v',e=.returned v'∧Zo w' w0.heap.size v' (sortE (edL l l.length))∧Nw w0 w':=by
 have HX:=hD0 hx
 obtain⟨a,c,rfl,hd⟩:=h
 have HD:=hD0 hd
 obtain⟨n,hn⟩:∃n,l.length=n:=⟨_,rfl⟩
 have HN:=hD0 hn
 rw[hn] at hl ⊢
 clear hd hn hx
 go_enter func16,ntmps16
 go_wp2_with fail
 go_loopw [3,10] (fun v3 v10 wr=>∃(k:Nat) (a b c:_),v3=.slice a b c∧v10=.int .i64 k∧k≤n∧Hid (EdI w0 l (.slice a b c) k wr)) (fun _ v10 _=>n-(intOf v10).toNat)
 case atStart=>exact⟨0,none,0,0,rfl,rfl,Nat.zero_le _,hD0 ⟨World.ownsRow_nil _ _ _ _,Nw.refl _⟩⟩
 case round =>
  obtain⟨k,sa,sb,sc,rfl,rfl,hkn,HI⟩:=hrel
  by_cases hlt:k<n
  ·have hkl:k<l.length:=by rw[HN.out];exact hlt
   rcases HD.out with⟨q,_⟩ | ⟨eb,eo,rfl,hrc⟩
   ·rw[q] at hkl;simp at hkl
   have hrw:=hrc.nw HI.out.nw
   obtain⟨x,hxk⟩:∃x,l[k]=x:=⟨_,rfl⟩
   have hxm:x∈l:=hxk▸gM0 hkl
   have z0:=hrw.cell k hkl 0 (.int .i64 x.h.t) (by rw[hxk];rfl)
   have z1:=hrw.cell k hkl 1 (.int .i64 x.h.r) (by rw[hxk];rfl)
   have z2:=hrw.cell k hkl 2 x.v (by rw[hxk];rfl)
   have z3:=hrw.cell k hkl 3 (.int .i64 x.h.W) (by rw[hxk];rfl)
   have hebl:=hrw.lt
   have HO:=hD0 ((HX.out x hxm).nw HI.out.nw)
   obtain⟨⟨ht,hr,hW,q⟩,qv⟩:=x
   obtain⟨qa,qc,e,hqd⟩:=HO.out.at_
   simp only at e
   subst e
   have HQD:=hD0 hqd
   have Yc:=Zx hlt
   have hw:=Zw k (k+1) (by omega) rfl
   obtain⟨k1,hk1⟩:∃m,k+1=m:=⟨_,rfl⟩
   have HK1:=hD0 (aI0 hk1 hlt)
   have HXK:=hD0 (show ∃h:k<l.length,l[k]=_ from⟨hkl,hxk⟩)
   rw[hk1] at hw
   obtain⟨m,hm⟩:∃m,q.length=m:=⟨_,rfl⟩
   have HM:=hD0 hm
   simp only[hm] at z2
   simp only[Nat.add_zero] at z0 z1 z3
   clear hk1 hxk hkl hrw hrc hqd hlt hm
   go_upto_region 5 with fail
   have hal:=Z5 wr (.cells #[.int .i64 ht,.int .i64 hr,.slice qa m qc,.int .i64 hW] 40)
   have g4:Nw wr (wr.alloc (.cells #[.int .i64 ht,.int .i64 hr,.slice qa m qc,.int .i64 hW] 40)):=(Nw.refl wr).alloc _
   obtain⟨w4,hw4⟩:∃w4,wr.alloc (.cells #[.int .i64 ht,.int .i64 hr,.slice qa m qc,.int .i64 hW] 40)=w4:=⟨_,rfl⟩
   obtain⟨A,hA⟩:∃A,wr.heap.size=A:=⟨_,rfl⟩
   have hAg:w0.heap.size≤A:=by rw[←hA];exact HI.out.nw.sz
   have HJ:=hD0 (show EdJ w0 w4 A l q (.slice sa sb sc) k 0 w4 from by
    refine⟨?_,?_,Zd.refl _ _,fun e=>?_⟩
    ·rw[←hw4]
     have:=onw HI.out.own g4
     simpa [Uc] using this
    ·rw[←hw4];exact HI.out.nw.trans g4
    ·have:=olt HI.out.own e
     omega)
   rw[hA] at hal ⊢
   rw[hw4] at hal g4 ⊢
   have HAL:=hD0 (aI0 hal (Go.Proofs.Ytobnolgphljoeaa.hlt hal))
   have HO4:=hD0 (HX.out _ hxm)
   have hml:m≤12:=by rw[←HM.out];exact HO.out.len
   have a0:=Z2 hal (j:=0)
   have a1:=Z2 hal (j:=1)
   have a2:=Z2 hal (j:=2)
   have a3:=Z2 hal (j:=3)
   clear hal g4 hw4 hA z0 z1 z2 z3 HO hebl
   go_wp2_with fail
   clear a0 a1 a2 a3
   go_loopw [3,17] (fun v3 v17 wr=>∃(j:Nat) (a b c:_),v3=.slice a b c∧v17=.int .i64 j∧j≤m∧Hid (EdJ w0 w4 A l q (.slice a b c) k j wr)) (fun _ v17 _=>m-(intOf v17).toNat)
   case atStart=>exact⟨0,_,_,_,rfl,rfl,Nat.zero_le _,HJ⟩
   case round =>
    clear HJ HI
    obtain⟨j,sa,sb,sc,rfl,rfl,hjm,HJ⟩:=hrel
    by_cases hltj:j<m
    ·have hjq:j<q.length:=by rw[HM.out];exact hltj
     have hq4:=HO4.out.at_.nw HJ.out.nw
     obtain⟨qa',qc',e,hqd⟩:=hq4
     simp only[Value.slice.injEq] at e
     obtain⟨rfl,_,rfl⟩:=e
     rcases hqd with⟨e,_⟩ | ⟨qb,qo,rfl,hqc⟩
     ·have e':q=[]:=e
      rw[e'] at hjq;simp at hjq
     obtain⟨R,hR⟩:∃R,q[j]=R:=⟨_,rfl⟩
     have hRm:R∈q:=hR▸gM0 hjq
     have r0:=hqc.cell j hjq 0 (.int .i64 R.id) (by rw[hR];rfl)
     have r1:=hqc.cell j hjq 1 (.int .i64 R.txn) (by rw[hR];rfl)
     have r2:=hqc.cell j hjq 2 (.int .i64 R.md) (by rw[hR];rfl)
     have r3:=hqc.cell j hjq 3 (.int .i64 R.wt) (by rw[hR];rfl)
     have r4:=hqc.cell j hjq 4 (.int .i64 R.sn) (by rw[hR];rfl)
     have hqbl:=hqc.lt
     simp only[Nat.add_zero] at r0 r1 r2 r3 r4
     have hltj':=Zx hltj
     have hwj:=Zw j (j+1) (by omega) rfl
     obtain⟨j1,hj1⟩:∃m,j+1=m:=⟨_,rfl⟩
     have HJ1:=hD0 (aI0 hj1 hltj)
     have hed:Uc q j1=Uc q j++edR q R:=by rw[←hj1,←hR];exact Z5k hjq
     have HED:=hD0 hed
     have HRm:=hD0 hRm
     rw[hj1] at hwj
     obtain⟨ri,rt,rm,rw_,rs⟩:=R
     simp only at r0 r1 r2 r3 r4
     clear hj1 hR hjq hqc hed hRm hltj
     go_upto_region 8 with fail
     have hal:=Z5 wr (.cells #[.int .i64 ri,.int .i64 rt,.int .i64 rm,.int .i64 rw_,.int .i64 rs] 47)
     have g5:Nw wr (wr.alloc (.cells #[.int .i64 ri,.int .i64 rt,.int .i64 rm,.int .i64 rw_,.int .i64 rs] 47)):=(Nw.refl wr).alloc _
     obtain⟨w5,hw5⟩:∃w5,wr.alloc (.cells #[.int .i64 ri,.int .i64 rt,.int .i64 rm,.int .i64 rw_,.int .i64 rs] 47)=w5:=⟨_,rfl⟩
     obtain⟨B,hB⟩:∃B,wr.heap.size=B:=⟨_,rfl⟩
     have HJ5:=hD0 (show EdJ w0 w4 A l q (.slice sa sb sc) k j w5 from by
      rw[←hw5]
      exact⟨onw HJ.out.own g5,HJ.out.nw.trans g5,HJ.out.tch.alloc _,HJ.out.off⟩)
     rw[hB] at hal ⊢
     rw[hw5] at hal g5 ⊢
     have b0:=Z2 hal (j:=0)
     have b1:=Z2 hal (j:=1)
     have b4:=Z2 hal (j:=4)
     have HBl2:=hD0 (Go.Proofs.Ytobnolgphljoeaa.hlt hal)
     have HBo:=hD0 (show ¬(Value.slice sa sb sc).ownBlock=some B from fun e=>by
      have:=olt HJ.out.own e
      omega)
     clear hal g5 hw5 hB r0 r1 r2 r3 r4 HJ hqbl
     by_cases hs:0<rs
     ·have dS:decide (0<rs)=true:=decide_eq_true hs
      have tA:A<w4.heap.size:=HAL.out.2
      have cA:∀z,Nw w5 z→∀o,z.cell? ⟨A,o,none⟩=w4.cell? ⟨A,o,none⟩:=fun z g o=>(HJ5.out.tch.trans (Zd.nw g)).cell tA (fun e=>e.2 rfl)
      have HCs:=hD0 (show ∀z,Nw w5 z→CsE A B ht hr (.slice (some ⟨qb,qo,none⟩) m qc) hW ri rt z from fun z g=>⟨(cA z g 0).trans (Z2 HAL.out.1 (j:=0)),(cA z g 1).trans (Z2 HAL.out.1 (j:=1)),(cA z g 2).trans (Z2 HAL.out.1 (j:=2)),(cA z g 3).trans (Z2 HAL.out.1 (j:=3)),g.kp b0,g.kp b1⟩)
      have ta0:∀z,CsE A B ht hr (.slice (some ⟨qb,qo,none⟩) m qc) hW ri rt z→z.cell? ⟨A,0,none⟩=some (.int .i64 ht):=fun z h=>h.1
      have ta1:∀z,CsE A B ht hr (.slice (some ⟨qb,qo,none⟩) m qc) hW ri rt z→z.cell? ⟨A,1,none⟩=some (.int .i64 hr):=fun z h=>h.2.1
      have ta2:∀z,CsE A B ht hr (.slice (some ⟨qb,qo,none⟩) m qc) hW ri rt z→z.cell? ⟨A,2,none⟩=some (.slice (some ⟨qb,qo,none⟩) m qc):=fun z h=>h.2.2.1
      have ta3:∀z,CsE A B ht hr (.slice (some ⟨qb,qo,none⟩) m qc) hW ri rt z→z.cell? ⟨A,3,none⟩=some (.int .i64 hW):=fun z h=>h.2.2.2.1
      have tb0:∀z,CsE A B ht hr (.slice (some ⟨qb,qo,none⟩) m qc) hW ri rt z→z.cell? ⟨B,0,none⟩=some (.int .i64 ri):=fun z h=>h.2.2.2.2.1
      have tb1:∀z,CsE A B ht hr (.slice (some ⟨qb,qo,none⟩) m qc) hW ri rt z→z.cell? ⟨B,1,none⟩=some (.int .i64 rt):=fun z h=>h.2.2.2.2.2
      have HBl:=hD0 (fun(z:World) (g:Nw w5 z)=>Z46 ht hr hW ri (.slice (some ⟨qb,qo,none⟩) m qc) q z (Nat.le_trans HO4.out.len (by decide)) HO4.out.ok (by
       have:=HO4.out.at_.nw (HJ5.out.nw.trans g)
       rw[←HM.out];exact this))
      have hsl:=HED.out
      rw[show edR q ⟨ri,rt,rm,rw_,rs⟩=Vx rt (V8 q ri) from if_pos hs] at hsl
      have HSL:=hD0 hsl
      clear hsl cA tA hs b0 b1
      go_wp2_with fail
      refine Z6 [] (CsE A B ht hr (.slice (some ⟨qb,qo,none⟩) m qc) hW ri rt) (by kernel_rfl) ?_
      change Z7 _ _ _ _ _ _ 10 #[false,false,false,false,false,false,false,false,false,false] _ w5.drew
      obtain⟨y4,hy4⟩:∃y,w5.drew=y:=⟨_,rfl⟩
      rw[hy4]
      have hN0:Nw w5 y4:=by rw[←hy4];exact(Nw.refl w5).dr
      clear hy4
      have hS0:=HCs.out y4 hN0
      refine Z0 0 rfl (by kernel_rfl) (by kernel_rfl) (by kernel_rfl) (fun v c a w h=>h) ?_
      (first | (refine⟨undef,Or.inr ⟨by rfl,rfl⟩,?_⟩) | (apply Exists.intro;refine⟨Or.inl ⟨by rfl,?_⟩,?_⟩;(intro x hx';go_simp;first | done | with_reducible rfl)))
      (try simp only[Act.put,List.getElem_toArray,List.getElem_cons_zero,List.getElem_cons_succ,List.setIfInBounds_toArray,List.set_cons_zero,List.set_cons_succ])
      refine Z0 1 rfl (by kernel_rfl) (by kernel_rfl) (by kernel_rfl) (fun v c a w h=>h) ?_
      (first | (refine⟨undef,Or.inr ⟨by rfl,rfl⟩,?_⟩) | (apply Exists.intro;refine⟨Or.inl ⟨by rfl,?_⟩,?_⟩;(intro x hx';go_simp;first | done | with_reducible rfl)))
      (try simp only[Act.put,List.getElem_toArray,List.getElem_cons_zero,List.getElem_cons_succ,List.setIfInBounds_toArray,List.set_cons_zero,List.set_cons_succ])
      refine Z1 2 rfl (by kernel_rfl) (by kernel_rfl) (by kernel_rfl) (by kernel_rfl) (fun v c a w h=>h) hS0 ?_
      (first | (refine⟨undef,Or.inr ⟨by rfl,rfl⟩,?_⟩) | (apply Exists.intro;refine⟨Or.inl ⟨by rfl,?_⟩,?_⟩;(intro x hx';go_simp;first | done | with_reducible rfl)))
      (try simp only[Act.put,List.getElem_toArray,List.getElem_cons_zero,List.getElem_cons_succ,List.setIfInBounds_toArray,List.set_cons_zero,List.set_cons_succ])
      refine Z1 3 rfl (by kernel_rfl) (by kernel_rfl) (by kernel_rfl) (by kernel_rfl) (fun v c a w h=>h) hS0 ?_
      (first | (refine⟨undef,Or.inr ⟨by rfl,rfl⟩,?_⟩) | (apply Exists.intro;refine⟨Or.inl ⟨by rfl,?_⟩,?_⟩;(intro x hx';go_simp;first | done | with_reducible rfl)))
      (try simp only[Act.put,List.getElem_toArray,List.getElem_cons_zero,List.getElem_cons_succ,List.setIfInBounds_toArray,List.set_cons_zero,List.set_cons_succ])
      refine Z0 4 rfl (by kernel_rfl) (by kernel_rfl) (by kernel_rfl) (fun v c a w h=>h) ?_
      (first | (refine⟨undef,Or.inr ⟨by rfl,rfl⟩,?_⟩) | (apply Exists.intro;refine⟨Or.inl ⟨by rfl,?_⟩,?_⟩;(intro x hx';go_simp;first | done | with_reducible rfl)))
      (try simp only[Act.put,List.getElem_toArray,List.getElem_cons_zero,List.getElem_cons_succ,List.setIfInBounds_toArray,List.set_cons_zero,List.set_cons_succ])
      refine Z1 5 rfl (by kernel_rfl) (by kernel_rfl) (by kernel_rfl) (by kernel_rfl) (fun v c a w h=>h) hS0 ?_
      (first | (refine⟨undef,Or.inr ⟨by rfl,rfl⟩,?_⟩) | (apply Exists.intro;refine⟨Or.inl ⟨by rfl,?_⟩,?_⟩;(intro x hx';go_simp;first | done | with_reducible rfl)))
      (try simp only[Act.put,List.getElem_toArray,List.getElem_cons_zero,List.getElem_cons_succ,List.setIfInBounds_toArray,List.set_cons_zero,List.set_cons_succ])
      refine Z4 6 (by kernel_rfl) rfl (fun K hK=>?_)
      rw[if_pos (by rfl)]
      (try simp only[List.getElem_toArray,List.getElem_cons_zero,List.getElem_cons_succ])
      go_simp
      refine(HBl.out y4 hN0).mono ?_
      rintro e w6 ⟨v6,rfl,g6,hI6⟩
      refine hK _ _ (.inr (HCs.out w6 (hN0.trans g6))) ?_
      clear hK K
      (try simp only[Act.put,List.getElem_toArray,List.getElem_cons_zero,List.getElem_cons_succ,List.setIfInBounds_toArray,List.set_cons_zero,List.set_cons_succ])
      have hTw:=Z38 hI6 (Nat.le_trans (Uo q ri) (Nat.le_trans HO4.out.len (by decide))) rt
      have hS6:=hN0.trans g6
      clear g6 hI6 hS0 hN0
      refine Z4 7 (by kernel_rfl) rfl (fun K hK=>?_)
      rw[if_pos (by rfl)]
      (try simp only[List.getElem_toArray,List.getElem_cons_zero,List.getElem_cons_succ])
      go_simp
      refine hTw.mono ?_
      rintro e w7 ⟨v7,rfl,hO7,g7⟩
      refine hK _ _ (.inr (HCs.out w7 (hS6.trans g7))) ?_
      clear hK K hTw
      (try simp only[Act.put,List.getElem_toArray,List.getElem_cons_zero,List.getElem_cons_succ,List.setIfInBounds_toArray,List.set_cons_zero,List.set_cons_succ])
      have hS7:=hS6.trans g7
      have hle:(edL l k++Uc q j).length+(Vx rt (V8 q ri)).length≤100000:=by
       have h1:=Z3g (l:=l) (by rw[HN.out];exact hl) (fun x hx=>(HX.out x hx).len) k
       have h2:(Uc q j).length≤144:=Z15 HO4.out.len j
       have h3:(V8 q ri).length≤12:=Nat.le_trans (Uo q ri) HO4.out.len
       rw[List.length_append,Z0d]
       omega
      obtain⟨v8,w8,hr8,hO8,hg8,hp8⟩:=Z62 Va (onw HJ5.out.own hS7) hO7.at_ hle (HJ5.out.nw.trans hS7).sz
      obtain⟨n8,hn8⟩:∃n,(edL l k++Uc q j++Vx rt (V8 q ri)).length=n:=⟨_,rfl⟩
      have hCs8:CsE A B ht hr (.slice (some ⟨qb,qo,none⟩) m qc) hW ri rt w8:=(HCs.out w7 hS7).tch (Z5p hg8) (lL0 HAL.out.2 (HJ5.out.tch.trans (Zd.nw hS7)).size) (lL0 HBl2.out hS7.sz) HJ5.out.off HBo.out
      rcases Yx hO8 with⟨rfl,e8⟩ | ⟨g8,cap8,rfl⟩
      all_goals
       try rw[hn8] at hr8 hO8 hp8
       have HJ8:=hD0 (show EdJ w0 w4 A l q _ k j1 w8 from⟨by
        rw[HSL.out,←List.append_assoc];exact hO8,(HJ5.out.nw.trans hS7).gro hg8 (fun b e=>oge HJ5.out.own e),(HJ5.out.tch.trans (Zd.nw hS7)).grown hg8 (fun b e=>by
         by_cases hb:w4.heap.size≤b
         ·exact .inr hb
         ·exact .inl ⟨oge HJ5.out.own e,fun e'=>HJ5.out.off (by rw[e,e'])⟩),fun e=>by
         rcases hp8 with p8 | p8
         ·exact HJ5.out.off (by rw[←p8,e])
         ·rw[p8] at e
          have:=Option.some.inj e
          have h5:=HAL.out.2
          have h6:=(HJ5.out.tch.trans (Zd.nw hS7)).size
          omega⟩)
       have HR8:=hD0 hr8
       clear hr8 hO8 hg8 hp8 hO7 g7 hle hn8
       refine Z4 8 (by kernel_rfl) rfl (fun K hK=>?_)
       refine Z3x (by rfl) (.tmp 24) (.tmp 31) 22 rfl _ _ _ _ rfl rfl HR8.out ?_
       refine hK _ _ (.inr hCs8) ?_
       clear hK K HR8
       (try simp only[Act.put,List.getElem_toArray,List.getElem_cons_zero,List.getElem_cons_succ,List.setIfInBounds_toArray,List.set_cons_zero,List.set_cons_succ])
       refine Z0 9 rfl (by kernel_rfl) (by kernel_rfl) (by kernel_rfl) (fun v c a w h=>h) ?_
       (first | (refine⟨undef,Or.inr ⟨by rfl,rfl⟩,?_⟩) | (apply Exists.intro;refine⟨Or.inl ⟨by rfl,?_⟩,?_⟩;(intro x hx';go_simp;first | done | with_reducible rfl)))
       (try simp only[Act.put,List.getElem_toArray,List.getElem_cons_zero,List.getElem_cons_succ,List.setIfInBounds_toArray,List.set_cons_zero,List.set_cons_succ])
       refine Z3 (by kernel_rfl) ?_ _
       refine NoPanic.normal ?_
       (try simp only[Act.put,List.getElem_toArray,List.getElem_cons_zero,List.getElem_cons_succ,List.setIfInBounds_toArray,List.set_cons_zero,List.set_cons_succ])
       clear hS7 hS6 hCs8 ta0 ta1 ta2 ta3 tb0 tb1
       go_wp2_with fail
       exact⟨⟨j1,_,_,_,rfl,rfl,by rw[←HJ1.out.1];exact HJ1.out.2,HJ8⟩,by rw[←HJ1.out.1];exact Y1 HJ1.out.2⟩
     ·have dS:decide (0<rs)=false:=decide_eq_false hs
      have HJ6:=hD0 (show EdJ w0 w4 A l q (.slice sa sb sc) k j1 w5 from⟨by
       rw[HED.out,show edR q ⟨ri,rt,rm,rw_,rs⟩=[] from if_neg hs,List.append_nil]
       exact HJ5.out.own,HJ5.out.nw,HJ5.out.tch,HJ5.out.off⟩)
      clear hs HJ5 b0 b1
      go_wp2_with fail
      exact⟨⟨j1,_,_,_,rfl,rfl,by rw[←HJ1.out.1];exact HJ1.out.2,HJ6⟩,by rw[←HJ1.out.1];exact Y1 HJ1.out.2⟩
    ·obtain rfl:j=m:=Nat.le_antisymm hjm (Nat.le_of_not_lt hltj)
     have hltj':¬j<j:=Nat.lt_irrefl j
     have HI2:=hD0 (show EdI w0 l (.slice sa sb sc) k1 wr from⟨by
      obtain⟨h1,h2⟩:=HXK.out
      rw[←HK1.out.1,Z5l h1,h2]
      have:=HJ.out.own
      rw[←HM.out] at this
      exact this,HJ.out.nw⟩)
     clear hltj HJ
     go_wp2_with fail
     exact⟨⟨k1,_,_,_,rfl,rfl,by rw[←HK1.out.1];exact HK1.out.2,HI2⟩,by rw[←HK1.out.1];exact Y1 HK1.out.2⟩
  ·obtain rfl:k=n:=Nat.le_antisymm hkn (Nat.le_of_not_lt hlt)
   have Yc:¬k<k:=Nat.lt_irrefl k
   have HS:=hD0 (Z0a (Zo.at_ HI.out.own) (Nat.le_trans (Z3g (l:=l) (by rw[HN.out];exact hl) (fun x hx=>(HX.out x hx).len) k) (by decide)))
   have HI2:=hD0 HI.out.nw
   clear hlt HI
   go_wp2_with fail
   refine HS.out.mono ?_
   rintro e w9 ⟨v9,rfl,hO9,g9⟩
   have HZ:=hD0 (aI0 (show Zo w9 w0.heap.size v9 (sortE (edL l k)) from Z7p hO9 HI2.out.sz) (HI2.out.trans g9))
   clear hO9 g9
   go_wp2
   go_ret
   exact⟨_,rfl,HZ.out.1,HZ.out.2⟩
def HB(w:World)(B:Nat)(t r:Int)(v:Value)(W:Int):Prop:=w.heap[B]?=some (.cells #[.int .i64 t,.int .i64 r,v,.int .i64 W] 40)
section
open Go.ChangeShapes Go.WideShapes Go.ChangeAt Go.RowKit Go.Deep
theorem Z3i{α:Type}{n:Nat}{Q:Nat→α→Prop}(h:∀i,i<n→∃x,Q i x):∃l:List α,l.length=n∧∀i (hi:i<l.length),Q i l[i]:=by
 induction n with
 | zero=>exact⟨[],rfl,fun i hi=>by simp at hi⟩
 | succ n ih =>
  obtain⟨l,hl,hq⟩:=ih fun i hi=>h i (by omega)
  obtain⟨x,hx⟩:=h n (by omega)
  refine⟨l++[x],by simp[hl],fun i hi=>?_⟩
  rw[List.length_append,List.length_singleton] at hi
  by_cases q:i<l.length
  ·rw[List.getElem_append_left q];exact hq i q
  ·have:i=n:=by omega
   subst this
   rw[List.getElem_append_right (by omega)]
   simpa using hx
theorem Zac{cs:List Value}(h:cs.length=4):∃v0 v1 v2 v3,cs=[v0,v1,v2,v3]:=by
 match cs,h with
 | [v0,v1,v2,v3],_=>exact⟨v0,v1,v2,v3,rfl⟩
theorem Zad{cs:List Value}(h:cs.length=5):∃v0 v1 v2 v3 v4,cs=[v0,v1,v2,v3,v4]:=by
 match cs,h with
 | [v0,v1,v2,v3,v4],_=>exact⟨v0,v1,v2,v3,v4,rfl⟩
theorem Z2t:prog.cellsOf 3=1:=by kernel_rfl
theorem Z42:prog.cellsOf 45=1:=by kernel_rfl
theorem Z70:prog.cellsOf 37=2:=by kernel_rfl
theorem Z3c:prog.cellsOf 47=5:=by kernel_rfl
theorem Z71:prog.cellsOf 38=1:=by kernel_rfl
theorem Z3b:prog.cellsOf 40=4:=by kernel_rfl
section
variable {H:Type} {enc:TypeId × Value→H} {w:World} {base:Nat} {spare:Nat→Bool} {held:Bool}
theorem Y7{α:Type}{xs:List α}{i:Nat}(h:i<xs.length):∃y,xs[i]?=some y:=⟨_,List.getElem?_eq_getElem h⟩
def Z4x(R:Rq):Prop:=(-9223372036854775808≤R.id∧R.id≤9223372036854775807)∧(-9223372036854775808≤R.txn∧R.txn≤9223372036854775807)∧(-9223372036854775808≤R.sn∧R.sn≤9223372036854775807)
theorem Z5x{n:Int}(h:(Lit.int .i64 n).wf=true):-9223372036854775808≤n∧n≤9223372036854775807:=by
 simp[Lit.wf,IntKind.min,IntKind.max,IntKind.signed,IntKind.bits] at h
 omega
theorem Z7n{fuel:Nat}{cs:List Value}{x:DataW H × List MemPlace}(h:DataW.trod enc prog w base spare held fuel 47 cs=some x):∃R:Rq,cs=Zq R∧Z4x R:=by
 obtain⟨xs,n,_,_,hl,hxl,hf⟩:=DataW.trod_struct underlying47 h
 rw[Z3c] at hl
 obtain⟨v0,v1,v2,v3,v4,rfl⟩:=Zad hl
 have f0:DataW.trod enc prog w base spare held n 3 (([v0,v1,v2,v3,v4].drop 0).take (prog.cellsOf 3))=xs[0]?:=hf 0 _ rfl
 have f1:DataW.trod enc prog w base spare held n 3 (([v0,v1,v2,v3,v4].drop 1).take (prog.cellsOf 3))=xs[1]?:=hf 1 _ rfl
 have f2:DataW.trod enc prog w base spare held n 45 (([v0,v1,v2,v3,v4].drop 2).take (prog.cellsOf 45))=xs[2]?:=hf 2 _ rfl
 have f3:DataW.trod enc prog w base spare held n 45 (([v0,v1,v2,v3,v4].drop 3).take (prog.cellsOf 45))=xs[3]?:=hf 3 _ rfl
 have f4:DataW.trod enc prog w base spare held n 3 (([v0,v1,v2,v3,v4].drop 4).take (prog.cellsOf 3))=xs[4]?:=hf 4 _ rfl
 simp at hxl
 obtain⟨y0,e0⟩:=Y7 (xs:=xs) (i:=0) (by omega)
 obtain⟨y1,e1⟩:=Y7 (xs:=xs) (i:=1) (by omega)
 obtain⟨y2,e2⟩:=Y7 (xs:=xs) (i:=2) (by omega)
 obtain⟨y3,e3⟩:=Y7 (xs:=xs) (i:=3) (by omega)
 obtain⟨y4,e4⟩:=Y7 (xs:=xs) (i:=4) (by omega)
 rw[e0] at f0
 rw[e1] at f1
 rw[e2] at f2
 rw[e3] at f3
 rw[e4] at f4
 simp only[Z2t,Z42,List.drop_succ_cons,List.drop_zero,List.take_succ_cons,List.take_zero] at f0 f1 f2 f3 f4
 obtain⟨a0,q0,_,u0⟩:=DataW.trod_int underlying3 f0
 obtain⟨a1,q1,_,u1⟩:=DataW.trod_int underlying3 f1
 obtain⟨a2,q2,_,u2⟩:=DataW.trod_int underlying45 f2
 obtain⟨a3,q3,_,u3⟩:=DataW.trod_int underlying45 f3
 obtain⟨a4,q4,_,u4⟩:=DataW.trod_int underlying3 f4
 obtain rfl:=(List.cons.inj q0).1
 obtain rfl:=(List.cons.inj q1).1
 obtain rfl:=(List.cons.inj q2).1
 obtain rfl:=(List.cons.inj q3).1
 obtain rfl:=(List.cons.inj q4).1
 exact⟨⟨a0,a1,a2,a3,a4⟩,rfl,Z5x u0,Z5x u1,Z5x u4⟩
theorem Z61{fuel:Nat}{v:Value}{x:DataW H × List MemPlace}(h:DataW.trod enc prog w base spare held fuel 38 [v]=some x):∃l,Yg w v l∧Up v∧∀R∈l,Z4x R:=by
 rcases open_slice underlying38 h with⟨hcs,_⟩ | ⟨a,len,cap,m,n,D,Pl,hcs,_,hl,hm,hmm,_,hi⟩
 ·simp only[List.cons.injEq,and_true] at hcs
  subst hcs
  exact⟨[],Rd.nil w,Nat.le_refl _,fun R hR=>by simp at hR⟩
 ·simp only[List.cons.injEq,and_true] at hcs
  subst hcs
  have hlm:len≤m:=by rw[hmm];split<;>omega
  have each:∀i,i<len→∃R:Rq,Z4x R∧∀j u,(Zq R)[j]?=some u→w.cell? (a.add (i*5+j))=some u:=by
   intro i hil
   obtain⟨cs',hc,ht⟩:=hi i (by omega)
   rw[Z3c] at hc
   obtain⟨R,rfl,hF⟩:=Z7n ht
   obtain⟨_,hcl,hat⟩:=World.cells?_some hc
   have key:∀j,j<5→w.cell? (a.add (i*5+j))=(Zq R)[j]?:=fun j hj=>by rw[←Go.Deep.add_add];exact hat j hj
   refine⟨R,hF,fun j u hj=>?_⟩
   have hj6:j<5:=by have:=(List.getElem?_eq_some_iff.1 hj).1;simpa [Zq] using this
   rw[key j hj6];exact hj
  obtain⟨l,hll,hq⟩:=Z3i each
  refine⟨l,?_,hl,fun R hR=>by obtain⟨i,hi,rfl⟩:=List.getElem_of_mem hR;exact(hq i (by omega)).1⟩
  subst hll
  rcases Nat.eq_zero_or_pos l.length with h0 | h0
  ·obtain rfl:=List.length_eq_zero_iff.1 h0
   exact⟨some a,cap,rfl,.inl ⟨rfl,fun e=>by cases e⟩⟩
  ·have hu:=(hq 0 h0).2 0 _ rfl
   obtain⟨b,o,spot⟩:=a
   have hs:spot=none:=by simpa [Addr.add] using World.cell?_spot hu
   subst hs
   refine⟨some ⟨b,o,none⟩,cap,rfl,.inr ⟨b,o,rfl,⟨?_,fun i hi c u hu=>?_⟩⟩⟩
   ·rw[Addr.add_lit] at hu
    exact World.block_lt_of_cell? _ _ hu
   ·have:=(hq i hi).2 c u hu
    rw[Addr.add_lit,←Nat.add_assoc] at this
    exact this
end
end
section
open Go.ChangeShapes Go.WideShapes Go.ChangeAt Go.RowKit Go.Deep
structure Z3z(w:World)(x:Hv):Prop where
 at_:Yg w x.v x.h.q
 cap:Up x.v
 fit:∀R∈x.h.q,Z4x R
theorem Z3z.nw{w w':World}{x:Hv}(h:Z3z w x)(g:Nw w w'):Z3z w' x:=⟨h.at_.nw g,h.cap,h.fit⟩
structure HdsIn(w:World)(a:Option Addr)(len cap:Nat)(l:List Hv):Prop where
 hl:l.length=len
 rd:Rd 4 Uu w (.slice a len cap) l
 hc:len≤cap
 all:∀x∈l,Z3z w x
theorem HdsIn.nw{w w':World}{a:Option Addr}{len cap:Nat}{l:List Hv}(h:HdsIn w a len cap l)(g:Nw w w'):HdsIn w' a len cap l:=⟨h.hl,h.rd.nw g,h.hc,fun x hx=>(h.all x hx).nw g⟩
section
variable {H:Type} {enc:TypeId × Value→H} {w:World} {base:Nat} {spare:Nat→Bool} {held:Bool}
theorem Z60{fuel:Nat}{cs:List Value}{x:DataW H × List MemPlace}(h:DataW.trod enc prog w base spare held fuel 40 cs=some x):∃y:Hv,cs=Uu y∧Z3z w y:=by
 obtain⟨xs,n,_,_,hl,hxl,hf⟩:=DataW.trod_struct underlying40 h
 rw[Z3b] at hl
 obtain⟨v0,v1,v2,v3,rfl⟩:=Zac hl
 have f0:DataW.trod enc prog w base spare held n 37 (([v0,v1,v2,v3].drop 0).take (prog.cellsOf 37))=xs[0]?:=hf 0 _ rfl
 have f1:DataW.trod enc prog w base spare held n 38 (([v0,v1,v2,v3].drop 2).take (prog.cellsOf 38))=xs[1]?:=hf 1 _ rfl
 have f2:DataW.trod enc prog w base spare held n 3 (([v0,v1,v2,v3].drop 3).take (prog.cellsOf 3))=xs[2]?:=hf 2 _ rfl
 simp at hxl
 obtain⟨y0,e0⟩:=Y7 (xs:=xs) (i:=0) (by omega)
 obtain⟨y1,e1⟩:=Y7 (xs:=xs) (i:=1) (by omega)
 obtain⟨y2,e2⟩:=Y7 (xs:=xs) (i:=2) (by omega)
 rw[e0] at f0
 rw[e1] at f1
 rw[e2] at f2
 simp only[Z2t,Z70,Z71,List.drop_succ_cons,List.drop_zero,List.take_succ_cons,List.take_zero] at f0 f1 f2
 obtain⟨q,hq,hc,hF⟩:=Z61 f1
 obtain⟨a3,q3,_,_⟩:=DataW.trod_int underlying3 f2
 obtain⟨xs',n',_,_,hl',hxl',hf'⟩:=DataW.trod_struct underlying37 f0
 have g0:DataW.trod enc prog w base spare held n' 3 (([v0,v1].drop 0).take (prog.cellsOf 3))=xs'[0]?:=hf' 0 _ rfl
 have g1:DataW.trod enc prog w base spare held n' 3 (([v0,v1].drop 1).take (prog.cellsOf 3))=xs'[1]?:=hf' 1 _ rfl
 simp at hxl'
 obtain⟨z0,r0⟩:=Y7 (xs:=xs') (i:=0) (by omega)
 obtain⟨z1,r1⟩:=Y7 (xs:=xs') (i:=1) (by omega)
 rw[r0] at g0
 rw[r1] at g1
 simp only[Z2t,List.drop_succ_cons,List.drop_zero,List.take_succ_cons,List.take_zero] at g0 g1
 obtain⟨a0,q0,_,_⟩:=DataW.trod_int underlying3 g0
 obtain⟨a1,q1,_,_⟩:=DataW.trod_int underlying3 g1
 obtain rfl:=(List.cons.inj q0).1
 obtain rfl:=(List.cons.inj q1).1
 obtain rfl:=(List.cons.inj q3).1
 exact⟨⟨⟨a0,a1,a3,q⟩,v2⟩,rfl,hq,hc,hF⟩
theorem open_hds{fuel:Nat}{a:Option Addr}{len cap:Nat}{x:DataW H × List MemPlace}(h:DataW.trod enc prog w base spare held fuel 34 (Value.slice a len cap).cells.toList=some x) :
  ∃l,HdsIn w a len cap l:=by
 rcases open_slice underlying34 h with⟨hcs,_⟩ | ⟨ad,len',cap',m,n,D,Pl,hcs,_,hl,hm,hmm,_,hi⟩
 ·simp[Value.cells] at hcs
  obtain⟨rfl,rfl,rfl⟩:=hcs
  exact⟨[],rfl,Rd.nil w,Nat.le_refl _,fun R hR=>by simp at hR⟩
 ·simp[Value.cells] at hcs
  obtain⟨rfl,rfl,rfl⟩:=hcs
  have hlm:len≤m:=by rw[hmm];split<;>omega
  have each:∀i,i<len→∃y:Hv,Z3z w y∧∀j u,(Uu y)[j]?=some u→w.cell? (ad.add (i*4+j))=some u:=by
   intro i hil
   obtain⟨cs',hc,ht⟩:=hi i (by omega)
   rw[Z3b] at hc
   obtain⟨y,rfl,hF⟩:=Z60 ht
   obtain⟨_,hcl,hat⟩:=World.cells?_some hc
   have key:∀j,j<4→w.cell? (ad.add (i*4+j))=(Uu y)[j]?:=fun j hj=>by rw[←Go.Deep.add_add];exact hat j hj
   refine⟨y,hF,fun j u hj=>?_⟩
   have hj6:j<4:=by have:=(List.getElem?_eq_some_iff.1 hj).1;simpa [Uu] using this
   rw[key j hj6];exact hj
  obtain⟨l,hll,hq⟩:=Z3i each
  refine⟨l,hll,?_,hl,fun R hR=>by obtain⟨i,hi,rfl⟩:=List.getElem_of_mem hR;exact(hq i (by omega)).1⟩
  subst hll
  rcases Nat.eq_zero_or_pos l.length with h0 | h0
  ·obtain rfl:=List.length_eq_zero_iff.1 h0
   exact⟨some ad,cap,rfl,.inl ⟨rfl,fun e=>by cases e⟩⟩
  ·have hu:=(hq 0 h0).2 0 _ rfl
   obtain⟨b,o,spot⟩:=ad
   have hs:spot=none:=by simpa [Addr.add] using World.cell?_spot hu
   subst hs
   refine⟨some ⟨b,o,none⟩,cap,rfl,.inr ⟨b,o,rfl,⟨?_,fun i hi c u hu=>?_⟩⟩⟩
   ·rw[Addr.add_lit] at hu
    exact World.block_lt_of_cell? _ _ hu
   ·have:=(hq i hi).2 c u hu
    rw[Addr.add_lit,←Nat.add_assoc] at this
    exact this
end
end
def Z7j:Value→Nat
 | .slice _ n _=>n
 | _=>0
theorem Z8y{w:World}{v:Value}{l:List Int}(h:IS w v l):Z7j v=l.length:=by
 rcases h.form with⟨rfl,rfl⟩ | ⟨g,cap,rfl⟩<;>rfl
structure ScI(w:World)(t r W:Int)(a1:Option Addr)(n1 k1:Nat)(g0 pb rb:Nat)(q:List Rq)(u:Value)(ids:List Int)(q':List Rq)(x:World):Prop where
 isr:IS x u ids
 new:∀g,u.ownBlock=some g→w.heap.size≤g
 own:Zi x g0 (.slice a1 n1 k1) q'
 len:q'.length=n1
 st:Steps q ids q'
 pb:x.heap[pb]?=some (.cells #[.int .i64 t,.int .i64 r,.slice a1 n1 k1,.int .i64 W] 40 (0,0))
 rb:x.heap[rb]?=some (.cells #[.int .i64 0,.int .i64 0,.slice none 0 0,.int .i64 0] 40 (0,0))
 nw:Nw w x
theorem ScI.nx{w:World}{t r W:Int}{a1:Option Addr}{n1 k1 g0 pb rb:Nat}{q:List Rq}{u:Value}{ids:List Int}{q':List Rq}{x y:World}(h:ScI w t r W a1 n1 k1 g0 pb rb q u ids q' x)(g:Nw x y):ScI w t r W a1 n1 k1 g0 pb rb q u ids q' y :=
 ⟨h.isr.nw g,h.new,onw h.own g,h.len,h.st,g.at' h.pb,g.at' h.rb,h.nw.trans g⟩
theorem Z3m{q:List Rq}{m:Int}{W:Int}(h:Ok W q){k:Nat}(hk:k<q.length)(hf:¬Z0h q m (k:Int)):∃o∈q,o.id≠q[k].id∧o.md≠0∧Ys o.md m=false:=by
 refine Classical.byContradiction fun hn=>hf fun j hj ne hm=>?_
 cases e:Ys q[j].md m with
 | true=>rfl
 | false=>exact absurd ⟨q[j],gM0 hj,Z9u h hj hk (by omega),hm,e⟩ hn
theorem Z5s{q:List Rq}{m:Int}{k:Nat}(hk:k<q.length)(hf:Z0h q m (k:Int)):∀o∈q,o.id≠q[k].id→o.md≠0→Ys o.md m=true:=by
 intro o ho ne hm
 obtain⟨j,hj,rfl⟩:=List.getElem_of_mem ho
 exact hf j hj (fun e=>ne (by
  have:j=k:=by omega
  subst this;rfl)) hm
theorem Ud{w:World}{B:Nat}{o:Option Obj}{p:Addr}(h:w.heap[B]?=o)(hp:p.block≠B)(u:Value):(w.setCell p u).heap[B]?=o:=by
 rw[←h]
 exact Below.heap_setCell _ _ _ _ (by first | exact hp | exact hp.symm)
theorem V4{w:World}{g0 e size n:Nat}{v:Value}{xs:List Value}{p:Addr}(h:w.ownsRow g0 e size v n xs)(hp:∀g,v.ownBlock=some g→g≠p.block)(u:Value):(w.setCell p u).ownsRow g0 e size v n xs :=
 Z3n h (Z34 w p u) (fun g hg q=>hp g hg (Option.some.inj q).symm)
theorem Uv{w:World}{u:Value}{l:List Int}{B:Nat}{c:Array Value}{T:TypeId}{fr:Nat × Nat}(h:IS w u l)(hb:w.heap[B]?=some (.cells c T fr))(hT:T≠3):∀g,u.ownBlock=some g→g≠B:=by
 rintro g hg rfl
 obtain⟨c',hc⟩:=Zp h hg
 rw[hb] at hc
 injection hc with hc
 injection hc with _ e _
 exact hT e
theorem ScI.grt{w:World}{t r W:Int}{g n1 k1 g0 pb rb i j:Nat}{q:List Rq}{u a b:Value}{ids:List Int}{q':List Rq}{x:World}(h:ScI w t r W (some ⟨g,0,none⟩) n1 k1 g0 pb rb q u ids q' x)(hu:∀g',u.ownBlock=some g'→g'≠g)(hp:g≠pb)(hr:g≠rb)(hw:w.heap.size≤g) :
  IS ((x.drew.setCell ⟨g,i,none⟩ a).setCell ⟨g,j,none⟩ b) u ids∧((x.drew.setCell ⟨g,i,none⟩ a).setCell ⟨g,j,none⟩ b).heap[pb]?=some (.cells #[.int .i64 t,.int .i64 r,.slice (some ⟨g,0,none⟩) n1 k1,.int .i64 W] 40 (0,0)) ∧
   ((x.drew.setCell ⟨g,i,none⟩ a).setCell ⟨g,j,none⟩ b).heap[rb]?=some (.cells #[.int .i64 0,.int .i64 0,.slice none 0 0,.int .i64 0] 40 (0,0))∧Nw w ((x.drew.setCell ⟨g,i,none⟩ a).setCell ⟨g,j,none⟩ b) :=
 ⟨V4 (V4 (h.isr.nw (Nw.refl _).dr) (p:=⟨g,i,none⟩) hu a) (p:=⟨g,j,none⟩) hu b,Ud (Ud (w:=x.drew) h.pb (p:=⟨g,i,none⟩) hp a) (p:=⟨g,j,none⟩) hp b,Ud (Ud (w:=x.drew) h.rb (p:=⟨g,i,none⟩) hr a) (p:=⟨g,j,none⟩) hr b,
  (h.nw.dr.st (p:=⟨g,i,none⟩) hw a).st (p:=⟨g,j,none⟩) hw b⟩
theorem Z7q{w w':World}{g0 e size n:Nat}{u v:Value}{xs:List Value}(ho:w.ownsRow g0 e size v n xs)(hg:Zd (fun k=>u.ownBlock=some k) w w')(hne:∀g,v.ownBlock=some g→u.ownBlock≠some g):w'.ownsRow g0 e size v n xs :=
 Z3n ho (row:=u.ownBlock) ⟨hg.os,hg.tape,hg.output,hg.size,fun k hk hn=>hg.block k hk (fun e=>hn e.symm)⟩ hne
theorem ScI.push{w:World}{t r W:Int}{g n1 k1 g0 pb rb:Nat}{q:List Rq}{u u':Value}{ids:List Int}{c:Int}{q':List Rq}{y y1:World}(hi:IS y u ids)(hn:∀g,u.ownBlock=some g→w.heap.size≤g)(ho:Zi y g0 (.slice (some ⟨g,0,none⟩) n1 k1) q')(hl:q'.length=n1)(st:Steps q (ids++[c]) q')
  (hp:y.heap[pb]?=some (.cells #[.int .i64 t,.int .i64 r,.slice (some ⟨g,0,none⟩) n1 k1,.int .i64 W] 40 (0,0))) (hr:y.heap[rb]?=some (.cells #[.int .i64 0,.int .i64 0,.slice none 0 0,.int .i64 0] 40 (0,0))) (nw:Nw w y)
  (i1:IS y1 u' (ids++[c])) (tch:Zd (fun k=>u.ownBlock=some k) y y1) (hb:∀k,u'.ownBlock=some k→u.ownBlock=some k∨y.heap.size≤k) (hug:∀g',u.ownBlock=some g'→g'≠g):ScI w t r W (some ⟨g,0,none⟩) n1 k1 g0 pb rb q u' (ids++[c]) q' y1 :=
 ⟨i1,fun k e=>(hb k e).elim (hn k) (fun q=>Nat.le_trans nw.sz q),Z7q ho tch (fun g2 e e2=>hug g2 e2 (Option.some.inj e).symm),hl,st,(tch.block pb (hlt hp) (fun e=>Uv hi hp (by decide) pb e rfl)).trans hp,(tch.block rb (hlt hr) (fun e=>Uv hi hr (by decide) rb e rfl)).trans hr,Zg nw tch hn⟩
theorem Z18{a:World}{rb:Nat}{v:Value}{l:List Int}(h:IS a v l)(hb:∀g,v.ownBlock=some g→g≠rb)(u0 u1 u2 u3:Value):IS ((((a.setCell ⟨rb,0,none⟩ u0).setCell ⟨rb,1,none⟩ u1).setCell ⟨rb,2,none⟩ u2).setCell ⟨rb,3,none⟩ u3) v l :=
 V4 (V4 (V4 (V4 h (p:=⟨rb,0,none⟩) hb u0) (p:=⟨rb,1,none⟩) hb u1) (p:=⟨rb,2,none⟩) hb u2) (p:=⟨rb,3,none⟩) hb u3
theorem Z7y(t r W:Int)(v:Value)(q:List Rq)(w:World)(hl:q.length≤1000)(hok:Ok W q)(h:Yg w v q) :
  Calls prog 15 #[Vi t r v W] w fun e w'=>∃v' vi,e=.returned (.tuple #[Vi t r v' W,vi])∧Nw w w'∧Yg w' v' (Ya q).2∧(Up v'∧newV w.heap.size v')∧IS w' vi (Ya q).1∧∀g,vi.ownBlock=some g→w.heap.size≤g:=by
 have HOk:=hD0 hok
 clear hok
 have HCp:=hD0 (fun(w1:World) (g:Nw w w1)=>Z68 t r W v q w1 hl (h.nw g))
 unfold Vi at HCp
 unfold Vi
 obtain⟨a,c,rfl,h⟩:=h
 clear h
 have HX:=hD0 (V5 w (.cells #[.int .i64 t,.int .i64 r,.slice a q.length c,.int .i64 W] 40) (.cells #[.int .i64 0,.int .i64 0,.slice none 0 0,.int .i64 0] 40))
 go_enter func15,ntmps15
 go_wp2_with fail
 refine(HCp.out _ HX.out.2.2.1).mono ?_
 rintro e w1 ⟨v1,rfl,g1,hO⟩
 rw[HX.out.2.2.2] at hO
 obtain⟨a1,k1,hv1⟩:=(Zi.rd hO).form
 subst hv1
 have hq1:=g1.at' HX.out.2.1
 have hN1:=HX.out.2.2.1.trans g1
 have hal:=Z5 w1 (.cells #[.int .i64 t,.int .i64 r,.slice a1 q.length k1,.int .i64 W] 40)
 have hNa:Nw w1 (w1.alloc (.cells #[.int .i64 t,.int .i64 r,.slice a1 q.length k1,.int .i64 W] 40)):=(Nw.refl w1).alloc _
 have hs1:=g1.sz
 rw[HX.out.2.2.2] at hs1
 obtain⟨pb,hpb⟩:∃pb,w1.heap.size=pb:=⟨_,rfl⟩
 rw[hpb] at hal
 have hne:∀g,(Value.slice a1 q.length k1).ownBlock=some g→g≠pb:=fun g hg e=>by have:=olt hO hg;omega
 have hI:ScI w t r W a1 q.length k1 (w.heap.size+1+1) pb (w.heap.size+1) q (.slice none 0 0) [] q (w1.alloc (.cells #[.int .i64 t,.int .i64 r,.slice a1 q.length k1,.int .i64 W] 40)):=⟨IS.nil _,fun g hg=>by simp[Value.ownBlock] at hg,onw hO hNa,rfl,.refl,hal,hNa.at' hq1,hN1.trans hNa⟩
 have HPn:=hD0 (aI0 hne (show w.heap.size+1+1≤pb by omega))
 have HPb:=hD0 hpb
 clear hne hpb hs1 g1 hq1 hN1 hal hNa hO HX HCp
 go_wp2
 rw[HPb.out]
 clear HPb
 generalize w1.alloc (.cells #[.int .i64 t,.int .i64 r,.slice a1 q.length k1,.int .i64 W] 40)=z at *
 clear w1
 go_loopw [5] (fun u wr=>∃ids q',ScI w t r W a1 q.length k1 (w.heap.size+1+1) pb (w.heap.size+1) q u ids q' wr) (fun u _=>wtg q-Z7j u)
 case atStart=>exact⟨[],q,hI⟩
 case round =>
  clear hI
  obtain⟨ids,q2,hS⟩:=hrel
  have hok2:=hS.st.ok HOk.out
  have hl2:q2.length≤1000:=by rw[hS.len];exact hl
  have hal:=hS.pb
  have p0:=Z2 (j:=0) hal
  have p1:=Z2 (j:=1) hal
  have p2:=Z2 (j:=2) hal
  have p3:=Z2 (j:=3) hal
  have hpl:=hlt hal
  have HU:=hD0 (Z2d t r W (.slice a1 q.length k1) q2 wr hl2 hS.own.rd)
  have HWa:=hD0 (fun(w1:World) (g:Nw wr w1)=>Z4m t r W (.slice a1 q.length k1) q2 w1 hl2 (hS.own.rd.nw g))
  have HF:=hD0 (fun(mm but:Int) (w1:World) (g:Nw wr w1)=>Z97 t r W mm but (.slice a1 q.length k1) q2 w1 hl2 (hS.own.rd.nw g))
  unfold Vi at HU HWa HF
  have HS:=hD0 hS
  have HO2:=hD0 hok2
  have hul:=Z8y hS.isr
  have hwt:=hS.st.wtg HOk.out
  have HM:=hD0 (aI0 hul hwt)
  clear hS hok2 hal hul hwt
  go_wp2_with fail
  refine HU.out.mono ?_
  rintro e w5 ⟨j,rfl,g5,hj⟩
  have HG5:=hD0 g5
  have hal5:=g5.at' HS.out.pb
  clear p0 p1 p2 p3 hpl g5
  have p0:=Z2 (j:=0) hal5
  have p1:=Z2 (j:=1) hal5
  have p2:=Z2 (j:=2) hal5
  have p3:=Z2 (j:=3) hal5
  have hpl:=hlt hal5
  clear hal5
  rcases hj with⟨rfl,hno⟩ | ⟨k,rfl,_,hk,hu,hmin⟩
  rotate_left
  ·skip
   have hmin2:=fun a ha u=>hmin a (by rw[List.take_length];exact ha) u
   have HYes:=hD0 (fun hf=>Z6y HO2.out (gM0 hk) hu hmin2 hf)
   have HNo:=hD0 (fun hf=>Z7c HO2.out (gM0 hk) hu hmin2 hf)
   clear hmin hmin2 hu HU HWa
   have hSz:=HS.out.nx HG5.out
   rcases Yx hSz.own with⟨e,_⟩ | ⟨g,cap,e⟩
   ·exfalso;have:=hSz.len;simp only[Value.slice.injEq] at e;omega
   simp only[Value.slice.injEq] at e
   obtain⟨rfl,e2,rfl⟩:=e
   clear e2
   have hnl:=hSz.len
   have hki:(k:Int)<(q.length:Int):=by omega
   have hk0:decide ((k:Int)<0)=false:=by simp
   have HCl:=hD0 (fun(x:World) (gx:Nw w5 x)=>Vk (onw hSz.own gx) hnl.symm k hk)
   have HFi:=hD0 (fun(f:¬Z0h q2 q2[k].wt (k:Int))=>Z3m HO2.out hk f)
   have HFy:=hD0 (fun(f:Z0h q2 q2[k].wt (k:Int))=>Z5s hk f)
   have HSz:=hD0 hSz
   have HUp:=hD0 (fun(x:World) (h:Zi x (w.heap.size+1+1) (.slice (some ⟨g,0,none⟩) q.length k1) q2)=>Ui (Ui h hnl.symm k hk 2 (by decide) (.int .i64 q2[k].wt) ⟨q2[k].id,q2[k].txn,q2[k].wt,q2[k].wt,q2[k].sn⟩ rfl) (by rw[List.length_set];exact hnl.symm) k (by rw[List.length_set];exact hk) 4 (by decide) (.int .i64 0) (Vb q2[k]) (by rw[List.getElem_set_self];rfl))
   simp only[List.set_set] at HUp
   have HSt:=hD0 (fun hc=>HS.out.st.snoc (gM0 hk) hc)
   have HCh:=hD0 (Z3e HO2.out Vb k hk)
   have HHk:=hD0 hk
   generalize q2[k]=R at *
   obtain⟨b0,b1,b2,b3,b4⟩:=R
   have hal:=hSz.pb
   clear hSz hk p0 p1 p2 p3 hpl
   go_wp2_with fail
   obtain⟨S,hSe⟩:∃S,S=Nw w5:=⟨_,rfl⟩
   have hS0:Hs S w5.drew:=by subst hSe;exact(Nw.refl _).dr
   have t0:∀x,Hs S x→x.cell? ⟨pb,0,none⟩=some (.int .i64 t):=fun x h=>by subst hSe;exact Nw.kp h (Z2 hal)
   have t1:∀x,Hs S x→x.cell? ⟨pb,1,none⟩=some (.int .i64 r):=fun x h=>by subst hSe;exact Nw.kp h (Z2 hal)
   have t2:∀x,Hs S x→x.cell? ⟨pb,2,none⟩=some (.slice (some ⟨g,0,none⟩) q.length k1):=fun x h=>by subst hSe;exact Nw.kp h (Z2 hal)
   have t3:∀x,Hs S x→x.cell? ⟨pb,3,none⟩=some (.int .i64 W):=fun x h=>by subst hSe;exact Nw.kp h (Z2 hal)
   have t4:∀x,Hs S x→x.cell? ⟨g,k*5+3,none⟩=some (.int .i64 b3):=fun x h=>by subst hSe;exact HCl.out x h 3 _ rfl
   have HN:=hD0 (show ∀a b,Hs S a→Nw a b→Hs S b from fun a b h g=>by subst hSe;exact Nw.trans h g)
   have HV:=hD0 (show ∀a,Hs S a→Nw w5 a from fun a h=>by subst hSe;exact h)
   clear hSe hal
   refine Ze (.take (.take (.take (.take (.take (.take (.take (.take (.take (.take (.take (.off (.go1 (.take (.take .fin))))))))))))))) (Hs S) (by kernel_rfl) (by kernel_rfl) (by kernel_rfl) hS0 ?_
   iterate 11 (refine HP.take' ?_;(first | (refine⟨undef,Or.inr ⟨by rfl,rfl⟩,?_⟩) | (apply Exists.intro;refine⟨Or.inl ⟨by rfl,?_⟩,?_⟩;(intro x hx';go_simp;first | done | with_reducible rfl)));(try simp only[Act.put,List.setIfInBounds_toArray,List.set_cons_zero,List.set_cons_succ]))
   refine HP.off ?_
   refine HP.go1 (fun KK hKK=>?_)
   go_simp
   refine(HF.out b3 (k:Int) _ ((HG5.out).trans (HV.out _ hS0))).mono ?_
   rintro e y1 ⟨f,rfl,gf,hff⟩
   have hS1:=HN.out _ _ hS0 gf
   refine hKK.out _ _ hS1 ?_
   intro _
   clear hKK KK
   (try simp only[Act.put,List.setIfInBounds_toArray,List.set_cons_zero,List.set_cons_succ])
   cases f
   ·iterate 2 (refine HP.take' ?_;(first | (refine⟨undef,Or.inr ⟨by rfl,rfl⟩,?_⟩) | (apply Exists.intro;refine⟨Or.inl ⟨by rfl,?_⟩,?_⟩;(intro x hx';go_simp;first | done | with_reducible rfl)));(try simp only[Act.put,List.setIfInBounds_toArray,List.set_cons_zero,List.set_cons_succ]))
    refine HP.end_ ?_
    refine NoPanic.normal ?_
    have HD:=hD0 (HNo.out (HFi.out (fun e=>by have:=hff.2 e;cases this)))
    have HY1:=hD0 ((HG5.out).trans (HV.out _ hS1))
    clear hff hS0 hS1 t0 t1 t2 t3 t4 HN HV gf HSt HCh HUp HCl HFi HFy HSz
    have hsc:=(HS.out.st.scan HOk.out HD.out)
    have hSn:=HS.out.nx HY1.out
    have hq:=hSn.rb
    have hal:=hSn.pb
    have p0:=Z2 (j:=0) hal
    have p1:=Z2 (j:=1) hal
    have p2:=Z2 (j:=2) hal
    have p3:=Z2 (j:=3) hal
    have d0:=Z2 (j:=0) hq
    have d1:=Z2 (j:=1) hq
    have d2:=Z2 (j:=2) hq
    have d3:=Z2 (j:=3) hq
    have fz:=fun k=>hfz (j:=k) hq
    have hpl:=hlt hal
    have HSn:=hD0 hSn
    have HSc:=hD0 hsc
    have HNe:=hD0 (Uv hSn.isr hq (by decide))
    obtain⟨ua,uc,hu5,_⟩:=hSn.isr.box
    obtain⟨ul,hul⟩:∃n,ids.length=n:=⟨_,rfl⟩
    rw[hul] at hu5
    subst hu5
    clear hsc hSn hq hal hul HD HYes HNo HF HM HO2
    go_wp2
    refine bodyPost_ret (v:=.tuple #[.agg #[.int .i64 t,.int .i64 r,.slice (some ⟨g,0,none⟩) q.length k1,.int .i64 W],.slice ua ul uc]) (by simp[results,results15,go_sem, *]) rfl ⟨_,_,rfl,Z19 HSn.out.nw (Nat.le_succ _) _ _ _ _,?_,?_,?_⟩
    ·rw[HSc.out];exact Zi.rd (Us HSn.out.own (by omega) _ _ _ _)
    ·exact⟨Zi.cap HSn.out.own,Zi.newV HSn.out.own (by omega)⟩
    ·rw[HSc.out];exact⟨Z18 HSn.out.isr HNe.out _ _ _ _,HSn.out.new⟩
   ·iterate 2 (refine HP.take' ?_;(first | (refine⟨undef,Or.inr ⟨by rfl,rfl⟩,?_⟩) | (apply Exists.intro;refine⟨Or.inl ⟨by rfl,?_⟩,?_⟩;(intro x hx';go_simp;first | done | with_reducible rfl)));(try simp only[Act.put,List.setIfInBounds_toArray,List.set_cons_zero,List.set_cons_succ]))
    refine HP.end_ ?_
    refine NoPanic.normal ?_
    have HD:=hD0 (HYes.out (HFy.out (hff.1 rfl)))
    have HY1:=hD0 (HV.out _ hS1)
    clear hff hS0 hS1 t0 t1 t2 t3 t4 HN HV gf HFi HFy HYes HNo HF
    have hy:=HSz.out.nx HY1.out
    have hg1:=oge hy.own (g:=g) rfl
    obtain⟨cr,hcr⟩:=Zp hy.own (g:=g) rfl
    have HIg:=hD0 (Uv hy.isr hcr (by decide))
    clear hcr
    have hpg:g≠pb:=HPn.out.1 g rfl
    have hpc:∀j,y1.cell? ⟨pb,j,none⟩=_:=fun j=>Z2 (j:=j) hy.pb
    have p2:=hpc 2
    have r2:=HCl.out _ HY1.out 2 _ rfl
    have r3:=HCl.out _ HY1.out 3 _ rfl
    have r4:=HCl.out _ HY1.out 4 _ rfl
    have rz:=Z3p hy.own (by exact hy.len.symm)
    have HU:=hD0 (HUp.out _ (onw hy.own (Nw.refl _).dr))
    have HY:=hD0 hy
    have HG:=hD0 (aI0 hg1 hpg)
    have n3:¬(pb=g):=fun e=>hpg e.symm
    have n4:¬(g=pb):=hpg
    clear hpc hy HCl HUp HSz hg1 hpg
    go_wp2_with fail
    obtain⟨y0,hy0⟩:∃y0,y1.drew=y0:=⟨_,rfl⟩
    obtain⟨S,hSe⟩:∃S:World→Prop,S=fun x=>x=y0∨x=y0.setCell ⟨g,k*5+2,none⟩ (.int .i64 b3)∨x=(y0.setCell ⟨g,k*5+2,none⟩ (.int .i64 b3)).setCell ⟨g,k*5+4,none⟩ (.int .i64 0):=⟨_,rfl⟩
    have s2:y0.cell? ⟨pb,2,none⟩=some (.slice (some ⟨g,0,none⟩) q.length k1):=by subst hy0;exact p2
    have s4:y0.cell? ⟨g,k*5+2,none⟩=some (.int .i64 b2):=by subst hy0;exact r2
    have s5:y0.cell? ⟨g,k*5+3,none⟩=some (.int .i64 b3):=by subst hy0;exact r3
    have s6:y0.cell? ⟨g,k*5+4,none⟩=some (.int .i64 b4):=by subst hy0;exact r4
    have s7:∀j,y0.frozen? ⟨g,j,none⟩=false:=by subst hy0;exact rz
    have t2:∀x,Hs S x→x.cell? ⟨pb,2,none⟩=some (.slice (some ⟨g,0,none⟩) q.length k1):=fun x h=>by subst hSe;rcases h with rfl | rfl | rfl<;>simp[go_sem,s2]
    have t4:∀x,Hs S x→x.cell? ⟨g,k*5+3,none⟩=some (.int .i64 b3):=fun x h=>by subst hSe;rcases h with rfl | rfl | rfl<;>simp[go_sem,s5]
    have hS0:Hs S y1.drew:=by rw[hy0,hSe];exact .inl rfl
    have hS1:Hs S (y0.setCell ⟨g,k*5+2,none⟩ (.int .i64 b3)):=by rw[hSe];exact .inr (.inl rfl)
    have hS2:Hs S ((y0.setCell ⟨g,k*5+2,none⟩ (.int .i64 b3)).setCell ⟨g,k*5+4,none⟩ (.int .i64 0)):=by rw[hSe];exact .inr (.inr rfl)
    clear hSe
    refine Ze (.take (.take (.take (.take (.take (.take (.take (.take (.take (.take (.take (.take (.take (.take (.off (.go1 (.take (.take (.off (.go1 .fin)))))))))))))))))))) (Hs S) (by kernel_rfl) (by kernel_rfl) (by kernel_rfl) hS0 ?_
    rw[hy0]
    iterate 14 (refine HP.take' ?_;(first | (refine⟨undef,Or.inr ⟨by rfl,rfl⟩,?_⟩) | (apply Exists.intro;refine⟨Or.inl ⟨by rfl,?_⟩,?_⟩;(intro x hx';go_simp;first | done | with_reducible rfl)));(try simp only[Act.put,List.setIfInBounds_toArray,List.set_cons_zero,List.set_cons_succ]))
    refine HP.off ?_
    refine HP.go1 (fun KK hKK=>?_)
    go_simp
    refine hKK.out _ _ hS1 ?_
    intro _
    clear hKK KK
    (try simp only[Act.put,List.setIfInBounds_toArray,List.set_cons_zero,List.set_cons_succ])
    iterate 2 (refine HP.take' ?_;(first | (refine⟨undef,Or.inr ⟨by rfl,rfl⟩,?_⟩) | (apply Exists.intro;refine⟨Or.inl ⟨by rfl,?_⟩,?_⟩;(intro x hx';go_simp;first | done | with_reducible rfl)));(try simp only[Act.put,List.setIfInBounds_toArray,List.set_cons_zero,List.set_cons_succ]))
    refine HP.off ?_
    refine HP.go1 (fun KK hKK=>?_)
    go_simp
    refine hKK.out _ _ hS2 ?_
    intro _
    clear hKK KK
    (try simp only[Act.put,List.setIfInBounds_toArray,List.set_cons_zero,List.set_cons_succ])
    refine HP.end_ ?_
    refine NoPanic.normal ?_
    subst hy0
    clear hS0 hS1 hS2 t2 t4 s2 s4 s5 s6 s7 p2 r2 r3 r4 rz n3 n4
    have hgg:=HG.out.1
    have hgr:=HY.out.grt (i:=k*5+2) (j:=k*5+4) (a:=.int .i64 b3) (b:=.int .i64 0) HIg.out HG.out.2 (by omega) (by omega)
    have hcl:=Vk HU.out (by rw[List.length_set];exact hnl.symm) k (by rw[List.length_set];exact HHk.out) 0 (.int .i64 b0) (by rw[List.getElem_set_self];rfl)
    simp only[Nat.add_zero] at hcl
    generalize (y1.drew.setCell ⟨g,k*5+2,none⟩ (.int .i64 b3)).setCell ⟨g,k*5+4,none⟩ (.int .i64 0)=y at *
    have p2:y.cell? ⟨pb,2,none⟩=some (.slice (some ⟨g,0,none⟩) q.length k1):=Z2 hgr.2.1
    have hSt:=HSt.out HD.out
    rw[HCh.out] at hSt
    have hw:=hSt.wtg HOk.out
    rw[List.length_append] at hw
    simp only[List.length_singleton] at hw
    have hwl:wtg q≤q.length:=List.countP_le_length
    obtain⟨ao,co,hu5,_⟩:=hgr.1.box
    subst hu5
    obtain⟨v3,y3,hrun,q1,qt,qb,g3,cap3,hv3⟩:=IS.push y _ ids b0 hgr.1 (by omega)
    subst hv3
    have hS3:=ScI.push hgr.1 HY.out.new HU.out (by rw[List.length_set];exact hnl) hSt hgr.2.1 hgr.2.2.1 hgr.2.2.2 q1 qt qb HIg.out
    have HS3:=hD0 hS3
    have HR2:=hD0 hrun
    have HW:=hD0 (aI0 HM.out.1 hw)
    clear hS3 hrun hw hwl hSt hgr q1 qt qb hgg HY HIg HG HU HD HSt HCh HM
    go_wp2_with (at_builtin;(refine Zn (by rfl) (.tmp 47) (.tmp 54) 24 rfl _ _ _ _ rfl rfl HR2.out ?_))
    go_roundw
    case rel=>exact⟨_,_,HS3.out⟩
    case measure=>have:=HW.out.1;have:=HW.out.2;simp[Z7j];omega
  have hno2:=fun a ha=>hno a (by rw[List.take_length];exact ha)
  go_wp2_with fail
  refine(HWa.out _ HG5.out).mono ?_
  rintro e w6 ⟨jw,rfl,g6,hjw⟩
  have HG6:=hD0 (HG5.out.trans g6)
  have hal6:=HG6.out.at' HS.out.pb
  clear p0 p1 p2 p3 hpl g6
  have p0:=Z2 (j:=0) hal6
  have p1:=Z2 (j:=1) hal6
  have p2:=Z2 (j:=2) hal6
  have p3:=Z2 (j:=3) hal6
  have hpl:=hlt hal6
  clear hal6
  rcases hjw with⟨rfl,hz⟩ | ⟨k,rfl,hk,hz,hfi⟩
  rotate_left
  ·skip
   have HYes:=hD0 (fun hf=>Z6z HO2.out hk hz hfi hno2 hf)
   have HNo:=hD0 (fun hf=>Z7d HO2.out hk hz hfi hno2 hf)
   clear hno hno2 hz hfi HU HWa
   have hSz:=HS.out.nx HG6.out
   rcases Yx hSz.own with⟨e,_⟩ | ⟨g,cap,e⟩
   ·exfalso;have:=hSz.len;simp only[Value.slice.injEq] at e;omega
   simp only[Value.slice.injEq] at e
   obtain⟨rfl,e2,rfl⟩:=e
   clear e2
   have hnl:=hSz.len
   have hki:(k:Int)<(q.length:Int):=by omega
   have hk0:decide ((k:Int)<0)=false:=by simp
   have HCl:=hD0 (fun(x:World) (gx:Nw w6 x)=>Vk (onw hSz.own gx) hnl.symm k hk)
   have HFi:=hD0 (fun(f:¬Z0h q2 q2[k].wt (k:Int))=>Z3m HO2.out hk f)
   have HFy:=hD0 (fun(f:Z0h q2 q2[k].wt (k:Int))=>Z5s hk f)
   have HSz:=hD0 hSz
   have HUp:=hD0 (fun(x:World) (h:Zi x (w.heap.size+1+1) (.slice (some ⟨g,0,none⟩) q.length k1) q2)=>Ui (Ui h hnl.symm k hk 2 (by decide) (.int .i64 q2[k].wt) ⟨q2[k].id,q2[k].txn,q2[k].wt,q2[k].wt,q2[k].sn⟩ rfl) (by rw[List.length_set];exact hnl.symm) k (by rw[List.length_set];exact hk) 4 (by decide) (.int .i64 0) (Vb q2[k]) (by rw[List.getElem_set_self];rfl))
   simp only[List.set_set] at HUp
   have HSt:=hD0 (fun hc=>HS.out.st.snoc (gM0 hk) hc)
   have HCh:=hD0 (Z3e HO2.out Vb k hk)
   have HHk:=hD0 hk
   generalize q2[k]=R at *
   obtain⟨b0,b1,b2,b3,b4⟩:=R
   have hal:=hSz.pb
   clear hSz hk p0 p1 p2 p3 hpl
   go_wp2_with fail
   obtain⟨S,hSe⟩:∃S,S=Nw w6:=⟨_,rfl⟩
   have hS0:Hs S w6.drew:=by subst hSe;exact(Nw.refl _).dr
   have t0:∀x,Hs S x→x.cell? ⟨pb,0,none⟩=some (.int .i64 t):=fun x h=>by subst hSe;exact Nw.kp h (Z2 hal)
   have t1:∀x,Hs S x→x.cell? ⟨pb,1,none⟩=some (.int .i64 r):=fun x h=>by subst hSe;exact Nw.kp h (Z2 hal)
   have t2:∀x,Hs S x→x.cell? ⟨pb,2,none⟩=some (.slice (some ⟨g,0,none⟩) q.length k1):=fun x h=>by subst hSe;exact Nw.kp h (Z2 hal)
   have t3:∀x,Hs S x→x.cell? ⟨pb,3,none⟩=some (.int .i64 W):=fun x h=>by subst hSe;exact Nw.kp h (Z2 hal)
   have t4:∀x,Hs S x→x.cell? ⟨g,k*5+3,none⟩=some (.int .i64 b3):=fun x h=>by subst hSe;exact HCl.out x h 3 _ rfl
   have HN:=hD0 (show ∀a b,Hs S a→Nw a b→Hs S b from fun a b h g=>by subst hSe;exact Nw.trans h g)
   have HV:=hD0 (show ∀a,Hs S a→Nw w6 a from fun a h=>by subst hSe;exact h)
   clear hSe hal
   refine Ze (.take (.take (.take (.take (.take (.take (.take (.take (.take (.take (.take (.off (.go1 (.take (.take .fin))))))))))))))) (Hs S) (by kernel_rfl) (by kernel_rfl) (by kernel_rfl) hS0 ?_
   iterate 11 (refine HP.take' ?_;(first | (refine⟨undef,Or.inr ⟨by rfl,rfl⟩,?_⟩) | (apply Exists.intro;refine⟨Or.inl ⟨by rfl,?_⟩,?_⟩;(intro x hx';go_simp;first | done | with_reducible rfl)));(try simp only[Act.put,List.setIfInBounds_toArray,List.set_cons_zero,List.set_cons_succ]))
   refine HP.off ?_
   refine HP.go1 (fun KK hKK=>?_)
   go_simp
   refine(HF.out b3 (k:Int) _ ((HG6.out).trans (HV.out _ hS0))).mono ?_
   rintro e y1 ⟨f,rfl,gf,hff⟩
   have hS1:=HN.out _ _ hS0 gf
   refine hKK.out _ _ hS1 ?_
   intro _
   clear hKK KK
   (try simp only[Act.put,List.setIfInBounds_toArray,List.set_cons_zero,List.set_cons_succ])
   cases f
   ·iterate 2 (refine HP.take' ?_;(first | (refine⟨undef,Or.inr ⟨by rfl,rfl⟩,?_⟩) | (apply Exists.intro;refine⟨Or.inl ⟨by rfl,?_⟩,?_⟩;(intro x hx';go_simp;first | done | with_reducible rfl)));(try simp only[Act.put,List.setIfInBounds_toArray,List.set_cons_zero,List.set_cons_succ]))
    refine HP.end_ ?_
    refine NoPanic.normal ?_
    have HD:=hD0 (HNo.out (HFi.out (fun e=>by have:=hff.2 e;cases this)))
    have HY1:=hD0 ((HG6.out).trans (HV.out _ hS1))
    clear hff hS0 hS1 t0 t1 t2 t3 t4 HN HV gf HSt HCh HUp HCl HFi HFy HSz
    have hsc:=(HS.out.st.scan HOk.out HD.out)
    have hSn:=HS.out.nx HY1.out
    have hq:=hSn.rb
    have hal:=hSn.pb
    have p0:=Z2 (j:=0) hal
    have p1:=Z2 (j:=1) hal
    have p2:=Z2 (j:=2) hal
    have p3:=Z2 (j:=3) hal
    have d0:=Z2 (j:=0) hq
    have d1:=Z2 (j:=1) hq
    have d2:=Z2 (j:=2) hq
    have d3:=Z2 (j:=3) hq
    have fz:=fun k=>hfz (j:=k) hq
    have hpl:=hlt hal
    have HSn:=hD0 hSn
    have HSc:=hD0 hsc
    have HNe:=hD0 (Uv hSn.isr hq (by decide))
    obtain⟨ua,uc,hu5,_⟩:=hSn.isr.box
    obtain⟨ul,hul⟩:∃n,ids.length=n:=⟨_,rfl⟩
    rw[hul] at hu5
    subst hu5
    clear hsc hSn hq hal hul HD HYes HNo HF HM HO2
    go_wp2
    refine bodyPost_ret (v:=.tuple #[.agg #[.int .i64 t,.int .i64 r,.slice (some ⟨g,0,none⟩) q.length k1,.int .i64 W],.slice ua ul uc]) (by simp[results,results15,go_sem, *]) rfl ⟨_,_,rfl,Z19 HSn.out.nw (Nat.le_succ _) _ _ _ _,?_,?_,?_⟩
    ·rw[HSc.out];exact Zi.rd (Us HSn.out.own (by omega) _ _ _ _)
    ·exact⟨Zi.cap HSn.out.own,Zi.newV HSn.out.own (by omega)⟩
    ·rw[HSc.out];exact⟨Z18 HSn.out.isr HNe.out _ _ _ _,HSn.out.new⟩
   ·iterate 2 (refine HP.take' ?_;(first | (refine⟨undef,Or.inr ⟨by rfl,rfl⟩,?_⟩) | (apply Exists.intro;refine⟨Or.inl ⟨by rfl,?_⟩,?_⟩;(intro x hx';go_simp;first | done | with_reducible rfl)));(try simp only[Act.put,List.setIfInBounds_toArray,List.set_cons_zero,List.set_cons_succ]))
    refine HP.end_ ?_
    refine NoPanic.normal ?_
    have HD:=hD0 (HYes.out (HFy.out (hff.1 rfl)))
    have HY1:=hD0 (HV.out _ hS1)
    clear hff hS0 hS1 t0 t1 t2 t3 t4 HN HV gf HFi HFy HYes HNo HF
    have hy:=HSz.out.nx HY1.out
    have hg1:=oge hy.own (g:=g) rfl
    obtain⟨cr,hcr⟩:=Zp hy.own (g:=g) rfl
    have HIg:=hD0 (Uv hy.isr hcr (by decide))
    clear hcr
    have hpg:g≠pb:=HPn.out.1 g rfl
    have hpc:∀j,y1.cell? ⟨pb,j,none⟩=_:=fun j=>Z2 (j:=j) hy.pb
    have p2:=hpc 2
    have r2:=HCl.out _ HY1.out 2 _ rfl
    have r3:=HCl.out _ HY1.out 3 _ rfl
    have r4:=HCl.out _ HY1.out 4 _ rfl
    have rz:=Z3p hy.own (by exact hy.len.symm)
    have HU:=hD0 (HUp.out _ (onw hy.own (Nw.refl _).dr))
    have HY:=hD0 hy
    have HG:=hD0 (aI0 hg1 hpg)
    have n3:¬(pb=g):=fun e=>hpg e.symm
    have n4:¬(g=pb):=hpg
    clear hpc hy HCl HUp HSz hg1 hpg
    go_wp2_with fail
    obtain⟨y0,hy0⟩:∃y0,y1.drew=y0:=⟨_,rfl⟩
    obtain⟨S,hSe⟩:∃S:World→Prop,S=fun x=>x=y0∨x=y0.setCell ⟨g,k*5+2,none⟩ (.int .i64 b3)∨x=(y0.setCell ⟨g,k*5+2,none⟩ (.int .i64 b3)).setCell ⟨g,k*5+4,none⟩ (.int .i64 0):=⟨_,rfl⟩
    have s2:y0.cell? ⟨pb,2,none⟩=some (.slice (some ⟨g,0,none⟩) q.length k1):=by subst hy0;exact p2
    have s4:y0.cell? ⟨g,k*5+2,none⟩=some (.int .i64 b2):=by subst hy0;exact r2
    have s5:y0.cell? ⟨g,k*5+3,none⟩=some (.int .i64 b3):=by subst hy0;exact r3
    have s6:y0.cell? ⟨g,k*5+4,none⟩=some (.int .i64 b4):=by subst hy0;exact r4
    have s7:∀j,y0.frozen? ⟨g,j,none⟩=false:=by subst hy0;exact rz
    have t2:∀x,Hs S x→x.cell? ⟨pb,2,none⟩=some (.slice (some ⟨g,0,none⟩) q.length k1):=fun x h=>by subst hSe;rcases h with rfl | rfl | rfl<;>simp[go_sem,s2]
    have t4:∀x,Hs S x→x.cell? ⟨g,k*5+3,none⟩=some (.int .i64 b3):=fun x h=>by subst hSe;rcases h with rfl | rfl | rfl<;>simp[go_sem,s5]
    have hS0:Hs S y1.drew:=by rw[hy0,hSe];exact .inl rfl
    have hS1:Hs S (y0.setCell ⟨g,k*5+2,none⟩ (.int .i64 b3)):=by rw[hSe];exact .inr (.inl rfl)
    have hS2:Hs S ((y0.setCell ⟨g,k*5+2,none⟩ (.int .i64 b3)).setCell ⟨g,k*5+4,none⟩ (.int .i64 0)):=by rw[hSe];exact .inr (.inr rfl)
    clear hSe
    refine Ze (.take (.take (.take (.take (.take (.take (.take (.take (.take (.take (.take (.take (.take (.take (.off (.go1 (.take (.take (.off (.go1 .fin)))))))))))))))))))) (Hs S) (by kernel_rfl) (by kernel_rfl) (by kernel_rfl) hS0 ?_
    rw[hy0]
    iterate 14 (refine HP.take' ?_;(first | (refine⟨undef,Or.inr ⟨by rfl,rfl⟩,?_⟩) | (apply Exists.intro;refine⟨Or.inl ⟨by rfl,?_⟩,?_⟩;(intro x hx';go_simp;first | done | with_reducible rfl)));(try simp only[Act.put,List.setIfInBounds_toArray,List.set_cons_zero,List.set_cons_succ]))
    refine HP.off ?_
    refine HP.go1 (fun KK hKK=>?_)
    go_simp
    refine hKK.out _ _ hS1 ?_
    intro _
    clear hKK KK
    (try simp only[Act.put,List.setIfInBounds_toArray,List.set_cons_zero,List.set_cons_succ])
    iterate 2 (refine HP.take' ?_;(first | (refine⟨undef,Or.inr ⟨by rfl,rfl⟩,?_⟩) | (apply Exists.intro;refine⟨Or.inl ⟨by rfl,?_⟩,?_⟩;(intro x hx';go_simp;first | done | with_reducible rfl)));(try simp only[Act.put,List.setIfInBounds_toArray,List.set_cons_zero,List.set_cons_succ]))
    refine HP.off ?_
    refine HP.go1 (fun KK hKK=>?_)
    go_simp
    refine hKK.out _ _ hS2 ?_
    intro _
    clear hKK KK
    (try simp only[Act.put,List.setIfInBounds_toArray,List.set_cons_zero,List.set_cons_succ])
    refine HP.end_ ?_
    refine NoPanic.normal ?_
    subst hy0
    clear hS0 hS1 hS2 t2 t4 s2 s4 s5 s6 s7 p2 r2 r3 r4 rz n3 n4
    have hgg:=HG.out.1
    have hgr:=HY.out.grt (i:=k*5+2) (j:=k*5+4) (a:=.int .i64 b3) (b:=.int .i64 0) HIg.out HG.out.2 (by omega) (by omega)
    have hcl:=Vk HU.out (by rw[List.length_set];exact hnl.symm) k (by rw[List.length_set];exact HHk.out) 0 (.int .i64 b0) (by rw[List.getElem_set_self];rfl)
    simp only[Nat.add_zero] at hcl
    generalize (y1.drew.setCell ⟨g,k*5+2,none⟩ (.int .i64 b3)).setCell ⟨g,k*5+4,none⟩ (.int .i64 0)=y at *
    have p2:y.cell? ⟨pb,2,none⟩=some (.slice (some ⟨g,0,none⟩) q.length k1):=Z2 hgr.2.1
    have hSt:=HSt.out HD.out
    rw[HCh.out] at hSt
    have hw:=hSt.wtg HOk.out
    rw[List.length_append] at hw
    simp only[List.length_singleton] at hw
    have hwl:wtg q≤q.length:=List.countP_le_length
    obtain⟨ao,co,hu5,_⟩:=hgr.1.box
    subst hu5
    obtain⟨v3,y3,hrun,q1,qt,qb,g3,cap3,hv3⟩:=IS.push y _ ids b0 hgr.1 (by omega)
    subst hv3
    have hS3:=ScI.push hgr.1 HY.out.new HU.out (by rw[List.length_set];exact hnl) hSt hgr.2.1 hgr.2.2.1 hgr.2.2.2 q1 qt qb HIg.out
    have HS3:=hD0 hS3
    have HR2:=hD0 hrun
    have HW:=hD0 (aI0 HM.out.1 hw)
    clear hS3 hrun hw hwl hSt hgr q1 qt qb hgg HY HIg HG HU HD HSt HCh HM
    go_wp2_with (at_builtin;(refine Zn (by rfl) (.tmp 47) (.tmp 54) 24 rfl _ _ _ _ rfl rfl HR2.out ?_))
    go_roundw
    case rel=>exact⟨_,_,HS3.out⟩
    case measure=>have:=HW.out.1;have:=HW.out.2;simp[Z7j];omega
  have HD:=hD0 (Z49 hno2 hz)
  clear hz hno hno2 HU HWa
  go_wp2_with fail
  obtain⟨S,hSe⟩:∃S,S=Nw w6:=⟨_,rfl⟩
  have hS0:Hs S w6.drew:=by subst hSe;exact(Nw.refl _).dr
  have HV:=hD0 (show ∀a,Hs S a→Nw w6 a from fun a h=>by subst hSe;exact h)
  clear hSe
  refine Ze (.take (.take (.take (.take (.take (.take (.take (.take (.take (.take (.take (.off (.go1 (.take (.take .fin))))))))))))))) (Hs S) (by kernel_rfl) (by kernel_rfl) (by kernel_rfl) hS0 ?_
  iterate 11 (refine HP.take' ?_;(first | (refine⟨undef,Or.inr ⟨by rfl,rfl⟩,?_⟩) | (apply Exists.intro;refine⟨Or.inl ⟨by rfl,?_⟩,?_⟩;(intro x hx';go_simp;first | done | with_reducible rfl)));(try simp only[Act.put,List.setIfInBounds_toArray,List.set_cons_zero,List.set_cons_succ]))
  refine HP.off ?_
  refine HP.go1 (fun KK hKK=>?_)
  go_simp
  refine hKK.out _ _ hS0 ?_
  intro _
  clear hKK KK
  (try simp only[Act.put,List.setIfInBounds_toArray,List.set_cons_zero,List.set_cons_succ])
  iterate 2 (refine HP.take' ?_;(first | (refine⟨undef,Or.inr ⟨by rfl,rfl⟩,?_⟩) | (apply Exists.intro;refine⟨Or.inl ⟨by rfl,?_⟩,?_⟩;(intro x hx';go_simp;first | done | with_reducible rfl)));(try simp only[Act.put,List.setIfInBounds_toArray,List.set_cons_zero,List.set_cons_succ]))
  refine HP.end_ ?_
  refine NoPanic.normal ?_
  have HY1:=hD0 HG6.out.dr
  clear hS0 HV HG6 HG5 p0 p1 p2 p3 hpl
  generalize w6.drew=y1 at *
  have hsc:=(HS.out.st.scan HOk.out HD.out)
  have hSn:=HS.out.nx HY1.out
  have hq:=hSn.rb
  have hal:=hSn.pb
  have p0:=Z2 (j:=0) hal
  have p1:=Z2 (j:=1) hal
  have p2:=Z2 (j:=2) hal
  have p3:=Z2 (j:=3) hal
  have d0:=Z2 (j:=0) hq
  have d1:=Z2 (j:=1) hq
  have d2:=Z2 (j:=2) hq
  have d3:=Z2 (j:=3) hq
  have fz:=fun k=>hfz (j:=k) hq
  have hpl:=hlt hal
  have HSn:=hD0 hSn
  have HSc:=hD0 hsc
  have HNe:=hD0 (Uv hSn.isr hq (by decide))
  obtain⟨ua,uc,hu5,_⟩:=hSn.isr.box
  obtain⟨ul,hul⟩:∃n,ids.length=n:=⟨_,rfl⟩
  rw[hul] at hu5
  subst hu5
  clear hsc hSn hq hal hul HD HF HM HO2
  go_wp2
  refine bodyPost_ret (v:=.tuple #[.agg #[.int .i64 t,.int .i64 r,.slice a1 q.length k1,.int .i64 W],.slice ua ul uc]) (by simp[results,results15,go_sem, *]) rfl ⟨_,_,rfl,Z19 HSn.out.nw (Nat.le_succ _) _ _ _ _,?_,?_,?_⟩
  ·rw[HSc.out];exact Zi.rd (Us HSn.out.own (by omega) _ _ _ _)
  ·exact⟨Zi.cap HSn.out.own,Zi.newV HSn.out.own (by omega)⟩
  ·rw[HSc.out];exact⟨Z18 HSn.out.isr HNe.out _ _ _ _,HSn.out.new⟩
theorem Z98(t r W:Int)(v:Value)(q:List Rq)(w:World)(hl:q.length≤1000)(hok:Ok W q)(h:Yg w v q) :
  Calls prog 15 #[Vi t r v W] w fun e w'=>∃v' vi,e=.returned (.tuple #[Vi t r v' W,vi])∧Nw w w'∧Yg w' v' (Ya q).2∧Up v'∧IS w' vi (Ya q).1 :=
 (Z7y t r W v q w hl hok h).mono fun e w' hx=>by
  obtain⟨v1,vi,h1,h2,h3,h4,h5⟩:=hx
  exact⟨v1,vi,h1,h2,h3,h4.1,h5.1⟩
def Z00(l:List Hv)(n:Nat):Bool:=decide (l.length≤n)&&l.all fun x=>decide (x.h.q.length≤12)
theorem Z4f{w0:World}{a:Option Addr}{len cap:Nat}{l:List Hv}(h:HdsIn w0 a len cap l)(n:Nat)(hn:n≤100) :
  Calls prog 31 #[.slice a len cap,.int .i64 n] w0 fun e w'=>e=.returned (.bool (Z00 l n))∧Nw w0 w':=by
 have HH:=hD0 h
 clear h
 by_cases hlen:n<len
 ·have d:decide ((n:Int)<(len:Int))=true:=by rw[decide_eq_true_iff];omega
  have d2:decide (n<len)=true:=by rw[decide_eq_true_iff];exact hlen
  have hf:Z00 l n=false:=by
   unfold Z00
   rw[show decide (l.length≤n)=false from by rw[decide_eq_false_iff_not,HH.out.hl];omega]
   rfl
  rw[hf]
  clear hlen hf
  go_enter func31,ntmps31
  go_wp2_with fail
  go_ret
  exact⟨rfl,Nw.refl _⟩
 ·have d:decide ((n:Int)<(len:Int))=false:=by rw[decide_eq_false_iff_not];omega
  have d2:decide (n<len)=false:=by rw[decide_eq_false_iff_not];exact hlen
  go_enter func31,ntmps31
  go_wp2_with fail
  go_loopw [5] (fun v wr=>∃k:Nat,v=.int .i64 k∧k≤len∧Hid ((∀j,(h:j<l.length)→j<k→l[j].h.q.length≤12)∧Nw w0 wr)) (fun v _=>len-(intOf v).toNat)
  case atStart=>exact⟨0,rfl,Nat.zero_le _,hD0 ⟨fun j _ h=>absurd h (Nat.not_lt_zero j),Nw.refl _⟩⟩
  case round =>
   obtain⟨k,rfl,hk,HI⟩:=hrel
   by_cases hlt:k<len
   ·have hkl:k<l.length:=by rw[HH.out.hl];exact hlt
    have hin:=HH.out.nw HI.out.2
    obtain⟨a',c',e',hed⟩:=hin.rd
    simp only[Value.slice.injEq] at e'
    obtain⟨rfl,_,rfl⟩:=e'
    rcases hed with⟨q,_⟩ | ⟨eb,eo,rfl,hrw⟩
    ·rw[q] at hkl;simp at hkl
    obtain⟨qa,qc,hqv⟩:=(hin.all _ (gM0 hkl)).at_.form
    have z2:=hrw.cell k hkl 2 l[k].v rfl
    rw[hqv] at z2
    have hebl:=hrw.lt
    obtain⟨m,hm⟩:∃m,l[k].h.q.length=m:=⟨_,rfl⟩
    rw[hm] at z2
    have Yc:=Zx hlt
    have hw:=Zw k (k+1) (by omega) rfl
    obtain⟨k1,hk1⟩:∃m,k+1=m:=⟨_,rfl⟩
    have HK1:=hD0 (aI0 hk1 hlt)
    have HM:=hD0 (show ∃h:k<l.length,l[k].h.q.length=m from⟨hkl,hm⟩)
    rw[hk1] at hw
    clear hk1 hkl hin hrw hqv hm hlt
    by_cases h12:12<m
    ·have dm:decide ((12:Int)<(m:Int))=true:=by rw[decide_eq_true_iff];omega
     have dm2:decide (12<m)=true:=by rw[decide_eq_true_iff];exact h12
     have hf:Z00 l n=false:=by
      obtain⟨h1,h2⟩:=HM.out
      unfold Z00
      rw[show(l.all fun x=>decide (x.h.q.length≤12))=false from by
       rw[List.all_eq_false]
       exact⟨_,gM0 h1,by rw[h2];simp;exact h12⟩,Bool.and_false]
     have HF:=hD0 hf
     clear hf h12
     go_wp2_with fail
     go_ret
     exact⟨by rw[HF.out];rfl,HI.out.2⟩
    ·have dm:decide ((12:Int)<(m:Int))=false:=by rw[decide_eq_false_iff_not];omega
     have dm2:decide (12<m)=false:=by rw[decide_eq_false_iff_not];exact h12
     have HI2:=hD0 (show ∀j,(h:j<l.length)→j<k1→l[j].h.q.length≤12 from fun j hj hjk=>by
      rw[←HK1.out.1] at hjk
      rcases Nat.lt_or_ge j k with q | q
      ·exact HI.out.1 j hj q
      ·obtain rfl:j=k:=by omega
       obtain⟨h1,h2⟩:=HM.out
       rw[h2];omega)
     have HN:=hD0 HI.out.2
     clear h12 HI
     go_wp2_with fail
     exact⟨⟨k1,rfl,by rw[←HK1.out.1];exact HK1.out.2,hD0 ⟨HI2.out,HN.out⟩⟩,by rw[←HK1.out.1];exact Y1 HK1.out.2⟩
   ·obtain rfl:k=len:=Nat.le_antisymm hk (Nat.le_of_not_lt hlt)
    have Yc:¬k<k:=Nat.lt_irrefl k
    have HT:=hD0 (show Z00 l n=true from by
     unfold Z00
     rw[show decide (l.length≤n)=true from by rw[decide_eq_true_iff,HH.out.hl];omega,Bool.true_and,List.all_eq_true]
     intro x hx
     obtain⟨j,hj,rfl⟩:=List.getElem_of_mem hx
     exact decide_eq_true (HI.out.1 j hj (by rw[←HH.out.hl];exact hj)))
    have HN:=hD0 HI.out.2
    clear hlt HI
    go_wp2_with fail
    go_ret
    exact⟨by rw[HT.out];rfl,HN.out⟩
def Z1f(l:List Hv):Bool:=Z00 l 8&&l.all fun x=>okQ x.h.W x.h.q
theorem Z4o{w0:World}{a:Option Addr}{len cap:Nat}{l:List Hv}(h:HdsIn w0 a len cap l) :
  Calls prog 14 #[.slice a len cap] w0 fun e w'=>e=.returned (.bool (Z1f l))∧Nw w0 w':=by
 have HH:=hD0 h
 have HL:=hD0 (Z4f h 8 (by decide))
 clear h
 obtain⟨lg,hlg⟩:∃b,Z00 l 8=b:=⟨_,rfl⟩
 rw[hlg] at HL
 cases lg with
 | false =>
  have hf:Z1f l=false:=by unfold Z1f;rw[hlg];rfl
  rw[hf]
  clear hf hlg
  go_enter func14,ntmps14
  go_wp2_with fail
  refine HL.out.mono ?_
  rintro e w1 ⟨rfl,g1⟩
  have HG:=hD0 g1
  clear g1
  go_wp2_with fail
  go_ret
  exact⟨rfl,HG.out⟩
 | true =>
  have hlg':=hlg
  unfold Z00 at hlg'
  rw[Bool.and_eq_true,decide_eq_true_iff,List.all_eq_true] at hlg'
  have HG0:=hD0 hlg
  have h8:len≤8:=by rw[←HH.out.hl];exact hlg'.1
  have HQ:=hD0 (show ∀x∈l,x.h.q.length≤12 from fun x hx=>of_decide_eq_true (hlg'.2 x hx))
  clear hlg hlg'
  go_enter func14,ntmps14
  go_wp2_with fail
  refine HL.out.mono ?_
  rintro e w1 ⟨rfl,g1⟩
  have HG:=hD0 g1
  clear g1 HL
  go_wp2_with fail
  go_loopw [3] (fun v wr=>∃k:Nat,v=.int .i64 k∧k≤len∧Hid ((∀j,(h:j<l.length)→j<k→okQ l[j].h.W l[j].h.q=true)∧Nw w0 wr)) (fun v _=>len-(intOf v).toNat)
  case atStart=>exact⟨0,rfl,Nat.zero_le _,hD0 ⟨fun j _ h=>absurd h (Nat.not_lt_zero j),HG.out⟩⟩
  case round =>
   obtain⟨k,rfl,hk,HI⟩:=hrel
   by_cases hlt:k<len
   ·have hkl:k<l.length:=by rw[HH.out.hl];exact hlt
    have hin:=HH.out.nw HI.out.2
    obtain⟨a',c',e',hed⟩:=hin.rd
    simp only[Value.slice.injEq] at e'
    obtain⟨rfl,hlx,rfl⟩:=e'
    rcases hed with⟨q,_⟩ | ⟨eb,eo,rfl,hrw⟩
    ·rw[q] at hkl;simp at hkl
    obtain⟨x,hx⟩:∃x,l[k]=x:=⟨_,rfl⟩
    have hxm:x∈l:=hx▸gM0 hkl
    have z0:=hrw.cell k hkl 0 (.int .i64 x.h.t) (by rw[hx];rfl)
    have z1:=hrw.cell k hkl 1 (.int .i64 x.h.r) (by rw[hx];rfl)
    have z2:=hrw.cell k hkl 2 x.v (by rw[hx];rfl)
    have z3:=hrw.cell k hkl 3 (.int .i64 x.h.W) (by rw[hx];rfl)
    simp only[Nat.add_zero] at z0 z1 z2 z3
    have hebl:=hrw.lt
    have HCk:=hD0 (Z7w x.h.t x.h.r x.h.W x.v x.h.q wr (Nat.le_trans (HQ.out x hxm) (by decide)) (hin.all x hxm).at_)
    have Yc:=Zx hlt
    have hw:=Zw k (k+1) (by omega) rfl
    obtain⟨k1,hk1⟩:∃m,k+1=m:=⟨_,rfl⟩
    have HK1:=hD0 (aI0 hk1 hlt)
    have HX:=hD0 (show ∃h:k<l.length,l[k]=x from⟨hkl,hx⟩)
    rw[hk1] at hw
    clear hk1 hkl hin hrw hxm hlt hx hlx
    go_wp2_with fail
    refine HCk.out.mono ?_
    rintro e w4 ⟨rfl,g4⟩
    have HN:=hD0 (HI.out.2.trans g4)
    obtain⟨ck,hck⟩:∃b,okQ x.h.W x.h.q=b:=⟨_,rfl⟩
    rw[hck]
    cases ck with
    | false =>
     rw[if_neg (by decide)]
     have HF:=hD0 (show Z1f l=false from by
      obtain⟨h1,h2⟩:=HX.out
      unfold Z1f
      rw[show(l.all fun x=>okQ x.h.W x.h.q)=false from by
       rw[List.all_eq_false]
       exact⟨_,gM0 h1,by rw[h2,hck];simp⟩,Bool.and_false])
     clear hck g4
     go_wp2_with fail
     go_ret
     exact⟨by rw[HF.out];rfl,HN.out⟩
    | true =>
     rw[if_pos rfl]
     have HI2:=hD0 (show ∀j,(h:j<l.length)→j<k1→okQ l[j].h.W l[j].h.q=true from fun j hj hjk=>by
      rw[←HK1.out.1] at hjk
      rcases Nat.lt_or_ge j k with q | q
      ·exact HI.out.1 j hj q
      ·obtain rfl:j=k:=by omega
       obtain⟨h1,h2⟩:=HX.out
       rw[h2];exact hck)
     clear hck g4 HI
     go_wp2_with fail
     exact⟨⟨k1,rfl,by rw[←HK1.out.1];exact HK1.out.2,hD0 ⟨HI2.out,HN.out⟩⟩,by rw[←HK1.out.1];exact Y1 HK1.out.2⟩
   ·obtain rfl:k=len:=Nat.le_antisymm hk (Nat.le_of_not_lt hlt)
    have Yc:¬k<k:=Nat.lt_irrefl k
    have HT:=hD0 (show Z1f l=true from by
     unfold Z1f
     rw[HG0.out,Bool.true_and,List.all_eq_true]
     intro x hx
     obtain⟨j,hj,rfl⟩:=List.getElem_of_mem hx
     exact HI.out.1 j hj (by rw[←HH.out.hl];exact hj))
    have HN:=hD0 HI.out.2
    clear hlt HI
    go_wp2_with fail
    go_ret
    exact⟨by rw[HT.out];rfl,HN.out⟩
def upB(r:Rq):Bool:=r.md != 0&&decide (0<r.sn)
def U7(q:List Rq)(k:Nat):Nat:=((q.take k).filter upB).length
theorem Z4v{q:List Rq}{k:Nat}(h:k<q.length):U7 q (k+1)=U7 q k+(if upB q[k]=true then 1 else 0):=by
 unfold U7
 rw[List.take_succ_eq_append_getElem h,List.filter_append,List.length_append]
 by_cases c:upB q[k]=true
 ·rw[if_pos c];simp[c]
 ·rw[if_neg c];simp[c]
theorem Z87(q:List Rq)(k:Nat):U7 q k≤k:=Nat.le_trans (List.length_filter_le _ _) (List.length_take_le _ _)
theorem gtN(n:Nat):decide ((1:Int)<(n:Int))=decide (1<n):=by
 by_cases h:1<n
 ·rw[decide_eq_true h,decide_eq_true_iff];omega
 ·rw[decide_eq_false h,decide_eq_false_iff_not];omega
theorem Z1i{w0:World}(t r W:Int)(v:Value)(q:List Rq)(hl:q.length≤1000)(h:Yg w0 v q) :
  Calls prog 17 #[Vi t r v W] w0 fun e w'=>e=.returned (.bool (decide (1<U7 q q.length)))∧Nw w0 w':=by
 obtain⟨a,c,rfl,hd⟩:=h
 have HD:=hD0 hd
 obtain⟨n,hn⟩:∃n,q.length=n:=⟨_,rfl⟩
 have HN:=hD0 hn
 rw[hn] at hl ⊢
 obtain⟨B,hB⟩:∃b,decide (1<U7 q n)=b:=⟨_,rfl⟩
 rw[hB]
 have HB:=hD0 hB
 clear hd hn hB
 unfold Vi
 go_enter func17,ntmps17
 go_wp2_with fail
 have hB:=Um.made w0 t r (.slice a n c) W 40
 have hN:Nw w0 (w0.alloc (.cells #[.int .i64 t,.int .i64 r,.slice a n c,.int .i64 W] 40)):=(Nw.refl w0).alloc _
 obtain⟨p,hp⟩:∃p,w0.heap.size=p:=⟨_,rfl⟩
 rw[hp] at hB
 rw[hp]
 clear hp
 generalize w0.alloc (.cells #[.int .i64 t,.int .i64 r,.slice a n c,.int .i64 W] 40)=z at *
 have HZ:=hD0 (aI0 hB hN)
 clear hB hN
 go_loopw [3,4] (fun v3 v4 wr=>∃(k m:Nat),v3=.int .i64 m∧v4=.int .i64 k∧k≤n∧Hid (m=U7 q k∧Nw z wr)) (fun _ v4 _=>n-(intOf v4).toNat)
 case atStart=>exact⟨0,0,rfl,rfl,Nat.zero_le _,hD0 ⟨rfl,Nw.refl _⟩⟩
 case round =>
  obtain⟨k,m,rfl,rfl,hk,HI⟩:=hrel
  have hb:=HZ.out.1.nw HI.out.2
  have h0:=hb.c0
  have h1:=hb.c1
  have h2:=hb.c2
  have h3:=hb.c3
  have hpl:=hb.lt
  clear hb
  by_cases hlt:k<n
  ·have hkl:k<q.length:=by rw[HN.out];exact hlt
   rcases HD.out with⟨e,_⟩ | ⟨eb,eo,rfl,hrc⟩
   ·rw[e] at hkl;simp at hkl
   have hrw:=hrc.nw (HZ.out.2.trans HI.out.2)
   have hce:=hrw.cell k hkl
   have hel:=hrw.lt
   have hm:=Nat.le_trans (Z87 q k) hk
   rw[←HI.out.1] at hm
   have HU:=hD0 (Z4v hkl)
   obtain⟨R,hR⟩:∃R,q[k]=R:=⟨_,rfl⟩
   simp only[hR] at hce HU
   obtain⟨b0,b1,b2,b3,b4⟩:=R
   have e0:=hce 0 _ rfl
   have e1:=hce 1 _ rfl
   have e2:=hce 2 _ rfl
   have e3:=hce 3 _ rfl
   have e4:=hce 4 _ rfl
   simp only[Nat.add_zero] at e0
   have Yc:=Zx hlt
   have hw:=Zw k (k+1) (by omega) rfl
   have hwm:=Zw m (m+1) (by omega) rfl
   obtain⟨k1,hk1⟩:∃m,k+1=m:=⟨_,rfl⟩
   obtain⟨m1,hm1⟩:∃x,m+1=x:=⟨_,rfl⟩
   have HK1:=hD0 (aI0 hk1 hlt)
   have HM1:=hD0 hm1
   rw[hk1] at hw
   rw[hm1] at hwm
   clear hk1 hm1 hkl hrc hrw hce hlt hR hm
   by_cases c1:b2=0
   ·subst c1
    have HS:=hD0 (show m=U7 q k1 from by rw[←HK1.out.1,HU.out,if_neg (by simp[upB]),HI.out.1];rfl)
    go_wp2_with fail
    exact⟨⟨k1,m,rfl,rfl,by rw[←HK1.out.1];exact HK1.out.2,hD0 ⟨HS.out,HI.out.2⟩⟩,by rw[←HK1.out.1];exact Y1 HK1.out.2⟩
   ·have d1:(b2==0)=false:=by simpa using c1
    have d2:(b2 != 0)=true:=by simp[c1]
    by_cases c2:0<b4
    ·have d3:decide (0<b4)=true:=decide_eq_true c2
     have HS:=hD0 (show m1=U7 q k1 from by rw[←HK1.out.1,←HM1.out,HU.out,if_pos (by simp[upB,c1,c2]),HI.out.1])
     clear c1 c2
     go_wp2_with fail
     exact⟨⟨k1,m1,rfl,rfl,by rw[←HK1.out.1];exact HK1.out.2,hD0 ⟨HS.out,HI.out.2⟩⟩,by rw[←HK1.out.1];exact Y1 HK1.out.2⟩
    ·have d3:decide (0<b4)=false:=decide_eq_false c2
     have HS:=hD0 (show m=U7 q k1 from by rw[←HK1.out.1,HU.out,if_neg (by simp[upB,c2]),HI.out.1];rfl)
     clear c1 c2
     go_wp2_with fail
     exact⟨⟨k1,m,rfl,rfl,by rw[←HK1.out.1];exact HK1.out.2,hD0 ⟨HS.out,HI.out.2⟩⟩,by rw[←HK1.out.1];exact Y1 HK1.out.2⟩
  ·obtain rfl:k=n:=Nat.le_antisymm hk (Nat.le_of_not_lt hlt)
   have Yc:¬k<k:=Nat.lt_irrefl k
   have dB:=gtN m
   have HT:=hD0 (show decide (1<m)=B from by rw[HI.out.1];exact HB.out)
   have HG:=hD0 (HZ.out.2.trans HI.out.2)
   clear hlt
   go_wp2_with fail
   go_ret
   exact⟨by first | rfl | (rw[HT.out];rfl),HG.out⟩
section
open Go.RowKit Go.Maps Go.ChangeMaps
def Zb(k:Int):Prop:=-9223372036854775808≤k∧k≤9223372036854775807
def Uh:Value→Option (DataW Unit × List MemPlace)
 | .int .i64 x=>some (.lit (.int .i64 x),[])
 | _=>none
theorem Yt(x:Int):Uh (.int .i64 x)=some (.lit (.int .i64 x),[]):=rfl
theorem V0{v:Value}{x:Int}{ps:List MemPlace}(h:Uh v=some (.lit (.int .i64 x),ps)):v=.int .i64 x:=by
 unfold Uh at h
 split at h
 ·injection h with h
  injection h with h1 _
  injection h1 with h1
  injection h1 with _ h1
  rw[h1]
 ·cases h
theorem Z4d:Keyed prog 3:=int_keyed underlying3
theorem Z5t{k:Int}(h:Zb k):keyOf prog 3 (.int .i64 k)=some (.int .i64 k):=keyOf_int_mk underlying3 (WalkArith.wf_i64 h)
theorem Z5r{k:Int}(h:Zb k):WideAt.IsKeyLit (.int .i64 k):=Z4d.key (Z5t h)
theorem Z6s(w:World):(zeroValue 3).run prog w=.ok (.int .i64 0) w:=by kernel_rfl
theorem Z3j{a b:Int}(h:a≠b):(Lit.int .i64 a)≠.int .i64 b:=fun e=>h (by injection e)
theorem Z9h{w:World}{b n:Nat}{D:DataW Unit}{R:Value→Option (DataW Unit × List MemPlace)}(h:w.ownsMap prog 3 R b n D):w.ownsMap prog 3 R b (Maps.size D) D:=by
 obtain⟨es,clock,e1,e2,e3,e4⟩:=h
 exact⟨es,clock,e1,e2,by rw[e4];simp[Maps.size,length_sorted],e4⟩
def Zh(w:World)(b:Nat)(f:Int→Option Int)(N:Nat):Prop :=
 ∃D:DataW Unit,w.ownsMap prog 3 Uh b (Maps.size D) D∧(∀k,Maps.has D (.int .i64 k)=(f k).isSome)∧(∀k x z,f k=some x→D.atKey (.int .i64 k) z=.lit (.int .i64 x))∧Maps.size D≤N
section
variable {w w':World} {b N:Nat} {f:Int→Option Int}
theorem Zh.kept{row:Option Nat}(h:Zh w b f N)(hg:w.grownBy w' row)(hne:some b≠row):Zh w' b f N:=by
 obtain⟨D,h1,h2⟩:=h
 exact⟨D,h1.kept hg hne,h2⟩
theorem Zh.nw(h:Zh w b f N)(g:Nw w w'):Zh w' b f N:=h.kept (g.grownBy none) (by simp)
theorem Zh.tch{S:Nat→Prop}(h:Zh w b f N)(g:Zd S w w')(hn:¬S b):Zh w' b f N:=by
 obtain⟨D,⟨es,clock,hb,F,hs,hD⟩,h2⟩:=h
 exact⟨D,⟨es,clock,(g.block b (Array.getElem?_eq_some_iff.1 hb).1 hn).trans hb,F,hs,hD⟩,h2⟩
theorem Zh.obj(h:Zh w b f N):∃es c,w.heap[b]?=some (.map es c):=by obtain⟨D,⟨es,c,h,_⟩,_⟩:=h;exact⟨es,c,h⟩
theorem Zh.le(h:Zh w b f N){M:Nat}(hM:N≤M):Zh w b f M:=by
 obtain⟨D,h1,h2,h3,h4⟩:=h
 exact⟨D,h1,h2,h3,Nat.le_trans h4 hM⟩
theorem Zh.made(w:World):Zh (w.alloc (.map #[] 0)) w.heap.size (fun _=>none) 0 :=
 ⟨.map [],(World.ownsMap_made _ _ _ _).mono (Nat.zero_le _),fun _=>rfl,(fun _ _ _ h=>nomatch h),Nat.le_refl _⟩
theorem Zh.look_no(h:Zh w b f N){k:Int}(hk:Zb k)(hc:f k=none) :
  (Instr.lookup 53 (.map (some b)) (.int .i64 k) true).run prog w=.ok (.tuple #[.int .i64 0,.bool false]) w:=by
 obtain⟨D,o,h2,h3,_⟩:=h
 obtain⟨v,ps,hr,hv⟩:=o.look_ok (t:=53) Z4d underlying53 (Z6s w) (Yt 0) (Z5t hk)
 have hh:=h2 k
 rw[hc] at hh
 rw[atKey_of_not_has hh] at hv
 rw[V0 hv,hh] at hr
 exact hr
theorem Zh.look_yes(h:Zh w b f N){k x:Int}(hk:Zb k)(hc:f k=some x) :
  (Instr.lookup 53 (.map (some b)) (.int .i64 k) true).run prog w=.ok (.tuple #[.int .i64 x,.bool true]) w:=by
 obtain⟨D,o,h2,h3,_⟩:=h
 obtain⟨v,ps,hr,hv⟩:=o.look_ok (t:=53) Z4d underlying53 (Z6s w) (Yt 0) (Z5t hk)
 have hh:=h2 k
 rw[hc] at hh
 rw[h3 k x _ hc] at hv
 rw[V0 hv,hh] at hr
 exact hr
theorem Zh.look_val(h:Zh w b f N){k x:Int}(hk:Zb k)(hc:f k=some x) :
  (Instr.lookup 53 (.map (some b)) (.int .i64 k) false).run prog w=.ok (.int .i64 x) w:=by
 obtain⟨D,o,h2,h3,_⟩:=h
 obtain⟨v,ps,hr,hv⟩:=o.lookup (t:=53) Z4d underlying53 (Z6s w) (Yt 0) (Z5t hk)
 rw[h3 k x _ hc] at hv
 rw[V0 hv] at hr
 exact hr
theorem Zh.put'(h:Zh w b f N)(hn:N<1000000){k:Int}(hk:Zb k)(x:Int) :
  ∃w',(Instr.mapUpdate 53 (.map (some b)) (.int .i64 k) (.int .i64 x)).run prog w=.ok () w'∧Zh w' b (Zk f k x) (if (f k).isSome=true then N else N+1)∧w.grownBy w' (some b):=by
 obtain⟨D,o,h2,h3,h4⟩:=h
 obtain⟨w',hr,o',hg⟩:=o.update (t:=53) Z4d underlying53 (by unfold maxLen;omega) (Z5t hk) (Yt x)
 have hsz:=size_put (k:=.int .i64 k) (o.tidy Z4d) (.lit (.int .i64 x))
 rw[h2 k] at hsz
 refine⟨w',hr,⟨D.put (.int .i64 k) (.lit (.int .i64 x)),Z9h o',fun y=>?_,fun y u z hy=>?_,?_⟩,hg⟩
 ·by_cases q:y=k
  ·subst q
   rw[has_put_same o.isMap (Z5r hk),Y6];rfl
  ·rw[has_put_other (Z3j q),h2 y,Y5 _ _ q]
 ·by_cases q:y=k
  ·subst q
   rw[Y6] at hy
   injection hy with hy
   subst hy
   exact atKey_put_same o.isMap (Z5r hk) _ _
  ·rw[Y5 _ _ q] at hy
   rw[atKey_put_other (Z3j q)]
   exact h3 y u z hy
 ·rw[hsz]
  split<;>omega
theorem Zh.put(h:Zh w b f N)(hn:N<1000000){k:Int}(hk:Zb k)(x:Int) :
  ∃w',(Instr.mapUpdate 53 (.map (some b)) (.int .i64 k) (.int .i64 x)).run prog w=.ok () w'∧Zh w' b (Zk f k x) (N+1)∧w.grownBy w' (some b):=by
 obtain⟨w',h1,h2,h3⟩:=h.put' hn hk x
 exact⟨w',h1,h2.le (by split<;>omega),h3⟩
theorem Zh.set(h:Zh w b f N)(hn:N<1000000){k:Int}(hk:Zb k)(x:Int)(hs:f k≠none) :
  ∃w',(Instr.mapUpdate 53 (.map (some b)) (.int .i64 k) (.int .i64 x)).run prog w=.ok () w'∧Zh w' b (Zk f k x) N∧w.grownBy w' (some b):=by
 obtain⟨w',h1,h2,h3⟩:=h.put' hn hk x
 refine⟨w',h1,h2.le ?_,h3⟩
 cases e:f k with
 | none=>exact absurd e hs
 | some y=>simp
end
end
end Go.Proofs.Ytobnolgphljoeaa
