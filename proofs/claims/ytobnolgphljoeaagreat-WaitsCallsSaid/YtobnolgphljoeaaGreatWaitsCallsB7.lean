/- Texts merged: QwB, WdH -/
import Derived.Test.YtobnolgphljoeaaGreatWaitsCallsB6
set_option linter.unusedVariables false
set_option maxRecDepth 100000
set_option maxHeartbeats 16000000
namespace Go.Proofs.YtobnolgphljoeaaGreat
open Go.RowKit _root_.Go.Proofs.Tryz
def bkC(S R:Rq):Bool:=!(R.id==S.id)&&((decide (0<R.sn)&&decide (toI R S<0)) || !cpI R.md S.wt)
def bkT(q:List Rq)(S:Rq)(k:Nat):List Int:=((q.take k).filter (bkC S)).map fun R=>R.txn
theorem Z5q(q:List Rq)(S:Rq)(k:Nat)(hk:k<q.length):bkT q S (k+1)=if bkC S q[k]=true then bkT q S k++[q[k].txn] else bkT q S k:=by
 unfold bkT
 rw[List.take_add_one,List.getElem?_eq_getElem hk,List.filter_append,List.map_append]
 by_cases e:bkC S q[k]=true
 ·rw[if_pos e];simp[e]
 ·rw[if_neg e];simp at e;simp[e]
theorem Uj(q:List Rq)(S:Rq)(k:Nat):(bkT q S k).length≤q.length:=by
 unfold bkT
 rw[List.length_map]
 exact Nat.le_trans (List.length_filter_le _ _) (by rw[List.length_take];omega)
theorem Z5r{W:Int}{q:List Rq}(h:Ok W q){S R:Rq}(hS:S∈q)(hR:R∈q)(hw:0<S.sn)(ne:R.id≠S.id):bkC S R=blk S R:=by
 have h1:=h.rt R hR
 have h2:=h.rt S hS
 have hz:R.md=0→0<R.sn:=fun e=>by
  rcases Int.lt_or_eq_of_le h1.s0 with g | g
  ·exact g
  ·exact absurd e (h1.h g.symm).1
 have hc0:R.md=0→cpI R.md S.wt=true:=fun e=>by rw[e];exact Z7n _ h2.wt
 unfold bkC blk
 rw[Bool.eq_iff_iff]
 simp only[Bool.and_eq_true,Bool.or_eq_true,Bool.not_eq_true',beq_eq_false_iff_ne,ne_eq,decide_eq_true_eq,bne_iff_ne,beq_iff_eq,Z4o]
 constructor
 ·rintro⟨_,⟨a,b | b⟩ | b⟩
  ·exact .inl (.inr ⟨⟨b.1,a⟩,.inl b.2⟩)
  ·by_cases e:R.md=0
   ·exact .inr ⟨⟨b.1.1 e,e⟩,b.2⟩
   ·exact .inl (.inr ⟨⟨e,a⟩,.inr b.2⟩)
  ·by_cases e:R.md=0
   ·rw[hc0 e] at b;cases b
   ·exact .inl (.inl ⟨e,b⟩)
 ·rintro((⟨a,b⟩ | ⟨⟨a,b⟩,c⟩) | ⟨⟨a,b⟩,c⟩)
  ·exact⟨ne,.inr b⟩
  ·refine⟨ne,.inl ⟨b,?_⟩⟩
   by_cases e:S.md=0
   ·exact .inl ⟨a,e⟩
   ·rcases c with c | c
    ·exact absurd c e
    ·exact .inr ⟨by simp[a,e],c⟩
  ·exact⟨ne,.inl ⟨hz b,.inr ⟨by simp[a,b],c⟩⟩⟩
theorem Z90{W:Int}{q:List Rq}(h:Ok W q){S:Rq}(hS:S∈q)(hw:0<S.sn):Lib.compact ((bkT q S q.length).mergeSort fun x y=>decide (x≤y))=Us q S:=by
 obtain⟨h1,h2⟩:=Z39 (bkT q S q.length)
 refine Z0d h1 (U7 q S) (fun x=>?_)
 rw[h2 x,Z1u]
 unfold bkT
 rw[List.take_of_length_le (Nat.le_refl _),List.mem_map]
 constructor
 ·rintro⟨R,hR,e⟩
  obtain⟨hR,hc⟩:=List.mem_filter.1 hR
  have ne:R.id≠S.id:=by unfold bkC at hc;simp at hc;exact hc.1
  exact⟨R,hR,ne,by rw[←Z5r h hS hR hw ne];exact hc,e⟩
 ·rintro⟨R,hR,ne,hc,e⟩
  exact⟨R,List.mem_filter.2 ⟨hR,by rw[Z5r h hS hR hw ne];exact hc⟩,e⟩
theorem Z4t(t r W id:Int)(v:Value)(q:List Rq)(w:World)(hl:q.length≤1000)(hok:Ok W q)(h:Ue w v q) :
  Calls prog 43 #[hdV t r v W,.int .i64 id] w fun e w'=>∃v',e=.returned v'∧Nw w w'∧IS w' v' (Yj q id):=by
 have HOk:=hD0 hok
 have HAt:=hD0 h
 clear hok
 obtain⟨X,hX⟩:∃X,Yj q id=X:=⟨_,rfl⟩
 rw[hX]
 have HFq:=hD0 (fun(z:World) (g:Nw w z)=>Z95 t r W id v q z hl (h.nw g))
 obtain⟨a,c,rfl,_⟩:=h
 unfold hdV at HFq ⊢
 have hx1:=Z4 w (.cells #[.int .i64 t,.int .i64 r,.slice a q.length c,.int .i64 W] 66)
 have hN:Nw w (w.alloc (.cells #[.int .i64 t,.int .i64 r,.slice a q.length c,.int .i64 W] 66)):=(Nw.refl w).alloc _
 obtain⟨w1,hw1⟩:∃w1,w.alloc (.cells #[.int .i64 t,.int .i64 r,.slice a q.length c,.int .i64 W] 66)=w1:=⟨_,rfl⟩
 rw[hw1] at hx1 hN
 have HW1:=hD0 hw1
 have HB:=hD0 (aI0 hx1 hN)
 have HFq1:=hD0 (HFq.out w1 hN)
 have c0:=Z2 (j:=0) hx1
 have c1:=Z2 (j:=1) hx1
 have c2:=Z2 (j:=2) hx1
 have c3:=Z2 (j:=3) hx1
 have hpl:=hlt hx1
 clear hw1 hx1 hN HFq
 unfold Z3f at HFq1
 cases hf:fnd q id with
 | none =>
  rw[hf] at HFq1
  simp only at HFq1
  have hR:=hX.symm.trans (show Yj q id=[] by unfold Yj;rw[hf])
  subst hR
  unfold Uq at HFq1
  clear hX hf
  go_enter func43,ntmps43
  go_wp2_with fail
  rw[HW1.out]
  go_wp2_with fail
  go_at_call 59
  refine HFq1.out.mono ?_
  rintro e w2 ⟨rfl,g2⟩
  have HG:=hD0 (HB.out.2.trans g2)
  clear c0 c1 c2 c3 hpl g2 HFq1
  go_wp2
  go_ret
  exact⟨_,rfl,HG.out.alloc _,IS.nil _⟩
 | some S =>
  rw[hf] at HFq1
  simp only at HFq1
  have hS:=(Z68 hf).1
  have hSi:=(Z68 hf).2
  have hX1:¬0<S.sn→X=[]:=fun s=>hX.symm.trans (by unfold Yj;rw[hf];exact if_neg s)
  have hX2:0<S.sn→X=Us q S:=fun s=>hX.symm.trans (by unfold Yj;rw[hf];exact if_pos s)
  have HX1:=hD0 hX1
  have HX2:=hD0 hX2
  have HSq:=hD0 (aI0 hS hSi)
  have HWa:=hD0 (fun z=>Z5w S z)
  have HAh:=hD0 (fun z=>Z5t S z)
  clear hX hf hX1 hX2 hS hSi
  have HSv:Hid (S=⟨S.id,S.txn,S.md,S.wt,S.sn⟩):=hD0 rfl
  obtain⟨s0,s1,s2,s3,s4⟩:=S
  simp only at HX1 HX2 HAh HSq
  unfold Uq at HFq1 HWa HAh
  clear HSv
  go_enter func43,ntmps43
  go_wp2_with fail
  rw[HW1.out]
  go_wp2_with fail
  go_at_call 59
  refine HFq1.out.mono ?_
  rintro e w2 ⟨rfl,g2⟩
  have hb3:=RqB.made w2 s0 s1 s2 s3 s4 69
  obtain⟨w3,hw3⟩:∃w3,w2.alloc (.cells #[.int .i64 s0,.int .i64 s1,.int .i64 s2,.int .i64 s3,.int .i64 s4] 69)=w3:=⟨_,rfl⟩
  have g3:Nw w2 w3:=by rw[←hw3];exact(Nw.refl w2).alloc _
  rw[hw3] at hb3
  have HW3:=hD0 hw3
  have HB3:=hD0 (aI0 hb3 (aI0 ((HB.out.2.trans g2).trans g3) (g3.at' (g2.at' HB.out.1))))
  obtain⟨yl,y0,y1,y2,y3,y4⟩:=hb3
  clear c0 c1 c2 c3 hpl g2 g3 hw3 HFq1
  go_wp2_with fail
  rw[HW3.out]
  go_wp2_with fail
  go_at_call 60
  refine(HWa.out _).mono ?_
  rintro e w4 ⟨rfl,g4⟩
  have HB4:=hD0 (aI0 (HB3.out.1.nw g4) (aI0 (HB3.out.2.1.trans g4) (g4.at' HB3.out.2.2)))
  clear yl y0 y1 y2 y3 y4 g4 HWa
  by_cases hs:0<s4
  rotate_left
  ·have ds:decide (0<s4)=false:=by simpa using hs
   have hR:=HX1.out (by first | exact hs | exact Int.not_lt.1 hs)
   subst hR
   clear hs HX1 HX2
   go_wp2
   go_ret
   exact⟨_,rfl,HB4.out.2.1,IS.nil _⟩
  have ds:decide (0<s4)=true:=by simpa using hs
  have hR:=HX2.out hs
  have HAll:=hD0 (Z90 HOk.out HSq.out.1 hs)
  rw[←hR] at HAll
  obtain⟨yl,y0,y1,y2,y3,y4⟩:=HB4.out.1
  clear hs HX1 HX2 hR
  go_wp2_with fail
  go_at_call 61
  refine(HAh.out _).mono ?_
  rintro e w5 ⟨pa,rfl,g5,hbx⟩
  obtain⟨g,lb,hfv,eg,hT⟩:=V2.ahead (S:=⟨s0,s1,s2,s3,s4⟩) hbx
  have HT:=hD0 hT
  have HB5:=hD0 (aI0 (HB4.out.1.nw g5) (aI0 (HB4.out.2.1.trans g5) (g5.at' HB4.out.2.2)))
  have c2:=Z2 (j:=2) HB5.out.2.2
  have hpl:=hlt HB5.out.2.2
  rw[hfv]
  clear yl y0 y1 y2 y3 y4 g5 hbx hT hfv HAh ds
  go_wp2
  clear c2 hpl
  go_loopw [8,29] (fun x i wr=>∃k:Nat,k≤q.length∧i=.int .i64 k∧IS wr x (bkT q ⟨s0,s1,s2,s3,s4⟩ k)∧Nw w5 wr∧∀g,x.ownBlock=some g→w5.heap.size≤g) (fun _ i _=>q.length-(intOf i).toNat)
  case atStart=>exact⟨0,Nat.zero_le _,rfl,IS.nil _,Nw.refl _,fun g e=>by simp[Value.ownBlock] at e⟩
  case round =>
   obtain⟨k,hk,rfl,hI,hN,hfr⟩:=hrel
   by_cases hlk:k<q.length
   ·obtain⟨a',c',e,⟨e4,_⟩ | ⟨b,o,e4,hc⟩⟩:=(HAt.out.nw (HB5.out.2.1.trans hN))
    ·subst e4;simp at hlk
    simp only[Value.slice.injEq,true_and] at e
    obtain⟨rfl,rfl⟩:=e
    subst e4
    have hki:(k:Int)<(q.length:Int):=by omega
    have hstep:=Z5q q ⟨s0,s1,s2,s3,s4⟩ k hlk
    have hce:=hc.cell k hlk
    have HKn:=hD0 (aI0 (HOk.out.rt _ (gM0 hlk)).md (HOk.out.rt _ HSq.out.1).wt)
    have HTk:=hD0 (fun(z:World) (g:Nw w5 z)=>HT.out q[k] z g)
    generalize q[k]=R at *
    obtain⟨b0,b1,b2,b3,b4⟩:=R
    unfold Uq at HTk
    have e0:=hce 0 _ rfl
    have e1:=hce 1 _ rfl
    have e2:=hce 2 _ rfl
    have e3:=hce 3 _ rfl
    have e4:=hce 4 _ rfl
    simp only[Nat.add_zero] at e0
    simp only at hstep HTk HKn
    have hbk:bkC ⟨s0,s1,s2,s3,s4⟩ ⟨b0,b1,b2,b3,b4⟩=(!(b0==s0)&&((decide (0<b4)&&decide (toI ⟨b0,b1,b2,b3,b4⟩ ⟨s0,s1,s2,s3,s4⟩<0)) || !cpI b2 s3)):=rfl
    have g6:Nw wr (wr.alloc (.cells #[.int .i64 b0,.int .i64 b1,.int .i64 b2,.int .i64 b3,.int .i64 b4] 69)):=(Nw.refl wr).alloc _
    obtain⟨w6,hw6⟩:∃w6,wr.alloc (.cells #[.int .i64 b0,.int .i64 b1,.int .i64 b2,.int .i64 b3,.int .i64 b4] 69)=w6:=⟨_,rfl⟩
    have hs6:w6.heap.size=wr.heap.size+1:=by rw[←hw6];simp
    have hq6:=RqB.made wr b0 b1 b2 b3 b4 69
    rw[hw6] at g6 hq6
    have HQ6:=hD0 hq6
    obtain⟨hlq,x0,x1,x2,x3,x4⟩:=hq6
    have HI:=hD0 (aI0 (hI.nw g6) (aI0 (hN.trans g6) hfr))
    have HW6:=hD0 hw6
    have HCp:=hD0 (fun z=>dCp b2 s3 z HKn.out.1 HKn.out.2)
    obtain⟨A,hA⟩:∃A,(decide (0<b4)&&decide (toI ⟨b0,b1,b2,b3,b4⟩ ⟨s0,s1,s2,s3,s4⟩<0))=A:=⟨_,rfl⟩
    obtain⟨B,hB⟩:∃B,cpI b2 s3=B:=⟨_,rfl⟩
    rw[hA] at hbk HTk
    rw[hB] at hbk HCp
    have hy3:∀z,Nw w5 z→z.cell? ⟨w2.heap.size,3,none⟩=some (.int .i64 s3):=fun z hz=>hz.kp HB5.out.1.c3
    clear hce hI hN hfr g6 hw6 hA hB hc
    by_cases hi:b0=s0
    ·have di:(b0 != id)=false:=by have:=HSq.out.2;simp[hi,this]
     have hst:bkT q ⟨s0,s1,s2,s3,s4⟩ (k+1)=bkT q ⟨s0,s1,s2,s3,s4⟩ k:=by rw[hstep,if_neg (by rw[hbk];simp[hi])]
     have HS:=hD0 hst
     clear hstep hst hi hbk
     go_wp2_with fail
     go_roundw
     case rel=>exact⟨k+1,by omega,by go_num,by rw[HS.out];first | exact HI.out.1 | (rw[HW6.out];exact HI.out.1),by first | exact HI.out.2.1 | (rw[HW6.out];exact HI.out.2.1),HI.out.2.2⟩
     case measure=>simp[intOf];omega
    ·have di:(b0 != id)=true:=by have:=HSq.out.2;rw[←this];simpa using hi
     have hnb:(b0==s0)=false:=by simpa using hi
     rw[hnb] at hbk
     clear hi hnb
     cases A
     ·cases B
      ·
       have hst:bkT q ⟨s0,s1,s2,s3,s4⟩ (k+1)=bkT q ⟨s0,s1,s2,s3,s4⟩ k++[b1]:=by rw[hstep,if_pos (by rw[hbk];rfl)]
       have HS:=hD0 hst
       clear hstep hst hbk
       go_wp2_with fail
       rw[HW6.out]
       go_wp2_with fail
       go_at_fn g
       refine(HTk.out _ HI.out.2.1).mono ?_
       rintro e w7 ⟨rfl,g7⟩
       have hz3:=hy3 _ (HI.out.2.1.trans g7)
       have hzl:=World.block_lt_of_cell? _ _ hz3
       obtain⟨zl,z0,z1,z2,z3,z4⟩:=HQ6.out.nw g7
       have G7:=hD0 g7
       clear x0 x1 x2 x3 x4 hlq e0 e1 e2 e3 e4 g7
       go_wp2_with fail
       go_at_call 62
       refine(HCp.out _).mono ?_
       rintro e w8 ⟨rfl,g8⟩
       have hI8:=HI.out.1.nw (G7.out.trans g8)
       obtain⟨v',w9,hr,q1,q2,q3,⟨g',cap',hv'⟩⟩:=IS.push w8 _ (bkT q ⟨s0,s1,s2,s3,s4⟩ k) b1 hI8 (by have:=Uj q ⟨s0,s1,s2,s3,s4⟩ k;omega)
       have HR:=hD0 hr
       have HN8:=hD0 ((HI.out.2.1.trans G7.out).trans g8)
       have HE:Hid (IS w9 v' (bkT q ⟨s0,s1,s2,s3,s4⟩ (k+1))∧Nw w5 w9∧∀g,v'.ownBlock=some g→w5.heap.size≤g):=hD0 ⟨by rw[HS.out];exact q1,Zi HN8.out q2 (fun i e=>HI.out.2.2 i e),fun g e=>by
        rcases q3 g e with h | h
        ·exact HI.out.2.2 g h
        ·have:=HN8.out.sz;omega⟩
       obtain⟨zl',z0',z1',z2',z3',z4'⟩:=(HQ6.out.nw G7.out).nw g8
       clear hr q1 q2 q3 hI8 g8 hv' zl z0 z1 z2 z3 z4 hz3 hzl
       go_wp2_with (at_builtin;(refine Z7 (by rfl) (.tmp 50) (.tmp 53) 25 rfl _ _ _ _ rfl rfl HR.out ?_))
       go_roundw
       case rel=>exact⟨k+1,by omega,by go_num,HE.out⟩
       case measure=>simp[intOf];omega
      ·have hst:bkT q ⟨s0,s1,s2,s3,s4⟩ (k+1)=bkT q ⟨s0,s1,s2,s3,s4⟩ k:=by rw[hstep,if_neg (by rw[hbk];simp)]
       have HS:=hD0 hst
       clear hstep hst hbk
       go_wp2_with fail
       rw[HW6.out]
       go_wp2_with fail
       go_at_fn g
       refine(HTk.out _ HI.out.2.1).mono ?_
       rintro e w7 ⟨rfl,g7⟩
       have hz3:=hy3 _ (HI.out.2.1.trans g7)
       have hzl:=World.block_lt_of_cell? _ _ hz3
       obtain⟨zl,z0,z1,z2,z3,z4⟩:=HQ6.out.nw g7
       have G7:=hD0 g7
       clear x0 x1 x2 x3 x4 hlq e0 e1 e2 e3 e4 g7
       go_wp2_with fail
       go_at_call 62
       refine(HCp.out _).mono ?_
       rintro e w8 ⟨rfl,g8⟩
       have G8:=hD0 (G7.out.trans g8)
       clear g8 zl z0 z1 z2 z3 z4 hz3 hzl
       go_wp2
       go_roundw
       case rel=>exact⟨k+1,by omega,by go_num,by rw[HS.out];exact HI.out.1.nw G8.out,HI.out.2.1.trans G8.out,HI.out.2.2⟩
       case measure=>simp[intOf];omega
     ·have hst:bkT q ⟨s0,s1,s2,s3,s4⟩ (k+1)=bkT q ⟨s0,s1,s2,s3,s4⟩ k++[b1]:=by rw[hstep,if_pos (by rw[hbk];simp)]
      have HS:=hD0 hst
      clear hstep hst hbk
      go_wp2_with fail
      rw[HW6.out]
      go_wp2_with fail
      go_at_fn g
      refine(HTk.out _ HI.out.2.1).mono ?_
      rintro e w8 ⟨rfl,g8⟩
      have hI8:=HI.out.1.nw g8
      obtain⟨v',w9,hr,q1,q2,q3,⟨g',cap',hv'⟩⟩:=IS.push w8 _ (bkT q ⟨s0,s1,s2,s3,s4⟩ k) b1 hI8 (by have:=Uj q ⟨s0,s1,s2,s3,s4⟩ k;omega)
      have HR:=hD0 hr
      have HN8:=hD0 (HI.out.2.1.trans g8)
      have HE:Hid (IS w9 v' (bkT q ⟨s0,s1,s2,s3,s4⟩ (k+1))∧Nw w5 w9∧∀g,v'.ownBlock=some g→w5.heap.size≤g):=hD0 ⟨by rw[HS.out];exact q1,Zi HN8.out q2 (fun i e=>HI.out.2.2 i e),fun g e=>by
       rcases q3 g e with h | h
       ·exact HI.out.2.2 g h
       ·have:=HN8.out.sz;omega⟩
      obtain⟨zl',z0',z1',z2',z3',z4'⟩:=HQ6.out.nw g8
      clear hr q1 q2 q3 hI8 g8 hv' x0 x1 x2 x3 x4 hlq e0 e1 e2 e3 e4
      go_wp2_with (at_builtin;(refine Z7 (by rfl) (.tmp 50) (.tmp 53) 25 rfl _ _ _ _ rfl rfl HR.out ?_))
      go_roundw
      case rel=>exact⟨k+1,by omega,by go_num,HE.out⟩
      case measure=>simp[intOf];omega
   ·obtain rfl:k=q.length:=by omega
    have HSo:=hD0 (Z97 _ _ _ hI (Nat.le_trans (Uj q _ _) hl))
    have HE:=hD0 (aI0 hN hfr)
    clear hI hN hfr
    go_wp2_with fail
    go_at_call 52
    refine HSo.out.mono ?_
    rintro e w9 ⟨rfl,hI9,hT9⟩
    have HCm:=hD0 (Z4u _ _ _ hI9 (by rw[List.length_mergeSort];exact Nat.le_trans (Uj q _ _) hl))
    have HN9:=hD0 (Zi HE.out.1 hT9 (fun i e=>HE.out.2 i e))
    clear hI9 hT9
    go_wp2_with fail
    go_at_call 63
    refine HCm.out.mono ?_
    rintro e w10 ⟨v10,rfl,hI10,_,hT10⟩
    have HZ:=hD0 (aI0 hI10 (Zi HN9.out hT10 (fun i e=>HE.out.2 i e)))
    clear hI10 hT10
    go_wp2
    go_ret
    exact⟨_,rfl,HB5.out.2.1.trans HZ.out.2,by rw[←HAll.out];exact HZ.out.1⟩
structure Hv where
 h:Hq
 v:Value
def U8(x:Hv):List Value:=[.int .i64 x.h.t,.int .i64 x.h.r,x.v,.int .i64 x.h.W]
structure Z4n(w:World)(x:Hv):Prop where
 at_:Ue w x.v x.h.q
 ok:Ok x.h.W x.h.q
 len:x.h.q.length≤12
theorem Z4n.nw{w w':World}{x:Hv}(h:Z4n w x)(g:Nw w w'):Z4n w' x:=⟨h.at_.nw g,h.ok,h.len⟩
def Uf(l:List Hv)(k:Nat):List (Int × Int):=(l.take k).flatMap fun x=>Vi x.h.q x.h.q.length
theorem Z00{α β:Type}(f:α→List β)(N:Nat):∀(p:List α),(∀x∈p,(f x).length≤N)→(p.flatMap f).length≤p.length*N
 | [],_=>by simp
 | x::r,h=>by
  rw[List.flatMap_cons,List.length_append,List.length_cons,Nat.add_mul,Nat.one_mul,Nat.add_comm]
  exact Nat.add_le_add (Z00 f N r fun y hy=>h y (List.mem_cons_of_mem _ hy)) (h x (List.mem_cons_self ..))
theorem Vm(q:List Rq)(id:Int):(Yj q id).length≤q.length:=by
 unfold Yj
 split
 ·simp
 ·split
  ·rename_i r _ _
   have hn:(Us q r).Nodup:=(U7 q r).imp (fun {a b} k=>by omega)
   have:=Yt (m:=q.map Rq.txn) hn fun y hy=>by
    obtain⟨o,ho,_,_,e⟩:=(Z1u q r y).1 hy
    exact List.mem_map.2 ⟨o,ho,e⟩
   simpa using this
  ·simp
theorem Z7v(q:List Rq)(r:Rq):(edR q r).length≤q.length:=by
 unfold edR
 split
 ·rw[Vu];exact Vm q r.id
 ·simp
theorem Z17{q:List Rq}(h:q.length≤12)(n:Nat):(Vi q n).length≤144:=by
 have h1:=Z00 (edR q) 12 (q.take n) fun r _=>Nat.le_trans (Z7v q r) h
 have h2:(q.take n).length≤12:=Nat.le_trans (by rw[List.length_take];omega) h
 unfold Vi
 omega
theorem Vn{l:List Hv}(hl:l.length≤8)(h:∀x∈l,x.h.q.length≤12)(n:Nat):(Uf l n).length≤1152:=by
 have h1:=Z00 (fun x:Hv=>Vi x.h.q x.h.q.length) 144 (l.take n) fun x hx=>Z17 (h x (List.mem_of_mem_take hx)) _
 have h2:(l.take n).length≤8:=Nat.le_trans (by rw[List.length_take];omega) hl
 unfold Uf
 omega
theorem Z20{q:List Rq}{j:Nat}(hj:j<q.length):Vi q (j+1)=Vi q j++edR q q[j]:=by
 unfold Vi
 rw[List.take_succ_eq_append_getElem hj,List.flatMap_append]
 simp
theorem Z21{l:List Hv}{k:Nat}(hk:k<l.length):Uf l (k+1)=Uf l k++Vi l[k].h.q l[k].h.q.length:=by
 unfold Uf
 rw[List.take_succ_eq_append_getElem hk,List.flatMap_append]
 simp
theorem Z2b{w w':World}{row:Option Nat}(g:w.grownBy w' row):Zd (fun b=>row=some b) w w':=⟨g.os,g.tape,g.output,g.size,fun k hk hn=>g.block k hk (fun e=>hn e.symm)⟩
theorem Z2k{α:Type}{P:Program}{ST T:TypeId}{sz bytes:Nat}{row:α→List Value}(E:Ud P ST T sz bytes row){w:World}{g0:Nat}{v v2:Value}{l sg:List α}(h:Zt T sz row w g0 v l)(h2:Rd sz row w v2 sg)(hsm:l.length+sg.length≤100000)(hg0:g0≤w.heap.size) :
  ∃v' w1,(Builtin.append_ #[ST,ST] ST #[v,v2]).run P w=.ok v' w1∧Zt T sz row w1 g0 v' (l++sg)∧w.grownBy w1 v.ownBlock∧(v'.ownBlock=v.ownBlock∨v'.ownBlock=some w.heap.size):=by
 obtain⟨a,c,rfl,⟨rfl,h0⟩ | ⟨b,o,rfl,hc⟩⟩:=h2
 ·cases a with
  | none =>
   obtain rfl:=h0 rfl
   obtain⟨i0,z,hi,hz0,hz1,hz2,hz3⟩:=E.inf
   exact⟨_,_,run_append_owned_none (P:=P) w g0 ST ST T i0 sz E.und hi _ _ _ h,by rw[List.append_nil];exact h,(Nw.refl w).grownBy _,.inl rfl⟩
  | some ad=>exact Zt.many E h [] ad c (fun j u hu=>by simp[Z8] at hu) hsm hg0
 ·exact Zt.many E h sg ⟨b,o,none⟩ c (hc.flat E.len E.pos) hsm hg0
def CsE(A B:Nat)(ht hr:Int)(v:Value)(hW ri rt:Int)(z:World):Prop :=
 z.cell? ⟨A,0,none⟩=some (.int .i64 ht)∧z.cell? ⟨A,1,none⟩=some (.int .i64 hr)∧z.cell? ⟨A,2,none⟩=some v∧z.cell? ⟨A,3,none⟩=some (.int .i64 hW)∧z.cell? ⟨B,0,none⟩=some (.int .i64 ri)∧z.cell? ⟨B,1,none⟩=some (.int .i64 rt)
theorem CsE.tch{A B:Nat}{ht hr:Int}{v:Value}{hW ri rt:Int}{z z':World}(h:CsE A B ht hr v hW ri rt z){S:Nat→Prop}(t:Zd S z z')(hA:A<z.heap.size)(hB:B<z.heap.size)(nA:¬S A)(nB:¬S B):CsE A B ht hr v hW ri rt z' :=
 ⟨(t.cell hA nA).trans h.1,(t.cell hA nA).trans h.2.1,(t.cell hA nA).trans h.2.2.1,(t.cell hA nA).trans h.2.2.2.1,(t.cell hB nB).trans h.2.2.2.2.1,(t.cell hB nB).trans h.2.2.2.2.2⟩
theorem Z48{w:World}{g0 g1:Nat}{v:Value}{l:List (Int × Int)}(h:Z6 w g1 v l)(k:g0≤g1):Z6 w g0 v l:=by
 obtain⟨h1,h2⟩:=h
 refine⟨h1,?_⟩
 rcases h2 with h2 | ⟨g,cap,cur,q1,q2,q3⟩
 ·exact .inl h2
 ·exact .inr ⟨g,cap,cur,q1,Nat.le_trans k q2,q3⟩
structure EdI(W0:World)(l:List Hv)(v:Value)(k:Nat)(w:World):Prop where
 own:Z6 w W0.heap.size v (Uf l k)
 nw:Nw W0 w
structure EdJ(W0 w4:World)(A:Nat)(l:List Hv)(q:List Rq)(v:Value)(k n:Nat)(w:World):Prop where
 own:Z6 w W0.heap.size v (Uf l k++Vi q n)
 nw:Nw W0 w
 tch:Zd (fun j=>W0.heap.size≤j∧j≠A) w4 w
 off:v.ownBlock≠some A
theorem Z4v{w0:World}{v:Value}{l:List Hv}(h:Rd 4 U8 w0 v l)(hx:∀x∈l,Z4n w0 x)(hl:l.length≤8) :
  Calls prog 19 #[v] w0 fun e w'=>∃v',e=.returned v'∧Z6 w' w0.heap.size v' (sortE (Uf l l.length))∧Nw w0 w':=by
 have HX:=hD0 hx
 obtain⟨a,c,rfl,hd⟩:=h
 have HD:=hD0 hd
 obtain⟨n,hn⟩:∃n,l.length=n:=⟨_,rfl⟩
 have HN:=hD0 hn
 rw[hn] at hl ⊢
 clear hd hn hx
 go_enter func19,ntmps19
 go_wp2_with fail
 go_loopw [3,10] (fun v3 v10 wr=>∃(k:Nat) (a b c:_),v3=.slice a b c∧v10=.int .i64 k∧k≤n∧Hid (EdI w0 l (.slice a b c) k wr)) (fun _ v10 _=>n-(intOf v10).toNat)
 case atStart=>exact⟨0,none,0,0,rfl,rfl,Nat.zero_le _,hD0 ⟨World.ownsRow_nil _ _ _ _,Nw.refl _⟩⟩
 case round =>
  obtain⟨k,sa,sb,sc,rfl,rfl,hkn,HI⟩:=hrel
  by_cases hlt:k<n
  ·have hkl:k<l.length:=by rw[HN.out];exact hlt
   rcases HD.out with⟨q,_⟩ | ⟨eb,eo,rfl,hrc⟩
   ·rw[q] at hkl;simp at hkl
   have hrw:=hrc.nw HI.out.nw
   obtain⟨x,hxk⟩:∃x,l[k]=x:=⟨_,rfl⟩
   have hxm:x∈l:=hxk▸gM0 hkl
   have z0:=hrw.cell k hkl 0 (.int .i64 x.h.t) (by rw[hxk];rfl)
   have z1:=hrw.cell k hkl 1 (.int .i64 x.h.r) (by rw[hxk];rfl)
   have z2:=hrw.cell k hkl 2 x.v (by rw[hxk];rfl)
   have z3:=hrw.cell k hkl 3 (.int .i64 x.h.W) (by rw[hxk];rfl)
   have hebl:=hrw.lt
   have HO:=hD0 ((HX.out x hxm).nw HI.out.nw)
   obtain⟨⟨ht,hr,hW,q⟩,qv⟩:=x
   obtain⟨qa,qc,e,hqd⟩:=HO.out.at_
   simp only at e
   subst e
   have HQD:=hD0 hqd
   have Zr:=Zo hlt
   have hw:=Zn k (k+1) (by omega) rfl
   obtain⟨k1,hk1⟩:∃m,k+1=m:=⟨_,rfl⟩
   have HK1:=hD0 (aI0 hk1 hlt)
   have HXK:=hD0 (show ∃h:k<l.length,l[k]=_ from⟨hkl,hxk⟩)
   rw[hk1] at hw
   obtain⟨m,hm⟩:∃m,q.length=m:=⟨_,rfl⟩
   have HM:=hD0 hm
   simp only[hm] at z2
   simp only[Nat.add_zero] at z0 z1 z3
   clear hk1 hxk hkl hrw hrc hqd hlt hm
   go_upto_region 5 with fail
   have hal:=Z4 wr (.cells #[.int .i64 ht,.int .i64 hr,.slice qa m qc,.int .i64 hW] 66)
   have g4:Nw wr (wr.alloc (.cells #[.int .i64 ht,.int .i64 hr,.slice qa m qc,.int .i64 hW] 66)):=(Nw.refl wr).alloc _
   obtain⟨w4,hw4⟩:∃w4,wr.alloc (.cells #[.int .i64 ht,.int .i64 hr,.slice qa m qc,.int .i64 hW] 66)=w4:=⟨_,rfl⟩
   obtain⟨A,hA⟩:∃A,wr.heap.size=A:=⟨_,rfl⟩
   have hAg:w0.heap.size≤A:=by rw[←hA];exact HI.out.nw.sz
   have HJ:=hD0 (show EdJ w0 w4 A l q (.slice sa sb sc) k 0 w4 from by
    refine⟨?_,?_,Zd.refl _ _,fun e=>?_⟩
    ·rw[←hw4]
     have:=Yq HI.out.own g4
     simpa [Vi] using this
    ·rw[←hw4];exact HI.out.nw.trans g4
    ·have:=Uo HI.out.own e
     omega)
   rw[hA] at hal ⊢
   rw[hw4] at hal g4 ⊢
   have HAL:=hD0 (aI0 hal (Go.Proofs.YtobnolgphljoeaaGreat.hlt hal))
   have HO4:=hD0 (HX.out _ hxm)
   have hml:m≤12:=by rw[←HM.out];exact HO.out.len
   have a0:=Z2 hal (j:=0)
   have a1:=Z2 hal (j:=1)
   have a2:=Z2 hal (j:=2)
   have a3:=Z2 hal (j:=3)
   clear hal g4 hw4 hA z0 z1 z2 z3 HO hebl
   go_wp2_with fail
   clear a0 a1 a2 a3
   go_loopw [3,17] (fun v3 v17 wr=>∃(j:Nat) (a b c:_),v3=.slice a b c∧v17=.int .i64 j∧j≤m∧Hid (EdJ w0 w4 A l q (.slice a b c) k j wr)) (fun _ v17 _=>m-(intOf v17).toNat)
   case atStart=>exact⟨0,_,_,_,rfl,rfl,Nat.zero_le _,HJ⟩
   case round =>
    clear HJ HI
    obtain⟨j,sa,sb,sc,rfl,rfl,hjm,HJ⟩:=hrel
    by_cases hltj:j<m
    ·have hjq:j<q.length:=by rw[HM.out];exact hltj
     have hq4:=HO4.out.at_.nw HJ.out.nw
     obtain⟨qa',qc',e,hqd⟩:=hq4
     simp only[Value.slice.injEq] at e
     obtain⟨rfl,_,rfl⟩:=e
     rcases hqd with⟨e,_⟩ | ⟨qb,qo,rfl,hqc⟩
     ·have e':q=[]:=e
      rw[e'] at hjq;simp at hjq
     obtain⟨R,hR⟩:∃R,q[j]=R:=⟨_,rfl⟩
     have hRm:R∈q:=hR▸gM0 hjq
     have r0:=hqc.cell j hjq 0 (.int .i64 R.id) (by rw[hR];rfl)
     have r1:=hqc.cell j hjq 1 (.int .i64 R.txn) (by rw[hR];rfl)
     have r2:=hqc.cell j hjq 2 (.int .i64 R.md) (by rw[hR];rfl)
     have r3:=hqc.cell j hjq 3 (.int .i64 R.wt) (by rw[hR];rfl)
     have r4:=hqc.cell j hjq 4 (.int .i64 R.sn) (by rw[hR];rfl)
     have hqbl:=hqc.lt
     simp only[Nat.add_zero] at r0 r1 r2 r3 r4
     have hltj':=Zo hltj
     have hwj:=Zn j (j+1) (by omega) rfl
     obtain⟨j1,hj1⟩:∃m,j+1=m:=⟨_,rfl⟩
     have HJ1:=hD0 (aI0 hj1 hltj)
     have hed:Vi q j1=Vi q j++edR q R:=by rw[←hj1,←hR];exact Z20 hjq
     have HED:=hD0 hed
     have HRm:=hD0 hRm
     rw[hj1] at hwj
     obtain⟨ri,rt,rm,rw_,rs⟩:=R
     simp only at r0 r1 r2 r3 r4
     clear hj1 hR hjq hqc hed hRm hltj
     go_upto_region 8 with fail
     have hal:=Z4 wr (.cells #[.int .i64 ri,.int .i64 rt,.int .i64 rm,.int .i64 rw_,.int .i64 rs] 69)
     have g5:Nw wr (wr.alloc (.cells #[.int .i64 ri,.int .i64 rt,.int .i64 rm,.int .i64 rw_,.int .i64 rs] 69)):=(Nw.refl wr).alloc _
     obtain⟨w5,hw5⟩:∃w5,wr.alloc (.cells #[.int .i64 ri,.int .i64 rt,.int .i64 rm,.int .i64 rw_,.int .i64 rs] 69)=w5:=⟨_,rfl⟩
     obtain⟨B,hB⟩:∃B,wr.heap.size=B:=⟨_,rfl⟩
     have HJ5:=hD0 (show EdJ w0 w4 A l q (.slice sa sb sc) k j w5 from by
      rw[←hw5]
      exact⟨Yq HJ.out.own g5,HJ.out.nw.trans g5,HJ.out.tch.alloc _,HJ.out.off⟩)
     rw[hB] at hal ⊢
     rw[hw5] at hal g5 ⊢
     have b0:=Z2 hal (j:=0)
     have b1:=Z2 hal (j:=1)
     have b4:=Z2 hal (j:=4)
     have HBl2:=hD0 (Go.Proofs.YtobnolgphljoeaaGreat.hlt hal)
     have HBo:=hD0 (show ¬(Value.slice sa sb sc).ownBlock=some B from fun e=>by
      have:=Uo HJ.out.own e
      omega)
     clear hal g5 hw5 hB r0 r1 r2 r3 r4 HJ hqbl
     by_cases hs:0<rs
     ·have dS:decide (0<rs)=true:=decide_eq_true hs
      have tA:A<w4.heap.size:=HAL.out.2
      have cA:∀z,Nw w5 z→∀o,z.cell? ⟨A,o,none⟩=w4.cell? ⟨A,o,none⟩:=fun z g o=>(HJ5.out.tch.trans (Zd.nw g)).cell tA (fun e=>e.2 rfl)
      have HCs:=hD0 (show ∀z,Nw w5 z→CsE A B ht hr (.slice (some ⟨qb,qo,none⟩) m qc) hW ri rt z from fun z g=>⟨(cA z g 0).trans (Z2 HAL.out.1 (j:=0)),(cA z g 1).trans (Z2 HAL.out.1 (j:=1)),(cA z g 2).trans (Z2 HAL.out.1 (j:=2)),(cA z g 3).trans (Z2 HAL.out.1 (j:=3)),g.kp b0,g.kp b1⟩)
      have ta0:∀z,CsE A B ht hr (.slice (some ⟨qb,qo,none⟩) m qc) hW ri rt z→z.cell? ⟨A,0,none⟩=some (.int .i64 ht):=fun z h=>h.1
      have ta1:∀z,CsE A B ht hr (.slice (some ⟨qb,qo,none⟩) m qc) hW ri rt z→z.cell? ⟨A,1,none⟩=some (.int .i64 hr):=fun z h=>h.2.1
      have ta2:∀z,CsE A B ht hr (.slice (some ⟨qb,qo,none⟩) m qc) hW ri rt z→z.cell? ⟨A,2,none⟩=some (.slice (some ⟨qb,qo,none⟩) m qc):=fun z h=>h.2.2.1
      have ta3:∀z,CsE A B ht hr (.slice (some ⟨qb,qo,none⟩) m qc) hW ri rt z→z.cell? ⟨A,3,none⟩=some (.int .i64 hW):=fun z h=>h.2.2.2.1
      have tb0:∀z,CsE A B ht hr (.slice (some ⟨qb,qo,none⟩) m qc) hW ri rt z→z.cell? ⟨B,0,none⟩=some (.int .i64 ri):=fun z h=>h.2.2.2.2.1
      have tb1:∀z,CsE A B ht hr (.slice (some ⟨qb,qo,none⟩) m qc) hW ri rt z→z.cell? ⟨B,1,none⟩=some (.int .i64 rt):=fun z h=>h.2.2.2.2.2
      have HBl:=hD0 (fun(z:World) (g:Nw w5 z)=>Z4t ht hr hW ri (.slice (some ⟨qb,qo,none⟩) m qc) q z (Nat.le_trans HO4.out.len (by decide)) HO4.out.ok (by
       have:=HO4.out.at_.nw (HJ5.out.nw.trans g)
       rw[←HM.out];exact this))
      have hsl:=HED.out
      rw[show edR q ⟨ri,rt,rm,rw_,rs⟩=Yf rt (Yj q ri) from if_pos hs] at hsl
      have HSL:=hD0 hsl
      clear hsl cA tA hs b0 b1
      go_wp2_with fail
      refine Za [] (CsE A B ht hr (.slice (some ⟨qb,qo,none⟩) m qc) hW ri rt) (by kernel_rfl) ?_
      change Z9 _ _ _ _ _ _ 10 #[false,false,false,false,false,false,false,false,false,false] _ w5.drew
      obtain⟨y4,hy4⟩:∃y,w5.drew=y:=⟨_,rfl⟩
      rw[hy4]
      have hN0:Nw w5 y4:=by rw[←hy4];exact(Nw.refl w5).dr
      clear hy4
      have hS0:=HCs.out y4 hN0
      refine Z0 0 rfl (by kernel_rfl) (by kernel_rfl) (by kernel_rfl) (fun v c a w h=>h) ?_
      (first | (refine⟨undef,Or.inr ⟨by rfl,rfl⟩,?_⟩) | (apply Exists.intro;refine⟨Or.inl ⟨by rfl,?_⟩,?_⟩;(intro x hx';go_simp;first | done | with_reducible rfl)))
      (try simp only[Act.put,List.getElem_toArray,List.getElem_cons_zero,List.getElem_cons_succ,List.setIfInBounds_toArray,List.set_cons_zero,List.set_cons_succ])
      refine Z0 1 rfl (by kernel_rfl) (by kernel_rfl) (by kernel_rfl) (fun v c a w h=>h) ?_
      (first | (refine⟨undef,Or.inr ⟨by rfl,rfl⟩,?_⟩) | (apply Exists.intro;refine⟨Or.inl ⟨by rfl,?_⟩,?_⟩;(intro x hx';go_simp;first | done | with_reducible rfl)))
      (try simp only[Act.put,List.getElem_toArray,List.getElem_cons_zero,List.getElem_cons_succ,List.setIfInBounds_toArray,List.set_cons_zero,List.set_cons_succ])
      refine Z1 2 rfl (by kernel_rfl) (by kernel_rfl) (by kernel_rfl) (by kernel_rfl) (fun v c a w h=>h) hS0 ?_
      (first | (refine⟨undef,Or.inr ⟨by rfl,rfl⟩,?_⟩) | (apply Exists.intro;refine⟨Or.inl ⟨by rfl,?_⟩,?_⟩;(intro x hx';go_simp;first | done | with_reducible rfl)))
      (try simp only[Act.put,List.getElem_toArray,List.getElem_cons_zero,List.getElem_cons_succ,List.setIfInBounds_toArray,List.set_cons_zero,List.set_cons_succ])
      refine Z1 3 rfl (by kernel_rfl) (by kernel_rfl) (by kernel_rfl) (by kernel_rfl) (fun v c a w h=>h) hS0 ?_
      (first | (refine⟨undef,Or.inr ⟨by rfl,rfl⟩,?_⟩) | (apply Exists.intro;refine⟨Or.inl ⟨by rfl,?_⟩,?_⟩;(intro x hx';go_simp;first | done | with_reducible rfl)))
      (try simp only[Act.put,List.getElem_toArray,List.getElem_cons_zero,List.getElem_cons_succ,List.setIfInBounds_toArray,List.set_cons_zero,List.set_cons_succ])
      refine Z0 4 rfl (by kernel_rfl) (by kernel_rfl) (by kernel_rfl) (fun v c a w h=>h) ?_
      (first | (refine⟨undef,Or.inr ⟨by rfl,rfl⟩,?_⟩) | (apply Exists.intro;refine⟨Or.inl ⟨by rfl,?_⟩,?_⟩;(intro x hx';go_simp;first | done | with_reducible rfl)))
      (try simp only[Act.put,List.getElem_toArray,List.getElem_cons_zero,List.getElem_cons_succ,List.setIfInBounds_toArray,List.set_cons_zero,List.set_cons_succ])
      refine Z1 5 rfl (by kernel_rfl) (by kernel_rfl) (by kernel_rfl) (by kernel_rfl) (fun v c a w h=>h) hS0 ?_
      (first | (refine⟨undef,Or.inr ⟨by rfl,rfl⟩,?_⟩) | (apply Exists.intro;refine⟨Or.inl ⟨by rfl,?_⟩,?_⟩;(intro x hx';go_simp;first | done | with_reducible rfl)))
      (try simp only[Act.put,List.getElem_toArray,List.getElem_cons_zero,List.getElem_cons_succ,List.setIfInBounds_toArray,List.set_cons_zero,List.set_cons_succ])
      refine Z3 6 (by kernel_rfl) rfl (fun K hK=>?_)
      rw[if_pos (by rfl)]
      (try simp only[List.getElem_toArray,List.getElem_cons_zero,List.getElem_cons_succ])
      go_simp
      refine(HBl.out y4 hN0).mono ?_
      rintro e w6 ⟨v6,rfl,g6,hI6⟩
      refine hK _ _ (.inr (HCs.out w6 (hN0.trans g6))) ?_
      clear hK K
      (try simp only[Act.put,List.getElem_toArray,List.getElem_cons_zero,List.getElem_cons_succ,List.setIfInBounds_toArray,List.set_cons_zero,List.set_cons_succ])
      have hTw:=Z3s hI6 (Nat.le_trans (Vm q ri) (Nat.le_trans HO4.out.len (by decide))) rt
      have hS6:=hN0.trans g6
      clear g6 hI6 hS0 hN0
      refine Z3 7 (by kernel_rfl) rfl (fun K hK=>?_)
      rw[if_pos (by rfl)]
      (try simp only[List.getElem_toArray,List.getElem_cons_zero,List.getElem_cons_succ])
      go_simp
      refine hTw.mono ?_
      rintro e w7 ⟨v7,rfl,hO7,g7⟩
      refine hK _ _ (.inr (HCs.out w7 (hS6.trans g7))) ?_
      clear hK K hTw
      (try simp only[Act.put,List.getElem_toArray,List.getElem_cons_zero,List.getElem_cons_succ,List.setIfInBounds_toArray,List.set_cons_zero,List.set_cons_succ])
      have hS7:=hS6.trans g7
      have hle:(Uf l k++Vi q j).length+(Yf rt (Yj q ri)).length≤100000:=by
       have h1:=Vn (l:=l) (by rw[HN.out];exact hl) (fun x hx=>(HX.out x hx).len) k
       have h2:(Vi q j).length≤144:=Z17 HO4.out.len j
       have h3:(Yj q ri).length≤12:=Nat.le_trans (Vm q ri) HO4.out.len
       rw[List.length_append,Vu]
       omega
      obtain⟨v8,w8,hr8,hO8,hg8,hp8⟩:=Z2k Y0 (Yq HJ5.out.own hS7) hO7.at_ hle (HJ5.out.nw.trans hS7).sz
      obtain⟨n8,hn8⟩:∃n,(Uf l k++Vi q j++Yf rt (Yj q ri)).length=n:=⟨_,rfl⟩
      have hCs8:CsE A B ht hr (.slice (some ⟨qb,qo,none⟩) m qc) hW ri rt w8:=(HCs.out w7 hS7).tch (Z2b hg8) (lL0 HAL.out.2 (HJ5.out.tch.trans (Zd.nw hS7)).size) (lL0 HBl2.out hS7.sz) HJ5.out.off HBo.out
      rcases V8 hO8 with⟨rfl,e8⟩ | ⟨g8,cap8,rfl⟩
      all_goals
       try rw[hn8] at hr8 hO8 hp8
       have HJ8:=hD0 (show EdJ w0 w4 A l q _ k j1 w8 from⟨by
        rw[HSL.out,←List.append_assoc];exact hO8,(HJ5.out.nw.trans hS7).gro hg8 (fun b e=>Vg HJ5.out.own e),(HJ5.out.tch.trans (Zd.nw hS7)).grown hg8 (fun b e=>by
         by_cases hb:w4.heap.size≤b
         ·exact .inr hb
         ·exact .inl ⟨Vg HJ5.out.own e,fun e'=>HJ5.out.off (by rw[e,e'])⟩),fun e=>by
         rcases hp8 with p8 | p8
         ·exact HJ5.out.off (by rw[←p8,e])
         ·rw[p8] at e
          have:=Option.some.inj e
          have h5:=HAL.out.2
          have h6:=(HJ5.out.tch.trans (Zd.nw hS7)).size
          omega⟩)
       have HR8:=hD0 hr8
       clear hr8 hO8 hg8 hp8 hO7 g7 hle hn8
       refine Z3 8 (by kernel_rfl) rfl (fun K hK=>?_)
       refine Yh (by rfl) (.tmp 24) (.tmp 31) 23 rfl _ _ _ _ rfl rfl HR8.out ?_
       refine hK _ _ (.inr hCs8) ?_
       clear hK K HR8
       (try simp only[Act.put,List.getElem_toArray,List.getElem_cons_zero,List.getElem_cons_succ,List.setIfInBounds_toArray,List.set_cons_zero,List.set_cons_succ])
       refine Z0 9 rfl (by kernel_rfl) (by kernel_rfl) (by kernel_rfl) (fun v c a w h=>h) ?_
       (first | (refine⟨undef,Or.inr ⟨by rfl,rfl⟩,?_⟩) | (apply Exists.intro;refine⟨Or.inl ⟨by rfl,?_⟩,?_⟩;(intro x hx';go_simp;first | done | with_reducible rfl)))
       (try simp only[Act.put,List.getElem_toArray,List.getElem_cons_zero,List.getElem_cons_succ,List.setIfInBounds_toArray,List.set_cons_zero,List.set_cons_succ])
       refine Z5 (by kernel_rfl) ?_ _
       refine NoPanic.normal ?_
       (try simp only[Act.put,List.getElem_toArray,List.getElem_cons_zero,List.getElem_cons_succ,List.setIfInBounds_toArray,List.set_cons_zero,List.set_cons_succ])
       clear hS7 hS6 hCs8 ta0 ta1 ta2 ta3 tb0 tb1
       go_wp2_with fail
       exact⟨⟨j1,_,_,_,rfl,rfl,by rw[←HJ1.out.1];exact HJ1.out.2,HJ8⟩,by rw[←HJ1.out.1];exact Zk HJ1.out.2⟩
     ·have dS:decide (0<rs)=false:=decide_eq_false hs
      have HJ6:=hD0 (show EdJ w0 w4 A l q (.slice sa sb sc) k j1 w5 from⟨by
       rw[HED.out,show edR q ⟨ri,rt,rm,rw_,rs⟩=[] from if_neg hs,List.append_nil]
       exact HJ5.out.own,HJ5.out.nw,HJ5.out.tch,HJ5.out.off⟩)
      clear hs HJ5 b0 b1
      go_wp2_with fail
      exact⟨⟨j1,_,_,_,rfl,rfl,by rw[←HJ1.out.1];exact HJ1.out.2,HJ6⟩,by rw[←HJ1.out.1];exact Zk HJ1.out.2⟩
    ·obtain rfl:j=m:=Nat.le_antisymm hjm (Nat.le_of_not_lt hltj)
     have hltj':¬j<j:=Nat.lt_irrefl j
     have HI2:=hD0 (show EdI w0 l (.slice sa sb sc) k1 wr from⟨by
      obtain⟨h1,h2⟩:=HXK.out
      rw[←HK1.out.1,Z21 h1,h2]
      have:=HJ.out.own
      rw[←HM.out] at this
      exact this,HJ.out.nw⟩)
     clear hltj HJ
     go_wp2_with fail
     exact⟨⟨k1,_,_,_,rfl,rfl,by rw[←HK1.out.1];exact HK1.out.2,HI2⟩,by rw[←HK1.out.1];exact Zk HK1.out.2⟩
  ·obtain rfl:k=n:=Nat.le_antisymm hkn (Nat.le_of_not_lt hlt)
   have Zr:¬k<k:=Nat.lt_irrefl k
   have HS:=hD0 (Z0c (Z6.at_ HI.out.own) (Nat.le_trans (Vn (l:=l) (by rw[HN.out];exact hl) (fun x hx=>(HX.out x hx).len) k) (by decide)))
   have HI2:=hD0 HI.out.nw
   clear hlt HI
   go_wp2_with fail
   refine HS.out.mono ?_
   rintro e w9 ⟨v9,rfl,hO9,g9⟩
   have HZ:=hD0 (aI0 (show Z6 w9 w0.heap.size v9 (sortE (Uf l k)) from Z48 hO9 HI2.out.sz) (HI2.out.trans g9))
   clear hO9 g9
   go_wp2
   go_ret
   exact⟨_,rfl,HZ.out.1,HZ.out.2⟩
end Go.Proofs.YtobnolgphljoeaaGreat
