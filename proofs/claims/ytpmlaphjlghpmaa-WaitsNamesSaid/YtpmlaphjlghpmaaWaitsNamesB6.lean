/- Texts merged: QwB, WdH, WcB, WcD, WcE -/
import Derived.Test.YtpmlaphjlghpmaaWaitsNamesB5
set_option linter.unusedVariables false
set_option maxRecDepth 100000
set_option maxHeartbeats 16000000
namespace Go.Proofs.Ytpmlaphjlghpmaa
open Go.RowKit _root_.Go.Proofs.Try
def bkC(S R:Rq):Bool:=!(R.id==S.id)&&((decide (0<R.sn)&&decide (toI R S<0)) || !Vq R.md S.wt)
def bkT(q:List Rq)(S:Rq)(k:Nat):List Int:=((q.take k).filter (bkC S)).map fun R=>R.txn
theorem Z4p(q:List Rq)(S:Rq)(k:Nat)(hk:k<q.length):bkT q S (k+1)=if bkC S q[k]=true then bkT q S k++[q[k].txn] else bkT q S k:=by
 unfold bkT
 rw[List.take_add_one,List.getElem?_eq_getElem hk,List.filter_append,List.map_append]
 by_cases e:bkC S q[k]=true
 ·rw[if_pos e];simp[e]
 ·rw[if_neg e];simp at e;simp[e]
theorem U8(q:List Rq)(S:Rq)(k:Nat):(bkT q S k).length≤q.length:=by
 unfold bkT
 rw[List.length_map]
 exact Nat.le_trans (List.length_filter_le _ _) (by rw[List.length_take];omega)
theorem Z4q{W:Int}{q:List Rq}(h:Ok W q){S R:Rq}(hS:S∈q)(hR:R∈q)(hw:0<S.sn)(ne:R.id≠S.id):bkC S R=blk S R:=by
 have h1:=h.rt R hR
 have h2:=h.rt S hS
 have hz:R.md=0→0<R.sn:=fun e=>by
  rcases Int.lt_or_eq_of_le h1.s0 with g | g
  ·exact g
  ·exact absurd e (h1.h g.symm).1
 have hc0:R.md=0→Vq R.md S.wt=true:=fun e=>by rw[e];exact Z6i _ h2.wt
 unfold bkC blk
 rw[Bool.eq_iff_iff]
 simp only[Bool.and_eq_true,Bool.or_eq_true,Bool.not_eq_true',beq_eq_false_iff_ne,ne_eq,decide_eq_true_eq,bne_iff_ne,beq_iff_eq,Z3r]
 constructor
 ·rintro⟨_,⟨a,b | b⟩ | b⟩
  ·exact .inl (.inr ⟨⟨b.1,a⟩,.inl b.2⟩)
  ·by_cases e:R.md=0
   ·exact .inr ⟨⟨b.1.1 e,e⟩,b.2⟩
   ·exact .inl (.inr ⟨⟨e,a⟩,.inr b.2⟩)
  ·by_cases e:R.md=0
   ·rw[hc0 e] at b;cases b
   ·exact .inl (.inl ⟨e,b⟩)
 ·rintro((⟨a,b⟩ | ⟨⟨a,b⟩,c⟩) | ⟨⟨a,b⟩,c⟩)
  ·exact⟨ne,.inr b⟩
  ·refine⟨ne,.inl ⟨b,?_⟩⟩
   by_cases e:S.md=0
   ·exact .inl ⟨a,e⟩
   ·rcases c with c | c
    ·exact absurd c e
    ·exact .inr ⟨by simp[a,e],c⟩
  ·exact⟨ne,.inl ⟨hz b,.inr ⟨by simp[a,b],c⟩⟩⟩
theorem Z7t{W:Int}{q:List Rq}(h:Ok W q){S:Rq}(hS:S∈q)(hw:0<S.sn):Lib.compact ((bkT q S q.length).mergeSort fun x y=>decide (x≤y))=Z1f q S:=by
 obtain⟨h1,h2⟩:=Z2l (bkT q S q.length)
 refine Z01 h1 (U0 q S) (fun x=>?_)
 rw[h2 x,Z1g]
 unfold bkT
 rw[List.take_of_length_le (Nat.le_refl _),List.mem_map]
 constructor
 ·rintro⟨R,hR,e⟩
  obtain⟨hR,hc⟩:=List.mem_filter.1 hR
  have ne:R.id≠S.id:=by unfold bkC at hc;simp at hc;exact hc.1
  exact⟨R,hR,ne,by rw[←Z4q h hS hR hw ne];exact hc,e⟩
 ·rintro⟨R,hR,ne,hc,e⟩
  exact⟨R,List.mem_filter.2 ⟨hR,by rw[Z4q h hS hR hw ne];exact hc⟩,e⟩
theorem Z3t(t r W id:Int)(v:Value)(q:List Rq)(w:World)(hl:q.length≤1000)(hok:Ok W q)(h:Y7 w v q) :
  Calls prog 21 #[Ua t r v W,.int .i64 id] w fun e w'=>∃v',e=.returned v'∧Nw w w'∧IS w' v' (Vp q id):=by
 have HOk:=hD0 hok
 have HAt:=hD0 h
 clear hok
 obtain⟨X,hX⟩:∃X,Vp q id=X:=⟨_,rfl⟩
 rw[hX]
 have HFq:=hD0 (fun(z:World) (g:Nw w z)=>Z7x t r W id v q z hl (h.nw g))
 obtain⟨a,c,rfl,_⟩:=h
 unfold Ua at HFq ⊢
 have hx1:=Z5 w (.cells #[.int .i64 t,.int .i64 r,.slice a q.length c,.int .i64 W] 27)
 have hN:Nw w (w.alloc (.cells #[.int .i64 t,.int .i64 r,.slice a q.length c,.int .i64 W] 27)):=(Nw.refl w).alloc _
 obtain⟨w1,hw1⟩:∃w1,w.alloc (.cells #[.int .i64 t,.int .i64 r,.slice a q.length c,.int .i64 W] 27)=w1:=⟨_,rfl⟩
 rw[hw1] at hx1 hN
 have HW1:=hD0 hw1
 have HB:=hD0 (aI0 hx1 hN)
 have HFq1:=hD0 (HFq.out w1 hN)
 have c0:=Z2 (j:=0) hx1
 have c1:=Z2 (j:=1) hx1
 have c2:=Z2 (j:=2) hx1
 have c3:=Z2 (j:=3) hx1
 have hpl:=hlt hx1
 clear hw1 hx1 hN HFq
 unfold Z2p at HFq1
 cases hf:fnd q id with
 | none =>
  rw[hf] at HFq1
  simp only at HFq1
  have hR:=hX.symm.trans (show Vp q id=[] by unfold Vp;rw[hf])
  subst hR
  unfold Ug at HFq1
  clear hX hf
  go_enter func21,ntmps21
  go_wp2_with fail
  rw[HW1.out]
  go_wp2_with fail
  go_at_call 41
  refine HFq1.out.mono ?_
  rintro e w2 ⟨rfl,g2⟩
  have HG:=hD0 (HB.out.2.trans g2)
  clear c0 c1 c2 c3 hpl g2 HFq1
  go_wp2
  go_ret
  exact⟨_,rfl,HG.out.alloc _,IS.nil _⟩
 | some S =>
  rw[hf] at HFq1
  simp only at HFq1
  have hS:=(Z5a hf).1
  have hSi:=(Z5a hf).2
  have hX1:¬0<S.sn→X=[]:=fun s=>hX.symm.trans (by unfold Vp;rw[hf];exact if_neg s)
  have hX2:0<S.sn→X=Z1f q S:=fun s=>hX.symm.trans (by unfold Vp;rw[hf];exact if_pos s)
  have HX1:=hD0 hX1
  have HX2:=hD0 hX2
  have HSq:=hD0 (aI0 hS hSi)
  have HWa:=hD0 (fun z=>Z4v S z)
  have HAh:=hD0 (fun z=>Z4s S z)
  clear hX hf hX1 hX2 hS hSi
  have HSv:Hid (S=⟨S.id,S.txn,S.md,S.wt,S.sn⟩):=hD0 rfl
  obtain⟨s0,s1,s2,s3,s4⟩:=S
  simp only at HX1 HX2 HAh HSq
  unfold Ug at HFq1 HWa HAh
  clear HSv
  go_enter func21,ntmps21
  go_wp2_with fail
  rw[HW1.out]
  go_wp2_with fail
  go_at_call 41
  refine HFq1.out.mono ?_
  rintro e w2 ⟨rfl,g2⟩
  have hb3:=RqB.made w2 s0 s1 s2 s3 s4 49
  obtain⟨w3,hw3⟩:∃w3,w2.alloc (.cells #[.int .i64 s0,.int .i64 s1,.int .i64 s2,.int .i64 s3,.int .i64 s4] 49)=w3:=⟨_,rfl⟩
  have g3:Nw w2 w3:=by rw[←hw3];exact(Nw.refl w2).alloc _
  rw[hw3] at hb3
  have HW3:=hD0 hw3
  have HB3:=hD0 (aI0 hb3 (aI0 ((HB.out.2.trans g2).trans g3) (g3.at' (g2.at' HB.out.1))))
  obtain⟨yl,y0,y1,y2,y3,y4⟩:=hb3
  clear c0 c1 c2 c3 hpl g2 g3 hw3 HFq1
  go_wp2_with fail
  rw[HW3.out]
  go_wp2_with fail
  go_at_call 42
  refine(HWa.out _).mono ?_
  rintro e w4 ⟨rfl,g4⟩
  have HB4:=hD0 (aI0 (HB3.out.1.nw g4) (aI0 (HB3.out.2.1.trans g4) (g4.at' HB3.out.2.2)))
  clear yl y0 y1 y2 y3 y4 g4 HWa
  by_cases hs:0<s4
  rotate_left
  ·have ds:decide (0<s4)=false:=by simpa using hs
   have hR:=HX1.out (by first | exact hs | exact Int.not_lt.1 hs)
   subst hR
   clear hs HX1 HX2
   go_wp2
   go_ret
   exact⟨_,rfl,HB4.out.2.1,IS.nil _⟩
  have ds:decide (0<s4)=true:=by simpa using hs
  have hR:=HX2.out hs
  have HAll:=hD0 (Z7t HOk.out HSq.out.1 hs)
  rw[←hR] at HAll
  obtain⟨yl,y0,y1,y2,y3,y4⟩:=HB4.out.1
  clear hs HX1 HX2 hR
  go_wp2_with fail
  go_at_call 43
  refine(HAh.out _).mono ?_
  rintro e w5 ⟨pa,rfl,g5,hbx⟩
  obtain⟨g,lb,hfv,eg,hT⟩:=Yr.ahead (S:=⟨s0,s1,s2,s3,s4⟩) hbx
  have HT:=hD0 hT
  have HB5:=hD0 (aI0 (HB4.out.1.nw g5) (aI0 (HB4.out.2.1.trans g5) (g5.at' HB4.out.2.2)))
  have c2:=Z2 (j:=2) HB5.out.2.2
  have hpl:=hlt HB5.out.2.2
  rw[hfv]
  clear yl y0 y1 y2 y3 y4 g5 hbx hT hfv HAh ds
  go_wp2
  clear c2 hpl
  go_loopw [8,29] (fun x i wr=>∃k:Nat,k≤q.length∧i=.int .i64 k∧IS wr x (bkT q ⟨s0,s1,s2,s3,s4⟩ k)∧Nw w5 wr∧∀g,x.ownBlock=some g→w5.heap.size≤g) (fun _ i _=>q.length-(intOf i).toNat)
  case atStart=>exact⟨0,Nat.zero_le _,rfl,IS.nil _,Nw.refl _,fun g e=>by simp[Value.ownBlock] at e⟩
  case round =>
   obtain⟨k,hk,rfl,hI,hN,hfr⟩:=hrel
   by_cases hlk:k<q.length
   ·obtain⟨a',c',e,⟨e4,_⟩ | ⟨b,o,e4,hc⟩⟩:=(HAt.out.nw (HB5.out.2.1.trans hN))
    ·subst e4;simp at hlk
    simp only[Value.slice.injEq,true_and] at e
    obtain⟨rfl,rfl⟩:=e
    subst e4
    have hki:(k:Int)<(q.length:Int):=by omega
    have hstep:=Z4p q ⟨s0,s1,s2,s3,s4⟩ k hlk
    have hce:=hc.cell k hlk
    have HKn:=hD0 (aI0 (HOk.out.rt _ (gM0 hlk)).md (HOk.out.rt _ HSq.out.1).wt)
    have HTk:=hD0 (fun(z:World) (g:Nw w5 z)=>HT.out q[k] z g)
    generalize q[k]=R at *
    obtain⟨b0,b1,b2,b3,b4⟩:=R
    unfold Ug at HTk
    have e0:=hce 0 _ rfl
    have e1:=hce 1 _ rfl
    have e2:=hce 2 _ rfl
    have e3:=hce 3 _ rfl
    have e4:=hce 4 _ rfl
    simp only[Nat.add_zero] at e0
    simp only at hstep HTk HKn
    have hbk:bkC ⟨s0,s1,s2,s3,s4⟩ ⟨b0,b1,b2,b3,b4⟩=(!(b0==s0)&&((decide (0<b4)&&decide (toI ⟨b0,b1,b2,b3,b4⟩ ⟨s0,s1,s2,s3,s4⟩<0)) || !Vq b2 s3)):=rfl
    have g6:Nw wr (wr.alloc (.cells #[.int .i64 b0,.int .i64 b1,.int .i64 b2,.int .i64 b3,.int .i64 b4] 49)):=(Nw.refl wr).alloc _
    obtain⟨w6,hw6⟩:∃w6,wr.alloc (.cells #[.int .i64 b0,.int .i64 b1,.int .i64 b2,.int .i64 b3,.int .i64 b4] 49)=w6:=⟨_,rfl⟩
    have hs6:w6.heap.size=wr.heap.size+1:=by rw[←hw6];simp
    have hq6:=RqB.made wr b0 b1 b2 b3 b4 49
    rw[hw6] at g6 hq6
    have HQ6:=hD0 hq6
    obtain⟨hlq,x0,x1,x2,x3,x4⟩:=hq6
    have HI:=hD0 (aI0 (hI.nw g6) (aI0 (hN.trans g6) hfr))
    have HW6:=hD0 hw6
    have HCp:=hD0 (fun z=>dCp b2 s3 z HKn.out.1 HKn.out.2)
    obtain⟨A,hA⟩:∃A,(decide (0<b4)&&decide (toI ⟨b0,b1,b2,b3,b4⟩ ⟨s0,s1,s2,s3,s4⟩<0))=A:=⟨_,rfl⟩
    obtain⟨B,hB⟩:∃B,Vq b2 s3=B:=⟨_,rfl⟩
    rw[hA] at hbk HTk
    rw[hB] at hbk HCp
    have hy3:∀z,Nw w5 z→z.cell? ⟨w2.heap.size,3,none⟩=some (.int .i64 s3):=fun z hz=>hz.kp HB5.out.1.c3
    clear hce hI hN hfr g6 hw6 hA hB hc
    by_cases hi:b0=s0
    ·have di:(b0 != id)=false:=by have:=HSq.out.2;simp[hi,this]
     have hst:bkT q ⟨s0,s1,s2,s3,s4⟩ (k+1)=bkT q ⟨s0,s1,s2,s3,s4⟩ k:=by rw[hstep,if_neg (by rw[hbk];simp[hi])]
     have HS:=hD0 hst
     clear hstep hst hi hbk
     go_wp2_with fail
     go_roundw
     case rel=>exact⟨k+1,by omega,by go_num,by rw[HS.out];first | exact HI.out.1 | (rw[HW6.out];exact HI.out.1),by first | exact HI.out.2.1 | (rw[HW6.out];exact HI.out.2.1),HI.out.2.2⟩
     case measure=>simp[intOf];omega
    ·have di:(b0 != id)=true:=by have:=HSq.out.2;rw[←this];simpa using hi
     have hnb:(b0==s0)=false:=by simpa using hi
     rw[hnb] at hbk
     clear hi hnb
     cases A
     ·cases B
      ·
       have hst:bkT q ⟨s0,s1,s2,s3,s4⟩ (k+1)=bkT q ⟨s0,s1,s2,s3,s4⟩ k++[b1]:=by rw[hstep,if_pos (by rw[hbk];rfl)]
       have HS:=hD0 hst
       clear hstep hst hbk
       go_wp2_with fail
       rw[HW6.out]
       go_wp2_with fail
       go_at_fn g
       refine(HTk.out _ HI.out.2.1).mono ?_
       rintro e w7 ⟨rfl,g7⟩
       have hz3:=hy3 _ (HI.out.2.1.trans g7)
       have hzl:=World.block_lt_of_cell? _ _ hz3
       obtain⟨zl,z0,z1,z2,z3,z4⟩:=HQ6.out.nw g7
       have G7:=hD0 g7
       clear x0 x1 x2 x3 x4 hlq e0 e1 e2 e3 e4 g7
       go_wp2_with fail
       go_at_call 44
       refine(HCp.out _).mono ?_
       rintro e w8 ⟨rfl,g8⟩
       have hI8:=HI.out.1.nw (G7.out.trans g8)
       obtain⟨v',w9,hr,q1,q2,q3,⟨g',cap',hv'⟩⟩:=IS.push w8 _ (bkT q ⟨s0,s1,s2,s3,s4⟩ k) b1 hI8 (by have:=U8 q ⟨s0,s1,s2,s3,s4⟩ k;omega)
       have HR:=hD0 hr
       have HN8:=hD0 ((HI.out.2.1.trans G7.out).trans g8)
       have HE:Hid (IS w9 v' (bkT q ⟨s0,s1,s2,s3,s4⟩ (k+1))∧Nw w5 w9∧∀g,v'.ownBlock=some g→w5.heap.size≤g):=hD0 ⟨by rw[HS.out];exact q1,Zf HN8.out q2 (fun i e=>HI.out.2.2 i e),fun g e=>by
        rcases q3 g e with h | h
        ·exact HI.out.2.2 g h
        ·have:=HN8.out.sz;omega⟩
       obtain⟨zl',z0',z1',z2',z3',z4'⟩:=(HQ6.out.nw G7.out).nw g8
       clear hr q1 q2 q3 hI8 g8 hv' zl z0 z1 z2 z3 z4 hz3 hzl
       go_wp2_with (at_builtin;(refine Zg (by rfl) (.tmp 50) (.tmp 53) 36 rfl _ _ _ _ rfl rfl HR.out ?_))
       go_roundw
       case rel=>exact⟨k+1,by omega,by go_num,HE.out⟩
       case measure=>simp[intOf];omega
      ·have hst:bkT q ⟨s0,s1,s2,s3,s4⟩ (k+1)=bkT q ⟨s0,s1,s2,s3,s4⟩ k:=by rw[hstep,if_neg (by rw[hbk];simp)]
       have HS:=hD0 hst
       clear hstep hst hbk
       go_wp2_with fail
       rw[HW6.out]
       go_wp2_with fail
       go_at_fn g
       refine(HTk.out _ HI.out.2.1).mono ?_
       rintro e w7 ⟨rfl,g7⟩
       have hz3:=hy3 _ (HI.out.2.1.trans g7)
       have hzl:=World.block_lt_of_cell? _ _ hz3
       obtain⟨zl,z0,z1,z2,z3,z4⟩:=HQ6.out.nw g7
       have G7:=hD0 g7
       clear x0 x1 x2 x3 x4 hlq e0 e1 e2 e3 e4 g7
       go_wp2_with fail
       go_at_call 44
       refine(HCp.out _).mono ?_
       rintro e w8 ⟨rfl,g8⟩
       have G8:=hD0 (G7.out.trans g8)
       clear g8 zl z0 z1 z2 z3 z4 hz3 hzl
       go_wp2
       go_roundw
       case rel=>exact⟨k+1,by omega,by go_num,by rw[HS.out];exact HI.out.1.nw G8.out,HI.out.2.1.trans G8.out,HI.out.2.2⟩
       case measure=>simp[intOf];omega
     ·have hst:bkT q ⟨s0,s1,s2,s3,s4⟩ (k+1)=bkT q ⟨s0,s1,s2,s3,s4⟩ k++[b1]:=by rw[hstep,if_pos (by rw[hbk];simp)]
      have HS:=hD0 hst
      clear hstep hst hbk
      go_wp2_with fail
      rw[HW6.out]
      go_wp2_with fail
      go_at_fn g
      refine(HTk.out _ HI.out.2.1).mono ?_
      rintro e w8 ⟨rfl,g8⟩
      have hI8:=HI.out.1.nw g8
      obtain⟨v',w9,hr,q1,q2,q3,⟨g',cap',hv'⟩⟩:=IS.push w8 _ (bkT q ⟨s0,s1,s2,s3,s4⟩ k) b1 hI8 (by have:=U8 q ⟨s0,s1,s2,s3,s4⟩ k;omega)
      have HR:=hD0 hr
      have HN8:=hD0 (HI.out.2.1.trans g8)
      have HE:Hid (IS w9 v' (bkT q ⟨s0,s1,s2,s3,s4⟩ (k+1))∧Nw w5 w9∧∀g,v'.ownBlock=some g→w5.heap.size≤g):=hD0 ⟨by rw[HS.out];exact q1,Zf HN8.out q2 (fun i e=>HI.out.2.2 i e),fun g e=>by
       rcases q3 g e with h | h
       ·exact HI.out.2.2 g h
       ·have:=HN8.out.sz;omega⟩
      obtain⟨zl',z0',z1',z2',z3',z4'⟩:=HQ6.out.nw g8
      clear hr q1 q2 q3 hI8 g8 hv' x0 x1 x2 x3 x4 hlq e0 e1 e2 e3 e4
      go_wp2_with (at_builtin;(refine Zg (by rfl) (.tmp 50) (.tmp 53) 36 rfl _ _ _ _ rfl rfl HR.out ?_))
      go_roundw
      case rel=>exact⟨k+1,by omega,by go_num,HE.out⟩
      case measure=>simp[intOf];omega
   ·obtain rfl:k=q.length:=by omega
    have HSo:=hD0 (Z7z _ _ _ hI (Nat.le_trans (U8 q _ _) hl))
    have HE:=hD0 (aI0 hN hfr)
    clear hI hN hfr
    go_wp2_with fail
    go_at_call 45
    refine HSo.out.mono ?_
    rintro e w9 ⟨rfl,hI9,hT9⟩
    have HCm:=hD0 (Z3u _ _ _ hI9 (by rw[List.length_mergeSort];exact Nat.le_trans (U8 q _ _) hl))
    have HN9:=hD0 (Zf HE.out.1 hT9 (fun i e=>HE.out.2 i e))
    clear hI9 hT9
    go_wp2_with fail
    go_at_call 46
    refine HCm.out.mono ?_
    rintro e w10 ⟨v10,rfl,hI10,_,hT10⟩
    have HZ:=hD0 (aI0 hI10 (Zf HN9.out hT10 (fun i e=>HE.out.2 i e)))
    clear hI10 hT10
    go_wp2
    go_ret
    exact⟨_,rfl,HB5.out.2.1.trans HZ.out.2,by rw[←HAll.out];exact HZ.out.1⟩
structure Hv where
 h:Hq
 v:Value
def Z7l(x:Hv):List Value:=[.int .i64 x.h.t,.int .i64 x.h.r,x.v,.int .i64 x.h.W]
structure Z6b(w:World)(x:Hv):Prop where
 at_:Y7 w x.v x.h.q
 ok:Ok x.h.W x.h.q
 len:x.h.q.length≤12
theorem Z6b.nw{w w':World}{x:Hv}(h:Z6b w x)(g:Nw w w'):Z6b w' x:=⟨h.at_.nw g,h.ok,h.len⟩
def edL(l:List Hv)(k:Nat):List (Int × Int):=(l.take k).flatMap fun x=>edH x.h.q x.h.q.length
theorem Ul{α β:Type}(f:α→List β)(N:Nat):∀(p:List α),(∀x∈p,(f x).length≤N)→(p.flatMap f).length≤p.length*N
 | [],_=>by simp
 | x::r,h=>by
  rw[List.flatMap_cons,List.length_append,List.length_cons,Nat.add_mul,Nat.one_mul,Nat.add_comm]
  exact Nat.add_le_add (Ul f N r fun y hy=>h y (List.mem_cons_of_mem _ hy)) (h x (List.mem_cons_self ..))
theorem Ui(q:List Rq)(id:Int):(Vp q id).length≤q.length:=by
 unfold Vp
 split
 ·simp
 ·split
  ·rename_i r _ _
   have hn:(Z1f q r).Nodup:=(U0 q r).imp (fun {a b} k=>by omega)
   have:=Uo (m:=q.map Rq.txn) hn fun y hy=>by
    obtain⟨o,ho,_,_,e⟩:=(Z1g q r y).1 hy
    exact List.mem_map.2 ⟨o,ho,e⟩
   simpa using this
  ·simp
theorem Z6q(q:List Rq)(r:Rq):(edR q r).length≤q.length:=by
 unfold edR
 split
 ·rw[Z03];exact Ui q r.id
 ·simp
theorem Z39{q:List Rq}(h:q.length≤12)(n:Nat):(edH q n).length≤144:=by
 have h1:=Ul (edR q) 12 (q.take n) fun r _=>Nat.le_trans (Z6q q r) h
 have h2:(q.take n).length≤12:=Nat.le_trans (by rw[List.length_take];omega) h
 unfold edH
 omega
theorem Z3a{l:List Hv}(hl:l.length≤8)(h:∀x∈l,x.h.q.length≤12)(n:Nat):(edL l n).length≤1152:=by
 have h1:=Ul (fun x:Hv=>edH x.h.q x.h.q.length) 144 (l.take n) fun x hx=>Z39 (h x (List.mem_of_mem_take hx)) _
 have h2:(l.take n).length≤8:=Nat.le_trans (by rw[List.length_take];omega) hl
 unfold edL
 omega
theorem Z52{q:List Rq}{j:Nat}(hj:j<q.length):edH q (j+1)=edH q j++edR q q[j]:=by
 unfold edH
 rw[List.take_succ_eq_append_getElem hj,List.flatMap_append]
 simp
theorem Z53{l:List Hv}{k:Nat}(hk:k<l.length):edL l (k+1)=edL l k++edH l[k].h.q l[k].h.q.length:=by
 unfold edL
 rw[List.take_succ_eq_append_getElem hk,List.flatMap_append]
 simp
theorem Z5c{w w':World}{row:Option Nat}(g:w.grownBy w' row):Zc (fun b=>row=some b) w w':=⟨g.os,g.tape,g.output,g.size,fun k hk hn=>g.block k hk (fun e=>hn e.symm)⟩
theorem Z5l{α:Type}{P:Program}{ST T:TypeId}{sz bytes:Nat}{row:α→List Value}(E:Z07 P ST T sz bytes row){w:World}{g0:Nat}{v v2:Value}{l sg:List α}(h:Yq T sz row w g0 v l)(h2:Rd sz row w v2 sg)(hsm:l.length+sg.length≤100000)(hg0:g0≤w.heap.size) :
  ∃v' w1,(Builtin.append_ #[ST,ST] ST #[v,v2]).run P w=.ok v' w1∧Yq T sz row w1 g0 v' (l++sg)∧w.grownBy w1 v.ownBlock∧(v'.ownBlock=v.ownBlock∨v'.ownBlock=some w.heap.size):=by
 obtain⟨a,c,rfl,⟨rfl,h0⟩ | ⟨b,o,rfl,hc⟩⟩:=h2
 ·cases a with
  | none =>
   obtain rfl:=h0 rfl
   obtain⟨i0,z,hi,hz0,hz1,hz2,hz3⟩:=E.inf
   exact⟨_,_,run_append_owned_none (P:=P) w g0 ST ST T i0 sz E.und hi _ _ _ h,by rw[List.append_nil];exact h,(Nw.refl w).grownBy _,.inl rfl⟩
  | some ad=>exact Yq.many E h [] ad c (fun j u hu=>by simp[Z6] at hu) hsm hg0
 ·exact Yq.many E h sg ⟨b,o,none⟩ c (hc.flat E.len E.pos) hsm hg0
def CsE(A B:Nat)(ht hr:Int)(v:Value)(hW ri rt:Int)(z:World):Prop :=
 z.cell? ⟨A,0,none⟩=some (.int .i64 ht)∧z.cell? ⟨A,1,none⟩=some (.int .i64 hr)∧z.cell? ⟨A,2,none⟩=some v∧z.cell? ⟨A,3,none⟩=some (.int .i64 hW)∧z.cell? ⟨B,0,none⟩=some (.int .i64 ri)∧z.cell? ⟨B,1,none⟩=some (.int .i64 rt)
theorem CsE.tch{A B:Nat}{ht hr:Int}{v:Value}{hW ri rt:Int}{z z':World}(h:CsE A B ht hr v hW ri rt z){S:Nat→Prop}(t:Zc S z z')(hA:A<z.heap.size)(hB:B<z.heap.size)(nA:¬S A)(nB:¬S B):CsE A B ht hr v hW ri rt z' :=
 ⟨(t.cell hA nA).trans h.1,(t.cell hA nA).trans h.2.1,(t.cell hA nA).trans h.2.2.1,(t.cell hA nA).trans h.2.2.2.1,(t.cell hB nB).trans h.2.2.2.2.1,(t.cell hB nB).trans h.2.2.2.2.2⟩
theorem Z70{w:World}{g0 g1:Nat}{v:Value}{l:List (Int × Int)}(h:Z9 w g1 v l)(k:g0≤g1):Z9 w g0 v l:=by
 obtain⟨h1,h2⟩:=h
 refine⟨h1,?_⟩
 rcases h2 with h2 | ⟨g,cap,cur,q1,q2,q3⟩
 ·exact .inl h2
 ·exact .inr ⟨g,cap,cur,q1,Nat.le_trans k q2,q3⟩
structure EdI(W0:World)(l:List Hv)(v:Value)(k:Nat)(w:World):Prop where
 own:Z9 w W0.heap.size v (edL l k)
 nw:Nw W0 w
structure EdJ(W0 w4:World)(A:Nat)(l:List Hv)(q:List Rq)(v:Value)(k n:Nat)(w:World):Prop where
 own:Z9 w W0.heap.size v (edL l k++edH q n)
 nw:Nw W0 w
 tch:Zc (fun j=>W0.heap.size≤j∧j≠A) w4 w
 off:v.ownBlock≠some A
theorem Z3v{w0:World}{v:Value}{l:List Hv}(h:Rd 4 Z7l w0 v l)(hx:∀x∈l,Z6b w0 x)(hl:l.length≤8) :
  Calls prog 7 #[v] w0 fun e w'=>∃v',e=.returned v'∧Z9 w' w0.heap.size v' (sortE (edL l l.length))∧Nw w0 w':=by
 have HX:=hD0 hx
 obtain⟨a,c,rfl,hd⟩:=h
 have HD:=hD0 hd
 obtain⟨n,hn⟩:∃n,l.length=n:=⟨_,rfl⟩
 have HN:=hD0 hn
 rw[hn] at hl ⊢
 clear hd hn hx
 go_enter func7,ntmps7
 go_wp2_with fail
 go_loopw [3,10] (fun v3 v10 wr=>∃(k:Nat) (a b c:_),v3=.slice a b c∧v10=.int .i64 k∧k≤n∧Hid (EdI w0 l (.slice a b c) k wr)) (fun _ v10 _=>n-(intOf v10).toNat)
 case atStart=>exact⟨0,none,0,0,rfl,rfl,Nat.zero_le _,hD0 ⟨World.ownsRow_nil _ _ _ _,Nw.refl _⟩⟩
 case round =>
  obtain⟨k,sa,sb,sc,rfl,rfl,hkn,HI⟩:=hrel
  by_cases hlt:k<n
  ·have hkl:k<l.length:=by rw[HN.out];exact hlt
   rcases HD.out with⟨q,_⟩ | ⟨eb,eo,rfl,hrc⟩
   ·rw[q] at hkl;simp at hkl
   have hrw:=hrc.nw HI.out.nw
   obtain⟨x,hxk⟩:∃x,l[k]=x:=⟨_,rfl⟩
   have hxm:x∈l:=hxk▸gM0 hkl
   have z0:=hrw.cell k hkl 0 (.int .i64 x.h.t) (by rw[hxk];rfl)
   have z1:=hrw.cell k hkl 1 (.int .i64 x.h.r) (by rw[hxk];rfl)
   have z2:=hrw.cell k hkl 2 x.v (by rw[hxk];rfl)
   have z3:=hrw.cell k hkl 3 (.int .i64 x.h.W) (by rw[hxk];rfl)
   have hebl:=hrw.lt
   have HO:=hD0 ((HX.out x hxm).nw HI.out.nw)
   obtain⟨⟨ht,hr,hW,q⟩,qv⟩:=x
   obtain⟨qa,qc,e,hqd⟩:=HO.out.at_
   simp only at e
   subst e
   have HQD:=hD0 hqd
   have V4:=Yf hlt
   have hw:=Ys k (k+1) (by omega) rfl
   obtain⟨k1,hk1⟩:∃m,k+1=m:=⟨_,rfl⟩
   have HK1:=hD0 (aI0 hk1 hlt)
   have HXK:=hD0 (show ∃h:k<l.length,l[k]=_ from⟨hkl,hxk⟩)
   rw[hk1] at hw
   obtain⟨m,hm⟩:∃m,q.length=m:=⟨_,rfl⟩
   have HM:=hD0 hm
   simp only[hm] at z2
   simp only[Nat.add_zero] at z0 z1 z3
   clear hk1 hxk hkl hrw hrc hqd hlt hm
   go_upto_region 5 with fail
   have hal:=Z5 wr (.cells #[.int .i64 ht,.int .i64 hr,.slice qa m qc,.int .i64 hW] 27)
   have g4:Nw wr (wr.alloc (.cells #[.int .i64 ht,.int .i64 hr,.slice qa m qc,.int .i64 hW] 27)):=(Nw.refl wr).alloc _
   obtain⟨w4,hw4⟩:∃w4,wr.alloc (.cells #[.int .i64 ht,.int .i64 hr,.slice qa m qc,.int .i64 hW] 27)=w4:=⟨_,rfl⟩
   obtain⟨A,hA⟩:∃A,wr.heap.size=A:=⟨_,rfl⟩
   have hAg:w0.heap.size≤A:=by rw[←hA];exact HI.out.nw.sz
   have HJ:=hD0 (show EdJ w0 w4 A l q (.slice sa sb sc) k 0 w4 from by
    refine⟨?_,?_,Zc.refl _ _,fun e=>?_⟩
    ·rw[←hw4]
     have:=Uf HI.out.own g4
     simpa [edH] using this
    ·rw[←hw4];exact HI.out.nw.trans g4
    ·have:=olt HI.out.own e
     omega)
   rw[hA] at hal ⊢
   rw[hw4] at hal g4 ⊢
   have HAL:=hD0 (aI0 hal (Go.Proofs.Ytpmlaphjlghpmaa.hlt hal))
   have HO4:=hD0 (HX.out _ hxm)
   have hml:m≤12:=by rw[←HM.out];exact HO.out.len
   have a0:=Z2 hal (j:=0)
   have a1:=Z2 hal (j:=1)
   have a2:=Z2 hal (j:=2)
   have a3:=Z2 hal (j:=3)
   clear hal g4 hw4 hA z0 z1 z2 z3 HO hebl
   go_wp2_with fail
   clear a0 a1 a2 a3
   go_loopw [3,17] (fun v3 v17 wr=>∃(j:Nat) (a b c:_),v3=.slice a b c∧v17=.int .i64 j∧j≤m∧Hid (EdJ w0 w4 A l q (.slice a b c) k j wr)) (fun _ v17 _=>m-(intOf v17).toNat)
   case atStart=>exact⟨0,_,_,_,rfl,rfl,Nat.zero_le _,HJ⟩
   case round =>
    clear HJ HI
    obtain⟨j,sa,sb,sc,rfl,rfl,hjm,HJ⟩:=hrel
    by_cases hltj:j<m
    ·have hjq:j<q.length:=by rw[HM.out];exact hltj
     have hq4:=HO4.out.at_.nw HJ.out.nw
     obtain⟨qa',qc',e,hqd⟩:=hq4
     simp only[Value.slice.injEq] at e
     obtain⟨rfl,_,rfl⟩:=e
     rcases hqd with⟨e,_⟩ | ⟨qb,qo,rfl,hqc⟩
     ·have e':q=[]:=e
      rw[e'] at hjq;simp at hjq
     obtain⟨R,hR⟩:∃R,q[j]=R:=⟨_,rfl⟩
     have hRm:R∈q:=hR▸gM0 hjq
     have r0:=hqc.cell j hjq 0 (.int .i64 R.id) (by rw[hR];rfl)
     have r1:=hqc.cell j hjq 1 (.int .i64 R.txn) (by rw[hR];rfl)
     have r2:=hqc.cell j hjq 2 (.int .i64 R.md) (by rw[hR];rfl)
     have r3:=hqc.cell j hjq 3 (.int .i64 R.wt) (by rw[hR];rfl)
     have r4:=hqc.cell j hjq 4 (.int .i64 R.sn) (by rw[hR];rfl)
     have hqbl:=hqc.lt
     simp only[Nat.add_zero] at r0 r1 r2 r3 r4
     have hltj':=Yf hltj
     have hwj:=Ys j (j+1) (by omega) rfl
     obtain⟨j1,hj1⟩:∃m,j+1=m:=⟨_,rfl⟩
     have HJ1:=hD0 (aI0 hj1 hltj)
     have hed:edH q j1=edH q j++edR q R:=by rw[←hj1,←hR];exact Z52 hjq
     have HED:=hD0 hed
     have HRm:=hD0 hRm
     rw[hj1] at hwj
     obtain⟨ri,rt,rm,rw_,rs⟩:=R
     simp only at r0 r1 r2 r3 r4
     clear hj1 hR hjq hqc hed hRm hltj
     go_upto_region 8 with fail
     have hal:=Z5 wr (.cells #[.int .i64 ri,.int .i64 rt,.int .i64 rm,.int .i64 rw_,.int .i64 rs] 49)
     have g5:Nw wr (wr.alloc (.cells #[.int .i64 ri,.int .i64 rt,.int .i64 rm,.int .i64 rw_,.int .i64 rs] 49)):=(Nw.refl wr).alloc _
     obtain⟨w5,hw5⟩:∃w5,wr.alloc (.cells #[.int .i64 ri,.int .i64 rt,.int .i64 rm,.int .i64 rw_,.int .i64 rs] 49)=w5:=⟨_,rfl⟩
     obtain⟨B,hB⟩:∃B,wr.heap.size=B:=⟨_,rfl⟩
     have HJ5:=hD0 (show EdJ w0 w4 A l q (.slice sa sb sc) k j w5 from by
      rw[←hw5]
      exact⟨Uf HJ.out.own g5,HJ.out.nw.trans g5,HJ.out.tch.alloc _,HJ.out.off⟩)
     rw[hB] at hal ⊢
     rw[hw5] at hal g5 ⊢
     have b0:=Z2 hal (j:=0)
     have b1:=Z2 hal (j:=1)
     have b4:=Z2 hal (j:=4)
     have HBl2:=hD0 (Go.Proofs.Ytpmlaphjlghpmaa.hlt hal)
     have HBo:=hD0 (show ¬(Value.slice sa sb sc).ownBlock=some B from fun e=>by
      have:=olt HJ.out.own e
      omega)
     clear hal g5 hw5 hB r0 r1 r2 r3 r4 HJ hqbl
     by_cases hs:0<rs
     ·have dS:decide (0<rs)=true:=decide_eq_true hs
      have tA:A<w4.heap.size:=HAL.out.2
      have cA:∀z,Nw w5 z→∀o,z.cell? ⟨A,o,none⟩=w4.cell? ⟨A,o,none⟩:=fun z g o=>(HJ5.out.tch.trans (Zc.nw g)).cell tA (fun e=>e.2 rfl)
      have HCs:=hD0 (show ∀z,Nw w5 z→CsE A B ht hr (.slice (some ⟨qb,qo,none⟩) m qc) hW ri rt z from fun z g=>⟨(cA z g 0).trans (Z2 HAL.out.1 (j:=0)),(cA z g 1).trans (Z2 HAL.out.1 (j:=1)),(cA z g 2).trans (Z2 HAL.out.1 (j:=2)),(cA z g 3).trans (Z2 HAL.out.1 (j:=3)),g.kp b0,g.kp b1⟩)
      have ta0:∀z,CsE A B ht hr (.slice (some ⟨qb,qo,none⟩) m qc) hW ri rt z→z.cell? ⟨A,0,none⟩=some (.int .i64 ht):=fun z h=>h.1
      have ta1:∀z,CsE A B ht hr (.slice (some ⟨qb,qo,none⟩) m qc) hW ri rt z→z.cell? ⟨A,1,none⟩=some (.int .i64 hr):=fun z h=>h.2.1
      have ta2:∀z,CsE A B ht hr (.slice (some ⟨qb,qo,none⟩) m qc) hW ri rt z→z.cell? ⟨A,2,none⟩=some (.slice (some ⟨qb,qo,none⟩) m qc):=fun z h=>h.2.2.1
      have ta3:∀z,CsE A B ht hr (.slice (some ⟨qb,qo,none⟩) m qc) hW ri rt z→z.cell? ⟨A,3,none⟩=some (.int .i64 hW):=fun z h=>h.2.2.2.1
      have tb0:∀z,CsE A B ht hr (.slice (some ⟨qb,qo,none⟩) m qc) hW ri rt z→z.cell? ⟨B,0,none⟩=some (.int .i64 ri):=fun z h=>h.2.2.2.2.1
      have tb1:∀z,CsE A B ht hr (.slice (some ⟨qb,qo,none⟩) m qc) hW ri rt z→z.cell? ⟨B,1,none⟩=some (.int .i64 rt):=fun z h=>h.2.2.2.2.2
      have HBl:=hD0 (fun(z:World) (g:Nw w5 z)=>Z3t ht hr hW ri (.slice (some ⟨qb,qo,none⟩) m qc) q z (Nat.le_trans HO4.out.len (by decide)) HO4.out.ok (by
       have:=HO4.out.at_.nw (HJ5.out.nw.trans g)
       rw[←HM.out];exact this))
      have hsl:=HED.out
      rw[show edR q ⟨ri,rt,rm,rw_,rs⟩=Vy rt (Vp q ri) from if_pos hs] at hsl
      have HSL:=hD0 hsl
      clear hsl cA tA hs b0 b1
      go_wp2_with fail
      refine Z8 [] (CsE A B ht hr (.slice (some ⟨qb,qo,none⟩) m qc) hW ri rt) (by kernel_rfl) ?_
      change Z7 _ _ _ _ _ _ 10 #[false,false,false,false,false,false,false,false,false,false] _ w5.drew
      obtain⟨y4,hy4⟩:∃y,w5.drew=y:=⟨_,rfl⟩
      rw[hy4]
      have hN0:Nw w5 y4:=by rw[←hy4];exact(Nw.refl w5).dr
      clear hy4
      have hS0:=HCs.out y4 hN0
      refine Z0 0 rfl (by kernel_rfl) (by kernel_rfl) (by kernel_rfl) (fun v c a w h=>h) ?_
      (first | (refine⟨undef,Or.inr ⟨by rfl,rfl⟩,?_⟩) | (apply Exists.intro;refine⟨Or.inl ⟨by rfl,?_⟩,?_⟩;(intro x hx';go_simp;first | done | with_reducible rfl)))
      (try simp only[Act.put,List.getElem_toArray,List.getElem_cons_zero,List.getElem_cons_succ,List.setIfInBounds_toArray,List.set_cons_zero,List.set_cons_succ])
      refine Z0 1 rfl (by kernel_rfl) (by kernel_rfl) (by kernel_rfl) (fun v c a w h=>h) ?_
      (first | (refine⟨undef,Or.inr ⟨by rfl,rfl⟩,?_⟩) | (apply Exists.intro;refine⟨Or.inl ⟨by rfl,?_⟩,?_⟩;(intro x hx';go_simp;first | done | with_reducible rfl)))
      (try simp only[Act.put,List.getElem_toArray,List.getElem_cons_zero,List.getElem_cons_succ,List.setIfInBounds_toArray,List.set_cons_zero,List.set_cons_succ])
      refine Z1 2 rfl (by kernel_rfl) (by kernel_rfl) (by kernel_rfl) (by kernel_rfl) (fun v c a w h=>h) hS0 ?_
      (first | (refine⟨undef,Or.inr ⟨by rfl,rfl⟩,?_⟩) | (apply Exists.intro;refine⟨Or.inl ⟨by rfl,?_⟩,?_⟩;(intro x hx';go_simp;first | done | with_reducible rfl)))
      (try simp only[Act.put,List.getElem_toArray,List.getElem_cons_zero,List.getElem_cons_succ,List.setIfInBounds_toArray,List.set_cons_zero,List.set_cons_succ])
      refine Z1 3 rfl (by kernel_rfl) (by kernel_rfl) (by kernel_rfl) (by kernel_rfl) (fun v c a w h=>h) hS0 ?_
      (first | (refine⟨undef,Or.inr ⟨by rfl,rfl⟩,?_⟩) | (apply Exists.intro;refine⟨Or.inl ⟨by rfl,?_⟩,?_⟩;(intro x hx';go_simp;first | done | with_reducible rfl)))
      (try simp only[Act.put,List.getElem_toArray,List.getElem_cons_zero,List.getElem_cons_succ,List.setIfInBounds_toArray,List.set_cons_zero,List.set_cons_succ])
      refine Z0 4 rfl (by kernel_rfl) (by kernel_rfl) (by kernel_rfl) (fun v c a w h=>h) ?_
      (first | (refine⟨undef,Or.inr ⟨by rfl,rfl⟩,?_⟩) | (apply Exists.intro;refine⟨Or.inl ⟨by rfl,?_⟩,?_⟩;(intro x hx';go_simp;first | done | with_reducible rfl)))
      (try simp only[Act.put,List.getElem_toArray,List.getElem_cons_zero,List.getElem_cons_succ,List.setIfInBounds_toArray,List.set_cons_zero,List.set_cons_succ])
      refine Z1 5 rfl (by kernel_rfl) (by kernel_rfl) (by kernel_rfl) (by kernel_rfl) (fun v c a w h=>h) hS0 ?_
      (first | (refine⟨undef,Or.inr ⟨by rfl,rfl⟩,?_⟩) | (apply Exists.intro;refine⟨Or.inl ⟨by rfl,?_⟩,?_⟩;(intro x hx';go_simp;first | done | with_reducible rfl)))
      (try simp only[Act.put,List.getElem_toArray,List.getElem_cons_zero,List.getElem_cons_succ,List.setIfInBounds_toArray,List.set_cons_zero,List.set_cons_succ])
      refine Z3 6 (by kernel_rfl) rfl (fun K hK=>?_)
      rw[if_pos (by rfl)]
      (try simp only[List.getElem_toArray,List.getElem_cons_zero,List.getElem_cons_succ])
      go_simp
      refine(HBl.out y4 hN0).mono ?_
      rintro e w6 ⟨v6,rfl,g6,hI6⟩
      refine hK _ _ (.inr (HCs.out w6 (hN0.trans g6))) ?_
      clear hK K
      (try simp only[Act.put,List.getElem_toArray,List.getElem_cons_zero,List.getElem_cons_succ,List.setIfInBounds_toArray,List.set_cons_zero,List.set_cons_succ])
      have hTw:=Z31 hI6 (Nat.le_trans (Ui q ri) (Nat.le_trans HO4.out.len (by decide))) rt
      have hS6:=hN0.trans g6
      clear g6 hI6 hS0 hN0
      refine Z3 7 (by kernel_rfl) rfl (fun K hK=>?_)
      rw[if_pos (by rfl)]
      (try simp only[List.getElem_toArray,List.getElem_cons_zero,List.getElem_cons_succ])
      go_simp
      refine hTw.mono ?_
      rintro e w7 ⟨v7,rfl,hO7,g7⟩
      refine hK _ _ (.inr (HCs.out w7 (hS6.trans g7))) ?_
      clear hK K hTw
      (try simp only[Act.put,List.getElem_toArray,List.getElem_cons_zero,List.getElem_cons_succ,List.setIfInBounds_toArray,List.set_cons_zero,List.set_cons_succ])
      have hS7:=hS6.trans g7
      have hle:(edL l k++edH q j).length+(Vy rt (Vp q ri)).length≤100000:=by
       have h1:=Z3a (l:=l) (by rw[HN.out];exact hl) (fun x hx=>(HX.out x hx).len) k
       have h2:(edH q j).length≤144:=Z39 HO4.out.len j
       have h3:(Vp q ri).length≤12:=Nat.le_trans (Ui q ri) HO4.out.len
       rw[List.length_append,Z03]
       omega
      obtain⟨v8,w8,hr8,hO8,hg8,hp8⟩:=Z5l V7 (Uf HJ5.out.own hS7) hO7.at_ hle (HJ5.out.nw.trans hS7).sz
      obtain⟨n8,hn8⟩:∃n,(edL l k++edH q j++Vy rt (Vp q ri)).length=n:=⟨_,rfl⟩
      have hCs8:CsE A B ht hr (.slice (some ⟨qb,qo,none⟩) m qc) hW ri rt w8:=(HCs.out w7 hS7).tch (Z5c hg8) (lL0 HAL.out.2 (HJ5.out.tch.trans (Zc.nw hS7)).size) (lL0 HBl2.out hS7.sz) HJ5.out.off HBo.out
      rcases Yt hO8 with⟨rfl,e8⟩ | ⟨g8,cap8,rfl⟩
      all_goals
       try rw[hn8] at hr8 hO8 hp8
       have HJ8:=hD0 (show EdJ w0 w4 A l q _ k j1 w8 from⟨by
        rw[HSL.out,←List.append_assoc];exact hO8,(HJ5.out.nw.trans hS7).gro hg8 (fun b e=>oge HJ5.out.own e),(HJ5.out.tch.trans (Zc.nw hS7)).grown hg8 (fun b e=>by
         by_cases hb:w4.heap.size≤b
         ·exact .inr hb
         ·exact .inl ⟨oge HJ5.out.own e,fun e'=>HJ5.out.off (by rw[e,e'])⟩),fun e=>by
         rcases hp8 with p8 | p8
         ·exact HJ5.out.off (by rw[←p8,e])
         ·rw[p8] at e
          have:=Option.some.inj e
          have h5:=HAL.out.2
          have h6:=(HJ5.out.tch.trans (Zc.nw hS7)).size
          omega⟩)
       have HR8:=hD0 hr8
       clear hr8 hO8 hg8 hp8 hO7 g7 hle hn8
       refine Z3 8 (by kernel_rfl) rfl (fun K hK=>?_)
       refine Z3o (by rfl) (.tmp 24) (.tmp 31) 33 rfl _ _ _ _ rfl rfl HR8.out ?_
       refine hK _ _ (.inr hCs8) ?_
       clear hK K HR8
       (try simp only[Act.put,List.getElem_toArray,List.getElem_cons_zero,List.getElem_cons_succ,List.setIfInBounds_toArray,List.set_cons_zero,List.set_cons_succ])
       refine Z0 9 rfl (by kernel_rfl) (by kernel_rfl) (by kernel_rfl) (fun v c a w h=>h) ?_
       (first | (refine⟨undef,Or.inr ⟨by rfl,rfl⟩,?_⟩) | (apply Exists.intro;refine⟨Or.inl ⟨by rfl,?_⟩,?_⟩;(intro x hx';go_simp;first | done | with_reducible rfl)))
       (try simp only[Act.put,List.getElem_toArray,List.getElem_cons_zero,List.getElem_cons_succ,List.setIfInBounds_toArray,List.set_cons_zero,List.set_cons_succ])
       refine Z4 (by kernel_rfl) ?_ _
       refine NoPanic.normal ?_
       (try simp only[Act.put,List.getElem_toArray,List.getElem_cons_zero,List.getElem_cons_succ,List.setIfInBounds_toArray,List.set_cons_zero,List.set_cons_succ])
       clear hS7 hS6 hCs8 ta0 ta1 ta2 ta3 tb0 tb1
       go_wp2_with fail
       exact⟨⟨j1,_,_,_,rfl,rfl,by rw[←HJ1.out.1];exact HJ1.out.2,HJ8⟩,by rw[←HJ1.out.1];exact V5 HJ1.out.2⟩
     ·have dS:decide (0<rs)=false:=decide_eq_false hs
      have HJ6:=hD0 (show EdJ w0 w4 A l q (.slice sa sb sc) k j1 w5 from⟨by
       rw[HED.out,show edR q ⟨ri,rt,rm,rw_,rs⟩=[] from if_neg hs,List.append_nil]
       exact HJ5.out.own,HJ5.out.nw,HJ5.out.tch,HJ5.out.off⟩)
      clear hs HJ5 b0 b1
      go_wp2_with fail
      exact⟨⟨j1,_,_,_,rfl,rfl,by rw[←HJ1.out.1];exact HJ1.out.2,HJ6⟩,by rw[←HJ1.out.1];exact V5 HJ1.out.2⟩
    ·obtain rfl:j=m:=Nat.le_antisymm hjm (Nat.le_of_not_lt hltj)
     have hltj':¬j<j:=Nat.lt_irrefl j
     have HI2:=hD0 (show EdI w0 l (.slice sa sb sc) k1 wr from⟨by
      obtain⟨h1,h2⟩:=HXK.out
      rw[←HK1.out.1,Z53 h1,h2]
      have:=HJ.out.own
      rw[←HM.out] at this
      exact this,HJ.out.nw⟩)
     clear hltj HJ
     go_wp2_with fail
     exact⟨⟨k1,_,_,_,rfl,rfl,by rw[←HK1.out.1];exact HK1.out.2,HI2⟩,by rw[←HK1.out.1];exact V5 HK1.out.2⟩
  ·obtain rfl:k=n:=Nat.le_antisymm hkn (Nat.le_of_not_lt hlt)
   have V4:¬k<k:=Nat.lt_irrefl k
   have HS:=hD0 (Z00 (Z9.at_ HI.out.own) (Nat.le_trans (Z3a (l:=l) (by rw[HN.out];exact hl) (fun x hx=>(HX.out x hx).len) k) (by decide)))
   have HI2:=hD0 HI.out.nw
   clear hlt HI
   go_wp2_with fail
   refine HS.out.mono ?_
   rintro e w9 ⟨v9,rfl,hO9,g9⟩
   have HZ:=hD0 (aI0 (show Z9 w9 w0.heap.size v9 (sortE (edL l k)) from Z70 hO9 HI2.out.sz) (HI2.out.trans g9))
   clear hO9 g9
   go_wp2
   go_ret
   exact⟨_,rfl,HZ.out.1,HZ.out.2⟩
section
open Go.RowKit Go.Maps Go.ChangeMaps
def Za(k:Int):Prop:=-9223372036854775808≤k∧k≤9223372036854775807
def Ud:Value→Option (DataW Unit × List MemPlace)
 | .int .i64 x=>some (.lit (.int .i64 x),[])
 | _=>none
theorem Yl(x:Int):Ud (.int .i64 x)=some (.lit (.int .i64 x),[]):=rfl
theorem Yw{v:Value}{x:Int}{ps:List MemPlace}(h:Ud v=some (.lit (.int .i64 x),ps)):v=.int .i64 x:=by
 unfold Ud at h
 split at h
 ·injection h with h
  injection h with h1 _
  injection h1 with h1
  injection h1 with _ h1
  rw[h1]
 ·cases h
theorem Z2s:Keyed prog 3:=int_keyed underlying3
theorem Z5f{k:Int}(h:Za k):keyOf prog 3 (.int .i64 k)=some (.int .i64 k):=keyOf_int_mk underlying3 (WalkArith.wf_i64 h)
theorem Z5e{k:Int}(h:Za k):WideAt.IsKeyLit (.int .i64 k):=Z2s.key (Z5f h)
theorem Z6a(w:World):(zeroValue 3).run prog w=.ok (.int .i64 0) w:=by kernel_rfl
theorem Z3d{a b:Int}(h:a≠b):(Lit.int .i64 a)≠.int .i64 b:=fun e=>h (by injection e)
theorem Z8k{w:World}{b n:Nat}{D:DataW Unit}{R:Value→Option (DataW Unit × List MemPlace)}(h:w.ownsMap prog 3 R b n D):w.ownsMap prog 3 R b (Maps.size D) D:=by
 obtain⟨es,clock,e1,e2,e3,e4⟩:=h
 exact⟨es,clock,e1,e2,by rw[e4];simp[Maps.size,length_sorted],e4⟩
def Zd(w:World)(b:Nat)(f:Int→Option Int)(N:Nat):Prop :=
 ∃D:DataW Unit,w.ownsMap prog 3 Ud b (Maps.size D) D∧(∀k,Maps.has D (.int .i64 k)=(f k).isSome)∧(∀k x z,f k=some x→D.atKey (.int .i64 k) z=.lit (.int .i64 x))∧Maps.size D≤N
section
variable {w w':World} {b N:Nat} {f:Int→Option Int}
theorem Zd.kept{row:Option Nat}(h:Zd w b f N)(hg:w.grownBy w' row)(hne:some b≠row):Zd w' b f N:=by
 obtain⟨D,h1,h2⟩:=h
 exact⟨D,h1.kept hg hne,h2⟩
theorem Zd.nw(h:Zd w b f N)(g:Nw w w'):Zd w' b f N:=h.kept (g.grownBy none) (by simp)
theorem Zd.tch{S:Nat→Prop}(h:Zd w b f N)(g:Zc S w w')(hn:¬S b):Zd w' b f N:=by
 obtain⟨D,⟨es,clock,hb,F,hs,hD⟩,h2⟩:=h
 exact⟨D,⟨es,clock,(g.block b (Array.getElem?_eq_some_iff.1 hb).1 hn).trans hb,F,hs,hD⟩,h2⟩
theorem Zd.obj(h:Zd w b f N):∃es c,w.heap[b]?=some (.map es c):=by obtain⟨D,⟨es,c,h,_⟩,_⟩:=h;exact⟨es,c,h⟩
theorem Zd.le(h:Zd w b f N){M:Nat}(hM:N≤M):Zd w b f M:=by
 obtain⟨D,h1,h2,h3,h4⟩:=h
 exact⟨D,h1,h2,h3,Nat.le_trans h4 hM⟩
theorem Zd.made(w:World):Zd (w.alloc (.map #[] 0)) w.heap.size (fun _=>none) 0 :=
 ⟨.map [],(World.ownsMap_made _ _ _ _).mono (Nat.zero_le _),fun _=>rfl,(fun _ _ _ h=>nomatch h),Nat.le_refl _⟩
theorem Zd.look_no(h:Zd w b f N){k:Int}(hk:Za k)(hc:f k=none) :
  (Instr.lookup 57 (.map (some b)) (.int .i64 k) true).run prog w=.ok (.tuple #[.int .i64 0,.bool false]) w:=by
 obtain⟨D,o,h2,h3,_⟩:=h
 obtain⟨v,ps,hr,hv⟩:=o.look_ok (t:=57) Z2s underlying57 (Z6a w) (Yl 0) (Z5f hk)
 have hh:=h2 k
 rw[hc] at hh
 rw[atKey_of_not_has hh] at hv
 rw[Yw hv,hh] at hr
 exact hr
theorem Zd.look_yes(h:Zd w b f N){k x:Int}(hk:Za k)(hc:f k=some x) :
  (Instr.lookup 57 (.map (some b)) (.int .i64 k) true).run prog w=.ok (.tuple #[.int .i64 x,.bool true]) w:=by
 obtain⟨D,o,h2,h3,_⟩:=h
 obtain⟨v,ps,hr,hv⟩:=o.look_ok (t:=57) Z2s underlying57 (Z6a w) (Yl 0) (Z5f hk)
 have hh:=h2 k
 rw[hc] at hh
 rw[h3 k x _ hc] at hv
 rw[Yw hv,hh] at hr
 exact hr
theorem Zd.look_val(h:Zd w b f N){k x:Int}(hk:Za k)(hc:f k=some x) :
  (Instr.lookup 57 (.map (some b)) (.int .i64 k) false).run prog w=.ok (.int .i64 x) w:=by
 obtain⟨D,o,h2,h3,_⟩:=h
 obtain⟨v,ps,hr,hv⟩:=o.lookup (t:=57) Z2s underlying57 (Z6a w) (Yl 0) (Z5f hk)
 rw[h3 k x _ hc] at hv
 rw[Yw hv] at hr
 exact hr
theorem Zd.put'(h:Zd w b f N)(hn:N<1000000){k:Int}(hk:Za k)(x:Int) :
  ∃w',(Instr.mapUpdate 57 (.map (some b)) (.int .i64 k) (.int .i64 x)).run prog w=.ok () w'∧Zd w' b (Zk f k x) (if (f k).isSome=true then N else N+1)∧w.grownBy w' (some b):=by
 obtain⟨D,o,h2,h3,h4⟩:=h
 obtain⟨w',hr,o',hg⟩:=o.update (t:=57) Z2s underlying57 (by unfold maxLen;omega) (Z5f hk) (Yl x)
 have hsz:=size_put (k:=.int .i64 k) (o.tidy Z2s) (.lit (.int .i64 x))
 rw[h2 k] at hsz
 refine⟨w',hr,⟨D.put (.int .i64 k) (.lit (.int .i64 x)),Z8k o',fun y=>?_,fun y u z hy=>?_,?_⟩,hg⟩
 ·by_cases q:y=k
  ·subst q
   rw[has_put_same o.isMap (Z5e hk),Zz];rfl
  ·rw[has_put_other (Z3d q),h2 y,Zy _ _ q]
 ·by_cases q:y=k
  ·subst q
   rw[Zz] at hy
   injection hy with hy
   subst hy
   exact atKey_put_same o.isMap (Z5e hk) _ _
  ·rw[Zy _ _ q] at hy
   rw[atKey_put_other (Z3d q)]
   exact h3 y u z hy
 ·rw[hsz]
  split<;>omega
theorem Zd.put(h:Zd w b f N)(hn:N<1000000){k:Int}(hk:Za k)(x:Int) :
  ∃w',(Instr.mapUpdate 57 (.map (some b)) (.int .i64 k) (.int .i64 x)).run prog w=.ok () w'∧Zd w' b (Zk f k x) (N+1)∧w.grownBy w' (some b):=by
 obtain⟨w',h1,h2,h3⟩:=h.put' hn hk x
 exact⟨w',h1,h2.le (by split<;>omega),h3⟩
theorem Zd.set(h:Zd w b f N)(hn:N<1000000){k:Int}(hk:Za k)(x:Int)(hs:f k≠none) :
  ∃w',(Instr.mapUpdate 57 (.map (some b)) (.int .i64 k) (.int .i64 x)).run prog w=.ok () w'∧Zd w' b (Zk f k x) N∧w.grownBy w' (some b):=by
 obtain⟨w',h1,h2,h3⟩:=h.put' hn hk x
 refine⟨w',h1,h2.le ?_,h3⟩
 cases e:f k with
 | none=>exact absurd e hs
 | some y=>simp
end
end
def U1(k:Kn):List Value:=[.int .i64 k.f,.bool k.lp]
theorem Z80:Z07 prog 79 118 2 16 U1 where
 und:=underlying79
 inf:=by
  have h:(prog.info? 118).map (fun i=>(i.zero,i.size,i.bytes))=some (some (.agg #[.int .i64 0,.bool false]),2,16):=by kernel_rfl
  cases e:prog.info? 118 with
  | none=>rw[e] at h;cases h
  | some i =>
   rw[e] at h
   simp only[Option.map_some,Option.some.injEq,Prod.mk.injEq] at h
   exact⟨i,_,rfl,h.1,h.2.1,h.2.2,rfl⟩
 pos:=by decide
 byt:=by decide
 len:=fun _=>rfl
 one:=fun a u hu=>by
  simp only[U1,List.mem_cons,List.not_mem_nil,or_false] at hu
  rcases hu with rfl | rfl<;>rfl
abbrev Va(w:World)(g0:Nat)(v:Value)(l:List Kn):Prop:=Yq 118 2 U1 w g0 v l
theorem Z3g{w:World}{g0 e size n m:Nat}{xs:List Value}{a:Option Addr}{c:Nat}(h:w.ownsRow g0 e size (.slice a n c) n xs)(hm:m≤n):w.ownsRow g0 e size (.slice a m c) m (xs.take (m*size)):=by
 obtain⟨hx,hr⟩:=h
 have hl:(xs.take (m*size)).length=m*size:=by
  rw[List.length_take,hx]
  exact Nat.min_eq_left (Nat.mul_le_mul_right _ hm)
 rcases hr with⟨h0,hn⟩ | ⟨g,cap,cur,h1,h2,h3,h4,h5,h6,h7⟩
 ·simp only[Value.slice.injEq] at h0
  obtain⟨rfl,_,rfl⟩:=h0
  obtain rfl:m=0:=by omega
  exact⟨hl,.inl ⟨rfl,rfl⟩⟩
 ·simp only[Value.slice.injEq] at h1
  obtain⟨rfl,_,rfl⟩:=h1
  refine⟨hl,.inr ⟨g,_,cur,rfl,h2,h3,Nat.le_trans hm h4,h5,h6,?_⟩⟩
  have:=congrArg (List.take (m*size)) h7
  rw[List.take_take,Nat.min_eq_left (Nat.mul_le_mul_right _ hm)] at this
  exact this
theorem IS.cut{w:World}{a:Option Addr}{c:Nat}{l:List Int}(h:IS w (.slice a l.length c) l){m:Nat}(hm:m≤l.length):IS w (.slice a m c) (l.take m):=by
 have:=Z3g h hm
 unfold IS
 rw[List.length_take,Nat.min_eq_left hm,List.map_take]
 simpa using this
theorem Us{α:Type}{row:α→List Value}{sz:Nat}(hl:∀a,(row a).length=sz):∀(l:List α) (m:Nat),Z6 row (l.take m)=(Z6 row l).take (m*sz)
 | [],m=>by simp[Z6]
 | a::l,0=>by simp[Z6]
 | a::l,m+1=>by
  show row a++Z6 row (l.take m)=(row a++Z6 row l).take ((m+1)*sz)
  have e1:(row a).take ((m+1)*sz)=row a:=List.take_of_length_le (by rw[hl,Nat.add_mul];omega)
  rw[Us hl l m,List.take_append,e1,hl,show(m+1)*sz-sz=m*sz by rw[Nat.add_mul];omega]
theorem Va.cut{w:World}{g0:Nat}{a:Option Addr}{c:Nat}{l:List Kn}(h:Va w g0 (.slice a l.length c) l){m:Nat}(hm:m≤l.length):Va w g0 (.slice a m c) (l.take m):=by
 have:=Z3g h hm
 unfold Va Yq
 rw[List.length_take,Nat.min_eq_left hm,Us (sz:=2) (fun _=>rfl)]
 exact this
def fnx(s:Gb)(v:Int):Option Int:=(s.nx v).map Int.ofNat
structure Zw(W0 w:World)(o mb pb:Nat)(ev vp vo vk:Value)(E:List (Int × Int))(s:Gb)(N:Nat):Prop where
 obj:w.heap[o]?=some (.cells #[ev,.map (some mb),.map (some pb),vp,vo,vk,.bool s.fd,.int .i64 s.ls] 81 (0,0))
 ed:Y4 W0 ev E
 nw:Nw W0 w
 mn:Zd w mb (fnx s) N
 mp:Zd w pb s.pl N
 pa:IS w vp s.path
 op:IS w vo s.op
 kn:Va w W0.heap.size vk s.kn
 oW:W0.heap.size≤o
 mW:W0.heap.size≤mb
 pW:W0.heap.size≤pb
 mne:mb≠pb
 pg:∀g,vp.ownBlock=some g→W0.heap.size≤g
 og:∀g,vo.ownBlock=some g→W0.heap.size≤g
 ne:∀g,vp.ownBlock=some g→vo.ownBlock≠some g
 bd:s.path.length≤N∧s.op.length≤N∧s.kn.length≤N
def Wk(W0 w:World)(o:Nat)(ev:Value)(E:List (Int × Int))(s:Gb)(N:Nat):Prop:=∃mb pb vp vo vk,Zw W0 w o mb pb ev vp vo vk E s N
section
variable {W0 w w':World} {o mb pb N:Nat} {ev vp vo vk:Value} {E:List (Int × Int)} {s:Gb}
theorem Zw.nwr(h:Zw W0 w o mb pb ev vp vo vk E s N)(g:Nw w w'):Zw W0 w' o mb pb ev vp vo vk E s N :=
 ⟨g.at' h.obj,h.ed,h.nw.trans g,h.mn.nw g,h.mp.nw g,h.pa.nw g,h.op.nw g,Uf h.kn g,h.oW,h.mW,h.pW,h.mne,h.pg,h.og,h.ne,h.bd⟩
theorem Zw.c(h:Zw W0 w o mb pb ev vp vo vk E s N):w.cell? ⟨o,0,none⟩=some ev∧w.cell? ⟨o,1,none⟩=some (.map (some mb))∧w.cell? ⟨o,2,none⟩=some (.map (some pb))∧w.cell? ⟨o,3,none⟩=some vp∧w.cell? ⟨o,4,none⟩=some vo∧w.cell? ⟨o,5,none⟩=some vk∧w.cell? ⟨o,6,none⟩=some (.bool s.fd)∧w.cell? ⟨o,7,none⟩=some (.int .i64 s.ls) :=
 ⟨Z2 h.obj,Z2 h.obj,Z2 h.obj,Z2 h.obj,Z2 h.obj,Z2 h.obj,Z2 h.obj,Z2 h.obj⟩
theorem Zw.fz(h:Zw W0 w o mb pb ev vp vo vk E s N)(j:Nat):w.frozen? ⟨o,j,none⟩=false:=hfz h.obj
theorem Zw.ol(h:Zw W0 w o mb pb ev vp vo vk E s N):o<w.heap.size:=hlt h.obj
theorem Zw.off(h:Zw W0 w o mb pb ev vp vo vk E s N):mb≠o∧pb≠o∧vp.ownBlock≠some o∧vo.ownBlock≠some o∧vk.ownBlock≠some o:=by
 refine⟨fun e=>?_,fun e=>?_,fun e=>?_,fun e=>?_,fun e=>?_⟩
 ·obtain⟨es,c,q⟩:=h.mn.obj
  rw[e,h.obj] at q;cases q
 ·obtain⟨es,c,q⟩:=h.mp.obj
  rw[e,h.obj] at q;cases q
 ·obtain⟨c,q⟩:=Zt h.pa e
  rw[h.obj] at q
  injection q with q
  injection q with _ q _
  exact absurd q (by decide)
 ·obtain⟨c,q⟩:=Zt h.op e
  rw[h.obj] at q
  injection q with q
  injection q with _ q _
  exact absurd q (by decide)
 ·obtain⟨c,q⟩:=Zt h.kn e
  rw[h.obj] at q
  injection q with q
  injection q with _ q _
  exact absurd q (by decide)
theorem Zw.apart(h:Zw W0 w o mb pb ev vp vo vk E s N):(∀g,vk.ownBlock=some g→vp.ownBlock≠some g∧vo.ownBlock≠some g)∧(vp.ownBlock≠some mb∧vo.ownBlock≠some mb∧vk.ownBlock≠some mb)∧(vp.ownBlock≠some pb∧vo.ownBlock≠some pb∧vk.ownBlock≠some pb):=by
 obtain⟨es1,c1,q1⟩:=h.mn.obj
 obtain⟨es2,c2,q2⟩:=h.mp.obj
 refine⟨fun g hg=>⟨fun e=>?_,fun e=>?_⟩,⟨fun e=>?_,fun e=>?_,fun e=>?_⟩,⟨fun e=>?_,fun e=>?_,fun e=>?_⟩⟩
 ·obtain⟨c,q⟩:=Zt h.kn hg
  obtain⟨c',q'⟩:=Zt h.pa e
  rw[q] at q'
  injection q' with q'
  injection q' with _ q' _
  exact absurd q' (by decide)
 ·obtain⟨c,q⟩:=Zt h.kn hg
  obtain⟨c',q'⟩:=Zt h.op e
  rw[q] at q'
  injection q' with q'
  injection q' with _ q' _
  exact absurd q' (by decide)
 ·obtain⟨c,q⟩:=Zt h.pa e
  rw[q1] at q;cases q
 ·obtain⟨c,q⟩:=Zt h.op e
  rw[q1] at q;cases q
 ·obtain⟨c,q⟩:=Zt h.kn e
  rw[q1] at q;cases q
 ·obtain⟨c,q⟩:=Zt h.pa e
  rw[q2] at q;cases q
 ·obtain⟨c,q⟩:=Zt h.op e
  rw[q2] at q;cases q
 ·obtain⟨c,q⟩:=Zt h.kn e
  rw[q2] at q;cases q
theorem Zw.box(h:Zw W0 w o mb pb ev vp vo vk E s N)(t:Zc (fun k=>k=o) w w'){s':Gb}{vp' vo' vk':Value}
  (hb:w'.heap[o]?=some (.cells #[ev,.map (some mb),.map (some pb),vp',vo',vk',.bool s'.fd,.int .i64 s'.ls] 81 (0,0)))
  (h1:s'.nx=s.nx) (h2:s'.pl=s.pl) (pa:IS w' vp' s'.path) (op:IS w' vo' s'.op) (kn:Va w' W0.heap.size vk' s'.kn)
  (pg:∀g,vp'.ownBlock=some g→W0.heap.size≤g) (og:∀g,vo'.ownBlock=some g→W0.heap.size≤g) (ne:∀g,vp'.ownBlock=some g→vo'.ownBlock≠some g) (bd:s'.path.length≤N∧s'.op.length≤N∧s'.kn.length≤N):Zw W0 w' o mb pb ev vp' vo' vk' E s' N:=by
 obtain⟨o1,o2,_⟩:=h.off
 refine⟨hb,h.ed,Zf h.nw t (fun i e=>by subst e;exact h.oW),?_,?_,pa,op,kn,h.oW,h.mW,h.pW,h.mne,pg,og,ne,bd⟩
 ·have e:fnx s'=fnx s:=by funext v;unfold fnx;rw[h1]
  rw[e];exact h.mn.tch t o1
 ·rw[h2];exact h.mp.tch t o2
theorem IS.keep{v:Value}{l:List Int}{j:Nat}(h:IS w v l)(t:Zc (fun k=>k=j) w w')(hn:v.ownBlock≠some j):IS w' v l:=h.tch t (fun g hg e=>hn (by rw[hg,e]))
theorem Zu{g0 e size n:Nat}{v:Value}{xs:List Value}{j:Nat}(h:w.ownsRow g0 e size v n xs)(t:Zc (fun k=>k=j) w w')(hn:v.ownBlock≠some j):w'.ownsRow g0 e size v n xs:=by
 refine⟨h.1,?_⟩
 rcases h.2 with h0 | ⟨g,cap,cur,rfl,hb,hg,rest⟩
 ·exact .inl h0
 ·exact .inr ⟨g,cap,cur,rfl,hb,(t.block g (Array.getElem?_eq_some_iff.1 hg).1 (fun e=>hn (by rw[←e];rfl))).trans hg,rest⟩
end
theorem Ur{α:Type}{row:α→List Value}{sz:Nat}(hl:∀a,(row a).length=sz):∀(q:List α) (k:Nat) (hk:k<q.length) (j:Nat) (hj:j<sz) (u:Value) (x:α) (e:(row q[k]).set j u=row x),(Z6 row q).set (k*sz+j) u=Z6 row (q.set k x)
 | a::q,0,hk,j,hj,u,x,e=>by
  show(row a++Z6 row q).set (0*sz+j) u=row x++Z6 row q
  rw[Nat.zero_mul,Nat.zero_add,List.set_append_left _ _ (by rw[hl];exact hj)]
  exact congrArg (·++_) e
 | a::q,k+1,hk,j,hj,u,x,e=>by
  show(row a++Z6 row q).set ((k+1)*sz+j) u=row a++Z6 row (q.set k x)
  rw[List.set_append_right _ _ (by rw[hl,Nat.add_mul];omega),hl,show(k+1)*sz+j-sz=k*sz+j by rw[Nat.add_mul];omega,Ur hl q k (by simpa using hk) j hj u x e]
theorem Va.cell{w:World}{g0 g cap n:Nat}{q:List Kn}(h:Va w g0 (.slice (some ⟨g,0,none⟩) n cap) q)(hn:n=q.length)(k:Nat)(hk:k<q.length):w.cell? ⟨g,k*2,none⟩=some (.int .i64 q[k].f)∧w.cell? ⟨g,k*2+1,none⟩=some (.bool q[k].lp):=by
 subst hn
 refine⟨(World.ownsRow.cellAt h (k*2) (by omega)).trans ?_,(World.ownsRow.cellAt h (k*2+1) (by omega)).trans ?_⟩
 ·have:=Y3 (row:=U1) (sz:=2) (fun _=>rfl) q k 0 hk (by decide)
  rw[Nat.add_zero] at this
  rw[this];rfl
 ·rw[Y3 (row:=U1) (sz:=2) (fun _=>rfl) q k 1 hk (by decide)];rfl
section
variable {W0 w:World} {o N:Nat} {ev:Value} {E:List (Int × Int)} {s:Gb}
theorem Zw.note{mb pb:Nat}{vp vo vk:Value}(h:Zw W0 w o mb pb ev vp vo vk E s N)(m:Int):Zw W0 ((w.setCell ⟨o,6,none⟩ (.bool true)).setCell ⟨o,7,none⟩ (.int .i64 m)) o mb pb ev vp vo vk E { s with fd:=true,ls:=m } N:=by
 obtain⟨o1,o2,o3,o4,o5⟩:=h.off
 have t:Zc (fun k=>k=o) w ((w.setCell ⟨o,6,none⟩ (.bool true)).setCell ⟨o,7,none⟩ (.int .i64 m)):=((Zc.refl (fun k=>k=o) w).set (p:=⟨o,6,none⟩) (.inl rfl) _).set (p:=⟨o,7,none⟩) (.inl rfl) _
 exact h.box t (hset (.int .i64 m) (hset (.bool true) h.obj)) rfl rfl (h.pa.keep t o3) (h.op.keep t o4) (Zu h.kn t o5) h.pg h.og h.ne h.bd
theorem Z88{mb pb:Nat}{vp vo vk:Value}(h:Zw W0 w o mb pb ev vp vo vk E s N)(m:Int):Calls prog 91 #[.pointer (some ⟨o,0,none⟩),.int .i64 m] w fun e w'=>e=.returned (.tuple #[])∧Zw W0 w' o mb pb ev vp vo vk E (Ze s true m) N∧Zc (fun k=>k=o) w w':=by
 obtain⟨_,_,_,_,_,_,c6,c7⟩:=h.c
 have hol:=h.ol
 have fz:=h.fz
 have HW:=hD0 h
 clear h
 obtain⟨fd,hfd⟩:∃b,s.fd=b:=⟨_,rfl⟩
 obtain⟨ls,hls⟩:∃x,s.ls=x:=⟨_,rfl⟩
 rw[hfd] at c6
 rw[hls] at c7
 cases fd with
 | false =>
  have HR:=hD0 (show Ze s true m={ s with fd:=true,ls:=m } from if_pos ⟨rfl,.inl hfd⟩)
  clear hfd hls
  go_enter func91,ntmps91
  go_wp2
  refine bodyPost_end (results_none rfl _ _ _) rfl ?_
  rw[HR.out]
  exact⟨rfl,HW.out.note m,((Zc.refl (fun k=>k=o) w).set (p:=⟨o,6,none⟩) (.inl rfl) _).set (p:=⟨o,7,none⟩) (.inl rfl) _⟩
 | true =>
  by_cases q:m<ls
  ·have HR:=hD0 (show Ze s true m={ s with fd:=true,ls:=m } from if_pos ⟨rfl,.inr (by rw[hls];exact q)⟩)
   have d:decide (m<ls)=true:=by simpa using q
   clear hfd hls q
   go_enter func91,ntmps91
   go_wp2
   refine bodyPost_end (results_none rfl _ _ _) rfl ?_
   rw[HR.out]
   exact⟨rfl,HW.out.note m,((Zc.refl (fun k=>k=o) w).set (p:=⟨o,6,none⟩) (.inl rfl) _).set (p:=⟨o,7,none⟩) (.inl rfl) _⟩
  ·have HR:=hD0 (show Ze s true m=s from if_neg (fun k=>by
    rcases k.2 with x | x
    ·rw[hfd] at x;cases x
    ·rw[hls] at x;exact q x))
   have d:decide (m<ls)=false:=by simpa using q
   clear hfd hls q
   go_enter func91,ntmps91
   go_wp2
   refine bodyPost_end (results_none rfl _ _ _) rfl ?_
   rw[HR.out]
   exact⟨rfl,HW.out,Zc.refl _ w⟩
theorem Zw.tie{mb pb gk cap n:Nat}{vp vo:Value}(h:Zw W0 w o mb pb ev vp vo (.slice (some ⟨gk,0,none⟩) n cap) E s N)(hn:n=s.kn.length){K K':List Kn}{k0:Kn}(hk:s.kn=K++k0::K') :
  Zw W0 ((w.setCell ⟨o,5,none⟩ (.slice (some ⟨gk,0,none⟩) (K.length+1) cap)).setCell ⟨gk,K.length*2+1,none⟩ (.bool true)) o mb pb ev vp vo (.slice (some ⟨gk,0,none⟩) (K.length+1) cap) E (U5 s K k0) N:=by
 subst hn
 obtain⟨o1,o2,o3,o4,o5⟩:=h.off
 obtain⟨a1,⟨a2,a3,a4⟩,a5,a6,a7⟩:=h.apart
 have hgo:gk≠o:=fun e=>o5 (by rw[e];rfl)
 have t1:Zc (fun k=>k=o) w (w.setCell ⟨o,5,none⟩ (.slice (some ⟨gk,0,none⟩) (K.length+1) cap)):=(Zc.refl (fun k=>k=o) w).set (p:=⟨o,5,none⟩) (.inl rfl) _
 have hlen:K.length+1≤s.kn.length:=by rw[hk];simp
 have hc:=h.kn.cut hlen
 have hbd:=h.bd
 have hw:=h.nw
 have htake:s.kn.take (K.length+1)=K++[k0]:=by
  rw[hk,show K++k0::K'=(K++[k0])++K' by simp]
  exact List.take_left' (by simp)
 rw[htake] at hc
 have h1:Zw W0 (w.setCell ⟨o,5,none⟩ (.slice (some ⟨gk,0,none⟩) (K.length+1) cap)) o mb pb ev vp vo (.slice (some ⟨gk,0,none⟩) (K.length+1) cap) E { s with kn:=K++[k0] } N :=
  h.box t1 (hset _ h.obj) rfl rfl (h.pa.keep t1 o3) (h.op.keep t1 o4) (Zu hc t1 (fun e=>hgo (Option.some.inj e))) h.pg h.og h.ne ⟨hbd.1,hbd.2.1,by show(K++[k0]).length≤N;simp;omega⟩
 obtain⟨w1,hw1⟩:∃w1,w.setCell ⟨o,5,none⟩ (.slice (some ⟨gk,0,none⟩) (K.length+1) cap)=w1:=⟨_,rfl⟩
 rw[hw1] at h1 ⊢
 have t2:Zc (fun k=>k=gk) w1 (w1.setCell ⟨gk,K.length*2+1,none⟩ (.bool true)):=(Zc.refl (fun k=>k=gk) w1).set (p:=⟨gk,K.length*2+1,none⟩) (.inl rfl) _
 have hkn:=h1.kn
 have hkl1:(K++[k0]).length=K.length+1:=by simp
 unfold Va Yq at hkn
 simp only at hkn
 rw[hkl1] at hkn
 have hst:=(World.ownsRow.stored hkn (K.length*2+1) (.bool true)).1
 have hkl:K.length<(K++[k0]).length:=by simp
 rw[Ur (row:=U1) (sz:=2) (fun _=>rfl) (K++[k0]) K.length hkl 1 (by decide) (.bool true) ⟨k0.f,true⟩ (by simp[U1])] at hst
 have hset':(K++[k0]).set K.length (⟨k0.f,true⟩:Kn)=K++[⟨k0.f,true⟩]:=by simp
 rw[hset'] at hst
 obtain⟨b1,⟨b2,b3,b4⟩,b5,b6,b7⟩:=h1.apart
 obtain⟨b8,b9⟩:=b1 gk rfl
 refine⟨(t2.block o h1.ol (fun e=>hgo e.symm)).trans h1.obj,h1.ed,Zf h1.nw t2 (fun i e=>by subst e;exact oge h1.kn rfl),h1.mn.tch t2 (fun e=>b4 (by rw[e];rfl)),h1.mp.tch t2 (fun e=>b7 (by rw[e];rfl)),h1.pa.keep t2 b8,h1.op.keep t2 b9,?_,h1.oW,h1.mW,h1.pW,h1.mne,h1.pg,h1.og,h1.ne,?_⟩
 ·show Yq _ _ _ _ _ _ (K++[(⟨k0.f,true⟩:Kn)])
  unfold Yq
  have:(K++[(⟨k0.f,true⟩:Kn)]).length=K.length+1:=by simp
  rw[this]
  exact hst
 ·have:=h1.bd
  exact⟨this.1,this.2.1,by show(K++[(⟨k0.f,true⟩:Kn)]).length≤N;have:=this.2.2;simp at this ⊢;exact this⟩
theorem Z7c(h:Wk W0 w o ev E s N)(hN:N≤1000000)(p:Nat){K K':List Kn}{k0:Kn}(hk:s.kn=K++k0::K')(h0:k0.f≤p)(h1:∀k∈K',p<k.f) :
  Calls prog 90 #[.pointer (some ⟨o,0,none⟩),.int .i64 p] w fun e w'=>e=.returned (.tuple #[])∧Wk W0 w' o ev E (U5 s K k0) N:=by
 obtain⟨mb,pb,vp,vo,vk,h⟩:=h
 obtain⟨_,_,_,_,_,c5,_,_⟩:=h.c
 have hol:=h.ol
 have fz:=h.fz
 have hlen:s.kn.length=K.length+1+K'.length:=by rw[hk];simp;omega
 have hbd:=h.bd.2.2
 obtain⟨gk,cap,rfl⟩:∃g cap,vk=.slice (some ⟨g,0,none⟩) s.kn.length cap:=by
  rcases Yt h.kn with⟨_,q⟩ | ⟨g,cap,q⟩
  ·omega
  ·exact⟨g,cap,q⟩
 have hcap:s.kn.length≤cap:=by
  rcases h.kn.2 with⟨q,_⟩ | ⟨g',cap',cur,q,_,_,q4,_⟩
  ·simp at q
  ·simp only[Value.slice.injEq] at q
   omega
 have hgl:=olt h.kn (g:=gk) rfl
 have hgz:=hfz (j:=K.length*2+1) (Zt h.kn (g:=gk) rfl).choose_spec
 have hne:¬gk=o:=fun e=>h.off.2.2.2.2 (by rw[e];rfl)
 have hne2:¬o=gk:=fun e=>hne e.symm
 have HM:=hD0 (h.tie rfl hk)
 have hce:∀t,t<s.kn.length→∃f:Nat,w.cell? ⟨gk,t*2,none⟩=some (.int .i64 f)∧(K.length<t→p<f)∧(t=K.length→f≤p):=fun t ht=>by
  refine⟨s.kn[t].f,(h.kn.cell rfl t ht).1,fun hlt=>?_,fun e=>?_⟩
  ·have:s.kn[t]∈K':=by
    have e:s.kn[t]?=some s.kn[t]:=List.getElem?_eq_getElem ht
    have e2:s.kn[t]?=K'[t-K.length-1]?:=by
     rw[hk,List.getElem?_append_right (by omega)]
     obtain⟨d,hd⟩:∃d,t-K.length=d+1:=⟨t-K.length-1,by omega⟩
     rw[hd,List.getElem?_cons_succ];rfl
    rw[e2] at e
    exact List.mem_of_getElem? e
   exact h1 _ this
  ·subst e
   have e:s.kn[K.length]?=some s.kn[K.length]:=List.getElem?_eq_getElem ht
   have e2:s.kn[K.length]?=some k0:=by rw[hk];simp
   rw[e2] at e
   rw[←Option.some.inj e];exact h0
 have hcl:∃b,w.cell? ⟨gk,K.length*2+1,none⟩=some (.bool b):=⟨_,(h.kn.cell rfl K.length (by omega)).2⟩
 obtain⟨n,hn⟩:∃n,s.kn.length=n:=⟨_,rfl⟩
 obtain⟨j,hj⟩:∃j,K.length=j:=⟨_,rfl⟩
 rw[hn] at c5 hlen hbd hcap hce
 rw[hj] at hlen hgz HM hce hcl
 have HK:=hD0 hce
 obtain⟨bl,hcl⟩:=hcl
 have hjn:j<n:=by omega
 obtain⟨n1,hn1,hjn1,hn1n⟩:=Z3i hjn
 obtain⟨j1,hj1⟩:∃j1,j1=j+1:=⟨_,rfl⟩
 have hd1:=V6 n n1 (by omega) hn1
 have hd2:=Ys j j1 (by omega) hj1
 have hjc:j1≤cap:=by omega
 have hjc':(j1:Int)≤(cap:Int):=by omega
 have hj1n:0≤(j1:Int):=by omega
 have hjj:j<j1:=by omega
 have hjj':(j:Int)<(j1:Int):=by omega
 rw[←hj1] at HM
 have hn0:0<n:=by omega
 have HB:=hD0 (show n≤1000000 by omega)
 have HN1:=hD0 (aI0 hjn1 hn1n)
 clear hce h hk h1 hn hj hbd hlen h0 hn1 hj1 hjn1 hn1n
 go_enter func90,ntmps90
 go_wp2
 go_loopw [4] (fun v wr=>∃t:Nat,v=.int .i64 t∧j≤t∧t<n∧wr=w) (fun v _=>(intOf v).toNat)
 case atStart=>exact⟨n1,rfl,HN1.out.1,HN1.out.2,rfl⟩
 case round =>
  obtain⟨t,rfl,hjt,htn,rfl⟩:=hrel
  obtain⟨f,ct,hf1,hf2⟩:=HK.out t htn
  have htn':=Yf htn
  by_cases q:j<t
  ·obtain⟨d1,d2⟩:=Z6n (hf1 q)
   obtain⟨t1,e1,hjt1,ht1t⟩:=Z3i q
   have ht1:=V6 t t1 (Nat.le_trans (Nat.le_of_lt htn) HB.out) e1
   have HQ:=hD0 (aI0 hjt1 (aI0 (Nat.lt_trans ht1t htn) e1))
   clear hf1 hf2 hjt q e1 hjt1 ht1t
   go_wp2
   go_roundw
   case rel=>exact⟨t1,rfl,HQ.out.1,HQ.out.2.1,by first | rfl | trivial⟩
   case measure=>exact Z9g HQ.out.2.2
  ·obtain rfl:j=t:=Nat.le_antisymm hjt (Nat.le_of_not_lt q)
   obtain⟨d1,d2⟩:=Z4x (Nat.not_lt.2 (hf2 rfl))
   clear hf1 hf2 q
   go_wp2
   refine bodyPost_end (results_none rfl _ _ _) rfl ?_
   exact⟨rfl,mb,pb,vp,vo,_,HM.out⟩
end
end Go.Proofs.Ytpmlaphjlghpmaa
