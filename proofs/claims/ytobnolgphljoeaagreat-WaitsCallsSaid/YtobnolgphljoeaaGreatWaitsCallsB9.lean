/- Texts merged: QcB, WeC -/
import Derived.Test.YtobnolgphljoeaaGreatWaitsCallsB8
set_option linter.unusedVariables false
set_option maxRecDepth 100000
set_option maxHeartbeats 16000000
namespace Go.Proofs.YtobnolgphljoeaaGreat
open Go.RowKit _root_.Go.Proofs.Tryz
def bkF(r:Rq)(o:Rq):Bool:=!(o.id==r.id)&&blk r o
def bkA(r:Rq)(q:List Rq)(k:Nat):List Int:=((q.take k).filter (bkF r)).foldl (fun l o=>Zs o.txn l) []
theorem Z7i(r:Rq)(q:List Rq)(k:Nat):(bkA r q k).length≤q.length:=by
 have h:∀(l:List Rq) (s:List Int),(l.foldl (fun l o=>Zs o.txn l) s).length≤s.length+l.length:=by
  intro l
  induction l with
  | nil=>intro s;simp
  | cons x l ih =>
   intro s
   rw[List.foldl_cons]
   refine Nat.le_trans (ih _) ?_
   have:∀(n:Int) (s:List Int),(Zs n s).length≤s.length+1:=by
    intro n s
    induction s with
    | nil=>simp[Zs]
    | cons y s ih2 =>
     unfold Zs
     split
     ·simp;omega
     ·split<;>simp
   have:=this x.txn s
   simp;omega
 have h1:=h ((q.take k).filter (bkF r)) []
 have h2:=List.length_filter_le (bkF r) (q.take k)
 have h3:(q.take k).length≤q.length:=by simp;omega
 unfold bkA
 simp at h1;omega
theorem Z5p(r:Rq)(q:List Rq)(k:Nat)(hk:k<q.length):bkA r q (k+1)=if bkF r q[k]=true then Zs q[k].txn (bkA r q k)else bkA r q k:=by
 unfold bkA
 rw[List.take_add_one,List.getElem?_eq_getElem hk,List.filter_append,List.foldl_append]
 by_cases h:bkF r q[k]=true
 ·rw[if_pos h];simp[h]
 ·rw[if_neg h];simp[h]
theorem Z7h(r:Rq)(q:List Rq):bkA r q q.length=Us q r:=by
 unfold bkA Us bkF
 rw[List.take_length]
theorem IS.sl{w:World}{v:Value}{l:List Int}(h:IS w v l):∃ao cap,v=.slice ao l.length cap:=by
 obtain⟨ao,cap,e,_⟩:=h.box
 exact⟨ao,cap,e⟩
theorem Z2r(t r W id:Int)(v:Value)(q:List Rq)(w:World)(hl:q.length≤900)(hok:Ok W q)(h:Ue w v q) :
  Calls prog 44 #[hdV t r v W,.int .i64 id] w fun e w'=>∃v',e=.returned v'∧Nw w w'∧InO w' w.heap.size v' (Yj q id):=by
 have HOk:=hD0 hok
 clear hok
 obtain⟨X,hX⟩:∃X,Yj q id=X:=⟨_,rfl⟩
 rw[hX]
 have HXx:=hD0 hX
 clear hX
 have HAt:=hD0 (fun(w1:World) (g:Nw w w1)=>Zaz t r W id v q w1 (by omega) (h.nw g))
 have HH:=hD0 h
 obtain⟨a,c,rfl⟩:=h.form
 unfold hdV at HAt ⊢
 obtain⟨n,hn⟩:∃n,q.length=n:=⟨_,rfl⟩
 rw[hn] at HAt HH hl ⊢
 have HNn:=hD0 hn
 clear hn h
 have hp:=Z4 w (.cells #[.int .i64 t,.int .i64 r,.slice a n c,.int .i64 W] 66)
 obtain⟨w0,hw0⟩:∃x,w.alloc (.cells #[.int .i64 t,.int .i64 r,.slice a n c,.int .i64 W] 66)=x:=⟨_,rfl⟩
 have hN0:Nw w w0:=by rw[←hw0];exact(Nw.refl _).alloc _
 rw[hw0] at hp
 obtain⟨p,hpp⟩:∃x,w.heap.size=x:=⟨_,rfl⟩
 rw[hpp] at hp
 have HE:=hD0 (aI0 hw0 hpp)
 have H0:=hD0 (aI0 hp hN0)
 have c0:=Z2 (j:=0) hp
 have c1:=Z2 (j:=1) hp
 have c2:=Z2 (j:=2) hp
 have c3:=Z2 (j:=3) hp
 have cl:=hlt hp
 clear hw0 hpp hp hN0
 go_enter func44,ntmps44
 go_wp2_with fail
 rw[HE.out.1,HE.out.2]
 try go_wp2_with fail
 go_at_call 64
 refine(HAt.out _ H0.out.2).mono ?_
 rintro e w1 ⟨i,rfl,g1,hi⟩
 have H1:=hD0 (aI0 (g1.at' H0.out.1) (H0.out.2.trans g1))
 clear c0 c1 c2 c3 cl g1 H0 HE HAt
 rcases hi with⟨rfl,hf⟩ | ⟨k,rfl,hk,hf⟩
 ·have HR:=hD0 (HXx.out.symm.trans (show Yj q id=[] by unfold Yj;rw[hf]))
  clear hf HXx
  go_wp2
  go_ret
  exact⟨_,rfl,H1.out.2,by rw[HR.out];exact World.ownsRow_nil _ _ _ _⟩
 have hkn:k<n:=by rw[←HNn.out];exact hk
 have hki:(k:Int)<(n:Int):=by omega
 obtain⟨ax,cx,ex,hx⟩:=HH.out.nw H1.out.2
 simp only[Value.slice.injEq] at ex
 obtain⟨rfl,-,rfl⟩:=ex
 obtain⟨hq0,_⟩ | ⟨rb,ro,rfl,hrc⟩:=hx
 ·rw[hq0] at hk;simp at hk
 have hce:=hrc.cell k hk
 have HRc:=hD0 hrc
 have HR0:=hD0 (HXx.out.symm.trans (show Yj q id=if 0<q[k].sn then Us q q[k] else[] by unfold Yj;rw[hf]))
 have HNe:=hD0 (show ∀m (hm:m<q.length),m≠k→(q[m].id==q[k].id)=false from fun m hm ne=>by have:=Za9 HOk.out hm hk ne;simpa using this)
 obtain⟨R,hR⟩:∃R,q[k]=R:=⟨_,rfl⟩
 simp only[hR] at hce HR0 HNe
 have HRk:=hD0 (show ∃h:k<q.length,q[k]=R from⟨hk,hR⟩)
 have m0:=hce 0 _ rfl
 have m1:=hce 1 _ rfl
 have m2:=hce 2 _ rfl
 have m3:=hce 3 _ rfl
 have m4:=hce 4 _ rfl
 simp only[Nat.add_zero] at m0
 have hrl:=hrc.lt
 obtain⟨r0,r1,r2,r3,r4⟩:=R
 have c2:=Z2 (j:=2) H1.out.1
 have cl:=hlt H1.out.1
 have HWt:=hD0 (Ze r0 r1 r2 r3 r4)
 have dk:decide ((k:Int)<0)=false:=by rw[decide_eq_false_iff_not];omega
 clear hce hrc hR hf hk HXx
 by_cases hs:0<r4
 rotate_left
 ·have ds:decide (0<r4)=false:=decide_eq_false hs
  rw[ds] at HWt
  have HR:=hD0 (HR0.out.trans (if_neg hs))
  clear hs HR0 HNe
  go_wp2_with fail
  go_at_call 56
  refine(HWt.out _).mono ?_
  rintro e w2 ⟨rfl,g2⟩
  go_wp2
  go_ret
  exact⟨_,rfl,H1.out.2.trans g2,by rw[HR.out];exact World.ownsRow_nil _ _ _ _⟩
 have ds:decide (0<r4)=true:=decide_eq_true hs
 rw[ds] at HWt
 have HR:=hD0 (HR0.out.trans (if_pos hs))
 clear hs HR0
 go_wp2_with fail
 go_at_call 56
 refine(HWt.out _).mono ?_
 rintro e w2 ⟨rfl,g2⟩
 have hb2:=g2.at' H1.out.1
 have HRc2:=hD0 (HRc.out.nw g2)
 have hc2:=HRc2.out.cell
 have m0:=g2.kp m0
 have m1:=g2.kp m1
 have m2:=g2.kp m2
 have m3:=g2.kp m3
 have m4:=g2.kp m4
 have hrl:=HRc2.out.lt
 have c2:=Z2 (j:=2) hb2
 have cl:=hlt hb2
 have HN2:=hD0 (H1.out.2.trans g2)
 have hb3:=Z4 w2 (.cells #[.int .i64 r0,.int .i64 r1,.int .i64 r2,.int .i64 r3,.int .i64 r4] 69)
 obtain⟨w3,hw3⟩:∃x,w2.alloc (.cells #[.int .i64 r0,.int .i64 r1,.int .i64 r2,.int .i64 r3,.int .i64 r4] 69)=x:=⟨_,rfl⟩
 have g3:Nw w2 w3:=by rw[←hw3];exact(Nw.refl _).alloc _
 rw[hw3] at hb3
 obtain⟨B,hB⟩:∃x,w2.heap.size=x:=⟨_,rfl⟩
 rw[hB] at hb3
 have HE:=hD0 (aI0 hw3 hB)
 have H3:=hD0 (aI0 (g3.at' hb2) (aI0 hb3 (aI0 (HRc2.out.nw g3) (HN2.out.trans g3))))
 clear hb2 hc2 hw3 hB hb3 g3 g2 HRc HRc2 HN2 HWt H1
 go_wp2
 rw[HE.out.1,HE.out.2]
 clear HE m0 m1 m2 m3 m4 hrl c2 cl
 have HAcc:=hD0 (Z7i ⟨r0,r1,r2,r3,r4⟩ q)
 have HSt:=hD0 (Z5p ⟨r0,r1,r2,r3,r4⟩ q)
 have HAl:=hD0 (Z7h ⟨r0,r1,r2,r3,r4⟩ q)
 obtain⟨Ac,hAc⟩:∃f,bkA ⟨r0,r1,r2,r3,r4⟩ q=f:=⟨_,rfl⟩
 rw[hAc] at HAcc HSt HAl
 have HA0:=hD0 (show Ac 0=[] by rw[←hAc];rfl)
 clear hAc
 go_loopw [7,8] (fun u i wr=>∃m:Nat,i=.int .i64 m∧m≤n∧InO wr w.heap.size u (Ac m)∧Nw w3 wr) (fun _ i _=>n-(intOf i).toNat)
 case atStart=>exact⟨0,rfl,Nat.zero_le _,by rw[HA0.out];exact World.ownsRow_nil _ _ _ _,Nw.refl _⟩
 case round =>
  obtain⟨m,rfl,hm,hI,hG⟩:=hrel
  obtain⟨ua,uc,rfl⟩:=(Zt.is hI).sl
  obtain⟨un,hun⟩:∃x,(Ac m).length=x:=⟨_,rfl⟩
  rw[hun] at hI
  have HI:=hD0 (aI0 hI hun)
  have HG:=hD0 hG
  rw[hun]
  clear hI hun
  have hbh:=hG.at' H3.out.1
  have c2:=Z2 (j:=2) hbh
  have cl:=hlt hbh
  by_cases hmn:m<n
  rotate_left
  ·have dm:decide ((m:Int)<(n:Int))=false:=by rw[decide_eq_false_iff_not];omega
   have dm':decide (m<n)=false:=by rw[decide_eq_false_iff_not];omega
   have HM:=hD0 (show m=n by omega)
   clear hbh hG hm hmn
   go_wp2
   go_ret
   exact⟨_,rfl,H3.out.2.2.2.trans HG.out,by rw[HR.out,←HAl.out,HNn.out,←HM.out];exact HI.out.1⟩
  have dm:decide ((m:Int)<(n:Int))=true:=by rw[decide_eq_true_iff];omega
  have hmi:(m:Int)<(n:Int):=by omega
  have hmq:m<q.length:=by rw[HNn.out];exact hmn
  have hce:=(H3.out.2.2.1.nw hG).cell m hmq
  have hrl:=(H3.out.2.2.1.nw hG).lt
  have hst:=HSt.out m hmq
  have hid:=HNe.out m hmq
  have hidk:=HRk.out
  obtain⟨O,hO⟩:∃O,q[m]=O:=⟨_,rfl⟩
  rw[hO] at hst hce hid
  have m0:=hce 0 _ rfl
  have m1:=hce 1 _ rfl
  have m2:=hce 2 _ rfl
  have m3:=hce 3 _ rfl
  have m4:=hce 4 _ rfl
  simp only[Nat.add_zero] at m0
  obtain⟨o0,o1,o2,o3,o4⟩:=O
  by_cases hkm:m=k
  ·have hnx:Ac (m+1)=Ac m:=by
    rw[hst,if_neg]
    subst hkm
    obtain⟨h1,h2⟩:=hidk
    rw[hO] at h2
    unfold bkF
    rw[h2];simp
   have HX:=hD0 hnx
   subst hkm
   have dk2:((m:Int)==(m:Int))=true:=by simp
   clear hst hid hidk hO hnx hce hbh hG hmq
   go_wp2
   go_roundw
   case rel=>exact⟨m+1,by go_num,by omega,by rw[HX.out];exact Yq HI.out.1 ((Nw.refl _).alloc _),HG.out.alloc _⟩
   case measure=>simp[intOf];omega
  have dk2:((m:Int)==(k:Int))=false:=by simp;omega
  have hid':=hid hkm
  have hst':Ac (m+1)=if blk ⟨r0,r1,r2,r3,r4⟩ ⟨o0,o1,o2,o3,o4⟩=true then Zs o1 (Ac m)else Ac m:=by
   rw[hst]
   unfold bkF
   rw[hid'];rfl
  have HSt':=hD0 hst'
  have HO1:=hD0 (Zf o0 o1 o2 o3 o4)
  have HO2:=hD0 (Ze o0 o1 o2 o3 o4)
  have HR1:=hD0 (Zf r0 r1 r2 r3 r4)
  have HCp:=hD0 (Z6r o2 r3)
  obtain⟨w4,hw4⟩:∃x,wr.alloc (.cells #[.int .i64 o0,.int .i64 o1,.int .i64 o2,.int .i64 o3,.int .i64 o4] 69)=x:=⟨_,rfl⟩
  have hb4:=Z4 wr (.cells #[.int .i64 o0,.int .i64 o1,.int .i64 o2,.int .i64 o3,.int .i64 o4] 69)
  have g4:Nw wr w4:=by rw[←hw4];exact(Nw.refl _).alloc _
  rw[hw4] at hb4
  obtain⟨B4,hB4⟩:∃x,wr.heap.size=x:=⟨_,rfl⟩
  rw[hB4] at hb4
  have HE:=hD0 (aI0 hw4 hB4)
  have hbr:=(hG.trans g4).at' H3.out.2.1
  have HG4:=hD0 (aI0 (hG.trans g4) (Yq HI.out.1 g4))
  have HPu:=hD0 (fun(y:World) (hy:Nw w4 y)=>Z6t o1 (.slice ua un uc) (Ac m) y (by have:=HAcc.out m;have:=HNn.out;omega) (Yq HG4.out.2 hy) ((H3.out.2.2.2.trans (HG4.out.1.trans hy)).sz))
  have s0:∀y,Nw w4 y→y.cell? ⟨B4,0,none⟩=some (.int .i64 o0):=fun y hy=>hy.kp (Z2 (j:=0) hb4)
  have s1:∀y,Nw w4 y→y.cell? ⟨B4,1,none⟩=some (.int .i64 o1):=fun y hy=>hy.kp (Z2 (j:=1) hb4)
  have s2:∀y,Nw w4 y→y.cell? ⟨B4,2,none⟩=some (.int .i64 o2):=fun y hy=>hy.kp (Z2 (j:=2) hb4)
  have s3:∀y,Nw w4 y→y.cell? ⟨B4,3,none⟩=some (.int .i64 o3):=fun y hy=>hy.kp (Z2 (j:=3) hb4)
  have s4:∀y,Nw w4 y→y.cell? ⟨B4,4,none⟩=some (.int .i64 o4):=fun y hy=>hy.kp (Z2 (j:=4) hb4)
  have t0:∀y,Nw w4 y→y.cell? ⟨B,0,none⟩=some (.int .i64 r0):=fun y hy=>hy.kp (Z2 (j:=0) hbr)
  have t1:∀y,Nw w4 y→y.cell? ⟨B,1,none⟩=some (.int .i64 r1):=fun y hy=>hy.kp (Z2 (j:=1) hbr)
  have t2:∀y,Nw w4 y→y.cell? ⟨B,2,none⟩=some (.int .i64 r2):=fun y hy=>hy.kp (Z2 (j:=2) hbr)
  have t3:∀y,Nw w4 y→y.cell? ⟨B,3,none⟩=some (.int .i64 r3):=fun y hy=>hy.kp (Z2 (j:=3) hbr)
  have t4:∀y,Nw w4 y→y.cell? ⟨B,4,none⟩=some (.int .i64 r4):=fun y hy=>hy.kp (Z2 (j:=4) hbr)
  have HMn:=hD0 hmn
  clear hst hst' hid hid' hidk hO hce hbh hG hmq hbr hb4 g4 hw4 hB4 hkm hmn hm
  go_wp2_with fail
  rw[HE.out.1,HE.out.2]
  clear c2 cl m0 m1 m2 m3 m4 hrl HE
  have hN:Nw w4 w4:=Nw.refl _
  obtain⟨A,hA⟩:∃x,(o2 != 0)=x:=⟨_,rfl⟩
  obtain⟨C,hC⟩:∃x,cpI o2 r3=x:=⟨_,rfl⟩
  obtain⟨S,hS⟩:∃x,decide (0<o4)=x:=⟨_,rfl⟩
  obtain⟨M,hM⟩:∃x,(r2 != 0)=x:=⟨_,rfl⟩
  obtain⟨D,hD⟩:∃x,decide (o4<r4)=x:=⟨_,rfl⟩
  have HBk:=hD0 (show blk ⟨r0,r1,r2,r3,r4⟩ ⟨o0,o1,o2,o3,o4⟩=((A&&!C) || (A&&S&&(!M || D)) || (!M&&!A&&D)) by
   unfold blk
   simp only[hA,hC,hS,hD]
   rw[show(r2==0)=!M by rw[←hM];simp[bne],show(o2==0)=!A by rw[←hA];simp[bne]])
  rw[hA] at HO1
  rw[hS] at HO2
  rw[hM] at HR1
  rw[hC] at HCp
  clear hA hS hM hC
  cases A
  case false =>
   cases M
   case false =>
    cases D
    case false =>
     go_wp2_with (first | (go_at_call 57;(first | (with_reducible refine(HO1.out _).mono ?_) | (with_reducible refine(HR1.out _).mono ?_));rintro e y ⟨rfl,g⟩;replace hN:=hN.trans g;clear g) | (go_at_call 56;(with_reducible refine(HO2.out _).mono ?_);rintro e y ⟨rfl,g⟩;replace hN:=hN.trans g;clear g) | (go_at_call 58;(with_reducible refine(HCp.out _).mono ?_);rintro e y ⟨rfl,g⟩;replace hN:=hN.trans g;clear g) | (go_at_call 37;(with_reducible refine(HPu.out _ hN).mono ?_);rintro e y ⟨pv,rfl,g,hP⟩;have HP:=hD0 hP;clear hP;replace hN:=hN.trans g;clear g))
     have HNy:=hD0 hN
     clear hN
     go_roundw
     case rel=>exact⟨m+1,by go_num,HMn.out,by rw[HSt'.out,if_neg (by rw[HBk.out];simp)];exact Yq HG4.out.2 HNy.out,HG4.out.1.trans HNy.out⟩
     case measure=>have:=HMn.out;simp[intOf];omega
    case true =>
     go_wp2_with (first | (go_at_call 57;(first | (with_reducible refine(HO1.out _).mono ?_) | (with_reducible refine(HR1.out _).mono ?_));rintro e y ⟨rfl,g⟩;replace hN:=hN.trans g;clear g) | (go_at_call 56;(with_reducible refine(HO2.out _).mono ?_);rintro e y ⟨rfl,g⟩;replace hN:=hN.trans g;clear g) | (go_at_call 58;(with_reducible refine(HCp.out _).mono ?_);rintro e y ⟨rfl,g⟩;replace hN:=hN.trans g;clear g) | (go_at_call 37;(with_reducible refine(HPu.out _ hN).mono ?_);rintro e y ⟨pv,rfl,g,hP⟩;have HP:=hD0 hP;clear hP;replace hN:=hN.trans g;clear g))
     have HNy:=hD0 hN
     clear hN
     go_roundw
     case rel=>exact⟨m+1,by go_num,HMn.out,by rw[HSt'.out,if_pos (by rw[HBk.out];simp)];exact HP.out,HG4.out.1.trans HNy.out⟩
     case measure=>have:=HMn.out;simp[intOf];omega
   case true =>
    go_wp2_with (first | (go_at_call 57;(first | (with_reducible refine(HO1.out _).mono ?_) | (with_reducible refine(HR1.out _).mono ?_));rintro e y ⟨rfl,g⟩;replace hN:=hN.trans g;clear g) | (go_at_call 56;(with_reducible refine(HO2.out _).mono ?_);rintro e y ⟨rfl,g⟩;replace hN:=hN.trans g;clear g) | (go_at_call 58;(with_reducible refine(HCp.out _).mono ?_);rintro e y ⟨rfl,g⟩;replace hN:=hN.trans g;clear g) | (go_at_call 37;(with_reducible refine(HPu.out _ hN).mono ?_);rintro e y ⟨pv,rfl,g,hP⟩;have HP:=hD0 hP;clear hP;replace hN:=hN.trans g;clear g))
    have HNy:=hD0 hN
    clear hN
    go_roundw
    case rel=>exact⟨m+1,by go_num,HMn.out,by rw[HSt'.out,if_neg (by rw[HBk.out];simp)];exact Yq HG4.out.2 HNy.out,HG4.out.1.trans HNy.out⟩
    case measure=>have:=HMn.out;simp[intOf];omega
  case true =>
   cases C
   case false =>
    cases S
    case false =>
     cases M
     case false =>
      go_wp2_with (first | (go_at_call 57;(first | (with_reducible refine(HO1.out _).mono ?_) | (with_reducible refine(HR1.out _).mono ?_));rintro e y ⟨rfl,g⟩;replace hN:=hN.trans g;clear g) | (go_at_call 56;(with_reducible refine(HO2.out _).mono ?_);rintro e y ⟨rfl,g⟩;replace hN:=hN.trans g;clear g) | (go_at_call 58;(with_reducible refine(HCp.out _).mono ?_);rintro e y ⟨rfl,g⟩;replace hN:=hN.trans g;clear g) | (go_at_call 37;(with_reducible refine(HPu.out _ hN).mono ?_);rintro e y ⟨pv,rfl,g,hP⟩;have HP:=hD0 hP;clear hP;replace hN:=hN.trans g;clear g))
      have HNy:=hD0 hN
      clear hN
      go_roundw
      case rel=>exact⟨m+1,by go_num,HMn.out,by rw[HSt'.out,if_pos (by rw[HBk.out];simp)];exact HP.out,HG4.out.1.trans HNy.out⟩
      case measure=>have:=HMn.out;simp[intOf];omega
     case true =>
      go_wp2_with (first | (go_at_call 57;(first | (with_reducible refine(HO1.out _).mono ?_) | (with_reducible refine(HR1.out _).mono ?_));rintro e y ⟨rfl,g⟩;replace hN:=hN.trans g;clear g) | (go_at_call 56;(with_reducible refine(HO2.out _).mono ?_);rintro e y ⟨rfl,g⟩;replace hN:=hN.trans g;clear g) | (go_at_call 58;(with_reducible refine(HCp.out _).mono ?_);rintro e y ⟨rfl,g⟩;replace hN:=hN.trans g;clear g) | (go_at_call 37;(with_reducible refine(HPu.out _ hN).mono ?_);rintro e y ⟨pv,rfl,g,hP⟩;have HP:=hD0 hP;clear hP;replace hN:=hN.trans g;clear g))
      have HNy:=hD0 hN
      clear hN
      go_roundw
      case rel=>exact⟨m+1,by go_num,HMn.out,by rw[HSt'.out,if_pos (by rw[HBk.out];simp)];exact HP.out,HG4.out.1.trans HNy.out⟩
      case measure=>have:=HMn.out;simp[intOf];omega
    case true =>
     cases M
     case false =>
      go_wp2_with (first | (go_at_call 57;(first | (with_reducible refine(HO1.out _).mono ?_) | (with_reducible refine(HR1.out _).mono ?_));rintro e y ⟨rfl,g⟩;replace hN:=hN.trans g;clear g) | (go_at_call 56;(with_reducible refine(HO2.out _).mono ?_);rintro e y ⟨rfl,g⟩;replace hN:=hN.trans g;clear g) | (go_at_call 58;(with_reducible refine(HCp.out _).mono ?_);rintro e y ⟨rfl,g⟩;replace hN:=hN.trans g;clear g) | (go_at_call 37;(with_reducible refine(HPu.out _ hN).mono ?_);rintro e y ⟨pv,rfl,g,hP⟩;have HP:=hD0 hP;clear hP;replace hN:=hN.trans g;clear g))
      have HNy:=hD0 hN
      clear hN
      go_roundw
      case rel=>exact⟨m+1,by go_num,HMn.out,by rw[HSt'.out,if_pos (by rw[HBk.out];simp)];exact HP.out,HG4.out.1.trans HNy.out⟩
      case measure=>have:=HMn.out;simp[intOf];omega
     case true =>
      cases D
      case false =>
       go_wp2_with (first | (go_at_call 57;(first | (with_reducible refine(HO1.out _).mono ?_) | (with_reducible refine(HR1.out _).mono ?_));rintro e y ⟨rfl,g⟩;replace hN:=hN.trans g;clear g) | (go_at_call 56;(with_reducible refine(HO2.out _).mono ?_);rintro e y ⟨rfl,g⟩;replace hN:=hN.trans g;clear g) | (go_at_call 58;(with_reducible refine(HCp.out _).mono ?_);rintro e y ⟨rfl,g⟩;replace hN:=hN.trans g;clear g) | (go_at_call 37;(with_reducible refine(HPu.out _ hN).mono ?_);rintro e y ⟨pv,rfl,g,hP⟩;have HP:=hD0 hP;clear hP;replace hN:=hN.trans g;clear g))
       have HNy:=hD0 hN
       clear hN
       go_roundw
       case rel=>exact⟨m+1,by go_num,HMn.out,by rw[HSt'.out,if_pos (by rw[HBk.out];simp)];exact HP.out,HG4.out.1.trans HNy.out⟩
       case measure=>have:=HMn.out;simp[intOf];omega
      case true =>
       go_wp2_with (first | (go_at_call 57;(first | (with_reducible refine(HO1.out _).mono ?_) | (with_reducible refine(HR1.out _).mono ?_));rintro e y ⟨rfl,g⟩;replace hN:=hN.trans g;clear g) | (go_at_call 56;(with_reducible refine(HO2.out _).mono ?_);rintro e y ⟨rfl,g⟩;replace hN:=hN.trans g;clear g) | (go_at_call 58;(with_reducible refine(HCp.out _).mono ?_);rintro e y ⟨rfl,g⟩;replace hN:=hN.trans g;clear g) | (go_at_call 37;(with_reducible refine(HPu.out _ hN).mono ?_);rintro e y ⟨pv,rfl,g,hP⟩;have HP:=hD0 hP;clear hP;replace hN:=hN.trans g;clear g))
       have HNy:=hD0 hN
       clear hN
       go_roundw
       case rel=>exact⟨m+1,by go_num,HMn.out,by rw[HSt'.out,if_pos (by rw[HBk.out];simp)];exact HP.out,HG4.out.1.trans HNy.out⟩
       case measure=>have:=HMn.out;simp[intOf];omega
   case true =>
    cases S
    case false =>
     cases M
     case false =>
      go_wp2_with (first | (go_at_call 57;(first | (with_reducible refine(HO1.out _).mono ?_) | (with_reducible refine(HR1.out _).mono ?_));rintro e y ⟨rfl,g⟩;replace hN:=hN.trans g;clear g) | (go_at_call 56;(with_reducible refine(HO2.out _).mono ?_);rintro e y ⟨rfl,g⟩;replace hN:=hN.trans g;clear g) | (go_at_call 58;(with_reducible refine(HCp.out _).mono ?_);rintro e y ⟨rfl,g⟩;replace hN:=hN.trans g;clear g) | (go_at_call 37;(with_reducible refine(HPu.out _ hN).mono ?_);rintro e y ⟨pv,rfl,g,hP⟩;have HP:=hD0 hP;clear hP;replace hN:=hN.trans g;clear g))
      have HNy:=hD0 hN
      clear hN
      go_roundw
      case rel=>exact⟨m+1,by go_num,HMn.out,by rw[HSt'.out,if_neg (by rw[HBk.out];simp)];exact Yq HG4.out.2 HNy.out,HG4.out.1.trans HNy.out⟩
      case measure=>have:=HMn.out;simp[intOf];omega
     case true =>
      go_wp2_with (first | (go_at_call 57;(first | (with_reducible refine(HO1.out _).mono ?_) | (with_reducible refine(HR1.out _).mono ?_));rintro e y ⟨rfl,g⟩;replace hN:=hN.trans g;clear g) | (go_at_call 56;(with_reducible refine(HO2.out _).mono ?_);rintro e y ⟨rfl,g⟩;replace hN:=hN.trans g;clear g) | (go_at_call 58;(with_reducible refine(HCp.out _).mono ?_);rintro e y ⟨rfl,g⟩;replace hN:=hN.trans g;clear g) | (go_at_call 37;(with_reducible refine(HPu.out _ hN).mono ?_);rintro e y ⟨pv,rfl,g,hP⟩;have HP:=hD0 hP;clear hP;replace hN:=hN.trans g;clear g))
      have HNy:=hD0 hN
      clear hN
      go_roundw
      case rel=>exact⟨m+1,by go_num,HMn.out,by rw[HSt'.out,if_neg (by rw[HBk.out];simp)];exact Yq HG4.out.2 HNy.out,HG4.out.1.trans HNy.out⟩
      case measure=>have:=HMn.out;simp[intOf];omega
    case true =>
     cases M
     case false =>
      go_wp2_with (first | (go_at_call 57;(first | (with_reducible refine(HO1.out _).mono ?_) | (with_reducible refine(HR1.out _).mono ?_));rintro e y ⟨rfl,g⟩;replace hN:=hN.trans g;clear g) | (go_at_call 56;(with_reducible refine(HO2.out _).mono ?_);rintro e y ⟨rfl,g⟩;replace hN:=hN.trans g;clear g) | (go_at_call 58;(with_reducible refine(HCp.out _).mono ?_);rintro e y ⟨rfl,g⟩;replace hN:=hN.trans g;clear g) | (go_at_call 37;(with_reducible refine(HPu.out _ hN).mono ?_);rintro e y ⟨pv,rfl,g,hP⟩;have HP:=hD0 hP;clear hP;replace hN:=hN.trans g;clear g))
      have HNy:=hD0 hN
      clear hN
      go_roundw
      case rel=>exact⟨m+1,by go_num,HMn.out,by rw[HSt'.out,if_pos (by rw[HBk.out];simp)];exact HP.out,HG4.out.1.trans HNy.out⟩
      case measure=>have:=HMn.out;simp[intOf];omega
     case true =>
      cases D
      case false =>
       go_wp2_with (first | (go_at_call 57;(first | (with_reducible refine(HO1.out _).mono ?_) | (with_reducible refine(HR1.out _).mono ?_));rintro e y ⟨rfl,g⟩;replace hN:=hN.trans g;clear g) | (go_at_call 56;(with_reducible refine(HO2.out _).mono ?_);rintro e y ⟨rfl,g⟩;replace hN:=hN.trans g;clear g) | (go_at_call 58;(with_reducible refine(HCp.out _).mono ?_);rintro e y ⟨rfl,g⟩;replace hN:=hN.trans g;clear g) | (go_at_call 37;(with_reducible refine(HPu.out _ hN).mono ?_);rintro e y ⟨pv,rfl,g,hP⟩;have HP:=hD0 hP;clear hP;replace hN:=hN.trans g;clear g))
       have HNy:=hD0 hN
       clear hN
       go_roundw
       case rel=>exact⟨m+1,by go_num,HMn.out,by rw[HSt'.out,if_neg (by rw[HBk.out];simp)];exact Yq HG4.out.2 HNy.out,HG4.out.1.trans HNy.out⟩
       case measure=>have:=HMn.out;simp[intOf];omega
      case true =>
       go_wp2_with (first | (go_at_call 57;(first | (with_reducible refine(HO1.out _).mono ?_) | (with_reducible refine(HR1.out _).mono ?_));rintro e y ⟨rfl,g⟩;replace hN:=hN.trans g;clear g) | (go_at_call 56;(with_reducible refine(HO2.out _).mono ?_);rintro e y ⟨rfl,g⟩;replace hN:=hN.trans g;clear g) | (go_at_call 58;(with_reducible refine(HCp.out _).mono ?_);rintro e y ⟨rfl,g⟩;replace hN:=hN.trans g;clear g) | (go_at_call 37;(with_reducible refine(HPu.out _ hN).mono ?_);rintro e y ⟨pv,rfl,g,hP⟩;have HP:=hD0 hP;clear hP;replace hN:=hN.trans g;clear g))
       have HNy:=hD0 hN
       clear hN
       go_roundw
       case rel=>exact⟨m+1,by go_num,HMn.out,by rw[HSt'.out,if_pos (by rw[HBk.out];simp)];exact HP.out,HG4.out.1.trans HNy.out⟩
       case measure=>have:=HMn.out;simp[intOf];omega
theorem Z99{W:Int}{q:List Rq}(h:Ok W q){R:Rq}(hR:R∈q):edR q R=Yf R.txn (Yj q R.id):=by
 unfold edR
 by_cases hs:0<R.sn
 ·rw[if_pos hs]
 ·rw[if_neg hs]
  unfold Yj
  rw[Z69 h hR]
  simp only[if_neg hs]
  rfl
theorem Z5j{t:Int}{l:List Int}{k:Nat}(h:k<l.length):Yf t (l.take (k+1))=Yf t (l.take k)++[(t,l[k])]:=by
 rw[List.take_succ_eq_append_getElem h]
 simp only[Yf,List.map_append,List.map_cons,List.map_nil]
def CsB(bg i B:Nat)(y rt:Int)(z:World):Prop:=z.cell? ⟨bg,i,none⟩=some (.int .i64 y)∧z.cell? ⟨B,1,none⟩=some (.int .i64 rt)
structure EdM(W0 w6:World)(K:Nat→Prop)(acc:List (Int × Int))(v:Value)(w:World):Prop where
 own:Z6 w W0.heap.size v acc
 nw:Nw W0 w
 tch:Zd (fun j=>W0.heap.size≤j∧¬K j) w6 w
 off:∀j,K j→v.ownBlock≠some j
theorem EdM.push{W0 w6 wr:World}{K:Nat→Prop}{acc:List (Int × Int)}{v:Value}(h:EdM W0 w6 K acc v wr)(hK:∀j,K j→j<w6.heap.size)(hl:acc.length≤90000){z:World}(g:Nw wr z)(rt y:Int) :
  ∃ga cc w8,(Builtin.append_ #[23,23] 23 #[v,.slice (some ⟨z.heap.size,0,none⟩) 1 1]).run prog (z.alloc (.cells #[.int .i64 rt,.int .i64 y] 30))=.ok (.slice (some ⟨ga,0,none⟩) (acc.length+1) cc) w8∧EdM W0 w6 K (acc++[(rt,y)]) (.slice (some ⟨ga,0,none⟩) (acc.length+1) cc) w8:=by
 have hal6:=Z4 z (.cells #[.int .i64 rt,.int .i64 y] 30)
 have g6:Nw wr (z.alloc (.cells #[.int .i64 rt,.int .i64 y] 30)):=g.trans ((Nw.refl z).alloc _)
 obtain⟨v',w8,hr6,hO6,hg6,hp6,ga6,cc6,rfl⟩:=Zt.push Y0 (Yq h.own g6) (rt,y) z.heap.size 1 (fun j u hu=>by
  rw[Z2 hal6]
  simpa [Zb] using hu) (by omega) (h.nw.trans g6).sz
 refine⟨ga6,cc6,w8,hr6,hO6,(h.nw.trans g6).gro hg6 (fun b e=>Vg h.own e),?_,fun j hj e=>?_⟩
 ·exact(h.tch.trans (Zd.nw g6)).grown hg6 (fun b e=>.inl ⟨Vg h.own e,fun k=>h.off b k e⟩)
 ·rcases hp6 with p | p
  ·exact h.off j hj (by rw[←p];exact e)
  ·rw[p] at e
   have h1:=hK j hj
   have h2:=Option.some.inj e
   have h3:=(h.tch.trans (Zd.nw g6)).size
   omega
theorem Z3l{w0:World}{v:Value}{l:List Hv}(h:Rd 4 U8 w0 v l)(hx:∀x∈l,Z4n w0 x)(hl:l.length≤8) :
  Calls prog 20 #[v] w0 fun e w'=>∃v',e=.returned v'∧Z6 w' w0.heap.size v' (sortE (Uf l l.length))∧Nw w0 w':=by
 have HX:=hD0 hx
 obtain⟨a,c,rfl,hd⟩:=h
 have HD:=hD0 hd
 obtain⟨n,hn⟩:∃n,l.length=n:=⟨_,rfl⟩
 have HN:=hD0 hn
 rw[hn] at hl ⊢
 clear hd hn hx
 go_enter func20,ntmps20
 go_wp2_with fail
 go_loopw [3,4] (fun v3 v4 wr=>∃(k:Nat) (a b c:_),v3=.slice a b c∧v4=.int .i64 k∧k≤n∧Hid (EdI w0 l (.slice a b c) k wr)) (fun _ v4 _=>n-(intOf v4).toNat)
 case atStart=>exact⟨0,none,0,0,rfl,rfl,Nat.zero_le _,hD0 ⟨World.ownsRow_nil _ _ _ _,Nw.refl _⟩⟩
 case round =>
  obtain⟨k,sa,sb,sc,rfl,rfl,hkn,HI⟩:=hrel
  by_cases hlt:k<n
  ·have hkl:k<l.length:=by rw[HN.out];exact hlt
   rcases HD.out with⟨q,_⟩ | ⟨eb,eo,rfl,hrc⟩
   ·rw[q] at hkl;simp at hkl
   obtain⟨x,hxk⟩:∃x,l[k]=x:=⟨_,rfl⟩
   have hxm:x∈l:=hxk▸gM0 hkl
   have z0:=hrc.cell k hkl 0 (.int .i64 x.h.t) (by rw[hxk];rfl)
   have z1:=hrc.cell k hkl 1 (.int .i64 x.h.r) (by rw[hxk];rfl)
   have z2:=hrc.cell k hkl 2 x.v (by rw[hxk];rfl)
   have z3:=hrc.cell k hkl 3 (.int .i64 x.h.W) (by rw[hxk];rfl)
   have hebl:=hrc.lt
   have HO:=hD0 (HX.out x hxm)
   obtain⟨⟨ht,hr,hW,q⟩,qv⟩:=x
   obtain⟨qa,qc,e,hqd⟩:=HO.out.at_
   simp only at e
   subst e
   have HQD:=hD0 hqd
   have Zr:=Zo hlt
   have hw:=Zn k (k+1) (by omega) rfl
   obtain⟨k1,hk1⟩:∃m,k+1=m:=⟨_,rfl⟩
   have HK1:=hD0 (aI0 hk1 hlt)
   have HXK:=hD0 (show ∃h:k<l.length,l[k]=_ from⟨hkl,hxk⟩)
   rw[hk1] at hw
   obtain⟨m,hm⟩:∃m,q.length=m:=⟨_,rfl⟩
   have HM:=hD0 hm
   have hm12:m≤12:=hm▸HO.out.len
   simp only[hm] at z2
   simp only[Nat.add_zero] at z0 z1 z2 z3
   have HZ:=hD0 (show ∀z,Nw w0 z→z.cell? ⟨eb,eo+k*4,none⟩=some (.int .i64 ht)∧z.cell? ⟨eb,eo+k*4+1,none⟩=some (.int .i64 hr)∧z.cell? ⟨eb,eo+k*4+2,none⟩=some (.slice qa m qc)∧z.cell? ⟨eb,eo+k*4+3,none⟩=some (.int .i64 hW)∧eb<z.heap.size from fun z g=>⟨g.kp z0,g.kp z1,g.kp z2,g.kp z3,lL0 hebl g.sz⟩)
   have HI0:=hD0 (show Z6 wr w0.heap.size (.slice sa sb sc) (Uf l k++Vi q 0)∧Nw w0 wr from⟨by
    have:=HI.out.own
    simpa [Vi] using this,HI.out.nw⟩)
   clear hk1 hxk hkl hrc hqd hlt hm z0 z1 z2 z3 hebl HI
   go_wp2_with fail
   go_loopw [3,5] (fun v3 v5 wr=>∃(j:Nat) (a b c:_),v3=.slice a b c∧v5=.int .i64 j∧j≤m∧Hid (Z6 wr w0.heap.size (.slice a b c) (Uf l k++Vi q j)∧Nw w0 wr)) (fun _ v5 _=>m-(intOf v5).toNat)
   case atStart=>exact⟨0,_,_,_,rfl,rfl,Nat.zero_le _,HI0⟩
   case round =>
    clear HI0
    obtain⟨j,sa,sb,sc,rfl,rfl,hjm,HJ⟩:=hrel
    obtain⟨z0,z1,z2,z3,z4⟩:=HZ.out wr HJ.out.2
    by_cases hltj:j<m
    ·have hjq:j<q.length:=by rw[HM.out];exact hltj
     have hqd:=HQD.out
     rcases hqd with⟨e,_⟩ | ⟨qb,qo,rfl,hqc⟩
     ·have e':q=[]:=e
      rw[e'] at hjq;simp at hjq
     obtain⟨R,hR⟩:∃R,q[j]=R:=⟨_,rfl⟩
     have hRm:R∈q:=hR▸gM0 hjq
     have hqw:=hqc.nw HJ.out.2
     have r0:=hqw.cell j hjq 0 (.int .i64 R.id) (by rw[hR];rfl)
     have r1:=hqw.cell j hjq 1 (.int .i64 R.txn) (by rw[hR];rfl)
     have r2:=hqw.cell j hjq 2 (.int .i64 R.md) (by rw[hR];rfl)
     have r3:=hqw.cell j hjq 3 (.int .i64 R.wt) (by rw[hR];rfl)
     have r4:=hqw.cell j hjq 4 (.int .i64 R.sn) (by rw[hR];rfl)
     have hqbl:=hqw.lt
     simp only[Nat.add_zero] at r0 r1 r2 r3 r4
     have hltj':=Zo hltj
     have hwj:=Zn j (j+1) (by omega) rfl
     obtain⟨j1,hj1⟩:∃m,j+1=m:=⟨_,rfl⟩
     have HJ1:=hD0 (aI0 hj1 hltj)
     have HED:=hD0 (show Vi q j1=Vi q j++Yf R.txn (Yj q R.id)by rw[←hj1,←Z99 HO.out.ok hRm,←hR];exact Z20 hjq)
     rw[hj1] at hwj
     obtain⟨ri,rt,rm,rw_,rs⟩:=R
     simp only at r0 r1 r2 r3 r4 HED
     clear hj1 hR hjq hqc hqw hRm hltj
     go_upto_region 9 with fail
     have hal:=Z4 wr (.cells #[.int .i64 ri,.int .i64 rt,.int .i64 rm,.int .i64 rw_,.int .i64 rs] 69)
     have g5:Nw wr (wr.alloc (.cells #[.int .i64 ri,.int .i64 rt,.int .i64 rm,.int .i64 rw_,.int .i64 rs] 69)):=(Nw.refl wr).alloc _
     obtain⟨w5,hw5⟩:∃w5,wr.alloc (.cells #[.int .i64 ri,.int .i64 rt,.int .i64 rm,.int .i64 rw_,.int .i64 rs] 69)=w5:=⟨_,rfl⟩
     obtain⟨B,hB⟩:∃B,wr.heap.size=B:=⟨_,rfl⟩
     have HJo:=hD0 (show ∀b,(Value.slice sa sb sc).ownBlock=some b→b<B from fun b e=>by
      rw[←hB];exact Uo HJ.out.1 e)
     rw[hB] at hal ⊢
     rw[hw5] at hal g5 ⊢
     have HJ5:=hD0 (show Z6 w5 w0.heap.size (.slice sa sb sc) (Uf l k++Vi q j)∧Nw w0 w5 from⟨Yq HJ.out.1 g5,HJ.out.2.trans g5⟩)
     have HAL:=hD0 hal
     have HBl:=hD0 (fun(z:World) (g:Nw w5 z)=>Z2r ht hr hW ri (.slice (some ⟨qb,qo,none⟩) m qc) q z (Nat.le_trans HO.out.len (by decide)) HO.out.ok (by
      have:=HO.out.at_.nw (HJ5.out.2.trans g)
      rw[←HM.out];exact this))
     unfold hdV at HBl
     have ta0:∀z,Nw w5 z→z.cell? ⟨eb,eo+k*4,none⟩=some (.int .i64 ht):=fun z g=>(HZ.out z (HJ5.out.2.trans g)).1
     have ta1:∀z,Nw w5 z→z.cell? ⟨eb,eo+k*4+1,none⟩=some (.int .i64 hr):=fun z g=>(HZ.out z (HJ5.out.2.trans g)).2.1
     have ta2:∀z,Nw w5 z→z.cell? ⟨eb,eo+k*4+2,none⟩=some (.slice (some ⟨qb,qo,none⟩) m qc):=fun z g=>(HZ.out z (HJ5.out.2.trans g)).2.2.1
     have ta3:∀z,Nw w5 z→z.cell? ⟨eb,eo+k*4+3,none⟩=some (.int .i64 hW):=fun z g=>(HZ.out z (HJ5.out.2.trans g)).2.2.2.1
     have tb0:∀z,Nw w5 z→z.cell? ⟨B,0,none⟩=some (.int .i64 ri):=fun z g=>g.kp (Z2 (j:=0) HAL.out)
     clear hal g5 hw5 hB r0 r1 r2 r3 r4 HJ hqbl z0 z1 z2 z3 z4
     go_wp2_with fail
     refine Za [] (Nw w5) (by kernel_rfl) ?_
     change Z9 _ _ _ _ _ _ 8 #[false,false,false,false,false,false,false,false] _ w5.drew
     obtain⟨y4,hy4⟩:∃y,w5.drew=y:=⟨_,rfl⟩
     rw[hy4]
     have hN0:Nw w5 y4:=by rw[←hy4];exact(Nw.refl w5).dr
     clear hy4
     have hS0:=hN0
     refine Z0 0 rfl (by kernel_rfl) (by kernel_rfl) (by kernel_rfl) (fun v c a w h=>h) ?_
     (first | (refine⟨undef,Or.inr ⟨by rfl,rfl⟩,?_⟩) | (apply Exists.intro;refine⟨Or.inl ⟨by rfl,?_⟩,?_⟩;(intro x hx';go_simp;first | done | with_reducible rfl)))
     (try simp only[Act.put,List.getElem_toArray,List.getElem_cons_zero,List.getElem_cons_succ,List.setIfInBounds_toArray,List.set_cons_zero,List.set_cons_succ])
     refine Z0 1 rfl (by kernel_rfl) (by kernel_rfl) (by kernel_rfl) (fun v c a w h=>h) ?_
     (first | (refine⟨undef,Or.inr ⟨by rfl,rfl⟩,?_⟩) | (apply Exists.intro;refine⟨Or.inl ⟨by rfl,?_⟩,?_⟩;(intro x hx';go_simp;first | done | with_reducible rfl)))
     (try simp only[Act.put,List.getElem_toArray,List.getElem_cons_zero,List.getElem_cons_succ,List.setIfInBounds_toArray,List.set_cons_zero,List.set_cons_succ])
     refine Z0 2 rfl (by kernel_rfl) (by kernel_rfl) (by kernel_rfl) (fun v c a w h=>h) ?_
     (first | (refine⟨undef,Or.inr ⟨by rfl,rfl⟩,?_⟩) | (apply Exists.intro;refine⟨Or.inl ⟨by rfl,?_⟩,?_⟩;(intro x hx';go_simp;first | done | with_reducible rfl)))
     (try simp only[Act.put,List.getElem_toArray,List.getElem_cons_zero,List.getElem_cons_succ,List.setIfInBounds_toArray,List.set_cons_zero,List.set_cons_succ])
     refine Z1 3 rfl (by kernel_rfl) (by kernel_rfl) (by kernel_rfl) (by kernel_rfl) (fun v c a w h=>h) hS0 ?_
     (first | (refine⟨undef,Or.inr ⟨by rfl,rfl⟩,?_⟩) | (apply Exists.intro;refine⟨Or.inl ⟨by rfl,?_⟩,?_⟩;(intro x hx';go_simp;first | done | with_reducible rfl)))
     (try simp only[Act.put,List.getElem_toArray,List.getElem_cons_zero,List.getElem_cons_succ,List.setIfInBounds_toArray,List.set_cons_zero,List.set_cons_succ])
     refine Z0 4 rfl (by kernel_rfl) (by kernel_rfl) (by kernel_rfl) (fun v c a w h=>h) ?_
     (first | (refine⟨undef,Or.inr ⟨by rfl,rfl⟩,?_⟩) | (apply Exists.intro;refine⟨Or.inl ⟨by rfl,?_⟩,?_⟩;(intro x hx';go_simp;first | done | with_reducible rfl)))
     (try simp only[Act.put,List.getElem_toArray,List.getElem_cons_zero,List.getElem_cons_succ,List.setIfInBounds_toArray,List.set_cons_zero,List.set_cons_succ])
     refine Z1 5 rfl (by kernel_rfl) (by kernel_rfl) (by kernel_rfl) (by kernel_rfl) (fun v c a w h=>h) hS0 ?_
     (first | (refine⟨undef,Or.inr ⟨by rfl,rfl⟩,?_⟩) | (apply Exists.intro;refine⟨Or.inl ⟨by rfl,?_⟩,?_⟩;(intro x hx';go_simp;first | done | with_reducible rfl)))
     (try simp only[Act.put,List.getElem_toArray,List.getElem_cons_zero,List.getElem_cons_succ,List.setIfInBounds_toArray,List.set_cons_zero,List.set_cons_succ])
     refine Z3 6 (by kernel_rfl) rfl (fun K hK=>?_)
     rw[if_pos (by rfl)]
     (try simp only[List.getElem_toArray,List.getElem_cons_zero,List.getElem_cons_succ])
     go_simp
     refine(HBl.out y4 hN0).mono ?_
     rintro e w6 ⟨v6,rfl,g6,hI6⟩
     refine hK _ _ (.inr (hN0.trans g6)) ?_
     clear hK K hS0 ta0 ta1 ta2 ta3 tb0
     (try simp only[Act.put,List.getElem_toArray,List.getElem_cons_zero,List.getElem_cons_succ,List.setIfInBounds_toArray,List.set_cons_zero,List.set_cons_succ])
     refine Z0 7 rfl (by kernel_rfl) (by kernel_rfl) (by kernel_rfl) (fun v c a w h=>h) ?_
     (first | (refine⟨undef,Or.inr ⟨by rfl,rfl⟩,?_⟩) | (apply Exists.intro;refine⟨Or.inl ⟨by rfl,?_⟩,?_⟩;(intro x hx';go_simp;first | done | with_reducible rfl)))
     (try simp only[Act.put,List.getElem_toArray,List.getElem_cons_zero,List.getElem_cons_succ,List.setIfInBounds_toArray,List.set_cons_zero,List.set_cons_succ])
     refine Z5 (by kernel_rfl) ?_ _
     refine NoPanic.normal ?_
     (try simp only[Act.put,List.getElem_toArray,List.getElem_cons_zero,List.getElem_cons_succ,List.setIfInBounds_toArray,List.set_cons_zero,List.set_cons_succ])
     obtain⟨bl,hbl⟩:∃bl,Yj q ri=bl:=⟨_,rfl⟩
     rw[hbl] at hI6
     have hbl12:bl.length≤12:=by rw[←hbl];exact Nat.le_trans (Vm q ri) (by rw[HM.out];exact hm12)
     obtain⟨ba,bc,rfl,hbb⟩:=(Zt.is hI6).box
     obtain⟨nb,hnb⟩:∃nb,bl.length=nb:=⟨_,rfl⟩
     rw[hnb] at hbb hI6 hbl12 ⊢
     obtain⟨K,hK⟩:∃K:Nat→Prop,K=fun j=>j=B∨(Value.slice ba nb bc).ownBlock=some j:=⟨_,rfl⟩
     have HNB:=hD0 hnb
     have HI6:=hD0 (show IS w6 (.slice ba nb bc) bl from Zt.is hI6)
     have HBB:=hD0 hbb
     have HKK:=hD0 (show(∀j,K j→j<w6.heap.size)∧K B∧(∀g,(Value.slice ba nb bc).ownBlock=some g→K g) from by
      subst hK
      exact⟨fun j hj=>hj.elim (fun e=>by subst e;exact lL0 (Go.Proofs.YtobnolgphljoeaaGreat.hlt HAL.out) (hN0.trans g6).sz) (fun e=>Uo hI6 e),.inl rfl,fun g e=>.inr e⟩)
     have HM6:=hD0 (show EdM w0 w6 K (Uf l k++Vi q j++Yf rt (bl.take 0)) (.slice sa sb sc) w6 from⟨by
      rw[show Uf l k++Vi q j++Yf rt (bl.take 0)=Uf l k++Vi q j from by simp[Yf]]
      exact Yq HJ5.out.1 (hN0.trans g6),HJ5.out.2.trans (hN0.trans g6),Zd.refl _ _,fun b hb e=>by
      have h1:=HJo.out b e
      subst hK
      rcases hb with rfl | hb
      ·exact Nat.lt_irrefl _ h1
      ·have h2:=Vg hI6 hb
       have h3:=hN0.sz
       have h4:=Go.Proofs.YtobnolgphljoeaaGreat.hlt HAL.out
       omega⟩)
     have HB1:=hD0 (show w6.cell? ⟨B,1,none⟩=some (.int .i64 rt) from(hN0.trans g6).kp (Z2 (j:=1) HAL.out))
     have HBL:=hD0 hbl
     clear hI6 hbb hnb hK hN0 g6 hbl
     go_wp2_with fail
     go_loopw [3,8] (fun v3 v8 wr=>∃(i:Nat) (a b c:_),v3=.slice a b c∧v8=.int .i64 i∧i≤nb∧Hid (EdM w0 w6 K (Uf l k++Vi q j++Yf rt (bl.take i)) (.slice a b c) wr)) (fun _ v8 _=>nb-(intOf v8).toNat)
     case atStart=>exact⟨0,_,_,_,rfl,rfl,Nat.zero_le _,HM6⟩
     case round =>
      clear HM6
      obtain⟨i,sa,sb,sc,rfl,rfl,hib,HE⟩:=hrel
      by_cases hlti:i<nb
      ·have hil:i<bl.length:=by rw[HNB.out];exact hlti
       obtain⟨bg,rfl,hbg⟩:=HBB.out (by omega)
       have cy6:=Z1b HI6.out hil
       obtain⟨y,hy⟩:∃y,bl[i]=y:=⟨_,rfl⟩
       rw[hy] at cy6
       have hBw:B<wr.heap.size:=lL0 (HKK.out.1 B HKK.out.2.1) HE.out.tch.size
       have t0:∀z,CsB bg i B y rt z→z.cell? ⟨bg,i,none⟩=some (.int .i64 y):=fun z g=>g.1
       have t1:∀z,CsB bg i B y rt z→z.cell? ⟨B,1,none⟩=some (.int .i64 rt):=fun z g=>g.2
       have HC6:=hD0 (show ∀z,Zd (fun j=>w0.heap.size≤j∧¬K j) w6 z→CsB bg i B y rt z from fun z t=>⟨(t.cell (HKK.out.1 bg (HKK.out.2.2 bg hbg)) (fun e=>e.2 (HKK.out.2.2 bg hbg)) (o:=i)).trans cy6,(t.cell (HKK.out.1 B HKK.out.2.1) (fun e=>e.2 HKK.out.2.1) (o:=1)).trans HB1.out⟩)
       have hlti':=Zo hlti
       have hwi:=Zn i (i+1) (by omega) rfl
       obtain⟨i1,hi1⟩:∃m,i+1=m:=⟨_,rfl⟩
       have HI1:=hD0 (aI0 hi1 hlti)
       rw[hi1] at hwi
       obtain⟨acc,hacc⟩:∃acc,Uf l k++Vi q j++Yf rt (bl.take i)=acc:=⟨_,rfl⟩
       have HTs:=hD0 (show Uf l k++Vi q j++Yf rt (bl.take i1)=acc++[(rt,y)] from by rw[←hacc,←hi1,←hy,Z5j hil,List.append_assoc (Uf l k++Vi q j)])
       rw[hacc] at HE
       have HLe:=hD0 (show acc.length≤90000 from by
        rw[←hacc]
        have h1:=Vn (l:=l) (by rw[HN.out];exact hl) (fun x hx=>(HX.out x hx).len) k
        have h2:(Vi q j).length≤144:=Z17 HO.out.len j
        have h3:(bl.take i).length≤12:=Nat.le_trans (List.length_take_le _ _) (by omega)
        rw[List.length_append,List.length_append,Vu]
        omega)
       clear hi1 hil hy cy6 hlti hacc
       go_wp2_with fail
       refine Za [] (CsB bg i B y rt) (by kernel_rfl) ?_
       change Z9 _ _ _ _ _ _ 11 #[false,false,false,false,false,false,false,false,false,false,false] _ wr.drew
       obtain⟨y4,hy4⟩:∃y,wr.drew=y:=⟨_,rfl⟩
       rw[hy4]
       have hN4:Nw wr y4:=by rw[←hy4];exact(Nw.refl wr).dr
       clear hy4
       have hS0:=HC6.out y4 (HE.out.tch.trans (Zd.nw hN4))
       refine Z0 0 rfl (by kernel_rfl) (by kernel_rfl) (by kernel_rfl) (fun v c a w h=>h) ?_
       (first | (refine⟨undef,Or.inr ⟨by rfl,rfl⟩,?_⟩) | (apply Exists.intro;refine⟨Or.inl ⟨by rfl,?_⟩,?_⟩;(intro x hx';go_simp;first | done | with_reducible rfl)))
       (try simp only[Act.put,List.getElem_toArray,List.getElem_cons_zero,List.getElem_cons_succ,List.setIfInBounds_toArray,List.set_cons_zero,List.set_cons_succ])
       refine Z0 1 rfl (by kernel_rfl) (by kernel_rfl) (by kernel_rfl) (fun v c a w h=>h) ?_
       (first | (refine⟨undef,Or.inr ⟨by rfl,rfl⟩,?_⟩) | (apply Exists.intro;refine⟨Or.inl ⟨by rfl,?_⟩,?_⟩;(intro x hx';go_simp;first | done | with_reducible rfl)))
       (try simp only[Act.put,List.getElem_toArray,List.getElem_cons_zero,List.getElem_cons_succ,List.setIfInBounds_toArray,List.set_cons_zero,List.set_cons_succ])
       refine Z1 2 rfl (by kernel_rfl) (by kernel_rfl) (by kernel_rfl) (by kernel_rfl) (fun v c a w h=>h) hS0 ?_
       (first | (refine⟨undef,Or.inr ⟨by rfl,rfl⟩,?_⟩) | (apply Exists.intro;refine⟨Or.inl ⟨by rfl,?_⟩,?_⟩;(intro x hx';go_simp;first | done | with_reducible rfl)))
       (try simp only[Act.put,List.getElem_toArray,List.getElem_cons_zero,List.getElem_cons_succ,List.setIfInBounds_toArray,List.set_cons_zero,List.set_cons_succ])
       refine Z0 3 rfl (by kernel_rfl) (by kernel_rfl) (by kernel_rfl) (fun v c a w h=>h) ?_
       (first | (refine⟨undef,Or.inr ⟨by rfl,rfl⟩,?_⟩) | (apply Exists.intro;refine⟨Or.inl ⟨by rfl,?_⟩,?_⟩;(intro x hx';go_simp;first | done | with_reducible rfl)))
       (try simp only[Act.put,List.getElem_toArray,List.getElem_cons_zero,List.getElem_cons_succ,List.setIfInBounds_toArray,List.set_cons_zero,List.set_cons_succ])
       refine Z0 4 rfl (by kernel_rfl) (by kernel_rfl) (by kernel_rfl) (fun v c a w h=>h) ?_
       (first | (refine⟨undef,Or.inr ⟨by rfl,rfl⟩,?_⟩) | (apply Exists.intro;refine⟨Or.inl ⟨by rfl,?_⟩,?_⟩;(intro x hx';go_simp;first | done | with_reducible rfl)))
       (try simp only[Act.put,List.getElem_toArray,List.getElem_cons_zero,List.getElem_cons_succ,List.setIfInBounds_toArray,List.set_cons_zero,List.set_cons_succ])
       refine Z0 5 rfl (by kernel_rfl) (by kernel_rfl) (by kernel_rfl) (fun v c a w h=>h) ?_
       (first | (refine⟨undef,Or.inr ⟨by rfl,rfl⟩,?_⟩) | (apply Exists.intro;refine⟨Or.inl ⟨by rfl,?_⟩,?_⟩;(intro x hx';go_simp;first | done | with_reducible rfl)))
       (try simp only[Act.put,List.getElem_toArray,List.getElem_cons_zero,List.getElem_cons_succ,List.setIfInBounds_toArray,List.set_cons_zero,List.set_cons_succ])
       refine Z1 6 rfl (by kernel_rfl) (by kernel_rfl) (by kernel_rfl) (by kernel_rfl) (fun v c a w h=>h) hS0 ?_
       (first | (refine⟨undef,Or.inr ⟨by rfl,rfl⟩,?_⟩) | (apply Exists.intro;refine⟨Or.inl ⟨by rfl,?_⟩,?_⟩;(intro x hx';go_simp;first | done | with_reducible rfl)))
       (try simp only[Act.put,List.getElem_toArray,List.getElem_cons_zero,List.getElem_cons_succ,List.setIfInBounds_toArray,List.set_cons_zero,List.set_cons_succ])
       refine Z0 7 rfl (by kernel_rfl) (by kernel_rfl) (by kernel_rfl) (fun v c a w h=>h) ?_
       (first | (refine⟨undef,Or.inr ⟨by rfl,rfl⟩,?_⟩) | (apply Exists.intro;refine⟨Or.inl ⟨by rfl,?_⟩,?_⟩;(intro x hx';go_simp;first | done | with_reducible rfl)))
       (try simp only[Act.put,List.getElem_toArray,List.getElem_cons_zero,List.getElem_cons_succ,List.setIfInBounds_toArray,List.set_cons_zero,List.set_cons_succ])
       obtain⟨ga,cc,w8,hr8,hM8⟩:=HE.out.push HKK.out.1 HLe.out hN4 rt y
       have hS8:=HC6.out w8 hM8.tch
       have HS8:=hD0 (show EdM w0 w6 K (Uf l k++Vi q j++Yf rt (bl.take i1)) _ w8 from by rw[HTs.out];exact hM8)
       have HR8:=hD0 hr8
       clear hr8 hM8
       refine Z3 8 (by kernel_rfl) rfl (fun K hK=>?_)
       rw[if_pos (by rfl)]
       (try simp only[List.getElem_toArray,List.getElem_cons_zero,List.getElem_cons_succ])
       go_simp
       refine hK _ _ (.inr (HC6.out _ (HE.out.tch.trans (Zd.nw (hN4.trans ((Nw.refl y4).alloc _)))))) ?_
       clear hK
       (try simp only[Act.put,List.getElem_toArray,List.getElem_cons_zero,List.getElem_cons_succ,List.setIfInBounds_toArray,List.set_cons_zero,List.set_cons_succ])
       refine Z3 9 (by kernel_rfl) rfl (fun K hK=>?_)
       refine Yh (by rfl) (.tmp 46) (.tmp 54) 23 rfl _ _ _ _ rfl rfl HR8.out ?_
       refine hK _ _ (.inr hS8) ?_
       clear hK HR8
       (try simp only[Act.put,List.getElem_toArray,List.getElem_cons_zero,List.getElem_cons_succ,List.setIfInBounds_toArray,List.set_cons_zero,List.set_cons_succ])
       refine Z0 10 rfl (by kernel_rfl) (by kernel_rfl) (by kernel_rfl) (fun v c a w h=>h) ?_
       (first | (refine⟨undef,Or.inr ⟨by rfl,rfl⟩,?_⟩) | (apply Exists.intro;refine⟨Or.inl ⟨by rfl,?_⟩,?_⟩;(intro x hx';go_simp;first | done | with_reducible rfl)))
       (try simp only[Act.put,List.getElem_toArray,List.getElem_cons_zero,List.getElem_cons_succ,List.setIfInBounds_toArray,List.set_cons_zero,List.set_cons_succ])
       refine Z5 (by kernel_rfl) ?_ _
       refine NoPanic.normal ?_
       (try simp only[Act.put,List.getElem_toArray,List.getElem_cons_zero,List.getElem_cons_succ,List.setIfInBounds_toArray,List.set_cons_zero,List.set_cons_succ])
       clear hS0 hS8 hN4 t0 t1
       go_wp2_with fail
       exact⟨⟨i1,_,_,_,rfl,rfl,by rw[←HI1.out.1];exact HI1.out.2,HS8⟩,by rw[←HI1.out.1];exact Zk HI1.out.2⟩
      ·obtain rfl:i=nb:=Nat.le_antisymm hib (Nat.le_of_not_lt hlti)
       have hlti':¬i<i:=Nat.lt_irrefl i
       have HI2:=hD0 (show Z6 wr w0.heap.size (.slice sa sb sc) (Uf l k++Vi q j1)∧Nw w0 wr from⟨by
        have:=HE.out.own
        rw[List.take_of_length_le (by rw[HNB.out];exact Nat.le_refl i),List.append_assoc] at this
        rw[HED.out,HBL.out]
        exact this,HE.out.nw⟩)
       clear hlti HE
       go_wp2_with fail
       exact⟨⟨j1,_,_,_,rfl,rfl,by rw[←HJ1.out.1];exact HJ1.out.2,HI2⟩,by rw[←HJ1.out.1];exact Zk HJ1.out.2⟩
    ·obtain rfl:j=m:=Nat.le_antisymm hjm (Nat.le_of_not_lt hltj)
     have hltj':¬j<j:=Nat.lt_irrefl j
     have HI2:=hD0 (show EdI w0 l (.slice sa sb sc) k1 wr from⟨by
      obtain⟨h1,h2⟩:=HXK.out
      rw[←HK1.out.1,Z21 h1,h2]
      have:=HJ.out.1
      rw[←HM.out] at this
      exact this,HJ.out.2⟩)
     clear hltj HJ
     go_wp2_with fail
     exact⟨⟨k1,_,_,_,rfl,rfl,by rw[←HK1.out.1];exact HK1.out.2,HI2⟩,by rw[←HK1.out.1];exact Zk HK1.out.2⟩
  ·obtain rfl:k=n:=Nat.le_antisymm hkn (Nat.le_of_not_lt hlt)
   have Zr:¬k<k:=Nat.lt_irrefl k
   have HS:=hD0 (Vd (Z6.at_ HI.out.own) (Nat.le_trans (Vn (l:=l) (by rw[HN.out];exact hl) (fun x hx=>(HX.out x hx).len) k) (by decide)))
   have HI2:=hD0 HI.out.nw
   clear hlt HI
   go_wp2_with fail
   refine HS.out.mono ?_
   rintro e w2 ⟨v2,rfl,hO2,g2⟩
   have HO2:=hD0 (aI0 (show Z6 w2 w0.heap.size v2 (sortE (Uf l k)) from Z48 hO2 HI2.out.sz) (HI2.out.trans g2))
   clear hO2 g2 HS
   go_wp2_with fail
   go_ret
   exact⟨_,rfl,HO2.out.1,HO2.out.2⟩
end Go.Proofs.YtobnolgphljoeaaGreat
