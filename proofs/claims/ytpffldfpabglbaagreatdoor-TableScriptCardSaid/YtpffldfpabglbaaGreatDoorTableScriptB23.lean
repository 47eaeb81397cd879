/- Texts merged: TdM, QvT, QvU, TbX, TbW, TdN, TdO -/
import Derived.Test.YtpffldfpabglbaaGreatDoorTableScriptB22
import Derived.ChangeOld
import Derived.Below
import Derived.Deep.Slices
import Derived.Deep.Fields
import Derived.ChangeSame
set_option linter.unusedVariables false
set_option maxRecDepth 100000
set_option maxHeartbeats 16000000
namespace Go.Proofs.YtpffldfpabglbaaGreatDoor
open Go.RowKit _root_.Go.Proofs.Tryz
open Go.Shelf
theorem Zwf{w:World}{o o':Nat}{u:Option Nat}{x:Hm}(h:Vh w o u x)(e:o'≤o):Vh w o' none x:=⟨h.rd,h.cap,h.len,fun a i j q=>by have:=h.new a i j q;omega,fun b q _ e=>by cases e⟩
theorem Zho{w:World}{g0 g cap:Nat}{l:List Hm}(h:U7 w g0 (.slice (some ⟨g,0,none⟩) l.length cap) l)(k:Nat)(hk:k<l.length) :
  w.cell? ⟨g,k*4,none⟩=some (.int .i64 l[k].h.t)∧w.cell? ⟨g,k*4+1,none⟩=some (.int .i64 l[k].h.r)∧w.cell? ⟨g,k*4+2,none⟩=some (.slice l[k].a l[k].h.q.length l[k].c)∧w.cell? ⟨g,k*4+3,none⟩=some (.int .i64 l[k].h.W):=by
 have:=(Z7m h).cell k hk
 simp only[Nat.zero_add] at this
 exact⟨this 0 _ rfl,this 1 _ rfl,this 2 _ rfl,this 3 _ rfl⟩
theorem Zze{w z:World}{g0:Nat}{g c k:Nat}{l:List Hm}(h:U7 w g0 (.slice (some ⟨g,0,none⟩) l.length c) l)(hk:k≤l.length)(hc:l.length≤c)(q:Nw w z):Rd 4 Zm z (.slice (if c=k then some ⟨g,0,none⟩else some ⟨g,k*4,none⟩) (l.length-k) (c-k)) (l.drop k):=by
 split
 ·exact Zg3 (by omega)
 ·exact Z6t h hk q
theorem snM{m n c:Nat}(h:m≤n)(hc:n≤c):m≤c∧(m:Int)≤(c:Int)∧(n:Int)≤(c:Int)∧(m:Int)≤(n:Int)∧((n:Int)-(m:Int)).toNat=n-m:=by omega
theorem snL{i m:Nat}(q:i<m+1)(e:¬i=m):i<m:=by omega
theorem snC{j n:Nat}(h:j<n)(hn:n≤16):(j:Int)<(n:Int)∧wrap64 ((j:Int)+1)=(j:Int)+1:=by unfold wrap64;omega
theorem snZ{a b c d e:Nat}(h1:b+1≤d)(h2:d<c)(h3:c≤e)(h4:a≤b):a<e:=by omega
theorem snW{m n:Nat}(h:m<n)(hn:n≤2000):wrap64 ((m:Int)+1)=(m:Int)+1∧(m:Int)<(n:Int):=by unfold wrap64;omega
theorem Z3s{W:World}{o S n N k:Nat}{C:Ud}{hss:List (List Hq)}{L:List Bool}{J:Nat→Prop}(h:U5 W o S n N k C hss L J)(hS:S≤16)(hn:n≤64) :
  Calls prog 14 #[.pointer (some ⟨o,0,none⟩)] W (Vn W (Ya hss)):=by
 have hap:=h.ok.apart
 have hlen:hss.flatten.length≤1024:=by
  have:=Ui (fun l hl=>Nat.le_trans (h.ok.inv.part l hl).len hn) (by rw[h.ok.sl];exact hS) hss.length
  rwa [List.take_length] at this
 obtain⟨bb,cp,po,pg,bs,hm,rfl,rfl,ok⟩:=h
 have hSl:bs.length=S:=by rw[←Zj];exact ok.sl
 have h64:∀i (hi:i<bs.length),(Z3 bs[i].l).length≤64:=fun i hi=>by
  have:=(ok.inv.part _ (gM0 (show i<(Zv bs).length by rw[Zj];exact hi))).len
  rw[Z0w hi] at this
  omega
 have H:=hD0 hm
 have ol:=hm.ol
 have HR:=hD0 (fun i (hi:i<bs.length) y (g:Nw W y)=>Zp7 ((hm.rb.rb _ (gM0 hi)).1.nw g))
 have HA:=hD0 (aI0 hap (aI0 hlen h64))
 obtain⟨nn,hnl⟩:∃nn,bs.length=nn:=⟨_,rfl⟩
 have c4:=hm.c4
 have hnn:nn≤16:=by omega
 rw[hnl] at c4
 have HN:=hD0 hnl
 clear hm ok hSl h64 hap hlen hnl
 go_enter func14,ntmps14
 go_wp2_with fail
 go_loopw [3,4] (fun vi i wr=>∃(j:Nat) (s0:Option Addr) (s1 s2:Nat),vi=.slice s0 s1 s2∧i=.int .i64 j∧j≤nn∧Hid (Yl wr W.heap.size (.slice s0 s1 s2) (snA (Zv bs) j 0)∧Nw W wr)) (fun _ i _=>nn-(intOf i).toNat)
 case atStart=>exact⟨0,none,0,0,rfl,rfl,Nat.zero_le _,by rw[Zpn];exact Zao _ _,Nw.refl _⟩
 case round =>
  obtain⟨j,s0,s1,s2,rfl,rfl,hj,HI⟩:=hrel
  have c4:=HI.out.2.kp H.out.c4
  rw[HN.out] at c4
  have cl:=lL0 ol HI.out.2.sz
  by_cases hjl:j<nn
  rotate_left
  ·obtain rfl:j=nn:=Nat.le_antisymm hj (Nat.le_of_not_lt hjl)
   have HE:Hid (Vn W (Ya (Zv bs)) (.returned (.slice s0 s1 s2)) wr):=by
    have e:=HI.out.1
    rw[←HN.out,←Zj,Ztf] at e
    exact⟨_,rfl,e,HI.out.2⟩
   clear HI
   go_wp2
   go_ret
   exact HE.out
  have hjb:j<bs.length:=by rw[HN.out];exact hjl
  have hjh:j<(Zv bs).length:=by rw[Zj];exact hjb
  have cr:=HI.out.2.kp (H.out.row j hjb)
  have HH:=hD0 (HR.out j hjb wr HI.out.2)
  have HJ1:=hD0 (aI0 hjh (aI0 (Yo hjb) (HA.out.2.2 j hjb)))
  obtain⟨hji,hwj⟩:=snC hjl hnn
  obtain⟨B,hB⟩:∃B,bs[j].o=B:=⟨_,rfl⟩
  rw[hB] at cr HH
  clear hB hjh
  go_wp2_with fail
  refine HH.out.mono ?_
  rintro e w2 ⟨v2,rfl,⟨l2,ho2,he2,hk2⟩,g2⟩
  have hwr:=HI.out.2.sz
  rw[←HJ1.out.2.1] at he2
  have hl2:l2.length=(V6 (Zv bs) j).length:=by rw[←he2,List.length_map]
  have hl64:l2.length≤64:=by rw[hl2,HJ1.out.2.1];exact HJ1.out.2.2
  have HD:=hD0 (aI0 he2 (fun x (hx:x∈l2)=>Zwf (hk2 x hx) hwr))
  have HO2:=hD0 ho2
  have HI2:=hD0 (show Yl w2 W.heap.size (.slice s0 s1 s2) (snA (Zv bs) j 0)∧Nw W w2 from⟨HI.out.1.nw g2,HI.out.2.trans g2⟩)
  have HAp:=hD0 (aI0 HA.out.1 (aI0 HA.out.2.1 HJ1.out.1))
  have HL2:=hD0 hl2
  have hfv:∃a c,v2=.slice a l2.length c∧((a=none∧l2=[])∨∃g,a=some ⟨g,0,none⟩):=by
   rcases Y7 ho2 with⟨e,q⟩ | ⟨g,cap,e⟩
   ·exact⟨_,_,by rw[e,q],.inl ⟨rfl,List.length_eq_zero_iff.1 q⟩⟩
   ·exact⟨_,_,e,.inr ⟨g,rfl⟩⟩
  obtain⟨a2,c2,rfl,hf2⟩:=hfv
  have HF2:=hD0 hf2
  have HWr:=hD0 hwr
  clear hf2 ho2 he2 hk2 g2 hwr hl2 HH HI HJ1 cr c4 cl
  go_wp2_with fail
  go_loopw [3,6] (fun vi kv y=>∃(k:Nat) (s0:Option Addr) (s1 s2:Nat),vi=.slice s0 s1 s2∧kv=.int .i64 k∧k≤l2.length∧Hid (Yl y W.heap.size (.slice s0 s1 s2) (snA (Zv bs) j k)∧Nw w2 y)) (fun _ kv _=>l2.length-(intOf kv).toNat)
  case atStart=>exact⟨0,_,_,_,rfl,rfl,Nat.zero_le _,HI2.out.1,Nw.refl _⟩
  case round =>
   obtain⟨k,t0,t1,t2,rfl,rfl,hk,HJ⟩:=hrel
   by_cases hkl:k<l2.length
   rotate_left
   ·obtain rfl:k=l2.length:=Nat.le_antisymm hk (Nat.le_of_not_lt hkl)
    have HE:=hD0 (show Yl wr W.heap.size (.slice t0 t1 t2) (snA (Zv bs) (j+1) 0)∧Nw W wr from⟨by
     have e:=HJ.out.1
     rw[HL2.out,Zpm HAp.out.2.2] at e
     exact e,HI2.out.2.trans HJ.out.2⟩)
    clear HJ HI2
    go_wp2
    go_roundw
    case rel=>exact⟨j+1,_,_,_,rfl,congrArg (Value.int .i64) (by first | exact nxU j | exact hwj.trans (nxU j)),hjl,HE⟩
    case measure=>first | exact Y0 nn j hjl | (rw[hwj];exact Y0 nn j hjl)
   rcases HF2.out with⟨_,e⟩ | ⟨b,rfl⟩
   ·rw[e] at hkl;simp at hkl
   have hkh:k<(V6 (Zv bs) j).length:=by rw[←HL2.out];exact hkl
   have hxe:l2[k].h=(V6 (Zv bs) j)[k]:=by
    have:(l2.map Hm.h)[k]'(by rw[List.length_map];exact hkl)=(V6 (Zv bs) j)[k]:=by congr 1;exact HD.out.1
    rw[←this,List.getElem_map]
   have hcp:=fun z (g:Nw wr z)=>Zho (onw HO2.out (HJ.out.2.trans g)) k hkl
   have hxk:=fun z (g:Nw wr z)=>(HD.out.2 _ (gM0 hkl)).nw (HJ.out.2.trans g)
   have hput:=Zti hkh
   have hnew:=Zth HAp.out.1 HAp.out.2.2 hkh
   rw[←hxe] at hput hnew
   have hsrt:=(Zbg (k:=k) HAp.out.1 HAp.out.2.2).1
   obtain⟨lm,ho,he,hok⟩:=HJ.out.1
   have hlm:lm.length≤1024:=by
    have h1:=Ztg (k:=k) HAp.out.1 HAp.out.2.2
    rw[←he,List.length_map] at h1
    exact Nat.le_trans h1 HAp.out.2.1
   obtain⟨hwk,hki⟩:=snW hkl (Nat.le_trans hl64 (by decide))
   have HRow:=hD0 (fun m (h0:m≤lm.length) h1 h2=>(Zxt he hsrt hnew h0 h1 h2).trans hput.symm)
   have HX:=hD0 (aI0 hxk (aI0 hok (aI0 hlm (lL0 (Nat.lt_of_le_of_lt (Nat.zero_le _) (olt HO2.out rfl)) (HJ.out.2.sz)))))
   have hWl:W.heap.size<wr.heap.size:=snZ (Vr HO2.out rfl) (olt HO2.out rfl) HJ.out.2.sz HWr.out
   have HWl:=hD0 hWl
   have HJn:=hD0 HJ.out.2
   have HO:=hD0 ho
   clear hxe hkh hput hnew hsrt hok hlm hxk hWl he
   generalize l2[k]=x at *
   obtain⟨⟨xt,xr,xW,q⟩,xa,xc⟩:=x
   simp only at hcp HRow
   obtain⟨ql,hql⟩:∃ql,q.length=ql:=⟨_,rfl⟩
   have HQ:=hD0 hql
   have hp0:=fun z (g:Nw wr z)=>(hcp z g).1
   have hp1:=fun z (g:Nw wr z)=>(hcp z g).2.1
   have hp2:=fun z (g:Nw wr z)=>(hcp z g).2.2.1
   have hp3:=fun z (g:Nw wr z)=>(hcp z g).2.2.2
   simp only[hql] at hp2
   have HP:=hD0 (aI0 hp0 (aI0 hp1 (aI0 hp2 hp3)))
   have hbl:b<wr.heap.size:=lL0 (olt HO2.out rfl) HJ.out.2.sz
   clear hcp hql hp0 hp1 hp2 hp3 HJ
   have HC:=hD0 (fun t r=>Z2s t r xt xr)
   clear hl64 hjb hjl hji hwj hnn ol hk hn hS
   rcases Y7 ho with⟨e,hz⟩ | ⟨g,cap,e⟩
   ·obtain rfl:lm=[]:=List.length_eq_zero_iff.1 hz
    simp only[Value.slice.injEq] at e
    obtain⟨rfl,rfl,rfl⟩:=e
    clear ho
    generalize wr=w4 at *
    go_wp2_with fail
    go_loopw [7] (fun nv y=>nv=.int .i64 0∧Hid (Nw w4 y)) (fun _ _=>0)
    case atStart=>exact⟨rfl,Nw.refl _⟩
    case round =>
     obtain⟨rfl,HM⟩:=hrel
     go_wp2_with fail
     refine Zf (fun y=>Nw wr y) (by kernel_rfl) (by kernel_rfl) (Nw.refl _).dr ?_
     have hne:Nonempty (Wd (fun y=>Nw wr y)):=⟨⟨_,Nw.refl wr⟩⟩
     repeat (first | go_big_quiet_step (fail) | quiet_step (fail))
     refine wpQuiet_nil ?_
     intro d
     have HZ:=hD0 (HM.out.trans d.h)
     clear hne HM
     revert HZ
     generalize d.w=z3
     intro HZ
     obtain⟨m,hm0⟩:∃m:Nat,m=0:=⟨_,rfl⟩
     have hmm:m≤([]:List Hm).length:=by rw[hm0];exact Nat.le_refl _
     have HLess:=hD0 (show ∀i (hi:i<([]:List Hm).length),i<m→Vq (Z9 ([]:List Hm)[i].h) (Z9 (Hm.mk ⟨xt,xr,xW,q⟩ xa xc).h) from fun i hi=>by simp at hi)
     have HNot:=hD0 (show ∀hq:m<([]:List Hm).length,¬Vq (Z9 ([]:List Hm)[m].h) (Z9 (Hm.mk ⟨xt,xr,xW,q⟩ xa xc).h) from fun hq=>by simp at hq)
     clear hm0
     obtain⟨v4,y4,a5,n5,c5,y5,a6,n6,c6,y6,hr4,hN4,hr5,hN5,hr6,hN6,hE6⟩:=Zfe (W:=z3) (o:=W.heap.size) (v:=.slice none 0 0) (lm:=[]) (fun x hx=>(HX.out.2.1 x hx).nw HZ.out) (lL0 HWl.out HZ.out.sz) m hmm (Nat.le_trans HX.out.2.2.1 (by decide)) ⟨⟨xt,xr,xW,q⟩,xa,xc⟩ (HX.out.1 z3 HZ.out) (v1:=.slice none 0 0) (v2:=.slice none 0 0) (fun z _=>by rw[List.take_nil];exact Rd.nil z) (fun z _=>by rw[List.drop_nil];exact Rd.nil z)
     simp only[HQ.out] at hr4 hr5 hr6
     rw[HRow.out m hmm HLess.out HNot.out] at hE6
     have HE:=hD0 (show Yl y6 W.heap.size (.slice a6 n6 c6) (snA (Zv bs) j (k+1))∧Nw w2 y6 from⟨hE6,HJn.out.trans (HZ.out.trans hN6)⟩)
     have HR4:=hD0 hr4
     have HR5:=hD0 hr5
     have HR6:=hD0 hr6
     have p0:=HP.out.1 y4 (HZ.out.trans hN4)
     have p1:=HP.out.2.1 y4 (HZ.out.trans hN4)
     have p2:=HP.out.2.2.1 y4 (HZ.out.trans hN4)
     have p3:=HP.out.2.2.2 y4 (HZ.out.trans hN4)
     clear hr4 hr5 hr6 hE6 hN4 hN5 hN6 HO
     go_wp2_with (at_builtin;first | (refine Z5 (by rfl) (.tmp 52) (.tmp 55) 40 rfl _ _ _ _ (by first | rfl | simp[Act.eval, *]) (by first | rfl | simp[Act.eval, *]) HR4.out ?_) | (refine Z5 (by rfl) (.tmp 57) (.tmp 62) 40 rfl _ _ _ _ (by first | rfl | simp[Act.eval, *]) (by first | rfl | simp[Act.eval, *]) HR5.out ?_) | (refine Z5 (by rfl) (.tmp 64) (.tmp 67) 40 rfl _ _ _ _ (by first | rfl | simp[Act.eval, *]) (by first | rfl | simp[Act.eval, *]) HR6.out ?_))
     go_roundw
     case rel=>exact⟨k+1,_,_,_,rfl,congrArg (Value.int .i64) (by first | exact nxU k | exact hwk.trans (nxU k)),hkl,HE⟩
     case measure=>first | exact Y0 l2.length k hkl | (rw[hwk];exact Y0 l2.length k hkl)
   ·simp only[Value.slice.injEq] at e
    obtain⟨rfl,rfl,rfl⟩:=e
    have hcap:lm.length≤t2:=Ur ho
    have hgl:g<wr.heap.size:=olt ho rfl
    generalize wr=w4 at *
    clear ho
    go_wp2_with fail
    go_loopw [7] (fun nv y=>∃m:Nat,nv=.int .i64 m∧m≤lm.length∧Hid ((∀i (hi:i<lm.length),i<m→Vq (Z9 lm[i].h) (xt,xr))∧Nw w4 y)) (fun nv _=>lm.length-(intOf nv).toNat)
    case atStart=>exact⟨0,rfl,Nat.zero_le _,fun i hi q=>absurd q (Nat.not_lt_zero _),Nw.refl _⟩
    case round =>
     obtain⟨m,rfl,hmm,HM⟩:=hrel
     have q0:=HP.out.1 wr HM.out.2
     have q1:=HP.out.2.1 wr HM.out.2
     have hb3:=lL0 hbl HM.out.2.sz
     have hg3:=lL0 hgl HM.out.2.sz
     obtain⟨hm1,hm2,hm3,hm4,hm5⟩:=snM hmm hcap
     by_cases hml:m<lm.length
     ·obtain⟨hwm,hmi⟩:=snW hml (Nat.le_trans HX.out.2.2.1 (by decide))
      obtain⟨e0,e1,-,-⟩:=Zho (onw HO.out HM.out.2) m hml
      have HCm:=hD0 (Zh6 lm[m].h.t lm[m].h.r xt xr)
      have HPm:=hD0 (show Z9 lm[m].h=(lm[m].h.t,lm[m].h.r) from rfl)
      have HCc:=hD0 (HC.out lm[m].h.t lm[m].h.r)
      obtain⟨y,hy⟩:∃y,or2 (c3 lm[m].h.t xt) (c3 lm[m].h.r xr)=y:=⟨_,rfl⟩
      rw[hy] at HCm HCc
      clear hy
      generalize lm[m].h.t=mt at *
      generalize lm[m].h.r=mr at *
      go_wp2_with fail
      refine Zf (fun y=>Nw wr y) (by kernel_rfl) (by kernel_rfl) (Nw.refl _).dr ?_
      have d2:∀d:Wd (fun y=>Nw wr y),d.w.cell? _=_:=fun d=>d.h.kp e0
      have d3:∀d:Wd (fun y=>Nw wr y),d.w.cell? _=_:=fun d=>d.h.kp e1
      have d4:∀d:Wd (fun y=>Nw wr y),d.w.cell? _=_:=fun d=>d.h.kp q0
      have d5:∀d:Wd (fun y=>Nw wr y),d.w.cell? _=_:=fun d=>d.h.kp q1
      have hne:Nonempty (Wd (fun y=>Nw wr y)):=⟨⟨_,Nw.refl wr⟩⟩
      repeat (first | go_big_quiet_step ((exact Zd (fun a b h g=>h.trans g) (HCc.out _))) | quiet_step ((exact Zd (fun a b h g=>h.trans g) (HCc.out _))))
      refine wpQuiet_nil ?_
      intro d
      have HZ:=hD0 (HM.out.2.trans d.h)
      clear d2 d3 d4 d5 hne e0 e1 q0 q1 hb3 hg3
      revert HZ
      generalize d.w=z3
      intro HZ
      by_cases hy:y<0
      ·have dy:decide (y<0)=true:=decide_eq_true hy
       have HE:=hD0 (show(∀i (hi:i<lm.length),i<m+1→Vq (Z9 lm[i].h) (xt,xr))∧Nw w4 z3 from⟨fun i hi q=>by
        by_cases e:i=m
        ·subst e;rw[HPm.out];exact HCm.out.1.1 hy
        ·exact HM.out.1 i hi (snL q e),HZ.out⟩)
       clear HM HZ
       go_wp2
       go_roundw
       case rel=>exact⟨m+1,congrArg (Value.int .i64) (by first | exact nxU m | exact hwm.trans (nxU m)),hml,HE⟩
       case measure=>first | exact Y0 lm.length m hml | (rw[hwm];exact Y0 lm.length m hml)
      ·have dy:decide (y<0)=false:=decide_eq_false hy
       have HLess:=hD0 HM.out.1
       have HNot:=hD0 (show ∀hq:m<lm.length,¬Vq (Z9 lm[m].h) (xt,xr) from fun hq q=>hy (HCm.out.1.2 (HPm.out▸q)))
       clear HM hwm hmi HCm HPm HCc HC
       obtain⟨v4,y4,a5,n5,c5,y5,a6,n6,c6,y6,hr4,hN4,hr5,hN5,hr6,hN6,hE6⟩:=Zfe (W:=z3) (o:=W.heap.size) (v:=.slice (some ⟨g,0,none⟩) lm.length t2) (lm:=lm) (fun x hx=>(HX.out.2.1 x hx).nw HZ.out) (lL0 HWl.out HZ.out.sz) m hmm (Nat.le_trans HX.out.2.2.1 (by decide)) ⟨⟨xt,xr,xW,q⟩,xa,xc⟩ (HX.out.1 z3 HZ.out) (v1:=.slice (some ⟨g,0,none⟩) m t2) (v2:=.slice (some ⟨g,m*4,none⟩) (lm.length-m) (t2-m)) (fun z q=>Z33 HO.out hmm (HZ.out.trans q)) (fun z q=>Z6t HO.out hmm (HZ.out.trans q))
       simp only[HQ.out] at hr4 hr5 hr6
       rw[HRow.out m hmm HLess.out HNot.out] at hE6
       have HE:=hD0 (show Yl y6 W.heap.size (.slice a6 n6 c6) (snA (Zv bs) j (k+1))∧Nw w2 y6 from⟨hE6,HJn.out.trans (HZ.out.trans hN6)⟩)
       have HR4:=hD0 hr4
       have HR5:=hD0 hr5
       have HR6:=hD0 hr6
       have p0:=HP.out.1 y4 (HZ.out.trans hN4)
       have p1:=HP.out.2.1 y4 (HZ.out.trans hN4)
       have p2:=HP.out.2.2.1 y4 (HZ.out.trans hN4)
       have p3:=HP.out.2.2.2 y4 (HZ.out.trans hN4)
       clear hr4 hr5 hr6 hE6 hN4 hN5 hN6 HO
       go_wp2_with (at_builtin;first | (refine Z5 (by rfl) (.tmp 52) (.tmp 55) 40 rfl _ _ _ _ (by first | rfl | simp[Act.eval, *]) (by first | rfl | simp[Act.eval, *]) HR4.out ?_) | (refine Z5 (by rfl) (.tmp 57) (.tmp 62) 40 rfl _ _ _ _ (by first | rfl | simp[Act.eval, *]) (by first | rfl | simp[Act.eval, *]) HR5.out ?_) | (refine Z5 (by rfl) (.tmp 64) (.tmp 67) 40 rfl _ _ _ _ (by first | rfl | simp[Act.eval, *]) (by first | rfl | simp[Act.eval, *]) HR6.out ?_))
       go_roundw
       case rel=>exact⟨k+1,_,_,_,rfl,congrArg (Value.int .i64) (by first | exact nxU k | exact hwk.trans (nxU k)),hkl,HE⟩
       case measure=>first | exact Y0 l2.length k hkl | (rw[hwk];exact Y0 l2.length k hkl)
     ·obtain rfl:m=lm.length:=Nat.le_antisymm hmm (Nat.le_of_not_lt hml)
      go_wp2_with fail
      refine Zf (fun y=>Nw wr y) (by kernel_rfl) (by kernel_rfl) (Nw.refl _).dr ?_
      have hne:Nonempty (Wd (fun y=>Nw wr y)):=⟨⟨_,Nw.refl wr⟩⟩
      repeat (first | go_big_quiet_step (fail) | quiet_step (fail))
      refine wpQuiet_nil ?_
      intro d
      have HZ:=hD0 (HM.out.2.trans d.h)
      have HLess:=hD0 HM.out.1
      have HNot:=hD0 (show ∀hq:lm.length<lm.length,¬Vq (Z9 lm[lm.length].h) (xt,xr) from fun hq=>absurd hq (Nat.lt_irrefl _))
      clear hne HM q0 q1 hb3 hg3
      revert HZ
      generalize d.w=z3
      intro HZ
      obtain⟨v4,y4,a5,n5,c5,y5,a6,n6,c6,y6,hr4,hN4,hr5,hN5,hr6,hN6,hE6⟩:=Zfe (W:=z3) (o:=W.heap.size) (v:=.slice (some ⟨g,0,none⟩) lm.length t2) (lm:=lm) (fun x hx=>(HX.out.2.1 x hx).nw HZ.out) (lL0 HWl.out HZ.out.sz) lm.length hmm (Nat.le_trans HX.out.2.2.1 (by decide)) ⟨⟨xt,xr,xW,q⟩,xa,xc⟩ (HX.out.1 z3 HZ.out) (v1:=.slice (some ⟨g,0,none⟩) lm.length t2) (v2:=.slice (if t2=lm.length then some ⟨g,0,none⟩else some ⟨g,lm.length*4,none⟩) (lm.length-lm.length) (t2-lm.length)) (fun z q=>Z33 HO.out hmm (HZ.out.trans q)) (fun z q=>Zze HO.out hmm hcap (HZ.out.trans q))
      simp only[HQ.out] at hr4 hr5 hr6
      rw[HRow.out lm.length hmm HLess.out HNot.out] at hE6
      have HE:=hD0 (show Yl y6 W.heap.size (.slice a6 n6 c6) (snA (Zv bs) j (k+1))∧Nw w2 y6 from⟨hE6,HJn.out.trans (HZ.out.trans hN6)⟩)
      have HR4:=hD0 hr4
      have HR5:=hD0 hr5
      have HR6:=hD0 hr6
      have p0:=HP.out.1 y4 (HZ.out.trans hN4)
      have p1:=HP.out.2.1 y4 (HZ.out.trans hN4)
      have p2:=HP.out.2.2.1 y4 (HZ.out.trans hN4)
      have p3:=HP.out.2.2.2 y4 (HZ.out.trans hN4)
      clear hr4 hr5 hr6 hE6 hN4 hN5 hN6 HO
      go_wp2_with (at_builtin;first | (refine Z5 (by rfl) (.tmp 52) (.tmp 55) 40 rfl _ _ _ _ (by first | rfl | simp[Act.eval, *]) (by first | rfl | simp[Act.eval, *]) HR4.out ?_) | (refine Z5 (by rfl) (.tmp 57) (.tmp 62) 40 rfl _ _ _ _ (by first | rfl | simp[Act.eval, *]) (by first | rfl | simp[Act.eval, *]) HR5.out ?_) | (refine Z5 (by rfl) (.tmp 64) (.tmp 67) 40 rfl _ _ _ _ (by first | rfl | simp[Act.eval, *]) (by first | rfl | simp[Act.eval, *]) HR6.out ?_))
      go_roundw
      case rel=>exact⟨k+1,_,_,_,rfl,congrArg (Value.int .i64) (by first | exact nxU k | exact hwk.trans (nxU k)),hkl,HE⟩
      case measure=>first | exact Y0 l2.length k hkl | (rw[hwk];exact Y0 l2.length k hkl)
def HB(w:World)(B:Nat)(t r:Int)(v:Value)(W:Int):Prop:=w.heap[B]?=some (.cells #[.int .i64 t,.int .i64 r,v,.int .i64 W] 63)
section
open Go.ChangeShapes Go.WideShapes Go.ChangeAt Go.RowKit Go.Deep
theorem Zsl{α:Type}{n:Nat}{Q:Nat→α→Prop}(h:∀i,i<n→∃x,Q i x):∃l:List α,l.length=n∧∀i (hi:i<l.length),Q i l[i]:=by
 induction n with
 | zero=>exact⟨[],rfl,fun i hi=>by simp at hi⟩
 | succ n ih =>
  obtain⟨l,hl,hq⟩:=ih fun i hi=>h i (by omega)
  obtain⟨x,hx⟩:=h n (by omega)
  refine⟨l++[x],by simp[hl],fun i hi=>?_⟩
  rw[List.length_append,List.length_singleton] at hi
  by_cases q:i<l.length
  ·rw[List.getElem_append_left q];exact hq i q
  ·have:i=n:=by omega
   subst this
   rw[List.getElem_append_right (by omega)]
   simpa using hx
theorem Zzq{cs:List Value}(h:cs.length=4):∃v0 v1 v2 v3,cs=[v0,v1,v2,v3]:=by
 match cs,h with
 | [v0,v1,v2,v3],_=>exact⟨v0,v1,v2,v3,rfl⟩
theorem Zex:prog.cellsOf 3=1:=by kernel_rfl
theorem Zjc:prog.cellsOf 35=1:=by kernel_rfl
theorem Zr7:prog.cellsOf 34=2:=by kernel_rfl
section
variable {H:Type} {enc:TypeId × Value→H} {w:World} {base:Nat} {spare:Nat→Bool} {held:Bool}
theorem Ub{α:Type}{xs:List α}{i:Nat}(h:i<xs.length):∃y,xs[i]?=some y:=⟨_,List.getElem?_eq_getElem h⟩
end
end
section
open Go.ChangeShapes Go.WideShapes Go.ChangeAt Go.RowKit Go.Deep
structure Cl where
 k:Int
 t:Int
 r:Int
 id:Int
 tx:Int
 md:Int
def clrow(a:Cl):List Value:=[.int .i64 a.k,.int .i64 a.t,.int .i64 a.r,.int .i64 a.id,.int .i64 a.tx,.int .i64 a.md]
def Cl.ok(a:Cl):Prop:=Fit a.t∧Fit a.r∧Fit a.id∧Fit a.tx
theorem Zaj{a:Int}(h:(Lit.int .i64 a).wf=true):Fit a:=by
 unfold Fit
 simp[Lit.wf,IntKind.min,IntKind.max,IntKind.bits,IntKind.signed] at h
 omega
theorem Zzr{cs:List Value}(h:cs.length=6):∃v0 v1 v2 v3 v4 v5,cs=[v0,v1,v2,v3,v4,v5]:=by
 match cs,h with
 | [v0,v1,v2,v3,v4,v5],_=>exact⟨v0,v1,v2,v3,v4,v5,rfl⟩
theorem Zh4:prog.cellsOf 37=6:=by kernel_rfl
section
variable {H:Type} {enc:TypeId × Value→H} {w:World} {base:Nat} {spare:Nat→Bool} {held:Bool}
theorem Zt0{fuel:Nat}{v0 v1:Value}{x:DataW H × List MemPlace}(f0:DataW.trod enc prog w base spare held fuel 34 [v0,v1]=some x):∃a b,v0=.int .i64 a∧v1=.int .i64 b∧(Lit.int .i64 a).wf=true∧(Lit.int .i64 b).wf=true:=by
 obtain⟨xs',n',_,_,hl',hxl',hf'⟩:=DataW.trod_struct underlying34 f0
 have g0:DataW.trod enc prog w base spare held n' 3 (([v0,v1].drop 0).take (prog.cellsOf 3))=xs'[0]?:=hf' 0 _ rfl
 have g1:DataW.trod enc prog w base spare held n' 3 (([v0,v1].drop 1).take (prog.cellsOf 3))=xs'[1]?:=hf' 1 _ rfl
 simp at hxl'
 obtain⟨z0,r0⟩:=Ub (xs:=xs') (i:=0) (by omega)
 obtain⟨z1,r1⟩:=Ub (xs:=xs') (i:=1) (by omega)
 rw[r0] at g0
 rw[r1] at g1
 simp only[Zex,List.drop_succ_cons,List.drop_zero,List.take_succ_cons,List.take_zero] at g0 g1
 obtain⟨a0,q0,_,u0⟩:=DataW.trod_int underlying3 g0
 obtain⟨a1,q1,_,u1⟩:=DataW.trod_int underlying3 g1
 exact⟨a0,a1,(List.cons.inj q0).1,(List.cons.inj q1).1,u0,u1⟩
theorem Zsz{fuel:Nat}{cs:List Value}{x:DataW H × List MemPlace}(h:DataW.trod enc prog w base spare held fuel 37 cs=some x):∃R:Cl,cs=clrow R∧R.ok:=by
 obtain⟨xs,n,_,_,hl,hxl,hf⟩:=DataW.trod_struct underlying37 h
 rw[Zh4] at hl
 obtain⟨v0,v1,v2,v3,v4,v5,rfl⟩:=Zzr hl
 have f0:DataW.trod enc prog w base spare held n 3 (([v0,v1,v2,v3,v4,v5].drop 0).take (prog.cellsOf 3))=xs[0]?:=hf 0 _ rfl
 have f1:DataW.trod enc prog w base spare held n 34 (([v0,v1,v2,v3,v4,v5].drop 1).take (prog.cellsOf 34))=xs[1]?:=hf 1 _ rfl
 have f2:DataW.trod enc prog w base spare held n 3 (([v0,v1,v2,v3,v4,v5].drop 3).take (prog.cellsOf 3))=xs[2]?:=hf 2 _ rfl
 have f3:DataW.trod enc prog w base spare held n 3 (([v0,v1,v2,v3,v4,v5].drop 4).take (prog.cellsOf 3))=xs[3]?:=hf 3 _ rfl
 have f4:DataW.trod enc prog w base spare held n 35 (([v0,v1,v2,v3,v4,v5].drop 5).take (prog.cellsOf 35))=xs[4]?:=hf 4 _ rfl
 simp at hxl
 obtain⟨y0,e0⟩:=Ub (xs:=xs) (i:=0) (by omega)
 obtain⟨y1,e1⟩:=Ub (xs:=xs) (i:=1) (by omega)
 obtain⟨y2,e2⟩:=Ub (xs:=xs) (i:=2) (by omega)
 obtain⟨y3,e3⟩:=Ub (xs:=xs) (i:=3) (by omega)
 obtain⟨y4,e4⟩:=Ub (xs:=xs) (i:=4) (by omega)
 rw[e0] at f0
 rw[e1] at f1
 rw[e2] at f2
 rw[e3] at f3
 rw[e4] at f4
 simp only[Zex,Zjc,Zr7,List.drop_succ_cons,List.drop_zero,List.take_succ_cons,List.take_zero] at f0 f1 f2 f3 f4
 obtain⟨a0,q0,_,u0⟩:=DataW.trod_int underlying3 f0
 obtain⟨a2,q2,_,u2⟩:=DataW.trod_int underlying3 f2
 obtain⟨a3,q3,_,u3⟩:=DataW.trod_int underlying3 f3
 obtain⟨a4,q4,_,u4⟩:=DataW.trod_int underlying35 f4
 obtain⟨b0,b1,rfl,rfl,w0,w1⟩:=Zt0 f1
 obtain rfl:=(List.cons.inj q0).1
 obtain rfl:=(List.cons.inj q2).1
 obtain rfl:=(List.cons.inj q3).1
 obtain rfl:=(List.cons.inj q4).1
 exact⟨⟨a0,b0,b1,a2,a3,a4⟩,rfl,Zaj w0,Zaj w1,Zaj u2,Zaj u3⟩
theorem open_cls{fuel:Nat}{v:Value}{x:DataW H × List MemPlace}(h:DataW.trod enc prog w base spare held fuel 24 [v]=some x):∃l,Rd 6 clrow w v l∧∀R∈l,Cl.ok R:=by
 rcases open_slice underlying24 h with⟨hcs,_⟩ | ⟨a,len,cap,m,n,D,Pl,hcs,_,hl,hm,hmm,_,hi⟩
 ·simp only[List.cons.injEq,and_true] at hcs
  subst hcs
  exact⟨[],Rd.nil w,fun R hR=>by simp at hR⟩
 ·simp only[List.cons.injEq,and_true] at hcs
  subst hcs
  have hlm:len≤m:=by rw[hmm];split<;>omega
  have each:∀i,i<len→∃R:Cl,R.ok∧∀j u,(clrow R)[j]?=some u→w.cell? (a.add (i*6+j))=some u:=by
   intro i hil
   obtain⟨cs',hc,ht⟩:=hi i (by omega)
   rw[Zh4] at hc
   obtain⟨R,rfl,hF⟩:=Zsz ht
   obtain⟨_,hcl,hat⟩:=World.cells?_some hc
   have key:∀j,j<6→w.cell? (a.add (i*6+j))=(clrow R)[j]?:=fun j hj=>by rw[←Go.Deep.add_add];exact hat j hj
   refine⟨R,hF,fun j u hj=>?_⟩
   have hj6:j<6:=by have:=(List.getElem?_eq_some_iff.1 hj).1;simpa [clrow] using this
   rw[key j hj6];exact hj
  obtain⟨l,hll,hq⟩:=Zsl each
  refine⟨l,?_,fun R hR=>by obtain⟨i,hi,rfl⟩:=List.getElem_of_mem hR;exact(hq i (by omega)).1⟩
  subst hll
  rcases Nat.eq_zero_or_pos l.length with h0 | h0
  ·obtain rfl:=List.length_eq_zero_iff.1 h0
   exact⟨some a,cap,rfl,.inl ⟨rfl,fun e=>by cases e⟩⟩
  ·have hu:=(hq 0 h0).2 0 _ rfl
   obtain⟨b,o,spot⟩:=a
   have hs:spot=none:=by simpa [Addr.add] using World.cell?_spot hu
   subst hs
   refine⟨some ⟨b,o,none⟩,cap,rfl,.inr ⟨b,o,rfl,⟨?_,fun i hi c u hu=>?_⟩⟩⟩
   ·rw[Addr.add_lit] at hu
    exact World.block_lt_of_cell? _ _ hu
   ·have:=(hq i hi).2 c u hu
    rw[Addr.add_lit,←Nat.add_assoc] at this
    exact this
theorem Zr6:prog.cellsOf 23=4:=by kernel_rfl
theorem open_caps{v:Value}{d:DataW H}{p:List MemPlace}{r:Reach}{b0:Nat}(hv:Value.okWide prog w r b0 23 v)(h:DataW.Trod enc prog w base spare held 23 v d p):∃a0 a1 a2 a3,v=.agg #[.int .i64 a0,.int .i64 a1,.int .i64 a2,.int .i64 a3]:=by
 obtain⟨cs,rfl,hsz⟩:=okWide_struct underlying23 hv
 obtain⟨fuel,hf⟩:=h
 obtain⟨l⟩:=cs
 simp only[Value.cells] at hf
 obtain⟨xs,n,_,_,hl,hxl,hg⟩:=DataW.trod_struct underlying23 hf
 rw[Zr6] at hl
 obtain⟨v0,v1,v2,v3,rfl⟩:=Zzq hl
 have f0:DataW.trod enc prog w base spare held n 3 (([v0,v1,v2,v3].drop 0).take (prog.cellsOf 3))=xs[0]?:=hg 0 _ rfl
 have f1:DataW.trod enc prog w base spare held n 3 (([v0,v1,v2,v3].drop 1).take (prog.cellsOf 3))=xs[1]?:=hg 1 _ rfl
 have f2:DataW.trod enc prog w base spare held n 3 (([v0,v1,v2,v3].drop 2).take (prog.cellsOf 3))=xs[2]?:=hg 2 _ rfl
 have f3:DataW.trod enc prog w base spare held n 3 (([v0,v1,v2,v3].drop 3).take (prog.cellsOf 3))=xs[3]?:=hg 3 _ rfl
 simp at hxl
 obtain⟨y0,e0⟩:=Ub (xs:=xs) (i:=0) (by omega)
 obtain⟨y1,e1⟩:=Ub (xs:=xs) (i:=1) (by omega)
 obtain⟨y2,e2⟩:=Ub (xs:=xs) (i:=2) (by omega)
 obtain⟨y3,e3⟩:=Ub (xs:=xs) (i:=3) (by omega)
 rw[e0] at f0
 rw[e1] at f1
 rw[e2] at f2
 rw[e3] at f3
 simp only[Zex,List.drop_succ_cons,List.drop_zero,List.take_succ_cons,List.take_zero] at f0 f1 f2 f3
 obtain⟨a0,q0,_,u0⟩:=DataW.trod_int underlying3 f0
 obtain⟨a1,q1,_,u1⟩:=DataW.trod_int underlying3 f1
 obtain⟨a2,q2,_,u2⟩:=DataW.trod_int underlying3 f2
 obtain⟨a3,q3,_,u3⟩:=DataW.trod_int underlying3 f3
 obtain rfl:=(List.cons.inj q0).1
 obtain rfl:=(List.cons.inj q1).1
 obtain rfl:=(List.cons.inj q2).1
 obtain rfl:=(List.cons.inj q3).1
 exact⟨a0,a1,a2,a3,rfl⟩
end
end
theorem Zgg(b o c b' o' c':Nat)(l:List Hl)(w:World)(hm:l.length≤100000)(h:RdC 4 Z2k w b o l)(h':RdC 4 Z2k w b' o' l) :
  Calls prog 15 #[.slice (some ⟨b,o,none⟩) l.length c,.slice (some ⟨b',o',none⟩) l.length c'] w fun e w'=>e=.returned (.bool true)∧Nw w w':=by
 have H:=hD0 (aI0 h h')
 clear h h'
 go_enter func15,ntmps15
 go_wp2
 go_loopw [5] (fun i wr=>∃k:Nat,k≤l.length∧i=.int .i64 k∧Nw w wr) (fun i _=>l.length-(intOf i).toNat)
 case atStart=>exact⟨0,Nat.zero_le _,rfl,Nw.refl _⟩
 case round =>
  obtain⟨k,hk,rfl,hG⟩:=hrel
  by_cases hlt:k<l.length
  ·have hce:=(H.out.1.nw hG).cell k hlt
   have hde:=(H.out.2.nw hG).cell k hlt
   have hki:(k:Int)<(l.length:Int):=by omega
   generalize l[k]=s at *
   obtain⟨s0,s1,s2,s3⟩:=s
   have c0:=hce 0 _ rfl
   have c1:=hce 1 _ rfl
   have c2:=hce 2 _ rfl
   have c3:=hce 3 _ rfl
   simp only[Nat.add_zero] at c0
   have d0:=hde 0 _ rfl
   have d1:=hde 1 _ rfl
   have d2:=hde 2 _ rfl
   have d3:=hde 3 _ rfl
   simp only[Nat.add_zero] at d0
   clear hce hde
   have HG:=hD0 hG
   clear hG
   go_wp2_with fail
   go_quiet (fail)
   go_wp2
   go_roundw
   case rel=>exact⟨k+1,by omega,by go_num,HG.out.drewN _⟩
   case measure=>simp[intOf];omega
  ·have HG:=hD0 hG
   clear hG
   go_wp2
   go_ret
   exact⟨rfl,HG.out⟩
theorem Z83(a a':Option Addr)(c c':Nat)(w:World):Calls prog 15 #[.slice a 0 c,.slice a' 0 c'] w fun e w'=>e=.returned (.bool true)∧Nw w w':=by
 go_enter func15,ntmps15
 go_wp2
 refine wp_loop_rounds 1 ?_
 repeat (rw[rounds_succ];go_wp2)
 go_ret
 exact⟨rfl,Nw.refl _⟩
abbrev Zqr(w:World)(v:Value)(l:List Hl):Prop:=Rd 4 Z2k w v l
theorem Z05.rd{w:World}{g0:Nat}{v:Value}{l:List Hl}(h:Z05 w g0 v l):Zqr w v l:=Yz.rd Z2h.len h
theorem Z5j(v v':Value)(l:List Hl)(w:World)(hm:l.length≤100000)(h:Zqr w v l)(h':Zqr w v' l):Calls prog 15 #[v,v'] w fun e w'=>e=.returned (.bool true)∧Nw w w':=by
 obtain⟨a,c,rfl,⟨rfl,_⟩ | ⟨b,o,rfl,hc⟩⟩:=h
 ·obtain⟨a',c',rfl,_⟩:=h'
  exact Z83 a a' c c' w
 ·obtain⟨a',c',rfl,⟨rfl,_⟩ | ⟨b',o',rfl,hc'⟩⟩:=h'
  ·exact Z83 _ a' c c' w
  ·exact Zgg b o c b' o' c' l w hm hc hc'
theorem Zo4(w:World):Calls prog 42 #[] w fun e w'=>e=.returned (.agg #[.int .i64 (-1),.int .i64 (-1)])∧Nw w w':=by
 go_enter func42,ntmps42
 go_wp2
 exact bodyPost_ret (v:=.agg #[.int .i64 (-1),.int .i64 (-1)]) (by simp[results,results42,go_sem, *]) rfl ⟨rfl,(Nw.refl w).alloc _⟩
theorem Zlv(w:World):Calls prog 40 #[] w fun e w'=>e=.returned (.agg #[.int .i64 3,.int .i64 4,.int .i64 8,.int .i64 1])∧Nw w w':=by
 go_enter func40,ntmps40
 go_wp2
 exact bodyPost_ret (v:=.agg #[.int .i64 3,.int .i64 4,.int .i64 8,.int .i64 1]) (by simp[results,results40,go_sem, *]) rfl ⟨rfl,(Nw.refl w).alloc _⟩
abbrev lv0:List (List Hq):=List.replicate 3 []
abbrev lvL:List Bool:=List.replicate 8 false
theorem Zo9:Z0v 4 lv0 lvL 3 (-1) 1 3=(0,true,0):=by kernel_rfl
theorem Zoa:Z0v 4 (U0 4 lv0 lvL 3 (-1) 1 3).1 (U0 4 lv0 lvL 3 (-1) 1 3).2 (-1) (-1) 1 1=(1,true,0):=by kernel_rfl
theorem Zsm:Vc (Ya (U0 4 (U0 4 lv0 lvL 3 (-1) 1 3).1 (U0 4 lv0 lvL 3 (-1) 1 3).2 (-1) (-1) 1 1).1) 1=[⟨1,-1,-1,1⟩,⟨1,3,-1,3⟩]:=by kernel_rfl
theorem Zob(w:World):Zqr (w.alloc (.cells #[.int .i64 1,.int .i64 (-1),.int .i64 (-1),.int .i64 1,.int .i64 1,.int .i64 3,.int .i64 (-1),.int .i64 3] 44)) (.slice (some ⟨w.heap.size,0,none⟩) 2 2) [⟨1,-1,-1,1⟩,⟨1,3,-1,3⟩]:=by
 have h:=Z1 w (.cells #[.int .i64 1,.int .i64 (-1),.int .i64 (-1),.int .i64 1,.int .i64 1,.int .i64 3,.int .i64 (-1),.int .i64 3] 44)
 exact Zpa (l:=([⟨1,-1,-1,1⟩,⟨1,3,-1,3⟩]:List Hl)) Z2h.len h 2
structure TaE(w:World)(o S n N k:Nat)(C:Ud)(hss:List (List Hq))(L:List Bool)(a b:Nat)(W:World):Prop where
 tab:∃J,Tab W o S n N k C hss L J∧(∀j,J j→w.heap.size≤j)∧∀j,a≤j→j<b→¬J j
 nw:Nw w W
 lt:b≤W.heap.size
def KpA(a b:Nat)(W W':World):Prop:=∀j,a≤j→j<b→W'.heap[j]?=W.heap[j]?
section
variable {w W W':World} {o S n N k:Nat} {C:Ud} {hss hss':List (List Hq)} {L L':List Bool} {a b:Nat}
theorem TaE.step(h:TaE w o S n N k C hss L a b W)(g:Nw W W'):TaE w o S n N k C hss L a b W':=by
 obtain⟨J,h1,h2,h3⟩:=h.tab
 exact⟨⟨J,h1.nw g,h2,h3⟩,h.nw.trans g,Nat.le_trans h.lt g.sz⟩
theorem Zy5{J:Nat→Prop}{k':Nat}(hw:Nw w W)(h2:∀j,J j→w.heap.size≤j)(h3:∀j,a≤j→j<b→¬J j)(hl:b≤W.heap.size)(d:Z2f W o S n N k' C hss' L' J W'):TaE w o S n N k' C hss' L' a b W'∧KpA a b W W':=by
 obtain⟨J',k1,k2,k3⟩:=d
 have hws:=hw.sz
 exact⟨⟨⟨J',k1,fun j e=>(k2 j e).elim (h2 j) (fun q=>by omega),fun j h4 h5 e=>(k2 j e).elim (h3 j h4 h5) (fun q=>by omega)⟩,Yq hw k3 h2,Nat.le_trans hl k3.size⟩,fun j h4 h5=>k3.block j (by omega) (h3 j h4 h5)⟩
theorem Zq0(h:TaE w o S n N k C hss L a b W)(hk:k≤800)(hn:n≤64)(hS:S≤16)(t r txn m i:Int)(g:Bool)(E:Int)(hR:Z0v n hss L t r txn m=(i,g,E)) :
  Calls prog 34 #[.pointer (some ⟨o,0,none⟩),.agg #[.int .i64 t,.int .i64 r],.int .i64 txn,.int .i64 m] W fun e W'=>e=.returned (.tuple #[.int .i64 i,.bool g,.int .i64 E])∧TaE w o S n N (k+1) C (U0 n hss L t r txn m).1 (U0 n hss L t r txn m).2 a b W'∧KpA a b W W':=by
 obtain⟨J,h1,h2,h3⟩:=h.tab
 refine(Zuk h1 hk hn hS t r txn m).mono ?_
 rintro e W' ⟨e1,d⟩
 rw[hR] at e1
 exact⟨e1,Zy5 h.nw h2 h3 h.lt d⟩
theorem Zq1(h:TaE w o S n N k C hss L a b W)(hS:S≤16)(hn:n≤64)(txn:Int):Calls prog 16 #[.pointer (some ⟨o,0,none⟩),.int .i64 txn] W (Vo W (Vc (Ya hss) txn)):=by
 obtain⟨J,h1,_⟩:=h.tab
 exact Zhn h1 hS hn txn
end
theorem Zy4(w W:World)(g:Nw w W)(S n N:Nat)(p:Int)(h:U6 ⟨S,n,N,p⟩):Calls prog 9 #[.agg #[.int .i64 S,.int .i64 n,.int .i64 N,.int .i64 p]] W fun e W'=>∃o,e=.returned (.tuple #[ptN o,.int .i64 0])∧TaE w o S n N 0 ⟨S,n,N,p⟩ (List.replicate S []) (List.replicate N false) 0 0 W':=by
 refine(Zom S n N p h W).mono ?_
 rintro e W' ⟨o,J,e1,h1,g2,h2⟩
 exact⟨o,e1,⟨⟨J,h1,fun j e=>Nat.le_trans g.sz (h2 j e),fun j _ q=>by omega⟩,g.trans g2,Nat.zero_le _⟩⟩
theorem Zb2(W:World):Calls prog 8 #[] W fun e w'=>e=.returned (.bool true)∧Nw W w':=by
 have HW:=hD0 (Nw.refl W)
 go_enter func8,ntmps8
 go_wp2_with fail
 refine(Zlv W).mono ?_
 rintro e w1 ⟨rfl,g1⟩
 have HN:=hD0 (Zy4 W w1 g1 3 4 8 1 (by decide))
 clear g1
 go_wp2_with fail
 refine HN.out.mono ?_
 rintro e w2 ⟨o,rfl,hT⟩
 have H2:=hD0 hT
 clear hT HN
 go_wp2_with fail
 refine(Zv5 3 w2).mono ?_
 rintro e w3 ⟨rfl,g3⟩
 have HA:=hD0 (Zq0 (H2.out.step g3) (by omega) (by omega) (by omega) 3 (-1) 1 3 _ _ _ Zo9)
 clear g3 H2
 go_wp2_with fail
 refine HA.out.mono ?_
 rintro e w4 ⟨rfl,hT,_⟩
 have H4:=hD0 hT
 clear hT HA
 go_wp2_with fail
 refine(Zo4 w4).mono ?_
 rintro e w5 ⟨rfl,g5⟩
 have HA:=hD0 (Zq0 (H4.out.step g5) (by omega) (by omega) (by omega) (-1) (-1) 1 1 _ _ _ Zoa)
 clear g5 H4
 go_wp2_with fail
 refine HA.out.mono ?_
 rintro e w6 ⟨rfl,hT,_⟩
 have hh:=Zq1 hT (by omega) (by omega) 1
 rw[Zsm] at hh
 have HH:=hD0 hh
 have H6:=hD0 hT.nw
 clear hT HA hh
 go_wp2_with fail
 refine HH.out.mono ?_
 rintro e w7 ⟨v,rfl,hl,g7⟩
 obtain⟨v0,v1,v2,hv⟩:∃a b c,v=.slice a b c:=by
  obtain⟨a,c,e,_⟩:=Z05.rd hl
  exact⟨_,_,_,e⟩
 subst hv
 have H7:=hD0 (aI0 (Z05.rd hl) (H6.out.trans g7))
 clear hl g7 HH H6
 go_wp2_with fail
 refine(Zo4 w7).mono ?_
 rintro e w8 ⟨rfl,g8⟩
 have H8:=hD0 (aI0 (H7.out.1.nw g8) (H7.out.2.trans g8))
 clear g8 H7
 go_wp2_with fail
 refine(Zv5 3 w8).mono ?_
 rintro e w9 ⟨rfl,g9⟩
 have gA:Nw w9 (w9.alloc (.cells #[.int .i64 1,.int .i64 (-1),.int .i64 (-1),.int .i64 1,.int .i64 1,.int .i64 3,.int .i64 (-1),.int .i64 3] 44)):=(Nw.refl w9).alloc _
 have HS:=hD0 (Z5j (.slice v0 v1 v2) (.slice (some ⟨w9.heap.size,0,none⟩) 2 2) _ _ (by decide) (H8.out.1.nw (g9.trans gA)) (Zob w9))
 have H9:=hD0 (H8.out.2.trans (g9.trans gA))
 clear g9 gA H8
 go_wp2_with fail
 refine HS.out.mono ?_
 rintro e w10 ⟨rfl,g10⟩
 have HE:=hD0 (H9.out.trans g10)
 clear g10 HS H9
 go_wp2
 go_ret
 exact⟨rfl,HE.out⟩
def Kp(N:Nat)(W W':World):Prop:=∀b,N≤b→b<W.heap.size→W'.heap[b]?=W.heap[b]?
theorem Kp.is{N:Nat}{W W':World}(h:Kp N W W'){g0 e size n:Nat}{v:Value}{xs:List Value}(ho:W.ownsRow g0 e size v n xs)(hv:∀b,v.ownBlock=some b→N≤b):W'.ownsRow g0 e size v n xs:=by
 refine⟨ho.1,?_⟩
 rcases ho.2 with hn | ⟨g,cap,cur,rfl,hb,hgg,rest⟩
 ·exact .inl hn
 ·exact .inr ⟨g,cap,cur,rfl,hb,(h g (hv g rfl) (Array.getElem?_eq_some_iff.1 hgg).1).trans hgg,rest⟩
structure TwR(w:World)(oA oB S n N kA kB:Nat)(C:Ud)(hA:List (List Hq))(LA:List Bool)(hB:List (List Hq))(LB:List Bool)(W:World):Prop where
 tabs:∃JA JB,Tab W oA S n N kA C hA LA JA∧U5 W oB S n N kB C hB LB JB∧(∀j,JA j→w.heap.size≤j)∧(∀j,JB j→w.heap.size≤j)∧∀j,JA j→¬JB j
 nw:Nw w W
structure TwB(M:Nat)(w:World)(oA oB S n N kA kB:Nat)(C:Ud)(hA:List (List Hq))(LA:List Bool)(hB:List (List Hq))(LB:List Bool)(W:World):Prop where
 tabs:∃JA JB,Tab W oA S n N kA C hA LA JA∧U5 W oB S n N kB C hB LB JB∧(∀j,JA j→w.heap.size≤j)∧(∀j,JB j→w.heap.size≤j)∧(∀j,JA j→¬JB j)∧∀j,JB j→j<M
 nw:Nw w W
section
variable {w W W1 W':World} {oA oB S n N kA kB:Nat} {C:Ud} {hA hB:List (List Hq)} {LA LB:List Bool} {M:Nat}
theorem TwR.step(h:TwR w oA oB S n N kA kB C hA LA hB LB W)(g:Nw W W'):TwR w oA oB S n N kA kB C hA LA hB LB W':=by
 obtain⟨JA,JB,h1,h2,h3⟩:=h.tabs
 exact⟨⟨JA,JB,h1.nw g,h2.nw g,h3⟩,h.nw.trans g⟩
theorem TwR.okA(h:TwR w oA oB S n N kA kB C hA LA hB LB W):Y1 S n N kA hA LA:=by
 obtain⟨JA,JB,h1,h2,h3⟩:=h.tabs
 exact h1.ok
theorem TwR.len128(h:TwR w oA oB S n N kA kB C hA LA hB LB W):LA.length≤128:=by
 obtain⟨JA,JB,h1,h2,h3⟩:=h.tabs
 exact h1.len128
theorem Z8g{JA JB:Nat→Prop}{kA':Nat}{hA':List (List Hq)}{LA':List Bool}(h1:Tab W oA S n N kA C hA LA JA)(h2:U5 W oB S n N kB C hB LB JB)(h3:∀j,JA j→w.heap.size≤j)(h4:∀j,JB j→w.heap.size≤j)(h5:∀j,JA j→¬JB j)(hw:Nw w W)(g:Nw W W1)(d:Z2f W1 oA S n N kA' C hA' LA' JA W') :
  TwB W.heap.size w oA oB S n N kA' kB C hA' LA' hB LB W'∧Kp W.heap.size W1 W':=by
 obtain⟨J',k1,k2,k3⟩:=d
 have hs:=hw.sz
 have hg:=g.sz
 exact⟨⟨⟨J',JB,k1,(h2.nw g).tch k3 (fun b e q=>h5 b q e),fun j e=>(k2 j e).elim (h3 j) (fun q=>by omega),h4,fun j e q=>(k2 j e).elim (fun e=>h5 j e q) (fun e=>by have:=h2.lt j q;omega),fun j q=>h2.lt j q⟩,Yq (hw.trans g) k3 h3⟩,fun j q1 q2=>k3.block j q2 (fun e=>by have:=h1.lt j e;omega)⟩
theorem Z8h{JA JB:Nat→Prop}{kB':Nat}{hB':List (List Hq)}{LB':List Bool}(h1:Tab W oA S n N kA C hA LA JA)(h2:U5 W oB S n N kB C hB LB JB)(h3:∀j,JA j→w.heap.size≤j)(h4:∀j,JB j→w.heap.size≤j)(h5:∀j,JA j→¬JB j)(h6:∀j,JB j→j<M)(hw:Nw w W)(d:Vd W oB S n N kB' C hB' LB' JB W') :
  TwR w oA oB S n N kA kB' C hA LA hB' LB' W'∧Kp M W W':=by
 obtain⟨J',k1,k2,k3⟩:=d
 have hs:=hw.sz
 exact⟨⟨⟨JA,J',h1.tch k3 (fun b e q=>h5 b e q),k1,h3,fun j e=>(k2 j e).elim (h4 j) (fun q=>by omega),fun j e q=>(k2 j q).elim (fun q=>h5 j e q) (fun q=>by have:=h1.lt j e;omega)⟩,Yq hw k3 h4⟩,fun j q1 q2=>k3.block j q2 (fun e=>by have:=h6 j e;omega)⟩
theorem Zy7(h:TwR w oA oB S n N kA kB C hA LA hB LB W)(g:Nw W W1)(hk:kA≤800)(hn:n≤64)(hS:S≤16)(t r txn m i:Int)(y:Bool)(E:Int)(hR:Z0v n hA LA t r txn m=(i,y,E)) :
  Calls prog 34 #[.pointer (some ⟨oA,0,none⟩),.agg #[.int .i64 t,.int .i64 r],.int .i64 txn,.int .i64 m] W1 fun e W'=>e=.returned (.tuple #[.int .i64 i,.bool y,.int .i64 E])∧TwB W.heap.size w oA oB S n N (kA+1) kB C (U0 n hA LA t r txn m).1 (U0 n hA LA t r txn m).2 hB LB W'∧Kp W.heap.size W1 W':=by
 obtain⟨JA,JB,h1,h2,h3,h4,h5⟩:=h.tabs
 refine(Zuk (h1.nw g) hk hn hS t r txn m).mono ?_
 rintro e W' ⟨e1,d⟩
 rw[hR] at e1
 exact⟨e1,Z8g h1 h2 h3 h4 h5 h.nw g d⟩
theorem Zu3(h:TwB M w oA oB S n N kA kB C hA LA hB LB W)(hk:kB≤800)(hC:C.s=S)(hn:n≤64)(hS:S≤16)(t r txn m i:Int)(y:Bool)(E:Int)(hR:Z0v n hB LB t r txn m=(i,y,E)) :
  Calls prog 56 #[.pointer (some ⟨oB,0,none⟩),.agg #[.int .i64 t,.int .i64 r],.int .i64 txn,.int .i64 m] W fun e W'=>e=.returned (.tuple #[.int .i64 i,.bool y,.int .i64 E])∧TwR w oA oB S n N kA (kB+1) C hA LA (U0 n hB LB t r txn m).1 (U0 n hB LB t r txn m).2 W'∧Kp M W W':=by
 obtain⟨JA,JB,h1,h2,h3,h4,h5,h6⟩:=h.tabs
 refine(Zyh h2 hC hk hn hS t r txn m).mono ?_
 rintro e W' ⟨e1,d⟩
 rw[hR] at e1
 exact⟨e1,Z8h h1 h2 h3 h4 h5 h6 h.nw d⟩
theorem Zgp(h:TwR w oA oB S n N kA kB C hA LA hB LB W)(g:Nw W W1)(hk:kA≤800)(hn:n≤64)(hS0:0<S)(id x:Int)(hf:Fit id)(y:Bool)(E:Int)(hG:Zbp hA id x=y)(hE:Z3t hA id x=E) :
  Calls prog 48 #[.pointer (some ⟨oA,0,none⟩),.int .i64 id,.int .i64 x] W1 fun e W'=>e=.returned (.tuple #[.bool y,.int .i64 E])∧TwB W.heap.size w oA oB S n N (kA+1) kB C (Z5o hA id x) LA hB LB W'∧Kp W.heap.size W1 W':=by
 obtain⟨JA,JB,h1,h2,h3,h4,h5⟩:=h.tabs
 refine(Zl9 (h1.nw g) hk hn hS0 id x hf).mono ?_
 rintro e W' ⟨e1,d⟩
 rw[hG,hE] at e1
 exact⟨e1,Z8g h1 h2 h3 h4 h5 h.nw g d⟩
theorem Zef(h:TwB M w oA oB S n N kA kB C hA LA hB LB W)(hk:kB≤800)(hS:S≤16)(hS0:0<S)(id x:Int)(y:Bool)(E:Int)(hG:Zbp hB id x=y)(hE:Z3t hB id x=E) :
  Calls prog 49 #[.pointer (some ⟨oB,0,none⟩),.int .i64 id,.int .i64 x] W fun e W'=>e=.returned (.tuple #[.bool y,.int .i64 E])∧TwR w oA oB S n N kA (kB+1) C hA LA (Z5o hB id x) LB W'∧Kp M W W':=by
 obtain⟨JA,JB,h1,h2,h3,h4,h5,h6⟩:=h.tabs
 refine(Zl8 h2 hk hS hS0 id x y E hG hE).mono ?_
 rintro e W' ⟨e1,d⟩
 exact⟨e1,Z8h h1 h2 h3 h4 h5 h6 h.nw d⟩
theorem Zu1(h:TwR w oA oB S n N kA kB C hA LA hB LB W)(g:Nw W W1)(hk:kA≤800)(hn:n≤64)(hS0:0<S)(id x:Int)(hf:Fit id)(E:Int)(hE:Zaq hA id x=E) :
  Calls prog 54 #[.pointer (some ⟨oA,0,none⟩),.int .i64 id,.int .i64 x] W1 fun e W'=>e=.returned (.int .i64 E)∧TwB W.heap.size w oA oB S n N (kA+1) kB C (Z5b hA id x) LA hB LB W'∧Kp W.heap.size W1 W':=by
 obtain⟨JA,JB,h1,h2,h3,h4,h5⟩:=h.tabs
 refine(Zwd (h1.nw g) hk hn hS0 id x hf).mono ?_
 rintro e W' ⟨e1,d⟩
 rw[hE] at e1
 exact⟨e1,Z8g h1 h2 h3 h4 h5 h.nw g d⟩
theorem Zqc(h:TwB M w oA oB S n N kA kB C hA LA hB LB W)(hk:kB≤800)(hS:S≤16)(hS0:0<S)(id x:Int)(E:Int)(hE:Zaq hB id x=E) :
  Calls prog 55 #[.pointer (some ⟨oB,0,none⟩),.int .i64 id,.int .i64 x] W fun e W'=>e=.returned (.int .i64 E)∧TwR w oA oB S n N kA (kB+1) C hA LA (Z5b hB id x) LB W'∧Kp M W W':=by
 obtain⟨JA,JB,h1,h2,h3,h4,h5,h6⟩:=h.tabs
 refine(Zwc h2 hk hS hS0 id x E hE).mono ?_
 rintro e W' ⟨e1,d⟩
 exact⟨e1,Z8h h1 h2 h3 h4 h5 h6 h.nw d⟩
theorem Zqa(h:TwR w oA oB S n N kA kB C hA LA hB LB W)(g:Nw W W1)(hk:kA≤800)(hn:n≤64)(hS0:0<S)(id:Int)(hf:Fit id)(E:Int)(hE:(Z4e hA id).2=E) :
  Calls prog 35 #[.pointer (some ⟨oA,0,none⟩),.int .i64 id] W1 fun e W'=>∃vi,e=.returned (.tuple #[vi,.int .i64 E])∧IS W' vi (Z4e hA id).1∧(∀b,vi.ownBlock=some b→W1.heap.size≤b)∧TwB W.heap.size w oA oB S n N (kA+1) kB C (Z2c hA LA id).1 (Z2c hA LA id).2 hB LB W'∧Kp W.heap.size W1 W':=by
 obtain⟨JA,JB,h1,h2,h3,h4,h5⟩:=h.tabs
 refine(Zsh (h1.nw g) hk hn hS0 id hf).mono ?_
 rintro e W' ⟨vi,e1,hi,d,hv⟩
 rw[hE] at e1
 exact⟨vi,e1,hi,hv,Z8g h1 h2 h3 h4 h5 h.nw g d⟩
theorem Zl4(h:TwB M w oA oB S n N kA kB C hA LA hB LB W)(hk:kB≤800)(hS:S≤16)(hS0:0<S)(id:Int)(E:Int)(hE:(Z4e hB id).2=E) :
  Calls prog 50 #[.pointer (some ⟨oB,0,none⟩),.int .i64 id] W fun e W'=>∃vi,e=.returned (.tuple #[vi,.int .i64 E])∧IS W' vi (Z4e hB id).1∧TwR w oA oB S n N kA (kB+1) C hA LA (Z2c hB LB id).1 (Z2c hB LB id).2 W'∧Kp M W W':=by
 obtain⟨JA,JB,h1,h2,h3,h4,h5,h6⟩:=h.tabs
 refine(Zsg h2 hk hS hS0 id E hE).mono ?_
 rintro e W' ⟨vi,e1,hi,d⟩
 exact⟨vi,e1,hi,Z8h h1 h2 h3 h4 h5 h6 h.nw d⟩
theorem Zgm(h:TwR w oA oB S n N kA kB C hA LA hB LB W)(g:Nw W W1)(hk:kA≤800)(hn:n≤64)(hS0:0<S)(id:Int)(hf:Fit id)(E:Int)(hE:(Z3w hA id).2=E) :
  Calls prog 52 #[.pointer (some ⟨oA,0,none⟩),.int .i64 id] W1 fun e W'=>∃vi,e=.returned (.tuple #[vi,.int .i64 E])∧IS W' vi (Z3w hA id).1∧(∀b,vi.ownBlock=some b→W1.heap.size≤b)∧TwB W.heap.size w oA oB S n N (kA+1) kB C (Z2a hA LA id).1 (Z2a hA LA id).2 hB LB W'∧Kp W.heap.size W1 W':=by
 obtain⟨JA,JB,h1,h2,h3,h4,h5⟩:=h.tabs
 refine(Zj7 (h1.nw g) hk hn hS0 id hf).mono ?_
 rintro e W' ⟨vi,e1,hi,d,hv⟩
 rw[hE] at e1
 exact⟨vi,e1,hi,hv,Z8g h1 h2 h3 h4 h5 h.nw g d⟩
theorem Zee(h:TwB M w oA oB S n N kA kB C hA LA hB LB W)(hk:kB≤800)(hS:S≤16)(hS0:0<S)(id:Int)(E:Int)(hE:(Z3w hB id).2=E) :
  Calls prog 53 #[.pointer (some ⟨oB,0,none⟩),.int .i64 id] W fun e W'=>∃vi,e=.returned (.tuple #[vi,.int .i64 E])∧IS W' vi (Z3w hB id).1∧TwR w oA oB S n N kA (kB+1) C hA LA (Z2a hB LB id).1 (Z2a hB LB id).2 W'∧Kp M W W':=by
 obtain⟨JA,JB,h1,h2,h3,h4,h5,h6⟩:=h.tabs
 refine(Zj6 h2 hk hS hS0 id E hE).mono ?_
 rintro e W' ⟨vi,e1,hi,d⟩
 exact⟨vi,e1,hi,Z8h h1 h2 h3 h4 h5 h6 h.nw d⟩
theorem Y1.flat1024{hss:List (List Hq)}{L:List Bool}{k:Nat}(ok:Y1 S n N k hss L)(hS:S≤16)(hn:n≤64):hss.flatten.length≤1024:=by
 have:=Ui (fun l hl=>Nat.le_trans (ok.inv.part l hl).len hn) (by rw[ok.sl];exact hS) hss.length
 rwa [List.take_length] at this
theorem Y1.snap1024{hss:List (List Hq)}{L:List Bool}{k:Nat}(ok:Y1 S n N k hss L)(hS:S≤16)(hn:n≤64):(Ya hss).length≤1024:=by
 rw[ok.snap_srt.2.length_eq]
 exact ok.flat1024 hS hn
theorem Y1.sum128{hss:List (List Hq)}{L:List Bool}{k:Nat}(ok:Y1 S n N k hss L)(hL:L.length≤128):((Ya hss).map fun h=>h.q.length).sum≤128:=by
 rw[(ok.snap_srt.2.map fun h=>h.q.length).sum_nat,Zch,ok.inv.count]
 exact Nat.le_trans List.countP_le_length hL
theorem Zsj:∀s:List Hq,(∀h∈s,h.q≠[])→s.length≤(s.map fun h=>h.q.length).sum:=by
 intro s
 induction s with
 | nil=>intro _;simp
 | cons a t ih =>
  intro h
  have h1:=ih fun x hx=>h x (List.mem_cons_of_mem _ hx)
  have h2:=List.length_pos_iff.2 (h a (by simp))
  rw[List.length_cons,List.map_cons,List.sum_cons]
  omega
theorem Y1.snap128{hss:List (List Hq)}{L:List Bool}{k:Nat}(ok:Y1 S n N k hss L)(hL:L.length≤128):(Ya hss).length≤128:=by
 refine Nat.le_trans (Zsj _ fun h hh=>?_) (ok.sum128 hL)
 obtain⟨l,hl,h2⟩:=List.mem_flatten.1 (ok.snap_srt.2.mem_iff.1 hh)
 exact(ok.inv.part l hl).ne _ h2
theorem Zmp:∀s:List Hq,(Z09 s).length≤(s.map fun h=>h.q.length).sum:=by
 intro s
 induction s with
 | nil=>simp[Z09]
 | cons a t ih =>
  have e:Z09 (a::t)=((a.q.filter fun r=>!(r.md==0)).map fun r=>⟨r.txn,a.t,a.r,r.md⟩)++Z09 t:=rfl
  rw[e,List.length_append,List.length_map,List.map_cons,List.sum_cons]
  have:=List.length_filter_le (fun r=>!(r.md==0)) a.q
  omega
theorem Y1.all128{hss:List (List Hq)}{L:List Bool}{k:Nat}(ok:Y1 S n N k hss L)(hL:L.length≤128):(Z2b (Ya hss)).length≤128:=by
 rw[(Zc0 ok.snap_srt.1 ok.snap_ok).length_eq]
 exact Nat.le_trans (Zmp _) (ok.sum128 hL)
theorem Zkr{hss:List (List Hq)}{L:List Bool}{J:Nat→Prop}{o k:Nat}(h:U5 W o S n N k C hss L J)(hC:C.s=S)(t r:Int):Calls prog 21 #[.pointer (some ⟨o,0,none⟩),.agg #[.int .i64 t,.int .i64 r]] W fun e W'=>e=.returned (.int .i64 (ofS t r S))∧Nw W W':=by
 obtain⟨bb,cp,po,pg,bs,hm,_⟩:=h
 have:=Z5l hm t r
 rw[hC] at this
 exact this
theorem Zu5(h:TwR w oA oB S n N kA kB C hA LA hB LB W)(hS:S≤16)(hn:n≤64) :Calls prog 13 #[.pointer (some ⟨oA,0,none⟩)] W (Vn W (Ya hA)):=by
 obtain⟨JA,JB,h1,h2,h3,h4,h5⟩:=h.tabs
 exact Zgj h1 hS hn
theorem Zqd(h:TwR w oA oB S n N kA kB C hA LA hB LB W)(hS:S≤16)(hn:n≤64) :Calls prog 14 #[.pointer (some ⟨oB,0,none⟩)] W (Vn W (Ya hB)):=by
 obtain⟨JA,JB,h1,h2,h3,h4,h5⟩:=h.tabs
 exact Z3s h2 hS hn
theorem Zy6(h:TwR w oA oB S n N kA kB C hA LA hB LB W)(hS:S≤16)(hn:n≤64) :Calls prog 18 #[.pointer (some ⟨oA,0,none⟩)] W (Vo W (Z2b (Ya hA))):=by
 obtain⟨JA,JB,h1,h2,h3,h4,h5⟩:=h.tabs
 exact Zyf h1 hS hn
theorem Zq9(h:TwR w oA oB S n N kA kB C hA LA hB LB W)(hS:S≤16)(hn:n≤64)(txn:Int):Calls prog 16 #[.pointer (some ⟨oA,0,none⟩),.int .i64 txn] W (Vo W (Vc (Ya hA) txn)):=by
 obtain⟨JA,JB,h1,h2,h3,h4,h5⟩:=h.tabs
 exact Zhn h1 hS hn txn
theorem Zl5(h:TwR w oA oB S n N kA kB C hA LA hB LB W)(t r:Int):Calls prog 20 #[.pointer (some ⟨oA,0,none⟩),.agg #[.int .i64 t,.int .i64 r]] W (fun e W'=>e=.returned (.int .i64 (ofS t r S))∧Nw W W'):=by
 obtain⟨JA,JB,h1,h2,h3,h4,h5⟩:=h.tabs
 exact Zpr h1 t r
theorem Zgo(h:TwR w oA oB S n N kA kB C hA LA hB LB W)(hC:C.s=S)(t r:Int):Calls prog 21 #[.pointer (some ⟨oB,0,none⟩),.agg #[.int .i64 t,.int .i64 r]] W (fun e W'=>e=.returned (.int .i64 (ofS t r S))∧Nw W W'):=by
 obtain⟨JA,JB,h1,h2,h3,h4,h5⟩:=h.tabs
 exact Zkr h2 hC t r
theorem Zl2(h:TwR w oA oB S n N kA kB C hA LA hB LB W)(hS:S≤16)(hn:n≤64) :Calls prog 26 #[.pointer (some ⟨oA,0,none⟩)] W (fun e W'=>e=.returned (.tuple #[.int .i64 (Z15 hA),.int .i64 (liv LA)])∧Nw W W'):=by
 obtain⟨JA,JB,h1,h2,h3,h4,h5⟩:=h.tabs
 exact Zm4 h1 hS hn
theorem Zgn(h:TwR w oA oB S n N kA kB C hA LA hB LB W)(hS:S≤16)(hn:n≤64) :Calls prog 27 #[.pointer (some ⟨oB,0,none⟩)] W (fun e W'=>e=.returned (.tuple #[.int .i64 (Z15 hB),.int .i64 (liv LB)])∧Nw W W'):=by
 obtain⟨JA,JB,h1,h2,h3,h4,h5⟩:=h.tabs
 exact Zm3 h2 hS hn
theorem Ztz(h:TwR w oA oB S n N kA kB C hA LA hB LB W)  :Calls prog 28 #[.pointer (some ⟨oA,0,none⟩)] W (fun e W'=>e=.returned (Zev C)∧Nw W W'):=by
 obtain⟨JA,JB,h1,h2,h3,h4,h5⟩:=h.tabs
 exact Zvr h1
theorem Zy8(h:TwR w oA oB S n N kA kB C hA LA hB LB W)(hS0:0<S)(id:Int)(hf:Fit id)(t r b0 b1 b2 b3 b4:Int)(y:Bool)(hR:Z5w hA id=(t,r,⟨b0,b1,b2,b3,b4⟩,y)):Calls prog 22 #[.pointer (some ⟨oA,0,none⟩),.int .i64 id] W (fun e W'=>e=.returned (.tuple #[.agg #[.int .i64 t,.int .i64 r],.agg #[.int .i64 b0,.int .i64 b1,.int .i64 b2,.int .i64 b3,.int .i64 b4],.bool y])∧Nw W W'):=by
 obtain⟨JA,JB,h1,h2,h3,h4,h5⟩:=h.tabs
 exact Zys h1 hS0 id hf t r b0 b1 b2 b3 b4 y hR
theorem Zu4(h:TwR w oA oB S n N kA kB C hA LA hB LB W)(hS:S≤16)(id:Int)(t r b0 b1 b2 b3 b4:Int)(y:Bool)(hR:Z5w hB id=(t,r,⟨b0,b1,b2,b3,b4⟩,y)):Calls prog 23 #[.pointer (some ⟨oB,0,none⟩),.int .i64 id] W (fun e W'=>e=.returned (.tuple #[.agg #[.int .i64 t,.int .i64 r],.agg #[.int .i64 b0,.int .i64 b1,.int .i64 b2,.int .i64 b3,.int .i64 b4],.bool y])∧Nw W W'):=by
 obtain⟨JA,JB,h1,h2,h3,h4,h5⟩:=h.tabs
 exact Zyr h2 hS id t r b0 b1 b2 b3 b4 y hR
theorem Zu0(h:TwR w oA oB S n N kA kB C hA LA hB LB W)(t r txn i:Int)(y:Bool)(hR:Z7i hA t r txn=(i,y)):Calls prog 24 #[.pointer (some ⟨oA,0,none⟩),.agg #[.int .i64 t,.int .i64 r],.int .i64 txn] W (fun e W'=>e=.returned (.tuple #[.int .i64 i,.bool y])∧Nw W W'):=by
 obtain⟨JA,JB,h1,h2,h3,h4,h5⟩:=h.tabs
 exact Zw8 h1 t r txn i y hR
theorem Zqb(h:TwR w oA oB S n N kA kB C hA LA hB LB W)(hC:C.s=S)(t r txn i:Int)(y:Bool)(hR:Z7i hB t r txn=(i,y)):Calls prog 25 #[.pointer (some ⟨oB,0,none⟩),.agg #[.int .i64 t,.int .i64 r],.int .i64 txn] W (fun e W'=>e=.returned (.tuple #[.int .i64 i,.bool y])∧Nw W W'):=by
 obtain⟨JA,JB,h1,h2,h3,h4,h5⟩:=h.tabs
 exact Zw7 h2 hC t r txn i y hR
theorem Zl3(h:TwR w oA oB S n N kA kB C hA LA hB LB W)(hS:S≤16)(hn:n≤64)(txn:Int):Calls prog 17 #[.pointer (some ⟨oB,0,none⟩),.int .i64 txn] W (Vo W (Vc (Ya hB) txn)):=by
 obtain⟨JA,JB,h1,h2,h3,h4,h5⟩:=h.tabs
 exact Z7l (h2.ok.snap1024 hS hn) (Z3s h2 hS hn) txn
theorem Zu2(h:TwR w oA oB S n N kA kB C hA LA hA LA W)(hS:S≤16)(hn:n≤64):Calls prog 19 #[.pointer (some ⟨oB,0,none⟩)] W (Vo W (Z2b (Ya hA))):=by
 obtain⟨JA,JB,h1,h2,h3,h4,h5⟩:=h.tabs
 have hl:=h1.len128
 exact Zle (h2.ok.snap1024 hS hn) (h2.ok.sum128 hl) (h2.ok.all128 hl) (fun y g=>Z3s (h2.nw g) hS hn)
end
namespace tableScript
def Fld(pb:Nat)(a3 a4:Int)(y:World):Prop:=y.cell? ⟨pb,3,none⟩=some (.int .i64 a3)∧y.cell? ⟨pb,4,none⟩=some (.int .i64 a4)
theorem kpt{N:Nat}{a b c:World}(h:Kp N a b)(k:Kp N b c):Kp N a c:=fun j h1 h2=>by
 have e:=h j h1 h2
 have hj:j<b.heap.size:=by
  rw[Array.getElem?_eq_getElem h2] at e
  exact(Array.getElem?_eq_some_iff.1 e).1
 exact(k j h1 hj).trans e
theorem kpn{N:Nat}{a b c:World}(g:Nw a b)(k:Kp N b c):Kp N a c:=fun j h1 h2=>(k j h1 (lL0 h2 g.sz)).trans (g.block j h2)
theorem kpw{N:Nat}{a b c:World}(k:Kp N a b)(g:Nw b c):Kp N a c:=kpt k fun j _ h2=>g.block j h2
def Zj3(N0:Nat)(w:World)(oA oB S n N k:Nat)(C:Ud)(W:World)(e:Ending)(W':World):Prop:=e=.returned (.bool true)∧Kp N0 W W'∧∃hss L,TwR w oA oB S n N k k C hss L hss L W'
theorem Zxr{w W0 W:World}{oA oB S n N k:Nat}{C:Ud}{hss:List (List Hq)}{L:List Bool}(h:TwR w oA oB S n N k k C hss L hss L W0)(g0:Nw W0 W)(hC:C.s=S)(hk:k≤800)(hn:n≤64)(hS:S≤16)(hS0:0<S)(a0 a1 a2 a3 a4 a5:Int)(hf:Fit a3) :
  Calls prog 11 #[.pointer (some ⟨oA,0,none⟩),.pointer (some ⟨oB,0,none⟩),.agg #[.int .i64 a0,.int .i64 a1,.int .i64 a2,.int .i64 a3,.int .i64 a4,.int .i64 a5]] W (Zj3 W0.heap.size w oA oB S n N (k+1) C W):=by
 have g1:Nw W (W.alloc (.cells #[.int .i64 a0,.int .i64 a1,.int .i64 a2,.int .i64 a3,.int .i64 a4,.int .i64 a5] 37)):=(Nw.refl W).alloc _
 have hal:=Z1 W (.cells #[.int .i64 a0,.int .i64 a1,.int .i64 a2,.int .i64 a3,.int .i64 a4,.int .i64 a5] 37)
 obtain⟨z,hz⟩:∃z,W.alloc (.cells #[.int .i64 a0,.int .i64 a1,.int .i64 a2,.int .i64 a3,.int .i64 a4,.int .i64 a5] 37)=z:=⟨_,rfl⟩
 rw[hz] at g1 hal
 have HZ:=hD0 hz
 have gz:=g0.trans g1
 obtain⟨⟨i,y,E⟩,hA⟩:∃q,Z0v n hss L a1 a2 a4 a5=q:=⟨_,rfl⟩
 have HA:=hD0 (Zy7 h gz hk hn hS a1 a2 a4 a5 i y E hA)
 have HAr:=hD0 (fun M X hA' LA' kA (hb:TwB M w oA oB S n N kA k C hA' LA' hss L X)=>Zu3 hb hk hC hn hS a1 a2 a4 a5 i y E hA)
 have HU:=hD0 (Zgp h gz hk hn hS0 a3 a5 hf _ _ rfl rfl)
 have HUr:=hD0 (fun M X hA' LA' kA (hb:TwB M w oA oB S n N kA k C hA' LA' hss L X)=>Zef hb hk hS hS0 a3 a5 _ _ rfl rfl)
 have HL:=hD0 (Zqa h gz hk hn hS0 a3 hf _ rfl)
 have HLr:=hD0 (fun M X hA' LA' kA (hb:TwB M w oA oB S n N kA k C hA' LA' hss L X)=>Zl4 hb hk hS hS0 a3 _ rfl)
 have HB:=hD0 (Zgm h gz hk hn hS0 a3 hf _ rfl)
 have HBr:=hD0 (fun M X hA' LA' kA (hb:TwB M w oA oB S n N kA k C hA' LA' hss L X)=>Zee hb hk hS hS0 a3 _ rfl)
 have HH:=hD0 (fun y (gy:Nw z y)=>Zu1 h (gz.trans gy) hk hn hS0 a3 a4 hf _ rfl)
 have HHr:=hD0 (fun M X hA' LA' kA (hb:TwB M w oA oB S n N kA k C hA' LA' hss L X)=>Zqc hb hk hS hS0 a3 a4 _ rfl)
 obtain⟨pb,hpb⟩:∃pb,W.heap.size=pb:=⟨_,rfl⟩
 have hNp:W0.heap.size≤pb:=by rw[←hpb];exact g0.sz
 rw[hpb] at hal
 have c0:=Z0 (j:=0) hal
 have c1:=Z0 (j:=1) hal
 have c2:=Z0 (j:=2) hal
 have c3:=Z0 (j:=3) hal
 have c4:=Z0 (j:=4) hal
 have c5:=Z0 (j:=5) hal
 have cl:=hlt hal
 have HPb:=hD0 hpb
 have HP:=hD0 (Zot a0 6 z (by omega) (by omega))
 obtain⟨x,hx⟩:∃x,a0%6=x:=⟨_,rfl⟩
 rw[hx] at HP
 have HKp:=hD0 (fun(y:World) (q:Kp W0.heap.size z y)=>(q pb hNp cl).trans hal)
 have HFin:=hD0 (fun(y y':World) (q:Kp W0.heap.size z y) (q2:Kp W0.heap.size y y')=>kpn g1 (kpt q q2))
 have HF0:=hD0 (show Fld pb a3 a4 z from⟨(Z0 (j:=3) hal).trans rfl,(Z0 (j:=4) hal).trans rfl⟩)
 have HV0:=hD0 (show W0.heap.size≤z.heap.size from gz.sz)
 clear hz g0 g1 gz hal h hA hf hx hk hn hS hS0 hC hpb hNp
 generalize Zbp hss a3 a5=ug at *
 generalize Z3t hss a3 a5=ue at *
 generalize Zaq hss a3 a4=he at *
 obtain⟨d2,e2⟩:∃d,(x==2)=d:=⟨_,rfl⟩
 obtain⟨d3,e3⟩:∃d,(x==3)=d:=⟨_,rfl⟩
 obtain⟨d4,e4⟩:∃d,(x==4)=d:=⟨_,rfl⟩
 obtain⟨d5,e5⟩:∃d,(x==5)=d:=⟨_,rfl⟩
 go_enter func11,ntmps11
 go_wp2_with fail
 rw[HZ.out,HPb.out]
 refine HP.out.mono ?_
 rintro e z' ⟨rfl,rfl⟩
 cases d2
 ·cases d3
  ·cases d4
   ·cases d5
    ·skip
     go_wp2_with fail
     refine HA.out.mono ?_
     rintro e y0 ⟨rfl,hb,kp⟩
     have hbx:=HKp.out y0 kp
     clear c0 c1 c2 c3 c4 c5 cl
     have c0:=Z0 (j:=0) hbx
     have c1:=Z0 (j:=1) hbx
     have c2:=Z0 (j:=2) hbx
     have c3:=Z0 (j:=3) hbx
     have c4:=Z0 (j:=4) hbx
     have c5:=Z0 (j:=5) hbx
     have cl:=hlt hbx
     have HR:=hD0 (HAr.out _ _ _ _ _ hb)
     have HK0:=hD0 kp
     clear hb kp hbx HA HU HL HB HH HP HAr HUr HLr HBr HHr
     go_wp2_with fail
     refine HR.out.mono ?_
     rintro e y2 ⟨rfl,hs2,kp2⟩
     have HE:=hD0 (show Zj3 W0.heap.size w oA oB S n N (k+1) C W (.returned (.bool true)) y2 from⟨rfl,HFin.out _ _ HK0.out kp2,_,_,hs2⟩)
     clear hs2 kp2 HR HK0 HFin c0 c1 c2 c3 c4 c5 cl
     go_wp2
     go_ret
     exact HE.out
    ·go_upto_region 15 with fail
     have hS0:Fld pb a3 a4 z.drew:=HF0.out
     have q1:∀x,Fld pb a3 a4 x→x.cell? ⟨pb,3,none⟩=some (.int .i64 a3):=fun x h=>h.1
     have q2:∀x,Fld pb a3 a4 x→x.cell? ⟨pb,4,none⟩=some (.int .i64 a4):=fun x h=>h.2
     have HHd:=hD0 (HH.out z.drew (Nw.refl z).dr)
     have HKd:=hD0 (fun(y:World) (q:Kp W0.heap.size z.drew y)=>(show Fld pb a3 a4 y by
      have hbx:=HKp.out y q
      exact⟨(Z0 (j:=3) hbx).trans rfl,(Z0 (j:=4) hbx).trans rfl⟩))
     have HKe:=hD0 (fun(y y2:World) (q:Kp W0.heap.size z.drew y) (q2:Kp W0.heap.size y y2)=>(show Fld pb a3 a4 y2 by
      have hbx:=HKp.out y2 (kpt q q2)
      exact⟨(Z0 (j:=3) hbx).trans rfl,(Z0 (j:=4) hbx).trans rfl⟩))
     have HFd:=hD0 (fun(y y2:World) (q:Kp W0.heap.size z.drew y) (q2:Kp W0.heap.size y y2)=>HFin.out y y2 q q2)
     clear c0 c1 c2 c3 c4 c5 cl HA HU HL HB HH HP HKp HAr HUr HLr HBr HFin
     generalize Z5b hss a3 a4=H9 at *
     go_wp2_with fail
     refine Z8 [some true,some true,some true,some true,some true,some false,some true,some true,some true,some true,some true,none,some false,none,some true,some true] (Fld pb a3 a4) (by kernel_rfl) (by kernel_rfl) (by kernel_rfl) hS0 ?_
     obtain⟨zd,hzd⟩:∃zd,z.drew=zd:=⟨_,rfl⟩
     rw[hzd] at HHd HKd HKe HFd ⊢
     clear hzd hS0
     iterate 5 (refine HW.take' ?_;(apply Exists.intro;refine⟨Or.inl ⟨by rfl,?_⟩,?_⟩;(intro x hx;go_simp;first | done | with_reducible rfl));(try simp only[Act.put,List.setIfInBounds_toArray,List.set_cons_zero,List.set_cons_succ]))
     refine HW.off ?_
     iterate 5 (refine HW.take' ?_;(apply Exists.intro;refine⟨Or.inl ⟨by rfl,?_⟩,?_⟩;(intro x hx;go_simp;first | done | with_reducible rfl));(try simp only[Act.put,List.setIfInBounds_toArray,List.set_cons_zero,List.set_cons_succ]))
     refine HW.go (fun K hK=>?_)
     go_simp
     go_at_call 54
     refine HHd.out.mono ?_
     rintro e y0 ⟨rfl,hb,kp⟩
     refine hK.out _ _ (HKd.out y0 kp) ?_
     intro _
     clear hK K
     have HR:=hD0 (HHr.out _ _ _ _ _ hb)
     have HFk:=hD0 (fun y2 (q:Kp W0.heap.size y0 y2)=>aI0 (HKe.out y0 y2 kp q) (HFd.out y0 y2 kp q))
     clear hb kp HHd HHr HKd HKe HFd
     (try simp only[Act.put,List.setIfInBounds_toArray,List.set_cons_zero,List.set_cons_succ])
     refine HW.off ?_
     refine HW.go (fun K hK=>?_)
     go_simp
     go_at_call 55
     refine HR.out.mono ?_
     rintro e y2 ⟨rfl,hs2,kp2⟩
     refine hK.out _ _ ?_ ?_
     ·exact(HFk.out y2 kp2).1
     intro _
     clear hK K
     have HE:=hD0 (show Zj3 W0.heap.size w oA oB S n N (k+1) C W (.returned (.bool true)) y2 from⟨rfl,(HFk.out y2 kp2).2,_,_,hs2⟩)
     clear hs2 HR kp2 HFk
     (try simp only[Act.put,List.setIfInBounds_toArray,List.set_cons_zero,List.set_cons_succ])
     iterate 2 (refine HW.take' ?_;(apply Exists.intro;refine⟨Or.inl ⟨by rfl,?_⟩,?_⟩;(intro x hx;go_simp;first | done | with_reducible rfl));(try simp only[Act.put,List.setIfInBounds_toArray,List.set_cons_zero,List.set_cons_succ]))
     refine HW.end_ ?_
     refine NoPanic.normal ?_
     go_wp2
     go_ret
     exact HE.out
   ·skip
    go_wp2_with fail
    refine HB.out.mono ?_
    rintro e y0 ⟨vi,rfl,his,hvi,hb,kp⟩
    have hbx:=HKp.out y0 kp
    clear c0 c1 c2 c3 c4 c5 cl
    have c0:=Z0 (j:=0) hbx
    have c1:=Z0 (j:=1) hbx
    have c2:=Z0 (j:=2) hbx
    have c3:=Z0 (j:=3) hbx
    have c4:=Z0 (j:=4) hbx
    have c5:=Z0 (j:=5) hbx
    have cl:=hlt hbx
    have HR:=hD0 (HBr.out _ _ _ _ _ hb)
    have HK0:=hD0 kp
    have HV:=hD0 (aI0 his (fun b e=>Nat.le_trans HV0.out (hvi b e)))
    obtain⟨s0,s1,s2,hsv⟩:∃a b c,vi=.slice a b c:=by
     rcases Y7 his with⟨e,_⟩ | ⟨_,_,e⟩
     ·exact⟨_,_,_,e⟩
     ·exact⟨_,_,_,e⟩
    subst hsv
    clear hb kp hbx HA HU HL HB HH HP HAr HUr HLr HBr HHr his hvi
    go_wp2_with fail
    refine HR.out.mono ?_
    rintro e y2 ⟨vj,rfl,hj,hs2,kp2⟩
    obtain⟨t0,t1,t2,htv⟩:∃a b c,vj=.slice a b c:=by
     rcases Y7 hj with⟨e,_⟩ | ⟨_,_,e⟩
     ·exact⟨_,_,_,e⟩
     ·exact⟨_,_,_,e⟩
    subst htv
    have HE:=hD0 (aI0 hs2 (HFin.out _ _ HK0.out kp2))
    have HS:=hD0 (Zdy y2 _ _ _ (kp2.is HV.out.1 HV.out.2) hj)
    clear hs2 kp2 hj HR HV HK0 HFin c0 c1 c2 c3 c4 c5 cl
    go_wp2_with fail
    refine HS.out.mono ?_
    rintro e y3 ⟨rfl,g3⟩
    have HE3:=hD0 (show Zj3 W0.heap.size w oA oB S n N (k+1) C W (.returned (.bool true)) y3 from⟨rfl,kpw HE.out.2 g3,_,_,HE.out.1.step g3⟩)
    clear g3 HS HE
    go_wp2
    go_ret
    exact HE3.out
  ·skip
   go_wp2_with fail
   refine HL.out.mono ?_
   rintro e y0 ⟨vi,rfl,his,hvi,hb,kp⟩
   have hbx:=HKp.out y0 kp
   clear c0 c1 c2 c3 c4 c5 cl
   have c0:=Z0 (j:=0) hbx
   have c1:=Z0 (j:=1) hbx
   have c2:=Z0 (j:=2) hbx
   have c3:=Z0 (j:=3) hbx
   have c4:=Z0 (j:=4) hbx
   have c5:=Z0 (j:=5) hbx
   have cl:=hlt hbx
   have HR:=hD0 (HLr.out _ _ _ _ _ hb)
   have HK0:=hD0 kp
   have HV:=hD0 (aI0 his (fun b e=>Nat.le_trans HV0.out (hvi b e)))
   obtain⟨s0,s1,s2,hsv⟩:∃a b c,vi=.slice a b c:=by
    rcases Y7 his with⟨e,_⟩ | ⟨_,_,e⟩
    ·exact⟨_,_,_,e⟩
    ·exact⟨_,_,_,e⟩
   subst hsv
   clear hb kp hbx HA HU HL HB HH HP HAr HUr HLr HBr HHr his hvi
   go_wp2_with fail
   refine HR.out.mono ?_
   rintro e y2 ⟨vj,rfl,hj,hs2,kp2⟩
   obtain⟨t0,t1,t2,htv⟩:∃a b c,vj=.slice a b c:=by
    rcases Y7 hj with⟨e,_⟩ | ⟨_,_,e⟩
    ·exact⟨_,_,_,e⟩
    ·exact⟨_,_,_,e⟩
   subst htv
   have HE:=hD0 (aI0 hs2 (HFin.out _ _ HK0.out kp2))
   have HS:=hD0 (Zdy y2 _ _ _ (kp2.is HV.out.1 HV.out.2) hj)
   clear hs2 kp2 hj HR HV HK0 HFin c0 c1 c2 c3 c4 c5 cl
   go_wp2_with fail
   refine HS.out.mono ?_
   rintro e y3 ⟨rfl,g3⟩
   have HE3:=hD0 (show Zj3 W0.heap.size w oA oB S n N (k+1) C W (.returned (.bool true)) y3 from⟨rfl,kpw HE.out.2 g3,_,_,HE.out.1.step g3⟩)
   clear g3 HS HE
   go_wp2
   go_ret
   exact HE3.out
 ·skip
  go_wp2_with fail
  refine HU.out.mono ?_
  rintro e y0 ⟨rfl,hb,kp⟩
  have hbx:=HKp.out y0 kp
  clear c0 c1 c2 c3 c4 c5 cl
  have c0:=Z0 (j:=0) hbx
  have c1:=Z0 (j:=1) hbx
  have c2:=Z0 (j:=2) hbx
  have c3:=Z0 (j:=3) hbx
  have c4:=Z0 (j:=4) hbx
  have c5:=Z0 (j:=5) hbx
  have cl:=hlt hbx
  have HR:=hD0 (HUr.out _ _ _ _ _ hb)
  have HK0:=hD0 kp
  clear hb kp hbx HA HU HL HB HH HP HAr HUr HLr HBr HHr
  go_wp2_with fail
  refine HR.out.mono ?_
  rintro e y2 ⟨rfl,hs2,kp2⟩
  have HE:=hD0 (show Zj3 W0.heap.size w oA oB S n N (k+1) C W (.returned (.bool true)) y2 from⟨rfl,HFin.out _ _ HK0.out kp2,_,_,hs2⟩)
  clear hs2 kp2 HR HK0 HFin c0 c1 c2 c3 c4 c5 cl
  go_wp2
  go_ret
  exact HE.out
end tableScript
end Go.Proofs.YtpffldfpabglbaaGreatDoor
