/- Texts merged: TdP, TdQ -/
import Derived.Test.YtpffldfpabglbaaGreatDoorTableScriptB23
set_option linter.unusedVariables false
set_option maxRecDepth 100000
set_option maxHeartbeats 16000000
namespace Go.Proofs.YtpffldfpabglbaaGreatDoor
open Go.RowKit _root_.Go.Proofs.Tryz
open Go.Shelf
namespace tableScript
theorem nx1(k:Nat):(k:Int)+1=((k+1:Nat):Int):=rfl
theorem Zym(a b:Nat)(h:b<a):a-(intOf (.int .i64 ((b:Int)+1))).toNat<a-(intOf (.int .i64 (b:Int))).toNat:=by
 show a-((b:Int)+1).toNat<a-(b:Int).toNat
 omega
theorem wrS{k n:Nat}(h:k<n)(hn:n≤50):wrap64 ((k:Int)+1)=(k:Int)+1∧(k:Int)<(n:Int)∧k≤800:=by unfold wrap64;omega
theorem Zqe(w W W':World)(hw:Nw w W){oA oB S n N:Nat}{p:Int}{JA JB:Nat→Prop}(hA:Tab W oA S n N 0 ⟨S,n,N,p⟩ (List.replicate S []) (List.replicate N false) JA)(h1:∀j,JA j→w.heap.size≤j)(g:Nw W W')(hB:U5 W' oB S n N 0 ⟨S,n,N,p⟩ (List.replicate S []) (List.replicate N false) JB)(h2:∀j,JB j→W.heap.size≤j) :
  TwR w oA oB S n N 0 0 ⟨S,n,N,p⟩ (List.replicate S []) (List.replicate N false) (List.replicate S []) (List.replicate N false) W' :=
 ⟨⟨JA,JB,hA.nw g,hB,h1,fun j e=>Nat.le_trans hw.sz (h2 j e),fun j e q=>by have:=hA.lt j e;have:=h2 j q;omega⟩,hw.trans g⟩
theorem Zn4{w:World}{o:Nat}{v:Value}{hs:List Hq}(h:Yl w o v hs):∃a b c,v=.slice a b c:=by
 obtain⟨lm,ho,_⟩:=h
 rcases Y7 ho with⟨e,_⟩ | ⟨_,_,e⟩
 ·exact⟨_,_,_,e⟩
 ·exact⟨_,_,_,e⟩
theorem Zhm{w:World}{g:Nat}{v:Value}{l:List Hl}(h:Z05 w g v l):∃a b c,v=.slice a b c:=by
 rcases Y7 h with⟨e,_⟩ | ⟨_,_,e⟩
 ·exact⟨_,_,_,e⟩
 ·exact⟨_,_,_,e⟩
def Fl6(pb:Nat)(b0 b1 b2 b3 b4 b5:Int)(y:World):Prop:=y.heap[pb]?=some (.cells #[.int .i64 b0,.int .i64 b1,.int .i64 b2,.int .i64 b3,.int .i64 b4,.int .i64 b5] 37)
theorem walk(S n N:Nat)(p:Int)(hC:U6 ⟨S,n,N,p⟩)(v:Value)(l:List Cl)(w:World)(hl:Rd 6 clrow w v l)(hok:∀R∈l,Cl.ok R)(h0:l.length≤50) :
  Calls prog 3 #[.agg #[.int .i64 S,.int .i64 n,.int .i64 N,.int .i64 p],v] w fun e w'=>e=.returned (.bool true)∧Nw w w':=by
 obtain⟨⟨s1,s2⟩,⟨n1,n2⟩,⟨N1,N2⟩,p1,p2⟩:=id hC
 simp only at s1 s2 n1 n2 N1 N2 p1 p2
 have HB:=hD0 (show(S≤16∧0<S)∧n≤64∧N≤128∧l.length≤50 by omega)
 have HCk:=hD0 hC
 have HL:=hD0 (aI0 hl hok)
 obtain⟨va,vc,rfl,_⟩:=hl
 have d0:decide ((50:Int)<(l.length:Int))=false:=by rw[decide_eq_false_iff_not];omega
 have ha3:=Z1 w (.cells #[.int .i64 S,.int .i64 n,.int .i64 N,.int .i64 p] 23)
 obtain⟨z,hz⟩:∃z,w.alloc (.cells #[.int .i64 S,.int .i64 n,.int .i64 N,.int .i64 p] 23)=z:=⟨_,rfl⟩
 have hN0:Nw w z:=by rw[←hz];exact(Nw.refl w).alloc _
 rw[hz] at ha3
 obtain⟨pc,hpc⟩:∃pc,w.heap.size=pc:=⟨_,rfl⟩
 rw[hpc] at ha3
 have HZ:=hD0 (aI0 hz hpc)
 have HX:=hD0 (aI0 ha3 hN0)
 clear hz ha3 hN0 h0 hC s1 s2 n1 n2 N1 N2 p1 p2 hok hpc
 go_enter func3,ntmps3
 go_wp2_with fail
 rw[HZ.out.1,HZ.out.2]
 refine(Zb2 z).mono ?_
 rintro e w1 ⟨rfl,g1⟩
 have HG1:=hD0 (HX.out.2.trans g1)
 have HPc:=hD0 (g1.at' HX.out.1)
 have c0:=Z0 (j:=0) HPc.out
 have c1:=Z0 (j:=1) HPc.out
 have c2:=Z0 (j:=2) HPc.out
 have c3:=Z0 (j:=3) HPc.out
 have cl:=hlt HPc.out
 clear g1 HZ HX
 go_wp2_with fail
 refine(Zom S n N p HCk.out w1).mono ?_
 rintro e w2 ⟨oA,JA,rfl,hA,g2,hj⟩
 have HM:=hD0 (aI0 hA (aI0 g2 hj))
 have e0:=g2.kp c0
 have e1:=g2.kp c1
 have e2:=g2.kp c2
 have e3:=g2.kp c3
 have el:=lL0 cl g2.sz
 clear hA g2 hj c0 c1 c2 c3 cl
 go_wp2_with fail
 refine(Zx3 S n N p HCk.out w2).mono ?_
 rintro e w3 ⟨oB,JB,rfl,hB,g3,hk⟩
 have HS:=hD0 (Zqe w1 w2 w3 HM.out.2.1 HM.out.1 HM.out.2.2 g3 hB hk)
 clear hB g3 hk HM e0 e1 e2 e3 el
 go_wp2_with fail
 go_loopw [9] (fun vi wr=>∃(j:Nat) (hss:List (List Hq)) (L:List Bool),vi=.int .i64 j∧j≤l.length∧Hid (TwR w1 oA oB S n N j j ⟨S,n,N,p⟩ hss L hss L wr)) (fun vi _=>l.length-(intOf vi).toNat)
 case atStart=>exact⟨0,_,_,rfl,Nat.zero_le _,HS⟩
 case round =>
  clear HS
  obtain⟨j,hss,LL,rfl,hj,HK⟩:=hrel
  by_cases hjl:j<l.length
  rotate_left
  ·obtain rfl:j=l.length:=Nat.le_antisymm hj (Nat.le_of_not_lt hjl)
   have HN:=hD0 (HG1.out.trans HK.out.nw)
   have hbc:=HK.out.nw.at' HPc.out
   have HCp:=hD0 (fun y (g:Nw wr y)=>Ztz (HK.out.step g))
   have C0:=fun(d:Wd (fun y=>Nw wr y))=>(Z0 (j:=0) (d.h.at' hbc)).trans rfl
   have C1:=fun(d:Wd (fun y=>Nw wr y))=>(Z0 (j:=1) (d.h.at' hbc)).trans rfl
   have C2:=fun(d:Wd (fun y=>Nw wr y))=>(Z0 (j:=2) (d.h.at' hbc)).trans rfl
   have C3:=fun(d:Wd (fun y=>Nw wr y))=>(Z0 (j:=3) (d.h.at' hbc)).trans rfl
   have hne:Nonempty (Wd (fun y=>Nw wr y)):=⟨⟨_,Nw.refl _⟩⟩
   clear HK hbc
   go_wp2_with fail
   refine Zf (fun y=>Nw wr y) (by kernel_rfl) (by kernel_rfl) (Nw.refl wr).dr ?_
   repeat (first | go_big_quiet_step ((exact Zd (fun a b h g=>h.trans g) (HCp.out _ (Wd.h _)))) | quiet_step ((exact Zd (fun a b h g=>h.trans g) (HCp.out _ (Wd.h _)))))
   refine wpQuiet_nil ?_
   intro d
   have HD:=hD0 (HN.out.trans d.h)
   clear C0 C1 C2 C3 hne HN
   revert HD
   generalize d.w=z3
   intro HD
   go_wp2
   go_ret
   exact⟨rfl,HD.out⟩
  obtain⟨a',c',e,⟨q,_⟩ | ⟨b,ob,e2,hc⟩⟩:=HL.out.1
  ·rw[q] at hjl;simp at hjl
  subst e2
  cases e
  obtain⟨hwj,hji,hk8⟩:=wrS hjl HB.out.2.2.2
  have hce:=(hc.nw (HG1.out.trans HK.out.nw)).cell j hjl
  have hwf:=HL.out.2 _ (gM0 hjl)
  clear hc
  generalize l[j]=R at *
  obtain⟨b0,b1,b2,b3,b4,b5⟩:=R
  have f0:=hce 0 _ rfl
  have f1:=hce 1 _ rfl
  have f2:=hce 2 _ rfl
  have f3:=hce 3 _ rfl
  have f4:=hce 4 _ rfl
  have f5:=hce 5 _ rfl
  simp only[Nat.add_zero] at f0
  have fl:=World.block_lt_of_cell? _ _ f0
  simp only at fl
  have hal:=Z1 wr (.cells #[.int .i64 b0,.int .i64 b1,.int .i64 b2,.int .i64 b3,.int .i64 b4,.int .i64 b5] 37)
  have ga:Nw wr (wr.alloc (.cells #[.int .i64 b0,.int .i64 b1,.int .i64 b2,.int .i64 b3,.int .i64 b4,.int .i64 b5] 37)):=(Nw.refl wr).alloc _
  obtain⟨z,hz⟩:∃z,wr.alloc (.cells #[.int .i64 b0,.int .i64 b1,.int .i64 b2,.int .i64 b3,.int .i64 b4,.int .i64 b5] 37)=z:=⟨_,rfl⟩
  rw[hz] at hal ga
  have HZ:=hD0 hz
  obtain⟨pb,hpb⟩:∃pb,wr.heap.size=pb:=⟨_,rfl⟩
  have HPb:=hD0 hpb
  rw[hpb] at hal
  have HF3:Hid (Fit b3):=hwf.2.2.1
  have HSm:=hD0 (Zxr HK.out ga.dr rfl hk8 HB.out.2.1 HB.out.1.1 HB.out.1.2 b0 b1 b2 b3 b4 b5 HF3.out)
  have hS0:Fl6 pb b0 b1 b2 b3 b4 b5 z.drew:=by unfold Fl6;exact hal
  have HGa:=hD0 (aI0 ga hal)
  clear hce hwf hk8 hz ga hal hpb
  go_upto_region 13 with fail
  rw[HZ.out,HPb.out]
  clear f0 f1 f2 f3 f4 f5 fl HZ
  have q0:∀x,Fl6 pb b0 b1 b2 b3 b4 b5 x→x.cell? ⟨pb,0,none⟩=some (.int .i64 b0):=fun x h=>(Z0 (j:=0) h).trans rfl
  have q1:∀x,Fl6 pb b0 b1 b2 b3 b4 b5 x→x.cell? ⟨pb,1,none⟩=some (.int .i64 b1):=fun x h=>(Z0 (j:=1) h).trans rfl
  have q2:∀x,Fl6 pb b0 b1 b2 b3 b4 b5 x→x.cell? ⟨pb,2,none⟩=some (.int .i64 b2):=fun x h=>(Z0 (j:=2) h).trans rfl
  have q3:∀x,Fl6 pb b0 b1 b2 b3 b4 b5 x→x.cell? ⟨pb,3,none⟩=some (.int .i64 b3):=fun x h=>(Z0 (j:=3) h).trans rfl
  have q4:∀x,Fl6 pb b0 b1 b2 b3 b4 b5 x→x.cell? ⟨pb,4,none⟩=some (.int .i64 b4):=fun x h=>(Z0 (j:=4) h).trans rfl
  have q5:∀x,Fl6 pb b0 b1 b2 b3 b4 b5 x→x.cell? ⟨pb,5,none⟩=some (.int .i64 b5):=fun x h=>(Z0 (j:=5) h).trans rfl
  have HNx:=hD0 (fun(x y:World) (h:Fl6 pb b0 b1 b2 b3 b4 b5 x) (g:Nw x y)=>(show Fl6 pb b0 b1 b2 b3 b4 b5 y from g.at' h))
  have HKx:=hD0 (fun(x y:World) (h:Fl6 pb b0 b1 b2 b3 b4 b5 x) (g:Kp wr.heap.size x y)=>(show Fl6 pb b0 b1 b2 b3 b4 b5 y from(g pb (Nat.le_of_eq HPb.out) (hlt h)).trans h))
  have HF0:=hD0 hS0
  go_wp2_with fail
  refine Z8 [some true,some true,some true,some false,none,some true,some true,some true,some false,some true,none,some false,none,some false,none,some true,some true,some true,some true,some true,some true,some false,some true,some true,some true,none,some false,none,some false,none,some true,some true,some true,some true,some false,some true,none,some false,none,some false,none,some true,some true,some true,some true,some true,some true,some false,some true,some true,some true,none,some false,none,some true,some true] (Fl6 pb b0 b1 b2 b3 b4 b5) (by kernel_rfl) (by kernel_rfl) (by kernel_rfl) hS0 ?_
  obtain⟨zd,hzd⟩:∃zd,z.drew=zd:=⟨_,rfl⟩
  rw[hzd] at HSm HF0 ⊢
  clear hzd hS0 HGa
  iterate 3 (refine HW.take' ?_;(apply Exists.intro;refine⟨Or.inl ⟨by rfl,?_⟩,?_⟩;(intro x hx;go_simp;first | done | with_reducible rfl));(try simp only[Act.put,List.setIfInBounds_toArray,List.set_cons_zero,List.set_cons_succ]))
  refine HW.off ?_
  refine HW.go (fun K hK=>?_)
  go_simp
  go_at_call 11
  refine HSm.out.mono ?_
  rintro e y1 ⟨rfl,kp1,hs1,L1,hb1⟩
  refine hK.out _ _ (HKx.out _ _ HF0.out kp1) ?_
  intro _
  clear hK K
  have HF1:=hD0 (HKx.out _ _ HF0.out kp1)
  have H1:=hD0 hb1
  have HC1:=hD0 (Zu5 hb1 HB.out.1.1 HB.out.2.1)
  clear kp1 hb1 HSm HF0 HKx HK
  (try simp only[Act.put,List.setIfInBounds_toArray,List.set_cons_zero,List.set_cons_succ])
  iterate 3 (refine HW.take' ?_;(apply Exists.intro;refine⟨Or.inl ⟨by rfl,?_⟩,?_⟩;(intro x hx;go_simp;first | done | with_reducible rfl));(try simp only[Act.put,List.setIfInBounds_toArray,List.set_cons_zero,List.set_cons_succ]))
  refine HW.off ?_
  iterate 1 (refine HW.take' ?_;(apply Exists.intro;refine⟨Or.inl ⟨by rfl,?_⟩,?_⟩;(intro x hx;go_simp;first | done | with_reducible rfl));(try simp only[Act.put,List.setIfInBounds_toArray,List.set_cons_zero,List.set_cons_succ]))
  refine HW.go (fun K hK=>?_)
  go_simp
  go_at_call 13
  refine HC1.out.mono ?_
  rintro e y2 ⟨v0,rfl,hh0,g2⟩
  refine hK.out _ _ (HNx.out _ _ HF1.out g2) ?_
  intro _
  clear hK K
  obtain⟨s0,s1,s2,rfl⟩:=Zn4 hh0
  have HF2:=hD0 (HNx.out _ _ HF1.out g2)
  have H2:=hD0 (H1.out.step g2)
  have HV0:=hD0 hh0
  have HC2:=hD0 (Zqd H2.out HB.out.1.1 HB.out.2.1)
  clear hh0 g2 HC1 H1 HF1
  (try simp only[Act.put,List.setIfInBounds_toArray,List.set_cons_zero,List.set_cons_succ])
  refine HW.off ?_
  refine HW.go (fun K hK=>?_)
  go_simp
  go_at_call 14
  refine HC2.out.mono ?_
  rintro e y3 ⟨v1,rfl,hh1,g3⟩
  refine hK.out _ _ (HNx.out _ _ HF2.out g3) ?_
  intro _
  clear hK K
  obtain⟨t0,t1,t2,rfl⟩:=Zn4 hh1
  have HF3':=hD0 (HNx.out _ _ HF2.out g3)
  have H3:=hD0 (H2.out.step g3)
  have HC3:=hD0 (Zgf (Nat.le_trans (H3.out.okA.snap128 H3.out.len128) (by decide)) (HV0.out.nw g3) hh1)
  clear hh1 g3 HC2 H2 HF2 HV0
  (try simp only[Act.put,List.setIfInBounds_toArray,List.set_cons_zero,List.set_cons_succ])
  refine HW.off ?_
  refine HW.go (fun K hK=>?_)
  go_simp
  go_at_call 12
  refine HC3.out.mono ?_
  rintro e y4 ⟨rfl,g4⟩
  refine hK.out _ _ (HNx.out _ _ HF3'.out g4) ?_
  intro _
  clear hK K
  have HF4:=hD0 (HNx.out _ _ HF3'.out g4)
  have H4:=hD0 (H3.out.step g4)
  have HC4:=hD0 (Zq9 H4.out HB.out.1.1 HB.out.2.1 b4)
  clear g4 HC3 H3 HF3'
  (try simp only[Act.put,List.setIfInBounds_toArray,List.set_cons_zero,List.set_cons_succ])
  iterate 6 (refine HW.take' ?_;(apply Exists.intro;refine⟨Or.inl ⟨by rfl,?_⟩,?_⟩;(intro x hx;go_simp;first | done | with_reducible rfl));(try simp only[Act.put,List.setIfInBounds_toArray,List.set_cons_zero,List.set_cons_succ]))
  refine HW.off ?_
  iterate 3 (refine HW.take' ?_;(apply Exists.intro;refine⟨Or.inl ⟨by rfl,?_⟩,?_⟩;(intro x hx;go_simp;first | done | with_reducible rfl));(try simp only[Act.put,List.setIfInBounds_toArray,List.set_cons_zero,List.set_cons_succ]))
  refine HW.go (fun K hK=>?_)
  go_simp
  go_at_call 16
  refine HC4.out.mono ?_
  rintro e y5 ⟨v0,rfl,hh0,g5⟩
  refine hK.out _ _ (HNx.out _ _ HF4.out g5) ?_
  intro _
  clear hK K
  obtain⟨s0,s1,s2,rfl⟩:=Zhm hh0
  have HF5:=hD0 (HNx.out _ _ HF4.out g5)
  have H5:=hD0 (H4.out.step g5)
  have HV0:=hD0 hh0
  have HC5:=hD0 (Zl3 H5.out HB.out.1.1 HB.out.2.1 b4)
  clear hh0 g5 HC4 H4 HF4
  (try simp only[Act.put,List.setIfInBounds_toArray,List.set_cons_zero,List.set_cons_succ])
  refine HW.off ?_
  refine HW.go (fun K hK=>?_)
  go_simp
  go_at_call 17
  refine HC5.out.mono ?_
  rintro e y6 ⟨v1,rfl,hh1,g6⟩
  refine hK.out _ _ (HNx.out _ _ HF5.out g6) ?_
  intro _
  clear hK K
  obtain⟨t0,t1,t2,rfl⟩:=Zhm hh1
  have HF6:=hD0 (HNx.out _ _ HF5.out g6)
  have H6:=hD0 (H5.out.step g6)
  have HC6:=hD0 (Z5j _ _ _ _ (Nat.le_trans (Zan _ _) (Nat.le_trans (H6.out.okA.snap1024 HB.out.1.1 HB.out.2.1) (by decide))) (Z05.rd (onw HV0.out g6)) (Z05.rd hh1))
  clear hh1 g6 HC5 H5 HF5 HV0
  (try simp only[Act.put,List.setIfInBounds_toArray,List.set_cons_zero,List.set_cons_succ])
  refine HW.off ?_
  refine HW.go (fun K hK=>?_)
  go_simp
  go_at_call 15
  refine HC6.out.mono ?_
  rintro e y7 ⟨rfl,g7⟩
  refine hK.out _ _ (HNx.out _ _ HF6.out g7) ?_
  intro _
  clear hK K
  have HF7:=hD0 (HNx.out _ _ HF6.out g7)
  have H7:=hD0 (H6.out.step g7)
  have HC7:=hD0 (Zy6 H7.out HB.out.1.1 HB.out.2.1)
  clear g7 HC6 H6 HF6
  (try simp only[Act.put,List.setIfInBounds_toArray,List.set_cons_zero,List.set_cons_succ])
  iterate 4 (refine HW.take' ?_;(apply Exists.intro;refine⟨Or.inl ⟨by rfl,?_⟩,?_⟩;(intro x hx;go_simp;first | done | with_reducible rfl));(try simp only[Act.put,List.setIfInBounds_toArray,List.set_cons_zero,List.set_cons_succ]))
  refine HW.off ?_
  iterate 1 (refine HW.take' ?_;(apply Exists.intro;refine⟨Or.inl ⟨by rfl,?_⟩,?_⟩;(intro x hx;go_simp;first | done | with_reducible rfl));(try simp only[Act.put,List.setIfInBounds_toArray,List.set_cons_zero,List.set_cons_succ]))
  refine HW.go (fun K hK=>?_)
  go_simp
  go_at_call 18
  refine HC7.out.mono ?_
  rintro e y8 ⟨v0,rfl,hh0,g8⟩
  refine hK.out _ _ (HNx.out _ _ HF7.out g8) ?_
  intro _
  clear hK K
  obtain⟨s0,s1,s2,rfl⟩:=Zhm hh0
  have HF8:=hD0 (HNx.out _ _ HF7.out g8)
  have H8:=hD0 (H7.out.step g8)
  have HV0:=hD0 hh0
  have HC8:=hD0 (Zu2 H8.out HB.out.1.1 HB.out.2.1)
  clear hh0 g8 HC7 H7 HF7
  (try simp only[Act.put,List.setIfInBounds_toArray,List.set_cons_zero,List.set_cons_succ])
  refine HW.off ?_
  refine HW.go (fun K hK=>?_)
  go_simp
  go_at_call 19
  refine HC8.out.mono ?_
  rintro e y9 ⟨v1,rfl,hh1,g9⟩
  refine hK.out _ _ (HNx.out _ _ HF8.out g9) ?_
  intro _
  clear hK K
  obtain⟨t0,t1,t2,rfl⟩:=Zhm hh1
  have HF9:=hD0 (HNx.out _ _ HF8.out g9)
  have H9:=hD0 (H8.out.step g9)
  have HC9:=hD0 (Z5j _ _ _ _ (Nat.le_trans (H9.out.okA.all128 H9.out.len128) (by decide)) (Z05.rd (onw HV0.out g9)) (Z05.rd hh1))
  clear hh1 g9 HC8 H8 HF8 HV0
  (try simp only[Act.put,List.setIfInBounds_toArray,List.set_cons_zero,List.set_cons_succ])
  refine HW.off ?_
  refine HW.go (fun K hK=>?_)
  go_simp
  go_at_call 15
  refine HC9.out.mono ?_
  rintro e y10 ⟨rfl,g10⟩
  refine hK.out _ _ (HNx.out _ _ HF9.out g10) ?_
  intro _
  clear hK K
  have HF10:=hD0 (HNx.out _ _ HF9.out g10)
  have H10:=hD0 (H9.out.step g10)
  have HC10:=hD0 (Zl5 H10.out b1 b2)
  clear g10 HC9 H9 HF9
  (try simp only[Act.put,List.setIfInBounds_toArray,List.set_cons_zero,List.set_cons_succ])
  iterate 6 (refine HW.take' ?_;(apply Exists.intro;refine⟨Or.inl ⟨by rfl,?_⟩,?_⟩;(intro x hx;go_simp;first | done | with_reducible rfl));(try simp only[Act.put,List.setIfInBounds_toArray,List.set_cons_zero,List.set_cons_succ]))
  refine HW.off ?_
  iterate 3 (refine HW.take' ?_;(apply Exists.intro;refine⟨Or.inl ⟨by rfl,?_⟩,?_⟩;(intro x hx;go_simp;first | done | with_reducible rfl));(try simp only[Act.put,List.setIfInBounds_toArray,List.set_cons_zero,List.set_cons_succ]))
  refine HW.go (fun K hK=>?_)
  go_simp
  go_at_call 20
  refine HC10.out.mono ?_
  rintro e y11 ⟨rfl,g11⟩
  refine hK.out _ _ (HNx.out _ _ HF10.out g11) ?_
  intro _
  clear hK K
  have HF11:=hD0 (HNx.out _ _ HF10.out g11)
  have H11:=hD0 (H10.out.step g11)
  have HC11:=hD0 (Zgo H11.out rfl b1 b2)
  clear g11 HC10 H10 HF10
  (try simp only[Act.put,List.setIfInBounds_toArray,List.set_cons_zero,List.set_cons_succ])
  refine HW.off ?_
  refine HW.go (fun K hK=>?_)
  go_simp
  go_at_call 21
  refine HC11.out.mono ?_
  rintro e y12 ⟨rfl,g12⟩
  refine hK.out _ _ (HNx.out _ _ HF11.out g12) ?_
  intro _
  clear hK K
  have HF12:=hD0 (HNx.out _ _ HF11.out g12)
  have H12:=hD0 (H11.out.step g12)
  clear g12 HC11 H11 HF11
  (try simp only[Act.put,List.setIfInBounds_toArray,List.set_cons_zero,List.set_cons_succ])
  iterate 2 (refine HW.take' ?_;(apply Exists.intro;refine⟨Or.inl ⟨by rfl,?_⟩,?_⟩;(intro x hx;go_simp;first | done | with_reducible rfl));(try simp only[Act.put,List.setIfInBounds_toArray,List.set_cons_zero,List.set_cons_succ]))
  refine HW.end_ ?_
  refine NoPanic.normal ?_
  clear q0 q1 q2 q3 q4 q5
  obtain⟨⟨gt,gr,⟨r0,r1,r2,r3,r4⟩,gy⟩,hG⟩:∃q,Z5w hs1 b3=q:=⟨_,rfl⟩
  obtain⟨⟨fi,fy⟩,hF⟩:∃q,Z7i hs1 b1 b2 b4=q:=⟨_,rfl⟩
  have HG:=hD0 (aI0 hG hF)
  have HGt:=hD0 (Zy8 H12.out HB.out.1.2 b3 HF3.out _ _ _ _ _ _ _ _ hG)
  have hb:=HF12.out
  unfold Fl6 at hb
  have c2:=Z0 (j:=3) hb
  have cl:=hlt hb
  clear hG hF hb
  go_wp2_with fail
  refine HGt.out.mono ?_
  rintro e y13 ⟨rfl,g13⟩
  have HGt:=hD0 (fun y (g:Nw y12 y)=>Zu4 (H12.out.step g) HB.out.1.1 b3 _ _ _ _ _ _ _ _ HG.out.1)
  obtain⟨z1,hz1⟩:∃k,(y13.alloc (.cells #[.int .i64 gt,.int .i64 gr] 34)).alloc (.cells #[.int .i64 r0,.int .i64 r1,.int .i64 r2,.int .i64 r3,.int .i64 r4] 50)=k:=⟨_,rfl⟩
  have hal2:=((Nw.refl _).alloc (.cells #[.int .i64 r0,.int .i64 r1,.int .i64 r2,.int .i64 r3,.int .i64 r4] 50)).at' (Z1 y13 (.cells #[.int .i64 gt,.int .i64 gr] 34))
  have hal3:=Z1 (y13.alloc (.cells #[.int .i64 gt,.int .i64 gr] 34)) (.cells #[.int .i64 r0,.int .i64 r1,.int .i64 r2,.int .i64 r3,.int .i64 r4] 50)
  rw[hz1] at hal2
  rw[World.size_alloc,hz1] at hal3
  have gk:Nw y13 z1:=by rw[←hz1];exact((Nw.refl y13).alloc _).alloc _
  have HZ1:=hD0 hz1
  have HH1:=hD0 (g13.trans gk)
  have HA1:=hD0 (aI0 hal2 hal3)
  have HRg:=hD0 (HGt.out z1 (g13.trans gk))
  have hb1:=HNx.out _ _ HF12.out (g13.trans gk)
  unfold Fl6 at hb1
  have x3:=Z0 (j:=3) hb1
  have xl:=hlt hb1
  have x4:((y13.alloc (.cells #[.int .i64 gt,.int .i64 gr] 34)).alloc (.cells #[.int .i64 r0,.int .i64 r1,.int .i64 r2,.int .i64 r3,.int .i64 r4] 50)).cell? ⟨pb,3,none⟩=some (.int .i64 b3):=by rw[hz1];exact x3.trans rfl
  clear hz1 hal2 hal3 g13 gk c2 cl hb1
  go_wp2_with fail
  rw[HZ1.out]
  generalize y13.heap.size=q0 at *
  refine HRg.out.mono ?_
  rintro e y14 ⟨rfl,g14⟩
  obtain⟨z2,hz2⟩:∃k,(y14.alloc (.cells #[.int .i64 gt,.int .i64 gr] 34)).alloc (.cells #[.int .i64 r0,.int .i64 r1,.int .i64 r2,.int .i64 r3,.int .i64 r4] 50)=k:=⟨_,rfl⟩
  have hal2:=((Nw.refl _).alloc (.cells #[.int .i64 r0,.int .i64 r1,.int .i64 r2,.int .i64 r3,.int .i64 r4] 50)).at' (Z1 y14 (.cells #[.int .i64 gt,.int .i64 gr] 34))
  have hal3:=Z1 (y14.alloc (.cells #[.int .i64 gt,.int .i64 gr] 34)) (.cells #[.int .i64 r0,.int .i64 r1,.int .i64 r2,.int .i64 r3,.int .i64 r4] 50)
  rw[hz2] at hal2
  rw[World.size_alloc,hz2] at hal3
  have gk:Nw y14 z2:=by rw[←hz2];exact((Nw.refl y14).alloc _).alloc _
  have HZ2:=hD0 hz2
  have HT:=hD0 (H12.out.step (HH1.out.trans (g14.trans gk)))
  have hbz:=HNx.out _ _ HF12.out (HH1.out.trans (g14.trans gk))
  have HA2:=hD0 (aI0 ((g14.trans gk).at' HA1.out.1) (aI0 ((g14.trans gk).at' HA1.out.2) (aI0 hal2 (aI0 hal3 hbz))))
  have HFd:=hD0 (Zu0 HT.out b1 b2 b4 fi fy HG.out.2)
  have hbz2:=hbz
  unfold Fl6 at hbz2
  have u1:((y14.alloc (.cells #[.int .i64 gt,.int .i64 gr] 34)).alloc (.cells #[.int .i64 r0,.int .i64 r1,.int .i64 r2,.int .i64 r3,.int .i64 r4] 50)).cell? ⟨pb,1,none⟩=some (.int .i64 b1):=by rw[hz2];exact(Z0 (j:=1) hbz2).trans rfl
  have u2:((y14.alloc (.cells #[.int .i64 gt,.int .i64 gr] 34)).alloc (.cells #[.int .i64 r0,.int .i64 r1,.int .i64 r2,.int .i64 r3,.int .i64 r4] 50)).cell? ⟨pb,2,none⟩=some (.int .i64 b2):=by rw[hz2];exact(Z0 (j:=2) hbz2).trans rfl
  have u4:((y14.alloc (.cells #[.int .i64 gt,.int .i64 gr] 34)).alloc (.cells #[.int .i64 r0,.int .i64 r1,.int .i64 r2,.int .i64 r3,.int .i64 r4] 50)).cell? ⟨pb,4,none⟩=some (.int .i64 b4):=by rw[hz2];exact(Z0 (j:=4) hbz2).trans rfl
  have ul:=hlt hbz2
  clear hz2 hal2 hal3 g14 gk hbz hbz2 HA1 HGt HRg HZ1 H12 HH1 x3 x4 xl
  go_upto_region 17 with fail
  rw[HZ2.out] at u1 u2 u4 ⊢
  generalize y14.heap.size=q1 at *
  go_wp2_with fail
  refine HFd.out.mono ?_
  rintro e y15 ⟨rfl,g15⟩
  have HFr:=hD0 (Zqb (HT.out.step g15) rfl b1 b2 b4 fi fy HG.out.2)
  have v1:=g15.kp u1
  have v2:=g15.kp u2
  have v4:=g15.kp u4
  have vl:=lL0 ul g15.sz
  have HN15:=hD0 g15
  clear u1 u2 u4 ul g15 HFd
  go_wp2_with fail
  refine HFr.out.mono ?_
  rintro e y16 ⟨rfl,g16⟩
  have HN16:=hD0 (HN15.out.trans g16)
  have HCt:=hD0 (Zl2 (HT.out.step (HN15.out.trans g16)) HB.out.1.1 HB.out.2.1)
  clear v1 v2 v4 vl g16 HFr HN15
  go_wp2_with fail
  refine HCt.out.mono ?_
  rintro e y17 ⟨rfl,g17⟩
  have HN17:=hD0 (HN16.out.trans g17)
  have HCt:=hD0 (Zgn (HT.out.step (HN16.out.trans g17)) HB.out.1.1 HB.out.2.1)
  clear g17 HN16
  go_wp2_with fail
  refine HCt.out.mono ?_
  rintro e y18 ⟨rfl,g18⟩
  have HE:=hD0 (HN17.out.trans g18)
  clear g18 HN17 HCt
  have a1:=HE.out.at' HA2.out.1
  have a2:=HE.out.at' HA2.out.2.1
  have a3:=HE.out.at' HA2.out.2.2.1
  have a4:=HE.out.at' HA2.out.2.2.2.1
  have m0:=Z0 (j:=0) a1
  have m1:=Z0 (j:=1) a1
  have p0:=Z0 (j:=0) a2
  have p1:=Z0 (j:=1) a2
  have p2:=Z0 (j:=2) a2
  have p3:=Z0 (j:=3) a2
  have p4:=Z0 (j:=4) a2
  have m2:=Z0 (j:=0) a3
  have m3:=Z0 (j:=1) a3
  have w0:=Z0 (j:=0) a4
  have w1':=Z0 (j:=1) a4
  have w2':=Z0 (j:=2) a4
  have w3':=Z0 (j:=3) a4
  have w4':=Z0 (j:=4) a4
  have HFin:=hD0 (HT.out.step HE.out)
  generalize Z15 hs1=ct at *
  generalize liv L1=lt at *
  clear a1 a2 a3 a4 HA2 HT HE HNx HF12
  go_wp2_with fail
  go_roundw
  case rel=>exact⟨j+1,_,_,congrArg (Value.int .i64) (by first | exact nx1 j | exact hwj.trans (nx1 j)),hjl,HFin⟩
  case measure =>
   first | exact Zym l.length j hjl | (rw[hwj];exact Zym l.length j hjl)
end tableScript
namespace tableScript
theorem Zqk(C:Ud)(h:¬U6 C)(v:Value)(l:List Cl)(w:World)(hl:Rd 6 clrow w v l)(h0:l.length≤50) :
  Calls prog 3 #[Zev C,v] w fun e w'=>e=.returned (.bool true)∧Nw w w':=by
 obtain⟨va,vc,rfl,_⟩:=hl
 have d0:decide ((50:Int)<(l.length:Int))=false:=by rw[decide_eq_false_iff_not];omega
 have HNe:=hD0 (fun W=>Zol C h W)
 have HNr:=hD0 (fun W=>Zok C h W)
 obtain⟨S,n,N,p⟩:=C
 unfold Zev at *
 simp only at HNe HNr ⊢
 have ha3:=Z1 w (.cells #[.int .i64 S,.int .i64 n,.int .i64 N,.int .i64 p] 23)
 obtain⟨z,hz⟩:∃z,w.alloc (.cells #[.int .i64 S,.int .i64 n,.int .i64 N,.int .i64 p] 23)=z:=⟨_,rfl⟩
 have hN0:Nw w z:=by rw[←hz];exact(Nw.refl w).alloc _
 rw[hz] at ha3
 have HZ:=hD0 hz
 have HX:=hD0 (aI0 ha3 hN0)
 clear hz ha3 hN0 h0 h
 go_enter func3,ntmps3
 go_wp2_with fail
 rw[HZ.out]
 refine(Zb2 z).mono ?_
 rintro e w1 ⟨rfl,g1⟩
 have HG1:=hD0 g1
 have hb1:=g1.at' HX.out.1
 have c0:=Z0 (j:=0) hb1
 have c1:=Z0 (j:=1) hb1
 have c2:=Z0 (j:=2) hb1
 have c3:=Z0 (j:=3) hb1
 have cl:=hlt hb1
 clear g1 hb1
 go_wp2_with fail
 refine(HNe.out w1).mono ?_
 rintro e w2 ⟨rfl,g2⟩
 have HE:=hD0 (HX.out.2.trans (HG1.out.trans g2))
 have e0:=g2.kp c0
 have e1:=g2.kp c1
 have e2:=g2.kp c2
 have e3:=g2.kp c3
 have el:=lL0 cl g2.sz
 clear g2 HG1 c0 c1 c2 c3 cl
 go_wp2_with fail
 refine(HNr.out w2).mono ?_
 rintro e w3 ⟨rfl,g3⟩
 have HE2:=hD0 (HE.out.trans g3)
 clear g3 HE
 go_wp2
 go_ret
 exact⟨rfl,HE2.out⟩
theorem law_any(a b c d:Int)(v:Value)(l:List Cl)(w:World)(hl:Rd 6 clrow w v l)(hok:∀R∈l,Cl.ok R) :
  Calls prog 3 #[.agg #[.int .i64 a,.int .i64 b,.int .i64 c,.int .i64 d],v] w fun e w'=>e=.returned (.bool true)∧Nw w w':=by
 by_cases h:l.length≤50
 ·by_cases hC:U6 ⟨a,b,c,d⟩
  ·obtain⟨⟨s1,s2⟩,⟨n1,n2⟩,⟨N1,N2⟩,_⟩:=id hC
   simp only at s1 n1 N1
   obtain⟨S,rfl⟩:=Int.eq_ofNat_of_zero_le (show 0≤a by omega)
   obtain⟨n,rfl⟩:=Int.eq_ofNat_of_zero_le (show 0≤b by omega)
   obtain⟨N,rfl⟩:=Int.eq_ofNat_of_zero_le (show 0≤c by omega)
   exact walk S n N d hC v l w hl hok h
  ·exact Zqk ⟨a,b,c,d⟩ hC v l w hl h
 ·obtain⟨va,vc,rfl,_⟩:=hl
  have d0:decide ((50:Int)<(l.length:Int))=true:=by rw[decide_eq_true_eq];omega
  have HN:=hD0 (Nw.refl w)
  clear h hok
  have HG:=hD0 ((Nw.refl w).alloc (.cells #[.int .i64 a,.int .i64 b,.int .i64 c,.int .i64 d] 23))
  go_enter func3,ntmps3
  go_wp2_with fail
  refine(Zb2 _).mono ?_
  rintro e w1 ⟨rfl,g1⟩
  have HG1:=hD0 (HG.out.trans g1)
  clear g1 HG
  go_wp2_with fail
  go_ret
  exact⟨rfl,HG1.out⟩
end tableScript
end Go.Proofs.YtpffldfpabglbaaGreatDoor
