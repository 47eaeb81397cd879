/- Texts merged: QvW, QvP, QvQ, QvR, QwG, TbK, BdI, Rr -/
import Derived.Test.YtfepoibfbmehiaaGreatDoorTableNamesB10
import Derived.OrdersHeld
import Derived.Sort.OwnSortedInts
import Derived.Lib.RowBridge
set_option linter.unusedVariables false
set_option maxRecDepth 100000
set_option maxHeartbeats 16000000
namespace Go.Proofs.YtfepoibfbmehiaaGreatDoor
open Go.RowKit _root_.Go.Proofs.Tryz
theorem Zr8(a b:Int)(w:World)(ha:Zq a=true)(hb:Zq b=true):Calls prog 87 #[.int .i64 a,.int .i64 b] w fun e w'=>e=.returned (.int .i64 (Y0 a b))∧Nw w w':=by
 have h1:0≤a∧a<7:=by simpa [Zq] using ha
 have h2:0≤b∧b<7:=by simpa [Zq] using hb
 exact Zps a b w h1.1 h1.2 h2.1 h2.2
theorem Zgg(t r W id m:Int)(v:Value)(q:List Rq)(w:World)(hl:q.length≤900)(hok:Ok W q)(h:Zu w v q) :
  Calls prog 56 #[Un t r v W,.int .i64 id,.int .i64 m] w (HD2 (upR ⟨t,r,W,q⟩ id m) w):=by
 obtain⟨X,hX⟩:∃X,upR ⟨t,r,W,q⟩ id m=X:=⟨_,rfl⟩
 rw[hX]
 have HLo:=hD0 (fun w=>Z69 m w)
 have HOk:=hD0 hok
 have HAt:=hD0 h
 have hFi:=fun(w1:World) (g:Nw w w1) (f:Value) (hf:Zn w1 f (fun R=>R.id==id))=>Z3g t r W v f _ q w1 (by omega) (h.nw g) hf
 have HLi:=hD0 (fun(w1:World) (g:Nw w w1)=>Z7o t r W v q w1 (by omega) (fun R hR=>(hok.rt R hR).md) (h.nw g))
 obtain⟨a,c,rfl,_⟩:=h
 unfold HD2 Un at *
 have HX:=hD0 (Y6 w (.cells #[.int .i64 t,.int .i64 r,.slice a q.length c,.int .i64 W] 83) (.cells #[.int .i64 0,.int .i64 0,.slice none 0 0,.int .i64 0] 83))
 obtain⟨y,hy⟩:∃y,((m != 0)&&Zq m)=y:=⟨_,rfl⟩
 rw[hy] at HLo
 obtain⟨px,hpx⟩:∃px,plc (fun R=>R.id==id) q=px:=⟨_,rfl⟩
 rw[hpx] at hFi
 have HFi:=hD0 hFi
 have HWi:=hD0 (Z14 id)
 clear hFi hok
 cases y
 ·have hR:=hX.symm.trans (Zq0 (h:=⟨t,r,W,q⟩) (by cases e:Zq m with | false=>exact .inr rfl | true=>rw[e,Bool.and_true] at hy;exact .inl (by simpa using hy)))
  subst hR
  clear hy hpx HFi HWi HLi HOk HAt hX
  go_enter func56,ntmps56
  go_wp2_with fail
  go_at_call 77
  refine(HLo.out _).mono ?_
  rintro e w1 ⟨rfl,g1⟩
  have hq1:=g1.at' HX.out.2.1
  have HQ:=hD0 (HX.out.2.2.1.trans g1)
  have d0:=Z0 (j:=0) hq1
  have d1:=Z0 (j:=1) hq1
  have d2:=Z0 (j:=2) hq1
  have d3:=Z0 (j:=3) hq1
  have fz:=fun k=>hfz (j:=k) hq1
  have hsl2:=Z1 hq1
  clear g1 hq1 HX HLo
  go_wp2
  exact bodyPost_ret (v:=.tuple #[.agg #[.int .i64 0,.int .i64 0,.slice none 0 0,.int .i64 0],.bool false,.int .i64 2]) (by simp only[results,results56];simp[go_sem, *]) rfl ⟨_,rfl,Zh HQ.out (Nat.le_succ _) _ _ _ _,Rd.nil _,Nat.le_refl _,Zx.nil _ _⟩
 have hgood:¬(m=0∨Zq m=false):=by
  rw[Bool.and_eq_true,bne_iff_ne] at hy
  rintro(e | e)
  ·exact hy.1 e
  ·rw[hy.2] at e;cases e
 have hkm:Zq m=true:=by
  rw[Bool.and_eq_true] at hy
  exact hy.2
 have HGd:=hD0 (aI0 hgood hkm)
 clear hy hgood hkm
 go_enter func56,ntmps56
 go_wp2_with fail
 go_at_call 77
 refine(HLo.out _).mono ?_
 rintro e w1 ⟨rfl,g1⟩
 have hx1:=g1.at' HX.out.1
 have HB1:=hD0 (aI0 (aI0 (g1.at' HX.out.1) (g1.at' HX.out.2.1)) (HX.out.2.2.1.trans g1))
 have s0:∀z,Nw w1 z→z.cell? ⟨w.heap.size,0,none⟩=some (.int .i64 t):=fun z hz=>hz.kp (Z0 (j:=0) hx1)
 have s1:∀z,Nw w1 z→z.cell? ⟨w.heap.size,1,none⟩=some (.int .i64 r):=fun z hz=>hz.kp (Z0 (j:=1) hx1)
 have s2:∀z,Nw w1 z→z.cell? ⟨w.heap.size,2,none⟩=some (.slice a q.length c):=fun z hz=>hz.kp (Z0 (j:=2) hx1)
 have s3:∀z,Nw w1 z→z.cell? ⟨w.heap.size,3,none⟩=some (.int .i64 W):=fun z hz=>hz.kp (Z0 (j:=3) hx1)
 clear hx1 g1 HX HLo
 go_wp2
 have q1:=(Nw.refl w1).drewQ
 obtain⟨wc,hwc⟩:∃wc,w1.drew=wc:=⟨_,rfl⟩
 refine Z5 [some true,some true,some false,none,some false,none,some true] (Nw w1) (by kernel_rfl) (by kernel_rfl) (by kernel_rfl) q1 ?_
 rw[hwc] at q1 ⊢
 clear hwc
 repeat (first
  | (refine HW.off ?_)
  | (refine HW.take' ?_;(first | (refine⟨undef,Or.inr ⟨by rfl,rfl⟩,?_⟩) | (apply Exists.intro;refine⟨Or.inl ⟨by rfl,?_⟩,?_⟩;(intro x hx;go_simp;first | done | with_reducible rfl)));(try simp only[Act.put,List.setIfInBounds_toArray,List.set_cons_zero,List.set_cons_succ]))
  | (refine HW.go (fun K hK=>?_);go_simp;(first
   | (go_at_call 79;(with_reducible refine(HWi.out _).mono ?_);rintro e wy ⟨pa,rfl,g2,hbx⟩;refine hK.out _ _ (q1.trans g2) ?_;intro _;replace q1:=q1.trans g2;clear hK K g2;replace hbx:=Zn.withID hbx)
   | (go_at_call 78;(with_reducible refine(HFi.out _ (HB1.out.2.trans q1) _ hbx).mono ?_);rintro e wy ⟨rfl,g2⟩;refine hK.out _ _ (q1.trans g2) ?_;intro _;replace q1:=q1.trans g2;clear hK K g2 hbx)
   | (refine hK.out _ _ q1 ?_;intro _;clear hK K))))
 refine HW.end_ ?_
 refine NoPanic.normal ?_
 have HN:=hD0 (HB1.out.2.trans q1)
 have hp1:=q1.at' HB1.out.1.1
 have hq1:=q1.at' HB1.out.1.2
 have c0:=Z0 (j:=0) hp1
 have c1:=Z0 (j:=1) hp1
 have c2:=Z0 (j:=2) hp1
 have c3:=Z0 (j:=3) hp1
 have hpl:=Z1 hp1
 rcases Z4j q id with⟨e1,hf⟩ | ⟨k,e1,hk,hf⟩
 ·obtain rfl:=hpx.symm.trans e1
  have hR:=hX.symm.trans (Zmp (h:=⟨t,r,W,q⟩) HGd.out.1 hf)
  subst hR
  have d0:=Z0 (j:=0) hq1
  have d1:=Z0 (j:=1) hq1
  have d2:=Z0 (j:=2) hq1
  have d3:=Z0 (j:=3) hq1
  have fz:=fun k=>hfz (j:=k) hq1
  have hsl2:=Z1 hq1
  clear hpx hX e1 hf s0 s1 s2 s3 HB1 HFi HWi HAt q1 hp1 hq1 HLi HOk
  go_wp2
  exact bodyPost_ret (v:=.tuple #[.agg #[.int .i64 0,.int .i64 0,.slice none 0 0,.int .i64 0],.bool false,.int .i64 5]) (by simp only[results,results56];simp[go_sem, *]) rfl ⟨_,rfl,Zh HN.out (Nat.le_succ _) _ _ _ _,Rd.nil _,Nat.le_refl _,Zx.nil _ _⟩
 ·obtain rfl:=hpx.symm.trans e1
  have dk:((k:Int)==-1)=false:=by simp
  have hX1:0<q[k].sn→X=(noH,false,7):=fun s=>hX.symm.trans (Zmq (h:=⟨t,r,W,q⟩) HGd.out.1 hf s)
  have hX2:¬0<q[k].sn→X=(⟨t,r,(upQ W q q[k] m).1,(upQ W q q[k] m).2.1⟩,(upQ W q q[k] m).2.2,0):=fun s=>hX.symm.trans (Zr0 (h:=⟨t,r,W,q⟩) HGd.out.1 hf s)
  have HRt:=hD0 (HOk.out.rt _ (gM0 hk))
  have HUp:=hD0 (fun(hs:q[k].sn=0) (want:Int) (hw:Zq want=true)=>Zqz HOk.out k hk hs want hw)
  have HCh:=hD0 (fun(f:Rq→Rq)=>Z3z HOk.out f k hk)
  have HSl:=hD0 (fun x e=>Ziz hk x e)
  have HCq:=hD0 (fun(R:Rq) (hm:R.md=q[k].md)=>Z13 q k hk R hm)
  have HAw:=hD0 (fun(z:World) (g0:Nat) (v:Value) (h:Z7 z g0 v q)=>Z7.at h hk)
  rcases HAt.out with⟨a',c',e3,⟨e4,_⟩ | ⟨b,o,e4,hc⟩⟩
  ·subst e4;simp at hk
  simp only[Value.slice.injEq,true_and] at e3
  obtain⟨rfl,rfl⟩:=e3
  subst e4
  have hki:(k:Int)<(q.length:Int):=by omega
  have hce:=(hc.nw HN.out).cell k hk
  have HCe:=hD0 (fun(z:World) (g:Nw w z)=>(hc.nw g).cell k hk)
  have HWa:=hD0 (fun z=>Z4u q[k] z)
  have HHo:=hD0 (fun z=>Z4t q[k] z)
  have HRow:=hD0 (fun(z:World) (g0 g cap:Nat) (j:Nat) (hj:j<5) (u:Value) (new:Rq) (e:(Zi q[k]).set j u=Zi new) (h:Z7 z g0 (.slice (some ⟨g,0,none⟩) q.length cap) q)=>Y3 h rfl k hk j hj u new e)
  have HRow2:=hD0 (fun(z:World) (g0 g cap:Nat) (X:Rq) (j:Nat) (hj:j<5) (u:Value) (new:Rq) (e:(Zi X).set j u=Zi new) (h:Z7 z g0 (.slice (some ⟨g,0,none⟩) q.length cap) (q.set k X))=>Y3 h (by rw[List.length_set]) k (by rw[List.length_set];exact hk) j hj u new (by rw[List.getElem_set_self];exact e))
  simp only[List.set_set] at HRow2
  have HCo:=hD0 (fun(z:World) (g0 g cap:Nat) (h:Z7 z g0 (.slice (some ⟨g,0,none⟩) q.length cap) q)=>Yq h rfl k hk)
  clear hpx hX e1 hf s0 s1 s2 s3 HB1 HFi HWi q1 hc
  generalize q[k]=R at *
  obtain⟨b0,b1,b2,b3,b4⟩:=R
  unfold rqV at HWa HHo
  have m0:=hce 0 _ rfl
  have m1:=hce 1 _ rfl
  have m2:=hce 2 _ rfl
  have m3:=hce 3 _ rfl
  have m4:=hce 4 _ rfl
  simp only[Nat.add_zero] at m0
  clear hce HHo
  have HX1:=hD0 hX1
  have HX2:=hD0 hX2
  clear hX1 hX2
  go_wp2_with fail
  go_at_call 86
  refine(HWa.out _).mono ?_
  rintro e w2 ⟨rfl,g2⟩
  have hp2:=g2.at' hp1
  have hq2:=g2.at' hq1
  have HN2:=hD0 (HN.out.trans g2)
  clear c0 c1 c2 c3 hpl
  have c0:=Z0 (j:=0) hp2
  have c1:=Z0 (j:=1) hp2
  have c2:=Z0 (j:=2) hp2
  have c3:=Z0 (j:=3) hp2
  have hpl:=Z1 hp2
  clear m0 m1 m2 m3 m4 g2 HWa hp1 hq1
  by_cases hs:0<b4
  ·have ds:decide (0<b4)=true:=by simpa using hs
   have hR:=HX1.out hs
   subst hR
   have d0:=Z0 (j:=0) hq2
   have d1:=Z0 (j:=1) hq2
   have d2:=Z0 (j:=2) hq2
   have d3:=Z0 (j:=3) hq2
   have fz:=fun k=>hfz (j:=k) hq2
   have hsl2:=Z1 hq2
   clear hs HX1 HX2 HCe HRow HRow2 HCo HAt HN hp2 hq2 HLi HOk HUp HCh HSl HCq HAw HRt
   go_wp2
   exact bodyPost_ret (v:=.tuple #[.agg #[.int .i64 0,.int .i64 0,.slice none 0 0,.int .i64 0],.bool false,.int .i64 7]) (by simp only[results,results56];simp[go_sem, *]) rfl ⟨_,rfl,Zh HN2.out (Nat.le_succ _) _ _ _ _,Rd.nil _,Nat.le_refl _,Zx.nil _ _⟩
  have ds:decide (0<b4)=false:=by simpa using hs
  have hb4:b4=0:=by have:=HRt.out.s0;simp only at this;omega
  have hR:=HX2.out (by first | exact hs | exact Int.not_lt.1 hs)
  have hwt:=(HRt.out.h hb4).2
  have hmk:=HRt.out.md
  simp only at hwt hmk
  subst hb4
  have hup:=HUp.out rfl
  obtain⟨wn,hwn⟩:∃wn,Y0 b2 m=wn:=⟨_,rfl⟩
  have hsk:=Zj6 b2 m hmk HGd.out.2
  have HSp:=hD0 (fun w=>Zr8 b2 m w hmk HGd.out.2)
  rw[hwn] at HSp hsk
  replace hup:=hup wn hsk
  unfold upQ at hR
  simp only[hwn] at hR
  have HRr:=hD0 hR
  have HUq:=hD0 hup
  have HWk:=hD0 (aI0 hwt (aI0 hsk hmk))
  have HLi2:=hD0 (HLi.out _ HN2.out)
  have HQ2:=hD0 (aI0 hp2 hq2)
  clear hs HX1 HX2 hR hwt hmk hup hwn hsk HUp hp2 hq2 HLi HAt HRt HN HGd HCe
  go_wp2_with fail
  go_at_call 81
  refine HLi2.out.mono ?_
  rintro e w3 ⟨p,v1,b',n,rfl,g3,hL3,hnq⟩
  obtain⟨g,cap,rfl,hg0,hgl,hce⟩:=HAw.out _ _ _ hL3.own
  have HL3:=hD0 (aI0 hL3 (aI0 g3 (aI0 hg0 hnq)))
  have p2:=Z0 (j:=2) hL3.obj
  have hpl3:=Z1 hL3.obj
  have m2:=hce 2 _ rfl
  clear c0 c1 c2 c3 hpl hce hL3 g3 hg0 hnq HLi2
  go_wp2_with fail
  go_at_call 87
  refine(HSp.out _).mono ?_
  rintro e w4 ⟨rfl,g4⟩
  have hL4:=HL3.out.1.nw g4
  have hup4:=HRow.out _ _ _ _ 3 (by decide) (.int .i64 wn) ⟨b0,b1,b2,wn,0⟩ rfl hL4.own
  have hL5:=(hL4.row (a:=⟨g,k*5+3,none⟩) rfl (.int .i64 wn) hup4).eq (HCq.out ⟨b0,b1,b2,wn,0⟩ rfl).symm
  have hg5:Nw w2 (w4.setCell ⟨g,k*5+3,none⟩ (.int .i64 wn)):=(HL3.out.2.1.trans g4).st HL3.out.2.2.1 _
  have mf:=Z0h hL4.own rfl (k*5+3)
  have hgl4:=olt hL4.own rfl
  have hc4:=HCo.out _ _ _ _ hL4.own
  have m3':=hc4 3 _ rfl
  obtain⟨w5,hw5⟩:∃w5,w4.setCell ⟨g,k*5+3,none⟩ (.int .i64 wn)=w5:=⟨_,rfl⟩
  rw[hw5] at hL5 hg5
  have HW5:=hD0 hw5
  obtain⟨q',hq'⟩:∃q',q.set k ⟨b0,b1,b2,wn,0⟩=q':=⟨_,rfl⟩
  have hk':k<q'.length:=by rw[←hq',List.length_set];exact hk
  have hqk:q'[k]=⟨b0,b1,b2,wn,0⟩:=by subst hq';simp
  have hcl:q.length=q'.length:=by rw[←hq',List.length_set]
  have hss:∀x:Rq,q'.set k x=q.set k x:=fun x=>by rw[←hq',List.set_set]
  have hkn':∀R∈q',Zq R.md=true:=fun R hR=>by
   rw[←hq'] at hR
   rcases List.mem_or_eq_of_mem_set hR with hR | rfl
   ·exact(HOk.out.rt R hR).md
   ·exact HWk.out.2.2
  have hc5:∀j u,(Zi ⟨b0,b1,b2,wn,0⟩)[j]?=some u→w5.cell? ⟨g,k*5+j,none⟩=some u:=fun j u hu=>Yq (q:=q') (by rw[←hq'];exact hL5.own) hcl k hk' j u (by rw[hqk];exact hu)
  rw[hq'] at hL5
  have HQk:=hD0 (aI0 hq' (aI0 hqk (aI0 hcl (aI0 hss hkn'))))
  have HL5:=hD0 (aI0 hL5 hg5)
  have hN5:=(Nw.refl w5).drewQ
  clear m2 p2 hpl3 hL4 hup4 hL5 hg5 hw5 g4 hqk hcl hss hkn' HRow HRow2 HCo hq' hgl
  go_wp2
  rw[HW5.out]
  clear HW5 m3' mf hgl4 hc4
  by_cases he:wn=b2
  ·have de:(wn==b2)=true:=by simpa using he
   have s2:∀x,Nw w5 x→x.cell? ⟨g,k*5+2,none⟩=some (.int .i64 b2):=fun x hx=>hx.kp (hc5 2 _ rfl)
   have s3:∀x,Nw w5 x→x.cell? ⟨g,k*5+3,none⟩=some (.int .i64 wn):=fun x hx=>hx.kp (hc5 3 _ rfl)
   obtain⟨wc,hwc⟩:∃wc,w5.drew=wc:=⟨_,rfl⟩
   have q1:=hN5
   refine Z5 [some true,some true,some true,some true,some true,some true,some true,some true,some true,some true,some true,some true,some false,none,some true,some true] (Nw w5) (by kernel_rfl) (by kernel_rfl) (by kernel_rfl) q1 ?_
   rw[hwc] at q1 ⊢
   clear hwc hN5
   repeat (first
    | (refine HW.off ?_)
    | (refine HW.take' ?_;(first | (refine⟨undef,Or.inr ⟨by rfl,rfl⟩,?_⟩) | (apply Exists.intro;refine⟨Or.inl ⟨by rfl,?_⟩,?_⟩;(intro x hx;go_simp;first | done | with_reducible rfl)));(try simp only[Act.put,List.setIfInBounds_toArray,List.set_cons_zero,List.set_cons_succ]))
    | (refine HW.go (fun K hK=>?_);go_simp;(refine hK.out _ _ q1 ?_;intro _;clear hK K)))
   refine HW.end_ ?_
   refine NoPanic.normal ?_
   have hR:=HRr.out
   rw[if_pos he] at hR
   simp only at hR
   subst hR
   have hL6:=HL5.out.1.nw q1
   have g6:=HL5.out.2.trans q1
   rw[←HQk.out.1,HSl.out ⟨b0,b1,b2,wn,0⟩ (by rw[HWk.out.1,he])] at hL6
   have HL7:=hD0 hL6
   have hpl:=Z1 hL6.obj
   have e0:=Z0 (j:=0) hL6.obj
   have e1:=Z0 (j:=1) hL6.obj
   have e2:=Z0 (j:=2) hL6.obj
   have e3:=Z0 (j:=3) hL6.obj
   have hq7:=g6.at' HQ2.out.2
   have HN7:=hD0 (HN2.out.trans g6)
   have HS:=hD0 (Z1 HQ2.out.2)
   have d0:=Z0 (j:=0) hq7
   have d1:=Z0 (j:=1) hq7
   have d2:=Z0 (j:=2) hq7
   have d3:=Z0 (j:=3) hq7
   have fz:=fun k=>hfz (j:=k) hq7
   have hsl2:=Z1 hq7
   clear s2 s3 hL6 g6 hc5 hq7 q1 HL5 HL3 HQk HRr HUq HSl HCh HCq HAw
   go_wp2
   exact bodyPost_ret (v:=.tuple #[.agg #[.int .i64 t,.int .i64 r,.slice (some ⟨g,0,none⟩) q.length cap,.int .i64 W],.bool true,.int .i64 0]) (by simp only[results,results56];simp[go_sem, *]) rfl ⟨_,rfl,Zh HN7.out (Nat.le_succ _) _ _ _ _,(HL7.out.done HS.out _ _ _ _).1,HL7.out.own.cap,HL7.out.own.fresh HN2.out.sz⟩
  ·have de:(wn==b2)=false:=by simpa using he
   have hE0:=HL5.out.1.nw hN5
   have m2:=hc5 2 _ rfl
   have m3:=hc5 3 _ rfl
   have hgl5:=World.block_lt_of_cell? _ _ m2
   obtain⟨B,hB⟩:∃B,upF q ⟨b0,b1,b2,b3,0⟩ wn=B:=⟨_,rfl⟩
   have hEn:=Zco hE0 k hk' ⟨HOk.out.w0,HOk.out.wB⟩ HQk.out.2.2.2.2 (by have:=HL3.out.2.2.2;omega) (by have:=HQk.out.2.2.1;omega) ⟨b0,b1,b2,wn,0⟩ HQk.out.2.1 HWk.out.2.1 B (by
    simp only[enR]
    rw[HQk.out.2.2.2.1,←HQk.out.1,←hB,←HUq.out])
   simp only[enR,HQk.out.2.2.2.1] at hEn
   have HEn:=hD0 hEn
   have HN5:=hD0 hN5
   clear hE0 hEn hN5 hc5
   refine wp_region_still_tail 12 (by kernel_rfl) (by kernel_rfl) ?_
   simp only[List.take_succ_cons,List.take_zero,List.drop_succ_cons,List.drop_zero]
   repeat still_step
   try refine wpStill_nil ?_
   change wpList _ _ _ _ _ w5.drew
   go_wp2_with fail
   go_at_call 82
   refine HEn.out.mono ?_
   rintro e w6 ⟨rfl,g6',n6,_,hL6⟩
   have g6:Nw w2 w6:=Below.trans (HL5.out.2.trans HN5.out) g6'
   have hR:=HRr.out
   rw[if_neg he,hB] at hR
   clear m2 m3 hgl5 HEn HN5 g6' HUq hB
   cases B
   ·simp only[Bool.false_eq_true,if_false] at hL6 hR
    have hch:=HCh.out (fun x=>⟨x.id,x.txn,x.md,wn,W+1⟩)
    simp only at hch
    rw[hch] at hR
    subst hR
    have HL7:=hD0 hL6
    have hpl:=Z1 hL6.obj
    have e0:=Z0 (j:=0) hL6.obj
    have e1:=Z0 (j:=1) hL6.obj
    have e2:=Z0 (j:=2) hL6.obj
    have e3:=Z0 (j:=3) hL6.obj
    have hq7:=g6.at' HQ2.out.2
    have HN7:=hD0 (HN2.out.trans g6)
    have HS:=hD0 (Z1 HQ2.out.2)
    have d0:=Z0 (j:=0) hq7
    have d1:=Z0 (j:=1) hq7
    have d2:=Z0 (j:=2) hq7
    have d3:=Z0 (j:=3) hq7
    have fz:=fun k=>hfz (j:=k) hq7
    have hsl2:=Z1 hq7
    clear hL6 g6 hq7 HL5 HL3 HQk HRr HSl HCh HCq HAw hch
    go_wp2
    exact bodyPost_ret (v:=.tuple #[.agg #[.int .i64 t,.int .i64 r,.slice (some ⟨g,0,none⟩) q.length cap,.int .i64 (W+1)],.bool false,.int .i64 0]) (by simp only[results,results56];simp[go_sem, *]) rfl ⟨_,rfl,Zh HN7.out (Nat.le_succ _) _ _ _ _,(HL7.out.done HS.out _ _ _ _).1,HL7.out.own.cap,HL7.out.own.fresh HN2.out.sz⟩
   ·simp only[if_true] at hL6 hR
    have hch:=HCh.out (fun x=>⟨x.id,x.txn,wn,wn,0⟩)
    simp only at hch
    rw[hch] at hR
    subst hR
    have HL7:=hD0 hL6
    have hpl:=Z1 hL6.obj
    have e0:=Z0 (j:=0) hL6.obj
    have e1:=Z0 (j:=1) hL6.obj
    have e2:=Z0 (j:=2) hL6.obj
    have e3:=Z0 (j:=3) hL6.obj
    have hq7:=g6.at' HQ2.out.2
    have HN7:=hD0 (HN2.out.trans g6)
    have HS:=hD0 (Z1 HQ2.out.2)
    have d0:=Z0 (j:=0) hq7
    have d1:=Z0 (j:=1) hq7
    have d2:=Z0 (j:=2) hq7
    have d3:=Z0 (j:=3) hq7
    have fz:=fun k=>hfz (j:=k) hq7
    have hsl2:=Z1 hq7
    clear hL6 g6 hq7 HL5 HL3 HQk HRr HSl HCh HCq HAw hch
    go_wp2
    exact bodyPost_ret (v:=.tuple #[.agg #[.int .i64 t,.int .i64 r,.slice (some ⟨g,0,none⟩) q.length cap,.int .i64 W],.bool true,.int .i64 0]) (by simp only[results,results56];simp[go_sem, *]) rfl ⟨_,rfl,Zh HN7.out (Nat.le_succ _) _ _ _ _,(HL7.out.done HS.out _ _ _ _).1,HL7.out.own.cap,HL7.out.own.fresh HN2.out.sz⟩
theorem Zf5{W:Int}{q q':List Rq}{ids:List Int}(h:Steps q ids q')(h0:Ok W q):ids <+: (Zc q).1:=by
 have hw:=h.wtg h0
 have:=h.scn h0 (wtg q')
 unfold Zc
 rw[←hw,Nat.add_comm,this]
 exact List.prefix_append _ _
theorem Z1b{W:Int}{q q':List Rq}{ids:List Int}(h:Steps q ids q')(h0:Ok W q):q'.length=q.length:=by
 rw[(h.form h0).1];simp
structure Zds(q q':List Rq)(T:List Int)(i:Nat):Prop where
 same:∀x∈T.drop i,V7 q' x=V7 q x
 rest:∀k:Nat,k<q.length→(k:Int)∉T.drop i→¬0<(V7 q' k).sn
structure TOk(q:List Rq)(T:List Int):Prop where
 sorted:T.Pairwise (fun x y=>tC q x y<0)
 mem:∀x,x∈T↔∃k:Nat,k<q.length∧x=k∧0<(V7 q x).sn
 nodup:T.Nodup
theorem Zjm{q:List Rq}{T:List Int}(h:TOk q T):Zds q q T 0:=⟨fun _ _=>rfl,fun k hk hn hs=>hn (by rw[List.drop_zero];exact(h.mem _).2 ⟨k,hk,rfl,hs⟩)⟩
theorem Znh{W:Int}{q:List Rq}(h:Ok W q)(x y z:Int)(h1:tC q x y<0)(h2:tC q y z<0):tC q x z<0:=by
 unfold tC at *
 rw[Zo] at *
 generalize V7 q x=a at *
 generalize V7 q y=b at *
 generalize V7 q z=c at *
 by_cases za:a.md=0<;>by_cases zb:b.md=0<;>by_cases zc:c.md=0<;>simp[za,zb,zc] at h1 h2 ⊢<;>omega
theorem Zpv{W:Int}{q:List Rq}(h:Ok W q)(x y:Int)(hx:∃k:Nat,k<q.length∧x=k∧0<(V7 q x).sn)(hy:∃k:Nat,k<q.length∧y=k∧0<(V7 q y).sn)(ne:x≠y):tC q x y<0∨tC q y x<0:=by
 obtain⟨i,hi,rfl,si⟩:=hx
 obtain⟨j,hj,rfl,sj⟩:=hy
 unfold tC
 rw[Zo,Zo]
 rw[Yr q i hi] at *
 rw[Yr q j hj] at *
 have hs:q[i].sn≠q[j].sn:=by
  intro e
  have:=h.injS _ (gM0 hi) _ (gM0 hj) si e
  have hid:=List.pairwise_iff_getElem.1 h.pr
  rcases Nat.lt_trichotomy i j with g | g | g
  ·exact(hid i j hi hj g).id (by rw[this])
  ·exact ne (by rw[g])
  ·exact(hid j i hj hi g).id (by rw[this])
 by_cases za:q[i].md=0<;>by_cases zb:q[j].md=0<;>simp[za,zb]<;>omega
theorem Zcg{T:List Int}{i:Nat}(hi:i<T.length):T.drop i=T[i]::T.drop (i+1):=List.drop_eq_getElem_cons hi
theorem Zfg{W:Int}{q q':List Rq}{ids:List Int}{T:List Int}{i:Nat}(h:Ok W q)(hs:Steps q ids q')(hT:TOk q T)(hI:Zds q q' T i)(hi:i<T.length) :
  ∃k:Nat,T[i]=k∧∃hk:k<q'.length,q'[k]=V7 q k∧0<q'[k].sn∧(Z0x (Zk q') q'[k].md q'[k].wt=true→Y7 q' q'[k]=true)∧(Z0x (Zk q') q'[k].md q'[k].wt=false→Vp q'):=by
 have hm:T[i]∈T:=gM0 hi
 obtain⟨k,hk,e,hsn⟩:=(hT.mem _).1 hm
 have ok:=hs.ok h
 have hl:=Z1b hs h
 have hk':k<q'.length:=by omega
 have hd:=Zcg hi
 have hsm:V7 q' k=V7 q k:=by rw[←e];exact hI.same _ (by rw[hd];exact List.mem_cons_self)
 have hq':q'[k]=V7 q k:=by rw[←Yr q' k hk'];exact hsm
 have hsn':0<q'[k].sn:=by rw[hq',←e];exact hsn
 have hlate:∀j (hj:j<q'.length),j≠k→0<q'[j].sn→toI q'[k] q'[j]<0:=by
  intro j hj ne hsj
  have hjm:(j:Int)∈T.drop i:=by
   refine Classical.byContradiction fun hn=>hI.rest j (by omega) hn ?_
   rw[Yr q' j hj];exact hsj
  rw[hd] at hjm
  rcases List.mem_cons.1 hjm with q1 | q1
  ·rw[e] at q1;omega
  ·have hp:=hT.sorted
   rw[List.pairwise_iff_getElem] at hp
   obtain⟨m,hm1,hm2⟩:=List.getElem_of_mem q1
   simp at hm1 hm2
   have:=hp i (i+1+m) hi (by omega) (by omega)
   rw[hm2,e] at this
   unfold tC at this
   have h2:V7 q' j=V7 q j:=hI.same _ (by rw[hd];exact List.mem_cons_of_mem _ q1)
   rw[Yr q' j hj] at h2
   rw[hq',h2]
   exact this
 have hfit:Z0x (Zk q') q'[k].md q'[k].wt=true↔∀o∈q',o.id≠q'[k].id→Ui o.md q'[k].wt=true:=by
  rw[Z7p q' k hk' _ (fun R hR=>(ok.rt R hR).md),List.all_eq_true]
  obtain⟨hq,hl1,hl2⟩:=ok.nth k hk'
  constructor
  ·intro hf o ho ne
   rw[hq] at ho
   rcases List.mem_append.1 ho with g | g
   ·exact hf o (List.mem_append_left _ g)
   ·rcases List.mem_cons.1 g with rfl | g
    ·exact absurd rfl ne
    ·exact hf o (List.mem_append_right _ g)
  ·intro hf o ho
   rcases List.mem_append.1 ho with g | g
   ·exact hf o (List.mem_of_mem_take g) (hl1 o g)
   ·exact hf o (List.mem_of_mem_drop g) (hl2 o g)
 have hex:Z0x (Zk q') q'[k].md q'[k].wt=false→∃o∈q',o.id≠q'[k].id∧o.md≠0∧Ui o.md q'[k].wt=false:=by
  intro hf
  refine Classical.byContradiction fun hn=>?_
  have:Z0x (Zk q') q'[k].md q'[k].wt=true:=hfit.2 fun o ho ne=>by
   cases hc:Ui o.md q'[k].wt with
   | true=>rfl
   | false =>
    refine absurd ⟨o,ho,ne,fun z=>?_,hc⟩ hn
    rw[z,Zcm _ (ok.rt _ (gM0 hk')).wt] at hc
    cases hc
  rw[this] at hf;cases hf
 refine⟨k,e,hk',hq',hsn',fun hf=>?_,fun hf=>?_⟩
 ·have hf':=hfit.1 hf
  by_cases z:q'[k].md=0
  ·refine Zkb ok hk' z (fun a ha za=>?_) (fun a ha hu=>?_) (fun o ho ne _=>hf' o ho ne)
   ·obtain⟨j,hj,rfl⟩:=List.getElem_of_mem ha
    simp at hj za
    have hp:=List.pairwise_iff_getElem.1 ok.pr j k (by omega) hk' (by omega)
    have Z1:=hlate j (by omega) (by omega) ((ok.rt _ (gM0 (by omega))).w' za)
    rw[Zo] at Z1
    have:=(hp.ord za).2
    simp[z,za] at Z1
    omega
   ·obtain⟨j,hj,rfl⟩:=List.getElem_of_mem ha
    by_cases ne:j=k
    ·subst ne;exact hu.1 z
    ·have Z1:=hlate j hj ne hu.2
     rw[Zo] at Z1
     simp[z,hu.1] at Z1
  ·refine Zka ok (gM0 hk') ⟨z,hsn'⟩ (fun a ha hu=>?_) (fun o ho ne _=>hf' o ho ne)
   obtain⟨j,hj,rfl⟩:=List.getElem_of_mem ha
   by_cases ne:j=k
   ·subst ne;exact Int.le_refl _
   ·have Z1:=hlate j hj ne hu.2
    rw[Zo] at Z1
    simp[z,hu.1] at Z1
    omega
 ·have hf':=hex hf
  by_cases z:q'[k].md=0
  ·refine Zkm ok hk' z (fun a ha za=>?_) (fun a ha hu=>?_) hf'
   ·obtain⟨j,hj,rfl⟩:=List.getElem_of_mem ha
    simp at hj za
    have hp:=List.pairwise_iff_getElem.1 ok.pr j k (by omega) hk' (by omega)
    have Z1:=hlate j (by omega) (by omega) ((ok.rt _ (gM0 (by omega))).w' za)
    rw[Zo] at Z1
    have:=(hp.ord za).2
    simp[z,za] at Z1
    omega
   ·obtain⟨j,hj,rfl⟩:=List.getElem_of_mem ha
    by_cases ne:j=k
    ·subst ne;exact hu.1 z
    ·have Z1:=hlate j hj ne hu.2
     rw[Zo] at Z1
     simp[z,hu.1] at Z1
  ·refine Zkl ok (gM0 hk') ⟨z,hsn'⟩ (fun a ha hu=>?_) hf'
   obtain⟨j,hj,rfl⟩:=List.getElem_of_mem ha
   by_cases ne:j=k
   ·subst ne;exact Int.le_refl _
   ·have Z1:=hlate j hj ne hu.2
    rw[Zo] at Z1
    simp[z,hu.1] at Z1
    omega
theorem Zfh{W:Int}{q q':List Rq}{ids:List Int}{T:List Int}{i k:Nat}(h:Ok W q)(hs:Steps q ids q')(hT:TOk q T)(hI:Zds q q' T i)(hi:i<T.length)(e:T[i]=k)(hk:k<q'.length)(hc:Y7 q' q'[k]=true) :
  Steps q (ids++[q'[k].id]) (q'.set k (U9 q'[k]))∧Zds q (q'.set k (U9 q'[k])) T (i+1):=by
 have ok:=hs.ok h
 have hl:=Z1b hs h
 have hd:=Zcg hi
 have hnd:=hT.nodup
 have hnk:(k:Int)∉T.drop (i+1):=by
  have:(T.drop i).Nodup:=List.Sublist.nodup (List.drop_sublist _ _) hnd
  rw[hd,e] at this
  exact(List.nodup_cons.1 this).1
 have hst:=hs.snoc (gM0 hk) hc
 rw[Z3z ok U9 k hk] at hst
 have hat:∀j:Nat,j≠k→V7 (q'.set k (U9 q'[k])) j=V7 q' j:=by
  intro j ne
  unfold V7
  simp only[Int.toNat_natCast,List.getD]
  rw[List.getElem?_set_ne (by omega)]
 refine⟨hst,fun x hx=>?_,fun j hj hn=>?_⟩
 ·obtain⟨j,hj,rfl,_⟩:=(hT.mem x).1 (List.mem_of_mem_drop hx)
  have ne:j≠k:=fun q1=>hnk (by rw[←q1];exact hx)
  rw[hat j ne]
  exact hI.same _ (by rw[hd];exact List.mem_cons_of_mem _ hx)
 ·by_cases ne:j=k
  ·subst ne
   rw[Yr _ j (by simpa using hk)]
   simp[U9]
  ·rw[hat j ne]
   refine hI.rest j hj fun q1=>?_
   rw[hd] at q1
   rcases List.mem_cons.1 q1 with q2 | q2
   ·rw[e] at q2;omega
   ·exact hn q2
theorem Zjn{W:Int}{q q':List Rq}{ids:List Int}{T:List Int}{i:Nat}(h:Ok W q)(hs:Steps q ids q')(hI:Zds q q' T i)(hi:¬i<T.length):Vp q':=by
 have hl:=Z1b hs h
 intro s hsm
 cases c:Y7 q' s with
 | false=>rfl
 | true =>
  obtain⟨j,hj,rfl⟩:=List.getElem_of_mem hsm
  refine absurd (Z0b c) ?_
  have:=hI.rest j (by omega) (by rw[List.drop_of_length_le (by omega)];simp)
  rwa [Yr q' j hj] at this
open Go.Shelf
section
attribute [local go_sem] Oper.semAt_some
theorem Z25{w:World}{a:Addr}{v:Value}(h:w.cell? a=some v):∃o:Obj,w.heap[a.block]?=some o∧o.isCells=true:=by
 unfold World.cell? at h
 cases ho:w.heap[a.block]? with
 | none=>simp[ho] at h
 | some o=>exact⟨o,rfl,by cases o<;>simp_all [Obj.isCells]⟩
theorem Vj.same{n₀:Nat}{S:Nat→Prop}{A B:World}{a:Addr}{v:Value}(h:Vj n₀ S A B)(hc:A.cell? a=some v)(hn:¬S a.block):B.heap[a.block]?=A.heap[a.block]?:=by
 obtain⟨o,ho,hco⟩:=Z25 hc
 rcases h.block a.block (Array.getElem?_eq_some_iff.1 ho).1 hn with e | ⟨_,o',ho',hc'⟩
 ·exact e
 ·rw[ho] at ho';cases ho';rw[hco] at hc';cases hc'
theorem Zaz.later{F:Fence}{n:Nat}{P:Program}{g:Nat}{fa lb:Array Value}{xs:List Int}{S0:Nat→Prop}{End:World→Prop}{w w':World}(h:Zaz F n P g fa lb xs S0 End w)(k:Nw w w'):Zaz F n P g fa lb xs S0 End w' :=
 fun l J Jx W hW=>h l J Jx W (k.trans hW)
theorem Z1h{F:Fence}{n:Nat}{P:Program}{w:World}{ops:Array Oper}{rest:List Oper}{o:Oper}{a:Act}{Q:Exit→Act→World→Prop}
  (hg:o.guard=none) (s x:Operand) (t:TypeId) (hop:o.op=Op.call { callee:=Callee.builtin Builtin.append,args:=#[s,x],argTypes:=#[t,t] })
  (v u v':Value) (w':World) (hs:a.eval s=v) (hx:a.eval x=u) (hr:(Builtin.append_ #[t,t] o.type #[v,u]).run P w=.ok v' w') (h:wpListIn F n P ops Q rest (a.put o.dst v') w'):wpListIn F n P ops Q (o::rest) a w:=by
 refine wpListIn_plain hg fun K hK'=>?_
 unfold Oper.wpIn
 refine⟨?_,?_⟩
 ·simp[Oper.about,hop,resolve,Target.leads,Sem.run_pure]
 ·rw[Oper.semAt_plain F _ _ (by rw[hop];intro c hc';cases hc')]
  simp[execOp,hop,resolve,invoke,builtin,hs,hx,hr,Result.andThen]
  exact hK' _ _ h
theorem Zov{a n₀:Nat}{A B:World}(h:KeepsFrom a A B)(k:a≤n₀)(hn:∀k,(k=n₀∨k=n₀+1)→∃o,A.heap[k]?=some o∧o.isCells=false):KpD n₀ A B:=fun i hi=>by
 obtain⟨o,ho,hc⟩:=hn i hi
 exact(h.same i o (by omega) ho hc).trans ho.symm
def AsI(w:World)(S0:Nat→Prop)(S:Nat→Prop)(pre:List Int)(A:World):Prop :=
 ∃v,A.cell? ⟨w.heap.size,0,none⟩=some v∧A.frozen? ⟨w.heap.size,0,none⟩=false∧IS A v pre∧(∀k,v.ownBlock=some k→w.heap.size<k∧¬S k)∧¬S w.heap.size∧(∀k,S k→S0 k∨w.heap.size≤k)∧Z3 S0 w A
theorem AsI.step{w:World}{n₀:Nat}{S0 S S':Nat→Prop}{pre:List Int}{A B:World}(hn:w.heap.size≤n₀)(h:AsI w S0 S pre A)(k:Vj n₀ S A B)(_h1:∀k,S k→S' k)(h2:∀k,S' k→S k∨A.heap.size≤k):AsI w S0 S' pre B:=by
 obtain⟨v,a0,af,a1,a2,a3,a4,a5⟩:=h
 have e:=k.same a0 a3
 refine⟨v,(World.cell?_of_block e).trans a0,(World.frozen?_of_block e).trans af,k.row a1 (fun g e=>(a2 g e).2),fun g e=>⟨(a2 g e).1,fun hs=>?_⟩,fun hs=>?_,fun i hs=>?_,k.tch a5 hn (fun i hi hs=>(a4 i hs).resolve_right (by omega))⟩
 ·rcases h2 g hs with h | h
  ·exact(a2 g e).2 h
  ·have:=a1.lt e;omega
 ·rcases h2 _ hs with h | h
  ·exact a3 h
  ·have:=World.block_lt_of_cell? _ _ a0;simp only at this;omega
 ·rcases h2 i hs with h | h
  ·exact a4 i h
  ·exact .inr (Nat.le_trans a5.size h)
theorem AsI.push{w:World}{S0 S:Nat→Prop}{pre:List Int}{x:Int}{A w1:World}{v v':Value}(a0:A.cell? ⟨w.heap.size,0,none⟩=some v)(af:A.frozen? ⟨w.heap.size,0,none⟩=false)(a1:IS A v pre)(a2:∀k,v.ownBlock=some k→w.heap.size<k∧¬S k)(a3:¬S w.heap.size)(a4:∀k,S k→S0 k∨w.heap.size≤k)(a5:Z3 S0 w A)
  (hex:∀k,S k→k<A.heap.size) (p1:IS w1 v' (pre++[x])) (p2:Z3 (fun k=>v.ownBlock=some k) A w1) (p3:∀k,v'.ownBlock=some k→v.ownBlock=some k∨A.heap.size≤k) :
  w1.cell? ⟨w.heap.size,0,none⟩=some v∧w1.frozen? ⟨w.heap.size,0,none⟩=false∧AsI w S0 S (pre++[x]) (w1.setCell ⟨w.heap.size,0,none⟩ v')∧Vn S A (w1.setCell ⟨w.heap.size,0,none⟩ v')∧KeepsFrom w.heap.size A (w1.setCell ⟨w.heap.size,0,none⟩ v'):=by
 have hbl:=World.block_lt_of_cell? _ _ a0
 simp only at hbl
 have hnv:v.ownBlock≠some w.heap.size:=fun e=>by have:=(a2 _ e).1;omega
 have c1:w1.cell? ⟨w.heap.size,0,none⟩=some v:=(p2.cell hbl hnv).trans a0
 have f1:w1.frozen? ⟨w.heap.size,0,none⟩=false:=(p2.froz hbl hnv).trans af
 have p4:Z3 (fun k=>v.ownBlock=some k∨k=w.heap.size) A (w1.setCell ⟨w.heap.size,0,none⟩ v'):=(p2.mono (fun _ _ e=>.inl e)).set (p:=⟨w.heap.size,0,none⟩) (.inl (.inr rfl)) v'
 have hne:∀k,v'.ownBlock=some k→k≠w.heap.size:=fun k e q=>by
  rcases p3 k e with h | h
  ·have:=(a2 k h).1;omega
  ·omega
 have hI:IS (w1.setCell ⟨w.heap.size,0,none⟩ v') v' (pre++[x]):=p1.tch (Zp w1 ⟨w.heap.size,0,none⟩ v') (fun g e q=>hne g e q)
 refine⟨c1,f1,⟨v',?_,?_,hI,fun k e=>?_,a3,a4,a5.trans' p4 fun i hi e=>?_⟩,Vn.tch p4 fun k e=>⟨hex k e,fun q=>?_⟩,⟨p4.size,fun k o hk h0 ho=>?_⟩⟩
 ·exact World.cell?_setCell_same _ _ _ c1
 ·rw[World.frozen?_setCell];exact f1
 ·rcases p3 k e with h | h
  ·exact a2 k h
  ·exact⟨by omega,fun q=>by have:=hex k q;omega⟩
 ·rcases e with e | rfl
  ·have:=(a2 i e).1;omega
  ·omega
 ·rcases q with q | rfl
  ·exact(a2 k q).2 e
  ·exact a3 e
 ·refine(p4.block k (Array.getElem?_eq_some_iff.1 h0).1 ?_).trans h0
  rintro(e | rfl)
  ·rcases a1.form with⟨rfl,_⟩ | ⟨g,cap,rfl⟩
   ·simp[Value.ownBlock] at e
   ·rcases a1.2 with⟨h',_⟩ | ⟨g2,cap2,cur,h',_,hg,_⟩
    ·simp at h'
    ·simp only[Value.slice.injEq,Option.some.injEq,Addr.mk.injEq,and_true,true_and] at h'
     obtain⟨rfl,rfl⟩:=h'
     simp[Value.ownBlock] at e
     subst e
     rw[h0] at hg;cases hg;cases ho
  ·obtain⟨o',ho',hc'⟩:=Z25 a0
   rw[h0] at ho';cases ho';rw[ho] at hc';cases hc'
def Zar(w:World)(S0:Nat→Prop)(End:World→Prop)(xs:List Int)(e:Ending)(W:World):Prop :=
 ∃v,e=.returned v∧IS W v xs∧(∀k,v.ownBlock=some k→w.heap.size≤k)∧End W∧Z3 S0 w W
theorem Z78(n:Nat)(hn:3≤n)(gf:Nat)(fa lb:Array Value)(eg:∀args w,(callFunc gf args).run prog w=.ok (.enter gf args) w)(xs:List Int)(S0:Nat→Prop)(End:World→Prop)(w:World)(hsm:xs.length≤100000)
  (hS0:∀k,S0 k→k<w.heap.size) (hseq:Zaz Fence.wide (n-1) prog gf fa lb xs S0 End w) (hEnd:∀(A:World) (l:Nat) (o o':Obj),w.heap.size≤l→A.heap[l]?=some o→o.isCells=false→End A→End (A.putObj l o')) :
  CallsIn Fence.wide n prog 142 #[.slice none 0 0,.func (.func gf) fa lb] w (Zar w S0 End xs):=by
 have h1:1≤n:=by omega
 refine callsIn_of_wp_marks func142 rfl trivial ?_ rfl
 simp only[ntmps142,List.size_toArray,List.length_cons,List.length_nil,Nat.reduceAdd,Nat.reduceSub,Array.replicate_succ,Array.replicate_zero,List.push_toArray,List.append_toArray,List.nil_append,List.cons_append]
 gi_wp2
 have hA0:AsI w S0 S0 [] (w.alloc (.cells #[.slice none 0 0] 38)) :=
  ⟨.slice none 0 0,by simp[go_sem],by simp[go_sem],World.ownsRow_nil _ _ _ _,fun k e=>by simp[Value.ownBlock] at e,fun e=>by have:=hS0 _ e;omega,fun k e=>.inl e,(Z3.refl _ _).alloc _⟩
 have hsz:(w.alloc (.cells #[.slice none 0 0] 38)).heap.size=w.heap.size+1:=by simp
 have hnw:Nw w (w.alloc (.cells #[.slice none 0 0] 38)):=(Nw.refl w).alloc _
 obtain⟨W0,hW0⟩:∃W0,w.alloc (.cells #[.slice none 0 0] 38)=W0:=⟨_,rfl⟩
 rw[hW0] at hA0 hsz hnw ⊢
 clear hW0
 refine Zpi rfl h1 (gf:=gf) (fa:=fa) (lb:=lb) rfl trivial eg (S0:=S0) (End:=End) (xs:=xs) (fun k e=>by have:=hS0 k e;omega) (hseq.later hnw) rfl (fun A l o o' hl=>hEnd A l o o' (by omega))
  (AsI w S0) (fun _ _ _ _=>False) (fun S S' pre A B hi hc e1 e2 _=>hi.step (by omega) hc e1 e2) (fun _ _ _ _ _ _ h _ _ _ _=>h) hA0
  (fun x=>{ tmps:=#[.slice none 0 0,.func (.func gf) fa lb,.pointer (some ⟨w.heap.size,0,none⟩),undef,.slice none 0 0,.int .i64 x,.func (.func gf) fa lb,.int .i64 x,undef,undef,undef,undef,undef],defers:=[] }) ?assign ?body ?done ?stop
 case assign =>
  intro l x A K hK
  gi_wp2
  exact hK
 case body =>
  intro l S pre x A hi hsub hex hnc hpre
  obtain⟨v,a0,af,a1,a2,a3,a4,a5⟩:=hi
  have hln:pre.length+1≤xs.length:=by have:=hpre.length_le;simpa using this
  obtain⟨v',w1,hr,q1,q2,q3,⟨g',cap',hv'⟩⟩:=IS.push A v pre x a1 (by omega)
  have HR:=hD0 hr
  have HE0:=AsI.push a0 af a1 a2 a3 a4 a5 hex q1 q2 q3
  have Z1:=World.block_lt_of_cell? _ _ a0
  have hf:=a1.form
  have HN:=hD0 hnc
  have c1:=HE0.1
  have f1:=HE0.2.1
  have HE:=hD0 HE0.2.2
  have hlt1:=World.block_lt_of_cell? _ _ c1
  subst hv'
  clear hr q1 q2 q3 af a1 a2 a3 a4 a5 hex hsub hnc hpre hseq hEnd hA0 HE0
  have HSZ:=hD0 hsz
  clear hsz
  rcases hf with⟨rfl,hp0⟩ | ⟨g,cap,rfl⟩
  all_goals
   try clear hp0
   gi_wp2_with (gi_at_builtin;refine Z1h rfl (.tmp 8) (.tmp 10) 38 rfl _ _ _ _ rfl rfl HR.out ?_)
   exact⟨Zov HE.out.2.2 (by have:=HSZ.out;omega) (fun k e=>(HN.out k e).2),HE.out.2.1,HE.out.1⟩
 case done =>
  intro D S W hD _ hi hE hK
  obtain⟨v,a0,af,a1,a2,a3,a4,a5⟩:=hi
  have Z1:=World.block_lt_of_cell? _ _ a0
  have HE:Hid (Zar w S0 End xs (.returned v) (W.putObj D (.deferred none))):=by
   have hc:Vj D (fun _=>False) W (W.putObj D (.deferred none)):=Vj.put _ (.inl rfl) hK rfl
   exact⟨v,rfl,hc.row a1 (fun _ _ e=>e),fun k e=>Nat.le_of_lt (a2 k e).1,hEnd W D _ _ (by omega) hK rfl hE,hc.tch a5 (by omega) (fun _ _ e=>e.elim)⟩
  have hf:=a1.form
  clear hseq hEnd hA0 a1 a2 a3 a4 a5 hE hS0 hD
  have HSZ:=hD0 hsz
  clear hsz
  rcases hf with⟨rfl,hp0⟩ | ⟨g,cap,rfl⟩
  all_goals
   try clear hp0
   gi_wp2
   refine⟨by simp,.inl ⟨_,_,rfl,run_takeDeferred hK,?_⟩⟩
   exact⟨_,results_tmp (t:=4) rfl _ _ _,HE.out⟩
 case stop =>
  intro D c S pre W _ _ h _
  exact h.elim
theorem Z8v(gf:Nat)(fa lb:Array Value)(eg:∀args w,(callFunc gf args).run prog w=.ok (.enter gf args) w)(xs:List Int)(S0:Nat→Prop)(End:World→Prop)(w:World)(hsm:xs.length≤100000)
  (hS0:∀k,S0 k→k<w.heap.size) (hseq:Zaz Fence.wide 4 prog gf fa lb xs S0 End w) (hEnd:∀(A:World) (l:Nat) (o o':Obj),w.heap.size≤l→A.heap[l]?=some o→o.isCells=false→End A→End (A.putObj l o')) :
  Calls prog 117 #[.func (.func gf) fa lb] w (Zar w S0 End xs):=by
 have H:=hD0 (callsIn_wide.1 (Z78 5 (by omega) gf fa lb eg xs S0 End w hsm hS0 hseq hEnd))
 clear hseq hEnd hS0
 go_enter func117,ntmps117
 go_wp2_with fail
 refine H.out.mono ?_
 rintro e w1 h
 obtain⟨v,rfl,h⟩:=h
 have HP:=hD0 h
 clear h
 go_wp2
 go_ret
 exact⟨v,rfl,HP.out⟩
end
section
open Go.RowKit Go.Shelf Go.Maps Go.ChangeMaps
attribute [local go_sem] Oper.semAt_some
theorem Zgn:∀args w,(callFunc 118 args).run prog w=.ok (.enter 118 args) w:=enters_of func118 (by kernel_rfl) rfl
theorem Zez:43≠3:=by decide
def SL(p b:Nat)(v:Value):Nat→Prop:=fun k=>k=p∨k=b∨v.ownBlock=some k
theorem Ln.bound{w:World}{g0 p:Nat}{t r W:Int}{v:Value}{b n:Nat}{q:List Rq}{c:Int→Int}(h:Ln w g0 p t r W v b n q c):∀k,SL p b v k→k<w.heap.size:=by
 rintro k (rfl | rfl | e)
 ·exact Z1 h.obj
 ·exact h.map.lt
 ·exact olt h.own e
theorem Ln.kps{S:Nat→Prop}{A B:World}{g0 p:Nat}{t r W:Int}{v:Value}{b n:Nat}{q:List Rq}{c:Int→Int}(h:Ln A g0 p t r W v b n q c)(k:Vn S A B)(hS:∀i,SL p b v i→S i):Ln B g0 p t r W v b n q c:=by
 refine⟨(k.same p (hS p (.inl rfl))).trans h.obj,?_,?_,h.gp,h.gb⟩
 ·refine⟨h.own.1,?_⟩
  rcases h.own.2 with e | ⟨g,cap,cur,rfl,hb,hg,rest⟩
  ·exact .inl e
  ·exact .inr ⟨g,cap,cur,rfl,hb,(k.same g (hS g (.inr (.inr rfl)))).trans hg,rest⟩
 ·obtain⟨D,⟨es,cl,hb,F,hs,hD⟩,h2,h3⟩:=h.map
  exact⟨D,⟨es,cl,(k.same b (hS b (.inr (.inl rfl)))).trans hb,F,hs,hD⟩,h2,h3⟩
theorem IS.kps{S:Nat→Prop}{A B:World}{v:Value}{l:List Int}(h:IS A v l)(k:Vn S A B)(hS:∀g,v.ownBlock=some g→S g):IS B v l:=by
 refine⟨h.1,?_⟩
 rcases h.2 with e | ⟨g,cap,cur,rfl,hb,hg,rest⟩
 ·exact .inl e
 ·exact .inr ⟨g,cap,cur,rfl,hb,(k.same g (hS g rfl)).trans hg,rest⟩
structure GrI(J:(Nat→Prop)→List Int→World→Prop)(S:Nat→Prop)(g0 p:Nat)(t r W:Int)(v:Value)(b n:Nat)(q:List Rq)(T:List Int)(vt:Value)(i:Nat)(pre:List Int)(q':List Rq)(wr:World):Prop where
 j:J S pre wr
 bd:∀k,S k→k<wr.heap.size
 row:IS wr vt T
 st:Steps q pre q'
 ti:Zds q q' T i
 ln:∃n',n'≤n+2*i∧Ln wr g0 p t r W v b n' q' (Zk q')
def Zdp(g0 p:Nat)(t r W:Int)(v:Value)(b:Nat)(q:List Rq)(w:World):Prop:=∃n',Ln w g0 p t r W v b n' q (Zk q)
theorem Zli{w:World}{v:Value}{l:List Int}{rb:Nat}(h:IS w v l)(hb:∀g,v.ownBlock=some g→g≠rb)(u0 u1 u2 u3:Value):IS ((((w.setCell ⟨rb,0,none⟩ u0).setCell ⟨rb,1,none⟩ u1).setCell ⟨rb,2,none⟩ u2).setCell ⟨rb,3,none⟩ u3) v l :=
 (((h.tch (Zp w ⟨rb,0,none⟩ u0) hb).tch (Zp _ ⟨rb,1,none⟩ u1) hb).tch (Zp _ ⟨rb,2,none⟩ u2) hb).tch (Zp _ ⟨rb,3,none⟩ u3) hb
theorem Zgs{g0 p:Nat}{t r W:Int}{v:Value}{b:Nat}{q:List Rq}{m:Nat}(hb:∀k,SL p b v k→k<m)(A:World)(l:Nat)(o o':Obj)(hl:m≤l)(h:Zdp g0 p t r W v b q A):Zdp g0 p t r W v b q (A.putObj l o'):=by
 obtain⟨n',h⟩:=h
 refine⟨n',h.kps (S:=SL p b v) ⟨by simp,fun k e=>?_⟩ (fun _ e=>e)⟩
 exact World.putObj_heap_other (fun e2=>by have:=hb k e;omega)
end
section
open Go.RowKit Go.Maps Go.ChangeMaps
theorem Zi1:Keyed prog 3:=int_keyed underlying3
def Fit(k:Int):Prop:=-9223372036854775808≤k∧k≤9223372036854775807
theorem Zhx{k:Int}(h:Fit k):keyOf prog 3 (.int .i64 k)=some (.int .i64 k):=keyOf_int_mk underlying3 (wfM h.1 h.2)
theorem Zbp{k:Int}(h:Fit k):WideAt.IsKeyLit (.int .i64 k):=Zi1.key (Zhx h)
end
section
open Go.RowKit Go.Maps Go.ChangeMaps Go.WideShapes
abbrev ptN(p:Nat):Value:=.pointer (some ⟨p,0,none⟩)
def Z4x(x:Int × Nat):Lit × DataW Unit:=(.int .i64 x.1,.lit (.int .i64 (x.2:Int)))
structure Zy(w:World)(mb:Nat)(l:List (Int × Nat)):Prop where
 own:∃es,w.ownsMap prog 3 Ue mb l.length (.map es)∧es.Perm (l.map Z4x)
 wf:∀x∈l,Fit x.1
 ne:l.Pairwise fun x y=>x.1≠y.1
theorem Znk(w:World):(zeroValue 70).run prog w=.ok (.pointer none) w:=by kernel_rfl
variable {w w':World} {mb:Nat} {l:List (Int × Nat)}
theorem Zy.kept{row:Option Nat}(h:Zy w mb l)(hg:w.grownBy w' row)(hne:some mb≠row):Zy w' mb l:=by
 obtain⟨⟨es,h1,h2⟩,h3,h4⟩:=h
 exact⟨⟨es,h1.kept hg hne,h2⟩,h3,h4⟩
theorem Zy.nw(h:Zy w mb l)(g:Nw w w'):Zy w' mb l:=h.kept (g.grownBy none) (by simp)
theorem Zy.lt(h:Zy w mb l):mb<w.heap.size:=by obtain⟨⟨es,h1,_⟩,_⟩:=h;exact h1.lt
theorem Zy.same(h:Zy w mb l)(e:w'.heap[mb]?=w.heap[mb]?):Zy w' mb l:=by
 obtain⟨⟨es,⟨a,c,h1,h2⟩,h3⟩,h4,h5⟩:=h
 exact⟨⟨es,⟨a,c,e.trans h1,h2⟩,h3⟩,h4,h5⟩
theorem Zy.tch{S:Nat→Prop}(h:Zy w mb l)(t:Z3 S w w')(hS:¬S mb):Zy w' mb l:=h.same (t.block mb h.lt hS)
theorem Zy.made(w:World):Zy (w.alloc (.map #[] 0)) w.heap.size []:=⟨⟨[],World.ownsMap_made _ _ _ _,by simp⟩,by simp,by simp⟩
theorem Zy.cellne(h:Zy w mb l){b j:Nat}{v:Value}(hc:w.cell? ⟨b,j,none⟩=some v):b≠mb:=by
 obtain⟨⟨es,⟨a,c,h1,_⟩,_⟩,_⟩:=h
 rintro rfl
 unfold World.cell? at hc
 simp only[h1] at hc
 cases hc
theorem Z59{a b:Int}(e:Lit.int .i64 a=.int .i64 b):a=b:=by injection e
theorem Zy.has_in{es:List (Lit × DataW Unit)}(h2:es.Perm (l.map Z4x)){id:Int}{p:Nat}(hx:(id,p)∈l)(hf:Fit id):Maps.has (DataW.map es) (.int .i64 id)=true:=by
 rw[has_eq,Z4i h2,List.any_map,List.any_eq_true]
 exact⟨_,hx,WideAt.sameKey_self (Zbp hf)⟩
theorem Zy.has_no{es:List (Lit × DataW Unit)}(h2:es.Perm (l.map Z4x)){id:Int}(hx:∀x∈l,x.1≠id):Maps.has (DataW.map es) (.int .i64 id)=false:=by
 rw[has_eq,Z4i h2,List.any_map,List.any_eq_false]
 intro x hm hs
 exact hx x hm (Z59 (WideAt.sameKey_eq hs))
theorem Zy.uniq(h4:l.Pairwise fun x y=>x.1≠y.1){id:Int}{p q:Nat}(hp:(id,p)∈l)(hq:(id,q)∈l):p=q:=by
 induction l with
 | nil=>cases hp
 | cons z t ih =>
  obtain⟨p1,p2⟩:=List.pairwise_cons.1 h4
  rcases List.mem_cons.1 hp with e | hp'
  ·rcases List.mem_cons.1 hq with e2 | hq'
   ·have:=e.trans e2.symm
    exact congrArg Prod.snd this
   ·exact(p1 _ hq' (show z.1=id from(congrArg Prod.fst e).symm)).elim
  ·rcases List.mem_cons.1 hq with e2 | hq'
   ·exact(p1 _ hp' (show z.1=id from(congrArg Prod.fst e2).symm)).elim
   ·exact ih p2 hp' hq'
theorem Zy.at_in(h4:l.Pairwise fun x y=>x.1≠y.1){es:List (Lit × DataW Unit)}(h2:es.Perm (l.map Z4x)){id:Int}{p:Nat}(hx:(id,p)∈l)(hf:Fit id)(z:DataW Unit):(DataW.map es).atKey (.int .i64 id) z=.lit (.int .i64 (p:Int)):=by
 unfold DataW.atKey
 simp only
 cases e:es.find? (fun q=>q.1.sameKey (.int .i64 id)) with
 | none =>
  exfalso
  have:=List.find?_eq_none.1 e (Z4x (id,p)) (h2.mem_iff.2 (List.mem_map.2 ⟨_,hx,rfl⟩))
  exact this (WideAt.sameKey_self (Zbp hf))
 | some q =>
  have hm:=h2.mem_iff.1 (List.mem_of_find?_eq_some e)
  obtain⟨⟨y1,y2⟩,hy,rfl⟩:=List.mem_map.1 hm
  have hn:=Z59 (WideAt.sameKey_eq (List.find?_some (p:=fun q:Lit × DataW Unit=>q.1.sameKey (.int .i64 id)) e))
  simp only at hn
  subst hn
  rw[Zy.uniq h4 hx hy]
  rfl
theorem Zy.look_yes(h:Zy w mb l){id:Int}{p:Nat}(hx:(id,p)∈l) :
  (Instr.lookup 66 (.map (some mb)) (.int .i64 id) true).run prog w=.ok (.tuple #[ptN p,.bool true]) w:=by
 obtain⟨⟨es,o,h2⟩,h3,h4⟩:=h
 have hf:=h3 _ hx
 obtain⟨v,ps,hr,hv⟩:=o.look_ok (t:=66) Zi1 underlying66 (Znk w) (zd:=.nil) (zp:=[]) rfl (Zhx hf)
 rw[Zy.at_in h4 h2 hx hf] at hv
 rw[Z11 hv,Zy.has_in h2 hx hf] at hr
 exact hr
theorem Zy.look_no(h:Zy w mb l){id:Int}(hf:Fit id)(hx:∀x∈l,x.1≠id) :
  (Instr.lookup 66 (.map (some mb)) (.int .i64 id) true).run prog w=.ok (.tuple #[.pointer none,.bool false]) w:=by
 obtain⟨⟨es,o,h2⟩,h3,h4⟩:=h
 obtain⟨v,ps,hr,hv⟩:=o.look_ok (t:=66) Zi1 underlying66 (Znk w) (zd:=.nil) (zp:=[]) rfl (Zhx hf)
 have hh:=Zy.has_no h2 hx
 rw[atKey_of_not_has hh] at hv
 rw[Z3m hv,hh] at hr
 exact hr
theorem Zn6(l:List (Int × Nat)){id:Int}(hf:Fit id):(l.map Z4x).filter (notKey (.int .i64 id))=(l.filter fun x=>!decide (x.1=id)).map Z4x:=by
 induction l with
 | nil=>rfl
 | cons y t ih =>
  have e:notKey (.int .i64 id) (Z4x y)=!decide (y.1=id):=by
   unfold notKey Z4x
   by_cases q:y.1=id
   ·subst q
    rw[WideAt.sameKey_self (Zbp hf)]
    simp
   ·have:(Lit.int .i64 y.1).sameKey (.int .i64 id)=false:=sameKey_ne (fun e=>q (Z59 e))
    rw[this]
    simp[q]
  rw[List.map_cons,List.filter_cons,List.filter_cons,e,ih]
  split<;>simp
theorem Z91{l:List (Int × Nat)}{id:Int}(hx:∀x∈l,x.1≠id):(l.filter fun x=>!decide (x.1=id))=l:=List.filter_eq_self.2 fun x hm=>by simpa using hx x hm
theorem Zy.put(h:Zy w mb l)(hn:l.length<1000){id:Int}(hf:Fit id)(p:Nat)(hx:∀x∈l,x.1≠id) :
  ∃w',(Instr.mapUpdate 66 (.map (some mb)) (.int .i64 id) (ptN p)).run prog w=.ok () w'∧Zy w' mb ((id,p)::l)∧w.mapTurned w' mb:=by
 obtain⟨⟨es,o,h2⟩,h3,h4⟩:=h
 obtain⟨w',hr,o',hg⟩:=o.store (t:=66) Zi1 underlying66 (by unfold maxLen;omega) (Zhx hf) (val:=ptN p) (d:=.lit (.int .i64 (p:Int))) (ps:=[]) rfl
 have hp:(putKey (.int .i64 id) (.lit (.int .i64 (p:Int))) es).Perm (((id,p)::l).map Z4x):=by
  unfold putKey
  refine(insert_perm _ _).trans ?_
  rw[List.map_cons]
  refine List.Perm.cons _ ?_
  refine(h2.filter _).trans ?_
  rw[Zn6 l hf,Z91 hx]
 refine⟨w',hr,⟨⟨_,Z19 o' ?_,hp⟩,fun y hy=>?_,?_⟩,hg⟩
 ·show(putKey (.int .i64 id) (.lit (.int .i64 (p:Int))) es).length=_
  rw[hp.length_eq,List.length_map]
 ·rcases List.mem_cons.1 hy with rfl | hy
  ·exact hf
  ·exact h3 y hy
 ·exact List.pairwise_cons.2 ⟨fun y hy e=>hx y hy e.symm,h4⟩
theorem Zy.del(h:Zy w mb l){id:Int}(hf:Fit id)(ty:TypeId) :
  ∃w',(Builtin.delete_ #[66,3] ty #[.map (some mb),.int .i64 id]).run prog w=.ok (.tuple #[]) w'∧Zy w' mb (l.filter fun x=>!decide (x.1=id))∧w.mapTurned w' mb:=by
 obtain⟨⟨es,o,h2⟩,h3,h4⟩:=h
 obtain⟨w',hr,o',hg⟩:=o.drop (t:=66) Zi1 underlying66 (Zhx hf) ty
 have hp:(delKey (.int .i64 id) es).Perm ((l.filter fun x=>!decide (x.1=id)).map Z4x):=by
  unfold delKey
  rw[←Zn6 l hf]
  exact h2.filter _
 refine⟨w',hr,⟨⟨_,Z19 o' ?_,hp⟩,fun y hy=>h3 y ((List.mem_filter.1 hy).1),h4.filter _⟩,hg⟩
 show(delKey (.int .i64 id) es).length=_
 rw[hp.length_eq,List.length_map]
end
section
open Go.RowKit Go.Sort Go.Shelf
attribute [local go_sem] Oper.semAt_some
theorem Zgm:∀args w,(callFunc 88 args).run prog w=.ok (.enter 88 args) w:=enters_of func88 (by kernel_rfl) rfl
theorem names_any{w:World}{mb:Nat}{l:List Hp}(m:Zl w mb l)(s:Z4h l)(hl:l.length≤1000)(pc:Nat)(hpc:w.cell? ⟨pc,0,none⟩=some (.map (some mb))) :
  Calls prog 119 #[.func (.func 146) #[] #[.pointer (some ⟨pc,0,none⟩)],.func (.func 121) #[] #[]] w fun e w'=>∃v,e=.returned v∧Z3c w' w.heap.size v (Z0t l)∧Nw w w':=by
 have hnl:(Z0t l).length=l.length:=List.length_map _
 refine(Z5k _ _ Zkp _ (fun ss=>ss.Perm (Z0t l)) (fun k=>k=mb) w (fun xs h=>?_) (fun xs h=>by rw[h.length_eq];omega) (fun k e=>by subst e;exact m.lt) (Zhy 4 (by omega) pc mb l w hpc m)).mono ?_
 ·have:=Z1p h.1 h.2
  omega
 ·rintro e w' ⟨v,xs,rfl,hp,hO,g⟩
  rw[Zm9 hp s] at hO
  exact⟨v,rfl,hO,g⟩
structure EaI(J:(Nat→Prop)→List Hp→World→Prop)(S:Nat→Prop)(o mb:Nat)(l:List Hp)(v:Value)(i:Nat)(wr:World):Prop where
 j:J S (l.take i) wr
 bd:∀k,S k→k<wr.heap.size
 row:Z3c wr 0 v (Z0t l)
 c3:wr.cell? ⟨o,3,none⟩=some (.map (some mb))
 map:Zl wr mb l
theorem Zp6{w:World}{g cap:Nat}{l:List Hp}(h:Z3c w 0 (.slice (some ⟨g,0,none⟩) l.length cap) (Z0t l))(i:Nat)(hi:i<l.length) :
  w.cell? ⟨g,i*2,none⟩=some (.int .i64 l[i].h.t)∧w.cell? ⟨g,i*2+1,none⟩=some (.int .i64 l[i].h.r):=by
 have hnl:(Z0t l).length=l.length:=List.length_map _
 obtain⟨a,c,e,⟨q,_⟩ | ⟨b,o',e2,hc⟩⟩:=Up.rd Zgp.len h
 ·rw[q] at hnl;simp at hnl;omega
 ·subst e2
  simp only[Value.slice.injEq,Option.some.injEq,Addr.mk.injEq,and_true] at e
  obtain⟨⟨rfl,rfl⟩,_,rfl⟩:=e
  have hk:=hc.cell i (by omega)
  have e:(Z0t l)[i]'(by omega)=(l[i].h.t,l[i].h.r):=by simp[Z0t,Za]
  rw[e] at hk
  simp only[Nat.zero_add] at hk
  exact⟨hk 0 _ rfl,hk 1 _ rfl⟩
theorem EaI.keep{J:(Nat→Prop)→List Hp→World→Prop}{S:Nat→Prop}{o mb:Nat}{l:List Hp}{v:Value}{i i':Nat}{A B:World}(h:EaI J S o mb l v i A)(hj:J S (l.take i') B)(k:Vn S A B)(ho:S o)(hm:S mb)(hv:∀g,v.ownBlock=some g→S g):EaI J S o mb l v i' B:=by
 refine⟨hj,fun b e=>lL0 (h.bd b e) k.size,?_,(World.cell?_of_block (k.same o ho)).trans h.c3,h.map.same (k.same mb hm)⟩
 refine⟨h.row.1,?_⟩
 rcases h.row.2 with h0 | ⟨g,cap,cur,rfl,hb,hg,rest⟩
 ·exact .inl h0
 ·exact .inr ⟨g,cap,cur,rfl,hb,(k.same g (hv g rfl)).trans hg,rest⟩
theorem Zcq(n:Nat)(hn:1≤n)(o mb:Nat)(l:List Hp)(w:World)(hc:w.cell? ⟨o,3,none⟩=some (.map (some mb)))(hm:Zl w mb l)(hs:Z4h l)(hl:l.length≤1000) :
  Z76 Fence.wide n prog 88 #[.pointer (some ⟨o,0,none⟩)] #[] ptP (fun pre=>pre <+: l) (fun xs=>xs=l) (fun k=>k=o∨k=mb) w:=by
 intro L J Jx W hW hJ hJx hY h0
 have hol:o<w.heap.size:=World.block_lt_of_cell? _ _ hc
 have hcW:W.cell? ⟨o,3,none⟩=some (.map (some mb)):=hW.kp hc
 have hmW:=hm.nw hW
 have hmlt:=hmW.lt
 have hoW:o<W.heap.size:=lL0 hol hW.sz
 have HK:=hD0 (Zhz mb W)
 have hal:=Z2 W (.cells #[.map (some mb)] 96)
 have hNa:Nw W (W.alloc (.cells #[.map (some mb)] 96)):=(Nw.refl W).alloc _
 have HN:=hD0 (names_any (hmW.nw hNa) hs hl W.heap.size (Z0 (j:=0) hal))
 have HY:=hD0 hY
 have HJ:=hD0 hJ
 have H0:=hD0 h0
 have HM:=hD0 (aI0 hmW hNa)
 clear hc hm hs hW hY hJ hJx h0 hmW hNa hal
 refine callsIn_of_wp func88 rfl trivial ?_ rfl
 simp only[ntmps88,List.size_toArray,List.length_cons,List.length_nil,Nat.reduceAdd,Nat.reduceSub,Array.replicate_succ,Array.replicate_zero,List.push_toArray,List.append_toArray,List.nil_append,List.cons_append]
 gi_wp2_with fail
 refine⟨trivial,(callsIn_wide.2 HK.out).mono ?_⟩
 rintro e w1 ⟨rfl,rfl⟩
 gi_wp2_with fail
 refine⟨trivial,(callsIn_wide.2 HN.out).mono ?_⟩
 rintro e w1 ⟨v,rfl,hO,g1⟩
 have hnl:(Z0t l).length=l.length:=List.length_map _
 have hN1:=HM.out.2.trans g1
 have hN1s:=hN1.sz
 obtain⟨S,hS⟩:∃S:Nat→Prop,(fun k=>(k=o∨k=mb)∨(W.heap.size≤k∧k<w1.heap.size))=S:=⟨_,rfl⟩
 have hSo:S o:=by rw[←hS];exact .inl (.inl rfl)
 have hSm:S mb:=by rw[←hS];exact .inl (.inr rfl)
 have hSv:∀g,v.ownBlock=some g→S g:=fun g e=>by rw[←hS];exact .inr ⟨by have:=oge hO e;have:=HM.out.2.sz;omega,olt hO e⟩
 have hSub:∀k,(k=o∨k=mb)→S k:=fun k e=>by rw[←hS];exact .inl e
 have hbd:∀k,S k→k<w1.heap.size:=fun k e=>by
  rw[←hS] at e
  rcases e with(rfl | rfl) | e
  ·omega
  ·omega
  ·exact e.2
 have hE0:EaI J S o mb l v 0 w1:=⟨HJ.out (fun k=>k=o∨k=mb) S [] W w1 H0.out (Z3.nw hN1) hSub (fun k e=>by rw[←hS] at e;rcases e with e | e;exact .inl e;exact .inr e.1) hbd,hbd,Zby hO (fun g hg=>Nat.zero_le _),hN1.kp hcW,HM.out.1.nw hN1⟩
 have HE:=hD0 hE0
 have HS:=hD0 (aI0 hSo (aI0 hSm (aI0 hSv hSub)))
 have hf:=V4 hO
 rw[hnl] at hf
 obtain⟨av,cv,rfl,hav⟩:∃a c,v=.slice a l.length c∧(a=none→l.length=0)∧∀b,a=some b→∃g,b=⟨g,0,none⟩:=by
  rcases hf with⟨rfl,e⟩ | ⟨g,cap,rfl⟩
  ·exact⟨none,0,by rw[e],fun _=>e,fun b q=>by cases q⟩
  ·exact⟨_,cap,rfl,fun q=>(by cases q),fun b q=>⟨g,(Option.some.inj q).symm⟩⟩
 have HA:=hD0 hav
 clear hav hE0 hSo hSm hSv hSub hbd hS hN1 hf hO g1 hnl HK HN hcW hN1s
 gi_wp2
 gi_loopw [13] (fun x wr=>∃i:Nat,x=.int .i64 i∧i≤l.length∧Hid (EaI J S o mb l (.slice av l.length cv) i wr)) (fun x _=>l.length-(intOf x).toNat)
 case atStart=>exact⟨0,rfl,Nat.zero_le _,HE⟩
 case round =>
  obtain⟨i,rfl,hi,HR⟩:=hrel
  by_cases Z1:i<l.length
  ·obtain⟨g,rfl⟩:∃g,av=some ⟨g,0,none⟩:=by
    cases av with
    | none=>have:=HA.out.1 rfl;omega
    | some b=>obtain⟨g,rfl⟩:=HA.out.2 b rfl;exact⟨g,rfl⟩
   obtain⟨n0,n1⟩:=Zp6 HR.out.row i Z1
   have hii:(i:Int)<(l.length:Int):=by omega
   have hgl:g<wr.heap.size:=olt HR.out.row rfl
   have hx:l[i]∈l:=gM0 Z1
   have htk:l.take (i+1)=l.take i++[l[i]]:=List.take_succ_eq_append_getElem Z1
   have hpre:l.take i++[l[i]] <+: l:=by rw[←htk];exact List.take_prefix _ _
   obtain⟨w2,hw2⟩:∃w2,wr.alloc (.cells #[.int .i64 l[i].h.t,.int .i64 l[i].h.r] 33)=w2:=⟨_,rfl⟩
   have hal:=Z2 wr (.cells #[.int .i64 l[i].h.t,.int .i64 l[i].h.r] 33)
   have hNa:Nw wr (wr.alloc (.cells #[.int .i64 l[i].h.t,.int .i64 l[i].h.r] 33)):=(Nw.refl wr).alloc _
   rw[hw2] at hal hNa
   have b0:w2.cell? ⟨wr.heap.size,0,none⟩=some (.int .i64 l[i].h.t):=Z0 hal
   have b1:w2.cell? ⟨wr.heap.size,1,none⟩=some (.int .i64 l[i].h.r):=Z0 hal
   have c3:w2.cell? ⟨o,3,none⟩=some (.map (some mb)):=hNa.kp HR.out.c3
   have hlk:=(HR.out.map.nw hNa.dr).look hx
   have hkp2:Vn S wr w2.drew:=Vn.tch (Z3.nw (S:=fun _=>False) hNa.dr) (fun k e=>⟨HR.out.bd k e,fun q=>q⟩)
   have hj2:=HJ.out S S _ wr w2.drew HR.out.j (Z3.nw hNa.dr) (fun _ e=>e) (fun _ e=>.inl e) (fun k e=>lL0 (HR.out.bd k e) hNa.dr.sz)
   obtain⟨fn,tmps,assign,body,hy,hYR⟩:=HY.out S (l.take i) l[i] w2.drew hj2 HS.out.2.2.2 (fun k e=>lL0 (HR.out.bd k e) hNa.dr.sz) hpre
   have hol2:o<w2.heap.size:=World.block_lt_of_cell? _ _ c3
   have HE2:=hD0 (HR.out.keep hj2 hkp2 HS.out.1 HS.out.2.1 HS.out.2.2.1)
   have HT:=hD0 (aI0 htk hpre)
   have HW2:=hD0 hw2
   unfold nmV Za at hlk
   generalize l[i]=x at *
   obtain⟨⟨xt,xr,xW,xq⟩,xp,xa,xc⟩:=x
   simp only at n0 n1 b0 b1 hlk hy HW2
   clear htk hpre hw2 hal hNa hx hkp2 hj2
   gi_wp2_with fail
   rw[HW2.out]
   generalize wr.heap.size=bx at *
   obtain⟨y,hyd⟩:∃y,w2.drew=y:=⟨_,rfl⟩
   have d3:y.cell? ⟨o,3,none⟩=some (.map (some mb)):=by subst hyd;exact c3
   have e0:y.cell? ⟨bx,0,none⟩=some (.int .i64 xt):=by subst hyd;exact b0
   have e1:y.cell? ⟨bx,1,none⟩=some (.int .i64 xr):=by subst hyd;exact b1
   rw[hyd] at hlk hy hYR HE2
   clear c3 b0 b1 n0 n1 hgl hol2 HW2
   refine wpIn_region_any (by kernel_rfl) ?_
   change wpAnyIn _ _ _ _ _ _ 9 #[false,false,false,false,false,false,false,false,false] _ w2.drew
   rw[hyd]
   clear hyd
   refine wpAnyIn_take (i:=0) (v:=.func (.yield L) #[] #[]) rfl rfl (by kernel_rfl) (by kernel_rfl) (by kernel_rfl) (fun c a w h=>h) ⟨.inl ⟨rfl,fun w=>by simp[go_sem]⟩,fun w=>rfl⟩ ?_
   simp only[Act.put,List.getElem_toArray,List.getElem_cons_zero,List.setIfInBounds_toArray,List.set_cons_zero,List.set_cons_succ]
   refine wpAnyIn_take (i:=1) (v:=.pointer (some ⟨o,0,none⟩)) rfl rfl (by kernel_rfl) (by kernel_rfl) (by kernel_rfl) (fun c a w h=>h) ⟨.inl ⟨rfl,fun w=>by simp[go_sem]⟩,fun w=>rfl⟩ ?_
   simp only[Act.put,List.getElem_toArray,List.getElem_cons_zero,List.getElem_cons_succ,List.setIfInBounds_toArray,List.set_cons_zero,List.set_cons_succ]
   refine wpAnyIn_take (i:=2) (v:=.pointer (some ⟨o,0,none⟩)) rfl rfl (by kernel_rfl) (by kernel_rfl) (by kernel_rfl) (fun c a w h=>h) ⟨.inl ⟨rfl,fun w=>by simp[go_sem]⟩,fun w=>rfl⟩ ?_
   simp only[Act.put,List.getElem_toArray,List.getElem_cons_zero,List.getElem_cons_succ,List.setIfInBounds_toArray,List.set_cons_zero,List.set_cons_succ]
   refine wpAnyIn_take (i:=3) (v:=.pointer (some ⟨o,3,none⟩)) rfl rfl (by kernel_rfl) (by kernel_rfl) (by kernel_rfl) (fun c a w h=>h) ⟨.inl ⟨rfl,fun w=>by simp[go_sem]⟩,fun w=>rfl⟩ ?_
   simp only[Act.put,List.getElem_toArray,List.getElem_cons_zero,List.getElem_cons_succ,List.setIfInBounds_toArray,List.set_cons_zero,List.set_cons_succ]
   refine wpAnyIn_ready (rs:=[4,5]) (by kernel_rfl) (by simp) ?_
   refine AllReadyIn.cons rfl (fun K hK=>?_) (AllReadyIn.cons rfl (fun K hK=>?_) AllReadyIn.nil)
   ·rw[if_pos (by rfl)]
    simp only[List.getElem_toArray,List.getElem_cons_zero,List.getElem_cons_succ]
    gi_big_op
    refine hK _ _ ?_
    clear hK K
    refine wpAnyIn_ready (rs:=[5]) (by kernel_rfl) (by simp) ?_
    refine AllReadyIn.cons rfl (fun K hK=>?_) AllReadyIn.nil
    rw[if_pos (by rfl)]
    simp only[List.getElem_toArray,List.getElem_cons_zero,List.getElem_cons_succ]
    gi_big_op
    refine hK _ _ ?_
    clear hK K
    refine wpAnyIn_ready (rs:=[6]) (by kernel_rfl) (by simp) ?_
    refine AllReadyIn.cons rfl (fun K hK=>?_) AllReadyIn.nil
    rw[if_pos (by rfl)]
    simp only[List.getElem_toArray,List.getElem_cons_zero,List.getElem_cons_succ]
    gi_big_op
    refine hK _ _ ?_
    clear hK K
    refine wpAnyIn_ready (rs:=[7]) (by kernel_rfl) (by simp) ?_
    refine AllReadyIn.cons rfl (fun K hK=>?_) AllReadyIn.nil
    rw[if_pos (by rfl)]
    simp only[List.getElem_toArray,List.getElem_cons_zero,List.getElem_cons_succ]
    go_simp
    refine hYR.mono ?_
    rintro e w3 (⟨rfl,hJ3,hk3⟩ | ⟨rfl,hJ3,hk3⟩)
    ·refine hK _ _ ?_
     clear hK K hy hYR
     have HJ3:=hD0 (HE2.out.keep (i':=i+1) (by rw[HT.out.1];exact hJ3) hk3 HS.out.1 HS.out.2.1 HS.out.2.2.1)
     clear hJ3 hk3
     refine wpAnyIn_ready (rs:=[8]) (by kernel_rfl) (by simp) ?_
     refine AllReadyIn.cons rfl (fun K hK=>?_) AllReadyIn.nil
     rw[if_pos (by rfl)]
     simp only[List.getElem_toArray,List.getElem_cons_zero,List.getElem_cons_succ]
     gi_big_op
     refine hK _ _ ?_
     clear hK K
     refine wpAnyIn_done (by kernel_rfl) ?_ _
     gi_wp2
     go_roundw
     case rel=>exact⟨i+1,by go_num,by omega,HJ3⟩
     case measure=>simp[intOf];omega
    ·refine hK _ _ ?_
     clear hK K hy hYR
     have HJ3:=hD0 hJ3
     clear hJ3 hk3
     refine wpAnyIn_ready (rs:=[8]) (by kernel_rfl) (by simp) ?_
     refine AllReadyIn.cons rfl (fun K hK=>?_) AllReadyIn.nil
     rw[if_pos (by rfl)]
     simp only[List.getElem_toArray,List.getElem_cons_zero,List.getElem_cons_succ]
     gi_big_op
     refine hK _ _ ?_
     clear hK K
     refine wpAnyIn_done (by kernel_rfl) ?_ _
     gi_wp2
     refine bodyPost_ret (results_none rfl _ _ _) rfl ?_
     exact⟨⟨_,rfl⟩,.inr ⟨S,_,HT.out.2,HJ3.out⟩⟩
   ·rw[if_pos (by rfl)]
    simp only[List.getElem_toArray,List.getElem_cons_zero,List.getElem_cons_succ]
    gi_big_op
    refine hK _ _ ?_
    clear hK K
    refine wpAnyIn_ready (rs:=[4]) (by kernel_rfl) (by simp) ?_
    refine AllReadyIn.cons rfl (fun K hK=>?_) AllReadyIn.nil
    rw[if_pos (by rfl)]
    simp only[List.getElem_toArray,List.getElem_cons_zero,List.getElem_cons_succ]
    gi_big_op
    refine hK _ _ ?_
    clear hK K
    refine wpAnyIn_ready (rs:=[6]) (by kernel_rfl) (by simp) ?_
    refine AllReadyIn.cons rfl (fun K hK=>?_) AllReadyIn.nil
    rw[if_pos (by rfl)]
    simp only[List.getElem_toArray,List.getElem_cons_zero,List.getElem_cons_succ]
    gi_big_op
    refine hK _ _ ?_
    clear hK K
    refine wpAnyIn_ready (rs:=[7]) (by kernel_rfl) (by simp) ?_
    refine AllReadyIn.cons rfl (fun K hK=>?_) AllReadyIn.nil
    rw[if_pos (by rfl)]
    simp only[List.getElem_toArray,List.getElem_cons_zero,List.getElem_cons_succ]
    go_simp
    refine hYR.mono ?_
    rintro e w3 (⟨rfl,hJ3,hk3⟩ | ⟨rfl,hJ3,hk3⟩)
    ·refine hK _ _ ?_
     clear hK K hy hYR
     have HJ3:=hD0 (HE2.out.keep (i':=i+1) (by rw[HT.out.1];exact hJ3) hk3 HS.out.1 HS.out.2.1 HS.out.2.2.1)
     clear hJ3 hk3
     refine wpAnyIn_ready (rs:=[8]) (by kernel_rfl) (by simp) ?_
     refine AllReadyIn.cons rfl (fun K hK=>?_) AllReadyIn.nil
     rw[if_pos (by rfl)]
     simp only[List.getElem_toArray,List.getElem_cons_zero,List.getElem_cons_succ]
     gi_big_op
     refine hK _ _ ?_
     clear hK K
     refine wpAnyIn_done (by kernel_rfl) ?_ _
     gi_wp2
     go_roundw
     case rel=>exact⟨i+1,by go_num,by omega,HJ3⟩
     case measure=>simp[intOf];omega
    ·refine hK _ _ ?_
     clear hK K hy hYR
     have HJ3:=hD0 hJ3
     clear hJ3 hk3
     refine wpAnyIn_ready (rs:=[8]) (by kernel_rfl) (by simp) ?_
     refine AllReadyIn.cons rfl (fun K hK=>?_) AllReadyIn.nil
     rw[if_pos (by rfl)]
     simp only[List.getElem_toArray,List.getElem_cons_zero,List.getElem_cons_succ]
     gi_big_op
     refine hK _ _ ?_
     clear hK K
     refine wpAnyIn_done (by kernel_rfl) ?_ _
     gi_wp2
     refine bodyPost_ret (results_none rfl _ _ _) rfl ?_
     exact⟨⟨_,rfl⟩,.inr ⟨S,_,HT.out.2,HJ3.out⟩⟩
  ·obtain rfl:i=l.length:=by omega
   have HZ:=hD0 HR.out.j
   rw[List.take_length] at HZ
   gi_wp2
   go_end0
   exact⟨⟨_,rfl⟩,.inl ⟨S,l,rfl,HZ.out⟩⟩
end
def NOr(Q:Exit→Act→World→Prop):Exit→Act→World→Prop
 | .normal,a,w=>Q .normal a w
 | _,_,_=>False
theorem NOr.imp{Q:Exit→Act→World→Prop}(e:Exit)(a:Act)(w:World)(h:NOr Q e a w):Q e a w:=by
 cases e with
 | normal=>exact h
 | _=>exact h.elim
theorem NOr.lets{Q:Exit→Act→World→Prop}(h:LetsOut (NOr Q)):False:=by obtain⟨a,w,h⟩:=h;exact h
def Z03(o:Oper):Bool:=match o.op with | .defer _=>false | _=>true
theorem Za0{o:Oper}(h:Z03 o=true):∀c,o.op≠.defer c:=fun c e=>by
 unfold Z03 at h;rw[e] at h;cases h
theorem Zey{r n:Nat}{P:Program}{row:String}{args:Array Value}{w:World}{R:Value→World→Prop}(h:Rows P row args w R):RowsIn (Fence.wide.inRound r) n P row args w R :=
 fun c cs _=>let ⟨v,w',q,s⟩:=h c cs;⟨v,w',q,stepsIn_wide.2 s⟩
theorem Zb4{r n:Nat}{P:Program}{f:FuncId}{args:Array Value}{w:World}{R:Ending→World→Prop}(h:Calls P f args w R):CallsIn (Fence.wide.inRound r) n P f args w R:=(callsIn_wide (n:=n)).2 h
theorem Zes{r n:Nat}{P:Program}{o:Oper}{a:Act}{w:World}{K:Act→World→Prop}{Q:Exit→Act→World→Prop}(hd:Z03 o=true)(h:o.wp P a w K Q):o.wpIn (Fence.wide.inRound r) n P a w K Q:=by
 unfold Oper.wp at h
 unfold Oper.wpIn
 refine⟨fun _ _=>trivial,?_⟩
 rw[Oper.semAt_plain _ _ _ (Za0 hd)]
 generalize (execOp a.eval o).run P w=x at *
 cases x with
 | ok v w' =>
  cases v<;>simp only[Oper.upon] at h<;>simp only[Oper.uponIn]
  case value=>exact h
  case skip=>exact h
  case defer=>exact h
  case enter=>exact⟨fun e=>by simp[Fence.inRound,Fence.wide] at e,Zb4 h⟩
  case row=>exact⟨fun e=>by simp[Fence.inRound,Fence.wide] at e,Zey h⟩
 | halt v w' =>
  cases v<;>simp only[Oper.upon] at h<;>simp only[Oper.uponIn]
  exact h
theorem Z0w{r n:Nat}{P:Program}{md:Region.Mode}{ops:Array Oper}{Q:Exit→Act→World→Prop}(hd:∀o∈ops.toList,Z03 o=true):∀(fuel:Nat) (listed:Array Bool) (a:Act) (w:World),
  wpAny P md ops (NOr Q) fuel listed a w→wpAnyIn (Fence.wide.inRound r) n P md ops (NOr Q) fuel listed a w
 | 0,_,_,_,h=>h
 | fuel+1,listed,a,w,h=>⟨h.1,fun i hi=>by
  have hh:=h.2 i hi
  unfold wpOp at hh
  unfold wpOpIn
  cases ho:ops[i]? with
  | none=>simp only[ho] at hh ⊢;exact Z0w hd fuel _ _ _ hh
  | some o =>
   simp only[ho] at hh ⊢
   split
   ·rename_i hw
    rw[if_pos hw] at hh
    rcases hh with hh | ⟨_,hh⟩
    ·exact Oper.wpIn_mono (fun a w q=>Z0w hd fuel _ _ _ q) (Zes (hd o (List.mem_of_getElem? (by rw[Array.getElem?_toList];exact ho))) hh)
    ·exact(NOr.lets hh).elim
   ·rename_i hw
    rw[if_neg hw] at hh
    exact⟨fun _ _=>trivial,Z0w hd fuel _ _ _ hh⟩⟩
theorem Z88{r n:Nat}{P:Program}{id:Nat}{l:List Oper}{Q:Exit→Act→World→Prop}{a:Act}{w:World}{S:World→Prop}(hm:P.follows .mixedOrders=true)(hd:l.all Z03=true)
  (h:wpAnyH P .any l.toArray (NOr Q) S l.toArray.size (Array.replicate l.toArray.size false) a w.drew):(Code.region id l.toArray true).wpIn (Fence.wide.inRound r) n P Q a w :=
 wpIn_mono (wpIn_region_any hm (Z0w (fun o ho=>List.all_eq_true.1 hd o (by simpa using ho)) _ _ _ _ (wpAny_of_held _ _ _ _ h))) NOr.imp
theorem opH{P:Program}{ops:Array Oper}{Q:Exit→Act→World→Prop}{i:Nat}{o:Oper}{K:Act→World→Prop}{a:Act}{w:World}(ho:ops[i]?=some o)
  (h:∀K':Act→World→Prop,(∀a w,K a w→K' a w)→if Region.wanted o (yielded ops a.tmps)=true then Oper.wp P o a w K' Q else K' (a.put o.dst undef) w):wpOp P ops Q i K a w:=by
 unfold wpOp
 simp only[ho]
 have:=h K (fun _ _ q=>q)
 split
 ·rename_i hw
  rw[if_pos hw] at this
  exact .inl this
 ·rename_i hw
  rw[if_neg hw] at this
  exact this
theorem Zlw{P:Program}{md:Region.Mode}{ops:Array Oper}{Q:Exit→Act→World→Prop}{S:World→Prop}{i:Nat}{o:Oper}{fuel:Nat}{listed:Array Bool}{a:Act}{w:World}(hr:Region.ready md ops listed=[i])(ho:ops[i]?=some o)
  (h:∀K':Act→World→Prop,(∀a w,S w→wpAnyH P md ops Q S fuel (listed.setIfInBounds i true) a w→K' a w)→if Region.wanted o (yielded ops a.tmps)=true then Oper.wp P o a w K' Q else K' (a.put o.dst undef) w):wpAnyH P md ops Q S (fuel+1) listed a w :=
 wpAnyH_all hr (by simp) (fun j hj=>by
  obtain rfl:j=i:=by simpa using hj
  exact opH ho (fun K' hK=>h K' (fun a w q1 q2=>hK a w ⟨q1,q2⟩)))
theorem Zrp{P:Program}{md:Region.Mode}{ops:Array Oper}{Q:Exit→Act→World→Prop}{S:World→Prop}{i j:Nat}{o o':Oper}{fuel:Nat}{listed:Array Bool}{a:Act}{w:World}(hr:Region.ready md ops listed=[i,j])(ho:ops[i]?=some o)(ho':ops[j]?=some o')
  (h:∀K':Act→World→Prop,(∀a w,S w→wpAnyH P md ops Q S fuel (listed.setIfInBounds i true) a w→K' a w)→if Region.wanted o (yielded ops a.tmps)=true then Oper.wp P o a w K' Q else K' (a.put o.dst undef) w)
  (h':∀K':Act→World→Prop,(∀a w,S w→wpAnyH P md ops Q S fuel (listed.setIfInBounds j true) a w→K' a w)→if Region.wanted o' (yielded ops a.tmps)=true then Oper.wp P o' a w K' Q else K' (a.put o'.dst undef) w):wpAnyH P md ops Q S (fuel+1) listed a w :=
 wpAnyH_all hr (by simp) (fun k hk=>by
  rcases(by simpa using hk:k=i∨k=j)with rfl | rfl
  ·exact opH ho (fun K' hK=>h K' (fun a w q1 q2=>hK a w ⟨q1,q2⟩))
  ·exact opH ho' (fun K' hK=>h' K' (fun a w q1 q2=>hK a w ⟨q1,q2⟩)))
end Go.Proofs.YtfepoibfbmehiaaGreatDoor
