/- Texts merged: TeB -/
import Derived.Test.YtfepoibfbmehiaaGreatDoorTableNamesB18
set_option linter.unusedVariables false
set_option maxRecDepth 100000
set_option maxHeartbeats 16000000
namespace Go.Proofs.YtfepoibfbmehiaaGreatDoor
open Go.RowKit _root_.Go.Proofs.Tryz
open Go.Shelf
namespace tableNames
def nh1:List (List Hq):=(V0 4 lv0 lvL 1 1 5 6).1
def nl1:List Bool:=(V0 4 lv0 lvL 1 1 5 6).2
def nh2:List (List Hq):=(V0 4 nh1 nl1 1 1 4 3).1
def nl2:List Bool:=(V0 4 nh1 nl1 1 1 4 3).2
def nh3:List (List Hq):=(Z5b nh2 nl2 0).1
def nl3:List Bool:=(Z5b nh2 nl2 0).2
theorem na1:Z1l 4 lv0 lvL 1 1 5 6=(0,true,0):=by kernel_rfl
theorem na2:Z1l 4 nh1 nl1 1 1 4 3=(1,false,0):=by kernel_rfl
theorem na3:Z1l 4 nh2 nl2 (-1) 0 1 3=(0,false,2):=by kernel_rfl
theorem Zrb:(V0 4 nh2 nl2 (-1) 0 1 3).1=nh2:=by kernel_rfl
theorem Zrc:(V0 4 nh2 nl2 (-1) 0 1 3).2=nl2:=by kernel_rfl
theorem nu1:Zjr nh2 7 6=false:=by kernel_rfl
theorem Zrg:Zjq nh2 7 6=5:=by kernel_rfl
theorem Zrh:Zca nh2 7 6=nh2:=by kernel_rfl
theorem nu2:Zjr nh2 7 0=false:=by kernel_rfl
theorem Zri:Zjq nh2 7 0=2:=by kernel_rfl
theorem Zrj:Zca nh2 7 0=nh2:=by kernel_rfl
theorem nv1:(Zbt nh2 7).2=5:=by kernel_rfl
theorem Zrk:(Z5b nh2 nl2 7).1=nh2:=by kernel_rfl
theorem Zrl:(Z5b nh2 nl2 7).2=nl2:=by kernel_rfl
theorem nb1:(Zfl nh2 7).2=5:=by kernel_rfl
theorem Zrd:(Z77 nh2 nl2 7).1=nh2:=by kernel_rfl
theorem Zre:(Z77 nh2 nl2 7).2=nl2:=by kernel_rfl
theorem nn1:Zl2 nh2 7 1=5:=by kernel_rfl
theorem Zrf:Zed nh2 7 1=nh2:=by kernel_rfl
theorem ng1:Z9d nh2 1=(1,1,⟨1,4,0,3,1⟩,true):=by kernel_rfl
theorem ng2:Z9d nh2 7=(0,0,⟨0,0,0,0,0⟩,false):=by kernel_rfl
theorem nc1:Z4r nh2=1:=by kernel_rfl
theorem nc2:liv nl2=2:=by kernel_rfl
theorem nv2:(Zbt nh2 0).2=0:=by kernel_rfl
theorem Zrm:(Zbt nh2 0).1=[1]:=by kernel_rfl
theorem nf1:Z93 nh3 1 1 4=(1,true):=by kernel_rfl
theorem nf2:Z93 nh3 1 1 5=(0,false):=by kernel_rfl
theorem ns1:ofS (-1) 0 ((3:Nat):Int) = -1:=by kernel_rfl
theorem np1:(Y5 nh3).length=1:=by kernel_rfl
theorem Zp4:Z3r (Y5 nh3)=[⟨4,1,1,3⟩]:=by kernel_rfl
theorem Zea:Fit 7:=by unfold Fit;omega
theorem Zra:Fit 1:=by unfold Fit;omega
theorem Zr9:Fit 0:=by unfold Fit;omega
theorem Zht(w:World)(x:Int):IS (w.alloc (.cells #[.int .i64 x] 3)) (.slice (some ⟨w.heap.size,0,none⟩) 1 1) [x]:=by
 have h:=World.ownsRow_lit (base:=0) (size:=1) (e:=3) w #[.int .i64 x] 1 (Nat.zero_le _) (by unfold maxLen;omega) (by simp)
 unfold IS
 simpa using h
theorem Zof(w:World)(x t r m:Int):Zdq (w.alloc (.cells #[.int .i64 x,.int .i64 t,.int .i64 r,.int .i64 m] 54)) (.slice (some ⟨w.heap.size,0,none⟩) 1 1) [⟨x,t,r,m⟩]:=by
 have h:=Z2 w (.cells #[.int .i64 x,.int .i64 t,.int .i64 r,.int .i64 m] 54)
 exact Za6 (l:=([⟨x,t,r,m⟩]:List Hl)) Z4w.len h 1
theorem Zhu{w:World}{v:Value}{l:List Int}(h:IS w v l):∃a b c,v=.slice a b c:=by
 rcases V4 h with⟨e,_⟩ | ⟨_,_,e⟩
 ·exact⟨_,_,_,e⟩
 ·exact⟨_,_,_,e⟩
theorem Zqf{w:World}{g:Nat}{v:Value}{l:List Hl}(h:Z1i w g v l):∃a b c,v=.slice a b c:=by
 rcases V4 h with⟨e,_⟩ | ⟨_,_,e⟩
 ·exact⟨_,_,_,e⟩
 ·exact⟨_,_,_,e⟩
theorem Zl0{w:World}{o:Nat}{v:Value}{hs:List Hq}(h:V8 w o v hs):∃a c,v=.slice a hs.length c:=by
 obtain⟨lm,ho,he,_⟩:=h
 rw[←he,List.length_map]
 rcases V4 ho with⟨e,q⟩ | ⟨_,_,e⟩
 ·rw[q];exact⟨_,_,e⟩
 ·exact⟨_,_,e⟩
def Bx(b0:Nat)(y:World):Prop:=y.heap[b0]?=some (.cells #[.int .i64 1,.int .i64 1] 33)∧y.heap[b0+1]?=some (.cells #[.int .i64 1,.int .i64 4,.int .i64 0,.int .i64 3,.int .i64 1] 43)
theorem names_any(w:World):Calls prog 3 #[] w fun e w'=>e=.returned (.bool true)∧Nw w w':=by
 have HB1:=hD0 (fun W=>Z9z ⟨0,0,0,0⟩ (by decide) W)
 have HB2:=hD0 (fun W=>Z9z ⟨1,1,1,9⟩ (by decide) W)
 unfold Zkc at HB1 HB2
 simp only at HB1 HB2
 go_enter func3,ntmps3
 go_wp2_with fail
 refine(Zlp w).mono ?_
 rintro e w0 ⟨rfl,g0⟩
 have HG:=hD0 g0
 clear g0
 go_wp2_with fail
 refine(HB1.out w0).mono ?_
 rintro e w1 ⟨rfl,g1⟩
 have HG1:=hD0 (HG.out.trans g1)
 clear g1 HG
 go_wp2_with fail
 refine(HB2.out w1).mono ?_
 rintro e w2 ⟨rfl,g2⟩
 have HG2:=hD0 (HG1.out.trans g2)
 clear g2 HG1 HB1 HB2
 go_wp2_with fail
 refine(Z4n w2).mono ?_
 rintro e w3 ⟨rfl,g3⟩
 have HN:=hD0 (Zjf w w3 (HG2.out.trans g3) 3 4 8 1 (by decide))
 clear g3 HG2
 go_wp2_with fail
 refine HN.out.mono ?_
 rintro e w4 ⟨o,rfl,hT⟩
 have H:=hD0 hT
 clear hT HN
 go_wp2_with fail
 refine(Z02 1 1 w4).mono ?_
 rintro e w5 ⟨rfl,g⟩
 replace H:=hD0 (H.out.step g)
 clear g
 have HA:=hD0 (Z5r H.out (by omega) (by omega) (by omega) 1 1 5 6 _ _ _ na1)
 go_wp2_with fail
 refine HA.out.mono ?_
 rintro e w6 ⟨rfl,hT,_⟩
 replace H:=hD0 hT
 clear hT HA
 replace H:=hD0 (show TaE w o 3 4 8 1 ⟨3,4,8,1⟩ nh1 nl1 0 0 w6 from H.out)
 go_wp2_with fail
 refine(Z02 1 1 w6).mono ?_
 rintro e w7 ⟨rfl,g⟩
 replace H:=hD0 (H.out.step g)
 clear g
 have HA:=hD0 (Z5r H.out (by omega) (by omega) (by omega) 1 1 4 3 _ _ _ na2)
 go_wp2_with fail
 refine HA.out.mono ?_
 rintro e w8 ⟨rfl,hT,_⟩
 replace H:=hD0 hT
 clear hT HA
 replace H:=hD0 (show TaE w o 3 4 8 2 ⟨3,4,8,1⟩ nh2 nl2 0 0 w8 from H.out)
 have HA:=hD0 (Z5r H.out (by omega) (by omega) (by omega) (-1) 0 1 3 _ _ _ na3)
 go_wp2_with fail
 refine HA.out.mono ?_
 rintro e w9 ⟨rfl,hT,_⟩
 rw[Zrb,Zrc] at hT
 replace H:=hD0 hT
 clear hT HA
 have HA:=hD0 (Z5s H.out (by omega) (by omega) (by omega) 7 6 Zea _ _ nu1 Zrg)
 go_wp2_with fail
 refine HA.out.mono ?_
 rintro e w10 ⟨rfl,hT,_⟩
 rw[Zrh] at hT
 replace H:=hD0 hT
 clear hT HA
 have HA:=hD0 (Z5s H.out (by omega) (by omega) (by omega) 7 0 Zea _ _ nu2 Zri)
 go_wp2_with fail
 refine HA.out.mono ?_
 rintro e w11 ⟨rfl,hT,_⟩
 rw[Zrj] at hT
 replace H:=hD0 hT
 clear hT HA
 have HA:=hD0 (Zaj H.out (by omega) (by omega) (by omega) 7 Zea _ nv1)
 go_wp2_with fail
 refine HA.out.mono ?_
 rintro e w12 ⟨vi,rfl,his,hT,_,_⟩
 rw[Zrk,Zrl] at hT
 replace H:=hD0 hT
 clear hT HA
 obtain⟨p0,p1,p2,rfl⟩:=Zhu his
 clear his
 have HA:=hD0 (Zc7 H.out (by omega) (by omega) (by omega) 7 Zea _ nb1)
 go_wp2_with fail
 refine HA.out.mono ?_
 rintro e w13 ⟨vi,rfl,his,hT,_,_⟩
 rw[Zrd,Zre] at hT
 replace H:=hD0 hT
 clear hT HA
 obtain⟨q0,q1,q2,rfl⟩:=Zhu his
 clear his
 have HA:=hD0 (Zmg H.out (by omega) (by omega) (by omega) 7 1 Zea _ nn1)
 go_wp2_with fail
 refine HA.out.mono ?_
 rintro e w14 ⟨rfl,hT,_⟩
 rw[Zrf] at hT
 replace H:=hD0 hT
 clear hT HA
 have HA:=hD0 (Zjd H.out (by omega) 1 Zra _ _ _ _ _ _ _ _ ng1)
 go_wp2_with fail
 refine HA.out.mono ?_
 rintro e w15 ⟨rfl,g⟩
 obtain⟨w16,hz⟩:∃k,(w15.alloc (.cells #[.int .i64 1,.int .i64 1] 33)).alloc (.cells #[.int .i64 1,.int .i64 4,.int .i64 0,.int .i64 3,.int .i64 1] 43)=k:=⟨_,rfl⟩
 have hal2:=((Nw.refl _).alloc (.cells #[.int .i64 1,.int .i64 4,.int .i64 0,.int .i64 3,.int .i64 1] 43)).at' (Z2 w15 (.cells #[.int .i64 1,.int .i64 1] 33))
 have hal3:=Z2 (w15.alloc (.cells #[.int .i64 1,.int .i64 1] 33)) (.cells #[.int .i64 1,.int .i64 4,.int .i64 0,.int .i64 3,.int .i64 1] 43)
 rw[hz] at hal2
 rw[World.size_alloc,hz] at hal3
 have gk:Nw w15 w16:=by rw[←hz];exact((Nw.refl w15).alloc _).alloc _
 have HZ:=hD0 hz
 have hsz:w16.heap.size=w15.heap.size+2:=by rw[←hz];simp
 replace H:=hD0 ((H.out.step g).mark gk)
 obtain⟨b0,hb0⟩:∃b,w15.heap.size=b:=⟨_,rfl⟩
 obtain⟨b2,hb2⟩:∃b,w16.heap.size=b:=⟨_,rfl⟩
 rw[hb2,hb0] at hsz
 rw[hb0] at hal2 hal3
 rw[hb0,hb2] at H
 have HBx:=hD0 (aI0 hal2 hal3)
 have HB0:=hD0 (aI0 hb0 hsz)
 clear hz hal2 hal3 g gk hsz hb0 hb2 HA
 have HA:=hD0 (Zjd H.out (by omega) 7 Zea _ _ _ _ _ _ _ _ ng2)
 go_wp2_with fail
 rw[HZ.out,HB0.out.1]
 refine HA.out.mono ?_
 rintro e w17 ⟨rfl,g⟩
 obtain⟨w18,hz⟩:∃k,(w17.alloc (.cells #[.int .i64 0,.int .i64 0] 33)).alloc (.cells #[.int .i64 0,.int .i64 0,.int .i64 0,.int .i64 0,.int .i64 0] 43)=k:=⟨_,rfl⟩
 have gk:Nw w17 w18:=by rw[←hz];exact((Nw.refl w17).alloc _).alloc _
 replace HZ:=hD0 hz
 replace HBx:=hD0 (aI0 ((g.trans gk).at' HBx.out.1) ((g.trans gk).at' HBx.out.2))
 replace H:=hD0 (H.out.step (g.trans gk))
 clear hz g gk HA
 have HA:=hD0 (Zf9 H.out (by omega) (by omega))
 rw[nc1,nc2] at HA
 go_wp2_with fail
 rw[HZ.out]
 generalize w17.heap.size=b4 at *
 refine HA.out.mono ?_
 rintro e w19 ⟨rfl,g⟩
 replace HBx:=hD0 (aI0 (g.at' HBx.out.1) (g.at' HBx.out.2))
 replace H:=hD0 (H.out.step g)
 clear g HA HZ
 have HA:=hD0 (Zaj H.out (by omega) (by omega) (by omega) 0 Zr9 _ nv2)
 rw[Zrm] at HA
 go_wp2_with fail
 refine HA.out.mono ?_
 rintro e w20 ⟨vi,rfl,his,hT,kp,_⟩
 replace H:=hD0 (show TaE w o 3 4 8 _ ⟨3,4,8,1⟩ nh3 nl3 b0 b2 w20 from hT)
 replace HBx:=hD0 (aI0 ((kp b0 (Nat.le_refl _) (by have:=HB0.out.2;omega)).trans HBx.out.1) ((kp (b0+1) (Nat.le_succ _) (by have:=HB0.out.2;omega)).trans HBx.out.2))
 obtain⟨r0,r1,r2,rfl⟩:=Zhu his
 have HIs:=hD0 his
 clear his hT kp HA
 go_wp2_with fail
 refine(Z02 1 1 w20).mono ?_
 rintro e w21 ⟨rfl,g⟩
 replace HBx:=hD0 (aI0 (g.at' HBx.out.1) (g.at' HBx.out.2))
 replace H:=hD0 (H.out.step g)
 replace HIs:=hD0 (HIs.out.nw g)
 clear g
 have HA:=hD0 (Zdm H.out 1 1 4 _ _ nf1)
 go_wp2_with fail
 refine HA.out.mono ?_
 rintro e w22 ⟨rfl,g⟩
 replace HBx:=hD0 (aI0 (g.at' HBx.out.1) (g.at' HBx.out.2))
 replace H:=hD0 (H.out.step g)
 replace HIs:=hD0 (HIs.out.nw g)
 clear HA
 clear g
 go_wp2_with fail
 refine(Z02 1 1 w22).mono ?_
 rintro e w23 ⟨rfl,g⟩
 replace HBx:=hD0 (aI0 (g.at' HBx.out.1) (g.at' HBx.out.2))
 replace H:=hD0 (H.out.step g)
 replace HIs:=hD0 (HIs.out.nw g)
 clear g
 have HA:=hD0 (Zdm H.out 1 1 5 _ _ nf2)
 go_wp2_with fail
 refine HA.out.mono ?_
 rintro e w24 ⟨rfl,g⟩
 replace HBx:=hD0 (aI0 (g.at' HBx.out.1) (g.at' HBx.out.2))
 replace H:=hD0 (H.out.step g)
 replace HIs:=hD0 (HIs.out.nw g)
 clear HA
 clear g
 go_wp2_with fail
 refine(Z81 w24).mono ?_
 rintro e w25 ⟨rfl,g⟩
 replace HBx:=hD0 (aI0 (g.at' HBx.out.1) (g.at' HBx.out.2))
 replace H:=hD0 (H.out.step g)
 replace HIs:=hD0 (HIs.out.nw g)
 clear g
 go_wp2_with fail
 refine(Zk2 (-1) (-1) 1 3 w25).mono ?_
 rintro e w26 ⟨rfl,g⟩
 replace HBx:=hD0 (aI0 (g.at' HBx.out.1) (g.at' HBx.out.2))
 replace H:=hD0 (H.out.step g)
 replace HIs:=hD0 (HIs.out.nw g)
 clear g
 go_wp2_with fail
 refine(Zeo 0 w26).mono ?_
 rintro e w27 ⟨rfl,g⟩
 replace HBx:=hD0 (aI0 (g.at' HBx.out.1) (g.at' HBx.out.2))
 replace H:=hD0 (H.out.step g)
 replace HIs:=hD0 (HIs.out.nw g)
 clear g
 go_wp2_with fail
 refine(Zb7 w27).mono ?_
 rintro e w28 ⟨rfl,g⟩
 replace HBx:=hD0 (aI0 (g.at' HBx.out.1) (g.at' HBx.out.2))
 replace H:=hD0 (H.out.step g)
 replace HIs:=hD0 (HIs.out.nw g)
 clear g
 have HF:=hD0 (show Bx b0 w28 from HBx.out)
 have HNx:=hD0 (fun(x y:World) (h:Bx b0 x) (g:Nw x y)=>(show Bx b0 y from⟨g.at' h.1,g.at' h.2⟩))
 have q0:∀x,Bx b0 x→x.cell? ⟨b0,0,none⟩=some (.int .i64 1):=fun x h=>(Z0 (j:=0) h.1).trans rfl
 have q1:∀x,Bx b0 x→x.cell? ⟨b0,1,none⟩=some (.int .i64 1):=fun x h=>(Z0 (j:=1) h.1).trans rfl
 have q2:∀x,Bx b0 x→x.cell? ⟨b0+1,1,none⟩=some (.int .i64 4):=fun x h=>(Z0 (j:=1) h.2).trans rfl
 have hS0:Bx b0 w28.drew:=HBx.out
 clear HBx HB0
 go_wp2_with fail
 dsimp only [List.append]
 refine Z5 [some true,some true,some true,some true,some true,some true,some true,some true,some true,some true,some true,some true,some true,some true,some true,some true,some true,some true,some true,some true,some true,some true,some true,some true,some true,some true,some true,some true,some true,some true,some true,some true,some true,some true,some true,some true,some true,some true,some true,some false,none,some true,some true,some true,some true,some true,some true,some true,some true,some true,some true,some true,some true,some true,some true,some true,some true,some true,some true,some true,some true,some true,some true,some true,some true,some true,some true,some false,none,some false,none,some true,some true,some true,some true,some true,some true,some true,some true,some true,some true,some true,some true,some true,some true,some true,some false,none,some false,none,some true,some false,none,some false,none,some true,some true,some true,some true,some false,none,some true,some true,some true,some true,some false,none,some false,none,some true,some true,some true,some true,some false,none,some true,some true,some true,some true,some true,some true,some true,some true,some true,some true,some true,some true,some true,some true,some true,some true,some true,some true,some true,some true,some true,some false,none,some false,none,some true,some true,some true,some true,some false,none,some true,some true,some true,some true,some true,some false,none,some true,some true,some true,some true,some true,some false,none,some true,some true,some true,some true,some true,some false,none,some true,some true,some true,some true,some false,some true,none,some true,some true,some true] (Bx b0) (by kernel_rfl) (by kernel_rfl) (by kernel_rfl) hS0 ?_
 clear hS0
 obtain⟨zd,hzd⟩:∃zd,w28.drew=zd:=⟨_,rfl⟩
 have gd:Nw w28 zd:=by rw[←hzd];exact(Nw.refl _).dr
 replace HF:=hD0 (HNx.out _ _ HF.out gd)
 replace H:=hD0 (H.out.step gd)
 replace HIs:=hD0 (HIs.out.nw gd)
 rw[hzd]
 clear hzd gd
 iterate 39 (refine HW.take' ?_;(apply Exists.intro;refine⟨Or.inl ⟨by rfl,?_⟩,?_⟩;(intro x hx;go_simp;first | done | with_reducible rfl));(try simp only[Act.put,List.setIfInBounds_toArray,List.set_cons_zero,List.set_cons_succ]))
 refine HW.off ?_
 refine HW.go (fun K hK=>?_)
 go_simp
 go_at_call 8
 refine(Z02 1 1 zd).mono ?_
 rintro e y1 ⟨rfl,g⟩
 refine hK.out _ _ (HNx.out _ _ HF.out g) ?_
 intro _
 clear hK K
 replace HF:=hD0 (HNx.out _ _ HF.out g)
 replace H:=hD0 (H.out.step g)
 replace HIs:=hD0 (HIs.out.nw g)
 clear g
 (try simp only[Act.put,List.setIfInBounds_toArray,List.set_cons_zero,List.set_cons_succ])
 iterate 26 (refine HW.take' ?_;(apply Exists.intro;refine⟨Or.inl ⟨by rfl,?_⟩,?_⟩;(intro x hx;go_simp;first | done | with_reducible rfl));(try simp only[Act.put,List.setIfInBounds_toArray,List.set_cons_zero,List.set_cons_succ]))
 refine HW.off ?_
 refine HW.go (fun K hK=>?_)
 go_simp
 obtain⟨y2,hd⟩:∃y,y1.alloc (.cells #[.int .i64 1] 3)=y:=⟨_,rfl⟩
 have g:Nw y1 y2:=by rw[←hd];exact(Nw.refl _).alloc _
 refine hK.out _ _ (by first | exact HNx.out _ _ HF.out ((Nw.refl _).alloc _) | exact HNx.out _ _ HF.out g) ?_
 intro _
 clear hK K
 replace HF:=hD0 (HNx.out _ _ HF.out g)
 replace H:=hD0 (H.out.step g)
 replace HIs:=hD0 (aI0 (HIs.out.nw g) (by rw[←hd];exact Zht y1 1:IS y2 (.slice (some ⟨y1.heap.size,0,none⟩) 1 1) [1]))
 rw[hd]
 clear hd g
 (try simp only[Act.put,List.setIfInBounds_toArray,List.set_cons_zero,List.set_cons_succ])
 refine HW.off ?_
 refine HW.go (fun K hK=>?_)
 go_simp
 go_at_call 17
 refine(Ziw _ _ _ [1] HIs.out.1 HIs.out.2).mono ?_
 rintro e y3 ⟨rfl,g⟩
 refine hK.out _ _ (HNx.out _ _ HF.out g) ?_
 intro _
 clear hK K
 replace HF:=hD0 (HNx.out _ _ HF.out g)
 replace H:=hD0 (H.out.step g)
 clear HIs
 clear g
 (try simp only[Act.put,List.setIfInBounds_toArray,List.set_cons_zero,List.set_cons_succ])
 iterate 15 (refine HW.take' ?_;(apply Exists.intro;refine⟨Or.inl ⟨by rfl,?_⟩,?_⟩;(intro x hx;go_simp;first | done | with_reducible rfl));(try simp only[Act.put,List.setIfInBounds_toArray,List.set_cons_zero,List.set_cons_succ]))
 have HA:=hD0 (Zpw H.out (by omega) (by omega))
 rw[Zp4] at HA
 refine HW.off ?_
 refine HW.go (fun K hK=>?_)
 go_simp
 go_at_call 19
 refine HA.out.mono ?_
 rintro e y4 ⟨v,rfl,hv,g⟩
 refine hK.out _ _ (HNx.out _ _ HF.out g) ?_
 intro _
 clear hK K
 replace HF:=hD0 (HNx.out _ _ HF.out g)
 replace H:=hD0 (H.out.step g)
 obtain⟨s0,s1,s2,rfl⟩:=Zqf hv
 have HV:=hD0 (Z1i.rd hv)
 clear hv HA
 clear g
 (try simp only[Act.put,List.setIfInBounds_toArray,List.set_cons_zero,List.set_cons_succ])
 refine HW.off ?_
 refine HW.go (fun K hK=>?_)
 go_simp
 go_at_call 8
 refine(Z02 1 1 y4).mono ?_
 rintro e y5 ⟨rfl,g⟩
 refine hK.out _ _ (HNx.out _ _ HF.out g) ?_
 intro _
 clear hK K
 replace HF:=hD0 (HNx.out _ _ HF.out g)
 replace H:=hD0 (H.out.step g)
 replace HV:=hD0 (HV.out.nw g)
 clear g
 (try simp only[Act.put,List.setIfInBounds_toArray,List.set_cons_zero,List.set_cons_succ])
 iterate 1 (refine HW.take' ?_;(apply Exists.intro;refine⟨Or.inl ⟨by rfl,?_⟩,?_⟩;(intro x hx;go_simp;first | done | with_reducible rfl));(try simp only[Act.put,List.setIfInBounds_toArray,List.set_cons_zero,List.set_cons_succ]))
 refine HW.off ?_
 refine HW.go (fun K hK=>?_)
 go_simp
 obtain⟨y6,hd⟩:∃y,y5.alloc (.cells #[.int .i64 4,.int .i64 1,.int .i64 1,.int .i64 3] 54)=y:=⟨_,rfl⟩
 have g:Nw y5 y6:=by rw[←hd];exact(Nw.refl _).alloc _
 refine hK.out _ _ (by first | exact HNx.out _ _ HF.out ((Nw.refl _).alloc _) | exact HNx.out _ _ HF.out g) ?_
 intro _
 clear hK K
 replace HF:=hD0 (HNx.out _ _ HF.out g)
 replace H:=hD0 (H.out.step g)
 replace HV:=hD0 (aI0 (HV.out.nw g) (by rw[←hd];exact Zof y5 4 1 1 3:Zdq y6 (.slice (some ⟨y5.heap.size,0,none⟩) 1 1) [⟨4,1,1,3⟩]))
 rw[hd]
 clear hd g
 (try simp only[Act.put,List.setIfInBounds_toArray,List.set_cons_zero,List.set_cons_succ])
 refine HW.off ?_
 refine HW.go (fun K hK=>?_)
 go_simp
 go_at_call 18
 refine(Z6v _ _ _ _ (by decide) HV.out.1 HV.out.2).mono ?_
 rintro e y7 ⟨rfl,g⟩
 refine hK.out _ _ (HNx.out _ _ HF.out g) ?_
 intro _
 clear hK K
 replace HF:=hD0 (HNx.out _ _ HF.out g)
 replace H:=hD0 (H.out.step g)
 clear HV
 clear g
 (try simp only[Act.put,List.setIfInBounds_toArray,List.set_cons_zero,List.set_cons_succ])
 iterate 4 (refine HW.take' ?_;(apply Exists.intro;refine⟨Or.inl ⟨by rfl,?_⟩,?_⟩;(intro x hx;go_simp;first | done | with_reducible rfl));(try simp only[Act.put,List.setIfInBounds_toArray,List.set_cons_zero,List.set_cons_succ]))
 have HA:=hD0 (Zfa H.out (-1) 0)
 rw[ns1] at HA
 refine HW.off ?_
 refine HW.go (fun K hK=>?_)
 go_simp
 go_at_call 20
 refine HA.out.mono ?_
 rintro e y8 ⟨rfl,g⟩
 refine hK.out _ _ (HNx.out _ _ HF.out g) ?_
 intro _
 clear hK K
 replace HF:=hD0 (HNx.out _ _ HF.out g)
 replace H:=hD0 (H.out.step g)
 clear HA
 clear g
 (try simp only[Act.put,List.setIfInBounds_toArray,List.set_cons_zero,List.set_cons_succ])
 iterate 4 (refine HW.take' ?_;(apply Exists.intro;refine⟨Or.inl ⟨by rfl,?_⟩,?_⟩;(intro x hx;go_simp;first | done | with_reducible rfl));(try simp only[Act.put,List.setIfInBounds_toArray,List.set_cons_zero,List.set_cons_succ]))
 have HA:=hD0 (show Calls prog 21 #[ptN o] y8 fun e W'=>e=.returned (.agg #[.int .i64 3,.int .i64 4,.int .i64 8,.int .i64 1])∧Nw y8 W' from by obtain⟨J,h1,_⟩:=H.out.tab;exact Znt h1)
 refine HW.off ?_
 refine HW.go (fun K hK=>?_)
 go_simp
 go_at_call 21
 refine HA.out.mono ?_
 rintro e y9 ⟨rfl,g⟩
 refine hK.out _ _ (HNx.out _ _ HF.out g) ?_
 intro _
 clear hK K
 replace HF:=hD0 (HNx.out _ _ HF.out g)
 replace H:=hD0 (H.out.step g)
 clear HA
 clear g
 (try simp only[Act.put,List.setIfInBounds_toArray,List.set_cons_zero,List.set_cons_succ])
 refine HW.off ?_
 refine HW.go (fun K hK=>?_)
 go_simp
 go_at_call 6
 refine(Z4n y9).mono ?_
 rintro e y10 ⟨rfl,g⟩
 refine hK.out _ _ (HNx.out _ _ HF.out g) ?_
 intro _
 clear hK K
 replace HF:=hD0 (HNx.out _ _ HF.out g)
 replace H:=hD0 (H.out.step g)
 clear g
 (try simp only[Act.put,List.setIfInBounds_toArray,List.set_cons_zero,List.set_cons_succ])
 iterate 4 (refine HW.take' ?_;(apply Exists.intro;refine⟨Or.inl ⟨by rfl,?_⟩,?_⟩;(intro x hx;go_simp;first | done | with_reducible rfl));(try simp only[Act.put,List.setIfInBounds_toArray,List.set_cons_zero,List.set_cons_succ]))
 have HA:=hD0 (Zmh H.out (by omega) (by omega))
 refine HW.off ?_
 refine HW.go (fun K hK=>?_)
 go_simp
 go_at_call 22
 refine HA.out.mono ?_
 rintro e y11 ⟨v,rfl,hv,g⟩
 refine hK.out _ _ (HNx.out _ _ HF.out g) ?_
 intro _
 clear hK K
 replace HF:=hD0 (HNx.out _ _ HF.out g)
 replace H:=hD0 (H.out.step g)
 obtain⟨s0,s2,rfl⟩:=Zl0 hv
 rw[np1]
 clear hv HA
 clear g
 (try simp only[Act.put,List.setIfInBounds_toArray,List.set_cons_zero,List.set_cons_succ])
 iterate 21 (refine HW.take' ?_;(apply Exists.intro;refine⟨Or.inl ⟨by rfl,?_⟩,?_⟩;(intro x hx;go_simp;first | done | with_reducible rfl));(try simp only[Act.put,List.setIfInBounds_toArray,List.set_cons_zero,List.set_cons_succ]))
 refine HW.off ?_
 refine HW.go (fun K hK=>?_)
 go_simp
 go_at_call 16
 refine(Z81 y11).mono ?_
 rintro e y12 ⟨rfl,g⟩
 refine hK.out _ _ (HNx.out _ _ HF.out g) ?_
 intro _
 clear hK K
 replace HF:=hD0 (HNx.out _ _ HF.out g)
 replace H:=hD0 (H.out.step g)
 clear g
 (try simp only[Act.put,List.setIfInBounds_toArray,List.set_cons_zero,List.set_cons_succ])
 refine HW.off ?_
 refine HW.go (fun K hK=>?_)
 go_simp
 go_at_call 20
 refine(Zc5 (-1) (-1) y12).mono ?_
 rintro e y13 ⟨rfl,g⟩
 refine hK.out _ _ (HNx.out _ _ HF.out g) ?_
 intro _
 clear hK K
 replace HF:=hD0 (HNx.out _ _ HF.out g)
 replace H:=hD0 (H.out.step g)
 clear g
 (try simp only[Act.put,List.setIfInBounds_toArray,List.set_cons_zero,List.set_cons_succ])
 iterate 4 (refine HW.take' ?_;(apply Exists.intro;refine⟨Or.inl ⟨by rfl,?_⟩,?_⟩;(intro x hx;go_simp;first | done | with_reducible rfl));(try simp only[Act.put,List.setIfInBounds_toArray,List.set_cons_zero,List.set_cons_succ]))
 refine HW.off ?_
 refine HW.go (fun K hK=>?_)
 go_simp
 go_at_call 19
 refine(Zk1 y13).mono ?_
 rintro e y14 ⟨rfl,g⟩
 refine hK.out _ _ (HNx.out _ _ HF.out g) ?_
 intro _
 clear hK K
 replace HF:=hD0 (HNx.out _ _ HF.out g)
 replace H:=hD0 (H.out.step g)
 clear g
 (try simp only[Act.put,List.setIfInBounds_toArray,List.set_cons_zero,List.set_cons_succ])
 iterate 5 (refine HW.take' ?_;(apply Exists.intro;refine⟨Or.inl ⟨by rfl,?_⟩,?_⟩;(intro x hx;go_simp;first | done | with_reducible rfl));(try simp only[Act.put,List.setIfInBounds_toArray,List.set_cons_zero,List.set_cons_succ]))
 refine HW.off ?_
 refine HW.go (fun K hK=>?_)
 go_simp
 go_at_call 23
 refine(Zef 1 y14).mono ?_
 rintro e y15 ⟨rfl,g⟩
 refine hK.out _ _ (HNx.out _ _ HF.out g) ?_
 intro _
 clear hK K
 replace HF:=hD0 (HNx.out _ _ HF.out g)
 replace H:=hD0 (H.out.step g)
 clear g
 (try simp only[Act.put,List.setIfInBounds_toArray,List.set_cons_zero,List.set_cons_succ])
 iterate 5 (refine HW.take' ?_;(apply Exists.intro;refine⟨Or.inl ⟨by rfl,?_⟩,?_⟩;(intro x hx;go_simp;first | done | with_reducible rfl));(try simp only[Act.put,List.setIfInBounds_toArray,List.set_cons_zero,List.set_cons_succ]))
 refine HW.off ?_
 refine HW.go (fun K hK=>?_)
 go_simp
 go_at_call 22
 refine(Zj0 y15).mono ?_
 rintro e y16 ⟨rfl,g⟩
 refine hK.out _ _ (HNx.out _ _ HF.out g) ?_
 intro _
 clear hK K
 replace HF:=hD0 (HNx.out _ _ HF.out g)
 replace H:=hD0 (H.out.step g)
 clear g
 (try simp only[Act.put,List.setIfInBounds_toArray,List.set_cons_zero,List.set_cons_succ])
 iterate 5 (refine HW.take' ?_;(apply Exists.intro;refine⟨Or.inl ⟨by rfl,?_⟩,?_⟩;(intro x hx;go_simp;first | done | with_reducible rfl));(try simp only[Act.put,List.setIfInBounds_toArray,List.set_cons_zero,List.set_cons_succ]))
 refine HW.off ?_
 refine HW.go (fun K hK=>?_)
 go_simp
 go_at_call 12
 refine(Zh7 0 0 y16).mono ?_
 rintro e y17 ⟨rfl,g⟩
 refine hK.out _ _ (HNx.out _ _ HF.out g) ?_
 intro _
 clear hK K
 replace HF:=hD0 (HNx.out _ _ HF.out g)
 replace H:=hD0 (H.out.step g)
 clear g
 (try simp only[Act.put,List.setIfInBounds_toArray,List.set_cons_zero,List.set_cons_succ])
 iterate 4 (refine HW.take' ?_;(apply Exists.intro;refine⟨Or.inl ⟨by rfl,?_⟩,?_⟩;(intro x hx;go_simp;first | done | with_reducible rfl));(try simp only[Act.put,List.setIfInBounds_toArray,List.set_cons_zero,List.set_cons_succ]))
 refine HW.off ?_
 iterate 1 (refine HW.take' ?_;(apply Exists.intro;refine⟨Or.inl ⟨by rfl,?_⟩,?_⟩;(intro x hx;go_simp;first | done | with_reducible rfl));(try simp only[Act.put,List.setIfInBounds_toArray,List.set_cons_zero,List.set_cons_succ]))
 refine HW.go (fun K hK=>?_)
 go_simp
 go_at_call 21
 refine(Zg0 y17).mono ?_
 rintro e y18 ⟨rfl,g⟩
 refine hK.out _ _ (HNx.out _ _ HF.out g) ?_
 intro _
 clear hK K
 replace HF:=hD0 (HNx.out _ _ HF.out g)
 replace H:=hD0 (H.out.step g)
 clear g
 (try simp only[Act.put,List.setIfInBounds_toArray,List.set_cons_zero,List.set_cons_succ])
 iterate 3 (refine HW.take' ?_;(apply Exists.intro;refine⟨Or.inl ⟨by rfl,?_⟩,?_⟩;(intro x hx;go_simp;first | done | with_reducible rfl));(try simp only[Act.put,List.setIfInBounds_toArray,List.set_cons_zero,List.set_cons_succ]))
 refine HW.end_ ?_
 refine NoPanic.normal ?_
 go_wp2
 go_ret
 exact⟨rfl,H.out.nw⟩
end tableNames
end Go.Proofs.YtfepoibfbmehiaaGreatDoor
