/- Texts merged: QvC, QvM, QvN -/
import Derived.Test.YtfepoibfbmehiaaGreatDoorTableNamesB6
set_option linter.unusedVariables false
set_option maxRecDepth 100000
set_option maxHeartbeats 16000000
namespace Go.Proofs.YtfepoibfbmehiaaGreatDoor
open Go.RowKit _root_.Go.Proofs.Tryz
def hoI(a b:Rq):Int:=if (a.md != 0)=(b.md != 0)then 0 else if (a.md != 0)=true then -1 else 1
def cmI(a b:Int):Int:=if a<b then -1 else if b<a then 1 else 0
def toI(a b:Rq):Int:=if hoI a b≠0 then hoI a b else cmI a.sn b.sn
theorem nwS{w:World}:∀a b,Nw w a→Nw a b→Nw w b:=fun _ _ h g=>h.trans g
theorem Nw.drewQ{w a:World}(h:Nw w a):Nw w a.drew:=h.drewN 1
theorem Zb9(A B:Rq)(w:World):Calls prog 152 #[rqV A,rqV B] w fun e w'=>e=.returned (.int .i64 (hoI A B))∧Nw w w':=by
 have HA:=hD0 (Z4t A)
 have HB:=hD0 (Z4t B)
 obtain⟨V,hV⟩:∃V,hoI A B=V:=⟨_,rfl⟩
 have hV2:=hV
 rw[hV]
 unfold hoI at hV2
 generalize (A.md != 0)=x at *
 generalize (B.md != 0)=y at *
 clear hV
 have HV:=hD0 hV2
 clear hV2
 obtain⟨a,b,m,n,s⟩:=A
 obtain⟨a',b',m',n',s'⟩:=B
 unfold rqV at *
 have HX:=hD0 (Y6 w (.cells #[.int .i64 a,.int .i64 b,.int .i64 m,.int .i64 n,.int .i64 s] 43) (.cells #[.int .i64 a',.int .i64 b',.int .i64 m',.int .i64 n',.int .i64 s'] 43))
 go_enter func152,ntmps152
 go_wp2_with fail
 generalize (w.alloc (.cells #[.int .i64 a,.int .i64 b,.int .i64 m,.int .i64 n,.int .i64 s] 43)).alloc (.cells #[.int .i64 a',.int .i64 b',.int .i64 m',.int .i64 n',.int .i64 s'] 43)=w1 at *
 obtain⟨p,hp⟩:∃p,w.heap.size=p:=⟨_,rfl⟩
 rw[hp] at HX ⊢
 have hl1:=Z1 HX.out.1
 have hl2:=Z1 HX.out.2.1
 have c0:=Z0 (j:=0) HX.out.1
 have c1:=Z0 (j:=1) HX.out.1
 have c2:=Z0 (j:=2) HX.out.1
 have c3:=Z0 (j:=3) HX.out.1
 have c4:=Z0 (j:=4) HX.out.1
 have d0:=Z0 (j:=0) HX.out.2.1
 have d1:=Z0 (j:=1) HX.out.2.1
 have d2:=Z0 (j:=2) HX.out.2.1
 have d3:=Z0 (j:=3) HX.out.2.1
 have d4:=Z0 (j:=4) HX.out.2.1
 have HN:=hD0 HX.out.2.2.1
 clear HX hp hl1 hl2
 refine Yy (Nw w1) (by kernel_rfl) (by kernel_rfl) (Nw.refl _).drewQ ?_
 have e0:∀d:Wd (Nw w1),d.w.cell? _=_:=fun d=>d.h.kp c0
 have e1:∀d:Wd (Nw w1),d.w.cell? _=_:=fun d=>d.h.kp c1
 have e2:∀d:Wd (Nw w1),d.w.cell? _=_:=fun d=>d.h.kp c2
 have e3:∀d:Wd (Nw w1),d.w.cell? _=_:=fun d=>d.h.kp c3
 have e4:∀d:Wd (Nw w1),d.w.cell? _=_:=fun d=>d.h.kp c4
 have f0:∀d:Wd (Nw w1),d.w.cell? _=_:=fun d=>d.h.kp d0
 have f1:∀d:Wd (Nw w1),d.w.cell? _=_:=fun d=>d.h.kp d1
 have f2:∀d:Wd (Nw w1),d.w.cell? _=_:=fun d=>d.h.kp d2
 have f3:∀d:Wd (Nw w1),d.w.cell? _=_:=fun d=>d.h.kp d3
 have f4:∀d:Wd (Nw w1),d.w.cell? _=_:=fun d=>d.h.kp d4
 have hne:Nonempty (Wd (Nw w1)):=⟨⟨_,Nw.refl w1⟩⟩
 repeat (first | go_big_quiet_step ((first | (with_reducible exact Z12 nwS (HA.out _)) | (with_reducible exact Z12 nwS (HB.out _)))) | quiet_step ((first | (with_reducible exact Z12 nwS (HA.out _)) | (with_reducible exact Z12 nwS (HB.out _)))))
 refine wpQuiet_nil ?_
 intro d
 have h6:=d.h
 clear e0 e1 e2 e3 e4 f0 f1 f2 f3 f4 hne
 revert h6
 generalize d.w=w6
 intro h6
 replace c0:=h6.kp c0
 replace c1:=h6.kp c1
 replace c2:=h6.kp c2
 replace c3:=h6.kp c3
 replace c4:=h6.kp c4
 replace HN:=hD0 (HN.out.trans h6)
 clear h6 d0 d1 d2 d3 d4
 cases x<;>cases y
 ·have e:V=0:=by simpa using HV.out.symm
  subst e
  go_wp2
  go_ret
  exact⟨rfl,HN.out⟩
 ·have e:V=1:=by simpa using HV.out.symm
  subst e
  go_wp2_with (go_at_call 91;refine(HA.out _).mono ?_;rintro e w' ⟨rfl,g⟩)
  go_ret
  exact⟨rfl,HN.out.trans g⟩
 ·have e:V = -1:=by simpa using HV.out.symm
  subst e
  go_wp2_with (go_at_call 91;refine(HA.out _).mono ?_;rintro e w' ⟨rfl,g⟩)
  go_ret
  exact⟨rfl,HN.out.trans g⟩
 ·have e:V=0:=by simpa using HV.out.symm
  subst e
  go_wp2
  go_ret
  exact⟨rfl,HN.out⟩
theorem Zr7(a:Int)(w:World):Calls prog 94 #[.int .i64 a] w fun e w'=>e=.returned (.bool false)∧w=w':=by
 go_enter func94,ntmps94
 go_wp2
 go_ret
 exact⟨rfl,rfl⟩
theorem Zgc(a b:Int)(w:World):Calls prog 69 #[.int .i64 a,.int .i64 b] w fun e w'=>e=.returned (.int .i64 (cmI a b))∧Nw w w':=by
 have HN:=hD0 Zr7
 unfold cmI
 by_cases h1:a<b
 ·rw[if_pos h1]
  go_enter func69,ntmps69
  go_wp2_with (go_at_call 94;refine(HN.out _ _).mono ?_;rintro e w' ⟨rfl,rfl⟩)
  go_ret
  exact⟨rfl,Nw.refl _⟩
 rw[if_neg h1]
 by_cases h2:b<a
 ·rw[if_pos h2]
  go_enter func69,ntmps69
  go_wp2_with (go_at_call 94;refine(HN.out _ _).mono ?_;rintro e w' ⟨rfl,rfl⟩)
  go_ret
  exact⟨rfl,Nw.refl _⟩
 ·rw[if_neg h2]
  go_enter func69,ntmps69
  go_wp2_with (go_at_call 94;refine(HN.out _ _).mono ?_;rintro e w' ⟨rfl,rfl⟩)
  go_ret
  exact⟨rfl,Nw.refl _⟩
theorem dOr(x y:Int)(b:Nat)(w:World)(h0:w.cell? ⟨b,0,none⟩=some (.int .i64 x))(h1:w.cell? ⟨b,1,none⟩=some (.int .i64 y)) :
  Calls prog 68 #[.slice (some ⟨b,0,none⟩) 2 2] w fun e w'=>e=.returned (.int .i64 (if x≠0 then x else y))∧Nw w w':=by
 have hp:=World.block_lt_of_cell? _ _ h0
 by_cases hx:x=0
 ·have dx:(x != 0)=false:=by simpa using hx
  rw[if_neg (by simpa using hx)]
  by_cases hy:y=0
  ·have dy:(y != 0)=false:=by simpa using hy
   subst hx hy
   go_enter func68,ntmps68
   go_wp2
   refine wp_loop_rounds 3 ?_
   repeat (rw[rounds_succ];go_wp2)
   go_ret
   exact⟨rfl,Nw.refl _⟩
  ·have dy:(y != 0)=true:=by simpa using hy
   clear hy
   go_enter func68,ntmps68
   go_wp2
   refine wp_loop_rounds 3 ?_
   repeat (rw[rounds_succ];go_wp2)
   go_ret
   exact⟨rfl,Nw.refl _⟩
 ·have dx:(x != 0)=true:=by simpa using hx
  rw[if_pos (by simpa using hx)]
  clear hx
  go_enter func68,ntmps68
  go_wp2
  refine wp_loop_rounds 3 ?_
  repeat (rw[rounds_succ];go_wp2)
  go_ret
  exact⟨rfl,Nw.refl _⟩
theorem Zcn(A B:Rq)(w:World):Calls prog 141 #[rqV A,rqV B] w fun e w'=>e=.returned (.int .i64 (toI A B))∧Nw w w':=by
 have HH:=hD0 (Zb9 A B)
 have HC:=hD0 (Zgc A.sn B.sn)
 unfold toI
 generalize hoI A B=x at *
 obtain⟨y,hy⟩:∃y,cmI A.sn B.sn=y:=⟨_,rfl⟩
 rw[hy] at HC ⊢
 clear hy
 obtain⟨V,hV⟩:∃V,(if x≠0 then x else y)=V:=⟨_,rfl⟩
 have HO:=hD0 (dOr x y)
 rw[hV] at HO ⊢
 clear hV
 obtain⟨a,b,m,n,s⟩:=A
 obtain⟨a',b',m',n',s'⟩:=B
 unfold rqV at *
 simp only at HC
 have HX:=hD0 (Y6 w (.cells #[.int .i64 a,.int .i64 b,.int .i64 m,.int .i64 n,.int .i64 s] 43) (.cells #[.int .i64 a',.int .i64 b',.int .i64 m',.int .i64 n',.int .i64 s'] 43))
 go_enter func141,ntmps141
 go_wp2_with fail
 generalize (w.alloc (.cells #[.int .i64 a,.int .i64 b,.int .i64 m,.int .i64 n,.int .i64 s] 43)).alloc (.cells #[.int .i64 a',.int .i64 b',.int .i64 m',.int .i64 n',.int .i64 s'] 43)=w1 at *
 obtain⟨p,hp⟩:∃p,w.heap.size=p:=⟨_,rfl⟩
 rw[hp] at HX ⊢
 have c0:=Z0 (j:=0) HX.out.1
 have c1:=Z0 (j:=1) HX.out.1
 have c2:=Z0 (j:=2) HX.out.1
 have c3:=Z0 (j:=3) HX.out.1
 have c4:=Z0 (j:=4) HX.out.1
 have d0:=Z0 (j:=0) HX.out.2.1
 have d1:=Z0 (j:=1) HX.out.2.1
 have d2:=Z0 (j:=2) HX.out.2.1
 have d3:=Z0 (j:=3) HX.out.2.1
 have d4:=Z0 (j:=4) HX.out.2.1
 have HN:=hD0 HX.out.2.2.1
 clear HX hp
 have e0:∀d,Nw w1 d→d.cell? _=_:=fun d h=>h.kp c0
 have e1:∀d,Nw w1 d→d.cell? _=_:=fun d h=>h.kp c1
 have e2:∀d,Nw w1 d→d.cell? _=_:=fun d h=>h.kp c2
 have e3:∀d,Nw w1 d→d.cell? _=_:=fun d h=>h.kp c3
 have e4:∀d,Nw w1 d→d.cell? _=_:=fun d h=>h.kp c4
 have f0:∀d,Nw w1 d→d.cell? _=_:=fun d h=>h.kp d0
 have f1:∀d,Nw w1 d→d.cell? _=_:=fun d h=>h.kp d1
 have f2:∀d,Nw w1 d→d.cell? _=_:=fun d h=>h.kp d2
 have f3:∀d,Nw w1 d→d.cell? _=_:=fun d h=>h.kp d3
 have f4:∀d,Nw w1 d→d.cell? _=_:=fun d h=>h.kp d4
 clear c0 c1 c2 c3 c4 d0 d1 d2 d3 d4
 refine Z5 [some true,some true,some false,some true,some true,some true,some true,none,some false,none,some false,none,some false,none,some true] (Nw w1) (by kernel_rfl) (by kernel_rfl) (by kernel_rfl) (Nw.refl _).drewQ ?_
 have g1:=(Nw.refl w1).drewQ
 obtain⟨w2,hw2⟩:∃w2,w1.drew=w2:=⟨_,rfl⟩
 rw[hw2] at g1 ⊢
 clear hw2
 repeat (first
  | (refine HW.off ?_)
  | (refine HW.go (fun K hK=>?_);go_simp;(first | (go_at_call 152;(with_reducible refine(HH.out _).mono ?_);rintro e wy ⟨rfl,g2⟩) | (go_at_call 69;(with_reducible refine(HC.out _).mono ?_);rintro e wy ⟨rfl,g2⟩));refine hK.out _ _ (g1.trans g2) ?_;intro _;replace g1:=g1.trans g2;clear hK K g2)
  | (refine HW.take' ?_;apply Exists.intro;refine⟨Or.inl ⟨by rfl,?_⟩,?_⟩;(intro x hx;go_simp;first | done | with_reducible rfl);(try simp only[Act.put,List.setIfInBounds_toArray,List.set_cons_zero,List.set_cons_succ])))
 refine HW.go (fun K hK=>?_)
 go_simp
 have hb:=Z2 wy (.cells #[.int .i64 x,.int .i64 y] 3)
 have g3:=g1.alloc (.cells #[.int .i64 x,.int .i64 y] 3)
 have o0:=Z0 (j:=0) hb
 have o1:=Z0 (j:=1) hb
 refine hK.out _ _ g3 ?_
 intro _
 clear hK K
 refine HW.off ?_
 refine HW.go (fun K hK=>?_)
 go_simp
 go_at_call 68
 refine(HO.out _ _ o0 o1).mono ?_
 rintro e wz ⟨rfl,g4⟩
 have g5:=g3.trans g4
 refine hK.out _ _ g5 ?_
 intro _
 clear hK K
 refine HW.take' ?_
 apply Exists.intro
 refine⟨Or.inl ⟨by rfl,?_⟩,?_⟩
 ·(intro x hx;go_simp;first | done | with_reducible rfl)
 (try simp only[Act.put,List.setIfInBounds_toArray,List.set_cons_zero,List.set_cons_succ])
 refine HW.end_ ?_
 refine NoPanic.normal ?_
 go_wp2
 go_ret
 exact⟨rfl,HN.out.trans g5⟩
structure RqB(w:World)(p:Nat)(a b m n s:Int):Prop where
 lt:p<w.heap.size
 c0:w.cell? ⟨p,0,none⟩=some (.int .i64 a)
 c1:w.cell? ⟨p,1,none⟩=some (.int .i64 b)
 c2:w.cell? ⟨p,2,none⟩=some (.int .i64 m)
 c3:w.cell? ⟨p,3,none⟩=some (.int .i64 n)
 c4:w.cell? ⟨p,4,none⟩=some (.int .i64 s)
theorem RqB.nw{w w':World}{p:Nat}{a b m n s:Int}(h:RqB w p a b m n s)(g:Nw w w'):RqB w' p a b m n s :=
 ⟨lL0 h.lt g.sz,g.kp h.c0,g.kp h.c1,g.kp h.c2,g.kp h.c3,g.kp h.c4⟩
theorem RqB.of{w:World}{p:Nat}{a b m n s:Int}{T:TypeId}{fr:Nat × Nat}(h:w.heap[p]?=some (.cells #[.int .i64 a,.int .i64 b,.int .i64 m,.int .i64 n,.int .i64 s] T fr)):RqB w p a b m n s :=
 ⟨Z1 h,Z0 h,Z0 h,Z0 h,Z0 h,Z0 h⟩
theorem RqB.made(w:World)(a b m n s:Int)(T:TypeId):RqB (w.alloc (.cells #[.int .i64 a,.int .i64 b,.int .i64 m,.int .i64 n,.int .i64 s] T)) w.heap.size a b m n s:=RqB.of (Z2 w _)
theorem RqB.cells{w:World}{p:Nat}{a b m n s:Int}(h:RqB w p a b m n s):∀j u,(Zi ⟨a,b,m,n,s⟩)[j]?=some u→w.cell? ⟨p,j,none⟩=some u:=by
 intro j u hu
 have hj:j<5:=by have:=(List.getElem?_eq_some_iff.1 hu).1;simpa [Zi] using this
 rcases j with _ | _ | _ | _ | _ | j
 ·exact h.c0.trans hu
 ·exact h.c1.trans hu
 ·exact h.c2.trans hu
 ·exact h.c3.trans hu
 ·exact h.c4.trans hu
 ·omega
theorem Zkf(S R:Rq)(p:Nat)(w:World)(h:RqB w p S.id S.txn S.md S.wt S.sn):Calls prog 140 #[rqV R,.pointer (some ⟨p,0,none⟩)] w fun e w'=>e=.returned (.bool (decide (0<R.sn)&&decide (toI R S<0)))∧Nw w w':=by
 have HWt:=hD0 (Z4u R)
 have HT:=hD0 (Zcn R S)
 generalize toI R S=x at *
 obtain⟨y,hd⟩:∃y,decide (x<0)=y:=⟨_,rfl⟩
 rw[hd]
 generalize decide (0<R.sn)=z at *
 obtain⟨a,b,m,n,s⟩:=R
 obtain⟨a',b',m',n',s'⟩:=S
 unfold rqV at *
 simp only at h
 have hl:w.heap.size<(w.alloc (.cells #[.int .i64 a,.int .i64 b,.int .i64 m,.int .i64 n,.int .i64 s] 43)).heap.size:=by simp
 have hb:=RqB.made w a b m n s 43
 have hN:=(Nw.refl w).alloc (.cells #[.int .i64 a,.int .i64 b,.int .i64 m,.int .i64 n,.int .i64 s] 43)
 obtain⟨w1,hw1⟩:∃w1,w.alloc (.cells #[.int .i64 a,.int .i64 b,.int .i64 m,.int .i64 n,.int .i64 s] 43)=w1:=⟨_,rfl⟩
 rw[hw1] at hb hN hl
 have HW1:=hD0 hw1
 clear hw1
 obtain⟨hl0,c0,c1,c2,c3,c4⟩:=h.nw hN
 have hBB:=hD0 (aI0 (h.nw hN) hb)
 obtain⟨hl2,d0,d1,d2,d3,d4⟩:=hb
 have HN:=hD0 hN
 clear hN h
 cases z
 ·go_enter func140,ntmps140
  go_wp2_with fail
  rw[HW1.out]
  go_wp2_with (go_at_call 86;refine(HWt.out _).mono ?_;rintro e w2 ⟨rfl,g⟩)
  go_ret
  exact⟨rfl,HN.out.trans g⟩
 ·go_enter func140,ntmps140
  go_wp2_with fail
  rw[HW1.out]
  go_wp2_with fail
  go_at_call 86
  refine(HWt.out _).mono ?_
  rintro e w2 ⟨rfl,g⟩
  clear hl0 c0 c1 c2 c3 c4 hl2 d0 d1 d2 d3 d4
  obtain⟨hl0,c0,c1,c2,c3,c4⟩:=hBB.out.1.nw g
  obtain⟨hl2,d0,d1,d2,d3,d4⟩:=hBB.out.2.nw g
  have HN2:=hD0 (HN.out.trans g)
  clear HN hl g hBB
  go_wp2_with (go_at_call 141;refine(HT.out _).mono ?_;rintro e w3 ⟨rfl,g3⟩)
  go_ret
  exact⟨rfl,HN2.out.trans g3⟩
theorem Zgb(S:Rq)(w:World):Calls prog 114 #[rqV S] w fun e w'=>∃p,e=.returned (.func (.func 140) #[] #[.pointer (some ⟨p,0,none⟩)])∧Nw w w'∧RqB w' p S.id S.txn S.md S.wt S.sn:=by
 obtain⟨a',b',m',n',s'⟩:=S
 unfold rqV
 go_enter func114,ntmps114
 go_wp2
 go_ret
 exact⟨_,rfl,(Nw.refl _).alloc _,RqB.made _ _ _ _ _ _ _⟩
theorem Zn.ahead{w:World}{S:Rq}{p:Nat}(h:RqB w p S.id S.txn S.md S.wt S.sn):Zn w (.func (.func 140) #[] #[.pointer (some ⟨p,0,none⟩)]) (fun R=>decide (0<R.sn)&&decide (toI R S<0)) :=
 ⟨_,_,rfl,enters_of func140 (by kernel_rfl) rfl,fun R w1 g=>Zkf S R p w1 (h.nw g)⟩
def Z0r(w:World)(f:Value)(gi:Nat)(c:Int→Int→Int)(P:Int→Prop):Prop:=∃(g:Nat) (lb:Array Value),f=.func (.func g) #[] lb∧(∀args w,(callFunc g args).run prog w=.ok (.enter g args) w) ∧
 ∀(x y:Int) (w1:World),P x→P y→Z3 (fun k=>k=gi) w w1→Calls prog g (#[.int .i64 x,.int .i64 y]++lb) w1 fun e w'=>e=.returned (.int .i64 (c x y))∧Nw w1 w'
def Z1u(c:Int→Int→Int)(a:Nat):Nat→List Int→List Int
 | 0,L=>L
 | j+1,L=>if a<j+1∧c (L.getD (j+1) 0) (L.getD j 0)<0 then Z1u c a j ((L.set (j+1) (L.getD j 0)).set j (L.getD (j+1) 0))else L
def Z63(c:Int→Int→Int)(a:Nat):Nat→Nat→List Int→List Int
 | 0,_,L=>L
 | n+1,i,L=>Z63 c a n (i+1) (Z1u c a i L)
theorem Z6l{c:Int→Int→Int}{a j:Nat}{L:List Int}(h:¬a<j):Z1u c a j L=L:=by
 cases j with
 | zero=>rfl
 | succ j=>unfold Z1u;rw[if_neg (fun e=>h e.1)]
theorem Z6j{c:Int→Int→Int}{a j:Nat}{L:List Int}(h:¬c (L.getD (j+1) 0) (L.getD j 0)<0):Z1u c a (j+1) L=L:=by
 unfold Z1u;rw[if_neg (fun e=>h e.2)]
theorem Zd3{c:Int→Int→Int}{a j:Nat}{L:List Int}(h1:a<j+1)(h:c (L.getD (j+1) 0) (L.getD j 0)<0):Z1u c a (j+1) L=Z1u c a j ((L.set (j+1) (L.getD j 0)).set j (L.getD (j+1) 0)):=by
 conv=>lhs;unfold Z1u
 rw[if_pos ⟨h1,h⟩]
theorem Ziy{P:Int→Prop}{L:List Int}(h:∀x∈L,P x){x y:Int}(hx:P x)(hy:P y){m m1:Nat}:∀z∈(L.set m y).set m1 x,P z:=by
 intro z hz
 rcases List.mem_or_eq_of_mem_set hz with hz | rfl
 ·rcases List.mem_or_eq_of_mem_set hz with hz | rfl
  ·exact h z hz
  ·exact hy
 ·exact hx
theorem Z3.st'{S:Nat→Prop}{a b:World}(h:Z3 S a b){p:Nat}(hp:S p)(j:Nat)(u:Value):Z3 S a (b.setCell ⟨p,j,none⟩ u):=h.set (p:=⟨p,j,none⟩) (.inl hp) u
theorem Z7x(f:Value)(c:Int→Int→Int)(P:Int→Prop)(g cap:Nat)(l:List Int)(a b:Nat)(w:World)(hl:l.length≤1000)(hab:a≤b)(hb:b≤l.length)(h:IS w (.slice (some ⟨g,0,none⟩) l.length cap) l)(hP:∀x∈l,P x)(hf:Z0r w f g c P) :
  Calls prog 172 #[.slice (some ⟨g,0,none⟩) l.length cap,.int .i64 a,.int .i64 b,f] w fun e w'=>e=.returned (.tuple #[])∧IS w' (.slice (some ⟨g,0,none⟩) l.length cap) (Z63 c a (b-(a+1)) (a+1) l)∧Z3 (fun k=>k=g) w w':=by
 obtain⟨gf,lb,rfl,eg,hT⟩:=hf
 have HT:=hD0 hT
 have H:=hD0 (aI0 h hP)
 obtain⟨n,hn⟩:∃n,l.length=n:=⟨_,rfl⟩
 rw[hn] at hl hb H ⊢
 obtain⟨R,hR⟩:∃R,Z63 c a (b-(a+1)) (a+1) l=R:=⟨_,rfl⟩
 rw[hR]
 have HR:=hD0 (aI0 hR hn)
 clear hT h hP hR hn
 go_enter func172,ntmps172
 go_wp2
 go_loopw [8] (fun i wr=>∃(k:Nat) (L:List Int),i=.int .i64 k∧a<k∧(k≤b∨k=a+1)∧Z63 c a (b-k) k L=R∧L.length=n∧IS wr (.slice (some ⟨g,0,none⟩) n cap) L∧(∀x∈L,P x)∧Z3 (fun k=>k=g) w wr) (fun i _=>b-(intOf i).toNat)
 case atStart=>exact⟨a+1,l,by go_num,by omega,.inr rfl,HR.out.1,HR.out.2,H.out.1,H.out.2,Z3.refl _ _⟩
 case round =>
  obtain⟨k,L,rfl,hak,hkb,hS,hLn,hI,hPL,hTc⟩:=hrel
  by_cases Z1:k<b
  ·have hS2:Z63 c a (b-(k+1)) (k+1) (Z1u c a k L)=R:=by
    rw[show b-k=(b-(k+1))+1 by omega] at hS
    exact hS
   obtain⟨M,hM⟩:∃M,Z1u c a k L=M:=⟨_,rfl⟩
   rw[hM] at hS2
   have HM:=hD0 (aI0 hM (aI0 hI (aI0 hPL (aI0 hTc hLn))))
   have HS:=hD0 hS2
   clear hS hS2 hM hI hPL hTc hLn
   go_wp2
   go_loopw [9] (fun j wr=>∃(m:Nat) (L:List Int),j=.int .i64 m∧a≤m∧m≤k∧Z1u c a m L=M∧L.length=n∧IS wr (.slice (some ⟨g,0,none⟩) n cap) L∧(∀x∈L,P x)∧Z3 (fun k=>k=g) w wr) (fun j _=>(intOf j).toNat)
   case atStart=>exact⟨k,L,rfl,by omega,Nat.le_refl _,HM.out.1,HM.out.2.2.2.2,HM.out.2.1,HM.out.2.2.1,HM.out.2.2.2.1⟩
   case round =>
    obtain⟨m,L,rfl,ham,hmk,hF,hLn,hI,hPL,hTc⟩:=hrel
    have q1:=(Nw.refl wr).drewQ
    obtain⟨wc,hwc⟩:∃wc,wr.drew=wc:=⟨_,rfl⟩
    have hgl:=hI.glt
    by_cases hm:a<m
    ·obtain⟨m1,hm1⟩:∃m1,m=m1+1:=⟨m-1,by omega⟩
     have dm:decide ((a:Int)<(m:Int))=true:=by rw[decide_eq_true_iff];omega
     have c1:=hI.cell m (by omega)
     have c0:=hI.cell m1 (by omega)
     have px:P (L.getD m 0):=by
      rw[show L.getD m 0=L[m]'(by omega)by simp[List.getD,show m<L.length by omega]]
      exact hPL _ (gM0 _)
     have py:P (L.getD m1 0):=by
      rw[show L.getD m1 0=L[m1]'(by omega)by simp[List.getD,show m1<L.length by omega]]
      exact hPL _ (gM0 _)
     have HC:=hD0 (fun(w1:World) (hN:Nw wr w1)=>HT.out _ _ w1 px py (hTc.trans (Z3.nw hN)))
     have hw1:IntKind.i64.wrap ((m:Int)-1)=(m1:Int):=by rw[IntKind.wrap_i64];omega
     have hi1:(m:Int)<(n:Int):=by omega
     have hi0:(m1:Int)<(n:Int):=by omega
     have hkn1:m<n:=by omega
     have hkn0:m1<n:=by omega
     have HGo:Hid (c (L.getD m 0) (L.getD m1 0)<0→Z1u c a m1 ((L.set m (L.getD m1 0)).set m1 (L.getD m 0))=M):=hD0 (by subst hm1;exact fun e=>(Zd3 (L:=L) hm e).symm.trans hF)
     have HKe:Hid (¬c (L.getD m 0) (L.getD m1 0)<0→L=M):=hD0 (by subst hm1;exact fun e=>(Z6j (a:=a) (L:=L) e).symm.trans hF)
     have HM1:=hD0 hm1
     clear hm1
     have fz:=fun j=>hI.frozen j
     have HI:=hD0 (aI0 hI (aI0 hPL (aI0 hTc hLn)))
     have hpx:=hD0 px
     have hpy:=hD0 py
     clear px py hI hPL hTc hF hLn
     generalize hxe:L.getD m 0=x at *
     generalize hye:L.getD m1 0=y at *
     obtain⟨z,hz⟩:∃z,c x y=z:=⟨_,rfl⟩
     rw[hz] at HC HGo HKe
     clear hz hxe hye
     have s1:∀u,Nw wr u→u.cell? ⟨g,m,none⟩=some (.int .i64 x):=fun u hu=>hu.kp c1
     have s0:∀u,Nw wr u→u.cell? ⟨g,m1,none⟩=some (.int .i64 y):=fun u hu=>hu.kp c0
     by_cases hz0:z<0
     ·have dz:decide (z<0)=true:=by simpa using hz0
      have HF:=hD0 (HGo.out hz0)
      clear HGo HKe hz0 c1 c0
      go_wp2
      refine Z5 [some true,some true,some true,some true,some true,some true,some true,some true,some true,some true,some true,some true,some true,some true,some false,none,some true,some true] (Nw wr) (by kernel_rfl) (by kernel_rfl) (by kernel_rfl) q1 ?_
      rw[hwc] at q1 ⊢
      clear hwc
      repeat (first
       | (refine HW.off ?_)
       | (refine HW.take' ?_;(first | (refine⟨undef,Or.inr ⟨by rfl,rfl⟩,?_⟩) | (apply Exists.intro;refine⟨Or.inl ⟨by rfl,?_⟩,?_⟩;(intro x hx;go_simp;first | done | with_reducible rfl)));(try simp only[Act.put,List.setIfInBounds_toArray,List.set_cons_zero,List.set_cons_succ]))
       | (refine HW.go (fun K hK=>?_);go_simp;(first
        | (go_at_fn gf;(with_reducible refine(HC.out _ q1).mono ?_);rintro e wy ⟨rfl,g2⟩;refine hK.out _ _ (q1.trans g2) ?_;intro _;replace q1:=q1.trans g2;clear hK K g2)
        | (refine hK.out _ _ q1 ?_;intro _;clear hK K))))
      refine HW.end_ ?_
      refine NoPanic.normal ?_
      have t1:=s1 _ q1
      have t0:=s0 _ q1
      have hgl2:=lL0 hgl q1.sz
      have fz2:=fun j=>(q1.froz (o:=j) hgl).trans (fz j)
      have HQ:=hD0 q1
      clear s1 s0 q1 fz hgl
      go_wp2
      have hn1:¬m1=m:=by have:=HM1.out;omega
      have hn2:¬m=m1:=by have:=HM1.out;omega
      go_region
      go_wp2
      go_roundw
      case rel=>exact⟨m1,_,by go_num,by have:=HM1.out;omega,by have:=HM1.out;omega,HF.out,by rw[List.length_set,List.length_set];exact HI.out.2.2.2,(((HI.out.1.nw HQ.out).set m y).set m1 x).nw (Nw.refl _).drewQ,Ziy HI.out.2.1 hpx.out hpy.out,(((HI.out.2.2.1.trans (Z3.nw HQ.out)).st' rfl m _).st' rfl m1 _).drewN 1⟩
      case measure=>have:=HM1.out;simp[intOf];omega
     ·have dz:decide (z<0)=false:=by simpa using hz0
      have HF:=hD0 (HKe.out hz0)
      clear HGo HKe hz0 c1 c0
      go_wp2
      refine Z5 [some true,some true,some true,some true,some true,some true,some true,some true,some true,some true,some true,some true,some true,some true,some false,none,some true,some true] (Nw wr) (by kernel_rfl) (by kernel_rfl) (by kernel_rfl) q1 ?_
      rw[hwc] at q1 ⊢
      clear hwc
      repeat (first
       | (refine HW.off ?_)
       | (refine HW.take' ?_;(first | (refine⟨undef,Or.inr ⟨by rfl,rfl⟩,?_⟩) | (apply Exists.intro;refine⟨Or.inl ⟨by rfl,?_⟩,?_⟩;(intro x hx;go_simp;first | done | with_reducible rfl)));(try simp only[Act.put,List.setIfInBounds_toArray,List.set_cons_zero,List.set_cons_succ]))
       | (refine HW.go (fun K hK=>?_);go_simp;(first
        | (go_at_fn gf;(with_reducible refine(HC.out _ q1).mono ?_);rintro e wy ⟨rfl,g2⟩;refine hK.out _ _ (q1.trans g2) ?_;intro _;replace q1:=q1.trans g2;clear hK K g2)
        | (refine hK.out _ _ q1 ?_;intro _;clear hK K))))
      refine HW.end_ ?_
      refine NoPanic.normal ?_
      have HQ:=hD0 q1
      clear s1 s0 q1 fz hgl
      go_wp2
      go_roundw
      case rel=>exact⟨k+1,L,by go_num,by omega,.inl (by omega),by rw[HF.out];exact HS.out,HI.out.2.2.2,HI.out.1.nw HQ.out,HI.out.2.1,HI.out.2.2.1.trans (Z3.nw HQ.out)⟩
      case measure=>simp[intOf];omega
    ·have dm:decide ((a:Int)<(m:Int))=false:=by rw[decide_eq_false_iff_not];omega
     have HF:=hD0 ((Z6l (c:=c) (L:=L) hm).symm.trans hF)
     have HI:=hD0 (aI0 hI (aI0 hPL (aI0 hTc hLn)))
     clear hI hPL hTc hLn hF
     go_wp2
     refine Z5 [some true,some true,some true,some true,some true,some true,some true,some true,some true,some true,some true,some true,some true,some true,some false,none,some true,some true] (Nw wr) (by kernel_rfl) (by kernel_rfl) (by kernel_rfl) q1 ?_
     rw[hwc] at q1 ⊢
     clear hwc
     repeat (first
      | (refine HW.off ?_)
      | (refine HW.take' ?_;(first | (refine⟨undef,Or.inr ⟨by rfl,rfl⟩,?_⟩) | (apply Exists.intro;refine⟨Or.inl ⟨by rfl,?_⟩,?_⟩;(intro x hx;go_simp;first | done | with_reducible rfl)));(try simp only[Act.put,List.setIfInBounds_toArray,List.set_cons_zero,List.set_cons_succ]))
      | (refine HW.go (fun K hK=>?_);go_simp;((refine hK.out _ _ q1 ?_;intro _;clear hK K))))
     refine HW.end_ ?_
     refine NoPanic.normal ?_
     have HQ:=hD0 q1
     clear q1 hgl
     go_wp2
     go_roundw
     case rel=>exact⟨k+1,L,by go_num,by omega,.inl (by omega),by rw[HF.out];exact HS.out,HI.out.2.2.2,HI.out.1.nw HQ.out,HI.out.2.1,HI.out.2.2.1.trans (Z3.nw HQ.out)⟩
     case measure=>simp[intOf];omega
  ·have HF:=hD0 (show L=R by rw[←hS,show b-k=0 by omega];rfl)
   have HI:=hD0 (aI0 hI hTc)
   clear hS hI hTc hPL hLn
   go_wp2
   exact bodyPost_end (results_none rfl _ _ _) rfl ⟨rfl,by rw[←HF.out];exact HI.out.1,HI.out.2⟩
def Z0e(c:Int→Int→Int)(v:Int):List Int→List Int
 | []=>[v]
 | x::r=>if c v x<0 then x::Z0e c v r else v::x::r
def Z0q(c:Int→Int→Int)(S:List Int):List Int:=(S.foldl (fun acc v=>Z0e c v acc) []).reverse
theorem Z9b{P:List Int}(x:Int)(Q:List Int){k:Nat}(h:P.length=k):(P++x::Q).getD k 0=x:=by subst h;simp[List.getD]
theorem Zdj{P:List Int}(x y:Int)(Q:List Int){k:Nat}(h:P.length=k):(P++x::Q).set k y=P++y::Q:=by
 subst h
 rw[List.set_append_right _ _ (Nat.le_refl _),Nat.sub_self,List.set_cons_zero]
theorem Z6k(c:Int→Int→Int)(v:Int)(P:List Int)(a:Nat)(hP:P.length=a):∀(X Q:List Int),Z1u c a (a+X.length) (P++X.reverse++v::Q)=P++(Z0e c v X).reverse++Q
 | [],Q=>by
  rw[Z6l (by simp)]
  simp[Z0e]
 | x::X,Q=>by
  have hl:(P++X.reverse).length=a+X.length:=by simp[hP]
  have hl2:(P++X.reverse++[x]).length=a+X.length+1:=by simp[hP];omega
  have e0:P++(x::X).reverse++v::Q=(P++X.reverse)++x::(v::Q):=by simp
  have e1:P++(x::X).reverse++v::Q=(P++X.reverse++[x])++v::Q:=by simp
  have g1:(P++(x::X).reverse++v::Q).getD (a+X.length+1) 0=v:=by rw[e1];exact Z9b v Q hl2
  have g0:(P++(x::X).reverse++v::Q).getD (a+X.length) 0=x:=by rw[e0];exact Z9b x _ hl
  rw[show a+(x::X).length=a+X.length+1 by simp;omega]
  unfold Z0e
  by_cases h:c v x<0
  ·rw[if_pos h,Zd3 (by omega) (by rw[g1,g0];exact h),g1,g0]
   have s1:((P++(x::X).reverse++v::Q).set (a+X.length+1) x).set (a+X.length) v=P++X.reverse++v::(x::Q):=by
    rw[e1,Zdj v x Q hl2]
    have:P++X.reverse++[x]++x::Q=(P++X.reverse)++x::(x::Q):=by simp
    rw[this,Zdj x v _ hl]
   rw[s1,Z6k c v P a hP X (x::Q)]
   simp
  ·rw[if_neg h,Z6j (by rw[g1,g0];exact h)]
   simp
theorem Z71(c:Int→Int→Int)(P:List Int)(a:Nat)(hP:P.length=a):∀(S X Q:List Int),Z63 c a S.length (a+X.length) (P++X.reverse++S++Q)=P++(S.foldl (fun acc v=>Z0e c v acc) X).reverse++Q
 | [],X,Q=>by simp[Z63]
 | v::S,X,Q=>by
  have hx:∀l:List Int,(Z0e c v l).length=l.length+1:=by
   intro l
   induction l with
   | nil=>rfl
   | cons x r ih=>unfold Z0e;split<;>simp[ih]
  show Z63 c a S.length (a+X.length+1) (Z1u c a (a+X.length) (P++X.reverse++v::S++Q))=_
  have e:P++X.reverse++v::S++Q=P++X.reverse++v::(S++Q):=by simp
  rw[e,Z6k c v P a hP X (S++Q)]
  have:=Z71 c P a hP S (Z0e c v X) Q
  rw[hx X,show a+(X.length+1)=a+X.length+1 by omega] at this
  rw[show P++(Z0e c v X).reverse++(S++Q)=P++(Z0e c v X).reverse++S++Q by simp,this]
  rfl
theorem Z5m(c:Int→Int→Int)(l:List Int)(a b:Nat)(hab:a≤b)(hb:b≤l.length):Z63 c a (b-(a+1)) (a+1) l=l.take a++Z0q c ((l.drop a).take (b-a))++l.drop b:=by
 have hsp:l=l.take a++((l.drop a).take (b-a)++l.drop b):=by
  have h1:l.drop b=(l.drop a).drop (b-a):=by rw[List.drop_drop,show a+(b-a)=b by omega]
  rw[h1,List.take_append_drop,List.take_append_drop]
 obtain⟨S,hS⟩:∃S,(l.drop a).take (b-a)=S:=⟨_,rfl⟩
 have hSl:S.length=b-a:=by rw[←hS];simp;omega
 rw[hS] at hsp ⊢
 have hPl:(l.take a).length=a:=by simp;omega
 generalize l.take a=P at *
 generalize l.drop b=Q at *
 subst hsp
 cases S with
 | nil =>
  have:b-(a+1)=0:=by simp at hSl;omega
  rw[this]
  simp[Z63,Z0q]
 | cons v S =>
  have h1:b-(a+1)=S.length:=by simp at hSl;omega
  rw[h1]
  have:=Z71 c P a hPl S [v] Q
  rw[show P++[v].reverse++S++Q=P++(v::S++Q)by simp] at this
  rw[show a+1=a+[v].length by rfl,this]
  rfl
theorem Z00(c:Int→Int→Int)(v:Int):∀l:List Int,(Z0e c v l).Perm (v::l)
 | []=>.refl _
 | x::r=>by
  unfold Z0e
  split
  ·exact(List.Perm.cons x (Z00 c v r)).trans (List.Perm.swap v x r)
  ·exact .refl _
theorem Z6e(c:Int→Int→Int):∀(S X:List Int),(S.foldl (fun acc v=>Z0e c v acc) X).Perm (X++S)
 | [],X=>by simp
 | v::S,X=>by
  rw[List.foldl_cons]
  refine(Z6e c S (Z0e c v X)).trans ?_
  refine((Z00 c v X).append_right S).trans ?_
  exact(List.perm_middle (l₁:=X) (a:=v) (l₂:=S)).symm
theorem Z5j(c:Int→Int→Int)(S:List Int):(Z0q c S).Perm S:=by
 unfold Z0q
 exact(List.reverse_perm _).trans ((Z6e c S []).trans (by simp))
theorem Z3l(c:Int→Int→Int)(M:Int→Prop)(tr:∀x y z,M x→M y→M z→c x y<0→c y z<0→c x z<0)(tot:∀x y,M x→M y→x≠y→c x y<0∨c y x<0)(v:Int)(hv:M v):∀l:List Int,(∀x∈l,M x∧x≠v)→l.Pairwise (fun x y=>c y x<0)→(Z0e c v l).Pairwise (fun x y=>c y x<0)
 | [],_,_=>by simp[Z0e]
 | x::r,h,hp=>by
  have hx:=h x (by simp)
  have hr:∀y∈r,M y∧y≠v:=fun y hy=>h y (List.mem_cons_of_mem _ hy)
  rw[List.pairwise_cons] at hp
  unfold Z0e
  split
  ·rename_i hc
   rw[List.pairwise_cons]
   refine⟨fun y hy=>?_,Z3l c M tr tot v hv r hr hp.2⟩
   rcases List.mem_cons.1 ((Z00 c v r).mem_iff.1 hy)with rfl | hy
   ·exact hc
   ·exact hp.1 y hy
  ·rename_i hc
   have hxv:c x v<0:=(tot v x hv hx.1 (fun e=>hx.2 e.symm)).resolve_left hc
   rw[List.pairwise_cons]
   refine⟨fun y hy=>?_,by rw[List.pairwise_cons];exact hp⟩
   rcases List.mem_cons.1 hy with rfl | hy
   ·exact hxv
   ·exact tr y x v (hr y hy).1 hx.1 hv (hp.1 y hy) hxv
theorem Z3h(c:Int→Int→Int)(M:Int→Prop)(tr:∀x y z,M x→M y→M z→c x y<0→c y z<0→c x z<0)(tot:∀x y,M x→M y→x≠y→c x y<0∨c y x<0):∀(S X:List Int),(∀x∈S,M x)→(∀x∈X,M x)→(X++S).Nodup→X.Pairwise (fun x y=>c y x<0)→(S.foldl (fun acc v=>Z0e c v acc) X).Pairwise (fun x y=>c y x<0)
 | [],X,_,_,_,h=>h
 | v::S,X,hS,hX,hn,h=>by
  rw[List.foldl_cons]
  have hn':=List.nodup_append.1 hn
  refine Z3h c M tr tot S _ (fun x hx=>hS x (List.mem_cons_of_mem _ hx)) (fun x hx=>?_) ?_ (Z3l c M tr tot v (hS v (by simp)) X (fun x hx=>⟨hX x hx,fun e=>hn'.2.2 x hx v (by simp) e⟩) h)
  ·rcases List.mem_cons.1 ((Z00 c v X).mem_iff.1 hx)with rfl | hx
   ·exact hS _ (by simp)
   ·exact hX x hx
  ·refine(((Z00 c v X).append_right S).trans ?_).nodup_iff.2 hn
   exact(List.perm_middle (l₁:=X) (a:=v) (l₂:=S)).symm
theorem Z2n(c:Int→Int→Int)(M:Int→Prop)(tr:∀x y z,M x→M y→M z→c x y<0→c y z<0→c x z<0)(tot:∀x y,M x→M y→x≠y→c x y<0∨c y x<0)(S:List Int)(hS:∀x∈S,M x)(hn:S.Nodup):(Z0q c S).Pairwise (fun x y=>c x y<0):=by
 unfold Z0q
 rw[List.pairwise_reverse]
 exact Z3h c M tr tot S [] hS (by simp) (by simpa using hn) .nil
theorem Z57(v f:Value)(n:Nat)(ao:Option Addr)(cap a b:Nat)(w:World)(hv:v=.slice ao n cap)(hab:b≤a)(ha:a≤1000)(gf:Nat)(lb:Array Value)(hf:f=.func (.func gf) #[] lb) :
  Calls prog 172 #[v,.int .i64 a,.int .i64 b,f] w fun e w'=>e=.returned (.tuple #[])∧w=w':=by
 subst hv hf
 have d:decide (((a:Int)+1)<(b:Int))=false:=by rw[decide_eq_false_iff_not];omega
 go_enter func172,ntmps172
 go_wp2
 refine wp_loop_rounds 1 ?_
 repeat (rw[rounds_succ];go_wp2)
 exact bodyPost_end (results_none rfl _ _ _) rfl ⟨rfl,rfl⟩
theorem Zj2(f:Value)(c:Int→Int→Int)(P:Int→Prop)(v:Value)(l:List Int)(w:World)(gi:Nat)(hl:l.length≤20)(h:IS w v l)(hP:∀x∈l,P x)(hf:Z0r w f gi c P)(hgi:∀g,v.ownBlock=some g→g=gi) :
  Calls prog 159 #[v,.int .i64 l.length,f] w fun e w'=>e=.returned (.tuple #[])∧IS w' v (Z0q c l)∧Z3 (fun k=>v.ownBlock=some k) w w':=by
 rcases h.form with⟨rfl,rfl⟩ | ⟨g,cap,rfl⟩
 ·obtain⟨gf,lb,rfl,_⟩:=hf
  have HN:=hD0 (Z57 (.slice none 0 0) (.func (.func gf) #[] lb) 0 none 0 0 0 w rfl (Nat.le_refl _) (by omega) gf lb rfl)
  clear hP hgi hl
  have H:=hD0 h
  clear h
  go_enter func159,ntmps159
  go_wp2
  refine wp_loop_rounds 1 ?_
  rw[rounds_succ]
  go_wp2_with (go_at_call 172;refine HN.out.mono ?_;rintro e w1 ⟨rfl,rfl⟩)
  refine wp_loop_rounds 1 ?_
  repeat (rw[rounds_succ];go_wp2)
  exact bodyPost_end (results_none rfl _ _ _) rfl ⟨rfl,H.out,Z3.refl _ _⟩
 ·obtain rfl:=hgi g rfl
  by_cases hn:l.length=20
  ·have h1:=Z7x f c P g cap l 0 20 w (by omega) (by omega) (by omega) h hP hf
   rw[Z5m c l 0 20 (by omega) (by omega)] at h1
   rw[show l.take 0++Z0q c ((l.drop 0).take (20-0))++l.drop 20=Z0q c l by
    rw[List.take_zero,List.drop_zero,List.nil_append,List.drop_of_length_le (by omega),List.append_nil,show 20-0=l.length by omega,List.take_length]] at h1
   obtain⟨gf,lb,rfl,_⟩:=hf
   rw[hn] at h1 ⊢
   have HS:=hD0 h1
   have HN:=hD0 (fun w1=>Z57 (.slice (some ⟨g,0,none⟩) 20 cap) (.func (.func gf) #[] lb) 20 (some ⟨g,0,none⟩) cap 20 20 w1 rfl (Nat.le_refl _) (by omega) gf lb rfl)
   clear h1 h hP hn hl hgi
   go_enter func159,ntmps159
   go_wp2
   refine wp_loop_rounds 2 ?_
   rw[rounds_succ]
   go_wp2_with (go_at_call 172;refine HS.out.mono ?_;rintro e w1 ⟨rfl,hI,hT⟩)
   have HI:=hD0 (aI0 hI hT)
   clear hI hT
   rw[rounds_succ]
   go_wp2_with (go_at_call 172;refine(HN.out _).mono ?_;rintro e w2 ⟨rfl,rfl⟩)
   refine wp_loop_rounds 1 ?_
   repeat (rw[rounds_succ];go_wp2)
   exact bodyPost_end (results_none rfl _ _ _) rfl ⟨rfl,HI.out.1,HI.out.2.mono fun i _ e=>by rw[e];rfl⟩
  ·have h1:=Z7x f c P g cap l 0 l.length w (by omega) (by omega) (Nat.le_refl _) h hP hf
   rw[Z5m c l 0 l.length (by omega) (Nat.le_refl _)] at h1
   rw[show l.take 0++Z0q c ((l.drop 0).take (l.length-0))++l.drop l.length=Z0q c l by
    rw[List.take_zero,List.drop_zero,List.nil_append,List.drop_length,List.append_nil,Nat.sub_zero,List.take_length]] at h1
   obtain⟨gf,lb,rfl,_⟩:=hf
   have d1:decide ((20:Int)≤(l.length:Int))=false:=by rw[decide_eq_false_iff_not];omega
   have d2:decide ((20:Int)<(l.length:Int))=false:=by rw[decide_eq_false_iff_not];omega
   have HS:=hD0 h1
   clear h1 h hP hn hl hgi
   generalize l.length=n at *
   go_enter func159,ntmps159
   go_wp2
   refine wp_loop_rounds 1 ?_
   rw[rounds_succ]
   go_wp2_with (go_at_call 172;refine HS.out.mono ?_;rintro e w1 ⟨rfl,hI,hT⟩)
   have HI:=hD0 (aI0 hI hT)
   clear hI hT
   refine wp_loop_rounds 1 ?_
   repeat (rw[rounds_succ];go_wp2)
   exact bodyPost_end (results_none rfl _ _ _) rfl ⟨rfl,HI.out.1,HI.out.2.mono fun i _ e=>by rw[e];rfl⟩
theorem Zf4(f:Value)(c:Int→Int→Int)(P:Int→Prop)(v:Value)(l:List Int)(w:World)(gi:Nat)(hl:l.length≤20)(h:IS w v l)(hP:∀x∈l,P x)(hf:Z0r w f gi c P)(hgi:∀g,v.ownBlock=some g→g=gi) :
  Calls prog 153 #[v,f] w fun e w'=>e=.returned (.tuple #[])∧IS w' v (Z0q c l)∧Z3 (fun k=>v.ownBlock=some k) w w':=by
 have HS:=hD0 (Zj2 f c P v l w gi hl h hP hf hgi)
 obtain⟨ao,cap,rfl,_⟩:=h.box
 obtain⟨gf,lb,rfl,_⟩:=hf
 clear h hP hgi hl
 go_enter func153,ntmps153
 go_wp2_with (go_at_call 159;refine HS.out.mono ?_;rintro e w1 ⟨rfl,hI,hT⟩)
 exact bodyPost_end (results_none rfl _ _ _) rfl ⟨rfl,hI,hT⟩
end Go.Proofs.YtfepoibfbmehiaaGreatDoor
