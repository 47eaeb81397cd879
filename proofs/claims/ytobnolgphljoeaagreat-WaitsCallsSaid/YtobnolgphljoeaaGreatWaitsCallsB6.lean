/- Texts merged: QuD, QuG, QuI, QuJ, QvC, QsA, QvB, QvD, QuL, QuN, QvI, QvO, QvK, QvL, Shelf, QwA, QvP -/
import Derived.Test.YtobnolgphljoeaaGreatWaitsCallsB5
import Derived.StillTailTactics
import Derived.Maps.RangeWalk
import Derived.Lib.SliceRun
import Derived.Deep.Upon
import Derived.Shelf.Small.Bits
import Derived.Shelf.Small.Wraps
import Derived.Shelf.Strconv.Itoa0
import Derived.Shelf.Sort.Plain
import Derived.Shelf.Slices.Turned
import Derived.Shelf.Slices.Reverse
import Derived.Ground.Names2Prog
import Derived.Shelf.Slices.CompactI
import Derived.Shelf.Slices.Cells
import Derived.Shelf.Slices.In.SortNone
import Derived.Test.YtobnolgphljoeaaGreatProg
import Derived.Sort.OwnSortedInts
import Derived.Lib.RowBridge
import Derived.Deep.RegionLaw
set_option linter.unusedVariables false
set_option maxRecDepth 100000
set_option maxHeartbeats 16000000
namespace Go.Proofs.YtobnolgphljoeaaGreat
open Go.RowKit _root_.Go.Proofs.Tryz
def Z8v(q:List Rq)(id i:Int):Prop:=(i = -1∧fnd q id=none)∨∃k:Nat,i=k∧∃h:k<q.length,fnd q id=some q[k]
theorem Z6b{q:List Rq}{id:Int}{k:Nat}(hk:k<q.length)(h:fnd (q.take k) id=none)(e:q[k].id=id):fnd q id=some q[k]:=by
 have e2:q=q.take k++q[k]::q.drop (k+1):=by rw[←List.drop_eq_getElem_cons hk,List.take_append_drop]
 have:fnd (q.take k++q[k]::q.drop (k+1)) id=some q[k]:=by
  unfold fnd at h ⊢
  rw[List.find?_append,h,List.find?_cons]
  simp[e]
 rwa [←e2] at this
theorem Z6a{q:List Rq}{id:Int}{k:Nat}(hk:k<q.length)(h:fnd (q.take k) id=none)(e:q[k].id≠id):fnd (q.take (k+1)) id=none:=by
 unfold fnd at h ⊢
 rw[List.take_add_one,List.getElem?_eq_getElem hk,List.find?_append,h]
 simp[e]
theorem Zaz(t r W id:Int)(v:Value)(q:List Rq)(w:World)(hl:q.length≤1000)(h:Ue w v q) :
  Calls prog 64 #[hdV t r v W,.int .i64 id] w fun e w'=>∃i,e=.returned (.int .i64 i)∧Nw w w'∧Z8v q id i:=by
 unfold hdV
 obtain⟨a,c,rfl,⟨rfl,_⟩ | ⟨b,o,rfl,hc⟩⟩:=h
 ·go_enter func64,ntmps64
  go_wp2
  refine wp_loop_rounds 1 ?_
  repeat (rw[rounds_succ];go_wp2)
  go_ret
  exact⟨-1,rfl,(Nw.refl _).alloc _,.inl ⟨rfl,rfl⟩⟩
 ·have HA:Hid (∀k (hk:k<q.length),fnd (q.take k) id=none→q[k].id=id→Z8v q id (k:Int)):=hD0 fun k hk h1 h2=>.inr ⟨k,rfl,hk,Z6b hk h1 h2⟩
  have HC:=hD0 hc
  clear hc
  go_enter func64,ntmps64
  go_wp2
  have hB:=Z1r.made w t r (.slice (some ⟨b,o,none⟩) q.length c) W 66
  have hN:Nw w (w.alloc (.cells #[.int .i64 t,.int .i64 r,.slice (some ⟨b,o,none⟩) q.length c,.int .i64 W] 66)):=(Nw.refl w).alloc _
  obtain⟨p,hp⟩:∃p,w.heap.size=p:=⟨_,rfl⟩
  rw[hp] at hB
  rw[hp]
  clear hp
  generalize w.alloc (.cells #[.int .i64 t,.int .i64 r,.slice (some ⟨b,o,none⟩) q.length c,.int .i64 W] 66)=z at *
  have HZ:=hD0 (aI0 hB hN)
  have HR:=hD0 (HC.out.nw hN)
  clear hB hN HC
  go_loopw [5] (fun i wr=>∃k:Nat,k≤q.length∧i=.int .i64 k∧fnd (q.take k) id=none∧Nw z wr) (fun i _=>q.length-(intOf i).toNat)
  case atStart=>exact⟨0,Nat.zero_le _,rfl,rfl,Nw.refl _⟩
  case round =>
   obtain⟨k,hk,rfl,hf,hG⟩:=hrel
   have hb:=HZ.out.1.nw hG
   have h0:=hb.c0
   have h1:=hb.c1
   have h2:=hb.c2
   have h3:=hb.c3
   clear hb
   have HG:=hD0 (HZ.out.2.trans hG)
   have HG2:=hD0 hG
   by_cases hlt:k<q.length
   ·have hce:=(HR.out.nw hG).cell k hlt
    have HA2:=hD0 (HA.out k hlt hf)
    have HS:=hD0 (fun e=>Z6a hlt hf e)
    generalize q[k]=R at *
    obtain⟨b0,b1,b2,b3,b4⟩:=R
    have e0:=hce 0 _ rfl
    simp only[Nat.add_zero] at e0
    clear hce hf hG
    by_cases he:b0=id
    ·have d:(b0==id)=true:=by simpa using he
     have hr:=HA2.out he
     have HR2:=hD0 hr
     clear he hr
     go_wp2
     go_ret
     exact⟨_,rfl,HG.out,HR2.out⟩
    ·have d:(b0==id)=false:=by simpa using he
     have HS2:=hD0 (HS.out he)
     clear he HS HA2
     go_wp2
     go_roundw
     case rel=>exact⟨k+1,by omega,by go_num,HS2.out,HG2.out⟩
     case measure=>simp[intOf];omega
   ·obtain rfl:k=q.length:=by omega
    rw[List.take_length] at hf
    have HF:=hD0 hf
    clear hf hG
    go_wp2
    go_ret
    exact⟨-1,rfl,HG.out,.inl ⟨rfl,HF.out⟩⟩
theorem Z78{α:Type}{l:List α}{k:Nat}(hk:k<l.length){x:α}(hx:x∈l.take (k+1)):x∈l.take k∨x=l[k]:=by
 rw[List.take_add_one,List.getElem?_eq_getElem hk] at hx
 rcases List.mem_append.1 hx with h | h
 ·exact .inl h
 ·simp at h;exact .inr h
def Z3f(q:List Rq)(id:Int):Value:=match fnd q id with
 | none=>.tuple #[Uq ⟨0,0,0,0,0⟩,.bool false]
 | some r=>.tuple #[Uq r,.bool true]
theorem Vq{w:World}{g0 e size g n cap:Nat}{xs:List Value}(h:w.ownsRow g0 e size (.slice (some ⟨g,0,none⟩) n cap) n xs):n≤cap:=by
 obtain⟨_,q | ⟨g',cap',cur,e1,_,_,hn,_⟩⟩:=h
 ·simp at q
 ·simp only[Value.slice.injEq] at e1
  rw[e1.2.2];exact hn
def Z3v:Value→Prop
 | .slice _ n c=>n≤c
 | _=>True
def HR1(X:Hq × Int)(w:World)(e:Ending)(w':World):Prop:=∃v',e=.returned (.tuple #[hdV X.1.t X.1.r v' X.1.W,.int .i64 X.2])∧Nw w w'∧Ue w' v' X.1.q∧Z3v v'
theorem U6(w:World)(o1 o2:Obj):((w.alloc o1).alloc o2).heap[w.heap.size]?=some o1∧((w.alloc o1).alloc o2).heap[w.heap.size+1]?=some o2∧Nw w ((w.alloc o1).alloc o2)∧((w.alloc o1).alloc o2).heap.size=w.heap.size+1+1:=by
 have hs:(w.alloc o1).heap.size=w.heap.size+1:=by simp
 refine⟨((Nw.refl _).alloc o2).at' (Z4 w o1),?_,((Nw.refl w).alloc _).alloc _,by simp⟩
 have:=Z4 (w.alloc o1) o2
 rwa [hs] at this
def hoI(a b:Rq):Int:=if (a.md != 0)=(b.md != 0)then 0 else if (a.md != 0)=true then -1 else 1
def cmI(a b:Int):Int:=if a<b then -1 else if b<a then 1 else 0
def toI(a b:Rq):Int:=if hoI a b≠0 then hoI a b else cmI a.sn b.sn
theorem nwS{w:World}:∀a b,Nw w a→Nw a b→Nw w b:=fun _ _ h g=>h.trans g
theorem Nw.drewQ{w a:World}(h:Nw w a):Nw w a.drew:=h.drewN 1
theorem Z3a(A B:Rq)(w:World):Calls prog 109 #[Uq A,Uq B] w fun e w'=>e=.returned (.int .i64 (hoI A B))∧Nw w w':=by
 have HA:=hD0 (Z5v A)
 have HB:=hD0 (Z5v B)
 obtain⟨V,hV⟩:∃V,hoI A B=V:=⟨_,rfl⟩
 have hV2:=hV
 rw[hV]
 unfold hoI at hV2
 generalize (A.md != 0)=x at *
 generalize (B.md != 0)=y at *
 clear hV
 have HV:=hD0 hV2
 clear hV2
 obtain⟨a,b,m,n,s⟩:=A
 obtain⟨a',b',m',n',s'⟩:=B
 unfold Uq at *
 have HX:=hD0 (U6 w (.cells #[.int .i64 a,.int .i64 b,.int .i64 m,.int .i64 n,.int .i64 s] 69) (.cells #[.int .i64 a',.int .i64 b',.int .i64 m',.int .i64 n',.int .i64 s'] 69))
 go_enter func109,ntmps109
 go_wp2_with fail
 generalize (w.alloc (.cells #[.int .i64 a,.int .i64 b,.int .i64 m,.int .i64 n,.int .i64 s] 69)).alloc (.cells #[.int .i64 a',.int .i64 b',.int .i64 m',.int .i64 n',.int .i64 s'] 69)=w1 at *
 obtain⟨p,hp⟩:∃p,w.heap.size=p:=⟨_,rfl⟩
 rw[hp] at HX ⊢
 have hl1:=hlt HX.out.1
 have hl2:=hlt HX.out.2.1
 have c0:=Z2 (j:=0) HX.out.1
 have c1:=Z2 (j:=1) HX.out.1
 have c2:=Z2 (j:=2) HX.out.1
 have c3:=Z2 (j:=3) HX.out.1
 have c4:=Z2 (j:=4) HX.out.1
 have d0:=Z2 (j:=0) HX.out.2.1
 have d1:=Z2 (j:=1) HX.out.2.1
 have d2:=Z2 (j:=2) HX.out.2.1
 have d3:=Z2 (j:=3) HX.out.2.1
 have d4:=Z2 (j:=4) HX.out.2.1
 have HN:=hD0 HX.out.2.2.1
 clear HX hp hl1 hl2
 refine Zq (Nw w1) (by kernel_rfl) (by kernel_rfl) (Nw.refl _).drewQ ?_
 have e0:∀d:Wd (Nw w1),d.w.cell? _=_:=fun d=>d.h.kp c0
 have e1:∀d:Wd (Nw w1),d.w.cell? _=_:=fun d=>d.h.kp c1
 have e2:∀d:Wd (Nw w1),d.w.cell? _=_:=fun d=>d.h.kp c2
 have e3:∀d:Wd (Nw w1),d.w.cell? _=_:=fun d=>d.h.kp c3
 have e4:∀d:Wd (Nw w1),d.w.cell? _=_:=fun d=>d.h.kp c4
 have f0:∀d:Wd (Nw w1),d.w.cell? _=_:=fun d=>d.h.kp d0
 have f1:∀d:Wd (Nw w1),d.w.cell? _=_:=fun d=>d.h.kp d1
 have f2:∀d:Wd (Nw w1),d.w.cell? _=_:=fun d=>d.h.kp d2
 have f3:∀d:Wd (Nw w1),d.w.cell? _=_:=fun d=>d.h.kp d3
 have f4:∀d:Wd (Nw w1),d.w.cell? _=_:=fun d=>d.h.kp d4
 have hne:Nonempty (Wd (Nw w1)):=⟨⟨_,Nw.refl w1⟩⟩
 repeat (first | go_big_quiet_step ((first | (with_reducible exact Vb nwS (HA.out _)) | (with_reducible exact Vb nwS (HB.out _)))) | quiet_step ((first | (with_reducible exact Vb nwS (HA.out _)) | (with_reducible exact Vb nwS (HB.out _)))))
 refine wpQuiet_nil ?_
 intro d
 have h6:=d.h
 clear e0 e1 e2 e3 e4 f0 f1 f2 f3 f4 hne
 revert h6
 generalize d.w=w6
 intro h6
 replace c0:=h6.kp c0
 replace c1:=h6.kp c1
 replace c2:=h6.kp c2
 replace c3:=h6.kp c3
 replace c4:=h6.kp c4
 replace HN:=hD0 (HN.out.trans h6)
 clear h6 d0 d1 d2 d3 d4
 cases x<;>cases y
 ·have e:V=0:=by simpa using HV.out.symm
  subst e
  go_wp2
  go_ret
  exact⟨rfl,HN.out⟩
 ·have e:V=1:=by simpa using HV.out.symm
  subst e
  go_wp2_with (go_at_call 114;refine(HA.out _).mono ?_;rintro e w' ⟨rfl,g⟩)
  go_ret
  exact⟨rfl,HN.out.trans g⟩
 ·have e:V = -1:=by simpa using HV.out.symm
  subst e
  go_wp2_with (go_at_call 114;refine(HA.out _).mono ?_;rintro e w' ⟨rfl,g⟩)
  go_ret
  exact⟨rfl,HN.out.trans g⟩
 ·have e:V=0:=by simpa using HV.out.symm
  subst e
  go_wp2
  go_ret
  exact⟨rfl,HN.out⟩
theorem Zan(a:Int)(w:World):Calls prog 50 #[.int .i64 a] w fun e w'=>e=.returned (.bool false)∧w=w':=by
 go_enter func50,ntmps50
 go_wp2
 go_ret
 exact⟨rfl,rfl⟩
theorem Z5u(a b:Int)(w:World):Calls prog 30 #[.int .i64 a,.int .i64 b] w fun e w'=>e=.returned (.int .i64 (cmI a b))∧Nw w w':=by
 have HN:=hD0 Zan
 unfold cmI
 by_cases h1:a<b
 ·rw[if_pos h1]
  go_enter func30,ntmps30
  go_wp2_with (go_at_call 50;refine(HN.out _ _).mono ?_;rintro e w' ⟨rfl,rfl⟩)
  go_ret
  exact⟨rfl,Nw.refl _⟩
 rw[if_neg h1]
 by_cases h2:b<a
 ·rw[if_pos h2]
  go_enter func30,ntmps30
  go_wp2_with (go_at_call 50;refine(HN.out _ _).mono ?_;rintro e w' ⟨rfl,rfl⟩)
  go_ret
  exact⟨rfl,Nw.refl _⟩
 ·rw[if_neg h2]
  go_enter func30,ntmps30
  go_wp2_with (go_at_call 50;refine(HN.out _ _).mono ?_;rintro e w' ⟨rfl,rfl⟩)
  go_ret
  exact⟨rfl,Nw.refl _⟩
theorem dOr(x y:Int)(b:Nat)(w:World)(h0:w.cell? ⟨b,0,none⟩=some (.int .i64 x))(h1:w.cell? ⟨b,1,none⟩=some (.int .i64 y)) :
  Calls prog 29 #[.slice (some ⟨b,0,none⟩) 2 2] w fun e w'=>e=.returned (.int .i64 (if x≠0 then x else y))∧Nw w w':=by
 have hp:=World.block_lt_of_cell? _ _ h0
 by_cases hx:x=0
 ·have dx:(x != 0)=false:=by simpa using hx
  rw[if_neg (by simpa using hx)]
  by_cases hy:y=0
  ·have dy:(y != 0)=false:=by simpa using hy
   subst hx hy
   go_enter func29,ntmps29
   go_wp2
   refine wp_loop_rounds 3 ?_
   repeat (rw[rounds_succ];go_wp2)
   go_ret
   exact⟨rfl,Nw.refl _⟩
  ·have dy:(y != 0)=true:=by simpa using hy
   clear hy
   go_enter func29,ntmps29
   go_wp2
   refine wp_loop_rounds 3 ?_
   repeat (rw[rounds_succ];go_wp2)
   go_ret
   exact⟨rfl,Nw.refl _⟩
 ·have dx:(x != 0)=true:=by simpa using hx
  rw[if_pos (by simpa using hx)]
  clear hx
  go_enter func29,ntmps29
  go_wp2
  refine wp_loop_rounds 3 ?_
  repeat (rw[rounds_succ];go_wp2)
  go_ret
  exact⟨rfl,Nw.refl _⟩
theorem Z7q(A B:Rq)(w:World):Calls prog 87 #[Uq A,Uq B] w fun e w'=>e=.returned (.int .i64 (toI A B))∧Nw w w':=by
 have HH:=hD0 (Z3a A B)
 have HC:=hD0 (Z5u A.sn B.sn)
 unfold toI
 generalize hoI A B=x at *
 obtain⟨y,hy⟩:∃y,cmI A.sn B.sn=y:=⟨_,rfl⟩
 rw[hy] at HC ⊢
 clear hy
 obtain⟨V,hV⟩:∃V,(if x≠0 then x else y)=V:=⟨_,rfl⟩
 have HO:=hD0 (dOr x y)
 rw[hV] at HO ⊢
 clear hV
 obtain⟨a,b,m,n,s⟩:=A
 obtain⟨a',b',m',n',s'⟩:=B
 unfold Uq at *
 simp only at HC
 have HX:=hD0 (U6 w (.cells #[.int .i64 a,.int .i64 b,.int .i64 m,.int .i64 n,.int .i64 s] 69) (.cells #[.int .i64 a',.int .i64 b',.int .i64 m',.int .i64 n',.int .i64 s'] 69))
 go_enter func87,ntmps87
 go_wp2_with fail
 generalize (w.alloc (.cells #[.int .i64 a,.int .i64 b,.int .i64 m,.int .i64 n,.int .i64 s] 69)).alloc (.cells #[.int .i64 a',.int .i64 b',.int .i64 m',.int .i64 n',.int .i64 s'] 69)=w1 at *
 obtain⟨p,hp⟩:∃p,w.heap.size=p:=⟨_,rfl⟩
 rw[hp] at HX ⊢
 have c0:=Z2 (j:=0) HX.out.1
 have c1:=Z2 (j:=1) HX.out.1
 have c2:=Z2 (j:=2) HX.out.1
 have c3:=Z2 (j:=3) HX.out.1
 have c4:=Z2 (j:=4) HX.out.1
 have d0:=Z2 (j:=0) HX.out.2.1
 have d1:=Z2 (j:=1) HX.out.2.1
 have d2:=Z2 (j:=2) HX.out.2.1
 have d3:=Z2 (j:=3) HX.out.2.1
 have d4:=Z2 (j:=4) HX.out.2.1
 have HN:=hD0 HX.out.2.2.1
 clear HX hp
 have e0:∀d,Nw w1 d→d.cell? _=_:=fun d h=>h.kp c0
 have e1:∀d,Nw w1 d→d.cell? _=_:=fun d h=>h.kp c1
 have e2:∀d,Nw w1 d→d.cell? _=_:=fun d h=>h.kp c2
 have e3:∀d,Nw w1 d→d.cell? _=_:=fun d h=>h.kp c3
 have e4:∀d,Nw w1 d→d.cell? _=_:=fun d h=>h.kp c4
 have f0:∀d,Nw w1 d→d.cell? _=_:=fun d h=>h.kp d0
 have f1:∀d,Nw w1 d→d.cell? _=_:=fun d h=>h.kp d1
 have f2:∀d,Nw w1 d→d.cell? _=_:=fun d h=>h.kp d2
 have f3:∀d,Nw w1 d→d.cell? _=_:=fun d h=>h.kp d3
 have f4:∀d,Nw w1 d→d.cell? _=_:=fun d h=>h.kp d4
 clear c0 c1 c2 c3 c4 d0 d1 d2 d3 d4
 refine Uc [some true,some true,some false,some true,some true,some true,some true,none,some false,none,some false,none,some false,none,some true] (Nw w1) (by kernel_rfl) (by kernel_rfl) (by kernel_rfl) (Nw.refl _).drewQ ?_
 have g1:=(Nw.refl w1).drewQ
 obtain⟨w2,hw2⟩:∃w2,w1.drew=w2:=⟨_,rfl⟩
 rw[hw2] at g1 ⊢
 clear hw2
 repeat (first
  | (refine HW.off ?_)
  | (refine HW.go (fun K hK=>?_);go_simp;(first | (go_at_call 109;(with_reducible refine(HH.out _).mono ?_);rintro e wy ⟨rfl,g2⟩) | (go_at_call 30;(with_reducible refine(HC.out _).mono ?_);rintro e wy ⟨rfl,g2⟩));refine hK.out _ _ (g1.trans g2) ?_;intro _;replace g1:=g1.trans g2;clear hK K g2)
  | (refine HW.take' ?_;apply Exists.intro;refine⟨Or.inl ⟨by rfl,?_⟩,?_⟩;(intro x hx;go_simp;first | done | with_reducible rfl);(try simp only[Act.put,List.setIfInBounds_toArray,List.set_cons_zero,List.set_cons_succ])))
 refine HW.go (fun K hK=>?_)
 go_simp
 have hb:=Z4 wy (.cells #[.int .i64 x,.int .i64 y] 3)
 have g3:=g1.alloc (.cells #[.int .i64 x,.int .i64 y] 3)
 have o0:=Z2 (j:=0) hb
 have o1:=Z2 (j:=1) hb
 refine hK.out _ _ g3 ?_
 intro _
 clear hK K
 refine HW.off ?_
 refine HW.go (fun K hK=>?_)
 go_simp
 go_at_call 29
 refine(HO.out _ _ o0 o1).mono ?_
 rintro e wz ⟨rfl,g4⟩
 have g5:=g3.trans g4
 refine hK.out _ _ g5 ?_
 intro _
 clear hK K
 refine HW.take' ?_
 apply Exists.intro
 refine⟨Or.inl ⟨by rfl,?_⟩,?_⟩
 ·(intro x hx;go_simp;first | done | with_reducible rfl)
 (try simp only[Act.put,List.setIfInBounds_toArray,List.set_cons_zero,List.set_cons_succ])
 refine HW.end_ ?_
 refine NoPanic.normal ?_
 go_wp2
 go_ret
 exact⟨rfl,HN.out.trans g5⟩
structure RqB(w:World)(p:Nat)(a b m n s:Int):Prop where
 lt:p<w.heap.size
 c0:w.cell? ⟨p,0,none⟩=some (.int .i64 a)
 c1:w.cell? ⟨p,1,none⟩=some (.int .i64 b)
 c2:w.cell? ⟨p,2,none⟩=some (.int .i64 m)
 c3:w.cell? ⟨p,3,none⟩=some (.int .i64 n)
 c4:w.cell? ⟨p,4,none⟩=some (.int .i64 s)
theorem RqB.nw{w w':World}{p:Nat}{a b m n s:Int}(h:RqB w p a b m n s)(g:Nw w w'):RqB w' p a b m n s :=
 ⟨lL0 h.lt g.sz,g.kp h.c0,g.kp h.c1,g.kp h.c2,g.kp h.c3,g.kp h.c4⟩
theorem RqB.of{w:World}{p:Nat}{a b m n s:Int}{T:TypeId}{fr:Nat × Nat}(h:w.heap[p]?=some (.cells #[.int .i64 a,.int .i64 b,.int .i64 m,.int .i64 n,.int .i64 s] T fr)):RqB w p a b m n s :=
 ⟨hlt h,Z2 h,Z2 h,Z2 h,Z2 h,Z2 h⟩
theorem RqB.made(w:World)(a b m n s:Int)(T:TypeId):RqB (w.alloc (.cells #[.int .i64 a,.int .i64 b,.int .i64 m,.int .i64 n,.int .i64 s] T)) w.heap.size a b m n s:=RqB.of (Z4 w _)
theorem Z7p(S R:Rq)(p:Nat)(w:World)(h:RqB w p S.id S.txn S.md S.wt S.sn):Calls prog 86 #[Uq R,.pointer (some ⟨p,0,none⟩)] w fun e w'=>e=.returned (.bool (decide (0<R.sn)&&decide (toI R S<0)))∧Nw w w':=by
 have HWt:=hD0 (Z5w R)
 have HT:=hD0 (Z7q R S)
 generalize toI R S=x at *
 obtain⟨y,hd⟩:∃y,decide (x<0)=y:=⟨_,rfl⟩
 rw[hd]
 generalize decide (0<R.sn)=z at *
 obtain⟨a,b,m,n,s⟩:=R
 obtain⟨a',b',m',n',s'⟩:=S
 unfold Uq at *
 simp only at h
 have hl:w.heap.size<(w.alloc (.cells #[.int .i64 a,.int .i64 b,.int .i64 m,.int .i64 n,.int .i64 s] 69)).heap.size:=by simp
 have hb:=RqB.made w a b m n s 69
 have hN:=(Nw.refl w).alloc (.cells #[.int .i64 a,.int .i64 b,.int .i64 m,.int .i64 n,.int .i64 s] 69)
 obtain⟨w1,hw1⟩:∃w1,w.alloc (.cells #[.int .i64 a,.int .i64 b,.int .i64 m,.int .i64 n,.int .i64 s] 69)=w1:=⟨_,rfl⟩
 rw[hw1] at hb hN hl
 have HW1:=hD0 hw1
 clear hw1
 obtain⟨hl0,c0,c1,c2,c3,c4⟩:=h.nw hN
 have hBB:=hD0 (aI0 (h.nw hN) hb)
 obtain⟨hl2,d0,d1,d2,d3,d4⟩:=hb
 have HN:=hD0 hN
 clear hN h
 cases z
 ·go_enter func86,ntmps86
  go_wp2_with fail
  rw[HW1.out]
  go_wp2_with (go_at_call 60;refine(HWt.out _).mono ?_;rintro e w2 ⟨rfl,g⟩)
  go_ret
  exact⟨rfl,HN.out.trans g⟩
 ·go_enter func86,ntmps86
  go_wp2_with fail
  rw[HW1.out]
  go_wp2_with fail
  go_at_call 60
  refine(HWt.out _).mono ?_
  rintro e w2 ⟨rfl,g⟩
  clear hl0 c0 c1 c2 c3 c4 hl2 d0 d1 d2 d3 d4
  obtain⟨hl0,c0,c1,c2,c3,c4⟩:=hBB.out.1.nw g
  obtain⟨hl2,d0,d1,d2,d3,d4⟩:=hBB.out.2.nw g
  have HN2:=hD0 (HN.out.trans g)
  clear HN hl g hBB
  go_wp2_with (go_at_call 87;refine(HT.out _).mono ?_;rintro e w3 ⟨rfl,g3⟩)
  go_ret
  exact⟨rfl,HN2.out.trans g3⟩
theorem Z5t(S:Rq)(w:World):Calls prog 61 #[Uq S] w fun e w'=>∃p,e=.returned (.func (.func 86) #[] #[.pointer (some ⟨p,0,none⟩)])∧Nw w w'∧RqB w' p S.id S.txn S.md S.wt S.sn:=by
 obtain⟨a',b',m',n',s'⟩:=S
 unfold Uq
 go_enter func61,ntmps61
 go_wp2
 go_ret
 exact⟨_,rfl,(Nw.refl _).alloc _,RqB.made _ _ _ _ _ _ _⟩
theorem V2.ahead{w:World}{S:Rq}{p:Nat}(h:RqB w p S.id S.txn S.md S.wt S.sn):V2 w (.func (.func 86) #[] #[.pointer (some ⟨p,0,none⟩)]) (fun R=>decide (0<R.sn)&&decide (toI R S<0)) :=
 ⟨_,_,rfl,enters_of func86 (by kernel_rfl) rfl,fun R w1 g=>Z7p S R p w1 (h.nw g)⟩
structure SmH(w:World)(gf:Nat)(lb:Array Value)(g n a b:Nat)(l:List Int):Prop where
 eg:∀args w,(callFunc gf args).run prog w=.ok (.enter gf args) w
 cell:∀i z,i<n→Nw w z→z.cell? ⟨g,i,none⟩=some (.int .i64 (l.getD i 0))
 call:∀i j,a≤i→i<j→j<b→∃v:Int,decide (v<0)=false∧∀z,Nw w z→Calls prog gf (#[.int .i64 (l.getD j 0),.int .i64 (l.getD i 0)]++lb) z fun e w'=>e=.returned (.int .i64 v)∧Nw z w'
def plc(p:Rq→Bool):List Rq→Int
 | []=>-1
 | a::r=>if p a=true then 0 else if plc p r = -1 then -1 else plc p r+1
theorem Vr(p:Rq→Bool):∀q:List Rq,(plc p q = -1∧∀a∈q,p a=false)∨∃k:Nat,plc p q=k∧∃h:k<q.length,p q[k]=true∧∀i (hi:i<q.length),i<k→p q[i]=false
 | []=>.inl ⟨rfl,by simp⟩
 | a::r=>by
  unfold plc
  cases e:p a with
  | true=>exact .inr ⟨0,rfl,by simp,e,fun i _ h=>by omega⟩
  | false =>
   rcases Vr p r with⟨h1,h2⟩ | ⟨k,h1,h2,h3,h4⟩
   ·rw[h1]
    refine .inl ⟨rfl,fun x hx=>?_⟩
    rcases List.mem_cons.1 hx with rfl | hx
    ·exact e
    ·exact h2 x hx
   ·rw[h1]
    refine .inr ⟨k+1,?_,by simpa using h2,h3,fun i hi hik=>?_⟩
    ·simp only[Bool.false_eq_true,if_false]
     rw[if_neg (by omega)];rfl
    ·cases i with
     | zero=>exact e
     | succ i=>exact h4 i (by simpa using hi) (by omega)
theorem Z86{p:Rq→Bool}{q:List Rq}{k:Nat}(hk:k<q.length)(h:p q[k]=true)(hb:∀i (hi:i<q.length),i<k→p q[i]=false):plc p q=k:=by
 rcases Vr p q with⟨_,h2⟩ | ⟨j,h1,h2,h3,h4⟩
 ·rw[h2 _ (gM0 hk)] at h;cases h
 ·rw[h1]
  rcases Nat.lt_trichotomy j k with g | g | g
  ·rw[hb j h2 g] at h3;cases h3
  ·rw[g]
  ·rw[h4 k hk g] at h;cases h
theorem Z6p{p:Rq→Bool}{q:List Rq}(h:∀i (hi:i<q.length),p q[i]=false):plc p q = -1:=by
 rcases Vr p q with⟨h1,_⟩ | ⟨j,h1,h2,h3,_⟩
 ·exact h1
 ·rw[h j h2] at h3;cases h3
theorem Z96(v f:Value)(p:Rq→Bool)(q:List Rq)(w:World)(hl:q.length≤1000)(h:Ue w v q)(hf:V2 w f p) :
  Calls prog 107 #[v,f] w fun e w'=>e=.returned (.int .i64 (plc p q))∧Nw w w':=by
 obtain⟨g,lb,rfl,eg,hT⟩:=hf
 have HT:=hD0 hT
 clear hT
 obtain⟨a,c,rfl,⟨rfl,_⟩ | ⟨b,o,rfl,hc⟩⟩:=h
 ·go_enter func107,ntmps107
  go_wp2
  refine wp_loop_rounds 1 ?_
  repeat (rw[rounds_succ];go_wp2)
  go_ret
  exact⟨rfl,Nw.refl _⟩
 ·have H:=hD0 hc
  clear hc
  obtain⟨V,hV⟩:∃V,plc p q=V:=⟨_,rfl⟩
  rw[hV]
  have HV:=hD0 hV
  clear hV
  go_enter func107,ntmps107
  go_wp2
  go_loopw [8] (fun i wr=>∃k:Nat,k≤q.length∧i=.int .i64 k∧(∀i (hi:i<q.length),i<k→p q[i]=false)∧Nw w wr) (fun i _=>q.length-(intOf i).toNat)
  case atStart=>exact⟨0,Nat.zero_le _,rfl,fun _ _ h=>by omega,Nw.refl _⟩
  case round =>
   obtain⟨k,hk,rfl,hF,hN⟩:=hrel
   by_cases hlt:k<q.length
   ·have hce:=(H.out.nw hN).cell k hlt
    obtain⟨R,hR⟩:∃R,q[k]=R:=⟨_,rfl⟩
    rw[hR] at hce
    have HC:=hD0 (HT.out R)
    have HS:=hD0 hR
    have HF:=hD0 hF
    have HN:=hD0 hN
    clear hR hF hN
    obtain⟨B,hB⟩:∃B,p R=B:=⟨_,rfl⟩
    rw[hB] at HC
    have HB:=hD0 hB
    clear hB
    obtain⟨b0,b1,b2,b3,b4⟩:=R
    have e0:=hce 0 _ rfl
    have e1:=hce 1 _ rfl
    have e2:=hce 2 _ rfl
    have e3:=hce 3 _ rfl
    have e4:=hce 4 _ rfl
    simp only[Nat.add_zero] at e0
    clear hce
    cases B
    case true =>
     go_wp2_with (go_at_fn g;refine(HC.out _ HN.out).mono ?_;rintro e w1 ⟨rfl,g1⟩)
     go_ret
     exact⟨by rw[←HV.out,Z86 hlt (by rw[HS.out];exact HB.out) HF.out];rfl,HN.out.trans g1⟩
    case false =>
     go_wp2_with (go_at_fn g;refine(HC.out _ HN.out).mono ?_;rintro e w1 ⟨rfl,g1⟩)
     go_roundw
     case rel =>
      refine⟨k+1,by omega,by go_num,fun i hi hik=>?_,HN.out.trans g1⟩
      by_cases q:i<k
      ·exact HF.out i hi q
      ·have:i=k:=by omega
       subst this
       rw[HS.out];exact HB.out
     case measure=>simp[intOf];omega
   ·have HF:=hD0 hF
    have HN:=hD0 hN
    clear hF hN
    go_wp2
    go_ret
    exact⟨by rw[←HV.out,Z6p fun i hi=>HF.out i hi (by omega)];rfl,HN.out⟩
theorem Za3(t r W:Int)(v f:Value)(p:Rq→Bool)(q:List Rq)(w:World)(hl:q.length≤1000)(h:Ue w v q)(hf:V2 w f p) :
  Calls prog 84 #[hdV t r v W,f] w fun e w'=>e=.returned (.int .i64 (plc p q))∧Nw w w':=by
 have HI:=hD0 (fun(w1:World) (g:Nw w w1)=>Z96 v f p q w1 hl (h.nw g) (hf.nw g))
 obtain⟨a,c,rfl⟩:=h.form
 obtain⟨g,lb,rfl,_⟩:=hf
 unfold hdV
 clear h
 have hN:Nw w (w.alloc (.cells #[.int .i64 t,.int .i64 r,.slice a q.length c,.int .i64 W] 66)):=(Nw.refl w).alloc _
 go_enter func84,ntmps84
 go_wp2_with (go_at_call 107;refine(HI.out _ hN).mono ?_;rintro e w1 ⟨rfl,g1⟩)
 go_ret
 exact⟨rfl,hN.trans g1⟩
section
open Go.RowKit Go.Maps Go.ChangeMaps
section
variable {w w':World} {b n:Nat} {c:Int→Int}
end
theorem dCp(a b:Int)(w:World)(ha:V4 a=true)(hb:V4 b=true):Calls prog 62 #[.int .i64 a,.int .i64 b] w fun e w'=>e=.returned (.bool (cpI a b))∧Nw w w':=by
 have h1:=(Vf a).1 ha
 have h2:=(Vf b).1 hb
 rw[Z8q a b ha hb]
 exact Z94 a b w h1.1 h1.2 h2.1 h2.2
end
theorem Za9{W:Int}{q:List Rq}(h:Ok W q){m k:Nat}(hm:m<q.length)(hk:k<q.length)(ne:m≠k):q[m].id≠q[k].id:=by
 rcases Nat.lt_or_gt_of_ne ne with g | g
 ·exact(List.pairwise_iff_getElem.1 h.pr m k hm hk g).id
 ·exact fun e=>(List.pairwise_iff_getElem.1 h.pr k m hk hm g).id e.symm
def HR2(X:Hq × Bool × Int)(w:World)(e:Ending)(w':World):Prop:=∃v',e=.returned (.tuple #[hdV X.1.t X.1.r v' X.1.W,.bool X.2.1,.int .i64 X.2.2])∧Nw w w'∧Ue w' v' X.1.q∧Z3v v'
theorem Z74{α:Type}(q:List α)(k:Nat)(hk:k<q.length):q=q.take k++q[k]::q.drop (k+1):=by rw[←List.drop_eq_getElem_cons hk,List.take_append_drop]
theorem Za8{a b:Rq}(h1:a.md≠0)(h2:b.md=0):toI a b<0:=by
 have:hoI a b = -1:=by unfold hoI;simp[h1,h2]
 unfold toI;rw[this,if_pos (by decide)];decide
theorem Za7{a b:Rq}(h1:a.md=0)(h2:b.md≠0):¬toI a b<0:=by
 have:hoI a b=1:=by unfold hoI;simp[h1,h2]
 unfold toI;rw[this,if_pos (by decide)];decide
theorem Z8t{a b:Rq}(h:a.md=0↔b.md=0):toI a b=cmI a.sn b.sn:=by
 have e:(a.md != 0)=(b.md != 0):=by
  by_cases z:a.md=0
  ·rw[z,h.1 z]
  ·have y:b.md≠0:=fun e=>z (h.2 e)
   rw[bne_iff_ne.2 z,bne_iff_ne.2 y]
 have:hoI a b=0:=by unfold hoI;rw[if_pos e]
 unfold toI;rw[this];simp
theorem Z8p{a b:Int}:cmI a b<0↔a<b:=by
 unfold cmI
 by_cases h1:a<b
 ·rw[if_pos h1];exact⟨fun _=>h1,fun _=>by decide⟩
 ·rw[if_neg h1]
  by_cases h2:b<a
  ·rw[if_pos h2];exact⟨fun e=>by omega,fun e=>absurd e h1⟩
  ·rw[if_neg h2];exact⟨fun e=>by omega,fun e=>absurd e h1⟩
theorem Z4o{a b:Rq}:toI a b<0↔(a.md≠0∧b.md=0)∨((a.md=0↔b.md=0)∧a.sn<b.sn):=by
 by_cases z:a.md=0
 ·by_cases y:b.md=0
  ·rw[Z8t (by simp[z,y]),Z8p];simp[z,y]
  ·have:=Za7 z y
   simp[this,z,y]
 ·by_cases y:b.md=0
  ·have:=Za8 z y
   simp[this,z,y]
  ·rw[Z8t (by simp[z,y]),Z8p];simp[z,y]
def Z5f(q:List Rq)(x:Int):Rq:=q.getD x.toNat ⟨0,0,0,0,0⟩
def tC(q:List Rq)(x y:Int):Int:=toI (Z5f q x) (Z5f q y)
abbrev Zay(p:Rq→Bool)(l:List Rq):List Rq:=l.filter fun s=>!p s
structure Del(p:Rq→Bool)(w wr:World)(g0 g n cap a b:Nat)(l R:List Rq):Prop where
 ab:a<b
 bn:b≤l.length
 len:R.length=l.length
 front:R.take a=Zay p (l.take b)
 rest:R.drop b=l.drop b
 row:Z8m wr g0 (.slice (some ⟨g,0,none⟩) n cap) R
 tch:Zd (fun k=>k=g) w wr
section
variable {p:Rq→Bool} {w wr wr':World} {g0 g n cap a b:Nat} {l R:List Rq}
end
theorem Z8z(q:List Rq)(id:Int):Z8v q id (plc (fun R=>R.id==id) q):=by
 rcases Vr (fun R=>R.id==id) q with⟨h1,h2⟩ | ⟨k,h1,hk,h3,h4⟩
 ·refine .inl ⟨h1,?_⟩
  unfold fnd
  rw[List.find?_eq_none]
  intro x hx;rw[h2 x hx];simp
 ·refine .inr ⟨k,h1,hk,?_⟩
  unfold fnd
  have e:=Z74 q k hk
  conv=>lhs;rw[e]
  rw[List.find?_append,List.find?_cons,h3]
  have:(q.take k).find? (fun r=>r.id==id)=none:=by
   rw[List.find?_eq_none]
   intro x hx
   obtain⟨i,hi,rfl⟩:=List.getElem_of_mem hx
   simp at hi
   have:=h4 i (by omega) (by omega)
   simpa using this
  rw[this];rfl
theorem Z95(t r W id:Int)(v:Value)(q:List Rq)(w:World)(hl:q.length≤1000)(h:Ue w v q) :
  Calls prog 59 #[hdV t r v W,.int .i64 id] w fun e w'=>e=.returned (Z3f q id)∧Nw w w':=by
 obtain⟨V,hV⟩:∃V,Z3f q id=V:=⟨_,rfl⟩
 rw[hV]
 obtain⟨px,hpx⟩:∃px,plc (fun R=>R.id==id) q=px:=⟨_,rfl⟩
 have hFi:=fun(w1:World) (g:Nw w w1) (f:Value) (hf:V2 w1 f (fun R=>R.id==id))=>Za3 t r W v f _ q w1 hl (h.nw g) hf
 rw[hpx] at hFi
 have HAt:=hD0 h
 obtain⟨a,c,rfl,_⟩:=h
 unfold hdV at hFi ⊢
 have HFi:=hD0 hFi
 clear hFi
 have HWi:=hD0 (Z7r id)
 obtain⟨hx1,hx2,hx3,hx4⟩:=U6 w (.cells #[.int .i64 t,.int .i64 r,.slice a q.length c,.int .i64 W] 66) (.cells #[.int .i64 0,.int .i64 0,.int .i64 0,.int .i64 0,.int .i64 0] 69)
 obtain⟨w1,hw1⟩:∃w1,(w.alloc (.cells #[.int .i64 t,.int .i64 r,.slice a q.length c,.int .i64 W] 66)).alloc (.cells #[.int .i64 0,.int .i64 0,.int .i64 0,.int .i64 0,.int .i64 0] 69)=w1:=⟨_,rfl⟩
 rw[hw1] at hx1 hx2 hx3
 have HB1:=hD0 (aI0 (aI0 hx1 hx2) hx3)
 have s0:∀z,Nw w1 z→z.cell? ⟨w.heap.size,0,none⟩=some (.int .i64 t):=fun z hz=>hz.kp (Z2 (j:=0) hx1)
 have s1:∀z,Nw w1 z→z.cell? ⟨w.heap.size,1,none⟩=some (.int .i64 r):=fun z hz=>hz.kp (Z2 (j:=1) hx1)
 have s2:∀z,Nw w1 z→z.cell? ⟨w.heap.size,2,none⟩=some (.slice a q.length c):=fun z hz=>hz.kp (Z2 (j:=2) hx1)
 have s3:∀z,Nw w1 z→z.cell? ⟨w.heap.size,3,none⟩=some (.int .i64 W):=fun z hz=>hz.kp (Z2 (j:=3) hx1)
 clear hx1 hx2 hx3 hx4
 have HW1:=hD0 hw1
 clear hw1
 have q1:=(Nw.refl w1).drewQ
 obtain⟨wc,hwc⟩:∃wc,w1.drew=wc:=⟨_,rfl⟩
 go_enter func59,ntmps59
 go_wp2
 rw[HW1.out]
 refine Uc [some true,some true,some false,none,some false,none,some true] (Nw w1) (by kernel_rfl) (by kernel_rfl) (by kernel_rfl) q1 ?_
 rw[hwc] at q1 ⊢
 clear hwc
 repeat (first
  | (refine HW.off ?_)
  | (refine HW.take' ?_;(first | (refine⟨undef,Or.inr ⟨by rfl,rfl⟩,?_⟩) | (apply Exists.intro;refine⟨Or.inl ⟨by rfl,?_⟩,?_⟩;(intro x hx;go_simp;first | done | with_reducible rfl)));(try simp only[Act.put,List.setIfInBounds_toArray,List.set_cons_zero,List.set_cons_succ]))
  | (refine HW.go (fun K hK=>?_);go_simp;(first
   | (go_at_call 85;(with_reducible refine(HWi.out _).mono ?_);rintro e wy ⟨pa,rfl,g2,hbx⟩;refine hK.out _ _ (q1.trans g2) ?_;intro _;replace q1:=q1.trans g2;clear hK K g2;replace hbx:=V2.withID hbx)
   | (go_at_call 84;(with_reducible refine(HFi.out _ (HB1.out.2.trans q1) _ hbx).mono ?_);rintro e wy ⟨rfl,g2⟩;refine hK.out _ _ (q1.trans g2) ?_;intro _;replace q1:=q1.trans g2;clear hK K g2 hbx)
   | (refine hK.out _ _ q1 ?_;intro _;clear hK K))))
 refine HW.end_ ?_
 refine NoPanic.normal ?_
 have HN:=hD0 (HB1.out.2.trans q1)
 have hp1:=q1.at' HB1.out.1.1
 have hq1:=q1.at' HB1.out.1.2
 have c0:=Z2 (j:=0) hp1
 have c1:=Z2 (j:=1) hp1
 have c2:=Z2 (j:=2) hp1
 have c3:=Z2 (j:=3) hp1
 have hpl:=hlt hp1
 have d0:=Z2 (j:=0) hq1
 have d1:=Z2 (j:=1) hq1
 have d2:=Z2 (j:=2) hq1
 have d3:=Z2 (j:=3) hq1
 have d4:=Z2 (j:=4) hq1
 have fz:=fun k=>hfz (j:=k) hq1
 have hsl2:=hlt hq1
 rcases Z8z q id with⟨e1,hf⟩ | ⟨k,e1,hk,hf⟩
 ·obtain rfl:=hpx.symm.trans e1
  have HF:=hD0 (hV.symm.trans (show Z3f q id=.tuple #[Uq ⟨0,0,0,0,0⟩,.bool false] by unfold Z3f;rw[hf]))
  clear hpx hV e1 hf s0 s1 s2 s3 HB1 HFi HWi HAt HW1 q1 hp1 hq1
  go_wp2
  refine bodyPost_ret (v:=.tuple #[.agg #[.int .i64 0,.int .i64 0,.int .i64 0,.int .i64 0,.int .i64 0],.bool false]) (by simp only[results,results59];simp[go_sem, *]) rfl ⟨by rw[HF.out];rfl,?_⟩
  exact((((HN.out.st (Nat.le_succ _) _).st (Nat.le_succ _) _).st (Nat.le_succ _) _).st (Nat.le_succ _) _).st (Nat.le_succ _) _
 ·obtain rfl:=hpx.symm.trans e1
  rcases(HAt.out.nw HN.out) with⟨a',c',e3,⟨e4,_⟩ | ⟨b,o,e4,hc⟩⟩
  ·subst e4;simp at hk
  simp only[Value.slice.injEq,true_and] at e3
  obtain⟨rfl,rfl⟩:=e3
  subst e4
  have hce:=hc.cell k hk
  have dk:((k:Int)==-1)=false:=by simp
  have hki:(k:Int)<(q.length:Int):=by omega
  have HF:=hD0 (hV.symm.trans (show Z3f q id=.tuple #[Uq q[k],.bool true] by unfold Z3f;rw[hf]))
  clear hpx hV e1 hf s0 s1 s2 s3 HB1 HFi HWi HAt HW1 q1 hp1 hq1 hc
  generalize q[k]=R at *
  obtain⟨b0,b1,b2,b3,b4⟩:=R
  have m0:=hce 0 _ rfl
  have m1:=hce 1 _ rfl
  have m2:=hce 2 _ rfl
  have m3:=hce 3 _ rfl
  have m4:=hce 4 _ rfl
  simp only[Nat.add_zero] at m0
  clear hce
  go_wp2
  refine bodyPost_ret (v:=.tuple #[.agg #[.int .i64 b0,.int .i64 b1,.int .i64 b2,.int .i64 b3,.int .i64 b4],.bool true]) (by simp only[results,results59];simp[go_sem, *]) rfl ⟨by rw[HF.out];rfl,?_⟩
  exact((((HN.out.st (Nat.le_succ _) _).st (Nat.le_succ _) _).st (Nat.le_succ _) _).st (Nat.le_succ _) _).st (Nat.le_succ _) _
end Go.Proofs.YtobnolgphljoeaaGreat
namespace Go.Proofs
open _root_.Go.Proofs.Tryz
open Go.Shelf
def Tryz.lays189_ren:Go.Shelf.Ren:=⟨fun | 189=>52 | 125=>49 | 257=>80 | 128=>77 | 129=>78 | 294=>97 | 295=>98 | 296=>99 | 297=>100 | 298=>101 | 299=>102 | 216=>103 | 300=>104 | 301=>105 | 328=>111 | 329=>93 | 330=>94 | 331=>112 | 332=>113 | 215=>50 | 343=>115 | n=>n,fun | 28=>25 | 3=>3 | 46=>81 | 0=>0 | 51=>101 | 53=>103 | 4=>4 | 183=>95 | 182=>94 | 131=>39 | 5=>5 | 9=>9 | 218=>116 | 222=>120 | 228=>130 | 229=>131 | n=>n,fun | n=>n⟩
theorem Tryz.lays189:Go.Proofs.Lays.n189 prog Tryz.lays189_ren:={
 mixed:=by kernel_rfl
 f125:=func49.trans (congrArg some (by kernel_rfl))
 f128:=func77.trans (congrArg some (by kernel_rfl))
 f129:=func78.trans (congrArg some (by kernel_rfl))
 f189:=func52.trans (congrArg some (by kernel_rfl))
 f215:=func50.trans (congrArg some (by kernel_rfl))
 f216:=func103.trans (congrArg some (by kernel_rfl))
 f257:=func80.trans (congrArg some (by kernel_rfl))
 f294:=func97.trans (congrArg some (by kernel_rfl))
 f295:=func98.trans (congrArg some (by kernel_rfl))
 f296:=func99.trans (congrArg some (by kernel_rfl))
 f297:=func100.trans (congrArg some (by kernel_rfl))
 f298:=func101.trans (congrArg some (by kernel_rfl))
 f299:=func102.trans (congrArg some (by kernel_rfl))
 f300:=func104.trans (congrArg some (by kernel_rfl))
 f301:=func105.trans (congrArg some (by kernel_rfl))
 f328:=func111.trans (congrArg some (by kernel_rfl))
 f329:=func93.trans (congrArg some (by kernel_rfl))
 f330:=func94.trans (congrArg some (by kernel_rfl))
 f331:=func112.trans (congrArg some (by kernel_rfl))
 f332:=func113.trans (congrArg some (by kernel_rfl))
 f343:=func115.trans (congrArg some (by kernel_rfl))
 t0:=underlying0
 a0:=Tryz.isAgg0
 z0:=Tryz.sizeOf0
 v0:=Tryz.zeroValue0
 t3:=underlying3
 a3:=Tryz.isAgg3
 z3:=Tryz.sizeOf3
 v3:=Tryz.zeroValue3
 t4:=underlying4
 a4:=Tryz.isAgg4
 z4:=Tryz.sizeOf4
 v4:=Tryz.zeroValue4
 t5:=underlying5
 a5:=Tryz.isAgg5
 z5:=Tryz.sizeOf5
 v5:=Tryz.zeroValue5
 t9:=underlying9
 a9:=Tryz.isAgg9
 z9:=Tryz.sizeOf9
 v9:=Tryz.zeroValue9
 t28:=underlying25
 a28:=Tryz.isAgg25
 z28:=Tryz.sizeOf25
 v28:=Tryz.zeroValue25
 t46:=underlying81
 a46:=Tryz.isAgg81
 z46:=Tryz.sizeOf81
 v46:=Tryz.zeroValue81
 t51:=underlying101
 a51:=Tryz.isAgg101
 z51:=Tryz.sizeOf101
 v51:=Tryz.zeroValue101
 t53:=underlying103
 a53:=Tryz.isAgg103
 z53:=Tryz.sizeOf103
 v53:=Tryz.zeroValue103
 t131:=underlying39
 a131:=Tryz.isAgg39
 z131:=Tryz.sizeOf39
 v131:=Tryz.zeroValue39
 t182:=underlying94
 a182:=Tryz.isAgg94
 z182:=Tryz.sizeOf94
 v182:=Tryz.zeroValue94
 t183:=underlying95
 a183:=Tryz.isAgg95
 z183:=Tryz.sizeOf95
 v183:=Tryz.zeroValue95
 t218:=underlying116
 a218:=Tryz.isAgg116
 z218:=Tryz.sizeOf116
 v218:=Tryz.zeroValue116
 t222:=underlying120
 a222:=Tryz.isAgg120
 z222:=Tryz.sizeOf120
 v222:=Tryz.zeroValue120
 t228:=underlying130
 a228:=Tryz.isAgg130
 z228:=Tryz.sizeOf130
 v228:=Tryz.zeroValue130
 t229:=underlying131
 a229:=Tryz.isAgg131
 z229:=Tryz.sizeOf131
 v229:=Tryz.zeroValue131 }
open Go.Sort Go.RowKit in
theorem Tryz.slices_Sort_int(blk off cap:Nat)(zs:List Int)(w:World)(hH:Holds (Value.int .i64) w blk off zs.toArray)(hblk:blk<w.heap.size)(hsz:zs.length<4611686018427387904) :
  Calls prog 52 #[.slice (some ⟨blk,off,none⟩) zs.length cap] w fun e w' =>
   e=.returned (.tuple #[])∧∃n os,w'=grow (putRow (Value.int .i64) (Sort.ahead w n) blk off (zs.mergeSort fun x y=>decide (x≤y)).toArray) os:=Any.slices_Sort_int Tryz.lays189 blk off cap zs w hH hblk hsz
def Tryz.lays114_ren:Go.Shelf.Ren:=⟨fun | 114=>91 | n=>n,fun | 28=>25 | 3=>3 | 4=>4 | 9=>9 | 20=>20 | 0=>0 | n=>n,fun | n=>n⟩
theorem Tryz.lays114:Go.Proofs.Lays.n114 prog Tryz.lays114_ren:={
 mixed:=by kernel_rfl
 f114:=func91.trans (congrArg some (by kernel_rfl))
 t0:=underlying0
 a0:=Tryz.isAgg0
 z0:=Tryz.sizeOf0
 v0:=Tryz.zeroValue0
 t3:=underlying3
 a3:=Tryz.isAgg3
 z3:=Tryz.sizeOf3
 v3:=Tryz.zeroValue3
 t4:=underlying4
 a4:=Tryz.isAgg4
 z4:=Tryz.sizeOf4
 v4:=Tryz.zeroValue4
 t9:=underlying9
 a9:=Tryz.isAgg9
 z9:=Tryz.sizeOf9
 v9:=Tryz.zeroValue9
 t20:=underlying20
 a20:=Tryz.isAgg20
 z20:=Tryz.sizeOf20
 v20:=Tryz.zeroValue20
 t28:=underlying25
 a28:=Tryz.isAgg25
 z28:=Tryz.sizeOf25
 v28:=Tryz.zeroValue25 }
open Go.Lib in
theorem Tryz.slices_Min_int(b off n c:Nat)(zs:List Int)(w:World)(hn:0<n)(hz:n≤zs.length)(hbig:n≤9223372036854775807)(hc:∀j,j<zs.length→w.cell? ⟨b,off+j,none⟩=some (.int .i64 (zs.getD j 0))) :
  Calls prog 91 #[.slice (some ⟨b,off,none⟩) n c] w fun e w'=>e=.returned (.int .i64 (Lib.minOf (zs.take n)))∧w'=w:=Any.slices_Min_int Tryz.lays114 b off n c zs w hn hz hbig hc
def Tryz.lays112_ren:Go.Shelf.Ren:=⟨fun | 112=>47 | n=>n,fun | 28=>25 | 3=>3 | 4=>4 | 0=>0 | n=>n,fun | n=>n⟩
theorem Tryz.lays112:Go.Proofs.Lays.n112 prog Tryz.lays112_ren:={
 mixed:=by kernel_rfl
 f112:=func47.trans (congrArg some (by kernel_rfl))
 t0:=underlying0
 a0:=Tryz.isAgg0
 z0:=Tryz.sizeOf0
 v0:=Tryz.zeroValue0
 t3:=underlying3
 a3:=Tryz.isAgg3
 z3:=Tryz.sizeOf3
 v3:=Tryz.zeroValue3
 t4:=underlying4
 a4:=Tryz.isAgg4
 z4:=Tryz.sizeOf4
 v4:=Tryz.zeroValue4
 t28:=underlying25
 a28:=Tryz.isAgg25
 z28:=Tryz.sizeOf25
 v28:=Tryz.zeroValue25 }
open Go.RowKit Go.Lib Go.Sort in
theorem Tryz.slices_Reverse_int(blk off cap:Nat)(zs:List Int)(w:World)(hH:Holds (Value.int .i64) w blk off zs.toArray)(hsz:zs.length≤9223372036854775807) :
  Calls prog 47 #[.slice (some ⟨blk,off,none⟩) zs.length cap] w fun e w'=>e=.returned (.tuple #[])∧∃n,w'=putRow (Value.int .i64) (Sort.ahead w n) blk off zs.reverse.toArray:=Any.slices_Reverse_int Tryz.lays112 blk off cap zs w hH hsz
open Go.RowKit Go.Lib Go.Sort in
theorem Tryz.slices_Reverse_int_empty(a:Option Addr)(cap:Nat)(w:World) :
  Calls prog 47 #[.slice a 0 cap] w fun e w'=>e=.returned (.tuple #[])∧w'=w:=Any.slices_Reverse_int_empty Tryz.lays112 a cap w
def Tryz.laysNm220_ren:Go.Shelf.Ren:=⟨fun | 20=>63 | n=>n,fun | 22=>25 | 3=>3 | 4=>4 | 0=>0 | n=>n,fun | n=>n⟩
theorem Tryz.laysNm220:Go.Proofs.Lays2.n20 prog Tryz.laysNm220_ren:={
 mixed:=by kernel_rfl
 f20:=func63.trans (congrArg some (by kernel_rfl))
 t0:=underlying0
 a0:=Tryz.isAgg0
 z0:=Tryz.sizeOf0
 v0:=Tryz.zeroValue0
 t3:=underlying3
 a3:=Tryz.isAgg3
 z3:=Tryz.sizeOf3
 v3:=Tryz.zeroValue3
 t4:=underlying4
 a4:=Tryz.isAgg4
 z4:=Tryz.sizeOf4
 v4:=Tryz.zeroValue4
 t22:=underlying25
 a22:=Tryz.isAgg25
 z22:=Tryz.sizeOf25
 v22:=Tryz.zeroValue25
 i3:=by kernel_rfl }
open Go.RowKit Go.Lib Go.Sort in
theorem Tryz.slices_Compact_int(blk off cap:Nat)(zs:List Int)(w:World)(hH:Holds (Value.int .i64) w blk off zs.toArray)(hsz:zs.length≤9223372036854775807)(hcap:zs.length≤cap) :
  Calls prog 63 #[.slice (some ⟨blk,off,none⟩) zs.length cap] w fun e w'=>e=.returned (.slice (some ⟨blk,off,none⟩) (Lib.compact zs).length cap)∧∃q,w'=putRow (Value.int .i64) (Sort.ahead w q) blk off (Lib.compact zs++List.replicate (zs.length-(Lib.compact zs).length) 0).toArray:=Any.slices_Compact_int Tryz.laysNm220 blk off cap zs w hH hsz hcap
open Go.RowKit Go.Lib Go.Sort in
theorem Tryz.slices_Compact_int_empty(a:Option Addr)(cap:Nat)(w:World) :
  Calls prog 63 #[.slice a 0 cap] w fun e w'=>e=.returned (.slice a 0 cap)∧w'=w:=Any.slices_Compact_int_empty Tryz.laysNm220 a cap w
open Go.RowKit Go.Sort in
theorem Tryz.slices_Sort_int_none(p:Option Addr)(cap:Nat)(w:World) :
  Calls prog 52 #[.slice p 0 cap] w fun e w'=>e=.returned (.tuple #[])∧w'=w:=Any.slices_Sort_int_none Tryz.lays189 p cap w
end Go.Proofs
namespace Go.Proofs.YtobnolgphljoeaaGreat
open Go.RowKit _root_.Go.Proofs.Tryz
section
open Go.RowKit Go.Sort
theorem Z0d:∀ {a b:List Int},a.Pairwise (·<·)→b.Pairwise (·<·)→(∀x,x∈a↔x∈b)→a=b
 | [],b,_,_,h=>by
  cases b with
  | nil=>rfl
  | cons y b=>exact absurd ((h y).2 (by simp)) (by simp)
 | x::a,[],_,_,h=>absurd ((h x).1 (by simp)) (by simp)
 | x::a,y::b,ha,hb,h=>by
  rw[List.pairwise_cons] at ha hb
  have e:x=y:=by
   rcases List.mem_cons.1 ((h x).1 (by simp))with e | e
   ·exact e
   ·rcases List.mem_cons.1 ((h y).2 (by simp))with e2 | e2
    ·exact e2.symm
    ·have:=hb.1 x e;have:=ha.1 y e2;omega
  subst e
  congr 1
  refine Z0d ha.2 hb.2 (fun z=>?_)
  have hz:=h z
  rw[List.mem_cons,List.mem_cons] at hz
  constructor
  ·intro m
   rcases hz.1 (.inr m)with e | e
   ·have:=ha.1 z m;omega
   ·exact e
  ·intro m
   rcases hz.2 (.inr m)with e | e
   ·have:=hb.1 z m;omega
   ·exact e
theorem Z1x(l:List Int)(hs:l.Pairwise (·≤·)):∀m,m≤l.length→(Lib.compactUpTo l.toArray m).Pairwise (·<·)∧∀x,x∈Lib.compactUpTo l.toArray m↔∃j,j<m∧l.toArray[j]! = x
 | 0,_=>by
  have:Lib.compactUpTo l.toArray 0=[]:=rfl
  rw[this]
  exact⟨List.Pairwise.nil,fun x=>by simp⟩
 | m+1,hm=>by
  obtain⟨h1,h2⟩:=Z1x l hs m (by omega)
  have hle:∀i j,i<j→j<l.length→l.toArray[i]!≤l.toArray[j]!:=fun i j hij hj=>by
   have:=List.pairwise_iff_getElem.1 hs i j (by omega) hj hij
   simpa [hj,show i<l.length by omega] using this
  rw[Lib.compactUpTo_succ]
  by_cases k:Lib.keeps l.toArray m=true
  ·rw[if_pos k]
   refine⟨List.pairwise_append.2 ⟨h1,by simp,fun x hx y hy=>?_⟩,fun x=>?_⟩
   ·obtain rfl:=List.mem_singleton.1 hy
    obtain⟨j,hj,rfl⟩:=(h2 x).1 hx
    have hk:l.toArray[m]!≠l.toArray[m-1]!:=by
     unfold Lib.keeps at k
     simp at k
     rcases k with k | k
     ·omega
     ·simpa using k
    have a1:l.toArray[j]!≤l.toArray[m-1]!:=by
     by_cases e:j=m-1
     ·rw[e];exact Int.le_refl _
     ·exact hle j (m-1) (by omega) (by omega)
    have a2:=hle (m-1) m (by omega) (by omega)
    omega
   ·rw[List.mem_append,List.mem_singleton,h2 x]
    constructor
    ·rintro(⟨j,hj,e⟩ | e)
     ·exact⟨j,by omega,e⟩
     ·exact⟨m,by omega,e.symm⟩
    ·rintro⟨j,hj,e⟩
     by_cases q:j=m
     ·subst q;exact .inr e.symm
     ·exact .inl ⟨j,by omega,e⟩
  ·rw[if_neg k,List.append_nil]
   refine⟨h1,fun x=>?_⟩
   rw[h2 x]
   have hk:0<m∧l.toArray[m]! = l.toArray[m-1]!:=by
    unfold Lib.keeps at k
    simp at k
    refine⟨by omega,?_⟩
    have:=k.2
    simpa using this
   constructor
   ·rintro⟨j,hj,e⟩;exact⟨j,by omega,e⟩
   ·rintro⟨j,hj,e⟩
    by_cases q:j=m
    ·subst q;exact⟨j-1,by omega,by rw[←hk.2];exact e⟩
    ·exact⟨j,by omega,e⟩
theorem Z5o(l:List Int)(j:Nat)(h:j<l.length):l.toArray[j]! = l[j]:=by simp[h]
theorem Z39(l:List Int):(Lib.compact (l.mergeSort fun x y=>decide (x≤y))).Pairwise (·<·)∧∀x,x∈Lib.compact (l.mergeSort fun x y=>decide (x≤y))↔x∈l:=by
 have hs:(l.mergeSort fun x y=>decide (x≤y)).Pairwise (·≤·):=by
  have:=List.pairwise_mergeSort (le:=fun(x y:Int)=>decide (x≤y)) (fun a b c h1 h2=>by simp at *;omega) (fun a b=>by simp;omega) l
  exact this.imp (fun h=>by simpa using h)
 obtain⟨h1,h2⟩:=Z1x _ hs _ (Nat.le_refl _)
 refine⟨h1,fun x=>?_⟩
 have h3:=h2 x
 unfold Lib.compact
 rw[h3,←(List.mergeSort_perm l _).mem_iff (a:=x),List.mem_iff_getElem]
 constructor
 ·rintro⟨j,hj,e⟩
  exact⟨j,hj,(Z5o _ j hj).symm.trans e⟩
 ·rintro⟨j,hj,e⟩
  exact⟨j,hj,(Z5o _ j hj).trans e⟩
theorem Z97(v:Value)(l:List Int)(w:World)(h:IS w v l)(hl:l.length≤1000) :
  Calls prog 52 #[v] w fun e w'=>e=.returned (.tuple #[])∧IS w' v (l.mergeSort fun x y=>decide (x≤y))∧Zd (fun i=>v.ownBlock=some i) w w':=by
 rcases h.2 with⟨rfl,e⟩ | ⟨g,cap,cur,rfl,_,hb,h1,h2,h3,ht⟩
 ·obtain rfl:=List.length_eq_zero_iff.1 e
  refine(Tryz.slices_Sort_int_none none 0 w).mono ?_
  rintro e w' ⟨rfl,h⟩
  exact⟨rfl,by simpa using IS.nil w',by first | (subst h;exact Zd.refl _ _) | (obtain⟨n,rfl⟩:=h;exact(Zd.refl _ _).drewN _)⟩
 ·rw[Nat.mul_one] at ht
  have hH:=holds_of_blockI hb ht
  have hlen:(l.mergeSort fun x y=>decide (x≤y)).length=l.length:=List.length_mergeSort _
  refine(Tryz.slices_Sort_int g 0 cap l w hH (hlt hb) (by omega)).mono ?_
  rintro e w' ⟨rfl,n,os,rfl⟩
  refine⟨rfl,?_,(Zd.refl _ w).grown (grownBy_sortedI _) (fun k hk=>.inl hk)⟩
  unfold IS
  rw[hlen]
  exact ownsRow_sortedI hlen (Nat.zero_le _) hb h1 h2 h3
theorem Z4u(v:Value)(l:List Int)(w:World)(h:IS w v l)(hl:l.length≤1000) :
  Calls prog 63 #[v] w fun e w'=>∃v',e=.returned v'∧IS w' v' (Lib.compact l)∧v'.ownBlock=v.ownBlock∧Zd (fun i=>v.ownBlock=some i) w w':=by
 rcases h.2 with⟨rfl,e⟩ | ⟨g,cap,cur,rfl,_,hb,h1,h2,h3,ht⟩
 ·obtain rfl:=List.length_eq_zero_iff.1 e
  refine(Tryz.slices_Compact_int_empty none 0 w).mono ?_
  rintro e w' ⟨rfl,rfl⟩
  exact⟨_,rfl,IS.nil _,rfl,Zd.refl _ _⟩
 ·rw[Nat.mul_one] at ht
  have hH:=holds_of_blockI hb ht
  have hle:=Lib.compact_length_le l
  refine(Tryz.slices_Compact_int g 0 cap l w hH (by omega) h1).mono ?_
  rintro e w' ⟨rfl,n,rfl⟩
  have hg:=grownBy_sortedI (w:=w) (g:=g) (n:=n) (os:=#[]) (Lib.compact l++List.replicate (l.length-(Lib.compact l).length) 0).toArray
  have hh:=heap_sortedI (n:=n) (os:=#[]) (Lib.compact l++List.replicate (l.length-(Lib.compact l).length) 0).toArray hb
  rw[grow_empty] at hg hh
  refine⟨_,rfl,⟨by simp,.inr ⟨g,cap,_,rfl,Nat.zero_le _,hh,by omega,h2,by simp[putCells,h3],?_⟩⟩,rfl,(Zd.refl _ w).grown hg (fun k hk=>.inl hk)⟩
  have hlen:(Lib.compact l++List.replicate (l.length-(Lib.compact l).length) 0).length=l.length:=by simp;omega
  have hta:=take_putCellsI cur (Lib.compact l++List.replicate (l.length-(Lib.compact l).length) 0) (by rw[hlen];omega)
  have hta2:=congrArg (List.take (Lib.compact l).length) hta
  rw[List.take_take,hlen,Nat.min_eq_left hle,List.map_append,List.take_append_of_le_length (by simp)] at hta2
  rw[Nat.mul_one,hta2]
  exact List.take_of_length_le (by simp)
end
structure Zb5(q q':List Rq)(T:List Int)(i:Nat):Prop where
 same:∀x∈T.drop i,Z5f q' x=Z5f q x
 rest:∀k:Nat,k<q.length→(k:Int)∉T.drop i→¬0<(Z5f q' k).sn
structure TOk(q:List Rq)(T:List Int):Prop where
 sorted:T.Pairwise (fun x y=>tC q x y<0)
 mem:∀x,x∈T↔∃k:Nat,k<q.length∧x=k∧0<(Z5f q x).sn
 nodup:T.Nodup
end Go.Proofs.YtobnolgphljoeaaGreat
