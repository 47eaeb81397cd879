/- Texts merged: VaI -/
import Derived.Test.YtbnpnccpobkodaaVictimRingB11
set_option linter.unusedVariables false
set_option maxRecDepth 100000
set_option maxHeartbeats 16000000
namespace Go.Proofs.Ytbnpnccpobkodaa
open Go.RowKit _root_.Go.Proofs.Try
theorem Z5p:Uf prog 23 43 2 16 Zh where
 und:=underlying23
 inf:=by
  have h:(prog.info? 43).map (fun i=>(i.zero,i.size,i.bytes))=some (some (.agg #[.int .i64 0,.int .i64 0]),2,16):=by kernel_rfl
  cases e:prog.info? 43 with
  | none=>rw[e] at h;cases h
  | some i =>
   rw[e] at h
   simp only[Option.map_some,Option.some.injEq,Prod.mk.injEq] at h
   exact⟨i,_,rfl,h.1,h.2.1,h.2.2,rfl⟩
 pos:=by decide
 byt:=by decide
 len:=fun _=>rfl
 one:=Yw.one
abbrev Vu(w:World)(g0:Nat)(v:Value)(l:List (Int × Int)):Prop:=Y5 43 2 Zh w g0 v l
theorem Vu.at_{w:World}{g0:Nat}{v:Value}{l:List (Int × Int)}(h:Vu w g0 v l):Zt w v l:=Y5.rd (fun _=>rfl) h
def Yq(N i:Nat):List (Int × Int):=(List.range i).map fun(j:Nat)=>((j:Int),(((j+1)%N:Nat):Int))
def knP(ag:List Int)(i:Nat):List (Int × Int):=(List.range i).map fun(j:Nat)=>((j:Int),ag.getD j 0)
theorem Z1w(N i:Nat):Yq N (i+1)=Yq N i++[((i:Int),(((i+1)%N:Nat):Int))]:=by
 unfold Yq
 rw[List.range_succ,List.map_append]
 rfl
theorem Z3w(ag:List Int)(i:Nat):knP ag (i+1)=knP ag i++[((i:Int),ag.getD i 0)]:=by
 unfold knP
 rw[List.range_succ,List.map_append]
 rfl
theorem Y3(N i:Nat):(Yq N i).length=i:=by simp[Yq]
theorem Ys(ag:List Int)(i:Nat):(knP ag i).length=i:=by simp[knP]
theorem Z0d(ag:List Int){i j:Nat}(h:j<(knP ag i).length):(knP ag i)[j]=((j:Int),ag.getD j 0):=by simp[knP]
theorem Z2a(ag:List Int){i j:Nat}(h:j<i):Yb (knP ag i) j=ag.getD j 0:=by
 have hk:j<(knP ag i).length:=by rw[Ys];exact h
 rw[Z26 hk (fun m hm hmj=>by rw[Z0d];simp only;omega) (by rw[Z0d]),Z0d]
theorem U5{N:Nat}(h0:0<N)(h12:N≤12):Yh (Yq N N) N:=by
 refine⟨h0,h12,fun i hi=>?_,fun x y e=>?_⟩
 ·exact List.mem_map.2 ⟨i,List.mem_range.2 hi,rfl⟩
 ·obtain⟨i,hi,e⟩:=List.mem_map.1 e
  simp only[Prod.mk.injEq] at e
  exact .inl ⟨i,List.mem_range.1 hi,e.1.symm,e.2.symm⟩
theorem Z1x{N t:Nat}(h0:0<N)(h12:N≤12)(ht:t<N):Yh (Yq N N++[((100:Int),(t:Int))]) N:=by
 have h:=U5 h0 h12
 refine⟨h0,h12,fun i hi=>List.mem_append.2 (.inl (h.has i hi)),fun x y e=>?_⟩
 rcases List.mem_append.1 e with e | e
 ·exact h.only x y e
 ·simp only[List.mem_singleton,Prod.mk.injEq] at e
  exact .inr ⟨e.1,t,ht,e.2⟩
theorem Z2b{ag:List Int}{i:Nat}(h12:i≤12):∀e∈knP ag i,Z4 e.1:=by
 intro e he
 unfold knP at he
 obtain⟨j,hj,rfl⟩:=List.mem_map.1 he
 have:=List.mem_range.1 hj
 unfold Z4
 simp only
 omega
theorem Ut{N:Nat}(h0:0<N)(h12:N≤12){l:List (Int × Int)}(h:Yh l N):∀e∈l,Z4 e.1∧Z4 e.2:=by
 intro e he
 unfold Z4
 obtain⟨x,y⟩:=e
 rcases h.only x y he with⟨i,hi,rfl,rfl⟩ | ⟨rfl,j,hj,rfl⟩
 ·have:=Nat.mod_lt (i+1) h0
  simp only
  omega
 ·simp only
  omega
def Ym(ag:List Int)(i w:Nat):Prop:=(i=0→w=0)∧(0<i→w<i)∧∀j,j<i→ag.getD j 0<ag.getD w 0∨(ag.getD j 0=ag.getD w 0∧j≤w)
theorem Ym.yes{ag:List Int}{i w:Nat}(h:Ym ag i w)(e:ag.getD w 0≤ag.getD i 0):Ym ag (i+1) i :=
 ⟨fun q=>absurd q (Nat.succ_ne_zero i),fun _=>Nat.lt_succ_self i,fun j hj=>by
  rcases Nat.lt_or_eq_of_le (Nat.le_of_lt_succ hj)with q | q
  ·have:=h.2.2 j q
   omega
  ·subst q;exact .inr ⟨rfl,Nat.le_refl _⟩⟩
theorem Ym.no{ag:List Int}{i w:Nat}(h:Ym ag i w)(e:¬ag.getD w 0≤ag.getD i 0):Ym ag (i+1) w:=by
 have h0:0<i:=Nat.pos_of_ne_zero fun q=>by
  have:=h.1 q
  subst q
  subst this
  exact e (Int.le_refl _)
 refine⟨fun q=>absurd q (Nat.succ_ne_zero i),fun _=>Nat.lt_succ_of_lt (h.2.1 h0),fun j hj=>?_⟩
 rcases Nat.lt_or_eq_of_le (Nat.le_of_lt_succ hj)with q | q
 ·exact h.2.2 j q
 ·subst q;exact .inl (by omega)
theorem Ym.max{ag:List Int}{N w:Nat}(h:Ym ag N w)(h0:0<N):Z0o (knP ag N) (Yd 0 N) w:=by
 have hw:=h.2.1 h0
 have mem:∀x,x∈Yd 0 N↔∃j:Nat,j<N∧x=j:=fun x=>by
  unfold Yd
  rw[List.mem_map]
  constructor
  ·rintro⟨j,hj,rfl⟩
   have:=List.mem_range'_1.1 hj
   exact⟨j,by omega,rfl⟩
  ·rintro⟨j,hj,rfl⟩
   exact⟨j,List.mem_range'_1.2 (by omega),rfl⟩
 refine⟨(mem _).2 ⟨w,hw,rfl⟩,fun x hx o=>?_⟩
 obtain⟨j,hj,rfl⟩:=(mem x).1 hx
 unfold Zl at o
 rw[Z2a ag hw,Z2a ag hj] at o
 have:=h.2.2 j hj
 omega
structure RgI(W0:World)(e:List (Int × Int))(k:List (Int × Int))(v7 v8:Value)(w:World):Prop where
 o7:Zb w W0.heap.size v7 e
 o8:Vu w W0.heap.size v8 k
 nw:Nw W0 w
 d:∀b,v7.ownBlock=some b→v8.ownBlock≠some b
section
variable {W0 w:World} {e k:List (Int × Int)} {v7 v8:Value}
theorem RgI.push7(h:RgI W0 e k v7 v8 w)(hl:e.length<90000)(x y:Int) :
  ∃ga cc w',(Builtin.append_ #[22,22] 22 #[v7,.slice (some ⟨w.heap.size,0,none⟩) 1 1]).run prog (w.alloc (.cells #[.int .i64 x,.int .i64 y] 29))=.ok (.slice (some ⟨ga,0,none⟩) (e.length+1) cc) w'∧RgI W0 (e++[(x,y)]) k (.slice (some ⟨ga,0,none⟩) (e.length+1) cc) v8 w'∧Zd (fun b=>v7.ownBlock=some b) w w':=by
 have hal:=Z9 w (.cells #[.int .i64 x,.int .i64 y] 29)
 have g6:Nw w (w.alloc (.cells #[.int .i64 x,.int .i64 y] 29)):=(Nw.refl w).alloc _
 obtain⟨v',w',hr,hO,hg,hp,ga,cc,rfl⟩:=Y5.push Yw (Vl h.o7 g6) (x,y) w.heap.size 1 (fun j u hu=>by
  rw[Z6 hal]
  simpa [Zh] using hu) (by omega) (h.nw.trans g6).sz
 refine⟨ga,cc,w',hr,⟨hO,Z3z (Vl h.o8 g6) hg (fun b e k=>h.d b k e),(h.nw.trans g6).gro hg (fun b e=>oge h.o7 e),fun b e k=>?_⟩,(Zd.nw g6).trans (Z10 hg)⟩
 rcases hp with p | p
 ·exact h.d b (by rw[←p];exact e) k
 ·rw[p] at e
  have:=olt (Vl h.o8 g6) k
  have:=Option.some.inj e
  omega
theorem RgI.push8(h:RgI W0 e k v7 v8 w)(hl:k.length<90000)(x y:Int) :
  ∃ga cc w',(Builtin.append_ #[23,23] 23 #[v8,.slice (some ⟨w.heap.size,0,none⟩) 1 1]).run prog (w.alloc (.cells #[.int .i64 x,.int .i64 y] 43))=.ok (.slice (some ⟨ga,0,none⟩) (k.length+1) cc) w'∧RgI W0 e (k++[(x,y)]) v7 (.slice (some ⟨ga,0,none⟩) (k.length+1) cc) w':=by
 have hal:=Z9 w (.cells #[.int .i64 x,.int .i64 y] 43)
 have g6:Nw w (w.alloc (.cells #[.int .i64 x,.int .i64 y] 43)):=(Nw.refl w).alloc _
 obtain⟨v',w',hr,hO,hg,hp,ga,cc,rfl⟩:=Y5.push Z5p (Vl h.o8 g6) (x,y) w.heap.size 1 (fun j u hu=>by
  rw[Z6 hal]
  simpa [Zh] using hu) (by omega) (h.nw.trans g6).sz
 refine⟨ga,cc,w',hr,⟨Z3z (Vl h.o7 g6) hg (fun b e k=>h.d b e k),hO,(h.nw.trans g6).gro hg (fun b e=>oge h.o8 e),fun b e k=>?_⟩⟩
 rcases hp with p | p
 ·exact h.d b e (by rw[←p];exact k)
 ·rw[p] at k
  have:=olt (Vl h.o7 g6) e
  have:=Option.some.inj k
  omega
end
theorem Z69{w:World}{g0 g n c:Nat}{l:List (Int × Int)}(h:Vu w g0 (.slice (some ⟨g,0,none⟩) n c) l){i:Nat}(hi:i<l.length):w.cell? ⟨g,i*2+1,none⟩=some (.int .i64 l[i].2)∧g<w.heap.size:=by
 obtain⟨a,c',e,⟨q,_⟩ | ⟨b,o,e2,hc⟩⟩:=Vu.at_ h
 ·rw[q] at hi;simp at hi
 ·subst e2
  simp only[Value.slice.injEq,Option.some.injEq,Addr.mk.injEq] at e
  obtain⟨⟨rfl,rfl,_⟩,_,_⟩:=e
  have:=(hc.eg hi).2
  rw[Nat.zero_add] at this
  exact⟨this,hc.lt⟩
theorem Z45(n:Int)(a1:Option Addr)(len1 cap1:Nat)(ag:List Int)(tail:Int)(W:World)(ha:N64In W a1 len1 cap1 ag) :
  Calls prog 5 #[.int .i64 n,.slice a1 len1 cap1,.int .i64 tail] W fun e W'=>e=.returned (.bool true)∧Nw W W':=by
 have HL:=hD0 (Z3c W)
 have HA:=hD0 ha
 clear ha
 by_cases h0:20<len1
 ·have d:decide ((20:Int)<(len1:Int))=true:=by rw[decide_eq_true_iff];omega
  have d2:decide (20<len1)=true:=by simpa using h0
  clear h0
  go_enter func5,ntmps5
  go_wp2_with fail
  refine HL.out.mono ?_
  rintro e w1 ⟨rfl,g1⟩
  have HG:=hD0 g1
  clear g1
  go_wp2_with fail
  go_ret
  exact⟨rfl,HG.out⟩
 have d0:decide ((20:Int)<(len1:Int))=false:=by rw[decide_eq_false_iff_not];omega
 have d02:decide (20<len1)=false:=decide_eq_false h0
 obtain⟨k,hk,hkl⟩:∃k:Nat,n%12=k∧k<12:=by
  have p0:0≤n%12:=Int.emod_nonneg _ (by omega)
  have p1:n%12<12:=Int.emod_lt_of_pos _ (by omega)
  exact⟨(n%12).toNat,by omega,by omega⟩
 have HP:=hD0 (fun z=>Z16 n 12 z (by omega) (by omega))
 rw[hk] at HP
 obtain⟨N,hN⟩:∃N,k+1=N:=⟨_,rfl⟩
 have hw1:IntKind.i64.wrap (1+(k:Int))=(N:Int):=by rw[IntKind.wrap_i64];omega
 have HN:=hD0 (show 0<N∧N≤12 from by omega)
 have hN12:N≤12:=HN.out.2
 have HH:=hD0 (aI0 HA.out.hl (Nat.le_of_not_lt h0))
 clear h0 hk hkl hN
 go_enter func5,ntmps5
 go_wp2_with fail
 refine HL.out.mono ?_
 rintro e w1 ⟨rfl,g1⟩
 have HG1:=hD0 g1
 clear g1 HL
 go_wp2_with fail
 refine(HP.out w1).mono ?_
 rintro e w2 ⟨rfl,rfl⟩
 clear HP
 go_wp2_with fail
 go_loopw [7,8,9,10] (fun v7 v8 v9 v10 wr=>∃(i wt:Nat) (a7:Option Addr) (b7 c7:Nat) (a8:Option Addr) (b8 c8:Nat),v7=.slice a7 b7 c7∧v8=.slice a8 b8 c8∧v9=.int .i64 wt∧v10=.int .i64 i∧i≤N∧Hid (RgI w1 (Yq N i) (knP ag i) (.slice a7 b7 c7) (.slice a8 b8 c8) wr∧Ym ag i wt)) (fun _ _ _ v10 _=>N-(intOf v10).toNat)
 case atStart=>exact⟨0,0,none,0,0,none,0,0,rfl,rfl,rfl,rfl,Nat.zero_le _,hD0 ⟨⟨World.ownsRow_nil _ _ _ _,World.ownsRow_nil _ _ _ _,Nw.refl _,fun b e=>nomatch e⟩,fun _=>rfl,fun h=>absurd h (Nat.lt_irrefl 0),fun j h=>absurd h (Nat.not_lt_zero j)⟩⟩
 case round =>
  obtain⟨i,wt,a7,b7,c7,a8,b8,c8,rfl,rfl,rfl,rfl,hiN,HI⟩:=hrel
  by_cases hlt:i<N
  ·have Yl:=Y8 hlt
   have hw:=Yi i (i+1) (by omega) rfl
   obtain⟨i1,hi1⟩:∃m,i+1=m:=⟨_,rfl⟩
   have HI1:=hD0 (aI0 hi1 hlt)
   rw[hi1] at hw
   obtain⟨m,hm⟩:∃m,i1%N=m:=⟨_,rfl⟩
   have hrem:Int.tmod (i1:Int) (N:Int)=(m:Int):=by
    rw[Int.tmod_eq_emod_of_nonneg (by omega),←hm]
    rfl
   have hN0:¬(N:Int)=0:=by have:=HN.out.1;omega
   have hN0':¬N=0:=by have:=HN.out.1;omega
   have hN1:((N:Int)==0)=false:=by rw[beq_eq_false_iff_ne];exact hN0
   have hN2:decide (N=0)=false:=decide_eq_false hN0'
   obtain⟨ga,cc,w5,hr5,hR5,_⟩:=HI.out.1.push7 (by rw[Y3];omega) (i:Int) (m:Int)
   rw[show Yq N i++[((i:Int),(m:Int))]=Yq N i1 from by rw[←hm,←hi1,Z1w]] at hR5
   rw[Y3] at hr5 hR5
   have HR5:=hD0 hr5
   have hwt:wt<i1:=by
    have hw1:=HI.out.2.1
    have hw2:=HI.out.2.2.1
    rcases Nat.eq_zero_or_pos i with q | q
    ·have:=hw1 q;omega
    ·have:=hw2 q;omega
   have hwt':(wt:Int)<(i1:Int):=Int.ofNat_lt.2 hwt
   obtain⟨x,hx⟩:∃x,ag.getD i 0=x:=⟨_,rfl⟩
   obtain⟨gb,cd,w6,hr6,hR6⟩:=hR5.push8 (by rw[Ys];omega) (i:Int) x
   rw[show knP ag i++[((i:Int),x)]=knP ag i1 from by rw[←hx,←hi1,Z3w]] at hR6
   rw[Ys,hi1] at hr6 hR6
   have HR6:=hD0 hr6
   obtain⟨hcw,hgb⟩:=Z69 hR6.o8 (i:=wt) (by rw[Ys];exact hwt)
   rw[Z0d] at hcw
   simp only at hcw
   obtain⟨u,hu⟩:∃u,ag.getD wt 0=u:=⟨_,rfl⟩
   rw[hu] at hcw
   have HWy:=hD0 (show u≤x→Ym ag i1 i from fun e=>by rw[←hi1];exact HI.out.2.yes (by rw[hu,hx];exact e))
   have HWn:=hD0 (show ¬u≤x→Ym ag i1 wt from fun e=>by rw[←hi1];exact HI.out.2.no (by rw[hu,hx];exact e))
   have HE6:=hD0 hR6
   have hRd:=HA.out.rd.nw (HG1.out.trans (hR5.nw))
   have HXx:=hD0 hx
   rw[hi1] at hr5 hR5
   have HR5:=hD0 hr5
   clear hr5 hr6 hR6 hR5 hu hi1 hm hlt HI
   by_cases hil:i<len1
   ·have hil':=Y8 hil
    have hia:i<ag.length:=by rw[HH.out.1];exact hil
    obtain⟨aa,c',e',hh⟩:=hRd
    simp only[Value.slice.injEq] at e'
    obtain⟨rfl,hex,rfl⟩:=e'
    rcases hh with⟨q,_⟩ | ⟨eb,eo,rfl,hec⟩
    ·rw[q] at hia;simp at hia
    have hce:w5.cell? ⟨eb,eo+i,none⟩=some (.int .i64 x):=by
     have:=hec.cell i hia 0 (.int .i64 x) (by
      rw[←hx,List.getD_eq_getElem?_getD,List.getElem?_eq_getElem hia];rfl)
     simpa using this
    have hel:=hec.lt
    clear hex hec hia hx hil
    by_cases hux:u≤x
    ·have dux:decide (u≤x)=true:=decide_eq_true hux
     have HW2:=hD0 (HWy.out hux)
     clear hux
     go_wp2_with (at_builtin;first | (refine Zc (by rfl) (.tmp 27) (.tmp 34) 22 rfl _ _ _ _ rfl rfl HR5.out ?_) | (refine Zc (by rfl) (.tmp 44) (.tmp 48) 23 rfl _ _ _ _ rfl rfl HR6.out ?_))
     exact⟨⟨i1,i,_,_,_,_,_,_,rfl,rfl,rfl,rfl,by rw[←HI1.out.1];exact HI1.out.2,hD0 ⟨HE6.out,HW2.out⟩⟩,by rw[←HI1.out.1];exact Ya HI1.out.2⟩
    ·have dux:decide (u≤x)=false:=decide_eq_false hux
     have HW2:=hD0 (HWn.out hux)
     clear hux
     go_wp2_with (at_builtin;first | (refine Zc (by rfl) (.tmp 27) (.tmp 34) 22 rfl _ _ _ _ rfl rfl HR5.out ?_) | (refine Zc (by rfl) (.tmp 44) (.tmp 48) 23 rfl _ _ _ _ rfl rfl HR6.out ?_))
     exact⟨⟨i1,wt,_,_,_,_,_,_,rfl,rfl,rfl,rfl,by rw[←HI1.out.1];exact HI1.out.2,hD0 ⟨HE6.out,HW2.out⟩⟩,by rw[←HI1.out.1];exact Ya HI1.out.2⟩
   ·have hil':¬(i:Int)<(len1:Int):=by omega
    have hil2:¬i<len1:=hil
    have hx0:x=0:=by
     rw[←hx,List.getD_eq_getElem?_getD,List.getElem?_eq_none (by rw[HH.out.1];omega)];rfl
    subst hx0
    clear hx hil hRd
    by_cases hux:u≤(0:Int)
    ·have dux:decide (u≤(0:Int))=true:=decide_eq_true hux
     have HW2:=hD0 (HWy.out hux)
     clear hux
     go_wp2_with (at_builtin;first | (refine Zc (by rfl) (.tmp 27) (.tmp 34) 22 rfl _ _ _ _ rfl rfl HR5.out ?_) | (refine Zc (by rfl) (.tmp 44) (.tmp 48) 23 rfl _ _ _ _ rfl rfl HR6.out ?_))
     exact⟨⟨i1,i,_,_,_,_,_,_,rfl,rfl,rfl,rfl,by rw[←HI1.out.1];exact HI1.out.2,hD0 ⟨HE6.out,HW2.out⟩⟩,by rw[←HI1.out.1];exact Ya HI1.out.2⟩
    ·have dux:decide (u≤(0:Int))=false:=decide_eq_false hux
     have HW2:=hD0 (HWn.out hux)
     clear hux
     go_wp2_with (at_builtin;first | (refine Zc (by rfl) (.tmp 27) (.tmp 34) 22 rfl _ _ _ _ rfl rfl HR5.out ?_) | (refine Zc (by rfl) (.tmp 44) (.tmp 48) 23 rfl _ _ _ _ rfl rfl HR6.out ?_))
     exact⟨⟨i1,wt,_,_,_,_,_,_,rfl,rfl,rfl,rfl,by rw[←HI1.out.1];exact HI1.out.2,hD0 ⟨HE6.out,HW2.out⟩⟩,by rw[←HI1.out.1];exact Ya HI1.out.2⟩
  ·obtain rfl:i=N:=Nat.le_antisymm hiN (Nat.le_of_not_lt hlt)
   have Yl:¬i<i:=Nat.lt_irrefl i
   have hring:=U5 HN.out.1 HN.out.2
   have HVic:=hD0 (hring.vic (HI.out.2.2.1 HN.out.1) (HI.out.2.max HN.out.1))
   have HVs:=hD0 (Vj (Zb.at_ HI.out.1.o7) (by rw[Y3];omega) (Ut HN.out.1 HN.out.2 hring) (Vu.at_ HI.out.1.o8) (by rw[Ys];omega) (Z2b HN.out.2))
   obtain⟨t,ht,htl⟩:∃t:Nat,tail%(i:Int)=t∧t<i:=by
    have p0:0≤tail%(i:Int):=Int.emod_nonneg _ (by have:=HN.out.1;omega)
    have p1:tail%(i:Int)<(i:Int):=Int.emod_lt_of_pos _ (by have:=HN.out.1;omega)
    exact⟨(tail%(i:Int)).toNat,by omega,by omega⟩
   have HP:=hD0 (fun z=>Z16 tail (i:Int) z (by have:=HN.out.1;omega) (by omega))
   rw[ht] at HP
   have HRt:=hD0 (Z1x HN.out.1 HN.out.2 htl)
   have HVt:=hD0 (HRt.out.vic (HI.out.2.2.1 HN.out.1) (HI.out.2.max HN.out.1))
   clear hlt ht htl hring
   go_wp2_with fail
   refine HVs.out.mono ?_
   rintro e w3 ⟨v3,vs,rfl,hO3,hV3,g3⟩
   obtain rfl:=Uc hV3 HVic.out
   have hR3:RgI w1 (Yq i i) (knP ag i) (.slice a7 b7 c7) (.slice a8 b8 c8) w3:=⟨Vl HI.out.1.o7 g3,Vl HI.out.1.o8 g3,HI.out.1.nw.trans g3,HI.out.1.d⟩
   obtain⟨ga,cc,w4,hr4,hR4,hT4⟩:=hR3.push7 (by rw[Y3];omega) 100 (t:Int)
   have HI3:=hD0 (show IS w4 v3 [(wt:Int)] from(Y5.is hO3).tch hT4 (fun g e k=>by
    have h1:=oge hO3 e
    have h2:=olt HI.out.1.o7 k
    omega))
   have HVs2:=hD0 (Vj (Zb.at_ hR4.o7) (by rw[List.length_append,Y3,List.length_singleton];omega) (Ut HN.out.1 HN.out.2 HRt.out) (Vu.at_ hR4.o8) (by rw[Ys];omega) (Z2b HN.out.2))
   rw[Y3] at hr4 HVs2
   have HR4:=hD0 hr4
   have HG4:=hD0 (HG1.out.trans hR4.nw)
   obtain⟨vb,vcc,rfl,_⟩:=(Y5.is hO3).box
   clear hO3 hV3 g3 hR3 hr4 hR4 hT4 HVs HI
   go_wp2_with fail
   refine(HP.out w3).mono ?_
   rintro e w3' ⟨rfl,rfl⟩
   clear HP
   go_wp2_with (at_builtin;refine Zc (by rfl) (.tmp 61) (.tmp 66) 22 rfl _ _ _ _ rfl rfl HR4.out ?_)
   refine HVs2.out.mono ?_
   rintro e w5 ⟨v5,vs5,rfl,hO5,hV5,g5⟩
   obtain rfl:=Uc hV5 HVt.out
   have g6:Nw w5 (w5.alloc (.cells #[.int .i64 wt] 3)):=(Nw.refl _).alloc _
   have HS1:=hD0 (U8 _ _ (.slice (some ⟨w5.heap.size,0,none⟩) 1 1) [(wt:Int)] (HI3.out.nw (g5.trans g6)) (Z5m w5 wt))
   have HO5:=hD0 (Y5.is hO5)
   have HG6:=hD0 (aI0 g6 (HG4.out.trans (g5.trans g6)))
   have HG56:=hD0 (g5.trans g6)
   clear hO5 hV5 g5 g6 HVs2
   go_wp2_with fail
   refine HS1.out.mono ?_
   rintro e w7 ⟨rfl,g7⟩
   have HS2:=hD0 (U8 w7 v5 _ [(wt:Int)] (HO5.out.nw (HG6.out.1.trans g7)) (HI3.out.nw (HG56.out.trans g7)))
   have HG7:=hD0 (HG6.out.2.trans g7)
   clear g7 HS1
   go_wp2_with fail
   refine HS2.out.mono ?_
   rintro e w8 ⟨rfl,g8⟩
   have HG8:=hD0 (HG7.out.trans g8)
   clear g8 HS2
   go_wp2_with fail
   go_ret
   exact⟨rfl,HG8.out⟩
theorem victimRing_law(n:Int)(a1:Option Addr)(len1 cap1:Nat)(ag:List Int)(tail:Int)(W:World)(ha:N64In W a1 len1 cap1 ag) :
  Calls prog 5 #[.int .i64 n,.slice a1 len1 cap1,.int .i64 tail] W fun e W'=>e=.returned (.bool true)∧Below W.heap.size W W':=Z45 n a1 len1 cap1 ag tail W ha
end Go.Proofs.Ytbnpnccpobkodaa
