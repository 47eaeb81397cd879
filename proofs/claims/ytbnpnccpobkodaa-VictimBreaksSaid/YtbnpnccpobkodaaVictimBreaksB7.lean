/- Texts merged: WeF, WeB, WeG -/
import Derived.Test.YtbnpnccpobkodaaVictimBreaksB6
set_option linter.unusedVariables false
set_option maxRecDepth 100000
set_option maxHeartbeats 16000000
namespace Go.Proofs.Ytbnpnccpobkodaa
open Go.RowKit _root_.Go.Proofs.Try
section
variable {P:Program} {md:Region.Mode} {ops:Array Oper} {Q:Exit→Act→World→Prop} {S:World→Prop} {ts:List Nat}
theorem Uo(i j:Nat){oi oj:Oper}{fuel:Nat}{listed:Array Bool}{a:Act}{w:World}(hr:Region.ready md ops listed=[i,j])(hi:ops[i]?=some oi)(hj:ops[j]?=some oj)
  (h:∀K':Act→World→Prop,(∀a w,i∈ts∨S w→Z5 P md ops Q S ts fuel (listed.setIfInBounds i true) a w→K' a w)→if Region.wanted oi (yielded ops a.tmps)=true then Oper.wp P oi a w K' Q else K' (a.put oi.dst undef) w)
  (k:∀K':Act→World→Prop,(∀a w,j∈ts∨S w→Z5 P md ops Q S ts fuel (listed.setIfInBounds j true) a w→K' a w)→if Region.wanted oj (yielded ops a.tmps)=true then Oper.wp P oj a w K' Q else K' (a.put oj.dst undef) w):Z5 P md ops Q S ts (fuel+1) listed a w :=
 ⟨fun h0=>absurd (hr▸h0) (by simp),fun m hm=>by
  rw[hr] at hm
  rcases List.mem_cons.1 hm with e | e
  ·subst e
   exact opH hi (fun K' hK=>h K' (fun a w q1 q2=>hK a w ⟨fun _=>q1,q2⟩))
  ·obtain rfl:m=j:=by simpa using e
   exact opH hj (fun K' hK=>k K' (fun a w q1 q2=>hK a w ⟨fun _=>q1,q2⟩))⟩
end
theorem Z1f{w:World}{B:Nat}{o:Obj}(hb:w.heap[B]?=some o):B<w.heap.size:=(Array.getElem?_eq_some_iff.1 hb).1
def Z33(n:Nat):Nat:=if n=0 then 0 else 1
theorem Z49{N s k m:Nat}(hk:0<k)(hs:s+m≤N):2*(N-(s+m))+Z33 m<2*(N-s)+Z33 k:=by
 unfold Z33
 rw[if_neg (by omega:¬k=0)]
 split<;>omega
def Z6b(p:Addr)(v:Value)(z:World):Prop:=z.cell? p=some v
theorem Uq.len{l:List (Int × Int)}{a b:Int}{n:Nat}{now seen0 seen next:List Int}{i:Nat}(h:Uq l a b n now seen0 seen next i):seen.length≤l.length:=by
 have:=Vb (m:=l.map Prod.snd) h.nd fun y hy=>by
  rw[h.sn,List.mem_append] at hy
  rcases hy with q | q
  ·obtain⟨m,_,w⟩:=(h.top.ise y).1 q
   obtain⟨x,hx⟩:=Z4k (U4 w)
   exact List.mem_map.2 ⟨_,hx,rfl⟩
  ·obtain⟨⟨j,hj,_,_,e⟩,_⟩:=(h.mem y).1 q
   exact List.mem_map.2 ⟨_,gM0 hj,e⟩
 simpa using this
structure Vj(W0:World)(now seen next:List Int)(v7 v8 v10:Value)(w:World):Prop where
 n7:IS w v7 now
 o8:InO w W0.heap.size v8 seen
 o10:InO w W0.heap.size v10 next
 nw:Nw W0 w
 d78:∀b,v7.ownBlock=some b→v8.ownBlock≠some b
 d710:∀b,v7.ownBlock=some b→v10.ownBlock≠some b
 d810:∀b,v8.ownBlock=some b→v10.ownBlock≠some b
section
variable {W0 w z:World} {now seen next:List Int} {v7 v8 v10:Value}
theorem Vj.nwr(h:Vj W0 now seen next v7 v8 v10 w)(g:Nw w z):Vj W0 now seen next v7 v8 v10 z :=
 ⟨h.n7.nw g,Vh h.o8 g,Vh h.o10 g,h.nw.trans g,h.d78,h.d710,h.d810⟩
theorem Vj.turn(h:Vj W0 now seen next v7 v8 v10 w):Vj W0 next seen [] v10 v8 (.slice none 0 0) w :=
 ⟨Y2.is h.o10,h.o8,World.ownsRow_nil _ _ _ _,h.nw,fun b e k=>h.d810 b k e,(fun b _ e=>nomatch e),(fun b _ e=>nomatch e)⟩
theorem Vj.push8(h:Vj W0 now seen next v7 v8 v10 z)(hl:seen.length<100000)(y:Int)(B:Nat)(hB:z.cell? ⟨B,0,none⟩=some (.int .i64 y)) :
  ∃ga cc w',(Builtin.append_ #[25,25] 25 #[v8,.slice (some ⟨B,0,none⟩) 1 1]).run prog z=.ok (.slice (some ⟨ga,0,none⟩) (seen.length+1) cc) w'∧Vj W0 now (seen++[y]) next v7 (.slice (some ⟨ga,0,none⟩) (seen.length+1) cc) v10 w'∧Ze (fun b=>v8.ownBlock=some b) z w':=by
 obtain⟨v',w',hr,hO,hg,hp,ga,cc,rfl⟩:=Y2.push Vl h.o8 y B 1 (fun j u hu=>by
  have hj:j<1:=(List.getElem?_eq_some_iff.1 hu).1
  obtain rfl:j=0:=by omega
  rw[hB]
  exact hu) hl h.nw.sz
 refine⟨ga,cc,w',hr,⟨Z1m h.n7 hg (fun b e k=>h.d78 b e k),hO,Z1m h.o10 hg (fun b e k=>h.d810 b k e),h.nw.gro hg (fun b e=>Ur h.o8 e),fun b e k=>?_,h.d710,fun b e k=>?_⟩,Z1e hg⟩
 ·rcases hp with p | p
  ·exact h.d78 b e (by rw[←p];exact k)
  ·rw[p] at k
   have:=Uu h.n7 e
   have:=Option.some.inj k
   omega
 ·rcases hp with p | p
  ·exact h.d810 b (by rw[←p];exact e) k
  ·rw[p] at e
   have:=Uu h.o10 k
   have:=Option.some.inj e
   omega
theorem Vj.push10(h:Vj W0 now seen next v7 v8 v10 z)(hl:next.length<100000)(y:Int)(B:Nat)(hB:z.cell? ⟨B,0,none⟩=some (.int .i64 y)) :
  ∃ga cc w',(Builtin.append_ #[25,25] 25 #[v10,.slice (some ⟨B,0,none⟩) 1 1]).run prog z=.ok (.slice (some ⟨ga,0,none⟩) (next.length+1) cc) w'∧Vj W0 now seen (next++[y]) v7 v8 (.slice (some ⟨ga,0,none⟩) (next.length+1) cc) w':=by
 obtain⟨v',w',hr,hO,hg,hp,ga,cc,rfl⟩:=Y2.push Vl h.o10 y B 1 (fun j u hu=>by
  have hj:j<1:=(List.getElem?_eq_some_iff.1 hu).1
  obtain rfl:j=0:=by omega
  rw[hB]
  exact hu) hl h.nw.sz
 refine⟨ga,cc,w',hr,⟨Z1m h.n7 hg (fun b e k=>h.d710 b e k),Z1m h.o8 hg (fun b e k=>h.d810 b e k),hO,h.nw.gro hg (fun b e=>Ur h.o10 e),h.d78,fun b e k=>?_,fun b e k=>?_⟩⟩
 ·rcases hp with p | p
  ·exact h.d710 b e (by rw[←p];exact k)
  ·rw[p] at k
   have:=Uu h.n7 e
   have:=Option.some.inj k
   omega
 ·rcases hp with p | p
  ·exact h.d810 b e (by rw[←p];exact k)
  ·rw[p] at k
   have:=Uu h.o8 e
   have:=Option.some.inj k
   omega
end
theorem Z3c(w0:World)(a:Int):Vj w0 [a] [] [] (.slice (some ⟨w0.heap.size,0,none⟩) 1 1) (.slice (some ⟨w0.heap.size+1,0,none⟩) 0 0) (.slice none 0 0) ((w0.alloc (.cells #[.int .i64 a] 3)).alloc (.cells #[] 3)):=by
 have g1:Nw w0 (w0.alloc (.cells #[.int .i64 a] 3)):=(Nw.refl _).alloc _
 have g2:Nw (w0.alloc (.cells #[.int .i64 a] 3)) ((w0.alloc (.cells #[.int .i64 a] 3)).alloc (.cells #[] 3)):=(Nw.refl _).alloc _
 have h1:=Z2v Vl w0 [a] (by simp)
 have h2:=Z09 (T:=3) (sz:=1) (w0.alloc (.cells #[.int .i64 a] 3))
 have hs:(w0.alloc (.cells #[.int .i64 a] 3)).heap.size=w0.heap.size+1:=by simp
 rw[hs] at h2
 have h2':InO _ w0.heap.size _ []:=Z2f h2 (fun b e=>by
  have:=Ur h2 e
  omega)
 exact⟨(Y2.is h1).nw g2,h2',World.ownsRow_nil _ _ _ _,g1.trans g2,fun b e k=>by
  simp[Value.ownBlock] at e k
  omega,(fun b _ e=>nomatch e),(fun b _ e=>nomatch e)⟩
theorem Z4l{w0:World}{v:Value}{l:List (Int × Int)}(h:Zm w0 v l)(hl:l.length≤900)(a b:Int) :
  Calls prog 22 #[v,.int .i64 a,.int .i64 b] w0 fun e w'=>∃f,e=.returned (.int .i64 f)∧Z3t l a b f∧f≤1000∧Nw w0 w':=by
 obtain⟨la,lc,rfl,hd⟩:=h
 have HD:=hD0 hd
 obtain⟨N,hn⟩:∃n,l.length=n:=⟨_,rfl⟩
 have HN:=hD0 hn
 rw[hn] at hl ⊢
 have HF0:=hD0 (Z3c w0 a)
 clear hd hn
 go_enter func22,ntmps22
 go_wp2_with fail
 go_loopw [7,8,9] (fun v7 v8 v9 wr=>∃(n n1:Nat) (now seen:List Int) (a7:Option Addr) (b7 c7:Nat) (a8:Option Addr) (b8 c8:Nat),v7=.slice a7 b7 c7∧v8=.slice a8 b8 c8∧v9=.int .i64 n1∧n1≤N+2∧Hid (Vj w0 now seen [] (.slice a7 b7 c7) (.slice a8 b8 c8) (.slice none 0 0) wr∧LvI l a b n now seen∧n1=n+1∧now.length=b7∧seen.length=b8∧n≤seen.length+1∧(0<b7→n≤seen.length)∧now.length≤N+1)) (fun v7 v8 _ _=>2*(N-Z6r v8)+Z33 (Z6r v7))
 case atStart=>exact⟨0,1,[a],[],_,_,_,_,_,_,rfl,rfl,rfl,by omega,hD0 ⟨HF0.out,LvI.start l a b,rfl,rfl,rfl,Nat.zero_le _,fun _=>Nat.le_refl _,by simp⟩⟩
 case round =>
  clear HF0
  obtain⟨n,n1,now,seen,a7,b7,c7,a8,b8,c8,rfl,rfl,rfl,hn1,HI⟩:=hrel
  by_cases h7:0<b7
  rotate_left
  ·obtain rfl:b7=0:=Nat.eq_zero_of_not_pos h7
   have HR:=hD0 (show Z3t l a b (-1)∧Nw w0 wr from⟨.inr ⟨rfl,by
    obtain rfl:now=[]:=List.length_eq_zero_iff.1 HI.out.2.2.2.1
    exact HI.out.2.1.done⟩,HI.out.1.nw⟩)
   clear h7 HI
   go_wp2_with fail
   go_ret
   exact⟨_,rfl,HR.out.1,by decide,HR.out.2⟩
  ·have h7':(0:Int)<(b7:Int):=Int.ofNat_lt.2 h7
   have HJ0:=hD0 (show Vj w0 now seen [] (.slice a7 b7 c7) (.slice a8 b8 c8) (.slice none 0 0) wr∧Uq l a b n now seen seen [] 0∧seen.length=b8∧([]:List Int).length=0 from⟨HI.out.1,Uq.start HI.out.2.1,HI.out.2.2.2.2.1,rfl⟩)
   have HT:=hD0 (show n1=n+1∧n≤seen.length∧seen.length=b8∧now.length≤N+1∧0<b7 from⟨HI.out.2.2.1,HI.out.2.2.2.2.2.2.1 h7,HI.out.2.2.2.2.1,HI.out.2.2.2.2.2.2.2,h7⟩)
   have hwn:=Zw n1 (n1+1) (by omega) rfl
   obtain⟨n2,hn2⟩:∃m,n1+1=m:=⟨_,rfl⟩
   have HN2:=hD0 hn2
   rw[hn2] at hwn
   clear HI hn2
   go_wp2_with fail
   go_loopw [8,10,11] (fun v8 v10 v11 wr=>∃(i:Nat) (sn nx:List Int) (a8:Option Addr) (b8 c8:Nat) (a10:Option Addr) (b10 c10:Nat),v8=.slice a8 b8 c8∧v10=.slice a10 b10 c10∧v11=.int .i64 i∧i≤N∧Hid (Vj w0 now sn nx (.slice a7 b7 c7) (.slice a8 b8 c8) (.slice a10 b10 c10) wr∧Uq l a b n now seen sn nx i∧sn.length=b8∧nx.length=b10)) (fun _ _ v11 _=>N-(intOf v11).toNat)
   case atStart=>exact⟨0,seen,[],_,_,_,_,_,_,rfl,rfl,rfl,Nat.zero_le _,HJ0⟩
   case round =>
    clear HJ0
    obtain⟨i,sn,nx,a8',b8',c8',a10,b10,c10,rfl,rfl,rfl,hiN,HJ⟩:=hrel
    by_cases hlt:i<N
    ·have hil:i<l.length:=by rw[HN.out];exact hlt
     rcases HD.out with⟨q,_⟩ | ⟨eb,eo,rfl,hrc⟩
     ·rw[q] at hil;simp at hil
     obtain⟨x0,x1⟩:=(hrc.nw HJ.out.1.nw).eg hil
     have hebl:=(hrc.nw HJ.out.1.nw).lt
     have heb0:=hrc.lt
     have hsn:sn.length≤N:=by rw[←HN.out];exact HJ.out.2.1.len
     have hnx:nx.length≤N:=by
      have:=HJ.out.2.1.sn
      rw[this,List.length_append] at hsn
      omega
     obtain⟨s,hs⟩:∃s,l[i]=s:=⟨_,rfl⟩
     have HSi:=hD0 (show ∃h:i<l.length,l[i]=s from⟨hil,hs⟩)
     simp only[hs] at x0 x1
     obtain⟨x,y⟩:=s
     simp only at x0 x1
     have HX:=hD0 (show ∀z,Nw wr z→z.cell? ⟨eb,eo+i*2,none⟩=some (.int .i64 x)∧z.cell? ⟨eb,eo+i*2+1,none⟩=some (.int .i64 y)∧eb<z.heap.size from fun z g=>⟨g.kp x0,g.kp x1,lL0 hebl g.sz⟩)
     have HInN:=hD0 (fun(z:World) (g:Nw wr z)=>Z2x (HJ.out.1.n7.nw g) (show now.length≤100000 by have:=HT.out.2.2.2.1;omega) x)
     have HInS:=hD0 (fun(z:World) (g:Nw wr z)=>Z2x ((Y2.is HJ.out.1.o8).nw g) (show sn.length≤100000 by omega) y)
     have HLn:=hD0 (aI0 HJ.out.2.2 (aI0 hsn hnx))
     have HEc:=hD0 (show w0.cell? ⟨eb,eo+i*2+1,none⟩=some (.int .i64 y) from by have:=(hrc.eg hil).2;rwa [hs] at this)
     have Y5:=Zp hlt
     have hw:=Zw i (i+1) (by omega) rfl
     obtain⟨i1,hi1⟩:∃m,i+1=m:=⟨_,rfl⟩
     have HI1:=hD0 (aI0 hi1 hlt)
     rw[hi1] at hw
     have HSkip:=hD0 (show(x∈now→y∈sn)→∀z,Nw wr z→Vj w0 now sn nx (.slice a7 b7 c7) (.slice a8' b8' c8') (.slice a10 b10 c10) z∧Uq l a b n now seen sn nx i1∧sn.length=b8'∧nx.length=b10 from fun k z g=>by
      obtain⟨h1,h2⟩:=HSi.out
      refine⟨HJ.out.1.nwr g,?_,HJ.out.2.2⟩
      rw[←HI1.out.1]
      exact HJ.out.2.1.skip h1 (by rw[h2];exact k))
     clear hi1 hil hrc hlt hs hebl heb0 hsn hnx x0 x1
     obtain⟨x0,x1,x2⟩:=HX.out wr (Nw.refl _)
     by_cases hxn:x∈now
     rotate_left
     ·have hI:=HInN.out wr (Nw.refl _)
      rw[decide_eq_false hxn] at hI
      have HIx:=hD0 hI
      have HSk:=hD0 (HSkip.out (fun q=>absurd q hxn))
      clear hI hxn HSkip HInN HInS HJ
      go_wp2_with fail
      clear x0 x1 x2
      refine HIx.out.mono ?_
      rintro e w5 ⟨rfl,g5⟩
      have HR:=hD0 (HSk.out w5 g5)
      clear g5 HSk HIx
      go_wp2_with fail
      exact⟨⟨i1,sn,nx,_,_,_,_,_,_,rfl,rfl,rfl,by rw[←HI1.out.1];exact HI1.out.2,HR⟩,by rw[←HI1.out.1];exact Zk HI1.out.2⟩
     ·have hI:=HInN.out wr (Nw.refl _)
      rw[decide_eq_true hxn] at hI
      have HIx:=hD0 hI
      clear hI HInN
      by_cases hys:y∈sn
      ·have HIy:=hD0 (fun z g=>by
        have:=HInS.out z g
        rwa [decide_eq_true hys] at this)
       have HSk:=hD0 (HSkip.out (fun _=>hys))
       clear hxn hys HSkip HInS HJ
       go_wp2_with fail
       clear x0 x1 x2
       refine HIx.out.mono ?_
       rintro e w4 ⟨rfl,g4⟩
       have HG4:=hD0 g4
       have HI4:=hD0 (HIy.out w4 g4)
       obtain⟨x0,x1,x2⟩:=HX.out w4 g4
       clear g4 HIx HIy
       go_wp2_with fail
       clear x0 x1 x2
       refine HI4.out.mono ?_
       rintro e w5 ⟨rfl,g5⟩
       have HR:=hD0 (HSk.out w5 (HG4.out.trans g5))
       clear g5 HSk HI4
       go_wp2_with fail
       exact⟨⟨i1,sn,nx,_,_,_,_,_,_,rfl,rfl,rfl,by rw[←HI1.out.1];exact HI1.out.2,HR⟩,by rw[←HI1.out.1];exact Zk HI1.out.2⟩
      ·have HIy:=hD0 (fun z g=>by
        have:=HInS.out z g
        rwa [decide_eq_false hys] at this)
       by_cases hyb:y=b
       ·have db:(y==b)=true:=by simpa using hyb
        have HF:=hD0 (show Z3t l a b (n1:Int) from .inl ⟨n1,rfl,by rw[HT.out.1];exact Nat.succ_pos n,by
         obtain⟨h1,h2⟩:=HSi.out
         rw[HT.out.1]
         exact HJ.out.2.1.found h1 (by rw[h2];exact hxn) (by rw[h2];exact hyb)⟩)
        have HNw:=hD0 (aI0 HJ.out.1.nw (show(n1:Int)≤1000 by omega))
        clear hxn hys hyb HSkip HInS HJ
        go_wp2_with fail
        clear x0 x1 x2
        refine HIx.out.mono ?_
        rintro e w4 ⟨rfl,g4⟩
        have HG4:=hD0 g4
        have HI4:=hD0 (HIy.out w4 g4)
        obtain⟨x0,x1,x2⟩:=HX.out w4 g4
        clear g4 HIx HIy
        go_wp2_with fail
        clear x0 x1 x2
        refine HI4.out.mono ?_
        rintro e w5 ⟨rfl,g5⟩
        have HG5:=hD0 (HG4.out.trans g5)
        obtain⟨x0,x1,x2⟩:=HX.out w5 HG5.out
        clear g5 HI4
        go_wp2_with fail
        go_ret
        exact⟨_,rfl,HF.out,HNw.out.2,HNw.out.1.trans HG5.out⟩
       ·have db:(y==b)=false:=by simpa using hyb
        have HPs:=hD0 (show Uq l a b n now seen (sn++[y]) (nx++[y]) i1 from by
         obtain⟨h1,h2⟩:=HSi.out
         have:=HJ.out.2.1.push h1 (by rw[h2];exact hxn) (by rw[h2];exact hys) (by rw[h2];exact hyb)
         rw[h2,HI1.out.1] at this
         exact this)
        have HFr:=hD0 HJ.out.1
        clear hxn hys hyb HSkip HInS HJ
        go_wp2_with fail
        clear x0 x1 x2
        refine HIx.out.mono ?_
        rintro e w4 ⟨rfl,g4⟩
        have HG4:=hD0 g4
        have HI4:=hD0 (HIy.out w4 g4)
        obtain⟨x0,x1,x2⟩:=HX.out w4 g4
        clear g4 HIx HIy
        go_wp2_with fail
        clear x0 x1 x2
        refine HI4.out.mono ?_
        rintro e w5 ⟨rfl,g5⟩
        have HG5:=hD0 (HG4.out.trans g5)
        obtain⟨x0,x1,x2⟩:=HX.out w5 HG5.out
        clear g5 HI4
        go_wp2_with fail
        refine Z8 [] (Z6b ⟨eb,eo+i*2+1,none⟩ (.int .i64 y)) (by kernel_rfl) ?_
        change Z5 _ _ _ _ _ _ 18 #[false,false,false,false,false,false,false,false,false,false,false,false,false,false,false,false,false,false] _ w5.drew
        obtain⟨y4,hy4⟩:∃y,w5.drew=y:=⟨_,rfl⟩
        rw[hy4]
        have hN4:Nw w5 y4:=by rw[←hy4];exact(Nw.refl w5).dr
        clear hy4 x0 x1 x2
        have HCl:=hD0 (show ∀z,Nw w0 z→Z6b ⟨eb,eo+i*2+1,none⟩ (.int .i64 y) z from fun z g=>g.kp HEc.out)
        have t0:∀z,Z6b ⟨eb,eo+i*2+1,none⟩ (.int .i64 y) z→z.cell? ⟨eb,eo+i*2+1,none⟩=some (.int .i64 y):=fun z g=>g
        have HF4:=hD0 (HFr.out.nwr (HG5.out.trans hN4))
        have hS0:=HCl.out y4 HF4.out.nw
        refine Z0 0 rfl (by kernel_rfl) (by kernel_rfl) (by kernel_rfl) (fun v c a w h=>h) ?_
        (first | (refine⟨undef,Or.inr ⟨by rfl,rfl⟩,?_⟩) | (apply Exists.intro;refine⟨Or.inl ⟨by rfl,?_⟩,?_⟩;(intro x hx';go_simp;first | done | with_reducible rfl)))
        (try simp only[Act.put,List.getElem_toArray,List.getElem_cons_zero,List.getElem_cons_succ,List.setIfInBounds_toArray,List.set_cons_zero,List.set_cons_succ])
        refine Z0 1 rfl (by kernel_rfl) (by kernel_rfl) (by kernel_rfl) (fun v c a w h=>h) ?_
        (first | (refine⟨undef,Or.inr ⟨by rfl,rfl⟩,?_⟩) | (apply Exists.intro;refine⟨Or.inl ⟨by rfl,?_⟩,?_⟩;(intro x hx';go_simp;first | done | with_reducible rfl)))
        (try simp only[Act.put,List.getElem_toArray,List.getElem_cons_zero,List.getElem_cons_succ,List.setIfInBounds_toArray,List.set_cons_zero,List.set_cons_succ])
        refine Z0 2 rfl (by kernel_rfl) (by kernel_rfl) (by kernel_rfl) (fun v c a w h=>h) ?_
        (first | (refine⟨undef,Or.inr ⟨by rfl,rfl⟩,?_⟩) | (apply Exists.intro;refine⟨Or.inl ⟨by rfl,?_⟩,?_⟩;(intro x hx';go_simp;first | done | with_reducible rfl)))
        (try simp only[Act.put,List.getElem_toArray,List.getElem_cons_zero,List.getElem_cons_succ,List.setIfInBounds_toArray,List.set_cons_zero,List.set_cons_succ])
        refine Z0 3 rfl (by kernel_rfl) (by kernel_rfl) (by kernel_rfl) (fun v c a w h=>h) ?_
        (first | (refine⟨undef,Or.inr ⟨by rfl,rfl⟩,?_⟩) | (apply Exists.intro;refine⟨Or.inl ⟨by rfl,?_⟩,?_⟩;(intro x hx';go_simp;first | done | with_reducible rfl)))
        (try simp only[Act.put,List.getElem_toArray,List.getElem_cons_zero,List.getElem_cons_succ,List.setIfInBounds_toArray,List.set_cons_zero,List.set_cons_succ])
        refine Z0 4 rfl (by kernel_rfl) (by kernel_rfl) (by kernel_rfl) (fun v c a w h=>h) ?_
        (first | (refine⟨undef,Or.inr ⟨by rfl,rfl⟩,?_⟩) | (apply Exists.intro;refine⟨Or.inl ⟨by rfl,?_⟩,?_⟩;(intro x hx';go_simp;first | done | with_reducible rfl)))
        (try simp only[Act.put,List.getElem_toArray,List.getElem_cons_zero,List.getElem_cons_succ,List.setIfInBounds_toArray,List.set_cons_zero,List.set_cons_succ])
        refine Z1 5 rfl (by kernel_rfl) (by kernel_rfl) (by kernel_rfl) (by kernel_rfl) (fun v c a w h=>h) hS0 ?_
        (first | (refine⟨undef,Or.inr ⟨by rfl,rfl⟩,?_⟩) | (apply Exists.intro;refine⟨Or.inl ⟨by rfl,?_⟩,?_⟩;(intro x hx';go_simp;first | done | with_reducible rfl)))
        (try simp only[Act.put,List.getElem_toArray,List.getElem_cons_zero,List.getElem_cons_succ,List.setIfInBounds_toArray,List.set_cons_zero,List.set_cons_succ])
        refine Z0 8 rfl (by kernel_rfl) (by kernel_rfl) (by kernel_rfl) (fun v c a w h=>h) ?_
        (first | (refine⟨undef,Or.inr ⟨by rfl,rfl⟩,?_⟩) | (apply Exists.intro;refine⟨Or.inl ⟨by rfl,?_⟩,?_⟩;(intro x hx';go_simp;first | done | with_reducible rfl)))
        (try simp only[Act.put,List.getElem_toArray,List.getElem_cons_zero,List.getElem_cons_succ,List.setIfInBounds_toArray,List.set_cons_zero,List.set_cons_succ])
        refine Z0 9 rfl (by kernel_rfl) (by kernel_rfl) (by kernel_rfl) (fun v c a w h=>h) ?_
        (first | (refine⟨undef,Or.inr ⟨by rfl,rfl⟩,?_⟩) | (apply Exists.intro;refine⟨Or.inl ⟨by rfl,?_⟩,?_⟩;(intro x hx';go_simp;first | done | with_reducible rfl)))
        (try simp only[Act.put,List.getElem_toArray,List.getElem_cons_zero,List.getElem_cons_succ,List.setIfInBounds_toArray,List.set_cons_zero,List.set_cons_succ])
        refine Z0 10 rfl (by kernel_rfl) (by kernel_rfl) (by kernel_rfl) (fun v c a w h=>h) ?_
        (first | (refine⟨undef,Or.inr ⟨by rfl,rfl⟩,?_⟩) | (apply Exists.intro;refine⟨Or.inl ⟨by rfl,?_⟩,?_⟩;(intro x hx';go_simp;first | done | with_reducible rfl)))
        (try simp only[Act.put,List.getElem_toArray,List.getElem_cons_zero,List.getElem_cons_succ,List.setIfInBounds_toArray,List.set_cons_zero,List.set_cons_succ])
        refine Z0 11 rfl (by kernel_rfl) (by kernel_rfl) (by kernel_rfl) (fun v c a w h=>h) ?_
        (first | (refine⟨undef,Or.inr ⟨by rfl,rfl⟩,?_⟩) | (apply Exists.intro;refine⟨Or.inl ⟨by rfl,?_⟩,?_⟩;(intro x hx';go_simp;first | done | with_reducible rfl)))
        (try simp only[Act.put,List.getElem_toArray,List.getElem_cons_zero,List.getElem_cons_succ,List.setIfInBounds_toArray,List.set_cons_zero,List.set_cons_succ])
        refine Z0 12 rfl (by kernel_rfl) (by kernel_rfl) (by kernel_rfl) (fun v c a w h=>h) ?_
        (first | (refine⟨undef,Or.inr ⟨by rfl,rfl⟩,?_⟩) | (apply Exists.intro;refine⟨Or.inl ⟨by rfl,?_⟩,?_⟩;(intro x hx';go_simp;first | done | with_reducible rfl)))
        (try simp only[Act.put,List.getElem_toArray,List.getElem_cons_zero,List.getElem_cons_succ,List.setIfInBounds_toArray,List.set_cons_zero,List.set_cons_succ])
        refine Z1 13 rfl (by kernel_rfl) (by kernel_rfl) (by kernel_rfl) (by kernel_rfl) (fun v c a w h=>h) hS0 ?_
        (first | (refine⟨undef,Or.inr ⟨by rfl,rfl⟩,?_⟩) | (apply Exists.intro;refine⟨Or.inl ⟨by rfl,?_⟩,?_⟩;(intro x hx';go_simp;first | done | with_reducible rfl)))
        (try simp only[Act.put,List.getElem_toArray,List.getElem_cons_zero,List.getElem_cons_succ,List.setIfInBounds_toArray,List.set_cons_zero,List.set_cons_succ])
        clear t0 hN4
        refine Uo 6 14 (by kernel_rfl) rfl rfl (fun K hK=>?_) (fun K hK=>?_)
        ·rw[if_pos (by rfl)]
         (try simp only[List.getElem_toArray,List.getElem_cons_zero,List.getElem_cons_succ])
         go_simp
         have halz1:=Z7 y4 (.cells #[.int .i64 y] 3)
         have gz1:Nw y4 (y4.alloc (.cells #[.int .i64 y] 3)):=(Nw.refl _).alloc _
         obtain⟨z1,hz1⟩:∃x,y4.alloc (.cells #[.int .i64 y] 3)=x:=⟨_,rfl⟩
         obtain⟨B1,hB1⟩:∃x,y4.heap.size=x:=⟨_,rfl⟩
         rw[hz1,hB1] at halz1 ⊢
         rw[hz1] at gz1
         have HBz1:=hD0 (show z1.cell? ⟨B1,0,none⟩=some (.int .i64 y)∧B1<z1.heap.size from⟨Z6 (j:=0) halz1,Z1f halz1⟩)
         have HLz1:=hD0 (show y4.heap.size≤B1 from Nat.le_of_eq hB1)
         have Hz1:=hD0 gz1
         clear hz1 hB1 halz1 gz1
         have HF1:=hD0 (HF4.out.nwr Hz1.out)
         have HB:=hD0 HBz1.out.1
         refine hK _ _ (.inr (HCl.out z1 HF1.out.nw)) ?_
         clear hK K
         (try simp only[Act.put,List.getElem_toArray,List.getElem_cons_zero,List.getElem_cons_succ,List.setIfInBounds_toArray,List.set_cons_zero,List.set_cons_succ])
         refine Uo 7 14 (by kernel_rfl) rfl rfl (fun K hK=>?_) (fun K hK=>?_)
         ·obtain⟨ga,cc,w6,hr7,hF7,hT7⟩:=Vj.push8 (HF1.out) (by have:=HLn.out.2.1;omega) y B1 HB.out
          have HR7:=hD0 hr7
          have HF7:=hD0 (aI0 hF7 hT7)
          clear hr7 hF7 hT7
          refine Yt (by rfl) (.tmp 51) (.tmp 57) 25 rfl _ _ _ _ rfl rfl HR7.out ?_
          refine hK _ _ (.inr (HCl.out w6 HF7.out.1.nw)) ?_
          clear hK K
          (try simp only[Act.put,List.getElem_toArray,List.getElem_cons_zero,List.getElem_cons_succ,List.setIfInBounds_toArray,List.set_cons_zero,List.set_cons_succ])
          refine Z2 14 (by kernel_rfl) rfl (fun K hK=>?_)
          rw[if_pos (by rfl)]
          (try simp only[List.getElem_toArray,List.getElem_cons_zero,List.getElem_cons_succ])
          go_simp
          have halz2:=Z7 w6 (.cells #[.int .i64 y] 3)
          have gz2:Nw w6 (w6.alloc (.cells #[.int .i64 y] 3)):=(Nw.refl _).alloc _
          obtain⟨z2,hz2⟩:∃x,w6.alloc (.cells #[.int .i64 y] 3)=x:=⟨_,rfl⟩
          obtain⟨B2,hB2⟩:∃x,w6.heap.size=x:=⟨_,rfl⟩
          rw[hz2,hB2] at halz2 ⊢
          rw[hz2] at gz2
          have HBz2:=hD0 (show z2.cell? ⟨B2,0,none⟩=some (.int .i64 y)∧B2<z2.heap.size from⟨Z6 (j:=0) halz2,Z1f halz2⟩)
          have HLz2:=hD0 (show w6.heap.size≤B2 from Nat.le_of_eq hB2)
          have Hz2:=hD0 gz2
          clear hz2 hB2 halz2 gz2
          have HF2:=hD0 (HF7.out.1.nwr Hz2.out)
          have HB2:=hD0 HBz2.out.1
          refine hK _ _ (.inr (HCl.out z2 HF2.out.nw)) ?_
          clear hK K
          (try simp only[Act.put,List.getElem_toArray,List.getElem_cons_zero,List.getElem_cons_succ,List.setIfInBounds_toArray,List.set_cons_zero,List.set_cons_succ])
          obtain⟨gd,cd,w8,hr15,hF15⟩:=Vj.push10 (HF2.out) (by have:=HLn.out.2.2;omega) y B2 HB2.out
          have HR15:=hD0 hr15
          have HE:=hD0 (show Hid (Vj w0 now (sn++[y]) (nx++[y]) (.slice a7 b7 c7) (.slice (some ⟨ga,0,none⟩) (sn.length+1) cc) (.slice (some ⟨gd,0,none⟩) (nx.length+1) cd) w8∧Uq l a b n now seen (sn++[y]) (nx++[y]) i1∧(sn++[y]).length=sn.length+1∧(nx++[y]).length=nx.length+1) from hD0 ⟨hF15,HPs.out,by rw[List.length_append];rfl,by rw[List.length_append];rfl⟩)
          have hS15:=HCl.out w8 hF15.nw
          have HS15:=hD0 hS15
          clear hr15 hF15 hS15
          refine Z2 15 (by kernel_rfl) rfl (fun K hK=>?_)
          refine Yt (by rfl) (.tmp 59) (.tmp 65) 25 rfl _ _ _ _ rfl rfl HR15.out ?_
          refine hK _ _ (.inr (HS15.out)) ?_
          clear hK K
          (try simp only[Act.put,List.getElem_toArray,List.getElem_cons_zero,List.getElem_cons_succ,List.setIfInBounds_toArray,List.set_cons_zero,List.set_cons_succ])
          refine Z0 16 rfl (by kernel_rfl) (by kernel_rfl) (by kernel_rfl) (fun v c a w h=>h) ?_
          (first | (refine⟨undef,Or.inr ⟨by rfl,rfl⟩,?_⟩) | (apply Exists.intro;refine⟨Or.inl ⟨by rfl,?_⟩,?_⟩;(intro x hx';go_simp;first | done | with_reducible rfl)))
          (try simp only[Act.put,List.getElem_toArray,List.getElem_cons_zero,List.getElem_cons_succ,List.setIfInBounds_toArray,List.set_cons_zero,List.set_cons_succ])
          refine Z0 17 rfl (by kernel_rfl) (by kernel_rfl) (by kernel_rfl) (fun v c a w h=>h) ?_
          (first | (refine⟨undef,Or.inr ⟨by rfl,rfl⟩,?_⟩) | (apply Exists.intro;refine⟨Or.inl ⟨by rfl,?_⟩,?_⟩;(intro x hx';go_simp;first | done | with_reducible rfl)))
          (try simp only[Act.put,List.getElem_toArray,List.getElem_cons_zero,List.getElem_cons_succ,List.setIfInBounds_toArray,List.set_cons_zero,List.set_cons_succ])
          refine Z3 (by kernel_rfl) ?_ _
          refine NoPanic.normal ?_
          (try simp only[Act.put,List.getElem_toArray,List.getElem_cons_zero,List.getElem_cons_succ,List.setIfInBounds_toArray,List.set_cons_zero,List.set_cons_succ])
          clear hS0
          go_wp2_with fail
          exact⟨⟨i1,sn++[y],nx++[y],_,_,_,_,_,_,rfl,rfl,rfl,by rw[←HI1.out.1];exact HI1.out.2,HE.out⟩,by rw[←HI1.out.1];exact Zk HI1.out.2⟩
         ·rw[if_pos (by rfl)]
          (try simp only[List.getElem_toArray,List.getElem_cons_zero,List.getElem_cons_succ])
          go_simp
          have halz2:=Z7 z1 (.cells #[.int .i64 y] 3)
          have gz2:Nw z1 (z1.alloc (.cells #[.int .i64 y] 3)):=(Nw.refl _).alloc _
          obtain⟨z2,hz2⟩:∃x,z1.alloc (.cells #[.int .i64 y] 3)=x:=⟨_,rfl⟩
          obtain⟨B2,hB2⟩:∃x,z1.heap.size=x:=⟨_,rfl⟩
          rw[hz2,hB2] at halz2 ⊢
          rw[hz2] at gz2
          have HBz2:=hD0 (show z2.cell? ⟨B2,0,none⟩=some (.int .i64 y)∧B2<z2.heap.size from⟨Z6 (j:=0) halz2,Z1f halz2⟩)
          have HLz2:=hD0 (show z1.heap.size≤B2 from Nat.le_of_eq hB2)
          have Hz2:=hD0 gz2
          clear hz2 hB2 halz2 gz2
          have HF2:=hD0 (HF1.out.nwr Hz2.out)
          have HB:=hD0 (Hz2.out.kp HBz1.out.1)
          refine hK _ _ (.inr (HCl.out z2 HF2.out.nw)) ?_
          clear hK K
          (try simp only[Act.put,List.getElem_toArray,List.getElem_cons_zero,List.getElem_cons_succ,List.setIfInBounds_toArray,List.set_cons_zero,List.set_cons_succ])
          obtain⟨ga,cc,w6,hr7,hF7,hT7⟩:=Vj.push8 (HF2.out) (by have:=HLn.out.2.1;omega) y B1 HB.out
          have HR7:=hD0 hr7
          have HF7:=hD0 (aI0 hF7 hT7)
          clear hr7 hF7 hT7
          have HB2:=hD0 (show w6.cell? ⟨B2,0,none⟩=some (.int .i64 y) from(HF7.out.2.cell HBz2.out.2 (fun e=>by have h1:=Uu HF1.out.o8 e;have h2:=HLz2.out;omega) (o:=0)).trans HBz2.out.1)
          refine Z2 7 (by kernel_rfl) rfl (fun K hK=>?_)
          refine Yt (by rfl) (.tmp 51) (.tmp 57) 25 rfl _ _ _ _ rfl rfl HR7.out ?_
          refine hK _ _ (.inr (HCl.out w6 HF7.out.1.nw)) ?_
          clear hK K
          (try simp only[Act.put,List.getElem_toArray,List.getElem_cons_zero,List.getElem_cons_succ,List.setIfInBounds_toArray,List.set_cons_zero,List.set_cons_succ])
          obtain⟨gd,cd,w8,hr15,hF15⟩:=Vj.push10 (HF7.out.1) (by have:=HLn.out.2.2;omega) y B2 HB2.out
          have HR15:=hD0 hr15
          have HE:=hD0 (show Hid (Vj w0 now (sn++[y]) (nx++[y]) (.slice a7 b7 c7) (.slice (some ⟨ga,0,none⟩) (sn.length+1) cc) (.slice (some ⟨gd,0,none⟩) (nx.length+1) cd) w8∧Uq l a b n now seen (sn++[y]) (nx++[y]) i1∧(sn++[y]).length=sn.length+1∧(nx++[y]).length=nx.length+1) from hD0 ⟨hF15,HPs.out,by rw[List.length_append];rfl,by rw[List.length_append];rfl⟩)
          have hS15:=HCl.out w8 hF15.nw
          have HS15:=hD0 hS15
          clear hr15 hF15 hS15
          refine Z2 15 (by kernel_rfl) rfl (fun K hK=>?_)
          refine Yt (by rfl) (.tmp 59) (.tmp 65) 25 rfl _ _ _ _ rfl rfl HR15.out ?_
          refine hK _ _ (.inr (HS15.out)) ?_
          clear hK K
          (try simp only[Act.put,List.getElem_toArray,List.getElem_cons_zero,List.getElem_cons_succ,List.setIfInBounds_toArray,List.set_cons_zero,List.set_cons_succ])
          refine Z0 16 rfl (by kernel_rfl) (by kernel_rfl) (by kernel_rfl) (fun v c a w h=>h) ?_
          (first | (refine⟨undef,Or.inr ⟨by rfl,rfl⟩,?_⟩) | (apply Exists.intro;refine⟨Or.inl ⟨by rfl,?_⟩,?_⟩;(intro x hx';go_simp;first | done | with_reducible rfl)))
          (try simp only[Act.put,List.getElem_toArray,List.getElem_cons_zero,List.getElem_cons_succ,List.setIfInBounds_toArray,List.set_cons_zero,List.set_cons_succ])
          refine Z0 17 rfl (by kernel_rfl) (by kernel_rfl) (by kernel_rfl) (fun v c a w h=>h) ?_
          (first | (refine⟨undef,Or.inr ⟨by rfl,rfl⟩,?_⟩) | (apply Exists.intro;refine⟨Or.inl ⟨by rfl,?_⟩,?_⟩;(intro x hx';go_simp;first | done | with_reducible rfl)))
          (try simp only[Act.put,List.getElem_toArray,List.getElem_cons_zero,List.getElem_cons_succ,List.setIfInBounds_toArray,List.set_cons_zero,List.set_cons_succ])
          refine Z3 (by kernel_rfl) ?_ _
          refine NoPanic.normal ?_
          (try simp only[Act.put,List.getElem_toArray,List.getElem_cons_zero,List.getElem_cons_succ,List.setIfInBounds_toArray,List.set_cons_zero,List.set_cons_succ])
          clear hS0
          go_wp2_with fail
          exact⟨⟨i1,sn++[y],nx++[y],_,_,_,_,_,_,rfl,rfl,rfl,by rw[←HI1.out.1];exact HI1.out.2,HE.out⟩,by rw[←HI1.out.1];exact Zk HI1.out.2⟩
        ·rw[if_pos (by rfl)]
         (try simp only[List.getElem_toArray,List.getElem_cons_zero,List.getElem_cons_succ])
         go_simp
         have halz1:=Z7 y4 (.cells #[.int .i64 y] 3)
         have gz1:Nw y4 (y4.alloc (.cells #[.int .i64 y] 3)):=(Nw.refl _).alloc _
         obtain⟨z1,hz1⟩:∃x,y4.alloc (.cells #[.int .i64 y] 3)=x:=⟨_,rfl⟩
         obtain⟨B1,hB1⟩:∃x,y4.heap.size=x:=⟨_,rfl⟩
         rw[hz1,hB1] at halz1 ⊢
         rw[hz1] at gz1
         have HBz1:=hD0 (show z1.cell? ⟨B1,0,none⟩=some (.int .i64 y)∧B1<z1.heap.size from⟨Z6 (j:=0) halz1,Z1f halz1⟩)
         have HLz1:=hD0 (show y4.heap.size≤B1 from Nat.le_of_eq hB1)
         have Hz1:=hD0 gz1
         clear hz1 hB1 halz1 gz1
         have HF1:=hD0 (HF4.out.nwr Hz1.out)
         refine hK _ _ (.inr (HCl.out z1 HF1.out.nw)) ?_
         clear hK K
         (try simp only[Act.put,List.getElem_toArray,List.getElem_cons_zero,List.getElem_cons_succ,List.setIfInBounds_toArray,List.set_cons_zero,List.set_cons_succ])
         refine Z2 6 (by kernel_rfl) rfl (fun K hK=>?_)
         rw[if_pos (by rfl)]
         (try simp only[List.getElem_toArray,List.getElem_cons_zero,List.getElem_cons_succ])
         go_simp
         have halz2:=Z7 z1 (.cells #[.int .i64 y] 3)
         have gz2:Nw z1 (z1.alloc (.cells #[.int .i64 y] 3)):=(Nw.refl _).alloc _
         obtain⟨z2,hz2⟩:∃x,z1.alloc (.cells #[.int .i64 y] 3)=x:=⟨_,rfl⟩
         obtain⟨B2,hB2⟩:∃x,z1.heap.size=x:=⟨_,rfl⟩
         rw[hz2,hB2] at halz2 ⊢
         rw[hz2] at gz2
         have HBz2:=hD0 (show z2.cell? ⟨B2,0,none⟩=some (.int .i64 y)∧B2<z2.heap.size from⟨Z6 (j:=0) halz2,Z1f halz2⟩)
         have HLz2:=hD0 (show z1.heap.size≤B2 from Nat.le_of_eq hB2)
         have Hz2:=hD0 gz2
         clear hz2 hB2 halz2 gz2
         have HF2:=hD0 (HF1.out.nwr Hz2.out)
         have HB:=hD0 HBz2.out.1
         refine hK _ _ (.inr (HCl.out z2 HF2.out.nw)) ?_
         clear hK K
         (try simp only[Act.put,List.getElem_toArray,List.getElem_cons_zero,List.getElem_cons_succ,List.setIfInBounds_toArray,List.set_cons_zero,List.set_cons_succ])
         obtain⟨ga,cc,w6,hr7,hF7,hT7⟩:=Vj.push8 (HF2.out) (by have:=HLn.out.2.1;omega) y B2 HB.out
         have HR7:=hD0 hr7
         have HF7:=hD0 (aI0 hF7 hT7)
         clear hr7 hF7 hT7
         have HB2:=hD0 (show w6.cell? ⟨B1,0,none⟩=some (.int .i64 y) from(HF7.out.2.cell (lL0 HBz1.out.2 Hz2.out.sz) (fun e=>by have h1:=Uu HF4.out.o8 e;have h2:=HLz1.out;omega) (o:=0)).trans (Hz2.out.kp HBz1.out.1))
         refine Z2 7 (by kernel_rfl) rfl (fun K hK=>?_)
         refine Yt (by rfl) (.tmp 51) (.tmp 57) 25 rfl _ _ _ _ rfl rfl HR7.out ?_
         refine hK _ _ (.inr (HCl.out w6 HF7.out.1.nw)) ?_
         clear hK K
         (try simp only[Act.put,List.getElem_toArray,List.getElem_cons_zero,List.getElem_cons_succ,List.setIfInBounds_toArray,List.set_cons_zero,List.set_cons_succ])
         obtain⟨gd,cd,w8,hr15,hF15⟩:=Vj.push10 (HF7.out.1) (by have:=HLn.out.2.2;omega) y B1 HB2.out
         have HR15:=hD0 hr15
         have HE:=hD0 (show Hid (Vj w0 now (sn++[y]) (nx++[y]) (.slice a7 b7 c7) (.slice (some ⟨ga,0,none⟩) (sn.length+1) cc) (.slice (some ⟨gd,0,none⟩) (nx.length+1) cd) w8∧Uq l a b n now seen (sn++[y]) (nx++[y]) i1∧(sn++[y]).length=sn.length+1∧(nx++[y]).length=nx.length+1) from hD0 ⟨hF15,HPs.out,by rw[List.length_append];rfl,by rw[List.length_append];rfl⟩)
         have hS15:=HCl.out w8 hF15.nw
         have HS15:=hD0 hS15
         clear hr15 hF15 hS15
         refine Z2 15 (by kernel_rfl) rfl (fun K hK=>?_)
         refine Yt (by rfl) (.tmp 59) (.tmp 65) 25 rfl _ _ _ _ rfl rfl HR15.out ?_
         refine hK _ _ (.inr (HS15.out)) ?_
         clear hK K
         (try simp only[Act.put,List.getElem_toArray,List.getElem_cons_zero,List.getElem_cons_succ,List.setIfInBounds_toArray,List.set_cons_zero,List.set_cons_succ])
         refine Z0 16 rfl (by kernel_rfl) (by kernel_rfl) (by kernel_rfl) (fun v c a w h=>h) ?_
         (first | (refine⟨undef,Or.inr ⟨by rfl,rfl⟩,?_⟩) | (apply Exists.intro;refine⟨Or.inl ⟨by rfl,?_⟩,?_⟩;(intro x hx';go_simp;first | done | with_reducible rfl)))
         (try simp only[Act.put,List.getElem_toArray,List.getElem_cons_zero,List.getElem_cons_succ,List.setIfInBounds_toArray,List.set_cons_zero,List.set_cons_succ])
         refine Z0 17 rfl (by kernel_rfl) (by kernel_rfl) (by kernel_rfl) (fun v c a w h=>h) ?_
         (first | (refine⟨undef,Or.inr ⟨by rfl,rfl⟩,?_⟩) | (apply Exists.intro;refine⟨Or.inl ⟨by rfl,?_⟩,?_⟩;(intro x hx';go_simp;first | done | with_reducible rfl)))
         (try simp only[Act.put,List.getElem_toArray,List.getElem_cons_zero,List.getElem_cons_succ,List.setIfInBounds_toArray,List.set_cons_zero,List.set_cons_succ])
         refine Z3 (by kernel_rfl) ?_ _
         refine NoPanic.normal ?_
         (try simp only[Act.put,List.getElem_toArray,List.getElem_cons_zero,List.getElem_cons_succ,List.setIfInBounds_toArray,List.set_cons_zero,List.set_cons_succ])
         clear hS0
         go_wp2_with fail
         exact⟨⟨i1,sn++[y],nx++[y],_,_,_,_,_,_,rfl,rfl,rfl,by rw[←HI1.out.1];exact HI1.out.2,HE.out⟩,by rw[←HI1.out.1];exact Zk HI1.out.2⟩
    ·obtain rfl:i=N:=Nat.le_antisymm hiN (Nat.le_of_not_lt hlt)
     have Y5:¬i<i:=Nat.lt_irrefl i
     have hsl:sn.length≤i:=by rw[←HN.out];exact HJ.out.2.1.len
     have hsa:b8'=b8+b10:=by
      rw[←HJ.out.2.2.1,←HJ.out.2.2.2,←HT.out.2.2.1,HJ.out.2.1.sn,List.length_append]
     have HM:=hD0 (show 2*(i-b8')+Z33 b10<2*(i-b8)+Z33 b7 from by
      rw[hsa]
      exact Z49 HT.out.2.2.2.2 (by rw[←hsa,←HJ.out.2.2.1];exact hsl))
     have HR:=hD0 (show n2≤i+2∧Vj w0 nx sn [] (.slice a10 b10 c10) (.slice a8' b8' c8') (.slice none 0 0) wr∧LvI l a b (n+1) nx sn∧n2=n+1+1∧nx.length=b10∧sn.length=b8'∧n+1≤sn.length+1∧(0<b10→n+1≤sn.length)∧nx.length≤i+1 from by
      have h1:=HT.out.1
      have h2:=HN2.out
      have h3:=HT.out.2.1
      have h4:=HJ.out.2.2
      have h5:=HT.out.2.2.1
      refine⟨by omega,HJ.out.1.turn,?_,by omega,h4.2,h4.1,by omega,fun _=>by omega,by omega⟩
      have:=HJ.out.2.1
      rw[←HN.out] at this
      exact this.next)
     clear hlt HJ hsl hsa
     go_wp2_with fail
     exact⟨⟨n+1,n2,nx,sn,_,_,_,_,_,_,rfl,rfl,rfl,HR.out.1,hD0 HR.out.2⟩,HM.out⟩
structure OwI(W0:World)(out:List (Int × Int))(v:Value)(w:World):Prop where
 own:Za w W0.heap.size v out
 nw:Nw W0 w
theorem Z6d{W0 wr:World}{v:Value}{out:List (Int × Int)}(h:OwI W0 out v wr)(hl:out.length≤90000)(ex ey:Int) :
  ∃ga cc w6,(Builtin.append_ #[22,22] 22 #[v,.slice (some ⟨wr.heap.size,0,none⟩) 1 1]).run prog (wr.alloc (.cells #[.int .i64 ex,.int .i64 ey] 29))=.ok (.slice (some ⟨ga,0,none⟩) (out.length+1) cc) w6∧OwI W0 (out++[(ex,ey)]) (.slice (some ⟨ga,0,none⟩) (out.length+1) cc) w6:=by
 have hal6:=Z7 wr (.cells #[.int .i64 ex,.int .i64 ey] 29)
 have g6:Nw wr (wr.alloc (.cells #[.int .i64 ex,.int .i64 ey] 29)):=(Nw.refl wr).alloc _
 obtain⟨v',w6,hr6,hO6,hg6,_,ga6,cc6,rfl⟩:=Y2.push Yi (Vh h.own g6) (ex,ey) wr.heap.size 1 (fun j u hu=>by
  rw[Z6 hal6]
  simpa [Zc] using hu) (by omega) (h.nw.trans g6).sz
 exact⟨ga6,cc6,w6,hr6,hO6,(h.nw.trans g6).gro hg6 (fun b e=>Ur h.own e)⟩
theorem Z0t{w0:World}{v:Value}{l:List (Int × Int)}(h:Zm w0 v l)(hl:l.length≤1000)(t:Int) :
  Calls prog 11 #[v,.int .i64 t] w0 fun e w'=>∃v',e=.returned v'∧Za w' w0.heap.size v' (Zh l t)∧Nw w0 w':=by
 obtain⟨a,c,rfl,hd⟩:=h
 have HD:=hD0 hd
 obtain⟨n,hn⟩:∃n,l.length=n:=⟨_,rfl⟩
 have HN:=hD0 hn
 rw[hn] at hl ⊢
 clear hd hn
 go_enter func11,ntmps11
 go_wp2_with fail
 go_loopw [5,6] (fun v5 v6 wr=>∃(k:Nat) (a:Option Addr) (b c:Nat),v5=.slice a b c∧v6=.int .i64 k∧k≤n∧Hid (OwI w0 (Zh (l.take k) t) (.slice a b c) wr)) (fun _ v6 _=>n-(intOf v6).toNat)
 case atStart=>exact⟨0,none,0,0,rfl,rfl,Nat.zero_le _,hD0 ⟨World.ownsRow_nil _ _ _ _,Nw.refl _⟩⟩
 case round =>
  obtain⟨k,sa,sb,sc,rfl,rfl,hkn,HI⟩:=hrel
  by_cases hlt:k<n
  ·have hkl:k<l.length:=by rw[HN.out];exact hlt
   rcases HD.out with⟨q,_⟩ | ⟨eb,eo,rfl,hrc⟩
   ·rw[q] at hkl;simp at hkl
   have hrw:=hrc.nw HI.out.nw
   obtain⟨x0,x1⟩:=hrw.eg hkl
   have hebl:=hrw.lt
   have HDr:=hD0 (Z26 (t:=t) hkl)
   have hdl:(Zh (l.take k) t).length≤90000:=Nat.le_trans (List.length_filter_le _ _) (Nat.le_trans (List.length_take_le _ _) (by omega))
   obtain⟨s,hs⟩:∃s,l[k]=s:=⟨_,rfl⟩
   simp only[hs] at x0 x1 HDr
   obtain⟨ex,ey⟩:=s
   simp only at x0 x1 HDr
   have HDl:=hD0 hdl
   have Y5:=Zp hlt
   have hw:=Zw k (k+1) (by omega) rfl
   obtain⟨k1,hk1⟩:∃m,k+1=m:=⟨_,rfl⟩
   have HK1:=hD0 (aI0 hk1 hlt)
   rw[hk1] at hw HDr
   clear hk1 hkl hrc hrw hlt hs hdl
   by_cases e1:ex=t
   ·have d1:(ex != t)=false:=by simp[e1]
    have d2:(ex==t)=true:=by simp[e1]
    have HS:=hD0 (show OwI w0 (Zh (l.take k1) t) (.slice sa sb sc) wr from by
     rw[HDr.out,if_neg (fun q=>q.1 e1),List.append_nil];exact HI.out)
    clear e1 HI
    go_wp2_with fail
    exact⟨⟨k1,sa,sb,sc,rfl,rfl,by rw[←HK1.out.1];exact HK1.out.2,HS⟩,by rw[←HK1.out.1];exact Zk HK1.out.2⟩
   ·have d1:(ex != t)=true:=by simp[e1]
    have d2:(ex==t)=false:=by simp[e1]
    by_cases e2:ey=t
    ·have d3:(ey != t)=false:=by simp[e2]
     have d4:(ey==t)=true:=by simp[e2]
     have HS:=hD0 (show OwI w0 (Zh (l.take k1) t) (.slice sa sb sc) wr from by
      rw[HDr.out,if_neg (fun q=>q.2 e2),List.append_nil];exact HI.out)
     clear e1 e2 HI
     go_wp2_with fail
     exact⟨⟨k1,sa,sb,sc,rfl,rfl,by rw[←HK1.out.1];exact HK1.out.2,HS⟩,by rw[←HK1.out.1];exact Zk HK1.out.2⟩
    ·have d3:(ey != t)=true:=by simp[e2]
     have d4:(ey==t)=false:=by simp[e2]
     obtain⟨ga,cc,w6,hr6,hO6⟩:=Z6d HI.out HDl.out ex ey
     have HS:=hD0 (show OwI w0 (Zh (l.take k1) t) (.slice (some ⟨ga,0,none⟩) ((Zh (l.take k) t).length+1) cc) w6 from by
      rw[HDr.out,if_pos ⟨e1,e2⟩];exact hO6)
     have HR6:=hD0 hr6
     clear e1 e2 hr6 hO6 HI
     go_wp2_with (at_builtin;refine Zb (by rfl) (.tmp 29) (.tmp 34) 22 rfl _ _ _ _ rfl rfl HR6.out ?_)
     exact⟨⟨k1,some ⟨ga,0,none⟩,_,cc,rfl,rfl,by rw[←HK1.out.1];exact HK1.out.2,HS⟩,by rw[←HK1.out.1];exact Zk HK1.out.2⟩
  ·obtain rfl:k=n:=Nat.le_antisymm hkn (Nat.le_of_not_lt hlt)
   have Y5:¬k<k:=Nat.lt_irrefl k
   have HO:=hD0 (show OwI w0 (Zh l t) (.slice sa sb sc) wr from by
    have:=HI.out
    rwa [List.take_of_length_le (by rw[HN.out];exact Nat.le_refl k)] at this)
   clear hlt HI
   go_wp2
   go_ret
   exact⟨_,rfl,HO.out.own,HO.out.nw⟩
theorem Z0i{w:World}{g k c:Nat}{l:List (Int × Int)}(h:RdC 2 Zc w g 0 l)(hk:k≤l.length):Rd 2 Zc w (.slice (some ⟨g,0,none⟩) k c) (l.take k):=by
 refine⟨_,c,by rw[List.length_take,Nat.min_eq_left hk],.inr ⟨g,0,rfl,?_⟩⟩
 have:=h.part 0 k
 simpa using this
theorem Z27{w:World}{g k c:Nat}{l:List (Int × Int)}(h:RdC 2 Zc w g 0 l)(hk:k≤l.length):Rd 2 Zc w (.slice (some ⟨g,k*2,none⟩) (l.length-k) c) (l.drop k):=by
 refine⟨_,c,by rw[List.length_drop],.inr ⟨g,k*2,rfl,?_⟩⟩
 have:=h.part k (l.length-k)
 rw[List.take_of_length_le (by rw[List.length_drop];omega)] at this
 simpa using this
theorem Z75{z:World}{g o c k:Nat}{l:List (Int × Int)}(hk:l.length≤k):Rd 2 Zc z (.slice (some ⟨g,o,none⟩) (l.length-k) c) (l.drop k) :=
 ⟨_,c,by rw[List.length_drop],.inl ⟨List.drop_eq_nil_of_le hk,fun q=>by cases q⟩⟩
theorem Za.rdc{w:World}{g0 g n c:Nat}{l:List (Int × Int)}(h:Za w g0 (.slice (some ⟨g,0,none⟩) n c) l):RdC 2 Zc w g 0 l:=by
 obtain⟨a,c',e,⟨e2,_⟩ | ⟨b,o,e2,hc⟩⟩:=Za.at_ h
 ·subst e2
  exact⟨Uu h rfl,fun i hi=>by simp at hi⟩
 ·subst e2
  simp only[Value.slice.injEq,Option.some.injEq,Addr.mk.injEq] at e
  obtain⟨⟨rfl,rfl,_⟩,_,_⟩:=e
  exact hc
theorem Z15{W W0:World}{v:Value}{out:List (Int × Int)}(h:OwI W0 out v W)(hl:out.length≤50000){k:Nat}(ex ey:Int){v1 v2:Value}(h1:Rd 2 Zc W v1 (out.take k))(h2:Rd 2 Zc W v2 (out.drop k)) :
  ∃v4 w4 a5 n5 c5 w5 a6 n6 c6 w6,(Builtin.append_ #[22,22] 22 #[.slice (some ⟨W.heap.size,0,none⟩) 0 0,v1]).run prog (W.alloc (.cells #[] 29))=.ok v4 w4∧Nw W w4 ∧
   (Builtin.append_ #[22,22] 22 #[v4,.slice (some ⟨w4.heap.size,0,none⟩) 1 1]).run prog (w4.alloc (.cells #[.int .i64 ex,.int .i64 ey] 29))=.ok (.slice a5 n5 c5) w5∧Nw W w5 ∧
   (Builtin.append_ #[22,22] 22 #[.slice a5 n5 c5,v2]).run prog w5=.ok (.slice a6 n6 c6) w6 ∧
   OwI W0 (out.take k++(ex,ey)::out.drop k) (.slice a6 n6 c6) w6:=by
 have htk:(out.take k).length≤out.length:=by rw[List.length_take];omega
 have hdl:(out.take k).length+(out.drop k).length=out.length:=by rw[←List.length_append,List.take_append_drop]
 obtain⟨v4,w4,hr4,hO4,hN4⟩:=Vp Yi h1 (by omega)
 obtain⟨y,hy⟩:∃y,w4.alloc (.cells #[.int .i64 ex,.int .i64 ey] 29)=y:=⟨_,rfl⟩
 have hal:=Z7 w4 (.cells #[.int .i64 ex,.int .i64 ey] 29)
 have gy:Nw w4 y:=by rw[←hy];exact(Nw.refl w4).alloc _
 rw[hy] at hal
 have hs4:=hN4.sz
 have hsy:=gy.sz
 obtain⟨v5,w5,hr5,hO5,hg5,_,g5,c5,hv5⟩:=Y2.push Yi (Vh hO4 gy) (ex,ey) w4.heap.size 1 (fun j u hu=>by
  rw[Z6 hal]
  simpa [Zc] using hu) (by omega) (by omega)
 subst hv5
 have hN5:Nw W w5:=(hN4.trans gy).gro hg5 (fun b hb=>Ur hO4 hb)
 obtain⟨v6,w6,hr6,hO6,hg6,_⟩:=Z4h Yi hO5 (h2.nw hN5) (by rw[List.length_append,List.length_singleton];omega) hN5.sz
 have hN6:Nw W w6:=hN5.gro hg6 (fun b hb=>Ur hO5 hb)
 have he:out.take k++[(ex,ey)]++out.drop k=out.take k++(ex,ey)::out.drop k:=by simp
 rw[he] at hO6
 obtain⟨a6,c6,hv6,_⟩:=Y2.rd Yi.len hO6
 subst hv6
 exact⟨v4,w4,_,_,c5,w5,a6,_,c6,w6,hr4,hN4,by rw[hy];exact hr5,hN5,hr6,Z2f hO6 (fun b hb=>Nat.le_trans h.nw.sz (Ur hO6 hb)),h.nw.trans hN6⟩
theorem Z7f{m n c:Nat}(h:m≤n)(hc:n≤c):m≤c∧(m:Int)≤(c:Int)∧(n:Int)≤(c:Int)∧(m:Int)≤(n:Int)∧((n:Int)-(m:Int)).toNat=n-m:=by omega
structure SrK(out:List (Int × Int))(x:Int × Int)(k:Nat):Prop where
 lo:∀j,(h:j<out.length)→j<k→Yq out[j] x
theorem SrK.succ{out:List (Int × Int)}{x:Int × Int}{k:Nat}(h:SrK out x k)(hk:k<out.length)(e:Yq out[k] x):SrK out x (k+1) :=
 ⟨fun j hj q=>(Nat.lt_or_ge j k).elim (fun q=>h.lo j hj q) (fun q=>by
  obtain rfl:j=k:=by omega
  exact e)⟩
theorem Z1w{w0:World}{v:Value}{l:List (Int × Int)}(h:Zm w0 v l)(hl:l.length≤2000) :
  Calls prog 21 #[v] w0 fun e w'=>∃v',e=.returned v'∧Za w' w0.heap.size v' (sortE l)∧Nw w0 w':=by
 obtain⟨a,c,rfl,hd⟩:=h
 have HD:=hD0 hd
 obtain⟨n,hn⟩:∃n,l.length=n:=⟨_,rfl⟩
 have HN:=hD0 hn
 have HSn:=hD0 (fun k=>Nat.le_trans (Vr (l.take k)) (show(l.take k).length≤l.length by rw[List.length_take];omega))
 rw[hn] at hl ⊢
 clear hd hn
 go_enter func21,ntmps21
 go_wp2_with fail
 go_loopw [3,4] (fun v3 v4 wr=>∃(k:Nat) (a:Option Addr) (b c:Nat),v3=.slice a b c∧v4=.int .i64 k∧k≤n∧Hid (OwI w0 (sortE (l.take k)) (.slice a b c) wr)) (fun _ v4 _=>n-(intOf v4).toNat)
 case atStart=>exact⟨0,none,0,0,rfl,rfl,Nat.zero_le _,hD0 ⟨World.ownsRow_nil _ _ _ _,Nw.refl _⟩⟩
 case round =>
  obtain⟨i,sa,sb,sc,rfl,rfl,hin,HI⟩:=hrel
  by_cases hlt:i<n
  ·have hil:i<l.length:=by rw[HN.out];exact hlt
   rcases HD.out with⟨q,_⟩ | ⟨eb,eo,rfl,hrc⟩
   ·rw[q] at hil;simp at hil
   have hrw:=hrc.nw HI.out.nw
   obtain⟨x0,x1⟩:=hrw.eg hil
   have hebl:=hrw.lt
   have HSt:=hD0 (Z2i hil)
   obtain⟨s,hs⟩:∃s,l[i]=s:=⟨_,rfl⟩
   simp only[hs] at x0 x1 HSt
   obtain⟨ex,ey⟩:=s
   simp only at x0 x1 HSt
   obtain⟨out,hout⟩:∃out,sortE (l.take i)=out:=⟨_,rfl⟩
   have holen:out.length≤2000:=by
    have:=HSn.out i
    rw[hout,HN.out] at this
    omega
   rw[hout] at HI HSt
   have Y5:=Zp hlt
   have hw:=Zw i (i+1) (by omega) rfl
   obtain⟨i1,hi1⟩:∃m,i+1=m:=⟨_,rfl⟩
   have HI1:=hD0 (aI0 hi1 hlt)
   rw[hi1] at hw HSt
   have HO:=hD0 HI.out
   have HOL:=hD0 holen
   have hrcE:=hD0 hrw
   clear hi1 hil hrc hrw hlt hs hout holen
   have HX:=hD0 (show ∀z,Nw wr z→z.cell? ⟨eb,eo+i*2,none⟩=some (.int .i64 ex)∧z.cell? ⟨eb,eo+i*2+1,none⟩=some (.int .i64 ey)∧eb<z.heap.size from fun z g=>⟨g.kp x0,g.kp x1,lL0 hebl g.sz⟩)
   clear x0 x1 hebl
   rcases V3 HI.out.own with⟨e,hz⟩ | ⟨g,cap,e⟩
   ·obtain rfl:out=[]:=List.length_eq_zero_iff.1 hz
    simp only[Value.slice.injEq] at e
    obtain⟨rfl,rfl,rfl⟩:=e
    generalize wr=w4 at *
    clear HI hz
    go_wp2_with fail
    go_loopw [5] (fun nv y=>nv=.int .i64 0∧Hid (Nw w4 y)) (fun _ _=>0)
    case atStart=>exact⟨rfl,Nw.refl _⟩
    case round =>
     obtain⟨rfl,HM⟩:=hrel
     go_wp2_with fail
     refine Zj (fun y=>Nw wr y) (by kernel_rfl) (by kernel_rfl) (Nw.refl _).dr ?_
     have hne:Nonempty (Wd (fun y=>Nw wr y)):=⟨⟨_,Nw.refl wr⟩⟩
     repeat (first | go_big_quiet_step (fail) | quiet_step (fail))
     refine wpQuiet_nil ?_
     intro d
     have HZn:=hD0 (HM.out.trans d.h)
     clear hne
     revert HZn
     generalize d.w=z3
     intro HZ
     clear d
     go_wp2_with fail
     refine Zj (fun y=>Nw z3 y) (by kernel_rfl) (by kernel_rfl) (Nw.refl _).dr ?_
     have hne:Nonempty (Wd (fun y=>Nw z3 y)):=⟨⟨_,Nw.refl z3⟩⟩
     repeat (first | go_big_quiet_step (fail) | quiet_step (fail))
     refine wpQuiet_nil ?_
     intro d
     have HZn:=hD0 (HZ.out.trans d.h)
     clear hne
     revert HZn
     generalize d.w=z4
     intro HZ
     clear d
     have HK3:=hD0 (aI0 (show(0:Nat)≤([]:List (Int × Int)).length from Nat.le_refl _) (aI0 (show SrK [] (ex,ey) 0 from⟨fun j hj=>by simp at hj⟩) (show ¬∃h:0<([]:List (Int × Int)).length,([]:List (Int × Int))[0]=(ex,ey) from fun⟨h,_⟩=>by simp at h)))
     have HRd:=hD0 (show Rd 2 Zc z4 (.slice none 0 0) (([]:List (Int × Int)).take 0)∧Rd 2 Zc z4 (.slice none 0 0) (([]:List (Int × Int)).drop 0) from⟨by rw[List.take_nil];exact Rd.nil z4,by rw[List.drop_nil];exact Rd.nil z4⟩)
     have HNt:=hD0 (show ∀h:0<([]:List (Int × Int)).length,¬Yq ([]:List (Int × Int))[0] (ex,ey) from fun h=>by simp at h)
     obtain⟨v4,y4,a5,n5,c5,y5,a6,n6,c6,y6,hr4,hN4,hr5,hN5,hr6,hO6⟩:=Z15 (W:=z4) (W0:=w0) (k:=0) ⟨Vh HO.out.own HZ.out,HO.out.nw.trans HZ.out⟩ (Nat.le_trans HOL.out (by decide)) ex ey HRd.out.1 HRd.out.2
     have HS:=hD0 (show OwI w0 (sortE (l.take i1)) (.slice a6 n6 c6) y6 from by
      rw[HSt.out,(Ys HK3.out.1 HK3.out.2.1.lo HNt.out).2 HK3.out.2.2]
      exact hO6)
     have HR4:=hD0 hr4
     have HR5:=hD0 hr5
     have HR6:=hD0 hr6
     obtain⟨x0,x1,x2⟩:=HX.out y4 (HZ.out.trans hN4)
     clear hr4 hr5 hr6 hO6 hN4 hN5
     go_wp2_with (at_builtin;first | (refine Zb (by rfl) (.tmp 45) (.tmp 48) 22 rfl _ _ _ _ (by first | rfl | simp[Act.eval, *]) (by first | rfl | simp[Act.eval, *]) HR4.out ?_) | (refine Zb (by rfl) (.tmp 50) (.tmp 55) 22 rfl _ _ _ _ (by first | rfl | simp[Act.eval, *]) (by first | rfl | simp[Act.eval, *]) HR5.out ?_) | (refine Zb (by rfl) (.tmp 57) (.tmp 60) 22 rfl _ _ _ _ (by first | rfl | simp[Act.eval, *]) (by first | rfl | simp[Act.eval, *]) HR6.out ?_))
     exact⟨⟨i1,_,_,_,rfl,rfl,by rw[←HI1.out.1];exact HI1.out.2,HS⟩,by rw[←HI1.out.1];exact Zk HI1.out.2⟩
   ·simp only[Value.slice.injEq] at e
    obtain⟨rfl,rfl,rfl⟩:=e
    have hcap:out.length≤sc:=Z5p HI.out.own
    have HRO:=hD0 (Za.rdc HI.out.own)
    have hgl:g<wr.heap.size:=Uu HI.out.own rfl
    generalize wr=w4 at *
    clear HI
    go_wp2_with fail
    go_loopw [5] (fun nv y=>∃m:Nat,nv=.int .i64 m∧m≤out.length∧Hid (SrK out (ex,ey) m∧Nw w4 y)) (fun nv _=>out.length-(intOf nv).toNat)
    case atStart=>exact⟨0,rfl,Nat.zero_le _,⟨⟨fun j _ q=>absurd q (Nat.not_lt_zero _)⟩,Nw.refl _⟩⟩
    case round =>
     obtain⟨m,rfl,hmm,HM⟩:=hrel
     have hg3:=lL0 hgl HM.out.2.sz
     obtain⟨hm1,hm2,hm3,hm4,hm5⟩:=Z7f hmm hcap
     by_cases hml:m<out.length
     ·obtain⟨p0,p1⟩:=(HRO.out.nw HM.out.2).eg hml
      rw[Nat.zero_add] at p0 p1
      have hml':=Zp hml
      have hwm:=Zw m (m+1) (by have:=HOL.out;omega) rfl
      obtain⟨m1,hm1'⟩:∃x,m+1=x:=⟨_,rfl⟩
      have HM1:=hD0 (aI0 hm1' hml)
      rw[hm1'] at hwm
      have HLs:=hD0 (fun w=>Z3m (w0:=w) out[m] (ex,ey))
      have HEq:=hD0 (show ∀y,out[m]=y→∃h:m<out.length,out[m]=y from fun y e=>⟨hml,e⟩)
      obtain⟨s,hs⟩:∃s,out[m]=s:=⟨_,rfl⟩
      have HSm:=hD0 (show ∃h:m<out.length,out[m]=s from⟨hml,hs⟩)
      simp only[hs] at p0 p1 HLs
      obtain⟨s0,s1⟩:=s
      simp only at p0 p1
      clear hs hm1' HEq hml
      by_cases he:Yq (s0,s1) (ex,ey)
      ·rw[decide_eq_true he] at HLs
       go_wp2_with fail
       obtain⟨x0,x1,x2⟩:=HX.out wr HM.out.2
       refine Zj (fun y=>Nw wr y) (by kernel_rfl) (by kernel_rfl) (Nw.refl _).dr ?_
       have d0:∀d:Wd (fun y=>Nw wr y),d.w.cell? _=_:=fun d=>d.h.kp p0
       have d1:∀d:Wd (fun y=>Nw wr y),d.w.cell? _=_:=fun d=>d.h.kp p1
       have d2:∀d:Wd (fun y=>Nw wr y),d.w.cell? _=_:=fun d=>d.h.kp x0
       have d3:∀d:Wd (fun y=>Nw wr y),d.w.cell? _=_:=fun d=>d.h.kp x1
       have hne:Nonempty (Wd (fun y=>Nw wr y)):=⟨⟨_,Nw.refl wr⟩⟩
       repeat (first | go_big_quiet_step ((exact Ye (fun a b h g=>h.trans g) (HLs.out _))) | quiet_step ((exact Ye (fun a b h g=>h.trans g) (HLs.out _))))
       refine wpQuiet_nil ?_
       intro d
       have HZn:=hD0 (HM.out.2.trans d.h)
       clear hne d0 d1 d2 d3
       revert HZn
       generalize d.w=z3
       intro HZ
       clear d
       clear x0 x1 x2
       have HE:=hD0 (show SrK out (ex,ey) m1∧Nw w4 z3 from⟨by
        obtain⟨h1,h2⟩:=HSm.out
        rw[←HM1.out.1]
        exact HM.out.1.succ h1 (by rw[h2];exact he),HZ.out⟩)
       clear HM HZ he
       go_wp2_with fail
       exact⟨⟨m1,rfl,by rw[←HM1.out.1];exact HM1.out.2,HE.out⟩,by rw[←HM1.out.1];exact Zk HM1.out.2⟩
      ·rw[decide_eq_false he] at HLs
       have HNt:=hD0 (show ∀h:m<out.length,¬Yq out[m] (ex,ey) from fun h=>by
        obtain⟨h1,h2⟩:=HSm.out
        rw[h2];exact he)
       clear he
       go_wp2_with fail
       obtain⟨x0,x1,x2⟩:=HX.out wr HM.out.2
       refine Zj (fun y=>Nw wr y) (by kernel_rfl) (by kernel_rfl) (Nw.refl _).dr ?_
       have d0:∀d:Wd (fun y=>Nw wr y),d.w.cell? _=_:=fun d=>d.h.kp p0
       have d1:∀d:Wd (fun y=>Nw wr y),d.w.cell? _=_:=fun d=>d.h.kp p1
       have d2:∀d:Wd (fun y=>Nw wr y),d.w.cell? _=_:=fun d=>d.h.kp x0
       have d3:∀d:Wd (fun y=>Nw wr y),d.w.cell? _=_:=fun d=>d.h.kp x1
       have hne:Nonempty (Wd (fun y=>Nw wr y)):=⟨⟨_,Nw.refl wr⟩⟩
       repeat (first | go_big_quiet_step ((exact Ye (fun a b h g=>h.trans g) (HLs.out _))) | quiet_step ((exact Ye (fun a b h g=>h.trans g) (HLs.out _))))
       refine wpQuiet_nil ?_
       intro d
       have HZn:=hD0 (HM.out.2.trans d.h)
       clear hne d0 d1 d2 d3
       revert HZn
       generalize d.w=z3
       intro HZ
       clear d
       clear x0 x1 x2
       by_cases hq0:s0=ex
       ·subst hq0
        by_cases hq1:s1=ey
        ·subst hq1
         go_wp2_with fail
         obtain⟨q0,q1⟩:=(HRO.out.nw HZ.out).eg HSm.out.1
         rw[HSm.out.2,Nat.zero_add] at q0 q1
         simp only at q0 q1
         obtain⟨x0,x1,x2⟩:=HX.out z3 HZ.out
         refine Zj (fun y=>Nw z3 y) (by kernel_rfl) (by kernel_rfl) (Nw.refl _).dr ?_
         have d0:∀d:Wd (fun y=>Nw z3 y),d.w.cell? _=_:=fun d=>d.h.kp q0
         have d1:∀d:Wd (fun y=>Nw z3 y),d.w.cell? _=_:=fun d=>d.h.kp q1
         have d2:∀d:Wd (fun y=>Nw z3 y),d.w.cell? _=_:=fun d=>d.h.kp x0
         have d3:∀d:Wd (fun y=>Nw z3 y),d.w.cell? _=_:=fun d=>d.h.kp x1
         have hne:Nonempty (Wd (fun y=>Nw z3 y)):=⟨⟨_,Nw.refl z3⟩⟩
         repeat (first | go_big_quiet_step (fail) | quiet_step (fail))
         refine wpQuiet_nil ?_
         intro d
         have HZn:=hD0 (HZ.out.trans d.h)
         clear hne d0 d1 d2 d3
         revert HZn
         generalize d.w=z4
         intro HZ
         clear d
         clear x0 x1 x2 q0 q1
         have HS:=hD0 (show OwI w0 (sortE (l.take i1)) (.slice (some ⟨g,0,none⟩) out.length sc) z4 from by
          rw[HSt.out,(Ys hmm HM.out.1.lo HNt.out).1 HSm.out]
          exact⟨Vh HO.out.own HZ.out,HO.out.nw.trans HZ.out⟩)
         clear HM HZ
         go_wp2_with fail
         exact⟨⟨i1,_,_,_,rfl,rfl,by rw[←HI1.out.1];exact HI1.out.2,HS⟩,by rw[←HI1.out.1];exact Zk HI1.out.2⟩
        ·have HNq:=hD0 (show ¬∃h:m<out.length,out[m]=(s0,ey) from fun⟨h1,h2⟩=>by
          obtain⟨_,h3⟩:=HSm.out
          exact hq1 (congrArg Prod.snd (h3.symm.trans h2)))
         go_wp2_with fail
         obtain⟨q0,q1⟩:=(HRO.out.nw HZ.out).eg HSm.out.1
         rw[HSm.out.2,Nat.zero_add] at q0 q1
         simp only at q0 q1
         obtain⟨x0,x1,x2⟩:=HX.out z3 HZ.out
         refine Zj (fun y=>Nw z3 y) (by kernel_rfl) (by kernel_rfl) (Nw.refl _).dr ?_
         have d0:∀d:Wd (fun y=>Nw z3 y),d.w.cell? _=_:=fun d=>d.h.kp q0
         have d1:∀d:Wd (fun y=>Nw z3 y),d.w.cell? _=_:=fun d=>d.h.kp q1
         have d2:∀d:Wd (fun y=>Nw z3 y),d.w.cell? _=_:=fun d=>d.h.kp x0
         have d3:∀d:Wd (fun y=>Nw z3 y),d.w.cell? _=_:=fun d=>d.h.kp x1
         have hne:Nonempty (Wd (fun y=>Nw z3 y)):=⟨⟨_,Nw.refl z3⟩⟩
         repeat (first | go_big_quiet_step (fail) | quiet_step (fail))
         refine wpQuiet_nil ?_
         intro d
         have HZn:=hD0 (HZ.out.trans d.h)
         clear hne d0 d1 d2 d3
         revert HZn
         generalize d.w=z4
         intro HZ
         clear d
         clear x0 x1 x2 q0 q1
         clear hq1
         have HK3:=hD0 (aI0 hmm (aI0 HM.out.1 HNq.out))
         have HRd:=hD0 (show Rd 2 Zc z4 (.slice (some ⟨g,0,none⟩) m sc) (out.take m)∧Rd 2 Zc z4 (.slice (some ⟨g,m*2,none⟩) (out.length-m) (sc-m)) (out.drop m) from⟨Z0i (HRO.out.nw HZ.out) hmm,Z27 (HRO.out.nw HZ.out) hmm⟩)
         obtain⟨v4,y4,a5,n5,c5,y5,a6,n6,c6,y6,hr4,hN4,hr5,hN5,hr6,hO6⟩:=Z15 (W:=z4) (W0:=w0) (k:=m) ⟨Vh HO.out.own HZ.out,HO.out.nw.trans HZ.out⟩ (Nat.le_trans HOL.out (by decide)) s0 ey HRd.out.1 HRd.out.2
         have HS:=hD0 (show OwI w0 (sortE (l.take i1)) (.slice a6 n6 c6) y6 from by
          rw[HSt.out,(Ys HK3.out.1 HK3.out.2.1.lo HNt.out).2 HK3.out.2.2]
          exact hO6)
         have HR4:=hD0 hr4
         have HR5:=hD0 hr5
         have HR6:=hD0 hr6
         obtain⟨x0,x1,x2⟩:=HX.out y4 (HZ.out.trans hN4)
         clear hr4 hr5 hr6 hO6 hN4 hN5
         go_wp2_with (at_builtin;first | (refine Zb (by rfl) (.tmp 45) (.tmp 48) 22 rfl _ _ _ _ (by first | rfl | simp[Act.eval, *]) (by first | rfl | simp[Act.eval, *]) HR4.out ?_) | (refine Zb (by rfl) (.tmp 50) (.tmp 55) 22 rfl _ _ _ _ (by first | rfl | simp[Act.eval, *]) (by first | rfl | simp[Act.eval, *]) HR5.out ?_) | (refine Zb (by rfl) (.tmp 57) (.tmp 60) 22 rfl _ _ _ _ (by first | rfl | simp[Act.eval, *]) (by first | rfl | simp[Act.eval, *]) HR6.out ?_))
         exact⟨⟨i1,_,_,_,rfl,rfl,by rw[←HI1.out.1];exact HI1.out.2,HS⟩,by rw[←HI1.out.1];exact Zk HI1.out.2⟩
       ·have HNq:=hD0 (show ¬∃h:m<out.length,out[m]=(ex,ey) from fun⟨h1,h2⟩=>by
         obtain⟨_,h3⟩:=HSm.out
         exact hq0 (congrArg Prod.fst (h3.symm.trans h2)))
        go_wp2_with fail
        obtain⟨q0,q1⟩:=(HRO.out.nw HZ.out).eg HSm.out.1
        rw[HSm.out.2,Nat.zero_add] at q0 q1
        simp only at q0 q1
        obtain⟨x0,x1,x2⟩:=HX.out z3 HZ.out
        refine Zj (fun y=>Nw z3 y) (by kernel_rfl) (by kernel_rfl) (Nw.refl _).dr ?_
        have d0:∀d:Wd (fun y=>Nw z3 y),d.w.cell? _=_:=fun d=>d.h.kp q0
        have d1:∀d:Wd (fun y=>Nw z3 y),d.w.cell? _=_:=fun d=>d.h.kp q1
        have d2:∀d:Wd (fun y=>Nw z3 y),d.w.cell? _=_:=fun d=>d.h.kp x0
        have d3:∀d:Wd (fun y=>Nw z3 y),d.w.cell? _=_:=fun d=>d.h.kp x1
        have hne:Nonempty (Wd (fun y=>Nw z3 y)):=⟨⟨_,Nw.refl z3⟩⟩
        repeat (first | go_big_quiet_step (fail) | quiet_step (fail))
        refine wpQuiet_nil ?_
        intro d
        have HZn:=hD0 (HZ.out.trans d.h)
        clear hne d0 d1 d2 d3
        revert HZn
        generalize d.w=z4
        intro HZ
        clear d
        clear x0 x1 x2 q0 q1
        clear hq0
        have HK3:=hD0 (aI0 hmm (aI0 HM.out.1 HNq.out))
        have HRd:=hD0 (show Rd 2 Zc z4 (.slice (some ⟨g,0,none⟩) m sc) (out.take m)∧Rd 2 Zc z4 (.slice (some ⟨g,m*2,none⟩) (out.length-m) (sc-m)) (out.drop m) from⟨Z0i (HRO.out.nw HZ.out) hmm,Z27 (HRO.out.nw HZ.out) hmm⟩)
        obtain⟨v4,y4,a5,n5,c5,y5,a6,n6,c6,y6,hr4,hN4,hr5,hN5,hr6,hO6⟩:=Z15 (W:=z4) (W0:=w0) (k:=m) ⟨Vh HO.out.own HZ.out,HO.out.nw.trans HZ.out⟩ (Nat.le_trans HOL.out (by decide)) ex ey HRd.out.1 HRd.out.2
        have HS:=hD0 (show OwI w0 (sortE (l.take i1)) (.slice a6 n6 c6) y6 from by
         rw[HSt.out,(Ys HK3.out.1 HK3.out.2.1.lo HNt.out).2 HK3.out.2.2]
         exact hO6)
        have HR4:=hD0 hr4
        have HR5:=hD0 hr5
        have HR6:=hD0 hr6
        obtain⟨x0,x1,x2⟩:=HX.out y4 (HZ.out.trans hN4)
        clear hr4 hr5 hr6 hO6 hN4 hN5
        go_wp2_with (at_builtin;first | (refine Zb (by rfl) (.tmp 45) (.tmp 48) 22 rfl _ _ _ _ (by first | rfl | simp[Act.eval, *]) (by first | rfl | simp[Act.eval, *]) HR4.out ?_) | (refine Zb (by rfl) (.tmp 50) (.tmp 55) 22 rfl _ _ _ _ (by first | rfl | simp[Act.eval, *]) (by first | rfl | simp[Act.eval, *]) HR5.out ?_) | (refine Zb (by rfl) (.tmp 57) (.tmp 60) 22 rfl _ _ _ _ (by first | rfl | simp[Act.eval, *]) (by first | rfl | simp[Act.eval, *]) HR6.out ?_))
        exact⟨⟨i1,_,_,_,rfl,rfl,by rw[←HI1.out.1];exact HI1.out.2,HS⟩,by rw[←HI1.out.1];exact Zk HI1.out.2⟩
     ·obtain rfl:m=out.length:=Nat.le_antisymm hmm (Nat.le_of_not_lt hml)
      have hml':¬out.length<out.length:=Nat.lt_irrefl _
      clear hml
      go_wp2_with fail
      refine Zj (fun y=>Nw wr y) (by kernel_rfl) (by kernel_rfl) (Nw.refl _).dr ?_
      have hne:Nonempty (Wd (fun y=>Nw wr y)):=⟨⟨_,Nw.refl wr⟩⟩
      repeat (first | go_big_quiet_step (fail) | quiet_step (fail))
      refine wpQuiet_nil ?_
      intro d
      have HZn:=hD0 (HM.out.2.trans d.h)
      clear hne
      revert HZn
      generalize d.w=z3
      intro HZ
      clear d
      go_wp2_with fail
      refine Zj (fun y=>Nw z3 y) (by kernel_rfl) (by kernel_rfl) (Nw.refl _).dr ?_
      have hne:Nonempty (Wd (fun y=>Nw z3 y)):=⟨⟨_,Nw.refl z3⟩⟩
      repeat (first | go_big_quiet_step (fail) | quiet_step (fail))
      refine wpQuiet_nil ?_
      intro d
      have HZn:=hD0 (HZ.out.trans d.h)
      clear hne
      revert HZn
      generalize d.w=z4
      intro HZ
      clear d
      have HK3:=hD0 (aI0 (Nat.le_refl out.length) (aI0 HM.out.1 (show ¬∃h:out.length<out.length,out[out.length]=(ex,ey) from fun⟨h,_⟩=>Nat.lt_irrefl _ h)))
      have HNt:=hD0 (show ∀h:out.length<out.length,¬Yq out[out.length] (ex,ey) from fun h=>absurd h (Nat.lt_irrefl _))
      clear HM
      by_cases hc:sc=out.length
      ·have HRd:=hD0 (show Rd 2 Zc z4 (.slice (some ⟨g,0,none⟩) out.length sc) (out.take out.length)∧Rd 2 Zc z4 (.slice (some ⟨g,0,none⟩) (out.length-out.length) (sc-out.length)) (out.drop out.length) from⟨Z0i (HRO.out.nw HZ.out) (Nat.le_refl _),Z75 (Nat.le_refl _)⟩)
       obtain⟨v4,y4,a5,n5,c5,y5,a6,n6,c6,y6,hr4,hN4,hr5,hN5,hr6,hO6⟩:=Z15 (W:=z4) (W0:=w0) (k:=out.length) ⟨Vh HO.out.own HZ.out,HO.out.nw.trans HZ.out⟩ (Nat.le_trans HOL.out (by decide)) ex ey HRd.out.1 HRd.out.2
       have HS:=hD0 (show OwI w0 (sortE (l.take i1)) (.slice a6 n6 c6) y6 from by
        rw[HSt.out,(Ys HK3.out.1 HK3.out.2.1.lo HNt.out).2 HK3.out.2.2]
        exact hO6)
       have HR4:=hD0 hr4
       have HR5:=hD0 hr5
       have HR6:=hD0 hr6
       obtain⟨x0,x1,x2⟩:=HX.out y4 (HZ.out.trans hN4)
       clear hr4 hr5 hr6 hO6 hN4 hN5
       go_wp2_with (at_builtin;first | (refine Zb (by rfl) (.tmp 45) (.tmp 48) 22 rfl _ _ _ _ (by first | rfl | simp[Act.eval, *]) (by first | rfl | simp[Act.eval, *]) HR4.out ?_) | (refine Zb (by rfl) (.tmp 50) (.tmp 55) 22 rfl _ _ _ _ (by first | rfl | simp[Act.eval, *]) (by first | rfl | simp[Act.eval, *]) HR5.out ?_) | (refine Zb (by rfl) (.tmp 57) (.tmp 60) 22 rfl _ _ _ _ (by first | rfl | simp[Act.eval, *]) (by first | rfl | simp[Act.eval, *]) HR6.out ?_))
       exact⟨⟨i1,_,_,_,rfl,rfl,by rw[←HI1.out.1];exact HI1.out.2,HS⟩,by rw[←HI1.out.1];exact Zk HI1.out.2⟩
      ·have HRd:=hD0 (show Rd 2 Zc z4 (.slice (some ⟨g,0,none⟩) out.length sc) (out.take out.length)∧Rd 2 Zc z4 (.slice (some ⟨g,out.length*2,none⟩) (out.length-out.length) (sc-out.length)) (out.drop out.length) from⟨Z0i (HRO.out.nw HZ.out) (Nat.le_refl _),Z27 (HRO.out.nw HZ.out) (Nat.le_refl _)⟩)
       obtain⟨v4,y4,a5,n5,c5,y5,a6,n6,c6,y6,hr4,hN4,hr5,hN5,hr6,hO6⟩:=Z15 (W:=z4) (W0:=w0) (k:=out.length) ⟨Vh HO.out.own HZ.out,HO.out.nw.trans HZ.out⟩ (Nat.le_trans HOL.out (by decide)) ex ey HRd.out.1 HRd.out.2
       have HS:=hD0 (show OwI w0 (sortE (l.take i1)) (.slice a6 n6 c6) y6 from by
        rw[HSt.out,(Ys HK3.out.1 HK3.out.2.1.lo HNt.out).2 HK3.out.2.2]
        exact hO6)
       have HR4:=hD0 hr4
       have HR5:=hD0 hr5
       have HR6:=hD0 hr6
       obtain⟨x0,x1,x2⟩:=HX.out y4 (HZ.out.trans hN4)
       clear hr4 hr5 hr6 hO6 hN4 hN5
       go_wp2_with (at_builtin;first | (refine Zb (by rfl) (.tmp 45) (.tmp 48) 22 rfl _ _ _ _ (by first | rfl | simp[Act.eval, *]) (by first | rfl | simp[Act.eval, *]) HR4.out ?_) | (refine Zb (by rfl) (.tmp 50) (.tmp 55) 22 rfl _ _ _ _ (by first | rfl | simp[Act.eval, *]) (by first | rfl | simp[Act.eval, *]) HR5.out ?_) | (refine Zb (by rfl) (.tmp 57) (.tmp 60) 22 rfl _ _ _ _ (by first | rfl | simp[Act.eval, *]) (by first | rfl | simp[Act.eval, *]) HR6.out ?_))
       exact⟨⟨i1,_,_,_,rfl,rfl,by rw[←HI1.out.1];exact HI1.out.2,HS⟩,by rw[←HI1.out.1];exact Zk HI1.out.2⟩
  ·obtain rfl:i=n:=Nat.le_antisymm hin (Nat.le_of_not_lt hlt)
   have Y5:¬i<i:=Nat.lt_irrefl i
   have HO:=hD0 (show OwI w0 (sortE l) (.slice sa sb sc) wr from by
    have:=HI.out
    rwa [List.take_of_length_le (by rw[HN.out];exact Nat.le_refl i)] at this)
   clear hlt HI
   go_wp2
   go_ret
   exact⟨_,rfl,HO.out.own,HO.out.nw⟩
structure GrW(W0 w1:World)(s:List (Int × Int))(a:Int)(N:Nat)(r:List Int)(last:Int)(n:Nat)(v:Value)(w:World):Prop where
 inv:GrI s a N r last n
 own:InO w W0.heap.size v (a::r)
 nw:Nw w1 w
theorem GrI.lastAt{s:List (Int × Int)}{a:Int}{N:Nat}{r:List Int}{last:Int}{n:Nat}(h:GrI s a N r last n):∃h:r.length<(a::r).length,(a::r)[r.length]=last:=by
 refine⟨by simp,?_⟩
 have:=h.la
 rw[List.getLast?_eq_getElem?] at this
 simp only[List.length_cons,Nat.add_sub_cancel] at this
 obtain⟨h1,h2⟩:=List.getElem?_eq_some_iff.1 this
 exact h2
def NoK(s:List (Int × Int))(last a:Int)(m k:Nat):Prop:=∀j,(hj:j<s.length)→j<k→¬(s[j].1=last∧V1 s s[j].2 a m)
theorem NoK.zero(s:List (Int × Int))(last a:Int)(m:Nat):NoK s last a m 0:=fun j _ h=>absurd h (Nat.not_lt_zero j)
theorem NoK.succ{s:List (Int × Int)}{last a:Int}{m k:Nat}(h:NoK s last a m k)(hk:k<s.length)(n:¬(s[k].1=last∧V1 s s[k].2 a m)):NoK s last a m (k+1):=fun j hj hjk=>by
 rcases Nat.lt_or_ge j k with c | c
 ·exact h j hj c
 ·obtain rfl:j=k:=by omega
  exact n
theorem GrW.push{W0 w1 w z:World}{s:List (Int × Int)}{a:Int}{N:Nat}{r:List Int}{last:Int}{n:Nat}{v:Value}(h:GrW W0 w1 s a N r last (n+2) v w)(hW:W0.heap.size≤w1.heap.size)(hl:r.length<90000)(hs:Zg s){k:Nat}(hk:k<s.length){q:Int}(h1:s[k].1=last)(hq:s[k].2=q)(h2:V1 s s[k].2 a (n+1))(h3:NoK s last a (n+1) k)(g:Nw w z)(hz:w1.heap.size≤W0.heap.size) :
  ∃ga cc w6,(Builtin.append_ #[25,25] 25 #[v,.slice (some ⟨z.heap.size,0,none⟩) 1 1]).run prog (z.alloc (.cells #[.int .i64 q] 3))=.ok (.slice (some ⟨ga,0,none⟩) ((a::r).length+1) cc) w6∧GrW W0 w1 s a N (r++[q]) q (n+1) (.slice (some ⟨ga,0,none⟩) ((a::r).length+1) cc) w6:=by
 have hal:=Z7 z (.cells #[.int .i64 q] 3)
 have g6:Nw w (z.alloc (.cells #[.int .i64 q] 3)):=g.trans ((Nw.refl z).alloc _)
 obtain⟨v',w6,hr,hO,hg,_,ga,cc,rfl⟩:=Y2.push Vl (Vh h.own g6) q z.heap.size 1 (fun j u hu=>by
  rw[Z6 hal]
  simpa [Yv] using hu) (by simp;omega) (Nat.le_trans hW (h.nw.trans g6).sz)
 refine⟨ga,cc,w6,hr,?_,hO,(h.nw.trans g6).gro hg (fun b e=>Nat.le_trans hz (Ur h.own e))⟩
 have:=h.inv.step hs hk h1 h2 (fun j hj q=>h3 j hj q)
 rwa [hq] at this
theorem Uh{w0:World}{v:Value}{l:List (Int × Int)}(h:Zm w0 v l)(hl:l.length≤900) :
  Calls prog 9 #[v] w0 fun e w'=>∃v' c b,e=.returned (.tuple #[v',.bool b])∧IS w' v' c∧Y1 l c b∧Nw w0 w':=by
 have HS:=hD0 (Z1w h (Nat.le_trans hl (by decide)))
 have hsl:=Nat.le_trans (Vr l) hl
 have HSS:=hD0 (Vs l)
 have HUn:=hD0 (fun(c:List Int) (b:Bool) (q:Y1 (sortE l) c b)=>q.unsort)
 obtain⟨la,lc,rfl,hd⟩:=h
 clear hd
 obtain⟨s,hs⟩:∃s,sortE l=s:=⟨_,rfl⟩
 rw[hs] at HS hsl HSS HUn
 clear hs
 go_enter func9,ntmps9
 go_wp2_with fail
 refine HS.out.mono ?_
 rintro e w1 ⟨v1,rfl,hO1,g1⟩
 obtain⟨sa,sc,rfl,hd1⟩:=Za.at_ hO1
 obtain⟨M,hM⟩:∃M,s.length=M:=⟨_,rfl⟩
 have HM:=hD0 hM
 have HD:=hD0 hd1
 have HG1:=hD0 g1
 have HFar:=hD0 (fun(z:World) (g:Nw w1 z) (x y:Int)=>Z4l ((Za.at_ hO1).nw g) hsl x y)
 rw[hM] at hsl HFar ⊢
 clear hO1 hd1 hM g1 HS
 go_wp2_with fail
 go_loopw [4] (fun v wr=>∃i:Nat,v=.int .i64 i∧i≤M∧Hid (CyI s i∧Nw w1 wr)) (fun v _=>M-(intOf v).toNat)
 case atStart=>exact⟨0,rfl,Nat.zero_le _,hD0 ⟨CyI.zero s,Nw.refl _⟩⟩
 case round =>
  obtain⟨i,rfl,hi,HI⟩:=hrel
  by_cases hlt:i<M
  ·have hil:i<s.length:=by rw[HM.out];exact hlt
   rcases HD.out with⟨q,_⟩ | ⟨eb,eo,rfl,hrc⟩
   ·rw[q] at hil;simp at hil
   obtain⟨x0,xx⟩:=(hrc.nw HI.out.2).eg hil
   clear xx
   have hebl:=(hrc.nw HI.out.2).lt
   obtain⟨x,hx⟩:∃x,s[i].1=x:=⟨_,rfl⟩
   rw[hx] at x0
   have HXi:=hD0 (show ∃h:i<s.length,s[i].1=x from⟨hil,hx⟩)
   have HRc:=hD0 hrc
   have HF0:=hD0 (HFar.out wr HI.out.2 x x)
   have Y5:=Zp hlt
   have hw:=Zw i (i+1) (by omega) rfl
   obtain⟨i1,hi1⟩:∃m,i+1=m:=⟨_,rfl⟩
   have HI1:=hD0 (aI0 hi1 hlt)
   rw[hi1] at hw
   clear hi1 hil hrc hlt hx
   go_wp2_with fail
   clear x0 hebl
   refine HF0.out.mono ?_
   rintro e w4 ⟨f,rfl,hF,hf9,g4⟩
   have HG4:=hD0 (HI.out.2.trans g4)
   rcases hF with⟨n,rfl,hn0,hF⟩ | ⟨rfl,hR⟩
   rotate_left
   ·have HR:=hD0 (show CyI s i1∧Nw w1 w4 from⟨by
     obtain⟨h1,h2⟩:=HXi.out
     rw[←HI1.out.1]
     exact HI.out.1.succ h1 (by rw[h2];exact hR),HG4.out⟩)
    clear hR g4 HF0 hf9
    go_wp2_with fail
    exact⟨⟨i1,rfl,by rw[←HI1.out.1];exact HI1.out.2,HR⟩,by rw[←HI1.out.1];exact Zk HI1.out.2⟩
   ·have dn:decide ((n:Int)<0)=false:=by rw[decide_eq_false_iff_not];omega
    have HFF:=hD0 hF
    have HMin:=hD0 (show ∀v,Yf s v v→x≤v from fun v r=>by
     obtain⟨h1,h2⟩:=HXi.out
     rw[←h2]
     exact HI.out.1.least HSS.out h1 r)
    have hnM:n≤1000:=by omega
    clear hF g4 HF0 HI hf9
    go_upto_region 9 with fail
    have hal:=Z7 w4 (.cells #[.int .i64 x] 3)
    have g5:Nw w4 (w4.alloc (.cells #[.int .i64 x] 3)):=(Nw.refl _).alloc _
    have hw5:=Z2v Vl w4 [x] (by simp)
    obtain⟨w5,hw5'⟩:∃z,w4.alloc (.cells #[.int .i64 x] 3)=z:=⟨_,rfl⟩
    have hw5'':w4.alloc (.cells ⟨Z4 Yv [x]⟩ 3)=w5:=hw5'
    rw[hw5''] at hw5
    rw[hw5'] at g5 ⊢
    have HW0:=hD0 (show GrW w1 w1 s x n [] x n (.slice (some ⟨w4.heap.size,0,none⟩) 1 1) w5 from⟨GrI.start HFF.out,Z2f hw5 (fun b e=>Nat.le_trans HG4.out.sz (Ur hw5 e)),HG4.out.trans g5⟩)
    clear hal g5 hw5 hw5' hw5''
    go_wp2_with fail
    go_loopw [6,7] (fun v6 v7 wr=>∃(n' j b:Nat) (r:List Int) (last:Int) (a7:Option Addr) (c7:Nat),v6=.int .i64 n'∧v7=.slice a7 b c7∧n'≤1000∧b=j+1∧Hid (GrW w1 w1 s x n r last n' (.slice a7 b c7) wr∧j=r.length)) (fun v6 _ _=>(intOf v6).toNat)
    case atStart=>exact⟨n,0,1,[],x,_,_,rfl,rfl,hnM,rfl,hD0 ⟨HW0.out,rfl⟩⟩
    case round =>
     clear HW0
     obtain⟨n',j,b,r,last,a7,c7,rfl,rfl,hn',hbj,HJ⟩:=hrel
     by_cases h1:1<n'
     rotate_left
     ·have d1:decide ((1:Int)<(n':Int))=false:=by rw[decide_eq_false_iff_not];omega
      have d2:decide (1<n')=false:=decide_eq_false h1
      have HR:=hD0 (show IS wr (.slice a7 b c7) (x::r)∧Y1 l (x::r) true∧Nw w0 wr from⟨Y2.is HJ.out.1.own,HUn.out _ _ (by
       have hp:=HJ.out.1.inv.pos
       obtain rfl:n'=1:=by omega
       exact HJ.out.1.inv.done HMin.out HFF.out),HG1.out.trans HJ.out.1.nw⟩)
      clear h1 HJ hbj
      go_wp2_with fail
      refine bodyPost_ret (v:=.tuple #[.slice a7 b c7,.bool true]) (by simp[results,results9,go_sem, *]) rfl ?_
      exact⟨_,x::r,true,rfl,HR.out.1,HR.out.2.1,HR.out.2.2⟩
     ·obtain⟨m,hm⟩:∃m,n'=m+2:=⟨n'-2,by omega⟩
      have d1:decide ((1:Int)<(n':Int))=true:=by rw[decide_eq_true_iff];omega
      have d2:decide (1<n')=true:=decide_eq_true h1
      obtain⟨m1,hm1⟩:∃x,m+1=x:=⟨_,rfl⟩
      have hdn:=Yu n' m1 (by omega) (by omega)
      have hdb:=Yu b j (by
       have hh:=HJ.out.1.inv.len
       have hj:=HJ.out.2
       omega) hbj
      have HH:=hD0 (show GrW w1 w1 s x n r last (m+2) (.slice a7 b c7) wr from hm▸HJ.out.1)
      have HMm:=hD0 (show n'=m+2∧m+1=m1 from⟨hm,hm1⟩)
      have HB:=hD0 (show b=j+1∧j=r.length∧r.length≤1000 from⟨hbj,HJ.out.2,by have:=HJ.out.1.inv.len;omega⟩)
      have hbl:(x::r).length=b:=by rw[List.length_cons,hbj,HJ.out.2]
      obtain⟨ga0,ca0,e7,hb7⟩:=(Y2.is HJ.out.1.own).box
      simp only[Value.slice.injEq] at e7
      obtain⟨rfl,hbx,rfl⟩:=e7
      clear hbx
      obtain⟨bg,rfl,_⟩:=hb7 (by simp)
      obtain⟨hj1,hj2⟩:=HJ.out.1.inv.lastAt
      have cl:=Uc (Y2.is HJ.out.1.own) hj1
      rw[hj2,←HJ.out.2] at cl
      have hjb:j<b:=by omega
      have hjb':(j:Int)<(b:Int):=Int.ofNat_lt.2 hjb
      have hbl0:bg<wr.heap.size:=Uu HJ.out.1.own rfl
      have HW:=hD0 HJ.out.1.nw
      clear h1 HJ hbl hb7 hj1 hj2 hm hm1 hbj
      go_wp2_with fail
      generalize wr=w8 at *
      go_loopw [7,9] (fun v7 v9 wr=>∃k:Nat,v7=.slice (some ⟨bg,0,none⟩) b c7∧v9=.int .i64 k∧k≤M∧Hid (NoK s last x m1 k∧Nw w8 wr)) (fun _ v9 _=>M-(intOf v9).toNat)
      case atStart=>exact⟨0,rfl,rfl,Nat.zero_le _,hD0 ⟨NoK.zero _ _ _ _,Nw.refl _⟩⟩
      case round =>
       obtain⟨k,rfl,rfl,hk,HK⟩:=hrel
       by_cases hkM:k<M
       ·have hkl:k<s.length:=by rw[HM.out];exact hkM
        have hrw:=HRc.out.nw (HW.out.trans HK.out.2)
        obtain⟨x0,x1⟩:=hrw.eg hkl
        have hel:=hrw.lt
        obtain⟨t,ht⟩:∃t,s[k]=t:=⟨_,rfl⟩
        have HTk:=hD0 (show ∃h:k<s.length,s[k]=t from⟨hkl,ht⟩)
        simp only[ht] at x0 x1
        obtain⟨p,q⟩:=t
        simp only at x0 x1
        have HX:=hD0 (show ∀z,Nw wr z→z.cell? ⟨eb,eo+k*2,none⟩=some (.int .i64 p)∧z.cell? ⟨eb,eo+k*2+1,none⟩=some (.int .i64 q)∧eb<z.heap.size from fun z g=>⟨g.kp x0,g.kp x1,lL0 hel g.sz⟩)
        have hkM':=Zp hkM
        have hwk:=Zw k (k+1) (by omega) rfl
        obtain⟨k1,hk1⟩:∃m,k+1=m:=⟨_,rfl⟩
        have HK1:=hD0 (aI0 hk1 hkM)
        rw[hk1] at hwk
        have HSkip:=hD0 (show ¬(p=last∧V1 s q x m1)→NoK s last x m1 k1 from fun h=>by
         obtain⟨h1,h2⟩:=HTk.out
         rw[←HK1.out.1]
         exact HK.out.1.succ h1 (by rw[h2];exact h))
        have HFr:=hD0 (HFar.out wr (HW.out.trans HK.out.2) q x)
        clear hk1 hkl hrw hkM ht
        by_cases hp:p=last
        rotate_left
        ·have dp:(p==last)=false:=by simpa using hp
         have HR:=hD0 (aI0 (HSkip.out (fun h=>hp h.1)) HK.out.2)
         clear hp HSkip HK HFr
         go_wp2_with fail
         exact⟨⟨k1,rfl,rfl,by rw[←HK1.out.1];exact HK1.out.2,HR⟩,by rw[←HK1.out.1];exact Zk HK1.out.2⟩
        ·have dp:(p==last)=true:=by simpa using hp
         go_wp2_with fail
         clear x0 x1 hel
         refine HFr.out.mono ?_
         rintro e w9 ⟨f,rfl,hF,_,g9⟩
         have HG9:=hD0 g9
         have hof:=hF.of (n:=m1) (by rw[←HMm.out.2];exact Nat.succ_pos m)
         by_cases hf:f=(m1:Int)
         rotate_left
         ·have df:(f==(m1:Int))=false:=by simpa using hf
          have HR:=hD0 (show NoK s last x m1 k1∧Nw w8 w9 from⟨HSkip.out (fun h=>hf (hof.2 h.2)),HK.out.2.trans g9⟩)
          clear hf hF hof g9 HSkip HK HFr hp
          go_wp2_with fail
          exact⟨⟨k1,rfl,rfl,by rw[←HK1.out.1];exact HK1.out.2,HR⟩,by rw[←HK1.out.1];exact Zk HK1.out.2⟩
         ·have df:(f==(m1:Int))=true:=by simpa using hf
          obtain⟨ga,cc,w6,hr6,hW6⟩:=HH.out.push (z:=w9) (q:=q) (Nat.le_refl _) (Nat.lt_of_le_of_lt HB.out.2.2 (by decide)) HSS.out HTk.out.1 (by rw[HTk.out.2];exact hp) (by rw[HTk.out.2]) (by rw[HTk.out.2,HMm.out.2];exact hof.1 hf) (by rw[HMm.out.2];exact HK.out.1) (HK.out.2.trans g9) (Nat.le_refl _)
          have HR:=hD0 (show GrW w1 w1 s x n (r++[q]) q m1 (.slice (some ⟨ga,0,none⟩) (b+1) cc) w6∧m1≤1000∧b+1=b+1∧b=(r++[q]).length from⟨by
           rw[←HMm.out.2]
           have e:(x::r).length=b:=by rw[List.length_cons,HB.out.1,HB.out.2.1]
           rw[e] at hW6
           exact hW6,by have:=HMm.out;omega,rfl,by rw[List.length_append,List.length_singleton,HB.out.1,HB.out.2.1]⟩)
          have HR6:=hD0 (show(Builtin.append_ #[25,25] 25 #[.slice (some ⟨bg,0,none⟩) b c7,.slice (some ⟨w9.heap.size,0,none⟩) 1 1]).run prog (w9.alloc (.cells #[.int .i64 q] 3))=.ok (.slice (some ⟨ga,0,none⟩) (b+1) cc) w6 from by
           have e:(x::r).length=b:=by rw[List.length_cons,HB.out.1,HB.out.2.1]
           rw[e] at hr6
           exact hr6)
          have HDn:=hD0 (show m1<n' from by have:=HMm.out;omega)
          obtain⟨x0,x1,hel⟩:=HX.out w9 g9
          clear hf hF hof g9 HSkip HK HFr hp hr6 hW6 HH
          go_wp2_with (at_builtin;refine Zb (by rfl) (.tmp 67) (.tmp 73) 25 rfl _ _ _ _ rfl rfl HR6.out ?_)
          exact⟨⟨m1,b,b+1,r++[q],q,_,_,rfl,rfl,HR.out.2.1,rfl,hD0 ⟨HR.out.1,HR.out.2.2.2⟩⟩,HDn.out⟩
       ·exfalso
        obtain rfl:k=M:=Nat.le_antisymm hk (Nat.le_of_not_lt hkM)
        refine HH.out.inv.has (fun j hj=>?_)
        rw[HMm.out.2]
        exact HK.out.1 j hj (by rw[←HM.out];exact hj)
  ·obtain rfl:i=M:=Nat.le_antisymm hi (Nat.le_of_not_lt hlt)
   have Y5:¬i<i:=Nat.lt_irrefl i
   have HR:=hD0 (show Y1 l [] false∧Nw w0 wr from⟨HUn.out _ _ (Z0h (by
    have:=HI.out.1
    rw[←HM.out] at this
    exact this.done)),HG1.out.trans HI.out.2⟩)
   clear hlt HI
   go_wp2_with fail
   refine bodyPost_ret (v:=.tuple #[.slice none 0 0,.bool false]) (by simp[results,results9,go_sem, *]) rfl ?_
   exact⟨_,[],false,rfl,IS.nil _,HR.out.1,HR.out.2⟩
theorem Vc{w0:World}{v:Value}{l:List (Int × Int)}(h:Zm w0 v l)(hl:l.length≤900) :
  Calls prog 12 #[v] w0 fun e w'=>∃c b,e=.returned (.bool (!b))∧Y1 l c b∧Nw w0 w':=by
 have HC:=hD0 (Uh h hl)
 obtain⟨la,lc,rfl,hd⟩:=h
 clear hd
 go_enter func12,ntmps12
 go_wp2_with fail
 refine HC.out.mono ?_
 rintro e w1 ⟨v1,c,b,rfl,hI,hP,g1⟩
 have HR:=hD0 (aI0 hP g1)
 clear hI hP g1 HC
 go_wp2_with fail
 go_ret
 exact⟨c,b,rfl,HR.out.1,HR.out.2⟩
end Go.Proofs.Ytbnpnccpobkodaa
