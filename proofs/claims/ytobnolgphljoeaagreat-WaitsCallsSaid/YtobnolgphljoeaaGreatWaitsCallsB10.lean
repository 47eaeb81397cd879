/- Texts merged: WeD, WeF, WeG, QvT, QvU, WdJ, QuU, WdK -/
import Derived.Test.YtobnolgphljoeaaGreatWaitsCallsB9
import Derived.ChangeOld
import Derived.Below
import Derived.Deep.Slices
import Derived.Deep.Fields
import Derived.ChangeSame
import Derived.Lib.SmallJoins
set_option linter.unusedVariables false
set_option maxRecDepth 100000
set_option maxHeartbeats 16000000
namespace Go.Proofs.YtobnolgphljoeaaGreat
open Go.RowKit _root_.Go.Proofs.Tryz
def Z9o:Value→Nat
 | .slice _ n _=>n
 | _=>0
def Z91:Value→Nat
 | .bool true=>1
 | _=>0
theorem IS.form3{w:World}{v:Value}{l:List Int}(h:IS w v l):∃a c,v=.slice a l.length c:=by
 obtain⟨a,c,e,_⟩:=h.box
 exact⟨a,c,e⟩
theorem Z59{y:Int}{out:List Int}(h:out.Pairwise (·<·))(hy:y∉out):out.length<(Zs y out).length:=by
 have hn:(y::out).Nodup:=List.nodup_cons.2 ⟨hy,h.imp (fun {a b} k=>Int.ne_of_lt k)⟩
 have:=Yt hn (m:=Zs y out) (fun x hx=>(V9 y x out).2 (by
  rcases List.mem_cons.1 hx with e | e
  ·exact .inl e
  ·exact .inr e))
 exact Nat.lt_of_succ_le (by simpa using this)
structure ReW(W0:World)(l:List (Int × Int))(a:Int)(out:List Int)(v:Value)(w:World):Prop where
 is:IS w v out
 nw:Nw W0 w
 inv:ReI l a out
structure ReJ(W0:World)(l:List (Int × Int))(a:Int)(out0 out:List Int)(more:Bool)(i:Nat)(v:Value)(w:World):Prop where
 rw_:ReW W0 l a out v w
 no:more=false→out.length=out0.length∧ReC l a out i
 yes:more=true→out0.length<out.length
theorem Z8e{n a b:Nat}{m:Bool}(hb:b≤n)(h0:m=false→b=a)(h1:m=true→a<b):2*(n-b)+Z91 (.bool m)<2*(n-a)+Z91 (.bool true):=by
 cases m with
 | false =>
  rw[h0 rfl]
  exact Nat.lt_succ_self _
 | true =>
  have:=h1 rfl
  show 2*(n-b)+1<2*(n-a)+1
  omega
theorem Z3m{w0:World}{v:Value}{l:List (Int × Int)}(h:Zw w0 v l)(hl:l.length≤900)(a:Int) :
  Calls prog 15 #[v,.int .i64 a] w0 fun e w'=>∃v' c,e=.returned v'∧IS w' v' c∧Z34 l a c∧Nw w0 w':=by
 obtain⟨la,lc,rfl,hd⟩:=h
 have HD:=hD0 hd
 obtain⟨n,hn⟩:∃n,l.length=n:=⟨_,rfl⟩
 have HN:=hD0 hn
 rw[hn] at hl ⊢
 clear hd hn
 go_enter func15,ntmps15
 go_wp2_with fail
 go_loopw [5,6] (fun v5 v6 wr=>∃(out:List Int) (m:Bool) (sa:Option Addr) (sb sc:Nat),v5=.slice sa sb sc∧v6=.bool m∧Hid (ReW w0 l a out (.slice sa sb sc) wr∧out.length=sb∧(m=false→ReC l a out n))) (fun v5 v6 _=>2*(n-Z9o v5)+Z91 v6)
 case atStart=>exact⟨[],true,none,0,0,rfl,rfl,hD0 ⟨⟨IS.nil _,Nw.refl _,ReI.nil _ _⟩,rfl,(fun h=>nomatch h)⟩⟩
 case round =>
  obtain⟨out0,m,sa0,sb0,sc0,rfl,rfl,HI⟩:=hrel
  cases m with
  | false =>
   have HP:=hD0 (show Z34 l a out0 from HI.out.1.inv.done (by rw[HN.out];exact HI.out.2.2 rfl))
   go_wp2_with fail
   go_ret
   exact⟨_,rfl,out0,HI.out.1.is,HP.out,HI.out.1.nw⟩
  | true =>
   have HJ0:=hD0 (show ReJ w0 l a out0 out0 false 0 (.slice sa0 sb0 sc0) wr∧out0.length=sb0 from⟨⟨HI.out.1,fun _=>⟨rfl,ReC.zero _ _ _⟩,(fun h=>nomatch h)⟩,HI.out.2.1⟩)
   clear HI
   go_wp2_with fail
   go_loopw [5,6,7] (fun v5 v6 v7 wr=>∃(out:List Int) (m:Bool) (i:Nat) (sa:Option Addr) (sb sc:Nat),v5=.slice sa sb sc∧v6=.bool m∧v7=.int .i64 i∧i≤n∧Hid (ReJ w0 l a out0 out m i (.slice sa sb sc) wr∧out.length=sb)) (fun _ _ v7 _=>n-(intOf v7).toNat)
   case atStart=>exact⟨out0,false,0,sa0,sb0,sc0,rfl,rfl,rfl,Nat.zero_le _,HJ0⟩
   case round =>
    have HS0:=hD0 HJ0.out.2
    clear HJ0
    obtain⟨out,m,i,sa,sb,sc,rfl,rfl,rfl,hin,HJ⟩:=hrel
    by_cases hlt:i<n
    ·have hil:i<l.length:=by rw[HN.out];exact hlt
     rcases HD.out with⟨q,_⟩ | ⟨eb,eo,rfl,hrc⟩
     ·rw[q] at hil;simp at hil
     obtain⟨x0,x1⟩:=(hrc.nw HJ.out.1.rw_.nw).eg hil
     have hebl:=(hrc.nw HJ.out.1.rw_.nw).lt
     have hon:out.length≤n:=by rw[←HN.out];exact HJ.out.1.rw_.inv.len
     obtain⟨s,hs⟩:∃s,l[i]=s:=⟨_,rfl⟩
     have HSi:=hD0 (show ∃h:i<l.length,l[i]=s from⟨hil,hs⟩)
     simp only[hs] at x0 x1
     obtain⟨x,y⟩:=s
     simp only at x0 x1
     have HX:=hD0 (show ∀z,Nw wr z→z.cell? ⟨eb,eo+i*2,none⟩=some (.int .i64 x)∧z.cell? ⟨eb,eo+i*2+1,none⟩=some (.int .i64 y)∧eb<z.heap.size from fun z g=>⟨g.kp x0,g.kp x1,lL0 hebl g.sz⟩)
     have HIn:=hD0 (fun(z:World) (g:Nw wr z) (t:Int)=>Z1i (HJ.out.1.rw_.is.nw g) (Nat.le_trans hon (Nat.le_trans hl (by decide))) t)
     have HPu:=hD0 (fun(z:World) (g:Nw wr z)=>Zag y (.slice sa sb sc) out z (Nat.le_trans hon (Nat.le_trans hl (by decide))) (HJ.out.1.rw_.is.nw g))
     have Zr:=Zo hlt
     have hw:=Zn i (i+1) (by omega) rfl
     obtain⟨i1,hi1⟩:∃m,i+1=m:=⟨_,rfl⟩
     have HI1:=hD0 (aI0 hi1 hlt)
     rw[hi1] at hw
     have HSkip:=hD0 (show(x=a∨x∈out→y∈out)→∀z,Nw wr z→ReJ w0 l a out0 out m i1 (.slice sa sb sc) z from fun k z g=>by
      obtain⟨h1,h2⟩:=HSi.out
      refine⟨⟨HJ.out.1.rw_.is.nw g,HJ.out.1.rw_.nw.trans g,HJ.out.1.rw_.inv⟩,fun e=>⟨(HJ.out.1.no e).1,?_⟩,HJ.out.1.yes⟩
      rw[←HI1.out.1]
      exact(HJ.out.1.no e).2.succ h1 (by rw[h2];exact k))
     have HPut:=hD0 (show(x=a∨x∈out)→y∉out→∀v' z,Nw wr z→IS z v' (Zs y out)→ReJ w0 l a out0 (Zs y out) true i1 v' z from fun k ny v' z g hI=>by
      obtain⟨h1,h2⟩:=HSi.out
      have hii:=HJ.out.1.rw_.inv
      have hput:ReI l a (Zs y out):=hii.put h1 (by rw[h2];exact k) (Va y out hii.srt) (fun t=>by rw[h2];exact V9 y t out)
      refine⟨⟨hI,HJ.out.1.rw_.nw.trans g,hput⟩,(fun e=>nomatch e),fun _=>?_⟩
      have hlen:out.length<(Zs y out).length:=Z59 hii.srt ny
      cases m with
      | false=>rw[←(HJ.out.1.no rfl).1];exact hlen
      | true=>exact Nat.lt_trans (HJ.out.1.yes rfl) hlen)
     have HLn:=hD0 HJ.out.2
     clear hi1 hil hrc hlt hs hebl x0 x1 hon HJ
     by_cases hx:x=a
     ·have dx:(x==a)=true:=by simpa using hx
      by_cases hy:y∈out
      ·have hI:=HIn.out wr (Nw.refl _) y
       rw[decide_eq_true hy] at hI
       have HIy:=hD0 hI
       have HSk:=hD0 (HSkip.out (fun _=>hy))
       clear hx hy hI HSkip HPut HPu HIn
       obtain⟨x0,x1,x2⟩:=HX.out wr (Nw.refl _)
       go_wp2_with fail
       clear x0 x1 x2
       refine HIy.out.mono ?_
       rintro e w5 ⟨rfl,g5⟩
       have HR:=hD0 (aI0 (HSk.out w5 g5) HLn.out)
       clear g5 HSk HIy
       go_wp2_with fail
       exact⟨⟨out,m,i1,sa,sb,sc,rfl,rfl,rfl,by rw[←HI1.out.1];exact HI1.out.2,HR⟩,by rw[←HI1.out.1];exact Zk HI1.out.2⟩
      ·have hI:=HIn.out wr (Nw.refl _) y
       rw[decide_eq_false hy] at hI
       have HIy:=hD0 hI
       have HPp:=hD0 (HPut.out (.inl hx) hy)
       clear hx hy hI HSkip HPut HIn
       obtain⟨x0,x1,x2⟩:=HX.out wr (Nw.refl _)
       go_wp2_with fail
       clear x0 x1 x2
       refine HIy.out.mono ?_
       rintro e w5 ⟨rfl,g5⟩
       have HG5:=hD0 g5
       obtain⟨x0,x1,x2⟩:=HX.out w5 g5
       have HP5:=hD0 (HPu.out w5 g5)
       clear g5 HIy HPu
       go_wp2_with fail
       clear x0 x1 x2
       refine HP5.out.mono ?_
       rintro e w6 ⟨v6,rfl,g6,hI6⟩
       obtain⟨ua,uc,rfl⟩:=hI6.form3
       have HR:=hD0 (HPp.out _ w6 (HG5.out.trans g6) hI6)
       clear g6 hI6 HPp HP5
       go_wp2_with fail
       exact⟨⟨Zs y out,true,i1,ua,_,uc,rfl,rfl,rfl,by rw[←HI1.out.1];exact HI1.out.2,hD0 ⟨HR.out,rfl⟩⟩,by rw[←HI1.out.1];exact Zk HI1.out.2⟩
     ·have dx:(x==a)=false:=by simpa using hx
      by_cases hxo:x∈out
      ·have hI:=HIn.out wr (Nw.refl _) x
       rw[decide_eq_true hxo] at hI
       have HIx:=hD0 hI
       clear hI
       by_cases hy:y∈out
       ·have HIy:=hD0 (fun z g=>by
         have:=HIn.out z g y
         rwa [decide_eq_true hy] at this)
        have HSk:=hD0 (HSkip.out (fun _=>hy))
        clear hx hy hxo HSkip HPut HPu HIn
        obtain⟨x0,x1,x2⟩:=HX.out wr (Nw.refl _)
        go_wp2_with fail
        clear x0 x1 x2
        refine HIx.out.mono ?_
        rintro e w4 ⟨rfl,g4⟩
        have HG4:=hD0 g4
        have HI4:=hD0 (HIy.out w4 g4)
        obtain⟨x0,x1,x2⟩:=HX.out w4 g4
        clear g4 HIx HIy
        go_wp2_with fail
        clear x0 x1 x2
        refine HI4.out.mono ?_
        rintro e w5 ⟨rfl,g5⟩
        have HR:=hD0 (aI0 (HSk.out w5 (HG4.out.trans g5)) HLn.out)
        clear g5 HSk HI4
        go_wp2_with fail
        exact⟨⟨out,m,i1,sa,sb,sc,rfl,rfl,rfl,by rw[←HI1.out.1];exact HI1.out.2,HR⟩,by rw[←HI1.out.1];exact Zk HI1.out.2⟩
       ·have HIy:=hD0 (fun z g=>by
         have:=HIn.out z g y
         rwa [decide_eq_false hy] at this)
        have HPp:=hD0 (HPut.out (.inr hxo) hy)
        clear hx hy hxo HSkip HPut HIn
        obtain⟨x0,x1,x2⟩:=HX.out wr (Nw.refl _)
        go_wp2_with fail
        clear x0 x1 x2
        refine HIx.out.mono ?_
        rintro e w4 ⟨rfl,g4⟩
        have HG4:=hD0 g4
        have HI4:=hD0 (HIy.out w4 g4)
        obtain⟨x0,x1,x2⟩:=HX.out w4 g4
        clear g4 HIx HIy
        go_wp2_with fail
        clear x0 x1 x2
        refine HI4.out.mono ?_
        rintro e w5 ⟨rfl,g5⟩
        have HG5:=hD0 (HG4.out.trans g5)
        obtain⟨x0,x1,x2⟩:=HX.out w5 HG5.out
        have HP5:=hD0 (HPu.out w5 HG5.out)
        clear g5 HI4 HPu HG4
        go_wp2_with fail
        clear x0 x1 x2
        refine HP5.out.mono ?_
        rintro e w6 ⟨v6,rfl,g6,hI6⟩
        obtain⟨ua,uc,rfl⟩:=hI6.form3
        have HR:=hD0 (HPp.out _ w6 (HG5.out.trans g6) hI6)
        clear g6 hI6 HPp HP5
        go_wp2_with fail
        exact⟨⟨Zs y out,true,i1,ua,_,uc,rfl,rfl,rfl,by rw[←HI1.out.1];exact HI1.out.2,hD0 ⟨HR.out,rfl⟩⟩,by rw[←HI1.out.1];exact Zk HI1.out.2⟩
      ·have hI:=HIn.out wr (Nw.refl _) x
       rw[decide_eq_false hxo] at hI
       have HIx:=hD0 hI
       have HSk:=hD0 (HSkip.out (fun q=>q.elim (fun q=>absurd q hx) (fun q=>absurd q hxo)))
       clear hI hx hxo HSkip HPut HPu HIn
       obtain⟨x0,x1,x2⟩:=HX.out wr (Nw.refl _)
       go_wp2_with fail
       clear x0 x1 x2
       refine HIx.out.mono ?_
       rintro e w5 ⟨rfl,g5⟩
       have HR:=hD0 (aI0 (HSk.out w5 g5) HLn.out)
       clear g5 HSk HIx
       go_wp2_with fail
       exact⟨⟨out,m,i1,sa,sb,sc,rfl,rfl,rfl,by rw[←HI1.out.1];exact HI1.out.2,HR⟩,by rw[←HI1.out.1];exact Zk HI1.out.2⟩
    ·obtain rfl:i=n:=Nat.le_antisymm hin (Nat.le_of_not_lt hlt)
     have Zr:¬i<i:=Nat.lt_irrefl i
     have hm:=Z8e (n:=i) (a:=sb0) (b:=sb) (m:=m) (by rw[←HJ.out.2,←HN.out];exact HJ.out.1.rw_.inv.len) (fun e=>by rw[←HJ.out.2,←HS0.out];exact(HJ.out.1.no e).1) (fun e=>by rw[←HJ.out.2,←HS0.out];exact HJ.out.1.yes e)
     have HM:=hD0 hm
     have HR:=hD0 (aI0 HJ.out.1.rw_ (aI0 HJ.out.2 (fun e=>(HJ.out.1.no e).2)))
     clear hlt HJ hm
     go_wp2_with fail
     exact⟨⟨out,m,sa,sb,sc,rfl,rfl,HR⟩,HM.out⟩
section
variable {P:Program} {md:Region.Mode} {ops:Array Oper} {Q:Exit→Act→World→Prop} {S:World→Prop} {ts:List Nat}
theorem Z0g(i j:Nat){oi oj:Oper}{fuel:Nat}{listed:Array Bool}{a:Act}{w:World}(hr:Region.ready md ops listed=[i,j])(hi:ops[i]?=some oi)(hj:ops[j]?=some oj)
  (h:∀K':Act→World→Prop,(∀a w,i∈ts∨S w→Z9 P md ops Q S ts fuel (listed.setIfInBounds i true) a w→K' a w)→if Region.wanted oi (yielded ops a.tmps)=true then Oper.wp P oi a w K' Q else K' (a.put oi.dst undef) w)
  (k:∀K':Act→World→Prop,(∀a w,j∈ts∨S w→Z9 P md ops Q S ts fuel (listed.setIfInBounds j true) a w→K' a w)→if Region.wanted oj (yielded ops a.tmps)=true then Oper.wp P oj a w K' Q else K' (a.put oj.dst undef) w):Z9 P md ops Q S ts (fuel+1) listed a w :=
 ⟨fun h0=>absurd (hr▸h0) (by simp),fun m hm=>by
  rw[hr] at hm
  rcases List.mem_cons.1 hm with e | e
  ·subst e
   exact opH hi (fun K' hK=>h K' (fun a w q1 q2=>hK a w ⟨fun _=>q1,q2⟩))
  ·obtain rfl:m=j:=by simpa using e
   exact opH hj (fun K' hK=>k K' (fun a w q1 q2=>hK a w ⟨fun _=>q1,q2⟩))⟩
end
theorem Z2c{w:World}{B:Nat}{o:Obj}(hb:w.heap[B]?=some o):B<w.heap.size:=(Array.getElem?_eq_some_iff.1 hb).1
def Z4p(n:Nat):Nat:=if n=0 then 0 else 1
theorem Z66{N s k m:Nat}(hk:0<k)(hs:s+m≤N):2*(N-(s+m))+Z4p m<2*(N-s)+Z4p k:=by
 unfold Z4p
 rw[if_neg (by omega:¬k=0)]
 split<;>omega
def Z8w(p:Addr)(v:Value)(z:World):Prop:=z.cell? p=some v
theorem LvJ.len{l:List (Int × Int)}{a b:Int}{n:Nat}{now seen0 seen next:List Int}{i:Nat}(h:LvJ l a b n now seen0 seen next i):seen.length≤l.length:=by
 have:=Yt (m:=l.map Prod.snd) h.nd fun y hy=>by
  rw[h.sn,List.mem_append] at hy
  rcases hy with q | q
  ·obtain⟨m,_,w⟩:=(h.top.ise y).1 q
   obtain⟨x,hx⟩:=Z2t (Ur w)
   exact List.mem_map.2 ⟨_,hx,rfl⟩
  ·obtain⟨⟨j,hj,_,_,e⟩,_⟩:=(h.mem y).1 q
   exact List.mem_map.2 ⟨_,gM0 hj,e⟩
 simpa using this
structure Vx(W0:World)(now seen next:List Int)(v7 v8 v10:Value)(w:World):Prop where
 n7:IS w v7 now
 o8:InO w W0.heap.size v8 seen
 o10:InO w W0.heap.size v10 next
 nw:Nw W0 w
 d78:∀b,v7.ownBlock=some b→v8.ownBlock≠some b
 d710:∀b,v7.ownBlock=some b→v10.ownBlock≠some b
 d810:∀b,v8.ownBlock=some b→v10.ownBlock≠some b
section
variable {W0 w z:World} {now seen next:List Int} {v7 v8 v10:Value}
theorem Vx.nwr(h:Vx W0 now seen next v7 v8 v10 w)(g:Nw w z):Vx W0 now seen next v7 v8 v10 z :=
 ⟨h.n7.nw g,Yq h.o8 g,Yq h.o10 g,h.nw.trans g,h.d78,h.d710,h.d810⟩
theorem Vx.turn(h:Vx W0 now seen next v7 v8 v10 w):Vx W0 next seen [] v10 v8 (.slice none 0 0) w :=
 ⟨Zt.is h.o10,h.o8,World.ownsRow_nil _ _ _ _,h.nw,fun b e k=>h.d810 b k e,(fun b _ e=>nomatch e),(fun b _ e=>nomatch e)⟩
theorem Vx.push8(h:Vx W0 now seen next v7 v8 v10 z)(hl:seen.length<100000)(y:Int)(B:Nat)(hB:z.cell? ⟨B,0,none⟩=some (.int .i64 y)) :
  ∃ga cc w',(Builtin.append_ #[25,25] 25 #[v8,.slice (some ⟨B,0,none⟩) 1 1]).run prog z=.ok (.slice (some ⟨ga,0,none⟩) (seen.length+1) cc) w'∧Vx W0 now (seen++[y]) next v7 (.slice (some ⟨ga,0,none⟩) (seen.length+1) cc) v10 w'∧Zd (fun b=>v8.ownBlock=some b) z w':=by
 obtain⟨v',w',hr,hO,hg,hp,ga,cc,rfl⟩:=Zt.push Yk h.o8 y B 1 (fun j u hu=>by
  have hj:j<1:=(List.getElem?_eq_some_iff.1 hu).1
  obtain rfl:j=0:=by omega
  rw[hB]
  exact hu) hl h.nw.sz
 refine⟨ga,cc,w',hr,⟨Z2j h.n7 hg (fun b e k=>h.d78 b e k),hO,Z2j h.o10 hg (fun b e k=>h.d810 b k e),h.nw.gro hg (fun b e=>Vg h.o8 e),fun b e k=>?_,h.d710,fun b e k=>?_⟩,Z2b hg⟩
 ·rcases hp with p | p
  ·exact h.d78 b e (by rw[←p];exact k)
  ·rw[p] at k
   have:=Uo h.n7 e
   have:=Option.some.inj k
   omega
 ·rcases hp with p | p
  ·exact h.d810 b (by rw[←p];exact e) k
  ·rw[p] at e
   have:=Uo h.o10 k
   have:=Option.some.inj e
   omega
theorem Vx.push10(h:Vx W0 now seen next v7 v8 v10 z)(hl:next.length<100000)(y:Int)(B:Nat)(hB:z.cell? ⟨B,0,none⟩=some (.int .i64 y)) :
  ∃ga cc w',(Builtin.append_ #[25,25] 25 #[v10,.slice (some ⟨B,0,none⟩) 1 1]).run prog z=.ok (.slice (some ⟨ga,0,none⟩) (next.length+1) cc) w'∧Vx W0 now seen (next++[y]) v7 v8 (.slice (some ⟨ga,0,none⟩) (next.length+1) cc) w':=by
 obtain⟨v',w',hr,hO,hg,hp,ga,cc,rfl⟩:=Zt.push Yk h.o10 y B 1 (fun j u hu=>by
  have hj:j<1:=(List.getElem?_eq_some_iff.1 hu).1
  obtain rfl:j=0:=by omega
  rw[hB]
  exact hu) hl h.nw.sz
 refine⟨ga,cc,w',hr,⟨Z2j h.n7 hg (fun b e k=>h.d710 b e k),Z2j h.o8 hg (fun b e k=>h.d810 b e k),hO,h.nw.gro hg (fun b e=>Vg h.o10 e),h.d78,fun b e k=>?_,fun b e k=>?_⟩⟩
 ·rcases hp with p | p
  ·exact h.d710 b e (by rw[←p];exact k)
  ·rw[p] at k
   have:=Uo h.n7 e
   have:=Option.some.inj k
   omega
 ·rcases hp with p | p
  ·exact h.d810 b e (by rw[←p];exact k)
  ·rw[p] at k
   have:=Uo h.o8 e
   have:=Option.some.inj k
   omega
end
theorem Z51(w0:World)(a:Int):Vx w0 [a] [] [] (.slice (some ⟨w0.heap.size,0,none⟩) 1 1) (.slice (some ⟨w0.heap.size+1,0,none⟩) 0 0) (.slice none 0 0) ((w0.alloc (.cells #[.int .i64 a] 3)).alloc (.cells #[] 3)):=by
 have g1:Nw w0 (w0.alloc (.cells #[.int .i64 a] 3)):=(Nw.refl _).alloc _
 have g2:Nw (w0.alloc (.cells #[.int .i64 a] 3)) ((w0.alloc (.cells #[.int .i64 a] 3)).alloc (.cells #[] 3)):=(Nw.refl _).alloc _
 have h1:=Z47 Yk w0 [a] (by simp)
 have h2:=Z0w (T:=3) (sz:=1) (w0.alloc (.cells #[.int .i64 a] 3))
 have hs:(w0.alloc (.cells #[.int .i64 a] 3)).heap.size=w0.heap.size+1:=by simp
 rw[hs] at h2
 have h2':InO _ w0.heap.size _ []:=Z0k h2 (fun b e=>by
  have:=Vg h2 e
  omega)
 exact⟨(Zt.is h1).nw g2,h2',World.ownsRow_nil _ _ _ _,g1.trans g2,fun b e k=>by
  simp[Value.ownBlock] at e k
  omega,(fun b _ e=>nomatch e),(fun b _ e=>nomatch e)⟩
theorem Z6w{w0:World}{v:Value}{l:List (Int × Int)}(h:Zw w0 v l)(hl:l.length≤900)(a b:Int) :
  Calls prog 25 #[v,.int .i64 a,.int .i64 b] w0 fun e w'=>∃f,e=.returned (.int .i64 f)∧Z5l l a b f∧f≤1000∧Nw w0 w':=by
 obtain⟨la,lc,rfl,hd⟩:=h
 have HD:=hD0 hd
 obtain⟨N,hn⟩:∃n,l.length=n:=⟨_,rfl⟩
 have HN:=hD0 hn
 rw[hn] at hl ⊢
 have HF0:=hD0 (Z51 w0 a)
 clear hd hn
 go_enter func25,ntmps25
 go_wp2_with fail
 go_loopw [7,8,9] (fun v7 v8 v9 wr=>∃(n n1:Nat) (now seen:List Int) (a7:Option Addr) (b7 c7:Nat) (a8:Option Addr) (b8 c8:Nat),v7=.slice a7 b7 c7∧v8=.slice a8 b8 c8∧v9=.int .i64 n1∧n1≤N+2∧Hid (Vx w0 now seen [] (.slice a7 b7 c7) (.slice a8 b8 c8) (.slice none 0 0) wr∧LvI l a b n now seen∧n1=n+1∧now.length=b7∧seen.length=b8∧n≤seen.length+1∧(0<b7→n≤seen.length)∧now.length≤N+1)) (fun v7 v8 _ _=>2*(N-Z9o v8)+Z4p (Z9o v7))
 case atStart=>exact⟨0,1,[a],[],_,_,_,_,_,_,rfl,rfl,rfl,by omega,hD0 ⟨HF0.out,LvI.start l a b,rfl,rfl,rfl,Nat.zero_le _,fun _=>Nat.le_refl _,by simp⟩⟩
 case round =>
  clear HF0
  obtain⟨n,n1,now,seen,a7,b7,c7,a8,b8,c8,rfl,rfl,rfl,hn1,HI⟩:=hrel
  by_cases h7:0<b7
  rotate_left
  ·obtain rfl:b7=0:=Nat.eq_zero_of_not_pos h7
   have HR:=hD0 (show Z5l l a b (-1)∧Nw w0 wr from⟨.inr ⟨rfl,by
    obtain rfl:now=[]:=List.length_eq_zero_iff.1 HI.out.2.2.2.1
    exact HI.out.2.1.done⟩,HI.out.1.nw⟩)
   clear h7 HI
   go_wp2_with fail
   go_ret
   exact⟨_,rfl,HR.out.1,by decide,HR.out.2⟩
  ·have h7':(0:Int)<(b7:Int):=Int.ofNat_lt.2 h7
   have HJ0:=hD0 (show Vx w0 now seen [] (.slice a7 b7 c7) (.slice a8 b8 c8) (.slice none 0 0) wr∧LvJ l a b n now seen seen [] 0∧seen.length=b8∧([]:List Int).length=0 from⟨HI.out.1,LvJ.start HI.out.2.1,HI.out.2.2.2.2.1,rfl⟩)
   have HT:=hD0 (show n1=n+1∧n≤seen.length∧seen.length=b8∧now.length≤N+1∧0<b7 from⟨HI.out.2.2.1,HI.out.2.2.2.2.2.2.1 h7,HI.out.2.2.2.2.1,HI.out.2.2.2.2.2.2.2,h7⟩)
   have hwn:=Zn n1 (n1+1) (by omega) rfl
   obtain⟨n2,hn2⟩:∃m,n1+1=m:=⟨_,rfl⟩
   have HN2:=hD0 hn2
   rw[hn2] at hwn
   clear HI hn2
   go_wp2_with fail
   go_loopw [8,10,11] (fun v8 v10 v11 wr=>∃(i:Nat) (sn nx:List Int) (a8:Option Addr) (b8 c8:Nat) (a10:Option Addr) (b10 c10:Nat),v8=.slice a8 b8 c8∧v10=.slice a10 b10 c10∧v11=.int .i64 i∧i≤N∧Hid (Vx w0 now sn nx (.slice a7 b7 c7) (.slice a8 b8 c8) (.slice a10 b10 c10) wr∧LvJ l a b n now seen sn nx i∧sn.length=b8∧nx.length=b10)) (fun _ _ v11 _=>N-(intOf v11).toNat)
   case atStart=>exact⟨0,seen,[],_,_,_,_,_,_,rfl,rfl,rfl,Nat.zero_le _,HJ0⟩
   case round =>
    clear HJ0
    obtain⟨i,sn,nx,a8',b8',c8',a10,b10,c10,rfl,rfl,rfl,hiN,HJ⟩:=hrel
    by_cases hlt:i<N
    ·have hil:i<l.length:=by rw[HN.out];exact hlt
     rcases HD.out with⟨q,_⟩ | ⟨eb,eo,rfl,hrc⟩
     ·rw[q] at hil;simp at hil
     obtain⟨x0,x1⟩:=(hrc.nw HJ.out.1.nw).eg hil
     have hebl:=(hrc.nw HJ.out.1.nw).lt
     have heb0:=hrc.lt
     have hsn:sn.length≤N:=by rw[←HN.out];exact HJ.out.2.1.len
     have hnx:nx.length≤N:=by
      have:=HJ.out.2.1.sn
      rw[this,List.length_append] at hsn
      omega
     obtain⟨s,hs⟩:∃s,l[i]=s:=⟨_,rfl⟩
     have HSi:=hD0 (show ∃h:i<l.length,l[i]=s from⟨hil,hs⟩)
     simp only[hs] at x0 x1
     obtain⟨x,y⟩:=s
     simp only at x0 x1
     have HX:=hD0 (show ∀z,Nw wr z→z.cell? ⟨eb,eo+i*2,none⟩=some (.int .i64 x)∧z.cell? ⟨eb,eo+i*2+1,none⟩=some (.int .i64 y)∧eb<z.heap.size from fun z g=>⟨g.kp x0,g.kp x1,lL0 hebl g.sz⟩)
     have HInN:=hD0 (fun(z:World) (g:Nw wr z)=>Z1i (HJ.out.1.n7.nw g) (show now.length≤100000 by have:=HT.out.2.2.2.1;omega) x)
     have HInS:=hD0 (fun(z:World) (g:Nw wr z)=>Z1i ((Zt.is HJ.out.1.o8).nw g) (show sn.length≤100000 by omega) y)
     have HLn:=hD0 (aI0 HJ.out.2.2 (aI0 hsn hnx))
     have HEc:=hD0 (show w0.cell? ⟨eb,eo+i*2+1,none⟩=some (.int .i64 y) from by have:=(hrc.eg hil).2;rwa [hs] at this)
     have Zr:=Zo hlt
     have hw:=Zn i (i+1) (by omega) rfl
     obtain⟨i1,hi1⟩:∃m,i+1=m:=⟨_,rfl⟩
     have HI1:=hD0 (aI0 hi1 hlt)
     rw[hi1] at hw
     have HSkip:=hD0 (show(x∈now→y∈sn)→∀z,Nw wr z→Vx w0 now sn nx (.slice a7 b7 c7) (.slice a8' b8' c8') (.slice a10 b10 c10) z∧LvJ l a b n now seen sn nx i1∧sn.length=b8'∧nx.length=b10 from fun k z g=>by
      obtain⟨h1,h2⟩:=HSi.out
      refine⟨HJ.out.1.nwr g,?_,HJ.out.2.2⟩
      rw[←HI1.out.1]
      exact HJ.out.2.1.skip h1 (by rw[h2];exact k))
     clear hi1 hil hrc hlt hs hebl heb0 hsn hnx x0 x1
     obtain⟨x0,x1,x2⟩:=HX.out wr (Nw.refl _)
     by_cases hxn:x∈now
     rotate_left
     ·have hI:=HInN.out wr (Nw.refl _)
      rw[decide_eq_false hxn] at hI
      have HIx:=hD0 hI
      have HSk:=hD0 (HSkip.out (fun q=>absurd q hxn))
      clear hI hxn HSkip HInN HInS HJ
      go_wp2_with fail
      clear x0 x1 x2
      refine HIx.out.mono ?_
      rintro e w5 ⟨rfl,g5⟩
      have HR:=hD0 (HSk.out w5 g5)
      clear g5 HSk HIx
      go_wp2_with fail
      exact⟨⟨i1,sn,nx,_,_,_,_,_,_,rfl,rfl,rfl,by rw[←HI1.out.1];exact HI1.out.2,HR⟩,by rw[←HI1.out.1];exact Zk HI1.out.2⟩
     ·have hI:=HInN.out wr (Nw.refl _)
      rw[decide_eq_true hxn] at hI
      have HIx:=hD0 hI
      clear hI HInN
      by_cases hys:y∈sn
      ·have HIy:=hD0 (fun z g=>by
        have:=HInS.out z g
        rwa [decide_eq_true hys] at this)
       have HSk:=hD0 (HSkip.out (fun _=>hys))
       clear hxn hys HSkip HInS HJ
       go_wp2_with fail
       clear x0 x1 x2
       refine HIx.out.mono ?_
       rintro e w4 ⟨rfl,g4⟩
       have HG4:=hD0 g4
       have HI4:=hD0 (HIy.out w4 g4)
       obtain⟨x0,x1,x2⟩:=HX.out w4 g4
       clear g4 HIx HIy
       go_wp2_with fail
       clear x0 x1 x2
       refine HI4.out.mono ?_
       rintro e w5 ⟨rfl,g5⟩
       have HR:=hD0 (HSk.out w5 (HG4.out.trans g5))
       clear g5 HSk HI4
       go_wp2_with fail
       exact⟨⟨i1,sn,nx,_,_,_,_,_,_,rfl,rfl,rfl,by rw[←HI1.out.1];exact HI1.out.2,HR⟩,by rw[←HI1.out.1];exact Zk HI1.out.2⟩
      ·have HIy:=hD0 (fun z g=>by
        have:=HInS.out z g
        rwa [decide_eq_false hys] at this)
       by_cases hyb:y=b
       ·have db:(y==b)=true:=by simpa using hyb
        have HF:=hD0 (show Z5l l a b (n1:Int) from .inl ⟨n1,rfl,by rw[HT.out.1];exact Nat.succ_pos n,by
         obtain⟨h1,h2⟩:=HSi.out
         rw[HT.out.1]
         exact HJ.out.2.1.found h1 (by rw[h2];exact hxn) (by rw[h2];exact hyb)⟩)
        have HNw:=hD0 (aI0 HJ.out.1.nw (show(n1:Int)≤1000 by omega))
        clear hxn hys hyb HSkip HInS HJ
        go_wp2_with fail
        clear x0 x1 x2
        refine HIx.out.mono ?_
        rintro e w4 ⟨rfl,g4⟩
        have HG4:=hD0 g4
        have HI4:=hD0 (HIy.out w4 g4)
        obtain⟨x0,x1,x2⟩:=HX.out w4 g4
        clear g4 HIx HIy
        go_wp2_with fail
        clear x0 x1 x2
        refine HI4.out.mono ?_
        rintro e w5 ⟨rfl,g5⟩
        have HG5:=hD0 (HG4.out.trans g5)
        obtain⟨x0,x1,x2⟩:=HX.out w5 HG5.out
        clear g5 HI4
        go_wp2_with fail
        go_ret
        exact⟨_,rfl,HF.out,HNw.out.2,HNw.out.1.trans HG5.out⟩
       ·have db:(y==b)=false:=by simpa using hyb
        have HPs:=hD0 (show LvJ l a b n now seen (sn++[y]) (nx++[y]) i1 from by
         obtain⟨h1,h2⟩:=HSi.out
         have:=HJ.out.2.1.push h1 (by rw[h2];exact hxn) (by rw[h2];exact hys) (by rw[h2];exact hyb)
         rw[h2,HI1.out.1] at this
         exact this)
        have HFr:=hD0 HJ.out.1
        clear hxn hys hyb HSkip HInS HJ
        go_wp2_with fail
        clear x0 x1 x2
        refine HIx.out.mono ?_
        rintro e w4 ⟨rfl,g4⟩
        have HG4:=hD0 g4
        have HI4:=hD0 (HIy.out w4 g4)
        obtain⟨x0,x1,x2⟩:=HX.out w4 g4
        clear g4 HIx HIy
        go_wp2_with fail
        clear x0 x1 x2
        refine HI4.out.mono ?_
        rintro e w5 ⟨rfl,g5⟩
        have HG5:=hD0 (HG4.out.trans g5)
        obtain⟨x0,x1,x2⟩:=HX.out w5 HG5.out
        clear g5 HI4
        go_wp2_with fail
        refine Za [] (Z8w ⟨eb,eo+i*2+1,none⟩ (.int .i64 y)) (by kernel_rfl) ?_
        change Z9 _ _ _ _ _ _ 18 #[false,false,false,false,false,false,false,false,false,false,false,false,false,false,false,false,false,false] _ w5.drew
        obtain⟨y4,hy4⟩:∃y,w5.drew=y:=⟨_,rfl⟩
        rw[hy4]
        have hN4:Nw w5 y4:=by rw[←hy4];exact(Nw.refl w5).dr
        clear hy4 x0 x1 x2
        have HCl:=hD0 (show ∀z,Nw w0 z→Z8w ⟨eb,eo+i*2+1,none⟩ (.int .i64 y) z from fun z g=>g.kp HEc.out)
        have t0:∀z,Z8w ⟨eb,eo+i*2+1,none⟩ (.int .i64 y) z→z.cell? ⟨eb,eo+i*2+1,none⟩=some (.int .i64 y):=fun z g=>g
        have HF4:=hD0 (HFr.out.nwr (HG5.out.trans hN4))
        have hS0:=HCl.out y4 HF4.out.nw
        refine Z0 0 rfl (by kernel_rfl) (by kernel_rfl) (by kernel_rfl) (fun v c a w h=>h) ?_
        (first | (refine⟨undef,Or.inr ⟨by rfl,rfl⟩,?_⟩) | (apply Exists.intro;refine⟨Or.inl ⟨by rfl,?_⟩,?_⟩;(intro x hx';go_simp;first | done | with_reducible rfl)))
        (try simp only[Act.put,List.getElem_toArray,List.getElem_cons_zero,List.getElem_cons_succ,List.setIfInBounds_toArray,List.set_cons_zero,List.set_cons_succ])
        refine Z0 1 rfl (by kernel_rfl) (by kernel_rfl) (by kernel_rfl) (fun v c a w h=>h) ?_
        (first | (refine⟨undef,Or.inr ⟨by rfl,rfl⟩,?_⟩) | (apply Exists.intro;refine⟨Or.inl ⟨by rfl,?_⟩,?_⟩;(intro x hx';go_simp;first | done | with_reducible rfl)))
        (try simp only[Act.put,List.getElem_toArray,List.getElem_cons_zero,List.getElem_cons_succ,List.setIfInBounds_toArray,List.set_cons_zero,List.set_cons_succ])
        refine Z0 2 rfl (by kernel_rfl) (by kernel_rfl) (by kernel_rfl) (fun v c a w h=>h) ?_
        (first | (refine⟨undef,Or.inr ⟨by rfl,rfl⟩,?_⟩) | (apply Exists.intro;refine⟨Or.inl ⟨by rfl,?_⟩,?_⟩;(intro x hx';go_simp;first | done | with_reducible rfl)))
        (try simp only[Act.put,List.getElem_toArray,List.getElem_cons_zero,List.getElem_cons_succ,List.setIfInBounds_toArray,List.set_cons_zero,List.set_cons_succ])
        refine Z0 3 rfl (by kernel_rfl) (by kernel_rfl) (by kernel_rfl) (fun v c a w h=>h) ?_
        (first | (refine⟨undef,Or.inr ⟨by rfl,rfl⟩,?_⟩) | (apply Exists.intro;refine⟨Or.inl ⟨by rfl,?_⟩,?_⟩;(intro x hx';go_simp;first | done | with_reducible rfl)))
        (try simp only[Act.put,List.getElem_toArray,List.getElem_cons_zero,List.getElem_cons_succ,List.setIfInBounds_toArray,List.set_cons_zero,List.set_cons_succ])
        refine Z0 4 rfl (by kernel_rfl) (by kernel_rfl) (by kernel_rfl) (fun v c a w h=>h) ?_
        (first | (refine⟨undef,Or.inr ⟨by rfl,rfl⟩,?_⟩) | (apply Exists.intro;refine⟨Or.inl ⟨by rfl,?_⟩,?_⟩;(intro x hx';go_simp;first | done | with_reducible rfl)))
        (try simp only[Act.put,List.getElem_toArray,List.getElem_cons_zero,List.getElem_cons_succ,List.setIfInBounds_toArray,List.set_cons_zero,List.set_cons_succ])
        refine Z1 5 rfl (by kernel_rfl) (by kernel_rfl) (by kernel_rfl) (by kernel_rfl) (fun v c a w h=>h) hS0 ?_
        (first | (refine⟨undef,Or.inr ⟨by rfl,rfl⟩,?_⟩) | (apply Exists.intro;refine⟨Or.inl ⟨by rfl,?_⟩,?_⟩;(intro x hx';go_simp;first | done | with_reducible rfl)))
        (try simp only[Act.put,List.getElem_toArray,List.getElem_cons_zero,List.getElem_cons_succ,List.setIfInBounds_toArray,List.set_cons_zero,List.set_cons_succ])
        refine Z0 8 rfl (by kernel_rfl) (by kernel_rfl) (by kernel_rfl) (fun v c a w h=>h) ?_
        (first | (refine⟨undef,Or.inr ⟨by rfl,rfl⟩,?_⟩) | (apply Exists.intro;refine⟨Or.inl ⟨by rfl,?_⟩,?_⟩;(intro x hx';go_simp;first | done | with_reducible rfl)))
        (try simp only[Act.put,List.getElem_toArray,List.getElem_cons_zero,List.getElem_cons_succ,List.setIfInBounds_toArray,List.set_cons_zero,List.set_cons_succ])
        refine Z0 9 rfl (by kernel_rfl) (by kernel_rfl) (by kernel_rfl) (fun v c a w h=>h) ?_
        (first | (refine⟨undef,Or.inr ⟨by rfl,rfl⟩,?_⟩) | (apply Exists.intro;refine⟨Or.inl ⟨by rfl,?_⟩,?_⟩;(intro x hx';go_simp;first | done | with_reducible rfl)))
        (try simp only[Act.put,List.getElem_toArray,List.getElem_cons_zero,List.getElem_cons_succ,List.setIfInBounds_toArray,List.set_cons_zero,List.set_cons_succ])
        refine Z0 10 rfl (by kernel_rfl) (by kernel_rfl) (by kernel_rfl) (fun v c a w h=>h) ?_
        (first | (refine⟨undef,Or.inr ⟨by rfl,rfl⟩,?_⟩) | (apply Exists.intro;refine⟨Or.inl ⟨by rfl,?_⟩,?_⟩;(intro x hx';go_simp;first | done | with_reducible rfl)))
        (try simp only[Act.put,List.getElem_toArray,List.getElem_cons_zero,List.getElem_cons_succ,List.setIfInBounds_toArray,List.set_cons_zero,List.set_cons_succ])
        refine Z0 11 rfl (by kernel_rfl) (by kernel_rfl) (by kernel_rfl) (fun v c a w h=>h) ?_
        (first | (refine⟨undef,Or.inr ⟨by rfl,rfl⟩,?_⟩) | (apply Exists.intro;refine⟨Or.inl ⟨by rfl,?_⟩,?_⟩;(intro x hx';go_simp;first | done | with_reducible rfl)))
        (try simp only[Act.put,List.getElem_toArray,List.getElem_cons_zero,List.getElem_cons_succ,List.setIfInBounds_toArray,List.set_cons_zero,List.set_cons_succ])
        refine Z0 12 rfl (by kernel_rfl) (by kernel_rfl) (by kernel_rfl) (fun v c a w h=>h) ?_
        (first | (refine⟨undef,Or.inr ⟨by rfl,rfl⟩,?_⟩) | (apply Exists.intro;refine⟨Or.inl ⟨by rfl,?_⟩,?_⟩;(intro x hx';go_simp;first | done | with_reducible rfl)))
        (try simp only[Act.put,List.getElem_toArray,List.getElem_cons_zero,List.getElem_cons_succ,List.setIfInBounds_toArray,List.set_cons_zero,List.set_cons_succ])
        refine Z1 13 rfl (by kernel_rfl) (by kernel_rfl) (by kernel_rfl) (by kernel_rfl) (fun v c a w h=>h) hS0 ?_
        (first | (refine⟨undef,Or.inr ⟨by rfl,rfl⟩,?_⟩) | (apply Exists.intro;refine⟨Or.inl ⟨by rfl,?_⟩,?_⟩;(intro x hx';go_simp;first | done | with_reducible rfl)))
        (try simp only[Act.put,List.getElem_toArray,List.getElem_cons_zero,List.getElem_cons_succ,List.setIfInBounds_toArray,List.set_cons_zero,List.set_cons_succ])
        clear t0 hN4
        refine Z0g 6 14 (by kernel_rfl) rfl rfl (fun K hK=>?_) (fun K hK=>?_)
        ·rw[if_pos (by rfl)]
         (try simp only[List.getElem_toArray,List.getElem_cons_zero,List.getElem_cons_succ])
         go_simp
         have halz1:=Z4 y4 (.cells #[.int .i64 y] 3)
         have gz1:Nw y4 (y4.alloc (.cells #[.int .i64 y] 3)):=(Nw.refl _).alloc _
         obtain⟨z1,hz1⟩:∃x,y4.alloc (.cells #[.int .i64 y] 3)=x:=⟨_,rfl⟩
         obtain⟨B1,hB1⟩:∃x,y4.heap.size=x:=⟨_,rfl⟩
         rw[hz1,hB1] at halz1 ⊢
         rw[hz1] at gz1
         have HBz1:=hD0 (show z1.cell? ⟨B1,0,none⟩=some (.int .i64 y)∧B1<z1.heap.size from⟨Z2 (j:=0) halz1,Z2c halz1⟩)
         have HLz1:=hD0 (show y4.heap.size≤B1 from Nat.le_of_eq hB1)
         have Hz1:=hD0 gz1
         clear hz1 hB1 halz1 gz1
         have HF1:=hD0 (HF4.out.nwr Hz1.out)
         have HB:=hD0 HBz1.out.1
         refine hK _ _ (.inr (HCl.out z1 HF1.out.nw)) ?_
         clear hK K
         (try simp only[Act.put,List.getElem_toArray,List.getElem_cons_zero,List.getElem_cons_succ,List.setIfInBounds_toArray,List.set_cons_zero,List.set_cons_succ])
         refine Z0g 7 14 (by kernel_rfl) rfl rfl (fun K hK=>?_) (fun K hK=>?_)
         ·obtain⟨ga,cc,w6,hr7,hF7,hT7⟩:=Vx.push8 (HF1.out) (by have:=HLn.out.2.1;omega) y B1 HB.out
          have HR7:=hD0 hr7
          have HF7:=hD0 (aI0 hF7 hT7)
          clear hr7 hF7 hT7
          refine Yh (by rfl) (.tmp 51) (.tmp 57) 25 rfl _ _ _ _ rfl rfl HR7.out ?_
          refine hK _ _ (.inr (HCl.out w6 HF7.out.1.nw)) ?_
          clear hK K
          (try simp only[Act.put,List.getElem_toArray,List.getElem_cons_zero,List.getElem_cons_succ,List.setIfInBounds_toArray,List.set_cons_zero,List.set_cons_succ])
          refine Z3 14 (by kernel_rfl) rfl (fun K hK=>?_)
          rw[if_pos (by rfl)]
          (try simp only[List.getElem_toArray,List.getElem_cons_zero,List.getElem_cons_succ])
          go_simp
          have halz2:=Z4 w6 (.cells #[.int .i64 y] 3)
          have gz2:Nw w6 (w6.alloc (.cells #[.int .i64 y] 3)):=(Nw.refl _).alloc _
          obtain⟨z2,hz2⟩:∃x,w6.alloc (.cells #[.int .i64 y] 3)=x:=⟨_,rfl⟩
          obtain⟨B2,hB2⟩:∃x,w6.heap.size=x:=⟨_,rfl⟩
          rw[hz2,hB2] at halz2 ⊢
          rw[hz2] at gz2
          have HBz2:=hD0 (show z2.cell? ⟨B2,0,none⟩=some (.int .i64 y)∧B2<z2.heap.size from⟨Z2 (j:=0) halz2,Z2c halz2⟩)
          have HLz2:=hD0 (show w6.heap.size≤B2 from Nat.le_of_eq hB2)
          have Hz2:=hD0 gz2
          clear hz2 hB2 halz2 gz2
          have HF2:=hD0 (HF7.out.1.nwr Hz2.out)
          have HB2:=hD0 HBz2.out.1
          refine hK _ _ (.inr (HCl.out z2 HF2.out.nw)) ?_
          clear hK K
          (try simp only[Act.put,List.getElem_toArray,List.getElem_cons_zero,List.getElem_cons_succ,List.setIfInBounds_toArray,List.set_cons_zero,List.set_cons_succ])
          obtain⟨gd,cd,w8,hr15,hF15⟩:=Vx.push10 (HF2.out) (by have:=HLn.out.2.2;omega) y B2 HB2.out
          have HR15:=hD0 hr15
          have HE:=hD0 (show Hid (Vx w0 now (sn++[y]) (nx++[y]) (.slice a7 b7 c7) (.slice (some ⟨ga,0,none⟩) (sn.length+1) cc) (.slice (some ⟨gd,0,none⟩) (nx.length+1) cd) w8∧LvJ l a b n now seen (sn++[y]) (nx++[y]) i1∧(sn++[y]).length=sn.length+1∧(nx++[y]).length=nx.length+1) from hD0 ⟨hF15,HPs.out,by rw[List.length_append];rfl,by rw[List.length_append];rfl⟩)
          have hS15:=HCl.out w8 hF15.nw
          have HS15:=hD0 hS15
          clear hr15 hF15 hS15
          refine Z3 15 (by kernel_rfl) rfl (fun K hK=>?_)
          refine Yh (by rfl) (.tmp 59) (.tmp 65) 25 rfl _ _ _ _ rfl rfl HR15.out ?_
          refine hK _ _ (.inr (HS15.out)) ?_
          clear hK K
          (try simp only[Act.put,List.getElem_toArray,List.getElem_cons_zero,List.getElem_cons_succ,List.setIfInBounds_toArray,List.set_cons_zero,List.set_cons_succ])
          refine Z0 16 rfl (by kernel_rfl) (by kernel_rfl) (by kernel_rfl) (fun v c a w h=>h) ?_
          (first | (refine⟨undef,Or.inr ⟨by rfl,rfl⟩,?_⟩) | (apply Exists.intro;refine⟨Or.inl ⟨by rfl,?_⟩,?_⟩;(intro x hx';go_simp;first | done | with_reducible rfl)))
          (try simp only[Act.put,List.getElem_toArray,List.getElem_cons_zero,List.getElem_cons_succ,List.setIfInBounds_toArray,List.set_cons_zero,List.set_cons_succ])
          refine Z0 17 rfl (by kernel_rfl) (by kernel_rfl) (by kernel_rfl) (fun v c a w h=>h) ?_
          (first | (refine⟨undef,Or.inr ⟨by rfl,rfl⟩,?_⟩) | (apply Exists.intro;refine⟨Or.inl ⟨by rfl,?_⟩,?_⟩;(intro x hx';go_simp;first | done | with_reducible rfl)))
          (try simp only[Act.put,List.getElem_toArray,List.getElem_cons_zero,List.getElem_cons_succ,List.setIfInBounds_toArray,List.set_cons_zero,List.set_cons_succ])
          refine Z5 (by kernel_rfl) ?_ _
          refine NoPanic.normal ?_
          (try simp only[Act.put,List.getElem_toArray,List.getElem_cons_zero,List.getElem_cons_succ,List.setIfInBounds_toArray,List.set_cons_zero,List.set_cons_succ])
          clear hS0
          go_wp2_with fail
          exact⟨⟨i1,sn++[y],nx++[y],_,_,_,_,_,_,rfl,rfl,rfl,by rw[←HI1.out.1];exact HI1.out.2,HE.out⟩,by rw[←HI1.out.1];exact Zk HI1.out.2⟩
         ·rw[if_pos (by rfl)]
          (try simp only[List.getElem_toArray,List.getElem_cons_zero,List.getElem_cons_succ])
          go_simp
          have halz2:=Z4 z1 (.cells #[.int .i64 y] 3)
          have gz2:Nw z1 (z1.alloc (.cells #[.int .i64 y] 3)):=(Nw.refl _).alloc _
          obtain⟨z2,hz2⟩:∃x,z1.alloc (.cells #[.int .i64 y] 3)=x:=⟨_,rfl⟩
          obtain⟨B2,hB2⟩:∃x,z1.heap.size=x:=⟨_,rfl⟩
          rw[hz2,hB2] at halz2 ⊢
          rw[hz2] at gz2
          have HBz2:=hD0 (show z2.cell? ⟨B2,0,none⟩=some (.int .i64 y)∧B2<z2.heap.size from⟨Z2 (j:=0) halz2,Z2c halz2⟩)
          have HLz2:=hD0 (show z1.heap.size≤B2 from Nat.le_of_eq hB2)
          have Hz2:=hD0 gz2
          clear hz2 hB2 halz2 gz2
          have HF2:=hD0 (HF1.out.nwr Hz2.out)
          have HB:=hD0 (Hz2.out.kp HBz1.out.1)
          refine hK _ _ (.inr (HCl.out z2 HF2.out.nw)) ?_
          clear hK K
          (try simp only[Act.put,List.getElem_toArray,List.getElem_cons_zero,List.getElem_cons_succ,List.setIfInBounds_toArray,List.set_cons_zero,List.set_cons_succ])
          obtain⟨ga,cc,w6,hr7,hF7,hT7⟩:=Vx.push8 (HF2.out) (by have:=HLn.out.2.1;omega) y B1 HB.out
          have HR7:=hD0 hr7
          have HF7:=hD0 (aI0 hF7 hT7)
          clear hr7 hF7 hT7
          have HB2:=hD0 (show w6.cell? ⟨B2,0,none⟩=some (.int .i64 y) from(HF7.out.2.cell HBz2.out.2 (fun e=>by have h1:=Uo HF1.out.o8 e;have h2:=HLz2.out;omega) (o:=0)).trans HBz2.out.1)
          refine Z3 7 (by kernel_rfl) rfl (fun K hK=>?_)
          refine Yh (by rfl) (.tmp 51) (.tmp 57) 25 rfl _ _ _ _ rfl rfl HR7.out ?_
          refine hK _ _ (.inr (HCl.out w6 HF7.out.1.nw)) ?_
          clear hK K
          (try simp only[Act.put,List.getElem_toArray,List.getElem_cons_zero,List.getElem_cons_succ,List.setIfInBounds_toArray,List.set_cons_zero,List.set_cons_succ])
          obtain⟨gd,cd,w8,hr15,hF15⟩:=Vx.push10 (HF7.out.1) (by have:=HLn.out.2.2;omega) y B2 HB2.out
          have HR15:=hD0 hr15
          have HE:=hD0 (show Hid (Vx w0 now (sn++[y]) (nx++[y]) (.slice a7 b7 c7) (.slice (some ⟨ga,0,none⟩) (sn.length+1) cc) (.slice (some ⟨gd,0,none⟩) (nx.length+1) cd) w8∧LvJ l a b n now seen (sn++[y]) (nx++[y]) i1∧(sn++[y]).length=sn.length+1∧(nx++[y]).length=nx.length+1) from hD0 ⟨hF15,HPs.out,by rw[List.length_append];rfl,by rw[List.length_append];rfl⟩)
          have hS15:=HCl.out w8 hF15.nw
          have HS15:=hD0 hS15
          clear hr15 hF15 hS15
          refine Z3 15 (by kernel_rfl) rfl (fun K hK=>?_)
          refine Yh (by rfl) (.tmp 59) (.tmp 65) 25 rfl _ _ _ _ rfl rfl HR15.out ?_
          refine hK _ _ (.inr (HS15.out)) ?_
          clear hK K
          (try simp only[Act.put,List.getElem_toArray,List.getElem_cons_zero,List.getElem_cons_succ,List.setIfInBounds_toArray,List.set_cons_zero,List.set_cons_succ])
          refine Z0 16 rfl (by kernel_rfl) (by kernel_rfl) (by kernel_rfl) (fun v c a w h=>h) ?_
          (first | (refine⟨undef,Or.inr ⟨by rfl,rfl⟩,?_⟩) | (apply Exists.intro;refine⟨Or.inl ⟨by rfl,?_⟩,?_⟩;(intro x hx';go_simp;first | done | with_reducible rfl)))
          (try simp only[Act.put,List.getElem_toArray,List.getElem_cons_zero,List.getElem_cons_succ,List.setIfInBounds_toArray,List.set_cons_zero,List.set_cons_succ])
          refine Z0 17 rfl (by kernel_rfl) (by kernel_rfl) (by kernel_rfl) (fun v c a w h=>h) ?_
          (first | (refine⟨undef,Or.inr ⟨by rfl,rfl⟩,?_⟩) | (apply Exists.intro;refine⟨Or.inl ⟨by rfl,?_⟩,?_⟩;(intro x hx';go_simp;first | done | with_reducible rfl)))
          (try simp only[Act.put,List.getElem_toArray,List.getElem_cons_zero,List.getElem_cons_succ,List.setIfInBounds_toArray,List.set_cons_zero,List.set_cons_succ])
          refine Z5 (by kernel_rfl) ?_ _
          refine NoPanic.normal ?_
          (try simp only[Act.put,List.getElem_toArray,List.getElem_cons_zero,List.getElem_cons_succ,List.setIfInBounds_toArray,List.set_cons_zero,List.set_cons_succ])
          clear hS0
          go_wp2_with fail
          exact⟨⟨i1,sn++[y],nx++[y],_,_,_,_,_,_,rfl,rfl,rfl,by rw[←HI1.out.1];exact HI1.out.2,HE.out⟩,by rw[←HI1.out.1];exact Zk HI1.out.2⟩
        ·rw[if_pos (by rfl)]
         (try simp only[List.getElem_toArray,List.getElem_cons_zero,List.getElem_cons_succ])
         go_simp
         have halz1:=Z4 y4 (.cells #[.int .i64 y] 3)
         have gz1:Nw y4 (y4.alloc (.cells #[.int .i64 y] 3)):=(Nw.refl _).alloc _
         obtain⟨z1,hz1⟩:∃x,y4.alloc (.cells #[.int .i64 y] 3)=x:=⟨_,rfl⟩
         obtain⟨B1,hB1⟩:∃x,y4.heap.size=x:=⟨_,rfl⟩
         rw[hz1,hB1] at halz1 ⊢
         rw[hz1] at gz1
         have HBz1:=hD0 (show z1.cell? ⟨B1,0,none⟩=some (.int .i64 y)∧B1<z1.heap.size from⟨Z2 (j:=0) halz1,Z2c halz1⟩)
         have HLz1:=hD0 (show y4.heap.size≤B1 from Nat.le_of_eq hB1)
         have Hz1:=hD0 gz1
         clear hz1 hB1 halz1 gz1
         have HF1:=hD0 (HF4.out.nwr Hz1.out)
         refine hK _ _ (.inr (HCl.out z1 HF1.out.nw)) ?_
         clear hK K
         (try simp only[Act.put,List.getElem_toArray,List.getElem_cons_zero,List.getElem_cons_succ,List.setIfInBounds_toArray,List.set_cons_zero,List.set_cons_succ])
         refine Z3 6 (by kernel_rfl) rfl (fun K hK=>?_)
         rw[if_pos (by rfl)]
         (try simp only[List.getElem_toArray,List.getElem_cons_zero,List.getElem_cons_succ])
         go_simp
         have halz2:=Z4 z1 (.cells #[.int .i64 y] 3)
         have gz2:Nw z1 (z1.alloc (.cells #[.int .i64 y] 3)):=(Nw.refl _).alloc _
         obtain⟨z2,hz2⟩:∃x,z1.alloc (.cells #[.int .i64 y] 3)=x:=⟨_,rfl⟩
         obtain⟨B2,hB2⟩:∃x,z1.heap.size=x:=⟨_,rfl⟩
         rw[hz2,hB2] at halz2 ⊢
         rw[hz2] at gz2
         have HBz2:=hD0 (show z2.cell? ⟨B2,0,none⟩=some (.int .i64 y)∧B2<z2.heap.size from⟨Z2 (j:=0) halz2,Z2c halz2⟩)
         have HLz2:=hD0 (show z1.heap.size≤B2 from Nat.le_of_eq hB2)
         have Hz2:=hD0 gz2
         clear hz2 hB2 halz2 gz2
         have HF2:=hD0 (HF1.out.nwr Hz2.out)
         have HB:=hD0 HBz2.out.1
         refine hK _ _ (.inr (HCl.out z2 HF2.out.nw)) ?_
         clear hK K
         (try simp only[Act.put,List.getElem_toArray,List.getElem_cons_zero,List.getElem_cons_succ,List.setIfInBounds_toArray,List.set_cons_zero,List.set_cons_succ])
         obtain⟨ga,cc,w6,hr7,hF7,hT7⟩:=Vx.push8 (HF2.out) (by have:=HLn.out.2.1;omega) y B2 HB.out
         have HR7:=hD0 hr7
         have HF7:=hD0 (aI0 hF7 hT7)
         clear hr7 hF7 hT7
         have HB2:=hD0 (show w6.cell? ⟨B1,0,none⟩=some (.int .i64 y) from(HF7.out.2.cell (lL0 HBz1.out.2 Hz2.out.sz) (fun e=>by have h1:=Uo HF4.out.o8 e;have h2:=HLz1.out;omega) (o:=0)).trans (Hz2.out.kp HBz1.out.1))
         refine Z3 7 (by kernel_rfl) rfl (fun K hK=>?_)
         refine Yh (by rfl) (.tmp 51) (.tmp 57) 25 rfl _ _ _ _ rfl rfl HR7.out ?_
         refine hK _ _ (.inr (HCl.out w6 HF7.out.1.nw)) ?_
         clear hK K
         (try simp only[Act.put,List.getElem_toArray,List.getElem_cons_zero,List.getElem_cons_succ,List.setIfInBounds_toArray,List.set_cons_zero,List.set_cons_succ])
         obtain⟨gd,cd,w8,hr15,hF15⟩:=Vx.push10 (HF7.out.1) (by have:=HLn.out.2.2;omega) y B1 HB2.out
         have HR15:=hD0 hr15
         have HE:=hD0 (show Hid (Vx w0 now (sn++[y]) (nx++[y]) (.slice a7 b7 c7) (.slice (some ⟨ga,0,none⟩) (sn.length+1) cc) (.slice (some ⟨gd,0,none⟩) (nx.length+1) cd) w8∧LvJ l a b n now seen (sn++[y]) (nx++[y]) i1∧(sn++[y]).length=sn.length+1∧(nx++[y]).length=nx.length+1) from hD0 ⟨hF15,HPs.out,by rw[List.length_append];rfl,by rw[List.length_append];rfl⟩)
         have hS15:=HCl.out w8 hF15.nw
         have HS15:=hD0 hS15
         clear hr15 hF15 hS15
         refine Z3 15 (by kernel_rfl) rfl (fun K hK=>?_)
         refine Yh (by rfl) (.tmp 59) (.tmp 65) 25 rfl _ _ _ _ rfl rfl HR15.out ?_
         refine hK _ _ (.inr (HS15.out)) ?_
         clear hK K
         (try simp only[Act.put,List.getElem_toArray,List.getElem_cons_zero,List.getElem_cons_succ,List.setIfInBounds_toArray,List.set_cons_zero,List.set_cons_succ])
         refine Z0 16 rfl (by kernel_rfl) (by kernel_rfl) (by kernel_rfl) (fun v c a w h=>h) ?_
         (first | (refine⟨undef,Or.inr ⟨by rfl,rfl⟩,?_⟩) | (apply Exists.intro;refine⟨Or.inl ⟨by rfl,?_⟩,?_⟩;(intro x hx';go_simp;first | done | with_reducible rfl)))
         (try simp only[Act.put,List.getElem_toArray,List.getElem_cons_zero,List.getElem_cons_succ,List.setIfInBounds_toArray,List.set_cons_zero,List.set_cons_succ])
         refine Z0 17 rfl (by kernel_rfl) (by kernel_rfl) (by kernel_rfl) (fun v c a w h=>h) ?_
         (first | (refine⟨undef,Or.inr ⟨by rfl,rfl⟩,?_⟩) | (apply Exists.intro;refine⟨Or.inl ⟨by rfl,?_⟩,?_⟩;(intro x hx';go_simp;first | done | with_reducible rfl)))
         (try simp only[Act.put,List.getElem_toArray,List.getElem_cons_zero,List.getElem_cons_succ,List.setIfInBounds_toArray,List.set_cons_zero,List.set_cons_succ])
         refine Z5 (by kernel_rfl) ?_ _
         refine NoPanic.normal ?_
         (try simp only[Act.put,List.getElem_toArray,List.getElem_cons_zero,List.getElem_cons_succ,List.setIfInBounds_toArray,List.set_cons_zero,List.set_cons_succ])
         clear hS0
         go_wp2_with fail
         exact⟨⟨i1,sn++[y],nx++[y],_,_,_,_,_,_,rfl,rfl,rfl,by rw[←HI1.out.1];exact HI1.out.2,HE.out⟩,by rw[←HI1.out.1];exact Zk HI1.out.2⟩
    ·obtain rfl:i=N:=Nat.le_antisymm hiN (Nat.le_of_not_lt hlt)
     have Zr:¬i<i:=Nat.lt_irrefl i
     have hsl:sn.length≤i:=by rw[←HN.out];exact HJ.out.2.1.len
     have hsa:b8'=b8+b10:=by
      rw[←HJ.out.2.2.1,←HJ.out.2.2.2,←HT.out.2.2.1,HJ.out.2.1.sn,List.length_append]
     have HM:=hD0 (show 2*(i-b8')+Z4p b10<2*(i-b8)+Z4p b7 from by
      rw[hsa]
      exact Z66 HT.out.2.2.2.2 (by rw[←hsa,←HJ.out.2.2.1];exact hsl))
     have HR:=hD0 (show n2≤i+2∧Vx w0 nx sn [] (.slice a10 b10 c10) (.slice a8' b8' c8') (.slice none 0 0) wr∧LvI l a b (n+1) nx sn∧n2=n+1+1∧nx.length=b10∧sn.length=b8'∧n+1≤sn.length+1∧(0<b10→n+1≤sn.length)∧nx.length≤i+1 from by
      have h1:=HT.out.1
      have h2:=HN2.out
      have h3:=HT.out.2.1
      have h4:=HJ.out.2.2
      have h5:=HT.out.2.2.1
      refine⟨by omega,HJ.out.1.turn,?_,by omega,h4.2,h4.1,by omega,fun _=>by omega,by omega⟩
      have:=HJ.out.2.1
      rw[←HN.out] at this
      exact this.next)
     clear hlt HJ hsl hsa
     go_wp2_with fail
     exact⟨⟨n+1,n2,nx,sn,_,_,_,_,_,_,rfl,rfl,rfl,HR.out.1,hD0 HR.out.2⟩,HM.out⟩
structure GrW(W0 w1:World)(s:List (Int × Int))(a:Int)(N:Nat)(r:List Int)(last:Int)(n:Nat)(v:Value)(w:World):Prop where
 inv:GrI s a N r last n
 own:InO w W0.heap.size v (a::r)
 nw:Nw w1 w
theorem GrI.lastAt{s:List (Int × Int)}{a:Int}{N:Nat}{r:List Int}{last:Int}{n:Nat}(h:GrI s a N r last n):∃h:r.length<(a::r).length,(a::r)[r.length]=last:=by
 refine⟨by simp,?_⟩
 have:=h.la
 rw[List.getLast?_eq_getElem?] at this
 simp only[List.length_cons,Nat.add_sub_cancel] at this
 obtain⟨h1,h2⟩:=List.getElem?_eq_some_iff.1 this
 exact h2
def NoK(s:List (Int × Int))(last a:Int)(m k:Nat):Prop:=∀j,(hj:j<s.length)→j<k→¬(s[j].1=last∧Vh s s[j].2 a m)
theorem NoK.zero(s:List (Int × Int))(last a:Int)(m:Nat):NoK s last a m 0:=fun j _ h=>absurd h (Nat.not_lt_zero j)
theorem NoK.succ{s:List (Int × Int)}{last a:Int}{m k:Nat}(h:NoK s last a m k)(hk:k<s.length)(n:¬(s[k].1=last∧Vh s s[k].2 a m)):NoK s last a m (k+1):=fun j hj hjk=>by
 rcases Nat.lt_or_ge j k with c | c
 ·exact h j hj c
 ·obtain rfl:j=k:=by omega
  exact n
theorem GrW.push{W0 w1 w z:World}{s:List (Int × Int)}{a:Int}{N:Nat}{r:List Int}{last:Int}{n:Nat}{v:Value}(h:GrW W0 w1 s a N r last (n+2) v w)(hW:W0.heap.size≤w1.heap.size)(hl:r.length<90000)(hs:Zj s){k:Nat}(hk:k<s.length){q:Int}(h1:s[k].1=last)(hq:s[k].2=q)(h2:Vh s s[k].2 a (n+1))(h3:NoK s last a (n+1) k)(g:Nw w z)(hz:w1.heap.size≤W0.heap.size) :
  ∃ga cc w6,(Builtin.append_ #[25,25] 25 #[v,.slice (some ⟨z.heap.size,0,none⟩) 1 1]).run prog (z.alloc (.cells #[.int .i64 q] 3))=.ok (.slice (some ⟨ga,0,none⟩) ((a::r).length+1) cc) w6∧GrW W0 w1 s a N (r++[q]) q (n+1) (.slice (some ⟨ga,0,none⟩) ((a::r).length+1) cc) w6:=by
 have hal:=Z4 z (.cells #[.int .i64 q] 3)
 have g6:Nw w (z.alloc (.cells #[.int .i64 q] 3)):=g.trans ((Nw.refl z).alloc _)
 obtain⟨v',w6,hr,hO,hg,_,ga,cc,rfl⟩:=Zt.push Yk (Yq h.own g6) q z.heap.size 1 (fun j u hu=>by
  rw[Z2 hal]
  simpa [Yg] using hu) (by simp;omega) (Nat.le_trans hW (h.nw.trans g6).sz)
 refine⟨ga,cc,w6,hr,?_,hO,(h.nw.trans g6).gro hg (fun b e=>Nat.le_trans hz (Vg h.own e))⟩
 have:=h.inv.step hs hk h1 h2 (fun j hj q=>h3 j hj q)
 rwa [hq] at this
theorem Z05{w0:World}{v:Value}{l:List (Int × Int)}(h:Zw w0 v l)(hl:l.length≤900) :
  Calls prog 7 #[v] w0 fun e w'=>∃v' c b,e=.returned (.tuple #[v',.bool b])∧IS w' v' c∧V5 l c b∧Nw w0 w':=by
 have HS:=hD0 (Vd h (Nat.le_trans hl (by decide)))
 have hsl:=Nat.le_trans (Y6 l) hl
 have HSS:=hD0 (Yx l)
 have HUn:=hD0 (fun(c:List Int) (b:Bool) (q:V5 (sortE l) c b)=>q.unsort)
 obtain⟨la,lc,rfl,hd⟩:=h
 clear hd
 obtain⟨s,hs⟩:∃s,sortE l=s:=⟨_,rfl⟩
 rw[hs] at HS hsl HSS HUn
 clear hs
 go_enter func7,ntmps7
 go_wp2_with fail
 refine HS.out.mono ?_
 rintro e w1 ⟨v1,rfl,hO1,g1⟩
 obtain⟨sa,sc,rfl,hd1⟩:=Z6.at_ hO1
 obtain⟨M,hM⟩:∃M,s.length=M:=⟨_,rfl⟩
 have HM:=hD0 hM
 have HD:=hD0 hd1
 have HG1:=hD0 g1
 have HFar:=hD0 (fun(z:World) (g:Nw w1 z) (x y:Int)=>Z6w ((Z6.at_ hO1).nw g) hsl x y)
 rw[hM] at hsl HFar ⊢
 clear hO1 hd1 hM g1 HS
 go_wp2_with fail
 go_loopw [4] (fun v wr=>∃i:Nat,v=.int .i64 i∧i≤M∧Hid (CyI s i∧Nw w1 wr)) (fun v _=>M-(intOf v).toNat)
 case atStart=>exact⟨0,rfl,Nat.zero_le _,hD0 ⟨CyI.zero s,Nw.refl _⟩⟩
 case round =>
  obtain⟨i,rfl,hi,HI⟩:=hrel
  by_cases hlt:i<M
  ·have hil:i<s.length:=by rw[HM.out];exact hlt
   rcases HD.out with⟨q,_⟩ | ⟨eb,eo,rfl,hrc⟩
   ·rw[q] at hil;simp at hil
   obtain⟨x0,xx⟩:=(hrc.nw HI.out.2).eg hil
   clear xx
   have hebl:=(hrc.nw HI.out.2).lt
   obtain⟨x,hx⟩:∃x,s[i].1=x:=⟨_,rfl⟩
   rw[hx] at x0
   have HXi:=hD0 (show ∃h:i<s.length,s[i].1=x from⟨hil,hx⟩)
   have HRc:=hD0 hrc
   have HF0:=hD0 (HFar.out wr HI.out.2 x x)
   have Zr:=Zo hlt
   have hw:=Zn i (i+1) (by omega) rfl
   obtain⟨i1,hi1⟩:∃m,i+1=m:=⟨_,rfl⟩
   have HI1:=hD0 (aI0 hi1 hlt)
   rw[hi1] at hw
   clear hi1 hil hrc hlt hx
   go_wp2_with fail
   clear x0 hebl
   refine HF0.out.mono ?_
   rintro e w4 ⟨f,rfl,hF,hf9,g4⟩
   have HG4:=hD0 (HI.out.2.trans g4)
   rcases hF with⟨n,rfl,hn0,hF⟩ | ⟨rfl,hR⟩
   rotate_left
   ·have HR:=hD0 (show CyI s i1∧Nw w1 w4 from⟨by
     obtain⟨h1,h2⟩:=HXi.out
     rw[←HI1.out.1]
     exact HI.out.1.succ h1 (by rw[h2];exact hR),HG4.out⟩)
    clear hR g4 HF0 hf9
    go_wp2_with fail
    exact⟨⟨i1,rfl,by rw[←HI1.out.1];exact HI1.out.2,HR⟩,by rw[←HI1.out.1];exact Zk HI1.out.2⟩
   ·have dn:decide ((n:Int)<0)=false:=by rw[decide_eq_false_iff_not];omega
    have HFF:=hD0 hF
    have HMin:=hD0 (show ∀v,Ya s v v→x≤v from fun v r=>by
     obtain⟨h1,h2⟩:=HXi.out
     rw[←h2]
     exact HI.out.1.least HSS.out h1 r)
    have hnM:n≤1000:=by omega
    clear hF g4 HF0 HI hf9
    go_upto_region 9 with fail
    have hal:=Z4 w4 (.cells #[.int .i64 x] 3)
    have g5:Nw w4 (w4.alloc (.cells #[.int .i64 x] 3)):=(Nw.refl _).alloc _
    have hw5:=Z47 Yk w4 [x] (by simp)
    obtain⟨w5,hw5'⟩:∃z,w4.alloc (.cells #[.int .i64 x] 3)=z:=⟨_,rfl⟩
    have hw5'':w4.alloc (.cells ⟨Z8 Yg [x]⟩ 3)=w5:=hw5'
    rw[hw5''] at hw5
    rw[hw5'] at g5 ⊢
    have HW0:=hD0 (show GrW w1 w1 s x n [] x n (.slice (some ⟨w4.heap.size,0,none⟩) 1 1) w5 from⟨GrI.start HFF.out,Z0k hw5 (fun b e=>Nat.le_trans HG4.out.sz (Vg hw5 e)),HG4.out.trans g5⟩)
    clear hal g5 hw5 hw5' hw5''
    go_wp2_with fail
    go_loopw [6,7] (fun v6 v7 wr=>∃(n' j b:Nat) (r:List Int) (last:Int) (a7:Option Addr) (c7:Nat),v6=.int .i64 n'∧v7=.slice a7 b c7∧n'≤1000∧b=j+1∧Hid (GrW w1 w1 s x n r last n' (.slice a7 b c7) wr∧j=r.length)) (fun v6 _ _=>(intOf v6).toNat)
    case atStart=>exact⟨n,0,1,[],x,_,_,rfl,rfl,hnM,rfl,hD0 ⟨HW0.out,rfl⟩⟩
    case round =>
     clear HW0
     obtain⟨n',j,b,r,last,a7,c7,rfl,rfl,hn',hbj,HJ⟩:=hrel
     by_cases h1:1<n'
     rotate_left
     ·have d1:decide ((1:Int)<(n':Int))=false:=by rw[decide_eq_false_iff_not];omega
      have d2:decide (1<n')=false:=decide_eq_false h1
      have HR:=hD0 (show IS wr (.slice a7 b c7) (x::r)∧V5 l (x::r) true∧Nw w0 wr from⟨Zt.is HJ.out.1.own,HUn.out _ _ (by
       have hp:=HJ.out.1.inv.pos
       obtain rfl:n'=1:=by omega
       exact HJ.out.1.inv.done HMin.out HFF.out),HG1.out.trans HJ.out.1.nw⟩)
      clear h1 HJ hbj
      go_wp2_with fail
      refine bodyPost_ret (v:=.tuple #[.slice a7 b c7,.bool true]) (by simp[results,results7,go_sem, *]) rfl ?_
      exact⟨_,x::r,true,rfl,HR.out.1,HR.out.2.1,HR.out.2.2⟩
     ·obtain⟨m,hm⟩:∃m,n'=m+2:=⟨n'-2,by omega⟩
      have d1:decide ((1:Int)<(n':Int))=true:=by rw[decide_eq_true_iff];omega
      have d2:decide (1<n')=true:=decide_eq_true h1
      obtain⟨m1,hm1⟩:∃x,m+1=x:=⟨_,rfl⟩
      have hdn:=V3 n' m1 (by omega) (by omega)
      have hdb:=V3 b j (by
       have hh:=HJ.out.1.inv.len
       have hj:=HJ.out.2
       omega) hbj
      have HH:=hD0 (show GrW w1 w1 s x n r last (m+2) (.slice a7 b c7) wr from hm▸HJ.out.1)
      have HMm:=hD0 (show n'=m+2∧m+1=m1 from⟨hm,hm1⟩)
      have HB:=hD0 (show b=j+1∧j=r.length∧r.length≤1000 from⟨hbj,HJ.out.2,by have:=HJ.out.1.inv.len;omega⟩)
      have hbl:(x::r).length=b:=by rw[List.length_cons,hbj,HJ.out.2]
      obtain⟨ga0,ca0,e7,hb7⟩:=(Zt.is HJ.out.1.own).box
      simp only[Value.slice.injEq] at e7
      obtain⟨rfl,hbx,rfl⟩:=e7
      clear hbx
      obtain⟨bg,rfl,_⟩:=hb7 (by simp)
      obtain⟨hj1,hj2⟩:=HJ.out.1.inv.lastAt
      have cl:=Z1b (Zt.is HJ.out.1.own) hj1
      rw[hj2,←HJ.out.2] at cl
      have hjb:j<b:=by omega
      have hjb':(j:Int)<(b:Int):=Int.ofNat_lt.2 hjb
      have hbl0:bg<wr.heap.size:=Uo HJ.out.1.own rfl
      have HW:=hD0 HJ.out.1.nw
      clear h1 HJ hbl hb7 hj1 hj2 hm hm1 hbj
      go_wp2_with fail
      generalize wr=w8 at *
      go_loopw [7,9] (fun v7 v9 wr=>∃k:Nat,v7=.slice (some ⟨bg,0,none⟩) b c7∧v9=.int .i64 k∧k≤M∧Hid (NoK s last x m1 k∧Nw w8 wr)) (fun _ v9 _=>M-(intOf v9).toNat)
      case atStart=>exact⟨0,rfl,rfl,Nat.zero_le _,hD0 ⟨NoK.zero _ _ _ _,Nw.refl _⟩⟩
      case round =>
       obtain⟨k,rfl,rfl,hk,HK⟩:=hrel
       by_cases hkM:k<M
       ·have hkl:k<s.length:=by rw[HM.out];exact hkM
        have hrw:=HRc.out.nw (HW.out.trans HK.out.2)
        obtain⟨x0,x1⟩:=hrw.eg hkl
        have hel:=hrw.lt
        obtain⟨t,ht⟩:∃t,s[k]=t:=⟨_,rfl⟩
        have HTk:=hD0 (show ∃h:k<s.length,s[k]=t from⟨hkl,ht⟩)
        simp only[ht] at x0 x1
        obtain⟨p,q⟩:=t
        simp only at x0 x1
        have HX:=hD0 (show ∀z,Nw wr z→z.cell? ⟨eb,eo+k*2,none⟩=some (.int .i64 p)∧z.cell? ⟨eb,eo+k*2+1,none⟩=some (.int .i64 q)∧eb<z.heap.size from fun z g=>⟨g.kp x0,g.kp x1,lL0 hel g.sz⟩)
        have hkM':=Zo hkM
        have hwk:=Zn k (k+1) (by omega) rfl
        obtain⟨k1,hk1⟩:∃m,k+1=m:=⟨_,rfl⟩
        have HK1:=hD0 (aI0 hk1 hkM)
        rw[hk1] at hwk
        have HSkip:=hD0 (show ¬(p=last∧Vh s q x m1)→NoK s last x m1 k1 from fun h=>by
         obtain⟨h1,h2⟩:=HTk.out
         rw[←HK1.out.1]
         exact HK.out.1.succ h1 (by rw[h2];exact h))
        have HFr:=hD0 (HFar.out wr (HW.out.trans HK.out.2) q x)
        clear hk1 hkl hrw hkM ht
        by_cases hp:p=last
        rotate_left
        ·have dp:(p==last)=false:=by simpa using hp
         have HR:=hD0 (aI0 (HSkip.out (fun h=>hp h.1)) HK.out.2)
         clear hp HSkip HK HFr
         go_wp2_with fail
         exact⟨⟨k1,rfl,rfl,by rw[←HK1.out.1];exact HK1.out.2,HR⟩,by rw[←HK1.out.1];exact Zk HK1.out.2⟩
        ·have dp:(p==last)=true:=by simpa using hp
         go_wp2_with fail
         clear x0 x1 hel
         refine HFr.out.mono ?_
         rintro e w9 ⟨f,rfl,hF,_,g9⟩
         have HG9:=hD0 g9
         have hof:=hF.of (n:=m1) (by rw[←HMm.out.2];exact Nat.succ_pos m)
         by_cases hf:f=(m1:Int)
         rotate_left
         ·have df:(f==(m1:Int))=false:=by simpa using hf
          have HR:=hD0 (show NoK s last x m1 k1∧Nw w8 w9 from⟨HSkip.out (fun h=>hf (hof.2 h.2)),HK.out.2.trans g9⟩)
          clear hf hF hof g9 HSkip HK HFr hp
          go_wp2_with fail
          exact⟨⟨k1,rfl,rfl,by rw[←HK1.out.1];exact HK1.out.2,HR⟩,by rw[←HK1.out.1];exact Zk HK1.out.2⟩
         ·have df:(f==(m1:Int))=true:=by simpa using hf
          obtain⟨ga,cc,w6,hr6,hW6⟩:=HH.out.push (z:=w9) (q:=q) (Nat.le_refl _) (Nat.lt_of_le_of_lt HB.out.2.2 (by decide)) HSS.out HTk.out.1 (by rw[HTk.out.2];exact hp) (by rw[HTk.out.2]) (by rw[HTk.out.2,HMm.out.2];exact hof.1 hf) (by rw[HMm.out.2];exact HK.out.1) (HK.out.2.trans g9) (Nat.le_refl _)
          have HR:=hD0 (show GrW w1 w1 s x n (r++[q]) q m1 (.slice (some ⟨ga,0,none⟩) (b+1) cc) w6∧m1≤1000∧b+1=b+1∧b=(r++[q]).length from⟨by
           rw[←HMm.out.2]
           have e:(x::r).length=b:=by rw[List.length_cons,HB.out.1,HB.out.2.1]
           rw[e] at hW6
           exact hW6,by have:=HMm.out;omega,rfl,by rw[List.length_append,List.length_singleton,HB.out.1,HB.out.2.1]⟩)
          have HR6:=hD0 (show(Builtin.append_ #[25,25] 25 #[.slice (some ⟨bg,0,none⟩) b c7,.slice (some ⟨w9.heap.size,0,none⟩) 1 1]).run prog (w9.alloc (.cells #[.int .i64 q] 3))=.ok (.slice (some ⟨ga,0,none⟩) (b+1) cc) w6 from by
           have e:(x::r).length=b:=by rw[List.length_cons,HB.out.1,HB.out.2.1]
           rw[e] at hr6
           exact hr6)
          have HDn:=hD0 (show m1<n' from by have:=HMm.out;omega)
          obtain⟨x0,x1,hel⟩:=HX.out w9 g9
          clear hf hF hof g9 HSkip HK HFr hp hr6 hW6 HH
          go_wp2_with (at_builtin;refine Z7 (by rfl) (.tmp 67) (.tmp 73) 25 rfl _ _ _ _ rfl rfl HR6.out ?_)
          exact⟨⟨m1,b,b+1,r++[q],q,_,_,rfl,rfl,HR.out.2.1,rfl,hD0 ⟨HR.out.1,HR.out.2.2.2⟩⟩,HDn.out⟩
       ·exfalso
        obtain rfl:k=M:=Nat.le_antisymm hk (Nat.le_of_not_lt hkM)
        refine HH.out.inv.has (fun j hj=>?_)
        rw[HMm.out.2]
        exact HK.out.1 j hj (by rw[←HM.out];exact hj)
  ·obtain rfl:i=M:=Nat.le_antisymm hi (Nat.le_of_not_lt hlt)
   have Zr:¬i<i:=Nat.lt_irrefl i
   have HR:=hD0 (show V5 l [] false∧Nw w0 wr from⟨HUn.out _ _ (Z3z (by
    have:=HI.out.1
    rw[←HM.out] at this
    exact this.done)),HG1.out.trans HI.out.2⟩)
   clear hlt HI
   go_wp2_with fail
   refine bodyPost_ret (v:=.tuple #[.slice none 0 0,.bool false]) (by simp[results,results7,go_sem, *]) rfl ?_
   exact⟨_,[],false,rfl,IS.nil _,HR.out.1,HR.out.2⟩
theorem Z1g{w0:World}{v:Value}{l:List (Int × Int)}(h:Zw w0 v l)(hl:l.length≤900) :
  Calls prog 10 #[v] w0 fun e w'=>∃c b,e=.returned (.bool (!b))∧V5 l c b∧Nw w0 w':=by
 have HC:=hD0 (Z05 h hl)
 obtain⟨la,lc,rfl,hd⟩:=h
 clear hd
 go_enter func10,ntmps10
 go_wp2_with fail
 refine HC.out.mono ?_
 rintro e w1 ⟨v1,c,b,rfl,hI,hP,g1⟩
 have HR:=hD0 (aI0 hP g1)
 clear hI hP g1 HC
 go_wp2_with fail
 go_ret
 exact⟨c,b,rfl,HR.out.1,HR.out.2⟩
def HB(w:World)(B:Nat)(t r:Int)(v:Value)(W:Int):Prop:=w.heap[B]?=some (.cells #[.int .i64 t,.int .i64 r,v,.int .i64 W] 66)
section
open Go.ChangeShapes Go.WideShapes Go.ChangeAt Go.RowKit Go.Deep
theorem Z42{α:Type}{n:Nat}{Q:Nat→α→Prop}(h:∀i,i<n→∃x,Q i x):∃l:List α,l.length=n∧∀i (hi:i<l.length),Q i l[i]:=by
 induction n with
 | zero=>exact⟨[],rfl,fun i hi=>by simp at hi⟩
 | succ n ih =>
  obtain⟨l,hl,hq⟩:=ih fun i hi=>h i (by omega)
  obtain⟨x,hx⟩:=h n (by omega)
  refine⟨l++[x],by simp[hl],fun i hi=>?_⟩
  rw[List.length_append,List.length_singleton] at hi
  by_cases q:i<l.length
  ·rw[List.getElem_append_left q];exact hq i q
  ·have:i=n:=by omega
   subst this
   rw[List.getElem_append_right (by omega)]
   simpa using hx
theorem Zau{cs:List Value}(h:cs.length=4):∃v0 v1 v2 v3,cs=[v0,v1,v2,v3]:=by
 match cs,h with
 | [v0,v1,v2,v3],_=>exact⟨v0,v1,v2,v3,rfl⟩
theorem Zav{cs:List Value}(h:cs.length=5):∃v0 v1 v2 v3 v4,cs=[v0,v1,v2,v3,v4]:=by
 match cs,h with
 | [v0,v1,v2,v3,v4],_=>exact⟨v0,v1,v2,v3,v4,rfl⟩
theorem Z37:prog.cellsOf 3=1:=by kernel_rfl
theorem Z4r:prog.cellsOf 67=1:=by kernel_rfl
theorem Z7k:prog.cellsOf 63=2:=by kernel_rfl
theorem Z3x:prog.cellsOf 69=5:=by kernel_rfl
theorem Z7l:prog.cellsOf 64=1:=by kernel_rfl
theorem Z3w:prog.cellsOf 66=4:=by kernel_rfl
section
variable {H:Type} {enc:TypeId × Value→H} {w:World} {base:Nat} {spare:Nat→Bool} {held:Bool}
theorem Yb{α:Type}{xs:List α}{i:Nat}(h:i<xs.length):∃y,xs[i]?=some y:=⟨_,List.getElem?_eq_getElem h⟩
def Z7f(R:Rq):Prop:=(-9223372036854775808≤R.id∧R.id≤9223372036854775807)∧(-9223372036854775808≤R.txn∧R.txn≤9223372036854775807)∧(-9223372036854775808≤R.sn∧R.sn≤9223372036854775807)
theorem Z6j{n:Int}(h:(Lit.int .i64 n).wf=true):-9223372036854775808≤n∧n≤9223372036854775807:=by
 simp[Lit.wf,IntKind.min,IntKind.max,IntKind.signed,IntKind.bits] at h
 omega
theorem Z84{fuel:Nat}{cs:List Value}{x:DataW H × List MemPlace}(h:DataW.trod enc prog w base spare held fuel 69 cs=some x):∃R:Rq,cs=Z08 R∧Z7f R:=by
 obtain⟨xs,n,_,_,hl,hxl,hf⟩:=DataW.trod_struct underlying69 h
 rw[Z3x] at hl
 obtain⟨v0,v1,v2,v3,v4,rfl⟩:=Zav hl
 have f0:DataW.trod enc prog w base spare held n 3 (([v0,v1,v2,v3,v4].drop 0).take (prog.cellsOf 3))=xs[0]?:=hf 0 _ rfl
 have f1:DataW.trod enc prog w base spare held n 3 (([v0,v1,v2,v3,v4].drop 1).take (prog.cellsOf 3))=xs[1]?:=hf 1 _ rfl
 have f2:DataW.trod enc prog w base spare held n 67 (([v0,v1,v2,v3,v4].drop 2).take (prog.cellsOf 67))=xs[2]?:=hf 2 _ rfl
 have f3:DataW.trod enc prog w base spare held n 67 (([v0,v1,v2,v3,v4].drop 3).take (prog.cellsOf 67))=xs[3]?:=hf 3 _ rfl
 have f4:DataW.trod enc prog w base spare held n 3 (([v0,v1,v2,v3,v4].drop 4).take (prog.cellsOf 3))=xs[4]?:=hf 4 _ rfl
 simp at hxl
 obtain⟨y0,e0⟩:=Yb (xs:=xs) (i:=0) (by omega)
 obtain⟨y1,e1⟩:=Yb (xs:=xs) (i:=1) (by omega)
 obtain⟨y2,e2⟩:=Yb (xs:=xs) (i:=2) (by omega)
 obtain⟨y3,e3⟩:=Yb (xs:=xs) (i:=3) (by omega)
 obtain⟨y4,e4⟩:=Yb (xs:=xs) (i:=4) (by omega)
 rw[e0] at f0
 rw[e1] at f1
 rw[e2] at f2
 rw[e3] at f3
 rw[e4] at f4
 simp only[Z37,Z4r,List.drop_succ_cons,List.drop_zero,List.take_succ_cons,List.take_zero] at f0 f1 f2 f3 f4
 obtain⟨a0,q0,_,u0⟩:=DataW.trod_int underlying3 f0
 obtain⟨a1,q1,_,u1⟩:=DataW.trod_int underlying3 f1
 obtain⟨a2,q2,_,u2⟩:=DataW.trod_int underlying67 f2
 obtain⟨a3,q3,_,u3⟩:=DataW.trod_int underlying67 f3
 obtain⟨a4,q4,_,u4⟩:=DataW.trod_int underlying3 f4
 obtain rfl:=(List.cons.inj q0).1
 obtain rfl:=(List.cons.inj q1).1
 obtain rfl:=(List.cons.inj q2).1
 obtain rfl:=(List.cons.inj q3).1
 obtain rfl:=(List.cons.inj q4).1
 exact⟨⟨a0,a1,a2,a3,a4⟩,rfl,Z6j u0,Z6j u1,Z6j u4⟩
theorem Z6m{fuel:Nat}{v:Value}{x:DataW H × List MemPlace}(h:DataW.trod enc prog w base spare held fuel 64 [v]=some x):∃l,Ue w v l∧Z3v v∧∀R∈l,Z7f R:=by
 rcases open_slice underlying64 h with⟨hcs,_⟩ | ⟨a,len,cap,m,n,D,Pl,hcs,_,hl,hm,hmm,_,hi⟩
 ·simp only[List.cons.injEq,and_true] at hcs
  subst hcs
  exact⟨[],Rd.nil w,Nat.le_refl _,fun R hR=>by simp at hR⟩
 ·simp only[List.cons.injEq,and_true] at hcs
  subst hcs
  have hlm:len≤m:=by rw[hmm];split<;>omega
  have each:∀i,i<len→∃R:Rq,Z7f R∧∀j u,(Z08 R)[j]?=some u→w.cell? (a.add (i*5+j))=some u:=by
   intro i hil
   obtain⟨cs',hc,ht⟩:=hi i (by omega)
   rw[Z3x] at hc
   obtain⟨R,rfl,hF⟩:=Z84 ht
   obtain⟨_,hcl,hat⟩:=World.cells?_some hc
   have key:∀j,j<5→w.cell? (a.add (i*5+j))=(Z08 R)[j]?:=fun j hj=>by rw[←Go.Deep.add_add];exact hat j hj
   refine⟨R,hF,fun j u hj=>?_⟩
   have hj6:j<5:=by have:=(List.getElem?_eq_some_iff.1 hj).1;simpa [Z08] using this
   rw[key j hj6];exact hj
  obtain⟨l,hll,hq⟩:=Z42 each
  refine⟨l,?_,hl,fun R hR=>by obtain⟨i,hi,rfl⟩:=List.getElem_of_mem hR;exact(hq i (by omega)).1⟩
  subst hll
  rcases Nat.eq_zero_or_pos l.length with h0 | h0
  ·obtain rfl:=List.length_eq_zero_iff.1 h0
   exact⟨some a,cap,rfl,.inl ⟨rfl,fun e=>by cases e⟩⟩
  ·have hu:=(hq 0 h0).2 0 _ rfl
   obtain⟨b,o,spot⟩:=a
   have hs:spot=none:=by simpa [Addr.add] using World.cell?_spot hu
   subst hs
   refine⟨some ⟨b,o,none⟩,cap,rfl,.inr ⟨b,o,rfl,⟨?_,fun i hi c u hu=>?_⟩⟩⟩
   ·rw[Addr.add_lit] at hu
    exact World.block_lt_of_cell? _ _ hu
   ·have:=(hq i hi).2 c u hu
    rw[Addr.add_lit,←Nat.add_assoc] at this
    exact this
end
end
section
open Go.ChangeShapes Go.WideShapes Go.ChangeAt Go.RowKit Go.Deep
structure Z4m(w:World)(x:Hv):Prop where
 at_:Ue w x.v x.h.q
 cap:Z3v x.v
 fit:∀R∈x.h.q,Z7f R
theorem Z4m.nw{w w':World}{x:Hv}(h:Z4m w x)(g:Nw w w'):Z4m w' x:=⟨h.at_.nw g,h.cap,h.fit⟩
structure HdsIn(w:World)(a:Option Addr)(len cap:Nat)(l:List Hv):Prop where
 hl:l.length=len
 rd:Rd 4 U8 w (.slice a len cap) l
 hc:len≤cap
 all:∀x∈l,Z4m w x
theorem HdsIn.nw{w w':World}{a:Option Addr}{len cap:Nat}{l:List Hv}(h:HdsIn w a len cap l)(g:Nw w w'):HdsIn w' a len cap l:=⟨h.hl,h.rd.nw g,h.hc,fun x hx=>(h.all x hx).nw g⟩
section
variable {H:Type} {enc:TypeId × Value→H} {w:World} {base:Nat} {spare:Nat→Bool} {held:Bool}
theorem Z6l{fuel:Nat}{cs:List Value}{x:DataW H × List MemPlace}(h:DataW.trod enc prog w base spare held fuel 66 cs=some x):∃y:Hv,cs=U8 y∧Z4m w y:=by
 obtain⟨xs,n,_,_,hl,hxl,hf⟩:=DataW.trod_struct underlying66 h
 rw[Z3w] at hl
 obtain⟨v0,v1,v2,v3,rfl⟩:=Zau hl
 have f0:DataW.trod enc prog w base spare held n 63 (([v0,v1,v2,v3].drop 0).take (prog.cellsOf 63))=xs[0]?:=hf 0 _ rfl
 have f1:DataW.trod enc prog w base spare held n 64 (([v0,v1,v2,v3].drop 2).take (prog.cellsOf 64))=xs[1]?:=hf 1 _ rfl
 have f2:DataW.trod enc prog w base spare held n 3 (([v0,v1,v2,v3].drop 3).take (prog.cellsOf 3))=xs[2]?:=hf 2 _ rfl
 simp at hxl
 obtain⟨y0,e0⟩:=Yb (xs:=xs) (i:=0) (by omega)
 obtain⟨y1,e1⟩:=Yb (xs:=xs) (i:=1) (by omega)
 obtain⟨y2,e2⟩:=Yb (xs:=xs) (i:=2) (by omega)
 rw[e0] at f0
 rw[e1] at f1
 rw[e2] at f2
 simp only[Z37,Z7k,Z7l,List.drop_succ_cons,List.drop_zero,List.take_succ_cons,List.take_zero] at f0 f1 f2
 obtain⟨q,hq,hc,hF⟩:=Z6m f1
 obtain⟨a3,q3,_,_⟩:=DataW.trod_int underlying3 f2
 obtain⟨xs',n',_,_,hl',hxl',hf'⟩:=DataW.trod_struct underlying63 f0
 have g0:DataW.trod enc prog w base spare held n' 3 (([v0,v1].drop 0).take (prog.cellsOf 3))=xs'[0]?:=hf' 0 _ rfl
 have g1:DataW.trod enc prog w base spare held n' 3 (([v0,v1].drop 1).take (prog.cellsOf 3))=xs'[1]?:=hf' 1 _ rfl
 simp at hxl'
 obtain⟨z0,r0⟩:=Yb (xs:=xs') (i:=0) (by omega)
 obtain⟨z1,r1⟩:=Yb (xs:=xs') (i:=1) (by omega)
 rw[r0] at g0
 rw[r1] at g1
 simp only[Z37,List.drop_succ_cons,List.drop_zero,List.take_succ_cons,List.take_zero] at g0 g1
 obtain⟨a0,q0,_,_⟩:=DataW.trod_int underlying3 g0
 obtain⟨a1,q1,_,_⟩:=DataW.trod_int underlying3 g1
 obtain rfl:=(List.cons.inj q0).1
 obtain rfl:=(List.cons.inj q1).1
 obtain rfl:=(List.cons.inj q3).1
 exact⟨⟨⟨a0,a1,a3,q⟩,v2⟩,rfl,hq,hc,hF⟩
theorem open_hds{fuel:Nat}{a:Option Addr}{len cap:Nat}{x:DataW H × List MemPlace}(h:DataW.trod enc prog w base spare held fuel 22 (Value.slice a len cap).cells.toList=some x) :
  ∃l,HdsIn w a len cap l:=by
 rcases open_slice underlying22 h with⟨hcs,_⟩ | ⟨ad,len',cap',m,n,D,Pl,hcs,_,hl,hm,hmm,_,hi⟩
 ·simp[Value.cells] at hcs
  obtain⟨rfl,rfl,rfl⟩:=hcs
  exact⟨[],rfl,Rd.nil w,Nat.le_refl _,fun R hR=>by simp at hR⟩
 ·simp[Value.cells] at hcs
  obtain⟨rfl,rfl,rfl⟩:=hcs
  have hlm:len≤m:=by rw[hmm];split<;>omega
  have each:∀i,i<len→∃y:Hv,Z4m w y∧∀j u,(U8 y)[j]?=some u→w.cell? (ad.add (i*4+j))=some u:=by
   intro i hil
   obtain⟨cs',hc,ht⟩:=hi i (by omega)
   rw[Z3w] at hc
   obtain⟨y,rfl,hF⟩:=Z6l ht
   obtain⟨_,hcl,hat⟩:=World.cells?_some hc
   have key:∀j,j<4→w.cell? (ad.add (i*4+j))=(U8 y)[j]?:=fun j hj=>by rw[←Go.Deep.add_add];exact hat j hj
   refine⟨y,hF,fun j u hj=>?_⟩
   have hj6:j<4:=by have:=(List.getElem?_eq_some_iff.1 hj).1;simpa [U8] using this
   rw[key j hj6];exact hj
  obtain⟨l,hll,hq⟩:=Z42 each
  refine⟨l,hll,?_,hl,fun R hR=>by obtain⟨i,hi,rfl⟩:=List.getElem_of_mem hR;exact(hq i (by omega)).1⟩
  subst hll
  rcases Nat.eq_zero_or_pos l.length with h0 | h0
  ·obtain rfl:=List.length_eq_zero_iff.1 h0
   exact⟨some ad,cap,rfl,.inl ⟨rfl,fun e=>by cases e⟩⟩
  ·have hu:=(hq 0 h0).2 0 _ rfl
   obtain⟨b,o,spot⟩:=ad
   have hs:spot=none:=by simpa [Addr.add] using World.cell?_spot hu
   subst hs
   refine⟨some ⟨b,o,none⟩,cap,rfl,.inr ⟨b,o,rfl,⟨?_,fun i hi c u hu=>?_⟩⟩⟩
   ·rw[Addr.add_lit] at hu
    exact World.block_lt_of_cell? _ _ hu
   ·have:=(hq i hi).2 c u hu
    rw[Addr.add_lit,←Nat.add_assoc] at this
    exact this
end
end
structure ScI(w:World)(t r W:Int)(a1:Option Addr)(n1 k1:Nat)(g0 pb rb:Nat)(q:List Rq)(u:Value)(ids:List Int)(q':List Rq)(x:World):Prop where
 isr:IS x u ids
 new:∀g,u.ownBlock=some g→w.heap.size≤g
 own:Z8m x g0 (.slice a1 n1 k1) q'
 len:q'.length=n1
 st:Steps q ids q'
 pb:x.heap[pb]?=some (.cells #[.int .i64 t,.int .i64 r,.slice a1 n1 k1,.int .i64 W] 66 (0,0))
 rb:x.heap[rb]?=some (.cells #[.int .i64 0,.int .i64 0,.slice none 0 0,.int .i64 0] 66 (0,0))
 nw:Nw w x
def Z01(l:List Hv)(n:Nat):Bool:=decide (l.length≤n)&&l.all fun x=>decide (x.h.q.length≤12)
theorem Z54{w0:World}{a:Option Addr}{len cap:Nat}{l:List Hv}(h:HdsIn w0 a len cap l)(n:Nat)(hn:n≤100) :
  Calls prog 40 #[.slice a len cap,.int .i64 n] w0 fun e w'=>e=.returned (.bool (Z01 l n))∧Nw w0 w':=by
 have HH:=hD0 h
 clear h
 by_cases hlen:n<len
 ·have d:decide ((n:Int)<(len:Int))=true:=by rw[decide_eq_true_iff];omega
  have d2:decide (n<len)=true:=by rw[decide_eq_true_iff];exact hlen
  have hf:Z01 l n=false:=by
   unfold Z01
   rw[show decide (l.length≤n)=false from by rw[decide_eq_false_iff_not,HH.out.hl];omega]
   rfl
  rw[hf]
  clear hlen hf
  go_enter func40,ntmps40
  go_wp2_with fail
  go_ret
  exact⟨rfl,Nw.refl _⟩
 ·have d:decide ((n:Int)<(len:Int))=false:=by rw[decide_eq_false_iff_not];omega
  have d2:decide (n<len)=false:=by rw[decide_eq_false_iff_not];exact hlen
  go_enter func40,ntmps40
  go_wp2_with fail
  go_loopw [5] (fun v wr=>∃k:Nat,v=.int .i64 k∧k≤len∧Hid ((∀j,(h:j<l.length)→j<k→l[j].h.q.length≤12)∧Nw w0 wr)) (fun v _=>len-(intOf v).toNat)
  case atStart=>exact⟨0,rfl,Nat.zero_le _,hD0 ⟨fun j _ h=>absurd h (Nat.not_lt_zero j),Nw.refl _⟩⟩
  case round =>
   obtain⟨k,rfl,hk,HI⟩:=hrel
   by_cases hlt:k<len
   ·have hkl:k<l.length:=by rw[HH.out.hl];exact hlt
    have hin:=HH.out.nw HI.out.2
    obtain⟨a',c',e',hed⟩:=hin.rd
    simp only[Value.slice.injEq] at e'
    obtain⟨rfl,_,rfl⟩:=e'
    rcases hed with⟨q,_⟩ | ⟨eb,eo,rfl,hrw⟩
    ·rw[q] at hkl;simp at hkl
    obtain⟨qa,qc,hqv⟩:=(hin.all _ (gM0 hkl)).at_.form
    have z2:=hrw.cell k hkl 2 l[k].v rfl
    rw[hqv] at z2
    have hebl:=hrw.lt
    obtain⟨m,hm⟩:∃m,l[k].h.q.length=m:=⟨_,rfl⟩
    rw[hm] at z2
    have Zr:=Zo hlt
    have hw:=Zn k (k+1) (by omega) rfl
    obtain⟨k1,hk1⟩:∃m,k+1=m:=⟨_,rfl⟩
    have HK1:=hD0 (aI0 hk1 hlt)
    have HM:=hD0 (show ∃h:k<l.length,l[k].h.q.length=m from⟨hkl,hm⟩)
    rw[hk1] at hw
    clear hk1 hkl hin hrw hqv hm hlt
    by_cases h12:12<m
    ·have dm:decide ((12:Int)<(m:Int))=true:=by rw[decide_eq_true_iff];omega
     have dm2:decide (12<m)=true:=by rw[decide_eq_true_iff];exact h12
     have hf:Z01 l n=false:=by
      obtain⟨h1,h2⟩:=HM.out
      unfold Z01
      rw[show(l.all fun x=>decide (x.h.q.length≤12))=false from by
       rw[List.all_eq_false]
       exact⟨_,gM0 h1,by rw[h2];simp;exact h12⟩,Bool.and_false]
     have HF:=hD0 hf
     clear hf h12
     go_wp2_with fail
     go_ret
     exact⟨by rw[HF.out];rfl,HI.out.2⟩
    ·have dm:decide ((12:Int)<(m:Int))=false:=by rw[decide_eq_false_iff_not];omega
     have dm2:decide (12<m)=false:=by rw[decide_eq_false_iff_not];exact h12
     have HI2:=hD0 (show ∀j,(h:j<l.length)→j<k1→l[j].h.q.length≤12 from fun j hj hjk=>by
      rw[←HK1.out.1] at hjk
      rcases Nat.lt_or_ge j k with q | q
      ·exact HI.out.1 j hj q
      ·obtain rfl:j=k:=by omega
       obtain⟨h1,h2⟩:=HM.out
       rw[h2];omega)
     have HN:=hD0 HI.out.2
     clear h12 HI
     go_wp2_with fail
     exact⟨⟨k1,rfl,by rw[←HK1.out.1];exact HK1.out.2,hD0 ⟨HI2.out,HN.out⟩⟩,by rw[←HK1.out.1];exact Zk HK1.out.2⟩
   ·obtain rfl:k=len:=Nat.le_antisymm hk (Nat.le_of_not_lt hlt)
    have Zr:¬k<k:=Nat.lt_irrefl k
    have HT:=hD0 (show Z01 l n=true from by
     unfold Z01
     rw[show decide (l.length≤n)=true from by rw[decide_eq_true_iff,HH.out.hl];omega,Bool.true_and,List.all_eq_true]
     intro x hx
     obtain⟨j,hj,rfl⟩:=List.getElem_of_mem hx
     exact decide_eq_true (HI.out.1 j hj (by rw[←HH.out.hl];exact hj)))
    have HN:=hD0 HI.out.2
    clear hlt HI
    go_wp2_with fail
    go_ret
    exact⟨by rw[HT.out];rfl,HN.out⟩
end Go.Proofs.YtobnolgphljoeaaGreat
