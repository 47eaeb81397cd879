/- Texts merged: BkZN, TdG, TdH, TdI, TdJ, QuW, TdK, BkZH, TdL -/
import Derived.Test.YtpffldfpabglbaaGreatDoorTableScriptB21
set_option linter.unusedVariables false
set_option maxRecDepth 100000
set_option maxHeartbeats 16000000
namespace Go.Proofs.YtpffldfpabglbaaGreatDoor
open Go.RowKit _root_.Go.Proofs.Tryz
theorem Ztc(w:World)(n:Int)(po:Nat)(hpo:po<w.heap.size)(T:TypeId):Rb (w.alloc (.cells #[.int .i64 n,.pointer (some ⟨po,0,none⟩),.slice none 0 0] T)) w.heap.size po n (.slice none 0 0) []:=by
 have h:=Z1 w (.cells #[.int .i64 n,.pointer (some ⟨po,0,none⟩),.slice none 0 0] T)
 exact⟨Z0 h,Z0 h,Z0 h,fun j=>hfz h,hlt h,hpo,⟨rfl,.inl ⟨rfl,rfl⟩⟩,fun x hx=>by simp at hx,Nat.zero_le _⟩
theorem Zxm(n:Nat)(h1:1≤n)(h2:n≤64)(po:Nat)(w:World)(hpo:po<w.heap.size) :
  Calls prog 47 #[.int .i64 n,.pointer (some ⟨po,0,none⟩)] w fun e w'=>∃o,e=.returned (.tuple #[.pointer (some ⟨o,0,none⟩),.int .i64 0])∧w.heap.size≤o∧Rb w' o po n (.slice none 0 0) []∧Nw w w':=by
 have HR:=hD0 (Ztc w n po hpo 141)
 have HN:=hD0 ((Nw.refl w).alloc (.cells #[.int .i64 n,.pointer (some ⟨po,0,none⟩),.slice none 0 0] 141))
 have d1:decide ((n:Int)<1)=false:=by simp;omega
 have d2:decide ((64:Int)<(n:Int))=false:=by simp;omega
 have d3:decide (64<n)=false:=by simp;omega
 have d4:¬(n=0):=by omega
 go_enter func47,ntmps47
 go_wp2
 refine bodyPost_ret (v:=.tuple #[.pointer (some ⟨w.heap.size,0,none⟩),.int .i64 0]) (by simp[results,results47,go_sem, *]) rfl ?_
 exact⟨_,rfl,Nat.le_refl _,HR.out,HN.out⟩
open Go.Shelf
theorem Zf5:Z29 prog 96 99 1 8 Z3h where
 und:=underlying96
 inf:=by
  have h:(prog.info? 99).map (fun i=>(i.zero.map fun z=>z.cells.size,i.size,i.bytes))=some (some 1,1,8):=by kernel_rfl
  cases e:prog.info? 99 with
  | none=>rw[e] at h;cases h
  | some i =>
   rw[e] at h
   simp only[Option.map_some,Option.some.injEq,Prod.mk.injEq] at h
   obtain⟨h1,h2,h3⟩:=h
   cases ez:i.zero with
   | none=>rw[ez] at h1;cases h1
   | some z=>rw[ez] at h1;exact⟨i,z,rfl,ez,h2,h3,Option.some.inj h1⟩
 pos:=by decide
 byt:=by decide
 len:=fun _=>rfl
 one:=fun a u hu=>by
  simp only[Z3h,List.mem_cons,List.not_mem_nil,or_false] at hu
  subst hu
  rfl
structure Z54(W:World)(o po pg n:Nat)(C:Ud)(v:Value)(bs:List RB)(L:List Bool)(X:World):Prop where
 c0:X.cell? ⟨o,0,none⟩=some (.int .i64 C.s)
 c1:X.cell? ⟨o,1,none⟩=some (.int .i64 C.h)
 c2:X.cell? ⟨o,2,none⟩=some (.int .i64 C.r)
 c3:X.cell? ⟨o,3,none⟩=some (.int .i64 C.p)
 c4:X.cell? ⟨o,4,none⟩=some v
 c5:X.cell? ⟨o,5,none⟩=some (ptN po)
 fz:∀j,X.frozen? ⟨o,j,none⟩=false
 own:Yz 99 1 Z3h X (o+1) v (bs.map RB.o)
 rb:RtB X po pg n bs
 pl:Rp X po pg L
 em:∀b∈bs,b.l=[]∧b.v=.slice none 0 0∧o<b.o∧v.ownBlock≠some b.o
 nw:Nw W X
 op:po<o∧pg<o∧W.heap.size≤po∧W.heap.size≤pg
theorem Z54.ol{W X:World}{o po pg n:Nat}{C:Ud}{v:Value}{bs:List RB}{L:List Bool}(h:Z54 W o po pg n C v bs L X):o<X.heap.size:=World.block_lt_of_cell? _ _ h.c0
theorem Z54.step{W X Y:World}{o po pg n:Nat}{C:Ud}{v:Value}{bs:List RB}{L:List Bool}(h:Z54 W o po pg n C v bs L X)(g:Nw X Y):Z54 W o po pg n C v bs L Y :=
 ⟨g.kp h.c0,g.kp h.c1,g.kp h.c2,g.kp h.c3,g.kp h.c4,g.kp h.c5,fun j=>(g.froz h.ol).trans (h.fz j),onw h.own g,h.rb.nw g,h.pl.nw g,h.em,h.nw.trans g,h.op⟩
theorem Zuw{bs:List RB}{o:Nat}{v:Value}(h:∀b∈bs,b.l=[]∧b.v=.slice none 0 0∧o<b.o∧v.ownBlock≠some b.o):∀b∈bs,∀k,b.in' k→k=b.o:=fun b hb k e=>by
 obtain⟨h1,h2,_⟩:=h b hb
 rcases e with e | e | ⟨x,hx,_⟩
 ·exact e
 ·rw[h2] at e
  cases e
 ·rw[h1] at hx
  cases hx
theorem Z54.push{W X0 X:World}{o po pg n:Nat}{C:Ud}{v:Value}{bs:List RB}{L:List Bool}(h:Z54 W o po pg n C v bs L X0)(gX:Nw X0 X)(hl:bs.length≤100){B:Nat}(hB0:X0.heap.size≤B)(hB:Rb X B po n (.slice none 0 0) []) :
  ∃g cap w3,(Builtin.append_ #[96,96] 96 #[v,.slice (some ⟨X.heap.size,0,none⟩) 1 1]).run prog (X.alloc (.cells #[ptN B] 99))=.ok (.slice (some ⟨g,0,none⟩) (bs.length+1) cap) w3 ∧
   (w3.cell? ⟨o,4,none⟩=some v∧w3.frozen? ⟨o,4,none⟩=false∧o<w3.heap.size)∧Z54 W o po pg n C (.slice (some ⟨g,0,none⟩) (bs.length+1) cap) (bs++[⟨B,.slice none 0 0,[]⟩]) L (w3.setCell ⟨o,4,none⟩ (.slice (some ⟨g,0,none⟩) (bs.length+1) cap))∧∀b,b<o→(w3.setCell ⟨o,4,none⟩ (.slice (some ⟨g,0,none⟩) (bs.length+1) cap)).heap[b]?=X.heap[b]?:=by
 have hol0:=h.ol
 have hrb1:=h.rb.push gX hB0 (by have:=h.op;omega) hB
 have hvlt0:∀b,v.ownBlock=some b→b<X0.heap.size:=fun b e=>olt h.own e
 have hem1:∀b∈bs++[(⟨B,.slice none 0 0,[]⟩:RB)],b.l=[]∧b.v=.slice none 0 0∧o<b.o∧v.ownBlock≠some b.o:=fun b hb=>by
  rcases List.mem_append.1 hb with q | q
  ·exact h.em b q
  ·obtain rfl:b=⟨B,.slice none 0 0,[]⟩:=by simpa using q
   exact⟨rfl,rfl,show o<B by omega,fun e=>by have:=hvlt0 _ e;have e':X0.heap.size≤B:=hB0;simp only at this;omega⟩
 have hX:=h.step gX
 have hol:=hX.ol
 have hal:=Z1 X (.cells #[ptN B] 99)
 have g0:Nw X (X.alloc (.cells #[ptN B] 99)):=(Nw.refl X).alloc _
 obtain⟨y,hy⟩:∃y,X.alloc (.cells #[ptN B] 99)=y:=⟨_,rfl⟩
 rw[hy] at hal g0
 rw[hy]
 have hs:=hX.step g0
 have hrb2:=hrb1.nw g0
 obtain⟨v',w3,hr,hO,hg,hp,g,cap,rfl⟩:=Yz.push Zf5 hs.own B X.heap.size 1 (fun j u hu=>by
  rw[Z0 hal]
  simpa [Z3h] using hu) (by rw[List.length_map];omega) (by have:=g0.sz;omega)
 rw[List.length_map] at hr hp hO
 have hgo:o<g:=Vr hO rfl
 have t:=Zam hg
 have hvo:∀b,v.ownBlock=some b→o<b:=fun b e=>Vr h.own e
 have hyl:=hlt hal
 have hSo:¬(v.ownBlock=some o):=fun e=>by have:=hvo o e;omega
 have hoy:o<y.heap.size:=lL0 hol g0.sz
 obtain⟨z,hz⟩:∃z,w3.setCell ⟨o,4,none⟩ (.slice (some ⟨g,0,none⟩) (bs.length+1) cap)=z:=⟨_,rfl⟩
 have t2:Z4 (fun b=>b=o) w3 z:=by rw[←hz];exact Zi w3 ⟨o,4,none⟩ _
 have hor:o<w3.heap.size:=lL0 hoy t.size
 have tt:Z4 (fun b=>v.ownBlock=some b∨b=o) y z:=(t.mono fun _ _ e=>.inl e).trans (t2.mono fun _ _ e=>.inr e)
 have ct:∀ {j:Nat} {u:Value},j≠4→y.cell? ⟨o,j,none⟩=some u→z.cell? ⟨o,j,none⟩=some u:=fun {j u} hj hc=>by
  rw[←hz,World.cell?_setCell_other _ _ _ _ (by first | (simp;done) | (simp;exact fun e=>hj e))]
  exact(t.cell hoy hSo).trans hc
 have c4':w3.cell? ⟨o,4,none⟩=some v:=(t.cell hoy hSo).trans hs.c4
 have hf':∀j,w3.frozen? ⟨o,j,none⟩=false:=fun j=>(t.froz hoy hSo).trans (hs.fz j)
 have hbk:∀b,b<o→z.heap[b]?=X.heap[b]?:=fun b hb=>by
  rw[tt.block b (by omega) (fun e=>e.elim (fun e=>by have:=hvo b e;omega) (fun e=>by omega)),g0.block b (by omega)]
 have hop:=h.op
 refine⟨g,cap,w3,hr,⟨c4',hf' 4,hor⟩,?_,by rw[hz];exact hbk⟩
 rw[hz]
 refine⟨ct (by decide) hs.c0,ct (by decide) hs.c1,ct (by decide) hs.c2,ct (by decide) hs.c3,by rw[←hz];exact World.cell?_setCell_same _ _ _ c4',ct (by decide) hs.c5,fun j=>by rw[←hz,World.frozen?_setCell];exact hf' j,?_,?_,?_,?_,?_,hop⟩
 ·have em:(bs++[(⟨B,.slice none 0 0,[]⟩:RB)]).map RB.o=bs.map RB.o++[B]:=by simp
  rw[em]
  exact Vf hO t2 (fun b hb e=>by have e':g=b:=Option.some.inj hb;omega)
 ·refine hrb2.tchS tt (fun b hb k hk e=>?_)
  have hk2:=Zuw hem1 b hb k hk
  obtain⟨_,_,k1,k2⟩:=hem1 b hb
  subst hk2
  exact e.elim k2 (fun e=>by omega)
 ·exact hs.pl.tch tt (fun e=>e.elim (fun e=>by have:=hvo _ e;omega) (fun e=>by omega)) (fun e=>e.elim (fun e=>by have:=hvo _ e;omega) (fun e=>by omega))
 ·intro b hb
  obtain⟨k0,k1,k2,k3⟩:=hem1 b hb
  refine⟨k0,k1,k2,fun e=>?_⟩
  have hbX:b.o<X.heap.size:=(hrb1.rb b hb).1.ol
  rcases hp with q | q
  ·exact k3 (q.symm.trans e)
  ·have e1:g=b.o:=Option.some.inj e
   have e2:g=y.heap.size:=Option.some.inj q
   have:=g0.sz
   omega
 ·refine Yq hs.nw tt (fun k e=>?_)
  exact e.elim (fun e=>by have:=hvo k e;omega) (fun e=>by omega)
theorem Zfr{W X:World}{po pg n:Nat}{C:Ud}{L:List Bool}(hp:Rp X po pg L)(g:Nw W X)(h1:W.heap.size≤po)(h2:W.heap.size≤pg)(T:TypeId) :
  Z54 W X.heap.size po pg n C (.slice none 0 0) [] L (X.alloc (.cells #[.int .i64 C.s,.int .i64 C.h,.int .i64 C.r,.int .i64 C.p,.slice none 0 0,ptN po] T)):=by
 have hb:=Z1 X (.cells #[.int .i64 C.s,.int .i64 C.h,.int .i64 C.r,.int .i64 C.p,.slice none 0 0,ptN po] T)
 have hN:Nw X (X.alloc (.cells #[.int .i64 C.s,.int .i64 C.h,.int .i64 C.r,.int .i64 C.p,.slice none 0 0,ptN po] T)):=(Nw.refl X).alloc _
 have q1:=hp.ol
 have q2:=hp.gl
 generalize X.alloc (.cells #[.int .i64 C.s,.int .i64 C.h,.int .i64 C.r,.int .i64 C.p,.slice none 0 0,ptN po] T)=z at *
 exact⟨Z0 (j:=0) hb,Z0 (j:=1) hb,Z0 (j:=2) hb,Z0 (j:=3) hb,Z0 (j:=4) hb,Z0 (j:=5) hb,fun j=>hfz hb,World.ownsRow_nil _ _ _ _,⟨(fun d hd=>by cases hd),(fun i j hi=>by simp at hi)⟩,hp.nw hN,(fun d hd=>by cases hd),g.trans hN,⟨q1,q2,h1,h2⟩⟩
theorem Znh{bs:List RB}(h:∀b∈bs,b.l=[]):Zv bs=List.replicate bs.length []:=by
 unfold Zv
 refine List.eq_replicate_iff.2 ⟨by rw[List.length_map],fun x hx=>?_⟩
 obtain⟨d,hd,rfl⟩:=List.mem_map.1 hx
 rw[h d hd]
 rfl
theorem Z54.done{W X:World}{o po pg n S N:Nat}{C:Ud}{g cap:Nat}{bs:List RB}(h:Z54 W o po pg n C (.slice (some ⟨g,0,none⟩) bs.length cap) bs (List.replicate N false) X)(hl:bs.length=S) :
  ∃J,U5 X o S n N 0 C (List.replicate S []) (List.replicate N false) J∧Nw W X∧∀b,J b→W.heap.size≤b:=by
 have hgo:o<g:=Vr h.own rfl
 have hgl:g<X.heap.size:=olt h.own rfl
 obtain⟨p1,p2,p3,p4⟩:=h.op
 have hin:=Zuw h.em
 refine⟨RtJ o g po pg bs,⟨g,cap,po,pg,bs,⟨h.c0,h.c1,h.c2,h.c3,h.c4,h.c5,fun i hi=>?_,hgl,h.rb,h.pl,fun b hb e=>?_,fun b hb e=>?_,⟨by omega,by omega,by omega,by omega⟩⟩,?_,rfl,?_⟩,h.nw,fun b e=>?_⟩
 ·obtain⟨a,c,e,q | ⟨b,o',rfl,hc⟩⟩:=Yz.rd Zf5.len h.own
  ·have:=congrArg List.length q.1
   rw[List.length_map] at this
   simp at this
   rw[this] at hi
   simp at hi
  ·simp only[Value.slice.injEq,Option.some.injEq,Addr.mk.injEq,and_true] at e
   obtain⟨⟨rfl,rfl⟩,_⟩:=e
   have:=hc.cell i (by rw[List.length_map];exact hi) 0 (ptN bs[i].o) (by simp[Z3h])
   simpa using this
 ·have:=hin b hb _ e
  have:=(h.em b hb).2.2.1
  omega
 ·have:=hin b hb _ e
  exact(h.em b hb).2.2.2 (congrArg some this)
 ·rw[Znh (fun b hb=>(h.em b hb).1),hl]
 ·exact Zec S n N
 ·rcases e with e | e | e | e | ⟨x,hx,e⟩
  ·omega
  ·omega
  ·omega
  ·omega
  ·have:=hin x hx _ e
   have:=(h.em x hx).2.2.1
   omega
def Zuf(W:World)(S n N:Nat)(p:Int)(e:Ending)(W':World):Prop:=∃o J,e=.returned (.tuple #[ptN o,.int .i64 0])∧U5 W' o S n N 0 ⟨S,n,N,p⟩ (List.replicate S []) (List.replicate N false) J∧Nw W W'∧∀b,J b→W.heap.size≤b
theorem Zx3(S n N:Nat)(p:Int)(h:U6 ⟨S,n,N,p⟩)(W:World):Calls prog 10 #[.agg #[.int .i64 S,.int .i64 n,.int .i64 N,.int .i64 p]] W (Zuf W S n N p):=by
 obtain⟨⟨s1,s2⟩,⟨n1,n2⟩,⟨N1,N2⟩,p1,p2⟩:=id h
 simp only at s1 s2 n1 n2 N1 N2 p1 p2
 have HS:=hD0 (aI0 (show 1≤S∧S≤16 by omega) (aI0 (show 1≤n∧n≤64 by omega) (show N≤128 by omega)))
 have e1:decide ((S:Int)<1)=false:=by rw[decide_eq_false_iff_not];omega
 have e2:decide ((16:Int)<(S:Int))=false:=by rw[decide_eq_false_iff_not];omega
 have e3:decide ((n:Int)<1)=false:=by rw[decide_eq_false_iff_not];omega
 have e4:decide ((64:Int)<(n:Int))=false:=by rw[decide_eq_false_iff_not];omega
 have e5:decide ((N:Int)<1)=false:=by rw[decide_eq_false_iff_not];omega
 have e6:decide ((128:Int)<(N:Int))=false:=by rw[decide_eq_false_iff_not];omega
 have e7:decide (p<0)=false:=by rw[decide_eq_false_iff_not];omega
 have e8:decide (8<p)=false:=by rw[decide_eq_false_iff_not];omega
 have f1:¬(S=0):=by omega
 have f2:decide (16<S)=false:=by rw[decide_eq_false_iff_not];omega
 have f3:¬(n=0):=by omega
 have f4:decide (64<n)=false:=by rw[decide_eq_false_iff_not];omega
 have f5:¬(N=0):=by omega
 have f6:decide (128<N)=false:=by rw[decide_eq_false_iff_not];omega
 have hal:=Z1 W (.cells #[.int .i64 S,.int .i64 n,.int .i64 N,.int .i64 p] 23)
 obtain⟨z,hz⟩:∃z,W.alloc (.cells #[.int .i64 S,.int .i64 n,.int .i64 N,.int .i64 p] 23)=z:=⟨_,rfl⟩
 have g1:Nw W z:=by rw[←hz];exact(Nw.refl W).alloc _
 rw[hz] at hal
 have HZ:=hD0 hz
 have HG:=hD0 (aI0 g1 hal)
 obtain⟨cb,hcb⟩:∃cb,W.heap.size=cb:=⟨_,rfl⟩
 have HCb:=hD0 hcb
 rw[hcb] at hal
 have HAl:=hD0 hal
 have c0:=Z0 (j:=0) hal
 have c1:=Z0 (j:=1) hal
 have c2:=Z0 (j:=2) hal
 have c3:=Z0 (j:=3) hal
 have cl:=hlt hal
 clear hz g1 hal s1 s2 n1 n2 N1 N2 h hcb p1 p2
 go_enter func10,ntmps10
 go_upto_region 1 with fail
 rw[HZ.out,HCb.out]
 go_wp2_with fail
 refine(Zkh N HS.out.2.2 z).mono ?_
 rintro e w1 ⟨po,pg,rfl,hp,hpo,hpg,g2⟩
 have HT:=hD0 (Zfr (C:=⟨S,n,N,p⟩) (n:=n) hp (HG.out.1.trans g2) (Nat.le_trans HG.out.1.sz hpo) (Nat.le_trans HG.out.1.sz hpg) 98)
 have HB1:=hD0 (aI0 (g2.at' HAl.out) (aI0 (lL0 (hlt HAl.out) g2.sz) (g2.trans (Nw.refl w1))))
 clear c0 c1 c2 c3 cl hp hpo hpg g2
 have c0:=Z0 (j:=0) HB1.out.1
 have c1:=Z0 (j:=1) HB1.out.1
 have c2:=Z0 (j:=2) HB1.out.1
 have c3:=Z0 (j:=3) HB1.out.1
 have cl:=hlt HB1.out.1
 clear e1 e2 e3 e4 e5 e6 e7 e8 f1 f2 f3 f4 f5 f6
 go_wp2_with fail
 clear c0 c1 c2 c3 cl
 obtain⟨O,hO⟩:∃O,w1.heap.size=O:=⟨_,rfl⟩
 have hcbO:cb<O:=by rw[←hO];exact HB1.out.2.1
 rw[hO] at HT ⊢
 go_loopw [7] (fun i wr=>∃(j:Nat) (s0:Option Addr) (s1 s2:Nat) (bs:List RB),i=.int .i64 j∧j≤S∧Hid (Z54 W O po pg n ⟨S,n,N,p⟩ (.slice s0 s1 s2) bs (List.replicate N false) wr∧bs.length=j∧wr.heap[cb]?=some (.cells #[.int .i64 S,.int .i64 n,.int .i64 N,.int .i64 p] 23))) (fun i _=>S-(intOf i).toNat)
 case atStart=>exact⟨0,none,0,0,[],rfl,Nat.zero_le _,HT.out,rfl,((Nw.refl w1).alloc _).at' HB1.out.1⟩
 case round =>
  obtain⟨j,s0,s1',s2',bs,rfl,hj,HI⟩:=hrel
  have c0:=Z0 (j:=0) HI.out.2.2
  have c1:=Z0 (j:=1) HI.out.2.2
  have cl:=hlt HI.out.2.2
  by_cases hjl:j<S
  ·have hnt:=HI.out.1
   have HNw:=hD0 (Zxm n HS.out.2.1.1 HS.out.2.1.2 po wr (Nat.lt_trans hnt.op.1 hnt.ol))
   have hji:(j:Int)<(S:Int):=by omega
   have hwj:wrap64 ((j:Int)+1)=(j:Int)+1:=by have:=HS.out.1.2;unfold wrap64;omega
   clear hnt
   go_wp2_with fail
   refine HNw.out.mono ?_
   rintro e w2 ⟨B,rfl,hB0,hB,g2⟩
   have hst:=HI.out.1.step g2
   have d4:=hst.c4
   have ol:=hst.ol
   obtain⟨g,cap,w3,hrun,⟨t1,t2,t3⟩,hnx,hbk⟩:=HI.out.1.push g2 (by rw[HI.out.2.1];have:=HS.out.1.2;omega) hB0 hB
   have HR:=hD0 hrun
   have HI3:=hD0 (show Z54 W O po pg n ⟨S,n,N,p⟩ (.slice (some ⟨g,0,none⟩) (bs.length+1) cap) (bs++[⟨B,.slice none 0 0,[]⟩]) (List.replicate N false) (w3.setCell ⟨O,4,none⟩ (.slice (some ⟨g,0,none⟩) (bs.length+1) cap))∧(bs++[(⟨B,.slice none 0 0,[]⟩:RB)]).length=j+1∧(w3.setCell ⟨O,4,none⟩ (.slice (some ⟨g,0,none⟩) (bs.length+1) cap)).heap[cb]?=some (.cells #[.int .i64 S,.int .i64 n,.int .i64 N,.int .i64 p] 23) from
    ⟨hnx,by rw[List.length_append,HI.out.2.1];rfl,(hbk cb hcbO).trans (g2.at' HI.out.2.2)⟩)
   clear hrun hnx hbk hB hB0 g2 hst HI HNw c0 c1 cl
   go_wp2_with (at_builtin;refine Z5 (by rfl) (.tmp 75) (.tmp 77) 96 rfl _ _ _ _ (by first | rfl | simp[Act.eval, *]) (by first | rfl | simp[Act.eval, *]) HR.out ?_)
   go_roundw
   case rel=>exact⟨j+1,_,_,_,_,congrArg (Value.int .i64) (by first | exact nxU j | exact hwj.trans (nxU j)),hjl,HI3⟩
   case measure=>first | exact Y0 S j hjl | (rw[hwj];exact Y0 S j hjl)
  ·obtain rfl:j=S:=by omega
   have hnt:=HI.out.1
   have hlen:=HI.out.2.1
   have hSp:=HS.out.1.1
   obtain⟨g,rfl⟩:∃g,s0=some ⟨g,0,none⟩:=by
    rcases Y7 hnt.own with⟨e,q⟩ | ⟨g,cap,e⟩
    ·rw[List.length_map] at q
     omega
    ·simp only[Value.slice.injEq] at e
     exact⟨g,e.1⟩
   have hs1:s1'=bs.length:=by
    obtain⟨a,c,e,_⟩:=Yz.rd Zf5.len hnt.own
    simp only[Value.slice.injEq,List.length_map] at e
    exact e.2.1
   rw[hs1] at hnt
   obtain⟨J,hJ1,hJ2,hJ3⟩:=hnt.done hlen
   have HE:=hD0 (show Zuf W j n N p (.returned (.tuple #[ptN O,.int .i64 0])) wr from⟨_,J,rfl,hJ1,hJ2,hJ3⟩)
   clear hnt hJ1 hJ2 hJ3 HI HT
   go_wp2
   exact bodyPost_ret (v:=.tuple #[ptN O,.int .i64 0]) (by simp[results,results10,go_sem, *]) rfl HE.out
theorem Zok(C:Ud)(h:¬U6 C)(W:World):Calls prog 10 #[Zev C] W fun e W'=>e=.returned (.tuple #[.pointer none,.int .i64 2])∧Nw W W':=by
 obtain⟨a,b,c,d⟩:=C
 have HH:=hD0 h
 have HG:=hD0 ((Nw.refl W).alloc (.cells #[.int .i64 a,.int .i64 b,.int .i64 c,.int .i64 d] 23))
 clear h
 by_cases h0:a<1
 ·have d0:decide (a<1)=true:=decide_eq_true h0
  clear h0
  go_enter func10,ntmps10
  go_wp2
  exact bodyPost_ret (v:=.tuple #[.pointer none,.int .i64 2]) (by simp[results,results10,go_sem, *]) rfl ⟨rfl,HG.out⟩
 have d0:decide (a<1)=false:=decide_eq_false h0
 by_cases h1:16<a
 ·have d1:decide (16<a)=true:=decide_eq_true h1
  clear h0 h1
  go_enter func10,ntmps10
  go_wp2
  exact bodyPost_ret (v:=.tuple #[.pointer none,.int .i64 2]) (by simp[results,results10,go_sem, *]) rfl ⟨rfl,HG.out⟩
 have d1:decide (16<a)=false:=decide_eq_false h1
 by_cases h2:b<1
 ·have d2:decide (b<1)=true:=decide_eq_true h2
  clear h0 h1 h2
  go_enter func10,ntmps10
  go_wp2
  exact bodyPost_ret (v:=.tuple #[.pointer none,.int .i64 2]) (by simp[results,results10,go_sem, *]) rfl ⟨rfl,HG.out⟩
 have d2:decide (b<1)=false:=decide_eq_false h2
 by_cases h3:64<b
 ·have d3:decide (64<b)=true:=decide_eq_true h3
  clear h0 h1 h2 h3
  go_enter func10,ntmps10
  go_wp2
  exact bodyPost_ret (v:=.tuple #[.pointer none,.int .i64 2]) (by simp[results,results10,go_sem, *]) rfl ⟨rfl,HG.out⟩
 have d3:decide (64<b)=false:=decide_eq_false h3
 by_cases h4:c<1
 ·have d4:decide (c<1)=true:=decide_eq_true h4
  clear h0 h1 h2 h3 h4
  go_enter func10,ntmps10
  go_wp2
  exact bodyPost_ret (v:=.tuple #[.pointer none,.int .i64 2]) (by simp[results,results10,go_sem, *]) rfl ⟨rfl,HG.out⟩
 have d4:decide (c<1)=false:=decide_eq_false h4
 by_cases h5:128<c
 ·have d5:decide (128<c)=true:=decide_eq_true h5
  clear h0 h1 h2 h3 h4 h5
  go_enter func10,ntmps10
  go_wp2
  exact bodyPost_ret (v:=.tuple #[.pointer none,.int .i64 2]) (by simp[results,results10,go_sem, *]) rfl ⟨rfl,HG.out⟩
 have d5:decide (128<c)=false:=decide_eq_false h5
 by_cases h6:d<0
 ·have d6:decide (d<0)=true:=decide_eq_true h6
  clear h0 h1 h2 h3 h4 h5 h6
  go_enter func10,ntmps10
  go_wp2
  exact bodyPost_ret (v:=.tuple #[.pointer none,.int .i64 2]) (by simp[results,results10,go_sem, *]) rfl ⟨rfl,HG.out⟩
 have d6:decide (d<0)=false:=decide_eq_false h6
 by_cases h7:8<d
 ·have d7:decide (8<d)=true:=decide_eq_true h7
  clear h0 h1 h2 h3 h4 h5 h6 h7
  go_enter func10,ntmps10
  go_wp2
  exact bodyPost_ret (v:=.tuple #[.pointer none,.int .i64 2]) (by simp[results,results10,go_sem, *]) rfl ⟨rfl,HG.out⟩
 have d7:decide (8<d)=false:=decide_eq_false h7
 exact absurd (show U6 ⟨a,b,c,d⟩ from⟨⟨by show 1≤a;omega,by show a≤16;omega⟩,⟨by show 1≤b;omega,by show b≤64;omega⟩,⟨by show 1≤c;omega,by show c≤128;omega⟩,⟨by show 0≤d;omega,by show d≤8;omega⟩⟩) HH.out
structure HrI(w1:World)(v:Value)(l:List Hl)(y:World):Prop where
 own:Z05 y w1.heap.size v l
 nw:Nw w1 y
theorem HrI.step{w1 y y':World}{v:Value}{l:List Hl}(h:HrI w1 v l y)(g:Nw y y'):HrI w1 v l y':=⟨onw h.own g,h.nw.trans g⟩
theorem HrI.push{w1 y:World}{v:Value}{l:List Hl}(h:HrI w1 v l y)(x t r m:Int)(hl:l.length<100000) :
  ∃s0 s1 s2 w3,(Builtin.append_ #[45,45] 45 #[v,.slice (some ⟨y.heap.size,0,none⟩) 1 1]).run prog (y.alloc (.cells #[.int .i64 x,.int .i64 t,.int .i64 r,.int .i64 m] 44))=.ok (.slice s0 s1 s2) w3∧HrI w1 (.slice s0 s1 s2) (l++[⟨x,t,r,m⟩]) w3:=by
 have hal:=Z1 y (.cells #[.int .i64 x,.int .i64 t,.int .i64 r,.int .i64 m] 44)
 have g0:Nw y (y.alloc (.cells #[.int .i64 x,.int .i64 t,.int .i64 r,.int .i64 m] 44)):=(Nw.refl y).alloc _
 obtain⟨z,hz⟩:∃z,y.alloc (.cells #[.int .i64 x,.int .i64 t,.int .i64 r,.int .i64 m] 44)=z:=⟨_,rfl⟩
 rw[hz] at hal g0
 rw[hz]
 have hs:=h.step g0
 obtain⟨v',w3,hr,hO,hg,hp,g,cap,rfl⟩:=Yz.push Z2h hs.own ⟨x,t,r,m⟩ y.heap.size 1 (fun j u hu=>by
  rw[Z0 hal]
  simpa [Z2k] using hu) hl hs.nw.sz
 exact⟨_,_,_,w3,hr,hO,hs.nw.gro hg (fun k hk=>Vr hs.own hk)⟩
theorem Zna{w:World}{a b:Nat}{v:Value}{l:List Hl}(h:Z05 w b v l)(e:a≤b):Z05 w a v l:=by
 refine⟨h.1,?_⟩
 rcases h.2 with hn | ⟨g,cap,cur,rfl,hg,hgg,rest⟩
 ·exact .inl hn
 ·exact .inr ⟨g,cap,cur,rfl,Nat.le_trans e hg,hgg,rest⟩
theorem Zn5{s:List Hq}{i:Nat}(hi:i<s.length)(txn:Int):Vc (s.take (i+1)) txn=Vc (s.take i) txn++(if mdQ s[i].q txn==0 then[] else[⟨txn,s[i].t,s[i].r,mdQ s[i].q txn⟩]):=by
 unfold Vc
 rw[List.take_succ_eq_append_getElem hi,List.filter_append,List.map_append]
 congr 1
 cases h:(mdQ s[i].q txn==0)<;>simp[h]
theorem Zan(s:List Hq)(txn:Int):(Vc s txn).length≤s.length:=by
 unfold Vc
 rw[List.length_map]
 exact List.length_filter_le _ _
theorem Z7l{W:World}{o:Nat}{s:List Hq}(hs:s.length≤1024)(h:Calls prog 14 #[.pointer (some ⟨o,0,none⟩)] W (Vn W s))(txn:Int) :
  Calls prog 17 #[.pointer (some ⟨o,0,none⟩),.int .i64 txn] W (Vo W (Vc s txn)):=by
 have HSn:=hD0 h
 clear h
 go_enter func17,ntmps17
 go_wp2_with fail
 refine HSn.out.mono ?_
 rintro e y1 ⟨v0,rfl,hh0,g1⟩
 obtain⟨lm,⟨⟨a0,c0,rfl,hr0⟩,hq0⟩,he0⟩:=hh0.rd
 have hlb:lm.length≤1024:=by rw[←he0,List.length_map] at hs;exact hs
 have HD:=hD0 (aI0 hr0 (aI0 hq0 he0))
 have HG1:=hD0 g1
 clear hh0 hr0 hq0 he0 g1 HSn
 go_wp2_with fail
 go_loopw [5,7] (fun sv iv y=>∃(i:Nat) (s0:Option Addr) (s1 s2:Nat),sv=.slice s0 s1 s2∧iv=.int .i64 i∧i≤lm.length∧Hid (HrI y1 (.slice s0 s1 s2) (Vc (s.take i) txn) y∧Nw y1 y)) (fun _ iv _=>lm.length-(intOf iv).toNat)
 case atStart=>exact⟨0,none,0,0,rfl,rfl,Nat.zero_le _,⟨World.ownsRow_nil _ _ _ _,Nw.refl _⟩,Nw.refl _⟩
 case round =>
  obtain⟨i,r0,r1,r2,rfl,rfl,hi,HI⟩:=hrel
  by_cases hil:i<lm.length
  ·rcases HD.out.1 with⟨q,_⟩ | ⟨b,ob,rfl,hc⟩
   ·rw[q] at hil;simp at hil
   have his:i<s.length:=by rw[←HD.out.2.2,List.length_map];exact hil
   have hhe:s[i]=lm[i].h:=by
    have:(lm.map Hm.h)[i]'(by rw[List.length_map];exact hil)=s[i]:=by congr 1;exact HD.out.2.2
    rw[←this,List.getElem_map]
   have hit:=Zn5 his txn
   rw[hhe] at hit
   have hx:=HD.out.2.1 _ (gM0 hil)
   have hii:(i:Int)<(lm.length:Int):=Int.ofNat_lt.2 hil
   have hwi:wrap64 ((i:Int)+1)=(i:Int)+1:=by unfold wrap64;omega
   have hce:=(hc.nw HI.out.2).cell i hil
   have HMd:=hD0 (Zxg lm[i].h.t lm[i].h.r lm[i].h.W txn (hmV lm[i]) lm[i].h.q wr hx.2 (hx.1.nw HI.out.2))
   unfold Yf hmV at HMd
   have hbd:(Vc (s.take i) txn).length<100000:=by
    have h1:=Zan (s.take i) txn
    have h2:(s.take i).length≤i:=by rw[List.length_take];omega
    omega
   generalize lm[i]=x at *
   obtain⟨⟨xt,xr,xW,q⟩,xa,xc⟩:=x
   simp only at hit HMd
   have f0:=hce 0 _ rfl
   have f1:=hce 1 _ rfl
   have f2:=hce 2 _ rfl
   have f3:=hce 3 _ rfl
   simp only[Nat.add_zero] at f0
   obtain⟨ql,hql⟩:∃ql,q.length=ql:=⟨_,rfl⟩
   obtain⟨M,hM⟩:∃M,mdQ q txn=M:=⟨_,rfl⟩
   simp only[hql] at f2 HMd
   rw[hM] at HMd hit
   have HIt:=hD0 hit
   clear hc hce hx hhe his hql hM hit
   go_wp2_with fail
   refine HMd.out.mono ?_
   rintro e y2 ⟨rfl,g2⟩
   have e0:=g2.kp f0
   have e1:=g2.kp f1
   clear f0 f1 f2 f3 HMd
   by_cases hm:M=0
   ·subst hm
    have HI2:=hD0 (show HrI y1 (.slice r0 r1 r2) (Vc (s.take (i+1)) txn) y2∧Nw y1 y2 from⟨by rw[HIt.out];simpa using HI.out.1.step g2,HI.out.2.trans g2⟩)
    clear g2 e0 e1 HI
    go_wp2_with fail
    go_roundw
    case rel=>exact⟨i+1,_,_,_,rfl,congrArg (Value.int .i64) (by first | exact nxU i | exact hwi.trans (nxU i)),hil,HI2⟩
    case measure=>first | exact Y0 lm.length i hil | (rw[hwi];exact Y0 lm.length i hil)
   ·have dm:(M==0)=false:=beq_eq_false_iff_ne.2 hm
    obtain⟨u0,u1,u2,w3,hrun,hnx⟩:=(HI.out.1.step g2).push txn xt xr M hbd
    have ht3:Nw y1 w3:=hnx.nw
    have HE:=hD0 (show HrI y1 (.slice u0 u1 u2) (Vc (s.take (i+1)) txn) w3∧Nw y1 w3 from⟨by rw[HIt.out,if_neg (by simpa using hm)];exact hnx,ht3⟩)
    have HR:=hD0 hrun
    clear g2 hrun hnx ht3 HI
    go_wp2_with (at_builtin;refine Z5 (by rfl) (.tmp 25) (.tmp 34) 45 rfl _ _ _ _ (by first | rfl | simp[Act.eval, *]) (by first | rfl | simp[Act.eval, *]) HR.out ?_)
    go_roundw
    case rel=>exact⟨i+1,_,_,_,rfl,congrArg (Value.int .i64) (by first | exact nxU i | exact hwi.trans (nxU i)),hil,HE⟩
    case measure=>first | exact Y0 lm.length i hil | (rw[hwi];exact Y0 lm.length i hil)
  ·obtain rfl:i=lm.length:=Nat.le_antisymm hi (Nat.le_of_not_lt hil)
   have HE:=hD0 (show Vo W (Vc s txn) (.returned (.slice r0 r1 r2)) wr from⟨_,rfl,by
    have e:s.take lm.length=s:=by rw[←HD.out.2.2];exact List.take_of_length_le (by rw[List.length_map];exact Nat.le_refl _)
    have:=HI.out.1.own
    rw[e] at this
    exact Zna this HG1.out.sz,HG1.out.trans HI.out.2⟩)
   clear HI
   go_wp2
   exact bodyPost_ret (v:=.slice r0 r1 r2) (by simp[results,results17,go_sem, *]) rfl HE.out
theorem Zib(n:Int):∀(l:List Int) (k:Nat) (h:k<l.length),(∀x∈l.take k,x<n)→l[k]=n→Ul n l=l
 | a::r,0,_,_,e=>by
  simp only[List.getElem_cons_zero] at e
  unfold Ul
  rw[if_neg (by omega),if_pos e]
 | a::r,k+1,h,hlt,e=>by
  have h0:=hlt a (by simp)
  unfold Ul
  rw[if_pos h0,Zib n r k (by simpa using h) (fun x hx=>hlt x (by simp[hx])) (by simpa using e)]
theorem Z7y(n:Int):∀(l:List Int) (k:Nat),k≤l.length→(∀x∈l.take k,x<n)→(∀h:k<l.length,n<l[k])→Ul n l=l.take k++n::l.drop k
 | [],0,_,_,_=>rfl
 | a::r,0,_,_,h=>by
  have h0:=h (by simp)
  simp only[List.getElem_cons_zero] at h0
  unfold Ul
  rw[if_neg (by omega),if_neg (by omega)]
  rfl
 | a::r,k+1,hk,hlt,h=>by
  have h0:=hlt a (by simp)
  unfold Ul
  rw[if_pos h0,Z7y n r k (by simpa using hk) (fun x hx=>hlt x (by simp[hx])) (fun h'=>by have:=h (by simpa using h');simpa using this)]
  rfl
def Z25(x:Int):List Value:=[.int .i64 x]
theorem Z56:Z29 prog 60 3 1 8 Z25 where
 und:=underlying60
 inf:=by
  have h:(prog.info? 3).map (fun i=>(i.zero,i.size,i.bytes))=some (some (.int .i64 0),1,8):=by kernel_rfl
  cases e:prog.info? 3 with
  | none=>rw[e] at h;cases h
  | some i =>
   rw[e] at h
   simp only[Option.map_some,Option.some.injEq,Prod.mk.injEq] at h
   exact⟨i,_,rfl,h.1,h.2.1,h.2.2,rfl⟩
 pos:=by decide
 byt:=by decide
 len:=fun _=>rfl
 one:=fun a u hu=>by
  simp only[Z25,List.mem_cons,List.not_mem_nil,or_false] at hu
  subst hu;rfl
theorem Zii:∀l:List Int,Z6 Z25 l=l.map (Value.int .i64)
 | []=>rfl
 | a::r=>by
  show Z25 a++Z6 Z25 r=_
  rw[Zii r];rfl
theorem Yz.is{w:World}{g0:Nat}{v:Value}{l:List Int}(h:Yz 3 1 Z25 w g0 v l):IS w v l:=by
 unfold Yz at h
 rw[Zii] at h
 exact Z4i h (fun _ _=>Nat.zero_le _)
theorem Zsb{w:World}{b c k:Nat}{l:List Int}(h:RdC 1 Z25 w b 0 l)(hk:k≤l.length)(hc:l.length≤c) :
  ∀j u,(Z6 Z25 (l.drop k))[j]?=some u→w.cell? ((if c=k then(⟨b,0,none⟩:Addr) else⟨b,0+k*1,none⟩).add j)=some u:=by
 by_cases e:c=k
 ·intro j u hu
  have:l.drop k=[]:=List.drop_eq_nil_of_le (by omega)
  rw[this] at hu
  simp[Z6] at hu
 ·rw[if_neg e]
  have hp:=h.part k (l.length-k)
  rw[List.take_of_length_le (by simp)] at hp
  exact hp.flat (fun _=>rfl) (by decide)
theorem Yz.none{α:Type}{P:Program}{ST T:TypeId}{sz bytes:Nat}{row:α→List Value}(E:Z29 P ST T sz bytes row){w:World}{g0:Nat}{v:Value}{l:List α}(h:Yz T sz row w g0 v l):(Builtin.append_ #[ST,ST] ST #[v,.slice none 0 0]).run P w=.ok v w:=by
 obtain⟨i0,z,hi,_⟩:=E.inf
 exact run_append_owned_none (P:=P) w g0 ST ST T i0 sz E.und hi _ _ _ h
theorem IS.rdc{w:World}{g c:Nat}{l:List Int}(h:IS w (.slice (some ⟨g,0,none⟩) l.length c) l):RdC 1 Z25 w g 0 l :=
 ⟨h.glt,fun i hi j u hu=>by
  have hj:j<1:=(List.getElem?_eq_some_iff.1 hu).1
  obtain rfl:j=0:=by omega
  have e:=h.cell i hi
  rw[List.getD_eq_getElem?_getD,List.getElem?_eq_getElem hi] at e
  simp only[Nat.zero_add,Nat.mul_one,Nat.add_zero]
  exact e.trans hu⟩
theorem Zic{w:World}{g c k:Nat}{l:List Int}(n:Int)(h:IS w (.slice (some ⟨g,0,none⟩) l.length c) l)(hl:l.length≤1000)(hk:k≤l.length) :
  ∃v1 w1 v2 w2 v3 w3,(Builtin.append_ #[60,60] 60 #[.slice (some ⟨w.heap.size,0,none⟩) 0 0,.slice (some ⟨g,0,none⟩) k c]).run prog (w.alloc (.cells #[] 3))=.ok v1 w1 ∧
   (Builtin.append_ #[60,60] 60 #[v1,.slice (some ⟨w1.heap.size,0,none⟩) 1 1]).run prog (w1.alloc (.cells #[.int .i64 n] 3))=.ok v2 w2 ∧
   (Builtin.append_ #[60,60] 60 #[v2,.slice (some (if c=k then⟨g,0,none⟩ else⟨g,0+k*1,none⟩)) (l.length-k) (c-k)]).run prog w2=.ok v3 w3∧IS w3 v3 (l.take k++n::l.drop k)∧Nw w w3:=by
 have hc:=IS.rdc h
 have hcap:=Ur h
 obtain⟨v1,w1,r1,O1,N1⟩:=U4 Z56 (w:=w) (v:=.slice (some ⟨g,0,none⟩) k c) (l:=l.take k) ⟨_,c,by rw[List.length_take,Nat.min_eq_left hk],.inr ⟨g,0,rfl,by simpa using hc.part 0 k⟩⟩ (by rw[List.length_take];omega)
 have hNa:Nw w1 (w1.alloc (.cells #[.int .i64 n] 3)):=(Nw.refl w1).alloc _
 have hal:=Z1 w1 (.cells #[.int .i64 n] 3)
 obtain⟨v2,w2,r2,O2,G2,b2,_⟩:=Yz.push Z56 (onw O1 hNa) n w1.heap.size 1 (fun j u hu=>by
  rw[Z0 hal]
  simpa [Z25] using hu) (by rw[List.length_take];omega) (Nat.le_trans N1.sz hNa.sz)
 have N2:Nw w w2:=(N1.trans hNa).gro G2 (fun k hk=>Vr O1 hk)
 obtain⟨v3,w3,r3,O3,G3,b3⟩:=Yz.many Z56 O2 (l.drop k) _ (c-k) (Zsb (hc.nw N2) hk hcap) (by simp;omega) N2.sz
 have N3:=N2.gro G3 (fun k hk=>Vr O2 hk)
 rw[List.length_drop] at r3
 exact⟨v1,w1,v2,w2,v3,w3,r1,r2,r3,by have:=O3.is;simpa using this,N3⟩
theorem Zt7(w:World)(n:Int) :
  ∃v1 w1 v2 w2,(Builtin.append_ #[60,60] 60 #[.slice (some ⟨w.heap.size,0,none⟩) 0 0,.slice none 0 0]).run prog (w.alloc (.cells #[] 3))=.ok v1 w1 ∧
   (Builtin.append_ #[60,60] 60 #[v1,.slice (some ⟨w1.heap.size,0,none⟩) 1 1]).run prog (w1.alloc (.cells #[.int .i64 n] 3))=.ok v2 w2 ∧
   (Builtin.append_ #[60,60] 60 #[v2,.slice none 0 0]).run prog w2=.ok v2 w2∧IS w2 v2 [n]∧Nw w w2:=by
 obtain⟨v1,w1,r1,O1,N1⟩:=U4 Z56 (w:=w) (Rd.nil (sz:=1) (row:=Z25) w) (by simp)
 have hNa:Nw w1 (w1.alloc (.cells #[.int .i64 n] 3)):=(Nw.refl w1).alloc _
 have hal:=Z1 w1 (.cells #[.int .i64 n] 3)
 obtain⟨v2,w2,r2,O2,G2,b2,_⟩:=Yz.push Z56 (onw O1 hNa) n w1.heap.size 1 (fun j u hu=>by
  rw[Z0 hal]
  simpa [Z25] using hu) (by simp) (Nat.le_trans N1.sz hNa.sz)
 exact⟨v1,w1,v2,w2,r1,r2,Yz.none Z56 O2,by have:=O2.is;simpa using this,(N1.trans hNa).gro G2 (fun k hk=>Vr O1 hk)⟩
theorem Zzd(n:Int)(v:Value)(l:List Int)(w:World)(hl:l.length≤1000)(h:IS w v l) :
  Calls prog 66 #[v,.int .i64 n] w fun e w'=>∃v',e=.returned v'∧Nw w w'∧IS w' v' (Ul n l):=by
 rcases h.form with⟨rfl,rfl⟩ | ⟨g,c,rfl⟩
 ·obtain⟨v1,w1,v2,w2,r1,r2,r3,hI,hN⟩:=Zt7 w n
  have HR1:=hD0 r1
  have HR2:=hD0 r2
  have HR3:=hD0 r3
  have HX:=hD0 (aI0 hN hI)
  clear r1 r2 r3 hI hN
  go_enter func66,ntmps66
  go_wp2
  refine wp_loop_rounds 1 ?_
  repeat (rw[rounds_succ];go_wp2_with (at_builtin;(first | (refine Z5 (by rfl) (.tmp 34) (.tmp 37) 60 rfl _ _ _ _ rfl rfl HR1.out ?_) | (refine Z5 (by rfl) (.tmp 39) (.tmp 41) 60 rfl _ _ _ _ rfl rfl HR2.out ?_) | (refine Z5 (by rfl) (.tmp 43) (.tmp 46) 60 rfl _ _ _ _ rfl rfl HR3.out ?_))))
  go_ret
  exact⟨_,rfl,HX.out.1,HX.out.2⟩
 ·have HC:=hD0 h.rdc
  have HI:=hD0 h
  clear h
  go_enter func66,ntmps66
  go_wp2
  go_loopw [5] (fun i wr=>∃k:Nat,k≤l.length∧i=.int .i64 k∧(∀x∈l.take k,x<n)∧Nw w wr) (fun i _=>l.length-(intOf i).toNat)
  case atStart=>exact⟨0,Nat.zero_le _,rfl,by simp,Nw.refl _⟩
  case round =>
   obtain⟨k,hk,rfl,hf,hG⟩:=hrel
   have HG:=hD0 hG
   clear hG
   by_cases hlt:k<l.length
   ·have hce:=(HC.out.nw HG.out).cell k hlt 0 _ rfl
    simp only[Nat.zero_add,Nat.mul_one,Nat.add_zero] at hce
    have HS:=hD0 (show l[k]<n→∀x∈l.take (k+1),x<n from fun e x hx=>by
     rcases Z1o hlt hx with h | rfl
     ·exact hf x h
     ·exact e)
    have HEq:=hD0 (show l[k]=n→Ul n l=l from fun e=>Zib n l k hlt hf e)
    have HIn:=hD0 (show n<l[k]→Ul n l=l.take k++n::l.drop k from fun e=>Z7y n l k hk hf (fun _=>e))
    clear hf
    generalize l[k]=x at *
    by_cases hx:x<n
    ·have d:decide (x<n)=true:=decide_eq_true hx
     have HS2:=hD0 (HS.out hx)
     clear HS HEq HIn hx
     go_wp2
     go_roundw
     case rel=>exact⟨k+1,by omega,by go_num,HS2.out,HG.out⟩
     case measure=>simp[intOf];omega
    ·have d:decide (x<n)=false:=decide_eq_false hx
     by_cases he:x=n
     ·have d2:(x==n)=true:=by simpa using he
      have HPut:=hD0 (HEq.out he)
      clear HS HEq HIn hx he
      go_wp2
      go_ret
      exact⟨_,rfl,HG.out,by rw[HPut.out];exact HI.out.nw HG.out⟩
     ·have d2:(x==n)=false:=by simpa using he
      have HPut:=hD0 (HIn.out (by omega))
      clear HS HEq HIn hx he
      obtain⟨v1,w1,v2,w2,v3,w3,r1,r2,r3,hI3,hN3⟩:=Zic n (HI.out.nw HG.out) hl hk
      rw[if_neg (by have:=Ur HI.out;omega)] at r3
      simp only[Nat.zero_add,Nat.mul_one] at r3
      have HR1:=hD0 r1
      have HR2:=hD0 r2
      have HR3:=hD0 r3
      have hcap:=Ur HI.out
      have HX:=hD0 (aI0 (HG.out.trans hN3) hI3)
      have k1:k≤c:=by omega
      have k2:(k:Int)≤(c:Int):=by omega
      have k3:(k:Int)≤(l.length:Int):=by omega
      have k4:((l.length:Int)-(k:Int)).toNat=l.length-k:=by omega
      have k5:((c:Int)-(k:Int)).toNat=c-k:=by omega
      have k6:(l.length:Int)≤(c:Int):=by omega
      clear r1 r2 r3 hI3 hN3
      go_wp2_with (at_builtin;(first | (refine Z5 (by rfl) (.tmp 34) (.tmp 37) 60 rfl _ _ _ _ rfl rfl HR1.out ?_) | (refine Z5 (by rfl) (.tmp 39) (.tmp 41) 60 rfl _ _ _ _ rfl rfl HR2.out ?_) | (refine Z5 (by rfl) (.tmp 43) (.tmp 46) 60 rfl _ _ _ _ rfl rfl HR3.out ?_)))
      go_ret
      exact⟨_,rfl,HX.out.1,by rw[HPut.out];exact HX.out.2⟩
   ·obtain rfl:k=l.length:=by omega
    have HPut:=hD0 (Z7y n l l.length hk hf (fun h=>absurd h (Nat.lt_irrefl _)))
    clear hf
    obtain⟨v1,w1,v2,w2,v3,w3,r1,r2,r3,hI3,hN3⟩:=Zic n (HI.out.nw HG.out) hl hk
    rw[show(some (if c=l.length then(⟨g,0,none⟩:Addr) else⟨g,0+l.length*1,none⟩))=(if c=l.length then some (⟨g,0,none⟩:Addr)else some ⟨g,l.length,none⟩) from by rw[Nat.zero_add,Nat.mul_one];split<;>rfl,Nat.sub_self] at r3
    have HR1:=hD0 r1
    have HR2:=hD0 r2
    have HR3:=hD0 r3
    have hcap:=Ur HI.out
    have HX:=hD0 (aI0 (HG.out.trans hN3) hI3)
    have k1:l.length≤c:=by omega
    have k2:(l.length:Int)≤(c:Int):=by omega
    have k3:(l.length:Int)≤(l.length:Int):=by omega
    have k4:((l.length:Int)-(l.length:Int)).toNat=l.length -l.length:=by omega
    have k5:((c:Int)-(l.length:Int)).toNat=c -l.length:=by omega
    have k6:(l.length:Int)≤(c:Int):=by omega
    clear r1 r2 r3 hI3 hN3
    go_wp2_with (at_builtin;(first | (refine Z5 (by rfl) (.tmp 34) (.tmp 37) 60 rfl _ _ _ _ rfl rfl HR1.out ?_) | (refine Z5 (by rfl) (.tmp 39) (.tmp 41) 60 rfl _ _ _ _ rfl rfl HR2.out ?_) | (refine Z5 (by rfl) (.tmp 43) (.tmp 46) 60 rfl _ _ _ _ rfl rfl HR3.out ?_)))
    all_goals (go_ret;exact⟨_,rfl,HX.out.1,by rw[HPut.out];exact HX.out.2⟩)
def pT(rs:List Rq):List Int:=rs.foldl (fun l o=>Ul o.txn l) []
theorem Zt2(rs:List Rq)(r:Rq):pT (rs++[r])=Ul r.txn (pT rs):=by unfold pT;rw[List.foldl_append];rfl
theorem Zy9(s:List Hq):txT s=pT (s.flatMap fun h=>h.q):=rfl
theorem Zt5(n:Int):∀l:List Int,(Ul n l).length≤l.length+1:=by
 intro l
 induction l with
 | nil=>simp[Ul]
 | cons a t ih =>
  unfold Ul
  split
  ·simp only[List.length_cons];omega
  ·split<;>simp only[List.length_cons]<;>omega
theorem Zos(rs:List Rq):(pT rs).length≤rs.length:=by
 have:∀(l:List Int) (rs:List Rq),(rs.foldl (fun l o=>Ul o.txn l) l).length≤l.length+rs.length:=fun l rs=>by
  induction rs generalizing l with
  | nil=>simp
  | cons a t ih =>
   rw[List.foldl_cons,List.length_cons]
   have h1:=ih (Ul a.txn l)
   have h2:=Zt5 a.txn l
   omega
 have h:=this [] rs
 unfold pT
 simpa using h
theorem Zpi{s:List Hq}{i:Nat}(hi:i<s.length):(s.take (i+1)).flatMap (fun h=>h.q)=(s.take i).flatMap (fun h=>h.q)++s[i].q:=by
 rw[List.take_succ_eq_append_getElem hi,List.flatMap_append]
 simp
theorem Zik(s:List Hq)(i:Nat):((s.take i).flatMap fun h=>h.q).length≤(s.map fun h=>h.q.length).sum:=by
 rw[List.length_flatMap]
 exact Ze5 s i
theorem Zpf{q:List Rq}{j:Nat}(hj:j<q.length):q.take (j+1)=q.take j++[q[j]]:=List.take_succ_eq_append_getElem hj
theorem Zyn(s:List Hq)(l:List Int)(k:Nat):((l.take k).flatMap (Vc s)).length≤(l.flatMap (Vc s)).length:=by
 conv=>rhs;rw[←List.take_append_drop k l,List.flatMap_append,List.length_append]
 exact Nat.le_add_right _ _
theorem Zro(s:List Hq){l:List Int}{k:Nat}(hk:k<l.length):(l.take (k+1)).flatMap (Vc s)=(l.take k).flatMap (Vc s)++Vc s l[k]:=by
 rw[List.take_succ_eq_append_getElem hk,List.flatMap_append]
 simp
structure TxI(y1:World)(v:Value)(l:List Int)(y:World):Prop where
 is:IS y v l
 nw:Nw y1 y
theorem Zle{W:World}{o:Nat}{s:List Hq}(hs:s.length≤1024)(hsm:(s.map fun h=>h.q.length).sum≤128)(hal:(Z2b s).length≤128)(h:∀y,Nw W y→Calls prog 14 #[.pointer (some ⟨o,0,none⟩)] y (Vn y s)) :
  Calls prog 19 #[.pointer (some ⟨o,0,none⟩)] W (Vo W (Z2b s)):=by
 have HSn:=hD0 (h W (Nw.refl W))
 have HHo:=hD0 (fun y (g:Nw W y) txn=>Z7l hs (h y g) txn)
 have HSm:=hD0 hsm
 have HAl:=hD0 hal
 clear h hal
 go_enter func19,ntmps19
 go_wp2_with fail
 refine HSn.out.mono ?_
 rintro e y1 ⟨v0,rfl,hh0,g1⟩
 obtain⟨lm,⟨⟨a0,c0,rfl,hr0⟩,hq0⟩,he0⟩:=hh0.rd
 have hlb:lm.length≤1024:=by rw[←he0,List.length_map] at hs;exact hs
 have HD:=hD0 (aI0 hr0 (aI0 hq0 he0))
 have HG1:=hD0 g1
 clear hh0 hr0 hq0 he0 g1 HSn
 go_wp2_with fail
 go_loopw [3,5] (fun sv iv y=>∃(i:Nat) (s0:Option Addr) (s1 s2:Nat),sv=.slice s0 s1 s2∧iv=.int .i64 i∧i≤lm.length∧Hid (TxI y1 (.slice s0 s1 s2) (pT ((s.take i).flatMap fun h=>h.q)) y)) (fun _ iv _=>lm.length-(intOf iv).toNat)
 case atStart=>exact⟨0,none,0,0,rfl,rfl,Nat.zero_le _,IS.nil _,Nw.refl _⟩
 case round =>
  obtain⟨i,r0,r1,r2,rfl,rfl,hi,HI⟩:=hrel
  by_cases hil:i<lm.length
  ·rcases HD.out.1 with⟨q,_⟩ | ⟨b,ob,rfl,hc⟩
   ·rw[q] at hil;simp at hil
   have his:i<s.length:=by rw[←HD.out.2.2,List.length_map];exact hil
   have hhe:s[i]=lm[i].h:=by
    have:(lm.map Hm.h)[i]'(by rw[List.length_map];exact hil)=s[i]:=by congr 1;exact HD.out.2.2
    rw[←this,List.getElem_map]
   have hit:=Zpi his
   rw[hhe] at hit
   have hx:=HD.out.2.1 _ (gM0 hil)
   have hii:(i:Int)<(lm.length:Int):=Int.ofNat_lt.2 hil
   have hwi:wrap64 ((i:Int)+1)=(i:Int)+1:=by unfold wrap64;omega
   have hce:=hc.cell i hil
   have hql0:lm[i].h.q.length≤1000:=hx.2
   generalize lm[i]=x at *
   obtain⟨⟨xt,xr,xW,q⟩,xa,xc⟩:=x
   simp only at hit hql0
   have f2:=hce 2 _ rfl
   obtain⟨ql,hql⟩:∃ql,q.length=ql:=⟨_,rfl⟩
   simp only[hql] at f2
   have HC2:=hD0 (fun y (g:Nw y1 y)=>g.kp f2)
   have HIt:=hD0 hit
   have HQ:=hD0 (aI0 hx.1 (aI0 hql hql0))
   have HB:=hD0 (Zik s i)
   clear hc hce hx hhe his hql hit f2 hql0
   go_wp2_with fail
   go_loopw [3,6] (fun sv kv y=>∃(k:Nat) (s0:Option Addr) (s1 s2:Nat),sv=.slice s0 s1 s2∧kv=.int .i64 k∧k≤ql∧Hid (TxI y1 (.slice s0 s1 s2) (pT ((s.take i).flatMap (fun h=>h.q)++q.take k)) y)) (fun _ kv _=>ql-(intOf kv).toNat)
   case atStart=>exact⟨0,_,_,_,rfl,rfl,Nat.zero_le _,(show Hid (TxI y1 _ (pT (_++[])) _) from(List.append_nil _).symm▸HI.out)⟩
   case round =>
    clear HI
    obtain⟨k,t0,t1,t2,rfl,rfl,hk,HJ⟩:=hrel
    have f2:=HC2.out _ HJ.out.nw
    by_cases hkl:k<ql
    ·have hkq:k<q.length:=by rw[HQ.out.2.1];exact hkl
     obtain⟨a',c',e,⟨q0,_⟩ | ⟨qb,qo,e2,hcq⟩⟩:=HQ.out.1
     ·rw[q0] at hkq;simp at hkq
     unfold hmV at e
     subst e2
     simp only[Value.slice.injEq] at e
     obtain⟨rfl,_,rfl⟩:=e
     have hcr:=(hcq.nw HJ.out.nw).cell k hkq
     have hen:=Zpf hkq
     have hbd:(pT ((s.take i).flatMap (fun h=>h.q)++q.take k)).length≤1000:=by
      have h1:=Zos ((s.take i).flatMap (fun h=>h.q)++q.take k)
      have h2:=HB.out
      have h3:=HSm.out
      have h4:=Zik s (i+1)
      rw[HIt.out] at h4
      rw[List.length_append] at h1 h4
      have h5:(q.take k).length≤q.length:=by rw[List.length_take];omega
      omega
     generalize q[k]=R at *
     obtain⟨i0,i1,i2,i3,i4⟩:=R
     have c1:=hcr 1 _ rfl
     have hki:(k:Int)<(ql:Int):=Int.ofNat_lt.2 hkl
     have hwk:wrap64 ((k:Int)+1)=(k:Int)+1:=by have h1:=HQ.out.2.1;have h2:=HQ.out.2.2;unfold wrap64;omega
     have HPt:=hD0 (Zzd i1 (.slice t0 t1 t2) _ wr hbd HJ.out.is)
     have HEn:=hD0 hen
     clear hcq hcr hen hbd
     go_wp2_with fail
     refine HPt.out.mono ?_
     rintro e y2 ⟨v',rfl,g2,his⟩
     obtain⟨u0,u2,hv',_⟩:=his.box
     have HE:=hD0 (show TxI y1 v' (pT ((s.take i).flatMap (fun h=>h.q)++q.take (k+1))) y2 from⟨by rw[HEn.out,←List.append_assoc,Zt2];exact his,HJ.out.nw.trans g2⟩)
     generalize (Ul i1 (pT ((s.take i).flatMap (fun h=>h.q)++q.take k))).length=un at *
     subst hv'
     clear his g2 HPt HJ
     go_wp2_with fail
     go_roundw
     case rel=>exact⟨k+1,_,_,_,rfl,congrArg (Value.int .i64) (by first | exact nxU k | exact hwk.trans (nxU k)),hkl,HE⟩
     case measure=>first | exact Y0 ql k hkl | (rw[hwk];exact Y0 ql k hkl)
    ·obtain rfl:k=ql:=Nat.le_antisymm hk (Nat.le_of_not_lt hkl)
     have HE:=hD0 (show TxI y1 (.slice t0 t1 t2) (pT ((s.take (i+1)).flatMap fun h=>h.q)) wr from by
      rw[HIt.out]
      have e:q.take k=q:=by rw[←HQ.out.2.1,List.take_length]
      have:=HJ.out
      rw[e] at this
      exact this)
     clear HJ
     go_wp2_with fail
     go_roundw
     case rel=>exact⟨i+1,_,_,_,rfl,congrArg (Value.int .i64) (by first | exact nxU i | exact hwi.trans (nxU i)),hil,HE⟩
     case measure=>first | exact Y0 lm.length i hil | (rw[hwi];exact Y0 lm.length i hil)
  ·obtain rfl:i=lm.length:=Nat.le_antisymm hi (Nat.le_of_not_lt hil)
   have htx:IS wr (.slice r0 r1 r2) (txT s):=by
    have e:s.take lm.length=s:=by rw[←HD.out.2.2];exact List.take_of_length_le (by rw[List.length_map];exact Nat.le_refl _)
    have:=HI.out.is
    rw[e] at this
    exact this
   obtain⟨T,hT⟩:∃T,txT s=T:=⟨_,rfl⟩
   rw[hT] at htx
   have HTe:=hD0 hT
   have hr1:r1=T.length:=by
    rcases Y7 htx with⟨e,q⟩ | ⟨g,cap,e⟩
    ·simp only[Value.slice.injEq] at e;rw[e.2.1,q]
    ·simp only[Value.slice.injEq] at e;exact e.2.1
   have htl:T.length≤128:=by
    rw[←hT,Zy9]
    have h1:=Zos (s.flatMap fun h=>h.q)
    rw[List.length_flatMap] at h1
    exact Nat.le_trans h1 HSm.out
   subst hr1
   have HG:=hD0 (HG1.out.trans HI.out.nw)
   have HTx:=hD0 htx
   clear htx HI hi hil hT
   go_wp2_with fail
   go_loopw [7,8] (fun sv kv y=>∃(k:Nat) (s0:Option Addr) (s1 s2:Nat),sv=.slice s0 s1 s2∧kv=.int .i64 k∧k≤T.length∧Hid (HrI wr (.slice s0 s1 s2) ((T.take k).flatMap (Vc s)) y)) (fun _ kv _=>T.length-(intOf kv).toNat)
   case atStart=>exact⟨0,none,0,0,rfl,rfl,Nat.zero_le _,World.ownsRow_nil _ _ _ _,Nw.refl _⟩
   case round =>
    rename_i wy
    obtain⟨k,t0,t1,t2,rfl,rfl,hk,HJ⟩:=hrel
    by_cases hkl:k<T.length
    ·have hen:=Zro s hkl
     have his:=HTx.out.nw HJ.out.nw
     obtain⟨g,rfl⟩:∃g,r0=some ⟨g,0,none⟩:=by
      rcases Y7 his with⟨e,q⟩ | ⟨g,cap,e⟩
      ·rw[q] at hkl;simp at hkl
      ·simp only[Value.slice.injEq] at e;exact⟨g,e.1⟩
     have hce:=his.cell k hkl
     have hgl:=his.glt
     rw[List.getD_eq_getElem?_getD,List.getElem?_eq_getElem hkl,Option.getD_some] at hce
     have hbd:=Zyn s T k
     have hah:=HAl.out
     unfold Z2b at hah
     rw[HTe.out] at hah
     have hhl:=Zan s T[k]
     have HH:=hD0 (HHo.out _ (HG.out.trans HJ.out.nw) T[k])
     generalize T[k]=X at *
     have hki:(k:Int)<(T.length:Int):=Int.ofNat_lt.2 hkl
     have hwk:wrap64 ((k:Int)+1)=(k:Int)+1:=by unfold wrap64;omega
     have HEn:=hD0 (aI0 hen (aI0 hbd (aI0 hah hhl)))
     clear hen his hbd hah hhl
     go_wp2_with fail
     refine HH.out.mono ?_
     rintro e y2 ⟨v',rfl,hl2,g2⟩
     have hrd:=Yz.rd Z2h.len hl2
     obtain⟨u0,u2,e1,_⟩:=id hrd
     subst e1
     have hs2:=HJ.out.step g2
     obtain⟨v3,w3,hrun,hO,hg⟩:=Zb6 Z2h hs2.own hrd (by have:=HEn.out.2.1;have:=HEn.out.2.2.1;have:=HEn.out.2.2.2;omega) hs2.nw.sz
     obtain⟨a3,c3,e3,_⟩:=id (Yz.rd Z2h.len hO)
     subst e3
     have hnw:=hs2.nw.gro hg (fun k hk=>Vr hs2.own hk)
     generalize ((T.take k).flatMap (Vc s)++Vc s X).length=nl at *
     rw[←HEn.out.1] at hO
     have HE:=hD0 (aI0 hO hnw)
     have HR:=hD0 hrun
     generalize (Vc s X).length=nx at *
     clear hl2 hrd g2 hs2 hO hg hrun hnw HH HJ
     go_wp2_with (at_builtin;refine Z5 (by rfl) (.tmp 44) (.tmp 50) 45 rfl _ _ _ _ (by first | rfl | simp[Act.eval, *]) (by first | rfl | simp[Act.eval, *]) HR.out ?_)
     go_roundw
     case rel=>exact⟨k+1,_,_,_,rfl,congrArg (Value.int .i64) (by first | exact nxU k | exact hwk.trans (nxU k)),hkl,⟨HE.out.1,HE.out.2⟩⟩
     case measure=>first | exact Y0 T.length k hkl | (rw[hwk];exact Y0 T.length k hkl)
    ·obtain rfl:k=T.length:=Nat.le_antisymm hk (Nat.le_of_not_lt hkl)
     have hown:=HJ.out.own
     have hnw:=HJ.out.nw
     rw[List.take_length] at hown
     have HE:=hD0 (show Vo W (Z2b s) (.returned (.slice t0 t1 t2)) _ from⟨_,rfl,by unfold Z2b;rw[HTe.out];exact Zna hown HG.out.sz,HG.out.trans hnw⟩)
     clear HJ hown hnw
     go_wp2
     exact bodyPost_ret (v:=.slice t0 t1 t2) (by simp[results,results19,go_sem, *]) rfl HE.out
structure RhI(w:World)(l:List Hm)(k:Nat)(v:Value)(lm:List Hm)(W:World):Prop where
 own:U7 W (w.heap.size+1) v lm
 eq:Z3 lm=(Z3 l).take k
 ok:∀x∈lm,Vh W w.heap.size v.ownBlock x
 nw:Nw w W
theorem RhI.push{w W:World}{l:List Hm}{k:Nat}{v:Value}{lm:List Hm}(h:RhI w l k v lm W)(hll:l.length≤64)(hk:k<l.length)(hq:l[k].h.q.length≤1000){a:Option Addr}{c:Nat}(hrd:Zl W (.slice a l[k].h.q.length c) l[k].h.q) :
  ∃a1 c1 w1 v' s0 s1 s2 w3,(Builtin.append_ #[61,61] 61 #[.slice (some ⟨W.heap.size+1,0,none⟩) 0 0,.slice a l[k].h.q.length c]).run prog ((W.alloc (.cells #[.int .i64 l[k].h.t,.int .i64 l[k].h.r,.slice a l[k].h.q.length c,.int .i64 l[k].h.W] 63)).alloc (.cells #[] 50))=.ok (.slice a1 l[k].h.q.length c1) w1 ∧
   w1.heap[W.heap.size]?=some (.cells #[.int .i64 l[k].h.t,.int .i64 l[k].h.r,.slice a l[k].h.q.length c,.int .i64 l[k].h.W] 63) ∧
   (Builtin.append_ #[40,40] 40 #[v,.slice (some ⟨w1.heap.size,0,none⟩) 1 1]).run prog ((w1.setCell ⟨W.heap.size,2,none⟩ (.slice a1 l[k].h.q.length c1)).alloc (.cells #[.int .i64 l[k].h.t,.int .i64 l[k].h.r,.slice a1 l[k].h.q.length c1,.int .i64 l[k].h.W] 63))=.ok v' w3 ∧
   v'=.slice s0 s1 s2∧∃lm',RhI w l (k+1) v' lm' w3:=by
 obtain⟨z,hz⟩:∃z,W.alloc (.cells #[.int .i64 l[k].h.t,.int .i64 l[k].h.r,.slice a l[k].h.q.length c,.int .i64 l[k].h.W] 63)=z:=⟨_,rfl⟩
 have hal:=Z1 W (.cells #[.int .i64 l[k].h.t,.int .i64 l[k].h.r,.slice a l[k].h.q.length c,.int .i64 l[k].h.W] 63)
 have hsz:z.heap.size=W.heap.size+1:=by rw[←hz];simp
 have g1:Nw W z:=by rw[←hz];exact(Nw.refl W).alloc _
 rw[hz] at hal
 rw[hz]
 obtain⟨v1,w1,hr1,hO1,hN1⟩:=U4 Z57 (hrd.nw g1) (by omega)
 rw[hsz] at hr1 hO1
 obtain⟨a1,c1,hv1⟩:=(Z2.rd hO1).form
 subst hv1
 have hb1:=hN1.at' hal
 obtain⟨w2,hw2⟩:∃w2,w1.setCell ⟨W.heap.size,2,none⟩ (.slice a1 l[k].h.q.length c1)=w2:=⟨_,rfl⟩
 have t2:Z4 (fun b=>b=W.heap.size) w1 w2:=by rw[←hw2];exact Zi w1 ⟨W.heap.size,2,none⟩ _
 have hs2:w2.heap.size=w1.heap.size:=by rw[←hw2];simp
 obtain⟨y,hy⟩:∃y,w2.alloc (.cells #[.int .i64 l[k].h.t,.int .i64 l[k].h.r,.slice a1 l[k].h.q.length c1,.int .i64 l[k].h.W] 63)=y:=⟨_,rfl⟩
 have hal2:=Z1 w2 (.cells #[.int .i64 l[k].h.t,.int .i64 l[k].h.r,.slice a1 l[k].h.q.length c1,.int .i64 l[k].h.W] 63)
 have g3:Nw w2 y:=by rw[←hy];exact(Nw.refl w2).alloc _
 rw[hy,hs2] at hal2
 have hlm:lm.length=k:=by
  have:=congrArg List.length h.eq
  simp only[Z3,List.length_map,List.length_take] at this
  omega
 have hvl:∀b,v.ownBlock=some b→b<W.heap.size:=fun b e=>olt h.own e
 have hvg:∀b,v.ownBlock=some b→w.heap.size+1≤b:=fun b e=>Vr h.own e
 have hw:=h.nw.sz
 have hzw:=hN1.sz
 have hyw:=g3.sz
 have hoy:U7 y (w.heap.size+1) v lm:=onw (Vf (onw (onw h.own g1) hN1) t2 (fun b hb e=>by have:=hvl b hb;omega)) g3
 obtain⟨v',w3,hr3,hO3,hg3,hv3,s0,s2,hvf⟩:=Yz.push Y6 hoy ⟨l[k].h,a1,c1⟩ w1.heap.size 1 (fun j u hu=>by
  rw[Z0 hal2]
  simpa [Zm] using hu) (by omega) (by omega)
 have keep:∀b,b<W.heap.size→v.ownBlock≠some b→w3.heap[b]?=W.heap[b]?:=fun b hb hv=>by
  rw[hg3.block b (by omega) (fun e=>hv e.symm),g3.block b (by omega),t2.block b (by omega) (by omega),hN1.block b (by omega),g1.block b hb]
 have keep1:∀b,b<w1.heap.size→b≠W.heap.size→v.ownBlock≠some b→w3.heap[b]?=w1.heap[b]?:=fun b hb hw hv=>by
  rw[hg3.block b (by omega) (fun e=>hv e.symm),g3.block b (by omega),t2.block b hb hw]
 refine⟨a1,c1,w1,v',_,_,_,w3,hr1,hb1,?_,hvf,lm++[⟨l[k].h,a1,c1⟩],hO3,?_,fun x hx=>?_,?_⟩
 ·rw[hw2,hy];exact hr3
 ·unfold Z3
  rw[List.map_append,List.take_add_one,List.getElem?_map,List.getElem?_eq_getElem hk]
  have:=h.eq
  unfold Z3 at this
  rw[this]
  rfl
 ·rcases List.mem_append.1 hx with hx | hx
  ·have hk1:=h.ok x hx
   refine hk1.blk fun b j u e hne hc=>?_
   have hbl:b.block<W.heap.size:=World.block_lt_of_cell? _ ⟨b.block,j,none⟩ hc
   refine⟨keep b.block hbl (hk1.off b e hne),?_⟩
   rcases hv3 with q | q
   ·rw[q];exact hk1.off b e hne
   ·rw[q];intro e9;have:=Option.some.inj e9;omega
  ·obtain rfl:x=⟨l[k].h,a1,c1⟩:=by simpa using hx
   have hbk:∀b,a1=some b→W.heap.size+1≤b.block∧b.block<w1.heap.size:=fun b e=>by
    subst e
    rcases Y7 hO1 with⟨e,_⟩ | ⟨g',cap,e⟩
    ·cases e
    ·cases e
     exact⟨Vr hO1 rfl,olt hO1 rfl⟩
   refine⟨?_,Z2.cap hO1,hq,fun b n c e=>?_,fun b e hne=>?_⟩
   ·refine Zgc (Z2.rd hO1) fun b n c j u e hne hc=>?_
    unfold hmV at e
    simp only[Value.slice.injEq] at e
    have:=hbk b e.1
    exact keep1 b.block (by omega) (by omega) (fun q=>by have:=hvl _ q;omega)
   ·unfold hmV at e
    simp only[Value.slice.injEq] at e
    have:=hbk b e.1
    omega
   ·have:=hbk b e
    rcases hv3 with q | q
    ·rw[q];intro q;have:=hvl _ q;omega
    ·rw[q];intro e9;have:=Option.some.inj e9;omega
 ·refine Nw.gro (((((h.nw.trans g1).trans hN1).st (p:=⟨W.heap.size,2,none⟩) hw (.slice a1 l[k].h.q.length c1))).trans ?_) hg3 (fun b hb=>by have:=hvg b hb;omega)
  rw[hw2];exact g3
theorem Zp7{w:World}{o po:Nat}{most:Int}{v:Value}{l:List Hm}(h:Rb w o po most v l) :
  Calls prog 61 #[.pointer (some ⟨o,0,none⟩)] w (Vn w (Z3 l)):=by
 obtain⟨a,c,rfl,hf⟩:=h.form
 have HF:=hD0 hf
 have H:=hD0 h
 have hll:=h.len
 have hol:=h.ol
 clear h hf
 go_enter func61,ntmps61
 go_wp2_with fail
 go_loopw [3,4] (fun vi i wr=>∃(k:Nat) (lm:List Hm) (s0:Option Addr) (s1 s2:Nat),vi=.slice s0 s1 s2∧i=.int .i64 k∧k≤l.length∧Hid (RhI w l k (.slice s0 s1 s2) lm wr)) (fun _ i _=>l.length-(intOf i).toNat)
 case atStart=>exact⟨0,[],none,0,0,rfl,rfl,Nat.zero_le _,World.ownsRow_nil _ _ _ _,by simp[Z3],by simp,Nw.refl _⟩
 case round =>
  obtain⟨k,lm,s0,s1,s2,rfl,rfl,hk,HI⟩:=hrel
  have HR:=hD0 (H.out.nw HI.out.nw)
  have c2:=HR.out.c2
  have hor:o<wr.heap.size:=lL0 hol HI.out.nw.sz
  by_cases hlt:k<l.length
  ·rcases HF.out with⟨_,e,_⟩ | ⟨g,rfl,_,_⟩
   ·rw[e] at hlt;simp at hlt
   obtain⟨e0,e1,e2,e3⟩:=HR.out.at_ k hlt
   have hx:=HR.out.ok _ (gM0 hlt)
   have hki:(k:Int)<(l.length:Int):=by omega
   have hwk:wrap64 ((k:Int)+1)=(k:Int)+1:=by unfold wrap64;omega
   have hrd:=hx.rd
   unfold hmV at hrd
   obtain⟨a1,c1,w1,v',t0,t1,t2,w3,hr1,hb1,hr3,rfl,lm',hI3⟩:=HI.out.push hll hlt hx.len hrd
   have HR1:=hD0 hr1
   have HR3:=hD0 hr3
   have HI3:=hD0 hI3
   have hsz:(wr.alloc (.cells #[.int .i64 l[k].h.t,.int .i64 l[k].h.r,.slice l[k].a l[k].h.q.length l[k].c,.int .i64 l[k].h.W] 63)).heap.size=wr.heap.size+1:=by simp
   have b0:=Z0 (j:=0) hb1
   have b1:=Z0 (j:=1) hb1
   have b2:=Z0 (j:=2) hb1
   have b3:=Z0 (j:=3) hb1
   have bz:=fun j=>hfz (j:=j) hb1
   have bl:=Go.Proofs.YtpffldfpabglbaaGreatDoor.hlt hb1
   clear hx hrd hr1 hr3 hI3 hb1
   go_wp2_with (at_builtin;first | (refine Z5 (by rfl) (.tmp 22) (.tmp 24) 61 rfl _ _ _ _ (by first | rfl | simp[Act.eval, *]) (by first | rfl | simp[Act.eval, *]) HR1.out ?_) | (refine Z5 (by rfl) (.tmp 27) (.tmp 29) 40 rfl _ _ _ _ (by first | rfl | simp[Act.eval, *]) (by first | rfl | simp[Act.eval, *]) HR3.out ?_))
   go_roundw
   case rel=>exact⟨k+1,lm',_,_,_,rfl,congrArg (Value.int .i64) (by omega),hlt,HI3⟩
   case measure=>simp[intOf];omega
  ·obtain rfl:k=l.length:=by omega
   have HE:Hid (Vn w (Z3 l) (.returned (.slice s0 s1 s2)) wr):=by
    have e:=HI.out.eq
    rw[show l.length=(Z3 l).length by simp[Z3],List.take_length] at e
    exact⟨_,rfl,⟨lm,HI.out.own,e,HI.out.ok⟩,HI.out.nw⟩
   clear HI HR
   go_wp2
   go_ret
   exact HE.out
def snA(hss:List (List Hq))(i k:Nat):List Hq:=((hss.take i).flatten++(V6 hss i).take k).foldl Yh []
section
variable {hss:List (List Hq)} {i k:Nat}
theorem Zpn(hss:List (List Hq)):snA hss 0 0=[]:=by simp[snA]
theorem Zpm(hi:i<hss.length):snA hss i (V6 hss i).length=snA hss (i+1) 0:=by
 have e:(hss.take (i+1)).flatten=(hss.take i).flatten++hss[i]:=Z90 hi
 unfold snA
 rw[List.take_length,List.take_zero,List.append_nil,e,Ve hi]
theorem Ztf(hss:List (List Hq)):snA hss hss.length 0=Ya hss:=by
 unfold snA Ya
 rw[List.take_length,List.take_zero,List.append_nil]
theorem Zti(hk:k<(V6 hss i).length):snA hss i (k+1)=Yh (snA hss i k) (V6 hss i)[k]:=by
 unfold snA
 rw[List.take_succ_eq_append_getElem hk,←List.append_assoc,List.foldl_append]
 rfl
theorem Zbf(hi:i<hss.length):((hss.take i).flatten++(V6 hss i).take k).Sublist hss.flatten:=by
 conv=>rhs;rw[←List.take_append_drop i hss,List.flatten_append,List.drop_eq_getElem_cons hi,List.flatten_cons]
 rw[Ve hi]
 exact List.Sublist.append_left ((List.take_sublist _ _).trans (List.sublist_append_left _ _)) _
theorem Zbg(ap:Vv hss.flatten)(hi:i<hss.length):Y9 (snA hss i k)∧(snA hss i k).Perm ((hss.take i).flatten++(V6 hss i).take k):=by
 have:=Zzb (l:=(hss.take i).flatten++(V6 hss i).take k) (acc:=[]) List.Pairwise.nil (by simp) (ap.sublist (Zbf hi))
 rw[List.nil_append] at this
 exact this
theorem Ztg(ap:Vv hss.flatten)(hi:i<hss.length):(snA hss i k).length≤hss.flatten.length:=by
 rw[(Zbg ap hi).2.length_eq]
 exact(Zbf hi).length_le
theorem Zth(ap:Vv hss.flatten)(hi:i<hss.length)(hk:k<(V6 hss i).length):∀a∈snA hss i k,Z9 a≠Z9 (V6 hss i)[k]:=fun a ha=>by
 have h1:=(Zbg ap hi).2.subset ha
 have h2:Vv ((hss.take i).flatten++(V6 hss i).take (k+1)):=ap.sublist (Zbf hi)
 rw[List.take_succ_eq_append_getElem hk,←List.append_assoc] at h2
 exact(List.pairwise_append.1 h2).2.2 a h1 _ (by simp)
end
theorem Zxt{lm:List Hm}{acc:List Hq}(e:lm.map Hm.h=acc)(s:Y9 acc){x:Hm}(hn:∀a∈acc,Z9 a≠Z9 x.h){k:Nat}(hk:k≤lm.length)(h1:∀j (hj:j<lm.length),j<k→Vq (Z9 lm[j].h) (Z9 x.h))(h2:∀hk:k<lm.length,¬Vq (Z9 lm[k].h) (Z9 x.h)) :
  (lm.take k++x::lm.drop k).map Hm.h=Yh acc x.h:=by
 subst e
 have p:Zj1 lm (x.h.t,x.h.r) k false:=by
  refine⟨hk,h1,?_⟩
  by_cases q:k<lm.length
  ·refine .inr ⟨q,h2 q,?_⟩
   rw[eq_comm,decide_eq_false_iff_not]
   exact hn _ (List.mem_map.2 ⟨_,gM0 q,rfl⟩)
  ·exact .inl ⟨by omega,rfl⟩
 exact(Zgu s p rfl).symm
theorem Zfe{W:World}{o:Nat}{v:Value}{lm:List Hm}(hok:∀x∈lm,Vh W o v.ownBlock x)(ho:o<W.heap.size)(k:Nat)(hk:k≤lm.length)(hl:lm.length≤2000)(x:Hm)(hx:Vh W o none x){v1 v2:Value}(h1:∀z,Nw W z→Rd 4 Zm z v1 (lm.take k))(h2:∀z,Nw W z→Rd 4 Zm z v2 (lm.drop k)) :
  ∃v4 w4 a5 n5 c5 w5 a6 n6 c6 w6,(Builtin.append_ #[40,40] 40 #[.slice (some ⟨W.heap.size,0,none⟩) 0 0,v1]).run prog (W.alloc (.cells #[] 63))=.ok v4 w4∧Nw W w4 ∧
   (Builtin.append_ #[40,40] 40 #[v4,.slice (some ⟨w4.heap.size,0,none⟩) 1 1]).run prog (w4.alloc (.cells #[.int .i64 x.h.t,.int .i64 x.h.r,.slice x.a x.h.q.length x.c,.int .i64 x.h.W] 63))=.ok (.slice a5 n5 c5) w5∧Nw W w5 ∧
   (Builtin.append_ #[40,40] 40 #[.slice a5 n5 c5,v2]).run prog w5=.ok (.slice a6 n6 c6) w6∧Nw W w6 ∧
   Yl w6 o (.slice a6 n6 c6) ((lm.take k++x::lm.drop k).map Hm.h):=by
 have htk:(lm.take k).length=k:=by rw[List.length_take];omega
 have hdl:(lm.drop k).length=lm.length-k:=by rw[List.length_drop]
 obtain⟨v4,w4,hr4,hO4,hN4⟩:=U4 Y6 (h1 W (Nw.refl W)) (by omega)
 obtain⟨y,hy⟩:∃y,w4.alloc (.cells #[.int .i64 x.h.t,.int .i64 x.h.r,.slice x.a x.h.q.length x.c,.int .i64 x.h.W] 63)=y:=⟨_,rfl⟩
 have hal:=Z1 w4 (.cells #[.int .i64 x.h.t,.int .i64 x.h.r,.slice x.a x.h.q.length x.c,.int .i64 x.h.W] 63)
 have gy:Nw w4 y:=by rw[←hy];exact(Nw.refl w4).alloc _
 rw[hy] at hal
 have hs4:=hN4.sz
 have hsy:=gy.sz
 obtain⟨v5,w5,hr5,hO5,hg5,_,g5,c5,hv5⟩:=Yz.push Y6 (onw hO4 gy) x w4.heap.size 1 (fun j u hu=>by
  rw[Z0 hal]
  simpa [Zm] using hu) (by omega) (by omega)
 subst hv5
 have hN5:Nw W w5:=(hN4.trans gy).gro hg5 (fun b hb=>Vr hO4 hb)
 obtain⟨v6,w6,hr6,hO6,hg6⟩:=Zb6 Y6 hO5 (h2 w5 hN5) (by rw[List.length_append,List.length_singleton];omega) hN5.sz
 have hN6:Nw W w6:=hN5.gro hg6 (fun b hb=>Vr hO5 hb)
 have he:lm.take k++[x]++lm.drop k=lm.take k++x::lm.drop k:=by simp
 rw[he] at hO6
 obtain⟨a6,c6,hv6⟩:=(Yz.rd Y6.len hO6).form
 subst hv6
 refine⟨v4,w4,_,_,c5,w5,a6,_,c6,w6,hr4,hN4,by rw[hy];exact hr5,hN5,hr6,hN6,_,Z4i hO6 (fun b hb=>by have:=Vr hO6 hb;omega),rfl,fun y hy=>?_⟩
 have key:∀y u,Vh W o u y→Vh w6 o (Value.slice a6 (lm.take k++x::lm.drop k).length c6).ownBlock y:=fun y u h=>by
  have h6:=h.nw hN6
  refine⟨h6.rd,h6.cap,h6.len,h6.new,fun b e hq e2=>?_⟩
  have h1:=Z2t h.rd e hq
  have h2:=Vr hO6 e2
  omega
 rcases List.mem_append.1 hy with q | q
 ·exact key y _ (hok y (List.mem_of_mem_take q))
 ·rcases List.mem_cons.1 q with rfl | q
  ·exact key _ _ hx
  ·exact key y _ (hok y (List.mem_of_mem_drop q))
end Go.Proofs.YtpffldfpabglbaaGreatDoor
