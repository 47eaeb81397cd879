/- Texts merged: PhH, PoA, PoB, QuA, BdH, TbB, TbA, TbF, TbC, TbD, QuD, QuT, Lex, Ord, OrdP, QuE, QuG, QuI, QuJ, BkR -/
import Derived.Test.YtfepoibfbmehiaaGreatDoorTableNamesB4
import Derived.LaidEqlPtr
set_option linter.unusedVariables false
set_option maxRecDepth 100000
set_option maxHeartbeats 16000000
namespace Go.Proofs.YtfepoibfbmehiaaGreatDoor
open Go.RowKit _root_.Go.Proofs.Tryz
open Go.Shelf
def Zau(w:World)(hb ho:Nat)(v:Value)(s:List Int)(w':World):Prop :=
 ∃g' cap' l',Zt w' hb ho g' cap' l'∧IHs l' s∧(some g'=v.ownBlock∨w.heap.size≤g')∧Z3 (IOf hb v) w w'∧Yv hb ho w w'
theorem Z55(hb ho:Nat)(v:Value)(l s:List Int)(x:Int)(w:World)(h:IHv w hb ho v l)(hs:IHs l s)(hsm:l.length≤100000) :
  Calls prog 49 #[.iface 94 (.pointer (some ⟨hb,ho,none⟩)),.iface 3 (.int .i64 x)] w fun e w'=>e=.returned (.tuple #[])∧Zau w hb ho v (Z7w x s) w':=by
 have HP:=hD0 (Zbo hb ho v l x w h (by omega))
 have HS:=hD0 (aI0 h hs)
 have mP:=Zle
 have eP:=Zlc
 have eN:=Zhl
 clear h hs
 go_enter func49,ntmps49
 go_wp2_with fail
 refine HP.out.mono ?_
 rintro e w1 ⟨rfl,hw1⟩
 have H1:=hD0 hw1
 obtain⟨g',cap',hp,hor,ht,hsd⟩:=hw1
 have hd:=hp.hd
 have mN:=Zhn w1 _ _ _ hd
 have HU:=hD0 (fun j hj=>Zlj hb ho g' cap' (l++[x]) (l.length+1) j hj (by simp) w1 hp)
 have HX:=hD0 (Zld x HS.out.2.1)
 have HH:=hD0 (aI0 hor (aI0 ht (aI0 hsd hp)))
 clear hp hor ht hsd H1 HP mP
 rw[List.length_append] at mN hd
 simp only[List.length_cons,List.length_nil,Nat.zero_add] at mN hd
 go_wp2_with fail
 refine(Uu _ _ _ _).mono ?_
 rintro e w2 ⟨rfl,rfl⟩
 clear mN hd
 go_wp2_with fail
 refine(HU.out l.length (by omega) HX.out.1 HX.out.2.1 HX.out.2.2).mono ?_
 rintro e w2 ⟨rfl,hw2⟩
 have H2:=hD0 hw2
 clear hw2
 go_wp2
 go_end0
 obtain⟨l',p1,_,p3,p4,p5⟩:=H2.out
 obtain⟨hor,ht,hsd,hp⟩:=HH.out
 have hl:l'.length=l.length+1:=by rw[p1.length_eq];simp
 refine⟨rfl,g',cap',l',p4,⟨by rw[hl];exact p3,?_,Z2d x s HS.out.2.2.2⟩,hor,ht.trans' p5 (fun i hi e=>?_),hsd.trans (Yv.tch p5 hp.lt hp.ne)⟩
 ·exact p1.trans ((List.perm_append_comm).trans ((HS.out.2.2.1.cons x).trans (Ut x s).symm))
 ·subst e
  rcases hor with e | e
  ·exact .inr e.symm
  ·omega
def Zmt(w:World)(hb ho g cap:Nat)(s:List Int)(w':World):Prop :=
 ∃l',Zt w' hb ho g cap l'∧IHs l' s∧Z3 (fun k=>k=hb∨k=g) w w'∧Yv hb ho w w'
theorem Zej(hb ho g cap:Nat)(l s:List Int)(a:Int)(w:World)(h:Zt w hb ho g cap l)(hs:IHs l (a::s))(hsm:l.length≤100000) :
  Calls prog 84 #[.iface 94 (.pointer (some ⟨hb,ho,none⟩))] w fun e w'=>e=.returned (.iface 3 (.int .i64 a))∧Zmt w hb ho g cap s w':=by
 obtain⟨n,hn⟩:∃n,l.length=n+1:=⟨s.length,by rw[hs.len];rfl⟩
 have HS:=hD0 (aI0 h hs)
 have hd:=h.hd
 have mN:=Zhn w _ _ _ hd
 have mS:=Z2f w _ _ _ hd
 have HW:=hD0 (Z01 g cap l 0 n (by omega) (by omega) w h.row)
 rw[hn] at mN mS hd HW
 have mO:=Zor
 have eO:=Zoq
 have eN:=Zhl
 have eS:=Z7v
 clear h hs
 go_enter func84,ntmps84
 go_wp2_with fail
 refine(Uu _ _ _ _).mono ?_
 rintro e w2 ⟨rfl,rfl⟩
 clear mN
 go_wp2_with fail
 refine HW.out.mono ?_
 rintro e w1 ⟨rfl,hr1,ht1⟩
 have hat:=Z44 l (i:=0) (j:=n) (by omega) (by omega)
 have h1:=HS.out.1.turned ht1 hr1 (Yp _ _ _)
 have hH:=HS.out.2.1
 have HE:=hD0 (Zei hb ho g cap (Z1e l 0 n) n 0 (by rw[Yp];omega) (by rw[Yp];omega) (by omega) w1 h1
  (fun k h0 hk hne hpa=>by rw[hat,Uc _ (by omega) (by omega),Uc _ (by omega) (by omega)];exact hH k h0 (by omega))
  (fun h0=>absurd h0 (by omega)))
 have H1:=hD0 (aI0 ht1 hat)
 clear hr1 ht1 hat h1 mS hd hH
 go_wp2_with fail
 refine HE.out.mono ?_
 rintro e w2 hw2
 have H2:Hid _:=hw2
 obtain⟨b,l',rfl,p1,p2,p3,p4,p5⟩:=hw2
 have hl':l'.length=n+1:=by rw[p1.length_eq,Yp,hn]
 have hp:IHp (Y2 l') n:=by
  rcases p5 with⟨_,q⟩ | ⟨_,rfl,q⟩
  ·exact q
  ·intro k h0 hk
   by_cases e:(k-1)/2=0
   ·rw[e];exact q k h0 hk e
   ·rw[H1.out.2,Uc _ (by omega) (by omega),Uc _ (by omega) (by omega)];exact HS.out.2.1 k h0 (by omega)
 have hx:Y2 l' n=a:=by
  rw[p2 n (Nat.le_refl _),H1.out.2,Z9n];exact HS.out.2.head
 obtain⟨el,hs'⟩:=HS.out.2.cut (p1.trans (Z34 l (by omega) (by omega))) hl' hx hp (.refl _) (List.pairwise_cons.1 HS.out.2.2.2).2
 rw[el] at p3
 have HO:=hD0 (Zek hb ho g cap (l'.take n) a w2 p3)
 have H3:=hD0 (aI0 hs' p4)
 clear p1 p2 p3 p4 p5 hp hx el hs' H2 hl'
 go_wp2_with fail
 refine HO.out.mono ?_
 rintro e w3 ⟨rfl,q1,q2⟩
 have H4:=hD0 (aI0 q1 q2)
 clear q1 q2
 go_wp2
 go_ret
 refine⟨rfl,l'.take n,H4.out.1,H3.out.1,?_,?_⟩
 ·exact((H1.out.1.trans H3.out.2).mono (fun _ _ e=>Or.inr e)).trans (H4.out.2.1.mono (fun _ _ e=>Or.inl e))
 ·exact(Yv.tch (H1.out.1.trans H3.out.2) HS.out.1.lt HS.out.1.ne).trans H4.out.2.2
structure Po(w:World)(p g:Nat)(v:Value)(l:List Int)(L:List Bool):Prop where
 self:w.cell? ⟨p,0,none⟩=some (.pointer (some ⟨p,0,none⟩))
 row:w.cell? ⟨p,1,none⟩=some (.slice (some ⟨g,0,none⟩) L.length L.length)
 cells:∀i,i<L.length→w.cell? ⟨g,i,none⟩=some (.bool (L.getD i false))∧w.frozen? ⟨g,i,none⟩=false
 gl:g<w.heap.size
 hv:IHv w p 2 v l
 hs:IHs l (frI L)
 gp:g≠p
 gv:v.ownBlock≠some g
 sz:L.length≤128
def PoF(p g:Nat)(v:Value):Nat→Prop:=fun k=>k=p∨k=g∨v.ownBlock=some k
theorem Po.lt{w:World}{p g:Nat}{v:Value}{l:List Int}{L:List Bool}(h:Po w p g v l L):p<w.heap.size:=h.hv.lt
theorem Po.own{w:World}{p g:Nat}{v:Value}{l:List Int}{L:List Bool}(h:Po w p g v l L):∀k,PoF p g v k→k<w.heap.size:=by
 rintro k (rfl | rfl | e)
 ·exact h.lt
 ·exact h.gl
 ·exact IS.lt h.hv.row e
theorem Po.tch{S:Nat→Prop}{w w':World}{p g:Nat}{v:Value}{l:List Int}{L:List Bool}(h:Po w p g v l L)(k:Z3 S w w')(hS:∀k,PoF p g v k→¬S k):Po w' p g v l L :=
 ⟨(k.cell h.lt (hS _ (.inl rfl))).trans h.self,(k.cell h.lt (hS _ (.inl rfl))).trans h.row,fun i hi=>⟨(k.cell h.gl (hS _ (.inr (.inl rfl)))).trans (h.cells i hi).1,(k.froz h.gl (hS _ (.inr (.inl rfl)))).trans (h.cells i hi).2⟩,
  lL0 h.gl k.size,h.hv.tch k (hS _ (.inl rfl)) (fun b e=>hS b (.inr (.inr e))),h.hs,h.gp,h.gv,h.sz⟩
theorem Po.nw{w w':World}{p g:Nat}{v:Value}{l:List Int}{L:List Bool}(h:Po w p g v l L)(k:Nw w w'):Po w' p g v l L:=h.tch (Z3.nw (S:=fun _=>False) k) (fun _ _ e=>e)
theorem Po.llen{w:World}{p g:Nat}{v:Value}{l:List Int}{L:List Bool}(h:Po w p g v l L):l.length+liv L=L.length:=by rw[h.hs.len];exact Zcs L
def Pol(w:World)(p:Nat)(L:List Bool)(F:Nat→Prop):Prop:=∃g v l,Po w p g v l L∧F=PoF p g v
theorem Pol.own{w:World}{p:Nat}{L:List Bool}{F:Nat→Prop}(h:Pol w p L F):∀k,F k→k<w.heap.size:=by
 obtain⟨g,v,l,h,rfl⟩:=h;exact h.own
theorem Pol.tch{S:Nat→Prop}{w w':World}{p:Nat}{L:List Bool}{F:Nat→Prop}(h:Pol w p L F)(k:Z3 S w w')(hS:∀k,F k→¬S k):Pol w' p L F:=by
 obtain⟨g,v,l,h,rfl⟩:=h;exact⟨g,v,l,h.tch k hS,rfl⟩
theorem Pol.nw{w w':World}{p:Nat}{L:List Bool}{F:Nat→Prop}(h:Pol w p L F)(k:Nw w w'):Pol w' p L F:=by
 obtain⟨g,v,l,h,rfl⟩:=h;exact⟨g,v,l,h.nw k,rfl⟩
theorem Pol.sz{w:World}{p:Nat}{L:List Bool}{F:Nat→Prop}(h:Pol w p L F):L.length≤128:=by obtain⟨g,v,l,h,rfl⟩:=h;exact h.sz
def Z3d(w:World)(p:Nat)(F:Nat→Prop)(L:List Bool)(w':World):Prop:=∃F',Pol w' p L F'∧(∀k,F' k→F k∨w.heap.size≤k)∧Z3 F w w'
theorem Pol.to{w w':World}{p:Nat}{L:List Bool}{F:Nat→Prop}(h:Pol w p L F)(k:Nw w w'):Z3d w p F L w':=⟨F,h.nw k,fun _ e=>.inl e,Z3.nw k⟩
theorem Zhr:(prog.info? 92).isSome=true:=by kernel_rfl
theorem Zev(a:Addr)(w:World):Sem.run prog (binOp .eql 63 (.pointer (some a)) (.pointer (some a))) w=.ok (.bool true) w:=by
 obtain⟨j,hj⟩:=Option.isSome_iff_exists.1 Zhr
 exact run_eql_ptr_same w a underlying63 hj
theorem Vv(p:Nat)(w:World)(h:w.cell? ⟨p,0,none⟩=some (.pointer (some ⟨p,0,none⟩))):Calls prog 64 #[.pointer (some ⟨p,0,none⟩)] w fun e w'=>e=.returned (.bool true)∧w=w':=by
 have he:=Zev
 go_enter func64,ntmps64
 go_wp2
 go_ret
 exact⟨rfl,rfl⟩
theorem Zls{p g:Nat}{v:Value}{l:List Int}{L:List Bool}{w:World}(h:Po w p g v l L):Calls prog 89 #[.pointer (some ⟨p,0,none⟩)] w fun e w'=>e=.returned (.int .i64 L.length)∧w=w':=by
 have HM:=hD0 (Vv p w h.self)
 have hr:=h.row
 clear h
 go_enter func89,ntmps89
 go_wp2_with (go_at_call 64;refine HM.out.mono ?_;rintro e w' ⟨rfl,rfl⟩)
 go_ret
 exact⟨rfl,rfl⟩
theorem Zbj{p g:Nat}{v:Value}{l:List Int}{L:List Bool}{w:World}(h:Po w p g v l L)(n:Int):Calls prog 58 #[.pointer (some ⟨p,0,none⟩),.int .i64 n] w fun e w'=>e=.returned (.bool (hsL L n))∧w=w':=by
 have HM:=hD0 (Zls h)
 have hr:=h.row
 have hsz:=h.sz
 have hg:=h.gl
 by_cases hn:0≤n
 ·obtain⟨i,rfl⟩:=Int.eq_ofNat_of_zero_le hn
  by_cases hi:i<L.length
  ·have hc:=(h.cells i hi).1
   have e:hsL L i=L.getD i false:=by simp[hsL]
   rw[e]
   generalize L.getD i false=b at *
   generalize L.length=N at *
   clear h e hn
   go_enter func58,ntmps58
   go_wp2_with (go_at_call 89;refine HM.out.mono ?_;rintro e w' ⟨rfl,rfl⟩)
   go_ret
   exact⟨rfl,rfl⟩
  ·have e:hsL L i=false:=by simp[hsL,List.getElem?_eq_none (show L.length≤i by omega)]
   rw[e]
   generalize L.length=N at *
   have hd:decide (i<N)=false:=by simpa using hi
   clear h e hn hi
   go_enter func58,ntmps58
   go_wp2_with (go_at_call 89;refine HM.out.mono ?_;rintro e w' ⟨rfl,rfl⟩)
   go_ret
   exact⟨rfl,rfl⟩
 ·have e:hsL L n=false:=by simp[hsL,hn]
  rw[e]
  clear h e hr
  generalize L.length=N at *
  go_enter func58,ntmps58
  go_wp2
  go_ret
  exact⟨rfl,rfl⟩
theorem Zhm(a:Option Addr)(n c:Nat)(w:World):Calls prog 65 #[.slice a n c] w fun e w'=>e=.returned (.int .i64 n)∧w'=w:=(Uu a n c w).mono fun _ _ ⟨a,b⟩=>⟨a,b.symm⟩
theorem Zlo{p g:Nat}{v:Value}{l:List Int}{L:List Bool}{w:World}(h:Po w p g v l L):Calls prog 38 #[.pointer (some ⟨p,0,none⟩)] w fun e w'=>e=.returned (.int .i64 (liv L))∧Nw w w':=by
 have HM:=hD0 (Vv p w h.self)
 have hr:=h.row
 have hsz:=h.sz
 have hl:=h.llen
 have hd:=h.hv.hd
 have hw:IntKind.i64.wrap ((L.length:Int)-(l.length:Int))=(liv L:Int):=by rw[IntKind.wrap_i64]<;>omega
 have Z1:l.length≤128:=by omega
 have hvf:=h.hv.form
 clear h
 generalize L.length=N at *
 generalize hM:l.length=M at *
 generalize liv L=K at *
 have HL:=hD0 hl
 clear hl
 rcases hvf with⟨rfl,rfl⟩ | ⟨g2,cap,rfl,_⟩
 ·obtain rfl:0=M:=hM
  obtain rfl:K=N:=by have:=HL.out;omega
  clear hw
  go_enter func38,ntmps38
  go_wp2_with (go_at_call 64;refine HM.out.mono ?_;rintro e w' ⟨rfl,rfl⟩)
  go_quiet ((go_at_call 65;exact Calls.quiet_of_same (Zhm _ _ _ _)))
  go_wp2
  go_ret
  exact⟨rfl,(Nw.refl w).drewN _⟩
 ·go_enter func38,ntmps38
  go_wp2_with (go_at_call 64;refine HM.out.mono ?_;rintro e w' ⟨rfl,rfl⟩)
  go_quiet ((go_at_call 65;exact Calls.quiet_of_same (Zhm _ _ _ _)))
  go_wp2
  go_ret
  exact⟨rfl,(Nw.refl w).drewN _⟩
def tkR(L:List Bool):Int × Int:=if Zm L<L.length then(Zm L,0) else(0,8)
def gvR(L:List Bool)(n:Int):Int:=if hsL L n=true then 0 else 5
theorem Z5u{L:List Bool}(h:¬Zm L<L.length):tkL L=L:=if_neg h
theorem Zkx{L:List Bool}{n:Int}(h:hsL L n=false):gvL L n=L:=by
 unfold gvL
 rw[if_neg]
 rintro⟨a,b⟩
 simp only[hsL,a,b,decide_true,Bool.and_self] at h
 cases h
theorem Z30{L:List Bool}{n:Int}(h:hsL L n=true):∃i:Nat,n=i∧∃hi:i<L.length,L[i]=true:=by
 unfold hsL at h
 simp only[Bool.and_eq_true,decide_eq_true_eq] at h
 obtain⟨a,b⟩:=h
 obtain⟨i,rfl⟩:=Int.eq_ofNat_of_zero_le a
 exact⟨i,rfl,Z7q (by simpa using b)⟩
theorem Zl4{L:List Bool}{i:Nat}(h:i<L.length):hsL L i=L[i]:=by simp[hsL,h]
theorem Zfb{p g:Nat}{v:Value}{l:List Int}{L:List Bool}{w:World}(h:Po w p g v l L)(q:¬Zm L<L.length):Calls prog 54 #[.pointer (some ⟨p,0,none⟩)] w fun e w'=>e=.returned (.tuple #[.int .i64 0,.int .i64 8])∧w=w':=by
 have HM:=hD0 (Vv p w h.self)
 have hl:l.length=0:=by
  rw[h.hs.len,Z98 (by have:=Z51 L;omega)];rfl
 have hd:=h.hv.hd
 have hvf:=h.hv.form
 clear h q
 rcases hvf with⟨rfl,_⟩ | ⟨g2,cap,rfl,_⟩
 ·go_enter func54,ntmps54
  go_wp2_with (first | (go_at_call 64;refine HM.out.mono ?_;rintro e w' ⟨rfl,rfl⟩) | (go_at_call 65;refine(Uu _ _ _ _).mono ?_;rintro e w' ⟨rfl,rfl⟩))
  exact bodyPost_ret (v:=.tuple #[.int .i64 0,.int .i64 8]) (by simp[results,results54,go_sem]) rfl ⟨rfl,rfl⟩
 ·rw[hl] at hd
  go_enter func54,ntmps54
  go_wp2_with (first | (go_at_call 64;refine HM.out.mono ?_;rintro e w' ⟨rfl,rfl⟩) | (go_at_call 65;refine(Uu _ _ _ _).mono ?_;rintro e w' ⟨rfl,rfl⟩))
  exact bodyPost_ret (v:=.tuple #[.int .i64 0,.int .i64 8]) (by simp[results,results54,go_sem]) rfl ⟨rfl,rfl⟩
theorem Za2(y:Value)(w:World):Sem.run prog (Instr.typeAssert (.iface 3 y) 20 3 false) w=.ok y w:=Z6g y w
theorem Po.popped{p g g2 cap:Nat}{l:List Int}{L:List Bool}{w w1:World}(h:Po w p g (.slice (some ⟨g2,0,none⟩) l.length cap) l L)(q:Zm L<L.length)(hp:Zmt w p 2 g2 cap (frI (tkL L)) w1) :
  Z3d w p (PoF p g (.slice (some ⟨g2,0,none⟩) l.length cap)) (tkL L) (w1.setCell ⟨g,Zm L,none⟩ (.bool true))∧w1.cell? ⟨p,1,none⟩=some (.slice (some ⟨g,0,none⟩) L.length L.length)∧w1.cell? ⟨g,Zm L,none⟩=some (.bool false)∧w1.frozen? ⟨g,Zm L,none⟩=false∧g<w1.heap.size:=by
 obtain⟨l',hp,hs,ht,hsd⟩:=hp
 have hg2:g≠g2:=fun e=>h.gv (by simp[Value.ownBlock,e])
 have hgS:¬(g=p∨g=g2):=fun e=>e.elim h.gp hg2
 have hsz:=ht.size
 have hgl:=h.gl
 have hfr:=Ur L q
 have c1:=(hsd 1 (by omega)).1.trans h.row
 have cg:=fun i hi=>aI0 ((ht.cell (o:=i) hgl hgS).trans (h.cells i hi).1) ((ht.froz (o:=i) hgl hgS).trans (h.cells i hi).2)
 have t2:=Zp w1 ⟨g,Zm L,none⟩ (.bool true)
 refine⟨⟨PoF p g (.slice (some ⟨g2,0,none⟩) l'.length cap),⟨g,_,l',?_,rfl⟩,?_,?_⟩,c1,?_,(cg _ q).2,by omega⟩
 ·have hv:=hp.v.tch t2 (fun e=>h.gp e.symm) (fun b e=>by simp[Value.ownBlock] at e;subst e;exact fun e=>hg2 e.symm)
  refine⟨?_,?_,fun i hi=>?_,by simp;omega,hv,hs,h.gp,by simpa [Value.ownBlock] using(fun e=>hg2 e.symm),by rw[Vi];exact h.sz⟩
  ·rw[t2.cell hp.lt (fun e=>h.gp e.symm)]
   exact(hsd 0 (by omega)).1.trans h.self
  ·rw[t2.cell hp.lt (fun e=>h.gp e.symm),Vi]
   exact c1
  ·rw[Vi] at hi
   refine⟨?_,by rw[World.frozen?_setCell];exact(cg i hi).2⟩
   unfold tkL
   rw[if_pos q]
   by_cases e:Zm L=i
   ·subst e
    rw[Yc (by simpa using hi),List.getElem_set_self]
    exact World.cell?_setCell_same _ _ _ (cg _ hi).1
   ·rw[Yc (by simpa using hi),List.getElem_set_ne e,←Yc hi]
    exact(World.cell?_setCell_other _ _ _ _ (fun q=>e (congrArg Addr.off q))).trans (cg i hi).1
 ·intro k e
  rcases e with e | e | e
  ·exact .inl (.inl e)
  ·exact .inl (.inr (.inl e))
  ·exact .inl (.inr (.inr e))
 ·refine(ht.mono (fun k _ e=>?_)).trans (t2.mono (fun k _ e=>.inr (.inl e)))
  rcases e with e | e
  ·exact .inl e
  ·exact .inr (.inr (by rw[e];rfl))
 ·rw[(cg _ q).1,Yc q,hfr]
theorem Zfd{p g:Nat}{v:Value}{l:List Int}{L:List Bool}{w:World}(h:Po w p g v l L)(q:Zm L<L.length):Calls prog 54 #[.pointer (some ⟨p,0,none⟩)] w fun e w'=>e=.returned (.tuple #[.int .i64 (Zm L),.int .i64 0])∧Z3d w p (PoF p g v) (tkL L) w':=by
 have HM:=hD0 (Vv p w h.self)
 have hll:=h.llen
 have hsz:=h.sz
 have hq:liv L<L.length:=by
  rcases Nat.lt_or_ge (liv L) L.length with a | a
  ·exact a
  ·have:=Zox L
   have:=(Zi3 (L:=L)).1 (by omega)
   omega
 rcases h.hv.form with⟨rfl,rfl⟩ | ⟨g2,cap,rfl,hp⟩
 ·simp at hll;omega
 ·have hs:=h.hs
  rw[Z99 q] at hs
  have HP:=hD0 (Zej p 2 g2 cap l (frI (tkL L)) (Zm L) w hp hs (by omega))
  have HQ:=hD0 (fun w1 k=>h.popped q (w1:=w1) k)
  have hd:=h.hv.hd
  have ta:=Za2
  have hm:decide ((l.length:Int)=0)=false:=by simp;intro e;subst e;simp at hll;omega
  have hm2:((l.length:Int)==0)=false:=by simp;intro e;subst e;simp at hll;omega
  have hne:l.length≠0:=by omega
  have Z1:=h.lt
  have qi:(Zm L:Int)<(L.length:Int):=by omega
  clear h hp hs
  generalize Zm L=i at *
  generalize L.length=N at *
  generalize l.length=M at *
  go_enter func54,ntmps54
  go_wp2_with (first | (go_at_call 64;refine HM.out.mono ?_;rintro e w' ⟨rfl,rfl⟩) | (go_at_call 65;refine(Uu _ _ _ _).mono ?_;rintro e w' ⟨rfl,rfl⟩))
  refine HP.out.mono ?_
  rintro e w1 ⟨rfl,hw1⟩
  obtain⟨a1,a2,a3,a4,a5⟩:=HQ.out w1 hw1
  have HA:=hD0 a1
  clear a1 hw1
  go_wp2
  exact bodyPost_ret (v:=.tuple #[.int .i64 i,.int .i64 0]) (by simp[results,results54,go_sem]) rfl ⟨rfl,HA.out⟩
theorem Zam{p:Nat}{L:List Bool}{F:Nat→Prop}{w:World}(h:Pol w p L F):Calls prog 54 #[.pointer (some ⟨p,0,none⟩)] w fun e w'=>e=.returned (.tuple #[.int .i64 (tkR L).1,.int .i64 (tkR L).2])∧Z3d w p F (tkL L) w':=by
 by_cases q:Zm L<L.length
 ·rw[show tkR L=(↑(Zm L),0) from if_pos q]
  obtain⟨g,v,l,h,rfl⟩:=h
  exact Zfd h q
 ·rw[show tkR L=(0,8) from if_neg q,Z5u q]
  have h2:=h
  obtain⟨g,v,l,h,rfl⟩:=h
  refine(Zfb h q).mono ?_
  rintro e w' ⟨rfl,rfl⟩
  exact⟨rfl,h2.to (Nw.refl _)⟩
theorem Po.stored{p g:Nat}{v:Value}{l:List Int}{L:List Bool}{w:World}(h:Po w p g v l L)(i:Nat):IHv (w.setCell ⟨g,i,none⟩ (.bool false)) p 2 v l :=
 h.hv.tch (Zp w ⟨g,i,none⟩ (.bool false)) (fun e=>h.gp e.symm) (fun b e=>by intro q;exact h.gv (by rw[e,q]))
theorem Po.pushed{p g:Nat}{v:Value}{l:List Int}{L:List Bool}{w w2:World}(h:Po w p g v l L){i:Nat}(hi:i<L.length)(e:L[i]=true)(hp:Zau (w.setCell ⟨g,i,none⟩ (.bool false)) p 2 v (frI (L.set i false)) w2) :
  Z3d w p (PoF p g v) (L.set i false) w2:=by
 obtain⟨g',cap',l',hp,hs,hor,ht,hsd⟩:=hp
 have t1:=Zp w ⟨g,i,none⟩ (.bool false)
 have hgS:¬IOf p v g:=fun e=>e.elim h.gp (fun q=>h.gv q)
 have hgl:=h.gl
 have hs1:(w.setCell ⟨g,i,none⟩ (.bool false)).heap.size=w.heap.size:=by simp
 have hgg:g≠g':=by
  rintro rfl
  rcases hor with q | q
  ·exact h.gv q.symm
  ·omega
 have cp:∀o,o≠2→w2.cell? ⟨p,o,none⟩=w.cell? ⟨p,o,none⟩:=fun o ho=>(hsd o ho).1.trans (t1.cell h.lt (fun q=>h.gp q.symm))
 refine⟨PoF p g (.slice (some ⟨g',0,none⟩) l'.length cap'),⟨g,_,l',?_,rfl⟩,?_,?_⟩
 ·refine⟨(cp 0 (by omega)).trans h.self,by rw[List.length_set];exact(cp 1 (by omega)).trans h.row,fun j hj=>?_,by have:=ht.size;omega,hp.v,hs,h.gp,by simpa [Value.ownBlock] using(fun q=>hgg q.symm),by rw[List.length_set];exact h.sz⟩
  rw[List.length_set] at hj
  refine⟨(ht.cell (by omega) hgS).trans ?_,((ht.froz (by omega) hgS).trans (World.frozen?_setCell _ _ _ _)).trans (h.cells j hj).2⟩
  by_cases q:i=j
  ·subst q
   rw[Yc (by simpa using hj),List.getElem_set_self]
   exact World.cell?_setCell_same _ _ _ (h.cells _ hj).1
  ·rw[Yc (by simpa using hj),List.getElem_set_ne q,←Yc hj]
   exact(World.cell?_setCell_other _ _ _ _ (fun r=>q (congrArg Addr.off r))).trans (h.cells j hj).1
 ·rintro k (e | e | e)
  ·exact .inl (.inl e)
  ·exact .inl (.inr (.inl e))
  ·simp[Value.ownBlock] at e
   subst e
   rcases hor with q | q
   ·exact .inl (.inr (.inr q.symm))
   ·exact .inr (by omega)
 ·refine(t1.mono (fun k _ e=>.inr (.inl e))).trans (ht.mono (fun k _ e=>?_))
  rcases e with e | e
  ·exact .inl e
  ·exact .inr (.inr e)
theorem Z9e{p g:Nat}{v:Value}{l:List Int}{L:List Bool}{w:World}(h:Po w p g v l L)(n:Int)(q:hsL L n=false):Calls prog 50 #[.pointer (some ⟨p,0,none⟩),.int .i64 n] w fun e w'=>e=.returned (.int .i64 5)∧w=w':=by
 have HM:=hD0 (Vv p w h.self)
 have hh:=Zbj h n
 rw[q] at hh
 have HH:=hD0 hh
 clear h hh q
 go_enter func50,ntmps50
 go_wp2_with (first | (go_at_call 64;refine HM.out.mono ?_;rintro e w' ⟨rfl,rfl⟩) | (go_at_call 58;refine HH.out.mono ?_;rintro e w' ⟨rfl,rfl⟩))
 go_ret
 exact⟨rfl,rfl⟩
theorem Zkw{p g:Nat}{v:Value}{l:List Int}{L:List Bool}{w:World}(h:Po w p g v l L)(i:Nat)(hi:i<L.length)(e:L[i]=true):Calls prog 50 #[.pointer (some ⟨p,0,none⟩),.int .i64 i] w fun e w'=>e=.returned (.int .i64 0)∧Z3d w p (PoF p g v) (L.set i false) w':=by
 have HM:=hD0 (Vv p w h.self)
 have hh:=Zbj h i
 rw[Zl4 hi,e] at hh
 have HH:=hD0 hh
 have hp:=Z55 p 2 v l (frI L) i _ (h.stored i) h.hs (by have:=h.llen;have:=h.sz;omega)
 rw[Zh1 hi e] at hp
 have HP:=hD0 hp
 have HQ:=hD0 (fun w2 k=>h.pushed hi e (w2:=w2) k)
 have hr:=h.row
 have hf:=(h.cells i hi).2
 have hc:=(h.cells i hi).1
 have hgl:=h.gl
 have hpl:=h.lt
 have hsz:=h.sz
 clear h hh hp e
 generalize L.getD i false=b at *
 generalize L.length=N at *
 go_enter func50,ntmps50
 go_wp2_with (first | (go_at_call 64;refine HM.out.mono ?_;rintro e w' ⟨rfl,rfl⟩) | (go_at_call 58;refine HH.out.mono ?_;rintro e w' ⟨rfl,rfl⟩))
 refine HP.out.mono ?_
 rintro e w1 ⟨rfl,hw1⟩
 have HA:=hD0 (HQ.out w1 hw1)
 clear hw1
 go_wp2
 go_ret
 exact⟨rfl,HA.out⟩
theorem Zh6{p:Nat}{L:List Bool}{F:Nat→Prop}{w:World}(h:Pol w p L F)(n:Int):Calls prog 50 #[.pointer (some ⟨p,0,none⟩),.int .i64 n] w fun e w'=>e=.returned (.int .i64 (gvR L n))∧Z3d w p F (gvL L n) w':=by
 have h2:=h
 obtain⟨g,v,l,h,rfl⟩:=h
 rcases q:hsL L n with _ | _
 ·rw[Zkx q,show gvR L n=5 by simp[gvR,q]]
  refine(Z9e h n q).mono ?_
  rintro e w' ⟨rfl,rfl⟩
  exact⟨rfl,h2.to (Nw.refl _)⟩
 ·rw[show gvR L n=0 by simp[gvR,q]]
  obtain⟨i,rfl,hi,e⟩:=Z30 q
  rw[Z42 L i (by rw[Yc hi];exact e)]
  exact Zkw h i hi e
def Zi(r:Rq):List Value:=[.int .i64 r.id,.int .i64 r.txn,.int .i64 r.md,.int .i64 r.wt,.int .i64 r.sn]
def rqV(r:Rq):Value:=.agg #[.int .i64 r.id,.int .i64 r.txn,.int .i64 r.md,.int .i64 r.wt,.int .i64 r.sn]
def Un(t r:Int)(v:Value)(W:Int):Value:=.agg #[.int .i64 t,.int .i64 r,v,.int .i64 W]
theorem Zgq:Z20 prog 81 43 5 40 Zi where
 und:=underlying81
 inf:=by
  have h:(prog.info? 43).map (fun i=>(i.zero,i.size,i.bytes))=some (some (.agg #[.int .i64 0,.int .i64 0,.int .i64 0,.int .i64 0,.int .i64 0]),5,40):=by kernel_rfl
  cases e:prog.info? 43 with
  | none=>rw[e] at h;cases h
  | some i =>
   rw[e] at h
   simp only[Option.map_some,Option.some.injEq,Prod.mk.injEq] at h
   exact⟨i,_,rfl,h.1,h.2.1,h.2.2,rfl⟩
 pos:=by decide
 byt:=by decide
 len:=fun _=>rfl
 one:=fun a u hu=>by
  simp only[Zi,List.mem_cons,List.not_mem_nil,or_false] at hu
  rcases hu with rfl | rfl | rfl | rfl | rfl<;>rfl
abbrev Zu:=Rd 5 Zi
abbrev Z7(w:World)(g0:Nat)(v:Value)(q:List Rq):Prop:=Up 43 5 Zi w g0 v q
theorem Z7.rd{w:World}{g0:Nat}{v:Value}{q:List Rq}(h:Z7 w g0 v q):Zu w v q:=Up.rd (fun _=>rfl) h
structure Zat(w:World)(p:Nat)(t r:Int)(v:Value)(W:Int):Prop where
 lt:p<w.heap.size
 c0:w.cell? ⟨p,0,none⟩=some (.int .i64 t)
 c1:w.cell? ⟨p,1,none⟩=some (.int .i64 r)
 c2:w.cell? ⟨p,2,none⟩=some v
 c3:w.cell? ⟨p,3,none⟩=some (.int .i64 W)
theorem Zat.nw{w w':World}{p:Nat}{t r:Int}{v:Value}{W:Int}(h:Zat w p t r v W)(g:Nw w w'):Zat w' p t r v W :=
 ⟨lL0 h.lt g.sz,(g.cell h.lt).trans h.c0,(g.cell h.lt).trans h.c1,(g.cell h.lt).trans h.c2,(g.cell h.lt).trans h.c3⟩
theorem Zat.made(w:World)(t r:Int)(v:Value)(W:Int)(T:TypeId):Zat (w.alloc (.cells #[.int .i64 t,.int .i64 r,v,.int .i64 W] T)) w.heap.size t r v W:=by
 have h:=Z2 w (.cells #[.int .i64 t,.int .i64 r,v,.int .i64 W] T)
 exact⟨Z1 h,Z0 h,Z0 h,Z0 h,Z0 h⟩
section
open Go.RowKit Go.Sort Go.Shelf
attribute [local go_sem] Oper.semAt_some
def hpV(x:Hp):Value:=.slice x.a x.h.q.length x.c
structure Z3p(w:World)(F:Nat→Prop)(x:Hp):Prop where
 c0:w.cell? ⟨x.p,0,none⟩=some (.int .i64 x.h.t)
 c1:w.cell? ⟨x.p,1,none⟩=some (.int .i64 x.h.r)
 c2:w.cell? ⟨x.p,2,none⟩=some (.slice x.a x.h.q.length x.c)
 c3:w.cell? ⟨x.p,3,none⟩=some (.int .i64 x.h.W)
 rd:Zu w (hpV x) x.h.q
 cap:x.h.q.length≤x.c
 len:x.h.q.length≤1000
 nf:¬F x.p
 qf:∀b,x.a=some b→x.h.q≠[]→¬F b.block
structure Db(w:World)(o mb po n:Nat)(l:List Hp)(L:List Bool)(F:Nat→Prop):Prop where
 c0:w.cell? ⟨o,0,none⟩=some (.pointer (some ⟨o,0,none⟩))
 c1:w.cell? ⟨o,1,none⟩=some (.int .i64 n)
 c2:w.cell? ⟨o,2,none⟩=some (.pointer (some ⟨po,0,none⟩))
 c3:w.cell? ⟨o,3,none⟩=some (.map (some mb))
 ol:o<w.heap.size
 nf:¬F o
 mf:¬F mb
 map:Zl w mb l
 srt:Z4h l
 ok:∀x∈l,Z3p w F x
 pol:Pol w po L F
 len:l.length≤64
theorem Z3p.lt{w:World}{F:Nat→Prop}{x:Hp}(h:Z3p w F x):x.p<w.heap.size:=World.block_lt_of_cell? _ _ h.c0
theorem Zl.cellne{w:World}{mb:Nat}{l:List Hp}(h:Zl w mb l){b j:Nat}{v:Value}(hc:w.cell? ⟨b,j,none⟩=some v):b≠mb:=by
 obtain⟨⟨es,⟨a,c,h1,_⟩,_⟩,_⟩:=h
 rintro rfl
 unfold World.cell? at hc
 simp only[h1] at hc
 cases hc
theorem Db.omb{w:World}{o mb po n:Nat}{l:List Hp}{L:List Bool}{F:Nat→Prop}(h:Db w o mb po n l L F):o≠mb:=h.map.cellne h.c0
theorem Z3p.qne{w:World}{F:Nat→Prop}{x:Hp}(h:Z3p w F x){mb:Nat}{l:List Hp}(m:Zl w mb l):∀b,x.a=some b→x.h.q≠[]→b.block≠mb:=fun b e hq=>by
 obtain⟨a,c,e1,⟨q,_⟩ | ⟨b',o',e2,hc⟩⟩:=h.rd
 ·exact absurd q hq
 ·unfold hpV at e1
  rw[e,e2] at e1
  injection e1 with e1 _ _
  injection e1 with e1
  subst e1
  obtain⟨y,t,hy⟩:=List.exists_cons_of_ne_nil hq
  have h0:0<x.h.q.length:=by rw[hy];simp
  have:=hc.cell 0 h0 0 _ rfl
  exact m.cellne this
theorem Z3p.step{w w':World}{F F':Nat→Prop}{x:Hp}{S:Nat→Prop}(h:Z3p w F x)(t:Z3 S w w')(hp:¬S x.p)(hq:∀b,x.a=some b→x.h.q≠[]→¬S b.block)(hF:∀k,F' k→F k∨w.heap.size≤k):Z3p w' F' x:=by
 have hpl:=h.lt
 refine⟨(t.cell hpl hp).trans h.c0,(t.cell hpl hp).trans h.c1,(t.cell hpl hp).trans h.c2,(t.cell hpl hp).trans h.c3,?_,h.cap,h.len,fun e=>(hF _ e).elim h.nf (fun q=>by omega),fun b e hne q=>?_⟩
 ·obtain⟨a,c,e,q | ⟨b,o',e2,hc⟩⟩:=h.rd
  ·exact⟨a,c,e,.inl q⟩
  ·subst e2
   by_cases hqn:x.h.q=[]
   ·exact⟨_,c,e,.inl ⟨hqn,fun q=>by cases q⟩⟩
   have hb:¬S b:=hq _ (by unfold hpV at e;injection e) hqn
   exact⟨_,c,e,.inr ⟨b,o',rfl,lL0 hc.lt t.size,fun i hi c u hu=>(t.cell hc.lt hb).trans (hc.cell i hi c u hu)⟩⟩
 ·rcases hF _ q with q | q
  ·exact h.qf b e hne q
  ·obtain⟨a,c,e1,⟨q1,_⟩ | ⟨b',o',e2,hc⟩⟩:=h.rd
   ·exact hne q1
   ·unfold hpV at e1
    rw[e,e2] at e1
    injection e1 with e1 _ _
    injection e1 with e1
    subst e1
    have:=hc.lt
    have e3:(⟨b',o',none⟩:Addr).block=b':=rfl
    omega
theorem Db.tch{w w':World}{o mb po n:Nat}{l:List Hp}{L:List Bool}{F:Nat→Prop}{S:Nat→Prop}(h:Db w o mb po n l L F)(t:Z3 S w w')(ho:¬S o)(hm:¬S mb)(hF:∀k,F k→¬S k)(hx:∀x∈l,¬S x.p∧∀b,x.a=some b→x.h.q≠[]→¬S b.block):Db w' o mb po n l L F :=
 ⟨(t.cell h.ol ho).trans h.c0,(t.cell h.ol ho).trans h.c1,(t.cell h.ol ho).trans h.c2,(t.cell h.ol ho).trans h.c3,lL0 h.ol t.size,h.nf,h.mf,h.map.tch t hm,h.srt,
  fun x q=>(h.ok x q).step t (hx x q).1 (hx x q).2 (fun k e=>.inl e),h.pol.tch t hF,h.len⟩
theorem Db.nw{w w':World}{o mb po n:Nat}{l:List Hp}{L:List Bool}{F:Nat→Prop}(h:Db w o mb po n l L F)(g:Nw w w'):Db w' o mb po n l L F:=h.tch (Z3.nw (S:=fun _=>False) g) (fun e=>e) (fun e=>e) (fun _ _ e=>e) (fun _ _=>⟨fun e=>e,fun _ _ _ e=>e⟩)
def Znl(l:List Hp)(b:Nat):Prop:=∃x∈l,b=x.p∨∃a,x.a=some a∧x.h.q≠[]∧b=a.block
def HdN(w:World)(l l':List Hp):Prop:=∀b,Znl l' b→Znl l b∨w.heap.size≤b
theorem HdN.refl(w:World)(l:List Hp):HdN w l l:=fun _ e=>.inl e
theorem HdN.pre{w w1:World}{l l':List Hp}(h:HdN w1 l l')(g:w.heap.size≤w1.heap.size):HdN w l l':=fun b e=>(h b e).imp id (fun q=>Nat.le_trans g q)
def V9(w:World)(o mb po n:Nat)(F:Nat→Prop)(l:List Hp)(w':World)(l':List Hp)(L':List Bool):Prop:=∃F',Db w' o mb po n l' L' F'∧(∀k,F' k→F k∨w.heap.size≤k)∧Z3 (fun b=>b=mb∨F b) w w'∧HdN w l l'
theorem Db.to{w w':World}{o mb po n:Nat}{l:List Hp}{L:List Bool}{F:Nat→Prop}(h:Db w o mb po n l L F)(g:Nw w w'):V9 w o mb po n F l w' l L:=⟨F,h.nw g,fun _ e=>.inl e,Z3.nw g,HdN.refl w l⟩
theorem V9.pre{w w1 w':World}{o mb po n:Nat}{F:Nat→Prop}{l l':List Hp}{L':List Bool}(g:Nw w w1)(h:V9 w1 o mb po n F l w' l' L'):V9 w o mb po n F l w' l' L':=by
 obtain⟨F',h1,h2,h3,h4⟩:=h
 exact⟨F',h1,fun k e=>(h2 k e).imp id (fun q=>Nat.le_trans g.sz q),(Z3.nw g).trans h3,h4.pre g.sz⟩
theorem Db.pool{w w':World}{o mb po n:Nat}{l:List Hp}{L L':List Bool}{F:Nat→Prop}(h:Db w o mb po n l L F)(k:Z3d w po F L' w'):V9 w o mb po n F l w' l L':=by
 obtain⟨F',h1,h2,h3⟩:=k
 have hml:=h.map.lt
 have hol:=h.ol
 refine⟨F',⟨(h3.cell hol h.nf).trans h.c0,(h3.cell hol h.nf).trans h.c1,(h3.cell hol h.nf).trans h.c2,(h3.cell hol h.nf).trans h.c3,lL0 hol h3.size,fun e=>(h2 _ e).elim h.nf (fun q=>by omega),fun e=>(h2 _ e).elim h.mf (fun q=>by omega),h.map.tch h3 h.mf,h.srt,
  fun x q=>(h.ok x q).step h3 (h.ok x q).nf (h.ok x q).qf h2,h1,h.len⟩,h2,h3.mono (fun _ _ e=>.inr e),HdN.refl w l⟩
theorem Zm9{ss:List (Int × Int)}{l:List Hp}(p:ss.Perm (Z0t l))(s:Z4h l):Z8d ss=Z0t l:=by
 have tr:∀a b c:Int × Int,(!(ltOf Uh b a))=true→(!(ltOf Uh c b))=true→(!(ltOf Uh c a))=true:=fun a b c h1 h2=>by
  rw[Vh] at *;simp only[Bool.not_eq_true',decide_eq_false_iff_not] at *;unfold Ud at *;omega
 have to:∀a b:Int × Int,((!(ltOf Uh b a)) || !(ltOf Uh a b))=true:=fun a b=>by
  rw[Vh,Vh];simp only[Bool.or_eq_true,Bool.not_eq_true',decide_eq_false_iff_not];unfold Ud;omega
 refine List.Perm.eq_of_pairwise (le:=fun a b=>(!(ltOf Uh b a))=true) (fun a b _ _ h1 h2=>Z8u a b (by simpa using h2) (by simpa using h1)) (List.pairwise_mergeSort tr to ss) ?_ ((List.mergeSort_perm ss _).trans p)
 refine List.pairwise_map.2 (s.imp fun {a b} h=>?_)
 rw[Vh]
 simp only[Bool.not_eq_true',decide_eq_false_iff_not]
 intro q
 exact Ys _ (Z1w h q)
theorem Z5k(gf:Nat)(lb:Array Value)(eg:∀args w,(callFunc gf args).run prog w=.ok (.enter gf args) w)(Pre Fin:List (Int × Int)→Prop)(S0:Nat→Prop)(w:World)(hsm:∀xs,Pre xs→xs.length≤100000)(hfm:∀xs,Fin xs→xs.length≤100000)
  (hS0:∀k,S0 k→k<w.heap.size) (hseq:Z76 Fence.wide 4 prog gf #[] lb nmV Pre Fin S0 w) :
  Calls prog 119 #[.func (.func gf) #[] lb,.func (.func 121) #[] #[]] w fun e w'=>∃v xs,e=.returned v∧Fin xs∧Z3c w' w.heap.size v (Z8d xs)∧Nw w w':=by
 have HC:=hD0 (Z7n gf lb eg Pre Fin S0 w hsm hS0 hseq)
 clear hseq hS0 hsm
 go_enter func119,ntmps119
 go_wp2_with fail
 refine HC.out.mono ?_
 rintro e w1 ⟨v,xs,rfl,hf,hO,g1⟩
 have hxl:=hfm xs hf
 have HF:=hD0 (aI0 hf g1)
 have HO:=hD0 hO
 rcases V4 hO with⟨rfl,hz⟩ | ⟨g,cap,rfl⟩
 ·have HS:=hD0 (AnyF.slices_SortFunc_none (P:=prog) { Tryz.sortN with } none 0 (.func (.func 121) #[] #[]) w1)
  have hx:xs=[]:=List.length_eq_zero_iff.1 hz
  subst hx
  clear hO hf g1 hxl hz hfm
  go_wp2_with fail
  refine Calls.mono HS.out ?_
  rintro e w2 ⟨rfl,rfl⟩
  go_wp2
  go_ret
  have e0:Z8d ([]:List (Int × Int))=[]:=by unfold Z8d;simp
  exact⟨_,[],rfl,HF.out.1,by rw[e0];exact HO.out,HF.out.2⟩
 ·have HS:=hD0 (Zc4 w.heap.size g cap xs w1 hO hxl)
  have HG:=hD0 (oge hO rfl)
  clear hO hf g1 hxl hfm
  go_wp2_with fail
  refine HS.out.mono ?_
  rintro e w2 ⟨rfl,hO2,ht⟩
  have HO2:=hD0 hO2
  have HT:=hD0 ht
  clear hO2 ht
  go_wp2
  go_ret
  exact⟨_,xs,rfl,HF.out.1,HO2.out,Yu HF.out.2 HT.out (fun i e=>by have:=HG.out;omega)⟩
end
theorem Db.other{w w':World}{o mb po n mb':Nat}{l l2:List Hp}{L L':List Bool}{F F':Nat→Prop}(h:Db w o mb po n l L F)(m2:Zl w mb' l2)(hne:mb≠mb')(t:Z3 (fun b=>b=mb'∨F b) w w')(hp:Pol w' po L' F')(hF:∀k,F' k→F k∨w.heap.size≤k):Db w' o mb po n l L' F':=by
 have hol:=h.ol
 have hml:=h.map.lt
 have ho:¬(o=mb'∨F o):=fun e=>e.elim (m2.cellne h.c0) h.nf
 have hm:¬(mb=mb'∨F mb):=fun e=>e.elim hne h.mf
 exact⟨(t.cell hol ho).trans h.c0,(t.cell hol ho).trans h.c1,(t.cell hol ho).trans h.c2,(t.cell hol ho).trans h.c3,lL0 hol t.size,fun e=>(hF _ e).elim h.nf (fun q=>by omega),fun e=>(hF _ e).elim h.mf (fun q=>by omega),h.map.tch t hm,h.srt,
  fun x q=>(h.ok x q).step t (fun e=>e.elim (m2.cellne (h.ok x q).c0) (h.ok x q).nf) (fun b e hq e2=>e2.elim ((h.ok x q).qne m2 b e hq) ((h.ok x q).qf b e hq)) hF,hp,h.len⟩
def Z06(hss:List (List Hq)):List Int:=hss.flatMap Z4
def Z5q(hss:List (List Hq))(i:Nat):List Int:=Z06 (hss.take i)++Z06 (hss.drop (i+1))
structure Z8m(most k:Nat)(hs:List Hq):Prop where
 srt:Yd hs
 len:hs.length≤most
 inv:∀h∈hs,Z74 h
 ne:∀h∈hs,h.q≠[]
 wt:∀h∈hs,h.W≤k
 ql:∀h∈hs,h.q.length≤k
theorem Ze.part{most k:Nat}{hs:List Hq}{X:List Int}{L:List Bool}(b:Ze most k hs X L):Z8m most k hs:=⟨b.srt,b.len,b.inv,b.ne,b.wt,b.ql⟩
theorem Z8m.more{most k k':Nat}{hs:List Hq}(b:Z8m most k hs)(h:k≤k'):Z8m most k' hs:=⟨b.srt,b.len,b.inv,b.ne,fun x hx=>by have:=b.wt x hx;omega,fun x hx=>by have:=b.ql x hx;omega⟩
structure U1(most k:Nat)(hss:List (List Hq))(L:List Bool):Prop where
 part:∀hs∈hss,Z8m most k hs
 ids:(Z06 hss).Perm (Zj (lnt L))
theorem Zjc(a b:List (List Hq)):Z06 (a++b)=Z06 a++Z06 b:=by unfold Z06;rw[List.flatMap_append]
theorem Z5p{hss:List (List Hq)}{i:Nat}(hi:i<hss.length):(Z06 hss).Perm (Z4 hss[i]++Z5q hss i):=by
 have e:hss=hss.take i++hss[i]::hss.drop (i+1):=by rw[←List.drop_eq_getElem_cons hi,List.take_append_drop]
 have e2:Z06 hss=Z06 (hss.take i)++(Z4 hss[i]++Z06 (hss.drop (i+1))):=by
  conv=>lhs;rw[e]
  rw[Zjc]
  rfl
 rw[e2]
 unfold Z5q
 rw[←List.append_assoc,←List.append_assoc]
 exact List.perm_append_comm.append_right _
theorem Zai(hss:List (List Hq))(i:Nat)(hs:List Hq):Z5q (hss.set i hs) i=Z5q hss i:=by
 unfold Z5q
 rw[List.take_set_of_le (Nat.le_refl i),List.drop_set_of_lt (Nat.lt_succ_self i)]
theorem U1.get{most k:Nat}{hss:List (List Hq)}{L:List Bool}(t:U1 most k hss L){i:Nat}(hi:i<hss.length):Ze most k hss[i] (Z5q hss i) L:=by
 have b:=t.part _ (gM0 hi)
 exact⟨b.srt,b.len,b.inv,b.ne,(Z5p hi).symm.trans t.ids,b.wt,b.ql⟩
theorem U1.put{most k:Nat}{hss:List (List Hq)}{L L':List Bool}(t:U1 most k hss L){i:Nat}(hi:i<hss.length){hs:List Hq}(b:Ze most (k+1) hs (Z5q hss i) L'):U1 most (k+1) (hss.set i hs) L':=by
 refine⟨fun x hx=>?_,?_⟩
 ·rcases List.mem_or_eq_of_mem_set hx with q | rfl
  ·exact(t.part x q).more (Nat.le_succ k)
  ·exact b.part
 ·have hi':i<(hss.set i hs).length:=by rw[List.length_set];exact hi
  refine(Z5p hi').trans ?_
  rw[List.getElem_set_self,Zai]
  exact b.ids
theorem U1.more{most k k':Nat}{hss:List (List Hq)}{L:List Bool}(t:U1 most k hss L)(h:k≤k'):U1 most k' hss L:=⟨fun x hx=>(t.part x hx).more h,t.ids⟩
theorem Zfe(most S n:Nat):U1 most 0 (List.replicate S []) (List.replicate n false):=by
 refine⟨fun x hx=>?_,?_⟩
 ·obtain⟨_,rfl⟩:=List.mem_replicate.1 hx
  exact(Zfw most n).part
 ·rw[Z9v]
  have:Z06 (List.replicate S ([]:List Hq))=[]:=by
   unfold Z06
   rw[List.flatMap_eq_nil_iff]
   intro x hx
   obtain⟨_,rfl⟩:=List.mem_replicate.1 hx
   rfl
  rw[this]
  exact .refl _
theorem U1.mem{most k:Nat}{hss:List (List Hq)}{L:List Bool}(t:U1 most k hss L){id:Int}:id∈Z06 hss↔hsL L id=true:=by
 rw[←Zd9,←t.ids.mem_iff]
theorem U1.count{most k:Nat}{hss:List (List Hq)}{L:List Bool}(t:U1 most k hss L):(hss.map fun hs=>(hs.map fun x=>x.q.length).sum).sum=liv L:=by
 have e:(Z06 hss).length=(hss.map fun hs=>(hs.map fun x=>x.q.length).sum).sum:=by
  unfold Z06
  rw[List.length_flatMap]
  congr 1
  apply List.map_congr_left
  intro x _
  exact Zjz x
 rw[←e,t.ids.length_eq]
 simp[Zj,Z82]
structure DB where
 o:Nat
 mb:Nat
 l:List Hp
structure DtB(w:World)(po n:Nat)(ds:List DB)(L:List Bool)(F:Nat→Prop):Prop where
 db:∀d∈ds,Db w d.o d.mb po n d.l L F
 ne:∀i j (hi:i<ds.length) (hj:j<ds.length),i≠j→ds[i].mb≠ds[j].mb
 pol:Pol w po L F
theorem DtB.nw{w w':World}{po n:Nat}{ds:List DB}{L:List Bool}{F:Nat→Prop}(h:DtB w po n ds L F)(g:Nw w w'):DtB w' po n ds L F:=⟨fun d hd=>(h.db d hd).nw g,h.ne,h.pol.nw g⟩
theorem DtB.put{w w':World}{po n:Nat}{ds:List DB}{L L':List Bool}{F:Nat→Prop}(h:DtB w po n ds L F){i:Nat}(hi:i<ds.length){l':List Hp}(d:V9 w ds[i].o ds[i].mb po n F ds[i].l w' l' L') :
  ∃F',DtB w' po n (ds.set i ⟨ds[i].o,ds[i].mb,l'⟩) L' F'∧(∀k,F' k→F k∨w.heap.size≤k)∧Z3 (fun b=>b=ds[i].mb∨F b) w w'∧HdN w ds[i].l l':=by
 obtain⟨F',d1,d2,d3,d4⟩:=d
 have hdi:=h.db _ (gM0 hi)
 refine⟨F',⟨fun b hb=>?_,fun j m hj hm ne=>?_,d1.pol⟩,d2,d3,d4⟩
 ·obtain⟨j,hj,rfl⟩:=List.getElem_of_mem hb
  rw[List.length_set] at hj
  by_cases e:i=j
  ·subst e
   rw[List.getElem_set_self]
   exact d1
  ·rw[List.getElem_set_ne e]
   exact(h.db _ (gM0 hj)).other hdi.map (h.ne j i hj hi (fun q=>e q.symm)) d3 d1.pol d2
 ·rw[List.length_set] at hj hm
  have key:∀(m:Nat) (hm:m<(ds.set i ⟨ds[i].o,ds[i].mb,l'⟩).length) (hm2:m<ds.length),(ds.set i ⟨ds[i].o,ds[i].mb,l'⟩)[m].mb=ds[m].mb:=fun m hm hm2=>by
   by_cases e:i=m
   ·subst e;rw[List.getElem_set_self]
   ·rw[List.getElem_set_ne e]
  rw[key j _ hj,key m _ hm]
  exact h.ne j m hj hm ne
def Z9(ds:List DB):List (List Hq):=ds.map fun d=>Z6 d.l
theorem Z53(ds:List DB)(i:Nat)(d:DB):Z9 (ds.set i d)=(Z9 ds).set i (Z6 d.l):=by unfold Z9;rw[List.map_set]
theorem Z9j{ds:List DB}{i:Nat}(hi:i<ds.length):(Z9 ds)[i]?=some (Z6 ds[i].l):=by unfold Z9;rw[List.getElem?_map,List.getElem?_eq_getElem hi];rfl
theorem DtB.inv{ds:List DB}{n k:Nat}{L:List Bool}(t:U1 n k (Z9 ds) L){i:Nat}(hi:i<ds.length):Ze n k (Z6 ds[i].l) (Z5q (Z9 ds) i) L:=by
 have hi':i<(Z9 ds).length:=by unfold Z9;rw[List.length_map];exact hi
 have b:=t.get hi'
 have e:(Z9 ds)[i]=Z6 ds[i].l:=by
  have:=Z9j hi
  rw[List.getElem?_eq_getElem hi'] at this
  exact Option.some.inj this
 rw[e] at b
 exact b
def Z5z(ds:List DB)(F:Nat→Prop)(b:Nat):Prop:=F b∨∃d∈ds,b=d.o∨b=d.mb∨Znl d.l b
theorem DtB.lt{w:World}{po n:Nat}{ds:List DB}{L:List Bool}{F:Nat→Prop}(h:DtB w po n ds L F):∀b,Z5z ds F b→b<w.heap.size:=by
 rintro b (e | ⟨d,hd,rfl | rfl | ⟨x,hx,rfl | ⟨a,e,hq,rfl⟩⟩⟩)
 ·exact h.pol.own b e
 ·exact(h.db d hd).ol
 ·exact(h.db d hd).map.lt
 ·exact((h.db d hd).ok x hx).lt
 ·obtain⟨a',c,e1,⟨q,_⟩ | ⟨b',o',e2,hc⟩⟩:=((h.db d hd).ok x hx).rd
  ·exact absurd q hq
  ·unfold hpV at e1
   rw[e,e2] at e1
   injection e1 with e1 _ _
   injection e1 with e1
   subst e1
   exact hc.lt
theorem DtB.tchS{w w':World}{S:Nat→Prop}{po n:Nat}{ds:List DB}{L:List Bool}{F:Nat→Prop}(h:DtB w po n ds L F)(t:Z3 S w w')(hS:∀b,Z5z ds F b→¬S b):DtB w' po n ds L F :=
 ⟨fun d hd=>(h.db d hd).tch t (hS _ (.inr ⟨d,hd,.inl rfl⟩)) (hS _ (.inr ⟨d,hd,.inr (.inl rfl)⟩)) (fun k e=>hS k (.inl e)) (fun x hx=>⟨hS _ (.inr ⟨d,hd,.inr (.inr ⟨x,hx,.inl rfl⟩)⟩),fun a e hq=>hS _ (.inr ⟨d,hd,.inr (.inr ⟨x,hx,.inr ⟨a,e,hq,rfl⟩⟩)⟩)⟩),h.ne,h.pol.tch t (fun k e=>hS k (.inl e))⟩
theorem DtB.in_put{w:World}{ds:List DB}{F F':Nat→Prop}{i:Nat}(hi:i<ds.length){l':List Hp}(d2:∀k,F' k→F k∨w.heap.size≤k)(d4:HdN w ds[i].l l'):∀b,Z5z (ds.set i ⟨ds[i].o,ds[i].mb,l'⟩) F' b→Z5z ds F b∨w.heap.size≤b:=by
 rintro b (e | ⟨d,hd,e⟩)
 ·exact(d2 b e).imp .inl id
 ·rcases List.mem_or_eq_of_mem_set hd with q | rfl
  ·exact .inl (.inr ⟨d,q,e⟩)
  ·have hm:=gM0 hi
   rcases e with e | e | e
   ·exact .inl (.inr ⟨_,hm,.inl e⟩)
   ·exact .inl (.inr ⟨_,hm,.inr (.inl e)⟩)
   ·exact(d4 b e).imp (fun q=>.inr ⟨_,hm,.inr (.inr q)⟩) id
def Y5(hss:List (List Hq)):List Hq:=hss.flatten.foldl Zz []
def Vz(hs:List Hq):Prop:=hs.Pairwise fun x y=>Za x≠Za y
theorem Zip{hs:List Hq}(s:Yd hs){x:Hq}(hn:∀a∈hs,Za a≠Za x):Yd (Zz hs x)∧(Zz hs x).Perm (x::hs):=by
 obtain⟨l,m,rfl,e,s2⟩:=Ziq s hn
 rw[e]
 exact⟨s2,List.perm_middle⟩
theorem Zrn{l:List Hq}:∀ {acc:List Hq},Yd acc→(∀a∈acc,∀x∈l,Za a≠Za x)→Vz l→Yd (l.foldl Zz acc)∧(l.foldl Zz acc).Perm (acc++l):=by
 induction l with
 | nil=>intro acc s _ _;exact⟨s,by simp⟩
 | cons x t ih =>
  intro acc s h1 h2
  obtain⟨h3,h4⟩:=List.pairwise_cons.1 h2
  obtain⟨s2,p2⟩:=Zip s (fun a ha=>h1 a ha x (by simp))
  obtain⟨s3,p3⟩:=ih s2 (fun a ha y hy=>by
   rcases List.mem_cons.1 (p2.mem_iff.1 ha)with rfl | q
   ·exact h3 y hy
   ·exact h1 a q y (List.mem_cons_of_mem _ hy)) h4
  refine⟨s3,p3.trans ?_⟩
  exact(p2.append_right t).trans (by simpa using(List.perm_middle (a:=x) (l₁:=acc) (l₂:=t)).symm)
theorem snap_srt{hss:List (List Hq)}(h:Vz hss.flatten):Yd (Y5 hss)∧(Y5 hss).Perm hss.flatten:=by
 have:=Zrn (acc:=[]) (l:=hss.flatten) (by simp[Yd]) (by simp) h
 simpa [Y5] using this
theorem Zpm{a b:List Hq}(ha:Yd a)(hb:Yd b)(p:a.Perm b):a=b:=by
 refine List.Perm.eq_of_pairwise (le:=fun x y=>Ud (Za x) (Za y)) (fun x y _ _ h1 h2=>?_) ha hb p
 exact absurd (Z1w h1 h2) (Ys _)
theorem Zm5{hss:List (List Hq)}(h:Vz hss.flatten){l:List Hq}(s:Yd l)(p:l.Perm hss.flatten):l=Y5 hss:=Zpm s (snap_srt h).1 (p.trans (snap_srt h).2.symm)
theorem Zfn{hss:List (List Hq)}(hs:∀l∈hss,Yd l)(k:Int × Int→Nat)(hk:∀i (hi:i<hss.length),∀x∈hss[i],k (Za x)=i):Vz hss.flatten:=by
 unfold Vz
 rw[List.pairwise_flatten]
 refine⟨fun l hl=>?_,?_⟩
 ·refine(hs l hl).imp fun {a b} h e=>?_
  rw[e] at h
  exact Ys _ h
 ·rw[List.pairwise_iff_getElem]
  intro i j hi hj hij x hx y hy e
  have h1:=hk i hi x hx
  have h2:=hk j hj y hy
  rw[e] at h1
  omega
def atT:List (List Hq)→Int→Option Nat
 | [],_=>none
 | hs::t,id=>if (Zs hs id).isSome then some 0 else(atT t id).map (·+1)
theorem Z8s{hss:List (List Hq)}{id:Int}{i:Nat}(h:atT hss id=some i):∃hi:i<hss.length,(Zs hss[i] id).isSome=true∧∀j (hj:j<hss.length),j<i→Zs hss[j] id=none:=by
 induction hss generalizing i with
 | nil=>cases h
 | cons a t ih =>
  unfold atT at h
  by_cases e:(Zs a id).isSome=true
  ·rw[if_pos e] at h
   obtain rfl:0=i:=Option.some.inj h
   exact⟨by simp,e,fun j hj Z1=>by omega⟩
  ·rw[if_neg e] at h
   cases q:atT t id with
   | none=>rw[q] at h;cases h
   | some m =>
    rw[q] at h
    obtain rfl:m+1=i:=Option.some.inj h
    obtain⟨h1,h2,h3⟩:=ih q
    refine⟨by simp;omega,by simpa using h2,fun j hj Z1=>?_⟩
    cases j with
    | zero=>simpa using e
    | succ j=>simpa using h3 j (by simp at hj;omega) (by omega)
theorem Zfr{hss:List (List Hq)}{id:Int}(h:atT hss id=none):∀hs∈hss,Zs hs id=none:=by
 induction hss with
 | nil=>intro hs q;cases q
 | cons a t ih =>
  unfold atT at h
  by_cases e:(Zs a id).isSome=true
  ·rw[if_pos e] at h;cases h
  ·rw[if_neg e] at h
   have h2:atT t id=none:=by simpa using h
   intro hs q
   rcases List.mem_cons.1 q with rfl | q
   ·simpa using e
   ·exact ih h2 hs q
structure Hl where
 x:Int
 t:Int
 r:Int
 m:Int
def Z2b(s:List Hq)(txn:Int):List Hl:=(s.filter fun h=>!(mdQ h.q txn==0)).map fun h=>⟨txn,h.t,h.r,mdQ h.q txn⟩
def txT(s:List Hq):List Int:=(s.flatMap fun h=>h.q).foldl (fun l o=>Z61 o.txn l) []
def Z3r(s:List Hq):List Hl:=(txT s).flatMap (Z2b s)
def Uq(s:List Hq):List Hl:=s.flatMap fun h=>(h.q.filter fun r=>!(r.md==0)).map fun r=>⟨r.txn,h.t,h.r,r.md⟩
def hlL(a b:Hl):Prop:=a.x<b.x∨(a.x=b.x∧Ud (a.t,a.r) (b.t,b.r))
theorem Z2c(a:Hl):¬hlL a a:=by unfold hlL Ud;omega
theorem Zbk{a b c:Hl}(h:hlL a b)(k:hlL b c):hlL a c:=by unfold hlL Ud at *;simp only at *;omega
theorem Zml(s:List Hq):(txT s).Pairwise (·<·):=by
 have key:∀(q:List Rq) (l:List Int),l.Pairwise (·<·)→(q.foldl (fun l o=>Z61 o.txn l) l).Pairwise (·<·):=by
  intro q
  induction q with
  | nil=>intro l h;exact h
  | cons a t ih=>intro l h;exact ih _ (Z3n a.txn l h)
 exact key _ _ .nil
theorem Zmk{s:List Hq}{x:Int}:x∈txT s↔∃h∈s,∃r∈h.q,r.txn=x:=by
 unfold txT
 rw[Z97]
 simp only[List.not_mem_nil,false_or,List.mem_flatMap]
 constructor
 ·rintro⟨o,⟨h,hh,ho⟩,e⟩;exact⟨h,hh,o,ho,e⟩
 ·rintro⟨h,hh,o,ho,e⟩;exact⟨o,⟨h,hh,ho⟩,e⟩
theorem Zi8{W:Int}{q:List Rq}(k:Ok W q){r:Rq}(hr:r∈q):mdQ q r.txn=r.md:=by
 unfold mdQ
 cases e:q.find? fun x=>x.txn==r.txn with
 | none =>
  have:=List.find?_eq_none.1 e r hr
  simp at this
 | some y =>
  have h1:=List.mem_of_find?_eq_some e
  have h2:=List.find?_some e
  show y.md=r.md
  rw[k.injT y h1 r hr (by simpa using h2)]
theorem Z9x{q:List Rq}{txn:Int}(h:mdQ q txn≠0):∃r∈q,r.txn=txn∧r.md=mdQ q txn:=by
 unfold mdQ at h ⊢
 cases e:q.find? fun x=>x.txn==txn with
 | none=>rw[e] at h;exact absurd rfl h
 | some y=>exact⟨y,List.mem_of_find?_eq_some e,by simpa using List.find?_some e,rfl⟩
theorem Z7r{s:List Hq}(h:Yd s)(txn:Int):(Z2b s txn).Pairwise hlL:=by
 unfold Z2b
 rw[List.pairwise_map]
 refine(List.Pairwise.filter _ h).imp fun {a b} q=>.inr ⟨rfl,q⟩
theorem Zce{s:List Hq}(h:Yd s):(Z3r s).Pairwise hlL:=by
 unfold Z3r
 rw[List.pairwise_flatMap]
 refine⟨fun x _=>Z7r h x,(Zml s).imp fun {a b} q u hu v hv=>?_⟩
 unfold Z2b at hu hv
 obtain⟨_,_,rfl⟩:=List.mem_map.1 hu
 obtain⟨_,_,rfl⟩:=List.mem_map.1 hv
 exact .inl q
theorem Zk0{s:List Hq}(ok:∀h∈s,Ok h.W h.q){e:Hl}:e∈Z3r s↔e∈Uq s:=by
 unfold Z3r Uq Z2b
 simp only[List.mem_flatMap,List.mem_map,List.mem_filter,Bool.not_eq_true',beq_eq_false_iff_ne]
 constructor
 ·rintro⟨x,_,h,⟨hh,hm⟩,rfl⟩
  obtain⟨r,hr,h1,h2⟩:=Z9x hm
  exact⟨h,hh,r,⟨hr,by rw[h2];exact hm⟩,by rw[h1,h2]⟩
 ·rintro⟨h,hh,r,⟨hr,hm⟩,rfl⟩
  have e:=Zi8 (ok h hh) hr
  exact⟨r.txn,Zmk.2 ⟨h,hh,r,hr,rfl⟩,h,⟨hh,by rw[e];exact hm⟩,by rw[e]⟩
theorem Z6a{s:List Hq}(h:Yd s)(ok:∀h∈s,Ok h.W h.q):(Uq s).Nodup:=by
 unfold Uq
 unfold List.Nodup
 rw[List.pairwise_flatMap]
 refine⟨fun a ha=>?_,h.imp fun {a b} q u hu v hv e=>?_⟩
 ·rw[List.pairwise_map]
  refine List.Pairwise.filter _ ?_
  exact(ok a ha).pr.imp fun {x y} q e=>q.txn (congrArg Hl.x e)
 ·obtain⟨_,_,rfl⟩:=List.mem_map.1 hu
  obtain⟨_,_,rfl⟩:=List.mem_map.1 hv
  have h1:=congrArg Hl.t e
  have h2:=congrArg Hl.r e
  unfold Ud Za at q
  simp only at h1 h2 q
  omega
theorem Zfm{s:List Hq}(h:Yd s)(ok:∀h∈s,Ok h.W h.q):(Z3r s).Perm (Uq s) :=
 (List.perm_ext_iff_of_nodup ((Zce h).imp fun {a b} q e=>by subst e;exact Z2c _ q) (Z6a h ok)).2 fun _=>Zk0 ok
theorem Zno{s:List Hq}(h:Yd s)(ok:∀h∈s,Ok h.W h.q){l:List Hl}(hl:l.Pairwise hlL)(p:l.Perm (Uq s)):l=Z3r s :=
 List.Perm.eq_of_pairwise (le:=hlL) (fun x y _ _ h1 h2=>absurd (Zbk h1 h2) (Z2c _)) hl (Zce h) (p.trans (Zfm h ok).symm)
def Zr3(q:List Rq)(id i:Int):Prop:=(i = -1∧Va q id=none)∨∃k:Nat,i=k∧∃h:k<q.length,Va q id=some q[k]
def Zen(a:Rq):Prop:=a.md≠0∧0<a.sn
theorem Zfz{W:Int}{q:List Rq}{r:Rq}(h:Ok W q)(hr:r∈q)(hs:0<r.sn)(hb:∀o∈q,o.id≠r.id→blk r o=false):Y7 q r=true:=by
 unfold Y7
 rw[Bool.and_eq_true]
 refine⟨by simpa using hs,List.all_eq_true.2 fun o ho=>?_⟩
 by_cases e:o.id=r.id
 ·simp[e]
 ·simp[hb o ho e]
theorem Z49{q:List Rq}{r o:Rq}(ho:o∈q)(ne:o.id≠r.id)(hb:blk r o=true):Y7 q r=false:=by
 cases e:Y7 q r with
 | false=>rfl
 | true =>
  have:=Z36 e ho ne
  rw[hb] at this;cases this
theorem Z66{r o:Rq}(hm:o.md≠0)(hc:Ui o.md r.wt=false):blk r o=true:=by simp[blk,hm,hc]
theorem Zk8{r o:Rq}(hm:o.md≠0)(hs:0<o.sn)(h:r.md=0∨o.sn<r.sn):blk r o=true:=by
 rcases h with h | h<;>simp[blk,hm,hs,h]
theorem Zdy{r o:Rq}(h1:r.md=0)(h2:o.md=0)(h3:o.sn<r.sn):blk r o=true:=by simp[blk,h1,h2,h3]
theorem Zka{W:Int}{q:List Rq}(h:Ok W q){r:Rq}(hr:r∈q)(hu:Zen r)(hmin:∀a∈q,Zen a→r.sn≤a.sn)(hf:∀o∈q,o.id≠r.id→o.md≠0→Ui o.md r.wt=true):Y7 q r=true :=
 Zfz h hr hu.2 fun o ho ne=>by
  have hz:=hu.1
  cases e:blk r o with
  | false=>rfl
  | true =>
   exfalso
   unfold blk at e
   simp only[Bool.or_eq_true,Bool.and_eq_true,bne_iff_ne,beq_iff_eq,Bool.not_eq_true',decide_eq_true_eq] at e
   rcases e with(⟨e1,e2⟩ | ⟨⟨e1,e2⟩,e3⟩) | ⟨⟨e1,_⟩,_⟩
   ·rw[hf o ho ne e1] at e2;cases e2
   ·rcases e3 with e3 | e3
    ·exact hz e3
    ·have:=hmin o ho ⟨e1,e2⟩;omega
   ·exact hz e1
theorem Zkb{W:Int}{q:List Rq}(h:Ok W q){k:Nat}(hk:k<q.length)(hz:q[k].md=0)(hfirst:∀a∈q.take k,a.md≠0)(hno:∀a∈q,¬Zen a)(hf:∀o∈q,o.id≠q[k].id→o.md≠0→Ui o.md q[k].wt=true):Y7 q q[k]=true :=
 Zfz h (gM0 hk) ((h.rt _ (gM0 hk)).w' hz) fun o ho ne=>by
  cases e:blk q[k] o with
  | false=>rfl
  | true =>
   exfalso
   unfold blk at e
   simp only[Bool.or_eq_true,Bool.and_eq_true,bne_iff_ne,beq_iff_eq,Bool.not_eq_true',decide_eq_true_eq] at e
   rcases e with(⟨e1,e2⟩ | ⟨⟨e1,e2⟩,_⟩) | ⟨⟨_,e1⟩,e2⟩
   ·rw[hf o ho ne e1] at e2;cases e2
   ·exact hno o ho ⟨e1,e2⟩
   ·obtain⟨j,hj,rfl⟩:=List.getElem_of_mem ho
    rcases Nat.lt_trichotomy j k with g | g | g
    ·exact hfirst _ (List.mem_take_iff_getElem.2 ⟨j,by omega,rfl⟩) e1
    ·subst g;exact ne rfl
    ·have:=((List.pairwise_iff_getElem.1 h.pr k j hk hj g).ord hz).2;omega
theorem Zkl{W:Int}{q:List Rq}(h:Ok W q){r:Rq}(hr:r∈q)(hu:Zen r)(hmin:∀a∈q,Zen a→r.sn≤a.sn)(hf:∃o∈q,o.id≠r.id∧o.md≠0∧Ui o.md r.wt=false):Vp q:=by
 intro s hs
 by_cases e:s.id=r.id
 ·obtain rfl:=h.inj s hs r hr e
  obtain⟨o,ho,ne,h1,h2⟩:=hf
  exact Z49 ho ne (Z66 h1 h2)
 ·cases c:Y7 q s with
  | false=>rfl
  | true =>
   have hsn:=Z0b c
   rw[Z49 hr (fun x=>e x.symm) (Zk8 hu.1 hu.2 ?_)] at c
   ·cases c
   ·by_cases z:s.md=0
    ·exact .inl z
    ·refine .inr ?_
     have h1:=hmin s hs ⟨z,hsn⟩
     have h2:r.sn≠s.sn:=fun x=>e (by rw[h.injS r hr s hs hu.2 x])
     omega
theorem Zkm{W:Int}{q:List Rq}(h:Ok W q){k:Nat}(hk:k<q.length)(hz:q[k].md=0)(hfirst:∀a∈q.take k,a.md≠0)(hno:∀a∈q,¬Zen a)(hf:∃o∈q,o.id≠q[k].id∧o.md≠0∧Ui o.md q[k].wt=false):Vp q:=by
 intro s hs
 by_cases e:s.id=q[k].id
 ·obtain rfl:=h.inj s hs _ (gM0 hk) e
  obtain⟨o,ho,ne,h1,h2⟩:=hf
  exact Z49 ho ne (Z66 h1 h2)
 ·cases c:Y7 q s with
  | false=>rfl
  | true =>
   have hsn:=Z0b c
   have hsz:s.md=0:=by
    refine Classical.byContradiction fun z=>hno s hs ⟨z,hsn⟩
   obtain⟨j,hj,rfl⟩:=List.getElem_of_mem hs
   rcases Nat.lt_trichotomy j k with g | g | g
   ·exact absurd hsz (hfirst _ (List.mem_take_iff_getElem.2 ⟨j,by omega,rfl⟩))
   ·subst g;exact absurd rfl e
   ·have:=((List.pairwise_iff_getElem.1 h.pr k j hk hj g).ord hz).2
    rw[Z49 (gM0 hk) (fun x=>e x.symm) (Zdy hsz hz this)] at c
    cases c
section
open Go
def Ym(ops:Array Oper)(o:Oper):Option Tmp × List Tmp × List Nat:=(o.dst,o.looksAt ops,(o.after.toList.filter (Region.binds .any)).map (·.on))
def Z6s(k:Nat)(x y:Option Tmp × List Tmp × List Nat):Bool :=
 y.2.2.contains k || ((match x.1 with
  | some d=>!y.2.1.contains d&&y.1 != some d
  | none=>true)&&(match y.1 with
  | some d=>!x.2.1.contains d
  | none=>true))
end
section
open Go
def Yo(k:Nat)(q:Option (Nat × Option Tmp × List Tmp × List Nat))(e:Nat):Bool :=
 decide (e<k)&&(match q with
  | some y=>!(e==y.1)
  | none=>true)
def Z38:List (Option Bool)→Nat→List (Option Tmp × List Tmp × List Nat)→Option (Nat × Option Tmp × List Tmp × List Nat)→Bool
 | [],_,l,q=>l.isEmpty&&q.isNone
 | some true::fs,k,l,q =>
  match l with
  | []=>false
  | x::r=>x.2.2.all (Yo k q)&&r.all (Z6s k x)&&(match q with
   | some y=>Z6s k x y.2
   | none=>true)&&Z38 fs (k+1) r q
 | some false::fs,k,l,q =>
  match l,q with
  | x::r,none=>Z38 fs (k+1) r (some (k,x))
  | _,_=>false
 | none::fs,k,l,q =>
  match q with
  | some y=>y.2.2.2.all (Yo k q)&&l.all (fun x=>x.2.2.any fun e=>!Yo k q e)&&Z38 fs k l none
  | none=>false
def HW(P:Program)(ops:Array Oper)(Q:Exit→Act→World→Prop)(S:World→Prop):List (Option Bool)→List Oper→Option Oper→Act→World→Prop
 | [],_,_,a,w=>Q .normal a w
 | some true::fs,l,q,a,w =>
  match l with
  | []=>False
  | o::r=>∃v,YieldsIf P ops S o v a∧HW P ops Q S fs r q (a.put o.dst v) w
 | some false::fs,l,q,a,w =>
  match l,q with
  | o::r,none=>HW P ops Q S fs r (some o) a w
  | _,_=>False
 | none::fs,l,q,a,w =>
  match q with
  | some o=>∀K':Act→World→Prop,Shut (∀a w,S w→(S w→HW P ops Q S fs l none a w)→K' a w)→if Region.wanted o (yielded ops a.tmps)=true then Oper.wp P o a w K' Q else K' (a.put o.dst undef) w
  | none=>False
section
variable {P:Program} {ops:Array Oper} {Q:Exit→Act→World→Prop} {S:World→Prop}
theorem HW.end_{l:List Oper}{q:Option Oper}{a:Act}{w:World}(h:Q .normal a w):HW P ops Q S [] l q a w:=h
theorem HW.take'{fs:List (Option Bool)}{o:Oper}{r:List Oper}{q:Option Oper}{a:Act}{w:World}(h:∃v,YieldsIf P ops S o v a∧HW P ops Q S fs r q (a.put o.dst v) w):HW P ops Q S (some true::fs) (o::r) q a w:=h
theorem HW.off{fs:List (Option Bool)}{o:Oper}{r:List Oper}{a:Act}{w:World}(h:HW P ops Q S fs r (some o) a w):HW P ops Q S (some false::fs) (o::r) none a w:=h
theorem HW.go{fs:List (Option Bool)}{o:Oper}{l:List Oper}{a:Act}{w:World}
  (h:∀K':Act→World→Prop,Shut (∀a w,S w→(S w→HW P ops Q S fs l none a w)→K' a w)→if Region.wanted o (yielded ops a.tmps)=true then Oper.wp P o a w K' Q else K' (a.put o.dst undef) w):HW P ops Q S (none::fs) l (some o) a w:=h
theorem Z23{k:Nat}{o oj:Oper}(h:Z6s k (Ym ops o) (Ym ops oj)=true)(hno:∀e∈oj.after,Region.binds .any e=true→e.on≠k):o.apart ops oj=true:=by
 unfold Z6s at h
 rw[Bool.or_eq_true] at h
 rcases h with h | h
 ·obtain⟨e,he,heq⟩:=List.mem_map.1 (List.contains_iff_mem.1 h)
  obtain⟨he1,he2⟩:=List.mem_filter.1 he
  exact absurd heq (hno e (Array.mem_toList_iff.1 he1) he2)
 ·exact h
theorem HW.run(hs:Region.noSelect ops=true)(hQ:∀c a d v w,Q (.panic c) (Act.put a d v) w→Q (.panic c) a w):∀(fs:List (Option Bool)) (k:Nat) (l:List Oper) (qi:Option (Nat × Oper)) (listed:Array Bool) (a:Act) (w:World),
  (∀j,l[j]?=ops[k+j]?)→k+l.length=ops.size→(∀p,qi=some p→ops[p.1]?=some p.2∧p.1<k)→listed.size=ops.size →
  (∀j,j<ops.size→(listed.getD j false=true↔Yo k (qi.map fun p=>(p.1,Ym ops p.2)) j=true)) →
  Z38 fs k (l.map (Ym ops)) (qi.map fun p=>(p.1,Ym ops p.2))=true→S w→HW P ops Q S fs l (qi.map (·.2)) a w →
  wpAnyH P .any ops Q S (l.length+(qi.map fun _=>1).getD 0) listed a w
 | [],k,l,qi,listed,a,w,hl,hn,hq,hsz,hD,hB,hS,h=>by
  unfold Z38 at hB
  rw[Bool.and_eq_true] at hB
  obtain rfl:l=[]:=by cases l with
   | nil=>rfl
   | cons o r=>simp at hB
  obtain rfl:qi=none:=by cases qi with
   | none=>rfl
   | some p=>simp at hB
  refine wpAnyH_done ?_ h _
  rw[List.eq_nil_iff_forall_not_mem]
  intro j hj
  obtain⟨h1,o,ho,_⟩:=mem_ready.1 hj
  have Z1:j<ops.size:=(Array.getElem?_eq_some_iff.1 ho).1
  have h2:=(hD j Z1).2 (by unfold Yo;simp at hn ⊢;omega)
  simp[hsz,Z1] at h1 h2
  rw[h1] at h2
  cases h2
 | some true::fs,k,[],qi,listed,a,w,hl,hn,hq,hsz,hD,hB,hS,h=>by unfold Z38 at hB;simp at hB
 | some true::fs,k,o::r,qi,listed,a,w,hl,hn,hq,hsz,hD,hB,hS,h=>by
  have h0:ops[k]?=some o:=by simpa using(hl 0).symm
  have hk:k<ops.size:=(Array.getElem?_eq_some_iff.1 h0).1
  simp only[List.map_cons,Z38,Bool.and_eq_true,List.all_eq_true] at hB
  obtain⟨⟨⟨hd,hp⟩,hpq⟩,hB'⟩:=hB
  obtain⟨v,hy,hK⟩:=h
  have hnk:∀p,qi=some p→p.1≠k:=fun p hp=>Nat.ne_of_lt (hq p hp).2
  have hun:listed.getD k true=false:=by
   have h1:¬listed.getD k false=true:=fun e=>by
    have:=(hD k hk).1 e
    unfold Yo at this
    simp at this
   simp[hsz,hk] at h1 ⊢
   exact h1
  have hr:k∈Region.ready .any ops listed:=by
   refine mem_ready.2 ⟨hun,o,h0,fun e he hb=>?_⟩
   have hdn:=hd e.on (List.mem_map.2 ⟨e,List.mem_filter.2 ⟨Array.mem_toList_iff.2 he,hb⟩,rfl⟩)
   have hek:e.on<k:=by unfold Yo at hdn;simp at hdn;exact hdn.1
   exact(hD e.on (by omega)).2 hdn
  have hfree:∀j oj,ops[j]?=some oj→j≠k→listed.getD j true=false→(∀e∈oj.after,Region.binds .any e=true→e.on≠k)→o.apart ops oj=true:=by
   intro j oj hoj hne hju hno
   have hj:j<ops.size:=(Array.getElem?_eq_some_iff.1 hoj).1
   have hnd:¬Yo k (qi.map fun p=>(p.1,Ym ops p.2)) j=true:=fun e=>by
    have:=(hD j hj).2 e
    simp[hsz,hj] at this hju
    rw[this] at hju
    cases hju
   rcases Nat.lt_or_ge j k with g | g
   ·cases hqi:qi with
    | none=>rw[hqi] at hnd;exact absurd (by unfold Yo;simp[g]) hnd
    | some p =>
     rw[hqi] at hnd hpq
     have hjp:j=p.1:=by
      rcases Nat.decEq j p.1 with h | h
      ·exact absurd (by unfold Yo;simp[g,h]) hnd
      ·exact h
     have hpo:=(hq p hqi).1
     rw[←hjp,hoj] at hpo
     obtain rfl:=Option.some.inj hpo
     exact Z23 hpq hno
   ·have hlj:=hl (j-k)
    rw[show k+(j-k)=j by omega,hoj,show j-k=(j-k-1)+1 by omega,List.getElem?_cons_succ] at hlj
    exact Z23 (hp _ (List.mem_map.2 ⟨oj,List.mem_of_getElem? hlj,rfl⟩)) hno
  have ih:=HW.run hs hQ fs (k+1) r qi (listed.setIfInBounds k true) (a.put o.dst v) w (fun j=>by
    have:=hl (j+1)
    simpa [Nat.add_assoc,Nat.add_comm 1 j] using this) (by simp at hn;omega) (fun p hp=>⟨(hq p hp).1,Nat.lt_succ_of_lt (hq p hp).2⟩) (by simpa using hsz) (fun j hj=>by
    by_cases hjk:k=j
    ·subst hjk
     have h1:(listed.setIfInBounds k true).getD k false=true:=by simp[hsz,hk]
     refine⟨fun _=>?_,fun _=>h1⟩
     unfold Yo
     cases hqi:qi with
     | none=>simp
     | some p=>have:=hnk p hqi;simp;exact fun e=>this e.symm
    ·rw[getD_set_ne false hjk,hD j hj]
     unfold Yo
     have:decide (j<k+1)=decide (j<k):=decide_eq_decide.2 (by omega)
     rw[this]) hB' hS hK
  rw[show(o::r).length+(qi.map fun _=>1).getD 0=(r.length+(qi.map fun _=>1).getD 0)+1 by simp;omega]
  exact wpAnyH_first h0 (Region.noSelect_spec hs) (fun c a w=>hQ c a _ _ w) _ listed a w hfree hr hy hS ih
 | some false::fs,k,[],qi,listed,a,w,hl,hn,hq,hsz,hD,hB,hS,h=>by unfold Z38 at hB;simp at hB
 | some false::fs,k,o::r,some p,listed,a,w,hl,hn,hq,hsz,hD,hB,hS,h=>by unfold Z38 at hB;simp at hB
 | some false::fs,k,o::r,none,listed,a,w,hl,hn,hq,hsz,hD,hB,hS,h=>by
  have h0:ops[k]?=some o:=by simpa using(hl 0).symm
  have ih:=HW.run hs hQ fs (k+1) r (some (k,o)) listed a w (fun j=>by
    have:=hl (j+1)
    simpa [Nat.add_assoc,Nat.add_comm 1 j] using this) (by simp at hn;omega) (fun p hp=>by obtain rfl:=Option.some.inj hp;exact⟨h0,Nat.lt_succ_self _⟩) hsz (fun j hj=>by
    rw[hD j hj]
    unfold Yo
    simp
    omega) (by unfold Z38 at hB;exact hB) hS h
  exact ih
 | none::fs,k,l,none,listed,a,w,hl,hn,hq,hsz,hD,hB,hS,h=>by unfold Z38 at hB;simp at hB
 | none::fs,k,l,some p,listed,a,w,hl,hn,hq,hsz,hD,hB,hS,h=>by
  obtain⟨i,o⟩:=p
  obtain⟨h0,hik⟩:=hq (i,o) rfl
  have hi:i<ops.size:=(Array.getElem?_eq_some_iff.1 h0).1
  simp only[Option.map_some,Z38,Bool.and_eq_true,List.all_eq_true,List.any_eq_true] at hB
  obtain⟨⟨hd,hw⟩,hB'⟩:=hB
  have hDu:∀j,j<ops.size→¬Yo k (some (i,Ym ops o)) j=true→listed.getD j true=false:=fun j hj hnd=>by
   have h1:¬listed.getD j false=true:=fun e=>hnd ((hD j hj).1 e)
   simp[hsz,hj] at h1 ⊢
   exact h1
  have hr:i∈Region.ready .any ops listed:=by
   refine mem_ready.2 ⟨hDu i hi (by unfold Yo;simp),o,h0,fun e he hb=>?_⟩
   have hdn:=hd e.on (List.mem_map.2 ⟨e,List.mem_filter.2 ⟨Array.mem_toList_iff.2 he,hb⟩,rfl⟩)
   have hek:e.on<k:=by unfold Yo at hdn;simp at hdn;exact hdn.1
   exact(hD e.on (by omega)).2 hdn
  refine⟨fun hz=>(by rw[hz] at hr;cases hr),fun j hj=>?_⟩
  have hji:j=i:=by
   obtain⟨h1,oj,hoj,hall⟩:=mem_ready.1 hj
   have hjs:j<ops.size:=(Array.getElem?_eq_some_iff.1 hoj).1
   rcases Nat.decEq j i with hne | he
   case isTrue=>exact he
   exfalso
   have hnd:¬Yo k (some (i,Ym ops o)) j=true:=fun e=>by
    have:=(hD j hjs).2 e
    simp[hsz,hjs] at this h1
    rw[this] at h1
    cases h1
   have hjk:k≤j:=by
    rcases Nat.lt_or_ge j k with g | g
    ·exact absurd (by unfold Yo;simp[g,hne]) hnd
    ·exact g
   have hlj:=hl (j-k)
   rw[show k+(j-k)=j by omega,hoj] at hlj
   obtain⟨e,he,hen⟩:=hw _ (List.mem_map.2 ⟨oj,List.mem_of_getElem? hlj,rfl⟩)
   obtain⟨ea,hea,rfl⟩:=List.mem_map.1 he
   obtain⟨he1,he2⟩:=List.mem_filter.1 hea
   have hls:=hall ea (Array.mem_toList_iff.1 he1) he2
   have Z1:ea.on<ops.size:=by
    rcases Nat.lt_or_ge ea.on ops.size with g | g
    ·exact g
    ·rw[←hsz] at g;simp[Array.getElem?_eq_none g] at hls
   have h3:=(hD ea.on Z1).1 hls
   simp only[Option.map_some] at h3
   rw[h3] at hen
   cases hen
  subst hji
  refine wpOp_step h0 (fun K' hK=>h K' (fun a' w' hS' hW=>hK a' w' ⟨hS',?_⟩))
  exact HW.run hs hQ fs k l none (listed.setIfInBounds j true) a' w' hl hn (fun p hp=>by cases hp) (by simpa using hsz) (fun m hm=>by
   by_cases hmj:j=m
   ·subst hmj
    have h1:(listed.setIfInBounds j true).getD j false=true:=by simp[hsz,hi]
    exact⟨fun _=>by unfold Yo;simp[hik],fun _=>h1⟩
   ·rw[getD_set_ne false hmj,hD m hm]
    unfold Yo
    have:¬m=j:=fun e=>hmj e.symm
    simp[this]) hB' hS' (hW hS')
theorem Z5{id:Nat}{a:Act}{w:World}{l:List Oper}(fs:List (Option Bool))(S:World→Prop)(hm:P.follows .mixedOrders=true)(hs:Region.noSelect l.toArray=true)
  (hB:Z38 fs 0 (l.map (Ym l.toArray)) none=true) (hS:S w.drew) (h:HW P l.toArray (NoPanic Q) S fs l none a w.drew):(Code.region id l.toArray true).wp P Q a w:=by
 refine wp_region_noPanic (wp_region_held (S:=S) hm ?_)
 have:=HW.run hs (fun c a d v w h=>h) fs 0 l none (Array.replicate l.toArray.size false) a w.drew (by simp) (by simp) (fun p hp=>by cases hp) (by simp) (fun j hj=>by unfold Yo;simp at hj ⊢;simp[hj]) hB hS h
 simpa using this
end
end
section
open Go
inductive Pl where
 | fin
 | take (p:Pl)
 | off (p:Pl)
 | go1 (p:Pl)
 | go2 (p q:Pl)
abbrev Inf:=Option Tmp × List Tmp × List Nat
def Vl(k:Nat)(qs:List (Nat × Inf))(e:Nat):Bool:=decide (e<k)&&qs.all fun y=>!(e==y.1)
def Z04:Pl→Nat→List Inf→List (Nat × Inf)→Bool
 | .fin,_,l,qs=>l.isEmpty&&qs.isEmpty
 | .take p,k,l,qs =>
  match l with
  | []=>false
  | x::r=>x.2.2.all (Vl k qs)&&r.all (Z6s k x)&&qs.all (fun y=>Z6s k x y.2)&&Z04 p (k+1) r qs
 | .off p,k,l,qs =>
  match l with
  | []=>false
  | x::r=>Z04 p (k+1) r (qs++[(k,x)])
 | .go1 p,k,l,qs =>
  match qs with
  | [y]=>y.2.2.2.all (Vl k qs)&&l.all (fun x=>x.2.2.any fun e=>!Vl k qs e)&&Z04 p k l []
  | _=>false
 | .go2 p q,k,l,qs =>
  match qs with
  | [y,z]=>y.2.2.2.all (Vl k qs)&&z.2.2.2.all (Vl k qs)&&!(y.1==z.1)&&l.all (fun x=>x.2.2.any fun e=>!Vl k qs e)&&Z04 p k l [z]&&Z04 q k l [y]
  | _=>false
def HP(P:Program)(ops:Array Oper)(Q:Exit→Act→World→Prop)(S:World→Prop):Pl→List Oper→List Oper→Act→World→Prop
 | .fin,_,_,a,w=>Q .normal a w
 | .take p,l,qs,a,w =>
  match l with
  | []=>False
  | o::r=>∃v,YieldsIf P ops S o v a∧HP P ops Q S p r qs (a.put o.dst v) w
 | .off p,l,qs,a,w =>
  match l with
  | []=>False
  | o::r=>HP P ops Q S p r (qs++[o]) a w
 | .go1 p,l,qs,a,w =>
  match qs with
  | [o]=>∀K':Act→World→Prop,Shut (∀a w,S w→(S w→HP P ops Q S p l [] a w)→K' a w)→if Region.wanted o (yielded ops a.tmps)=true then Oper.wp P o a w K' Q else K' (a.put o.dst undef) w
  | _=>False
 | .go2 p q,l,qs,a,w =>
  match qs with
  | [o,o']=>(∀K':Act→World→Prop,Shut (∀a w,S w→(S w→HP P ops Q S p l [o'] a w)→K' a w)→if Region.wanted o (yielded ops a.tmps)=true then Oper.wp P o a w K' Q else K' (a.put o.dst undef) w) ∧
    ∀K':Act→World→Prop,Shut (∀a w,S w→(S w→HP P ops Q S q l [o] a w)→K' a w)→if Region.wanted o' (yielded ops a.tmps)=true then Oper.wp P o' a w K' Q else K' (a.put o'.dst undef) w
  | _=>False
section
variable {P:Program} {ops:Array Oper} {Q:Exit→Act→World→Prop} {S:World→Prop}
theorem HP.end_{l qs:List Oper}{a:Act}{w:World}(h:Q .normal a w):HP P ops Q S .fin l qs a w:=h
theorem HP.take'{p:Pl}{o:Oper}{r qs:List Oper}{a:Act}{w:World}(h:∃v,YieldsIf P ops S o v a∧HP P ops Q S p r qs (a.put o.dst v) w):HP P ops Q S (.take p) (o::r) qs a w:=h
theorem HP.off{p:Pl}{o:Oper}{r qs:List Oper}{a:Act}{w:World}(h:HP P ops Q S p r (qs++[o]) a w):HP P ops Q S (.off p) (o::r) qs a w:=h
theorem HP.go1{p:Pl}{o:Oper}{l:List Oper}{a:Act}{w:World}
  (h:∀K':Act→World→Prop,Shut (∀a w,S w→(S w→HP P ops Q S p l [] a w)→K' a w)→if Region.wanted o (yielded ops a.tmps)=true then Oper.wp P o a w K' Q else K' (a.put o.dst undef) w):HP P ops Q S (.go1 p) l [o] a w:=h
def Ua(ops:Array Oper)(qs:List (Nat × Oper)):List (Nat × Inf):=qs.map fun p=>(p.1,Ym ops p.2)
theorem Zf{k:Nat}{qs:List (Nat × Oper)}{e:Nat}:Vl k (Ua ops qs) e=true↔e<k∧∀p∈qs,e≠p.1:=by
 unfold Vl Ua
 simp
structure HI(ops:Array Oper)(k:Nat)(l:List Oper)(qs:List (Nat × Oper))(listed:Array Bool):Prop where
 rest:∀j,l[j]?=ops[k+j]?
 len:k+l.length=ops.size
 put:∀p∈qs,ops[p.1]?=some p.2∧p.1<k
 size:listed.size=ops.size
 come:∀j,j<ops.size→(listed.getD j false=true↔Vl k (Ua ops qs) j=true)
theorem HI.un{k:Nat}{l:List Oper}{qs:List (Nat × Oper)}{listed:Array Bool}(h:HI ops k l qs listed){j:Nat}(hj:j<ops.size)(hd:¬Vl k (Ua ops qs) j=true):listed.getD j true=false:=by
 have h1:¬listed.getD j false=true:=fun e=>hd ((h.come j hj).1 e)
 have:=h.size
 simp[this,hj] at h1 ⊢
 exact h1
theorem HI.deps{k:Nat}{l:List Oper}{qs:List (Nat × Oper)}{listed:Array Bool}(h:HI ops k l qs listed)(hk:k≤ops.size){o:Oper}(hd:(Ym ops o).2.2.all (Vl k (Ua ops qs))=true):∀e∈o.after,Region.binds .any e=true→listed.getD e.on false=true:=by
 intro e he hb
 have hdn:=List.all_eq_true.1 hd e.on (List.mem_map.2 ⟨e,List.mem_filter.2 ⟨Array.mem_toList_iff.2 he,hb⟩,rfl⟩)
 have hek:=(Zf.1 hdn).1
 exact(h.come e.on (by omega)).2 hdn
theorem HI.waits{k:Nat}{l:List Oper}{qs:List (Nat × Oper)}{listed:Array Bool}(h:HI ops k l qs listed)(hw:(l.map (Ym ops)).all (fun x=>x.2.2.any fun e=>!Vl k (Ua ops qs) e)=true) :
  ∀j∈Region.ready .any ops listed,∃p∈qs,j=p.1:=by
 intro j hj
 obtain⟨h1,oj,hoj,hall⟩:=mem_ready.1 hj
 have hjs:j<ops.size:=(Array.getElem?_eq_some_iff.1 hoj).1
 have hnd:¬Vl k (Ua ops qs) j=true:=fun e=>by
  have:=(h.come j hjs).2 e
  have hsz:=h.size
  simp[hsz,hjs] at this h1
  rw[h1] at this
  cases this
 rcases Nat.lt_or_ge j k with g | g
 ·refine Classical.byContradiction fun hne=>hnd (Zf.2 ⟨g,fun p hp e=>hne ⟨p,hp,e⟩⟩)
 ·exfalso
  have hlj:=h.rest (j-k)
  rw[show k+(j-k)=j by omega,hoj] at hlj
  have hx:=List.all_eq_true.1 hw _ (List.mem_map.2 ⟨oj,List.mem_of_getElem? hlj,rfl⟩)
  obtain⟨e,he,hen⟩:=List.any_eq_true.1 hx
  obtain⟨ea,hea,rfl⟩:=List.mem_map.1 he
  obtain⟨he1,he2⟩:=List.mem_filter.1 hea
  have hls:=hall ea (Array.mem_toList_iff.1 he1) he2
  have Z1:ea.on<ops.size:=by
   rcases Nat.lt_or_ge ea.on ops.size with g | g
   ·exact g
   ·have hsz:=h.size
    rw[←hsz] at g;simp[Array.getElem?_eq_none g] at hls
  have h3:=(h.come ea.on Z1).1 hls
  rw[h3] at hen
  cases hen
theorem HI.set{k k':Nat}{l l':List Oper}{qs qs':List (Nat × Oper)}{listed:Array Bool}(h:HI ops k l qs listed){i:Nat}(hi:i<ops.size)(hr:∀j,l'[j]?=ops[k'+j]?)(hlen:k'+l'.length=ops.size)(hput:∀p∈qs',ops[p.1]?=some p.2∧p.1<k')
  (hd:∀j,Vl k' (Ua ops qs') j=true↔(j=i∨Vl k (Ua ops qs) j=true)):HI ops k' l' qs' (listed.setIfInBounds i true):=by
 refine⟨hr,hlen,hput,by simpa using h.size,fun j hj=>?_⟩
 rw[hd]
 by_cases q:i=j
 ·subst q
  have h1:(listed.setIfInBounds i true).getD i false=true:=by simp[h.size,hi]
  exact⟨fun _=>.inl rfl,fun _=>h1⟩
 ·rw[getD_set_ne false q,h.come j hj]
  exact⟨fun x=>.inr x,fun x=>x.resolve_left fun e=>q e.symm⟩
theorem HP.run(hs:Region.noSelect ops=true)(hQ:∀c a d v w,Q (.panic c) (Act.put a d v) w→Q (.panic c) a w):∀(p:Pl) (k:Nat) (l:List Oper) (qs:List (Nat × Oper)) (listed:Array Bool) (a:Act) (w:World),
  HI ops k l qs listed→Z04 p k (l.map (Ym ops)) (Ua ops qs)=true→S w→HP P ops Q S p l (qs.map (·.2)) a w→wpAnyH P .any ops Q S (l.length+qs.length) listed a w
 | .fin,k,l,qs,listed,a,w,hI,hB,hS,h=>by
  simp only[Z04,Bool.and_eq_true,List.isEmpty_iff,List.map_eq_nil_iff,Ua] at hB
  obtain⟨rfl,rfl⟩:=hB
  refine wpAnyH_done ?_ h _
  rw[List.eq_nil_iff_forall_not_mem]
  intro j hj
  obtain⟨q,hq,_⟩:=hI.waits (by simp) j hj
  simp at hq
 | .take p,k,[],qs,listed,a,w,hI,hB,hS,h=>by simp[Z04] at hB
 | .take p,k,o::r,qs,listed,a,w,hI,hB,hS,h=>by
  have h0:ops[k]?=some o:=by simpa using(hI.rest 0).symm
  have hk:k<ops.size:=(Array.getElem?_eq_some_iff.1 h0).1
  simp only[List.map_cons,Z04,Bool.and_eq_true] at hB
  obtain⟨⟨⟨hd,hp⟩,hpq⟩,hB'⟩:=hB
  obtain⟨v,hy,hK⟩:=h
  have hnk:∀q∈qs,q.1≠k:=fun q hq=>Nat.ne_of_lt (hI.put q hq).2
  have hkd:¬Vl k (Ua ops qs) k=true:=fun e=>by have:=(Zf.1 e).1;omega
  have hun:=hI.un hk hkd
  have hr:k∈Region.ready .any ops listed:=mem_ready.2 ⟨hun,o,h0,hI.deps (by omega) hd⟩
  have hfree:∀j oj,ops[j]?=some oj→j≠k→listed.getD j true=false→(∀e∈oj.after,Region.binds .any e=true→e.on≠k)→o.apart ops oj=true:=by
   intro j oj hoj hne hju hno
   have hj:j<ops.size:=(Array.getElem?_eq_some_iff.1 hoj).1
   have hsz:=hI.size
   have hnd:¬Vl k (Ua ops qs) j=true:=fun e=>by
    have:=(hI.come j hj).2 e
    simp[hsz,hj] at this hju
    rw[this] at hju
    cases hju
   rcases Nat.lt_or_ge j k with g | g
   ·obtain⟨q,hq,e⟩:∃q∈qs,j=q.1:=Classical.byContradiction fun hx=>hnd (Zf.2 ⟨g,fun q hq e=>hx ⟨q,hq,e⟩⟩)
    have hqo:=(hI.put q hq).1
    rw[←e,hoj] at hqo
    have e2:=Option.some.inj hqo
    have:=List.all_eq_true.1 hpq (q.1,Ym ops q.2) (List.mem_map.2 ⟨q,hq,rfl⟩)
    rw[←e2] at this
    exact Z23 this hno
   ·have hlj:=hI.rest (j-k)
    rw[show k+(j-k)=j by omega,hoj,show j-k=(j-k-1)+1 by omega,List.getElem?_cons_succ] at hlj
    exact Z23 (List.all_eq_true.1 hp _ (List.mem_map.2 ⟨oj,List.mem_of_getElem? hlj,rfl⟩)) hno
  have hlen:=hI.len
  have hI':HI ops (k+1) r qs (listed.setIfInBounds k true):=hI.set hk (fun j=>by
    have:=hI.rest (j+1)
    simpa [Nat.add_assoc,Nat.add_comm 1 j] using this) (by simp at hlen;omega) (fun q hq=>⟨(hI.put q hq).1,Nat.lt_succ_of_lt (hI.put q hq).2⟩) (fun j=>by
    rw[Zf,Zf]
    constructor
    ·rintro⟨h1,h2⟩
     by_cases q:j=k
     ·exact .inl q
     ·exact .inr ⟨by omega,h2⟩
    ·rintro(rfl | ⟨h1,h2⟩)
     ·exact⟨by omega,fun q hq e=>hnk q hq e.symm⟩
     ·exact⟨by omega,h2⟩)
  have ih:=HP.run hs hQ p (k+1) r qs (listed.setIfInBounds k true) (a.put o.dst v) w hI' hB' hS hK
  rw[show(o::r).length+qs.length=(r.length+qs.length)+1 by simp;omega]
  exact wpAnyH_first h0 (Region.noSelect_spec hs) (fun c a w=>hQ c a _ _ w) _ listed a w hfree hr hy hS ih
 | .off p,k,[],qs,listed,a,w,hI,hB,hS,h=>by simp[Z04] at hB
 | .off p,k,o::r,qs,listed,a,w,hI,hB,hS,h=>by
  have h0:ops[k]?=some o:=by simpa using(hI.rest 0).symm
  have hlen:=hI.len
  have hI':HI ops (k+1) r (qs++[(k,o)]) listed:=⟨fun j=>by
    have:=hI.rest (j+1)
    simpa [Nat.add_assoc,Nat.add_comm 1 j] using this,by simp at hlen;omega,fun q hq=>by
    rcases List.mem_append.1 hq with hq | hq
    ·exact⟨(hI.put q hq).1,Nat.lt_succ_of_lt (hI.put q hq).2⟩
    ·simp at hq;subst hq;exact⟨h0,Nat.lt_succ_self _⟩,hI.size,fun j hj=>by
    rw[hI.come j hj,Zf,Zf]
    constructor
    ·rintro⟨h1,h2⟩
     refine⟨by omega,fun q hq=>?_⟩
     rcases List.mem_append.1 hq with hq | hq
     ·exact h2 q hq
     ·simp at hq;subst hq;show j≠k;omega
    ·rintro⟨h1,h2⟩
     have h3:=h2 (k,o) (by simp)
     exact⟨by simp only at h3;omega,fun q hq=>h2 q (List.mem_append_left _ hq)⟩⟩
  have hB':Z04 p (k+1) (r.map (Ym ops)) (Ua ops (qs++[(k,o)]))=true:=by
   simp only[List.map_cons,Z04] at hB
   simpa [Ua] using hB
  have ih:=HP.run hs hQ p (k+1) r (qs++[(k,o)]) listed a w hI' hB' hS (by simpa [HP] using h)
  rw[show(o::r).length+qs.length=r.length+(qs++[(k,o)]).length by simp;omega]
  exact ih
 | .go1 p,k,l,[],listed,a,w,hI,hB,hS,h=>by simp[Z04,Ua] at hB
 | .go1 p,k,l,[(i,o)],listed,a,w,hI,hB,hS,h=>by
  obtain⟨h0,hik⟩:=hI.put (i,o) (by simp)
  simp only at h0 hik
  have hi:i<ops.size:=(Array.getElem?_eq_some_iff.1 h0).1
  simp only[Z04,Ua,List.map_cons,List.map_nil,Bool.and_eq_true] at hB
  obtain⟨⟨hd,hw⟩,hB'⟩:=hB
  have hkl:=hI.len
  have hr:i∈Region.ready .any ops listed:=mem_ready.2 ⟨hI.un hi fun e=>by have:=(Zf.1 e).2 (i,o) (by simp);exact this rfl,o,h0,hI.deps (by omega) hd⟩
  refine⟨fun hz=>(by rw[hz] at hr;cases hr),fun j hj=>?_⟩
  obtain⟨q,hq,hji⟩:=hI.waits hw j hj
  simp at hq
  subst hq
  simp only at hji
  subst hji
  refine wpOp_step h0 (fun K' hK=>h K' (fun a' w' hS' hW=>hK a' w' ⟨hS',?_⟩))
  have hI':HI ops k l [] (listed.setIfInBounds j true):=hI.set hi hI.rest hI.len (by simp) (fun m=>by
   rw[Zf,Zf]
   constructor
   ·rintro⟨h1,_⟩
    by_cases q:m=j
    ·exact .inl q
    ·exact .inr ⟨h1,fun p hp=>by simp at hp;subst hp;exact q⟩
   ·rintro(rfl | ⟨h1,_⟩)
    ·exact⟨hik,by simp⟩
    ·exact⟨h1,by simp⟩)
  exact HP.run hs hQ p k l [] _ a' w' hI' hB' hS' (hW hS')
 | .go1 p,k,l,_::_::_,listed,a,w,hI,hB,hS,h=>by simp[Z04,Ua] at hB
 | .go2 p q,k,l,[],listed,a,w,hI,hB,hS,h=>by simp[Z04,Ua] at hB
 | .go2 p q,k,l,[_],listed,a,w,hI,hB,hS,h=>by simp[Z04,Ua] at hB
 | .go2 p q,k,l,[(i,o),(i',o')],listed,a,w,hI,hB,hS,h=>by
  obtain⟨h0,hik⟩:=hI.put (i,o) (by simp)
  obtain⟨h0',hik'⟩:=hI.put (i',o') (by simp)
  simp only at h0 hik h0' hik'
  have hi:i<ops.size:=(Array.getElem?_eq_some_iff.1 h0).1
  have hi':i'<ops.size:=(Array.getElem?_eq_some_iff.1 h0').1
  simp only[Z04,Ua,List.map_cons,List.map_nil,Bool.and_eq_true] at hB
  obtain⟨⟨⟨⟨⟨hd,hd'⟩,hne⟩,hw⟩,hB1⟩,hB2⟩:=hB
  have hne':i≠i':=by simpa using hne
  have hkl:=hI.len
  have hr:i∈Region.ready .any ops listed:=mem_ready.2 ⟨hI.un hi fun e=>by have:=(Zf.1 e).2 (i,o) (by simp);exact this rfl,o,h0,hI.deps (by omega) hd⟩
  refine⟨fun hz=>(by rw[hz] at hr;cases hr),fun j hj=>?_⟩
  obtain⟨x,hx,hji⟩:=hI.waits hw j hj
  simp at hx
  rcases hx with rfl | rfl
  ·simp only at hji
   subst hji
   refine wpOp_step h0 (fun K' hK=>h.1 K' (fun a' w' hS' hW=>hK a' w' ⟨hS',?_⟩))
   have hI':HI ops k l [(i',o')] (listed.setIfInBounds j true):=hI.set hi hI.rest hI.len (fun p hp=>hI.put p (by simp at hp;simp[hp])) (fun m=>by
    rw[Zf,Zf]
    constructor
    ·rintro⟨h1,h2⟩
     by_cases q:m=j
     ·exact .inl q
     ·exact .inr ⟨h1,fun p hp=>by
       simp at hp
       rcases hp with rfl | rfl
       ·exact q
       ·exact h2 _ (by simp)⟩
    ·rintro(rfl | ⟨h1,h2⟩)
     ·exact⟨hik,fun p hp=>by simp at hp;subst hp;exact hne'⟩
     ·exact⟨h1,fun p hp=>h2 p (by simp at hp;simp[hp])⟩)
   have ih:=HP.run hs hQ p k l [(i',o')] _ a' w' hI' hB1 hS' (hW hS')
   exact ih
  ·simp only at hji
   subst hji
   refine wpOp_step h0' (fun K' hK=>h.2 K' (fun a' w' hS' hW=>hK a' w' ⟨hS',?_⟩))
   have hI':HI ops k l [(i,o)] (listed.setIfInBounds j true):=hI.set hi' hI.rest hI.len (fun p hp=>hI.put p (by simp at hp;simp[hp])) (fun m=>by
    rw[Zf,Zf]
    constructor
    ·rintro⟨h1,h2⟩
     by_cases q:m=j
     ·exact .inl q
     ·exact .inr ⟨h1,fun p hp=>by
       simp at hp
       rcases hp with rfl | rfl
       ·exact h2 _ (by simp)
       ·exact q⟩
    ·rintro(rfl | ⟨h1,h2⟩)
     ·exact⟨hik',fun p hp=>by simp at hp;subst hp;exact fun e=>hne' e.symm⟩
     ·exact⟨h1,fun p hp=>h2 p (by simp at hp;simp[hp])⟩)
   have ih:=HP.run hs hQ q k l [(i,o)] _ a' w' hI' hB2 hS' (hW hS')
   exact ih
 | .go2 p q,k,l,_::_::_::_,listed,a,w,hI,hB,hS,h=>by simp[Z04,Ua] at hB
theorem Za8{id:Nat}{a:Act}{w:World}{l:List Oper}(p:Pl)(S:World→Prop)(hm:P.follows .mixedOrders=true)(hs:Region.noSelect l.toArray=true)
  (hB:Z04 p 0 (l.map (Ym l.toArray)) []=true) (hS:S w.drew) (h:HP P l.toArray (NoPanic Q) S p l [] a w.drew):(Code.region id l.toArray true).wp P Q a w:=by
 refine wp_region_noPanic (wp_region_held (S:=S) hm ?_)
 have:=HP.run hs (fun c a d v w h=>h) p 0 l [] (Array.replicate l.toArray.size false) a w.drew ⟨by simp,by simp,by simp,by simp,fun j hj=>by rw[Zf];simp at hj ⊢;simp[hj]⟩ hB hS h
 simpa using this
end
end
def Hs(S:World→Prop)(x:World):Prop:=S x
def Z60(q:List Rq)(id:Int):Value:=match Va q id with
 | none=>.tuple #[rqV ⟨0,0,0,0,0⟩,.bool false]
 | some r=>.tuple #[rqV r,.bool true]
theorem Zly{w:World}{g0 e size g n cap:Nat}{xs:List Value}(h:w.ownsRow g0 e size (.slice (some ⟨g,0,none⟩) n cap) n xs):n≤cap:=by
 obtain⟨_,q | ⟨g',cap',cur,e1,_,_,hn,_⟩⟩:=h
 ·simp at q
 ·simp only[Value.slice.injEq] at e1
  rw[e1.2.2];exact hn
def Z3e:Value→Prop
 | .slice _ n c=>n≤c
 | _=>True
def Zp3(n:Nat)(v:Value):Prop:=∀a l c,v=.slice (some a) l c→n≤a.block
theorem Z7.cap{w:World}{g0:Nat}{v:Value}{q:List Rq}(h:Z7 w g0 v q):Z3e v:=by
 rcases V4 h with⟨rfl,_⟩ | ⟨g,cap,rfl⟩
 ·exact Nat.le_refl _
 ·exact Zly h
theorem Zh{w a:World}{rb:Nat}(h:Nw w a)(hb:w.heap.size≤rb)(u0 u1 u2 u3:Value):Nw w ((((a.setCell ⟨rb,0,none⟩ u0).setCell ⟨rb,1,none⟩ u1).setCell ⟨rb,2,none⟩ u2).setCell ⟨rb,3,none⟩ u3) :=
 (((h.st hb _).st hb _).st hb _).st hb _
theorem Z4y{a:World}{rb g0:Nat}{v:Value}{q:List Rq}(h:Z7 a g0 v q)(hb:rb<g0)(u0 u1 u2 u3:Value):Z7 ((((a.setCell ⟨rb,0,none⟩ u0).setCell ⟨rb,1,none⟩ u1).setCell ⟨rb,2,none⟩ u2).setCell ⟨rb,3,none⟩ u3) g0 v q :=
 Z0i (Z0i (Z0i (Z0i h (p:=⟨rb,0,none⟩) hb u0) (p:=⟨rb,1,none⟩) hb u1) (p:=⟨rb,2,none⟩) hb u2) (p:=⟨rb,3,none⟩) hb u3
theorem Y6(w:World)(o1 o2:Obj):((w.alloc o1).alloc o2).heap[w.heap.size]?=some o1∧((w.alloc o1).alloc o2).heap[w.heap.size+1]?=some o2∧Nw w ((w.alloc o1).alloc o2)∧((w.alloc o1).alloc o2).heap.size=w.heap.size+1+1:=by
 have hs:(w.alloc o1).heap.size=w.heap.size+1:=by simp
 refine⟨((Nw.refl _).alloc o2).at' (Z2 w o1),?_,((Nw.refl w).alloc _).alloc _,by simp⟩
 have:=Z2 (w.alloc o1) o2
 rwa [hs] at this
structure Hm where
 h:Hq
 a:Option Addr
 c:Nat
def hmV(x:Hm):Value:=.slice x.a x.h.q.length x.c
def Z3k(x:Hm):List Value:=[.int .i64 x.h.t,.int .i64 x.h.r,.slice x.a x.h.q.length x.c,.int .i64 x.h.W]
theorem Z1t:Z20 prog 58 83 4 48 Z3k where
 und:=underlying58
 inf:=by
  have h:(prog.info? 83).map (fun i=>(i.zero,i.size,i.bytes))=some (some (.agg #[.int .i64 0,.int .i64 0,.slice none 0 0,.int .i64 0]),4,48):=by kernel_rfl
  cases e:prog.info? 83 with
  | none=>rw[e] at h;cases h
  | some i =>
   rw[e] at h
   simp only[Option.map_some,Option.some.injEq,Prod.mk.injEq] at h
   exact⟨i,_,rfl,h.1,h.2.1,h.2.2,rfl⟩
 pos:=by decide
 byt:=by decide
 len:=fun _=>rfl
 one:=fun a u hu=>by
  simp only[Z3k,List.mem_cons,List.not_mem_nil,or_false] at hu
  rcases hu with rfl | rfl | rfl | rfl<;>rfl
abbrev Zcc(w:World)(g0:Nat)(v:Value)(l:List Hm):Prop:=Up 83 4 Z3k w g0 v l
structure Z2u(w:World)(o:Nat)(u:Option Nat)(x:Hm):Prop where
 rd:Zu w (hmV x) x.h.q
 cap:x.h.q.length≤x.c
 len:x.h.q.length≤1000
 new:Zp3 (o+1) (hmV x)
 off:∀b,x.a=some b→x.h.q≠[]→u≠some b.block
structure Rb(w:World)(o po:Nat)(most:Int)(v:Value)(l:List Hm):Prop where
 c0:w.cell? ⟨o,0,none⟩=some (.int .i64 most)
 c1:w.cell? ⟨o,1,none⟩=some (.pointer (some ⟨po,0,none⟩))
 c2:w.cell? ⟨o,2,none⟩=some v
 fz:∀j,w.frozen? ⟨o,j,none⟩=false
 ol:o<w.heap.size
 pl:po<o
 own:Zcc w (o+1) v l
 ok:∀x∈l,Z2u w o v.ownBlock x
 len:l.length≤64
theorem Z2u.nw{w w':World}{o:Nat}{u:Option Nat}{x:Hm}(h:Z2u w o u x)(g:Nw w w'):Z2u w' o u x:=⟨h.rd.nw g,h.cap,h.len,h.new,h.off⟩
theorem Zcr(q:List Rq)(id:Int):∃a b c d e,Z60 q id=.tuple #[.agg #[.int .i64 a,.int .i64 b,.int .i64 c,.int .i64 d,.int .i64 e],.bool (Va q id).isSome]∧(Va q id).getD ⟨0,0,0,0,0⟩=⟨a,b,c,d,e⟩:=by
 unfold Z60
 cases Va q id with
 | none=>exact⟨0,0,0,0,0,rfl,rfl⟩
 | some r=>obtain⟨a,b,c,d,e⟩:=r;exact⟨a,b,c,d,e,rfl,rfl⟩
end Go.Proofs.YtfepoibfbmehiaaGreatDoor
