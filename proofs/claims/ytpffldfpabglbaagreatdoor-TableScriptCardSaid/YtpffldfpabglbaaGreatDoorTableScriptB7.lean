/- Texts merged: PhH, PoA, PoB, PoC, PoR, BkZ, PoRE, BkZK, BkZL, TbE, Rf, BdA, BdK, BdB -/
import Derived.Test.YtpffldfpabglbaaGreatDoorTableScriptB6
import Derived.LaidEqlPtr
import Derived.RangeFuncNested
import Derived.RangeFuncBound
import Derived.RangeFuncCalls
import Derived.RangeFuncLeaves
import Derived.Shelf.RegionOpen
import Derived.OwnWalkIn
import Derived.TacticsInMore
import Derived.LoopNIn
import Derived.LoopIn
import Derived.Maps.OwnSet
import Derived.Maps.Range
import Derived.DeepKeys4
set_option linter.unusedVariables false
set_option maxRecDepth 100000
set_option maxHeartbeats 16000000
namespace Go.Proofs.YtpffldfpabglbaaGreatDoor
open Go.RowKit _root_.Go.Proofs.Tryz
open Go.Shelf
def Zem(w:World)(hb ho:Nat)(v:Value)(s:List Int)(w':World):Prop :=
 ∃g' cap' l',Ym w' hb ho g' cap' l'∧IHs l' s∧(some g'=v.ownBlock∨w.heap.size≤g')∧Z4 (IOf hb v) w w'∧Vz hb ho w w'
theorem Z7p(hb ho:Nat)(v:Value)(l s:List Int)(x:Int)(w:World)(h:IHv w hb ho v l)(hs:IHs l s)(hsm:l.length≤100000) :
  Calls prog 94 #[.iface 133 (.pointer (some ⟨hb,ho,none⟩)),.iface 3 (.int .i64 x)] w fun e w'=>e=.returned (.tuple #[])∧Zem w hb ho v (Zaw x s) w':=by
 have HP:=hD0 (Zfj hb ho v l x w h (by omega))
 have HS:=hD0 (aI0 h hs)
 have mP:=Zs8
 have eP:=Zs6
 have eN:=Znq
 clear h hs
 go_enter func94,ntmps94
 go_wp2_with fail
 refine HP.out.mono ?_
 rintro e w1 ⟨rfl,hw1⟩
 have H1:=hD0 hw1
 obtain⟨g',cap',hp,hor,ht,hsd⟩:=hw1
 have hd:=hp.hd
 have mN:=Zns w1 _ _ _ hd
 have HU:=hD0 (fun j hj=>Zse hb ho g' cap' (l++[x]) (l.length+1) j hj (by simp) w1 hp)
 have HX:=hD0 (Zs7 x HS.out.2.1)
 have HH:=hD0 (aI0 hor (aI0 ht (aI0 hsd hp)))
 clear hp hor ht hsd H1 HP mP
 rw[List.length_append] at mN hd
 simp only[List.length_cons,List.length_nil,Nat.zero_add] at mN hd
 go_wp2_with fail
 refine(Z1e _ _ _ _).mono ?_
 rintro e w2 ⟨rfl,rfl⟩
 clear mN hd
 go_wp2_with fail
 refine(HU.out l.length (by omega) HX.out.1 HX.out.2.1 HX.out.2.2).mono ?_
 rintro e w2 ⟨rfl,hw2⟩
 have H2:=hD0 hw2
 clear hw2
 go_wp2
 go_end0
 obtain⟨l',p1,_,p3,p4,p5⟩:=H2.out
 obtain⟨hor,ht,hsd,hp⟩:=HH.out
 have hl:l'.length=l.length+1:=by rw[p1.length_eq];simp
 refine⟨rfl,g',cap',l',p4,⟨by rw[hl];exact p3,?_,Z4a x s HS.out.2.2.2⟩,hor,ht.trans' p5 (fun i hi e=>?_),hsd.trans (Vz.tch p5 hp.lt hp.ne)⟩
 ·exact p1.trans ((List.perm_append_comm).trans ((HS.out.2.2.1.cons x).trans (Z1d x s).symm))
 ·subst e
  rcases hor with e | e
  ·exact .inr e.symm
  ·omega
def Zue(w:World)(hb ho g cap:Nat)(s:List Int)(w':World):Prop :=
 ∃l',Ym w' hb ho g cap l'∧IHs l' s∧Z4 (fun k=>k=hb∨k=g) w w'∧Vz hb ho w w'
theorem Zjw(hb ho g cap:Nat)(l s:List Int)(a:Int)(w:World)(h:Ym w hb ho g cap l)(hs:IHs l (a::s))(hsm:l.length≤100000) :
  Calls prog 175 #[.iface 133 (.pointer (some ⟨hb,ho,none⟩))] w fun e w'=>e=.returned (.iface 3 (.int .i64 a))∧Zue w hb ho g cap s w':=by
 obtain⟨n,hn⟩:∃n,l.length=n+1:=⟨s.length,by rw[hs.len];rfl⟩
 have HS:=hD0 (aI0 h hs)
 have hd:=h.hd
 have mN:=Zns w _ _ _ hd
 have mS:=Z4c w _ _ _ hd
 have HW:=hD0 (Z1h g cap l 0 n (by omega) (by omega) w h.row)
 rw[hn] at mN mS hd HW
 have mO:=Zwp
 have eO:=Zwo
 have eN:=Znq
 have eS:=Zav
 clear h hs
 go_enter func175,ntmps175
 go_wp2_with fail
 refine(Z1e _ _ _ _).mono ?_
 rintro e w2 ⟨rfl,rfl⟩
 clear mN
 go_wp2_with fail
 refine HW.out.mono ?_
 rintro e w1 ⟨rfl,hr1,ht1⟩
 have hat:=Z6h l (i:=0) (j:=n) (by omega) (by omega)
 have h1:=HS.out.1.turned ht1 hr1 (Vt _ _ _)
 have hH:=HS.out.2.1
 have HE:=hD0 (Zjv hb ho g cap (Z39 l 0 n) n 0 (by rw[Vt];omega) (by rw[Vt];omega) (by omega) w1 h1
  (fun k h0 hk hne hpa=>by rw[hat,Z0x _ (by omega) (by omega),Z0x _ (by omega) (by omega)];exact hH k h0 (by omega))
  (fun h0=>absurd h0 (by omega)))
 have H1:=hD0 (aI0 ht1 hat)
 clear hr1 ht1 hat h1 mS hd hH
 go_wp2_with fail
 refine HE.out.mono ?_
 rintro e w2 hw2
 have H2:Hid _:=hw2
 obtain⟨b,l',rfl,p1,p2,p3,p4,p5⟩:=hw2
 have hl':l'.length=n+1:=by rw[p1.length_eq,Vt,hn]
 have hp:IHp (V1 l') n:=by
  rcases p5 with⟨_,q⟩ | ⟨_,rfl,q⟩
  ·exact q
  ·intro k h0 hk
   by_cases e:(k-1)/2=0
   ·rw[e];exact q k h0 hk e
   ·rw[H1.out.2,Z0x _ (by omega) (by omega),Z0x _ (by omega) (by omega)];exact HS.out.2.1 k h0 (by omega)
 have hx:V1 l' n=a:=by
  rw[p2 n (Nat.le_refl _),H1.out.2,Zd0];exact HS.out.2.head
 obtain⟨el,hs'⟩:=HS.out.2.cut (p1.trans (Z5f l (by omega) (by omega))) hl' hx hp (.refl _) (List.pairwise_cons.1 HS.out.2.2.2).2
 rw[el] at p3
 have HO:=hD0 (Zjx hb ho g cap (l'.take n) a w2 p3)
 have H3:=hD0 (aI0 hs' p4)
 clear p1 p2 p3 p4 p5 hp hx el hs' H2 hl'
 go_wp2_with fail
 refine HO.out.mono ?_
 rintro e w3 ⟨rfl,q1,q2⟩
 have H4:=hD0 (aI0 q1 q2)
 clear q1 q2
 go_wp2
 go_ret
 refine⟨rfl,l'.take n,H4.out.1,H3.out.1,?_,?_⟩
 ·exact((H1.out.1.trans H3.out.2).mono (fun _ _ e=>Or.inr e)).trans (H4.out.2.1.mono (fun _ _ e=>Or.inl e))
 ·exact(Vz.tch (H1.out.1.trans H3.out.2) HS.out.1.lt HS.out.1.ne).trans H4.out.2.2
structure Po(w:World)(p g:Nat)(v:Value)(l:List Int)(L:List Bool):Prop where
 self:w.cell? ⟨p,0,none⟩=some (.pointer (some ⟨p,0,none⟩))
 row:w.cell? ⟨p,1,none⟩=some (.slice (some ⟨g,0,none⟩) L.length L.length)
 cells:∀i,i<L.length→w.cell? ⟨g,i,none⟩=some (.bool (L.getD i false))∧w.frozen? ⟨g,i,none⟩=false
 gl:g<w.heap.size
 hv:IHv w p 2 v l
 hs:IHs l (frI L)
 gp:g≠p
 gv:v.ownBlock≠some g
 sz:L.length≤128
def PoF(p g:Nat)(v:Value):Nat→Prop:=fun k=>k=p∨k=g∨v.ownBlock=some k
theorem Po.lt{w:World}{p g:Nat}{v:Value}{l:List Int}{L:List Bool}(h:Po w p g v l L):p<w.heap.size:=h.hv.lt
theorem Po.own{w:World}{p g:Nat}{v:Value}{l:List Int}{L:List Bool}(h:Po w p g v l L):∀k,PoF p g v k→k<w.heap.size:=by
 rintro k (rfl | rfl | e)
 ·exact h.lt
 ·exact h.gl
 ·exact IS.lt h.hv.row e
theorem Po.tch{S:Nat→Prop}{w w':World}{p g:Nat}{v:Value}{l:List Int}{L:List Bool}(h:Po w p g v l L)(k:Z4 S w w')(hS:∀k,PoF p g v k→¬S k):Po w' p g v l L :=
 ⟨(k.cell h.lt (hS _ (.inl rfl))).trans h.self,(k.cell h.lt (hS _ (.inl rfl))).trans h.row,fun i hi=>⟨(k.cell h.gl (hS _ (.inr (.inl rfl)))).trans (h.cells i hi).1,(k.froz h.gl (hS _ (.inr (.inl rfl)))).trans (h.cells i hi).2⟩,
  lL0 h.gl k.size,h.hv.tch k (hS _ (.inl rfl)) (fun b e=>hS b (.inr (.inr e))),h.hs,h.gp,h.gv,h.sz⟩
theorem Po.nw{w w':World}{p g:Nat}{v:Value}{l:List Int}{L:List Bool}(h:Po w p g v l L)(k:Nw w w'):Po w' p g v l L:=h.tch (Z4.nw (S:=fun _=>False) k) (fun _ _ e=>e)
theorem Po.llen{w:World}{p g:Nat}{v:Value}{l:List Int}{L:List Bool}(h:Po w p g v l L):l.length+liv L=L.length:=by rw[h.hs.len];exact Zhf L
def Pol(w:World)(p:Nat)(L:List Bool)(F:Nat→Prop):Prop:=∃g v l,Po w p g v l L∧F=PoF p g v
theorem Pol.own{w:World}{p:Nat}{L:List Bool}{F:Nat→Prop}(h:Pol w p L F):∀k,F k→k<w.heap.size:=by
 obtain⟨g,v,l,h,rfl⟩:=h;exact h.own
theorem Pol.tch{S:Nat→Prop}{w w':World}{p:Nat}{L:List Bool}{F:Nat→Prop}(h:Pol w p L F)(k:Z4 S w w')(hS:∀k,F k→¬S k):Pol w' p L F:=by
 obtain⟨g,v,l,h,rfl⟩:=h;exact⟨g,v,l,h.tch k hS,rfl⟩
theorem Pol.nw{w w':World}{p:Nat}{L:List Bool}{F:Nat→Prop}(h:Pol w p L F)(k:Nw w w'):Pol w' p L F:=by
 obtain⟨g,v,l,h,rfl⟩:=h;exact⟨g,v,l,h.nw k,rfl⟩
theorem Pol.sz{w:World}{p:Nat}{L:List Bool}{F:Nat→Prop}(h:Pol w p L F):L.length≤128:=by obtain⟨g,v,l,h,rfl⟩:=h;exact h.sz
def Z5r(w:World)(p:Nat)(F:Nat→Prop)(L:List Bool)(w':World):Prop:=∃F',Pol w' p L F'∧(∀k,F' k→F k∨w.heap.size≤k)∧Z4 F w w'
theorem Pol.to{w w':World}{p:Nat}{L:List Bool}{F:Nat→Prop}(h:Pol w p L F)(k:Nw w w'):Z5r w p F L w':=⟨F,h.nw k,fun _ e=>.inl e,Z4.nw k⟩
theorem Znw:(prog.info? 131).isSome=true:=by kernel_rfl
theorem Zk6(a:Addr)(w:World):Sem.run prog (binOp .eql 83 (.pointer (some a)) (.pointer (some a))) w=.ok (.bool true) w:=by
 obtain⟨j,hj⟩:=Option.isSome_iff_exists.1 Znw
 exact run_eql_ptr_same w a underlying83 hj
theorem Z0e(p:Nat)(w:World)(h:w.cell? ⟨p,0,none⟩=some (.pointer (some ⟨p,0,none⟩))):Calls prog 123 #[.pointer (some ⟨p,0,none⟩)] w fun e w'=>e=.returned (.bool true)∧w=w':=by
 have he:=Zk6
 go_enter func123,ntmps123
 go_wp2
 go_ret
 exact⟨rfl,rfl⟩
theorem Zss{p g:Nat}{v:Value}{l:List Int}{L:List Bool}{w:World}(h:Po w p g v l L):Calls prog 177 #[.pointer (some ⟨p,0,none⟩)] w fun e w'=>e=.returned (.int .i64 L.length)∧w=w':=by
 have HM:=hD0 (Z0e p w h.self)
 have hr:=h.row
 clear h
 go_enter func177,ntmps177
 go_wp2_with (go_at_call 123;refine HM.out.mono ?_;rintro e w' ⟨rfl,rfl⟩)
 go_ret
 exact⟨rfl,rfl⟩
theorem Zfd{p g:Nat}{v:Value}{l:List Int}{L:List Bool}{w:World}(h:Po w p g v l L)(n:Int):Calls prog 130 #[.pointer (some ⟨p,0,none⟩),.int .i64 n] w fun e w'=>e=.returned (.bool (hsL L n))∧w=w':=by
 have HM:=hD0 (Zss h)
 have hr:=h.row
 have hsz:=h.sz
 have hg:=h.gl
 by_cases hn:0≤n
 ·obtain⟨i,rfl⟩:=Int.eq_ofNat_of_zero_le hn
  by_cases hi:i<L.length
  ·have hc:=(h.cells i hi).1
   have e:hsL L i=L.getD i false:=by simp[hsL]
   rw[e]
   generalize L.getD i false=b at *
   generalize L.length=N at *
   clear h e hn
   go_enter func130,ntmps130
   go_wp2_with (go_at_call 177;refine HM.out.mono ?_;rintro e w' ⟨rfl,rfl⟩)
   go_ret
   exact⟨rfl,rfl⟩
  ·have e:hsL L i=false:=by simp[hsL,List.getElem?_eq_none (show L.length≤i by omega)]
   rw[e]
   generalize L.length=N at *
   have hd:decide (i<N)=false:=by simpa using hi
   clear h e hn hi
   go_enter func130,ntmps130
   go_wp2_with (go_at_call 177;refine HM.out.mono ?_;rintro e w' ⟨rfl,rfl⟩)
   go_ret
   exact⟨rfl,rfl⟩
 ·have e:hsL L n=false:=by simp[hsL,hn]
  rw[e]
  clear h e hr
  generalize L.length=N at *
  go_enter func130,ntmps130
  go_wp2
  go_ret
  exact⟨rfl,rfl⟩
theorem Znr(a:Option Addr)(n c:Nat)(w:World):Calls prog 124 #[.slice a n c] w fun e w'=>e=.returned (.int .i64 n)∧w'=w:=(Z1e a n c w).mono fun _ _ ⟨a,b⟩=>⟨a,b.symm⟩
theorem Zsn{p g:Nat}{v:Value}{l:List Int}{L:List Bool}{w:World}(h:Po w p g v l L):Calls prog 77 #[.pointer (some ⟨p,0,none⟩)] w fun e w'=>e=.returned (.int .i64 (liv L))∧Nw w w':=by
 have HM:=hD0 (Z0e p w h.self)
 have hr:=h.row
 have hsz:=h.sz
 have hl:=h.llen
 have hd:=h.hv.hd
 have hw:IntKind.i64.wrap ((L.length:Int)-(l.length:Int))=(liv L:Int):=by rw[IntKind.wrap_i64]<;>omega
 have hlt:l.length≤128:=by omega
 have hvf:=h.hv.form
 clear h
 generalize L.length=N at *
 generalize hM:l.length=M at *
 generalize liv L=K at *
 have HL:=hD0 hl
 clear hl
 rcases hvf with⟨rfl,rfl⟩ | ⟨g2,cap,rfl,_⟩
 ·obtain rfl:0=M:=hM
  obtain rfl:K=N:=by have:=HL.out;omega
  clear hw
  go_enter func77,ntmps77
  go_wp2_with (go_at_call 123;refine HM.out.mono ?_;rintro e w' ⟨rfl,rfl⟩)
  go_quiet ((go_at_call 124;exact Calls.quiet_of_same (Znr _ _ _ _)))
  go_wp2
  go_ret
  exact⟨rfl,(Nw.refl w).drewN _⟩
 ·go_enter func77,ntmps77
  go_wp2_with (go_at_call 123;refine HM.out.mono ?_;rintro e w' ⟨rfl,rfl⟩)
  go_quiet ((go_at_call 124;exact Calls.quiet_of_same (Znr _ _ _ _)))
  go_wp2
  go_ret
  exact⟨rfl,(Nw.refl w).drewN _⟩
def tkR(L:List Bool):Int × Int:=if Zo L<L.length then(Zo L,0) else(0,8)
def gvR(L:List Bool)(n:Int):Int:=if hsL L n=true then 0 else 5
theorem Z50{L:List Bool}(h:¬Zo L<L.length):tkL L=L:=if_neg h
theorem Zhk{L:List Bool}{n:Int}(h:hsL L n=false):gvL L n=L:=by
 unfold gvL
 rw[if_neg]
 rintro⟨a,b⟩
 simp only[hsL,a,b,decide_true,Bool.and_self] at h
 cases h
theorem Z3l{L:List Bool}{n:Int}(h:hsL L n=true):∃i:Nat,n=i∧∃hi:i<L.length,L[i]=true:=by
 unfold hsL at h
 simp only[Bool.and_eq_true,decide_eq_true_eq] at h
 obtain⟨a,b⟩:=h
 obtain⟨i,rfl⟩:=Int.eq_ofNat_of_zero_le a
 exact⟨i,rfl,Zal (by simpa using b)⟩
theorem Zry{L:List Bool}{i:Nat}(h:i<L.length):hsL L i=L[i]:=by simp[hsL,h]
theorem Zkw{p g:Nat}{v:Value}{l:List Int}{L:List Bool}{w:World}(h:Po w p g v l L)(q:¬Zo L<L.length):Calls prog 128 #[.pointer (some ⟨p,0,none⟩)] w fun e w'=>e=.returned (.tuple #[.int .i64 0,.int .i64 8])∧w=w':=by
 have HM:=hD0 (Z0e p w h.self)
 have hl:l.length=0:=by
  rw[h.hs.len,Zcl (by have:=Z59 L;omega)];rfl
 have hd:=h.hv.hd
 have hvf:=h.hv.form
 clear h q
 rcases hvf with⟨rfl,_⟩ | ⟨g2,cap,rfl,_⟩
 ·go_enter func128,ntmps128
  go_wp2_with (first | (go_at_call 123;refine HM.out.mono ?_;rintro e w' ⟨rfl,rfl⟩) | (go_at_call 124;refine(Z1e _ _ _ _).mono ?_;rintro e w' ⟨rfl,rfl⟩))
  exact bodyPost_ret (v:=.tuple #[.int .i64 0,.int .i64 8]) (by simp[results,results128,go_sem]) rfl ⟨rfl,rfl⟩
 ·rw[hl] at hd
  go_enter func128,ntmps128
  go_wp2_with (first | (go_at_call 123;refine HM.out.mono ?_;rintro e w' ⟨rfl,rfl⟩) | (go_at_call 124;refine(Z1e _ _ _ _).mono ?_;rintro e w' ⟨rfl,rfl⟩))
  exact bodyPost_ret (v:=.tuple #[.int .i64 0,.int .i64 8]) (by simp[results,results128,go_sem]) rfl ⟨rfl,rfl⟩
theorem Zdf(y:Value)(w:World):Sem.run prog (Instr.typeAssert (.iface 3 y) 20 3 false) w=.ok y w:=Z94 y w
theorem Po.popped{p g g2 cap:Nat}{l:List Int}{L:List Bool}{w w1:World}(h:Po w p g (.slice (some ⟨g2,0,none⟩) l.length cap) l L)(q:Zo L<L.length)(hp:Zue w p 2 g2 cap (frI (tkL L)) w1) :
  Z5r w p (PoF p g (.slice (some ⟨g2,0,none⟩) l.length cap)) (tkL L) (w1.setCell ⟨g,Zo L,none⟩ (.bool true))∧w1.cell? ⟨p,1,none⟩=some (.slice (some ⟨g,0,none⟩) L.length L.length)∧w1.cell? ⟨g,Zo L,none⟩=some (.bool false)∧w1.frozen? ⟨g,Zo L,none⟩=false∧g<w1.heap.size:=by
 obtain⟨l',hp,hs,ht,hsd⟩:=hp
 have hg2:g≠g2:=fun e=>h.gv (by simp[Value.ownBlock,e])
 have hgS:¬(g=p∨g=g2):=fun e=>e.elim h.gp hg2
 have hsz:=ht.size
 have hgl:=h.gl
 have hfr:=Z0m L q
 have c1:=(hsd 1 (by omega)).1.trans h.row
 have cg:=fun i hi=>aI0 ((ht.cell (o:=i) hgl hgS).trans (h.cells i hi).1) ((ht.froz (o:=i) hgl hgS).trans (h.cells i hi).2)
 have t2:=Zi w1 ⟨g,Zo L,none⟩ (.bool true)
 refine⟨⟨PoF p g (.slice (some ⟨g2,0,none⟩) l'.length cap),⟨g,_,l',?_,rfl⟩,?_,?_⟩,c1,?_,(cg _ q).2,by omega⟩
 ·have hv:=hp.v.tch t2 (fun e=>h.gp e.symm) (fun b e=>by simp[Value.ownBlock] at e;subst e;exact fun e=>hg2 e.symm)
  refine⟨?_,?_,fun i hi=>?_,by simp;omega,hv,hs,h.gp,by simpa [Value.ownBlock] using(fun e=>hg2 e.symm),by rw[Us];exact h.sz⟩
  ·rw[t2.cell hp.lt (fun e=>h.gp e.symm)]
   exact(hsd 0 (by omega)).1.trans h.self
  ·rw[t2.cell hp.lt (fun e=>h.gp e.symm),Us]
   exact c1
  ·rw[Us] at hi
   refine⟨?_,by rw[World.frozen?_setCell];exact(cg i hi).2⟩
   unfold tkL
   rw[if_pos q]
   by_cases e:Zo L=i
   ·subst e
    rw[Ye (by simpa using hi),List.getElem_set_self]
    exact World.cell?_setCell_same _ _ _ (cg _ hi).1
   ·rw[Ye (by simpa using hi),List.getElem_set_ne e,←Ye hi]
    exact(World.cell?_setCell_other _ _ _ _ (fun q=>e (congrArg Addr.off q))).trans (cg i hi).1
 ·intro k e
  rcases e with e | e | e
  ·exact .inl (.inl e)
  ·exact .inl (.inr (.inl e))
  ·exact .inl (.inr (.inr e))
 ·refine(ht.mono (fun k _ e=>?_)).trans (t2.mono (fun k _ e=>.inr (.inl e)))
  rcases e with e | e
  ·exact .inl e
  ·exact .inr (.inr (by rw[e];rfl))
 ·rw[(cg _ q).1,Ye q,hfr]
theorem Zkx{p g:Nat}{v:Value}{l:List Int}{L:List Bool}{w:World}(h:Po w p g v l L)(q:Zo L<L.length):Calls prog 128 #[.pointer (some ⟨p,0,none⟩)] w fun e w'=>e=.returned (.tuple #[.int .i64 (Zo L),.int .i64 0])∧Z5r w p (PoF p g v) (tkL L) w':=by
 have HM:=hD0 (Z0e p w h.self)
 have hll:=h.llen
 have hsz:=h.sz
 have hq:liv L<L.length:=by
  rcases Nat.lt_or_ge (liv L) L.length with a | a
  ·exact a
  ·have:=Zfp L
   have:=(Zo8 (L:=L)).1 (by omega)
   omega
 rcases h.hv.form with⟨rfl,rfl⟩ | ⟨g2,cap,rfl,hp⟩
 ·simp at hll;omega
 ·have hs:=h.hs
  rw[Zcm q] at hs
  have HP:=hD0 (Zjw p 2 g2 cap l (frI (tkL L)) (Zo L) w hp hs (by omega))
  have HQ:=hD0 (fun w1 k=>h.popped q (w1:=w1) k)
  have hd:=h.hv.hd
  have ta:=Zdf
  have hm:decide ((l.length:Int)=0)=false:=by simp;intro e;subst e;simp at hll;omega
  have hm2:((l.length:Int)==0)=false:=by simp;intro e;subst e;simp at hll;omega
  have hne:l.length≠0:=by omega
  have hlt:=h.lt
  have qi:(Zo L:Int)<(L.length:Int):=by omega
  clear h hp hs
  generalize Zo L=i at *
  generalize L.length=N at *
  generalize l.length=M at *
  go_enter func128,ntmps128
  go_wp2_with (first | (go_at_call 123;refine HM.out.mono ?_;rintro e w' ⟨rfl,rfl⟩) | (go_at_call 124;refine(Z1e _ _ _ _).mono ?_;rintro e w' ⟨rfl,rfl⟩))
  refine HP.out.mono ?_
  rintro e w1 ⟨rfl,hw1⟩
  obtain⟨a1,a2,a3,a4,a5⟩:=HQ.out w1 hw1
  have HA:=hD0 a1
  clear a1 hw1
  go_wp2
  exact bodyPost_ret (v:=.tuple #[.int .i64 i,.int .i64 0]) (by simp[results,results128,go_sem]) rfl ⟨rfl,HA.out⟩
theorem Zeb{p:Nat}{L:List Bool}{F:Nat→Prop}{w:World}(h:Pol w p L F):Calls prog 128 #[.pointer (some ⟨p,0,none⟩)] w fun e w'=>e=.returned (.tuple #[.int .i64 (tkR L).1,.int .i64 (tkR L).2])∧Z5r w p F (tkL L) w':=by
 by_cases q:Zo L<L.length
 ·rw[show tkR L=(↑(Zo L),0) from if_pos q]
  obtain⟨g,v,l,h,rfl⟩:=h
  exact Zkx h q
 ·rw[show tkR L=(0,8) from if_neg q,Z50 q]
  have h2:=h
  obtain⟨g,v,l,h,rfl⟩:=h
  refine(Zkw h q).mono ?_
  rintro e w' ⟨rfl,rfl⟩
  exact⟨rfl,h2.to (Nw.refl _)⟩
theorem Po.stored{p g:Nat}{v:Value}{l:List Int}{L:List Bool}{w:World}(h:Po w p g v l L)(i:Nat):IHv (w.setCell ⟨g,i,none⟩ (.bool false)) p 2 v l :=
 h.hv.tch (Zi w ⟨g,i,none⟩ (.bool false)) (fun e=>h.gp e.symm) (fun b e=>by intro q;exact h.gv (by rw[e,q]))
theorem Po.pushed{p g:Nat}{v:Value}{l:List Int}{L:List Bool}{w w2:World}(h:Po w p g v l L){i:Nat}(hi:i<L.length)(e:L[i]=true)(hp:Zem (w.setCell ⟨g,i,none⟩ (.bool false)) p 2 v (frI (L.set i false)) w2) :
  Z5r w p (PoF p g v) (L.set i false) w2:=by
 obtain⟨g',cap',l',hp,hs,hor,ht,hsd⟩:=hp
 have t1:=Zi w ⟨g,i,none⟩ (.bool false)
 have hgS:¬IOf p v g:=fun e=>e.elim h.gp (fun q=>h.gv q)
 have hgl:=h.gl
 have hs1:(w.setCell ⟨g,i,none⟩ (.bool false)).heap.size=w.heap.size:=by simp
 have hgg:g≠g':=by
  rintro rfl
  rcases hor with q | q
  ·exact h.gv q.symm
  ·omega
 have cp:∀o,o≠2→w2.cell? ⟨p,o,none⟩=w.cell? ⟨p,o,none⟩:=fun o ho=>(hsd o ho).1.trans (t1.cell h.lt (fun q=>h.gp q.symm))
 refine⟨PoF p g (.slice (some ⟨g',0,none⟩) l'.length cap'),⟨g,_,l',?_,rfl⟩,?_,?_⟩
 ·refine⟨(cp 0 (by omega)).trans h.self,by rw[List.length_set];exact(cp 1 (by omega)).trans h.row,fun j hj=>?_,by have:=ht.size;omega,hp.v,hs,h.gp,by simpa [Value.ownBlock] using(fun q=>hgg q.symm),by rw[List.length_set];exact h.sz⟩
  rw[List.length_set] at hj
  refine⟨(ht.cell (by omega) hgS).trans ?_,((ht.froz (by omega) hgS).trans (World.frozen?_setCell _ _ _ _)).trans (h.cells j hj).2⟩
  by_cases q:i=j
  ·subst q
   rw[Ye (by simpa using hj),List.getElem_set_self]
   exact World.cell?_setCell_same _ _ _ (h.cells _ hj).1
  ·rw[Ye (by simpa using hj),List.getElem_set_ne q,←Ye hj]
   exact(World.cell?_setCell_other _ _ _ _ (fun r=>q (congrArg Addr.off r))).trans (h.cells j hj).1
 ·rintro k (e | e | e)
  ·exact .inl (.inl e)
  ·exact .inl (.inr (.inl e))
  ·simp[Value.ownBlock] at e
   subst e
   rcases hor with q | q
   ·exact .inl (.inr (.inr q.symm))
   ·exact .inr (by omega)
 ·refine(t1.mono (fun k _ e=>.inr (.inl e))).trans (ht.mono (fun k _ e=>?_))
  rcases e with e | e
  ·exact .inl e
  ·exact .inr (.inr e)
theorem Zcr{p g:Nat}{v:Value}{l:List Int}{L:List Bool}{w:World}(h:Po w p g v l L)(n:Int)(q:hsL L n=false):Calls prog 95 #[.pointer (some ⟨p,0,none⟩),.int .i64 n] w fun e w'=>e=.returned (.int .i64 5)∧w=w':=by
 have HM:=hD0 (Z0e p w h.self)
 have hh:=Zfd h n
 rw[q] at hh
 have HH:=hD0 hh
 clear h hh q
 go_enter func95,ntmps95
 go_wp2_with (first | (go_at_call 123;refine HM.out.mono ?_;rintro e w' ⟨rfl,rfl⟩) | (go_at_call 130;refine HH.out.mono ?_;rintro e w' ⟨rfl,rfl⟩))
 go_ret
 exact⟨rfl,rfl⟩
theorem Zrs{p g:Nat}{v:Value}{l:List Int}{L:List Bool}{w:World}(h:Po w p g v l L)(i:Nat)(hi:i<L.length)(e:L[i]=true):Calls prog 95 #[.pointer (some ⟨p,0,none⟩),.int .i64 i] w fun e w'=>e=.returned (.int .i64 0)∧Z5r w p (PoF p g v) (L.set i false) w':=by
 have HM:=hD0 (Z0e p w h.self)
 have hh:=Zfd h i
 rw[Zry hi,e] at hh
 have HH:=hD0 hh
 have hp:=Z7p p 2 v l (frI L) i _ (h.stored i) h.hs (by have:=h.llen;have:=h.sz;omega)
 rw[Zmw hi e] at hp
 have HP:=hD0 hp
 have HQ:=hD0 (fun w2 k=>h.pushed hi e (w2:=w2) k)
 have hr:=h.row
 have hf:=(h.cells i hi).2
 have hc:=(h.cells i hi).1
 have hgl:=h.gl
 have hpl:=h.lt
 have hsz:=h.sz
 clear h hh hp e
 generalize L.getD i false=b at *
 generalize L.length=N at *
 go_enter func95,ntmps95
 go_wp2_with (first | (go_at_call 123;refine HM.out.mono ?_;rintro e w' ⟨rfl,rfl⟩) | (go_at_call 130;refine HH.out.mono ?_;rintro e w' ⟨rfl,rfl⟩))
 refine HP.out.mono ?_
 rintro e w1 ⟨rfl,hw1⟩
 have HA:=hD0 (HQ.out w1 hw1)
 clear hw1
 go_wp2
 go_ret
 exact⟨rfl,HA.out⟩
theorem Zn1{p:Nat}{L:List Bool}{F:Nat→Prop}{w:World}(h:Pol w p L F)(n:Int):Calls prog 95 #[.pointer (some ⟨p,0,none⟩),.int .i64 n] w fun e w'=>e=.returned (.int .i64 (gvR L n))∧Z5r w p F (gvL L n) w':=by
 have h2:=h
 obtain⟨g,v,l,h,rfl⟩:=h
 rcases q:hsL L n with _ | _
 ·rw[Zhk q,show gvR L n=5 by simp[gvR,q]]
  refine(Zcr h n q).mono ?_
  rintro e w' ⟨rfl,rfl⟩
  exact⟨rfl,h2.to (Nw.refl _)⟩
 ·rw[show gvR L n=0 by simp[gvR,q]]
  obtain⟨i,rfl,hi,e⟩:=Z3l q
  rw[Z48 L i (by rw[Ye hi];exact e)]
  exact Zrs h i hi e
theorem Zyz:(prog.info? 4).map (fun i=>(i.zero,i.size,i.bytes))=some (some (.bool false),1,1):=by kernel_rfl
theorem Zdd(w:World)(N:Nat)(hN:N≤1000):(Instr.makeSlice 126 (.int .i64 N) (.int .i64 N)).run prog w=.ok (.slice (some ⟨w.heap.size,0,none⟩) N N) (w.alloc (.cells (Array.replicate N (.bool false)) 4)):=by
 obtain⟨i0,hi,hz0,hz1,hz2⟩:=info_parts Zyz
 have h:=run_make (P:=prog) w 126 4 i0 (.bool false) underlying126 hi hz0 .i64 .i64 N N (by omega) (Int.le_refl _) (by rw[hz2];omega) (by omega)
 have e:madeCells (Value.bool false).cells (N*1)=Array.replicate N (.bool false):=by
  apply Array.ext
  ·simp[madeCells]
  ·intro j h1 h2
   simp[madeCells,Value.cells,Nat.mod_one]
 rw[h,hz1]
 simp only[Int.toNat_natCast,e]
structure Zeo(w:World)(N k:Nat)(v:Value)(l:List Int)(W:World):Prop where
 nw:Nw w W
 hv:IHv W (w.heap.size+1) 2 v l
 hs:IHs l (Zg (List.range k))
 own:∀b,v.ownBlock=some b→w.heap.size+2≤b
 c0:W.cell? ⟨w.heap.size+1,0,none⟩=some (.pointer none)
 f0:W.frozen? ⟨w.heap.size+1,0,none⟩=false
 c1:W.cell? ⟨w.heap.size+1,1,none⟩=some (.slice (some ⟨w.heap.size,0,none⟩) N N)
 cs:∀i,i<N→W.cell? ⟨w.heap.size,i,none⟩=some (.bool false)∧W.frozen? ⟨w.heap.size,i,none⟩=false
 sz:w.heap.size+1<W.heap.size
theorem Zfq(w:World)(N:Nat)(T U:TypeId):Zeo w N 0 (.slice none 0 0) [] ((w.alloc (.cells (Array.replicate N (.bool false)) T)).alloc (.cells #[.pointer none,.slice (some ⟨w.heap.size,0,none⟩) N N,.slice none 0 0] U)):=by
 refine⟨((Nw.refl w).alloc _).alloc _,⟨by simp[go_sem],by simp[go_sem],IS.nil _,by simp[Value.ownBlock]⟩,IHs.nil,by simp[Value.ownBlock],by simp[go_sem],by simp[go_sem],by simp[go_sem],fun i hi=>?_,by simp⟩
 constructor<;>simp[go_sem,hi]
theorem Zeo.step{w W W':World}{N k:Nat}{v:Value}{l:List Int}(h:Zeo w N k v l W)(hp:Zem W (w.heap.size+1) 2 v (Zg (List.range (k+1))) W'):∃v' l',Zeo w N (k+1) v' l' W':=by
 obtain⟨g',cap',l',hp,hs,hor,ht,hsd⟩:=hp
 have hsz:=h.sz
 have n1:¬IOf (w.heap.size+1) v w.heap.size:=fun e=>e.elim (fun e=>by omega) (fun e=>by have:=h.own _ e;omega)
 refine⟨_,l',Yq h.nw ht (fun i e=>?_),hp.v,hs,fun b e=>?_,(hsd 0 (by omega)).1.trans h.c0,(hsd 0 (by omega)).2.trans h.f0,(hsd 1 (by omega)).1.trans h.c1,fun i hi=>⟨(ht.cell (by omega) n1).trans (h.cs i hi).1,(ht.froz (by omega) n1).trans (h.cs i hi).2⟩,by have:=ht.size;omega⟩
 ·rcases e with e | e
  ·omega
  ·have:=h.own _ e;omega
 ·simp[Value.ownBlock] at e
  subst e
  rcases hor with q | q
  ·exact h.own _ q.symm
  ·omega
def Zuh(w:World)(N:Nat)(e:Ending)(W:World):Prop:=∃p F,e=.returned (.tuple #[.pointer (some ⟨p,0,none⟩),.int .i64 0])∧Pol W p (List.replicate N false) F∧Nw w W∧(∀k,F k→w.heap.size≤k)
theorem Zeo.done{w W:World}{N:Nat}{v:Value}{l:List Int}(h:Zeo w N N v l W)(hN:N≤128):Zuh w N (.returned (.tuple #[.pointer (some ⟨w.heap.size+1,0,none⟩),.int .i64 0])) (W.setCell ⟨w.heap.size+1,0,none⟩ (.pointer (some ⟨w.heap.size+1,0,none⟩))):=by
 have t:=Zi W ⟨w.heap.size+1,0,none⟩ (.pointer (some ⟨w.heap.size+1,0,none⟩))
 have hsz:=h.sz
 have o:∀j,j≠0→(W.setCell ⟨w.heap.size+1,0,none⟩ (.pointer (some ⟨w.heap.size+1,0,none⟩))).cell? ⟨w.heap.size+1,j,none⟩=W.cell? ⟨w.heap.size+1,j,none⟩:=fun j hj=>World.cell?_setCell_other _ _ _ _ (fun r=>hj (congrArg Addr.off r).symm)
 refine⟨w.heap.size+1,_,rfl,⟨w.heap.size,v,l,⟨World.cell?_setCell_same _ _ _ h.c0,by rw[List.length_replicate];exact(o 1 (by omega)).trans h.c1,fun i hi=>?_,by simp;omega,?_,by rw[Zrp];exact h.hs,by omega,fun e=>by have:=h.own _ e;omega,by rw[List.length_replicate];exact hN⟩,rfl⟩,Yq h.nw t (fun i e=>by simp at e;omega),?_⟩
 ·rw[List.length_replicate] at hi
  have e:(List.replicate N false).getD i false=false:=by simp[List.getD,hi]
  rw[e]
  exact⟨(t.cell (by omega) (by simp)).trans (h.cs i hi).1,by rw[World.frozen?_setCell];exact(h.cs i hi).2⟩
 ·refine⟨(o 2 (by omega)).trans h.hv.hd,by rw[World.frozen?_setCell];exact h.hv.hf,IS.tch h.hv.row t (fun b e=>?_),h.hv.ne⟩
  have:=h.own b e
  simp;omega
 ·rintro k (e | e | e)
  ·omega
  ·omega
  ·have:=h.own _ e;omega
theorem Zow(N:Nat)(hN:N≤128)(w:World):Calls prog 44 #[.int .i64 N] w (Zuh w N):=by
 have km:=fun w=>Zdd w N (by omega)
 have HS:=hD0 (Zfq w N 4 131)
 have hd:decide (128<N)=false:=by simp;omega
 have hd2:decide ((128:Int)<(N:Int))=false:=by simp;omega
 go_enter func44,ntmps44
 go_wp2
 go_loopw [17] (fun i wr=>∃k:Nat,k≤N∧i=.int .i64 k∧∃v l,Hid (Zeo w N k v l wr)) (fun i _=>N-(intOf i).toNat)
 case atStart=>exact⟨0,Nat.zero_le _,rfl,_,_,HS⟩
 case round =>
  obtain⟨k,hk,rfl,v,l,HI⟩:=hrel
  by_cases hlt:k<N
  ·have hp:=Z7p (w.heap.size+1) 2 v l (Zg (List.range k)) k wr HI.out.hv HI.out.hs (by rw[HI.out.hs.len,Z65];omega)
   rw[Zk9] at hp
   have HP:=hD0 hp
   clear hp
   go_wp2_with fail
   refine HP.out.mono ?_
   rintro e w1 ⟨rfl,hw1⟩
   obtain⟨v',l',hI⟩:=HI.out.step hw1
   have HI':=hD0 hI
   clear hw1 hI
   go_wp2
   go_roundw
   case rel=>exact⟨k+1,by omega,by go_num,v',l',HI'⟩
   case measure=>simp[intOf];omega
  ·obtain rfl:k=N:=by omega
   have c0:=HI.out.c0
   have f0:=HI.out.f0
   have hz:=HI.out.sz
   have HD:=hD0 (HI.out.done hN)
   go_wp2
   exact bodyPost_ret (v:=.tuple #[.pointer (some ⟨w.heap.size+1,0,none⟩),.int .i64 0]) (by simp[results,results44,go_sem]) rfl HD.out
structure Rp(W:World)(o g:Nat)(L:List Bool):Prop where
 p0:W.cell? ⟨o,0,none⟩=some (.slice (some ⟨g,0,none⟩) L.length L.length)
 cs:∀i,i<L.length→W.cell? ⟨g,i,none⟩=some (.bool (L.getD i false))∧W.frozen? ⟨g,i,none⟩=false
 ol:o<W.heap.size
 gl:g<W.heap.size
 og:g≠o
 sz:L.length≤128
theorem Rp.tch{S:Nat→Prop}{W W':World}{o g:Nat}{L:List Bool}(h:Rp W o g L)(k:Z4 S W W')(ho:¬S o)(hg:¬S g):Rp W' o g L :=
 ⟨(k.cell h.ol ho).trans h.p0,fun i hi=>⟨(k.cell h.gl hg).trans (h.cs i hi).1,(k.froz h.gl hg).trans (h.cs i hi).2⟩,lL0 h.ol k.size,lL0 h.gl k.size,h.og,h.sz⟩
theorem Rp.nw{W W':World}{o g:Nat}{L:List Bool}(h:Rp W o g L)(k:Nw W W'):Rp W' o g L:=h.tch (Z4.nw (S:=fun _=>False) k) (fun e=>e) (fun e=>e)
def Zqu(W:World)(o g:Nat)(L:List Bool)(W':World):Prop:=Rp W' o g L∧Z4 (fun k=>k=g) W W'
theorem Rp.keep{W:World}{o g:Nat}{L:List Bool}(h:Rp W o g L):Zqu W o g L W:=⟨h,Z4.refl _ W⟩
theorem Rp.put{W:World}{o g:Nat}{L:List Bool}(h:Rp W o g L){i:Nat}(b:Bool)(hi:i<L.length):Zqu W o g (L.set i b) (W.setCell ⟨g,i,none⟩ (.bool b)):=by
 have t:=Zi W ⟨g,i,none⟩ (.bool b)
 refine⟨⟨by rw[List.length_set];exact(t.cell h.ol (fun e=>h.og e.symm)).trans h.p0,fun j hj=>?_,by simpa using h.ol,by simpa using h.gl,h.og,by rw[List.length_set];exact h.sz⟩,t⟩
 rw[List.length_set] at hj
 refine⟨?_,by rw[World.frozen?_setCell];exact(h.cs j hj).2⟩
 by_cases q:i=j
 ·subst q
  rw[Ye (by simpa using hj),List.getElem_set_self]
  exact World.cell?_setCell_same _ _ _ (h.cs _ hj).1
 ·rw[Ye (by simpa using hj),List.getElem_set_ne q,←Ye hj]
  exact(World.cell?_setCell_other _ _ _ _ (fun r=>q (congrArg Addr.off r))).trans (h.cs j hj).1
theorem Ztd{o g:Nat}{L:List Bool}{W:World}(h:Rp W o g L)(n:Int):Calls prog 184 #[.pointer (some ⟨o,0,none⟩),.int .i64 n] W fun e W'=>e=.returned (.bool (hsL L n))∧W=W':=by
 have hr:=h.p0
 have hsz:=h.sz
 have hg:=h.gl
 by_cases hn:0≤n
 ·obtain⟨i,rfl⟩:=Int.eq_ofNat_of_zero_le hn
  by_cases hi:i<L.length
  ·have hc:=(h.cs i hi).1
   have e:hsL L i=L.getD i false:=by simp[hsL]
   rw[e]
   generalize L.getD i false=b at *
   generalize L.length=N at *
   clear h e hn
   go_enter func184,ntmps184
   go_wp2
   go_ret
   exact⟨rfl,rfl⟩
  ·have e:hsL L i=false:=by simp[hsL,List.getElem?_eq_none (show L.length≤i by omega)]
   rw[e]
   generalize L.length=N at *
   have hd:decide (i<N)=false:=by simpa using hi
   clear h e hn hi
   go_enter func184,ntmps184
   go_wp2
   go_ret
   exact⟨rfl,rfl⟩
 ·have e:hsL L n=false:=by simp[hsL,hn]
  rw[e]
  clear h e hr
  generalize L.length=N at *
  go_enter func184,ntmps184
  go_wp2
  go_ret
  exact⟨rfl,rfl⟩
theorem Z81{o g:Nat}{L:List Bool}{W:World}(h:Rp W o g L):Calls prog 144 #[.pointer (some ⟨o,0,none⟩)] W fun e W'=>e=.returned (.int .i64 L.length)∧W=W':=by
 have hr:=h.p0
 clear h
 go_enter func144,ntmps144
 go_wp2
 go_ret
 exact⟨rfl,rfl⟩
theorem Zdu{o g:Nat}{L:List Bool}{W:World}(h:Rp W o g L)(n:Int):Calls prog 138 #[.pointer (some ⟨o,0,none⟩),.int .i64 n] W fun e W'=>e=.returned (.int .i64 (gvR L n))∧Zqu W o g (gvL L n) W':=by
 have HH:=hD0 (Ztd h n)
 rcases q:hsL L n with _ | _
 ·rw[Zhk q,show gvR L n=5 by simp[gvR,q]]
  rw[q] at HH
  have HK:=hD0 h.keep
  clear h q
  go_enter func138,ntmps138
  go_wp2_with (go_at_call 184;refine HH.out.mono ?_;rintro e w' ⟨rfl,rfl⟩)
  go_ret
  exact⟨rfl,HK.out⟩
 ·rw[show gvR L n=0 by simp[gvR,q]]
  rw[q] at HH
  obtain⟨i,rfl,hi,e⟩:=Z3l q
  rw[Z48 L i (by rw[Ye hi];exact e)]
  have HK:=hD0 (h.put false hi)
  have hr:=h.p0
  obtain⟨hc,hf⟩:=h.cs i hi
  have hgl:=h.gl
  have hsz:=h.sz
  clear h q e
  generalize L.getD i false=b at *
  generalize L.length=N at *
  go_enter func138,ntmps138
  go_wp2_with (go_at_call 184;refine HH.out.mono ?_;rintro e w' ⟨rfl,rfl⟩)
  go_ret
  exact⟨rfl,HK.out⟩
theorem Zdx{o g:Nat}{L:List Bool}{W:World}(h:Rp W o g L):Calls prog 145 #[.pointer (some ⟨o,0,none⟩)] W fun e W'=>e=.returned (.tuple #[.int .i64 (tkR L).1,.int .i64 (tkR L).2])∧Zqu W o g (tkL L) W':=by
 have hr:=h.p0
 have hgl:=h.gl
 have hsz:=h.sz
 have hfl:=Z59 L
 have H:=hD0 h
 clear h
 obtain⟨a,b,hab⟩:∃a b,tkR L=(a,b):=⟨_,_,rfl⟩
 have HR:=hD0 hab
 rw[hab]
 clear hab
 go_enter func145,ntmps145
 go_wp2
 go_loopw [4] (fun i wr=>∃k:Nat,k≤Zo L∧i=.int .i64 k∧W=wr) (fun i _=>L.length-(intOf i).toNat)
 case atStart=>exact⟨0,Nat.zero_le _,rfl,rfl⟩
 case round =>
  obtain⟨k,hk,rfl,rfl⟩:=hrel
  by_cases hlt:k<L.length
  ·obtain⟨c,f⟩:=H.out.cs k hlt
   have hlti:(k:Int)<(L.length:Int):=by omega
   by_cases hkf:k<Zo L
   ·rw[Ye hlt,Z1b L k hlt hkf] at c
    go_wp2
    go_roundw
    case rel=>exact⟨k+1,by omega,by go_num,trivial⟩
    case measure=>simp[intOf];omega
   ·obtain rfl:k=Zo L:=by omega
    rw[Ye hlt,Z0m L hlt] at c
    have e1:tkL L=L.set (Zo L) true:=if_pos hlt
    have HP:=hD0 (H.out.put true hlt)
    rw[←e1] at HP
    have e2:((Zo L:Int),(0:Int))=(a,b):=by rw[←HR.out];exact(if_pos hlt).symm
    simp only[Prod.mk.injEq] at e2
    obtain⟨rfl,rfl⟩:=e2
    clear e1 hkf
    go_wp2
    exact bodyPost_ret (v:=.tuple #[.int .i64 (Zo L),.int .i64 0]) (by simp[results,results145,go_sem]) rfl ⟨rfl,HP.out⟩
  ·have hq:¬Zo L<L.length:=by omega
   have e2:((0:Int),(8:Int))=(a,b):=by rw[←HR.out];exact(if_neg hq).symm
   simp only[Prod.mk.injEq] at e2
   obtain⟨rfl,rfl⟩:=e2
   have HK:=hD0 H.out.keep
   rw[←Z50 hq] at HK
   have hd:decide ((k:Int)<(L.length:Int))=false:=by simp;omega
   clear hq
   go_wp2
   exact bodyPost_ret (v:=.tuple #[.int .i64 0,.int .i64 8]) (by simp[results,results145,go_sem]) rfl ⟨rfl,HK.out⟩
theorem Zxq(w:World)(N:Nat)(hN:N≤128)(T U:TypeId):Rp ((w.alloc (.cells (Array.replicate N (.bool false)) T)).alloc (.cells #[.slice (some ⟨w.heap.size,0,none⟩) N N] U)) (w.heap.size+1) w.heap.size (List.replicate N false):=by
 refine⟨by simp[go_sem],fun i hi=>?_,by simp,by simp;omega,by omega,by simpa using hN⟩
 rw[List.length_replicate] at hi
 have e:(List.replicate N false).getD i false=false:=by simp[List.getD,hi]
 rw[e]
 constructor<;>simp[go_sem,hi]
theorem Zkh(N:Nat)(hN:N≤128)(w:World):Calls prog 46 #[.int .i64 N] w fun e W=>∃o g,e=.returned (.tuple #[.pointer (some ⟨o,0,none⟩),.int .i64 0])∧Rp W o g (List.replicate N false)∧w.heap.size≤o∧w.heap.size≤g∧Nw w W:=by
 have km:=fun w=>Zdd w N (by omega)
 have HS:=hD0 (Zxq w N hN 4 139)
 have hd2:decide ((128:Int)<(N:Int))=false:=by simp;omega
 have hd:decide (128<N)=false:=by simp;omega
 go_enter func46,ntmps46
 go_wp2
 exact bodyPost_ret (v:=.tuple #[.pointer (some ⟨w.heap.size+1,0,none⟩),.int .i64 0]) (by simp[results,results46,go_sem]) rfl ⟨_,_,rfl,HS.out,Nat.le_succ _,Nat.le_refl _,((Nw.refl w).alloc _).alloc _⟩
theorem Zfl(w:World):IS w (.slice none 0 0) []:=⟨rfl,.inl ⟨rfl,rfl⟩⟩
theorem Yx.rp{w w':World}{o po pg:Nat}{most:Int}{v v':Value}{l l':List Hm}{L:List Bool}(k:Yx w o po o most v l w' v' l')(h:Rb w o po most v l)(hp:Rp w po pg L)(hg:pg<o):Rp w' po pg L:=by
 have h1:∀b,b<o→¬(b=o∨v.ownBlock=some b∨b=o):=fun b hb e=>by
  rcases e with e | e | e
  ·omega
  ·have:=Vr h.own e;omega
  ·omega
 exact hp.tch k.tch (h1 po h.pl) (h1 pg hg)
theorem Zww{h:Hq}{id:Int}(hf:(Yr h.q id).isSome=true):lvR h id=(⟨h.t,h.r,h.W,lvQ id h.q⟩,0):=by
 unfold lvR
 cases e:Yr h.q id with
 | none=>rw[e] at hf;cases hf
 | some r=>rfl
theorem Z9h{hs:List Hq}{id:Int}{h:Hq}(e:Zt hs id=some h):h∈hs∧(Yr h.q id).isSome=true:=by
 unfold Zt at e
 exact⟨List.mem_of_find?_eq_some e,by simpa using List.find?_some e⟩
theorem Zp8{w:World}{o po:Nat}{most:Int}{v:Value}{l:List Hm}(h:Rb w o po most v l)(s:Y9 (Z3 l))(hok:∀x∈l,Ok x.h.W x.h.q){pg:Nat}{L:List Bool}(hp:Rp w po pg L)(hpg:pg<o)(id:Int) :
  Calls prog 98 #[.pointer (some ⟨o,0,none⟩),.int .i64 id] w fun e w'=>∃vi,e=.returned (.tuple #[vi,.int .i64 (Z1w (Z3 l) id).2])∧IS w' vi (Z1w (Z3 l) id).1∧Rp w' po pg (Vy (Z3 l) L id).2∧∃v' l',Z3 l'=(Vy (Z3 l) L id).1∧Yx w o po pg most v l w' v' l':=by
 obtain⟨a,c,rfl,hf⟩:=h.form
 have HF:=hD0 hf
 have H:=hD0 h
 have HS:=hD0 s
 have HO:=hD0 hok
 have HPl:=hD0 hp
 have hol:=h.ol
 have hpl:=h.pl
 have HP:=hD0 (Z9n h id)
 obtain⟨E,hE⟩:∃E,Z1w (Z3 l) id=E:=⟨_,rfl⟩
 obtain⟨T,hT⟩:∃T,Vy (Z3 l) L id=T:=⟨_,rfl⟩
 rw[hE,hT]
 have HE:=hD0 hE
 have HT:=hD0 hT
 clear h hf s hok hE hT hp
 go_enter func98,ntmps98
 go_wp2_with fail
 refine HP.out.mono ?_
 rintro e w1 ⟨i,rfl,hi,g1⟩
 have HN1:=hD0 g1
 rcases hi.of with⟨rfl,ho⟩ | ⟨k,rfl,hk,ho⟩
 ·have HR:=hD0 (HE.out.symm.trans (show Z1w (Z3 l) id=([],5)by unfold Z1w;rw[ho]))
  have HR2:=hD0 (HT.out.symm.trans (show Vy (Z3 l) L id=(Z3 l,L)by unfold Vy;rw[ho]))
  clear HE HT HP ho hi g1
  go_wp2
  refine bodyPost_ret (v:=.tuple #[.slice none 0 0,.int .i64 5]) (by simp[results,results98,go_sem, *]) rfl ?_
  exact⟨_,by rw[HR.out],by rw[HR.out];exact Zfl _,by rw[HR2.out];exact HPl.out.nw HN1.out,_,l,by rw[HR2.out],H.out.same HN1.out pg⟩
 ·rcases HF.out with⟨_,e,_⟩ | ⟨g,rfl,hog,hgl⟩
  ·subst e;simp at hk
  have hfs:=(Z9h ho).2
  have HW:=hD0 (H.out.nw HN1.out)
  have hx:=HW.out.ok _ (gM0 hk)
  have hokx:=HO.out _ (gM0 hk)
  obtain⟨f0,f1,f2,f3⟩:=HW.out.at_ k hk
  have hl1:=HW.out.len
  have hki:(k:Int)<(l.length:Int):=by omega
  have c2:=HW.out.c2
  have HG:=hD0 (fun w2 (g:Nw w1 w2)=>Zp6 l[k].h.t l[k].h.r l[k].h.W id (hmV l[k]) l[k].h.q w2 hx.len hokx hx.cap (hx.rd.nw g))
  have HR:=hD0 (HE.out.symm.trans (show Z1w (Z3 l) id=((Zc (lvQ id l[k].h.q)).1,0)by unfold Z1w;rw[ho]))
  have HR2:=hD0 (HT.out.symm.trans (show Vy (Z3 l) L id=(Yy (Z3 l) ⟨l[k].h.t,l[k].h.r,l[k].h.W,lvQ id l[k].h.q⟩,gvL L id)by unfold Vy;rw[ho]))
  rw[show(⟨l[k].h.t,l[k].h.r,l[k].h.W,l[k].h.q⟩:Hq)=l[k].h from rfl,Zww hfs] at HG
  unfold Yf hmV at HG
  have HLn:=hD0 (Nat.le_trans (Z6m id l[k].h.q) hx.len)
  have HOk:=hD0 (Zi5 hokx id)
  have HNm:=hD0 (show(l[k].h.t,l[k].h.r)=Z9 l[k].h from rfl)
  clear HE HT ho hi hx hokx hfs HP
  generalize l[k].a=qa at *
  generalize l[k].c=qc at *
  obtain⟨n,hn⟩:∃n,l[k].h.q.length=n:=⟨_,rfl⟩
  rw[hn] at f2 HG
  obtain⟨Q,hQ⟩:∃Q,lvQ id l[k].h.q=Q:=⟨_,rfl⟩
  rw[hQ] at HG HR HR2 HLn HOk
  obtain⟨ht,ht'⟩:∃t,l[k].h.t=t:=⟨_,rfl⟩
  obtain⟨hr,hr'⟩:∃r,l[k].h.r=r:=⟨_,rfl⟩
  obtain⟨hW,hW'⟩:∃W,l[k].h.W=W:=⟨_,rfl⟩
  rw[ht'] at f0 HG HNm HR2
  rw[hr'] at f1 HG HNm HR2
  rw[hW'] at f3 HG HOk HR2
  clear hn hQ ht' hr' hW' g1
  go_wp2_with fail
  refine(HG.out _ (Nw.refl _)).mono ?_
  rintro e w2 ⟨v2,rfl,g2,hrd,hcap,hnew⟩
  obtain⟨a2,n2,rfl⟩:=hrd.form
  simp only[Yf]
  have hal:=Z1 w2 (.cells #[.int .i64 ht,.int .i64 hr,.slice a2 Q.length n2,.int .i64 hW] 63)
  have hNa:Nw w2 (w2.alloc (.cells #[.int .i64 ht,.int .i64 hr,.slice a2 Q.length n2,.int .i64 hW] 63)):=(Nw.refl w2).alloc _
  have hNq:=g2.trans hNa
  have hNy:=HN1.out.trans hNq
  have hrd2:=hrd.nw hNa
  have c1:=(H.out.nw hNy).c1
  have HGv:=hD0 (Zdu (HPl.out.nw hNy) id)
  have hpl2:=hlt hal
  have HK:=hD0 (aI0 hcap hnew)
  have hg2:=g2.sz
  have HA:=hD0 (aI0 hal (aI0 hNy hrd2))
  clear hrd hcap hnew hNa hal hrd2 g2 HG f0 f1 f2 f3 c2 hNy
  have hgot:=HW.out.got hNq ⟨ht,hr,hW,Q⟩ (HA.out.2.2) HK.out.1 HK.out.2 HLn.out
  go_wp2_with fail
  refine HGv.out.mono ?_
  rintro e w3 ⟨rfl,hRp,hT3⟩
  have hb3:=(hT3.block _ (hlt HA.out.1) (fun e=>by have:=HN1.out.sz;omega)).trans HA.out.1
  have h3:=(H.out.nw HA.out.2.1).low hT3 (fun b e=>by omega)
  have hX3:=hgot.tch hT3 (fun b e=>.inl (by omega))
  have HE3:=hD0 (Zg1 h3 HS.out hk ⟨⟨ht,hr,hW,Q⟩,a2,n2⟩ hX3 HNm.out HOk.out o)
  have HR3:=hD0 hRp
  have H3:=hD0 h3
  have HT3:=hD0 hT3
  have p0:w3.cell? ⟨w2.heap.size,0,none⟩=some (.int .i64 ht):=Z0 hb3
  have p1:w3.cell? ⟨w2.heap.size,1,none⟩=some (.int .i64 hr):=Z0 hb3
  have p2:w3.cell? ⟨w2.heap.size,2,none⟩=some (.slice a2 Q.length n2):=Z0 hb3
  have p3:w3.cell? ⟨w2.heap.size,3,none⟩=some (.int .i64 hW):=Z0 hb3
  clear hb3 h3 hX3 hgot hT3 hRp HGv c1 hg2 hNq
  go_wp2_with fail
  refine HE3.out.mono ?_
  rintro e w4 ⟨vi,rfl,hIS,v4,l4,hl4,hRT⟩
  have HF4:=hD0 (aI0 hIS (aI0 hl4 hRT))
  clear hIS hl4 hRT HE3
  go_wp2
  refine bodyPost_ret (v:=.tuple #[vi,.int .i64 0]) (by simp[results,results98,go_sem, *]) rfl ?_
  exact⟨vi,by rw[HR.out],by rw[HR.out];exact HF4.out.1,by rw[HR2.out];exact HF4.out.2.2.rp H3.out HR3.out hpg,v4,l4,by rw[HR2.out];exact HF4.out.2.1,Yx.pre HA.out.2.1 (Yx.low HT3.out HF4.out.2.2.pg)⟩
theorem Z3p{P:Program}{w:World}{ops:Array Oper}{rest:List Oper}{o:Oper}{a:Act}{Q:Exit→Act→World→Prop}
  (hgd:Region.wanted o (yielded ops a.tmps)=true) (s x:Operand) (t:TypeId) (hop:o.op=Op.call { callee:=Callee.builtin Builtin.append,args:=#[s,x],argTypes:=#[t,t] })
  (v u v':Value) (w':World) (hs:a.eval s=v) (hx:a.eval x=u) (hr:(Builtin.append_ #[t,t] o.type #[v,u]).run P w=.ok v' w') (h:wpList P ops Q rest (a.put o.dst v') w'):wpList P ops Q (o::rest) a w:=by
 refine wpList_step fun _ hK=>?_
 rw[if_pos hgd]
 unfold Oper.wp execOp
 simp only[hop,resolve,invoke,builtin,Sem.run_bind,Sem.run_pure,Result.andThen_ok,List.map_toArray,List.map_cons,List.map_nil,hs,hx,hr]
 exact hK _ _ h
def Zvi(w:World)(zs:List Int)(e:Ending)(w':World):Prop:=∃v,e=.returned v∧IS w' v zs∧(∀k,v.ownBlock=some k→w.heap.size≤k)∧Nw w w'
theorem Zjb(l m:List Nat):Zg (l++m)=Zg l++Zg m:=List.map_append
theorem Zk0(L:List Bool)(k:Nat):Zg (Z2n L (k+1))=Zg (Z2n L k)++(if L.getD k false=true then[(k:Int)] else[]):=by
 rw[Z9g,Zjb]
 congr 1
 split<;>rfl
theorem Z8u(l:List Nat):(Zg l).length=l.length:=by simp[Zg]
theorem Zpb{o g:Nat}{L:List Bool}{W:World}(h:Rp W o g L):Calls prog 125 #[.pointer (some ⟨o,0,none⟩)] W (Zvi W (Zg (lnt L))):=by
 have H:=hD0 h
 have hsz:=h.sz
 have hr:=h.p0
 clear h
 go_enter func125,ntmps125
 go_wp2
 go_loopw [3,4] (fun v i wr=>∃k:Nat,k≤L.length∧i=.int .i64 k∧IS wr v (Zg (Z2n L k))∧(∀k,v.ownBlock=some k→W.heap.size≤k)∧Nw W wr) (fun _ i _=>L.length-(intOf i).toNat)
 case atStart=>exact⟨0,Nat.zero_le _,rfl,IS.nil _,fun k e=>by simp[Value.ownBlock] at e,Nw.refl _⟩
 case round =>
  obtain⟨k,hk,rfl,hv,ho,hG⟩:=hrel
  have hp:=(H.out.nw hG).p0
  have hln:(Zg (Z2n L k)).length≤128:=by rw[Z8u];have:=Zoc L k;omega
  by_cases hlt:k<L.length
  ·obtain⟨c,_⟩:=(H.out.nw hG).cs k hlt
   have hlti:(k:Int)<(L.length:Int):=by omega
   have hS:=Zk0 L k
   cases hb:L.getD k false with
   | true =>
    rw[hb] at c hS
    simp only[if_true] at hS
    obtain⟨v',w1,hrun,q1,q2,q3,g',cap',rfl⟩:=IS.push wr _ (Zg (Z2n L k)) k hv (by omega)
    rw[←hS] at q1
    have HQ:=hD0 (aI0 q1 (aI0 q2 q3))
    have HR:=hD0 hrun
    have HH:=hD0 (aI0 hv (aI0 ho hG))
    clear q1 q2 q3 hrun hS hb hr ho
    obtain⟨ao,cap,rfl,_⟩:=hv.box
    clear hv
    generalize hNN:(Zg (Z2n L k)).length=M at *
    go_wp2_with (at_builtin;refine Z3p (by rfl) (.tmp 21) (.tmp 23) 60 rfl _ _ _ _ rfl rfl HR.out ?_)
    go_roundw
    case rel=>exact⟨k+1,by omega,by go_num,HQ.out.1,fun j e=>(HQ.out.2.2 j e).elim (HH.out.2.1 j) (fun q=>Nat.le_trans hG.sz q),Yq hG HQ.out.2.1 (fun i e=>HH.out.2.1 i e)⟩
    case measure=>simp[intOf];omega
   | false =>
    rw[hb] at c hS
    simp only[Bool.false_eq_true,if_false,List.append_nil] at hS
    rw[←hS] at hv
    have HH:=hD0 (aI0 hv (aI0 ho hG))
    obtain⟨ao,cap,rfl,_⟩:=hv.box
    clear hv ho hS hb hr hln
    generalize hNN:(Zg (Z2n L (k+1))).length=M at *
    go_wp2
    go_roundw
    case rel=>exact⟨k+1,by omega,by go_num,HH.out.1,HH.out.2.1,hG⟩
    case measure=>simp[intOf];omega
  ·obtain rfl:k=L.length:=by omega
   have HH:=hD0 (aI0 hv (aI0 ho hG))
   obtain⟨ao,cap,rfl,_⟩:=hv.box
   clear hv ho hr
   have hd:decide ((L.length:Int)<(L.length:Int))=false:=by simp
   go_wp2
   go_ret
   exact⟨_,rfl,HH.out⟩
theorem Z4r{o g:Nat}{L:List Bool}{W:World}(h:Rp W o g L):Calls prog 79 #[.pointer (some ⟨o,0,none⟩)] W fun e W'=>e=.returned (.int .i64 (liv L))∧Nw W W':=by
 have HE:=hD0 (Zpb h)
 have e1:(Zg (lnt L)).length=liv L:=by rw[Z8u,Z6k]
 have e2:=Zfp L
 have hsz:=h.sz
 clear h
 generalize liv L=M at *
 go_enter func79,ntmps79
 go_wp2_with fail
 refine HE.out.mono ?_
 rintro e w1 ⟨v,rfl,q1,_,q3⟩
 obtain⟨ao,cap,rfl,_⟩:=q1.box
 rw[e1]
 clear q1 e1
 go_wp2
 go_ret
 exact⟨rfl,q3⟩
theorem Z7h(hs:List Hq)(t r txn:Int):(Uf hs t r txn).2=twB hs t r txn:=by
 unfold Uf twB
 cases e:(hdB hs t r).q.find? fun x=>x.txn==txn with
 | none =>
  rw[List.find?_eq_none] at e
  symm
  rw[List.any_eq_false]
  exact e
 | some x =>
  symm
  rw[List.any_eq_true]
  exact⟨x,List.mem_of_find?_eq_some e,by simpa using List.find?_some e⟩
def Z5p(w:World)(o po pg:Nat)(n:Nat)(v:Value)(l:List Hm)(L:List Bool)(t r txn m:Int)(e:Ending)(w':World):Prop :=
 e=.returned (.tuple #[.int .i64 (Uu n (Z3 l) L t r txn m).1,.bool (Uu n (Z3 l) L t r txn m).2.1,.int .i64 (Uu n (Z3 l) L t r txn m).2.2])∧Rp w' po pg (V9 n (Z3 l) L t r txn m).2∧∃v' l',Z3 l'=(V9 n (Z3 l) L t r txn m).1∧Yx w o po pg n v l w' v' l'
theorem Vi{w w':World}{o po pg n:Nat}{v:Value}{l:List Hm}{L:List Bool}{t r txn m E:Int}(h:Rb w o po n v l)(hp:Rp w po pg L)(g:Nw w w')(he:Zz n (Z3 l) L t r txn m=E)(hE:E≠0) :
  Z5p w o po pg n v l L t r txn m (.returned (.tuple #[.int .i64 0,.bool false,.int .i64 E])) w':=by
 obtain⟨h1,h2⟩:=Z6b (most:=n) (hs:=Z3 l) (L:=L) (t:=t) (r:=r) (txn:=txn) (m:=m) (by rw[he];exact hE)
 unfold Z5p
 rw[h1,h2.1,he]
 exact⟨rfl,hp.nw g,v,l,rfl,h.same g pg⟩
theorem Zka{w:World}{o po n:Nat}{v:Value}{l:List Hm}(h:Rb w o po n v l)(s:Y9 (Z3 l))(hok:∀x∈l,Ok x.h.W x.h.q)(hq:∀x∈l,x.h.q.length<1000){pg:Nat}{L:List Bool}(hp:Rp w po pg L)(hpg:pg<o)(t r txn m:Int)(hne:Zz n (Z3 l) L t r txn m≠0) :
  Calls prog 103 #[.pointer (some ⟨o,0,none⟩),.agg #[.int .i64 t,.int .i64 r],.int .i64 txn,.int .i64 m] w (Z5p w o po pg n v l L t r txn m):=by
 obtain⟨a,c,rfl,hf⟩:=h.form
 have HF:=hD0 hf
 have H:=hD0 h
 have HS:=hD0 s
 have HO:=hD0 hok
 have HQ:=hD0 hq
 have HPl:=hD0 hp
 have hol:=h.ol
 have hpl:=h.pl
 have hN:Nw w (w.alloc (.cells #[.int .i64 t,.int .i64 r] 34)):=(Nw.refl w).alloc _
 have hb0:=Z1 w (.cells #[.int .i64 t,.int .i64 r] 34)
 have HKn:=hD0 (Z0z m)
 clear h hf s hok hq hp
 by_cases hm0:m=0
 ·have HR:=hD0 (Vi (t:=t) (r:=r) (txn:=txn) (m:=m) H.out HPl.out hN (show Zz n (Z3 l) L t r txn m=2 by unfold Zz;rw[if_pos (.inl hm0)]) (by decide))
  have d:(m==0)=true:=by simpa using hm0
  clear hm0 hb0 hN
  go_enter func103,ntmps103
  go_wp2
  exact bodyPost_ret (v:=.tuple #[.int .i64 0,.bool false,.int .i64 2]) (by simp[results,results103,go_sem, *]) rfl HR.out
 have d:(m==0)=false:=by simpa using hm0
 cases hk:Zr m
 ·have HR:=hD0 (Vi (t:=t) (r:=r) (txn:=txn) (m:=m) H.out HPl.out hN (show Zz n (Z3 l) L t r txn m=2 by unfold Zz;rw[if_pos (.inr hk)]) (by decide))
  rw[hk] at HKn
  clear hm0 hk hb0 hN
  go_enter func103,ntmps103
  go_wp2_with (go_at_call 87;refine(HKn.out _).mono ?_;rintro e w' ⟨rfl,rfl⟩)
  exact bodyPost_ret (v:=.tuple #[.int .i64 0,.bool false,.int .i64 2]) (by simp[results,results103,go_sem, *]) rfl HR.out
 have hbm:¬Z07 m:=by
  rintro(e | e)
  ·exact hm0 e
  ·rw[hk] at e;cases e
 rw[hk] at HKn
 obtain⟨z,hz⟩:∃z,w.alloc (.cells #[.int .i64 t,.int .i64 r] 34)=z:=⟨_,rfl⟩
 rw[hz] at hN hb0
 have n0:z.cell? ⟨w.heap.size,0,none⟩=some (.int .i64 t):=Z0 hb0
 have n1:z.cell? ⟨w.heap.size,1,none⟩=some (.int .i64 r):=Z0 hb0
 have HFi:=hD0 (Z6s (H.out.nw hN) HS.out t r txn)
 obtain⟨fi,hfi⟩:∃b,twB (Z3 l) t r txn=b:=⟨_,rfl⟩
 rw[Z7h,hfi] at HFi
 generalize (Uf (Z3 l) t r txn).1=fid at HFi
 go_enter func103,ntmps103
 go_wp2_with (go_at_call 87;refine(HKn.out _).mono ?_;rintro e w' ⟨rfl,rfl⟩)
 refine HFi.out.mono ?_
 rintro e w1 ⟨rfl,g1⟩
 have HN1:=hD0 (hN.trans g1)
 cases fi
 case true =>
  have HR:=hD0 (Vi (t:=t) (r:=r) (txn:=txn) (m:=m) H.out HPl.out HN1.out (show Zz n (Z3 l) L t r txn m=4 by unfold Zz;rw[if_neg hbm,if_pos hfi]) (by decide))
  clear hz hN hb0 n0 n1 hfi hbm g1
  go_wp2
  exact bodyPost_ret (v:=.tuple #[.int .i64 0,.bool false,.int .i64 4]) (by simp[results,results103,go_sem, *]) rfl HR.out
 case false =>
  have hb1:=g1.at' hb0
  have m0:w1.cell? ⟨w.heap.size,0,none⟩=some (.int .i64 t):=Z0 hb1
  have m1:w1.cell? ⟨w.heap.size,1,none⟩=some (.int .i64 r):=Z0 hb1
  have HPc:=hD0 (Z4m (H.out.nw HN1.out) t r)
  clear hz n0 n1 hb0 g1
  go_wp2_with fail
  refine HPc.out.mono ?_
  rintro e w2 ⟨k,b,rfl,hpi,g2⟩
  have hb2:=g2.at' hb1
  have HN2:=hD0 (HN1.out.trans g2)
  have c0:=(H.out.nw HN2.out).c0
  have c1:=(H.out.nw HN2.out).c1
  have c2:=(H.out.nw HN2.out).c2
  have HLv:=hD0 (fun x (g:Nw w2 x)=>Z4r (HPl.out.nw (HN2.out.trans g)))
  have HMs:=hD0 (fun x (g:Nw w2 x)=>(Z81 (HPl.out.nw (HN2.out.trans g))).mono (fun e w' h=>(⟨h.1,by rw[h.2];exact Nw.refl _⟩:e=.returned (.int .i64 L.length)∧Nw x w')))
  have hex:Zz n (Z3 l) L t r txn m=if Z1c n (Z3 l) L t r then 8 else 0:=by unfold Zz;rw[if_neg hbm,hfi];rfl
  have hfull:Z1c n (Z3 l) L t r:=by
   refine Classical.byContradiction fun e=>hne ?_
   rw[hex,if_neg e]
  rw[if_pos hfull] at hex
  have hls:(Z3 l).length=l.length:=List.length_map _
  have hll:=H.out.len
  have hLs:=HPl.out.sz
  have hlvl:=Zfp L
  have hway:(b=false∧n≤l.length)∨(b=false∧¬n≤l.length∧L.length≤liv L)∨(b=true∧L.length≤liv L):=by
   rcases hpi.get HS.out with⟨e1,e2,_⟩ | ⟨e1,hk2,e3,e2⟩
   ·rcases hfull with⟨_,q⟩ | q
    ·rw[hls] at q;exact .inl ⟨e1,q⟩
    ·by_cases q2:n≤l.length
     ·exact .inl ⟨e1,q2⟩
     ·exact .inr (.inl ⟨e1,q2,q⟩)
   ·rcases hfull with⟨q,_⟩ | q
    ·rw[e2] at q;cases q
    ·exact .inr (.inr ⟨e1,q⟩)
  have hne:Nonempty (Wd (fun y=>Nw w2 y)):=⟨⟨_,Nw.refl w2⟩⟩
  clear hb1 hb2 hfull hpi g2 hls hfi hbm m0 m1
  go_wp2_with fail
  have d0:∀d:Wd (fun y=>Nw w2 y),d.w.cell? _=_:=fun d=>d.h.kp c0
  have d1:∀d:Wd (fun y=>Nw w2 y),d.w.cell? _=_:=fun d=>d.h.kp c1
  have d2:∀d:Wd (fun y=>Nw w2 y),d.w.cell? _=_:=fun d=>d.h.kp c2
  rcases hway with⟨rfl,q1⟩ | ⟨rfl,q1,q2⟩ | ⟨rfl,q2⟩
  ·have i1:(n:Int)≤(l.length:Int):=by omega
   have j1:decide ((n:Int)≤(l.length:Int))=true:=by simpa using i1
   have j2:decide (n≤l.length)=true:=by simpa using q1
   refine Zf (fun y=>Nw w2 y) (by kernel_rfl) (by kernel_rfl) (Nw.refl _).dr ?_
   repeat (first | go_big_quiet_step (first | exact Zd (fun a b h g=>h.trans g) (HLv.out _ (Wd.h _)) | exact Zd (fun a b h g=>h.trans g) (HMs.out _ (Wd.h _))) | quiet_step (first | exact Zd (fun a b h g=>h.trans g) (HLv.out _ (Wd.h _)) | exact Zd (fun a b h g=>h.trans g) (HMs.out _ (Wd.h _))))
   refine wpQuiet_nil ?_
   intro d
   have HR:=hD0 (Vi (t:=t) (r:=r) (txn:=txn) (m:=m) H.out HPl.out (HN2.out.trans d.h) hex (by decide))
   clear d0 d1 d2 hne
   revert HR
   generalize d.w=w3
   intro HR
   go_wp2
   exact bodyPost_ret (v:=.tuple #[.int .i64 0,.bool false,.int .i64 8]) (by simp[results,results103,go_sem, *]) rfl HR.out
  ·have i1:¬((n:Int)≤(l.length:Int)):=by omega
   have i2:(L.length:Int)≤(liv L:Int):=by omega
   have j1:decide ((n:Int)≤(l.length:Int))=false:=by simpa using i1
   have j2:decide (n≤l.length)=false:=by simpa using q1
   have j3:decide (L.length≤liv L)=true:=by simpa using q2
   have j4:decide ((L.length:Int)≤(liv L:Int))=true:=by simpa using i2
   refine Zf (fun y=>Nw w2 y) (by kernel_rfl) (by kernel_rfl) (Nw.refl _).dr ?_
   repeat (first | go_big_quiet_step (first | exact Zd (fun a b h g=>h.trans g) (HLv.out _ (Wd.h _)) | exact Zd (fun a b h g=>h.trans g) (HMs.out _ (Wd.h _))) | quiet_step (first | exact Zd (fun a b h g=>h.trans g) (HLv.out _ (Wd.h _)) | exact Zd (fun a b h g=>h.trans g) (HMs.out _ (Wd.h _))))
   refine wpQuiet_nil ?_
   intro d
   have HR:=hD0 (Vi (t:=t) (r:=r) (txn:=txn) (m:=m) H.out HPl.out (HN2.out.trans d.h) hex (by decide))
   clear d0 d1 d2 hne
   revert HR
   generalize d.w=w3
   intro HR
   go_wp2
   exact bodyPost_ret (v:=.tuple #[.int .i64 0,.bool false,.int .i64 8]) (by simp[results,results103,go_sem, *]) rfl HR.out
  ·have i2:(L.length:Int)≤(liv L:Int):=by omega
   have j3:decide (L.length≤liv L)=true:=by simpa using q2
   have j4:decide ((L.length:Int)≤(liv L:Int))=true:=by simpa using i2
   refine Zf (fun y=>Nw w2 y) (by kernel_rfl) (by kernel_rfl) (Nw.refl _).dr ?_
   repeat (first | go_big_quiet_step (first | exact Zd (fun a b h g=>h.trans g) (HLv.out _ (Wd.h _)) | exact Zd (fun a b h g=>h.trans g) (HMs.out _ (Wd.h _))) | quiet_step (first | exact Zd (fun a b h g=>h.trans g) (HLv.out _ (Wd.h _)) | exact Zd (fun a b h g=>h.trans g) (HMs.out _ (Wd.h _))))
   refine wpQuiet_nil ?_
   intro d
   have HR:=hD0 (Vi (t:=t) (r:=r) (txn:=txn) (m:=m) H.out HPl.out (HN2.out.trans d.h) hex (by decide))
   clear d0 d1 d2 hne
   revert HR
   generalize d.w=w3
   intro HR
   go_wp2
   exact bodyPost_ret (v:=.tuple #[.int .i64 0,.bool false,.int .i64 8]) (by simp[results,results103,go_sem, *]) rfl HR.out
theorem Vh.tchS{w w':World}{o:Nat}{u:Option Nat}{x:Hm}{S:Nat→Prop}(h:Vh w o u x)(t:Z4 S w w')(hS:∀b,x.a=some b→x.h.q≠[]→¬S b.block):Vh w' o u x:=by
 refine⟨?_,h.cap,h.len,h.new,h.off⟩
 obtain⟨a,c,e,q | ⟨b,o',e2,hc⟩⟩:=h.rd
 ·exact⟨a,c,e,.inl q⟩
 ·subst e2
  by_cases hq:x.h.q=[]
  ·exact⟨_,c,e,.inl ⟨hq,fun q=>by cases q⟩⟩
  have hb:¬S b:=hS _ (by unfold hmV at e;injection e) hq
  exact⟨_,c,e,.inr ⟨b,o',rfl,lL0 hc.lt t.size,fun i hi c u hu=>(t.cell hc.lt hb).trans (hc.cell i hi c u hu)⟩⟩
theorem Rb.tchS{w w':World}{S:Nat→Prop}{o po:Nat}{most:Int}{v:Value}{l:List Hm}(h:Rb w o po most v l)(t:Z4 S w w')(ho:¬S o)(hv:∀b,v.ownBlock=some b→¬S b)(hx:∀x∈l,∀b,x.a=some b→x.h.q≠[]→¬S b.block):Rb w' o po most v l :=
 ⟨(t.cell h.ol ho).trans h.c0,(t.cell h.ol ho).trans h.c1,(t.cell h.ol ho).trans h.c2,fun j=>(t.froz h.ol ho).trans (h.fz j),lL0 h.ol t.size,h.pl,Vf h.own t hv,fun x q=>(h.ok x q).tchS t (hx x q),h.len⟩
theorem Rb.row0{w w5:World}{o po:Nat}{most:Int}{v v6:Value}{l l6:List Hm}{g0 n0:Nat}(h:Rb w o po most v l)(g:Nw w w5)(ho:U7 w5 g0 v6 l6)(hg:w.heap.size≤g0)(hn:n0≤g0)
  (hs:∀x∈l6,x∈l∨(Vh w5 o none x∧newV n0 (hmV x)∧∀b,x.a=some b→x.h.q≠[]→b.block<g0)) (hl:l6.length≤64) :
  Rb (w5.setCell ⟨o,2,none⟩ v6) o po most v6 l6∧Z4 (fun b=>b=o) w (w5.setCell ⟨o,2,none⟩ v6)∧∀b,Zbw o v6 l6 b→Zbw o v l b∨n0≤b:=by
 have hol:=h.ol
 have h5:=h.nw g
 have t:Z4 (fun b=>b=o) w5 (w5.setCell ⟨o,2,none⟩ v6):=Zi w5 ⟨o,2,none⟩ v6
 have hge:∀b,v6.ownBlock=some b→g0≤b:=fun b hb=>Vr ho hb
 refine⟨⟨?_,?_,?_,fun j=>?_,?_,h.pl,?_,fun x hx=>?_,hl⟩,(Z4.nw g).trans t,fun b hb=>?_⟩
 ·exact(World.cell?_setCell_other _ _ _ _ (by simp)).trans h5.c0
 ·exact(World.cell?_setCell_other _ _ _ _ (by simp)).trans h5.c1
 ·exact World.cell?_setCell_same _ _ _ h5.c2
 ·rw[World.frozen?_setCell];exact h5.fz j
 ·simpa using h5.ol
 ·refine Z4i (Vf ho t (fun b hb e=>?_)) (fun b hb=>?_)
  ·have:=hge b hb;omega
  ·have:=hge b hb;omega
 ·have key:Vh w5 o v6.ownBlock x:=by
   rcases hs x hx with q | ⟨q1,q2,q3⟩
   ·have hx5:=(h.ok x q).nw g
    refine⟨hx5.rd,hx5.cap,hx5.len,hx5.new,fun b e hq e2=>?_⟩
    have h1:=Z2t (h.ok x q).rd e hq
    have h2:=hge _ e2
    omega
   ·refine⟨q1.rd,q1.cap,q1.len,q1.new,fun b e hq e2=>?_⟩
    have h1:=q3 b e hq
    have h2:=hge _ e2
    omega
  exact key.tch t (fun b e=>.inl (by omega))
 ·rcases hb with q | q | ⟨x,hx,a,ha,e⟩
  ·exact .inl (.inl q)
  ·exact .inr (Nat.le_trans hn (hge b q))
  ·rcases hs x hx with q | ⟨q1,q2,q3⟩
   ·exact .inl (.inr (.inr ⟨x,q,a,ha,e⟩))
   ·refine .inr ?_
    rw[e]
    refine q2 a x.h.q.length x.c ?_
    unfold hmV
    rw[ha]
theorem Zb6{α:Type}{P:Program}{ST T:TypeId}{sz bytes:Nat}{row:α→List Value}(E:Z29 P ST T sz bytes row){w:World}{g0:Nat}{v v2:Value}{l sg:List α}(h:Yz T sz row w g0 v l)(h2:Rd sz row w v2 sg)(hsm:l.length+sg.length≤100000)(hg0:g0≤w.heap.size) :
  ∃v' w1,(Builtin.append_ #[ST,ST] ST #[v,v2]).run P w=.ok v' w1∧Yz T sz row w1 g0 v' (l++sg)∧w.grownBy w1 v.ownBlock:=by
 obtain⟨a,c,rfl,⟨rfl,h0⟩ | ⟨b,o,rfl,hc⟩⟩:=h2
 ·cases a with
  | none =>
   obtain rfl:=h0 rfl
   obtain⟨i0,z,hi,hz0,hz1,hz2,hz3⟩:=E.inf
   exact⟨_,_,run_append_owned_none (P:=P) w g0 ST ST T i0 sz E.und hi _ l.length _ h,by simpa using h,(Nw.refl w).grownBy _⟩
  | some ad =>
   obtain⟨v',w1,h1,h2,h3,_⟩:=Yz.many E h [] ad c (fun j u hu=>by simp[Z6] at hu) (by simpa using hsm) hg0
   exact⟨v',w1,h1,h2,h3⟩
 ·obtain⟨v',w1,h1,h2,h3,_⟩:=Yz.many E h sg ⟨b,o,none⟩ c (hc.flat E.len E.pos) hsm hg0
  exact⟨v',w1,h1,h2,h3⟩
theorem Zxk{w:World}{o po:Nat}{most:Int}{v:Value}{l:List Hm}(h:Rb w o po most v l)(k nx:Nat)(hk:k≤l.length)(hkn:k≤nx)(hnx:nx≤l.length)(hln:k+1+(l.length-nx)≤64){n0 pb:Nat}(hn0:n0≤w.heap.size)(x:Hm){T:TypeId}(hb:w.heap[pb]?=some (.cells #[.int .i64 x.h.t,.int .i64 x.h.r,.slice x.a x.h.q.length x.c,.int .i64 x.h.W] T))(hx:Vh w o none x)(hxn:newV n0 (hmV x))
  {v1 v2:Value} (h1:∀z,Nw w z→Rd 4 Zm z v1 (l.take k)) (h2:∀z,Nw w z→Rd 4 Zm z v2 (l.drop nx)) :
  ∃v4 w4 a5 n5 c5 w5 a6 n6 c6 w6,(Builtin.append_ #[40,40] 40 #[.slice (some ⟨w.heap.size,0,none⟩) 0 0,v1]).run prog (w.alloc (.cells #[] 63))=.ok v4 w4∧Nw w w4 ∧
   (Builtin.append_ #[40,40] 40 #[v4,.slice (some ⟨w4.heap.size,0,none⟩) 1 1]).run prog (w4.alloc (.cells #[.int .i64 x.h.t,.int .i64 x.h.r,.slice x.a x.h.q.length x.c,.int .i64 x.h.W] 63))=.ok (.slice a5 n5 c5) w5∧Nw w w5 ∧
   (Builtin.append_ #[40,40] 40 #[.slice a5 n5 c5,v2]).run prog w5=.ok (.slice a6 n6 c6) w6∧Nw w w6 ∧
   (Rb (w6.setCell ⟨o,2,none⟩ (.slice a6 n6 c6)) o po most (.slice a6 n6 c6) (l.take k++x::l.drop nx)∧Z4 (fun b=>b=o) w (w6.setCell ⟨o,2,none⟩ (.slice a6 n6 c6))∧∀b,Zbw o (.slice a6 n6 c6) (l.take k++x::l.drop nx) b→Zbw o v l b∨n0≤b):=by
 have hll:=h.len
 have htk:(l.take k).length=k:=by rw[List.length_take];omega
 have hdl:(l.drop nx).length=l.length-nx:=by rw[List.length_drop]
 obtain⟨v4,w4,hr4,hO4,hN4⟩:=U4 Y6 (h1 w (Nw.refl w)) (by omega)
 obtain⟨y,hy⟩:∃y,w4.alloc (.cells #[.int .i64 x.h.t,.int .i64 x.h.r,.slice x.a x.h.q.length x.c,.int .i64 x.h.W] 63)=y:=⟨_,rfl⟩
 have hal:=Z1 w4 (.cells #[.int .i64 x.h.t,.int .i64 x.h.r,.slice x.a x.h.q.length x.c,.int .i64 x.h.W] 63)
 have gy:Nw w4 y:=by rw[←hy];exact(Nw.refl w4).alloc _
 rw[hy] at hal
 have hs4:=hN4.sz
 have hsy:=gy.sz
 obtain⟨v5,w5,hr5,hO5,hg5,_,g5,c5,hv5⟩:=Yz.push Y6 (onw hO4 gy) x w4.heap.size 1 (fun j u hu=>by
  rw[Z0 hal]
  simpa [Zm] using hu) (by omega) (by omega)
 subst hv5
 have hN5:Nw w w5:=(hN4.trans gy).gro hg5 (fun b hb=>Vr hO4 hb)
 obtain⟨v6,w6,hr6,hO6,hg6⟩:=Zb6 Y6 hO5 (h2 w5 hN5) (by rw[List.length_append,List.length_singleton];omega) hN5.sz
 have hN6:Nw w w6:=hN5.gro hg6 (fun b hb=>Vr hO5 hb)
 have he:l.take k++[x]++l.drop nx=l.take k++x::l.drop nx:=by simp
 rw[he] at hO6
 obtain⟨a6,c6,hv6⟩:=(Yz.rd Y6.len hO6).form
 subst hv6
 refine⟨v4,w4,_,_,c5,w5,a6,_,c6,w6,hr4,hN4,by rw[hy];exact hr5,hN5,hr6,hN6,?_⟩
 refine h.row0 hN6 hO6 (Nat.le_refl _) hn0 (fun y hy=>?_) (by rw[List.length_append,List.length_cons];omega)
 rcases List.mem_append.1 hy with q | q
 ·exact .inl (List.mem_of_mem_take q)
 ·rcases List.mem_cons.1 q with rfl | q
  ·exact .inr ⟨hx.nw hN6,hxn,fun b e hq=>Z2t hx.rd e hq⟩
  ·exact .inl (List.mem_of_mem_drop q)
structure RB where
 o:Nat
 v:Value
 l:List Hm
def RB.in'(b:RB)(k:Nat):Prop:=Zbw b.o b.v b.l k
structure RtB(w:World)(po pg:Nat)(n:Int)(bs:List RB):Prop where
 rb:∀b∈bs,Rb w b.o po n b.v b.l∧pg<b.o∧∀x∈b.l,x.h.q≠[]
 ap:∀i j (hi:i<bs.length) (hj:j<bs.length),i≠j→∀k,bs[i].in' k→¬bs[j].in' k
theorem Z0p{w:World}{o po:Nat}{n:Int}{v:Value}{l:List Hm}(h:Rb w o po n v l)(hne:∀x∈l,x.h.q≠[]):∀k,Zbw o v l k→o≤k∧k<w.heap.size:=by
 rintro k (rfl | e | ⟨x,hx,a,e,rfl⟩)
 ·exact⟨Nat.le_refl _,h.ol⟩
 ·have:=Vr h.own e
  exact⟨by omega,olt h.own e⟩
 ·have:=(h.ok x hx).new a x.h.q.length x.c (by unfold hmV;rw[e])
  exact⟨by omega,Z2t (h.ok x hx).rd e (hne x hx)⟩
theorem RtB.nw{w w':World}{po pg:Nat}{n:Int}{bs:List RB}(h:RtB w po pg n bs)(g:Nw w w'):RtB w' po pg n bs:=⟨fun b hb=>⟨(h.rb b hb).1.nw g,(h.rb b hb).2⟩,h.ap⟩
theorem RtB.tchS{w w':World}{S:Nat→Prop}{po pg:Nat}{n:Int}{bs:List RB}(h:RtB w po pg n bs)(t:Z4 S w w')(hS:∀b∈bs,∀k,b.in' k→¬S k):RtB w' po pg n bs :=
 ⟨fun b hb=>⟨(h.rb b hb).1.tchS t (hS b hb _ (.inl rfl)) (fun k e=>hS b hb k (.inr (.inl e))) (fun x hx a e _=>hS b hb _ (.inr (.inr ⟨x,hx,a,e,rfl⟩))),(h.rb b hb).2⟩,h.ap⟩
theorem RtB.put{w w':World}{po pg:Nat}{n:Int}{bs:List RB}(h:RtB w po pg n bs){i:Nat}(hi:i<bs.length){v':Value}{l':List Hm}(d:Yx w bs[i].o po pg n bs[i].v bs[i].l w' v' l')(hne:∀x∈l',x.h.q≠[]):RtB w' po pg n (bs.set i ⟨bs[i].o,v',l'⟩):=by
 obtain⟨h1,h2,h3⟩:=h.rb _ (gM0 hi)
 have hlt:=Z0p h1 h3
 have key:∀j (hj:j<bs.length),j≠i→Rb w' bs[j].o po n bs[j].v bs[j].l:=fun j hj ne=>by
  obtain⟨g1,g2,g3⟩:=h.rb _ (gM0 hj)
  have glt:=Z0p g1 g3
  have hno:∀k,bs[j].in' k→¬(k=bs[i].o∨bs[i].v.ownBlock=some k∨k=pg):=fun k hk e=>by
   rcases e with e | e | e
   ·exact h.ap j i hj hi ne k hk (.inl e)
   ·exact h.ap j i hj hi ne k hk (.inr (.inl e))
   ·have:=glt k hk
    omega
  exact g1.tchS d.tch (hno _ (.inl rfl)) (fun k e=>hno k (.inr (.inl e))) (fun x hx a e _=>hno _ (.inr (.inr ⟨x,hx,a,e,rfl⟩)))
 refine⟨fun b hb=>?_,fun j m hj hm ne k hk hk2=>?_⟩
 ·obtain⟨j,hj,rfl⟩:=List.getElem_of_mem hb
  rw[List.length_set] at hj
  by_cases e:i=j
  ·subst e
   rw[List.getElem_set_self]
   exact⟨d.rb,h2,hne⟩
  ·rw[List.getElem_set_ne e]
   exact⟨key j hj (fun q=>e q.symm),(h.rb _ (gM0 hj)).2⟩
 ·rw[List.length_set] at hj hm
  by_cases e:i=j
  ·subst e
   rw[List.getElem_set_self] at hk
   rw[List.getElem_set_ne ne] at hk2
   have:=Z0p (h.rb _ (gM0 hm)).1 (h.rb _ (gM0 hm)).2.2 k hk2
   rcases d.inn k hk with q | q
   ·exact h.ap i m hi hm ne k q hk2
   ·omega
  ·rw[List.getElem_set_ne e] at hk
   by_cases e2:i=m
   ·subst e2
    rw[List.getElem_set_self] at hk2
    have:=Z0p (h.rb _ (gM0 hj)).1 (h.rb _ (gM0 hj)).2.2 k hk
    rcases d.inn k hk2 with q | q
    ·exact h.ap j i hj hi ne k hk q
    ·omega
   ·rw[List.getElem_set_ne e2] at hk2
    exact h.ap j m hj hm ne k hk hk2
theorem RtB.push{w w':World}{po pg:Nat}{n:Int}{bs:List RB}(h:RtB w po pg n bs)(g:Nw w w'){o:Nat}(ho:w.heap.size≤o)(hpg:pg<o)(hr:Rb w' o po n (.slice none 0 0) []):RtB w' po pg n (bs++[⟨o,.slice none 0 0,[]⟩]):=by
 have hnew:∀k,(⟨o,.slice none 0 0,[]⟩:RB).in' k→w.heap.size≤k:=by
  rintro k (e | e | ⟨x,hx,_⟩)
  ·have e':k=o:=e
   omega
  ·cases e
  ·cases hx
 refine⟨fun b hb=>?_,fun i j hi hj ne k hk hk2=>?_⟩
 ·rcases List.mem_append.1 hb with q | q
  ·exact⟨(h.rb b q).1.nw g,(h.rb b q).2⟩
  ·obtain rfl:b=⟨o,.slice none 0 0,[]⟩:=by simpa using q
   exact⟨hr,hpg,fun x hx=>by cases hx⟩
 ·rw[List.length_append,List.length_singleton] at hi hj
  have old:∀m (hm:m<bs.length),∀k,bs[m].in' k→k<w.heap.size:=fun m hm k q=>(Z0p (h.rb _ (gM0 hm)).1 (h.rb _ (gM0 hm)).2.2 k q).2
  by_cases h1:i<bs.length
  ·rw[List.getElem_append_left h1] at hk
   by_cases h2:j<bs.length
   ·rw[List.getElem_append_left h2] at hk2
    exact h.ap i j h1 h2 ne k hk hk2
   ·rw[List.getElem_append_right (by omega)] at hk2
    simp only[List.getElem_singleton] at hk2
    have:=old i h1 k hk
    have:=hnew k hk2
    omega
  ·have h2:j<bs.length:=by omega
   rw[List.getElem_append_right (by omega)] at hk
   rw[List.getElem_append_left h2] at hk2
   simp only[List.getElem_singleton] at hk
   have:=old j h2 k hk2
   have:=hnew k hk
   omega
section
structure KpS(S:Nat→Prop)(A B:World):Prop where
 size:A.heap.size≤B.heap.size
 same:∀k,S k→B.heap[k]?=A.heap[k]?
theorem KpS.trans{S:Nat→Prop}{A B C:World}(h:KpS S A B)(k:KpS S B C):KpS S A C:=⟨Nat.le_trans h.size k.size,fun i hi=>(k.same i hi).trans (h.same i hi)⟩
theorem KpS.tch{S T:Nat→Prop}{A B:World}(h:Z4 T A B)(hs:∀k,S k→k<A.heap.size∧¬T k):KpS S A B:=⟨h.size,fun i hi=>h.block i (hs i hi).1 (hs i hi).2⟩
theorem KpS.put{S:Nat→Prop}{A:World}{l:Nat}(o:Obj)(hl:¬S l):KpS S A (A.putObj l o):=⟨by simp,fun i hi=>World.putObj_heap_other (fun e=>hl (e▸hi))⟩
structure Ut(n₀:Nat)(S:Nat→Prop)(A B:World):Prop where
 os:B.os=A.os
 tape:B.tape=A.tape
 output:B.output=A.output
 size:A.heap.size≤B.heap.size
 block:∀k,k<A.heap.size→¬S k→B.heap[k]?=A.heap[k]?∨((k=n₀∨k=n₀+1)∧∃o,A.heap[k]?=some o∧o.isCells=false)
theorem Ut.of_tch{n₀:Nat}{S:Nat→Prop}{A B:World}(h:Z4 S A B):Ut n₀ S A B:=⟨h.os,h.tape,h.output,h.size,fun k hk hn=>.inl (h.block k hk hn)⟩
theorem Ut.put{n₀:Nat}{S:Nat→Prop}{A:World}{l:Nat}{o:Obj}(o':Obj)(hn:l=n₀∨l=n₀+1)(h:A.heap[l]?=some o)(ho:o.isCells=false):Ut n₀ S A (A.putObj l o') :=
 ⟨rfl,rfl,rfl,by simp,fun k _ _=>by
  by_cases e:k=l
  ·subst e;exact .inr ⟨hn,o,h,ho⟩
  ·exact .inl (World.putObj_heap_other e)⟩
theorem Ut.cells{n₀:Nat}{S:Nat→Prop}{A B:World}{k:Nat}{c:Array Value}{t:TypeId}{f:Nat × Nat}(h:Ut n₀ S A B)(hk:A.heap[k]?=some (.cells c t f))(hn:¬S k):B.heap[k]?=some (.cells c t f):=by
 rcases h.block k (Array.getElem?_eq_some_iff.1 hk).1 hn with e | ⟨_,o,ho,hc⟩
 ·exact e.trans hk
 ·rw[hk] at ho;cases ho;cases hc
theorem Ut.row{n₀:Nat}{S:Nat→Prop}{A B:World}{v:Value}{n:Nat}{e:TypeId}{size:Nat}{xs:List Value}(h:Ut n₀ S A B)(hr:A.ownsRow 0 e size v n xs)(hn:∀k,v.ownBlock=some k→¬S k):B.ownsRow 0 e size v n xs:=by
 refine⟨hr.1,?_⟩
 rcases hr.2 with h0 | ⟨g,cap,cur,rfl,hb,hg,rest⟩
 ·exact .inl h0
 ·exact .inr ⟨g,cap,cur,rfl,hb,h.cells hg (hn g rfl),rest⟩
theorem Ut.tch{n₀:Nat}{S T:Nat→Prop}{w A B:World}(h:Ut n₀ S A B)(k:Z4 T w A)(hn:w.heap.size≤n₀)(hS:∀i,i<w.heap.size→S i→T i):Z4 T w B :=
 ⟨h.os.trans k.os,h.tape.trans k.tape,h.output.trans k.output,Nat.le_trans k.size h.size,fun i hi ht=>by
  rcases h.block i (lL0 hi k.size) (fun e=>ht (hS i hi e))with e | ⟨e,_⟩
  ·exact e.trans (k.block i hi ht)
  ·omega⟩
def KpD(n₀:Nat)(A B:World):Prop:=∀k,(k=n₀∨k=n₀+1)→B.heap[k]?=A.heap[k]?
def Zer(F:Fence)(n:Nat)(P:Program)(g:Nat)(fa lb:Array Value)(xs:List Int)(S0:Nat→Prop)(End:World→Prop)(w:World):Prop :=
 ∀(l:Nat) (J Jx:(Nat→Prop)→List Int→World→Prop) (W:World),Nw w W →
  (∀S S' pre A B,J S pre A→Z4 S A B→(∀k,S k→S' k)→(∀k,S' k→S k∨A.heap.size≤k)→(∀k,S' k→k<B.heap.size)→J S' pre B) →
  (∀S S' pre A B,Jx S pre A→Z4 S A B→(∀k,S k→S' k)→(∀k,S' k→S k∨A.heap.size≤k)→(∀k,S' k→k<B.heap.size)→Jx S' pre B) →
  (∀S pre x A,J S pre A→(∀k,S0 k→S k)→(∀k,S k→k<A.heap.size)→(pre++[x]) <+: xs→YieldAt F (n-1) P l #[.int .i64 x] A fun e B =>
   (e=.returned (.bool true)∧J S (pre++[x]) B∧KpS S A B)∨(e=.returned (.bool false)∧Jx S (pre++[x]) B∧KpS S A B)) →
  J S0 [] W →
  CallsIn F n P g (fa++#[.func (.yield l) #[] #[]]++lb) W fun e W'=>(∃v,e=.returned v)∧((∃S,J S xs W'∧End W')∨(∃S pre,pre <+: xs∧Jx S pre W'))
def Zxn(n₀:Nat)(S:Nat→Prop)(I:(Nat→Prop)→List Int→World→Prop)(Ix:Code→(Nat→Prop)→List Int→World→Prop)(pre:List Int)(A:World):Exit→Act→World→Prop
 | .normal,_,B=>KpD n₀ A B∧KpS S A B∧I S pre B
 | .ret,_,B=>KpD n₀ A B∧KpS S A B∧Ix .ret S pre B
 | .exit id,_,B=>KpD n₀ A B∧KpS S A B∧Ix (.exit id) S pre B
 | .goto t,_,B=>KpD n₀ A B∧KpS S A B∧Ix (.goto t) S pre B
 | .panic _,_,_=>False
 | .outgrown,_,_=>False
variable {F:Fence} {n:Nat} {P:Program}
theorem Zxo{g:Operand}{ps:Array Tmp}{assign body:Code}{Q:Exit→Act→World→Prop}{a:Act}{w:World}
  (hro:F.round=none) (h1:1≤n) {gf:Nat} {fa lb:Array Value} (hg:a.eval g=.func (.func gf) fa lb) (hFg:F.fn gf) (eg:∀args w,(callFunc gf args).run P w=.ok (.enter gf args) w)
  {xs:List Int} {S0:Nat→Prop} {End:World→Prop} (hS0:∀k,S0 k→k<w.heap.size) (hseq:Zer F (n-1) P gf fa lb xs S0 End w) (hps:ps.size=1)
  (hEnd:∀(A:World) (l:Nat) (o o':Obj),w.heap.size≤l→A.heap[l]?=some o→o.isCells=false→End A→End (A.putObj l o'))
  (I:(Nat→Prop)→List Int→World→Prop) (Ix:Code→(Nat→Prop)→List Int→World→Prop)
  (hI:∀S S' pre A B,I S pre A→Ut w.heap.size S A B→(∀k,S k→S' k)→(∀k,S' k→S k∨A.heap.size≤k)→(∀k,S' k→k<B.heap.size)→I S' pre B)
  (hIx:∀c S S' pre A B,Ix c S pre A→Ut w.heap.size S A B→(∀k,S k→S' k)→(∀k,S' k→S k∨A.heap.size≤k)→(∀k,S' k→k<B.heap.size)→Ix c S' pre B)
  (h0:I S0 [] w) (a₁:Int→Act)
  (hassign:∀(l:Nat) (x:Int) (A:World) (K:Act→World→Prop),K (a₁ x) A →
   assign.wpIn (F.inRound l) (n-1-1) P (Exit.then K (fun _ _ _=>False)) { tmps:=(ps.zip #[.int .i64 x]).foldl (fun t (p,v)=>t.setIfInBounds p v) a.tmps,defers:=[] } A)
  (hbody:∀(l:Nat) (S:Nat→Prop) (pre:List Int) (x:Int) (A:World),I S pre A→(∀k,S0 k→S k)→(∀k,S k→k<A.heap.size)→(∀k,(k=w.heap.size∨k=w.heap.size+1)→¬S k∧∃o,A.heap[k]?=some o∧o.isCells=false) →
   (pre++[x]) <+: xs→body.wpIn (F.inRound l) (n-1-1) P (Zxn w.heap.size S I Ix (pre++[x]) A) (a₁ x) A)
  (hdone:∀(D:Nat) (S:Nat→Prop) (W:World),D=w.heap.size→(∀k,S k→k<W.heap.size)→I S xs W→End W→W.heap[D]?=some (.deferred (some []))→Q .normal { a with defers:={ target:=.collected D,args:=#[] }::a.defers } W)
  (hstop:∀(D:Nat) (c:Code) (S:Nat→Prop) (pre:List Int) (W:World),D=w.heap.size→pre <+: xs→Ix c S pre W→W.heap[D]?=some (.deferred (some []))→c.wpIn F n P Q { a with defers:={ target:=.collected D,args:=#[] }::a.defers } W) :
  (Code.rangeFunc g ps assign body).wpIn F n P Q a w:=by
 refine wpIn_rangeFunc ?_
 intro fn hfn
 rw[hro]
 obtain⟨rec,hrec⟩:∃rec:LoopState→Option Code→Loop,rec=fun st pe=>{ state:=st,pending:=pe,fn,tmps:=a.tmps,params:=ps,assign,body,defers:=w.heap.size }:=⟨_,rfl⟩
 obtain⟨W1,hW1⟩:∃W1,(w.alloc (.deferred (some []))).alloc (.loop (rec .ready none))=W1:=⟨_,rfl⟩
 have hL1:W1.heap[w.heap.size+1]?=some (.loop (rec .ready none)):=by
  rw[←hW1];have:=World.alloc_heap_new (w.alloc (.deferred (some []))) (.loop (rec .ready none));rwa [World.size_alloc] at this
 have hK1:W1.heap[w.heap.size]?=some (.deferred (some [])):=by
  rw[←hW1];exact(Below.heap_alloc _ _ _ (by simp)).trans (World.alloc_heap_new w _)
 have hb1:Nw w W1:=by rw[←hW1];exact((Nw.refl w).alloc _).alloc _
 have hI1:I S0 [] W1:=hI S0 S0 [] w W1 h0 (Ut.of_tch (Z4.nw hb1)) (fun _ e=>e) (fun _ e=>.inl e) (fun k e=>lL0 (hS0 k e) hb1.sz)
 refine⟨w.heap.size+1,[{ target:=.collected w.heap.size,args:=#[] }],W1,{ target:=.fn (.func gf) lb,args:=fa++#[.func (.yield (w.heap.size+1)) #[] #[]] },W1,gf,
  fa++#[.func (.yield (w.heap.size+1)) #[] #[]]++lb,W1,?_,?_,?_,?_,fun _=>h1,?_⟩
 ·rw[←hW1,hrec];exact run_enterLoop_outer _ _ _ _ _
 ·simp only[resolve,hg]
  simp[go_sem]
 ·intro f' hf';simp[Target.leads] at hf';subst hf';exact hFg
 ·simp[invoke,go_sem,eg]
 ·have lt_of:∀ {A:World} {k:Nat} {o:Obj},A.heap[k]?=some o→k<A.heap.size:=fun h=>(Array.getElem?_eq_some_iff.1 h).1
  refine(hseq (w.heap.size+1)
   (fun S pre W=>I S pre W∧W.heap[w.heap.size+1]?=some (.loop (rec .ready none))∧W.heap[w.heap.size]?=some (.deferred (some []))∧¬S (w.heap.size+1)∧¬S w.heap.size∧(∀k,S k→k<W.heap.size))
   (fun S pre W=>∃c,Ix c S pre W∧W.heap[w.heap.size+1]?=some (.loop (rec .done (some c)))∧W.heap[w.heap.size]?=some (.deferred (some []))∧¬S (w.heap.size+1)∧¬S w.heap.size∧(∀k,S k→k<W.heap.size))
   W1 hb1 ?_ ?_ ?_ ⟨hI1,hL1,hK1,fun e=>by have:=hS0 _ e;omega,fun e=>by have:=hS0 _ e;omega,fun k e=>lL0 (hS0 k e) hb1.sz⟩).mono ?_
  ·rintro S S' pre A B ⟨hi,hl,hk,hn1,hn2,hbd⟩ ht hs1 hs2 hs3
   exact⟨hI S S' pre A B hi (Ut.of_tch ht) hs1 hs2 hs3,(ht.block _ (lt_of hl) hn1).trans hl,(ht.block _ (lt_of hk) hn2).trans hk,
    fun e=>(hs2 _ e).elim hn1 (fun h=>by have:=lt_of hl;omega),fun e=>(hs2 _ e).elim hn2 (fun h=>by have:=lt_of hk;omega),hs3⟩
  ·rintro S S' pre A B ⟨c,hi,hl,hk,hn1,hn2,hbd⟩ ht hs1 hs2 hs3
   exact⟨c,hIx c S S' pre A B hi (Ut.of_tch ht) hs1 hs2 hs3,(ht.block _ (lt_of hl) hn1).trans hl,(ht.block _ (lt_of hk) hn2).trans hk,
    fun e=>(hs2 _ e).elim hn1 (fun h=>by have:=lt_of hl;omega),fun e=>(hs2 _ e).elim hn2 (fun h=>by have:=lt_of hk;omega),hs3⟩
  ·
   rintro S pre x W ⟨hi,hl,hk,hn1,hn2,hbd⟩ hsub hex hpre
   have hy:=run_yield (P:=P) (args:=#[.int .i64 x]) hl (by rw[hrec];exact hps.symm)
   rw[hrec] at hy
   refine⟨fn,_,assign,body,hy,roundIn_of_wpIn hfn (hassign _ x W _ ?_)⟩
   clear hy
   have nw1:Nw W W:=Nw.refl W
   have hl1:W.heap[w.heap.size+1]?=some (.loop (rec .ready none)):=(nw1.block _ (lt_of hl)).trans hl
   have hk1:W.heap[w.heap.size]?=some (.deferred (some [])):=(nw1.block _ (lt_of hk)).trans hk
   have hlW:=lt_of hl
   have hi1:I S pre W:=hI S S pre W W hi (Ut.of_tch (Z4.nw nw1)) (fun _ e=>e) (fun _ e=>.inl e) (fun k e=>lL0 (hex k e) nw1.sz)
   refine⟨_,run_beginRound hl1 (by rw[hrec]),?_⟩
   obtain⟨A2,hA2⟩:∃A2,W.putObj (w.heap.size+1) (.loop { rec .ready none with state:=.busy })=A2:=⟨_,rfl⟩
   rw[hA2]
   have hl2:A2.heap[w.heap.size+1]?=some (.loop { rec .ready none with state:=.busy }):=by rw[←hA2];exact World.putObj_heap_same (lt_of hl1)
   have hk2:A2.heap[w.heap.size]?=some (.deferred (some [])):=by rw[←hA2];exact(World.putObj_heap_other (by omega)).trans hk1
   have hi2:I S pre A2:=by rw[←hA2];exact hI S S pre W _ hi1 (Ut.put _ (.inr rfl) hl1 rfl) (fun _ e=>e) (fun _ e=>.inl e) (fun k e=>by rw[World.putObj_size];exact lL0 (hex k e) nw1.sz)
   have hsz2:W.heap.size≤A2.heap.size:=by rw[←hA2];simp
   have kps:KpS S W A2:=by
    rw[←hA2]
    exact(KpS.tch (Z4.nw (S:=fun _=>False) nw1) (fun k e=>⟨hex k e,fun h=>h⟩)).trans (KpS.put _ hn1)
   refine wpIn_mono (hbody _ S pre x A2 hi2 hsub (fun k e=>lL0 (hex k e) hsz2) (fun k e=>by
    rcases e with rfl | rfl
    ·exact⟨hn2,_,hk2,rfl⟩
    ·exact⟨hn1,_,hl2,rfl⟩) hpre) ?_
   have fin:∀(jump:Option Code) (W3:World),KpD w.heap.size A2 W3 →
     (Instr.endRound (w.heap.size+1) jump).run P W3=.ok (.bool jump.isNone) (W3.putObj (w.heap.size+1) (.loop (rec (if jump.isNone then .ready else .done) jump))) ∧
     W3.heap[w.heap.size+1]?=some (.loop { rec .ready none with state:=.busy }) ∧
     (W3.putObj (w.heap.size+1) (.loop (rec (if jump.isNone then .ready else .done) jump))).heap[w.heap.size+1]?=some (.loop (rec (if jump.isNone then .ready else .done) jump)) ∧
     (W3.putObj (w.heap.size+1) (.loop (rec (if jump.isNone then .ready else .done) jump))).heap[w.heap.size]?=some (.deferred (some [])):=fun jump W3 hk3=>by
    have hl3:=(hk3 _ (.inr rfl)).trans hl2
    have:=run_endRound (P:=P) jump hl3
    rw[hrec] at this ⊢
    exact⟨this,by rw[hrec] at hl3;exact hl3,World.putObj_heap_same (lt_of hl3),(World.putObj_heap_other (by omega)).trans ((hk3 _ (.inl rfl)).trans hk2)⟩
   have b3:∀ {W3:World},KpS S A2 W3→∀ {jj:Obj} (k:Nat),S k→k<(W3.putObj (w.heap.size+1) jj).heap.size:=fun h3 _ k e=>by rw[World.putObj_size];exact lL0 (hex k e) (kps.trans h3).size
   rintro e a3 W3 hp
   cases e with
   | normal =>
    obtain⟨hk3,hkp3,hi3⟩:=hp
    obtain⟨hr,hl3,hl4,hk4⟩:=fin none W3 hk3
    exact⟨_,_,hr,.inl ⟨rfl,⟨hI S S _ W3 _ hi3 (Ut.put _ (.inr rfl) hl3 rfl) (fun _ e=>e) (fun _ e=>.inl e) (b3 hkp3),hl4,hk4,hn1,hn2,b3 hkp3⟩,(kps.trans hkp3).trans (KpS.put _ hn1)⟩⟩
   | ret =>
    obtain⟨hk3,hkp3,hi3⟩:=hp
    obtain⟨hr,hl3,hl4,hk4⟩:=fin (some .ret) W3 hk3
    exact⟨_,_,hr,.inr ⟨rfl,⟨.ret,hIx _ S S _ W3 _ hi3 (Ut.put _ (.inr rfl) hl3 rfl) (fun _ e=>e) (fun _ e=>.inl e) (b3 hkp3),hl4,hk4,hn1,hn2,b3 hkp3⟩,(kps.trans hkp3).trans (KpS.put _ hn1)⟩⟩
   | exit id =>
    obtain⟨hk3,hkp3,hi3⟩:=hp
    obtain⟨hr,hl3,hl4,hk4⟩:=fin (some (.exit id)) W3 hk3
    exact⟨_,_,hr,.inr ⟨rfl,⟨.exit id,hIx _ S S _ W3 _ hi3 (Ut.put _ (.inr rfl) hl3 rfl) (fun _ e=>e) (fun _ e=>.inl e) (b3 hkp3),hl4,hk4,hn1,hn2,b3 hkp3⟩,(kps.trans hkp3).trans (KpS.put _ hn1)⟩⟩
   | goto t =>
    obtain⟨hk3,hkp3,hi3⟩:=hp
    obtain⟨hr,hl3,hl4,hk4⟩:=fin (some (.goto t)) W3 hk3
    exact⟨_,_,hr,.inr ⟨rfl,⟨.goto t,hIx _ S S _ W3 _ hi3 (Ut.put _ (.inr rfl) hl3 rfl) (fun _ e=>e) (fun _ e=>.inl e) (b3 hkp3),hl4,hk4,hn1,hn2,b3 hkp3⟩,(kps.trans hkp3).trans (KpS.put _ hn1)⟩⟩
   | panic ch=>exact hp.elim
   | outgrown=>exact hp.elim
  ·
   rintro e W2 ⟨⟨v,rfl⟩,(⟨S,⟨hi,hl,hk,hn1,hn2,hbd⟩,hE⟩ | ⟨S,pre,hp,c,hi,hl,hk,hn1,hn2,hbd⟩)⟩
   ·exact⟨none,_,by have:=run_endLoop (P:=P) hl (by rw[hrec];simp);rw[hrec] at this;exact this,
     hdone _ S _ rfl (fun k e=>by rw[World.putObj_size];exact hbd k e) (hI S S _ W2 _ hi (Ut.put _ (.inr rfl) hl rfl) (fun _ e=>e) (fun _ e=>.inl e) (fun k e=>by rw[World.putObj_size];exact hbd k e)) (hEnd _ _ _ _ (by omega) hl rfl hE) ((World.putObj_heap_other (by omega)).trans hk)⟩
   ·exact⟨some c,_,by have:=run_endLoop (P:=P) hl (by rw[hrec];simp);rw[hrec] at this;exact this,
     hstop _ c S pre _ rfl hp (hIx c S S _ W2 _ hi (Ut.put _ (.inr rfl) hl rfl) (fun _ e=>e) (fun _ e=>.inl e) (fun k e=>by rw[World.putObj_size];exact hbd k e)) ((World.putObj_heap_other (by omega)).trans hk)⟩
end
section
def Za1{α:Type}(F:Fence)(n:Nat)(P:Program)(g:Nat)(fa lb:Array Value)(yv:α→Value)(Pre Fin:List α→Prop)(S0:Nat→Prop)(w:World):Prop :=
 ∀(l:Nat) (J Jx:(Nat→Prop)→List α→World→Prop) (W:World),Nw w W →
  (∀S S' pre A B,J S pre A→Z4 (fun k=>S k∧¬S0 k) A B→(∀k,S k→S' k)→(∀k,S' k→S k∨A.heap.size≤k)→(∀k,S' k→k<B.heap.size)→J S' pre B) →
  (∀S S' pre A B,Jx S pre A→Z4 (fun k=>S k∧¬S0 k) A B→(∀k,S k→S' k)→(∀k,S' k→S k∨A.heap.size≤k)→(∀k,S' k→k<B.heap.size)→Jx S' pre B) →
  (∀S pre x A,J S pre A→(∀k,S0 k→S k)→(∀k,S k→k<A.heap.size)→Pre (pre++[x])→YieldAt F (n-1) P l #[yv x] A fun e B =>
   (e=.returned (.bool true)∧J S (pre++[x]) B∧KpS S A B)∨(e=.returned (.bool false)∧Jx S (pre++[x]) B∧KpS S A B)) →
  J S0 [] W →
  CallsIn F n P g (fa++#[.func (.yield l) #[] #[]]++lb) W fun e W'=>(∃v,e=.returned v)∧((∃S xs,Fin xs∧J S xs W')∨(∃S pre,Pre pre∧Jx S pre W'))
theorem Za1.later{α:Type}{F:Fence}{n:Nat}{P:Program}{g:Nat}{fa lb:Array Value}{yv:α→Value}{Pre Fin:List α→Prop}{S0:Nat→Prop}{w w':World}(h:Za1 F n P g fa lb yv Pre Fin S0 w)(k:Nw w w'):Za1 F n P g fa lb yv Pre Fin S0 w' :=
 fun l J Jx W hW=>h l J Jx W (k.trans hW)
def Zxh{α:Type}(n₀:Nat)(S:Nat→Prop)(I:(Nat→Prop)→List α→World→Prop)(Ix:Code→(Nat→Prop)→List α→World→Prop)(pre:List α)(A:World):Exit→Act→World→Prop
 | .normal,_,B=>KpD n₀ A B∧KpS S A B∧I S pre B
 | .ret,_,B=>KpD n₀ A B∧KpS S A B∧Ix .ret S pre B
 | .exit id,_,B=>KpD n₀ A B∧KpS S A B∧Ix (.exit id) S pre B
 | .goto t,_,B=>KpD n₀ A B∧KpS S A B∧Ix (.goto t) S pre B
 | .panic _,_,_=>False
 | .outgrown,_,_=>False
def mkB(o:Option Obj)(A:World):World:=match o with | none=>A | some o=>A.alloc o
theorem Zx2(o:Option Obj)(A:World):Nw A (mkB o A):=by
 cases o with
 | none=>exact Nw.refl A
 | some o=>exact(Nw.refl A).alloc _
theorem Zx1(o:Obj)(A:World):(mkB (some o) A).heap[A.heap.size]?=some o:=World.alloc_heap_new _ _
variable {F:Fence} {n:Nat} {P:Program} {α:Type}
theorem Zga{g:Operand}{ps:Array Tmp}{assign body:Code}{Q:Exit→Act→World→Prop}{a:Act}{w:World}
  (hro:F.round=none) (h1:1≤n) {gf:Nat} {fa lb:Array Value} (hg:a.eval g=.func (.func gf) fa lb) (hFg:F.fn gf) (eg:∀args w,(callFunc gf args).run P w=.ok (.enter gf args) w)
  {yv:α→Value} {Pre Fin:List α→Prop} {S0:Nat→Prop} (hS0:∀k,S0 k→k<w.heap.size) (hseq:Za1 F (n-1) P gf fa lb yv Pre Fin S0 w) (hps:ps.size=1)
  (I:(Nat→Prop)→List α→World→Prop) (Ix:Code→(Nat→Prop)→List α→World→Prop)
  (hI:∀S S' pre A B,I S pre A→Ut w.heap.size (fun k=>S k∧¬S0 k) A B→(∀k,S k→S' k)→(∀k,S' k→S k∨A.heap.size≤k)→(∀k,S' k→k<B.heap.size)→I S' pre B)
  (hIx:∀c S S' pre A B,Ix c S pre A→Ut w.heap.size (fun k=>S k∧¬S0 k) A B→(∀k,S k→S' k)→(∀k,S' k→S k∨A.heap.size≤k)→(∀k,S' k→k<B.heap.size)→Ix c S' pre B)
  (h0:I S0 [] w) (bxo:α→Option Obj) (a₁:α→Nat→Act)
  (hassign:∀(l:Nat) (x:α) (A:World) (K:Act→World→Prop),K (a₁ x A.heap.size) (mkB (bxo x) A) →
   assign.wpIn (F.inRound l) (n-1-1) P (Exit.then K (fun _ _ _=>False)) { tmps:=(ps.zip #[yv x]).foldl (fun t (p,v)=>t.setIfInBounds p v) a.tmps,defers:=[] } A)
  (hbody:∀(l:Nat) (S:Nat→Prop) (pre:List α) (x:α) (bx:Nat) (A:World),I S pre A→(∀k,S0 k→S k)→(∀k,S k→k<A.heap.size)→¬S bx→w.heap.size≤bx→(∀k,(k=w.heap.size∨k=w.heap.size+1)→¬S k∧∃o,A.heap[k]?=some o∧o.isCells=false)→(∀o,bxo x=some o→A.heap[bx]?=some o) →
   Pre (pre++[x])→body.wpIn (F.inRound l) (n-1-1) P (Zxh w.heap.size S I Ix (pre++[x]) A) (a₁ x bx) A)
  (hdone:∀(D:Nat) (S:Nat→Prop) (xs:List α) (W:World),D=w.heap.size→(∀k,S k→k<W.heap.size)→Fin xs→I S xs W→W.heap[D]?=some (.deferred (some []))→Q .normal { a with defers:={ target:=.collected D,args:=#[] }::a.defers } W)
  (hstop:∀(D:Nat) (c:Code) (S:Nat→Prop) (pre:List α) (W:World),D=w.heap.size→Pre pre→Ix c S pre W→W.heap[D]?=some (.deferred (some []))→c.wpIn F n P Q { a with defers:={ target:=.collected D,args:=#[] }::a.defers } W) :
  (Code.rangeFunc g ps assign body).wpIn F n P Q a w:=by
 refine wpIn_rangeFunc ?_
 intro fn hfn
 rw[hro]
 obtain⟨rec,hrec⟩:∃rec:LoopState→Option Code→Loop,rec=fun st pe=>{ state:=st,pending:=pe,fn,tmps:=a.tmps,params:=ps,assign,body,defers:=w.heap.size }:=⟨_,rfl⟩
 obtain⟨W1,hW1⟩:∃W1,(w.alloc (.deferred (some []))).alloc (.loop (rec .ready none))=W1:=⟨_,rfl⟩
 have hL1:W1.heap[w.heap.size+1]?=some (.loop (rec .ready none)):=by
  rw[←hW1];have:=World.alloc_heap_new (w.alloc (.deferred (some []))) (.loop (rec .ready none));rwa [World.size_alloc] at this
 have hK1:W1.heap[w.heap.size]?=some (.deferred (some [])):=by
  rw[←hW1];exact(Below.heap_alloc _ _ _ (by simp)).trans (World.alloc_heap_new w _)
 have hb1:Nw w W1:=by rw[←hW1];exact((Nw.refl w).alloc _).alloc _
 have hI1:I S0 [] W1:=hI S0 S0 [] w W1 h0 (Ut.of_tch (Z4.nw hb1)) (fun _ e=>e) (fun _ e=>.inl e) (fun k e=>lL0 (hS0 k e) hb1.sz)
 refine⟨w.heap.size+1,[{ target:=.collected w.heap.size,args:=#[] }],W1,{ target:=.fn (.func gf) lb,args:=fa++#[.func (.yield (w.heap.size+1)) #[] #[]] },W1,gf,
  fa++#[.func (.yield (w.heap.size+1)) #[] #[]]++lb,W1,?_,?_,?_,?_,fun _=>h1,?_⟩
 ·rw[←hW1,hrec];exact run_enterLoop_outer _ _ _ _ _
 ·simp only[resolve,hg]
  simp[go_sem]
 ·intro f' hf';simp[Target.leads] at hf';subst hf';exact hFg
 ·simp[invoke,go_sem,eg]
 ·have lt_of:∀ {A:World} {k:Nat} {o:Obj},A.heap[k]?=some o→k<A.heap.size:=fun h=>(Array.getElem?_eq_some_iff.1 h).1
  refine(hseq (w.heap.size+1)
   (fun S pre W=>I S pre W∧W.heap[w.heap.size+1]?=some (.loop (rec .ready none))∧W.heap[w.heap.size]?=some (.deferred (some []))∧¬S (w.heap.size+1)∧¬S w.heap.size∧(∀k,S k→k<W.heap.size))
   (fun S pre W=>∃c,Ix c S pre W∧W.heap[w.heap.size+1]?=some (.loop (rec .done (some c)))∧W.heap[w.heap.size]?=some (.deferred (some []))∧¬S (w.heap.size+1)∧¬S w.heap.size∧(∀k,S k→k<W.heap.size))
   W1 hb1 ?_ ?_ ?_ ⟨hI1,hL1,hK1,fun e=>by have:=hS0 _ e;omega,fun e=>by have:=hS0 _ e;omega,fun k e=>lL0 (hS0 k e) hb1.sz⟩).mono ?_
  ·rintro S S' pre A B ⟨hi,hl,hk,hn1,hn2,hbd⟩ ht hs1 hs2 hs3
   exact⟨hI S S' pre A B hi (Ut.of_tch ht) hs1 hs2 hs3,(ht.block _ (lt_of hl) (fun e=>hn1 e.1)).trans hl,(ht.block _ (lt_of hk) (fun e=>hn2 e.1)).trans hk,
    fun e=>(hs2 _ e).elim hn1 (fun h=>by have:=lt_of hl;omega),fun e=>(hs2 _ e).elim hn2 (fun h=>by have:=lt_of hk;omega),hs3⟩
  ·rintro S S' pre A B ⟨c,hi,hl,hk,hn1,hn2,hbd⟩ ht hs1 hs2 hs3
   exact⟨c,hIx c S S' pre A B hi (Ut.of_tch ht) hs1 hs2 hs3,(ht.block _ (lt_of hl) (fun e=>hn1 e.1)).trans hl,(ht.block _ (lt_of hk) (fun e=>hn2 e.1)).trans hk,
    fun e=>(hs2 _ e).elim hn1 (fun h=>by have:=lt_of hl;omega),fun e=>(hs2 _ e).elim hn2 (fun h=>by have:=lt_of hk;omega),hs3⟩
  ·
   rintro S pre x W ⟨hi,hl,hk,hn1,hn2,hbd⟩ hsub hex hpre
   have hy:=run_yield (P:=P) (args:=#[yv x]) hl (by rw[hrec];exact hps.symm)
   rw[hrec] at hy
   refine⟨fn,_,assign,body,hy,roundIn_of_wpIn hfn (hassign _ x W _ ?_)⟩
   clear hy
   have hbx:∀o,bxo x=some o→(mkB (bxo x) W).heap[W.heap.size]?=some o:=fun o e=>by rw[e];exact Zx1 o W
   have nw1:=Zx2 (bxo x) W
   obtain⟨A1,hA1⟩:∃A1,mkB (bxo x) W=A1:=⟨_,rfl⟩
   rw[hA1] at nw1 hbx ⊢
   have hl1:A1.heap[w.heap.size+1]?=some (.loop (rec .ready none)):=(nw1.block _ (lt_of hl)).trans hl
   have hk1:A1.heap[w.heap.size]?=some (.deferred (some [])):=(nw1.block _ (lt_of hk)).trans hk
   have hlW:=lt_of hl
   have hi1:I S pre A1:=hI S S pre W A1 hi (Ut.of_tch (Z4.nw nw1)) (fun _ e=>e) (fun _ e=>.inl e) (fun k e=>lL0 (hex k e) nw1.sz)
   refine⟨_,run_beginRound hl1 (by rw[hrec]),?_⟩
   obtain⟨A2,hA2⟩:∃A2,A1.putObj (w.heap.size+1) (.loop { rec .ready none with state:=.busy })=A2:=⟨_,rfl⟩
   rw[hA2]
   have hl2:A2.heap[w.heap.size+1]?=some (.loop { rec .ready none with state:=.busy }):=by rw[←hA2];exact World.putObj_heap_same (lt_of hl1)
   have hk2:A2.heap[w.heap.size]?=some (.deferred (some [])):=by rw[←hA2];exact(World.putObj_heap_other (by omega)).trans hk1
   have hbx2:∀o,bxo x=some o→A2.heap[W.heap.size]?=some o:=fun o e=>by rw[←hA2];exact(World.putObj_heap_other (by omega)).trans (hbx o e)
   have hi2:I S pre A2:=by rw[←hA2];exact hI S S pre A1 _ hi1 (Ut.put _ (.inr rfl) hl1 rfl) (fun _ e=>e) (fun _ e=>.inl e) (fun k e=>by rw[World.putObj_size];exact lL0 (hex k e) nw1.sz)
   have hsz2:W.heap.size≤A2.heap.size:=by rw[←hA2];simp;exact nw1.sz
   have kps:KpS S W A2:=by
    rw[←hA2]
    exact(KpS.tch (Z4.nw (S:=fun _=>False) nw1) (fun k e=>⟨hex k e,fun h=>h⟩)).trans (KpS.put _ hn1)
   refine wpIn_mono (hbody _ S pre x W.heap.size A2 hi2 hsub (fun k e=>lL0 (hex k e) hsz2) (fun e=>by have:=hex _ e;omega) (by omega) (fun k e=>by
    rcases e with rfl | rfl
    ·exact⟨hn2,_,hk2,rfl⟩
    ·exact⟨hn1,_,hl2,rfl⟩) hbx2 hpre) ?_
   have fin:∀(jump:Option Code) (W3:World),KpD w.heap.size A2 W3 →
     (Instr.endRound (w.heap.size+1) jump).run P W3=.ok (.bool jump.isNone) (W3.putObj (w.heap.size+1) (.loop (rec (if jump.isNone then .ready else .done) jump))) ∧
     W3.heap[w.heap.size+1]?=some (.loop { rec .ready none with state:=.busy }) ∧
     (W3.putObj (w.heap.size+1) (.loop (rec (if jump.isNone then .ready else .done) jump))).heap[w.heap.size+1]?=some (.loop (rec (if jump.isNone then .ready else .done) jump)) ∧
     (W3.putObj (w.heap.size+1) (.loop (rec (if jump.isNone then .ready else .done) jump))).heap[w.heap.size]?=some (.deferred (some [])):=fun jump W3 hk3=>by
    have hl3:=(hk3 _ (.inr rfl)).trans hl2
    have:=run_endRound (P:=P) jump hl3
    rw[hrec] at this ⊢
    exact⟨this,by rw[hrec] at hl3;exact hl3,World.putObj_heap_same (lt_of hl3),(World.putObj_heap_other (by omega)).trans ((hk3 _ (.inl rfl)).trans hk2)⟩
   have b3:∀ {W3:World},KpS S A2 W3→∀ {jj:Obj} (k:Nat),S k→k<(W3.putObj (w.heap.size+1) jj).heap.size:=fun h3 _ k e=>by rw[World.putObj_size];exact lL0 (hex k e) (kps.trans h3).size
   rintro e a3 W3 hp
   cases e with
   | normal =>
    obtain⟨hk3,hkp3,hi3⟩:=hp
    obtain⟨hr,hl3,hl4,hk4⟩:=fin none W3 hk3
    exact⟨_,_,hr,.inl ⟨rfl,⟨hI S S _ W3 _ hi3 (Ut.put _ (.inr rfl) hl3 rfl) (fun _ e=>e) (fun _ e=>.inl e) (b3 hkp3),hl4,hk4,hn1,hn2,b3 hkp3⟩,(kps.trans hkp3).trans (KpS.put _ hn1)⟩⟩
   | ret =>
    obtain⟨hk3,hkp3,hi3⟩:=hp
    obtain⟨hr,hl3,hl4,hk4⟩:=fin (some .ret) W3 hk3
    exact⟨_,_,hr,.inr ⟨rfl,⟨.ret,hIx _ S S _ W3 _ hi3 (Ut.put _ (.inr rfl) hl3 rfl) (fun _ e=>e) (fun _ e=>.inl e) (b3 hkp3),hl4,hk4,hn1,hn2,b3 hkp3⟩,(kps.trans hkp3).trans (KpS.put _ hn1)⟩⟩
   | exit id =>
    obtain⟨hk3,hkp3,hi3⟩:=hp
    obtain⟨hr,hl3,hl4,hk4⟩:=fin (some (.exit id)) W3 hk3
    exact⟨_,_,hr,.inr ⟨rfl,⟨.exit id,hIx _ S S _ W3 _ hi3 (Ut.put _ (.inr rfl) hl3 rfl) (fun _ e=>e) (fun _ e=>.inl e) (b3 hkp3),hl4,hk4,hn1,hn2,b3 hkp3⟩,(kps.trans hkp3).trans (KpS.put _ hn1)⟩⟩
   | goto t =>
    obtain⟨hk3,hkp3,hi3⟩:=hp
    obtain⟨hr,hl3,hl4,hk4⟩:=fin (some (.goto t)) W3 hk3
    exact⟨_,_,hr,.inr ⟨rfl,⟨.goto t,hIx _ S S _ W3 _ hi3 (Ut.put _ (.inr rfl) hl3 rfl) (fun _ e=>e) (fun _ e=>.inl e) (b3 hkp3),hl4,hk4,hn1,hn2,b3 hkp3⟩,(kps.trans hkp3).trans (KpS.put _ hn1)⟩⟩
   | panic ch=>exact hp.elim
   | outgrown=>exact hp.elim
  ·
   rintro e W2 ⟨⟨v,rfl⟩,(⟨S,xs,hf,hi,hl,hk,hn1,hn2,hbd⟩ | ⟨S,pre,hp,c,hi,hl,hk,hn1,hn2,hbd⟩)⟩
   ·exact⟨none,_,by have:=run_endLoop (P:=P) hl (by rw[hrec];simp);rw[hrec] at this;exact this,
     hdone _ S xs _ rfl (fun k e=>by rw[World.putObj_size];exact hbd k e) hf (hI S S _ W2 _ hi (Ut.put _ (.inr rfl) hl rfl) (fun _ e=>e) (fun _ e=>.inl e) (fun k e=>by rw[World.putObj_size];exact hbd k e)) ((World.putObj_heap_other (by omega)).trans hk)⟩
   ·exact⟨some c,_,by have:=run_endLoop (P:=P) hl (by rw[hrec];simp);rw[hrec] at this;exact this,
     hstop _ c S pre _ rfl hp (hIx c S S _ W2 _ hi (Ut.put _ (.inr rfl) hl rfl) (fun _ e=>e) (fun _ e=>.inl e) (fun k e=>by rw[World.putObj_size];exact hbd k e)) ((World.putObj_heap_other (by omega)).trans hk)⟩
end
section
open Go.RowKit Go.Maps Go.ChangeMaps Go.WideShapes
abbrev wfI(a:Int):Prop:=(Lit.int .i64 a).wf=true
def wfN(a:Int × Int):Prop:=wfI a.1∧wfI a.2
def nmV(a:Int × Int):Value:=.agg #[.int .i64 a.1,.int .i64 a.2]
def nmL(a:Int × Int):Lit:=.string (keyBytes [.int .i64 a.1,.int .i64 a.2])
structure Two(P:Program)(k i:TypeId):Prop where
 st : ∃ fs, P.underlying k = some (.struct fs) ∧ (∃ f g, fs.toList = [f, g] ∧ f.type = i ∧ g.type = i ∧ f.offset = 0 ∧ g.offset = 1) ∧ fs.all (·.name != "_") = true
 un:P.underlying i=some (.int .i64)
 ck:P.cellsOf k=2
 ci:P.cellsOf i=1
 sz:∃m,P.types.size=m+1
 kt:P.keyType k=true
theorem Two.lits{P:Program}{k i:TypeId}(T:Two P k i)(u v:Value):P.keyLits (P.types.size+1) k [u,v]=(match u,v with
  | .int q a,.int r b=>if (q=.i64∧wfI a)∧r=.i64∧wfI b then some [.int .i64 a,.int .i64 b] else none
  | _,_=>none):=by
 obtain⟨⟨fs,hk,⟨f,g,hf,t1,t2,o1,o2⟩,ha⟩,hi,c2,c1,⟨m,hm⟩,kt⟩:=T
 rw[hm]
 simp only[Program.keyLits,hk,c2,ha,hf,List.length_cons,List.length_nil,and_self,if_true,List.mapM_cons,List.mapM_nil,t1,t2,o1,o2,c1,hi,List.drop_zero,List.take_succ_cons,List.take_zero,List.drop_succ_cons]
 cases u<;>cases v<;>simp
 rename_i q a r b
 by_cases h1:q=.i64∧(Lit.int .i64 a).wf=true<;>by_cases h2:r=.i64∧(Lit.int .i64 b).wf=true<;>simp[h1,h2,wfI]
theorem Two.key{P:Program}{k i:TypeId}(T:Two P k i){a:Int × Int}(h:wfN a):keyOf P k (nmV a)=some (nmL a):=by
 obtain⟨h1,h2⟩:=h
 have hl:=T.lits (.int .i64 a.1) (.int .i64 a.2)
 obtain⟨⟨fs,hk,_⟩,hi,c2,c1,_,kt⟩:=T
 have hf:(nmV a).formed P k=true:=by simp[nmV,Value.formed,hk,c2]
 unfold keyOf
 simp only[hk,kt,hf,Bool.and_self,if_true]
 rw[show(nmV a).cells.toList=[.int .i64 a.1,.int .i64 a.2] from rfl,hl]
 simp[h1,h2,nmL]
theorem Two.inv{P:Program}{k i:TypeId}(T:Two P k i){key:Value}{kl:Lit}(h:keyOf P k key=some kl):∃a:Int × Int,key=nmV a∧wfN a:=by
 have hl:=T.lits
 obtain⟨⟨fs,hk,_⟩,hi,c2,c1,_,kt⟩:=T
 unfold keyOf at h
 simp only[hk] at h
 split at h
 ·rename_i hc
  simp only[Bool.and_eq_true] at hc
  obtain⟨_,hf⟩:=hc
  obtain⟨c,rfl⟩:∃c:Array Value,key=.agg c:=by
   cases key<;>simp[Value.formed,hk] at hf
   exact⟨_,rfl⟩
  simp only[Value.formed,hk,c2,beq_iff_eq] at hf
  obtain⟨c⟩:=c
  have hl2:c.length=2:=by simpa using hf
  obtain⟨u,v,rfl⟩:∃u v,c=[u,v]:=by
   match c,hl2 with
   | [u,v],_=>exact⟨u,v,rfl⟩
  rw[show(Value.agg ⟨[u,v]⟩).cells.toList=[u,v] from rfl,hl] at h
  cases u<;>cases v<;>simp at h
  rename_i q a r b
  obtain⟨⟨⟨rfl,w1⟩,rfl,w2⟩,_⟩:=h
  exact⟨(a,b),rfl,w1,w2⟩
 ·cases h
end
section
open Go.RowKit Go.Maps Go.ChangeMaps Go.WideShapes
theorem Zox{k n:Nat}(h:k<n):∃m,n=m+1:=⟨n-1,by omega⟩
theorem Zo5:laidOutB prog=true:=by kernel_rfl
theorem Zzf:(34:TypeId)<prog.types.size:=of_decide_eq_true (by kernel_rfl)
theorem Zzj:(match prog.underlying 34 with | some (.array _ _) | some (.struct _)=>true | _=>false)=true:=by rw[underlying34]
theorem Zd3:Keyed prog 34:=Keyed.of_law (deep_law_laid Zo5 (m:=3) (by omega) Zzf (by kernel_rfl) Zzj)
theorem Zzh:Two prog 34 3 where
 st:=⟨_,underlying34,⟨_,_,rfl,rfl,rfl,rfl,rfl⟩,by kernel_rfl⟩
 un:=underlying3
 ck:=by kernel_rfl
 ci:=by kernel_rfl
 sz:=Zox Zzf
 kt:=by kernel_rfl
theorem Zd1{a:Int × Int}(h:wfN a):keyOf prog 34 (nmV a)=some (nmL a):=Zzh.key h
theorem Zhy{a b:Int × Int}(e:nmV a=nmV b):a=b:=by
 simp only[nmV,Value.agg.injEq,Array.mk.injEq,List.cons.injEq,Value.int.injEq,true_and,and_true] at e
 exact Prod.ext e.1 e.2
theorem Z6n{a b:Int × Int}(h:wfN a)(k:wfN b)(e:nmL a=nmL b):a=b:=Zhy (Zd3.inj (Zd1 h) (e▸Zd1 k))
theorem Zaz(a:Int × Int):WideAt.IsKeyLit (nmL a):=trivial
theorem Zhz{key:Value}{kl:Lit}(h:keyOf prog 34 key=some kl):∃a:Int × Int,key=nmV a∧wfN a:=Zzh.inv h
end
end Go.Proofs.YtpffldfpabglbaaGreatDoor
