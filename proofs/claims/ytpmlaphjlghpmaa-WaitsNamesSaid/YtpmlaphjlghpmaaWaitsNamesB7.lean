/- Texts merged: WcH -/
import Derived.Test.YtpmlaphjlghpmaaWaitsNamesB6
set_option linter.unusedVariables false
set_option maxRecDepth 100000
set_option maxHeartbeats 16000000
namespace Go.Proofs.Ytpmlaphjlghpmaa
open Go.RowKit _root_.Go.Proofs.Try
theorem Z0q{P:Program}{ops:Array Oper}{o:Oper}{a:Act}{w:World}{K:Act→World→Prop}{Q:Exit→Act→World→Prop}{E:Prop}(hgd:Region.wanted o (yielded ops a.tmps)=true)(m x u:Operand)(t:TypeId)(ho:o.op=Op.mapUpdate t m x u)
  (M X V:Value) (w':World) (hm:a.eval m=M) (hx:a.eval x=X) (hu:a.eval u=V) (hr:(Instr.mapUpdate t M X V).run P w=.ok () w') (h:K (a.put o.dst undef) w'):if Region.wanted o (yielded ops a.tmps)=true then Oper.wp P o a w K Q else E:=by
 rw[if_pos hgd]
 unfold Oper.wp
 simp[execOp,ho,hm,hx,hu,hr,Result.andThen]
 exact h
theorem Z6u(s:Gb)(k:Int)(m:Nat):fnx { s with nx:=Zk s.nx k m }=Zk (fnx s) k (m:Int):=by
 funext v
 show(if v=k then some m else s.nx v).map Int.ofNat=if v=k then some (m:Int) else(s.nx v).map Int.ofNat
 by_cases q:v=k
 ·rw[if_pos q,if_pos q];rfl
 ·rw[if_neg q,if_neg q]
section
variable {W0 w w':World} {o mb pb N N':Nat} {ev vp vo vk:Value} {E:List (Int × Int)} {s:Gb}
theorem Z16{b:Nat}(hg:w.grownBy w' (some b)):Zc (fun k=>k=b) w w':=(Zc.refl (fun k=>k=b) w).grown hg (fun k e=>.inl (Option.some.inj e).symm)
theorem Zw.next(h:Zw W0 w o mb pb ev vp vo vk E s N){k:Int}{m:Nat}(hm:Zd w' mb (Zk (fnx s) k m) N')(hg:w.grownBy w' (some mb))(hN:N≤N'):Zw W0 w' o mb pb ev vp vo vk E { s with nx:=Zk s.nx k m } N':=by
 obtain⟨o1,o2,o3,o4,o5⟩:=h.off
 obtain⟨a1,⟨a2,a3,a4⟩,a5,a6,a7⟩:=h.apart
 have t:=Z16 hg
 refine⟨(t.block o h.ol (fun e=>o1 e.symm)).trans h.obj,h.ed,Zf h.nw t (fun i e=>by subst e;exact h.mW),?_,(h.mp.tch t (fun e=>h.mne e.symm)).le hN,h.pa.keep t a2,h.op.keep t a3,Zu h.kn t a4,h.oW,h.mW,h.pW,h.mne,h.pg,h.og,h.ne,?_⟩
 ·rw[Z6u];exact hm
 ·obtain⟨b1,b2,b3⟩:=h.bd
  exact⟨Nat.le_trans b1 hN,Nat.le_trans b2 hN,Nat.le_trans b3 hN⟩
theorem Zw.plc(h:Zw W0 w o mb pb ev vp vo vk E s N){k p:Int}(hm:Zd w' pb (Zk s.pl k p) N')(hg:w.grownBy w' (some pb))(hN:N≤N'):Zw W0 w' o mb pb ev vp vo vk E { s with pl:=Zk s.pl k p } N':=by
 obtain⟨o1,o2,o3,o4,o5⟩:=h.off
 obtain⟨a1,⟨a2,a3,a4⟩,a5,a6,a7⟩:=h.apart
 have t:=Z16 hg
 refine⟨(t.block o h.ol (fun e=>o2 e.symm)).trans h.obj,h.ed,Zf h.nw t (fun i e=>by subst e;exact h.pW),(h.mn.tch t h.mne).le hN,hm,h.pa.keep t a5,h.op.keep t a6,Zu h.kn t a7,h.oW,h.mW,h.pW,h.mne,h.pg,h.og,h.ne,?_⟩
 obtain⟨b1,b2,b3⟩:=h.bd
 exact⟨Nat.le_trans b1 hN,Nat.le_trans b2 hN,Nat.le_trans b3 hN⟩
def BxO(w w':World)(o:Nat):Prop:=(∀j,w'.cell? ⟨o,j,none⟩=w.cell? ⟨o,j,none⟩)∧(∀j,w'.frozen? ⟨o,j,none⟩=w.frozen? ⟨o,j,none⟩)∧o<w'.heap.size
theorem Z0t{S:Nat→Prop}(t:Zc S w w')(hl:o<w.heap.size)(hn:¬S o):BxO w w' o:=⟨fun j=>t.cell hl hn,fun j=>t.froz hl hn,lL0 hl t.size⟩
def Nk(w:World)(o:Nat)(vk:Value)(oa:Option Addr)(oc n:Nat)(x:World):Prop:=x.cell? ⟨o,5,none⟩=some vk∧x.cell? ⟨o,4,none⟩=some (.slice oa n oc)∧o<x.heap.size
theorem Zw.pushK(h:Zw W0 w o mb pb ev vp vo vk E s N)(f:Nat)(hl:s.kn.length<N)(hN:N≤100000) :
  ∃g cap w2,(Builtin.append_ #[79,79] 79 #[vk,.slice (some ⟨w.heap.size,0,none⟩) 1 1]).run prog (w.alloc (.cells #[.int .i64 f,.bool false] 118))=.ok (.slice (some ⟨g,0,none⟩) (s.kn.length+1) cap) w2∧BxO w w2 o ∧
   Zw W0 (w2.setCell ⟨o,5,none⟩ (.slice (some ⟨g,0,none⟩) (s.kn.length+1) cap)) o mb pb ev vp vo (.slice (some ⟨g,0,none⟩) (s.kn.length+1) cap) E { s with kn:=s.kn++[⟨f,false⟩] } N:=by
 obtain⟨o1,o2,o3,o4,o5⟩:=h.off
 obtain⟨a1,⟨a2,a3,a4⟩,a5,a6,a7⟩:=h.apart
 have hal:=Z5 w (.cells #[.int .i64 f,.bool false] 118)
 have g0:Nw w (w.alloc (.cells #[.int .i64 f,.bool false] 118)):=(Nw.refl w).alloc _
 obtain⟨z,hz⟩:∃z,w.alloc (.cells #[.int .i64 f,.bool false] 118)=z:=⟨_,rfl⟩
 rw[hz] at hal g0 ⊢
 obtain⟨v',w2,hr,hO,hg,hp,g,cap,rfl⟩:=Yq.push Z80 (Uf h.kn g0) (⟨f,false⟩:Kn) w.heap.size 1 (fun j u hu=>by
  rw[Z2 hal]
  simpa [U1] using hu) (by omega) (h.nw.trans g0).sz
 have t0:Zc (fun k=>vk.ownBlock=some k) w w2:=(Zc.nw g0).grown hg (fun k e=>.inl e)
 have hb:=Z0t t0 h.ol o5
 refine⟨g,cap,w2,hr,hb,?_⟩
 have t1:Zc (fun k=>k=o) w2 (w2.setCell ⟨o,5,none⟩ (.slice (some ⟨g,0,none⟩) (s.kn.length+1) cap)):=(Zc.refl (fun k=>k=o) w2).set (p:=⟨o,5,none⟩) (.inl rfl) _
 have ho:w2.heap[o]?=_:=(t0.block o h.ol o5).trans h.obj
 have hnw2:Nw W0 w2:=Zf h.nw t0 (fun i e=>oge h.kn e)
 have hgo:g≠o:=fun e=>by
  obtain⟨c,q⟩:=Zt hO (g:=g) rfl
  rw[e,ho] at q
  injection q with q
  injection q with _ q _
  exact absurd q (by decide)
 refine⟨hset _ ho,h.ed,Zf hnw2 t1 (fun i e=>by subst e;exact h.oW),(h.mn.tch t0 a4).tch t1 o1,(h.mp.tch t0 a7).tch t1 o2,(h.pa.tch t0 (fun k hk e=>(a1 k e).1 hk)).keep t1 o3,(h.op.tch t0 (fun k hk e=>(a1 k e).2 hk)).keep t1 o4,?_,h.oW,h.mW,h.pW,h.mne,h.pg,h.og,h.ne,?_⟩
 ·exact Zu hO t1 (fun e=>hgo (Option.some.inj e))
 ·obtain⟨b1,b2,b3⟩:=h.bd
  exact⟨b1,b2,by show(s.kn++[_]).length≤N;simp;omega⟩
theorem Zw.pushO(h:Zw W0 w o mb pb ev vp vo vk E s N)(u:Int)(hl:s.op.length<N)(hN:N≤100000) :
  ∃g cap w2,(Builtin.append_ #[36,36] 36 #[vo,.slice (some ⟨w.heap.size,0,none⟩) 1 1]).run prog (w.alloc (.cells #[.int .i64 u] 3))=.ok (.slice (some ⟨g,0,none⟩) (s.op.length+1) cap) w2∧BxO w w2 o ∧
   Zw W0 (w2.setCell ⟨o,4,none⟩ (.slice (some ⟨g,0,none⟩) (s.op.length+1) cap)) o mb pb ev vp (.slice (some ⟨g,0,none⟩) (s.op.length+1) cap) vk E { s with op:=s.op++[u] } N:=by
 obtain⟨o1,o2,o3,o4,o5⟩:=h.off
 obtain⟨a1,⟨a2,a3,a4⟩,a5,a6,a7⟩:=h.apart
 obtain⟨v',w2,hr,hI,t0,hk,g,cap,rfl⟩:=IS.push w vo s.op u h.op (by omega)
 have hb:=Z0t t0 h.ol o4
 refine⟨g,cap,w2,hr,hb,?_⟩
 have t1:Zc (fun k=>k=o) w2 (w2.setCell ⟨o,4,none⟩ (.slice (some ⟨g,0,none⟩) (s.op.length+1) cap)):=(Zc.refl (fun k=>k=o) w2).set (p:=⟨o,4,none⟩) (.inl rfl) _
 have ho:w2.heap[o]?=_:=(t0.block o h.ol o4).trans h.obj
 have hnw2:Nw W0 w2:=Zf h.nw t0 (fun i e=>h.og i e)
 have hgo:g≠o:=fun e=>by
  obtain⟨c,q⟩:=Zt hI (g:=g) rfl
  rw[e,ho] at q
  injection q with q
  injection q with _ q _
  exact absurd q (by decide)
 have hgW:W0.heap.size≤g:=by
  rcases hk g rfl with e | e
  ·exact h.og g e
  ·exact Nat.le_trans h.nw.sz e
 refine⟨hset _ ho,h.ed,Zf hnw2 t1 (fun i e=>by subst e;exact h.oW),(h.mn.tch t0 a3).tch t1 o1,(h.mp.tch t0 a6).tch t1 o2,(h.pa.tch t0 (fun k hk e=>h.ne k hk e)).keep t1 o3,hI.keep t1 (fun e=>hgo (Option.some.inj e)),?_,h.oW,h.mW,h.pW,h.mne,h.pg,?_,?_,?_⟩
 ·refine Zu ?_ t1 o5
  refine⟨h.kn.1,?_⟩
  rcases h.kn.2 with h0 | ⟨g',cap',cur,rfl,hb',hg',rest⟩
  ·exact .inl h0
  ·exact .inr ⟨g',cap',cur,rfl,hb',(t0.block g' (hlt hg') (fun e=>(a1 g' rfl).2 e)).trans hg',rest⟩
 ·intro k e
  rw[←Option.some.inj e];exact hgW
 ·intro k hkp e
  have e':g=k:=Option.some.inj e
  subst e'
  rcases hk g rfl with q | q
  ·exact h.ne g hkp q
  ·have:=h.pa.lt hkp
   omega
 ·obtain⟨b1,b2,b3⟩:=h.bd
  exact⟨b1,by show(s.op++[_]).length≤N;simp;omega,b3⟩
theorem Zw.pushP(h:Zw W0 w o mb pb ev vp vo vk E s N)(u:Int)(hl:s.path.length<N)(hN:N≤100000) :
  ∃g cap w2,(Builtin.append_ #[36,36] 36 #[vp,.slice (some ⟨w.heap.size,0,none⟩) 1 1]).run prog (w.alloc (.cells #[.int .i64 u] 3))=.ok (.slice (some ⟨g,0,none⟩) (s.path.length+1) cap) w2∧BxO w w2 o ∧
   Zw W0 (w2.setCell ⟨o,3,none⟩ (.slice (some ⟨g,0,none⟩) (s.path.length+1) cap)) o mb pb ev (.slice (some ⟨g,0,none⟩) (s.path.length+1) cap) vo vk E { s with path:=s.path++[u] } N:=by
 obtain⟨o1,o2,o3,o4,o5⟩:=h.off
 obtain⟨a1,⟨a2,a3,a4⟩,a5,a6,a7⟩:=h.apart
 obtain⟨v',w2,hr,hI,t0,hk,g,cap,rfl⟩:=IS.push w vp s.path u h.pa (by omega)
 have hb:=Z0t t0 h.ol o3
 refine⟨g,cap,w2,hr,hb,?_⟩
 have t1:Zc (fun k=>k=o) w2 (w2.setCell ⟨o,3,none⟩ (.slice (some ⟨g,0,none⟩) (s.path.length+1) cap)):=(Zc.refl (fun k=>k=o) w2).set (p:=⟨o,3,none⟩) (.inl rfl) _
 have ho:w2.heap[o]?=_:=(t0.block o h.ol o3).trans h.obj
 have hnw2:Nw W0 w2:=Zf h.nw t0 (fun i e=>h.pg i e)
 have hgo:g≠o:=fun e=>by
  obtain⟨c,q⟩:=Zt hI (g:=g) rfl
  rw[e,ho] at q
  injection q with q
  injection q with _ q _
  exact absurd q (by decide)
 have hgW:W0.heap.size≤g:=by
  rcases hk g rfl with e | e
  ·exact h.pg g e
  ·exact Nat.le_trans h.nw.sz e
 refine⟨hset _ ho,h.ed,Zf hnw2 t1 (fun i e=>by subst e;exact h.oW),(h.mn.tch t0 a2).tch t1 o1,(h.mp.tch t0 a5).tch t1 o2,hI.keep t1 (fun e=>hgo (Option.some.inj e)),(h.op.tch t0 (fun k hk e=>h.ne k e hk)).keep t1 o4,?_,h.oW,h.mW,h.pW,h.mne,?_,h.og,?_,?_⟩
 ·refine Zu ?_ t1 o5
  refine⟨h.kn.1,?_⟩
  rcases h.kn.2 with h0 | ⟨g',cap',cur,rfl,hb',hg',rest⟩
  ·exact .inl h0
  ·exact .inr ⟨g',cap',cur,rfl,hb',(t0.block g' (hlt hg') (fun e=>(a1 g' rfl).1 e)).trans hg',rest⟩
 ·intro k e
  rw[←Option.some.inj e];exact hgW
 ·intro k e hko
  have e':g=k:=Option.some.inj e
  subst e'
  rcases hk g rfl with q | q
  ·exact h.ne g q hko
  ·have:=h.op.lt hko
   omega
 ·obtain⟨b1,b2,b3⟩:=h.bd
  exact⟨by show(s.path++[_]).length≤N;simp;omega,b2,b3⟩
theorem Z1y(h:Wk W0 w o ev E s N)(hN:N+2≤100000)(hl:E.length≤100000)(hs:Zh E){u:Int}(hu:Za u)(hp:s.pl u=none) :
  Calls prog 63 #[.pointer (some ⟨o,0,none⟩),.int .i64 u] w fun e w'=>e=.returned (.tuple #[])∧Wk W0 w' o ev E (Zr E s u) (N+2):=by
 obtain⟨mb,pb,vp,vo,vk,h⟩:=h
 obtain⟨c0,c1,c2,c3,c4,c5,c6,c7⟩:=h.c
 have hol:=h.ol
 have hlk:=h.mp.look_no hu hp
 obtain⟨oa,oc,rfl,_⟩:=h.op.box
 have HS:=hD0 (fun(x:World) (g:Nw w x)=>Z0p u ev E x hl hs (h.ed.nw (h.nw.trans g)))
 have HW:=hD0 h
 have HU:=hD0 (aI0 hN (aI0 hu h.bd))
 clear h c6 c7 c3 hN hu hp hl hs
 go_enter func63,ntmps63
 go_wp2_with fail
 refine Z8 [11] (Nw w) (by kernel_rfl) ?_
 change Z7 _ _ _ _ _ _ 12 #[false,false,false,false,false,false,false,false,false,false,false,false] _ w.drew
 obtain⟨y0,hy0⟩:∃y,w.drew=y:=⟨_,rfl⟩
 rw[hy0]
 have hS0:Nw w y0:=by rw[←hy0];exact(Nw.refl w).dr
 have t0:∀x,Nw w x→x.cell? ⟨o,0,none⟩=some ev:=fun x g=>g.kp c0
 have t1:∀x,Nw w x→x.cell? ⟨o,1,none⟩=some (.map (some mb)):=fun x g=>g.kp c1
 clear hy0 c0 c1 c2 c4 c5 hlk hol
 refine Z1 0 rfl (by kernel_rfl) (by kernel_rfl) (by kernel_rfl) (by kernel_rfl) (fun v c a w h=>h) hS0 ?_
 (first | (refine⟨undef,Or.inr ⟨by rfl,rfl⟩,?_⟩) | (apply Exists.intro;refine⟨Or.inl ⟨by rfl,?_⟩,?_⟩;(intro x hx';go_simp;first | done | with_reducible rfl)))
 (try simp only[Act.put,List.getElem_toArray,List.getElem_cons_zero,List.getElem_cons_succ,List.setIfInBounds_toArray,List.set_cons_zero,List.set_cons_succ])
 refine Z1 1 rfl (by kernel_rfl) (by kernel_rfl) (by kernel_rfl) (by kernel_rfl) (fun v c a w h=>h) hS0 ?_
 (first | (refine⟨undef,Or.inr ⟨by rfl,rfl⟩,?_⟩) | (apply Exists.intro;refine⟨Or.inl ⟨by rfl,?_⟩,?_⟩;(intro x hx';go_simp;first | done | with_reducible rfl)))
 (try simp only[Act.put,List.getElem_toArray,List.getElem_cons_zero,List.getElem_cons_succ,List.setIfInBounds_toArray,List.set_cons_zero,List.set_cons_succ])
 refine Z1 2 rfl (by kernel_rfl) (by kernel_rfl) (by kernel_rfl) (by kernel_rfl) (fun v c a w h=>h) hS0 ?_
 (first | (refine⟨undef,Or.inr ⟨by rfl,rfl⟩,?_⟩) | (apply Exists.intro;refine⟨Or.inl ⟨by rfl,?_⟩,?_⟩;(intro x hx';go_simp;first | done | with_reducible rfl)))
 (try simp only[Act.put,List.getElem_toArray,List.getElem_cons_zero,List.getElem_cons_succ,List.setIfInBounds_toArray,List.set_cons_zero,List.set_cons_succ])
 refine Z1 3 rfl (by kernel_rfl) (by kernel_rfl) (by kernel_rfl) (by kernel_rfl) (fun v c a w h=>h) hS0 ?_
 (first | (refine⟨undef,Or.inr ⟨by rfl,rfl⟩,?_⟩) | (apply Exists.intro;refine⟨Or.inl ⟨by rfl,?_⟩,?_⟩;(intro x hx';go_simp;first | done | with_reducible rfl)))
 (try simp only[Act.put,List.getElem_toArray,List.getElem_cons_zero,List.getElem_cons_succ,List.setIfInBounds_toArray,List.set_cons_zero,List.set_cons_succ])
 refine Z1 4 rfl (by kernel_rfl) (by kernel_rfl) (by kernel_rfl) (by kernel_rfl) (fun v c a w h=>h) hS0 ?_
 (first | (refine⟨undef,Or.inr ⟨by rfl,rfl⟩,?_⟩) | (apply Exists.intro;refine⟨Or.inl ⟨by rfl,?_⟩,?_⟩;(intro x hx';go_simp;first | done | with_reducible rfl)))
 (try simp only[Act.put,List.getElem_toArray,List.getElem_cons_zero,List.getElem_cons_succ,List.setIfInBounds_toArray,List.set_cons_zero,List.set_cons_succ])
 refine Z1 5 rfl (by kernel_rfl) (by kernel_rfl) (by kernel_rfl) (by kernel_rfl) (fun v c a w h=>h) hS0 ?_
 (first | (refine⟨undef,Or.inr ⟨by rfl,rfl⟩,?_⟩) | (apply Exists.intro;refine⟨Or.inl ⟨by rfl,?_⟩,?_⟩;(intro x hx';go_simp;first | done | with_reducible rfl)))
 (try simp only[Act.put,List.getElem_toArray,List.getElem_cons_zero,List.getElem_cons_succ,List.setIfInBounds_toArray,List.set_cons_zero,List.set_cons_succ])
 refine Z1 6 rfl (by kernel_rfl) (by kernel_rfl) (by kernel_rfl) (by kernel_rfl) (fun v c a w h=>h) hS0 ?_
 (first | (refine⟨undef,Or.inr ⟨by rfl,rfl⟩,?_⟩) | (apply Exists.intro;refine⟨Or.inl ⟨by rfl,?_⟩,?_⟩;(intro x hx';go_simp;first | done | with_reducible rfl)))
 (try simp only[Act.put,List.getElem_toArray,List.getElem_cons_zero,List.getElem_cons_succ,List.setIfInBounds_toArray,List.set_cons_zero,List.set_cons_succ])
 refine Z1 7 rfl (by kernel_rfl) (by kernel_rfl) (by kernel_rfl) (by kernel_rfl) (fun v c a w h=>h) hS0 ?_
 (first | (refine⟨undef,Or.inr ⟨by rfl,rfl⟩,?_⟩) | (apply Exists.intro;refine⟨Or.inl ⟨by rfl,?_⟩,?_⟩;(intro x hx';go_simp;first | done | with_reducible rfl)))
 (try simp only[Act.put,List.getElem_toArray,List.getElem_cons_zero,List.getElem_cons_succ,List.setIfInBounds_toArray,List.set_cons_zero,List.set_cons_succ])
 refine Z1 8 rfl (by kernel_rfl) (by kernel_rfl) (by kernel_rfl) (by kernel_rfl) (fun v c a w h=>h) hS0 ?_
 (first | (refine⟨undef,Or.inr ⟨by rfl,rfl⟩,?_⟩) | (apply Exists.intro;refine⟨Or.inl ⟨by rfl,?_⟩,?_⟩;(intro x hx';go_simp;first | done | with_reducible rfl)))
 (try simp only[Act.put,List.getElem_toArray,List.getElem_cons_zero,List.getElem_cons_succ,List.setIfInBounds_toArray,List.set_cons_zero,List.set_cons_succ])
 refine Z1 9 rfl (by kernel_rfl) (by kernel_rfl) (by kernel_rfl) (by kernel_rfl) (fun v c a w h=>h) hS0 ?_
 (first | (refine⟨undef,Or.inr ⟨by rfl,rfl⟩,?_⟩) | (apply Exists.intro;refine⟨Or.inl ⟨by rfl,?_⟩,?_⟩;(intro x hx';go_simp;first | done | with_reducible rfl)))
 (try simp only[Act.put,List.getElem_toArray,List.getElem_cons_zero,List.getElem_cons_succ,List.setIfInBounds_toArray,List.set_cons_zero,List.set_cons_succ])
 refine Z3 10 (by kernel_rfl) rfl (fun K hK=>?_)
 rw[if_pos (by rfl)]
 (try simp only[List.getElem_toArray,List.getElem_cons_zero,List.getElem_cons_succ])
 go_simp
 refine(HS.out y0 hS0).mono ?_
 rintro e w2 ⟨rfl,g2⟩
 refine hK _ _ (.inr (hS0.trans g2)) ?_
 clear hK K t0 t1 HS
 (try simp only[Act.put,List.getElem_toArray,List.getElem_cons_zero,List.getElem_cons_succ,List.setIfInBounds_toArray,List.set_cons_zero,List.set_cons_succ])
 have h2:=HW.out.nwr (hS0.trans g2)
 obtain⟨w3,hr3,hm3,hg3⟩:=h2.mn.put (by have:=HU.out.1;omega) HU.out.2.1 (Vn E u:Int)
 have h3:=h2.next hm3 hg3 (Nat.le_succ N)
 have HW3:=hD0 h3
 have HR3:=hD0 hr3
 clear h2 hm3 hg3 h3 hr3 hS0 g2 HW
 refine Z3 11 (by kernel_rfl) rfl (fun K hK=>?_)
 refine Z0q (by rfl) (.tmp 21) (.tmp 22) (.tmp 28) 57 rfl _ _ _ _ rfl rfl rfl HR3.out ?_
 refine hK _ _ (.inl (by decide)) ?_
 clear hK K HR3
 refine Z4 (by kernel_rfl) ?_ _
 refine NoPanic.normal ?_
 (try simp only[Act.put,List.getElem_toArray,List.getElem_cons_zero,List.getElem_cons_succ,List.setIfInBounds_toArray,List.set_cons_zero,List.set_cons_succ])
 obtain⟨c0,c1,c2,c3,c4,c5,c6,c7⟩:=HW3.out.c
 have hol:=HW3.out.ol
 clear c0 c1 c3 c6 c7
 go_wp2_with fail
 refine Z8 [10] (Nw w3) (by kernel_rfl) ?_
 change Z7 _ _ _ _ _ _ 11 #[false,false,false,false,false,false,false,false,false,false,false] _ w3.drew
 obtain⟨y1,hy1⟩:∃y,w3.drew=y:=⟨_,rfl⟩
 rw[hy1]
 have hS0:Nw w3 y1:=by rw[←hy1];exact(Nw.refl w3).dr
 have t0:∀x,Nw w3 x→x.cell? ⟨o,2,none⟩=some (.map (some pb)):=fun x g=>g.kp c2
 have t1:∀x,Nw w3 x→x.cell? ⟨o,4,none⟩=some (.slice oa s.op.length oc):=fun x g=>g.kp c4
 clear hy1 c2 c4 c5 hol
 refine Z1 0 rfl (by kernel_rfl) (by kernel_rfl) (by kernel_rfl) (by kernel_rfl) (fun v c a w h=>h) hS0 ?_
 (first | (refine⟨undef,Or.inr ⟨by rfl,rfl⟩,?_⟩) | (apply Exists.intro;refine⟨Or.inl ⟨by rfl,?_⟩,?_⟩;(intro x hx';go_simp;first | done | with_reducible rfl)))
 (try simp only[Act.put,List.getElem_toArray,List.getElem_cons_zero,List.getElem_cons_succ,List.setIfInBounds_toArray,List.set_cons_zero,List.set_cons_succ])
 refine Z1 1 rfl (by kernel_rfl) (by kernel_rfl) (by kernel_rfl) (by kernel_rfl) (fun v c a w h=>h) hS0 ?_
 (first | (refine⟨undef,Or.inr ⟨by rfl,rfl⟩,?_⟩) | (apply Exists.intro;refine⟨Or.inl ⟨by rfl,?_⟩,?_⟩;(intro x hx';go_simp;first | done | with_reducible rfl)))
 (try simp only[Act.put,List.getElem_toArray,List.getElem_cons_zero,List.getElem_cons_succ,List.setIfInBounds_toArray,List.set_cons_zero,List.set_cons_succ])
 refine Z1 2 rfl (by kernel_rfl) (by kernel_rfl) (by kernel_rfl) (by kernel_rfl) (fun v c a w h=>h) hS0 ?_
 (first | (refine⟨undef,Or.inr ⟨by rfl,rfl⟩,?_⟩) | (apply Exists.intro;refine⟨Or.inl ⟨by rfl,?_⟩,?_⟩;(intro x hx';go_simp;first | done | with_reducible rfl)))
 (try simp only[Act.put,List.getElem_toArray,List.getElem_cons_zero,List.getElem_cons_succ,List.setIfInBounds_toArray,List.set_cons_zero,List.set_cons_succ])
 refine Z1 3 rfl (by kernel_rfl) (by kernel_rfl) (by kernel_rfl) (by kernel_rfl) (fun v c a w h=>h) hS0 ?_
 (first | (refine⟨undef,Or.inr ⟨by rfl,rfl⟩,?_⟩) | (apply Exists.intro;refine⟨Or.inl ⟨by rfl,?_⟩,?_⟩;(intro x hx';go_simp;first | done | with_reducible rfl)))
 (try simp only[Act.put,List.getElem_toArray,List.getElem_cons_zero,List.getElem_cons_succ,List.setIfInBounds_toArray,List.set_cons_zero,List.set_cons_succ])
 refine Z1 4 rfl (by kernel_rfl) (by kernel_rfl) (by kernel_rfl) (by kernel_rfl) (fun v c a w h=>h) hS0 ?_
 (first | (refine⟨undef,Or.inr ⟨by rfl,rfl⟩,?_⟩) | (apply Exists.intro;refine⟨Or.inl ⟨by rfl,?_⟩,?_⟩;(intro x hx';go_simp;first | done | with_reducible rfl)))
 (try simp only[Act.put,List.getElem_toArray,List.getElem_cons_zero,List.getElem_cons_succ,List.setIfInBounds_toArray,List.set_cons_zero,List.set_cons_succ])
 refine Z1 5 rfl (by kernel_rfl) (by kernel_rfl) (by kernel_rfl) (by kernel_rfl) (fun v c a w h=>h) hS0 ?_
 (first | (refine⟨undef,Or.inr ⟨by rfl,rfl⟩,?_⟩) | (apply Exists.intro;refine⟨Or.inl ⟨by rfl,?_⟩,?_⟩;(intro x hx';go_simp;first | done | with_reducible rfl)))
 (try simp only[Act.put,List.getElem_toArray,List.getElem_cons_zero,List.getElem_cons_succ,List.setIfInBounds_toArray,List.set_cons_zero,List.set_cons_succ])
 refine Z1 6 rfl (by kernel_rfl) (by kernel_rfl) (by kernel_rfl) (by kernel_rfl) (fun v c a w h=>h) hS0 ?_
 (first | (refine⟨undef,Or.inr ⟨by rfl,rfl⟩,?_⟩) | (apply Exists.intro;refine⟨Or.inl ⟨by rfl,?_⟩,?_⟩;(intro x hx';go_simp;first | done | with_reducible rfl)))
 (try simp only[Act.put,List.getElem_toArray,List.getElem_cons_zero,List.getElem_cons_succ,List.setIfInBounds_toArray,List.set_cons_zero,List.set_cons_succ])
 refine Z1 7 rfl (by kernel_rfl) (by kernel_rfl) (by kernel_rfl) (by kernel_rfl) (fun v c a w h=>h) hS0 ?_
 (first | (refine⟨undef,Or.inr ⟨by rfl,rfl⟩,?_⟩) | (apply Exists.intro;refine⟨Or.inl ⟨by rfl,?_⟩,?_⟩;(intro x hx';go_simp;first | done | with_reducible rfl)))
 (try simp only[Act.put,List.getElem_toArray,List.getElem_cons_zero,List.getElem_cons_succ,List.setIfInBounds_toArray,List.set_cons_zero,List.set_cons_succ])
 refine Z1 8 rfl (by kernel_rfl) (by kernel_rfl) (by kernel_rfl) (by kernel_rfl) (fun v c a w h=>h) hS0 ?_
 (first | (refine⟨undef,Or.inr ⟨by rfl,rfl⟩,?_⟩) | (apply Exists.intro;refine⟨Or.inl ⟨by rfl,?_⟩,?_⟩;(intro x hx';go_simp;first | done | with_reducible rfl)))
 (try simp only[Act.put,List.getElem_toArray,List.getElem_cons_zero,List.getElem_cons_succ,List.setIfInBounds_toArray,List.set_cons_zero,List.set_cons_succ])
 refine Z1 9 rfl (by kernel_rfl) (by kernel_rfl) (by kernel_rfl) (by kernel_rfl) (fun v c a w h=>h) hS0 ?_
 (first | (refine⟨undef,Or.inr ⟨by rfl,rfl⟩,?_⟩) | (apply Exists.intro;refine⟨Or.inl ⟨by rfl,?_⟩,?_⟩;(intro x hx';go_simp;first | done | with_reducible rfl)))
 (try simp only[Act.put,List.getElem_toArray,List.getElem_cons_zero,List.getElem_cons_succ,List.setIfInBounds_toArray,List.set_cons_zero,List.set_cons_succ])
 have h4:=HW3.out.nwr hS0
 obtain⟨w5,hr5,hm5,hg5⟩:=(h4.mp.put (by have:=HU.out.1;omega) HU.out.2.1 (s.op.length:Int))
 have h5:=h4.plc hm5 hg5 (Nat.le_succ _)
 have HW5:=hD0 h5
 have HR5:=hD0 hr5
 clear h4 hm5 hg5 h5 hr5 hS0 t0 t1 HW3
 refine Z3 10 (by kernel_rfl) rfl (fun K hK=>?_)
 refine Z0q (by rfl) (.tmp 32) (.tmp 33) (.tmp 38) 57 rfl _ _ _ _ rfl rfl rfl HR5.out ?_
 refine hK _ _ (.inl (by decide)) ?_
 clear hK K HR5
 refine Z4 (by kernel_rfl) ?_ _
 refine NoPanic.normal ?_
 (try simp only[Act.put,List.getElem_toArray,List.getElem_cons_zero,List.getElem_cons_succ,List.setIfInBounds_toArray,List.set_cons_zero,List.set_cons_succ])
 obtain⟨c0,c1,c2,c3,c4,c5,c6,c7⟩:=HW5.out.c
 have hol:=HW5.out.ol
 have hfz:=HW5.out.fz 5
 clear c0 c1 c2 c3 c6 c7
 go_wp2_with fail
 refine Z8 [15] (Nk w5 o vk oa oc s.op.length) (by kernel_rfl) ?_
 change Z7 _ _ _ _ _ _ 16 #[false,false,false,false,false,false,false,false,false,false,false,false,false,false,false,false] _ w5.drew
 obtain⟨y2,hy2⟩:∃y,w5.drew=y:=⟨_,rfl⟩
 rw[hy2]
 have h6:=HW5.out.nwr (show Nw w5 y2 by rw[←hy2];exact(Nw.refl w5).dr)
 obtain⟨d0,d1,d2,d3,d4,d5,d6,d7⟩:=h6.c
 have hol6:=h6.ol
 have hS0:Nk w5 o vk oa oc s.op.length y2:=⟨d5,d4,hol6⟩
 have t0:∀x,Nk w5 o vk oa oc s.op.length x→x.cell? ⟨o,5,none⟩=some vk:=fun x g=>g.1
 have t1:∀x,Nk w5 o vk oa oc s.op.length x→x.cell? ⟨o,4,none⟩=some (.slice oa s.op.length oc):=fun x g=>g.2.1
 have HW6:=hD0 h6
 clear hy2 c4 c5 hol hfz d0 d1 d2 d3 d4 d5 d6 d7 h6 HW5
 refine Z1 0 rfl (by kernel_rfl) (by kernel_rfl) (by kernel_rfl) (by kernel_rfl) (fun v c a w h=>h) hS0 ?_
 (first | (refine⟨undef,Or.inr ⟨by rfl,rfl⟩,?_⟩) | (apply Exists.intro;refine⟨Or.inl ⟨by rfl,?_⟩,?_⟩;(intro x hx';go_simp;first | done | with_reducible rfl)))
 (try simp only[Act.put,List.getElem_toArray,List.getElem_cons_zero,List.getElem_cons_succ,List.setIfInBounds_toArray,List.set_cons_zero,List.set_cons_succ])
 refine Z1 1 rfl (by kernel_rfl) (by kernel_rfl) (by kernel_rfl) (by kernel_rfl) (fun v c a w h=>h) hS0 ?_
 (first | (refine⟨undef,Or.inr ⟨by rfl,rfl⟩,?_⟩) | (apply Exists.intro;refine⟨Or.inl ⟨by rfl,?_⟩,?_⟩;(intro x hx';go_simp;first | done | with_reducible rfl)))
 (try simp only[Act.put,List.getElem_toArray,List.getElem_cons_zero,List.getElem_cons_succ,List.setIfInBounds_toArray,List.set_cons_zero,List.set_cons_succ])
 refine Z1 2 rfl (by kernel_rfl) (by kernel_rfl) (by kernel_rfl) (by kernel_rfl) (fun v c a w h=>h) hS0 ?_
 (first | (refine⟨undef,Or.inr ⟨by rfl,rfl⟩,?_⟩) | (apply Exists.intro;refine⟨Or.inl ⟨by rfl,?_⟩,?_⟩;(intro x hx';go_simp;first | done | with_reducible rfl)))
 (try simp only[Act.put,List.getElem_toArray,List.getElem_cons_zero,List.getElem_cons_succ,List.setIfInBounds_toArray,List.set_cons_zero,List.set_cons_succ])
 refine Z1 3 rfl (by kernel_rfl) (by kernel_rfl) (by kernel_rfl) (by kernel_rfl) (fun v c a w h=>h) hS0 ?_
 (first | (refine⟨undef,Or.inr ⟨by rfl,rfl⟩,?_⟩) | (apply Exists.intro;refine⟨Or.inl ⟨by rfl,?_⟩,?_⟩;(intro x hx';go_simp;first | done | with_reducible rfl)))
 (try simp only[Act.put,List.getElem_toArray,List.getElem_cons_zero,List.getElem_cons_succ,List.setIfInBounds_toArray,List.set_cons_zero,List.set_cons_succ])
 refine Z1 4 rfl (by kernel_rfl) (by kernel_rfl) (by kernel_rfl) (by kernel_rfl) (fun v c a w h=>h) hS0 ?_
 (first | (refine⟨undef,Or.inr ⟨by rfl,rfl⟩,?_⟩) | (apply Exists.intro;refine⟨Or.inl ⟨by rfl,?_⟩,?_⟩;(intro x hx';go_simp;first | done | with_reducible rfl)))
 (try simp only[Act.put,List.getElem_toArray,List.getElem_cons_zero,List.getElem_cons_succ,List.setIfInBounds_toArray,List.set_cons_zero,List.set_cons_succ])
 refine Z1 5 rfl (by kernel_rfl) (by kernel_rfl) (by kernel_rfl) (by kernel_rfl) (fun v c a w h=>h) hS0 ?_
 (first | (refine⟨undef,Or.inr ⟨by rfl,rfl⟩,?_⟩) | (apply Exists.intro;refine⟨Or.inl ⟨by rfl,?_⟩,?_⟩;(intro x hx';go_simp;first | done | with_reducible rfl)))
 (try simp only[Act.put,List.getElem_toArray,List.getElem_cons_zero,List.getElem_cons_succ,List.setIfInBounds_toArray,List.set_cons_zero,List.set_cons_succ])
 refine Z1 6 rfl (by kernel_rfl) (by kernel_rfl) (by kernel_rfl) (by kernel_rfl) (fun v c a w h=>h) hS0 ?_
 (first | (refine⟨undef,Or.inr ⟨by rfl,rfl⟩,?_⟩) | (apply Exists.intro;refine⟨Or.inl ⟨by rfl,?_⟩,?_⟩;(intro x hx';go_simp;first | done | with_reducible rfl)))
 (try simp only[Act.put,List.getElem_toArray,List.getElem_cons_zero,List.getElem_cons_succ,List.setIfInBounds_toArray,List.set_cons_zero,List.set_cons_succ])
 refine Z1 7 rfl (by kernel_rfl) (by kernel_rfl) (by kernel_rfl) (by kernel_rfl) (fun v c a w h=>h) hS0 ?_
 (first | (refine⟨undef,Or.inr ⟨by rfl,rfl⟩,?_⟩) | (apply Exists.intro;refine⟨Or.inl ⟨by rfl,?_⟩,?_⟩;(intro x hx';go_simp;first | done | with_reducible rfl)))
 (try simp only[Act.put,List.getElem_toArray,List.getElem_cons_zero,List.getElem_cons_succ,List.setIfInBounds_toArray,List.set_cons_zero,List.set_cons_succ])
 refine Z1 8 rfl (by kernel_rfl) (by kernel_rfl) (by kernel_rfl) (by kernel_rfl) (fun v c a w h=>h) hS0 ?_
 (first | (refine⟨undef,Or.inr ⟨by rfl,rfl⟩,?_⟩) | (apply Exists.intro;refine⟨Or.inl ⟨by rfl,?_⟩,?_⟩;(intro x hx';go_simp;first | done | with_reducible rfl)))
 (try simp only[Act.put,List.getElem_toArray,List.getElem_cons_zero,List.getElem_cons_succ,List.setIfInBounds_toArray,List.set_cons_zero,List.set_cons_succ])
 refine Z1 9 rfl (by kernel_rfl) (by kernel_rfl) (by kernel_rfl) (by kernel_rfl) (fun v c a w h=>h) hS0 ?_
 (first | (refine⟨undef,Or.inr ⟨by rfl,rfl⟩,?_⟩) | (apply Exists.intro;refine⟨Or.inl ⟨by rfl,?_⟩,?_⟩;(intro x hx';go_simp;first | done | with_reducible rfl)))
 (try simp only[Act.put,List.getElem_toArray,List.getElem_cons_zero,List.getElem_cons_succ,List.setIfInBounds_toArray,List.set_cons_zero,List.set_cons_succ])
 refine Z1 10 rfl (by kernel_rfl) (by kernel_rfl) (by kernel_rfl) (by kernel_rfl) (fun v c a w h=>h) hS0 ?_
 (first | (refine⟨undef,Or.inr ⟨by rfl,rfl⟩,?_⟩) | (apply Exists.intro;refine⟨Or.inl ⟨by rfl,?_⟩,?_⟩;(intro x hx';go_simp;first | done | with_reducible rfl)))
 (try simp only[Act.put,List.getElem_toArray,List.getElem_cons_zero,List.getElem_cons_succ,List.setIfInBounds_toArray,List.set_cons_zero,List.set_cons_succ])
 refine Z3 11 (by kernel_rfl) rfl (fun K hK=>?_)
 rw[if_pos (by rfl)]
 (try simp only[List.getElem_toArray,List.getElem_cons_zero,List.getElem_cons_succ])
 go_simp
 have e7:Nw y2 (y2.alloc (.cells #[.int .i64 s.op.length,.bool false] 118)):=(Nw.refl _).alloc _
 refine hK _ _ (.inr ⟨e7.kp hS0.1,e7.kp hS0.2.1,lL0 hS0.2.2 e7.sz⟩) ?_
 clear hK K
 (try simp only[Act.put,List.getElem_toArray,List.getElem_cons_zero,List.getElem_cons_succ,List.setIfInBounds_toArray,List.set_cons_zero,List.set_cons_succ])
 obtain⟨gk,kc,w8,hr8,⟨hc8,hf8,ho8⟩,h8⟩:=HW6.out.pushK s.op.length (by have:=HU.out.2.2.2.2;show s.kn.length<N+1+1;omega) (by have:=HU.out.1;omega)
 have f8:=(hf8 5).trans (HW6.out.fz 5)
 have b5:=(hc8 5).trans hS0.1
 have b4:=(hc8 4).trans hS0.2.1
 have HR8:=hD0 hr8
 have HW8:=hD0 h8
 clear hc8 hf8 h8 hr8 e7
 refine Z3 12 (by kernel_rfl) rfl (fun K hK=>?_)
 refine Z3o (by rfl) (.tmp 43) (.tmp 50) 79 rfl _ _ _ _ rfl rfl HR8.out ?_
 refine hK _ _ (.inr ⟨b5,b4,ho8⟩) ?_
 clear hK K HR8 hS0
 (try simp only[Act.put,List.getElem_toArray,List.getElem_cons_zero,List.getElem_cons_succ,List.setIfInBounds_toArray,List.set_cons_zero,List.set_cons_succ])
 have hS0:Nk w5 o vk oa oc s.op.length w8:=⟨b5,b4,ho8⟩
 refine Z3 13 (by kernel_rfl) rfl (fun K hK=>?_)
 rw[if_pos (by rfl)]
 (try simp only[List.getElem_toArray,List.getElem_cons_zero,List.getElem_cons_succ])
 go_simp
 refine hK _ _ (.inr hS0) ?_
 clear hK K
 (try simp only[Act.put,List.getElem_toArray,List.getElem_cons_zero,List.getElem_cons_succ,List.setIfInBounds_toArray,List.set_cons_zero,List.set_cons_succ])
 refine Z3 14 (by kernel_rfl) rfl (fun K hK=>?_)
 rw[if_pos (by rfl)]
 (try simp only[List.getElem_toArray,List.getElem_cons_zero,List.getElem_cons_succ])
 go_simp
 refine hK _ _ (.inr hS0) ?_
 clear hK K
 (try simp only[Act.put,List.getElem_toArray,List.getElem_cons_zero,List.getElem_cons_succ,List.setIfInBounds_toArray,List.set_cons_zero,List.set_cons_succ])
 refine Z3 15 (by kernel_rfl) rfl (fun K hK=>?_)
 rw[if_pos (by rfl)]
 (try simp only[List.getElem_toArray,List.getElem_cons_zero,List.getElem_cons_succ])
 go_simp
 refine hK _ _ (.inl (by decide)) ?_
 clear hK K hS0 t0 t1 b5 b4 f8 ho8 HW6
 refine Z4 (by kernel_rfl) ?_ _
 refine NoPanic.normal ?_
 (try simp only[Act.put,List.getElem_toArray,List.getElem_cons_zero,List.getElem_cons_succ,List.setIfInBounds_toArray,List.set_cons_zero,List.set_cons_succ])
 obtain⟨w9,hw9⟩:∃x,w8.setCell ⟨o,5,none⟩ (.slice (some ⟨gk,0,none⟩) (s.kn.length+1) kc)=x:=⟨_,rfl⟩
 rw[hw9] at HW8 ⊢
 clear hw9
 obtain⟨c0,c1,c2,c3,c4,c5,c6,c7⟩:=HW8.out.c
 have hol:=HW8.out.ol
 have hfz:=HW8.out.fz
 clear c0 c1 c2 c3 c5 c6 c7
 obtain⟨go,oc2,w10,hr10,⟨hc10,hf10,ho10⟩,h10⟩:=HW8.out.pushO u (by have:=HU.out.2.2.2.1;show s.op.length<N+1+1;omega) (by have:=HU.out.1;omega)
 have f10:=(hf10 4).trans (hfz 4)
 have b10:=(hc10 4).trans c4
 have HR10:=hD0 hr10
 have HW10:=hD0 h10
 clear hc10 hf10 h10 hr10
 go_upto_region 6 with(at_builtin;refine Zg (by rfl) (.tmp 58) (.tmp 60) 36 rfl _ _ _ _ rfl rfl HR10.out ?_)
 obtain⟨w11,hw11⟩:∃x,w10.setCell ⟨o,4,none⟩ (.slice (some ⟨go,0,none⟩) (s.op.length+1) oc2)=x:=⟨_,rfl⟩
 rw[hw11] at HW10 ⊢
 clear hw11 c4 hol hfz ho10 f10 b10 HR10 HW8
 obtain⟨c0,c1,c2,c3,c4,c5,c6,c7⟩:=HW10.out.c
 have hol:=HW10.out.ol
 have hfz:=HW10.out.fz
 clear c0 c1 c2 c4 c5 c6 c7
 obtain⟨gp,pc,w12,hr12,⟨hc12,hf12,ho12⟩,h12⟩:=HW10.out.pushP u (by have:=HU.out.2.2.1;show s.path.length<N+1+1;omega) (by have:=HU.out.1;omega)
 have f12:=(hf12 3).trans (hfz 3)
 have b12:=(hc12 3).trans c3
 have HR12:=hD0 hr12
 have HW12:=hD0 h12
 clear hc12 hf12 h12 hr12
 go_wp2_with (at_builtin;refine Zg (by rfl) (.tmp 68) (.tmp 70) 36 rfl _ _ _ _ rfl rfl HR12.out ?_)
 refine bodyPost_end (results_none rfl _ _ _) rfl ?_
 exact⟨rfl,mb,pb,_,_,_,HW12.out⟩
end
end Go.Proofs.Ytpmlaphjlghpmaa
