/- Texts merged: BdJ, SmM, SmA, SmB, SmC -/
import Derived.Test.YtfepoibfbmehiaaGreatDoorTableNamesB11
set_option linter.unusedVariables false
set_option maxRecDepth 100000
set_option maxHeartbeats 16000000
namespace Go.Proofs.YtfepoibfbmehiaaGreatDoor
open Go.RowKit _root_.Go.Proofs.Tryz
section
open Go.RowKit Go.Sort Go.Shelf
attribute [local go_sem] Oper.semAt_some
abbrev hpH(x:Hp):Value:=.agg #[.int .i64 x.h.t,.int .i64 x.h.r,.slice x.a x.h.q.length x.c,.int .i64 x.h.W]
def Zb(l:List Hp)(id:Int):Hp:=(whP l id).getD Zcb
structure WiI(w:World)(id:Int)(S0 S:Nat→Prop)(pre:List Hp)(A:World):Prop where
 nw:Nw w A
 box:A.cell? ⟨w.heap.size,0,none⟩=some (.int .i64 id)
 res:∃u0 u1 u2 u3,A.heap[w.heap.size+1]?=some (.cells #[u0,u1,u2,u3] 83 (0,0))
 nb:¬S w.heap.size
 nr:¬S (w.heap.size+1)
 sub:∀k,S k→S0 k∨w.heap.size+2≤k
 no:∀x∈pre,Va x.h.q id=none
def WiX(w:World)(id:Int)(c:Code)(pre:List Hp)(A:World):Prop :=
 c=.ret∧Nw w A∧∃p x,pre=p++[x]∧(∀y∈p,Va y.h.q id=none)∧(Va x.h.q id).isSome=true∧A.heap[w.heap.size+1]?=some (.cells #[.int .i64 x.h.t,.int .i64 x.h.r,.slice x.a x.h.q.length x.c,.int .i64 x.h.W] 83 (0,0))
theorem WiI.step{w A B:World}{id:Int}{n₀:Nat}{S0 S S':Nat→Prop}{pre:List Hp}(h:WiI w id S0 S pre A)(hn:w.heap.size+2≤n₀)(hS0:∀k,S0 k→k<w.heap.size)(k:Vj n₀ (fun k=>S k∧¬S0 k) A B)(h2:∀k,S' k→S k∨A.heap.size≤k):WiI w id S0 S' pre B:=by
 obtain⟨u0,u1,u2,u3,hr⟩:=h.res
 have hsz:=h.nw.sz
 have hrl:=Z1 hr
 have e:=Zb6 k h.box (fun q=>h.nb q.1)
 refine⟨Zdz k h.nw (by omega) (fun i q=>by have:=(h.sub i q.1).resolve_left q.2;omega),(World.cell?_of_block e).trans h.box,⟨u0,u1,u2,u3,k.cells hr (fun q=>h.nr q.1)⟩,fun e=>?_,fun e=>?_,fun i e=>?_,h.no⟩
 ·rcases h2 _ e with q | q
  ·exact h.nb q
  ·omega
 ·rcases h2 _ e with q | q
  ·exact h.nr q
  ·omega
 ·rcases h2 _ e with q | q
  ·exact h.sub i q
  ·exact .inr (by omega)
theorem Zjs{w A z:World}{id:Int}{S0 S:Nat→Prop}{pre:List Hp}{x:Hp}(h:WiI w id S0 S pre A)(g:Nw A z)(hex:∀k,S k→k<A.heap.size)(hno:(Va x.h.q id).isSome=false):WiI w id S0 S (pre++[x]) z:=by
 obtain⟨u0,u1,u2,u3,hr⟩:=h.res
 refine⟨h.nw.trans g,g.kp h.box,⟨u0,u1,u2,u3,g.at' hr⟩,h.nb,h.nr,h.sub,fun y hy=>?_⟩
 rcases List.mem_append.1 hy with q | q
 ·exact h.no y q
 ·obtain rfl:y=x:=by simpa using q
  cases e:Va y.h.q id with
  | none=>rfl
  | some r=>rw[e] at hno;cases hno
theorem Zdo{w A z:World}{id:Int}{S0 S:Nat→Prop}{pre:List Hp}{x:Hp}{n₀ ql:Nat}{u0 u1 u2 u3:Value}{xt xr xW:Int}{xa:Option Addr}{xc:Nat}(h:WiI w id S0 S pre A)(g:Nw A z)(hex:∀k,S k→k<A.heap.size)(hD:∀k,(k=n₀∨k=n₀+1)→∃o,A.heap[k]?=some o∧o.isCells=false)(hy:(Va x.h.q id).isSome=true)
  (hx:x.h.t=xt∧x.h.r=xr∧x.h.W=xW∧x.a=xa∧x.c=xc∧x.h.q.length=ql) (hr:A.heap[w.heap.size+1]?=some (.cells #[u0,u1,u2,u3] 83 (0,0))) :
  KpD n₀ A ((((z.setCell ⟨w.heap.size+1,0,none⟩ (.int .i64 xt)).setCell ⟨w.heap.size+1,1,none⟩ (.int .i64 xr)).setCell ⟨w.heap.size+1,2,none⟩ (.slice xa ql xc)).setCell ⟨w.heap.size+1,3,none⟩ (.int .i64 xW)) ∧
  Vn S A ((((z.setCell ⟨w.heap.size+1,0,none⟩ (.int .i64 xt)).setCell ⟨w.heap.size+1,1,none⟩ (.int .i64 xr)).setCell ⟨w.heap.size+1,2,none⟩ (.slice xa ql xc)).setCell ⟨w.heap.size+1,3,none⟩ (.int .i64 xW)) ∧
  WiX w id .ret (pre++[x]) ((((z.setCell ⟨w.heap.size+1,0,none⟩ (.int .i64 xt)).setCell ⟨w.heap.size+1,1,none⟩ (.int .i64 xr)).setCell ⟨w.heap.size+1,2,none⟩ (.slice xa ql xc)).setCell ⟨w.heap.size+1,3,none⟩ (.int .i64 xW))∧¬S (w.heap.size+1)∧∀k,S k→S0 k∨w.heap.size+2≤k:=by
 obtain⟨rfl,rfl,rfl,rfl,rfl,rfl⟩:=hx
 have hrz:=g.at' hr
 have h0:=Vq (j:=0) (.int .i64 x.h.t) hrz
 have h1:=Vq (j:=1) (.int .i64 x.h.r) h0
 have h2:=Vq (j:=2) (.slice x.a x.h.q.length x.c) h1
 have h3:=Vq (j:=3) (.int .i64 x.h.W) h2
 have ht:Z3 (fun b=>b=w.heap.size+1) A ((((z.setCell ⟨w.heap.size+1,0,none⟩ (.int .i64 x.h.t)).setCell ⟨w.heap.size+1,1,none⟩ (.int .i64 x.h.r)).setCell ⟨w.heap.size+1,2,none⟩ (.slice x.a x.h.q.length x.c)).setCell ⟨w.heap.size+1,3,none⟩ (.int .i64 x.h.W)) :=
  ((((Z3.nw (S:=fun b=>b=w.heap.size+1) g).set (p:=⟨w.heap.size+1,0,none⟩) (.inl rfl) _).set (p:=⟨w.heap.size+1,1,none⟩) (.inl rfl) _).set (p:=⟨w.heap.size+1,2,none⟩) (.inl rfl) _).set (p:=⟨w.heap.size+1,3,none⟩) (.inl rfl) _
 refine⟨fun k hk=>?_,Vn.tch ht (fun k e=>⟨hex k e,fun q=>h.nr (q▸e)⟩),⟨rfl,Yu h.nw ht (fun i q=>by omega),pre,x,rfl,h.no,hy,?_⟩,h.nr,h.sub⟩
 ·obtain⟨o,ho,hno⟩:=hD k hk
  refine ht.block k (Z1 ho) (fun q=>?_)
  subst q
  rw[hr] at ho;cases ho;cases hno
 ·rw[h3];rfl
theorem Zgx{l p:List Hp}{x:Hp}{id:Int}(hp:p++[x] <+: l)(h1:∀y∈p,Va y.h.q id=none)(h2:(Va x.h.q id).isSome=true):whP l id=some x:=by
 obtain⟨t,rfl⟩:=hp
 unfold whP
 rw[List.append_assoc,List.find?_append,List.find?_eq_none.2 (fun y hy=>by rw[h1 y hy];simp)]
 simp[h2]
theorem Zkr{l:List Hp}{id:Int}(h1:∀y∈l,Va y.h.q id=none):whP l id=none:=List.find?_eq_none.2 (fun y hy=>by rw[h1 y hy];simp)
theorem Zmr(n:Nat)(hn:4≤n){w:World}{o mb po nn:Nat}{l:List Hp}{L:List Bool}{F:Nat→Prop}(h:Db w o mb po nn l L F)(id:Int) :
  CallsIn Fence.wide n prog 57 #[.pointer (some ⟨o,0,none⟩),.int .i64 id] w fun e w'=>e=.returned (hpH (Zb l id))∧Nw w w':=by
 have h1:1≤n:=by omega
 have hol:=h.ol
 have hml:=h.map.lt
 have hll:=h.len
 have H:=hD0 h
 refine callsIn_of_wp_marks func57 rfl trivial ?_ rfl
 simp only[ntmps57,List.size_toArray,List.length_cons,List.length_nil,Nat.reduceAdd,Nat.reduceSub,Array.replicate_succ,Array.replicate_zero,List.push_toArray,List.append_toArray,List.nil_append,List.cons_append]
 clear h
 gi_wp2
 obtain⟨W0,hW0⟩:∃W0,(w.alloc (.cells #[.int .i64 id] 3)).alloc (.cells #[.int .i64 0,.int .i64 0,.slice none 0 0,.int .i64 0] 83)=W0:=⟨_,rfl⟩
 have hnw:Nw w W0:=by rw[←hW0];exact((Nw.refl w).alloc _).alloc _
 have hsz:W0.heap.size=w.heap.size+2:=by rw[←hW0];simp
 have hA0:WiI w id (fun k=>k=o∨k=mb) (fun k=>k=o∨k=mb) [] W0:=by
  refine⟨hnw,?_,⟨.int .i64 0,.int .i64 0,.slice none 0 0,.int .i64 0,?_⟩,fun e=>by omega,fun e=>by omega,fun k e=>.inl e,by simp⟩
  ·rw[←hW0]
   exact Z0 (j:=0) (((Nw.refl _).alloc _).at' (Z2 w (.cells #[.int .i64 id] 3)))
  ·rw[←hW0]
   have:=Z2 (w.alloc (.cells #[.int .i64 id] 3)) (.cells #[.int .i64 0,.int .i64 0,.slice none 0 0,.int .i64 0] 83)
   rwa [World.size_alloc] at this
 have hseq:=Zcq (n-1) (by omega) o mb l W0 ((H.out.nw hnw).c3) ((H.out.nw hnw).map) H.out.srt (by omega)
 rw[hW0]
 clear hW0
 refine Zbz rfl h1 (gf:=88) (fa:=#[.pointer (some ⟨o,0,none⟩)]) (lb:=#[]) rfl trivial Zgm (S0:=fun k=>k=o∨k=mb) (fun k e=>by omega) hseq rfl
  (fun S pre A=>WiI w id (fun k=>k=o∨k=mb) S pre A) (fun c S pre A=>WiX w id c pre A∧¬S (w.heap.size+1)∧∀k,S k→(k=o∨k=mb)∨w.heap.size+2≤k)
  (fun S S' pre A B hi hc e1 e2 _=>hi.step (by omega) (fun k e=>by omega) hc e2) ?_ hA0 (fun _=>none)
  (fun x bx=>{ tmps:=#[.pointer (some ⟨o,0,none⟩),.int .i64 id,undef,.pointer (some ⟨w.heap.size,0,none⟩),.pointer (some ⟨w.heap.size+1,0,none⟩),ptP x,undef,undef,.pointer (some ⟨o,0,none⟩),.func (.func 88) #[.pointer (some ⟨o,0,none⟩)] #[],ptP x,undef,undef,undef,undef,undef,undef,undef,undef,undef,undef,undef,undef,undef],defers:=[] }) ?assign ?body ?done ?stop
 ·intro c S S' pre A B ⟨⟨hc,hg,p,x,e,h1,h2,hr⟩,hn,hs⟩ k e1 e2 e3
  have hsz2:=hg.sz
  have hrl:=Z1 hr
  refine⟨⟨hc,Zdz k hg (by omega) (fun i q=>by have:=(hs i q.1).resolve_left q.2;omega),p,x,e,h1,h2,k.cells hr (fun q=>hn q.1)⟩,fun e=>?_,fun i e=>?_⟩
  ·rcases e2 _ e with q | q
   ·exact hn q
   ·omega
  ·rcases e2 _ e with q | q
   ·exact hs i q
   ·exact .inr (by omega)
 case assign =>
  intro r x A K hK
  simp only[mkB] at hK
  gi_wp2
  exact hK
 case body =>
  intro r S pre x bx A hi hsub hex hnb hbl hnc hcx hpre
  have hx:x∈l:=hpre.subset (by simp)
  have hok:=(H.out.nw hi.nw).ok x hx
  have HFi:=hD0 (fun w1 (g:Nw A w1)=>Zba x.h.t x.h.r x.h.W id (hpV x) x.h.q w1 hok.len (hok.rd.nw g))
  unfold Un hpV at HFi
  obtain⟨b0,b1,b2,b3,b4,hv,_⟩:=Zcr x.h.q id
  rw[hv] at HFi
  obtain⟨yb,hyb⟩:∃yb,(Va x.h.q id).isSome=yb:=⟨_,rfl⟩
  rw[hyb] at HFi
  have c0:=hok.c0
  have c1:=hok.c1
  have c2:=hok.c2
  have c3:=hok.c3
  have cb:=hi.box
  have hxl:=hok.lt
  obtain⟨u0,u1,u2,u3,hres⟩:=hi.res
  have hrl:=Z1 hres
  have hwA:=hi.nw.sz
  have HI:=hD0 (aI0 hi (aI0 hsub (aI0 hex (aI0 hnc (aI0 hpre (aI0 hyb hres))))))
  have hwz:W0.heap.size=w.heap.size+2:=hsz
  clear hi hsub hex hnc hpre hyb hok hv hnb hbl hcx hx hres hseq hA0
  gi_wp2_with fail
  obtain⟨⟨xt,xr,xW,xq⟩,xp,xa,xc⟩:=x
  simp only at c0 c1 c2 c3 HFi hxl
  obtain⟨ql,hql⟩:∃ql,xq.length=ql:=⟨_,rfl⟩
  have HQl:=hD0 hql
  rw[hql] at HFi c2
  clear hql
  refine Z88 (S:=fun y=>Nw A y) (by kernel_rfl) (by kernel_rfl) ?_
  change wpAnyH _ _ _ _ _ 11 #[false,false,false,false,false,false,false,false,false,false,false] _ A.drew
  have hS0:Nw A A.drew:=(Nw.refl A).dr
  obtain⟨y,hy⟩:∃y,A.drew=y:=⟨_,rfl⟩
  rw[hy] at hS0 ⊢
  clear hy
  refine wpAnyH_take (i:=0) (v:=.pointer (some ⟨xp,0,none⟩)) rfl (by kernel_rfl) (by kernel_rfl) (by kernel_rfl) (fun c a w h=>h) (.inl ⟨rfl,fun w hw=>by have q0:=hw.kp c0;have q1:=hw.kp c1;have q2:=hw.kp c2;have q3:=hw.kp c3;have q4:=hw.kp cb;go_simp⟩) hS0 ?_
  simp only[Act.put,List.getElem_toArray,List.getElem_cons_zero,List.setIfInBounds_toArray,List.set_cons_zero,List.set_cons_succ]
  refine wpAnyH_take (i:=1) (v:=.pointer (some ⟨xp,0,none⟩)) rfl (by kernel_rfl) (by kernel_rfl) (by kernel_rfl) (fun c a w h=>h) (.inl ⟨rfl,fun w hw=>by have q0:=hw.kp c0;have q1:=hw.kp c1;have q2:=hw.kp c2;have q3:=hw.kp c3;have q4:=hw.kp cb;go_simp⟩) hS0 ?_
  simp only[Act.put,List.getElem_toArray,List.getElem_cons_zero,List.getElem_cons_succ,List.setIfInBounds_toArray,List.set_cons_zero,List.set_cons_succ]
  refine wpAnyH_take (i:=2) (v:=.agg #[.int .i64 xt,.int .i64 xr,.slice xa ql xc,.int .i64 xW]) rfl (by kernel_rfl) (by kernel_rfl) (by kernel_rfl) (fun c a w h=>h) (.inl ⟨rfl,fun w hw=>by have q0:=hw.kp c0;have q1:=hw.kp c1;have q2:=hw.kp c2;have q3:=hw.kp c3;have q4:=hw.kp cb;go_simp⟩) hS0 ?_
  simp only[Act.put,List.getElem_toArray,List.getElem_cons_zero,List.getElem_cons_succ,List.setIfInBounds_toArray,List.set_cons_zero,List.set_cons_succ]
  refine wpAnyH_take (i:=3) (v:=.int .i64 id) rfl (by kernel_rfl) (by kernel_rfl) (by kernel_rfl) (fun c a w h=>h) (.inl ⟨rfl,fun w hw=>by have q0:=hw.kp c0;have q1:=hw.kp c1;have q2:=hw.kp c2;have q3:=hw.kp c3;have q4:=hw.kp cb;go_simp⟩) hS0 ?_
  simp only[Act.put,List.getElem_toArray,List.getElem_cons_zero,List.getElem_cons_succ,List.setIfInBounds_toArray,List.set_cons_zero,List.set_cons_succ]
  refine Zrp (i:=4) (j:=8) (by kernel_rfl) rfl rfl (fun K hK=>?_) (fun K hK=>?_)
  ·rw[if_pos (by rfl)]
   simp only[List.getElem_toArray,List.getElem_cons_zero,List.getElem_cons_succ]
   go_simp
   refine(HFi.out _ hS0).mono ?_
   rintro e z ⟨rfl,gz⟩
   have hz:=hS0.trans gz
   refine hK _ _ hz ?_
   clear hK K
   refine wpAnyH_take (i:=5) (v:=.tuple #[.agg #[.int .i64 b0,.int .i64 b1,.int .i64 b2,.int .i64 b3,.int .i64 b4],.bool yb]) rfl (by kernel_rfl) (by kernel_rfl) (by kernel_rfl) (fun c a w h=>h) (.inl ⟨rfl,fun w hw=>by go_simp⟩) hz ?_
   simp only[Act.put,List.getElem_toArray,List.getElem_cons_zero,List.getElem_cons_succ,List.setIfInBounds_toArray,List.set_cons_zero,List.set_cons_succ]
   refine wpAnyH_take (i:=6) (v:=.agg #[.int .i64 b0,.int .i64 b1,.int .i64 b2,.int .i64 b3,.int .i64 b4]) rfl (by kernel_rfl) (by kernel_rfl) (by kernel_rfl) (fun c a w h=>h) (.inl ⟨rfl,fun w hw=>by go_simp⟩) hz ?_
   simp only[Act.put,List.getElem_toArray,List.getElem_cons_zero,List.getElem_cons_succ,List.setIfInBounds_toArray,List.set_cons_zero,List.set_cons_succ]
   refine wpAnyH_take (i:=7) (v:=.bool yb) rfl (by kernel_rfl) (by kernel_rfl) (by kernel_rfl) (fun c a w h=>h) (.inl ⟨rfl,fun w hw=>by go_simp⟩) hz ?_
   simp only[Act.put,List.getElem_toArray,List.getElem_cons_zero,List.getElem_cons_succ,List.setIfInBounds_toArray,List.set_cons_zero,List.set_cons_succ]
   refine Zlw (i:=8) (by kernel_rfl) rfl (fun K hK=>?_)
   rw[if_pos (by rfl)]
   simp only[List.getElem_toArray,List.getElem_cons_zero,List.getElem_cons_succ]
   go_simp
   have hal:=Z2 z (.cells #[.int .i64 0,.int .i64 0,.int .i64 0,.int .i64 0,.int .i64 0] 43)
   have hz2:Nw A (z.alloc (.cells #[.int .i64 0,.int .i64 0,.int .i64 0,.int .i64 0,.int .i64 0] 43)):=hz.alloc _
   refine hK _ _ hz2 ?_
   clear hK K
   have hzl:A.heap.size≤z.heap.size:=hz.sz
   generalize z.heap.size=nb at *
   generalize z.alloc (.cells #[.int .i64 0,.int .i64 0,.int .i64 0,.int .i64 0,.int .i64 0] 43)=z2 at *
   have n0:=Z0 (j:=0) hal
   have n1:=Z0 (j:=1) hal
   have n2:=Z0 (j:=2) hal
   have n3:=Z0 (j:=3) hal
   have n4:=Z0 (j:=4) hal
   have nz:=fun j=>hfz (j:=j) hal
   have nl:=Z1 hal
   refine Zlw (i:=9) (by kernel_rfl) rfl (fun K hK=>?_)
   rw[if_pos (by rfl)]
   simp only[List.getElem_toArray,List.getElem_cons_zero,List.getElem_cons_succ]
   go_simp
   have hz3:Nw A (((((z2.setCell ⟨nb,0,none⟩ (.int .i64 b0)).setCell ⟨nb,1,none⟩ (.int .i64 b1)).setCell ⟨nb,2,none⟩ (.int .i64 b2)).setCell ⟨nb,3,none⟩ (.int .i64 b3)).setCell ⟨nb,4,none⟩ (.int .i64 b4)):=((((hz2.st (p:=⟨nb,0,none⟩) hzl _).st (p:=⟨nb,1,none⟩) hzl _).st (p:=⟨nb,2,none⟩) hzl _).st (p:=⟨nb,3,none⟩) hzl _).st (p:=⟨nb,4,none⟩) hzl _
   refine hK _ _ hz3 ?_
   clear hK K n0 n1 n2 n3 n4 nz nl hal
   generalize (((((z2.setCell ⟨nb,0,none⟩ (.int .i64 b0)).setCell ⟨nb,1,none⟩ (.int .i64 b1)).setCell ⟨nb,2,none⟩ (.int .i64 b2)).setCell ⟨nb,3,none⟩ (.int .i64 b3)).setCell ⟨nb,4,none⟩ (.int .i64 b4))=z3 at *
   refine wpAnyH_take (i:=10) (v:=.bool yb) rfl (by kernel_rfl) (by kernel_rfl) (by kernel_rfl) (fun c a w h=>h) (.inl ⟨rfl,fun w hw=>by go_simp⟩) hz3 ?_
   simp only[Act.put,List.getElem_toArray,List.getElem_cons_zero,List.getElem_cons_succ,List.setIfInBounds_toArray,List.set_cons_zero,List.set_cons_succ]
   refine wpAnyH_done (by kernel_rfl) ?_ _
   have HZ:=hD0 hz3
   have k0:=HZ.out.kp c0
   have k1:=HZ.out.kp c1
   have k2:=HZ.out.kp c2
   have k3:=HZ.out.kp c3
   have hr:=HZ.out.at' HI.out.2.2.2.2.2.2
   have r0:=Z0 (j:=0) hr
   have r1:=Z0 (j:=1) hr
   have r2:=Z0 (j:=2) hr
   have r3:=Z0 (j:=3) hr
   have rz:=fun j=>hfz (j:=j) hr
   have hzl:=HZ.out.sz
   clear hr
   change (NOr _ .normal _ _)
   unfold NOr
   cases yb
   ·gi_wp2
    exact⟨fun k hk=>HZ.out.block k (Z1 (HI.out.2.2.2.1 k hk).2.choose_spec.1),Vn.tch (Z3.nw (S:=fun _=>False) HZ.out) (fun k e=>⟨HI.out.2.2.1 k e,fun q=>q⟩),(Zjs HI.out.1 HZ.out HI.out.2.2.1 HI.out.2.2.2.2.2.1)⟩
   ·gi_wp2
    exact Zdo (x:=⟨⟨xt,xr,xW,xq⟩,xp,xa,xc⟩) HI.out.1 HZ.out HI.out.2.2.1 (fun k hk=>(HI.out.2.2.2.1 k hk).2) HI.out.2.2.2.2.2.1 ⟨rfl,rfl,rfl,rfl,rfl,HQl.out⟩ (HI.out.2.2.2.2.2.2)
  ·rw[if_pos (by rfl)]
   simp only[List.getElem_toArray,List.getElem_cons_zero,List.getElem_cons_succ]
   go_simp
   have hal0:=Z2 y (.cells #[.int .i64 0,.int .i64 0,.int .i64 0,.int .i64 0,.int .i64 0] 43)
   have hz1:Nw A (y.alloc (.cells #[.int .i64 0,.int .i64 0,.int .i64 0,.int .i64 0,.int .i64 0] 43)):=hS0.alloc _
   refine hK _ _ hz1 ?_
   clear hK K
   have hzl:A.heap.size≤y.heap.size:=hS0.sz
   generalize y.heap.size=nb at *
   generalize y.alloc (.cells #[.int .i64 0,.int .i64 0,.int .i64 0,.int .i64 0,.int .i64 0] 43)=z1 at *
   refine Zlw (i:=4) (by kernel_rfl) rfl (fun K hK=>?_)
   rw[if_pos (by rfl)]
   simp only[List.getElem_toArray,List.getElem_cons_zero,List.getElem_cons_succ]
   go_simp
   refine(HFi.out _ hz1).mono ?_
   rintro e z2 ⟨rfl,gz⟩
   have hz2:=hz1.trans gz
   have hal:=gz.at' hal0
   refine hK _ _ hz2 ?_
   clear hK K hal0 gz
   refine wpAnyH_take (i:=5) (v:=.tuple #[.agg #[.int .i64 b0,.int .i64 b1,.int .i64 b2,.int .i64 b3,.int .i64 b4],.bool yb]) rfl (by kernel_rfl) (by kernel_rfl) (by kernel_rfl) (fun c a w h=>h) (.inl ⟨rfl,fun w hw=>by go_simp⟩) hz2 ?_
   simp only[Act.put,List.getElem_toArray,List.getElem_cons_zero,List.getElem_cons_succ,List.setIfInBounds_toArray,List.set_cons_zero,List.set_cons_succ]
   refine wpAnyH_take (i:=6) (v:=.agg #[.int .i64 b0,.int .i64 b1,.int .i64 b2,.int .i64 b3,.int .i64 b4]) rfl (by kernel_rfl) (by kernel_rfl) (by kernel_rfl) (fun c a w h=>h) (.inl ⟨rfl,fun w hw=>by go_simp⟩) hz2 ?_
   simp only[Act.put,List.getElem_toArray,List.getElem_cons_zero,List.getElem_cons_succ,List.setIfInBounds_toArray,List.set_cons_zero,List.set_cons_succ]
   refine wpAnyH_take (i:=7) (v:=.bool yb) rfl (by kernel_rfl) (by kernel_rfl) (by kernel_rfl) (fun c a w h=>h) (.inl ⟨rfl,fun w hw=>by go_simp⟩) hz2 ?_
   simp only[Act.put,List.getElem_toArray,List.getElem_cons_zero,List.getElem_cons_succ,List.setIfInBounds_toArray,List.set_cons_zero,List.set_cons_succ]
   have n0:=Z0 (j:=0) hal
   have n1:=Z0 (j:=1) hal
   have n2:=Z0 (j:=2) hal
   have n3:=Z0 (j:=3) hal
   have n4:=Z0 (j:=4) hal
   have nz:=fun j=>hfz (j:=j) hal
   have nl:=Z1 hal
   refine Zlw (i:=9) (by kernel_rfl) rfl (fun K hK=>?_)
   rw[if_pos (by rfl)]
   simp only[List.getElem_toArray,List.getElem_cons_zero,List.getElem_cons_succ]
   go_simp
   have hz3:Nw A (((((z2.setCell ⟨nb,0,none⟩ (.int .i64 b0)).setCell ⟨nb,1,none⟩ (.int .i64 b1)).setCell ⟨nb,2,none⟩ (.int .i64 b2)).setCell ⟨nb,3,none⟩ (.int .i64 b3)).setCell ⟨nb,4,none⟩ (.int .i64 b4)):=((((hz2.st (p:=⟨nb,0,none⟩) hzl _).st (p:=⟨nb,1,none⟩) hzl _).st (p:=⟨nb,2,none⟩) hzl _).st (p:=⟨nb,3,none⟩) hzl _).st (p:=⟨nb,4,none⟩) hzl _
   refine hK _ _ hz3 ?_
   clear hK K n0 n1 n2 n3 n4 nz nl hal
   generalize (((((z2.setCell ⟨nb,0,none⟩ (.int .i64 b0)).setCell ⟨nb,1,none⟩ (.int .i64 b1)).setCell ⟨nb,2,none⟩ (.int .i64 b2)).setCell ⟨nb,3,none⟩ (.int .i64 b3)).setCell ⟨nb,4,none⟩ (.int .i64 b4))=z3 at *
   refine wpAnyH_take (i:=10) (v:=.bool yb) rfl (by kernel_rfl) (by kernel_rfl) (by kernel_rfl) (fun c a w h=>h) (.inl ⟨rfl,fun w hw=>by go_simp⟩) hz3 ?_
   simp only[Act.put,List.getElem_toArray,List.getElem_cons_zero,List.getElem_cons_succ,List.setIfInBounds_toArray,List.set_cons_zero,List.set_cons_succ]
   refine wpAnyH_done (by kernel_rfl) ?_ _
   have HZ:=hD0 hz3
   have k0:=HZ.out.kp c0
   have k1:=HZ.out.kp c1
   have k2:=HZ.out.kp c2
   have k3:=HZ.out.kp c3
   have hr:=HZ.out.at' HI.out.2.2.2.2.2.2
   have r0:=Z0 (j:=0) hr
   have r1:=Z0 (j:=1) hr
   have r2:=Z0 (j:=2) hr
   have r3:=Z0 (j:=3) hr
   have rz:=fun j=>hfz (j:=j) hr
   have hzl:=HZ.out.sz
   clear hr
   change (NOr _ .normal _ _)
   unfold NOr
   cases yb
   ·gi_wp2
    exact⟨fun k hk=>HZ.out.block k (Z1 (HI.out.2.2.2.1 k hk).2.choose_spec.1),Vn.tch (Z3.nw (S:=fun _=>False) HZ.out) (fun k e=>⟨HI.out.2.2.1 k e,fun q=>q⟩),(Zjs HI.out.1 HZ.out HI.out.2.2.1 HI.out.2.2.2.2.2.1)⟩
   ·gi_wp2
    exact Zdo (x:=⟨⟨xt,xr,xW,xq⟩,xp,xa,xc⟩) HI.out.1 HZ.out HI.out.2.2.1 (fun k hk=>(HI.out.2.2.2.1 k hk).2) HI.out.2.2.2.2.2.1 ⟨rfl,rfl,rfl,rfl,rfl,HQl.out⟩ (HI.out.2.2.2.2.2.2)
 case done =>
  intro D S xs W hD _ hfin hi hK
  subst hfin
  obtain⟨u0,u1,u2,u3,hres⟩:=hi.res
  have r0:=Z0 (j:=0) hres
  have r1:=Z0 (j:=1) hres
  have r2:=Z0 (j:=2) hres
  have r3:=Z0 (j:=3) hres
  have rz:=fun j=>hfz (j:=j) hres
  have rl:=Z1 hres
  have HRes:=hD0 hres
  have HE:Hid (Zb xs id=Zcb∧Nw w W):=hD0 ⟨by unfold Zb;rw[Zkr hi.no];rfl,hi.nw⟩
  have hwl:=hi.nw.sz
  clear hseq hA0 hi hres
  gi_wp2
  have hn4:Nw w ((((W.setCell ⟨w.heap.size+1,0,none⟩ (.int .i64 0)).setCell ⟨w.heap.size+1,1,none⟩ (.int .i64 0)).setCell ⟨w.heap.size+1,2,none⟩ (.slice none 0 0)).setCell ⟨w.heap.size+1,3,none⟩ (.int .i64 0)):=(((HE.out.2.st (p:=⟨w.heap.size+1,0,none⟩) (Nat.le_succ _) _).st (p:=⟨w.heap.size+1,1,none⟩) (Nat.le_succ _) _).st (p:=⟨w.heap.size+1,2,none⟩) (Nat.le_succ _) _).st (p:=⟨w.heap.size+1,3,none⟩) (Nat.le_succ _) _
  have hr4:((((W.setCell ⟨w.heap.size+1,0,none⟩ (.int .i64 0)).setCell ⟨w.heap.size+1,1,none⟩ (.int .i64 0)).setCell ⟨w.heap.size+1,2,none⟩ (.slice none 0 0)).setCell ⟨w.heap.size+1,3,none⟩ (.int .i64 0)).heap[w.heap.size+1]?=some (.cells #[.int .i64 0,.int .i64 0,.slice none 0 0,.int .i64 0] 83 (0,0)):=by
   have:=Vq (j:=3) (.int .i64 0) (Vq (j:=2) (.slice none 0 0) (Vq (j:=1) (.int .i64 0) (Vq (j:=0) (.int .i64 0) HRes.out)))
   rw[this];rfl
  have hK4:((((W.setCell ⟨w.heap.size+1,0,none⟩ (.int .i64 0)).setCell ⟨w.heap.size+1,1,none⟩ (.int .i64 0)).setCell ⟨w.heap.size+1,2,none⟩ (.slice none 0 0)).setCell ⟨w.heap.size+1,3,none⟩ (.int .i64 0)).heap[D]?=some (.deferred (some [])):=by
   have hne:D≠w.heap.size+1:=by omega
   rw[Below.heap_setCell _ _ _ _ hne,Below.heap_setCell _ _ _ _ hne,Below.heap_setCell _ _ _ _ hne,Below.heap_setCell _ _ _ _ hne]
   exact hK
  have HW:=hD0 (show hpH (Zb xs id)=.agg #[.int .i64 0,.int .i64 0,.slice none 0 0,.int .i64 0] by rw[HE.out.1];rfl)
  clear r0 r1 r2 r3 rz hK
  have hDl:=Z1 hK4
  have HK:=hD0 (run_takeDeferred (P:=prog) hK4)
  have hrf:(((((W.setCell ⟨w.heap.size+1,0,none⟩ (.int .i64 0)).setCell ⟨w.heap.size+1,1,none⟩ (.int .i64 0)).setCell ⟨w.heap.size+1,2,none⟩ (.slice none 0 0)).setCell ⟨w.heap.size+1,3,none⟩ (.int .i64 0)).putObj D (.deferred none)).heap[w.heap.size+1]?=some (.cells #[.int .i64 0,.int .i64 0,.slice none 0 0,.int .i64 0] 83 (0,0)):=(World.putObj_heap_other (by omega)).trans hr4
  have HN:Hid (Nw w (((((W.setCell ⟨w.heap.size+1,0,none⟩ (.int .i64 0)).setCell ⟨w.heap.size+1,1,none⟩ (.int .i64 0)).setCell ⟨w.heap.size+1,2,none⟩ (.slice none 0 0)).setCell ⟨w.heap.size+1,3,none⟩ (.int .i64 0)).putObj D (.deferred none))):=hD0 (Zdz (Vj.put (n₀:=D) (S:=fun _=>False) _ (.inl rfl) hK4 rfl) hn4 (by omega) (fun _ e=>e.elim))
  refine⟨by simp,.inl ⟨_,_,rfl,HK.out,?_⟩⟩
  generalize ((((W.setCell ⟨w.heap.size+1,0,none⟩ (.int .i64 0)).setCell ⟨w.heap.size+1,1,none⟩ (.int .i64 0)).setCell ⟨w.heap.size+1,2,none⟩ (.slice none 0 0)).setCell ⟨w.heap.size+1,3,none⟩ (.int .i64 0)).putObj D (.deferred none)=W5 at *
  have z0:=Z0 (j:=0) hrf
  have z1:=Z0 (j:=1) hrf
  have z2:=Z0 (j:=2) hrf
  have z3:=Z0 (j:=3) hrf
  rw[HW.out]
  clear HK
  exact⟨_,(by simp[results,results57,go_sem, *]:_=_),rfl,HN.out⟩
 case stop =>
  intro D c S pre W hD hpre hx hK
  obtain⟨⟨rfl,hg,p,x,rfl,h1,h2,hr⟩,_⟩:=hx
  have HE:=hD0 (aI0 (Zgx hpre h1 h2) hg)
  have r0:=Z0 (j:=0) hr
  have r1:=Z0 (j:=1) hr
  have r2:=Z0 (j:=2) hr
  have r3:=Z0 (j:=3) hr
  have rl:=Z1 hr
  have hwl:=hg.sz
  have HRes:=hD0 hr
  clear hseq hA0 hg hr h1 h2 hpre
  gi_wp2
  have HW:=hD0 (show hpH (Zb l id)=.agg #[.int .i64 x.h.t,.int .i64 x.h.r,.slice x.a x.h.q.length x.c,.int .i64 x.h.W] by unfold Zb;rw[HE.out.1];rfl)
  clear r0 r1 r2 r3
  have hDl:=Z1 hK
  have HK:=hD0 (run_takeDeferred (P:=prog) hK)
  have hrf:(W.putObj D (.deferred none)).heap[w.heap.size+1]?=some (.cells #[.int .i64 x.h.t,.int .i64 x.h.r,.slice x.a x.h.q.length x.c,.int .i64 x.h.W] 83 (0,0)):=(World.putObj_heap_other (by omega)).trans HRes.out
  have HN:Hid (Nw w (W.putObj D (.deferred none))):=hD0 (Zdz (Vj.put (n₀:=D) (S:=fun _=>False) _ (.inl rfl) hK rfl) HE.out.2 (by omega) (fun _ e=>e.elim))
  refine⟨by simp,.inl ⟨_,_,rfl,HK.out,?_⟩⟩
  generalize W.putObj D (.deferred none)=W5 at *
  have z0:=Z0 (j:=0) hrf
  have z1:=Z0 (j:=1) hrf
  have z2:=Z0 (j:=2) hrf
  have z3:=Z0 (j:=3) hrf
  rw[HW.out]
  clear HK
  exact⟨_,(by simp[results,results57,go_sem, *]:_=_),rfl,HN.out⟩
end
structure Z22(c:Int→Int→Int)(M:Int→Prop):Prop where
 tr:∀x y z,M x→M y→M z→c x y<0→c y z<0→c x z<0
 tot:∀x y,M x→M y→x≠y→c x y<0∨c y x<0
 asym:∀x y,M x→M y→c x y<0→¬c y x<0
abbrev Sd(c:Int→Int→Int)(l:List Int):Prop:=l.Pairwise fun x y=>c x y<0
theorem Z6z(U V Z:List Int)(x y:Int)(p q:Nat)(hp:p=U.length)(hq:q=U.length+1+V.length):((U++x::(V++y::Z)).set p y).set q x=U++y::(V++x::Z):=by
 subst hp hq
 rw[List.set_append_right _ _ (Nat.le_refl _),Nat.sub_self,List.set_cons_zero,List.set_append_right _ _ (by omega),show U.length+1+V.length-U.length=V.length+1 by omega,List.set_cons_succ,
  List.set_append_right _ _ (Nat.le_refl _),Nat.sub_self,List.set_cons_zero]
theorem Z05(U:List Int)(x:Int)(Z:List Int)(p:Nat)(hp:p=U.length):(U++x::Z).getD p 0=x:=by subst hp;simp[List.getD]
theorem Z1x(U V Z:List Int)(x y:Int)(q:Nat)(hq:q=U.length+1+V.length):(U++x::(V++y::Z)).getD q 0=y:=by
 have e:U++x::(V++y::Z)=(U++x::V)++y::Z:=by simp
 rw[e]
 exact Z05 _ _ _ _ (by simp;omega)
theorem Zae(U V:List Int)(i:Nat):(U++V).getD (U.length+i) 0=V.getD i 0:=by simp[List.getD,List.getElem?_append_right]
theorem Z8c(U V:List Int)(i:Nat)(h:i<U.length):(U++V).getD i 0=U.getD i 0:=by simp[List.getD,List.getElem?_append_left h]
theorem Zc2(X:List Int)(i:Nat)(h:i<X.length):X=X.take i++X.getD i 0::X.drop (i+1):=by
 have e:X.getD i 0=X[i]:=by simp[List.getD,h]
 rw[e,List.getElem_cons_drop,List.take_append_drop]
def Z64(P X R Y Q:List Int)(i:Nat):List Int:=P++Y.take i++X.drop i++R++X.take i++Y.drop i++Q
theorem Zf8(P X R Y Q:List Int):Z64 P X R Y Q 0=P++X++R++Y++Q:=by simp[Z64]
theorem Zj8(P X R Y Q:List Int)(h:X.length=Y.length):Z64 P X R Y Q X.length=P++Y++R++X++Q:=by
 unfold Z64
 rw[List.drop_length,List.take_length,h,List.take_length,List.drop_length]
 simp
theorem Zf7(P X R Y Q:List Int)(h:X.length=Y.length)(i:Nat)(hi:i<X.length) :
  ∃x y U V Z,Z64 P X R Y Q i=U++x::(V++y::Z)∧Z64 P X R Y Q (i+1)=U++y::(V++x::Z)∧U.length=P.length+i∧U.length+1+V.length=P.length+X.length+R.length+i:=by
 have hy:i<Y.length:=by omega
 obtain⟨x,hx⟩:∃x,X[i]=x:=⟨_,rfl⟩
 obtain⟨y,hyy⟩:∃y,Y[i]=y:=⟨_,rfl⟩
 have d1:X.drop i=x::X.drop (i+1):=by rw[←hx];exact(List.getElem_cons_drop hi).symm
 have d2:Y.drop i=y::Y.drop (i+1):=by rw[←hyy];exact(List.getElem_cons_drop hy).symm
 have t1:X.take (i+1)=X.take i++[x]:=by rw[←hx];exact List.take_succ_eq_append_getElem hi
 have t2:Y.take (i+1)=Y.take i++[y]:=by rw[←hyy];exact List.take_succ_eq_append_getElem hy
 refine⟨x,y,P++Y.take i,X.drop (i+1)++R++X.take i,Y.drop (i+1)++Q,?_,?_,?_,?_⟩
 ·unfold Z64;rw[d1,d2];simp
 ·unfold Z64;rw[t1,t2];simp
 ·simp;omega
 ·simp;omega
theorem Z6y{c:Int→Int→Int}{l m:List Int}(h1:Sd c l)(h2:Sd c m)(h:∀x∈l,∀y∈m,c x y<0):Sd c (l++m):=List.pairwise_append.2 ⟨h1,h2,h⟩
theorem Zaf{c:Int→Int→Int}{l:List Int}(h:Sd c l){i j:Nat}(hij:i<j)(hj:j<l.length):c (l.getD i 0) (l.getD j 0)<0:=by
 have:=List.pairwise_iff_getElem.1 h i j (Nat.lt_trans hij hj) hj hij
 simpa [List.getD,hj,Nat.lt_trans hij hj] using this
theorem Z6x{l:List Int}{x:Int}(h:x∈l):∃i,i<l.length∧l.getD i 0=x:=by
 obtain⟨i,hi,e⟩:=List.getElem_of_mem h
 exact⟨i,hi,by simp[List.getD,hi,e]⟩
theorem Zg{l:List Int}{j:Nat}(h:j<l.length):l.getD j 0∈l:=by
 have:l.getD j 0=l[j]:=by simp[List.getD,h]
 rw[this]
 exact gM0 h
theorem Z2l{c:Int→Int→Int}{M:Int→Prop}(o:Z22 c M){l m:List Int}(hl:∀x∈l,M x)(hm:∀x∈m,M x)(h1:Sd c l)(h2:Sd c m)(h:0<l.length→0<m.length→c (l.getD (l.length-1) 0) (m.getD 0 0)<0):∀x∈l,∀y∈m,c x y<0:=by
 intro x hx y hy
 obtain⟨i,hi,rfl⟩:=Z6x hx
 obtain⟨j,hj,rfl⟩:=Z6x hy
 have h0:=h (by omega) (by omega)
 have a:c (l.getD i 0) (m.getD 0 0)<0:=by
  by_cases e:i=l.length-1
  ·rw[e];exact h0
  ·exact o.tr _ _ _ (hl _ hx) (hl _ (Zg (by omega))) (hm _ (Zg (by omega))) (Zaf h1 (by omega:i<l.length-1) (by omega)) h0
 by_cases e:j=0
 ·rw[e];exact a
 ·exact o.tr _ _ _ (hl _ hx) (hm _ (Zg (by omega))) (hm _ hy) a (Zaf h2 (by omega:0<j) hj)
theorem Z0l(B:List Int)(k:Nat)(h0:0<k)(h:k≤B.length):(B.take k).getD ((B.take k).length-1) 0=B.getD (k-1) 0:=by
 have:(B.take k).length=k:=by simp;omega
 rw[this]
 simp[List.getD,show k-1<k by omega]
theorem Uk(B:List Int)(k:Nat):(B.drop k).getD 0 0=B.getD k 0:=by simp[List.getD]
theorem Ug{B:List Int}{M:Int→Prop}(h:∀x∈B,M x)(k:Nat):∀x∈B.take k,M x:=fun x hx=>h x (List.mem_of_mem_take hx)
theorem Uf{B:List Int}{M:Int→Prop}(h:∀x∈B,M x)(k:Nat):∀x∈B.drop k,M x:=fun x hx=>h x (List.mem_of_mem_drop hx)
theorem Z0k{c:Int→Int→Int}{B:List Int}(h:Sd c B)(k:Nat):Sd c (B.take k):=List.Pairwise.sublist (List.take_sublist k B) h
theorem Z0j{c:Int→Int→Int}{B:List Int}(h:Sd c B)(k:Nat):Sd c (B.drop k):=List.Pairwise.sublist (List.drop_sublist k B) h
theorem Z6w{c:Int→Int→Int}{M:Int→Prop}(o:Z22 c M){B:List Int}{x:Int}(hB:∀y∈B,M y)(hx:M x)(h:Sd c B)(k:Nat)(hk:k≤B.length)(h1:0<k→c (B.getD (k-1) 0) x<0)(h2:k<B.length→c x (B.getD k 0)<0):Sd c (B.take k++x::B.drop k):=by
 have a1:∀y∈B.take k,∀z∈[x],c y z<0:=Z2l o (Ug hB k) (by intro z hz;simp at hz;rw[hz];exact hx) (Z0k h k) (by simp[Sd]) (fun q _=>by
  have:0<k:=by
   rcases Nat.eq_zero_or_pos k with e | e
   ·subst e
    simp at q
   ·exact e
  rw[Z0l B k this hk]
  exact h1 this)
 have a2:∀y∈[x],∀z∈B.drop k,c y z<0:=Z2l o (by intro z hz;simp at hz;rw[hz];exact hx) (Uf hB k) (by simp[Sd]) (Z0j h k) (fun _ q=>by
  rw[Uk]
  exact h2 (by simp at q;omega))
 have a3:∀y∈B.take k,∀z∈B.drop k,c y z<0:=fun y hy z hz=>o.tr _ _ _ (Ug hB k y hy) hx (Uf hB k z hz) (a1 y hy x (by simp)) (a2 x (by simp) z hz)
 refine Z6y (Z0k h k) (List.pairwise_cons.2 ⟨fun z hz=>a2 x (by simp) z hz,Z0j h k⟩) fun y hy z hz=>?_
 rcases List.mem_cons.1 hz with rfl | hz
 ·exact a1 y hy _ (by simp)
 ·exact a3 y hy z hz
theorem Z2m(B:List Int)(x:Int)(k:Nat):(B.take k++x::B.drop k).Perm (x::B):=by
 refine List.perm_middle.trans ?_
 rw[List.take_append_drop]
theorem Zf3{c:Int→Int→Int}{M:Int→Prop}(o:Z22 c M){A B A1 A2 B1 B2 M1 M2:List Int}(hA:Sd c A)(hB:Sd c B)(mA:∀x∈A,M x)(mB:∀x∈B,M x)
  (eA:A=A1++A2) (eB:B=B1++B2) (q1:0<A1.length→0<B2.length→c (A1.getD (A1.length-1) 0) (B2.getD 0 0)<0) (q2:0<B1.length→0<A2.length→c (B1.getD (B1.length-1) 0) (A2.getD 0 0)<0)
  (s1:Sd c M1) (s2:Sd c M2) (p1:M1.Perm (A1++B1)) (p2:M2.Perm (A2++B2)):Sd c (M1++M2)∧(M1++M2).Perm (A++B):=by
 subst eA eB
 obtain⟨a1,a2,a3⟩:=List.pairwise_append.1 hA
 obtain⟨b1,b2,b3⟩:=List.pairwise_append.1 hB
 have mA1:∀x∈A1,M x:=fun x hx=>mA x (List.mem_append_left _ hx)
 have mA2:∀x∈A2,M x:=fun x hx=>mA x (List.mem_append_right _ hx)
 have mB1:∀x∈B1,M x:=fun x hx=>mB x (List.mem_append_left _ hx)
 have mB2:∀x∈B2,M x:=fun x hx=>mB x (List.mem_append_right _ hx)
 have x1:=Z2l o mA1 mB2 a1 b2 q1
 have x2:=Z2l o mB1 mA2 b1 a2 q2
 refine⟨Z6y s1 s2 fun x hx y hy=>?_,?_⟩
 ·rcases List.mem_append.1 (p1.mem_iff.1 hx)with hx | hx<;>rcases List.mem_append.1 (p2.mem_iff.1 hy)with hy | hy
  ·exact a3 x hx y hy
  ·exact x1 x hx y hy
  ·exact x2 x hx y hy
  ·exact b3 x hx y hy
 ·refine(p1.append p2).trans ?_
  have e1:(A1++B1)++(A2++B2)=A1++(B1++A2)++B2:=by simp
  have e2:(A1++A2)++(B1++B2)=A1++(A2++B1)++B2:=by simp
  rw[e1,e2]
  exact(List.Perm.append_left A1 List.perm_append_comm).append_right B2
abbrev Y1(w:World)(g cap n:Nat)(l:List Int):Prop:=IS w (.slice (some ⟨g,0,none⟩) n cap) l
theorem Y1.swap{w:World}{g cap n:Nat}{U V Z:List Int}{x y:Int}(h:Y1 w g cap n (U++x::(V++y::Z)))(p q:Nat)(hp:p=U.length)(hq:q=U.length+1+V.length) :
  Y1 ((w.setCell ⟨g,p,none⟩ (.int .i64 y)).setCell ⟨g,q,none⟩ (.int .i64 x)) g cap n (U++y::(V++x::Z)):=by
 have:=IS.set (IS.set h p y) q x
 rwa [Z6z U V Z x y p q hp hq] at this
theorem Z1y(w:World)(g a b:Nat)(va vb:Value):Z3 (fun k=>k=g) w ((w.setCell ⟨g,a,none⟩ va).setCell ⟨g,b,none⟩ vb).drew :=
 Z3.drew (Z3.set (p:=⟨g,b,none⟩) (Z3.set (p:=⟨g,a,none⟩) (Z3.refl (fun k=>k=g) w) (.inl rfl) va) (.inl rfl) vb)
theorem Y1.drew{w:World}{g cap n:Nat}{l:List Int}(h:Y1 w g cap n l):Y1 w.drew g cap n l:=h.nw ((Nw.refl w).drewN 1)
theorem Z3a(f:Value)(gf:Nat)(lb:Array Value)(hf:f=.func (.func gf) #[] lb)(g cap n:Nat)(P X R Y Q:List Int)(w:World)(hn:n≤1000)(h:Y1 w g cap n (P++X++R++Y++Q))(hXY:X.length=Y.length)(a b k:Nat)(ha:a=P.length)(hb:b=P.length+X.length+R.length)(hk:k=X.length) :
  Calls prog 185 #[.slice (some ⟨g,0,none⟩) n cap,.int .i64 a,.int .i64 b,.int .i64 k,f] w fun e w'=>e=.returned (.tuple #[])∧Y1 w' g cap n (P++Y++R++X++Q)∧Z3 (fun k=>k=g) w w':=by
 subst hf
 have H:=hD0 (show Y1 w g cap n (Z64 P X R Y Q 0)by rw[Zf8];exact h)
 have hl:n=P.length+X.length+R.length+Y.length+Q.length:=by
  have:=h.nlen
  simp at this
  omega
 have HL:=hD0 (aI0 hl (aI0 hXY (aI0 ha (aI0 hb hk))))
 have hab:a+k≤b∧b+k≤n:=by omega
 clear h hl hXY ha hb hk
 go_enter func185,ntmps185
 go_wp2
 go_loopw [10] (fun v wr=>∃i:Nat,v=.int .i64 i∧i≤k∧Hid (Y1 wr g cap n (Z64 P X R Y Q i)∧Z3 (fun k=>k=g) w wr)) (fun v _=>k-(intOf v).toNat)
 case atStart=>exact⟨0,rfl,Nat.zero_le _,hD0 ⟨H.out,Z3.refl _ _⟩⟩
 case round =>
  clear H
  obtain⟨i,rfl,hi,HI⟩:=hrel
  by_cases hik:i<k
  ·obtain⟨h1,h2,h3,h4,h5⟩:=HL.out
   obtain⟨x,y,U,V,Z,e1,e2,e3,e4⟩:=Zf7 P X R Y Q h2 i (by omega)
   obtain⟨p1,hp1⟩:∃p1,a+i=p1:=⟨_,rfl⟩
   obtain⟨p2,hp2⟩:∃p2,b+i=p2:=⟨_,rfl⟩
   have wA:IntKind.i64.wrap ((a:Int)+(i:Int))=(p1:Int):=by rw[Yk a i (by omega) (by omega),hp1]
   have wB:IntKind.i64.wrap ((b:Int)+(i:Int))=(p2:Int):=by rw[Yk b i (by omega) (by omega),hp2]
   have hR:=HI.out.1
   rw[e1] at hR
   have hS:=hR.swap p1 p2 (by omega) (by omega)
   have hl2:=hR.nlen
   have c1:=IS.cell hR p1 (by simp;omega)
   have c2:=IS.cell hR p2 (by simp;omega)
   rw[Z05 U x _ p1 (by omega)] at c1
   rw[Z1x U V Z x y p2 (by omega)] at c2
   rw[←e2] at hS
   have HS:=hD0 (aI0 hS HI.out.2)
   have fz:=IS.frozen hR
   have hg:=IS.glt hR
   have ne:¬p1=p2:=by omega
   have ne':¬p2=p1:=by omega
   have b1:(p1:Int)<(n:Int):=by omega
   have b2:(p2:Int)<(n:Int):=by omega
   have b1':p1<n:=by omega
   have b2':p2<n:=by omega
   have hki:(i:Int)<(k:Int):=by omega
   clear h1 h2 h3 h4 h5 e1 e2 e3 e4 hp1 hp2 hR hS hl2 HI
   go_wp2
   go_region
   all_goals
    go_wp2
    go_roundw
    case rel=>exact⟨i+1,by go_num,by omega,hD0 ⟨Y1.drew HS.out.1,HS.out.2.trans (Z1y _ _ _ _ _ _)⟩⟩
    case measure=>simp[intOf];omega
  ·obtain rfl:i=k:=by omega
   have HE:=hD0 (show Y1 wr g cap n (P++Y++R++X++Q) by
    have:=HI.out.1
    rwa [HL.out.2.2.2.2,Zj8 P X R Y Q HL.out.2.1] at this)
   have HT:=hD0 HI.out.2
   clear HI
   go_wp2
   exact bodyPost_end (results_none rfl _ _ _) rfl ⟨rfl,HE.out,HT.out⟩
def Zjx(w:World)(g cap n m:Nat)(T:List Int)(i j:Nat)(wr:World):Prop:=∃P A B Q:List Int,P.length+A.length=m∧A.length=i∧B.length=j∧0<i∧0<j∧P.length+A.length+B.length+Q.length=n∧P++B++A++Q=T∧Y1 wr g cap n (P++A++B++Q)∧Z3 (fun k=>k=g) w wr
theorem Zpj(f:Value)(gf:Nat)(lb:Array Value)(hf:f=.func (.func gf) #[] lb)(g cap n:Nat)(P A B Q:List Int)(w:World)(hn:n≤1000)(h:Y1 w g cap n (P++A++B++Q))(hA:0<A.length)(hB:0<B.length)(a m b:Nat)(ha:a=P.length)(hm:m=P.length+A.length)(hb:b=P.length+A.length+B.length) :
  Calls prog 181 #[.slice (some ⟨g,0,none⟩) n cap,.int .i64 a,.int .i64 m,.int .i64 b,f] w fun e w'=>e=.returned (.tuple #[])∧Y1 w' g cap n (P++B++A++Q)∧Z3 (fun k=>k=g) w w':=by
 subst hf
 obtain⟨T,hT⟩:∃T,P++B++A++Q=T:=⟨_,rfl⟩
 have hl:=h.nlen
 simp at hl
 have H0:=hD0 (show Zjx w g cap n m T A.length B.length w from⟨P,A,B,Q,hm.symm,rfl,rfl,hA,hB,by omega,hT,h,Z3.refl _ _⟩)
 obtain⟨i0,hi0⟩:∃x,A.length=x:=⟨_,rfl⟩
 obtain⟨j0,hj0⟩:∃x,B.length=x:=⟨_,rfl⟩
 rw[hi0,hj0] at H0
 rw[hT]
 have w1:IntKind.i64.wrap ((m:Int)-(a:Int))=(i0:Int):=Zr m a i0 (by omega) (by omega)
 have w2:IntKind.i64.wrap ((b:Int)-(m:Int))=(j0:Int):=Zr b m j0 (by omega) (by omega)
 have hm1:m≤1000:=by omega
 clear h hA hB ha hm hb hl hi0 hj0 hT
 go_enter func181,ntmps181
 go_wp2
 clear w1 w2
 go_loopw [10,11] (fun vi vj wr=>∃i j:Nat,vi=.int .i64 i∧vj=.int .i64 j∧Hid (Zjx w g cap n m T i j wr)) (fun vi vj _=>(intOf vi).toNat+(intOf vj).toNat)
 case atStart=>exact⟨i0,j0,rfl,rfl,H0⟩
 case round =>
  clear H0
  obtain⟨i,j,rfl,rfl,HI⟩:=hrel
  obtain⟨P',A',B',Q',e1,e2,e3,hi,hj,e4,e5,hR,hTc⟩:=HI.out
  obtain⟨p,hp⟩:∃p,m=p+i:=⟨m-i,by omega⟩
  have w3:IntKind.i64.wrap ((m:Int)-(i:Int))=(p:Int):=Zr m i p (by omega) (by omega)
  by_cases hij:i=j
  ·subst hij
   have HS:=hD0 (Z3a (.func (.func gf) #[] lb) gf lb rfl g cap n P' A' [] B' Q' wr hn (by simpa using hR) (by omega) p m i (by omega) (by simp;omega) (by omega))
   have HT:=hD0 hTc
   have HE:=hD0 e5
   clear HI e1 e2 e3 e4 e5 hR hTc hp
   go_wp2_with fail
   refine HS.out.mono ?_
   rintro e w5 ⟨rfl,q1,q2⟩
   have HQ:=hD0 (aI0 q1 q2)
   clear q1 q2
   go_wp2
   refine bodyPost_end (results_none rfl _ _ _) rfl ⟨rfl,?_,HT.out.trans HQ.out.2⟩
   have:=HQ.out.1
   rw[←HE.out]
   simpa using this
  ·have dij:((i:Int)==(j:Int))=false:=by simp;omega
   by_cases hgt:j<i
   ·have dgt:decide ((j:Int)<(i:Int))=true:=by simp;omega
    have w4:IntKind.i64.wrap ((i:Int)-(j:Int))=((i-j:Nat):Int):=Zr i j (i-j) (by omega) (by omega)
    have eA:A'=A'.take j++A'.drop j:=(List.take_append_drop j A').symm
    have e6:P'++B'++A'.take j++A'.drop j++Q'=T:=by rw[List.append_assoc (P'++B') (A'.take j),List.take_append_drop];exact e5
    have lt:(A'.take j).length=j:=by simp;omega
    have ld:(A'.drop j).length=i-j:=by simp;omega
    have HS:=hD0 (Z3a (.func (.func gf) #[] lb) gf lb rfl g cap n P' (A'.take j) (A'.drop j) B' Q' wr hn (by rw[eA] at hR;simpa using hR) (by omega) p m j (by omega) (by omega) (by omega))
    have HN:=hD0 (fun w5 (q1:Y1 w5 g cap n (P'++B'++A'.drop j++A'.take j++Q')) (q2:Z3 (fun k=>k=g) wr w5)=>show Zjx w g cap n m T (i-j) j w5 from
     ⟨P'++B',A'.drop j,A'.take j,Q',by rw[List.length_append,ld];omega,ld,lt,by omega,hj,by rw[List.length_append,ld,lt];omega,e6,q1,hTc.trans q2⟩)
    clear HI e1 e2 e3 e4 e5 hR hTc hp eA lt ld e6
    go_wp2_with fail
    refine HS.out.mono ?_
    rintro e w5 ⟨rfl,q1,q2⟩
    have HQ:=hD0 (HN.out w5 q1 q2)
    clear q1 q2
    go_wp2
    go_roundw
    case rel=>exact⟨i-j,j,by go_num,rfl,HQ⟩
    case measure=>simp[intOf];omega
   ·have dgt:decide ((j:Int)<(i:Int))=false:=by simp;omega
    have w4:IntKind.i64.wrap ((j:Int)-(i:Int))=((j-i:Nat):Int):=Zr j i (j-i) (by omega) (by omega)
    obtain⟨mj,hmj⟩:∃x,m+j=x:=⟨_,rfl⟩
    obtain⟨mk,hmk⟩:∃x,mj=i+x:=⟨mj-i,by omega⟩
    have w5:IntKind.i64.wrap ((m:Int)+(j:Int))=(mj:Int):=by rw[Yk m j (by omega) (by omega),hmj]
    have w6:IntKind.i64.wrap ((mj:Int)-(i:Int))=(mk:Int):=Zr mj i mk (by omega) hmk
    have eB:B'=B'.take (j-i)++B'.drop (j-i):=(List.take_append_drop (j-i) B').symm
    have e6:P'++B'.take (j-i)++B'.drop (j-i)++(A'++Q')=T:=by rw[List.append_assoc P' (B'.take (j-i)),List.take_append_drop,←e5];simp
    have lt:(B'.take (j-i)).length=j-i:=by simp;omega
    have ld:(B'.drop (j-i)).length=i:=by simp;omega
    have HS:=hD0 (Z3a (.func (.func gf) #[] lb) gf lb rfl g cap n P' A' (B'.take (j-i)) (B'.drop (j-i)) Q' wr hn (by rw[eB] at hR;simpa using hR) (by omega) p mk i (by omega) (by omega) (by omega))
    have HN:=hD0 (fun w5 (q1:Y1 w5 g cap n (P'++B'.drop (j-i)++B'.take (j-i)++A'++Q')) (q2:Z3 (fun k=>k=g) wr w5)=>show Zjx w g cap n m T i (j-i) w5 from
     ⟨P',B'.drop (j-i),B'.take (j-i),A'++Q',by omega,ld,lt,hi,by omega,by rw[List.length_append,ld,lt];omega,e6,by simpa using q1,hTc.trans q2⟩)
    clear HI e1 e2 e3 e4 e5 hR hTc hp eB lt ld e6 hmj hmk
    go_wp2_with fail
    refine HS.out.mono ?_
    rintro e w7 ⟨rfl,q1,q2⟩
    have HQ:=hD0 (HN.out w7 q1 q2)
    clear q1 q2
    go_wp2
    go_roundw
    case rel=>exact⟨i,j-i,rfl,by go_num,HQ⟩
    case measure=>simp[intOf];omega
def Z21(w:World)(g cap n:Nat)(c:Int→Int→Int)(P A B Q:List Int)(e:Ending)(w':World):Prop:=e=.returned (.tuple #[])∧∃M,Y1 w' g cap n (P++M++Q)∧M.Perm (A++B)∧Sd c M∧Z3 (fun k=>k=g) w w'
theorem Vf(P A Q:List Int)(a i:Nat)(ha:a=P.length)(h:a≤i)(hi:i<a+A.length):(P++A++Q).getD i 0=A.getD (i-a) 0:=by
 subst ha
 obtain⟨j,rfl⟩:∃j,i=P.length+j:=⟨i-P.length,by omega⟩
 rw[List.append_assoc,Zae,Z8c _ _ _ (by omega)]
 congr 1
 omega
theorem Zmf(f:Value)(c:Int→Int→Int)(M:Int→Prop)(o:Z22 c M)(g cap n:Nat)(P B Q:List Int)(x:Int)(w:World)(hn:n≤1000)(h:Y1 w g cap n (P++x::B++Q))(mB:∀y∈B,M y)(mx:M x)(nB:x∉B)(sB:Sd c B)(hB:0<B.length)(hf:Z0r w f g c M)
  (a m b:Nat) (ha:a=P.length) (hm:m=a+1) (hb:b=m+B.length) :
  Calls prog 173 #[.slice (some ⟨g,0,none⟩) n cap,.int .i64 a,.int .i64 m,.int .i64 b,f] w (Z21 w g cap n c P [x] B Q):=by
 obtain⟨gf,lb,rfl,eg,hT⟩:=hf
 have hl:=h.nlen
 simp at hl
 have H:=hD0 (aI0 h (aI0 mB (aI0 mx (aI0 nB (aI0 sB hT)))))
 have O:=hD0 o
 have w1:IntKind.i64.wrap ((m:Int)-(a:Int))=1:=Zr m a 1 (by omega) (by omega)
 have HM:=hD0 (aI0 ha (aI0 hm hb))
 have hbn:b≤n:=by omega
 have ham:a<m:=by omega
 have hmb:m<b:=by omega
 clear hT h mB mx nB sB o hl hm ha hb hB
 go_enter func173,ntmps173
 go_wp2
 go_loopw [10,11] (fun vi vj wr=>∃i j:Nat,vi=.int .i64 i∧vj=.int .i64 j∧m≤i∧i≤j∧j≤b∧Hid ((m<i→c (B.getD (i-m-1) 0) x<0)∧(j<b→0≤c (B.getD (j-m) 0) x))∧Nw w wr) (fun vi vj _=>(intOf vj).toNat-(intOf vi).toNat)
 case atStart=>exact⟨m,b,rfl,rfl,Nat.le_refl _,by omega,Nat.le_refl _,hD0 ⟨fun q=>by omega,fun q=>by omega⟩,Nw.refl _⟩
 case round =>
  obtain⟨i,j,rfl,rfl,hmi,hij,hjb,HB,hN⟩:=hrel
  by_cases Z1:i<j
  ·have w2:=Yk i j (by omega) (by omega)
   have dlt:decide ((i:Int)<(j:Int))=true:=by rw[decide_eq_true_iff];omega
   obtain⟨t,hh⟩:∃t:Nat,((i:Int)+(j:Int))/2=(t:Int):=⟨(i+j)/2,by omega⟩
   have hf1:i≤t:=by omega
   have hf2:t<j:=by omega
   have w4:=Z2o t (t+1) (by omega) rfl
   go_wp2
   try rw[hh]
   have hi1:((t:Nat):Int)<(n:Int):=by omega
   have hi0:((a:Nat):Int)<(n:Int):=by omega
   have hkn1:t<n:=by omega
   have hkn0:a<n:=by omega
   obtain⟨y,hy⟩:∃y,B.getD (t-m) 0=y:=⟨_,rfl⟩
   have hR:Y1 wr g cap n (P++x::B++Q):=H.out.1.nw hN
   have c1:wr.cell? ⟨g,t,none⟩=some (.int .i64 y):=by
    have:=hR.cell t (by rw[←hR.nlen];exact hkn1)
    rwa [Vf P (x::B) Q a t HM.out.1 (by omega) (by have:=HM.out;simp;omega),show t-a=(t-m)+1 by have:=HM.out;omega,List.getD_cons_succ,hy] at this
   have c0:wr.cell? ⟨g,a,none⟩=some (.int .i64 x):=by
    have:=hR.cell a (by rw[←hR.nlen];exact hkn0)
    rwa [Vf P (x::B) Q a a HM.out.1 (Nat.le_refl _) (by simp),Nat.sub_self,List.getD_cons_zero] at this
   have my:M y:=by rw[←hy];exact H.out.2.1 _ (Zg (by have:=HM.out;omega))
   have s1:∀u,Nw wr u→u.cell? ⟨g,t,none⟩=some (.int .i64 y):=fun u hu=>hu.kp c1
   have s0:∀u,Nw wr u→u.cell? ⟨g,a,none⟩=some (.int .i64 x):=fun u hu=>hu.kp c0
   obtain⟨z,hz⟩:∃z,c y x=z:=⟨_,rfl⟩
   have HC:=hD0 (fun(w1:World) (hW:Nw wr w1)=>H.out.2.2.2.2.2 y x w1 my H.out.2.2.1 (Z3.nw (hN.trans hW)))
   rw[hz] at HC
   have HZ:=hD0 (aI0 hy hz)
   have HNn:=hD0 hN
   have q1:=(Nw.refl wr).drewQ
   obtain⟨wc,hwc⟩:∃wc,wr.drew=wc:=⟨_,rfl⟩
   clear hR c1 c0 my hy hz hN
   by_cases hz0:z<0
   ·have dz:decide (z<0)=true:=by simpa using hz0
    clear hz0
    refine Z5 [some true,some true,some true,some true,some true,some true,some true,some true,some true,some false,none,some true] (Nw wr) (by kernel_rfl) (by kernel_rfl) (by kernel_rfl) q1 ?_
    rw[hwc] at q1 ⊢
    clear hwc
    repeat (first
     | (refine HW.off ?_)
     | (refine HW.take' ?_;(first | (refine⟨undef,Or.inr ⟨by rfl,rfl⟩,?_⟩) | (apply Exists.intro;refine⟨Or.inl ⟨by rfl,?_⟩,?_⟩;(intro x hx;go_simp;first | done | with_reducible rfl)));(try simp only[Act.put,List.setIfInBounds_toArray,List.set_cons_zero,List.set_cons_succ]))
     | (refine HW.go (fun K hK=>?_);go_simp;(first
      | (go_at_fn gf;(with_reducible refine(HC.out _ q1).mono ?_);rintro e wy ⟨rfl,g2⟩;refine hK.out _ _ (q1.trans g2) ?_;intro _;replace q1:=q1.trans g2;clear hK K g2)
      | (refine hK.out _ _ q1 ?_;intro _;clear hK K))))
    refine HW.end_ ?_
    refine NoPanic.normal ?_
    have HQ:=hD0 q1
    have DZ:=hD0 dz
    clear s1 s0 q1 dz
    go_wp2
    go_roundw
    case rel =>
     refine⟨t+1,j,by go_num,rfl,by omega,by omega,hjb,hD0 ⟨fun _=>?_,HB.out.2⟩,HNn.out.trans HQ.out⟩
     rw[show t+1-m-1=t-m by omega,HZ.out.1,HZ.out.2]
     exact of_decide_eq_true DZ.out
    case measure=>simp[intOf];omega
   ·have dz:decide (z<0)=false:=by simpa using hz0
    clear hz0
    refine Z5 [some true,some true,some true,some true,some true,some true,some true,some true,some true,some false,none,some true] (Nw wr) (by kernel_rfl) (by kernel_rfl) (by kernel_rfl) q1 ?_
    rw[hwc] at q1 ⊢
    clear hwc
    repeat (first
     | (refine HW.off ?_)
     | (refine HW.take' ?_;(first | (refine⟨undef,Or.inr ⟨by rfl,rfl⟩,?_⟩) | (apply Exists.intro;refine⟨Or.inl ⟨by rfl,?_⟩,?_⟩;(intro x hx;go_simp;first | done | with_reducible rfl)));(try simp only[Act.put,List.setIfInBounds_toArray,List.set_cons_zero,List.set_cons_succ]))
     | (refine HW.go (fun K hK=>?_);go_simp;(first
      | (go_at_fn gf;(with_reducible refine(HC.out _ q1).mono ?_);rintro e wy ⟨rfl,g2⟩;refine hK.out _ _ (q1.trans g2) ?_;intro _;replace q1:=q1.trans g2;clear hK K g2)
      | (refine hK.out _ _ q1 ?_;intro _;clear hK K))))
    refine HW.end_ ?_
    refine NoPanic.normal ?_
    have HQ:=hD0 q1
    have DZ:=hD0 dz
    clear s1 s0 q1 dz
    go_wp2
    go_roundw
    case rel =>
     refine⟨i,t,rfl,by go_num,hmi,hf1,by omega,hD0 ⟨HB.out.1,fun _=>?_⟩,HNn.out.trans HQ.out⟩
     rw[HZ.out.1,HZ.out.2]
     exact Int.not_lt.1 (of_decide_eq_false DZ.out)
    case measure=>simp[intOf];omega
  ·obtain rfl:i=j:=by omega
   have HNn:=hD0 hN
   obtain⟨kk,hkk⟩:∃kk,i=m+kk:=⟨i-m,by omega⟩
   obtain⟨ii,hii⟩:∃ii,i=ii+1:=⟨i-1,by omega⟩
   have w5:IntKind.i64.wrap ((i:Int)-1)=(ii:Int):=Z4a i ii (by omega) hii
   have HK:=hD0 (aI0 hkk hii)
   have hai:a≤ii:=by omega
   have hib:ii<b:=by omega
   have hmi2:i≤b:=by omega
   clear hN Z1 hkk hii
   go_wp2
   go_loopw [13] (fun vk wr=>∃k:Nat,vk=.int .i64 k∧a≤k∧k≤ii∧Hid (Y1 wr g cap n (P++(B.take (k-a)++x::B.drop (k-a))++Q)∧Z3 (fun k=>k=g) w wr)) (fun vk _=>ii-(intOf vk).toNat)
   case atStart=>exact⟨a,rfl,Nat.le_refl _,hai,hD0 ⟨by rw[Nat.sub_self];simpa using H.out.1.nw HNn.out,Z3.nw HNn.out⟩⟩
   case round =>
    generalize wr=w7 at *
    obtain⟨k,rfl,hak,hki,HI⟩:=hrel
    by_cases Z1:k<ii
    ·obtain⟨y,hy⟩:∃y,B.getD (k-a) 0=y:=⟨_,rfl⟩
     have hkB:k-a<B.length:=by have:=HM.out;omega
     have eB:=Zc2 B (k-a) hkB
     rw[hy] at eB
     have e1:P++(B.take (k-a)++x::B.drop (k-a))++Q=(P++B.take (k-a))++x::([]++y::(B.drop (k-a+1)++Q)):=by
      have:B.drop (k-a)=y::B.drop (k-a+1):=by
       have hk2:B[k-a]=y:=by rw[←hy];simp[List.getD,hkB]
       rw[←hk2];exact(List.getElem_cons_drop hkB).symm
      rw[this];simp
     have e2:P++(B.take (k+1-a)++x::B.drop (k+1-a))++Q=(P++B.take (k-a))++y::([]++x::(B.drop (k-a+1)++Q)):=by
      have:B.take (k-a+1)=B.take (k-a)++[y]:=by
       have hk2:B[k-a]=y:=by rw[←hy];simp[List.getD,hkB]
       rw[←hk2];exact List.take_succ_eq_append_getElem hkB
      rw[show k+1-a=k-a+1 by omega,this];simp
     have hR:=HI.out.1
     rw[e1] at hR
     have lU:(P++B.take (k-a)).length=k:=by have:=HM.out.1;rw[List.length_append,List.length_take];omega
     have hS:=hR.swap k (k+1) lU.symm (by rw[lU];simp)
     rw[←e2] at hS
     have HS:=hD0 (aI0 hS HI.out.2)
     have c1:=IS.cell hR k (by rw[←hR.nlen];omega)
     have c2:=IS.cell hR (k+1) (by rw[←hR.nlen];omega)
     rw[Z05 _ x _ k lU.symm] at c1
     rw[Z1x _ [] _ x y (k+1) (by rw[lU];simp)] at c2
     have fz:=IS.frozen hR
     have hg:=IS.glt hR
     have w6:=Z2o k (k+1) (by omega) rfl
     have ne:¬k=k+1:=by omega
     have ne':¬k+1=k:=by omega
     obtain⟨k1,hk1⟩:∃k1,k+1=k1:=⟨_,rfl⟩
     rw[hk1] at c2 HS w6 ne ne'
     have b1:(k:Int)<(n:Int):=by omega
     have b2:(k1:Int)<(n:Int):=by omega
     have b1':k<n:=by omega
     have b2':k1<n:=by omega
     have HK1:=hD0 hk1
     have dkl:(k:Int)<(ii:Int):=by omega
     clear eB e1 e2 hR lU hS hy hkB HI hk1
     go_wp2
     go_region
     all_goals
      go_wp2
      go_roundw
      case rel=>exact⟨k+1,by have:=HK1.out;subst this;go_num,by omega,by omega,hD0 ⟨by have:=HS.out.1;rw[HK1.out];rw[←HK1.out] at this ⊢;exact Y1.drew this,HS.out.2.trans (Z1y _ _ _ _ _ _)⟩⟩
      case measure=>have h1:=HK1.out;simp[intOf];omega
    ·obtain rfl:k=ii:=by omega
     have ek:k-a=kk:=by have:=HM.out;have:=HK.out;omega
     have hE:Z21 w g cap n c P [x] B Q (.returned (.tuple #[])) w7:=by
      obtain⟨k1,k2⟩:=HK.out
      obtain⟨m1,m2,m3⟩:=HM.out
      have hr:=HI.out
      rw[ek] at hr
      refine⟨rfl,_,hr.1,(Z2m B x kk).trans (by simp),?_,hr.2⟩
      refine Z6w O.out H.out.2.1 H.out.2.2.1 H.out.2.2.2.2.1 kk (by omega) (fun q=>?_) (fun q=>?_)
      ·have:=HB.out.1 (by omega)
       rwa [show i-m-1=kk-1 by omega] at this
      ·have h1:=HB.out.2 (by omega)
       rw[show i-m=kk by omega] at h1
       exact(O.out.tot x (B.getD kk 0) H.out.2.2.1 (H.out.2.1 _ (Zg q)) (fun e=>H.out.2.2.2.1 (e▸Zg q))).resolve_right (Int.not_lt.2 h1)
     have HE:=hD0 hE
     clear hE HI
     go_wp2
     exact bodyPost_end (results_none rfl _ _ _) rfl HE.out
theorem Y1.swapB{w:World}{g cap n:Nat}{U Z:List Int}{x y:Int}(h:Y1 w g cap n (U++y::(x::Z)))(p q:Nat)(hp:p=U.length)(hq:q=U.length+1) :
  Y1 ((w.setCell ⟨g,q,none⟩ (.int .i64 y)).setCell ⟨g,p,none⟩ (.int .i64 x)) g cap n (U++x::(y::Z)):=by
 have:=IS.set (IS.set h q y) p x
 rw[List.set_comm _ _ (by omega)] at this
 have e:=Z6z U [] Z y x p q hp (by simpa using hq)
 simp only[List.nil_append] at e
 rwa [e] at this
theorem Zjb(f:Value)(c:Int→Int→Int)(M:Int→Prop)(o:Z22 c M)(g cap n:Nat)(P A Q:List Int)(x:Int)(w:World)(hn:n≤1000)(h:Y1 w g cap n (P++A++x::Q))(mA:∀y∈A,M y)(mx:M x)(nA:x∉A)(sA:Sd c A)(hA:1<A.length)(hf:Z0r w f g c M)
  (a m b:Nat) (ha:a=P.length) (hm:m=a+A.length) (hb:b=m+1) :
  Calls prog 173 #[.slice (some ⟨g,0,none⟩) n cap,.int .i64 a,.int .i64 m,.int .i64 b,f] w (Z21 w g cap n c P A [x] Q):=by
 obtain⟨gf,lb,rfl,eg,hT⟩:=hf
 have hl:=h.nlen
 simp at hl
 have H:=hD0 (aI0 h (aI0 mA (aI0 mx (aI0 nA (aI0 sA hT)))))
 have O:=hD0 o
 obtain⟨dd,hdd⟩:∃x:Nat,m=a+x:=⟨m-a,by omega⟩
 have w1:IntKind.i64.wrap ((m:Int)-(a:Int))=dd:=Zr m a dd (by omega) hdd
 have d1:((dd:Int)==1)=false:=by rw[beq_eq_false_iff_ne];omega
 have d1':¬dd=1:=by omega
 have w3:IntKind.i64.wrap ((b:Int)-(m:Int))=1:=Zr b m 1 (by omega) (by omega)
 have HM:=hD0 (aI0 ha (aI0 hm hb))
 have hbn:b≤n:=by omega
 have ham:a<m:=by omega
 have hmb:m<b:=by omega
 clear hT h mA mx nA sA o hl hm ha hb hA hdd
 go_enter func173,ntmps173
 go_wp2
 go_loopw [14,15] (fun vi vj wr=>∃i j:Nat,vi=.int .i64 i∧vj=.int .i64 j∧a≤i∧i≤j∧j≤m∧Hid ((a<i→0≤c x (A.getD (i-a-1) 0))∧(j<m→c x (A.getD (j-a) 0)<0))∧Nw w wr) (fun vi vj _=>(intOf vj).toNat-(intOf vi).toNat)
 case atStart=>exact⟨a,m,rfl,rfl,Nat.le_refl _,by omega,Nat.le_refl _,hD0 ⟨fun q=>by omega,fun q=>by omega⟩,Nw.refl _⟩
 case round =>
  obtain⟨i,j,rfl,rfl,hmi,hij,hjb,HB,hN⟩:=hrel
  by_cases Z1:i<j
  ·have w2:=Yk i j (by omega) (by omega)
   have dlt:decide ((i:Int)<(j:Int))=true:=by rw[decide_eq_true_iff];omega
   obtain⟨t,hh⟩:∃t:Nat,((i:Int)+(j:Int))/2=(t:Int):=⟨(i+j)/2,by omega⟩
   have hf1:i≤t:=by omega
   have hf2:t<j:=by omega
   have w4:=Z2o t (t+1) (by omega) rfl
   go_wp2
   try rw[hh]
   have hi1:((m:Nat):Int)<(n:Int):=by omega
   have hi0:((t:Nat):Int)<(n:Int):=by omega
   have hkn1:m<n:=by omega
   have hkn0:t<n:=by omega
   obtain⟨y,hy⟩:∃y,A.getD (t-a) 0=y:=⟨_,rfl⟩
   have hR:Y1 wr g cap n (P++A++x::Q):=H.out.1.nw hN
   have c0:wr.cell? ⟨g,t,none⟩=some (.int .i64 y):=by
    have:=hR.cell t (by rw[←hR.nlen];exact hkn0)
    rwa [Vf P A (x::Q) a t HM.out.1 (by omega) (by have:=HM.out;omega),hy] at this
   have c1:wr.cell? ⟨g,m,none⟩=some (.int .i64 x):=by
    have:=hR.cell m (by rw[←hR.nlen];exact hkn1)
    rwa [Z05 (P++A) x Q m (by have:=HM.out;rw[List.length_append];omega)] at this
   have my:M y:=by rw[←hy];exact H.out.2.1 _ (Zg (by have:=HM.out;omega))
   have s1:∀u,Nw wr u→u.cell? ⟨g,m,none⟩=some (.int .i64 x):=fun u hu=>hu.kp c1
   have s0:∀u,Nw wr u→u.cell? ⟨g,t,none⟩=some (.int .i64 y):=fun u hu=>hu.kp c0
   obtain⟨z,hz⟩:∃z,c x y=z:=⟨_,rfl⟩
   have HC:=hD0 (fun(w1:World) (hW:Nw wr w1)=>H.out.2.2.2.2.2 x y w1 H.out.2.2.1 my (Z3.nw (hN.trans hW)))
   rw[hz] at HC
   have HZ:=hD0 (aI0 hy hz)
   have HNn:=hD0 hN
   have q1:=(Nw.refl wr).drewQ
   obtain⟨wc,hwc⟩:∃wc,wr.drew=wc:=⟨_,rfl⟩
   clear hR c1 c0 my hy hz hN
   by_cases hz0:z<0
   ·have dz:decide (z<0)=true:=by simpa using hz0
    clear hz0
    refine Z5 [some true,some true,some true,some true,some true,some true,some true,some true,some true,some false,none,some true,some true] (Nw wr) (by kernel_rfl) (by kernel_rfl) (by kernel_rfl) q1 ?_
    rw[hwc] at q1 ⊢
    clear hwc
    repeat (first
     | (refine HW.off ?_)
     | (refine HW.take' ?_;(first | (refine⟨undef,Or.inr ⟨by rfl,rfl⟩,?_⟩) | (apply Exists.intro;refine⟨Or.inl ⟨by rfl,?_⟩,?_⟩;(intro x hx;go_simp;first | done | with_reducible rfl)));(try simp only[Act.put,List.setIfInBounds_toArray,List.set_cons_zero,List.set_cons_succ]))
     | (refine HW.go (fun K hK=>?_);go_simp;(first
      | (go_at_fn gf;(with_reducible refine(HC.out _ q1).mono ?_);rintro e wy ⟨rfl,g2⟩;refine hK.out _ _ (q1.trans g2) ?_;intro _;replace q1:=q1.trans g2;clear hK K g2)
      | (refine hK.out _ _ q1 ?_;intro _;clear hK K))))
    refine HW.end_ ?_
    refine NoPanic.normal ?_
    have HQ:=hD0 q1
    have DZ:=hD0 dz
    clear s1 s0 q1 dz
    go_wp2
    go_roundw
    case rel =>
     refine⟨i,t,rfl,by go_num,hmi,hf1,by omega,hD0 ⟨HB.out.1,fun _=>?_⟩,HNn.out.trans HQ.out⟩
     rw[HZ.out.1,HZ.out.2]
     exact of_decide_eq_true DZ.out
    case measure=>simp[intOf];omega
   ·have dz:decide (z<0)=false:=by simpa using hz0
    clear hz0
    refine Z5 [some true,some true,some true,some true,some true,some true,some true,some true,some true,some false,none,some true,some true] (Nw wr) (by kernel_rfl) (by kernel_rfl) (by kernel_rfl) q1 ?_
    rw[hwc] at q1 ⊢
    clear hwc
    repeat (first
     | (refine HW.off ?_)
     | (refine HW.take' ?_;(first | (refine⟨undef,Or.inr ⟨by rfl,rfl⟩,?_⟩) | (apply Exists.intro;refine⟨Or.inl ⟨by rfl,?_⟩,?_⟩;(intro x hx;go_simp;first | done | with_reducible rfl)));(try simp only[Act.put,List.setIfInBounds_toArray,List.set_cons_zero,List.set_cons_succ]))
     | (refine HW.go (fun K hK=>?_);go_simp;(first
      | (go_at_fn gf;(with_reducible refine(HC.out _ q1).mono ?_);rintro e wy ⟨rfl,g2⟩;refine hK.out _ _ (q1.trans g2) ?_;intro _;replace q1:=q1.trans g2;clear hK K g2)
      | (refine hK.out _ _ q1 ?_;intro _;clear hK K))))
    refine HW.end_ ?_
    refine NoPanic.normal ?_
    have HQ:=hD0 q1
    have DZ:=hD0 dz
    clear s1 s0 q1 dz
    go_wp2
    go_roundw
    case rel =>
     refine⟨t+1,j,by go_num,rfl,by omega,by omega,hjb,hD0 ⟨fun _=>?_,HB.out.2⟩,HNn.out.trans HQ.out⟩
     rw[show t+1-a-1=t-a by omega,HZ.out.1,HZ.out.2]
     exact Int.not_lt.1 (of_decide_eq_false DZ.out)
    case measure=>simp[intOf];omega
  ·obtain rfl:i=j:=by omega
   have HNn:=hD0 hN
   obtain⟨kk,hkk⟩:∃kk,i=a+kk:=⟨i-a,by omega⟩
   have HK:=hD0 hkk
   clear hN Z1 hkk
   go_wp2
   go_loopw [17] (fun vk wr=>∃k:Nat,vk=.int .i64 k∧i≤k∧k≤m∧Hid (Y1 wr g cap n (P++(A.take (k-a)++x::A.drop (k-a))++Q)∧Z3 (fun k=>k=g) w wr)) (fun vk _=>(intOf vk).toNat)
   case atStart=>exact⟨m,rfl,by omega,Nat.le_refl _,hD0 ⟨by
    have e:m-a=A.length:=by have:=HM.out;omega
    rw[e,List.take_length,List.drop_length]
    simpa using H.out.1.nw HNn.out,Z3.nw HNn.out⟩⟩
   case round =>
    generalize wr=w7 at *
    obtain⟨k,rfl,hik,hkm,HI⟩:=hrel
    by_cases Z1:i<k
    ·obtain⟨k0,hk0⟩:∃k0,k=k0+1:=⟨k-1,by omega⟩
     obtain⟨y,hy⟩:∃y,A.getD (k0-a) 0=y:=⟨_,rfl⟩
     have hkA:k0-a<A.length:=by have:=HM.out;omega
     have hk2:A[k0-a]=y:=by rw[←hy];simp[List.getD,hkA]
     have e0:k-a=k0-a+1:=by omega
     have e1:P++(A.take (k-a)++x::A.drop (k-a))++Q=(P++A.take (k0-a))++y::(x::(A.drop (k-a)++Q)):=by
      have:A.take (k0-a+1)=A.take (k0-a)++[y]:=by rw[←hk2];exact List.take_succ_eq_append_getElem hkA
      rw[e0,this];simp
     have e2:P++(A.take (k0-a)++x::A.drop (k0-a))++Q=(P++A.take (k0-a))++x::(y::(A.drop (k-a)++Q)):=by
      have:A.drop (k0-a)=y::A.drop (k0-a+1):=by rw[←hk2];exact(List.getElem_cons_drop hkA).symm
      rw[this,e0];simp
     have hR:=HI.out.1
     rw[e1] at hR
     have lU:(P++A.take (k0-a)).length=k0:=by have:=HM.out.1;rw[List.length_append,List.length_take];omega
     have hS:=hR.swapB k0 k lU.symm (by rw[lU];exact hk0)
     rw[←e2] at hS
     have HS:=hD0 (aI0 hS HI.out.2)
     have c1:=IS.cell hR k0 (by rw[←hR.nlen];omega)
     have c2:=IS.cell hR k (by rw[←hR.nlen];omega)
     rw[Z05 _ y _ k0 lU.symm] at c1
     have c3:=Z1x (P++A.take (k0-a)) [] (A.drop (k-a)++Q) y x k (by rw[lU];simpa using hk0)
     simp only[List.nil_append] at c3
     rw[c3] at c2
     have fz:=IS.frozen hR
     have hg:=IS.glt hR
     have w6:IntKind.i64.wrap ((k:Int)-1)=(k0:Int):=Z4a k k0 (by omega) hk0
     have ne:¬k=k0:=by omega
     have ne':¬k0=k:=by omega
     have b1:(k:Int)<(n:Int):=by omega
     have b2:(k0:Int)<(n:Int):=by omega
     have b1':k<n:=by omega
     have b2':k0<n:=by omega
     have dkl:(i:Int)<(k:Int):=by omega
     have hk0i:i≤k0:=by omega
     have hk0k:k0<k:=by omega
     clear e0 e1 e2 hR lU hS hy hkA HI c3 hk2 hk0
     go_wp2
     go_region
     all_goals
      go_wp2
      go_roundw
      case rel=>exact⟨k0,by go_num,hk0i,by omega,hD0 ⟨Y1.drew HS.out.1,HS.out.2.trans (Z1y _ _ _ _ _ _)⟩⟩
      case measure=>simp[intOf];omega
    ·obtain rfl:k=i:=by omega
     have ek:k-a=kk:=by have:=HM.out;have:=HK.out;omega
     have hE:Z21 w g cap n c P A [x] Q (.returned (.tuple #[])) w7:=by
      have k1:=HK.out
      obtain⟨m1,m2,m3⟩:=HM.out
      have hr:=HI.out
      rw[ek] at hr
      refine⟨rfl,_,hr.1,(Z2m A x kk).trans (List.perm_append_comm (l₁:=[x]) (l₂:=A)),?_,hr.2⟩
      refine Z6w O.out H.out.2.1 H.out.2.2.1 H.out.2.2.2.2.1 kk (by omega) (fun q=>?_) (fun q=>?_)
      ·have h1:=HB.out.1 (by omega)
       rw[show k-a-1=kk-1 by omega] at h1
       exact(O.out.tot (A.getD (kk-1) 0) x (H.out.2.1 _ (Zg (by omega))) H.out.2.2.1 (fun e=>H.out.2.2.2.1 (e▸Zg (by omega)))).resolve_right (Int.not_lt.2 h1)
      ·have:=HB.out.2 (by omega)
       rwa [show k-a=kk by omega] at this
     have HE:=hD0 hE
     clear hE HI
     go_wp2
     exact bodyPost_end (results_none rfl _ _ _) rfl HE.out
end Go.Proofs.YtfepoibfbmehiaaGreatDoor
