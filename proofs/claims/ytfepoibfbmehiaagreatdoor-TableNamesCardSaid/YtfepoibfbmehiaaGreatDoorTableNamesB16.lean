/- Texts merged: BdX, PoC, BdY, TbL, BdZ, TbP, TbQ, TbH, TbR, TbM, TbN, PoR, BkZL, BdU, PoE -/
import Derived.Test.YtfepoibfbmehiaaGreatDoorTableNamesB15
set_option linter.unusedVariables false
set_option maxRecDepth 100000
set_option maxHeartbeats 16000000
namespace Go.Proofs.YtfepoibfbmehiaaGreatDoor
open Go.RowKit _root_.Go.Proofs.Tryz
section
open Go.RowKit Go.Sort Go.Shelf
attribute [local go_sem] Oper.semAt_some
theorem Zhb(n:Nat)(hn:4≤n){w:World}{o mb po nn:Nat}{l:List Hp}{L:List Bool}{F:Nat→Prop}(h:Db w o mb po nn l L F) :
  CallsIn Fence.wide n prog 73 #[.pointer (some ⟨o,0,none⟩)] w (Z07 w (Z6 l)):=by
 have h1:1≤n:=by omega
 have hol:=h.ol
 have hml:=h.map.lt
 have hll:=h.len
 have HMd:=hD0 (Yw o w h.c0)
 have H:=hD0 h
 refine callsIn_of_wp_marks func73 rfl trivial ?_ rfl
 simp only[ntmps73,List.size_toArray,List.length_cons,List.length_nil,Nat.reduceAdd,Nat.reduceSub,Array.replicate_succ,Array.replicate_zero,List.push_toArray,List.append_toArray,List.nil_append,List.cons_append]
 clear h
 refine wpIn_wide.2 ?_
 go_wp2_with (go_at_call 51;refine HMd.out.mono ?_;rintro e w' ⟨rfl,rfl⟩)
 obtain⟨W0,hW0⟩:∃W0,w.alloc (.cells #[.slice none 0 0] 58)=W0:=⟨_,rfl⟩
 have hnw:Nw w W0:=by rw[←hW0];exact(Nw.refl w).alloc _
 have hsz:W0.heap.size=w.heap.size+1:=by rw[←hW0];simp
 have hA0:∃v lm,HdI w (fun k=>k=o∨k=mb) (fun k=>k=o∨k=mb) v lm [] W0:=by
  refine⟨.slice none 0 0,[],⟨?_,?_,World.ownsRow_nil _ _ _ _,fun k e=>by simp[Value.ownBlock] at e,fun e=>by omega,fun k e=>.inl e,hnw⟩,rfl,by simp⟩
  ·rw[←hW0];simp[go_sem]
  ·rw[←hW0];simp[go_sem]
 have hseq:=Zcq (n-1) (by omega) o mb l W0 ((H.out.nw hnw).c3) ((H.out.nw hnw).map) H.out.srt (by omega)
 rw[hW0]
 clear hW0 HMd
 refine(wpIn_wide (n:=n)).1 ?_
 refine Zbz rfl h1 (gf:=88) (fa:=#[.pointer (some ⟨o,0,none⟩)]) (lb:=#[]) rfl trivial Zgm (S0:=fun k=>k=o∨k=mb) (fun k e=>by omega) hseq rfl
  (fun S pre A=>∃v lm,HdI w (fun k=>k=o∨k=mb) S v lm pre A) (fun _ _ _ _=>False)
  (fun S S' pre A B hi hc e1 e2 _=>by obtain⟨v,lm,hi⟩:=hi;exact⟨v,lm,hi.step (by omega) hc e2⟩) (fun _ _ _ _ _ _ h _ _ _ _=>h) hA0 (fun _=>none)
  (fun x bx=>{ tmps:=#[.pointer (some ⟨o,0,none⟩),undef,.slice none 0 0,.pointer (some ⟨w.heap.size,0,none⟩),ptP x,.pointer (some ⟨o,0,none⟩),.bool true,.bool false,.pointer (some ⟨o,0,none⟩),.func (.func 88) #[.pointer (some ⟨o,0,none⟩)] #[],ptP x,undef,undef,undef,undef,undef,undef,undef,undef,undef,undef,undef,undef,undef,undef,undef,undef,undef,undef],defers:=[] }) ?assign ?body ?done ?stop
 case assign =>
  intro r x A K hK
  simp only[mkB] at hK
  gi_wp2
  exact hK
 case body =>
  intro r S pre x bx A hi hsub hex hnb hbl hnc hcx hpre
  obtain⟨v,lm,hi⟩:=hi
  have hx:x∈l:=hpre.subset (by simp)
  have hok:=(H.out.nw hi.bx.nw).ok x hx
  have hxw:x.p<w.heap.size:=(H.out.ok x hx).lt
  have hHd:HdS w.heap.size x.p v x.h.t x.h.r x.h.W x.a x.h.q.length x.c A:=⟨hi.bx.cell,hok.c0,hok.c1,hok.c2,hok.c3⟩
  have hlm:lm.length<100000:=by
   have e1:=congrArg List.length hi.eq
   rw[List.length_map,List.length_map] at e1
   have e2:=hpre.length_le
   rw[List.length_append,List.length_singleton] at e2
   omega
  have HCl:=hD0 (fun w1 (g:Nw A w1)=>Z4s (hpV x) x.h.q w1 hok.len (hok.rd.nw g))
  have HPu:=hD0 (fun z (g:Nw A z) a1 c1 (ho:Z7 z A.heap.size (.slice a1 x.h.q.length c1) x.h.q)=>hi.push hex g (x:=x) rfl hok.len ho hlm (n₀:=w.heap.size+1) (fun k e=>(hnc k (by rw[hsz];exact e)).2) hxw hHd)
  unfold hpV at HCl
  obtain⟨va,vn,vc,hv⟩:∃va vn vc,v=.slice va vn vc:=by
   rcases V4 hi.bx.own with⟨e,_⟩ | ⟨g,cap,e⟩
   ·exact⟨_,_,_,e⟩
   ·exact⟨_,_,_,e⟩
  subst hv
  have hcl:=hi.bx.lt
  have hsz1:W0.heap.size=w.heap.size+1:=hsz
  clear hi hsub hex hnb hbl hnc hcx hpre hok hx hseq hA0 hlm
  obtain⟨⟨xt,xr,xW,xq⟩,xp,xa,xc⟩:=x
  simp only at HCl HPu hHd hxw
  rw[hsz1]
  gi_wp2_with fail
  refine Z62 17 (HdS w.heap.size xp (.slice va vn vc) xt xr xW xa xq.length xc) (by kernel_rfl) (by kernel_rfl) ?_
  change U8 _ _ _ _ _ _ 18 #[false,false,false,false,false,false,false,false,false,false,false,false,false,false,false,false,false,false] _ A.drew
  have hN0:Nw A A.drew:=(Nw.refl A).dr
  have hS0:=hHd.nw hN0
  obtain⟨y,hy⟩:∃y,A.drew=y:=⟨_,rfl⟩
  rw[hy] at hS0 hN0 ⊢
  clear hy
  refine Zd (i:=0) (v:=.slice va vn vc) rfl (by kernel_rfl) (by kernel_rfl) (by kernel_rfl) (by kernel_rfl) (fun c a w h=>h) (.inl ⟨rfl,fun w hw=>by obtain⟨q0,q1,q2,q3,q4⟩:=hw;go_simp⟩) hS0 ?_
  simp only[Act.put,List.getElem_toArray,List.getElem_cons_zero,List.setIfInBounds_toArray,List.set_cons_zero,List.set_cons_succ]
  refine Zd (i:=1) (v:=.pointer (some ⟨xp,0,none⟩)) rfl (by kernel_rfl) (by kernel_rfl) (by kernel_rfl) (by kernel_rfl) (fun c a w h=>h) (.inl ⟨rfl,fun w hw=>by obtain⟨q0,q1,q2,q3,q4⟩:=hw;go_simp⟩) hS0 ?_
  simp only[Act.put,List.getElem_toArray,List.getElem_cons_zero,List.getElem_cons_succ,List.setIfInBounds_toArray,List.set_cons_zero,List.set_cons_succ]
  refine Zd (i:=2) (v:=.pointer (some ⟨xp,0,none⟩)) rfl (by kernel_rfl) (by kernel_rfl) (by kernel_rfl) (by kernel_rfl) (fun c a w h=>h) (.inl ⟨rfl,fun w hw=>by obtain⟨q0,q1,q2,q3,q4⟩:=hw;go_simp⟩) hS0 ?_
  simp only[Act.put,List.getElem_toArray,List.getElem_cons_zero,List.getElem_cons_succ,List.setIfInBounds_toArray,List.set_cons_zero,List.set_cons_succ]
  refine Zd (i:=3) (v:=.pointer (some ⟨xp,0,none⟩)) rfl (by kernel_rfl) (by kernel_rfl) (by kernel_rfl) (by kernel_rfl) (fun c a w h=>h) (.inl ⟨rfl,fun w hw=>by obtain⟨q0,q1,q2,q3,q4⟩:=hw;go_simp⟩) hS0 ?_
  simp only[Act.put,List.getElem_toArray,List.getElem_cons_zero,List.getElem_cons_succ,List.setIfInBounds_toArray,List.set_cons_zero,List.set_cons_succ]
  refine Zd (i:=4) (v:=.agg #[.int .i64 xt,.int .i64 xr]) rfl (by kernel_rfl) (by kernel_rfl) (by kernel_rfl) (by kernel_rfl) (fun c a w h=>h) (.inl ⟨rfl,fun w hw=>by obtain⟨q0,q1,q2,q3,q4⟩:=hw;go_simp⟩) hS0 ?_
  simp only[Act.put,List.getElem_toArray,List.getElem_cons_zero,List.getElem_cons_succ,List.setIfInBounds_toArray,List.set_cons_zero,List.set_cons_succ]
  refine Zd (i:=5) (v:=.pointer (some ⟨xp,0,none⟩)) rfl (by kernel_rfl) (by kernel_rfl) (by kernel_rfl) (by kernel_rfl) (fun c a w h=>h) (.inl ⟨rfl,fun w hw=>by obtain⟨q0,q1,q2,q3,q4⟩:=hw;go_simp⟩) hS0 ?_
  simp only[Act.put,List.getElem_toArray,List.getElem_cons_zero,List.getElem_cons_succ,List.setIfInBounds_toArray,List.set_cons_zero,List.set_cons_succ]
  refine Zd (i:=6) (v:=.pointer (some ⟨xp,0,none⟩)) rfl (by kernel_rfl) (by kernel_rfl) (by kernel_rfl) (by kernel_rfl) (fun c a w h=>h) (.inl ⟨rfl,fun w hw=>by obtain⟨q0,q1,q2,q3,q4⟩:=hw;go_simp⟩) hS0 ?_
  simp only[Act.put,List.getElem_toArray,List.getElem_cons_zero,List.getElem_cons_succ,List.setIfInBounds_toArray,List.set_cons_zero,List.set_cons_succ]
  refine Zd (i:=7) (v:=.pointer (some ⟨xp,2,none⟩)) rfl (by kernel_rfl) (by kernel_rfl) (by kernel_rfl) (by kernel_rfl) (fun c a w h=>h) (.inl ⟨rfl,fun w hw=>by obtain⟨q0,q1,q2,q3,q4⟩:=hw;go_simp⟩) hS0 ?_
  simp only[Act.put,List.getElem_toArray,List.getElem_cons_zero,List.getElem_cons_succ,List.setIfInBounds_toArray,List.set_cons_zero,List.set_cons_succ]
  refine Zd (i:=8) (v:=.slice xa xq.length xc) rfl (by kernel_rfl) (by kernel_rfl) (by kernel_rfl) (by kernel_rfl) (fun c a w h=>h) (.inl ⟨rfl,fun w hw=>by obtain⟨q0,q1,q2,q3,q4⟩:=hw;go_simp⟩) hS0 ?_
  simp only[Act.put,List.getElem_toArray,List.getElem_cons_zero,List.getElem_cons_succ,List.setIfInBounds_toArray,List.set_cons_zero,List.set_cons_succ]
  refine Zd (i:=10) (v:=.pointer (some ⟨xp,0,none⟩)) rfl (by kernel_rfl) (by kernel_rfl) (by kernel_rfl) (by kernel_rfl) (fun c a w h=>h) (.inl ⟨rfl,fun w hw=>by obtain⟨q0,q1,q2,q3,q4⟩:=hw;go_simp⟩) hS0 ?_
  simp only[Act.put,List.getElem_toArray,List.getElem_cons_zero,List.getElem_cons_succ,List.setIfInBounds_toArray,List.set_cons_zero,List.set_cons_succ]
  refine Zd (i:=11) (v:=.pointer (some ⟨xp,0,none⟩)) rfl (by kernel_rfl) (by kernel_rfl) (by kernel_rfl) (by kernel_rfl) (fun c a w h=>h) (.inl ⟨rfl,fun w hw=>by obtain⟨q0,q1,q2,q3,q4⟩:=hw;go_simp⟩) hS0 ?_
  simp only[Act.put,List.getElem_toArray,List.getElem_cons_zero,List.getElem_cons_succ,List.setIfInBounds_toArray,List.set_cons_zero,List.set_cons_succ]
  refine Zd (i:=12) (v:=.pointer (some ⟨xp,3,none⟩)) rfl (by kernel_rfl) (by kernel_rfl) (by kernel_rfl) (by kernel_rfl) (fun c a w h=>h) (.inl ⟨rfl,fun w hw=>by obtain⟨q0,q1,q2,q3,q4⟩:=hw;go_simp⟩) hS0 ?_
  simp only[Act.put,List.getElem_toArray,List.getElem_cons_zero,List.getElem_cons_succ,List.setIfInBounds_toArray,List.set_cons_zero,List.set_cons_succ]
  refine Zd (i:=13) (v:=.int .i64 xW) rfl (by kernel_rfl) (by kernel_rfl) (by kernel_rfl) (by kernel_rfl) (fun c a w h=>h) (.inl ⟨rfl,fun w hw=>by obtain⟨q0,q1,q2,q3,q4⟩:=hw;go_simp⟩) hS0 ?_
  simp only[Act.put,List.getElem_toArray,List.getElem_cons_zero,List.getElem_cons_succ,List.setIfInBounds_toArray,List.set_cons_zero,List.set_cons_succ]
  refine Zlx (i:=9) (by kernel_rfl) rfl (fun K hK=>?_)
  rw[if_pos (by rfl)]
  simp only[List.getElem_toArray,List.getElem_cons_zero,List.getElem_cons_succ]
  go_simp
  refine(HCl.out _ hN0).mono ?_
  rintro e z ⟨v1,rfl,g1,ho1⟩
  obtain⟨a1,c1,hv1⟩:∃a1 c1,v1=.slice a1 xq.length c1:=by
   rcases V4 ho1 with⟨e,e2⟩ | ⟨g,cap,e⟩
   ·exact⟨none,0,by rw[e,e2]⟩
   ·exact⟨_,_,e⟩
  subst hv1
  have hNz:=hN0.trans g1
  have hSz:=hS0.nw g1
  obtain⟨v',w1,hr,⟨gg,cap,hv'⟩,hcc,hff,hSw,hI,hK1,hK2⟩:=HPu.out z hNz a1 c1 (Zby ho1 (fun g hg=>by have:=oge ho1 hg;have:=hN0.sz;omega))
  subst hv'
  refine hK _ _ (.inr hSz) ?_
  clear hK K
  refine Zd (i:=14) (v:=.agg #[.int .i64 xt,.int .i64 xr,.slice a1 xq.length c1,.int .i64 xW]) rfl (by kernel_rfl) (by kernel_rfl) (by kernel_rfl) (by kernel_rfl) (fun c a w h=>h) (.inl ⟨rfl,fun w hw=>by obtain⟨q0,q1,q2,q3,q4⟩:=hw;go_simp⟩) hSz ?_
  simp only[Act.put,List.getElem_toArray,List.getElem_cons_zero,List.getElem_cons_succ,List.setIfInBounds_toArray,List.set_cons_zero,List.set_cons_succ]
  refine Zlx (i:=15) (by kernel_rfl) rfl (fun K hK=>?_)
  rw[if_pos (by rfl)]
  simp only[List.getElem_toArray,List.getElem_cons_zero,List.getElem_cons_succ]
  go_simp
  refine hK _ _ (.inr (hSz.nw ((Nw.refl z).alloc _))) ?_
  clear hK K
  refine Zlx (i:=16) (by kernel_rfl) rfl (fun K hK=>?_)
  refine Zmb (by rfl) (.tmp 11) (.tmp 26) 58 rfl _ _ _ _ rfl rfl hr ?_
  refine hK _ _ (.inr hSw) ?_
  clear hK K
  simp only[Act.put,List.getElem_toArray,List.getElem_cons_zero,List.getElem_cons_succ,List.setIfInBounds_toArray,List.set_cons_zero,List.set_cons_succ]
  have HE:=hD0 (aI0 hK2 (aI0 hK1 hI))
  have hwl:=World.block_lt_of_cell? _ _ hcc
  refine Zlx (i:=17) (by kernel_rfl) rfl (fun K hK=>?_)
  rw[if_pos (by rfl)]
  simp only[List.getElem_toArray,List.getElem_cons_zero,List.getElem_cons_succ]
  go_simp
  refine hK _ _ (.inl rfl) ?_
  clear hK K
  refine Zaq (by kernel_rfl) ?_ _
  change (NOr _ .normal _ _)
  unfold NOr
  exact⟨HE.out.1,HE.out.2.1,_,HE.out.2.2⟩
 case done =>
  intro D S xs W hD _ hfin hi hK
  subst hfin
  obtain⟨v,lm,hi⟩:=hi
  have HE:Hid (Z07 w (Z6 xs) (.returned v) (W.putObj D (.deferred none))):=by
   have hc:Vj D (fun k=>S k∧¬(k=o∨k=mb)) W (W.putObj D (.deferred none)):=Vj.put _ (.inl rfl) hK rfl
   have hi2:=hi.step (S':=S) (by omega) hc (fun k e=>.inl e)
   exact⟨v,rfl,⟨lm,hi2.bx.own,hi2.eq,fun x hx=>(hi2.ok x hx).1⟩,hi2.bx.nw⟩
  have hd:=hi.bx.cell
  have hf:=V4 hi.bx.own
  clear hseq hA0 hi
  obtain⟨va,vn,vc,hv⟩:∃va vn vc,v=.slice va vn vc:=by
   rcases hf with⟨e,_⟩ | ⟨g,cap,e⟩
   ·exact⟨_,_,_,e⟩
   ·exact⟨_,_,_,e⟩
  subst hv
  go_wp2
  refine⟨by simp,.inl ⟨_,_,rfl,run_takeDeferred hK,?_⟩⟩
  exact⟨_,results_tmp (t:=2) rfl _ _ _,HE.out⟩
 case stop =>
  intro D c S pre W _ _ h _
  exact h.elim
theorem Zl1{w:World}{o mb po nn:Nat}{l:List Hp}{L:List Bool}{F:Nat→Prop}(h:Db w o mb po nn l L F) :
  Calls prog 73 #[.pointer (some ⟨o,0,none⟩)] w (Z07 w (Z6 l)):=callsIn_wide.1 (Zhb 4 (by omega) h)
end
theorem Zql:(prog.info? 4).map (fun i=>(i.zero,i.size,i.bytes))=some (some (.bool false),1,1):=by kernel_rfl
theorem Zic(w:World)(N:Nat)(hN:N≤1000):(Instr.makeSlice 87 (.int .i64 N) (.int .i64 N)).run prog w=.ok (.slice (some ⟨w.heap.size,0,none⟩) N N) (w.alloc (.cells (Array.replicate N (.bool false)) 4)):=by
 obtain⟨i0,hi,hz0,hz1,hz2⟩:=info_parts Zql
 have h:=run_make (P:=prog) w 87 4 i0 (.bool false) underlying87 hi hz0 .i64 .i64 N N (by omega) (Int.le_refl _) (by rw[hz2];omega) (by omega)
 have e:madeCells (Value.bool false).cells (N*1)=Array.replicate N (.bool false):=by
  apply Array.ext
  ·simp[madeCells]
  ·intro j h1 h2
   simp[madeCells,Value.cells,Nat.mod_one]
 rw[h,hz1]
 simp only[Int.toNat_natCast,e]
structure Zaw(w:World)(N k:Nat)(v:Value)(l:List Int)(W:World):Prop where
 nw:Nw w W
 hv:IHv W (w.heap.size+1) 2 v l
 hs:IHs l (Zj (List.range k))
 own:∀b,v.ownBlock=some b→w.heap.size+2≤b
 c0:W.cell? ⟨w.heap.size+1,0,none⟩=some (.pointer none)
 f0:W.frozen? ⟨w.heap.size+1,0,none⟩=false
 c1:W.cell? ⟨w.heap.size+1,1,none⟩=some (.slice (some ⟨w.heap.size,0,none⟩) N N)
 cs:∀i,i<N→W.cell? ⟨w.heap.size,i,none⟩=some (.bool false)∧W.frozen? ⟨w.heap.size,i,none⟩=false
 sz:w.heap.size+1<W.heap.size
theorem Zbu(w:World)(N:Nat)(T U:TypeId):Zaw w N 0 (.slice none 0 0) [] ((w.alloc (.cells (Array.replicate N (.bool false)) T)).alloc (.cells #[.pointer none,.slice (some ⟨w.heap.size,0,none⟩) N N,.slice none 0 0] U)):=by
 refine⟨((Nw.refl w).alloc _).alloc _,⟨by simp[go_sem],by simp[go_sem],IS.nil _,by simp[Value.ownBlock]⟩,IHs.nil,by simp[Value.ownBlock],by simp[go_sem],by simp[go_sem],by simp[go_sem],fun i hi=>?_,by simp⟩
 constructor<;>simp[go_sem,hi]
theorem Zaw.step{w W W':World}{N k:Nat}{v:Value}{l:List Int}(h:Zaw w N k v l W)(hp:Zau W (w.heap.size+1) 2 v (Zj (List.range (k+1))) W'):∃v' l',Zaw w N (k+1) v' l' W':=by
 obtain⟨g',cap',l',hp,hs,hor,ht,hsd⟩:=hp
 have hsz:=h.sz
 have n1:¬IOf (w.heap.size+1) v w.heap.size:=fun e=>e.elim (fun e=>by omega) (fun e=>by have:=h.own _ e;omega)
 refine⟨_,l',Yu h.nw ht (fun i e=>?_),hp.v,hs,fun b e=>?_,(hsd 0 (by omega)).1.trans h.c0,(hsd 0 (by omega)).2.trans h.f0,(hsd 1 (by omega)).1.trans h.c1,fun i hi=>⟨(ht.cell (by omega) n1).trans (h.cs i hi).1,(ht.froz (by omega) n1).trans (h.cs i hi).2⟩,by have:=ht.size;omega⟩
 ·rcases e with e | e
  ·omega
  ·have:=h.own _ e;omega
 ·simp[Value.ownBlock] at e
  subst e
  rcases hor with q | q
  ·exact h.own _ q.symm
  ·omega
def Zmv(w:World)(N:Nat)(e:Ending)(W:World):Prop:=∃p F,e=.returned (.tuple #[.pointer (some ⟨p,0,none⟩),.int .i64 0])∧Pol W p (List.replicate N false) F∧Nw w W∧(∀k,F k→w.heap.size≤k)
theorem Zaw.done{w W:World}{N:Nat}{v:Value}{l:List Int}(h:Zaw w N N v l W)(hN:N≤128):Zmv w N (.returned (.tuple #[.pointer (some ⟨w.heap.size+1,0,none⟩),.int .i64 0])) (W.setCell ⟨w.heap.size+1,0,none⟩ (.pointer (some ⟨w.heap.size+1,0,none⟩))):=by
 have t:=Zp W ⟨w.heap.size+1,0,none⟩ (.pointer (some ⟨w.heap.size+1,0,none⟩))
 have hsz:=h.sz
 have o:∀j,j≠0→(W.setCell ⟨w.heap.size+1,0,none⟩ (.pointer (some ⟨w.heap.size+1,0,none⟩))).cell? ⟨w.heap.size+1,j,none⟩=W.cell? ⟨w.heap.size+1,j,none⟩:=fun j hj=>World.cell?_setCell_other _ _ _ _ (fun r=>hj (congrArg Addr.off r).symm)
 refine⟨w.heap.size+1,_,rfl,⟨w.heap.size,v,l,⟨World.cell?_setCell_same _ _ _ h.c0,by rw[List.length_replicate];exact(o 1 (by omega)).trans h.c1,fun i hi=>?_,by simp;omega,?_,by rw[Zkt];exact h.hs,by omega,fun e=>by have:=h.own _ e;omega,by rw[List.length_replicate];exact hN⟩,rfl⟩,Yu h.nw t (fun i e=>by simp at e;omega),?_⟩
 ·rw[List.length_replicate] at hi
  have e:(List.replicate N false).getD i false=false:=by simp[List.getD,hi]
  rw[e]
  exact⟨(t.cell (by omega) (by simp)).trans (h.cs i hi).1,by rw[World.frozen?_setCell];exact(h.cs i hi).2⟩
 ·refine⟨(o 2 (by omega)).trans h.hv.hd,by rw[World.frozen?_setCell];exact h.hv.hf,IS.tch h.hv.row t (fun b e=>?_),h.hv.ne⟩
  have:=h.own b e
  simp;omega
 ·rintro k (e | e | e)
  ·omega
  ·omega
  ·have:=h.own _ e;omega
theorem Zim(N:Nat)(hN:N≤128)(w:World):Calls prog 26 #[.int .i64 N] w (Zmv w N):=by
 have km:=fun w=>Zic w N (by omega)
 have HS:=hD0 (Zbu w N 4 92)
 have hd:decide (128<N)=false:=by simp;omega
 have hd2:decide ((128:Int)<(N:Int))=false:=by simp;omega
 go_enter func26,ntmps26
 go_wp2
 go_loopw [17] (fun i wr=>∃k:Nat,k≤N∧i=.int .i64 k∧∃v l,Hid (Zaw w N k v l wr)) (fun i _=>N-(intOf i).toNat)
 case atStart=>exact⟨0,Nat.zero_le _,rfl,_,_,HS⟩
 case round =>
  obtain⟨k,hk,rfl,v,l,HI⟩:=hrel
  by_cases Z1:k<N
  ·have hp:=Z55 (w.heap.size+1) 2 v l (Zj (List.range k)) k wr HI.out.hv HI.out.hs (by rw[HI.out.hs.len,Z3s];omega)
   rw[Zex] at hp
   have HP:=hD0 hp
   clear hp
   go_wp2_with fail
   refine HP.out.mono ?_
   rintro e w1 ⟨rfl,hw1⟩
   obtain⟨v',l',hI⟩:=HI.out.step hw1
   have HI':=hD0 hI
   clear hw1 hI
   go_wp2
   go_roundw
   case rel=>exact⟨k+1,by omega,by go_num,v',l',HI'⟩
   case measure=>simp[intOf];omega
  ·obtain rfl:k=N:=by omega
   have c0:=HI.out.c0
   have f0:=HI.out.f0
   have hz:=HI.out.sz
   have HD:=hD0 (HI.out.done hN)
   go_wp2
   exact bodyPost_ret (v:=.tuple #[.pointer (some ⟨w.heap.size+1,0,none⟩),.int .i64 0]) (by simp[results,results26,go_sem]) rfl HD.out
open Go.Shelf
theorem Zl5(L:List Bool):hsL L (-1)=false:=by
 cases e:hsL L (-1) with
 | false=>rfl
 | true=>obtain⟨i,hi,_⟩:=Z30 e;omega
def Zq1(w:World)(po n:Nat)(L:List Bool)(F:Nat→Prop)(e:Ending)(W:World):Prop:=∃o mb,e=.returned (.tuple #[.pointer (some ⟨o,0,none⟩),.int .i64 0])∧Db W o mb po n [] L F∧Nw w W∧w.heap.size≤o∧w.heap.size≤mb
theorem Ze5{w:World}{po n:Nat}{L:List Bool}{F:Nat→Prop}(h:Pol w po L F)(T:TypeId) :
  Zq1 w po n L F (.returned (.tuple #[.pointer (some ⟨w.heap.size+1,0,none⟩),.int .i64 0])) ((w.alloc (.map #[] 0)).alloc (.cells #[.pointer (some ⟨w.heap.size+1,0,none⟩),.int .i64 n,.pointer (some ⟨po,0,none⟩),.map (some w.heap.size)] T)):=by
 have hs1:(w.alloc (.map #[] 0)).heap.size=w.heap.size+1:=by simp
 have hb:=Z2 (w.alloc (.map #[] 0)) (.cells #[.pointer (some ⟨w.heap.size+1,0,none⟩),.int .i64 n,.pointer (some ⟨po,0,none⟩),.map (some w.heap.size)] T)
 rw[hs1] at hb
 have hN:Nw w ((w.alloc (.map #[] 0)).alloc (.cells #[.pointer (some ⟨w.heap.size+1,0,none⟩),.int .i64 n,.pointer (some ⟨po,0,none⟩),.map (some w.heap.size)] T)):=((Nw.refl w).alloc _).alloc _
 have hM:Zl ((w.alloc (.map #[] 0)).alloc (.cells #[.pointer (some ⟨w.heap.size+1,0,none⟩),.int .i64 n,.pointer (some ⟨po,0,none⟩),.map (some w.heap.size)] T)) w.heap.size []:=(Zl.made w).nw ((Nw.refl _).alloc _)
 generalize (w.alloc (.map #[] 0)).alloc (.cells #[.pointer (some ⟨w.heap.size+1,0,none⟩),.int .i64 n,.pointer (some ⟨po,0,none⟩),.map (some w.heap.size)] T)=z at *
 have hF:∀k,F k→k<w.heap.size:=h.own
 refine⟨w.heap.size+1,w.heap.size,rfl,⟨?_,?_,?_,?_,Z1 hb,fun e=>?_,fun e=>?_,hM,List.Pairwise.nil,by simp,h.nw hN,by simp⟩,hN,Nat.le_succ _,Nat.le_refl _⟩
 ·rw[Z0 hb];rfl
 ·rw[Z0 hb];rfl
 ·rw[Z0 hb];rfl
 ·rw[Z0 hb];rfl
 ·have:=hF _ e;omega
 ·have:=hF _ e;omega
theorem Zqp{w:World}{po:Nat}{L:List Bool}{F:Nat→Prop}(h:Pol w po L F)(n:Nat)(h1:1≤n)(h2:n≤64) :
  Calls prog 27 #[.int .i64 n,.pointer (some ⟨po,0,none⟩)] w (Zq1 w po n L F):=by
 have hmm:=@run_makeMap prog
 have HD:=hD0 (Ze5 (n:=n) h 98)
 obtain⟨g,v,l,hp,rfl⟩:=h
 have HG:=hD0 (Z9e hp (-1) (Zl5 L))
 have d1:decide ((n:Int)<1)=false:=by simp;omega
 have d2:decide ((64:Int)<(n:Int))=false:=by simp;omega
 clear hp h1 h2
 go_enter func27,ntmps27
 go_wp2_with (go_at_call 50;refine HG.out.mono ?_;rintro e w' ⟨rfl,rfl⟩)
 exact bodyPost_ret (v:=.tuple #[.pointer (some ⟨w.heap.size+1,0,none⟩),.int .i64 0]) (by simp[results,results27,go_sem, *]) rfl HD.out
structure Cps where
 s:Int
 h:Int
 r:Int
 p:Int
abbrev Zkc(c:Cps):Value:=.agg #[.int .i64 c.s,.int .i64 c.h,.int .i64 c.r,.int .i64 c.p]
def hvT(ds:List DB):List (Int × Nat):=ds.flatMap fun d=>(Z4 (Z6 d.l)).map fun id=>(id,d.o)
theorem Zhe(a b:List DB):hvT (a++b)=hvT a++hvT b:=by unfold hvT;rw[List.flatMap_append]
theorem Zl7(d:DB)(b:List DB):hvT (d::b)=((Z4 (Z6 d.l)).map fun id=>(id,d.o))++hvT b:=rfl
theorem Z7t{ds:List DB}{i:Nat}(hi:i<ds.length)(d:DB):(hvT (ds.set i d)).Perm (((Z4 (Z6 d.l)).map fun id=>(id,d.o))++hvT (ds.take i++ds.drop (i+1))):=by
 rw[List.set_eq_take_append_cons_drop,if_pos hi,Zhe,Zl7,Zhe,←List.append_assoc,←List.append_assoc]
 exact List.perm_append_comm.append_right _
theorem Z7u{ds:List DB}{i:Nat}(hi:i<ds.length):(hvT ds).Perm (((Z4 (Z6 ds[i].l)).map fun id=>(id,ds[i].o))++hvT (ds.take i++ds.drop (i+1))):=by
 have:=Z7t hi ds[i]
 rwa [List.set_getElem_self] at this
theorem Z43{ds:List DB}{i:Nat}(hi:i<ds.length){l':List Hp}{mb:Nat}(p:(Z4 (Z6 l')).Perm (Z4 (Z6 ds[i].l))):(hvT (ds.set i ⟨ds[i].o,mb,l'⟩)).Perm (hvT ds) :=
 (Z7t hi _).trans (((p.map _).append_right _).trans (Z7u hi).symm)
theorem Zla{ds:List DB}{i:Nat}(hi:i<ds.length){l':List Hp}{mb:Nat}{id:Int}(p:(Z4 (Z6 l')).Perm (id::Z4 (Z6 ds[i].l))):(hvT (ds.set i ⟨ds[i].o,mb,l'⟩)).Perm ((id,ds[i].o)::hvT ds):=by
 refine(Z7t hi _).trans (((p.map _).append_right _).trans ?_)
 rw[List.map_cons,List.cons_append]
 exact(Z7u hi).symm.cons _
theorem Zhg{ds:List DB}{id:Int}{p:Nat}:(id,p)∈hvT ds↔∃d∈ds,d.o=p∧id∈Z4 (Z6 d.l):=by
 unfold hvT
 rw[List.mem_flatMap]
 constructor
 ·rintro⟨d,hd,h⟩
  obtain⟨i,hi,e⟩:=List.mem_map.1 h
  obtain⟨rfl,rfl⟩:=Prod.mk.inj e
  exact⟨d,hd,rfl,hi⟩
 ·rintro⟨d,hd,rfl,hi⟩
  exact⟨d,hd,List.mem_map.2 ⟨id,hi,rfl⟩⟩
theorem Zhf(ds:List DB):(hvT ds).map Prod.fst=Z06 (Z9 ds):=by
 unfold hvT Z06 Z9
 rw[List.map_flatMap,List.flatMap_map]
 congr 1
 funext d
 rw[List.map_map]
 exact(List.map_congr_left fun _ _=>rfl).trans (List.map_id _)
theorem Zol(ds:List DB):(hvT ds).length=(Z06 (Z9 ds)).length:=by rw[←Zhf,List.length_map]
structure TbM(W:World)(o n:Nat)(C:Cps)(bb cp hb po:Nat)(ds:List DB)(hv:List (Int × Nat))(L:List Bool)(F:Nat→Prop):Prop where
 c0:W.cell? ⟨o,0,none⟩=some (ptN o)
 c1:W.cell? ⟨o,1,none⟩=some (.int .i64 C.s)
 c2:W.cell? ⟨o,2,none⟩=some (.int .i64 C.h)
 c3:W.cell? ⟨o,3,none⟩=some (.int .i64 C.r)
 c4:W.cell? ⟨o,4,none⟩=some (.int .i64 C.p)
 c5:W.cell? ⟨o,5,none⟩=some (ptN po)
 c6:W.cell? ⟨o,6,none⟩=some (.slice (some ⟨bb,0,none⟩) ds.length cp)
 c7:W.cell? ⟨o,7,none⟩=some (.map (some hb))
 row:∀i (hi:i<ds.length),W.cell? ⟨bb,i,none⟩=some (ptN ds[i].o)
 bl:bb<W.heap.size
 map:Zy W hb hv
 db:DtB W po n ds L F
 no:¬Z5z ds F o
 nb:¬Z5z ds F bb
 nh:¬Z5z ds F hb
 ob:bb≠hb
def TbJ(o bb hb:Nat)(ds:List DB)(F:Nat→Prop)(b:Nat):Prop:=b=o∨b=bb∨b=hb∨Z5z ds F b
section
variable {W W':World} {o n:Nat} {C:Cps} {bb cp hb po:Nat} {ds:List DB} {hv:List (Int × Nat)} {L L':List Bool} {F:Nat→Prop}
theorem TbM.ol(h:TbM W o n C bb cp hb po ds hv L F):o<W.heap.size:=World.block_lt_of_cell? _ _ h.c0
theorem TbM.oh(h:TbM W o n C bb cp hb po ds hv L F):o≠hb:=h.map.cellne h.c0
theorem TbM.lt(h:TbM W o n C bb cp hb po ds hv L F):∀b,TbJ o bb hb ds F b→b<W.heap.size:=by
 rintro b (rfl | rfl | rfl | e)
 ·exact h.ol
 ·exact h.bl
 ·exact h.map.lt
 ·exact h.db.lt b e
theorem TbM.tch{S:Nat→Prop}(h:TbM W o n C bb cp hb po ds hv L F)(t:Z3 S W W')(hS:∀b,TbJ o bb hb ds F b→¬S b):TbM W' o n C bb cp hb po ds hv L F:=by
 have ho:=hS o (.inl rfl)
 have hol:=h.ol
 exact⟨(t.cell hol ho).trans h.c0,(t.cell hol ho).trans h.c1,(t.cell hol ho).trans h.c2,(t.cell hol ho).trans h.c3,(t.cell hol ho).trans h.c4,(t.cell hol ho).trans h.c5,(t.cell hol ho).trans h.c6,(t.cell hol ho).trans h.c7,
  fun i hi=>(t.cell h.bl (hS bb (.inr (.inl rfl)))).trans (h.row i hi),lL0 h.bl t.size,h.map.tch t (hS hb (.inr (.inr (.inl rfl)))),h.db.tchS t (fun b e=>hS b (.inr (.inr (.inr e)))),h.no,h.nb,h.nh,h.ob⟩
theorem TbM.nw(h:TbM W o n C bb cp hb po ds hv L F)(g:Nw W W'):TbM W' o n C bb cp hb po ds hv L F:=h.tch (Z3.nw (S:=fun _=>False) g) (fun _ _ e=>e)
theorem TbM.call(h:TbM W o n C bb cp hb po ds hv L F){i:Nat}(hi:i<ds.length){l':List Hp}(d:V9 W ds[i].o ds[i].mb po n F ds[i].l W' l' L') :
  ∃F',TbM W' o n C bb cp hb po (ds.set i ⟨ds[i].o,ds[i].mb,l'⟩) hv L' F'∧(∀b,TbJ o bb hb (ds.set i ⟨ds[i].o,ds[i].mb,l'⟩) F' b→TbJ o bb hb ds F b∨W.heap.size≤b)∧Z3 (TbJ o bb hb ds F) W W':=by
 obtain⟨F',h1,h2,h3,h4⟩:=h.db.put hi d
 have hm:=gM0 hi
 have hin:=DtB.in_put (w:=W) (F:=F) (F':=F') hi h2 h4
 have hsub:∀b,(b=ds[i].mb∨F b)→Z5z ds F b:=fun b e=>e.elim (fun e=>.inr ⟨_,hm,.inr (.inl e)⟩) .inl
 have ho:¬(o=ds[i].mb∨F o):=fun e=>h.no (hsub _ e)
 have hb':¬(bb=ds[i].mb∨F bb):=fun e=>h.nb (hsub _ e)
 have hh:¬(hb=ds[i].mb∨F hb):=fun e=>h.nh (hsub _ e)
 have hol:=h.ol
 have hbl:=h.bl
 have hhl:=h.map.lt
 refine⟨F',⟨(h3.cell hol ho).trans h.c0,(h3.cell hol ho).trans h.c1,(h3.cell hol ho).trans h.c2,(h3.cell hol ho).trans h.c3,(h3.cell hol ho).trans h.c4,(h3.cell hol ho).trans h.c5,by rw[List.length_set];exact(h3.cell hol ho).trans h.c6,(h3.cell hol ho).trans h.c7,
  fun j hj=>?_,lL0 hbl h3.size,h.map.tch h3 hh,h1,fun e=>?_,fun e=>?_,fun e=>?_,h.ob⟩,fun b e=>?_,h3.mono fun b _ e=>.inr (.inr (.inr (hsub b e)))⟩
 ·rw[List.length_set] at hj
  refine(h3.cell hbl hb').trans ((h.row j hj).trans ?_)
  by_cases q:i=j
  ·subst q;rw[List.getElem_set_self]
  ·rw[List.getElem_set_ne q]
 ·exact(hin _ e).elim h.no (fun q=>by omega)
 ·exact(hin _ e).elim h.nb (fun q=>by omega)
 ·exact(hin _ e).elim h.nh (fun q=>by omega)
 ·rcases e with e | e | e | e
  ·exact .inl (.inl e)
  ·exact .inl (.inr (.inl e))
  ·exact .inl (.inr (.inr (.inl e)))
  ·exact(hin b e).imp (fun q=>.inr (.inr (.inr q))) id
theorem TbM.turn(h:TbM W o n C bb cp hb po ds hv L F){hv':List (Int × Nat)}(m:Zy W' hb hv')(g:W.mapTurned W' hb):TbM W' o n C bb cp hb po ds hv' L F∧Z3 (TbJ o bb hb ds F) W W':=by
 have t:=Vg g
 have hol:=h.ol
 have ho:¬(o=hb):=h.oh
 exact⟨⟨(t.cell hol ho).trans h.c0,(t.cell hol ho).trans h.c1,(t.cell hol ho).trans h.c2,(t.cell hol ho).trans h.c3,(t.cell hol ho).trans h.c4,(t.cell hol ho).trans h.c5,(t.cell hol ho).trans h.c6,(t.cell hol ho).trans h.c7,
  fun i hi=>(t.cell h.bl h.ob).trans (h.row i hi),lL0 h.bl t.size,m,h.db.tchS t (fun b e q=>h.nh (q▸e)),h.no,h.nb,h.nh,h.ob⟩,t.mono fun b _ e=>.inr (.inr (.inl e))⟩
end
def Tab(W:World)(o S n N k:Nat)(C:Cps)(hss:List (List Hq))(L:List Bool)(J:Nat→Prop):Prop :=
 ∃bb cp hb po ds hv F,TbM W o n C bb cp hb po ds hv L F∧hv.Perm (hvT ds)∧Z9 ds=hss∧J=TbJ o bb hb ds F∧Zv S n N k hss L
def Z1j(W:World)(o S n N k:Nat)(C:Cps)(hss:List (List Hq))(L:List Bool)(J:Nat→Prop)(W':World):Prop :=
 ∃J',Tab W' o S n N k C hss L J'∧(∀b,J' b→J b∨W.heap.size≤b)∧Z3 J W W'
section
variable {W W':World} {o S n N k:Nat} {C:Cps} {hss:List (List Hq)} {L:List Bool} {J:Nat→Prop}
theorem Tab.nw(h:Tab W o S n N k C hss L J)(g:Nw W W'):Tab W' o S n N k C hss L J:=by
 obtain⟨bb,cp,hb,po,ds,hv,F,h1,h2⟩:=h
 exact⟨bb,cp,hb,po,ds,hv,F,h1.nw g,h2⟩
theorem Tab.lt(h:Tab W o S n N k C hss L J):∀b,J b→b<W.heap.size:=by
 obtain⟨bb,cp,hb,po,ds,hv,F,h1,h2,h3,rfl,h5⟩:=h
 exact h1.lt
theorem Tab.ok(h:Tab W o S n N k C hss L J):Zv S n N k hss L:=by
 obtain⟨bb,cp,hb,po,ds,hv,F,h1,h2,h3,rfl,h5⟩:=h
 exact h5
theorem Tab.to(h:Tab W o S n N k C hss L J)(g:Nw W W')(k':Nat)(hk:k≤k'):Z1j W o S n N k' C hss L J W':=by
 obtain⟨bb,cp,hb,po,ds,hv,F,h1,h2,h3,rfl,h5⟩:=h
 exact⟨_,⟨bb,cp,hb,po,ds,hv,F,h1.nw g,h2,h3,rfl,h5.more hk⟩,fun b e=>.inl e,Z3.nw g⟩
end
theorem V8.nw{w w':World}{o:Nat}{v:Value}{hs:List Hq}(h:V8 w o v hs)(g:Nw w w'):V8 w' o v hs:=by
 obtain⟨lm,h1,h2,h3⟩:=h
 exact⟨lm,onw h1 g,h2,fun x hx=>(h3 x hx).nw g⟩
theorem Zot:(prog.info? 69).isSome=true:=by kernel_rfl
theorem Zff(a:Addr)(w:World):Sem.run prog (binOp .eql 23 (.pointer (some a)) (.pointer (some a))) w=.ok (.bool true) w:=by
 obtain⟨j,hj⟩:=Option.isSome_iff_exists.1 Zot
 exact run_eql_ptr_same w a underlying23 hj
theorem Vx(o:Nat)(w:World)(h:w.cell? ⟨o,0,none⟩=some (.pointer (some ⟨o,0,none⟩))):Calls prog 28 #[.pointer (some ⟨o,0,none⟩)] w fun e w'=>e=.returned (.bool true)∧w=w':=by
 have he:=Zff
 go_enter func28,ntmps28
 go_wp2
 go_ret
 exact⟨rfl,rfl⟩
def TSt(o bb cp nn:Nat)(y:World):Prop:=y.cell? ⟨o,0,none⟩=some (ptN o)∧y.cell? ⟨o,6,none⟩=some (.slice (some ⟨bb,0,none⟩) nn cp)
section
variable {W:World} {o n:Nat} {C:Cps} {bb cp hb po:Nat} {ds:List DB} {hv:List (Int × Nat)} {L:List Bool} {F:Nat→Prop}
theorem TbM.st(h:TbM W o n C bb cp hb po ds hv L F):TSt o bb cp ds.length W:=⟨h.c0,h.c6⟩
end
theorem Z5n{W:World}{o bb cp nn:Nat}(h:TSt o bb cp nn W)(t r:Int) :
  Calls prog 20 #[.pointer (some ⟨o,0,none⟩),.agg #[.int .i64 t,.int .i64 r]] W fun e W'=>e=.returned (.int .i64 (ofS t r nn))∧Nw W W':=by
 obtain⟨z,hz⟩:∃z,W.alloc (.cells #[.int .i64 t,.int .i64 r] 33)=z:=⟨_,rfl⟩
 have g1:Nw W z:=by rw[←hz];exact(Nw.refl W).alloc _
 have hal:=Z2 W (.cells #[.int .i64 t,.int .i64 r] 33)
 rw[hz] at hal
 have HZ:=hD0 hz
 have HG:=hD0 g1
 have HMd:=hD0 (Vx o z (g1.kp h.1))
 have HC:=hD0 (aI0 (g1.kp h.2) (aI0 hal (World.block_lt_of_cell? _ _ (g1.kp h.2))))
 clear hz g1 hal h
 go_enter func20,ntmps20
 go_wp2_with fail
 rw[HZ.out]
 generalize W.heap.size=pb at *
 refine HMd.out.mono ?_
 rintro e z' ⟨rfl,rfl⟩
 go_upto_region 3 with fail
 have hne:Nonempty (Wd (fun y=>Nw z y)):=⟨⟨_,Nw.refl _⟩⟩
 have C1:=fun(d:Wd (fun y=>Nw z y))=>d.h.kp HC.out.1
 have C2:=fun(d:Wd (fun y=>Nw z y))=>(Z0 (j:=0) (d.h.at' HC.out.2.1)).trans rfl
 have C3:=fun(d:Wd (fun y=>Nw z y))=>(Z0 (j:=1) (d.h.at' HC.out.2.1)).trans rfl
 go_wp2_with fail
 refine Yy (fun y=>Nw z y) (by kernel_rfl) (by kernel_rfl) (Nw.refl z).dr ?_
 repeat (first | go_big_quiet_step ((exact Z12 (fun a b h g=>h.trans g) (Zie t r nn _))) | quiet_step ((exact Z12 (fun a b h g=>h.trans g) (Zie t r nn _))))
 refine wpQuiet_nil ?_
 intro d
 have HD:=hD0 (HG.out.trans d.h)
 clear C1 C2 C3 hne
 revert HD
 generalize d.w=z3
 intro HD
 go_wp2
 go_ret
 exact⟨rfl,HD.out⟩
section
variable {W:World} {o n:Nat} {C:Cps} {bb cp hb po:Nat} {ds:List DB} {hv:List (Int × Nat)} {L:List Bool} {F:Nat→Prop}
theorem Zdf{hs:List Hq}{id:Int}:(Zs hs id).isSome=true↔id∈Z4 hs:=by
 cases e:Zs hs id with
 | none=>exact⟨(fun q=>by cases q),fun q=>absurd q (Zlv e)⟩
 | some h =>
  obtain⟨h1,r,h2⟩:=Vs e
  exact⟨fun _=>List.mem_flatMap.2 ⟨h,h1,Z95.1 ⟨r,h2⟩⟩,fun _=>rfl⟩
theorem Z7s{ds:List DB}{i:Nat}(hi:i<ds.length)(hi':i<(Z9 ds).length):(Z9 ds)[i]=Z6 ds[i].l:=by
 have:=Z9j hi
 rw[List.getElem?_eq_getElem hi'] at this
 exact Option.some.inj this
theorem Zw(ds:List DB):(Z9 ds).length=ds.length:=by unfold Z9;rw[List.length_map]
theorem Zon(p:hv.Perm (hvT ds)){i:Nat}(hi:i<ds.length){id:Int}(e:atT (Z9 ds) id=some i):(id,ds[i].o)∈hv:=by
 obtain⟨hi',h1,_⟩:=Z8s e
 rw[Z7s hi hi',Zdf] at h1
 exact p.mem_iff.2 (Zhg.2 ⟨ds[i],gM0 hi,rfl,h1⟩)
theorem Zl9(p:hv.Perm (hvT ds)){id:Int}(e:atT (Z9 ds) id=none):∀x∈hv,x.1≠id:=fun x hx q=>by
 obtain⟨x1,x2⟩:=x
 simp only at q
 subst q
 obtain⟨d,hd,_,h2⟩:=Zhg.1 (p.mem_iff.1 hx)
 have:=Zfr e _ (List.mem_map.2 ⟨d,hd,rfl⟩)
 rw[←Zdf,this] at h2
 cases h2
theorem Z4d(h:TbM W o n C bb cp hb po ds hv L F)(p:hv.Perm (hvT ds))(id:Int)(hf:Fit id){i:Nat}(hi:i<ds.length)(e:Y9 (Z9 ds) id=i) :
  Calls prog 30 #[.pointer (some ⟨o,0,none⟩),.int .i64 id] W fun e W'=>e=.returned (ptN ds[i].o)∧W=W':=by
 have HMd:=hD0 (Vx o W h.c0)
 have c6:=h.c6
 have c7:=h.c7
 unfold Y9 at e
 cases q:atT (Z9 ds) id with
 | some j =>
  rw[q] at e
  obtain rfl:j=i:=e
  have hl:=h.map.look_yes (Zon p hi q)
  generalize ds[j].o=x at *
  clear h p q hi hf
  go_enter func30,ntmps30
  go_wp2_with (go_at_call 28;refine HMd.out.mono ?_;rintro e w' ⟨rfl,rfl⟩)
  go_ret
  exact⟨rfl,rfl⟩
 | none =>
  rw[q] at e
  obtain rfl:0=i:=e
  have hl:=h.map.look_no hf (Zl9 p q)
  have hr:=h.row 0 hi
  have d1:decide ((0:Int)<(ds.length:Int))=true:=by simpa using hi
  generalize ds[0].o=x at *
  generalize ds.length=nn at *
  clear h p q hf
  go_enter func30,ntmps30
  go_wp2_with (go_at_call 28;refine HMd.out.mono ?_;rintro e w' ⟨rfl,rfl⟩)
  go_ret
  exact⟨rfl,rfl⟩
end
section
variable {W W1 W2 W':World} {o S n N k:Nat} {C:Cps} {bb cp hb po:Nat} {ds ds':List DB} {hv hv':List (Int × Nat)} {L L':List Bool} {F F':Nat→Prop}
theorem Z4c(hm1:TbM W1 o n C bb cp hb po ds' hv L' F')(hsub:∀b,TbJ o bb hb ds' F' b→TbJ o bb hb ds F b∨W.heap.size≤b)(ht:Z3 (TbJ o bb hb ds F) W W1)(p:hv.Perm (hvT ds')){hss:List (List Hq)}(e:Z9 ds'=hss)(ok:Zv S n N k hss L'):Z1j W o S n N k C hss L' (TbJ o bb hb ds F) W1 :=
 ⟨_,⟨bb,cp,hb,po,ds',hv,F',hm1,p,e,rfl,ok⟩,hsub,ht⟩
theorem Zal(hm1:TbM W1 o n C bb cp hb po ds' hv L' F')(hsub:∀b,TbJ o bb hb ds' F' b→TbJ o bb hb ds F b∨W.heap.size≤b)(ht:Z3 (TbJ o bb hb ds F) W W1)(m:Zy W2 hb hv')(g:W1.mapTurned W2 hb)(p:hv'.Perm (hvT ds')){hss:List (List Hq)}(e:Z9 ds'=hss)(ok:Zv S n N k hss L'):Z1j W o S n N k C hss L' (TbJ o bb hb ds F) W2:=by
 obtain⟨h2,t2⟩:=hm1.turn m g
 exact⟨_,⟨bb,cp,hb,po,ds',hv',F',h2,p,e,rfl,ok⟩,hsub,ht.trans' t2 fun b hb e=>(hsub b e).elim id (fun q=>by omega)⟩
theorem U2(ok:Zv S n N k (Z9 ds) L){i:Nat}(hi:i<ds.length):Ze n k (Z6 ds[i].l) (Z5q (Z9 ds) i) L:=DtB.inv ok.inv hi
theorem U4{i:Nat}(hi:i<ds.length):Z0d (Z9 ds) i=Z6 ds[i].l:=by
 have hi':i<(Z9 ds).length:=by rw[Zw];exact hi
 rw[Us hi',Z7s hi hi']
theorem Z8a{i:Nat}(hi:i<ds.length){l':List Hp}{k':Nat}(ok:Zv S n N k' ((Z9 ds).set i (Z6 l')) L'):Ze n k' (Z6 l') (Z5q (Z9 ds) i) L':=by
 have hi':i<((Z9 ds).set i (Z6 l')).length:=by rw[List.length_set,Zw];exact hi
 have b:=ok.inv.get hi'
 rw[List.getElem_set_self,Zai] at b
 exact b
theorem Zak(hm:TbM W o n C bb cp hb po ds hv L F)(p:hv.Perm (hvT ds))(ok:Zv S n N k (Z9 ds) L){i:Nat}(hi:i<ds.length){l':List Hp}(d:V9 W ds[i].o ds[i].mb po n F ds[i].l W' l' L){k':Nat}(ok':Zv S n N k' ((Z9 ds).set i (Z6 l')) L):Z1j W o S n N k' C ((Z9 ds).set i (Z6 l')) L (TbJ o bb hb ds F) W':=by
 obtain⟨F',h1,h2,h3⟩:=hm.call hi d
 exact Z4c h1 h2 h3 (p.trans (Z43 hi (Z54 (U2 ok hi) (Z8a hi ok'))).symm) (Z53 ds i _) ok'
end
theorem Zks{L:List Bool}(h:L.length≤128):Fit (Zm L:Int):=by
 have:=Z51 L
 unfold Fit
 omega
theorem Zok{S n N k:Nat}{ds:List DB}{hv:List (Int × Nat)}{L:List Bool}(p:hv.Perm (hvT ds))(ok:Zv S n N k (Z9 ds) L):∀x∈hv,x.1≠(Zm L:Int):=fun x hx e=>by
 have h1:x.1∈Z06 (Z9 ds):=by
  rw[←Zhf]
  exact List.mem_map.2 ⟨x,p.mem_iff.1 hx,rfl⟩
 have h2:=ok.inv.mem.1 h1
 rw[e,Zcu] at h2
 cases h2
theorem Zqk{S n N k:Nat}{ds:List DB}{hv:List (Int × Nat)}{L:List Bool}(p:hv.Perm (hvT ds))(ok:Zv S n N k (Z9 ds) L)(h:L.length≤128):hv.length<1000:=by
 rw[p.length_eq,Zol,ok.inv.ids.length_eq]
 have:(Zj (lnt L)).length=liv L:=by simp[Zj,Z82]
 rw[this]
 have:liv L≤L.length:=List.countP_le_length
 omega
theorem Zi7{t r:Int}(h:lvl t r≠-1):wfN (t,r):=by
 have:-1≤t∧t≤99∧-1≤r∧r≤99:=by
  unfold lvl at h
  split at h
  ·omega
  ·split at h<;>first | omega | (exact absurd rfl h)
 exact⟨WalkArith.wf_i64 (by omega),WalkArith.wf_i64 (by omega)⟩
theorem Zdd{t r n:Int}(h:ofS t r n≠-1):lvl t r≠-1:=fun e=>h (Zdc t r n e)
def Zas(o bb cp nn s B pb:Nat)(t r:Int)(y:World):Prop:=y.cell? ⟨o,6,none⟩=some (.slice (some ⟨bb,0,none⟩) nn cp)∧y.cell? ⟨bb,s,none⟩=some (ptN B)∧y.cell? ⟨pb,0,none⟩=some (.int .i64 t)∧y.cell? ⟨pb,1,none⟩=some (.int .i64 r)
theorem Zq6{W:World}{o S n N k:Nat}{C:Cps}{hss:List (List Hq)}{L:List Bool}{J:Nat→Prop}(h:Tab W o S n N k C hss L J)(hk:k≤800)(hn:n≤64)(hS:S≤16)(t r txn m:Int) :
  Calls prog 7 #[.pointer (some ⟨o,0,none⟩),.agg #[.int .i64 t,.int .i64 r],.int .i64 txn,.int .i64 m] W fun e W'=>e=.returned (.tuple #[.int .i64 (Z1l n hss L t r txn m).1,.bool (Z1l n hss L t r txn m).2.1,.int .i64 (Z1l n hss L t r txn m).2.2])∧Z1j W o S n N (k+1) C (V0 n hss L t r txn m).1 (V0 n hss L t r txn m).2 J W':=by
 have hTo:=fun(W':World) (g:Nw W W')=>h.to g (k+1) (Nat.le_succ k)
 obtain⟨bb,cp,hb,po,ds,hv,F,hm,hp,rfl,rfl,ok⟩:=h
 have okA:=ok.ask hS (by omega) t r txn m
 obtain⟨z,hz⟩:∃z,W.alloc (.cells #[.int .i64 t,.int .i64 r] 33)=z:=⟨_,rfl⟩
 have g1:Nw W z:=by rw[←hz];exact(Nw.refl W).alloc _
 have hal:=Z2 W (.cells #[.int .i64 t,.int .i64 r] 33)
 rw[hz] at hal
 have HZ:=hD0 hz
 have HMd:=hD0 (Vx o z (g1.kp hm.c0))
 have HSt:=hD0 (Z5n (hm.nw g1).st t r)
 have hal0:=hal
 obtain⟨pb,hpb⟩:∃pb,W.heap.size=pb:=⟨_,rfl⟩
 rw[hpb] at hal
 have c0:=Z0 (j:=0) hal
 have c1:=Z0 (j:=1) hal
 have cl:=Z1 hal
 have HPb:=hD0 hpb
 have hSl:(Z9 ds).length=ds.length:=Zw ds
 unfold Z1l V0 at *
 rw[hSl] at okA ⊢
 have hrg:=Z37 t r ds.length
 by_cases hbad:ofS t r ds.length = -1
 ·rw[hbad] at HSt
  simp only[hbad,if_true] at okA ⊢
  have HT:=hD0 hTo
  have HG:=hD0 g1
  clear hz g1 hal hal0 hrg okA hTo hm hp ok hpb
  go_enter func7,ntmps7
  go_wp2_with fail
  rw[HZ.out,HPb.out]
  refine HMd.out.mono ?_
  rintro e z' ⟨rfl,rfl⟩
  go_wp2_with fail
  refine HSt.out.mono ?_
  rintro e z2 ⟨rfl,g2⟩
  have HT2:=hD0 (HT.out z2 (HG.out.trans g2))
  clear g2 HT HG
  go_wp2
  exact bodyPost_ret (v:=.tuple #[.int .i64 0,.bool false,.int .i64 2]) (by simp[results,results7,go_sem, *]) rfl ⟨rfl,HT2.out⟩
 ·simp only[hbad,if_false] at okA ⊢
  have hlv:=Zi7 (Zdd hbad)
  obtain⟨s,hs⟩:∃s:Nat,ofS t r ds.length=s:=⟨(ofS t r ds.length).toNat,by omega⟩
  have hi:s<ds.length:=by omega
  rw[hs] at HSt
  simp only[hs,Int.toNat_natCast,U4 hi] at okA ⊢
  have d1:((s:Int)==-1)=false:=by rw[beq_eq_false_iff_ne];omega
  have d2:(s:Int)<(ds.length:Int):=by omega
  have HM:=hD0 (aI0 hm (aI0 hp (aI0 ok (aI0 hi (aI0 hlv okA)))))
  have HG:=hD0 (aI0 g1 hal0)
  clear hz g1 hal hal0 hrg okA hTo hm hp ok hpb hbad hs hlv
  go_enter func7,ntmps7
  go_wp2_with fail
  rw[HZ.out,HPb.out]
  refine HMd.out.mono ?_
  rintro e z' ⟨rfl,rfl⟩
  go_wp2_with fail
  refine HSt.out.mono ?_
  rintro e z2 ⟨rfl,g2⟩
  have HG2:=hD0 (HG.out.1.trans g2)
  have hb2:=g2.at' HG.out.2
  rw[HPb.out] at hb2
  have c0:=Z0 (j:=0) hb2
  have c1:=Z0 (j:=1) hb2
  have cl:=Z1 hb2
  have c6:=HG2.out.kp HM.out.1.c6
  have cr:=HG2.out.kp (HM.out.1.row s HM.out.2.2.2.1)
  have HA:=hD0 (Zq5 ((HM.out.1.nw HG2.out.dr).db.db _ (gM0 HM.out.2.2.2.1)) (U2 HM.out.2.2.1 HM.out.2.2.2.1) hk hn t r txn m HM.out.2.2.2.2.1)
  have c7:=HG2.out.kp HM.out.1.c7
  clear g2 HG HSt HMd
  go_wp2_with fail
  obtain⟨B,hB⟩:∃B,ds[s].o=B:=⟨_,rfl⟩
  rw[hB] at cr HA
  have hS0:Zas o bb cp ds.length s B pb t r z2.drew:=⟨c6,cr,c0,c1⟩
  have q1:∀x,Zas o bb cp ds.length s B pb t r x→x.cell? ⟨o,6,none⟩=some (.slice (some ⟨bb,0,none⟩) ds.length cp):=fun x h=>h.1
  have q2:∀x,Zas o bb cp ds.length s B pb t r x→x.cell? ⟨bb,s,none⟩=some (ptN B):=fun x h=>h.2.1
  have q3:∀x,Zas o bb cp ds.length s B pb t r x→x.cell? ⟨pb,0,none⟩=some (.int .i64 t):=fun x h=>h.2.2.1
  have q4:∀x,Zas o bb cp ds.length s B pb t r x→x.cell? ⟨pb,1,none⟩=some (.int .i64 r):=fun x h=>h.2.2.2
  have HBx:=hD0 (aI0 hB hb2)
  clear c0 c1 c6 cr c7 cl hB hb2
  refine Z5 [some true,some true,some true,some true,some true,some true,some true,some true,some true,some true,some false,none,some true,some true,some true,some true,some true,some true,some true] (Zas o bb cp ds.length s B pb t r) (by kernel_rfl) (by kernel_rfl) (by kernel_rfl) hS0 ?_
  clear hS0
  iterate 10 (refine HW.take' ?_;(apply Exists.intro;refine⟨Or.inl ⟨by rfl,?_⟩,?_⟩;(intro x hx;go_simp;first | done | with_reducible rfl));(try simp only[Act.put,List.setIfInBounds_toArray,List.set_cons_zero,List.set_cons_succ]))
  refine HW.off ?_
  refine HW.go (fun K hK=>?_)
  go_simp
  go_at_call 29
  refine HA.out.mono ?_
  rintro e w3 ⟨rfl,l',hl',d⟩
  rw[←HBx.out.1] at d
  have hz2:W.heap.size≤z2.drew.heap.size:=HG2.out.dr.sz
  obtain⟨F',hm1,hs1,ht1⟩:=(HM.out.1.nw HG2.out.dr).call hi d
  have hpn:¬TbJ o bb hb ds F pb:=fun e=>by have:=HM.out.1.lt _ e;have:=HPb.out;omega
  have hb3:=(ht1.block pb (Z1 HBx.out.2) hpn).trans HBx.out.2
  have hS3:Zas o bb cp ds.length s B pb t r w3:=by
   have e1:=hm1.c6
   have e2:=hm1.row s (by rw[List.length_set];exact hi)
   rw[List.length_set] at e1
   rw[List.getElem_set_self] at e2
   simp only[HBx.out.1] at e2
   exact⟨e1,e2,Z0 (j:=0) hb3,Z0 (j:=1) hb3⟩
  have HX:=hD0 (show(∀b,TbJ o bb hb (ds.set s ⟨ds[s].o,ds[s].mb,l'⟩) F' b→TbJ o bb hb ds F b∨W.heap.size≤b)∧Z3 (TbJ o bb hb ds F) W w3 from⟨fun b e=>(hs1 b e).imp id (fun q=>Nat.le_trans hz2 q),(Z3.nw HG2.out.dr).trans ht1⟩)
  have HM1:=hD0 hm1
  have HBx2:Hid (ds[s].o=B):=HBx.out.1
  refine hK.out _ _ hS3 ?_
  intro _
  clear hK K d hm1 hs1 ht1 hpn hb3 HA HBx hz2 q1 q2 q3 q4
  (try simp only[Act.put,List.setIfInBounds_toArray,List.set_cons_zero,List.set_cons_succ])
  have okA:=HM.out.2.2.2.2.2
  have he3:Z9 (ds.set s ⟨ds[s].o,ds[s].mb,l'⟩)=(Z9 ds).set s (Z6 l'):=Z53 ds s _
  by_cases he:Yb n (Z6 ds[s].l) L t r txn m=0
  ·obtain⟨_,hfl,_⟩:=Z3y (U2 HM.out.2.2.1 hi) he
   have eS:(Yn n (Z6 ds[s].l) L t r txn m).2=tkL L:=by unfold Yn;rw[if_pos he]
   have eR:Z0o n (Z6 ds[s].l) L t r txn m=((Zm L:Int),(Ye (hdB (Z6 ds[s].l) t r).W (hdB (Z6 ds[s].l) t r).q (Zm L) txn m).2.2,0):=by unfold Z0o;rw[if_pos he]
   have HeR:=hD0 eR
   rw[eR]
   revert HeR
   generalize (Ye (hdB (Z6 ds[s].l) t r).W (hdB (Z6 ds[s].l) t r).q (Zm L) txn m).2.2=G
   intro HeR
   have hpt:(Z4 (Z6 l')).Perm ((Zm L:Int)::Z4 (Z6 ds[s].l)):=by
    have q:=Z8a (ds:=ds) (l':=l') hi (by rw[hl'];exact okA)
    rw[eS] at q
    exact Zhk (U2 HM.out.2.2.1 hi) hfl q
   have hls:L.length≤128:=HM.out.1.db.pol.sz
   have HTk:=hD0 (aI0 hpt (aI0 (Zok HM.out.2.1 HM.out.2.2.1) (aI0 (Zqk HM.out.2.1 HM.out.2.2.1 hls) (Zks hls))))
   generalize (Zm L:Int)=fi at *
   clear eR hfl hpt hls
   simp only
   iterate 7 (refine HW.take' ?_;(apply Exists.intro;refine⟨Or.inl ⟨by rfl,?_⟩,?_⟩;(intro x hx;go_simp;first | done | with_reducible rfl));(try simp only[Act.put,List.setIfInBounds_toArray,List.set_cons_zero,List.set_cons_succ]))
   refine HW.end_ ?_
   refine NoPanic.normal ?_
   have c7:=(HM1.out.nw (Nw.refl _).dr).c7
   have c6:=(HM1.out.nw (Nw.refl _).dr).c6
   have cr:=hS3.2.1
   obtain⟨w4,hrun,hm4,htn⟩:=(HM1.out.nw (Nw.refl _).dr).map.put HTk.out.2.2.1 HTk.out.2.2.2 B HTk.out.2.1
   rw[List.length_set] at c6
   have HU:=hD0 hrun
   have HR:=hD0 (Zal (HM1.out.nw (Nw.refl _).dr) HX.out.1 (HX.out.2.trans (Z3.nw (Nw.refl _).dr)) hm4 htn (((HM.out.2.1.cons _).trans (by rw[←HBx2.out];exact(Zla hi HTk.out.1).symm))) (he3.trans (by rw[hl'])) okA)
   clear hS3 HM1 HX hm4 htn hrun HTk okA he3 hl'
   go_wp2_with fail
   refine wp_region_still_tail 12 (by kernel_rfl) (by kernel_rfl) ?_
   simp only[List.take_succ_cons,List.take_zero,List.drop_succ_cons,List.drop_zero]
   iterate 12 still_step
   try refine wpStill_nil ?_
   change wpList _ _ _ _ _ w3.drew
   go_wp2_with (refine Z5d rfl (.tmp 40) (.tmp 41) (.tmp 48) 66 rfl _ _ _ _ rfl rfl rfl HU.out ?_)
   exact bodyPost_ret (v:=.tuple #[.int .i64 fi,.bool G,.int .i64 0]) (by simp[results,results7,go_sem, *]) rfl ⟨by rw[HeR.out],HR.out⟩
  ·obtain⟨eS,eR,_⟩:=Z7b he
   have HR:=hD0 (show Z1j W o S n N (k+1) C ((Z9 ds).set s (Yn n (Z6 ds[s].l) L t r txn m).1) (Yn n (Z6 ds[s].l) L t r txn m).2 (TbJ o bb hb ds F) w3 from
    Z4c HM1.out HX.out.1 HX.out.2 (HM.out.2.1.trans (Z43 hi (by
     have q:=Z8a (ds:=ds) (l':=l') hi (by rw[hl'];exact okA)
     rw[eS] at q
     exact Z54 (U2 HM.out.2.2.1 hi) q)).symm) (he3.trans (by rw[hl'])) okA)
   obtain⟨E,hE⟩:∃E,Yb n (Z6 ds[s].l) L t r txn m=E:=⟨_,rfl⟩
   rw[hE] at he eR
   have HeR:=hD0 eR
   rw[eR]
   have dE:(E==0)=false:=by simpa using he
   clear hS3 HM1 HX okA he3 hl' eR hE he eS
   simp only
   iterate 7 (refine HW.take' ?_;(apply Exists.intro;refine⟨Or.inl ⟨by rfl,?_⟩,?_⟩;(intro x hx;go_simp;first | done | with_reducible rfl));(try simp only[Act.put,List.setIfInBounds_toArray,List.set_cons_zero,List.set_cons_succ]))
   refine HW.end_ ?_
   refine NoPanic.normal ?_
   go_wp2
   exact bodyPost_ret (v:=.tuple #[.int .i64 0,.bool false,.int .i64 E]) (by simp[results,results7,go_sem, *]) rfl ⟨by rw[HeR.out],HR.out⟩
theorem Zqj{L:List Bool}{i:Nat}(hi:i<L.length)(e:L[i]=true):hsL (gvL L (i:Int)) (i:Int)=false:=by
 rw[Z42 L i (by rw[Yc hi];exact e)]
 simp[hsL,hi]
theorem Zgl:∀args w,(callFunc 33 args).run prog w=.ok (.enter 33 args) w:=enters_of func33 (by kernel_rfl) rfl
theorem Zbc:∀args w,(callFunc 34 args).run prog w=.ok (.enter 34 args) w:=enters_of func34 (by kernel_rfl) rfl
def Z8n(W:World)(o S n N k:Nat)(C:Cps)(R:List Int × Int)(X:List (List Hq) × List Bool)(J:Nat→Prop)(e:Ending)(W':World):Prop :=
 ∃vi,e=.returned (.tuple #[vi,.int .i64 R.2])∧IS W' vi R.1∧Z1j W o S n N k C X.1 X.2 J W'∧∀b,vi.ownBlock=some b→W.heap.size≤b
def Z75(hs hs':List Hq)(L L':List Bool)(id E:Int):Prop:=((E≠0∨hsL L' id=true)→(Z4 hs').Perm (Z4 hs))∧(E=0→hsL L' id=false→(Z4 hs).Perm (id::Z4 hs')∧Fit id)
theorem Z75.same{hs hs':List Hq}{L L':List Bool}{id E:Int}(p:(Z4 hs').Perm (Z4 hs))(h:E=0→hsL L' id=true):Z75 hs hs' L L' id E:=⟨fun _=>p,fun e q=>by rw[h e] at q;cases q⟩
section
variable {most k k':Nat} {hs hs':List Hq} {X:List Int} {L L':List Bool}
theorem Zgy{L:List Bool}{id:Int}(hl:L.length≤128)(h:hsL L id=true):Fit id:=by
 obtain⟨i,rfl,hi,_⟩:=Z30 h
 unfold Fit
 omega
theorem Z9k(b:Ze most k hs X L){id:Int}(h:hsL L id=true)(b':Ze most k' hs' X (gvL L id)):(Z4 hs).Perm (id::Z4 hs'):=by
 obtain⟨i,rfl,hi,e⟩:=Z30 h
 exact Zhh b hi e b'
theorem Zd1{id:Int}(h:hsL L id=true):hsL (gvL L id) id=false:=by
 obtain⟨i,rfl,hi,e⟩:=Z30 h
 exact Zqj hi e
theorem Zoy(b:Ze most k hs X L)(hl:L.length≤128)(id:Int):Z75 hs (U5 hs L id).1 L (U5 hs L id).2 id (Z5a hs id).2:=by
 have b':=Z7e b id
 cases e:Zs hs id with
 | none =>
  have e1:U5 hs L id=(hs,L):=by unfold U5;rw[e]
  have e2:Z5a hs id=([],5):=by unfold Z5a;rw[e]
  rw[e1,e2]
  exact Z75.same (.refl _) (fun q=>absurd q (show ¬(5:Int)=0 by decide))
 | some h =>
  have hm:id∈Z4 hs:=Zdf.1 (by rw[e];rfl)
  have hL:=b.mem hm
  have e1:(U5 hs L id).2=gvL L id:=by unfold U5;rw[e]
  rw[e1] at b' ⊢
  exact⟨(fun q=>by
   rcases q with q | q
   ·exact absurd (by unfold Z5a;rw[e]) q
   ·rw[Zd1 hL] at q;cases q),fun _ _=>⟨Z9k b hL b',Zgy hl hL⟩⟩
theorem Znm(b:Ze most k hs X L)(hl:L.length≤128)(id:Int):Z75 hs (V6 hs L id).1 L (V6 hs L id).2 id (Z3q hs id).2:=by
 have b':=Z7d b id
 cases e:Zs hs id with
 | none =>
  have e1:V6 hs L id=(hs,L):=by unfold V6;rw[e]
  have e2:Z3q hs id=([],5):=by unfold Z3q;rw[e]
  rw[e1,e2]
  exact Z75.same (.refl _) (fun q=>absurd q (show ¬(5:Int)=0 by decide))
 | some h =>
  have hm:id∈Z4 hs:=Zdf.1 (by rw[e];rfl)
  have hL:=b.mem hm
  by_cases h1:0<(rqB h id).sn
  ·by_cases h2:(rqB h id).md=0
   ·have e1:(V6 hs L id).2=gvL L id:=by unfold V6;rw[e];simp[h1,h2]
    rw[e1] at b' ⊢
    exact⟨(fun q=>by
     rcases q with q | q
     ·exact absurd (by unfold Z3q;rw[e];simp[h1]) q
     ·rw[Zd1 hL] at q;cases q),fun _ _=>⟨Z9k b hL b',Zgy hl hL⟩⟩
   ·have e1:(V6 hs L id).2=L:=by unfold V6;rw[e];simp[h1,h2]
    rw[e1] at b' ⊢
    exact Z75.same (Z54 b b') (fun _=>hL)
  ·have e1:V6 hs L id=(hs,L):=by unfold V6;rw[e];simp[h1]
   rw[e1]
   exact Z75.same (.refl _) (fun _=>hL)
end
theorem Zl8{ds:List DB}{i:Nat}(hi:i<ds.length){l':List Hp}{mb:Nat}{id:Int}{hv:List (Int × Nat)}(p:hv.Perm (hvT ds))(hne:hv.Pairwise fun x y=>x.1≠y.1)(q:(Z4 (Z6 ds[i].l)).Perm (id::Z4 (Z6 l'))):(hv.filter fun x=>!decide (x.1=id)).Perm (hvT (ds.set i ⟨ds[i].o,mb,l'⟩)):=by
 have h1:hv.Perm ((id,ds[i].o)::hvT (ds.set i ⟨ds[i].o,mb,l'⟩)):=by
  refine p.trans ((Z7u hi).trans ?_)
  refine(((q.map _).append_right _)).trans ?_
  rw[List.map_cons,List.cons_append]
  exact(Z7t hi ⟨ds[i].o,mb,l'⟩).symm.cons _
 have h2:((id,ds[i].o)::hvT (ds.set i ⟨ds[i].o,mb,l'⟩)).Pairwise fun x y=>x.1≠y.1:=(h1.pairwise_iff (fun {a b} (e:a.1≠b.1)=>e.symm)).1 hne
 obtain⟨h3,_⟩:=List.pairwise_cons.1 h2
 refine(h1.filter _).trans ?_
 rw[List.filter_cons,if_neg (by simp),Z91 (fun x hx=>(h3 x hx).symm)]
theorem Zgr{W:World}{o S n N k:Nat}{C:Cps}{bb cp hb po:Nat}{ds:List DB}{hv:List (Int × Nat)}{L:List Bool}{F:Nat→Prop}(hm:TbM W o n C bb cp hb po ds hv L F)(hp:hv.Perm (hvT ds))(ok:Zv S n N k (Z9 ds) L)(id:Int)(hf:Fit id){i:Nat}(hi:i<ds.length)(hw:Y9 (Z9 ds) id=i)
  (g:Nat) (eg:∀args w,(callFunc g args).run prog w=.ok (.enter g args) w) (R:List Int × Int) (X:List Hq × List Bool)
  (hC:Calls prog g #[ptN ds[i].o,.int .i64 id] W (Zay W ds[i].o ds[i].mb po n F ds[i].l R X)) (hI:Z75 (Z6 ds[i].l) X.1 L X.2 id R.2) (okX:Zv S n N (k+1) ((Z9 ds).set i X.1) X.2) :
  Calls prog 32 #[.pointer (some ⟨o,0,none⟩),.int .i64 id,.func (.func g) #[] #[]] W (Z8n W o S n N (k+1) C R ((Z9 ds).set i X.1,X.2) (TbJ o bb hb ds F)):=by
 have HWi:=hD0 (Z4d hm hp id hf hi hw)
 have HC:=hD0 hC
 have HM:=hD0 (aI0 hm (aI0 hp (aI0 ok (aI0 hi (aI0 hI okX)))))
 clear hm hp ok hf hw hC hI okX
 go_enter func32,ntmps32
 go_wp2_with fail
 refine HWi.out.mono ?_
 rintro e w' ⟨rfl,rfl⟩
 go_wp2_with fail
 refine HC.out.mono ?_
 rintro e w1 ⟨vi,l',rfl,his,hl',d,hnew⟩
 obtain⟨RI,E⟩:=R
 obtain⟨hs',L'⟩:=X
 simp only at his hl' d ⊢
 obtain⟨F',hm1,hs1,ht1⟩:=HM.out.1.call hi d
 have hw1:W.heap.size≤w1.heap.size:=ht1.size
 have he1:Z9 (ds.set i ⟨ds[i].o,ds[i].mb,l'⟩)=(Z9 ds).set i hs':=by rw[Z53,hl']
 have HI:=HM.out.2.2.2.2.1
 have hk1:=HM.out.2.2.2.2.2
 simp only at HI hk1
 by_cases hE:E=0
 ·subst hE
  obtain⟨g',v',l1,hpo,hFp⟩:=hm1.db.pol
  have HHas:=hD0 (Zbj hpo id)
  have c5:=hm1.c5
  obtain⟨b,hb'⟩:∃b,hsL L' id=b:=⟨_,rfl⟩
  rw[hb'] at HHas
  cases b
  ·obtain⟨hperm,hfit⟩:=HI.2 rfl hb'
   rw[←hl'] at hperm
   obtain⟨w2,hrun,hm2,htn⟩:=hm1.map.del hfit (0:TypeId)
   have c7:=hm1.c7
   have HR:=hD0 (show Z8n W o S n N (k+1) C (RI,0) ((Z9 ds).set i hs',L') (TbJ o bb hb ds F) (.returned (.tuple #[vi,.int .i64 0])) w2 from
    ⟨vi,rfl,Z46 his (Vg htn) (fun q hq e=>by have:=hnew q hq;have:=HM.out.1.map.lt;omega),Zal hm1 hs1 ht1 hm2 htn (Zl8 hi HM.out.2.1 hm1.map.ne hperm) he1 hk1,hnew⟩)
   have HU:=hD0 hrun
   clear hm1 hs1 ht1 hpo hFp hperm hfit hrun hm2 htn his d hl' hnew he1 HI hk1 hb' HC
   go_wp2_with (first | (go_at_call 58;refine HHas.out.mono ?_;rintro e w' ⟨rfl,rfl⟩) | (refine Z5c rfl (.tmp 33) (.tmp 34) 66 3 rfl _ _ _ rfl rfl HU.out ?_))
   exact bodyPost_ret (v:=.tuple #[vi,.int .i64 0]) (by simp[results,results32,go_sem, *]) rfl HR.out
  ·have hperm:=HI.1 (.inr hb')
   rw[←hl'] at hperm
   have HR:=hD0 (show Z8n W o S n N (k+1) C (RI,0) ((Z9 ds).set i hs',L') (TbJ o bb hb ds F) (.returned (.tuple #[vi,.int .i64 0])) w1 from
    ⟨vi,rfl,his,Z4c hm1 hs1 ht1 (HM.out.2.1.trans (Z43 hi hperm).symm) he1 hk1,hnew⟩)
   clear hm1 hs1 ht1 hpo hFp hperm his d hl' hnew he1 HI hk1 hb' HC
   go_wp2_with (go_at_call 58;refine HHas.out.mono ?_;rintro e w' ⟨rfl,rfl⟩)
   exact bodyPost_ret (v:=.tuple #[vi,.int .i64 0]) (by simp[results,results32,go_sem, *]) rfl HR.out
 ·have hperm:=HI.1 (.inl hE)
  rw[←hl'] at hperm
  have dE:(E==0)=false:=by simpa using hE
  have HR:=hD0 (show Z8n W o S n N (k+1) C (RI,E) ((Z9 ds).set i hs',L') (TbJ o bb hb ds F) (.returned (.tuple #[vi,.int .i64 E])) w1 from
   ⟨vi,rfl,his,Z4c hm1 hs1 ht1 (HM.out.2.1.trans (Z43 hi hperm).symm) he1 hk1,hnew⟩)
  clear hm1 hs1 ht1 hperm his d hl' hnew he1 HI hk1 HC hE
  go_wp2
  exact bodyPost_ret (v:=.tuple #[vi,.int .i64 E]) (by simp[results,results32,go_sem, *]) rfl HR.out
section
variable {W:World} {o S n N k:Nat} {C:Cps} {hss:List (List Hq)} {L:List Bool} {J:Nat→Prop}
theorem Zll(h:Tab W o S n N k C hss L J)(hk:k≤800)(hn:n≤64)(hS:0<S)(id:Int)(hf:Fit id) :
  Calls prog 10 #[.pointer (some ⟨o,0,none⟩),.int .i64 id] W (Z8n W o S n N (k+1) C (Zbt hss id) (Z5b hss L id) J):=by
 obtain⟨bb,cp,hb,po,ds,hv,F,hm,hp,rfl,rfl,ok⟩:=h
 have hi0:=Z0n (by rw[ok.sl];exact hS) id
 have hi:Y9 (Z9 ds) id<ds.length:=by rw[←Zw];exact hi0
 have okX:=ok.lv hS id
 unfold Zbt Z5b at *
 rw[U4 hi] at okX ⊢
 have hls:=hm.db.pol.sz
 have HE:=hD0 (Zgr hm hp ok id hf hi rfl _ Zgl _ _ (Zlk (hm.db.db _ (gM0 hi)) (U2 ok hi) hk hn id) (Zoy (U2 ok hi) hls id) okX)
 obtain⟨R,hR⟩:∃R,Z5a (Z6 ds[Y9 (Z9 ds) id].l) id=R:=⟨_,rfl⟩
 rw[hR] at HE ⊢
 obtain⟨RI,E⟩:=R
 clear hm hp ok hi0 okX hR hls
 go_enter func10,ntmps10
 go_wp2_with fail
 refine HE.out.mono ?_
 rintro e w1 ⟨vi,rfl,h1,h2,h3⟩
 have HR:=hD0 (show Z8n W o S n N (k+1) C (RI,E) ((Z9 ds).set (Y9 (Z9 ds) id) (U5 (Z6 ds[Y9 (Z9 ds) id].l) L id).1,(U5 (Z6 ds[Y9 (Z9 ds) id].l) L id).2) (TbJ o bb hb ds F) (.returned (.tuple #[vi,.int .i64 E])) w1 from⟨vi,rfl,h1,h2,h3⟩)
 clear h1 h2 h3 HE
 simp only
 go_wp2
 exact bodyPost_ret (v:=.tuple #[vi,.int .i64 E]) (by simp[results,results10,go_sem, *]) rfl HR.out
theorem Zdu(h:Tab W o S n N k C hss L J)(hk:k≤800)(hn:n≤64)(hS:0<S)(id:Int)(hf:Fit id) :
  Calls prog 11 #[.pointer (some ⟨o,0,none⟩),.int .i64 id] W (Z8n W o S n N (k+1) C (Zfl hss id) (Z77 hss L id) J):=by
 obtain⟨bb,cp,hb,po,ds,hv,F,hm,hp,rfl,rfl,ok⟩:=h
 have hi0:=Z0n (by rw[ok.sl];exact hS) id
 have hi:Y9 (Z9 ds) id<ds.length:=by rw[←Zw];exact hi0
 have okX:=ok.ab hS id
 unfold Zfl Z77 at *
 rw[U4 hi] at okX ⊢
 have hls:=hm.db.pol.sz
 have HE:=hD0 (Zgr hm hp ok id hf hi rfl _ Zbc _ _ (Zdt (hm.db.db _ (gM0 hi)) (U2 ok hi) hk hn id) (Znm (U2 ok hi) hls id) okX)
 obtain⟨R,hR⟩:∃R,Z3q (Z6 ds[Y9 (Z9 ds) id].l) id=R:=⟨_,rfl⟩
 rw[hR] at HE ⊢
 obtain⟨RI,E⟩:=R
 clear hm hp ok hi0 okX hR hls
 go_enter func11,ntmps11
 go_wp2_with fail
 refine HE.out.mono ?_
 rintro e w1 ⟨vi,rfl,h1,h2,h3⟩
 have HR:=hD0 (show Z8n W o S n N (k+1) C (RI,E) ((Z9 ds).set (Y9 (Z9 ds) id) (V6 (Z6 ds[Y9 (Z9 ds) id].l) L id).1,(V6 (Z6 ds[Y9 (Z9 ds) id].l) L id).2) (TbJ o bb hb ds F) (.returned (.tuple #[vi,.int .i64 E])) w1 from⟨vi,rfl,h1,h2,h3⟩)
 clear h1 h2 h3 HE
 simp only
 go_wp2
 exact bodyPost_ret (v:=.tuple #[vi,.int .i64 E]) (by simp[results,results11,go_sem, *]) rfl HR.out
theorem Zfj(h:Tab W o S n N k C hss L J)(hk:k≤800)(hn:n≤64)(hS:0<S)(id a:Int)(hf:Fit id) :
  Calls prog 9 #[.pointer (some ⟨o,0,none⟩),.int .i64 id,.int .i64 a] W fun e W'=>e=.returned (.tuple #[.bool (Zjr hss id a),.int .i64 (Zjq hss id a)])∧Z1j W o S n N (k+1) C (Zca hss id a) L J W':=by
 obtain⟨bb,cp,hb,po,ds,hv,F,hm,hp,rfl,rfl,ok⟩:=h
 have hi0:=Z0n (by rw[ok.sl];exact hS) id
 have hi:Y9 (Z9 ds) id<ds.length:=by rw[←Zw];exact hi0
 have okX:=ok.up hS (by omega) id a
 unfold Zjr Zjq Zca at *
 rw[U4 hi] at okX ⊢
 have HW:=hD0 (Z4d hm hp id hf hi rfl)
 have HU:=hD0 (Zfi (hm.db.db _ (gM0 hi)) (U2 ok hi) hk hn id a)
 have HM:=hD0 (aI0 hm (aI0 hp (aI0 ok okX)))
 clear hm hp ok hi0 okX
 go_enter func9,ntmps9
 go_wp2_with fail
 refine HW.out.mono ?_
 rintro e w' ⟨rfl,rfl⟩
 go_wp2_with fail
 refine HU.out.mono ?_
 rintro e w1 ⟨rfl,l',h1,d⟩
 have okX:=HM.out.2.2.2
 rw[←h1] at okX
 have hR:=Zak HM.out.1 HM.out.2.1 HM.out.2.2.1 hi d okX
 rw[h1] at hR
 have HR:=hD0 hR
 clear d h1 okX hR HM HU HW
 go_wp2
 exact bodyPost_ret (v:=.tuple #[.bool (Z8h (Z6 ds[Y9 (Z9 ds) id].l) id a),.int .i64 (Z2q (Z6 ds[Y9 (Z9 ds) id].l) id a)]) (by simp[results,results9,go_sem, *]) rfl ⟨rfl,HR.out⟩
theorem Zod(h:Tab W o S n N k C hss L J)(hk:k≤800)(hn:n≤64)(hS:0<S)(id a:Int)(hf:Fit id) :
  Calls prog 12 #[.pointer (some ⟨o,0,none⟩),.int .i64 id,.int .i64 a] W fun e W'=>e=.returned (.int .i64 (Zl2 hss id a))∧Z1j W o S n N (k+1) C (Zed hss id a) L J W':=by
 obtain⟨bb,cp,hb,po,ds,hv,F,hm,hp,rfl,rfl,ok⟩:=h
 have hi0:=Z0n (by rw[ok.sl];exact hS) id
 have hi:Y9 (Z9 ds) id<ds.length:=by rw[←Zw];exact hi0
 have okX:=ok.hn hS id a
 unfold Zl2 Zed at *
 rw[U4 hi] at okX ⊢
 have HW:=hD0 (Z4d hm hp id hf hi rfl)
 have HU:=hD0 (Zoc (hm.db.db _ (gM0 hi)) (U2 ok hi) hk hn id a)
 have HM:=hD0 (aI0 hm (aI0 hp (aI0 ok okX)))
 clear hm hp ok hi0 okX
 go_enter func12,ntmps12
 go_wp2_with fail
 refine HW.out.mono ?_
 rintro e w' ⟨rfl,rfl⟩
 go_wp2_with fail
 refine HU.out.mono ?_
 rintro e w1 ⟨rfl,l',h1,d⟩
 have okX:=HM.out.2.2.2
 rw[←h1] at okX
 have hR:=Zak HM.out.1 HM.out.2.1 HM.out.2.2.1 hi d okX
 rw[h1] at hR
 have HR:=hD0 hR
 clear d h1 okX hR HM HU HW
 go_wp2
 go_ret
 exact⟨rfl,HR.out⟩
end
section
open Go.RowKit Go.Sort Go.Shelf
theorem Zoj{w:World}{g:Nat}{cur F:Array Value}{e:TypeId}(hb:w.heap[g]?=some (.cells cur e (0,0)))(ht:cur.toList.take F.size=F.toList):Holds id w g 0 F:=by
 intro j hj
 refine⟨?_,by simp[World.frozen?,hb]⟩
 have h1:(cur.toList.take F.size)[j]?=F.toList[j]?:=by rw[ht]
 rw[List.getElem?_take_of_lt hj] at h1
 simp only[World.cell?,hb,Nat.zero_add]
 simp only[Option.isSome_none,Bool.false_eq_true,if_false]
 rw[←Array.getElem?_toList,h1]
 simp[hj]
theorem Zqe{w:World}{g n:Nat}{os:Array Obj}{cur:Array Value}{e:TypeId}{fr:Nat × Nat}(F:Array Value)(hb:w.heap[g]?=some (.cells cur e fr)) :
  (grow (putRow id (Sort.ahead w n) g 0 F) os).heap[g]?=some (.cells (putCells id 0 F cur) e fr):=by
 have hg:g<w.heap.size:=(Array.getElem?_eq_some_iff.1 hb).1
 rw[heap_grow_old _ _ (by simpa using hg)]
 simp[putRow,mapBlock,Sort.ahead,Array.getElem?_modify,hb,onCells]
theorem Zro{w:World}{g n:Nat}{os:Array Obj}(F:Array Value):Z3 (fun b=>b=g) w (grow (putRow id (Sort.ahead w n) g 0 F) os):=by
 refine⟨rfl,rfl,rfl,by simp,fun k hk hne=>?_⟩
 rw[heap_grow_old _ _ (by simpa using hk)]
 have:g≠k:=fun e=>hne e.symm
 simp[putRow,mapBlock,Sort.ahead,Array.getElem?_modify,this]
theorem Zqx(cur F:Array Value)(h:F.size≤cur.size):(putCells id 0 F cur).toList.take F.size=F.toList:=by
 apply List.ext_getElem?
 intro j
 by_cases hj:j<F.size
 ·rw[List.getElem?_take_of_lt hj,Array.getElem?_toList]
  simp[putCells,hj,show j<cur.size by omega]
 ·rw[List.getElem?_take_eq_none (by omega),List.getElem?_eq_none (by simp;omega)]
theorem Zn7{α:Type}[Inhabited α]{sz:Nat}{row:α→List Value}(hz:0<sz)(hl:∀a,(row a).length=sz)(ss:List α):flatK row sz ss.toArray=⟨Z8 row ss⟩:=by
 have hlen:(Z8 row ss).length=ss.length*sz:=Yf hl ss
 apply Array.ext
 ·rw[size_flatK];simp[hlen]
 ·intro t h1 h2
  rw[size_flatK] at h1
  have h1':t<ss.length*sz:=by simpa using h1
  have hd:t/sz<ss.length:=Nat.div_lt_of_lt_mul (by rwa [Nat.mul_comm])
  have hm:t%sz<sz:=Nat.mod_lt _ hz
  have h3:=U6 hl ss (t/sz) (t%sz) hd hm
  rw[show t/sz*sz+t%sz=t by rw[Nat.mul_comm];exact Nat.div_add_mod t sz] at h3
  have e1:=get_flatK row sz ss.toArray t h1
  rw[getElem!_pos _ t (by rw[size_flatK];exact h1)] at e1
  rw[e1,getElem!_pos ss.toArray (t/sz) (by simpa using hd)]
  have e2:(⟨Z8 row ss⟩:Array Value)[t]?=(row ss[t/sz])[t%sz]?:=by
   rw[←h3];simp
  rw[Array.getElem?_eq_getElem h2] at e2
  simp only[List.getElem_toArray]
  rw[getElem!_pos _ _ (by rw[hl];exact hm)]
  rw[List.getElem?_eq_getElem (by rw[hl];exact hm)] at e2
  exact(Option.some.inj e2).symm
theorem Zqu{α:Type}[Inhabited α]{d d':Array α}(h:PermIn 0 d.size d d'):d'.toList.Perm d.toList:=by
 obtain⟨h1,_,h3⟩:=h
 have e1:d'.extract 0 d.size=d':=by rw[←h1];exact Array.extract_size
 have e2:d.extract 0 d.size=d:=Array.extract_size
 rwa [e1,e2] at h3
theorem Zm7{α:Type}[Inhabited α]{lt:α→α→Bool}{d':Array α}{n:Nat}(hn:d'.size=n)(h:SortedIn lt 0 n d'):d'.toList.Pairwise fun a b=>lt b a=false:=by
 rw[List.pairwise_iff_getElem]
 intro i j hi hj hij
 have:=h i j (Nat.zero_le _) hij (by rw[←hn];simpa using hj)
 have hi':i<d'.size:=by simpa using hi
 have hj':j<d'.size:=by simpa using hj
 rw[getElem!_pos d' i hi',getElem!_pos d' j hj'] at this
 simpa using this
theorem Z70{α:Type}[Inhabited α]{ST T:TypeId}{sz bytes:Nat}{row:α→List Value}(E:Z20 prog ST T sz bytes row){ρ:Ren}(L:SlLaysF0.n6 prog ρ)(aE:∀w,(isAgg (ρ.t 24)).run prog w=.ok true w)(zE:∀w,(Go.sizeOf (ρ.t 24)).run prog w=.ok sz w)
  (cf:α→α→Int) (hO:SWO (ltOf cf)) (fn:Nat) (eg:∀args w,(callFunc fn args).run prog w=.ok (.enter fn args) w)
  (hc:∀x y W,Calls prog fn #[.agg (row x).toArray,.agg (row y).toArray] W fun e w'=>e=.returned (.int .i64 (cf x y))∧GG W w')
  (g0 g cap:Nat) (ss:List α) (w:World) (h:Up T sz row w g0 (.slice (some ⟨g,0,none⟩) ss.length cap) ss) (hsm:ss.length≤100000) :
  Calls prog (ρ.f 6) #[.slice (some ⟨g,0,none⟩) ss.length cap,.func (.func fn) #[] #[]] w fun e w'=>e=.returned (.tuple #[])∧∃l:List α,l.Perm ss∧(l.Pairwise fun a b=>ltOf cf b a=false)∧Up T sz row w' g0 (.slice (some ⟨g,0,none⟩) l.length cap) l∧Z3 (fun b=>b=g) w w':=by
 obtain⟨hx,hr⟩:=h
 rcases hr with⟨h0,_⟩ | ⟨g',cap',cur,h1,h2,h3,h4,h5,h6,h7⟩
 ·simp at h0
 ·simp only[Value.slice.injEq,Option.some.injEq,Addr.mk.injEq,and_true,true_and] at h1
  obtain⟨rfl,rfl⟩:=h1
  have hF:(⟨Z8 row ss⟩:Array Value).size=ss.length*sz:=Yf E.len ss
  have hH:HoldsK row sz w g 0 ss.toArray:=by
   unfold HoldsK
   rw[Zn7 E.pos E.len]
   exact Zoj h3 (by rw[hF];exact h7)
  have hcl:CmpLays prog fn #[] row sz cf g 0 ss.toArray.size w:=fun _ _ _ _ x y=>hc x y _
  refine Calls.mono (AnyQ.slices_SortFunc L sz aE zE row E.len E.one cf hO fn #[] g 0 cap ss.toArray w eg hcl hH (Z1 h3) (by simp;omega)) ?_
  rintro e w' ⟨rfl,d',n,os,hp,hs,rfl⟩
  have hsz:d'.size=ss.length:=by have:=hp.1;simpa using this
  have hp2:=Zqu hp
  refine⟨rfl,d'.toList,by simpa using hp2,Zm7 (by simpa using hsz) hs,?_,?_⟩
  ·have hl:d'.toList.length=ss.length:=by simpa using hsz
   have hz:(⟨Z8 row d'.toList⟩:Array Value).size=ss.length*sz:=by rw[←hl];exact Yf E.len _
   unfold sortWorldK putRowK
   have ef:flatK row sz d'=⟨Z8 row d'.toList⟩:=by
    have:=Zn7 E.pos E.len d'.toList
    rwa [Array.toArray_toList] at this
   rw[ef]
   unfold Up
   rw[hl]
   refine⟨by show(Z8 row d'.toList).length=_;exact hz,.inr ⟨g,cap,_,rfl,h2,Zqe _ h3,h4,h5,by simp[putCells,h6],?_⟩⟩
   have:=Zqx cur ⟨Z8 row d'.toList⟩ (by rw[hz,h6];exact Nat.mul_le_mul_right sz h4)
   rw[hz] at this
   exact this
  ·exact Zro _
end
section
open Go.RowKit Go.Sort
instance:Inhabited Hm:=⟨⟨⟨0,0,0,[]⟩,none,0⟩⟩
instance:Inhabited Hl:=⟨⟨0,0,0,0⟩⟩
def Z1n(e:Hl):List Value:=[.int .i64 e.x,.int .i64 e.t,.int .i64 e.r,.int .i64 e.m]
theorem Z4w:Z20 prog 55 54 4 32 Z1n where
 und:=underlying55
 inf:=by
  have h:(prog.info? 54).map (fun i=>(i.zero.map fun z=>z.cells.size,i.size,i.bytes))=some (some 4,4,32):=by kernel_rfl
  cases e:prog.info? 54 with
  | none=>rw[e] at h;cases h
  | some i =>
   rw[e] at h
   simp only[Option.map_some,Option.some.injEq,Prod.mk.injEq] at h
   obtain⟨h1,h2,h3⟩:=h
   cases ez:i.zero with
   | none=>rw[ez] at h1;cases h1
   | some z=>rw[ez] at h1;exact⟨i,z,rfl,ez,h2,h3,Option.some.inj h1⟩
 pos:=by decide
 byt:=by decide
 len:=fun _=>rfl
 one:=fun a u hu=>by
  simp only[Z1n,List.mem_cons,List.not_mem_nil,or_false] at hu
  rcases hu with rfl | rfl | rfl | rfl<;>rfl
abbrev Z1i(w:World)(g0:Nat)(v:Value)(l:List Hl):Prop:=Up 54 4 Z1n w g0 v l
def Ze1(a b:Hm):Int:=Uh (Za a.h) (Za b.h)
def Z1m(a b:Hl):Int:=orP (cP a.x b.x) (Uh (a.t,a.r) (b.t,b.r))
theorem Zg4:SWO (ltOf Ze1) where
 irrefl x:=Z27.irrefl _
 trans x y z h1 h2:=Z27.trans _ _ _ h1 h2
 ntrans x y z h1 h2:=Z27.ntrans _ _ _ h1 h2
instance (a b:Hl):Decidable (hlL a b):=by unfold hlL;infer_instance
theorem Z40(a b:Hl):ltOf Z1m a b=decide (hlL a b):=by
 have hN:=Vh (a.t,a.r) (b.t,b.r)
 unfold ltOf at hN
 have q:(Uh (a.t,a.r) (b.t,b.r)<0)↔Ud (a.t,a.r) (b.t,b.r):=by simpa using hN
 unfold ltOf Z1m
 rw[decide_eq_decide]
 unfold hlL
 rcases Int.lt_trichotomy a.x b.x with h | h | h
 ·rw[Zn0 _ _ h]
  exact⟨fun _=>.inl h,fun _=>show(-1:Int)<0 by decide⟩
 ·rw[h,Zmy]
  show Uh (a.t,a.r) (b.t,b.r)<0↔_
  rw[q]
  exact⟨fun e=>.inr ⟨rfl,e⟩,fun e=>e.elim (fun e=>absurd e (Int.lt_irrefl _)) (fun e=>e.2)⟩
 ·rw[Zmz _ _ h]
  exact⟨fun e=>absurd e (show ¬(1:Int)<0 by decide),fun e=>e.elim (fun e=>by omega) (fun e=>by omega)⟩
theorem Zg3:SWO (ltOf Z1m) where
 irrefl x:=by rw[Z40];simpa using Z2c x
 trans x y z h1 h2:=by rw[Z40] at *;simp only[decide_eq_true_eq] at *;exact Zbk h1 h2
 ntrans x y z h1 h2:=by
  rw[Z40] at *
  simp only[decide_eq_false_iff_not] at *
  unfold hlL Ud at *
  simp only at *
  omega
theorem Zm8{l:List Hm}(hp:l.Pairwise fun a b=>ltOf Ze1 b a=false)(hn:Vz (l.map Hm.h)):Yd (l.map Hm.h):=by
 unfold Vz at hn
 unfold Yd
 rw[List.pairwise_map] at hn ⊢
 refine(hp.and hn).imp fun {a b} h=>?_
 obtain⟨h1,h2⟩:=h
 have h3:ltOf Uh (Za b.h) (Za a.h)=false:=h1
 rw[Vh] at h3
 rcases Z2h (Za a.h) (Za b.h)with q | q | q
 ·exact q
 ·exact absurd q h2
 ·simp[q] at h3
theorem Zb0{a b:List Hq}(h:Vz a)(p:a.Perm b):Vz b:=(p.pairwise_iff (fun {x y} (e:Za x≠Za y)=>e.symm)).1 h
theorem Zm6{hss:List (List Hq)}(h:Vz hss.flatten){l l':List Hm}(e:l.map Hm.h=hss.flatten)(p:l'.Perm l)(hp:l'.Pairwise fun a b=>ltOf Ze1 b a=false):l'.map Hm.h=Y5 hss:=by
 have p2:(l'.map Hm.h).Perm hss.flatten:=by rw[←e];exact p.map _
 exact Zm5 h (Zm8 hp (Zb0 h p2.symm)) p2
theorem Zdk{l:List Hl}(hp:l.Pairwise fun a b=>ltOf Z1m b a=false)(hn:l.Pairwise fun a b=>¬(a.x=b.x∧a.t=b.t∧a.r=b.r)):l.Pairwise hlL:=by
 refine(hp.and hn).imp fun {a b} h=>?_
 obtain⟨h1,h2⟩:=h
 rw[Z40] at h1
 have h3:¬hlL b a:=by simpa using h1
 unfold hlL Ud at *
 simp only at *
 omega
theorem Z90{s:List Hq}(h:Yd s)(ok:∀h∈s,Ok h.W h.q):(Uq s).Pairwise fun a b=>¬(a.x=b.x∧a.t=b.t∧a.r=b.r):=by
 unfold Uq
 rw[List.pairwise_flatMap]
 refine⟨fun a ha=>?_,h.imp fun {a b} q u hu v hv e=>?_⟩
 ·rw[List.pairwise_map]
  refine List.Pairwise.filter _ ?_
  exact(ok a ha).pr.imp fun {x y} q e=>q.txn e.1
 ·obtain⟨_,_,rfl⟩:=List.mem_map.1 hu
  obtain⟨_,_,rfl⟩:=List.mem_map.1 hv
  have h1:=e.2.1
  have h2:=e.2.2
  unfold Ud Za at q
  simp only at h1 h2 q
  omega
theorem Z6t{a b:Hl}(h:¬(a.x=b.x∧a.t=b.t∧a.r=b.r)):¬(b.x=a.x∧b.t=a.t∧b.r=a.r):=fun e=>h ⟨e.1.symm,e.2.1.symm,e.2.2.symm⟩
theorem Z6b{a b:List Hq}(p:a.Perm b):(Uq a).Perm (Uq b):=p.flatMap_right _
theorem Znp{s u:List Hq}(h:Yd s)(ok:∀h∈s,Ok h.W h.q)(p:u.Perm s){l:List Hl}(pl:l.Perm (Uq u))(hp:l.Pairwise fun a b=>ltOf Z1m b a=false):l=Z3r s:=by
 have p2:=pl.trans (Z6b p)
 exact Zno h ok (Zdk hp ((p2.pairwise_iff (fun {a b} q=>Z6t q)).2 (Z90 h ok))) p2
theorem Zkz{s:List Hq}(ok:∀h∈s,Ok h.W h.q){txn:Int}{e:Hl}:e∈Z2b s txn↔e∈Uq s∧e.x=txn:=by
 unfold Uq Z2b
 simp only[List.mem_flatMap,List.mem_map,List.mem_filter,Bool.not_eq_true',beq_eq_false_iff_ne]
 constructor
 ·rintro⟨h,⟨hh,hm⟩,rfl⟩
  obtain⟨r,hr,h1,h2⟩:=Z9x hm
  exact⟨⟨h,hh,r,⟨hr,by rw[h2];exact hm⟩,by rw[h1,h2]⟩,rfl⟩
 ·rintro⟨⟨h,hh,r,⟨hr,hm⟩,rfl⟩,rfl⟩
  have e:=Zi8 (ok h hh) hr
  exact⟨h,⟨hh,by rw[e];exact hm⟩,by rw[e]⟩
theorem Zh9{s:List Hq}(h:Yd s)(ok:∀h∈s,Ok h.W h.q)(txn:Int):(Z2b s txn).Perm ((Uq s).filter fun e=>e.x==txn) :=
 (List.perm_ext_iff_of_nodup ((Z7r h txn).imp fun {a b} q e=>by subst e;exact Z2c _ q) ((Z6a h ok).filter _)).2 fun e=>by
  rw[Zkz ok,List.mem_filter,beq_iff_eq]
theorem Zoe{s u:List Hq}(h:Yd s)(ok:∀h∈s,Ok h.W h.q)(p:u.Perm s)(txn:Int){l:List Hl}(pl:l.Perm ((Uq u).filter fun e=>e.x==txn))(hp:l.Pairwise fun a b=>ltOf Z1m b a=false):l=Z2b s txn:=by
 have p2:l.Perm ((Uq s).filter fun e=>e.x==txn):=pl.trans ((Z6b p).filter _)
 have hsrt:=Zdk hp ((p2.pairwise_iff (fun {a b} q=>Z6t q)).2 ((Z90 h ok).filter _))
 exact List.Perm.eq_of_pairwise (le:=hlL) (fun x y _ _ h1 h2=>absurd (Zbk h1 h2) (Z2c _)) hsrt (Z7r h txn) (p2.trans (Zh9 h ok txn).symm)
def U3(f:Rq→Bool)(s:List Hq):List Hl:=s.flatMap fun h=>(h.q.filter fun r=>!(r.md==0)&&f r).map fun r=>⟨r.txn,h.t,h.r,r.md⟩
theorem Zgt(s:List Hq):U3 (fun _=>true) s=Uq s:=by unfold U3 Uq;simp
theorem Zgu(s:List Hq)(txn:Int):U3 (fun r=>r.txn==txn) s=(Uq s).filter fun e=>e.x==txn:=by
 unfold U3 Uq
 rw[List.filter_flatMap]
 congr 1
 funext h
 rw[List.filter_map,List.filter_filter]
 congr 1
 refine List.filter_congr fun r _=>?_
 simp[Bool.and_comm]
end
structure Rp(W:World)(o g:Nat)(L:List Bool):Prop where
 p0:W.cell? ⟨o,0,none⟩=some (.slice (some ⟨g,0,none⟩) L.length L.length)
 cs:∀i,i<L.length→W.cell? ⟨g,i,none⟩=some (.bool (L.getD i false))∧W.frozen? ⟨g,i,none⟩=false
 ol:o<W.heap.size
 gl:g<W.heap.size
 og:g≠o
 sz:L.length≤128
theorem Z2u.tchS{w w':World}{o:Nat}{u:Option Nat}{x:Hm}{S:Nat→Prop}(h:Z2u w o u x)(t:Z3 S w w')(hS:∀b,x.a=some b→x.h.q≠[]→¬S b.block):Z2u w' o u x:=by
 refine⟨?_,h.cap,h.len,h.new,h.off⟩
 obtain⟨a,c,e,q | ⟨b,o',e2,hc⟩⟩:=h.rd
 ·exact⟨a,c,e,.inl q⟩
 ·subst e2
  by_cases hq:x.h.q=[]
  ·exact⟨_,c,e,.inl ⟨hq,fun q=>by cases q⟩⟩
  have hb:¬S b:=hS _ (by unfold hmV at e;injection e) hq
  exact⟨_,c,e,.inr ⟨b,o',rfl,lL0 hc.lt t.size,fun i hi c u hu=>(t.cell hc.lt hb).trans (hc.cell i hi c u hu)⟩⟩
def Z3i(hs:List Hq)(id:Int):Int × Int × Rq × Bool:=match Zs hs id with
 | none=>(0,0,⟨0,0,0,0,0⟩,false)
 | some h=>(h.t,h.r,rqB h id,true)
theorem Zob(l:List Hp)(id:Int):∃b0 b1 b2 b3 b4 yb,Z60 (Zb l id).h.q id=.tuple #[.agg #[.int .i64 b0,.int .i64 b1,.int .i64 b2,.int .i64 b3,.int .i64 b4],.bool yb]∧Z3i (Z6 l) id=((Zb l id).h.t,(Zb l id).h.r,⟨b0,b1,b2,b3,b4⟩,yb):=by
 cases e:whP l id with
 | none =>
  have e1:Zs (Z6 l) id=none:=by rw[Ul,e];rfl
  refine⟨0,0,0,0,0,false,?_,?_⟩
  ·rw[V5 e];rfl
  ·unfold Z3i;rw[e1,V5 e];rfl
 | some x =>
  obtain⟨ex,hx,r,hr⟩:=Yg e
  have e1:Zs (Z6 l) id=some x.h:=by rw[Ul,e];rfl
  have er:=Zc0 hr
  obtain⟨b0,b1,b2,b3,b4⟩:=r
  refine⟨b0,b1,b2,b3,b4,true,?_,?_⟩
  ·rw[ex];unfold Z60;rw[hr];rfl
  ·unfold Z3i;rw[e1,ex];simp only;rw[er]
theorem Zqc{w:World}{o mb po n:Nat}{l:List Hp}{L:List Bool}{F:Nat→Prop}(h:Db w o mb po n l L F)(hq:∀x∈l,x.h.q.length≤1000)(id:Int) :
  Calls prog 36 #[.pointer (some ⟨o,0,none⟩),.int .i64 id] w fun e w'=>e=.returned (.tuple #[.agg #[.int .i64 (Z3i (Z6 l) id).1,.int .i64 (Z3i (Z6 l) id).2.1],rqV (Z3i (Z6 l) id).2.2.1,.bool (Z3i (Z6 l) id).2.2.2])∧Nw w w':=by
 obtain⟨b0,b1,b2,b3,b4,yb,hv,hg⟩:=Zob l id
 rw[hg]
 unfold rqV
 simp only
 have hrd:=Z5y h id
 have hql:(Zb l id).h.q.length≤1000:=by
  cases e:whP l id with
  | none=>rw[V5 e];exact Nat.zero_le _
  | some x=>rw[(Yg e).1];exact hq x (Yg e).2.1
 have hN:Nw w ((w.alloc (.cells #[.int .i64 0,.int .i64 0] 33)).alloc (.cells #[.int .i64 0,.int .i64 0,.int .i64 0,.int .i64 0,.int .i64 0] 43)):=((Nw.refl w).alloc _).alloc _
 have hA:=((Nw.refl (w.alloc (.cells #[.int .i64 0,.int .i64 0] 33))).alloc (.cells #[.int .i64 0,.int .i64 0,.int .i64 0,.int .i64 0,.int .i64 0] 43)).at' (Z2 w (.cells #[.int .i64 0,.int .i64 0] 33))
 have hB:=Z2 (w.alloc (.cells #[.int .i64 0,.int .i64 0] 33)) (.cells #[.int .i64 0,.int .i64 0,.int .i64 0,.int .i64 0,.int .i64 0] 43)
 rw[World.size_alloc] at hB
 obtain⟨z,hz⟩:∃z,(w.alloc (.cells #[.int .i64 0,.int .i64 0] 33)).alloc (.cells #[.int .i64 0,.int .i64 0,.int .i64 0,.int .i64 0,.int .i64 0] 43)=z:=⟨_,rfl⟩
 rw[hz] at hN hA hB
 have HZ:=hD0 hz
 have H:=hD0 (h.nw hN)
 have HMd:=hD0 (Yw o z (hN.kp h.c0))
 have HWi:=hD0 (Z2r (h.nw hN) id)
 have HFi:=hD0 (fun w1 (g:Nw w w1)=>Zba (Zb l id).h.t (Zb l id).h.r (Zb l id).h.W id (hpV (Zb l id)) (Zb l id).h.q w1 hql (hrd.nw g))
 rw[hv] at HFi
 unfold Un hpV at HFi
 unfold hpH at HWi
 clear hz hv hg hrd hql h
 revert HFi HWi
 generalize Zb l id=x
 obtain⟨⟨xt,xr,xW,q⟩,xp,xa,xc⟩:=x
 simp only
 generalize q.length=ql
 intro HWi HFi
 have HN:=hD0 hN
 go_enter func36,ntmps36
 go_wp2_with fail
 rw[HZ.out]
 refine HMd.out.mono ?_
 rintro e w' ⟨rfl,rfl⟩
 go_wp2_with fail
 refine HWi.out.mono ?_
 rintro e w1 ⟨rfl,g1⟩
 obtain⟨y1,hy1⟩:∃y1,w1.alloc (.cells #[.int .i64 xt,.int .i64 xr,.slice xa ql xc,.int .i64 xW] 83)=y1:=⟨_,rfl⟩
 have hal:=Z2 w1 (.cells #[.int .i64 xt,.int .i64 xr,.slice xa ql xc,.int .i64 xW] 83)
 rw[hy1] at hal
 have g2:Nw w1 y1:=by rw[←hy1];exact(Nw.refl w1).alloc _
 have HY1:=hD0 hy1
 have HN1:=hD0 (HN.out.trans (g1.trans g2))
 have hA1:=(g1.trans g2).at' hA
 have hB1:=(g1.trans g2).at' hB
 clear hy1 hN hA hB g1 g2
 have hzw:w.heap.size+2≤w1.heap.size:=by
  have h1:=Z1 hB1
  have h2:=Z1 hal
  have h3:y1.heap.size=w1.heap.size+1:=by rw[←HY1.out];simp
  have h4:w1.heap.size≠w.heap.size+1:=fun e=>by rw[e] at hal;rw[hB1] at hal;cases hal
  omega
 go_wp2_with fail
 rw[HY1.out]
 generalize w1.heap.size=pb at *
 refine(HFi.out _ HN1.out).mono ?_
 rintro e y2 ⟨rfl,g3⟩
 obtain⟨y3,hy3⟩:∃y3,y2.alloc (.cells #[.int .i64 b0,.int .i64 b1,.int .i64 b2,.int .i64 b3,.int .i64 b4] 43)=y3:=⟨_,rfl⟩
 have hal2:=Z2 y2 (.cells #[.int .i64 b0,.int .i64 b1,.int .i64 b2,.int .i64 b3,.int .i64 b4] 43)
 rw[hy3] at hal2
 have g4:Nw y2 y3:=by rw[←hy3];exact(Nw.refl y2).alloc _
 have HY3:=hD0 hy3
 have HN3:=hD0 (HN1.out.trans (g3.trans g4))
 have hA3:=(g3.trans g4).at' hA1
 have hB3:=(g3.trans g4).at' hB1
 have hal3:=(g3.trans g4).at' hal
 have hpy:pb<y2.heap.size:=lL0 (Z1 hal) g3.sz
 clear hy3 hA1 hB1 hal g3 g4
 go_wp2_with fail
 rw[HY3.out]
 generalize y2.heap.size=qb at *
 have m0:=Z0 (j:=0) hA3
 have m1:=Z0 (j:=1) hA3
 have mz:=fun j=>hfz (j:=j) hA3
 have ml:=Z1 hA3
 have n0:=Z0 (j:=0) hB3
 have n1:=Z0 (j:=1) hB3
 have n2:=Z0 (j:=2) hB3
 have n3:=Z0 (j:=3) hB3
 have n4:=Z0 (j:=4) hB3
 have nz:=fun j=>hfz (j:=j) hB3
 have nl:=Z1 hB3
 have p0:=Z0 (j:=0) hal3
 have p1:=Z0 (j:=1) hal3
 have q0:=Z0 (j:=0) hal2
 have q1:=Z0 (j:=1) hal2
 have q2:=Z0 (j:=2) hal2
 have q3:=Z0 (j:=3) hal2
 have q4:=Z0 (j:=4) hal2
 clear hA3 hB3 hal2 hal3
 have ng1:¬(w.heap.size=pb):=by omega
 have ng2:¬(w.heap.size+1=pb):=by omega
 have ng3:¬(w.heap.size=qb):=by omega
 have ng4:¬(w.heap.size+1=qb):=by omega
 have ng5:¬(w.heap.size+1=w.heap.size):=by omega
 obtain⟨y0,hy0⟩:∃y0,y3.drew=y0:=⟨_,rfl⟩
 obtain⟨S,hSe⟩:∃S:World→Prop,S=fun x=>x=y0∨x=((y0.setCell ⟨w.heap.size,0,none⟩ (.int .i64 xt)).setCell ⟨w.heap.size,1,none⟩ (.int .i64 xr))∨x=(((((((y0.setCell ⟨w.heap.size,0,none⟩ (.int .i64 xt)).setCell ⟨w.heap.size,1,none⟩ (.int .i64 xr)).setCell ⟨w.heap.size+1,0,none⟩ (.int .i64 b0)).setCell ⟨w.heap.size+1,1,none⟩ (.int .i64 b1)).setCell ⟨w.heap.size+1,2,none⟩ (.int .i64 b2)).setCell ⟨w.heap.size+1,3,none⟩ (.int .i64 b3)).setCell ⟨w.heap.size+1,4,none⟩ (.int .i64 b4)):=⟨_,rfl⟩
 have s0:y0.cell? ⟨pb,0,none⟩=some (.int .i64 xt):=by subst hy0;exact p0
 have t0:∀x,Hs S x→x.cell? ⟨pb,0,none⟩=some (.int .i64 xt):=fun x h=>by subst hSe;rcases h with rfl | rfl | rfl<;>simp[go_sem,s0]
 have s1:y0.cell? ⟨pb,1,none⟩=some (.int .i64 xr):=by subst hy0;exact p1
 have t1:∀x,Hs S x→x.cell? ⟨pb,1,none⟩=some (.int .i64 xr):=fun x h=>by subst hSe;rcases h with rfl | rfl | rfl<;>simp[go_sem,s1]
 have s2:y0.cell? ⟨qb,0,none⟩=some (.int .i64 b0):=by subst hy0;exact q0
 have t2:∀x,Hs S x→x.cell? ⟨qb,0,none⟩=some (.int .i64 b0):=fun x h=>by subst hSe;rcases h with rfl | rfl | rfl<;>simp[go_sem,s2]
 have s3:y0.cell? ⟨qb,1,none⟩=some (.int .i64 b1):=by subst hy0;exact q1
 have t3:∀x,Hs S x→x.cell? ⟨qb,1,none⟩=some (.int .i64 b1):=fun x h=>by subst hSe;rcases h with rfl | rfl | rfl<;>simp[go_sem,s3]
 have s4:y0.cell? ⟨qb,2,none⟩=some (.int .i64 b2):=by subst hy0;exact q2
 have t4:∀x,Hs S x→x.cell? ⟨qb,2,none⟩=some (.int .i64 b2):=fun x h=>by subst hSe;rcases h with rfl | rfl | rfl<;>simp[go_sem,s4]
 have s5:y0.cell? ⟨qb,3,none⟩=some (.int .i64 b3):=by subst hy0;exact q3
 have t5:∀x,Hs S x→x.cell? ⟨qb,3,none⟩=some (.int .i64 b3):=fun x h=>by subst hSe;rcases h with rfl | rfl | rfl<;>simp[go_sem,s5]
 have s6:y0.cell? ⟨qb,4,none⟩=some (.int .i64 b4):=by subst hy0;exact q4
 have t6:∀x,Hs S x→x.cell? ⟨qb,4,none⟩=some (.int .i64 b4):=fun x h=>by subst hSe;rcases h with rfl | rfl | rfl<;>simp[go_sem,s6]
 have m0':y0.cell? ⟨w.heap.size,0,none⟩=some (.int .i64 0):=by subst hy0;exact m0
 have m1':y0.cell? ⟨w.heap.size,1,none⟩=some (.int .i64 0):=by subst hy0;exact m1
 have mz':∀j,y0.frozen? ⟨w.heap.size,j,none⟩=false:=by subst hy0;exact mz
 have n0':y0.cell? ⟨w.heap.size+1,0,none⟩=some (.int .i64 0):=by subst hy0;exact n0
 have n1':y0.cell? ⟨w.heap.size+1,1,none⟩=some (.int .i64 0):=by subst hy0;exact n1
 have n2':y0.cell? ⟨w.heap.size+1,2,none⟩=some (.int .i64 0):=by subst hy0;exact n2
 have n3':y0.cell? ⟨w.heap.size+1,3,none⟩=some (.int .i64 0):=by subst hy0;exact n3
 have n4':y0.cell? ⟨w.heap.size+1,4,none⟩=some (.int .i64 0):=by subst hy0;exact n4
 have nz':∀j,y0.frozen? ⟨w.heap.size+1,j,none⟩=false:=by subst hy0;exact nz
 have hS0:Hs S y3.drew:=by rw[hy0,hSe];exact .inl rfl
 have hS1:Hs S ((y0.setCell ⟨w.heap.size,0,none⟩ (.int .i64 xt)).setCell ⟨w.heap.size,1,none⟩ (.int .i64 xr)):=by rw[hSe];exact .inr (.inl rfl)
 have hS2:Hs S (((((((y0.setCell ⟨w.heap.size,0,none⟩ (.int .i64 xt)).setCell ⟨w.heap.size,1,none⟩ (.int .i64 xr)).setCell ⟨w.heap.size+1,0,none⟩ (.int .i64 b0)).setCell ⟨w.heap.size+1,1,none⟩ (.int .i64 b1)).setCell ⟨w.heap.size+1,2,none⟩ (.int .i64 b2)).setCell ⟨w.heap.size+1,3,none⟩ (.int .i64 b3)).setCell ⟨w.heap.size+1,4,none⟩ (.int .i64 b4)):=by rw[hSe];exact .inr (.inr rfl)
 clear hSe p0 p1 q0 q1 q2 q3 q4 hzw hpy
 refine Za8 (.take (.take (.take (.take (.off (.go1 (.off (.go1 (.take .fin))))))))) (Hs S) (by kernel_rfl) (by kernel_rfl) (by kernel_rfl) hS0 ?_
 rw[hy0]
 iterate 4 (refine HP.take' ?_;(first | (refine⟨undef,Or.inr ⟨by rfl,rfl⟩,?_⟩) | (apply Exists.intro;refine⟨Or.inl ⟨by rfl,?_⟩,?_⟩;(intro x hx';go_simp;first | done | with_reducible rfl)));(try simp only[Act.put,List.setIfInBounds_toArray,List.set_cons_zero,List.set_cons_succ]))
 refine HP.off ?_
 refine HP.go1 (fun KK hKK=>?_)
 go_simp
 refine hKK.out _ _ hS1 ?_
 intro _
 clear hKK KK
 (try simp only[Act.put,List.setIfInBounds_toArray,List.set_cons_zero,List.set_cons_succ])
 refine HP.off ?_
 refine HP.go1 (fun KK hKK=>?_)
 go_simp
 refine hKK.out _ _ hS2 ?_
 intro _
 clear hKK KK
 (try simp only[Act.put,List.setIfInBounds_toArray,List.set_cons_zero,List.set_cons_succ])
 iterate 1 (refine HP.take' ?_;(first | (refine⟨undef,Or.inr ⟨by rfl,rfl⟩,?_⟩) | (apply Exists.intro;refine⟨Or.inl ⟨by rfl,?_⟩,?_⟩;(intro x hx';go_simp;first | done | with_reducible rfl)));(try simp only[Act.put,List.setIfInBounds_toArray,List.set_cons_zero,List.set_cons_succ]))
 refine HP.end_ ?_
 refine NoPanic.normal ?_
 subst hy0
 clear hS0 hS1 hS2
 go_wp2
 have HR:=hD0 (show Nw w (((((((y3.drew.setCell ⟨w.heap.size,0,none⟩ (.int .i64 xt)).setCell ⟨w.heap.size,1,none⟩ (.int .i64 xr)).setCell ⟨w.heap.size+1,0,none⟩ (.int .i64 b0)).setCell ⟨w.heap.size+1,1,none⟩ (.int .i64 b1)).setCell ⟨w.heap.size+1,2,none⟩ (.int .i64 b2)).setCell ⟨w.heap.size+1,3,none⟩ (.int .i64 b3)).setCell ⟨w.heap.size+1,4,none⟩ (.int .i64 b4)) from
  (((((((HN3.out.dr.st (p:=⟨w.heap.size,0,none⟩) (Nat.le_refl _) _).st (p:=⟨w.heap.size,1,none⟩) (Nat.le_refl _) _).st (p:=⟨w.heap.size+1,0,none⟩) (Nat.le_succ _) _).st (p:=⟨w.heap.size+1,1,none⟩) (Nat.le_succ _) _).st (p:=⟨w.heap.size+1,2,none⟩) (Nat.le_succ _) _).st (p:=⟨w.heap.size+1,3,none⟩) (Nat.le_succ _) _).st (p:=⟨w.heap.size+1,4,none⟩) (Nat.le_succ _) _))
 exact bodyPost_ret (v:=.tuple #[.agg #[.int .i64 xt,.int .i64 xr],.agg #[.int .i64 b0,.int .i64 b1,.int .i64 b2,.int .i64 b3,.int .i64 b4],.bool yb]) (by simp[results,results36,go_sem, *]) rfl ⟨rfl,HR.out⟩
theorem Zqo{w:World}{o mb po n:Nat}{l:List Hp}{L:List Bool}{F:Nat→Prop}(h:Db w o mb po n l L F) :
  Calls prog 37 #[.pointer (some ⟨o,0,none⟩)] w fun e w'=>e=.returned (.int .i64 l.length)∧w=w':=by
 have HMd:=hD0 (Yw o w h.c0)
 have c3:=h.c3
 have hol:=h.ol
 have hle:=h.map.len 3
 clear h
 go_enter func37,ntmps37
 go_wp2_with (go_at_call 51;refine HMd.out.mono ?_;rintro e w' ⟨rfl,rfl⟩)
 go_ret
 exact⟨rfl,rfl⟩
section
structure KpI(S:Nat→Prop)(A B:World):Prop where
 size:A.heap.size≤B.heap.size
 same:∀k,S k→B.heap[k]?=A.heap[k]?
variable {F:Fence} {n:Nat} {P:Program}
end
end Go.Proofs.YtfepoibfbmehiaaGreatDoor
