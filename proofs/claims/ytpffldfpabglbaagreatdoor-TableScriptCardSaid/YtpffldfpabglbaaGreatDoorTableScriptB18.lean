/- Texts merged: BdX, BdY, TbL, TdA, BdZ, TbP, TbM, TbN, BdU, PoE, PoL, PoS, BeA, TbO, SortH, TbU -/
import Derived.Test.YtpffldfpabglbaaGreatDoorTableScriptB17
set_option linter.unusedVariables false
set_option maxRecDepth 100000
set_option maxHeartbeats 16000000
namespace Go.Proofs.YtpffldfpabglbaaGreatDoor
open Go.RowKit _root_.Go.Proofs.Tryz
section
open Go.RowKit Go.Sort Go.Shelf
attribute [local go_sem] Oper.semAt_some
theorem Zn7(n:Nat)(hn:4≤n){w:World}{o mb po nn:Nat}{l:List Hp}{L:List Bool}{F:Nat→Prop}(h:Db w o mb po nn l L F) :
  CallsIn Fence.wide n prog 104 #[.pointer (some ⟨o,0,none⟩)] w (Vn w (Zb l)):=by
 have h1:1≤n:=by omega
 have hol:=h.ol
 have hml:=h.map.lt
 have hll:=h.len
 have HMd:=hD0 (U1 o w h.c0)
 have H:=hD0 h
 refine callsIn_of_wp_marks func104 rfl trivial ?_ rfl
 simp only[ntmps104,List.size_toArray,List.length_cons,List.length_nil,Nat.reduceAdd,Nat.reduceSub,Array.replicate_succ,Array.replicate_zero,List.push_toArray,List.append_toArray,List.nil_append,List.cons_append]
 clear h
 refine wpIn_wide.2 ?_
 go_wp2_with (go_at_call 115;refine HMd.out.mono ?_;rintro e w' ⟨rfl,rfl⟩)
 obtain⟨W0,hW0⟩:∃W0,w.alloc (.cells #[.slice none 0 0] 40)=W0:=⟨_,rfl⟩
 have hnw:Nw w W0:=by rw[←hW0];exact(Nw.refl w).alloc _
 have hsz:W0.heap.size=w.heap.size+1:=by rw[←hW0];simp
 have hA0:∃v lm,HdI w (fun k=>k=o∨k=mb) (fun k=>k=o∨k=mb) v lm [] W0:=by
  refine⟨.slice none 0 0,[],⟨?_,?_,World.ownsRow_nil _ _ _ _,fun k e=>by simp[Value.ownBlock] at e,fun e=>by omega,fun k e=>.inl e,hnw⟩,rfl,by simp⟩
  ·rw[←hW0];simp[go_sem]
  ·rw[←hW0];simp[go_sem]
 have hseq:=Zhe (n-1) (by omega) o mb l W0 ((H.out.nw hnw).c3) ((H.out.nw hnw).map) H.out.srt (by omega)
 rw[hW0]
 clear hW0 HMd
 refine(wpIn_wide (n:=n)).1 ?_
 refine Zga rfl h1 (gf:=147) (fa:=#[.pointer (some ⟨o,0,none⟩)]) (lb:=#[]) rfl trivial Zmh (S0:=fun k=>k=o∨k=mb) (fun k e=>by omega) hseq rfl
  (fun S pre A=>∃v lm,HdI w (fun k=>k=o∨k=mb) S v lm pre A) (fun _ _ _ _=>False)
  (fun S S' pre A B hi hc e1 e2 _=>by obtain⟨v,lm,hi⟩:=hi;exact⟨v,lm,hi.step (by omega) hc e2⟩) (fun _ _ _ _ _ _ h _ _ _ _=>h) hA0 (fun _=>none)
  (fun x bx=>{ tmps:=#[.pointer (some ⟨o,0,none⟩),undef,.slice none 0 0,.pointer (some ⟨w.heap.size,0,none⟩),ptP x,.pointer (some ⟨o,0,none⟩),.bool true,.bool false,.pointer (some ⟨o,0,none⟩),.func (.func 147) #[.pointer (some ⟨o,0,none⟩)] #[],ptP x,undef,undef,undef,undef,undef,undef,undef,undef,undef,undef,undef,undef,undef,undef,undef,undef,undef,undef],defers:=[] }) ?assign ?body ?done ?stop
 case assign =>
  intro r x A K hK
  simp only[mkB] at hK
  gi_wp2
  exact hK
 case body =>
  intro r S pre x bx A hi hsub hex hnb hbl hnc hcx hpre
  obtain⟨v,lm,hi⟩:=hi
  have hx:x∈l:=hpre.subset (by simp)
  have hok:=(H.out.nw hi.bx.nw).ok x hx
  have hxw:x.p<w.heap.size:=(H.out.ok x hx).lt
  have hHd:HdS w.heap.size x.p v x.h.t x.h.r x.h.W x.a x.h.q.length x.c A:=⟨hi.bx.cell,hok.c0,hok.c1,hok.c2,hok.c3⟩
  have hlm:lm.length<100000:=by
   have e1:=congrArg List.length hi.eq
   rw[List.length_map,List.length_map] at e1
   have e2:=hpre.length_le
   rw[List.length_append,List.length_singleton] at e2
   omega
  have HCl:=hD0 (fun w1 (g:Nw A w1)=>Z7c (hpV x) x.h.q w1 hok.len (hok.rd.nw g))
  have HPu:=hD0 (fun z (g:Nw A z) a1 c1 (ho:Z2 z A.heap.size (.slice a1 x.h.q.length c1) x.h.q)=>hi.push hex g (x:=x) rfl hok.len ho hlm (n₀:=w.heap.size+1) (fun k e=>(hnc k (by rw[hsz];exact e)).2) hxw hHd)
  unfold hpV at HCl
  obtain⟨va,vn,vc,hv⟩:∃va vn vc,v=.slice va vn vc:=by
   rcases Y7 hi.bx.own with⟨e,_⟩ | ⟨g,cap,e⟩
   ·exact⟨_,_,_,e⟩
   ·exact⟨_,_,_,e⟩
  subst hv
  have hcl:=hi.bx.lt
  have hsz1:W0.heap.size=w.heap.size+1:=hsz
  clear hi hsub hex hnb hbl hnc hcx hpre hok hx hseq hA0 hlm
  obtain⟨⟨xt,xr,xW,xq⟩,xp,xa,xc⟩:=x
  simp only at HCl HPu hHd hxw
  rw[hsz1]
  gi_wp2_with fail
  refine Z8p 17 (HdS w.heap.size xp (.slice va vn vc) xt xr xW xa xq.length xc) (by kernel_rfl) (by kernel_rfl) ?_
  change Z0s _ _ _ _ _ _ 18 #[false,false,false,false,false,false,false,false,false,false,false,false,false,false,false,false,false,false] _ A.drew
  have hN0:Nw A A.drew:=(Nw.refl A).dr
  have hS0:=hHd.nw hN0
  obtain⟨y,hy⟩:∃y,A.drew=y:=⟨_,rfl⟩
  rw[hy] at hS0 hN0 ⊢
  clear hy
  refine Zq (i:=0) (v:=.slice va vn vc) rfl (by kernel_rfl) (by kernel_rfl) (by kernel_rfl) (by kernel_rfl) (fun c a w h=>h) (.inl ⟨rfl,fun w hw=>by obtain⟨q0,q1,q2,q3,q4⟩:=hw;go_simp⟩) hS0 ?_
  simp only[Act.put,List.getElem_toArray,List.getElem_cons_zero,List.setIfInBounds_toArray,List.set_cons_zero,List.set_cons_succ]
  refine Zq (i:=1) (v:=.pointer (some ⟨xp,0,none⟩)) rfl (by kernel_rfl) (by kernel_rfl) (by kernel_rfl) (by kernel_rfl) (fun c a w h=>h) (.inl ⟨rfl,fun w hw=>by obtain⟨q0,q1,q2,q3,q4⟩:=hw;go_simp⟩) hS0 ?_
  simp only[Act.put,List.getElem_toArray,List.getElem_cons_zero,List.getElem_cons_succ,List.setIfInBounds_toArray,List.set_cons_zero,List.set_cons_succ]
  refine Zq (i:=2) (v:=.pointer (some ⟨xp,0,none⟩)) rfl (by kernel_rfl) (by kernel_rfl) (by kernel_rfl) (by kernel_rfl) (fun c a w h=>h) (.inl ⟨rfl,fun w hw=>by obtain⟨q0,q1,q2,q3,q4⟩:=hw;go_simp⟩) hS0 ?_
  simp only[Act.put,List.getElem_toArray,List.getElem_cons_zero,List.getElem_cons_succ,List.setIfInBounds_toArray,List.set_cons_zero,List.set_cons_succ]
  refine Zq (i:=3) (v:=.pointer (some ⟨xp,0,none⟩)) rfl (by kernel_rfl) (by kernel_rfl) (by kernel_rfl) (by kernel_rfl) (fun c a w h=>h) (.inl ⟨rfl,fun w hw=>by obtain⟨q0,q1,q2,q3,q4⟩:=hw;go_simp⟩) hS0 ?_
  simp only[Act.put,List.getElem_toArray,List.getElem_cons_zero,List.getElem_cons_succ,List.setIfInBounds_toArray,List.set_cons_zero,List.set_cons_succ]
  refine Zq (i:=4) (v:=.agg #[.int .i64 xt,.int .i64 xr]) rfl (by kernel_rfl) (by kernel_rfl) (by kernel_rfl) (by kernel_rfl) (fun c a w h=>h) (.inl ⟨rfl,fun w hw=>by obtain⟨q0,q1,q2,q3,q4⟩:=hw;go_simp⟩) hS0 ?_
  simp only[Act.put,List.getElem_toArray,List.getElem_cons_zero,List.getElem_cons_succ,List.setIfInBounds_toArray,List.set_cons_zero,List.set_cons_succ]
  refine Zq (i:=5) (v:=.pointer (some ⟨xp,0,none⟩)) rfl (by kernel_rfl) (by kernel_rfl) (by kernel_rfl) (by kernel_rfl) (fun c a w h=>h) (.inl ⟨rfl,fun w hw=>by obtain⟨q0,q1,q2,q3,q4⟩:=hw;go_simp⟩) hS0 ?_
  simp only[Act.put,List.getElem_toArray,List.getElem_cons_zero,List.getElem_cons_succ,List.setIfInBounds_toArray,List.set_cons_zero,List.set_cons_succ]
  refine Zq (i:=6) (v:=.pointer (some ⟨xp,0,none⟩)) rfl (by kernel_rfl) (by kernel_rfl) (by kernel_rfl) (by kernel_rfl) (fun c a w h=>h) (.inl ⟨rfl,fun w hw=>by obtain⟨q0,q1,q2,q3,q4⟩:=hw;go_simp⟩) hS0 ?_
  simp only[Act.put,List.getElem_toArray,List.getElem_cons_zero,List.getElem_cons_succ,List.setIfInBounds_toArray,List.set_cons_zero,List.set_cons_succ]
  refine Zq (i:=7) (v:=.pointer (some ⟨xp,2,none⟩)) rfl (by kernel_rfl) (by kernel_rfl) (by kernel_rfl) (by kernel_rfl) (fun c a w h=>h) (.inl ⟨rfl,fun w hw=>by obtain⟨q0,q1,q2,q3,q4⟩:=hw;go_simp⟩) hS0 ?_
  simp only[Act.put,List.getElem_toArray,List.getElem_cons_zero,List.getElem_cons_succ,List.setIfInBounds_toArray,List.set_cons_zero,List.set_cons_succ]
  refine Zq (i:=8) (v:=.slice xa xq.length xc) rfl (by kernel_rfl) (by kernel_rfl) (by kernel_rfl) (by kernel_rfl) (fun c a w h=>h) (.inl ⟨rfl,fun w hw=>by obtain⟨q0,q1,q2,q3,q4⟩:=hw;go_simp⟩) hS0 ?_
  simp only[Act.put,List.getElem_toArray,List.getElem_cons_zero,List.getElem_cons_succ,List.setIfInBounds_toArray,List.set_cons_zero,List.set_cons_succ]
  refine Zq (i:=10) (v:=.pointer (some ⟨xp,0,none⟩)) rfl (by kernel_rfl) (by kernel_rfl) (by kernel_rfl) (by kernel_rfl) (fun c a w h=>h) (.inl ⟨rfl,fun w hw=>by obtain⟨q0,q1,q2,q3,q4⟩:=hw;go_simp⟩) hS0 ?_
  simp only[Act.put,List.getElem_toArray,List.getElem_cons_zero,List.getElem_cons_succ,List.setIfInBounds_toArray,List.set_cons_zero,List.set_cons_succ]
  refine Zq (i:=11) (v:=.pointer (some ⟨xp,0,none⟩)) rfl (by kernel_rfl) (by kernel_rfl) (by kernel_rfl) (by kernel_rfl) (fun c a w h=>h) (.inl ⟨rfl,fun w hw=>by obtain⟨q0,q1,q2,q3,q4⟩:=hw;go_simp⟩) hS0 ?_
  simp only[Act.put,List.getElem_toArray,List.getElem_cons_zero,List.getElem_cons_succ,List.setIfInBounds_toArray,List.set_cons_zero,List.set_cons_succ]
  refine Zq (i:=12) (v:=.pointer (some ⟨xp,3,none⟩)) rfl (by kernel_rfl) (by kernel_rfl) (by kernel_rfl) (by kernel_rfl) (fun c a w h=>h) (.inl ⟨rfl,fun w hw=>by obtain⟨q0,q1,q2,q3,q4⟩:=hw;go_simp⟩) hS0 ?_
  simp only[Act.put,List.getElem_toArray,List.getElem_cons_zero,List.getElem_cons_succ,List.setIfInBounds_toArray,List.set_cons_zero,List.set_cons_succ]
  refine Zq (i:=13) (v:=.int .i64 xW) rfl (by kernel_rfl) (by kernel_rfl) (by kernel_rfl) (by kernel_rfl) (fun c a w h=>h) (.inl ⟨rfl,fun w hw=>by obtain⟨q0,q1,q2,q3,q4⟩:=hw;go_simp⟩) hS0 ?_
  simp only[Act.put,List.getElem_toArray,List.getElem_cons_zero,List.getElem_cons_succ,List.setIfInBounds_toArray,List.set_cons_zero,List.set_cons_succ]
  refine Zsy (i:=9) (by kernel_rfl) rfl (fun K hK=>?_)
  rw[if_pos (by rfl)]
  simp only[List.getElem_toArray,List.getElem_cons_zero,List.getElem_cons_succ]
  go_simp
  refine(HCl.out _ hN0).mono ?_
  rintro e z ⟨v1,rfl,g1,ho1⟩
  obtain⟨a1,c1,hv1⟩:∃a1 c1,v1=.slice a1 xq.length c1:=by
   rcases Y7 ho1 with⟨e,e2⟩ | ⟨g,cap,e⟩
   ·exact⟨none,0,by rw[e,e2]⟩
   ·exact⟨_,_,e⟩
  subst hv1
  have hNz:=hN0.trans g1
  have hSz:=hS0.nw g1
  obtain⟨v',w1,hr,⟨gg,cap,hv'⟩,hcc,hff,hSw,hI,hK1,hK2⟩:=HPu.out z hNz a1 c1 (Z4i ho1 (fun g hg=>by have:=Vr ho1 hg;have:=hN0.sz;omega))
  subst hv'
  refine hK _ _ (.inr hSz) ?_
  clear hK K
  refine Zq (i:=14) (v:=.agg #[.int .i64 xt,.int .i64 xr,.slice a1 xq.length c1,.int .i64 xW]) rfl (by kernel_rfl) (by kernel_rfl) (by kernel_rfl) (by kernel_rfl) (fun c a w h=>h) (.inl ⟨rfl,fun w hw=>by obtain⟨q0,q1,q2,q3,q4⟩:=hw;go_simp⟩) hSz ?_
  simp only[Act.put,List.getElem_toArray,List.getElem_cons_zero,List.getElem_cons_succ,List.setIfInBounds_toArray,List.set_cons_zero,List.set_cons_succ]
  refine Zsy (i:=15) (by kernel_rfl) rfl (fun K hK=>?_)
  rw[if_pos (by rfl)]
  simp only[List.getElem_toArray,List.getElem_cons_zero,List.getElem_cons_succ]
  go_simp
  refine hK _ _ (.inr (hSz.nw ((Nw.refl z).alloc _))) ?_
  clear hK K
  refine Zsy (i:=16) (by kernel_rfl) rfl (fun K hK=>?_)
  refine Ztq (by rfl) (.tmp 11) (.tmp 26) 40 rfl _ _ _ _ rfl rfl hr ?_
  refine hK _ _ (.inr hSw) ?_
  clear hK K
  simp only[Act.put,List.getElem_toArray,List.getElem_cons_zero,List.getElem_cons_succ,List.setIfInBounds_toArray,List.set_cons_zero,List.set_cons_succ]
  have HE:=hD0 (aI0 hK2 (aI0 hK1 hI))
  have hwl:=World.block_lt_of_cell? _ _ hcc
  refine Zsy (i:=17) (by kernel_rfl) rfl (fun K hK=>?_)
  rw[if_pos (by rfl)]
  simp only[List.getElem_toArray,List.getElem_cons_zero,List.getElem_cons_succ]
  go_simp
  refine hK _ _ (.inl rfl) ?_
  clear hK K
  refine Zei (by kernel_rfl) ?_ _
  change (NOr _ .normal _ _)
  unfold NOr
  exact⟨HE.out.1,HE.out.2.1,_,HE.out.2.2⟩
 case done =>
  intro D S xs W hD _ hfin hi hK
  subst hfin
  obtain⟨v,lm,hi⟩:=hi
  have HE:Hid (Vn w (Zb xs) (.returned v) (W.putObj D (.deferred none))):=by
   have hc:Ut D (fun k=>S k∧¬(k=o∨k=mb)) W (W.putObj D (.deferred none)):=Ut.put _ (.inl rfl) hK rfl
   have hi2:=hi.step (S':=S) (by omega) hc (fun k e=>.inl e)
   exact⟨v,rfl,⟨lm,hi2.bx.own,hi2.eq,fun x hx=>(hi2.ok x hx).1⟩,hi2.bx.nw⟩
  have hd:=hi.bx.cell
  have hf:=Y7 hi.bx.own
  clear hseq hA0 hi
  obtain⟨va,vn,vc,hv⟩:∃va vn vc,v=.slice va vn vc:=by
   rcases hf with⟨e,_⟩ | ⟨g,cap,e⟩
   ·exact⟨_,_,_,e⟩
   ·exact⟨_,_,_,e⟩
  subst hv
  go_wp2
  refine⟨by simp,.inl ⟨_,_,rfl,run_takeDeferred hK,?_⟩⟩
  exact⟨_,results_tmp (t:=2) rfl _ _ _,HE.out⟩
 case stop =>
  intro D c S pre W _ _ h _
  exact h.elim
theorem Zrv{w:World}{o mb po nn:Nat}{l:List Hp}{L:List Bool}{F:Nat→Prop}(h:Db w o mb po nn l L F) :
  Calls prog 104 #[.pointer (some ⟨o,0,none⟩)] w (Vn w (Zb l)):=callsIn_wide.1 (Zn7 4 (by omega) h)
end
open Go.Shelf
theorem Zrz(L:List Bool):hsL L (-1)=false:=by
 cases e:hsL L (-1) with
 | false=>rfl
 | true=>obtain⟨i,hi,_⟩:=Z3l e;omega
def Zyc(w:World)(po n:Nat)(L:List Bool)(F:Nat→Prop)(e:Ending)(W:World):Prop:=∃o mb,e=.returned (.tuple #[.pointer (some ⟨o,0,none⟩),.int .i64 0])∧Db W o mb po n [] L F∧Nw w W∧w.heap.size≤o∧w.heap.size≤mb
theorem Zjk{w:World}{po n:Nat}{L:List Bool}{F:Nat→Prop}(h:Pol w po L F)(T:TypeId) :
  Zyc w po n L F (.returned (.tuple #[.pointer (some ⟨w.heap.size+1,0,none⟩),.int .i64 0])) ((w.alloc (.map #[] 0)).alloc (.cells #[.pointer (some ⟨w.heap.size+1,0,none⟩),.int .i64 n,.pointer (some ⟨po,0,none⟩),.map (some w.heap.size)] T)):=by
 have hs1:(w.alloc (.map #[] 0)).heap.size=w.heap.size+1:=by simp
 have hb:=Z1 (w.alloc (.map #[] 0)) (.cells #[.pointer (some ⟨w.heap.size+1,0,none⟩),.int .i64 n,.pointer (some ⟨po,0,none⟩),.map (some w.heap.size)] T)
 rw[hs1] at hb
 have hN:Nw w ((w.alloc (.map #[] 0)).alloc (.cells #[.pointer (some ⟨w.heap.size+1,0,none⟩),.int .i64 n,.pointer (some ⟨po,0,none⟩),.map (some w.heap.size)] T)):=((Nw.refl w).alloc _).alloc _
 have hM:Y8 ((w.alloc (.map #[] 0)).alloc (.cells #[.pointer (some ⟨w.heap.size+1,0,none⟩),.int .i64 n,.pointer (some ⟨po,0,none⟩),.map (some w.heap.size)] T)) w.heap.size []:=(Y8.made w).nw ((Nw.refl _).alloc _)
 generalize (w.alloc (.map #[] 0)).alloc (.cells #[.pointer (some ⟨w.heap.size+1,0,none⟩),.int .i64 n,.pointer (some ⟨po,0,none⟩),.map (some w.heap.size)] T)=z at *
 have hF:∀k,F k→k<w.heap.size:=h.own
 refine⟨w.heap.size+1,w.heap.size,rfl,⟨?_,?_,?_,?_,hlt hb,fun e=>?_,fun e=>?_,hM,List.Pairwise.nil,by simp,h.nw hN,by simp⟩,hN,Nat.le_succ _,Nat.le_refl _⟩
 ·rw[Z0 hb];rfl
 ·rw[Z0 hb];rfl
 ·rw[Z0 hb];rfl
 ·rw[Z0 hb];rfl
 ·have:=hF _ e;omega
 ·have:=hF _ e;omega
theorem Zz5{w:World}{po:Nat}{L:List Bool}{F:Nat→Prop}(h:Pol w po L F)(n:Nat)(h1:1≤n)(h2:n≤64) :
  Calls prog 45 #[.int .i64 n,.pointer (some ⟨po,0,none⟩)] w (Zyc w po n L F):=by
 have hmm:=@run_makeMap prog
 have HD:=hD0 (Zjk (n:=n) h 137)
 obtain⟨g,v,l,hp,rfl⟩:=h
 have HG:=hD0 (Zcr hp (-1) (Zrz L))
 have d1:decide ((n:Int)<1)=false:=by simp;omega
 have d2:decide ((64:Int)<(n:Int))=false:=by simp;omega
 clear hp h1 h2
 go_enter func45,ntmps45
 go_wp2_with (go_at_call 95;refine HG.out.mono ?_;rintro e w' ⟨rfl,rfl⟩)
 exact bodyPost_ret (v:=.tuple #[.pointer (some ⟨w.heap.size+1,0,none⟩),.int .i64 0]) (by simp[results,results45,go_sem, *]) rfl HD.out
structure Ud where
 s:Int
 h:Int
 r:Int
 p:Int
abbrev Zev(c:Ud):Value:=.agg #[.int .i64 c.s,.int .i64 c.h,.int .i64 c.r,.int .i64 c.p]
def hvT(ds:List DB):List (Int × Nat):=ds.flatMap fun d=>(Za (Zb d.l)).map fun id=>(id,d.o)
theorem Znj(a b:List DB):hvT (a++b)=hvT a++hvT b:=by unfold hvT;rw[List.flatMap_append]
theorem Zs1(d:DB)(b:List DB):hvT (d::b)=((Za (Zb d.l)).map fun id=>(id,d.o))++hvT b:=rfl
theorem Zat{ds:List DB}{i:Nat}(hi:i<ds.length)(d:DB):(hvT (ds.set i d)).Perm (((Za (Zb d.l)).map fun id=>(id,d.o))++hvT (ds.take i++ds.drop (i+1))):=by
 rw[List.set_eq_take_append_cons_drop,if_pos hi,Znj,Zs1,Znj,←List.append_assoc,←List.append_assoc]
 exact List.perm_append_comm.append_right _
theorem Zau{ds:List DB}{i:Nat}(hi:i<ds.length):(hvT ds).Perm (((Za (Zb ds[i].l)).map fun id=>(id,ds[i].o))++hvT (ds.take i++ds.drop (i+1))):=by
 have:=Zat hi ds[i]
 rwa [List.set_getElem_self] at this
theorem Z6g{ds:List DB}{i:Nat}(hi:i<ds.length){l':List Hp}{mb:Nat}(p:(Za (Zb l')).Perm (Za (Zb ds[i].l))):(hvT (ds.set i ⟨ds[i].o,mb,l'⟩)).Perm (hvT ds) :=
 (Zat hi _).trans (((p.map _).append_right _).trans (Zau hi).symm)
theorem Zs4{ds:List DB}{i:Nat}(hi:i<ds.length){l':List Hp}{mb:Nat}{id:Int}(p:(Za (Zb l')).Perm (id::Za (Zb ds[i].l))):(hvT (ds.set i ⟨ds[i].o,mb,l'⟩)).Perm ((id,ds[i].o)::hvT ds):=by
 refine(Zat hi _).trans (((p.map _).append_right _).trans ?_)
 rw[List.map_cons,List.cons_append]
 exact(Zau hi).symm.cons _
theorem Znl{ds:List DB}{id:Int}{p:Nat}:(id,p)∈hvT ds↔∃d∈ds,d.o=p∧id∈Za (Zb d.l):=by
 unfold hvT
 rw[List.mem_flatMap]
 constructor
 ·rintro⟨d,hd,h⟩
  obtain⟨i,hi,e⟩:=List.mem_map.1 h
  obtain⟨rfl,rfl⟩:=Prod.mk.inj e
  exact⟨d,hd,rfl,hi⟩
 ·rintro⟨d,hd,rfl,hi⟩
  exact⟨d,hd,List.mem_map.2 ⟨id,hi,rfl⟩⟩
theorem Znk(ds:List DB):(hvT ds).map Prod.fst=Z1n (Ze ds):=by
 unfold hvT Z1n Ze
 rw[List.map_flatMap,List.flatMap_map]
 congr 1
 funext d
 rw[List.map_map]
 exact(List.map_congr_left fun _ _=>rfl).trans (List.map_id _)
theorem Zwj(ds:List DB):(hvT ds).length=(Z1n (Ze ds)).length:=by rw[←Znk,List.length_map]
structure TbM(W:World)(o n:Nat)(C:Ud)(bb cp hb po:Nat)(ds:List DB)(hv:List (Int × Nat))(L:List Bool)(F:Nat→Prop):Prop where
 c0:W.cell? ⟨o,0,none⟩=some (ptN o)
 c1:W.cell? ⟨o,1,none⟩=some (.int .i64 C.s)
 c2:W.cell? ⟨o,2,none⟩=some (.int .i64 C.h)
 c3:W.cell? ⟨o,3,none⟩=some (.int .i64 C.r)
 c4:W.cell? ⟨o,4,none⟩=some (.int .i64 C.p)
 c5:W.cell? ⟨o,5,none⟩=some (ptN po)
 c6:W.cell? ⟨o,6,none⟩=some (.slice (some ⟨bb,0,none⟩) ds.length cp)
 c7:W.cell? ⟨o,7,none⟩=some (.map (some hb))
 row:∀i (hi:i<ds.length),W.cell? ⟨bb,i,none⟩=some (ptN ds[i].o)
 bl:bb<W.heap.size
 map:Yu W hb hv
 db:DtB W po n ds L F
 no:¬Z8n ds F o
 nb:¬Z8n ds F bb
 nh:¬Z8n ds F hb
 ob:bb≠hb
def TbJ(o bb hb:Nat)(ds:List DB)(F:Nat→Prop)(b:Nat):Prop:=b=o∨b=bb∨b=hb∨Z8n ds F b
section
variable {W W':World} {o n:Nat} {C:Ud} {bb cp hb po:Nat} {ds:List DB} {hv:List (Int × Nat)} {L L':List Bool} {F:Nat→Prop}
theorem TbM.ol(h:TbM W o n C bb cp hb po ds hv L F):o<W.heap.size:=World.block_lt_of_cell? _ _ h.c0
theorem TbM.oh(h:TbM W o n C bb cp hb po ds hv L F):o≠hb:=h.map.cellne h.c0
theorem TbM.lt(h:TbM W o n C bb cp hb po ds hv L F):∀b,TbJ o bb hb ds F b→b<W.heap.size:=by
 rintro b (rfl | rfl | rfl | e)
 ·exact h.ol
 ·exact h.bl
 ·exact h.map.lt
 ·exact h.db.lt b e
theorem TbM.tch{S:Nat→Prop}(h:TbM W o n C bb cp hb po ds hv L F)(t:Z4 S W W')(hS:∀b,TbJ o bb hb ds F b→¬S b):TbM W' o n C bb cp hb po ds hv L F:=by
 have ho:=hS o (.inl rfl)
 have hol:=h.ol
 exact⟨(t.cell hol ho).trans h.c0,(t.cell hol ho).trans h.c1,(t.cell hol ho).trans h.c2,(t.cell hol ho).trans h.c3,(t.cell hol ho).trans h.c4,(t.cell hol ho).trans h.c5,(t.cell hol ho).trans h.c6,(t.cell hol ho).trans h.c7,
  fun i hi=>(t.cell h.bl (hS bb (.inr (.inl rfl)))).trans (h.row i hi),lL0 h.bl t.size,h.map.tch t (hS hb (.inr (.inr (.inl rfl)))),h.db.tchS t (fun b e=>hS b (.inr (.inr (.inr e)))),h.no,h.nb,h.nh,h.ob⟩
theorem TbM.nw(h:TbM W o n C bb cp hb po ds hv L F)(g:Nw W W'):TbM W' o n C bb cp hb po ds hv L F:=h.tch (Z4.nw (S:=fun _=>False) g) (fun _ _ e=>e)
theorem TbM.call(h:TbM W o n C bb cp hb po ds hv L F){i:Nat}(hi:i<ds.length){l':List Hp}(d:Uh W ds[i].o ds[i].mb po n F ds[i].l W' l' L') :
  ∃F',TbM W' o n C bb cp hb po (ds.set i ⟨ds[i].o,ds[i].mb,l'⟩) hv L' F'∧(∀b,TbJ o bb hb (ds.set i ⟨ds[i].o,ds[i].mb,l'⟩) F' b→TbJ o bb hb ds F b∨W.heap.size≤b)∧Z4 (TbJ o bb hb ds F) W W':=by
 obtain⟨F',h1,h2,h3,h4⟩:=h.db.put hi d
 have hm:=gM0 hi
 have hin:=DtB.in_put (w:=W) (F:=F) (F':=F') hi h2 h4
 have hsub:∀b,(b=ds[i].mb∨F b)→Z8n ds F b:=fun b e=>e.elim (fun e=>.inr ⟨_,hm,.inr (.inl e)⟩) .inl
 have ho:¬(o=ds[i].mb∨F o):=fun e=>h.no (hsub _ e)
 have hb':¬(bb=ds[i].mb∨F bb):=fun e=>h.nb (hsub _ e)
 have hh:¬(hb=ds[i].mb∨F hb):=fun e=>h.nh (hsub _ e)
 have hol:=h.ol
 have hbl:=h.bl
 have hhl:=h.map.lt
 refine⟨F',⟨(h3.cell hol ho).trans h.c0,(h3.cell hol ho).trans h.c1,(h3.cell hol ho).trans h.c2,(h3.cell hol ho).trans h.c3,(h3.cell hol ho).trans h.c4,(h3.cell hol ho).trans h.c5,by rw[List.length_set];exact(h3.cell hol ho).trans h.c6,(h3.cell hol ho).trans h.c7,
  fun j hj=>?_,lL0 hbl h3.size,h.map.tch h3 hh,h1,fun e=>?_,fun e=>?_,fun e=>?_,h.ob⟩,fun b e=>?_,h3.mono fun b _ e=>.inr (.inr (.inr (hsub b e)))⟩
 ·rw[List.length_set] at hj
  refine(h3.cell hbl hb').trans ((h.row j hj).trans ?_)
  by_cases q:i=j
  ·subst q;rw[List.getElem_set_self]
  ·rw[List.getElem_set_ne q]
 ·exact(hin _ e).elim h.no (fun q=>by omega)
 ·exact(hin _ e).elim h.nb (fun q=>by omega)
 ·exact(hin _ e).elim h.nh (fun q=>by omega)
 ·rcases e with e | e | e | e
  ·exact .inl (.inl e)
  ·exact .inl (.inr (.inl e))
  ·exact .inl (.inr (.inr (.inl e)))
  ·exact(hin b e).imp (fun q=>.inr (.inr (.inr q))) id
theorem TbM.turn(h:TbM W o n C bb cp hb po ds hv L F){hv':List (Int × Nat)}(m:Yu W' hb hv')(g:W.mapTurned W' hb):TbM W' o n C bb cp hb po ds hv' L F∧Z4 (TbJ o bb hb ds F) W W':=by
 have t:=Up g
 have hol:=h.ol
 have ho:¬(o=hb):=h.oh
 exact⟨⟨(t.cell hol ho).trans h.c0,(t.cell hol ho).trans h.c1,(t.cell hol ho).trans h.c2,(t.cell hol ho).trans h.c3,(t.cell hol ho).trans h.c4,(t.cell hol ho).trans h.c5,(t.cell hol ho).trans h.c6,(t.cell hol ho).trans h.c7,
  fun i hi=>(t.cell h.bl h.ob).trans (h.row i hi),lL0 h.bl t.size,m,h.db.tchS t (fun b e q=>h.nh (q▸e)),h.no,h.nb,h.nh,h.ob⟩,t.mono fun b _ e=>.inr (.inr (.inl e))⟩
end
def Tab(W:World)(o S n N k:Nat)(C:Ud)(hss:List (List Hq))(L:List Bool)(J:Nat→Prop):Prop :=
 ∃bb cp hb po ds hv F,TbM W o n C bb cp hb po ds hv L F∧hv.Perm (hvT ds)∧Ze ds=hss∧J=TbJ o bb hb ds F∧Y1 S n N k hss L
def Z2f(W:World)(o S n N k:Nat)(C:Ud)(hss:List (List Hq))(L:List Bool)(J:Nat→Prop)(W':World):Prop :=
 ∃J',Tab W' o S n N k C hss L J'∧(∀b,J' b→J b∨W.heap.size≤b)∧Z4 J W W'
section
variable {W W':World} {o S n N k:Nat} {C:Ud} {hss:List (List Hq)} {L:List Bool} {J:Nat→Prop}
theorem Tab.nw(h:Tab W o S n N k C hss L J)(g:Nw W W'):Tab W' o S n N k C hss L J:=by
 obtain⟨bb,cp,hb,po,ds,hv,F,h1,h2⟩:=h
 exact⟨bb,cp,hb,po,ds,hv,F,h1.nw g,h2⟩
theorem Tab.tch{Q:Nat→Prop}(h:Tab W o S n N k C hss L J)(t:Z4 Q W W')(hS:∀b,J b→¬Q b):Tab W' o S n N k C hss L J:=by
 obtain⟨bb,cp,hb,po,ds,hv,F,h1,h2,h3,rfl,h5⟩:=h
 exact⟨bb,cp,hb,po,ds,hv,F,h1.tch t hS,h2,h3,rfl,h5⟩
theorem Tab.lt(h:Tab W o S n N k C hss L J):∀b,J b→b<W.heap.size:=by
 obtain⟨bb,cp,hb,po,ds,hv,F,h1,h2,h3,rfl,h5⟩:=h
 exact h1.lt
theorem Tab.ok(h:Tab W o S n N k C hss L J):Y1 S n N k hss L:=by
 obtain⟨bb,cp,hb,po,ds,hv,F,h1,h2,h3,rfl,h5⟩:=h
 exact h5
theorem Tab.to(h:Tab W o S n N k C hss L J)(g:Nw W W')(k':Nat)(hk:k≤k'):Z2f W o S n N k' C hss L J W':=by
 obtain⟨bb,cp,hb,po,ds,hv,F,h1,h2,h3,rfl,h5⟩:=h
 exact⟨_,⟨bb,cp,hb,po,ds,hv,F,h1.nw g,h2,h3,rfl,h5.more hk⟩,fun b e=>.inl e,Z4.nw g⟩
end
structure RtM(W:World)(o n:Nat)(C:Ud)(bb cp po pg:Nat)(bs:List RB)(L:List Bool):Prop where
 c0:W.cell? ⟨o,0,none⟩=some (.int .i64 C.s)
 c1:W.cell? ⟨o,1,none⟩=some (.int .i64 C.h)
 c2:W.cell? ⟨o,2,none⟩=some (.int .i64 C.r)
 c3:W.cell? ⟨o,3,none⟩=some (.int .i64 C.p)
 c4:W.cell? ⟨o,4,none⟩=some (.slice (some ⟨bb,0,none⟩) bs.length cp)
 c5:W.cell? ⟨o,5,none⟩=some (ptN po)
 row:∀i (hi:i<bs.length),W.cell? ⟨bb,i,none⟩=some (ptN bs[i].o)
 bl:bb<W.heap.size
 rb:RtB W po pg n bs
 pl:Rp W po pg L
 no:∀b∈bs,¬b.in' o
 nb:∀b∈bs,¬b.in' bb
 np:o≠po∧o≠pg∧bb≠po∧bb≠pg
def RtJ(o bb po pg:Nat)(bs:List RB)(b:Nat):Prop:=b=o∨b=bb∨b=po∨b=pg∨∃x∈bs,x.in' b
section
variable {W W':World} {o n:Nat} {C:Ud} {bb cp po pg:Nat} {bs:List RB} {L L':List Bool}
theorem RtM.ol(h:RtM W o n C bb cp po pg bs L):o<W.heap.size:=World.block_lt_of_cell? _ _ h.c0
theorem RtM.lt(h:RtM W o n C bb cp po pg bs L):∀b,RtJ o bb po pg bs b→b<W.heap.size:=by
 rintro b (rfl | rfl | rfl | rfl | ⟨x,hx,e⟩)
 ·exact h.ol
 ·exact h.bl
 ·exact h.pl.ol
 ·exact h.pl.gl
 ·obtain⟨h1,h2,h3⟩:=h.rb.rb x hx
  exact(Z0p h1 h3 b e).2
theorem RtM.tch{S:Nat→Prop}(h:RtM W o n C bb cp po pg bs L)(t:Z4 S W W')(hS:∀b,RtJ o bb po pg bs b→¬S b):RtM W' o n C bb cp po pg bs L:=by
 have ho:=hS o (.inl rfl)
 have hol:=h.ol
 exact⟨(t.cell hol ho).trans h.c0,(t.cell hol ho).trans h.c1,(t.cell hol ho).trans h.c2,(t.cell hol ho).trans h.c3,(t.cell hol ho).trans h.c4,(t.cell hol ho).trans h.c5,
  fun i hi=>(t.cell h.bl (hS bb (.inr (.inl rfl)))).trans (h.row i hi),lL0 h.bl t.size,h.rb.tchS t (fun b hb k e=>hS k (.inr (.inr (.inr (.inr ⟨b,hb,e⟩))))),h.pl.tch t (hS po (.inr (.inr (.inl rfl)))) (hS pg (.inr (.inr (.inr (.inl rfl))))),h.no,h.nb,h.np⟩
theorem RtM.nw(h:RtM W o n C bb cp po pg bs L)(g:Nw W W'):RtM W' o n C bb cp po pg bs L:=h.tch (Z4.nw (S:=fun _=>False) g) (fun _ _ e=>e)
theorem RtM.call(h:RtM W o n C bb cp po pg bs L){i:Nat}(hi:i<bs.length){v':Value}{l':List Hm}(d:Yx W bs[i].o po pg n bs[i].v bs[i].l W' v' l')(hne:∀x∈l',x.h.q≠[])(hp:Rp W' po pg L') :
  RtM W' o n C bb cp po pg (bs.set i ⟨bs[i].o,v',l'⟩) L'∧(∀b,RtJ o bb po pg (bs.set i ⟨bs[i].o,v',l'⟩) b→RtJ o bb po pg bs b∨W.heap.size≤b)∧Z4 (RtJ o bb po pg bs) W W':=by
 have hm:=gM0 hi
 have hsub:∀b,(b=bs[i].o∨bs[i].v.ownBlock=some b∨b=pg)→b=pg∨bs[i].in' b:=fun b e=>by
  rcases e with e | e | e
  ·exact .inr (.inl e)
  ·exact .inr (.inr (.inl e))
  ·exact .inl e
 have ho:¬(o=bs[i].o∨bs[i].v.ownBlock=some o∨o=pg):=fun e=>(hsub o e).elim h.np.2.1 (h.no _ hm)
 have hb':¬(bb=bs[i].o∨bs[i].v.ownBlock=some bb∨bb=pg):=fun e=>(hsub bb e).elim h.np.2.2.2 (h.nb _ hm)
 have h3:=d.tch
 have hol:=h.ol
 have hbl:=h.bl
 have hin:∀b,(⟨bs[i].o,v',l'⟩:RB).in' b→bs[i].in' b∨W.heap.size≤b:=d.inn
 have hmem:∀x∈bs.set i ⟨bs[i].o,v',l'⟩,x∈bs∨x=⟨bs[i].o,v',l'⟩:=fun x hx=>List.mem_or_eq_of_mem_set hx
 refine⟨⟨(h3.cell hol ho).trans h.c0,(h3.cell hol ho).trans h.c1,(h3.cell hol ho).trans h.c2,(h3.cell hol ho).trans h.c3,by rw[List.length_set];exact(h3.cell hol ho).trans h.c4,(h3.cell hol ho).trans h.c5,
  fun j hj=>?_,lL0 hbl h3.size,h.rb.put hi d hne,hp,fun b hb e=>?_,fun b hb e=>?_,h.np⟩,fun b e=>?_,h3.mono fun b _ e=>?_⟩
 ·rw[List.length_set] at hj
  refine(h3.cell hbl hb').trans ((h.row j hj).trans ?_)
  by_cases q:i=j
  ·subst q;rw[List.getElem_set_self]
  ·rw[List.getElem_set_ne q]
 ·rcases hmem b hb with q | rfl
  ·exact h.no b q e
  ·exact(hin _ e).elim (h.no _ hm) (fun q=>by omega)
 ·rcases hmem b hb with q | rfl
  ·exact h.nb b q e
  ·exact(hin _ e).elim (h.nb _ hm) (fun q=>by omega)
 ·rcases e with e | e | e | e | ⟨x,hx,e⟩
  ·exact .inl (.inl e)
  ·exact .inl (.inr (.inl e))
  ·exact .inl (.inr (.inr (.inl e)))
  ·exact .inl (.inr (.inr (.inr (.inl e))))
  ·rcases hmem x hx with q | rfl
   ·exact .inl (.inr (.inr (.inr (.inr ⟨x,q,e⟩))))
   ·exact(hin b e).imp (fun q=>.inr (.inr (.inr (.inr ⟨_,hm,q⟩)))) id
 ·rcases hsub b e with q | q
  ·exact .inr (.inr (.inr (.inl q)))
  ·exact .inr (.inr (.inr (.inr ⟨_,hm,q⟩)))
end
def Zv(bs:List RB):List (List Hq):=bs.map fun b=>Z3 b.l
theorem Zni(bs:List RB)(i:Nat)(b:RB):Zv (bs.set i b)=(Zv bs).set i (Z3 b.l):=by unfold Zv;rw[List.map_set]
theorem Z0w{bs:List RB}{i:Nat}(hi:i<bs.length)(hi':i<(Zv bs).length):(Zv bs)[i]=Z3 bs[i].l:=by simp[Zv]
theorem Zj(bs:List RB):(Zv bs).length=bs.length:=by unfold Zv;rw[List.length_map]
def U5(W:World)(o S n N k:Nat)(C:Ud)(hss:List (List Hq))(L:List Bool)(J:Nat→Prop):Prop :=
 ∃bb cp po pg bs,RtM W o n C bb cp po pg bs L∧Zv bs=hss∧J=RtJ o bb po pg bs∧Y1 S n N k hss L
def Vd(W:World)(o S n N k:Nat)(C:Ud)(hss:List (List Hq))(L:List Bool)(J:Nat→Prop)(W':World):Prop :=
 ∃J',U5 W' o S n N k C hss L J'∧(∀b,J' b→J b∨W.heap.size≤b)∧Z4 J W W'
section
variable {W W':World} {o S n N k:Nat} {C:Ud} {hss:List (List Hq)} {L:List Bool} {J:Nat→Prop}
theorem U5.nw(h:U5 W o S n N k C hss L J)(g:Nw W W'):U5 W' o S n N k C hss L J:=by
 obtain⟨bb,cp,po,pg,bs,h1,h2⟩:=h
 exact⟨bb,cp,po,pg,bs,h1.nw g,h2⟩
theorem U5.tch{Q:Nat→Prop}(h:U5 W o S n N k C hss L J)(t:Z4 Q W W')(hS:∀b,J b→¬Q b):U5 W' o S n N k C hss L J:=by
 obtain⟨bb,cp,po,pg,bs,h1,h2,rfl,h4⟩:=h
 exact⟨bb,cp,po,pg,bs,h1.tch t hS,h2,rfl,h4⟩
theorem U5.lt(h:U5 W o S n N k C hss L J):∀b,J b→b<W.heap.size:=by
 obtain⟨bb,cp,po,pg,bs,h1,h2,rfl,h4⟩:=h
 exact h1.lt
theorem U5.ok(h:U5 W o S n N k C hss L J):Y1 S n N k hss L:=by
 obtain⟨bb,cp,po,pg,bs,h1,h2,rfl,h4⟩:=h
 exact h4
theorem U5.to(h:U5 W o S n N k C hss L J)(g:Nw W W')(k':Nat)(hk:k≤k'):Vd W o S n N k' C hss L J W':=by
 obtain⟨bb,cp,po,pg,bs,h1,h2,rfl,h4⟩:=h
 exact⟨_,⟨bb,cp,po,pg,bs,h1.nw g,h2,rfl,h4.more hk⟩,fun b e=>.inl e,Z4.nw g⟩
end
theorem Zgh(b o c b' o' c':Nat)(l:List Rq)(w:World)(hm:l.length≤1000)(h:RdC 5 Zk w b o l)(h':RdC 5 Zk w b' o' l) :
  Calls prog 36 #[.slice (some ⟨b,o,none⟩) l.length c,.slice (some ⟨b',o',none⟩) l.length c'] w fun e w'=>e=.returned (.bool true)∧Nw w w':=by
 have H:=hD0 (aI0 h h')
 clear h h'
 go_enter func36,ntmps36
 go_wp2
 go_loopw [5] (fun i wr=>∃k:Nat,k≤l.length∧i=.int .i64 k∧Nw w wr) (fun i _=>l.length-(intOf i).toNat)
 case atStart=>exact⟨0,Nat.zero_le _,rfl,Nw.refl _⟩
 case round =>
  obtain⟨k,hk,rfl,hG⟩:=hrel
  by_cases hlt:k<l.length
  ·have hce:=(H.out.1.nw hG).cell k hlt
   have hde:=(H.out.2.nw hG).cell k hlt
   have hki:(k:Int)<(l.length:Int):=by omega
   generalize l[k]=s at *
   obtain⟨s0,s1,s2,s3,s4⟩:=s
   have c0:=hce 0 _ rfl
   have c1:=hce 1 _ rfl
   have c2:=hce 2 _ rfl
   have c3:=hce 3 _ rfl
   have c4:=hce 4 _ rfl
   simp only[Nat.add_zero] at c0
   have d0:=hde 0 _ rfl
   have d1:=hde 1 _ rfl
   have d2:=hde 2 _ rfl
   have d3:=hde 3 _ rfl
   have d4:=hde 4 _ rfl
   simp only[Nat.add_zero] at d0
   clear hce hde
   have HG:=hD0 hG
   clear hG
   go_wp2_with fail
   go_quiet (fail)
   go_wp2
   go_roundw
   case rel=>exact⟨k+1,by omega,by go_num,HG.out.drewN _⟩
   case measure=>simp[intOf];omega
  ·have HG:=hD0 hG
   clear hG
   go_wp2
   go_ret
   exact⟨rfl,HG.out⟩
theorem Z84(a a':Option Addr)(c c':Nat)(w:World):Calls prog 36 #[.slice a 0 c,.slice a' 0 c'] w fun e w'=>e=.returned (.bool true)∧Nw w w':=by
 go_enter func36,ntmps36
 go_wp2
 refine wp_loop_rounds 1 ?_
 repeat (rw[rounds_succ];go_wp2)
 go_ret
 exact⟨rfl,Nw.refl _⟩
theorem Zkk(v v':Value)(l:List Rq)(w:World)(hm:l.length≤1000)(h:Zl w v l)(h':Zl w v' l):Calls prog 36 #[v,v'] w fun e w'=>e=.returned (.bool true)∧Nw w w':=by
 obtain⟨a,c,rfl,⟨rfl,_⟩ | ⟨b,o,rfl,hc⟩⟩:=h
 ·obtain⟨a',c',rfl,_⟩:=h'
  exact Z84 a a' c c' w
 ·obtain⟨a',c',rfl,⟨rfl,_⟩ | ⟨b',o',rfl,hc'⟩⟩:=h'
  ·exact Z84 _ a' c c' w
  ·exact Zgh b o c b' o' c' l w hm hc hc'
theorem Yl.nw{w w':World}{o:Nat}{v:Value}{hs:List Hq}(h:Yl w o v hs)(g:Nw w w'):Yl w' o v hs:=by
 obtain⟨lm,h1,h2,h3⟩:=h
 exact⟨lm,onw h1 g,h2,fun x hx=>(h3 x hx).nw g⟩
def Zvg(w:World)(v:Value)(lm:List Hm):Prop:=Rd 4 Zm w v lm∧∀x∈lm,Zl w (hmV x) x.h.q∧x.h.q.length≤1000
theorem Yl.rd{w:World}{o:Nat}{v:Value}{hs:List Hq}(h:Yl w o v hs):∃lm,Zvg w v lm∧lm.map Hm.h=hs:=by
 obtain⟨lm,h1,h2,h3⟩:=h
 exact⟨lm,⟨Yz.rd Y6.len h1,fun x hx=>⟨(h3 x hx).rd,(h3 x hx).len⟩⟩,h2⟩
theorem Zge(b o c b' o' c':Nat)(l m:List Hm)(w:World)(hm:l.length≤1000)(he:l.map Hm.h=m.map Hm.h)(h:RdC 4 Zm w b o l)(h':RdC 4 Zm w b' o' m)(hq:∀x∈l,Zl w (hmV x) x.h.q∧x.h.q.length≤1000)(hq':∀x∈m,Zl w (hmV x) x.h.q∧x.h.q.length≤1000) :
  Calls prog 12 #[.slice (some ⟨b,o,none⟩) l.length c,.slice (some ⟨b',o',none⟩) l.length c'] w fun e w'=>e=.returned (.bool true)∧Nw w w':=by
 have H:=hD0 (aI0 h (aI0 h' (aI0 hq (aI0 hq' he))))
 have hml:m.length=l.length:=by have:=congrArg List.length he;rw[List.length_map,List.length_map] at this;exact this.symm
 have HM:=hD0 hml
 clear h h' hq hq' he hml
 go_enter func12,ntmps12
 go_wp2
 go_loopw [5] (fun i wr=>∃k:Nat,k≤l.length∧i=.int .i64 k∧Nw w wr) (fun i _=>l.length-(intOf i).toNat)
 case atStart=>exact⟨0,Nat.zero_le _,rfl,Nw.refl _⟩
 case round =>
  obtain⟨k,hk,rfl,hG⟩:=hrel
  by_cases hlt:k<l.length
  ·have Zrw:k<m.length:=by rw[HM.out];exact hlt
   have hce:=(H.out.1.nw hG).cell k hlt
   have hde:=(H.out.2.1.nw hG).cell k Zrw
   have hki:(k:Int)<(l.length:Int):=by omega
   have hx:=H.out.2.2.1 _ (gM0 hlt)
   have hy:=H.out.2.2.2.1 _ (gM0 Zrw)
   have he:l[k].h=m[k].h:=by
    have e1:(l.map Hm.h)[k]'(by simpa using hlt)=(m.map Hm.h)[k]'(by simpa using Zrw):=by simp only[H.out.2.2.2.2]
    simpa using e1
   generalize l[k]=x at *
   generalize m[k]=y at *
   obtain⟨⟨xt,xr,xW,xq⟩,xa,xc⟩:=x
   obtain⟨yh,ya,yc⟩:=y
   simp only at he
   subst he
   have HS:=hD0 (fun z (g:Nw w z)=>Zkk _ _ _ z hx.2 (hx.1.nw g) (hy.1.nw g))
   unfold hmV at HS
   simp only at HS
   have c0:=fun z (g:Nw wr z)=>g.kp (hce 0 _ rfl)
   have c1:=fun z (g:Nw wr z)=>g.kp (hce 1 _ rfl)
   have c2:=fun z (g:Nw wr z)=>g.kp (hce 2 _ rfl)
   have c3:=fun z (g:Nw wr z)=>g.kp (hce 3 _ rfl)
   simp only[Nat.add_zero] at c0
   have d0:=fun z (g:Nw wr z)=>g.kp (hde 0 _ rfl)
   have d1:=fun z (g:Nw wr z)=>g.kp (hde 1 _ rfl)
   have d2:=fun z (g:Nw wr z)=>g.kp (hde 2 _ rfl)
   have d3:=fun z (g:Nw wr z)=>g.kp (hde 3 _ rfl)
   simp only[Nat.add_zero] at d0
   have C0:∀d:Wd (fun z=>Nw wr z),d.w.cell? ⟨b,o+k*4,none⟩=some (.int .i64 xt):=fun d=>c0 _ d.h
   have C1:∀d:Wd (fun z=>Nw wr z),d.w.cell? ⟨b,o+k*4+1,none⟩=some (.int .i64 xr):=fun d=>c1 _ d.h
   have C2:∀d:Wd (fun z=>Nw wr z),d.w.cell? ⟨b,o+k*4+2,none⟩=some (.slice xa xq.length xc):=fun d=>c2 _ d.h
   have C3:∀d:Wd (fun z=>Nw wr z),d.w.cell? ⟨b,o+k*4+3,none⟩=some (.int .i64 xW):=fun d=>c3 _ d.h
   have D0:∀d:Wd (fun z=>Nw wr z),d.w.cell? ⟨b',o'+k*4,none⟩=some (.int .i64 xt):=fun d=>d0 _ d.h
   have D1:∀d:Wd (fun z=>Nw wr z),d.w.cell? ⟨b',o'+k*4+1,none⟩=some (.int .i64 xr):=fun d=>d1 _ d.h
   have D2:∀d:Wd (fun z=>Nw wr z),d.w.cell? ⟨b',o'+k*4+2,none⟩=some (.slice ya xq.length yc):=fun d=>d2 _ d.h
   have D3:∀d:Wd (fun z=>Nw wr z),d.w.cell? ⟨b',o'+k*4+3,none⟩=some (.int .i64 xW):=fun d=>d3 _ d.h
   have HG:=hD0 hG
   have hne:Nonempty (Wd (fun z=>Nw wr z)):=⟨⟨_,Nw.refl _⟩⟩
   generalize xq.length=ql at *
   clear hce hde hG hx hy c0 c1 c2 c3 d0 d1 d2 d3
   go_wp2_with fail
   refine Zf (fun z=>Nw wr z) (by kernel_rfl) (by kernel_rfl) (Nw.refl wr).dr ?_
   repeat (first | go_big_quiet_step ((exact Zd (fun a b h g=>h.trans g) (HS.out _ (HG.out.trans (Wd.h _))))) | quiet_step ((exact Zd (fun a b h g=>h.trans g) (HS.out _ (HG.out.trans (Wd.h _))))))
   refine wpQuiet_nil ?_
   intro d
   go_wp2
   go_roundw
   case rel=>exact⟨k+1,by omega,by go_num,HG.out.trans d.h⟩
   case measure=>simp[intOf];omega
  ·have HG:=hD0 hG
   clear hG
   go_wp2
   go_ret
   exact⟨rfl,HG.out⟩
theorem Zgd(a a':Option Addr)(c c':Nat)(w:World):Calls prog 12 #[.slice a 0 c,.slice a' 0 c'] w fun e w'=>e=.returned (.bool true)∧Nw w w':=by
 go_enter func12,ntmps12
 go_wp2
 refine wp_loop_rounds 1 ?_
 repeat (rw[rounds_succ];go_wp2)
 go_ret
 exact⟨rfl,Nw.refl _⟩
theorem Zkj(v v':Value)(l m:List Hm)(w:World)(hm:l.length≤1000)(he:l.map Hm.h=m.map Hm.h)(h:Zvg w v l)(h':Zvg w v' m):Calls prog 12 #[v,v'] w fun e w'=>e=.returned (.bool true)∧Nw w w':=by
 have hml:m.length=l.length:=by have:=congrArg List.length he;rw[List.length_map,List.length_map] at this;exact this.symm
 obtain⟨⟨a,c,rfl,h1⟩,hq⟩:=h
 obtain⟨⟨a',c',rfl,h1'⟩,hq'⟩:=h'
 rw[hml]
 by_cases hl:l.length=0
 ·rw[hl];exact Zgd a a' c c' w
 ·rcases h1 with⟨e,_⟩ | ⟨b,o,rfl,hc⟩
  ·exact absurd (by rw[e];rfl) hl
  rcases h1' with⟨e,_⟩ | ⟨b',o',rfl,hc'⟩
  ·exact absurd (by rw[←hml,e];rfl) hl
  exact Zge b o c b' o' c' l m w hm he hc hc' hq hq'
theorem Zgf{w:World}{o o':Nat}{v v':Value}{hs:List Hq}(hm:hs.length≤1000)(h:Yl w o v hs)(h':Yl w o' v' hs):Calls prog 12 #[v,v'] w fun e w'=>e=.returned (.bool true)∧Nw w w':=by
 obtain⟨l,k1,e1⟩:=h.rd
 obtain⟨m,k2,e2⟩:=h'.rd
 exact Zkj v v' l m w (by rw[←e1,List.length_map] at hm;exact hm) (e1.trans e2.symm) k1 k2
theorem Zwr:(prog.info? 89).isSome=true:=by kernel_rfl
theorem Zkz(a:Addr)(w:World):Sem.run prog (binOp .eql 26 (.pointer (some a)) (.pointer (some a))) w=.ok (.bool true) w:=by
 obtain⟨j,hj⟩:=Option.isSome_iff_exists.1 Zwr
 exact run_eql_ptr_same w a underlying26 hj
theorem Z0f(o:Nat)(w:World)(h:w.cell? ⟨o,0,none⟩=some (.pointer (some ⟨o,0,none⟩))):Calls prog 67 #[.pointer (some ⟨o,0,none⟩)] w fun e w'=>e=.returned (.bool true)∧w=w':=by
 have he:=Zkz
 go_enter func67,ntmps67
 go_wp2
 go_ret
 exact⟨rfl,rfl⟩
def TSt(o bb cp nn:Nat)(y:World):Prop:=y.cell? ⟨o,0,none⟩=some (ptN o)∧y.cell? ⟨o,6,none⟩=some (.slice (some ⟨bb,0,none⟩) nn cp)
section
variable {W:World} {o n:Nat} {C:Ud} {bb cp hb po:Nat} {ds:List DB} {hv:List (Int × Nat)} {L:List Bool} {F:Nat→Prop}
theorem TbM.st(h:TbM W o n C bb cp hb po ds hv L F):TSt o bb cp ds.length W:=⟨h.c0,h.c6⟩
end
theorem Z8d{W:World}{o bb cp nn:Nat}(h:TSt o bb cp nn W)(t r:Int) :
  Calls prog 20 #[.pointer (some ⟨o,0,none⟩),.agg #[.int .i64 t,.int .i64 r]] W fun e W'=>e=.returned (.int .i64 (ofS t r nn))∧Nw W W':=by
 obtain⟨z,hz⟩:∃z,W.alloc (.cells #[.int .i64 t,.int .i64 r] 34)=z:=⟨_,rfl⟩
 have g1:Nw W z:=by rw[←hz];exact(Nw.refl W).alloc _
 have hal:=Z1 W (.cells #[.int .i64 t,.int .i64 r] 34)
 rw[hz] at hal
 have HZ:=hD0 hz
 have HG:=hD0 g1
 have HMd:=hD0 (Z0f o z (g1.kp h.1))
 have HC:=hD0 (aI0 (g1.kp h.2) (aI0 hal (World.block_lt_of_cell? _ _ (g1.kp h.2))))
 clear hz g1 hal h
 go_enter func20,ntmps20
 go_wp2_with fail
 rw[HZ.out]
 generalize W.heap.size=pb at *
 refine HMd.out.mono ?_
 rintro e z' ⟨rfl,rfl⟩
 go_upto_region 3 with fail
 have hne:Nonempty (Wd (fun y=>Nw z y)):=⟨⟨_,Nw.refl _⟩⟩
 have C1:=fun(d:Wd (fun y=>Nw z y))=>d.h.kp HC.out.1
 have C2:=fun(d:Wd (fun y=>Nw z y))=>(Z0 (j:=0) (d.h.at' HC.out.2.1)).trans rfl
 have C3:=fun(d:Wd (fun y=>Nw z y))=>(Z0 (j:=1) (d.h.at' HC.out.2.1)).trans rfl
 go_wp2_with fail
 refine Zf (fun y=>Nw z y) (by kernel_rfl) (by kernel_rfl) (Nw.refl z).dr ?_
 repeat (first | go_big_quiet_step ((exact Zd (fun a b h g=>h.trans g) (Zoo t r nn _))) | quiet_step ((exact Zd (fun a b h g=>h.trans g) (Zoo t r nn _))))
 refine wpQuiet_nil ?_
 intro d
 have HD:=hD0 (HG.out.trans d.h)
 clear C1 C2 C3 hne
 revert HD
 generalize d.w=z3
 intro HD
 go_wp2
 go_ret
 exact⟨rfl,HD.out⟩
section
variable {W:World} {o n:Nat} {C:Ud} {bb cp hb po:Nat} {ds:List DB} {hv:List (Int × Nat)} {L:List Bool} {F:Nat→Prop}
theorem Zi3{hs:List Hq}{id:Int}:(Zt hs id).isSome=true↔id∈Za hs:=by
 cases e:Zt hs id with
 | none=>exact⟨(fun q=>by cases q),fun q=>absurd q (Zsu e)⟩
 | some h =>
  obtain⟨h1,r,h2⟩:=Z0c e
  exact⟨fun _=>List.mem_flatMap.2 ⟨h,h1,Zci.1 ⟨r,h2⟩⟩,fun _=>rfl⟩
theorem Zas{ds:List DB}{i:Nat}(hi:i<ds.length)(hi':i<(Ze ds).length):(Ze ds)[i]=Zb ds[i].l:=by
 have:=Zcw hi
 rw[List.getElem?_eq_getElem hi'] at this
 exact Option.some.inj this
theorem Ys(ds:List DB):(Ze ds).length=ds.length:=by unfold Ze;rw[List.length_map]
theorem Zwl(p:hv.Perm (hvT ds)){i:Nat}(hi:i<ds.length){id:Int}(e:atT (Ze ds) id=some i):(id,ds[i].o)∈hv:=by
 obtain⟨hi',h1,_⟩:=Z3z e
 rw[Zas hi hi',Zi3] at h1
 exact p.mem_iff.2 (Znl.2 ⟨ds[i],gM0 hi,rfl,h1⟩)
theorem Zs3(p:hv.Perm (hvT ds)){id:Int}(e:atT (Ze ds) id=none):∀x∈hv,x.1≠id:=fun x hx q=>by
 obtain⟨x1,x2⟩:=x
 simp only at q
 subst q
 obtain⟨d,hd,_,h2⟩:=Znl.1 (p.mem_iff.1 hx)
 have:=Z73 e _ (List.mem_map.2 ⟨d,hd,rfl⟩)
 rw[←Zi3,this] at h2
 cases h2
theorem Z6w(h:TbM W o n C bb cp hb po ds hv L F)(p:hv.Perm (hvT ds))(id:Int)(hf:Fit id){i:Nat}(hi:i<ds.length)(e:V3 (Ze ds) id=i) :
  Calls prog 70 #[.pointer (some ⟨o,0,none⟩),.int .i64 id] W fun e W'=>e=.returned (ptN ds[i].o)∧W=W':=by
 have HMd:=hD0 (Z0f o W h.c0)
 have c6:=h.c6
 have c7:=h.c7
 unfold V3 at e
 cases q:atT (Ze ds) id with
 | some j =>
  rw[q] at e
  obtain rfl:j=i:=e
  have hl:=h.map.look_yes (Zwl p hi q)
  generalize ds[j].o=x at *
  clear h p q hi hf
  go_enter func70,ntmps70
  go_wp2_with (go_at_call 67;refine HMd.out.mono ?_;rintro e w' ⟨rfl,rfl⟩)
  go_ret
  exact⟨rfl,rfl⟩
 | none =>
  rw[q] at e
  obtain rfl:0=i:=e
  have hl:=h.map.look_no hf (Zs3 p q)
  have hr:=h.row 0 hi
  have d1:decide ((0:Int)<(ds.length:Int))=true:=by simpa using hi
  generalize ds[0].o=x at *
  generalize ds.length=nn at *
  clear h p q hf
  go_enter func70,ntmps70
  go_wp2_with (go_at_call 67;refine HMd.out.mono ?_;rintro e w' ⟨rfl,rfl⟩)
  go_ret
  exact⟨rfl,rfl⟩
end
section
open Go.RowKit Go.Sort Go.Shelf
theorem Zwh{w:World}{g:Nat}{cur F:Array Value}{e:TypeId}(hb:w.heap[g]?=some (.cells cur e (0,0)))(ht:cur.toList.take F.size=F.toList):Holds id w g 0 F:=by
 intro j hj
 refine⟨?_,by simp[World.frozen?,hb]⟩
 have h1:(cur.toList.take F.size)[j]?=F.toList[j]?:=by rw[ht]
 rw[List.getElem?_take_of_lt hj] at h1
 simp only[World.cell?,hb,Nat.zero_add]
 simp only[Option.isSome_none,Bool.false_eq_true,if_false]
 rw[←Array.getElem?_toList,h1]
 simp[hj]
theorem Zyu{w:World}{g n:Nat}{os:Array Obj}{cur:Array Value}{e:TypeId}{fr:Nat × Nat}(F:Array Value)(hb:w.heap[g]?=some (.cells cur e fr)) :
  (grow (putRow id (Sort.ahead w n) g 0 F) os).heap[g]?=some (.cells (putCells id 0 F cur) e fr):=by
 have hg:g<w.heap.size:=(Array.getElem?_eq_some_iff.1 hb).1
 rw[heap_grow_old _ _ (by simpa using hg)]
 simp[putRow,mapBlock,Sort.ahead,Array.getElem?_modify,hb,onCells]
theorem Zzt{w:World}{g n:Nat}{os:Array Obj}(F:Array Value):Z4 (fun b=>b=g) w (grow (putRow id (Sort.ahead w n) g 0 F) os):=by
 refine⟨rfl,rfl,rfl,by simp,fun k hk hne=>?_⟩
 rw[heap_grow_old _ _ (by simpa using hk)]
 have:g≠k:=fun e=>hne e.symm
 simp[putRow,mapBlock,Sort.ahead,Array.getElem?_modify,this]
theorem Zzg(cur F:Array Value)(h:F.size≤cur.size):(putCells id 0 F cur).toList.take F.size=F.toList:=by
 apply List.ext_getElem?
 intro j
 by_cases hj:j<F.size
 ·rw[List.getElem?_take_of_lt hj,Array.getElem?_toList]
  simp[putCells,hj,show j<cur.size by omega]
 ·rw[List.getElem?_take_eq_none (by omega),List.getElem?_eq_none (by simp;omega)]
theorem Zuz{α:Type}[Inhabited α]{sz:Nat}{row:α→List Value}(hz:0<sz)(hl:∀a,(row a).length=sz)(ss:List α):flatK row sz ss.toArray=⟨Z6 row ss⟩:=by
 have hlen:(Z6 row ss).length=ss.length*sz:=Yw hl ss
 apply Array.ext
 ·rw[size_flatK];simp[hlen]
 ·intro t h1 h2
  rw[size_flatK] at h1
  have h1':t<ss.length*sz:=by simpa using h1
  have hd:t/sz<ss.length:=Nat.div_lt_of_lt_mul (by rwa [Nat.mul_comm])
  have hm:t%sz<sz:=Nat.mod_lt _ hz
  have h3:=Z0q hl ss (t/sz) (t%sz) hd hm
  rw[show t/sz*sz+t%sz=t by rw[Nat.mul_comm];exact Nat.div_add_mod t sz] at h3
  have e1:=get_flatK row sz ss.toArray t h1
  rw[getElem!_pos _ t (by rw[size_flatK];exact h1)] at e1
  rw[e1,getElem!_pos ss.toArray (t/sz) (by simpa using hd)]
  have e2:(⟨Z6 row ss⟩:Array Value)[t]?=(row ss[t/sz])[t%sz]?:=by
   rw[←h3];simp
  rw[Array.getElem?_eq_getElem h2] at e2
  simp only[List.getElem_toArray]
  rw[getElem!_pos _ _ (by rw[hl];exact hm)]
  rw[List.getElem?_eq_getElem (by rw[hl];exact hm)] at e2
  exact(Option.some.inj e2).symm
theorem Zza{α:Type}[Inhabited α]{d d':Array α}(h:PermIn 0 d.size d d'):d'.toList.Perm d.toList:=by
 obtain⟨h1,_,h3⟩:=h
 have e1:d'.extract 0 d.size=d':=by rw[←h1];exact Array.extract_size
 have e2:d.extract 0 d.size=d:=Array.extract_size
 rwa [e1,e2] at h3
theorem Ztl{α:Type}[Inhabited α]{lt:α→α→Bool}{d':Array α}{n:Nat}(hn:d'.size=n)(h:SortedIn lt 0 n d'):d'.toList.Pairwise fun a b=>lt b a=false:=by
 rw[List.pairwise_iff_getElem]
 intro i j hi hj hij
 have:=h i j (Nat.zero_le _) hij (by rw[←hn];simpa using hj)
 have hi':i<d'.size:=by simpa using hi
 have hj':j<d'.size:=by simpa using hj
 rw[getElem!_pos d' i hi',getElem!_pos d' j hj'] at this
 simpa using this
theorem Z9u{α:Type}[Inhabited α]{ST T:TypeId}{sz bytes:Nat}{row:α→List Value}(E:Z29 prog ST T sz bytes row){ρ:Ren}(L:SlLaysF0.n6 prog ρ)(aE:∀w,(isAgg (ρ.t 24)).run prog w=.ok true w)(zE:∀w,(Go.sizeOf (ρ.t 24)).run prog w=.ok sz w)
  (cf:α→α→Int) (hO:SWO (ltOf cf)) (fn:Nat) (eg:∀args w,(callFunc fn args).run prog w=.ok (.enter fn args) w)
  (hc:∀x y W,Calls prog fn #[.agg (row x).toArray,.agg (row y).toArray] W fun e w'=>e=.returned (.int .i64 (cf x y))∧GG W w')
  (g0 g cap:Nat) (ss:List α) (w:World) (h:Yz T sz row w g0 (.slice (some ⟨g,0,none⟩) ss.length cap) ss) (hsm:ss.length≤100000) :
  Calls prog (ρ.f 6) #[.slice (some ⟨g,0,none⟩) ss.length cap,.func (.func fn) #[] #[]] w fun e w'=>e=.returned (.tuple #[])∧∃l:List α,l.Perm ss∧(l.Pairwise fun a b=>ltOf cf b a=false)∧Yz T sz row w' g0 (.slice (some ⟨g,0,none⟩) l.length cap) l∧Z4 (fun b=>b=g) w w':=by
 obtain⟨hx,hr⟩:=h
 rcases hr with⟨h0,_⟩ | ⟨g',cap',cur,h1,h2,h3,h4,h5,h6,h7⟩
 ·simp at h0
 ·simp only[Value.slice.injEq,Option.some.injEq,Addr.mk.injEq,and_true,true_and] at h1
  obtain⟨rfl,rfl⟩:=h1
  have hF:(⟨Z6 row ss⟩:Array Value).size=ss.length*sz:=Yw E.len ss
  have hH:HoldsK row sz w g 0 ss.toArray:=by
   unfold HoldsK
   rw[Zuz E.pos E.len]
   exact Zwh h3 (by rw[hF];exact h7)
  have hcl:CmpLays prog fn #[] row sz cf g 0 ss.toArray.size w:=fun _ _ _ _ x y=>hc x y _
  refine Calls.mono (AnyQ.slices_SortFunc L sz aE zE row E.len E.one cf hO fn #[] g 0 cap ss.toArray w eg hcl hH (hlt h3) (by simp;omega)) ?_
  rintro e w' ⟨rfl,d',n,os,hp,hs,rfl⟩
  have hsz:d'.size=ss.length:=by have:=hp.1;simpa using this
  have hp2:=Zza hp
  refine⟨rfl,d'.toList,by simpa using hp2,Ztl (by simpa using hsz) hs,?_,?_⟩
  ·have hl:d'.toList.length=ss.length:=by simpa using hsz
   have hz:(⟨Z6 row d'.toList⟩:Array Value).size=ss.length*sz:=by rw[←hl];exact Yw E.len _
   unfold sortWorldK putRowK
   have ef:flatK row sz d'=⟨Z6 row d'.toList⟩:=by
    have:=Zuz E.pos E.len d'.toList
    rwa [Array.toArray_toList] at this
   rw[ef]
   unfold Yz
   rw[hl]
   refine⟨by show(Z6 row d'.toList).length=_;exact hz,.inr ⟨g,cap,_,rfl,h2,Zyu _ h3,h4,h5,by simp[putCells,h6],?_⟩⟩
   have:=Zzg cur ⟨Z6 row d'.toList⟩ (by rw[hz,h6];exact Nat.mul_le_mul_right sz h4)
   rw[hz] at this
   exact this
  ·exact Zzt _
end
section
open Go.RowKit Go.Sort
instance:Inhabited Hm:=⟨⟨⟨0,0,0,[]⟩,none,0⟩⟩
instance:Inhabited Hl:=⟨⟨0,0,0,0⟩⟩
def Z2k(e:Hl):List Value:=[.int .i64 e.x,.int .i64 e.t,.int .i64 e.r,.int .i64 e.m]
theorem Z2h:Z29 prog 45 44 4 32 Z2k where
 und:=underlying45
 inf:=by
  have h:(prog.info? 44).map (fun i=>(i.zero.map fun z=>z.cells.size,i.size,i.bytes))=some (some 4,4,32):=by kernel_rfl
  cases e:prog.info? 44 with
  | none=>rw[e] at h;cases h
  | some i =>
   rw[e] at h
   simp only[Option.map_some,Option.some.injEq,Prod.mk.injEq] at h
   obtain⟨h1,h2,h3⟩:=h
   cases ez:i.zero with
   | none=>rw[ez] at h1;cases h1
   | some z=>rw[ez] at h1;exact⟨i,z,rfl,ez,h2,h3,Option.some.inj h1⟩
 pos:=by decide
 byt:=by decide
 len:=fun _=>rfl
 one:=fun a u hu=>by
  simp only[Z2k,List.mem_cons,List.not_mem_nil,or_false] at hu
  rcases hu with rfl | rfl | rfl | rfl<;>rfl
abbrev Z05(w:World)(g0:Nat)(v:Value)(l:List Hl):Prop:=Yz 44 4 Z2k w g0 v l
def Zjf(a b:Hm):Int:=Z14 (Z9 a.h) (Z9 b.h)
def Z3e(a b:Hl):Int:=orP (cP a.x b.x) (Z14 (a.t,a.r) (b.t,b.r))
theorem Zlz:SWO (ltOf Zjf) where
 irrefl x:=Z42.irrefl _
 trans x y z h1 h2:=Z42.trans _ _ _ h1 h2
 ntrans x y z h1 h2:=Z42.ntrans _ _ _ h1 h2
instance (a b:Hl):Decidable (hlL a b):=by unfold hlL;infer_instance
theorem Z6d(a b:Hl):ltOf Z3e a b=decide (hlL a b):=by
 have hN:=Uq (a.t,a.r) (b.t,b.r)
 unfold ltOf at hN
 have q:(Z14 (a.t,a.r) (b.t,b.r)<0)↔Vq (a.t,a.r) (b.t,b.r):=by simpa using hN
 unfold ltOf Z3e
 rw[decide_eq_decide]
 unfold hlL
 rcases Int.lt_trichotomy a.x b.x with h | h | h
 ·rw[Zur _ _ h]
  exact⟨fun _=>.inl h,fun _=>show(-1:Int)<0 by decide⟩
 ·rw[h,Zup]
  show Z14 (a.t,a.r) (b.t,b.r)<0↔_
  rw[q]
  exact⟨fun e=>.inr ⟨rfl,e⟩,fun e=>e.elim (fun e=>absurd e (Int.lt_irrefl _)) (fun e=>e.2)⟩
 ·rw[Zuq _ _ h]
  exact⟨fun e=>absurd e (show ¬(1:Int)<0 by decide),fun e=>e.elim (fun e=>by omega) (fun e=>by omega)⟩
theorem Zly:SWO (ltOf Z3e) where
 irrefl x:=by rw[Z6d];simpa using Z49 x
 trans x y z h1 h2:=by rw[Z6d] at *;simp only[decide_eq_true_eq] at *;exact Zff h1 h2
 ntrans x y z h1 h2:=by
  rw[Z6d] at *
  simp only[decide_eq_false_iff_not] at *
  unfold hlL Vq at *
  simp only at *
  omega
theorem Ztm{l:List Hm}(hp:l.Pairwise fun a b=>ltOf Zjf b a=false)(hn:Vv (l.map Hm.h)):Y9 (l.map Hm.h):=by
 unfold Vv at hn
 unfold Y9
 rw[List.pairwise_map] at hn ⊢
 refine(hp.and hn).imp fun {a b} h=>?_
 obtain⟨h1,h2⟩:=h
 have h3:ltOf Z14 (Z9 b.h) (Z9 a.h)=false:=h1
 rw[Uq] at h3
 rcases Z2y (Z9 a.h) (Z9 b.h)with q | q | q
 ·exact q
 ·exact absurd q h2
 ·simp[q] at h3
theorem Zes{a b:List Hq}(h:Vv a)(p:a.Perm b):Vv b:=(p.pairwise_iff (fun {x y} (e:Z9 x≠Z9 y)=>e.symm)).1 h
theorem Ztk{hss:List (List Hq)}(h:Vv hss.flatten){l l':List Hm}(e:l.map Hm.h=hss.flatten)(p:l'.Perm l)(hp:l'.Pairwise fun a b=>ltOf Zjf b a=false):l'.map Hm.h=Ya hss:=by
 have p2:(l'.map Hm.h).Perm hss.flatten:=by rw[←e];exact p.map _
 exact Ztj h (Ztm hp (Zes h p2.symm)) p2
theorem Zio{l:List Hl}(hp:l.Pairwise fun a b=>ltOf Z3e b a=false)(hn:l.Pairwise fun a b=>¬(a.x=b.x∧a.t=b.t∧a.r=b.r)):l.Pairwise hlL:=by
 refine(hp.and hn).imp fun {a b} h=>?_
 obtain⟨h1,h2⟩:=h
 rw[Z6d] at h1
 have h3:¬hlL b a:=by simpa using h1
 unfold hlL Vq at *
 simp only at *
 omega
theorem Zcd{s:List Hq}(h:Y9 s)(ok:∀h∈s,Ok h.W h.q):(Z09 s).Pairwise fun a b=>¬(a.x=b.x∧a.t=b.t∧a.r=b.r):=by
 unfold Z09
 rw[List.pairwise_flatMap]
 refine⟨fun a ha=>?_,h.imp fun {a b} q u hu v hv e=>?_⟩
 ·rw[List.pairwise_map]
  refine List.Pairwise.filter _ ?_
  exact(ok a ha).pr.imp fun {x y} q e=>q.txn e.1
 ·obtain⟨_,_,rfl⟩:=List.mem_map.1 hu
  obtain⟨_,_,rfl⟩:=List.mem_map.1 hv
  have h1:=e.2.1
  have h2:=e.2.2
  unfold Vq Z9 at q
  simp only at h1 h2 q
  omega
theorem Z9j{a b:Hl}(h:¬(a.x=b.x∧a.t=b.t∧a.r=b.r)):¬(b.x=a.x∧b.t=a.t∧b.r=a.r):=fun e=>h ⟨e.1.symm,e.2.1.symm,e.2.2.symm⟩
theorem Z8y{a b:List Hq}(p:a.Perm b):(Z09 a).Perm (Z09 b):=p.flatMap_right _
theorem Zvm{s u:List Hq}(h:Y9 s)(ok:∀h∈s,Ok h.W h.q)(p:u.Perm s){l:List Hl}(pl:l.Perm (Z09 u))(hp:l.Pairwise fun a b=>ltOf Z3e b a=false):l=Z2b s:=by
 have p2:=pl.trans (Z8y p)
 exact Zvl h ok (Zio hp ((p2.pairwise_iff (fun {a b} q=>Z9j q)).2 (Zcd h ok))) p2
theorem Zru{s:List Hq}(ok:∀h∈s,Ok h.W h.q){txn:Int}{e:Hl}:e∈Vc s txn↔e∈Z09 s∧e.x=txn:=by
 unfold Z09 Vc
 simp only[List.mem_flatMap,List.mem_map,List.mem_filter,Bool.not_eq_true',beq_eq_false_iff_ne]
 constructor
 ·rintro⟨h,⟨hh,hm⟩,rfl⟩
  obtain⟨r,hr,h1,h2⟩:=Zdb hm
  exact⟨⟨h,hh,r,⟨hr,by rw[h2];exact hm⟩,by rw[h1,h2]⟩,rfl⟩
 ·rintro⟨⟨h,hh,r,⟨hr,hm⟩,rfl⟩,rfl⟩
  have e:=Zog (ok h hh) hr
  exact⟨h,⟨hh,by rw[e];exact hm⟩,by rw[e]⟩
theorem Zn3{s:List Hq}(h:Y9 s)(ok:∀h∈s,Ok h.W h.q)(txn:Int):(Vc s txn).Perm ((Z09 s).filter fun e=>e.x==txn) :=
 (List.perm_ext_iff_of_nodup ((Zap h txn).imp fun {a b} q e=>by subst e;exact Z49 _ q) ((Z8x h ok).filter _)).2 fun e=>by
  rw[Zru ok,List.mem_filter,beq_iff_eq]
theorem Zwe{s u:List Hq}(h:Y9 s)(ok:∀h∈s,Ok h.W h.q)(p:u.Perm s)(txn:Int){l:List Hl}(pl:l.Perm ((Z09 u).filter fun e=>e.x==txn))(hp:l.Pairwise fun a b=>ltOf Z3e b a=false):l=Vc s txn:=by
 have p2:l.Perm ((Z09 s).filter fun e=>e.x==txn):=pl.trans ((Z8y p).filter _)
 have hsrt:=Zio hp ((p2.pairwise_iff (fun {a b} q=>Z9j q)).2 ((Zcd h ok).filter _))
 exact List.Perm.eq_of_pairwise (le:=hlL) (fun x y _ _ h1 h2=>absurd (Zff h1 h2) (Z49 _)) hsrt (Zap h txn) (p2.trans (Zn3 h ok txn).symm)
def Z0l(f:Rq→Bool)(s:List Hq):List Hl:=s.flatMap fun h=>(h.q.filter fun r=>!(r.md==0)&&f r).map fun r=>⟨r.txn,h.t,h.r,r.md⟩
theorem Zmn(s:List Hq):Z0l (fun _=>true) s=Z09 s:=by unfold Z0l Z09;simp
theorem Zmo(s:List Hq)(txn:Int):Z0l (fun r=>r.txn==txn) s=(Z09 s).filter fun e=>e.x==txn:=by
 unfold Z0l Z09
 rw[List.filter_flatMap]
 congr 1
 funext h
 rw[List.filter_map,List.filter_filter]
 congr 1
 refine List.filter_congr fun r _=>?_
 simp[Bool.and_comm]
end
def Z46(hs:List Hq)(id:Int):Int × Int × Rq × Bool:=match Zt hs id with
 | none=>(0,0,⟨0,0,0,0,0⟩,false)
 | some h=>(h.t,h.r,rqB h id,true)
theorem Zwa(l:List Hp)(id:Int):∃b0 b1 b2 b3 b4 yb,Z38 (Zh l id).h.q id=.tuple #[.agg #[.int .i64 b0,.int .i64 b1,.int .i64 b2,.int .i64 b3,.int .i64 b4],.bool yb]∧Z46 (Zb l) id=((Zh l id).h.t,(Zh l id).h.r,⟨b0,b1,b2,b3,b4⟩,yb):=by
 cases e:whP l id with
 | none =>
  have e1:Zt (Zb l) id=none:=by rw[Z18,e];rfl
  refine⟨0,0,0,0,0,false,?_,?_⟩
  ·rw[Uc e];rfl
  ·unfold Z46;rw[e1,Uc e];rfl
 | some x =>
  obtain⟨ex,hx,r,hr⟩:=Vg e
  have e1:Zt (Zb l) id=some x.h:=by rw[Z18,e];rfl
  have er:=Zgb hr
  obtain⟨b0,b1,b2,b3,b4⟩:=r
  refine⟨b0,b1,b2,b3,b4,true,?_,?_⟩
  ·rw[ex];unfold Z38;rw[hr];rfl
  ·unfold Z46;rw[e1,ex];simp only;rw[er]
theorem Zyq{w:World}{o mb po n:Nat}{l:List Hp}{L:List Bool}{F:Nat→Prop}(h:Db w o mb po n l L F)(hq:∀x∈l,x.h.q.length≤1000)(id:Int) :
  Calls prog 71 #[.pointer (some ⟨o,0,none⟩),.int .i64 id] w fun e w'=>e=.returned (.tuple #[.agg #[.int .i64 (Z46 (Zb l) id).1,.int .i64 (Z46 (Zb l) id).2.1],rqV (Z46 (Zb l) id).2.2.1,.bool (Z46 (Zb l) id).2.2.2])∧Nw w w':=by
 obtain⟨b0,b1,b2,b3,b4,yb,hv,hg⟩:=Zwa l id
 rw[hg]
 unfold rqV
 simp only
 have hrd:=Z8m h id
 have hql:(Zh l id).h.q.length≤1000:=by
  cases e:whP l id with
  | none=>rw[Uc e];exact Nat.zero_le _
  | some x=>rw[(Vg e).1];exact hq x (Vg e).2.1
 have hN:Nw w ((w.alloc (.cells #[.int .i64 0,.int .i64 0] 34)).alloc (.cells #[.int .i64 0,.int .i64 0,.int .i64 0,.int .i64 0,.int .i64 0] 50)):=((Nw.refl w).alloc _).alloc _
 have hA:=((Nw.refl (w.alloc (.cells #[.int .i64 0,.int .i64 0] 34))).alloc (.cells #[.int .i64 0,.int .i64 0,.int .i64 0,.int .i64 0,.int .i64 0] 50)).at' (Z1 w (.cells #[.int .i64 0,.int .i64 0] 34))
 have hB:=Z1 (w.alloc (.cells #[.int .i64 0,.int .i64 0] 34)) (.cells #[.int .i64 0,.int .i64 0,.int .i64 0,.int .i64 0,.int .i64 0] 50)
 rw[World.size_alloc] at hB
 obtain⟨z,hz⟩:∃z,(w.alloc (.cells #[.int .i64 0,.int .i64 0] 34)).alloc (.cells #[.int .i64 0,.int .i64 0,.int .i64 0,.int .i64 0,.int .i64 0] 50)=z:=⟨_,rfl⟩
 rw[hz] at hN hA hB
 have HZ:=hD0 hz
 have H:=hD0 (h.nw hN)
 have HMd:=hD0 (U1 o z (hN.kp h.c0))
 have HWi:=hD0 (Z51 (h.nw hN) id)
 have HFi:=hD0 (fun w1 (g:Nw w w1)=>Zf1 (Zh l id).h.t (Zh l id).h.r (Zh l id).h.W id (hpV (Zh l id)) (Zh l id).h.q w1 hql (hrd.nw g))
 rw[hv] at HFi
 unfold Yf hpV at HFi
 unfold hpH at HWi
 clear hz hv hg hrd hql h
 revert HFi HWi
 generalize Zh l id=x
 obtain⟨⟨xt,xr,xW,q⟩,xp,xa,xc⟩:=x
 simp only
 generalize q.length=ql
 intro HWi HFi
 have HN:=hD0 hN
 go_enter func71,ntmps71
 go_wp2_with fail
 rw[HZ.out]
 refine HMd.out.mono ?_
 rintro e w' ⟨rfl,rfl⟩
 go_wp2_with fail
 refine HWi.out.mono ?_
 rintro e w1 ⟨rfl,g1⟩
 obtain⟨y1,hy1⟩:∃y1,w1.alloc (.cells #[.int .i64 xt,.int .i64 xr,.slice xa ql xc,.int .i64 xW] 63)=y1:=⟨_,rfl⟩
 have hal:=Z1 w1 (.cells #[.int .i64 xt,.int .i64 xr,.slice xa ql xc,.int .i64 xW] 63)
 rw[hy1] at hal
 have g2:Nw w1 y1:=by rw[←hy1];exact(Nw.refl w1).alloc _
 have HY1:=hD0 hy1
 have HN1:=hD0 (HN.out.trans (g1.trans g2))
 have hA1:=(g1.trans g2).at' hA
 have hB1:=(g1.trans g2).at' hB
 clear hy1 hN hA hB g1 g2
 have hzw:w.heap.size+2≤w1.heap.size:=by
  have h1:=hlt hB1
  have h2:=hlt hal
  have h3:y1.heap.size=w1.heap.size+1:=by rw[←HY1.out];simp
  have h4:w1.heap.size≠w.heap.size+1:=fun e=>by rw[e] at hal;rw[hB1] at hal;cases hal
  omega
 go_wp2_with fail
 rw[HY1.out]
 generalize w1.heap.size=pb at *
 refine(HFi.out _ HN1.out).mono ?_
 rintro e y2 ⟨rfl,g3⟩
 obtain⟨y3,hy3⟩:∃y3,y2.alloc (.cells #[.int .i64 b0,.int .i64 b1,.int .i64 b2,.int .i64 b3,.int .i64 b4] 50)=y3:=⟨_,rfl⟩
 have hal2:=Z1 y2 (.cells #[.int .i64 b0,.int .i64 b1,.int .i64 b2,.int .i64 b3,.int .i64 b4] 50)
 rw[hy3] at hal2
 have g4:Nw y2 y3:=by rw[←hy3];exact(Nw.refl y2).alloc _
 have HY3:=hD0 hy3
 have HN3:=hD0 (HN1.out.trans (g3.trans g4))
 have hA3:=(g3.trans g4).at' hA1
 have hB3:=(g3.trans g4).at' hB1
 have hal3:=(g3.trans g4).at' hal
 have hpy:pb<y2.heap.size:=lL0 (hlt hal) g3.sz
 clear hy3 hA1 hB1 hal g3 g4
 go_wp2_with fail
 rw[HY3.out]
 generalize y2.heap.size=qb at *
 have m0:=Z0 (j:=0) hA3
 have m1:=Z0 (j:=1) hA3
 have mz:=fun j=>hfz (j:=j) hA3
 have ml:=hlt hA3
 have n0:=Z0 (j:=0) hB3
 have n1:=Z0 (j:=1) hB3
 have n2:=Z0 (j:=2) hB3
 have n3:=Z0 (j:=3) hB3
 have n4:=Z0 (j:=4) hB3
 have nz:=fun j=>hfz (j:=j) hB3
 have nl:=hlt hB3
 have p0:=Z0 (j:=0) hal3
 have p1:=Z0 (j:=1) hal3
 have q0:=Z0 (j:=0) hal2
 have q1:=Z0 (j:=1) hal2
 have q2:=Z0 (j:=2) hal2
 have q3:=Z0 (j:=3) hal2
 have q4:=Z0 (j:=4) hal2
 clear hA3 hB3 hal2 hal3
 have ng1:¬(w.heap.size=pb):=by omega
 have ng2:¬(w.heap.size+1=pb):=by omega
 have ng3:¬(w.heap.size=qb):=by omega
 have ng4:¬(w.heap.size+1=qb):=by omega
 have ng5:¬(w.heap.size+1=w.heap.size):=by omega
 obtain⟨y0,hy0⟩:∃y0,y3.drew=y0:=⟨_,rfl⟩
 obtain⟨S,hSe⟩:∃S:World→Prop,S=fun x=>x=y0∨x=((y0.setCell ⟨w.heap.size,0,none⟩ (.int .i64 xt)).setCell ⟨w.heap.size,1,none⟩ (.int .i64 xr))∨x=(((((((y0.setCell ⟨w.heap.size,0,none⟩ (.int .i64 xt)).setCell ⟨w.heap.size,1,none⟩ (.int .i64 xr)).setCell ⟨w.heap.size+1,0,none⟩ (.int .i64 b0)).setCell ⟨w.heap.size+1,1,none⟩ (.int .i64 b1)).setCell ⟨w.heap.size+1,2,none⟩ (.int .i64 b2)).setCell ⟨w.heap.size+1,3,none⟩ (.int .i64 b3)).setCell ⟨w.heap.size+1,4,none⟩ (.int .i64 b4)):=⟨_,rfl⟩
 have s0:y0.cell? ⟨pb,0,none⟩=some (.int .i64 xt):=by subst hy0;exact p0
 have t0:∀x,Hs S x→x.cell? ⟨pb,0,none⟩=some (.int .i64 xt):=fun x h=>by subst hSe;rcases h with rfl | rfl | rfl<;>simp[go_sem,s0]
 have s1:y0.cell? ⟨pb,1,none⟩=some (.int .i64 xr):=by subst hy0;exact p1
 have t1:∀x,Hs S x→x.cell? ⟨pb,1,none⟩=some (.int .i64 xr):=fun x h=>by subst hSe;rcases h with rfl | rfl | rfl<;>simp[go_sem,s1]
 have s2:y0.cell? ⟨qb,0,none⟩=some (.int .i64 b0):=by subst hy0;exact q0
 have t2:∀x,Hs S x→x.cell? ⟨qb,0,none⟩=some (.int .i64 b0):=fun x h=>by subst hSe;rcases h with rfl | rfl | rfl<;>simp[go_sem,s2]
 have s3:y0.cell? ⟨qb,1,none⟩=some (.int .i64 b1):=by subst hy0;exact q1
 have t3:∀x,Hs S x→x.cell? ⟨qb,1,none⟩=some (.int .i64 b1):=fun x h=>by subst hSe;rcases h with rfl | rfl | rfl<;>simp[go_sem,s3]
 have s4:y0.cell? ⟨qb,2,none⟩=some (.int .i64 b2):=by subst hy0;exact q2
 have t4:∀x,Hs S x→x.cell? ⟨qb,2,none⟩=some (.int .i64 b2):=fun x h=>by subst hSe;rcases h with rfl | rfl | rfl<;>simp[go_sem,s4]
 have s5:y0.cell? ⟨qb,3,none⟩=some (.int .i64 b3):=by subst hy0;exact q3
 have t5:∀x,Hs S x→x.cell? ⟨qb,3,none⟩=some (.int .i64 b3):=fun x h=>by subst hSe;rcases h with rfl | rfl | rfl<;>simp[go_sem,s5]
 have s6:y0.cell? ⟨qb,4,none⟩=some (.int .i64 b4):=by subst hy0;exact q4
 have t6:∀x,Hs S x→x.cell? ⟨qb,4,none⟩=some (.int .i64 b4):=fun x h=>by subst hSe;rcases h with rfl | rfl | rfl<;>simp[go_sem,s6]
 have m0':y0.cell? ⟨w.heap.size,0,none⟩=some (.int .i64 0):=by subst hy0;exact m0
 have m1':y0.cell? ⟨w.heap.size,1,none⟩=some (.int .i64 0):=by subst hy0;exact m1
 have mz':∀j,y0.frozen? ⟨w.heap.size,j,none⟩=false:=by subst hy0;exact mz
 have n0':y0.cell? ⟨w.heap.size+1,0,none⟩=some (.int .i64 0):=by subst hy0;exact n0
 have n1':y0.cell? ⟨w.heap.size+1,1,none⟩=some (.int .i64 0):=by subst hy0;exact n1
 have n2':y0.cell? ⟨w.heap.size+1,2,none⟩=some (.int .i64 0):=by subst hy0;exact n2
 have n3':y0.cell? ⟨w.heap.size+1,3,none⟩=some (.int .i64 0):=by subst hy0;exact n3
 have n4':y0.cell? ⟨w.heap.size+1,4,none⟩=some (.int .i64 0):=by subst hy0;exact n4
 have nz':∀j,y0.frozen? ⟨w.heap.size+1,j,none⟩=false:=by subst hy0;exact nz
 have hS0:Hs S y3.drew:=by rw[hy0,hSe];exact .inl rfl
 have hS1:Hs S ((y0.setCell ⟨w.heap.size,0,none⟩ (.int .i64 xt)).setCell ⟨w.heap.size,1,none⟩ (.int .i64 xr)):=by rw[hSe];exact .inr (.inl rfl)
 have hS2:Hs S (((((((y0.setCell ⟨w.heap.size,0,none⟩ (.int .i64 xt)).setCell ⟨w.heap.size,1,none⟩ (.int .i64 xr)).setCell ⟨w.heap.size+1,0,none⟩ (.int .i64 b0)).setCell ⟨w.heap.size+1,1,none⟩ (.int .i64 b1)).setCell ⟨w.heap.size+1,2,none⟩ (.int .i64 b2)).setCell ⟨w.heap.size+1,3,none⟩ (.int .i64 b3)).setCell ⟨w.heap.size+1,4,none⟩ (.int .i64 b4)):=by rw[hSe];exact .inr (.inr rfl)
 clear hSe p0 p1 q0 q1 q2 q3 q4 hzw hpy
 refine Zp (.take (.take (.take (.take (.off (.go1 (.off (.go1 (.take .fin))))))))) (Hs S) (by kernel_rfl) (by kernel_rfl) (by kernel_rfl) hS0 ?_
 rw[hy0]
 iterate 4 (refine HP.take' ?_;(first | (refine⟨undef,Or.inr ⟨by rfl,rfl⟩,?_⟩) | (apply Exists.intro;refine⟨Or.inl ⟨by rfl,?_⟩,?_⟩;(intro x hx';go_simp;first | done | with_reducible rfl)));(try simp only[Act.put,List.setIfInBounds_toArray,List.set_cons_zero,List.set_cons_succ]))
 refine HP.off ?_
 refine HP.go1 (fun KK hKK=>?_)
 go_simp
 refine hKK.out _ _ hS1 ?_
 intro _
 clear hKK KK
 (try simp only[Act.put,List.setIfInBounds_toArray,List.set_cons_zero,List.set_cons_succ])
 refine HP.off ?_
 refine HP.go1 (fun KK hKK=>?_)
 go_simp
 refine hKK.out _ _ hS2 ?_
 intro _
 clear hKK KK
 (try simp only[Act.put,List.setIfInBounds_toArray,List.set_cons_zero,List.set_cons_succ])
 iterate 1 (refine HP.take' ?_;(first | (refine⟨undef,Or.inr ⟨by rfl,rfl⟩,?_⟩) | (apply Exists.intro;refine⟨Or.inl ⟨by rfl,?_⟩,?_⟩;(intro x hx';go_simp;first | done | with_reducible rfl)));(try simp only[Act.put,List.setIfInBounds_toArray,List.set_cons_zero,List.set_cons_succ]))
 refine HP.end_ ?_
 refine NoPanic.normal ?_
 subst hy0
 clear hS0 hS1 hS2
 go_wp2
 have HR:=hD0 (show Nw w (((((((y3.drew.setCell ⟨w.heap.size,0,none⟩ (.int .i64 xt)).setCell ⟨w.heap.size,1,none⟩ (.int .i64 xr)).setCell ⟨w.heap.size+1,0,none⟩ (.int .i64 b0)).setCell ⟨w.heap.size+1,1,none⟩ (.int .i64 b1)).setCell ⟨w.heap.size+1,2,none⟩ (.int .i64 b2)).setCell ⟨w.heap.size+1,3,none⟩ (.int .i64 b3)).setCell ⟨w.heap.size+1,4,none⟩ (.int .i64 b4)) from
  (((((((HN3.out.dr.st (p:=⟨w.heap.size,0,none⟩) (Nat.le_refl _) _).st (p:=⟨w.heap.size,1,none⟩) (Nat.le_refl _) _).st (p:=⟨w.heap.size+1,0,none⟩) (Nat.le_succ _) _).st (p:=⟨w.heap.size+1,1,none⟩) (Nat.le_succ _) _).st (p:=⟨w.heap.size+1,2,none⟩) (Nat.le_succ _) _).st (p:=⟨w.heap.size+1,3,none⟩) (Nat.le_succ _) _).st (p:=⟨w.heap.size+1,4,none⟩) (Nat.le_succ _) _))
 exact bodyPost_ret (v:=.tuple #[.agg #[.int .i64 xt,.int .i64 xr],.agg #[.int .i64 b0,.int .i64 b1,.int .i64 b2,.int .i64 b3,.int .i64 b4],.bool yb]) (by simp[results,results71,go_sem, *]) rfl ⟨rfl,HR.out⟩
theorem Zz3{w:World}{o mb po n:Nat}{l:List Hp}{L:List Bool}{F:Nat→Prop}(h:Db w o mb po n l L F) :
  Calls prog 76 #[.pointer (some ⟨o,0,none⟩)] w fun e w'=>e=.returned (.int .i64 l.length)∧w=w':=by
 have HMd:=hD0 (U1 o w h.c0)
 have c3:=h.c3
 have hol:=h.ol
 have hle:=h.map.len 3
 clear h
 go_enter func76,ntmps76
 go_wp2_with (go_at_call 115;refine HMd.out.mono ?_;rintro e w' ⟨rfl,rfl⟩)
 go_ret
 exact⟨rfl,rfl⟩
section
structure KpI(S:Nat→Prop)(A B:World):Prop where
 size:A.heap.size≤B.heap.size
 same:∀k,S k→B.heap[k]?=A.heap[k]?
variable {F:Fence} {n:Nat} {P:Program}
end
section
attribute [local go_sem] Oper.semAt_some
structure LnI(w:World)(S:Nat→Prop)(pre:List Int)(A:World)(v:Value):Prop where
 nw:Nw w A
 is:IS A v pre
 own:∀k,v.ownBlock=some k→w.heap.size+6≤k∧¬S k
 out:A.cell? ⟨w.heap.size+3,0,none⟩=some v∧A.frozen? ⟨w.heap.size+3,0,none⟩=false
 r1:A.cell? ⟨w.heap.size,0,none⟩=some (.slice none 0 0)∧A.frozen? ⟨w.heap.size,0,none⟩=false
 r2:A.cell? ⟨w.heap.size+1,0,none⟩=some (.bool false)∧A.frozen? ⟨w.heap.size+1,0,none⟩=false
 sb:∀k,S k→w.heap.size+4≤k∧k<A.heap.size
end
structure Zzw(w W:World)(p:Nat)(L:List Bool)(F:Nat→Prop):Prop where
 po:Pol W p L F
 new:∀k,F k→w.heap.size≤k
 nw:Nw w W
structure BA(w W:World)(o mb po n k:Nat)(l:List Hp)(L:List Bool)(F:Nat→Prop):Prop where
 db:Db W o mb po n l L F
 inv:Zs n k (Zb l) [] L
 nw:Nw w W
 mn:w.heap.size≤mb
 new:∀k,F k→w.heap.size≤k
section
variable {w W:World} {o mb po n k:Nat} {l:List Hp} {L:List Bool} {F:Nat→Prop}
end
theorem Zv5(t:Int)(w:World):Calls prog 41 #[.int .i64 t] w fun e w'=>e=.returned (.agg #[.int .i64 t,.int .i64 (-1)])∧Nw w w':=by
 go_enter func41,ntmps41
 go_wp2
 exact bodyPost_ret (v:=.agg #[.int .i64 t,.int .i64 (-1)]) (by simp[results,results41,go_sem, *]) rfl ⟨rfl,(Nw.refl w).alloc _⟩
section
open Go.RowKit Go.Sort
theorem Zam{w w':World}{row:Option Nat}(g:w.grownBy w' row):Z4 (fun b=>row=some b) w w':=⟨g.os,g.tape,g.output,g.size,fun k hk hn=>g.block k hk (fun e=>hn e.symm)⟩
theorem Zoq{α:Type}{P:Program}{ST T:TypeId}{sz bytes:Nat}{row:α→List Value}(E:Z29 P ST T sz bytes row){w:World}{g0:Nat}{v v2:Value}{l sg:List α}(h:Yz T sz row w g0 v l)(h2:Rd sz row w v2 sg)(hsm:l.length+sg.length≤100000)(hg0:g0≤w.heap.size) :
  ∃v' w1,(Builtin.append_ #[ST,ST] ST #[v,v2]).run P w=.ok v' w1∧Yz T sz row w1 g0 v' (l++sg)∧w.grownBy w1 v.ownBlock∧(v'.ownBlock=v.ownBlock∨v'.ownBlock=some w.heap.size):=by
 obtain⟨a,c,rfl,⟨rfl,h0⟩ | ⟨b,o,rfl,hc⟩⟩:=h2
 ·cases a with
  | none =>
   obtain rfl:=h0 rfl
   obtain⟨i0,z,hi,hz0,hz1,hz2,hz3⟩:=E.inf
   exact⟨_,_,run_append_owned_none (P:=P) w g0 ST ST T i0 sz E.und hi _ _ _ h,by rw[List.append_nil];exact h,(Nw.refl w).grownBy _,.inl rfl⟩
  | some ad=>exact Yz.many E h [] ad c (fun j u hu=>by simp[Z6] at hu) hsm hg0
 ·exact Yz.many E h sg ⟨b,o,none⟩ c (hc.flat E.len E.pos) hsm hg0
theorem Zst{n m:Nat}{v:Value}(h:newV n v)(k:m≤n):newV m v:=fun a c d e=>Nat.le_trans k (h a c d e)
theorem Zao(w:World)(o:Nat):Yl w o (.slice none 0 0) []:=⟨[],World.ownsRow_nil _ _ _ _,rfl,fun x hx=>by cases hx⟩
theorem Yl.form{w:World}{o:Nat}{v:Value}{hs:List Hq}(h:Yl w o v hs):(v=.slice none 0 0∧hs=[])∨∃g cap,v=.slice (some ⟨g,0,none⟩) hs.length cap∧o<g∧g<w.heap.size:=by
 obtain⟨lm,h1,rfl,h3⟩:=h
 rcases Y7 h1 with⟨rfl,e⟩ | ⟨g,cap,rfl⟩
 ·exact .inl ⟨rfl,by rw[List.length_eq_zero_iff.1 e];rfl⟩
 ·exact .inr ⟨g,cap,by rw[List.length_map],Vr h1 rfl,olt h1 rfl⟩
theorem Yl.app{w:World}{o o2:Nat}{v v2:Value}{hs hs2:List Hq}(h:Yl w o v hs)(h2:Yl w o2 v2 hs2)(ho:o≤o2)(hv:∀b,v.ownBlock=some b→b≤o2)(hsm:hs.length+hs2.length≤100000) :
  ∃v' w1,(Builtin.append_ #[40,40] 40 #[v,v2]).run prog w=.ok v' w1∧Yl w1 o v' (hs++hs2)∧w.grownBy w1 v.ownBlock∧(v'.ownBlock=v.ownBlock∨v'.ownBlock=some w.heap.size):=by
 rcases h2.form with⟨rfl,rfl⟩ | ⟨g2,cap2,e2,hg2,hg2'⟩
 ·obtain⟨lm,h1,rfl,h3⟩:=h
  obtain⟨i0,z,hi,hz0,hz1,hz2,hz3⟩:=Y6.inf
  exact⟨_,_,run_append_owned_none (P:=prog) w (o+1) 40 40 63 i0 4 Y6.und hi _ _ _ h1,⟨lm,h1,by rw[List.append_nil],h3⟩,(Nw.refl w).grownBy _,.inl rfl⟩
 have hol:o<w.heap.size:=by omega
 clear e2
 obtain⟨lm,h1,rfl,h3⟩:=h
 obtain⟨lm2,k1,rfl,k3⟩:=h2
 obtain⟨v',w1,hr,hO,hg,hp⟩:=Zoq Y6 h1 (Yz.rd Y6.len k1) (by simpa using hsm) hol
 have t:=Zam hg
 refine⟨v',w1,hr,⟨lm++lm2,hO,by rw[List.map_append],fun x hx=>?_⟩,hg,hp⟩
 rcases List.mem_append.1 hx with q | q
 ·have k:=(h3 x q).tchS t (fun b e hq e2=>(h3 x q).off b e hq e2)
  refine⟨k.rd,k.cap,k.len,k.new,fun b e hq e2=>?_⟩
  rcases hp with hp | hp
  ·exact(h3 x q).off b e hq (hp▸e2)
  ·have h5:=Z2t (h3 x q).rd e hq
   rw[hp] at e2
   have:=Option.some.inj e2
   omega
 ·have hb:∀b,x.a=some b→o2+1≤b.block:=fun b e=>(k3 x q).new b x.h.q.length x.c (by unfold hmV;rw[e])
  have k:=(k3 x q).tchS t (fun b e hq e2=>by have:=hv _ e2;have:=hb b e;omega)
  refine⟨k.rd,k.cap,k.len,Zst k.new (by omega),fun b e hq e2=>?_⟩
  rcases hp with hp | hp
  ·rw[hp] at e2
   have:=hv _ e2
   have:=hb b e
   omega
  ·have h5:=Z2t (k3 x q).rd e hq
   rw[hp] at e2
   have:=Option.some.inj e2
   omega
theorem Yl.sort{w w':World}{o g cap:Nat}{lm l:List Hm}(h1:U7 w (o+1) (.slice (some ⟨g,0,none⟩) lm.length cap) lm)(h3:∀x∈lm,Vh w o (some g) x)(p:l.Perm lm)(h2:U7 w' (o+1) (.slice (some ⟨g,0,none⟩) l.length cap) l)(t:Z4 (fun b=>b=g) w w') :
  Yl w' o (.slice (some ⟨g,0,none⟩) l.length cap) (l.map Hm.h) :=
 ⟨l,h2,rfl,fun x hx=>(h3 x (p.mem_iff.1 hx)).tchS t (fun b e hq e2=>(h3 x (p.mem_iff.1 hx)).off b e hq (congrArg some e2.symm))⟩
end
end Go.Proofs.YtpffldfpabglbaaGreatDoor
namespace Go.Proofs
open _root_.Go.Proofs.Tryz
open Go.Shelf
def Tryz.sortH_ren:Go.Shelf.Ren:=⟨fun | 6=>58 | 15=>106 | 14=>105 | 28=>157 | 29=>158 | 20=>149 | 21=>150 | 22=>151 | 23=>152 | 24=>153 | 25=>154 | 26=>155 | 27=>156 | 46=>189 | 47=>190 | 48=>191 | 49=>192 | 50=>193 | 57=>221 | n=>n,fun | 22=>40 | 24=>63 | 25=>107 | 3=>3 | 39=>144 | 0=>0 | 53=>149 | 55=>187 | 4=>4 | 46=>180 | 45=>179 | 50=>53 | 5=>5 | 9=>9 | 66=>213 | 70=>217 | 76=>239 | 77=>55 | n=>n,fun | n=>n⟩
theorem Tryz.sortH:Go.Proofs.SlLaysF0.n6 prog Tryz.sortH_ren:={
 mixed:=by kernel_rfl
 f6:=⟨Tryz.f58.name,by decide,func58.trans (congrArg some (by kernel_rfl))⟩
 f14:=⟨Tryz.f105.name,by decide,func105.trans (congrArg some (by kernel_rfl))⟩
 f15:=func106.trans (congrArg some (by kernel_rfl))
 f20:=⟨Tryz.f149.name,by decide,func149.trans (congrArg some (by kernel_rfl))⟩
 f21:=⟨Tryz.f150.name,by decide,func150.trans (congrArg some (by kernel_rfl))⟩
 f22:=⟨Tryz.f151.name,by decide,func151.trans (congrArg some (by kernel_rfl))⟩
 f23:=⟨Tryz.f152.name,by decide,func152.trans (congrArg some (by kernel_rfl))⟩
 f24:=⟨Tryz.f153.name,by decide,func153.trans (congrArg some (by kernel_rfl))⟩
 f25:=⟨Tryz.f154.name,by decide,func154.trans (congrArg some (by kernel_rfl))⟩
 f26:=⟨Tryz.f155.name,by decide,func155.trans (congrArg some (by kernel_rfl))⟩
 f27:=⟨Tryz.f156.name,by decide,func156.trans (congrArg some (by kernel_rfl))⟩
 f28:=func157.trans (congrArg some (by kernel_rfl))
 f29:=func158.trans (congrArg some (by kernel_rfl))
 f46:=⟨Tryz.f189.name,by decide,func189.trans (congrArg some (by kernel_rfl))⟩
 f47:=func190.trans (congrArg some (by kernel_rfl))
 f48:=func191.trans (congrArg some (by kernel_rfl))
 f49:=⟨Tryz.f192.name,by decide,func192.trans (congrArg some (by kernel_rfl))⟩
 f50:=⟨Tryz.f193.name,by decide,func193.trans (congrArg some (by kernel_rfl))⟩
 f57:=⟨Tryz.f221.name,by decide,func221.trans (congrArg some (by kernel_rfl))⟩
 t0:=underlying0
 a0:=Tryz.isAgg0
 z0:=Tryz.sizeOf0
 v0:=Tryz.zeroValue0
 t3:=underlying3
 a3:=Tryz.isAgg3
 z3:=Tryz.sizeOf3
 v3:=Tryz.zeroValue3
 t4:=underlying4
 a4:=Tryz.isAgg4
 z4:=Tryz.sizeOf4
 v4:=Tryz.zeroValue4
 t5:=underlying5
 a5:=Tryz.isAgg5
 z5:=Tryz.sizeOf5
 v5:=Tryz.zeroValue5
 t9:=underlying9
 a9:=Tryz.isAgg9
 z9:=Tryz.sizeOf9
 v9:=Tryz.zeroValue9
 t22:=underlying40
 a22:=Tryz.isAgg40
 z22:=Tryz.sizeOf40
 v22:=Tryz.zeroValue40
 t25:=underlying107
 a25:=Tryz.isAgg107
 z25:=Tryz.sizeOf107
 v25:=Tryz.zeroValue107
 t39:=underlying144
 a39:=Tryz.isAgg144
 z39:=Tryz.sizeOf144
 v39:=Tryz.zeroValue144
 t45:=underlying179
 a45:=Tryz.isAgg179
 z45:=Tryz.sizeOf179
 v45:=Tryz.zeroValue179
 t46:=underlying180
 a46:=Tryz.isAgg180
 z46:=Tryz.sizeOf180
 v46:=Tryz.zeroValue180
 t50:=underlying53
 a50:=Tryz.isAgg53
 z50:=Tryz.sizeOf53
 v50:=Tryz.zeroValue53
 t53:=underlying149
 a53:=Tryz.isAgg149
 z53:=Tryz.sizeOf149
 v53:=Tryz.zeroValue149
 t55:=underlying187
 a55:=Tryz.isAgg187
 z55:=Tryz.sizeOf187
 v55:=Tryz.zeroValue187
 t66:=underlying213
 a66:=Tryz.isAgg213
 z66:=Tryz.sizeOf213
 v66:=Tryz.zeroValue213
 t70:=underlying217
 a70:=Tryz.isAgg217
 z70:=Tryz.sizeOf217
 v70:=Tryz.zeroValue217
 t76:=underlying239
 a76:=Tryz.isAgg239
 z76:=Tryz.sizeOf239
 v76:=Tryz.zeroValue239
 t77:=underlying55
 a77:=Tryz.isAgg55
 z77:=Tryz.sizeOf55
 v77:=Tryz.zeroValue55 }
end Go.Proofs
namespace Go.Proofs.YtpffldfpabglbaaGreatDoor
open Go.RowKit _root_.Go.Proofs.Tryz Go.Shelf
section
open Go.RowKit Go.Sort Go.Shelf
theorem Z4z(t r t' r':Int)(w:World) :
  Calls prog 60 #[.agg #[.int .i64 t,.int .i64 r],.agg #[.int .i64 t',.int .i64 r']] w fun e w'=>e=.returned (.int .i64 (orP (cP t t') (cP r r')))∧GG w w':=by
 go_enter func60,ntmps60
 go_wp2
 go_region_held3 (fun w'=>Zla w t r t' r' w') (first | assumption | exact Z8i w t r t' r' _ | exact Z0g (by assumption) (by assumption) | exact Z0g ((GG.refl _).alloc _) (by assumption) | exact Z0g (GG.refl _).drew (by assumption))
  (first | (go_at_call 108;refine(Z7a _ _ _).mono ?_;rintro e w' ⟨rfl,rfl⟩) | (go_at_call 107;refine(Zxb _ (cP t t') (cP r r') _ (by simp[go_sem]) (by simp[go_sem])).mono ?_;rintro e w' ⟨rfl,rfl⟩))
 all_goals
  rename_i hS
  go_wp2
  go_ret
  exact⟨rfl,hS.2.2⟩
theorem Ze4(x y:Hm)(w:World):Calls prog 59 #[.agg (Zm x).toArray,.agg (Zm y).toArray] w fun e w'=>e=.returned (.int .i64 (Zjf x y))∧GG w w':=by
 obtain⟨⟨xt,xr,xW,xq⟩,xa,xc⟩:=x
 obtain⟨⟨yt,yr,yW,yq⟩,ya,yc⟩:=y
 simp only[Zm,Zjf,Z14,Z9]
 obtain⟨xl,hxl⟩:∃n,xq.length=n:=⟨_,rfl⟩
 obtain⟨yl,hyl⟩:∃n,yq.length=n:=⟨_,rfl⟩
 rw[hxl,hyl]
 clear hxl hyl
 have HG:=hD0 (((GG.refl w).alloc (.cells #[.int .i64 xt,.int .i64 xr,.slice xa xl xc,.int .i64 xW] 63)).alloc (.cells #[.int .i64 yt,.int .i64 yr,.slice ya yl yc,.int .i64 yW] 63))
 go_enter func59,ntmps59
 go_wp2_with fail
 refine(Z4z xt xr yt yr _).mono ?_
 rintro e w1 ⟨rfl,g1⟩
 have HE:=hD0 (HG.out.trans g1)
 clear g1 HG
 go_wp2
 go_ret
 exact⟨rfl,HE.out⟩
theorem Zw4:∀args w,(callFunc 59 args).run prog w=.ok (.enter 59 args) w:=enters_of func59 (by kernel_rfl) rfl
theorem nxU(k:Nat):(k:Int)+1=((k+1:Nat):Int):=rfl
theorem Y0(a b:Nat)(h:b<a):a-(intOf (.int .i64 ((b:Int)+1))).toNat<a-(intOf (.int .i64 (b:Int))).toNat:=by
 show a-((b:Int)+1).toNat<a-(b:Int).toNat
 omega
theorem Z90{hss:List (List Hq)}{j:Nat}(hj:j<hss.length):(hss.take (j+1)).flatten=(hss.take j).flatten++hss[j]:=by
 rw[List.take_succ_eq_append_getElem hj,List.flatten_append]
 simp
theorem Ui{hss:List (List Hq)}(h:∀l∈hss,l.length≤64)(hn:hss.length≤16)(j:Nat):(hss.take j).flatten.length≤1024:=by
 have key:∀(l:List (List Hq)),(∀x∈l,x.length≤64)→l.flatten.length≤64*l.length:=by
  intro l
  induction l with
  | nil=>intro _;simp
  | cons a t ih =>
   intro h1
   have:=ih (fun x hx=>h1 x (List.mem_cons_of_mem _ hx))
   have:=h1 a (by simp)
   simp only[List.flatten_cons,List.length_append,List.length_cons]
   omega
 have h2:=key (hss.take j) (fun x hx=>h x (List.mem_of_mem_take hx))
 have h3:(hss.take j).length≤16:=by rw[List.length_take];omega
 omega
section
variable {W:World} {o S n N k:Nat} {C:Ud} {hss:List (List Hq)} {L:List Bool} {J:Nat→Prop}
theorem Zed(h:Tab W o S n N k C hss L J)(hS:S≤16)(hn:n≤64):Calls prog 57 #[.pointer (some ⟨o,0,none⟩)] W (Vn W hss.flatten):=by
 obtain⟨bb,cp,hb,po,ds,hv,F,hm,hp,rfl,rfl,ok⟩:=h
 have hSl:ds.length=S:=by rw[←Ys];exact ok.sl
 have h64:∀l∈Ze ds,l.length≤64:=fun l hl=>Nat.le_trans (ok.inv.part l hl).len hn
 have HK:=hD0 (aI0 h64 (show(Ze ds).length≤16 by rw[ok.sl];exact hS))
 have HMd:=hD0 (Z0f o W hm.c0)
 have HM:=hD0 hm
 have c6:=hm.c6
 have hnn:ds.length≤16:=by omega
 clear hm hp ok hSl h64
 obtain⟨nn,hnl⟩:∃nn,ds.length=nn:=⟨_,rfl⟩
 rw[hnl] at c6 hnn
 have HN:=hD0 hnl
 clear hnl
 go_enter func57,ntmps57
 go_wp2_with fail
 refine HMd.out.mono ?_
 rintro e w' ⟨rfl,rfl⟩
 go_wp2_with fail
 go_loopw [3,5,14] (fun vi bi i wr=>∃(j:Nat) (s0:Option Addr) (s1 s2:Nat),vi=.slice s0 s1 s2∧i=.int .i64 j∧j≤nn∧Hid (Yl wr W.heap.size (.slice s0 s1 s2) ((Ze ds).take j).flatten∧Nw W wr)) (fun _ _ i _=>nn-(intOf i).toNat)
 case atStart=>exact⟨0,none,0,0,rfl,rfl,Nat.zero_le _,Zao _ _,Nw.refl _⟩
 case round =>
  obtain⟨j,s0,s1,s2,rfl,rfl,hj,HI⟩:=hrel
  by_cases hjl:j<nn
  ·have hjd:j<ds.length:=by rw[HN.out];exact hjl
   have hjh:j<(Ze ds).length:=by rw[Ys];exact hjd
   have hmr:=HM.out.nw HI.out.2
   have cr:=hmr.row j hjd
   have HH:=hD0 (Zrv (hmr.db.db _ (gM0 hjd)))
   have hji:(j:Int)<(nn:Int):=by omega
   have hwj:wrap64 ((j:Int)+1)=(j:Int)+1:=by unfold wrap64;omega
   have hbl:=hmr.bl
   obtain⟨B,hB⟩:∃B,ds[j].o=B:=⟨_,rfl⟩
   rw[hB] at cr HH
   clear hmr
   go_wp2_with fail
   refine HH.out.mono ?_
   rintro e w2 ⟨v2,rfl,hh2,g2⟩
   have e2:=Z90 hjh
   rw[Zas hjd hjh] at e2
   have hl1:=Ui HK.out.1 HK.out.2 (j+1)
   rw[e2,List.length_append] at hl1
   obtain⟨v3,w3,hrun,hh3,hg3,hp3⟩:=Yl.app (HI.out.1.nw g2) hh2 HI.out.2.sz (fun b e=>by
    rcases HI.out.1.form with⟨q,_⟩ | ⟨g,cap,q,_,q2⟩
    ·rw[q] at e;cases e
    ·rw[q] at e;have e':g=b:=Option.some.inj e;omega) (by omega)
   rw[←e2] at hh3
   obtain⟨t0,t1,t2,hv3⟩:∃a b c,v3=.slice a b c:=by
    rcases hh3.form with⟨q,_⟩ | ⟨g,cap,q,_⟩
    ·exact⟨_,_,_,q⟩
    ·exact⟨_,_,_,q⟩
   subst hv3
   have HI3:=hD0 (show Yl w3 W.heap.size (.slice t0 t1 t2) ((Ze ds).take (j+1)).flatten∧Nw W w3 from⟨hh3,(HI.out.2.trans g2).gro hg3 (fun k e=>by
    rcases HI.out.1.form with⟨q,_⟩ | ⟨g,cap,q,q1,q2⟩
    ·rw[q] at e;cases e
    ·rw[q] at e;have e':g=k:=Option.some.inj e;omega)⟩)
   have HR:=hD0 hrun
   clear hh2 g2 e2 hl1 hrun hh3 hg3 hp3 HI HH cr hbl hB
   go_wp2_with (at_builtin;refine Z5 (by rfl) (.tmp 18) (.tmp 20) 40 rfl _ _ _ _ (by first | rfl | simp[Act.eval, *]) (by first | rfl | simp[Act.eval, *]) HR.out ?_)
   go_roundw
   case rel=>exact⟨j+1,_,_,_,rfl,congrArg (Value.int .i64) (by first | exact nxU j | exact hwj.trans (nxU j)),hjl,HI3⟩
   case measure=>first | exact Y0 nn j hjl | (rw[hwj];exact Y0 nn j hjl)
  ·obtain rfl:j=nn:=by omega
   have HE:Hid (Vn W (Ze ds).flatten (.returned (.slice s0 s1 s2)) wr):=by
    have e:=HI.out.1
    rw[←HN.out,←Ys,List.take_length] at e
    exact⟨_,rfl,e,HI.out.2⟩
   clear HI
   go_wp2
   go_ret
   exact HE.out
theorem Zgj(h:Tab W o S n N k C hss L J)(hS:S≤16)(hn:n≤64):Calls prog 13 #[.pointer (some ⟨o,0,none⟩)] W (Vn W (Ya hss)):=by
 have HH:=hD0 (Zed h hS hn)
 have hap:=h.ok.apart
 have hlen:hss.flatten.length≤1024:=by
  have:=Ui (fun l hl=>Nat.le_trans (h.ok.inv.part l hl).len hn) (by rw[h.ok.sl];exact hS) hss.length
  rwa [List.take_length] at this
 have HA:=hD0 (aI0 hap hlen)
 clear h hap hlen
 go_enter func13,ntmps13
 go_wp2_with fail
 refine HH.out.mono ?_
 rintro e w1 ⟨v,rfl,hh,g1⟩
 rcases hh.form with⟨rfl,hz⟩ | ⟨g,cap,hv,_⟩
 ·have HS:=hD0 (AnyF.slices_SortFunc_none (P:=prog) { Tryz.sortH with } none 0 (.func (.func 59) #[] #[]) w1)
  have HE:Hid (Vn W (Ya hss) (.returned (.slice none 0 0)) w1):=by
   refine⟨_,rfl,?_,g1⟩
   have:Ya hss=[]:=by unfold Ya;rw[hz];rfl
   rw[this]
   exact Zao _ _
  clear hh hz g1 HH
  go_wp2_with fail
  refine Calls.mono HS.out ?_
  rintro e w2 ⟨rfl,rfl⟩
  go_wp2
  go_ret
  exact HE.out
 ·obtain⟨lm,h1,h2,h3⟩:=hh
  subst hv
  have hll:lm.length=hss.flatten.length:=by rw[←h2,List.length_map]
  rw[←hll] at h1 ⊢
  have HS:=hD0 (Z9u Y6 (ρ:=_) { Tryz.sortH with } (by intro w;kernel_rfl) (by intro w;kernel_rfl) Zjf Zlz 59 Zw4 Ze4 _ g cap lm w1 h1 (by have:=HA.out.2;omega))
  have HX:=hD0 (aI0 h1 (aI0 h2 (aI0 h3 g1)))
  clear h1 h2 h3 g1 HH hll
  go_wp2_with fail
  refine Calls.mono HS.out ?_
  rintro e w2 ⟨rfl,l,hp,hs,hO,ht⟩
  have hl:l.length=lm.length:=hp.length_eq
  have HE:Hid (Vn W (Ya hss) (.returned (.slice (some ⟨g,0,none⟩) lm.length cap)) w2):=by
   refine⟨_,rfl,?_,Yq HX.out.2.2.2 ht (fun i e=>?_)⟩
   ·rw[←Ztk HA.out.1 HX.out.2.1 hp hs,←hl]
    exact Yl.sort HX.out.1 HX.out.2.2.1 hp hO ht
   ·have:=Vr HX.out.1 rfl
    omega
  clear hp hs hO ht hl HS
  go_wp2
  go_ret
  exact HE.out
end
end
end Go.Proofs.YtpffldfpabglbaaGreatDoor
