/- Texts merged: R1B, QuA, Lex, Ord, OrdP, QvA, QuB -/
import Derived.Test.YtobnolgphljoeaaWaitsHeadsB3
set_option linter.unusedVariables false
set_option maxRecDepth 100000
set_option maxHeartbeats 16000000
namespace Go.Proofs.Ytobnolgphljoeaa
open Go.RowKit _root_.Go.Proofs.Try
theorem Z66(a b:Int)(w:World):Calls prog 54 #[.int .i64 a,.int .i64 b] w fun e w'=>e=.returned (.bool (Ys a b))∧Nw w w':=by
 cases ha:Yk a with
 | true =>
  cases hb:Yk b with
  | true=>exact Z4l a b ha hb w
  | false =>
   have hc:Ys a b=false:=by simp[Ys,hb]
   rw[hc]
   have HA:=hD0 (Z3t a ha)
   have HB:=hD0 (Z3s b hb)
   clear ha hb hc
   go_enter func54,ntmps54
   go_wp2_with fail
   refine(HA.out _).mono ?_
   rintro e w' ⟨rfl,rfl⟩
   go_wp2_with fail
   refine(HB.out _).mono ?_
   rintro e w' ⟨rfl,rfl⟩
   go_wp2
   go_ret
   exact⟨rfl,Nw.refl _⟩
 | false =>
  have hc:Ys a b=false:=by simp[Ys,ha]
  rw[hc]
  have HA:=hD0 (Z3s a ha)
  clear ha hc
  go_enter func54,ntmps54
  go_wp2_with fail
  refine(HA.out _).mono ?_
  rintro e w' ⟨rfl,rfl⟩
  go_wp2
  go_ret
  exact⟨rfl,Nw.refl _⟩
theorem Z67(a b:Int)(ha:Yk a=true)(hb:Yk b=true)(w:World):Calls prog 70 #[.int .i64 a,.int .i64 b] w fun e w'=>e=.returned (.bool (cvI a b))∧Nw w w':=by
 have hr:=Z7v a ha
 rcases Yo ha with rfl | rfl | rfl | rfl | rfl | rfl | rfl<;>rcases Yo hb with rfl | rfl | rfl | rfl | rfl | rfl | rfl
 all_goals
  go_enter func70,ntmps70
  go_wp2_with (first | (go_at_call 69;refine(Z3t _ rfl _).mono ?_;rintro e w' ⟨rfl,rfl⟩) | (go_at_call 99;refine(hr _).mono ?_;rintro e w' ⟨rfl,hg⟩))
  go_ret
  exact⟨rfl,hg⟩
theorem Za0(a b:Int)(w:World):Calls prog 70 #[.int .i64 a,.int .i64 b] w fun e w'=>e=.returned (.bool (cvI a b))∧Nw w w':=by
 cases ha:Yk a with
 | true =>
  cases hb:Yk b with
  | true=>exact Z67 a b ha hb w
  | false =>
   have hc:cvI a b=false:=by simp[cvI,hb]
   rw[hc]
   have HA:=hD0 (Z3t a ha)
   have HB:=hD0 (Z3s b hb)
   clear ha hb hc
   go_enter func70,ntmps70
   go_wp2_with fail
   refine(HA.out _).mono ?_
   rintro e w' ⟨rfl,rfl⟩
   go_wp2_with fail
   refine(HB.out _).mono ?_
   rintro e w' ⟨rfl,rfl⟩
   go_wp2
   go_ret
   exact⟨rfl,Nw.refl _⟩
 | false =>
  have hc:cvI a b=false:=by simp[cvI,ha]
  rw[hc]
  have HA:=hD0 (Z3s a ha)
  clear ha hc
  go_enter func70,ntmps70
  go_wp2_with fail
  refine(HA.out _).mono ?_
  rintro e w' ⟨rfl,rfl⟩
  go_wp2
  go_ret
  exact⟨rfl,Nw.refl _⟩
def Zq(r:Rq):List Value:=[.int .i64 r.id,.int .i64 r.txn,.int .i64 r.md,.int .i64 r.wt,.int .i64 r.sn]
def Uk(r:Rq):Value:=.agg #[.int .i64 r.id,.int .i64 r.txn,.int .i64 r.md,.int .i64 r.wt,.int .i64 r.sn]
def Vi(t r:Int)(v:Value)(W:Int):Value:=.agg #[.int .i64 t,.int .i64 r,v,.int .i64 W]
theorem Z8t:Z0g prog 38 47 5 40 Zq where
 und:=underlying38
 inf:=by
  have h:(prog.info? 47).map (fun i=>(i.zero,i.size,i.bytes))=some (some (.agg #[.int .i64 0,.int .i64 0,.int .i64 0,.int .i64 0,.int .i64 0]),5,40):=by kernel_rfl
  cases e:prog.info? 47 with
  | none=>rw[e] at h;cases h
  | some i =>
   rw[e] at h
   simp only[Option.map_some,Option.some.injEq,Prod.mk.injEq] at h
   exact⟨i,_,rfl,h.1,h.2.1,h.2.2,rfl⟩
 pos:=by decide
 byt:=by decide
 len:=fun _=>rfl
 one:=fun a u hu=>by
  simp only[Zq,List.mem_cons,List.not_mem_nil,or_false] at hu
  rcases hu with rfl | rfl | rfl | rfl | rfl<;>rfl
abbrev RqC:=RdC 5 Zq
abbrev Yg:=Rd 5 Zq
abbrev Zi(w:World)(g0:Nat)(v:Value)(q:List Rq):Prop:=Yy 47 5 Zq w g0 v q
theorem Zi.rd{w:World}{g0:Nat}{v:Value}{q:List Rq}(h:Zi w g0 v q):Yg w v q:=Yy.rd (fun _=>rfl) h
structure Um(w:World)(p:Nat)(t r:Int)(v:Value)(W:Int):Prop where
 lt:p<w.heap.size
 c0:w.cell? ⟨p,0,none⟩=some (.int .i64 t)
 c1:w.cell? ⟨p,1,none⟩=some (.int .i64 r)
 c2:w.cell? ⟨p,2,none⟩=some v
 c3:w.cell? ⟨p,3,none⟩=some (.int .i64 W)
theorem Um.nw{w w':World}{p:Nat}{t r:Int}{v:Value}{W:Int}(h:Um w p t r v W)(g:Nw w w'):Um w' p t r v W :=
 ⟨lL0 h.lt g.sz,(g.cell h.lt).trans h.c0,(g.cell h.lt).trans h.c1,(g.cell h.lt).trans h.c2,(g.cell h.lt).trans h.c3⟩
theorem Um.made(w:World)(t r:Int)(v:Value)(W:Int)(T:TypeId):Um (w.alloc (.cells #[.int .i64 t,.int .i64 r,v,.int .i64 W] T)) w.heap.size t r v W:=by
 have h:=Z5 w (.cells #[.int .i64 t,.int .i64 r,v,.int .i64 W] T)
 exact⟨hlt h,Z2 h,Z2 h,Z2 h,Z2 h⟩
theorem Za(a b m wn s:Int)(w:World):Calls prog 53 #[.agg #[.int .i64 a,.int .i64 b,.int .i64 m,.int .i64 wn,.int .i64 s]] w fun e w'=>e=.returned (.bool (m != 0))∧Nw w w':=by
 go_enter func53,ntmps53
 go_wp2
 go_ret
 exact⟨rfl,(Nw.refl _).alloc _⟩
theorem Zc(a b m wn s:Int)(w:World):Calls prog 52 #[.agg #[.int .i64 a,.int .i64 b,.int .i64 m,.int .i64 wn,.int .i64 s]] w fun e w'=>e=.returned (.bool (decide (0<s)))∧Nw w w':=by
 go_enter func52,ntmps52
 go_wp2
 go_ret
 exact⟨rfl,(Nw.refl _).alloc _⟩
section
open Go
def Zr(ops:Array Oper)(o:Oper):Option Tmp × List Tmp × List Nat:=(o.dst,o.looksAt ops,(o.after.toList.filter (Region.binds .any)).map (·.on))
def Z0v(k:Nat)(x y:Option Tmp × List Tmp × List Nat):Bool :=
 y.2.2.contains k || ((match x.1 with
  | some d=>!y.2.1.contains d&&y.1 != some d
  | none=>true)&&(match y.1 with
  | some d=>!x.2.1.contains d
  | none=>true))
end
section
open Go
def Zt(k:Nat)(q:Option (Nat × Option Tmp × List Tmp × List Nat))(e:Nat):Bool :=
 decide (e<k)&&(match q with
  | some y=>!(e==y.1)
  | none=>true)
def Vs:List (Option Bool)→Nat→List (Option Tmp × List Tmp × List Nat)→Option (Nat × Option Tmp × List Tmp × List Nat)→Bool
 | [],_,l,q=>l.isEmpty&&q.isNone
 | some true::fs,k,l,q =>
  match l with
  | []=>false
  | x::r=>x.2.2.all (Zt k q)&&r.all (Z0v k x)&&(match q with
   | some y=>Z0v k x y.2
   | none=>true)&&Vs fs (k+1) r q
 | some false::fs,k,l,q =>
  match l,q with
  | x::r,none=>Vs fs (k+1) r (some (k,x))
  | _,_=>false
 | none::fs,k,l,q =>
  match q with
  | some y=>y.2.2.2.all (Zt k q)&&l.all (fun x=>x.2.2.any fun e=>!Zt k q e)&&Vs fs k l none
  | none=>false
def HW(P:Program)(ops:Array Oper)(Q:Exit→Act→World→Prop)(S:World→Prop):List (Option Bool)→List Oper→Option Oper→Act→World→Prop
 | [],_,_,a,w=>Q .normal a w
 | some true::fs,l,q,a,w =>
  match l with
  | []=>False
  | o::r=>∃v,YieldsIf P ops S o v a∧HW P ops Q S fs r q (a.put o.dst v) w
 | some false::fs,l,q,a,w =>
  match l,q with
  | o::r,none=>HW P ops Q S fs r (some o) a w
  | _,_=>False
 | none::fs,l,q,a,w =>
  match q with
  | some o=>∀K':Act→World→Prop,Shut (∀a w,S w→(S w→HW P ops Q S fs l none a w)→K' a w)→if Region.wanted o (yielded ops a.tmps)=true then Oper.wp P o a w K' Q else K' (a.put o.dst undef) w
  | none=>False
section
variable {P:Program} {ops:Array Oper} {Q:Exit→Act→World→Prop} {S:World→Prop}
theorem HW.end_{l:List Oper}{q:Option Oper}{a:Act}{w:World}(h:Q .normal a w):HW P ops Q S [] l q a w:=h
theorem HW.take'{fs:List (Option Bool)}{o:Oper}{r:List Oper}{q:Option Oper}{a:Act}{w:World}(h:∃v,YieldsIf P ops S o v a∧HW P ops Q S fs r q (a.put o.dst v) w):HW P ops Q S (some true::fs) (o::r) q a w:=h
theorem HW.off{fs:List (Option Bool)}{o:Oper}{r:List Oper}{a:Act}{w:World}(h:HW P ops Q S fs r (some o) a w):HW P ops Q S (some false::fs) (o::r) none a w:=h
theorem HW.go{fs:List (Option Bool)}{o:Oper}{l:List Oper}{a:Act}{w:World}
  (h:∀K':Act→World→Prop,Shut (∀a w,S w→(S w→HW P ops Q S fs l none a w)→K' a w)→if Region.wanted o (yielded ops a.tmps)=true then Oper.wp P o a w K' Q else K' (a.put o.dst undef) w):HW P ops Q S (none::fs) l (some o) a w:=h
theorem Vg{k:Nat}{o oj:Oper}(h:Z0v k (Zr ops o) (Zr ops oj)=true)(hno:∀e∈oj.after,Region.binds .any e=true→e.on≠k):o.apart ops oj=true:=by
 unfold Z0v at h
 rw[Bool.or_eq_true] at h
 rcases h with h | h
 ·obtain⟨e,he,heq⟩:=List.mem_map.1 (List.contains_iff_mem.1 h)
  obtain⟨he1,he2⟩:=List.mem_filter.1 he
  exact absurd heq (hno e (Array.mem_toList_iff.1 he1) he2)
 ·exact h
theorem HW.run(hs:Region.noSelect ops=true)(hQ:∀c a d v w,Q (.panic c) (Act.put a d v) w→Q (.panic c) a w):∀(fs:List (Option Bool)) (k:Nat) (l:List Oper) (qi:Option (Nat × Oper)) (listed:Array Bool) (a:Act) (w:World),
  (∀j,l[j]?=ops[k+j]?)→k+l.length=ops.size→(∀p,qi=some p→ops[p.1]?=some p.2∧p.1<k)→listed.size=ops.size →
  (∀j,j<ops.size→(listed.getD j false=true↔Zt k (qi.map fun p=>(p.1,Zr ops p.2)) j=true)) →
  Vs fs k (l.map (Zr ops)) (qi.map fun p=>(p.1,Zr ops p.2))=true→S w→HW P ops Q S fs l (qi.map (·.2)) a w →
  wpAnyH P .any ops Q S (l.length+(qi.map fun _=>1).getD 0) listed a w
 | [],k,l,qi,listed,a,w,hl,hn,hq,hsz,hD,hB,hS,h=>by
  unfold Vs at hB
  rw[Bool.and_eq_true] at hB
  obtain rfl:l=[]:=by cases l with
   | nil=>rfl
   | cons o r=>simp at hB
  obtain rfl:qi=none:=by cases qi with
   | none=>rfl
   | some p=>simp at hB
  refine wpAnyH_done ?_ h _
  rw[List.eq_nil_iff_forall_not_mem]
  intro j hj
  obtain⟨h1,o,ho,_⟩:=mem_ready.1 hj
  have hlt:j<ops.size:=(Array.getElem?_eq_some_iff.1 ho).1
  have h2:=(hD j hlt).2 (by unfold Zt;simp at hn ⊢;omega)
  simp[hsz,hlt] at h1 h2
  rw[h1] at h2
  cases h2
 | some true::fs,k,[],qi,listed,a,w,hl,hn,hq,hsz,hD,hB,hS,h=>by unfold Vs at hB;simp at hB
 | some true::fs,k,o::r,qi,listed,a,w,hl,hn,hq,hsz,hD,hB,hS,h=>by
  have h0:ops[k]?=some o:=by simpa using(hl 0).symm
  have hk:k<ops.size:=(Array.getElem?_eq_some_iff.1 h0).1
  simp only[List.map_cons,Vs,Bool.and_eq_true,List.all_eq_true] at hB
  obtain⟨⟨⟨hd,hp⟩,hpq⟩,hB'⟩:=hB
  obtain⟨v,hy,hK⟩:=h
  have hnk:∀p,qi=some p→p.1≠k:=fun p hp=>Nat.ne_of_lt (hq p hp).2
  have hun:listed.getD k true=false:=by
   have h1:¬listed.getD k false=true:=fun e=>by
    have:=(hD k hk).1 e
    unfold Zt at this
    simp at this
   simp[hsz,hk] at h1 ⊢
   exact h1
  have hr:k∈Region.ready .any ops listed:=by
   refine mem_ready.2 ⟨hun,o,h0,fun e he hb=>?_⟩
   have hdn:=hd e.on (List.mem_map.2 ⟨e,List.mem_filter.2 ⟨Array.mem_toList_iff.2 he,hb⟩,rfl⟩)
   have hek:e.on<k:=by unfold Zt at hdn;simp at hdn;exact hdn.1
   exact(hD e.on (by omega)).2 hdn
  have hfree:∀j oj,ops[j]?=some oj→j≠k→listed.getD j true=false→(∀e∈oj.after,Region.binds .any e=true→e.on≠k)→o.apart ops oj=true:=by
   intro j oj hoj hne hju hno
   have hj:j<ops.size:=(Array.getElem?_eq_some_iff.1 hoj).1
   have hnd:¬Zt k (qi.map fun p=>(p.1,Zr ops p.2)) j=true:=fun e=>by
    have:=(hD j hj).2 e
    simp[hsz,hj] at this hju
    rw[this] at hju
    cases hju
   rcases Nat.lt_or_ge j k with g | g
   ·cases hqi:qi with
    | none=>rw[hqi] at hnd;exact absurd (by unfold Zt;simp[g]) hnd
    | some p =>
     rw[hqi] at hnd hpq
     have hjp:j=p.1:=by
      rcases Nat.decEq j p.1 with h | h
      ·exact absurd (by unfold Zt;simp[g,h]) hnd
      ·exact h
     have hpo:=(hq p hqi).1
     rw[←hjp,hoj] at hpo
     obtain rfl:=Option.some.inj hpo
     exact Vg hpq hno
   ·have hlj:=hl (j-k)
    rw[show k+(j-k)=j by omega,hoj,show j-k=(j-k-1)+1 by omega,List.getElem?_cons_succ] at hlj
    exact Vg (hp _ (List.mem_map.2 ⟨oj,List.mem_of_getElem? hlj,rfl⟩)) hno
  have ih:=HW.run hs hQ fs (k+1) r qi (listed.setIfInBounds k true) (a.put o.dst v) w (fun j=>by
    have:=hl (j+1)
    simpa [Nat.add_assoc,Nat.add_comm 1 j] using this) (by simp at hn;omega) (fun p hp=>⟨(hq p hp).1,Nat.lt_succ_of_lt (hq p hp).2⟩) (by simpa using hsz) (fun j hj=>by
    by_cases hjk:k=j
    ·subst hjk
     have h1:(listed.setIfInBounds k true).getD k false=true:=by simp[hsz,hk]
     refine⟨fun _=>?_,fun _=>h1⟩
     unfold Zt
     cases hqi:qi with
     | none=>simp
     | some p=>have:=hnk p hqi;simp;exact fun e=>this e.symm
    ·rw[getD_set_ne false hjk,hD j hj]
     unfold Zt
     have:decide (j<k+1)=decide (j<k):=decide_eq_decide.2 (by omega)
     rw[this]) hB' hS hK
  rw[show(o::r).length+(qi.map fun _=>1).getD 0=(r.length+(qi.map fun _=>1).getD 0)+1 by simp;omega]
  exact wpAnyH_first h0 (Region.noSelect_spec hs) (fun c a w=>hQ c a _ _ w) _ listed a w hfree hr hy hS ih
 | some false::fs,k,[],qi,listed,a,w,hl,hn,hq,hsz,hD,hB,hS,h=>by unfold Vs at hB;simp at hB
 | some false::fs,k,o::r,some p,listed,a,w,hl,hn,hq,hsz,hD,hB,hS,h=>by unfold Vs at hB;simp at hB
 | some false::fs,k,o::r,none,listed,a,w,hl,hn,hq,hsz,hD,hB,hS,h=>by
  have h0:ops[k]?=some o:=by simpa using(hl 0).symm
  have ih:=HW.run hs hQ fs (k+1) r (some (k,o)) listed a w (fun j=>by
    have:=hl (j+1)
    simpa [Nat.add_assoc,Nat.add_comm 1 j] using this) (by simp at hn;omega) (fun p hp=>by obtain rfl:=Option.some.inj hp;exact⟨h0,Nat.lt_succ_self _⟩) hsz (fun j hj=>by
    rw[hD j hj]
    unfold Zt
    simp
    omega) (by unfold Vs at hB;exact hB) hS h
  exact ih
 | none::fs,k,l,none,listed,a,w,hl,hn,hq,hsz,hD,hB,hS,h=>by unfold Vs at hB;simp at hB
 | none::fs,k,l,some p,listed,a,w,hl,hn,hq,hsz,hD,hB,hS,h=>by
  obtain⟨i,o⟩:=p
  obtain⟨h0,hik⟩:=hq (i,o) rfl
  have hi:i<ops.size:=(Array.getElem?_eq_some_iff.1 h0).1
  simp only[Option.map_some,Vs,Bool.and_eq_true,List.all_eq_true,List.any_eq_true] at hB
  obtain⟨⟨hd,hw⟩,hB'⟩:=hB
  have hDu:∀j,j<ops.size→¬Zt k (some (i,Zr ops o)) j=true→listed.getD j true=false:=fun j hj hnd=>by
   have h1:¬listed.getD j false=true:=fun e=>hnd ((hD j hj).1 e)
   simp[hsz,hj] at h1 ⊢
   exact h1
  have hr:i∈Region.ready .any ops listed:=by
   refine mem_ready.2 ⟨hDu i hi (by unfold Zt;simp),o,h0,fun e he hb=>?_⟩
   have hdn:=hd e.on (List.mem_map.2 ⟨e,List.mem_filter.2 ⟨Array.mem_toList_iff.2 he,hb⟩,rfl⟩)
   have hek:e.on<k:=by unfold Zt at hdn;simp at hdn;exact hdn.1
   exact(hD e.on (by omega)).2 hdn
  refine⟨fun hz=>(by rw[hz] at hr;cases hr),fun j hj=>?_⟩
  have hji:j=i:=by
   obtain⟨h1,oj,hoj,hall⟩:=mem_ready.1 hj
   have hjs:j<ops.size:=(Array.getElem?_eq_some_iff.1 hoj).1
   rcases Nat.decEq j i with hne | he
   case isTrue=>exact he
   exfalso
   have hnd:¬Zt k (some (i,Zr ops o)) j=true:=fun e=>by
    have:=(hD j hjs).2 e
    simp[hsz,hjs] at this h1
    rw[this] at h1
    cases h1
   have hjk:k≤j:=by
    rcases Nat.lt_or_ge j k with g | g
    ·exact absurd (by unfold Zt;simp[g,hne]) hnd
    ·exact g
   have hlj:=hl (j-k)
   rw[show k+(j-k)=j by omega,hoj] at hlj
   obtain⟨e,he,hen⟩:=hw _ (List.mem_map.2 ⟨oj,List.mem_of_getElem? hlj,rfl⟩)
   obtain⟨ea,hea,rfl⟩:=List.mem_map.1 he
   obtain⟨he1,he2⟩:=List.mem_filter.1 hea
   have hls:=hall ea (Array.mem_toList_iff.1 he1) he2
   have hlt:ea.on<ops.size:=by
    rcases Nat.lt_or_ge ea.on ops.size with g | g
    ·exact g
    ·rw[←hsz] at g;simp[Array.getElem?_eq_none g] at hls
   have h3:=(hD ea.on hlt).1 hls
   simp only[Option.map_some] at h3
   rw[h3] at hen
   cases hen
  subst hji
  refine wpOp_step h0 (fun K' hK=>h K' (fun a' w' hS' hW=>hK a' w' ⟨hS',?_⟩))
  exact HW.run hs hQ fs k l none (listed.setIfInBounds j true) a' w' hl hn (fun p hp=>by cases hp) (by simpa using hsz) (fun m hm=>by
   by_cases hmj:j=m
   ·subst hmj
    have h1:(listed.setIfInBounds j true).getD j false=true:=by simp[hsz,hi]
    exact⟨fun _=>by unfold Zt;simp[hik],fun _=>h1⟩
   ·rw[getD_set_ne false hmj,hD m hm]
    unfold Zt
    have:¬m=j:=fun e=>hmj e.symm
    simp[this]) hB' hS' (hW hS')
theorem U4{id:Nat}{a:Act}{w:World}{l:List Oper}(fs:List (Option Bool))(S:World→Prop)(hm:P.follows .mixedOrders=true)(hs:Region.noSelect l.toArray=true)
  (hB:Vs fs 0 (l.map (Zr l.toArray)) none=true) (hS:S w.drew) (h:HW P l.toArray (NoPanic Q) S fs l none a w.drew):(Code.region id l.toArray true).wp P Q a w:=by
 refine wp_region_noPanic (wp_region_held (S:=S) hm ?_)
 have:=HW.run hs (fun c a d v w h=>h) fs 0 l none (Array.replicate l.toArray.size false) a w.drew (by simp) (by simp) (fun p hp=>by cases hp) (by simp) (fun j hj=>by unfold Zt;simp at hj ⊢;simp[hj]) hB hS h
 simpa using this
end
end
section
open Go
inductive Pl where
 | fin
 | take (p:Pl)
 | off (p:Pl)
 | go1 (p:Pl)
 | go2 (p q:Pl)
abbrev Inf:=Option Tmp × List Tmp × List Nat
def Y8(k:Nat)(qs:List (Nat × Inf))(e:Nat):Bool:=decide (e<k)&&qs.all fun y=>!(e==y.1)
def Yp:Pl→Nat→List Inf→List (Nat × Inf)→Bool
 | .fin,_,l,qs=>l.isEmpty&&qs.isEmpty
 | .take p,k,l,qs =>
  match l with
  | []=>false
  | x::r=>x.2.2.all (Y8 k qs)&&r.all (Z0v k x)&&qs.all (fun y=>Z0v k x y.2)&&Yp p (k+1) r qs
 | .off p,k,l,qs =>
  match l with
  | []=>false
  | x::r=>Yp p (k+1) r (qs++[(k,x)])
 | .go1 p,k,l,qs =>
  match qs with
  | [y]=>y.2.2.2.all (Y8 k qs)&&l.all (fun x=>x.2.2.any fun e=>!Y8 k qs e)&&Yp p k l []
  | _=>false
 | .go2 p q,k,l,qs =>
  match qs with
  | [y,z]=>y.2.2.2.all (Y8 k qs)&&z.2.2.2.all (Y8 k qs)&&!(y.1==z.1)&&l.all (fun x=>x.2.2.any fun e=>!Y8 k qs e)&&Yp p k l [z]&&Yp q k l [y]
  | _=>false
def HP(P:Program)(ops:Array Oper)(Q:Exit→Act→World→Prop)(S:World→Prop):Pl→List Oper→List Oper→Act→World→Prop
 | .fin,_,_,a,w=>Q .normal a w
 | .take p,l,qs,a,w =>
  match l with
  | []=>False
  | o::r=>∃v,YieldsIf P ops S o v a∧HP P ops Q S p r qs (a.put o.dst v) w
 | .off p,l,qs,a,w =>
  match l with
  | []=>False
  | o::r=>HP P ops Q S p r (qs++[o]) a w
 | .go1 p,l,qs,a,w =>
  match qs with
  | [o]=>∀K':Act→World→Prop,Shut (∀a w,S w→(S w→HP P ops Q S p l [] a w)→K' a w)→if Region.wanted o (yielded ops a.tmps)=true then Oper.wp P o a w K' Q else K' (a.put o.dst undef) w
  | _=>False
 | .go2 p q,l,qs,a,w =>
  match qs with
  | [o,o']=>(∀K':Act→World→Prop,Shut (∀a w,S w→(S w→HP P ops Q S p l [o'] a w)→K' a w)→if Region.wanted o (yielded ops a.tmps)=true then Oper.wp P o a w K' Q else K' (a.put o.dst undef) w) ∧
    ∀K':Act→World→Prop,Shut (∀a w,S w→(S w→HP P ops Q S q l [o] a w)→K' a w)→if Region.wanted o' (yielded ops a.tmps)=true then Oper.wp P o' a w K' Q else K' (a.put o'.dst undef) w
  | _=>False
section
variable {P:Program} {ops:Array Oper} {Q:Exit→Act→World→Prop} {S:World→Prop}
theorem HP.end_{l qs:List Oper}{a:Act}{w:World}(h:Q .normal a w):HP P ops Q S .fin l qs a w:=h
theorem HP.take'{p:Pl}{o:Oper}{r qs:List Oper}{a:Act}{w:World}(h:∃v,YieldsIf P ops S o v a∧HP P ops Q S p r qs (a.put o.dst v) w):HP P ops Q S (.take p) (o::r) qs a w:=h
theorem HP.off{p:Pl}{o:Oper}{r qs:List Oper}{a:Act}{w:World}(h:HP P ops Q S p r (qs++[o]) a w):HP P ops Q S (.off p) (o::r) qs a w:=h
theorem HP.go1{p:Pl}{o:Oper}{l:List Oper}{a:Act}{w:World}
  (h:∀K':Act→World→Prop,Shut (∀a w,S w→(S w→HP P ops Q S p l [] a w)→K' a w)→if Region.wanted o (yielded ops a.tmps)=true then Oper.wp P o a w K' Q else K' (a.put o.dst undef) w):HP P ops Q S (.go1 p) l [o] a w:=h
def Yh(ops:Array Oper)(qs:List (Nat × Oper)):List (Nat × Inf):=qs.map fun p=>(p.1,Zr ops p.2)
theorem Z9{k:Nat}{qs:List (Nat × Oper)}{e:Nat}:Y8 k (Yh ops qs) e=true↔e<k∧∀p∈qs,e≠p.1:=by
 unfold Y8 Yh
 simp
structure HI(ops:Array Oper)(k:Nat)(l:List Oper)(qs:List (Nat × Oper))(listed:Array Bool):Prop where
 rest:∀j,l[j]?=ops[k+j]?
 len:k+l.length=ops.size
 put:∀p∈qs,ops[p.1]?=some p.2∧p.1<k
 size:listed.size=ops.size
 come:∀j,j<ops.size→(listed.getD j false=true↔Y8 k (Yh ops qs) j=true)
theorem HI.un{k:Nat}{l:List Oper}{qs:List (Nat × Oper)}{listed:Array Bool}(h:HI ops k l qs listed){j:Nat}(hj:j<ops.size)(hd:¬Y8 k (Yh ops qs) j=true):listed.getD j true=false:=by
 have h1:¬listed.getD j false=true:=fun e=>hd ((h.come j hj).1 e)
 have:=h.size
 simp[this,hj] at h1 ⊢
 exact h1
theorem HI.deps{k:Nat}{l:List Oper}{qs:List (Nat × Oper)}{listed:Array Bool}(h:HI ops k l qs listed)(hk:k≤ops.size){o:Oper}(hd:(Zr ops o).2.2.all (Y8 k (Yh ops qs))=true):∀e∈o.after,Region.binds .any e=true→listed.getD e.on false=true:=by
 intro e he hb
 have hdn:=List.all_eq_true.1 hd e.on (List.mem_map.2 ⟨e,List.mem_filter.2 ⟨Array.mem_toList_iff.2 he,hb⟩,rfl⟩)
 have hek:=(Z9.1 hdn).1
 exact(h.come e.on (by omega)).2 hdn
theorem HI.waits{k:Nat}{l:List Oper}{qs:List (Nat × Oper)}{listed:Array Bool}(h:HI ops k l qs listed)(hw:(l.map (Zr ops)).all (fun x=>x.2.2.any fun e=>!Y8 k (Yh ops qs) e)=true) :
  ∀j∈Region.ready .any ops listed,∃p∈qs,j=p.1:=by
 intro j hj
 obtain⟨h1,oj,hoj,hall⟩:=mem_ready.1 hj
 have hjs:j<ops.size:=(Array.getElem?_eq_some_iff.1 hoj).1
 have hnd:¬Y8 k (Yh ops qs) j=true:=fun e=>by
  have:=(h.come j hjs).2 e
  have hsz:=h.size
  simp[hsz,hjs] at this h1
  rw[h1] at this
  cases this
 rcases Nat.lt_or_ge j k with g | g
 ·refine Classical.byContradiction fun hne=>hnd (Z9.2 ⟨g,fun p hp e=>hne ⟨p,hp,e⟩⟩)
 ·exfalso
  have hlj:=h.rest (j-k)
  rw[show k+(j-k)=j by omega,hoj] at hlj
  have hx:=List.all_eq_true.1 hw _ (List.mem_map.2 ⟨oj,List.mem_of_getElem? hlj,rfl⟩)
  obtain⟨e,he,hen⟩:=List.any_eq_true.1 hx
  obtain⟨ea,hea,rfl⟩:=List.mem_map.1 he
  obtain⟨he1,he2⟩:=List.mem_filter.1 hea
  have hls:=hall ea (Array.mem_toList_iff.1 he1) he2
  have hlt:ea.on<ops.size:=by
   rcases Nat.lt_or_ge ea.on ops.size with g | g
   ·exact g
   ·have hsz:=h.size
    rw[←hsz] at g;simp[Array.getElem?_eq_none g] at hls
  have h3:=(h.come ea.on hlt).1 hls
  rw[h3] at hen
  cases hen
theorem HI.set{k k':Nat}{l l':List Oper}{qs qs':List (Nat × Oper)}{listed:Array Bool}(h:HI ops k l qs listed){i:Nat}(hi:i<ops.size)(hr:∀j,l'[j]?=ops[k'+j]?)(hlen:k'+l'.length=ops.size)(hput:∀p∈qs',ops[p.1]?=some p.2∧p.1<k')
  (hd:∀j,Y8 k' (Yh ops qs') j=true↔(j=i∨Y8 k (Yh ops qs) j=true)):HI ops k' l' qs' (listed.setIfInBounds i true):=by
 refine⟨hr,hlen,hput,by simpa using h.size,fun j hj=>?_⟩
 rw[hd]
 by_cases q:i=j
 ·subst q
  have h1:(listed.setIfInBounds i true).getD i false=true:=by simp[h.size,hi]
  exact⟨fun _=>.inl rfl,fun _=>h1⟩
 ·rw[getD_set_ne false q,h.come j hj]
  exact⟨fun x=>.inr x,fun x=>x.resolve_left fun e=>q e.symm⟩
theorem HP.run(hs:Region.noSelect ops=true)(hQ:∀c a d v w,Q (.panic c) (Act.put a d v) w→Q (.panic c) a w):∀(p:Pl) (k:Nat) (l:List Oper) (qs:List (Nat × Oper)) (listed:Array Bool) (a:Act) (w:World),
  HI ops k l qs listed→Yp p k (l.map (Zr ops)) (Yh ops qs)=true→S w→HP P ops Q S p l (qs.map (·.2)) a w→wpAnyH P .any ops Q S (l.length+qs.length) listed a w
 | .fin,k,l,qs,listed,a,w,hI,hB,hS,h=>by
  simp only[Yp,Bool.and_eq_true,List.isEmpty_iff,List.map_eq_nil_iff,Yh] at hB
  obtain⟨rfl,rfl⟩:=hB
  refine wpAnyH_done ?_ h _
  rw[List.eq_nil_iff_forall_not_mem]
  intro j hj
  obtain⟨q,hq,_⟩:=hI.waits (by simp) j hj
  simp at hq
 | .take p,k,[],qs,listed,a,w,hI,hB,hS,h=>by simp[Yp] at hB
 | .take p,k,o::r,qs,listed,a,w,hI,hB,hS,h=>by
  have h0:ops[k]?=some o:=by simpa using(hI.rest 0).symm
  have hk:k<ops.size:=(Array.getElem?_eq_some_iff.1 h0).1
  simp only[List.map_cons,Yp,Bool.and_eq_true] at hB
  obtain⟨⟨⟨hd,hp⟩,hpq⟩,hB'⟩:=hB
  obtain⟨v,hy,hK⟩:=h
  have hnk:∀q∈qs,q.1≠k:=fun q hq=>Nat.ne_of_lt (hI.put q hq).2
  have hkd:¬Y8 k (Yh ops qs) k=true:=fun e=>by have:=(Z9.1 e).1;omega
  have hun:=hI.un hk hkd
  have hr:k∈Region.ready .any ops listed:=mem_ready.2 ⟨hun,o,h0,hI.deps (by omega) hd⟩
  have hfree:∀j oj,ops[j]?=some oj→j≠k→listed.getD j true=false→(∀e∈oj.after,Region.binds .any e=true→e.on≠k)→o.apart ops oj=true:=by
   intro j oj hoj hne hju hno
   have hj:j<ops.size:=(Array.getElem?_eq_some_iff.1 hoj).1
   have hsz:=hI.size
   have hnd:¬Y8 k (Yh ops qs) j=true:=fun e=>by
    have:=(hI.come j hj).2 e
    simp[hsz,hj] at this hju
    rw[this] at hju
    cases hju
   rcases Nat.lt_or_ge j k with g | g
   ·obtain⟨q,hq,e⟩:∃q∈qs,j=q.1:=Classical.byContradiction fun hx=>hnd (Z9.2 ⟨g,fun q hq e=>hx ⟨q,hq,e⟩⟩)
    have hqo:=(hI.put q hq).1
    rw[←e,hoj] at hqo
    have e2:=Option.some.inj hqo
    have:=List.all_eq_true.1 hpq (q.1,Zr ops q.2) (List.mem_map.2 ⟨q,hq,rfl⟩)
    rw[←e2] at this
    exact Vg this hno
   ·have hlj:=hI.rest (j-k)
    rw[show k+(j-k)=j by omega,hoj,show j-k=(j-k-1)+1 by omega,List.getElem?_cons_succ] at hlj
    exact Vg (List.all_eq_true.1 hp _ (List.mem_map.2 ⟨oj,List.mem_of_getElem? hlj,rfl⟩)) hno
  have hlen:=hI.len
  have hI':HI ops (k+1) r qs (listed.setIfInBounds k true):=hI.set hk (fun j=>by
    have:=hI.rest (j+1)
    simpa [Nat.add_assoc,Nat.add_comm 1 j] using this) (by simp at hlen;omega) (fun q hq=>⟨(hI.put q hq).1,Nat.lt_succ_of_lt (hI.put q hq).2⟩) (fun j=>by
    rw[Z9,Z9]
    constructor
    ·rintro⟨h1,h2⟩
     by_cases q:j=k
     ·exact .inl q
     ·exact .inr ⟨by omega,h2⟩
    ·rintro(rfl | ⟨h1,h2⟩)
     ·exact⟨by omega,fun q hq e=>hnk q hq e.symm⟩
     ·exact⟨by omega,h2⟩)
  have ih:=HP.run hs hQ p (k+1) r qs (listed.setIfInBounds k true) (a.put o.dst v) w hI' hB' hS hK
  rw[show(o::r).length+qs.length=(r.length+qs.length)+1 by simp;omega]
  exact wpAnyH_first h0 (Region.noSelect_spec hs) (fun c a w=>hQ c a _ _ w) _ listed a w hfree hr hy hS ih
 | .off p,k,[],qs,listed,a,w,hI,hB,hS,h=>by simp[Yp] at hB
 | .off p,k,o::r,qs,listed,a,w,hI,hB,hS,h=>by
  have h0:ops[k]?=some o:=by simpa using(hI.rest 0).symm
  have hlen:=hI.len
  have hI':HI ops (k+1) r (qs++[(k,o)]) listed:=⟨fun j=>by
    have:=hI.rest (j+1)
    simpa [Nat.add_assoc,Nat.add_comm 1 j] using this,by simp at hlen;omega,fun q hq=>by
    rcases List.mem_append.1 hq with hq | hq
    ·exact⟨(hI.put q hq).1,Nat.lt_succ_of_lt (hI.put q hq).2⟩
    ·simp at hq;subst hq;exact⟨h0,Nat.lt_succ_self _⟩,hI.size,fun j hj=>by
    rw[hI.come j hj,Z9,Z9]
    constructor
    ·rintro⟨h1,h2⟩
     refine⟨by omega,fun q hq=>?_⟩
     rcases List.mem_append.1 hq with hq | hq
     ·exact h2 q hq
     ·simp at hq;subst hq;show j≠k;omega
    ·rintro⟨h1,h2⟩
     have h3:=h2 (k,o) (by simp)
     exact⟨by simp only at h3;omega,fun q hq=>h2 q (List.mem_append_left _ hq)⟩⟩
  have hB':Yp p (k+1) (r.map (Zr ops)) (Yh ops (qs++[(k,o)]))=true:=by
   simp only[List.map_cons,Yp] at hB
   simpa [Yh] using hB
  have ih:=HP.run hs hQ p (k+1) r (qs++[(k,o)]) listed a w hI' hB' hS (by simpa [HP] using h)
  rw[show(o::r).length+qs.length=r.length+(qs++[(k,o)]).length by simp;omega]
  exact ih
 | .go1 p,k,l,[],listed,a,w,hI,hB,hS,h=>by simp[Yp,Yh] at hB
 | .go1 p,k,l,[(i,o)],listed,a,w,hI,hB,hS,h=>by
  obtain⟨h0,hik⟩:=hI.put (i,o) (by simp)
  simp only at h0 hik
  have hi:i<ops.size:=(Array.getElem?_eq_some_iff.1 h0).1
  simp only[Yp,Yh,List.map_cons,List.map_nil,Bool.and_eq_true] at hB
  obtain⟨⟨hd,hw⟩,hB'⟩:=hB
  have hkl:=hI.len
  have hr:i∈Region.ready .any ops listed:=mem_ready.2 ⟨hI.un hi fun e=>by have:=(Z9.1 e).2 (i,o) (by simp);exact this rfl,o,h0,hI.deps (by omega) hd⟩
  refine⟨fun hz=>(by rw[hz] at hr;cases hr),fun j hj=>?_⟩
  obtain⟨q,hq,hji⟩:=hI.waits hw j hj
  simp at hq
  subst hq
  simp only at hji
  subst hji
  refine wpOp_step h0 (fun K' hK=>h K' (fun a' w' hS' hW=>hK a' w' ⟨hS',?_⟩))
  have hI':HI ops k l [] (listed.setIfInBounds j true):=hI.set hi hI.rest hI.len (by simp) (fun m=>by
   rw[Z9,Z9]
   constructor
   ·rintro⟨h1,_⟩
    by_cases q:m=j
    ·exact .inl q
    ·exact .inr ⟨h1,fun p hp=>by simp at hp;subst hp;exact q⟩
   ·rintro(rfl | ⟨h1,_⟩)
    ·exact⟨hik,by simp⟩
    ·exact⟨h1,by simp⟩)
  exact HP.run hs hQ p k l [] _ a' w' hI' hB' hS' (hW hS')
 | .go1 p,k,l,_::_::_,listed,a,w,hI,hB,hS,h=>by simp[Yp,Yh] at hB
 | .go2 p q,k,l,[],listed,a,w,hI,hB,hS,h=>by simp[Yp,Yh] at hB
 | .go2 p q,k,l,[_],listed,a,w,hI,hB,hS,h=>by simp[Yp,Yh] at hB
 | .go2 p q,k,l,[(i,o),(i',o')],listed,a,w,hI,hB,hS,h=>by
  obtain⟨h0,hik⟩:=hI.put (i,o) (by simp)
  obtain⟨h0',hik'⟩:=hI.put (i',o') (by simp)
  simp only at h0 hik h0' hik'
  have hi:i<ops.size:=(Array.getElem?_eq_some_iff.1 h0).1
  have hi':i'<ops.size:=(Array.getElem?_eq_some_iff.1 h0').1
  simp only[Yp,Yh,List.map_cons,List.map_nil,Bool.and_eq_true] at hB
  obtain⟨⟨⟨⟨⟨hd,hd'⟩,hne⟩,hw⟩,hB1⟩,hB2⟩:=hB
  have hne':i≠i':=by simpa using hne
  have hkl:=hI.len
  have hr:i∈Region.ready .any ops listed:=mem_ready.2 ⟨hI.un hi fun e=>by have:=(Z9.1 e).2 (i,o) (by simp);exact this rfl,o,h0,hI.deps (by omega) hd⟩
  refine⟨fun hz=>(by rw[hz] at hr;cases hr),fun j hj=>?_⟩
  obtain⟨x,hx,hji⟩:=hI.waits hw j hj
  simp at hx
  rcases hx with rfl | rfl
  ·simp only at hji
   subst hji
   refine wpOp_step h0 (fun K' hK=>h.1 K' (fun a' w' hS' hW=>hK a' w' ⟨hS',?_⟩))
   have hI':HI ops k l [(i',o')] (listed.setIfInBounds j true):=hI.set hi hI.rest hI.len (fun p hp=>hI.put p (by simp at hp;simp[hp])) (fun m=>by
    rw[Z9,Z9]
    constructor
    ·rintro⟨h1,h2⟩
     by_cases q:m=j
     ·exact .inl q
     ·exact .inr ⟨h1,fun p hp=>by
       simp at hp
       rcases hp with rfl | rfl
       ·exact q
       ·exact h2 _ (by simp)⟩
    ·rintro(rfl | ⟨h1,h2⟩)
     ·exact⟨hik,fun p hp=>by simp at hp;subst hp;exact hne'⟩
     ·exact⟨h1,fun p hp=>h2 p (by simp at hp;simp[hp])⟩)
   have ih:=HP.run hs hQ p k l [(i',o')] _ a' w' hI' hB1 hS' (hW hS')
   exact ih
  ·simp only at hji
   subst hji
   refine wpOp_step h0' (fun K' hK=>h.2 K' (fun a' w' hS' hW=>hK a' w' ⟨hS',?_⟩))
   have hI':HI ops k l [(i,o)] (listed.setIfInBounds j true):=hI.set hi' hI.rest hI.len (fun p hp=>hI.put p (by simp at hp;simp[hp])) (fun m=>by
    rw[Z9,Z9]
    constructor
    ·rintro⟨h1,h2⟩
     by_cases q:m=j
     ·exact .inl q
     ·exact .inr ⟨h1,fun p hp=>by
       simp at hp
       rcases hp with rfl | rfl
       ·exact h2 _ (by simp)
       ·exact q⟩
    ·rintro(rfl | ⟨h1,h2⟩)
     ·exact⟨hik',fun p hp=>by simp at hp;subst hp;exact fun e=>hne' e.symm⟩
     ·exact⟨h1,fun p hp=>h2 p (by simp at hp;simp[hp])⟩)
   have ih:=HP.run hs hQ q k l [(i,o)] _ a' w' hI' hB2 hS' (hW hS')
   exact ih
 | .go2 p q,k,l,_::_::_::_,listed,a,w,hI,hB,hS,h=>by simp[Yp,Yh] at hB
theorem Ze{id:Nat}{a:Act}{w:World}{l:List Oper}(p:Pl)(S:World→Prop)(hm:P.follows .mixedOrders=true)(hs:Region.noSelect l.toArray=true)
  (hB:Yp p 0 (l.map (Zr l.toArray)) []=true) (hS:S w.drew) (h:HP P l.toArray (NoPanic Q) S p l [] a w.drew):(Code.region id l.toArray true).wp P Q a w:=by
 refine wp_region_noPanic (wp_region_held (S:=S) hm ?_)
 have:=HP.run hs (fun c a d v w h=>h) p 0 l [] (Array.replicate l.toArray.size false) a w.drew ⟨by simp,by simp,by simp,by simp,fun j hj=>by rw[Z9];simp at hj ⊢;simp[hj]⟩ hB hS h
 simpa using this
end
end
theorem Z5b(R:Rq)(w:World):Calls prog 111 #[Uk R] w fun e w'=>e=.returned (.bool (R.md != 0))∧Nw w w':=by
 obtain⟨a,b,m,n,s⟩:=R
 unfold Uk
 go_enter func111,ntmps111
 go_wp2
 go_ret
 exact⟨rfl,(Nw.refl _).alloc _⟩
theorem Z5c(R:Rq)(w:World):Calls prog 56 #[Uk R] w fun e w'=>e=.returned (.bool (decide (0<R.sn)))∧Nw w w':=by
 obtain⟨a,b,m,n,s⟩:=R
 unfold Uk
 go_enter func56,ntmps56
 go_wp2
 go_ret
 exact⟨rfl,(Nw.refl _).alloc _⟩
def Yw(w:World)(f:Value)(p:Rq→Bool):Prop:=∃(g:Nat) (lb:Array Value),f=.func (.func g) #[] lb∧(∀args w,(callFunc g args).run prog w=.ok (.enter g args) w)∧∀(R:Rq) (w1:World),Nw w w1→Calls prog g (#[Uk R]++lb) w1 fun e w'=>e=.returned (.bool (p R))∧Nw w1 w'
theorem Yw.nw{w w':World}{f:Value}{p:Rq→Bool}(h:Yw w f p)(g:Nw w w'):Yw w' f p:=by
 obtain⟨k,lb,e,eg,hc⟩:=h
 exact⟨k,lb,e,eg,fun R w1 h1=>hc R w1 (g.trans h1)⟩
theorem Z5d(i:Int)(R:Rq)(p:Nat)(w:World)(h:w.cell? ⟨p,0,none⟩=some (.int .i64 i)):Calls prog 101 #[Uk R,.pointer (some ⟨p,0,none⟩)] w fun e w'=>e=.returned (.bool (R.id==i))∧Nw w w':=by
 obtain⟨a,b,m,n,s⟩:=R
 unfold Uk
 have hp:=World.block_lt_of_cell? _ _ h
 go_enter func101,ntmps101
 go_wp2
 go_ret
 exact⟨rfl,(Nw.refl _).alloc _⟩
theorem Z7a(i:Int)(w:World):Calls prog 73 #[.int .i64 i] w fun e w'=>∃p,e=.returned (.func (.func 101) #[] #[.pointer (some ⟨p,0,none⟩)])∧Nw w w'∧w'.cell? ⟨p,0,none⟩=some (.int .i64 i):=by
 go_enter func73,ntmps73
 go_wp2
 go_ret
 exact⟨_,rfl,(Nw.refl _).alloc _,Z2 (Z5 w _)⟩
theorem Yw.withID{w:World}{i:Int}{p:Nat}(h:w.cell? ⟨p,0,none⟩=some (.int .i64 i)):Yw w (.func (.func 101) #[] #[.pointer (some ⟨p,0,none⟩)]) (fun R=>R.id==i) :=
 ⟨_,_,rfl,enters_of func101 (by kernel_rfl) rfl,fun R w1 g=>Z5d i R p w1 (g.kp h)⟩
theorem Z7x(a b m n s W:Int)(w:World):Calls prog 51 #[.agg #[.int .i64 a,.int .i64 b,.int .i64 m,.int .i64 n,.int .i64 s],.int .i64 W] w fun e w'=>e=.returned (.bool (rtB W ⟨a,b,m,n,s⟩))∧Nw w w':=by
 have hK1:=fun w=>Uj m w
 have hK2:=fun w=>Uj n w
 have hCV:=fun w=>Za0 m n w
 unfold rtB
 simp only
 generalize Yk m=k1 at *
 generalize Yk n=k2 at *
 generalize cvI m n=cv at *
 have K1:=hD0 hK1
 have K2:=hD0 hK2
 have CV:=hD0 hCV
 clear hK1 hK2 hCV
 by_cases h1:a<0
 ·rw[show(!(((((decide (a<0) || !k1) || !k2) || decide (s<0)) || decide (W<s)))&&(if 0<s then !cv else((m != 0)&&(n==m))))=false by simp[h1]]
  go_enter func51,ntmps51
  go_wp2
  go_ret
  exact⟨rfl,(Nw.refl _).alloc _⟩
 cases k1
 ·rw[show(!(((((decide (a<0) || !false) || !k2) || decide (s<0)) || decide (W<s)))&&(if 0<s then !cv else((m != 0)&&(n==m))))=false by simp]
  go_enter func51,ntmps51
  go_wp2_with fail
  refine(K1.out _).mono ?_
  rintro e w' ⟨rfl,rfl⟩
  go_wp2
  go_ret
  exact⟨rfl,(Nw.refl _).alloc _⟩
 cases k2
 ·rw[show(!(((((decide (a<0) || !true) || !false) || decide (s<0)) || decide (W<s)))&&(if 0<s then !cv else((m != 0)&&(n==m))))=false by simp]
  go_enter func51,ntmps51
  go_wp2_with fail
  refine(K1.out _).mono ?_
  rintro e w' ⟨rfl,rfl⟩
  go_wp2_with fail
  refine(K2.out _).mono ?_
  rintro e w' ⟨rfl,rfl⟩
  go_wp2
  go_ret
  exact⟨rfl,(Nw.refl _).alloc _⟩
 by_cases h4:s<0
 ·rw[show(!(((((decide (a<0) || !true) || !true) || decide (s<0)) || decide (W<s)))&&(if 0<s then !cv else((m != 0)&&(n==m))))=false by simp[h4]]
  go_enter func51,ntmps51
  go_wp2_with fail
  refine(K1.out _).mono ?_
  rintro e w' ⟨rfl,rfl⟩
  go_wp2_with fail
  refine(K2.out _).mono ?_
  rintro e w' ⟨rfl,rfl⟩
  go_wp2
  go_ret
  exact⟨rfl,(Nw.refl _).alloc _⟩
 by_cases h5:W<s
 ·rw[show(!(((((decide (a<0) || !true) || !true) || decide (s<0)) || decide (W<s)))&&(if 0<s then !cv else((m != 0)&&(n==m))))=false by simp[h5]]
  go_enter func51,ntmps51
  go_wp2_with fail
  refine(K1.out _).mono ?_
  rintro e w' ⟨rfl,rfl⟩
  go_wp2_with fail
  refine(K2.out _).mono ?_
  rintro e w' ⟨rfl,rfl⟩
  go_wp2
  go_ret
  exact⟨rfl,(Nw.refl _).alloc _⟩
 by_cases h6:0<s
 ·rw[show(!(((((decide (a<0) || !true) || !true) || decide (s<0)) || decide (W<s)))&&(if 0<s then !cv else((m != 0)&&(n==m))))=!cv by simp[h1,h4,h5,h6]]
  have d6:decide (0<s)=true:=by simpa using h6
  go_enter func51,ntmps51
  go_wp2_with fail
  refine(K1.out _).mono ?_
  rintro e w' ⟨rfl,rfl⟩
  go_wp2_with fail
  refine(K2.out _).mono ?_
  rintro e w' ⟨rfl,rfl⟩
  go_wp2_with fail
  refine(Zc _ _ _ _ _ _).mono ?_
  rintro e w2 ⟨rfl,g2⟩
  have hN:=((Nw.refl w).alloc (.cells #[.int .i64 a,.int .i64 b,.int .i64 m,.int .i64 n,.int .i64 s] 47)).trans g2
  have c2:w2.cell? ⟨w.heap.size,2,none⟩=some (.int .i64 m):=g2.kp (Z2 (Z5 w _))
  have c3:w2.cell? ⟨w.heap.size,3,none⟩=some (.int .i64 n):=g2.kp (Z2 (Z5 w _))
  clear g2
  go_wp2_with fail
  refine(CV.out _).mono ?_
  rintro e w4 ⟨rfl,g4⟩
  go_wp2
  go_ret
  exact⟨rfl,hN.trans g4⟩
 ·rw[show(!(((((decide (a<0) || !true) || !true) || decide (s<0)) || decide (W<s)))&&(if 0<s then !cv else((m != 0)&&(n==m))))=((m != 0)&&(n==m))by simp[h1,h4,h5,h6]]
  have d6:decide (0<s)=false:=by simpa using h6
  cases h7:(m != 0)
  ·go_enter func51,ntmps51
   go_wp2_with fail
   refine(K1.out _).mono ?_
   rintro e w' ⟨rfl,rfl⟩
   go_wp2_with fail
   refine(K2.out _).mono ?_
   rintro e w' ⟨rfl,rfl⟩
   go_wp2_with fail
   refine(Zc _ _ _ _ _ _).mono ?_
   rintro e w2 ⟨rfl,g2⟩
   have hN:=((Nw.refl w).alloc (.cells #[.int .i64 a,.int .i64 b,.int .i64 m,.int .i64 n,.int .i64 s] 47)).trans g2
   have c0:w2.cell? ⟨w.heap.size,0,none⟩=some (.int .i64 a):=g2.kp (Z2 (Z5 w _))
   have c1:w2.cell? ⟨w.heap.size,1,none⟩=some (.int .i64 b):=g2.kp (Z2 (Z5 w _))
   have c2:w2.cell? ⟨w.heap.size,2,none⟩=some (.int .i64 m):=g2.kp (Z2 (Z5 w _))
   have c3:w2.cell? ⟨w.heap.size,3,none⟩=some (.int .i64 n):=g2.kp (Z2 (Z5 w _))
   have c4:w2.cell? ⟨w.heap.size,4,none⟩=some (.int .i64 s):=g2.kp (Z2 (Z5 w _))
   clear g2
   go_wp2_with fail
   refine(Za _ _ _ _ _ _).mono ?_
   rintro e w4 ⟨rfl,g4⟩
   go_wp2
   go_ret
   exact⟨rfl,hN.trans g4⟩
  ·go_enter func51,ntmps51
   go_wp2_with fail
   refine(K1.out _).mono ?_
   rintro e w' ⟨rfl,rfl⟩
   go_wp2_with fail
   refine(K2.out _).mono ?_
   rintro e w' ⟨rfl,rfl⟩
   go_wp2_with fail
   refine(Zc _ _ _ _ _ _).mono ?_
   rintro e w2 ⟨rfl,g2⟩
   have hN:=((Nw.refl w).alloc (.cells #[.int .i64 a,.int .i64 b,.int .i64 m,.int .i64 n,.int .i64 s] 47)).trans g2
   have c0:w2.cell? ⟨w.heap.size,0,none⟩=some (.int .i64 a):=g2.kp (Z2 (Z5 w _))
   have c1:w2.cell? ⟨w.heap.size,1,none⟩=some (.int .i64 b):=g2.kp (Z2 (Z5 w _))
   have c2:w2.cell? ⟨w.heap.size,2,none⟩=some (.int .i64 m):=g2.kp (Z2 (Z5 w _))
   have c3:w2.cell? ⟨w.heap.size,3,none⟩=some (.int .i64 n):=g2.kp (Z2 (Z5 w _))
   have c4:w2.cell? ⟨w.heap.size,4,none⟩=some (.int .i64 s):=g2.kp (Z2 (Z5 w _))
   clear g2
   go_wp2_with fail
   refine(Za _ _ _ _ _ _).mono ?_
   rintro e w4 ⟨rfl,g4⟩
   replace c2:=g4.kp c2
   replace c3:=g4.kp c3
   replace hN:=hN.trans g4
   go_wp2
   go_ret
   exact⟨rfl,hN⟩
end Go.Proofs.Ytobnolgphljoeaa
