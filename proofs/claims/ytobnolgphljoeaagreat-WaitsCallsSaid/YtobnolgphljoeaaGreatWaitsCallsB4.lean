/- Texts merged: R1B, QuA, Lex, Ord, OrdP, QvA, QuB -/
import Derived.Test.YtobnolgphljoeaaGreatWaitsCallsB3
set_option linter.unusedVariables false
set_option maxRecDepth 100000
set_option maxHeartbeats 16000000
namespace Go.Proofs.YtobnolgphljoeaaGreat
open Go.RowKit _root_.Go.Proofs.Tryz
theorem Z6r(a b:Int)(w:World):Calls prog 58 #[.int .i64 a,.int .i64 b] w fun e w'=>e=.returned (.bool (cpI a b))∧Nw w w':=by
 cases ha:V4 a with
 | true =>
  cases hb:V4 b with
  | true=>exact Z5a a b ha hb w
  | false =>
   have hc:cpI a b=false:=by simp[cpI,hb]
   rw[hc]
   have HA:=hD0 (Z4f a ha)
   have HB:=hD0 (Z4e b hb)
   clear ha hb hc
   go_enter func58,ntmps58
   go_wp2_with fail
   refine(HA.out _).mono ?_
   rintro e w' ⟨rfl,rfl⟩
   go_wp2_with fail
   refine(HB.out _).mono ?_
   rintro e w' ⟨rfl,rfl⟩
   go_wp2
   go_ret
   exact⟨rfl,Nw.refl _⟩
 | false =>
  have hc:cpI a b=false:=by simp[cpI,ha]
  rw[hc]
  have HA:=hD0 (Z4e a ha)
  clear ha hc
  go_enter func58,ntmps58
  go_wp2_with fail
  refine(HA.out _).mono ?_
  rintro e w' ⟨rfl,rfl⟩
  go_wp2
  go_ret
  exact⟨rfl,Nw.refl _⟩
theorem Z6s(a b:Int)(ha:V4 a=true)(hb:V4 b=true)(w:World):Calls prog 82 #[.int .i64 a,.int .i64 b] w fun e w'=>e=.returned (.bool (cvI a b))∧Nw w w':=by
 have hr:=Z8a a ha
 rcases Ys ha with rfl | rfl | rfl | rfl | rfl | rfl | rfl<;>rcases Ys hb with rfl | rfl | rfl | rfl | rfl | rfl | rfl
 all_goals
  go_enter func82,ntmps82
  go_wp2_with (first | (go_at_call 81;refine(Z4f _ rfl _).mono ?_;rintro e w' ⟨rfl,rfl⟩) | (go_at_call 106;refine(hr _).mono ?_;rintro e w' ⟨rfl,hg⟩))
  go_ret
  exact⟨rfl,hg⟩
theorem Zae(a b:Int)(w:World):Calls prog 82 #[.int .i64 a,.int .i64 b] w fun e w'=>e=.returned (.bool (cvI a b))∧Nw w w':=by
 cases ha:V4 a with
 | true =>
  cases hb:V4 b with
  | true=>exact Z6s a b ha hb w
  | false =>
   have hc:cvI a b=false:=by simp[cvI,hb]
   rw[hc]
   have HA:=hD0 (Z4f a ha)
   have HB:=hD0 (Z4e b hb)
   clear ha hb hc
   go_enter func82,ntmps82
   go_wp2_with fail
   refine(HA.out _).mono ?_
   rintro e w' ⟨rfl,rfl⟩
   go_wp2_with fail
   refine(HB.out _).mono ?_
   rintro e w' ⟨rfl,rfl⟩
   go_wp2
   go_ret
   exact⟨rfl,Nw.refl _⟩
 | false =>
  have hc:cvI a b=false:=by simp[cvI,ha]
  rw[hc]
  have HA:=hD0 (Z4e a ha)
  clear ha hc
  go_enter func82,ntmps82
  go_wp2_with fail
  refine(HA.out _).mono ?_
  rintro e w' ⟨rfl,rfl⟩
  go_wp2
  go_ret
  exact⟨rfl,Nw.refl _⟩
def Z08(r:Rq):List Value:=[.int .i64 r.id,.int .i64 r.txn,.int .i64 r.md,.int .i64 r.wt,.int .i64 r.sn]
def Uq(r:Rq):Value:=.agg #[.int .i64 r.id,.int .i64 r.txn,.int .i64 r.md,.int .i64 r.wt,.int .i64 r.sn]
def hdV(t r:Int)(v:Value)(W:Int):Value:=.agg #[.int .i64 t,.int .i64 r,v,.int .i64 W]
abbrev RqC:=RdC 5 Z08
abbrev Ue:=Rd 5 Z08
abbrev Z8m(w:World)(g0:Nat)(v:Value)(q:List Rq):Prop:=Zt 69 5 Z08 w g0 v q
structure Z1r(w:World)(p:Nat)(t r:Int)(v:Value)(W:Int):Prop where
 lt:p<w.heap.size
 c0:w.cell? ⟨p,0,none⟩=some (.int .i64 t)
 c1:w.cell? ⟨p,1,none⟩=some (.int .i64 r)
 c2:w.cell? ⟨p,2,none⟩=some v
 c3:w.cell? ⟨p,3,none⟩=some (.int .i64 W)
theorem Z1r.nw{w w':World}{p:Nat}{t r:Int}{v:Value}{W:Int}(h:Z1r w p t r v W)(g:Nw w w'):Z1r w' p t r v W :=
 ⟨lL0 h.lt g.sz,(g.cell h.lt).trans h.c0,(g.cell h.lt).trans h.c1,(g.cell h.lt).trans h.c2,(g.cell h.lt).trans h.c3⟩
theorem Z1r.made(w:World)(t r:Int)(v:Value)(W:Int)(T:TypeId):Z1r (w.alloc (.cells #[.int .i64 t,.int .i64 r,v,.int .i64 W] T)) w.heap.size t r v W:=by
 have h:=Z4 w (.cells #[.int .i64 t,.int .i64 r,v,.int .i64 W] T)
 exact⟨hlt h,Z2 h,Z2 h,Z2 h,Z2 h⟩
theorem Zf(a b m wn s:Int)(w:World):Calls prog 57 #[.agg #[.int .i64 a,.int .i64 b,.int .i64 m,.int .i64 wn,.int .i64 s]] w fun e w'=>e=.returned (.bool (m != 0))∧Nw w w':=by
 go_enter func57,ntmps57
 go_wp2
 go_ret
 exact⟨rfl,(Nw.refl _).alloc _⟩
theorem Ze(a b m wn s:Int)(w:World):Calls prog 56 #[.agg #[.int .i64 a,.int .i64 b,.int .i64 m,.int .i64 wn,.int .i64 s]] w fun e w'=>e=.returned (.bool (decide (0<s)))∧Nw w w':=by
 go_enter func56,ntmps56
 go_wp2
 go_ret
 exact⟨rfl,(Nw.refl _).alloc _⟩
section
open Go
def Yp(ops:Array Oper)(o:Oper):Option Tmp × List Tmp × List Nat:=(o.dst,o.looksAt ops,(o.after.toList.filter (Region.binds .any)).map (·.on))
def Z49(k:Nat)(x y:Option Tmp × List Tmp × List Nat):Bool :=
 y.2.2.contains k || ((match x.1 with
  | some d=>!y.2.1.contains d&&y.1 != some d
  | none=>true)&&(match y.1 with
  | some d=>!x.2.1.contains d
  | none=>true))
end
section
open Go
def Zv(k:Nat)(q:Option (Nat × Option Tmp × List Tmp × List Nat))(e:Nat):Bool :=
 decide (e<k)&&(match q with
  | some y=>!(e==y.1)
  | none=>true)
def U1:List (Option Bool)→Nat→List (Option Tmp × List Tmp × List Nat)→Option (Nat × Option Tmp × List Tmp × List Nat)→Bool
 | [],_,l,q=>l.isEmpty&&q.isNone
 | some true::fs,k,l,q =>
  match l with
  | []=>false
  | x::r=>x.2.2.all (Zv k q)&&r.all (Z49 k x)&&(match q with
   | some y=>Z49 k x y.2
   | none=>true)&&U1 fs (k+1) r q
 | some false::fs,k,l,q =>
  match l,q with
  | x::r,none=>U1 fs (k+1) r (some (k,x))
  | _,_=>false
 | none::fs,k,l,q =>
  match q with
  | some y=>y.2.2.2.all (Zv k q)&&l.all (fun x=>x.2.2.any fun e=>!Zv k q e)&&U1 fs k l none
  | none=>false
def HW(P:Program)(ops:Array Oper)(Q:Exit→Act→World→Prop)(S:World→Prop):List (Option Bool)→List Oper→Option Oper→Act→World→Prop
 | [],_,_,a,w=>Q .normal a w
 | some true::fs,l,q,a,w =>
  match l with
  | []=>False
  | o::r=>∃v,YieldsIf P ops S o v a∧HW P ops Q S fs r q (a.put o.dst v) w
 | some false::fs,l,q,a,w =>
  match l,q with
  | o::r,none=>HW P ops Q S fs r (some o) a w
  | _,_=>False
 | none::fs,l,q,a,w =>
  match q with
  | some o=>∀K':Act→World→Prop,Shut (∀a w,S w→(S w→HW P ops Q S fs l none a w)→K' a w)→if Region.wanted o (yielded ops a.tmps)=true then Oper.wp P o a w K' Q else K' (a.put o.dst undef) w
  | none=>False
section
variable {P:Program} {ops:Array Oper} {Q:Exit→Act→World→Prop} {S:World→Prop}
theorem HW.end_{l:List Oper}{q:Option Oper}{a:Act}{w:World}(h:Q .normal a w):HW P ops Q S [] l q a w:=h
theorem HW.take'{fs:List (Option Bool)}{o:Oper}{r:List Oper}{q:Option Oper}{a:Act}{w:World}(h:∃v,YieldsIf P ops S o v a∧HW P ops Q S fs r q (a.put o.dst v) w):HW P ops Q S (some true::fs) (o::r) q a w:=h
theorem HW.off{fs:List (Option Bool)}{o:Oper}{r:List Oper}{a:Act}{w:World}(h:HW P ops Q S fs r (some o) a w):HW P ops Q S (some false::fs) (o::r) none a w:=h
theorem HW.go{fs:List (Option Bool)}{o:Oper}{l:List Oper}{a:Act}{w:World}
  (h:∀K':Act→World→Prop,Shut (∀a w,S w→(S w→HW P ops Q S fs l none a w)→K' a w)→if Region.wanted o (yielded ops a.tmps)=true then Oper.wp P o a w K' Q else K' (a.put o.dst undef) w):HW P ops Q S (none::fs) l (some o) a w:=h
theorem Z1t{k:Nat}{o oj:Oper}(h:Z49 k (Yp ops o) (Yp ops oj)=true)(hno:∀e∈oj.after,Region.binds .any e=true→e.on≠k):o.apart ops oj=true:=by
 unfold Z49 at h
 rw[Bool.or_eq_true] at h
 rcases h with h | h
 ·obtain⟨e,he,heq⟩:=List.mem_map.1 (List.contains_iff_mem.1 h)
  obtain⟨he1,he2⟩:=List.mem_filter.1 he
  exact absurd heq (hno e (Array.mem_toList_iff.1 he1) he2)
 ·exact h
theorem HW.run(hs:Region.noSelect ops=true)(hQ:∀c a d v w,Q (.panic c) (Act.put a d v) w→Q (.panic c) a w):∀(fs:List (Option Bool)) (k:Nat) (l:List Oper) (qi:Option (Nat × Oper)) (listed:Array Bool) (a:Act) (w:World),
  (∀j,l[j]?=ops[k+j]?)→k+l.length=ops.size→(∀p,qi=some p→ops[p.1]?=some p.2∧p.1<k)→listed.size=ops.size →
  (∀j,j<ops.size→(listed.getD j false=true↔Zv k (qi.map fun p=>(p.1,Yp ops p.2)) j=true)) →
  U1 fs k (l.map (Yp ops)) (qi.map fun p=>(p.1,Yp ops p.2))=true→S w→HW P ops Q S fs l (qi.map (·.2)) a w →
  wpAnyH P .any ops Q S (l.length+(qi.map fun _=>1).getD 0) listed a w
 | [],k,l,qi,listed,a,w,hl,hn,hq,hsz,hD,hB,hS,h=>by
  unfold U1 at hB
  rw[Bool.and_eq_true] at hB
  obtain rfl:l=[]:=by cases l with
   | nil=>rfl
   | cons o r=>simp at hB
  obtain rfl:qi=none:=by cases qi with
   | none=>rfl
   | some p=>simp at hB
  refine wpAnyH_done ?_ h _
  rw[List.eq_nil_iff_forall_not_mem]
  intro j hj
  obtain⟨h1,o,ho,_⟩:=mem_ready.1 hj
  have hlt:j<ops.size:=(Array.getElem?_eq_some_iff.1 ho).1
  have h2:=(hD j hlt).2 (by unfold Zv;simp at hn ⊢;omega)
  simp[hsz,hlt] at h1 h2
  rw[h1] at h2
  cases h2
 | some true::fs,k,[],qi,listed,a,w,hl,hn,hq,hsz,hD,hB,hS,h=>by unfold U1 at hB;simp at hB
 | some true::fs,k,o::r,qi,listed,a,w,hl,hn,hq,hsz,hD,hB,hS,h=>by
  have h0:ops[k]?=some o:=by simpa using(hl 0).symm
  have hk:k<ops.size:=(Array.getElem?_eq_some_iff.1 h0).1
  simp only[List.map_cons,U1,Bool.and_eq_true,List.all_eq_true] at hB
  obtain⟨⟨⟨hd,hp⟩,hpq⟩,hB'⟩:=hB
  obtain⟨v,hy,hK⟩:=h
  have hnk:∀p,qi=some p→p.1≠k:=fun p hp=>Nat.ne_of_lt (hq p hp).2
  have hun:listed.getD k true=false:=by
   have h1:¬listed.getD k false=true:=fun e=>by
    have:=(hD k hk).1 e
    unfold Zv at this
    simp at this
   simp[hsz,hk] at h1 ⊢
   exact h1
  have hr:k∈Region.ready .any ops listed:=by
   refine mem_ready.2 ⟨hun,o,h0,fun e he hb=>?_⟩
   have hdn:=hd e.on (List.mem_map.2 ⟨e,List.mem_filter.2 ⟨Array.mem_toList_iff.2 he,hb⟩,rfl⟩)
   have hek:e.on<k:=by unfold Zv at hdn;simp at hdn;exact hdn.1
   exact(hD e.on (by omega)).2 hdn
  have hfree:∀j oj,ops[j]?=some oj→j≠k→listed.getD j true=false→(∀e∈oj.after,Region.binds .any e=true→e.on≠k)→o.apart ops oj=true:=by
   intro j oj hoj hne hju hno
   have hj:j<ops.size:=(Array.getElem?_eq_some_iff.1 hoj).1
   have hnd:¬Zv k (qi.map fun p=>(p.1,Yp ops p.2)) j=true:=fun e=>by
    have:=(hD j hj).2 e
    simp[hsz,hj] at this hju
    rw[this] at hju
    cases hju
   rcases Nat.lt_or_ge j k with g | g
   ·cases hqi:qi with
    | none=>rw[hqi] at hnd;exact absurd (by unfold Zv;simp[g]) hnd
    | some p =>
     rw[hqi] at hnd hpq
     have hjp:j=p.1:=by
      rcases Nat.decEq j p.1 with h | h
      ·exact absurd (by unfold Zv;simp[g,h]) hnd
      ·exact h
     have hpo:=(hq p hqi).1
     rw[←hjp,hoj] at hpo
     obtain rfl:=Option.some.inj hpo
     exact Z1t hpq hno
   ·have hlj:=hl (j-k)
    rw[show k+(j-k)=j by omega,hoj,show j-k=(j-k-1)+1 by omega,List.getElem?_cons_succ] at hlj
    exact Z1t (hp _ (List.mem_map.2 ⟨oj,List.mem_of_getElem? hlj,rfl⟩)) hno
  have ih:=HW.run hs hQ fs (k+1) r qi (listed.setIfInBounds k true) (a.put o.dst v) w (fun j=>by
    have:=hl (j+1)
    simpa [Nat.add_assoc,Nat.add_comm 1 j] using this) (by simp at hn;omega) (fun p hp=>⟨(hq p hp).1,Nat.lt_succ_of_lt (hq p hp).2⟩) (by simpa using hsz) (fun j hj=>by
    by_cases hjk:k=j
    ·subst hjk
     have h1:(listed.setIfInBounds k true).getD k false=true:=by simp[hsz,hk]
     refine⟨fun _=>?_,fun _=>h1⟩
     unfold Zv
     cases hqi:qi with
     | none=>simp
     | some p=>have:=hnk p hqi;simp;exact fun e=>this e.symm
    ·rw[getD_set_ne false hjk,hD j hj]
     unfold Zv
     have:decide (j<k+1)=decide (j<k):=decide_eq_decide.2 (by omega)
     rw[this]) hB' hS hK
  rw[show(o::r).length+(qi.map fun _=>1).getD 0=(r.length+(qi.map fun _=>1).getD 0)+1 by simp;omega]
  exact wpAnyH_first h0 (Region.noSelect_spec hs) (fun c a w=>hQ c a _ _ w) _ listed a w hfree hr hy hS ih
 | some false::fs,k,[],qi,listed,a,w,hl,hn,hq,hsz,hD,hB,hS,h=>by unfold U1 at hB;simp at hB
 | some false::fs,k,o::r,some p,listed,a,w,hl,hn,hq,hsz,hD,hB,hS,h=>by unfold U1 at hB;simp at hB
 | some false::fs,k,o::r,none,listed,a,w,hl,hn,hq,hsz,hD,hB,hS,h=>by
  have h0:ops[k]?=some o:=by simpa using(hl 0).symm
  have ih:=HW.run hs hQ fs (k+1) r (some (k,o)) listed a w (fun j=>by
    have:=hl (j+1)
    simpa [Nat.add_assoc,Nat.add_comm 1 j] using this) (by simp at hn;omega) (fun p hp=>by obtain rfl:=Option.some.inj hp;exact⟨h0,Nat.lt_succ_self _⟩) hsz (fun j hj=>by
    rw[hD j hj]
    unfold Zv
    simp
    omega) (by unfold U1 at hB;exact hB) hS h
  exact ih
 | none::fs,k,l,none,listed,a,w,hl,hn,hq,hsz,hD,hB,hS,h=>by unfold U1 at hB;simp at hB
 | none::fs,k,l,some p,listed,a,w,hl,hn,hq,hsz,hD,hB,hS,h=>by
  obtain⟨i,o⟩:=p
  obtain⟨h0,hik⟩:=hq (i,o) rfl
  have hi:i<ops.size:=(Array.getElem?_eq_some_iff.1 h0).1
  simp only[Option.map_some,U1,Bool.and_eq_true,List.all_eq_true,List.any_eq_true] at hB
  obtain⟨⟨hd,hw⟩,hB'⟩:=hB
  have hDu:∀j,j<ops.size→¬Zv k (some (i,Yp ops o)) j=true→listed.getD j true=false:=fun j hj hnd=>by
   have h1:¬listed.getD j false=true:=fun e=>hnd ((hD j hj).1 e)
   simp[hsz,hj] at h1 ⊢
   exact h1
  have hr:i∈Region.ready .any ops listed:=by
   refine mem_ready.2 ⟨hDu i hi (by unfold Zv;simp),o,h0,fun e he hb=>?_⟩
   have hdn:=hd e.on (List.mem_map.2 ⟨e,List.mem_filter.2 ⟨Array.mem_toList_iff.2 he,hb⟩,rfl⟩)
   have hek:e.on<k:=by unfold Zv at hdn;simp at hdn;exact hdn.1
   exact(hD e.on (by omega)).2 hdn
  refine⟨fun hz=>(by rw[hz] at hr;cases hr),fun j hj=>?_⟩
  have hji:j=i:=by
   obtain⟨h1,oj,hoj,hall⟩:=mem_ready.1 hj
   have hjs:j<ops.size:=(Array.getElem?_eq_some_iff.1 hoj).1
   rcases Nat.decEq j i with hne | he
   case isTrue=>exact he
   exfalso
   have hnd:¬Zv k (some (i,Yp ops o)) j=true:=fun e=>by
    have:=(hD j hjs).2 e
    simp[hsz,hjs] at this h1
    rw[this] at h1
    cases h1
   have hjk:k≤j:=by
    rcases Nat.lt_or_ge j k with g | g
    ·exact absurd (by unfold Zv;simp[g,hne]) hnd
    ·exact g
   have hlj:=hl (j-k)
   rw[show k+(j-k)=j by omega,hoj] at hlj
   obtain⟨e,he,hen⟩:=hw _ (List.mem_map.2 ⟨oj,List.mem_of_getElem? hlj,rfl⟩)
   obtain⟨ea,hea,rfl⟩:=List.mem_map.1 he
   obtain⟨he1,he2⟩:=List.mem_filter.1 hea
   have hls:=hall ea (Array.mem_toList_iff.1 he1) he2
   have hlt:ea.on<ops.size:=by
    rcases Nat.lt_or_ge ea.on ops.size with g | g
    ·exact g
    ·rw[←hsz] at g;simp[Array.getElem?_eq_none g] at hls
   have h3:=(hD ea.on hlt).1 hls
   simp only[Option.map_some] at h3
   rw[h3] at hen
   cases hen
  subst hji
  refine wpOp_step h0 (fun K' hK=>h K' (fun a' w' hS' hW=>hK a' w' ⟨hS',?_⟩))
  exact HW.run hs hQ fs k l none (listed.setIfInBounds j true) a' w' hl hn (fun p hp=>by cases hp) (by simpa using hsz) (fun m hm=>by
   by_cases hmj:j=m
   ·subst hmj
    have h1:(listed.setIfInBounds j true).getD j false=true:=by simp[hsz,hi]
    exact⟨fun _=>by unfold Zv;simp[hik],fun _=>h1⟩
   ·rw[getD_set_ne false hmj,hD m hm]
    unfold Zv
    have:¬m=j:=fun e=>hmj e.symm
    simp[this]) hB' hS' (hW hS')
theorem Uc{id:Nat}{a:Act}{w:World}{l:List Oper}(fs:List (Option Bool))(S:World→Prop)(hm:P.follows .mixedOrders=true)(hs:Region.noSelect l.toArray=true)
  (hB:U1 fs 0 (l.map (Yp l.toArray)) none=true) (hS:S w.drew) (h:HW P l.toArray (NoPanic Q) S fs l none a w.drew):(Code.region id l.toArray true).wp P Q a w:=by
 refine wp_region_noPanic (wp_region_held (S:=S) hm ?_)
 have:=HW.run hs (fun c a d v w h=>h) fs 0 l none (Array.replicate l.toArray.size false) a w.drew (by simp) (by simp) (fun p hp=>by cases hp) (by simp) (fun j hj=>by unfold Zv;simp at hj ⊢;simp[hj]) hB hS h
 simpa using this
end
end
section
open Go
inductive Pl where
 | fin
 | take (p:Pl)
 | off (p:Pl)
 | go1 (p:Pl)
 | go2 (p q:Pl)
abbrev Inf:=Option Tmp × List Tmp × List Nat
def Za4(k:Nat)(qs:List (Nat × Inf))(e:Nat):Bool:=decide (e<k)&&qs.all fun y=>!(e==y.1)
def HP(P:Program)(ops:Array Oper)(Q:Exit→Act→World→Prop)(S:World→Prop):Pl→List Oper→List Oper→Act→World→Prop
 | .fin,_,_,a,w=>Q .normal a w
 | .take p,l,qs,a,w =>
  match l with
  | []=>False
  | o::r=>∃v,YieldsIf P ops S o v a∧HP P ops Q S p r qs (a.put o.dst v) w
 | .off p,l,qs,a,w =>
  match l with
  | []=>False
  | o::r=>HP P ops Q S p r (qs++[o]) a w
 | .go1 p,l,qs,a,w =>
  match qs with
  | [o]=>∀K':Act→World→Prop,Shut (∀a w,S w→(S w→HP P ops Q S p l [] a w)→K' a w)→if Region.wanted o (yielded ops a.tmps)=true then Oper.wp P o a w K' Q else K' (a.put o.dst undef) w
  | _=>False
 | .go2 p q,l,qs,a,w =>
  match qs with
  | [o,o']=>(∀K':Act→World→Prop,Shut (∀a w,S w→(S w→HP P ops Q S p l [o'] a w)→K' a w)→if Region.wanted o (yielded ops a.tmps)=true then Oper.wp P o a w K' Q else K' (a.put o.dst undef) w) ∧
    ∀K':Act→World→Prop,Shut (∀a w,S w→(S w→HP P ops Q S q l [o] a w)→K' a w)→if Region.wanted o' (yielded ops a.tmps)=true then Oper.wp P o' a w K' Q else K' (a.put o'.dst undef) w
  | _=>False
section
variable {P:Program} {ops:Array Oper} {Q:Exit→Act→World→Prop} {S:World→Prop}
def Zat(ops:Array Oper)(qs:List (Nat × Oper)):List (Nat × Inf):=qs.map fun p=>(p.1,Yp ops p.2)
structure HI(ops:Array Oper)(k:Nat)(l:List Oper)(qs:List (Nat × Oper))(listed:Array Bool):Prop where
 rest:∀j,l[j]?=ops[k+j]?
 len:k+l.length=ops.size
 put:∀p∈qs,ops[p.1]?=some p.2∧p.1<k
 size:listed.size=ops.size
 come:∀j,j<ops.size→(listed.getD j false=true↔Za4 k (Zat ops qs) j=true)
end
end
theorem Z5v(R:Rq)(w:World):Calls prog 114 #[Uq R] w fun e w'=>e=.returned (.bool (R.md != 0))∧Nw w w':=by
 obtain⟨a,b,m,n,s⟩:=R
 unfold Uq
 go_enter func114,ntmps114
 go_wp2
 go_ret
 exact⟨rfl,(Nw.refl _).alloc _⟩
theorem Z5w(R:Rq)(w:World):Calls prog 60 #[Uq R] w fun e w'=>e=.returned (.bool (decide (0<R.sn)))∧Nw w w':=by
 obtain⟨a,b,m,n,s⟩:=R
 unfold Uq
 go_enter func60,ntmps60
 go_wp2
 go_ret
 exact⟨rfl,(Nw.refl _).alloc _⟩
def V2(w:World)(f:Value)(p:Rq→Bool):Prop:=∃(g:Nat) (lb:Array Value),f=.func (.func g) #[] lb∧(∀args w,(callFunc g args).run prog w=.ok (.enter g args) w)∧∀(R:Rq) (w1:World),Nw w w1→Calls prog g (#[Uq R]++lb) w1 fun e w'=>e=.returned (.bool (p R))∧Nw w1 w'
theorem V2.nw{w w':World}{f:Value}{p:Rq→Bool}(h:V2 w f p)(g:Nw w w'):V2 w' f p:=by
 obtain⟨k,lb,e,eg,hc⟩:=h
 exact⟨k,lb,e,eg,fun R w1 h1=>hc R w1 (g.trans h1)⟩
theorem Z5x(i:Int)(R:Rq)(p:Nat)(w:World)(h:w.cell? ⟨p,0,none⟩=some (.int .i64 i)):Calls prog 108 #[Uq R,.pointer (some ⟨p,0,none⟩)] w fun e w'=>e=.returned (.bool (R.id==i))∧Nw w w':=by
 obtain⟨a,b,m,n,s⟩:=R
 unfold Uq
 have hp:=World.block_lt_of_cell? _ _ h
 go_enter func108,ntmps108
 go_wp2
 go_ret
 exact⟨rfl,(Nw.refl _).alloc _⟩
theorem Z7r(i:Int)(w:World):Calls prog 85 #[.int .i64 i] w fun e w'=>∃p,e=.returned (.func (.func 108) #[] #[.pointer (some ⟨p,0,none⟩)])∧Nw w w'∧w'.cell? ⟨p,0,none⟩=some (.int .i64 i):=by
 go_enter func85,ntmps85
 go_wp2
 go_ret
 exact⟨_,rfl,(Nw.refl _).alloc _,Z2 (Z4 w _)⟩
theorem V2.withID{w:World}{i:Int}{p:Nat}(h:w.cell? ⟨p,0,none⟩=some (.int .i64 i)):V2 w (.func (.func 108) #[] #[.pointer (some ⟨p,0,none⟩)]) (fun R=>R.id==i) :=
 ⟨_,_,rfl,enters_of func108 (by kernel_rfl) rfl,fun R w1 g=>Z5x i R p w1 (g.kp h)⟩
theorem Z8c(a b m n s W:Int)(w:World):Calls prog 55 #[.agg #[.int .i64 a,.int .i64 b,.int .i64 m,.int .i64 n,.int .i64 s],.int .i64 W] w fun e w'=>e=.returned (.bool (rtB W ⟨a,b,m,n,s⟩))∧Nw w w':=by
 have hK1:=fun w=>Up m w
 have hK2:=fun w=>Up n w
 have hCV:=fun w=>Zae m n w
 unfold rtB
 simp only
 generalize V4 m=k1 at *
 generalize V4 n=k2 at *
 generalize cvI m n=cv at *
 have K1:=hD0 hK1
 have K2:=hD0 hK2
 have CV:=hD0 hCV
 clear hK1 hK2 hCV
 by_cases h1:a<0
 ·rw[show(!(((((decide (a<0) || !k1) || !k2) || decide (s<0)) || decide (W<s)))&&(if 0<s then !cv else((m != 0)&&(n==m))))=false by simp[h1]]
  go_enter func55,ntmps55
  go_wp2
  go_ret
  exact⟨rfl,(Nw.refl _).alloc _⟩
 cases k1
 ·rw[show(!(((((decide (a<0) || !false) || !k2) || decide (s<0)) || decide (W<s)))&&(if 0<s then !cv else((m != 0)&&(n==m))))=false by simp]
  go_enter func55,ntmps55
  go_wp2_with fail
  refine(K1.out _).mono ?_
  rintro e w' ⟨rfl,rfl⟩
  go_wp2
  go_ret
  exact⟨rfl,(Nw.refl _).alloc _⟩
 cases k2
 ·rw[show(!(((((decide (a<0) || !true) || !false) || decide (s<0)) || decide (W<s)))&&(if 0<s then !cv else((m != 0)&&(n==m))))=false by simp]
  go_enter func55,ntmps55
  go_wp2_with fail
  refine(K1.out _).mono ?_
  rintro e w' ⟨rfl,rfl⟩
  go_wp2_with fail
  refine(K2.out _).mono ?_
  rintro e w' ⟨rfl,rfl⟩
  go_wp2
  go_ret
  exact⟨rfl,(Nw.refl _).alloc _⟩
 by_cases h4:s<0
 ·rw[show(!(((((decide (a<0) || !true) || !true) || decide (s<0)) || decide (W<s)))&&(if 0<s then !cv else((m != 0)&&(n==m))))=false by simp[h4]]
  go_enter func55,ntmps55
  go_wp2_with fail
  refine(K1.out _).mono ?_
  rintro e w' ⟨rfl,rfl⟩
  go_wp2_with fail
  refine(K2.out _).mono ?_
  rintro e w' ⟨rfl,rfl⟩
  go_wp2
  go_ret
  exact⟨rfl,(Nw.refl _).alloc _⟩
 by_cases h5:W<s
 ·rw[show(!(((((decide (a<0) || !true) || !true) || decide (s<0)) || decide (W<s)))&&(if 0<s then !cv else((m != 0)&&(n==m))))=false by simp[h5]]
  go_enter func55,ntmps55
  go_wp2_with fail
  refine(K1.out _).mono ?_
  rintro e w' ⟨rfl,rfl⟩
  go_wp2_with fail
  refine(K2.out _).mono ?_
  rintro e w' ⟨rfl,rfl⟩
  go_wp2
  go_ret
  exact⟨rfl,(Nw.refl _).alloc _⟩
 by_cases h6:0<s
 ·rw[show(!(((((decide (a<0) || !true) || !true) || decide (s<0)) || decide (W<s)))&&(if 0<s then !cv else((m != 0)&&(n==m))))=!cv by simp[h1,h4,h5,h6]]
  have d6:decide (0<s)=true:=by simpa using h6
  go_enter func55,ntmps55
  go_wp2_with fail
  refine(K1.out _).mono ?_
  rintro e w' ⟨rfl,rfl⟩
  go_wp2_with fail
  refine(K2.out _).mono ?_
  rintro e w' ⟨rfl,rfl⟩
  go_wp2_with fail
  refine(Ze _ _ _ _ _ _).mono ?_
  rintro e w2 ⟨rfl,g2⟩
  have hN:=((Nw.refl w).alloc (.cells #[.int .i64 a,.int .i64 b,.int .i64 m,.int .i64 n,.int .i64 s] 69)).trans g2
  have c2:w2.cell? ⟨w.heap.size,2,none⟩=some (.int .i64 m):=g2.kp (Z2 (Z4 w _))
  have c3:w2.cell? ⟨w.heap.size,3,none⟩=some (.int .i64 n):=g2.kp (Z2 (Z4 w _))
  clear g2
  go_wp2_with fail
  refine(CV.out _).mono ?_
  rintro e w4 ⟨rfl,g4⟩
  go_wp2
  go_ret
  exact⟨rfl,hN.trans g4⟩
 ·rw[show(!(((((decide (a<0) || !true) || !true) || decide (s<0)) || decide (W<s)))&&(if 0<s then !cv else((m != 0)&&(n==m))))=((m != 0)&&(n==m))by simp[h1,h4,h5,h6]]
  have d6:decide (0<s)=false:=by simpa using h6
  cases h7:(m != 0)
  ·go_enter func55,ntmps55
   go_wp2_with fail
   refine(K1.out _).mono ?_
   rintro e w' ⟨rfl,rfl⟩
   go_wp2_with fail
   refine(K2.out _).mono ?_
   rintro e w' ⟨rfl,rfl⟩
   go_wp2_with fail
   refine(Ze _ _ _ _ _ _).mono ?_
   rintro e w2 ⟨rfl,g2⟩
   have hN:=((Nw.refl w).alloc (.cells #[.int .i64 a,.int .i64 b,.int .i64 m,.int .i64 n,.int .i64 s] 69)).trans g2
   have c0:w2.cell? ⟨w.heap.size,0,none⟩=some (.int .i64 a):=g2.kp (Z2 (Z4 w _))
   have c1:w2.cell? ⟨w.heap.size,1,none⟩=some (.int .i64 b):=g2.kp (Z2 (Z4 w _))
   have c2:w2.cell? ⟨w.heap.size,2,none⟩=some (.int .i64 m):=g2.kp (Z2 (Z4 w _))
   have c3:w2.cell? ⟨w.heap.size,3,none⟩=some (.int .i64 n):=g2.kp (Z2 (Z4 w _))
   have c4:w2.cell? ⟨w.heap.size,4,none⟩=some (.int .i64 s):=g2.kp (Z2 (Z4 w _))
   clear g2
   go_wp2_with fail
   refine(Zf _ _ _ _ _ _).mono ?_
   rintro e w4 ⟨rfl,g4⟩
   go_wp2
   go_ret
   exact⟨rfl,hN.trans g4⟩
  ·go_enter func55,ntmps55
   go_wp2_with fail
   refine(K1.out _).mono ?_
   rintro e w' ⟨rfl,rfl⟩
   go_wp2_with fail
   refine(K2.out _).mono ?_
   rintro e w' ⟨rfl,rfl⟩
   go_wp2_with fail
   refine(Ze _ _ _ _ _ _).mono ?_
   rintro e w2 ⟨rfl,g2⟩
   have hN:=((Nw.refl w).alloc (.cells #[.int .i64 a,.int .i64 b,.int .i64 m,.int .i64 n,.int .i64 s] 69)).trans g2
   have c0:w2.cell? ⟨w.heap.size,0,none⟩=some (.int .i64 a):=g2.kp (Z2 (Z4 w _))
   have c1:w2.cell? ⟨w.heap.size,1,none⟩=some (.int .i64 b):=g2.kp (Z2 (Z4 w _))
   have c2:w2.cell? ⟨w.heap.size,2,none⟩=some (.int .i64 m):=g2.kp (Z2 (Z4 w _))
   have c3:w2.cell? ⟨w.heap.size,3,none⟩=some (.int .i64 n):=g2.kp (Z2 (Z4 w _))
   have c4:w2.cell? ⟨w.heap.size,4,none⟩=some (.int .i64 s):=g2.kp (Z2 (Z4 w _))
   clear g2
   go_wp2_with fail
   refine(Zf _ _ _ _ _ _).mono ?_
   rintro e w4 ⟨rfl,g4⟩
   replace c2:=g4.kp c2
   replace c3:=g4.kp c3
   replace hN:=hN.trans g4
   go_wp2
   go_ret
   exact⟨rfl,hN⟩
end Go.Proofs.YtobnolgphljoeaaGreat
