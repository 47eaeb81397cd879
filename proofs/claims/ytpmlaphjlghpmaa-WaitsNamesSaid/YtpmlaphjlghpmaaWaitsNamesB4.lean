/- Texts merged: Ord, OrdP, QvA, QuC, QuD, QuE, QuF, QuG, QuI, QuJ, QvC, QsA, QvB, QvD -/
import Derived.Test.YtpmlaphjlghpmaaWaitsNamesB3
import Derived.StillTailTactics
import Derived.Maps.RangeWalk
set_option linter.unusedVariables false
set_option maxRecDepth 100000
set_option maxHeartbeats 16000000
namespace Go.Proofs.Ytpmlaphjlghpmaa
open Go.RowKit _root_.Go.Proofs.Try
section
open Go
def Zq(k:Nat)(q:Option (Nat × Option Tmp × List Tmp × List Nat))(e:Nat):Bool :=
 decide (e<k)&&(match q with
  | some y=>!(e==y.1)
  | none=>true)
def Vt:List (Option Bool)→Nat→List (Option Tmp × List Tmp × List Nat)→Option (Nat × Option Tmp × List Tmp × List Nat)→Bool
 | [],_,l,q=>l.isEmpty&&q.isNone
 | some true::fs,k,l,q =>
  match l with
  | []=>false
  | x::r=>x.2.2.all (Zq k q)&&r.all (Z0m k x)&&(match q with
   | some y=>Z0m k x y.2
   | none=>true)&&Vt fs (k+1) r q
 | some false::fs,k,l,q =>
  match l,q with
  | x::r,none=>Vt fs (k+1) r (some (k,x))
  | _,_=>false
 | none::fs,k,l,q =>
  match q with
  | some y=>y.2.2.2.all (Zq k q)&&l.all (fun x=>x.2.2.any fun e=>!Zq k q e)&&Vt fs k l none
  | none=>false
def HW(P:Program)(ops:Array Oper)(Q:Exit→Act→World→Prop)(S:World→Prop):List (Option Bool)→List Oper→Option Oper→Act→World→Prop
 | [],_,_,a,w=>Q .normal a w
 | some true::fs,l,q,a,w =>
  match l with
  | []=>False
  | o::r=>∃v,YieldsIf P ops S o v a∧HW P ops Q S fs r q (a.put o.dst v) w
 | some false::fs,l,q,a,w =>
  match l,q with
  | o::r,none=>HW P ops Q S fs r (some o) a w
  | _,_=>False
 | none::fs,l,q,a,w =>
  match q with
  | some o=>∀K':Act→World→Prop,Shut (∀a w,S w→(S w→HW P ops Q S fs l none a w)→K' a w)→if Region.wanted o (yielded ops a.tmps)=true then Oper.wp P o a w K' Q else K' (a.put o.dst undef) w
  | none=>False
section
variable {P:Program} {ops:Array Oper} {Q:Exit→Act→World→Prop} {S:World→Prop}
theorem HW.end_{l:List Oper}{q:Option Oper}{a:Act}{w:World}(h:Q .normal a w):HW P ops Q S [] l q a w:=h
theorem HW.take'{fs:List (Option Bool)}{o:Oper}{r:List Oper}{q:Option Oper}{a:Act}{w:World}(h:∃v,YieldsIf P ops S o v a∧HW P ops Q S fs r q (a.put o.dst v) w):HW P ops Q S (some true::fs) (o::r) q a w:=h
theorem HW.off{fs:List (Option Bool)}{o:Oper}{r:List Oper}{a:Act}{w:World}(h:HW P ops Q S fs r (some o) a w):HW P ops Q S (some false::fs) (o::r) none a w:=h
theorem HW.go{fs:List (Option Bool)}{o:Oper}{l:List Oper}{a:Act}{w:World}
  (h:∀K':Act→World→Prop,Shut (∀a w,S w→(S w→HW P ops Q S fs l none a w)→K' a w)→if Region.wanted o (yielded ops a.tmps)=true then Oper.wp P o a w K' Q else K' (a.put o.dst undef) w):HW P ops Q S (none::fs) l (some o) a w:=h
theorem Vc{k:Nat}{o oj:Oper}(h:Z0m k (Zo ops o) (Zo ops oj)=true)(hno:∀e∈oj.after,Region.binds .any e=true→e.on≠k):o.apart ops oj=true:=by
 unfold Z0m at h
 rw[Bool.or_eq_true] at h
 rcases h with h | h
 ·obtain⟨e,he,heq⟩:=List.mem_map.1 (List.contains_iff_mem.1 h)
  obtain⟨he1,he2⟩:=List.mem_filter.1 he
  exact absurd heq (hno e (Array.mem_toList_iff.1 he1) he2)
 ·exact h
theorem HW.run(hs:Region.noSelect ops=true)(hQ:∀c a d v w,Q (.panic c) (Act.put a d v) w→Q (.panic c) a w):∀(fs:List (Option Bool)) (k:Nat) (l:List Oper) (qi:Option (Nat × Oper)) (listed:Array Bool) (a:Act) (w:World),
  (∀j,l[j]?=ops[k+j]?)→k+l.length=ops.size→(∀p,qi=some p→ops[p.1]?=some p.2∧p.1<k)→listed.size=ops.size →
  (∀j,j<ops.size→(listed.getD j false=true↔Zq k (qi.map fun p=>(p.1,Zo ops p.2)) j=true)) →
  Vt fs k (l.map (Zo ops)) (qi.map fun p=>(p.1,Zo ops p.2))=true→S w→HW P ops Q S fs l (qi.map (·.2)) a w →
  wpAnyH P .any ops Q S (l.length+(qi.map fun _=>1).getD 0) listed a w
 | [],k,l,qi,listed,a,w,hl,hn,hq,hsz,hD,hB,hS,h=>by
  unfold Vt at hB
  rw[Bool.and_eq_true] at hB
  obtain rfl:l=[]:=by cases l with
   | nil=>rfl
   | cons o r=>simp at hB
  obtain rfl:qi=none:=by cases qi with
   | none=>rfl
   | some p=>simp at hB
  refine wpAnyH_done ?_ h _
  rw[List.eq_nil_iff_forall_not_mem]
  intro j hj
  obtain⟨h1,o,ho,_⟩:=mem_ready.1 hj
  have hlt:j<ops.size:=(Array.getElem?_eq_some_iff.1 ho).1
  have h2:=(hD j hlt).2 (by unfold Zq;simp at hn ⊢;omega)
  simp[hsz,hlt] at h1 h2
  rw[h1] at h2
  cases h2
 | some true::fs,k,[],qi,listed,a,w,hl,hn,hq,hsz,hD,hB,hS,h=>by unfold Vt at hB;simp at hB
 | some true::fs,k,o::r,qi,listed,a,w,hl,hn,hq,hsz,hD,hB,hS,h=>by
  have h0:ops[k]?=some o:=by simpa using(hl 0).symm
  have hk:k<ops.size:=(Array.getElem?_eq_some_iff.1 h0).1
  simp only[List.map_cons,Vt,Bool.and_eq_true,List.all_eq_true] at hB
  obtain⟨⟨⟨hd,hp⟩,hpq⟩,hB'⟩:=hB
  obtain⟨v,hy,hK⟩:=h
  have hnk:∀p,qi=some p→p.1≠k:=fun p hp=>Nat.ne_of_lt (hq p hp).2
  have hun:listed.getD k true=false:=by
   have h1:¬listed.getD k false=true:=fun e=>by
    have:=(hD k hk).1 e
    unfold Zq at this
    simp at this
   simp[hsz,hk] at h1 ⊢
   exact h1
  have hr:k∈Region.ready .any ops listed:=by
   refine mem_ready.2 ⟨hun,o,h0,fun e he hb=>?_⟩
   have hdn:=hd e.on (List.mem_map.2 ⟨e,List.mem_filter.2 ⟨Array.mem_toList_iff.2 he,hb⟩,rfl⟩)
   have hek:e.on<k:=by unfold Zq at hdn;simp at hdn;exact hdn.1
   exact(hD e.on (by omega)).2 hdn
  have hfree:∀j oj,ops[j]?=some oj→j≠k→listed.getD j true=false→(∀e∈oj.after,Region.binds .any e=true→e.on≠k)→o.apart ops oj=true:=by
   intro j oj hoj hne hju hno
   have hj:j<ops.size:=(Array.getElem?_eq_some_iff.1 hoj).1
   have hnd:¬Zq k (qi.map fun p=>(p.1,Zo ops p.2)) j=true:=fun e=>by
    have:=(hD j hj).2 e
    simp[hsz,hj] at this hju
    rw[this] at hju
    cases hju
   rcases Nat.lt_or_ge j k with g | g
   ·cases hqi:qi with
    | none=>rw[hqi] at hnd;exact absurd (by unfold Zq;simp[g]) hnd
    | some p =>
     rw[hqi] at hnd hpq
     have hjp:j=p.1:=by
      rcases Nat.decEq j p.1 with h | h
      ·exact absurd (by unfold Zq;simp[g,h]) hnd
      ·exact h
     have hpo:=(hq p hqi).1
     rw[←hjp,hoj] at hpo
     obtain rfl:=Option.some.inj hpo
     exact Vc hpq hno
   ·have hlj:=hl (j-k)
    rw[show k+(j-k)=j by omega,hoj,show j-k=(j-k-1)+1 by omega,List.getElem?_cons_succ] at hlj
    exact Vc (hp _ (List.mem_map.2 ⟨oj,List.mem_of_getElem? hlj,rfl⟩)) hno
  have ih:=HW.run hs hQ fs (k+1) r qi (listed.setIfInBounds k true) (a.put o.dst v) w (fun j=>by
    have:=hl (j+1)
    simpa [Nat.add_assoc,Nat.add_comm 1 j] using this) (by simp at hn;omega) (fun p hp=>⟨(hq p hp).1,Nat.lt_succ_of_lt (hq p hp).2⟩) (by simpa using hsz) (fun j hj=>by
    by_cases hjk:k=j
    ·subst hjk
     have h1:(listed.setIfInBounds k true).getD k false=true:=by simp[hsz,hk]
     refine⟨fun _=>?_,fun _=>h1⟩
     unfold Zq
     cases hqi:qi with
     | none=>simp
     | some p=>have:=hnk p hqi;simp;exact fun e=>this e.symm
    ·rw[getD_set_ne false hjk,hD j hj]
     unfold Zq
     have:decide (j<k+1)=decide (j<k):=decide_eq_decide.2 (by omega)
     rw[this]) hB' hS hK
  rw[show(o::r).length+(qi.map fun _=>1).getD 0=(r.length+(qi.map fun _=>1).getD 0)+1 by simp;omega]
  exact wpAnyH_first h0 (Region.noSelect_spec hs) (fun c a w=>hQ c a _ _ w) _ listed a w hfree hr hy hS ih
 | some false::fs,k,[],qi,listed,a,w,hl,hn,hq,hsz,hD,hB,hS,h=>by unfold Vt at hB;simp at hB
 | some false::fs,k,o::r,some p,listed,a,w,hl,hn,hq,hsz,hD,hB,hS,h=>by unfold Vt at hB;simp at hB
 | some false::fs,k,o::r,none,listed,a,w,hl,hn,hq,hsz,hD,hB,hS,h=>by
  have h0:ops[k]?=some o:=by simpa using(hl 0).symm
  have ih:=HW.run hs hQ fs (k+1) r (some (k,o)) listed a w (fun j=>by
    have:=hl (j+1)
    simpa [Nat.add_assoc,Nat.add_comm 1 j] using this) (by simp at hn;omega) (fun p hp=>by obtain rfl:=Option.some.inj hp;exact⟨h0,Nat.lt_succ_self _⟩) hsz (fun j hj=>by
    rw[hD j hj]
    unfold Zq
    simp
    omega) (by unfold Vt at hB;exact hB) hS h
  exact ih
 | none::fs,k,l,none,listed,a,w,hl,hn,hq,hsz,hD,hB,hS,h=>by unfold Vt at hB;simp at hB
 | none::fs,k,l,some p,listed,a,w,hl,hn,hq,hsz,hD,hB,hS,h=>by
  obtain⟨i,o⟩:=p
  obtain⟨h0,hik⟩:=hq (i,o) rfl
  have hi:i<ops.size:=(Array.getElem?_eq_some_iff.1 h0).1
  simp only[Option.map_some,Vt,Bool.and_eq_true,List.all_eq_true,List.any_eq_true] at hB
  obtain⟨⟨hd,hw⟩,hB'⟩:=hB
  have hDu:∀j,j<ops.size→¬Zq k (some (i,Zo ops o)) j=true→listed.getD j true=false:=fun j hj hnd=>by
   have h1:¬listed.getD j false=true:=fun e=>hnd ((hD j hj).1 e)
   simp[hsz,hj] at h1 ⊢
   exact h1
  have hr:i∈Region.ready .any ops listed:=by
   refine mem_ready.2 ⟨hDu i hi (by unfold Zq;simp),o,h0,fun e he hb=>?_⟩
   have hdn:=hd e.on (List.mem_map.2 ⟨e,List.mem_filter.2 ⟨Array.mem_toList_iff.2 he,hb⟩,rfl⟩)
   have hek:e.on<k:=by unfold Zq at hdn;simp at hdn;exact hdn.1
   exact(hD e.on (by omega)).2 hdn
  refine⟨fun hz=>(by rw[hz] at hr;cases hr),fun j hj=>?_⟩
  have hji:j=i:=by
   obtain⟨h1,oj,hoj,hall⟩:=mem_ready.1 hj
   have hjs:j<ops.size:=(Array.getElem?_eq_some_iff.1 hoj).1
   rcases Nat.decEq j i with hne | he
   case isTrue=>exact he
   exfalso
   have hnd:¬Zq k (some (i,Zo ops o)) j=true:=fun e=>by
    have:=(hD j hjs).2 e
    simp[hsz,hjs] at this h1
    rw[this] at h1
    cases h1
   have hjk:k≤j:=by
    rcases Nat.lt_or_ge j k with g | g
    ·exact absurd (by unfold Zq;simp[g,hne]) hnd
    ·exact g
   have hlj:=hl (j-k)
   rw[show k+(j-k)=j by omega,hoj] at hlj
   obtain⟨e,he,hen⟩:=hw _ (List.mem_map.2 ⟨oj,List.mem_of_getElem? hlj,rfl⟩)
   obtain⟨ea,hea,rfl⟩:=List.mem_map.1 he
   obtain⟨he1,he2⟩:=List.mem_filter.1 hea
   have hls:=hall ea (Array.mem_toList_iff.1 he1) he2
   have hlt:ea.on<ops.size:=by
    rcases Nat.lt_or_ge ea.on ops.size with g | g
    ·exact g
    ·rw[←hsz] at g;simp[Array.getElem?_eq_none g] at hls
   have h3:=(hD ea.on hlt).1 hls
   simp only[Option.map_some] at h3
   rw[h3] at hen
   cases hen
  subst hji
  refine wpOp_step h0 (fun K' hK=>h K' (fun a' w' hS' hW=>hK a' w' ⟨hS',?_⟩))
  exact HW.run hs hQ fs k l none (listed.setIfInBounds j true) a' w' hl hn (fun p hp=>by cases hp) (by simpa using hsz) (fun m hm=>by
   by_cases hmj:j=m
   ·subst hmj
    have h1:(listed.setIfInBounds j true).getD j false=true:=by simp[hsz,hi]
    exact⟨fun _=>by unfold Zq;simp[hik],fun _=>h1⟩
   ·rw[getD_set_ne false hmj,hD m hm]
    unfold Zq
    have:¬m=j:=fun e=>hmj e.symm
    simp[this]) hB' hS' (hW hS')
theorem U4{id:Nat}{a:Act}{w:World}{l:List Oper}(fs:List (Option Bool))(S:World→Prop)(hm:P.follows .mixedOrders=true)(hs:Region.noSelect l.toArray=true)
  (hB:Vt fs 0 (l.map (Zo l.toArray)) none=true) (hS:S w.drew) (h:HW P l.toArray (NoPanic Q) S fs l none a w.drew):(Code.region id l.toArray true).wp P Q a w:=by
 refine wp_region_noPanic (wp_region_held (S:=S) hm ?_)
 have:=HW.run hs (fun c a d v w h=>h) fs 0 l none (Array.replicate l.toArray.size false) a w.drew (by simp) (by simp) (fun p hp=>by cases hp) (by simp) (fun j hj=>by unfold Zq;simp at hj ⊢;simp[hj]) hB hS h
 simpa using this
end
end
section
open Go
inductive Pl where
 | fin
 | take (p:Pl)
 | off (p:Pl)
 | go1 (p:Pl)
 | go2 (p q:Pl)
abbrev Inf:=Option Tmp × List Tmp × List Nat
def Y0(k:Nat)(qs:List (Nat × Inf))(e:Nat):Bool:=decide (e<k)&&qs.all fun y=>!(e==y.1)
def Yg:Pl→Nat→List Inf→List (Nat × Inf)→Bool
 | .fin,_,l,qs=>l.isEmpty&&qs.isEmpty
 | .take p,k,l,qs =>
  match l with
  | []=>false
  | x::r=>x.2.2.all (Y0 k qs)&&r.all (Z0m k x)&&qs.all (fun y=>Z0m k x y.2)&&Yg p (k+1) r qs
 | .off p,k,l,qs =>
  match l with
  | []=>false
  | x::r=>Yg p (k+1) r (qs++[(k,x)])
 | .go1 p,k,l,qs =>
  match qs with
  | [y]=>y.2.2.2.all (Y0 k qs)&&l.all (fun x=>x.2.2.any fun e=>!Y0 k qs e)&&Yg p k l []
  | _=>false
 | .go2 p q,k,l,qs =>
  match qs with
  | [y,z]=>y.2.2.2.all (Y0 k qs)&&z.2.2.2.all (Y0 k qs)&&!(y.1==z.1)&&l.all (fun x=>x.2.2.any fun e=>!Y0 k qs e)&&Yg p k l [z]&&Yg q k l [y]
  | _=>false
def HP(P:Program)(ops:Array Oper)(Q:Exit→Act→World→Prop)(S:World→Prop):Pl→List Oper→List Oper→Act→World→Prop
 | .fin,_,_,a,w=>Q .normal a w
 | .take p,l,qs,a,w =>
  match l with
  | []=>False
  | o::r=>∃v,YieldsIf P ops S o v a∧HP P ops Q S p r qs (a.put o.dst v) w
 | .off p,l,qs,a,w =>
  match l with
  | []=>False
  | o::r=>HP P ops Q S p r (qs++[o]) a w
 | .go1 p,l,qs,a,w =>
  match qs with
  | [o]=>∀K':Act→World→Prop,Shut (∀a w,S w→(S w→HP P ops Q S p l [] a w)→K' a w)→if Region.wanted o (yielded ops a.tmps)=true then Oper.wp P o a w K' Q else K' (a.put o.dst undef) w
  | _=>False
 | .go2 p q,l,qs,a,w =>
  match qs with
  | [o,o']=>(∀K':Act→World→Prop,Shut (∀a w,S w→(S w→HP P ops Q S p l [o'] a w)→K' a w)→if Region.wanted o (yielded ops a.tmps)=true then Oper.wp P o a w K' Q else K' (a.put o.dst undef) w) ∧
    ∀K':Act→World→Prop,Shut (∀a w,S w→(S w→HP P ops Q S q l [o] a w)→K' a w)→if Region.wanted o' (yielded ops a.tmps)=true then Oper.wp P o' a w K' Q else K' (a.put o'.dst undef) w
  | _=>False
section
variable {P:Program} {ops:Array Oper} {Q:Exit→Act→World→Prop} {S:World→Prop}
theorem HP.end_{l qs:List Oper}{a:Act}{w:World}(h:Q .normal a w):HP P ops Q S .fin l qs a w:=h
theorem HP.take'{p:Pl}{o:Oper}{r qs:List Oper}{a:Act}{w:World}(h:∃v,YieldsIf P ops S o v a∧HP P ops Q S p r qs (a.put o.dst v) w):HP P ops Q S (.take p) (o::r) qs a w:=h
theorem HP.off{p:Pl}{o:Oper}{r qs:List Oper}{a:Act}{w:World}(h:HP P ops Q S p r (qs++[o]) a w):HP P ops Q S (.off p) (o::r) qs a w:=h
theorem HP.go1{p:Pl}{o:Oper}{l:List Oper}{a:Act}{w:World}
  (h:∀K':Act→World→Prop,Shut (∀a w,S w→(S w→HP P ops Q S p l [] a w)→K' a w)→if Region.wanted o (yielded ops a.tmps)=true then Oper.wp P o a w K' Q else K' (a.put o.dst undef) w):HP P ops Q S (.go1 p) l [o] a w:=h
def Yb(ops:Array Oper)(qs:List (Nat × Oper)):List (Nat × Inf):=qs.map fun p=>(p.1,Zo ops p.2)
theorem Zb{k:Nat}{qs:List (Nat × Oper)}{e:Nat}:Y0 k (Yb ops qs) e=true↔e<k∧∀p∈qs,e≠p.1:=by
 unfold Y0 Yb
 simp
structure HI(ops:Array Oper)(k:Nat)(l:List Oper)(qs:List (Nat × Oper))(listed:Array Bool):Prop where
 rest:∀j,l[j]?=ops[k+j]?
 len:k+l.length=ops.size
 put:∀p∈qs,ops[p.1]?=some p.2∧p.1<k
 size:listed.size=ops.size
 come:∀j,j<ops.size→(listed.getD j false=true↔Y0 k (Yb ops qs) j=true)
theorem HI.un{k:Nat}{l:List Oper}{qs:List (Nat × Oper)}{listed:Array Bool}(h:HI ops k l qs listed){j:Nat}(hj:j<ops.size)(hd:¬Y0 k (Yb ops qs) j=true):listed.getD j true=false:=by
 have h1:¬listed.getD j false=true:=fun e=>hd ((h.come j hj).1 e)
 have:=h.size
 simp[this,hj] at h1 ⊢
 exact h1
theorem HI.deps{k:Nat}{l:List Oper}{qs:List (Nat × Oper)}{listed:Array Bool}(h:HI ops k l qs listed)(hk:k≤ops.size){o:Oper}(hd:(Zo ops o).2.2.all (Y0 k (Yb ops qs))=true):∀e∈o.after,Region.binds .any e=true→listed.getD e.on false=true:=by
 intro e he hb
 have hdn:=List.all_eq_true.1 hd e.on (List.mem_map.2 ⟨e,List.mem_filter.2 ⟨Array.mem_toList_iff.2 he,hb⟩,rfl⟩)
 have hek:=(Zb.1 hdn).1
 exact(h.come e.on (by omega)).2 hdn
theorem HI.waits{k:Nat}{l:List Oper}{qs:List (Nat × Oper)}{listed:Array Bool}(h:HI ops k l qs listed)(hw:(l.map (Zo ops)).all (fun x=>x.2.2.any fun e=>!Y0 k (Yb ops qs) e)=true) :
  ∀j∈Region.ready .any ops listed,∃p∈qs,j=p.1:=by
 intro j hj
 obtain⟨h1,oj,hoj,hall⟩:=mem_ready.1 hj
 have hjs:j<ops.size:=(Array.getElem?_eq_some_iff.1 hoj).1
 have hnd:¬Y0 k (Yb ops qs) j=true:=fun e=>by
  have:=(h.come j hjs).2 e
  have hsz:=h.size
  simp[hsz,hjs] at this h1
  rw[h1] at this
  cases this
 rcases Nat.lt_or_ge j k with g | g
 ·refine Classical.byContradiction fun hne=>hnd (Zb.2 ⟨g,fun p hp e=>hne ⟨p,hp,e⟩⟩)
 ·exfalso
  have hlj:=h.rest (j-k)
  rw[show k+(j-k)=j by omega,hoj] at hlj
  have hx:=List.all_eq_true.1 hw _ (List.mem_map.2 ⟨oj,List.mem_of_getElem? hlj,rfl⟩)
  obtain⟨e,he,hen⟩:=List.any_eq_true.1 hx
  obtain⟨ea,hea,rfl⟩:=List.mem_map.1 he
  obtain⟨he1,he2⟩:=List.mem_filter.1 hea
  have hls:=hall ea (Array.mem_toList_iff.1 he1) he2
  have hlt:ea.on<ops.size:=by
   rcases Nat.lt_or_ge ea.on ops.size with g | g
   ·exact g
   ·have hsz:=h.size
    rw[←hsz] at g;simp[Array.getElem?_eq_none g] at hls
  have h3:=(h.come ea.on hlt).1 hls
  rw[h3] at hen
  cases hen
theorem HI.set{k k':Nat}{l l':List Oper}{qs qs':List (Nat × Oper)}{listed:Array Bool}(h:HI ops k l qs listed){i:Nat}(hi:i<ops.size)(hr:∀j,l'[j]?=ops[k'+j]?)(hlen:k'+l'.length=ops.size)(hput:∀p∈qs',ops[p.1]?=some p.2∧p.1<k')
  (hd:∀j,Y0 k' (Yb ops qs') j=true↔(j=i∨Y0 k (Yb ops qs) j=true)):HI ops k' l' qs' (listed.setIfInBounds i true):=by
 refine⟨hr,hlen,hput,by simpa using h.size,fun j hj=>?_⟩
 rw[hd]
 by_cases q:i=j
 ·subst q
  have h1:(listed.setIfInBounds i true).getD i false=true:=by simp[h.size,hi]
  exact⟨fun _=>.inl rfl,fun _=>h1⟩
 ·rw[getD_set_ne false q,h.come j hj]
  exact⟨fun x=>.inr x,fun x=>x.resolve_left fun e=>q e.symm⟩
theorem HP.run(hs:Region.noSelect ops=true)(hQ:∀c a d v w,Q (.panic c) (Act.put a d v) w→Q (.panic c) a w):∀(p:Pl) (k:Nat) (l:List Oper) (qs:List (Nat × Oper)) (listed:Array Bool) (a:Act) (w:World),
  HI ops k l qs listed→Yg p k (l.map (Zo ops)) (Yb ops qs)=true→S w→HP P ops Q S p l (qs.map (·.2)) a w→wpAnyH P .any ops Q S (l.length+qs.length) listed a w
 | .fin,k,l,qs,listed,a,w,hI,hB,hS,h=>by
  simp only[Yg,Bool.and_eq_true,List.isEmpty_iff,List.map_eq_nil_iff,Yb] at hB
  obtain⟨rfl,rfl⟩:=hB
  refine wpAnyH_done ?_ h _
  rw[List.eq_nil_iff_forall_not_mem]
  intro j hj
  obtain⟨q,hq,_⟩:=hI.waits (by simp) j hj
  simp at hq
 | .take p,k,[],qs,listed,a,w,hI,hB,hS,h=>by simp[Yg] at hB
 | .take p,k,o::r,qs,listed,a,w,hI,hB,hS,h=>by
  have h0:ops[k]?=some o:=by simpa using(hI.rest 0).symm
  have hk:k<ops.size:=(Array.getElem?_eq_some_iff.1 h0).1
  simp only[List.map_cons,Yg,Bool.and_eq_true] at hB
  obtain⟨⟨⟨hd,hp⟩,hpq⟩,hB'⟩:=hB
  obtain⟨v,hy,hK⟩:=h
  have hnk:∀q∈qs,q.1≠k:=fun q hq=>Nat.ne_of_lt (hI.put q hq).2
  have hkd:¬Y0 k (Yb ops qs) k=true:=fun e=>by have:=(Zb.1 e).1;omega
  have hun:=hI.un hk hkd
  have hr:k∈Region.ready .any ops listed:=mem_ready.2 ⟨hun,o,h0,hI.deps (by omega) hd⟩
  have hfree:∀j oj,ops[j]?=some oj→j≠k→listed.getD j true=false→(∀e∈oj.after,Region.binds .any e=true→e.on≠k)→o.apart ops oj=true:=by
   intro j oj hoj hne hju hno
   have hj:j<ops.size:=(Array.getElem?_eq_some_iff.1 hoj).1
   have hsz:=hI.size
   have hnd:¬Y0 k (Yb ops qs) j=true:=fun e=>by
    have:=(hI.come j hj).2 e
    simp[hsz,hj] at this hju
    rw[this] at hju
    cases hju
   rcases Nat.lt_or_ge j k with g | g
   ·obtain⟨q,hq,e⟩:∃q∈qs,j=q.1:=Classical.byContradiction fun hx=>hnd (Zb.2 ⟨g,fun q hq e=>hx ⟨q,hq,e⟩⟩)
    have hqo:=(hI.put q hq).1
    rw[←e,hoj] at hqo
    have e2:=Option.some.inj hqo
    have:=List.all_eq_true.1 hpq (q.1,Zo ops q.2) (List.mem_map.2 ⟨q,hq,rfl⟩)
    rw[←e2] at this
    exact Vc this hno
   ·have hlj:=hI.rest (j-k)
    rw[show k+(j-k)=j by omega,hoj,show j-k=(j-k-1)+1 by omega,List.getElem?_cons_succ] at hlj
    exact Vc (List.all_eq_true.1 hp _ (List.mem_map.2 ⟨oj,List.mem_of_getElem? hlj,rfl⟩)) hno
  have hlen:=hI.len
  have hI':HI ops (k+1) r qs (listed.setIfInBounds k true):=hI.set hk (fun j=>by
    have:=hI.rest (j+1)
    simpa [Nat.add_assoc,Nat.add_comm 1 j] using this) (by simp at hlen;omega) (fun q hq=>⟨(hI.put q hq).1,Nat.lt_succ_of_lt (hI.put q hq).2⟩) (fun j=>by
    rw[Zb,Zb]
    constructor
    ·rintro⟨h1,h2⟩
     by_cases q:j=k
     ·exact .inl q
     ·exact .inr ⟨by omega,h2⟩
    ·rintro(rfl | ⟨h1,h2⟩)
     ·exact⟨by omega,fun q hq e=>hnk q hq e.symm⟩
     ·exact⟨by omega,h2⟩)
  have ih:=HP.run hs hQ p (k+1) r qs (listed.setIfInBounds k true) (a.put o.dst v) w hI' hB' hS hK
  rw[show(o::r).length+qs.length=(r.length+qs.length)+1 by simp;omega]
  exact wpAnyH_first h0 (Region.noSelect_spec hs) (fun c a w=>hQ c a _ _ w) _ listed a w hfree hr hy hS ih
 | .off p,k,[],qs,listed,a,w,hI,hB,hS,h=>by simp[Yg] at hB
 | .off p,k,o::r,qs,listed,a,w,hI,hB,hS,h=>by
  have h0:ops[k]?=some o:=by simpa using(hI.rest 0).symm
  have hlen:=hI.len
  have hI':HI ops (k+1) r (qs++[(k,o)]) listed:=⟨fun j=>by
    have:=hI.rest (j+1)
    simpa [Nat.add_assoc,Nat.add_comm 1 j] using this,by simp at hlen;omega,fun q hq=>by
    rcases List.mem_append.1 hq with hq | hq
    ·exact⟨(hI.put q hq).1,Nat.lt_succ_of_lt (hI.put q hq).2⟩
    ·simp at hq;subst hq;exact⟨h0,Nat.lt_succ_self _⟩,hI.size,fun j hj=>by
    rw[hI.come j hj,Zb,Zb]
    constructor
    ·rintro⟨h1,h2⟩
     refine⟨by omega,fun q hq=>?_⟩
     rcases List.mem_append.1 hq with hq | hq
     ·exact h2 q hq
     ·simp at hq;subst hq;show j≠k;omega
    ·rintro⟨h1,h2⟩
     have h3:=h2 (k,o) (by simp)
     exact⟨by simp only at h3;omega,fun q hq=>h2 q (List.mem_append_left _ hq)⟩⟩
  have hB':Yg p (k+1) (r.map (Zo ops)) (Yb ops (qs++[(k,o)]))=true:=by
   simp only[List.map_cons,Yg] at hB
   simpa [Yb] using hB
  have ih:=HP.run hs hQ p (k+1) r (qs++[(k,o)]) listed a w hI' hB' hS (by simpa [HP] using h)
  rw[show(o::r).length+qs.length=r.length+(qs++[(k,o)]).length by simp;omega]
  exact ih
 | .go1 p,k,l,[],listed,a,w,hI,hB,hS,h=>by simp[Yg,Yb] at hB
 | .go1 p,k,l,[(i,o)],listed,a,w,hI,hB,hS,h=>by
  obtain⟨h0,hik⟩:=hI.put (i,o) (by simp)
  simp only at h0 hik
  have hi:i<ops.size:=(Array.getElem?_eq_some_iff.1 h0).1
  simp only[Yg,Yb,List.map_cons,List.map_nil,Bool.and_eq_true] at hB
  obtain⟨⟨hd,hw⟩,hB'⟩:=hB
  have hkl:=hI.len
  have hr:i∈Region.ready .any ops listed:=mem_ready.2 ⟨hI.un hi fun e=>by have:=(Zb.1 e).2 (i,o) (by simp);exact this rfl,o,h0,hI.deps (by omega) hd⟩
  refine⟨fun hz=>(by rw[hz] at hr;cases hr),fun j hj=>?_⟩
  obtain⟨q,hq,hji⟩:=hI.waits hw j hj
  simp at hq
  subst hq
  simp only at hji
  subst hji
  refine wpOp_step h0 (fun K' hK=>h K' (fun a' w' hS' hW=>hK a' w' ⟨hS',?_⟩))
  have hI':HI ops k l [] (listed.setIfInBounds j true):=hI.set hi hI.rest hI.len (by simp) (fun m=>by
   rw[Zb,Zb]
   constructor
   ·rintro⟨h1,_⟩
    by_cases q:m=j
    ·exact .inl q
    ·exact .inr ⟨h1,fun p hp=>by simp at hp;subst hp;exact q⟩
   ·rintro(rfl | ⟨h1,_⟩)
    ·exact⟨hik,by simp⟩
    ·exact⟨h1,by simp⟩)
  exact HP.run hs hQ p k l [] _ a' w' hI' hB' hS' (hW hS')
 | .go1 p,k,l,_::_::_,listed,a,w,hI,hB,hS,h=>by simp[Yg,Yb] at hB
 | .go2 p q,k,l,[],listed,a,w,hI,hB,hS,h=>by simp[Yg,Yb] at hB
 | .go2 p q,k,l,[_],listed,a,w,hI,hB,hS,h=>by simp[Yg,Yb] at hB
 | .go2 p q,k,l,[(i,o),(i',o')],listed,a,w,hI,hB,hS,h=>by
  obtain⟨h0,hik⟩:=hI.put (i,o) (by simp)
  obtain⟨h0',hik'⟩:=hI.put (i',o') (by simp)
  simp only at h0 hik h0' hik'
  have hi:i<ops.size:=(Array.getElem?_eq_some_iff.1 h0).1
  have hi':i'<ops.size:=(Array.getElem?_eq_some_iff.1 h0').1
  simp only[Yg,Yb,List.map_cons,List.map_nil,Bool.and_eq_true] at hB
  obtain⟨⟨⟨⟨⟨hd,hd'⟩,hne⟩,hw⟩,hB1⟩,hB2⟩:=hB
  have hne':i≠i':=by simpa using hne
  have hkl:=hI.len
  have hr:i∈Region.ready .any ops listed:=mem_ready.2 ⟨hI.un hi fun e=>by have:=(Zb.1 e).2 (i,o) (by simp);exact this rfl,o,h0,hI.deps (by omega) hd⟩
  refine⟨fun hz=>(by rw[hz] at hr;cases hr),fun j hj=>?_⟩
  obtain⟨x,hx,hji⟩:=hI.waits hw j hj
  simp at hx
  rcases hx with rfl | rfl
  ·simp only at hji
   subst hji
   refine wpOp_step h0 (fun K' hK=>h.1 K' (fun a' w' hS' hW=>hK a' w' ⟨hS',?_⟩))
   have hI':HI ops k l [(i',o')] (listed.setIfInBounds j true):=hI.set hi hI.rest hI.len (fun p hp=>hI.put p (by simp at hp;simp[hp])) (fun m=>by
    rw[Zb,Zb]
    constructor
    ·rintro⟨h1,h2⟩
     by_cases q:m=j
     ·exact .inl q
     ·exact .inr ⟨h1,fun p hp=>by
       simp at hp
       rcases hp with rfl | rfl
       ·exact q
       ·exact h2 _ (by simp)⟩
    ·rintro(rfl | ⟨h1,h2⟩)
     ·exact⟨hik,fun p hp=>by simp at hp;subst hp;exact hne'⟩
     ·exact⟨h1,fun p hp=>h2 p (by simp at hp;simp[hp])⟩)
   have ih:=HP.run hs hQ p k l [(i',o')] _ a' w' hI' hB1 hS' (hW hS')
   exact ih
  ·simp only at hji
   subst hji
   refine wpOp_step h0' (fun K' hK=>h.2 K' (fun a' w' hS' hW=>hK a' w' ⟨hS',?_⟩))
   have hI':HI ops k l [(i,o)] (listed.setIfInBounds j true):=hI.set hi' hI.rest hI.len (fun p hp=>hI.put p (by simp at hp;simp[hp])) (fun m=>by
    rw[Zb,Zb]
    constructor
    ·rintro⟨h1,h2⟩
     by_cases q:m=j
     ·exact .inl q
     ·exact .inr ⟨h1,fun p hp=>by
       simp at hp
       rcases hp with rfl | rfl
       ·exact h2 _ (by simp)
       ·exact q⟩
    ·rintro(rfl | ⟨h1,h2⟩)
     ·exact⟨hik',fun p hp=>by simp at hp;subst hp;exact fun e=>hne' e.symm⟩
     ·exact⟨h1,fun p hp=>h2 p (by simp at hp;simp[hp])⟩)
   have ih:=HP.run hs hQ q k l [(i,o)] _ a' w' hI' hB2 hS' (hW hS')
   exact ih
 | .go2 p q,k,l,_::_::_::_,listed,a,w,hI,hB,hS,h=>by simp[Yg,Yb] at hB
theorem Y2{id:Nat}{a:Act}{w:World}{l:List Oper}(p:Pl)(S:World→Prop)(hm:P.follows .mixedOrders=true)(hs:Region.noSelect l.toArray=true)
  (hB:Yg p 0 (l.map (Zo l.toArray)) []=true) (hS:S w.drew) (h:HP P l.toArray (NoPanic Q) S p l [] a w.drew):(Code.region id l.toArray true).wp P Q a w:=by
 refine wp_region_noPanic (wp_region_held (S:=S) hm ?_)
 have:=HP.run hs (fun c a d v w h=>h) p 0 l [] (Array.replicate l.toArray.size false) a w.drew ⟨by simp,by simp,by simp,by simp,fun j hj=>by rw[Zb];simp at hj ⊢;simp[hj]⟩ hB hS h
 simpa using this
end
end
theorem Z4u(R:Rq)(w:World):Calls prog 98 #[Ug R] w fun e w'=>e=.returned (.bool (R.md != 0))∧Nw w w':=by
 obtain⟨a,b,m,n,s⟩:=R
 unfold Ug
 go_enter func98,ntmps98
 go_wp2
 go_ret
 exact⟨rfl,(Nw.refl _).alloc _⟩
theorem Z4v(R:Rq)(w:World):Calls prog 42 #[Ug R] w fun e w'=>e=.returned (.bool (decide (0<R.sn)))∧Nw w w':=by
 obtain⟨a,b,m,n,s⟩:=R
 unfold Ug
 go_enter func42,ntmps42
 go_wp2
 go_ret
 exact⟨rfl,(Nw.refl _).alloc _⟩
def Yr(w:World)(f:Value)(p:Rq→Bool):Prop:=∃(g:Nat) (lb:Array Value),f=.func (.func g) #[] lb∧(∀args w,(callFunc g args).run prog w=.ok (.enter g args) w)∧∀(R:Rq) (w1:World),Nw w w1→Calls prog g (#[Ug R]++lb) w1 fun e w'=>e=.returned (.bool (p R))∧Nw w1 w'
theorem Yr.nw{w w':World}{f:Value}{p:Rq→Bool}(h:Yr w f p)(g:Nw w w'):Yr w' f p:=by
 obtain⟨k,lb,e,eg,hc⟩:=h
 exact⟨k,lb,e,eg,fun R w1 h1=>hc R w1 (g.trans h1)⟩
theorem Z4w(i:Int)(R:Rq)(p:Nat)(w:World)(h:w.cell? ⟨p,0,none⟩=some (.int .i64 i)):Calls prog 79 #[Ug R,.pointer (some ⟨p,0,none⟩)] w fun e w'=>e=.returned (.bool (R.id==i))∧Nw w w':=by
 obtain⟨a,b,m,n,s⟩:=R
 unfold Ug
 have hp:=World.block_lt_of_cell? _ _ h
 go_enter func79,ntmps79
 go_wp2
 go_ret
 exact⟨rfl,(Nw.refl _).alloc _⟩
theorem Z6m(i:Int)(w:World):Calls prog 58 #[.int .i64 i] w fun e w'=>∃p,e=.returned (.func (.func 79) #[] #[.pointer (some ⟨p,0,none⟩)])∧Nw w w'∧w'.cell? ⟨p,0,none⟩=some (.int .i64 i):=by
 go_enter func58,ntmps58
 go_wp2
 go_ret
 exact⟨_,rfl,(Nw.refl _).alloc _,Z2 (Z5 w _)⟩
theorem Yr.withID{w:World}{i:Int}{p:Nat}(h:w.cell? ⟨p,0,none⟩=some (.int .i64 i)):Yr w (.func (.func 79) #[] #[.pointer (some ⟨p,0,none⟩)]) (fun R=>R.id==i) :=
 ⟨_,_,rfl,enters_of func79 (by kernel_rfl) rfl,fun R w1 g=>Z4w i R p w1 (g.kp h)⟩
theorem V4{w:World}{B:Nat}{o:Obj}(hb:w.heap[B]?=some o):B<w.heap.size:=hlt hb
def Z9b(q:List Rq)(id i:Int):Prop:=(i = -1∧fnd q id=none)∨∃k:Nat,i=k∧∃h:k<q.length,fnd q id=some q[k]
def Z8r(q:List Rq)(i:Int):Prop:=(i = -1∧∀a∈q,a.md≠0)∨∃k:Nat,i=k∧∃h:k<q.length,q[k].md=0∧∀a∈q.take k,a.md≠0
theorem Yx{α:Type}{l:List α}{k:Nat}(hk:k<l.length){x:α}(hx:x∈l.take (k+1)):x∈l.take k∨x=l[k]:=by
 rw[List.take_add_one,List.getElem?_eq_getElem hk] at hx
 rcases List.mem_append.1 hx with h | h
 ·exact .inl h
 ·simp at h;exact .inr h
theorem Z49(t r W:Int)(v:Value)(q:List Rq)(w:World)(hl:q.length≤1000)(h:Y7 w v q) :
  Calls prog 18 #[Ua t r v W] w fun e w'=>∃i,e=.returned (.int .i64 i)∧Nw w w'∧Z8r q i:=by
 unfold Ua
 obtain⟨a,c,rfl,⟨rfl,_⟩ | ⟨b,o,rfl,hc⟩⟩:=h
 ·go_enter func18,ntmps18
  go_wp2
  refine wp_loop_rounds 1 ?_
  repeat (rw[rounds_succ];go_wp2)
  go_ret
  exact⟨-1,rfl,(Nw.refl _).alloc _,.inl ⟨rfl,by simp⟩⟩
 ·have HC:=hD0 hc
  clear hc
  go_enter func18,ntmps18
  go_wp2
  have hB:=Z1d.made w t r (.slice (some ⟨b,o,none⟩) q.length c) W 27
  have hN:Nw w (w.alloc (.cells #[.int .i64 t,.int .i64 r,.slice (some ⟨b,o,none⟩) q.length c,.int .i64 W] 27)):=(Nw.refl w).alloc _
  obtain⟨p,hp⟩:∃p,w.heap.size=p:=⟨_,rfl⟩
  rw[hp] at hB
  rw[hp]
  clear hp
  generalize w.alloc (.cells #[.int .i64 t,.int .i64 r,.slice (some ⟨b,o,none⟩) q.length c,.int .i64 W] 27)=z at *
  have HZ:=hD0 (aI0 hB hN)
  have HR:=hD0 (HC.out.nw hN)
  clear hB hN HC
  go_loopw [3] (fun i wr=>∃k:Nat,k≤q.length∧i=.int .i64 k∧(∀a∈q.take k,a.md≠0)∧Nw z wr) (fun i _=>q.length-(intOf i).toNat)
  case atStart=>exact⟨0,Nat.zero_le _,rfl,by simp,Nw.refl _⟩
  case round =>
   obtain⟨k,hk,rfl,hf,hG⟩:=hrel
   have hb:=HZ.out.1.nw hG
   have h0:=hb.c0
   have h1:=hb.c1
   have h2:=hb.c2
   have h3:=hb.c3
   clear hb
   by_cases hlt:k<q.length
   ·have hce:=(HR.out.nw hG).cell k hlt
    have HA2:=hD0 (show q[k].md=0→Z8r q (k:Int) from fun e=>.inr ⟨k,rfl,hlt,e,hf⟩)
    have HS:=hD0 (show q[k].md≠0→∀a∈q.take (k+1),a.md≠0 from fun e a ha=>by
     rcases Yx hlt ha with h | rfl
     ·exact hf a h
     ·exact e)
    generalize q[k]=R at *
    obtain⟨b0,b1,b2,b3,b4⟩:=R
    have e0:=hce 0 _ rfl
    have e1:=hce 1 _ rfl
    have e2:=hce 2 _ rfl
    have e3:=hce 3 _ rfl
    have e4:=hce 4 _ rfl
    simp only[Nat.add_zero] at e0
    have HG:=hD0 hG
    clear hce hf hG
    go_wp2_with fail
    refine(Vj _ _ _ _ _ _).mono ?_
    rintro e w2 ⟨rfl,g2⟩
    have HG3:=hD0 (HG.out.trans g2)
    have n0:=g2.kp h0
    have n1:=g2.kp h1
    have n2:=g2.kp h2
    have n3:=g2.kp h3
    clear h0 h1 h2 h3 e0 e1 e2 e3 e4 g2 HG
    by_cases he:b2=0
    ·have d:(b2 != 0)=false:=by simpa using he
     have HR2:=hD0 (HA2.out he)
     clear he HA2 HS
     go_wp2
     go_ret
     exact⟨_,rfl,HZ.out.2.trans HG3.out,HR2.out⟩
    ·have d:(b2 != 0)=true:=by simpa using he
     have HS2:=hD0 (HS.out he)
     clear he HS HA2
     go_wp2
     go_roundw
     case rel=>exact⟨k+1,by omega,by go_num,HS2.out,HG3.out⟩
     case measure=>simp[intOf];omega
   ·obtain rfl:k=q.length:=by omega
    rw[List.take_length] at hf
    have HF:=hD0 hf
    have HG:=hD0 hG
    clear hf hG
    go_wp2
    go_ret
    exact⟨-1,rfl,HZ.out.2.trans HG.out,.inl ⟨rfl,HF.out⟩⟩
def Z59(q:List Rq)(m but:Int):Prop:=∀k (h:k<q.length),(k:Int)≠but→q[k].md≠0→Vq q[k].md m=true
theorem Z8a(t r W m but:Int)(v:Value)(q:List Rq)(w:World)(hl:q.length≤1000)(h:Y7 w v q) :
  Calls prog 19 #[Ua t r v W,.int .i64 m,.int .i64 but] w fun e w'=>∃f,e=.returned (.bool f)∧Nw w w'∧(f=true↔Z59 q m but):=by
 unfold Ua
 obtain⟨a,c,rfl,⟨rfl,_⟩ | ⟨b,o,rfl,hc⟩⟩:=h
 ·go_enter func19,ntmps19
  go_wp2
  refine wp_loop_rounds 1 ?_
  repeat (rw[rounds_succ];go_wp2)
  go_ret
  exact⟨true,rfl,(Nw.refl _).alloc _,by simp[Z59]⟩
 ·have HC:=hD0 hc
  clear hc
  go_enter func19,ntmps19
  go_wp2
  have hB:=Z1d.made w t r (.slice (some ⟨b,o,none⟩) q.length c) W 27
  have hN:Nw w (w.alloc (.cells #[.int .i64 t,.int .i64 r,.slice (some ⟨b,o,none⟩) q.length c,.int .i64 W] 27)):=(Nw.refl w).alloc _
  obtain⟨p,hp⟩:∃p,w.heap.size=p:=⟨_,rfl⟩
  rw[hp] at hB
  rw[hp]
  clear hp
  generalize w.alloc (.cells #[.int .i64 t,.int .i64 r,.slice (some ⟨b,o,none⟩) q.length c,.int .i64 W] 27)=z at *
  have HZ:=hD0 (aI0 hB hN)
  have HR:=hD0 (HC.out.nw hN)
  clear hB hN HC
  go_loopw [7] (fun i wr=>∃k:Nat,k≤q.length∧i=.int .i64 k∧(∀j (h:j<q.length),j<k→(j:Int)≠but→q[j].md≠0→Vq q[j].md m=true)∧Nw z wr) (fun i _=>q.length-(intOf i).toNat)
  case atStart=>exact⟨0,Nat.zero_le _,rfl,fun j _ h=>absurd h (Nat.not_lt_zero _),Nw.refl _⟩
  case round =>
   obtain⟨k,hk,rfl,hf,hG⟩:=hrel
   have hb:=HZ.out.1.nw hG
   have h0:=hb.c0
   have h1:=hb.c1
   have h2:=hb.c2
   have h3:=hb.c3
   clear hb
   by_cases hlt:k<q.length
   ·have hRw:=HR.out.nw hG
    have hce:=hRw.cell k hlt
    have HA2:=hD0 (show(k:Int)≠but→q[k].md≠0→Vq q[k].md m=false→¬Z59 q m but from fun e1 e2 e3 h=>by
     have:=h k hlt e1 e2
     rw[e3] at this;cases this)
    have HS:=hD0 (show((k:Int)≠but→q[k].md≠0→Vq q[k].md m=true)→∀j (h:j<q.length),j<k+1→(j:Int)≠but→q[j].md≠0→Vq q[j].md m=true from fun e j hj hjk=>by
     rcases Nat.lt_or_ge j k with g | g
     ·exact hf j hj g
     ·obtain rfl:j=k:=by omega
      exact e)
    have hCP:=fun w=>Z89 q[k].md m w
    generalize q[k]=R at *
    obtain⟨b0,b1,b2,b3,b4⟩:=R
    have e0:=hce 0 _ rfl
    have e1:=hce 1 _ rfl
    have e2:=hce 2 _ rfl
    have e3:=hce 3 _ rfl
    have e4:=hce 4 _ rfl
    simp only[Nat.add_zero] at e0
    have HG:=hD0 hG
    simp only at hCP
    obtain⟨x,hx⟩:∃x,Vq b2 m=x:=⟨_,rfl⟩
    simp only at HA2 HS
    have CP:=hD0 hCP
    clear hce hf hG hCP hRw
    by_cases hbu:(k:Int)=but
    ·have d:((k:Int) != but)=false:=by simpa using hbu
     have HS2:=hD0 (HS.out (fun e=>absurd hbu e))
     clear hbu HS HA2 CP hx
     go_wp2
     go_roundw
     case rel=>exact⟨k+1,by omega,by go_num,HS2.out,HG.out⟩
     case measure=>simp[intOf];omega
    ·have d:((k:Int) != but)=true:=by simpa using hbu
     by_cases he:b2=0
     ·have d2:(b2 != 0)=false:=by simpa using he
      have HS2:=hD0 (HS.out (fun _ e=>absurd he e))
      clear hbu he HS HA2 CP hx
      go_wp2_with fail
      refine(Vj _ _ _ _ _ _).mono ?_
      rintro e w2 ⟨rfl,g2⟩
      have HG3:=hD0 (HG.out.trans g2)
      have n0:=g2.kp h0
      have n1:=g2.kp h1
      have n2:=g2.kp h2
      have n3:=g2.kp h3
      clear h0 h1 h2 h3 e0 e1 e2 e3 e4 g2 HG
      go_wp2
      go_roundw
      case rel=>exact⟨k+1,by omega,by go_num,HS2.out,HG3.out⟩
      case measure=>simp[intOf];omega
     ·have d2:(b2 != 0)=true:=by simpa using he
      have HA3:=hD0 (HA2.out hbu he)
      have HS3:=hD0 (show Vq b2 m=true→_ from fun c=>HS.out (fun _ _=>c))
      clear hbu he HS HA2
      go_wp2_with fail
      refine(Vj _ _ _ _ _ _).mono ?_
      rintro e w2 ⟨rfl,g2⟩
      replace h0:=g2.kp h0
      replace h1:=g2.kp h1
      replace h2:=g2.kp h2
      replace h3:=g2.kp h3
      replace e0:=g2.kp e0
      replace e1:=g2.kp e1
      replace e2:=g2.kp e2
      replace e3:=g2.kp e3
      replace e4:=g2.kp e4
      have HG3:=hD0 (HG.out.trans g2)
      clear g2 HG
      go_wp2_with fail
      refine(CP.out _).mono ?_
      rintro e w3 ⟨rfl,g3⟩
      have HG4:=hD0 (HG3.out.trans g3)
      have n0:=g3.kp h0
      have n1:=g3.kp h1
      have n2:=g3.kp h2
      have n3:=g3.kp h3
      clear h0 h1 h2 h3 e0 e1 e2 e3 e4 g3 HG3 CP
      cases x
      ·have HA4:=hD0 (HA3.out hx)
       clear HA3 HS3
       go_wp2
       go_ret
       exact⟨false,rfl,HZ.out.2.trans HG4.out,by simpa using HA4.out⟩
      ·have HS4:=hD0 (HS3.out hx)
       clear HA3 HS3
       go_wp2
       go_roundw
       case rel=>exact⟨k+1,by omega,by go_num,HS4.out,HG4.out⟩
       case measure=>simp[intOf];omega
   ·obtain rfl:k=q.length:=by omega
    have HF:=hD0 (show Z59 q m but from fun k hk=>hf k hk hk)
    have HG:=hD0 hG
    clear hf hG
    go_wp2
    go_ret
    exact⟨true,rfl,HZ.out.2.trans HG.out,by simpa using HF.out⟩
def UpT(q:List Rq)(k:Nat)(i:Int):Prop:=(i = -1∧∀a∈q.take k,¬Z2r a)∨∃m:Nat,i=m∧m<k∧∃h:m<q.length,Z2r q[m]∧∀a∈q.take k,Z2r a→q[m].sn≤a.sn
theorem UpT.no{q:List Rq}{k:Nat}{i:Int}(h:UpT q k i)(hk:k<q.length)(hn:¬Z2r q[k]):UpT q (k+1) i:=by
 rcases h with⟨rfl,h⟩ | ⟨m,rfl,hm,hml,hu,h⟩
 ·refine .inl ⟨rfl,fun a ha=>?_⟩
  rcases Yx hk ha with q1 | rfl
  ·exact h a q1
  ·exact hn
 ·refine .inr ⟨m,rfl,by omega,hml,hu,fun a ha=>?_⟩
  rcases Yx hk ha with q1 | rfl
  ·exact h a q1
  ·exact fun e=>absurd e hn
theorem UpT.yes{q:List Rq}{k:Nat}{i:Int}(h:UpT q k i)(hk:k<q.length)(hu:Z2r q[k])(hl:∀m:Nat,i=m→∀h:m<q.length,q[k].sn≤q[m].sn):UpT q (k+1) k:=by
 refine .inr ⟨k,rfl,by omega,hk,hu,fun a ha hau=>?_⟩
 rcases Yx hk ha with q1 | rfl
 ·rcases h with⟨_,h⟩ | ⟨m,e,hm,hml,_,h⟩
  ·exact absurd hau (h a q1)
  ·exact Int.le_trans (hl m e hml) (h a q1 hau)
 ·exact Int.le_refl _
theorem UpT.keep{q:List Rq}{k m:Nat}(h:UpT q k m)(hk:k<q.length)(hml:m<q.length)(hl:q[m].sn≤q[k].sn):UpT q (k+1) m:=by
 rcases h with⟨e,h⟩ | ⟨m',e,hm,hml',hu,h⟩
 ·omega
 ·obtain rfl:m=m':=by omega
  refine .inr ⟨m,rfl,by omega,hml,hu,fun a ha hau=>?_⟩
  rcases Yx hk ha with q1 | rfl
  ·exact h a q1 hau
  ·exact hl
def Hs(S:World→Prop)(x:World):Prop:=S x
theorem Z26(t r W:Int)(v:Value)(q:List Rq)(w:World)(hl:q.length≤1000)(h:Y7 w v q) :
  Calls prog 17 #[Ua t r v W] w fun e w'=>∃i,e=.returned (.int .i64 i)∧Nw w w'∧UpT q q.length i:=by
 unfold Ua
 obtain⟨a,c,rfl,⟨rfl,_⟩ | ⟨b,o,rfl,hc⟩⟩:=h
 ·go_enter func17,ntmps17
  go_wp2
  refine wp_loop_rounds 1 ?_
  repeat (rw[rounds_succ];go_wp2)
  go_ret
  exact⟨-1,rfl,(Nw.refl _).alloc _,.inl ⟨rfl,by simp⟩⟩
 ·have HC:=hD0 hc
  clear hc
  go_enter func17,ntmps17
  go_wp2
  have hB:=Z1d.made w t r (.slice (some ⟨b,o,none⟩) q.length c) W 27
  have hN:Nw w (w.alloc (.cells #[.int .i64 t,.int .i64 r,.slice (some ⟨b,o,none⟩) q.length c,.int .i64 W] 27)):=(Nw.refl w).alloc _
  obtain⟨p,hp⟩:∃p,w.heap.size=p:=⟨_,rfl⟩
  rw[hp] at hB
  rw[hp]
  clear hp
  generalize w.alloc (.cells #[.int .i64 t,.int .i64 r,.slice (some ⟨b,o,none⟩) q.length c,.int .i64 W] 27)=z at *
  have HZ:=hD0 (aI0 hB hN)
  have HR:=hD0 (HC.out.nw hN)
  clear hB hN HC
  go_loopw [3,4] (fun u i wr=>∃(k:Nat) (j:Int),k≤q.length∧i=.int .i64 k∧u=.int .i64 j∧UpT q k j∧Nw z wr) (fun _ i _=>q.length-(intOf i).toNat)
  case atStart=>exact⟨0,-1,Nat.zero_le _,rfl,rfl,.inl ⟨rfl,by simp⟩,Nw.refl _⟩
  case round =>
   obtain⟨k,j,hk,rfl,rfl,hf,hG⟩:=hrel
   have hb:=HZ.out.1.nw hG
   have h0:=hb.c0
   have h1:=hb.c1
   have h2:=hb.c2
   have h3:=hb.c3
   have hpl:=hb.lt
   clear hb
   by_cases hlt:k<q.length
   ·have hRw:=HR.out.nw hG
    have hce:=hRw.cell k hlt
    have HNo:=hD0 (fun e=>hf.no hlt e)
    have HYes:=hD0 (fun e1 e2=>hf.yes hlt e1 e2)
    have HKeep:=hD0 (show ∀m:Nat,j=m→∀h:m<q.length,q[m].sn≤q[k].sn→UpT q (k+1) j from fun m e h l=>by subst e;exact UpT.keep hf hlt h l)
    have HF:=hD0 hf
    generalize q[k]=R at *
    obtain⟨b0,b1,b2,b3,b4⟩:=R
    have e0:=hce 0 _ rfl
    have e1:=hce 1 _ rfl
    have e2:=hce 2 _ rfl
    have e3:=hce 3 _ rfl
    have e4:=hce 4 _ rfl
    simp only[Nat.add_zero] at e0
    have HG:=hD0 hG
    have HRw:=hD0 hRw
    have hbl:=hRw.lt
    clear hce hf hG hRw
    go_wp2_with fail
    have hal:=Z5 wr (.cells #[.int .i64 b0,.int .i64 b1,.int .i64 b2,.int .i64 b3,.int .i64 b4] 49)
    have hNa:Nw wr (wr.alloc (.cells #[.int .i64 b0,.int .i64 b1,.int .i64 b2,.int .i64 b3,.int .i64 b4] 49)):=(Nw.refl wr).alloc _
    obtain⟨pb,hpb⟩:∃pb,wr.heap.size=pb:=⟨_,rfl⟩
    rw[hpb] at hal
    rw[hpb]
    generalize wr.alloc (.cells #[.int .i64 b0,.int .i64 b1,.int .i64 b2,.int .i64 b3,.int .i64 b4] 49)=y at *
    have HGy:=hD0 (HG.out.trans hNa)
    have HRy:=hD0 (HRw.out.nw hNa)
    replace h0:=hNa.kp h0
    replace h1:=hNa.kp h1
    replace h2:=hNa.kp h2
    replace h3:=hNa.kp h3
    clear e0 e1 e2 e3 e4 hNa hpb HG HRw hbl hpl
    clear wr
    obtain⟨S,hSe⟩:∃S,S=Nw y:=⟨_,rfl⟩
    have hS0:Hs S y.drew:=by subst hSe;exact(Nw.refl _).dr
    have f0:∀x,Hs S x→x.cell? ⟨pb,0,none⟩=some (.int .i64 b0):=fun x h=>by subst hSe;exact Nw.kp h (Z2 hal)
    have f1:∀x,Hs S x→x.cell? ⟨pb,1,none⟩=some (.int .i64 b1):=fun x h=>by subst hSe;exact Nw.kp h (Z2 hal)
    have f2:∀x,Hs S x→x.cell? ⟨pb,2,none⟩=some (.int .i64 b2):=fun x h=>by subst hSe;exact Nw.kp h (Z2 hal)
    have f3:∀x,Hs S x→x.cell? ⟨pb,3,none⟩=some (.int .i64 b3):=fun x h=>by subst hSe;exact Nw.kp h (Z2 hal)
    have f4:∀x,Hs S x→x.cell? ⟨pb,4,none⟩=some (.int .i64 b4):=fun x h=>by subst hSe;exact Nw.kp h (Z2 hal)
    have p0:∀x,Hs S x→x.cell? ⟨p,0,none⟩=some (.int .i64 t):=fun x h=>by subst hSe;exact Nw.kp h h0
    have p1:∀x,Hs S x→x.cell? ⟨p,1,none⟩=some (.int .i64 r):=fun x h=>by subst hSe;exact Nw.kp h h1
    have p2:∀x,Hs S x→x.cell? ⟨p,2,none⟩=some (.slice (some ⟨b,o,none⟩) q.length c):=fun x h=>by subst hSe;exact Nw.kp h h2
    have p3:∀x,Hs S x→x.cell? ⟨p,3,none⟩=some (.int .i64 W):=fun x h=>by subst hSe;exact Nw.kp h h3
    have HN:=hD0 (show ∀a b,Hs S a→Nw a b→Hs S b from fun a b h g=>by subst hSe;exact Nw.trans h g)
    have HV:=hD0 (show ∀a,Hs S a→Nw y a from fun a h=>by subst hSe;exact h)
    have HQ:=hD0 (show ∀m:Nat,∀hm:m<q.length,∀x,Hs S x→x.cell? ⟨b,o+m*5+4,none⟩=some (.int .i64 q[m].sn) from fun m hm x h=>by subst hSe;exact(HRy.out.nw h).cell m hm 4 _ rfl)
    clear hSe h0 h1 h2 h3 hal HRy
    by_cases hmd:b2=0
    ·have d1:(b2 != 0)=false:=by simpa using hmd
     have HU:=hD0 (HNo.out (fun e=>e.1 hmd))
     have HH:=hD0 (fun w=>Vj b0 b1 b2 b3 b4 w)
     rw[d1] at HH
     clear HNo HYes HKeep hmd HQ HF
     refine Y2 (.take (.off (.go1 (.take (.take (.off (.go1 (.take (.take (.take (.take (.take (.take (.take (.take (.take (.take (.take (.take (.take (.take (.take (.take .fin))))))))))))))))))))))) (Hs S) (by kernel_rfl) (by kernel_rfl) (by kernel_rfl) hS0 ?_
     iterate 1 (refine HP.take' ?_;(first | (refine⟨undef,Or.inr ⟨by rfl,rfl⟩,?_⟩) | (apply Exists.intro;refine⟨Or.inl ⟨by rfl,?_⟩,?_⟩;(intro x hx';go_simp;first | done | with_reducible rfl)));(try simp only[Act.put,List.setIfInBounds_toArray,List.set_cons_zero,List.set_cons_succ]))
     refine HP.off ?_
     refine HP.go1 (fun KK hKK=>?_)
     go_simp
     refine(HH.out _).mono ?_
     rintro e y1 ⟨rfl,g⟩
     have hS1:=HN.out _ _ hS0 g
     refine hKK.out _ _ hS1 ?_
     intro _
     clear hKK KK g
     (try simp only[Act.put,List.setIfInBounds_toArray,List.set_cons_zero,List.set_cons_succ])
     iterate 2 (refine HP.take' ?_;(first | (refine⟨undef,Or.inr ⟨by rfl,rfl⟩,?_⟩) | (apply Exists.intro;refine⟨Or.inl ⟨by rfl,?_⟩,?_⟩;(intro x hx';go_simp;first | done | with_reducible rfl)));(try simp only[Act.put,List.setIfInBounds_toArray,List.set_cons_zero,List.set_cons_succ]))
     refine HP.off ?_
     refine HP.go1 (fun KK hKK=>?_)
     go_simp
     have hS2:=hS1
     refine hKK.out _ _ hS2 ?_
     intro _
     clear hKK KK
     (try simp only[Act.put,List.setIfInBounds_toArray,List.set_cons_zero,List.set_cons_succ])
     iterate 16 (refine HP.take' ?_;(first | (refine⟨undef,Or.inr ⟨by rfl,rfl⟩,?_⟩) | (apply Exists.intro;refine⟨Or.inl ⟨by rfl,?_⟩,?_⟩;(intro x hx';go_simp;first | done | with_reducible rfl)));(try simp only[Act.put,List.setIfInBounds_toArray,List.set_cons_zero,List.set_cons_succ]))
     refine HP.end_ ?_
     refine NoPanic.normal ?_
     have hZ:=HGy.out.trans (HV.out _ hS2)
     clear hS0 hS1 hS2 f0 f1 f2 f3 f4 p0 p1 p2 p3 HN HV
     go_wp2
     go_roundw
     case rel=>exact⟨k+1,_,by omega,by go_num,rfl,HU.out,hZ⟩
     case measure=>simp[intOf];omega
    ·have d1:(b2 != 0)=true:=by simpa using hmd
     have HH:=hD0 (fun w=>Vj b0 b1 b2 b3 b4 w)
     rw[d1] at HH
     have HWt:=hD0 (fun w=>Z76 b0 b1 b2 b3 b4 w)
     by_cases hsn:0<b4
     ·have d2:decide (0<b4)=true:=by simpa using hsn
      rw[d2] at HWt
      have hY:=HYes.out ⟨hmd,hsn⟩
      rcases HF.out with⟨hj,_⟩ | ⟨m,hj,_,hm,_,_⟩
      ·subst hj
       have HU:=hD0 (hY (fun m e=>by omega))
       clear HNo HYes HKeep hmd hsn HQ HF hY
       refine Y2 (.take (.off (.go1 (.take (.take (.off (.go1 (.take (.take (.take (.take (.take (.take (.take (.take (.take (.take (.take (.take (.take (.take (.take (.take .fin))))))))))))))))))))))) (Hs S) (by kernel_rfl) (by kernel_rfl) (by kernel_rfl) hS0 ?_
       iterate 1 (refine HP.take' ?_;(first | (refine⟨undef,Or.inr ⟨by rfl,rfl⟩,?_⟩) | (apply Exists.intro;refine⟨Or.inl ⟨by rfl,?_⟩,?_⟩;(intro x hx';go_simp;first | done | with_reducible rfl)));(try simp only[Act.put,List.setIfInBounds_toArray,List.set_cons_zero,List.set_cons_succ]))
       refine HP.off ?_
       refine HP.go1 (fun KK hKK=>?_)
       go_simp
       refine(HH.out _).mono ?_
       rintro e y1 ⟨rfl,g⟩
       have hS1:=HN.out _ _ hS0 g
       refine hKK.out _ _ hS1 ?_
       intro _
       clear hKK KK g
       (try simp only[Act.put,List.setIfInBounds_toArray,List.set_cons_zero,List.set_cons_succ])
       iterate 2 (refine HP.take' ?_;(first | (refine⟨undef,Or.inr ⟨by rfl,rfl⟩,?_⟩) | (apply Exists.intro;refine⟨Or.inl ⟨by rfl,?_⟩,?_⟩;(intro x hx';go_simp;first | done | with_reducible rfl)));(try simp only[Act.put,List.setIfInBounds_toArray,List.set_cons_zero,List.set_cons_succ]))
       refine HP.off ?_
       refine HP.go1 (fun KK hKK=>?_)
       go_simp
       refine(HWt.out _).mono ?_
       rintro e y2 ⟨rfl,g⟩
       have hS2:=HN.out _ _ hS1 g
       refine hKK.out _ _ hS2 ?_
       intro _
       clear hKK KK g
       (try simp only[Act.put,List.setIfInBounds_toArray,List.set_cons_zero,List.set_cons_succ])
       iterate 16 (refine HP.take' ?_;(first | (refine⟨undef,Or.inr ⟨by rfl,rfl⟩,?_⟩) | (apply Exists.intro;refine⟨Or.inl ⟨by rfl,?_⟩,?_⟩;(intro x hx';go_simp;first | done | with_reducible rfl)));(try simp only[Act.put,List.setIfInBounds_toArray,List.set_cons_zero,List.set_cons_succ]))
       refine HP.end_ ?_
       refine NoPanic.normal ?_
       have hZ:=HGy.out.trans (HV.out _ hS2)
       clear hS0 hS1 hS2 f0 f1 f2 f3 f4 p0 p1 p2 p3 HN HV
       go_wp2
       go_roundw
       case rel=>exact⟨k+1,_,by omega,by go_num,rfl,HU.out,hZ⟩
       case measure=>simp[intOf];omega
      ·have d3:decide ((m:Int)<0)=false:=by simp
       have c4:=HQ.out m hm
       have hK:=HKeep.out m hj hm
       have hY2:b4≤q[m].sn→UpT q (k+1) k:=fun h=>hY (fun m' e h'=>by
        obtain rfl:m=m':=by omega
        exact h)
       subst hj
       generalize q[m].sn=s at *
       have hmi:(m:Int)<(q.length:Int):=by omega
       by_cases hs:b4<s
       ·have d4:decide (b4<s)=true:=by simpa using hs
        have HU:=hD0 (hY2 (Int.le_of_lt hs))
        clear HNo HYes HKeep hmd hsn HQ HF hY hK hY2 hs
        refine Y2 (.take (.off (.go1 (.take (.take (.off (.go1 (.take (.take (.take (.take (.take (.take (.take (.take (.take (.take (.take (.take (.take (.take (.take (.take .fin))))))))))))))))))))))) (Hs S) (by kernel_rfl) (by kernel_rfl) (by kernel_rfl) hS0 ?_
        iterate 1 (refine HP.take' ?_;(first | (refine⟨undef,Or.inr ⟨by rfl,rfl⟩,?_⟩) | (apply Exists.intro;refine⟨Or.inl ⟨by rfl,?_⟩,?_⟩;(intro x hx';go_simp;first | done | with_reducible rfl)));(try simp only[Act.put,List.setIfInBounds_toArray,List.set_cons_zero,List.set_cons_succ]))
        refine HP.off ?_
        refine HP.go1 (fun KK hKK=>?_)
        go_simp
        refine(HH.out _).mono ?_
        rintro e y1 ⟨rfl,g⟩
        have hS1:=HN.out _ _ hS0 g
        refine hKK.out _ _ hS1 ?_
        intro _
        clear hKK KK g
        (try simp only[Act.put,List.setIfInBounds_toArray,List.set_cons_zero,List.set_cons_succ])
        iterate 2 (refine HP.take' ?_;(first | (refine⟨undef,Or.inr ⟨by rfl,rfl⟩,?_⟩) | (apply Exists.intro;refine⟨Or.inl ⟨by rfl,?_⟩,?_⟩;(intro x hx';go_simp;first | done | with_reducible rfl)));(try simp only[Act.put,List.setIfInBounds_toArray,List.set_cons_zero,List.set_cons_succ]))
        refine HP.off ?_
        refine HP.go1 (fun KK hKK=>?_)
        go_simp
        refine(HWt.out _).mono ?_
        rintro e y2 ⟨rfl,g⟩
        have hS2:=HN.out _ _ hS1 g
        refine hKK.out _ _ hS2 ?_
        intro _
        clear hKK KK g
        (try simp only[Act.put,List.setIfInBounds_toArray,List.set_cons_zero,List.set_cons_succ])
        iterate 16 (refine HP.take' ?_;(first | (refine⟨undef,Or.inr ⟨by rfl,rfl⟩,?_⟩) | (apply Exists.intro;refine⟨Or.inl ⟨by rfl,?_⟩,?_⟩;(intro x hx';go_simp;first | done | with_reducible rfl)));(try simp only[Act.put,List.setIfInBounds_toArray,List.set_cons_zero,List.set_cons_succ]))
        refine HP.end_ ?_
        refine NoPanic.normal ?_
        have hZ:=HGy.out.trans (HV.out _ hS2)
        clear hS0 hS1 hS2 f0 f1 f2 f3 f4 p0 p1 p2 p3 HN HV c4
        go_wp2
        go_roundw
        case rel=>exact⟨k+1,_,by omega,by go_num,rfl,HU.out,hZ⟩
        case measure=>simp[intOf];omega
       ·have d4:decide (b4<s)=false:=by simpa using hs
        have HU:=hD0 (hK (Int.not_lt.1 hs))
        clear HNo HYes HKeep hmd hsn HQ HF hY hK hY2 hs
        refine Y2 (.take (.off (.go1 (.take (.take (.off (.go1 (.take (.take (.take (.take (.take (.take (.take (.take (.take (.take (.take (.take (.take (.take (.take (.take .fin))))))))))))))))))))))) (Hs S) (by kernel_rfl) (by kernel_rfl) (by kernel_rfl) hS0 ?_
        iterate 1 (refine HP.take' ?_;(first | (refine⟨undef,Or.inr ⟨by rfl,rfl⟩,?_⟩) | (apply Exists.intro;refine⟨Or.inl ⟨by rfl,?_⟩,?_⟩;(intro x hx';go_simp;first | done | with_reducible rfl)));(try simp only[Act.put,List.setIfInBounds_toArray,List.set_cons_zero,List.set_cons_succ]))
        refine HP.off ?_
        refine HP.go1 (fun KK hKK=>?_)
        go_simp
        refine(HH.out _).mono ?_
        rintro e y1 ⟨rfl,g⟩
        have hS1:=HN.out _ _ hS0 g
        refine hKK.out _ _ hS1 ?_
        intro _
        clear hKK KK g
        (try simp only[Act.put,List.setIfInBounds_toArray,List.set_cons_zero,List.set_cons_succ])
        iterate 2 (refine HP.take' ?_;(first | (refine⟨undef,Or.inr ⟨by rfl,rfl⟩,?_⟩) | (apply Exists.intro;refine⟨Or.inl ⟨by rfl,?_⟩,?_⟩;(intro x hx';go_simp;first | done | with_reducible rfl)));(try simp only[Act.put,List.setIfInBounds_toArray,List.set_cons_zero,List.set_cons_succ]))
        refine HP.off ?_
        refine HP.go1 (fun KK hKK=>?_)
        go_simp
        refine(HWt.out _).mono ?_
        rintro e y2 ⟨rfl,g⟩
        have hS2:=HN.out _ _ hS1 g
        refine hKK.out _ _ hS2 ?_
        intro _
        clear hKK KK g
        (try simp only[Act.put,List.setIfInBounds_toArray,List.set_cons_zero,List.set_cons_succ])
        iterate 16 (refine HP.take' ?_;(first | (refine⟨undef,Or.inr ⟨by rfl,rfl⟩,?_⟩) | (apply Exists.intro;refine⟨Or.inl ⟨by rfl,?_⟩,?_⟩;(intro x hx';go_simp;first | done | with_reducible rfl)));(try simp only[Act.put,List.setIfInBounds_toArray,List.set_cons_zero,List.set_cons_succ]))
        refine HP.end_ ?_
        refine NoPanic.normal ?_
        have hZ:=HGy.out.trans (HV.out _ hS2)
        clear hS0 hS1 hS2 f0 f1 f2 f3 f4 p0 p1 p2 p3 HN HV c4
        go_wp2
        go_roundw
        case rel=>exact⟨k+1,_,by omega,by go_num,rfl,HU.out,hZ⟩
        case measure=>simp[intOf];omega
     ·have d2:decide (0<b4)=false:=by simpa using hsn
      rw[d2] at HWt
      have HU:=hD0 (HNo.out (fun e=>hsn e.2))
      clear HNo HYes HKeep hmd hsn HQ HF
      refine Y2 (.take (.off (.go1 (.take (.take (.off (.go1 (.take (.take (.take (.take (.take (.take (.take (.take (.take (.take (.take (.take (.take (.take (.take (.take .fin))))))))))))))))))))))) (Hs S) (by kernel_rfl) (by kernel_rfl) (by kernel_rfl) hS0 ?_
      iterate 1 (refine HP.take' ?_;(first | (refine⟨undef,Or.inr ⟨by rfl,rfl⟩,?_⟩) | (apply Exists.intro;refine⟨Or.inl ⟨by rfl,?_⟩,?_⟩;(intro x hx';go_simp;first | done | with_reducible rfl)));(try simp only[Act.put,List.setIfInBounds_toArray,List.set_cons_zero,List.set_cons_succ]))
      refine HP.off ?_
      refine HP.go1 (fun KK hKK=>?_)
      go_simp
      refine(HH.out _).mono ?_
      rintro e y1 ⟨rfl,g⟩
      have hS1:=HN.out _ _ hS0 g
      refine hKK.out _ _ hS1 ?_
      intro _
      clear hKK KK g
      (try simp only[Act.put,List.setIfInBounds_toArray,List.set_cons_zero,List.set_cons_succ])
      iterate 2 (refine HP.take' ?_;(first | (refine⟨undef,Or.inr ⟨by rfl,rfl⟩,?_⟩) | (apply Exists.intro;refine⟨Or.inl ⟨by rfl,?_⟩,?_⟩;(intro x hx';go_simp;first | done | with_reducible rfl)));(try simp only[Act.put,List.setIfInBounds_toArray,List.set_cons_zero,List.set_cons_succ]))
      refine HP.off ?_
      refine HP.go1 (fun KK hKK=>?_)
      go_simp
      refine(HWt.out _).mono ?_
      rintro e y2 ⟨rfl,g⟩
      have hS2:=HN.out _ _ hS1 g
      refine hKK.out _ _ hS2 ?_
      intro _
      clear hKK KK g
      (try simp only[Act.put,List.setIfInBounds_toArray,List.set_cons_zero,List.set_cons_succ])
      iterate 16 (refine HP.take' ?_;(first | (refine⟨undef,Or.inr ⟨by rfl,rfl⟩,?_⟩) | (apply Exists.intro;refine⟨Or.inl ⟨by rfl,?_⟩,?_⟩;(intro x hx';go_simp;first | done | with_reducible rfl)));(try simp only[Act.put,List.setIfInBounds_toArray,List.set_cons_zero,List.set_cons_succ]))
      refine HP.end_ ?_
      refine NoPanic.normal ?_
      have hZ:=HGy.out.trans (HV.out _ hS2)
      clear hS0 hS1 hS2 f0 f1 f2 f3 f4 p0 p1 p2 p3 HN HV
      go_wp2
      go_roundw
      case rel=>exact⟨k+1,_,by omega,by go_num,rfl,HU.out,hZ⟩
      case measure=>simp[intOf];omega
   ·obtain rfl:k=q.length:=by omega
    have HG:=hD0 hG
    have HF:=hD0 hf
    clear hf hG
    go_wp2
    go_ret
    exact⟨j,rfl,HZ.out.2.trans HG.out,HF.out⟩
theorem Z5p(t r W:Int)(v:Value)(q:List Rq)(w:World)(hl:q.length≤1000)(h:Y7 w v q) :
  Calls prog 16 #[Ua t r v W] w fun e w'=>∃v',e=.returned (Ua t r v' W)∧Nw w w'∧Zn w' w.heap.size v' q:=by
 unfold Ua
 have hN2:Nw w ((w.alloc (.cells #[.int .i64 t,.int .i64 r,v,.int .i64 W] 27)).alloc (.cells #[.int .i64 0,.int .i64 0,.slice none 0 0,.int .i64 0] 27)):=((Nw.refl w).alloc _).alloc _
 have hb:=hN2.sz
 have hp0:=Z5 w (.cells #[.int .i64 t,.int .i64 r,v,.int .i64 W] 27)
 have hp:=((Nw.refl _).alloc (.cells #[.int .i64 0,.int .i64 0,.slice none 0 0,.int .i64 0] 27)).at' hp0
 have hq:=Z5 (w.alloc (.cells #[.int .i64 t,.int .i64 r,v,.int .i64 W] 27)) (.cells #[.int .i64 0,.int .i64 0,.slice none 0 0,.int .i64 0] 27)
 obtain⟨v',w1,hrun,hO,hN⟩:=Z0l Z55 (h.nw hN2) (by omega)
 have hp1:=hN.at' hp
 have hq1:=hN.at' hq
 have hOl:=fun g hg=>oge hO (g:=g) hg
 obtain⟨a,c,rfl⟩:=h.form
 obtain⟨a',c',hv'⟩:=(Zn.rd hO).form
 subst hv'
 have hz:w.heap.size+1≤((w.alloc (.cells #[.int .i64 t,.int .i64 r,.slice a q.length c,.int .i64 W] 27)).alloc (.cells #[.int .i64 0,.int .i64 0,.slice none 0 0,.int .i64 0] 27)).heap.size:=by simp
 have hsz1:(w.alloc (.cells #[.int .i64 t,.int .i64 r,.slice a q.length c,.int .i64 W] 27)).heap.size=w.heap.size+1:=by simp
 rw[hsz1] at hq hq1
 have hsz2:((w.alloc (.cells #[.int .i64 t,.int .i64 r,.slice a q.length c,.int .i64 W] 27)).alloc (.cells #[.int .i64 0,.int .i64 0,.slice none 0 0,.int .i64 0] 27)).heap.size=w.heap.size+1+1:=by simp
 rw[hsz2] at hrun hO hOl
 have HR:=hD0 hrun
 have hw1:=hN2.trans hN
 have hz1:w.heap.size+1<w1.heap.size:=lL0 (by rw[hsz2];omega) hN.sz
 have hpc:∀k,w1.cell? ⟨w.heap.size,k,none⟩=_:=fun k=>Z2 (j:=k) hp1
 have c0:=hpc 0
 have c1:=hpc 1
 have c2:=hpc 2
 have c3:=hpc 3
 have hqc:∀k,w1.cell? ⟨w.heap.size+1,k,none⟩=_:=fun k=>Z2 (j:=k) hq1
 have d0:=hqc 0
 have d1:=hqc 1
 have d2:=hqc 2
 have d3:=hqc 3
 have fz:=fun k=>hfz (j:=k) hp1
 have fz':=fun k=>hfz (j:=k) hq1
 have HX:=hD0 (aI0 hO (aI0 hw1 (aI0 hp1 (aI0 hq1 hOl))))
 clear hrun hO hw1 hp1 hq1 hp hq hp0 hN hN2 h hb hOl hpc hqc hsz1 hsz2 hz
 go_enter func16,ntmps16
 go_wp2_with (at_builtin;refine Zg (by rfl) (.tmp 3) (.tmp 5) 25 rfl _ _ _ _ rfl rfl HR.out ?_)
 refine bodyPost_ret (v:=.agg #[.int .i64 t,.int .i64 r,.slice a' q.length c',.int .i64 W]) (by simp[results,results16,go_sem, *]) rfl ⟨_,rfl,?_,?_⟩
 ·exact((((HX.out.2.1.st (Nat.le_refl _) _).st (Nat.le_succ _) _).st (Nat.le_succ _) _).st (Nat.le_succ _) _).st (Nat.le_succ _) _
 ·have hO:=HX.out.1
  have hr:=Ym (Ym (Ym (Ym (Ym hO (p:=⟨w.heap.size,2,none⟩) (by show w.heap.size<_;omega) (.slice a' q.length c')) (p:=⟨w.heap.size+1,0,none⟩) (by show w.heap.size+1<_;omega) (.int .i64 t)) (p:=⟨w.heap.size+1,1,none⟩) (by show w.heap.size+1<_;omega) (.int .i64 r)) (p:=⟨w.heap.size+1,2,none⟩) (by show w.heap.size+1<_;omega) (.slice a' q.length c')) (p:=⟨w.heap.size+1,3,none⟩) (by show w.heap.size+1<_;omega) (.int .i64 W)
  exact Z6y hr (fun g hg=>by have:=oge hr hg;omega)
def Z2p(q:List Rq)(id:Int):Value:=match fnd q id with
 | none=>.tuple #[Ug ⟨0,0,0,0,0⟩,.bool false]
 | some r=>.tuple #[Ug r,.bool true]
theorem Z6z{w:World}{g0 e size g n cap:Nat}{xs:List Value}(h:w.ownsRow g0 e size (.slice (some ⟨g,0,none⟩) n cap) n xs):n≤cap:=by
 obtain⟨_,q | ⟨g',cap',cur,e1,_,_,hn,_⟩⟩:=h
 ·simp at q
 ·simp only[Value.slice.injEq] at e1
  rw[e1.2.2];exact hn
def Z35:Value→Prop
 | .slice _ n c=>n≤c
 | _=>True
def HR1(X:Hq × Int)(w:World)(e:Ending)(w':World):Prop:=∃v',e=.returned (.tuple #[Ua X.1.t X.1.r v' X.1.W,.int .i64 X.2])∧Nw w w'∧Y7 w' v' X.1.q∧Z35 v'
def newV(n:Nat)(v:Value):Prop:=∀a l c,v=.slice (some a) l c→n≤a.block
theorem Yv(n:Nat):newV n (.slice none 0 0):=fun a l c e=>by cases e
theorem Zn.newV{w:World}{g0 n:Nat}{v:Value}{q:List Rq}(h:Zn w g0 v q)(hn:n≤g0):newV n v:=by
 rcases Yt h with⟨rfl,_⟩ | ⟨g,cap,rfl⟩
 ·exact Yv n
 ·intro a l c e
  cases e
  exact Nat.le_trans hn (oge h rfl)
theorem Zn.cap{w:World}{g0:Nat}{v:Value}{q:List Rq}(h:Zn w g0 v q):Z35 v:=by
 rcases Yt h with⟨rfl,_⟩ | ⟨g,cap,rfl⟩
 ·exact Nat.le_refl _
 ·exact Z6z h
theorem Yc{w a:World}{rb:Nat}(h:Nw w a)(hb:w.heap.size≤rb)(u0 u1 u2 u3:Value):Nw w ((((a.setCell ⟨rb,0,none⟩ u0).setCell ⟨rb,1,none⟩ u1).setCell ⟨rb,2,none⟩ u2).setCell ⟨rb,3,none⟩ u3) :=
 (((h.st hb _).st hb _).st hb _).st hb _
theorem Ve{a:World}{rb g0:Nat}{v:Value}{q:List Rq}(h:Zn a g0 v q)(hb:rb<g0)(u0 u1 u2 u3:Value):Zn ((((a.setCell ⟨rb,0,none⟩ u0).setCell ⟨rb,1,none⟩ u1).setCell ⟨rb,2,none⟩ u2).setCell ⟨rb,3,none⟩ u3) g0 v q :=
 Ym (Ym (Ym (Ym h (p:=⟨rb,0,none⟩) hb u0) (p:=⟨rb,1,none⟩) hb u1) (p:=⟨rb,2,none⟩) hb u2) (p:=⟨rb,3,none⟩) hb u3
theorem V3(w:World)(o1 o2:Obj):((w.alloc o1).alloc o2).heap[w.heap.size]?=some o1∧((w.alloc o1).alloc o2).heap[w.heap.size+1]?=some o2∧Nw w ((w.alloc o1).alloc o2)∧((w.alloc o1).alloc o2).heap.size=w.heap.size+1+1:=by
 have hs:(w.alloc o1).heap.size=w.heap.size+1:=by simp
 refine⟨((Nw.refl _).alloc o2).at' (Z5 w o1),?_,((Nw.refl w).alloc _).alloc _,by simp⟩
 have:=Z5 (w.alloc o1) o2
 rwa [hs] at this
def hoI(a b:Rq):Int:=if (a.md != 0)=(b.md != 0)then 0 else if (a.md != 0)=true then -1 else 1
def cmI(a b:Int):Int:=if a<b then -1 else if b<a then 1 else 0
def toI(a b:Rq):Int:=if hoI a b≠0 then hoI a b else cmI a.sn b.sn
theorem nwS{w:World}:∀a b,Nw w a→Nw a b→Nw w b:=fun _ _ h g=>h.trans g
theorem Nw.drewQ{w a:World}(h:Nw w a):Nw w a.drew:=h.drewN 1
theorem Z2m(A B:Rq)(w:World):Calls prog 80 #[Ug A,Ug B] w fun e w'=>e=.returned (.int .i64 (hoI A B))∧Nw w w':=by
 have HA:=hD0 (Z4u A)
 have HB:=hD0 (Z4u B)
 obtain⟨V,hV⟩:∃V,hoI A B=V:=⟨_,rfl⟩
 have hV2:=hV
 rw[hV]
 unfold hoI at hV2
 generalize (A.md != 0)=x at *
 generalize (B.md != 0)=y at *
 clear hV
 have HV:=hD0 hV2
 clear hV2
 obtain⟨a,b,m,n,s⟩:=A
 obtain⟨a',b',m',n',s'⟩:=B
 unfold Ug at *
 have HX:=hD0 (V3 w (.cells #[.int .i64 a,.int .i64 b,.int .i64 m,.int .i64 n,.int .i64 s] 49) (.cells #[.int .i64 a',.int .i64 b',.int .i64 m',.int .i64 n',.int .i64 s'] 49))
 go_enter func80,ntmps80
 go_wp2_with fail
 generalize (w.alloc (.cells #[.int .i64 a,.int .i64 b,.int .i64 m,.int .i64 n,.int .i64 s] 49)).alloc (.cells #[.int .i64 a',.int .i64 b',.int .i64 m',.int .i64 n',.int .i64 s'] 49)=w1 at *
 obtain⟨p,hp⟩:∃p,w.heap.size=p:=⟨_,rfl⟩
 rw[hp] at HX ⊢
 have hl1:=hlt HX.out.1
 have hl2:=hlt HX.out.2.1
 have c0:=Z2 (j:=0) HX.out.1
 have c1:=Z2 (j:=1) HX.out.1
 have c2:=Z2 (j:=2) HX.out.1
 have c3:=Z2 (j:=3) HX.out.1
 have c4:=Z2 (j:=4) HX.out.1
 have d0:=Z2 (j:=0) HX.out.2.1
 have d1:=Z2 (j:=1) HX.out.2.1
 have d2:=Z2 (j:=2) HX.out.2.1
 have d3:=Z2 (j:=3) HX.out.2.1
 have d4:=Z2 (j:=4) HX.out.2.1
 have HN:=hD0 HX.out.2.2.1
 clear HX hp hl1 hl2
 refine Z4a (Nw w1) (by kernel_rfl) (by kernel_rfl) (Nw.refl _).drewQ ?_
 have e0:∀d:Wd (Nw w1),d.w.cell? _=_:=fun d=>d.h.kp c0
 have e1:∀d:Wd (Nw w1),d.w.cell? _=_:=fun d=>d.h.kp c1
 have e2:∀d:Wd (Nw w1),d.w.cell? _=_:=fun d=>d.h.kp c2
 have e3:∀d:Wd (Nw w1),d.w.cell? _=_:=fun d=>d.h.kp c3
 have e4:∀d:Wd (Nw w1),d.w.cell? _=_:=fun d=>d.h.kp c4
 have f0:∀d:Wd (Nw w1),d.w.cell? _=_:=fun d=>d.h.kp d0
 have f1:∀d:Wd (Nw w1),d.w.cell? _=_:=fun d=>d.h.kp d1
 have f2:∀d:Wd (Nw w1),d.w.cell? _=_:=fun d=>d.h.kp d2
 have f3:∀d:Wd (Nw w1),d.w.cell? _=_:=fun d=>d.h.kp d3
 have f4:∀d:Wd (Nw w1),d.w.cell? _=_:=fun d=>d.h.kp d4
 have hne:Nonempty (Wd (Nw w1)):=⟨⟨_,Nw.refl w1⟩⟩
 repeat (first | go_big_quiet_step ((first | (with_reducible exact Z13 nwS (HA.out _)) | (with_reducible exact Z13 nwS (HB.out _)))) | quiet_step ((first | (with_reducible exact Z13 nwS (HA.out _)) | (with_reducible exact Z13 nwS (HB.out _)))))
 refine wpQuiet_nil ?_
 intro d
 have h6:=d.h
 clear e0 e1 e2 e3 e4 f0 f1 f2 f3 f4 hne
 revert h6
 generalize d.w=w6
 intro h6
 replace c0:=h6.kp c0
 replace c1:=h6.kp c1
 replace c2:=h6.kp c2
 replace c3:=h6.kp c3
 replace c4:=h6.kp c4
 replace HN:=hD0 (HN.out.trans h6)
 clear h6 d0 d1 d2 d3 d4
 cases x<;>cases y
 ·have e:V=0:=by simpa using HV.out.symm
  subst e
  go_wp2
  go_ret
  exact⟨rfl,HN.out⟩
 ·have e:V=1:=by simpa using HV.out.symm
  subst e
  go_wp2_with (go_at_call 98;refine(HA.out _).mono ?_;rintro e w' ⟨rfl,g⟩)
  go_ret
  exact⟨rfl,HN.out.trans g⟩
 ·have e:V = -1:=by simpa using HV.out.symm
  subst e
  go_wp2_with (go_at_call 98;refine(HA.out _).mono ?_;rintro e w' ⟨rfl,g⟩)
  go_ret
  exact⟨rfl,HN.out.trans g⟩
 ·have e:V=0:=by simpa using HV.out.symm
  subst e
  go_wp2
  go_ret
  exact⟨rfl,HN.out⟩
theorem Z9f(a:Int)(w:World):Calls prog 55 #[.int .i64 a] w fun e w'=>e=.returned (.bool false)∧w=w':=by
 go_enter func55,ntmps55
 go_wp2
 go_ret
 exact⟨rfl,rfl⟩
theorem Z4t(a b:Int)(w:World):Calls prog 35 #[.int .i64 a,.int .i64 b] w fun e w'=>e=.returned (.int .i64 (cmI a b))∧Nw w w':=by
 have HN:=hD0 Z9f
 unfold cmI
 by_cases h1:a<b
 ·rw[if_pos h1]
  go_enter func35,ntmps35
  go_wp2_with (go_at_call 55;refine(HN.out _ _).mono ?_;rintro e w' ⟨rfl,rfl⟩)
  go_ret
  exact⟨rfl,Nw.refl _⟩
 rw[if_neg h1]
 by_cases h2:b<a
 ·rw[if_pos h2]
  go_enter func35,ntmps35
  go_wp2_with (go_at_call 55;refine(HN.out _ _).mono ?_;rintro e w' ⟨rfl,rfl⟩)
  go_ret
  exact⟨rfl,Nw.refl _⟩
 ·rw[if_neg h2]
  go_enter func35,ntmps35
  go_wp2_with (go_at_call 55;refine(HN.out _ _).mono ?_;rintro e w' ⟨rfl,rfl⟩)
  go_ret
  exact⟨rfl,Nw.refl _⟩
theorem dOr(x y:Int)(b:Nat)(w:World)(h0:w.cell? ⟨b,0,none⟩=some (.int .i64 x))(h1:w.cell? ⟨b,1,none⟩=some (.int .i64 y)) :
  Calls prog 34 #[.slice (some ⟨b,0,none⟩) 2 2] w fun e w'=>e=.returned (.int .i64 (if x≠0 then x else y))∧Nw w w':=by
 have hp:=World.block_lt_of_cell? _ _ h0
 by_cases hx:x=0
 ·have dx:(x != 0)=false:=by simpa using hx
  rw[if_neg (by simpa using hx)]
  by_cases hy:y=0
  ·have dy:(y != 0)=false:=by simpa using hy
   subst hx hy
   go_enter func34,ntmps34
   go_wp2
   refine wp_loop_rounds 3 ?_
   repeat (rw[rounds_succ];go_wp2)
   go_ret
   exact⟨rfl,Nw.refl _⟩
  ·have dy:(y != 0)=true:=by simpa using hy
   clear hy
   go_enter func34,ntmps34
   go_wp2
   refine wp_loop_rounds 3 ?_
   repeat (rw[rounds_succ];go_wp2)
   go_ret
   exact⟨rfl,Nw.refl _⟩
 ·have dx:(x != 0)=true:=by simpa using hx
  rw[if_pos (by simpa using hx)]
  clear hx
  go_enter func34,ntmps34
  go_wp2
  refine wp_loop_rounds 3 ?_
  repeat (rw[rounds_succ];go_wp2)
  go_ret
  exact⟨rfl,Nw.refl _⟩
theorem Z6l(A B:Rq)(w:World):Calls prog 60 #[Ug A,Ug B] w fun e w'=>e=.returned (.int .i64 (toI A B))∧Nw w w':=by
 have HH:=hD0 (Z2m A B)
 have HC:=hD0 (Z4t A.sn B.sn)
 unfold toI
 generalize hoI A B=x at *
 obtain⟨y,hy⟩:∃y,cmI A.sn B.sn=y:=⟨_,rfl⟩
 rw[hy] at HC ⊢
 clear hy
 obtain⟨V,hV⟩:∃V,(if x≠0 then x else y)=V:=⟨_,rfl⟩
 have HO:=hD0 (dOr x y)
 rw[hV] at HO ⊢
 clear hV
 obtain⟨a,b,m,n,s⟩:=A
 obtain⟨a',b',m',n',s'⟩:=B
 unfold Ug at *
 simp only at HC
 have HX:=hD0 (V3 w (.cells #[.int .i64 a,.int .i64 b,.int .i64 m,.int .i64 n,.int .i64 s] 49) (.cells #[.int .i64 a',.int .i64 b',.int .i64 m',.int .i64 n',.int .i64 s'] 49))
 go_enter func60,ntmps60
 go_wp2_with fail
 generalize (w.alloc (.cells #[.int .i64 a,.int .i64 b,.int .i64 m,.int .i64 n,.int .i64 s] 49)).alloc (.cells #[.int .i64 a',.int .i64 b',.int .i64 m',.int .i64 n',.int .i64 s'] 49)=w1 at *
 obtain⟨p,hp⟩:∃p,w.heap.size=p:=⟨_,rfl⟩
 rw[hp] at HX ⊢
 have c0:=Z2 (j:=0) HX.out.1
 have c1:=Z2 (j:=1) HX.out.1
 have c2:=Z2 (j:=2) HX.out.1
 have c3:=Z2 (j:=3) HX.out.1
 have c4:=Z2 (j:=4) HX.out.1
 have d0:=Z2 (j:=0) HX.out.2.1
 have d1:=Z2 (j:=1) HX.out.2.1
 have d2:=Z2 (j:=2) HX.out.2.1
 have d3:=Z2 (j:=3) HX.out.2.1
 have d4:=Z2 (j:=4) HX.out.2.1
 have HN:=hD0 HX.out.2.2.1
 clear HX hp
 have e0:∀d,Nw w1 d→d.cell? _=_:=fun d h=>h.kp c0
 have e1:∀d,Nw w1 d→d.cell? _=_:=fun d h=>h.kp c1
 have e2:∀d,Nw w1 d→d.cell? _=_:=fun d h=>h.kp c2
 have e3:∀d,Nw w1 d→d.cell? _=_:=fun d h=>h.kp c3
 have e4:∀d,Nw w1 d→d.cell? _=_:=fun d h=>h.kp c4
 have f0:∀d,Nw w1 d→d.cell? _=_:=fun d h=>h.kp d0
 have f1:∀d,Nw w1 d→d.cell? _=_:=fun d h=>h.kp d1
 have f2:∀d,Nw w1 d→d.cell? _=_:=fun d h=>h.kp d2
 have f3:∀d,Nw w1 d→d.cell? _=_:=fun d h=>h.kp d3
 have f4:∀d,Nw w1 d→d.cell? _=_:=fun d h=>h.kp d4
 clear c0 c1 c2 c3 c4 d0 d1 d2 d3 d4
 refine U4 [some true,some true,some false,some true,some true,some true,some true,none,some false,none,some false,none,some false,none,some true] (Nw w1) (by kernel_rfl) (by kernel_rfl) (by kernel_rfl) (Nw.refl _).drewQ ?_
 have g1:=(Nw.refl w1).drewQ
 obtain⟨w2,hw2⟩:∃w2,w1.drew=w2:=⟨_,rfl⟩
 rw[hw2] at g1 ⊢
 clear hw2
 repeat (first
  | (refine HW.off ?_)
  | (refine HW.go (fun K hK=>?_);go_simp;(first | (go_at_call 80;(with_reducible refine(HH.out _).mono ?_);rintro e wy ⟨rfl,g2⟩) | (go_at_call 35;(with_reducible refine(HC.out _).mono ?_);rintro e wy ⟨rfl,g2⟩));refine hK.out _ _ (g1.trans g2) ?_;intro _;replace g1:=g1.trans g2;clear hK K g2)
  | (refine HW.take' ?_;apply Exists.intro;refine⟨Or.inl ⟨by rfl,?_⟩,?_⟩;(intro x hx;go_simp;first | done | with_reducible rfl);(try simp only[Act.put,List.setIfInBounds_toArray,List.set_cons_zero,List.set_cons_succ])))
 refine HW.go (fun K hK=>?_)
 go_simp
 have hb:=Z5 wy (.cells #[.int .i64 x,.int .i64 y] 3)
 have g3:=g1.alloc (.cells #[.int .i64 x,.int .i64 y] 3)
 have o0:=Z2 (j:=0) hb
 have o1:=Z2 (j:=1) hb
 refine hK.out _ _ g3 ?_
 intro _
 clear hK K
 refine HW.off ?_
 refine HW.go (fun K hK=>?_)
 go_simp
 go_at_call 34
 refine(HO.out _ _ o0 o1).mono ?_
 rintro e wz ⟨rfl,g4⟩
 have g5:=g3.trans g4
 refine hK.out _ _ g5 ?_
 intro _
 clear hK K
 refine HW.take' ?_
 apply Exists.intro
 refine⟨Or.inl ⟨by rfl,?_⟩,?_⟩
 ·(intro x hx;go_simp;first | done | with_reducible rfl)
 (try simp only[Act.put,List.setIfInBounds_toArray,List.set_cons_zero,List.set_cons_succ])
 refine HW.end_ ?_
 refine NoPanic.normal ?_
 go_wp2
 go_ret
 exact⟨rfl,HN.out.trans g5⟩
structure RqB(w:World)(p:Nat)(a b m n s:Int):Prop where
 lt:p<w.heap.size
 c0:w.cell? ⟨p,0,none⟩=some (.int .i64 a)
 c1:w.cell? ⟨p,1,none⟩=some (.int .i64 b)
 c2:w.cell? ⟨p,2,none⟩=some (.int .i64 m)
 c3:w.cell? ⟨p,3,none⟩=some (.int .i64 n)
 c4:w.cell? ⟨p,4,none⟩=some (.int .i64 s)
theorem RqB.nw{w w':World}{p:Nat}{a b m n s:Int}(h:RqB w p a b m n s)(g:Nw w w'):RqB w' p a b m n s :=
 ⟨lL0 h.lt g.sz,g.kp h.c0,g.kp h.c1,g.kp h.c2,g.kp h.c3,g.kp h.c4⟩
theorem RqB.of{w:World}{p:Nat}{a b m n s:Int}{T:TypeId}{fr:Nat × Nat}(h:w.heap[p]?=some (.cells #[.int .i64 a,.int .i64 b,.int .i64 m,.int .i64 n,.int .i64 s] T fr)):RqB w p a b m n s :=
 ⟨hlt h,Z2 h,Z2 h,Z2 h,Z2 h,Z2 h⟩
theorem RqB.made(w:World)(a b m n s:Int)(T:TypeId):RqB (w.alloc (.cells #[.int .i64 a,.int .i64 b,.int .i64 m,.int .i64 n,.int .i64 s] T)) w.heap.size a b m n s:=RqB.of (Z5 w _)
theorem Z6k(S R:Rq)(p:Nat)(w:World)(h:RqB w p S.id S.txn S.md S.wt S.sn):Calls prog 59 #[Ug R,.pointer (some ⟨p,0,none⟩)] w fun e w'=>e=.returned (.bool (decide (0<R.sn)&&decide (toI R S<0)))∧Nw w w':=by
 have HWt:=hD0 (Z4v R)
 have HT:=hD0 (Z6l R S)
 generalize toI R S=x at *
 obtain⟨y,hd⟩:∃y,decide (x<0)=y:=⟨_,rfl⟩
 rw[hd]
 generalize decide (0<R.sn)=z at *
 obtain⟨a,b,m,n,s⟩:=R
 obtain⟨a',b',m',n',s'⟩:=S
 unfold Ug at *
 simp only at h
 have hl:w.heap.size<(w.alloc (.cells #[.int .i64 a,.int .i64 b,.int .i64 m,.int .i64 n,.int .i64 s] 49)).heap.size:=by simp
 have hb:=RqB.made w a b m n s 49
 have hN:=(Nw.refl w).alloc (.cells #[.int .i64 a,.int .i64 b,.int .i64 m,.int .i64 n,.int .i64 s] 49)
 obtain⟨w1,hw1⟩:∃w1,w.alloc (.cells #[.int .i64 a,.int .i64 b,.int .i64 m,.int .i64 n,.int .i64 s] 49)=w1:=⟨_,rfl⟩
 rw[hw1] at hb hN hl
 have HW1:=hD0 hw1
 clear hw1
 obtain⟨hl0,c0,c1,c2,c3,c4⟩:=h.nw hN
 have hBB:=hD0 (aI0 (h.nw hN) hb)
 obtain⟨hl2,d0,d1,d2,d3,d4⟩:=hb
 have HN:=hD0 hN
 clear hN h
 cases z
 ·go_enter func59,ntmps59
  go_wp2_with fail
  rw[HW1.out]
  go_wp2_with (go_at_call 42;refine(HWt.out _).mono ?_;rintro e w2 ⟨rfl,g⟩)
  go_ret
  exact⟨rfl,HN.out.trans g⟩
 ·go_enter func59,ntmps59
  go_wp2_with fail
  rw[HW1.out]
  go_wp2_with fail
  go_at_call 42
  refine(HWt.out _).mono ?_
  rintro e w2 ⟨rfl,g⟩
  clear hl0 c0 c1 c2 c3 c4 hl2 d0 d1 d2 d3 d4
  obtain⟨hl0,c0,c1,c2,c3,c4⟩:=hBB.out.1.nw g
  obtain⟨hl2,d0,d1,d2,d3,d4⟩:=hBB.out.2.nw g
  have HN2:=hD0 (HN.out.trans g)
  clear HN hl g hBB
  go_wp2_with (go_at_call 60;refine(HT.out _).mono ?_;rintro e w3 ⟨rfl,g3⟩)
  go_ret
  exact⟨rfl,HN2.out.trans g3⟩
theorem Z4s(S:Rq)(w:World):Calls prog 43 #[Ug S] w fun e w'=>∃p,e=.returned (.func (.func 59) #[] #[.pointer (some ⟨p,0,none⟩)])∧Nw w w'∧RqB w' p S.id S.txn S.md S.wt S.sn:=by
 obtain⟨a',b',m',n',s'⟩:=S
 unfold Ug
 go_enter func43,ntmps43
 go_wp2
 go_ret
 exact⟨_,rfl,(Nw.refl _).alloc _,RqB.made _ _ _ _ _ _ _⟩
theorem Yr.ahead{w:World}{S:Rq}{p:Nat}(h:RqB w p S.id S.txn S.md S.wt S.sn):Yr w (.func (.func 59) #[] #[.pointer (some ⟨p,0,none⟩)]) (fun R=>decide (0<R.sn)&&decide (toI R S<0)) :=
 ⟨_,_,rfl,enters_of func59 (by kernel_rfl) rfl,fun R w1 g=>Z6k S R p w1 (h.nw g)⟩
structure SmH(w:World)(gf:Nat)(lb:Array Value)(g n a b:Nat)(l:List Int):Prop where
 eg:∀args w,(callFunc gf args).run prog w=.ok (.enter gf args) w
 cell:∀i z,i<n→Nw w z→z.cell? ⟨g,i,none⟩=some (.int .i64 (l.getD i 0))
 call:∀i j,a≤i→i<j→j<b→∃v:Int,decide (v<0)=false∧∀z,Nw w z→Calls prog gf (#[.int .i64 (l.getD j 0),.int .i64 (l.getD i 0)]++lb) z fun e w'=>e=.returned (.int .i64 v)∧Nw z w'
def plc(p:Rq→Bool):List Rq→Int
 | []=>-1
 | a::r=>if p a=true then 0 else if plc p r = -1 then -1 else plc p r+1
theorem Vh(p:Rq→Bool):∀q:List Rq,(plc p q = -1∧∀a∈q,p a=false)∨∃k:Nat,plc p q=k∧∃h:k<q.length,p q[k]=true∧∀i (hi:i<q.length),i<k→p q[i]=false
 | []=>.inl ⟨rfl,by simp⟩
 | a::r=>by
  unfold plc
  cases e:p a with
  | true=>exact .inr ⟨0,rfl,by simp,e,fun i _ h=>by omega⟩
  | false =>
   rcases Vh p r with⟨h1,h2⟩ | ⟨k,h1,h2,h3,h4⟩
   ·rw[h1]
    refine .inl ⟨rfl,fun x hx=>?_⟩
    rcases List.mem_cons.1 hx with rfl | hx
    ·exact e
    ·exact h2 x hx
   ·rw[h1]
    refine .inr ⟨k+1,?_,by simpa using h2,h3,fun i hi hik=>?_⟩
    ·simp only[Bool.false_eq_true,if_false]
     rw[if_neg (by omega)];rfl
    ·cases i with
     | zero=>exact e
     | succ i=>exact h4 i (by simpa using hi) (by omega)
theorem Z72{p:Rq→Bool}{q:List Rq}{k:Nat}(hk:k<q.length)(h:p q[k]=true)(hb:∀i (hi:i<q.length),i<k→p q[i]=false):plc p q=k:=by
 rcases Vh p q with⟨_,h2⟩ | ⟨j,h1,h2,h3,h4⟩
 ·rw[h2 _ (gM0 hk)] at h;cases h
 ·rw[h1]
  rcases Nat.lt_trichotomy j k with g | g | g
  ·rw[hb j h2 g] at h3;cases h3
  ·rw[g]
  ·rw[h4 k hk g] at h;cases h
theorem Z5n{p:Rq→Bool}{q:List Rq}(h:∀i (hi:i<q.length),p q[i]=false):plc p q = -1:=by
 rcases Vh p q with⟨h1,_⟩ | ⟨j,h1,h2,h3,_⟩
 ·exact h1
 ·rw[h j h2] at h3;cases h3
theorem Z7y(v f:Value)(p:Rq→Bool)(q:List Rq)(w:World)(hl:q.length≤1000)(h:Y7 w v q)(hf:Yr w f p) :
  Calls prog 78 #[v,f] w fun e w'=>e=.returned (.int .i64 (plc p q))∧Nw w w':=by
 obtain⟨g,lb,rfl,eg,hT⟩:=hf
 have HT:=hD0 hT
 clear hT
 obtain⟨a,c,rfl,⟨rfl,_⟩ | ⟨b,o,rfl,hc⟩⟩:=h
 ·go_enter func78,ntmps78
  go_wp2
  refine wp_loop_rounds 1 ?_
  repeat (rw[rounds_succ];go_wp2)
  go_ret
  exact⟨rfl,Nw.refl _⟩
 ·have H:=hD0 hc
  clear hc
  obtain⟨V,hV⟩:∃V,plc p q=V:=⟨_,rfl⟩
  rw[hV]
  have HV:=hD0 hV
  clear hV
  go_enter func78,ntmps78
  go_wp2
  go_loopw [8] (fun i wr=>∃k:Nat,k≤q.length∧i=.int .i64 k∧(∀i (hi:i<q.length),i<k→p q[i]=false)∧Nw w wr) (fun i _=>q.length-(intOf i).toNat)
  case atStart=>exact⟨0,Nat.zero_le _,rfl,fun _ _ h=>by omega,Nw.refl _⟩
  case round =>
   obtain⟨k,hk,rfl,hF,hN⟩:=hrel
   by_cases hlt:k<q.length
   ·have hce:=(H.out.nw hN).cell k hlt
    obtain⟨R,hR⟩:∃R,q[k]=R:=⟨_,rfl⟩
    rw[hR] at hce
    have HC:=hD0 (HT.out R)
    have HS:=hD0 hR
    have HF:=hD0 hF
    have HN:=hD0 hN
    clear hR hF hN
    obtain⟨B,hB⟩:∃B,p R=B:=⟨_,rfl⟩
    rw[hB] at HC
    have HB:=hD0 hB
    clear hB
    obtain⟨b0,b1,b2,b3,b4⟩:=R
    have e0:=hce 0 _ rfl
    have e1:=hce 1 _ rfl
    have e2:=hce 2 _ rfl
    have e3:=hce 3 _ rfl
    have e4:=hce 4 _ rfl
    simp only[Nat.add_zero] at e0
    clear hce
    cases B
    case true =>
     go_wp2_with (go_at_fn g;refine(HC.out _ HN.out).mono ?_;rintro e w1 ⟨rfl,g1⟩)
     go_ret
     exact⟨by rw[←HV.out,Z72 hlt (by rw[HS.out];exact HB.out) HF.out];rfl,HN.out.trans g1⟩
    case false =>
     go_wp2_with (go_at_fn g;refine(HC.out _ HN.out).mono ?_;rintro e w1 ⟨rfl,g1⟩)
     go_roundw
     case rel =>
      refine⟨k+1,by omega,by go_num,fun i hi hik=>?_,HN.out.trans g1⟩
      by_cases q:i<k
      ·exact HF.out i hi q
      ·have:i=k:=by omega
       subst this
       rw[HS.out];exact HB.out
     case measure=>simp[intOf];omega
   ·have HF:=hD0 hF
    have HN:=hD0 hN
    clear hF hN
    go_wp2
    go_ret
    exact⟨by rw[←HV.out,Z5n fun i hi=>HF.out i hi (by omega)];rfl,HN.out⟩
theorem Z8y(t r W:Int)(v f:Value)(p:Rq→Bool)(q:List Rq)(w:World)(hl:q.length≤1000)(h:Y7 w v q)(hf:Yr w f p) :
  Calls prog 57 #[Ua t r v W,f] w fun e w'=>e=.returned (.int .i64 (plc p q))∧Nw w w':=by
 have HI:=hD0 (fun(w1:World) (g:Nw w w1)=>Z7y v f p q w1 hl (h.nw g) (hf.nw g))
 obtain⟨a,c,rfl⟩:=h.form
 obtain⟨g,lb,rfl,_⟩:=hf
 unfold Ua
 clear h
 have hN:Nw w (w.alloc (.cells #[.int .i64 t,.int .i64 r,.slice a q.length c,.int .i64 W] 27)):=(Nw.refl w).alloc _
 go_enter func57,ntmps57
 go_wp2_with (go_at_call 78;refine(HI.out _ hN).mono ?_;rintro e w1 ⟨rfl,g1⟩)
 go_ret
 exact⟨rfl,hN.trans g1⟩
section
open Go.RowKit Go.Maps Go.ChangeMaps
section
variable {w w':World} {b n:Nat} {c:Int→Int}
end
theorem dCp(a b:Int)(w:World)(ha:Yk a=true)(hb:Yk b=true):Calls prog 44 #[.int .i64 a,.int .i64 b] w fun e w'=>e=.returned (.bool (Vq a b))∧Nw w w':=by
 have h1:=(V1 a).1 ha
 have h2:=(V1 b).1 hb
 rw[Z7h a b ha hb]
 exact Z7w a b w h1.1 h1.2 h2.1 h2.2
end
end Go.Proofs.Ytpmlaphjlghpmaa
