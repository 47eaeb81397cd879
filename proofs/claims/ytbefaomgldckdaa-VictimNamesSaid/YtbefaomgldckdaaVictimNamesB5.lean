/- Texts merged: QuD, Lex, Ord, OrdP, QuG, QuW, VaN, VbC, WcG, BdF, TbM, SortE -/
import Derived.Test.YtbefaomgldckdaaVictimNamesB4
import Derived.Deep.Cut
import Derived.Shelf.SlSortCmp.NoneTotal
import Derived.Test.YtbefaomgldckdaaChecked
import Derived.StillTailTactics
set_option linter.unusedVariables false
set_option maxRecDepth 100000
set_option maxHeartbeats 16000000
namespace Go.Proofs.Ytbefaomgldckdaa
open Go.RowKit _root_.Go.Proofs.Try
def Z92(q:List Rq)(id i:Int):Prop:=(i = -1∧fnd q id=none)∨∃k:Nat,i=k∧∃h:k<q.length,fnd q id=some q[k]
section
open Go
def Yd(ops:Array Oper)(o:Oper):Option Tmp × List Tmp × List Nat:=(o.dst,o.looksAt ops,(o.after.toList.filter (Region.binds .any)).map (·.on))
def Z35(k:Nat)(x y:Option Tmp × List Tmp × List Nat):Bool :=
 y.2.2.contains k || ((match x.1 with
  | some d=>!y.2.1.contains d&&y.1 != some d
  | none=>true)&&(match y.1 with
  | some d=>!x.2.1.contains d
  | none=>true))
end
section
open Go
def Zt(k:Nat)(q:Option (Nat × Option Tmp × List Tmp × List Nat))(e:Nat):Bool :=
 decide (e<k)&&(match q with
  | some y=>!(e==y.1)
  | none=>true)
def Vl:List (Option Bool)→Nat→List (Option Tmp × List Tmp × List Nat)→Option (Nat × Option Tmp × List Tmp × List Nat)→Bool
 | [],_,l,q=>l.isEmpty&&q.isNone
 | some true::fs,k,l,q =>
  match l with
  | []=>false
  | x::r=>x.2.2.all (Zt k q)&&r.all (Z35 k x)&&(match q with
   | some y=>Z35 k x y.2
   | none=>true)&&Vl fs (k+1) r q
 | some false::fs,k,l,q =>
  match l,q with
  | x::r,none=>Vl fs (k+1) r (some (k,x))
  | _,_=>false
 | none::fs,k,l,q =>
  match q with
  | some y=>y.2.2.2.all (Zt k q)&&l.all (fun x=>x.2.2.any fun e=>!Zt k q e)&&Vl fs k l none
  | none=>false
def HW(P:Program)(ops:Array Oper)(Q:Exit→Act→World→Prop)(S:World→Prop):List (Option Bool)→List Oper→Option Oper→Act→World→Prop
 | [],_,_,a,w=>Q .normal a w
 | some true::fs,l,q,a,w =>
  match l with
  | []=>False
  | o::r=>∃v,YieldsIf P ops S o v a∧HW P ops Q S fs r q (a.put o.dst v) w
 | some false::fs,l,q,a,w =>
  match l,q with
  | o::r,none=>HW P ops Q S fs r (some o) a w
  | _,_=>False
 | none::fs,l,q,a,w =>
  match q with
  | some o=>∀K':Act→World→Prop,Shut (∀a w,S w→(S w→HW P ops Q S fs l none a w)→K' a w)→if Region.wanted o (yielded ops a.tmps)=true then Oper.wp P o a w K' Q else K' (a.put o.dst undef) w
  | none=>False
section
variable {P:Program} {ops:Array Oper} {Q:Exit→Act→World→Prop} {S:World→Prop}
theorem HW.end_{l:List Oper}{q:Option Oper}{a:Act}{w:World}(h:Q .normal a w):HW P ops Q S [] l q a w:=h
theorem HW.take'{fs:List (Option Bool)}{o:Oper}{r:List Oper}{q:Option Oper}{a:Act}{w:World}(h:∃v,YieldsIf P ops S o v a∧HW P ops Q S fs r q (a.put o.dst v) w):HW P ops Q S (some true::fs) (o::r) q a w:=h
theorem HW.off{fs:List (Option Bool)}{o:Oper}{r:List Oper}{a:Act}{w:World}(h:HW P ops Q S fs r (some o) a w):HW P ops Q S (some false::fs) (o::r) none a w:=h
theorem HW.go{fs:List (Option Bool)}{o:Oper}{l:List Oper}{a:Act}{w:World}
  (h:∀K':Act→World→Prop,Shut (∀a w,S w→(S w→HW P ops Q S fs l none a w)→K' a w)→if Region.wanted o (yielded ops a.tmps)=true then Oper.wp P o a w K' Q else K' (a.put o.dst undef) w):HW P ops Q S (none::fs) l (some o) a w:=h
theorem Z19{k:Nat}{o oj:Oper}(h:Z35 k (Yd ops o) (Yd ops oj)=true)(hno:∀e∈oj.after,Region.binds .any e=true→e.on≠k):o.apart ops oj=true:=by
 unfold Z35 at h
 rw[Bool.or_eq_true] at h
 rcases h with h | h
 ·obtain⟨e,he,heq⟩:=List.mem_map.1 (List.contains_iff_mem.1 h)
  obtain⟨he1,he2⟩:=List.mem_filter.1 he
  exact absurd heq (hno e (Array.mem_toList_iff.1 he1) he2)
 ·exact h
theorem HW.run(hs:Region.noSelect ops=true)(hQ:∀c a d v w,Q (.panic c) (Act.put a d v) w→Q (.panic c) a w):∀(fs:List (Option Bool)) (k:Nat) (l:List Oper) (qi:Option (Nat × Oper)) (listed:Array Bool) (a:Act) (w:World),
  (∀j,l[j]?=ops[k+j]?)→k+l.length=ops.size→(∀p,qi=some p→ops[p.1]?=some p.2∧p.1<k)→listed.size=ops.size →
  (∀j,j<ops.size→(listed.getD j false=true↔Zt k (qi.map fun p=>(p.1,Yd ops p.2)) j=true)) →
  Vl fs k (l.map (Yd ops)) (qi.map fun p=>(p.1,Yd ops p.2))=true→S w→HW P ops Q S fs l (qi.map (·.2)) a w →
  wpAnyH P .any ops Q S (l.length+(qi.map fun _=>1).getD 0) listed a w
 | [],k,l,qi,listed,a,w,hl,hn,hq,hsz,hD,hB,hS,h=>by
  unfold Vl at hB
  rw[Bool.and_eq_true] at hB
  obtain rfl:l=[]:=by cases l with
   | nil=>rfl
   | cons o r=>simp at hB
  obtain rfl:qi=none:=by cases qi with
   | none=>rfl
   | some p=>simp at hB
  refine wpAnyH_done ?_ h _
  rw[List.eq_nil_iff_forall_not_mem]
  intro j hj
  obtain⟨h1,o,ho,_⟩:=mem_ready.1 hj
  have hlt:j<ops.size:=(Array.getElem?_eq_some_iff.1 ho).1
  have h2:=(hD j hlt).2 (by unfold Zt;simp at hn ⊢;omega)
  simp[hsz,hlt] at h1 h2
  rw[h1] at h2
  cases h2
 | some true::fs,k,[],qi,listed,a,w,hl,hn,hq,hsz,hD,hB,hS,h=>by unfold Vl at hB;simp at hB
 | some true::fs,k,o::r,qi,listed,a,w,hl,hn,hq,hsz,hD,hB,hS,h=>by
  have h0:ops[k]?=some o:=by simpa using(hl 0).symm
  have hk:k<ops.size:=(Array.getElem?_eq_some_iff.1 h0).1
  simp only[List.map_cons,Vl,Bool.and_eq_true,List.all_eq_true] at hB
  obtain⟨⟨⟨hd,hp⟩,hpq⟩,hB'⟩:=hB
  obtain⟨v,hy,hK⟩:=h
  have hnk:∀p,qi=some p→p.1≠k:=fun p hp=>Nat.ne_of_lt (hq p hp).2
  have hun:listed.getD k true=false:=by
   have h1:¬listed.getD k false=true:=fun e=>by
    have:=(hD k hk).1 e
    unfold Zt at this
    simp at this
   simp[hsz,hk] at h1 ⊢
   exact h1
  have hr:k∈Region.ready .any ops listed:=by
   refine mem_ready.2 ⟨hun,o,h0,fun e he hb=>?_⟩
   have hdn:=hd e.on (List.mem_map.2 ⟨e,List.mem_filter.2 ⟨Array.mem_toList_iff.2 he,hb⟩,rfl⟩)
   have hek:e.on<k:=by unfold Zt at hdn;simp at hdn;exact hdn.1
   exact(hD e.on (by omega)).2 hdn
  have hfree:∀j oj,ops[j]?=some oj→j≠k→listed.getD j true=false→(∀e∈oj.after,Region.binds .any e=true→e.on≠k)→o.apart ops oj=true:=by
   intro j oj hoj hne hju hno
   have hj:j<ops.size:=(Array.getElem?_eq_some_iff.1 hoj).1
   have hnd:¬Zt k (qi.map fun p=>(p.1,Yd ops p.2)) j=true:=fun e=>by
    have:=(hD j hj).2 e
    simp[hsz,hj] at this hju
    rw[this] at hju
    cases hju
   rcases Nat.lt_or_ge j k with g | g
   ·cases hqi:qi with
    | none=>rw[hqi] at hnd;exact absurd (by unfold Zt;simp[g]) hnd
    | some p =>
     rw[hqi] at hnd hpq
     have hjp:j=p.1:=by
      rcases Nat.decEq j p.1 with h | h
      ·exact absurd (by unfold Zt;simp[g,h]) hnd
      ·exact h
     have hpo:=(hq p hqi).1
     rw[←hjp,hoj] at hpo
     obtain rfl:=Option.some.inj hpo
     exact Z19 hpq hno
   ·have hlj:=hl (j-k)
    rw[show k+(j-k)=j by omega,hoj,show j-k=(j-k-1)+1 by omega,List.getElem?_cons_succ] at hlj
    exact Z19 (hp _ (List.mem_map.2 ⟨oj,List.mem_of_getElem? hlj,rfl⟩)) hno
  have ih:=HW.run hs hQ fs (k+1) r qi (listed.setIfInBounds k true) (a.put o.dst v) w (fun j=>by
    have:=hl (j+1)
    simpa [Nat.add_assoc,Nat.add_comm 1 j] using this) (by simp at hn;omega) (fun p hp=>⟨(hq p hp).1,Nat.lt_succ_of_lt (hq p hp).2⟩) (by simpa using hsz) (fun j hj=>by
    by_cases hjk:k=j
    ·subst hjk
     have h1:(listed.setIfInBounds k true).getD k false=true:=by simp[hsz,hk]
     refine⟨fun _=>?_,fun _=>h1⟩
     unfold Zt
     cases hqi:qi with
     | none=>simp
     | some p=>have:=hnk p hqi;simp;exact fun e=>this e.symm
    ·rw[getD_set_ne false hjk,hD j hj]
     unfold Zt
     have:decide (j<k+1)=decide (j<k):=decide_eq_decide.2 (by omega)
     rw[this]) hB' hS hK
  rw[show(o::r).length+(qi.map fun _=>1).getD 0=(r.length+(qi.map fun _=>1).getD 0)+1 by simp;omega]
  exact wpAnyH_first h0 (Region.noSelect_spec hs) (fun c a w=>hQ c a _ _ w) _ listed a w hfree hr hy hS ih
 | some false::fs,k,[],qi,listed,a,w,hl,hn,hq,hsz,hD,hB,hS,h=>by unfold Vl at hB;simp at hB
 | some false::fs,k,o::r,some p,listed,a,w,hl,hn,hq,hsz,hD,hB,hS,h=>by unfold Vl at hB;simp at hB
 | some false::fs,k,o::r,none,listed,a,w,hl,hn,hq,hsz,hD,hB,hS,h=>by
  have h0:ops[k]?=some o:=by simpa using(hl 0).symm
  have ih:=HW.run hs hQ fs (k+1) r (some (k,o)) listed a w (fun j=>by
    have:=hl (j+1)
    simpa [Nat.add_assoc,Nat.add_comm 1 j] using this) (by simp at hn;omega) (fun p hp=>by obtain rfl:=Option.some.inj hp;exact⟨h0,Nat.lt_succ_self _⟩) hsz (fun j hj=>by
    rw[hD j hj]
    unfold Zt
    simp
    omega) (by unfold Vl at hB;exact hB) hS h
  exact ih
 | none::fs,k,l,none,listed,a,w,hl,hn,hq,hsz,hD,hB,hS,h=>by unfold Vl at hB;simp at hB
 | none::fs,k,l,some p,listed,a,w,hl,hn,hq,hsz,hD,hB,hS,h=>by
  obtain⟨i,o⟩:=p
  obtain⟨h0,hik⟩:=hq (i,o) rfl
  have hi:i<ops.size:=(Array.getElem?_eq_some_iff.1 h0).1
  simp only[Option.map_some,Vl,Bool.and_eq_true,List.all_eq_true,List.any_eq_true] at hB
  obtain⟨⟨hd,hw⟩,hB'⟩:=hB
  have hDu:∀j,j<ops.size→¬Zt k (some (i,Yd ops o)) j=true→listed.getD j true=false:=fun j hj hnd=>by
   have h1:¬listed.getD j false=true:=fun e=>hnd ((hD j hj).1 e)
   simp[hsz,hj] at h1 ⊢
   exact h1
  have hr:i∈Region.ready .any ops listed:=by
   refine mem_ready.2 ⟨hDu i hi (by unfold Zt;simp),o,h0,fun e he hb=>?_⟩
   have hdn:=hd e.on (List.mem_map.2 ⟨e,List.mem_filter.2 ⟨Array.mem_toList_iff.2 he,hb⟩,rfl⟩)
   have hek:e.on<k:=by unfold Zt at hdn;simp at hdn;exact hdn.1
   exact(hD e.on (by omega)).2 hdn
  refine⟨fun hz=>(by rw[hz] at hr;cases hr),fun j hj=>?_⟩
  have hji:j=i:=by
   obtain⟨h1,oj,hoj,hall⟩:=mem_ready.1 hj
   have hjs:j<ops.size:=(Array.getElem?_eq_some_iff.1 hoj).1
   rcases Nat.decEq j i with hne | he
   case isTrue=>exact he
   exfalso
   have hnd:¬Zt k (some (i,Yd ops o)) j=true:=fun e=>by
    have:=(hD j hjs).2 e
    simp[hsz,hjs] at this h1
    rw[this] at h1
    cases h1
   have hjk:k≤j:=by
    rcases Nat.lt_or_ge j k with g | g
    ·exact absurd (by unfold Zt;simp[g,hne]) hnd
    ·exact g
   have hlj:=hl (j-k)
   rw[show k+(j-k)=j by omega,hoj] at hlj
   obtain⟨e,he,hen⟩:=hw _ (List.mem_map.2 ⟨oj,List.mem_of_getElem? hlj,rfl⟩)
   obtain⟨ea,hea,rfl⟩:=List.mem_map.1 he
   obtain⟨he1,he2⟩:=List.mem_filter.1 hea
   have hls:=hall ea (Array.mem_toList_iff.1 he1) he2
   have hlt:ea.on<ops.size:=by
    rcases Nat.lt_or_ge ea.on ops.size with g | g
    ·exact g
    ·rw[←hsz] at g;simp[Array.getElem?_eq_none g] at hls
   have h3:=(hD ea.on hlt).1 hls
   simp only[Option.map_some] at h3
   rw[h3] at hen
   cases hen
  subst hji
  refine wpOp_step h0 (fun K' hK=>h K' (fun a' w' hS' hW=>hK a' w' ⟨hS',?_⟩))
  exact HW.run hs hQ fs k l none (listed.setIfInBounds j true) a' w' hl hn (fun p hp=>by cases hp) (by simpa using hsz) (fun m hm=>by
   by_cases hmj:j=m
   ·subst hmj
    have h1:(listed.setIfInBounds j true).getD j false=true:=by simp[hsz,hi]
    exact⟨fun _=>by unfold Zt;simp[hik],fun _=>h1⟩
   ·rw[getD_set_ne false hmj,hD m hm]
    unfold Zt
    have:¬m=j:=fun e=>hmj e.symm
    simp[this]) hB' hS' (hW hS')
theorem Vv{id:Nat}{a:Act}{w:World}{l:List Oper}(fs:List (Option Bool))(S:World→Prop)(hm:P.follows .mixedOrders=true)(hs:Region.noSelect l.toArray=true)
  (hB:Vl fs 0 (l.map (Yd l.toArray)) none=true) (hS:S w.drew) (h:HW P l.toArray (NoPanic Q) S fs l none a w.drew):(Code.region id l.toArray true).wp P Q a w:=by
 refine wp_region_noPanic (wp_region_held (S:=S) hm ?_)
 have:=HW.run hs (fun c a d v w h=>h) fs 0 l none (Array.replicate l.toArray.size false) a w.drew (by simp) (by simp) (fun p hp=>by cases hp) (by simp) (fun j hj=>by unfold Zt;simp at hj ⊢;simp[hj]) hB hS h
 simpa using this
end
end
section
open Go
inductive Pl where
 | fin
 | take (p:Pl)
 | off (p:Pl)
 | go1 (p:Pl)
 | go2 (p q:Pl)
abbrev Inf:=Option Tmp × List Tmp × List Nat
def Z8j(k:Nat)(qs:List (Nat × Inf))(e:Nat):Bool:=decide (e<k)&&qs.all fun y=>!(e==y.1)
def HP(P:Program)(ops:Array Oper)(Q:Exit→Act→World→Prop)(S:World→Prop):Pl→List Oper→List Oper→Act→World→Prop
 | .fin,_,_,a,w=>Q .normal a w
 | .take p,l,qs,a,w =>
  match l with
  | []=>False
  | o::r=>∃v,YieldsIf P ops S o v a∧HP P ops Q S p r qs (a.put o.dst v) w
 | .off p,l,qs,a,w =>
  match l with
  | []=>False
  | o::r=>HP P ops Q S p r (qs++[o]) a w
 | .go1 p,l,qs,a,w =>
  match qs with
  | [o]=>∀K':Act→World→Prop,Shut (∀a w,S w→(S w→HP P ops Q S p l [] a w)→K' a w)→if Region.wanted o (yielded ops a.tmps)=true then Oper.wp P o a w K' Q else K' (a.put o.dst undef) w
  | _=>False
 | .go2 p q,l,qs,a,w =>
  match qs with
  | [o,o']=>(∀K':Act→World→Prop,Shut (∀a w,S w→(S w→HP P ops Q S p l [o'] a w)→K' a w)→if Region.wanted o (yielded ops a.tmps)=true then Oper.wp P o a w K' Q else K' (a.put o.dst undef) w) ∧
    ∀K':Act→World→Prop,Shut (∀a w,S w→(S w→HP P ops Q S q l [o] a w)→K' a w)→if Region.wanted o' (yielded ops a.tmps)=true then Oper.wp P o' a w K' Q else K' (a.put o'.dst undef) w
  | _=>False
section
variable {P:Program} {ops:Array Oper} {Q:Exit→Act→World→Prop} {S:World→Prop}
def Z9e(ops:Array Oper)(qs:List (Nat × Oper)):List (Nat × Inf):=qs.map fun p=>(p.1,Yd ops p.2)
structure HI(ops:Array Oper)(k:Nat)(l:List Oper)(qs:List (Nat × Oper))(listed:Array Bool):Prop where
 rest:∀j,l[j]?=ops[k+j]?
 len:k+l.length=ops.size
 put:∀p∈qs,ops[p.1]?=some p.2∧p.1<k
 size:listed.size=ops.size
 come:∀j,j<ops.size→(listed.getD j false=true↔Z8j k (Z9e ops qs) j=true)
end
end
def Z2k(q:List Rq)(id:Int):Value:=match fnd q id with
 | none=>.tuple #[U6 ⟨0,0,0,0,0⟩,.bool false]
 | some r=>.tuple #[U6 r,.bool true]
def Yu(x:Int):List Value:=[.int .i64 x]
theorem Z7r:Uv prog 28 3 1 8 Yu where
 und:=underlying28
 inf:=by
  have h:(prog.info? 3).map (fun i=>(i.zero,i.size,i.bytes))=some (some (.int .i64 0),1,8):=by kernel_rfl
  cases e:prog.info? 3 with
  | none=>rw[e] at h;cases h
  | some i =>
   rw[e] at h
   simp only[Option.map_some,Option.some.injEq,Prod.mk.injEq] at h
   exact⟨i,_,rfl,h.1,h.2.1,h.2.2,rfl⟩
 pos:=by decide
 byt:=by decide
 len:=fun _=>rfl
 one:=fun a u hu=>by
  simp only[Yu,List.mem_cons,List.not_mem_nil,or_false] at hu
  subst hu;rfl
theorem Z10:∀l:List Int,Z7 Yu l=l.map (Value.int .i64)
 | []=>rfl
 | a::r=>by
  show Yu a++Z7 Yu r=_
  rw[Z10 r];rfl
theorem IS.own{w:World}{v:Value}{l:List Int}(h:IS w v l):Y4 3 1 Yu w 0 v l:=by
 unfold Y4
 rw[Z10];exact h
theorem Y4.is{w:World}{g0:Nat}{v:Value}{l:List Int}(h:Y4 3 1 Yu w g0 v l):IS w v l:=by
 unfold Y4 at h
 rw[Z10] at h
 exact Z55 h (fun _ _=>Nat.zero_le _)
abbrev InO(w:World)(g0:Nat)(v:Value)(l:List Int):Prop:=Y4 3 1 Yu w g0 v l
abbrev Z18(w:World)(v:Value)(l:List Int):Prop:=Rd 1 Yu w v l
theorem IS.nm{w:World}{v:Value}{l:List Int}(h:IS w v l):Z18 w v l:=Y4.rd (fun _=>rfl) h.own
theorem V6{w0:World}{v f:Value}{l:List Int}{ages:List (Int × Int)}(h:Z18 w0 v l)(hf:Z0j w0 f (cmA ages))(hl:l.length≤200000)(hF:∀x∈l,Z6 x) :
  Calls prog 10 #[v,f] w0 fun e w'=>e=.returned (.tuple #[.int .i64 (bsF ages l),.bool (decide (0<l.length))])∧Nw w0 w':=by
 obtain⟨la,lc,rfl,hx⟩:=h
 have HD:=hD0 hx
 have HF:=hD0 hF
 obtain⟨g,lb,rfl,eg,hc⟩:=hf
 have HC:=hD0 hc
 obtain⟨n,hn⟩:∃n,l.length=n:=⟨_,rfl⟩
 have HN:=hD0 hn
 obtain⟨V,hV⟩:∃V,bsF ages l=V:=⟨_,rfl⟩
 have HV:=hD0 hV
 rw[hn,hV]
 have hln:n≤200000:=hn▸hl
 clear hx hF hc hn hV hl
 go_enter func10,ntmps10
 go_wp2_with fail
 go_loopw [6,11] (fun v6 v11 wr=>∃(k:Nat) (o:Int),v6=.int .i64 o∧v11=.int .i64 k∧k≤n∧Hid (o=bsF ages (l.take k)∧Nw w0 wr)) (fun _ v11 _=>n-(intOf v11).toNat)
 case atStart=>exact⟨0,0,rfl,rfl,Nat.zero_le _,hD0 ⟨rfl,Nw.refl _⟩⟩
 case round =>
  obtain⟨k,o,rfl,rfl,hk,HG⟩:=hrel
  by_cases hlt:k<n
  ·have hkl:k<l.length:=by rw[HN.out];exact hlt
   rcases HD.out with⟨q,_⟩ | ⟨lg,lo,rfl,hrc⟩
   ·rw[q] at hkl;simp at hkl
   obtain⟨x,hx⟩:∃x,l[k]=x:=⟨_,rfl⟩
   have hfx:=HF.out x (hx▸gM0 hkl)
   have hsn:l.take (k+1)=l.take k++[x]:=by rw[List.take_succ_eq_append_getElem hkl,hx]
   have cx:wr.cell? ⟨lg,lo+k,none⟩=some (.int .i64 x):=by
    have:=(hrc.nw HG.out.2).cell k hkl 0 (.int .i64 x) (by rw[hx];rfl)
    simpa using this
   have hlgl:=(hrc.nw HG.out.2).lt
   have Yh:=Y6 hlt
   have hw:=Ya k (k+1) (by omega) rfl
   obtain⟨k1,hk1⟩:∃m,k+1=m:=⟨_,rfl⟩
   have HK1:=hD0 (aI0 hk1 hlt)
   rw[hk1] at hw
   by_cases h0:k=0
   ·have d0:decide (k=0)=true:=decide_eq_true h0
    have d1:((k:Int)==0)=true:=by rw[h0];rfl
    have HO:=hD0 (show x=bsF ages (l.take k1) from by
     rw[←hk1,hsn,h0]
     rfl)
    clear h0 hk1 hkl hrc hlt hx hfx hsn
    go_wp2_with fail
    exact⟨⟨k1,x,rfl,rfl,by rw[←HK1.out.1];exact HK1.out.2,hD0 ⟨HO.out,HG.out.2⟩⟩,by rw[←HK1.out.1];exact Ye HK1.out.2⟩
   ·have d0:decide (k=0)=false:=decide_eq_false h0
    have d1:((k:Int)==0)=false:=by rw[beq_eq_false_iff_ne];omega
    have d2:¬(k:Int)=0:=by omega
    have hne:l.take k≠[]:=fun e=>by
     have:=congrArg List.length e
     rw[List.length_take,Nat.min_eq_left (Nat.le_of_lt hkl)] at this
     exact h0 this
    have hfo:Z6 o:=HF.out o (by
     rw[HG.out.1]
     exact List.mem_of_mem_take (Z5y hne))
    have HB:=hD0 (show bsF ages (l.take k1)=Ys ages o x from by
     rw[←hk1,hsn,Z4f hne,←HG.out.1])
    have HCx:=hD0 (HC.out x o wr hfx hfo HG.out.2)
    have HP:=hD0 (Z60 ages x o)
    have HNw:=hD0 HG.out.2
    obtain⟨z,hz⟩:∃z,cmA ages x o=z:=⟨_,rfl⟩
    rw[hz] at HCx HP
    clear h0 hk1 hkl hrc hlt hx hfx hsn hne hfo HG hz
    go_wp2_with fail
    go_at_fn g
    refine HCx.out.mono ?_
    rintro e w1 ⟨rfl,g1⟩
    have HG1:=hD0 (HNw.out.trans g1)
    clear g1 HCx cx hlgl
    by_cases c1:0<z
    ·have dz:decide (0<z)=true:=decide_eq_true c1
     have HO:=hD0 (show x=bsF ages (l.take k1) from by
      rw[HB.out];unfold Ys;rw[if_pos (HP.out.1 c1)])
     clear c1
     go_wp2_with fail
     exact⟨⟨k1,x,rfl,rfl,by rw[←HK1.out.1];exact HK1.out.2,hD0 ⟨HO.out,HG1.out⟩⟩,by rw[←HK1.out.1];exact Ye HK1.out.2⟩
    ·have dz:decide (0<z)=false:=decide_eq_false c1
     have HO:=hD0 (show o=bsF ages (l.take k1) from by
      rw[HB.out];unfold Ys;rw[if_neg (fun q=>c1 (HP.out.2 q))])
     clear c1
     go_wp2_with fail
     exact⟨⟨k1,o,rfl,rfl,by rw[←HK1.out.1];exact HK1.out.2,hD0 ⟨HO.out,HG1.out⟩⟩,by rw[←HK1.out.1];exact Ye HK1.out.2⟩
  ·obtain rfl:k=n:=Nat.le_antisymm hk (Nat.le_of_not_lt hlt)
   have Yh:¬k<k:=Nat.lt_irrefl k
   have HO:=hD0 (show o=V∧Nw w0 wr from⟨by
    rw[HG.out.1,←HV.out,List.take_of_length_le (Nat.le_of_eq HN.out)],HG.out.2⟩)
   have dk:decide ((0:Int)<(k:Int))=decide (0<k):=by
    rw[Bool.eq_iff_iff,decide_eq_true_iff,decide_eq_true_iff]
    omega
   clear hlt HG
   go_wp2_with fail
   refine bodyPost_ret (v:=.tuple #[.int .i64 V,.bool (decide (0<k))]) (by simp[results,results10,go_sem,HO.out.1,dk, *]) rfl ⟨rfl,HO.out.2⟩
theorem Uq{w0:World}{v va:Value}{l:List Int}{ages:List (Int × Int)}(h:Z18 w0 v l)(ha:Zl w0 va ages)(hal:ages.length≤1000)(hl:l.length≤200000)(hfa:∀e∈ages,Z6 e.1)(hF:∀x∈l,Z6 x) :
  Calls prog 5 #[v,va] w0 fun e w'=>e=.returned (.tuple #[.int .i64 (bsF ages l),.bool (decide (0<l.length))])∧Nw w0 w':=by
 have HB:=hD0 (Z05 ha hal hfa)
 have HG:=hD0 (fun(z:World) (g:Nw w0 z) (f:Value) (hf:Z0j z f (cmA ages))=>V6 (h.nw g) hf hl hF)
 obtain⟨n,hn⟩:∃n,decide (0<l.length)=n:=⟨_,rfl⟩
 obtain⟨V,hV⟩:∃V,bsF ages l=V:=⟨_,rfl⟩
 rw[hn,hV] at HG ⊢
 obtain⟨la,lc,rfl,_⟩:=h
 obtain⟨ga,gc,rfl,_⟩:=ha
 clear hn hV hF hfa
 go_enter func5,ntmps5
 go_wp2_with fail
 refine HB.out.mono ?_
 rintro e w1 ⟨f,rfl,hC,g1⟩
 have HG1:=hD0 g1
 have HC1:=hD0 (HG.out w1 g1 f hC)
 obtain⟨k,lb,rfl,_⟩:=hC
 clear g1 HB HG
 go_wp2_with fail
 refine HC1.out.mono ?_
 rintro e w2 ⟨rfl,g2⟩
 have HG2:=hD0 (HG1.out.trans g2)
 clear g2 HC1
 go_wp2_with fail
 exact bodyPost_ret (v:=.tuple #[.int .i64 V,.bool n]) (by simp[results,results5,go_sem, *]) rfl ⟨rfl,HG2.out⟩
theorem Z2w{w0:World}{v va:Value}{c:List Int}{ages:List (Int × Int)}(h:Z18 w0 v c)(hc:c=[])(ha:Zl w0 va ages)(hl:ages.length≤1000)(hfa:∀e∈ages,Z6 e.1) :
  Calls prog 5 #[v,va] w0 fun e w'=>e=.returned (.tuple #[.int .i64 0,.bool false])∧Nw w0 w':=by
 subst hc
 exact Uq h ha hl (Nat.zero_le _) hfa (fun x hx=>nomatch hx)
theorem Vw{w0:World}{v va:Value}{a:Int}{r:List Int}{ages:List (Int × Int)}(h:Z18 w0 v (a::r))(ha:Zl w0 va ages)(hl:ages.length≤1000)(hr:r.length≤100000)(hfa:∀e∈ages,Z6 e.1)(hF:∀x∈a::r,Z6 x) :
  Calls prog 5 #[v,va] w0 fun e w'=>e=.returned (.tuple #[.int .i64 (Zf ages a r),.bool true])∧Nw w0 w':=by
 have:=Uq h ha hl (by rw[List.length_cons];omega) hfa hF
 rw[decide_eq_true (show 0<(a::r).length from Nat.succ_pos _)] at this
 exact this
theorem Z2t(e:Int × Int)(v:Int)(w:World):Calls prog 50 #[egV e,.int .i64 v] w fun e' w'=>e'=.returned (.int .i64 (cP e.1 v))∧Nw w w':=by
 obtain⟨a,b⟩:=e
 go_enter func50,ntmps50
 go_wp2_with (go_at_call 19;refine(U8 _ _ _).mono ?_;rintro e w' ⟨rfl,rfl⟩)
 go_ret
 exact⟨rfl,(Nw.refl _).alloc _⟩
theorem Z6a:∀args w,(callFunc 50 args).run prog w=.ok (.enter 50 args) w:=enters_of func50 (by kernel_rfl) rfl
theorem Z7w(i j t:Nat)(h:((i:Int)+(j:Int))/2=(t:Int))(hij:i<j):i≤t∧t<j:=by omega
structure BsI(E:List (Int × Int))(v:Int)(w:World)(i j:Nat)(wr:World):Prop where
 ij:i≤j
 jn:j≤E.length
 lo:∀k (hk:k<E.length),k<i→E[k].1<v
 hi:∀(h:j<E.length),v≤E[j].1
 nw:Nw w wr
theorem BsI.up{E:List (Int × Int)}{v:Int}{w wr w':World}{i j t:Nat}(h:BsI E v w i j wr)(hs:Zh E)(htj:t<j)(ht:t<E.length)(hlt:E[t].1<v)(g:Nw wr w'):BsI E v w (t+1) j w' :=
 ⟨htj,h.jn,fun k hk hkt=>by
  have:=Z8p hs (Nat.le_of_lt_succ hkt) hk ht
  omega,h.hi,h.nw.trans g⟩
theorem BsI.dn{E:List (Int × Int)}{v:Int}{w wr w':World}{i j t:Nat}(h:BsI E v w i j wr)(hit:i≤t)(ht:t<E.length)(hge:v≤E[t].1)(g:Nw wr w'):BsI E v w i t w' :=
 ⟨hit,Nat.le_of_lt ht,h.lo,fun _=>hge,h.nw.trans g⟩
theorem BsI.end_{E:List (Int × Int)}{v:Int}{w wr:World}{i:Nat}(h:BsI E v w i i wr):Vf E v=i:=Z85 h.jn h.lo h.hi
theorem Z5z(v:Int)(ev:Value)(E:List (Int × Int))(w:World)(hl:E.length≤100000)(hs:Zh E)(h:Zl w ev E) :
  Calls prog 49 #[ev,.int .i64 v,.func (.func 50) #[] #[]] w fun e w'=>(∃b,e=.returned (.tuple #[.int .i64 (Vf E v),.bool b]))∧Nw w w':=by
 have HS:=hD0 (fun e w=>Z2t e v w)
 have eg:=Z6a
 have hH:=hD0 h
 have HR:=hD0 hs
 obtain⟨a,c,rfl,h'⟩:=h
 clear hs
 obtain⟨r,hr⟩:∃r,Vf E v=r:=⟨_,rfl⟩
 rw[hr]
 have HRr:=hD0 hr
 clear hr
 obtain⟨n,hn⟩:∃n,E.length=n:=⟨_,rfl⟩
 have HN:=hD0 hn
 rw[hn] at hl ⊢
 clear hn h'
 go_enter func49,ntmps49
 go_wp2
 go_loopw [9,10] (fun vi vj wr=>∃i j:Nat,vi=.int .i64 i∧vj=.int .i64 j∧j≤n∧i≤j∧Hid (BsI E v w i j wr)) (fun vi vj _=>(intOf vj).toNat-(intOf vi).toNat)
 case atStart=>exact⟨0,n,rfl,rfl,Nat.le_refl _,Nat.zero_le _,hD0 ⟨Nat.zero_le _,Nat.le_of_eq HN.out.symm,fun k hk q=>by omega,fun h=>absurd h (by rw[HN.out];exact Nat.lt_irrefl _),Nw.refl _⟩⟩
 case round =>
  obtain⟨i,j,rfl,rfl,hjn,hij,HB⟩:=hrel
  by_cases hlt:i<j
  ·have dlt:decide ((i:Int)<(j:Int))=true:=by rw[decide_eq_true_iff];omega
   have dlt2:decide (i<j)=true:=by simpa using hlt
   have w2:=Z87 i j (by omega) (by omega)
   obtain⟨t,hh⟩:∃t:Nat,((i:Int)+(j:Int))/2=(t:Int):=⟨(i+j)/2,by omega⟩
   obtain⟨hf1,hf2⟩:=Z7w i j t hh hlt
   have htE:t<E.length:=by have:=HN.out;omega
   have htn:t<n:=by omega
   have htn':(t:Int)<(n:Int):=by omega
   have w4:=Z8t t (by omega)
   obtain⟨a',c',e1,hc⟩:=hH.out.nw HB.out.nw
   rcases hc with⟨hc,_⟩ | ⟨b,o,e2,hc⟩
   ·rw[hc] at htE;simp at htE
   ·simp only[Value.slice.injEq] at e1
    obtain⟨rfl,_,rfl⟩:=e1
    subst e2
    obtain⟨c0,c1⟩:=hc.eg htE
    have hbl:=hc.lt
    obtain⟨e,he⟩:∃e,E[t]=e:=⟨_,rfl⟩
    rw[he] at c0 c1
    have HE:=hD0 he
    obtain⟨x,y⟩:=e
    simp only at c0 c1
    have HC:=hD0 (HS.out (x,y))
    clear hc he
    by_cases hx:x<v
    ·have hp:cP x v = -1:=Z4g x v hx
     rw[hp] at HC
     have HX:=hD0 hx
     clear hx
     go_wp2_with (go_at_fn 50;refine(HC.out _).mono ?_;rintro e' w1 ⟨rfl,g1⟩)
     go_roundw
     case rel=>exact⟨t+1,j,congrArg (Value.int .i64) (by first | exact w4 | rfl),rfl,hjn,hf2,hD0 (HB.out.up HR.out hf2 htE (by rw[HE.out];exact HX.out) g1)⟩
     case measure=>first | exact Z4p (i':=t+1) (j':=j) (by omega) | (rw[w4];exact Z4p (i':=t+1) (j':=j) (by omega))
    ·have hp:¬cP x v<0:=by
      unfold cP
      rw[if_neg hx]
      split<;>omega
     obtain⟨z,hz⟩:∃z,cP x v=z:=⟨_,rfl⟩
     rw[hz] at hp HC
     have dz:decide (z<0)=false:=by simpa using hp
     have HX:=hD0 (Int.not_lt.1 hx)
     clear hx hp hz
     go_wp2_with (go_at_fn 50;refine(HC.out _).mono ?_;rintro e' w1 ⟨rfl,g1⟩)
     go_roundw
     case rel=>exact⟨i,t,rfl,rfl,by omega,hf1,hD0 (HB.out.dn hf1 htE (by rw[HE.out];exact HX.out) g1)⟩
     case measure=>exact Z4p (i':=i) (j':=t) (by omega)
  ·obtain rfl:i=j:=by omega
   have hst:=(HRr.out.symm.trans HB.out.end_).symm
   subst hst
   have HW:=hD0 HB.out.nw
   by_cases hin:i<n
   ·have dlt:decide ((i:Int)<(n:Int))=true:=by rw[decide_eq_true_iff];omega
    have dlt2:decide (i<n)=true:=by simpa using hin
    have hin':(i:Int)<(n:Int):=by omega
    have htE:i<E.length:=by have:=HN.out;omega
    obtain⟨a',c',e1,hc⟩:=hH.out.nw HB.out.nw
    rcases hc with⟨hc,_⟩ | ⟨b,o,e2,hc⟩
    ·rw[hc] at htE;simp at htE
    ·simp only[Value.slice.injEq] at e1
     obtain⟨rfl,_,rfl⟩:=e1
     subst e2
     obtain⟨c0,c1⟩:=hc.eg htE
     have hbl:=hc.lt
     obtain⟨e,he⟩:∃e,E[i]=e:=⟨_,rfl⟩
     rw[he] at c0 c1
     obtain⟨x,y⟩:=e
     simp only at c0 c1
     have HC:=hD0 (HS.out (x,y))
     clear hc he
     go_wp2_with (go_at_fn 50;refine(HC.out _).mono ?_;rintro e' w1 ⟨rfl,g1⟩)
     go_ret2
     exact⟨⟨_,rfl⟩,HW.out.trans g1⟩
   ·have dlt:decide ((i:Int)<(n:Int))=false:=by rw[decide_eq_false_iff_not];omega
    have dlt2:decide (i<n)=false:=by simpa using hin
    go_wp2
    go_ret2
    exact⟨⟨_,rfl⟩,HW.out⟩
theorem Z0g(v:Int)(ev:Value)(E:List (Int × Int))(w:World)(hl:E.length≤100000)(hs:Zh E)(h:Zl w ev E) :
  Calls prog 36 #[ev,.int .i64 v] w fun e w'=>e=.returned (.int .i64 (Vf E v))∧Nw w w':=by
 have HB:=hD0 (Z5z v ev E w hl hs h)
 obtain⟨a,c,rfl⟩:=h.form
 clear h hs
 go_enter func36,ntmps36
 go_wp2_with fail
 refine HB.out.mono ?_
 rintro e w1 ⟨⟨b,rfl⟩,g1⟩
 go_wp2
 go_ret
 exact⟨rfl,g1⟩
section
open Go.RowKit Go.Sort
def GG(w w':World):Prop:=∃q os,w'=grow (w.drewN q) os
theorem GG.refl(w:World):GG w w:=⟨0,#[],by unfold grow;simp[World.drewN]⟩
theorem GG.drew{w w':World}(h:GG w w'):GG w w'.drew:=by obtain⟨q,os,rfl⟩:=h;exact⟨q+1,os,rfl⟩
theorem GG.alloc{w w':World}(h:GG w w')(o:Obj):GG w (w'.alloc o):=by obtain⟨q,os,rfl⟩:=h;exact⟨q,os.push o,by rw[alloc_eq_grow,grow_grow];rfl⟩
theorem GG.nw{w w':World}(h:GG w w'):Nw w w':=by
 obtain⟨q,os,rfl⟩:=h
 refine⟨rfl,rfl,rfl,by rw[size_grow];exact Nat.le_add_right _ _,fun k hk=>?_⟩
 exact heap_grow_old _ _ hk
theorem GG.trans{a b c:World}(h:GG a b)(k:GG b c):GG a c:=by
 obtain⟨q,os,rfl⟩:=h
 obtain⟨q',os',rfl⟩:=k
 refine⟨q+q',os++os',?_⟩
 unfold grow World.drewN
 simp[Nat.add_assoc,Array.append_assoc]
abbrev Z5v(w:World)(t r t' r':Int)(a:World):Prop:=(a.cell? ⟨w.heap.size,0,none⟩=some (.int .i64 t)∧a.cell? ⟨w.heap.size,1,none⟩=some (.int .i64 r)∧a.cell? ⟨w.heap.size+1,0,none⟩=some (.int .i64 t')∧a.cell? ⟨w.heap.size+1,1,none⟩=some (.int .i64 r'))∧(w.heap.size+1<a.heap.size∧GG w a)
theorem Z2v(w:World)(t r t' r':Int)(ty:TypeId):Z5v w t r t' r' (((w.alloc (.cells #[.int .i64 t,.int .i64 r] ty)).alloc (.cells #[.int .i64 t',.int .i64 r'] ty)).drew):=by
 have h1:=Z5 w (.cells #[.int .i64 t,.int .i64 r] ty)
 have hz:(w.alloc (.cells #[.int .i64 t,.int .i64 r] ty)).heap.size=w.heap.size+1:=by simp
 have h2:=Z5 (w.alloc (.cells #[.int .i64 t,.int .i64 r] ty)) (.cells #[.int .i64 t',.int .i64 r'] ty)
 have h3:=((Nw.refl (w.alloc (.cells #[.int .i64 t,.int .i64 r] ty))).alloc (.cells #[.int .i64 t',.int .i64 r'] ty)).at' h1
 rw[hz] at h2
 refine⟨⟨?_,?_,?_,?_⟩,?_,(((GG.refl w).alloc _).alloc _).drew⟩
 ·exact Z2 (j:=0) h3
 ·exact Z2 (j:=1) h3
 ·exact Z2 (j:=0) h2
 ·exact Z2 (j:=1) h2
 ·exact hlt h2
theorem Vp{w a b:World}{t r t' r':Int}(g:GG a b)(h:Z5v w t r t' r' a):Z5v w t r t' r' b:=by
 obtain⟨⟨h0,h1,h2,h3⟩,hs,hn⟩:=h
 exact⟨⟨g.nw.kp h0,g.nw.kp h1,g.nw.kp h2,g.nw.kp h3⟩,lL0 hs g.nw.sz,hn.trans g⟩
def Z2e(a b:Int × Int):Int:=orP (cP a.1 b.1) (cP a.2 b.2)
theorem U1(a b:Int × Int):ltOf Z2e a b=decide (nlt a b):=by
 obtain⟨a,a'⟩:=a
 obtain⟨b,b'⟩:=b
 unfold ltOf Z2e orP cP nlt
 rcases Int.lt_trichotomy a b with h | h | h
 ·simp[h]
 ·subst h
  rcases Int.lt_trichotomy a' b' with q | q | q
  ·simp[q]
  ·subst q;simp
  ·have:¬a'<b':=by omega
   simp[q,this]
 ·have h1:¬a<b:=by omega
  have h2:a≠b:=by omega
  simp[h,h1,h2]
theorem Z4h:SWO (ltOf Z2e) where
 irrefl x:=by rw[U1];simpa using Z6i x
 trans x y z h1 h2:=by rw[U1] at *;simp only[decide_eq_true_eq] at *;exact Z7x h1 h2
 ntrans x y z h1 h2:=by rw[U1] at *;simp only[decide_eq_false_iff_not] at *;intro h;unfold nlt at *;omega
end
section
open Go.RowKit Go.Sort Go.Shelf
theorem Z7u{w:World}{g:Nat}{cur F:Array Value}{e:TypeId}(hb:w.heap[g]?=some (.cells cur e (0,0)))(ht:cur.toList.take F.size=F.toList):Holds id w g 0 F:=by
 intro j hj
 refine⟨?_,by simp[World.frozen?,hb]⟩
 have h1:(cur.toList.take F.size)[j]?=F.toList[j]?:=by rw[ht]
 rw[List.getElem?_take_of_lt hj] at h1
 simp only[World.cell?,hb,Nat.zero_add]
 simp only[Option.isSome_none,Bool.false_eq_true,if_false]
 rw[←Array.getElem?_toList,h1]
 simp[hj]
theorem Z8k{w:World}{g n:Nat}{os:Array Obj}{cur:Array Value}{e:TypeId}{fr:Nat × Nat}(F:Array Value)(hb:w.heap[g]?=some (.cells cur e fr)) :
  (grow (putRow id (Sort.ahead w n) g 0 F) os).heap[g]?=some (.cells (putCells id 0 F cur) e fr):=by
 have hg:g<w.heap.size:=(Array.getElem?_eq_some_iff.1 hb).1
 rw[heap_grow_old _ _ (by simpa using hg)]
 simp[putRow,mapBlock,Sort.ahead,Array.getElem?_modify,hb,onCells]
theorem Z9i{w:World}{g n:Nat}{os:Array Obj}(F:Array Value):Zc (fun b=>b=g) w (grow (putRow id (Sort.ahead w n) g 0 F) os):=by
 refine⟨rfl,rfl,rfl,by simp,fun k hk hne=>?_⟩
 rw[heap_grow_old _ _ (by simpa using hk)]
 have:g≠k:=fun e=>hne e.symm
 simp[putRow,mapBlock,Sort.ahead,Array.getElem?_modify,this]
theorem Z8u(cur F:Array Value)(h:F.size≤cur.size):(putCells id 0 F cur).toList.take F.size=F.toList:=by
 apply List.ext_getElem?
 intro j
 by_cases hj:j<F.size
 ·rw[List.getElem?_take_of_lt hj,Array.getElem?_toList]
  simp[putCells,hj,show j<cur.size by omega]
 ·rw[List.getElem?_take_eq_none (by omega),List.getElem?_eq_none (by simp;omega)]
theorem Z7a{α:Type}[Inhabited α]{sz:Nat}{row:α→List Value}(hz:0<sz)(hl:∀a,(row a).length=sz)(ss:List α):flatK row sz ss.toArray=⟨Z7 row ss⟩:=by
 have hlen:(Z7 row ss).length=ss.length*sz:=Y9 hl ss
 apply Array.ext
 ·rw[size_flatK];simp[hlen]
 ·intro t h1 h2
  rw[size_flatK] at h1
  have h1':t<ss.length*sz:=by simpa using h1
  have hd:t/sz<ss.length:=Nat.div_lt_of_lt_mul (by rwa [Nat.mul_comm])
  have hm:t%sz<sz:=Nat.mod_lt _ hz
  have h3:=Y3 hl ss (t/sz) (t%sz) hd hm
  rw[show t/sz*sz+t%sz=t by rw[Nat.mul_comm];exact Nat.div_add_mod t sz] at h3
  have e1:=get_flatK row sz ss.toArray t h1
  rw[getElem!_pos _ t (by rw[size_flatK];exact h1)] at e1
  rw[e1,getElem!_pos ss.toArray (t/sz) (by simpa using hd)]
  have e2:(⟨Z7 row ss⟩:Array Value)[t]?=(row ss[t/sz])[t%sz]?:=by
   rw[←h3];simp
  rw[Array.getElem?_eq_getElem h2] at e2
  simp only[List.getElem_toArray]
  rw[getElem!_pos _ _ (by rw[hl];exact hm)]
  rw[List.getElem?_eq_getElem (by rw[hl];exact hm)] at e2
  exact(Option.some.inj e2).symm
theorem Z8s{α:Type}[Inhabited α]{d d':Array α}(h:PermIn 0 d.size d d'):d'.toList.Perm d.toList:=by
 obtain⟨h1,_,h3⟩:=h
 have e1:d'.extract 0 d.size=d':=by rw[←h1];exact Array.extract_size
 have e2:d.extract 0 d.size=d:=Array.extract_size
 rwa [e1,e2] at h3
theorem Z6s{α:Type}[Inhabited α]{lt:α→α→Bool}{d':Array α}{n:Nat}(hn:d'.size=n)(h:SortedIn lt 0 n d'):d'.toList.Pairwise fun a b=>lt b a=false:=by
 rw[List.pairwise_iff_getElem]
 intro i j hi hj hij
 have:=h i j (Nat.zero_le _) hij (by rw[←hn];simpa using hj)
 have hi':i<d'.size:=by simpa using hi
 have hj':j<d'.size:=by simpa using hj
 rw[getElem!_pos d' i hi',getElem!_pos d' j hj'] at this
 simpa using this
theorem Z45{α:Type}[Inhabited α]{ST T:TypeId}{sz bytes:Nat}{row:α→List Value}(E:Uv prog ST T sz bytes row){ρ:Ren}(L:SlLaysF0.n6 prog ρ)(aE:∀w,(isAgg (ρ.t 24)).run prog w=.ok true w)(zE:∀w,(Go.sizeOf (ρ.t 24)).run prog w=.ok sz w)
  (cf:α→α→Int) (hO:SWO (ltOf cf)) (fn:Nat) (eg:∀args w,(callFunc fn args).run prog w=.ok (.enter fn args) w)
  (hc:∀x y W,Calls prog fn #[.agg (row x).toArray,.agg (row y).toArray] W fun e w'=>e=.returned (.int .i64 (cf x y))∧GG W w')
  (g0 g cap:Nat) (ss:List α) (w:World) (h:Y4 T sz row w g0 (.slice (some ⟨g,0,none⟩) ss.length cap) ss) (hsm:ss.length≤100000) :
  Calls prog (ρ.f 6) #[.slice (some ⟨g,0,none⟩) ss.length cap,.func (.func fn) #[] #[]] w fun e w'=>e=.returned (.tuple #[])∧∃l:List α,l.Perm ss∧(l.Pairwise fun a b=>ltOf cf b a=false)∧Y4 T sz row w' g0 (.slice (some ⟨g,0,none⟩) l.length cap) l∧Zc (fun b=>b=g) w w':=by
 obtain⟨hx,hr⟩:=h
 rcases hr with⟨h0,_⟩ | ⟨g',cap',cur,h1,h2,h3,h4,h5,h6,h7⟩
 ·simp at h0
 ·simp only[Value.slice.injEq,Option.some.injEq,Addr.mk.injEq,and_true,true_and] at h1
  obtain⟨rfl,rfl⟩:=h1
  have hF:(⟨Z7 row ss⟩:Array Value).size=ss.length*sz:=Y9 E.len ss
  have hH:HoldsK row sz w g 0 ss.toArray:=by
   unfold HoldsK
   rw[Z7a E.pos E.len]
   exact Z7u h3 (by rw[hF];exact h7)
  have hcl:CmpLays prog fn #[] row sz cf g 0 ss.toArray.size w:=fun _ _ _ _ x y=>hc x y _
  refine Calls.mono (AnyQ.slices_SortFunc L sz aE zE row E.len E.one cf hO fn #[] g 0 cap ss.toArray w eg hcl hH (hlt h3) (by simp;omega)) ?_
  rintro e w' ⟨rfl,d',n,os,hp,hs,rfl⟩
  have hsz:d'.size=ss.length:=by have:=hp.1;simpa using this
  have hp2:=Z8s hp
  refine⟨rfl,d'.toList,by simpa using hp2,Z6s (by simpa using hsz) hs,?_,?_⟩
  ·have hl:d'.toList.length=ss.length:=by simpa using hsz
   have hz:(⟨Z7 row d'.toList⟩:Array Value).size=ss.length*sz:=by rw[←hl];exact Y9 E.len _
   unfold sortWorldK putRowK
   have ef:flatK row sz d'=⟨Z7 row d'.toList⟩:=by
    have:=Z7a E.pos E.len d'.toList
    rwa [Array.toArray_toList] at this
   rw[ef]
   unfold Y4
   rw[hl]
   refine⟨by show(Z7 row d'.toList).length=_;exact hz,.inr ⟨g,cap,_,rfl,h2,Z8k _ h3,h4,h5,by simp[putCells,h6],?_⟩⟩
   have:=Z8u cur ⟨Z7 row d'.toList⟩ (by rw[hz,h6];exact Nat.mul_le_mul_right sz h4)
   rw[hz] at this
   exact this
  ·exact Z9i _
end
end Go.Proofs.Ytbefaomgldckdaa
namespace Go.Proofs
open _root_.Go.Proofs.Try
open Go.Shelf
def Try.sortE_ren:Go.Shelf.Ren:=⟨fun | 6=>32 | 15=>46 | 14=>45 | 28=>65 | 29=>66 | 20=>57 | 21=>58 | 22=>59 | 23=>60 | 24=>61 | 25=>62 | 26=>63 | 27=>64 | 46=>82 | 47=>83 | 48=>84 | 49=>85 | 50=>86 | 57=>91 | n=>n,fun | 22=>33 | 24=>32 | 25=>69 | 3=>3 | 39=>86 | 0=>0 | 53=>104 | 55=>106 | 4=>4 | 46=>98 | 45=>97 | 50=>26 | 5=>5 | 9=>9 | 66=>117 | 70=>121 | 76=>125 | 77=>126 | n=>n,fun | n=>n⟩
theorem Try.sortE:Go.Proofs.SlLaysF0.n6 prog Try.sortE_ren:={
 mixed:=by kernel_rfl
 f6:=⟨Try.f32.name,by decide,func32.trans (congrArg some (by kernel_rfl))⟩
 f14:=⟨Try.f45.name,by decide,func45.trans (congrArg some (by kernel_rfl))⟩
 f15:=func46.trans (congrArg some (by kernel_rfl))
 f20:=⟨Try.f57.name,by decide,func57.trans (congrArg some (by kernel_rfl))⟩
 f21:=⟨Try.f58.name,by decide,func58.trans (congrArg some (by kernel_rfl))⟩
 f22:=⟨Try.f59.name,by decide,func59.trans (congrArg some (by kernel_rfl))⟩
 f23:=⟨Try.f60.name,by decide,func60.trans (congrArg some (by kernel_rfl))⟩
 f24:=⟨Try.f61.name,by decide,func61.trans (congrArg some (by kernel_rfl))⟩
 f25:=⟨Try.f62.name,by decide,func62.trans (congrArg some (by kernel_rfl))⟩
 f26:=⟨Try.f63.name,by decide,func63.trans (congrArg some (by kernel_rfl))⟩
 f27:=⟨Try.f64.name,by decide,func64.trans (congrArg some (by kernel_rfl))⟩
 f28:=func65.trans (congrArg some (by kernel_rfl))
 f29:=func66.trans (congrArg some (by kernel_rfl))
 f46:=⟨Try.f82.name,by decide,func82.trans (congrArg some (by kernel_rfl))⟩
 f47:=func83.trans (congrArg some (by kernel_rfl))
 f48:=func84.trans (congrArg some (by kernel_rfl))
 f49:=⟨Try.f85.name,by decide,func85.trans (congrArg some (by kernel_rfl))⟩
 f50:=⟨Try.f86.name,by decide,func86.trans (congrArg some (by kernel_rfl))⟩
 f57:=⟨Try.f91.name,by decide,func91.trans (congrArg some (by kernel_rfl))⟩
 t0:=underlying0
 a0:=Try.isAgg0
 z0:=Try.sizeOf0
 v0:=Try.zeroValue0
 t3:=underlying3
 a3:=Try.isAgg3
 z3:=Try.sizeOf3
 v3:=Try.zeroValue3
 t4:=underlying4
 a4:=Try.isAgg4
 z4:=Try.sizeOf4
 v4:=Try.zeroValue4
 t5:=underlying5
 a5:=Try.isAgg5
 z5:=Try.sizeOf5
 v5:=Try.zeroValue5
 t9:=underlying9
 a9:=Try.isAgg9
 z9:=Try.sizeOf9
 v9:=Try.zeroValue9
 t22:=underlying33
 a22:=Try.isAgg33
 z22:=Try.sizeOf33
 v22:=Try.zeroValue33
 t25:=underlying69
 a25:=Try.isAgg69
 z25:=Try.sizeOf69
 v25:=Try.zeroValue69
 t39:=underlying86
 a39:=Try.isAgg86
 z39:=Try.sizeOf86
 v39:=Try.zeroValue86
 t45:=underlying97
 a45:=Try.isAgg97
 z45:=Try.sizeOf97
 v45:=Try.zeroValue97
 t46:=underlying98
 a46:=Try.isAgg98
 z46:=Try.sizeOf98
 v46:=Try.zeroValue98
 t50:=underlying26
 a50:=Try.isAgg26
 z50:=Try.sizeOf26
 v50:=Try.zeroValue26
 t53:=underlying104
 a53:=Try.isAgg104
 z53:=Try.sizeOf104
 v53:=Try.zeroValue104
 t55:=underlying106
 a55:=Try.isAgg106
 z55:=Try.sizeOf106
 v55:=Try.zeroValue106
 t66:=underlying117
 a66:=Try.isAgg117
 z66:=Try.sizeOf117
 v66:=Try.zeroValue117
 t70:=underlying121
 a70:=Try.isAgg121
 z70:=Try.sizeOf121
 v70:=Try.zeroValue121
 t76:=underlying125
 a76:=Try.isAgg125
 z76:=Try.sizeOf125
 v76:=Try.zeroValue125
 t77:=underlying126
 a77:=Try.isAgg126
 z77:=Try.sizeOf126
 v77:=Try.zeroValue126 }
end Go.Proofs
namespace Go.Proofs.Ytbefaomgldckdaa
open Go.RowKit _root_.Go.Proofs.Try
end Go.Proofs.Ytbefaomgldckdaa
