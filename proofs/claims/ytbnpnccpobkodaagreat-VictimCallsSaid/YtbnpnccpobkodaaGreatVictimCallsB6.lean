/- Texts merged: QuD, Lex, Ord, OrdP, QuG, QuI, QuW, VaN, VbC, WcG, BdF, TbM, SortE -/
import Derived.Test.YtbnpnccpobkodaaGreatVictimCallsB5
import Derived.StillTailTactics
import Derived.Deep.Cut
import Derived.Shelf.SlSortCmp.NoneTotal
import Derived.Test.YtbnpnccpobkodaaGreatChecked
set_option linter.unusedVariables false
set_option maxRecDepth 100000
set_option maxHeartbeats 16000000
namespace Go.Proofs.YtbnpnccpobkodaaGreat
open Go.RowKit _root_.Go.Proofs.Tryz
def Za0(q:List Rq)(id i:Int):Prop:=(i = -1∧fnd q id=none)∨∃k:Nat,i=k∧∃h:k<q.length,fnd q id=some q[k]
theorem Z79{q:List Rq}{id:Int}{k:Nat}(hk:k<q.length)(h:fnd (q.take k) id=none)(e:q[k].id=id):fnd q id=some q[k]:=by
 have e2:q=q.take k++q[k]::q.drop (k+1):=by rw[←List.drop_eq_getElem_cons hk,List.take_append_drop]
 have:fnd (q.take k++q[k]::q.drop (k+1)) id=some q[k]:=by
  unfold fnd at h ⊢
  rw[List.find?_append,h,List.find?_cons]
  simp[e]
 rwa [←e2] at this
theorem Z78{q:List Rq}{id:Int}{k:Nat}(hk:k<q.length)(h:fnd (q.take k) id=none)(e:q[k].id≠id):fnd (q.take (k+1)) id=none:=by
 unfold fnd at h ⊢
 rw[List.take_add_one,List.getElem?_eq_getElem hk,List.find?_append,h]
 simp[e]
theorem Zc5(t r W id:Int)(v:Value)(q:List Rq)(w:World)(hl:q.length≤1000)(h:Ur w v q) :
  Calls prog 69 #[hdV t r v W,.int .i64 id] w fun e w'=>∃i,e=.returned (.int .i64 i)∧Nw w w'∧Za0 q id i:=by
 unfold hdV
 obtain⟨a,c,rfl,⟨rfl,_⟩ | ⟨b,o,rfl,hc⟩⟩:=h
 ·go_enter func69,ntmps69
  go_wp2
  refine wp_loop_rounds 1 ?_
  repeat (rw[rounds_succ];go_wp2)
  go_ret
  exact⟨-1,rfl,(Nw.refl _).alloc _,.inl ⟨rfl,rfl⟩⟩
 ·have HA:Hid (∀k (hk:k<q.length),fnd (q.take k) id=none→q[k].id=id→Za0 q id (k:Int)):=hD0 fun k hk h1 h2=>.inr ⟨k,rfl,hk,Z79 hk h1 h2⟩
  have HC:=hD0 hc
  clear hc
  go_enter func69,ntmps69
  go_wp2
  have hB:=Z2g.made w t r (.slice (some ⟨b,o,none⟩) q.length c) W 43
  have hN:Nw w (w.alloc (.cells #[.int .i64 t,.int .i64 r,.slice (some ⟨b,o,none⟩) q.length c,.int .i64 W] 43)):=(Nw.refl w).alloc _
  obtain⟨p,hp⟩:∃p,w.heap.size=p:=⟨_,rfl⟩
  rw[hp] at hB
  rw[hp]
  clear hp
  generalize w.alloc (.cells #[.int .i64 t,.int .i64 r,.slice (some ⟨b,o,none⟩) q.length c,.int .i64 W] 43)=z at *
  have HZ:=hD0 (aI0 hB hN)
  have HR:=hD0 (HC.out.nw hN)
  clear hB hN HC
  go_loopw [5] (fun i wr=>∃k:Nat,k≤q.length∧i=.int .i64 k∧fnd (q.take k) id=none∧Nw z wr) (fun i _=>q.length-(intOf i).toNat)
  case atStart=>exact⟨0,Nat.zero_le _,rfl,rfl,Nw.refl _⟩
  case round =>
   obtain⟨k,hk,rfl,hf,hG⟩:=hrel
   have hb:=HZ.out.1.nw hG
   have h0:=hb.c0
   have h1:=hb.c1
   have h2:=hb.c2
   have h3:=hb.c3
   clear hb
   have HG:=hD0 (HZ.out.2.trans hG)
   have HG2:=hD0 hG
   by_cases hlt:k<q.length
   ·have hce:=(HR.out.nw hG).cell k hlt
    have HA2:=hD0 (HA.out k hlt hf)
    have HS:=hD0 (fun e=>Z78 hlt hf e)
    generalize q[k]=R at *
    obtain⟨b0,b1,b2,b3,b4⟩:=R
    have e0:=hce 0 _ rfl
    simp only[Nat.add_zero] at e0
    clear hce hf hG
    by_cases he:b0=id
    ·have d:(b0==id)=true:=by simpa using he
     have hr:=HA2.out he
     have HR2:=hD0 hr
     clear he hr
     go_wp2
     go_ret
     exact⟨_,rfl,HG.out,HR2.out⟩
    ·have d:(b0==id)=false:=by simpa using he
     have HS2:=hD0 (HS.out he)
     clear he HS HA2
     go_wp2
     go_roundw
     case rel=>exact⟨k+1,by omega,by go_num,HS2.out,HG2.out⟩
     case measure=>simp[intOf];omega
   ·obtain rfl:k=q.length:=by omega
    rw[List.take_length] at hf
    have HF:=hD0 hf
    clear hf hG
    go_wp2
    go_ret
    exact⟨-1,rfl,HG.out,.inl ⟨rfl,HF.out⟩⟩
theorem Z7z{α:Type}{l:List α}{k:Nat}(hk:k<l.length){x:α}(hx:x∈l.take (k+1)):x∈l.take k∨x=l[k]:=by
 rw[List.take_add_one,List.getElem?_eq_getElem hk] at hx
 rcases List.mem_append.1 hx with h | h
 ·exact .inl h
 ·simp at h;exact .inr h
section
open Go
def Yv(ops:Array Oper)(o:Oper):Option Tmp × List Tmp × List Nat:=(o.dst,o.looksAt ops,(o.after.toList.filter (Region.binds .any)).map (·.on))
def Z53(k:Nat)(x y:Option Tmp × List Tmp × List Nat):Bool :=
 y.2.2.contains k || ((match x.1 with
  | some d=>!y.2.1.contains d&&y.1 != some d
  | none=>true)&&(match y.1 with
  | some d=>!x.2.1.contains d
  | none=>true))
end
section
open Go
def Y3(k:Nat)(q:Option (Nat × Option Tmp × List Tmp × List Nat))(e:Nat):Bool :=
 decide (e<k)&&(match q with
  | some y=>!(e==y.1)
  | none=>true)
def Uc:List (Option Bool)→Nat→List (Option Tmp × List Tmp × List Nat)→Option (Nat × Option Tmp × List Tmp × List Nat)→Bool
 | [],_,l,q=>l.isEmpty&&q.isNone
 | some true::fs,k,l,q =>
  match l with
  | []=>false
  | x::r=>x.2.2.all (Y3 k q)&&r.all (Z53 k x)&&(match q with
   | some y=>Z53 k x y.2
   | none=>true)&&Uc fs (k+1) r q
 | some false::fs,k,l,q =>
  match l,q with
  | x::r,none=>Uc fs (k+1) r (some (k,x))
  | _,_=>false
 | none::fs,k,l,q =>
  match q with
  | some y=>y.2.2.2.all (Y3 k q)&&l.all (fun x=>x.2.2.any fun e=>!Y3 k q e)&&Uc fs k l none
  | none=>false
def HW(P:Program)(ops:Array Oper)(Q:Exit→Act→World→Prop)(S:World→Prop):List (Option Bool)→List Oper→Option Oper→Act→World→Prop
 | [],_,_,a,w=>Q .normal a w
 | some true::fs,l,q,a,w =>
  match l with
  | []=>False
  | o::r=>∃v,YieldsIf P ops S o v a∧HW P ops Q S fs r q (a.put o.dst v) w
 | some false::fs,l,q,a,w =>
  match l,q with
  | o::r,none=>HW P ops Q S fs r (some o) a w
  | _,_=>False
 | none::fs,l,q,a,w =>
  match q with
  | some o=>∀K':Act→World→Prop,Shut (∀a w,S w→(S w→HW P ops Q S fs l none a w)→K' a w)→if Region.wanted o (yielded ops a.tmps)=true then Oper.wp P o a w K' Q else K' (a.put o.dst undef) w
  | none=>False
section
variable {P:Program} {ops:Array Oper} {Q:Exit→Act→World→Prop} {S:World→Prop}
theorem HW.end_{l:List Oper}{q:Option Oper}{a:Act}{w:World}(h:Q .normal a w):HW P ops Q S [] l q a w:=h
theorem HW.take'{fs:List (Option Bool)}{o:Oper}{r:List Oper}{q:Option Oper}{a:Act}{w:World}(h:∃v,YieldsIf P ops S o v a∧HW P ops Q S fs r q (a.put o.dst v) w):HW P ops Q S (some true::fs) (o::r) q a w:=h
theorem HW.off{fs:List (Option Bool)}{o:Oper}{r:List Oper}{a:Act}{w:World}(h:HW P ops Q S fs r (some o) a w):HW P ops Q S (some false::fs) (o::r) none a w:=h
theorem HW.go{fs:List (Option Bool)}{o:Oper}{l:List Oper}{a:Act}{w:World}
  (h:∀K':Act→World→Prop,Shut (∀a w,S w→(S w→HW P ops Q S fs l none a w)→K' a w)→if Region.wanted o (yielded ops a.tmps)=true then Oper.wp P o a w K' Q else K' (a.put o.dst undef) w):HW P ops Q S (none::fs) l (some o) a w:=h
theorem Z2i{k:Nat}{o oj:Oper}(h:Z53 k (Yv ops o) (Yv ops oj)=true)(hno:∀e∈oj.after,Region.binds .any e=true→e.on≠k):o.apart ops oj=true:=by
 unfold Z53 at h
 rw[Bool.or_eq_true] at h
 rcases h with h | h
 ·obtain⟨e,he,heq⟩:=List.mem_map.1 (List.contains_iff_mem.1 h)
  obtain⟨he1,he2⟩:=List.mem_filter.1 he
  exact absurd heq (hno e (Array.mem_toList_iff.1 he1) he2)
 ·exact h
theorem HW.run(hs:Region.noSelect ops=true)(hQ:∀c a d v w,Q (.panic c) (Act.put a d v) w→Q (.panic c) a w):∀(fs:List (Option Bool)) (k:Nat) (l:List Oper) (qi:Option (Nat × Oper)) (listed:Array Bool) (a:Act) (w:World),
  (∀j,l[j]?=ops[k+j]?)→k+l.length=ops.size→(∀p,qi=some p→ops[p.1]?=some p.2∧p.1<k)→listed.size=ops.size →
  (∀j,j<ops.size→(listed.getD j false=true↔Y3 k (qi.map fun p=>(p.1,Yv ops p.2)) j=true)) →
  Uc fs k (l.map (Yv ops)) (qi.map fun p=>(p.1,Yv ops p.2))=true→S w→HW P ops Q S fs l (qi.map (·.2)) a w →
  wpAnyH P .any ops Q S (l.length+(qi.map fun _=>1).getD 0) listed a w
 | [],k,l,qi,listed,a,w,hl,hn,hq,hsz,hD,hB,hS,h=>by
  unfold Uc at hB
  rw[Bool.and_eq_true] at hB
  obtain rfl:l=[]:=by cases l with
   | nil=>rfl
   | cons o r=>simp at hB
  obtain rfl:qi=none:=by cases qi with
   | none=>rfl
   | some p=>simp at hB
  refine wpAnyH_done ?_ h _
  rw[List.eq_nil_iff_forall_not_mem]
  intro j hj
  obtain⟨h1,o,ho,_⟩:=mem_ready.1 hj
  have hlt:j<ops.size:=(Array.getElem?_eq_some_iff.1 ho).1
  have h2:=(hD j hlt).2 (by unfold Y3;simp at hn ⊢;omega)
  simp[hsz,hlt] at h1 h2
  rw[h1] at h2
  cases h2
 | some true::fs,k,[],qi,listed,a,w,hl,hn,hq,hsz,hD,hB,hS,h=>by unfold Uc at hB;simp at hB
 | some true::fs,k,o::r,qi,listed,a,w,hl,hn,hq,hsz,hD,hB,hS,h=>by
  have h0:ops[k]?=some o:=by simpa using(hl 0).symm
  have hk:k<ops.size:=(Array.getElem?_eq_some_iff.1 h0).1
  simp only[List.map_cons,Uc,Bool.and_eq_true,List.all_eq_true] at hB
  obtain⟨⟨⟨hd,hp⟩,hpq⟩,hB'⟩:=hB
  obtain⟨v,hy,hK⟩:=h
  have hnk:∀p,qi=some p→p.1≠k:=fun p hp=>Nat.ne_of_lt (hq p hp).2
  have hun:listed.getD k true=false:=by
   have h1:¬listed.getD k false=true:=fun e=>by
    have:=(hD k hk).1 e
    unfold Y3 at this
    simp at this
   simp[hsz,hk] at h1 ⊢
   exact h1
  have hr:k∈Region.ready .any ops listed:=by
   refine mem_ready.2 ⟨hun,o,h0,fun e he hb=>?_⟩
   have hdn:=hd e.on (List.mem_map.2 ⟨e,List.mem_filter.2 ⟨Array.mem_toList_iff.2 he,hb⟩,rfl⟩)
   have hek:e.on<k:=by unfold Y3 at hdn;simp at hdn;exact hdn.1
   exact(hD e.on (by omega)).2 hdn
  have hfree:∀j oj,ops[j]?=some oj→j≠k→listed.getD j true=false→(∀e∈oj.after,Region.binds .any e=true→e.on≠k)→o.apart ops oj=true:=by
   intro j oj hoj hne hju hno
   have hj:j<ops.size:=(Array.getElem?_eq_some_iff.1 hoj).1
   have hnd:¬Y3 k (qi.map fun p=>(p.1,Yv ops p.2)) j=true:=fun e=>by
    have:=(hD j hj).2 e
    simp[hsz,hj] at this hju
    rw[this] at hju
    cases hju
   rcases Nat.lt_or_ge j k with g | g
   ·cases hqi:qi with
    | none=>rw[hqi] at hnd;exact absurd (by unfold Y3;simp[g]) hnd
    | some p =>
     rw[hqi] at hnd hpq
     have hjp:j=p.1:=by
      rcases Nat.decEq j p.1 with h | h
      ·exact absurd (by unfold Y3;simp[g,h]) hnd
      ·exact h
     have hpo:=(hq p hqi).1
     rw[←hjp,hoj] at hpo
     obtain rfl:=Option.some.inj hpo
     exact Z2i hpq hno
   ·have hlj:=hl (j-k)
    rw[show k+(j-k)=j by omega,hoj,show j-k=(j-k-1)+1 by omega,List.getElem?_cons_succ] at hlj
    exact Z2i (hp _ (List.mem_map.2 ⟨oj,List.mem_of_getElem? hlj,rfl⟩)) hno
  have ih:=HW.run hs hQ fs (k+1) r qi (listed.setIfInBounds k true) (a.put o.dst v) w (fun j=>by
    have:=hl (j+1)
    simpa [Nat.add_assoc,Nat.add_comm 1 j] using this) (by simp at hn;omega) (fun p hp=>⟨(hq p hp).1,Nat.lt_succ_of_lt (hq p hp).2⟩) (by simpa using hsz) (fun j hj=>by
    by_cases hjk:k=j
    ·subst hjk
     have h1:(listed.setIfInBounds k true).getD k false=true:=by simp[hsz,hk]
     refine⟨fun _=>?_,fun _=>h1⟩
     unfold Y3
     cases hqi:qi with
     | none=>simp
     | some p=>have:=hnk p hqi;simp;exact fun e=>this e.symm
    ·rw[getD_set_ne false hjk,hD j hj]
     unfold Y3
     have:decide (j<k+1)=decide (j<k):=decide_eq_decide.2 (by omega)
     rw[this]) hB' hS hK
  rw[show(o::r).length+(qi.map fun _=>1).getD 0=(r.length+(qi.map fun _=>1).getD 0)+1 by simp;omega]
  exact wpAnyH_first h0 (Region.noSelect_spec hs) (fun c a w=>hQ c a _ _ w) _ listed a w hfree hr hy hS ih
 | some false::fs,k,[],qi,listed,a,w,hl,hn,hq,hsz,hD,hB,hS,h=>by unfold Uc at hB;simp at hB
 | some false::fs,k,o::r,some p,listed,a,w,hl,hn,hq,hsz,hD,hB,hS,h=>by unfold Uc at hB;simp at hB
 | some false::fs,k,o::r,none,listed,a,w,hl,hn,hq,hsz,hD,hB,hS,h=>by
  have h0:ops[k]?=some o:=by simpa using(hl 0).symm
  have ih:=HW.run hs hQ fs (k+1) r (some (k,o)) listed a w (fun j=>by
    have:=hl (j+1)
    simpa [Nat.add_assoc,Nat.add_comm 1 j] using this) (by simp at hn;omega) (fun p hp=>by obtain rfl:=Option.some.inj hp;exact⟨h0,Nat.lt_succ_self _⟩) hsz (fun j hj=>by
    rw[hD j hj]
    unfold Y3
    simp
    omega) (by unfold Uc at hB;exact hB) hS h
  exact ih
 | none::fs,k,l,none,listed,a,w,hl,hn,hq,hsz,hD,hB,hS,h=>by unfold Uc at hB;simp at hB
 | none::fs,k,l,some p,listed,a,w,hl,hn,hq,hsz,hD,hB,hS,h=>by
  obtain⟨i,o⟩:=p
  obtain⟨h0,hik⟩:=hq (i,o) rfl
  have hi:i<ops.size:=(Array.getElem?_eq_some_iff.1 h0).1
  simp only[Option.map_some,Uc,Bool.and_eq_true,List.all_eq_true,List.any_eq_true] at hB
  obtain⟨⟨hd,hw⟩,hB'⟩:=hB
  have hDu:∀j,j<ops.size→¬Y3 k (some (i,Yv ops o)) j=true→listed.getD j true=false:=fun j hj hnd=>by
   have h1:¬listed.getD j false=true:=fun e=>hnd ((hD j hj).1 e)
   simp[hsz,hj] at h1 ⊢
   exact h1
  have hr:i∈Region.ready .any ops listed:=by
   refine mem_ready.2 ⟨hDu i hi (by unfold Y3;simp),o,h0,fun e he hb=>?_⟩
   have hdn:=hd e.on (List.mem_map.2 ⟨e,List.mem_filter.2 ⟨Array.mem_toList_iff.2 he,hb⟩,rfl⟩)
   have hek:e.on<k:=by unfold Y3 at hdn;simp at hdn;exact hdn.1
   exact(hD e.on (by omega)).2 hdn
  refine⟨fun hz=>(by rw[hz] at hr;cases hr),fun j hj=>?_⟩
  have hji:j=i:=by
   obtain⟨h1,oj,hoj,hall⟩:=mem_ready.1 hj
   have hjs:j<ops.size:=(Array.getElem?_eq_some_iff.1 hoj).1
   rcases Nat.decEq j i with hne | he
   case isTrue=>exact he
   exfalso
   have hnd:¬Y3 k (some (i,Yv ops o)) j=true:=fun e=>by
    have:=(hD j hjs).2 e
    simp[hsz,hjs] at this h1
    rw[this] at h1
    cases h1
   have hjk:k≤j:=by
    rcases Nat.lt_or_ge j k with g | g
    ·exact absurd (by unfold Y3;simp[g,hne]) hnd
    ·exact g
   have hlj:=hl (j-k)
   rw[show k+(j-k)=j by omega,hoj] at hlj
   obtain⟨e,he,hen⟩:=hw _ (List.mem_map.2 ⟨oj,List.mem_of_getElem? hlj,rfl⟩)
   obtain⟨ea,hea,rfl⟩:=List.mem_map.1 he
   obtain⟨he1,he2⟩:=List.mem_filter.1 hea
   have hls:=hall ea (Array.mem_toList_iff.1 he1) he2
   have hlt:ea.on<ops.size:=by
    rcases Nat.lt_or_ge ea.on ops.size with g | g
    ·exact g
    ·rw[←hsz] at g;simp[Array.getElem?_eq_none g] at hls
   have h3:=(hD ea.on hlt).1 hls
   simp only[Option.map_some] at h3
   rw[h3] at hen
   cases hen
  subst hji
  refine wpOp_step h0 (fun K' hK=>h K' (fun a' w' hS' hW=>hK a' w' ⟨hS',?_⟩))
  exact HW.run hs hQ fs k l none (listed.setIfInBounds j true) a' w' hl hn (fun p hp=>by cases hp) (by simpa using hsz) (fun m hm=>by
   by_cases hmj:j=m
   ·subst hmj
    have h1:(listed.setIfInBounds j true).getD j false=true:=by simp[hsz,hi]
    exact⟨fun _=>by unfold Y3;simp[hik],fun _=>h1⟩
   ·rw[getD_set_ne false hmj,hD m hm]
    unfold Y3
    have:¬m=j:=fun e=>hmj e.symm
    simp[this]) hB' hS' (hW hS')
theorem Uo{id:Nat}{a:Act}{w:World}{l:List Oper}(fs:List (Option Bool))(S:World→Prop)(hm:P.follows .mixedOrders=true)(hs:Region.noSelect l.toArray=true)
  (hB:Uc fs 0 (l.map (Yv l.toArray)) none=true) (hS:S w.drew) (h:HW P l.toArray (NoPanic Q) S fs l none a w.drew):(Code.region id l.toArray true).wp P Q a w:=by
 refine wp_region_noPanic (wp_region_held (S:=S) hm ?_)
 have:=HW.run hs (fun c a d v w h=>h) fs 0 l none (Array.replicate l.toArray.size false) a w.drew (by simp) (by simp) (fun p hp=>by cases hp) (by simp) (fun j hj=>by unfold Y3;simp at hj ⊢;simp[hj]) hB hS h
 simpa using this
end
end
section
open Go
inductive Pl where
 | fin
 | take (p:Pl)
 | off (p:Pl)
 | go1 (p:Pl)
 | go2 (p q:Pl)
abbrev Inf:=Option Tmp × List Tmp × List Nat
def Zb8(k:Nat)(qs:List (Nat × Inf))(e:Nat):Bool:=decide (e<k)&&qs.all fun y=>!(e==y.1)
def HP(P:Program)(ops:Array Oper)(Q:Exit→Act→World→Prop)(S:World→Prop):Pl→List Oper→List Oper→Act→World→Prop
 | .fin,_,_,a,w=>Q .normal a w
 | .take p,l,qs,a,w =>
  match l with
  | []=>False
  | o::r=>∃v,YieldsIf P ops S o v a∧HP P ops Q S p r qs (a.put o.dst v) w
 | .off p,l,qs,a,w =>
  match l with
  | []=>False
  | o::r=>HP P ops Q S p r (qs++[o]) a w
 | .go1 p,l,qs,a,w =>
  match qs with
  | [o]=>∀K':Act→World→Prop,Shut (∀a w,S w→(S w→HP P ops Q S p l [] a w)→K' a w)→if Region.wanted o (yielded ops a.tmps)=true then Oper.wp P o a w K' Q else K' (a.put o.dst undef) w
  | _=>False
 | .go2 p q,l,qs,a,w =>
  match qs with
  | [o,o']=>(∀K':Act→World→Prop,Shut (∀a w,S w→(S w→HP P ops Q S p l [o'] a w)→K' a w)→if Region.wanted o (yielded ops a.tmps)=true then Oper.wp P o a w K' Q else K' (a.put o.dst undef) w) ∧
    ∀K':Act→World→Prop,Shut (∀a w,S w→(S w→HP P ops Q S q l [o] a w)→K' a w)→if Region.wanted o' (yielded ops a.tmps)=true then Oper.wp P o' a w K' Q else K' (a.put o'.dst undef) w
  | _=>False
section
variable {P:Program} {ops:Array Oper} {Q:Exit→Act→World→Prop} {S:World→Prop}
def Zc1(ops:Array Oper)(qs:List (Nat × Oper)):List (Nat × Inf):=qs.map fun p=>(p.1,Yv ops p.2)
structure HI(ops:Array Oper)(k:Nat)(l:List Oper)(qs:List (Nat × Oper))(listed:Array Bool):Prop where
 rest:∀j,l[j]?=ops[k+j]?
 len:k+l.length=ops.size
 put:∀p∈qs,ops[p.1]?=some p.2∧p.1<k
 size:listed.size=ops.size
 come:∀j,j<ops.size→(listed.getD j false=true↔Zb8 k (Zc1 ops qs) j=true)
end
end
def Z45(q:List Rq)(id:Int):Value:=match fnd q id with
 | none=>.tuple #[rqV ⟨0,0,0,0,0⟩,.bool false]
 | some r=>.tuple #[rqV r,.bool true]
theorem Vw{w:World}{g0 e size g n cap:Nat}{xs:List Value}(h:w.ownsRow g0 e size (.slice (some ⟨g,0,none⟩) n cap) n xs):n≤cap:=by
 obtain⟨_,q | ⟨g',cap',cur,e1,_,_,hn,_⟩⟩:=h
 ·simp at q
 ·simp only[Value.slice.injEq] at e1
  rw[e1.2.2];exact hn
theorem Z56(n:Int):∀(l:List Int) (k:Nat) (h:k<l.length),(∀x∈l.take k,x<n)→l[k]=n→Yf n l=l
 | a::r,0,_,_,e=>by
  simp only[List.getElem_cons_zero] at e
  unfold Yf
  rw[if_neg (by omega),if_pos e]
 | a::r,k+1,h,hlt,e=>by
  have h0:=hlt a (by simp)
  unfold Yf
  rw[if_pos h0,Z56 n r k (by simpa using h) (fun x hx=>hlt x (by simp[hx])) (by simpa using e)]
theorem Z0n(n:Int):∀(l:List Int) (k:Nat),k≤l.length→(∀x∈l.take k,x<n)→(∀h:k<l.length,n<l[k])→Yf n l=l.take k++n::l.drop k
 | [],0,_,_,_=>rfl
 | a::r,0,_,_,h=>by
  have h0:=h (by simp)
  simp only[List.getElem_cons_zero] at h0
  unfold Yf
  rw[if_neg (by omega),if_neg (by omega)]
  rfl
 | a::r,k+1,hk,hlt,h=>by
  have h0:=hlt a (by simp)
  unfold Yf
  rw[if_pos h0,Z0n n r k (by simpa using hk) (fun x hx=>hlt x (by simp[hx])) (fun h'=>by have:=h (by simpa using h');simpa using this)]
  rfl
def Y7(x:Int):List Value:=[.int .i64 x]
theorem Yc:Uq prog 24 3 1 8 Y7 where
 und:=underlying24
 inf:=by
  have h:(prog.info? 3).map (fun i=>(i.zero,i.size,i.bytes))=some (some (.int .i64 0),1,8):=by kernel_rfl
  cases e:prog.info? 3 with
  | none=>rw[e] at h;cases h
  | some i =>
   rw[e] at h
   simp only[Option.map_some,Option.some.injEq,Prod.mk.injEq] at h
   exact⟨i,_,rfl,h.1,h.2.1,h.2.2,rfl⟩
 pos:=by decide
 byt:=by decide
 len:=fun _=>rfl
 one:=fun a u hu=>by
  simp only[Y7,List.mem_cons,List.not_mem_nil,or_false] at hu
  subst hu;rfl
theorem Z26:∀l:List Int,Z7 Y7 l=l.map (Value.int .i64)
 | []=>rfl
 | a::r=>by
  show Y7 a++Z7 Y7 r=_
  rw[Z26 r];rfl
theorem IS.own{w:World}{v:Value}{l:List Int}(h:IS w v l):Zu 3 1 Y7 w 0 v l:=by
 unfold Zu
 rw[Z26];exact h
theorem Zu.is{w:World}{g0:Nat}{v:Value}{l:List Int}(h:Zu 3 1 Y7 w g0 v l):IS w v l:=by
 unfold Zu at h
 rw[Z26] at h
 exact Us h (fun _ _=>Nat.zero_le _)
abbrev U5(w:World)(g0:Nat)(v:Value)(l:List Int):Prop:=Zu 3 1 Y7 w g0 v l
theorem Z8x{w:World}{b c k:Nat}{l:List Int}(h:RdC 1 Y7 w b 0 l)(hk:k≤l.length)(hc:l.length≤c) :
  ∀j u,(Z7 Y7 (l.drop k))[j]?=some u→w.cell? ((if c=k then(⟨b,0,none⟩:Addr) else⟨b,0+k*1,none⟩).add j)=some u:=by
 by_cases e:c=k
 ·intro j u hu
  have:l.drop k=[]:=List.drop_eq_nil_of_le (by omega)
  rw[this] at hu
  simp[Z7] at hu
 ·rw[if_neg e]
  have hp:=h.part k (l.length-k)
  rw[List.take_of_length_le (by simp)] at hp
  exact hp.flat (fun _=>rfl) (by decide)
theorem Zu.none{α:Type}{P:Program}{ST T:TypeId}{sz bytes:Nat}{row:α→List Value}(E:Uq P ST T sz bytes row){w:World}{g0:Nat}{v:Value}{l:List α}(h:Zu T sz row w g0 v l):(Builtin.append_ #[ST,ST] ST #[v,.slice none 0 0]).run P w=.ok v w:=by
 obtain⟨i0,z,hi,_⟩:=E.inf
 exact run_append_owned_none (P:=P) w g0 ST ST T i0 sz E.und hi _ _ _ h
theorem IS.rdc{w:World}{g c:Nat}{l:List Int}(h:IS w (.slice (some ⟨g,0,none⟩) l.length c) l):RdC 1 Y7 w g 0 l :=
 ⟨h.glt,fun i hi j u hu=>by
  have hj:j<1:=(List.getElem?_eq_some_iff.1 hu).1
  obtain rfl:j=0:=by omega
  have e:=h.cell i hi
  rw[List.getD_eq_getElem?_getD,List.getElem?_eq_getElem hi] at e
  simp only[Nat.zero_add,Nat.mul_one,Nat.add_zero]
  exact e.trans hu⟩
theorem Z57{w:World}{g c k:Nat}{l:List Int}(n:Int)(h:IS w (.slice (some ⟨g,0,none⟩) l.length c) l)(hl:l.length≤1000)(hk:k≤l.length) :
  ∃v1 w1 v2 w2 v3 w3,(Builtin.append_ #[24,24] 24 #[.slice (some ⟨w.heap.size,0,none⟩) 0 0,.slice (some ⟨g,0,none⟩) k c]).run prog (w.alloc (.cells #[] 3))=.ok v1 w1 ∧
   (Builtin.append_ #[24,24] 24 #[v1,.slice (some ⟨w1.heap.size,0,none⟩) 1 1]).run prog (w1.alloc (.cells #[.int .i64 n] 3))=.ok v2 w2 ∧
   (Builtin.append_ #[24,24] 24 #[v2,.slice (some (if c=k then⟨g,0,none⟩ else⟨g,0+k*1,none⟩)) (l.length-k) (c-k)]).run prog w2=.ok v3 w3∧U5 w3 w.heap.size v3 (l.take k++n::l.drop k)∧Nw w w3:=by
 have hc:=IS.rdc h
 have hcap:=Vw h
 obtain⟨v1,w1,r1,O1,N1⟩:=Yp Yc (w:=w) (v:=.slice (some ⟨g,0,none⟩) k c) (l:=l.take k) ⟨_,c,by rw[List.length_take,Nat.min_eq_left hk],.inr ⟨g,0,rfl,by simpa using hc.part 0 k⟩⟩ (by rw[List.length_take];omega)
 have hNa:Nw w1 (w1.alloc (.cells #[.int .i64 n] 3)):=(Nw.refl w1).alloc _
 have hal:=Z4 w1 (.cells #[.int .i64 n] 3)
 obtain⟨v2,w2,r2,O2,G2,b2,_⟩:=Zu.push Yc (Yo O1 hNa) n w1.heap.size 1 (fun j u hu=>by
  rw[Z2 hal]
  simpa [Y7] using hu) (by rw[List.length_take];omega) (Nat.le_trans N1.sz hNa.sz)
 have N2:Nw w w2:=(N1.trans hNa).gro G2 (fun k hk=>Va O1 hk)
 obtain⟨v3,w3,r3,O3,G3,b3⟩:=Zu.many Yc O2 (l.drop k) _ (c-k) (Z8x (hc.nw N2) hk hcap) (by simp;omega) N2.sz
 have N3:=N2.gro G3 (fun k hk=>Va O2 hk)
 rw[List.length_drop] at r3
 exact⟨v1,w1,v2,w2,v3,w3,r1,r2,r3,(show l.take k++[n]++l.drop k=l.take k++n::l.drop k by simp)▸O3,N3⟩
theorem Z95(w:World)(n:Int) :
  ∃v1 w1 v2 w2,(Builtin.append_ #[24,24] 24 #[.slice (some ⟨w.heap.size,0,none⟩) 0 0,.slice none 0 0]).run prog (w.alloc (.cells #[] 3))=.ok v1 w1 ∧
   (Builtin.append_ #[24,24] 24 #[v1,.slice (some ⟨w1.heap.size,0,none⟩) 1 1]).run prog (w1.alloc (.cells #[.int .i64 n] 3))=.ok v2 w2 ∧
   (Builtin.append_ #[24,24] 24 #[v2,.slice none 0 0]).run prog w2=.ok v2 w2∧U5 w2 w.heap.size v2 [n]∧Nw w w2:=by
 obtain⟨v1,w1,r1,O1,N1⟩:=Yp Yc (w:=w) (Rd.nil (sz:=1) (row:=Y7) w) (by simp)
 have hNa:Nw w1 (w1.alloc (.cells #[.int .i64 n] 3)):=(Nw.refl w1).alloc _
 have hal:=Z4 w1 (.cells #[.int .i64 n] 3)
 obtain⟨v2,w2,r2,O2,G2,b2,_⟩:=Zu.push Yc (Yo O1 hNa) n w1.heap.size 1 (fun j u hu=>by
  rw[Z2 hal]
  simpa [Y7] using hu) (by simp) (Nat.le_trans N1.sz hNa.sz)
 exact⟨v1,w1,v2,w2,r1,r2,Zu.none Yc O2,O2,(N1.trans hNa).gro G2 (fun k hk=>Va O1 hk)⟩
theorem Zap(n:Int)(v:Value)(l:List Int)(w:World)(hl:l.length≤1000){g0:Nat}(hO:U5 w g0 v l)(hg0:g0≤w.heap.size) :
  Calls prog 70 #[v,.int .i64 n] w fun e w'=>∃v',e=.returned v'∧Nw w w'∧U5 w' g0 v' (Yf n l):=by
 have h:=Zu.is hO
 have HOw:=hD0 (aI0 hO hg0)
 clear hO hg0
 rcases h.form with⟨rfl,rfl⟩ | ⟨g,c,rfl⟩
 ·obtain⟨v1,w1,v2,w2,r1,r2,r3,hI,hN⟩:=Z95 w n
  have HR1:=hD0 r1
  have HR2:=hD0 r2
  have HR3:=hD0 r3
  have HX:=hD0 (aI0 hN (show U5 w2 g0 v2 [n] from Us hI (fun b e=>Nat.le_trans HOw.out.2 (Va hI e))))
  clear r1 r2 r3 hI hN
  go_enter func70,ntmps70
  go_wp2
  refine wp_loop_rounds 1 ?_
  repeat (rw[rounds_succ];go_wp2_with (at_builtin;(first | (refine Z6 (by rfl) (.tmp 34) (.tmp 37) 24 rfl _ _ _ _ rfl rfl HR1.out ?_) | (refine Z6 (by rfl) (.tmp 39) (.tmp 41) 24 rfl _ _ _ _ rfl rfl HR2.out ?_) | (refine Z6 (by rfl) (.tmp 43) (.tmp 46) 24 rfl _ _ _ _ rfl rfl HR3.out ?_))))
  go_ret
  exact⟨_,rfl,HX.out.1,HX.out.2⟩
 ·have HC:=hD0 h.rdc
  have HI:=hD0 h
  clear h
  go_enter func70,ntmps70
  go_wp2
  go_loopw [5] (fun i wr=>∃k:Nat,k≤l.length∧i=.int .i64 k∧(∀x∈l.take k,x<n)∧Nw w wr) (fun i _=>l.length-(intOf i).toNat)
  case atStart=>exact⟨0,Nat.zero_le _,rfl,by simp,Nw.refl _⟩
  case round =>
   obtain⟨k,hk,rfl,hf,hG⟩:=hrel
   have HG:=hD0 hG
   clear hG
   by_cases hlt:k<l.length
   ·have hce:=(HC.out.nw HG.out).cell k hlt 0 _ rfl
    simp only[Nat.zero_add,Nat.mul_one,Nat.add_zero] at hce
    have HS:=hD0 (show l[k]<n→∀x∈l.take (k+1),x<n from fun e x hx=>by
     rcases Z7z hlt hx with h | rfl
     ·exact hf x h
     ·exact e)
    have HEq:=hD0 (show l[k]=n→Yf n l=l from fun e=>Z56 n l k hlt hf e)
    have HIn:=hD0 (show n<l[k]→Yf n l=l.take k++n::l.drop k from fun e=>Z0n n l k hk hf (fun _=>e))
    clear hf
    generalize l[k]=x at *
    by_cases hx:x<n
    ·have d:decide (x<n)=true:=decide_eq_true hx
     have HS2:=hD0 (HS.out hx)
     clear HS HEq HIn hx
     go_wp2
     go_roundw
     case rel=>exact⟨k+1,by omega,by go_num,HS2.out,HG.out⟩
     case measure=>simp[intOf];omega
    ·have d:decide (x<n)=false:=decide_eq_false hx
     by_cases he:x=n
     ·have d2:(x==n)=true:=by simpa using he
      have HPut:=hD0 (HEq.out he)
      clear HS HEq HIn hx he
      go_wp2
      go_ret
      exact⟨_,rfl,HG.out,by rw[HPut.out];exact Yo HOw.out.1 HG.out⟩
     ·have d2:(x==n)=false:=by simpa using he
      have HPut:=hD0 (HIn.out (by omega))
      clear HS HEq HIn hx he
      obtain⟨v1,w1,v2,w2,v3,w3,r1,r2,r3,hI3,hN3⟩:=Z57 n (HI.out.nw HG.out) hl hk
      rw[if_neg (by have:=Vw HI.out;omega)] at r3
      simp only[Nat.zero_add,Nat.mul_one] at r3
      have HR1:=hD0 r1
      have HR2:=hD0 r2
      have HR3:=hD0 r3
      have hcap:=Vw HI.out
      have HX:=hD0 (aI0 (HG.out.trans hN3) (show U5 w3 g0 v3 _ from Us hI3 (fun b e=>Nat.le_trans HOw.out.2 (Nat.le_trans HG.out.sz (Va hI3 e)))))
      have k1:k≤c:=by omega
      have k2:(k:Int)≤(c:Int):=by omega
      have k3:(k:Int)≤(l.length:Int):=by omega
      have k4:((l.length:Int)-(k:Int)).toNat=l.length-k:=by omega
      have k5:((c:Int)-(k:Int)).toNat=c-k:=by omega
      have k6:(l.length:Int)≤(c:Int):=by omega
      clear r1 r2 r3 hI3 hN3
      go_wp2_with (at_builtin;(first | (refine Z6 (by rfl) (.tmp 34) (.tmp 37) 24 rfl _ _ _ _ rfl rfl HR1.out ?_) | (refine Z6 (by rfl) (.tmp 39) (.tmp 41) 24 rfl _ _ _ _ rfl rfl HR2.out ?_) | (refine Z6 (by rfl) (.tmp 43) (.tmp 46) 24 rfl _ _ _ _ rfl rfl HR3.out ?_)))
      go_ret
      exact⟨_,rfl,HX.out.1,by rw[HPut.out];exact HX.out.2⟩
   ·obtain rfl:k=l.length:=by omega
    have HPut:=hD0 (Z0n n l l.length hk hf (fun h=>absurd h (Nat.lt_irrefl _)))
    clear hf
    obtain⟨v1,w1,v2,w2,v3,w3,r1,r2,r3,hI3,hN3⟩:=Z57 n (HI.out.nw HG.out) hl hk
    rw[show(some (if c=l.length then(⟨g,0,none⟩:Addr) else⟨g,0+l.length*1,none⟩))=(if c=l.length then some (⟨g,0,none⟩:Addr)else some ⟨g,l.length,none⟩) from by rw[Nat.zero_add,Nat.mul_one];split<;>rfl,Nat.sub_self] at r3
    have HR1:=hD0 r1
    have HR2:=hD0 r2
    have HR3:=hD0 r3
    have hcap:=Vw HI.out
    have HX:=hD0 (aI0 (HG.out.trans hN3) (show U5 w3 g0 v3 _ from Us hI3 (fun b e=>Nat.le_trans HOw.out.2 (Nat.le_trans HG.out.sz (Va hI3 e)))))
    have k1:l.length≤c:=by omega
    have k2:(l.length:Int)≤(c:Int):=by omega
    have k3:(l.length:Int)≤(l.length:Int):=by omega
    have k4:((l.length:Int)-(l.length:Int)).toNat=l.length -l.length:=by omega
    have k5:((c:Int)-(l.length:Int)).toNat=c -l.length:=by omega
    have k6:(l.length:Int)≤(c:Int):=by omega
    clear r1 r2 r3 hI3 hN3
    go_wp2_with (at_builtin;(first | (refine Z6 (by rfl) (.tmp 34) (.tmp 37) 24 rfl _ _ _ _ rfl rfl HR1.out ?_) | (refine Z6 (by rfl) (.tmp 39) (.tmp 41) 24 rfl _ _ _ _ rfl rfl HR2.out ?_) | (refine Z6 (by rfl) (.tmp 43) (.tmp 46) 24 rfl _ _ _ _ rfl rfl HR3.out ?_)))
    all_goals (go_ret;exact⟨_,rfl,HX.out.1,by rw[HPut.out];exact HX.out.2⟩)
abbrev Vn(w:World)(v:Value)(l:List Int):Prop:=Rd 1 Y7 w v l
theorem IS.nm{w:World}{v:Value}{l:List Int}(h:IS w v l):Vn w v l:=Zu.rd (fun _=>rfl) h.own
theorem U5.nm{w:World}{g0:Nat}{v:Value}{l:List Int}(h:U5 w g0 v l):Vn w v l:=Zu.rd (fun _=>rfl) h
theorem Vt{w0:World}{v f:Value}{l:List Int}{ages:List (Int × Int)}(h:Vn w0 v l)(hf:Z1n w0 f (cmA ages))(hl:l.length≤200000)(hF:∀x∈l,Z8 x) :
  Calls prog 18 #[v,f] w0 fun e w'=>e=.returned (.tuple #[.int .i64 (bsF ages l),.bool (decide (0<l.length))])∧Nw w0 w':=by
 obtain⟨la,lc,rfl,hx⟩:=h
 have HD:=hD0 hx
 have HF:=hD0 hF
 obtain⟨g,lb,rfl,eg,hc⟩:=hf
 have HC:=hD0 hc
 obtain⟨n,hn⟩:∃n,l.length=n:=⟨_,rfl⟩
 have HN:=hD0 hn
 obtain⟨V,hV⟩:∃V,bsF ages l=V:=⟨_,rfl⟩
 have HV:=hD0 hV
 rw[hn,hV]
 have hln:n≤200000:=hn▸hl
 clear hx hF hc hn hV hl
 go_enter func18,ntmps18
 go_wp2_with fail
 go_loopw [6,11] (fun v6 v11 wr=>∃(k:Nat) (o:Int),v6=.int .i64 o∧v11=.int .i64 k∧k≤n∧Hid (o=bsF ages (l.take k)∧Nw w0 wr)) (fun _ v11 _=>n-(intOf v11).toNat)
 case atStart=>exact⟨0,0,rfl,rfl,Nat.zero_le _,hD0 ⟨rfl,Nw.refl _⟩⟩
 case round =>
  obtain⟨k,o,rfl,rfl,hk,HG⟩:=hrel
  by_cases hlt:k<n
  ·have hkl:k<l.length:=by rw[HN.out];exact hlt
   rcases HD.out with⟨q,_⟩ | ⟨lg,lo,rfl,hrc⟩
   ·rw[q] at hkl;simp at hkl
   obtain⟨x,hx⟩:∃x,l[k]=x:=⟨_,rfl⟩
   have hfx:=HF.out x (hx▸gM0 hkl)
   have hsn:l.take (k+1)=l.take k++[x]:=by rw[List.take_succ_eq_append_getElem hkl,hx]
   have cx:wr.cell? ⟨lg,lo+k,none⟩=some (.int .i64 x):=by
    have:=(hrc.nw HG.out.2).cell k hkl 0 (.int .i64 x) (by rw[hx];rfl)
    simpa using this
   have hlgl:=(hrc.nw HG.out.2).lt
   have Zr:=Zp hlt
   have hw:=Zo k (k+1) (by omega) rfl
   obtain⟨k1,hk1⟩:∃m,k+1=m:=⟨_,rfl⟩
   have HK1:=hD0 (aI0 hk1 hlt)
   rw[hk1] at hw
   by_cases h0:k=0
   ·have d0:decide (k=0)=true:=decide_eq_true h0
    have d1:((k:Int)==0)=true:=by rw[h0];rfl
    have HO:=hD0 (show x=bsF ages (l.take k1) from by
     rw[←hk1,hsn,h0]
     rfl)
    clear h0 hk1 hkl hrc hlt hx hfx hsn
    go_wp2_with fail
    exact⟨⟨k1,x,rfl,rfl,by rw[←HK1.out.1];exact HK1.out.2,hD0 ⟨HO.out,HG.out.2⟩⟩,by rw[←HK1.out.1];exact Zh HK1.out.2⟩
   ·have d0:decide (k=0)=false:=decide_eq_false h0
    have d1:((k:Int)==0)=false:=by rw[beq_eq_false_iff_ne];omega
    have d2:¬(k:Int)=0:=by omega
    have hne:l.take k≠[]:=fun e=>by
     have:=congrArg List.length e
     rw[List.length_take,Nat.min_eq_left (Nat.le_of_lt hkl)] at this
     exact h0 this
    have hfo:Z8 o:=HF.out o (by
     rw[HG.out.1]
     exact List.mem_of_mem_take (Z8c hne))
    have HB:=hD0 (show bsF ages (l.take k1)=Yr ages o x from by
     rw[←hk1,hsn,Z6n hne,←HG.out.1])
    have HCx:=hD0 (HC.out x o wr hfx hfo HG.out.2)
    have HP:=hD0 (Z8g ages x o)
    have HNw:=hD0 HG.out.2
    obtain⟨z,hz⟩:∃z,cmA ages x o=z:=⟨_,rfl⟩
    rw[hz] at HCx HP
    clear h0 hk1 hkl hrc hlt hx hfx hsn hne hfo HG hz
    go_wp2_with fail
    go_at_fn g
    refine HCx.out.mono ?_
    rintro e w1 ⟨rfl,g1⟩
    have HG1:=hD0 (HNw.out.trans g1)
    clear g1 HCx cx hlgl
    by_cases c1:0<z
    ·have dz:decide (0<z)=true:=decide_eq_true c1
     have HO:=hD0 (show x=bsF ages (l.take k1) from by
      rw[HB.out];unfold Yr;rw[if_pos (HP.out.1 c1)])
     clear c1
     go_wp2_with fail
     exact⟨⟨k1,x,rfl,rfl,by rw[←HK1.out.1];exact HK1.out.2,hD0 ⟨HO.out,HG1.out⟩⟩,by rw[←HK1.out.1];exact Zh HK1.out.2⟩
    ·have dz:decide (0<z)=false:=decide_eq_false c1
     have HO:=hD0 (show o=bsF ages (l.take k1) from by
      rw[HB.out];unfold Yr;rw[if_neg (fun q=>c1 (HP.out.2 q))])
     clear c1
     go_wp2_with fail
     exact⟨⟨k1,o,rfl,rfl,by rw[←HK1.out.1];exact HK1.out.2,hD0 ⟨HO.out,HG1.out⟩⟩,by rw[←HK1.out.1];exact Zh HK1.out.2⟩
  ·obtain rfl:k=n:=Nat.le_antisymm hk (Nat.le_of_not_lt hlt)
   have Zr:¬k<k:=Nat.lt_irrefl k
   have HO:=hD0 (show o=V∧Nw w0 wr from⟨by
    rw[HG.out.1,←HV.out,List.take_of_length_le (Nat.le_of_eq HN.out)],HG.out.2⟩)
   have dk:decide ((0:Int)<(k:Int))=decide (0<k):=by
    rw[Bool.eq_iff_iff,decide_eq_true_iff,decide_eq_true_iff]
    omega
   clear hlt HG
   go_wp2_with fail
   refine bodyPost_ret (v:=.tuple #[.int .i64 V,.bool (decide (0<k))]) (by simp[results,results18,go_sem,HO.out.1,dk, *]) rfl ⟨rfl,HO.out.2⟩
theorem Z0x{w0:World}{v va:Value}{l:List Int}{ages:List (Int × Int)}(h:Vn w0 v l)(ha:Zk w0 va ages)(hal:ages.length≤1000)(hl:l.length≤200000)(hfa:∀e∈ages,Z8 e.1)(hF:∀x∈l,Z8 x) :
  Calls prog 6 #[v,va] w0 fun e w'=>e=.returned (.tuple #[.int .i64 (bsF ages l),.bool (decide (0<l.length))])∧Nw w0 w':=by
 have HB:=hD0 (Z16 ha hal hfa)
 have HG:=hD0 (fun(z:World) (g:Nw w0 z) (f:Value) (hf:Z1n z f (cmA ages))=>Vt (h.nw g) hf hl hF)
 obtain⟨n,hn⟩:∃n,decide (0<l.length)=n:=⟨_,rfl⟩
 obtain⟨V,hV⟩:∃V,bsF ages l=V:=⟨_,rfl⟩
 rw[hn,hV] at HG ⊢
 obtain⟨la,lc,rfl,_⟩:=h
 obtain⟨ga,gc,rfl,_⟩:=ha
 clear hn hV hF hfa
 go_enter func6,ntmps6
 go_wp2_with fail
 refine HB.out.mono ?_
 rintro e w1 ⟨f,rfl,hC,g1⟩
 have HG1:=hD0 g1
 have HC1:=hD0 (HG.out w1 g1 f hC)
 obtain⟨k,lb,rfl,_⟩:=hC
 clear g1 HB HG
 go_wp2_with fail
 refine HC1.out.mono ?_
 rintro e w2 ⟨rfl,g2⟩
 have HG2:=hD0 (HG1.out.trans g2)
 clear g2 HC1
 go_wp2_with fail
 exact bodyPost_ret (v:=.tuple #[.int .i64 V,.bool n]) (by simp[results,results6,go_sem, *]) rfl ⟨rfl,HG2.out⟩
theorem Z4m{w0:World}{v va:Value}{c:List Int}{ages:List (Int × Int)}(h:Vn w0 v c)(hc:c=[])(ha:Zk w0 va ages)(hl:ages.length≤1000)(hfa:∀e∈ages,Z8 e.1) :
  Calls prog 6 #[v,va] w0 fun e w'=>e=.returned (.tuple #[.int .i64 0,.bool false])∧Nw w0 w':=by
 subst hc
 exact Z0x h ha hl (Nat.zero_le _) hfa (fun x hx=>nomatch hx)
theorem Z3s{w0:World}{v va:Value}{a:Int}{r:List Int}{ages:List (Int × Int)}(h:Vn w0 v (a::r))(ha:Zk w0 va ages)(hl:ages.length≤1000)(hr:r.length≤100000)(hfa:∀e∈ages,Z8 e.1)(hF:∀x∈a::r,Z8 x) :
  Calls prog 6 #[v,va] w0 fun e w'=>e=.returned (.tuple #[.int .i64 (Ze ages a r),.bool true])∧Nw w0 w':=by
 have:=Z0x h ha hl (by rw[List.length_cons];omega) hfa hF
 rw[decide_eq_true (show 0<(a::r).length from Nat.succ_pos _)] at this
 exact this
theorem Z4i(e:Int × Int)(v:Int)(w:World):Calls prog 76 #[egV e,.int .i64 v] w fun e' w'=>e'=.returned (.int .i64 (cP e.1 v))∧Nw w w':=by
 obtain⟨a,b⟩:=e
 go_enter func76,ntmps76
 go_wp2_with (go_at_call 34;refine(Z0a _ _ _).mono ?_;rintro e w' ⟨rfl,rfl⟩)
 go_ret
 exact⟨rfl,(Nw.refl _).alloc _⟩
theorem Z8q:∀args w,(callFunc 76 args).run prog w=.ok (.enter 76 args) w:=enters_of func76 (by kernel_rfl) rfl
theorem Zaj(i j t:Nat)(h:((i:Int)+(j:Int))/2=(t:Int))(hij:i<j):i≤t∧t<j:=by omega
structure BsI(E:List (Int × Int))(v:Int)(w:World)(i j:Nat)(wr:World):Prop where
 ij:i≤j
 jn:j≤E.length
 lo:∀k (hk:k<E.length),k<i→E[k].1<v
 hi:∀(h:j<E.length),v≤E[j].1
 nw:Nw w wr
theorem BsI.up{E:List (Int × Int)}{v:Int}{w wr w':World}{i j t:Nat}(h:BsI E v w i j wr)(hs:Zn E)(htj:t<j)(ht:t<E.length)(hlt:E[t].1<v)(g:Nw wr w'):BsI E v w (t+1) j w' :=
 ⟨htj,h.jn,fun k hk hkt=>by
  have:=Zbj hs (Nat.le_of_lt_succ hkt) hk ht
  omega,h.hi,h.nw.trans g⟩
theorem BsI.dn{E:List (Int × Int)}{v:Int}{w wr w':World}{i j t:Nat}(h:BsI E v w i j wr)(hit:i≤t)(ht:t<E.length)(hge:v≤E[t].1)(g:Nw wr w'):BsI E v w i t w' :=
 ⟨hit,Nat.le_of_lt ht,h.lo,fun _=>hge,h.nw.trans g⟩
theorem BsI.end_{E:List (Int × Int)}{v:Int}{w wr:World}{i:Nat}(h:BsI E v w i i wr):U3 E v=i:=Zav h.jn h.lo h.hi
theorem Z8d(v:Int)(ev:Value)(E:List (Int × Int))(w:World)(hl:E.length≤100000)(hs:Zn E)(h:Zk w ev E) :
  Calls prog 75 #[ev,.int .i64 v,.func (.func 76) #[] #[]] w fun e w'=>(∃b,e=.returned (.tuple #[.int .i64 (U3 E v),.bool b]))∧Nw w w':=by
 have HS:=hD0 (fun e w=>Z4i e v w)
 have eg:=Z8q
 have hH:=hD0 h
 have HR:=hD0 hs
 obtain⟨a,c,rfl,h'⟩:=h
 clear hs
 obtain⟨r,hr⟩:∃r,U3 E v=r:=⟨_,rfl⟩
 rw[hr]
 have HRr:=hD0 hr
 clear hr
 obtain⟨n,hn⟩:∃n,E.length=n:=⟨_,rfl⟩
 have HN:=hD0 hn
 rw[hn] at hl ⊢
 clear hn h'
 go_enter func75,ntmps75
 go_wp2
 go_loopw [9,10] (fun vi vj wr=>∃i j:Nat,vi=.int .i64 i∧vj=.int .i64 j∧j≤n∧i≤j∧Hid (BsI E v w i j wr)) (fun vi vj _=>(intOf vj).toNat-(intOf vi).toNat)
 case atStart=>exact⟨0,n,rfl,rfl,Nat.le_refl _,Nat.zero_le _,hD0 ⟨Nat.zero_le _,Nat.le_of_eq HN.out.symm,fun k hk q=>by omega,fun h=>absurd h (by rw[HN.out];exact Nat.lt_irrefl _),Nw.refl _⟩⟩
 case round =>
  obtain⟨i,j,rfl,rfl,hjn,hij,HB⟩:=hrel
  by_cases hlt:i<j
  ·have dlt:decide ((i:Int)<(j:Int))=true:=by rw[decide_eq_true_iff];omega
   have dlt2:decide (i<j)=true:=by simpa using hlt
   have w2:=Zax i j (by omega) (by omega)
   obtain⟨t,hh⟩:∃t:Nat,((i:Int)+(j:Int))/2=(t:Int):=⟨(i+j)/2,by omega⟩
   obtain⟨hf1,hf2⟩:=Zaj i j t hh hlt
   have htE:t<E.length:=by have:=HN.out;omega
   have htn:t<n:=by omega
   have htn':(t:Int)<(n:Int):=by omega
   have w4:=Zbp t (by omega)
   obtain⟨a',c',e1,hc⟩:=hH.out.nw HB.out.nw
   rcases hc with⟨hc,_⟩ | ⟨b,o,e2,hc⟩
   ·rw[hc] at htE;simp at htE
   ·simp only[Value.slice.injEq] at e1
    obtain⟨rfl,_,rfl⟩:=e1
    subst e2
    obtain⟨c0,c1⟩:=hc.eg htE
    have hbl:=hc.lt
    obtain⟨e,he⟩:∃e,E[t]=e:=⟨_,rfl⟩
    rw[he] at c0 c1
    have HE:=hD0 he
    obtain⟨x,y⟩:=e
    simp only at c0 c1
    have HC:=hD0 (HS.out (x,y))
    clear hc he
    by_cases hx:x<v
    ·have hp:cP x v = -1:=Z6o x v hx
     rw[hp] at HC
     have HX:=hD0 hx
     clear hx
     go_wp2_with (go_at_fn 76;refine(HC.out _).mono ?_;rintro e' w1 ⟨rfl,g1⟩)
     go_roundw
     case rel=>exact⟨t+1,j,congrArg (Value.int .i64) (by first | exact w4 | rfl),rfl,hjn,hf2,hD0 (HB.out.up HR.out hf2 htE (by rw[HE.out];exact HX.out) g1)⟩
     case measure=>first | exact Z6w (i':=t+1) (j':=j) (by omega) | (rw[w4];exact Z6w (i':=t+1) (j':=j) (by omega))
    ·have hp:¬cP x v<0:=by
      unfold cP
      rw[if_neg hx]
      split<;>omega
     obtain⟨z,hz⟩:∃z,cP x v=z:=⟨_,rfl⟩
     rw[hz] at hp HC
     have dz:decide (z<0)=false:=by simpa using hp
     have HX:=hD0 (Int.not_lt.1 hx)
     clear hx hp hz
     go_wp2_with (go_at_fn 76;refine(HC.out _).mono ?_;rintro e' w1 ⟨rfl,g1⟩)
     go_roundw
     case rel=>exact⟨i,t,rfl,rfl,by omega,hf1,hD0 (HB.out.dn hf1 htE (by rw[HE.out];exact HX.out) g1)⟩
     case measure=>exact Z6w (i':=i) (j':=t) (by omega)
  ·obtain rfl:i=j:=by omega
   have hst:=(HRr.out.symm.trans HB.out.end_).symm
   subst hst
   have HW:=hD0 HB.out.nw
   by_cases hin:i<n
   ·have dlt:decide ((i:Int)<(n:Int))=true:=by rw[decide_eq_true_iff];omega
    have dlt2:decide (i<n)=true:=by simpa using hin
    have hin':(i:Int)<(n:Int):=by omega
    have htE:i<E.length:=by have:=HN.out;omega
    obtain⟨a',c',e1,hc⟩:=hH.out.nw HB.out.nw
    rcases hc with⟨hc,_⟩ | ⟨b,o,e2,hc⟩
    ·rw[hc] at htE;simp at htE
    ·simp only[Value.slice.injEq] at e1
     obtain⟨rfl,_,rfl⟩:=e1
     subst e2
     obtain⟨c0,c1⟩:=hc.eg htE
     have hbl:=hc.lt
     obtain⟨e,he⟩:∃e,E[i]=e:=⟨_,rfl⟩
     rw[he] at c0 c1
     obtain⟨x,y⟩:=e
     simp only at c0 c1
     have HC:=hD0 (HS.out (x,y))
     clear hc he
     go_wp2_with (go_at_fn 76;refine(HC.out _).mono ?_;rintro e' w1 ⟨rfl,g1⟩)
     go_ret2
     exact⟨⟨_,rfl⟩,HW.out.trans g1⟩
   ·have dlt:decide ((i:Int)<(n:Int))=false:=by rw[decide_eq_false_iff_not];omega
    have dlt2:decide (i<n)=false:=by simpa using hin
    go_wp2
    go_ret2
    exact⟨⟨_,rfl⟩,HW.out⟩
theorem Z1k(v:Int)(ev:Value)(E:List (Int × Int))(w:World)(hl:E.length≤100000)(hs:Zn E)(h:Zk w ev E) :
  Calls prog 57 #[ev,.int .i64 v] w fun e w'=>e=.returned (.int .i64 (U3 E v))∧Nw w w':=by
 have HB:=hD0 (Z8d v ev E w hl hs h)
 obtain⟨a,c,rfl⟩:=h.form
 clear h hs
 go_enter func57,ntmps57
 go_wp2_with fail
 refine HB.out.mono ?_
 rintro e w1 ⟨⟨b,rfl⟩,g1⟩
 go_wp2
 go_ret
 exact⟨rfl,g1⟩
section
open Go.RowKit Go.Sort
def GG(w w':World):Prop:=∃q os,w'=grow (w.drewN q) os
theorem GG.refl(w:World):GG w w:=⟨0,#[],by unfold grow;simp[World.drewN]⟩
theorem GG.drew{w w':World}(h:GG w w'):GG w w'.drew:=by obtain⟨q,os,rfl⟩:=h;exact⟨q+1,os,rfl⟩
theorem GG.alloc{w w':World}(h:GG w w')(o:Obj):GG w (w'.alloc o):=by obtain⟨q,os,rfl⟩:=h;exact⟨q,os.push o,by rw[alloc_eq_grow,grow_grow];rfl⟩
theorem GG.nw{w w':World}(h:GG w w'):Nw w w':=by
 obtain⟨q,os,rfl⟩:=h
 refine⟨rfl,rfl,rfl,by rw[size_grow];exact Nat.le_add_right _ _,fun k hk=>?_⟩
 exact heap_grow_old _ _ hk
theorem GG.trans{a b c:World}(h:GG a b)(k:GG b c):GG a c:=by
 obtain⟨q,os,rfl⟩:=h
 obtain⟨q',os',rfl⟩:=k
 refine⟨q+q',os++os',?_⟩
 unfold grow World.drewN
 simp[Nat.add_assoc,Array.append_assoc]
abbrev Z89(w:World)(t r t' r':Int)(a:World):Prop:=(a.cell? ⟨w.heap.size,0,none⟩=some (.int .i64 t)∧a.cell? ⟨w.heap.size,1,none⟩=some (.int .i64 r)∧a.cell? ⟨w.heap.size+1,0,none⟩=some (.int .i64 t')∧a.cell? ⟨w.heap.size+1,1,none⟩=some (.int .i64 r'))∧(w.heap.size+1<a.heap.size∧GG w a)
theorem Z4k(w:World)(t r t' r':Int)(ty:TypeId):Z89 w t r t' r' (((w.alloc (.cells #[.int .i64 t,.int .i64 r] ty)).alloc (.cells #[.int .i64 t',.int .i64 r'] ty)).drew):=by
 have h1:=Z4 w (.cells #[.int .i64 t,.int .i64 r] ty)
 have hz:(w.alloc (.cells #[.int .i64 t,.int .i64 r] ty)).heap.size=w.heap.size+1:=by simp
 have h2:=Z4 (w.alloc (.cells #[.int .i64 t,.int .i64 r] ty)) (.cells #[.int .i64 t',.int .i64 r'] ty)
 have h3:=((Nw.refl (w.alloc (.cells #[.int .i64 t,.int .i64 r] ty))).alloc (.cells #[.int .i64 t',.int .i64 r'] ty)).at' h1
 rw[hz] at h2
 refine⟨⟨?_,?_,?_,?_⟩,?_,(((GG.refl w).alloc _).alloc _).drew⟩
 ·exact Z2 (j:=0) h3
 ·exact Z2 (j:=1) h3
 ·exact Z2 (j:=0) h2
 ·exact Z2 (j:=1) h2
 ·exact hlt h2
theorem Ug{w a b:World}{t r t' r':Int}(g:GG a b)(h:Z89 w t r t' r' a):Z89 w t r t' r' b:=by
 obtain⟨⟨h0,h1,h2,h3⟩,hs,hn⟩:=h
 exact⟨⟨g.nw.kp h0,g.nw.kp h1,g.nw.kp h2,g.nw.kp h3⟩,lL0 hs g.nw.sz,hn.trans g⟩
def Z3x(a b:Int × Int):Int:=orP (cP a.1 b.1) (cP a.2 b.2)
theorem Z01(a b:Int × Int):ltOf Z3x a b=decide (nlt a b):=by
 obtain⟨a,a'⟩:=a
 obtain⟨b,b'⟩:=b
 unfold ltOf Z3x orP cP nlt
 rcases Int.lt_trichotomy a b with h | h | h
 ·simp[h]
 ·subst h
  rcases Int.lt_trichotomy a' b' with q | q | q
  ·simp[q]
  ·subst q;simp
  ·have:¬a'<b':=by omega
   simp[q,this]
 ·have h1:¬a<b:=by omega
  have h2:a≠b:=by omega
  simp[h,h1,h2]
theorem Z6p:SWO (ltOf Z3x) where
 irrefl x:=by rw[Z01];simpa using Z8y x
 trans x y z h1 h2:=by rw[Z01] at *;simp only[decide_eq_true_eq] at *;exact Zak h1 h2
 ntrans x y z h1 h2:=by rw[Z01] at *;simp only[decide_eq_false_iff_not] at *;intro h;unfold nlt at *;omega
end
section
open Go.RowKit Go.Sort Go.Shelf
theorem Zai{w:World}{g:Nat}{cur F:Array Value}{e:TypeId}(hb:w.heap[g]?=some (.cells cur e (0,0)))(ht:cur.toList.take F.size=F.toList):Holds id w g 0 F:=by
 intro j hj
 refine⟨?_,by simp[World.frozen?,hb]⟩
 have h1:(cur.toList.take F.size)[j]?=F.toList[j]?:=by rw[ht]
 rw[List.getElem?_take_of_lt hj] at h1
 simp only[World.cell?,hb,Nat.zero_add]
 simp only[Option.isSome_none,Bool.false_eq_true,if_false]
 rw[←Array.getElem?_toList,h1]
 simp[hj]
theorem Zba{w:World}{g n:Nat}{os:Array Obj}{cur:Array Value}{e:TypeId}{fr:Nat × Nat}(F:Array Value)(hb:w.heap[g]?=some (.cells cur e fr)) :
  (grow (putRow id (Sort.ahead w n) g 0 F) os).heap[g]?=some (.cells (putCells id 0 F cur) e fr):=by
 have hg:g<w.heap.size:=(Array.getElem?_eq_some_iff.1 hb).1
 rw[heap_grow_old _ _ (by simpa using hg)]
 simp[putRow,mapBlock,Sort.ahead,Array.getElem?_modify,hb,onCells]
theorem Zc7{w:World}{g n:Nat}{os:Array Obj}(F:Array Value):Zf (fun b=>b=g) w (grow (putRow id (Sort.ahead w n) g 0 F) os):=by
 refine⟨rfl,rfl,rfl,by simp,fun k hk hne=>?_⟩
 rw[heap_grow_old _ _ (by simpa using hk)]
 have:g≠k:=fun e=>hne e.symm
 simp[putRow,mapBlock,Sort.ahead,Array.getElem?_modify,this]
theorem Zbq(cur F:Array Value)(h:F.size≤cur.size):(putCells id 0 F cur).toList.take F.size=F.toList:=by
 apply List.ext_getElem?
 intro j
 by_cases hj:j<F.size
 ·rw[List.getElem?_take_of_lt hj,Array.getElem?_toList]
  simp[putCells,hj,show j<cur.size by omega]
 ·rw[List.getElem?_take_eq_none (by omega),List.getElem?_eq_none (by simp;omega)]
theorem Z9w{α:Type}[Inhabited α]{sz:Nat}{row:α→List Value}(hz:0<sz)(hl:∀a,(row a).length=sz)(ss:List α):flatK row sz ss.toArray=⟨Z7 row ss⟩:=by
 have hlen:(Z7 row ss).length=ss.length*sz:=Yh hl ss
 apply Array.ext
 ·rw[size_flatK];simp[hlen]
 ·intro t h1 h2
  rw[size_flatK] at h1
  have h1':t<ss.length*sz:=by simpa using h1
  have hd:t/sz<ss.length:=Nat.div_lt_of_lt_mul (by rwa [Nat.mul_comm])
  have hm:t%sz<sz:=Nat.mod_lt _ hz
  have h3:=Yg hl ss (t/sz) (t%sz) hd hm
  rw[show t/sz*sz+t%sz=t by rw[Nat.mul_comm];exact Nat.div_add_mod t sz] at h3
  have e1:=get_flatK row sz ss.toArray t h1
  rw[getElem!_pos _ t (by rw[size_flatK];exact h1)] at e1
  rw[e1,getElem!_pos ss.toArray (t/sz) (by simpa using hd)]
  have e2:(⟨Z7 row ss⟩:Array Value)[t]?=(row ss[t/sz])[t%sz]?:=by
   rw[←h3];simp
  rw[Array.getElem?_eq_getElem h2] at e2
  simp only[List.getElem_toArray]
  rw[getElem!_pos _ _ (by rw[hl];exact hm)]
  rw[List.getElem?_eq_getElem (by rw[hl];exact hm)] at e2
  exact(Option.some.inj e2).symm
theorem Zbl{α:Type}[Inhabited α]{d d':Array α}(h:PermIn 0 d.size d d'):d'.toList.Perm d.toList:=by
 obtain⟨h1,_,h3⟩:=h
 have e1:d'.extract 0 d.size=d':=by rw[←h1];exact Array.extract_size
 have e2:d.extract 0 d.size=d:=Array.extract_size
 rwa [e1,e2] at h3
theorem Z9h{α:Type}[Inhabited α]{lt:α→α→Bool}{d':Array α}{n:Nat}(hn:d'.size=n)(h:SortedIn lt 0 n d'):d'.toList.Pairwise fun a b=>lt b a=false:=by
 rw[List.pairwise_iff_getElem]
 intro i j hi hj hij
 have:=h i j (Nat.zero_le _) hij (by rw[←hn];simpa using hj)
 have hi':i<d'.size:=by simpa using hi
 have hj':j<d'.size:=by simpa using hj
 rw[getElem!_pos d' i hi',getElem!_pos d' j hj'] at this
 simpa using this
theorem Z6a{α:Type}[Inhabited α]{ST T:TypeId}{sz bytes:Nat}{row:α→List Value}(E:Uq prog ST T sz bytes row){ρ:Ren}(L:SlLaysF0.n6 prog ρ)(aE:∀w,(isAgg (ρ.t 24)).run prog w=.ok true w)(zE:∀w,(Go.sizeOf (ρ.t 24)).run prog w=.ok sz w)
  (cf:α→α→Int) (hO:SWO (ltOf cf)) (fn:Nat) (eg:∀args w,(callFunc fn args).run prog w=.ok (.enter fn args) w)
  (hc:∀x y W,Calls prog fn #[.agg (row x).toArray,.agg (row y).toArray] W fun e w'=>e=.returned (.int .i64 (cf x y))∧GG W w')
  (g0 g cap:Nat) (ss:List α) (w:World) (h:Zu T sz row w g0 (.slice (some ⟨g,0,none⟩) ss.length cap) ss) (hsm:ss.length≤100000) :
  Calls prog (ρ.f 6) #[.slice (some ⟨g,0,none⟩) ss.length cap,.func (.func fn) #[] #[]] w fun e w'=>e=.returned (.tuple #[])∧∃l:List α,l.Perm ss∧(l.Pairwise fun a b=>ltOf cf b a=false)∧Zu T sz row w' g0 (.slice (some ⟨g,0,none⟩) l.length cap) l∧Zf (fun b=>b=g) w w':=by
 obtain⟨hx,hr⟩:=h
 rcases hr with⟨h0,_⟩ | ⟨g',cap',cur,h1,h2,h3,h4,h5,h6,h7⟩
 ·simp at h0
 ·simp only[Value.slice.injEq,Option.some.injEq,Addr.mk.injEq,and_true,true_and] at h1
  obtain⟨rfl,rfl⟩:=h1
  have hF:(⟨Z7 row ss⟩:Array Value).size=ss.length*sz:=Yh E.len ss
  have hH:HoldsK row sz w g 0 ss.toArray:=by
   unfold HoldsK
   rw[Z9w E.pos E.len]
   exact Zai h3 (by rw[hF];exact h7)
  have hcl:CmpLays prog fn #[] row sz cf g 0 ss.toArray.size w:=fun _ _ _ _ x y=>hc x y _
  refine Calls.mono (AnyQ.slices_SortFunc L sz aE zE row E.len E.one cf hO fn #[] g 0 cap ss.toArray w eg hcl hH (hlt h3) (by simp;omega)) ?_
  rintro e w' ⟨rfl,d',n,os,hp,hs,rfl⟩
  have hsz:d'.size=ss.length:=by have:=hp.1;simpa using this
  have hp2:=Zbl hp
  refine⟨rfl,d'.toList,by simpa using hp2,Z9h (by simpa using hsz) hs,?_,?_⟩
  ·have hl:d'.toList.length=ss.length:=by simpa using hsz
   have hz:(⟨Z7 row d'.toList⟩:Array Value).size=ss.length*sz:=by rw[←hl];exact Yh E.len _
   unfold sortWorldK putRowK
   have ef:flatK row sz d'=⟨Z7 row d'.toList⟩:=by
    have:=Z9w E.pos E.len d'.toList
    rwa [Array.toArray_toList] at this
   rw[ef]
   unfold Zu
   rw[hl]
   refine⟨by show(Z7 row d'.toList).length=_;exact hz,.inr ⟨g,cap,_,rfl,h2,Zba _ h3,h4,h5,by simp[putCells,h6],?_⟩⟩
   have:=Zbq cur ⟨Z7 row d'.toList⟩ (by rw[hz,h6];exact Nat.mul_le_mul_right sz h4)
   rw[hz] at this
   exact this
  ·exact Zc7 _
end
end Go.Proofs.YtbnpnccpobkodaaGreat
namespace Go.Proofs
open _root_.Go.Proofs.Tryz
open Go.Shelf
def Tryz.sortE_ren:Go.Shelf.Ren:=⟨fun | 6=>53 | 15=>72 | 14=>71 | 28=>91 | 29=>92 | 20=>83 | 21=>84 | 22=>85 | 23=>86 | 24=>87 | 25=>88 | 26=>89 | 27=>90 | 46=>108 | 47=>109 | 48=>110 | 49=>111 | 50=>112 | 57=>117 | n=>n,fun | 22=>22 | 24=>36 | 25=>80 | 3=>3 | 39=>99 | 0=>0 | 53=>116 | 55=>118 | 4=>4 | 46=>110 | 45=>109 | 50=>28 | 5=>5 | 9=>9 | 66=>129 | 70=>133 | 76=>137 | 77=>138 | n=>n,fun | n=>n⟩
theorem Tryz.sortE:Go.Proofs.SlLaysF0.n6 prog Tryz.sortE_ren:={
 mixed:=by kernel_rfl
 f6:=⟨Tryz.f53.name,by decide,func53.trans (congrArg some (by kernel_rfl))⟩
 f14:=⟨Tryz.f71.name,by decide,func71.trans (congrArg some (by kernel_rfl))⟩
 f15:=func72.trans (congrArg some (by kernel_rfl))
 f20:=⟨Tryz.f83.name,by decide,func83.trans (congrArg some (by kernel_rfl))⟩
 f21:=⟨Tryz.f84.name,by decide,func84.trans (congrArg some (by kernel_rfl))⟩
 f22:=⟨Tryz.f85.name,by decide,func85.trans (congrArg some (by kernel_rfl))⟩
 f23:=⟨Tryz.f86.name,by decide,func86.trans (congrArg some (by kernel_rfl))⟩
 f24:=⟨Tryz.f87.name,by decide,func87.trans (congrArg some (by kernel_rfl))⟩
 f25:=⟨Tryz.f88.name,by decide,func88.trans (congrArg some (by kernel_rfl))⟩
 f26:=⟨Tryz.f89.name,by decide,func89.trans (congrArg some (by kernel_rfl))⟩
 f27:=⟨Tryz.f90.name,by decide,func90.trans (congrArg some (by kernel_rfl))⟩
 f28:=func91.trans (congrArg some (by kernel_rfl))
 f29:=func92.trans (congrArg some (by kernel_rfl))
 f46:=⟨Tryz.f108.name,by decide,func108.trans (congrArg some (by kernel_rfl))⟩
 f47:=func109.trans (congrArg some (by kernel_rfl))
 f48:=func110.trans (congrArg some (by kernel_rfl))
 f49:=⟨Tryz.f111.name,by decide,func111.trans (congrArg some (by kernel_rfl))⟩
 f50:=⟨Tryz.f112.name,by decide,func112.trans (congrArg some (by kernel_rfl))⟩
 f57:=⟨Tryz.f117.name,by decide,func117.trans (congrArg some (by kernel_rfl))⟩
 t0:=underlying0
 a0:=Tryz.isAgg0
 z0:=Tryz.sizeOf0
 v0:=Tryz.zeroValue0
 t3:=underlying3
 a3:=Tryz.isAgg3
 z3:=Tryz.sizeOf3
 v3:=Tryz.zeroValue3
 t4:=underlying4
 a4:=Tryz.isAgg4
 z4:=Tryz.sizeOf4
 v4:=Tryz.zeroValue4
 t5:=underlying5
 a5:=Tryz.isAgg5
 z5:=Tryz.sizeOf5
 v5:=Tryz.zeroValue5
 t9:=underlying9
 a9:=Tryz.isAgg9
 z9:=Tryz.sizeOf9
 v9:=Tryz.zeroValue9
 t22:=underlying22
 a22:=Tryz.isAgg22
 z22:=Tryz.sizeOf22
 v22:=Tryz.zeroValue22
 t25:=underlying80
 a25:=Tryz.isAgg80
 z25:=Tryz.sizeOf80
 v25:=Tryz.zeroValue80
 t39:=underlying99
 a39:=Tryz.isAgg99
 z39:=Tryz.sizeOf99
 v39:=Tryz.zeroValue99
 t45:=underlying109
 a45:=Tryz.isAgg109
 z45:=Tryz.sizeOf109
 v45:=Tryz.zeroValue109
 t46:=underlying110
 a46:=Tryz.isAgg110
 z46:=Tryz.sizeOf110
 v46:=Tryz.zeroValue110
 t50:=underlying28
 a50:=Tryz.isAgg28
 z50:=Tryz.sizeOf28
 v50:=Tryz.zeroValue28
 t53:=underlying116
 a53:=Tryz.isAgg116
 z53:=Tryz.sizeOf116
 v53:=Tryz.zeroValue116
 t55:=underlying118
 a55:=Tryz.isAgg118
 z55:=Tryz.sizeOf118
 v55:=Tryz.zeroValue118
 t66:=underlying129
 a66:=Tryz.isAgg129
 z66:=Tryz.sizeOf129
 v66:=Tryz.zeroValue129
 t70:=underlying133
 a70:=Tryz.isAgg133
 z70:=Tryz.sizeOf133
 v70:=Tryz.zeroValue133
 t76:=underlying137
 a76:=Tryz.isAgg137
 z76:=Tryz.sizeOf137
 v76:=Tryz.zeroValue137
 t77:=underlying138
 a77:=Tryz.isAgg138
 z77:=Tryz.sizeOf138
 v77:=Tryz.zeroValue138 }
end Go.Proofs
namespace Go.Proofs.YtbnpnccpobkodaaGreat
open Go.RowKit _root_.Go.Proofs.Tryz
end Go.Proofs.YtbnpnccpobkodaaGreat
