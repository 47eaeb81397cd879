/- Texts merged: BdC, BdP, BdD, BdE, BdF, SortN, BdG, BdH, TbB, TbA, TbF, TbC, TbD, Sum, Shelf, NameE, RefT, Wrap -/
import Derived.Test.YtpffldfpabglbaaGreatDoorTableScriptB7
import Derived.Sort.MapsRangeIn
import Derived.RegionIn
import Derived.Shelf.SlSortCmp.NoneTotal
import Derived.Test.YtpffldfpabglbaaGreatDoorChecked
import Derived.Lib.ConvBytes
import Derived.Shelf.Small.Bits
import Derived.Shelf.Small.Wraps
import Derived.Shelf.Strconv.Itoa0
import Derived.Shelf.Strconv.Itoa1
import Derived.Shelf.LaysM
import Derived.Shelf.Strconv.Itoa2
import Derived.Shelf.Strconv.Itoa3
import Derived.Ground.SlsfProg
import Derived.Shelf.SlSortCmp.Insertion
import Derived.Shelf.SlSortCmp.Insertion1
import Derived.Test.YtpffldfpabglbaaGreatDoorProg
import Derived.Handed
import Derived.LaidMore
import Derived.Lib.SmallJoins
set_option linter.unusedVariables false
set_option maxRecDepth 100000
set_option maxHeartbeats 16000000
namespace Go.Proofs.YtpffldfpabglbaaGreatDoor
open Go.RowKit _root_.Go.Proofs.Tryz
section
open Go.RowKit Go.Maps Go.ChangeMaps Go.WideShapes
structure Hp where
 h:Hq
 p:Nat
 a:Option Addr
 c:Nat
abbrev ptP(x:Hp):Value:=.pointer (some ⟨x.p,0,none⟩)
def Z0y:Value→Option (DataW Unit × List MemPlace)
 | .pointer (some ⟨p,0,none⟩)=>some (.lit (.int .i64 (p:Int)),[])
 | .pointer none=>some (.nil,[])
 | _=>none
theorem Z2q{v:Value}{p:Nat}{ps:List MemPlace}(h:Z0y v=some (.lit (.int .i64 (p:Int)),ps)):v=.pointer (some ⟨p,0,none⟩):=by
 unfold Z0y at h
 split at h
 ·injection h with h
  injection h with h1 _
  injection h1 with h1
  injection h1 with _ h1
  rw[show _=p from Int.ofNat.inj h1]
 ·injection h with h
  injection h with h1 _
  cases h1
 ·cases h
theorem Z5y{v:Value}{ps:List MemPlace}(h:Z0y v=some (.nil,ps)):v=.pointer none:=by
 unfold Z0y at h
 split at h
 ·injection h with h
  injection h with h1 _
  cases h1
 ·rfl
 ·cases h
def Z58(x:Hp):Lit × DataW Unit:=(nmL (Z9 x.h),.lit (.int .i64 (x.p:Int)))
structure Y8(w:World)(mb:Nat)(l:List Hp):Prop where
 own:∃es,w.ownsMap prog 34 Z0y mb l.length (.map es)∧es.Perm (l.map Z58)
 wf:∀x∈l,wfN (Z9 x.h)
 ne:l.Pairwise fun x y=>Z9 x.h≠Z9 y.h
theorem Zqo(w:World):(zeroValue 176).run prog w=.ok (.pointer none) w:=by kernel_rfl
variable {w w':World} {mb:Nat} {l:List Hp}
theorem Y8.kept{row:Option Nat}(h:Y8 w mb l)(hg:w.grownBy w' row)(hne:some mb≠row):Y8 w' mb l:=by
 obtain⟨⟨es,h1,h2⟩,h3,h4⟩:=h
 exact⟨⟨es,h1.kept hg hne,h2⟩,h3,h4⟩
theorem Y8.nw(h:Y8 w mb l)(g:Nw w w'):Y8 w' mb l:=h.kept (g.grownBy none) (by simp)
theorem Y8.lt(h:Y8 w mb l):mb<w.heap.size:=by obtain⟨⟨es,h1,_⟩,_⟩:=h;exact h1.lt
theorem Y8.same(h:Y8 w mb l)(e:w'.heap[mb]?=w.heap[mb]?):Y8 w' mb l:=by
 obtain⟨⟨es,⟨a,c,h1,h2⟩,h3⟩,h4,h5⟩:=h
 exact⟨⟨es,⟨a,c,e.trans h1,h2⟩,h3⟩,h4,h5⟩
theorem Y8.tch{S:Nat→Prop}(h:Y8 w mb l)(t:Z4 S w w')(hS:¬S mb):Y8 w' mb l:=h.same (t.block mb h.lt hS)
theorem Y8.perm{l':List Hp}(h:Y8 w mb l)(p:l.Perm l'):Y8 w mb l':=by
 obtain⟨⟨es,h1,h2⟩,h3,h4⟩:=h
 exact⟨⟨es,by rw[←p.length_eq];exact h1,h2.trans (p.map Z58)⟩,fun x hx=>h3 x (p.mem_iff.2 hx),(p.pairwise_iff (fun {a b} (e:Z9 a.h≠Z9 b.h)=>e.symm)).1 h4⟩
theorem Y8.made(w:World):Y8 (w.alloc (.map #[] 0)) w.heap.size []:=⟨⟨[],World.ownsMap_made _ _ _ _,by simp⟩,by simp,by simp⟩
def Z16(l:List Hp)(a:Int × Int):Option Hp:=l.find? fun x=>decide (Z9 x.h=a)
theorem Vk{a:Int × Int}{x:Hp}(e:Z16 l a=some x):x∈l∧Z9 x.h=a:=⟨List.mem_of_find?_eq_some e,by simpa using List.find?_some e⟩
theorem Z5a{a:Int × Int}(e:Z16 l a=none):∀x∈l,Z9 x.h≠a:=fun x hx=>by
 have:=List.find?_eq_none.1 e x hx
 simpa using this
theorem Zhj(h4:l.Pairwise fun x y=>Z9 x.h≠Z9 y.h){x:Hp}(hx:x∈l):Z16 l (Z9 x.h)=some x:=by
 cases e:Z16 l (Z9 x.h) with
 | none=>exact absurd rfl (Z5a e x hx)
 | some y =>
  obtain⟨hy,hn⟩:=Vk e
  by_cases q:y=x
  ·rw[q]
  ·exfalso
   have:∀ {l:List Hp},(l.Pairwise fun x y=>Z9 x.h≠Z9 y.h)→x∈l→y∈l→False:=by
    intro l hp
    induction l with
    | nil=>intro hx;cases hx
    | cons z t ih =>
     intro hx hy
     obtain⟨p1,p2⟩:=List.pairwise_cons.1 hp
     rcases List.mem_cons.1 hx with rfl | hx'
     ·rcases List.mem_cons.1 hy with rfl | hy'
      ·exact q rfl
      ·exact p1 y hy' hn.symm
     ·rcases List.mem_cons.1 hy with rfl | hy'
      ·exact p1 x hx' hn
      ·exact ih p2 hx' hy'
   exact this h4 hx hy
theorem Z71{α:Type}{f:α→Bool}{l l':List α}(p:l.Perm l'):l.any f=l'.any f:=by
 rw[Bool.eq_iff_iff,List.any_eq_true,List.any_eq_true]
 exact⟨fun⟨x,hx,h⟩=>⟨x,p.mem_iff.1 hx,h⟩,fun⟨x,hx,h⟩=>⟨x,p.mem_iff.2 hx,h⟩⟩
theorem Y8.has_iff(h3:∀x∈l,wfN (Z9 x.h)){es:List (Lit × DataW Unit)}(h2:es.Perm (l.map Z58)){a:Int × Int}(wa:wfN a):Maps.has (DataW.map es) (nmL a)=(Z16 l a).isSome:=by
 rw[has_eq,Z71 h2,List.any_map]
 cases e:Z16 l a with
 | none =>
  simp only[Option.isSome_none,List.any_eq_false,Function.comp]
  intro x hx hs
  exact Z5a e x hx (Z6n (h3 x hx) wa (WideAt.sameKey_eq hs))
 | some x =>
  obtain⟨hx,rfl⟩:=Vk e
  simp only[Option.isSome_some,List.any_eq_true,Function.comp]
  exact⟨x,hx,WideAt.sameKey_self (Zaz _)⟩
theorem Y8.at_iff(h3:∀x∈l,wfN (Z9 x.h))(h4:l.Pairwise fun x y=>Z9 x.h≠Z9 y.h){es:List (Lit × DataW Unit)}(h2:es.Perm (l.map Z58)){x:Hp}(hx:x∈l)(z:DataW Unit):(DataW.map es).atKey (nmL (Z9 x.h)) z=.lit (.int .i64 (x.p:Int)):=by
 unfold DataW.atKey
 simp only
 cases e:es.find? (fun p=>p.1.sameKey (nmL (Z9 x.h))) with
 | none =>
  exfalso
  have:=List.find?_eq_none.1 e (Z58 x) (h2.mem_iff.2 (List.mem_map.2 ⟨x,hx,rfl⟩))
  exact this (WideAt.sameKey_self (Zaz _))
 | some p =>
  have hm:=h2.mem_iff.1 (List.mem_of_find?_eq_some e)
  obtain⟨y,hy,rfl⟩:=List.mem_map.1 hm
  have hn:=Z6n (h3 y hy) (h3 x hx) (WideAt.sameKey_eq (List.find?_some (p:=fun p:Lit × DataW Unit=>p.1.sameKey (nmL (Z9 x.h))) e))
  have e1:=Zhj h4 hy
  rw[hn,Zhj h4 hx] at e1
  rw[Option.some.inj e1]
  rfl
theorem Y8.look_yes(h:Y8 w mb l){a:Int × Int}(wa:wfN a){x:Hp}(e:Z16 l a=some x) :
  (Instr.lookup 135 (.map (some mb)) (nmV a) true).run prog w=.ok (.tuple #[ptP x,.bool true]) w:=by
 obtain⟨⟨es,o,h2⟩,h3,h4⟩:=h
 obtain⟨v,ps,hr,hv⟩:=o.look_ok (t:=135) Zd3 underlying135 (Zqo w) (zd:=.nil) (zp:=[]) rfl (Zd1 wa)
 obtain⟨hx,rfl⟩:=Vk e
 rw[Y8.at_iff h3 h4 h2 hx] at hv
 rw[Z2q hv,Y8.has_iff h3 h2 wa,e] at hr
 exact hr
theorem Y8.look_no(h:Y8 w mb l){a:Int × Int}(wa:wfN a)(e:Z16 l a=none) :
  (Instr.lookup 135 (.map (some mb)) (nmV a) true).run prog w=.ok (.tuple #[.pointer none,.bool false]) w:=by
 obtain⟨⟨es,o,h2⟩,h3,h4⟩:=h
 obtain⟨v,ps,hr,hv⟩:=o.look_ok (t:=135) Zd3 underlying135 (Zqo w) (zd:=.nil) (zp:=[]) rfl (Zd1 wa)
 have hh:Maps.has (DataW.map es) (nmL a)=false:=by rw[Y8.has_iff h3 h2 wa,e];rfl
 rw[atKey_of_not_has hh] at hv
 rw[Z5y hv,hh] at hr
 exact hr
theorem Y8.look(h:Y8 w mb l){x:Hp}(hx:x∈l) :
  (Instr.lookup 135 (.map (some mb)) (nmV (Z9 x.h)) false).run prog w=.ok (ptP x) w:=by
 obtain⟨⟨es,o,h2⟩,h3,h4⟩:=h
 obtain⟨v,ps,hr,hv⟩:=o.lookup (t:=135) Zd3 underlying135 (Zqo w) (zd:=.nil) (zp:=[]) rfl (Zd1 (h3 x hx))
 rw[Y8.at_iff h3 h4 h2 hx] at hv
 rw[Z2q hv] at hr
 exact hr
theorem Y8.len(h:Y8 w mb l)(ty:TypeId):(Builtin.len_ #[135] ty #[.map (some mb)]).run prog w=.ok (.int .i64 l.length) w:=by
 obtain⟨⟨es,o,h2⟩,h3,h4⟩:=h
 have:=o.len (t:=135) underlying135 ty
 rw[size_eq,h2.length_eq,List.length_map] at this
 exact this
theorem Z30{P:Program}{k:TypeId}{R:Value→Option (DataW Unit × List MemPlace)}{n m:Nat}{D:DataW Unit}(h:w.ownsMap P k R mb n D)(hm:Maps.size D=m):w.ownsMap P k R mb m D:=by
 obtain⟨es,clock,h1,h2,h3,rfl⟩:=h
 refine⟨es,clock,h1,h2,?_,rfl⟩
 simp only[size_eq,length_sorted,List.length_map,Array.length_toList] at hm
 omega
def Zk7(l:List Hp)(x:Hp):List Hp:=x::l.filter fun y=>!decide (Z9 y.h=Z9 x.h)
def Z66(l:List Hp)(a:Int × Int):List Hp:=l.filter fun y=>!decide (Z9 y.h=a)
theorem Zcf(h3:∀x∈l,wfN (Z9 x.h)){a:Int × Int}(wa:wfN a):(l.map Z58).filter (notKey (nmL a))=(Z66 l a).map Z58:=by
 unfold Z66
 induction l with
 | nil=>rfl
 | cons y t ih =>
  have ih':=ih (fun x hx=>h3 x (List.mem_cons_of_mem _ hx))
  have e:notKey (nmL a) (Z58 y)=!decide (Z9 y.h=a):=by
   unfold notKey Z58
   by_cases q:Z9 y.h=a
   ·subst q
    rw[WideAt.sameKey_self (Zaz _)]
    simp
   ·have:(nmL (Z9 y.h)).sameKey (nmL a)=false:=sameKey_ne (fun e=>q (Z6n (h3 y (by simp)) wa e))
    rw[this]
    simp[q]
  rw[List.map_cons,List.filter_cons,List.filter_cons,e,ih']
  split<;>simp
theorem Y8.put(h:Y8 w mb l)(hn:l.length<1000)(x:Hp)(wa:wfN (Z9 x.h)) :
  ∃w',(Instr.mapUpdate 135 (.map (some mb)) (nmV (Z9 x.h)) (ptP x)).run prog w=.ok () w'∧Y8 w' mb (Zk7 l x)∧w.mapTurned w' mb:=by
 obtain⟨⟨es,o,h2⟩,h3,h4⟩:=h
 obtain⟨w',hr,o',hg⟩:=o.store (t:=135) Zd3 underlying135 (by unfold maxLen;omega) (Zd1 wa) (val:=ptP x) (d:=.lit (.int .i64 (x.p:Int))) (ps:=[]) rfl
 have hp:(putKey (nmL (Z9 x.h)) (.lit (.int .i64 (x.p:Int))) es).Perm ((Zk7 l x).map Z58):=by
  unfold putKey Zk7
  refine(insert_perm _ _).trans ?_
  rw[List.map_cons]
  refine List.Perm.cons _ ?_
  rw[show(l.filter fun y=>!decide (Z9 y.h=Z9 x.h))=Z66 l (Z9 x.h) from rfl,←Zcf h3 wa]
  exact h2.filter _
 refine⟨w',hr,⟨⟨_,Z30 o' ?_,hp⟩,fun y hy=>?_,?_⟩,hg⟩
 ·show(putKey (nmL (Z9 x.h)) (.lit (.int .i64 (x.p:Int))) es).length=_
  rw[hp.length_eq,List.length_map]
 ·rcases List.mem_cons.1 hy with rfl | hy
  ·exact wa
  ·exact h3 y ((List.mem_filter.1 hy).1)
 ·refine List.pairwise_cons.2 ⟨fun y hy e=>?_,h4.filter _⟩
  have:=(List.mem_filter.1 hy).2
  simp[e] at this
theorem Y8.del(h:Y8 w mb l){a:Int × Int}(wa:wfN a)(ty:TypeId) :
  ∃w',(Builtin.delete_ #[135,34] ty #[.map (some mb),nmV a]).run prog w=.ok (.tuple #[]) w'∧Y8 w' mb (Z66 l a)∧w.mapTurned w' mb:=by
 obtain⟨⟨es,o,h2⟩,h3,h4⟩:=h
 obtain⟨w',hr,o',hg⟩:=o.drop (t:=135) Zd3 underlying135 (Zd1 wa) ty
 have hp:(delKey (nmL a) es).Perm ((Z66 l a).map Z58):=by
  unfold delKey
  rw[←Zcf h3 wa]
  exact h2.filter _
 refine⟨w',hr,⟨⟨_,Z30 o' ?_,hp⟩,fun y hy=>h3 y ((List.mem_filter.1 hy).1),h4.filter _⟩,hg⟩
 show(delKey (nmL a) es).length=_
 rw[hp.length_eq,List.length_map]
theorem Up(h:w.mapTurned w' mb):Z4 (fun b=>b=mb) w w':=by
 have g:=h.grown
 exact⟨g.os,g.tape,g.output,g.size,fun k hk hn=>g.block k hk (fun e=>hn (Option.some.inj e))⟩
end
abbrev Zb(l:List Hp):List Hq:=l.map Hp.h
abbrev Z70(l:List Hp):Prop:=l.Pairwise fun a b=>Vq (Z9 a.h) (Z9 b.h)
theorem Zcp(l:List Hp)(a:Int × Int):Z0a (Zb l) a=(Z16 l a).map Hp.h:=by
 unfold Z0a Z16
 rw[List.find?_map]
 rfl
theorem Zme(l:List Hp)(a:Int × Int):Zc9 (Zb l) a=Zb (Z66 l a):=by
 unfold Zc9 Z66 Zb
 rw[List.filter_map]
 rfl
def Z7q:List Hp→Hp→List Hp
 | [],h=>[h]
 | a::l,h=>if Vq (Z9 a.h) (Z9 h.h)then a::Z7q l h else if Z9 a.h=Z9 h.h then h::l else h::a::l
theorem Zhs(l:List Hp)(x:Hp):Zb (Z7q l x)=Yh (Zb l) x.h:=by
 induction l with
 | nil=>rfl
 | cons a t ih =>
  unfold Z7q
  show _=Yh (a.h::Zb t) x.h
  unfold Yh
  split
  ·rw[←ih];rfl
  ·split
   ·rfl
   ·rfl
theorem Z7s{l:List Hp}(h:Z70 l)(x:Hp):(Zk7 l x).Perm (Z7q l x):=by
 induction l with
 | nil=>exact List.Perm.refl _
 | cons a t ih =>
  obtain⟨h1,h2⟩:=List.pairwise_cons.1 h
  unfold Z7q Zk7
  by_cases c1:Vq (Z9 a.h) (Z9 x.h)
  ·rw[if_pos c1,List.filter_cons_of_pos (by simp;intro e;rw[e] at c1;exact Yj _ c1)]
   exact(List.Perm.swap _ _ _).trans ((ih h2).cons _)
  ·rw[if_neg c1]
   by_cases c2:Z9 a.h=Z9 x.h
   ·rw[if_pos c2,List.filter_cons_of_neg (by simp[c2]),List.filter_eq_self.2 (fun y hy=>?_)]
    have:=h1 y hy
    simp only[Bool.not_eq_true',decide_eq_false_iff_not]
    intro e
    rw[←c2] at e
    rw[e] at this
    exact Yj _ this
   ·rw[if_neg c2,List.filter_eq_self.2 (fun y hy=>?_)]
    simp only[Bool.not_eq_true',decide_eq_false_iff_not]
    have hx:Vq (Z9 x.h) (Z9 a.h):=by
     rcases Z2y (Z9 a.h) (Z9 x.h)with q | q | q
     ·exact absurd q c1
     ·exact absurd q c2
     ·exact q
    intro e
    rcases List.mem_cons.1 hy with rfl | hy
    ·exact c2 e
    ·have:=Z2o hx (h1 y hy)
     rw[e] at this
     exact Yj _ this
theorem Zsc{l:List Hp}(h:Z70 l)(x:Hp):Z70 (Z7q l x):=by
 induction l with
 | nil=>simp[Z7q,Z70]
 | cons a t ih =>
  obtain⟨h1,h2⟩:=List.pairwise_cons.1 h
  unfold Z7q
  by_cases c1:Vq (Z9 a.h) (Z9 x.h)
  ·rw[if_pos c1]
   refine List.pairwise_cons.2 ⟨fun y hy=>?_,ih h2⟩
   have:=(Z7s h2 x).mem_iff.2 hy
   rcases List.mem_cons.1 this with rfl | q
   ·exact c1
   ·exact h1 y ((List.mem_filter.1 q).1)
  ·rw[if_neg c1]
   by_cases c2:Z9 a.h=Z9 x.h
   ·rw[if_pos c2]
    exact List.pairwise_cons.2 ⟨fun y hy=>by rw[←c2];exact h1 y hy,h2⟩
   ·rw[if_neg c2]
    have hx:Vq (Z9 x.h) (Z9 a.h):=by
     rcases Z2y (Z9 a.h) (Z9 x.h)with q | q | q
     ·exact absurd q c1
     ·exact absurd q c2
     ·exact q
    refine List.pairwise_cons.2 ⟨fun y hy=>?_,h⟩
    rcases List.mem_cons.1 hy with rfl | hy
    ·exact hx
    ·exact Z2o hx (h1 y hy)
theorem Zrg{l:List Hp}(h:Z70 l)(a:Int × Int):Z70 (Z66 l a):=h.filter _
theorem Zht{l:List Hp}(h:Z70 l){x y:Hp}(hy:y∈Z7q l x):y=x∨y∈l:=by
 have:=(Z7s h x).mem_iff.2 hy
 rcases List.mem_cons.1 this with q | q
 ·exact .inl q
 ·exact .inr ((List.mem_filter.1 q).1)
def whP(l:List Hp)(id:Int):Option Hp:=l.find? fun x=>(Yr x.h.q id).isSome
theorem Zx7(l:List Hp)(id:Int):Zt (Zb l) id=(whP l id).map Hp.h:=by
 unfold Zt whP
 rw[List.find?_map]
 rfl
def Zgr:Hp:=⟨⟨0,0,0,[]⟩,0,none,0⟩
theorem Z3g{α:Type}[DecidableEq α]:∀ {l m:List α},l.Nodup→(∀x∈l,x∈m)→l.length≤m.length
 | [],m,_,_=>Nat.zero_le _
 | a::t,m,h,hs=>by
  obtain⟨h1,h2⟩:=List.nodup_cons.1 h
  have ha:=hs a (by simp)
  have:=Z3g (l:=t) (m:=m.erase a) h2 (fun x hx=>by
   have hx':=hs x (by simp[hx])
   exact(List.mem_erase_of_ne (fun e:x=a=>h1 (by rw[←e];exact hx))).2 hx')
  rw[List.length_erase_of_mem ha] at this
  have hp:0<m.length:=List.length_pos_of_mem ha
  simp only[List.length_cons]
  omega
section
open Go.RowKit Go.Shelf Go.Maps
attribute [local go_sem] Oper.semAt_some
def Z6x(D0:DataW Unit)(left:Lit→Bool)(ss:List (Int × Int)):Prop:=ss.Nodup∧(∀a∈ss,wfN a)∧∀a,wfN a→(a∈ss↔(Maps.has D0 (nmL a)=true∧left (nmL a)=false))
theorem Z6x.start(D0:DataW Unit):Z6x D0 (Maps.has D0) []:=⟨List.nodup_nil,by simp,fun x _=>by cases Maps.has D0 (nmL x)<;>simp⟩
theorem Z6x.step{D0:DataW Unit}{left:Lit→Bool}{ss:List (Int × Int)}(h:Z6x D0 left ss){x:Int × Int}(wx:wfN x){y:DataW Unit}(hlk:left (nmL x)=true)(hat:∀zd,D0.atKey (nmL x) zd=y):Z6x D0 (fun z=>left z&&!z.sameKey (nmL x)) (ss++[x]):=by
 have hhas:Maps.has D0 (nmL x)=true:=has_true_of_atKey hat
 have hnew:x∉ss:=fun hx=>by have:=((h.2.2 x wx).1 hx).2;rw[hlk] at this;cases this
 refine⟨List.nodup_append.2 ⟨h.1,by simp,fun a ha b hb=>by simp at hb;subst hb;exact fun e=>hnew (e▸ha)⟩,fun a ha=>?_,fun y hy=>?_⟩
 ·rcases List.mem_append.1 ha with q | q
  ·exact h.2.1 a q
  ·simp at q;subst q;exact wx
 ·by_cases e:y=x
  ·subst e
   simp[hhas,WideAt.sameKey_self (Zaz y)]
  ·have:(nmL y).sameKey (nmL x)=false:=sameKey_ne (fun q=>e (Z6n hy wx q))
   simp[h.2.2 y hy,e,this]
def Z2d(l:List Hp):List (Int × Int):=l.map fun x=>Z9 x.h
theorem Z5v{l:List Hp}{a:Int × Int}:(Z16 l a).isSome=true↔a∈Z2d l:=by
 constructor
 ·intro h
  obtain⟨x,hx⟩:=Option.isSome_iff_exists.1 h
  obtain⟨h1,rfl⟩:=Vk hx
  exact List.mem_map.2 ⟨x,h1,rfl⟩
 ·intro h
  obtain⟨x,hx,rfl⟩:=List.mem_map.1 h
  cases e:Z16 l (Z9 x.h) with
  | none=>exact absurd rfl (Z5a e x hx)
  | some y=>rfl
theorem Z6x.sub{l:List Hp}{es:List (Lit × DataW Unit)}{left:Lit→Bool}{ss:List (Int × Int)}(h:Z6x (DataW.map es) left ss)(h3:∀x∈l,wfN (Z9 x.h))(h2:es.Perm (l.map Z58)):∀a∈ss,a∈Z2d l:=fun a ha=>by
 have wa:=h.2.1 a ha
 have:=((h.2.2 a wa).1 ha).1
 rw[Y8.has_iff h3 h2 wa] at this
 exact Z5v.1 this
theorem Zk3{l:List Hp}(h:l.Pairwise fun x y=>Z9 x.h≠Z9 y.h):(Z2d l).Nodup:=List.pairwise_map.2 h
theorem Z6x.perm{l:List Hp}{es:List (Lit × DataW Unit)}{left:Lit→Bool}{ss:List (Int × Int)}(h:Z6x (DataW.map es) left ss)(h3:∀x∈l,wfN (Z9 x.h))(h4:l.Pairwise fun x y=>Z9 x.h≠Z9 y.h)(h2:es.Perm (l.map Z58))(hl:∀kl,left kl=false):ss.Perm (Z2d l):=by
 refine(List.perm_ext_iff_of_nodup h.1 (Zk3 h4)).2 fun a=>⟨h.sub h3 h2 a,fun ha=>?_⟩
 obtain⟨x,hx,rfl⟩:=List.mem_map.1 ha
 refine(h.2.2 _ (h3 x hx)).2 ⟨?_,hl _⟩
 rw[Y8.has_iff h3 h2 (h3 x hx)]
 exact Z5v.2 ha
theorem Zo3(mb:Nat)(w:World):Calls prog 187 #[.map (some mb)] w fun e w'=>e=.returned (.func (.func 220) #[] #[.pointer (some ⟨w.heap.size,0,none⟩)])∧w'=w.alloc (.cells #[.map (some mb)] 135):=by
 go_enter func187,ntmps187
 go_wp2
 go_ret
 exact⟨rfl,rfl⟩
theorem Zrj:∀args w,(callFunc 220 args).run prog w=.ok (.enter 220 args) w:=enters_of func220 (by kernel_rfl) rfl
theorem Zdh{H:Type}{P:Program}{k:TypeId}{R:Value→Option (DataW H × List MemPlace)}{w w':World}{b r n:Nat}{D:DataW H}{left:Lit→Bool}{cnt:Nat}(h:w.ranges P k R b r n D left cnt)(h1:w'.heap[b]?=w.heap[b]?)(h2:w'.heap[r]?=w.heap[r]?):w'.ranges P k R b r n D left cnt:=by
 obtain⟨es,clock,since,seen,c0,hb,F,hs,hD,hr,rest⟩:=h
 exact⟨es,clock,since,seen,c0,h1.trans hb,F,hs,hD,h2.trans hr,rest⟩
theorem Zo2(n:Nat)(hn:3≤n)(pc mb:Nat)(l:List Hp)(w:World)(hpc:w.cell? ⟨pc,0,none⟩=some (.map (some mb)))(hm:Y8 w mb l) :
  Za1 Fence.wide n prog 220 #[] #[.pointer (some ⟨pc,0,none⟩)] nmV (fun pre=>pre.Nodup∧∀a∈pre,a∈Z2d l) (fun ss=>ss.Perm (Z2d l)) (fun k=>k=mb) w:=by
 intro L J Jx W hW hJ hJx hY h0
 have h1:1≤n:=by omega
 have hcW:W.cell? ⟨pc,0,none⟩=some (.map (some mb)):=(hW.cell (World.block_lt_of_cell? _ _ hpc)).trans hpc
 have hmW:=hm.nw hW
 obtain⟨⟨es,hown,hes⟩,hwf,hne⟩:=hmW
 have hmb:=hown.lt
 have HY:=hD0 hY
 have HJ:=hD0 hJ
 have H0:=hD0 h0
 have HE:=hD0 hes
 have HW:=hD0 hwf
 have HN:=hD0 hne
 clear hpc hm hY hJ hJx h0 hes hwf hne hW
 refine callsIn_of_wp func220 rfl trivial ?_ rfl
 simp only[ntmps220,List.size_toArray,List.length_cons,List.length_nil,Nat.reduceAdd,Nat.reduceSub,Array.replicate_succ,Array.replicate_zero,List.push_toArray,List.append_toArray,List.nil_append,List.cons_append]
 gi_wp2_with (first
  | (gi_at_range;refine wpListIn_range_own _ rfl _ 135 rfl 34 176 Zd3 underlying135 _ mb l.length _ rfl hown ?_;intro w0 hrg0 hg0 hs0)
  | gi_in)
 try go_frame
 gi_loopw [3] (fun _ wr=>∃(left:Lit→Bool) (cnt:Nat) (ss:List (Int × Int)),wr.ranges prog 34 Z0y mb W.heap.size l.length (.map es) left cnt∧Z6x (DataW.map es) left ss∧Hid (J (fun k=>k=mb∨k=W.heap.size) ss wr)∧W.heap.size<wr.heap.size)
  (fun _ wr=>wr.rangeLeft mb W.heap.size)
 case atStart =>
  have hnw:Nw W w0:=⟨hg0.os,hg0.tape,hg0.output,hg0.size,fun k hk=>hg0.block k hk (by simp)⟩
  exact⟨_,_,[],hrg0,Z6x.start _,hD0 (HJ.out (fun k=>k=mb) _ [] W w0 H0.out (Z4.nw hnw) (fun k e=>.inl e) (fun k e=>e.elim .inl (fun e=>.inr (by omega))) (fun k e=>by rcases e with rfl | rfl<;>omega)),by omega⟩
 case round =>
  obtain⟨left,cnt,ss,hrg,hC,HJs,hsz⟩:=hrel
  gi_wp2_with (first
   | (gi_at_next;refine wpListIn_next_ranges _ rfl _ rfl 34 Zd3 Z0y nmV id (fun key kl hk=>by obtain⟨x,hx,_⟩:=Zhz hk;exact⟨x,hx⟩) (fun v _ _=>⟨v,rfl⟩) mb W.heap.size l.length _ _ _ rfl hrg ?_ ?_)
   | gi_in)
  ·
   intro hc0 hl0
   gi_wp2
   go_end0
   exact⟨⟨_,rfl⟩,.inl ⟨_,ss,hC.perm HW.out HN.out HE.out hl0,HJs.out⟩⟩
  ·
   intro xa xb c kl yd yp w2 cnt2 hkey hlk hv hat hrg2 hlt hg2 hs2 hen
   obtain⟨x',ex,wx⟩:=Zhz hkey
   obtain⟨x,hx⟩:∃x:Int × Int,(xa,xb)=x:=⟨_,rfl⟩
   obtain rfl:x=x':=by rw[←hx];exact Zhy ex
   rw[hx] at hkey hen
   obtain rfl:nmL x=kl:=Option.some.inj ((Zd1 wx).symm.trans hkey)
   have hC2:=hC.step wx hlk hat
   have hsub:=hC2.sub HW.out HE.out
   have hW2:W.heap.size<w2.heap.size:=by omega
   have hmb2:mb<w2.heap.size:=by omega
   have hJ2:J (fun k=>k=mb∨k=W.heap.size) ss w2:=HJ.out _ _ ss wr w2 HJs.out
    ⟨hg2.os,hg2.tape,hg2.output,hg2.size,fun k hk hq=>hg2.block k hk (fun e=>hq ⟨.inr (Option.some.inj e),fun e2=>by have:=Option.some.inj e;omega⟩)⟩ (fun k e=>e) (fun k e=>.inl e) (fun k e=>by rcases e with rfl | rfl<;>omega)
   have HJ2:=hD0 hJ2
   have hJal:∀(o:Obj),J (fun k=>k=mb∨k=W.heap.size) ss (w2.alloc o):=fun o=>HJ.out _ _ ss w2 _ hJ2 (Z4.nw ((Nw.refl w2).alloc o)) (fun k e=>e) (fun k e=>.inl e) (fun k e=>by rw[World.size_alloc];rcases e with rfl | rfl<;>omega)
   have HJal:=hD0 hJal
   have HC:=hD0 hC
   have HC2:=hD0 hC2
   have HR2:=hD0 hrg2
   have hY2:=fun o=>HY.out _ ss x _ (HJal.out o) (fun k e=>.inl e) (fun k e=>by rw[World.size_alloc];rcases e with rfl | rfl<;>omega) ⟨hC2.1,hsub⟩
   have HL:=hD0 hrg.left_eq
   clear hC hC2 hrg2 hs2 hg2 hJ2 hJal hat hv hsub hkey ex
   obtain⟨x1,x2⟩:=x
   cases hx
   have HYs:=hD0 (hY2 (.cells #[.int .i64 xa,.int .i64 xb] 34))
   clear hY2
   unfold nmV at hen HYs
   simp only at hen HYs
   obtain⟨fn,tmps,assign,body,hy,hR⟩:=HYs.out
   gi_wp2
   refine hR.mono ?_
   rintro e W3 (⟨rfl,hJ3,hk3⟩ | ⟨rfl,hJ3,hk3⟩)
   ·have HJ3:=hD0 hJ3
    clear hJ3 hy hR
    gi_wp2
    have hrg3:=Zdh (HR2.out.alloc (.cells #[.int .i64 xa,.int .i64 xb] 34)) (hk3.same mb (.inl rfl)) (hk3.same _ (.inr rfl))
    have hz3:=hk3.size
    go_roundw
    case rel=>exact⟨_,cnt2,ss++[(xa,xb)],hrg3,HC2.out,HJ3,by rw[World.size_alloc] at hz3;omega⟩
    case measure=>rw[hrg3.left_eq,HL.out];exact hlt
   ·have HJ3:=hD0 hJ3
    have HP:=hD0 (show(ss++[(xa,xb)]).Nodup∧∀a∈ss++[(xa,xb)],a∈Z2d l from⟨HC2.out.1,HC2.out.sub HW.out HE.out⟩)
    clear hJ3 hy hR
    gi_wp2
    refine bodyPost_ret (results_none rfl _ _ _) rfl ?_
    exact⟨⟨_,rfl⟩,.inr ⟨_,ss++[(xa,xb)],HP.out,HJ3.out⟩⟩
end
open Go.Shelf
section
attribute [local go_sem] Oper.semAt_some
def V5(a:Int × Int):List Value:=[.int .i64 a.1,.int .i64 a.2]
theorem Zmk:Z29 prog 208 34 2 16 V5 where
 und:=underlying208
 inf:=by
  have h:(prog.info? 34).map (fun i=>(i.zero,i.size,i.bytes))=some (some (.agg #[.int .i64 0,.int .i64 0]),2,16):=by kernel_rfl
  cases e:prog.info? 34 with
  | none=>rw[e] at h;cases h
  | some i =>
   rw[e] at h
   simp only[Option.map_some,Option.some.injEq,Prod.mk.injEq] at h
   exact⟨i,_,rfl,h.1,h.2.1,h.2.2,rfl⟩
 pos:=by decide
 byt:=by decide
 len:=fun _=>rfl
 one:=fun a u hu=>by
  simp only[V5,List.mem_cons,List.not_mem_nil,or_false] at hu
  rcases hu with rfl | rfl<;>rfl
abbrev Z5q(w:World)(g0:Nat)(v:Value)(l:List (Int × Int)):Prop:=Yz 34 2 V5 w g0 v l
theorem Zew{w:World}{a:Addr}{v:Value}(h:w.cell? a=some v):∃o:Obj,w.heap[a.block]?=some o∧o.isCells=true:=by
 unfold World.cell? at h
 cases ho:w.heap[a.block]? with
 | none=>simp[ho] at h
 | some o=>exact⟨o,rfl,by cases o<;>simp_all [Obj.isCells]⟩
theorem Zey{n₀:Nat}{S:Nat→Prop}{A B:World}{a:Addr}{v:Value}(h:Ut n₀ S A B)(hc:A.cell? a=some v)(hn:¬S a.block):B.heap[a.block]?=A.heap[a.block]?:=by
 obtain⟨o,ho,hco⟩:=Zew hc
 rcases h.block a.block (Array.getElem?_eq_some_iff.1 ho).1 hn with e | ⟨_,o',ho',hc'⟩
 ·exact e
 ·rw[ho] at ho';cases ho';rw[hco] at hc';cases hc'
theorem Zjd{n₀:Nat}{S:Nat→Prop}{w A B:World}(h:Ut n₀ S A B)(k:Nw w A)(hn:w.heap.size≤n₀)(hS:∀i,S i→w.heap.size≤i):Nw w B :=
 Z4.toNw (h.tch (Z4.nw (S:=fun _=>False) k) hn (fun i hi e=>by have:=hS i e;omega))
theorem Zus{n₀:Nat}{S:Nat→Prop}{A B:World}{g0:Nat}{v:Value}{n:Nat}{e:TypeId}{size:Nat}{xs:List Value}(h:Ut n₀ S A B)(hr:A.ownsRow g0 e size v n xs)(hn:∀k,v.ownBlock=some k→¬S k):B.ownsRow g0 e size v n xs:=by
 refine⟨hr.1,?_⟩
 rcases hr.2 with h0 | ⟨g,cap,cur,rfl,hb,hg,rest⟩
 ·exact .inl h0
 ·exact .inr ⟨g,cap,cur,rfl,hb,h.cells hg (hn g rfl),rest⟩
theorem Zuj{F:Fence}{n:Nat}{P:Program}{w:World}{ops:Array Oper}{rest:List Oper}{o:Oper}{a:Act}{Q:Exit→Act→World→Prop}
  (hg:o.guard=none) (s x:Operand) (t:TypeId) (hop:o.op=Op.call { callee:=Callee.builtin Builtin.append,args:=#[s,x],argTypes:=#[t,t] })
  (v u v':Value) (w':World) (hs:a.eval s=v) (hx:a.eval x=u) (hr:(Builtin.append_ #[t,t] o.type #[v,u]).run P w=.ok v' w') (h:wpListIn F n P ops Q rest (a.put o.dst v') w'):wpListIn F n P ops Q (o::rest) a w:=by
 refine wpListIn_plain hg fun K hK'=>?_
 unfold Oper.wpIn
 refine⟨?_,?_⟩
 ·simp[Oper.about,hop,resolve,Target.leads,Sem.run_pure]
 ·rw[Oper.semAt_plain F _ _ (by rw[hop];intro c hc';cases hc')]
  simp[execOp,hop,resolve,invoke,builtin,hs,hx,hr,Result.andThen]
  exact hK' _ _ h
structure BxI{α:Type}(T sz:Nat)(row:α→List Value)(w:World)(c:Nat)(S0 S:Nat→Prop)(v:Value)(pre:List α)(A:World):Prop where
 cell:A.cell? ⟨c,0,none⟩=some v
 froz:A.frozen? ⟨c,0,none⟩=false
 own:Yz T sz row A (c+1) v pre
 row:∀k,v.ownBlock=some k→¬S k
 box:¬S c
 sub:∀k,S k→S0 k∨w.heap.size≤k
 nw:Nw w A
theorem BxI.lt{α:Type}{T sz c:Nat}{row:α→List Value}{w:World}{S0 S:Nat→Prop}{v:Value}{pre:List α}{A:World}(h:BxI T sz row w c S0 S v pre A):c<A.heap.size:=World.block_lt_of_cell? _ _ h.cell
theorem BxI.step{α:Type}{T sz c:Nat}{row:α→List Value}{w:World}{n₀:Nat}{S0 S S':Nat→Prop}{v:Value}{pre:List α}{A B:World}(hn:w.heap.size≤n₀)(h:BxI T sz row w c S0 S v pre A)(k:Ut n₀ (fun k=>S k∧¬S0 k) A B)(h2:∀k,S' k→S k∨A.heap.size≤k):BxI T sz row w c S0 S' v pre B:=by
 have e:=Zey k h.cell (fun q=>h.box q.1)
 refine⟨(World.cell?_of_block e).trans h.cell,(World.frozen?_of_block e).trans h.froz,Zus k h.own (fun g hg q=>h.row g hg q.1),fun g hg hs=>?_,fun hs=>?_,fun i hs=>?_,Zjd k h.nw hn (fun i q=>(h.sub i q.1).resolve_left q.2)⟩
 ·rcases h2 g hs with q | q
  ·exact h.row g hg q
  ·have:=olt h.own hg;omega
 ·rcases h2 _ hs with q | q
  ·exact h.box q
  ·have:=h.lt;omega
 ·rcases h2 i hs with q | q
  ·exact h.sub i q
  ·exact .inr (Nat.le_trans h.nw.sz q)
theorem BxI.push{α:Type}{P:Program}{ST T sz bytes c:Nat}{row:α→List Value}(E:Z29 P ST T sz bytes row){w:World}{S0 S:Nat→Prop}{v:Value}{pre:List α}{A A1:World}(h:BxI T sz row w c S0 S v pre A)(hw:w.heap.size≤c)(hex:∀k,S k→k<A.heap.size)(g:Nw A A1)(x:α)(b cc:Nat)(hx:∀j u,(row x)[j]?=some u→A1.cell? ⟨b,j,none⟩=some u)(hsm:pre.length<100000)
  {n₀:Nat} (hD:∀k,(k=n₀∨k=n₀+1)→∃o,A.heap[k]?=some o∧o.isCells=false) :
  ∃v' w1,(Builtin.append_ #[ST,ST] ST #[v,.slice (some ⟨b,0,none⟩) 1 cc]).run P A1=.ok v' w1∧(∃g cap,v'=.slice (some ⟨g,0,none⟩) (pre.length+1) cap)∧w1.cell? ⟨c,0,none⟩=some v∧w1.frozen? ⟨c,0,none⟩=false ∧
   BxI T sz row w c S0 S v' (pre++[x]) (w1.setCell ⟨c,0,none⟩ v')∧KpS S A (w1.setCell ⟨c,0,none⟩ v')∧KpD n₀ A (w1.setCell ⟨c,0,none⟩ v'):=by
 have hc:=h.lt
 obtain⟨v',w1,h1,h2,h3,h4,h5⟩:=Yz.push E (onw h.own g) x b cc hx hsm (by have:=g.sz;omega)
 have hvc:∀k,v.ownBlock=some k→c<k:=fun k hk=>Vr h.own hk
 have c1:w1.cell? ⟨c,0,none⟩=some v:=by
  have e:w1.heap[c]?=A1.heap[c]?:=h3.block c (lL0 hc g.sz) (fun q=>by have:=hvc c q.symm;omega)
  rw[World.cell?_of_block e];exact g.kp h.cell
 have f1:w1.frozen? ⟨c,0,none⟩=false:=by
  have e:w1.heap[c]?=A1.heap[c]?:=h3.block c (lL0 hc g.sz) (fun q=>by have:=hvc c q.symm;omega)
  rw[World.frozen?_of_block e];exact(g.froz hc).trans h.froz
 have hkeep:∀k,k<A.heap.size→v.ownBlock≠some k→k≠c→(w1.setCell ⟨c,0,none⟩ v').heap[k]?=A.heap[k]?:=fun k hk q1 q2=>by
  rw[Below.heap_setCell _ _ _ _ (by simpa using q2),h3.block k (lL0 hk g.sz) (fun q=>q1 q.symm)]
  exact g.block k hk
 refine⟨v',w1,h1,h5,c1,f1,⟨World.cell?_setCell_same _ _ _ c1,by rw[World.frozen?_setCell];exact f1,Yn h2 (Nat.lt_succ_self c) _,fun k hk=>?_,h.box,h.sub,?_⟩,⟨?_,fun k hk=>?_⟩,fun k hk=>?_⟩
 ·rcases h4 with q | q
  ·exact h.row k (q▸hk)
  ·rw[q] at hk
   have:=Option.some.inj hk
   have:=g.sz
   intro hs
   have:=hex k hs
   omega
 ·refine((h.nw.trans g).gro h3 (fun k hk=>?_)).st (p:=⟨c,0,none⟩) hw v'
  have:=hvc k hk
  omega
 ·have:=h3.size
  have:=g.sz
  have e:(w1.setCell ⟨c,0,none⟩ v').heap.size=w1.heap.size:=by simp
  omega
 ·exact hkeep k (hex k hk) (fun q=>h.row k q hk) (fun q=>h.box (q▸hk))
 ·obtain⟨o,ho,hno⟩:=hD k hk
  refine hkeep k (hlt ho) (fun q=>?_) (fun q=>?_)
  ·obtain⟨cc,hcc⟩:=Z4h h.own q
   rw[hcc] at ho;cases ho;cases hno
  ·subst q
   obtain⟨o',ho',hc'⟩:=Zew h.cell
   rw[show(⟨k,0,none⟩:Addr).block=k from rfl,ho] at ho';cases ho';rw[hno] at hc';cases hc'
def Zep(w:World)(Fin:List (Int × Int)→Prop)(e:Ending)(W:World):Prop:=∃v xs,e=.returned v∧Fin xs∧Z5q W w.heap.size v xs∧Nw w W
theorem Zc1(n:Nat)(hn:3≤n)(gf:Nat)(lb:Array Value)(eg:∀args w,(callFunc gf args).run prog w=.ok (.enter gf args) w)(Pre Fin:List (Int × Int)→Prop)(S0:Nat→Prop)(w:World)(hsm:∀xs,Pre xs→xs.length≤100000)
  (hS0:∀k,S0 k→k<w.heap.size) (hseq:Za1 Fence.wide (n-1) prog gf #[] lb nmV Pre Fin S0 w) :
  CallsIn Fence.wide n prog 231 #[.slice none 0 0,.func (.func gf) #[] lb] w (Zep w Fin):=by
 have h1:1≤n:=by omega
 refine callsIn_of_wp_marks func231 rfl trivial ?_ rfl
 simp only[ntmps231,List.size_toArray,List.length_cons,List.length_nil,Nat.reduceAdd,Nat.reduceSub,Array.replicate_succ,Array.replicate_zero,List.push_toArray,List.append_toArray,List.nil_append,List.cons_append]
 gi_wp2
 have hA0:∃v,BxI 34 2 V5 w w.heap.size S0 S0 v [] (w.alloc (.cells #[.slice none 0 0] 208)) :=
  ⟨.slice none 0 0,by simp[go_sem],by simp[go_sem],World.ownsRow_nil _ _ _ _,fun k e=>by simp[Value.ownBlock] at e,fun e=>by have:=hS0 _ e;omega,fun k e=>.inl e,(Nw.refl w).alloc _⟩
 have hsz:(w.alloc (.cells #[.slice none 0 0] 208)).heap.size=w.heap.size+1:=by simp
 have hnw:Nw w (w.alloc (.cells #[.slice none 0 0] 208)):=(Nw.refl w).alloc _
 obtain⟨W0,hW0⟩:∃W0,w.alloc (.cells #[.slice none 0 0] 208)=W0:=⟨_,rfl⟩
 rw[hW0] at hA0 hsz hnw ⊢
 clear hW0
 refine Zga rfl h1 (gf:=gf) (fa:=#[]) (lb:=lb) rfl trivial eg (S0:=S0) (fun k e=>by have:=hS0 k e;omega) (hseq.later hnw) rfl
  (fun S pre A=>∃v,BxI 34 2 V5 w w.heap.size S0 S v pre A) (fun _ _ _ _=>False) (fun S S' pre A B hi hc e1 e2 _=>by obtain⟨v,hi⟩:=hi;exact⟨v,hi.step (by omega) hc e2⟩) (fun _ _ _ _ _ _ h _ _ _ _=>h) hA0
  (fun x=>some (.cells #[.int .i64 x.1,.int .i64 x.2] 34))
  (fun x bx=>{ tmps:=#[.slice none 0 0,.func (.func gf) #[] lb,.pointer (some ⟨w.heap.size,0,none⟩),undef,.slice none 0 0,.pointer (some ⟨bx,0,none⟩),.func (.func gf) #[] lb,nmV x,undef,undef,undef,undef,undef],defers:=[] }) ?assign ?body ?done ?stop
 case assign =>
  intro l x A K hK
  obtain⟨x0,x1⟩:=x
  unfold nmV at *
  simp only[mkB] at hK ⊢
  gi_wp2
  exact hK
 case body =>
  intro l S pre x bx A hi hsub hex hnb hbl hnc hcx hpre
  obtain⟨v,hi⟩:=hi
  have hcx:=hcx _ rfl
  have c0:A.cell? ⟨bx,0,none⟩=some (.int .i64 x.1):=by rw[Z0 hcx];rfl
  have c1:A.cell? ⟨bx,1,none⟩=some (.int .i64 x.2):=by rw[Z0 hcx];rfl
  have hln:pre.length<100000:=by have:=hsm _ hpre;rw[List.length_append,List.length_singleton] at this;omega
  have hal:=Z1 A (.cells #[.int .i64 x.1,.int .i64 x.2] 34)
  obtain⟨v',w1,hr,⟨gg,cap,hv'⟩,hcc,hff,hB,hK,hKD⟩:=hi.push Zmk (Nat.le_refl _) hex ((Nw.refl A).alloc (.cells #[.int .i64 x.1,.int .i64 x.2] 34)) x A.heap.size 1 (fun j u hu=>by rw[Z0 hal];simpa [V5] using hu) hln (n₀:=w.heap.size+1) (fun k e=>(hnc k (by rw[hsz];exact e)).2)
  subst hv'
  have HR:=hD0 hr
  have HB:=hD0 (aI0 hB (aI0 hK hKD))
  have hpl:∀n,pre.length=n→Hid (BxI 34 2 V5 w w.heap.size S0 S (.slice (some ⟨gg,0,none⟩) (n+1) cap) (pre++[x]) (w1.setCell ⟨w.heap.size,0,none⟩ (.slice (some ⟨gg,0,none⟩) (n+1) cap))∧KpS S A (w1.setCell ⟨w.heap.size,0,none⟩ (.slice (some ⟨gg,0,none⟩) (n+1) cap))∧KpD (w.heap.size+1) A (w1.setCell ⟨w.heap.size,0,none⟩ (.slice (some ⟨gg,0,none⟩) (n+1) cap))):=fun n e=>by subst e;exact HB
  have hd:=hi.cell
  have hlt:=hi.lt
  have hf:=Y7 hi.own
  clear hr hB hK hKD hi hex hsub hnb hnc hcx hpre hseq hA0 hal
  obtain⟨x0,x1⟩:=x
  unfold nmV
  simp only at c0 c1 HR ⊢
  rw[hsz]
  rcases hf with⟨rfl,hp0⟩ | ⟨g,cap,rfl⟩
  ·have HB0:=hpl 0 hp0
   clear hpl
   gi_wp2_with (gi_at_builtin;refine Zuj rfl (.tmp 8) (.tmp 10) 208 rfl _ _ _ _ rfl rfl HR.out ?_)
   exact⟨HB0.out.2.2,HB0.out.2.1,_,HB0.out.1⟩
  ·clear hpl
   gi_wp2_with (gi_at_builtin;refine Zuj rfl (.tmp 8) (.tmp 10) 208 rfl _ _ _ _ rfl rfl HR.out ?_)
   exact⟨HB.out.2.2,HB.out.2.1,_,HB.out.1⟩
 case done =>
  intro D S xs W hD _ hfin hi hK
  obtain⟨v,hi⟩:=hi
  have HE:Hid (Zep w Fin (.returned v) (W.putObj D (.deferred none))):=by
   have hc:Ut D (fun _=>False) W (W.putObj D (.deferred none)):=Ut.put _ (.inl rfl) hK rfl
   exact⟨v,xs,rfl,hfin,Z4i (Zus hc hi.own (fun _ _ e=>e)) (fun g hg=>by have:=Vr hi.own hg;omega),Zjd hc hi.nw (by omega) (fun _ e=>e.elim)⟩
  have hd:=hi.cell
  have hf:=Y7 hi.own
  clear hseq hA0 hi hS0
  rcases hf with⟨rfl,hp0⟩ | ⟨g,cap,rfl⟩
  all_goals
   gi_wp2
   refine⟨by simp,.inl ⟨_,_,rfl,run_takeDeferred hK,?_⟩⟩
   exact⟨_,results_tmp (t:=4) rfl _ _ _,HE.out⟩
 case stop =>
  intro D c S pre W _ _ h _
  exact h.elim
theorem Zaf(gf:Nat)(lb:Array Value)(eg:∀args w,(callFunc gf args).run prog w=.ok (.enter gf args) w)(Pre Fin:List (Int × Int)→Prop)(S0:Nat→Prop)(w:World)(hsm:∀xs,Pre xs→xs.length≤100000)
  (hS0:∀k,S0 k→k<w.heap.size) (hseq:Za1 Fence.wide 4 prog gf #[] lb nmV Pre Fin S0 w) :
  Calls prog 218 #[.func (.func gf) #[] lb] w (Zep w Fin):=by
 have H:=hD0 (callsIn_wide.1 (Zc1 5 (by omega) gf lb eg Pre Fin S0 w hsm hS0 hseq))
 clear hseq hS0
 go_enter func218,ntmps218
 go_wp2_with fail
 refine H.out.mono ?_
 rintro e w1 h
 obtain⟨v,xs,rfl,h⟩:=h
 have HP:=hD0 h
 clear h
 go_wp2
 go_ret
 exact⟨v,xs,rfl,HP.out⟩
end
section
open Go.RowKit Go.Sort
def cP(a b:Int):Int:=if a<b then -1 else if b<a then 1 else 0
theorem Zur(a b:Int)(h:a<b):cP a b = -1:=if_pos h
theorem Zuq(a b:Int)(h:b<a):cP a b=1:=by unfold cP;rw[if_neg (by omega),if_pos h]
theorem Zup(a:Int):cP a a=0:=by unfold cP;simp
theorem Zb0(a:Int)(w:World):Calls prog 159 #[.int .i64 a] w fun e w'=>e=.returned (.bool false)∧w=w':=by
 go_enter func159,ntmps159
 go_wp2
 go_ret
 exact⟨rfl,rfl⟩
theorem Z7a(a b:Int)(w:World):Calls prog 108 #[.int .i64 a,.int .i64 b] w fun e w'=>e=.returned (.int .i64 (cP a b))∧w=w':=by
 rcases Int.lt_trichotomy a b with h | h | h
 ·rw[Zur a b h]
  have hd:decide (a<b)=true:=by simpa using h
  go_enter func108,ntmps108
  go_wp2_with (go_at_call 159;refine(Zb0 _ _).mono ?_;rintro e w' ⟨rfl,rfl⟩)
  go_ret
  exact⟨rfl,rfl⟩
 ·subst h
  rw[Zup a]
  go_enter func108,ntmps108
  go_wp2_with (go_at_call 159;refine(Zb0 _ _).mono ?_;rintro e w' ⟨rfl,rfl⟩)
  go_ret
  exact⟨rfl,rfl⟩
 ·rw[Zuq a b h]
  have hd:decide (a<b)=false:=by simp;omega
  have hd2:decide (b<a)=true:=by simpa using h
  go_enter func108,ntmps108
  go_wp2_with (go_at_call 159;refine(Zb0 _ _).mono ?_;rintro e w' ⟨rfl,rfl⟩)
  go_ret
  exact⟨rfl,rfl⟩
def orP(x y:Int):Int:=if x=0 then y else x
theorem Zxb(b:Nat)(x y:Int)(w:World)(h0:w.cell? ⟨b,0,none⟩=some (.int .i64 x))(h1:w.cell? ⟨b,1,none⟩=some (.int .i64 y)) :
  Calls prog 107 #[.slice (some ⟨b,0,none⟩) 2 2] w fun e w'=>e=.returned (.int .i64 (orP x y))∧w=w':=by
 by_cases hx:x=0
 ·subst hx
  by_cases hy:y=0
  ·subst hy
   go_enter func107,ntmps107
   go_wp2
   refine wp_loop_rounds 3 ?_
   rw[rounds_succ]
   go_wp2
   rw[rounds_succ]
   go_wp2
   rw[rounds_succ]
   go_wp2
   go_ret
   exact⟨rfl,rfl⟩
  ·have hy':(y==0)=false:=by simpa using hy
   have hy2:(y != 0)=true:=by simpa using hy
   go_enter func107,ntmps107
   go_wp2
   refine wp_loop_rounds 3 ?_
   rw[rounds_succ]
   go_wp2
   rw[rounds_succ]
   go_wp2
   go_ret
   exact⟨rfl,rfl⟩
 ·have hx':(x==0)=false:=by simpa using hx
  have hx2:(x != 0)=true:=by simpa using hx
  have e:orP x y=x:=if_neg hx
  rw[e]
  clear hx e
  go_enter func107,ntmps107
  go_wp2
  refine wp_loop_rounds 3 ?_
  rw[rounds_succ]
  go_wp2
  go_ret
  exact⟨rfl,rfl⟩
def GG(w w':World):Prop:=∃q os,w'=grow (w.drewN q) os
theorem GG.refl(w:World):GG w w:=⟨0,#[],by unfold grow;simp[World.drewN]⟩
theorem GG.drew{w w':World}(h:GG w w'):GG w w'.drew:=by obtain⟨q,os,rfl⟩:=h;exact⟨q+1,os,rfl⟩
theorem GG.alloc{w w':World}(h:GG w w')(o:Obj):GG w (w'.alloc o):=by obtain⟨q,os,rfl⟩:=h;exact⟨q,os.push o,by rw[alloc_eq_grow,grow_grow];rfl⟩
theorem GG.nw{w w':World}(h:GG w w'):Nw w w':=by
 obtain⟨q,os,rfl⟩:=h
 refine⟨rfl,rfl,rfl,by rw[size_grow];exact Nat.le_add_right _ _,fun k hk=>?_⟩
 exact heap_grow_old _ _ hk
theorem GG.trans{a b c:World}(h:GG a b)(k:GG b c):GG a c:=by
 obtain⟨q,os,rfl⟩:=h
 obtain⟨q',os',rfl⟩:=k
 refine⟨q+q',os++os',?_⟩
 unfold grow World.drewN
 simp[Nat.add_assoc,Array.append_assoc]
abbrev Zla(w:World)(t r t' r':Int)(a:World):Prop:=(a.cell? ⟨w.heap.size,0,none⟩=some (.int .i64 t)∧a.cell? ⟨w.heap.size,1,none⟩=some (.int .i64 r)∧a.cell? ⟨w.heap.size+1,0,none⟩=some (.int .i64 t')∧a.cell? ⟨w.heap.size+1,1,none⟩=some (.int .i64 r'))∧(w.heap.size+1<a.heap.size∧GG w a)
theorem Z8i(w:World)(t r t' r':Int)(ty:TypeId):Zla w t r t' r' (((w.alloc (.cells #[.int .i64 t,.int .i64 r] ty)).alloc (.cells #[.int .i64 t',.int .i64 r'] ty)).drew):=by
 have h1:=Z1 w (.cells #[.int .i64 t,.int .i64 r] ty)
 have hz:(w.alloc (.cells #[.int .i64 t,.int .i64 r] ty)).heap.size=w.heap.size+1:=by simp
 have h2:=Z1 (w.alloc (.cells #[.int .i64 t,.int .i64 r] ty)) (.cells #[.int .i64 t',.int .i64 r'] ty)
 have h3:=((Nw.refl (w.alloc (.cells #[.int .i64 t,.int .i64 r] ty))).alloc (.cells #[.int .i64 t',.int .i64 r'] ty)).at' h1
 rw[hz] at h2
 refine⟨⟨?_,?_,?_,?_⟩,?_,(((GG.refl w).alloc _).alloc _).drew⟩
 ·exact Z0 (j:=0) h3
 ·exact Z0 (j:=1) h3
 ·exact Z0 (j:=0) h2
 ·exact Z0 (j:=1) h2
 ·exact hlt h2
theorem Z0g{w a b:World}{t r t' r':Int}(g:GG a b)(h:Zla w t r t' r' a):Zla w t r t' r' b:=by
 obtain⟨⟨h0,h1,h2,h3⟩,hs,hn⟩:=h
 exact⟨⟨g.nw.kp h0,g.nw.kp h1,g.nw.kp h2,g.nw.kp h3⟩,lL0 hs g.nw.sz,hn.trans g⟩
def Z14(a b:Int × Int):Int:=orP (cP a.1 b.1) (cP a.2 b.2)
theorem Zc4(t r t' r':Int)(w:World) :
  Calls prog 188 #[.agg #[.int .i64 t,.int .i64 r],.agg #[.int .i64 t',.int .i64 r']] w fun e w'=>e=.returned (.int .i64 (orP (cP t t') (cP r r')))∧GG w w':=by
 go_enter func188,ntmps188
 go_wp2
 go_region_held3 (fun w'=>Zla w t r t' r' w') (first | assumption | exact Z8i w t r t' r' _ | exact Z0g (by assumption) (by assumption) | exact Z0g ((GG.refl _).alloc _) (by assumption) | exact Z0g (GG.refl _).drew (by assumption))
  (first | (go_at_call 108;refine(Z7a _ _ _).mono ?_;rintro e w' ⟨rfl,rfl⟩) | (go_at_call 107;refine(Zxb _ (cP t t') (cP r r') _ (by simp[go_sem]) (by simp[go_sem])).mono ?_;rintro e w' ⟨rfl,rfl⟩))
 all_goals
  rename_i hS
  go_wp2
  go_ret
  exact⟨rfl,hS.2.2⟩
theorem Uq(a b:Int × Int):ltOf Z14 a b=decide (Vq a b):=by
 obtain⟨a,a'⟩:=a
 obtain⟨b,b'⟩:=b
 unfold ltOf Z14 orP cP Vq
 rcases Int.lt_trichotomy a b with h | h | h
 ·simp[h]
 ·subst h
  rcases Int.lt_trichotomy a' b' with q | q | q
  ·simp[q]
  ·subst q;simp
  ·have:¬a'<b':=by omega
   simp[q,this]
 ·have h1:¬a<b:=by omega
  have h2:a≠b:=by omega
  simp[h,h1,h2]
theorem Z42:SWO (ltOf Z14) where
 irrefl x:=by rw[Uq];simpa using Yj x
 trans x y z h1 h2:=by rw[Uq] at *;simp only[decide_eq_true_eq] at *;exact Z2o h1 h2
 ntrans x y z h1 h2:=by rw[Uq] at *;simp only[decide_eq_false_iff_not] at *;intro h;unfold Vq at *;omega
theorem Zc5(x y:Int × Int)(h1:ltOf Z14 x y=false)(h2:ltOf Z14 y x=false):x=y:=by
 rw[Uq] at h1 h2
 simp only[decide_eq_false_iff_not] at h1 h2
 rcases Z2y x y with q | q | q
 ·exact absurd q h1
 ·exact q
 ·exact absurd q h2
end
end Go.Proofs.YtpffldfpabglbaaGreatDoor
namespace Go.Proofs
open _root_.Go.Proofs.Tryz
open Go.Shelf
def Tryz.sortN_ren:Go.Shelf.Ren:=⟨fun | 6=>219 | 15=>106 | 14=>232 | 28=>157 | 29=>158 | 20=>238 | 21=>239 | 22=>240 | 23=>241 | 24=>242 | 25=>243 | 26=>244 | 27=>245 | 46=>251 | 47=>190 | 48=>191 | 49=>252 | 50=>253 | 57=>260 | n=>n,fun | 22=>208 | 24=>34 | 25=>67 | 3=>3 | 39=>144 | 0=>0 | 53=>149 | 55=>187 | 4=>4 | 46=>180 | 45=>179 | 50=>53 | 5=>5 | 9=>9 | 66=>213 | 70=>217 | 76=>239 | 77=>55 | n=>n,fun | n=>n⟩
theorem Tryz.sortN:Go.Proofs.SlLaysF0.n6 prog Tryz.sortN_ren:={
 mixed:=by kernel_rfl
 f6:=⟨Tryz.f219.name,by decide,func219.trans (congrArg some (by kernel_rfl))⟩
 f14:=⟨Tryz.f232.name,by decide,func232.trans (congrArg some (by kernel_rfl))⟩
 f15:=func106.trans (congrArg some (by kernel_rfl))
 f20:=⟨Tryz.f238.name,by decide,func238.trans (congrArg some (by kernel_rfl))⟩
 f21:=⟨Tryz.f239.name,by decide,func239.trans (congrArg some (by kernel_rfl))⟩
 f22:=⟨Tryz.f240.name,by decide,func240.trans (congrArg some (by kernel_rfl))⟩
 f23:=⟨Tryz.f241.name,by decide,func241.trans (congrArg some (by kernel_rfl))⟩
 f24:=⟨Tryz.f242.name,by decide,func242.trans (congrArg some (by kernel_rfl))⟩
 f25:=⟨Tryz.f243.name,by decide,func243.trans (congrArg some (by kernel_rfl))⟩
 f26:=⟨Tryz.f244.name,by decide,func244.trans (congrArg some (by kernel_rfl))⟩
 f27:=⟨Tryz.f245.name,by decide,func245.trans (congrArg some (by kernel_rfl))⟩
 f28:=func157.trans (congrArg some (by kernel_rfl))
 f29:=func158.trans (congrArg some (by kernel_rfl))
 f46:=⟨Tryz.f251.name,by decide,func251.trans (congrArg some (by kernel_rfl))⟩
 f47:=func190.trans (congrArg some (by kernel_rfl))
 f48:=func191.trans (congrArg some (by kernel_rfl))
 f49:=⟨Tryz.f252.name,by decide,func252.trans (congrArg some (by kernel_rfl))⟩
 f50:=⟨Tryz.f253.name,by decide,func253.trans (congrArg some (by kernel_rfl))⟩
 f57:=⟨Tryz.f260.name,by decide,func260.trans (congrArg some (by kernel_rfl))⟩
 t0:=underlying0
 a0:=Tryz.isAgg0
 z0:=Tryz.sizeOf0
 v0:=Tryz.zeroValue0
 t3:=underlying3
 a3:=Tryz.isAgg3
 z3:=Tryz.sizeOf3
 v3:=Tryz.zeroValue3
 t4:=underlying4
 a4:=Tryz.isAgg4
 z4:=Tryz.sizeOf4
 v4:=Tryz.zeroValue4
 t5:=underlying5
 a5:=Tryz.isAgg5
 z5:=Tryz.sizeOf5
 v5:=Tryz.zeroValue5
 t9:=underlying9
 a9:=Tryz.isAgg9
 z9:=Tryz.sizeOf9
 v9:=Tryz.zeroValue9
 t22:=underlying208
 a22:=Tryz.isAgg208
 z22:=Tryz.sizeOf208
 v22:=Tryz.zeroValue208
 t25:=underlying67
 a25:=Tryz.isAgg67
 z25:=Tryz.sizeOf67
 v25:=Tryz.zeroValue67
 t39:=underlying144
 a39:=Tryz.isAgg144
 z39:=Tryz.sizeOf144
 v39:=Tryz.zeroValue144
 t45:=underlying179
 a45:=Tryz.isAgg179
 z45:=Tryz.sizeOf179
 v45:=Tryz.zeroValue179
 t46:=underlying180
 a46:=Tryz.isAgg180
 z46:=Tryz.sizeOf180
 v46:=Tryz.zeroValue180
 t50:=underlying53
 a50:=Tryz.isAgg53
 z50:=Tryz.sizeOf53
 v50:=Tryz.zeroValue53
 t53:=underlying149
 a53:=Tryz.isAgg149
 z53:=Tryz.sizeOf149
 v53:=Tryz.zeroValue149
 t55:=underlying187
 a55:=Tryz.isAgg187
 z55:=Tryz.sizeOf187
 v55:=Tryz.zeroValue187
 t66:=underlying213
 a66:=Tryz.isAgg213
 z66:=Tryz.sizeOf213
 v66:=Tryz.zeroValue213
 t70:=underlying217
 a70:=Tryz.isAgg217
 z70:=Tryz.sizeOf217
 v70:=Tryz.zeroValue217
 t76:=underlying239
 a76:=Tryz.isAgg239
 z76:=Tryz.sizeOf239
 v76:=Tryz.zeroValue239
 t77:=underlying55
 a77:=Tryz.isAgg55
 z77:=Tryz.sizeOf55
 v77:=Tryz.zeroValue55 }
end Go.Proofs
namespace Go.Proofs.YtpffldfpabglbaaGreatDoor
open Go.RowKit _root_.Go.Proofs.Tryz Go.Shelf
section
open Go.RowKit Go.Sort Go.Shelf
theorem Zjs{w:World}{g:Nat}{cur F:Array Value}{e:TypeId}(hb:w.heap[g]?=some (.cells cur e (0,0)))(ht:cur.toList.take F.size=F.toList):Holds id w g 0 F:=by
 intro j hj
 refine⟨?_,by simp[World.frozen?,hb]⟩
 have h1:(cur.toList.take F.size)[j]?=F.toList[j]?:=by rw[ht]
 rw[List.getElem?_take_of_lt hj] at h1
 simp only[World.cell?,hb,Nat.zero_add]
 simp only[Option.isSome_none,Bool.false_eq_true,if_false]
 rw[←Array.getElem?_toList,h1]
 simp[hj]
theorem Zn8{w:World}{g n:Nat}{os:Array Obj}{cur:Array Value}{e:TypeId}{fr:Nat × Nat}(F:Array Value)(hb:w.heap[g]?=some (.cells cur e fr)) :
  (grow (putRow id (Sort.ahead w n) g 0 F) os).heap[g]?=some (.cells (putCells id 0 F cur) e fr):=by
 have hg:g<w.heap.size:=(Array.getElem?_eq_some_iff.1 hb).1
 rw[heap_grow_old _ _ (by simpa using hg)]
 simp[putRow,mapBlock,Sort.ahead,Array.getElem?_modify,hb,onCells]
theorem Ztw{w:World}{g n:Nat}{os:Array Obj}(F:Array Value):Z4 (fun b=>b=g) w (grow (putRow id (Sort.ahead w n) g 0 F) os):=by
 refine⟨rfl,rfl,rfl,by simp,fun k hk hne=>?_⟩
 rw[heap_grow_old _ _ (by simpa using hk)]
 have:g≠k:=fun e=>hne e.symm
 simp[putRow,mapBlock,Sort.ahead,Array.getElem?_modify,this]
theorem Zq2(cur F:Array Value)(h:F.size≤cur.size):(putCells id 0 F cur).toList.take F.size=F.toList:=by
 apply List.ext_getElem?
 intro j
 by_cases hj:j<F.size
 ·rw[List.getElem?_take_of_lt hj,Array.getElem?_toList]
  simp[putCells,hj,show j<cur.size by omega]
 ·rw[List.getElem?_take_eq_none (by omega),List.getElem?_eq_none (by simp;omega)]
theorem Z8z(ss:List (Int × Int)):flatK V5 2 ss.toArray=⟨Z6 V5 ss⟩:=by
 have hl:(Z6 V5 ss).length=ss.length*2:=Yw (row:=V5) (sz:=2) (fun _=>rfl) ss
 apply Array.ext
 ·rw[size_flatK];simp[hl]
 ·intro t h1 h2
  rw[size_flatK] at h1
  have h1':t<ss.length*2:=by simpa using h1
  have hd:t/2<ss.length:=by omega
  have h3:=Z0q (row:=V5) (sz:=2) (fun _=>rfl) ss (t/2) (t%2) hd (by omega)
  rw[show t/2*2+t%2=t by omega] at h3
  have e1:=get_flatK V5 2 ss.toArray t h1
  rw[getElem!_pos _ t (by rw[size_flatK];exact h1)] at e1
  rw[e1,getElem!_pos ss.toArray (t/2) (by simpa using hd)]
  have e2:(⟨Z6 V5 ss⟩:Array Value)[t]?=(V5 ss[t/2])[t%2]?:=by
   rw[←h3];simp
  rw[Array.getElem?_eq_getElem h2] at e2
  simp only[List.getElem_toArray]
  rw[getElem!_pos _ _ (by show t%2<2;omega)]
  rw[List.getElem?_eq_getElem (by show t%2<2;omega)] at e2
  exact(Option.some.inj e2).symm
abbrev Zbh(ss:List (Int × Int)):List (Int × Int):=ss.mergeSort fun x y=>!(ltOf Z14) y x
theorem Zjo:∀args w,(callFunc 188 args).run prog w=.ok (.enter 188 args) w:=enters_of func188 (by kernel_rfl) rfl
theorem Zaa(blk off size:Nat)(w:World):CmpLays prog 188 #[] V5 2 Z14 blk off size w :=
 fun _ _ _ _ x y=>(Zc4 x.1 x.2 y.1 y.2 _).mono fun e w' h=>h
theorem Zgk(g0 g cap:Nat)(ss:List (Int × Int))(w:World)(h:Z5q w g0 (.slice (some ⟨g,0,none⟩) ss.length cap) ss)(hsm:ss.length≤100000) :
  Calls prog 219 #[.slice (some ⟨g,0,none⟩) ss.length cap,.func (.func 188) #[] #[]] w fun e w'=>e=.returned (.tuple #[])∧Z5q w' g0 (.slice (some ⟨g,0,none⟩) ss.length cap) (Zbh ss)∧Z4 (fun b=>b=g) w w':=by
 obtain⟨hx,hr⟩:=h
 rcases hr with⟨h0,_⟩ | ⟨g',cap',cur,h1,h2,h3,h4,h5,h6,h7⟩
 ·simp at h0
 ·simp only[Value.slice.injEq,Option.some.injEq,Addr.mk.injEq,and_true,true_and] at h1
  obtain⟨rfl,rfl⟩:=h1
  have hF:(⟨Z6 V5 ss⟩:Array Value).size=ss.length*2:=Yw (row:=V5) (sz:=2) (fun _=>rfl) ss
  have hH:HoldsK V5 2 w g 0 ss.toArray:=by
   unfold HoldsK
   rw[Z8z]
   exact Zjs h3 (by rw[hF];exact h7)
  have hc:=AnyQ.slices_SortFunc_total Tryz.sortN 2 (by intro w;kernel_rfl) (by intro w;kernel_rfl) V5 (fun _=>rfl) (fun x v hv=>by simp[V5] at hv;rcases hv with rfl | rfl<;>rfl) Z14 Z42 188 #[] g 0 cap ss.toArray w Zjo (Zaa g 0 _ w) hH (hlt h3) (by simp;omega) Zc5
  refine Calls.mono hc ?_
  rintro e w' ⟨rfl,n,os,rfl⟩
  refine⟨rfl,?_,?_⟩
  ·have hl:(Zbh ss).length=ss.length:=(List.mergeSort_perm _ _).length_eq
   have hz:(⟨Z6 V5 (Zbh ss)⟩:Array Value).size=ss.length*2:=by rw[←hl];exact Yw (row:=V5) (sz:=2) (fun _=>rfl) _
   unfold sortWorldK putRowK
   rw[Z8z]
   unfold Z5q Yz
   rw[hl]
   refine⟨by show(Z6 V5 (Zbh ss)).length=_;exact hz,.inr ⟨g,cap,_,rfl,h2,Zn8 _ h3,h4,h5,by simp[putCells,h6],?_⟩⟩
   have:=Zq2 cur ⟨Z6 V5 (Zbh ss)⟩ (by rw[hz,h6];exact Nat.mul_le_mul_right 2 h4)
   rw[hz] at this
   exact this
  ·exact Ztw _
end
section
open Go.RowKit Go.Sort Go.Shelf
attribute [local go_sem] Oper.semAt_some
def hpV(x:Hp):Value:=.slice x.a x.h.q.length x.c
structure Z64(w:World)(F:Nat→Prop)(x:Hp):Prop where
 c0:w.cell? ⟨x.p,0,none⟩=some (.int .i64 x.h.t)
 c1:w.cell? ⟨x.p,1,none⟩=some (.int .i64 x.h.r)
 c2:w.cell? ⟨x.p,2,none⟩=some (.slice x.a x.h.q.length x.c)
 c3:w.cell? ⟨x.p,3,none⟩=some (.int .i64 x.h.W)
 rd:Zl w (hpV x) x.h.q
 cap:x.h.q.length≤x.c
 len:x.h.q.length≤1000
 nf:¬F x.p
 qf:∀b,x.a=some b→x.h.q≠[]→¬F b.block
structure Db(w:World)(o mb po n:Nat)(l:List Hp)(L:List Bool)(F:Nat→Prop):Prop where
 c0:w.cell? ⟨o,0,none⟩=some (.pointer (some ⟨o,0,none⟩))
 c1:w.cell? ⟨o,1,none⟩=some (.int .i64 n)
 c2:w.cell? ⟨o,2,none⟩=some (.pointer (some ⟨po,0,none⟩))
 c3:w.cell? ⟨o,3,none⟩=some (.map (some mb))
 ol:o<w.heap.size
 nf:¬F o
 mf:¬F mb
 map:Y8 w mb l
 srt:Z70 l
 ok:∀x∈l,Z64 w F x
 pol:Pol w po L F
 len:l.length≤64
theorem Z64.lt{w:World}{F:Nat→Prop}{x:Hp}(h:Z64 w F x):x.p<w.heap.size:=World.block_lt_of_cell? _ _ h.c0
theorem Y8.cellne{w:World}{mb:Nat}{l:List Hp}(h:Y8 w mb l){b j:Nat}{v:Value}(hc:w.cell? ⟨b,j,none⟩=some v):b≠mb:=by
 obtain⟨⟨es,⟨a,c,h1,_⟩,_⟩,_⟩:=h
 rintro rfl
 unfold World.cell? at hc
 simp only[h1] at hc
 cases hc
theorem Db.omb{w:World}{o mb po n:Nat}{l:List Hp}{L:List Bool}{F:Nat→Prop}(h:Db w o mb po n l L F):o≠mb:=h.map.cellne h.c0
theorem Z64.qne{w:World}{F:Nat→Prop}{x:Hp}(h:Z64 w F x){mb:Nat}{l:List Hp}(m:Y8 w mb l):∀b,x.a=some b→x.h.q≠[]→b.block≠mb:=fun b e hq=>by
 obtain⟨a,c,e1,⟨q,_⟩ | ⟨b',o',e2,hc⟩⟩:=h.rd
 ·exact absurd q hq
 ·unfold hpV at e1
  rw[e,e2] at e1
  injection e1 with e1 _ _
  injection e1 with e1
  subst e1
  obtain⟨y,t,hy⟩:=List.exists_cons_of_ne_nil hq
  have h0:0<x.h.q.length:=by rw[hy];simp
  have:=hc.cell 0 h0 0 _ rfl
  exact m.cellne this
theorem Z64.step{w w':World}{F F':Nat→Prop}{x:Hp}{S:Nat→Prop}(h:Z64 w F x)(t:Z4 S w w')(hp:¬S x.p)(hq:∀b,x.a=some b→x.h.q≠[]→¬S b.block)(hF:∀k,F' k→F k∨w.heap.size≤k):Z64 w' F' x:=by
 have hpl:=h.lt
 refine⟨(t.cell hpl hp).trans h.c0,(t.cell hpl hp).trans h.c1,(t.cell hpl hp).trans h.c2,(t.cell hpl hp).trans h.c3,?_,h.cap,h.len,fun e=>(hF _ e).elim h.nf (fun q=>by omega),fun b e hne q=>?_⟩
 ·obtain⟨a,c,e,q | ⟨b,o',e2,hc⟩⟩:=h.rd
  ·exact⟨a,c,e,.inl q⟩
  ·subst e2
   by_cases hqn:x.h.q=[]
   ·exact⟨_,c,e,.inl ⟨hqn,fun q=>by cases q⟩⟩
   have hb:¬S b:=hq _ (by unfold hpV at e;injection e) hqn
   exact⟨_,c,e,.inr ⟨b,o',rfl,lL0 hc.lt t.size,fun i hi c u hu=>(t.cell hc.lt hb).trans (hc.cell i hi c u hu)⟩⟩
 ·rcases hF _ q with q | q
  ·exact h.qf b e hne q
  ·obtain⟨a,c,e1,⟨q1,_⟩ | ⟨b',o',e2,hc⟩⟩:=h.rd
   ·exact hne q1
   ·unfold hpV at e1
    rw[e,e2] at e1
    injection e1 with e1 _ _
    injection e1 with e1
    subst e1
    have:=hc.lt
    have e3:(⟨b',o',none⟩:Addr).block=b':=rfl
    omega
theorem Db.tch{w w':World}{o mb po n:Nat}{l:List Hp}{L:List Bool}{F:Nat→Prop}{S:Nat→Prop}(h:Db w o mb po n l L F)(t:Z4 S w w')(ho:¬S o)(hm:¬S mb)(hF:∀k,F k→¬S k)(hx:∀x∈l,¬S x.p∧∀b,x.a=some b→x.h.q≠[]→¬S b.block):Db w' o mb po n l L F :=
 ⟨(t.cell h.ol ho).trans h.c0,(t.cell h.ol ho).trans h.c1,(t.cell h.ol ho).trans h.c2,(t.cell h.ol ho).trans h.c3,lL0 h.ol t.size,h.nf,h.mf,h.map.tch t hm,h.srt,
  fun x q=>(h.ok x q).step t (hx x q).1 (hx x q).2 (fun k e=>.inl e),h.pol.tch t hF,h.len⟩
theorem Db.nw{w w':World}{o mb po n:Nat}{l:List Hp}{L:List Bool}{F:Nat→Prop}(h:Db w o mb po n l L F)(g:Nw w w'):Db w' o mb po n l L F:=h.tch (Z4.nw (S:=fun _=>False) g) (fun e=>e) (fun e=>e) (fun _ _ e=>e) (fun _ _=>⟨fun e=>e,fun _ _ _ e=>e⟩)
def Zvf(l:List Hp)(b:Nat):Prop:=∃x∈l,b=x.p∨∃a,x.a=some a∧x.h.q≠[]∧b=a.block
def HdN(w:World)(l l':List Hp):Prop:=∀b,Zvf l' b→Zvf l b∨w.heap.size≤b
theorem HdN.refl(w:World)(l:List Hp):HdN w l l:=fun _ e=>.inl e
theorem HdN.pre{w w1:World}{l l':List Hp}(h:HdN w1 l l')(g:w.heap.size≤w1.heap.size):HdN w l l':=fun b e=>(h b e).imp id (fun q=>Nat.le_trans g q)
def Uh(w:World)(o mb po n:Nat)(F:Nat→Prop)(l:List Hp)(w':World)(l':List Hp)(L':List Bool):Prop:=∃F',Db w' o mb po n l' L' F'∧(∀k,F' k→F k∨w.heap.size≤k)∧Z4 (fun b=>b=mb∨F b) w w'∧HdN w l l'
theorem Db.to{w w':World}{o mb po n:Nat}{l:List Hp}{L:List Bool}{F:Nat→Prop}(h:Db w o mb po n l L F)(g:Nw w w'):Uh w o mb po n F l w' l L:=⟨F,h.nw g,fun _ e=>.inl e,Z4.nw g,HdN.refl w l⟩
theorem Uh.pre{w w1 w':World}{o mb po n:Nat}{F:Nat→Prop}{l l':List Hp}{L':List Bool}(g:Nw w w1)(h:Uh w1 o mb po n F l w' l' L'):Uh w o mb po n F l w' l' L':=by
 obtain⟨F',h1,h2,h3,h4⟩:=h
 exact⟨F',h1,fun k e=>(h2 k e).imp id (fun q=>Nat.le_trans g.sz q),(Z4.nw g).trans h3,h4.pre g.sz⟩
theorem Db.pool{w w':World}{o mb po n:Nat}{l:List Hp}{L L':List Bool}{F:Nat→Prop}(h:Db w o mb po n l L F)(k:Z5r w po F L' w'):Uh w o mb po n F l w' l L':=by
 obtain⟨F',h1,h2,h3⟩:=k
 have hml:=h.map.lt
 have hol:=h.ol
 refine⟨F',⟨(h3.cell hol h.nf).trans h.c0,(h3.cell hol h.nf).trans h.c1,(h3.cell hol h.nf).trans h.c2,(h3.cell hol h.nf).trans h.c3,lL0 hol h3.size,fun e=>(h2 _ e).elim h.nf (fun q=>by omega),fun e=>(h2 _ e).elim h.mf (fun q=>by omega),h.map.tch h3 h.mf,h.srt,
  fun x q=>(h.ok x q).step h3 (h.ok x q).nf (h.ok x q).qf h2,h1,h.len⟩,h2,h3.mono (fun _ _ e=>.inr e),HdN.refl w l⟩
theorem Ztn{ss:List (Int × Int)}{l:List Hp}(p:ss.Perm (Z2d l))(s:Z70 l):Zbh ss=Z2d l:=by
 have tr:∀a b c:Int × Int,(!(ltOf Z14 b a))=true→(!(ltOf Z14 c b))=true→(!(ltOf Z14 c a))=true:=fun a b c h1 h2=>by
  rw[Uq] at *;simp only[Bool.not_eq_true',decide_eq_false_iff_not] at *;unfold Vq at *;omega
 have to:∀a b:Int × Int,((!(ltOf Z14 b a)) || !(ltOf Z14 a b))=true:=fun a b=>by
  rw[Uq,Uq];simp only[Bool.or_eq_true,Bool.not_eq_true',decide_eq_false_iff_not];unfold Vq;omega
 refine List.Perm.eq_of_pairwise (le:=fun a b=>(!(ltOf Z14 b a))=true) (fun a b _ _ h1 h2=>Zc5 a b (by simpa using h2) (by simpa using h1)) (List.pairwise_mergeSort tr to ss) ?_ ((List.mergeSort_perm ss _).trans p)
 refine List.pairwise_map.2 (s.imp fun {a b} h=>?_)
 rw[Uq]
 simp only[Bool.not_eq_true',decide_eq_false_iff_not]
 intro q
 exact Yj _ (Z2o h q)
theorem Z8a(gf:Nat)(lb:Array Value)(eg:∀args w,(callFunc gf args).run prog w=.ok (.enter gf args) w)(Pre Fin:List (Int × Int)→Prop)(S0:Nat→Prop)(w:World)(hsm:∀xs,Pre xs→xs.length≤100000)(hfm:∀xs,Fin xs→xs.length≤100000)
  (hS0:∀k,S0 k→k<w.heap.size) (hseq:Za1 Fence.wide 4 prog gf #[] lb nmV Pre Fin S0 w) :
  Calls prog 186 #[.func (.func gf) #[] lb,.func (.func 188) #[] #[]] w fun e w'=>∃v xs,e=.returned v∧Fin xs∧Z5q w' w.heap.size v (Zbh xs)∧Nw w w':=by
 have HC:=hD0 (Zaf gf lb eg Pre Fin S0 w hsm hS0 hseq)
 clear hseq hS0 hsm
 go_enter func186,ntmps186
 go_wp2_with fail
 refine HC.out.mono ?_
 rintro e w1 ⟨v,xs,rfl,hf,hO,g1⟩
 have hxl:=hfm xs hf
 have HF:=hD0 (aI0 hf g1)
 have HO:=hD0 hO
 rcases Y7 hO with⟨rfl,hz⟩ | ⟨g,cap,rfl⟩
 ·have HS:=hD0 (AnyF.slices_SortFunc_none (P:=prog) { Tryz.sortN with } none 0 (.func (.func 188) #[] #[]) w1)
  have hx:xs=[]:=List.length_eq_zero_iff.1 hz
  subst hx
  clear hO hf g1 hxl hz hfm
  go_wp2_with fail
  refine Calls.mono HS.out ?_
  rintro e w2 ⟨rfl,rfl⟩
  go_wp2
  go_ret
  have e0:Zbh ([]:List (Int × Int))=[]:=by unfold Zbh;simp
  exact⟨_,[],rfl,HF.out.1,by rw[e0];exact HO.out,HF.out.2⟩
 ·have HS:=hD0 (Zgk w.heap.size g cap xs w1 hO hxl)
  have HG:=hD0 (Vr hO rfl)
  clear hO hf g1 hxl hfm
  go_wp2_with fail
  refine HS.out.mono ?_
  rintro e w2 ⟨rfl,hO2,ht⟩
  have HO2:=hD0 hO2
  have HT:=hD0 ht
  clear hO2 ht
  go_wp2
  go_ret
  exact⟨_,xs,rfl,HF.out.1,HO2.out,Yq HF.out.2 HT.out (fun i e=>by have:=HG.out;omega)⟩
end
theorem Db.other{w w':World}{o mb po n mb':Nat}{l l2:List Hp}{L L':List Bool}{F F':Nat→Prop}(h:Db w o mb po n l L F)(m2:Y8 w mb' l2)(hne:mb≠mb')(t:Z4 (fun b=>b=mb'∨F b) w w')(hp:Pol w' po L' F')(hF:∀k,F' k→F k∨w.heap.size≤k):Db w' o mb po n l L' F':=by
 have hol:=h.ol
 have hml:=h.map.lt
 have ho:¬(o=mb'∨F o):=fun e=>e.elim (m2.cellne h.c0) h.nf
 have hm:¬(mb=mb'∨F mb):=fun e=>e.elim hne h.mf
 exact⟨(t.cell hol ho).trans h.c0,(t.cell hol ho).trans h.c1,(t.cell hol ho).trans h.c2,(t.cell hol ho).trans h.c3,lL0 hol t.size,fun e=>(hF _ e).elim h.nf (fun q=>by omega),fun e=>(hF _ e).elim h.mf (fun q=>by omega),h.map.tch t hm,h.srt,
  fun x q=>(h.ok x q).step t (fun e=>e.elim (m2.cellne (h.ok x q).c0) (h.ok x q).nf) (fun b e hq e2=>e2.elim ((h.ok x q).qne m2 b e hq) ((h.ok x q).qf b e hq)) hF,hp,h.len⟩
def Z1n(hss:List (List Hq)):List Int:=hss.flatMap Za
def Z68(hss:List (List Hq))(i:Nat):List Int:=Z1n (hss.take i)++Z1n (hss.drop (i+1))
structure Zbu(most k:Nat)(hs:List Hq):Prop where
 srt:Y9 hs
 len:hs.length≤most
 inv:∀h∈hs,Z9z h
 ne:∀h∈hs,h.q≠[]
 wt:∀h∈hs,h.W≤k
 ql:∀h∈hs,h.q.length≤k
theorem Zs.part{most k:Nat}{hs:List Hq}{X:List Int}{L:List Bool}(b:Zs most k hs X L):Zbu most k hs:=⟨b.srt,b.len,b.inv,b.ne,b.wt,b.ql⟩
theorem Zbu.more{most k k':Nat}{hs:List Hq}(b:Zbu most k hs)(h:k≤k'):Zbu most k' hs:=⟨b.srt,b.len,b.inv,b.ne,fun x hx=>by have:=b.wt x hx;omega,fun x hx=>by have:=b.ql x hx;omega⟩
structure Z0i(most k:Nat)(hss:List (List Hq))(L:List Bool):Prop where
 part:∀hs∈hss,Zbu most k hs
 ids:(Z1n hss).Perm (Zg (lnt L))
theorem Zpz(a b:List (List Hq)):Z1n (a++b)=Z1n a++Z1n b:=by unfold Z1n;rw[List.flatMap_append]
theorem Z8f{hss:List (List Hq)}{i:Nat}(hi:i<hss.length):(Z1n hss).Perm (Za hss[i]++Z68 hss i):=by
 have e:hss=hss.take i++hss[i]::hss.drop (i+1):=by rw[←List.drop_eq_getElem_cons hi,List.take_append_drop]
 have e2:Z1n hss=Z1n (hss.take i)++(Za hss[i]++Z1n (hss.drop (i+1))):=by
  conv=>lhs;rw[e]
  rw[Zpz]
  rfl
 rw[e2]
 unfold Z68
 rw[←List.append_assoc,←List.append_assoc]
 exact List.perm_append_comm.append_right _
theorem Ze8(hss:List (List Hq))(i:Nat)(hs:List Hq):Z68 (hss.set i hs) i=Z68 hss i:=by
 unfold Z68
 rw[List.take_set_of_le (Nat.le_refl i),List.drop_set_of_lt (Nat.lt_succ_self i)]
theorem Z0i.get{most k:Nat}{hss:List (List Hq)}{L:List Bool}(t:Z0i most k hss L){i:Nat}(hi:i<hss.length):Zs most k hss[i] (Z68 hss i) L:=by
 have b:=t.part _ (gM0 hi)
 exact⟨b.srt,b.len,b.inv,b.ne,(Z8f hi).symm.trans t.ids,b.wt,b.ql⟩
theorem Z0i.put{most k:Nat}{hss:List (List Hq)}{L L':List Bool}(t:Z0i most k hss L){i:Nat}(hi:i<hss.length){hs:List Hq}(b:Zs most (k+1) hs (Z68 hss i) L'):Z0i most (k+1) (hss.set i hs) L':=by
 refine⟨fun x hx=>?_,?_⟩
 ·rcases List.mem_or_eq_of_mem_set hx with q | rfl
  ·exact(t.part x q).more (Nat.le_succ k)
  ·exact b.part
 ·have hi':i<(hss.set i hs).length:=by rw[List.length_set];exact hi
  refine(Z8f hi').trans ?_
  rw[List.getElem_set_self,Ze8]
  exact b.ids
theorem Z0i.more{most k k':Nat}{hss:List (List Hq)}{L:List Bool}(t:Z0i most k hss L)(h:k≤k'):Z0i most k' hss L:=⟨fun x hx=>(t.part x hx).more h,t.ids⟩
theorem Zky(most S n:Nat):Z0i most 0 (List.replicate S []) (List.replicate n false):=by
 refine⟨fun x hx=>?_,?_⟩
 ·obtain⟨_,rfl⟩:=List.mem_replicate.1 hx
  exact(Zlr most n).part
 ·rw[Zd7]
  have:Z1n (List.replicate S ([]:List Hq))=[]:=by
   unfold Z1n
   rw[List.flatMap_eq_nil_iff]
   intro x hx
   obtain⟨_,rfl⟩:=List.mem_replicate.1 hx
   rfl
  rw[this]
  exact .refl _
theorem Z0i.mem{most k:Nat}{hss:List (List Hq)}{L:List Bool}(t:Z0i most k hss L){id:Int}:id∈Z1n hss↔hsL L id=true:=by
 rw[←Zhx,←t.ids.mem_iff]
theorem Z0i.count{most k:Nat}{hss:List (List Hq)}{L:List Bool}(t:Z0i most k hss L):(hss.map fun hs=>(hs.map fun x=>x.q.length).sum).sum=liv L:=by
 have e:(Z1n hss).length=(hss.map fun hs=>(hs.map fun x=>x.q.length).sum).sum:=by
  unfold Z1n
  rw[List.length_flatMap]
  congr 1
  apply List.map_congr_left
  intro x _
  exact Zqw x
 rw[←e,t.ids.length_eq]
 simp[Zg,Z6k]
structure DB where
 o:Nat
 mb:Nat
 l:List Hp
structure DtB(w:World)(po n:Nat)(ds:List DB)(L:List Bool)(F:Nat→Prop):Prop where
 db:∀d∈ds,Db w d.o d.mb po n d.l L F
 ne:∀i j (hi:i<ds.length) (hj:j<ds.length),i≠j→ds[i].mb≠ds[j].mb
 pol:Pol w po L F
theorem DtB.nw{w w':World}{po n:Nat}{ds:List DB}{L:List Bool}{F:Nat→Prop}(h:DtB w po n ds L F)(g:Nw w w'):DtB w' po n ds L F:=⟨fun d hd=>(h.db d hd).nw g,h.ne,h.pol.nw g⟩
theorem DtB.put{w w':World}{po n:Nat}{ds:List DB}{L L':List Bool}{F:Nat→Prop}(h:DtB w po n ds L F){i:Nat}(hi:i<ds.length){l':List Hp}(d:Uh w ds[i].o ds[i].mb po n F ds[i].l w' l' L') :
  ∃F',DtB w' po n (ds.set i ⟨ds[i].o,ds[i].mb,l'⟩) L' F'∧(∀k,F' k→F k∨w.heap.size≤k)∧Z4 (fun b=>b=ds[i].mb∨F b) w w'∧HdN w ds[i].l l':=by
 obtain⟨F',d1,d2,d3,d4⟩:=d
 have hdi:=h.db _ (gM0 hi)
 refine⟨F',⟨fun b hb=>?_,fun j m hj hm ne=>?_,d1.pol⟩,d2,d3,d4⟩
 ·obtain⟨j,hj,rfl⟩:=List.getElem_of_mem hb
  rw[List.length_set] at hj
  by_cases e:i=j
  ·subst e
   rw[List.getElem_set_self]
   exact d1
  ·rw[List.getElem_set_ne e]
   exact(h.db _ (gM0 hj)).other hdi.map (h.ne j i hj hi (fun q=>e q.symm)) d3 d1.pol d2
 ·rw[List.length_set] at hj hm
  have key:∀(m:Nat) (hm:m<(ds.set i ⟨ds[i].o,ds[i].mb,l'⟩).length) (hm2:m<ds.length),(ds.set i ⟨ds[i].o,ds[i].mb,l'⟩)[m].mb=ds[m].mb:=fun m hm hm2=>by
   by_cases e:i=m
   ·subst e;rw[List.getElem_set_self]
   ·rw[List.getElem_set_ne e]
  rw[key j _ hj,key m _ hm]
  exact h.ne j m hj hm ne
def Ze(ds:List DB):List (List Hq):=ds.map fun d=>Zb d.l
theorem Z7n(ds:List DB)(i:Nat)(d:DB):Ze (ds.set i d)=(Ze ds).set i (Zb d.l):=by unfold Ze;rw[List.map_set]
theorem Zcw{ds:List DB}{i:Nat}(hi:i<ds.length):(Ze ds)[i]?=some (Zb ds[i].l):=by unfold Ze;rw[List.getElem?_map,List.getElem?_eq_getElem hi];rfl
theorem DtB.inv{ds:List DB}{n k:Nat}{L:List Bool}(t:Z0i n k (Ze ds) L){i:Nat}(hi:i<ds.length):Zs n k (Zb ds[i].l) (Z68 (Ze ds) i) L:=by
 have hi':i<(Ze ds).length:=by unfold Ze;rw[List.length_map];exact hi
 have b:=t.get hi'
 have e:(Ze ds)[i]=Zb ds[i].l:=by
  have:=Zcw hi
  rw[List.getElem?_eq_getElem hi'] at this
  exact Option.some.inj this
 rw[e] at b
 exact b
def Z8n(ds:List DB)(F:Nat→Prop)(b:Nat):Prop:=F b∨∃d∈ds,b=d.o∨b=d.mb∨Zvf d.l b
theorem DtB.lt{w:World}{po n:Nat}{ds:List DB}{L:List Bool}{F:Nat→Prop}(h:DtB w po n ds L F):∀b,Z8n ds F b→b<w.heap.size:=by
 rintro b (e | ⟨d,hd,rfl | rfl | ⟨x,hx,rfl | ⟨a,e,hq,rfl⟩⟩⟩)
 ·exact h.pol.own b e
 ·exact(h.db d hd).ol
 ·exact(h.db d hd).map.lt
 ·exact((h.db d hd).ok x hx).lt
 ·obtain⟨a',c,e1,⟨q,_⟩ | ⟨b',o',e2,hc⟩⟩:=((h.db d hd).ok x hx).rd
  ·exact absurd q hq
  ·unfold hpV at e1
   rw[e,e2] at e1
   injection e1 with e1 _ _
   injection e1 with e1
   subst e1
   exact hc.lt
theorem DtB.tchS{w w':World}{S:Nat→Prop}{po n:Nat}{ds:List DB}{L:List Bool}{F:Nat→Prop}(h:DtB w po n ds L F)(t:Z4 S w w')(hS:∀b,Z8n ds F b→¬S b):DtB w' po n ds L F :=
 ⟨fun d hd=>(h.db d hd).tch t (hS _ (.inr ⟨d,hd,.inl rfl⟩)) (hS _ (.inr ⟨d,hd,.inr (.inl rfl)⟩)) (fun k e=>hS k (.inl e)) (fun x hx=>⟨hS _ (.inr ⟨d,hd,.inr (.inr ⟨x,hx,.inl rfl⟩)⟩),fun a e hq=>hS _ (.inr ⟨d,hd,.inr (.inr ⟨x,hx,.inr ⟨a,e,hq,rfl⟩⟩)⟩)⟩),h.ne,h.pol.tch t (fun k e=>hS k (.inl e))⟩
theorem DtB.in_put{w:World}{ds:List DB}{F F':Nat→Prop}{i:Nat}(hi:i<ds.length){l':List Hp}(d2:∀k,F' k→F k∨w.heap.size≤k)(d4:HdN w ds[i].l l'):∀b,Z8n (ds.set i ⟨ds[i].o,ds[i].mb,l'⟩) F' b→Z8n ds F b∨w.heap.size≤b:=by
 rintro b (e | ⟨d,hd,e⟩)
 ·exact(d2 b e).imp .inl id
 ·rcases List.mem_or_eq_of_mem_set hd with q | rfl
  ·exact .inl (.inr ⟨d,q,e⟩)
  ·have hm:=gM0 hi
   rcases e with e | e | e
   ·exact .inl (.inr ⟨_,hm,.inl e⟩)
   ·exact .inl (.inr ⟨_,hm,.inr (.inl e)⟩)
   ·exact(d4 b e).imp (fun q=>.inr ⟨_,hm,.inr (.inr q)⟩) id
def Ya(hss:List (List Hq)):List Hq:=hss.flatten.foldl Yh []
def Vv(hs:List Hq):Prop:=hs.Pairwise fun x y=>Z9 x≠Z9 y
theorem Zoz{hs:List Hq}(s:Y9 hs){x:Hq}(hn:∀a∈hs,Z9 a≠Z9 x):Y9 (Yh hs x)∧(Yh hs x).Perm (x::hs):=by
 obtain⟨l,m,rfl,e,s2⟩:=Zp0 s hn
 rw[e]
 exact⟨s2,List.perm_middle⟩
theorem Zzb{l:List Hq}:∀ {acc:List Hq},Y9 acc→(∀a∈acc,∀x∈l,Z9 a≠Z9 x)→Vv l→Y9 (l.foldl Yh acc)∧(l.foldl Yh acc).Perm (acc++l):=by
 induction l with
 | nil=>intro acc s _ _;exact⟨s,by simp⟩
 | cons x t ih =>
  intro acc s h1 h2
  obtain⟨h3,h4⟩:=List.pairwise_cons.1 h2
  obtain⟨s2,p2⟩:=Zoz s (fun a ha=>h1 a ha x (by simp))
  obtain⟨s3,p3⟩:=ih s2 (fun a ha y hy=>by
   rcases List.mem_cons.1 (p2.mem_iff.1 ha)with rfl | q
   ·exact h3 y hy
   ·exact h1 a q y (List.mem_cons_of_mem _ hy)) h4
  refine⟨s3,p3.trans ?_⟩
  exact(p2.append_right t).trans (by simpa using(List.perm_middle (a:=x) (l₁:=acc) (l₂:=t)).symm)
theorem snap_srt{hss:List (List Hq)}(h:Vv hss.flatten):Y9 (Ya hss)∧(Ya hss).Perm hss.flatten:=by
 have:=Zzb (acc:=[]) (l:=hss.flatten) (by simp[Y9]) (by simp) h
 simpa [Ya] using this
theorem Zxu{a b:List Hq}(ha:Y9 a)(hb:Y9 b)(p:a.Perm b):a=b:=by
 refine List.Perm.eq_of_pairwise (le:=fun x y=>Vq (Z9 x) (Z9 y)) (fun x y _ _ h1 h2=>?_) ha hb p
 exact absurd (Z2o h1 h2) (Yj _)
theorem Ztj{hss:List (List Hq)}(h:Vv hss.flatten){l:List Hq}(s:Y9 l)(p:l.Perm hss.flatten):l=Ya hss:=Zxu s (snap_srt h).1 (p.trans (snap_srt h).2.symm)
theorem Zlh{hss:List (List Hq)}(hs:∀l∈hss,Y9 l)(k:Int × Int→Nat)(hk:∀i (hi:i<hss.length),∀x∈hss[i],k (Z9 x)=i):Vv hss.flatten:=by
 unfold Vv
 rw[List.pairwise_flatten]
 refine⟨fun l hl=>?_,?_⟩
 ·refine(hs l hl).imp fun {a b} h e=>?_
  rw[e] at h
  exact Yj _ h
 ·rw[List.pairwise_iff_getElem]
  intro i j hi hj hij x hx y hy e
  have h1:=hk i hi x hx
  have h2:=hk j hj y hy
  rw[e] at h1
  omega
def atT:List (List Hq)→Int→Option Nat
 | [],_=>none
 | hs::t,id=>if (Zt hs id).isSome then some 0 else(atT t id).map (·+1)
theorem Z3z{hss:List (List Hq)}{id:Int}{i:Nat}(h:atT hss id=some i):∃hi:i<hss.length,(Zt hss[i] id).isSome=true∧∀j (hj:j<hss.length),j<i→Zt hss[j] id=none:=by
 induction hss generalizing i with
 | nil=>cases h
 | cons a t ih =>
  unfold atT at h
  by_cases e:(Zt a id).isSome=true
  ·rw[if_pos e] at h
   obtain rfl:0=i:=Option.some.inj h
   exact⟨by simp,e,fun j hj hlt=>by omega⟩
  ·rw[if_neg e] at h
   cases q:atT t id with
   | none=>rw[q] at h;cases h
   | some m =>
    rw[q] at h
    obtain rfl:m+1=i:=Option.some.inj h
    obtain⟨h1,h2,h3⟩:=ih q
    refine⟨by simp;omega,by simpa using h2,fun j hj hlt=>?_⟩
    cases j with
    | zero=>simpa using e
    | succ j=>simpa using h3 j (by simp at hj;omega) (by omega)
theorem Z73{hss:List (List Hq)}{id:Int}(h:atT hss id=none):∀hs∈hss,Zt hs id=none:=by
 induction hss with
 | nil=>intro hs q;cases q
 | cons a t ih =>
  unfold atT at h
  by_cases e:(Zt a id).isSome=true
  ·rw[if_pos e] at h;cases h
  ·rw[if_neg e] at h
   have h2:atT t id=none:=by simpa using h
   intro hs q
   rcases List.mem_cons.1 q with rfl | q
   ·simpa using e
   ·exact ih h2 hs q
structure Hl where
 x:Int
 t:Int
 r:Int
 m:Int
def Vc(s:List Hq)(txn:Int):List Hl:=(s.filter fun h=>!(mdQ h.q txn==0)).map fun h=>⟨txn,h.t,h.r,mdQ h.q txn⟩
def txT(s:List Hq):List Int:=(s.flatMap fun h=>h.q).foldl (fun l o=>Ul o.txn l) []
def Z2b(s:List Hq):List Hl:=(txT s).flatMap (Vc s)
def Z09(s:List Hq):List Hl:=s.flatMap fun h=>(h.q.filter fun r=>!(r.md==0)).map fun r=>⟨r.txn,h.t,h.r,r.md⟩
def hlL(a b:Hl):Prop:=a.x<b.x∨(a.x=b.x∧Vq (a.t,a.r) (b.t,b.r))
theorem Z49(a:Hl):¬hlL a a:=by unfold hlL Vq;omega
theorem Zff{a b c:Hl}(h:hlL a b)(k:hlL b c):hlL a c:=by unfold hlL Vq at *;simp only at *;omega
theorem Zu7(s:List Hq):(txT s).Pairwise (·<·):=by
 have key:∀(q:List Rq) (l:List Int),l.Pairwise (·<·)→(q.foldl (fun l o=>Ul o.txn l) l).Pairwise (·<·):=by
  intro q
  induction q with
  | nil=>intro l h;exact h
  | cons a t ih=>intro l h;exact ih _ (Z5z a.txn l h)
 exact key _ _ .nil
theorem Zu6{s:List Hq}{x:Int}:x∈txT s↔∃h∈s,∃r∈h.q,r.txn=x:=by
 unfold txT
 rw[Zck]
 simp only[List.not_mem_nil,false_or,List.mem_flatMap]
 constructor
 ·rintro⟨o,⟨h,hh,ho⟩,e⟩;exact⟨h,hh,o,ho,e⟩
 ·rintro⟨h,hh,o,ho,e⟩;exact⟨o,⟨h,hh,ho⟩,e⟩
theorem Zog{W:Int}{q:List Rq}(k:Ok W q){r:Rq}(hr:r∈q):mdQ q r.txn=r.md:=by
 unfold mdQ
 cases e:q.find? fun x=>x.txn==r.txn with
 | none =>
  have:=List.find?_eq_none.1 e r hr
  simp at this
 | some y =>
  have h1:=List.mem_of_find?_eq_some e
  have h2:=List.find?_some e
  show y.md=r.md
  rw[k.injT y h1 r hr (by simpa using h2)]
theorem Zdb{q:List Rq}{txn:Int}(h:mdQ q txn≠0):∃r∈q,r.txn=txn∧r.md=mdQ q txn:=by
 unfold mdQ at h ⊢
 cases e:q.find? fun x=>x.txn==txn with
 | none=>rw[e] at h;exact absurd rfl h
 | some y=>exact⟨y,List.mem_of_find?_eq_some e,by simpa using List.find?_some e,rfl⟩
theorem Zap{s:List Hq}(h:Y9 s)(txn:Int):(Vc s txn).Pairwise hlL:=by
 unfold Vc
 rw[List.pairwise_map]
 refine(List.Pairwise.filter _ h).imp fun {a b} q=>.inr ⟨rfl,q⟩
theorem Zgs{s:List Hq}(h:Y9 s):(Z2b s).Pairwise hlL:=by
 unfold Z2b
 rw[List.pairwise_flatMap]
 refine⟨fun x _=>Zap h x,(Zu7 s).imp fun {a b} q u hu v hv=>?_⟩
 unfold Vc at hu hv
 obtain⟨_,_,rfl⟩:=List.mem_map.1 hu
 obtain⟨_,_,rfl⟩:=List.mem_map.1 hv
 exact .inl q
theorem Zqx{s:List Hq}(ok:∀h∈s,Ok h.W h.q){e:Hl}:e∈Z2b s↔e∈Z09 s:=by
 unfold Z2b Z09 Vc
 simp only[List.mem_flatMap,List.mem_map,List.mem_filter,Bool.not_eq_true',beq_eq_false_iff_ne]
 constructor
 ·rintro⟨x,_,h,⟨hh,hm⟩,rfl⟩
  obtain⟨r,hr,h1,h2⟩:=Zdb hm
  exact⟨h,hh,r,⟨hr,by rw[h2];exact hm⟩,by rw[h1,h2]⟩
 ·rintro⟨h,hh,r,⟨hr,hm⟩,rfl⟩
  have e:=Zog (ok h hh) hr
  exact⟨r.txn,Zu6.2 ⟨h,hh,r,hr,rfl⟩,h,⟨hh,by rw[e];exact hm⟩,by rw[e]⟩
theorem Z8x{s:List Hq}(h:Y9 s)(ok:∀h∈s,Ok h.W h.q):(Z09 s).Nodup:=by
 unfold Z09
 unfold List.Nodup
 rw[List.pairwise_flatMap]
 refine⟨fun a ha=>?_,h.imp fun {a b} q u hu v hv e=>?_⟩
 ·rw[List.pairwise_map]
  refine List.Pairwise.filter _ ?_
  exact(ok a ha).pr.imp fun {x y} q e=>q.txn (congrArg Hl.x e)
 ·obtain⟨_,_,rfl⟩:=List.mem_map.1 hu
  obtain⟨_,_,rfl⟩:=List.mem_map.1 hv
  have h1:=congrArg Hl.t e
  have h2:=congrArg Hl.r e
  unfold Vq Z9 at q
  simp only at h1 h2 q
  omega
theorem Zc0{s:List Hq}(h:Y9 s)(ok:∀h∈s,Ok h.W h.q):(Z2b s).Perm (Z09 s) :=
 (List.perm_ext_iff_of_nodup ((Zgs h).imp fun {a b} q e=>by subst e;exact Z49 _ q) (Z8x h ok)).2 fun _=>Zqx ok
theorem Zvl{s:List Hq}(h:Y9 s)(ok:∀h∈s,Ok h.W h.q){l:List Hl}(hl:l.Pairwise hlL)(p:l.Perm (Z09 s)):l=Z2b s :=
 List.Perm.eq_of_pairwise (le:=hlL) (fun x y _ _ h1 h2=>absurd (Zff h1 h2) (Z49 _)) hl (Zgs h) (p.trans (Zc0 h ok).symm)
section
open Go.ChangeShapes Go.WideShapes Go.ChangeAt Go.RowKit
def Zak(h:Int)(b:UInt8):Int:=bits .xor .u32 h (b.toNat:Int)*16777619%4294967296
def fnv(l:List UInt8):Int:=l.foldl Zak 2166136261
theorem Z7k(l:List UInt8)(b:UInt8):fnv (l++[b])=Zak (fnv l) b:=by simp[fnv]
theorem Zyk(w:World)(e:TypeId)(s:ByteArray):Nw w (Lib.bytesWorld w e s) :=
 ⟨rfl,by simp[Lib.bytesWorld,World.freeze],rfl,by rw[Lib.bytesWorld_size];omega,fun k hk=>Lib.bytesWorld_at_old w e s k hk⟩
theorem Zcj(b:UInt8):(b.toNat:Int)%4294967296=b.toNat:=by have:=b.toNat_lt;omega
theorem Zfa(h:Int)(b:UInt8):0≤Zak h b∧Zak h b<4294967296:=by
 unfold Zak
 generalize bits .xor .u32 h (b.toNat:Int)=z
 exact⟨Int.emod_nonneg _ (by decide),Int.emod_lt_of_pos _ (by decide)⟩
theorem Zjr(l:List UInt8):0≤fnv l∧fnv l<4294967296:=by
 rcases List.eq_nil_or_concat l with rfl | ⟨r,b,rfl⟩
 ·decide
 ·rw[List.concat_eq_append,Z7k];exact Zfa _ _
theorem Z9w(l:List UInt8)(k:Nat)(h:k<l.length):l.take (k+1)=l.take k++[l.getD k 0]:=by
 rw[List.take_succ_eq_append_getElem h];simp[List.getD,h]
theorem Ztr(s:ByteArray)(w:World)(hs:s.size≤100000) :
  Calls prog 162 #[.string s] w fun e w'=>e=.returned (.int .u32 (fnv s.data.toList))∧Nw w w':=by
 have hcv:=Lib.run_convert_string_bytes (P:=prog) w 9 124 5 s (u:=.string) underlying9 underlying124 underlying5
 have hB:∀t,t<s.size→(Lib.bytesWorld w 5 s).cell? ⟨w.heap.size,t,none⟩=some (.int .u8 (s.data.toList.getD t 0).toNat):=fun t ht=>Lib.bytesWorld_cell w 5 s t ht
 have hN:=Zyk w 5 s
 have hl:s.data.toList.length=s.size:=by simp
 generalize Lib.bytesWorld w 5 s=W1 at hcv hB hN
 have HL:=hD0 hl
 clear hl
 go_enter func162,ntmps162
 go_wp2
 go_loop [3,9] (fun h i=>∃k:Nat,k≤s.size∧i=.int .i64 k∧h=.int .u32 (fnv (s.data.toList.take k))) (fun _ i=>s.size-(intOf i).toNat)
 case atStart=>exact⟨0,Nat.zero_le _,rfl,rfl⟩
 case round =>
  obtain⟨k,hk,rfl,rfl⟩:=hrel
  by_cases h:k<s.size
  ·have hb:=hB k h
   have e:fnv (s.data.toList.take (k+1))=Zak (fnv (s.data.toList.take k)) (s.data.toList.getD k 0):=by rw[Z9w _ k (by rw[HL.out];exact h),Z7k]
   have E:=hD0 e
   generalize fnv (s.data.toList.take k)=H at *
   generalize s.data.toList.getD k 0=b at *
   clear e hB hcv
   go_wp2
   go_round
   case rel=>exact⟨k+1,by omega,by go_num,by rw[E.out,Zak,Zcj]⟩
   case measure=>simp[intOf];omega
  ·have hk':k=s.size:=by omega
   have ht:s.data.toList.take k=s.data.toList:=by rw[hk',←HL.out];exact List.take_length
   rw[ht]
   clear ht
   go_wp2
   go_ret
   exact⟨rfl,hN⟩
end
end Go.Proofs.YtpffldfpabglbaaGreatDoor
namespace Go.Proofs
open _root_.Go.Proofs.Tryz
open Go.Shelf
def Tryz.lays171_ren:Go.Shelf.Ren:=⟨fun | 171=>204 | 243=>225 | 246=>234 | 283=>246 | 284=>247 | 285=>248 | 286=>249 | 129=>158 | 317=>254 | 318=>255 | 319=>256 | 320=>257 | 337=>261 | 338=>262 | n=>n,fun | 3=>3 | 9=>9 | 2=>2 | 4=>4 | 171=>258 | 0=>0 | 53=>187 | 37=>124 | 5=>5 | 173=>260 | 212=>266 | 51=>149 | 20=>20 | 213=>267 | 46=>144 | 232=>271 | 233=>272 | n=>n,fun | 17=>0 | 18=>1 | 19=>2 | n=>n⟩
theorem Tryz.lays171:Go.Proofs.Lays.n171 prog Tryz.lays171_ren:={
 mixed:=by kernel_rfl
 f129:=func158.trans (congrArg some (by kernel_rfl))
 f171:=func204.trans (congrArg some (by kernel_rfl))
 f243:=func225.trans (congrArg some (by kernel_rfl))
 f246:=func234.trans (congrArg some (by kernel_rfl))
 f283:=func246.trans (congrArg some (by kernel_rfl))
 f284:=func247.trans (congrArg some (by kernel_rfl))
 f285:=func248.trans (congrArg some (by kernel_rfl))
 f286:=func249.trans (congrArg some (by kernel_rfl))
 f317:=func254.trans (congrArg some (by kernel_rfl))
 f318:=func255.trans (congrArg some (by kernel_rfl))
 f319:=func256.trans (congrArg some (by kernel_rfl))
 f320:=func257.trans (congrArg some (by kernel_rfl))
 f337:=func261.trans (congrArg some (by kernel_rfl))
 f338:=func262.trans (congrArg some (by kernel_rfl))
 t0:=underlying0
 a0:=Tryz.isAgg0
 z0:=Tryz.sizeOf0
 v0:=Tryz.zeroValue0
 t2:=underlying2
 a2:=Tryz.isAgg2
 z2:=Tryz.sizeOf2
 v2:=Tryz.zeroValue2
 t3:=underlying3
 a3:=Tryz.isAgg3
 z3:=Tryz.sizeOf3
 v3:=Tryz.zeroValue3
 t4:=underlying4
 a4:=Tryz.isAgg4
 z4:=Tryz.sizeOf4
 v4:=Tryz.zeroValue4
 t5:=underlying5
 a5:=Tryz.isAgg5
 z5:=Tryz.sizeOf5
 v5:=Tryz.zeroValue5
 t9:=underlying9
 a9:=Tryz.isAgg9
 z9:=Tryz.sizeOf9
 v9:=Tryz.zeroValue9
 t20:=underlying20
 a20:=Tryz.isAgg20
 z20:=Tryz.sizeOf20
 v20:=Tryz.zeroValue20
 t37:=underlying124
 a37:=Tryz.isAgg124
 z37:=Tryz.sizeOf124
 v37:=Tryz.zeroValue124
 t46:=underlying144
 a46:=Tryz.isAgg144
 z46:=Tryz.sizeOf144
 v46:=Tryz.zeroValue144
 t51:=underlying149
 a51:=Tryz.isAgg149
 z51:=Tryz.sizeOf149
 v51:=Tryz.zeroValue149
 t53:=underlying187
 a53:=Tryz.isAgg187
 z53:=Tryz.sizeOf187
 v53:=Tryz.zeroValue187
 t171:=underlying258
 a171:=Tryz.isAgg258
 z171:=Tryz.sizeOf258
 v171:=Tryz.zeroValue258
 t173:=underlying260
 a173:=Tryz.isAgg260
 z173:=Tryz.sizeOf260
 v173:=Tryz.zeroValue260
 t212:=underlying266
 a212:=Tryz.isAgg266
 z212:=Tryz.sizeOf266
 v212:=Tryz.zeroValue266
 t213:=underlying267
 a213:=Tryz.isAgg267
 z213:=Tryz.sizeOf267
 t232:=underlying271
 a232:=Tryz.isAgg271
 z232:=Tryz.sizeOf271
 v232:=Tryz.zeroValue271
 t233:=underlying272
 a233:=Tryz.isAgg272
 z233:=Tryz.sizeOf272
 v233:=Tryz.zeroValue272
 g17:=by kernel_rfl
 g18:=by kernel_rfl
 g19:=by kernel_rfl }
open Go.RowKit Go.Sort Go.Lib in
theorem Tryz.strconv_Itoa_small(i:Nat)(hi:i<100)(w:World) :
  Calls prog 204 #[.int .i64 i] w fun e w'=>e=.returned (.string ⟨(Lib.decDigits i).toArray⟩)∧w'=w:=Any.strconv_Itoa_small Tryz.lays171 i hi w
end Go.Proofs
namespace Go.Proofs.YtpffldfpabglbaaGreatDoor
open Go.RowKit _root_.Go.Proofs.Tryz Go.Shelf
section
open Go.ChangeShapes Go.WideShapes Go.ChangeAt Go.RowKit
def dig(t:Int):List UInt8:=Lib.decDigits t.toNat
def Z8j(t r:Int):List UInt8:=if Uk t r=0 then[100,98] else if Uk t r=1 then 116::dig t else if Uk t r=2 then 116::(dig t++(46::114::dig r)) else[63]
def txt(t r:Int):ByteArray:=⟨(Z8j t r).toArray⟩
theorem Z3o(t:Int)(w:World)(h0:0≤t)(h1:t<100) :
  Calls prog 204 #[.int .i64 t] w fun e w'=>e=.returned (.string ⟨(dig t).toArray⟩)∧w=w':=by
 obtain⟨i,rfl⟩:=Int.eq_ofNat_of_zero_le h0
 exact(Tryz.strconv_Itoa_small i (by omega) w).mono fun _ _ ⟨he,hw⟩=>⟨he,hw.symm⟩
theorem cat(a b:List UInt8):(⟨a.toArray⟩:ByteArray)++⟨b.toArray⟩=⟨(a++b).toArray⟩:=by
 apply ByteArray.ext
 rw[ByteArray.data_append]
 simp
theorem Zkf{a b:ByteArray}(h:a=b):Ending.returned (.string a)=.returned (.string b):=by rw[h]
theorem Z08(t:Int)(h0:0≤t)(h1:t<100):(dig t).length≤2:=by
 unfold dig
 by_cases h:t.toNat<10
 ·rw[Lib.decDigits_one h];simp
 ·rw[Lib.decDigits_two h (by omega)];simp
theorem Zty(w:World) :
  Calls prog 163 #[.agg #[.int .i64 (-1),.int .i64 (-1)]] w fun e w'=>e=.returned (.string ⟨#[100,98]⟩)∧Nw w w':=by
 go_enter func163,ntmps163
 go_wp2_with (go_at_call 161;refine(Zd4 _).mono ?_;rintro e w' ⟨rfl,hg⟩)
 go_ret
 exact⟨rfl,((Nw.refl _).alloc _).trans hg⟩
theorem Zq4(t r:Int)(w:World)(h:Uk t r = -1) :
  Calls prog 163 #[.agg #[.int .i64 t,.int .i64 r]] w fun e w'=>e=.returned (.string ⟨#[63]⟩)∧Nw w w':=by
 have H:=hD0 h
 clear h
 go_enter func163,ntmps163
 go_wp2_with (go_at_call 161;refine(Z9f _ _ _ _ H.out).mono ?_;rintro e w' ⟨rfl,hg⟩)
 go_ret
 exact⟨rfl,((Nw.refl _).alloc _).trans hg⟩
theorem Zq6(t:Int)(w:World)(h0:0≤t)(h1:t<100) :
  Calls prog 163 #[.agg #[.int .i64 t,.int .i64 (-1)]] w fun e w'=>e=.returned (.string ⟨(116::dig t).toArray⟩)∧Nw w w':=by
 have hd:=Z08 t h0 h1
 go_enter func163,ntmps163
 go_wp2_with (first | (go_at_call 161;refine(Z9e _ _ h0 h1).mono ?_;rintro e w' ⟨rfl,hg⟩;obtain⟨hc,hf⟩:=hg.rules) | (go_at_call 204;refine(Z3o _ _ h0 h1).mono ?_;rintro e w' ⟨rfl,rfl⟩))
 go_ret
 exact⟨Zkf (by rw[cat];rfl),((Nw.refl _).alloc _).trans hg⟩
theorem Zq5(t r:Int)(w:World)(h0:0≤t)(h1:t<100)(h2:0≤r)(h3:r<100) :
  Calls prog 163 #[.agg #[.int .i64 t,.int .i64 r]] w fun e w'=>e=.returned (.string ⟨(116::(dig t++(46::114::dig r))).toArray⟩)∧Nw w w':=by
 have hd:=Z08 t h0 h1
 have hd2:=Z08 r h2 h3
 have g1:¬9223372036854775807<1+(dig t).length:=by omega
 have g2:¬9223372036854775807<1+(dig t).length+2:=by omega
 have g3:¬9223372036854775807<1+(dig t).length+2+(dig r).length:=by omega
 clear hd hd2
 go_enter func163,ntmps163
 go_wp2_with (go_at_call 161;refine(Z9d _ _ _ h0 h1 h2 h3).mono ?_;rintro e w' ⟨rfl,hg⟩;obtain⟨hc,hf⟩:=hg.rules)
 have hS:=Zn hg (Z78 w t r 34)
 clear hc hf
 go_region_held3 (fun w'=>w'.cell? ⟨w.heap.size,0,none⟩=some (.int .i64 t)∧w'.cell? ⟨w.heap.size,1,none⟩=some (.int .i64 r)∧(w.heap.size<w'.heap.size∧Nw w w')) (first | assumption | exact Zn (Nw.refl _).drew1 hS)
  (first | (go_at_call_of 204 (Value.int .i64 t);refine(Z3o _ _ h0 h1).mono ?_;rintro e w' ⟨rfl,rfl⟩) | (go_at_call_of 204 (Value.int .i64 r);refine(Z3o _ _ h2 h3).mono ?_;rintro e w' ⟨rfl,rfl⟩))
 all_goals
  rename_i hS2
  go_wp2
  go_ret
  exact⟨Zkf (by rw[cat [116] (dig t)];rw[cat _ [46,114]];rw[cat];simp),hS2.2.2.2⟩
theorem Zqg:txt (-1) (-1)=⟨#[100,98]⟩:=rfl
theorem Zis(t:Int)(h0:0≤t)(h1:t<100):txt t (-1)=⟨(116::dig t).toArray⟩:=by unfold txt Z8j;rw[Z4g t h0 h1];rfl
theorem Zir(t r:Int)(h0:0≤t)(h1:t<100)(h2:0≤r)(h3:r<100):txt t r=⟨(116::(dig t++(46::114::dig r))).toArray⟩:=by unfold txt Z8j;rw[Z4f t r h0 h1 h2 h3];rfl
theorem Ziq(t r:Int)(h:Uk t r = -1):txt t r=⟨#[63]⟩:=by unfold txt Z8j;rw[h];rfl
theorem Zq3(t r:Int)(w:World) :
  Calls prog 163 #[.agg #[.int .i64 t,.int .i64 r]] w fun e w'=>e=.returned (.string (txt t r))∧Nw w w':=by
 rcases Zhu t r with⟨rfl,rfl⟩ | ⟨h0,h1,rfl⟩ | ⟨h0,h1,h2,h3⟩ | h
 ·rw[Zqg];exact Zty w
 ·rw[Zis t h0 h1];exact Zq6 t w h0 h1
 ·rw[Zir t r h0 h1 h2 h3];exact Zq5 t r w h0 h1 h2 h3
 ·rw[Ziq t r h];exact Zq4 t r w h
end
section
open Go.ChangeShapes Go.WideShapes Go.ChangeAt Go.RowKit
def Ztx:ByteArray:=⟨#[48,49,50,51,52,53,54,55,56,57]⟩
theorem Zbn:∀i<10,Ztx.extract i (i+1)=⟨([UInt8.ofNat (48+i)]:List UInt8).toArray⟩:=by decide +kernel
theorem Z0k(t:Int)(w:World)(h0:0≤t)(h1:t<100) :
  Calls prog 205 #[.int .i64 t] w fun e w'=>e=.returned (.string ⟨(dig t).toArray⟩)∧Nw w w':=by
 obtain⟨n,rfl⟩:=Int.eq_ofNat_of_zero_le h0
 have h:n<100:=by omega
 by_cases h2:n<10
 ·have e:Ztx.extract n (n+1)=⟨(dig n).toArray⟩:=by
   rw[Zbn n h2];unfold dig;rw[show((n:Int)).toNat=n by omega,Lib.decDigits_one h2]
  have E:=hD0 e
  clear h0 h1 e
  go_enter func205,ntmps205
  go_wp2
  go_ret
  exact⟨Zkf E.out,Nw.refl _⟩
 ·have e:Ztx.extract (n/10) (n/10+1)++Ztx.extract (n%10) (n%10+1)=⟨(dig n).toArray⟩:=by
   rw[Zbn (n/10) (by omega),Zbn (n%10) (by omega),cat]
   unfold dig;rw[show((n:Int)).toNat=n by omega,Lib.decDigits_two h2 h];rfl
  have E:=hD0 e
  have h3:10≤n:=by omega
  clear h0 h1 h2 e
  go_enter func205,ntmps205
  go_wp2
  go_quiet (fail)
  go_wp2
  go_ret
  exact⟨Zkf E.out,(Nw.refl _).drewN _⟩
theorem Zg9(w:World) :
  Calls prog 165 #[.agg #[.int .i64 (-1),.int .i64 (-1)]] w fun e w'=>e=.returned (.string ⟨#[100,98]⟩)∧Nw w w':=by
 go_enter func165,ntmps165
 go_wp2_with (go_at_call 92;refine(Z61 _).mono ?_;rintro e w' ⟨rfl,hg⟩)
 go_ret
 exact⟨rfl,((Nw.refl _).alloc _).trans hg⟩
theorem Zdr(t r:Int)(w:World)(h:Uk t r = -1) :
  Calls prog 165 #[.agg #[.int .i64 t,.int .i64 r]] w fun e w'=>e=.returned (.string ⟨#[63]⟩)∧Nw w w':=by
 have H:=hD0 h
 clear h
 go_enter func165,ntmps165
 go_wp2_with (go_at_call 92;refine(Z4q _ _ _ _ H.out).mono ?_;rintro e w' ⟨rfl,hg⟩)
 go_ret
 exact⟨rfl,((Nw.refl _).alloc _).trans hg⟩
theorem Zdt(t:Int)(w:World)(h0:0≤t)(h1:t<100) :
  Calls prog 165 #[.agg #[.int .i64 t,.int .i64 (-1)]] w fun e w'=>e=.returned (.string ⟨(116::dig t).toArray⟩)∧Nw w w':=by
 have hd:=Z08 t h0 h1
 go_enter func165,ntmps165
 go_wp2_with (first | (go_at_call 92;refine(Z4p _ _ h0 h1).mono ?_;rintro e w' ⟨rfl,hg⟩;obtain⟨hc,hf⟩:=hg.rules) | (go_at_call 205;refine(Z0k _ _ h0 h1).mono ?_;rintro e w3 ⟨rfl,hg3⟩))
 go_ret
 exact⟨Zkf (by rw[cat];rfl),(((Nw.refl _).alloc _).trans hg).trans hg3⟩
theorem Zds(t r:Int)(w:World)(h0:0≤t)(h1:t<100)(h2:0≤r)(h3:r<100) :
  Calls prog 165 #[.agg #[.int .i64 t,.int .i64 r]] w fun e w'=>e=.returned (.string ⟨(116::(dig t++(46::114::dig r))).toArray⟩)∧Nw w w':=by
 have hd:=Z08 t h0 h1
 have hd2:=Z08 r h2 h3
 have g1:¬9223372036854775807<1+(dig t).length:=by omega
 have g2:¬9223372036854775807<1+(dig t).length+2:=by omega
 have g3:¬9223372036854775807<1+(dig t).length+2+(dig r).length:=by omega
 clear hd hd2
 go_enter func165,ntmps165
 go_wp2_with (go_at_call 92;refine(Z4o _ _ _ h0 h1 h2 h3).mono ?_;rintro e w' ⟨rfl,hg⟩)
 have hS:=Zn hg (Z78 w t r 34)
 refine Zf (fun w'=>w'.cell? ⟨w.heap.size,0,none⟩=some (.int .i64 t)∧w'.cell? ⟨w.heap.size,1,none⟩=some (.int .i64 r)∧(w.heap.size<w'.heap.size∧Nw w w')) (by kernel_rfl) (by kernel_rfl) (Zn (Nw.refl _).drew1 hS) ?_
 have c0:∀d:Wd (fun w'=>w'.cell? ⟨w.heap.size,0,none⟩=some (.int .i64 t)∧w'.cell? ⟨w.heap.size,1,none⟩=some (.int .i64 r)∧(w.heap.size<w'.heap.size∧Nw w w')),d.w.cell? ⟨w.heap.size,0,none⟩=some (.int .i64 t):=fun d=>d.h.1
 have c1:∀d:Wd (fun w'=>w'.cell? ⟨w.heap.size,0,none⟩=some (.int .i64 t)∧w'.cell? ⟨w.heap.size,1,none⟩=some (.int .i64 r)∧(w.heap.size<w'.heap.size∧Nw w w')),d.w.cell? ⟨w.heap.size,1,none⟩=some (.int .i64 r):=fun d=>d.h.2.1
 have hne:Nonempty (Wd (fun w'=>w'.cell? ⟨w.heap.size,0,none⟩=some (.int .i64 t)∧w'.cell? ⟨w.heap.size,1,none⟩=some (.int .i64 r)∧(w.heap.size<w'.heap.size∧Nw w w'))):=⟨⟨_,hS⟩⟩
 repeat (first | go_big_quiet_step ((first | exact Zd (fun _ _ h g=>Zn g h) (Z0k _ _ h0 h1) | exact Zd (fun _ _ h g=>Zn g h) (Z0k _ _ h2 h3))) | quiet_step ((first | exact Zd (fun _ _ h g=>Zn g h) (Z0k _ _ h0 h1) | exact Zd (fun _ _ h g=>Zn g h) (Z0k _ _ h2 h3))))
 refine wpQuiet_nil ?_
 intro d
 have h5:=d.h.2.2.2
 clear c0 c1 hne hS
 revert h5
 generalize d.w=w5
 intro h5
 go_wp2
 go_ret
 exact⟨Zkf (by rw[cat [116] (dig t)];rw[cat _ [46,114]];rw[cat];simp),h5⟩
theorem Zdq(t r:Int)(w:World) :
  Calls prog 165 #[.agg #[.int .i64 t,.int .i64 r]] w fun e w'=>e=.returned (.string (txt t r))∧Nw w w':=by
 rcases Zhu t r with⟨rfl,rfl⟩ | ⟨h0,h1,rfl⟩ | ⟨h0,h1,h2,h3⟩ | h
 ·rw[Zqg];exact Zg9 w
 ·rw[Zis t h0 h1];exact Zdt t w h0 h1
 ·rw[Zir t r h0 h1 h2 h3];exact Zds t r w h0 h1 h2 h3
 ·rw[Ziq t r h];exact Zdr t r w h
end
section
open Go.ChangeShapes Go.WideShapes Go.ChangeAt Go.RowKit Go.Joins Go.Deep
section
variable {H:Type} {enc:TypeId × Value→H}
theorem handed_and_shaped{a:Assume}{C:Checked}{os:Os}{f:FuncId}{fn:Func}{s:ChangeSpec}{conds:List PathCond}{apart fresh handsOn again:Bool}{X:World→Array Value→Prop}
  (hX:∀(w w':World) (args:Array Value),w.heap=w'.heap→X w args→X w' args)
  (own:ownKnob C.prog.godebug=none) (started:os.Started) (noInit:C.prog.inits.idxOf? f=none) (hfn:C.prog.funcs[f]?=some fn)
  (witness:∃(w:World) (tape:Tape) (i:Input),w.os=os∧(w.forCall tape i).Shaped C.prog∧i.vars=[]∧Input.okWide C.prog (w.forCall tape i) .any w.heap.size f i ∧
   ((s.pre enc C.prog fn conds apart (w.forCall tape i).memory i.args∧X (w.forCall tape i).memory i.args)∧sizedMet enc C.prog fn (OpenSpec.ofChange s) apart (w.forCall tape i).memory i.args)∧a.holds C.prog (lone (Frame.enter C.prog f i.args .normal) [] (w.forCall tape i)))
  (contract:∀(W:World) (base:Nat) (args:Array Value) (ds gs:List (DataW H)) (before:List MemPlace),
   (∀(j:Nat) t v,fn.params[j]?=some t→args[j]?=some v→Value.okWide C.prog W .any base t v) →
   DataW.Whole enc C.prog fn.params.toList s.vars apart W args.toList ds gs before →
   (DataW.weightsEach C.prog (fn.params.toList++s.plain.varTypes C.prog) (ds++gs)).all (·≤reachBytes)=true→X W args→W.ShapedOpen C.prog →
   Calls C.prog f args W fun e W'=>∃v,e=.returned v∧s.post enc C.prog fn apart fresh handsOn again W args v W') :
  ReturnsInHanded a C os f .any (fun w args=>(s.pre enc C.prog fn conds apart w args∧X w args)∧sizedMet enc C.prog fn (OpenSpec.ofChange s) apart w args) (s.post enc C.prog fn apart fresh handsOn again):=by
 refine returnsInHanded_of_calls own started noInit witness ?_
 intro w tape i _ hsh _ hok hpre _
 obtain⟨_,_,_,fn',hfn',_,_,_,_,hval⟩:=hok
 have e:fn'=fn:=Option.some.inj (hfn'.symm.trans hfn)
 subst e
 obtain⟨⟨⟨ds,gs,before,hw,_⟩,hx⟩,hz⟩:=hpre
 have hw':=DataW.Whole.of_heap (w':=w.forCall tape i) (by rfl) hw
 refine(contract (w.forCall tape i) w.heap.size i.args ds gs before hval hw' (hz.weights hw) (hX _ _ _ (by rfl) hx) hsh).mono fun e W' ⟨v,he,hp⟩=>?_
 subst he
 exact ChangeSpec.post_blind hp
end
section
variable {H:Type} {enc:TypeId × Value→H} {w:World} {base:Nat} {spare:Nat→Bool} {held:Bool}
end
theorem own:ownKnob prog.godebug=none:=by kernel_rfl
end
end Go.Proofs.YtpffldfpabglbaaGreatDoor
