/- Texts merged: WbM, WbS, WcA, WcG, WbO, TbM, SortE, Rr, Rt, Ru -/
import Derived.Test.YtpmlaphjlghpmaaWaitsNamesB1
import Derived.Shelf.Abstract
import Derived.Test.YtpmlaphjlghpmaaChecked
import Derived.OrdersHeld
set_option linter.unusedVariables false
set_option maxRecDepth 100000
set_option maxHeartbeats 16000000
namespace Go.Proofs.Ytpmlaphjlghpmaa
open Go.RowKit _root_.Go.Proofs.Try
structure Kn where
 f:Nat
 lp:Bool
structure Gb where
 nx:Int→Option Nat
 pl:Int→Option Int
 path:List Int
 op:List Int
 kn:List Kn
 fd:Bool
 ls:Int
def Zk{α:Type}(f:Int→Option α)(k:Int)(v:α):Int→Option α:=fun x=>if x=k then some v else f x
theorem Zz{α:Type}(f:Int→Option α)(k:Int)(v:α):Zk f k v k=some v:=if_pos rfl
theorem Zy{α:Type}(f:Int→Option α){k x:Int}(v:α)(h:x≠k):Zk f k v x=f x:=if_neg h
def Vn(E:List (Int × Int))(v:Int):Nat:=(E.takeWhile fun e=>decide (e.1<v)).length
theorem Z63{α:Type}(p:α→Bool):∀(l:List α),(l.takeWhile p).length≤l.length
 | []=>Nat.le_refl _
 | a::l=>by
  rw[List.takeWhile_cons]
  split
  ·simpa using Z63 p l
  ·simp
theorem Z15(E:List (Int × Int))(v:Int):Vn E v≤E.length:=Z63 _ E
theorem Vx:∀ {E:List (Int × Int)} {v:Int} {i:Nat} {e:Int × Int},i<Vn E v→E[i]?=some e→e.1<v
 | [],v,i,e,_,h=>by simp at h
 | a::E,v,i,e,hi,h=>by
  unfold Vn at hi
  rw[List.takeWhile_cons] at hi
  split at hi
  ·rename_i q
   cases i with
   | zero=>simp at h;subst h;simpa using q
   | succ i=>exact Vx (E:=E) (by unfold Vn;simpa using hi) (by simpa using h)
  ·simp at hi
theorem Z2z:∀ {E:List (Int × Int)} (_:Zh E) {v:Int} {i:Nat} {e:Int × Int},Vn E v≤i→E[i]?=some e→v≤e.1
 | [],_,v,i,e,_,h=>by simp at h
 | a::E,hs,v,i,e,hi,h=>by
  have hs':=List.pairwise_cons.1 hs
  unfold Vn at hi
  rw[List.takeWhile_cons] at hi
  split at hi
  ·rename_i q
   cases i with
   | zero=>simp at hi
   | succ i=>exact Z2z (E:=E) hs'.2 (by unfold Vn;simpa using hi) (by simpa using h)
  ·rename_i q
   have q':v≤a.1:=by simpa using q
   cases i with
   | zero=>simp at h;subst h;exact q'
   | succ i =>
    have:e∈E:=List.mem_of_getElem? (by simpa using h)
    have:=hs'.1 e this
    unfold elt at this
    omega
theorem Z8h{E:List (Int × Int)}(hs:Zh E){v:Int}{i:Nat}{e:Int × Int}(h:E[i]?=some e)(he:e.1=v):Vn E v≤i :=
 Nat.le_of_not_lt fun q=>by have:=Vx q h;omega
def ExG(E:List (Int × Int))(s:Gb)(v w:Int):Prop:=∃i m,E[i]?=some (v,w)∧s.nx v=some m∧i<m
structure GI(E:List (Int × Int))(s:Gb)(Y:Int→Int→Prop):Prop where
 inc:s.kn.Pairwise fun a b=>a.f<b.f
 bnd:∀k∈s.kn,k.f<s.op.length
 zer:s.op≠[]→∃k∈s.kn,k.f=0
 nd:s.op.Nodup
 at':∀v (i:Nat),s.pl v=some (i:Int)↔s.op[i]?=some v
 cl:∀v p,s.pl v=some p→p = -1∨0≤p
 nxn:∀v,s.nx v=none↔s.pl v=none
 lo:∀v m,s.nx v=some m→Vn E v≤m∧m≤E.length
 fw:∀(i j:Nat) a b,i<j→s.op[i]?=some a→s.op[j]?=some b→Ya E a b
 bk:∀(i j:Nat) a b,i<j→s.op[i]?=some a→s.op[j]?=some b→(∀k∈s.kn,¬(i<k.f∧k.f≤j))→Ya E b a
 lp:∀k∈s.kn,k.lp=true→∀a,s.op[k.f]?=some a→Ya E a a
 nl:∀k∈s.kn,k.lp=false→k.f+1=s.op.length∨∃k'∈s.kn,k'.f=k.f+1
 vis:∀v w,ExG E s v w→Y v w→s.pl w≠none
 cc:∀v w,ExG E s v w→s.pl v=some (-1)→s.pl w=some (-1)
 oo:∀v w (i j:Nat),ExG E s v w→Y v w→s.op[i]?=some v→s.op[j]?=some w→j≤i→∃k∈s.kn,k.lp=true∧k.f≤j∧∀k'∈s.kn,¬(k.f<k'.f∧k'.f≤i)
 sub:s.path.Sublist s.op
 fst:∀k∈s.kn,∃a,s.op[k.f]?=some a∧a∈s.path
 ful:∀v,s.pl v≠none→v∉s.path→∀w,(v,w)∈E→ExG E s v w
 res:s.fd=true→Ya E s.ls s.ls
 all:∀v,s.pl v=some (-1)→Ya E v v→s.fd=true∧s.ls≤v
abbrev U7(E:List (Int × Int))(s:Gb):Prop:=GI E s fun _ _=>True
def Z02:Gb:=⟨fun _=>none,fun _=>none,[],[],[],false,0⟩
theorem Z4h(E:List (Int × Int)):U7 E Z02:=by
 refine⟨List.Pairwise.nil,?_,?_,List.Pairwise.nil,?_,?_,?_,?_,?_,?_,?_,?_,?_,?_,?_,List.Sublist.refl _,?_,?_,?_,?_⟩<;>simp[Z02,ExG]
theorem Yu{l:List Int}(h:l.Nodup){i j:Nat}{a:Int}(hi:l[i]?=some a)(hj:l[j]?=some a):i=j :=
 (List.getElem?_inj (List.getElem?_eq_some_iff.1 hi).1 h).1 (hi.trans hj.symm)
theorem Z5z{p A B:List Int}{t:Int}(h:(p++[t]).Sublist (A++t::B))(hA:t∉A)(hB:t∉B):p.Sublist A:=by
 obtain⟨l1,l2,e,h1,h2⟩:=List.sublist_append_iff.1 h
 rcases List.eq_nil_or_concat l2 with rfl | ⟨l2',y,rfl⟩
 ·rw[List.append_nil] at e
  subst e
  exact absurd (h1.subset (by simp)) hA
 ·rw[List.concat_eq_append,←List.append_assoc] at e
  obtain⟨e1,e2⟩:=List.append_inj' e rfl
  obtain rfl:t=y:=by simpa using e2
  subst e1
  have h2':l2'=[]:=by
   cases l2' with
   | nil=>rfl
   | cons z r =>
    have h3:(z::(r++[t])).Sublist (t::B):=by simpa using h2
    have:(r++[t]).Sublist B:=by
     cases h3 with
     | cons _ h=>exact(List.sublist_cons_self _ _).trans h
     | cons_cons _ h=>exact h
    exact absurd (this.subset (by simp)) hB
  subst h2'
  simpa using h1
section
variable {E:List (Int × Int)} {s:Gb} {Y:Int→Int→Prop} {p:List Int} {t:Int}
theorem GI.split(g:GI E s Y)(hp:s.path=p++[t]):∃A B,s.op=A++t::B∧t∉A∧t∉B∧p.Sublist A:=by
 have hs:=g.sub
 rw[hp] at hs
 have ht:t∈s.op:=hs.subset (by simp)
 obtain⟨A,B,e⟩:=List.append_of_mem ht
 have hn:=g.nd
 rw[e] at hn hs
 have hn2:=List.nodup_append.1 hn
 have hA:t∉A:=fun q=>hn2.2.2 t q t (by simp) rfl
 have hB:t∉B:=(List.nodup_cons.1 hn2.2.1).1
 exact⟨A,B,e,hA,hB,Z5z hs hA hB⟩
theorem GI.last(g:GI E s Y)(hp:s.path=p++[t]){i j:Nat}{x:Int}(hx:x∈s.path)(hi:s.op[i]?=some t)(hj:s.op[j]?=some x):j≤i:=by
 obtain⟨A,B,e,hA,hB,hs⟩:=g.split hp
 have h1:i=A.length:=Yu g.nd hi (by rw[e];simp)
 rw[hp] at hx
 rcases List.mem_append.1 hx with q | q
 ·obtain⟨k,hk,ek⟩:=List.getElem_of_mem (hs.subset q)
  have:j=k:=Yu g.nd hj (by rw[e,List.getElem?_append_left hk,List.getElem?_eq_getElem hk,ek])
  omega
 ·obtain rfl:x=t:=by simpa using q
  exact Nat.le_of_eq (Yu g.nd hj hi)
theorem GI.tpos(g:GI E s Y)(hp:s.path=p++[t]):∃i:Nat,s.op[i]?=some t∧s.pl t=some (i:Int)∧∀k∈s.kn,k.f≤i:=by
 obtain⟨A,B,e,hA,hB,hs⟩:=g.split hp
 have h1:s.op[A.length]?=some t:=by rw[e];simp
 refine⟨A.length,h1,(g.at' t _).2 h1,fun k hk=>?_⟩
 obtain⟨a,ha,hm⟩:=g.fst k hk
 exact g.last hp hm h1 ha
theorem GI.toEnd(g:GI E s Y)(hp:s.path=p++[t]){i:Nat}{a:Int}(hi:s.op[i]?=some a):a=t∨Ya E a t:=by
 obtain⟨it,h1,_,h3⟩:=g.tpos hp
 rcases Nat.lt_trichotomy i it with q | q | q
 ·exact .inr (g.fw i it a t q hi h1)
 ·subst q
  exact .inl (Option.some.inj (hi.symm.trans h1))
 ·exact .inr (g.bk it i t a q h1 hi fun k hk h=>by have:=h3 k hk;omega)
def Zv(s:Gb)(t:Int)(i:Nat):Gb:={ s with nx:=Zk s.nx t (i+1) }
theorem Z2q{i:Nat}{u:Int}(hn:s.nx t=some i)(he:E[i]?=some (t,u))(hs:Zh E){v w:Int}(h:ExG E (Zv s t i) v w):ExG E s v w∨(v=t∧w=u):=by
 obtain⟨j,m,h1,h2,h3⟩:=h
 by_cases q:v=t
 ·subst q
  have:m=i+1:=by simpa [Zv,Zk] using h2.symm
  subst this
  by_cases r:j=i
  ·subst r
   rw[he] at h1
   injection h1 with h1
   injection h1 with _ h1
   exact .inr ⟨rfl,h1.symm⟩
  ·exact .inl ⟨j,i,h1,hn,by omega⟩
 ·exact .inl ⟨j,m,h1,by simpa [Zv,Zk,q] using h2,h3⟩
theorem Z81{i:Nat}(hn:s.nx t=some i){v w:Int}(h:ExG E s v w):ExG E (Zv s t i) v w:=by
 obtain⟨j,m,h1,h2,h3⟩:=h
 by_cases q:v=t
 ·subst q
  have:m=i:=Option.some.inj (h2.symm.trans hn)
  subst this
  exact⟨j,m+1,h1,by simp[Zv,Zk],by omega⟩
 ·exact⟨j,m,h1,by simpa [Zv,Zk,q] using h2,h3⟩
theorem GI.inc1(g:U7 E s)(hs:Zh E){i:Nat}{u:Int}(hn:s.nx t=some i)(he:E[i]?=some (t,u))(ht:s.pl t≠some (-1)):GI E (Zv s t i) fun v w=>¬(v=t∧w=u):=by
 have hl:=(List.getElem?_eq_some_iff.1 he).1
 refine⟨g.inc,g.bnd,g.zer,g.nd,g.at',g.cl,fun v=>?_,fun v m hv=>?_,g.fw,g.bk,g.lp,g.nl,fun v w h y=>?_,fun v w h y=>?_,fun v w a b h y=>?_,g.sub,g.fst,fun v h1 h2 w h3=>Z81 hn (g.ful v h1 h2 w h3),g.res,g.all⟩
 ·show Zk s.nx t (i+1) v=none↔s.pl v=none
  rw[←g.nxn v]
  by_cases q:v=t
  ·subst q;simp[Zk,hn]
  ·simp[Zk,q]
 ·by_cases q:v=t
  ·subst q
   have:m=i+1:=by simpa [Zv,Zk] using hv.symm
   subst this
   exact⟨Nat.le_succ_of_le (g.lo v i hn).1,hl⟩
  ·exact g.lo v m (by simpa [Zv,Zk,q] using hv)
 ·exact g.vis v w ((Z2q hn he hs h).resolve_right y) trivial
 ·exact g.cc v w ((Z2q hn he hs h).resolve_right fun k=>ht (k.1▸y)) y
 ·exact g.oo v w a b ((Z2q hn he hs h).resolve_right y) trivial
def Zr(E:List (Int × Int))(s:Gb)(u:Int):Gb:={ s with nx:=Zk s.nx u (Vn E u),pl:=Zk s.pl u (s.op.length:Int),path:=s.path++[u],op:=s.op++[u],kn:=s.kn++[⟨s.op.length,false⟩] }
theorem Vb{l:List Int}{u a:Int}{i:Nat}(h:(l++[u])[i]?=some a):l[i]?=some a∨(i=l.length∧a=u):=by
 by_cases q:i<l.length
 ·rw[List.getElem?_append_left q] at h
  exact .inl h
 ·have hl:=(List.getElem?_eq_some_iff.1 h).1
  simp only[List.length_append,List.length_singleton] at hl
  have e:i=l.length:=by omega
  subst e
  simp at h
  exact .inr ⟨rfl,h.symm⟩
theorem Z7e{l:List Int}{u a:Int}{i:Nat}(h:l[i]?=some a):(l++[u])[i]?=some a:=by
 rw[List.getElem?_append_left (List.getElem?_eq_some_iff.1 h).1]
 exact h
theorem Z11{u:Int}(hs:Zh E)(hu:s.nx u=none){v w:Int}:ExG E (Zr E s u) v w↔ExG E s v w:=by
 constructor
 ·rintro⟨j,m,h1,h2,h3⟩
  by_cases q:v=u
  ·subst q
   have:m=Vn E v:=by simpa [Zr,Zk] using h2.symm
   subst this
   have:=Vx h3 h1
   simp at this
  ·exact⟨j,m,h1,by simpa [Zr,Zk,q] using h2,h3⟩
 ·rintro⟨j,m,h1,h2,h3⟩
  have q:v≠u:=fun e=>by subst e;rw[hu] at h2;cases h2
  exact⟨j,m,h1,by simpa [Zr,Zk,q] using h2,h3⟩
theorem GI.new(g:GI E s Y)(hs:Zh E){u:Int}(hu:s.pl u=none)(hy:∀v w,¬Y v w→w=u∧∃p,s.path=p++[v])(hr:∀(i:Nat) a,s.op[i]?=some a→Ya E a u):U7 E (Zr E s u):=by
 have hun:s.nx u=none:=(g.nxn u).2 hu
 have huo:u∉s.op:=fun q=>by
  obtain⟨i,hi,e⟩:=List.getElem_of_mem q
  have:=(g.at' u i).2 (by rw[List.getElem?_eq_getElem hi,e])
  rw[hu] at this;cases this
 have hlt:∀k∈s.kn,k.f<s.op.length:=g.bnd
 have hmem:∀k,k∈s.kn++[(⟨s.op.length,false⟩:Kn)]↔k∈s.kn∨k=⟨s.op.length,false⟩:=fun k=>by simp
 have hpl:∀v,v≠u→(Zr E s u).pl v=s.pl v:=fun v q=>Zy _ _ q
 refine⟨?_,?_,?_,?_,?_,?_,?_,?_,?_,?_,?_,?_,?_,?_,?_,?_,?_,?_,g.res,?_⟩
 ·refine List.pairwise_append.2 ⟨g.inc,by simp,fun a ha b hb=>?_⟩
  rw[List.mem_singleton.1 hb]
  exact hlt a ha
 ·intro k hk
  show k.f<(s.op++[u]).length
  rw[List.length_append,List.length_singleton]
  rcases(hmem k).1 hk with q | rfl
  ·have:=hlt k q;omega
  ·exact Nat.lt_succ_self _
 ·intro _
  by_cases q:s.op=[]
  ·exact⟨⟨s.op.length,false⟩,(hmem _).2 (.inr rfl),by rw[q];rfl⟩
  ·obtain⟨k,hk,e⟩:=g.zer q
   exact⟨k,(hmem _).2 (.inl hk),e⟩
 ·exact List.nodup_append.2 ⟨g.nd,by simp,fun a ha b hb e=>by rw[List.mem_singleton.1 hb] at e;subst e;exact huo ha⟩
 ·intro v i
  show Zk s.pl u _ v=_↔(s.op++[u])[i]?=some v
  by_cases q:v=u
  ·subst q
   rw[Zz]
   constructor
   ·intro h
    have:i=s.op.length:=by injection h with h;omega
    subst this
    simp
   ·intro h
    rcases Vb h with q | ⟨rfl,_⟩
    ·exact absurd (List.mem_of_getElem? q) huo
    ·rfl
  ·rw[Zy _ _ q,g.at' v i]
   exact⟨Z7e,fun h=>(Vb h).resolve_right fun k=>q k.2⟩
 ·intro v p h
  by_cases q:v=u
  ·subst q
   have:p=(s.op.length:Int):=by simpa [Zr,Zk] using h.symm
   omega
  ·exact g.cl v p ((hpl v q).symm.trans h)
 ·intro v
  by_cases q:v=u
  ·subst q;simp[Zr,Zk]
  ·simpa [Zr,Zk,q] using g.nxn v
 ·intro v m h
  by_cases q:v=u
  ·subst q
   have:m=Vn E v:=by simpa [Zr,Zk] using h.symm
   subst this
   exact⟨Nat.le_refl _,Z15 _ _⟩
  ·exact g.lo v m (by simpa [Zr,Zk,q] using h)
 ·intro i j a b hij ha hb
  rcases Vb ha with ha' | ⟨rfl,rfl⟩
  ·rcases Vb hb with hb' | ⟨rfl,rfl⟩
   ·exact g.fw i j a b hij ha' hb'
   ·exact hr i a ha'
  ·have:=(List.getElem?_eq_some_iff.1 hb).1
   simp[Zr] at this
   omega
 ·intro i j a b hij ha hb hk
  rcases Vb ha with ha' | ⟨rfl,rfl⟩
  ·rcases Vb hb with hb' | ⟨rfl,rfl⟩
   ·exact g.bk i j a b hij ha' hb' fun k h=>hk k ((hmem k).2 (.inl h))
   ·exact absurd ⟨hij,Nat.le_refl _⟩ (hk ⟨s.op.length,false⟩ ((hmem _).2 (.inr rfl)))
  ·have:=(List.getElem?_eq_some_iff.1 hb).1
   simp[Zr] at this
   omega
 ·intro k hk hl a ha
  rcases(hmem k).1 hk with q | rfl
  ·rcases Vb ha with ha' | ⟨e,_⟩
   ·exact g.lp k q hl a ha'
   ·have:=hlt k q;omega
  ·cases hl
 ·intro k hk hl
  rcases(hmem k).1 hk with q | rfl
  ·rcases g.nl k q hl with h | ⟨k',h1,h2⟩
   ·exact .inr ⟨⟨s.op.length,false⟩,(hmem _).2 (.inr rfl),h.symm⟩
   ·exact .inr ⟨k',(hmem _).2 (.inl h1),h2⟩
  ·exact .inl (by simp[Zr])
 ·intro v w h _
  by_cases q:w=u
  ·subst q;simp[Zr,Zk]
  ·rw[hpl w q]
   have h':=(Z11 hs hun).1 h
   by_cases y:Y v w
   ·exact g.vis v w h' y
   ·exact absurd (hy v w y).1 q
 ·intro v w h hv
  have h':=(Z11 hs hun).1 h
  by_cases q:v=u
  ·subst q
   have:((s.op.length:Nat):Int) = -1:=Option.some.inj ((Zz s.pl v _).symm.trans hv)
   omega
  ·have hw:=g.cc v w h' ((hpl v q).symm.trans hv)
   have q2:w≠u:=fun e=>by rw[e,hu] at hw;cases hw
   rw[hpl w q2];exact hw
 ·intro v w i j h _ hi hj hji
  have h':=(Z11 hs hun).1 h
  have hv:v≠u:=fun e=>by
   obtain⟨_,m,_,h2,_⟩:=h'
   rw[e,hun] at h2;cases h2
  have hi':=(Vb hi).resolve_right fun k=>hv k.2
  have hil:=(List.getElem?_eq_some_iff.1 hi').1
  have hj':s.op[j]?=some w:=(Vb hj).resolve_right fun k=>by omega
  by_cases y:Y v w
  ·obtain⟨k,k1,k2,k3,k4⟩:=g.oo v w i j h' y hi' hj' hji
   refine⟨k,(hmem _).2 (.inl k1),k2,k3,fun k' h'=>?_⟩
   rcases(hmem k').1 h' with q | rfl
   ·exact k4 k' q
   ·show ¬(_∧s.op.length≤i)
    omega
  ·have hw:=(hy v w y).1
   subst hw
   exact absurd (List.mem_of_getElem? hj') huo
 ·exact List.Sublist.append g.sub (List.Sublist.refl _)
 ·intro k hk
  rcases(hmem k).1 hk with q | rfl
  ·obtain⟨a,h1,h2⟩:=g.fst k q
   exact⟨a,Z7e h1,List.mem_append_left _ h2⟩
  ·exact⟨u,by simp[Zr],by simp[Zr]⟩
 ·intro v h1 h2 w h3
  have q:v≠u:=fun e=>h2 (by rw[e];simp[Zr])
  exact(Z11 hs hun).2 (g.ful v (by rwa [←hpl v q]) (fun k=>h2 (List.mem_append_left _ k)) w h3)
 ·intro v h1 h2
  have q:v≠u:=fun e=>by
   rw[e] at h1
   have:((s.op.length:Nat):Int) = -1:=Option.some.inj ((Zz s.pl u _).symm.trans h1)
   omega
  exact g.all v ((hpl v q).symm.trans h1) h2
theorem GI.shut(g:GI E s Y){u:Int}(hu:s.pl u=some (-1))(hy:∀v w,¬Y v w→w=u):U7 E s:=by
 have hno:∀(j:Nat),s.op[j]?≠some u:=fun j h=>by
  have:=(g.at' u j).2 h
  rw[hu] at this
  injection this with this
  omega
 refine⟨g.inc,g.bnd,g.zer,g.nd,g.at',g.cl,g.nxn,g.lo,g.fw,g.bk,g.lp,g.nl,fun v w h _=>?_,g.cc,fun v w i j h _ hi hj hji=>?_,g.sub,g.fst,g.ful,g.res,g.all⟩
 ·by_cases y:Y v w
  ·exact g.vis v w h y
  ·rw[hy v w y,hu];simp
 ·by_cases y:Y v w
  ·exact g.oo v w i j h y hi hj hji
  ·exact absurd (hy v w y▸hj) (hno j)
def U5(s:Gb)(K:List Kn)(k0:Kn):Gb:={ s with kn:=K++[⟨k0.f,true⟩] }
theorem GI.cut(g:GI E s Y){p:Nat}(hp:p<s.op.length):∃K k0 K',s.kn=K++k0::K'∧k0.f≤p∧∀k∈K',p<k.f:=by
 have:∀(l:List Kn),(l.Pairwise fun a b=>a.f<b.f)→(∃k∈l,k.f≤p)→∃K k0 K',l=K++k0::K'∧k0.f≤p∧∀k∈K',p<k.f:=by
  intro l
  induction l with
  | nil=>rintro _ ⟨k,hk,_⟩;cases hk
  | cons a t ih =>
   intro hi hx
   have hi':=List.pairwise_cons.1 hi
   by_cases q:∃k∈t,k.f≤p
   ·obtain⟨K,k0,K',rfl,h2,h3⟩:=ih hi'.2 q
    exact⟨a::K,k0,K',rfl,h2,h3⟩
   ·have q':∀k∈t,p<k.f:=fun k hk=>Nat.lt_of_not_le fun h=>q ⟨k,hk,h⟩
    obtain⟨k,hk,h⟩:=hx
    rcases List.mem_cons.1 hk with e | e
    ·subst e
     exact⟨[],k,t,rfl,h,q'⟩
    ·have:=q' k e;omega
 obtain⟨k,hk,e⟩:=g.zer (fun h=>by rw[h] at hp;cases hp)
 exact this s.kn g.inc ⟨k,hk,by omega⟩
theorem GI.tie(g:GI E s Y){q:List Int}(hpa:s.path=q++[t]){u:Int}{p:Nat}(hu:s.op[p]?=some u)(he:(t,u)∈E)(hy:∀v w,¬Y v w→v=t∧w=u){K K':List Kn}{k0:Kn}(hk:s.kn=K++k0::K')(h0:k0.f≤p)(h1:∀k∈K',p<k.f):U7 E (U5 s K k0):=by
 obtain⟨it,ht1,ht2,ht3⟩:=g.tpos hpa
 have hinc:=g.inc
 rw[hk,List.pairwise_append] at hinc
 obtain⟨i1,i2,i3⟩:=hinc
 have i2':=List.pairwise_cons.1 i2
 have hK0:∀k∈K,k.f<k0.f:=fun k h=>i3 k h k0 (by simp)
 have hm:∀k,k∈s.kn↔k∈K∨k=k0∨k∈K':=fun k=>by rw[hk];simp
 have hm':∀k,k∈(U5 s K k0).kn↔k∈K∨k=⟨k0.f,true⟩:=fun k=>by simp[U5]
 have hk0:k0∈s.kn:=(hm k0).2 (.inr (.inl rfl))
 have hmax:∀k∈(U5 s K k0).kn,k.f≤k0.f:=fun k h=>by
  rcases(hm' k).1 h with h | rfl
  ·exact Nat.le_of_lt (hK0 k h)
  ·exact Nat.le_refl _
 have htoU:∀(j:Nat) b,s.op[j]?=some b→Ya E b u:=fun j b hb=>by
  rcases g.toEnd hpa hb with e | e
  ·rw[e];exact .single he
  ·exact .tail e he
 have hpl:=(List.getElem?_eq_some_iff.1 hu).1
 have hback:∀(i j:Nat) a b,i<j→s.op[i]?=some a→s.op[j]?=some b→(∀k∈(U5 s K k0).kn,¬(i<k.f∧k.f≤j))→Ya E b a:=by
  intro i j a b hij ha hb hno
  by_cases c:∃k∈s.kn,i<k.f∧k.f≤j
  ·obtain⟨k,hks,c1,c2⟩:=c
   rcases(hm k).1 hks with h | rfl | h
   ·exact absurd ⟨c1,c2⟩ (hno k ((hm' k).2 (.inl h)))
   ·exact absurd ⟨c1,c2⟩ (hno ⟨k.f,true⟩ ((hm' _).2 (.inr rfl)))
   ·have hpk:=h1 k h
    have r:=htoU j b hb
    rcases Nat.lt_trichotomy i p with x | x | x
    ·refine Relation.TransGen.trans r (g.bk i p a u x ha hu fun k' hk'=>?_)
     rintro⟨d1,d2⟩
     rcases(hm k').1 hk' with h | rfl | h
     ·exact hno k' ((hm' k').2 (.inl h)) ⟨d1,by omega⟩
     ·exact hno ⟨k'.f,true⟩ ((hm' _).2 (.inr rfl)) ⟨d1,show k'.f≤j by omega⟩
     ·have:=h1 k' h;omega
    ·subst x
     obtain rfl:a=u:=Option.some.inj (ha.symm.trans hu)
     exact r
    ·exact Relation.TransGen.trans r (g.fw p i u a x hu ha)
  ·exact g.bk i j a b hij ha hb fun k hk h=>c ⟨k,hk,h⟩
 refine⟨?_,?_,?_,g.nd,g.at',g.cl,g.nxn,g.lo,g.fw,hback,?_,?_,?_,g.cc,?_,g.sub,?_,g.ful,g.res,g.all⟩
 ·refine List.pairwise_append.2 ⟨i1,by simp,fun a ha b hb=>?_⟩
  rw[List.mem_singleton.1 hb]
  exact hK0 a ha
 ·intro k h
  rcases(hm' k).1 h with h | rfl
  ·exact g.bnd k ((hm k).2 (.inl h))
  ·exact g.bnd k0 hk0
 ·intro h
  obtain⟨k,h1',h2'⟩:=g.zer h
  rcases(hm k).1 h1' with h | rfl | h
  ·exact⟨k,(hm' k).2 (.inl h),h2'⟩
  ·exact⟨⟨k.f,true⟩,(hm' _).2 (.inr rfl),h2'⟩
  ·have:=h1 k h;omega
 ·intro k h hl a ha
  rcases(hm' k).1 h with h | rfl
  ·exact g.lp k ((hm k).2 (.inl h)) hl a ha
  ·have ha':s.op[k0.f]?=some a:=ha
   have r:=htoU k0.f a ha'
   rcases Nat.lt_or_eq_of_le h0 with x | x
   ·refine Relation.TransGen.trans r (g.bk k0.f p a u x ha' hu fun k' hk'=>?_)
    rintro⟨d1,d2⟩
    rcases(hm k').1 hk' with h | rfl | h
    ·have:=hK0 k' h;omega
    ·omega
    ·have:=h1 k' h;omega
   ·rw[x] at ha'
    obtain rfl:a=u:=Option.some.inj (ha'.symm.trans hu)
    exact r
 ·intro k h hl
  rcases(hm' k).1 h with h | rfl
  ·have b0:=g.bnd k0 hk0
   have hlt:=hK0 k h
   rcases g.nl k ((hm k).2 (.inl h)) hl with x | ⟨k',x1,x2⟩
   ·omega
   ·rcases(hm k').1 x1 with y | rfl | y
    ·exact .inr ⟨k',(hm' _).2 (.inl y),x2⟩
    ·exact .inr ⟨⟨k'.f,true⟩,(hm' _).2 (.inr rfl),x2⟩
    ·have:=h1 k' y;omega
  ·cases hl
 ·intro v w h _
  by_cases y:Y v w
  ·exact g.vis v w h y
  ·rw[(hy v w y).2]
   show s.pl u≠none
   rw[(g.at' u p).2 hu];simp
 ·intro v w i j h _ hi hj hji
  by_cases y:Y v w
  ·obtain⟨k,k1,k2,k3,k4⟩:=g.oo v w i j h y hi hj hji
   rcases(hm k).1 k1 with x | rfl | x
   ·refine⟨k,(hm' _).2 (.inl x),k2,k3,fun k' hk'=>?_⟩
    rcases(hm' k').1 hk' with z | rfl
    ·exact k4 k' ((hm k').2 (.inl z))
    ·exact k4 k0 hk0
   ·exact⟨⟨k.f,true⟩,(hm' _).2 (.inr rfl),rfl,k3,fun k' hk'=>by have:=hmax k' hk';show ¬(k.f<k'.f∧_);omega⟩
   ·have hx:=h1 k x
    exact⟨⟨k0.f,true⟩,(hm' _).2 (.inr rfl),rfl,show k0.f≤j by omega,fun k' hk'=>by have:=hmax k' hk';show ¬(k0.f<k'.f∧_);omega⟩
  ·obtain⟨rfl,rfl⟩:=hy v w y
   have e1:j=p:=Yu g.nd hj hu
   subst e1
   exact⟨⟨k0.f,true⟩,(hm' _).2 (.inr rfl),rfl,h0,fun k' hk'=>by have:=hmax k' hk';show ¬(k0.f<k'.f∧_);omega⟩
 ·intro k h
  rcases(hm' k).1 h with h | rfl
  ·exact g.fst k ((hm k).2 (.inl h))
  ·exact g.fst k0 hk0
def Zp(s:Gb)(p:List Int):Gb:={ s with path:=p }
theorem GI.back(g:U7 E s)(hp:s.path=p++[t])(hf:∀w,(t,w)∈E→ExG E s t w){it:Nat}(ht:s.op[it]?=some t)(hn:∀k∈s.kn,k.f≠it):U7 E (Zp s p):=by
 refine⟨g.inc,g.bnd,g.zer,g.nd,g.at',g.cl,g.nxn,g.lo,g.fw,g.bk,g.lp,g.nl,g.vis,g.cc,g.oo,?_,fun k hk=>?_,fun v h1 h2 w h3=>?_,g.res,g.all⟩
 ·have:=g.sub
  rw[hp] at this
  exact(List.sublist_append_left p [t]).trans this
 ·obtain⟨a,h1,h2⟩:=g.fst k hk
  rw[hp] at h2
  rcases List.mem_append.1 h2 with q | q
  ·exact⟨a,h1,q⟩
  ·rw[List.mem_singleton.1 q] at h1
   exact absurd (Yu g.nd h1 ht) (hn k hk)
 ·by_cases q:v=t
  ·subst q;exact hf w h3
  ·exact g.ful v h1 (fun k=>by
    rw[hp] at k
    rcases List.mem_append.1 k with x | x
    ·exact h2 x
    ·exact q (List.mem_singleton.1 x)) w h3
def Ze(s:Gb)(b:Bool)(m:Int):Gb:=if b=true∧(s.fd=false∨m<s.ls)then { s with fd:=true,ls:=m } else s
theorem Vs(s:Gb)(b:Bool)(m:Int):(Ze s b m).nx=s.nx∧(Ze s b m).pl=s.pl∧(Ze s b m).path=s.path∧(Ze s b m).op=s.op∧(Ze s b m).kn=s.kn:=by
 unfold Ze
 split<;>exact⟨rfl,rfl,rfl,rfl,rfl⟩
def Zl(s:Gb)(p:List Int)(K:List Kn)(k0:Kn)(m:Int):Gb :=
 { nx:=s.nx,pl:=fun x=>if x∈s.op.drop k0.f then some (-1)else s.pl x,path:=p,op:=s.op.take k0.f,kn:=K,fd:=(Ze s k0.lp m).fd,ls:=(Ze s k0.lp m).ls }
theorem Z5j{b:Bool}{m:Int}(h:s.fd=true→Ya E s.ls s.ls)(hm:b=true→Ya E m m):(Ze s b m).fd=true→Ya E (Ze s b m).ls (Ze s b m).ls:=by
 unfold Ze
 split
 ·rename_i c
  exact fun _=>hm c.1
 ·exact h
theorem Z6x{b:Bool}{m v:Int}(h:s.fd=true∧s.ls≤v):(Ze s b m).fd=true∧(Ze s b m).ls≤v:=by
 unfold Ze
 split
 ·rename_i c
  refine⟨rfl,?_⟩
  rcases c.2 with x | x
  ·rw[h.1] at x;cases x
  ·have:=h.2
   show m≤v
   omega
 ·exact h
theorem Z87{b:Bool}{m v:Int}(hb:b=true)(hm:m≤v):(Ze s b m).fd=true∧(Ze s b m).ls≤v:=by
 unfold Ze
 split
 ·exact⟨rfl,hm⟩
 ·rename_i c
  have c1:¬(s.fd=false∨m<s.ls):=fun x=>c ⟨hb,x⟩
  refine⟨?_,?_⟩
  ·cases h:s.fd with
   | true=>rfl
   | false=>exact absurd (.inl h) c1
  ·have:¬m<s.ls:=fun x=>c1 (.inr x)
   omega
theorem GI.close(g:U7 E s)(hp:s.path=p++[t])(hf:∀w,(t,w)∈E→ExG E s t w){K:List Kn}{k0:Kn}(hk:s.kn=K++[k0])(ht:s.op[k0.f]?=some t){m:Int}(hm:m∈s.op.drop k0.f)(hmm:∀x∈s.op.drop k0.f,m≤x):U7 E (Zl s p K k0 m):=by
 obtain⟨A,B,e,hA,hB,hs⟩:=g.split hp
 have hAl:A.length=k0.f:=Yu g.nd (by rw[e];simp) ht
 have hTake:s.op.take k0.f=A:=by rw[e,←hAl];simp
 have hDrop:s.op.drop k0.f=t::B:=by rw[e,←hAl];simp
 have hinc:=g.inc
 rw[hk,List.pairwise_append] at hinc
 obtain⟨i1,_,i3⟩:=hinc
 have hK0:∀k∈K,k.f<k0.f:=fun k h=>i3 k h k0 (by simp)
 have hmk:∀k,k∈s.kn↔k∈K∨k=k0:=fun k=>by rw[hk];simp
 have hk0:k0∈s.kn:=(hmk k0).2 (.inr rfl)
 have hdp:∀x,x∈s.op.drop k0.f↔∃j,k0.f≤j∧s.op[j]?=some x:=fun x=>by
  rw[List.mem_iff_getElem?]
  constructor
  ·rintro⟨j,hj⟩
   rw[List.getElem?_drop] at hj
   exact⟨k0.f+j,Nat.le_add_right _ _,hj⟩
  ·rintro⟨j,h1,h2⟩
   refine⟨j-k0.f,?_⟩
   rw[List.getElem?_drop,show k0.f+(j-k0.f)=j by omega]
   exact h2
 have htk:∀(j:Nat) x,(s.op.take k0.f)[j]?=some x↔j<k0.f∧s.op[j]?=some x:=fun j x=>by
  rw[List.getElem?_take]
  split
  ·rename_i c;exact⟨fun h=>⟨c,h⟩,fun h=>h.2⟩
  ·rename_i c;exact⟨fun h=>(by cases h),fun h=>absurd h.1 c⟩
 have hpl:∀x,(Zl s p K k0 m).pl x=if x∈s.op.drop k0.f then some (-1)else s.pl x:=fun _=>rfl
 have hpin:∀x,x∈s.op.drop k0.f→(Zl s p K k0 m).pl x=some (-1):=fun x h=>if_pos h
 have hpout:∀x,x∉s.op.drop k0.f→(Zl s p K k0 m).pl x=s.pl x:=fun x h=>if_neg h
 have hvisi:∀x,(Zl s p K k0 m).pl x=none↔s.pl x=none:=fun x=>by
  by_cases c:x∈s.op.drop k0.f
  ·rw[hpin x c]
   obtain⟨j,_,h2⟩:=(hdp x).1 c
   rw[(g.at' x j).2 h2];simp
  ·rw[hpout x c]
 have hex:∀v w,ExG E (Zl s p K k0 m) v w↔ExG E s v w:=fun _ _=>Iff.rfl
 have hcl:∀v w,v∈s.op.drop k0.f→(v,w)∈E→(w∈s.op.drop k0.f∨s.pl w=some (-1)):=by
  intro v w hv hw
  obtain⟨j,h1,h2⟩:=(hdp v).1 hv
  have hx:ExG E s v w:=by
   by_cases q:v=t
   ·subst q;exact hf w hw
   ·refine g.ful v (by rw[(g.at' v j).2 h2];simp) (fun k=>?_) w hw
    have h3:=g.last hp k ht h2
    have:j=k0.f:=by omega
    subst this
    exact q (Option.some.inj (h2.symm.trans ht))
  have hvw:=g.vis v w hx trivial
  cases hq:s.pl w with
  | none=>exact absurd hq hvw
  | some pw =>
   rcases g.cl w pw hq with x | x
   ·exact .inr (by rw[x])
   ·obtain⟨jw,rfl⟩:=Int.eq_ofNat_of_zero_le x
    have h4:=(g.at' w jw).1 hq
    refine .inl ((hdp w).2 ⟨jw,?_,h4⟩)
    rcases Nat.lt_or_ge j jw with y | y
    ·omega
    ·obtain⟨k,k1,_,k3,k4⟩:=g.oo v w j jw hx trivial h2 h4 y
     have:=k4 k0 hk0
     rcases(hmk k).1 k1 with z | rfl
     ·have:=hK0 k z;omega
     ·exact k3
 have hcc:∀v w,(Zl s p K k0 m).pl v=some (-1)→(v,w)∈E→(Zl s p K k0 m).pl w=some (-1):=by
  intro v w hv hw
  by_cases c:v∈s.op.drop k0.f
  ·rcases hcl v w c hw with x | x
   ·exact hpin w x
   ·by_cases c2:w∈s.op.drop k0.f
    ·exact hpin w c2
    ·rw[hpout w c2];exact x
  ·have hv':=(hpout v c).symm.trans hv
   have hnp:v∉s.path:=fun k=>by
    obtain⟨j,hj,ej⟩:=List.getElem_of_mem (g.sub.subset k)
    have:=(g.at' v j).2 (by rw[List.getElem?_eq_getElem hj,ej])
    rw[hv'] at this
    injection this with this
    omega
   have h5:=g.cc v w (g.ful v (by rw[hv'];simp) hnp w hw) hv'
   by_cases c2:w∈s.op.drop k0.f
   ·exact hpin w c2
   ·rw[hpout w c2];exact h5
 have hccR:∀v w,(Zl s p K k0 m).pl v=some (-1)→Ya E v w→(Zl s p K k0 m).pl w=some (-1):=by
  intro v w hv r
  induction r with
  | single h=>exact hcc _ _ hv h
  | tail _ h ih=>exact hcc _ _ ih h
 have hoR:∀v w,s.pl v=some (-1)→Ya E v w→s.pl w=some (-1):=by
  intro v w hv r
  have step:∀a b,s.pl a=some (-1)→(a,b)∈E→s.pl b=some (-1):=by
   intro a b ha hb
   have hnp:a∉s.path:=fun k=>by
    obtain⟨j,hj,ej⟩:=List.getElem_of_mem (g.sub.subset k)
    have:=(g.at' a j).2 (by rw[List.getElem?_eq_getElem hj,ej])
    rw[ha] at this
    injection this with this
    omega
   exact g.cc a b (g.ful a (by rw[ha];simp) hnp b hb) ha
  induction r with
  | single h=>exact step _ _ hv h
  | tail _ h ih=>exact step _ _ ih h
 have hself:k0.lp=true→∀x,x∈s.op.drop k0.f→Ya E x x:=by
  intro hl x hx
  obtain⟨j,h1,h2⟩:=(hdp x).1 hx
  have r:=g.lp k0 hk0 hl t ht
  rcases Nat.lt_or_eq_of_le h1 with y | y
  ·refine Relation.TransGen.trans (g.bk k0.f j t x y ht h2 fun k hk'=>?_) (g.fw k0.f j t x y ht h2)
   rintro⟨d1,d2⟩
   rcases(hmk k).1 hk' with z | rfl
   ·have:=hK0 k z;omega
   ·omega
  ·subst y
   obtain rfl:t=x:=Option.some.inj (ht.symm.trans h2)
   exact r
 refine⟨i1,?_,?_,?_,?_,?_,?_,g.lo,?_,?_,?_,?_,?_,?_,?_,?_,?_,?_,?_,?_⟩
 ·intro k h
  show k.f<(s.op.take k0.f).length
  rw[hTake,hAl];exact hK0 k h
 ·intro h
  have h':s.op≠[]:=fun q=>h (by show s.op.take k0.f=[];rw[q];simp)
  obtain⟨k,x1,x2⟩:=g.zer h'
  rcases(hmk k).1 x1 with z | rfl
  ·exact⟨k,z,x2⟩
  ·exact absurd (by show s.op.take k.f=[];rw[x2];rfl) h
 ·exact g.nd.sublist (List.take_sublist _ _)
 ·intro v i
  show(if v∈s.op.drop k0.f then some (-1)else s.pl v)=_↔(s.op.take k0.f)[i]?=some v
  rw[htk]
  by_cases c:v∈s.op.drop k0.f
  ·rw[if_pos c]
   constructor
   ·intro h;injection h with h;omega
   ·rintro⟨h1,h2⟩
    obtain⟨j,h3,h4⟩:=(hdp v).1 c
    have:=Yu g.nd h2 h4
    omega
  ·rw[if_neg c,g.at' v i]
   exact⟨fun h=>⟨Nat.lt_of_not_le fun q=>c ((hdp v).2 ⟨i,q,h⟩),h⟩,fun h=>h.2⟩
 ·intro v q h
  by_cases c:v∈s.op.drop k0.f
  ·rw[hpin v c] at h
   injection h with h
   exact .inl h.symm
  ·exact g.cl v q ((hpout v c).symm.trans h)
 ·intro v
  exact(g.nxn v).trans (hvisi v).symm
 ·intro i j a b hij ha hb
  exact g.fw i j a b hij ((htk i a).1 ha).2 ((htk j b).1 hb).2
 ·intro i j a b hij ha hb hno
  have hb':=(htk j b).1 hb
  refine g.bk i j a b hij ((htk i a).1 ha).2 hb'.2 fun k hk'=>?_
  rcases(hmk k).1 hk' with z | rfl
  ·exact hno k z
  ·omega
 ·intro k h hl a ha
  exact g.lp k ((hmk k).2 (.inl h)) hl a ((htk _ a).1 ha).2
 ·intro k h hl
  rcases g.nl k ((hmk k).2 (.inl h)) hl with x | ⟨k',x1,x2⟩
  ·have:=hK0 k h
   have:=g.bnd k0 hk0
   omega
  ·rcases(hmk k').1 x1 with z | rfl
   ·exact .inr ⟨k',z,x2⟩
   ·refine .inl ?_
    show k.f+1=(s.op.take k'.f).length
    rw[hTake,hAl,x2]
 ·intro v w h _
  exact fun q=>g.vis v w h trivial ((hvisi w).1 q)
 ·intro v w h hv
  obtain⟨i,_,h1,_⟩:=h
  exact hcc v w hv (List.mem_of_getElem? h1)
 ·intro v w i j h _ hi hj hji
  have hi':=(htk i v).1 hi
  obtain⟨k,k1,k2,k3,k4⟩:=g.oo v w i j h trivial hi'.2 ((htk j w).1 hj).2 hji
  rcases(hmk k).1 k1 with z | rfl
  ·exact⟨k,z,k2,k3,fun k' hk'=>k4 k' ((hmk k').2 (.inl hk'))⟩
  ·omega
 ·show p.Sublist (s.op.take k0.f)
  rw[hTake];exact hs
 ·intro k h
  obtain⟨a,x1,x2⟩:=g.fst k ((hmk k).2 (.inl h))
  have:=hK0 k h
  refine⟨a,(htk _ a).2 ⟨this,x1⟩,?_⟩
  rw[hp] at x2
  rcases List.mem_append.1 x2 with q | q
  ·exact q
  ·rw[List.mem_singleton.1 q] at x1
   have:=Yu g.nd x1 ht
   omega
 ·intro v h1 h2 w h3
  by_cases q:v=t
  ·subst q;exact hf w h3
  ·exact g.ful v (fun k=>h1 ((hvisi v).2 k)) (fun k=>by
    rw[hp] at k
    rcases List.mem_append.1 k with x | x
    ·exact h2 x
    ·exact q (List.mem_singleton.1 x)) w h3
 ·exact Z5j g.res fun hl=>hself hl m hm
 ·intro v hv r
  by_cases c:v∈s.op.drop k0.f
  ·cases hl:k0.lp with
   | true=>exact Z87 hl (hmm v c)
   | false =>
    exfalso
    have hvt:v=t:=by
     obtain⟨j,h1,h2⟩:=(hdp v).1 c
     have hj:=(List.getElem?_eq_some_iff.1 h2).1
     rcases g.nl k0 hk0 hl with x | ⟨k',x1,x2⟩
     ·have:j=k0.f:=by omega
      subst this
      exact Option.some.inj (h2.symm.trans ht)
     ·rcases(hmk k').1 x1 with z | rfl
      ·have:=hK0 k' z;omega
      ·omega
    subst hvt
    have hvo:s.pl v=some (k0.f:Int):=(g.at' v _).2 ht
    have single:∀w,(v,w)∈E→s.pl w=some (-1):=fun w hw=>by
     rcases hcl v w c hw with x | x
     ·obtain⟨j,h1,h2⟩:=(hdp w).1 x
      have hj:=(List.getElem?_eq_some_iff.1 h2).1
      have hjk:j=k0.f:=by
       rcases g.nl k0 hk0 hl with x | ⟨k',x1,x2⟩
       ·omega
       ·rcases(hmk k').1 x1 with z | rfl
        ·have:=hK0 k' z;omega
        ·omega
      subst hjk
      obtain rfl:v=w:=Option.some.inj (ht.symm.trans h2)
      obtain⟨k,k1,k2,k3,k4⟩:=g.oo v v k0.f k0.f (hf v hw) trivial ht ht (Nat.le_refl _)
      rcases(hmk k).1 k1 with z | rfl
      ·have:=k4 k0 hk0
       have:=hK0 k z
       omega
      ·rw[hl] at k2;cases k2
     ·exact x
    have hall:s.pl v=some (-1):=by
     have gen:∀a b,Ya E a b→a=v→s.pl b=some (-1):=by
      intro a b r
      induction r with
      | single h=>intro e;rw[e] at h;exact single _ h
      | tail r h ih=>intro e;exact hoR _ _ (ih e) (.single h)
     exact gen v v r rfl
    rw[hvo] at hall
    injection hall with hall
    omega
  ·exact Z6x (g.all v ((hpout v c).symm.trans hv) r)
theorem GI.done(g:GI E s Y)(hp:s.path=[]):s.op=[]∧s.kn=[]∧∀v,s.pl v≠none→s.pl v=some (-1):=by
 have hk:s.kn=[]:=by
  cases h:s.kn with
  | nil=>rfl
  | cons k l =>
   obtain⟨a,_,h2⟩:=g.fst k (by rw[h];simp)
   rw[hp] at h2;cases h2
 have ho:s.op=[]:=by
  cases h:s.op with
  | nil=>rfl
  | cons a l =>
   obtain⟨k,h1,_⟩:=g.zer (by rw[h];simp)
   rw[hk] at h1;cases h1
 refine⟨ho,hk,fun v hv=>?_⟩
 cases h:s.pl v with
 | none=>exact absurd h hv
 | some q =>
  rcases g.cl v q h with x | x
  ·rw[x]
  ·obtain⟨j,rfl⟩:=Int.eq_ofNat_of_zero_le x
   have:=(g.at' v j).1 h
   rw[ho] at this;simp at this
def Vd(E:List (Int × Int))(s:Gb)(i:Nat):Bool:=match E[i]? with
 | some e=>(match s.nx e.1 with
  | some m=>decide (i<m)
  | none=>false)
 | none=>false
def Ye(p:Nat→Bool):Nat→Nat
 | 0=>0
 | n+1=>Ye p n+if p n=true then 0 else 1
theorem Z0e{p q:Nat→Bool}:∀ {n:Nat},(∀j,j<n→q j=p j)→Ye q n=Ye p n
 | 0,_=>rfl
 | n+1,h=>by
  unfold Ye
  rw[Z0e (n:=n) fun j hj=>h j (by omega),h n (by omega)]
theorem Z1k{p q:Nat→Bool}{i:Nat}(hp:p i=false)(hq:q i=true):∀ {n:Nat},i<n→(∀j,j≠i→q j=p j)→Ye q n+1=Ye p n
 | n+1,hi,h=>by
  unfold Ye
  by_cases e:n=i
  ·subst e
   rw[Z0e (p:=p) (q:=q) (n:=n) fun j hj=>h j (by omega),hp,hq]
   simp
  ·rw[h n e,←Z1k hp hq (n:=n) (by omega) h]
   omega
def Uc(E:List (Int × Int))(s:Gb):Nat:=2*Ye (Vd E s) E.length+s.path.length
theorem Z2o{E:List (Int × Int)}{s s':Gb}(h:s'.nx=s.nx):Vd E s'=Vd E s:=by
 funext i
 unfold Vd
 rw[h]
theorem Ub(hs:Zh E){i:Nat}{u:Int}(hn:s.nx t=some i)(he:E[i]?=some (t,u)):Ye (Vd E (Zv s t i)) E.length+1=Ye (Vd E s) E.length:=by
 refine Z1k (i:=i) ?_ ?_ (List.getElem?_eq_some_iff.1 he).1 fun j hj=>?_
 ·simp[Vd,he,hn]
 ·simp[Vd,he,Zv,Zk]
 ·unfold Vd
  cases h:E[j]? with
  | none=>rfl
  | some e =>
   by_cases q:e.1=t
   ·simp only[Zv,q,Zz,hn]
    exact decide_eq_decide.2 (by omega)
   ·simp only[Zv,Zy _ _ q]
theorem Z3f(hs:Zh E){u:Int}(hu:s.nx u=none):Vd E (Zr E s u)=Vd E s:=by
 funext j
 unfold Vd
 cases h:E[j]? with
 | none=>rfl
 | some e =>
  by_cases q:e.1=u
  ·simp only[Zr,q,Zz,hu]
   have:=Z8h hs h q
   simp;omega
  ·simp only[Zr,Zy _ _ q]
theorem Z3c(hs:Zh E){i:Nat}(hn:s.nx t=some i)(hi:Vn E t≤i)(h:∀w,E[i]?≠some (t,w)):∀w,(t,w)∈E→ExG E s t w:=by
 intro w hw
 obtain⟨j,hj,e⟩:=List.getElem_of_mem hw
 have e':E[j]?=some (t,w):=by rw[List.getElem?_eq_getElem hj,e]
 refine⟨j,i,e',hn,Nat.lt_of_not_le fun q=>?_⟩
 cases hE:E[i]? with
 | none =>
  rw[List.getElem?_eq_none_iff] at hE
  omega
 | some x =>
  have h1:=Z2z hs hi hE
  have h2:i≠j:=fun k=>by subst k;rw[e'] at hE;injection hE with hE;exact h w (by rw[e'])
  have hi':=(List.getElem?_eq_some_iff.1 hE).1
  have h3:=List.pairwise_iff_getElem.1 hs i j hi' hj (by omega)
  have h4:x=E[i]:=(List.getElem?_eq_some_iff.1 hE).2.symm
  rw[←h4,e] at h3
  unfold elt at h3
  have h5:x.1=t:=by
   rcases h3 with y | y
   ·have:x.1<t:=y
    omega
   ·exact y.1
  exact h x.2 (by rw[hE,←h5])
end
def Z7d(E:List (Int × Int))(fd:Bool)(ls:Int):Prop:=(fd=true↔∃v,Ya E v v)∧(fd=true→Ya E ls ls∧∀v,Ya E v v→ls≤v)
theorem Z1x{E:List (Int × Int)}(hs:Zh E){s:Gb}(g:U7 E s)(hp:s.path=[])(k:Nat)(hv:∀i e,i<k→E[i]?=some e→s.pl e.1≠none)(hk:E.length≤k∨(s.fd=true∧∃e,E[k]?=some e∧s.ls≤e.1)):Z7d E s.fd s.ls:=by
 obtain⟨_,_,h3⟩:=g.done hp
 have key:∀v,Ya E v v→s.fd=true∧s.ls≤v:=by
  intro v r
  obtain⟨y,hy⟩:=Yh r
  obtain⟨i,hi,e⟩:=List.getElem_of_mem hy
  have e':E[i]?=some (v,y):=by rw[List.getElem?_eq_getElem hi,e]
  by_cases q:i<k
  ·exact g.all v (h3 v (hv i _ q e')) r
  ·rcases hk with x | ⟨x1,ek,x2,x3⟩
   ·omega
   ·refine⟨x1,Int.le_trans x3 ?_⟩
    rcases Nat.lt_or_eq_of_le (Nat.le_of_not_lt q)with z | z
    ·obtain⟨hk',rfl⟩:=List.getElem?_eq_some_iff.1 x2
     have:=List.pairwise_iff_getElem.1 hs k i hk' hi z
     rw[e] at this
     unfold elt at this
     simp only at this
     omega
    ·subst z
     rw[x2] at e'
     injection e' with e'
     rw[e'];exact Int.le_refl _
 exact⟨⟨fun h=>⟨_,g.res h⟩,fun⟨v,r⟩=>(key v r).1⟩,fun h=>⟨g.res h,fun v r=>(key v r).2⟩⟩
def Z0c:List Int→List Int→Prop
 | x::a,y::b=>Z0c a b∨(a=b∧x<y)
 | _,_=>False
def slt(a b:List Int):Prop:=a.length<b.length∨(a.length=b.length∧Z0c a b)
def Uv(a b:List Int):Prop:=a=b∨slt a b
theorem Z3j:∀ {a b c:List Int},Z0c a b→Z0c b c→Z0c a c
 | [],_,_,h,_=>h.elim
 | _::_,[],_,h,_=>h.elim
 | _::_,_::_,[],_,h=>h.elim
 | x::a,y::b,z::c,h,k=>by
  rcases h with q | ⟨rfl,q⟩
  ·rcases k with r | ⟨rfl,r⟩
   ·exact .inl (Z3j q r)
   ·exact .inl q
  ·rcases k with r | ⟨rfl,r⟩
   ·exact .inl r
   ·exact .inr ⟨rfl,by omega⟩
theorem Z5u{a b c:List Int}(h:slt a b)(k:slt b c):slt a c:=by
 rcases h with h | ⟨h,h'⟩<;>rcases k with k | ⟨k,k'⟩
 ·exact .inl (by omega)
 ·exact .inl (by omega)
 ·exact .inl (by omega)
 ·exact .inr ⟨by omega,Z3j h' k'⟩
theorem Z2x{a b c:List Int}(h:Uv a b)(k:Uv b c):Uv a c:=by
 rcases h with rfl | h
 ·exact k
 ·rcases k with rfl | k
  ·exact .inr h
  ·exact .inr (Z5u h k)
theorem Z79{a b c:List Int}(h:slt a b)(k:Uv b c):slt a c:=by
 rcases k with rfl | k
 ·exact h
 ·exact Z5u h k
theorem Vm{a b:List Int}(x y:Int)(h:slt a b):slt (x::a) (y::b):=by
 rcases h with h | ⟨h,h'⟩
 ·exact .inl (by simpa using h)
 ·exact .inr ⟨by simpa using h,.inl h'⟩
theorem Z2c{x y:Int}(a:List Int)(h:x<y):slt (x::a) (y::a):=.inr ⟨rfl,.inr ⟨rfl,h⟩⟩
theorem Vl{a b:List Int}(x:Int)(h:Uv a b):Uv (x::a) (x::b):=by
 rcases h with rfl | h
 ·exact .inl rfl
 ·exact .inr (Vm x x h)
theorem Z5r{x y:Int}(a:List Int)(h:x≤y):Uv (x::a) (y::a):=by
 rcases Int.lt_or_eq_of_le h with q | q
 ·exact .inr (Z2c a q)
 ·exact .inl (by rw[q])
theorem Z78(x:Int)(a:List Int):slt [] (x::a):=.inl (by simp)
theorem Z3m{a b:List Int}(h:Uv a b):a.length≤b.length:=by
 rcases h with rfl | h | h
 ·exact Nat.le_refl _
 ·exact Nat.le_of_lt h
 ·exact Nat.le_of_eq h.1
theorem Z5t(x:Int){a b:List Int}(h:Uv a b):slt a (x::b):=.inl (by have:=Z3m h;simp;omega)
theorem Z0o:∀ {a b:List Int},a.length=b.length→∀(x y:Int),Z0c (a++[x]) (b++[y])↔x<y∨(x=y∧Z0c a b)
 | [],[],_,x,y=>by simp[Z0c]
 | [],_::_,h,_,_=>by simp at h
 | _::_,[],h,_,_=>by simp at h
 | u::a,v::b,h,x,y=>by
  have h':a.length=b.length:=by simpa using h
  have ih:=Z0o h' x y
  show Z0c (a++[x]) (b++[y])∨(a++[x]=b++[y]∧u<v)↔x<y∨(x=y∧(Z0c a b∨(a=b∧u<v)))
  rw[ih]
  constructor
  ·rintro((q | ⟨q1,q2⟩) | ⟨q1,q2⟩)
   ·exact .inl q
   ·exact .inr ⟨q1,.inl q2⟩
   ·obtain⟨e1,e2⟩:=List.append_inj' q1 rfl
    exact .inr ⟨by simpa using e2,.inr ⟨e1,q2⟩⟩
  ·rintro(q | ⟨q1,q2 | ⟨q2,q3⟩⟩)
   ·exact .inl (.inl q)
   ·exact .inl (.inr ⟨q1,q2⟩)
   ·exact .inr ⟨by rw[q1,q2],q3⟩
def Zj(a:Int)(r:List Int):Int:=r.headD a
inductive RP (E:List (Int × Int)) (a:Int):List Int→Prop
 | nil:RP E a []
 | cons {x:Int} {r:List Int} (p:RP E a r) (h:(Zj a r,x)∈E):RP E a (x::r)
theorem Z8d{E:List (Int × Int)}{a:Int}{r:List Int}(p:RP E a r):∀x r',r=x::r'→Ya E a x:=by
 induction p with
 | nil=>intro x r' h;cases h
 | @cons y r p h ih =>
  intro x r' e
  injection e with e1 e2
  subst e1;subst e2
  cases r with
  | nil=>exact .single h
  | cons z r2=>exact .tail (ih z r2 rfl) h
theorem Z8e{E:List (Int × Int)}{a:Int}{r:List Int}(p:RP E a r):∀x r',r=x::r'→Way E a (r'.length+1) x:=by
 induction p with
 | nil=>intro x r' h;cases h
 | @cons y r p h ih =>
  intro x r' e
  injection e with e1 e2
  subst e1;subst e2
  cases r with
  | nil=>exact .one h
  | cons z r2=>exact Z67 (ih z r2 rfl) h
theorem Z28{E:List (Int × Int)}{a x:Int}(h:(a,x)∈E){r:List Int}(p:RP E x r):RP E a (r++[x]):=by
 induction p with
 | nil=>exact .cons .nil h
 | @cons y r p k ih =>
  refine .cons ih ?_
  cases r with
  | nil=>exact k
  | cons z r2=>exact k
theorem Z68{E:List (Int × Int)}{a b:Int}{n:Nat}(w:Way E a n b):∃r,RP E a (b::r)∧r.length+1=n:=by
 induction w with
 | one h=>exact⟨[],.cons .nil h,rfl⟩
 | @step a x b n h _ ih =>
  obtain⟨r,p,e⟩:=ih
  refine⟨r++[x],Z28 h p,by simp;omega⟩
theorem Z29{E:List (Int × Int)}{a x:Int}:∀ {r:List Int},RP E a (r++[x])→(a,x)∈E∧RP E x r
 | [],p=>by
  cases p with
  | cons _ h=>exact⟨h,.nil⟩
 | y::r,p=>by
  cases p with
  | cons p h =>
   obtain⟨h1,h2⟩:=Z29 p
   refine⟨h1,.cons h2 ?_⟩
   cases r with
   | nil=>exact h
   | cons z r2=>exact h
def Lst(E:List (Int × Int))(a b:Int)(r:List Int):Prop:=RP E a (b::r)∧∀ π,RP E a (b::π)→Uv (b::r) (b::π)
theorem Z2b{x:Int}{a b:List Int}(h:Uv (x::a) (x::b)):Uv a b:=by
 rcases h with h | h | ⟨h,h'⟩
 ·injection h with _ h;exact .inl h
 ·exact .inr (.inl (by simpa using h))
 ·rcases h' with q | q
  ·exact .inr (.inr ⟨by simpa using h,q⟩)
  ·omega
theorem Z5s{a b:List Int}{x y:Int}(h:Uv (a++[x]) (b++[y])):a.length<b.length∨(a.length=b.length∧(x<y∨(x=y∧Uv a b))):=by
 rcases h with h | h | ⟨h,h'⟩
 ·obtain⟨e1,e2⟩:=List.append_inj' h rfl
  exact .inr ⟨by rw[e1],.inr ⟨by simpa using e2,.inl e1⟩⟩
 ·exact .inl (by simpa using h)
 ·have h2:a.length=b.length:=by simpa using h
  rcases(Z0o h2 x y).1 h' with q | ⟨q,q'⟩
  ·exact .inr ⟨h2,.inl q⟩
  ·exact .inr ⟨h2,.inr ⟨q,.inr (.inr ⟨h2,q'⟩)⟩⟩
theorem Z3e{E:List (Int × Int)}{a b:Int}{r:List Int}(h:Lst E a b r):Far E a b (r.length+1):=by
 refine⟨Z8e h.1 b r rfl,fun m w=>?_⟩
 obtain⟨π,p,e⟩:=Z68 w
 have:=Z3m (Z2b (h.2 π p))
 omega
theorem Un{E:List (Int × Int)}{b:Int}:∀(n:Nat) {a:Int} {r:List Int},r.length=n→Lst E a b r→Greedy E b a (n+1) r.reverse
 | 0,a,r,hn,h=>by
  obtain rfl:=List.length_eq_zero_iff.1 hn
  cases h.1 with
  | cons _ k=>exact .last k
 | n+1,a,r,hn,h=>by
  rcases List.eq_nil_or_concat r with rfl | ⟨r',x,rfl⟩
  ·simp at hn
  ·rw[List.concat_eq_append] at h hn ⊢
   have hl:r'.length=n:=by simpa using hn
   obtain⟨h1,h2⟩:=Z29 (r:=b::r') h.1
   have key:∀y π,(a,y)∈E→RP E y (b::π)→r'.length<π.length∨(r'.length=π.length∧(x<y∨(x=y∧Uv r' π))):=fun y π hy p =>
    Z5s (Z2b (h.2 (π++[y]) (Z28 hy p)))
   have hL:Lst E x b r':=⟨h2,fun π p=>Vl b (by
    rcases key x π h1 p with q | ⟨_,q | q⟩
    ·exact .inr (.inl q)
    ·omega
    ·exact q.2)⟩
   rw[List.reverse_append,List.reverse_singleton,List.singleton_append]
   refine .step h1 (by rw[←hl];exact Z3e hL) (fun y hy f=>?_) (Un n hl hL)
   obtain⟨π,p,e⟩:=Z68 f.1
   rcases key y π hy p with q | ⟨_,q | q⟩
   ·omega
   ·exact Int.le_of_lt q
   ·exact Int.le_of_eq q.1
structure BI(E:List (Int × Int))(a:Int)(W:List (List Int))(h i:Nat):Prop where
 rp:∀r∈W,RP E a r∧r≠[]
 srt:W.Pairwise slt
 nd:(W.map (Zj a)).Nodup
 pr:∀j,j<h→∀r,([]::W)[j]?=some r→∀y,(Zj a r,y)∈E→∃r'∈W,Zj a r'=y∧Uv r' (y::r)
 pi:∀r,([]::W)[h]?=some r→∀j y,j<i→E[j]?=some (Zj a r,y)→∃r'∈W,Zj a r'=y∧Uv r' (y::r)
 org:∀r∈W,∃y j r0,r=y::r0∧([]::W)[j]?=some r0∧(j<h∨(j=h∧∃k,k<i∧E[k]?=some (Zj a r0,y)))
section
variable {E:List (Int × Int)} {a:Int} {W:List (List Int)} {h i:Nat}
theorem BI.start:BI E a [] 0 0:=⟨by simp,List.Pairwise.nil,List.Pairwise.nil,fun j hj=>by omega,fun r _ j y hj=>by omega,by simp⟩
theorem BI.qs(b:BI E a W h i):([]::W).Pairwise slt:=List.pairwise_cons.2 ⟨fun r hr=>by
 obtain⟨y,_,r0,rfl,_⟩:=b.org r hr
 exact Z78 y r0,b.srt⟩
theorem BI.lt(b:BI E a W h i){j k:Nat}{r r':List Int}(hjk:j<k)(hr:([]::W)[j]?=some r)(hr':([]::W)[k]?=some r'):slt r r':=by
 obtain⟨h1,rfl⟩:=List.getElem?_eq_some_iff.1 hr
 obtain⟨h2,rfl⟩:=List.getElem?_eq_some_iff.1 hr'
 exact List.pairwise_iff_getElem.1 b.qs j k h1 h2 hjk
theorem BI.skip(b:BI E a W h i)(hs:Zh E){r:List Int}{y:Int}(hr:([]::W)[h]?=some r)(he:E[i]?=some (Zj a r,y))(hy:y∈W.map (Zj a)):BI E a W h (i+1):=by
 refine⟨b.rp,b.srt,b.nd,b.pr,fun r1 hr1 j z hj hz=>?_,fun r1 hr1=>?_⟩
 ·obtain rfl:r=r1:=Option.some.inj (hr.symm.trans hr1)
  by_cases q:j<i
  ·exact b.pi r hr j z q hz
  ·have:j=i:=by omega
   subst this
   rw[he] at hz
   injection hz with hz
   injection hz with _ hz
   subst hz
   obtain⟨r',h1,h2⟩:=List.mem_map.1 hy
   refine⟨r',h1,h2,?_⟩
   obtain⟨x,k,r0,rfl,k2,k3⟩:=b.org r' h1
   obtain rfl:x=y:=h2
   rcases k3 with q | ⟨q,_⟩
   ·exact .inr (Vm x x (b.lt q k2 hr))
   ·subst q
    obtain rfl:r0=r:=Option.some.inj (k2.symm.trans hr)
    exact .inl rfl
 ·obtain⟨x,k,r0,e,k2,k3⟩:=b.org r1 hr1
  refine⟨x,k,r0,e,k2,?_⟩
  rcases k3 with q | ⟨q,k,k4,k5⟩
  ·exact .inl q
  ·exact .inr ⟨q,k,by omega,k5⟩
theorem Z74{W:List (List Int)}{r x:List Int}{j:Nat}(hj:([]::W)[j]?=some r):([]::(W++[x]))[j]?=some r:=by
 cases j with
 | zero=>exact hj
 | succ j =>
  simp only[List.getElem?_cons_succ] at hj ⊢
  rw[List.getElem?_append_left (List.getElem?_eq_some_iff.1 hj).1]
  exact hj
theorem Z8s{W:List (List Int)}{r x:List Int}{j:Nat}(hl:j≤W.length)(hj:([]::(W++[x]))[j]?=some r):([]::W)[j]?=some r:=by
 cases j with
 | zero=>exact hj
 | succ j =>
  simp only[List.getElem?_cons_succ] at hj ⊢
  rw[List.getElem?_append_left (by omega)] at hj
  exact hj
theorem BI.push(b:BI E a W h i)(hs:Zh E){r:List Int}{y:Int}(hr:([]::W)[h]?=some r)(he:E[i]?=some (Zj a r,y))(hy:y∉W.map (Zj a)):BI E a (W++[y::r]) h (i+1):=by
 have hl:h≤W.length:=by
  have:=(List.getElem?_eq_some_iff.1 hr).1
  simp at this;omega
 have hrp:RP E a (y::r):=by
  refine .cons ?_ (List.mem_of_getElem? he)
  cases h with
  | zero=>simp at hr;subst hr;exact .nil
  | succ h =>
   simp only[List.getElem?_cons_succ] at hr
   exact(b.rp r (List.mem_of_getElem? hr)).1
 refine⟨fun r1 h1=>?_,?_,?_,fun j hj r1 hr1 z hz=>?_,fun r1 hr1 j z hj hz=>?_,fun r1 hr1=>?_⟩
 ·rcases List.mem_append.1 h1 with q | q
  ·exact b.rp r1 q
  ·rw[List.mem_singleton.1 q]
   exact⟨hrp,by simp⟩
 ·refine List.pairwise_append.2 ⟨b.srt,by simp,fun r1 h1 r2 h2=>?_⟩
  rw[List.mem_singleton.1 h2]
  obtain⟨x,k,r0,rfl,k2,k3⟩:=b.org r1 h1
  rcases k3 with q | ⟨q,k',k4,k5⟩
  ·exact Vm x y (b.lt q k2 hr)
  ·subst q
   obtain rfl:r0=r:=Option.some.inj (k2.symm.trans hr)
   refine Z2c r0 ?_
   obtain⟨z1,e1⟩:=List.getElem?_eq_some_iff.1 k5
   obtain⟨z2,e2⟩:=List.getElem?_eq_some_iff.1 he
   have:=List.pairwise_iff_getElem.1 hs k' i z1 z2 k4
   rw[e1,e2] at this
   unfold elt at this
   simp only at this
   omega
 ·rw[List.map_append,List.map_singleton]
  exact List.nodup_append.2 ⟨b.nd,by simp,fun x hx z hz e=>by
   rw[List.mem_singleton.1 hz] at e
   subst e
   exact hy hx⟩
 ·obtain⟨r',k1,k2,k3⟩:=b.pr j hj r1 (Z8s (by omega) hr1) z hz
  exact⟨r',List.mem_append_left _ k1,k2,k3⟩
 ·have hr1':=Z8s hl hr1
  obtain rfl:r=r1:=Option.some.inj (hr.symm.trans hr1')
  by_cases q:j<i
  ·obtain⟨r',k1,k2,k3⟩:=b.pi r hr j z q hz
   exact⟨r',List.mem_append_left _ k1,k2,k3⟩
  ·have:j=i:=by omega
   subst this
   rw[he] at hz
   injection hz with hz
   injection hz with _ hz
   subst hz
   exact⟨y::r,by simp,rfl,.inl rfl⟩
 ·rcases List.mem_append.1 hr1 with q | q
  ·obtain⟨x,k,r0,e,k2,k3⟩:=b.org r1 q
   refine⟨x,k,r0,e,Z74 k2,?_⟩
   rcases k3 with q | ⟨q,k,k4,k5⟩
   ·exact .inl q
   ·exact .inr ⟨q,k,by omega,k5⟩
  ·rw[List.mem_singleton.1 q]
   exact⟨y,h,r,rfl,Z74 hr,.inr ⟨rfl,i,by omega,he⟩⟩
theorem BI.next(b:BI E a W h i)(hs:Zh E){r:List Int}(hr:([]::W)[h]?=some r)(hi:Vn E (Zj a r)≤i)(hn:∀y,E[i]?≠some (Zj a r,y))(i':Nat)(hi':∀r',([]::W)[h+1]?=some r'→i'≤Vn E (Zj a r')):BI E a W (h+1) i':=by
 have hall:∀y,(Zj a r,y)∈E→∃r'∈W,Zj a r'=y∧Uv r' (y::r):=by
  intro y hy
  obtain⟨j,hj,e⟩:=List.getElem_of_mem hy
  have e':E[j]?=some (Zj a r,y):=by rw[List.getElem?_eq_getElem hj,e]
  refine b.pi r hr j y (Nat.lt_of_not_le fun q=>?_) e'
  cases hE:E[i]? with
  | none =>
   rw[List.getElem?_eq_none_iff] at hE
   omega
  | some x =>
   have h1:=Z2z hs hi hE
   have h2:i≠j:=fun k=>by subst k;exact hn y e'
   have hil:=(List.getElem?_eq_some_iff.1 hE).1
   have h3:=List.pairwise_iff_getElem.1 hs i j hil hj (by omega)
   have h4:x=E[i]:=(List.getElem?_eq_some_iff.1 hE).2.symm
   rw[←h4,e] at h3
   unfold elt at h3
   have h5:x.1=Zj a r:=by
    rcases h3 with y | y
    ·have:x.1<Zj a r:=y
     omega
    ·exact y.1
   exact hn x.2 (by rw[hE,←h5])
 refine⟨b.rp,b.srt,b.nd,fun j hj r1 hr1 y hy=>?_,fun r1 hr1 j y hj hy=>?_,fun r1 hr1=>?_⟩
 ·by_cases q:j<h
  ·exact b.pr j q r1 hr1 y hy
  ·have:j=h:=by omega
   subst this
   obtain rfl:r=r1:=Option.some.inj (hr.symm.trans hr1)
   exact hall y hy
 ·have:=Vx (lL0 hj (hi' r1 hr1)) hy
  simp at this
 ·obtain⟨x,k,r0,e,k2,k3⟩:=b.org r1 hr1
  refine⟨x,k,r0,e,k2,.inl ?_⟩
  rcases k3 with q | ⟨q,_⟩<;>omega
theorem BI.to(b:BI E a W h i){r:List Int}(hr:([]::W)[h]?=some r)(i':Nat)(hi:i≤i')(hi':i'≤Vn E (Zj a r)):BI E a W h i':=by
 refine⟨b.rp,b.srt,b.nd,b.pr,fun r1 hr1 j y hj hy=>?_,fun r1 hr1=>?_⟩
 ·obtain rfl:r=r1:=Option.some.inj (hr.symm.trans hr1)
  have:=Vx (lL0 hj hi') hy
  simp at this
 ·obtain⟨x,k,r0,e,k2,k3⟩:=b.org r1 hr1
  refine⟨x,k,r0,e,k2,?_⟩
  rcases k3 with q | ⟨q,k,k4,k5⟩
  ·exact .inl q
  ·exact .inr ⟨q,k,by omega,k5⟩
theorem Uo{l m:List Int}(hn:l.Nodup)(hs:∀x∈l,x∈m):l.length≤m.length:=by
 induction l generalizing m with
 | nil=>exact Nat.zero_le _
 | cons x l ih =>
  have hn':=List.nodup_cons.1 hn
  obtain⟨A,B,e⟩:=List.append_of_mem (hs x (by simp))
  have:=ih (m:=A++B) hn'.2 fun y hy=>by
   have h1:=hs y (by simp[hy])
   rw[e] at h1
   rcases List.mem_append.1 h1 with q | q
   ·exact List.mem_append_left _ q
   ·rcases List.mem_cons.1 q with q | q
    ·exact absurd (q▸hy) hn'.1
    ·exact List.mem_append_right _ q
  rw[e]
  simp at this ⊢
  omega
theorem BI.size(b:BI E a W h i):W.length≤E.length:=by
 have:=Uo (m:=E.map Prod.snd) b.nd fun x hx=>by
  obtain⟨r,hr,rfl⟩:=List.mem_map.1 hx
  cases(b.rp r hr).1 with
  | nil=>exact absurd rfl (b.rp _ hr).2
  | cons p k=>exact List.mem_map.2 ⟨_,k,rfl⟩
 simpa using this
theorem BI.reach(b:BI E a W h i)(hh:W.length<h)(y:Int):y∈W.map (Zj a)↔Ya E a y:=by
 refine Z8b (fun x z hxz hx=>?_) (fun z hz=>?_) y
 ·have:∃(j:Nat) (r:List Int),([]::W)[j]?=some r∧Zj a r=x:=by
   rcases hx with rfl | hx
   ·exact⟨0,[],rfl,rfl⟩
   ·obtain⟨r,hr,e⟩:=List.mem_map.1 hx
    obtain⟨j,hj,e2⟩:=List.getElem_of_mem hr
    exact⟨j+1,r,by simp[hj,e2],e⟩
  obtain⟨j,r,h1,rfl⟩:=this
  have hj:=(List.getElem?_eq_some_iff.1 h1).1
  simp at hj
  obtain⟨r',h2,h3,_⟩:=b.pr j (by omega) r h1 z hxz
  exact List.mem_map.2 ⟨r',h2,h3⟩
 ·obtain⟨r,hr,rfl⟩:=List.mem_map.1 hz
  obtain⟨x,j,r0,rfl,_⟩:=b.org r hr
  exact Z8d (b.rp _ hr).1 x r0 rfl
theorem BI.first(b:BI E a W h i)(hs:Zh E){r:List Int}{y:Int}(hr:([]::W)[h]?=some r)(he:E[i]?=some (Zj a r,y))(hy:y∉W.map (Zj a)):Lst E a y r:=by
 have hb:=b.push hs hr he hy
 refine⟨(hb.rp (y::r) (by simp)).1,?_⟩
 have key:∀ π,RP E a π→π≠[]→(∃r'∈W,Zj a r'=Zj a π∧Uv r' π)∨Uv (y::r) π:=by
  intro π p
  induction p with
  | nil=>intro h;exact absurd rfl h
  | @cons x π p k ih =>
   intro _
   have step:∀(j:Nat) (q:List Int),([]::W)[j]?=some q→Zj a q=Zj a π→Uv q π→(∃r'∈W,Zj a r'=x∧Uv r' (x::π))∨Uv (y::r) (x::π):=by
    intro j q hq e hle
    rw[←e] at k
    rcases Nat.lt_trichotomy j h with c | c | c
    ·obtain⟨r',h1,h2,h3⟩:=b.pr j c q hq x k
     exact .inl ⟨r',h1,h2,Z2x h3 (Vl x hle)⟩
    ·subst c
     obtain rfl:r=q:=Option.some.inj (hr.symm.trans hq)
     obtain⟨m,hm,em⟩:=List.getElem_of_mem k
     have em':E[m]?=some (Zj a r,x):=by rw[List.getElem?_eq_getElem hm,em]
     by_cases d:m<i
     ·obtain⟨r',h1,h2,h3⟩:=b.pi r hr m x d em'
      exact .inl ⟨r',h1,h2,Z2x h3 (Vl x hle)⟩
     ·refine .inr (Z2x (Z5r r ?_) (Vl x hle))
      rcases Nat.lt_or_eq_of_le (Nat.le_of_not_lt d)with z | z
      ·obtain⟨z2,e2⟩:=List.getElem?_eq_some_iff.1 he
       have:=List.pairwise_iff_getElem.1 hs i m z2 hm z
       rw[e2,em] at this
       unfold elt at this
       simp only at this
       omega
      ·subst z
       rw[he] at em'
       injection em' with em'
       injection em' with _ em'
       exact Int.le_of_eq em'
    ·exact .inr (.inr (Vm y x (Z79 (b.lt c hr hq) hle)))
   by_cases hπ:π=[]
   ·subst hπ
    exact step 0 [] rfl rfl (.inl rfl)
   ·rcases ih hπ with⟨r',h1,h2,h3⟩ | c
    ·obtain⟨j,hj,e2⟩:=List.getElem_of_mem h1
     exact step (j+1) r' (by simp[hj,e2]) h2 h3
    ·exact .inr (.inr (Z5t x c))
 intro π p
 rcases key (y::π) p (by simp) with⟨r',h1,h2,_⟩ | c
 ·exact absurd (List.mem_map.2 ⟨r',h1,h2⟩) hy
 ·exact c
end
def Zi(a:Int × Int):List Value:=[.int .i64 a.1,.int .i64 a.2]
abbrev egV(e:Int × Int):Value:=.agg #[.int .i64 e.1,.int .i64 e.2]
theorem V7:Z07 prog 33 40 2 16 Zi where
 und:=underlying33
 inf:=by
  have h:(prog.info? 40).map (fun i=>(i.zero,i.size,i.bytes))=some (some (.agg #[.int .i64 0,.int .i64 0]),2,16):=by kernel_rfl
  cases e:prog.info? 40 with
  | none=>rw[e] at h;cases h
  | some i =>
   rw[e] at h
   simp only[Option.map_some,Option.some.injEq,Prod.mk.injEq] at h
   exact⟨i,_,rfl,h.1,h.2.1,h.2.2,rfl⟩
 pos:=by decide
 byt:=by decide
 len:=fun _=>rfl
 one:=fun a u hu=>by
  simp only[Zi,List.mem_cons,List.not_mem_nil,or_false] at hu
  rcases hu with rfl | rfl<;>rfl
abbrev Z9(w:World)(g0:Nat)(v:Value)(l:List (Int × Int)):Prop:=Yq 40 2 Zi w g0 v l
abbrev Y4(w:World)(v:Value)(l:List (Int × Int)):Prop:=Rd 2 Zi w v l
theorem Z9.at_{w:World}{g0:Nat}{v:Value}{l:List (Int × Int)}(h:Z9 w g0 v l):Y4 w v l:=Yq.rd (fun _=>rfl) h
theorem RdC.eg{w:World}{b o:Nat}{l:List (Int × Int)}(h:RdC 2 Zi w b o l){i:Nat}(hi:i<l.length):w.cell? ⟨b,o+i*2,none⟩=some (.int .i64 l[i].1)∧w.cell? ⟨b,o+i*2+1,none⟩=some (.int .i64 l[i].2) :=
 ⟨h.cell i hi 0 _ rfl,h.cell i hi 1 _ rfl⟩
theorem Z4z(v:Value)(q:List (Int × Int))(w:World)(hl:q.length≤100000)(h:Y4 w v q) :
  Calls prog 30 #[v] w fun e w'=>∃v',e=.returned v'∧Nw w w'∧Z9 w' w.heap.size v' q:=by
 obtain⟨v',w1,hrun,hO,hN⟩:=Z0l V7 h hl
 obtain⟨a,c,rfl,h⟩:=h
 have en:=fun(w:World) (a:Option Addr) (n c n' c':Nat)=>Lib.run_eql_slice_nil (P:=prog) w 33 40 a n c n' c' underlying33
 have HR:=hD0 hrun
 have HO:=hD0 (aI0 hN hO)
 clear hrun hO hN
 cases a with
 | none =>
  rcases h with⟨rfl,h0⟩ | ⟨b,o,e,_⟩
  ·obtain rfl:=h0 rfl
   go_enter func30,ntmps30
   go_wp2
   go_ret
   exact⟨_,rfl,Nw.refl _,World.ownsRow_nil _ _ _ _⟩
  ·cases e
 | some ad =>
  clear h
  go_enter func30,ntmps30
  go_wp2_with (at_builtin;refine Zg (by rfl) (.tmp 5) (.tmp 6) 33 rfl _ _ _ _ rfl rfl HR.out ?_)
  go_ret
  exact⟨_,rfl,HO.out.1,HO.out.2⟩
theorem Z8g{E:List (Int × Int)}{v:Int}{i:Nat}(hi:i≤E.length)(h1:∀k (hk:k<E.length),k<i→E[k].1<v)(h2:∀(h:i<E.length),v≤E[i].1):Vn E v=i:=by
 rcases Nat.lt_trichotomy (Vn E v) i with q | q | q
 ·have hs:Vn E v<E.length:=by omega
  have:¬E[Vn E v].1<v:=by
   have key:∀ {l:List (Int × Int)} (h:(l.takeWhile fun e=>decide (e.1<v)).length<l.length),¬(l[(l.takeWhile fun e=>decide (e.1<v)).length]).1<v:=by
    intro l
    induction l with
    | nil=>intro h;simp at h
    | cons a t ih =>
     intro h
     by_cases c:a.1<v
     ·have e:((a::t).takeWhile fun e=>decide (e.1<v))=a::(t.takeWhile fun e=>decide (e.1<v)):=by rw[List.takeWhile_cons,if_pos (by simpa using c)]
      have h':(t.takeWhile fun e=>decide (e.1<v)).length<t.length:=by rw[e] at h;simpa using h
      have:=ih h'
      simpa [e] using this
     ·have e:((a::t).takeWhile fun e=>decide (e.1<v))=[]:=by rw[List.takeWhile_cons,if_neg (by simpa using c)]
      simpa [e] using c
   exact key hs
  exact absurd (h1 _ hs q) this
 ·exact q
 ·have hil:i<E.length:=lL0 q (Z15 E v)
  have:=Vx q (List.getElem?_eq_getElem hil)
  have:=h2 hil
  omega
theorem Z95{E:List (Int × Int)}(hs:Zh E){i j:Nat}(hij:i≤j)(hi:i<E.length)(hj:j<E.length):E[i].1≤E[j].1:=by
 rcases Nat.lt_or_eq_of_le hij with q | q
 ·have:=List.pairwise_iff_getElem.1 hs i j hi hj q
  unfold elt at this
  omega
 ·subst q;exact Int.le_refl _
theorem Z98(t:Nat)(h:t≤1000000):wrap64 ((t:Int)+1)=((t+1:Nat):Int):=by unfold wrap64;omega
theorem Z8i(i j:Nat)(h:i≤1000000)(k:j≤1000000):wrap64 ((i:Int)+(j:Int))=(i:Int)+(j:Int):=by unfold wrap64;omega
theorem Z4y{i j i' j':Nat}(h:j'-i'<j-i):(intOf (.int .i64 (j':Int))).toNat-(intOf (.int .i64 (i':Int))).toNat<(intOf (.int .i64 (j:Int))).toNat-(intOf (.int .i64 (i:Int))).toNat:=by
 simpa [intOf] using h
theorem Yf{a b:Nat}(h:a<b):(a:Int)<(b:Int):=Int.ofNat_lt.2 h
theorem Z6n{a b:Nat}(h:a<b):decide ((a:Int)<(b:Int))=true∧decide (a<b)=true:=⟨decide_eq_true (Int.ofNat_lt.2 h),decide_eq_true h⟩
theorem Z4x{a b:Nat}(h:¬a<b):decide ((a:Int)<(b:Int))=false∧decide (a<b)=false:=⟨decide_eq_false (fun q=>h (Int.ofNat_lt.1 q)),decide_eq_false h⟩
theorem V6(t m:Nat)(h:t≤1000000)(h0:t=m+1):IntKind.i64.wrap ((t:Int)-1)=(m:Int):=by rw[IntKind.wrap_i64];omega
theorem Ys(t m:Nat)(h:t≤1000000)(h0:m=t+1):IntKind.i64.wrap ((t:Int)+1)=(m:Int):=by rw[IntKind.wrap_i64];omega
theorem Z9g{t m:Nat}(h0:t=m+1):(intOf (.int .i64 (m:Int))).toNat<(intOf (.int .i64 (t:Int))).toNat:=by
 show(m:Int).toNat<(t:Int).toNat
 omega
theorem Z3i{a b:Nat}(h:a<b):∃c,b=c+1∧a≤c∧c<b:=⟨b-1,by omega,by omega,by omega⟩
theorem V5{n t:Nat}(h:t<n):n-(intOf (.int .i64 ((t+1:Nat):Int))).toNat<n-(intOf (.int .i64 (t:Int))).toNat:=by
 show n-((t+1:Nat):Int).toNat<n-(t:Int).toNat
 omega
theorem Z30(e:Int × Int)(v:Int)(w:World):Calls prog 66 #[egV e,.int .i64 v] w fun e' w'=>e'=.returned (.int .i64 (cP e.1 v))∧Nw w w':=by
 obtain⟨a,b⟩:=e
 go_enter func66,ntmps66
 go_wp2_with (go_at_call 35;refine(Z1i _ _ _).mono ?_;rintro e w' ⟨rfl,rfl⟩)
 go_ret
 exact⟨rfl,(Nw.refl _).alloc _⟩
theorem Z6o:∀args w,(callFunc 66 args).run prog w=.ok (.enter 66 args) w:=enters_of func66 (by kernel_rfl) rfl
theorem Z85(i j t:Nat)(h:((i:Int)+(j:Int))/2=(t:Int))(hij:i<j):i≤t∧t<j:=by omega
structure BsI(E:List (Int × Int))(v:Int)(w:World)(i j:Nat)(wr:World):Prop where
 ij:i≤j
 jn:j≤E.length
 lo:∀k (hk:k<E.length),k<i→E[k].1<v
 hi:∀(h:j<E.length),v≤E[j].1
 nw:Nw w wr
theorem BsI.up{E:List (Int × Int)}{v:Int}{w wr w':World}{i j t:Nat}(h:BsI E v w i j wr)(hs:Zh E)(htj:t<j)(ht:t<E.length)(hlt:E[t].1<v)(g:Nw wr w'):BsI E v w (t+1) j w' :=
 ⟨htj,h.jn,fun k hk hkt=>by
  have:=Z95 hs (Nat.le_of_lt_succ hkt) hk ht
  omega,h.hi,h.nw.trans g⟩
theorem BsI.dn{E:List (Int × Int)}{v:Int}{w wr w':World}{i j t:Nat}(h:BsI E v w i j wr)(hit:i≤t)(ht:t<E.length)(hge:v≤E[t].1)(g:Nw wr w'):BsI E v w i t w' :=
 ⟨hit,Nat.le_of_lt ht,h.lo,fun _=>hge,h.nw.trans g⟩
theorem BsI.end_{E:List (Int × Int)}{v:Int}{w wr:World}{i:Nat}(h:BsI E v w i i wr):Vn E v=i:=Z8g h.jn h.lo h.hi
theorem Z6g(v:Int)(ev:Value)(E:List (Int × Int))(w:World)(hl:E.length≤100000)(hs:Zh E)(h:Y4 w ev E) :
  Calls prog 65 #[ev,.int .i64 v,.func (.func 66) #[] #[]] w fun e w'=>(∃b,e=.returned (.tuple #[.int .i64 (Vn E v),.bool b]))∧Nw w w':=by
 have HS:=hD0 (fun e w=>Z30 e v w)
 have eg:=Z6o
 have hH:=hD0 h
 have HR:=hD0 hs
 obtain⟨a,c,rfl,h'⟩:=h
 clear hs
 obtain⟨r,hr⟩:∃r,Vn E v=r:=⟨_,rfl⟩
 rw[hr]
 have HRr:=hD0 hr
 clear hr
 obtain⟨n,hn⟩:∃n,E.length=n:=⟨_,rfl⟩
 have HN:=hD0 hn
 rw[hn] at hl ⊢
 clear hn h'
 go_enter func65,ntmps65
 go_wp2
 go_loopw [9,10] (fun vi vj wr=>∃i j:Nat,vi=.int .i64 i∧vj=.int .i64 j∧j≤n∧i≤j∧Hid (BsI E v w i j wr)) (fun vi vj _=>(intOf vj).toNat-(intOf vi).toNat)
 case atStart=>exact⟨0,n,rfl,rfl,Nat.le_refl _,Nat.zero_le _,hD0 ⟨Nat.zero_le _,Nat.le_of_eq HN.out.symm,fun k hk q=>by omega,fun h=>absurd h (by rw[HN.out];exact Nat.lt_irrefl _),Nw.refl _⟩⟩
 case round =>
  obtain⟨i,j,rfl,rfl,hjn,hij,HB⟩:=hrel
  by_cases hlt:i<j
  ·have dlt:decide ((i:Int)<(j:Int))=true:=by rw[decide_eq_true_iff];omega
   have dlt2:decide (i<j)=true:=by simpa using hlt
   have w2:=Z8i i j (by omega) (by omega)
   obtain⟨t,hh⟩:∃t:Nat,((i:Int)+(j:Int))/2=(t:Int):=⟨(i+j)/2,by omega⟩
   obtain⟨hf1,hf2⟩:=Z85 i j t hh hlt
   have htE:t<E.length:=by have:=HN.out;omega
   have htn:t<n:=by omega
   have htn':(t:Int)<(n:Int):=by omega
   have w4:=Z98 t (by omega)
   obtain⟨a',c',e1,hc⟩:=hH.out.nw HB.out.nw
   rcases hc with⟨hc,_⟩ | ⟨b,o,e2,hc⟩
   ·rw[hc] at htE;simp at htE
   ·simp only[Value.slice.injEq] at e1
    obtain⟨rfl,_,rfl⟩:=e1
    subst e2
    obtain⟨c0,c1⟩:=hc.eg htE
    have hbl:=hc.lt
    obtain⟨e,he⟩:∃e,E[t]=e:=⟨_,rfl⟩
    rw[he] at c0 c1
    have HE:=hD0 he
    obtain⟨x,y⟩:=e
    simp only at c0 c1
    have HC:=hD0 (HS.out (x,y))
    clear hc he
    by_cases hx:x<v
    ·have hp:cP x v = -1:=Z7f x v hx
     rw[hp] at HC
     have HX:=hD0 hx
     clear hx
     go_wp2_with (go_at_fn 66;refine(HC.out _).mono ?_;rintro e' w1 ⟨rfl,g1⟩)
     go_roundw
     case rel=>exact⟨t+1,j,congrArg (Value.int .i64) (by first | exact w4 | rfl),rfl,hjn,hf2,hD0 (HB.out.up HR.out hf2 htE (by rw[HE.out];exact HX.out) g1)⟩
     case measure=>first | exact Z4y (i':=t+1) (j':=j) (by omega) | (rw[w4];exact Z4y (i':=t+1) (j':=j) (by omega))
    ·have hp:¬cP x v<0:=by
      unfold cP
      rw[if_neg hx]
      split<;>omega
     obtain⟨z,hz⟩:∃z,cP x v=z:=⟨_,rfl⟩
     rw[hz] at hp HC
     have dz:decide (z<0)=false:=by simpa using hp
     have HX:=hD0 (Int.not_lt.1 hx)
     clear hx hp hz
     go_wp2_with (go_at_fn 66;refine(HC.out _).mono ?_;rintro e' w1 ⟨rfl,g1⟩)
     go_roundw
     case rel=>exact⟨i,t,rfl,rfl,by omega,hf1,hD0 (HB.out.dn hf1 htE (by rw[HE.out];exact HX.out) g1)⟩
     case measure=>exact Z4y (i':=i) (j':=t) (by omega)
  ·obtain rfl:i=j:=by omega
   have hst:=(HRr.out.symm.trans HB.out.end_).symm
   subst hst
   have HW:=hD0 HB.out.nw
   by_cases hin:i<n
   ·have dlt:decide ((i:Int)<(n:Int))=true:=by rw[decide_eq_true_iff];omega
    have dlt2:decide (i<n)=true:=by simpa using hin
    have hin':(i:Int)<(n:Int):=by omega
    have htE:i<E.length:=by have:=HN.out;omega
    obtain⟨a',c',e1,hc⟩:=hH.out.nw HB.out.nw
    rcases hc with⟨hc,_⟩ | ⟨b,o,e2,hc⟩
    ·rw[hc] at htE;simp at htE
    ·simp only[Value.slice.injEq] at e1
     obtain⟨rfl,_,rfl⟩:=e1
     subst e2
     obtain⟨c0,c1⟩:=hc.eg htE
     have hbl:=hc.lt
     obtain⟨e,he⟩:∃e,E[i]=e:=⟨_,rfl⟩
     rw[he] at c0 c1
     obtain⟨x,y⟩:=e
     simp only at c0 c1
     have HC:=hD0 (HS.out (x,y))
     clear hc he
     go_wp2_with (go_at_fn 66;refine(HC.out _).mono ?_;rintro e' w1 ⟨rfl,g1⟩)
     go_ret2
     exact⟨⟨_,rfl⟩,HW.out.trans g1⟩
   ·have dlt:decide ((i:Int)<(n:Int))=false:=by rw[decide_eq_false_iff_not];omega
    have dlt2:decide (i<n)=false:=by simpa using hin
    go_wp2
    go_ret2
    exact⟨⟨_,rfl⟩,HW.out⟩
theorem Z0p(v:Int)(ev:Value)(E:List (Int × Int))(w:World)(hl:E.length≤100000)(hs:Zh E)(h:Y4 w ev E) :
  Calls prog 48 #[ev,.int .i64 v] w fun e w'=>e=.returned (.int .i64 (Vn E v))∧Nw w w':=by
 have HB:=hD0 (Z6g v ev E w hl hs h)
 obtain⟨a,c,rfl⟩:=h.form
 clear h hs
 go_enter func48,ntmps48
 go_wp2_with fail
 refine HB.out.mono ?_
 rintro e w1 ⟨⟨b,rfl⟩,g1⟩
 go_wp2
 go_ret
 exact⟨rfl,g1⟩
structure Y6(l:List (Int × Int))(k:Nat)(out:List (Int × Int)):Prop where
 srt:Zh out
 mem:∀x,x∈out↔x∈l.take k
 len:out.length≤k
abbrev Z4k(l:List (Int × Int)):Prop:=l.Pairwise fun a b=>¬elt b a
theorem Z3p{l:List (Int × Int)}{k:Nat}(hk:k<l.length)(x:Int × Int):x∈l.take (k+1)↔x∈l.take k∨x=l[k]:=by
 rw[List.take_succ_eq_append_getElem hk,List.mem_append,List.mem_singleton]
theorem Y6.start(l:List (Int × Int)):Y6 l 0 []:=⟨List.Pairwise.nil,by simp,Nat.le_refl _⟩
theorem Y6.push{l out:List (Int × Int)}{k:Nat}(h:Y6 l k out)(hw:Z4k l)(hk:k<l.length)(hn:k=0∨∃j,∃hj:j<l.length,k=j+1∧l[k]≠l[j]):Y6 l (k+1) (out++[l[k]]):=by
 refine⟨List.pairwise_append.2 ⟨h.srt,by simp,fun x hx y hy=>?_⟩,fun x=>?_,by rw[List.length_append,List.length_singleton];have:=h.len;omega⟩
 ·rw[List.mem_singleton.1 hy]
  obtain⟨i,hi,e⟩:=List.getElem_of_mem ((h.mem x).1 hx)
  simp only[List.length_take] at hi
  rw[List.getElem_take] at e
  subst e
  have hik:i<k:=by omega
  have h1:=List.pairwise_iff_getElem.1 hw i k (by omega) hk hik
  rcases Z0y l[i] l[k] with q | q | q
  ·exact q
  ·exfalso
   rcases hn with z | ⟨j,hj,rfl,z⟩
   ·omega
   ·rcases Nat.lt_or_eq_of_le (show i≤j by omega)with a | a
    ·have h2:=List.pairwise_iff_getElem.1 hw i j (by omega) hj a
     have h3:=List.pairwise_iff_getElem.1 hw j (j+1) hj hk (Nat.lt_succ_self j)
     rw[q] at h2
     rcases Z0y l[j] l[j+1] with b | b | b
     ·exact h2 b
     ·exact z b.symm
     ·exact h3 b
    ·subst a;exact z q.symm
  ·exact absurd q h1
 ·rw[List.mem_append,List.mem_singleton,h.mem x,Z3p hk]
theorem Y6.skip{l out:List (Int × Int)}{k j:Nat}(h:Y6 l k out)(hk:k<l.length)(hj:j<l.length)(e:k=j+1)(hn:l[k]=l[j]):Y6 l (k+1) out:=by
 refine⟨h.srt,fun x=>?_,by have:=h.len;omega⟩
 rw[h.mem x,Z3p hk]
 refine⟨.inl,fun q=>q.elim id fun q=>?_⟩
 subst e
 rw[q,hn]
 refine List.mem_of_getElem? (i:=j) ?_
 rw[List.getElem?_take_of_lt (Nat.lt_succ_self j),List.getElem?_eq_getElem hj]
theorem Y6.done{l out:List (Int × Int)}{k:Nat}(h:Y6 l k out)(hk:l.length≤k){m:List (Int × Int)}(hp:l.Perm m):out=sortE m :=
 Z5v h.srt fun x=>(h.mem x).trans (by rw[List.take_of_length_le hk];exact hp.mem_iff)
theorem Z24(x:Int × Int):∀l:List (Int × Int),(V9 x l).length≤l.length+1
 | []=>by simp[V9]
 | b::o=>by
  have ih:=Z24 x o
  unfold V9
  split
  ·simpa using ih
  ·split<;>simp
theorem Z0h:∀(l o:List (Int × Int)),(l.foldl (fun o x=>V9 x o) o).length≤o.length+l.length
 | [],o=>Nat.le_refl _
 | a::t,o=>by
  have h1:=Z0h t (V9 a o)
  have h2:=Z24 a o
  simp only[List.foldl_cons,List.length_cons]
  omega
theorem Vw(l:List (Int × Int)):(sortE l).length≤l.length:=by
 have:=Z0h l []
 simp only[List.length_nil,Nat.zero_add] at this
 exact this
section
open Go.RowKit Go.Sort Go.Shelf
theorem Z82{w:World}{g:Nat}{cur F:Array Value}{e:TypeId}(hb:w.heap[g]?=some (.cells cur e (0,0)))(ht:cur.toList.take F.size=F.toList):Holds id w g 0 F:=by
 intro j hj
 refine⟨?_,by simp[World.frozen?,hb]⟩
 have h1:(cur.toList.take F.size)[j]?=F.toList[j]?:=by rw[ht]
 rw[List.getElem?_take_of_lt hj] at h1
 simp only[World.cell?,hb,Nat.zero_add]
 simp only[Option.isSome_none,Bool.false_eq_true,if_false]
 rw[←Array.getElem?_toList,h1]
 simp[hj]
theorem Z8z{w:World}{g n:Nat}{os:Array Obj}{cur:Array Value}{e:TypeId}{fr:Nat × Nat}(F:Array Value)(hb:w.heap[g]?=some (.cells cur e fr)) :
  (grow (putRow id (Sort.ahead w n) g 0 F) os).heap[g]?=some (.cells (putCells id 0 F cur) e fr):=by
 have hg:g<w.heap.size:=(Array.getElem?_eq_some_iff.1 hb).1
 rw[heap_grow_old _ _ (by simpa using hg)]
 simp[putRow,mapBlock,Sort.ahead,Array.getElem?_modify,hb,onCells]
theorem Z9p{w:World}{g n:Nat}{os:Array Obj}(F:Array Value):Zc (fun b=>b=g) w (grow (putRow id (Sort.ahead w n) g 0 F) os):=by
 refine⟨rfl,rfl,rfl,by simp,fun k hk hne=>?_⟩
 rw[heap_grow_old _ _ (by simpa using hk)]
 have:g≠k:=fun e=>hne e.symm
 simp[putRow,mapBlock,Sort.ahead,Array.getElem?_modify,this]
theorem Z99(cur F:Array Value)(h:F.size≤cur.size):(putCells id 0 F cur).toList.take F.size=F.toList:=by
 apply List.ext_getElem?
 intro j
 by_cases hj:j<F.size
 ·rw[List.getElem?_take_of_lt hj,Array.getElem?_toList]
  simp[putCells,hj,show j<cur.size by omega]
 ·rw[List.getElem?_take_eq_none (by omega),List.getElem?_eq_none (by simp;omega)]
theorem Z7i{α:Type}[Inhabited α]{sz:Nat}{row:α→List Value}(hz:0<sz)(hl:∀a,(row a).length=sz)(ss:List α):flatK row sz ss.toArray=⟨Z6 row ss⟩:=by
 have hlen:(Z6 row ss).length=ss.length*sz:=Y9 hl ss
 apply Array.ext
 ·rw[size_flatK];simp[hlen]
 ·intro t h1 h2
  rw[size_flatK] at h1
  have h1':t<ss.length*sz:=by simpa using h1
  have hd:t/sz<ss.length:=Nat.div_lt_of_lt_mul (by rwa [Nat.mul_comm])
  have hm:t%sz<sz:=Nat.mod_lt _ hz
  have h3:=Y3 hl ss (t/sz) (t%sz) hd hm
  rw[show t/sz*sz+t%sz=t by rw[Nat.mul_comm];exact Nat.div_add_mod t sz] at h3
  have e1:=get_flatK row sz ss.toArray t h1
  rw[getElem!_pos _ t (by rw[size_flatK];exact h1)] at e1
  rw[e1,getElem!_pos ss.toArray (t/sz) (by simpa using hd)]
  have e2:(⟨Z6 row ss⟩:Array Value)[t]?=(row ss[t/sz])[t%sz]?:=by
   rw[←h3];simp
  rw[Array.getElem?_eq_getElem h2] at e2
  simp only[List.getElem_toArray]
  rw[getElem!_pos _ _ (by rw[hl];exact hm)]
  rw[List.getElem?_eq_getElem (by rw[hl];exact hm)] at e2
  exact(Option.some.inj e2).symm
theorem Z96{α:Type}[Inhabited α]{d d':Array α}(h:PermIn 0 d.size d d'):d'.toList.Perm d.toList:=by
 obtain⟨h1,_,h3⟩:=h
 have e1:d'.extract 0 d.size=d':=by rw[←h1];exact Array.extract_size
 have e2:d.extract 0 d.size=d:=Array.extract_size
 rwa [e1,e2] at h3
theorem Z7a{α:Type}[Inhabited α]{lt:α→α→Bool}{d':Array α}{n:Nat}(hn:d'.size=n)(h:SortedIn lt 0 n d'):d'.toList.Pairwise fun a b=>lt b a=false:=by
 rw[List.pairwise_iff_getElem]
 intro i j hi hj hij
 have:=h i j (Nat.zero_le _) hij (by rw[←hn];simpa using hj)
 have hi':i<d'.size:=by simpa using hi
 have hj':j<d'.size:=by simpa using hj
 rw[getElem!_pos d' i hi',getElem!_pos d' j hj'] at this
 simpa using this
theorem Z4g{α:Type}[Inhabited α]{ST T:TypeId}{sz bytes:Nat}{row:α→List Value}(E:Z07 prog ST T sz bytes row){ρ:Ren}(L:SlLaysF0.n6 prog ρ)(aE:∀w,(isAgg (ρ.t 24)).run prog w=.ok true w)(zE:∀w,(Go.sizeOf (ρ.t 24)).run prog w=.ok sz w)
  (cf:α→α→Int) (hO:SWO (ltOf cf)) (fn:Nat) (eg:∀args w,(callFunc fn args).run prog w=.ok (.enter fn args) w)
  (hc:∀x y W,Calls prog fn #[.agg (row x).toArray,.agg (row y).toArray] W fun e w'=>e=.returned (.int .i64 (cf x y))∧GG W w')
  (g0 g cap:Nat) (ss:List α) (w:World) (h:Yq T sz row w g0 (.slice (some ⟨g,0,none⟩) ss.length cap) ss) (hsm:ss.length≤100000) :
  Calls prog (ρ.f 6) #[.slice (some ⟨g,0,none⟩) ss.length cap,.func (.func fn) #[] #[]] w fun e w'=>e=.returned (.tuple #[])∧∃l:List α,l.Perm ss∧(l.Pairwise fun a b=>ltOf cf b a=false)∧Yq T sz row w' g0 (.slice (some ⟨g,0,none⟩) l.length cap) l∧Zc (fun b=>b=g) w w':=by
 obtain⟨hx,hr⟩:=h
 rcases hr with⟨h0,_⟩ | ⟨g',cap',cur,h1,h2,h3,h4,h5,h6,h7⟩
 ·simp at h0
 ·simp only[Value.slice.injEq,Option.some.injEq,Addr.mk.injEq,and_true,true_and] at h1
  obtain⟨rfl,rfl⟩:=h1
  have hF:(⟨Z6 row ss⟩:Array Value).size=ss.length*sz:=Y9 E.len ss
  have hH:HoldsK row sz w g 0 ss.toArray:=by
   unfold HoldsK
   rw[Z7i E.pos E.len]
   exact Z82 h3 (by rw[hF];exact h7)
  have hcl:CmpLays prog fn #[] row sz cf g 0 ss.toArray.size w:=fun _ _ _ _ x y=>hc x y _
  refine Calls.mono (AnyQ.slices_SortFunc L sz aE zE row E.len E.one cf hO fn #[] g 0 cap ss.toArray w eg hcl hH (hlt h3) (by simp;omega)) ?_
  rintro e w' ⟨rfl,d',n,os,hp,hs,rfl⟩
  have hsz:d'.size=ss.length:=by have:=hp.1;simpa using this
  have hp2:=Z96 hp
  refine⟨rfl,d'.toList,by simpa using hp2,Z7a (by simpa using hsz) hs,?_,?_⟩
  ·have hl:d'.toList.length=ss.length:=by simpa using hsz
   have hz:(⟨Z6 row d'.toList⟩:Array Value).size=ss.length*sz:=by rw[←hl];exact Y9 E.len _
   unfold sortWorldK putRowK
   have ef:flatK row sz d'=⟨Z6 row d'.toList⟩:=by
    have:=Z7i E.pos E.len d'.toList
    rwa [Array.toArray_toList] at this
   rw[ef]
   unfold Yq
   rw[hl]
   refine⟨by show(Z6 row d'.toList).length=_;exact hz,.inr ⟨g,cap,_,rfl,h2,Z8z _ h3,h4,h5,by simp[putCells,h6],?_⟩⟩
   have:=Z99 cur ⟨Z6 row d'.toList⟩ (by rw[hz,h6];exact Nat.mul_le_mul_right sz h4)
   rw[hz] at this
   exact this
  ·exact Z9p _
end
end Go.Proofs.Ytpmlaphjlghpmaa
namespace Go.Proofs
open _root_.Go.Proofs.Try
open Go.Shelf
def Try.sortE_ren:Go.Shelf.Ren:=⟨fun | 6=>32 | 15=>54 | 14=>53 | 28=>76 | 29=>77 | 20=>68 | 21=>69 | 22=>70 | 23=>71 | 24=>72 | 25=>73 | 26=>74 | 27=>75 | 46=>93 | 47=>94 | 48=>95 | 49=>96 | 50=>97 | 57=>102 | n=>n,fun | 22=>33 | 24=>40 | 25=>70 | 3=>3 | 39=>87 | 0=>0 | 53=>106 | 55=>108 | 4=>4 | 46=>100 | 45=>99 | 50=>55 | 5=>5 | 9=>9 | 66=>120 | 70=>124 | 76=>128 | 77=>129 | n=>n,fun | n=>n⟩
theorem Try.sortE:Go.Proofs.SlLaysF0.n6 prog Try.sortE_ren:={
 mixed:=by kernel_rfl
 f6:=⟨Try.f32.name,by decide,func32.trans (congrArg some (by kernel_rfl))⟩
 f14:=⟨Try.f53.name,by decide,func53.trans (congrArg some (by kernel_rfl))⟩
 f15:=func54.trans (congrArg some (by kernel_rfl))
 f20:=⟨Try.f68.name,by decide,func68.trans (congrArg some (by kernel_rfl))⟩
 f21:=⟨Try.f69.name,by decide,func69.trans (congrArg some (by kernel_rfl))⟩
 f22:=⟨Try.f70.name,by decide,func70.trans (congrArg some (by kernel_rfl))⟩
 f23:=⟨Try.f71.name,by decide,func71.trans (congrArg some (by kernel_rfl))⟩
 f24:=⟨Try.f72.name,by decide,func72.trans (congrArg some (by kernel_rfl))⟩
 f25:=⟨Try.f73.name,by decide,func73.trans (congrArg some (by kernel_rfl))⟩
 f26:=⟨Try.f74.name,by decide,func74.trans (congrArg some (by kernel_rfl))⟩
 f27:=⟨Try.f75.name,by decide,func75.trans (congrArg some (by kernel_rfl))⟩
 f28:=func76.trans (congrArg some (by kernel_rfl))
 f29:=func77.trans (congrArg some (by kernel_rfl))
 f46:=⟨Try.f93.name,by decide,func93.trans (congrArg some (by kernel_rfl))⟩
 f47:=func94.trans (congrArg some (by kernel_rfl))
 f48:=func95.trans (congrArg some (by kernel_rfl))
 f49:=⟨Try.f96.name,by decide,func96.trans (congrArg some (by kernel_rfl))⟩
 f50:=⟨Try.f97.name,by decide,func97.trans (congrArg some (by kernel_rfl))⟩
 f57:=⟨Try.f102.name,by decide,func102.trans (congrArg some (by kernel_rfl))⟩
 t0:=underlying0
 a0:=Try.isAgg0
 z0:=Try.sizeOf0
 v0:=Try.zeroValue0
 t3:=underlying3
 a3:=Try.isAgg3
 z3:=Try.sizeOf3
 v3:=Try.zeroValue3
 t4:=underlying4
 a4:=Try.isAgg4
 z4:=Try.sizeOf4
 v4:=Try.zeroValue4
 t5:=underlying5
 a5:=Try.isAgg5
 z5:=Try.sizeOf5
 v5:=Try.zeroValue5
 t9:=underlying9
 a9:=Try.isAgg9
 z9:=Try.sizeOf9
 v9:=Try.zeroValue9
 t22:=underlying33
 a22:=Try.isAgg33
 z22:=Try.sizeOf33
 v22:=Try.zeroValue33
 t25:=underlying70
 a25:=Try.isAgg70
 z25:=Try.sizeOf70
 v25:=Try.zeroValue70
 t39:=underlying87
 a39:=Try.isAgg87
 z39:=Try.sizeOf87
 v39:=Try.zeroValue87
 t45:=underlying99
 a45:=Try.isAgg99
 z45:=Try.sizeOf99
 v45:=Try.zeroValue99
 t46:=underlying100
 a46:=Try.isAgg100
 z46:=Try.sizeOf100
 v46:=Try.zeroValue100
 t50:=underlying55
 a50:=Try.isAgg55
 z50:=Try.sizeOf55
 v50:=Try.zeroValue55
 t53:=underlying106
 a53:=Try.isAgg106
 z53:=Try.sizeOf106
 v53:=Try.zeroValue106
 t55:=underlying108
 a55:=Try.isAgg108
 z55:=Try.sizeOf108
 v55:=Try.zeroValue108
 t66:=underlying120
 a66:=Try.isAgg120
 z66:=Try.sizeOf120
 v66:=Try.zeroValue120
 t70:=underlying124
 a70:=Try.isAgg124
 z70:=Try.sizeOf124
 v70:=Try.zeroValue124
 t76:=underlying128
 a76:=Try.isAgg128
 z76:=Try.sizeOf128
 v76:=Try.zeroValue128
 t77:=underlying129
 a77:=Try.isAgg129
 z77:=Try.sizeOf129
 v77:=Try.zeroValue129 }
end Go.Proofs
namespace Go.Proofs.Ytpmlaphjlghpmaa
open Go.RowKit _root_.Go.Proofs.Try
open Go.Shelf
theorem opH{P:Program}{ops:Array Oper}{Q:Exit→Act→World→Prop}{i:Nat}{o:Oper}{K:Act→World→Prop}{a:Act}{w:World}(ho:ops[i]?=some o)
  (h:∀K':Act→World→Prop,(∀a w,K a w→K' a w)→if Region.wanted o (yielded ops a.tmps)=true then Oper.wp P o a w K' Q else K' (a.put o.dst undef) w):wpOp P ops Q i K a w:=by
 unfold wpOp
 simp only[ho]
 have:=h K (fun _ _ q=>q)
 split
 ·rename_i hw
  rw[if_pos hw] at this
  exact .inl this
 ·rename_i hw
  rw[if_neg hw] at this
  exact this
section
variable {P:Program} {md:Region.Mode} {ops:Array Oper} {Q:Exit→Act→World→Prop} {S:World→Prop}
def Z04(md:Region.Mode)(ops:Array Oper)(t i:Nat):Bool:=match ops[t]? with
 | some o=>o.after.any fun e=>Region.binds md e&&e.on==i
 | none=>true
end
section
variable {P:Program} {md:Region.Mode} {ops:Array Oper} {Q:Exit→Act→World→Prop} {S:World→Prop} {ts:List Nat}
def Z7(P:Program)(md:Region.Mode)(ops:Array Oper)(Q:Exit→Act→World→Prop)(S:World→Prop)(ts:List Nat):Nat→Array Bool→Act→World→Prop
 | 0,listed,a,w=>Region.ready md ops listed=[]∧Q .normal a w
 | fuel+1,listed,a,w =>
  (Region.ready md ops listed=[]→Q .normal a w) ∧
  ∀i∈Region.ready md ops listed,wpOp P ops Q i (fun a' w'=>(S w→i∈ts∨S w')∧Z7 P md ops Q S ts fuel (listed.setIfInBounds i true) a' w') a w
theorem Z05:∀(fuel:Nat) (listed:Array Bool) (a:Act) (w:World),Z7 P md ops Q S ts fuel listed a w→wpAny P md ops Q fuel listed a w
 | 0,_,_,_,h=>h
 | fuel+1,_,_,_,h=>⟨h.1,fun i hi=>wpOp_mono (fun a' w' h'=>Z05 fuel _ a' w' h'.2) (h.2 i hi)⟩
theorem Z1a{i:Nat}{oi:Oper}{v:Value}(hi:ops[i]?=some oi)(ht:(ts.all fun j=>Z04 md ops j i)=true)(hsel:∀(j:Nat) (o:Oper) cs b,ops[j]?=some o→o.op≠.select cs b)
  (hQ:∀c a w,Q (.panic c) (a.put oi.dst v) w→Q (.panic c) a w) :
  ∀(fuel:Nat) (listed:Array Bool) (a:Act) (w:World),
   (∀j oj,ops[j]?=some oj→j≠i→listed.getD j true=false→(∀e∈oj.after,Region.binds md e=true→e.on≠i)→oi.apart ops oj=true) →
   i∈Region.ready md ops listed→YieldsIf P ops S oi v a→S w →
   Z7 P md ops Q S ts fuel (listed.setIfInBounds i true) (a.put oi.dst v) w→Z7 P md ops Q S ts (fuel+1) listed a w:=by
 intro fuel
 induction fuel with
 | zero =>
  intro listed a w _ hr hy hS H
  refine⟨fun h=>(by rw[h] at hr;cases hr),fun j hj=>?_⟩
  by_cases hji:j=i
  ·subst hji;exact hy.wpOp hi hS ⟨.inr,H⟩
  ·have:=ready_mono hj hji
   rw[H.1] at this
   cases this
 | succ fuel ih =>
  intro listed a w hfree hr hy hS H
  refine⟨fun h=>(by rw[h] at hr;cases hr),fun j hj=>?_⟩
  by_cases hji:j=i
  ·subst hji;exact hy.wpOp hi hS ⟨.inr,H⟩
  ·have h1:=H.2 j (ready_mono hj hji)
   obtain⟨hjun,oj,hoj,hall⟩:=mem_ready.1 hj
   have hnot:∀e∈oj.after,Region.binds md e=true→e.on≠i:=fun e he hb heq=>by
    have h1:=hall e he hb
    have h0:=(mem_ready.1 hr).1
    rw[heq] at h1
    rcases Nat.lt_or_ge i listed.size with h' | h'
    ·simp[h'] at h0 h1;rw[h0] at h1;cases h1
    ·simp[Array.getElem?_eq_none h'] at h1
   have hjt:j∉ts:=fun hjt=>by
    have ht:=List.all_eq_true.1 ht j hjt
    unfold Z04 at ht
    rw[hoj] at ht
    obtain⟨e,he,hb⟩:=Array.any_eq_true'.1 ht
    rw[Bool.and_eq_true,beq_iff_eq] at hb
    exact hnot e he hb.1 hb.2
   have h2:=wpOp_putIf hoj (hfree j oj hoj hji hjun hnot) (fun cs b=>hsel i oi cs b hi) (fun cs b=>hsel j oj cs b hoj) hQ hy h1
   have hfree':∀k ok,ops[k]?=some ok→k≠i→(listed.setIfInBounds j true).getD k true=false →
     (∀e∈ok.after,Region.binds md e=true→e.on≠i)→oi.apart ops ok=true:=fun k ok hk hki hun hno=>by
    refine hfree k ok hk hki ?_ hno
    by_cases hjk:j=k
    ·subst hjk;exact hjun
    ·rw[getD_set_ne true hjk] at hun;exact hun
   refine wpOp_mono (fun a' w' h3=>⟨h3.2.1,ih (listed.setIfInBounds j true) a' w' hfree' (ready_mono hr (Ne.symm hji)) h3.1 ((h3.2.1 hS).resolve_left hjt) ?_⟩) h2
   rw[Array.setIfInBounds_comm _ _ hji]
   exact h3.2.2
theorem Z1b{i:Nat}{oi:Oper}{v:Value}(hi:ops[i]?=some oi)(hsel:∀(j:Nat) (o:Oper) cs b,ops[j]?=some o→o.op≠.select cs b)
  (hQ:∀c a w,Q (.panic c) (a.put oi.dst v) w→Q (.panic c) a w) :
  ∀(fuel:Nat) (listed:Array Bool) (a:Act) (w:World),
   (∀j oj,ops[j]?=some oj→j≠i→listed.getD j true=false→(∀e∈oj.after,Region.binds md e=true→e.on≠i)→oi.apart ops oj=true) →
   i∈Region.ready md ops listed→YieldsIf P ops (fun _=>True) oi v a →
   Z7 P md ops Q S ts fuel (listed.setIfInBounds i true) (a.put oi.dst v) w→Z7 P md ops Q S ts (fuel+1) listed a w:=by
 intro fuel
 induction fuel with
 | zero =>
  intro listed a w _ hr hy H
  refine⟨fun h=>(by rw[h] at hr;cases hr),fun j hj=>?_⟩
  by_cases hji:j=i
  ·subst hji;exact hy.wpOp hi trivial ⟨.inr,H⟩
  ·have:=ready_mono hj hji
   rw[H.1] at this
   cases this
 | succ fuel ih =>
  intro listed a w hfree hr hy H
  refine⟨fun h=>(by rw[h] at hr;cases hr),fun j hj=>?_⟩
  by_cases hji:j=i
  ·subst hji;exact hy.wpOp hi trivial ⟨.inr,H⟩
  ·have h1:=H.2 j (ready_mono hj hji)
   obtain⟨hjun,oj,hoj,hall⟩:=mem_ready.1 hj
   have hnot:∀e∈oj.after,Region.binds md e=true→e.on≠i:=fun e he hb heq=>by
    have h1:=hall e he hb
    have h0:=(mem_ready.1 hr).1
    rw[heq] at h1
    rcases Nat.lt_or_ge i listed.size with h' | h'
    ·simp[h'] at h0 h1;rw[h0] at h1;cases h1
    ·simp[Array.getElem?_eq_none h'] at h1
   have h2:=wpOp_putIf hoj (hfree j oj hoj hji hjun hnot) (fun cs b=>hsel i oi cs b hi) (fun cs b=>hsel j oj cs b hoj) hQ hy h1
   have hfree':∀k ok,ops[k]?=some ok→k≠i→(listed.setIfInBounds j true).getD k true=false →
     (∀e∈ok.after,Region.binds md e=true→e.on≠i)→oi.apart ops ok=true:=fun k ok hk hki hun hno=>by
    refine hfree k ok hk hki ?_ hno
    by_cases hjk:j=k
    ·subst hjk;exact hjun
    ·rw[getD_set_ne true hjk] at hun;exact hun
   refine wpOp_mono (fun a' w' h3=>⟨h3.2.1,ih (listed.setIfInBounds j true) a' w' hfree' (ready_mono hr (Ne.symm hji)) h3.1 ?_⟩) h2
   rw[Array.setIfInBounds_comm _ _ hji]
   exact h3.2.2
theorem Z1(i:Nat){oi:Oper}{fuel:Nat}{listed:Array Bool}{a:Act}{w:World}(hi:ops[i]?=some oi)(ht:(ts.all fun j=>Z04 md ops j i)=true)
  (hs:Region.noSelect ops=true) (hf:Region.free md ops listed i=true) (hr:(Region.ready md ops listed).contains i=true)
  (hQ:∀v c a w,Q (.panic c) (a.put oi.dst v) w→Q (.panic c) a w) (hS:S w)
  (h:∃v,YieldsIf P ops S oi v a∧Z7 P md ops Q S ts fuel (listed.setIfInBounds i true) (a.put oi.dst v) w):Z7 P md ops Q S ts (fuel+1) listed a w:=by
 obtain⟨v,hy,h⟩:=h
 exact Z1a hi ht (Region.noSelect_spec hs) (hQ v) fuel listed a w (Region.free_spec hi hf) (by simpa using hr) hy hS h
theorem Z0(i:Nat){oi:Oper}{fuel:Nat}{listed:Array Bool}{a:Act}{w:World}(hi:ops[i]?=some oi)
  (hs:Region.noSelect ops=true) (hf:Region.free md ops listed i=true) (hr:(Region.ready md ops listed).contains i=true)
  (hQ:∀v c a w,Q (.panic c) (a.put oi.dst v) w→Q (.panic c) a w)
  (h:∃v,YieldsIf P ops (fun _=>True) oi v a∧Z7 P md ops Q S ts fuel (listed.setIfInBounds i true) (a.put oi.dst v) w):Z7 P md ops Q S ts (fuel+1) listed a w:=by
 obtain⟨v,hy,h⟩:=h
 exact Z1b hi (Region.noSelect_spec hs) (hQ v) fuel listed a w (Region.free_spec hi hf) (by simpa using hr) hy h
theorem Z4{listed:Array Bool}{a:Act}{w:World}(hr:Region.ready md ops listed=[])(h:Q .normal a w) :
  ∀fuel,Z7 P md ops Q S ts fuel listed a w
 | 0=>⟨hr,h⟩
 | _+1=>⟨fun _=>h,by rw[hr];simp⟩
theorem Z3(i:Nat){o:Oper}{fuel:Nat}{listed:Array Bool}{a:Act}{w:World}(hr:Region.ready md ops listed=[i])(ho:ops[i]?=some o)
  (h:∀K':Act→World→Prop,(∀a w,i∈ts∨S w→Z7 P md ops Q S ts fuel (listed.setIfInBounds i true) a w→K' a w)→if Region.wanted o (yielded ops a.tmps)=true then Oper.wp P o a w K' Q else K' (a.put o.dst undef) w):Z7 P md ops Q S ts (fuel+1) listed a w :=
 ⟨fun h0=>absurd (hr▸h0) (by simp),fun j hj=>by
  rw[hr] at hj
  obtain rfl:j=i:=by simpa using hj
  exact opH ho (fun K' hK=>h K' (fun a w q1 q2=>hK a w ⟨fun _=>q1,q2⟩))⟩
theorem Z8{id:Nat}{l:List Oper}{a:Act}{w:World}(ts:List Nat)(S:World→Prop)(hm:P.follows .mixedOrders=true)
  (h:Z7 P .any l.toArray (NoPanic Q) S ts l.toArray.size (Array.replicate l.toArray.size false) a w.drew):(Code.region id l.toArray true).wp P Q a w :=
 wp_region_noPanic (wp_region_any hm (Z05 _ _ _ _ h))
end
end Go.Proofs.Ytpmlaphjlghpmaa
