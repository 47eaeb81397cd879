/- Texts merged: WbS, WcA, WcG, WbO, TbM, SortE, Rr, Rt, Ru, WcM, WbC, WdI, WdG -/
import Derived.Test.YtobnolgphljoeaaGreatWaitsCallsB1
import Derived.Shelf.Abstract
import Derived.Test.YtobnolgphljoeaaGreatChecked
import Derived.OrdersHeld
set_option linter.unusedVariables false
set_option maxRecDepth 100000
set_option maxHeartbeats 16000000
namespace Go.Proofs.YtobnolgphljoeaaGreat
open Go.RowKit _root_.Go.Proofs.Tryz
def Z0l:List Int→List Int→Prop
 | x::a,y::b=>Z0l a b∨(a=b∧x<y)
 | _,_=>False
def slt(a b:List Int):Prop:=a.length<b.length∨(a.length=b.length∧Z0l a b)
def sle(a b:List Int):Prop:=a=b∨slt a b
theorem Z4g:∀ {a b c:List Int},Z0l a b→Z0l b c→Z0l a c
 | [],_,_,h,_=>h.elim
 | _::_,[],_,h,_=>h.elim
 | _::_,_::_,[],_,h=>h.elim
 | x::a,y::b,z::c,h,k=>by
  rcases h with q | ⟨rfl,q⟩
  ·rcases k with r | ⟨rfl,r⟩
   ·exact .inl (Z4g q r)
   ·exact .inl q
  ·rcases k with r | ⟨rfl,r⟩
   ·exact .inl r
   ·exact .inr ⟨rfl,by omega⟩
theorem Z71{a b c:List Int}(h:slt a b)(k:slt b c):slt a c:=by
 rcases h with h | ⟨h,h'⟩<;>rcases k with k | ⟨k,k'⟩
 ·exact .inl (by omega)
 ·exact .inl (by omega)
 ·exact .inl (by omega)
 ·exact .inr ⟨by omega,Z4g h' k'⟩
theorem Z3n{a b c:List Int}(h:sle a b)(k:sle b c):sle a c:=by
 rcases h with rfl | h
 ·exact k
 ·rcases k with rfl | k
  ·exact .inr h
  ·exact .inr (Z71 h k)
theorem Z8h{a b c:List Int}(h:slt a b)(k:sle b c):slt a c:=by
 rcases k with rfl | k
 ·exact h
 ·exact Z71 h k
theorem Vt{a b:List Int}(x y:Int)(h:slt a b):slt (x::a) (y::b):=by
 rcases h with h | ⟨h,h'⟩
 ·exact .inl (by simpa using h)
 ·exact .inr ⟨by simpa using h,.inl h'⟩
theorem Z2y{x y:Int}(a:List Int)(h:x<y):slt (x::a) (y::a):=.inr ⟨rfl,.inr ⟨rfl,h⟩⟩
theorem Vs{a b:List Int}(x:Int)(h:sle a b):sle (x::a) (x::b):=by
 rcases h with rfl | h
 ·exact .inl rfl
 ·exact .inr (Vt x x h)
theorem Z6y{x y:Int}(a:List Int)(h:x≤y):sle (x::a) (y::a):=by
 rcases Int.lt_or_eq_of_le h with q | q
 ·exact .inr (Z2y a q)
 ·exact .inl (by rw[q])
theorem Z8g(x:Int)(a:List Int):slt [] (x::a):=.inl (by simp)
theorem Z4i{a b:List Int}(h:sle a b):a.length≤b.length:=by
 rcases h with rfl | h | h
 ·exact Nat.le_refl _
 ·exact Nat.le_of_lt h
 ·exact Nat.le_of_eq h.1
theorem Z70(x:Int){a b:List Int}(h:sle a b):slt a (x::b):=.inl (by have:=Z4i h;simp;omega)
theorem Z0x:∀ {a b:List Int},a.length=b.length→∀(x y:Int),Z0l (a++[x]) (b++[y])↔x<y∨(x=y∧Z0l a b)
 | [],[],_,x,y=>by simp[Z0l]
 | [],_::_,h,_,_=>by simp at h
 | _::_,[],h,_,_=>by simp at h
 | u::a,v::b,h,x,y=>by
  have h':a.length=b.length:=by simpa using h
  have ih:=Z0x h' x y
  show Z0l (a++[x]) (b++[y])∨(a++[x]=b++[y]∧u<v)↔x<y∨(x=y∧(Z0l a b∨(a=b∧u<v)))
  rw[ih]
  constructor
  ·rintro((q | ⟨q1,q2⟩) | ⟨q1,q2⟩)
   ·exact .inl q
   ·exact .inr ⟨q1,.inl q2⟩
   ·obtain⟨e1,e2⟩:=List.append_inj' q1 rfl
    exact .inr ⟨by simpa using e2,.inr ⟨e1,q2⟩⟩
  ·rintro(q | ⟨q1,q2 | ⟨q2,q3⟩⟩)
   ·exact .inl (.inl q)
   ·exact .inl (.inr ⟨q1,q2⟩)
   ·exact .inr ⟨by rw[q1,q2],q3⟩
def Zl(a:Int)(r:List Int):Int:=r.headD a
inductive RP (E:List (Int × Int)) (a:Int):List Int→Prop
 | nil:RP E a []
 | cons {x:Int} {r:List Int} (p:RP E a r) (h:(Zl a r,x)∈E):RP E a (x::r)
theorem Z9l{E:List (Int × Int)}{a:Int}{r:List Int}(p:RP E a r):∀x r',r=x::r'→Ya E a x:=by
 induction p with
 | nil=>intro x r' h;cases h
 | @cons y r p h ih =>
  intro x r' e
  injection e with e1 e2
  subst e1;subst e2
  cases r with
  | nil=>exact .single h
  | cons z r2=>exact .tail (ih z r2 rfl) h
theorem Z9m{E:List (Int × Int)}{a:Int}{r:List Int}(p:RP E a r):∀x r',r=x::r'→Way E a (r'.length+1) x:=by
 induction p with
 | nil=>intro x r' h;cases h
 | @cons y r p h ih =>
  intro x r' e
  injection e with e1 e2
  subst e1;subst e2
  cases r with
  | nil=>exact .one h
  | cons z r2=>exact Vv (ih z r2 rfl) h
theorem Z2v{E:List (Int × Int)}{a x:Int}(h:(a,x)∈E){r:List Int}(p:RP E x r):RP E a (r++[x]):=by
 induction p with
 | nil=>exact .cons .nil h
 | @cons y r p k ih =>
  refine .cons ih ?_
  cases r with
  | nil=>exact k
  | cons z r2=>exact k
theorem Z7c{E:List (Int × Int)}{a b:Int}{n:Nat}(w:Way E a n b):∃r,RP E a (b::r)∧r.length+1=n:=by
 induction w with
 | one h=>exact⟨[],.cons .nil h,rfl⟩
 | @step a x b n h _ ih =>
  obtain⟨r,p,e⟩:=ih
  refine⟨r++[x],Z2v h p,by simp;omega⟩
theorem Z2w{E:List (Int × Int)}{a x:Int}:∀ {r:List Int},RP E a (r++[x])→(a,x)∈E∧RP E x r
 | [],p=>by
  cases p with
  | cons _ h=>exact⟨h,.nil⟩
 | y::r,p=>by
  cases p with
  | cons p h =>
   obtain⟨h1,h2⟩:=Z2w p
   refine⟨h1,.cons h2 ?_⟩
   cases r with
   | nil=>exact h
   | cons z r2=>exact h
def Lst(E:List (Int × Int))(a b:Int)(r:List Int):Prop:=RP E a (b::r)∧∀ π,RP E a (b::π)→sle (b::r) (b::π)
theorem Z2x{x:Int}{a b:List Int}(h:sle (x::a) (x::b)):sle a b:=by
 rcases h with h | h | ⟨h,h'⟩
 ·injection h with _ h;exact .inl h
 ·exact .inr (.inl (by simpa using h))
 ·rcases h' with q | q
  ·exact .inr (.inr ⟨by simpa using h,q⟩)
  ·omega
theorem Z6z{a b:List Int}{x y:Int}(h:sle (a++[x]) (b++[y])):a.length<b.length∨(a.length=b.length∧(x<y∨(x=y∧sle a b))):=by
 rcases h with h | h | ⟨h,h'⟩
 ·obtain⟨e1,e2⟩:=List.append_inj' h rfl
  exact .inr ⟨by rw[e1],.inr ⟨by simpa using e2,.inl e1⟩⟩
 ·exact .inl (by simpa using h)
 ·have h2:a.length=b.length:=by simpa using h
  rcases(Z0x h2 x y).1 h' with q | ⟨q,q'⟩
  ·exact .inr ⟨h2,.inl q⟩
  ·exact .inr ⟨h2,.inr ⟨q,.inr (.inr ⟨h2,q'⟩)⟩⟩
theorem Z44{E:List (Int × Int)}{a b:Int}{r:List Int}(h:Lst E a b r):Vh E a b (r.length+1):=by
 refine⟨Z9m h.1 b r rfl,fun m w=>?_⟩
 obtain⟨π,p,e⟩:=Z7c w
 have:=Z4i (Z2x (h.2 π p))
 omega
theorem Z02{E:List (Int × Int)}{b:Int}:∀(n:Nat) {a:Int} {r:List Int},r.length=n→Lst E a b r→Greedy E b a (n+1) r.reverse
 | 0,a,r,hn,h=>by
  obtain rfl:=List.length_eq_zero_iff.1 hn
  cases h.1 with
  | cons _ k=>exact .last k
 | n+1,a,r,hn,h=>by
  rcases List.eq_nil_or_concat r with rfl | ⟨r',x,rfl⟩
  ·simp at hn
  ·rw[List.concat_eq_append] at h hn ⊢
   have hl:r'.length=n:=by simpa using hn
   obtain⟨h1,h2⟩:=Z2w (r:=b::r') h.1
   have key:∀y π,(a,y)∈E→RP E y (b::π)→r'.length<π.length∨(r'.length=π.length∧(x<y∨(x=y∧sle r' π))):=fun y π hy p =>
    Z6z (Z2x (h.2 (π++[y]) (Z2v hy p)))
   have hL:Lst E x b r':=⟨h2,fun π p=>Vs b (by
    rcases key x π h1 p with q | ⟨_,q | q⟩
    ·exact .inr (.inl q)
    ·omega
    ·exact q.2)⟩
   rw[List.reverse_append,List.reverse_singleton,List.singleton_append]
   refine .step h1 (by rw[←hl];exact Z44 hL) (fun y hy f=>?_) (Z02 n hl hL)
   obtain⟨π,p,e⟩:=Z7c f.1
   rcases key y π hy p with q | ⟨_,q | q⟩
   ·omega
   ·exact Int.le_of_lt q
   ·exact Int.le_of_eq q.1
structure BI(E:List (Int × Int))(a:Int)(W:List (List Int))(h i:Nat):Prop where
 rp:∀r∈W,RP E a r∧r≠[]
 srt:W.Pairwise slt
 nd:(W.map (Zl a)).Nodup
 pr:∀j,j<h→∀r,([]::W)[j]?=some r→∀y,(Zl a r,y)∈E→∃r'∈W,Zl a r'=y∧sle r' (y::r)
 pi:∀r,([]::W)[h]?=some r→∀j y,j<i→E[j]?=some (Zl a r,y)→∃r'∈W,Zl a r'=y∧sle r' (y::r)
 org:∀r∈W,∃y j r0,r=y::r0∧([]::W)[j]?=some r0∧(j<h∨(j=h∧∃k,k<i∧E[k]?=some (Zl a r0,y)))
section
variable {E:List (Int × Int)} {a:Int} {W:List (List Int)} {h i:Nat}
theorem BI.start:BI E a [] 0 0:=⟨by simp,List.Pairwise.nil,List.Pairwise.nil,fun j hj=>by omega,fun r _ j y hj=>by omega,by simp⟩
theorem BI.qs(b:BI E a W h i):([]::W).Pairwise slt:=List.pairwise_cons.2 ⟨fun r hr=>by
 obtain⟨y,_,r0,rfl,_⟩:=b.org r hr
 exact Z8g y r0,b.srt⟩
theorem BI.lt(b:BI E a W h i){j k:Nat}{r r':List Int}(hjk:j<k)(hr:([]::W)[j]?=some r)(hr':([]::W)[k]?=some r'):slt r r':=by
 obtain⟨h1,rfl⟩:=List.getElem?_eq_some_iff.1 hr
 obtain⟨h2,rfl⟩:=List.getElem?_eq_some_iff.1 hr'
 exact List.pairwise_iff_getElem.1 b.qs j k h1 h2 hjk
theorem BI.skip(b:BI E a W h i)(hs:Zj E){r:List Int}{y:Int}(hr:([]::W)[h]?=some r)(he:E[i]?=some (Zl a r,y))(hy:y∈W.map (Zl a)):BI E a W h (i+1):=by
 refine⟨b.rp,b.srt,b.nd,b.pr,fun r1 hr1 j z hj hz=>?_,fun r1 hr1=>?_⟩
 ·obtain rfl:r=r1:=Option.some.inj (hr.symm.trans hr1)
  by_cases q:j<i
  ·exact b.pi r hr j z q hz
  ·have:j=i:=by omega
   subst this
   rw[he] at hz
   injection hz with hz
   injection hz with _ hz
   subst hz
   obtain⟨r',h1,h2⟩:=List.mem_map.1 hy
   refine⟨r',h1,h2,?_⟩
   obtain⟨x,k,r0,rfl,k2,k3⟩:=b.org r' h1
   obtain rfl:x=y:=h2
   rcases k3 with q | ⟨q,_⟩
   ·exact .inr (Vt x x (b.lt q k2 hr))
   ·subst q
    obtain rfl:r0=r:=Option.some.inj (k2.symm.trans hr)
    exact .inl rfl
 ·obtain⟨x,k,r0,e,k2,k3⟩:=b.org r1 hr1
  refine⟨x,k,r0,e,k2,?_⟩
  rcases k3 with q | ⟨q,k,k4,k5⟩
  ·exact .inl q
  ·exact .inr ⟨q,k,by omega,k5⟩
theorem Z89{W:List (List Int)}{r x:List Int}{j:Nat}(hj:([]::W)[j]?=some r):([]::(W++[x]))[j]?=some r:=by
 cases j with
 | zero=>exact hj
 | succ j =>
  simp only[List.getElem?_cons_succ] at hj ⊢
  rw[List.getElem?_append_left (List.getElem?_eq_some_iff.1 hj).1]
  exact hj
theorem Z9x{W:List (List Int)}{r x:List Int}{j:Nat}(hl:j≤W.length)(hj:([]::(W++[x]))[j]?=some r):([]::W)[j]?=some r:=by
 cases j with
 | zero=>exact hj
 | succ j =>
  simp only[List.getElem?_cons_succ] at hj ⊢
  rw[List.getElem?_append_left (by omega)] at hj
  exact hj
theorem BI.push(b:BI E a W h i)(hs:Zj E){r:List Int}{y:Int}(hr:([]::W)[h]?=some r)(he:E[i]?=some (Zl a r,y))(hy:y∉W.map (Zl a)):BI E a (W++[y::r]) h (i+1):=by
 have hl:h≤W.length:=by
  have:=(List.getElem?_eq_some_iff.1 hr).1
  simp at this;omega
 have hrp:RP E a (y::r):=by
  refine .cons ?_ (List.mem_of_getElem? he)
  cases h with
  | zero=>simp at hr;subst hr;exact .nil
  | succ h =>
   simp only[List.getElem?_cons_succ] at hr
   exact(b.rp r (List.mem_of_getElem? hr)).1
 refine⟨fun r1 h1=>?_,?_,?_,fun j hj r1 hr1 z hz=>?_,fun r1 hr1 j z hj hz=>?_,fun r1 hr1=>?_⟩
 ·rcases List.mem_append.1 h1 with q | q
  ·exact b.rp r1 q
  ·rw[List.mem_singleton.1 q]
   exact⟨hrp,by simp⟩
 ·refine List.pairwise_append.2 ⟨b.srt,by simp,fun r1 h1 r2 h2=>?_⟩
  rw[List.mem_singleton.1 h2]
  obtain⟨x,k,r0,rfl,k2,k3⟩:=b.org r1 h1
  rcases k3 with q | ⟨q,k',k4,k5⟩
  ·exact Vt x y (b.lt q k2 hr)
  ·subst q
   obtain rfl:r0=r:=Option.some.inj (k2.symm.trans hr)
   refine Z2y r0 ?_
   obtain⟨z1,e1⟩:=List.getElem?_eq_some_iff.1 k5
   obtain⟨z2,e2⟩:=List.getElem?_eq_some_iff.1 he
   have:=List.pairwise_iff_getElem.1 hs k' i z1 z2 k4
   rw[e1,e2] at this
   unfold Yy at this
   simp only at this
   omega
 ·rw[List.map_append,List.map_singleton]
  exact List.nodup_append.2 ⟨b.nd,by simp,fun x hx z hz e=>by
   rw[List.mem_singleton.1 hz] at e
   subst e
   exact hy hx⟩
 ·obtain⟨r',k1,k2,k3⟩:=b.pr j hj r1 (Z9x (by omega) hr1) z hz
  exact⟨r',List.mem_append_left _ k1,k2,k3⟩
 ·have hr1':=Z9x hl hr1
  obtain rfl:r=r1:=Option.some.inj (hr.symm.trans hr1')
  by_cases q:j<i
  ·obtain⟨r',k1,k2,k3⟩:=b.pi r hr j z q hz
   exact⟨r',List.mem_append_left _ k1,k2,k3⟩
  ·have:j=i:=by omega
   subst this
   rw[he] at hz
   injection hz with hz
   injection hz with _ hz
   subst hz
   exact⟨y::r,by simp,rfl,.inl rfl⟩
 ·rcases List.mem_append.1 hr1 with q | q
  ·obtain⟨x,k,r0,e,k2,k3⟩:=b.org r1 q
   refine⟨x,k,r0,e,Z89 k2,?_⟩
   rcases k3 with q | ⟨q,k,k4,k5⟩
   ·exact .inl q
   ·exact .inr ⟨q,k,by omega,k5⟩
  ·rw[List.mem_singleton.1 q]
   exact⟨y,h,r,rfl,Z89 hr,.inr ⟨rfl,i,by omega,he⟩⟩
theorem BI.next(b:BI E a W h i)(hs:Zj E){r:List Int}(hr:([]::W)[h]?=some r)(hi:Vw E (Zl a r)≤i)(hn:∀y,E[i]?≠some (Zl a r,y))(i':Nat)(hi':∀r',([]::W)[h+1]?=some r'→i'≤Vw E (Zl a r')):BI E a W (h+1) i':=by
 have hall:∀y,(Zl a r,y)∈E→∃r'∈W,Zl a r'=y∧sle r' (y::r):=by
  intro y hy
  obtain⟨j,hj,e⟩:=List.getElem_of_mem hy
  have e':E[j]?=some (Zl a r,y):=by rw[List.getElem?_eq_getElem hj,e]
  refine b.pi r hr j y (Nat.lt_of_not_le fun q=>?_) e'
  cases hE:E[i]? with
  | none =>
   rw[List.getElem?_eq_none_iff] at hE
   omega
  | some x =>
   have h1:=Z3q hs hi hE
   have h2:i≠j:=fun k=>by subst k;exact hn y e'
   have hil:=(List.getElem?_eq_some_iff.1 hE).1
   have h3:=List.pairwise_iff_getElem.1 hs i j hil hj (by omega)
   have h4:x=E[i]:=(List.getElem?_eq_some_iff.1 hE).2.symm
   rw[←h4,e] at h3
   unfold Yy at h3
   have h5:x.1=Zl a r:=by
    rcases h3 with y | y
    ·have:x.1<Zl a r:=y
     omega
    ·exact y.1
   exact hn x.2 (by rw[hE,←h5])
 refine⟨b.rp,b.srt,b.nd,fun j hj r1 hr1 y hy=>?_,fun r1 hr1 j y hj hy=>?_,fun r1 hr1=>?_⟩
 ·by_cases q:j<h
  ·exact b.pr j q r1 hr1 y hy
  ·have:j=h:=by omega
   subst this
   obtain rfl:r=r1:=Option.some.inj (hr.symm.trans hr1)
   exact hall y hy
 ·have:=U4 (lL0 hj (hi' r1 hr1)) hy
  simp at this
 ·obtain⟨x,k,r0,e,k2,k3⟩:=b.org r1 hr1
  refine⟨x,k,r0,e,k2,.inl ?_⟩
  rcases k3 with q | ⟨q,_⟩<;>omega
theorem BI.to(b:BI E a W h i){r:List Int}(hr:([]::W)[h]?=some r)(i':Nat)(hi:i≤i')(hi':i'≤Vw E (Zl a r)):BI E a W h i':=by
 refine⟨b.rp,b.srt,b.nd,b.pr,fun r1 hr1 j y hj hy=>?_,fun r1 hr1=>?_⟩
 ·obtain rfl:r=r1:=Option.some.inj (hr.symm.trans hr1)
  have:=U4 (lL0 hj hi') hy
  simp at this
 ·obtain⟨x,k,r0,e,k2,k3⟩:=b.org r1 hr1
  refine⟨x,k,r0,e,k2,?_⟩
  rcases k3 with q | ⟨q,k,k4,k5⟩
  ·exact .inl q
  ·exact .inr ⟨q,k,by omega,k5⟩
theorem Yt{l m:List Int}(hn:l.Nodup)(hs:∀x∈l,x∈m):l.length≤m.length:=by
 induction l generalizing m with
 | nil=>exact Nat.zero_le _
 | cons x l ih =>
  have hn':=List.nodup_cons.1 hn
  obtain⟨A,B,e⟩:=List.append_of_mem (hs x (by simp))
  have:=ih (m:=A++B) hn'.2 fun y hy=>by
   have h1:=hs y (by simp[hy])
   rw[e] at h1
   rcases List.mem_append.1 h1 with q | q
   ·exact List.mem_append_left _ q
   ·rcases List.mem_cons.1 q with q | q
    ·exact absurd (q▸hy) hn'.1
    ·exact List.mem_append_right _ q
  rw[e]
  simp at this ⊢
  omega
theorem BI.size(b:BI E a W h i):W.length≤E.length:=by
 have:=Yt (m:=E.map Prod.snd) b.nd fun x hx=>by
  obtain⟨r,hr,rfl⟩:=List.mem_map.1 hx
  cases(b.rp r hr).1 with
  | nil=>exact absurd rfl (b.rp _ hr).2
  | cons p k=>exact List.mem_map.2 ⟨_,k,rfl⟩
 simpa using this
theorem BI.reach(b:BI E a W h i)(hh:W.length<h)(y:Int):y∈W.map (Zl a)↔Ya E a y:=by
 refine Z6u (fun x z hxz hx=>?_) (fun z hz=>?_) y
 ·have:∃(j:Nat) (r:List Int),([]::W)[j]?=some r∧Zl a r=x:=by
   rcases hx with rfl | hx
   ·exact⟨0,[],rfl,rfl⟩
   ·obtain⟨r,hr,e⟩:=List.mem_map.1 hx
    obtain⟨j,hj,e2⟩:=List.getElem_of_mem hr
    exact⟨j+1,r,by simp[hj,e2],e⟩
  obtain⟨j,r,h1,rfl⟩:=this
  have hj:=(List.getElem?_eq_some_iff.1 h1).1
  simp at hj
  obtain⟨r',h2,h3,_⟩:=b.pr j (by omega) r h1 z hxz
  exact List.mem_map.2 ⟨r',h2,h3⟩
 ·obtain⟨r,hr,rfl⟩:=List.mem_map.1 hz
  obtain⟨x,j,r0,rfl,_⟩:=b.org r hr
  exact Z9l (b.rp _ hr).1 x r0 rfl
theorem BI.first(b:BI E a W h i)(hs:Zj E){r:List Int}{y:Int}(hr:([]::W)[h]?=some r)(he:E[i]?=some (Zl a r,y))(hy:y∉W.map (Zl a)):Lst E a y r:=by
 have hb:=b.push hs hr he hy
 refine⟨(hb.rp (y::r) (by simp)).1,?_⟩
 have key:∀ π,RP E a π→π≠[]→(∃r'∈W,Zl a r'=Zl a π∧sle r' π)∨sle (y::r) π:=by
  intro π p
  induction p with
  | nil=>intro h;exact absurd rfl h
  | @cons x π p k ih =>
   intro _
   have step:∀(j:Nat) (q:List Int),([]::W)[j]?=some q→Zl a q=Zl a π→sle q π→(∃r'∈W,Zl a r'=x∧sle r' (x::π))∨sle (y::r) (x::π):=by
    intro j q hq e hle
    rw[←e] at k
    rcases Nat.lt_trichotomy j h with c | c | c
    ·obtain⟨r',h1,h2,h3⟩:=b.pr j c q hq x k
     exact .inl ⟨r',h1,h2,Z3n h3 (Vs x hle)⟩
    ·subst c
     obtain rfl:r=q:=Option.some.inj (hr.symm.trans hq)
     obtain⟨m,hm,em⟩:=List.getElem_of_mem k
     have em':E[m]?=some (Zl a r,x):=by rw[List.getElem?_eq_getElem hm,em]
     by_cases d:m<i
     ·obtain⟨r',h1,h2,h3⟩:=b.pi r hr m x d em'
      exact .inl ⟨r',h1,h2,Z3n h3 (Vs x hle)⟩
     ·refine .inr (Z3n (Z6y r ?_) (Vs x hle))
      rcases Nat.lt_or_eq_of_le (Nat.le_of_not_lt d)with z | z
      ·obtain⟨z2,e2⟩:=List.getElem?_eq_some_iff.1 he
       have:=List.pairwise_iff_getElem.1 hs i m z2 hm z
       rw[e2,em] at this
       unfold Yy at this
       simp only at this
       omega
      ·subst z
       rw[he] at em'
       injection em' with em'
       injection em' with _ em'
       exact Int.le_of_eq em'
    ·exact .inr (.inr (Vt y x (Z8h (b.lt c hr hq) hle)))
   by_cases hπ:π=[]
   ·subst hπ
    exact step 0 [] rfl rfl (.inl rfl)
   ·rcases ih hπ with⟨r',h1,h2,h3⟩ | c
    ·obtain⟨j,hj,e2⟩:=List.getElem_of_mem h1
     exact step (j+1) r' (by simp[hj,e2]) h2 h3
    ·exact .inr (.inr (Z70 x c))
 intro π p
 rcases key (y::π) p (by simp) with⟨r',h1,h2,_⟩ | c
 ·exact absurd (List.mem_map.2 ⟨r',h1,h2⟩) hy
 ·exact c
end
def Zb(a:Int × Int):List Value:=[.int .i64 a.1,.int .i64 a.2]
abbrev egV(e:Int × Int):Value:=.agg #[.int .i64 e.1,.int .i64 e.2]
theorem Y0:Ud prog 23 30 2 16 Zb where
 und:=underlying23
 inf:=by
  have h:(prog.info? 30).map (fun i=>(i.zero,i.size,i.bytes))=some (some (.agg #[.int .i64 0,.int .i64 0]),2,16):=by kernel_rfl
  cases e:prog.info? 30 with
  | none=>rw[e] at h;cases h
  | some i =>
   rw[e] at h
   simp only[Option.map_some,Option.some.injEq,Prod.mk.injEq] at h
   exact⟨i,_,rfl,h.1,h.2.1,h.2.2,rfl⟩
 pos:=by decide
 byt:=by decide
 len:=fun _=>rfl
 one:=fun a u hu=>by
  simp only[Zb,List.mem_cons,List.not_mem_nil,or_false] at hu
  rcases hu with rfl | rfl<;>rfl
abbrev Z6(w:World)(g0:Nat)(v:Value)(l:List (Int × Int)):Prop:=Zt 30 2 Zb w g0 v l
abbrev Zw(w:World)(v:Value)(l:List (Int × Int)):Prop:=Rd 2 Zb w v l
theorem Z6.at_{w:World}{g0:Nat}{v:Value}{l:List (Int × Int)}(h:Z6 w g0 v l):Zw w v l:=Zt.rd (fun _=>rfl) h
theorem RdC.eg{w:World}{b o:Nat}{l:List (Int × Int)}(h:RdC 2 Zb w b o l){i:Nat}(hi:i<l.length):w.cell? ⟨b,o+i*2,none⟩=some (.int .i64 l[i].1)∧w.cell? ⟨b,o+i*2+1,none⟩=some (.int .i64 l[i].2) :=
 ⟨h.cell i hi 0 _ rfl,h.cell i hi 1 _ rfl⟩
theorem Z60(v:Value)(q:List (Int × Int))(w:World)(hl:q.length≤100000)(h:Zw w v q) :
  Calls prog 26 #[v] w fun e w'=>∃v',e=.returned v'∧Nw w w'∧Z6 w' w.heap.size v' q:=by
 obtain⟨v',w1,hrun,hO,hN⟩:=Yu Y0 h hl
 obtain⟨a,c,rfl,h⟩:=h
 have en:=fun(w:World) (a:Option Addr) (n c n' c':Nat)=>Lib.run_eql_slice_nil (P:=prog) w 23 30 a n c n' c' underlying23
 have HR:=hD0 hrun
 have HO:=hD0 (aI0 hN hO)
 clear hrun hO hN
 cases a with
 | none =>
  rcases h with⟨rfl,h0⟩ | ⟨b,o,e,_⟩
  ·obtain rfl:=h0 rfl
   go_enter func26,ntmps26
   go_wp2
   go_ret
   exact⟨_,rfl,Nw.refl _,World.ownsRow_nil _ _ _ _⟩
  ·cases e
 | some ad =>
  clear h
  go_enter func26,ntmps26
  go_wp2_with (at_builtin;refine Z7 (by rfl) (.tmp 5) (.tmp 6) 23 rfl _ _ _ _ rfl rfl HR.out ?_)
  go_ret
  exact⟨_,rfl,HO.out.1,HO.out.2⟩
theorem Z9q{E:List (Int × Int)}{v:Int}{i:Nat}(hi:i≤E.length)(h1:∀k (hk:k<E.length),k<i→E[k].1<v)(h2:∀(h:i<E.length),v≤E[i].1):Vw E v=i:=by
 rcases Nat.lt_trichotomy (Vw E v) i with q | q | q
 ·have hs:Vw E v<E.length:=by omega
  have:¬E[Vw E v].1<v:=by
   have key:∀ {l:List (Int × Int)} (h:(l.takeWhile fun e=>decide (e.1<v)).length<l.length),¬(l[(l.takeWhile fun e=>decide (e.1<v)).length]).1<v:=by
    intro l
    induction l with
    | nil=>intro h;simp at h
    | cons a t ih =>
     intro h
     by_cases c:a.1<v
     ·have e:((a::t).takeWhile fun e=>decide (e.1<v))=a::(t.takeWhile fun e=>decide (e.1<v)):=by rw[List.takeWhile_cons,if_pos (by simpa using c)]
      have h':(t.takeWhile fun e=>decide (e.1<v)).length<t.length:=by rw[e] at h;simpa using h
      have:=ih h'
      simpa [e] using this
     ·have e:((a::t).takeWhile fun e=>decide (e.1<v))=[]:=by rw[List.takeWhile_cons,if_neg (by simpa using c)]
      simpa [e] using c
   exact key hs
  exact absurd (h1 _ hs q) this
 ·exact q
 ·have hil:i<E.length:=lL0 q (Z1l E v)
  have:=U4 q (List.getElem?_eq_getElem hil)
  have:=h2 hil
  omega
theorem Zac{E:List (Int × Int)}(hs:Zj E){i j:Nat}(hij:i≤j)(hi:i<E.length)(hj:j<E.length):E[i].1≤E[j].1:=by
 rcases Nat.lt_or_eq_of_le hij with q | q
 ·have:=List.pairwise_iff_getElem.1 hs i j hi hj q
  unfold Yy at this
  omega
 ·subst q;exact Int.le_refl _
theorem Zai(t:Nat)(h:t≤1000000):wrap64 ((t:Int)+1)=((t+1:Nat):Int):=by unfold wrap64;omega
theorem Z9s(i j:Nat)(h:i≤1000000)(k:j≤1000000):wrap64 ((i:Int)+(j:Int))=(i:Int)+(j:Int):=by unfold wrap64;omega
theorem Z5z{i j i' j':Nat}(h:j'-i'<j-i):(intOf (.int .i64 (j':Int))).toNat-(intOf (.int .i64 (i':Int))).toNat<(intOf (.int .i64 (j:Int))).toNat-(intOf (.int .i64 (i:Int))).toNat:=by
 simpa [intOf] using h
theorem Zo{a b:Nat}(h:a<b):(a:Int)<(b:Int):=Int.ofNat_lt.2 h
theorem Z7s{a b:Nat}(h:a<b):decide ((a:Int)<(b:Int))=true∧decide (a<b)=true:=⟨decide_eq_true (Int.ofNat_lt.2 h),decide_eq_true h⟩
theorem Z5y{a b:Nat}(h:¬a<b):decide ((a:Int)<(b:Int))=false∧decide (a<b)=false:=⟨decide_eq_false (fun q=>h (Int.ofNat_lt.1 q)),decide_eq_false h⟩
theorem V3(t m:Nat)(h:t≤1000000)(h0:t=m+1):IntKind.i64.wrap ((t:Int)-1)=(m:Int):=by rw[IntKind.wrap_i64];omega
theorem Zn(t m:Nat)(h:t≤1000000)(h0:m=t+1):IntKind.i64.wrap ((t:Int)+1)=(m:Int):=by rw[IntKind.wrap_i64];omega
theorem Zao{t m:Nat}(h0:t=m+1):(intOf (.int .i64 (m:Int))).toNat<(intOf (.int .i64 (t:Int))).toNat:=by
 show(m:Int).toNat<(t:Int).toNat
 omega
theorem Z4b{a b:Nat}(h:a<b):∃c,b=c+1∧a≤c∧c<b:=⟨b-1,by omega,by omega,by omega⟩
theorem Zk{n t:Nat}(h:t<n):n-(intOf (.int .i64 ((t+1:Nat):Int))).toNat<n-(intOf (.int .i64 (t:Int))).toNat:=by
 show n-((t+1:Nat):Int).toNat<n-(t:Int).toNat
 omega
theorem Z3r(e:Int × Int)(v:Int)(w:World):Calls prog 68 #[egV e,.int .i64 v] w fun e' w'=>e'=.returned (.int .i64 (cP e.1 v))∧Nw w w':=by
 obtain⟨a,b⟩:=e
 go_enter func68,ntmps68
 go_wp2_with (go_at_call 30;refine(Z1w _ _ _).mono ?_;rintro e w' ⟨rfl,rfl⟩)
 go_ret
 exact⟨rfl,(Nw.refl _).alloc _⟩
theorem Z7t:∀args w,(callFunc 68 args).run prog w=.ok (.enter 68 args) w:=enters_of func68 (by kernel_rfl) rfl
theorem Z9f(i j t:Nat)(h:((i:Int)+(j:Int))/2=(t:Int))(hij:i<j):i≤t∧t<j:=by omega
structure BsI(E:List (Int × Int))(v:Int)(w:World)(i j:Nat)(wr:World):Prop where
 ij:i≤j
 jn:j≤E.length
 lo:∀k (hk:k<E.length),k<i→E[k].1<v
 hi:∀(h:j<E.length),v≤E[j].1
 nw:Nw w wr
theorem BsI.up{E:List (Int × Int)}{v:Int}{w wr w':World}{i j t:Nat}(h:BsI E v w i j wr)(hs:Zj E)(htj:t<j)(ht:t<E.length)(hlt:E[t].1<v)(g:Nw wr w'):BsI E v w (t+1) j w' :=
 ⟨htj,h.jn,fun k hk hkt=>by
  have:=Zac hs (Nat.le_of_lt_succ hkt) hk ht
  omega,h.hi,h.nw.trans g⟩
theorem BsI.dn{E:List (Int × Int)}{v:Int}{w wr w':World}{i j t:Nat}(h:BsI E v w i j wr)(hit:i≤t)(ht:t<E.length)(hge:v≤E[t].1)(g:Nw wr w'):BsI E v w i t w' :=
 ⟨hit,Nat.le_of_lt ht,h.lo,fun _=>hge,h.nw.trans g⟩
theorem BsI.end_{E:List (Int × Int)}{v:Int}{w wr:World}{i:Nat}(h:BsI E v w i i wr):Vw E v=i:=Z9q h.jn h.lo h.hi
theorem Z7j(v:Int)(ev:Value)(E:List (Int × Int))(w:World)(hl:E.length≤100000)(hs:Zj E)(h:Zw w ev E) :
  Calls prog 67 #[ev,.int .i64 v,.func (.func 68) #[] #[]] w fun e w'=>(∃b,e=.returned (.tuple #[.int .i64 (Vw E v),.bool b]))∧Nw w w':=by
 have HS:=hD0 (fun e w=>Z3r e v w)
 have eg:=Z7t
 have hH:=hD0 h
 have HR:=hD0 hs
 obtain⟨a,c,rfl,h'⟩:=h
 clear hs
 obtain⟨r,hr⟩:∃r,Vw E v=r:=⟨_,rfl⟩
 rw[hr]
 have HRr:=hD0 hr
 clear hr
 obtain⟨n,hn⟩:∃n,E.length=n:=⟨_,rfl⟩
 have HN:=hD0 hn
 rw[hn] at hl ⊢
 clear hn h'
 go_enter func67,ntmps67
 go_wp2
 go_loopw [9,10] (fun vi vj wr=>∃i j:Nat,vi=.int .i64 i∧vj=.int .i64 j∧j≤n∧i≤j∧Hid (BsI E v w i j wr)) (fun vi vj _=>(intOf vj).toNat-(intOf vi).toNat)
 case atStart=>exact⟨0,n,rfl,rfl,Nat.le_refl _,Nat.zero_le _,hD0 ⟨Nat.zero_le _,Nat.le_of_eq HN.out.symm,fun k hk q=>by omega,fun h=>absurd h (by rw[HN.out];exact Nat.lt_irrefl _),Nw.refl _⟩⟩
 case round =>
  obtain⟨i,j,rfl,rfl,hjn,hij,HB⟩:=hrel
  by_cases hlt:i<j
  ·have dlt:decide ((i:Int)<(j:Int))=true:=by rw[decide_eq_true_iff];omega
   have dlt2:decide (i<j)=true:=by simpa using hlt
   have w2:=Z9s i j (by omega) (by omega)
   obtain⟨t,hh⟩:∃t:Nat,((i:Int)+(j:Int))/2=(t:Int):=⟨(i+j)/2,by omega⟩
   obtain⟨hf1,hf2⟩:=Z9f i j t hh hlt
   have htE:t<E.length:=by have:=HN.out;omega
   have htn:t<n:=by omega
   have htn':(t:Int)<(n:Int):=by omega
   have w4:=Zai t (by omega)
   obtain⟨a',c',e1,hc⟩:=hH.out.nw HB.out.nw
   rcases hc with⟨hc,_⟩ | ⟨b,o,e2,hc⟩
   ·rw[hc] at htE;simp at htE
   ·simp only[Value.slice.injEq] at e1
    obtain⟨rfl,_,rfl⟩:=e1
    subst e2
    obtain⟨c0,c1⟩:=hc.eg htE
    have hbl:=hc.lt
    obtain⟨e,he⟩:∃e,E[t]=e:=⟨_,rfl⟩
    rw[he] at c0 c1
    have HE:=hD0 he
    obtain⟨x,y⟩:=e
    simp only at c0 c1
    have HC:=hD0 (HS.out (x,y))
    clear hc he
    by_cases hx:x<v
    ·have hp:cP x v = -1:=Z8o x v hx
     rw[hp] at HC
     have HX:=hD0 hx
     clear hx
     go_wp2_with (go_at_fn 68;refine(HC.out _).mono ?_;rintro e' w1 ⟨rfl,g1⟩)
     go_roundw
     case rel=>exact⟨t+1,j,congrArg (Value.int .i64) (by first | exact w4 | rfl),rfl,hjn,hf2,hD0 (HB.out.up HR.out hf2 htE (by rw[HE.out];exact HX.out) g1)⟩
     case measure=>first | exact Z5z (i':=t+1) (j':=j) (by omega) | (rw[w4];exact Z5z (i':=t+1) (j':=j) (by omega))
    ·have hp:¬cP x v<0:=by
      unfold cP
      rw[if_neg hx]
      split<;>omega
     obtain⟨z,hz⟩:∃z,cP x v=z:=⟨_,rfl⟩
     rw[hz] at hp HC
     have dz:decide (z<0)=false:=by simpa using hp
     have HX:=hD0 (Int.not_lt.1 hx)
     clear hx hp hz
     go_wp2_with (go_at_fn 68;refine(HC.out _).mono ?_;rintro e' w1 ⟨rfl,g1⟩)
     go_roundw
     case rel=>exact⟨i,t,rfl,rfl,by omega,hf1,hD0 (HB.out.dn hf1 htE (by rw[HE.out];exact HX.out) g1)⟩
     case measure=>exact Z5z (i':=i) (j':=t) (by omega)
  ·obtain rfl:i=j:=by omega
   have hst:=(HRr.out.symm.trans HB.out.end_).symm
   subst hst
   have HW:=hD0 HB.out.nw
   by_cases hin:i<n
   ·have dlt:decide ((i:Int)<(n:Int))=true:=by rw[decide_eq_true_iff];omega
    have dlt2:decide (i<n)=true:=by simpa using hin
    have hin':(i:Int)<(n:Int):=by omega
    have htE:i<E.length:=by have:=HN.out;omega
    obtain⟨a',c',e1,hc⟩:=hH.out.nw HB.out.nw
    rcases hc with⟨hc,_⟩ | ⟨b,o,e2,hc⟩
    ·rw[hc] at htE;simp at htE
    ·simp only[Value.slice.injEq] at e1
     obtain⟨rfl,_,rfl⟩:=e1
     subst e2
     obtain⟨c0,c1⟩:=hc.eg htE
     have hbl:=hc.lt
     obtain⟨e,he⟩:∃e,E[i]=e:=⟨_,rfl⟩
     rw[he] at c0 c1
     obtain⟨x,y⟩:=e
     simp only at c0 c1
     have HC:=hD0 (HS.out (x,y))
     clear hc he
     go_wp2_with (go_at_fn 68;refine(HC.out _).mono ?_;rintro e' w1 ⟨rfl,g1⟩)
     go_ret2
     exact⟨⟨_,rfl⟩,HW.out.trans g1⟩
   ·have dlt:decide ((i:Int)<(n:Int))=false:=by rw[decide_eq_false_iff_not];omega
    have dlt2:decide (i<n)=false:=by simpa using hin
    go_wp2
    go_ret2
    exact⟨⟨_,rfl⟩,HW.out⟩
theorem Z0y(v:Int)(ev:Value)(E:List (Int × Int))(w:World)(hl:E.length≤100000)(hs:Zj E)(h:Zw w ev E) :
  Calls prog 46 #[ev,.int .i64 v] w fun e w'=>e=.returned (.int .i64 (Vw E v))∧Nw w w':=by
 have HB:=hD0 (Z7j v ev E w hl hs h)
 obtain⟨a,c,rfl⟩:=h.form
 clear h hs
 go_enter func46,ntmps46
 go_wp2_with fail
 refine HB.out.mono ?_
 rintro e w1 ⟨⟨b,rfl⟩,g1⟩
 go_wp2
 go_ret
 exact⟨rfl,g1⟩
structure Yi(l:List (Int × Int))(k:Nat)(out:List (Int × Int)):Prop where
 srt:Zj out
 mem:∀x,x∈out↔x∈l.take k
 len:out.length≤k
abbrev Z5m(l:List (Int × Int)):Prop:=l.Pairwise fun a b=>¬Yy b a
theorem Z4k{l:List (Int × Int)}{k:Nat}(hk:k<l.length)(x:Int × Int):x∈l.take (k+1)↔x∈l.take k∨x=l[k]:=by
 rw[List.take_succ_eq_append_getElem hk,List.mem_append,List.mem_singleton]
theorem Yi.start(l:List (Int × Int)):Yi l 0 []:=⟨List.Pairwise.nil,by simp,Nat.le_refl _⟩
theorem Yi.push{l out:List (Int × Int)}{k:Nat}(h:Yi l k out)(hw:Z5m l)(hk:k<l.length)(hn:k=0∨∃j,∃hj:j<l.length,k=j+1∧l[k]≠l[j]):Yi l (k+1) (out++[l[k]]):=by
 refine⟨List.pairwise_append.2 ⟨h.srt,by simp,fun x hx y hy=>?_⟩,fun x=>?_,by rw[List.length_append,List.length_singleton];have:=h.len;omega⟩
 ·rw[List.mem_singleton.1 hy]
  obtain⟨i,hi,e⟩:=List.getElem_of_mem ((h.mem x).1 hx)
  simp only[List.length_take] at hi
  rw[List.getElem_take] at e
  subst e
  have hik:i<k:=by omega
  have h1:=List.pairwise_iff_getElem.1 hw i k (by omega) hk hik
  rcases Z19 l[i] l[k] with q | q | q
  ·exact q
  ·exfalso
   rcases hn with z | ⟨j,hj,rfl,z⟩
   ·omega
   ·rcases Nat.lt_or_eq_of_le (show i≤j by omega)with a | a
    ·have h2:=List.pairwise_iff_getElem.1 hw i j (by omega) hj a
     have h3:=List.pairwise_iff_getElem.1 hw j (j+1) hj hk (Nat.lt_succ_self j)
     rw[q] at h2
     rcases Z19 l[j] l[j+1] with b | b | b
     ·exact h2 b
     ·exact z b.symm
     ·exact h3 b
    ·subst a;exact z q.symm
  ·exact absurd q h1
 ·rw[List.mem_append,List.mem_singleton,h.mem x,Z4k hk]
theorem Yi.skip{l out:List (Int × Int)}{k j:Nat}(h:Yi l k out)(hk:k<l.length)(hj:j<l.length)(e:k=j+1)(hn:l[k]=l[j]):Yi l (k+1) out:=by
 refine⟨h.srt,fun x=>?_,by have:=h.len;omega⟩
 rw[h.mem x,Z4k hk]
 refine⟨.inl,fun q=>q.elim id fun q=>?_⟩
 subst e
 rw[q,hn]
 refine List.mem_of_getElem? (i:=j) ?_
 rw[List.getElem?_take_of_lt (Nat.lt_succ_self j),List.getElem?_eq_getElem hj]
theorem Yi.done{l out:List (Int × Int)}{k:Nat}(h:Yi l k out)(hk:l.length≤k){m:List (Int × Int)}(hp:l.Perm m):out=sortE m :=
 Z72 h.srt fun x=>(h.mem x).trans (by rw[List.take_of_length_le hk];exact hp.mem_iff)
theorem Z2o(x:Int × Int):∀l:List (Int × Int),(Yv x l).length≤l.length+1
 | []=>by simp[Yv]
 | b::o=>by
  have ih:=Z2o x o
  unfold Yv
  split
  ·simpa using ih
  ·split<;>simp
theorem Z0r:∀(l o:List (Int × Int)),(l.foldl (fun o x=>Yv x o) o).length≤o.length+l.length
 | [],o=>Nat.le_refl _
 | a::t,o=>by
  have h1:=Z0r t (Yv a o)
  have h2:=Z2o a o
  simp only[List.foldl_cons,List.length_cons]
  omega
theorem Y6(l:List (Int × Int)):(sortE l).length≤l.length:=by
 have:=Z0r l []
 simp only[List.length_nil,Nat.zero_add] at this
 exact this
section
open Go.RowKit Go.Sort Go.Shelf
theorem Z9d{w:World}{g:Nat}{cur F:Array Value}{e:TypeId}(hb:w.heap[g]?=some (.cells cur e (0,0)))(ht:cur.toList.take F.size=F.toList):Holds id w g 0 F:=by
 intro j hj
 refine⟨?_,by simp[World.frozen?,hb]⟩
 have h1:(cur.toList.take F.size)[j]?=F.toList[j]?:=by rw[ht]
 rw[List.getElem?_take_of_lt hj] at h1
 simp only[World.cell?,hb,Nat.zero_add]
 simp only[Option.isSome_none,Bool.false_eq_true,if_false]
 rw[←Array.getElem?_toList,h1]
 simp[hj]
theorem Za6{w:World}{g n:Nat}{os:Array Obj}{cur:Array Value}{e:TypeId}{fr:Nat × Nat}(F:Array Value)(hb:w.heap[g]?=some (.cells cur e fr)) :
  (grow (putRow id (Sort.ahead w n) g 0 F) os).heap[g]?=some (.cells (putCells id 0 F cur) e fr):=by
 have hg:g<w.heap.size:=(Array.getElem?_eq_some_iff.1 hb).1
 rw[heap_grow_old _ _ (by simpa using hg)]
 simp[putRow,mapBlock,Sort.ahead,Array.getElem?_modify,hb,onCells]
theorem Zb1{w:World}{g n:Nat}{os:Array Obj}(F:Array Value):Zd (fun b=>b=g) w (grow (putRow id (Sort.ahead w n) g 0 F) os):=by
 refine⟨rfl,rfl,rfl,by simp,fun k hk hne=>?_⟩
 rw[heap_grow_old _ _ (by simpa using hk)]
 have:g≠k:=fun e=>hne e.symm
 simp[putRow,mapBlock,Sort.ahead,Array.getElem?_modify,this]
theorem Zaj(cur F:Array Value)(h:F.size≤cur.size):(putCells id 0 F cur).toList.take F.size=F.toList:=by
 apply List.ext_getElem?
 intro j
 by_cases hj:j<F.size
 ·rw[List.getElem?_take_of_lt hj,Array.getElem?_toList]
  simp[putCells,hj,show j<cur.size by omega]
 ·rw[List.getElem?_take_eq_none (by omega),List.getElem?_eq_none (by simp;omega)]
theorem Z8r{α:Type}[Inhabited α]{sz:Nat}{row:α→List Value}(hz:0<sz)(hl:∀a,(row a).length=sz)(ss:List α):flatK row sz ss.toArray=⟨Z8 row ss⟩:=by
 have hlen:(Z8 row ss).length=ss.length*sz:=Ye hl ss
 apply Array.ext
 ·rw[size_flatK];simp[hlen]
 ·intro t h1 h2
  rw[size_flatK] at h1
  have h1':t<ss.length*sz:=by simpa using h1
  have hd:t/sz<ss.length:=Nat.div_lt_of_lt_mul (by rwa [Nat.mul_comm])
  have hm:t%sz<sz:=Nat.mod_lt _ hz
  have h3:=Yd hl ss (t/sz) (t%sz) hd hm
  rw[show t/sz*sz+t%sz=t by rw[Nat.mul_comm];exact Nat.div_add_mod t sz] at h3
  have e1:=get_flatK row sz ss.toArray t h1
  rw[getElem!_pos _ t (by rw[size_flatK];exact h1)] at e1
  rw[e1,getElem!_pos ss.toArray (t/sz) (by simpa using hd)]
  have e2:(⟨Z8 row ss⟩:Array Value)[t]?=(row ss[t/sz])[t%sz]?:=by
   rw[←h3];simp
  rw[Array.getElem?_eq_getElem h2] at e2
  simp only[List.getElem_toArray]
  rw[getElem!_pos _ _ (by rw[hl];exact hm)]
  rw[List.getElem?_eq_getElem (by rw[hl];exact hm)] at e2
  exact(Option.some.inj e2).symm
theorem Zad{α:Type}[Inhabited α]{d d':Array α}(h:PermIn 0 d.size d d'):d'.toList.Perm d.toList:=by
 obtain⟨h1,_,h3⟩:=h
 have e1:d'.extract 0 d.size=d':=by rw[←h1];exact Array.extract_size
 have e2:d.extract 0 d.size=d:=Array.extract_size
 rwa [e1,e2] at h3
theorem Z8i{α:Type}[Inhabited α]{lt:α→α→Bool}{d':Array α}{n:Nat}(hn:d'.size=n)(h:SortedIn lt 0 n d'):d'.toList.Pairwise fun a b=>lt b a=false:=by
 rw[List.pairwise_iff_getElem]
 intro i j hi hj hij
 have:=h i j (Nat.zero_le _) hij (by rw[←hn];simpa using hj)
 have hi':i<d'.size:=by simpa using hi
 have hj':j<d'.size:=by simpa using hj
 rw[getElem!_pos d' i hi',getElem!_pos d' j hj'] at this
 simpa using this
theorem Z5h{α:Type}[Inhabited α]{ST T:TypeId}{sz bytes:Nat}{row:α→List Value}(E:Ud prog ST T sz bytes row){ρ:Ren}(L:SlLaysF0.n6 prog ρ)(aE:∀w,(isAgg (ρ.t 24)).run prog w=.ok true w)(zE:∀w,(Go.sizeOf (ρ.t 24)).run prog w=.ok sz w)
  (cf:α→α→Int) (hO:SWO (ltOf cf)) (fn:Nat) (eg:∀args w,(callFunc fn args).run prog w=.ok (.enter fn args) w)
  (hc:∀x y W,Calls prog fn #[.agg (row x).toArray,.agg (row y).toArray] W fun e w'=>e=.returned (.int .i64 (cf x y))∧GG W w')
  (g0 g cap:Nat) (ss:List α) (w:World) (h:Zt T sz row w g0 (.slice (some ⟨g,0,none⟩) ss.length cap) ss) (hsm:ss.length≤100000) :
  Calls prog (ρ.f 6) #[.slice (some ⟨g,0,none⟩) ss.length cap,.func (.func fn) #[] #[]] w fun e w'=>e=.returned (.tuple #[])∧∃l:List α,l.Perm ss∧(l.Pairwise fun a b=>ltOf cf b a=false)∧Zt T sz row w' g0 (.slice (some ⟨g,0,none⟩) l.length cap) l∧Zd (fun b=>b=g) w w':=by
 obtain⟨hx,hr⟩:=h
 rcases hr with⟨h0,_⟩ | ⟨g',cap',cur,h1,h2,h3,h4,h5,h6,h7⟩
 ·simp at h0
 ·simp only[Value.slice.injEq,Option.some.injEq,Addr.mk.injEq,and_true,true_and] at h1
  obtain⟨rfl,rfl⟩:=h1
  have hF:(⟨Z8 row ss⟩:Array Value).size=ss.length*sz:=Ye E.len ss
  have hH:HoldsK row sz w g 0 ss.toArray:=by
   unfold HoldsK
   rw[Z8r E.pos E.len]
   exact Z9d h3 (by rw[hF];exact h7)
  have hcl:CmpLays prog fn #[] row sz cf g 0 ss.toArray.size w:=fun _ _ _ _ x y=>hc x y _
  refine Calls.mono (AnyQ.slices_SortFunc L sz aE zE row E.len E.one cf hO fn #[] g 0 cap ss.toArray w eg hcl hH (hlt h3) (by simp;omega)) ?_
  rintro e w' ⟨rfl,d',n,os,hp,hs,rfl⟩
  have hsz:d'.size=ss.length:=by have:=hp.1;simpa using this
  have hp2:=Zad hp
  refine⟨rfl,d'.toList,by simpa using hp2,Z8i (by simpa using hsz) hs,?_,?_⟩
  ·have hl:d'.toList.length=ss.length:=by simpa using hsz
   have hz:(⟨Z8 row d'.toList⟩:Array Value).size=ss.length*sz:=by rw[←hl];exact Ye E.len _
   unfold sortWorldK putRowK
   have ef:flatK row sz d'=⟨Z8 row d'.toList⟩:=by
    have:=Z8r E.pos E.len d'.toList
    rwa [Array.toArray_toList] at this
   rw[ef]
   unfold Zt
   rw[hl]
   refine⟨by show(Z8 row d'.toList).length=_;exact hz,.inr ⟨g,cap,_,rfl,h2,Za6 _ h3,h4,h5,by simp[putCells,h6],?_⟩⟩
   have:=Zaj cur ⟨Z8 row d'.toList⟩ (by rw[hz,h6];exact Nat.mul_le_mul_right sz h4)
   rw[hz] at this
   exact this
  ·exact Zb1 _
end
end Go.Proofs.YtobnolgphljoeaaGreat
namespace Go.Proofs
open _root_.Go.Proofs.Tryz
open Go.Shelf
def Tryz.sortE_ren:Go.Shelf.Ren:=⟨fun | 6=>27 | 15=>49 | 14=>48 | 28=>77 | 29=>78 | 20=>69 | 21=>70 | 22=>71 | 23=>72 | 24=>73 | 25=>74 | 26=>75 | 27=>76 | 46=>92 | 47=>93 | 48=>94 | 49=>95 | 50=>96 | 57=>110 | n=>n,fun | 22=>23 | 24=>30 | 25=>49 | 3=>3 | 39=>81 | 0=>0 | 53=>101 | 55=>103 | 4=>4 | 46=>95 | 45=>94 | 50=>39 | 5=>5 | 9=>9 | 66=>116 | 70=>120 | 76=>130 | 77=>131 | n=>n,fun | n=>n⟩
theorem Tryz.sortE:Go.Proofs.SlLaysF0.n6 prog Tryz.sortE_ren:={
 mixed:=by kernel_rfl
 f6:=⟨Tryz.f27.name,by decide,func27.trans (congrArg some (by kernel_rfl))⟩
 f14:=⟨Tryz.f48.name,by decide,func48.trans (congrArg some (by kernel_rfl))⟩
 f15:=func49.trans (congrArg some (by kernel_rfl))
 f20:=⟨Tryz.f69.name,by decide,func69.trans (congrArg some (by kernel_rfl))⟩
 f21:=⟨Tryz.f70.name,by decide,func70.trans (congrArg some (by kernel_rfl))⟩
 f22:=⟨Tryz.f71.name,by decide,func71.trans (congrArg some (by kernel_rfl))⟩
 f23:=⟨Tryz.f72.name,by decide,func72.trans (congrArg some (by kernel_rfl))⟩
 f24:=⟨Tryz.f73.name,by decide,func73.trans (congrArg some (by kernel_rfl))⟩
 f25:=⟨Tryz.f74.name,by decide,func74.trans (congrArg some (by kernel_rfl))⟩
 f26:=⟨Tryz.f75.name,by decide,func75.trans (congrArg some (by kernel_rfl))⟩
 f27:=⟨Tryz.f76.name,by decide,func76.trans (congrArg some (by kernel_rfl))⟩
 f28:=func77.trans (congrArg some (by kernel_rfl))
 f29:=func78.trans (congrArg some (by kernel_rfl))
 f46:=⟨Tryz.f92.name,by decide,func92.trans (congrArg some (by kernel_rfl))⟩
 f47:=func93.trans (congrArg some (by kernel_rfl))
 f48:=func94.trans (congrArg some (by kernel_rfl))
 f49:=⟨Tryz.f95.name,by decide,func95.trans (congrArg some (by kernel_rfl))⟩
 f50:=⟨Tryz.f96.name,by decide,func96.trans (congrArg some (by kernel_rfl))⟩
 f57:=⟨Tryz.f110.name,by decide,func110.trans (congrArg some (by kernel_rfl))⟩
 t0:=underlying0
 a0:=Tryz.isAgg0
 z0:=Tryz.sizeOf0
 v0:=Tryz.zeroValue0
 t3:=underlying3
 a3:=Tryz.isAgg3
 z3:=Tryz.sizeOf3
 v3:=Tryz.zeroValue3
 t4:=underlying4
 a4:=Tryz.isAgg4
 z4:=Tryz.sizeOf4
 v4:=Tryz.zeroValue4
 t5:=underlying5
 a5:=Tryz.isAgg5
 z5:=Tryz.sizeOf5
 v5:=Tryz.zeroValue5
 t9:=underlying9
 a9:=Tryz.isAgg9
 z9:=Tryz.sizeOf9
 v9:=Tryz.zeroValue9
 t22:=underlying23
 a22:=Tryz.isAgg23
 z22:=Tryz.sizeOf23
 v22:=Tryz.zeroValue23
 t25:=underlying49
 a25:=Tryz.isAgg49
 z25:=Tryz.sizeOf49
 v25:=Tryz.zeroValue49
 t39:=underlying81
 a39:=Tryz.isAgg81
 z39:=Tryz.sizeOf81
 v39:=Tryz.zeroValue81
 t45:=underlying94
 a45:=Tryz.isAgg94
 z45:=Tryz.sizeOf94
 v45:=Tryz.zeroValue94
 t46:=underlying95
 a46:=Tryz.isAgg95
 z46:=Tryz.sizeOf95
 v46:=Tryz.zeroValue95
 t50:=underlying39
 a50:=Tryz.isAgg39
 z50:=Tryz.sizeOf39
 v50:=Tryz.zeroValue39
 t53:=underlying101
 a53:=Tryz.isAgg101
 z53:=Tryz.sizeOf101
 v53:=Tryz.zeroValue101
 t55:=underlying103
 a55:=Tryz.isAgg103
 z55:=Tryz.sizeOf103
 v55:=Tryz.zeroValue103
 t66:=underlying116
 a66:=Tryz.isAgg116
 z66:=Tryz.sizeOf116
 v66:=Tryz.zeroValue116
 t70:=underlying120
 a70:=Tryz.isAgg120
 z70:=Tryz.sizeOf120
 v70:=Tryz.zeroValue120
 t76:=underlying130
 a76:=Tryz.isAgg130
 z76:=Tryz.sizeOf130
 v76:=Tryz.zeroValue130
 t77:=underlying131
 a77:=Tryz.isAgg131
 z77:=Tryz.sizeOf131
 v77:=Tryz.zeroValue131 }
end Go.Proofs
namespace Go.Proofs.YtobnolgphljoeaaGreat
open Go.RowKit _root_.Go.Proofs.Tryz
open Go.Shelf
theorem opH{P:Program}{ops:Array Oper}{Q:Exit→Act→World→Prop}{i:Nat}{o:Oper}{K:Act→World→Prop}{a:Act}{w:World}(ho:ops[i]?=some o)
  (h:∀K':Act→World→Prop,(∀a w,K a w→K' a w)→if Region.wanted o (yielded ops a.tmps)=true then Oper.wp P o a w K' Q else K' (a.put o.dst undef) w):wpOp P ops Q i K a w:=by
 unfold wpOp
 simp only[ho]
 have:=h K (fun _ _ q=>q)
 split
 ·rename_i hw
  rw[if_pos hw] at this
  exact .inl this
 ·rename_i hw
  rw[if_neg hw] at this
  exact this
section
variable {P:Program} {md:Region.Mode} {ops:Array Oper} {Q:Exit→Act→World→Prop} {S:World→Prop}
def Z0f(md:Region.Mode)(ops:Array Oper)(t i:Nat):Bool:=match ops[t]? with
 | some o=>o.after.any fun e=>Region.binds md e&&e.on==i
 | none=>true
end
section
variable {P:Program} {md:Region.Mode} {ops:Array Oper} {Q:Exit→Act→World→Prop} {S:World→Prop} {ts:List Nat}
def Z9(P:Program)(md:Region.Mode)(ops:Array Oper)(Q:Exit→Act→World→Prop)(S:World→Prop)(ts:List Nat):Nat→Array Bool→Act→World→Prop
 | 0,listed,a,w=>Region.ready md ops listed=[]∧Q .normal a w
 | fuel+1,listed,a,w =>
  (Region.ready md ops listed=[]→Q .normal a w) ∧
  ∀i∈Region.ready md ops listed,wpOp P ops Q i (fun a' w'=>(S w→i∈ts∨S w')∧Z9 P md ops Q S ts fuel (listed.setIfInBounds i true) a' w') a w
theorem Z0h:∀(fuel:Nat) (listed:Array Bool) (a:Act) (w:World),Z9 P md ops Q S ts fuel listed a w→wpAny P md ops Q fuel listed a w
 | 0,_,_,_,h=>h
 | fuel+1,_,_,_,h=>⟨h.1,fun i hi=>wpOp_mono (fun a' w' h'=>Z0h fuel _ a' w' h'.2) (h.2 i hi)⟩
theorem Z1o{i:Nat}{oi:Oper}{v:Value}(hi:ops[i]?=some oi)(ht:(ts.all fun j=>Z0f md ops j i)=true)(hsel:∀(j:Nat) (o:Oper) cs b,ops[j]?=some o→o.op≠.select cs b)
  (hQ:∀c a w,Q (.panic c) (a.put oi.dst v) w→Q (.panic c) a w) :
  ∀(fuel:Nat) (listed:Array Bool) (a:Act) (w:World),
   (∀j oj,ops[j]?=some oj→j≠i→listed.getD j true=false→(∀e∈oj.after,Region.binds md e=true→e.on≠i)→oi.apart ops oj=true) →
   i∈Region.ready md ops listed→YieldsIf P ops S oi v a→S w →
   Z9 P md ops Q S ts fuel (listed.setIfInBounds i true) (a.put oi.dst v) w→Z9 P md ops Q S ts (fuel+1) listed a w:=by
 intro fuel
 induction fuel with
 | zero =>
  intro listed a w _ hr hy hS H
  refine⟨fun h=>(by rw[h] at hr;cases hr),fun j hj=>?_⟩
  by_cases hji:j=i
  ·subst hji;exact hy.wpOp hi hS ⟨.inr,H⟩
  ·have:=ready_mono hj hji
   rw[H.1] at this
   cases this
 | succ fuel ih =>
  intro listed a w hfree hr hy hS H
  refine⟨fun h=>(by rw[h] at hr;cases hr),fun j hj=>?_⟩
  by_cases hji:j=i
  ·subst hji;exact hy.wpOp hi hS ⟨.inr,H⟩
  ·have h1:=H.2 j (ready_mono hj hji)
   obtain⟨hjun,oj,hoj,hall⟩:=mem_ready.1 hj
   have hnot:∀e∈oj.after,Region.binds md e=true→e.on≠i:=fun e he hb heq=>by
    have h1:=hall e he hb
    have h0:=(mem_ready.1 hr).1
    rw[heq] at h1
    rcases Nat.lt_or_ge i listed.size with h' | h'
    ·simp[h'] at h0 h1;rw[h0] at h1;cases h1
    ·simp[Array.getElem?_eq_none h'] at h1
   have hjt:j∉ts:=fun hjt=>by
    have ht:=List.all_eq_true.1 ht j hjt
    unfold Z0f at ht
    rw[hoj] at ht
    obtain⟨e,he,hb⟩:=Array.any_eq_true'.1 ht
    rw[Bool.and_eq_true,beq_iff_eq] at hb
    exact hnot e he hb.1 hb.2
   have h2:=wpOp_putIf hoj (hfree j oj hoj hji hjun hnot) (fun cs b=>hsel i oi cs b hi) (fun cs b=>hsel j oj cs b hoj) hQ hy h1
   have hfree':∀k ok,ops[k]?=some ok→k≠i→(listed.setIfInBounds j true).getD k true=false →
     (∀e∈ok.after,Region.binds md e=true→e.on≠i)→oi.apart ops ok=true:=fun k ok hk hki hun hno=>by
    refine hfree k ok hk hki ?_ hno
    by_cases hjk:j=k
    ·subst hjk;exact hjun
    ·rw[getD_set_ne true hjk] at hun;exact hun
   refine wpOp_mono (fun a' w' h3=>⟨h3.2.1,ih (listed.setIfInBounds j true) a' w' hfree' (ready_mono hr (Ne.symm hji)) h3.1 ((h3.2.1 hS).resolve_left hjt) ?_⟩) h2
   rw[Array.setIfInBounds_comm _ _ hji]
   exact h3.2.2
theorem Z1p{i:Nat}{oi:Oper}{v:Value}(hi:ops[i]?=some oi)(hsel:∀(j:Nat) (o:Oper) cs b,ops[j]?=some o→o.op≠.select cs b)
  (hQ:∀c a w,Q (.panic c) (a.put oi.dst v) w→Q (.panic c) a w) :
  ∀(fuel:Nat) (listed:Array Bool) (a:Act) (w:World),
   (∀j oj,ops[j]?=some oj→j≠i→listed.getD j true=false→(∀e∈oj.after,Region.binds md e=true→e.on≠i)→oi.apart ops oj=true) →
   i∈Region.ready md ops listed→YieldsIf P ops (fun _=>True) oi v a →
   Z9 P md ops Q S ts fuel (listed.setIfInBounds i true) (a.put oi.dst v) w→Z9 P md ops Q S ts (fuel+1) listed a w:=by
 intro fuel
 induction fuel with
 | zero =>
  intro listed a w _ hr hy H
  refine⟨fun h=>(by rw[h] at hr;cases hr),fun j hj=>?_⟩
  by_cases hji:j=i
  ·subst hji;exact hy.wpOp hi trivial ⟨.inr,H⟩
  ·have:=ready_mono hj hji
   rw[H.1] at this
   cases this
 | succ fuel ih =>
  intro listed a w hfree hr hy H
  refine⟨fun h=>(by rw[h] at hr;cases hr),fun j hj=>?_⟩
  by_cases hji:j=i
  ·subst hji;exact hy.wpOp hi trivial ⟨.inr,H⟩
  ·have h1:=H.2 j (ready_mono hj hji)
   obtain⟨hjun,oj,hoj,hall⟩:=mem_ready.1 hj
   have hnot:∀e∈oj.after,Region.binds md e=true→e.on≠i:=fun e he hb heq=>by
    have h1:=hall e he hb
    have h0:=(mem_ready.1 hr).1
    rw[heq] at h1
    rcases Nat.lt_or_ge i listed.size with h' | h'
    ·simp[h'] at h0 h1;rw[h0] at h1;cases h1
    ·simp[Array.getElem?_eq_none h'] at h1
   have h2:=wpOp_putIf hoj (hfree j oj hoj hji hjun hnot) (fun cs b=>hsel i oi cs b hi) (fun cs b=>hsel j oj cs b hoj) hQ hy h1
   have hfree':∀k ok,ops[k]?=some ok→k≠i→(listed.setIfInBounds j true).getD k true=false →
     (∀e∈ok.after,Region.binds md e=true→e.on≠i)→oi.apart ops ok=true:=fun k ok hk hki hun hno=>by
    refine hfree k ok hk hki ?_ hno
    by_cases hjk:j=k
    ·subst hjk;exact hjun
    ·rw[getD_set_ne true hjk] at hun;exact hun
   refine wpOp_mono (fun a' w' h3=>⟨h3.2.1,ih (listed.setIfInBounds j true) a' w' hfree' (ready_mono hr (Ne.symm hji)) h3.1 ?_⟩) h2
   rw[Array.setIfInBounds_comm _ _ hji]
   exact h3.2.2
theorem Z1(i:Nat){oi:Oper}{fuel:Nat}{listed:Array Bool}{a:Act}{w:World}(hi:ops[i]?=some oi)(ht:(ts.all fun j=>Z0f md ops j i)=true)
  (hs:Region.noSelect ops=true) (hf:Region.free md ops listed i=true) (hr:(Region.ready md ops listed).contains i=true)
  (hQ:∀v c a w,Q (.panic c) (a.put oi.dst v) w→Q (.panic c) a w) (hS:S w)
  (h:∃v,YieldsIf P ops S oi v a∧Z9 P md ops Q S ts fuel (listed.setIfInBounds i true) (a.put oi.dst v) w):Z9 P md ops Q S ts (fuel+1) listed a w:=by
 obtain⟨v,hy,h⟩:=h
 exact Z1o hi ht (Region.noSelect_spec hs) (hQ v) fuel listed a w (Region.free_spec hi hf) (by simpa using hr) hy hS h
theorem Z0(i:Nat){oi:Oper}{fuel:Nat}{listed:Array Bool}{a:Act}{w:World}(hi:ops[i]?=some oi)
  (hs:Region.noSelect ops=true) (hf:Region.free md ops listed i=true) (hr:(Region.ready md ops listed).contains i=true)
  (hQ:∀v c a w,Q (.panic c) (a.put oi.dst v) w→Q (.panic c) a w)
  (h:∃v,YieldsIf P ops (fun _=>True) oi v a∧Z9 P md ops Q S ts fuel (listed.setIfInBounds i true) (a.put oi.dst v) w):Z9 P md ops Q S ts (fuel+1) listed a w:=by
 obtain⟨v,hy,h⟩:=h
 exact Z1p hi (Region.noSelect_spec hs) (hQ v) fuel listed a w (Region.free_spec hi hf) (by simpa using hr) hy h
theorem Z5{listed:Array Bool}{a:Act}{w:World}(hr:Region.ready md ops listed=[])(h:Q .normal a w) :
  ∀fuel,Z9 P md ops Q S ts fuel listed a w
 | 0=>⟨hr,h⟩
 | _+1=>⟨fun _=>h,by rw[hr];simp⟩
theorem Z3(i:Nat){o:Oper}{fuel:Nat}{listed:Array Bool}{a:Act}{w:World}(hr:Region.ready md ops listed=[i])(ho:ops[i]?=some o)
  (h:∀K':Act→World→Prop,(∀a w,i∈ts∨S w→Z9 P md ops Q S ts fuel (listed.setIfInBounds i true) a w→K' a w)→if Region.wanted o (yielded ops a.tmps)=true then Oper.wp P o a w K' Q else K' (a.put o.dst undef) w):Z9 P md ops Q S ts (fuel+1) listed a w :=
 ⟨fun h0=>absurd (hr▸h0) (by simp),fun j hj=>by
  rw[hr] at hj
  obtain rfl:j=i:=by simpa using hj
  exact opH ho (fun K' hK=>h K' (fun a w q1 q2=>hK a w ⟨fun _=>q1,q2⟩))⟩
theorem Za{id:Nat}{l:List Oper}{a:Act}{w:World}(ts:List Nat)(S:World→Prop)(hm:P.follows .mixedOrders=true)
  (h:Z9 P .any l.toArray (NoPanic Q) S ts l.toArray.size (Array.replicate l.toArray.size false) a w.drew):(Code.region id l.toArray true).wp P Q a w :=
 wp_region_noPanic (wp_region_any hm (Z0h _ _ _ _ h))
end
section
open Go.RowKit Go.Sort Go.Shelf
theorem Z0m(x y:Int × Int)(w:World):Calls prog 28 #[.agg (Zb x).toArray,.agg (Zb y).toArray] w fun e w'=>e=.returned (.int .i64 (Z38 x y))∧GG w w':=by
 obtain⟨t,r⟩:=x
 obtain⟨t',r'⟩:=y
 simp only[Zb,Z38]
 go_enter func28,ntmps28
 go_wp2
 go_region_held3 (fun w'=>Z7g w t r t' r' w') (first | assumption | exact Z3t w t r t' r' _ | exact U5 (by assumption) (by assumption) | exact U5 ((GG.refl _).alloc _) (by assumption) | exact U5 (GG.refl _).drew (by assumption))
  (first | (go_at_call 30;refine(Z1w _ _ _).mono ?_;rintro e w' ⟨rfl,rfl⟩) | (go_at_call 29;refine(Zax _ (cP t t') (cP r r') _ (by simp[go_sem]) (by simp[go_sem])).mono ?_;rintro e w' ⟨rfl,rfl⟩))
 all_goals
  rename_i hS
  go_wp2
  go_ret
  exact⟨rfl,hS.2.2⟩
theorem Z61:∀args w,(callFunc 28 args).run prog w=.ok (.enter 28 args) w:=enters_of func28 (by kernel_rfl) rfl
structure OnI(W0:World)(l:List (Int × Int))(v:Value)(k:Nat)(out:List (Int × Int))(w:World):Prop where
 own:Z6 w W0.heap.size v out
 nw:Nw W0 w
 on:Yi l k out
theorem Z10{W0:World}{v:Value}{l:List (Int × Int)}(h:Zw W0 v l)(hl:l.length≤5000)(hw:Z5m l) :
  Calls prog 31 #[v] W0 fun e w'=>∃v' out,e=.returned v'∧Z6 w' W0.heap.size v' out∧Nw W0 w'∧Yi l l.length out:=by
 have HW:=hD0 hw
 obtain⟨ea,ec,rfl,hed⟩:=h
 have HD:=hD0 hed
 obtain⟨n,hn⟩:∃n,l.length=n:=⟨_,rfl⟩
 have HN:=hD0 hn
 rw[hn] at hl ⊢
 clear hw hed hn
 go_enter func31,ntmps31
 go_wp2_with fail
 go_loopw [3,8] (fun v3 v8 wr=>∃(k:Nat) (out:List (Int × Int)) (a:Option Addr) (b c:Nat),v3=.slice a b c∧v8=.int .i64 k∧k≤n∧Hid (OnI W0 l (.slice a b c) k out wr)) (fun _ v8 _=>n-(intOf v8).toNat)
 case atStart=>exact⟨0,[],none,0,0,rfl,rfl,Nat.zero_le _,World.ownsRow_nil _ _ _ _,Nw.refl _,Yi.start l⟩
 case round =>
  obtain⟨k,out,sa,sb,sc,rfl,rfl,hkn,HI⟩:=hrel
  by_cases hlt:k<n
  ·have hkl:k<l.length:=by rw[HN.out];exact hlt
   have Zr:=Zo hlt
   rcases HD.out with⟨q,_⟩ | ⟨eb,eo,rfl,hrc⟩
   ·rw[q] at hkl;simp at hkl
   ·have hrw:=hrc.nw HI.out.nw
    obtain⟨x0,x1⟩:=hrw.eg hkl
    have hebl:=hrw.lt
    obtain⟨e,he⟩:∃e,l[k]=e:=⟨_,rfl⟩
    rw[he] at x0 x1
    obtain⟨ex,ey⟩:=e
    simp only at x0 x1
    have hw:=Zn k (k+1) (Nat.le_trans (Nat.le_of_lt hlt) (Nat.le_trans hl (by decide))) rfl
    obtain⟨k1,hk1⟩:∃m,k+1=m:=⟨_,rfl⟩
    have HK1:=hD0 hk1
    rw[hk1] at hw
    have HE:=hD0 he
    clear hk1 he
    go_upto_region 5 with fail
    have hal:=Z4 wr (.cells #[.int .i64 ex,.int .i64 ey] 30)
    have g4:Nw wr (wr.alloc (.cells #[.int .i64 ex,.int .i64 ey] 30)):=(Nw.refl wr).alloc _
    obtain⟨w4,hw4⟩:∃x,wr.alloc (.cells #[.int .i64 ex,.int .i64 ey] 30)=x:=⟨_,rfl⟩
    obtain⟨B,hB⟩:∃B,wr.heap.size=B:=⟨_,rfl⟩
    rw[hB] at hal ⊢
    rw[hw4] at hal g4 ⊢
    have HI4:=hD0 (show OnI W0 l (.slice sa sb sc) k out w4 from⟨Yq HI.out.own g4,HI.out.nw.trans g4,HI.out.on⟩)
    have HAL:=hD0 hal
    have tB0:∀x,Nw w4 x→x.cell? ⟨B,0,none⟩=some (.int .i64 ex):=fun x g=>g.kp (Z2 (j:=0) HAL.out)
    have tB1:∀x,Nw w4 x→x.cell? ⟨B,1,none⟩=some (.int .i64 ey):=fun x g=>g.kp (Z2 (j:=1) HAL.out)
    clear hal hw4 hB x0 x1 hebl hrw
    by_cases hz:k=0
    ·subst hz
     have HO:=hD0 (show Yi l (0+1) (out++[(ex,ey)]) from by
      have:=HI4.out.on.push HW.out hkl (.inl rfl)
      rwa [HE.out] at this)
     obtain rfl:k1=1:=HK1.out.symm
     clear g4
     refine Za [] (Nw w4) (by kernel_rfl) ?_
     change Z9 _ _ _ _ _ _ 11 #[false,false,false,false,false,false,false,false,false,false,false] _ w4.drew
     obtain⟨y4,hy4⟩:∃y,w4.drew=y:=⟨_,rfl⟩
     rw[hy4]
     have hS0:Nw w4 y4:=by rw[←hy4];exact(Nw.refl w4).dr
     clear hy4
     refine Z0 0 rfl (by kernel_rfl) (by kernel_rfl) (by kernel_rfl) (fun v c a w h=>h) ?_
     (first | (refine⟨undef,Or.inr ⟨by rfl,rfl⟩,?_⟩) | (apply Exists.intro;refine⟨Or.inl ⟨by rfl,?_⟩,?_⟩;(intro x hx';go_simp;first | done | with_reducible rfl)))
     (try simp only[Act.put,List.getElem_toArray,List.getElem_cons_zero,List.getElem_cons_succ,List.setIfInBounds_toArray,List.set_cons_zero,List.set_cons_succ])
     refine Z0 1 rfl (by kernel_rfl) (by kernel_rfl) (by kernel_rfl) (fun v c a w h=>h) ?_
     (first | (refine⟨undef,Or.inr ⟨by rfl,rfl⟩,?_⟩) | (apply Exists.intro;refine⟨Or.inl ⟨by rfl,?_⟩,?_⟩;(intro x hx';go_simp;first | done | with_reducible rfl)))
     (try simp only[Act.put,List.getElem_toArray,List.getElem_cons_zero,List.getElem_cons_succ,List.setIfInBounds_toArray,List.set_cons_zero,List.set_cons_succ])
     refine Z0 2 rfl (by kernel_rfl) (by kernel_rfl) (by kernel_rfl) (fun v c a w h=>h) ?_
     (first | (refine⟨undef,Or.inr ⟨by rfl,rfl⟩,?_⟩) | (apply Exists.intro;refine⟨Or.inl ⟨by rfl,?_⟩,?_⟩;(intro x hx';go_simp;first | done | with_reducible rfl)))
     (try simp only[Act.put,List.getElem_toArray,List.getElem_cons_zero,List.getElem_cons_succ,List.setIfInBounds_toArray,List.set_cons_zero,List.set_cons_succ])
     refine Z1 3 rfl (by kernel_rfl) (by kernel_rfl) (by kernel_rfl) (by kernel_rfl) (fun v c a w h=>h) hS0 ?_
     (first | (refine⟨undef,Or.inr ⟨by rfl,rfl⟩,?_⟩) | (apply Exists.intro;refine⟨Or.inl ⟨by rfl,?_⟩,?_⟩;(intro x hx';go_simp;first | done | with_reducible rfl)))
     (try simp only[Act.put,List.getElem_toArray,List.getElem_cons_zero,List.getElem_cons_succ,List.setIfInBounds_toArray,List.set_cons_zero,List.set_cons_succ])
     refine Z0 4 rfl (by kernel_rfl) (by kernel_rfl) (by kernel_rfl) (fun v c a w h=>h) ?_
     (first | (refine⟨undef,Or.inr ⟨by rfl,rfl⟩,?_⟩) | (apply Exists.intro;refine⟨Or.inl ⟨by rfl,?_⟩,?_⟩;(intro x hx';go_simp;first | done | with_reducible rfl)))
     (try simp only[Act.put,List.getElem_toArray,List.getElem_cons_zero,List.getElem_cons_succ,List.setIfInBounds_toArray,List.set_cons_zero,List.set_cons_succ])
     refine Z0 5 rfl (by kernel_rfl) (by kernel_rfl) (by kernel_rfl) (fun v c a w h=>h) ?_
     (first | (refine⟨undef,Or.inr ⟨by rfl,rfl⟩,?_⟩) | (apply Exists.intro;refine⟨Or.inl ⟨by rfl,?_⟩,?_⟩;(intro x hx';go_simp;first | done | with_reducible rfl)))
     (try simp only[Act.put,List.getElem_toArray,List.getElem_cons_zero,List.getElem_cons_succ,List.setIfInBounds_toArray,List.set_cons_zero,List.set_cons_succ])
     refine Z0 6 rfl (by kernel_rfl) (by kernel_rfl) (by kernel_rfl) (fun v c a w h=>h) ?_
     (first | (refine⟨undef,Or.inr ⟨by rfl,rfl⟩,?_⟩) | (apply Exists.intro;refine⟨Or.inl ⟨by rfl,?_⟩,?_⟩;(intro x hx';go_simp;first | done | with_reducible rfl)))
     (try simp only[Act.put,List.getElem_toArray,List.getElem_cons_zero,List.getElem_cons_succ,List.setIfInBounds_toArray,List.set_cons_zero,List.set_cons_succ])
     refine Z0 7 rfl (by kernel_rfl) (by kernel_rfl) (by kernel_rfl) (fun v c a w h=>h) ?_
     (first | (refine⟨undef,Or.inr ⟨by rfl,rfl⟩,?_⟩) | (apply Exists.intro;refine⟨Or.inl ⟨by rfl,?_⟩,?_⟩;(intro x hx';go_simp;first | done | with_reducible rfl)))
     (try simp only[Act.put,List.getElem_toArray,List.getElem_cons_zero,List.getElem_cons_succ,List.setIfInBounds_toArray,List.set_cons_zero,List.set_cons_succ])
     refine Z1 8 rfl (by kernel_rfl) (by kernel_rfl) (by kernel_rfl) (by kernel_rfl) (fun v c a w h=>h) hS0 ?_
     (first | (refine⟨undef,Or.inr ⟨by rfl,rfl⟩,?_⟩) | (apply Exists.intro;refine⟨Or.inl ⟨by rfl,?_⟩,?_⟩;(intro x hx';go_simp;first | done | with_reducible rfl)))
     (try simp only[Act.put,List.getElem_toArray,List.getElem_cons_zero,List.getElem_cons_succ,List.setIfInBounds_toArray,List.set_cons_zero,List.set_cons_succ])
     refine Z0 9 rfl (by kernel_rfl) (by kernel_rfl) (by kernel_rfl) (fun v c a w h=>h) ?_
     (first | (refine⟨undef,Or.inr ⟨by rfl,rfl⟩,?_⟩) | (apply Exists.intro;refine⟨Or.inl ⟨by rfl,?_⟩,?_⟩;(intro x hx';go_simp;first | done | with_reducible rfl)))
     (try simp only[Act.put,List.getElem_toArray,List.getElem_cons_zero,List.getElem_cons_succ,List.setIfInBounds_toArray,List.set_cons_zero,List.set_cons_succ])
     refine Z0 10 rfl (by kernel_rfl) (by kernel_rfl) (by kernel_rfl) (fun v c a w h=>h) ?_
     (first | (refine⟨undef,Or.inr ⟨by rfl,rfl⟩,?_⟩) | (apply Exists.intro;refine⟨Or.inl ⟨by rfl,?_⟩,?_⟩;(intro x hx';go_simp;first | done | with_reducible rfl)))
     (try simp only[Act.put,List.getElem_toArray,List.getElem_cons_zero,List.getElem_cons_succ,List.setIfInBounds_toArray,List.set_cons_zero,List.set_cons_succ])
     refine Z5 (by kernel_rfl) ?_ _
     refine NoPanic.normal ?_
     (try simp only[Act.put,List.getElem_toArray,List.getElem_cons_zero,List.getElem_cons_succ,List.setIfInBounds_toArray,List.set_cons_zero,List.set_cons_succ])
     have hal6:=Z4 y4 (.cells #[.int .i64 ex,.int .i64 ey] 30)
     have g6:Nw y4 (y4.alloc (.cells #[.int .i64 ex,.int .i64 ey] 30)):=(Nw.refl y4).alloc _
     obtain⟨v',w6,hr6,hO6,hg6,_,ga6,cc6,rfl⟩:=Zt.push Y0 (Yq (Yq HI4.out.own hS0) g6) (ex,ey) y4.heap.size 1 (fun j u hu=>by
      rw[Z2 hal6]
      simpa [Zb] using hu) (by have:=HI4.out.on.len;omega) ((HI4.out.nw.trans hS0).trans g6).sz
     have HI6:=hD0 (show OnI W0 l (.slice (some ⟨ga6,0,none⟩) (out.length+1) cc6) 1 (out++[(ex,ey)]) w6 from⟨hO6,((HI4.out.nw.trans hS0).trans g6).gro hg6 (fun b e=>Vg HI4.out.own e),HO.out⟩)
     have HR6:=hD0 hr6
     have hb0:=tB0 y4 hS0
     have hb1:=tB1 y4 hS0
     have hBl:=lL0 (Go.Proofs.YtobnolgphljoeaaGreat.hlt HAL.out) hS0.sz
     clear hal6 g6 hr6 hO6 hg6 hS0 tB0 tB1 HI4
     go_wp2_with (at_builtin;refine Z7 (by rfl) (.tmp 24) (.tmp 26) 23 rfl _ _ _ _ rfl rfl HR6.out ?_)
     go_roundw
     case rel=>exact⟨1,out++[(ex,ey)],some ⟨ga6,0,none⟩,out.length+1,cc6,rfl,rfl,hlt,HI6⟩
     case measure=>(show n-(1:Int).toNat<n-((0:Nat):Int).toNat;omega)
    ·obtain⟨j,hj⟩:∃j,k=j+1:=⟨k-1,by omega⟩
     have hjl:j<l.length:=by omega
     have hrw4:=hrc.nw (HI.out.nw.trans g4)
     obtain⟨y0,y1⟩:=hrw4.eg hjl
     have hdj:=V3 k j (Nat.le_trans (Nat.le_of_lt hlt) (Nat.le_trans hl (by decide))) hj
     have hjn':(j:Int)<(n:Int):=by omega
     have hjn:j<n:=by omega
     have hz1:((k:Int)==0)=false:=by simp;omega
     have hz2:(k==0)=false:=by simp;omega
     obtain⟨f,hf⟩:∃f,l[j]=f:=⟨_,rfl⟩
     rw[hf] at y0 y1
     obtain⟨fx,fy⟩:=f
     simp only at y0 y1
     have ty0:∀x,Nw w4 x→x.cell? ⟨eb,eo+j*2,none⟩=some (.int .i64 fx):=fun x g=>g.kp y0
     have ty1:∀x,Nw w4 x→x.cell? ⟨eb,eo+j*2+1,none⟩=some (.int .i64 fy):=fun x g=>g.kp y1
     have HF:=hD0 (show ∃hj:j<l.length,k=j+1∧l[j]=(fx,fy) from⟨hjl,hj,hf⟩)
     clear g4 hrw4 y0 y1 hj hjl hf hz
     by_cases hxy:ex=fx∧ey=fy
     ·obtain⟨hx1,hy1⟩:=hxy
      subst hx1
      subst hy1
      refine Za [] (Nw w4) (by kernel_rfl) ?_
      change Z9 _ _ _ _ _ _ 11 #[false,false,false,false,false,false,false,false,false,false,false] _ w4.drew
      obtain⟨y4,hy4⟩:∃y,w4.drew=y:=⟨_,rfl⟩
      rw[hy4]
      have hS0:Nw w4 y4:=by rw[←hy4];exact(Nw.refl w4).dr
      clear hy4
      refine Z0 0 rfl (by kernel_rfl) (by kernel_rfl) (by kernel_rfl) (fun v c a w h=>h) ?_
      (first | (refine⟨undef,Or.inr ⟨by rfl,rfl⟩,?_⟩) | (apply Exists.intro;refine⟨Or.inl ⟨by rfl,?_⟩,?_⟩;(intro x hx';go_simp;first | done | with_reducible rfl)))
      (try simp only[Act.put,List.getElem_toArray,List.getElem_cons_zero,List.getElem_cons_succ,List.setIfInBounds_toArray,List.set_cons_zero,List.set_cons_succ])
      refine Z0 1 rfl (by kernel_rfl) (by kernel_rfl) (by kernel_rfl) (fun v c a w h=>h) ?_
      (first | (refine⟨undef,Or.inr ⟨by rfl,rfl⟩,?_⟩) | (apply Exists.intro;refine⟨Or.inl ⟨by rfl,?_⟩,?_⟩;(intro x hx';go_simp;first | done | with_reducible rfl)))
      (try simp only[Act.put,List.getElem_toArray,List.getElem_cons_zero,List.getElem_cons_succ,List.setIfInBounds_toArray,List.set_cons_zero,List.set_cons_succ])
      refine Z0 2 rfl (by kernel_rfl) (by kernel_rfl) (by kernel_rfl) (fun v c a w h=>h) ?_
      (first | (refine⟨undef,Or.inr ⟨by rfl,rfl⟩,?_⟩) | (apply Exists.intro;refine⟨Or.inl ⟨by rfl,?_⟩,?_⟩;(intro x hx';go_simp;first | done | with_reducible rfl)))
      (try simp only[Act.put,List.getElem_toArray,List.getElem_cons_zero,List.getElem_cons_succ,List.setIfInBounds_toArray,List.set_cons_zero,List.set_cons_succ])
      refine Z1 3 rfl (by kernel_rfl) (by kernel_rfl) (by kernel_rfl) (by kernel_rfl) (fun v c a w h=>h) hS0 ?_
      (first | (refine⟨undef,Or.inr ⟨by rfl,rfl⟩,?_⟩) | (apply Exists.intro;refine⟨Or.inl ⟨by rfl,?_⟩,?_⟩;(intro x hx';go_simp;first | done | with_reducible rfl)))
      (try simp only[Act.put,List.getElem_toArray,List.getElem_cons_zero,List.getElem_cons_succ,List.setIfInBounds_toArray,List.set_cons_zero,List.set_cons_succ])
      refine Z0 4 rfl (by kernel_rfl) (by kernel_rfl) (by kernel_rfl) (fun v c a w h=>h) ?_
      (first | (refine⟨undef,Or.inr ⟨by rfl,rfl⟩,?_⟩) | (apply Exists.intro;refine⟨Or.inl ⟨by rfl,?_⟩,?_⟩;(intro x hx';go_simp;first | done | with_reducible rfl)))
      (try simp only[Act.put,List.getElem_toArray,List.getElem_cons_zero,List.getElem_cons_succ,List.setIfInBounds_toArray,List.set_cons_zero,List.set_cons_succ])
      refine Z0 5 rfl (by kernel_rfl) (by kernel_rfl) (by kernel_rfl) (fun v c a w h=>h) ?_
      (first | (refine⟨undef,Or.inr ⟨by rfl,rfl⟩,?_⟩) | (apply Exists.intro;refine⟨Or.inl ⟨by rfl,?_⟩,?_⟩;(intro x hx';go_simp;first | done | with_reducible rfl)))
      (try simp only[Act.put,List.getElem_toArray,List.getElem_cons_zero,List.getElem_cons_succ,List.setIfInBounds_toArray,List.set_cons_zero,List.set_cons_succ])
      refine Z0 6 rfl (by kernel_rfl) (by kernel_rfl) (by kernel_rfl) (fun v c a w h=>h) ?_
      (first | (refine⟨undef,Or.inr ⟨by rfl,rfl⟩,?_⟩) | (apply Exists.intro;refine⟨Or.inl ⟨by rfl,?_⟩,?_⟩;(intro x hx';go_simp;first | done | with_reducible rfl)))
      (try simp only[Act.put,List.getElem_toArray,List.getElem_cons_zero,List.getElem_cons_succ,List.setIfInBounds_toArray,List.set_cons_zero,List.set_cons_succ])
      refine Z0 7 rfl (by kernel_rfl) (by kernel_rfl) (by kernel_rfl) (fun v c a w h=>h) ?_
      (first | (refine⟨undef,Or.inr ⟨by rfl,rfl⟩,?_⟩) | (apply Exists.intro;refine⟨Or.inl ⟨by rfl,?_⟩,?_⟩;(intro x hx';go_simp;first | done | with_reducible rfl)))
      (try simp only[Act.put,List.getElem_toArray,List.getElem_cons_zero,List.getElem_cons_succ,List.setIfInBounds_toArray,List.set_cons_zero,List.set_cons_succ])
      refine Z1 8 rfl (by kernel_rfl) (by kernel_rfl) (by kernel_rfl) (by kernel_rfl) (fun v c a w h=>h) hS0 ?_
      (first | (refine⟨undef,Or.inr ⟨by rfl,rfl⟩,?_⟩) | (apply Exists.intro;refine⟨Or.inl ⟨by rfl,?_⟩,?_⟩;(intro x hx';go_simp;first | done | with_reducible rfl)))
      (try simp only[Act.put,List.getElem_toArray,List.getElem_cons_zero,List.getElem_cons_succ,List.setIfInBounds_toArray,List.set_cons_zero,List.set_cons_succ])
      refine Z0 9 rfl (by kernel_rfl) (by kernel_rfl) (by kernel_rfl) (fun v c a w h=>h) ?_
      (first | (refine⟨undef,Or.inr ⟨by rfl,rfl⟩,?_⟩) | (apply Exists.intro;refine⟨Or.inl ⟨by rfl,?_⟩,?_⟩;(intro x hx';go_simp;first | done | with_reducible rfl)))
      (try simp only[Act.put,List.getElem_toArray,List.getElem_cons_zero,List.getElem_cons_succ,List.setIfInBounds_toArray,List.set_cons_zero,List.set_cons_succ])
      refine Z0 10 rfl (by kernel_rfl) (by kernel_rfl) (by kernel_rfl) (fun v c a w h=>h) ?_
      (first | (refine⟨undef,Or.inr ⟨by rfl,rfl⟩,?_⟩) | (apply Exists.intro;refine⟨Or.inl ⟨by rfl,?_⟩,?_⟩;(intro x hx';go_simp;first | done | with_reducible rfl)))
      (try simp only[Act.put,List.getElem_toArray,List.getElem_cons_zero,List.getElem_cons_succ,List.setIfInBounds_toArray,List.set_cons_zero,List.set_cons_succ])
      refine Z5 (by kernel_rfl) ?_ _
      refine NoPanic.normal ?_
      (try simp only[Act.put,List.getElem_toArray,List.getElem_cons_zero,List.getElem_cons_succ,List.setIfInBounds_toArray,List.set_cons_zero,List.set_cons_succ])
      have HS:=hD0 (show OnI W0 l (.slice sa sb sc) k1 out y4 from⟨Yq HI4.out.own hS0,HI4.out.nw.trans hS0,by
       obtain⟨hjl,hj,hf⟩:=HF.out
       rw[←HK1.out]
       exact HI4.out.on.skip hkl hjl hj (by rw[HE.out,hf])⟩)
      clear hS0 tB0 tB1 ty0 ty1 HI4
      go_wp2_with fail
      go_roundw
      case rel=>exact⟨k1,out,sa,sb,sc,rfl,rfl,by rw[←HK1.out];exact hlt,HS⟩
      case measure=>rw[←HK1.out];exact Zk hlt
     ·have HO:=hD0 (show Yi l (k+1) (out++[(ex,ey)]) from by
       obtain⟨hjl,hj,hf⟩:=HF.out
       have:=HI4.out.on.push HW.out hkl (.inr ⟨_,hjl,hj,by
        rw[HE.out,hf]
        exact fun q=>hxy ⟨congrArg Prod.fst q,congrArg Prod.snd q⟩⟩)
       rwa [HE.out] at this)
      by_cases hx:ex=fx
      ·subst hx
       have hy1:(ey==fy)=false:=by simpa using fun q=>hxy ⟨rfl,q⟩
       have hy3:¬ey=fy:=fun q=>hxy ⟨rfl,q⟩
       clear hxy
       refine Za [] (Nw w4) (by kernel_rfl) ?_
       change Z9 _ _ _ _ _ _ 11 #[false,false,false,false,false,false,false,false,false,false,false] _ w4.drew
       obtain⟨y4,hy4⟩:∃y,w4.drew=y:=⟨_,rfl⟩
       rw[hy4]
       have hS0:Nw w4 y4:=by rw[←hy4];exact(Nw.refl w4).dr
       clear hy4
       refine Z0 0 rfl (by kernel_rfl) (by kernel_rfl) (by kernel_rfl) (fun v c a w h=>h) ?_
       (first | (refine⟨undef,Or.inr ⟨by rfl,rfl⟩,?_⟩) | (apply Exists.intro;refine⟨Or.inl ⟨by rfl,?_⟩,?_⟩;(intro x hx';go_simp;first | done | with_reducible rfl)))
       (try simp only[Act.put,List.getElem_toArray,List.getElem_cons_zero,List.getElem_cons_succ,List.setIfInBounds_toArray,List.set_cons_zero,List.set_cons_succ])
       refine Z0 1 rfl (by kernel_rfl) (by kernel_rfl) (by kernel_rfl) (fun v c a w h=>h) ?_
       (first | (refine⟨undef,Or.inr ⟨by rfl,rfl⟩,?_⟩) | (apply Exists.intro;refine⟨Or.inl ⟨by rfl,?_⟩,?_⟩;(intro x hx';go_simp;first | done | with_reducible rfl)))
       (try simp only[Act.put,List.getElem_toArray,List.getElem_cons_zero,List.getElem_cons_succ,List.setIfInBounds_toArray,List.set_cons_zero,List.set_cons_succ])
       refine Z0 2 rfl (by kernel_rfl) (by kernel_rfl) (by kernel_rfl) (fun v c a w h=>h) ?_
       (first | (refine⟨undef,Or.inr ⟨by rfl,rfl⟩,?_⟩) | (apply Exists.intro;refine⟨Or.inl ⟨by rfl,?_⟩,?_⟩;(intro x hx';go_simp;first | done | with_reducible rfl)))
       (try simp only[Act.put,List.getElem_toArray,List.getElem_cons_zero,List.getElem_cons_succ,List.setIfInBounds_toArray,List.set_cons_zero,List.set_cons_succ])
       refine Z1 3 rfl (by kernel_rfl) (by kernel_rfl) (by kernel_rfl) (by kernel_rfl) (fun v c a w h=>h) hS0 ?_
       (first | (refine⟨undef,Or.inr ⟨by rfl,rfl⟩,?_⟩) | (apply Exists.intro;refine⟨Or.inl ⟨by rfl,?_⟩,?_⟩;(intro x hx';go_simp;first | done | with_reducible rfl)))
       (try simp only[Act.put,List.getElem_toArray,List.getElem_cons_zero,List.getElem_cons_succ,List.setIfInBounds_toArray,List.set_cons_zero,List.set_cons_succ])
       refine Z0 4 rfl (by kernel_rfl) (by kernel_rfl) (by kernel_rfl) (fun v c a w h=>h) ?_
       (first | (refine⟨undef,Or.inr ⟨by rfl,rfl⟩,?_⟩) | (apply Exists.intro;refine⟨Or.inl ⟨by rfl,?_⟩,?_⟩;(intro x hx';go_simp;first | done | with_reducible rfl)))
       (try simp only[Act.put,List.getElem_toArray,List.getElem_cons_zero,List.getElem_cons_succ,List.setIfInBounds_toArray,List.set_cons_zero,List.set_cons_succ])
       refine Z0 5 rfl (by kernel_rfl) (by kernel_rfl) (by kernel_rfl) (fun v c a w h=>h) ?_
       (first | (refine⟨undef,Or.inr ⟨by rfl,rfl⟩,?_⟩) | (apply Exists.intro;refine⟨Or.inl ⟨by rfl,?_⟩,?_⟩;(intro x hx';go_simp;first | done | with_reducible rfl)))
       (try simp only[Act.put,List.getElem_toArray,List.getElem_cons_zero,List.getElem_cons_succ,List.setIfInBounds_toArray,List.set_cons_zero,List.set_cons_succ])
       refine Z0 6 rfl (by kernel_rfl) (by kernel_rfl) (by kernel_rfl) (fun v c a w h=>h) ?_
       (first | (refine⟨undef,Or.inr ⟨by rfl,rfl⟩,?_⟩) | (apply Exists.intro;refine⟨Or.inl ⟨by rfl,?_⟩,?_⟩;(intro x hx';go_simp;first | done | with_reducible rfl)))
       (try simp only[Act.put,List.getElem_toArray,List.getElem_cons_zero,List.getElem_cons_succ,List.setIfInBounds_toArray,List.set_cons_zero,List.set_cons_succ])
       refine Z0 7 rfl (by kernel_rfl) (by kernel_rfl) (by kernel_rfl) (fun v c a w h=>h) ?_
       (first | (refine⟨undef,Or.inr ⟨by rfl,rfl⟩,?_⟩) | (apply Exists.intro;refine⟨Or.inl ⟨by rfl,?_⟩,?_⟩;(intro x hx';go_simp;first | done | with_reducible rfl)))
       (try simp only[Act.put,List.getElem_toArray,List.getElem_cons_zero,List.getElem_cons_succ,List.setIfInBounds_toArray,List.set_cons_zero,List.set_cons_succ])
       refine Z1 8 rfl (by kernel_rfl) (by kernel_rfl) (by kernel_rfl) (by kernel_rfl) (fun v c a w h=>h) hS0 ?_
       (first | (refine⟨undef,Or.inr ⟨by rfl,rfl⟩,?_⟩) | (apply Exists.intro;refine⟨Or.inl ⟨by rfl,?_⟩,?_⟩;(intro x hx';go_simp;first | done | with_reducible rfl)))
       (try simp only[Act.put,List.getElem_toArray,List.getElem_cons_zero,List.getElem_cons_succ,List.setIfInBounds_toArray,List.set_cons_zero,List.set_cons_succ])
       refine Z0 9 rfl (by kernel_rfl) (by kernel_rfl) (by kernel_rfl) (fun v c a w h=>h) ?_
       (first | (refine⟨undef,Or.inr ⟨by rfl,rfl⟩,?_⟩) | (apply Exists.intro;refine⟨Or.inl ⟨by rfl,?_⟩,?_⟩;(intro x hx';go_simp;first | done | with_reducible rfl)))
       (try simp only[Act.put,List.getElem_toArray,List.getElem_cons_zero,List.getElem_cons_succ,List.setIfInBounds_toArray,List.set_cons_zero,List.set_cons_succ])
       refine Z0 10 rfl (by kernel_rfl) (by kernel_rfl) (by kernel_rfl) (fun v c a w h=>h) ?_
       (first | (refine⟨undef,Or.inr ⟨by rfl,rfl⟩,?_⟩) | (apply Exists.intro;refine⟨Or.inl ⟨by rfl,?_⟩,?_⟩;(intro x hx';go_simp;first | done | with_reducible rfl)))
       (try simp only[Act.put,List.getElem_toArray,List.getElem_cons_zero,List.getElem_cons_succ,List.setIfInBounds_toArray,List.set_cons_zero,List.set_cons_succ])
       refine Z5 (by kernel_rfl) ?_ _
       refine NoPanic.normal ?_
       (try simp only[Act.put,List.getElem_toArray,List.getElem_cons_zero,List.getElem_cons_succ,List.setIfInBounds_toArray,List.set_cons_zero,List.set_cons_succ])
       have hal6:=Z4 y4 (.cells #[.int .i64 ex,.int .i64 ey] 30)
       have g6:Nw y4 (y4.alloc (.cells #[.int .i64 ex,.int .i64 ey] 30)):=(Nw.refl y4).alloc _
       obtain⟨v',w6,hr6,hO6,hg6,_,ga6,cc6,rfl⟩:=Zt.push Y0 (Yq (Yq HI4.out.own hS0) g6) (ex,ey) y4.heap.size 1 (fun j u hu=>by
        rw[Z2 hal6]
        simpa [Zb] using hu) (by have:=HI4.out.on.len;omega) ((HI4.out.nw.trans hS0).trans g6).sz
       have HI6:=hD0 (show OnI W0 l (.slice (some ⟨ga6,0,none⟩) (out.length+1) cc6) k1 (out++[(ex,ey)]) w6 from⟨hO6,((HI4.out.nw.trans hS0).trans g6).gro hg6 (fun b e=>Vg HI4.out.own e),by rw[←HK1.out];exact HO.out⟩)
       have HR6:=hD0 hr6
       have hb0:=tB0 y4 hS0
       have hb1:=tB1 y4 hS0
       have hBl:=lL0 (Go.Proofs.YtobnolgphljoeaaGreat.hlt HAL.out) hS0.sz
       clear hal6 g6 hr6 hO6 hg6 hS0 tB0 tB1 HI4 ty0 ty1
       go_wp2_with (at_builtin;refine Z7 (by rfl) (.tmp 24) (.tmp 26) 23 rfl _ _ _ _ rfl rfl HR6.out ?_)
       go_roundw
       case rel=>exact⟨k1,out++[(ex,ey)],some ⟨ga6,0,none⟩,out.length+1,cc6,rfl,rfl,by rw[←HK1.out];exact hlt,HI6⟩
       case measure=>rw[←HK1.out];exact Zk hlt
      ·have hx1:(ex==fx)=false:=by simpa using hx
       clear hxy
       refine Za [] (Nw w4) (by kernel_rfl) ?_
       change Z9 _ _ _ _ _ _ 11 #[false,false,false,false,false,false,false,false,false,false,false] _ w4.drew
       obtain⟨y4,hy4⟩:∃y,w4.drew=y:=⟨_,rfl⟩
       rw[hy4]
       have hS0:Nw w4 y4:=by rw[←hy4];exact(Nw.refl w4).dr
       clear hy4
       refine Z0 0 rfl (by kernel_rfl) (by kernel_rfl) (by kernel_rfl) (fun v c a w h=>h) ?_
       (first | (refine⟨undef,Or.inr ⟨by rfl,rfl⟩,?_⟩) | (apply Exists.intro;refine⟨Or.inl ⟨by rfl,?_⟩,?_⟩;(intro x hx';go_simp;first | done | with_reducible rfl)))
       (try simp only[Act.put,List.getElem_toArray,List.getElem_cons_zero,List.getElem_cons_succ,List.setIfInBounds_toArray,List.set_cons_zero,List.set_cons_succ])
       refine Z0 1 rfl (by kernel_rfl) (by kernel_rfl) (by kernel_rfl) (fun v c a w h=>h) ?_
       (first | (refine⟨undef,Or.inr ⟨by rfl,rfl⟩,?_⟩) | (apply Exists.intro;refine⟨Or.inl ⟨by rfl,?_⟩,?_⟩;(intro x hx';go_simp;first | done | with_reducible rfl)))
       (try simp only[Act.put,List.getElem_toArray,List.getElem_cons_zero,List.getElem_cons_succ,List.setIfInBounds_toArray,List.set_cons_zero,List.set_cons_succ])
       refine Z0 2 rfl (by kernel_rfl) (by kernel_rfl) (by kernel_rfl) (fun v c a w h=>h) ?_
       (first | (refine⟨undef,Or.inr ⟨by rfl,rfl⟩,?_⟩) | (apply Exists.intro;refine⟨Or.inl ⟨by rfl,?_⟩,?_⟩;(intro x hx';go_simp;first | done | with_reducible rfl)))
       (try simp only[Act.put,List.getElem_toArray,List.getElem_cons_zero,List.getElem_cons_succ,List.setIfInBounds_toArray,List.set_cons_zero,List.set_cons_succ])
       refine Z1 3 rfl (by kernel_rfl) (by kernel_rfl) (by kernel_rfl) (by kernel_rfl) (fun v c a w h=>h) hS0 ?_
       (first | (refine⟨undef,Or.inr ⟨by rfl,rfl⟩,?_⟩) | (apply Exists.intro;refine⟨Or.inl ⟨by rfl,?_⟩,?_⟩;(intro x hx';go_simp;first | done | with_reducible rfl)))
       (try simp only[Act.put,List.getElem_toArray,List.getElem_cons_zero,List.getElem_cons_succ,List.setIfInBounds_toArray,List.set_cons_zero,List.set_cons_succ])
       refine Z0 4 rfl (by kernel_rfl) (by kernel_rfl) (by kernel_rfl) (fun v c a w h=>h) ?_
       (first | (refine⟨undef,Or.inr ⟨by rfl,rfl⟩,?_⟩) | (apply Exists.intro;refine⟨Or.inl ⟨by rfl,?_⟩,?_⟩;(intro x hx';go_simp;first | done | with_reducible rfl)))
       (try simp only[Act.put,List.getElem_toArray,List.getElem_cons_zero,List.getElem_cons_succ,List.setIfInBounds_toArray,List.set_cons_zero,List.set_cons_succ])
       refine Z0 5 rfl (by kernel_rfl) (by kernel_rfl) (by kernel_rfl) (fun v c a w h=>h) ?_
       (first | (refine⟨undef,Or.inr ⟨by rfl,rfl⟩,?_⟩) | (apply Exists.intro;refine⟨Or.inl ⟨by rfl,?_⟩,?_⟩;(intro x hx';go_simp;first | done | with_reducible rfl)))
       (try simp only[Act.put,List.getElem_toArray,List.getElem_cons_zero,List.getElem_cons_succ,List.setIfInBounds_toArray,List.set_cons_zero,List.set_cons_succ])
       refine Z0 6 rfl (by kernel_rfl) (by kernel_rfl) (by kernel_rfl) (fun v c a w h=>h) ?_
       (first | (refine⟨undef,Or.inr ⟨by rfl,rfl⟩,?_⟩) | (apply Exists.intro;refine⟨Or.inl ⟨by rfl,?_⟩,?_⟩;(intro x hx';go_simp;first | done | with_reducible rfl)))
       (try simp only[Act.put,List.getElem_toArray,List.getElem_cons_zero,List.getElem_cons_succ,List.setIfInBounds_toArray,List.set_cons_zero,List.set_cons_succ])
       refine Z0 7 rfl (by kernel_rfl) (by kernel_rfl) (by kernel_rfl) (fun v c a w h=>h) ?_
       (first | (refine⟨undef,Or.inr ⟨by rfl,rfl⟩,?_⟩) | (apply Exists.intro;refine⟨Or.inl ⟨by rfl,?_⟩,?_⟩;(intro x hx';go_simp;first | done | with_reducible rfl)))
       (try simp only[Act.put,List.getElem_toArray,List.getElem_cons_zero,List.getElem_cons_succ,List.setIfInBounds_toArray,List.set_cons_zero,List.set_cons_succ])
       refine Z1 8 rfl (by kernel_rfl) (by kernel_rfl) (by kernel_rfl) (by kernel_rfl) (fun v c a w h=>h) hS0 ?_
       (first | (refine⟨undef,Or.inr ⟨by rfl,rfl⟩,?_⟩) | (apply Exists.intro;refine⟨Or.inl ⟨by rfl,?_⟩,?_⟩;(intro x hx';go_simp;first | done | with_reducible rfl)))
       (try simp only[Act.put,List.getElem_toArray,List.getElem_cons_zero,List.getElem_cons_succ,List.setIfInBounds_toArray,List.set_cons_zero,List.set_cons_succ])
       refine Z0 9 rfl (by kernel_rfl) (by kernel_rfl) (by kernel_rfl) (fun v c a w h=>h) ?_
       (first | (refine⟨undef,Or.inr ⟨by rfl,rfl⟩,?_⟩) | (apply Exists.intro;refine⟨Or.inl ⟨by rfl,?_⟩,?_⟩;(intro x hx';go_simp;first | done | with_reducible rfl)))
       (try simp only[Act.put,List.getElem_toArray,List.getElem_cons_zero,List.getElem_cons_succ,List.setIfInBounds_toArray,List.set_cons_zero,List.set_cons_succ])
       refine Z0 10 rfl (by kernel_rfl) (by kernel_rfl) (by kernel_rfl) (fun v c a w h=>h) ?_
       (first | (refine⟨undef,Or.inr ⟨by rfl,rfl⟩,?_⟩) | (apply Exists.intro;refine⟨Or.inl ⟨by rfl,?_⟩,?_⟩;(intro x hx';go_simp;first | done | with_reducible rfl)))
       (try simp only[Act.put,List.getElem_toArray,List.getElem_cons_zero,List.getElem_cons_succ,List.setIfInBounds_toArray,List.set_cons_zero,List.set_cons_succ])
       refine Z5 (by kernel_rfl) ?_ _
       refine NoPanic.normal ?_
       (try simp only[Act.put,List.getElem_toArray,List.getElem_cons_zero,List.getElem_cons_succ,List.setIfInBounds_toArray,List.set_cons_zero,List.set_cons_succ])
       have hal6:=Z4 y4 (.cells #[.int .i64 ex,.int .i64 ey] 30)
       have g6:Nw y4 (y4.alloc (.cells #[.int .i64 ex,.int .i64 ey] 30)):=(Nw.refl y4).alloc _
       obtain⟨v',w6,hr6,hO6,hg6,_,ga6,cc6,rfl⟩:=Zt.push Y0 (Yq (Yq HI4.out.own hS0) g6) (ex,ey) y4.heap.size 1 (fun j u hu=>by
        rw[Z2 hal6]
        simpa [Zb] using hu) (by have:=HI4.out.on.len;omega) ((HI4.out.nw.trans hS0).trans g6).sz
       have HI6:=hD0 (show OnI W0 l (.slice (some ⟨ga6,0,none⟩) (out.length+1) cc6) k1 (out++[(ex,ey)]) w6 from⟨hO6,((HI4.out.nw.trans hS0).trans g6).gro hg6 (fun b e=>Vg HI4.out.own e),by rw[←HK1.out];exact HO.out⟩)
       have HR6:=hD0 hr6
       have hb0:=tB0 y4 hS0
       have hb1:=tB1 y4 hS0
       have hBl:=lL0 (Go.Proofs.YtobnolgphljoeaaGreat.hlt HAL.out) hS0.sz
       clear hal6 g6 hr6 hO6 hg6 hS0 tB0 tB1 HI4 ty0 ty1
       go_wp2_with (at_builtin;refine Z7 (by rfl) (.tmp 24) (.tmp 26) 23 rfl _ _ _ _ rfl rfl HR6.out ?_)
       go_roundw
       case rel=>exact⟨k1,out++[(ex,ey)],some ⟨ga6,0,none⟩,out.length+1,cc6,rfl,rfl,by rw[←HK1.out];exact hlt,HI6⟩
       case measure=>rw[←HK1.out];exact Zk hlt
  ·obtain rfl:k=n:=Nat.le_antisymm hkn (Nat.le_of_not_lt hlt)
   have Zr:¬k<k:=Nat.lt_irrefl k
   clear hlt
   go_wp2
   go_ret
   exact⟨_,out,rfl,HI.out.own,HI.out.nw,HI.out.on⟩
theorem Weak.of{l:List (Int × Int)}(h:l.Pairwise fun a b=>ltOf Z38 b a=false):Z5m l:=h.imp (fun {a b} q=>by
 rw[Uk] at q
 exact of_decide_eq_false q)
theorem Z0c{w:World}{v:Value}{l:List (Int × Int)}(h:Zw w v l)(hl:l.length≤5000) :
  Calls prog 12 #[v] w fun e w'=>∃v',e=.returned v'∧Z6 w' w.heap.size v' (sortE l)∧Nw w w':=by
 have HC:=hD0 (Z60 v l w (Nat.le_trans hl (by decide)) h)
 obtain⟨a,c,rfl⟩:=h.form
 have HL:=hD0 hl
 clear h hl
 go_enter func12,ntmps12
 go_wp2_with fail
 refine HC.out.mono ?_
 rintro e w1 ⟨v1,rfl,g1,hO1⟩
 rcases V8 hO1 with⟨rfl,hz⟩ | ⟨g,cap,rfl⟩
 ·have hl0:l=[]:=List.length_eq_zero_iff.1 hz
  have HS:=hD0 (AnyF.slices_SortFunc_none (P:=prog) { Tryz.sortE with } none 0 (.func (.func 28) #[] #[]) w1)
  have HOn:=hD0 (Z10 (W0:=w1) (v:=.slice none 0 0) (l:=[]) (Rd.nil w1) (by simp) List.Pairwise.nil)
  have HG:=hD0 (aI0 g1 hl0)
  clear g1 hl0 hO1 hz HC
  go_wp2_with fail
  refine Calls.mono HS.out ?_
  rintro e w2 ⟨rfl,rfl⟩
  go_wp2_with fail
  refine HOn.out.mono ?_
  rintro e w3 ⟨v3,out,rfl,hO,hN,hP⟩
  have HE:=hD0 (show Z6 w3 w.heap.size v3 (sortE l)∧Nw w w3 from by
   have e:out=[]:=by
    have:=hP.len
    exact List.length_eq_zero_iff.1 (Nat.le_zero.1 this)
   rw[HG.out.2]
   subst e
   exact⟨Z0k hO (fun b q=>by have:=Vg hO q;have:=HG.out.1.sz;omega),HG.out.1.trans hN⟩)
  clear hO hN hP
  go_wp2
  go_ret
  exact⟨_,rfl,HE.out.1,HE.out.2⟩
 ·have HS:=hD0 (Z5h Y0 (ρ:=_) { Tryz.sortE with } (by intro w;kernel_rfl) (by intro w;kernel_rfl) Z38 Z5s 28 Z61 Z0m _ g cap l w1 hO1 (Nat.le_trans HL.out (by decide)))
  have HG:=hD0 (aI0 g1 (Vg hO1 (g:=g) rfl))
  clear g1 hO1 HC
  go_wp2_with fail
  refine Calls.mono HS.out ?_
  rintro e w2 ⟨rfl,l2,hp,hs,hO2,ht⟩
  have hl2:l2.length=l.length:=hp.length_eq
  have hO2':=hO2
  rw[hl2] at hO2'
  have g2:Nw w w2:=Zi HG.out.1 ht (fun i e=>by subst e;exact HG.out.2)
  have HOn:=hD0 (Z10 (W0:=w2) (v:=.slice (some ⟨g,0,none⟩) l2.length cap) (l:=l2) (Z6.at_ hO2) (by rw[hl2];exact HL.out) (Weak.of hs))
  rw[hl2] at HOn
  have HG2:=hD0 (aI0 g2 (aI0 hp hl2))
  clear g2 hp hs hO2 hO2' ht hl2 HS HG
  go_wp2_with fail
  refine HOn.out.mono ?_
  rintro e w3 ⟨v3,out,rfl,hO,hN,hP⟩
  have HE:=hD0 (show Z6 w3 w.heap.size v3 (sortE l)∧Nw w w3 from by
   have e:=hP.done (Nat.le_of_eq HG2.out.2.2) HG2.out.2.1
   subst e
   exact⟨Z0k hO (fun b q=>by have:=Vg hO q;have:=HG2.out.1.sz;omega),HG2.out.1.trans hN⟩)
  clear hO hN hP
  go_wp2
  go_ret
  exact⟨_,rfl,HE.out.1,HE.out.2⟩
theorem V1{w:World}{v:Value}{l:List (Int × Int)}(h:Zw w v l)(hl:l.length≤1000) :
  Calls prog 12 #[v] w fun e w'=>∃v',e=.returned v'∧Z6 w' w.heap.size v' (sortE l)∧Nw w w':=Z0c h (Nat.le_trans hl (by decide))
end
section
variable {E:List (Int × Int)} {a:Int} {W:List (List Int)} {h i:Nat}
theorem BI.suf(b:BI E a W h i):∀(n:Nat) (r:List Int),r.length=n→r∈([]::W)→∀j,j<r.length→r.drop j∈W
 | 0,r,hn,_,j,hj=>by omega
 | n+1,r,hn,hr,j,hj=>by
  have hrW:r∈W:=by
   rcases List.mem_cons.1 hr with e | e
   ·rw[e] at hn;simp at hn
   ·exact e
  cases j with
  | zero=>exact hrW
  | succ j =>
   obtain⟨y,k,r0,rfl,h2,_⟩:=b.org r hrW
   exact b.suf n r0 (by simpa using hn) (List.mem_of_getElem? h2) j (by simpa using hj)
theorem BI.heads(b:BI E a W h i){r:List Int}(hr:r∈([]::W)):∀x∈r,x∈W.map (Zl a):=by
 intro x hx
 obtain⟨j,hj,e⟩:=List.getElem_of_mem hx
 have:=b.suf r.length r rfl hr j hj
 refine List.mem_map.2 ⟨_,this,?_⟩
 rw[←List.getElem_cons_drop hj]
 exact e
theorem BI.inE(b:BI E a W h i):∀x∈W.map (Zl a),∃e∈E,e.2=x:=by
 intro x hx
 obtain⟨r,hr,rfl⟩:=List.mem_map.1 hx
 cases(b.rp r hr).1 with
 | nil=>exact absurd rfl (b.rp _ hr).2
 | cons p k=>exact⟨_,k,rfl⟩
end
theorem Z6c{α β:Type}{f:α→β}:∀ {W:List α},(W.map f).Nodup→∀ {q q':α},q∈W→q'∈W→f q=f q'→q=q'
 | [],_,_,_,h,_,_=>nomatch h
 | x::W,hn,q,q',h,h',e=>by
  rw[List.map_cons,List.nodup_cons] at hn
  rcases List.mem_cons.1 h with rfl | k
  ·rcases List.mem_cons.1 h' with rfl | k'
   ·rfl
   ·exact absurd (List.mem_map.2 ⟨q',k',e.symm⟩) hn.1
  ·rcases List.mem_cons.1 h' with rfl | k'
   ·exact absurd (List.mem_map.2 ⟨q,k,e⟩) hn.1
   ·exact Z6c hn.2 k k' e
theorem BI.wlen{E:List (Int × Int)}{a:Int}{W:List (List Int)}{h i:Nat}(b:BI E a W h i){r:List Int}(hr:r∈([]::W)):r.length≤E.length:=by
 have hnd:r.Nodup:=by
  rw[List.nodup_iff_pairwise_ne,List.pairwise_iff_getElem]
  intro x y hx hy hxy e
  have h1:=b.suf r.length r rfl hr x hx
  have h2:=b.suf r.length r rfl hr y hy
  have e1:Zl a (r.drop x)=r[x]:=by rw[←List.getElem_cons_drop hx];rfl
  have e2:Zl a (r.drop y)=r[y]:=by rw[←List.getElem_cons_drop hy];rfl
  have h3:=Z6c b.nd h1 h2 (by rw[e1,e2,e])
  have:=congrArg List.length h3
  simp at this
  omega
 have h1:=Yt hnd (b.heads hr)
 have h2:=b.size
 rw[List.length_map] at h1
 omega
def Z34(l:List (Int × Int))(a:Int)(out:List Int):Prop:=out.Pairwise (·<·)∧∀y,y∈out↔Ya l a y
def V5(l:List (Int × Int))(c:List Int)(b:Bool):Prop :=
 (b=true↔∃v,Ya l v v)∧(b=false→c=[])∧(b=true→∃a r,c=a::r∧Ya l a a∧(∀v,Ya l v v→a≤v)∧Vh l a a (r.length+1)∧Greedy l a a (r.length+1) r)
theorem Yl{l m:List (Int × Int)}(h:∀x,x∈l↔x∈m){a b:Int}:Ya l a b↔Ya m a b:=⟨Z2u fun x=>(h x).1,Z2u fun x=>(h x).2⟩
theorem Z32{l m:List (Int × Int)}(h:∀x∈l,x∈m){a b:Int}{n:Nat}(w:Way l a n b):Way m a n b:=by
 induction w with
 | one k=>exact .one (h _ k)
 | step k _ ih=>exact .step (h _ k) ih
theorem Uv{l m:List (Int × Int)}(h:∀x,x∈l↔x∈m){a b:Int}{n:Nat}(f:Vh l a b n):Vh m a b n :=
 ⟨Z32 (fun x=>(h x).1) f.1,fun k w=>f.2 k (Z32 (fun x=>(h x).2) w)⟩
theorem Z29{l m:List (Int × Int)}(h:∀x,x∈l↔x∈m){a b:Int}{n:Nat}{r:List Int}(g:Greedy l b a n r):Greedy m b a n r:=by
 induction g with
 | last k=>exact .last ((h _).1 k)
 | step k f mn _ ih=>exact .step ((h _).1 k) (Uv h f) (fun y hy fy=>mn y ((h _).2 hy) (Uv (fun x=>(h x).symm) fy)) ih
theorem Vy{l m:List (Int × Int)}(h:∀x,x∈l↔x∈m){c:List Int}{b:Bool}(p:V5 l c b):V5 m c b:=by
 obtain⟨p1,p2,p3⟩:=p
 refine⟨p1.trans ⟨fun⟨v,q⟩=>⟨v,(Yl h).1 q⟩,fun⟨v,q⟩=>⟨v,(Yl h).2 q⟩⟩,p2,fun hb=>?_⟩
 obtain⟨a,r,e,q1,q2,q3,q4⟩:=p3 hb
 exact⟨a,r,e,(Yl h).1 q1,fun v q=>q2 v ((Yl h).2 q),Uv h q3,Z29 h q4⟩
theorem Z0o{l:List (Int × Int)}{c c':List Int}{b b':Bool}(p:V5 l c b)(p':V5 l c' b'):c=c'∧b=b':=by
 obtain⟨p1,p2,p3⟩:=p
 obtain⟨q1,q2,q3⟩:=p'
 have hb:b=b':=by
  have:b=true↔b'=true:=p1.trans q1.symm
  cases b<;>cases b'<;>simp_all
 subst hb
 refine⟨?_,rfl⟩
 cases b with
 | false=>rw[p2 rfl,q2 rfl]
 | true =>
  obtain⟨a,r,rfl,h1,h2,h3,h4⟩:=p3 rfl
  obtain⟨a',r',rfl,k1,k2,k3,k4⟩:=q3 rfl
  obtain rfl:=Int.le_antisymm (h2 _ k1) (k2 _ h1)
  rw[Z26 k3 h3] at k4
  rw[Z2a h4 k4]
theorem Z7o{l:List (Int × Int)}{a:Int}{r:List Int}(h1:Ya l a a)(h2:∀v,Ya l v v→a≤v)(h3:Lst l a a r):V5 l (a::r.reverse) true:=by
 refine⟨⟨fun _=>⟨a,h1⟩,fun _=>rfl⟩,(fun h=>nomatch h),fun _=>⟨a,r.reverse,rfl,h1,h2,?_,?_⟩⟩
 ·rw[List.length_reverse];exact Z44 h3
 ·rw[List.length_reverse];exact Z02 r.length rfl h3
theorem Z3z{l:List (Int × Int)}(h:¬∃v,Ya l v v):V5 l [] false:=⟨⟨(fun q=>nomatch q),fun q=>absurd q h⟩,fun _=>rfl,(fun q=>nomatch q)⟩
def Yf(t:Int)(l:List Int):List (Int × Int):=l.map fun y=>(t,y)
theorem Vu(t:Int)(l:List Int):(Yf t l).length=l.length:=by simp[Yf]
def edR(q:List Rq)(r:Rq):List (Int × Int):=if 0<r.sn then Yf r.txn (Yj q r.id) else[]
def Vi(q:List Rq)(k:Nat):List (Int × Int):=(q.take k).flatMap (edR q)
section
variable {W:Int} {q:List Rq} (h:Ok W q)
include h
end
theorem Z1b{w:World}{g n cap:Nat}{l:List Int}(h:IS w (.slice (some ⟨g,0,none⟩) n cap) l){i:Nat}(hi:i<l.length):w.cell? ⟨g,i,none⟩=some (.int .i64 l[i]):=by
 rw[h.cell i hi,List.getD_eq_getElem?_getD,List.getElem?_eq_getElem hi];rfl
structure TwI(W0:World)(t:Int)(l:List Int)(v:Value)(k:Nat)(w:World):Prop where
 own:Z6 w W0.heap.size v (Yf t (l.take k))
 nw:Nw W0 w
theorem Z3s{w0:World}{v:Value}{l:List Int}(h:IS w0 v l)(hl:l.length≤1000)(t:Int) :
  Calls prog 42 #[.int .i64 t,v] w0 fun e w'=>∃v',e=.returned v'∧Z6 w' w0.heap.size v' (Yf t l)∧Nw w0 w':=by
 obtain⟨la,lc,rfl,hla⟩:=h.box
 have HLA:=hD0 hla
 have HL:=hD0 h
 obtain⟨n,hn⟩:∃n,l.length=n:=⟨_,rfl⟩
 have HN:=hD0 hn
 rw[hn] at hl ⊢
 clear h hla hn
 go_enter func42,ntmps42
 go_wp2_with fail
 go_loopw [5,10] (fun v5 v10 wr=>∃(k:Nat) (a:Option Addr) (b c:Nat),v5=.slice a b c∧v10=.int .i64 k∧k≤n∧Hid (TwI w0 t l (.slice a b c) k wr)) (fun _ v10 _=>n-(intOf v10).toNat)
 case atStart=>exact⟨0,none,0,0,rfl,rfl,Nat.zero_le _,hD0 ⟨World.ownsRow_nil _ _ _ _,Nw.refl _⟩⟩
 case round =>
  obtain⟨k,sa,sb,sc,rfl,rfl,hkn,HI⟩:=hrel
  by_cases hlt:k<n
  ·have hkl:k<l.length:=by rw[HN.out];exact hlt
   obtain⟨lg,rfl,_⟩:=HLA.out (by omega)
   have cy:=Z1b (HL.out.nw HI.out.nw) hkl
   obtain⟨y,hy⟩:∃y,l[k]=y:=⟨_,rfl⟩
   rw[hy] at cy
   have Zr:=Zo hlt
   have hw:=Zn k (k+1) (Nat.le_trans (Nat.le_of_lt hlt) (Nat.le_trans hl (by decide))) rfl
   obtain⟨k1,hk1⟩:∃m,k+1=m:=⟨_,rfl⟩
   have HK1:=hD0 (aI0 hk1 hlt)
   have htk:Yf t (l.take k1)=Yf t (l.take k)++[(t,y)]:=by
    rw[←hk1,←hy,List.take_succ_eq_append_getElem hkl]
    simp only[Yf,List.map_append,List.map_cons,List.map_nil]
   rw[hk1] at hw
   have hal6:=Z4 wr (.cells #[.int .i64 t,.int .i64 y] 30)
   have g6:Nw wr (wr.alloc (.cells #[.int .i64 t,.int .i64 y] 30)):=(Nw.refl wr).alloc _
   obtain⟨v',w6,hr6,hO6,hg6,_,ga6,cc6,rfl⟩:=Zt.push Y0 (Yq HI.out.own g6) (t,y) wr.heap.size 1 (fun j u hu=>by
    rw[Z2 hal6]
    simpa [Zb] using hu) (by rw[Vu,List.length_take];omega) (HI.out.nw.trans g6).sz
   have HI6:=hD0 (show TwI w0 t l (.slice (some ⟨ga6,0,none⟩) ((Yf t (l.take k)).length+1) cc6) k1 w6 from⟨by rw[htk];exact hO6,(HI.out.nw.trans g6).gro hg6 (fun b e=>Vg HI.out.own e)⟩)
   have HR6:=hD0 hr6
   clear hal6 g6 hr6 hO6 hg6 HI hk1 hy htk hkl hlt
   go_wp2_with (at_builtin;refine Z7 (by rfl) (.tmp 14) (.tmp 18) 23 rfl _ _ _ _ rfl rfl HR6.out ?_)
   exact⟨⟨k1,some ⟨ga6,0,none⟩,_,cc6,rfl,rfl,by rw[←HK1.out.1];exact HK1.out.2,HI6⟩,by rw[←HK1.out.1];exact Zk HK1.out.2⟩
  ·obtain rfl:k=n:=Nat.le_antisymm hkn (Nat.le_of_not_lt hlt)
   have Zr:¬k<k:=Nat.lt_irrefl k
   have HO:=hD0 (show Z6 wr w0.heap.size (.slice sa sb sc) (Yf t l)∧Nw w0 wr from by
    have:=HI.out.own
    rw[List.take_of_length_le (by rw[HN.out];exact Nat.le_refl k)] at this
    exact⟨this,HI.out.nw⟩)
   clear hlt HI
   go_wp2
   go_ret
   exact⟨_,rfl,HO.out.1,HO.out.2⟩
end Go.Proofs.YtobnolgphljoeaaGreat
