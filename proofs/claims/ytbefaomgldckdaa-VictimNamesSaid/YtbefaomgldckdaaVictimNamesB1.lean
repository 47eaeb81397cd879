/- Texts merged: WaM, WbM, WbS, WbO, WbC, WdP, VaM, Nw, Tch, Rw, Region -/
import Derived.Lib.Hide
import Derived.Test.YtbefaomgldckdaaRows
import Derived.WalkKit
import Derived.Deep.Draws
import Derived.LoopTactic
import Derived.WalkSpells
import Derived.Laws.OwnMore
import Derived.WalkSmall
import Derived.Deep.QuietTactic
import Derived.BigQuiet
set_option linter.unusedVariables false
set_option maxRecDepth 100000
set_option maxHeartbeats 16000000
namespace Go.Proofs.Ytbefaomgldckdaa
theorem dF0{p:Prop}[Decidable p](h:¬p):decide p=false:=decide_eq_false h
theorem dT0{p:Prop}[Decidable p](h:p):decide p=true:=decide_eq_true h
theorem aI0{p q:Prop}(h:p)(k:q):p∧q:=⟨h,k⟩
theorem lL0{a b c:Nat}(h:a<b)(k:b≤c):a<c:=Nat.lt_of_lt_of_le h k
theorem gM0{α:Type _}{l:List α}{n:Nat}(h:n<l.length):l[n]∈l:=List.getElem_mem h
theorem hD0{p:Prop}(h:p):RowKit.Hid p:=h
open Go.RowKit _root_.Go.Proofs.Try
def U9(a b:Int × Int):Prop:=a.1<b.1∨(a.1=b.1∧a.2<b.2)
instance (a b:Int × Int):Decidable (U9 a b):=by unfold U9;infer_instance
theorem Z0r(a:Int × Int):¬U9 a a:=by unfold U9;omega
theorem Z4w{a b c:Int × Int}(h:U9 a b)(k:U9 b c):U9 a c:=by unfold U9 at *;omega
theorem Z0s(a b:Int × Int):U9 a b∨a=b∨U9 b a:=by
 obtain⟨a1,a2⟩:=a
 obtain⟨b1,b2⟩:=b
 unfold U9
 simp only[Prod.mk.injEq]
 omega
abbrev Zh(l:List (Int × Int)):Prop:=l.Pairwise U9
def Yz(x:Int × Int):List (Int × Int)→List (Int × Int)
 | []=>[x]
 | a::t=>if U9 a x then a::Yz x t else if a=x then a::t else x::a::t
theorem Z1z{x y:Int × Int}:∀ {l:List (Int × Int)},y∈Yz x l↔y=x∨y∈l:=by
 intro l
 induction l with
 | nil=>simp[Yz]
 | cons a t ih =>
  unfold Yz
  split
  ·rw[List.mem_cons,ih,List.mem_cons]
   constructor
   ·rintro(h | h | h)
    ·exact .inr (.inl h)
    ·exact .inl h
    ·exact .inr (.inr h)
   ·rintro(h | h | h)
    ·exact .inr (.inl h)
    ·exact .inl h
    ·exact .inr (.inr h)
  ·split
   ·rename_i h
    subst h
    rw[List.mem_cons]
    exact⟨.inr,fun h=>h.elim .inl id⟩
   ·rw[List.mem_cons]
theorem Z5a{x:Int × Int}:∀ {l:List (Int × Int)},Zh l→Zh (Yz x l):=by
 intro l
 induction l with
 | nil=>intro _;simp[Yz]
 | cons a t ih =>
  intro h
  have h':=List.pairwise_cons.1 h
  unfold Yz
  split
  ·rename_i q
   refine List.pairwise_cons.2 ⟨fun y hy=>?_,ih h'.2⟩
   rcases Z1z.1 hy with e | e
   ·rw[e];exact q
   ·exact h'.1 y e
  ·split
   ·exact h
   ·rename_i q1 q2
    have q3:U9 x a:=(Z0s x a).resolve_right (fun k=>k.elim (fun e=>q2 e.symm) q1)
    refine List.pairwise_cons.2 ⟨fun y hy=>?_,h⟩
    rcases List.mem_cons.1 hy with e | e
    ·rw[e];exact q3
    ·exact Z4w q3 (h'.1 y e)
def sortE(l:List (Int × Int)):List (Int × Int):=l.foldl (fun o x=>Yz x o) []
theorem Z26{l o:List (Int × Int)}(h:Zh o):Zh (l.foldl (fun o x=>Yz x o) o)∧∀y,y∈l.foldl (fun o x=>Yz x o) o↔y∈l∨y∈o:=by
 induction l generalizing o with
 | nil=>exact⟨h,fun y=>by simp⟩
 | cons a t ih =>
  obtain⟨h1,h2⟩:=ih (Z5a (x:=a) h)
  refine⟨h1,fun y=>?_⟩
  rw[List.foldl_cons,h2,Z1z,List.mem_cons]
  constructor
  ·rintro(q | q | q)
   ·exact .inl (.inr q)
   ·exact .inl (.inl q)
   ·exact .inr q
  ·rintro((q | q) | q)
   ·exact .inr (.inl q)
   ·exact .inl q
   ·exact .inr (.inr q)
theorem Z0f(l:List (Int × Int)):Zh (sortE l):=(Z26 List.Pairwise.nil).1
theorem Yq{l:List (Int × Int)}{y:Int × Int}:y∈sortE l↔y∈l:=by
 have:=(Z26 (l:=l) List.Pairwise.nil).2 y
 simpa [sortE] using this
theorem Z6t:∀ {a b:List (Int × Int)},Zh a→Zh b→(∀x,x∈a↔x∈b)→a=b:=by
 intro a
 induction a with
 | nil =>
  intro b _ _ h
  cases b with
  | nil=>rfl
  | cons y t=>exact absurd ((h y).2 (by simp)) (by simp)
 | cons x s ih =>
  intro b ha hb h
  cases b with
  | nil=>exact absurd ((h x).1 (by simp)) (by simp)
  | cons y t =>
   have ha':=List.pairwise_cons.1 ha
   have hb':=List.pairwise_cons.1 hb
   have e:x=y:=by
    rcases List.mem_cons.1 ((h x).1 (by simp))with q | q
    ·exact q
    ·rcases List.mem_cons.1 ((h y).2 (by simp))with k | k
     ·exact k.symm
     ·exact absurd (Z4w (hb'.1 x q) (ha'.1 y k)) (Z0r y)
   subst e
   rw[ih ha'.2 hb'.2 fun z=>?_]
   constructor
   ·intro hz
    rcases List.mem_cons.1 ((h z).1 (List.mem_cons_of_mem _ hz))with q | q
    ·subst q;exact absurd (ha'.1 z hz) (Z0r z)
    ·exact q
   ·intro hz
    rcases List.mem_cons.1 ((h z).2 (List.mem_cons_of_mem _ hz))with q | q
    ·subst q;exact absurd (hb'.1 z hz) (Z0r z)
    ·exact q
theorem Z5h{l o:List (Int × Int)}(h:Zh o)(hm:∀x,x∈o↔x∈l):o=sortE l:=Z6t h (Z0f l) fun x=>(hm x).trans Yq.symm
abbrev Yf(l:List (Int × Int))(a b:Int):Prop:=Relation.TransGen (fun x y=>(x,y)∈l) a b
theorem Z80{l:List (Int × Int)}{a:Int}{out:List Int}(cl:∀x y,(x,y)∈l→x=a∨x∈out→y∈out)(so:∀y∈out,Yf l a y)(y:Int):y∈out↔Yf l a y:=by
 refine⟨so y,fun h=>?_⟩
 induction h with
 | single h=>exact cl _ _ h (.inl rfl)
 | tail _ h ih=>exact cl _ _ h (.inr ih)
theorem Z20{l m:List (Int × Int)}(h:∀x∈l,x∈m){a b:Int}(r:Yf l a b):Yf m a b:=by
 induction r with
 | single q=>exact .single (h _ q)
 | tail _ q ih=>exact .tail ih (h _ q)
theorem Y8{l:List (Int × Int)}{a b:Int}(r:Yf l a b):∃y,(a,y)∈l:=by
 induction r with
 | single q=>exact⟨_,q⟩
 | tail _ _ ih=>exact ih
theorem Z5b{l:List (Int × Int)}{a b:Int}(r:Yf l a b):∃x,(x,b)∈l:=by
 cases r with
 | single q=>exact⟨_,q⟩
 | tail _ q=>exact⟨_,q⟩
def Y1(l:List (Int × Int))(t:Int):List (Int × Int):=l.filter fun e=>!decide (e.1=t)&&!decide (e.2=t)
theorem Z3i{l:List (Int × Int)}{t:Int}{e:Int × Int}:e∈Y1 l t↔e∈l∧e.1≠t∧e.2≠t:=by
 unfold Y1
 rw[List.mem_filter]
 simp
inductive Way (l:List (Int × Int)):Int→Nat→Int→Prop
 | one {a b:Int} (h:(a,b)∈l):Way l a 1 b
 | step {a x b:Int} {n:Nat} (h:(a,x)∈l) (r:Way l x n b):Way l a (n+1) b
theorem Yk{l:List (Int × Int)}{a b:Int}{n:Nat}(w:Way l a n b):0<n:=by
 cases w with
 | one _=>exact Nat.one_pos
 | step _ _=>exact Nat.succ_pos _
theorem Z5q{l:List (Int × Int)}{a x b:Int}{n:Nat}(w:Way l a n x)(h:(x,b)∈l):Way l a (n+1) b:=by
 induction w with
 | one q=>exact .step q (.one h)
 | step q _ ih=>exact .step q (ih h)
def Far(l:List (Int × Int))(a b:Int)(n:Nat):Prop:=Way l a n b∧∀m,Way l a m b→n≤m
theorem Z1i{l:List (Int × Int)}{a b:Int}{n m:Nat}(h:Far l a b n)(k:Far l a b m):n=m:=Nat.le_antisymm (h.2 _ k.1) (k.2 _ h.1)
inductive Greedy (l:List (Int × Int)) (b:Int):Int→Nat→List Int→Prop
 | last {a:Int} (h:(a,b)∈l):Greedy l b a 1 []
 | step {a x:Int} {n:Nat} {r:List Int} (h:(a,x)∈l) (f:Far l x b (n+1)) (m:∀y,(a,y)∈l→Far l y b (n+1)→x≤y) (g:Greedy l b x (n+1) r):Greedy l b a (n+2) (x::r)
theorem Z1o{l:List (Int × Int)}{b:Int}:∀ {n:Nat} {a:Int} {r r':List Int},Greedy l b a n r→Greedy l b a n r'→r=r':=by
 intro n
 induction n with
 | zero=>intro a r r' h _;cases h
 | succ n ih =>
  intro a r r' h k
  cases h with
  | last h=>cases k with
   | last _=>rfl
  | step h f m g=>cases k with
   | step h' f' m' g' =>
    obtain rfl:=Int.le_antisymm (m _ h' f') (m' _ h f)
    rw[ih g g']
structure Kn where
 f:Nat
 lp:Bool
structure Gb where
 nx:Int→Option Nat
 pl:Int→Option Int
 path:List Int
 op:List Int
 kn:List Kn
 fd:Bool
 ls:Int
def Zg{α:Type}(f:Int→Option α)(k:Int)(v:α):Int→Option α:=fun x=>if x=k then some v else f x
theorem Zq{α:Type}(f:Int→Option α)(k:Int)(v:α):Zg f k v k=some v:=if_pos rfl
theorem Zo{α:Type}(f:Int→Option α){k x:Int}(v:α)(h:x≠k):Zg f k v x=f x:=if_neg h
def Vf(E:List (Int × Int))(v:Int):Nat:=(E.takeWhile fun e=>decide (e.1<v)).length
theorem Z5o{α:Type}(p:α→Bool):∀(l:List α),(l.takeWhile p).length≤l.length
 | []=>Nat.le_refl _
 | a::l=>by
  rw[List.takeWhile_cons]
  split
  ·simpa using Z5o p l
  ·simp
theorem Z11(E:List (Int × Int))(v:Int):Vf E v≤E.length:=Z5o _ E
theorem Vn:∀ {E:List (Int × Int)} {v:Int} {i:Nat} {e:Int × Int},i<Vf E v→E[i]?=some e→e.1<v
 | [],v,i,e,_,h=>by simp at h
 | a::E,v,i,e,hi,h=>by
  unfold Vf at hi
  rw[List.takeWhile_cons] at hi
  split at hi
  ·rename_i q
   cases i with
   | zero=>simp at h;subst h;simpa using q
   | succ i=>exact Vn (E:=E) (by unfold Vf;simpa using hi) (by simpa using h)
  ·simp at hi
theorem Z2s:∀ {E:List (Int × Int)} (_:Zh E) {v:Int} {i:Nat} {e:Int × Int},Vf E v≤i→E[i]?=some e→v≤e.1
 | [],_,v,i,e,_,h=>by simp at h
 | a::E,hs,v,i,e,hi,h=>by
  have hs':=List.pairwise_cons.1 hs
  unfold Vf at hi
  rw[List.takeWhile_cons] at hi
  split at hi
  ·rename_i q
   cases i with
   | zero=>simp at hi
   | succ i=>exact Z2s (E:=E) hs'.2 (by unfold Vf;simpa using hi) (by simpa using h)
  ·rename_i q
   have q':v≤a.1:=by simpa using q
   cases i with
   | zero=>simp at h;subst h;exact q'
   | succ i =>
    have:e∈E:=List.mem_of_getElem? (by simpa using h)
    have:=hs'.1 e this
    unfold U9 at this
    omega
theorem Z86{E:List (Int × Int)}(hs:Zh E){v:Int}{i:Nat}{e:Int × Int}(h:E[i]?=some e)(he:e.1=v):Vf E v≤i :=
 Nat.le_of_not_lt fun q=>by have:=Vn q h;omega
def ExG(E:List (Int × Int))(s:Gb)(v w:Int):Prop:=∃i m,E[i]?=some (v,w)∧s.nx v=some m∧i<m
structure GI(E:List (Int × Int))(s:Gb)(Y:Int→Int→Prop):Prop where
 inc:s.kn.Pairwise fun a b=>a.f<b.f
 bnd:∀k∈s.kn,k.f<s.op.length
 zer:s.op≠[]→∃k∈s.kn,k.f=0
 nd:s.op.Nodup
 at':∀v (i:Nat),s.pl v=some (i:Int)↔s.op[i]?=some v
 cl:∀v p,s.pl v=some p→p = -1∨0≤p
 nxn:∀v,s.nx v=none↔s.pl v=none
 lo:∀v m,s.nx v=some m→Vf E v≤m∧m≤E.length
 fw:∀(i j:Nat) a b,i<j→s.op[i]?=some a→s.op[j]?=some b→Yf E a b
 bk:∀(i j:Nat) a b,i<j→s.op[i]?=some a→s.op[j]?=some b→(∀k∈s.kn,¬(i<k.f∧k.f≤j))→Yf E b a
 lp:∀k∈s.kn,k.lp=true→∀a,s.op[k.f]?=some a→Yf E a a
 nl:∀k∈s.kn,k.lp=false→k.f+1=s.op.length∨∃k'∈s.kn,k'.f=k.f+1
 vis:∀v w,ExG E s v w→Y v w→s.pl w≠none
 cc:∀v w,ExG E s v w→s.pl v=some (-1)→s.pl w=some (-1)
 oo:∀v w (i j:Nat),ExG E s v w→Y v w→s.op[i]?=some v→s.op[j]?=some w→j≤i→∃k∈s.kn,k.lp=true∧k.f≤j∧∀k'∈s.kn,¬(k.f<k'.f∧k'.f≤i)
 sub:s.path.Sublist s.op
 fst:∀k∈s.kn,∃a,s.op[k.f]?=some a∧a∈s.path
 ful:∀v,s.pl v≠none→v∉s.path→∀w,(v,w)∈E→ExG E s v w
 res:s.fd=true→Yf E s.ls s.ls
 all:∀v,s.pl v=some (-1)→Yf E v v→s.fd=true∧s.ls≤v
abbrev Vz(E:List (Int × Int))(s:Gb):Prop:=GI E s fun _ _=>True
def Uo:Gb:=⟨fun _=>none,fun _=>none,[],[],[],false,0⟩
theorem Z46(E:List (Int × Int)):Vz E Uo:=by
 refine⟨List.Pairwise.nil,?_,?_,List.Pairwise.nil,?_,?_,?_,?_,?_,?_,?_,?_,?_,?_,?_,List.Sublist.refl _,?_,?_,?_,?_⟩<;>simp[Uo,ExG]
theorem Yn{l:List Int}(h:l.Nodup){i j:Nat}{a:Int}(hi:l[i]?=some a)(hj:l[j]?=some a):i=j :=
 (List.getElem?_inj (List.getElem?_eq_some_iff.1 hi).1 h).1 (hi.trans hj.symm)
theorem Z5k{p A B:List Int}{t:Int}(h:(p++[t]).Sublist (A++t::B))(hA:t∉A)(hB:t∉B):p.Sublist A:=by
 obtain⟨l1,l2,e,h1,h2⟩:=List.sublist_append_iff.1 h
 rcases List.eq_nil_or_concat l2 with rfl | ⟨l2',y,rfl⟩
 ·rw[List.append_nil] at e
  subst e
  exact absurd (h1.subset (by simp)) hA
 ·rw[List.concat_eq_append,←List.append_assoc] at e
  obtain⟨e1,e2⟩:=List.append_inj' e rfl
  obtain rfl:t=y:=by simpa using e2
  subst e1
  have h2':l2'=[]:=by
   cases l2' with
   | nil=>rfl
   | cons z r =>
    have h3:(z::(r++[t])).Sublist (t::B):=by simpa using h2
    have:(r++[t]).Sublist B:=by
     cases h3 with
     | cons _ h=>exact(List.sublist_cons_self _ _).trans h
     | cons_cons _ h=>exact h
    exact absurd (this.subset (by simp)) hB
  subst h2'
  simpa using h1
section
variable {E:List (Int × Int)} {s:Gb} {Y:Int→Int→Prop} {p:List Int} {t:Int}
theorem GI.split(g:GI E s Y)(hp:s.path=p++[t]):∃A B,s.op=A++t::B∧t∉A∧t∉B∧p.Sublist A:=by
 have hs:=g.sub
 rw[hp] at hs
 have ht:t∈s.op:=hs.subset (by simp)
 obtain⟨A,B,e⟩:=List.append_of_mem ht
 have hn:=g.nd
 rw[e] at hn hs
 have hn2:=List.nodup_append.1 hn
 have hA:t∉A:=fun q=>hn2.2.2 t q t (by simp) rfl
 have hB:t∉B:=(List.nodup_cons.1 hn2.2.1).1
 exact⟨A,B,e,hA,hB,Z5k hs hA hB⟩
theorem GI.last(g:GI E s Y)(hp:s.path=p++[t]){i j:Nat}{x:Int}(hx:x∈s.path)(hi:s.op[i]?=some t)(hj:s.op[j]?=some x):j≤i:=by
 obtain⟨A,B,e,hA,hB,hs⟩:=g.split hp
 have h1:i=A.length:=Yn g.nd hi (by rw[e];simp)
 rw[hp] at hx
 rcases List.mem_append.1 hx with q | q
 ·obtain⟨k,hk,ek⟩:=List.getElem_of_mem (hs.subset q)
  have:j=k:=Yn g.nd hj (by rw[e,List.getElem?_append_left hk,List.getElem?_eq_getElem hk,ek])
  omega
 ·obtain rfl:x=t:=by simpa using q
  exact Nat.le_of_eq (Yn g.nd hj hi)
theorem GI.tpos(g:GI E s Y)(hp:s.path=p++[t]):∃i:Nat,s.op[i]?=some t∧s.pl t=some (i:Int)∧∀k∈s.kn,k.f≤i:=by
 obtain⟨A,B,e,hA,hB,hs⟩:=g.split hp
 have h1:s.op[A.length]?=some t:=by rw[e];simp
 refine⟨A.length,h1,(g.at' t _).2 h1,fun k hk=>?_⟩
 obtain⟨a,ha,hm⟩:=g.fst k hk
 exact g.last hp hm h1 ha
theorem GI.toEnd(g:GI E s Y)(hp:s.path=p++[t]){i:Nat}{a:Int}(hi:s.op[i]?=some a):a=t∨Yf E a t:=by
 obtain⟨it,h1,_,h3⟩:=g.tpos hp
 rcases Nat.lt_trichotomy i it with q | q | q
 ·exact .inr (g.fw i it a t q hi h1)
 ·subst q
  exact .inl (Option.some.inj (hi.symm.trans h1))
 ·exact .inr (g.bk it i t a q h1 hi fun k hk h=>by have:=h3 k hk;omega)
def Zz(s:Gb)(t:Int)(i:Nat):Gb:={ s with nx:=Zg s.nx t (i+1) }
theorem Z2l{i:Nat}{u:Int}(hn:s.nx t=some i)(he:E[i]?=some (t,u))(hs:Zh E){v w:Int}(h:ExG E (Zz s t i) v w):ExG E s v w∨(v=t∧w=u):=by
 obtain⟨j,m,h1,h2,h3⟩:=h
 by_cases q:v=t
 ·subst q
  have:m=i+1:=by simpa [Zz,Zg] using h2.symm
  subst this
  by_cases r:j=i
  ·subst r
   rw[he] at h1
   injection h1 with h1
   injection h1 with _ h1
   exact .inr ⟨rfl,h1.symm⟩
  ·exact .inl ⟨j,i,h1,hn,by omega⟩
 ·exact .inl ⟨j,m,h1,by simpa [Zz,Zg,q] using h2,h3⟩
theorem Z7t{i:Nat}(hn:s.nx t=some i){v w:Int}(h:ExG E s v w):ExG E (Zz s t i) v w:=by
 obtain⟨j,m,h1,h2,h3⟩:=h
 by_cases q:v=t
 ·subst q
  have:m=i:=Option.some.inj (h2.symm.trans hn)
  subst this
  exact⟨j,m+1,h1,by simp[Zz,Zg],by omega⟩
 ·exact⟨j,m,h1,by simpa [Zz,Zg,q] using h2,h3⟩
theorem GI.inc1(g:Vz E s)(hs:Zh E){i:Nat}{u:Int}(hn:s.nx t=some i)(he:E[i]?=some (t,u))(ht:s.pl t≠some (-1)):GI E (Zz s t i) fun v w=>¬(v=t∧w=u):=by
 have hl:=(List.getElem?_eq_some_iff.1 he).1
 refine⟨g.inc,g.bnd,g.zer,g.nd,g.at',g.cl,fun v=>?_,fun v m hv=>?_,g.fw,g.bk,g.lp,g.nl,fun v w h y=>?_,fun v w h y=>?_,fun v w a b h y=>?_,g.sub,g.fst,fun v h1 h2 w h3=>Z7t hn (g.ful v h1 h2 w h3),g.res,g.all⟩
 ·show Zg s.nx t (i+1) v=none↔s.pl v=none
  rw[←g.nxn v]
  by_cases q:v=t
  ·subst q;simp[Zg,hn]
  ·simp[Zg,q]
 ·by_cases q:v=t
  ·subst q
   have:m=i+1:=by simpa [Zz,Zg] using hv.symm
   subst this
   exact⟨Nat.le_succ_of_le (g.lo v i hn).1,hl⟩
  ·exact g.lo v m (by simpa [Zz,Zg,q] using hv)
 ·exact g.vis v w ((Z2l hn he hs h).resolve_right y) trivial
 ·exact g.cc v w ((Z2l hn he hs h).resolve_right fun k=>ht (k.1▸y)) y
 ·exact g.oo v w a b ((Z2l hn he hs h).resolve_right y) trivial
def Zu(E:List (Int × Int))(s:Gb)(u:Int):Gb:={ s with nx:=Zg s.nx u (Vf E u),pl:=Zg s.pl u (s.op.length:Int),path:=s.path++[u],op:=s.op++[u],kn:=s.kn++[⟨s.op.length,false⟩] }
theorem V1{l:List Int}{u a:Int}{i:Nat}(h:(l++[u])[i]?=some a):l[i]?=some a∨(i=l.length∧a=u):=by
 by_cases q:i<l.length
 ·rw[List.getElem?_append_left q] at h
  exact .inl h
 ·have hl:=(List.getElem?_eq_some_iff.1 h).1
  simp only[List.length_append,List.length_singleton] at hl
  have e:i=l.length:=by omega
  subst e
  simp at h
  exact .inr ⟨rfl,h.symm⟩
theorem Z74{l:List Int}{u a:Int}{i:Nat}(h:l[i]?=some a):(l++[u])[i]?=some a:=by
 rw[List.getElem?_append_left (List.getElem?_eq_some_iff.1 h).1]
 exact h
theorem Z0y{u:Int}(hs:Zh E)(hu:s.nx u=none){v w:Int}:ExG E (Zu E s u) v w↔ExG E s v w:=by
 constructor
 ·rintro⟨j,m,h1,h2,h3⟩
  by_cases q:v=u
  ·subst q
   have:m=Vf E v:=by simpa [Zu,Zg] using h2.symm
   subst this
   have:=Vn h3 h1
   simp at this
  ·exact⟨j,m,h1,by simpa [Zu,Zg,q] using h2,h3⟩
 ·rintro⟨j,m,h1,h2,h3⟩
  have q:v≠u:=fun e=>by subst e;rw[hu] at h2;cases h2
  exact⟨j,m,h1,by simpa [Zu,Zg,q] using h2,h3⟩
theorem GI.new(g:GI E s Y)(hs:Zh E){u:Int}(hu:s.pl u=none)(hy:∀v w,¬Y v w→w=u∧∃p,s.path=p++[v])(hr:∀(i:Nat) a,s.op[i]?=some a→Yf E a u):Vz E (Zu E s u):=by
 have hun:s.nx u=none:=(g.nxn u).2 hu
 have huo:u∉s.op:=fun q=>by
  obtain⟨i,hi,e⟩:=List.getElem_of_mem q
  have:=(g.at' u i).2 (by rw[List.getElem?_eq_getElem hi,e])
  rw[hu] at this;cases this
 have hlt:∀k∈s.kn,k.f<s.op.length:=g.bnd
 have hmem:∀k,k∈s.kn++[(⟨s.op.length,false⟩:Kn)]↔k∈s.kn∨k=⟨s.op.length,false⟩:=fun k=>by simp
 have hpl:∀v,v≠u→(Zu E s u).pl v=s.pl v:=fun v q=>Zo _ _ q
 refine⟨?_,?_,?_,?_,?_,?_,?_,?_,?_,?_,?_,?_,?_,?_,?_,?_,?_,?_,g.res,?_⟩
 ·refine List.pairwise_append.2 ⟨g.inc,by simp,fun a ha b hb=>?_⟩
  rw[List.mem_singleton.1 hb]
  exact hlt a ha
 ·intro k hk
  show k.f<(s.op++[u]).length
  rw[List.length_append,List.length_singleton]
  rcases(hmem k).1 hk with q | rfl
  ·have:=hlt k q;omega
  ·exact Nat.lt_succ_self _
 ·intro _
  by_cases q:s.op=[]
  ·exact⟨⟨s.op.length,false⟩,(hmem _).2 (.inr rfl),by rw[q];rfl⟩
  ·obtain⟨k,hk,e⟩:=g.zer q
   exact⟨k,(hmem _).2 (.inl hk),e⟩
 ·exact List.nodup_append.2 ⟨g.nd,by simp,fun a ha b hb e=>by rw[List.mem_singleton.1 hb] at e;subst e;exact huo ha⟩
 ·intro v i
  show Zg s.pl u _ v=_↔(s.op++[u])[i]?=some v
  by_cases q:v=u
  ·subst q
   rw[Zq]
   constructor
   ·intro h
    have:i=s.op.length:=by injection h with h;omega
    subst this
    simp
   ·intro h
    rcases V1 h with q | ⟨rfl,_⟩
    ·exact absurd (List.mem_of_getElem? q) huo
    ·rfl
  ·rw[Zo _ _ q,g.at' v i]
   exact⟨Z74,fun h=>(V1 h).resolve_right fun k=>q k.2⟩
 ·intro v p h
  by_cases q:v=u
  ·subst q
   have:p=(s.op.length:Int):=by simpa [Zu,Zg] using h.symm
   omega
  ·exact g.cl v p ((hpl v q).symm.trans h)
 ·intro v
  by_cases q:v=u
  ·subst q;simp[Zu,Zg]
  ·simpa [Zu,Zg,q] using g.nxn v
 ·intro v m h
  by_cases q:v=u
  ·subst q
   have:m=Vf E v:=by simpa [Zu,Zg] using h.symm
   subst this
   exact⟨Nat.le_refl _,Z11 _ _⟩
  ·exact g.lo v m (by simpa [Zu,Zg,q] using h)
 ·intro i j a b hij ha hb
  rcases V1 ha with ha' | ⟨rfl,rfl⟩
  ·rcases V1 hb with hb' | ⟨rfl,rfl⟩
   ·exact g.fw i j a b hij ha' hb'
   ·exact hr i a ha'
  ·have:=(List.getElem?_eq_some_iff.1 hb).1
   simp[Zu] at this
   omega
 ·intro i j a b hij ha hb hk
  rcases V1 ha with ha' | ⟨rfl,rfl⟩
  ·rcases V1 hb with hb' | ⟨rfl,rfl⟩
   ·exact g.bk i j a b hij ha' hb' fun k h=>hk k ((hmem k).2 (.inl h))
   ·exact absurd ⟨hij,Nat.le_refl _⟩ (hk ⟨s.op.length,false⟩ ((hmem _).2 (.inr rfl)))
  ·have:=(List.getElem?_eq_some_iff.1 hb).1
   simp[Zu] at this
   omega
 ·intro k hk hl a ha
  rcases(hmem k).1 hk with q | rfl
  ·rcases V1 ha with ha' | ⟨e,_⟩
   ·exact g.lp k q hl a ha'
   ·have:=hlt k q;omega
  ·cases hl
 ·intro k hk hl
  rcases(hmem k).1 hk with q | rfl
  ·rcases g.nl k q hl with h | ⟨k',h1,h2⟩
   ·exact .inr ⟨⟨s.op.length,false⟩,(hmem _).2 (.inr rfl),h.symm⟩
   ·exact .inr ⟨k',(hmem _).2 (.inl h1),h2⟩
  ·exact .inl (by simp[Zu])
 ·intro v w h _
  by_cases q:w=u
  ·subst q;simp[Zu,Zg]
  ·rw[hpl w q]
   have h':=(Z0y hs hun).1 h
   by_cases y:Y v w
   ·exact g.vis v w h' y
   ·exact absurd (hy v w y).1 q
 ·intro v w h hv
  have h':=(Z0y hs hun).1 h
  by_cases q:v=u
  ·subst q
   have:((s.op.length:Nat):Int) = -1:=Option.some.inj ((Zq s.pl v _).symm.trans hv)
   omega
  ·have hw:=g.cc v w h' ((hpl v q).symm.trans hv)
   have q2:w≠u:=fun e=>by rw[e,hu] at hw;cases hw
   rw[hpl w q2];exact hw
 ·intro v w i j h _ hi hj hji
  have h':=(Z0y hs hun).1 h
  have hv:v≠u:=fun e=>by
   obtain⟨_,m,_,h2,_⟩:=h'
   rw[e,hun] at h2;cases h2
  have hi':=(V1 hi).resolve_right fun k=>hv k.2
  have hil:=(List.getElem?_eq_some_iff.1 hi').1
  have hj':s.op[j]?=some w:=(V1 hj).resolve_right fun k=>by omega
  by_cases y:Y v w
  ·obtain⟨k,k1,k2,k3,k4⟩:=g.oo v w i j h' y hi' hj' hji
   refine⟨k,(hmem _).2 (.inl k1),k2,k3,fun k' h'=>?_⟩
   rcases(hmem k').1 h' with q | rfl
   ·exact k4 k' q
   ·show ¬(_∧s.op.length≤i)
    omega
  ·have hw:=(hy v w y).1
   subst hw
   exact absurd (List.mem_of_getElem? hj') huo
 ·exact List.Sublist.append g.sub (List.Sublist.refl _)
 ·intro k hk
  rcases(hmem k).1 hk with q | rfl
  ·obtain⟨a,h1,h2⟩:=g.fst k q
   exact⟨a,Z74 h1,List.mem_append_left _ h2⟩
  ·exact⟨u,by simp[Zu],by simp[Zu]⟩
 ·intro v h1 h2 w h3
  have q:v≠u:=fun e=>h2 (by rw[e];simp[Zu])
  exact(Z0y hs hun).2 (g.ful v (by rwa [←hpl v q]) (fun k=>h2 (List.mem_append_left _ k)) w h3)
 ·intro v h1 h2
  have q:v≠u:=fun e=>by
   rw[e] at h1
   have:((s.op.length:Nat):Int) = -1:=Option.some.inj ((Zq s.pl u _).symm.trans h1)
   omega
  exact g.all v ((hpl v q).symm.trans h1) h2
theorem GI.shut(g:GI E s Y){u:Int}(hu:s.pl u=some (-1))(hy:∀v w,¬Y v w→w=u):Vz E s:=by
 have hno:∀(j:Nat),s.op[j]?≠some u:=fun j h=>by
  have:=(g.at' u j).2 h
  rw[hu] at this
  injection this with this
  omega
 refine⟨g.inc,g.bnd,g.zer,g.nd,g.at',g.cl,g.nxn,g.lo,g.fw,g.bk,g.lp,g.nl,fun v w h _=>?_,g.cc,fun v w i j h _ hi hj hji=>?_,g.sub,g.fst,g.ful,g.res,g.all⟩
 ·by_cases y:Y v w
  ·exact g.vis v w h y
  ·rw[hy v w y,hu];simp
 ·by_cases y:Y v w
  ·exact g.oo v w i j h y hi hj hji
  ·exact absurd (hy v w y▸hj) (hno j)
def Vx(s:Gb)(K:List Kn)(k0:Kn):Gb:={ s with kn:=K++[⟨k0.f,true⟩] }
theorem GI.cut(g:GI E s Y){p:Nat}(hp:p<s.op.length):∃K k0 K',s.kn=K++k0::K'∧k0.f≤p∧∀k∈K',p<k.f:=by
 have:∀(l:List Kn),(l.Pairwise fun a b=>a.f<b.f)→(∃k∈l,k.f≤p)→∃K k0 K',l=K++k0::K'∧k0.f≤p∧∀k∈K',p<k.f:=by
  intro l
  induction l with
  | nil=>rintro _ ⟨k,hk,_⟩;cases hk
  | cons a t ih =>
   intro hi hx
   have hi':=List.pairwise_cons.1 hi
   by_cases q:∃k∈t,k.f≤p
   ·obtain⟨K,k0,K',rfl,h2,h3⟩:=ih hi'.2 q
    exact⟨a::K,k0,K',rfl,h2,h3⟩
   ·have q':∀k∈t,p<k.f:=fun k hk=>Nat.lt_of_not_le fun h=>q ⟨k,hk,h⟩
    obtain⟨k,hk,h⟩:=hx
    rcases List.mem_cons.1 hk with e | e
    ·subst e
     exact⟨[],k,t,rfl,h,q'⟩
    ·have:=q' k e;omega
 obtain⟨k,hk,e⟩:=g.zer (fun h=>by rw[h] at hp;cases hp)
 exact this s.kn g.inc ⟨k,hk,by omega⟩
theorem GI.tie(g:GI E s Y){q:List Int}(hpa:s.path=q++[t]){u:Int}{p:Nat}(hu:s.op[p]?=some u)(he:(t,u)∈E)(hy:∀v w,¬Y v w→v=t∧w=u){K K':List Kn}{k0:Kn}(hk:s.kn=K++k0::K')(h0:k0.f≤p)(h1:∀k∈K',p<k.f):Vz E (Vx s K k0):=by
 obtain⟨it,ht1,ht2,ht3⟩:=g.tpos hpa
 have hinc:=g.inc
 rw[hk,List.pairwise_append] at hinc
 obtain⟨i1,i2,i3⟩:=hinc
 have i2':=List.pairwise_cons.1 i2
 have hK0:∀k∈K,k.f<k0.f:=fun k h=>i3 k h k0 (by simp)
 have hm:∀k,k∈s.kn↔k∈K∨k=k0∨k∈K':=fun k=>by rw[hk];simp
 have hm':∀k,k∈(Vx s K k0).kn↔k∈K∨k=⟨k0.f,true⟩:=fun k=>by simp[Vx]
 have hk0:k0∈s.kn:=(hm k0).2 (.inr (.inl rfl))
 have hmax:∀k∈(Vx s K k0).kn,k.f≤k0.f:=fun k h=>by
  rcases(hm' k).1 h with h | rfl
  ·exact Nat.le_of_lt (hK0 k h)
  ·exact Nat.le_refl _
 have htoU:∀(j:Nat) b,s.op[j]?=some b→Yf E b u:=fun j b hb=>by
  rcases g.toEnd hpa hb with e | e
  ·rw[e];exact .single he
  ·exact .tail e he
 have hpl:=(List.getElem?_eq_some_iff.1 hu).1
 have hback:∀(i j:Nat) a b,i<j→s.op[i]?=some a→s.op[j]?=some b→(∀k∈(Vx s K k0).kn,¬(i<k.f∧k.f≤j))→Yf E b a:=by
  intro i j a b hij ha hb hno
  by_cases c:∃k∈s.kn,i<k.f∧k.f≤j
  ·obtain⟨k,hks,c1,c2⟩:=c
   rcases(hm k).1 hks with h | rfl | h
   ·exact absurd ⟨c1,c2⟩ (hno k ((hm' k).2 (.inl h)))
   ·exact absurd ⟨c1,c2⟩ (hno ⟨k.f,true⟩ ((hm' _).2 (.inr rfl)))
   ·have hpk:=h1 k h
    have r:=htoU j b hb
    rcases Nat.lt_trichotomy i p with x | x | x
    ·refine Relation.TransGen.trans r (g.bk i p a u x ha hu fun k' hk'=>?_)
     rintro⟨d1,d2⟩
     rcases(hm k').1 hk' with h | rfl | h
     ·exact hno k' ((hm' k').2 (.inl h)) ⟨d1,by omega⟩
     ·exact hno ⟨k'.f,true⟩ ((hm' _).2 (.inr rfl)) ⟨d1,show k'.f≤j by omega⟩
     ·have:=h1 k' h;omega
    ·subst x
     obtain rfl:a=u:=Option.some.inj (ha.symm.trans hu)
     exact r
    ·exact Relation.TransGen.trans r (g.fw p i u a x hu ha)
  ·exact g.bk i j a b hij ha hb fun k hk h=>c ⟨k,hk,h⟩
 refine⟨?_,?_,?_,g.nd,g.at',g.cl,g.nxn,g.lo,g.fw,hback,?_,?_,?_,g.cc,?_,g.sub,?_,g.ful,g.res,g.all⟩
 ·refine List.pairwise_append.2 ⟨i1,by simp,fun a ha b hb=>?_⟩
  rw[List.mem_singleton.1 hb]
  exact hK0 a ha
 ·intro k h
  rcases(hm' k).1 h with h | rfl
  ·exact g.bnd k ((hm k).2 (.inl h))
  ·exact g.bnd k0 hk0
 ·intro h
  obtain⟨k,h1',h2'⟩:=g.zer h
  rcases(hm k).1 h1' with h | rfl | h
  ·exact⟨k,(hm' k).2 (.inl h),h2'⟩
  ·exact⟨⟨k.f,true⟩,(hm' _).2 (.inr rfl),h2'⟩
  ·have:=h1 k h;omega
 ·intro k h hl a ha
  rcases(hm' k).1 h with h | rfl
  ·exact g.lp k ((hm k).2 (.inl h)) hl a ha
  ·have ha':s.op[k0.f]?=some a:=ha
   have r:=htoU k0.f a ha'
   rcases Nat.lt_or_eq_of_le h0 with x | x
   ·refine Relation.TransGen.trans r (g.bk k0.f p a u x ha' hu fun k' hk'=>?_)
    rintro⟨d1,d2⟩
    rcases(hm k').1 hk' with h | rfl | h
    ·have:=hK0 k' h;omega
    ·omega
    ·have:=h1 k' h;omega
   ·rw[x] at ha'
    obtain rfl:a=u:=Option.some.inj (ha'.symm.trans hu)
    exact r
 ·intro k h hl
  rcases(hm' k).1 h with h | rfl
  ·have b0:=g.bnd k0 hk0
   have hlt:=hK0 k h
   rcases g.nl k ((hm k).2 (.inl h)) hl with x | ⟨k',x1,x2⟩
   ·omega
   ·rcases(hm k').1 x1 with y | rfl | y
    ·exact .inr ⟨k',(hm' _).2 (.inl y),x2⟩
    ·exact .inr ⟨⟨k'.f,true⟩,(hm' _).2 (.inr rfl),x2⟩
    ·have:=h1 k' y;omega
  ·cases hl
 ·intro v w h _
  by_cases y:Y v w
  ·exact g.vis v w h y
  ·rw[(hy v w y).2]
   show s.pl u≠none
   rw[(g.at' u p).2 hu];simp
 ·intro v w i j h _ hi hj hji
  by_cases y:Y v w
  ·obtain⟨k,k1,k2,k3,k4⟩:=g.oo v w i j h y hi hj hji
   rcases(hm k).1 k1 with x | rfl | x
   ·refine⟨k,(hm' _).2 (.inl x),k2,k3,fun k' hk'=>?_⟩
    rcases(hm' k').1 hk' with z | rfl
    ·exact k4 k' ((hm k').2 (.inl z))
    ·exact k4 k0 hk0
   ·exact⟨⟨k.f,true⟩,(hm' _).2 (.inr rfl),rfl,k3,fun k' hk'=>by have:=hmax k' hk';show ¬(k.f<k'.f∧_);omega⟩
   ·have hx:=h1 k x
    exact⟨⟨k0.f,true⟩,(hm' _).2 (.inr rfl),rfl,show k0.f≤j by omega,fun k' hk'=>by have:=hmax k' hk';show ¬(k0.f<k'.f∧_);omega⟩
  ·obtain⟨rfl,rfl⟩:=hy v w y
   have e1:j=p:=Yn g.nd hj hu
   subst e1
   exact⟨⟨k0.f,true⟩,(hm' _).2 (.inr rfl),rfl,h0,fun k' hk'=>by have:=hmax k' hk';show ¬(k0.f<k'.f∧_);omega⟩
 ·intro k h
  rcases(hm' k).1 h with h | rfl
  ·exact g.fst k ((hm k).2 (.inl h))
  ·exact g.fst k0 hk0
def Zs(s:Gb)(p:List Int):Gb:={ s with path:=p }
theorem GI.back(g:Vz E s)(hp:s.path=p++[t])(hf:∀w,(t,w)∈E→ExG E s t w){it:Nat}(ht:s.op[it]?=some t)(hn:∀k∈s.kn,k.f≠it):Vz E (Zs s p):=by
 refine⟨g.inc,g.bnd,g.zer,g.nd,g.at',g.cl,g.nxn,g.lo,g.fw,g.bk,g.lp,g.nl,g.vis,g.cc,g.oo,?_,fun k hk=>?_,fun v h1 h2 w h3=>?_,g.res,g.all⟩
 ·have:=g.sub
  rw[hp] at this
  exact(List.sublist_append_left p [t]).trans this
 ·obtain⟨a,h1,h2⟩:=g.fst k hk
  rw[hp] at h2
  rcases List.mem_append.1 h2 with q | q
  ·exact⟨a,h1,q⟩
  ·rw[List.mem_singleton.1 q] at h1
   exact absurd (Yn g.nd h1 ht) (hn k hk)
 ·by_cases q:v=t
  ·subst q;exact hf w h3
  ·exact g.ful v h1 (fun k=>by
    rw[hp] at k
    rcases List.mem_append.1 k with x | x
    ·exact h2 x
    ·exact q (List.mem_singleton.1 x)) w h3
def Zd(s:Gb)(b:Bool)(m:Int):Gb:=if b=true∧(s.fd=false∨m<s.ls)then { s with fd:=true,ls:=m } else s
theorem Vk(s:Gb)(b:Bool)(m:Int):(Zd s b m).nx=s.nx∧(Zd s b m).pl=s.pl∧(Zd s b m).path=s.path∧(Zd s b m).op=s.op∧(Zd s b m).kn=s.kn:=by
 unfold Zd
 split<;>exact⟨rfl,rfl,rfl,rfl,rfl⟩
def Zk(s:Gb)(p:List Int)(K:List Kn)(k0:Kn)(m:Int):Gb :=
 { nx:=s.nx,pl:=fun x=>if x∈s.op.drop k0.f then some (-1)else s.pl x,path:=p,op:=s.op.take k0.f,kn:=K,fd:=(Zd s k0.lp m).fd,ls:=(Zd s k0.lp m).ls }
theorem Z54{b:Bool}{m:Int}(h:s.fd=true→Yf E s.ls s.ls)(hm:b=true→Yf E m m):(Zd s b m).fd=true→Yf E (Zd s b m).ls (Zd s b m).ls:=by
 unfold Zd
 split
 ·rename_i c
  exact fun _=>hm c.1
 ·exact h
theorem Z6j{b:Bool}{m v:Int}(h:s.fd=true∧s.ls≤v):(Zd s b m).fd=true∧(Zd s b m).ls≤v:=by
 unfold Zd
 split
 ·rename_i c
  refine⟨rfl,?_⟩
  rcases c.2 with x | x
  ·rw[h.1] at x;cases x
  ·have:=h.2
   show m≤v
   omega
 ·exact h
theorem Z7y{b:Bool}{m v:Int}(hb:b=true)(hm:m≤v):(Zd s b m).fd=true∧(Zd s b m).ls≤v:=by
 unfold Zd
 split
 ·exact⟨rfl,hm⟩
 ·rename_i c
  have c1:¬(s.fd=false∨m<s.ls):=fun x=>c ⟨hb,x⟩
  refine⟨?_,?_⟩
  ·cases h:s.fd with
   | true=>rfl
   | false=>exact absurd (.inl h) c1
  ·have:¬m<s.ls:=fun x=>c1 (.inr x)
   omega
theorem GI.close(g:Vz E s)(hp:s.path=p++[t])(hf:∀w,(t,w)∈E→ExG E s t w){K:List Kn}{k0:Kn}(hk:s.kn=K++[k0])(ht:s.op[k0.f]?=some t){m:Int}(hm:m∈s.op.drop k0.f)(hmm:∀x∈s.op.drop k0.f,m≤x):Vz E (Zk s p K k0 m):=by
 obtain⟨A,B,e,hA,hB,hs⟩:=g.split hp
 have hAl:A.length=k0.f:=Yn g.nd (by rw[e];simp) ht
 have hTake:s.op.take k0.f=A:=by rw[e,←hAl];simp
 have hDrop:s.op.drop k0.f=t::B:=by rw[e,←hAl];simp
 have hinc:=g.inc
 rw[hk,List.pairwise_append] at hinc
 obtain⟨i1,_,i3⟩:=hinc
 have hK0:∀k∈K,k.f<k0.f:=fun k h=>i3 k h k0 (by simp)
 have hmk:∀k,k∈s.kn↔k∈K∨k=k0:=fun k=>by rw[hk];simp
 have hk0:k0∈s.kn:=(hmk k0).2 (.inr rfl)
 have hdp:∀x,x∈s.op.drop k0.f↔∃j,k0.f≤j∧s.op[j]?=some x:=fun x=>by
  rw[List.mem_iff_getElem?]
  constructor
  ·rintro⟨j,hj⟩
   rw[List.getElem?_drop] at hj
   exact⟨k0.f+j,Nat.le_add_right _ _,hj⟩
  ·rintro⟨j,h1,h2⟩
   refine⟨j-k0.f,?_⟩
   rw[List.getElem?_drop,show k0.f+(j-k0.f)=j by omega]
   exact h2
 have htk:∀(j:Nat) x,(s.op.take k0.f)[j]?=some x↔j<k0.f∧s.op[j]?=some x:=fun j x=>by
  rw[List.getElem?_take]
  split
  ·rename_i c;exact⟨fun h=>⟨c,h⟩,fun h=>h.2⟩
  ·rename_i c;exact⟨fun h=>(by cases h),fun h=>absurd h.1 c⟩
 have hpl:∀x,(Zk s p K k0 m).pl x=if x∈s.op.drop k0.f then some (-1)else s.pl x:=fun _=>rfl
 have hpin:∀x,x∈s.op.drop k0.f→(Zk s p K k0 m).pl x=some (-1):=fun x h=>if_pos h
 have hpout:∀x,x∉s.op.drop k0.f→(Zk s p K k0 m).pl x=s.pl x:=fun x h=>if_neg h
 have hvisi:∀x,(Zk s p K k0 m).pl x=none↔s.pl x=none:=fun x=>by
  by_cases c:x∈s.op.drop k0.f
  ·rw[hpin x c]
   obtain⟨j,_,h2⟩:=(hdp x).1 c
   rw[(g.at' x j).2 h2];simp
  ·rw[hpout x c]
 have hex:∀v w,ExG E (Zk s p K k0 m) v w↔ExG E s v w:=fun _ _=>Iff.rfl
 have hcl:∀v w,v∈s.op.drop k0.f→(v,w)∈E→(w∈s.op.drop k0.f∨s.pl w=some (-1)):=by
  intro v w hv hw
  obtain⟨j,h1,h2⟩:=(hdp v).1 hv
  have hx:ExG E s v w:=by
   by_cases q:v=t
   ·subst q;exact hf w hw
   ·refine g.ful v (by rw[(g.at' v j).2 h2];simp) (fun k=>?_) w hw
    have h3:=g.last hp k ht h2
    have:j=k0.f:=by omega
    subst this
    exact q (Option.some.inj (h2.symm.trans ht))
  have hvw:=g.vis v w hx trivial
  cases hq:s.pl w with
  | none=>exact absurd hq hvw
  | some pw =>
   rcases g.cl w pw hq with x | x
   ·exact .inr (by rw[x])
   ·obtain⟨jw,rfl⟩:=Int.eq_ofNat_of_zero_le x
    have h4:=(g.at' w jw).1 hq
    refine .inl ((hdp w).2 ⟨jw,?_,h4⟩)
    rcases Nat.lt_or_ge j jw with y | y
    ·omega
    ·obtain⟨k,k1,_,k3,k4⟩:=g.oo v w j jw hx trivial h2 h4 y
     have:=k4 k0 hk0
     rcases(hmk k).1 k1 with z | rfl
     ·have:=hK0 k z;omega
     ·exact k3
 have hcc:∀v w,(Zk s p K k0 m).pl v=some (-1)→(v,w)∈E→(Zk s p K k0 m).pl w=some (-1):=by
  intro v w hv hw
  by_cases c:v∈s.op.drop k0.f
  ·rcases hcl v w c hw with x | x
   ·exact hpin w x
   ·by_cases c2:w∈s.op.drop k0.f
    ·exact hpin w c2
    ·rw[hpout w c2];exact x
  ·have hv':=(hpout v c).symm.trans hv
   have hnp:v∉s.path:=fun k=>by
    obtain⟨j,hj,ej⟩:=List.getElem_of_mem (g.sub.subset k)
    have:=(g.at' v j).2 (by rw[List.getElem?_eq_getElem hj,ej])
    rw[hv'] at this
    injection this with this
    omega
   have h5:=g.cc v w (g.ful v (by rw[hv'];simp) hnp w hw) hv'
   by_cases c2:w∈s.op.drop k0.f
   ·exact hpin w c2
   ·rw[hpout w c2];exact h5
 have hccR:∀v w,(Zk s p K k0 m).pl v=some (-1)→Yf E v w→(Zk s p K k0 m).pl w=some (-1):=by
  intro v w hv r
  induction r with
  | single h=>exact hcc _ _ hv h
  | tail _ h ih=>exact hcc _ _ ih h
 have hoR:∀v w,s.pl v=some (-1)→Yf E v w→s.pl w=some (-1):=by
  intro v w hv r
  have step:∀a b,s.pl a=some (-1)→(a,b)∈E→s.pl b=some (-1):=by
   intro a b ha hb
   have hnp:a∉s.path:=fun k=>by
    obtain⟨j,hj,ej⟩:=List.getElem_of_mem (g.sub.subset k)
    have:=(g.at' a j).2 (by rw[List.getElem?_eq_getElem hj,ej])
    rw[ha] at this
    injection this with this
    omega
   exact g.cc a b (g.ful a (by rw[ha];simp) hnp b hb) ha
  induction r with
  | single h=>exact step _ _ hv h
  | tail _ h ih=>exact step _ _ ih h
 have hself:k0.lp=true→∀x,x∈s.op.drop k0.f→Yf E x x:=by
  intro hl x hx
  obtain⟨j,h1,h2⟩:=(hdp x).1 hx
  have r:=g.lp k0 hk0 hl t ht
  rcases Nat.lt_or_eq_of_le h1 with y | y
  ·refine Relation.TransGen.trans (g.bk k0.f j t x y ht h2 fun k hk'=>?_) (g.fw k0.f j t x y ht h2)
   rintro⟨d1,d2⟩
   rcases(hmk k).1 hk' with z | rfl
   ·have:=hK0 k z;omega
   ·omega
  ·subst y
   obtain rfl:t=x:=Option.some.inj (ht.symm.trans h2)
   exact r
 refine⟨i1,?_,?_,?_,?_,?_,?_,g.lo,?_,?_,?_,?_,?_,?_,?_,?_,?_,?_,?_,?_⟩
 ·intro k h
  show k.f<(s.op.take k0.f).length
  rw[hTake,hAl];exact hK0 k h
 ·intro h
  have h':s.op≠[]:=fun q=>h (by show s.op.take k0.f=[];rw[q];simp)
  obtain⟨k,x1,x2⟩:=g.zer h'
  rcases(hmk k).1 x1 with z | rfl
  ·exact⟨k,z,x2⟩
  ·exact absurd (by show s.op.take k.f=[];rw[x2];rfl) h
 ·exact g.nd.sublist (List.take_sublist _ _)
 ·intro v i
  show(if v∈s.op.drop k0.f then some (-1)else s.pl v)=_↔(s.op.take k0.f)[i]?=some v
  rw[htk]
  by_cases c:v∈s.op.drop k0.f
  ·rw[if_pos c]
   constructor
   ·intro h;injection h with h;omega
   ·rintro⟨h1,h2⟩
    obtain⟨j,h3,h4⟩:=(hdp v).1 c
    have:=Yn g.nd h2 h4
    omega
  ·rw[if_neg c,g.at' v i]
   exact⟨fun h=>⟨Nat.lt_of_not_le fun q=>c ((hdp v).2 ⟨i,q,h⟩),h⟩,fun h=>h.2⟩
 ·intro v q h
  by_cases c:v∈s.op.drop k0.f
  ·rw[hpin v c] at h
   injection h with h
   exact .inl h.symm
  ·exact g.cl v q ((hpout v c).symm.trans h)
 ·intro v
  exact(g.nxn v).trans (hvisi v).symm
 ·intro i j a b hij ha hb
  exact g.fw i j a b hij ((htk i a).1 ha).2 ((htk j b).1 hb).2
 ·intro i j a b hij ha hb hno
  have hb':=(htk j b).1 hb
  refine g.bk i j a b hij ((htk i a).1 ha).2 hb'.2 fun k hk'=>?_
  rcases(hmk k).1 hk' with z | rfl
  ·exact hno k z
  ·omega
 ·intro k h hl a ha
  exact g.lp k ((hmk k).2 (.inl h)) hl a ((htk _ a).1 ha).2
 ·intro k h hl
  rcases g.nl k ((hmk k).2 (.inl h)) hl with x | ⟨k',x1,x2⟩
  ·have:=hK0 k h
   have:=g.bnd k0 hk0
   omega
  ·rcases(hmk k').1 x1 with z | rfl
   ·exact .inr ⟨k',z,x2⟩
   ·refine .inl ?_
    show k.f+1=(s.op.take k'.f).length
    rw[hTake,hAl,x2]
 ·intro v w h _
  exact fun q=>g.vis v w h trivial ((hvisi w).1 q)
 ·intro v w h hv
  obtain⟨i,_,h1,_⟩:=h
  exact hcc v w hv (List.mem_of_getElem? h1)
 ·intro v w i j h _ hi hj hji
  have hi':=(htk i v).1 hi
  obtain⟨k,k1,k2,k3,k4⟩:=g.oo v w i j h trivial hi'.2 ((htk j w).1 hj).2 hji
  rcases(hmk k).1 k1 with z | rfl
  ·exact⟨k,z,k2,k3,fun k' hk'=>k4 k' ((hmk k').2 (.inl hk'))⟩
  ·omega
 ·show p.Sublist (s.op.take k0.f)
  rw[hTake];exact hs
 ·intro k h
  obtain⟨a,x1,x2⟩:=g.fst k ((hmk k).2 (.inl h))
  have:=hK0 k h
  refine⟨a,(htk _ a).2 ⟨this,x1⟩,?_⟩
  rw[hp] at x2
  rcases List.mem_append.1 x2 with q | q
  ·exact q
  ·rw[List.mem_singleton.1 q] at x1
   have:=Yn g.nd x1 ht
   omega
 ·intro v h1 h2 w h3
  by_cases q:v=t
  ·subst q;exact hf w h3
  ·exact g.ful v (fun k=>h1 ((hvisi v).2 k)) (fun k=>by
    rw[hp] at k
    rcases List.mem_append.1 k with x | x
    ·exact h2 x
    ·exact q (List.mem_singleton.1 x)) w h3
 ·exact Z54 g.res fun hl=>hself hl m hm
 ·intro v hv r
  by_cases c:v∈s.op.drop k0.f
  ·cases hl:k0.lp with
   | true=>exact Z7y hl (hmm v c)
   | false =>
    exfalso
    have hvt:v=t:=by
     obtain⟨j,h1,h2⟩:=(hdp v).1 c
     have hj:=(List.getElem?_eq_some_iff.1 h2).1
     rcases g.nl k0 hk0 hl with x | ⟨k',x1,x2⟩
     ·have:j=k0.f:=by omega
      subst this
      exact Option.some.inj (h2.symm.trans ht)
     ·rcases(hmk k').1 x1 with z | rfl
      ·have:=hK0 k' z;omega
      ·omega
    subst hvt
    have hvo:s.pl v=some (k0.f:Int):=(g.at' v _).2 ht
    have single:∀w,(v,w)∈E→s.pl w=some (-1):=fun w hw=>by
     rcases hcl v w c hw with x | x
     ·obtain⟨j,h1,h2⟩:=(hdp w).1 x
      have hj:=(List.getElem?_eq_some_iff.1 h2).1
      have hjk:j=k0.f:=by
       rcases g.nl k0 hk0 hl with x | ⟨k',x1,x2⟩
       ·omega
       ·rcases(hmk k').1 x1 with z | rfl
        ·have:=hK0 k' z;omega
        ·omega
      subst hjk
      obtain rfl:v=w:=Option.some.inj (ht.symm.trans h2)
      obtain⟨k,k1,k2,k3,k4⟩:=g.oo v v k0.f k0.f (hf v hw) trivial ht ht (Nat.le_refl _)
      rcases(hmk k).1 k1 with z | rfl
      ·have:=k4 k0 hk0
       have:=hK0 k z
       omega
      ·rw[hl] at k2;cases k2
     ·exact x
    have hall:s.pl v=some (-1):=by
     have gen:∀a b,Yf E a b→a=v→s.pl b=some (-1):=by
      intro a b r
      induction r with
      | single h=>intro e;rw[e] at h;exact single _ h
      | tail r h ih=>intro e;exact hoR _ _ (ih e) (.single h)
     exact gen v v r rfl
    rw[hvo] at hall
    injection hall with hall
    omega
  ·exact Z6j (g.all v ((hpout v c).symm.trans hv) r)
theorem GI.done(g:GI E s Y)(hp:s.path=[]):s.op=[]∧s.kn=[]∧∀v,s.pl v≠none→s.pl v=some (-1):=by
 have hk:s.kn=[]:=by
  cases h:s.kn with
  | nil=>rfl
  | cons k l =>
   obtain⟨a,_,h2⟩:=g.fst k (by rw[h];simp)
   rw[hp] at h2;cases h2
 have ho:s.op=[]:=by
  cases h:s.op with
  | nil=>rfl
  | cons a l =>
   obtain⟨k,h1,_⟩:=g.zer (by rw[h];simp)
   rw[hk] at h1;cases h1
 refine⟨ho,hk,fun v hv=>?_⟩
 cases h:s.pl v with
 | none=>exact absurd h hv
 | some q =>
  rcases g.cl v q h with x | x
  ·rw[x]
  ·obtain⟨j,rfl⟩:=Int.eq_ofNat_of_zero_le x
   have:=(g.at' v j).1 h
   rw[ho] at this;simp at this
def V4(E:List (Int × Int))(s:Gb)(i:Nat):Bool:=match E[i]? with
 | some e=>(match s.nx e.1 with
  | some m=>decide (i<m)
  | none=>false)
 | none=>false
def Yg(p:Nat→Bool):Nat→Nat
 | 0=>0
 | n+1=>Yg p n+if p n=true then 0 else 1
theorem Z06{p q:Nat→Bool}:∀ {n:Nat},(∀j,j<n→q j=p j)→Yg q n=Yg p n
 | 0,_=>rfl
 | n+1,h=>by
  unfold Yg
  rw[Z06 (n:=n) fun j hj=>h j (by omega),h n (by omega)]
theorem Z1d{p q:Nat→Bool}{i:Nat}(hp:p i=false)(hq:q i=true):∀ {n:Nat},i<n→(∀j,j≠i→q j=p j)→Yg q n+1=Yg p n
 | n+1,hi,h=>by
  unfold Yg
  by_cases e:n=i
  ·subst e
   rw[Z06 (p:=p) (q:=q) (n:=n) fun j hj=>h j (by omega),hp,hq]
   simp
  ·rw[h n e,←Z1d hp hq (n:=n) (by omega) h]
   omega
def U4(E:List (Int × Int))(s:Gb):Nat:=2*Yg (V4 E s) E.length+s.path.length
theorem Z2i{E:List (Int × Int)}{s s':Gb}(h:s'.nx=s.nx):V4 E s'=V4 E s:=by
 funext i
 unfold V4
 rw[h]
theorem U2(hs:Zh E){i:Nat}{u:Int}(hn:s.nx t=some i)(he:E[i]?=some (t,u)):Yg (V4 E (Zz s t i)) E.length+1=Yg (V4 E s) E.length:=by
 refine Z1d (i:=i) ?_ ?_ (List.getElem?_eq_some_iff.1 he).1 fun j hj=>?_
 ·simp[V4,he,hn]
 ·simp[V4,he,Zz,Zg]
 ·unfold V4
  cases h:E[j]? with
  | none=>rfl
  | some e =>
   by_cases q:e.1=t
   ·simp only[Zz,q,Zq,hn]
    exact decide_eq_decide.2 (by omega)
   ·simp only[Zz,Zo _ _ q]
theorem Z33(hs:Zh E){u:Int}(hu:s.nx u=none):V4 E (Zu E s u)=V4 E s:=by
 funext j
 unfold V4
 cases h:E[j]? with
 | none=>rfl
 | some e =>
  by_cases q:e.1=u
  ·simp only[Zu,q,Zq,hu]
   have:=Z86 hs h q
   simp;omega
  ·simp only[Zu,Zo _ _ q]
theorem Z31(hs:Zh E){i:Nat}(hn:s.nx t=some i)(hi:Vf E t≤i)(h:∀w,E[i]?≠some (t,w)):∀w,(t,w)∈E→ExG E s t w:=by
 intro w hw
 obtain⟨j,hj,e⟩:=List.getElem_of_mem hw
 have e':E[j]?=some (t,w):=by rw[List.getElem?_eq_getElem hj,e]
 refine⟨j,i,e',hn,Nat.lt_of_not_le fun q=>?_⟩
 cases hE:E[i]? with
 | none =>
  rw[List.getElem?_eq_none_iff] at hE
  omega
 | some x =>
  have h1:=Z2s hs hi hE
  have h2:i≠j:=fun k=>by subst k;rw[e'] at hE;injection hE with hE;exact h w (by rw[e'])
  have hi':=(List.getElem?_eq_some_iff.1 hE).1
  have h3:=List.pairwise_iff_getElem.1 hs i j hi' hj (by omega)
  have h4:x=E[i]:=(List.getElem?_eq_some_iff.1 hE).2.symm
  rw[←h4,e] at h3
  unfold U9 at h3
  have h5:x.1=t:=by
   rcases h3 with y | y
   ·have:x.1<t:=y
    omega
   ·exact y.1
  exact h x.2 (by rw[hE,←h5])
end
def Z73(E:List (Int × Int))(fd:Bool)(ls:Int):Prop:=(fd=true↔∃v,Yf E v v)∧(fd=true→Yf E ls ls∧∀v,Yf E v v→ls≤v)
theorem Z1q{E:List (Int × Int)}(hs:Zh E){s:Gb}(g:Vz E s)(hp:s.path=[])(k:Nat)(hv:∀i e,i<k→E[i]?=some e→s.pl e.1≠none)(hk:E.length≤k∨(s.fd=true∧∃e,E[k]?=some e∧s.ls≤e.1)):Z73 E s.fd s.ls:=by
 obtain⟨_,_,h3⟩:=g.done hp
 have key:∀v,Yf E v v→s.fd=true∧s.ls≤v:=by
  intro v r
  obtain⟨y,hy⟩:=Y8 r
  obtain⟨i,hi,e⟩:=List.getElem_of_mem hy
  have e':E[i]?=some (v,y):=by rw[List.getElem?_eq_getElem hi,e]
  by_cases q:i<k
  ·exact g.all v (h3 v (hv i _ q e')) r
  ·rcases hk with x | ⟨x1,ek,x2,x3⟩
   ·omega
   ·refine⟨x1,Int.le_trans x3 ?_⟩
    rcases Nat.lt_or_eq_of_le (Nat.le_of_not_lt q)with z | z
    ·obtain⟨hk',rfl⟩:=List.getElem?_eq_some_iff.1 x2
     have:=List.pairwise_iff_getElem.1 hs k i hk' hi z
     rw[e] at this
     unfold U9 at this
     simp only at this
     omega
    ·subst z
     rw[x2] at e'
     injection e' with e'
     rw[e'];exact Int.le_refl _
 exact⟨⟨fun h=>⟨_,g.res h⟩,fun⟨v,r⟩=>(key v r).1⟩,fun h=>⟨g.res h,fun v r=>(key v r).2⟩⟩
def Z03:List Int→List Int→Prop
 | x::a,y::b=>Z03 a b∨(a=b∧x<y)
 | _,_=>False
def slt(a b:List Int):Prop:=a.length<b.length∨(a.length=b.length∧Z03 a b)
def Ul(a b:List Int):Prop:=a=b∨slt a b
theorem Z37:∀ {a b c:List Int},Z03 a b→Z03 b c→Z03 a c
 | [],_,_,h,_=>h.elim
 | _::_,[],_,h,_=>h.elim
 | _::_,_::_,[],_,h=>h.elim
 | x::a,y::b,z::c,h,k=>by
  rcases h with q | ⟨rfl,q⟩
  ·rcases k with r | ⟨rfl,r⟩
   ·exact .inl (Z37 q r)
   ·exact .inl q
  ·rcases k with r | ⟨rfl,r⟩
   ·exact .inl r
   ·exact .inr ⟨rfl,by omega⟩
theorem Z5g{a b c:List Int}(h:slt a b)(k:slt b c):slt a c:=by
 rcases h with h | ⟨h,h'⟩<;>rcases k with k | ⟨k,k'⟩
 ·exact .inl (by omega)
 ·exact .inl (by omega)
 ·exact .inl (by omega)
 ·exact .inr ⟨by omega,Z37 h' k'⟩
theorem Z2q{a b c:List Int}(h:Ul a b)(k:Ul b c):Ul a c:=by
 rcases h with rfl | h
 ·exact k
 ·rcases k with rfl | k
  ·exact .inr h
  ·exact .inr (Z5g h k)
theorem Z6r{a b c:List Int}(h:slt a b)(k:Ul b c):slt a c:=by
 rcases k with rfl | k
 ·exact h
 ·exact Z5g h k
theorem Vc{a b:List Int}(x y:Int)(h:slt a b):slt (x::a) (y::b):=by
 rcases h with h | ⟨h,h'⟩
 ·exact .inl (by simpa using h)
 ·exact .inr ⟨by simpa using h,.inl h'⟩
theorem Z25{x y:Int}(a:List Int)(h:x<y):slt (x::a) (y::a):=.inr ⟨rfl,.inr ⟨rfl,h⟩⟩
theorem Vb{a b:List Int}(x:Int)(h:Ul a b):Ul (x::a) (x::b):=by
 rcases h with rfl | h
 ·exact .inl rfl
 ·exact .inr (Vc x x h)
theorem Z5d{x y:Int}(a:List Int)(h:x≤y):Ul (x::a) (y::a):=by
 rcases Int.lt_or_eq_of_le h with q | q
 ·exact .inr (Z25 a q)
 ·exact .inl (by rw[q])
theorem Z6q(x:Int)(a:List Int):slt [] (x::a):=.inl (by simp)
theorem Z38{a b:List Int}(h:Ul a b):a.length≤b.length:=by
 rcases h with rfl | h | h
 ·exact Nat.le_refl _
 ·exact Nat.le_of_lt h
 ·exact Nat.le_of_eq h.1
theorem Z5f(x:Int){a b:List Int}(h:Ul a b):slt a (x::b):=.inl (by have:=Z38 h;simp;omega)
theorem Z0d:∀ {a b:List Int},a.length=b.length→∀(x y:Int),Z03 (a++[x]) (b++[y])↔x<y∨(x=y∧Z03 a b)
 | [],[],_,x,y=>by simp[Z03]
 | [],_::_,h,_,_=>by simp at h
 | _::_,[],h,_,_=>by simp at h
 | u::a,v::b,h,x,y=>by
  have h':a.length=b.length:=by simpa using h
  have ih:=Z0d h' x y
  show Z03 (a++[x]) (b++[y])∨(a++[x]=b++[y]∧u<v)↔x<y∨(x=y∧(Z03 a b∨(a=b∧u<v)))
  rw[ih]
  constructor
  ·rintro((q | ⟨q1,q2⟩) | ⟨q1,q2⟩)
   ·exact .inl q
   ·exact .inr ⟨q1,.inl q2⟩
   ·obtain⟨e1,e2⟩:=List.append_inj' q1 rfl
    exact .inr ⟨by simpa using e2,.inr ⟨e1,q2⟩⟩
  ·rintro(q | ⟨q1,q2 | ⟨q2,q3⟩⟩)
   ·exact .inl (.inl q)
   ·exact .inl (.inr ⟨q1,q2⟩)
   ·exact .inr ⟨by rw[q1,q2],q3⟩
def Zj(a:Int)(r:List Int):Int:=r.headD a
inductive RP (E:List (Int × Int)) (a:Int):List Int→Prop
 | nil:RP E a []
 | cons {x:Int} {r:List Int} (p:RP E a r) (h:(Zj a r,x)∈E):RP E a (x::r)
theorem Z81{E:List (Int × Int)}{a:Int}{r:List Int}(p:RP E a r):∀x r',r=x::r'→Yf E a x:=by
 induction p with
 | nil=>intro x r' h;cases h
 | @cons y r p h ih =>
  intro x r' e
  injection e with e1 e2
  subst e1;subst e2
  cases r with
  | nil=>exact .single h
  | cons z r2=>exact .tail (ih z r2 rfl) h
theorem Z82{E:List (Int × Int)}{a:Int}{r:List Int}(p:RP E a r):∀x r',r=x::r'→Way E a (r'.length+1) x:=by
 induction p with
 | nil=>intro x r' h;cases h
 | @cons y r p h ih =>
  intro x r' e
  injection e with e1 e2
  subst e1;subst e2
  cases r with
  | nil=>exact .one h
  | cons z r2=>exact Z5q (ih z r2 rfl) h
theorem Z21{E:List (Int × Int)}{a x:Int}(h:(a,x)∈E){r:List Int}(p:RP E x r):RP E a (r++[x]):=by
 induction p with
 | nil=>exact .cons .nil h
 | @cons y r p k ih =>
  refine .cons ih ?_
  cases r with
  | nil=>exact k
  | cons z r2=>exact k
theorem Z5r{E:List (Int × Int)}{a b:Int}{n:Nat}(w:Way E a n b):∃r,RP E a (b::r)∧r.length+1=n:=by
 induction w with
 | one h=>exact⟨[],.cons .nil h,rfl⟩
 | @step a x b n h _ ih =>
  obtain⟨r,p,e⟩:=ih
  refine⟨r++[x],Z21 h p,by simp;omega⟩
theorem Z22{E:List (Int × Int)}{a x:Int}:∀ {r:List Int},RP E a (r++[x])→(a,x)∈E∧RP E x r
 | [],p=>by
  cases p with
  | cons _ h=>exact⟨h,.nil⟩
 | y::r,p=>by
  cases p with
  | cons p h =>
   obtain⟨h1,h2⟩:=Z22 p
   refine⟨h1,.cons h2 ?_⟩
   cases r with
   | nil=>exact h
   | cons z r2=>exact h
def Lst(E:List (Int × Int))(a b:Int)(r:List Int):Prop:=RP E a (b::r)∧∀ π,RP E a (b::π)→Ul (b::r) (b::π)
theorem Z24{x:Int}{a b:List Int}(h:Ul (x::a) (x::b)):Ul a b:=by
 rcases h with h | h | ⟨h,h'⟩
 ·injection h with _ h;exact .inl h
 ·exact .inr (.inl (by simpa using h))
 ·rcases h' with q | q
  ·exact .inr (.inr ⟨by simpa using h,q⟩)
  ·omega
theorem Z5e{a b:List Int}{x y:Int}(h:Ul (a++[x]) (b++[y])):a.length<b.length∨(a.length=b.length∧(x<y∨(x=y∧Ul a b))):=by
 rcases h with h | h | ⟨h,h'⟩
 ·obtain⟨e1,e2⟩:=List.append_inj' h rfl
  exact .inr ⟨by rw[e1],.inr ⟨by simpa using e2,.inl e1⟩⟩
 ·exact .inl (by simpa using h)
 ·have h2:a.length=b.length:=by simpa using h
  rcases(Z0d h2 x y).1 h' with q | ⟨q,q'⟩
  ·exact .inr ⟨h2,.inl q⟩
  ·exact .inr ⟨h2,.inr ⟨q,.inr (.inr ⟨h2,q'⟩)⟩⟩
theorem Z32{E:List (Int × Int)}{a b:Int}{r:List Int}(h:Lst E a b r):Far E a b (r.length+1):=by
 refine⟨Z82 h.1 b r rfl,fun m w=>?_⟩
 obtain⟨π,p,e⟩:=Z5r w
 have:=Z38 (Z24 (h.2 π p))
 omega
theorem Ue{E:List (Int × Int)}{b:Int}:∀(n:Nat) {a:Int} {r:List Int},r.length=n→Lst E a b r→Greedy E b a (n+1) r.reverse
 | 0,a,r,hn,h=>by
  obtain rfl:=List.length_eq_zero_iff.1 hn
  cases h.1 with
  | cons _ k=>exact .last k
 | n+1,a,r,hn,h=>by
  rcases List.eq_nil_or_concat r with rfl | ⟨r',x,rfl⟩
  ·simp at hn
  ·rw[List.concat_eq_append] at h hn ⊢
   have hl:r'.length=n:=by simpa using hn
   obtain⟨h1,h2⟩:=Z22 (r:=b::r') h.1
   have key:∀y π,(a,y)∈E→RP E y (b::π)→r'.length<π.length∨(r'.length=π.length∧(x<y∨(x=y∧Ul r' π))):=fun y π hy p =>
    Z5e (Z24 (h.2 (π++[y]) (Z21 hy p)))
   have hL:Lst E x b r':=⟨h2,fun π p=>Vb b (by
    rcases key x π h1 p with q | ⟨_,q | q⟩
    ·exact .inr (.inl q)
    ·omega
    ·exact q.2)⟩
   rw[List.reverse_append,List.reverse_singleton,List.singleton_append]
   refine .step h1 (by rw[←hl];exact Z32 hL) (fun y hy f=>?_) (Ue n hl hL)
   obtain⟨π,p,e⟩:=Z5r f.1
   rcases key y π hy p with q | ⟨_,q | q⟩
   ·omega
   ·exact Int.le_of_lt q
   ·exact Int.le_of_eq q.1
structure BI(E:List (Int × Int))(a:Int)(W:List (List Int))(h i:Nat):Prop where
 rp:∀r∈W,RP E a r∧r≠[]
 srt:W.Pairwise slt
 nd:(W.map (Zj a)).Nodup
 pr:∀j,j<h→∀r,([]::W)[j]?=some r→∀y,(Zj a r,y)∈E→∃r'∈W,Zj a r'=y∧Ul r' (y::r)
 pi:∀r,([]::W)[h]?=some r→∀j y,j<i→E[j]?=some (Zj a r,y)→∃r'∈W,Zj a r'=y∧Ul r' (y::r)
 org:∀r∈W,∃y j r0,r=y::r0∧([]::W)[j]?=some r0∧(j<h∨(j=h∧∃k,k<i∧E[k]?=some (Zj a r0,y)))
section
variable {E:List (Int × Int)} {a:Int} {W:List (List Int)} {h i:Nat}
theorem BI.start:BI E a [] 0 0:=⟨by simp,List.Pairwise.nil,List.Pairwise.nil,fun j hj=>by omega,fun r _ j y hj=>by omega,by simp⟩
theorem BI.qs(b:BI E a W h i):([]::W).Pairwise slt:=List.pairwise_cons.2 ⟨fun r hr=>by
 obtain⟨y,_,r0,rfl,_⟩:=b.org r hr
 exact Z6q y r0,b.srt⟩
theorem BI.lt(b:BI E a W h i){j k:Nat}{r r':List Int}(hjk:j<k)(hr:([]::W)[j]?=some r)(hr':([]::W)[k]?=some r'):slt r r':=by
 obtain⟨h1,rfl⟩:=List.getElem?_eq_some_iff.1 hr
 obtain⟨h2,rfl⟩:=List.getElem?_eq_some_iff.1 hr'
 exact List.pairwise_iff_getElem.1 b.qs j k h1 h2 hjk
theorem BI.skip(b:BI E a W h i)(hs:Zh E){r:List Int}{y:Int}(hr:([]::W)[h]?=some r)(he:E[i]?=some (Zj a r,y))(hy:y∈W.map (Zj a)):BI E a W h (i+1):=by
 refine⟨b.rp,b.srt,b.nd,b.pr,fun r1 hr1 j z hj hz=>?_,fun r1 hr1=>?_⟩
 ·obtain rfl:r=r1:=Option.some.inj (hr.symm.trans hr1)
  by_cases q:j<i
  ·exact b.pi r hr j z q hz
  ·have:j=i:=by omega
   subst this
   rw[he] at hz
   injection hz with hz
   injection hz with _ hz
   subst hz
   obtain⟨r',h1,h2⟩:=List.mem_map.1 hy
   refine⟨r',h1,h2,?_⟩
   obtain⟨x,k,r0,rfl,k2,k3⟩:=b.org r' h1
   obtain rfl:x=y:=h2
   rcases k3 with q | ⟨q,_⟩
   ·exact .inr (Vc x x (b.lt q k2 hr))
   ·subst q
    obtain rfl:r0=r:=Option.some.inj (k2.symm.trans hr)
    exact .inl rfl
 ·obtain⟨x,k,r0,e,k2,k3⟩:=b.org r1 hr1
  refine⟨x,k,r0,e,k2,?_⟩
  rcases k3 with q | ⟨q,k,k4,k5⟩
  ·exact .inl q
  ·exact .inr ⟨q,k,by omega,k5⟩
theorem Z6o{W:List (List Int)}{r x:List Int}{j:Nat}(hj:([]::W)[j]?=some r):([]::(W++[x]))[j]?=some r:=by
 cases j with
 | zero=>exact hj
 | succ j =>
  simp only[List.getElem?_cons_succ] at hj ⊢
  rw[List.getElem?_append_left (List.getElem?_eq_some_iff.1 hj).1]
  exact hj
theorem Z8e{W:List (List Int)}{r x:List Int}{j:Nat}(hl:j≤W.length)(hj:([]::(W++[x]))[j]?=some r):([]::W)[j]?=some r:=by
 cases j with
 | zero=>exact hj
 | succ j =>
  simp only[List.getElem?_cons_succ] at hj ⊢
  rw[List.getElem?_append_left (by omega)] at hj
  exact hj
theorem BI.push(b:BI E a W h i)(hs:Zh E){r:List Int}{y:Int}(hr:([]::W)[h]?=some r)(he:E[i]?=some (Zj a r,y))(hy:y∉W.map (Zj a)):BI E a (W++[y::r]) h (i+1):=by
 have hl:h≤W.length:=by
  have:=(List.getElem?_eq_some_iff.1 hr).1
  simp at this;omega
 have hrp:RP E a (y::r):=by
  refine .cons ?_ (List.mem_of_getElem? he)
  cases h with
  | zero=>simp at hr;subst hr;exact .nil
  | succ h =>
   simp only[List.getElem?_cons_succ] at hr
   exact(b.rp r (List.mem_of_getElem? hr)).1
 refine⟨fun r1 h1=>?_,?_,?_,fun j hj r1 hr1 z hz=>?_,fun r1 hr1 j z hj hz=>?_,fun r1 hr1=>?_⟩
 ·rcases List.mem_append.1 h1 with q | q
  ·exact b.rp r1 q
  ·rw[List.mem_singleton.1 q]
   exact⟨hrp,by simp⟩
 ·refine List.pairwise_append.2 ⟨b.srt,by simp,fun r1 h1 r2 h2=>?_⟩
  rw[List.mem_singleton.1 h2]
  obtain⟨x,k,r0,rfl,k2,k3⟩:=b.org r1 h1
  rcases k3 with q | ⟨q,k',k4,k5⟩
  ·exact Vc x y (b.lt q k2 hr)
  ·subst q
   obtain rfl:r0=r:=Option.some.inj (k2.symm.trans hr)
   refine Z25 r0 ?_
   obtain⟨z1,e1⟩:=List.getElem?_eq_some_iff.1 k5
   obtain⟨z2,e2⟩:=List.getElem?_eq_some_iff.1 he
   have:=List.pairwise_iff_getElem.1 hs k' i z1 z2 k4
   rw[e1,e2] at this
   unfold U9 at this
   simp only at this
   omega
 ·rw[List.map_append,List.map_singleton]
  exact List.nodup_append.2 ⟨b.nd,by simp,fun x hx z hz e=>by
   rw[List.mem_singleton.1 hz] at e
   subst e
   exact hy hx⟩
 ·obtain⟨r',k1,k2,k3⟩:=b.pr j hj r1 (Z8e (by omega) hr1) z hz
  exact⟨r',List.mem_append_left _ k1,k2,k3⟩
 ·have hr1':=Z8e hl hr1
  obtain rfl:r=r1:=Option.some.inj (hr.symm.trans hr1')
  by_cases q:j<i
  ·obtain⟨r',k1,k2,k3⟩:=b.pi r hr j z q hz
   exact⟨r',List.mem_append_left _ k1,k2,k3⟩
  ·have:j=i:=by omega
   subst this
   rw[he] at hz
   injection hz with hz
   injection hz with _ hz
   subst hz
   exact⟨y::r,by simp,rfl,.inl rfl⟩
 ·rcases List.mem_append.1 hr1 with q | q
  ·obtain⟨x,k,r0,e,k2,k3⟩:=b.org r1 q
   refine⟨x,k,r0,e,Z6o k2,?_⟩
   rcases k3 with q | ⟨q,k,k4,k5⟩
   ·exact .inl q
   ·exact .inr ⟨q,k,by omega,k5⟩
  ·rw[List.mem_singleton.1 q]
   exact⟨y,h,r,rfl,Z6o hr,.inr ⟨rfl,i,by omega,he⟩⟩
theorem BI.next(b:BI E a W h i)(hs:Zh E){r:List Int}(hr:([]::W)[h]?=some r)(hi:Vf E (Zj a r)≤i)(hn:∀y,E[i]?≠some (Zj a r,y))(i':Nat)(hi':∀r',([]::W)[h+1]?=some r'→i'≤Vf E (Zj a r')):BI E a W (h+1) i':=by
 have hall:∀y,(Zj a r,y)∈E→∃r'∈W,Zj a r'=y∧Ul r' (y::r):=by
  intro y hy
  obtain⟨j,hj,e⟩:=List.getElem_of_mem hy
  have e':E[j]?=some (Zj a r,y):=by rw[List.getElem?_eq_getElem hj,e]
  refine b.pi r hr j y (Nat.lt_of_not_le fun q=>?_) e'
  cases hE:E[i]? with
  | none =>
   rw[List.getElem?_eq_none_iff] at hE
   omega
  | some x =>
   have h1:=Z2s hs hi hE
   have h2:i≠j:=fun k=>by subst k;exact hn y e'
   have hil:=(List.getElem?_eq_some_iff.1 hE).1
   have h3:=List.pairwise_iff_getElem.1 hs i j hil hj (by omega)
   have h4:x=E[i]:=(List.getElem?_eq_some_iff.1 hE).2.symm
   rw[←h4,e] at h3
   unfold U9 at h3
   have h5:x.1=Zj a r:=by
    rcases h3 with y | y
    ·have:x.1<Zj a r:=y
     omega
    ·exact y.1
   exact hn x.2 (by rw[hE,←h5])
 refine⟨b.rp,b.srt,b.nd,fun j hj r1 hr1 y hy=>?_,fun r1 hr1 j y hj hy=>?_,fun r1 hr1=>?_⟩
 ·by_cases q:j<h
  ·exact b.pr j q r1 hr1 y hy
  ·have:j=h:=by omega
   subst this
   obtain rfl:r=r1:=Option.some.inj (hr.symm.trans hr1)
   exact hall y hy
 ·have:=Vn (lL0 hj (hi' r1 hr1)) hy
  simp at this
 ·obtain⟨x,k,r0,e,k2,k3⟩:=b.org r1 hr1
  refine⟨x,k,r0,e,k2,.inl ?_⟩
  rcases k3 with q | ⟨q,_⟩<;>omega
theorem BI.to(b:BI E a W h i){r:List Int}(hr:([]::W)[h]?=some r)(i':Nat)(hi:i≤i')(hi':i'≤Vf E (Zj a r)):BI E a W h i':=by
 refine⟨b.rp,b.srt,b.nd,b.pr,fun r1 hr1 j y hj hy=>?_,fun r1 hr1=>?_⟩
 ·obtain rfl:r=r1:=Option.some.inj (hr.symm.trans hr1)
  have:=Vn (lL0 hj hi') hy
  simp at this
 ·obtain⟨x,k,r0,e,k2,k3⟩:=b.org r1 hr1
  refine⟨x,k,r0,e,k2,?_⟩
  rcases k3 with q | ⟨q,k,k4,k5⟩
  ·exact .inl q
  ·exact .inr ⟨q,k,by omega,k5⟩
theorem V8{l m:List Int}(hn:l.Nodup)(hs:∀x∈l,x∈m):l.length≤m.length:=by
 induction l generalizing m with
 | nil=>exact Nat.zero_le _
 | cons x l ih =>
  have hn':=List.nodup_cons.1 hn
  obtain⟨A,B,e⟩:=List.append_of_mem (hs x (by simp))
  have:=ih (m:=A++B) hn'.2 fun y hy=>by
   have h1:=hs y (by simp[hy])
   rw[e] at h1
   rcases List.mem_append.1 h1 with q | q
   ·exact List.mem_append_left _ q
   ·rcases List.mem_cons.1 q with q | q
    ·exact absurd (q▸hy) hn'.1
    ·exact List.mem_append_right _ q
  rw[e]
  simp at this ⊢
  omega
theorem BI.size(b:BI E a W h i):W.length≤E.length:=by
 have:=V8 (m:=E.map Prod.snd) b.nd fun x hx=>by
  obtain⟨r,hr,rfl⟩:=List.mem_map.1 hx
  cases(b.rp r hr).1 with
  | nil=>exact absurd rfl (b.rp _ hr).2
  | cons p k=>exact List.mem_map.2 ⟨_,k,rfl⟩
 simpa using this
theorem BI.reach(b:BI E a W h i)(hh:W.length<h)(y:Int):y∈W.map (Zj a)↔Yf E a y:=by
 refine Z80 (fun x z hxz hx=>?_) (fun z hz=>?_) y
 ·have:∃(j:Nat) (r:List Int),([]::W)[j]?=some r∧Zj a r=x:=by
   rcases hx with rfl | hx
   ·exact⟨0,[],rfl,rfl⟩
   ·obtain⟨r,hr,e⟩:=List.mem_map.1 hx
    obtain⟨j,hj,e2⟩:=List.getElem_of_mem hr
    exact⟨j+1,r,by simp[hj,e2],e⟩
  obtain⟨j,r,h1,rfl⟩:=this
  have hj:=(List.getElem?_eq_some_iff.1 h1).1
  simp at hj
  obtain⟨r',h2,h3,_⟩:=b.pr j (by omega) r h1 z hxz
  exact List.mem_map.2 ⟨r',h2,h3⟩
 ·obtain⟨r,hr,rfl⟩:=List.mem_map.1 hz
  obtain⟨x,j,r0,rfl,_⟩:=b.org r hr
  exact Z81 (b.rp _ hr).1 x r0 rfl
theorem BI.first(b:BI E a W h i)(hs:Zh E){r:List Int}{y:Int}(hr:([]::W)[h]?=some r)(he:E[i]?=some (Zj a r,y))(hy:y∉W.map (Zj a)):Lst E a y r:=by
 have hb:=b.push hs hr he hy
 refine⟨(hb.rp (y::r) (by simp)).1,?_⟩
 have key:∀ π,RP E a π→π≠[]→(∃r'∈W,Zj a r'=Zj a π∧Ul r' π)∨Ul (y::r) π:=by
  intro π p
  induction p with
  | nil=>intro h;exact absurd rfl h
  | @cons x π p k ih =>
   intro _
   have step:∀(j:Nat) (q:List Int),([]::W)[j]?=some q→Zj a q=Zj a π→Ul q π→(∃r'∈W,Zj a r'=x∧Ul r' (x::π))∨Ul (y::r) (x::π):=by
    intro j q hq e hle
    rw[←e] at k
    rcases Nat.lt_trichotomy j h with c | c | c
    ·obtain⟨r',h1,h2,h3⟩:=b.pr j c q hq x k
     exact .inl ⟨r',h1,h2,Z2q h3 (Vb x hle)⟩
    ·subst c
     obtain rfl:r=q:=Option.some.inj (hr.symm.trans hq)
     obtain⟨m,hm,em⟩:=List.getElem_of_mem k
     have em':E[m]?=some (Zj a r,x):=by rw[List.getElem?_eq_getElem hm,em]
     by_cases d:m<i
     ·obtain⟨r',h1,h2,h3⟩:=b.pi r hr m x d em'
      exact .inl ⟨r',h1,h2,Z2q h3 (Vb x hle)⟩
     ·refine .inr (Z2q (Z5d r ?_) (Vb x hle))
      rcases Nat.lt_or_eq_of_le (Nat.le_of_not_lt d)with z | z
      ·obtain⟨z2,e2⟩:=List.getElem?_eq_some_iff.1 he
       have:=List.pairwise_iff_getElem.1 hs i m z2 hm z
       rw[e2,em] at this
       unfold U9 at this
       simp only at this
       omega
      ·subst z
       rw[he] at em'
       injection em' with em'
       injection em' with _ em'
       exact Int.le_of_eq em'
    ·exact .inr (.inr (Vc y x (Z6r (b.lt c hr hq) hle)))
   by_cases hπ:π=[]
   ·subst hπ
    exact step 0 [] rfl rfl (.inl rfl)
   ·rcases ih hπ with⟨r',h1,h2,h3⟩ | c
    ·obtain⟨j,hj,e2⟩:=List.getElem_of_mem h1
     exact step (j+1) r' (by simp[hj,e2]) h2 h3
    ·exact .inr (.inr (Z5f x c))
 intro π p
 rcases key (y::π) p (by simp) with⟨r',h1,h2,_⟩ | c
 ·exact absurd (List.mem_map.2 ⟨r',h1,h2⟩) hy
 ·exact c
end
structure Y5(l:List (Int × Int))(k:Nat)(out:List (Int × Int)):Prop where
 srt:Zh out
 mem:∀x,x∈out↔x∈l.take k
 len:out.length≤k
abbrev Z4a(l:List (Int × Int)):Prop:=l.Pairwise fun a b=>¬U9 b a
theorem Z3a{l:List (Int × Int)}{k:Nat}(hk:k<l.length)(x:Int × Int):x∈l.take (k+1)↔x∈l.take k∨x=l[k]:=by
 rw[List.take_succ_eq_append_getElem hk,List.mem_append,List.mem_singleton]
theorem Y5.start(l:List (Int × Int)):Y5 l 0 []:=⟨List.Pairwise.nil,by simp,Nat.le_refl _⟩
theorem Y5.push{l out:List (Int × Int)}{k:Nat}(h:Y5 l k out)(hw:Z4a l)(hk:k<l.length)(hn:k=0∨∃j,∃hj:j<l.length,k=j+1∧l[k]≠l[j]):Y5 l (k+1) (out++[l[k]]):=by
 refine⟨List.pairwise_append.2 ⟨h.srt,by simp,fun x hx y hy=>?_⟩,fun x=>?_,by rw[List.length_append,List.length_singleton];have:=h.len;omega⟩
 ·rw[List.mem_singleton.1 hy]
  obtain⟨i,hi,e⟩:=List.getElem_of_mem ((h.mem x).1 hx)
  simp only[List.length_take] at hi
  rw[List.getElem_take] at e
  subst e
  have hik:i<k:=by omega
  have h1:=List.pairwise_iff_getElem.1 hw i k (by omega) hk hik
  rcases Z0s l[i] l[k] with q | q | q
  ·exact q
  ·exfalso
   rcases hn with z | ⟨j,hj,rfl,z⟩
   ·omega
   ·rcases Nat.lt_or_eq_of_le (show i≤j by omega)with a | a
    ·have h2:=List.pairwise_iff_getElem.1 hw i j (by omega) hj a
     have h3:=List.pairwise_iff_getElem.1 hw j (j+1) hj hk (Nat.lt_succ_self j)
     rw[q] at h2
     rcases Z0s l[j] l[j+1] with b | b | b
     ·exact h2 b
     ·exact z b.symm
     ·exact h3 b
    ·subst a;exact z q.symm
  ·exact absurd q h1
 ·rw[List.mem_append,List.mem_singleton,h.mem x,Z3a hk]
theorem Y5.skip{l out:List (Int × Int)}{k j:Nat}(h:Y5 l k out)(hk:k<l.length)(hj:j<l.length)(e:k=j+1)(hn:l[k]=l[j]):Y5 l (k+1) out:=by
 refine⟨h.srt,fun x=>?_,by have:=h.len;omega⟩
 rw[h.mem x,Z3a hk]
 refine⟨.inl,fun q=>q.elim id fun q=>?_⟩
 subst e
 rw[q,hn]
 refine List.mem_of_getElem? (i:=j) ?_
 rw[List.getElem?_take_of_lt (Nat.lt_succ_self j),List.getElem?_eq_getElem hj]
theorem Y5.done{l out:List (Int × Int)}{k:Nat}(h:Y5 l k out)(hk:l.length≤k){m:List (Int × Int)}(hp:l.Perm m):out=sortE m :=
 Z5h h.srt fun x=>(h.mem x).trans (by rw[List.take_of_length_le hk];exact hp.mem_iff)
theorem Z1y(x:Int × Int):∀l:List (Int × Int),(Yz x l).length≤l.length+1
 | []=>by simp[Yz]
 | b::o=>by
  have ih:=Z1y x o
  unfold Yz
  split
  ·simpa using ih
  ·split<;>simp
theorem Z09:∀(l o:List (Int × Int)),(l.foldl (fun o x=>Yz x o) o).length≤o.length+l.length
 | [],o=>Nat.le_refl _
 | a::t,o=>by
  have h1:=Z09 t (Yz a o)
  have h2:=Z1y a o
  simp only[List.foldl_cons,List.length_cons]
  omega
theorem Z0e(l:List (Int × Int)):(sortE l).length≤l.length:=by
 have:=Z09 l []
 simp only[List.length_nil,Nat.zero_add] at this
 exact this
section
variable {E:List (Int × Int)} {a:Int} {W:List (List Int)} {h i:Nat}
theorem BI.suf(b:BI E a W h i):∀(n:Nat) (r:List Int),r.length=n→r∈([]::W)→∀j,j<r.length→r.drop j∈W
 | 0,r,hn,_,j,hj=>by omega
 | n+1,r,hn,hr,j,hj=>by
  have hrW:r∈W:=by
   rcases List.mem_cons.1 hr with e | e
   ·rw[e] at hn;simp at hn
   ·exact e
  cases j with
  | zero=>exact hrW
  | succ j =>
   obtain⟨y,k,r0,rfl,h2,_⟩:=b.org r hrW
   exact b.suf n r0 (by simpa using hn) (List.mem_of_getElem? h2) j (by simpa using hj)
theorem BI.heads(b:BI E a W h i){r:List Int}(hr:r∈([]::W)):∀x∈r,x∈W.map (Zj a):=by
 intro x hx
 obtain⟨j,hj,e⟩:=List.getElem_of_mem hx
 have:=b.suf r.length r rfl hr j hj
 refine List.mem_map.2 ⟨_,this,?_⟩
 rw[←List.getElem_cons_drop hj]
 exact e
theorem BI.inE(b:BI E a W h i):∀x∈W.map (Zj a),∃e∈E,e.2=x:=by
 intro x hx
 obtain⟨r,hr,rfl⟩:=List.mem_map.1 hx
 cases(b.rp r hr).1 with
 | nil=>exact absurd rfl (b.rp _ hr).2
 | cons p k=>exact⟨_,k,rfl⟩
end
theorem Z52{α β:Type}{f:α→β}:∀ {W:List α},(W.map f).Nodup→∀ {q q':α},q∈W→q'∈W→f q=f q'→q=q'
 | [],_,_,_,h,_,_=>nomatch h
 | x::W,hn,q,q',h,h',e=>by
  rw[List.map_cons,List.nodup_cons] at hn
  rcases List.mem_cons.1 h with rfl | k
  ·rcases List.mem_cons.1 h' with rfl | k'
   ·rfl
   ·exact absurd (List.mem_map.2 ⟨q',k',e.symm⟩) hn.1
  ·rcases List.mem_cons.1 h' with rfl | k'
   ·exact absurd (List.mem_map.2 ⟨q,k,e⟩) hn.1
   ·exact Z52 hn.2 k k' e
theorem BI.wlen{E:List (Int × Int)}{a:Int}{W:List (List Int)}{h i:Nat}(b:BI E a W h i){r:List Int}(hr:r∈([]::W)):r.length≤E.length:=by
 have hnd:r.Nodup:=by
  rw[List.nodup_iff_pairwise_ne,List.pairwise_iff_getElem]
  intro x y hx hy hxy e
  have h1:=b.suf r.length r rfl hr x hx
  have h2:=b.suf r.length r rfl hr y hy
  have e1:Zj a (r.drop x)=r[x]:=by rw[←List.getElem_cons_drop hx];rfl
  have e2:Zj a (r.drop y)=r[y]:=by rw[←List.getElem_cons_drop hy];rfl
  have h3:=Z52 b.nd h1 h2 (by rw[e1,e2,e])
  have:=congrArg List.length h3
  simp at this
  omega
 have h1:=V8 hnd (b.heads hr)
 have h2:=b.size
 rw[List.length_map] at h1
 omega
def Ym(l:List (Int × Int))(c:List Int)(b:Bool):Prop :=
 (b=true↔∃v,Yf l v v)∧(b=false→c=[])∧(b=true→∃a r,c=a::r∧Yf l a a∧(∀v,Yf l v v→a≤v)∧Far l a a (r.length+1)∧Greedy l a a (r.length+1) r)
theorem Va{l m:List (Int × Int)}(h:∀x,x∈l↔x∈m){a b:Int}:Yf l a b↔Yf m a b:=⟨Z20 fun x=>(h x).1,Z20 fun x=>(h x).2⟩
theorem Z2a{l m:List (Int × Int)}(h:∀x∈l,x∈m){a b:Int}{n:Nat}(w:Way l a n b):Way m a n b:=by
 induction w with
 | one k=>exact .one (h _ k)
 | step k _ ih=>exact .step (h _ k) ih
theorem Ub{l m:List (Int × Int)}(h:∀x,x∈l↔x∈m){a b:Int}{n:Nat}(f:Far l a b n):Far m a b n :=
 ⟨Z2a (fun x=>(h x).1) f.1,fun k w=>f.2 k (Z2a (fun x=>(h x).2) w)⟩
theorem Z1n{l m:List (Int × Int)}(h:∀x,x∈l↔x∈m){a b:Int}{n:Nat}{r:List Int}(g:Greedy l b a n r):Greedy m b a n r:=by
 induction g with
 | last k=>exact .last ((h _).1 k)
 | step k f mn _ ih=>exact .step ((h _).1 k) (Ub h f) (fun y hy fy=>mn y ((h _).2 hy) (Ub (fun x=>(h x).symm) fy)) ih
theorem Z07{l m:List (Int × Int)}(h:∀x,x∈l↔x∈m){c:List Int}{b:Bool}(p:Ym l c b):Ym m c b:=by
 obtain⟨p1,p2,p3⟩:=p
 refine⟨p1.trans ⟨fun⟨v,q⟩=>⟨v,(Va h).1 q⟩,fun⟨v,q⟩=>⟨v,(Va h).2 q⟩⟩,p2,fun hb=>?_⟩
 obtain⟨a,r,e,q1,q2,q3,q4⟩:=p3 hb
 exact⟨a,r,e,(Va h).1 q1,fun v q=>q2 v ((Va h).2 q),Ub h q3,Z1n h q4⟩
theorem Vh{l:List (Int × Int)}{c c':List Int}{b b':Bool}(p:Ym l c b)(p':Ym l c' b'):c=c'∧b=b':=by
 obtain⟨p1,p2,p3⟩:=p
 obtain⟨q1,q2,q3⟩:=p'
 have hb:b=b':=by
  have:b=true↔b'=true:=p1.trans q1.symm
  cases b<;>cases b'<;>simp_all
 subst hb
 refine⟨?_,rfl⟩
 cases b with
 | false=>rw[p2 rfl,q2 rfl]
 | true =>
  obtain⟨a,r,rfl,h1,h2,h3,h4⟩:=p3 rfl
  obtain⟨a',r',rfl,k1,k2,k3,k4⟩:=q3 rfl
  obtain rfl:=Int.le_antisymm (h2 _ k1) (k2 _ h1)
  rw[Z1i k3 h3] at k4
  rw[Z1o h4 k4]
theorem Z64{l:List (Int × Int)}{a:Int}{r:List Int}(h1:Yf l a a)(h2:∀v,Yf l v v→a≤v)(h3:Lst l a a r):Ym l (a::r.reverse) true:=by
 refine⟨⟨fun _=>⟨a,h1⟩,fun _=>rfl⟩,(fun h=>nomatch h),fun _=>⟨a,r.reverse,rfl,h1,h2,?_,?_⟩⟩
 ·rw[List.length_reverse];exact Z32 h3
 ·rw[List.length_reverse];exact Ue r.length rfl h3
theorem Z0p{l:List (Int × Int)}(h:¬∃v,Yf l v v):Ym l [] false:=⟨⟨(fun q=>nomatch q),fun q=>absurd q h⟩,fun _=>rfl,(fun q=>nomatch q)⟩
theorem Uc{l:List (Int × Int)}{b a:Int}{n:Nat}{r:List Int}(g:Greedy l b a n r)(f:Far l a b n):∀i,(h:i<(a::r).length)→Far l (a::r)[i] b (n-i):=by
 induction g with
 | last k =>
  intro i h
  obtain rfl:i=0:=by simp at h;exact h
  exact f
 | @step a x n r k fx mn _ ih =>
  intro i h
  match i,h with
  | 0,_=>exact f
  | i+1,h =>
   have:=ih fx i (by simpa using h)
   rw[show n+2-(i+1)=n+1-i by omega]
   exact this
theorem Z1m{l:List (Int × Int)}{b a:Int}{n:Nat}{r:List Int}(g:Greedy l b a n r):∀i,(h:i<(a::r).length)→((a::r)[i],((a::r)[i+1]?).getD b)∈l:=by
 induction g with
 | last k =>
  intro i h
  obtain rfl:i=0:=by simp at h;exact h
  exact k
 | @step a x n r k fx mn _ ih =>
  intro i h
  match i,h with
  | 0,_=>exact k
  | i+1,h=>exact ih i (by simpa using h)
theorem Vg{l:List (Int × Int)}{c:List Int}{b:Bool}(p:Ym l c b){i:Nat}(h:i<c.length)(h0:0<c.length):(c[i],(c[i+1]?).getD c[0])∈l:=by
 obtain⟨p1,p2,p3⟩:=p
 cases b with
 | false=>rw[p2 rfl] at h0;exact absurd h0 (Nat.lt_irrefl 0)
 | true =>
  obtain⟨a,r,rfl,q1,q2,q3,q4⟩:=p3 rfl
  exact Z1m q4 i h
theorem Z3e{l:List (Int × Int)}{c:List Int}{b:Bool}(p:Ym l c b){i k:Nat}(h:i<c.length)(hk:k<i):c[k]'(Nat.lt_trans hk h)≠c[i]:=by
 obtain⟨p1,p2,p3⟩:=p
 cases b with
 | false=>have:=p2 rfl;subst this;exact absurd h (Nat.not_lt_zero i)
 | true =>
  obtain⟨a,r,rfl,q1,q2,q3,q4⟩:=p3 rfl
  intro e
  have f1:=Uc q4 q3 k (Nat.lt_trans hk h)
  have f2:=Uc q4 q3 i h
  rw[e] at f1
  have:=Z1i f1 f2
  simp at h
  omega
theorem Z4i{l:List (Int × Int)}{c:List Int}{b:Bool}(p:Ym l c b):c.length≤l.length:=by
 have hn:c.Nodup:=by
  rw[List.nodup_iff_pairwise_ne,List.pairwise_iff_getElem]
  exact fun i j hi hj hij=>Z3e p hj hij
 have:=V8 (m:=l.map Prod.fst) hn fun y hy=>by
  obtain⟨i,hi,rfl⟩:=List.getElem_of_mem hy
  exact List.mem_map.2 ⟨_,Vg p hi (Nat.lt_of_le_of_lt (Nat.zero_le i) hi),rfl⟩
 simpa using this
def Yc:List (Int × Int)→Int→Int
 | [],_=>0
 | e::r,t=>if e.1=t then e.2 else Yc r t
theorem Z5x{l:List (Int × Int)}{t:Int}(h:∀e∈l,e.1≠t):Yc l t=0:=by
 induction l with
 | nil=>rfl
 | cons e r ih =>
  unfold Yc
  rw[if_neg (h e (List.mem_cons_self ..))]
  exact ih fun x hx=>h x (List.mem_cons_of_mem _ hx)
theorem Z5w{l:List (Int × Int)}{t:Int}{k:Nat}(hk:k<l.length)(h:∀j,(hj:j<l.length)→j<k→l[j].1≠t)(e:l[k].1=t):Yc l t=l[k].2:=by
 induction l generalizing k with
 | nil=>simp at hk
 | cons a r ih =>
  unfold Yc
  cases k with
  | zero=>rw[if_pos (show a.1=t from e)];rfl
  | succ k =>
   rw[if_neg (show ¬a.1=t from h 0 (Nat.succ_pos _) (Nat.succ_pos _))]
   exact ih (Nat.lt_of_succ_lt_succ hk) (fun j hj hjk=>h (j+1) (Nat.succ_lt_succ hj) (Nat.succ_lt_succ hjk)) e
def Zv(ages:List (Int × Int))(y x:Int):Prop:=Yc ages y<Yc ages x∨(Yc ages y=Yc ages x∧y<x)
instance (ages:List (Int × Int)) (y x:Int):Decidable (Zv ages y x):=by unfold Zv;infer_instance
theorem Uf{ages:List (Int × Int)}(x:Int):¬Zv ages x x:=by unfold Zv;omega
theorem Z3y{ages:List (Int × Int)}{x y z:Int}(h:Zv ages x y)(k:Zv ages y z):Zv ages x z:=by unfold Zv at *;omega
def Ys(ages:List (Int × Int))(y x:Int):Int:=if Zv ages y x then x else y
def Zf(ages:List (Int × Int))(a:Int)(r:List Int):Int:=r.foldl (Ys ages) a
theorem V3(ages:List (Int × Int))(a:Int)(r:List Int)(x:Int):Zf ages a (r++[x])=Ys ages (Zf ages a r) x:=by
 unfold Zf
 rw[List.foldl_append]
 rfl
theorem Z4c(ages:List (Int × Int))(y x:Int):(Ys ages y x=x∧Zv ages y x)∨(Ys ages y x=y∧¬Zv ages y x):=by
 unfold Ys
 by_cases h:Zv ages y x
 ·exact .inl ⟨if_pos h,h⟩
 ·exact .inr ⟨if_neg h,h⟩
def Z5u(ages:List (Int × Int))(c:List Int)(v:Int):Prop:=v∈c∧∀x∈c,¬Zv ages v x
theorem Z3t{ages:List (Int × Int)}{c:List Int}{v x:Int}(h:Z5u ages c v):Z5u ages (c++[x]) (Ys ages v x):=by
 rcases Z4c ages v x with⟨e,o⟩ | ⟨e,o⟩
 ·rw[e]
  refine⟨by simp,fun y hy q=>?_⟩
  rcases List.mem_append.1 hy with k | k
  ·exact h.2 y k (Z3y o q)
  ·rw[List.mem_singleton.1 k] at q;exact Uf x q
 ·rw[e]
  refine⟨by simp[h.1],fun y hy q=>?_⟩
  rcases List.mem_append.1 hy with k | k
  ·exact h.2 y k q
  ·rw[List.mem_singleton.1 k] at q;exact o q
theorem Vs(ages:List (Int × Int))(a:Int)(r:List Int):Z5u ages (a::r) (Zf ages a r):=by
 have key:∀(n:Nat) (r:List Int),r.length=n→Z5u ages (a::r) (Zf ages a r):=by
  intro n
  induction n with
  | zero =>
   intro r hr
   obtain rfl:=List.length_eq_zero_iff.1 hr
   exact⟨by simp[Zf],fun x hx=>by rw[List.mem_singleton.1 hx];exact Uf a⟩
  | succ n ih =>
   intro r hr
   have hne:r≠[]:=fun e=>by rw[e] at hr;simp at hr
   rw[←List.dropLast_concat_getLast hne,V3,←List.cons_append]
   exact Z3t (ih r.dropLast (by simp[hr]))
 exact key r.length r rfl
inductive Vic (ages:List (Int × Int)):List (Int × Int)→List Int→Prop
 | done {l:List (Int × Int)} (h:Ym l [] false):Vic ages l []
 | step {l:List (Int × Int)} {a:Int} {r vs:List Int} (h:Ym l (a::r) true) (t:Vic ages (Y1 l (Zf ages a r)) vs):Vic ages l (Zf ages a r::vs)
theorem Vd{ages l:List (Int × Int)}{v w:List Int}(h:Vic ages l v):Vic ages l w→v=w:=by
 induction h generalizing w with
 | done h =>
  intro k
  cases k with
  | done _=>rfl
  | step h' _=>have:=(Vh h h').2;cases this
 | step h t ih =>
  intro k
  cases k with
  | done h'=>have:=(Vh h h').2;cases this
  | step h' t' =>
   obtain⟨rfl,rfl⟩:=List.cons.inj (Vh h h').1
   rw[ih t']
theorem Z3j{l:List (Int × Int)}{c:List Int}(p:Ym l c true){v:Int}(hv:v∈c):(Y1 l v).length<l.length:=by
 obtain⟨i,hi,e⟩:=List.getElem_of_mem hv
 have hm:=Vg p hi (Nat.lt_of_le_of_lt (Nat.zero_le i) hi)
 rw[e] at hm
 refine Nat.lt_of_le_of_ne (List.length_filter_le _ _) fun q=>?_
 have:=List.length_filter_eq_length_iff.1 q _ hm
 simp at this
section
def Nw(w w':World):Prop:=Below w.heap.size w w'
theorem Nw.refl(w:World):Nw w w:=Below.refl _ _
theorem Nw.trans{a b c:World}(h:Nw a b)(k:Nw b c):Nw a c:=Below.trans h (Below.mono k h.size)
theorem Nw.alloc{w w':World}(h:Nw w w')(o:Obj):Nw w (w'.alloc o):=Below.alloc h h.size o
theorem Nw.drewN{w w':World}(h:Nw w w')(n:Nat):Nw w (w'.drewN n):=⟨h.os,h.tape,h.output,h.size,h.block⟩
theorem Nw.sz{w w':World}(h:Nw w w'):w.heap.size≤w'.heap.size:=Below.size h
theorem Nw.cell{w w':World}(h:Nw w w'){b o:Nat}(hb:b<w.heap.size):w'.cell? ⟨b,o,none⟩=w.cell? ⟨b,o,none⟩:=Below.cell h hb
theorem Nw.grownBy{w w':World}(h:Nw w w')(row:Option Nat):w.grownBy w' row:=⟨h.os,h.tape,h.output,h.size,fun k hk _=>h.block k hk⟩
variable {P:Program}
theorem Yi(w:World)(base:Nat)(t ty e:TypeId)(i:TypeInfo)(z:Value)(size bytes:Nat)(ht:P.underlying t=some (.slice e))(hi:P.info? e=some i)(hz:i.zero=some z)
  (hsize:i.size=size) (hby:i.bytes=bytes) (hzs:z.cells.size=size) (hsz:0<size)
  (v:Value) (n:Nat) (xs:List Value) (hown:w.ownsRow base e size v n xs)
  (a:Addr) (m c:Nat) (news:List Value) (hl:news.length=m*size) (hnews:∀j u,news[j]?=some u→w.cell? (a.add j)=some u) (h1:∀u∈news,u.oneCell'=true)
  (h63:n+m≤maxLen) (hbytes:(n+m)*bytes≤140737488355328) (hbase:base≤w.heap.size) :
  ∃v' w',(Builtin.append_ #[t,t] ty #[v,.slice (some a) m c]).run P w=.ok v' w'∧w'.ownsRow base e size v' (n+m) (xs++news)∧w.grownBy w' v.ownBlock ∧
   (v'.ownBlock=v.ownBlock∨v'.ownBlock=some w.heap.size):=by
 obtain⟨v',w',hr,g1,g2,g3⟩:=run_append_own (P:=P) w base t ty e i z size bytes ht hi hz hsize hby hzs hsz v n xs hown a m c news hl hnews h1 h63 hbytes hbase
 refine⟨v',w',hr,g1,g2,?_⟩
 have h63':((n+m:Nat):Int)≤9223372036854775807:=by unfold maxLen at h63;omega
 subst hsize
 subst hby
 rcases hown.2 with⟨rfl,rfl⟩ | ⟨g,cap,cur,rfl,hbg,hg,hnc,hcm,hcs,htake⟩
 ·by_cases hm:m=0
  ·have e1:=g3.2 ⟨rfl,hm⟩
   subst e1
   exact .inl rfl
  ·have hr2:=run_append_nil (P:=P) w t ty e i z ht hi hz a m c news hl hnews (by omega) (by omega) (by simp only[Nat.zero_add] at hbytes;omega)
   rw[hr2] at hr
   injection hr with e1 _
   subst e1
   exact .inr rfl
 ·by_cases hroom:n+m≤cap
  ·have hfit:n*i.size+news.length≤cur.size:=by rw[hl,hcs,←Nat.add_mul];exact Nat.mul_le_mul_right _ hroom
   have hr2:=run_append_room (P:=P) w t ty e i ht hi g n cap cur hg a m c news hl hnews h1 hroom hfit
   rw[hr2] at hr
   injection hr with e1 _
   subst e1
   exact .inl rfl
  ·have hr2:=run_append_grow (P:=P) w t ty e i z ht hi hz ⟨g,0,none⟩ n cap xs hown.1 (hown.cells (g:=g) rfl) a m c news hl hnews (by omega) h63' (growslice_fits (by omega) hbytes)
   rw[hr2] at hr
   injection hr with e1 _
   subst e1
   exact .inr rfl
end
structure Zc(S:Nat→Prop)(w w':World):Prop where
 os:w'.os=w.os
 tape:w'.tape=w.tape
 output:w'.output=w.output
 size:w.heap.size≤w'.heap.size
 block:∀k,k<w.heap.size→¬S k→w'.heap[k]?=w.heap[k]?
theorem Zc.refl(S:Nat→Prop)(w:World):Zc S w w:=⟨rfl,rfl,rfl,Nat.le_refl _,fun _ _ _=>rfl⟩
theorem Zc.trans'{S S':Nat→Prop}{a b c:World}(h:Zc S a b)(k:Zc S' b c)(hS:∀i,i<a.heap.size→S' i→S i):Zc S a c :=
 ⟨k.os.trans h.os,k.tape.trans h.tape,k.output.trans h.output,Nat.le_trans h.size k.size,fun i hi hn=>(k.block i (lL0 hi h.size) (fun e=>hn (hS i hi e))).trans (h.block i hi hn)⟩
theorem Zc.trans{S:Nat→Prop}{a b c:World}(h:Zc S a b)(k:Zc S b c):Zc S a c:=h.trans' k fun _ _ e=>e
theorem Zc.mono{S S':Nat→Prop}{a b:World}(h:Zc S a b)(hS:∀i,i<a.heap.size→S i→S' i):Zc S' a b :=
 ⟨h.os,h.tape,h.output,h.size,fun i hi hn=>h.block i hi (fun e=>hn (hS i hi e))⟩
theorem Zc.nw{S:Nat→Prop}{a b:World}(h:Nw a b):Zc S a b:=⟨h.os,h.tape,h.output,h.size,fun k hk _=>h.block k hk⟩
theorem Zc.toNw{a b:World}(h:Zc (fun _=>False) a b):Nw a b:=⟨h.os,h.tape,h.output,h.size,fun k hk=>h.block k hk (fun e=>e)⟩
theorem Zc.alloc{S:Nat→Prop}{a b:World}(h:Zc S a b)(o:Obj):Zc S a (b.alloc o):=h.trans (.nw ((Nw.refl b).alloc o))
theorem Zc.set{S:Nat→Prop}{a b:World}(h:Zc S a b){p:Addr}(hp:S p.block∨a.heap.size≤p.block)(v:Value):Zc S a (b.setCell p v) :=
 h.trans' (S':=fun k=>k=p.block) ⟨rfl,rfl,rfl,by simp[World.setCell],fun k _ hk=>Below.heap_setCell _ _ _ _ hk⟩ (fun i hi e=>by subst e;exact hp.resolve_right (by omega))
theorem Zc.grown{S:Nat→Prop}{a b c:World}{row:Option Nat}(h:Zc S a b)(hg:b.grownBy c row)(hr:∀k,row=some k→S k∨a.heap.size≤k):Zc S a c :=
 h.trans' (S':=fun k=>row=some k) ⟨hg.os,hg.tape,hg.output,hg.size,fun k hk hn=>hg.block k hk (fun e=>hn e.symm)⟩ (fun i hi e=>(hr i e).resolve_right (by omega))
theorem Zc.cell{S:Nat→Prop}{a b:World}(h:Zc S a b){k o:Nat}(hk:k<a.heap.size)(hn:¬S k):b.cell? ⟨k,o,none⟩=a.cell? ⟨k,o,none⟩:=World.cell?_of_block (h.block k hk hn)
theorem Zc.froz{S:Nat→Prop}{a b:World}(h:Zc S a b){k o:Nat}(hk:k<a.heap.size)(hn:¬S k):b.frozen? ⟨k,o,none⟩=a.frozen? ⟨k,o,none⟩:=World.frozen?_of_block (h.block k hk hn)
theorem Nw.froz{a b:World}(h:Nw a b){k o:Nat}(hk:k<a.heap.size):b.frozen? ⟨k,o,none⟩=a.frozen? ⟨k,o,none⟩:=(Zc.nw (S:=fun _=>False) h).froz hk (fun e=>e)
theorem Ze{w a b:World}{F:Nat→Prop}(h:Nw w a)(k:Zc F a b)(hF:∀i,F i→w.heap.size≤i):Nw w b :=
 Zc.toNw ((Zc.nw (S:=fun _=>False) h).trans' k fun i hi e=>by have:=hF i e;omega)
theorem Zw(w:World)(p:Addr)(v:Value):Zc (fun k=>k=p.block) w (w.setCell p v):=Zc.set (S:=fun k=>k=p.block) (Zc.refl _ w) (.inl rfl) v
theorem Nw.kp{a b:World}(g:Nw a b){k o:Nat}{v:Value}(h:a.cell? ⟨k,o,none⟩=some v):b.cell? ⟨k,o,none⟩=some v :=
 (g.cell (World.block_lt_of_cell? _ _ h)).trans h
theorem Nw.dr{a b:World}(h:Nw a b):Nw a b.drew:=h.drewN 1
theorem Nw.at'{a b:World}(g:Nw a b){k:Nat}{o:Obj}(h:a.heap[k]?=some o):b.heap[k]?=some o:=(g.block k (Array.getElem?_eq_some_iff.1 h).1).trans h
theorem Z5(w:World)(o:Obj):(w.alloc o).heap[w.heap.size]?=some o:=by
 show(w.heap.push o)[w.heap.size]?=some o
 simp
theorem Z2{w:World}{B j:Nat}{c:Array Value}{T:TypeId}{fr:Nat × Nat}(hb:w.heap[B]?=some (.cells c T fr)):w.cell? ⟨B,j,none⟩=c[j]?:=by simp[World.cell?,hb]
theorem hfz{w:World}{B j:Nat}{c:Array Value}{T:TypeId}(hb:w.heap[B]?=some (.cells c T (0,0))):w.frozen? ⟨B,j,none⟩=false:=by simp[World.frozen?,hb]
theorem hlt{w:World}{B:Nat}{o:Obj}(hb:w.heap[B]?=some o):B<w.heap.size:=(Array.getElem?_eq_some_iff.1 hb).1
theorem hset{w:World}{B j:Nat}{c:Array Value}{T:TypeId}{fr:Nat × Nat}(u:Value)(hb:w.heap[B]?=some (.cells c T fr)):(w.setCell ⟨B,j,none⟩ u).heap[B]?=some (.cells (c.setIfInBounds j u) T fr):=by
 simp[World.setCell,Array.getElem?_modify,hb]
theorem Z83(w:World)(p:Addr)(u:Value):w.grownBy (w.setCell p u) (some p.block) :=
 ⟨rfl,rfl,rfl,by simp[World.setCell],fun k _ hk=>Below.heap_setCell _ _ _ _ (fun q=>hk (by rw[q]))⟩
theorem Nw.gro{w a b:World}{row:Option Nat}(h:Nw w a)(g:a.grownBy b row)(hB:∀k,row=some k→w.heap.size≤k):Nw w b :=
 ⟨g.os.trans h.os,g.tape.trans h.tape,g.output.trans h.output,Nat.le_trans h.size g.size,fun j hj=>(g.block j (lL0 hj h.size) (fun q=>by have:=hB j q.symm;omega)).trans (h.block j hj)⟩
section
variable {w w':World} {g0 e size n:Nat} {v:Value} {xs:List Value}
theorem Z8q{row:Option Nat}(ho:w.ownsRow g0 e size v n xs)(hg:w.grownBy w' row)(hne:∀g,v.ownBlock=some g→row≠some g):w'.ownsRow g0 e size v n xs:=by
 cases hv:v.ownBlock with
 | none=>exact ho.kept hg (.inl hv)
 | some g=>exact ho.kept hg (.inr fun q=>hne g hv (q▸hv))
theorem onw(ho:w.ownsRow g0 e size v n xs)(hg:Nw w w'):w'.ownsRow g0 e size v n xs:=Z8q ho (hg.grownBy none) (fun _ _=>by simp)
theorem Zx(ho:w.ownsRow g0 e size v n xs){g:Nat}(hv:v.ownBlock=some g):∃c,w.heap[g]?=some (.cells c e (0,0)):=by
 rcases ho.2 with⟨rfl,_⟩ | ⟨g',cap,cur,rfl,_,hh,_⟩
 ·simp[Value.ownBlock] at hv
 ·simp only[Value.ownBlock,Option.some.injEq] at hv
  subst hv
  exact⟨cur,hh⟩
theorem olt(ho:w.ownsRow g0 e size v n xs){g:Nat}(hv:v.ownBlock=some g):g<w.heap.size:=(World.ownsRow.lt ho g hv).2
theorem oge(ho:w.ownsRow g0 e size v n xs){g:Nat}(hv:v.ownBlock=some g):g0≤g:=(World.ownsRow.lt ho g hv).1
theorem Yv(h:w.ownsRow g0 e size v n xs):(v=.slice none 0 0∧n=0)∨∃g cap,v=.slice (some ⟨g,0,none⟩) n cap:=by
 rcases h.2 with q | ⟨g,cap,cur,rfl,_⟩
 ·exact .inl q
 ·exact .inr ⟨g,cap,rfl⟩
theorem Z55(ho:w.ownsRow g0 e size v n xs){g1:Nat}(h:∀g,v.ownBlock=some g→g1≤g):w.ownsRow g1 e size v n xs:=by
 refine⟨ho.1,?_⟩
 rcases ho.2 with q | ⟨g,cap,cur,rfl,hb,rest⟩
 ·exact .inl q
 ·exact .inr ⟨g,cap,cur,rfl,h g rfl,rest⟩
end
theorem Nw.st{w a:World}{p:Addr}(h:Nw w a)(hB:w.heap.size≤p.block)(u:Value):Nw w (a.setCell p u):=h.gro (Z83 a p u) (fun k hk=>by have:=Option.some.inj hk;omega)
structure Uv{α:Type}(P:Program)(ST T:TypeId)(sz bytes:Nat)(row:α→List Value):Prop where
 und:P.underlying ST=some (.slice T)
 inf:∃i z,P.info? T=some i∧i.zero=some z∧i.size=sz∧i.bytes=bytes∧z.cells.size=sz
 pos:0<sz
 byt:bytes≤800
 len:∀a,(row a).length=sz
 one:∀a,∀u∈row a,u.oneCell'=true
def Z7{α:Type}(row:α→List Value)(l:List α):List Value:=l.flatMap row
abbrev Y4{α:Type}(T:TypeId)(sz:Nat)(row:α→List Value)(w:World)(g0:Nat)(v:Value)(l:List α):Prop:=w.ownsRow g0 T sz v l.length (Z7 row l)
structure RdC{α:Type}(sz:Nat)(row:α→List Value)(w:World)(b o:Nat)(l:List α):Prop where
 lt:b<w.heap.size
 cell:∀i (h:i<l.length) c u,(row l[i])[c]?=some u→w.cell? ⟨b,o+i*sz+c,none⟩=some u
def Rd{α:Type}(sz:Nat)(row:α→List Value)(w:World)(v:Value)(l:List α):Prop:=∃a c,v=.slice a l.length c∧(l=[]∧(a=none→c=0)∨∃b o,a=some ⟨b,o,none⟩∧RdC sz row w b o l)
section
variable {α:Type} {sz:Nat} {row:α→List Value} {w w':World} {b o:Nat} {l:List α} {v:Value}
theorem RdC.nw(h:RdC sz row w b o l)(g:Nw w w'):RdC sz row w' b o l:=⟨lL0 h.lt g.sz,fun i hi c u hu=>(g.cell h.lt).trans (h.cell i hi c u hu)⟩
theorem Rd.nw(h:Rd sz row w v l)(g:Nw w w'):Rd sz row w' v l:=by
 obtain⟨a,c,rfl,h | ⟨b,o,rfl,h⟩⟩:=h
 ·exact⟨a,c,rfl,.inl h⟩
 ·exact⟨_,c,rfl,.inr ⟨b,o,rfl,h.nw g⟩⟩
theorem Rd.nil(w:World):Rd sz row w (.slice none 0 0) []:=⟨none,0,rfl,.inl ⟨rfl,fun _=>rfl⟩⟩
theorem Rd.form(h:Rd sz row w v l):∃a c,v=.slice a l.length c:=by
 obtain⟨a,c,rfl,_⟩:=h
 exact⟨a,c,rfl⟩
theorem Y9(hl:∀a,(row a).length=sz):∀l:List α,(Z7 row l).length=l.length*sz
 | []=>by simp[Z7]
 | s::r=>by
  show(row s++Z7 row r).length=_
  rw[List.length_append,Y9 hl r,hl,List.length_cons,Nat.add_mul,Nat.one_mul,Nat.add_comm]
theorem Y3(hl:∀a,(row a).length=sz):∀(l:List α) (j c:Nat) (hj:j<l.length),c<sz→(Z7 row l)[j*sz+c]?=(row l[j])[c]?
 | s::r,0,c,_,hc=>by
  show(row s++Z7 row r)[0*sz+c]?=_
  rw[List.getElem?_append_left (by rw[hl];simpa using hc)]
  simp
 | s::r,j+1,c,hj,hc=>by
  have hj':j<r.length:=by simpa using hj
  show(row s++Z7 row r)[(j+1)*sz+c]?=_
  rw[Nat.add_mul,Nat.one_mul,List.getElem?_append_right (by rw[hl];omega),hl,show j*sz+sz+c-sz=j*sz+c by omega,Y3 hl r j c hj' hc]
  rfl
theorem Z5c(a b:List α):Z7 row (a++b)=Z7 row a++Z7 row b:=by simp[Z7]
theorem Yo(hl:∀a,(row a).length=sz){B:Nat}{T:TypeId}{fr:Nat × Nat}(h:w.heap[B]?=some (.cells ⟨Z7 row l⟩ T fr))(c:Nat):Rd sz row w (.slice (some ⟨B,0,none⟩) l.length c) l:=by
 refine⟨_,c,rfl,.inr ⟨B,0,rfl,hlt h,fun i hi c u hu=>?_⟩⟩
 have hc:c<sz:=by have:=(List.getElem?_eq_some_iff.1 hu).1;rwa [hl] at this
 rw[Nat.zero_add,Z2 h,←Array.getElem?_toList]
 show(Z7 row l)[i*sz+c]?=_
 rw[Y3 hl l i c hi hc];exact hu
theorem Y4.rd{T g0:Nat}(hl:∀a,(row a).length=sz)(h:Y4 T sz row w g0 v l):Rd sz row w v l:=by
 rcases Yv h with⟨rfl,q⟩ | ⟨g,cap,rfl⟩
 ·exact⟨none,0,by rw[q],.inl ⟨List.length_eq_zero_iff.1 q,fun _=>rfl⟩⟩
 ·refine⟨_,cap,rfl,.inr ⟨g,0,rfl,olt h rfl,fun i hi c u hu=>?_⟩⟩
  have hc:c<sz:=by have:=(List.getElem?_eq_some_iff.1 hu).1;rwa [hl] at this
  rw[Nat.zero_add]
  have hb:i*sz+c<l.length*sz:=by
   have:(i+1)*sz≤l.length*sz:=Nat.mul_le_mul_right _ hi
   rw[Nat.add_mul,Nat.one_mul] at this
   omega
  refine(World.ownsRow.cellAt h (i*sz+c) hb).trans ?_
  rw[Y3 hl l i c hi hc];exact hu
theorem RdC.flat(hl:∀a,(row a).length=sz)(hz:0<sz)(h:RdC sz row w b o l):∀j u,(Z7 row l)[j]?=some u→w.cell? ((⟨b,o,none⟩:Addr).add j)=some u:=by
 intro j u hu
 have hj:=(List.getElem?_eq_some_iff.1 hu).1
 rw[Y9 hl] at hj
 have hq:j/sz<l.length:=Nat.div_lt_of_lt_mul (by rwa [Nat.mul_comm])
 have hm:j%sz<sz:=Nat.mod_lt _ hz
 have e:j=j/sz*sz+j%sz:=by rw[Nat.mul_comm];exact(Nat.div_add_mod j sz).symm
 rw[e,Y3 hl _ _ _ hq hm] at hu
 have:=h.cell _ hq _ u hu
 rw[Addr.add_lit]
 rwa [Nat.add_assoc,←e] at this
end
section
variable {α:Type} {P:Program} {ST T:TypeId} {sz bytes:Nat} {row:α→List Value}
theorem Uv.oneAll(E:Uv P ST T sz bytes row)(l:List α):∀u∈Z7 row l,u.oneCell'=true:=by
 intro u hu
 obtain⟨a,_,hu⟩:=List.mem_flatMap.1 hu
 exact E.one a u hu
theorem Y4.many(E:Uv P ST T sz bytes row){w:World}{g0:Nat}{v:Value}{l:List α}(h:Y4 T sz row w g0 v l)(sg:List α)(a:Addr)(c:Nat)(hc:∀j u,(Z7 row sg)[j]?=some u→w.cell? (a.add j)=some u)(hsm:l.length+sg.length≤100000)(hg0:g0≤w.heap.size) :
  ∃v' w1,(Builtin.append_ #[ST,ST] ST #[v,.slice (some a) sg.length c]).run P w=.ok v' w1∧Y4 T sz row w1 g0 v' (l++sg)∧w.grownBy w1 v.ownBlock∧(v'.ownBlock=v.ownBlock∨v'.ownBlock=some w.heap.size):=by
 obtain⟨i0,z,hi,hz0,hz1,hz2,hz3⟩:=E.inf
 have hb:=E.byt
 obtain⟨v',w1,hrun,ho,hg,hp⟩:=Yi (P:=P) w g0 ST ST T i0 z sz bytes E.und hi hz0 hz1 hz2 hz3 E.pos v l.length _ h
  a sg.length c (Z7 row sg) (Y9 E.len sg) hc (E.oneAll sg) (by unfold maxLen;omega) (Nat.le_trans (Nat.mul_le_mul hsm hb) (by omega)) hg0
 refine⟨v',w1,hrun,?_,hg,hp⟩
 unfold Y4
 rw[List.length_append,Z5c]
 exact ho
theorem Y4.push(E:Uv P ST T sz bytes row){w:World}{g0:Nat}{v:Value}{l:List α}(h:Y4 T sz row w g0 v l)(x:α)(b:Nat)(c:Nat)(hx:∀j u,(row x)[j]?=some u→w.cell? ⟨b,j,none⟩=some u)(hsm:l.length<100000)(hg0:g0≤w.heap.size) :
  ∃v' w1,(Builtin.append_ #[ST,ST] ST #[v,.slice (some ⟨b,0,none⟩) 1 c]).run P w=.ok v' w1∧Y4 T sz row w1 g0 v' (l++[x])∧w.grownBy w1 v.ownBlock∧(v'.ownBlock=v.ownBlock∨v'.ownBlock=some w.heap.size)∧∃g cap,v'=.slice (some ⟨g,0,none⟩) (l.length+1) cap:=by
 obtain⟨v',w1,h1,h2,h3,h4⟩:=Y4.many E h [x] ⟨b,0,none⟩ c (fun j u hu=>by
  rw[Addr.add_lit,Nat.zero_add]
  exact hx j u (by simpa [Z7] using hu)) (by rw[List.length_singleton];omega) hg0
 refine⟨v',w1,h1,h2,h3,h4,?_⟩
 rcases Yv h2 with⟨_,q⟩ | ⟨g,cap,rfl⟩
 ·simp at q
 ·exact⟨g,cap,by simp⟩
theorem Z40(w:World):(w.alloc (.cells #[] T)).ownsRow w.heap.size T sz (.slice (some ⟨w.heap.size,0,none⟩) 0 0) 0 []:=World.ownsRow_lit w #[] 0 (Nat.le_refl _) (Nat.zero_le _) (by simp)
theorem Z3z(E:Uv P ST T sz bytes row){w:World}{v:Value}{l:List α}(h:Rd sz row w v l)(hsm:l.length≤100000) :
  ∃v' w1,(Builtin.append_ #[ST,ST] ST #[.slice (some ⟨w.heap.size,0,none⟩) 0 0,v]).run P (w.alloc (.cells #[] T))=.ok v' w1∧Y4 T sz row w1 w.heap.size v' l∧Nw w w1:=by
 have he:=Z40 (T:=T) (sz:=sz) w
 have hN:Nw w (w.alloc (.cells #[] T)):=(Nw.refl w).alloc _
 have hE:Y4 T sz row (w.alloc (.cells #[] T)) w.heap.size (.slice (some ⟨w.heap.size,0,none⟩) 0 0) ([]:List α):=he
 obtain⟨a,c,rfl,⟨rfl,h0⟩ | ⟨b,o,rfl,hc⟩⟩:=h
 ·cases a with
  | none =>
   obtain rfl:=h0 rfl
   obtain⟨i0,z,hi,hz0,hz1,hz2,hz3⟩:=E.inf
   exact⟨_,_,run_append_owned_none (P:=P) (w.alloc (.cells #[] T)) w.heap.size ST ST T i0 sz E.und hi _ 0 [] he,hE,hN⟩
  | some ad =>
   obtain⟨v',w1,h1,h2,h3,_⟩:=Y4.many E hE [] ad c (fun j u hu=>by simp[Z7] at hu) (by simp) hN.sz
   exact⟨v',w1,h1,h2,hN.gro h3 (fun k hk=>Nat.le_of_eq (Option.some.inj hk))⟩
 ·obtain⟨v',w1,h1,h2,h3,_⟩:=Y4.many E hE l ⟨b,o,none⟩ c ((hc.nw hN).flat E.len E.pos) (by simpa using hsm) hN.sz
  exact⟨v',w1,h1,by simpa using h2,hN.gro h3 (fun k hk=>Nat.le_of_eq (Option.some.inj hk))⟩
end
theorem Zr{P:Program}{w:World}{ops:Array Oper}{rest:List Oper}{o:Oper}{a:Act}{Q:Exit→Act→World→Prop}
  (hgd:Region.wanted o (yielded ops a.tmps)=true) (s x:Operand) (t:TypeId) (hop:o.op=Op.call { callee:=Callee.builtin Builtin.append,args:=#[s,x],argTypes:=#[t,t] })
  (v u v':Value) (w':World) (hs:a.eval s=v) (hx:a.eval x=u) (hr:(Builtin.append_ #[t,t] o.type #[v,u]).run P w=.ok v' w') (h:wpList P ops Q rest (a.put o.dst v') w'):wpList P ops Q (o::rest) a w:=by
 refine wpList_step fun _ hK=>?_
 rw[if_pos hgd]
 unfold Oper.wp execOp
 simp only[hop,resolve,invoke,builtin,Sem.run_bind,Sem.run_pure,Result.andThen_ok,List.map_toArray,List.map_cons,List.map_nil,hs,hx,hr]
 exact hK _ _ h
theorem Z39{P:Program}{ops:Array Oper}{o:Oper}{a:Act}{w:World}{K:Act→World→Prop}{Q:Exit→Act→World→Prop}{E:Prop}(hgd:Region.wanted o (yielded ops a.tmps)=true)(s x:Operand)(t:TypeId)
  (ho:o.op=.call { callee:=.builtin .append,args:=#[s,x],argTypes:=#[t,t] }) (v u v':Value) (w':World) (hs:a.eval s=v) (hx:a.eval x=u) (hr:(Builtin.append_ #[t,t] o.type #[v,u]).run P w=.ok v' w')
  (h:K (a.put o.dst v') w'):if Region.wanted o (yielded ops a.tmps)=true then Oper.wp P o a w K Q else E:=by
 rw[if_pos hgd]
 unfold Oper.wp execOp
 simp only[ho,resolve,invoke,builtin,Sem.run_bind,Sem.run_pure,Result.andThen_ok,List.map_toArray,List.map_cons,List.map_nil,hs,hx,hr]
 exact h
structure Wd(S:World→Prop):Type where
 w:World
 h:S w
theorem Z41{P:Program}{id:Nat}{Q:Exit→Act→World→Prop}{a:Act}{w:World}{l:List Oper}(S:World→Prop)(hm:P.follows .mixedOrders=true)(hB:Region.lexB .any l.toArray=true)(hS:S w.drew)
  (h:wpQuiet P l.toArray (fun w'=>∃d:Wd S,w'=d.w) (fun a'=>∀d:Wd S,Q .normal a' d.w) l a):(Code.region id l.toArray true).wp P Q a w:=by
 refine wp_region_quiet (C:=fun w'=>∃d:Wd S,w'=d.w) hm hB ⟨⟨w.drew,hS⟩,rfl⟩ ?_
 have e:(fun a'=>∀w',(∃d:Wd S,w'=d.w)→Q .normal a' w')=(fun a'=>∀d:Wd S,Q .normal a' d.w):=by
  funext a'
  exact propext ⟨fun H d=>H _ ⟨d,rfl⟩,fun H _ ⟨d,hd⟩=>hd▸H d⟩
 rw[e]
 simpa using h
theorem Z0z{P:Program}{f:FuncId}{args:Array Value}{S:World→Prop}(hS:∀a b,S a→Nw a b→S b){d:Wd S}{v:Value}
  (h:Calls P f args d.w fun e w'=>e=.returned v∧Nw d.w w'):Calls P f args d.w fun e w''=>e=.returned v∧∃d':Wd S,w''=d'.w :=
 h.mono fun _ w'' ⟨he,hg⟩=>⟨he,⟨w'',hS _ _ d.h hg⟩,rfl⟩
end Go.Proofs.Ytbefaomgldckdaa
