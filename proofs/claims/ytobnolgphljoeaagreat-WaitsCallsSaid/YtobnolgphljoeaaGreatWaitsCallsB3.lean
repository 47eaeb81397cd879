/- Texts merged: WeM, WeA, R1 -/
import Derived.Test.YtobnolgphljoeaaGreatWaitsCallsB2
set_option linter.unusedVariables false
set_option maxRecDepth 100000
set_option maxHeartbeats 16000000
namespace Go.Proofs.YtobnolgphljoeaaGreat
open Go.RowKit _root_.Go.Proofs.Tryz
theorem V0{x:Int × Int}:∀ {o:List (Int × Int)} {k:Nat},k≤o.length→(∀j,(h:j<o.length)→j<k→Yy o[j] x)→(∀h:k<o.length,¬Yy o[k] x)→((∃h:k<o.length,o[k]=x)→Yv x o=o)∧((¬∃h:k<o.length,o[k]=x)→Yv x o=o.take k++x::o.drop k)
 | [],k,hk,_,_=>by
  obtain rfl:k=0:=by simpa using hk
  exact⟨fun⟨h,_⟩=>absurd h (Nat.lt_irrefl 0),fun _=>rfl⟩
 | a::t,0,_,_,h2=>by
  have n1:¬Yy a x:=h2 (Nat.succ_pos _)
  unfold Yv
  rw[if_neg n1]
  constructor
  ·rintro⟨_,e⟩
   rw[if_pos (show a=x from e)]
  ·intro n
   rw[if_neg (show ¬a=x from fun e=>n ⟨Nat.succ_pos _,e⟩)]
   rfl
 | a::t,k+1,hk,h1,h2=>by
  have l1:Yy a x:=h1 0 (Nat.succ_pos _) (Nat.succ_pos _)
  obtain⟨i1,i2⟩:=V0 (x:=x) (o:=t) (k:=k) (Nat.le_of_succ_le_succ hk) (fun j hj hjk=>h1 (j+1) (Nat.succ_lt_succ hj) (Nat.succ_lt_succ hjk)) (fun h=>h2 (Nat.succ_lt_succ h))
  unfold Yv
  rw[if_pos l1]
  constructor
  ·rintro⟨h,e⟩
   rw[i1 ⟨Nat.lt_of_succ_lt_succ h,e⟩]
  ·intro n
   rw[i2 (fun⟨h,e⟩=>n ⟨Nat.succ_lt_succ h,e⟩)]
   rfl
theorem Z3o{l:List (Int × Int)}{i:Nat}(h:i<l.length):sortE (l.take (i+1))=Yv l[i] (sortE (l.take i)):=by
 unfold sortE
 rw[List.take_succ_eq_append_getElem h,List.foldl_append]
 rfl
theorem Z3b{l:List (Int × Int)}{t:Int}{i:Nat}(h:i<l.length):Ym (l.take (i+1)) t=Ym (l.take i) t++(if l[i].1≠t∧l[i].2≠t then[l[i]] else[]):=by
 unfold Ym
 rw[List.take_succ_eq_append_getElem h,List.filter_append]
 congr 1
 by_cases c:l[i].1≠t∧l[i].2≠t
 ·rw[if_pos c,List.filter_cons,List.filter_nil]
  simp[c.1,c.2]
 ·rw[if_neg c,List.filter_cons,List.filter_nil]
  by_cases d:l[i].1=t
  ·simp[d]
  ·have e:l[i].2=t:=Classical.byContradiction fun e=>c ⟨d,e⟩
   simp[e]
structure ReI(l:List (Int × Int))(a:Int)(out:List Int):Prop where
 srt:out.Pairwise (·<·)
 rch:∀y∈out,Ya l a y
theorem ReI.nil(l:List (Int × Int))(a:Int):ReI l a []:=⟨List.Pairwise.nil,fun _ h=>nomatch h⟩
theorem ReI.put{l:List (Int × Int)}{a:Int}{out out':List Int}(h:ReI l a out){i:Nat}(hi:i<l.length)(hs:l[i].1=a∨l[i].1∈out)(hp:out'.Pairwise (·<·))(hm:∀y,y∈out'↔y=l[i].2∨y∈out):ReI l a out' :=
 ⟨hp,fun y hy=>by
  rcases(hm y).1 hy with e | e
  ·have hl:(l[i].1,l[i].2)∈l:=gM0 hi
   rw[e]
   rcases hs with k | k
   ·rw[k] at hl;exact .single hl
   ·exact .tail (h.rch _ k) hl
  ·exact h.rch y e⟩
theorem ReI.len{l:List (Int × Int)}{a:Int}{out:List Int}(h:ReI l a out):out.length≤l.length:=by
 have hn:out.Nodup:=h.srt.imp (fun {a b} k=>Int.ne_of_lt k)
 have:=Yt (m:=l.map Prod.snd) hn fun y hy=>by
  obtain⟨x,hx⟩:=Z2t (h.rch y hy)
  exact List.mem_map.2 ⟨_,hx,rfl⟩
 simpa using this
def ReC(l:List (Int × Int))(a:Int)(out:List Int)(i:Nat):Prop:=∀j,(h:j<l.length)→j<i→l[j].1=a∨l[j].1∈out→l[j].2∈out
theorem ReC.zero(l:List (Int × Int))(a:Int)(out:List Int):ReC l a out 0:=fun j _ h=>absurd h (Nat.not_lt_zero j)
theorem ReC.succ{l:List (Int × Int)}{a:Int}{out:List Int}{i:Nat}(h:ReC l a out i)(hi:i<l.length)(k:l[i].1=a∨l[i].1∈out→l[i].2∈out):ReC l a out (i+1):=fun j hj hji q=>by
 rcases Nat.lt_or_ge j i with c | c
 ·exact h j hj c q
 ·obtain rfl:j=i:=by omega
  exact k q
theorem ReI.done{l:List (Int × Int)}{a:Int}{out:List Int}(h:ReI l a out)(c:ReC l a out l.length):Z34 l a out :=
 ⟨h.srt,fun y=>Z6u (fun x y hxy q=>by
  obtain⟨j,hj,e⟩:=List.getElem_of_mem hxy
  have:=c j hj hj
  rw[e] at this
  exact this q) h.rch y⟩
theorem Z4l{l:List (Int × Int)}{a b:Int}{n:Nat}(w:Way l a n b):(n=1∧(a,b)∈l)∨∃m x,n=m+1∧Way l a m x∧(x,b)∈l:=by
 induction w with
 | one h=>exact .inl ⟨rfl,h⟩
 | @step a x b n h r ih =>
  rcases ih with⟨e,k⟩ | ⟨m,y,e,k1,k2⟩
  ·exact .inr ⟨1,x,by rw[e],.one h,k⟩
  ·exact .inr ⟨m+1,y,by rw[e],.step h k1,k2⟩
def Lev(l:List (Int × Int))(a:Int)(n:Nat)(x:Int):Prop:=(n=0∧x=a)∨(0<n∧Vh l a x n)
theorem Z2d{l:List (Int × Int)}{a x y:Int}{n:Nat}(h:Lev l a n x)(e:(x,y)∈l):Way l a (n+1) y:=by
 rcases h with⟨rfl,rfl⟩ | ⟨_,f⟩
 ·exact .one e
 ·exact Vv f.1 e
theorem Uu{l:List (Int × Int)}{a y:Int}{n:Nat}(h:Vh l a y (n+1)):∃x,Lev l a n x∧(x,y)∈l:=by
 rcases Z4l h.1 with⟨e,k⟩ | ⟨m,x,e,k1,k2⟩
 ·obtain rfl:n=0:=by omega
  exact⟨a,.inl ⟨rfl,rfl⟩,k⟩
 ·obtain rfl:n=m:=by omega
  refine⟨x,.inr ⟨Yo k1,k1,fun j w=>?_⟩,k2⟩
  have:=h.2 _ (Vv w k2)
  omega
theorem Z65{l:List (Int × Int)}{a:Int}(d:Nat):∀ {n:Nat} {y:Int},Vh l a y (n+1+d)→∃x,Vh l a x (n+1):=by
 induction d with
 | zero=>intro n y h;exact⟨y,h⟩
 | succ d ih =>
  intro n y h
  obtain⟨x,q,_⟩:=Uu (n:=n+1+d) h
  rcases q with⟨e,_⟩ | ⟨_,f⟩
  ·omega
  ·exact ih f
def Z5l(l:List (Int × Int))(a b f:Int):Prop:=(∃n:Nat,f=n∧0<n∧Vh l a b n)∨(f = -1∧¬Ya l a b)
theorem Z5l.of{l:List (Int × Int)}{a b f:Int}(h:Z5l l a b f){n:Nat}(hn:0<n):f=n↔Vh l a b n:=by
 rcases h with⟨m,e,_,hf⟩ | ⟨e,hr⟩
 ·constructor
  ·intro k
   obtain rfl:m=n:=by omega
   exact hf
  ·intro k
   rw[e,Z26 hf k]
 ·constructor
  ·intro k;omega
  ·intro k;exact absurd (Ur k.1) hr
structure LvI(l:List (Int × Int))(a b:Int)(n:Nat)(now seen:List Int):Prop where
 ino:∀x,x∈now↔Lev l a n x
 ise:∀y,y∈seen↔∃m,m≤n∧Way l a m y
 nd:seen.Nodup
 nb:∀m,m≤n→¬Way l a m b
theorem LvI.start(l:List (Int × Int))(a b:Int):LvI l a b 0 [a] [] :=
 ⟨fun x=>by simp[Lev],fun y=>⟨fun h=>(nomatch h),fun⟨m,h1,w⟩=>absurd (Yo w) (by omega)⟩,List.nodup_nil,fun m h w=>absurd (Yo w) (by omega)⟩
theorem LvI.done{l:List (Int × Int)}{a b:Int}{n:Nat}{seen:List Int}(h:LvI l a b n [] seen):¬Ya l a b:=fun r=>by
 obtain⟨m,f⟩:=Z9c r
 have hm:n<m:=Nat.lt_of_not_le fun q=>h.nb m q f.1
 cases n with
 | zero=>exact nomatch (h.ino a).2 (.inl ⟨rfl,rfl⟩)
 | succ n =>
  obtain⟨x,hx⟩:=Z65 (m-(n+1)) (n:=n) (y:=b) (by rw[Nat.add_sub_cancel' (Nat.le_of_lt hm)];exact f)
  exact nomatch (h.ino x).2 (.inr ⟨Nat.succ_pos _,hx⟩)
structure LvJ(l:List (Int × Int))(a b:Int)(n:Nat)(now seen0 seen next:List Int)(i:Nat):Prop where
 top:LvI l a b n now seen0
 sn:seen=seen0++next
 mem:∀y,y∈next↔(∃j,∃h:j<l.length,j<i∧l[j].1∈now∧l[j].2=y)∧y∉seen0
 nd:seen.Nodup
 nb:∀j,(h:j<l.length)→j<i→l[j].1∈now→l[j].2≠b
theorem LvJ.start{l:List (Int × Int)}{a b:Int}{n:Nat}{now seen:List Int}(h:LvI l a b n now seen):LvJ l a b n now seen seen [] 0 :=
 ⟨h,by simp,fun y=>⟨fun q=>(nomatch q),fun⟨⟨j,_,q,_⟩,_⟩=>absurd q (Nat.not_lt_zero j)⟩,h.nd,fun j _ q=>absurd q (Nat.not_lt_zero j)⟩
theorem LvJ.skip{l:List (Int × Int)}{a b:Int}{n:Nat}{now seen0 seen next:List Int}{i:Nat}(h:LvJ l a b n now seen0 seen next i)(hi:i<l.length)(k:l[i].1∈now→l[i].2∈seen):LvJ l a b n now seen0 seen next (i+1):=by
 refine⟨h.top,h.sn,fun y=>?_,h.nd,fun j hj hji hn e=>?_⟩
 ·rw[h.mem y]
  constructor
  ·rintro⟨⟨j,hj,q,r⟩,s⟩
   exact⟨⟨j,hj,by omega,r⟩,s⟩
  ·rintro⟨⟨j,hj,q,r1,r2⟩,s⟩
   rcases Nat.lt_or_ge j i with c | c
   ·exact⟨⟨j,hj,c,r1,r2⟩,s⟩
   ·obtain rfl:j=i:=by omega
    have:=k r1
    rw[r2,h.sn,List.mem_append] at this
    exact(h.mem y).1 (this.resolve_left s)
 ·rcases Nat.lt_or_ge j i with c | c
  ·exact h.nb j hj c hn e
  ·obtain rfl:j=i:=by omega
   have:=k hn
   rw[h.sn,List.mem_append] at this
   rcases this with q | q
   ·obtain⟨m,h1,h2⟩:=(h.top.ise _).1 q
    rw[e] at h2
    exact h.top.nb m h1 h2
   ·obtain⟨⟨j',hj',c',r1,r2⟩,_⟩:=(h.mem _).1 q
    exact h.nb j' hj' c' r1 (by rw[r2,e])
theorem LvJ.push{l:List (Int × Int)}{a b:Int}{n:Nat}{now seen0 seen next:List Int}{i:Nat}(h:LvJ l a b n now seen0 seen next i)(hi:i<l.length)(h1:l[i].1∈now)(h2:l[i].2∉seen)(h3:l[i].2≠b):LvJ l a b n now seen0 (seen++[l[i].2]) (next++[l[i].2]) (i+1):=by
 have n0:l[i].2∉seen0:=fun q=>h2 (by rw[h.sn,List.mem_append];exact .inl q)
 refine⟨h.top,by rw[h.sn,List.append_assoc],fun y=>?_,?_,fun j hj hji hn e=>?_⟩
 ·rw[List.mem_append,List.mem_singleton,h.mem y]
  constructor
  ·rintro(⟨⟨j,hj,q,r⟩,s⟩ | rfl)
   ·exact⟨⟨j,hj,by omega,r⟩,s⟩
   ·exact⟨⟨i,hi,Nat.lt_succ_self i,h1,rfl⟩,n0⟩
  ·rintro⟨⟨j,hj,q,r1,r2⟩,s⟩
   rcases Nat.lt_or_ge j i with c | c
   ·exact .inl ⟨⟨j,hj,c,r1,r2⟩,s⟩
   ·obtain rfl:j=i:=by omega
    exact .inr r2.symm
 ·rw[List.nodup_append]
  exact⟨h.nd,by simp,fun x hx y hy e=>h2 (by rw[List.mem_singleton.1 hy] at e;rw[←e];exact hx)⟩
 ·rcases Nat.lt_or_ge j i with c | c
  ·exact h.nb j hj c hn e
  ·obtain rfl:j=i:=by omega
   exact h3 e
theorem LvJ.found{l:List (Int × Int)}{a b:Int}{n:Nat}{now seen0 seen next:List Int}{i:Nat}(h:LvJ l a b n now seen0 seen next i)(hi:i<l.length)(h1:l[i].1∈now)(h3:l[i].2=b):Vh l a b (n+1):=by
 have hl:(l[i].1,l[i].2)∈l:=gM0 hi
 rw[h3] at hl
 exact⟨Z2d ((h.top.ino _).1 h1) hl,fun m w=>Nat.lt_of_not_le fun q=>h.top.nb m q w⟩
theorem LvJ.next{l:List (Int × Int)}{a b:Int}{n:Nat}{now seen0 seen next:List Int}(h:LvJ l a b n now seen0 seen next l.length):LvI l a b (n+1) next seen:=by
 have hnx:∀y,y∈next↔Vh l a y (n+1):=fun y=>by
  rw[h.mem y]
  constructor
  ·rintro⟨⟨j,hj,_,r1,r2⟩,s⟩
   have hl:(l[j].1,l[j].2)∈l:=gM0 hj
   rw[r2] at hl
   exact⟨Z2d ((h.top.ino _).1 r1) hl,fun m w=>Nat.lt_of_not_le fun q=>s ((h.top.ise y).2 ⟨m,q,w⟩)⟩
  ·intro f
   obtain⟨x,hx,e⟩:=Uu f
   obtain⟨j,hj,ej⟩:=List.getElem_of_mem e
   refine⟨⟨j,hj,hj,by rw[ej];exact(h.top.ino x).2 hx,by rw[ej]⟩,fun q=>?_⟩
   obtain⟨m,hm,w⟩:=(h.top.ise y).1 q
   have:=f.2 m w
   omega
 refine⟨fun y=>?_,fun y=>?_,h.nd,fun m hm w=>?_⟩
 ·rw[hnx y]
  exact⟨fun f=>.inr ⟨Nat.succ_pos n,f⟩,fun f=>f.elim (fun⟨e,_⟩=>absurd e (Nat.succ_ne_zero n)) (fun⟨_,f⟩=>f)⟩
 ·rw[h.sn,List.mem_append,hnx y]
  constructor
  ·rintro(q | q)
   ·obtain⟨m,hm,w⟩:=(h.top.ise y).1 q
    exact⟨m,by omega,w⟩
   ·exact⟨n+1,Nat.le_refl _,q.1⟩
  ·rintro⟨m,hm,w⟩
   by_cases c:∃k,k≤n∧Way l a k y
   ·exact .inl ((h.top.ise y).2 c)
   ·have:m=n+1:=by
     rcases Nat.lt_or_ge n m with q | q
     ·omega
     ·exact absurd ⟨m,q,w⟩ c
    subst this
    exact .inr ⟨w,fun k w'=>Nat.lt_of_not_le fun q=>c ⟨k,q,w'⟩⟩
 ·rcases Nat.lt_or_ge n m with q | q
  ·obtain rfl:m=n+1:=by omega
   obtain⟨k,x,e,w1,w2⟩:∃k x,n+1=k+1∧Lev l a k x∧(x,b)∈l:=by
    have f:Vh l a b (n+1):=⟨w,fun k w'=>Nat.lt_of_not_le fun q=>h.top.nb k q w'⟩
    obtain⟨x,hx,e⟩:=Uu f
    exact⟨n,x,rfl,hx,e⟩
   obtain rfl:k=n:=by omega
   obtain⟨j,hj,ej⟩:=List.getElem_of_mem w2
   exact h.nb j hj hj (by rw[ej];exact(h.top.ino x).2 w1) (by rw[ej])
  ·exact h.top.nb m q w
def CyI(s:List (Int × Int))(i:Nat):Prop:=∀j,(h:j<s.length)→j<i→¬Ya s s[j].1 s[j].1
theorem CyI.zero(s:List (Int × Int)):CyI s 0:=fun j _ h=>absurd h (Nat.not_lt_zero j)
theorem CyI.succ{s:List (Int × Int)}{i:Nat}(h:CyI s i)(hi:i<s.length)(n:¬Ya s s[i].1 s[i].1):CyI s (i+1):=fun j hj hji=>by
 rcases Nat.lt_or_ge j i with c | c
 ·exact h j hj c
 ·obtain rfl:j=i:=by omega
  exact n
theorem CyI.done{s:List (Int × Int)}(h:CyI s s.length):¬∃v,Ya s v v:=fun⟨v,r⟩=>by
 obtain⟨y,e⟩:=Vc r
 obtain⟨j,hj,ej⟩:=List.getElem_of_mem e
 refine h j hj hj ?_
 rw[ej];exact r
theorem CyI.least{s:List (Int × Int)}(hs:Zj s){i:Nat}(h:CyI s i)(hi:i<s.length){v:Int}(r:Ya s v v):s[i].1≤v:=by
 obtain⟨y,e⟩:=Vc r
 obtain⟨j,hj,ej⟩:=List.getElem_of_mem e
 rcases Nat.lt_trichotomy j i with c | c | c
 ·exact absurd (by rw[ej];exact r) (h j hj c)
 ·subst c;rw[ej];exact Int.le_refl _
 ·have:=List.pairwise_iff_getElem.1 hs i j hi hj c
  rw[ej] at this
  unfold Yy at this
  simp only at this
  omega
structure GrI(s:List (Int × Int))(a:Int)(N:Nat)(r:List Int)(last:Int)(n:Nat):Prop where
 far:Vh s last a n
 pos:0<n
 len:r.length+n=N
 la:(a::r).getLast?=some last
 all:∀t,Greedy s a last n t→Greedy s a a N (r++t)
theorem GrI.start{s:List (Int × Int)}{a:Int}{N:Nat}(f:Vh s a a N):GrI s a N [] a N:=⟨f,Yo f.1,by simp,rfl,fun t g=>g⟩
theorem GrI.step{s:List (Int × Int)}(hs:Zj s){a:Int}{N:Nat}{r:List Int}{last:Int}{n:Nat}(h:GrI s a N r last (n+2)){k:Nat}(hk:k<s.length)(h1:s[k].1=last)(h2:Vh s s[k].2 a (n+1))(h3:∀j,(hj:j<s.length)→j<k→¬(s[j].1=last∧Vh s s[j].2 a (n+1))):GrI s a N (r++[s[k].2]) s[k].2 (n+1):=by
 refine⟨h2,Nat.succ_pos n,by have:=h.len;rw[List.length_append,List.length_singleton];omega,by rw[←List.cons_append,List.getLast?_concat],fun t g=>?_⟩
 rw[List.append_assoc]
 refine h.all _ (.step ?_ h2 (fun y hy f=>?_) g)
 ·rw[←h1];exact gM0 hk
 ·obtain⟨j,hj,ej⟩:=List.getElem_of_mem hy
  have hjk:k≤j:=Nat.le_of_not_lt fun q=>h3 j hj q ⟨by rw[ej],by rw[ej];exact f⟩
  rcases Nat.lt_or_eq_of_le hjk with c | c
  ·have:=List.pairwise_iff_getElem.1 hs k j hk hj c
   rw[ej] at this
   unfold Yy at this
   simp only[h1] at this
   omega
  ·subst c;rw[ej];exact Int.le_refl _
theorem GrI.has{s:List (Int × Int)}{a:Int}{N:Nat}{r:List Int}{last:Int}{n:Nat}(h:GrI s a N r last (n+2)):¬∀j,(hj:j<s.length)→¬(s[j].1=last∧Vh s s[j].2 a (n+1)):=fun q=>by
 obtain⟨x,e,f⟩:=Z67 h.far
 obtain⟨j,hj,ej⟩:=List.getElem_of_mem e
 exact q j hj ⟨by rw[ej],by rw[ej];exact f⟩
theorem GrI.done{s:List (Int × Int)}{a:Int}{N:Nat}{r:List Int}{last:Int}(h:GrI s a N r last 1)(hm:∀v,Ya s v v→a≤v)(f:Vh s a a N):V5 s (a::r) true:=by
 have hN:N=r.length+1:=h.len.symm
 have g:Greedy s a a N r:=by
  have:=h.all [] (.last (by
   rcases Z4l h.far.1 with⟨_,k⟩ | ⟨m,x,e,k1,_⟩
   ·exact k
   ·have:=Yo k1;omega))
  rwa [List.append_nil] at this
 subst hN
 exact⟨⟨fun _=>⟨a,Ur f.1⟩,fun _=>rfl⟩,(fun q=>nomatch q),fun _=>⟨a,r,rfl,Ur f.1,hm,f,g⟩⟩
theorem V5.unsort{l:List (Int × Int)}{c:List Int}{b:Bool}(h:V5 (sortE l) c b):V5 l c b:=Vy (fun _=>Y7) h
theorem U3(v v':Value)(l:List (Int × Int))(w:World)(hm:l.length≤100000)(h:Zw w v l)(h':Zw w v' l) :
  Calls prog 11 #[v,v'] w fun e w'=>e=.returned (.bool true)∧Nw w w':=by
 obtain⟨a,c,rfl,hd⟩:=h
 obtain⟨a',c',rfl,hd'⟩:=h'
 have H:=hD0 hd
 have H':=hD0 hd'
 obtain⟨n,hn⟩:∃n,l.length=n:=⟨_,rfl⟩
 have HN:=hD0 hn
 rw[hn] at hm ⊢
 clear hd hd' hn
 go_enter func11,ntmps11
 go_wp2_with fail
 go_loopw [5] (fun i wr=>∃k:Nat,i=.int .i64 k∧k≤n∧Hid (Nw w wr)) (fun i _=>n-(intOf i).toNat)
 case atStart=>exact⟨0,rfl,Nat.zero_le _,hD0 (Nw.refl _)⟩
 case round =>
  obtain⟨k,rfl,hk,HG⟩:=hrel
  by_cases hlt:k<n
  ·have hkl:k<l.length:=by rw[HN.out];exact hlt
   rcases H.out with⟨q,_⟩ | ⟨b,o,rfl,hc⟩
   ·rw[q] at hkl;simp at hkl
   rcases H'.out with⟨q,_⟩ | ⟨b',o',rfl,hc'⟩
   ·rw[q] at hkl;simp at hkl
   obtain⟨x0,x1⟩:=(hc.nw HG.out).eg hkl
   obtain⟨y0,y1⟩:=(hc'.nw HG.out).eg hkl
   have hb:=(hc.nw HG.out).lt
   have hb':=(hc'.nw HG.out).lt
   generalize l[k]=s at *
   obtain⟨s0,s1⟩:=s
   simp only at x0 x1 y0 y1
   have Zr:=Zo hlt
   have hw:=Zn k (k+1) (Nat.le_trans (Nat.le_of_lt hlt) (Nat.le_trans hm (by decide))) rfl
   obtain⟨k1,hk1⟩:∃m,k+1=m:=⟨_,rfl⟩
   have HK1:=hD0 (aI0 hk1 hlt)
   rw[hk1] at hw
   clear hk1 hkl hc hc' hlt
   have t0:∀z,Nw wr z→z.cell? ⟨b,o+k*2,none⟩=some (.int .i64 s0):=fun z g=>g.kp x0
   have t1:∀z,Nw wr z→z.cell? ⟨b,o+k*2+1,none⟩=some (.int .i64 s1):=fun z g=>g.kp x1
   have u0:∀z,Nw wr z→z.cell? ⟨b',o'+k*2,none⟩=some (.int .i64 s0):=fun z g=>g.kp y0
   have u1:∀z,Nw wr z→z.cell? ⟨b',o'+k*2+1,none⟩=some (.int .i64 s1):=fun z g=>g.kp y1
   clear x0 x1 y0 y1
   go_wp2_with fail
   refine Za [] (Nw wr) (by kernel_rfl) ?_
   change Z9 _ _ _ _ _ _ 9 #[false,false,false,false,false,false,false,false,false] _ wr.drew
   obtain⟨y4,hy4⟩:∃y,wr.drew=y:=⟨_,rfl⟩
   rw[hy4]
   have hS0:Nw wr y4:=by rw[←hy4];exact(Nw.refl wr).dr
   clear hy4
   refine Z0 0 rfl (by kernel_rfl) (by kernel_rfl) (by kernel_rfl) (fun v c a w h=>h) ?_
   (first | (refine⟨undef,Or.inr ⟨by rfl,rfl⟩,?_⟩) | (apply Exists.intro;refine⟨Or.inl ⟨by rfl,?_⟩,?_⟩;(intro x hx';go_simp;first | done | with_reducible rfl)))
   (try simp only[Act.put,List.getElem_toArray,List.getElem_cons_zero,List.getElem_cons_succ,List.setIfInBounds_toArray,List.set_cons_zero,List.set_cons_succ])
   refine Z0 1 rfl (by kernel_rfl) (by kernel_rfl) (by kernel_rfl) (fun v c a w h=>h) ?_
   (first | (refine⟨undef,Or.inr ⟨by rfl,rfl⟩,?_⟩) | (apply Exists.intro;refine⟨Or.inl ⟨by rfl,?_⟩,?_⟩;(intro x hx';go_simp;first | done | with_reducible rfl)))
   (try simp only[Act.put,List.getElem_toArray,List.getElem_cons_zero,List.getElem_cons_succ,List.setIfInBounds_toArray,List.set_cons_zero,List.set_cons_succ])
   refine Z0 2 rfl (by kernel_rfl) (by kernel_rfl) (by kernel_rfl) (fun v c a w h=>h) ?_
   (first | (refine⟨undef,Or.inr ⟨by rfl,rfl⟩,?_⟩) | (apply Exists.intro;refine⟨Or.inl ⟨by rfl,?_⟩,?_⟩;(intro x hx';go_simp;first | done | with_reducible rfl)))
   (try simp only[Act.put,List.getElem_toArray,List.getElem_cons_zero,List.getElem_cons_succ,List.setIfInBounds_toArray,List.set_cons_zero,List.set_cons_succ])
   refine Z1 3 rfl (by kernel_rfl) (by kernel_rfl) (by kernel_rfl) (by kernel_rfl) (fun v c a w h=>h) hS0 ?_
   (first | (refine⟨undef,Or.inr ⟨by rfl,rfl⟩,?_⟩) | (apply Exists.intro;refine⟨Or.inl ⟨by rfl,?_⟩,?_⟩;(intro x hx';go_simp;first | done | with_reducible rfl)))
   (try simp only[Act.put,List.getElem_toArray,List.getElem_cons_zero,List.getElem_cons_succ,List.setIfInBounds_toArray,List.set_cons_zero,List.set_cons_succ])
   refine Z0 4 rfl (by kernel_rfl) (by kernel_rfl) (by kernel_rfl) (fun v c a w h=>h) ?_
   (first | (refine⟨undef,Or.inr ⟨by rfl,rfl⟩,?_⟩) | (apply Exists.intro;refine⟨Or.inl ⟨by rfl,?_⟩,?_⟩;(intro x hx';go_simp;first | done | with_reducible rfl)))
   (try simp only[Act.put,List.getElem_toArray,List.getElem_cons_zero,List.getElem_cons_succ,List.setIfInBounds_toArray,List.set_cons_zero,List.set_cons_succ])
   refine Z0 5 rfl (by kernel_rfl) (by kernel_rfl) (by kernel_rfl) (fun v c a w h=>h) ?_
   (first | (refine⟨undef,Or.inr ⟨by rfl,rfl⟩,?_⟩) | (apply Exists.intro;refine⟨Or.inl ⟨by rfl,?_⟩,?_⟩;(intro x hx';go_simp;first | done | with_reducible rfl)))
   (try simp only[Act.put,List.getElem_toArray,List.getElem_cons_zero,List.getElem_cons_succ,List.setIfInBounds_toArray,List.set_cons_zero,List.set_cons_succ])
   refine Z0 6 rfl (by kernel_rfl) (by kernel_rfl) (by kernel_rfl) (fun v c a w h=>h) ?_
   (first | (refine⟨undef,Or.inr ⟨by rfl,rfl⟩,?_⟩) | (apply Exists.intro;refine⟨Or.inl ⟨by rfl,?_⟩,?_⟩;(intro x hx';go_simp;first | done | with_reducible rfl)))
   (try simp only[Act.put,List.getElem_toArray,List.getElem_cons_zero,List.getElem_cons_succ,List.setIfInBounds_toArray,List.set_cons_zero,List.set_cons_succ])
   refine Z1 7 rfl (by kernel_rfl) (by kernel_rfl) (by kernel_rfl) (by kernel_rfl) (fun v c a w h=>h) hS0 ?_
   (first | (refine⟨undef,Or.inr ⟨by rfl,rfl⟩,?_⟩) | (apply Exists.intro;refine⟨Or.inl ⟨by rfl,?_⟩,?_⟩;(intro x hx';go_simp;first | done | with_reducible rfl)))
   (try simp only[Act.put,List.getElem_toArray,List.getElem_cons_zero,List.getElem_cons_succ,List.setIfInBounds_toArray,List.set_cons_zero,List.set_cons_succ])
   refine Z0 8 rfl (by kernel_rfl) (by kernel_rfl) (by kernel_rfl) (fun v c a w h=>h) ?_
   (first | (refine⟨undef,Or.inr ⟨by rfl,rfl⟩,?_⟩) | (apply Exists.intro;refine⟨Or.inl ⟨by rfl,?_⟩,?_⟩;(intro x hx';go_simp;first | done | with_reducible rfl)))
   (try simp only[Act.put,List.getElem_toArray,List.getElem_cons_zero,List.getElem_cons_succ,List.setIfInBounds_toArray,List.set_cons_zero,List.set_cons_succ])
   refine Z5 (by kernel_rfl) ?_ _
   refine NoPanic.normal ?_
   (try simp only[Act.put,List.getElem_toArray,List.getElem_cons_zero,List.getElem_cons_succ,List.setIfInBounds_toArray,List.set_cons_zero,List.set_cons_succ])
   have HG4:=hD0 (HG.out.trans hS0)
   clear hS0 t0 t1 u0 u1
   go_wp2_with fail
   exact⟨⟨k1,rfl,by rw[←HK1.out.1];exact HK1.out.2,HG4⟩,by rw[←HK1.out.1];exact Zk HK1.out.2⟩
  ·obtain rfl:k=n:=Nat.le_antisymm hk (Nat.le_of_not_lt hlt)
   have Zr:¬k<k:=Nat.lt_irrefl k
   clear hlt
   go_wp2_with fail
   go_ret
   exact⟨rfl,HG.out⟩
theorem Z6e(v:Value)(q:List (Int × Int))(w:World)(hl:q.length≤100000)(h:Zw w v q) :
  Calls prog 6 #[v] w fun e w'=>∃v',e=.returned v'∧Nw w w'∧Z6 w' w.heap.size v' q:=by
 obtain⟨v',w1,hrun,hO,hN⟩:=Yu Y0 h hl
 obtain⟨a,c,rfl,h⟩:=h
 have HR:=hD0 hrun
 have HO:=hD0 (aI0 hN hO)
 clear hrun hO hN h
 go_enter func6,ntmps6
 go_wp2_with (at_builtin;refine Z7 (by rfl) (.tmp 3) (.tmp 4) 23 rfl _ _ _ _ rfl rfl HR.out ?_)
 go_ret
 exact⟨_,rfl,HO.out.1,HO.out.2⟩
theorem Z1i{w0:World}{v:Value}{l:List Int}(h:IS w0 v l)(hl:l.length≤100000)(x:Int) :
  Calls prog 36 #[v,.int .i64 x] w0 fun e w'=>e=.returned (.bool (decide (x∈l)))∧Nw w0 w':=by
 have HL:=hD0 h
 obtain⟨la,lc,rfl,h1⟩:=h.box
 have H1:=hD0 h1
 obtain⟨n,hn⟩:∃n,l.length=n:=⟨_,rfl⟩
 have HN:=hD0 hn
 rw[hn] at hl ⊢
 obtain⟨B,hB⟩:∃b,decide (x∈l)=b:=⟨_,rfl⟩
 have HB:=hD0 hB
 rw[hB]
 clear h h1 hn hB
 go_enter func36,ntmps36
 go_wp2_with fail
 go_loopw [5] (fun v wr=>∃k:Nat,v=.int .i64 k∧k≤n∧Hid (x∉l.take k∧Nw w0 wr)) (fun v _=>n-(intOf v).toNat)
 case atStart=>exact⟨0,rfl,Nat.zero_le _,hD0 ⟨by simp,Nw.refl _⟩⟩
 case round =>
  obtain⟨k,rfl,hk,HG⟩:=hrel
  by_cases hlt:k<n
  ·have hkl:k<l.length:=by rw[HN.out];exact hlt
   obtain⟨lg,rfl,_⟩:=H1.out (by omega)
   have cy:=Z1b (HL.out.nw HG.out.2) hkl
   obtain⟨y,hy⟩:∃y,l[k]=y:=⟨_,rfl⟩
   rw[hy] at cy
   have HY:=hD0 (show ∃h:k<l.length,l[k]=y from⟨hkl,hy⟩)
   have Zr:=Zo hlt
   have hw:=Zn k (k+1) (Nat.le_trans (Nat.le_of_lt hlt) (Nat.le_trans hl (by decide))) rfl
   obtain⟨k1,hk1⟩:∃m,k+1=m:=⟨_,rfl⟩
   have HK1:=hD0 (aI0 hk1 hlt)
   rw[hk1] at hw
   clear hk1 hkl hy hlt
   by_cases e:y=x
   ·have d1:(y==x)=true:=by simpa using e
    have HT:=hD0 (show B=true from by
     obtain⟨h1,h2⟩:=HY.out
     rw[←HB.out,decide_eq_true_iff,←e,←h2]
     exact gM0 h1)
    clear e
    go_wp2_with fail
    go_ret
    exact⟨by rw[HT.out];rfl,HG.out.2⟩
   ·have d1:(y==x)=false:=by simpa using e
    have HT:=hD0 (show x∉l.take k1 from by
     obtain⟨h1,h2⟩:=HY.out
     rw[←HK1.out.1,List.take_succ_eq_append_getElem h1,List.mem_append,List.mem_singleton,h2]
     exact fun q=>q.elim HG.out.1 (fun q=>e q.symm))
    clear e
    go_wp2_with fail
    exact⟨⟨k1,rfl,by rw[←HK1.out.1];exact HK1.out.2,hD0 ⟨HT.out,HG.out.2⟩⟩,by rw[←HK1.out.1];exact Zk HK1.out.2⟩
  ·obtain rfl:k=n:=Nat.le_antisymm hk (Nat.le_of_not_lt hlt)
   have Zr:¬k<k:=Nat.lt_irrefl k
   have HT:=hD0 (show B=false from by
    rw[←HB.out,decide_eq_false_iff_not]
    have:=HG.out.1
    rwa [List.take_of_length_le (by rw[HN.out];exact Nat.le_refl _)] at this)
   clear hlt
   go_wp2_with fail
   go_ret
   exact⟨by rw[HT.out];rfl,HG.out.2⟩
theorem Z5d{w0:World}(a b:Int × Int) :
  Calls prog 32 #[egV a,egV b] w0 fun e w'=>e=.returned (.bool (decide (Yy a b)))∧Nw w0 w':=by
 obtain⟨a1,a2⟩:=a
 obtain⟨b1,b2⟩:=b
 have hN:Nw w0 ((w0.alloc (.cells #[.int .i64 a1,.int .i64 a2] 30)).alloc (.cells #[.int .i64 b1,.int .i64 b2] 30)):=((Nw.refl w0).alloc _).alloc _
 have HN:=hD0 hN
 clear hN
 rcases Int.lt_trichotomy a1 b1 with h | h | h
 ·have d:decide (a1<b1)=true:=decide_eq_true h
  have HE:=hD0 (show decide (Yy (a1,a2) (b1,b2))=true from decide_eq_true (.inl h))
  rw[HE.out]
  clear h
  go_enter func32,ntmps32
  go_wp2_with fail
  go_ret
  exact⟨rfl,HN.out⟩
 ·subst h
  have d:decide (a1<a1)=false:=decide_eq_false (Int.lt_irrefl _)
  obtain⟨c,hc⟩:∃c,decide (a2<b2)=c:=⟨_,rfl⟩
  have HE:=hD0 (show decide (Yy (a1,a2) (a1,b2))=c from by
   rw[←hc]
   unfold Yy
   simp[Int.lt_irrefl])
  rw[HE.out]
  go_enter func32,ntmps32
  go_wp2_with fail
  go_ret
  exact⟨rfl,HN.out⟩
 ·have d:decide (a1<b1)=false:=by rw[decide_eq_false_iff_not];omega
  have d2:(a1==b1)=false:=by rw[beq_eq_false_iff_ne];omega
  have HE:=hD0 (show decide (Yy (a1,a2) (b1,b2))=false from by
   rw[decide_eq_false_iff_not]
   unfold Yy
   simp only
   omega)
  rw[HE.out]
  clear h
  go_enter func32,ntmps32
  go_wp2_with fail
  go_ret
  exact⟨rfl,HN.out⟩
theorem Zaa(m:Int):V4 m=false↔m<0∨7≤m:=by
 rw[Bool.eq_false_iff,ne_eq,Vf];omega
theorem Up(m:Int)(w:World):Calls prog 81 #[.int .i64 m] w fun e w'=>e=.returned (.bool (V4 m))∧w=w':=by
 cases h:V4 m with
 | true =>
  rw[Vf] at h
  obtain⟨h0,h1⟩:=h
  have h2:m≤6:=by omega
  go_enter func81,ntmps81
  go_wp2
  go_ret
  exact⟨rfl,rfl⟩
 | false =>
  rw[Zaa] at h
  rcases h with h | h
  ·go_enter func81,ntmps81
   go_wp2
   go_ret
   exact⟨rfl,rfl⟩
  ·have h0:0≤m:=by omega
   have hd:decide (m≤6)=false:=by simp;omega
   go_enter func81,ntmps81
   go_wp2
   go_ret
   exact⟨rfl,rfl⟩
theorem Ys{m:Int}(h:V4 m=true):m=0∨m=1∨m=2∨m=3∨m=4∨m=5∨m=6:=by
 rw[Vf] at h;omega
theorem Z4f(m:Int)(h:V4 m=true)(w:World):Calls prog 81 #[.int .i64 m] w fun e w'=>e=.returned (.bool true)∧w=w':=by
 have:=Up m w;rwa [h] at this
theorem Z4e(m:Int)(h:V4 m=false)(w:World):Calls prog 81 #[.int .i64 m] w fun e w'=>e=.returned (.bool false)∧w=w':=by
 have:=Up m w;rwa [h] at this
def Zb0:List ByteArray:=[⟨#[43,43,43,43,43,43,43]⟩,⟨#[43,43,43,43,43,43,46]⟩,⟨#[43,43,43,46,46,46,46]⟩,⟨#[43,43,46,43,46,43,46]⟩,⟨#[43,43,46,46,46,46,46]⟩,⟨#[43,43,46,43,46,46,46]⟩,⟨#[43,46,46,46,46,46,46]⟩]
def Zb2:List ByteArray:=[⟨#[43,46,46,46,46,46,46]⟩,⟨#[43,43,46,46,46,46,46]⟩,⟨#[43,43,43,46,46,46,46]⟩,⟨#[43,43,46,43,46,46,46]⟩,⟨#[43,43,43,43,43,46,46]⟩,⟨#[43,43,46,43,46,43,46]⟩,⟨#[43,43,43,43,43,43,43]⟩]
theorem Zaf(a:Int)(h:V4 a=true)(w:World):Calls prog 83 #[.int .i64 a] w fun e w'=>e=.returned (.string (Zb0.getD a.toNat ByteArray.empty))∧Nw w w':=by
 rcases Ys h with rfl | rfl | rfl | rfl | rfl | rfl | rfl
 all_goals
  go_enter func83,ntmps83
  go_wp2
  go_ret
  exact⟨rfl,(Nw.refl _).alloc _⟩
theorem Z8a(a:Int)(h:V4 a=true)(w:World):Calls prog 106 #[.int .i64 a] w fun e w'=>e=.returned (.string (Zb2.getD a.toNat ByteArray.empty))∧Nw w w':=by
 rcases Ys h with rfl | rfl | rfl | rfl | rfl | rfl | rfl
 all_goals
  go_enter func106,ntmps106
  go_wp2
  go_ret
  exact⟨rfl,(Nw.refl _).alloc _⟩
theorem Z5a(a b:Int)(ha:V4 a=true)(hb:V4 b=true)(w:World):Calls prog 58 #[.int .i64 a,.int .i64 b] w fun e w'=>e=.returned (.bool (cpI a b))∧Nw w w':=by
 have hr:=Zaf a ha
 rcases Ys ha with rfl | rfl | rfl | rfl | rfl | rfl | rfl<;>rcases Ys hb with rfl | rfl | rfl | rfl | rfl | rfl | rfl
 all_goals
  go_enter func58,ntmps58
  go_wp2_with (first | (go_at_call 81;refine(Z4f _ rfl _).mono ?_;rintro e w' ⟨rfl,rfl⟩) | (go_at_call 83;refine(hr _).mono ?_;rintro e w' ⟨rfl,hg⟩))
  go_ret
  exact⟨rfl,hg⟩
end Go.Proofs.YtobnolgphljoeaaGreat
