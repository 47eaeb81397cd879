/- Texts merged: WbT, WcJ, WcK, WcL -/
import Derived.Test.YtobnolgphljoeaaGreatWaitsCallsB12
import Derived.Deep.LoopGhost
import Derived.ArgAppend
import Derived.WalkMore
set_option linter.unusedVariables false
set_option maxRecDepth 100000
set_option maxHeartbeats 16000000
namespace Go.Proofs.YtobnolgphljoeaaGreat
open Go.RowKit _root_.Go.Proofs.Tryz
structure Uh(F:Int→Prop)(E:List (Int × Int))(s0:Gb)(t:Int)(C:Nat)(s:Gb)(N:Nat):Prop where
 gi:Ui E s
 mono:∀v,s0.pl v≠none→s.pl v≠none
 vis:s.pl t≠none
 fit:∀v,s.pl v≠none→F v
 cnt:N+2*Yr (Vo E s) E.length≤C
section
variable {F:Int→Prop} {E:List (Int × Int)} {s0 s:Gb} {t:Int} {C N:Nat}
theorem U2(s:Gb)(u v:Int):(Zx E s u).pl v≠none↔v=u∨s.pl v≠none:=by
 by_cases q:v=u
 ·subst q;simp[Zx,Zm]
 ·simp[Zx,Zm,q]
theorem Uh.enew(h:Uh F E s0 t C s N)(hs:Zj E)(hF:∀e∈E,F e.2){p:List Int}{v u:Int}(hp:s.path=p++[v]){i:Nat}(hn:s.nx v=some i)(he:E[i]?=some (v,u))(hu:s.pl u=none) :
  Uh F E s0 t C (Zx E (Y3 s v i) u) (N+2)∧Um E (Zx E (Y3 s v i) u)<Um E s:=by
 have hm:=List.mem_of_getElem? he
 obtain⟨it,h1,h2,_⟩:=h.gi.tpos hp
 have hv:s.pl v≠some (-1):=by rw[h2];intro q;injection q with q;omega
 have g1:=h.gi.inc1 hs hn he hv
 have g2:Ui E (Zx E (Y3 s v i) u):=g1.new hs hu (fun a b q=>by
  have q':a=v∧b=u:=Classical.not_not.1 q
  exact⟨q'.2,p,by show s.path=_;rw[hp,q'.1]⟩) (fun j a ha=>by
  rcases h.gi.toEnd hp (show s.op[j]?=some a from ha)with e | e
  ·rw[e];exact .single hm
  ·exact .tail e hm)
 have hun:(Y3 s v i).nx u=none:=(g1.nxn u).2 hu
 have c1:=Ul (E:=E) hs hn he
 have c2:Vo E (Zx E (Y3 s v i) u)=Vo E (Y3 s v i):=Z45 hs hun
 have hc:=h.cnt
 refine⟨⟨g2,fun x hx=>(U2 _ u x).2 (.inr (h.mono x hx)),(U2 _ u t).2 (.inr h.vis),fun x hx=>?_,by rw[c2];omega⟩,?_⟩
 ·rcases(U2 _ u x).1 hx with e | e
  ·rw[e];exact hF _ hm
  ·exact h.fit x e
 ·unfold Um
  rw[c2]
  show 2*_+(s.path++[u]).length<_
  rw[List.length_append,List.length_singleton]
  omega
theorem Uh.eshut(h:Uh F E s0 t C s N)(hs:Zj E){p:List Int}{v u:Int}(hp:s.path=p++[v]){i:Nat}(hn:s.nx v=some i)(he:E[i]?=some (v,u))(hu:s.pl u=some (-1)) :
  Uh F E s0 t C (Y3 s v i) N∧Um E (Y3 s v i)<Um E s:=by
 obtain⟨it,h1,h2,_⟩:=h.gi.tpos hp
 have hv:s.pl v≠some (-1):=by rw[h2];intro q;injection q with q;omega
 have g1:=h.gi.inc1 hs hn he hv
 have g2:Ui E (Y3 s v i):=g1.shut hu (fun a b q=>(Classical.not_not.1 q).2)
 have c1:=Ul (E:=E) hs hn he
 have hc:=h.cnt
 refine⟨⟨g2,h.mono,h.vis,h.fit,by omega⟩,?_⟩
 unfold Um
 show 2*_+s.path.length<_
 omega
theorem Uh.etie(h:Uh F E s0 t C s N)(hs:Zj E){p:List Int}{v u:Int}(hp:s.path=p++[v]){i:Nat}(hn:s.nx v=some i)(he:E[i]?=some (v,u)){q:Nat}(hu:s.pl u=some (q:Int)) :
  ∃K k0 K',s.kn=K++k0::K'∧k0.f≤q∧(∀k∈K',q<k.f)∧Uh F E s0 t C (Ug (Y3 s v i) K k0) N∧Um E (Ug (Y3 s v i) K k0)<Um E s:=by
 obtain⟨it,h1,h2,_⟩:=h.gi.tpos hp
 have hv:s.pl v≠some (-1):=by rw[h2];intro q;injection q with q;omega
 have g1:=h.gi.inc1 hs hn he hv
 have hq:=(h.gi.at' u q).1 hu
 obtain⟨K,k0,K',hk,k1,k2⟩:=h.gi.cut (List.getElem?_eq_some_iff.1 hq).1
 have g2:Ui E (Ug (Y3 s v i) K k0):=g1.tie hp hq (List.mem_of_getElem? he) (fun a b q=>Classical.not_not.1 q) hk k1 k2
 have c1:=Ul (E:=E) hs hn he
 have hc:=h.cnt
 have hx:Vo E (Ug (Y3 s v i) K k0)=Vo E (Y3 s v i):=Z3e rfl
 refine⟨K,k0,K',hk,k1,k2,⟨g2,h.mono,h.vis,h.fit,by rw[hx];omega⟩,?_⟩
 unfold Um
 rw[hx]
 show 2*_+s.path.length<_
 omega
theorem GI.lastK(g:Ui E s){p:List Int}{v:Int}(hp:s.path=p++[v]):∃K k0,s.kn=K++[k0]:=by
 obtain⟨it,h1,_,_⟩:=g.tpos hp
 obtain⟨k,hk,_⟩:=g.zer (fun h=>by rw[h] at h1;simp at h1)
 rcases List.eq_nil_or_concat s.kn with e | ⟨K,k0,e⟩
 ·rw[e] at hk;cases hk
 ·exact⟨K,k0,by rw[e,List.concat_eq_append]⟩
theorem Uh.lback(h:Uh F E s0 t C s N)(hs:Zj E){p:List Int}{v:Int}(hp:s.path=p++[v])(hf:∀w,(v,w)∈E→ExG E s v w){K:List Kn}{k0:Kn}(hk:s.kn=K++[k0]){it:Nat}(ht:s.pl v=some (it:Int))(hlt:k0.f<it) :
  Uh F E s0 t C (Zu s p) N∧Um E (Zu s p)<Um E s:=by
 have hi:=h.gi.inc
 rw[hk,List.pairwise_append] at hi
 have g2:Ui E (Zu s p):=h.gi.back hp hf ((h.gi.at' v it).1 ht) (fun k hkm=>by
  rw[hk] at hkm
  rcases List.mem_append.1 hkm with q | q
  ·have:=hi.2.2 k q k0 (by simp);omega
  ·rw[List.mem_singleton.1 q];omega)
 have hx:Vo E (Zu s p)=Vo E s:=Z3e rfl
 refine⟨⟨g2,h.mono,h.vis,h.fit,by rw[hx];exact h.cnt⟩,?_⟩
 unfold Um
 rw[hx,hp]
 show 2*_+p.length<_
 simp
theorem Uh.lclose(h:Uh F E s0 t C s N)(hs:Zj E){p:List Int}{v:Int}(hp:s.path=p++[v])(hf:∀w,(v,w)∈E→ExG E s v w){K:List Kn}{k0:Kn}(hk:s.kn=K++[k0])(ht:s.pl v=some (k0.f:Int)){m:Int}(hm:m∈s.op.drop k0.f)(hmm:∀x∈s.op.drop k0.f,m≤x) :
  Uh F E s0 t C (Zp s p K k0 m) N∧Um E (Zp s p K k0 m)<Um E s:=by
 have g2:Ui E (Zp s p K k0 m):=h.gi.close hp hf hk ((h.gi.at' v k0.f).1 ht) hm hmm
 have hx:Vo E (Zp s p K k0 m)=Vo E s:=Z3e rfl
 have hpl:∀x,(Zp s p K k0 m).pl x≠none↔s.pl x≠none:=fun x=>by
  show(if x∈s.op.drop k0.f then some (-1)else s.pl x)≠none↔_
  by_cases c:x∈s.op.drop k0.f
  ·rw[if_pos c]
   obtain⟨j,hj,e⟩:=List.getElem_of_mem (List.mem_of_mem_drop c)
   rw[(h.gi.at' x j).2 (by rw[List.getElem?_eq_getElem hj,e])]
   simp
  ·rw[if_neg c]
 refine⟨⟨g2,fun x hx=>(hpl x).2 (h.mono x hx),(hpl t).2 h.vis,fun x hx=>h.fit x ((hpl x).1 hx),by rw[hx];exact h.cnt⟩,?_⟩
 unfold Um
 rw[hx,hp]
 show 2*_+p.length<_
 simp
theorem GI.lastF(g:Ui E s){p:List Int}{v:Int}(hp:s.path=p++[v]){K:List Kn}{k0:Kn}(hk:s.kn=K++[k0]):∃it:Nat,s.pl v=some (it:Int)∧k0.f≤it∧it<s.op.length:=by
 obtain⟨it,h1,h2,h3⟩:=g.tpos hp
 exact⟨it,h2,h3 k0 (by rw[hk];simp),(List.getElem?_eq_some_iff.1 h1).1⟩
theorem Uh.first(g:Ui E s)(hs:Zj E)(hp:s.path=[])(hft:∀v,s.pl v≠none→F v)(ht:F t)(hn:s.pl t=none)(hC:N+2+2*Yr (Vo E s) E.length≤C):Uh F E s t C (Zx E s t) (N+2):=by
 have ho:=(g.done hp).1
 have g2:Ui E (Zx E s t):=g.new hs hn (fun v w q=>absurd trivial q) (fun i a ha=>by rw[ho] at ha;simp at ha)
 refine⟨g2,fun v hv=>(U2 _ t v).2 (.inr hv),(U2 _ t t).2 (.inl rfl),fun v hv=>?_,by rw[Z45 hs ((g.nxn t).2 hn)];exact hC⟩
 rcases(U2 _ t v).1 hv with e | e
 ·rw[e];exact ht
 ·exact hft v e
theorem Uh.again(g:Ui E s)(hft:∀v,s.pl v≠none→F v)(hn:s.pl t≠none)(hC:N+2*Yr (Vo E s) E.length≤C):Uh F E s t C s N:=⟨g,fun _ h=>h,hn,hft,hC⟩
end
structure FrI(W0:World)(o:Nat)(ev:Value)(E:List (Int × Int))(s0:Gb)(t:Int)(C:Nat)(s:Gb)(N:Nat)(w:World):Prop where
 wk:Wk W0 w o ev E s N
 fr:Uh Zc E s0 t C s N
section
variable {W0 w w':World} {o N:Nat} {ev:Value} {E:List (Int × Int)} {s0 s:Gb} {t:Int} {C:Nat}
theorem Z3k(h:Wk W0 w o ev E s N)(g:Ui E s)(hs:Zj E)(hl:E.length≤100000)(hp:s.path=[])(hft:∀v,s.pl v≠none→Zc v)(ht:Zc t)(hC:N+2+2*Yr (Vo E s) E.length≤C)(hCb:C≤100000) :
  Calls prog 65 #[.pointer (some ⟨o,0,none⟩),.int .i64 t] w fun e w'=>e=.returned (.tuple #[])∧∃s1 N1,FrI W0 o ev E s t C s1 N1 w':=by
 cases hn:s.pl t with
 | none =>
  refine(Z2f h (by omega) hl hs ht hn).mono ?_
  rintro e w' ⟨rfl,k⟩
  exact⟨rfl,_,_,k,Uh.first g hs hp hft ht hn hC⟩
 | some q =>
  have hn':s.pl t≠none:=by rw[hn];simp
  refine(Z0u h ht ((g.done hp).2.2 t hn')).mono ?_
  rintro e w' ⟨rfl,k⟩
  exact⟨rfl,_,_,k,Uh.again g hft hn' (by omega)⟩
theorem Z56{v u:Int}{i:Nat}(h:Wk W0 w o ev E (Y3 s v i) N)(hs:Zj E)(hl:E.length≤100000)(hF:∀e∈E,Zc e.1∧Zc e.2)(f:Uh Zc E s0 t C s N)(hCb:C≤100000){p:List Int}(hp:s.path=p++[v])(hn:s.nx v=some i)(he:E[i]?=some (v,u)) :
  Calls prog 65 #[.pointer (some ⟨o,0,none⟩),.int .i64 u] w fun e w'=>e=.returned (.tuple #[])∧∃s1 N1,FrI W0 o ev E s0 t C s1 N1 w'∧Um E s1<Um E s:=by
 have hu:=(hF _ (List.mem_of_getElem? he)).2
 have c1:=Ul (E:=E) hs hn he
 have hc:=f.cnt
 cases hq:s.pl u with
 | none =>
  obtain⟨f1,m1⟩:=f.enew hs (fun e he=>(hF e he).2) hp hn he hq
  refine(Z2f h (by omega) hl hs hu hq).mono ?_
  rintro e w' ⟨rfl,k⟩
  exact⟨rfl,_,_,⟨k,f1⟩,m1⟩
 | some q =>
  rcases f.gi.cl u q hq with x | x
  ·subst x
   obtain⟨f1,m1⟩:=f.eshut hs hp hn he hq
   refine(Z0u h hu hq).mono ?_
   rintro e w' ⟨rfl,k⟩
   exact⟨rfl,_,_,⟨k,f1⟩,m1⟩
  ·obtain⟨j,rfl⟩:=Int.eq_ofNat_of_zero_le x
   obtain⟨K,k0,K',hk,k1,k2,f1,m1⟩:=f.etie hs hp hn he hq
   refine(Z57 h (by omega) hu hq hk k1 k2).mono ?_
   rintro e w' ⟨rfl,k⟩
   exact⟨rfl,_,_,⟨k,f1⟩,m1⟩
theorem Z0s(h:Wk W0 w o ev E s N)(hs:Zj E)(f:Uh Zc E s0 t C s N)(hCb:C≤100000){p:List Int}{v:Int}(hp:s.path=p++[v])(hf:∀w,(v,w)∈E→ExG E s v w) :
  Calls prog 66 #[.pointer (some ⟨o,0,none⟩),.int .i64 v] w fun e w'=>e=.returned (.tuple #[])∧∃s1 N1,FrI W0 o ev E s0 t C s1 N1 w'∧Um E s1<Um E s:=by
 have hc:=f.cnt
 obtain⟨K,k0,hk⟩:=f.gi.lastK hp
 obtain⟨it,h1,h2,h3⟩:=f.gi.lastF hp hk
 have hv:=f.fit v (by rw[h1];simp)
 have hfit:∀x∈s.op,Zc x∧s.pl x≠none:=fun x hx=>by
  obtain⟨j,hj,e⟩:=List.getElem_of_mem hx
  have e2:=(f.gi.at' x j).2 (by rw[List.getElem?_eq_getElem hj,e])
  have e3:s.pl x≠none:=by rw[e2];simp
  exact⟨f.fit x e3,e3⟩
 rcases Nat.lt_or_eq_of_le h2 with q | q
 ·obtain⟨f1,m1⟩:=f.lback hs hp hf hk h1 q
  refine(Z3i h (by omega) hp hv hk h1 q).mono ?_
  rintro e w' ⟨rfl,k⟩
  exact⟨rfl,_,_,⟨k,f1⟩,m1⟩
 ·subst q
  cases hlp:k0.lp with
  | true =>
   refine(Z3j h (by omega) hp hv hk hlp h1 h3 hfit).mono ?_
   rintro e w' ⟨rfl,m,a1,a2,k⟩
   obtain⟨f1,m1⟩:=f.lclose hs hp hf hk h1 a1 a2
   exact⟨rfl,_,_,⟨k,f1⟩,m1⟩
  | false =>
   refine(Z53 h (by omega) hp hv hk hlp h1 h3 hfit).mono ?_
   rintro e w' ⟨rfl,m,a1,a2,k⟩
   obtain⟨f1,m1⟩:=f.lclose hs hp hf hk h1 a1 a2
   exact⟨rfl,_,_,⟨k,f1⟩,m1⟩
theorem Z28(h:Wk W0 w o ev E s N)(g:Ui E s)(hs:Zj E)(hl:E.length≤100000)(hF:∀e∈E,Zc e.1∧Zc e.2)(hp:s.path=[])(hft:∀v,s.pl v≠none→Zc v)(ht:Zc t)(hC:N+2+2*Yr (Vo E s) E.length≤C)(hCb:C≤100000) :
  Calls prog 45 #[.pointer (some ⟨o,0,none⟩),.int .i64 t] w fun e w'=>e=.returned (.tuple #[])∧∃s1 N1,FrI W0 o ev E s t C s1 N1 w'∧s1.path=[]:=by
 have HM:=hD0 (Z3k h g hs hl hp hft ht hC hCb)
 have HA:=hD0 (aI0 hs (aI0 hl (aI0 hF hCb)))
 have hed:Zw W0 ev E:=by obtain⟨_,_,_,_,_,k⟩:=h;exact k.ed
 obtain⟨ea,ec,rfl,hed'⟩:=hed
 have HD:=hD0 hed'
 clear h g hs hF hp hft ht hC hCb hed'
 go_enter func45,ntmps45
 go_wp2_with fail
 refine HM.out.mono ?_
 rintro e w1 ⟨rfl,s1,N1,hI1⟩
 have HI1:=hD0 hI1
 clear hI1 HM
 go_wp2_with fail
 go_loopg [4] (Um E s1) (fun k v wr=>∃s' N',Hid (FrI W0 o (.slice ea E.length ec) E s t C s' N' wr∧Um E s'=k))
 case atStart=>exact⟨s1,N1,HI1.out,rfl⟩
 case round =>
  obtain⟨s',N',HI⟩:=hrel
  obtain⟨mb,pb,vp,vo,vk,hk⟩:=HI.out.1.wk
  obtain⟨pa,pc,rfl,hpa⟩:=hk.pa.box
  obtain⟨c0,c1,c2,c3,c4,c5,c6,c7⟩:=hk.c
  have hol:=hk.ol
  rcases List.eq_nil_or_concat s'.path with hp | ⟨p,v,hp⟩
  ·have hz:s'.path.length=0:=by rw[hp];rfl
   rw[hz] at c3
   have HE:=hD0 (aI0 HI.out.1 hp)
   clear hk hpa c0 c1 c2 c4 c5 c6 c7 hz hp HI
   go_wp2
   refine bodyPost_end (results_none rfl _ _ _) rfl ?_
   exact⟨rfl,s',N',HE.out.1,HE.out.2⟩
  ·rw[List.concat_eq_append] at hp
   have hpl:s'.path.length=p.length+1:=by rw[hp];simp
   obtain⟨ga,rfl,_⟩:=hpa (by omega)
   obtain⟨n1,hn1⟩:∃n,p.length=n:=⟨_,rfl⟩
   obtain⟨nn,hnn⟩:∃n,s'.path.length=n:=⟨_,rfl⟩
   have hcv:wr.cell? ⟨ga,n1,none⟩=some (.int .i64 v):=by
    have:=IS.cell hk.pa n1 (by omega)
    rw[this,List.getD_eq_getElem?_getD,hp,←hn1];simp
   rw[hnn] at hpl c3
   rw[hn1] at hpl
   have hd1:=V3 nn n1 (by have:=hk.bd.1;have:=HI.out.1.fr.cnt;have:=HA.out.2.2.2;omega) hpl
   have hni:n1<nn:=by omega
   have hni':=Zo hni
   have hnpos:0<nn:=by omega
   have hnpos':(0:Int)<(nn:Int):=by omega
   have hvf:Zc v:=by
    obtain⟨it,q1,q2,_⟩:=HI.out.1.fr.gi.tpos hp
    exact HI.out.1.fr.fit v (by rw[q2];simp)
   obtain⟨i,hi⟩:∃i,s'.nx v=some i:=by
    obtain⟨it,q1,q2,_⟩:=HI.out.1.fr.gi.tpos hp
    cases q:s'.nx v with
    | none=>rw[(HI.out.1.fr.gi.nxn v).1 q] at q2;cases q2
    | some i=>exact⟨i,rfl⟩
   have hii:=HI.out.1.fr.gi.lo v i hi
   have hgl:=hk.pa.glt
   have HK:=hD0 hk
   have HP:=hD0 (aI0 hp (aI0 hi (aI0 hii hvf)))
   have t3:∀x,Nw wr x→x.cell? ⟨o,3,none⟩=some (.slice (some ⟨ga,0,none⟩) nn pc):=fun x g=>g.kp c3
   have tv:∀x,Nw wr x→x.cell? ⟨ga,n1,none⟩=some (.int .i64 v):=fun x g=>g.kp hcv
   clear hk hpa hpl hn1 hnn hp hi hii hvf c0 c1 c2 c4 c5 c6 c7
   go_wp2_with fail
   refine Za [] (Nw wr) (by kernel_rfl) ?_
   change Z9 _ _ _ _ _ _ 13 #[false,false,false,false,false,false,false,false,false,false,false,false,false] _ wr.drew
   obtain⟨y0,hy0⟩:∃y,wr.drew=y:=⟨_,rfl⟩
   rw[hy0]
   have hS0:Nw wr y0:=by rw[←hy0];exact(Nw.refl wr).dr
   clear hy0 c3 hcv hol hgl
   refine Z0 0 rfl (by kernel_rfl) (by kernel_rfl) (by kernel_rfl) (fun v c a w h=>h) ?_
   (first | (refine⟨undef,Or.inr ⟨by rfl,rfl⟩,?_⟩) | (apply Exists.intro;refine⟨Or.inl ⟨by rfl,?_⟩,?_⟩;(intro x hx';go_simp;first | done | with_reducible rfl)))
   (try simp only[Act.put,List.getElem_toArray,List.getElem_cons_zero,List.getElem_cons_succ,List.setIfInBounds_toArray,List.set_cons_zero,List.set_cons_succ])
   refine Z0 1 rfl (by kernel_rfl) (by kernel_rfl) (by kernel_rfl) (fun v c a w h=>h) ?_
   (first | (refine⟨undef,Or.inr ⟨by rfl,rfl⟩,?_⟩) | (apply Exists.intro;refine⟨Or.inl ⟨by rfl,?_⟩,?_⟩;(intro x hx';go_simp;first | done | with_reducible rfl)))
   (try simp only[Act.put,List.getElem_toArray,List.getElem_cons_zero,List.getElem_cons_succ,List.setIfInBounds_toArray,List.set_cons_zero,List.set_cons_succ])
   refine Z0 2 rfl (by kernel_rfl) (by kernel_rfl) (by kernel_rfl) (fun v c a w h=>h) ?_
   (first | (refine⟨undef,Or.inr ⟨by rfl,rfl⟩,?_⟩) | (apply Exists.intro;refine⟨Or.inl ⟨by rfl,?_⟩,?_⟩;(intro x hx';go_simp;first | done | with_reducible rfl)))
   (try simp only[Act.put,List.getElem_toArray,List.getElem_cons_zero,List.getElem_cons_succ,List.setIfInBounds_toArray,List.set_cons_zero,List.set_cons_succ])
   refine Z1 3 rfl (by kernel_rfl) (by kernel_rfl) (by kernel_rfl) (by kernel_rfl) (fun v c a w h=>h) hS0 ?_
   (first | (refine⟨undef,Or.inr ⟨by rfl,rfl⟩,?_⟩) | (apply Exists.intro;refine⟨Or.inl ⟨by rfl,?_⟩,?_⟩;(intro x hx';go_simp;first | done | with_reducible rfl)))
   (try simp only[Act.put,List.getElem_toArray,List.getElem_cons_zero,List.getElem_cons_succ,List.setIfInBounds_toArray,List.set_cons_zero,List.set_cons_succ])
   refine Z0 4 rfl (by kernel_rfl) (by kernel_rfl) (by kernel_rfl) (fun v c a w h=>h) ?_
   (first | (refine⟨undef,Or.inr ⟨by rfl,rfl⟩,?_⟩) | (apply Exists.intro;refine⟨Or.inl ⟨by rfl,?_⟩,?_⟩;(intro x hx';go_simp;first | done | with_reducible rfl)))
   (try simp only[Act.put,List.getElem_toArray,List.getElem_cons_zero,List.getElem_cons_succ,List.setIfInBounds_toArray,List.set_cons_zero,List.set_cons_succ])
   refine Z0 5 rfl (by kernel_rfl) (by kernel_rfl) (by kernel_rfl) (fun v c a w h=>h) ?_
   (first | (refine⟨undef,Or.inr ⟨by rfl,rfl⟩,?_⟩) | (apply Exists.intro;refine⟨Or.inl ⟨by rfl,?_⟩,?_⟩;(intro x hx';go_simp;first | done | with_reducible rfl)))
   (try simp only[Act.put,List.getElem_toArray,List.getElem_cons_zero,List.getElem_cons_succ,List.setIfInBounds_toArray,List.set_cons_zero,List.set_cons_succ])
   refine Z0 6 rfl (by kernel_rfl) (by kernel_rfl) (by kernel_rfl) (fun v c a w h=>h) ?_
   (first | (refine⟨undef,Or.inr ⟨by rfl,rfl⟩,?_⟩) | (apply Exists.intro;refine⟨Or.inl ⟨by rfl,?_⟩,?_⟩;(intro x hx';go_simp;first | done | with_reducible rfl)))
   (try simp only[Act.put,List.getElem_toArray,List.getElem_cons_zero,List.getElem_cons_succ,List.setIfInBounds_toArray,List.set_cons_zero,List.set_cons_succ])
   refine Z1 7 rfl (by kernel_rfl) (by kernel_rfl) (by kernel_rfl) (by kernel_rfl) (fun v c a w h=>h) hS0 ?_
   (first | (refine⟨undef,Or.inr ⟨by rfl,rfl⟩,?_⟩) | (apply Exists.intro;refine⟨Or.inl ⟨by rfl,?_⟩,?_⟩;(intro x hx';go_simp;first | done | with_reducible rfl)))
   (try simp only[Act.put,List.getElem_toArray,List.getElem_cons_zero,List.getElem_cons_succ,List.setIfInBounds_toArray,List.set_cons_zero,List.set_cons_succ])
   refine Z0 8 rfl (by kernel_rfl) (by kernel_rfl) (by kernel_rfl) (fun v c a w h=>h) ?_
   (first | (refine⟨undef,Or.inr ⟨by rfl,rfl⟩,?_⟩) | (apply Exists.intro;refine⟨Or.inl ⟨by rfl,?_⟩,?_⟩;(intro x hx';go_simp;first | done | with_reducible rfl)))
   (try simp only[Act.put,List.getElem_toArray,List.getElem_cons_zero,List.getElem_cons_succ,List.setIfInBounds_toArray,List.set_cons_zero,List.set_cons_succ])
   refine Z0 9 rfl (by kernel_rfl) (by kernel_rfl) (by kernel_rfl) (fun v c a w h=>h) ?_
   (first | (refine⟨undef,Or.inr ⟨by rfl,rfl⟩,?_⟩) | (apply Exists.intro;refine⟨Or.inl ⟨by rfl,?_⟩,?_⟩;(intro x hx';go_simp;first | done | with_reducible rfl)))
   (try simp only[Act.put,List.getElem_toArray,List.getElem_cons_zero,List.getElem_cons_succ,List.setIfInBounds_toArray,List.set_cons_zero,List.set_cons_succ])
   refine Z0 10 rfl (by kernel_rfl) (by kernel_rfl) (by kernel_rfl) (fun v c a w h=>h) ?_
   (first | (refine⟨undef,Or.inr ⟨by rfl,rfl⟩,?_⟩) | (apply Exists.intro;refine⟨Or.inl ⟨by rfl,?_⟩,?_⟩;(intro x hx';go_simp;first | done | with_reducible rfl)))
   (try simp only[Act.put,List.getElem_toArray,List.getElem_cons_zero,List.getElem_cons_succ,List.setIfInBounds_toArray,List.set_cons_zero,List.set_cons_succ])
   refine Z1 11 rfl (by kernel_rfl) (by kernel_rfl) (by kernel_rfl) (by kernel_rfl) (fun v c a w h=>h) hS0 ?_
   (first | (refine⟨undef,Or.inr ⟨by rfl,rfl⟩,?_⟩) | (apply Exists.intro;refine⟨Or.inl ⟨by rfl,?_⟩,?_⟩;(intro x hx';go_simp;first | done | with_reducible rfl)))
   (try simp only[Act.put,List.getElem_toArray,List.getElem_cons_zero,List.getElem_cons_succ,List.setIfInBounds_toArray,List.set_cons_zero,List.set_cons_succ])
   refine Z0 12 rfl (by kernel_rfl) (by kernel_rfl) (by kernel_rfl) (fun v c a w h=>h) ?_
   (first | (refine⟨undef,Or.inr ⟨by rfl,rfl⟩,?_⟩) | (apply Exists.intro;refine⟨Or.inl ⟨by rfl,?_⟩,?_⟩;(intro x hx';go_simp;first | done | with_reducible rfl)))
   (try simp only[Act.put,List.getElem_toArray,List.getElem_cons_zero,List.getElem_cons_succ,List.setIfInBounds_toArray,List.set_cons_zero,List.set_cons_succ])
   refine Z5 (by kernel_rfl) ?_ _
   refine NoPanic.normal ?_
   (try simp only[Act.put,List.getElem_toArray,List.getElem_cons_zero,List.getElem_cons_succ,List.setIfInBounds_toArray,List.set_cons_zero,List.set_cons_succ])
   clear t3 tv
   have hk:=HK.out.nwr hS0
   have hlk:=hk.mn.look_val HP.out.2.2.2 (x:=(i:Int)) (by unfold fnx;rw[HP.out.2.1];rfl)
   obtain⟨c0,c1,c2,c3,c4,c5,c6,c7⟩:=hk.c
   have hol:=hk.ol
   have hfz:=hk.fz
   have HK0:=hD0 hk
   clear hS0 HK hk c2 c3 c4 c5 c6 c7
   obtain⟨nE,hnE⟩:∃n,E.length=n:=⟨_,rfl⟩
   rw[hnE] at c0
   by_cases hin:i<E.length
   ·obtain⟨e,he⟩:∃e,E[i]=e:=⟨_,rfl⟩
    rcases HD.out with⟨q,_⟩ | ⟨eb,eo,rfl,hrc⟩
    ·rw[q] at hin;simp at hin
    ·obtain⟨x0,x1⟩:=(hrc.nw HK0.out.nw).eg hin
     have hebl:=(hrc.nw HK0.out.nw).lt
     rw[he] at x0 x1
     have he':E[i]?=some e:=by rw[List.getElem?_eq_getElem hin,he]
     obtain⟨ex,eu⟩:=e
     simp only at x0 x1
     have hin1:i<nE:=by rw[←hnE];exact hin
     have hin2:=Zo hin1
     have b1:((i:Int)==(nE:Int))=false:=by simp;omega
     have b2:(i==nE)=false:=by simp;omega
     have b3:¬i=nE:=by omega
     by_cases hx:ex=v
     ·subst hx
      have HEe:=hD0 he'
      clear he he' hin
      obtain⟨w5,hr5,hm5,hg5⟩:=HK0.out.mn.set (by have:=HI.out.1.fr.cnt;have:=HA.out.2.2.2;omega) HP.out.2.2.2 ((i+1:Nat):Int) (by unfold fnx;rw[HP.out.2.1];simp)
      have h5:=HK0.out.next (m:=i+1) hm5 hg5 (Nat.le_refl _)
      have HM5:=hD0 (Z56 (s:=s') (i:=i) (v:=ex) (u:=eu) ⟨mb,pb,_,_,_,h5⟩ HA.out.1 HA.out.2.1 HA.out.2.2.1 HI.out.1.fr HA.out.2.2.2 HP.out.1 HP.out.2.1 HEe.out)
      obtain⟨i1,hi1⟩:∃n,i+1=n:=⟨_,rfl⟩
      have hwi:=Zn i i1 (by have:=HA.out.2.1;omega) hi1.symm
      have HR5:=hD0 hr5
      obtain⟨d0,_⟩:=h5.c
      have y0':=((Z1m hg5).cell (o:=eo+i*2) hebl (fun e=>by
       obtain⟨es,c,q⟩:=HK0.out.mn.obj
       have:=HK0.out.mW
       have:=hrc.lt
       omega)).trans x0
      have y1':=((Z1m hg5).cell (o:=eo+i*2+1) hebl (fun e=>by
       have:=HK0.out.mW
       have:=hrc.lt
       omega)).trans x1
      have hebl5:=lL0 hebl (Z1m hg5).size
      have hol5:=h5.ol
      rw[hi1] at HR5
      rw[hnE] at d0
      have HNE:=hD0 hnE
      clear hm5 hg5 h5 hr5 hi1 hnE
      go_wp2_with (at_mapUpdate;refine Zz rfl (.tmp 58) (.tmp 59) (.tmp 61) 41 rfl _ _ _ _ rfl rfl rfl HR5.out ?_)
      refine HM5.out.mono ?_
      rintro e w6 ⟨rfl,s6,N6,hI6,hmu⟩
      have HI6:=hD0 (aI0 hI6 hmu)
      clear hI6 hmu HM5
      go_wp2
      go_roundg (Um E s6)
      case measure=>rw[←HI.out.2];exact HI6.out.2
      case rel=>exact⟨s6,N6,HI6.out.1,rfl⟩
     ·have hx1:(ex==v)=false:=by simpa using hx
      have hx2:(ex != v)=true:=by simpa using hx
      have HL:=hD0 (Z0s (s:=s') ⟨mb,pb,_,_,_,HK0.out⟩ HA.out.1 HI.out.1.fr HA.out.2.2.2 HP.out.1 (Z41 HA.out.1 HP.out.2.1 HP.out.2.2.1.1 (fun w q=>by
       rw[he'] at q
       injection q with q
       injection q with q _
       exact hx q)))
      have HNE:=hD0 hnE
      clear he he' hin hnE
      go_wp2_with fail
      refine HL.out.mono ?_
      rintro e w6 ⟨rfl,s6,N6,hI6,hmu⟩
      have HI6:=hD0 (aI0 hI6 hmu)
      clear hI6 hmu HL
      go_wp2
      go_roundg (Um E s6)
      case measure=>rw[←HI.out.2];exact HI6.out.2
      case rel=>exact⟨s6,N6,HI6.out.1,rfl⟩
   ·have hie:i=nE:=by have:=HP.out.2.2.1.2;omega
    have b1:((i:Int)==(nE:Int))=true:=by rw[hie];simp
    have b2:(i==nE)=true:=by rw[hie];simp
    have HL:=hD0 (Z0s (s:=s') ⟨mb,pb,_,_,_,HK0.out⟩ HA.out.1 HI.out.1.fr HA.out.2.2.2 HP.out.1 (Z41 HA.out.1 HP.out.2.1 HP.out.2.2.1.1 (fun w q=>hin (List.getElem?_eq_some_iff.1 q).1)))
    have HNE:=hD0 hnE
    clear hin hnE hie
    go_wp2_with fail
    refine HL.out.mono ?_
    rintro e w6 ⟨rfl,s6,N6,hI6,hmu⟩
    have HI6:=hD0 (aI0 hI6 hmu)
    clear hI6 hmu HL
    go_wp2
    go_roundg (Um E s6)
    case measure=>rw[←HI.out.2];exact HI6.out.2
    case rel=>exact⟨s6,N6,HI6.out.1,rfl⟩
end
theorem Z3y(p:Nat→Bool):∀n,Yr p n≤n
 | 0=>Nat.le_refl _
 | n+1=>by
  have:=Z3y p n
  unfold Yr
  split<;>omega
structure LpI(W0:World)(o:Nat)(ev:Value)(E:List (Int × Int))(k:Nat)(s:Gb)(N:Nat)(w:World):Prop where
 wk:Wk W0 w o ev E s N
 gi:Ui E s
 pa:s.path=[]
 fit:∀v,s.pl v≠none→Zc v
 cnt:N+2*Yr (Vo E s) E.length≤2*E.length+2*k
 vis:∀i e,i<k→E[i]?=some e→s.pl e.1≠none
section
variable {W0:World} {ev:Value} {E:List (Int × Int)}
theorem Z7d(hed:Zw W0 ev E)(w:World)(o:Nat)(mb pb:Nat)(hw:Nw W0 w)(hm:Zg w mb (fun _=>none) 0)(hp:Zg w pb (fun _=>none) 0)(hmb:W0.heap.size≤mb)(hpb:W0.heap.size≤pb)(ho:W0.heap.size≤o)(hne:mb≠pb)
  (hob:w.heap[o]?=some (.cells #[ev,.map (some mb),.map (some pb),.slice none 0 0,.slice none 0 0,.slice none 0 0,.bool false,.int .i64 0] 75 (0,0))):LpI W0 o ev E 0 Z0e 0 w:=by
 refine⟨⟨mb,pb,.slice none 0 0,.slice none 0 0,.slice none 0 0,hob,hed,hw,hm,hp,IS.nil _,IS.nil _,World.ownsRow_nil _ _ _ _,ho,hmb,hpb,hne,?_,?_,?_,?_⟩,Z5i E,rfl,fun v h=>absurd rfl h,?_,fun i e h=>by omega⟩
 ·intro g h;cases h
 ·intro g h;cases h
 ·intro g h;cases h
 ·exact⟨Nat.le_refl _,Nat.le_refl _,Nat.le_refl _⟩
 ·have:=Z3y (Vo E Z0e) E.length
  omega
theorem Z6g{a b:Int}:(a≤b→decide (a≤b)=true)∧(¬a≤b→decide (a≤b)=false):=⟨decide_eq_true,decide_eq_false⟩
theorem Ua(hed:Zw W0 ev E)(hs:Zj E)(hl:E.length≤1000)(hF:∀e∈E,Zc e.1∧Zc e.2) :
  Calls prog 21 #[ev] W0 fun e w'=>∃fd ls,e=.returned (.tuple #[.int .i64 ls,.bool fd])∧Z8l E fd ls∧Nw W0 w':=by
 have HA:=hD0 (aI0 hs (aI0 hl (aI0 hF hed)))
 obtain⟨ea,ec,rfl,hed'⟩:=hed
 have HD:=hD0 hed'
 clear hs hF hed'
 obtain⟨n,hn⟩:∃n,E.length=n:=⟨_,rfl⟩
 have HN:=hD0 hn
 rw[hn] at hl ⊢
 have HP:=hD0 (fun(w:World) (o mb pb:Nat)=>Z7d (W0:=W0) (E:=E) HA.out.2.2.2 w o mb pb)
 rw[hn] at HP
 clear hn
 have hmm:=@run_makeMap prog
 go_enter func21,ntmps21
 go_upto_region 2 with fail
 have ha1:=Z4 W0 (.map #[] 0)
 have s1:(W0.alloc (.map #[] 0)).heap.size=W0.heap.size+1:=by simp
 have ha2:=Z4 (W0.alloc (.map #[] 0)) (.map #[] 0)
 have s2:((W0.alloc (.map #[] 0)).alloc (.map #[] 0)).heap.size=W0.heap.size+1+1:=by simp
 obtain⟨w3,hw3⟩:∃x,((W0.alloc (.map #[] 0)).alloc (.map #[] 0)).alloc (.cells #[.slice ea n ec,.map (some W0.heap.size),.map (some (W0.heap.size+1)),.slice none 0 0,.slice none 0 0,.slice none 0 0,.bool false,.int .i64 0] 75)=x:=⟨_,rfl⟩
 have g3:Nw W0 w3:=by rw[←hw3];exact(((Nw.refl W0).alloc _).alloc _).alloc _
 have m1:Zg w3 W0.heap.size (fun _=>none) 0:=by rw[←hw3];exact(Zg.made W0).nw (((Nw.refl _).alloc _).alloc _)
 have m2:Zg w3 (W0.heap.size+1) (fun _=>none) 0:=by
  have:=Zg.made (W0.alloc (.map #[] 0))
  rw[s1] at this
  rw[←hw3];exact this.nw ((Nw.refl _).alloc _)
 have hob:w3.heap[W0.heap.size+1+1]?=some (.cells #[.slice ea n ec,.map (some W0.heap.size),.map (some (W0.heap.size+1)),.slice none 0 0,.slice none 0 0,.slice none 0 0,.bool false,.int .i64 0] 75):=by
  have:=Z4 ((W0.alloc (.map #[] 0)).alloc (.map #[] 0)) (.cells #[.slice ea n ec,.map (some W0.heap.size),.map (some (W0.heap.size+1)),.slice none 0 0,.slice none 0 0,.slice none 0 0,.bool false,.int .i64 0] 75)
  rw[s2] at this
  rw[←hw3];exact this
 have HI0:=hD0 (HP.out w3 (W0.heap.size+1+1) W0.heap.size (W0.heap.size+1) g3 m1 m2 (Nat.le_refl _) (Nat.le_succ _) (Nat.le_trans (Nat.le_succ _) (Nat.le_succ _)) (by omega) hob)
 rw[hw3]
 obtain⟨o,ho⟩:∃o,W0.heap.size+1+1=o:=⟨_,rfl⟩
 rw[ho] at HI0 ⊢
 clear ha1 ha2 s1 s2 hw3 g3 m1 m2 hob ho HP hmm
 go_wp2_with fail
 go_loopw [14] (fun vi wr=>∃(k:Nat) (s:Gb) (N:Nat),vi=.int .i64 k∧k≤n∧Hid (LpI W0 o (.slice ea n ec) E k s N wr)) (fun vi _=>n-(intOf vi).toNat)
 case atStart=>exact⟨0,Z0e,0,rfl,Nat.zero_le _,HI0⟩
 case round =>
  clear HI0
  obtain⟨k,s,N,rfl,hkn,HI⟩:=hrel
  by_cases hlt:k<n
  ·have hkE:k<E.length:=by rw[HN.out];exact hlt
   have Zr:=Zo hlt
   obtain⟨e,he⟩:∃e,E[k]=e:=⟨_,rfl⟩
   have he':E[k]?=some e:=by rw[List.getElem?_eq_getElem hkE,he]
   rcases HD.out with⟨q,_⟩ | ⟨eb,eo,rfl,hrc⟩
   ·rw[q] at hkE;simp at hkE
   ·obtain⟨mb0,pb0,vp0,vo0,vk0,hk0⟩:=HI.out.wk
    obtain⟨x0,x1⟩:=(hrc.nw hk0.nw).eg hkE
    have hebl:=(hrc.nw hk0.nw).lt
    rw[he] at x0 x1
    obtain⟨ex,eu⟩:=e
    simp only at x0 x1
    have hw:=Zn k (k+1) (by omega) rfl
    obtain⟨k1,hk1⟩:∃m,k+1=m:=⟨_,rfl⟩
    have HK1:=hD0 hk1
    rw[hk1] at hw
    have HE:=hD0 he'
    have hfx:=(HA.out.2.2.1 _ (List.mem_of_getElem? he')).1
    have HFx:=hD0 hfx
    clear hk0 hkE he he' hk1 hfx
    go_upto_region 5 with fail
    have hal:=Z4 wr (.cells #[.int .i64 ex,.int .i64 eu] 30)
    have g4:Nw wr (wr.alloc (.cells #[.int .i64 ex,.int .i64 eu] 30)):=(Nw.refl wr).alloc _
    obtain⟨w4,hw4⟩:∃x,wr.alloc (.cells #[.int .i64 ex,.int .i64 eu] 30)=x:=⟨_,rfl⟩
    obtain⟨B,hB⟩:∃B,wr.heap.size=B:=⟨_,rfl⟩
    rw[hB] at hal ⊢
    rw[hw4] at hal g4 ⊢
    have HL:=hD0 (show LpI W0 o (.slice (some ⟨eb,eo,none⟩) n ec) E k s N w4 from⟨by obtain⟨a1,a2,a3,a4,a5,a6⟩:=HI.out.wk;exact⟨a1,a2,a3,a4,a5,a6.nwr g4⟩,HI.out.gi,HI.out.pa,HI.out.fit,HI.out.cnt,HI.out.vis⟩)
    obtain⟨mb,pb,vp,vo,vk,hk⟩:=HL.out.wk
    obtain⟨c0,c1,c2,c3,c4,c5,c6,c7⟩:=hk.c
    have hol:=hk.ol
    have HAL:=hD0 hal
    have t6:∀x,Nw w4 x→x.cell? ⟨o,6,none⟩=some (.bool s.fd):=fun x g=>g.kp c6
    have t7:∀x,Nw w4 x→x.cell? ⟨o,7,none⟩=some (.int .i64 s.ls):=fun x g=>g.kp c7
    have tB:∀x,Nw w4 x→x.cell? ⟨B,0,none⟩=some (.int .i64 ex):=fun x g=>g.kp (Z2 (j:=0) HAL.out)
    clear hal g4 hw4 hB hk c0 c1 c2 c3 c4 c5 c6 c7 x0 x1 hebl
    obtain⟨fd,hfd⟩:∃b,s.fd=b:=⟨_,rfl⟩
    have HFD:=hD0 hfd
    rw[hfd] at t6
    clear hfd
    cases fd with
    | false =>
     refine Za [] (Nw w4) (by kernel_rfl) ?_
     change Z9 _ _ _ _ _ _ 13 #[false,false,false,false,false,false,false,false,false,false,false,false,false] _ w4.drew
     obtain⟨y4,hy4⟩:∃y,w4.drew=y:=⟨_,rfl⟩
     rw[hy4]
     have hS0:Nw w4 y4:=by rw[←hy4];exact(Nw.refl w4).dr
     clear hy4
     refine Z0 0 rfl (by kernel_rfl) (by kernel_rfl) (by kernel_rfl) (fun v c a w h=>h) ?_
     (first | (refine⟨undef,Or.inr ⟨by rfl,rfl⟩,?_⟩) | (apply Exists.intro;refine⟨Or.inl ⟨by rfl,?_⟩,?_⟩;(intro x hx';go_simp;first | done | with_reducible rfl)))
     (try simp only[Act.put,List.getElem_toArray,List.getElem_cons_zero,List.getElem_cons_succ,List.setIfInBounds_toArray,List.set_cons_zero,List.set_cons_succ])
     refine Z0 1 rfl (by kernel_rfl) (by kernel_rfl) (by kernel_rfl) (fun v c a w h=>h) ?_
     (first | (refine⟨undef,Or.inr ⟨by rfl,rfl⟩,?_⟩) | (apply Exists.intro;refine⟨Or.inl ⟨by rfl,?_⟩,?_⟩;(intro x hx';go_simp;first | done | with_reducible rfl)))
     (try simp only[Act.put,List.getElem_toArray,List.getElem_cons_zero,List.getElem_cons_succ,List.setIfInBounds_toArray,List.set_cons_zero,List.set_cons_succ])
     refine Z0 2 rfl (by kernel_rfl) (by kernel_rfl) (by kernel_rfl) (fun v c a w h=>h) ?_
     (first | (refine⟨undef,Or.inr ⟨by rfl,rfl⟩,?_⟩) | (apply Exists.intro;refine⟨Or.inl ⟨by rfl,?_⟩,?_⟩;(intro x hx';go_simp;first | done | with_reducible rfl)))
     (try simp only[Act.put,List.getElem_toArray,List.getElem_cons_zero,List.getElem_cons_succ,List.setIfInBounds_toArray,List.set_cons_zero,List.set_cons_succ])
     refine Z1 3 rfl (by kernel_rfl) (by kernel_rfl) (by kernel_rfl) (by kernel_rfl) (fun v c a w h=>h) hS0 ?_
     (first | (refine⟨undef,Or.inr ⟨by rfl,rfl⟩,?_⟩) | (apply Exists.intro;refine⟨Or.inl ⟨by rfl,?_⟩,?_⟩;(intro x hx';go_simp;first | done | with_reducible rfl)))
     (try simp only[Act.put,List.getElem_toArray,List.getElem_cons_zero,List.getElem_cons_succ,List.setIfInBounds_toArray,List.set_cons_zero,List.set_cons_succ])
     refine Z0 4 rfl (by kernel_rfl) (by kernel_rfl) (by kernel_rfl) (fun v c a w h=>h) ?_
     (first | (refine⟨undef,Or.inr ⟨by rfl,rfl⟩,?_⟩) | (apply Exists.intro;refine⟨Or.inl ⟨by rfl,?_⟩,?_⟩;(intro x hx';go_simp;first | done | with_reducible rfl)))
     (try simp only[Act.put,List.getElem_toArray,List.getElem_cons_zero,List.getElem_cons_succ,List.setIfInBounds_toArray,List.set_cons_zero,List.set_cons_succ])
     refine Z0 5 rfl (by kernel_rfl) (by kernel_rfl) (by kernel_rfl) (fun v c a w h=>h) ?_
     (first | (refine⟨undef,Or.inr ⟨by rfl,rfl⟩,?_⟩) | (apply Exists.intro;refine⟨Or.inl ⟨by rfl,?_⟩,?_⟩;(intro x hx';go_simp;first | done | with_reducible rfl)))
     (try simp only[Act.put,List.getElem_toArray,List.getElem_cons_zero,List.getElem_cons_succ,List.setIfInBounds_toArray,List.set_cons_zero,List.set_cons_succ])
     refine Z0 6 rfl (by kernel_rfl) (by kernel_rfl) (by kernel_rfl) (fun v c a w h=>h) ?_
     (first | (refine⟨undef,Or.inr ⟨by rfl,rfl⟩,?_⟩) | (apply Exists.intro;refine⟨Or.inl ⟨by rfl,?_⟩,?_⟩;(intro x hx';go_simp;first | done | with_reducible rfl)))
     (try simp only[Act.put,List.getElem_toArray,List.getElem_cons_zero,List.getElem_cons_succ,List.setIfInBounds_toArray,List.set_cons_zero,List.set_cons_succ])
     refine Z0 7 rfl (by kernel_rfl) (by kernel_rfl) (by kernel_rfl) (fun v c a w h=>h) ?_
     (first | (refine⟨undef,Or.inr ⟨by rfl,rfl⟩,?_⟩) | (apply Exists.intro;refine⟨Or.inl ⟨by rfl,?_⟩,?_⟩;(intro x hx';go_simp;first | done | with_reducible rfl)))
     (try simp only[Act.put,List.getElem_toArray,List.getElem_cons_zero,List.getElem_cons_succ,List.setIfInBounds_toArray,List.set_cons_zero,List.set_cons_succ])
     refine Z1 8 rfl (by kernel_rfl) (by kernel_rfl) (by kernel_rfl) (by kernel_rfl) (fun v c a w h=>h) hS0 ?_
     (first | (refine⟨undef,Or.inr ⟨by rfl,rfl⟩,?_⟩) | (apply Exists.intro;refine⟨Or.inl ⟨by rfl,?_⟩,?_⟩;(intro x hx';go_simp;first | done | with_reducible rfl)))
     (try simp only[Act.put,List.getElem_toArray,List.getElem_cons_zero,List.getElem_cons_succ,List.setIfInBounds_toArray,List.set_cons_zero,List.set_cons_succ])
     refine Z0 9 rfl (by kernel_rfl) (by kernel_rfl) (by kernel_rfl) (fun v c a w h=>h) ?_
     (first | (refine⟨undef,Or.inr ⟨by rfl,rfl⟩,?_⟩) | (apply Exists.intro;refine⟨Or.inl ⟨by rfl,?_⟩,?_⟩;(intro x hx';go_simp;first | done | with_reducible rfl)))
     (try simp only[Act.put,List.getElem_toArray,List.getElem_cons_zero,List.getElem_cons_succ,List.setIfInBounds_toArray,List.set_cons_zero,List.set_cons_succ])
     refine Z1 10 rfl (by kernel_rfl) (by kernel_rfl) (by kernel_rfl) (by kernel_rfl) (fun v c a w h=>h) hS0 ?_
     (first | (refine⟨undef,Or.inr ⟨by rfl,rfl⟩,?_⟩) | (apply Exists.intro;refine⟨Or.inl ⟨by rfl,?_⟩,?_⟩;(intro x hx';go_simp;first | done | with_reducible rfl)))
     (try simp only[Act.put,List.getElem_toArray,List.getElem_cons_zero,List.getElem_cons_succ,List.setIfInBounds_toArray,List.set_cons_zero,List.set_cons_succ])
     refine Z0 11 rfl (by kernel_rfl) (by kernel_rfl) (by kernel_rfl) (fun v c a w h=>h) ?_
     (first | (refine⟨undef,Or.inr ⟨by rfl,rfl⟩,?_⟩) | (apply Exists.intro;refine⟨Or.inl ⟨by rfl,?_⟩,?_⟩;(intro x hx';go_simp;first | done | with_reducible rfl)))
     (try simp only[Act.put,List.getElem_toArray,List.getElem_cons_zero,List.getElem_cons_succ,List.setIfInBounds_toArray,List.set_cons_zero,List.set_cons_succ])
     refine Z0 12 rfl (by kernel_rfl) (by kernel_rfl) (by kernel_rfl) (fun v c a w h=>h) ?_
     (first | (refine⟨undef,Or.inr ⟨by rfl,rfl⟩,?_⟩) | (apply Exists.intro;refine⟨Or.inl ⟨by rfl,?_⟩,?_⟩;(intro x hx';go_simp;first | done | with_reducible rfl)))
     (try simp only[Act.put,List.getElem_toArray,List.getElem_cons_zero,List.getElem_cons_succ,List.setIfInBounds_toArray,List.set_cons_zero,List.set_cons_succ])
     refine Z5 (by kernel_rfl) ?_ _
     refine NoPanic.normal ?_
     (try simp only[Act.put,List.getElem_toArray,List.getElem_cons_zero,List.getElem_cons_succ,List.setIfInBounds_toArray,List.set_cons_zero,List.set_cons_succ])
     have HZ:=hD0 (show LpI W0 o (.slice (some ⟨eb,eo,none⟩) n ec) E k s N y4 from⟨by obtain⟨a1,a2,a3,a4,a5,a6⟩:=HL.out.wk;exact⟨a1,a2,a3,a4,a5,a6.nwr hS0⟩,HL.out.gi,HL.out.pa,HL.out.fit,HL.out.cnt,HL.out.vis⟩)
     have hb0:=hS0.kp (Z2 (j:=0) HAL.out)
     have hBl:=lL0 (Go.Proofs.YtobnolgphljoeaaGreat.hlt HAL.out) hS0.sz
     have HFr:=hD0 (Z28 (C:=N+2+2*Yr (Vo E s) E.length) HZ.out.wk HZ.out.gi HA.out.1 (Nat.le_trans HA.out.2.1 (by decide)) HA.out.2.2.1 HZ.out.pa HZ.out.fit HFx.out (Nat.le_refl _) (by have:=HZ.out.cnt;have:=HA.out.2.1;have:=HN.out;omega))
     clear hS0 hol t6 t7 tB HL HAL
     go_wp2_with fail
     refine HFr.out.mono ?_
     rintro e w6 ⟨rfl,s1,N1,hI6,hp6⟩
     have HI6:=hD0 (show LpI W0 o (.slice (some ⟨eb,eo,none⟩) n ec) E k1 s1 N1 w6 from⟨hI6.wk,hI6.fr.gi,hp6,hI6.fr.fit,by have h1:=hI6.fr.cnt;have h2:=HZ.out.cnt;have h3:=HK1.out;omega,fun i e hi he=>by
      rcases Nat.lt_or_ge i k with q | q
      ·exact hI6.fr.mono _ (HZ.out.vis i e q he)
      ·have h3:=HK1.out
       obtain rfl:i=k:=by omega
       rw[HE.out] at he
       injection he with he
       rw[←he];exact hI6.fr.vis⟩)
     clear hI6 hp6 HFr
     go_wp2
     go_roundw
     case rel=>exact⟨k1,s1,N1,rfl,by rw[←HK1.out];exact hlt,HI6⟩
     case measure=>rw[←HK1.out];exact Zk hlt
    | true =>
     by_cases hle:s.ls≤ex
     ·have d:=Z6g.1 hle
      have HLE:=hD0 hle
      clear hle
      refine Za [] (Nw w4) (by kernel_rfl) ?_
      change Z9 _ _ _ _ _ _ 13 #[false,false,false,false,false,false,false,false,false,false,false,false,false] _ w4.drew
      obtain⟨y4,hy4⟩:∃y,w4.drew=y:=⟨_,rfl⟩
      rw[hy4]
      have hS0:Nw w4 y4:=by rw[←hy4];exact(Nw.refl w4).dr
      clear hy4
      refine Z0 0 rfl (by kernel_rfl) (by kernel_rfl) (by kernel_rfl) (fun v c a w h=>h) ?_
      (first | (refine⟨undef,Or.inr ⟨by rfl,rfl⟩,?_⟩) | (apply Exists.intro;refine⟨Or.inl ⟨by rfl,?_⟩,?_⟩;(intro x hx';go_simp;first | done | with_reducible rfl)))
      (try simp only[Act.put,List.getElem_toArray,List.getElem_cons_zero,List.getElem_cons_succ,List.setIfInBounds_toArray,List.set_cons_zero,List.set_cons_succ])
      refine Z0 1 rfl (by kernel_rfl) (by kernel_rfl) (by kernel_rfl) (fun v c a w h=>h) ?_
      (first | (refine⟨undef,Or.inr ⟨by rfl,rfl⟩,?_⟩) | (apply Exists.intro;refine⟨Or.inl ⟨by rfl,?_⟩,?_⟩;(intro x hx';go_simp;first | done | with_reducible rfl)))
      (try simp only[Act.put,List.getElem_toArray,List.getElem_cons_zero,List.getElem_cons_succ,List.setIfInBounds_toArray,List.set_cons_zero,List.set_cons_succ])
      refine Z0 2 rfl (by kernel_rfl) (by kernel_rfl) (by kernel_rfl) (fun v c a w h=>h) ?_
      (first | (refine⟨undef,Or.inr ⟨by rfl,rfl⟩,?_⟩) | (apply Exists.intro;refine⟨Or.inl ⟨by rfl,?_⟩,?_⟩;(intro x hx';go_simp;first | done | with_reducible rfl)))
      (try simp only[Act.put,List.getElem_toArray,List.getElem_cons_zero,List.getElem_cons_succ,List.setIfInBounds_toArray,List.set_cons_zero,List.set_cons_succ])
      refine Z1 3 rfl (by kernel_rfl) (by kernel_rfl) (by kernel_rfl) (by kernel_rfl) (fun v c a w h=>h) hS0 ?_
      (first | (refine⟨undef,Or.inr ⟨by rfl,rfl⟩,?_⟩) | (apply Exists.intro;refine⟨Or.inl ⟨by rfl,?_⟩,?_⟩;(intro x hx';go_simp;first | done | with_reducible rfl)))
      (try simp only[Act.put,List.getElem_toArray,List.getElem_cons_zero,List.getElem_cons_succ,List.setIfInBounds_toArray,List.set_cons_zero,List.set_cons_succ])
      refine Z0 4 rfl (by kernel_rfl) (by kernel_rfl) (by kernel_rfl) (fun v c a w h=>h) ?_
      (first | (refine⟨undef,Or.inr ⟨by rfl,rfl⟩,?_⟩) | (apply Exists.intro;refine⟨Or.inl ⟨by rfl,?_⟩,?_⟩;(intro x hx';go_simp;first | done | with_reducible rfl)))
      (try simp only[Act.put,List.getElem_toArray,List.getElem_cons_zero,List.getElem_cons_succ,List.setIfInBounds_toArray,List.set_cons_zero,List.set_cons_succ])
      refine Z0 5 rfl (by kernel_rfl) (by kernel_rfl) (by kernel_rfl) (fun v c a w h=>h) ?_
      (first | (refine⟨undef,Or.inr ⟨by rfl,rfl⟩,?_⟩) | (apply Exists.intro;refine⟨Or.inl ⟨by rfl,?_⟩,?_⟩;(intro x hx';go_simp;first | done | with_reducible rfl)))
      (try simp only[Act.put,List.getElem_toArray,List.getElem_cons_zero,List.getElem_cons_succ,List.setIfInBounds_toArray,List.set_cons_zero,List.set_cons_succ])
      refine Z0 6 rfl (by kernel_rfl) (by kernel_rfl) (by kernel_rfl) (fun v c a w h=>h) ?_
      (first | (refine⟨undef,Or.inr ⟨by rfl,rfl⟩,?_⟩) | (apply Exists.intro;refine⟨Or.inl ⟨by rfl,?_⟩,?_⟩;(intro x hx';go_simp;first | done | with_reducible rfl)))
      (try simp only[Act.put,List.getElem_toArray,List.getElem_cons_zero,List.getElem_cons_succ,List.setIfInBounds_toArray,List.set_cons_zero,List.set_cons_succ])
      refine Z0 7 rfl (by kernel_rfl) (by kernel_rfl) (by kernel_rfl) (fun v c a w h=>h) ?_
      (first | (refine⟨undef,Or.inr ⟨by rfl,rfl⟩,?_⟩) | (apply Exists.intro;refine⟨Or.inl ⟨by rfl,?_⟩,?_⟩;(intro x hx';go_simp;first | done | with_reducible rfl)))
      (try simp only[Act.put,List.getElem_toArray,List.getElem_cons_zero,List.getElem_cons_succ,List.setIfInBounds_toArray,List.set_cons_zero,List.set_cons_succ])
      refine Z1 8 rfl (by kernel_rfl) (by kernel_rfl) (by kernel_rfl) (by kernel_rfl) (fun v c a w h=>h) hS0 ?_
      (first | (refine⟨undef,Or.inr ⟨by rfl,rfl⟩,?_⟩) | (apply Exists.intro;refine⟨Or.inl ⟨by rfl,?_⟩,?_⟩;(intro x hx';go_simp;first | done | with_reducible rfl)))
      (try simp only[Act.put,List.getElem_toArray,List.getElem_cons_zero,List.getElem_cons_succ,List.setIfInBounds_toArray,List.set_cons_zero,List.set_cons_succ])
      refine Z0 9 rfl (by kernel_rfl) (by kernel_rfl) (by kernel_rfl) (fun v c a w h=>h) ?_
      (first | (refine⟨undef,Or.inr ⟨by rfl,rfl⟩,?_⟩) | (apply Exists.intro;refine⟨Or.inl ⟨by rfl,?_⟩,?_⟩;(intro x hx';go_simp;first | done | with_reducible rfl)))
      (try simp only[Act.put,List.getElem_toArray,List.getElem_cons_zero,List.getElem_cons_succ,List.setIfInBounds_toArray,List.set_cons_zero,List.set_cons_succ])
      refine Z1 10 rfl (by kernel_rfl) (by kernel_rfl) (by kernel_rfl) (by kernel_rfl) (fun v c a w h=>h) hS0 ?_
      (first | (refine⟨undef,Or.inr ⟨by rfl,rfl⟩,?_⟩) | (apply Exists.intro;refine⟨Or.inl ⟨by rfl,?_⟩,?_⟩;(intro x hx';go_simp;first | done | with_reducible rfl)))
      (try simp only[Act.put,List.getElem_toArray,List.getElem_cons_zero,List.getElem_cons_succ,List.setIfInBounds_toArray,List.set_cons_zero,List.set_cons_succ])
      refine Z0 11 rfl (by kernel_rfl) (by kernel_rfl) (by kernel_rfl) (fun v c a w h=>h) ?_
      (first | (refine⟨undef,Or.inr ⟨by rfl,rfl⟩,?_⟩) | (apply Exists.intro;refine⟨Or.inl ⟨by rfl,?_⟩,?_⟩;(intro x hx';go_simp;first | done | with_reducible rfl)))
      (try simp only[Act.put,List.getElem_toArray,List.getElem_cons_zero,List.getElem_cons_succ,List.setIfInBounds_toArray,List.set_cons_zero,List.set_cons_succ])
      refine Z0 12 rfl (by kernel_rfl) (by kernel_rfl) (by kernel_rfl) (fun v c a w h=>h) ?_
      (first | (refine⟨undef,Or.inr ⟨by rfl,rfl⟩,?_⟩) | (apply Exists.intro;refine⟨Or.inl ⟨by rfl,?_⟩,?_⟩;(intro x hx';go_simp;first | done | with_reducible rfl)))
      (try simp only[Act.put,List.getElem_toArray,List.getElem_cons_zero,List.getElem_cons_succ,List.setIfInBounds_toArray,List.set_cons_zero,List.set_cons_succ])
      refine Z5 (by kernel_rfl) ?_ _
      refine NoPanic.normal ?_
      (try simp only[Act.put,List.getElem_toArray,List.getElem_cons_zero,List.getElem_cons_succ,List.setIfInBounds_toArray,List.set_cons_zero,List.set_cons_succ])
      have HZ:=hD0 (show LpI W0 o (.slice (some ⟨eb,eo,none⟩) n ec) E k s N y4 from⟨by obtain⟨a1,a2,a3,a4,a5,a6⟩:=HL.out.wk;exact⟨a1,a2,a3,a4,a5,a6.nwr hS0⟩,HL.out.gi,HL.out.pa,HL.out.fit,HL.out.cnt,HL.out.vis⟩)
      have HR:=hD0 (Z2e HA.out.1 HZ.out.gi HZ.out.pa k HZ.out.vis (.inr ⟨HFD.out,(ex,eu),HE.out,HLE.out⟩))
      clear hS0 hol t6 t7 tB HL HAL
      go_wp2_with fail
      obtain⟨mb,pb,vp,vo,vk,hk⟩:=HZ.out.wk
      obtain⟨c0,c1,c2,c3,c4,c5,c6,c7⟩:=hk.c
      have hol:=hk.ol
      have t6:∀x,Nw y4 x→x.cell? ⟨o,6,none⟩=some (.bool s.fd):=fun x g=>g.kp c6
      have t7:∀x,Nw y4 x→x.cell? ⟨o,7,none⟩=some (.int .i64 s.ls):=fun x g=>g.kp c7
      have hnw:=hD0 hk.nw
      clear hk c0 c1 c2 c3 c4 c5 c6 c7 hol
      go_wp2_with fail
      refine Za [] (Nw y4) (by kernel_rfl) ?_
      change Z9 _ _ _ _ _ _ 10 #[false,false,false,false,false,false,false,false,false,false] _ y4.drew
      obtain⟨y8,hy8⟩:∃y,y4.drew=y:=⟨_,rfl⟩
      rw[hy8]
      have hS0:Nw y4 y8:=by rw[←hy8];exact(Nw.refl y4).dr
      clear hy8
      refine Z0 0 rfl (by kernel_rfl) (by kernel_rfl) (by kernel_rfl) (fun v c a w h=>h) ?_
      (first | (refine⟨undef,Or.inr ⟨by rfl,rfl⟩,?_⟩) | (apply Exists.intro;refine⟨Or.inl ⟨by rfl,?_⟩,?_⟩;(intro x hx';go_simp;first | done | with_reducible rfl)))
      (try simp only[Act.put,List.getElem_toArray,List.getElem_cons_zero,List.getElem_cons_succ,List.setIfInBounds_toArray,List.set_cons_zero,List.set_cons_succ])
      refine Z0 1 rfl (by kernel_rfl) (by kernel_rfl) (by kernel_rfl) (fun v c a w h=>h) ?_
      (first | (refine⟨undef,Or.inr ⟨by rfl,rfl⟩,?_⟩) | (apply Exists.intro;refine⟨Or.inl ⟨by rfl,?_⟩,?_⟩;(intro x hx';go_simp;first | done | with_reducible rfl)))
      (try simp only[Act.put,List.getElem_toArray,List.getElem_cons_zero,List.getElem_cons_succ,List.setIfInBounds_toArray,List.set_cons_zero,List.set_cons_succ])
      refine Z0 2 rfl (by kernel_rfl) (by kernel_rfl) (by kernel_rfl) (fun v c a w h=>h) ?_
      (first | (refine⟨undef,Or.inr ⟨by rfl,rfl⟩,?_⟩) | (apply Exists.intro;refine⟨Or.inl ⟨by rfl,?_⟩,?_⟩;(intro x hx';go_simp;first | done | with_reducible rfl)))
      (try simp only[Act.put,List.getElem_toArray,List.getElem_cons_zero,List.getElem_cons_succ,List.setIfInBounds_toArray,List.set_cons_zero,List.set_cons_succ])
      refine Z1 3 rfl (by kernel_rfl) (by kernel_rfl) (by kernel_rfl) (by kernel_rfl) (fun v c a w h=>h) hS0 ?_
      (first | (refine⟨undef,Or.inr ⟨by rfl,rfl⟩,?_⟩) | (apply Exists.intro;refine⟨Or.inl ⟨by rfl,?_⟩,?_⟩;(intro x hx';go_simp;first | done | with_reducible rfl)))
      (try simp only[Act.put,List.getElem_toArray,List.getElem_cons_zero,List.getElem_cons_succ,List.setIfInBounds_toArray,List.set_cons_zero,List.set_cons_succ])
      refine Z0 4 rfl (by kernel_rfl) (by kernel_rfl) (by kernel_rfl) (fun v c a w h=>h) ?_
      (first | (refine⟨undef,Or.inr ⟨by rfl,rfl⟩,?_⟩) | (apply Exists.intro;refine⟨Or.inl ⟨by rfl,?_⟩,?_⟩;(intro x hx';go_simp;first | done | with_reducible rfl)))
      (try simp only[Act.put,List.getElem_toArray,List.getElem_cons_zero,List.getElem_cons_succ,List.setIfInBounds_toArray,List.set_cons_zero,List.set_cons_succ])
      refine Z0 5 rfl (by kernel_rfl) (by kernel_rfl) (by kernel_rfl) (fun v c a w h=>h) ?_
      (first | (refine⟨undef,Or.inr ⟨by rfl,rfl⟩,?_⟩) | (apply Exists.intro;refine⟨Or.inl ⟨by rfl,?_⟩,?_⟩;(intro x hx';go_simp;first | done | with_reducible rfl)))
      (try simp only[Act.put,List.getElem_toArray,List.getElem_cons_zero,List.getElem_cons_succ,List.setIfInBounds_toArray,List.set_cons_zero,List.set_cons_succ])
      refine Z0 6 rfl (by kernel_rfl) (by kernel_rfl) (by kernel_rfl) (fun v c a w h=>h) ?_
      (first | (refine⟨undef,Or.inr ⟨by rfl,rfl⟩,?_⟩) | (apply Exists.intro;refine⟨Or.inl ⟨by rfl,?_⟩,?_⟩;(intro x hx';go_simp;first | done | with_reducible rfl)))
      (try simp only[Act.put,List.getElem_toArray,List.getElem_cons_zero,List.getElem_cons_succ,List.setIfInBounds_toArray,List.set_cons_zero,List.set_cons_succ])
      refine Z1 7 rfl (by kernel_rfl) (by kernel_rfl) (by kernel_rfl) (by kernel_rfl) (fun v c a w h=>h) hS0 ?_
      (first | (refine⟨undef,Or.inr ⟨by rfl,rfl⟩,?_⟩) | (apply Exists.intro;refine⟨Or.inl ⟨by rfl,?_⟩,?_⟩;(intro x hx';go_simp;first | done | with_reducible rfl)))
      (try simp only[Act.put,List.getElem_toArray,List.getElem_cons_zero,List.getElem_cons_succ,List.setIfInBounds_toArray,List.set_cons_zero,List.set_cons_succ])
      refine Z0 8 rfl (by kernel_rfl) (by kernel_rfl) (by kernel_rfl) (fun v c a w h=>h) ?_
      (first | (refine⟨undef,Or.inr ⟨by rfl,rfl⟩,?_⟩) | (apply Exists.intro;refine⟨Or.inl ⟨by rfl,?_⟩,?_⟩;(intro x hx';go_simp;first | done | with_reducible rfl)))
      (try simp only[Act.put,List.getElem_toArray,List.getElem_cons_zero,List.getElem_cons_succ,List.setIfInBounds_toArray,List.set_cons_zero,List.set_cons_succ])
      refine Z0 9 rfl (by kernel_rfl) (by kernel_rfl) (by kernel_rfl) (fun v c a w h=>h) ?_
      (first | (refine⟨undef,Or.inr ⟨by rfl,rfl⟩,?_⟩) | (apply Exists.intro;refine⟨Or.inl ⟨by rfl,?_⟩,?_⟩;(intro x hx';go_simp;first | done | with_reducible rfl)))
      (try simp only[Act.put,List.getElem_toArray,List.getElem_cons_zero,List.getElem_cons_succ,List.setIfInBounds_toArray,List.set_cons_zero,List.set_cons_succ])
      refine Z5 (by kernel_rfl) ?_ _
      refine NoPanic.normal ?_
      (try simp only[Act.put,List.getElem_toArray,List.getElem_cons_zero,List.getElem_cons_succ,List.setIfInBounds_toArray,List.set_cons_zero,List.set_cons_succ])
      have HF:=hD0 (hnw.out.trans hS0)
      clear t6 t7 hS0 hnw
      go_wp2
      go_ret2
      exact⟨s.fd,s.ls,rfl,HR.out,HF.out⟩
     ·have d:=Z6g.2 hle
      clear hle
      refine Za [] (Nw w4) (by kernel_rfl) ?_
      change Z9 _ _ _ _ _ _ 13 #[false,false,false,false,false,false,false,false,false,false,false,false,false] _ w4.drew
      obtain⟨y4,hy4⟩:∃y,w4.drew=y:=⟨_,rfl⟩
      rw[hy4]
      have hS0:Nw w4 y4:=by rw[←hy4];exact(Nw.refl w4).dr
      clear hy4
      refine Z0 0 rfl (by kernel_rfl) (by kernel_rfl) (by kernel_rfl) (fun v c a w h=>h) ?_
      (first | (refine⟨undef,Or.inr ⟨by rfl,rfl⟩,?_⟩) | (apply Exists.intro;refine⟨Or.inl ⟨by rfl,?_⟩,?_⟩;(intro x hx';go_simp;first | done | with_reducible rfl)))
      (try simp only[Act.put,List.getElem_toArray,List.getElem_cons_zero,List.getElem_cons_succ,List.setIfInBounds_toArray,List.set_cons_zero,List.set_cons_succ])
      refine Z0 1 rfl (by kernel_rfl) (by kernel_rfl) (by kernel_rfl) (fun v c a w h=>h) ?_
      (first | (refine⟨undef,Or.inr ⟨by rfl,rfl⟩,?_⟩) | (apply Exists.intro;refine⟨Or.inl ⟨by rfl,?_⟩,?_⟩;(intro x hx';go_simp;first | done | with_reducible rfl)))
      (try simp only[Act.put,List.getElem_toArray,List.getElem_cons_zero,List.getElem_cons_succ,List.setIfInBounds_toArray,List.set_cons_zero,List.set_cons_succ])
      refine Z0 2 rfl (by kernel_rfl) (by kernel_rfl) (by kernel_rfl) (fun v c a w h=>h) ?_
      (first | (refine⟨undef,Or.inr ⟨by rfl,rfl⟩,?_⟩) | (apply Exists.intro;refine⟨Or.inl ⟨by rfl,?_⟩,?_⟩;(intro x hx';go_simp;first | done | with_reducible rfl)))
      (try simp only[Act.put,List.getElem_toArray,List.getElem_cons_zero,List.getElem_cons_succ,List.setIfInBounds_toArray,List.set_cons_zero,List.set_cons_succ])
      refine Z1 3 rfl (by kernel_rfl) (by kernel_rfl) (by kernel_rfl) (by kernel_rfl) (fun v c a w h=>h) hS0 ?_
      (first | (refine⟨undef,Or.inr ⟨by rfl,rfl⟩,?_⟩) | (apply Exists.intro;refine⟨Or.inl ⟨by rfl,?_⟩,?_⟩;(intro x hx';go_simp;first | done | with_reducible rfl)))
      (try simp only[Act.put,List.getElem_toArray,List.getElem_cons_zero,List.getElem_cons_succ,List.setIfInBounds_toArray,List.set_cons_zero,List.set_cons_succ])
      refine Z0 4 rfl (by kernel_rfl) (by kernel_rfl) (by kernel_rfl) (fun v c a w h=>h) ?_
      (first | (refine⟨undef,Or.inr ⟨by rfl,rfl⟩,?_⟩) | (apply Exists.intro;refine⟨Or.inl ⟨by rfl,?_⟩,?_⟩;(intro x hx';go_simp;first | done | with_reducible rfl)))
      (try simp only[Act.put,List.getElem_toArray,List.getElem_cons_zero,List.getElem_cons_succ,List.setIfInBounds_toArray,List.set_cons_zero,List.set_cons_succ])
      refine Z0 5 rfl (by kernel_rfl) (by kernel_rfl) (by kernel_rfl) (fun v c a w h=>h) ?_
      (first | (refine⟨undef,Or.inr ⟨by rfl,rfl⟩,?_⟩) | (apply Exists.intro;refine⟨Or.inl ⟨by rfl,?_⟩,?_⟩;(intro x hx';go_simp;first | done | with_reducible rfl)))
      (try simp only[Act.put,List.getElem_toArray,List.getElem_cons_zero,List.getElem_cons_succ,List.setIfInBounds_toArray,List.set_cons_zero,List.set_cons_succ])
      refine Z0 6 rfl (by kernel_rfl) (by kernel_rfl) (by kernel_rfl) (fun v c a w h=>h) ?_
      (first | (refine⟨undef,Or.inr ⟨by rfl,rfl⟩,?_⟩) | (apply Exists.intro;refine⟨Or.inl ⟨by rfl,?_⟩,?_⟩;(intro x hx';go_simp;first | done | with_reducible rfl)))
      (try simp only[Act.put,List.getElem_toArray,List.getElem_cons_zero,List.getElem_cons_succ,List.setIfInBounds_toArray,List.set_cons_zero,List.set_cons_succ])
      refine Z0 7 rfl (by kernel_rfl) (by kernel_rfl) (by kernel_rfl) (fun v c a w h=>h) ?_
      (first | (refine⟨undef,Or.inr ⟨by rfl,rfl⟩,?_⟩) | (apply Exists.intro;refine⟨Or.inl ⟨by rfl,?_⟩,?_⟩;(intro x hx';go_simp;first | done | with_reducible rfl)))
      (try simp only[Act.put,List.getElem_toArray,List.getElem_cons_zero,List.getElem_cons_succ,List.setIfInBounds_toArray,List.set_cons_zero,List.set_cons_succ])
      refine Z1 8 rfl (by kernel_rfl) (by kernel_rfl) (by kernel_rfl) (by kernel_rfl) (fun v c a w h=>h) hS0 ?_
      (first | (refine⟨undef,Or.inr ⟨by rfl,rfl⟩,?_⟩) | (apply Exists.intro;refine⟨Or.inl ⟨by rfl,?_⟩,?_⟩;(intro x hx';go_simp;first | done | with_reducible rfl)))
      (try simp only[Act.put,List.getElem_toArray,List.getElem_cons_zero,List.getElem_cons_succ,List.setIfInBounds_toArray,List.set_cons_zero,List.set_cons_succ])
      refine Z0 9 rfl (by kernel_rfl) (by kernel_rfl) (by kernel_rfl) (fun v c a w h=>h) ?_
      (first | (refine⟨undef,Or.inr ⟨by rfl,rfl⟩,?_⟩) | (apply Exists.intro;refine⟨Or.inl ⟨by rfl,?_⟩,?_⟩;(intro x hx';go_simp;first | done | with_reducible rfl)))
      (try simp only[Act.put,List.getElem_toArray,List.getElem_cons_zero,List.getElem_cons_succ,List.setIfInBounds_toArray,List.set_cons_zero,List.set_cons_succ])
      refine Z1 10 rfl (by kernel_rfl) (by kernel_rfl) (by kernel_rfl) (by kernel_rfl) (fun v c a w h=>h) hS0 ?_
      (first | (refine⟨undef,Or.inr ⟨by rfl,rfl⟩,?_⟩) | (apply Exists.intro;refine⟨Or.inl ⟨by rfl,?_⟩,?_⟩;(intro x hx';go_simp;first | done | with_reducible rfl)))
      (try simp only[Act.put,List.getElem_toArray,List.getElem_cons_zero,List.getElem_cons_succ,List.setIfInBounds_toArray,List.set_cons_zero,List.set_cons_succ])
      refine Z0 11 rfl (by kernel_rfl) (by kernel_rfl) (by kernel_rfl) (fun v c a w h=>h) ?_
      (first | (refine⟨undef,Or.inr ⟨by rfl,rfl⟩,?_⟩) | (apply Exists.intro;refine⟨Or.inl ⟨by rfl,?_⟩,?_⟩;(intro x hx';go_simp;first | done | with_reducible rfl)))
      (try simp only[Act.put,List.getElem_toArray,List.getElem_cons_zero,List.getElem_cons_succ,List.setIfInBounds_toArray,List.set_cons_zero,List.set_cons_succ])
      refine Z0 12 rfl (by kernel_rfl) (by kernel_rfl) (by kernel_rfl) (fun v c a w h=>h) ?_
      (first | (refine⟨undef,Or.inr ⟨by rfl,rfl⟩,?_⟩) | (apply Exists.intro;refine⟨Or.inl ⟨by rfl,?_⟩,?_⟩;(intro x hx';go_simp;first | done | with_reducible rfl)))
      (try simp only[Act.put,List.getElem_toArray,List.getElem_cons_zero,List.getElem_cons_succ,List.setIfInBounds_toArray,List.set_cons_zero,List.set_cons_succ])
      refine Z5 (by kernel_rfl) ?_ _
      refine NoPanic.normal ?_
      (try simp only[Act.put,List.getElem_toArray,List.getElem_cons_zero,List.getElem_cons_succ,List.setIfInBounds_toArray,List.set_cons_zero,List.set_cons_succ])
      have HZ:=hD0 (show LpI W0 o (.slice (some ⟨eb,eo,none⟩) n ec) E k s N y4 from⟨by obtain⟨a1,a2,a3,a4,a5,a6⟩:=HL.out.wk;exact⟨a1,a2,a3,a4,a5,a6.nwr hS0⟩,HL.out.gi,HL.out.pa,HL.out.fit,HL.out.cnt,HL.out.vis⟩)
      have hb0:=hS0.kp (Z2 (j:=0) HAL.out)
      have hBl:=lL0 (Go.Proofs.YtobnolgphljoeaaGreat.hlt HAL.out) hS0.sz
      have HFr:=hD0 (Z28 (C:=N+2+2*Yr (Vo E s) E.length) HZ.out.wk HZ.out.gi HA.out.1 (Nat.le_trans HA.out.2.1 (by decide)) HA.out.2.2.1 HZ.out.pa HZ.out.fit HFx.out (Nat.le_refl _) (by have:=HZ.out.cnt;have:=HA.out.2.1;have:=HN.out;omega))
      clear hS0 hol t6 t7 tB HL HAL
      go_wp2_with fail
      refine HFr.out.mono ?_
      rintro e w6 ⟨rfl,s1,N1,hI6,hp6⟩
      have HI6:=hD0 (show LpI W0 o (.slice (some ⟨eb,eo,none⟩) n ec) E k1 s1 N1 w6 from⟨hI6.wk,hI6.fr.gi,hp6,hI6.fr.fit,by have h1:=hI6.fr.cnt;have h2:=HZ.out.cnt;have h3:=HK1.out;omega,fun i e hi he=>by
       rcases Nat.lt_or_ge i k with q | q
       ·exact hI6.fr.mono _ (HZ.out.vis i e q he)
       ·have h3:=HK1.out
        obtain rfl:i=k:=by omega
        rw[HE.out] at he
        injection he with he
        rw[←he];exact hI6.fr.vis⟩)
      clear hI6 hp6 HFr
      go_wp2
      go_roundw
      case rel=>exact⟨k1,s1,N1,rfl,by rw[←HK1.out];exact hlt,HI6⟩
      case measure=>rw[←HK1.out];exact Zk hlt
  ·obtain rfl:k=n:=Nat.le_antisymm hkn (Nat.le_of_not_lt hlt)
   have Zr:¬k<k:=Nat.lt_irrefl k
   have HZ:=HI
   have HR:=hD0 (Z2e HA.out.1 HI.out.gi HI.out.pa k HI.out.vis (.inl (Nat.le_of_eq HN.out)))
   clear HI hlt
   go_wp2_with fail
   obtain⟨mb,pb,vp,vo,vk,hk⟩:=HZ.out.wk
   obtain⟨c0,c1,c2,c3,c4,c5,c6,c7⟩:=hk.c
   have hol:=hk.ol
   have t6:∀x,Nw wr x→x.cell? ⟨o,6,none⟩=some (.bool s.fd):=fun x g=>g.kp c6
   have t7:∀x,Nw wr x→x.cell? ⟨o,7,none⟩=some (.int .i64 s.ls):=fun x g=>g.kp c7
   have hnw:=hD0 hk.nw
   clear hk c0 c1 c2 c3 c4 c5 c6 c7 hol
   go_wp2_with fail
   refine Za [] (Nw wr) (by kernel_rfl) ?_
   change Z9 _ _ _ _ _ _ 10 #[false,false,false,false,false,false,false,false,false,false] _ wr.drew
   obtain⟨y8,hy8⟩:∃y,wr.drew=y:=⟨_,rfl⟩
   rw[hy8]
   have hS0:Nw wr y8:=by rw[←hy8];exact(Nw.refl wr).dr
   clear hy8
   refine Z0 0 rfl (by kernel_rfl) (by kernel_rfl) (by kernel_rfl) (fun v c a w h=>h) ?_
   (first | (refine⟨undef,Or.inr ⟨by rfl,rfl⟩,?_⟩) | (apply Exists.intro;refine⟨Or.inl ⟨by rfl,?_⟩,?_⟩;(intro x hx';go_simp;first | done | with_reducible rfl)))
   (try simp only[Act.put,List.getElem_toArray,List.getElem_cons_zero,List.getElem_cons_succ,List.setIfInBounds_toArray,List.set_cons_zero,List.set_cons_succ])
   refine Z0 1 rfl (by kernel_rfl) (by kernel_rfl) (by kernel_rfl) (fun v c a w h=>h) ?_
   (first | (refine⟨undef,Or.inr ⟨by rfl,rfl⟩,?_⟩) | (apply Exists.intro;refine⟨Or.inl ⟨by rfl,?_⟩,?_⟩;(intro x hx';go_simp;first | done | with_reducible rfl)))
   (try simp only[Act.put,List.getElem_toArray,List.getElem_cons_zero,List.getElem_cons_succ,List.setIfInBounds_toArray,List.set_cons_zero,List.set_cons_succ])
   refine Z0 2 rfl (by kernel_rfl) (by kernel_rfl) (by kernel_rfl) (fun v c a w h=>h) ?_
   (first | (refine⟨undef,Or.inr ⟨by rfl,rfl⟩,?_⟩) | (apply Exists.intro;refine⟨Or.inl ⟨by rfl,?_⟩,?_⟩;(intro x hx';go_simp;first | done | with_reducible rfl)))
   (try simp only[Act.put,List.getElem_toArray,List.getElem_cons_zero,List.getElem_cons_succ,List.setIfInBounds_toArray,List.set_cons_zero,List.set_cons_succ])
   refine Z1 3 rfl (by kernel_rfl) (by kernel_rfl) (by kernel_rfl) (by kernel_rfl) (fun v c a w h=>h) hS0 ?_
   (first | (refine⟨undef,Or.inr ⟨by rfl,rfl⟩,?_⟩) | (apply Exists.intro;refine⟨Or.inl ⟨by rfl,?_⟩,?_⟩;(intro x hx';go_simp;first | done | with_reducible rfl)))
   (try simp only[Act.put,List.getElem_toArray,List.getElem_cons_zero,List.getElem_cons_succ,List.setIfInBounds_toArray,List.set_cons_zero,List.set_cons_succ])
   refine Z0 4 rfl (by kernel_rfl) (by kernel_rfl) (by kernel_rfl) (fun v c a w h=>h) ?_
   (first | (refine⟨undef,Or.inr ⟨by rfl,rfl⟩,?_⟩) | (apply Exists.intro;refine⟨Or.inl ⟨by rfl,?_⟩,?_⟩;(intro x hx';go_simp;first | done | with_reducible rfl)))
   (try simp only[Act.put,List.getElem_toArray,List.getElem_cons_zero,List.getElem_cons_succ,List.setIfInBounds_toArray,List.set_cons_zero,List.set_cons_succ])
   refine Z0 5 rfl (by kernel_rfl) (by kernel_rfl) (by kernel_rfl) (fun v c a w h=>h) ?_
   (first | (refine⟨undef,Or.inr ⟨by rfl,rfl⟩,?_⟩) | (apply Exists.intro;refine⟨Or.inl ⟨by rfl,?_⟩,?_⟩;(intro x hx';go_simp;first | done | with_reducible rfl)))
   (try simp only[Act.put,List.getElem_toArray,List.getElem_cons_zero,List.getElem_cons_succ,List.setIfInBounds_toArray,List.set_cons_zero,List.set_cons_succ])
   refine Z0 6 rfl (by kernel_rfl) (by kernel_rfl) (by kernel_rfl) (fun v c a w h=>h) ?_
   (first | (refine⟨undef,Or.inr ⟨by rfl,rfl⟩,?_⟩) | (apply Exists.intro;refine⟨Or.inl ⟨by rfl,?_⟩,?_⟩;(intro x hx';go_simp;first | done | with_reducible rfl)))
   (try simp only[Act.put,List.getElem_toArray,List.getElem_cons_zero,List.getElem_cons_succ,List.setIfInBounds_toArray,List.set_cons_zero,List.set_cons_succ])
   refine Z1 7 rfl (by kernel_rfl) (by kernel_rfl) (by kernel_rfl) (by kernel_rfl) (fun v c a w h=>h) hS0 ?_
   (first | (refine⟨undef,Or.inr ⟨by rfl,rfl⟩,?_⟩) | (apply Exists.intro;refine⟨Or.inl ⟨by rfl,?_⟩,?_⟩;(intro x hx';go_simp;first | done | with_reducible rfl)))
   (try simp only[Act.put,List.getElem_toArray,List.getElem_cons_zero,List.getElem_cons_succ,List.setIfInBounds_toArray,List.set_cons_zero,List.set_cons_succ])
   refine Z0 8 rfl (by kernel_rfl) (by kernel_rfl) (by kernel_rfl) (fun v c a w h=>h) ?_
   (first | (refine⟨undef,Or.inr ⟨by rfl,rfl⟩,?_⟩) | (apply Exists.intro;refine⟨Or.inl ⟨by rfl,?_⟩,?_⟩;(intro x hx';go_simp;first | done | with_reducible rfl)))
   (try simp only[Act.put,List.getElem_toArray,List.getElem_cons_zero,List.getElem_cons_succ,List.setIfInBounds_toArray,List.set_cons_zero,List.set_cons_succ])
   refine Z0 9 rfl (by kernel_rfl) (by kernel_rfl) (by kernel_rfl) (fun v c a w h=>h) ?_
   (first | (refine⟨undef,Or.inr ⟨by rfl,rfl⟩,?_⟩) | (apply Exists.intro;refine⟨Or.inl ⟨by rfl,?_⟩,?_⟩;(intro x hx';go_simp;first | done | with_reducible rfl)))
   (try simp only[Act.put,List.getElem_toArray,List.getElem_cons_zero,List.getElem_cons_succ,List.setIfInBounds_toArray,List.set_cons_zero,List.set_cons_succ])
   refine Z5 (by kernel_rfl) ?_ _
   refine NoPanic.normal ?_
   (try simp only[Act.put,List.getElem_toArray,List.getElem_cons_zero,List.getElem_cons_succ,List.setIfInBounds_toArray,List.set_cons_zero,List.set_cons_succ])
   have HF:=hD0 (hnw.out.trans hS0)
   clear t6 t7 hS0 hnw
   go_wp2
   go_ret2
   exact⟨s.fd,s.ls,rfl,HR.out,HF.out⟩
end
structure LnW(w:World)(g0 g k cap:Nat)(L:List Int):Prop where
 blk:∃cur,w.heap[g]?=some (.cells cur 3 (0,0))∧k+cap≤cur.size
 rd:∀j u,(L.map (Value.int .i64))[j]?=some u→w.cell? ⟨g,k+j,none⟩=some u
 le:L.length≤cap
 lo:g0≤g
section
variable {w w':World} {g0 g k cap:Nat} {L:List Int}
theorem LnW.lt(h:LnW w g0 g k cap L):g<w.heap.size:=by
 obtain⟨cur,hb,_⟩:=h.blk
 exact hlt hb
theorem LnW.nw(h:LnW w g0 g k cap L)(n:Nw w w'):LnW w' g0 g k cap L:=by
 have hl:=h.lt
 obtain⟨cur,hb,hs⟩:=h.blk
 exact⟨⟨cur,n.at' hb,hs⟩,fun j u hu=>(n.cell hl).trans (h.rd j u hu),h.le,h.lo⟩
theorem LnW.tch{S:Nat→Prop}(h:LnW w g0 g k cap L)(n:Zd S w w')(hn:¬S g):LnW w' g0 g k cap L:=by
 have hl:=h.lt
 obtain⟨cur,hb,hs⟩:=h.blk
 exact⟨⟨cur,(n.block g hl hn).trans hb,hs⟩,fun j u hu=>(n.cell hl hn).trans (h.rd j u hu),h.le,h.lo⟩
theorem LnW.pop{x:Int}(h:LnW w g0 g k cap (x::L)):w.cell? ⟨g,k,none⟩=some (.int .i64 x)∧LnW w g0 g (if cap=1 then k else k+1) (cap-1) L:=by
 obtain⟨cur,hb,hs⟩:=h.blk
 have hle:=h.le
 simp only[List.length_cons] at hle
 refine⟨by have:=h.rd 0 _ rfl;rwa [Nat.add_zero] at this,⟨cur,hb,by split<;>omega⟩,fun j u hu=>?_,by omega,h.lo⟩
 have hj:=(List.getElem?_eq_some_iff.1 hu).1
 simp only[List.length_map] at hj
 rw[if_neg (by omega)]
 have:=h.rd (j+1) u (by simpa using hu)
 rwa [show k+(j+1)=k+1+j by omega] at this
theorem LnW.push(h:LnW w g0 g k cap L)(x:Int)(hsm:L.length≤100000)(hg0:g0≤w.heap.size) :
  ∃g' k' cap' w2,(Builtin.append_ #[25,25] 25 #[.slice (some ⟨g,k,none⟩) L.length cap,.slice (some ⟨w.heap.size,0,none⟩) 1 1]).run prog (w.alloc (.cells #[.int .i64 x] 3))=.ok (.slice (some ⟨g',k',none⟩) (L.length+1) cap') w2∧LnW w2 g0 g' k' cap' (L++[x])∧Zd (fun b=>b=g) w w2:=by
 obtain⟨i0,hi,hz0,hz1,hz2⟩:=info_parts Z8u
 have g1:Nw w (w.alloc (.cells #[.int .i64 x] 3)):=(Nw.refl w).alloc _
 have hal:=Z4 w (.cells #[.int .i64 x] 3)
 have h1:=h.nw g1
 have hgl:=h.lt
 obtain⟨z,hz⟩:∃z,w.alloc (.cells #[.int .i64 x] 3)=z:=⟨_,rfl⟩
 rw[hz] at hal g1 h1 ⊢
 have hnews:∀j u,([Value.int .i64 x]:List Value)[j]?=some u→z.cell? ((⟨w.heap.size,0,none⟩:Addr).add j)=some u:=by
  intro j u hu
  rw[Addr.add_lit,Nat.zero_add,Z2 hal]
  simpa using hu
 by_cases hroom:L.length+1≤cap
 ·obtain⟨cur,hb,hs⟩:=h1.blk
  have hc:∀j,j<([Value.int .i64 x]:List Value).length→(z.cell? ⟨g,k+L.length*i0.size+j,none⟩).isSome=true:=by
   intro j hj
   rw[hz1,Nat.mul_one]
   have hj0:j=0:=by simpa using hj
   subst hj0
   rw[Z2 hb,Array.getElem?_eq_getElem (by omega)];rfl
  have hr:=run_append_room_cells (P:=prog) z 25 25 3 i0 underlying25 hi g k L.length cap ⟨w.heap.size,0,none⟩ 1 1 [.int .i64 x] (by rw[hz1];rfl) hnews (by simp[Value.oneCell']) hroom hc (fun j hj=>hfz hb)
  rw[hz1,Nat.mul_one] at hr
  have hset:z.setCells g (k+L.length) [.int .i64 x]=z.setCell ⟨g,k+L.length,none⟩ (.int .i64 x):=rfl
  rw[hset] at hr
  have t:Zd (fun b=>b=g) z (z.setCell ⟨g,k+L.length,none⟩ (.int .i64 x)):=(Zd.refl (fun b=>b=g) z).set (p:=⟨g,k+L.length,none⟩) (.inl rfl) _
  refine⟨g,k,cap,_,hr,⟨⟨_,Go.Proofs.YtobnolgphljoeaaGreat.hset _ hb,by simpa using hs⟩,fun j u hu=>?_,by simpa using hroom,h.lo⟩,(Zd.nw g1).trans t⟩
  have hj:=(List.getElem?_eq_some_iff.1 hu).1
  rw[List.map_append] at hu hj
  by_cases q:j<L.length
  ·rw[List.getElem?_append_left (by simpa using q)] at hu
   have hold:=h1.rd j u hu
   have hne:(⟨g,k+L.length,none⟩:Addr)≠⟨g,k+j,none⟩:=fun e=>by simp at e;try omega
   rw[World.cell?_setCell_other _ _ _ _ hne]
   exact hold
  ·simp only[List.length_append,List.length_map,List.length_cons,List.length_nil] at hj
   obtain rfl:j=L.length:=by omega
   rw[List.getElem?_append_right (by simp)] at hu
   simp at hu
   subst hu
   have hsm2:=hc 0 (by simp)
   rw[hz1,Nat.mul_one,Nat.add_zero] at hsm2
   exact World.cell?_setCell_same' _ _ _ hsm2
 ·obtain⟨v',w2,hr,ho,hg⟩:=run_append_arg_grows (P:=prog) z 25 25 3 i0 _ 1 8 underlying25 hi hz0 hz1 hz2 rfl (by decide) ⟨g,k,none⟩ L.length cap (L.map (Value.int .i64)) (by simp)
   (fun j u hu=>by rw[Addr.add_lit];exact h1.rd j u hu) ⟨w.heap.size,0,none⟩ 1 1 [.int .i64 x] rfl hnews (by omega) (by unfold maxLen;omega) (by omega)
  rcases ho.2 with⟨_,q⟩ | ⟨g',cap',cur,rfl,hbg,hb,hnc,_,hcs,htake⟩
  ·simp at q
  ·refine⟨g',0,cap',w2,hr,⟨⟨cur,hb,by rw[hcs];omega⟩,fun j u hu=>?_,by simpa using hnc,Nat.le_trans hg0 (Nat.le_trans g1.sz hbg)⟩,(Zd.nw g1).trans ((Zd.refl _ z).grown hg (fun k e=>by cases e))⟩
   rw[Nat.zero_add]
   have hj:=(List.getElem?_eq_some_iff.1 hu).1
   simp only[List.length_map,List.length_append,List.length_cons,List.length_nil] at hj
   refine(World.ownsRow.cellAt ho j (by omega)).trans ?_
   rw[←hu,List.map_append];rfl
end
def Z35(w:World)(f:Value)(p:Int→Bool):Prop:=∃(g:Nat) (lb:Array Value),f=.func (.func g) #[] lb∧(∀args w,(callFunc g args).run prog w=.ok (.enter g args) w)∧∀(x:Int) (w1:World),Nw w w1→Calls prog g (#[.int .i64 x]++lb) w1 fun e w'=>e=.returned (.bool (p x))∧Nw w1 w'
def Yn(a:Int)(W:List (List Int))(x:Int):Option Int:=(W.find? fun r=>Zl a r==x).map fun r=>Zl a r.tail
theorem Y5{a:Int}{W:List (List Int)}{x:Int}:Yn a W x=none↔x∉W.map (Zl a):=by
 unfold Yn
 rw[Option.map_eq_none_iff,List.find?_eq_none]
 constructor
 ·intro h m
  obtain⟨r,hr,e⟩:=List.mem_map.1 m
  exact h r hr (by simpa using e)
 ·intro h r hr e
  exact h (List.mem_map.2 ⟨r,hr,by simpa using e⟩)
theorem Z03{a:Int}{W:List (List Int)}{y:Int}{r:List Int}(hy:y∉W.map (Zl a)):Zm (Yn a W) y (Zl a r)=Yn a (W++[y::r]):=by
 funext x
 unfold Zm
 by_cases q:x=y
 ·subst q
  rw[if_pos rfl]
  have:=Y5.2 hy
  unfold Yn at this ⊢
  rw[Option.map_eq_none_iff] at this
  rw[List.find?_append,this]
  have e:((x::r)::[]).find? (fun r=>Zl a r==x)=some (x::r):=by simp[Zl]
  rw[e];rfl
 ·rw[if_neg q]
  unfold Yn
  rw[List.find?_append]
  have:((y::r)::[]).find? (fun r=>Zl a r==x)=none:=by
   rw[List.find?_eq_none]
   intro z hz
   rw[List.mem_singleton.1 hz]
   simp[Zl];exact fun e=>q e.symm
  rw[this]
  simp
def SrP(E:List (Int × Int))(a:Int)(p:Int→Bool)(W:List (List Int)):Prop :=
 (∃h,W.length<h∧BI E a W h 0∧∀r∈W,p (Zl a r)=false) ∨
 (∃W1 y r h i,W=W1++[y::r]∧BI E a W1 h i∧([]::W1)[h]?=some r∧E[i]?=some (Zl a r,y)∧y∉W1.map (Zl a)∧p y=true∧∀r∈W1,p (Zl a r)=false)
structure SeI(W0 w:World)(mb g k cap:Nat)(a:Int)(W:List (List Int))(L:List Int):Prop where
 nw:Nw W0 w
 mp:Zg w mb (Yn a W) W.length
 ln:LnW w W0.heap.size g k cap L
 mW:W0.heap.size≤mb
section
variable {W0 w w':World} {mb g k cap:Nat} {a:Int} {W:List (List Int)} {L:List Int}
theorem SeI.mg(h:SeI W0 w mb g k cap a W L):mb≠g:=fun e=>by
 obtain⟨es,c,q⟩:=h.mp.obj
 obtain⟨cur,q2,_⟩:=h.ln.blk
 rw[e,q2] at q;cases q
def Vj(a:Int)(W:List (List Int))(h:Nat):List Int:=(([]::W).drop h).map (Zl a)
theorem Vp(a:Int)(W:List (List Int))(h:Nat):(Vj a W h).length=W.length+1-h:=by simp[Vj]
theorem Z55{a:Int}{W:List (List Int)}{h:Nat}{r:List Int}(hr:([]::W)[h]?=some r):Vj a W h=Zl a r::Vj a W (h+1):=by
 obtain⟨hl,e⟩:=List.getElem?_eq_some_iff.1 hr
 unfold Vj
 rw[←List.getElem_cons_drop hl,e];rfl
theorem Z0t{a:Int}{W:List (List Int)}{h:Nat}(x:List Int)(hh:h≤W.length+1):Vj a (W++[x]) h=Vj a W h++[Zl a x]:=by
 unfold Vj
 rw[←List.cons_append,List.drop_append_of_le_length (by simpa using hh)]
 simp
end
section
variable {W0:World} {ev:Value} {E:List (Int × Int)}
theorem Z0b(hed:Zw W0 ev E)(hs:Zj E)(hl:E.length≤1000)(hF:∀e∈E,Zc e.1∧Zc e.2)(a:Int)(ha:Zc a){f:Value}{p:Int→Bool}(hf:Z35 W0 f p) :
  Calls prog 22 #[ev,.int .i64 a,f] W0 fun e w'=>∃mb W,e=.returned (.map (some mb))∧Nw W0 w'∧W0.heap.size≤mb∧Zg w' mb (Yn a W) W.length∧SrP E a p W:=by
 have HS:=hD0 (fun(v:Int) (x:World) (g:Nw W0 x)=>Z0y v ev E x (Nat.le_trans hl (by decide)) hs (hed.nw g))
 have HA:=hD0 (aI0 hs (aI0 hl hF))
 obtain⟨ea,ec,rfl,hed'⟩:=hed
 have HD:=hD0 hed'
 obtain⟨fg,lb,rfl,eg,hfc⟩:=hf
 have HFc:=hD0 hfc
 have hmm:=@run_makeMap prog
 obtain⟨n,hn⟩:∃n,E.length=n:=⟨_,rfl⟩
 have HN:=hD0 hn
 rw[hn] at hl HS ⊢
 clear hs hF hed' hfc hn ha
 go_enter func22,ntmps22
 go_wp2_with fail
 go_step3
 go_wp2_with fail
 have s1:(W0.alloc (.map #[] 0)).heap.size=W0.heap.size+1:=by simp
 have ha2:=Z4 (W0.alloc (.map #[] 0)) (.cells #[.int .i64 a] 3)
 obtain⟨w3,hw3⟩:∃x,(W0.alloc (.map #[] 0)).alloc (.cells #[.int .i64 a] 3)=x:=⟨_,rfl⟩
 rw[s1,hw3] at ha2
 have HI0:Hid (SeI W0 w3 W0.heap.size (W0.heap.size+1) 0 1 a [] [a]):=hD0 ⟨by rw[←hw3];exact((Nw.refl W0).alloc _).alloc _,by
   rw[←hw3]
   exact(Zg.made W0).nw ((Nw.refl _).alloc _),⟨⟨_,ha2,by simp⟩,fun j u hu=>by
   rw[Z2 ha2,Nat.zero_add]
   simpa using hu,Nat.le_refl _,Nat.le_succ _⟩,Nat.le_refl _⟩
 rw[hw3]
 obtain⟨mb,hmb⟩:∃b,W0.heap.size=b:=⟨_,rfl⟩
 have HMB:=hD0 (Nat.le_of_eq hmb)
 rw[hmb] at HI0 ⊢
 clear s1 ha2 hw3 hmm hmb
 go_step3
 go_wp2_with fail
 go_loopg [8] (E.length+1) (fun gk v8 wr=>∃(g k cap h:Nat) (W:List (List Int)) (L:List Int),v8=.slice (some ⟨g,k,none⟩) L.length cap∧Hid (SeI W0 wr mb g k cap a W L∧BI E a W h 0∧Vj a W h=L∧h≤W.length+1∧gk=E.length+1-h∧∀r∈W,p (Zl a r)=false))
 case atStart=>exact⟨mb+1,0,1,0,[],[a],rfl,HI0.out,BI.start,rfl,Nat.zero_le _,rfl,by simp⟩
 case round =>
  clear HI0
  obtain⟨g,k,cap,h,W,L,rfl,HI⟩:=hrel
  cases L with
  | nil =>
   have HF:=hD0 (show SrP E a p W from .inl ⟨h,by
    have:=HI.out.2.2.1
    have e:=Vp a W h
    rw[this] at e
    simp at e
    omega,HI.out.2.1,HI.out.2.2.2.2.2⟩)
   have HI1:=hD0 HI.out.1
   clear HI
   go_wp2_with fail
   rw[Exit.noGoto_ret]
   go_ret
   exact⟨mb,W,rfl,HI1.out.nw,HI1.out.mW,HI1.out.mp,HF.out⟩
  | cons t L =>
   obtain⟨r,hr⟩:∃r,([]::W)[h]?=some r:=by
    have e:=Vp a W h
    rw[HI.out.2.2.1] at e
    simp only[List.length_cons] at e
    have hl':h<([]::W).length:=by simp only[List.length_cons];omega
    exact⟨_,List.getElem?_eq_getElem hl'⟩
   have hcons:=Z55 (a:=a) hr
   rw[HI.out.2.2.1] at hcons
   injection hcons with ht hL
   obtain⟨ct,hln⟩:=HI.out.1.ln.pop
   have hgl:=HI.out.1.ln.lt
   have hcl:L.length+1≤cap:=by have:=HI.out.1.ln.le;simpa using this
   have hb:=(HI.out.2.1.to hr (Vw E t) (Nat.zero_le _) (by rw[←ht];exact Nat.le_refl _))
   have HB:=hD0 (aI0 hb (aI0 hr (aI0 ht (aI0 hL HI.out.2.2.2.2))))
   have HG:=hD0 (show ∀wz,Nw wr wz→SeI W0 wz mb g (if cap=1 then k else k+1) (cap-1) a W L from fun wz q=>⟨HI.out.1.nw.trans q,HI.out.1.mp.nw q,hln.nw q,HI.out.1.mW⟩)
   have HS2:=hD0 (HS.out t wr HI.out.1.nw)
   obtain⟨len1,hlen1⟩:∃m,L.length+1=m:=⟨_,rfl⟩
   have hl0:(0:Int)<(len1:Int):=by omega
   have hl00:0<len1:=by omega
   have hl1:(1:Int)≤(len1:Int):=by omega
   have hl11:1≤len1:=by omega
   have hl2:((len1:Int)-1).toNat=L.length:=by omega
   have hl22:len1-1=L.length:=by omega
   rw[hlen1] at hcl
   rw[List.length_cons,hlen1]
   clear hr ht hL hln hb HI hlen1 HS
   by_cases hc1:cap=1
   ·subst hc1
    simp only[if_true,Nat.sub_self] at HG
    go_wp2_with fail
    refine HS2.out.mono ?_
    rintro e w5 ⟨rfl,g5⟩
    have HI5:=hD0 (HG.out w5 g5)
    clear g5 HS2 HG ct hgl
    go_wp2_with fail
    obtain⟨i0,hi0⟩:∃m,Vw E t=m:=⟨_,rfl⟩
    have hi0n:i0≤n:=by rw[←hi0,←HN.out];exact Z1l E t
    rw[hi0] at HB
    rw[hi0]
    have HST:=hD0 hi0
    clear hi0
    go_loopw [8,10] (fun v8 v10 wr=>∃(g k cap i:Nat) (W:List (List Int)) (L:List Int),v8=.slice (some ⟨g,k,none⟩) L.length cap∧v10=.int .i64 i∧i≤n∧Hid (SeI W0 wr mb g k cap a W L∧BI E a W h i∧Vj a W (h+1)=L∧([]::W)[h]?=some r∧i0≤i∧∀r∈W,p (Zl a r)=false)) (fun _ v10 _=>n-(intOf v10).toNat)
    case atStart=>exact⟨g,k,0,i0,W,L,rfl,rfl,hi0n,hD0 ⟨HI5.out,HB.out.1,HB.out.2.2.2.1.symm,HB.out.2.1,Nat.le_refl _,HB.out.2.2.2.2.2⟩⟩
    case round =>
     clear HI5
     generalize wr=w6 at *
     obtain⟨g6,k6,c6,i,W6,L6,rfl,rfl,hin,HI⟩:=hrel
     have HT:=hD0 (aI0 HB.out.2.2.1 HB.out.2.2.2.2.1)
     by_cases hlt:i<n
     ·have hiE:i<E.length:=by rw[HN.out];exact hlt
      obtain⟨e,he⟩:∃e,E[i]=e:=⟨_,rfl⟩
      rcases HD.out with⟨q,_⟩ | ⟨eb,eo,rfl,hrc⟩
      ·rw[q] at hiE;simp at hiE
      ·obtain⟨x0,x1⟩:=(hrc.nw HI.out.1.nw).eg hiE
       have hebl:=(hrc.nw HI.out.1.nw).lt
       rw[he] at x0 x1
       have he':E[i]?=some e:=by rw[List.getElem?_eq_getElem hiE,he]
       obtain⟨ex,ey⟩:=e
       simp only at x0 x1
       obtain⟨dl1,dl2⟩:=Z7s hlt
       have Zr:=Zo hlt
       have hw:=Zn i (i+1) (Nat.le_trans (Nat.le_of_lt hlt) (Nat.le_trans hl (by decide))) rfl
       obtain⟨i1,hi1⟩:∃m,i+1=m:=⟨_,rfl⟩
       have HI1:=hD0 hi1
       rw[hi1] at hw
       have HE:=hD0 he'
       clear he he' hiE hi1
       by_cases hx:ex=t
       ·subst hx
        have hy:=(HA.out.2.2 _ (List.mem_of_getElem? HE.out)).2
        have hr0:Zl a r=ex:=HT.out.1.symm
        cases hpy:Yn a W6 ey with
        | some z =>
         have hlk:=HI.out.1.mp.look_yes hy hpy
         have HI2:=hD0 (show SeI W0 w6 mb g6 k6 c6 a W6 L6∧BI E a W6 h i1∧Vj a W6 (h+1)=L6∧([]::W6)[h]?=some r∧i0≤i1∧∀r∈W6,p (Zl a r)=false from⟨HI.out.1,by rw[←HI1.out];exact HI.out.2.1.skip HA.out.1 HI.out.2.2.2.1 (by rw[hr0];exact HE.out) (Classical.not_not.1 (fun q=>by rw[Y5.2 q] at hpy;cases hpy)),HI.out.2.2.1,HI.out.2.2.2.1,by rw[←HI1.out];exact Nat.le_succ_of_le HI.out.2.2.2.2.1,HI.out.2.2.2.2.2⟩)
         clear hy hr0 hpy HI
         go_wp2_with fail
         go_roundw
         case rel=>exact⟨g6,k6,c6,i1,W6,L6,rfl,rfl,by rw[←HI1.out];exact hlt,HI2⟩
         case measure=>rw[←HI1.out];exact Zk hlt
        | none =>
         have hno:=Y5.1 hpy
         have hlk:=HI.out.1.mp.look_no hy hpy
         obtain⟨w7,hr7,hm7,hg7⟩:=HI.out.1.mp.put (by have:=HI.out.2.1.size;have:=HA.out.2.1;omega) hy ex
         have ht7:=Z1m hg7
         have hnw7:Nw W0 w7:=Zi HI.out.1.nw ht7 (fun b e=>by subst e;exact HI.out.1.mW)
         rw[←hr0,Z03 hno] at hm7
         have hln7:=HI.out.1.ln.tch ht7 (fun e=>HI.out.1.mg e.symm)
         have HF7:=hD0 (HFc.out ey w7 hnw7)
         have HPU:=hD0 (HI.out.2.1.push HA.out.1 HI.out.2.2.2.1 (by rw[hr0];exact HE.out) hno)
         have HR7:=hD0 hr7
         have HX7:=hD0 (aI0 hnw7 (aI0 hm7 (aI0 hln7 hno)))
         have hr0H:=hD0 hr0
         clear hr7 hm7 hg7 ht7 hnw7 hln7 hno hy hr0 hpy
         cases hp:p ey with
         | true =>
          have HPY:=hD0 hp
          rw[hp] at HF7
          clear hp
          go_wp2_with (at_mapUpdate;refine Zz rfl (.tmp 55) (.tmp 56) (.tmp 57) 41 rfl _ _ _ _ rfl rfl rfl HR7.out ?_)
          go_at_fn fg
          refine HF7.out.mono ?_
          rintro e w8 ⟨rfl,g8⟩
          have HZ:=hD0 (aI0 (HX7.out.1.trans g8) (HX7.out.2.1.nw g8))
          clear g8 HF7
          go_wp2_with fail
          try rw[Exit.noGoto_ret]
          go_ret
          exact⟨mb,W6++[ey::r],rfl,HZ.out.1,HI.out.1.mW,by rw[List.length_append,List.length_singleton];exact HZ.out.2,.inr ⟨W6,ey,r,h,i,rfl,HI.out.2.1,HI.out.2.2.2.1,by rw[hr0H.out];exact HE.out,HX7.out.2.2.2,HPY.out,HI.out.2.2.2.2.2⟩⟩
         | false =>
          have HPY:=hD0 hp
          rw[hp] at HF7
          clear hp
          go_wp2_with (at_mapUpdate;refine Zz rfl (.tmp 55) (.tmp 56) (.tmp 57) 41 rfl _ _ _ _ rfl rfl rfl HR7.out ?_)
          go_at_fn fg
          refine HF7.out.mono ?_
          rintro e w8 ⟨rfl,g8⟩
          have hln8:=HX7.out.2.2.1.nw g8
          obtain⟨g9,k9,c9,w9,hr9,hln9,ht9⟩:=hln8.push ey (by
           have e:=Vp a W6 (h+1)
           rw[HI.out.2.2.1] at e
           have:=HI.out.2.1.size
           have:=HA.out.2.1
           omega) (HX7.out.1.trans g8).sz
          have hA9:SeI W0 w9 mb g9 k9 c9 a (W6++[ey::r]) (L6++[ey]):=by
           refine⟨Zi (HX7.out.1.trans g8) ht9 (fun b e=>by subst e;exact hln8.lo),?_,hln9,HI.out.1.mW⟩
           rw[List.length_append,List.length_singleton]
           exact(HX7.out.2.1.nw g8).tch ht9 (fun e=>HI.out.1.mg e)
          have hB9:Vj a (W6++[ey::r]) (h+1)=L6++[ey]:=by
           have h1:=(List.getElem?_eq_some_iff.1 HI.out.2.2.2.1).1
           simp only[List.length_cons] at h1
           rw[Z0t _ (by omega),HI.out.2.2.1];rfl
          have hC9:∀r'∈W6++[ey::r],p (Zl a r')=false:=by
           intro q hq
           rcases List.mem_append.1 hq with hq | hq
           ·exact HI.out.2.2.2.2.2 q hq
           ·rw[List.mem_singleton.1 hq];exact HPY.out
          have hD9:BI E a (W6++[ey::r]) h i1:=by rw[←HI1.out];exact HPU.out
          have hE9:i0≤i1:=by rw[←HI1.out];exact Nat.le_succ_of_le HI.out.2.2.2.2.1
          have HI9:=hD0 (aI0 hA9 (aI0 hD9 (aI0 hB9 (aI0 (Z89 (x:=ey::r) HI.out.2.2.2.1) (aI0 hE9 hC9)))))
          clear hA9 hB9 hC9 hD9 hE9
          obtain⟨l9,hl9⟩:∃m,L6.length+1=m:=⟨_,rfl⟩
          have HL9:=hD0 hl9
          rw[hl9] at hr9
          have HR9:=hD0 hr9
          clear g8 HF7 hln8 hr9 hln9 ht9 hl9 HX7 HPU
          go_wp2_with (at_builtin;refine Z7 (by rfl) (.tmp 61) (.tmp 63) 25 rfl _ _ _ _ rfl rfl HR9.out ?_)
          go_roundw
          case rel=>exact⟨g9,k9,c9,i1,W6++[ey::r],L6++[ey],by rw[←HL9.out,List.length_append,List.length_singleton],rfl,by rw[←HI1.out];exact hlt,HI9⟩
          case measure=>rw[←HI1.out];exact Zk hlt
       ·have hx1:(ex==t)=false:=by simpa using hx
        have HNX:=hD0 (HI.out.2.1.next HA.out.1 HI.out.2.2.2.1 (by rw[←HT.out.1,HST.out];exact HI.out.2.2.2.2.1) (fun y q=>by
         rw[HE.out] at q
         injection q with q
         injection q with q _
         exact hx (by rw[q];exact HT.out.1.symm)) 0 (fun _ _=>Nat.zero_le _))
        go_wp2_with fail
        go_roundg (E.length+1-(h+1))
        case measure =>
         rw[HT.out.2]
         have:=(List.getElem?_eq_some_iff.1 HI.out.2.2.2.1).1
         have h2:=HI.out.2.1.size
         simp at this
         omega
        case rel=>exact⟨g6,k6,c6,h+1,W6,L6,rfl,HI.out.1,HNX.out,HI.out.2.2.1,by
         have:=(List.getElem?_eq_some_iff.1 HI.out.2.2.2.1).1
         simp at this
         omega,rfl,HI.out.2.2.2.2.2⟩
     ·obtain rfl:i=n:=Nat.le_antisymm hin (Nat.le_of_not_lt hlt)
      obtain⟨dl1,dl2⟩:=Z5y (Nat.lt_irrefl i)
      have HNX:=hD0 (HI.out.2.1.next HA.out.1 HI.out.2.2.2.1 (by rw[←HT.out.1,HST.out];exact HI.out.2.2.2.2.1) (fun y q=>by
       have:=(List.getElem?_eq_some_iff.1 q).1
       have:=HN.out
       omega) 0 (fun _ _=>Nat.zero_le _))
      go_wp2_with fail
      go_roundg (E.length+1-(h+1))
      case measure =>
       rw[HT.out.2]
       have:=(List.getElem?_eq_some_iff.1 HI.out.2.2.2.1).1
       have h2:=HI.out.2.1.size
       simp at this
       omega
      case rel=>exact⟨g6,k6,c6,h+1,W6,L6,rfl,HI.out.1,HNX.out,HI.out.2.2.1,by
       have:=(List.getElem?_eq_some_iff.1 HI.out.2.2.2.1).1
       simp at this
       omega,rfl,HI.out.2.2.2.2.2⟩
   ·obtain⟨k1,hk1⟩:∃m,k+1=m:=⟨_,rfl⟩
    obtain⟨c1,hcc⟩:∃m,cap-1=m:=⟨_,rfl⟩
    rw[if_neg hc1,hk1,hcc] at HG
    go_wp2_with fail
    refine HS2.out.mono ?_
    rintro e w5 ⟨rfl,g5⟩
    have HI5:=hD0 (HG.out w5 g5)
    clear g5 HS2 HG ct hgl
    go_wp2_with fail
    obtain⟨i0,hi0⟩:∃m,Vw E t=m:=⟨_,rfl⟩
    have hi0n:i0≤n:=by rw[←hi0,←HN.out];exact Z1l E t
    rw[hi0] at HB
    rw[hi0]
    have HST:=hD0 hi0
    clear hi0
    go_loopw [8,10] (fun v8 v10 wr=>∃(g k cap i:Nat) (W:List (List Int)) (L:List Int),v8=.slice (some ⟨g,k,none⟩) L.length cap∧v10=.int .i64 i∧i≤n∧Hid (SeI W0 wr mb g k cap a W L∧BI E a W h i∧Vj a W (h+1)=L∧([]::W)[h]?=some r∧i0≤i∧∀r∈W,p (Zl a r)=false)) (fun _ v10 _=>n-(intOf v10).toNat)
    case atStart=>exact⟨g,k1,c1,i0,W,L,rfl,rfl,hi0n,hD0 ⟨HI5.out,HB.out.1,HB.out.2.2.2.1.symm,HB.out.2.1,Nat.le_refl _,HB.out.2.2.2.2.2⟩⟩
    case round =>
     clear HI5
     generalize wr=w6 at *
     obtain⟨g6,k6,c6,i,W6,L6,rfl,rfl,hin,HI⟩:=hrel
     have HT:=hD0 (aI0 HB.out.2.2.1 HB.out.2.2.2.2.1)
     by_cases hlt:i<n
     ·have hiE:i<E.length:=by rw[HN.out];exact hlt
      obtain⟨e,he⟩:∃e,E[i]=e:=⟨_,rfl⟩
      rcases HD.out with⟨q,_⟩ | ⟨eb,eo,rfl,hrc⟩
      ·rw[q] at hiE;simp at hiE
      ·obtain⟨x0,x1⟩:=(hrc.nw HI.out.1.nw).eg hiE
       have hebl:=(hrc.nw HI.out.1.nw).lt
       rw[he] at x0 x1
       have he':E[i]?=some e:=by rw[List.getElem?_eq_getElem hiE,he]
       obtain⟨ex,ey⟩:=e
       simp only at x0 x1
       obtain⟨dl1,dl2⟩:=Z7s hlt
       have Zr:=Zo hlt
       have hw:=Zn i (i+1) (Nat.le_trans (Nat.le_of_lt hlt) (Nat.le_trans hl (by decide))) rfl
       obtain⟨i1,hi1⟩:∃m,i+1=m:=⟨_,rfl⟩
       have HI1:=hD0 hi1
       rw[hi1] at hw
       have HE:=hD0 he'
       clear he he' hiE hi1
       by_cases hx:ex=t
       ·subst hx
        have hy:=(HA.out.2.2 _ (List.mem_of_getElem? HE.out)).2
        have hr0:Zl a r=ex:=HT.out.1.symm
        cases hpy:Yn a W6 ey with
        | some z =>
         have hlk:=HI.out.1.mp.look_yes hy hpy
         have HI2:=hD0 (show SeI W0 w6 mb g6 k6 c6 a W6 L6∧BI E a W6 h i1∧Vj a W6 (h+1)=L6∧([]::W6)[h]?=some r∧i0≤i1∧∀r∈W6,p (Zl a r)=false from⟨HI.out.1,by rw[←HI1.out];exact HI.out.2.1.skip HA.out.1 HI.out.2.2.2.1 (by rw[hr0];exact HE.out) (Classical.not_not.1 (fun q=>by rw[Y5.2 q] at hpy;cases hpy)),HI.out.2.2.1,HI.out.2.2.2.1,by rw[←HI1.out];exact Nat.le_succ_of_le HI.out.2.2.2.2.1,HI.out.2.2.2.2.2⟩)
         clear hy hr0 hpy HI
         go_wp2_with fail
         go_roundw
         case rel=>exact⟨g6,k6,c6,i1,W6,L6,rfl,rfl,by rw[←HI1.out];exact hlt,HI2⟩
         case measure=>rw[←HI1.out];exact Zk hlt
        | none =>
         have hno:=Y5.1 hpy
         have hlk:=HI.out.1.mp.look_no hy hpy
         obtain⟨w7,hr7,hm7,hg7⟩:=HI.out.1.mp.put (by have:=HI.out.2.1.size;have:=HA.out.2.1;omega) hy ex
         have ht7:=Z1m hg7
         have hnw7:Nw W0 w7:=Zi HI.out.1.nw ht7 (fun b e=>by subst e;exact HI.out.1.mW)
         rw[←hr0,Z03 hno] at hm7
         have hln7:=HI.out.1.ln.tch ht7 (fun e=>HI.out.1.mg e.symm)
         have HF7:=hD0 (HFc.out ey w7 hnw7)
         have HPU:=hD0 (HI.out.2.1.push HA.out.1 HI.out.2.2.2.1 (by rw[hr0];exact HE.out) hno)
         have HR7:=hD0 hr7
         have HX7:=hD0 (aI0 hnw7 (aI0 hm7 (aI0 hln7 hno)))
         have hr0H:=hD0 hr0
         clear hr7 hm7 hg7 ht7 hnw7 hln7 hno hy hr0 hpy
         cases hp:p ey with
         | true =>
          have HPY:=hD0 hp
          rw[hp] at HF7
          clear hp
          go_wp2_with (at_mapUpdate;refine Zz rfl (.tmp 55) (.tmp 56) (.tmp 57) 41 rfl _ _ _ _ rfl rfl rfl HR7.out ?_)
          go_at_fn fg
          refine HF7.out.mono ?_
          rintro e w8 ⟨rfl,g8⟩
          have HZ:=hD0 (aI0 (HX7.out.1.trans g8) (HX7.out.2.1.nw g8))
          clear g8 HF7
          go_wp2_with fail
          try rw[Exit.noGoto_ret]
          go_ret
          exact⟨mb,W6++[ey::r],rfl,HZ.out.1,HI.out.1.mW,by rw[List.length_append,List.length_singleton];exact HZ.out.2,.inr ⟨W6,ey,r,h,i,rfl,HI.out.2.1,HI.out.2.2.2.1,by rw[hr0H.out];exact HE.out,HX7.out.2.2.2,HPY.out,HI.out.2.2.2.2.2⟩⟩
         | false =>
          have HPY:=hD0 hp
          rw[hp] at HF7
          clear hp
          go_wp2_with (at_mapUpdate;refine Zz rfl (.tmp 55) (.tmp 56) (.tmp 57) 41 rfl _ _ _ _ rfl rfl rfl HR7.out ?_)
          go_at_fn fg
          refine HF7.out.mono ?_
          rintro e w8 ⟨rfl,g8⟩
          have hln8:=HX7.out.2.2.1.nw g8
          obtain⟨g9,k9,c9,w9,hr9,hln9,ht9⟩:=hln8.push ey (by
           have e:=Vp a W6 (h+1)
           rw[HI.out.2.2.1] at e
           have:=HI.out.2.1.size
           have:=HA.out.2.1
           omega) (HX7.out.1.trans g8).sz
          have hA9:SeI W0 w9 mb g9 k9 c9 a (W6++[ey::r]) (L6++[ey]):=by
           refine⟨Zi (HX7.out.1.trans g8) ht9 (fun b e=>by subst e;exact hln8.lo),?_,hln9,HI.out.1.mW⟩
           rw[List.length_append,List.length_singleton]
           exact(HX7.out.2.1.nw g8).tch ht9 (fun e=>HI.out.1.mg e)
          have hB9:Vj a (W6++[ey::r]) (h+1)=L6++[ey]:=by
           have h1:=(List.getElem?_eq_some_iff.1 HI.out.2.2.2.1).1
           simp only[List.length_cons] at h1
           rw[Z0t _ (by omega),HI.out.2.2.1];rfl
          have hC9:∀r'∈W6++[ey::r],p (Zl a r')=false:=by
           intro q hq
           rcases List.mem_append.1 hq with hq | hq
           ·exact HI.out.2.2.2.2.2 q hq
           ·rw[List.mem_singleton.1 hq];exact HPY.out
          have hD9:BI E a (W6++[ey::r]) h i1:=by rw[←HI1.out];exact HPU.out
          have hE9:i0≤i1:=by rw[←HI1.out];exact Nat.le_succ_of_le HI.out.2.2.2.2.1
          have HI9:=hD0 (aI0 hA9 (aI0 hD9 (aI0 hB9 (aI0 (Z89 (x:=ey::r) HI.out.2.2.2.1) (aI0 hE9 hC9)))))
          clear hA9 hB9 hC9 hD9 hE9
          obtain⟨l9,hl9⟩:∃m,L6.length+1=m:=⟨_,rfl⟩
          have HL9:=hD0 hl9
          rw[hl9] at hr9
          have HR9:=hD0 hr9
          clear g8 HF7 hln8 hr9 hln9 ht9 hl9 HX7 HPU
          go_wp2_with (at_builtin;refine Z7 (by rfl) (.tmp 61) (.tmp 63) 25 rfl _ _ _ _ rfl rfl HR9.out ?_)
          go_roundw
          case rel=>exact⟨g9,k9,c9,i1,W6++[ey::r],L6++[ey],by rw[←HL9.out,List.length_append,List.length_singleton],rfl,by rw[←HI1.out];exact hlt,HI9⟩
          case measure=>rw[←HI1.out];exact Zk hlt
       ·have hx1:(ex==t)=false:=by simpa using hx
        have HNX:=hD0 (HI.out.2.1.next HA.out.1 HI.out.2.2.2.1 (by rw[←HT.out.1,HST.out];exact HI.out.2.2.2.2.1) (fun y q=>by
         rw[HE.out] at q
         injection q with q
         injection q with q _
         exact hx (by rw[q];exact HT.out.1.symm)) 0 (fun _ _=>Nat.zero_le _))
        go_wp2_with fail
        go_roundg (E.length+1-(h+1))
        case measure =>
         rw[HT.out.2]
         have:=(List.getElem?_eq_some_iff.1 HI.out.2.2.2.1).1
         have h2:=HI.out.2.1.size
         simp at this
         omega
        case rel=>exact⟨g6,k6,c6,h+1,W6,L6,rfl,HI.out.1,HNX.out,HI.out.2.2.1,by
         have:=(List.getElem?_eq_some_iff.1 HI.out.2.2.2.1).1
         simp at this
         omega,rfl,HI.out.2.2.2.2.2⟩
     ·obtain rfl:i=n:=Nat.le_antisymm hin (Nat.le_of_not_lt hlt)
      obtain⟨dl1,dl2⟩:=Z5y (Nat.lt_irrefl i)
      have HNX:=hD0 (HI.out.2.1.next HA.out.1 HI.out.2.2.2.1 (by rw[←HT.out.1,HST.out];exact HI.out.2.2.2.2.1) (fun y q=>by
       have:=(List.getElem?_eq_some_iff.1 q).1
       have:=HN.out
       omega) 0 (fun _ _=>Nat.zero_le _))
      go_wp2_with fail
      go_roundg (E.length+1-(h+1))
      case measure =>
       rw[HT.out.2]
       have:=(List.getElem?_eq_some_iff.1 HI.out.2.2.2.1).1
       have h2:=HI.out.2.1.size
       simp at this
       omega
      case rel=>exact⟨g6,k6,c6,h+1,W6,L6,rfl,HI.out.1,HNX.out,HI.out.2.2.1,by
       have:=(List.getElem?_eq_some_iff.1 HI.out.2.2.2.1).1
       simp at this
       omega,rfl,HI.out.2.2.2.2.2⟩
end
end Go.Proofs.YtobnolgphljoeaaGreat
