/- Texts merged: WbT, WcJ, WcK -/
import Derived.Test.YtbefaomgldckdaaVictimNamesB9
import Derived.Deep.LoopGhost
set_option linter.unusedVariables false
set_option maxRecDepth 100000
set_option maxHeartbeats 16000000
namespace Go.Proofs.Ytbefaomgldckdaa
open Go.RowKit _root_.Go.Proofs.Try
structure Vy(F:Int→Prop)(E:List (Int × Int))(s0:Gb)(t:Int)(C:Nat)(s:Gb)(N:Nat):Prop where
 gi:Vz E s
 mono:∀v,s0.pl v≠none→s.pl v≠none
 vis:s.pl t≠none
 fit:∀v,s.pl v≠none→F v
 cnt:N+2*Yg (V4 E s) E.length≤C
section
variable {F:Int→Prop} {E:List (Int × Int)} {s0 s:Gb} {t:Int} {C N:Nat}
theorem Vm(s:Gb)(u v:Int):(Zu E s u).pl v≠none↔v=u∨s.pl v≠none:=by
 by_cases q:v=u
 ·subst q;simp[Zu,Zg]
 ·simp[Zu,Zg,q]
theorem Vy.enew(h:Vy F E s0 t C s N)(hs:Zh E)(hF:∀e∈E,F e.2){p:List Int}{v u:Int}(hp:s.path=p++[v]){i:Nat}(hn:s.nx v=some i)(he:E[i]?=some (v,u))(hu:s.pl u=none) :
  Vy F E s0 t C (Zu E (Zz s v i) u) (N+2)∧U4 E (Zu E (Zz s v i) u)<U4 E s:=by
 have hm:=List.mem_of_getElem? he
 obtain⟨it,h1,h2,_⟩:=h.gi.tpos hp
 have hv:s.pl v≠some (-1):=by rw[h2];intro q;injection q with q;omega
 have g1:=h.gi.inc1 hs hn he hv
 have g2:Vz E (Zu E (Zz s v i) u):=g1.new hs hu (fun a b q=>by
  have q':a=v∧b=u:=Classical.not_not.1 q
  exact⟨q'.2,p,by show s.path=_;rw[hp,q'.1]⟩) (fun j a ha=>by
  rcases h.gi.toEnd hp (show s.op[j]?=some a from ha)with e | e
  ·rw[e];exact .single hm
  ·exact .tail e hm)
 have hun:(Zz s v i).nx u=none:=(g1.nxn u).2 hu
 have c1:=U2 (E:=E) hs hn he
 have c2:V4 E (Zu E (Zz s v i) u)=V4 E (Zz s v i):=Z33 hs hun
 have hc:=h.cnt
 refine⟨⟨g2,fun x hx=>(Vm _ u x).2 (.inr (h.mono x hx)),(Vm _ u t).2 (.inr h.vis),fun x hx=>?_,by rw[c2];omega⟩,?_⟩
 ·rcases(Vm _ u x).1 hx with e | e
  ·rw[e];exact hF _ hm
  ·exact h.fit x e
 ·unfold U4
  rw[c2]
  show 2*_+(s.path++[u]).length<_
  rw[List.length_append,List.length_singleton]
  omega
theorem Vy.eshut(h:Vy F E s0 t C s N)(hs:Zh E){p:List Int}{v u:Int}(hp:s.path=p++[v]){i:Nat}(hn:s.nx v=some i)(he:E[i]?=some (v,u))(hu:s.pl u=some (-1)) :
  Vy F E s0 t C (Zz s v i) N∧U4 E (Zz s v i)<U4 E s:=by
 obtain⟨it,h1,h2,_⟩:=h.gi.tpos hp
 have hv:s.pl v≠some (-1):=by rw[h2];intro q;injection q with q;omega
 have g1:=h.gi.inc1 hs hn he hv
 have g2:Vz E (Zz s v i):=g1.shut hu (fun a b q=>(Classical.not_not.1 q).2)
 have c1:=U2 (E:=E) hs hn he
 have hc:=h.cnt
 refine⟨⟨g2,h.mono,h.vis,h.fit,by omega⟩,?_⟩
 unfold U4
 show 2*_+s.path.length<_
 omega
theorem Vy.etie(h:Vy F E s0 t C s N)(hs:Zh E){p:List Int}{v u:Int}(hp:s.path=p++[v]){i:Nat}(hn:s.nx v=some i)(he:E[i]?=some (v,u)){q:Nat}(hu:s.pl u=some (q:Int)) :
  ∃K k0 K',s.kn=K++k0::K'∧k0.f≤q∧(∀k∈K',q<k.f)∧Vy F E s0 t C (Vx (Zz s v i) K k0) N∧U4 E (Vx (Zz s v i) K k0)<U4 E s:=by
 obtain⟨it,h1,h2,_⟩:=h.gi.tpos hp
 have hv:s.pl v≠some (-1):=by rw[h2];intro q;injection q with q;omega
 have g1:=h.gi.inc1 hs hn he hv
 have hq:=(h.gi.at' u q).1 hu
 obtain⟨K,k0,K',hk,k1,k2⟩:=h.gi.cut (List.getElem?_eq_some_iff.1 hq).1
 have g2:Vz E (Vx (Zz s v i) K k0):=g1.tie hp hq (List.mem_of_getElem? he) (fun a b q=>Classical.not_not.1 q) hk k1 k2
 have c1:=U2 (E:=E) hs hn he
 have hc:=h.cnt
 have hx:V4 E (Vx (Zz s v i) K k0)=V4 E (Zz s v i):=Z2i rfl
 refine⟨K,k0,K',hk,k1,k2,⟨g2,h.mono,h.vis,h.fit,by rw[hx];omega⟩,?_⟩
 unfold U4
 rw[hx]
 show 2*_+s.path.length<_
 omega
theorem GI.lastK(g:Vz E s){p:List Int}{v:Int}(hp:s.path=p++[v]):∃K k0,s.kn=K++[k0]:=by
 obtain⟨it,h1,_,_⟩:=g.tpos hp
 obtain⟨k,hk,_⟩:=g.zer (fun h=>by rw[h] at h1;simp at h1)
 rcases List.eq_nil_or_concat s.kn with e | ⟨K,k0,e⟩
 ·rw[e] at hk;cases hk
 ·exact⟨K,k0,by rw[e,List.concat_eq_append]⟩
theorem Vy.lback(h:Vy F E s0 t C s N)(hs:Zh E){p:List Int}{v:Int}(hp:s.path=p++[v])(hf:∀w,(v,w)∈E→ExG E s v w){K:List Kn}{k0:Kn}(hk:s.kn=K++[k0]){it:Nat}(ht:s.pl v=some (it:Int))(hlt:k0.f<it) :
  Vy F E s0 t C (Zs s p) N∧U4 E (Zs s p)<U4 E s:=by
 have hi:=h.gi.inc
 rw[hk,List.pairwise_append] at hi
 have g2:Vz E (Zs s p):=h.gi.back hp hf ((h.gi.at' v it).1 ht) (fun k hkm=>by
  rw[hk] at hkm
  rcases List.mem_append.1 hkm with q | q
  ·have:=hi.2.2 k q k0 (by simp);omega
  ·rw[List.mem_singleton.1 q];omega)
 have hx:V4 E (Zs s p)=V4 E s:=Z2i rfl
 refine⟨⟨g2,h.mono,h.vis,h.fit,by rw[hx];exact h.cnt⟩,?_⟩
 unfold U4
 rw[hx,hp]
 show 2*_+p.length<_
 simp
theorem Vy.lclose(h:Vy F E s0 t C s N)(hs:Zh E){p:List Int}{v:Int}(hp:s.path=p++[v])(hf:∀w,(v,w)∈E→ExG E s v w){K:List Kn}{k0:Kn}(hk:s.kn=K++[k0])(ht:s.pl v=some (k0.f:Int)){m:Int}(hm:m∈s.op.drop k0.f)(hmm:∀x∈s.op.drop k0.f,m≤x) :
  Vy F E s0 t C (Zk s p K k0 m) N∧U4 E (Zk s p K k0 m)<U4 E s:=by
 have g2:Vz E (Zk s p K k0 m):=h.gi.close hp hf hk ((h.gi.at' v k0.f).1 ht) hm hmm
 have hx:V4 E (Zk s p K k0 m)=V4 E s:=Z2i rfl
 have hpl:∀x,(Zk s p K k0 m).pl x≠none↔s.pl x≠none:=fun x=>by
  show(if x∈s.op.drop k0.f then some (-1)else s.pl x)≠none↔_
  by_cases c:x∈s.op.drop k0.f
  ·rw[if_pos c]
   obtain⟨j,hj,e⟩:=List.getElem_of_mem (List.mem_of_mem_drop c)
   rw[(h.gi.at' x j).2 (by rw[List.getElem?_eq_getElem hj,e])]
   simp
  ·rw[if_neg c]
 refine⟨⟨g2,fun x hx=>(hpl x).2 (h.mono x hx),(hpl t).2 h.vis,fun x hx=>h.fit x ((hpl x).1 hx),by rw[hx];exact h.cnt⟩,?_⟩
 unfold U4
 rw[hx,hp]
 show 2*_+p.length<_
 simp
theorem GI.lastF(g:Vz E s){p:List Int}{v:Int}(hp:s.path=p++[v]){K:List Kn}{k0:Kn}(hk:s.kn=K++[k0]):∃it:Nat,s.pl v=some (it:Int)∧k0.f≤it∧it<s.op.length:=by
 obtain⟨it,h1,h2,h3⟩:=g.tpos hp
 exact⟨it,h2,h3 k0 (by rw[hk];simp),(List.getElem?_eq_some_iff.1 h1).1⟩
theorem Vy.first(g:Vz E s)(hs:Zh E)(hp:s.path=[])(hft:∀v,s.pl v≠none→F v)(ht:F t)(hn:s.pl t=none)(hC:N+2+2*Yg (V4 E s) E.length≤C):Vy F E s t C (Zu E s t) (N+2):=by
 have ho:=(g.done hp).1
 have g2:Vz E (Zu E s t):=g.new hs hn (fun v w q=>absurd trivial q) (fun i a ha=>by rw[ho] at ha;simp at ha)
 refine⟨g2,fun v hv=>(Vm _ t v).2 (.inr hv),(Vm _ t t).2 (.inl rfl),fun v hv=>?_,by rw[Z33 hs ((g.nxn t).2 hn)];exact hC⟩
 rcases(Vm _ t v).1 hv with e | e
 ·rw[e];exact ht
 ·exact hft v e
theorem Vy.again(g:Vz E s)(hft:∀v,s.pl v≠none→F v)(hn:s.pl t≠none)(hC:N+2*Yg (V4 E s) E.length≤C):Vy F E s t C s N:=⟨g,fun _ h=>h,hn,hft,hC⟩
end
structure FrI(W0:World)(o:Nat)(ev:Value)(E:List (Int × Int))(s0:Gb)(t:Int)(C:Nat)(s:Gb)(N:Nat)(w:World):Prop where
 wk:Wk W0 w o ev E s N
 fr:Vy Z6 E s0 t C s N
section
variable {W0 w w':World} {o N:Nat} {ev:Value} {E:List (Int × Int)} {s0 s:Gb} {t:Int} {C:Nat}
theorem Z2o(h:Wk W0 w o ev E s N)(g:Vz E s)(hs:Zh E)(hl:E.length≤100000)(hp:s.path=[])(hft:∀v,s.pl v≠none→Z6 v)(ht:Z6 t)(hC:N+2+2*Yg (V4 E s) E.length≤C)(hCb:C≤100000) :
  Calls prog 47 #[.pointer (some ⟨o,0,none⟩),.int .i64 t] w fun e w'=>e=.returned (.tuple #[])∧∃s1 N1,FrI W0 o ev E s t C s1 N1 w':=by
 cases hn:s.pl t with
 | none =>
  refine(Z1s h (by omega) hl hs ht hn).mono ?_
  rintro e w' ⟨rfl,k⟩
  exact⟨rfl,_,_,k,Vy.first g hs hp hft ht hn hC⟩
 | some q =>
  have hn':s.pl t≠none:=by rw[hn];simp
  refine(Z0c h ht ((g.done hp).2.2 t hn')).mono ?_
  rintro e w' ⟨rfl,k⟩
  exact⟨rfl,_,_,k,Vy.again g hft hn' (by omega)⟩
theorem Z3u{v u:Int}{i:Nat}(h:Wk W0 w o ev E (Zz s v i) N)(hs:Zh E)(hl:E.length≤100000)(hF:∀e∈E,Z6 e.1∧Z6 e.2)(f:Vy Z6 E s0 t C s N)(hCb:C≤100000){p:List Int}(hp:s.path=p++[v])(hn:s.nx v=some i)(he:E[i]?=some (v,u)) :
  Calls prog 47 #[.pointer (some ⟨o,0,none⟩),.int .i64 u] w fun e w'=>e=.returned (.tuple #[])∧∃s1 N1,FrI W0 o ev E s0 t C s1 N1 w'∧U4 E s1<U4 E s:=by
 have hu:=(hF _ (List.mem_of_getElem? he)).2
 have c1:=U2 (E:=E) hs hn he
 have hc:=f.cnt
 cases hq:s.pl u with
 | none =>
  obtain⟨f1,m1⟩:=f.enew hs (fun e he=>(hF e he).2) hp hn he hq
  refine(Z1s h (by omega) hl hs hu hq).mono ?_
  rintro e w' ⟨rfl,k⟩
  exact⟨rfl,_,_,⟨k,f1⟩,m1⟩
 | some q =>
  rcases f.gi.cl u q hq with x | x
  ·subst x
   obtain⟨f1,m1⟩:=f.eshut hs hp hn he hq
   refine(Z0c h hu hq).mono ?_
   rintro e w' ⟨rfl,k⟩
   exact⟨rfl,_,_,⟨k,f1⟩,m1⟩
  ·obtain⟨j,rfl⟩:=Int.eq_ofNat_of_zero_le x
   obtain⟨K,k0,K',hk,k1,k2,f1,m1⟩:=f.etie hs hp hn he hq
   refine(Z3v h (by omega) hu hq hk k1 k2).mono ?_
   rintro e w' ⟨rfl,k⟩
   exact⟨rfl,_,_,⟨k,f1⟩,m1⟩
theorem Z0a(h:Wk W0 w o ev E s N)(hs:Zh E)(f:Vy Z6 E s0 t C s N)(hCb:C≤100000){p:List Int}{v:Int}(hp:s.path=p++[v])(hf:∀w,(v,w)∈E→ExG E s v w) :
  Calls prog 48 #[.pointer (some ⟨o,0,none⟩),.int .i64 v] w fun e w'=>e=.returned (.tuple #[])∧∃s1 N1,FrI W0 o ev E s0 t C s1 N1 w'∧U4 E s1<U4 E s:=by
 have hc:=f.cnt
 obtain⟨K,k0,hk⟩:=f.gi.lastK hp
 obtain⟨it,h1,h2,h3⟩:=f.gi.lastF hp hk
 have hv:=f.fit v (by rw[h1];simp)
 have hfit:∀x∈s.op,Z6 x∧s.pl x≠none:=fun x hx=>by
  obtain⟨j,hj,e⟩:=List.getElem_of_mem hx
  have e2:=(f.gi.at' x j).2 (by rw[List.getElem?_eq_getElem hj,e])
  have e3:s.pl x≠none:=by rw[e2];simp
  exact⟨f.fit x e3,e3⟩
 rcases Nat.lt_or_eq_of_le h2 with q | q
 ·obtain⟨f1,m1⟩:=f.lback hs hp hf hk h1 q
  refine(Z2m h (by omega) hp hv hk h1 q).mono ?_
  rintro e w' ⟨rfl,k⟩
  exact⟨rfl,_,_,⟨k,f1⟩,m1⟩
 ·subst q
  cases hlp:k0.lp with
  | true =>
   refine(Z2n h (by omega) hp hv hk hlp h1 h3 hfit).mono ?_
   rintro e w' ⟨rfl,m,a1,a2,k⟩
   obtain⟨f1,m1⟩:=f.lclose hs hp hf hk h1 a1 a2
   exact⟨rfl,_,_,⟨k,f1⟩,m1⟩
  | false =>
   refine(Z3r h (by omega) hp hv hk hlp h1 h3 hfit).mono ?_
   rintro e w' ⟨rfl,m,a1,a2,k⟩
   obtain⟨f1,m1⟩:=f.lclose hs hp hf hk h1 a1 a2
   exact⟨rfl,_,_,⟨k,f1⟩,m1⟩
theorem Z1l(h:Wk W0 w o ev E s N)(g:Vz E s)(hs:Zh E)(hl:E.length≤100000)(hF:∀e∈E,Z6 e.1∧Z6 e.2)(hp:s.path=[])(hft:∀v,s.pl v≠none→Z6 v)(ht:Z6 t)(hC:N+2+2*Yg (V4 E s) E.length≤C)(hCb:C≤100000) :
  Calls prog 35 #[.pointer (some ⟨o,0,none⟩),.int .i64 t] w fun e w'=>e=.returned (.tuple #[])∧∃s1 N1,FrI W0 o ev E s t C s1 N1 w'∧s1.path=[]:=by
 have HM:=hD0 (Z2o h g hs hl hp hft ht hC hCb)
 have HA:=hD0 (aI0 hs (aI0 hl (aI0 hF hCb)))
 have hed:Zl W0 ev E:=by obtain⟨_,_,_,_,_,k⟩:=h;exact k.ed
 obtain⟨ea,ec,rfl,hed'⟩:=hed
 have HD:=hD0 hed'
 clear h g hs hF hp hft ht hC hCb hed'
 go_enter func35,ntmps35
 go_wp2_with fail
 refine HM.out.mono ?_
 rintro e w1 ⟨rfl,s1,N1,hI1⟩
 have HI1:=hD0 hI1
 clear hI1 HM
 go_wp2_with fail
 go_loopg [4] (U4 E s1) (fun k v wr=>∃s' N',Hid (FrI W0 o (.slice ea E.length ec) E s t C s' N' wr∧U4 E s'=k))
 case atStart=>exact⟨s1,N1,HI1.out,rfl⟩
 case round =>
  obtain⟨s',N',HI⟩:=hrel
  obtain⟨mb,pb,vp,vo,vk,hk⟩:=HI.out.1.wk
  obtain⟨pa,pc,rfl,hpa⟩:=hk.pa.box
  obtain⟨c0,c1,c2,c3,c4,c5,c6,c7⟩:=hk.c
  have hol:=hk.ol
  rcases List.eq_nil_or_concat s'.path with hp | ⟨p,v,hp⟩
  ·have hz:s'.path.length=0:=by rw[hp];rfl
   rw[hz] at c3
   have HE:=hD0 (aI0 HI.out.1 hp)
   clear hk hpa c0 c1 c2 c4 c5 c6 c7 hz hp HI
   go_wp2
   refine bodyPost_end (results_none rfl _ _ _) rfl ?_
   exact⟨rfl,s',N',HE.out.1,HE.out.2⟩
  ·rw[List.concat_eq_append] at hp
   have hpl:s'.path.length=p.length+1:=by rw[hp];simp
   obtain⟨ga,rfl,_⟩:=hpa (by omega)
   obtain⟨n1,hn1⟩:∃n,p.length=n:=⟨_,rfl⟩
   obtain⟨nn,hnn⟩:∃n,s'.path.length=n:=⟨_,rfl⟩
   have hcv:wr.cell? ⟨ga,n1,none⟩=some (.int .i64 v):=by
    have:=IS.cell hk.pa n1 (by omega)
    rw[this,List.getD_eq_getElem?_getD,hp,←hn1];simp
   rw[hnn] at hpl c3
   rw[hn1] at hpl
   have hd1:=Yt nn n1 (by have:=hk.bd.1;have:=HI.out.1.fr.cnt;have:=HA.out.2.2.2;omega) hpl
   have hni:n1<nn:=by omega
   have hni':=Y6 hni
   have hnpos:0<nn:=by omega
   have hnpos':(0:Int)<(nn:Int):=by omega
   have hvf:Z6 v:=by
    obtain⟨it,q1,q2,_⟩:=HI.out.1.fr.gi.tpos hp
    exact HI.out.1.fr.fit v (by rw[q2];simp)
   obtain⟨i,hi⟩:∃i,s'.nx v=some i:=by
    obtain⟨it,q1,q2,_⟩:=HI.out.1.fr.gi.tpos hp
    cases q:s'.nx v with
    | none=>rw[(HI.out.1.fr.gi.nxn v).1 q] at q2;cases q2
    | some i=>exact⟨i,rfl⟩
   have hii:=HI.out.1.fr.gi.lo v i hi
   have hgl:=hk.pa.glt
   have HK:=hD0 hk
   have HP:=hD0 (aI0 hp (aI0 hi (aI0 hii hvf)))
   have t3:∀x,Nw wr x→x.cell? ⟨o,3,none⟩=some (.slice (some ⟨ga,0,none⟩) nn pc):=fun x g=>g.kp c3
   have tv:∀x,Nw wr x→x.cell? ⟨ga,n1,none⟩=some (.int .i64 v):=fun x g=>g.kp hcv
   clear hk hpa hpl hn1 hnn hp hi hii hvf c0 c1 c2 c4 c5 c6 c7
   go_wp2_with fail
   refine Z9 [] (Nw wr) (by kernel_rfl) ?_
   change Z8 _ _ _ _ _ _ 13 #[false,false,false,false,false,false,false,false,false,false,false,false,false] _ wr.drew
   obtain⟨y0,hy0⟩:∃y,wr.drew=y:=⟨_,rfl⟩
   rw[hy0]
   have hS0:Nw wr y0:=by rw[←hy0];exact(Nw.refl wr).dr
   clear hy0 c3 hcv hol hgl
   refine Z0 0 rfl (by kernel_rfl) (by kernel_rfl) (by kernel_rfl) (fun v c a w h=>h) ?_
   (first | (refine⟨undef,Or.inr ⟨by rfl,rfl⟩,?_⟩) | (apply Exists.intro;refine⟨Or.inl ⟨by rfl,?_⟩,?_⟩;(intro x hx';go_simp;first | done | with_reducible rfl)))
   (try simp only[Act.put,List.getElem_toArray,List.getElem_cons_zero,List.getElem_cons_succ,List.setIfInBounds_toArray,List.set_cons_zero,List.set_cons_succ])
   refine Z0 1 rfl (by kernel_rfl) (by kernel_rfl) (by kernel_rfl) (fun v c a w h=>h) ?_
   (first | (refine⟨undef,Or.inr ⟨by rfl,rfl⟩,?_⟩) | (apply Exists.intro;refine⟨Or.inl ⟨by rfl,?_⟩,?_⟩;(intro x hx';go_simp;first | done | with_reducible rfl)))
   (try simp only[Act.put,List.getElem_toArray,List.getElem_cons_zero,List.getElem_cons_succ,List.setIfInBounds_toArray,List.set_cons_zero,List.set_cons_succ])
   refine Z0 2 rfl (by kernel_rfl) (by kernel_rfl) (by kernel_rfl) (fun v c a w h=>h) ?_
   (first | (refine⟨undef,Or.inr ⟨by rfl,rfl⟩,?_⟩) | (apply Exists.intro;refine⟨Or.inl ⟨by rfl,?_⟩,?_⟩;(intro x hx';go_simp;first | done | with_reducible rfl)))
   (try simp only[Act.put,List.getElem_toArray,List.getElem_cons_zero,List.getElem_cons_succ,List.setIfInBounds_toArray,List.set_cons_zero,List.set_cons_succ])
   refine Z1 3 rfl (by kernel_rfl) (by kernel_rfl) (by kernel_rfl) (by kernel_rfl) (fun v c a w h=>h) hS0 ?_
   (first | (refine⟨undef,Or.inr ⟨by rfl,rfl⟩,?_⟩) | (apply Exists.intro;refine⟨Or.inl ⟨by rfl,?_⟩,?_⟩;(intro x hx';go_simp;first | done | with_reducible rfl)))
   (try simp only[Act.put,List.getElem_toArray,List.getElem_cons_zero,List.getElem_cons_succ,List.setIfInBounds_toArray,List.set_cons_zero,List.set_cons_succ])
   refine Z0 4 rfl (by kernel_rfl) (by kernel_rfl) (by kernel_rfl) (fun v c a w h=>h) ?_
   (first | (refine⟨undef,Or.inr ⟨by rfl,rfl⟩,?_⟩) | (apply Exists.intro;refine⟨Or.inl ⟨by rfl,?_⟩,?_⟩;(intro x hx';go_simp;first | done | with_reducible rfl)))
   (try simp only[Act.put,List.getElem_toArray,List.getElem_cons_zero,List.getElem_cons_succ,List.setIfInBounds_toArray,List.set_cons_zero,List.set_cons_succ])
   refine Z0 5 rfl (by kernel_rfl) (by kernel_rfl) (by kernel_rfl) (fun v c a w h=>h) ?_
   (first | (refine⟨undef,Or.inr ⟨by rfl,rfl⟩,?_⟩) | (apply Exists.intro;refine⟨Or.inl ⟨by rfl,?_⟩,?_⟩;(intro x hx';go_simp;first | done | with_reducible rfl)))
   (try simp only[Act.put,List.getElem_toArray,List.getElem_cons_zero,List.getElem_cons_succ,List.setIfInBounds_toArray,List.set_cons_zero,List.set_cons_succ])
   refine Z0 6 rfl (by kernel_rfl) (by kernel_rfl) (by kernel_rfl) (fun v c a w h=>h) ?_
   (first | (refine⟨undef,Or.inr ⟨by rfl,rfl⟩,?_⟩) | (apply Exists.intro;refine⟨Or.inl ⟨by rfl,?_⟩,?_⟩;(intro x hx';go_simp;first | done | with_reducible rfl)))
   (try simp only[Act.put,List.getElem_toArray,List.getElem_cons_zero,List.getElem_cons_succ,List.setIfInBounds_toArray,List.set_cons_zero,List.set_cons_succ])
   refine Z1 7 rfl (by kernel_rfl) (by kernel_rfl) (by kernel_rfl) (by kernel_rfl) (fun v c a w h=>h) hS0 ?_
   (first | (refine⟨undef,Or.inr ⟨by rfl,rfl⟩,?_⟩) | (apply Exists.intro;refine⟨Or.inl ⟨by rfl,?_⟩,?_⟩;(intro x hx';go_simp;first | done | with_reducible rfl)))
   (try simp only[Act.put,List.getElem_toArray,List.getElem_cons_zero,List.getElem_cons_succ,List.setIfInBounds_toArray,List.set_cons_zero,List.set_cons_succ])
   refine Z0 8 rfl (by kernel_rfl) (by kernel_rfl) (by kernel_rfl) (fun v c a w h=>h) ?_
   (first | (refine⟨undef,Or.inr ⟨by rfl,rfl⟩,?_⟩) | (apply Exists.intro;refine⟨Or.inl ⟨by rfl,?_⟩,?_⟩;(intro x hx';go_simp;first | done | with_reducible rfl)))
   (try simp only[Act.put,List.getElem_toArray,List.getElem_cons_zero,List.getElem_cons_succ,List.setIfInBounds_toArray,List.set_cons_zero,List.set_cons_succ])
   refine Z0 9 rfl (by kernel_rfl) (by kernel_rfl) (by kernel_rfl) (fun v c a w h=>h) ?_
   (first | (refine⟨undef,Or.inr ⟨by rfl,rfl⟩,?_⟩) | (apply Exists.intro;refine⟨Or.inl ⟨by rfl,?_⟩,?_⟩;(intro x hx';go_simp;first | done | with_reducible rfl)))
   (try simp only[Act.put,List.getElem_toArray,List.getElem_cons_zero,List.getElem_cons_succ,List.setIfInBounds_toArray,List.set_cons_zero,List.set_cons_succ])
   refine Z0 10 rfl (by kernel_rfl) (by kernel_rfl) (by kernel_rfl) (fun v c a w h=>h) ?_
   (first | (refine⟨undef,Or.inr ⟨by rfl,rfl⟩,?_⟩) | (apply Exists.intro;refine⟨Or.inl ⟨by rfl,?_⟩,?_⟩;(intro x hx';go_simp;first | done | with_reducible rfl)))
   (try simp only[Act.put,List.getElem_toArray,List.getElem_cons_zero,List.getElem_cons_succ,List.setIfInBounds_toArray,List.set_cons_zero,List.set_cons_succ])
   refine Z1 11 rfl (by kernel_rfl) (by kernel_rfl) (by kernel_rfl) (by kernel_rfl) (fun v c a w h=>h) hS0 ?_
   (first | (refine⟨undef,Or.inr ⟨by rfl,rfl⟩,?_⟩) | (apply Exists.intro;refine⟨Or.inl ⟨by rfl,?_⟩,?_⟩;(intro x hx';go_simp;first | done | with_reducible rfl)))
   (try simp only[Act.put,List.getElem_toArray,List.getElem_cons_zero,List.getElem_cons_succ,List.setIfInBounds_toArray,List.set_cons_zero,List.set_cons_succ])
   refine Z0 12 rfl (by kernel_rfl) (by kernel_rfl) (by kernel_rfl) (fun v c a w h=>h) ?_
   (first | (refine⟨undef,Or.inr ⟨by rfl,rfl⟩,?_⟩) | (apply Exists.intro;refine⟨Or.inl ⟨by rfl,?_⟩,?_⟩;(intro x hx';go_simp;first | done | with_reducible rfl)))
   (try simp only[Act.put,List.getElem_toArray,List.getElem_cons_zero,List.getElem_cons_succ,List.setIfInBounds_toArray,List.set_cons_zero,List.set_cons_succ])
   refine Z4 (by kernel_rfl) ?_ _
   refine NoPanic.normal ?_
   (try simp only[Act.put,List.getElem_toArray,List.getElem_cons_zero,List.getElem_cons_succ,List.setIfInBounds_toArray,List.set_cons_zero,List.set_cons_succ])
   clear t3 tv
   have hk:=HK.out.nwr hS0
   have hlk:=hk.mn.look_val HP.out.2.2.2 (x:=(i:Int)) (by unfold fnx;rw[HP.out.2.1];rfl)
   obtain⟨c0,c1,c2,c3,c4,c5,c6,c7⟩:=hk.c
   have hol:=hk.ol
   have hfz:=hk.fz
   have HK0:=hD0 hk
   clear hS0 HK hk c2 c3 c4 c5 c6 c7
   obtain⟨nE,hnE⟩:∃n,E.length=n:=⟨_,rfl⟩
   rw[hnE] at c0
   by_cases hin:i<E.length
   ·obtain⟨e,he⟩:∃e,E[i]=e:=⟨_,rfl⟩
    rcases HD.out with⟨q,_⟩ | ⟨eb,eo,rfl,hrc⟩
    ·rw[q] at hin;simp at hin
    ·obtain⟨x0,x1⟩:=(hrc.nw HK0.out.nw).eg hin
     have hebl:=(hrc.nw HK0.out.nw).lt
     rw[he] at x0 x1
     have he':E[i]?=some e:=by rw[List.getElem?_eq_getElem hin,he]
     obtain⟨ex,eu⟩:=e
     simp only at x0 x1
     have hin1:i<nE:=by rw[←hnE];exact hin
     have hin2:=Y6 hin1
     have b1:((i:Int)==(nE:Int))=false:=by simp;omega
     have b2:(i==nE)=false:=by simp;omega
     have b3:¬i=nE:=by omega
     by_cases hx:ex=v
     ·subst hx
      have HEe:=hD0 he'
      clear he he' hin
      obtain⟨w5,hr5,hm5,hg5⟩:=HK0.out.mn.set (by have:=HI.out.1.fr.cnt;have:=HA.out.2.2.2;omega) HP.out.2.2.2 ((i+1:Nat):Int) (by unfold fnx;rw[HP.out.2.1];simp)
      have h5:=HK0.out.next (m:=i+1) hm5 hg5 (Nat.le_refl _)
      have HM5:=hD0 (Z3u (s:=s') (i:=i) (v:=ex) (u:=eu) ⟨mb,pb,_,_,_,h5⟩ HA.out.1 HA.out.2.1 HA.out.2.2.1 HI.out.1.fr HA.out.2.2.2 HP.out.1 HP.out.2.1 HEe.out)
      obtain⟨i1,hi1⟩:∃n,i+1=n:=⟨_,rfl⟩
      have hwi:=Ya i i1 (by have:=HA.out.2.1;omega) hi1.symm
      have HR5:=hD0 hr5
      obtain⟨d0,_⟩:=h5.c
      have y0':=((Z12 hg5).cell (o:=eo+i*2) hebl (fun e=>by
       obtain⟨es,c,q⟩:=HK0.out.mn.obj
       have:=HK0.out.mW
       have:=hrc.lt
       omega)).trans x0
      have y1':=((Z12 hg5).cell (o:=eo+i*2+1) hebl (fun e=>by
       have:=HK0.out.mW
       have:=hrc.lt
       omega)).trans x1
      have hebl5:=lL0 hebl (Z12 hg5).size
      have hol5:=h5.ol
      rw[hi1] at HR5
      rw[hnE] at d0
      have HNE:=hD0 hnE
      clear hm5 hg5 h5 hr5 hi1 hnE
      go_wp2_with (at_mapUpdate;refine Zp rfl (.tmp 58) (.tmp 59) (.tmp 61) 50 rfl _ _ _ _ rfl rfl rfl HR5.out ?_)
      refine HM5.out.mono ?_
      rintro e w6 ⟨rfl,s6,N6,hI6,hmu⟩
      have HI6:=hD0 (aI0 hI6 hmu)
      clear hI6 hmu HM5
      go_wp2
      go_roundg (U4 E s6)
      case measure=>rw[←HI.out.2];exact HI6.out.2
      case rel=>exact⟨s6,N6,HI6.out.1,rfl⟩
     ·have hx1:(ex==v)=false:=by simpa using hx
      have hx2:(ex != v)=true:=by simpa using hx
      have HL:=hD0 (Z0a (s:=s') ⟨mb,pb,_,_,_,HK0.out⟩ HA.out.1 HI.out.1.fr HA.out.2.2.2 HP.out.1 (Z31 HA.out.1 HP.out.2.1 HP.out.2.2.1.1 (fun w q=>by
       rw[he'] at q
       injection q with q
       injection q with q _
       exact hx q)))
      have HNE:=hD0 hnE
      clear he he' hin hnE
      go_wp2_with fail
      refine HL.out.mono ?_
      rintro e w6 ⟨rfl,s6,N6,hI6,hmu⟩
      have HI6:=hD0 (aI0 hI6 hmu)
      clear hI6 hmu HL
      go_wp2
      go_roundg (U4 E s6)
      case measure=>rw[←HI.out.2];exact HI6.out.2
      case rel=>exact⟨s6,N6,HI6.out.1,rfl⟩
   ·have hie:i=nE:=by have:=HP.out.2.2.1.2;omega
    have b1:((i:Int)==(nE:Int))=true:=by rw[hie];simp
    have b2:(i==nE)=true:=by rw[hie];simp
    have HL:=hD0 (Z0a (s:=s') ⟨mb,pb,_,_,_,HK0.out⟩ HA.out.1 HI.out.1.fr HA.out.2.2.2 HP.out.1 (Z31 HA.out.1 HP.out.2.1 HP.out.2.2.1.1 (fun w q=>hin (List.getElem?_eq_some_iff.1 q).1)))
    have HNE:=hD0 hnE
    clear hin hnE hie
    go_wp2_with fail
    refine HL.out.mono ?_
    rintro e w6 ⟨rfl,s6,N6,hI6,hmu⟩
    have HI6:=hD0 (aI0 hI6 hmu)
    clear hI6 hmu HL
    go_wp2
    go_roundg (U4 E s6)
    case measure=>rw[←HI.out.2];exact HI6.out.2
    case rel=>exact⟨s6,N6,HI6.out.1,rfl⟩
end
theorem Z2y(p:Nat→Bool):∀n,Yg p n≤n
 | 0=>Nat.le_refl _
 | n+1=>by
  have:=Z2y p n
  unfold Yg
  split<;>omega
structure LpI(W0:World)(o:Nat)(ev:Value)(E:List (Int × Int))(k:Nat)(s:Gb)(N:Nat)(w:World):Prop where
 wk:Wk W0 w o ev E s N
 gi:Vz E s
 pa:s.path=[]
 fit:∀v,s.pl v≠none→Z6 v
 cnt:N+2*Yg (V4 E s) E.length≤2*E.length+2*k
 vis:∀i e,i<k→E[i]?=some e→s.pl e.1≠none
section
variable {W0:World} {ev:Value} {E:List (Int × Int)}
theorem Z5s(hed:Zl W0 ev E)(w:World)(o:Nat)(mb pb:Nat)(hw:Nw W0 w)(hm:Zb w mb (fun _=>none) 0)(hp:Zb w pb (fun _=>none) 0)(hmb:W0.heap.size≤mb)(hpb:W0.heap.size≤pb)(ho:W0.heap.size≤o)(hne:mb≠pb)
  (hob:w.heap[o]?=some (.cells #[ev,.map (some mb),.map (some pb),.slice none 0 0,.slice none 0 0,.slice none 0 0,.bool false,.int .i64 0] 73 (0,0))):LpI W0 o ev E 0 Uo 0 w:=by
 refine⟨⟨mb,pb,.slice none 0 0,.slice none 0 0,.slice none 0 0,hob,hed,hw,hm,hp,IS.nil _,IS.nil _,World.ownsRow_nil _ _ _ _,ho,hmb,hpb,hne,?_,?_,?_,?_⟩,Z46 E,rfl,fun v h=>absurd rfl h,?_,fun i e h=>by omega⟩
 ·intro g h;cases h
 ·intro g h;cases h
 ·intro g h;cases h
 ·exact⟨Nat.le_refl _,Nat.le_refl _,Nat.le_refl _⟩
 ·have:=Z2y (V4 E Uo) E.length
  omega
theorem Z53{a b:Int}:(a≤b→decide (a≤b)=true)∧(¬a≤b→decide (a≤b)=false):=⟨decide_eq_true,decide_eq_false⟩
theorem Z1r(hed:Zl W0 ev E)(hs:Zh E)(hl:E.length≤1000)(hF:∀e∈E,Z6 e.1∧Z6 e.2) :
  Calls prog 21 #[ev] W0 fun e w'=>∃fd ls,e=.returned (.tuple #[.int .i64 ls,.bool fd])∧Z73 E fd ls∧Nw W0 w':=by
 have HA:=hD0 (aI0 hs (aI0 hl (aI0 hF hed)))
 obtain⟨ea,ec,rfl,hed'⟩:=hed
 have HD:=hD0 hed'
 clear hs hF hed'
 obtain⟨n,hn⟩:∃n,E.length=n:=⟨_,rfl⟩
 have HN:=hD0 hn
 rw[hn] at hl ⊢
 have HP:=hD0 (fun(w:World) (o mb pb:Nat)=>Z5s (W0:=W0) (E:=E) HA.out.2.2.2 w o mb pb)
 rw[hn] at HP
 clear hn
 have hmm:=@run_makeMap prog
 go_enter func21,ntmps21
 go_upto_region 2 with fail
 have ha1:=Z5 W0 (.map #[] 0)
 have s1:(W0.alloc (.map #[] 0)).heap.size=W0.heap.size+1:=by simp
 have ha2:=Z5 (W0.alloc (.map #[] 0)) (.map #[] 0)
 have s2:((W0.alloc (.map #[] 0)).alloc (.map #[] 0)).heap.size=W0.heap.size+1+1:=by simp
 obtain⟨w3,hw3⟩:∃x,((W0.alloc (.map #[] 0)).alloc (.map #[] 0)).alloc (.cells #[.slice ea n ec,.map (some W0.heap.size),.map (some (W0.heap.size+1)),.slice none 0 0,.slice none 0 0,.slice none 0 0,.bool false,.int .i64 0] 73)=x:=⟨_,rfl⟩
 have g3:Nw W0 w3:=by rw[←hw3];exact(((Nw.refl W0).alloc _).alloc _).alloc _
 have m1:Zb w3 W0.heap.size (fun _=>none) 0:=by rw[←hw3];exact(Zb.made W0).nw (((Nw.refl _).alloc _).alloc _)
 have m2:Zb w3 (W0.heap.size+1) (fun _=>none) 0:=by
  have:=Zb.made (W0.alloc (.map #[] 0))
  rw[s1] at this
  rw[←hw3];exact this.nw ((Nw.refl _).alloc _)
 have hob:w3.heap[W0.heap.size+1+1]?=some (.cells #[.slice ea n ec,.map (some W0.heap.size),.map (some (W0.heap.size+1)),.slice none 0 0,.slice none 0 0,.slice none 0 0,.bool false,.int .i64 0] 73):=by
  have:=Z5 ((W0.alloc (.map #[] 0)).alloc (.map #[] 0)) (.cells #[.slice ea n ec,.map (some W0.heap.size),.map (some (W0.heap.size+1)),.slice none 0 0,.slice none 0 0,.slice none 0 0,.bool false,.int .i64 0] 73)
  rw[s2] at this
  rw[←hw3];exact this
 have HI0:=hD0 (HP.out w3 (W0.heap.size+1+1) W0.heap.size (W0.heap.size+1) g3 m1 m2 (Nat.le_refl _) (Nat.le_succ _) (Nat.le_trans (Nat.le_succ _) (Nat.le_succ _)) (by omega) hob)
 rw[hw3]
 obtain⟨o,ho⟩:∃o,W0.heap.size+1+1=o:=⟨_,rfl⟩
 rw[ho] at HI0 ⊢
 clear ha1 ha2 s1 s2 hw3 g3 m1 m2 hob ho HP hmm
 go_wp2_with fail
 go_loopw [14] (fun vi wr=>∃(k:Nat) (s:Gb) (N:Nat),vi=.int .i64 k∧k≤n∧Hid (LpI W0 o (.slice ea n ec) E k s N wr)) (fun vi _=>n-(intOf vi).toNat)
 case atStart=>exact⟨0,Uo,0,rfl,Nat.zero_le _,HI0⟩
 case round =>
  clear HI0
  obtain⟨k,s,N,rfl,hkn,HI⟩:=hrel
  by_cases hlt:k<n
  ·have hkE:k<E.length:=by rw[HN.out];exact hlt
   have Yh:=Y6 hlt
   obtain⟨e,he⟩:∃e,E[k]=e:=⟨_,rfl⟩
   have he':E[k]?=some e:=by rw[List.getElem?_eq_getElem hkE,he]
   rcases HD.out with⟨q,_⟩ | ⟨eb,eo,rfl,hrc⟩
   ·rw[q] at hkE;simp at hkE
   ·obtain⟨mb0,pb0,vp0,vo0,vk0,hk0⟩:=HI.out.wk
    obtain⟨x0,x1⟩:=(hrc.nw hk0.nw).eg hkE
    have hebl:=(hrc.nw hk0.nw).lt
    rw[he] at x0 x1
    obtain⟨ex,eu⟩:=e
    simp only at x0 x1
    have hw:=Ya k (k+1) (by omega) rfl
    obtain⟨k1,hk1⟩:∃m,k+1=m:=⟨_,rfl⟩
    have HK1:=hD0 hk1
    rw[hk1] at hw
    have HE:=hD0 he'
    have hfx:=(HA.out.2.2.1 _ (List.mem_of_getElem? he')).1
    have HFx:=hD0 hfx
    clear hk0 hkE he he' hk1 hfx
    go_upto_region 5 with fail
    have hal:=Z5 wr (.cells #[.int .i64 ex,.int .i64 eu] 32)
    have g4:Nw wr (wr.alloc (.cells #[.int .i64 ex,.int .i64 eu] 32)):=(Nw.refl wr).alloc _
    obtain⟨w4,hw4⟩:∃x,wr.alloc (.cells #[.int .i64 ex,.int .i64 eu] 32)=x:=⟨_,rfl⟩
    obtain⟨B,hB⟩:∃B,wr.heap.size=B:=⟨_,rfl⟩
    rw[hB] at hal ⊢
    rw[hw4] at hal g4 ⊢
    have HL:=hD0 (show LpI W0 o (.slice (some ⟨eb,eo,none⟩) n ec) E k s N w4 from⟨by obtain⟨a1,a2,a3,a4,a5,a6⟩:=HI.out.wk;exact⟨a1,a2,a3,a4,a5,a6.nwr g4⟩,HI.out.gi,HI.out.pa,HI.out.fit,HI.out.cnt,HI.out.vis⟩)
    obtain⟨mb,pb,vp,vo,vk,hk⟩:=HL.out.wk
    obtain⟨c0,c1,c2,c3,c4,c5,c6,c7⟩:=hk.c
    have hol:=hk.ol
    have HAL:=hD0 hal
    have t6:∀x,Nw w4 x→x.cell? ⟨o,6,none⟩=some (.bool s.fd):=fun x g=>g.kp c6
    have t7:∀x,Nw w4 x→x.cell? ⟨o,7,none⟩=some (.int .i64 s.ls):=fun x g=>g.kp c7
    have tB:∀x,Nw w4 x→x.cell? ⟨B,0,none⟩=some (.int .i64 ex):=fun x g=>g.kp (Z2 (j:=0) HAL.out)
    clear hal g4 hw4 hB hk c0 c1 c2 c3 c4 c5 c6 c7 x0 x1 hebl
    obtain⟨fd,hfd⟩:∃b,s.fd=b:=⟨_,rfl⟩
    have HFD:=hD0 hfd
    rw[hfd] at t6
    clear hfd
    cases fd with
    | false =>
     refine Z9 [] (Nw w4) (by kernel_rfl) ?_
     change Z8 _ _ _ _ _ _ 13 #[false,false,false,false,false,false,false,false,false,false,false,false,false] _ w4.drew
     obtain⟨y4,hy4⟩:∃y,w4.drew=y:=⟨_,rfl⟩
     rw[hy4]
     have hS0:Nw w4 y4:=by rw[←hy4];exact(Nw.refl w4).dr
     clear hy4
     refine Z0 0 rfl (by kernel_rfl) (by kernel_rfl) (by kernel_rfl) (fun v c a w h=>h) ?_
     (first | (refine⟨undef,Or.inr ⟨by rfl,rfl⟩,?_⟩) | (apply Exists.intro;refine⟨Or.inl ⟨by rfl,?_⟩,?_⟩;(intro x hx';go_simp;first | done | with_reducible rfl)))
     (try simp only[Act.put,List.getElem_toArray,List.getElem_cons_zero,List.getElem_cons_succ,List.setIfInBounds_toArray,List.set_cons_zero,List.set_cons_succ])
     refine Z0 1 rfl (by kernel_rfl) (by kernel_rfl) (by kernel_rfl) (fun v c a w h=>h) ?_
     (first | (refine⟨undef,Or.inr ⟨by rfl,rfl⟩,?_⟩) | (apply Exists.intro;refine⟨Or.inl ⟨by rfl,?_⟩,?_⟩;(intro x hx';go_simp;first | done | with_reducible rfl)))
     (try simp only[Act.put,List.getElem_toArray,List.getElem_cons_zero,List.getElem_cons_succ,List.setIfInBounds_toArray,List.set_cons_zero,List.set_cons_succ])
     refine Z0 2 rfl (by kernel_rfl) (by kernel_rfl) (by kernel_rfl) (fun v c a w h=>h) ?_
     (first | (refine⟨undef,Or.inr ⟨by rfl,rfl⟩,?_⟩) | (apply Exists.intro;refine⟨Or.inl ⟨by rfl,?_⟩,?_⟩;(intro x hx';go_simp;first | done | with_reducible rfl)))
     (try simp only[Act.put,List.getElem_toArray,List.getElem_cons_zero,List.getElem_cons_succ,List.setIfInBounds_toArray,List.set_cons_zero,List.set_cons_succ])
     refine Z1 3 rfl (by kernel_rfl) (by kernel_rfl) (by kernel_rfl) (by kernel_rfl) (fun v c a w h=>h) hS0 ?_
     (first | (refine⟨undef,Or.inr ⟨by rfl,rfl⟩,?_⟩) | (apply Exists.intro;refine⟨Or.inl ⟨by rfl,?_⟩,?_⟩;(intro x hx';go_simp;first | done | with_reducible rfl)))
     (try simp only[Act.put,List.getElem_toArray,List.getElem_cons_zero,List.getElem_cons_succ,List.setIfInBounds_toArray,List.set_cons_zero,List.set_cons_succ])
     refine Z0 4 rfl (by kernel_rfl) (by kernel_rfl) (by kernel_rfl) (fun v c a w h=>h) ?_
     (first | (refine⟨undef,Or.inr ⟨by rfl,rfl⟩,?_⟩) | (apply Exists.intro;refine⟨Or.inl ⟨by rfl,?_⟩,?_⟩;(intro x hx';go_simp;first | done | with_reducible rfl)))
     (try simp only[Act.put,List.getElem_toArray,List.getElem_cons_zero,List.getElem_cons_succ,List.setIfInBounds_toArray,List.set_cons_zero,List.set_cons_succ])
     refine Z0 5 rfl (by kernel_rfl) (by kernel_rfl) (by kernel_rfl) (fun v c a w h=>h) ?_
     (first | (refine⟨undef,Or.inr ⟨by rfl,rfl⟩,?_⟩) | (apply Exists.intro;refine⟨Or.inl ⟨by rfl,?_⟩,?_⟩;(intro x hx';go_simp;first | done | with_reducible rfl)))
     (try simp only[Act.put,List.getElem_toArray,List.getElem_cons_zero,List.getElem_cons_succ,List.setIfInBounds_toArray,List.set_cons_zero,List.set_cons_succ])
     refine Z0 6 rfl (by kernel_rfl) (by kernel_rfl) (by kernel_rfl) (fun v c a w h=>h) ?_
     (first | (refine⟨undef,Or.inr ⟨by rfl,rfl⟩,?_⟩) | (apply Exists.intro;refine⟨Or.inl ⟨by rfl,?_⟩,?_⟩;(intro x hx';go_simp;first | done | with_reducible rfl)))
     (try simp only[Act.put,List.getElem_toArray,List.getElem_cons_zero,List.getElem_cons_succ,List.setIfInBounds_toArray,List.set_cons_zero,List.set_cons_succ])
     refine Z0 7 rfl (by kernel_rfl) (by kernel_rfl) (by kernel_rfl) (fun v c a w h=>h) ?_
     (first | (refine⟨undef,Or.inr ⟨by rfl,rfl⟩,?_⟩) | (apply Exists.intro;refine⟨Or.inl ⟨by rfl,?_⟩,?_⟩;(intro x hx';go_simp;first | done | with_reducible rfl)))
     (try simp only[Act.put,List.getElem_toArray,List.getElem_cons_zero,List.getElem_cons_succ,List.setIfInBounds_toArray,List.set_cons_zero,List.set_cons_succ])
     refine Z1 8 rfl (by kernel_rfl) (by kernel_rfl) (by kernel_rfl) (by kernel_rfl) (fun v c a w h=>h) hS0 ?_
     (first | (refine⟨undef,Or.inr ⟨by rfl,rfl⟩,?_⟩) | (apply Exists.intro;refine⟨Or.inl ⟨by rfl,?_⟩,?_⟩;(intro x hx';go_simp;first | done | with_reducible rfl)))
     (try simp only[Act.put,List.getElem_toArray,List.getElem_cons_zero,List.getElem_cons_succ,List.setIfInBounds_toArray,List.set_cons_zero,List.set_cons_succ])
     refine Z0 9 rfl (by kernel_rfl) (by kernel_rfl) (by kernel_rfl) (fun v c a w h=>h) ?_
     (first | (refine⟨undef,Or.inr ⟨by rfl,rfl⟩,?_⟩) | (apply Exists.intro;refine⟨Or.inl ⟨by rfl,?_⟩,?_⟩;(intro x hx';go_simp;first | done | with_reducible rfl)))
     (try simp only[Act.put,List.getElem_toArray,List.getElem_cons_zero,List.getElem_cons_succ,List.setIfInBounds_toArray,List.set_cons_zero,List.set_cons_succ])
     refine Z1 10 rfl (by kernel_rfl) (by kernel_rfl) (by kernel_rfl) (by kernel_rfl) (fun v c a w h=>h) hS0 ?_
     (first | (refine⟨undef,Or.inr ⟨by rfl,rfl⟩,?_⟩) | (apply Exists.intro;refine⟨Or.inl ⟨by rfl,?_⟩,?_⟩;(intro x hx';go_simp;first | done | with_reducible rfl)))
     (try simp only[Act.put,List.getElem_toArray,List.getElem_cons_zero,List.getElem_cons_succ,List.setIfInBounds_toArray,List.set_cons_zero,List.set_cons_succ])
     refine Z0 11 rfl (by kernel_rfl) (by kernel_rfl) (by kernel_rfl) (fun v c a w h=>h) ?_
     (first | (refine⟨undef,Or.inr ⟨by rfl,rfl⟩,?_⟩) | (apply Exists.intro;refine⟨Or.inl ⟨by rfl,?_⟩,?_⟩;(intro x hx';go_simp;first | done | with_reducible rfl)))
     (try simp only[Act.put,List.getElem_toArray,List.getElem_cons_zero,List.getElem_cons_succ,List.setIfInBounds_toArray,List.set_cons_zero,List.set_cons_succ])
     refine Z0 12 rfl (by kernel_rfl) (by kernel_rfl) (by kernel_rfl) (fun v c a w h=>h) ?_
     (first | (refine⟨undef,Or.inr ⟨by rfl,rfl⟩,?_⟩) | (apply Exists.intro;refine⟨Or.inl ⟨by rfl,?_⟩,?_⟩;(intro x hx';go_simp;first | done | with_reducible rfl)))
     (try simp only[Act.put,List.getElem_toArray,List.getElem_cons_zero,List.getElem_cons_succ,List.setIfInBounds_toArray,List.set_cons_zero,List.set_cons_succ])
     refine Z4 (by kernel_rfl) ?_ _
     refine NoPanic.normal ?_
     (try simp only[Act.put,List.getElem_toArray,List.getElem_cons_zero,List.getElem_cons_succ,List.setIfInBounds_toArray,List.set_cons_zero,List.set_cons_succ])
     have HZ:=hD0 (show LpI W0 o (.slice (some ⟨eb,eo,none⟩) n ec) E k s N y4 from⟨by obtain⟨a1,a2,a3,a4,a5,a6⟩:=HL.out.wk;exact⟨a1,a2,a3,a4,a5,a6.nwr hS0⟩,HL.out.gi,HL.out.pa,HL.out.fit,HL.out.cnt,HL.out.vis⟩)
     have hb0:=hS0.kp (Z2 (j:=0) HAL.out)
     have hBl:=lL0 (Go.Proofs.Ytbefaomgldckdaa.hlt HAL.out) hS0.sz
     have HFr:=hD0 (Z1l (C:=N+2+2*Yg (V4 E s) E.length) HZ.out.wk HZ.out.gi HA.out.1 (Nat.le_trans HA.out.2.1 (by decide)) HA.out.2.2.1 HZ.out.pa HZ.out.fit HFx.out (Nat.le_refl _) (by have:=HZ.out.cnt;have:=HA.out.2.1;have:=HN.out;omega))
     clear hS0 hol t6 t7 tB HL HAL
     go_wp2_with fail
     refine HFr.out.mono ?_
     rintro e w6 ⟨rfl,s1,N1,hI6,hp6⟩
     have HI6:=hD0 (show LpI W0 o (.slice (some ⟨eb,eo,none⟩) n ec) E k1 s1 N1 w6 from⟨hI6.wk,hI6.fr.gi,hp6,hI6.fr.fit,by have h1:=hI6.fr.cnt;have h2:=HZ.out.cnt;have h3:=HK1.out;omega,fun i e hi he=>by
      rcases Nat.lt_or_ge i k with q | q
      ·exact hI6.fr.mono _ (HZ.out.vis i e q he)
      ·have h3:=HK1.out
       obtain rfl:i=k:=by omega
       rw[HE.out] at he
       injection he with he
       rw[←he];exact hI6.fr.vis⟩)
     clear hI6 hp6 HFr
     go_wp2
     go_roundw
     case rel=>exact⟨k1,s1,N1,rfl,by rw[←HK1.out];exact hlt,HI6⟩
     case measure=>rw[←HK1.out];exact Ye hlt
    | true =>
     by_cases hle:s.ls≤ex
     ·have d:=Z53.1 hle
      have HLE:=hD0 hle
      clear hle
      refine Z9 [] (Nw w4) (by kernel_rfl) ?_
      change Z8 _ _ _ _ _ _ 13 #[false,false,false,false,false,false,false,false,false,false,false,false,false] _ w4.drew
      obtain⟨y4,hy4⟩:∃y,w4.drew=y:=⟨_,rfl⟩
      rw[hy4]
      have hS0:Nw w4 y4:=by rw[←hy4];exact(Nw.refl w4).dr
      clear hy4
      refine Z0 0 rfl (by kernel_rfl) (by kernel_rfl) (by kernel_rfl) (fun v c a w h=>h) ?_
      (first | (refine⟨undef,Or.inr ⟨by rfl,rfl⟩,?_⟩) | (apply Exists.intro;refine⟨Or.inl ⟨by rfl,?_⟩,?_⟩;(intro x hx';go_simp;first | done | with_reducible rfl)))
      (try simp only[Act.put,List.getElem_toArray,List.getElem_cons_zero,List.getElem_cons_succ,List.setIfInBounds_toArray,List.set_cons_zero,List.set_cons_succ])
      refine Z0 1 rfl (by kernel_rfl) (by kernel_rfl) (by kernel_rfl) (fun v c a w h=>h) ?_
      (first | (refine⟨undef,Or.inr ⟨by rfl,rfl⟩,?_⟩) | (apply Exists.intro;refine⟨Or.inl ⟨by rfl,?_⟩,?_⟩;(intro x hx';go_simp;first | done | with_reducible rfl)))
      (try simp only[Act.put,List.getElem_toArray,List.getElem_cons_zero,List.getElem_cons_succ,List.setIfInBounds_toArray,List.set_cons_zero,List.set_cons_succ])
      refine Z0 2 rfl (by kernel_rfl) (by kernel_rfl) (by kernel_rfl) (fun v c a w h=>h) ?_
      (first | (refine⟨undef,Or.inr ⟨by rfl,rfl⟩,?_⟩) | (apply Exists.intro;refine⟨Or.inl ⟨by rfl,?_⟩,?_⟩;(intro x hx';go_simp;first | done | with_reducible rfl)))
      (try simp only[Act.put,List.getElem_toArray,List.getElem_cons_zero,List.getElem_cons_succ,List.setIfInBounds_toArray,List.set_cons_zero,List.set_cons_succ])
      refine Z1 3 rfl (by kernel_rfl) (by kernel_rfl) (by kernel_rfl) (by kernel_rfl) (fun v c a w h=>h) hS0 ?_
      (first | (refine⟨undef,Or.inr ⟨by rfl,rfl⟩,?_⟩) | (apply Exists.intro;refine⟨Or.inl ⟨by rfl,?_⟩,?_⟩;(intro x hx';go_simp;first | done | with_reducible rfl)))
      (try simp only[Act.put,List.getElem_toArray,List.getElem_cons_zero,List.getElem_cons_succ,List.setIfInBounds_toArray,List.set_cons_zero,List.set_cons_succ])
      refine Z0 4 rfl (by kernel_rfl) (by kernel_rfl) (by kernel_rfl) (fun v c a w h=>h) ?_
      (first | (refine⟨undef,Or.inr ⟨by rfl,rfl⟩,?_⟩) | (apply Exists.intro;refine⟨Or.inl ⟨by rfl,?_⟩,?_⟩;(intro x hx';go_simp;first | done | with_reducible rfl)))
      (try simp only[Act.put,List.getElem_toArray,List.getElem_cons_zero,List.getElem_cons_succ,List.setIfInBounds_toArray,List.set_cons_zero,List.set_cons_succ])
      refine Z0 5 rfl (by kernel_rfl) (by kernel_rfl) (by kernel_rfl) (fun v c a w h=>h) ?_
      (first | (refine⟨undef,Or.inr ⟨by rfl,rfl⟩,?_⟩) | (apply Exists.intro;refine⟨Or.inl ⟨by rfl,?_⟩,?_⟩;(intro x hx';go_simp;first | done | with_reducible rfl)))
      (try simp only[Act.put,List.getElem_toArray,List.getElem_cons_zero,List.getElem_cons_succ,List.setIfInBounds_toArray,List.set_cons_zero,List.set_cons_succ])
      refine Z0 6 rfl (by kernel_rfl) (by kernel_rfl) (by kernel_rfl) (fun v c a w h=>h) ?_
      (first | (refine⟨undef,Or.inr ⟨by rfl,rfl⟩,?_⟩) | (apply Exists.intro;refine⟨Or.inl ⟨by rfl,?_⟩,?_⟩;(intro x hx';go_simp;first | done | with_reducible rfl)))
      (try simp only[Act.put,List.getElem_toArray,List.getElem_cons_zero,List.getElem_cons_succ,List.setIfInBounds_toArray,List.set_cons_zero,List.set_cons_succ])
      refine Z0 7 rfl (by kernel_rfl) (by kernel_rfl) (by kernel_rfl) (fun v c a w h=>h) ?_
      (first | (refine⟨undef,Or.inr ⟨by rfl,rfl⟩,?_⟩) | (apply Exists.intro;refine⟨Or.inl ⟨by rfl,?_⟩,?_⟩;(intro x hx';go_simp;first | done | with_reducible rfl)))
      (try simp only[Act.put,List.getElem_toArray,List.getElem_cons_zero,List.getElem_cons_succ,List.setIfInBounds_toArray,List.set_cons_zero,List.set_cons_succ])
      refine Z1 8 rfl (by kernel_rfl) (by kernel_rfl) (by kernel_rfl) (by kernel_rfl) (fun v c a w h=>h) hS0 ?_
      (first | (refine⟨undef,Or.inr ⟨by rfl,rfl⟩,?_⟩) | (apply Exists.intro;refine⟨Or.inl ⟨by rfl,?_⟩,?_⟩;(intro x hx';go_simp;first | done | with_reducible rfl)))
      (try simp only[Act.put,List.getElem_toArray,List.getElem_cons_zero,List.getElem_cons_succ,List.setIfInBounds_toArray,List.set_cons_zero,List.set_cons_succ])
      refine Z0 9 rfl (by kernel_rfl) (by kernel_rfl) (by kernel_rfl) (fun v c a w h=>h) ?_
      (first | (refine⟨undef,Or.inr ⟨by rfl,rfl⟩,?_⟩) | (apply Exists.intro;refine⟨Or.inl ⟨by rfl,?_⟩,?_⟩;(intro x hx';go_simp;first | done | with_reducible rfl)))
      (try simp only[Act.put,List.getElem_toArray,List.getElem_cons_zero,List.getElem_cons_succ,List.setIfInBounds_toArray,List.set_cons_zero,List.set_cons_succ])
      refine Z1 10 rfl (by kernel_rfl) (by kernel_rfl) (by kernel_rfl) (by kernel_rfl) (fun v c a w h=>h) hS0 ?_
      (first | (refine⟨undef,Or.inr ⟨by rfl,rfl⟩,?_⟩) | (apply Exists.intro;refine⟨Or.inl ⟨by rfl,?_⟩,?_⟩;(intro x hx';go_simp;first | done | with_reducible rfl)))
      (try simp only[Act.put,List.getElem_toArray,List.getElem_cons_zero,List.getElem_cons_succ,List.setIfInBounds_toArray,List.set_cons_zero,List.set_cons_succ])
      refine Z0 11 rfl (by kernel_rfl) (by kernel_rfl) (by kernel_rfl) (fun v c a w h=>h) ?_
      (first | (refine⟨undef,Or.inr ⟨by rfl,rfl⟩,?_⟩) | (apply Exists.intro;refine⟨Or.inl ⟨by rfl,?_⟩,?_⟩;(intro x hx';go_simp;first | done | with_reducible rfl)))
      (try simp only[Act.put,List.getElem_toArray,List.getElem_cons_zero,List.getElem_cons_succ,List.setIfInBounds_toArray,List.set_cons_zero,List.set_cons_succ])
      refine Z0 12 rfl (by kernel_rfl) (by kernel_rfl) (by kernel_rfl) (fun v c a w h=>h) ?_
      (first | (refine⟨undef,Or.inr ⟨by rfl,rfl⟩,?_⟩) | (apply Exists.intro;refine⟨Or.inl ⟨by rfl,?_⟩,?_⟩;(intro x hx';go_simp;first | done | with_reducible rfl)))
      (try simp only[Act.put,List.getElem_toArray,List.getElem_cons_zero,List.getElem_cons_succ,List.setIfInBounds_toArray,List.set_cons_zero,List.set_cons_succ])
      refine Z4 (by kernel_rfl) ?_ _
      refine NoPanic.normal ?_
      (try simp only[Act.put,List.getElem_toArray,List.getElem_cons_zero,List.getElem_cons_succ,List.setIfInBounds_toArray,List.set_cons_zero,List.set_cons_succ])
      have HZ:=hD0 (show LpI W0 o (.slice (some ⟨eb,eo,none⟩) n ec) E k s N y4 from⟨by obtain⟨a1,a2,a3,a4,a5,a6⟩:=HL.out.wk;exact⟨a1,a2,a3,a4,a5,a6.nwr hS0⟩,HL.out.gi,HL.out.pa,HL.out.fit,HL.out.cnt,HL.out.vis⟩)
      have HR:=hD0 (Z1q HA.out.1 HZ.out.gi HZ.out.pa k HZ.out.vis (.inr ⟨HFD.out,(ex,eu),HE.out,HLE.out⟩))
      clear hS0 hol t6 t7 tB HL HAL
      go_wp2_with fail
      obtain⟨mb,pb,vp,vo,vk,hk⟩:=HZ.out.wk
      obtain⟨c0,c1,c2,c3,c4,c5,c6,c7⟩:=hk.c
      have hol:=hk.ol
      have t6:∀x,Nw y4 x→x.cell? ⟨o,6,none⟩=some (.bool s.fd):=fun x g=>g.kp c6
      have t7:∀x,Nw y4 x→x.cell? ⟨o,7,none⟩=some (.int .i64 s.ls):=fun x g=>g.kp c7
      have hnw:=hD0 hk.nw
      clear hk c0 c1 c2 c3 c4 c5 c6 c7 hol
      go_wp2_with fail
      refine Z9 [] (Nw y4) (by kernel_rfl) ?_
      change Z8 _ _ _ _ _ _ 10 #[false,false,false,false,false,false,false,false,false,false] _ y4.drew
      obtain⟨y8,hy8⟩:∃y,y4.drew=y:=⟨_,rfl⟩
      rw[hy8]
      have hS0:Nw y4 y8:=by rw[←hy8];exact(Nw.refl y4).dr
      clear hy8
      refine Z0 0 rfl (by kernel_rfl) (by kernel_rfl) (by kernel_rfl) (fun v c a w h=>h) ?_
      (first | (refine⟨undef,Or.inr ⟨by rfl,rfl⟩,?_⟩) | (apply Exists.intro;refine⟨Or.inl ⟨by rfl,?_⟩,?_⟩;(intro x hx';go_simp;first | done | with_reducible rfl)))
      (try simp only[Act.put,List.getElem_toArray,List.getElem_cons_zero,List.getElem_cons_succ,List.setIfInBounds_toArray,List.set_cons_zero,List.set_cons_succ])
      refine Z0 1 rfl (by kernel_rfl) (by kernel_rfl) (by kernel_rfl) (fun v c a w h=>h) ?_
      (first | (refine⟨undef,Or.inr ⟨by rfl,rfl⟩,?_⟩) | (apply Exists.intro;refine⟨Or.inl ⟨by rfl,?_⟩,?_⟩;(intro x hx';go_simp;first | done | with_reducible rfl)))
      (try simp only[Act.put,List.getElem_toArray,List.getElem_cons_zero,List.getElem_cons_succ,List.setIfInBounds_toArray,List.set_cons_zero,List.set_cons_succ])
      refine Z0 2 rfl (by kernel_rfl) (by kernel_rfl) (by kernel_rfl) (fun v c a w h=>h) ?_
      (first | (refine⟨undef,Or.inr ⟨by rfl,rfl⟩,?_⟩) | (apply Exists.intro;refine⟨Or.inl ⟨by rfl,?_⟩,?_⟩;(intro x hx';go_simp;first | done | with_reducible rfl)))
      (try simp only[Act.put,List.getElem_toArray,List.getElem_cons_zero,List.getElem_cons_succ,List.setIfInBounds_toArray,List.set_cons_zero,List.set_cons_succ])
      refine Z1 3 rfl (by kernel_rfl) (by kernel_rfl) (by kernel_rfl) (by kernel_rfl) (fun v c a w h=>h) hS0 ?_
      (first | (refine⟨undef,Or.inr ⟨by rfl,rfl⟩,?_⟩) | (apply Exists.intro;refine⟨Or.inl ⟨by rfl,?_⟩,?_⟩;(intro x hx';go_simp;first | done | with_reducible rfl)))
      (try simp only[Act.put,List.getElem_toArray,List.getElem_cons_zero,List.getElem_cons_succ,List.setIfInBounds_toArray,List.set_cons_zero,List.set_cons_succ])
      refine Z0 4 rfl (by kernel_rfl) (by kernel_rfl) (by kernel_rfl) (fun v c a w h=>h) ?_
      (first | (refine⟨undef,Or.inr ⟨by rfl,rfl⟩,?_⟩) | (apply Exists.intro;refine⟨Or.inl ⟨by rfl,?_⟩,?_⟩;(intro x hx';go_simp;first | done | with_reducible rfl)))
      (try simp only[Act.put,List.getElem_toArray,List.getElem_cons_zero,List.getElem_cons_succ,List.setIfInBounds_toArray,List.set_cons_zero,List.set_cons_succ])
      refine Z0 5 rfl (by kernel_rfl) (by kernel_rfl) (by kernel_rfl) (fun v c a w h=>h) ?_
      (first | (refine⟨undef,Or.inr ⟨by rfl,rfl⟩,?_⟩) | (apply Exists.intro;refine⟨Or.inl ⟨by rfl,?_⟩,?_⟩;(intro x hx';go_simp;first | done | with_reducible rfl)))
      (try simp only[Act.put,List.getElem_toArray,List.getElem_cons_zero,List.getElem_cons_succ,List.setIfInBounds_toArray,List.set_cons_zero,List.set_cons_succ])
      refine Z0 6 rfl (by kernel_rfl) (by kernel_rfl) (by kernel_rfl) (fun v c a w h=>h) ?_
      (first | (refine⟨undef,Or.inr ⟨by rfl,rfl⟩,?_⟩) | (apply Exists.intro;refine⟨Or.inl ⟨by rfl,?_⟩,?_⟩;(intro x hx';go_simp;first | done | with_reducible rfl)))
      (try simp only[Act.put,List.getElem_toArray,List.getElem_cons_zero,List.getElem_cons_succ,List.setIfInBounds_toArray,List.set_cons_zero,List.set_cons_succ])
      refine Z1 7 rfl (by kernel_rfl) (by kernel_rfl) (by kernel_rfl) (by kernel_rfl) (fun v c a w h=>h) hS0 ?_
      (first | (refine⟨undef,Or.inr ⟨by rfl,rfl⟩,?_⟩) | (apply Exists.intro;refine⟨Or.inl ⟨by rfl,?_⟩,?_⟩;(intro x hx';go_simp;first | done | with_reducible rfl)))
      (try simp only[Act.put,List.getElem_toArray,List.getElem_cons_zero,List.getElem_cons_succ,List.setIfInBounds_toArray,List.set_cons_zero,List.set_cons_succ])
      refine Z0 8 rfl (by kernel_rfl) (by kernel_rfl) (by kernel_rfl) (fun v c a w h=>h) ?_
      (first | (refine⟨undef,Or.inr ⟨by rfl,rfl⟩,?_⟩) | (apply Exists.intro;refine⟨Or.inl ⟨by rfl,?_⟩,?_⟩;(intro x hx';go_simp;first | done | with_reducible rfl)))
      (try simp only[Act.put,List.getElem_toArray,List.getElem_cons_zero,List.getElem_cons_succ,List.setIfInBounds_toArray,List.set_cons_zero,List.set_cons_succ])
      refine Z0 9 rfl (by kernel_rfl) (by kernel_rfl) (by kernel_rfl) (fun v c a w h=>h) ?_
      (first | (refine⟨undef,Or.inr ⟨by rfl,rfl⟩,?_⟩) | (apply Exists.intro;refine⟨Or.inl ⟨by rfl,?_⟩,?_⟩;(intro x hx';go_simp;first | done | with_reducible rfl)))
      (try simp only[Act.put,List.getElem_toArray,List.getElem_cons_zero,List.getElem_cons_succ,List.setIfInBounds_toArray,List.set_cons_zero,List.set_cons_succ])
      refine Z4 (by kernel_rfl) ?_ _
      refine NoPanic.normal ?_
      (try simp only[Act.put,List.getElem_toArray,List.getElem_cons_zero,List.getElem_cons_succ,List.setIfInBounds_toArray,List.set_cons_zero,List.set_cons_succ])
      have HF:=hD0 (hnw.out.trans hS0)
      clear t6 t7 hS0 hnw
      go_wp2
      go_ret2
      exact⟨s.fd,s.ls,rfl,HR.out,HF.out⟩
     ·have d:=Z53.2 hle
      clear hle
      refine Z9 [] (Nw w4) (by kernel_rfl) ?_
      change Z8 _ _ _ _ _ _ 13 #[false,false,false,false,false,false,false,false,false,false,false,false,false] _ w4.drew
      obtain⟨y4,hy4⟩:∃y,w4.drew=y:=⟨_,rfl⟩
      rw[hy4]
      have hS0:Nw w4 y4:=by rw[←hy4];exact(Nw.refl w4).dr
      clear hy4
      refine Z0 0 rfl (by kernel_rfl) (by kernel_rfl) (by kernel_rfl) (fun v c a w h=>h) ?_
      (first | (refine⟨undef,Or.inr ⟨by rfl,rfl⟩,?_⟩) | (apply Exists.intro;refine⟨Or.inl ⟨by rfl,?_⟩,?_⟩;(intro x hx';go_simp;first | done | with_reducible rfl)))
      (try simp only[Act.put,List.getElem_toArray,List.getElem_cons_zero,List.getElem_cons_succ,List.setIfInBounds_toArray,List.set_cons_zero,List.set_cons_succ])
      refine Z0 1 rfl (by kernel_rfl) (by kernel_rfl) (by kernel_rfl) (fun v c a w h=>h) ?_
      (first | (refine⟨undef,Or.inr ⟨by rfl,rfl⟩,?_⟩) | (apply Exists.intro;refine⟨Or.inl ⟨by rfl,?_⟩,?_⟩;(intro x hx';go_simp;first | done | with_reducible rfl)))
      (try simp only[Act.put,List.getElem_toArray,List.getElem_cons_zero,List.getElem_cons_succ,List.setIfInBounds_toArray,List.set_cons_zero,List.set_cons_succ])
      refine Z0 2 rfl (by kernel_rfl) (by kernel_rfl) (by kernel_rfl) (fun v c a w h=>h) ?_
      (first | (refine⟨undef,Or.inr ⟨by rfl,rfl⟩,?_⟩) | (apply Exists.intro;refine⟨Or.inl ⟨by rfl,?_⟩,?_⟩;(intro x hx';go_simp;first | done | with_reducible rfl)))
      (try simp only[Act.put,List.getElem_toArray,List.getElem_cons_zero,List.getElem_cons_succ,List.setIfInBounds_toArray,List.set_cons_zero,List.set_cons_succ])
      refine Z1 3 rfl (by kernel_rfl) (by kernel_rfl) (by kernel_rfl) (by kernel_rfl) (fun v c a w h=>h) hS0 ?_
      (first | (refine⟨undef,Or.inr ⟨by rfl,rfl⟩,?_⟩) | (apply Exists.intro;refine⟨Or.inl ⟨by rfl,?_⟩,?_⟩;(intro x hx';go_simp;first | done | with_reducible rfl)))
      (try simp only[Act.put,List.getElem_toArray,List.getElem_cons_zero,List.getElem_cons_succ,List.setIfInBounds_toArray,List.set_cons_zero,List.set_cons_succ])
      refine Z0 4 rfl (by kernel_rfl) (by kernel_rfl) (by kernel_rfl) (fun v c a w h=>h) ?_
      (first | (refine⟨undef,Or.inr ⟨by rfl,rfl⟩,?_⟩) | (apply Exists.intro;refine⟨Or.inl ⟨by rfl,?_⟩,?_⟩;(intro x hx';go_simp;first | done | with_reducible rfl)))
      (try simp only[Act.put,List.getElem_toArray,List.getElem_cons_zero,List.getElem_cons_succ,List.setIfInBounds_toArray,List.set_cons_zero,List.set_cons_succ])
      refine Z0 5 rfl (by kernel_rfl) (by kernel_rfl) (by kernel_rfl) (fun v c a w h=>h) ?_
      (first | (refine⟨undef,Or.inr ⟨by rfl,rfl⟩,?_⟩) | (apply Exists.intro;refine⟨Or.inl ⟨by rfl,?_⟩,?_⟩;(intro x hx';go_simp;first | done | with_reducible rfl)))
      (try simp only[Act.put,List.getElem_toArray,List.getElem_cons_zero,List.getElem_cons_succ,List.setIfInBounds_toArray,List.set_cons_zero,List.set_cons_succ])
      refine Z0 6 rfl (by kernel_rfl) (by kernel_rfl) (by kernel_rfl) (fun v c a w h=>h) ?_
      (first | (refine⟨undef,Or.inr ⟨by rfl,rfl⟩,?_⟩) | (apply Exists.intro;refine⟨Or.inl ⟨by rfl,?_⟩,?_⟩;(intro x hx';go_simp;first | done | with_reducible rfl)))
      (try simp only[Act.put,List.getElem_toArray,List.getElem_cons_zero,List.getElem_cons_succ,List.setIfInBounds_toArray,List.set_cons_zero,List.set_cons_succ])
      refine Z0 7 rfl (by kernel_rfl) (by kernel_rfl) (by kernel_rfl) (fun v c a w h=>h) ?_
      (first | (refine⟨undef,Or.inr ⟨by rfl,rfl⟩,?_⟩) | (apply Exists.intro;refine⟨Or.inl ⟨by rfl,?_⟩,?_⟩;(intro x hx';go_simp;first | done | with_reducible rfl)))
      (try simp only[Act.put,List.getElem_toArray,List.getElem_cons_zero,List.getElem_cons_succ,List.setIfInBounds_toArray,List.set_cons_zero,List.set_cons_succ])
      refine Z1 8 rfl (by kernel_rfl) (by kernel_rfl) (by kernel_rfl) (by kernel_rfl) (fun v c a w h=>h) hS0 ?_
      (first | (refine⟨undef,Or.inr ⟨by rfl,rfl⟩,?_⟩) | (apply Exists.intro;refine⟨Or.inl ⟨by rfl,?_⟩,?_⟩;(intro x hx';go_simp;first | done | with_reducible rfl)))
      (try simp only[Act.put,List.getElem_toArray,List.getElem_cons_zero,List.getElem_cons_succ,List.setIfInBounds_toArray,List.set_cons_zero,List.set_cons_succ])
      refine Z0 9 rfl (by kernel_rfl) (by kernel_rfl) (by kernel_rfl) (fun v c a w h=>h) ?_
      (first | (refine⟨undef,Or.inr ⟨by rfl,rfl⟩,?_⟩) | (apply Exists.intro;refine⟨Or.inl ⟨by rfl,?_⟩,?_⟩;(intro x hx';go_simp;first | done | with_reducible rfl)))
      (try simp only[Act.put,List.getElem_toArray,List.getElem_cons_zero,List.getElem_cons_succ,List.setIfInBounds_toArray,List.set_cons_zero,List.set_cons_succ])
      refine Z1 10 rfl (by kernel_rfl) (by kernel_rfl) (by kernel_rfl) (by kernel_rfl) (fun v c a w h=>h) hS0 ?_
      (first | (refine⟨undef,Or.inr ⟨by rfl,rfl⟩,?_⟩) | (apply Exists.intro;refine⟨Or.inl ⟨by rfl,?_⟩,?_⟩;(intro x hx';go_simp;first | done | with_reducible rfl)))
      (try simp only[Act.put,List.getElem_toArray,List.getElem_cons_zero,List.getElem_cons_succ,List.setIfInBounds_toArray,List.set_cons_zero,List.set_cons_succ])
      refine Z0 11 rfl (by kernel_rfl) (by kernel_rfl) (by kernel_rfl) (fun v c a w h=>h) ?_
      (first | (refine⟨undef,Or.inr ⟨by rfl,rfl⟩,?_⟩) | (apply Exists.intro;refine⟨Or.inl ⟨by rfl,?_⟩,?_⟩;(intro x hx';go_simp;first | done | with_reducible rfl)))
      (try simp only[Act.put,List.getElem_toArray,List.getElem_cons_zero,List.getElem_cons_succ,List.setIfInBounds_toArray,List.set_cons_zero,List.set_cons_succ])
      refine Z0 12 rfl (by kernel_rfl) (by kernel_rfl) (by kernel_rfl) (fun v c a w h=>h) ?_
      (first | (refine⟨undef,Or.inr ⟨by rfl,rfl⟩,?_⟩) | (apply Exists.intro;refine⟨Or.inl ⟨by rfl,?_⟩,?_⟩;(intro x hx';go_simp;first | done | with_reducible rfl)))
      (try simp only[Act.put,List.getElem_toArray,List.getElem_cons_zero,List.getElem_cons_succ,List.setIfInBounds_toArray,List.set_cons_zero,List.set_cons_succ])
      refine Z4 (by kernel_rfl) ?_ _
      refine NoPanic.normal ?_
      (try simp only[Act.put,List.getElem_toArray,List.getElem_cons_zero,List.getElem_cons_succ,List.setIfInBounds_toArray,List.set_cons_zero,List.set_cons_succ])
      have HZ:=hD0 (show LpI W0 o (.slice (some ⟨eb,eo,none⟩) n ec) E k s N y4 from⟨by obtain⟨a1,a2,a3,a4,a5,a6⟩:=HL.out.wk;exact⟨a1,a2,a3,a4,a5,a6.nwr hS0⟩,HL.out.gi,HL.out.pa,HL.out.fit,HL.out.cnt,HL.out.vis⟩)
      have hb0:=hS0.kp (Z2 (j:=0) HAL.out)
      have hBl:=lL0 (Go.Proofs.Ytbefaomgldckdaa.hlt HAL.out) hS0.sz
      have HFr:=hD0 (Z1l (C:=N+2+2*Yg (V4 E s) E.length) HZ.out.wk HZ.out.gi HA.out.1 (Nat.le_trans HA.out.2.1 (by decide)) HA.out.2.2.1 HZ.out.pa HZ.out.fit HFx.out (Nat.le_refl _) (by have:=HZ.out.cnt;have:=HA.out.2.1;have:=HN.out;omega))
      clear hS0 hol t6 t7 tB HL HAL
      go_wp2_with fail
      refine HFr.out.mono ?_
      rintro e w6 ⟨rfl,s1,N1,hI6,hp6⟩
      have HI6:=hD0 (show LpI W0 o (.slice (some ⟨eb,eo,none⟩) n ec) E k1 s1 N1 w6 from⟨hI6.wk,hI6.fr.gi,hp6,hI6.fr.fit,by have h1:=hI6.fr.cnt;have h2:=HZ.out.cnt;have h3:=HK1.out;omega,fun i e hi he=>by
       rcases Nat.lt_or_ge i k with q | q
       ·exact hI6.fr.mono _ (HZ.out.vis i e q he)
       ·have h3:=HK1.out
        obtain rfl:i=k:=by omega
        rw[HE.out] at he
        injection he with he
        rw[←he];exact hI6.fr.vis⟩)
      clear hI6 hp6 HFr
      go_wp2
      go_roundw
      case rel=>exact⟨k1,s1,N1,rfl,by rw[←HK1.out];exact hlt,HI6⟩
      case measure=>rw[←HK1.out];exact Ye hlt
  ·obtain rfl:k=n:=Nat.le_antisymm hkn (Nat.le_of_not_lt hlt)
   have Yh:¬k<k:=Nat.lt_irrefl k
   have HZ:=HI
   have HR:=hD0 (Z1q HA.out.1 HI.out.gi HI.out.pa k HI.out.vis (.inl (Nat.le_of_eq HN.out)))
   clear HI hlt
   go_wp2_with fail
   obtain⟨mb,pb,vp,vo,vk,hk⟩:=HZ.out.wk
   obtain⟨c0,c1,c2,c3,c4,c5,c6,c7⟩:=hk.c
   have hol:=hk.ol
   have t6:∀x,Nw wr x→x.cell? ⟨o,6,none⟩=some (.bool s.fd):=fun x g=>g.kp c6
   have t7:∀x,Nw wr x→x.cell? ⟨o,7,none⟩=some (.int .i64 s.ls):=fun x g=>g.kp c7
   have hnw:=hD0 hk.nw
   clear hk c0 c1 c2 c3 c4 c5 c6 c7 hol
   go_wp2_with fail
   refine Z9 [] (Nw wr) (by kernel_rfl) ?_
   change Z8 _ _ _ _ _ _ 10 #[false,false,false,false,false,false,false,false,false,false] _ wr.drew
   obtain⟨y8,hy8⟩:∃y,wr.drew=y:=⟨_,rfl⟩
   rw[hy8]
   have hS0:Nw wr y8:=by rw[←hy8];exact(Nw.refl wr).dr
   clear hy8
   refine Z0 0 rfl (by kernel_rfl) (by kernel_rfl) (by kernel_rfl) (fun v c a w h=>h) ?_
   (first | (refine⟨undef,Or.inr ⟨by rfl,rfl⟩,?_⟩) | (apply Exists.intro;refine⟨Or.inl ⟨by rfl,?_⟩,?_⟩;(intro x hx';go_simp;first | done | with_reducible rfl)))
   (try simp only[Act.put,List.getElem_toArray,List.getElem_cons_zero,List.getElem_cons_succ,List.setIfInBounds_toArray,List.set_cons_zero,List.set_cons_succ])
   refine Z0 1 rfl (by kernel_rfl) (by kernel_rfl) (by kernel_rfl) (fun v c a w h=>h) ?_
   (first | (refine⟨undef,Or.inr ⟨by rfl,rfl⟩,?_⟩) | (apply Exists.intro;refine⟨Or.inl ⟨by rfl,?_⟩,?_⟩;(intro x hx';go_simp;first | done | with_reducible rfl)))
   (try simp only[Act.put,List.getElem_toArray,List.getElem_cons_zero,List.getElem_cons_succ,List.setIfInBounds_toArray,List.set_cons_zero,List.set_cons_succ])
   refine Z0 2 rfl (by kernel_rfl) (by kernel_rfl) (by kernel_rfl) (fun v c a w h=>h) ?_
   (first | (refine⟨undef,Or.inr ⟨by rfl,rfl⟩,?_⟩) | (apply Exists.intro;refine⟨Or.inl ⟨by rfl,?_⟩,?_⟩;(intro x hx';go_simp;first | done | with_reducible rfl)))
   (try simp only[Act.put,List.getElem_toArray,List.getElem_cons_zero,List.getElem_cons_succ,List.setIfInBounds_toArray,List.set_cons_zero,List.set_cons_succ])
   refine Z1 3 rfl (by kernel_rfl) (by kernel_rfl) (by kernel_rfl) (by kernel_rfl) (fun v c a w h=>h) hS0 ?_
   (first | (refine⟨undef,Or.inr ⟨by rfl,rfl⟩,?_⟩) | (apply Exists.intro;refine⟨Or.inl ⟨by rfl,?_⟩,?_⟩;(intro x hx';go_simp;first | done | with_reducible rfl)))
   (try simp only[Act.put,List.getElem_toArray,List.getElem_cons_zero,List.getElem_cons_succ,List.setIfInBounds_toArray,List.set_cons_zero,List.set_cons_succ])
   refine Z0 4 rfl (by kernel_rfl) (by kernel_rfl) (by kernel_rfl) (fun v c a w h=>h) ?_
   (first | (refine⟨undef,Or.inr ⟨by rfl,rfl⟩,?_⟩) | (apply Exists.intro;refine⟨Or.inl ⟨by rfl,?_⟩,?_⟩;(intro x hx';go_simp;first | done | with_reducible rfl)))
   (try simp only[Act.put,List.getElem_toArray,List.getElem_cons_zero,List.getElem_cons_succ,List.setIfInBounds_toArray,List.set_cons_zero,List.set_cons_succ])
   refine Z0 5 rfl (by kernel_rfl) (by kernel_rfl) (by kernel_rfl) (fun v c a w h=>h) ?_
   (first | (refine⟨undef,Or.inr ⟨by rfl,rfl⟩,?_⟩) | (apply Exists.intro;refine⟨Or.inl ⟨by rfl,?_⟩,?_⟩;(intro x hx';go_simp;first | done | with_reducible rfl)))
   (try simp only[Act.put,List.getElem_toArray,List.getElem_cons_zero,List.getElem_cons_succ,List.setIfInBounds_toArray,List.set_cons_zero,List.set_cons_succ])
   refine Z0 6 rfl (by kernel_rfl) (by kernel_rfl) (by kernel_rfl) (fun v c a w h=>h) ?_
   (first | (refine⟨undef,Or.inr ⟨by rfl,rfl⟩,?_⟩) | (apply Exists.intro;refine⟨Or.inl ⟨by rfl,?_⟩,?_⟩;(intro x hx';go_simp;first | done | with_reducible rfl)))
   (try simp only[Act.put,List.getElem_toArray,List.getElem_cons_zero,List.getElem_cons_succ,List.setIfInBounds_toArray,List.set_cons_zero,List.set_cons_succ])
   refine Z1 7 rfl (by kernel_rfl) (by kernel_rfl) (by kernel_rfl) (by kernel_rfl) (fun v c a w h=>h) hS0 ?_
   (first | (refine⟨undef,Or.inr ⟨by rfl,rfl⟩,?_⟩) | (apply Exists.intro;refine⟨Or.inl ⟨by rfl,?_⟩,?_⟩;(intro x hx';go_simp;first | done | with_reducible rfl)))
   (try simp only[Act.put,List.getElem_toArray,List.getElem_cons_zero,List.getElem_cons_succ,List.setIfInBounds_toArray,List.set_cons_zero,List.set_cons_succ])
   refine Z0 8 rfl (by kernel_rfl) (by kernel_rfl) (by kernel_rfl) (fun v c a w h=>h) ?_
   (first | (refine⟨undef,Or.inr ⟨by rfl,rfl⟩,?_⟩) | (apply Exists.intro;refine⟨Or.inl ⟨by rfl,?_⟩,?_⟩;(intro x hx';go_simp;first | done | with_reducible rfl)))
   (try simp only[Act.put,List.getElem_toArray,List.getElem_cons_zero,List.getElem_cons_succ,List.setIfInBounds_toArray,List.set_cons_zero,List.set_cons_succ])
   refine Z0 9 rfl (by kernel_rfl) (by kernel_rfl) (by kernel_rfl) (fun v c a w h=>h) ?_
   (first | (refine⟨undef,Or.inr ⟨by rfl,rfl⟩,?_⟩) | (apply Exists.intro;refine⟨Or.inl ⟨by rfl,?_⟩,?_⟩;(intro x hx';go_simp;first | done | with_reducible rfl)))
   (try simp only[Act.put,List.getElem_toArray,List.getElem_cons_zero,List.getElem_cons_succ,List.setIfInBounds_toArray,List.set_cons_zero,List.set_cons_succ])
   refine Z4 (by kernel_rfl) ?_ _
   refine NoPanic.normal ?_
   (try simp only[Act.put,List.getElem_toArray,List.getElem_cons_zero,List.getElem_cons_succ,List.setIfInBounds_toArray,List.set_cons_zero,List.set_cons_succ])
   have HF:=hD0 (hnw.out.trans hS0)
   clear t6 t7 hS0 hnw
   go_wp2
   go_ret2
   exact⟨s.fd,s.ls,rfl,HR.out,HF.out⟩
end
end Go.Proofs.Ytbefaomgldckdaa
