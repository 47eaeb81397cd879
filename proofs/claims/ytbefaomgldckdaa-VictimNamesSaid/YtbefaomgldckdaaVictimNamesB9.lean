/- Texts merged: WcI -/
import Derived.Test.YtbefaomgldckdaaVictimNamesB8
set_option linter.unusedVariables false
set_option maxRecDepth 100000
set_option maxHeartbeats 16000000
namespace Go.Proofs.Ytbefaomgldckdaa
open Go.RowKit _root_.Go.Proofs.Try
section
variable {W0 w w':World} {o mb pb N N':Nat} {ev vp vo vk:Value} {E:List (Int × Int)} {s:Gb}
theorem Z0c(h:Wk W0 w o ev E s N){u:Int}(hu:Z6 u)(hp:s.pl u=some (-1)) :
  Calls prog 47 #[.pointer (some ⟨o,0,none⟩),.int .i64 u] w fun e w'=>e=.returned (.tuple #[])∧Wk W0 w' o ev E s N:=by
 obtain⟨mb,pb,vp,vo,vk,h⟩:=h
 obtain⟨c0,c1,c2,c3,c4,c5,c6,c7⟩:=h.c
 have hol:=h.ol
 have hlk:=h.mp.look_yes hu hp
 have HW:=hD0 h
 clear h c0 c1 c3 c4 c5 c6 c7 hu hp
 go_enter func47,ntmps47
 go_wp2
 refine bodyPost_end (results_none rfl _ _ _) rfl ?_
 exact⟨rfl,mb,pb,_,_,_,HW.out⟩
theorem Z3v(h:Wk W0 w o ev E s N)(hN:N≤1000000){u:Int}(hu:Z6 u){p:Nat}(hp:s.pl u=some (p:Int)){K K':List Kn}{k0:Kn}(hk:s.kn=K++k0::K')(h0:k0.f≤p)(h1:∀k∈K',p<k.f) :
  Calls prog 47 #[.pointer (some ⟨o,0,none⟩),.int .i64 u] w fun e w'=>e=.returned (.tuple #[])∧Wk W0 w' o ev E (Vx s K k0) N:=by
 have HT:=hD0 (Z6u h hN p hk h0 h1)
 obtain⟨mb,pb,vp,vo,vk,h⟩:=h
 obtain⟨c0,c1,c2,c3,c4,c5,c6,c7⟩:=h.c
 have hol:=h.ol
 have hlk:=h.mp.look_yes hu hp
 have hn1:((p:Int) != -1)=true:=by simp
 have hn2:((p:Int)==-1)=false:=by simp
 clear h c0 c1 c3 c4 c5 c6 c7 hu hp hk h0 h1 hN
 go_enter func47,ntmps47
 go_wp2_with fail
 refine HT.out.mono ?_
 rintro e w1 ⟨rfl,h1⟩
 go_wp2
 refine bodyPost_end (results_none rfl _ _ _) rfl ?_
 exact⟨rfl,h1⟩
theorem Y0.popP{pa:Option Addr}{n pc:Nat}(h:Y0 W0 w o mb pb ev (.slice pa n pc) vo vk E s N){p:List Int}{t:Int}(hp:s.path=p++[t])(hn:n=s.path.length):Y0 W0 (w.setCell ⟨o,3,none⟩ (.slice pa p.length pc)) o mb pb ev (.slice pa p.length pc) vo vk E (Zs s p) N:=by
 subst hn
 obtain⟨o1,o2,o3,o4,o5⟩:=h.off
 have t1:Zc (fun k=>k=o) w (w.setCell ⟨o,3,none⟩ (.slice pa p.length pc)):=(Zc.refl (fun k=>k=o) w).set (p:=⟨o,3,none⟩) (.inl rfl) _
 have hle:p.length≤s.path.length:=by rw[hp];simp
 have hc:=h.pa.cut hle
 have htk:s.path.take p.length=p:=by rw[hp];simp
 rw[htk] at hc
 obtain⟨b1,b2,b3⟩:=h.bd
 have e1:∀m:Nat,(Value.slice pa m pc).ownBlock=(Value.slice pa s.path.length pc).ownBlock:=fun m=>by cases pa<;>rfl
 exact h.box t1 (hset _ h.obj) rfl rfl (hc.keep t1 (by rw[e1];exact o3)) (h.op.keep t1 o4) (Zy h.kn t1 o5) (fun g hg=>h.pg g (by rw[←e1 p.length];exact hg)) h.og (fun g hg=>h.ne g (by rw[←e1 p.length];exact hg)) ⟨Nat.le_trans hle b1,b2,b3⟩
theorem Z1u:∀(l:List Int) (a:Int),l.foldl min a≤a∧(∀x∈l,l.foldl min a≤x)∧(l.foldl min a=a∨l.foldl min a∈l)
 | [],a=>⟨Int.le_refl _,by simp,.inl rfl⟩
 | x::l,a=>by
  obtain⟨h1,h2,h3⟩:=Z1u l (min a x)
  rw[List.foldl_cons]
  refine⟨by omega,fun y hy=>?_,?_⟩
  ·rcases List.mem_cons.1 hy with e | e
   ·subst e;omega
   ·exact h2 y e
  ·rcases h3 with q | q
   ·rw[q]
    by_cases c:a≤x
    ·exact .inl (by omega)
    ·exact .inr (List.mem_cons.2 (.inl (by omega)))
   ·exact .inr (List.mem_cons_of_mem _ q)
theorem Z1t{l:List Int}(h:0<l.length):Lib.minOf l∈l∧∀x∈l,Lib.minOf l≤x:=by
 cases l with
 | nil=>cases h
 | cons a l =>
  have e:Lib.minOf (a::l)=l.foldl min a:=by unfold Lib.minOf;simp
  obtain⟨h1,h2,h3⟩:=Z1u l a
  rw[e]
  refine⟨?_,fun x hx=>?_⟩
  ·rcases h3 with q | q
   ·rw[q];simp
   ·exact List.mem_cons_of_mem _ q
  ·rcases List.mem_cons.1 hx with q | q
   ·rw[q];exact h1
   ·exact h2 x q
def plC(s:Gb)(kf j:Nat):Int→Option Int:=fun x=>if x∈(s.op.drop kf).take j then some (-1)else s.pl x
theorem Z1w(s:Gb)(kf:Nat):plC s kf 0=s.pl:=by funext x;simp[plC]
theorem Z1v(s:Gb)(kf j:Nat){x:Int}(h:(s.op.drop kf)[j]?=some x):Zg (plC s kf j) x (-1)=plC s kf (j+1):=by
 obtain⟨hj,e⟩:=List.getElem?_eq_some_iff.1 h
 funext y
 unfold Zg plC
 rw[List.take_succ_eq_append_getElem hj,e]
 by_cases q:y=x
 ·subst q;simp
 ·rw[if_neg q]
  simp[q]
theorem Z6l(s:Gb)(kf j:Nat)(h:s.op.length≤kf+j):plC s kf j=fun x=>if x∈s.op.drop kf then some (-1)else s.pl x:=by
 funext x
 unfold plC
 rw[List.take_of_length_le (by rw[List.length_drop];omega)]
theorem Z58{s:Gb}{kf j:Nat}{x:Int}(h:s.pl x≠none):plC s kf j x≠none:=by
 unfold plC
 split
 ·simp
 ·exact h
theorem Z3x(s:Gb)(p:List Int)(b:Bool)(m:Int):Zd (Zs s p) b m={ Zd s b m with path:=p }:=by
 unfold Zd Zs
 by_cases c:b=true∧(s.fd=false∨m<s.ls)
 ·rw[if_pos c,if_pos c]
 ·rw[if_neg c,if_neg c]
theorem Z1b{s s6:Gb}{p:List Int}{Ks:List Kn}{k0:Kn}{kf j mm:Nat}{m:Int}{b:Bool}(h6:Zd (Zs s p) b m=s6)(hkf:k0.f=kf)(hlp:k0.lp=b)(hk:s.kn=Ks++[k0])(hj:Ks.length=j)(hmm:s.op.length≤kf+mm) :
  (⟨s6.nx,plC s6 kf mm,s6.path,s6.op.take kf,s6.kn.take j,s6.fd,s6.ls⟩:Gb)=Zk s p Ks k0 m:=by
 subst hkf
 subst hlp
 subst hj
 rw[Z3x] at h6
 subst h6
 obtain⟨a1,a2,a3,a4,a5⟩:=Vk s k0.lp m
 unfold Zk
 rw[Z6l _ _ _ (by show(Zd s k0.lp m).op.length≤_;rw[a4];exact hmm)]
 simp only[Gb.mk.injEq]
 refine⟨a1,?_,trivial,?_,?_,trivial,trivial⟩
 ·rw[a4,a2]
 ·rw[a4]
 ·rw[a5,hk];simp
def L4(o B:Nat)(v u:Value)(kf:Nat)(x:World):Prop:=x.cell? ⟨o,4,none⟩=some v∧x.cell? ⟨o,5,none⟩=some u∧x.cell? ⟨B,0,none⟩=some (.int .i64 kf)
theorem Y0.shut{go no oc gk jj kc:Nat}(h:Y0 W0 w o mb pb ev vp (.slice (some ⟨go,0,none⟩) no oc) (.slice (some ⟨gk,0,none⟩) jj kc) E s N)(hno:no=s.op.length)(hjj:jj=s.kn.length){kf j:Nat}(hkf:kf≤no)(hj:j≤jj) :
  Y0 W0 ((w.setCell ⟨o,4,none⟩ (.slice (some ⟨go,0,none⟩) kf oc)).setCell ⟨o,5,none⟩ (.slice (some ⟨gk,0,none⟩) j kc)) o mb pb ev vp (.slice (some ⟨go,0,none⟩) kf oc) (.slice (some ⟨gk,0,none⟩) j kc) E { s with op:=s.op.take kf,kn:=s.kn.take j } N:=by
 subst hno
 subst hjj
 obtain⟨o1,o2,o3,o4,o5⟩:=h.off
 have t:Zc (fun k=>k=o) w ((w.setCell ⟨o,4,none⟩ (.slice (some ⟨go,0,none⟩) kf oc)).setCell ⟨o,5,none⟩ (.slice (some ⟨gk,0,none⟩) j kc)):=((Zc.refl (fun k=>k=o) w).set (p:=⟨o,4,none⟩) (.inl rfl) _).set (p:=⟨o,5,none⟩) (.inl rfl) _
 obtain⟨b1,b2,b3⟩:=h.bd
 exact h.box t (hset _ (hset _ h.obj)) rfl rfl (h.pa.keep t o3) ((h.op.cut hkf).keep t o4) (Zy (h.kn.cut hj) t o5) h.pg h.og h.ne ⟨b1,by show(s.op.take kf).length≤N;rw[List.length_take];omega,by show(s.kn.take j).length≤N;rw[List.length_take];omega⟩
def LdW(o B:Nat)(v:Value)(kf:Nat)(x:World):Prop:=x.cell? ⟨o,4,none⟩=some v∧x.cell? ⟨B,0,none⟩=some (.int .i64 kf)
theorem Z2m(h:Wk W0 w o ev E s N)(hN:N≤100000){p:List Int}{t:Int}(hp:s.path=p++[t])(ht:Z6 t){Ks:List Kn}{k0:Kn}(hk:s.kn=Ks++[k0]){pt:Nat}(hpt:s.pl t=some (pt:Int))(hlt:k0.f<pt) :
  Calls prog 48 #[.pointer (some ⟨o,0,none⟩),.int .i64 t] w fun e w'=>e=.returned (.tuple #[])∧Wk W0 w' o ev E (Zs s p) N:=by
 obtain⟨mb,pb,vp,vo,vk,h⟩:=h
 obtain⟨pa,pc,rfl,hpa⟩:=h.pa.box
 obtain⟨gk,kc,rfl⟩:∃g cap,vk=.slice (some ⟨g,0,none⟩) s.kn.length cap:=by
  rcases Yv h.kn with⟨_,q⟩ | ⟨g,cap,q⟩
  ·rw[hk] at q;simp at q
  ·exact⟨g,cap,q⟩
 have hb:=h.bd
 obtain⟨nn,hnn⟩:∃n,s.path.length=n:=⟨_,rfl⟩
 obtain⟨jj,hjj⟩:∃n,s.kn.length=n:=⟨_,rfl⟩
 have hpl:nn=p.length+1:=by rw[←hnn,hp];simp
 have hkl:jj=Ks.length+1:=by rw[←hjj,hk];simp
 obtain⟨ga,rfl,_⟩:=hpa (by omega)
 have hpc:p.length≤pc:=by
  rcases h.pa.2 with⟨q,_⟩ | ⟨g',cap',cur,q,_,_,q4,_⟩
  ·simp at q
  ·simp only[Value.slice.injEq] at q
   omega
 obtain⟨n1,hn1⟩:∃n,p.length=n:=⟨_,rfl⟩
 obtain⟨j,hj⟩:∃n,Ks.length=n:=⟨_,rfl⟩
 rw[hnn,hjj] at h
 have h1:=fun(z:World) (g:Nw w z)=>(h.nwr g).popP hp hnn.symm
 simp only[hn1] at h1
 rw[hn1] at hpl hpc
 rw[hj] at hkl
 have hkc:=h.kn.cell hjj.symm j (by omega)
 have hkj:∀(q:j<s.kn.length),s.kn[j]=k0:=fun q=>by
  have e:s.kn[j]?=some s.kn[j]:=List.getElem?_eq_getElem q
  have e2:s.kn[j]?=some k0:=by rw[hk,←hj];simp
  exact Option.some.inj (e.symm.trans e2)
 rw[hkj] at hkc
 obtain⟨kf,hkf⟩:∃f,k0.f=f:=⟨_,rfl⟩
 obtain⟨lp,hlp⟩:∃b,k0.lp=b:=⟨_,rfl⟩
 rw[hkf,hlp] at hkc
 obtain⟨c0,c1,c2,c3,c4,c5,c6,c7⟩:=h.c
 obtain⟨k1,k2⟩:=hkc
 have hol:=h.ol
 have hfz:=h.fz 3
 have hgl:=olt h.kn (g:=gk) rfl
 have hne:¬gk=o:=fun e=>h.off.2.2.2.2 (by rw[e];rfl)
 have hd1:=Yt nn n1 (by omega) hpl
 have hd2:=Yt jj j (by omega) hkl
 have hji:(j:Int)<(jj:Int):=by omega
 have hji':j<jj:=by omega
 have hpc':(n1:Int)≤(pc:Int):=by omega
 have HX:=hD0 (aI0 ht hpt)
 rw[hkf] at hlt
 obtain⟨d1,d2⟩:=Z69 hlt
 have HW:=hD0 h1
 clear h h1 c0 c1 c2 c4 c6 c7 hb hpl hkl hkj hn1 hj hkf hlp hpt hnn hjj hk hp ht hN hlt
 go_enter func48,ntmps48
 go_wp2_with fail
 refine Z9 [14] (fun x=>x.cell? ⟨o,3,none⟩=some (.slice (some ⟨ga,0,none⟩) nn pc)) (by kernel_rfl) ?_
 change Z8 _ _ _ _ _ _ 15 #[false,false,false,false,false,false,false,false,false,false,false,false,false,false,false] _ w.drew
 obtain⟨y0,hy0⟩:∃y,w.drew=y:=⟨_,rfl⟩
 rw[hy0]
 have e0:Nw w y0:=by rw[←hy0];exact(Nw.refl w).dr
 have hS0:=e0.kp c3
 have f3:y0.frozen? ⟨o,3,none⟩=false:=(e0.froz hol).trans hfz
 have hol0:o<y0.heap.size:=lL0 hol e0.sz
 have k1':=e0.kp k1
 have k2':=e0.kp k2
 have c5':=e0.kp c5
 have hgl0:gk<y0.heap.size:=lL0 hgl e0.sz
 have HW0:=hD0 (show Y0 W0 (y0.setCell ⟨o,3,none⟩ (.slice (some ⟨ga,0,none⟩) n1 pc)) o mb pb ev (.slice (some ⟨ga,0,none⟩) n1 pc) vo (.slice (some ⟨gk,0,none⟩) jj kc) E (Zs s p) N from HW.out _ e0)
 clear hy0 e0 k1 k2 c3 c5 hol hgl hfz HW
 refine Z0 0 rfl (by kernel_rfl) (by kernel_rfl) (by kernel_rfl) (fun v c a w h=>h) ?_
 (first | (refine⟨undef,Or.inr ⟨by rfl,rfl⟩,?_⟩) | (apply Exists.intro;refine⟨Or.inl ⟨by rfl,?_⟩,?_⟩;(intro x hx';go_simp;first | done | with_reducible rfl)))
 (try simp only[Act.put,List.getElem_toArray,List.getElem_cons_zero,List.getElem_cons_succ,List.setIfInBounds_toArray,List.set_cons_zero,List.set_cons_succ])
 refine Z0 1 rfl (by kernel_rfl) (by kernel_rfl) (by kernel_rfl) (fun v c a w h=>h) ?_
 (first | (refine⟨undef,Or.inr ⟨by rfl,rfl⟩,?_⟩) | (apply Exists.intro;refine⟨Or.inl ⟨by rfl,?_⟩,?_⟩;(intro x hx';go_simp;first | done | with_reducible rfl)))
 (try simp only[Act.put,List.getElem_toArray,List.getElem_cons_zero,List.getElem_cons_succ,List.setIfInBounds_toArray,List.set_cons_zero,List.set_cons_succ])
 refine Z0 2 rfl (by kernel_rfl) (by kernel_rfl) (by kernel_rfl) (fun v c a w h=>h) ?_
 (first | (refine⟨undef,Or.inr ⟨by rfl,rfl⟩,?_⟩) | (apply Exists.intro;refine⟨Or.inl ⟨by rfl,?_⟩,?_⟩;(intro x hx';go_simp;first | done | with_reducible rfl)))
 (try simp only[Act.put,List.getElem_toArray,List.getElem_cons_zero,List.getElem_cons_succ,List.setIfInBounds_toArray,List.set_cons_zero,List.set_cons_succ])
 refine Z0 3 rfl (by kernel_rfl) (by kernel_rfl) (by kernel_rfl) (fun v c a w h=>h) ?_
 (first | (refine⟨undef,Or.inr ⟨by rfl,rfl⟩,?_⟩) | (apply Exists.intro;refine⟨Or.inl ⟨by rfl,?_⟩,?_⟩;(intro x hx';go_simp;first | done | with_reducible rfl)))
 (try simp only[Act.put,List.getElem_toArray,List.getElem_cons_zero,List.getElem_cons_succ,List.setIfInBounds_toArray,List.set_cons_zero,List.set_cons_succ])
 refine Z1 4 rfl (by kernel_rfl) (by kernel_rfl) (by kernel_rfl) (by kernel_rfl) (fun v c a w h=>h) hS0 ?_
 (first | (refine⟨undef,Or.inr ⟨by rfl,rfl⟩,?_⟩) | (apply Exists.intro;refine⟨Or.inl ⟨by rfl,?_⟩,?_⟩;(intro x hx';go_simp;first | done | with_reducible rfl)))
 (try simp only[Act.put,List.getElem_toArray,List.getElem_cons_zero,List.getElem_cons_succ,List.setIfInBounds_toArray,List.set_cons_zero,List.set_cons_succ])
 refine Z0 5 rfl (by kernel_rfl) (by kernel_rfl) (by kernel_rfl) (fun v c a w h=>h) ?_
 (first | (refine⟨undef,Or.inr ⟨by rfl,rfl⟩,?_⟩) | (apply Exists.intro;refine⟨Or.inl ⟨by rfl,?_⟩,?_⟩;(intro x hx';go_simp;first | done | with_reducible rfl)))
 (try simp only[Act.put,List.getElem_toArray,List.getElem_cons_zero,List.getElem_cons_succ,List.setIfInBounds_toArray,List.set_cons_zero,List.set_cons_succ])
 refine Z0 6 rfl (by kernel_rfl) (by kernel_rfl) (by kernel_rfl) (fun v c a w h=>h) ?_
 (first | (refine⟨undef,Or.inr ⟨by rfl,rfl⟩,?_⟩) | (apply Exists.intro;refine⟨Or.inl ⟨by rfl,?_⟩,?_⟩;(intro x hx';go_simp;first | done | with_reducible rfl)))
 (try simp only[Act.put,List.getElem_toArray,List.getElem_cons_zero,List.getElem_cons_succ,List.setIfInBounds_toArray,List.set_cons_zero,List.set_cons_succ])
 refine Z0 7 rfl (by kernel_rfl) (by kernel_rfl) (by kernel_rfl) (fun v c a w h=>h) ?_
 (first | (refine⟨undef,Or.inr ⟨by rfl,rfl⟩,?_⟩) | (apply Exists.intro;refine⟨Or.inl ⟨by rfl,?_⟩,?_⟩;(intro x hx';go_simp;first | done | with_reducible rfl)))
 (try simp only[Act.put,List.getElem_toArray,List.getElem_cons_zero,List.getElem_cons_succ,List.setIfInBounds_toArray,List.set_cons_zero,List.set_cons_succ])
 refine Z1 8 rfl (by kernel_rfl) (by kernel_rfl) (by kernel_rfl) (by kernel_rfl) (fun v c a w h=>h) hS0 ?_
 (first | (refine⟨undef,Or.inr ⟨by rfl,rfl⟩,?_⟩) | (apply Exists.intro;refine⟨Or.inl ⟨by rfl,?_⟩,?_⟩;(intro x hx';go_simp;first | done | with_reducible rfl)))
 (try simp only[Act.put,List.getElem_toArray,List.getElem_cons_zero,List.getElem_cons_succ,List.setIfInBounds_toArray,List.set_cons_zero,List.set_cons_succ])
 refine Z0 9 rfl (by kernel_rfl) (by kernel_rfl) (by kernel_rfl) (fun v c a w h=>h) ?_
 (first | (refine⟨undef,Or.inr ⟨by rfl,rfl⟩,?_⟩) | (apply Exists.intro;refine⟨Or.inl ⟨by rfl,?_⟩,?_⟩;(intro x hx';go_simp;first | done | with_reducible rfl)))
 (try simp only[Act.put,List.getElem_toArray,List.getElem_cons_zero,List.getElem_cons_succ,List.setIfInBounds_toArray,List.set_cons_zero,List.set_cons_succ])
 refine Z0 10 rfl (by kernel_rfl) (by kernel_rfl) (by kernel_rfl) (fun v c a w h=>h) ?_
 (first | (refine⟨undef,Or.inr ⟨by rfl,rfl⟩,?_⟩) | (apply Exists.intro;refine⟨Or.inl ⟨by rfl,?_⟩,?_⟩;(intro x hx';go_simp;first | done | with_reducible rfl)))
 (try simp only[Act.put,List.getElem_toArray,List.getElem_cons_zero,List.getElem_cons_succ,List.setIfInBounds_toArray,List.set_cons_zero,List.set_cons_succ])
 refine Z0 11 rfl (by kernel_rfl) (by kernel_rfl) (by kernel_rfl) (fun v c a w h=>h) ?_
 (first | (refine⟨undef,Or.inr ⟨by rfl,rfl⟩,?_⟩) | (apply Exists.intro;refine⟨Or.inl ⟨by rfl,?_⟩,?_⟩;(intro x hx';go_simp;first | done | with_reducible rfl)))
 (try simp only[Act.put,List.getElem_toArray,List.getElem_cons_zero,List.getElem_cons_succ,List.setIfInBounds_toArray,List.set_cons_zero,List.set_cons_succ])
 refine Z3 12 (by kernel_rfl) rfl (fun K hK=>?_)
 rw[if_pos (by rfl)]
 (try simp only[List.getElem_toArray,List.getElem_cons_zero,List.getElem_cons_succ])
 go_simp
 refine hK _ _ (.inr hS0) ?_
 clear hK K
 (try simp only[Act.put,List.getElem_toArray,List.getElem_cons_zero,List.getElem_cons_succ,List.setIfInBounds_toArray,List.set_cons_zero,List.set_cons_succ])
 refine Z3 13 (by kernel_rfl) rfl (fun K hK=>?_)
 rw[if_pos (by rfl)]
 (try simp only[List.getElem_toArray,List.getElem_cons_zero,List.getElem_cons_succ])
 go_simp
 refine hK _ _ (.inr hS0) ?_
 clear hK K
 (try simp only[Act.put,List.getElem_toArray,List.getElem_cons_zero,List.getElem_cons_succ,List.setIfInBounds_toArray,List.set_cons_zero,List.set_cons_succ])
 refine Z3 14 (by kernel_rfl) rfl (fun K hK=>?_)
 rw[if_pos (by rfl)]
 (try simp only[List.getElem_toArray,List.getElem_cons_zero,List.getElem_cons_succ])
 go_simp
 refine hK _ _ (.inl (by decide)) ?_
 clear hK K
 refine Z4 (by kernel_rfl) ?_ _
 refine NoPanic.normal ?_
 (try simp only[Act.put,List.getElem_toArray,List.getElem_cons_zero,List.getElem_cons_succ,List.setIfInBounds_toArray,List.set_cons_zero,List.set_cons_succ])
 clear hS0 f3 hol0
 obtain⟨w2,hw2⟩:∃x,y0.setCell ⟨o,3,none⟩ (.slice (some ⟨ga,0,none⟩) n1 pc)=x:=⟨_,rfl⟩
 rw[hw2] at HW0 ⊢
 have k1:w2.cell? ⟨gk,j*2,none⟩=some (.int .i64 kf):=by rw[←hw2];exact((Zw y0 ⟨o,3,none⟩ _).cell hgl0 hne).trans k1'
 have k2:w2.cell? ⟨gk,j*2+1,none⟩=some (.bool lp):=by rw[←hw2];exact((Zw y0 ⟨o,3,none⟩ _).cell hgl0 hne).trans k2'
 have hgl:gk<w2.heap.size:=olt HW0.out.kn (g:=gk) rfl
 obtain⟨c0,c1,c2,c3,c4,c5,c6,c7⟩:=HW0.out.c
 have hol:=HW0.out.ol
 clear c0 c1 c3 c4 c6 c7 hw2 k1' k2' c5' hgl0
 go_upto_region 3 with fail
 have hal:=Z5 w2 (.cells #[.int .i64 kf,.bool lp] 108)
 have e3:Nw w2 (w2.alloc (.cells #[.int .i64 kf,.bool lp] 108)):=(Nw.refl w2).alloc _
 obtain⟨w3,hw3⟩:∃x,w2.alloc (.cells #[.int .i64 kf,.bool lp] 108)=x:=⟨_,rfl⟩
 obtain⟨B,hB⟩:∃B,w2.heap.size=B:=⟨_,rfl⟩
 have HB:=hD0 hB
 rw[hB] at hal ⊢
 rw[hw3] at hal e3 ⊢
 have HW3:=hD0 (HW0.out.nwr e3)
 have HAL:=hD0 hal
 have hlk:∀x,Nw w3 x→(Instr.lookup 50 (.map (some pb)) (.int .i64 t) false).run prog x=.ok (.int .i64 pt) x:=fun x g=>(HW3.out.nwr g).mp.look_val HX.out.1 HX.out.2
 have c2:=HW3.out.c.2.2.1
 have t2:∀x,Nw w3 x→x.cell? ⟨o,2,none⟩=some (.map (some pb)):=fun x g=>g.kp c2
 have tb:∀x,Nw w3 x→x.cell? ⟨B,0,none⟩=some (.int .i64 kf):=fun x g=>g.kp (Z2 (j:=0) HAL.out)
 clear hal e3 hw3 hB k1 k2 hgl c5 hol HW0 c2
 refine Z9 [] (Nw w3) (by kernel_rfl) ?_
 change Z8 _ _ _ _ _ _ 9 #[false,false,false,false,false,false,false,false,false] _ w3.drew
 obtain⟨y3,hy3⟩:∃y,w3.drew=y:=⟨_,rfl⟩
 rw[hy3]
 have hS0:Nw w3 y3:=by rw[←hy3];exact(Nw.refl w3).dr
 clear hy3
 refine Z0 0 rfl (by kernel_rfl) (by kernel_rfl) (by kernel_rfl) (fun v c a w h=>h) ?_
 (first | (refine⟨undef,Or.inr ⟨by rfl,rfl⟩,?_⟩) | (apply Exists.intro;refine⟨Or.inl ⟨by rfl,?_⟩,?_⟩;(intro x hx';go_simp;first | done | with_reducible rfl)))
 (try simp only[Act.put,List.getElem_toArray,List.getElem_cons_zero,List.getElem_cons_succ,List.setIfInBounds_toArray,List.set_cons_zero,List.set_cons_succ])
 refine Z0 1 rfl (by kernel_rfl) (by kernel_rfl) (by kernel_rfl) (fun v c a w h=>h) ?_
 (first | (refine⟨undef,Or.inr ⟨by rfl,rfl⟩,?_⟩) | (apply Exists.intro;refine⟨Or.inl ⟨by rfl,?_⟩,?_⟩;(intro x hx';go_simp;first | done | with_reducible rfl)))
 (try simp only[Act.put,List.getElem_toArray,List.getElem_cons_zero,List.getElem_cons_succ,List.setIfInBounds_toArray,List.set_cons_zero,List.set_cons_succ])
 refine Z0 2 rfl (by kernel_rfl) (by kernel_rfl) (by kernel_rfl) (fun v c a w h=>h) ?_
 (first | (refine⟨undef,Or.inr ⟨by rfl,rfl⟩,?_⟩) | (apply Exists.intro;refine⟨Or.inl ⟨by rfl,?_⟩,?_⟩;(intro x hx';go_simp;first | done | with_reducible rfl)))
 (try simp only[Act.put,List.getElem_toArray,List.getElem_cons_zero,List.getElem_cons_succ,List.setIfInBounds_toArray,List.set_cons_zero,List.set_cons_succ])
 refine Z1 3 rfl (by kernel_rfl) (by kernel_rfl) (by kernel_rfl) (by kernel_rfl) (fun v c a w h=>h) hS0 ?_
 (first | (refine⟨undef,Or.inr ⟨by rfl,rfl⟩,?_⟩) | (apply Exists.intro;refine⟨Or.inl ⟨by rfl,?_⟩,?_⟩;(intro x hx';go_simp;first | done | with_reducible rfl)))
 (try simp only[Act.put,List.getElem_toArray,List.getElem_cons_zero,List.getElem_cons_succ,List.setIfInBounds_toArray,List.set_cons_zero,List.set_cons_succ])
 refine Z0 4 rfl (by kernel_rfl) (by kernel_rfl) (by kernel_rfl) (fun v c a w h=>h) ?_
 (first | (refine⟨undef,Or.inr ⟨by rfl,rfl⟩,?_⟩) | (apply Exists.intro;refine⟨Or.inl ⟨by rfl,?_⟩,?_⟩;(intro x hx';go_simp;first | done | with_reducible rfl)))
 (try simp only[Act.put,List.getElem_toArray,List.getElem_cons_zero,List.getElem_cons_succ,List.setIfInBounds_toArray,List.set_cons_zero,List.set_cons_succ])
 refine Z1 5 rfl (by kernel_rfl) (by kernel_rfl) (by kernel_rfl) (by kernel_rfl) (fun v c a w h=>h) hS0 ?_
 (first | (refine⟨undef,Or.inr ⟨by rfl,rfl⟩,?_⟩) | (apply Exists.intro;refine⟨Or.inl ⟨by rfl,?_⟩,?_⟩;(intro x hx';go_simp;first | done | with_reducible rfl)))
 (try simp only[Act.put,List.getElem_toArray,List.getElem_cons_zero,List.getElem_cons_succ,List.setIfInBounds_toArray,List.set_cons_zero,List.set_cons_succ])
 refine Z0 6 rfl (by kernel_rfl) (by kernel_rfl) (by kernel_rfl) (fun v c a w h=>h) ?_
 (first | (refine⟨undef,Or.inr ⟨by rfl,rfl⟩,?_⟩) | (apply Exists.intro;refine⟨Or.inl ⟨by rfl,?_⟩,?_⟩;(intro x hx';go_simp;first | done | with_reducible rfl)))
 (try simp only[Act.put,List.getElem_toArray,List.getElem_cons_zero,List.getElem_cons_succ,List.setIfInBounds_toArray,List.set_cons_zero,List.set_cons_succ])
 refine Z1 7 rfl (by kernel_rfl) (by kernel_rfl) (by kernel_rfl) (by kernel_rfl) (fun v c a w h=>h) hS0 ?_
 (first | (refine⟨undef,Or.inr ⟨by rfl,rfl⟩,?_⟩) | (apply Exists.intro;refine⟨Or.inl ⟨by rfl,?_⟩,?_⟩;(intro x hx';go_simp;first | done | with_reducible rfl)))
 (try simp only[Act.put,List.getElem_toArray,List.getElem_cons_zero,List.getElem_cons_succ,List.setIfInBounds_toArray,List.set_cons_zero,List.set_cons_succ])
 refine Z0 8 rfl (by kernel_rfl) (by kernel_rfl) (by kernel_rfl) (fun v c a w h=>h) ?_
 (first | (refine⟨undef,Or.inr ⟨by rfl,rfl⟩,?_⟩) | (apply Exists.intro;refine⟨Or.inl ⟨by rfl,?_⟩,?_⟩;(intro x hx';go_simp;first | done | with_reducible rfl)))
 (try simp only[Act.put,List.getElem_toArray,List.getElem_cons_zero,List.getElem_cons_succ,List.setIfInBounds_toArray,List.set_cons_zero,List.set_cons_succ])
 refine Z4 (by kernel_rfl) ?_ _
 refine NoPanic.normal ?_
 (try simp only[Act.put,List.getElem_toArray,List.getElem_cons_zero,List.getElem_cons_succ,List.setIfInBounds_toArray,List.set_cons_zero,List.set_cons_succ])
 clear hlk t2 tb
 have HY:=hD0 (HW3.out.nwr hS0)
 clear hS0 HW3
 go_wp2
 refine bodyPost_ret (results_none rfl _ _ _) rfl ?_
 exact⟨rfl,mb,pb,_,_,_,HY.out⟩
theorem Z2n(h:Wk W0 w o ev E s N)(hN:N≤100000){p:List Int}{t:Int}(hp:s.path=p++[t])(ht:Z6 t){Ks:List Kn}{k0:Kn}(hk:s.kn=Ks++[k0])(hlp:k0.lp=true)(hpt:s.pl t=some (k0.f:Int))(hko:k0.f<s.op.length)(hfit:∀x∈s.op,Z6 x∧s.pl x≠none) :
  Calls prog 48 #[.pointer (some ⟨o,0,none⟩),.int .i64 t] w fun e w'=>e=.returned (.tuple #[])∧∃m,m∈s.op.drop k0.f∧(∀x∈s.op.drop k0.f,m≤x)∧Wk W0 w' o ev E (Zk s p Ks k0 m) N:=by
 obtain⟨mb,pb,vp,vo,vk,h⟩:=h
 obtain⟨pa,pc,rfl,hpa⟩:=h.pa.box
 obtain⟨gk,kc,rfl⟩:∃g cap,vk=.slice (some ⟨g,0,none⟩) s.kn.length cap:=by
  rcases Yv h.kn with⟨_,q⟩ | ⟨g,cap,q⟩
  ·rw[hk] at q;simp at q
  ·exact⟨g,cap,q⟩
 have hb:=h.bd
 obtain⟨nn,hnn⟩:∃n,s.path.length=n:=⟨_,rfl⟩
 obtain⟨jj,hjj⟩:∃n,s.kn.length=n:=⟨_,rfl⟩
 have hpl:nn=p.length+1:=by rw[←hnn,hp];simp
 have hkl:jj=Ks.length+1:=by rw[←hjj,hk];simp
 obtain⟨ga,rfl,_⟩:=hpa (by omega)
 have hpc:p.length≤pc:=by
  rcases h.pa.2 with⟨q,_⟩ | ⟨g',cap',cur,q,_,_,q4,_⟩
  ·simp at q
  ·simp only[Value.slice.injEq] at q
   omega
 obtain⟨n1,hn1⟩:∃n,p.length=n:=⟨_,rfl⟩
 obtain⟨j,hj⟩:∃n,Ks.length=n:=⟨_,rfl⟩
 rw[hnn,hjj] at h
 have h1:=fun(z:World) (g:Nw w z)=>(h.nwr g).popP hp hnn.symm
 simp only[hn1] at h1
 rw[hn1] at hpl hpc
 rw[hj] at hkl
 have hkc:=h.kn.cell hjj.symm j (by omega)
 have hkj:∀(q:j<s.kn.length),s.kn[j]=k0:=fun q=>by
  have e:s.kn[j]?=some s.kn[j]:=List.getElem?_eq_getElem q
  have e2:s.kn[j]?=some k0:=by rw[hk,←hj];simp
  exact Option.some.inj (e.symm.trans e2)
 rw[hkj] at hkc
 obtain⟨kf,hkf⟩:∃f,k0.f=f:=⟨_,rfl⟩
 rw[hkf,hlp] at hkc
 obtain⟨c0,c1,c2,c3,c4,c5,c6,c7⟩:=h.c
 obtain⟨k1,k2⟩:=hkc
 have hol:=h.ol
 have hfz:=h.fz 3
 have hgl:=olt h.kn (g:=gk) rfl
 have hne:¬gk=o:=fun e=>h.off.2.2.2.2 (by rw[e];rfl)
 have hd1:=Yt nn n1 (by omega) hpl
 have hd2:=Yt jj j (by omega) hkl
 have hji:(j:Int)<(jj:Int):=by omega
 have hji':j<jj:=by omega
 have hpc':(n1:Int)≤(pc:Int):=by omega
 obtain⟨pt,hptf⟩:∃f,k0.f=f:=⟨_,rfl⟩
 rw[hptf] at hpt
 have HX:=hD0 (aI0 ht hpt)
 obtain⟨oa,oc,hvo,hoa⟩:=h.op.box
 obtain⟨go,rfl,_⟩:=hoa (by omega)
 subst hvo
 have hoc:s.op.length≤oc:=by
  rcases h.op.2 with⟨q,_⟩ | ⟨g',cap',cur,q,_,_,q4,_⟩
  ·simp at q
  ·simp only[Value.slice.injEq] at q
   omega
 obtain⟨no,hno⟩:∃n,s.op.length=n:=⟨_,rfl⟩
 rw[hno] at h
 simp only[hno] at h1
 obtain⟨mm,hmm⟩:∃n,no=kf+n:=⟨no-kf,by rw[←hno,←hkf];omega⟩
 have hm0:0<mm:=by rw[hkf,hno] at hko;omega
 obtain⟨m,hm⟩:∃m,Lib.minOf (s.op.drop kf)=m:=⟨_,rfl⟩
 have hmi:=Z1t (l:=s.op.drop kf) (by rw[List.length_drop,hno];omega)
 rw[hm] at hmi
 have HMn:=hD0 (aI0 hm (aI0 hmi (aI0 hfit (aI0 hno hmm))))
 have HKK:=hD0 (aI0 hkf (aI0 hlp (aI0 hk hj)))
 have HNn:=hD0 hN
 have HMB:=hD0 (show mm≤1000000 by have:=hb.2.1;omega)
 have HLen:=hD0 (aI0 hjj (aI0 hkl hpl))
 have hkfo:kf≤oc:=by rw[hno] at hoc;omega
 have hkfo':(kf:Int)≤(oc:Int):=by omega
 have hkno:kf<no:=by omega
 have hkno':(kf:Int)<(no:Int):=by omega
 have hmo:no≤oc:=by rw[hno] at hoc;exact hoc
 have hmo':(no:Int)≤(oc:Int):=by omega
 have hjkc:jj≤kc:=by
  rcases h.kn.2 with⟨q,_⟩ | ⟨g',cap',cur,q,_,_,q4,_⟩
  ·simp at q
  ·simp only[Value.slice.injEq] at q
   omega
 have hjk':(j:Int)≤(kc:Int):=by omega
 have hjk2:j≤kc:=by omega
 have hkno2:kf≤no:=Nat.le_of_lt hkno
 have hock:¬oc=kf:=by omega
 obtain⟨cc,hcc⟩:∃n,oc-kf=n:=⟨_,rfl⟩
 have hmmI:((no:Int)-(kf:Int)).toNat=mm:=by omega
 have hmm2:no-kf=mm:=by omega
 obtain rfl:kf=pt:=by rw[←hptf,hkf]
 obtain⟨d1,d2⟩:=Z4o (Nat.lt_irrefl kf)
 clear hfit hmi hm hmm hno hoa hptf hoc hlp
 have HW:=hD0 h1
 clear h h1 c0 c1 c2 c4 c6 c7 hb hpl hkl hkj hn1 hj hkf hpt hnn hjj hk hp ht hN hko
 go_enter func48,ntmps48
 go_wp2_with fail
 refine Z9 [14] (fun x=>x.cell? ⟨o,3,none⟩=some (.slice (some ⟨ga,0,none⟩) nn pc)) (by kernel_rfl) ?_
 change Z8 _ _ _ _ _ _ 15 #[false,false,false,false,false,false,false,false,false,false,false,false,false,false,false] _ w.drew
 obtain⟨y0,hy0⟩:∃y,w.drew=y:=⟨_,rfl⟩
 rw[hy0]
 have e0:Nw w y0:=by rw[←hy0];exact(Nw.refl w).dr
 have hS0:=e0.kp c3
 have f3:y0.frozen? ⟨o,3,none⟩=false:=(e0.froz hol).trans hfz
 have hol0:o<y0.heap.size:=lL0 hol e0.sz
 have k1':=e0.kp k1
 have k2':=e0.kp k2
 have c5':=e0.kp c5
 have hgl0:gk<y0.heap.size:=lL0 hgl e0.sz
 have HW0:=hD0 (show Y0 W0 (y0.setCell ⟨o,3,none⟩ (.slice (some ⟨ga,0,none⟩) n1 pc)) o mb pb ev (.slice (some ⟨ga,0,none⟩) n1 pc) (.slice (some ⟨go,0,none⟩) no oc) (.slice (some ⟨gk,0,none⟩) jj kc) E (Zs s p) N from HW.out _ e0)
 clear hy0 e0 k1 k2 c3 c5 hol hgl hfz HW
 refine Z0 0 rfl (by kernel_rfl) (by kernel_rfl) (by kernel_rfl) (fun v c a w h=>h) ?_
 (first | (refine⟨undef,Or.inr ⟨by rfl,rfl⟩,?_⟩) | (apply Exists.intro;refine⟨Or.inl ⟨by rfl,?_⟩,?_⟩;(intro x hx';go_simp;first | done | with_reducible rfl)))
 (try simp only[Act.put,List.getElem_toArray,List.getElem_cons_zero,List.getElem_cons_succ,List.setIfInBounds_toArray,List.set_cons_zero,List.set_cons_succ])
 refine Z0 1 rfl (by kernel_rfl) (by kernel_rfl) (by kernel_rfl) (fun v c a w h=>h) ?_
 (first | (refine⟨undef,Or.inr ⟨by rfl,rfl⟩,?_⟩) | (apply Exists.intro;refine⟨Or.inl ⟨by rfl,?_⟩,?_⟩;(intro x hx';go_simp;first | done | with_reducible rfl)))
 (try simp only[Act.put,List.getElem_toArray,List.getElem_cons_zero,List.getElem_cons_succ,List.setIfInBounds_toArray,List.set_cons_zero,List.set_cons_succ])
 refine Z0 2 rfl (by kernel_rfl) (by kernel_rfl) (by kernel_rfl) (fun v c a w h=>h) ?_
 (first | (refine⟨undef,Or.inr ⟨by rfl,rfl⟩,?_⟩) | (apply Exists.intro;refine⟨Or.inl ⟨by rfl,?_⟩,?_⟩;(intro x hx';go_simp;first | done | with_reducible rfl)))
 (try simp only[Act.put,List.getElem_toArray,List.getElem_cons_zero,List.getElem_cons_succ,List.setIfInBounds_toArray,List.set_cons_zero,List.set_cons_succ])
 refine Z0 3 rfl (by kernel_rfl) (by kernel_rfl) (by kernel_rfl) (fun v c a w h=>h) ?_
 (first | (refine⟨undef,Or.inr ⟨by rfl,rfl⟩,?_⟩) | (apply Exists.intro;refine⟨Or.inl ⟨by rfl,?_⟩,?_⟩;(intro x hx';go_simp;first | done | with_reducible rfl)))
 (try simp only[Act.put,List.getElem_toArray,List.getElem_cons_zero,List.getElem_cons_succ,List.setIfInBounds_toArray,List.set_cons_zero,List.set_cons_succ])
 refine Z1 4 rfl (by kernel_rfl) (by kernel_rfl) (by kernel_rfl) (by kernel_rfl) (fun v c a w h=>h) hS0 ?_
 (first | (refine⟨undef,Or.inr ⟨by rfl,rfl⟩,?_⟩) | (apply Exists.intro;refine⟨Or.inl ⟨by rfl,?_⟩,?_⟩;(intro x hx';go_simp;first | done | with_reducible rfl)))
 (try simp only[Act.put,List.getElem_toArray,List.getElem_cons_zero,List.getElem_cons_succ,List.setIfInBounds_toArray,List.set_cons_zero,List.set_cons_succ])
 refine Z0 5 rfl (by kernel_rfl) (by kernel_rfl) (by kernel_rfl) (fun v c a w h=>h) ?_
 (first | (refine⟨undef,Or.inr ⟨by rfl,rfl⟩,?_⟩) | (apply Exists.intro;refine⟨Or.inl ⟨by rfl,?_⟩,?_⟩;(intro x hx';go_simp;first | done | with_reducible rfl)))
 (try simp only[Act.put,List.getElem_toArray,List.getElem_cons_zero,List.getElem_cons_succ,List.setIfInBounds_toArray,List.set_cons_zero,List.set_cons_succ])
 refine Z0 6 rfl (by kernel_rfl) (by kernel_rfl) (by kernel_rfl) (fun v c a w h=>h) ?_
 (first | (refine⟨undef,Or.inr ⟨by rfl,rfl⟩,?_⟩) | (apply Exists.intro;refine⟨Or.inl ⟨by rfl,?_⟩,?_⟩;(intro x hx';go_simp;first | done | with_reducible rfl)))
 (try simp only[Act.put,List.getElem_toArray,List.getElem_cons_zero,List.getElem_cons_succ,List.setIfInBounds_toArray,List.set_cons_zero,List.set_cons_succ])
 refine Z0 7 rfl (by kernel_rfl) (by kernel_rfl) (by kernel_rfl) (fun v c a w h=>h) ?_
 (first | (refine⟨undef,Or.inr ⟨by rfl,rfl⟩,?_⟩) | (apply Exists.intro;refine⟨Or.inl ⟨by rfl,?_⟩,?_⟩;(intro x hx';go_simp;first | done | with_reducible rfl)))
 (try simp only[Act.put,List.getElem_toArray,List.getElem_cons_zero,List.getElem_cons_succ,List.setIfInBounds_toArray,List.set_cons_zero,List.set_cons_succ])
 refine Z1 8 rfl (by kernel_rfl) (by kernel_rfl) (by kernel_rfl) (by kernel_rfl) (fun v c a w h=>h) hS0 ?_
 (first | (refine⟨undef,Or.inr ⟨by rfl,rfl⟩,?_⟩) | (apply Exists.intro;refine⟨Or.inl ⟨by rfl,?_⟩,?_⟩;(intro x hx';go_simp;first | done | with_reducible rfl)))
 (try simp only[Act.put,List.getElem_toArray,List.getElem_cons_zero,List.getElem_cons_succ,List.setIfInBounds_toArray,List.set_cons_zero,List.set_cons_succ])
 refine Z0 9 rfl (by kernel_rfl) (by kernel_rfl) (by kernel_rfl) (fun v c a w h=>h) ?_
 (first | (refine⟨undef,Or.inr ⟨by rfl,rfl⟩,?_⟩) | (apply Exists.intro;refine⟨Or.inl ⟨by rfl,?_⟩,?_⟩;(intro x hx';go_simp;first | done | with_reducible rfl)))
 (try simp only[Act.put,List.getElem_toArray,List.getElem_cons_zero,List.getElem_cons_succ,List.setIfInBounds_toArray,List.set_cons_zero,List.set_cons_succ])
 refine Z0 10 rfl (by kernel_rfl) (by kernel_rfl) (by kernel_rfl) (fun v c a w h=>h) ?_
 (first | (refine⟨undef,Or.inr ⟨by rfl,rfl⟩,?_⟩) | (apply Exists.intro;refine⟨Or.inl ⟨by rfl,?_⟩,?_⟩;(intro x hx';go_simp;first | done | with_reducible rfl)))
 (try simp only[Act.put,List.getElem_toArray,List.getElem_cons_zero,List.getElem_cons_succ,List.setIfInBounds_toArray,List.set_cons_zero,List.set_cons_succ])
 refine Z0 11 rfl (by kernel_rfl) (by kernel_rfl) (by kernel_rfl) (fun v c a w h=>h) ?_
 (first | (refine⟨undef,Or.inr ⟨by rfl,rfl⟩,?_⟩) | (apply Exists.intro;refine⟨Or.inl ⟨by rfl,?_⟩,?_⟩;(intro x hx';go_simp;first | done | with_reducible rfl)))
 (try simp only[Act.put,List.getElem_toArray,List.getElem_cons_zero,List.getElem_cons_succ,List.setIfInBounds_toArray,List.set_cons_zero,List.set_cons_succ])
 refine Z3 12 (by kernel_rfl) rfl (fun K hK=>?_)
 rw[if_pos (by rfl)]
 (try simp only[List.getElem_toArray,List.getElem_cons_zero,List.getElem_cons_succ])
 go_simp
 refine hK _ _ (.inr hS0) ?_
 clear hK K
 (try simp only[Act.put,List.getElem_toArray,List.getElem_cons_zero,List.getElem_cons_succ,List.setIfInBounds_toArray,List.set_cons_zero,List.set_cons_succ])
 refine Z3 13 (by kernel_rfl) rfl (fun K hK=>?_)
 rw[if_pos (by rfl)]
 (try simp only[List.getElem_toArray,List.getElem_cons_zero,List.getElem_cons_succ])
 go_simp
 refine hK _ _ (.inr hS0) ?_
 clear hK K
 (try simp only[Act.put,List.getElem_toArray,List.getElem_cons_zero,List.getElem_cons_succ,List.setIfInBounds_toArray,List.set_cons_zero,List.set_cons_succ])
 refine Z3 14 (by kernel_rfl) rfl (fun K hK=>?_)
 rw[if_pos (by rfl)]
 (try simp only[List.getElem_toArray,List.getElem_cons_zero,List.getElem_cons_succ])
 go_simp
 refine hK _ _ (.inl (by decide)) ?_
 clear hK K
 refine Z4 (by kernel_rfl) ?_ _
 refine NoPanic.normal ?_
 (try simp only[Act.put,List.getElem_toArray,List.getElem_cons_zero,List.getElem_cons_succ,List.setIfInBounds_toArray,List.set_cons_zero,List.set_cons_succ])
 clear hS0 f3 hol0
 obtain⟨w2,hw2⟩:∃x,y0.setCell ⟨o,3,none⟩ (.slice (some ⟨ga,0,none⟩) n1 pc)=x:=⟨_,rfl⟩
 rw[hw2] at HW0 ⊢
 have k1:w2.cell? ⟨gk,j*2,none⟩=some (.int .i64 kf):=by rw[←hw2];exact((Zw y0 ⟨o,3,none⟩ _).cell hgl0 hne).trans k1'
 have k2:w2.cell? ⟨gk,j*2+1,none⟩=some (.bool true):=by rw[←hw2];exact((Zw y0 ⟨o,3,none⟩ _).cell hgl0 hne).trans k2'
 have hgl:gk<w2.heap.size:=olt HW0.out.kn (g:=gk) rfl
 obtain⟨c0,c1,c2,c3,c4,c5,c6,c7⟩:=HW0.out.c
 have hol:=HW0.out.ol
 clear c0 c1 c3 c4 c6 c7 hw2 k1' k2' c5' hgl0
 go_upto_region 3 with fail
 have hal:=Z5 w2 (.cells #[.int .i64 kf,.bool true] 108)
 have e3:Nw w2 (w2.alloc (.cells #[.int .i64 kf,.bool true] 108)):=(Nw.refl w2).alloc _
 obtain⟨w3,hw3⟩:∃x,w2.alloc (.cells #[.int .i64 kf,.bool true] 108)=x:=⟨_,rfl⟩
 obtain⟨B,hB⟩:∃B,w2.heap.size=B:=⟨_,rfl⟩
 have HB:=hD0 hB
 rw[hB] at hal ⊢
 rw[hw3] at hal e3 ⊢
 have HW3:=hD0 (HW0.out.nwr e3)
 have HAL:=hD0 hal
 have hlk:∀x,Nw w3 x→(Instr.lookup 50 (.map (some pb)) (.int .i64 t) false).run prog x=.ok (.int .i64 kf) x:=fun x g=>(HW3.out.nwr g).mp.look_val HX.out.1 HX.out.2
 have c2:=HW3.out.c.2.2.1
 have t2:∀x,Nw w3 x→x.cell? ⟨o,2,none⟩=some (.map (some pb)):=fun x g=>g.kp c2
 have tb:∀x,Nw w3 x→x.cell? ⟨B,0,none⟩=some (.int .i64 kf):=fun x g=>g.kp (Z2 (j:=0) HAL.out)
 clear hal e3 hw3 hB k1 k2 hgl c5 hol HW0 c2
 refine Z9 [] (Nw w3) (by kernel_rfl) ?_
 change Z8 _ _ _ _ _ _ 9 #[false,false,false,false,false,false,false,false,false] _ w3.drew
 obtain⟨y3,hy3⟩:∃y,w3.drew=y:=⟨_,rfl⟩
 rw[hy3]
 have hS0:Nw w3 y3:=by rw[←hy3];exact(Nw.refl w3).dr
 clear hy3
 refine Z0 0 rfl (by kernel_rfl) (by kernel_rfl) (by kernel_rfl) (fun v c a w h=>h) ?_
 (first | (refine⟨undef,Or.inr ⟨by rfl,rfl⟩,?_⟩) | (apply Exists.intro;refine⟨Or.inl ⟨by rfl,?_⟩,?_⟩;(intro x hx';go_simp;first | done | with_reducible rfl)))
 (try simp only[Act.put,List.getElem_toArray,List.getElem_cons_zero,List.getElem_cons_succ,List.setIfInBounds_toArray,List.set_cons_zero,List.set_cons_succ])
 refine Z0 1 rfl (by kernel_rfl) (by kernel_rfl) (by kernel_rfl) (fun v c a w h=>h) ?_
 (first | (refine⟨undef,Or.inr ⟨by rfl,rfl⟩,?_⟩) | (apply Exists.intro;refine⟨Or.inl ⟨by rfl,?_⟩,?_⟩;(intro x hx';go_simp;first | done | with_reducible rfl)))
 (try simp only[Act.put,List.getElem_toArray,List.getElem_cons_zero,List.getElem_cons_succ,List.setIfInBounds_toArray,List.set_cons_zero,List.set_cons_succ])
 refine Z0 2 rfl (by kernel_rfl) (by kernel_rfl) (by kernel_rfl) (fun v c a w h=>h) ?_
 (first | (refine⟨undef,Or.inr ⟨by rfl,rfl⟩,?_⟩) | (apply Exists.intro;refine⟨Or.inl ⟨by rfl,?_⟩,?_⟩;(intro x hx';go_simp;first | done | with_reducible rfl)))
 (try simp only[Act.put,List.getElem_toArray,List.getElem_cons_zero,List.getElem_cons_succ,List.setIfInBounds_toArray,List.set_cons_zero,List.set_cons_succ])
 refine Z1 3 rfl (by kernel_rfl) (by kernel_rfl) (by kernel_rfl) (by kernel_rfl) (fun v c a w h=>h) hS0 ?_
 (first | (refine⟨undef,Or.inr ⟨by rfl,rfl⟩,?_⟩) | (apply Exists.intro;refine⟨Or.inl ⟨by rfl,?_⟩,?_⟩;(intro x hx';go_simp;first | done | with_reducible rfl)))
 (try simp only[Act.put,List.getElem_toArray,List.getElem_cons_zero,List.getElem_cons_succ,List.setIfInBounds_toArray,List.set_cons_zero,List.set_cons_succ])
 refine Z0 4 rfl (by kernel_rfl) (by kernel_rfl) (by kernel_rfl) (fun v c a w h=>h) ?_
 (first | (refine⟨undef,Or.inr ⟨by rfl,rfl⟩,?_⟩) | (apply Exists.intro;refine⟨Or.inl ⟨by rfl,?_⟩,?_⟩;(intro x hx';go_simp;first | done | with_reducible rfl)))
 (try simp only[Act.put,List.getElem_toArray,List.getElem_cons_zero,List.getElem_cons_succ,List.setIfInBounds_toArray,List.set_cons_zero,List.set_cons_succ])
 refine Z1 5 rfl (by kernel_rfl) (by kernel_rfl) (by kernel_rfl) (by kernel_rfl) (fun v c a w h=>h) hS0 ?_
 (first | (refine⟨undef,Or.inr ⟨by rfl,rfl⟩,?_⟩) | (apply Exists.intro;refine⟨Or.inl ⟨by rfl,?_⟩,?_⟩;(intro x hx';go_simp;first | done | with_reducible rfl)))
 (try simp only[Act.put,List.getElem_toArray,List.getElem_cons_zero,List.getElem_cons_succ,List.setIfInBounds_toArray,List.set_cons_zero,List.set_cons_succ])
 refine Z0 6 rfl (by kernel_rfl) (by kernel_rfl) (by kernel_rfl) (fun v c a w h=>h) ?_
 (first | (refine⟨undef,Or.inr ⟨by rfl,rfl⟩,?_⟩) | (apply Exists.intro;refine⟨Or.inl ⟨by rfl,?_⟩,?_⟩;(intro x hx';go_simp;first | done | with_reducible rfl)))
 (try simp only[Act.put,List.getElem_toArray,List.getElem_cons_zero,List.getElem_cons_succ,List.setIfInBounds_toArray,List.set_cons_zero,List.set_cons_succ])
 refine Z1 7 rfl (by kernel_rfl) (by kernel_rfl) (by kernel_rfl) (by kernel_rfl) (fun v c a w h=>h) hS0 ?_
 (first | (refine⟨undef,Or.inr ⟨by rfl,rfl⟩,?_⟩) | (apply Exists.intro;refine⟨Or.inl ⟨by rfl,?_⟩,?_⟩;(intro x hx';go_simp;first | done | with_reducible rfl)))
 (try simp only[Act.put,List.getElem_toArray,List.getElem_cons_zero,List.getElem_cons_succ,List.setIfInBounds_toArray,List.set_cons_zero,List.set_cons_succ])
 refine Z0 8 rfl (by kernel_rfl) (by kernel_rfl) (by kernel_rfl) (fun v c a w h=>h) ?_
 (first | (refine⟨undef,Or.inr ⟨by rfl,rfl⟩,?_⟩) | (apply Exists.intro;refine⟨Or.inl ⟨by rfl,?_⟩,?_⟩;(intro x hx';go_simp;first | done | with_reducible rfl)))
 (try simp only[Act.put,List.getElem_toArray,List.getElem_cons_zero,List.getElem_cons_succ,List.setIfInBounds_toArray,List.set_cons_zero,List.set_cons_succ])
 refine Z4 (by kernel_rfl) ?_ _
 refine NoPanic.normal ?_
 (try simp only[Act.put,List.getElem_toArray,List.getElem_cons_zero,List.getElem_cons_succ,List.setIfInBounds_toArray,List.set_cons_zero,List.set_cons_succ])
 clear hlk t2 tb
 have HY:=hD0 (HW3.out.nwr hS0)
 have HAY:=hD0 (hS0.at' HAL.out)
 obtain⟨c0,c1,c2,c3,c4,c5,c6,c7⟩:=HY.out.c
 have b0:=Z2 (j:=0) HAY.out
 have b1:=Z2 (j:=1) HAY.out
 have hBl:=hlt HAY.out
 have hol:=HY.out.ol
 clear hS0 HW3 HAL c0 c1 c2 c3 c5 c6 c7 d1 d2
 go_wp2_with fail
 refine Z9 [] (LdW o B (.slice (some ⟨go,0,none⟩) no oc) kf) (by kernel_rfl) ?_
 change Z8 _ _ _ _ _ _ 10 #[false,false,false,false,false,false,false,false,false,false] _ y3.drew
 obtain⟨y4,hy4⟩:∃y,y3.drew=y:=⟨_,rfl⟩
 rw[hy4]
 have e4:Nw y3 y4:=by rw[←hy4];exact(Nw.refl y3).dr
 have hS0:LdW o B (.slice (some ⟨go,0,none⟩) no oc) kf y4:=⟨e4.kp c4,e4.kp b0⟩
 have t4:∀x,LdW o B (.slice (some ⟨go,0,none⟩) no oc) kf x→x.cell? ⟨o,4,none⟩=some (.slice (some ⟨go,0,none⟩) no oc):=fun x g=>g.1
 have tb:∀x,LdW o B (.slice (some ⟨go,0,none⟩) no oc) kf x→x.cell? ⟨B,0,none⟩=some (.int .i64 kf):=fun x g=>g.2
 have h4:=HY.out.nwr e4
 have HN:=hD0 (Z7z h4 m)
 have HAY4:=hD0 (e4.at' HAY.out)
 have HMi:=hD0 (Try.slices_Min_int go kf mm cc (s.op.drop kf) y4 hm0 (by rw[List.length_drop,HMn.out.2.2.2.1,HMn.out.2.2.2.2];omega) (by have:=HMn.out.2.2.2.2;have:=h4.bd.2.1;have q:=HMn.out.2.2.2.1;have q2:(Zs s p).op.length=s.op.length:=rfl;have:=HNn.out;omega) (fun jx hjx=>by
  have hjo:kf+jx<s.op.length:=by rw[List.length_drop] at hjx;omega
  have:=IS.cell h4.op (kf+jx) hjo
  rw[this,List.getD_eq_getElem?_getD,List.getD_eq_getElem?_getD,List.getElem?_drop];rfl))
 have hBo:B≠o:=fun e=>by
  have:=HAY4.out
  rw[e,h4.obj] at this
  injection this with this
  injection this with _ this _
  exact absurd this (by decide)
 have hol4:=h4.ol
 have HB4:=hD0 (hlt HAY4.out)
 clear hy4 c4 b0 b1 hBl hol e4 h4 HY HAY
 refine Z0 0 rfl (by kernel_rfl) (by kernel_rfl) (by kernel_rfl) (fun v c a w h=>h) ?_
 (first | (refine⟨undef,Or.inr ⟨by rfl,rfl⟩,?_⟩) | (apply Exists.intro;refine⟨Or.inl ⟨by rfl,?_⟩,?_⟩;(intro x hx';go_simp;first | done | with_reducible rfl)))
 (try simp only[Act.put,List.getElem_toArray,List.getElem_cons_zero,List.getElem_cons_succ,List.setIfInBounds_toArray,List.set_cons_zero,List.set_cons_succ])
 refine Z0 1 rfl (by kernel_rfl) (by kernel_rfl) (by kernel_rfl) (fun v c a w h=>h) ?_
 (first | (refine⟨undef,Or.inr ⟨by rfl,rfl⟩,?_⟩) | (apply Exists.intro;refine⟨Or.inl ⟨by rfl,?_⟩,?_⟩;(intro x hx';go_simp;first | done | with_reducible rfl)))
 (try simp only[Act.put,List.getElem_toArray,List.getElem_cons_zero,List.getElem_cons_succ,List.setIfInBounds_toArray,List.set_cons_zero,List.set_cons_succ])
 refine Z0 2 rfl (by kernel_rfl) (by kernel_rfl) (by kernel_rfl) (fun v c a w h=>h) ?_
 (first | (refine⟨undef,Or.inr ⟨by rfl,rfl⟩,?_⟩) | (apply Exists.intro;refine⟨Or.inl ⟨by rfl,?_⟩,?_⟩;(intro x hx';go_simp;first | done | with_reducible rfl)))
 (try simp only[Act.put,List.getElem_toArray,List.getElem_cons_zero,List.getElem_cons_succ,List.setIfInBounds_toArray,List.set_cons_zero,List.set_cons_succ])
 refine Z0 3 rfl (by kernel_rfl) (by kernel_rfl) (by kernel_rfl) (fun v c a w h=>h) ?_
 (first | (refine⟨undef,Or.inr ⟨by rfl,rfl⟩,?_⟩) | (apply Exists.intro;refine⟨Or.inl ⟨by rfl,?_⟩,?_⟩;(intro x hx';go_simp;first | done | with_reducible rfl)))
 (try simp only[Act.put,List.getElem_toArray,List.getElem_cons_zero,List.getElem_cons_succ,List.setIfInBounds_toArray,List.set_cons_zero,List.set_cons_succ])
 refine Z1 4 rfl (by kernel_rfl) (by kernel_rfl) (by kernel_rfl) (by kernel_rfl) (fun v c a w h=>h) hS0 ?_
 (first | (refine⟨undef,Or.inr ⟨by rfl,rfl⟩,?_⟩) | (apply Exists.intro;refine⟨Or.inl ⟨by rfl,?_⟩,?_⟩;(intro x hx';go_simp;first | done | with_reducible rfl)))
 (try simp only[Act.put,List.getElem_toArray,List.getElem_cons_zero,List.getElem_cons_succ,List.setIfInBounds_toArray,List.set_cons_zero,List.set_cons_succ])
 refine Z0 5 rfl (by kernel_rfl) (by kernel_rfl) (by kernel_rfl) (fun v c a w h=>h) ?_
 (first | (refine⟨undef,Or.inr ⟨by rfl,rfl⟩,?_⟩) | (apply Exists.intro;refine⟨Or.inl ⟨by rfl,?_⟩,?_⟩;(intro x hx';go_simp;first | done | with_reducible rfl)))
 (try simp only[Act.put,List.getElem_toArray,List.getElem_cons_zero,List.getElem_cons_succ,List.setIfInBounds_toArray,List.set_cons_zero,List.set_cons_succ])
 refine Z1 6 rfl (by kernel_rfl) (by kernel_rfl) (by kernel_rfl) (by kernel_rfl) (fun v c a w h=>h) hS0 ?_
 (first | (refine⟨undef,Or.inr ⟨by rfl,rfl⟩,?_⟩) | (apply Exists.intro;refine⟨Or.inl ⟨by rfl,?_⟩,?_⟩;(intro x hx';go_simp;first | done | with_reducible rfl)))
 (try simp only[Act.put,List.getElem_toArray,List.getElem_cons_zero,List.getElem_cons_succ,List.setIfInBounds_toArray,List.set_cons_zero,List.set_cons_succ])
 refine Z0 7 rfl (by kernel_rfl) (by kernel_rfl) (by kernel_rfl) (fun v c a w h=>h) ?_
 (first | (refine⟨undef,Or.inr ⟨by rfl,rfl⟩,?_⟩) | (apply Exists.intro;refine⟨Or.inl ⟨by rfl,?_⟩,?_⟩;(intro x hx';go_simp;first | done | with_reducible rfl)))
 (try simp only[Act.put,List.getElem_toArray,List.getElem_cons_zero,List.getElem_cons_succ,List.setIfInBounds_toArray,List.set_cons_zero,List.set_cons_succ])
 refine Z3 8 (by kernel_rfl) rfl (fun K hK=>?_)
 rw[if_pos (by rfl)]
 (try simp only[List.getElem_toArray,List.getElem_cons_zero,List.getElem_cons_succ])
 go_simp
 refine HMi.out.mono ?_
 rintro e w5 ⟨rfl,rfl⟩
 refine hK _ _ (.inr hS0) ?_
 clear hK K HMi
 (try simp only[Act.put,List.getElem_toArray,List.getElem_cons_zero,List.getElem_cons_succ,List.setIfInBounds_toArray,List.set_cons_zero,List.set_cons_succ])
 rw[show Lib.minOf ((s.op.drop kf).take mm)=m by rw[List.take_of_length_le (by rw[List.length_drop,HMn.out.2.2.2.1,HMn.out.2.2.2.2];omega)];exact HMn.out.1]
 refine Z3 9 (by kernel_rfl) rfl (fun K hK=>?_)
 rw[if_pos (by rfl)]
 (try simp only[List.getElem_toArray,List.getElem_cons_zero,List.getElem_cons_succ])
 go_simp
 refine HN.out.mono ?_
 rintro e w6 ⟨rfl,h6,t6⟩
 refine hK _ _ (.inr ⟨h6.c.2.2.2.2.1,(t6.cell HB4.out hBo).trans hS0.2⟩) ?_
 clear hK K
 have HW6:=hD0 h6
 have HAY6:=hD0 ((t6.block B HB4.out hBo).trans HAY4.out)
 clear hS0 t4 tb h6 t6 HN HAY4 hol4 HB4
 refine Z4 (by kernel_rfl) ?_ _
 refine NoPanic.normal ?_
 (try simp only[Act.put,List.getElem_toArray,List.getElem_cons_zero,List.getElem_cons_succ,List.setIfInBounds_toArray,List.set_cons_zero,List.set_cons_succ])
 obtain⟨s6,hs6⟩:∃x,Zd (Zs s p) true m=x:=⟨_,rfl⟩
 have HS6:=hD0 (aI0 hs6 (Vk (Zs s p) true m))
 have HS7:=hD0 hs6
 rw[hs6] at HW6 HS6
 obtain⟨c0,c1,c2,c3,c4,c5,c6,c7⟩:=HW6.out.c
 have b0:=Z2 (j:=0) HAY6.out
 clear hs6 c0 c1 c2 c3 c5 c6 c7
 go_wp2_with fail
 refine Z9 [] (LdW o B (.slice (some ⟨go,0,none⟩) no oc) kf) (by kernel_rfl) ?_
 change Z8 _ _ _ _ _ _ 9 #[false,false,false,false,false,false,false,false,false] _ w6.drew
 obtain⟨y6,hy6⟩:∃y,w6.drew=y:=⟨_,rfl⟩
 rw[hy6]
 have e6:Nw w6 y6:=by rw[←hy6];exact(Nw.refl w6).dr
 have hS0:LdW o B (.slice (some ⟨go,0,none⟩) no oc) kf y6:=⟨e6.kp c4,e6.kp b0⟩
 have t4:∀x,LdW o B (.slice (some ⟨go,0,none⟩) no oc) kf x→x.cell? ⟨o,4,none⟩=some (.slice (some ⟨go,0,none⟩) no oc):=fun x g=>g.1
 have tb:∀x,LdW o B (.slice (some ⟨go,0,none⟩) no oc) kf x→x.cell? ⟨B,0,none⟩=some (.int .i64 kf):=fun x g=>g.2
 have HI:Hid (Y0 W0 y6 o mb pb ev (.slice (some ⟨ga,0,none⟩) n1 pc) (.slice (some ⟨go,0,none⟩) no oc) (.slice (some ⟨gk,0,none⟩) jj kc) E { s6 with pl:=plC s6 kf 0 } N∧y6.heap[B]?=some (.cells #[.int .i64 kf,.bool true] 108)):=hD0 ⟨by rw[Z1w];exact HW6.out.nwr e6,e6.at' HAY6.out⟩
 clear hy6 c4 b0 e6 HW6 HAY6
 refine Z0 0 rfl (by kernel_rfl) (by kernel_rfl) (by kernel_rfl) (fun v c a w h=>h) ?_
 (first | (refine⟨undef,Or.inr ⟨by rfl,rfl⟩,?_⟩) | (apply Exists.intro;refine⟨Or.inl ⟨by rfl,?_⟩,?_⟩;(intro x hx';go_simp;first | done | with_reducible rfl)))
 (try simp only[Act.put,List.getElem_toArray,List.getElem_cons_zero,List.getElem_cons_succ,List.setIfInBounds_toArray,List.set_cons_zero,List.set_cons_succ])
 refine Z0 1 rfl (by kernel_rfl) (by kernel_rfl) (by kernel_rfl) (fun v c a w h=>h) ?_
 (first | (refine⟨undef,Or.inr ⟨by rfl,rfl⟩,?_⟩) | (apply Exists.intro;refine⟨Or.inl ⟨by rfl,?_⟩,?_⟩;(intro x hx';go_simp;first | done | with_reducible rfl)))
 (try simp only[Act.put,List.getElem_toArray,List.getElem_cons_zero,List.getElem_cons_succ,List.setIfInBounds_toArray,List.set_cons_zero,List.set_cons_succ])
 refine Z0 2 rfl (by kernel_rfl) (by kernel_rfl) (by kernel_rfl) (fun v c a w h=>h) ?_
 (first | (refine⟨undef,Or.inr ⟨by rfl,rfl⟩,?_⟩) | (apply Exists.intro;refine⟨Or.inl ⟨by rfl,?_⟩,?_⟩;(intro x hx';go_simp;first | done | with_reducible rfl)))
 (try simp only[Act.put,List.getElem_toArray,List.getElem_cons_zero,List.getElem_cons_succ,List.setIfInBounds_toArray,List.set_cons_zero,List.set_cons_succ])
 refine Z1 3 rfl (by kernel_rfl) (by kernel_rfl) (by kernel_rfl) (by kernel_rfl) (fun v c a w h=>h) hS0 ?_
 (first | (refine⟨undef,Or.inr ⟨by rfl,rfl⟩,?_⟩) | (apply Exists.intro;refine⟨Or.inl ⟨by rfl,?_⟩,?_⟩;(intro x hx';go_simp;first | done | with_reducible rfl)))
 (try simp only[Act.put,List.getElem_toArray,List.getElem_cons_zero,List.getElem_cons_succ,List.setIfInBounds_toArray,List.set_cons_zero,List.set_cons_succ])
 refine Z0 4 rfl (by kernel_rfl) (by kernel_rfl) (by kernel_rfl) (fun v c a w h=>h) ?_
 (first | (refine⟨undef,Or.inr ⟨by rfl,rfl⟩,?_⟩) | (apply Exists.intro;refine⟨Or.inl ⟨by rfl,?_⟩,?_⟩;(intro x hx';go_simp;first | done | with_reducible rfl)))
 (try simp only[Act.put,List.getElem_toArray,List.getElem_cons_zero,List.getElem_cons_succ,List.setIfInBounds_toArray,List.set_cons_zero,List.set_cons_succ])
 refine Z1 5 rfl (by kernel_rfl) (by kernel_rfl) (by kernel_rfl) (by kernel_rfl) (fun v c a w h=>h) hS0 ?_
 (first | (refine⟨undef,Or.inr ⟨by rfl,rfl⟩,?_⟩) | (apply Exists.intro;refine⟨Or.inl ⟨by rfl,?_⟩,?_⟩;(intro x hx';go_simp;first | done | with_reducible rfl)))
 (try simp only[Act.put,List.getElem_toArray,List.getElem_cons_zero,List.getElem_cons_succ,List.setIfInBounds_toArray,List.set_cons_zero,List.set_cons_succ])
 refine Z0 6 rfl (by kernel_rfl) (by kernel_rfl) (by kernel_rfl) (fun v c a w h=>h) ?_
 (first | (refine⟨undef,Or.inr ⟨by rfl,rfl⟩,?_⟩) | (apply Exists.intro;refine⟨Or.inl ⟨by rfl,?_⟩,?_⟩;(intro x hx';go_simp;first | done | with_reducible rfl)))
 (try simp only[Act.put,List.getElem_toArray,List.getElem_cons_zero,List.getElem_cons_succ,List.setIfInBounds_toArray,List.set_cons_zero,List.set_cons_succ])
 refine Z0 7 rfl (by kernel_rfl) (by kernel_rfl) (by kernel_rfl) (fun v c a w h=>h) ?_
 (first | (refine⟨undef,Or.inr ⟨by rfl,rfl⟩,?_⟩) | (apply Exists.intro;refine⟨Or.inl ⟨by rfl,?_⟩,?_⟩;(intro x hx';go_simp;first | done | with_reducible rfl)))
 (try simp only[Act.put,List.getElem_toArray,List.getElem_cons_zero,List.getElem_cons_succ,List.setIfInBounds_toArray,List.set_cons_zero,List.set_cons_succ])
 refine Z0 8 rfl (by kernel_rfl) (by kernel_rfl) (by kernel_rfl) (fun v c a w h=>h) ?_
 (first | (refine⟨undef,Or.inr ⟨by rfl,rfl⟩,?_⟩) | (apply Exists.intro;refine⟨Or.inl ⟨by rfl,?_⟩,?_⟩;(intro x hx';go_simp;first | done | with_reducible rfl)))
 (try simp only[Act.put,List.getElem_toArray,List.getElem_cons_zero,List.getElem_cons_succ,List.setIfInBounds_toArray,List.set_cons_zero,List.set_cons_succ])
 refine Z4 (by kernel_rfl) ?_ _
 refine NoPanic.normal ?_
 (try simp only[Act.put,List.getElem_toArray,List.getElem_cons_zero,List.getElem_cons_succ,List.setIfInBounds_toArray,List.set_cons_zero,List.set_cons_succ])
 clear hS0 t4 tb
 go_wp2_with fail
 have hBo:B≠o:=fun e=>by
  have:=HI.out.2
  rw[e,HI.out.1.obj] at this
  injection this with this
  injection this with _ this _
  exact absurd this (by decide)
 go_loopw [64] (fun vi wr=>∃jx:Nat,vi=.int .i64 jx∧jx≤mm∧Hid (Y0 W0 wr o mb pb ev (.slice (some ⟨ga,0,none⟩) n1 pc) (.slice (some ⟨go,0,none⟩) no oc) (.slice (some ⟨gk,0,none⟩) jj kc) E { s6 with pl:=plC s6 kf jx } N∧wr.heap[B]?=some (.cells #[.int .i64 kf,.bool true] 108))) (fun vi _=>mm-(intOf vi).toNat)
 case atStart=>exact⟨0,rfl,Nat.zero_le _,HI⟩
 case round =>
  clear HI
  obtain⟨jx,rfl,hjx,HI⟩:=hrel
  by_cases hjl:jx<mm
  ·have Yh:=Y6 hjl
   have hxo:kf+jx<s6.op.length:=by rw[HS6.out.2.2.2.2.1];show kf+jx<s.op.length;rw[HMn.out.2.2.2.1,HMn.out.2.2.2.2];omega
   obtain⟨x,hx⟩:∃x,s6.op[kf+jx]=x:=⟨_,rfl⟩
   have cx:wr.cell? ⟨go,kf+jx,none⟩=some (.int .i64 x):=by
    have:=IS.cell HI.out.1.op (kf+jx) hxo
    rw[this,List.getD_eq_getElem?_getD,List.getElem?_eq_getElem hxo,hx];rfl
   have hxs:x∈s.op:=by rw[←show s6.op=s.op from HS6.out.2.2.2.2.1,←hx];exact gM0 hxo
   have hxd:(s6.op.drop kf)[jx]?=some x:=by rw[List.getElem?_drop,List.getElem?_eq_getElem hxo,hx]
   have hfx:=HMn.out.2.2.1 x hxs
   have hp6:s6.pl x≠none:=by rw[show s6.pl=s.pl from HS6.out.2.2.1];exact hfx.2
   obtain⟨w8,hr8,hm8,hg8⟩:=HI.out.1.mp.set (by have:=HNn.out;omega) hfx.1 (-1) (Z58 hp6)
   have h8:=HI.out.1.plc hm8 hg8 (Nat.le_refl N)
   simp only[Z1v s6 kf jx hxd] at h8
   have hBp:B≠pb:=fun e=>by
    obtain⟨es,c,q⟩:=HI.out.1.mp.obj
    rw[←e,HI.out.2] at q;cases q
   have HI8:=hD0 (aI0 h8 (((Z12 hg8).block B (hlt HI.out.2) hBp).trans HI.out.2))
   have HR8:=hD0 hr8
   have c2:=HI.out.1.c.2.2.1
   have hol:=HI.out.1.ol
   have hw:=Ya jx (jx+1) (Nat.le_trans hjx HMB.out) rfl
   obtain⟨j1,hj1⟩:∃n,jx+1=n:=⟨_,rfl⟩
   rw[hj1] at hw HI8
   have HJ:=hD0 hj1
   clear hxo hx hxs hxd hfx hp6 hr8 hm8 hg8 h8 hBp HI hj1
   go_wp2_with (at_mapUpdate;refine Zp rfl (.tmp 71) (.tmp 72) (.const (.int .i64 (-1))) 50 rfl _ _ _ _ rfl rfl rfl HR8.out ?_)
   go_roundw
   case rel=>exact⟨j1,rfl,by rw[←HJ.out];exact hjl,HI8⟩
   case measure=>rw[←HJ.out];exact Ye hjl
  ·obtain rfl:jx=mm:=Nat.le_antisymm hjx (Nat.le_of_not_lt hjl)
   have Yh:=Nat.lt_irrefl jx
   obtain⟨c0,c1,c2,c3,c4,c5,c6,c7⟩:=HI.out.1.c
   have hol:=HI.out.1.ol
   have hfz:=HI.out.1.fz
   have b0:=Z2 (j:=0) HI.out.2
   have hcl:=fun z (g:Nw wr z)=>(HI.out.1.nwr g).shut (by show no=s6.op.length;rw[HS6.out.2.2.2.2.1];exact HMn.out.2.2.2.1.symm) (by show jj=s6.kn.length;rw[HS6.out.2.2.2.2.2];exact HLen.out.1.symm) hkno2 (Nat.le_of_lt hji')
   have HC:=hD0 hcl
   clear hcl c0 c1 c2 c3 c6 c7 HI hjl
   go_wp2_with fail
   refine Z9 [17,18,19,20] (L4 o B (.slice (some ⟨go,0,none⟩) no oc) (.slice (some ⟨gk,0,none⟩) jj kc) kf) (by kernel_rfl) ?_
   change Z8 _ _ _ _ _ _ 21 #[false,false,false,false,false,false,false,false,false,false,false,false,false,false,false,false,false,false,false,false,false] _ wr.drew
   obtain⟨y8,hy8⟩:∃y,wr.drew=y:=⟨_,rfl⟩
   rw[hy8]
   have e8:Nw wr y8:=by rw[←hy8];exact(Nw.refl wr).dr
   have hS0:L4 o B (.slice (some ⟨go,0,none⟩) no oc) (.slice (some ⟨gk,0,none⟩) jj kc) kf y8:=⟨e8.kp c4,e8.kp c5,e8.kp b0⟩
   have t4:∀x,L4 o B (.slice (some ⟨go,0,none⟩) no oc) (.slice (some ⟨gk,0,none⟩) jj kc) kf x→x.cell? ⟨o,4,none⟩=some (.slice (some ⟨go,0,none⟩) no oc):=fun x g=>g.1
   have t5:∀x,L4 o B (.slice (some ⟨go,0,none⟩) no oc) (.slice (some ⟨gk,0,none⟩) jj kc) kf x→x.cell? ⟨o,5,none⟩=some (.slice (some ⟨gk,0,none⟩) jj kc):=fun x g=>g.2.1
   have tb:∀x,L4 o B (.slice (some ⟨go,0,none⟩) no oc) (.slice (some ⟨gk,0,none⟩) jj kc) kf x→x.cell? ⟨B,0,none⟩=some (.int .i64 kf):=fun x g=>g.2.2
   have hol8:o<y8.heap.size:=lL0 hol e8.sz
   have f8:∀j,y8.frozen? ⟨o,j,none⟩=false:=fun j=>(e8.froz hol).trans (hfz j)
   have d4:=hS0.1
   have d5:=hS0.2.1
   have HE:=hD0 (HC.out y8 e8)
   have HQ:=hD0 (Z1b (j:=j) (mm:=jx) HS7.out HKK.out.1 HKK.out.2.1 HKK.out.2.2.1 HKK.out.2.2.2 (by have h1:=HMn.out.2.2.2.1;have h2:=HMn.out.2.2.2.2;omega))
   clear hy8 c4 c5 b0 e8 hol hfz HC
   refine Z0 0 rfl (by kernel_rfl) (by kernel_rfl) (by kernel_rfl) (fun v c a w h=>h) ?_
   (first | (refine⟨undef,Or.inr ⟨by rfl,rfl⟩,?_⟩) | (apply Exists.intro;refine⟨Or.inl ⟨by rfl,?_⟩,?_⟩;(intro x hx';go_simp;first | done | with_reducible rfl)))
   (try simp only[Act.put,List.getElem_toArray,List.getElem_cons_zero,List.getElem_cons_succ,List.setIfInBounds_toArray,List.set_cons_zero,List.set_cons_succ])
   refine Z0 1 rfl (by kernel_rfl) (by kernel_rfl) (by kernel_rfl) (fun v c a w h=>h) ?_
   (first | (refine⟨undef,Or.inr ⟨by rfl,rfl⟩,?_⟩) | (apply Exists.intro;refine⟨Or.inl ⟨by rfl,?_⟩,?_⟩;(intro x hx';go_simp;first | done | with_reducible rfl)))
   (try simp only[Act.put,List.getElem_toArray,List.getElem_cons_zero,List.getElem_cons_succ,List.setIfInBounds_toArray,List.set_cons_zero,List.set_cons_succ])
   refine Z0 2 rfl (by kernel_rfl) (by kernel_rfl) (by kernel_rfl) (fun v c a w h=>h) ?_
   (first | (refine⟨undef,Or.inr ⟨by rfl,rfl⟩,?_⟩) | (apply Exists.intro;refine⟨Or.inl ⟨by rfl,?_⟩,?_⟩;(intro x hx';go_simp;first | done | with_reducible rfl)))
   (try simp only[Act.put,List.getElem_toArray,List.getElem_cons_zero,List.getElem_cons_succ,List.setIfInBounds_toArray,List.set_cons_zero,List.set_cons_succ])
   refine Z0 3 rfl (by kernel_rfl) (by kernel_rfl) (by kernel_rfl) (fun v c a w h=>h) ?_
   (first | (refine⟨undef,Or.inr ⟨by rfl,rfl⟩,?_⟩) | (apply Exists.intro;refine⟨Or.inl ⟨by rfl,?_⟩,?_⟩;(intro x hx';go_simp;first | done | with_reducible rfl)))
   (try simp only[Act.put,List.getElem_toArray,List.getElem_cons_zero,List.getElem_cons_succ,List.setIfInBounds_toArray,List.set_cons_zero,List.set_cons_succ])
   refine Z0 4 rfl (by kernel_rfl) (by kernel_rfl) (by kernel_rfl) (fun v c a w h=>h) ?_
   (first | (refine⟨undef,Or.inr ⟨by rfl,rfl⟩,?_⟩) | (apply Exists.intro;refine⟨Or.inl ⟨by rfl,?_⟩,?_⟩;(intro x hx';go_simp;first | done | with_reducible rfl)))
   (try simp only[Act.put,List.getElem_toArray,List.getElem_cons_zero,List.getElem_cons_succ,List.setIfInBounds_toArray,List.set_cons_zero,List.set_cons_succ])
   refine Z1 5 rfl (by kernel_rfl) (by kernel_rfl) (by kernel_rfl) (by kernel_rfl) (fun v c a w h=>h) hS0 ?_
   (first | (refine⟨undef,Or.inr ⟨by rfl,rfl⟩,?_⟩) | (apply Exists.intro;refine⟨Or.inl ⟨by rfl,?_⟩,?_⟩;(intro x hx';go_simp;first | done | with_reducible rfl)))
   (try simp only[Act.put,List.getElem_toArray,List.getElem_cons_zero,List.getElem_cons_succ,List.setIfInBounds_toArray,List.set_cons_zero,List.set_cons_succ])
   refine Z0 6 rfl (by kernel_rfl) (by kernel_rfl) (by kernel_rfl) (fun v c a w h=>h) ?_
   (first | (refine⟨undef,Or.inr ⟨by rfl,rfl⟩,?_⟩) | (apply Exists.intro;refine⟨Or.inl ⟨by rfl,?_⟩,?_⟩;(intro x hx';go_simp;first | done | with_reducible rfl)))
   (try simp only[Act.put,List.getElem_toArray,List.getElem_cons_zero,List.getElem_cons_succ,List.setIfInBounds_toArray,List.set_cons_zero,List.set_cons_succ])
   refine Z1 7 rfl (by kernel_rfl) (by kernel_rfl) (by kernel_rfl) (by kernel_rfl) (fun v c a w h=>h) hS0 ?_
   (first | (refine⟨undef,Or.inr ⟨by rfl,rfl⟩,?_⟩) | (apply Exists.intro;refine⟨Or.inl ⟨by rfl,?_⟩,?_⟩;(intro x hx';go_simp;first | done | with_reducible rfl)))
   (try simp only[Act.put,List.getElem_toArray,List.getElem_cons_zero,List.getElem_cons_succ,List.setIfInBounds_toArray,List.set_cons_zero,List.set_cons_succ])
   refine Z0 8 rfl (by kernel_rfl) (by kernel_rfl) (by kernel_rfl) (fun v c a w h=>h) ?_
   (first | (refine⟨undef,Or.inr ⟨by rfl,rfl⟩,?_⟩) | (apply Exists.intro;refine⟨Or.inl ⟨by rfl,?_⟩,?_⟩;(intro x hx';go_simp;first | done | with_reducible rfl)))
   (try simp only[Act.put,List.getElem_toArray,List.getElem_cons_zero,List.getElem_cons_succ,List.setIfInBounds_toArray,List.set_cons_zero,List.set_cons_succ])
   refine Z0 9 rfl (by kernel_rfl) (by kernel_rfl) (by kernel_rfl) (fun v c a w h=>h) ?_
   (first | (refine⟨undef,Or.inr ⟨by rfl,rfl⟩,?_⟩) | (apply Exists.intro;refine⟨Or.inl ⟨by rfl,?_⟩,?_⟩;(intro x hx';go_simp;first | done | with_reducible rfl)))
   (try simp only[Act.put,List.getElem_toArray,List.getElem_cons_zero,List.getElem_cons_succ,List.setIfInBounds_toArray,List.set_cons_zero,List.set_cons_succ])
   refine Z0 10 rfl (by kernel_rfl) (by kernel_rfl) (by kernel_rfl) (fun v c a w h=>h) ?_
   (first | (refine⟨undef,Or.inr ⟨by rfl,rfl⟩,?_⟩) | (apply Exists.intro;refine⟨Or.inl ⟨by rfl,?_⟩,?_⟩;(intro x hx';go_simp;first | done | with_reducible rfl)))
   (try simp only[Act.put,List.getElem_toArray,List.getElem_cons_zero,List.getElem_cons_succ,List.setIfInBounds_toArray,List.set_cons_zero,List.set_cons_succ])
   refine Z0 11 rfl (by kernel_rfl) (by kernel_rfl) (by kernel_rfl) (fun v c a w h=>h) ?_
   (first | (refine⟨undef,Or.inr ⟨by rfl,rfl⟩,?_⟩) | (apply Exists.intro;refine⟨Or.inl ⟨by rfl,?_⟩,?_⟩;(intro x hx';go_simp;first | done | with_reducible rfl)))
   (try simp only[Act.put,List.getElem_toArray,List.getElem_cons_zero,List.getElem_cons_succ,List.setIfInBounds_toArray,List.set_cons_zero,List.set_cons_succ])
   refine Z1 12 rfl (by kernel_rfl) (by kernel_rfl) (by kernel_rfl) (by kernel_rfl) (fun v c a w h=>h) hS0 ?_
   (first | (refine⟨undef,Or.inr ⟨by rfl,rfl⟩,?_⟩) | (apply Exists.intro;refine⟨Or.inl ⟨by rfl,?_⟩,?_⟩;(intro x hx';go_simp;first | done | with_reducible rfl)))
   (try simp only[Act.put,List.getElem_toArray,List.getElem_cons_zero,List.getElem_cons_succ,List.setIfInBounds_toArray,List.set_cons_zero,List.set_cons_succ])
   refine Z0 13 rfl (by kernel_rfl) (by kernel_rfl) (by kernel_rfl) (fun v c a w h=>h) ?_
   (first | (refine⟨undef,Or.inr ⟨by rfl,rfl⟩,?_⟩) | (apply Exists.intro;refine⟨Or.inl ⟨by rfl,?_⟩,?_⟩;(intro x hx';go_simp;first | done | with_reducible rfl)))
   (try simp only[Act.put,List.getElem_toArray,List.getElem_cons_zero,List.getElem_cons_succ,List.setIfInBounds_toArray,List.set_cons_zero,List.set_cons_succ])
   refine Z0 14 rfl (by kernel_rfl) (by kernel_rfl) (by kernel_rfl) (fun v c a w h=>h) ?_
   (first | (refine⟨undef,Or.inr ⟨by rfl,rfl⟩,?_⟩) | (apply Exists.intro;refine⟨Or.inl ⟨by rfl,?_⟩,?_⟩;(intro x hx';go_simp;first | done | with_reducible rfl)))
   (try simp only[Act.put,List.getElem_toArray,List.getElem_cons_zero,List.getElem_cons_succ,List.setIfInBounds_toArray,List.set_cons_zero,List.set_cons_succ])
   refine Z3 15 (by kernel_rfl) rfl (fun K hK=>?_)
   rw[if_pos (by rfl)]
   (try simp only[List.getElem_toArray,List.getElem_cons_zero,List.getElem_cons_succ])
   go_simp
   refine hK _ _ (.inr hS0) ?_
   clear hK K
   (try simp only[Act.put,List.getElem_toArray,List.getElem_cons_zero,List.getElem_cons_succ,List.setIfInBounds_toArray,List.set_cons_zero,List.set_cons_succ])
   refine Z3 16 (by kernel_rfl) rfl (fun K hK=>?_)
   rw[if_pos (by rfl)]
   (try simp only[List.getElem_toArray,List.getElem_cons_zero,List.getElem_cons_succ])
   go_simp
   refine hK _ _ (.inr hS0) ?_
   clear hK K
   (try simp only[Act.put,List.getElem_toArray,List.getElem_cons_zero,List.getElem_cons_succ,List.setIfInBounds_toArray,List.set_cons_zero,List.set_cons_succ])
   clear hS0 t4 t5 tb
   refine Z3 17 (by kernel_rfl) rfl (fun K hK=>?_)
   rw[if_pos (by rfl)]
   (try simp only[List.getElem_toArray,List.getElem_cons_zero,List.getElem_cons_succ])
   go_simp
   refine hK _ _ (.inl (by decide)) ?_
   clear hK K
   (try simp only[Act.put,List.getElem_toArray,List.getElem_cons_zero,List.getElem_cons_succ,List.setIfInBounds_toArray,List.set_cons_zero,List.set_cons_succ])
   refine Z3 18 (by kernel_rfl) rfl (fun K hK=>?_)
   rw[if_pos (by rfl)]
   (try simp only[List.getElem_toArray,List.getElem_cons_zero,List.getElem_cons_succ])
   go_simp
   refine hK _ _ (.inl (by decide)) ?_
   clear hK K
   (try simp only[Act.put,List.getElem_toArray,List.getElem_cons_zero,List.getElem_cons_succ,List.setIfInBounds_toArray,List.set_cons_zero,List.set_cons_succ])
   refine Z3 19 (by kernel_rfl) rfl (fun K hK=>?_)
   rw[if_pos (by rfl)]
   (try simp only[List.getElem_toArray,List.getElem_cons_zero,List.getElem_cons_succ])
   go_simp
   refine hK _ _ (.inl (by decide)) ?_
   clear hK K
   (try simp only[Act.put,List.getElem_toArray,List.getElem_cons_zero,List.getElem_cons_succ,List.setIfInBounds_toArray,List.set_cons_zero,List.set_cons_succ])
   refine Z3 20 (by kernel_rfl) rfl (fun K hK=>?_)
   rw[if_pos (by rfl)]
   (try simp only[List.getElem_toArray,List.getElem_cons_zero,List.getElem_cons_succ])
   go_simp
   refine hK _ _ (.inl (by decide)) ?_
   clear hK K
   (try simp only[Act.put,List.getElem_toArray,List.getElem_cons_zero,List.getElem_cons_succ,List.setIfInBounds_toArray,List.set_cons_zero,List.set_cons_succ])
   refine Z4 (by kernel_rfl) ?_ _
   refine NoPanic.normal ?_
   (try simp only[Act.put,List.getElem_toArray,List.getElem_cons_zero,List.getElem_cons_succ,List.setIfInBounds_toArray,List.set_cons_zero,List.set_cons_succ])
   go_wp2
   refine bodyPost_end (results_none rfl _ _ _) rfl ?_
   refine⟨rfl,m,by rw[HKK.out.1];exact HMn.out.2.1.1,by rw[HKK.out.1];exact HMn.out.2.1.2,mb,pb,.slice (some ⟨ga,0,none⟩) n1 pc,.slice (some ⟨go,0,none⟩) kf oc,.slice (some ⟨gk,0,none⟩) j kc,?_⟩
   rw[←HQ.out]
   exact HE.out
theorem Z3r(h:Wk W0 w o ev E s N)(hN:N≤100000){p:List Int}{t:Int}(hp:s.path=p++[t])(ht:Z6 t){Ks:List Kn}{k0:Kn}(hk:s.kn=Ks++[k0])(hlp:k0.lp=false)(hpt:s.pl t=some (k0.f:Int))(hko:k0.f<s.op.length)(hfit:∀x∈s.op,Z6 x∧s.pl x≠none) :
  Calls prog 48 #[.pointer (some ⟨o,0,none⟩),.int .i64 t] w fun e w'=>e=.returned (.tuple #[])∧∃m,m∈s.op.drop k0.f∧(∀x∈s.op.drop k0.f,m≤x)∧Wk W0 w' o ev E (Zk s p Ks k0 m) N:=by
 obtain⟨mb,pb,vp,vo,vk,h⟩:=h
 obtain⟨pa,pc,rfl,hpa⟩:=h.pa.box
 obtain⟨gk,kc,rfl⟩:∃g cap,vk=.slice (some ⟨g,0,none⟩) s.kn.length cap:=by
  rcases Yv h.kn with⟨_,q⟩ | ⟨g,cap,q⟩
  ·rw[hk] at q;simp at q
  ·exact⟨g,cap,q⟩
 have hb:=h.bd
 obtain⟨nn,hnn⟩:∃n,s.path.length=n:=⟨_,rfl⟩
 obtain⟨jj,hjj⟩:∃n,s.kn.length=n:=⟨_,rfl⟩
 have hpl:nn=p.length+1:=by rw[←hnn,hp];simp
 have hkl:jj=Ks.length+1:=by rw[←hjj,hk];simp
 obtain⟨ga,rfl,_⟩:=hpa (by omega)
 have hpc:p.length≤pc:=by
  rcases h.pa.2 with⟨q,_⟩ | ⟨g',cap',cur,q,_,_,q4,_⟩
  ·simp at q
  ·simp only[Value.slice.injEq] at q
   omega
 obtain⟨n1,hn1⟩:∃n,p.length=n:=⟨_,rfl⟩
 obtain⟨j,hj⟩:∃n,Ks.length=n:=⟨_,rfl⟩
 rw[hnn,hjj] at h
 have h1:=fun(z:World) (g:Nw w z)=>(h.nwr g).popP hp hnn.symm
 simp only[hn1] at h1
 rw[hn1] at hpl hpc
 rw[hj] at hkl
 have hkc:=h.kn.cell hjj.symm j (by omega)
 have hkj:∀(q:j<s.kn.length),s.kn[j]=k0:=fun q=>by
  have e:s.kn[j]?=some s.kn[j]:=List.getElem?_eq_getElem q
  have e2:s.kn[j]?=some k0:=by rw[hk,←hj];simp
  exact Option.some.inj (e.symm.trans e2)
 rw[hkj] at hkc
 obtain⟨kf,hkf⟩:∃f,k0.f=f:=⟨_,rfl⟩
 rw[hkf,hlp] at hkc
 obtain⟨c0,c1,c2,c3,c4,c5,c6,c7⟩:=h.c
 obtain⟨k1,k2⟩:=hkc
 have hol:=h.ol
 have hfz:=h.fz 3
 have hgl:=olt h.kn (g:=gk) rfl
 have hne:¬gk=o:=fun e=>h.off.2.2.2.2 (by rw[e];rfl)
 have hd1:=Yt nn n1 (by omega) hpl
 have hd2:=Yt jj j (by omega) hkl
 have hji:(j:Int)<(jj:Int):=by omega
 have hji':j<jj:=by omega
 have hpc':(n1:Int)≤(pc:Int):=by omega
 obtain⟨pt,hptf⟩:∃f,k0.f=f:=⟨_,rfl⟩
 rw[hptf] at hpt
 have HX:=hD0 (aI0 ht hpt)
 obtain⟨oa,oc,hvo,hoa⟩:=h.op.box
 obtain⟨go,rfl,_⟩:=hoa (by omega)
 subst hvo
 have hoc:s.op.length≤oc:=by
  rcases h.op.2 with⟨q,_⟩ | ⟨g',cap',cur,q,_,_,q4,_⟩
  ·simp at q
  ·simp only[Value.slice.injEq] at q
   omega
 obtain⟨no,hno⟩:∃n,s.op.length=n:=⟨_,rfl⟩
 rw[hno] at h
 simp only[hno] at h1
 obtain⟨mm,hmm⟩:∃n,no=kf+n:=⟨no-kf,by rw[←hno,←hkf];omega⟩
 have hm0:0<mm:=by rw[hkf,hno] at hko;omega
 obtain⟨m,hm⟩:∃m,Lib.minOf (s.op.drop kf)=m:=⟨_,rfl⟩
 have hmi:=Z1t (l:=s.op.drop kf) (by rw[List.length_drop,hno];omega)
 rw[hm] at hmi
 have HMn:=hD0 (aI0 hm (aI0 hmi (aI0 hfit (aI0 hno hmm))))
 have HKK:=hD0 (aI0 hkf (aI0 hlp (aI0 hk hj)))
 have HNn:=hD0 hN
 have HMB:=hD0 (show mm≤1000000 by have:=hb.2.1;omega)
 have HLen:=hD0 (aI0 hjj (aI0 hkl hpl))
 have hkfo:kf≤oc:=by rw[hno] at hoc;omega
 have hkfo':(kf:Int)≤(oc:Int):=by omega
 have hkno:kf<no:=by omega
 have hkno':(kf:Int)<(no:Int):=by omega
 have hmo:no≤oc:=by rw[hno] at hoc;exact hoc
 have hmo':(no:Int)≤(oc:Int):=by omega
 have hjkc:jj≤kc:=by
  rcases h.kn.2 with⟨q,_⟩ | ⟨g',cap',cur,q,_,_,q4,_⟩
  ·simp at q
  ·simp only[Value.slice.injEq] at q
   omega
 have hjk':(j:Int)≤(kc:Int):=by omega
 have hjk2:j≤kc:=by omega
 have hkno2:kf≤no:=Nat.le_of_lt hkno
 have hock:¬oc=kf:=by omega
 obtain⟨cc,hcc⟩:∃n,oc-kf=n:=⟨_,rfl⟩
 have hmmI:((no:Int)-(kf:Int)).toNat=mm:=by omega
 have hmm2:no-kf=mm:=by omega
 obtain rfl:kf=pt:=by rw[←hptf,hkf]
 obtain⟨d1,d2⟩:=Z4o (Nat.lt_irrefl kf)
 clear hfit hmi hm hmm hno hoa hptf hoc hlp
 have HW:=hD0 h1
 clear h h1 c0 c1 c2 c4 c6 c7 hb hpl hkl hkj hn1 hj hkf hpt hnn hjj hk hp ht hN hko
 go_enter func48,ntmps48
 go_wp2_with fail
 refine Z9 [14] (fun x=>x.cell? ⟨o,3,none⟩=some (.slice (some ⟨ga,0,none⟩) nn pc)) (by kernel_rfl) ?_
 change Z8 _ _ _ _ _ _ 15 #[false,false,false,false,false,false,false,false,false,false,false,false,false,false,false] _ w.drew
 obtain⟨y0,hy0⟩:∃y,w.drew=y:=⟨_,rfl⟩
 rw[hy0]
 have e0:Nw w y0:=by rw[←hy0];exact(Nw.refl w).dr
 have hS0:=e0.kp c3
 have f3:y0.frozen? ⟨o,3,none⟩=false:=(e0.froz hol).trans hfz
 have hol0:o<y0.heap.size:=lL0 hol e0.sz
 have k1':=e0.kp k1
 have k2':=e0.kp k2
 have c5':=e0.kp c5
 have hgl0:gk<y0.heap.size:=lL0 hgl e0.sz
 have HW0:=hD0 (show Y0 W0 (y0.setCell ⟨o,3,none⟩ (.slice (some ⟨ga,0,none⟩) n1 pc)) o mb pb ev (.slice (some ⟨ga,0,none⟩) n1 pc) (.slice (some ⟨go,0,none⟩) no oc) (.slice (some ⟨gk,0,none⟩) jj kc) E (Zs s p) N from HW.out _ e0)
 clear hy0 e0 k1 k2 c3 c5 hol hgl hfz HW
 refine Z0 0 rfl (by kernel_rfl) (by kernel_rfl) (by kernel_rfl) (fun v c a w h=>h) ?_
 (first | (refine⟨undef,Or.inr ⟨by rfl,rfl⟩,?_⟩) | (apply Exists.intro;refine⟨Or.inl ⟨by rfl,?_⟩,?_⟩;(intro x hx';go_simp;first | done | with_reducible rfl)))
 (try simp only[Act.put,List.getElem_toArray,List.getElem_cons_zero,List.getElem_cons_succ,List.setIfInBounds_toArray,List.set_cons_zero,List.set_cons_succ])
 refine Z0 1 rfl (by kernel_rfl) (by kernel_rfl) (by kernel_rfl) (fun v c a w h=>h) ?_
 (first | (refine⟨undef,Or.inr ⟨by rfl,rfl⟩,?_⟩) | (apply Exists.intro;refine⟨Or.inl ⟨by rfl,?_⟩,?_⟩;(intro x hx';go_simp;first | done | with_reducible rfl)))
 (try simp only[Act.put,List.getElem_toArray,List.getElem_cons_zero,List.getElem_cons_succ,List.setIfInBounds_toArray,List.set_cons_zero,List.set_cons_succ])
 refine Z0 2 rfl (by kernel_rfl) (by kernel_rfl) (by kernel_rfl) (fun v c a w h=>h) ?_
 (first | (refine⟨undef,Or.inr ⟨by rfl,rfl⟩,?_⟩) | (apply Exists.intro;refine⟨Or.inl ⟨by rfl,?_⟩,?_⟩;(intro x hx';go_simp;first | done | with_reducible rfl)))
 (try simp only[Act.put,List.getElem_toArray,List.getElem_cons_zero,List.getElem_cons_succ,List.setIfInBounds_toArray,List.set_cons_zero,List.set_cons_succ])
 refine Z0 3 rfl (by kernel_rfl) (by kernel_rfl) (by kernel_rfl) (fun v c a w h=>h) ?_
 (first | (refine⟨undef,Or.inr ⟨by rfl,rfl⟩,?_⟩) | (apply Exists.intro;refine⟨Or.inl ⟨by rfl,?_⟩,?_⟩;(intro x hx';go_simp;first | done | with_reducible rfl)))
 (try simp only[Act.put,List.getElem_toArray,List.getElem_cons_zero,List.getElem_cons_succ,List.setIfInBounds_toArray,List.set_cons_zero,List.set_cons_succ])
 refine Z1 4 rfl (by kernel_rfl) (by kernel_rfl) (by kernel_rfl) (by kernel_rfl) (fun v c a w h=>h) hS0 ?_
 (first | (refine⟨undef,Or.inr ⟨by rfl,rfl⟩,?_⟩) | (apply Exists.intro;refine⟨Or.inl ⟨by rfl,?_⟩,?_⟩;(intro x hx';go_simp;first | done | with_reducible rfl)))
 (try simp only[Act.put,List.getElem_toArray,List.getElem_cons_zero,List.getElem_cons_succ,List.setIfInBounds_toArray,List.set_cons_zero,List.set_cons_succ])
 refine Z0 5 rfl (by kernel_rfl) (by kernel_rfl) (by kernel_rfl) (fun v c a w h=>h) ?_
 (first | (refine⟨undef,Or.inr ⟨by rfl,rfl⟩,?_⟩) | (apply Exists.intro;refine⟨Or.inl ⟨by rfl,?_⟩,?_⟩;(intro x hx';go_simp;first | done | with_reducible rfl)))
 (try simp only[Act.put,List.getElem_toArray,List.getElem_cons_zero,List.getElem_cons_succ,List.setIfInBounds_toArray,List.set_cons_zero,List.set_cons_succ])
 refine Z0 6 rfl (by kernel_rfl) (by kernel_rfl) (by kernel_rfl) (fun v c a w h=>h) ?_
 (first | (refine⟨undef,Or.inr ⟨by rfl,rfl⟩,?_⟩) | (apply Exists.intro;refine⟨Or.inl ⟨by rfl,?_⟩,?_⟩;(intro x hx';go_simp;first | done | with_reducible rfl)))
 (try simp only[Act.put,List.getElem_toArray,List.getElem_cons_zero,List.getElem_cons_succ,List.setIfInBounds_toArray,List.set_cons_zero,List.set_cons_succ])
 refine Z0 7 rfl (by kernel_rfl) (by kernel_rfl) (by kernel_rfl) (fun v c a w h=>h) ?_
 (first | (refine⟨undef,Or.inr ⟨by rfl,rfl⟩,?_⟩) | (apply Exists.intro;refine⟨Or.inl ⟨by rfl,?_⟩,?_⟩;(intro x hx';go_simp;first | done | with_reducible rfl)))
 (try simp only[Act.put,List.getElem_toArray,List.getElem_cons_zero,List.getElem_cons_succ,List.setIfInBounds_toArray,List.set_cons_zero,List.set_cons_succ])
 refine Z1 8 rfl (by kernel_rfl) (by kernel_rfl) (by kernel_rfl) (by kernel_rfl) (fun v c a w h=>h) hS0 ?_
 (first | (refine⟨undef,Or.inr ⟨by rfl,rfl⟩,?_⟩) | (apply Exists.intro;refine⟨Or.inl ⟨by rfl,?_⟩,?_⟩;(intro x hx';go_simp;first | done | with_reducible rfl)))
 (try simp only[Act.put,List.getElem_toArray,List.getElem_cons_zero,List.getElem_cons_succ,List.setIfInBounds_toArray,List.set_cons_zero,List.set_cons_succ])
 refine Z0 9 rfl (by kernel_rfl) (by kernel_rfl) (by kernel_rfl) (fun v c a w h=>h) ?_
 (first | (refine⟨undef,Or.inr ⟨by rfl,rfl⟩,?_⟩) | (apply Exists.intro;refine⟨Or.inl ⟨by rfl,?_⟩,?_⟩;(intro x hx';go_simp;first | done | with_reducible rfl)))
 (try simp only[Act.put,List.getElem_toArray,List.getElem_cons_zero,List.getElem_cons_succ,List.setIfInBounds_toArray,List.set_cons_zero,List.set_cons_succ])
 refine Z0 10 rfl (by kernel_rfl) (by kernel_rfl) (by kernel_rfl) (fun v c a w h=>h) ?_
 (first | (refine⟨undef,Or.inr ⟨by rfl,rfl⟩,?_⟩) | (apply Exists.intro;refine⟨Or.inl ⟨by rfl,?_⟩,?_⟩;(intro x hx';go_simp;first | done | with_reducible rfl)))
 (try simp only[Act.put,List.getElem_toArray,List.getElem_cons_zero,List.getElem_cons_succ,List.setIfInBounds_toArray,List.set_cons_zero,List.set_cons_succ])
 refine Z0 11 rfl (by kernel_rfl) (by kernel_rfl) (by kernel_rfl) (fun v c a w h=>h) ?_
 (first | (refine⟨undef,Or.inr ⟨by rfl,rfl⟩,?_⟩) | (apply Exists.intro;refine⟨Or.inl ⟨by rfl,?_⟩,?_⟩;(intro x hx';go_simp;first | done | with_reducible rfl)))
 (try simp only[Act.put,List.getElem_toArray,List.getElem_cons_zero,List.getElem_cons_succ,List.setIfInBounds_toArray,List.set_cons_zero,List.set_cons_succ])
 refine Z3 12 (by kernel_rfl) rfl (fun K hK=>?_)
 rw[if_pos (by rfl)]
 (try simp only[List.getElem_toArray,List.getElem_cons_zero,List.getElem_cons_succ])
 go_simp
 refine hK _ _ (.inr hS0) ?_
 clear hK K
 (try simp only[Act.put,List.getElem_toArray,List.getElem_cons_zero,List.getElem_cons_succ,List.setIfInBounds_toArray,List.set_cons_zero,List.set_cons_succ])
 refine Z3 13 (by kernel_rfl) rfl (fun K hK=>?_)
 rw[if_pos (by rfl)]
 (try simp only[List.getElem_toArray,List.getElem_cons_zero,List.getElem_cons_succ])
 go_simp
 refine hK _ _ (.inr hS0) ?_
 clear hK K
 (try simp only[Act.put,List.getElem_toArray,List.getElem_cons_zero,List.getElem_cons_succ,List.setIfInBounds_toArray,List.set_cons_zero,List.set_cons_succ])
 refine Z3 14 (by kernel_rfl) rfl (fun K hK=>?_)
 rw[if_pos (by rfl)]
 (try simp only[List.getElem_toArray,List.getElem_cons_zero,List.getElem_cons_succ])
 go_simp
 refine hK _ _ (.inl (by decide)) ?_
 clear hK K
 refine Z4 (by kernel_rfl) ?_ _
 refine NoPanic.normal ?_
 (try simp only[Act.put,List.getElem_toArray,List.getElem_cons_zero,List.getElem_cons_succ,List.setIfInBounds_toArray,List.set_cons_zero,List.set_cons_succ])
 clear hS0 f3 hol0
 obtain⟨w2,hw2⟩:∃x,y0.setCell ⟨o,3,none⟩ (.slice (some ⟨ga,0,none⟩) n1 pc)=x:=⟨_,rfl⟩
 rw[hw2] at HW0 ⊢
 have k1:w2.cell? ⟨gk,j*2,none⟩=some (.int .i64 kf):=by rw[←hw2];exact((Zw y0 ⟨o,3,none⟩ _).cell hgl0 hne).trans k1'
 have k2:w2.cell? ⟨gk,j*2+1,none⟩=some (.bool false):=by rw[←hw2];exact((Zw y0 ⟨o,3,none⟩ _).cell hgl0 hne).trans k2'
 have hgl:gk<w2.heap.size:=olt HW0.out.kn (g:=gk) rfl
 obtain⟨c0,c1,c2,c3,c4,c5,c6,c7⟩:=HW0.out.c
 have hol:=HW0.out.ol
 clear c0 c1 c3 c4 c6 c7 hw2 k1' k2' c5' hgl0
 go_upto_region 3 with fail
 have hal:=Z5 w2 (.cells #[.int .i64 kf,.bool false] 108)
 have e3:Nw w2 (w2.alloc (.cells #[.int .i64 kf,.bool false] 108)):=(Nw.refl w2).alloc _
 obtain⟨w3,hw3⟩:∃x,w2.alloc (.cells #[.int .i64 kf,.bool false] 108)=x:=⟨_,rfl⟩
 obtain⟨B,hB⟩:∃B,w2.heap.size=B:=⟨_,rfl⟩
 have HB:=hD0 hB
 rw[hB] at hal ⊢
 rw[hw3] at hal e3 ⊢
 have HW3:=hD0 (HW0.out.nwr e3)
 have HAL:=hD0 hal
 have hlk:∀x,Nw w3 x→(Instr.lookup 50 (.map (some pb)) (.int .i64 t) false).run prog x=.ok (.int .i64 kf) x:=fun x g=>(HW3.out.nwr g).mp.look_val HX.out.1 HX.out.2
 have c2:=HW3.out.c.2.2.1
 have t2:∀x,Nw w3 x→x.cell? ⟨o,2,none⟩=some (.map (some pb)):=fun x g=>g.kp c2
 have tb:∀x,Nw w3 x→x.cell? ⟨B,0,none⟩=some (.int .i64 kf):=fun x g=>g.kp (Z2 (j:=0) HAL.out)
 clear hal e3 hw3 hB k1 k2 hgl c5 hol HW0 c2
 refine Z9 [] (Nw w3) (by kernel_rfl) ?_
 change Z8 _ _ _ _ _ _ 9 #[false,false,false,false,false,false,false,false,false] _ w3.drew
 obtain⟨y3,hy3⟩:∃y,w3.drew=y:=⟨_,rfl⟩
 rw[hy3]
 have hS0:Nw w3 y3:=by rw[←hy3];exact(Nw.refl w3).dr
 clear hy3
 refine Z0 0 rfl (by kernel_rfl) (by kernel_rfl) (by kernel_rfl) (fun v c a w h=>h) ?_
 (first | (refine⟨undef,Or.inr ⟨by rfl,rfl⟩,?_⟩) | (apply Exists.intro;refine⟨Or.inl ⟨by rfl,?_⟩,?_⟩;(intro x hx';go_simp;first | done | with_reducible rfl)))
 (try simp only[Act.put,List.getElem_toArray,List.getElem_cons_zero,List.getElem_cons_succ,List.setIfInBounds_toArray,List.set_cons_zero,List.set_cons_succ])
 refine Z0 1 rfl (by kernel_rfl) (by kernel_rfl) (by kernel_rfl) (fun v c a w h=>h) ?_
 (first | (refine⟨undef,Or.inr ⟨by rfl,rfl⟩,?_⟩) | (apply Exists.intro;refine⟨Or.inl ⟨by rfl,?_⟩,?_⟩;(intro x hx';go_simp;first | done | with_reducible rfl)))
 (try simp only[Act.put,List.getElem_toArray,List.getElem_cons_zero,List.getElem_cons_succ,List.setIfInBounds_toArray,List.set_cons_zero,List.set_cons_succ])
 refine Z0 2 rfl (by kernel_rfl) (by kernel_rfl) (by kernel_rfl) (fun v c a w h=>h) ?_
 (first | (refine⟨undef,Or.inr ⟨by rfl,rfl⟩,?_⟩) | (apply Exists.intro;refine⟨Or.inl ⟨by rfl,?_⟩,?_⟩;(intro x hx';go_simp;first | done | with_reducible rfl)))
 (try simp only[Act.put,List.getElem_toArray,List.getElem_cons_zero,List.getElem_cons_succ,List.setIfInBounds_toArray,List.set_cons_zero,List.set_cons_succ])
 refine Z1 3 rfl (by kernel_rfl) (by kernel_rfl) (by kernel_rfl) (by kernel_rfl) (fun v c a w h=>h) hS0 ?_
 (first | (refine⟨undef,Or.inr ⟨by rfl,rfl⟩,?_⟩) | (apply Exists.intro;refine⟨Or.inl ⟨by rfl,?_⟩,?_⟩;(intro x hx';go_simp;first | done | with_reducible rfl)))
 (try simp only[Act.put,List.getElem_toArray,List.getElem_cons_zero,List.getElem_cons_succ,List.setIfInBounds_toArray,List.set_cons_zero,List.set_cons_succ])
 refine Z0 4 rfl (by kernel_rfl) (by kernel_rfl) (by kernel_rfl) (fun v c a w h=>h) ?_
 (first | (refine⟨undef,Or.inr ⟨by rfl,rfl⟩,?_⟩) | (apply Exists.intro;refine⟨Or.inl ⟨by rfl,?_⟩,?_⟩;(intro x hx';go_simp;first | done | with_reducible rfl)))
 (try simp only[Act.put,List.getElem_toArray,List.getElem_cons_zero,List.getElem_cons_succ,List.setIfInBounds_toArray,List.set_cons_zero,List.set_cons_succ])
 refine Z1 5 rfl (by kernel_rfl) (by kernel_rfl) (by kernel_rfl) (by kernel_rfl) (fun v c a w h=>h) hS0 ?_
 (first | (refine⟨undef,Or.inr ⟨by rfl,rfl⟩,?_⟩) | (apply Exists.intro;refine⟨Or.inl ⟨by rfl,?_⟩,?_⟩;(intro x hx';go_simp;first | done | with_reducible rfl)))
 (try simp only[Act.put,List.getElem_toArray,List.getElem_cons_zero,List.getElem_cons_succ,List.setIfInBounds_toArray,List.set_cons_zero,List.set_cons_succ])
 refine Z0 6 rfl (by kernel_rfl) (by kernel_rfl) (by kernel_rfl) (fun v c a w h=>h) ?_
 (first | (refine⟨undef,Or.inr ⟨by rfl,rfl⟩,?_⟩) | (apply Exists.intro;refine⟨Or.inl ⟨by rfl,?_⟩,?_⟩;(intro x hx';go_simp;first | done | with_reducible rfl)))
 (try simp only[Act.put,List.getElem_toArray,List.getElem_cons_zero,List.getElem_cons_succ,List.setIfInBounds_toArray,List.set_cons_zero,List.set_cons_succ])
 refine Z1 7 rfl (by kernel_rfl) (by kernel_rfl) (by kernel_rfl) (by kernel_rfl) (fun v c a w h=>h) hS0 ?_
 (first | (refine⟨undef,Or.inr ⟨by rfl,rfl⟩,?_⟩) | (apply Exists.intro;refine⟨Or.inl ⟨by rfl,?_⟩,?_⟩;(intro x hx';go_simp;first | done | with_reducible rfl)))
 (try simp only[Act.put,List.getElem_toArray,List.getElem_cons_zero,List.getElem_cons_succ,List.setIfInBounds_toArray,List.set_cons_zero,List.set_cons_succ])
 refine Z0 8 rfl (by kernel_rfl) (by kernel_rfl) (by kernel_rfl) (fun v c a w h=>h) ?_
 (first | (refine⟨undef,Or.inr ⟨by rfl,rfl⟩,?_⟩) | (apply Exists.intro;refine⟨Or.inl ⟨by rfl,?_⟩,?_⟩;(intro x hx';go_simp;first | done | with_reducible rfl)))
 (try simp only[Act.put,List.getElem_toArray,List.getElem_cons_zero,List.getElem_cons_succ,List.setIfInBounds_toArray,List.set_cons_zero,List.set_cons_succ])
 refine Z4 (by kernel_rfl) ?_ _
 refine NoPanic.normal ?_
 (try simp only[Act.put,List.getElem_toArray,List.getElem_cons_zero,List.getElem_cons_succ,List.setIfInBounds_toArray,List.set_cons_zero,List.set_cons_succ])
 clear hlk t2 tb
 have HW6:=hD0 (show Y0 W0 y3 o mb pb ev (.slice (some ⟨ga,0,none⟩) n1 pc) (.slice (some ⟨go,0,none⟩) no oc) (.slice (some ⟨gk,0,none⟩) jj kc) E (Zd (Zs s p) false m) N by rw[show Zd (Zs s p) false m=Zs s p from if_neg (fun k=>by cases k.1)];exact HW3.out.nwr hS0)
 have HAY6:=hD0 (hS0.at' HAL.out)
 obtain⟨w6,hw6⟩:∃x,x=y3:=⟨_,rfl⟩
 rw[←hw6] at HW6 HAY6 ⊢
 have b1:=Z2 (j:=1) HAY6.out
 have hBl:=hlt HAY6.out
 clear hS0 HW3 HAL hw6
 obtain⟨s6,hs6⟩:∃x,Zd (Zs s p) false m=x:=⟨_,rfl⟩
 have HS6:=hD0 (aI0 hs6 (Vk (Zs s p) false m))
 have HS7:=hD0 hs6
 rw[hs6] at HW6 HS6
 obtain⟨c0,c1,c2,c3,c4,c5,c6,c7⟩:=HW6.out.c
 have b0:=Z2 (j:=0) HAY6.out
 clear hs6 c0 c1 c2 c3 c5 c6 c7
 go_wp2_with fail
 refine Z9 [] (LdW o B (.slice (some ⟨go,0,none⟩) no oc) kf) (by kernel_rfl) ?_
 change Z8 _ _ _ _ _ _ 9 #[false,false,false,false,false,false,false,false,false] _ w6.drew
 obtain⟨y6,hy6⟩:∃y,w6.drew=y:=⟨_,rfl⟩
 rw[hy6]
 have e6:Nw w6 y6:=by rw[←hy6];exact(Nw.refl w6).dr
 have hS0:LdW o B (.slice (some ⟨go,0,none⟩) no oc) kf y6:=⟨e6.kp c4,e6.kp b0⟩
 have t4:∀x,LdW o B (.slice (some ⟨go,0,none⟩) no oc) kf x→x.cell? ⟨o,4,none⟩=some (.slice (some ⟨go,0,none⟩) no oc):=fun x g=>g.1
 have tb:∀x,LdW o B (.slice (some ⟨go,0,none⟩) no oc) kf x→x.cell? ⟨B,0,none⟩=some (.int .i64 kf):=fun x g=>g.2
 have HI:Hid (Y0 W0 y6 o mb pb ev (.slice (some ⟨ga,0,none⟩) n1 pc) (.slice (some ⟨go,0,none⟩) no oc) (.slice (some ⟨gk,0,none⟩) jj kc) E { s6 with pl:=plC s6 kf 0 } N∧y6.heap[B]?=some (.cells #[.int .i64 kf,.bool false] 108)):=hD0 ⟨by rw[Z1w];exact HW6.out.nwr e6,e6.at' HAY6.out⟩
 clear hy6 c4 b0 e6 HW6 HAY6
 refine Z0 0 rfl (by kernel_rfl) (by kernel_rfl) (by kernel_rfl) (fun v c a w h=>h) ?_
 (first | (refine⟨undef,Or.inr ⟨by rfl,rfl⟩,?_⟩) | (apply Exists.intro;refine⟨Or.inl ⟨by rfl,?_⟩,?_⟩;(intro x hx';go_simp;first | done | with_reducible rfl)))
 (try simp only[Act.put,List.getElem_toArray,List.getElem_cons_zero,List.getElem_cons_succ,List.setIfInBounds_toArray,List.set_cons_zero,List.set_cons_succ])
 refine Z0 1 rfl (by kernel_rfl) (by kernel_rfl) (by kernel_rfl) (fun v c a w h=>h) ?_
 (first | (refine⟨undef,Or.inr ⟨by rfl,rfl⟩,?_⟩) | (apply Exists.intro;refine⟨Or.inl ⟨by rfl,?_⟩,?_⟩;(intro x hx';go_simp;first | done | with_reducible rfl)))
 (try simp only[Act.put,List.getElem_toArray,List.getElem_cons_zero,List.getElem_cons_succ,List.setIfInBounds_toArray,List.set_cons_zero,List.set_cons_succ])
 refine Z0 2 rfl (by kernel_rfl) (by kernel_rfl) (by kernel_rfl) (fun v c a w h=>h) ?_
 (first | (refine⟨undef,Or.inr ⟨by rfl,rfl⟩,?_⟩) | (apply Exists.intro;refine⟨Or.inl ⟨by rfl,?_⟩,?_⟩;(intro x hx';go_simp;first | done | with_reducible rfl)))
 (try simp only[Act.put,List.getElem_toArray,List.getElem_cons_zero,List.getElem_cons_succ,List.setIfInBounds_toArray,List.set_cons_zero,List.set_cons_succ])
 refine Z1 3 rfl (by kernel_rfl) (by kernel_rfl) (by kernel_rfl) (by kernel_rfl) (fun v c a w h=>h) hS0 ?_
 (first | (refine⟨undef,Or.inr ⟨by rfl,rfl⟩,?_⟩) | (apply Exists.intro;refine⟨Or.inl ⟨by rfl,?_⟩,?_⟩;(intro x hx';go_simp;first | done | with_reducible rfl)))
 (try simp only[Act.put,List.getElem_toArray,List.getElem_cons_zero,List.getElem_cons_succ,List.setIfInBounds_toArray,List.set_cons_zero,List.set_cons_succ])
 refine Z0 4 rfl (by kernel_rfl) (by kernel_rfl) (by kernel_rfl) (fun v c a w h=>h) ?_
 (first | (refine⟨undef,Or.inr ⟨by rfl,rfl⟩,?_⟩) | (apply Exists.intro;refine⟨Or.inl ⟨by rfl,?_⟩,?_⟩;(intro x hx';go_simp;first | done | with_reducible rfl)))
 (try simp only[Act.put,List.getElem_toArray,List.getElem_cons_zero,List.getElem_cons_succ,List.setIfInBounds_toArray,List.set_cons_zero,List.set_cons_succ])
 refine Z1 5 rfl (by kernel_rfl) (by kernel_rfl) (by kernel_rfl) (by kernel_rfl) (fun v c a w h=>h) hS0 ?_
 (first | (refine⟨undef,Or.inr ⟨by rfl,rfl⟩,?_⟩) | (apply Exists.intro;refine⟨Or.inl ⟨by rfl,?_⟩,?_⟩;(intro x hx';go_simp;first | done | with_reducible rfl)))
 (try simp only[Act.put,List.getElem_toArray,List.getElem_cons_zero,List.getElem_cons_succ,List.setIfInBounds_toArray,List.set_cons_zero,List.set_cons_succ])
 refine Z0 6 rfl (by kernel_rfl) (by kernel_rfl) (by kernel_rfl) (fun v c a w h=>h) ?_
 (first | (refine⟨undef,Or.inr ⟨by rfl,rfl⟩,?_⟩) | (apply Exists.intro;refine⟨Or.inl ⟨by rfl,?_⟩,?_⟩;(intro x hx';go_simp;first | done | with_reducible rfl)))
 (try simp only[Act.put,List.getElem_toArray,List.getElem_cons_zero,List.getElem_cons_succ,List.setIfInBounds_toArray,List.set_cons_zero,List.set_cons_succ])
 refine Z0 7 rfl (by kernel_rfl) (by kernel_rfl) (by kernel_rfl) (fun v c a w h=>h) ?_
 (first | (refine⟨undef,Or.inr ⟨by rfl,rfl⟩,?_⟩) | (apply Exists.intro;refine⟨Or.inl ⟨by rfl,?_⟩,?_⟩;(intro x hx';go_simp;first | done | with_reducible rfl)))
 (try simp only[Act.put,List.getElem_toArray,List.getElem_cons_zero,List.getElem_cons_succ,List.setIfInBounds_toArray,List.set_cons_zero,List.set_cons_succ])
 refine Z0 8 rfl (by kernel_rfl) (by kernel_rfl) (by kernel_rfl) (fun v c a w h=>h) ?_
 (first | (refine⟨undef,Or.inr ⟨by rfl,rfl⟩,?_⟩) | (apply Exists.intro;refine⟨Or.inl ⟨by rfl,?_⟩,?_⟩;(intro x hx';go_simp;first | done | with_reducible rfl)))
 (try simp only[Act.put,List.getElem_toArray,List.getElem_cons_zero,List.getElem_cons_succ,List.setIfInBounds_toArray,List.set_cons_zero,List.set_cons_succ])
 refine Z4 (by kernel_rfl) ?_ _
 refine NoPanic.normal ?_
 (try simp only[Act.put,List.getElem_toArray,List.getElem_cons_zero,List.getElem_cons_succ,List.setIfInBounds_toArray,List.set_cons_zero,List.set_cons_succ])
 clear hS0 t4 tb
 go_wp2_with fail
 have hBo:B≠o:=fun e=>by
  have:=HI.out.2
  rw[e,HI.out.1.obj] at this
  injection this with this
  injection this with _ this _
  exact absurd this (by decide)
 go_loopw [64] (fun vi wr=>∃jx:Nat,vi=.int .i64 jx∧jx≤mm∧Hid (Y0 W0 wr o mb pb ev (.slice (some ⟨ga,0,none⟩) n1 pc) (.slice (some ⟨go,0,none⟩) no oc) (.slice (some ⟨gk,0,none⟩) jj kc) E { s6 with pl:=plC s6 kf jx } N∧wr.heap[B]?=some (.cells #[.int .i64 kf,.bool false] 108))) (fun vi _=>mm-(intOf vi).toNat)
 case atStart=>exact⟨0,rfl,Nat.zero_le _,HI⟩
 case round =>
  clear HI
  obtain⟨jx,rfl,hjx,HI⟩:=hrel
  by_cases hjl:jx<mm
  ·have Yh:=Y6 hjl
   have hxo:kf+jx<s6.op.length:=by rw[HS6.out.2.2.2.2.1];show kf+jx<s.op.length;rw[HMn.out.2.2.2.1,HMn.out.2.2.2.2];omega
   obtain⟨x,hx⟩:∃x,s6.op[kf+jx]=x:=⟨_,rfl⟩
   have cx:wr.cell? ⟨go,kf+jx,none⟩=some (.int .i64 x):=by
    have:=IS.cell HI.out.1.op (kf+jx) hxo
    rw[this,List.getD_eq_getElem?_getD,List.getElem?_eq_getElem hxo,hx];rfl
   have hxs:x∈s.op:=by rw[←show s6.op=s.op from HS6.out.2.2.2.2.1,←hx];exact gM0 hxo
   have hxd:(s6.op.drop kf)[jx]?=some x:=by rw[List.getElem?_drop,List.getElem?_eq_getElem hxo,hx]
   have hfx:=HMn.out.2.2.1 x hxs
   have hp6:s6.pl x≠none:=by rw[show s6.pl=s.pl from HS6.out.2.2.1];exact hfx.2
   obtain⟨w8,hr8,hm8,hg8⟩:=HI.out.1.mp.set (by have:=HNn.out;omega) hfx.1 (-1) (Z58 hp6)
   have h8:=HI.out.1.plc hm8 hg8 (Nat.le_refl N)
   simp only[Z1v s6 kf jx hxd] at h8
   have hBp:B≠pb:=fun e=>by
    obtain⟨es,c,q⟩:=HI.out.1.mp.obj
    rw[←e,HI.out.2] at q;cases q
   have HI8:=hD0 (aI0 h8 (((Z12 hg8).block B (hlt HI.out.2) hBp).trans HI.out.2))
   have HR8:=hD0 hr8
   have c2:=HI.out.1.c.2.2.1
   have hol:=HI.out.1.ol
   have hw:=Ya jx (jx+1) (Nat.le_trans hjx HMB.out) rfl
   obtain⟨j1,hj1⟩:∃n,jx+1=n:=⟨_,rfl⟩
   rw[hj1] at hw HI8
   have HJ:=hD0 hj1
   clear hxo hx hxs hxd hfx hp6 hr8 hm8 hg8 h8 hBp HI hj1
   go_wp2_with (at_mapUpdate;refine Zp rfl (.tmp 71) (.tmp 72) (.const (.int .i64 (-1))) 50 rfl _ _ _ _ rfl rfl rfl HR8.out ?_)
   go_roundw
   case rel=>exact⟨j1,rfl,by rw[←HJ.out];exact hjl,HI8⟩
   case measure=>rw[←HJ.out];exact Ye hjl
  ·obtain rfl:jx=mm:=Nat.le_antisymm hjx (Nat.le_of_not_lt hjl)
   have Yh:=Nat.lt_irrefl jx
   obtain⟨c0,c1,c2,c3,c4,c5,c6,c7⟩:=HI.out.1.c
   have hol:=HI.out.1.ol
   have hfz:=HI.out.1.fz
   have b0:=Z2 (j:=0) HI.out.2
   have hcl:=fun z (g:Nw wr z)=>(HI.out.1.nwr g).shut (by show no=s6.op.length;rw[HS6.out.2.2.2.2.1];exact HMn.out.2.2.2.1.symm) (by show jj=s6.kn.length;rw[HS6.out.2.2.2.2.2];exact HLen.out.1.symm) hkno2 (Nat.le_of_lt hji')
   have HC:=hD0 hcl
   clear hcl c0 c1 c2 c3 c6 c7 HI hjl
   go_wp2_with fail
   refine Z9 [17,18,19,20] (L4 o B (.slice (some ⟨go,0,none⟩) no oc) (.slice (some ⟨gk,0,none⟩) jj kc) kf) (by kernel_rfl) ?_
   change Z8 _ _ _ _ _ _ 21 #[false,false,false,false,false,false,false,false,false,false,false,false,false,false,false,false,false,false,false,false,false] _ wr.drew
   obtain⟨y8,hy8⟩:∃y,wr.drew=y:=⟨_,rfl⟩
   rw[hy8]
   have e8:Nw wr y8:=by rw[←hy8];exact(Nw.refl wr).dr
   have hS0:L4 o B (.slice (some ⟨go,0,none⟩) no oc) (.slice (some ⟨gk,0,none⟩) jj kc) kf y8:=⟨e8.kp c4,e8.kp c5,e8.kp b0⟩
   have t4:∀x,L4 o B (.slice (some ⟨go,0,none⟩) no oc) (.slice (some ⟨gk,0,none⟩) jj kc) kf x→x.cell? ⟨o,4,none⟩=some (.slice (some ⟨go,0,none⟩) no oc):=fun x g=>g.1
   have t5:∀x,L4 o B (.slice (some ⟨go,0,none⟩) no oc) (.slice (some ⟨gk,0,none⟩) jj kc) kf x→x.cell? ⟨o,5,none⟩=some (.slice (some ⟨gk,0,none⟩) jj kc):=fun x g=>g.2.1
   have tb:∀x,L4 o B (.slice (some ⟨go,0,none⟩) no oc) (.slice (some ⟨gk,0,none⟩) jj kc) kf x→x.cell? ⟨B,0,none⟩=some (.int .i64 kf):=fun x g=>g.2.2
   have hol8:o<y8.heap.size:=lL0 hol e8.sz
   have f8:∀j,y8.frozen? ⟨o,j,none⟩=false:=fun j=>(e8.froz hol).trans (hfz j)
   have d4:=hS0.1
   have d5:=hS0.2.1
   have HE:=hD0 (HC.out y8 e8)
   have HQ:=hD0 (Z1b (j:=j) (mm:=jx) HS7.out HKK.out.1 HKK.out.2.1 HKK.out.2.2.1 HKK.out.2.2.2 (by have h1:=HMn.out.2.2.2.1;have h2:=HMn.out.2.2.2.2;omega))
   clear hy8 c4 c5 b0 e8 hol hfz HC
   refine Z0 0 rfl (by kernel_rfl) (by kernel_rfl) (by kernel_rfl) (fun v c a w h=>h) ?_
   (first | (refine⟨undef,Or.inr ⟨by rfl,rfl⟩,?_⟩) | (apply Exists.intro;refine⟨Or.inl ⟨by rfl,?_⟩,?_⟩;(intro x hx';go_simp;first | done | with_reducible rfl)))
   (try simp only[Act.put,List.getElem_toArray,List.getElem_cons_zero,List.getElem_cons_succ,List.setIfInBounds_toArray,List.set_cons_zero,List.set_cons_succ])
   refine Z0 1 rfl (by kernel_rfl) (by kernel_rfl) (by kernel_rfl) (fun v c a w h=>h) ?_
   (first | (refine⟨undef,Or.inr ⟨by rfl,rfl⟩,?_⟩) | (apply Exists.intro;refine⟨Or.inl ⟨by rfl,?_⟩,?_⟩;(intro x hx';go_simp;first | done | with_reducible rfl)))
   (try simp only[Act.put,List.getElem_toArray,List.getElem_cons_zero,List.getElem_cons_succ,List.setIfInBounds_toArray,List.set_cons_zero,List.set_cons_succ])
   refine Z0 2 rfl (by kernel_rfl) (by kernel_rfl) (by kernel_rfl) (fun v c a w h=>h) ?_
   (first | (refine⟨undef,Or.inr ⟨by rfl,rfl⟩,?_⟩) | (apply Exists.intro;refine⟨Or.inl ⟨by rfl,?_⟩,?_⟩;(intro x hx';go_simp;first | done | with_reducible rfl)))
   (try simp only[Act.put,List.getElem_toArray,List.getElem_cons_zero,List.getElem_cons_succ,List.setIfInBounds_toArray,List.set_cons_zero,List.set_cons_succ])
   refine Z0 3 rfl (by kernel_rfl) (by kernel_rfl) (by kernel_rfl) (fun v c a w h=>h) ?_
   (first | (refine⟨undef,Or.inr ⟨by rfl,rfl⟩,?_⟩) | (apply Exists.intro;refine⟨Or.inl ⟨by rfl,?_⟩,?_⟩;(intro x hx';go_simp;first | done | with_reducible rfl)))
   (try simp only[Act.put,List.getElem_toArray,List.getElem_cons_zero,List.getElem_cons_succ,List.setIfInBounds_toArray,List.set_cons_zero,List.set_cons_succ])
   refine Z0 4 rfl (by kernel_rfl) (by kernel_rfl) (by kernel_rfl) (fun v c a w h=>h) ?_
   (first | (refine⟨undef,Or.inr ⟨by rfl,rfl⟩,?_⟩) | (apply Exists.intro;refine⟨Or.inl ⟨by rfl,?_⟩,?_⟩;(intro x hx';go_simp;first | done | with_reducible rfl)))
   (try simp only[Act.put,List.getElem_toArray,List.getElem_cons_zero,List.getElem_cons_succ,List.setIfInBounds_toArray,List.set_cons_zero,List.set_cons_succ])
   refine Z1 5 rfl (by kernel_rfl) (by kernel_rfl) (by kernel_rfl) (by kernel_rfl) (fun v c a w h=>h) hS0 ?_
   (first | (refine⟨undef,Or.inr ⟨by rfl,rfl⟩,?_⟩) | (apply Exists.intro;refine⟨Or.inl ⟨by rfl,?_⟩,?_⟩;(intro x hx';go_simp;first | done | with_reducible rfl)))
   (try simp only[Act.put,List.getElem_toArray,List.getElem_cons_zero,List.getElem_cons_succ,List.setIfInBounds_toArray,List.set_cons_zero,List.set_cons_succ])
   refine Z0 6 rfl (by kernel_rfl) (by kernel_rfl) (by kernel_rfl) (fun v c a w h=>h) ?_
   (first | (refine⟨undef,Or.inr ⟨by rfl,rfl⟩,?_⟩) | (apply Exists.intro;refine⟨Or.inl ⟨by rfl,?_⟩,?_⟩;(intro x hx';go_simp;first | done | with_reducible rfl)))
   (try simp only[Act.put,List.getElem_toArray,List.getElem_cons_zero,List.getElem_cons_succ,List.setIfInBounds_toArray,List.set_cons_zero,List.set_cons_succ])
   refine Z1 7 rfl (by kernel_rfl) (by kernel_rfl) (by kernel_rfl) (by kernel_rfl) (fun v c a w h=>h) hS0 ?_
   (first | (refine⟨undef,Or.inr ⟨by rfl,rfl⟩,?_⟩) | (apply Exists.intro;refine⟨Or.inl ⟨by rfl,?_⟩,?_⟩;(intro x hx';go_simp;first | done | with_reducible rfl)))
   (try simp only[Act.put,List.getElem_toArray,List.getElem_cons_zero,List.getElem_cons_succ,List.setIfInBounds_toArray,List.set_cons_zero,List.set_cons_succ])
   refine Z0 8 rfl (by kernel_rfl) (by kernel_rfl) (by kernel_rfl) (fun v c a w h=>h) ?_
   (first | (refine⟨undef,Or.inr ⟨by rfl,rfl⟩,?_⟩) | (apply Exists.intro;refine⟨Or.inl ⟨by rfl,?_⟩,?_⟩;(intro x hx';go_simp;first | done | with_reducible rfl)))
   (try simp only[Act.put,List.getElem_toArray,List.getElem_cons_zero,List.getElem_cons_succ,List.setIfInBounds_toArray,List.set_cons_zero,List.set_cons_succ])
   refine Z0 9 rfl (by kernel_rfl) (by kernel_rfl) (by kernel_rfl) (fun v c a w h=>h) ?_
   (first | (refine⟨undef,Or.inr ⟨by rfl,rfl⟩,?_⟩) | (apply Exists.intro;refine⟨Or.inl ⟨by rfl,?_⟩,?_⟩;(intro x hx';go_simp;first | done | with_reducible rfl)))
   (try simp only[Act.put,List.getElem_toArray,List.getElem_cons_zero,List.getElem_cons_succ,List.setIfInBounds_toArray,List.set_cons_zero,List.set_cons_succ])
   refine Z0 10 rfl (by kernel_rfl) (by kernel_rfl) (by kernel_rfl) (fun v c a w h=>h) ?_
   (first | (refine⟨undef,Or.inr ⟨by rfl,rfl⟩,?_⟩) | (apply Exists.intro;refine⟨Or.inl ⟨by rfl,?_⟩,?_⟩;(intro x hx';go_simp;first | done | with_reducible rfl)))
   (try simp only[Act.put,List.getElem_toArray,List.getElem_cons_zero,List.getElem_cons_succ,List.setIfInBounds_toArray,List.set_cons_zero,List.set_cons_succ])
   refine Z0 11 rfl (by kernel_rfl) (by kernel_rfl) (by kernel_rfl) (fun v c a w h=>h) ?_
   (first | (refine⟨undef,Or.inr ⟨by rfl,rfl⟩,?_⟩) | (apply Exists.intro;refine⟨Or.inl ⟨by rfl,?_⟩,?_⟩;(intro x hx';go_simp;first | done | with_reducible rfl)))
   (try simp only[Act.put,List.getElem_toArray,List.getElem_cons_zero,List.getElem_cons_succ,List.setIfInBounds_toArray,List.set_cons_zero,List.set_cons_succ])
   refine Z1 12 rfl (by kernel_rfl) (by kernel_rfl) (by kernel_rfl) (by kernel_rfl) (fun v c a w h=>h) hS0 ?_
   (first | (refine⟨undef,Or.inr ⟨by rfl,rfl⟩,?_⟩) | (apply Exists.intro;refine⟨Or.inl ⟨by rfl,?_⟩,?_⟩;(intro x hx';go_simp;first | done | with_reducible rfl)))
   (try simp only[Act.put,List.getElem_toArray,List.getElem_cons_zero,List.getElem_cons_succ,List.setIfInBounds_toArray,List.set_cons_zero,List.set_cons_succ])
   refine Z0 13 rfl (by kernel_rfl) (by kernel_rfl) (by kernel_rfl) (fun v c a w h=>h) ?_
   (first | (refine⟨undef,Or.inr ⟨by rfl,rfl⟩,?_⟩) | (apply Exists.intro;refine⟨Or.inl ⟨by rfl,?_⟩,?_⟩;(intro x hx';go_simp;first | done | with_reducible rfl)))
   (try simp only[Act.put,List.getElem_toArray,List.getElem_cons_zero,List.getElem_cons_succ,List.setIfInBounds_toArray,List.set_cons_zero,List.set_cons_succ])
   refine Z0 14 rfl (by kernel_rfl) (by kernel_rfl) (by kernel_rfl) (fun v c a w h=>h) ?_
   (first | (refine⟨undef,Or.inr ⟨by rfl,rfl⟩,?_⟩) | (apply Exists.intro;refine⟨Or.inl ⟨by rfl,?_⟩,?_⟩;(intro x hx';go_simp;first | done | with_reducible rfl)))
   (try simp only[Act.put,List.getElem_toArray,List.getElem_cons_zero,List.getElem_cons_succ,List.setIfInBounds_toArray,List.set_cons_zero,List.set_cons_succ])
   refine Z3 15 (by kernel_rfl) rfl (fun K hK=>?_)
   rw[if_pos (by rfl)]
   (try simp only[List.getElem_toArray,List.getElem_cons_zero,List.getElem_cons_succ])
   go_simp
   refine hK _ _ (.inr hS0) ?_
   clear hK K
   (try simp only[Act.put,List.getElem_toArray,List.getElem_cons_zero,List.getElem_cons_succ,List.setIfInBounds_toArray,List.set_cons_zero,List.set_cons_succ])
   refine Z3 16 (by kernel_rfl) rfl (fun K hK=>?_)
   rw[if_pos (by rfl)]
   (try simp only[List.getElem_toArray,List.getElem_cons_zero,List.getElem_cons_succ])
   go_simp
   refine hK _ _ (.inr hS0) ?_
   clear hK K
   (try simp only[Act.put,List.getElem_toArray,List.getElem_cons_zero,List.getElem_cons_succ,List.setIfInBounds_toArray,List.set_cons_zero,List.set_cons_succ])
   clear hS0 t4 t5 tb
   refine Z3 17 (by kernel_rfl) rfl (fun K hK=>?_)
   rw[if_pos (by rfl)]
   (try simp only[List.getElem_toArray,List.getElem_cons_zero,List.getElem_cons_succ])
   go_simp
   refine hK _ _ (.inl (by decide)) ?_
   clear hK K
   (try simp only[Act.put,List.getElem_toArray,List.getElem_cons_zero,List.getElem_cons_succ,List.setIfInBounds_toArray,List.set_cons_zero,List.set_cons_succ])
   refine Z3 18 (by kernel_rfl) rfl (fun K hK=>?_)
   rw[if_pos (by rfl)]
   (try simp only[List.getElem_toArray,List.getElem_cons_zero,List.getElem_cons_succ])
   go_simp
   refine hK _ _ (.inl (by decide)) ?_
   clear hK K
   (try simp only[Act.put,List.getElem_toArray,List.getElem_cons_zero,List.getElem_cons_succ,List.setIfInBounds_toArray,List.set_cons_zero,List.set_cons_succ])
   refine Z3 19 (by kernel_rfl) rfl (fun K hK=>?_)
   rw[if_pos (by rfl)]
   (try simp only[List.getElem_toArray,List.getElem_cons_zero,List.getElem_cons_succ])
   go_simp
   refine hK _ _ (.inl (by decide)) ?_
   clear hK K
   (try simp only[Act.put,List.getElem_toArray,List.getElem_cons_zero,List.getElem_cons_succ,List.setIfInBounds_toArray,List.set_cons_zero,List.set_cons_succ])
   refine Z3 20 (by kernel_rfl) rfl (fun K hK=>?_)
   rw[if_pos (by rfl)]
   (try simp only[List.getElem_toArray,List.getElem_cons_zero,List.getElem_cons_succ])
   go_simp
   refine hK _ _ (.inl (by decide)) ?_
   clear hK K
   (try simp only[Act.put,List.getElem_toArray,List.getElem_cons_zero,List.getElem_cons_succ,List.setIfInBounds_toArray,List.set_cons_zero,List.set_cons_succ])
   refine Z4 (by kernel_rfl) ?_ _
   refine NoPanic.normal ?_
   (try simp only[Act.put,List.getElem_toArray,List.getElem_cons_zero,List.getElem_cons_succ,List.setIfInBounds_toArray,List.set_cons_zero,List.set_cons_succ])
   go_wp2
   refine bodyPost_end (results_none rfl _ _ _) rfl ?_
   refine⟨rfl,m,by rw[HKK.out.1];exact HMn.out.2.1.1,by rw[HKK.out.1];exact HMn.out.2.1.2,mb,pb,.slice (some ⟨ga,0,none⟩) n1 pc,.slice (some ⟨go,0,none⟩) kf oc,.slice (some ⟨gk,0,none⟩) j kc,?_⟩
   rw[←HQ.out]
   exact HE.out
end
end Go.Proofs.Ytbefaomgldckdaa
