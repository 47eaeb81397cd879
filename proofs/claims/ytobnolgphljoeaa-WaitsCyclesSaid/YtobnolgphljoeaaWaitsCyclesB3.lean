/- Texts merged: BkO, BdE, BdF, WcG, WcH, Shelf -/
import Derived.Test.YtobnolgphljoeaaWaitsCyclesB2
import Derived.Shelf.SlSortCmp.NoneTotal
import Derived.Shelf.Small.Bits
import Derived.Shelf.Small.Wraps
import Derived.Shelf.Strconv.Itoa0
import Derived.Shelf.Sort.Plain
import Derived.Shelf.Slices.Turned
import Derived.Shelf.Slices.Reverse
import Derived.Ground.Names2Prog
import Derived.Shelf.Slices.CompactI
import Derived.Shelf.Slices.Cells
import Derived.Shelf.Slices.In.SortNone
import Derived.Test.YtobnolgphljoeaaProg
import Derived.Sort.MapsRangeIn
import Derived.RegionIn
set_option linter.unusedVariables false
set_option maxRecDepth 100000
set_option maxHeartbeats 16000000
namespace Go.Proofs.Ytobnolgphljoeaa
open Go.RowKit _root_.Go.Proofs.Try
def Z30(most:Nat)(hs:List Hq)(L:List Bool)(t r:Int):Prop:=(Z47 hs (t,r)=none∧most≤hs.length)∨L.length≤liv L
instance (most:Nat) (hs:List Hq) (L:List Bool) (t r:Int):Decidable (Z30 most hs L t r):=by unfold Z30;infer_instance
def Z3n(m:Int):Prop:=m=0∨knI m=false
instance (m:Int):Decidable (Z3n m):=by unfold Z3n;infer_instance
open Go.Shelf
section
attribute [local go_sem] Oper.semAt_some
structure BxI{α:Type}(T sz:Nat)(row:α→List Value)(w:World)(c:Nat)(S0 S:Nat→Prop)(v:Value)(pre:List α)(A:World):Prop where
 cell:A.cell? ⟨c,0,none⟩=some v
 froz:A.frozen? ⟨c,0,none⟩=false
 own:Yi T sz row A (c+1) v pre
 row:∀k,v.ownBlock=some k→¬S k
 box:¬S c
 sub:∀k,S k→S0 k∨w.heap.size≤k
 nw:Nw w A
end
section
open Go.RowKit Go.Sort
def cP(a b:Int):Int:=if a<b then -1 else if b<a then 1 else 0
theorem Z2y(a b:Int)(h:a<b):cP a b = -1:=if_pos h
theorem Z3p(a b:Int)(h:b<a):cP a b=1:=by unfold cP;rw[if_neg (by omega),if_pos h]
theorem Z3o(a:Int):cP a a=0:=by unfold cP;simp
theorem U4(a:Int)(w:World):Calls prog 62 #[.int .i64 a] w fun e w'=>e=.returned (.bool false)∧w=w':=by
 go_enter func62,ntmps62
 go_wp2
 go_ret
 exact⟨rfl,rfl⟩
theorem Ue(a b:Int)(w:World):Calls prog 42 #[.int .i64 a,.int .i64 b] w fun e w'=>e=.returned (.int .i64 (cP a b))∧w=w':=by
 rcases Int.lt_trichotomy a b with h | h | h
 ·rw[Z2y a b h]
  have hd:decide (a<b)=true:=by simpa using h
  go_enter func42,ntmps42
  go_wp2_with (go_at_call 62;refine(U4 _ _).mono ?_;rintro e w' ⟨rfl,rfl⟩)
  go_ret
  exact⟨rfl,rfl⟩
 ·subst h
  rw[Z3o a]
  go_enter func42,ntmps42
  go_wp2_with (go_at_call 62;refine(U4 _ _).mono ?_;rintro e w' ⟨rfl,rfl⟩)
  go_ret
  exact⟨rfl,rfl⟩
 ·rw[Z3p a b h]
  have hd:decide (a<b)=false:=by simp;omega
  have hd2:decide (b<a)=true:=by simpa using h
  go_enter func42,ntmps42
  go_wp2_with (go_at_call 62;refine(U4 _ _).mono ?_;rintro e w' ⟨rfl,rfl⟩)
  go_ret
  exact⟨rfl,rfl⟩
def orP(x y:Int):Int:=if x=0 then y else x
theorem Z4b(b:Nat)(x y:Int)(w:World)(h0:w.cell? ⟨b,0,none⟩=some (.int .i64 x))(h1:w.cell? ⟨b,1,none⟩=some (.int .i64 y)) :
  Calls prog 41 #[.slice (some ⟨b,0,none⟩) 2 2] w fun e w'=>e=.returned (.int .i64 (orP x y))∧w=w':=by
 by_cases hx:x=0
 ·subst hx
  by_cases hy:y=0
  ·subst hy
   go_enter func41,ntmps41
   go_wp2
   refine wp_loop_rounds 3 ?_
   rw[rounds_succ]
   go_wp2
   rw[rounds_succ]
   go_wp2
   rw[rounds_succ]
   go_wp2
   go_ret
   exact⟨rfl,rfl⟩
  ·have hy':(y==0)=false:=by simpa using hy
   have hy2:(y != 0)=true:=by simpa using hy
   go_enter func41,ntmps41
   go_wp2
   refine wp_loop_rounds 3 ?_
   rw[rounds_succ]
   go_wp2
   rw[rounds_succ]
   go_wp2
   go_ret
   exact⟨rfl,rfl⟩
 ·have hx':(x==0)=false:=by simpa using hx
  have hx2:(x != 0)=true:=by simpa using hx
  have e:orP x y=x:=if_neg hx
  rw[e]
  clear hx e
  go_enter func41,ntmps41
  go_wp2
  refine wp_loop_rounds 3 ?_
  rw[rounds_succ]
  go_wp2
  go_ret
  exact⟨rfl,rfl⟩
def GG(w w':World):Prop:=∃q os,w'=grow (w.drewN q) os
theorem GG.refl(w:World):GG w w:=⟨0,#[],by unfold grow;simp[World.drewN]⟩
theorem GG.drew{w w':World}(h:GG w w'):GG w w'.drew:=by obtain⟨q,os,rfl⟩:=h;exact⟨q+1,os,rfl⟩
theorem GG.alloc{w w':World}(h:GG w w')(o:Obj):GG w (w'.alloc o):=by obtain⟨q,os,rfl⟩:=h;exact⟨q,os.push o,by rw[alloc_eq_grow,grow_grow];rfl⟩
theorem GG.nw{w w':World}(h:GG w w'):Nw w w':=by
 obtain⟨q,os,rfl⟩:=h
 refine⟨rfl,rfl,rfl,by rw[size_grow];exact Nat.le_add_right _ _,fun k hk=>?_⟩
 exact heap_grow_old _ _ hk
theorem GG.trans{a b c:World}(h:GG a b)(k:GG b c):GG a c:=by
 obtain⟨q,os,rfl⟩:=h
 obtain⟨q',os',rfl⟩:=k
 refine⟨q+q',os++os',?_⟩
 unfold grow World.drewN
 simp[Nat.add_assoc,Array.append_assoc]
abbrev Z2b(w:World)(t r t' r':Int)(a:World):Prop:=(a.cell? ⟨w.heap.size,0,none⟩=some (.int .i64 t)∧a.cell? ⟨w.heap.size,1,none⟩=some (.int .i64 r)∧a.cell? ⟨w.heap.size+1,0,none⟩=some (.int .i64 t')∧a.cell? ⟨w.heap.size+1,1,none⟩=some (.int .i64 r'))∧(w.heap.size+1<a.heap.size∧GG w a)
theorem Z0k(w:World)(t r t' r':Int)(ty:TypeId):Z2b w t r t' r' (((w.alloc (.cells #[.int .i64 t,.int .i64 r] ty)).alloc (.cells #[.int .i64 t',.int .i64 r'] ty)).drew):=by
 have h1:=Z9 w (.cells #[.int .i64 t,.int .i64 r] ty)
 have hz:(w.alloc (.cells #[.int .i64 t,.int .i64 r] ty)).heap.size=w.heap.size+1:=by simp
 have h2:=Z9 (w.alloc (.cells #[.int .i64 t,.int .i64 r] ty)) (.cells #[.int .i64 t',.int .i64 r'] ty)
 have h3:=((Nw.refl (w.alloc (.cells #[.int .i64 t,.int .i64 r] ty))).alloc (.cells #[.int .i64 t',.int .i64 r'] ty)).at' h1
 rw[hz] at h2
 refine⟨⟨?_,?_,?_,?_⟩,?_,(((GG.refl w).alloc _).alloc _).drew⟩
 ·exact Z7 (j:=0) h3
 ·exact Z7 (j:=1) h3
 ·exact Z7 (j:=0) h2
 ·exact Z7 (j:=1) h2
 ·exact hlt h2
theorem Yv{w a b:World}{t r t' r':Int}(g:GG a b)(h:Z2b w t r t' r' a):Z2b w t r t' r' b:=by
 obtain⟨⟨h0,h1,h2,h3⟩,hs,hn⟩:=h
 exact⟨⟨g.nw.kp h0,g.nw.kp h1,g.nw.kp h2,g.nw.kp h3⟩,lL0 hs g.nw.sz,hn.trans g⟩
def Z07(a b:Int × Int):Int:=orP (cP a.1 b.1) (cP a.2 b.2)
theorem V1(a b:Int × Int):ltOf Z07 a b=decide (nlt a b):=by
 obtain⟨a,a'⟩:=a
 obtain⟨b,b'⟩:=b
 unfold ltOf Z07 orP cP nlt
 rcases Int.lt_trichotomy a b with h | h | h
 ·simp[h]
 ·subst h
  rcases Int.lt_trichotomy a' b' with q | q | q
  ·simp[q]
  ·subst q;simp
  ·have:¬a'<b':=by omega
   simp[q,this]
 ·have h1:¬a<b:=by omega
  have h2:a≠b:=by omega
  simp[h,h1,h2]
theorem Z1a:SWO (ltOf Z07) where
 irrefl x:=by rw[V1];simpa using Z2k x
 trans x y z h1 h2:=by rw[V1] at *;simp only[decide_eq_true_eq] at *;exact Z3a h1 h2
 ntrans x y z h1 h2:=by rw[V1] at *;simp only[decide_eq_false_iff_not] at *;intro h;unfold nlt at *;omega
end
theorem Z0j(e:Int × Int)(v:Int)(w:World):Calls prog 66 #[egV e,.int .i64 v] w fun e' w'=>e'=.returned (.int .i64 (cP e.1 v))∧Nw w w':=by
 obtain⟨a,b⟩:=e
 go_enter func66,ntmps66
 go_wp2_with (go_at_call 42;refine(Ue _ _ _).mono ?_;rintro e w' ⟨rfl,rfl⟩)
 go_ret
 exact⟨rfl,(Nw.refl _).alloc _⟩
theorem Z2g:∀args w,(callFunc 66 args).run prog w=.ok (.enter 66 args) w:=enters_of func66 (by kernel_rfl) rfl
theorem Z39(i j t:Nat)(h:((i:Int)+(j:Int))/2=(t:Int))(hij:i<j):i≤t∧t<j:=by omega
structure BsI(E:List (Int × Int))(v:Int)(w:World)(i j:Nat)(wr:World):Prop where
 ij:i≤j
 jn:j≤E.length
 lo:∀k (hk:k<E.length),k<i→E[k].1<v
 hi:∀(h:j<E.length),v≤E[j].1
 nw:Nw w wr
theorem BsI.up{E:List (Int × Int)}{v:Int}{w wr w':World}{i j t:Nat}(h:BsI E v w i j wr)(hs:Zc E)(htj:t<j)(ht:t<E.length)(hlt:E[t].1<v)(g:Nw wr w'):BsI E v w (t+1) j w' :=
 ⟨htj,h.jn,fun k hk hkt=>by
  have:=Z3v hs (Nat.le_of_lt_succ hkt) hk ht
  omega,h.hi,h.nw.trans g⟩
theorem BsI.dn{E:List (Int × Int)}{v:Int}{w wr w':World}{i j t:Nat}(h:BsI E v w i j wr)(hit:i≤t)(ht:t<E.length)(hge:v≤E[t].1)(g:Nw wr w'):BsI E v w i t w' :=
 ⟨hit,Nat.le_of_lt ht,h.lo,fun _=>hge,h.nw.trans g⟩
theorem BsI.end_{E:List (Int × Int)}{v:Int}{w wr:World}{i:Nat}(h:BsI E v w i i wr):Yp E v=i:=Z3i h.jn h.lo h.hi
theorem Z2c(v:Int)(ev:Value)(E:List (Int × Int))(w:World)(hl:E.length≤100000)(hs:Zc E)(h:Yc w ev E) :
  Calls prog 65 #[ev,.int .i64 v,.func (.func 66) #[] #[]] w fun e w'=>(∃b,e=.returned (.tuple #[.int .i64 (Yp E v),.bool b]))∧Nw w w':=by
 have HS:=hD0 (fun e w=>Z0j e v w)
 have eg:=Z2g
 have hH:=hD0 h
 have HR:=hD0 hs
 obtain⟨a,c,rfl,h'⟩:=h
 clear hs
 obtain⟨r,hr⟩:∃r,Yp E v=r:=⟨_,rfl⟩
 rw[hr]
 have HRr:=hD0 hr
 clear hr
 obtain⟨n,hn⟩:∃n,E.length=n:=⟨_,rfl⟩
 have HN:=hD0 hn
 rw[hn] at hl ⊢
 clear hn h'
 go_enter func65,ntmps65
 go_wp2
 go_loopw [9,10] (fun vi vj wr=>∃i j:Nat,vi=.int .i64 i∧vj=.int .i64 j∧j≤n∧i≤j∧Hid (BsI E v w i j wr)) (fun vi vj _=>(intOf vj).toNat-(intOf vi).toNat)
 case atStart=>exact⟨0,n,rfl,rfl,Nat.le_refl _,Nat.zero_le _,hD0 ⟨Nat.zero_le _,Nat.le_of_eq HN.out.symm,fun k hk q=>by omega,fun h=>absurd h (by rw[HN.out];exact Nat.lt_irrefl _),Nw.refl _⟩⟩
 case round =>
  obtain⟨i,j,rfl,rfl,hjn,hij,HB⟩:=hrel
  by_cases hlt:i<j
  ·have dlt:decide ((i:Int)<(j:Int))=true:=by rw[decide_eq_true_iff];omega
   have dlt2:decide (i<j)=true:=by simpa using hlt
   have w2:=Z3k i j (by omega) (by omega)
   obtain⟨t,hh⟩:∃t:Nat,((i:Int)+(j:Int))/2=(t:Int):=⟨(i+j)/2,by omega⟩
   obtain⟨hf1,hf2⟩:=Z39 i j t hh hlt
   have htE:t<E.length:=by have:=HN.out;omega
   have htn:t<n:=by omega
   have htn':(t:Int)<(n:Int):=by omega
   have w4:=Z3y t (by omega)
   obtain⟨a',c',e1,hc⟩:=hH.out.nw HB.out.nw
   rcases hc with⟨hc,_⟩ | ⟨b,o,e2,hc⟩
   ·rw[hc] at htE;simp at htE
   ·simp only[Value.slice.injEq] at e1
    obtain⟨rfl,_,rfl⟩:=e1
    subst e2
    obtain⟨c0,c1⟩:=hc.eg htE
    have hbl:=hc.lt
    obtain⟨e,he⟩:∃e,E[t]=e:=⟨_,rfl⟩
    rw[he] at c0 c1
    have HE:=hD0 he
    obtain⟨x,y⟩:=e
    simp only at c0 c1
    have HC:=hD0 (HS.out (x,y))
    clear hc he
    by_cases hx:x<v
    ·have hp:cP x v = -1:=Z2y x v hx
     rw[hp] at HC
     have HX:=hD0 hx
     clear hx
     go_wp2_with (go_at_fn 66;refine(HC.out _).mono ?_;rintro e' w1 ⟨rfl,g1⟩)
     go_roundw
     case rel=>exact⟨t+1,j,congrArg (Value.int .i64) (by first | exact w4 | rfl),rfl,hjn,hf2,hD0 (HB.out.up HR.out hf2 htE (by rw[HE.out];exact HX.out) g1)⟩
     case measure=>first | exact Z1e (i':=t+1) (j':=j) (by omega) | (rw[w4];exact Z1e (i':=t+1) (j':=j) (by omega))
    ·have hp:¬cP x v<0:=by
      unfold cP
      rw[if_neg hx]
      split<;>omega
     obtain⟨z,hz⟩:∃z,cP x v=z:=⟨_,rfl⟩
     rw[hz] at hp HC
     have dz:decide (z<0)=false:=by simpa using hp
     have HX:=hD0 (Int.not_lt.1 hx)
     clear hx hp hz
     go_wp2_with (go_at_fn 66;refine(HC.out _).mono ?_;rintro e' w1 ⟨rfl,g1⟩)
     go_roundw
     case rel=>exact⟨i,t,rfl,rfl,by omega,hf1,hD0 (HB.out.dn hf1 htE (by rw[HE.out];exact HX.out) g1)⟩
     case measure=>exact Z1e (i':=i) (j':=t) (by omega)
  ·obtain rfl:i=j:=by omega
   have hst:=(HRr.out.symm.trans HB.out.end_).symm
   subst hst
   have HW:=hD0 HB.out.nw
   by_cases hin:i<n
   ·have dlt:decide ((i:Int)<(n:Int))=true:=by rw[decide_eq_true_iff];omega
    have dlt2:decide (i<n)=true:=by simpa using hin
    have hin':(i:Int)<(n:Int):=by omega
    have htE:i<E.length:=by have:=HN.out;omega
    obtain⟨a',c',e1,hc⟩:=hH.out.nw HB.out.nw
    rcases hc with⟨hc,_⟩ | ⟨b,o,e2,hc⟩
    ·rw[hc] at htE;simp at htE
    ·simp only[Value.slice.injEq] at e1
     obtain⟨rfl,_,rfl⟩:=e1
     subst e2
     obtain⟨c0,c1⟩:=hc.eg htE
     have hbl:=hc.lt
     obtain⟨e,he⟩:∃e,E[i]=e:=⟨_,rfl⟩
     rw[he] at c0 c1
     obtain⟨x,y⟩:=e
     simp only at c0 c1
     have HC:=hD0 (HS.out (x,y))
     clear hc he
     go_wp2_with (go_at_fn 66;refine(HC.out _).mono ?_;rintro e' w1 ⟨rfl,g1⟩)
     go_ret2
     exact⟨⟨_,rfl⟩,HW.out.trans g1⟩
   ·have dlt:decide ((i:Int)<(n:Int))=false:=by rw[decide_eq_false_iff_not];omega
    have dlt2:decide (i<n)=false:=by simpa using hin
    go_wp2
    go_ret2
    exact⟨⟨_,rfl⟩,HW.out⟩
theorem Vy(v:Int)(ev:Value)(E:List (Int × Int))(w:World)(hl:E.length≤100000)(hs:Zc E)(h:Yc w ev E) :
  Calls prog 45 #[ev,.int .i64 v] w fun e w'=>e=.returned (.int .i64 (Yp E v))∧Nw w w':=by
 have HB:=hD0 (Z2c v ev E w hl hs h)
 obtain⟨a,c,rfl⟩:=h.form
 clear h hs
 go_enter func45,ntmps45
 go_wp2_with fail
 refine HB.out.mono ?_
 rintro e w1 ⟨⟨b,rfl⟩,g1⟩
 go_wp2
 go_ret
 exact⟨rfl,g1⟩
theorem Vz{P:Program}{ops:Array Oper}{o:Oper}{a:Act}{w:World}{K:Act→World→Prop}{Q:Exit→Act→World→Prop}{E:Prop}(hgd:Region.wanted o (yielded ops a.tmps)=true)(m x u:Operand)(t:TypeId)(ho:o.op=Op.mapUpdate t m x u)
  (M X V:Value) (w':World) (hm:a.eval m=M) (hx:a.eval x=X) (hu:a.eval u=V) (hr:(Instr.mapUpdate t M X V).run P w=.ok () w') (h:K (a.put o.dst undef) w'):if Region.wanted o (yielded ops a.tmps)=true then Oper.wp P o a w K Q else E:=by
 rw[if_pos hgd]
 unfold Oper.wp
 simp[execOp,ho,hm,hx,hu,hr,Result.andThen]
 exact h
theorem Z2j(s:Gb)(k:Int)(m:Nat):fnx { s with nx:=Ze s.nx k m }=Ze (fnx s) k (m:Int):=by
 funext v
 show(if v=k then some m else s.nx v).map Int.ofNat=if v=k then some (m:Int) else(s.nx v).map Int.ofNat
 by_cases q:v=k
 ·rw[if_pos q,if_pos q];rfl
 ·rw[if_neg q,if_neg q]
section
variable {W0 w w':World} {o mb pb N N':Nat} {ev vp vo vk:Value} {E:List (Int × Int)} {s:Gb}
theorem U7{b:Nat}(hg:w.grownBy w' (some b)):Zf (fun k=>k=b) w w':=(Zf.refl (fun k=>k=b) w).grown hg (fun k e=>.inl (Option.some.inj e).symm)
theorem Zp.next(h:Zp W0 w o mb pb ev vp vo vk E s N){k:Int}{m:Nat}(hm:Za w' mb (Ze (fnx s) k m) N')(hg:w.grownBy w' (some mb))(hN:N≤N'):Zp W0 w' o mb pb ev vp vo vk E { s with nx:=Ze s.nx k m } N':=by
 obtain⟨o1,o2,o3,o4,o5⟩:=h.off
 obtain⟨a1,⟨a2,a3,a4⟩,a5,a6,a7⟩:=h.apart
 have t:=U7 hg
 refine⟨(t.block o h.ol (fun e=>o1 e.symm)).trans h.obj,h.ed,Zh h.nw t (fun i e=>by subst e;exact h.mW),?_,(h.mp.tch t (fun e=>h.mne e.symm)).le hN,h.pa.keep t a2,h.op.keep t a3,Zm h.kn t a4,h.oW,h.mW,h.pW,h.mne,h.pg,h.og,h.ne,?_⟩
 ·rw[Z2j];exact hm
 ·obtain⟨b1,b2,b3⟩:=h.bd
  exact⟨Nat.le_trans b1 hN,Nat.le_trans b2 hN,Nat.le_trans b3 hN⟩
theorem Zp.plc(h:Zp W0 w o mb pb ev vp vo vk E s N){k p:Int}(hm:Za w' pb (Ze s.pl k p) N')(hg:w.grownBy w' (some pb))(hN:N≤N'):Zp W0 w' o mb pb ev vp vo vk E { s with pl:=Ze s.pl k p } N':=by
 obtain⟨o1,o2,o3,o4,o5⟩:=h.off
 obtain⟨a1,⟨a2,a3,a4⟩,a5,a6,a7⟩:=h.apart
 have t:=U7 hg
 refine⟨(t.block o h.ol (fun e=>o2 e.symm)).trans h.obj,h.ed,Zh h.nw t (fun i e=>by subst e;exact h.pW),(h.mn.tch t h.mne).le hN,hm,h.pa.keep t a5,h.op.keep t a6,Zm h.kn t a7,h.oW,h.mW,h.pW,h.mne,h.pg,h.og,h.ne,?_⟩
 obtain⟨b1,b2,b3⟩:=h.bd
 exact⟨Nat.le_trans b1 hN,Nat.le_trans b2 hN,Nat.le_trans b3 hN⟩
def BxO(w w':World)(o:Nat):Prop:=(∀j,w'.cell? ⟨o,j,none⟩=w.cell? ⟨o,j,none⟩)∧(∀j,w'.frozen? ⟨o,j,none⟩=w.frozen? ⟨o,j,none⟩)∧o<w'.heap.size
theorem U1{S:Nat→Prop}(t:Zf S w w')(hl:o<w.heap.size)(hn:¬S o):BxO w w' o:=⟨fun j=>t.cell hl hn,fun j=>t.froz hl hn,lL0 hl t.size⟩
def Nk(w:World)(o:Nat)(vk:Value)(oa:Option Addr)(oc n:Nat)(x:World):Prop:=x.cell? ⟨o,5,none⟩=some vk∧x.cell? ⟨o,4,none⟩=some (.slice oa n oc)∧o<x.heap.size
theorem Zp.pushK(h:Zp W0 w o mb pb ev vp vo vk E s N)(f:Nat)(hl:s.kn.length<N)(hN:N≤100000) :
  ∃g cap w2,(Builtin.append_ #[75,75] 75 #[vk,.slice (some ⟨w.heap.size,0,none⟩) 1 1]).run prog (w.alloc (.cells #[.int .i64 f,.bool false] 115))=.ok (.slice (some ⟨g,0,none⟩) (s.kn.length+1) cap) w2∧BxO w w2 o ∧
   Zp W0 (w2.setCell ⟨o,5,none⟩ (.slice (some ⟨g,0,none⟩) (s.kn.length+1) cap)) o mb pb ev vp vo (.slice (some ⟨g,0,none⟩) (s.kn.length+1) cap) E { s with kn:=s.kn++[⟨f,false⟩] } N:=by
 obtain⟨o1,o2,o3,o4,o5⟩:=h.off
 obtain⟨a1,⟨a2,a3,a4⟩,a5,a6,a7⟩:=h.apart
 have hal:=Z9 w (.cells #[.int .i64 f,.bool false] 115)
 have g0:Nw w (w.alloc (.cells #[.int .i64 f,.bool false] 115)):=(Nw.refl w).alloc _
 obtain⟨z,hz⟩:∃z,w.alloc (.cells #[.int .i64 f,.bool false] 115)=z:=⟨_,rfl⟩
 rw[hz] at hal g0 ⊢
 obtain⟨v',w2,hr,hO,hg,hp,g,cap,rfl⟩:=Yi.push Z35 (onw h.kn g0) (⟨f,false⟩:Kn) w.heap.size 1 (fun j u hu=>by
  rw[Z7 hal]
  simpa [Yw] using hu) (by omega) (h.nw.trans g0).sz
 have t0:Zf (fun k=>vk.ownBlock=some k) w w2:=(Zf.nw g0).grown hg (fun k e=>.inl e)
 have hb:=U1 t0 h.ol o5
 refine⟨g,cap,w2,hr,hb,?_⟩
 have t1:Zf (fun k=>k=o) w2 (w2.setCell ⟨o,5,none⟩ (.slice (some ⟨g,0,none⟩) (s.kn.length+1) cap)):=(Zf.refl (fun k=>k=o) w2).set (p:=⟨o,5,none⟩) (.inl rfl) _
 have ho:w2.heap[o]?=_:=(t0.block o h.ol o5).trans h.obj
 have hnw2:Nw W0 w2:=Zh h.nw t0 (fun i e=>oge h.kn e)
 have hgo:g≠o:=fun e=>by
  obtain⟨c,q⟩:=Zl hO (g:=g) rfl
  rw[e,ho] at q
  injection q with q
  injection q with _ q _
  exact absurd q (by decide)
 refine⟨hset _ ho,h.ed,Zh hnw2 t1 (fun i e=>by subst e;exact h.oW),(h.mn.tch t0 a4).tch t1 o1,(h.mp.tch t0 a7).tch t1 o2,(h.pa.tch t0 (fun k hk e=>(a1 k e).1 hk)).keep t1 o3,(h.op.tch t0 (fun k hk e=>(a1 k e).2 hk)).keep t1 o4,?_,h.oW,h.mW,h.pW,h.mne,h.pg,h.og,h.ne,?_⟩
 ·exact Zm hO t1 (fun e=>hgo (Option.some.inj e))
 ·obtain⟨b1,b2,b3⟩:=h.bd
  exact⟨b1,b2,by show(s.kn++[_]).length≤N;simp;omega⟩
theorem Zp.pushO(h:Zp W0 w o mb pb ev vp vo vk E s N)(u:Int)(hl:s.op.length<N)(hN:N≤100000) :
  ∃g cap w2,(Builtin.append_ #[24,24] 24 #[vo,.slice (some ⟨w.heap.size,0,none⟩) 1 1]).run prog (w.alloc (.cells #[.int .i64 u] 3))=.ok (.slice (some ⟨g,0,none⟩) (s.op.length+1) cap) w2∧BxO w w2 o ∧
   Zp W0 (w2.setCell ⟨o,4,none⟩ (.slice (some ⟨g,0,none⟩) (s.op.length+1) cap)) o mb pb ev vp (.slice (some ⟨g,0,none⟩) (s.op.length+1) cap) vk E { s with op:=s.op++[u] } N:=by
 obtain⟨o1,o2,o3,o4,o5⟩:=h.off
 obtain⟨a1,⟨a2,a3,a4⟩,a5,a6,a7⟩:=h.apart
 obtain⟨v',w2,hr,hI,t0,hk,g,cap,rfl⟩:=IS.push w vo s.op u h.op (by omega)
 have hb:=U1 t0 h.ol o4
 refine⟨g,cap,w2,hr,hb,?_⟩
 have t1:Zf (fun k=>k=o) w2 (w2.setCell ⟨o,4,none⟩ (.slice (some ⟨g,0,none⟩) (s.op.length+1) cap)):=(Zf.refl (fun k=>k=o) w2).set (p:=⟨o,4,none⟩) (.inl rfl) _
 have ho:w2.heap[o]?=_:=(t0.block o h.ol o4).trans h.obj
 have hnw2:Nw W0 w2:=Zh h.nw t0 (fun i e=>h.og i e)
 have hgo:g≠o:=fun e=>by
  obtain⟨c,q⟩:=Zl hI (g:=g) rfl
  rw[e,ho] at q
  injection q with q
  injection q with _ q _
  exact absurd q (by decide)
 have hgW:W0.heap.size≤g:=by
  rcases hk g rfl with e | e
  ·exact h.og g e
  ·exact Nat.le_trans h.nw.sz e
 refine⟨hset _ ho,h.ed,Zh hnw2 t1 (fun i e=>by subst e;exact h.oW),(h.mn.tch t0 a3).tch t1 o1,(h.mp.tch t0 a6).tch t1 o2,(h.pa.tch t0 (fun k hk e=>h.ne k hk e)).keep t1 o3,hI.keep t1 (fun e=>hgo (Option.some.inj e)),?_,h.oW,h.mW,h.pW,h.mne,h.pg,?_,?_,?_⟩
 ·refine Zm ?_ t1 o5
  refine⟨h.kn.1,?_⟩
  rcases h.kn.2 with h0 | ⟨g',cap',cur,rfl,hb',hg',rest⟩
  ·exact .inl h0
  ·exact .inr ⟨g',cap',cur,rfl,hb',(t0.block g' (hlt hg') (fun e=>(a1 g' rfl).2 e)).trans hg',rest⟩
 ·intro k e
  rw[←Option.some.inj e];exact hgW
 ·intro k hkp e
  have e':g=k:=Option.some.inj e
  subst e'
  rcases hk g rfl with q | q
  ·exact h.ne g hkp q
  ·have:=h.pa.lt hkp
   omega
 ·obtain⟨b1,b2,b3⟩:=h.bd
  exact⟨b1,by show(s.op++[_]).length≤N;simp;omega,b3⟩
theorem Zp.pushP(h:Zp W0 w o mb pb ev vp vo vk E s N)(u:Int)(hl:s.path.length<N)(hN:N≤100000) :
  ∃g cap w2,(Builtin.append_ #[24,24] 24 #[vp,.slice (some ⟨w.heap.size,0,none⟩) 1 1]).run prog (w.alloc (.cells #[.int .i64 u] 3))=.ok (.slice (some ⟨g,0,none⟩) (s.path.length+1) cap) w2∧BxO w w2 o ∧
   Zp W0 (w2.setCell ⟨o,3,none⟩ (.slice (some ⟨g,0,none⟩) (s.path.length+1) cap)) o mb pb ev (.slice (some ⟨g,0,none⟩) (s.path.length+1) cap) vo vk E { s with path:=s.path++[u] } N:=by
 obtain⟨o1,o2,o3,o4,o5⟩:=h.off
 obtain⟨a1,⟨a2,a3,a4⟩,a5,a6,a7⟩:=h.apart
 obtain⟨v',w2,hr,hI,t0,hk,g,cap,rfl⟩:=IS.push w vp s.path u h.pa (by omega)
 have hb:=U1 t0 h.ol o3
 refine⟨g,cap,w2,hr,hb,?_⟩
 have t1:Zf (fun k=>k=o) w2 (w2.setCell ⟨o,3,none⟩ (.slice (some ⟨g,0,none⟩) (s.path.length+1) cap)):=(Zf.refl (fun k=>k=o) w2).set (p:=⟨o,3,none⟩) (.inl rfl) _
 have ho:w2.heap[o]?=_:=(t0.block o h.ol o3).trans h.obj
 have hnw2:Nw W0 w2:=Zh h.nw t0 (fun i e=>h.pg i e)
 have hgo:g≠o:=fun e=>by
  obtain⟨c,q⟩:=Zl hI (g:=g) rfl
  rw[e,ho] at q
  injection q with q
  injection q with _ q _
  exact absurd q (by decide)
 have hgW:W0.heap.size≤g:=by
  rcases hk g rfl with e | e
  ·exact h.pg g e
  ·exact Nat.le_trans h.nw.sz e
 refine⟨hset _ ho,h.ed,Zh hnw2 t1 (fun i e=>by subst e;exact h.oW),(h.mn.tch t0 a2).tch t1 o1,(h.mp.tch t0 a5).tch t1 o2,hI.keep t1 (fun e=>hgo (Option.some.inj e)),(h.op.tch t0 (fun k hk e=>h.ne k e hk)).keep t1 o4,?_,h.oW,h.mW,h.pW,h.mne,?_,h.og,?_,?_⟩
 ·refine Zm ?_ t1 o5
  refine⟨h.kn.1,?_⟩
  rcases h.kn.2 with h0 | ⟨g',cap',cur,rfl,hb',hg',rest⟩
  ·exact .inl h0
  ·exact .inr ⟨g',cap',cur,rfl,hb',(t0.block g' (hlt hg') (fun e=>(a1 g' rfl).1 e)).trans hg',rest⟩
 ·intro k e
  rw[←Option.some.inj e];exact hgW
 ·intro k e hko
  have e':g=k:=Option.some.inj e
  subst e'
  rcases hk g rfl with q | q
  ·exact h.ne g q hko
  ·have:=h.op.lt hko
   omega
 ·obtain⟨b1,b2,b3⟩:=h.bd
  exact⟨by show(s.path++[_]).length≤N;simp;omega,b2,b3⟩
theorem Um(h:Wk W0 w o ev E s N)(hN:N+2≤100000)(hl:E.length≤100000)(hs:Zc E){u:Int}(hu:Z8 u)(hp:s.pl u=none) :
  Calls prog 63 #[.pointer (some ⟨o,0,none⟩),.int .i64 u] w fun e w'=>e=.returned (.tuple #[])∧Wk W0 w' o ev E (Zj E s u) (N+2):=by
 obtain⟨mb,pb,vp,vo,vk,h⟩:=h
 obtain⟨c0,c1,c2,c3,c4,c5,c6,c7⟩:=h.c
 have hol:=h.ol
 have hlk:=h.mp.look_no hu hp
 obtain⟨oa,oc,rfl,_⟩:=h.op.box
 have HS:=hD0 (fun(x:World) (g:Nw w x)=>Vy u ev E x hl hs (h.ed.nw (h.nw.trans g)))
 have HW:=hD0 h
 have HU:=hD0 (aI0 hN (aI0 hu h.bd))
 clear h c6 c7 c3 hN hu hp hl hs
 go_enter func63,ntmps63
 go_wp2_with fail
 refine Z4 [11] (Nw w) (by kernel_rfl) ?_
 change Z5 _ _ _ _ _ _ 12 #[false,false,false,false,false,false,false,false,false,false,false,false] _ w.drew
 obtain⟨y0,hy0⟩:∃y,w.drew=y:=⟨_,rfl⟩
 rw[hy0]
 have hS0:Nw w y0:=by rw[←hy0];exact(Nw.refl w).dr
 have t0:∀x,Nw w x→x.cell? ⟨o,0,none⟩=some ev:=fun x g=>g.kp c0
 have t1:∀x,Nw w x→x.cell? ⟨o,1,none⟩=some (.map (some mb)):=fun x g=>g.kp c1
 clear hy0 c0 c1 c2 c4 c5 hlk hol
 refine Z1 0 rfl (by kernel_rfl) (by kernel_rfl) (by kernel_rfl) (by kernel_rfl) (fun v c a w h=>h) hS0 ?_
 (first | (refine⟨undef,Or.inr ⟨by rfl,rfl⟩,?_⟩) | (apply Exists.intro;refine⟨Or.inl ⟨by rfl,?_⟩,?_⟩;(intro x hx';go_simp;first | done | with_reducible rfl)))
 (try simp only[Act.put,List.getElem_toArray,List.getElem_cons_zero,List.getElem_cons_succ,List.setIfInBounds_toArray,List.set_cons_zero,List.set_cons_succ])
 refine Z1 1 rfl (by kernel_rfl) (by kernel_rfl) (by kernel_rfl) (by kernel_rfl) (fun v c a w h=>h) hS0 ?_
 (first | (refine⟨undef,Or.inr ⟨by rfl,rfl⟩,?_⟩) | (apply Exists.intro;refine⟨Or.inl ⟨by rfl,?_⟩,?_⟩;(intro x hx';go_simp;first | done | with_reducible rfl)))
 (try simp only[Act.put,List.getElem_toArray,List.getElem_cons_zero,List.getElem_cons_succ,List.setIfInBounds_toArray,List.set_cons_zero,List.set_cons_succ])
 refine Z1 2 rfl (by kernel_rfl) (by kernel_rfl) (by kernel_rfl) (by kernel_rfl) (fun v c a w h=>h) hS0 ?_
 (first | (refine⟨undef,Or.inr ⟨by rfl,rfl⟩,?_⟩) | (apply Exists.intro;refine⟨Or.inl ⟨by rfl,?_⟩,?_⟩;(intro x hx';go_simp;first | done | with_reducible rfl)))
 (try simp only[Act.put,List.getElem_toArray,List.getElem_cons_zero,List.getElem_cons_succ,List.setIfInBounds_toArray,List.set_cons_zero,List.set_cons_succ])
 refine Z1 3 rfl (by kernel_rfl) (by kernel_rfl) (by kernel_rfl) (by kernel_rfl) (fun v c a w h=>h) hS0 ?_
 (first | (refine⟨undef,Or.inr ⟨by rfl,rfl⟩,?_⟩) | (apply Exists.intro;refine⟨Or.inl ⟨by rfl,?_⟩,?_⟩;(intro x hx';go_simp;first | done | with_reducible rfl)))
 (try simp only[Act.put,List.getElem_toArray,List.getElem_cons_zero,List.getElem_cons_succ,List.setIfInBounds_toArray,List.set_cons_zero,List.set_cons_succ])
 refine Z1 4 rfl (by kernel_rfl) (by kernel_rfl) (by kernel_rfl) (by kernel_rfl) (fun v c a w h=>h) hS0 ?_
 (first | (refine⟨undef,Or.inr ⟨by rfl,rfl⟩,?_⟩) | (apply Exists.intro;refine⟨Or.inl ⟨by rfl,?_⟩,?_⟩;(intro x hx';go_simp;first | done | with_reducible rfl)))
 (try simp only[Act.put,List.getElem_toArray,List.getElem_cons_zero,List.getElem_cons_succ,List.setIfInBounds_toArray,List.set_cons_zero,List.set_cons_succ])
 refine Z1 5 rfl (by kernel_rfl) (by kernel_rfl) (by kernel_rfl) (by kernel_rfl) (fun v c a w h=>h) hS0 ?_
 (first | (refine⟨undef,Or.inr ⟨by rfl,rfl⟩,?_⟩) | (apply Exists.intro;refine⟨Or.inl ⟨by rfl,?_⟩,?_⟩;(intro x hx';go_simp;first | done | with_reducible rfl)))
 (try simp only[Act.put,List.getElem_toArray,List.getElem_cons_zero,List.getElem_cons_succ,List.setIfInBounds_toArray,List.set_cons_zero,List.set_cons_succ])
 refine Z1 6 rfl (by kernel_rfl) (by kernel_rfl) (by kernel_rfl) (by kernel_rfl) (fun v c a w h=>h) hS0 ?_
 (first | (refine⟨undef,Or.inr ⟨by rfl,rfl⟩,?_⟩) | (apply Exists.intro;refine⟨Or.inl ⟨by rfl,?_⟩,?_⟩;(intro x hx';go_simp;first | done | with_reducible rfl)))
 (try simp only[Act.put,List.getElem_toArray,List.getElem_cons_zero,List.getElem_cons_succ,List.setIfInBounds_toArray,List.set_cons_zero,List.set_cons_succ])
 refine Z1 7 rfl (by kernel_rfl) (by kernel_rfl) (by kernel_rfl) (by kernel_rfl) (fun v c a w h=>h) hS0 ?_
 (first | (refine⟨undef,Or.inr ⟨by rfl,rfl⟩,?_⟩) | (apply Exists.intro;refine⟨Or.inl ⟨by rfl,?_⟩,?_⟩;(intro x hx';go_simp;first | done | with_reducible rfl)))
 (try simp only[Act.put,List.getElem_toArray,List.getElem_cons_zero,List.getElem_cons_succ,List.setIfInBounds_toArray,List.set_cons_zero,List.set_cons_succ])
 refine Z1 8 rfl (by kernel_rfl) (by kernel_rfl) (by kernel_rfl) (by kernel_rfl) (fun v c a w h=>h) hS0 ?_
 (first | (refine⟨undef,Or.inr ⟨by rfl,rfl⟩,?_⟩) | (apply Exists.intro;refine⟨Or.inl ⟨by rfl,?_⟩,?_⟩;(intro x hx';go_simp;first | done | with_reducible rfl)))
 (try simp only[Act.put,List.getElem_toArray,List.getElem_cons_zero,List.getElem_cons_succ,List.setIfInBounds_toArray,List.set_cons_zero,List.set_cons_succ])
 refine Z1 9 rfl (by kernel_rfl) (by kernel_rfl) (by kernel_rfl) (by kernel_rfl) (fun v c a w h=>h) hS0 ?_
 (first | (refine⟨undef,Or.inr ⟨by rfl,rfl⟩,?_⟩) | (apply Exists.intro;refine⟨Or.inl ⟨by rfl,?_⟩,?_⟩;(intro x hx';go_simp;first | done | with_reducible rfl)))
 (try simp only[Act.put,List.getElem_toArray,List.getElem_cons_zero,List.getElem_cons_succ,List.setIfInBounds_toArray,List.set_cons_zero,List.set_cons_succ])
 refine Z3 10 (by kernel_rfl) rfl (fun K hK=>?_)
 rw[if_pos (by rfl)]
 (try simp only[List.getElem_toArray,List.getElem_cons_zero,List.getElem_cons_succ])
 go_simp
 refine(HS.out y0 hS0).mono ?_
 rintro e w2 ⟨rfl,g2⟩
 refine hK _ _ (.inr (hS0.trans g2)) ?_
 clear hK K t0 t1 HS
 (try simp only[Act.put,List.getElem_toArray,List.getElem_cons_zero,List.getElem_cons_succ,List.setIfInBounds_toArray,List.set_cons_zero,List.set_cons_succ])
 have h2:=HW.out.nwr (hS0.trans g2)
 obtain⟨w3,hr3,hm3,hg3⟩:=h2.mn.put (by have:=HU.out.1;omega) HU.out.2.1 (Yp E u:Int)
 have h3:=h2.next hm3 hg3 (Nat.le_succ N)
 have HW3:=hD0 h3
 have HR3:=hD0 hr3
 clear h2 hm3 hg3 h3 hr3 hS0 g2 HW
 refine Z3 11 (by kernel_rfl) rfl (fun K hK=>?_)
 refine Vz (by rfl) (.tmp 21) (.tmp 22) (.tmp 28) 53 rfl _ _ _ _ rfl rfl rfl HR3.out ?_
 refine hK _ _ (.inl (by decide)) ?_
 clear hK K HR3
 refine Z2 (by kernel_rfl) ?_ _
 refine NoPanic.normal ?_
 (try simp only[Act.put,List.getElem_toArray,List.getElem_cons_zero,List.getElem_cons_succ,List.setIfInBounds_toArray,List.set_cons_zero,List.set_cons_succ])
 obtain⟨c0,c1,c2,c3,c4,c5,c6,c7⟩:=HW3.out.c
 have hol:=HW3.out.ol
 clear c0 c1 c3 c6 c7
 go_wp2_with fail
 refine Z4 [10] (Nw w3) (by kernel_rfl) ?_
 change Z5 _ _ _ _ _ _ 11 #[false,false,false,false,false,false,false,false,false,false,false] _ w3.drew
 obtain⟨y1,hy1⟩:∃y,w3.drew=y:=⟨_,rfl⟩
 rw[hy1]
 have hS0:Nw w3 y1:=by rw[←hy1];exact(Nw.refl w3).dr
 have t0:∀x,Nw w3 x→x.cell? ⟨o,2,none⟩=some (.map (some pb)):=fun x g=>g.kp c2
 have t1:∀x,Nw w3 x→x.cell? ⟨o,4,none⟩=some (.slice oa s.op.length oc):=fun x g=>g.kp c4
 clear hy1 c2 c4 c5 hol
 refine Z1 0 rfl (by kernel_rfl) (by kernel_rfl) (by kernel_rfl) (by kernel_rfl) (fun v c a w h=>h) hS0 ?_
 (first | (refine⟨undef,Or.inr ⟨by rfl,rfl⟩,?_⟩) | (apply Exists.intro;refine⟨Or.inl ⟨by rfl,?_⟩,?_⟩;(intro x hx';go_simp;first | done | with_reducible rfl)))
 (try simp only[Act.put,List.getElem_toArray,List.getElem_cons_zero,List.getElem_cons_succ,List.setIfInBounds_toArray,List.set_cons_zero,List.set_cons_succ])
 refine Z1 1 rfl (by kernel_rfl) (by kernel_rfl) (by kernel_rfl) (by kernel_rfl) (fun v c a w h=>h) hS0 ?_
 (first | (refine⟨undef,Or.inr ⟨by rfl,rfl⟩,?_⟩) | (apply Exists.intro;refine⟨Or.inl ⟨by rfl,?_⟩,?_⟩;(intro x hx';go_simp;first | done | with_reducible rfl)))
 (try simp only[Act.put,List.getElem_toArray,List.getElem_cons_zero,List.getElem_cons_succ,List.setIfInBounds_toArray,List.set_cons_zero,List.set_cons_succ])
 refine Z1 2 rfl (by kernel_rfl) (by kernel_rfl) (by kernel_rfl) (by kernel_rfl) (fun v c a w h=>h) hS0 ?_
 (first | (refine⟨undef,Or.inr ⟨by rfl,rfl⟩,?_⟩) | (apply Exists.intro;refine⟨Or.inl ⟨by rfl,?_⟩,?_⟩;(intro x hx';go_simp;first | done | with_reducible rfl)))
 (try simp only[Act.put,List.getElem_toArray,List.getElem_cons_zero,List.getElem_cons_succ,List.setIfInBounds_toArray,List.set_cons_zero,List.set_cons_succ])
 refine Z1 3 rfl (by kernel_rfl) (by kernel_rfl) (by kernel_rfl) (by kernel_rfl) (fun v c a w h=>h) hS0 ?_
 (first | (refine⟨undef,Or.inr ⟨by rfl,rfl⟩,?_⟩) | (apply Exists.intro;refine⟨Or.inl ⟨by rfl,?_⟩,?_⟩;(intro x hx';go_simp;first | done | with_reducible rfl)))
 (try simp only[Act.put,List.getElem_toArray,List.getElem_cons_zero,List.getElem_cons_succ,List.setIfInBounds_toArray,List.set_cons_zero,List.set_cons_succ])
 refine Z1 4 rfl (by kernel_rfl) (by kernel_rfl) (by kernel_rfl) (by kernel_rfl) (fun v c a w h=>h) hS0 ?_
 (first | (refine⟨undef,Or.inr ⟨by rfl,rfl⟩,?_⟩) | (apply Exists.intro;refine⟨Or.inl ⟨by rfl,?_⟩,?_⟩;(intro x hx';go_simp;first | done | with_reducible rfl)))
 (try simp only[Act.put,List.getElem_toArray,List.getElem_cons_zero,List.getElem_cons_succ,List.setIfInBounds_toArray,List.set_cons_zero,List.set_cons_succ])
 refine Z1 5 rfl (by kernel_rfl) (by kernel_rfl) (by kernel_rfl) (by kernel_rfl) (fun v c a w h=>h) hS0 ?_
 (first | (refine⟨undef,Or.inr ⟨by rfl,rfl⟩,?_⟩) | (apply Exists.intro;refine⟨Or.inl ⟨by rfl,?_⟩,?_⟩;(intro x hx';go_simp;first | done | with_reducible rfl)))
 (try simp only[Act.put,List.getElem_toArray,List.getElem_cons_zero,List.getElem_cons_succ,List.setIfInBounds_toArray,List.set_cons_zero,List.set_cons_succ])
 refine Z1 6 rfl (by kernel_rfl) (by kernel_rfl) (by kernel_rfl) (by kernel_rfl) (fun v c a w h=>h) hS0 ?_
 (first | (refine⟨undef,Or.inr ⟨by rfl,rfl⟩,?_⟩) | (apply Exists.intro;refine⟨Or.inl ⟨by rfl,?_⟩,?_⟩;(intro x hx';go_simp;first | done | with_reducible rfl)))
 (try simp only[Act.put,List.getElem_toArray,List.getElem_cons_zero,List.getElem_cons_succ,List.setIfInBounds_toArray,List.set_cons_zero,List.set_cons_succ])
 refine Z1 7 rfl (by kernel_rfl) (by kernel_rfl) (by kernel_rfl) (by kernel_rfl) (fun v c a w h=>h) hS0 ?_
 (first | (refine⟨undef,Or.inr ⟨by rfl,rfl⟩,?_⟩) | (apply Exists.intro;refine⟨Or.inl ⟨by rfl,?_⟩,?_⟩;(intro x hx';go_simp;first | done | with_reducible rfl)))
 (try simp only[Act.put,List.getElem_toArray,List.getElem_cons_zero,List.getElem_cons_succ,List.setIfInBounds_toArray,List.set_cons_zero,List.set_cons_succ])
 refine Z1 8 rfl (by kernel_rfl) (by kernel_rfl) (by kernel_rfl) (by kernel_rfl) (fun v c a w h=>h) hS0 ?_
 (first | (refine⟨undef,Or.inr ⟨by rfl,rfl⟩,?_⟩) | (apply Exists.intro;refine⟨Or.inl ⟨by rfl,?_⟩,?_⟩;(intro x hx';go_simp;first | done | with_reducible rfl)))
 (try simp only[Act.put,List.getElem_toArray,List.getElem_cons_zero,List.getElem_cons_succ,List.setIfInBounds_toArray,List.set_cons_zero,List.set_cons_succ])
 refine Z1 9 rfl (by kernel_rfl) (by kernel_rfl) (by kernel_rfl) (by kernel_rfl) (fun v c a w h=>h) hS0 ?_
 (first | (refine⟨undef,Or.inr ⟨by rfl,rfl⟩,?_⟩) | (apply Exists.intro;refine⟨Or.inl ⟨by rfl,?_⟩,?_⟩;(intro x hx';go_simp;first | done | with_reducible rfl)))
 (try simp only[Act.put,List.getElem_toArray,List.getElem_cons_zero,List.getElem_cons_succ,List.setIfInBounds_toArray,List.set_cons_zero,List.set_cons_succ])
 have h4:=HW3.out.nwr hS0
 obtain⟨w5,hr5,hm5,hg5⟩:=(h4.mp.put (by have:=HU.out.1;omega) HU.out.2.1 (s.op.length:Int))
 have h5:=h4.plc hm5 hg5 (Nat.le_succ _)
 have HW5:=hD0 h5
 have HR5:=hD0 hr5
 clear h4 hm5 hg5 h5 hr5 hS0 t0 t1 HW3
 refine Z3 10 (by kernel_rfl) rfl (fun K hK=>?_)
 refine Vz (by rfl) (.tmp 32) (.tmp 33) (.tmp 38) 53 rfl _ _ _ _ rfl rfl rfl HR5.out ?_
 refine hK _ _ (.inl (by decide)) ?_
 clear hK K HR5
 refine Z2 (by kernel_rfl) ?_ _
 refine NoPanic.normal ?_
 (try simp only[Act.put,List.getElem_toArray,List.getElem_cons_zero,List.getElem_cons_succ,List.setIfInBounds_toArray,List.set_cons_zero,List.set_cons_succ])
 obtain⟨c0,c1,c2,c3,c4,c5,c6,c7⟩:=HW5.out.c
 have hol:=HW5.out.ol
 have hfz:=HW5.out.fz 5
 clear c0 c1 c2 c3 c6 c7
 go_wp2_with fail
 refine Z4 [15] (Nk w5 o vk oa oc s.op.length) (by kernel_rfl) ?_
 change Z5 _ _ _ _ _ _ 16 #[false,false,false,false,false,false,false,false,false,false,false,false,false,false,false,false] _ w5.drew
 obtain⟨y2,hy2⟩:∃y,w5.drew=y:=⟨_,rfl⟩
 rw[hy2]
 have h6:=HW5.out.nwr (show Nw w5 y2 by rw[←hy2];exact(Nw.refl w5).dr)
 obtain⟨d0,d1,d2,d3,d4,d5,d6,d7⟩:=h6.c
 have hol6:=h6.ol
 have hS0:Nk w5 o vk oa oc s.op.length y2:=⟨d5,d4,hol6⟩
 have t0:∀x,Nk w5 o vk oa oc s.op.length x→x.cell? ⟨o,5,none⟩=some vk:=fun x g=>g.1
 have t1:∀x,Nk w5 o vk oa oc s.op.length x→x.cell? ⟨o,4,none⟩=some (.slice oa s.op.length oc):=fun x g=>g.2.1
 have HW6:=hD0 h6
 clear hy2 c4 c5 hol hfz d0 d1 d2 d3 d4 d5 d6 d7 h6 HW5
 refine Z1 0 rfl (by kernel_rfl) (by kernel_rfl) (by kernel_rfl) (by kernel_rfl) (fun v c a w h=>h) hS0 ?_
 (first | (refine⟨undef,Or.inr ⟨by rfl,rfl⟩,?_⟩) | (apply Exists.intro;refine⟨Or.inl ⟨by rfl,?_⟩,?_⟩;(intro x hx';go_simp;first | done | with_reducible rfl)))
 (try simp only[Act.put,List.getElem_toArray,List.getElem_cons_zero,List.getElem_cons_succ,List.setIfInBounds_toArray,List.set_cons_zero,List.set_cons_succ])
 refine Z1 1 rfl (by kernel_rfl) (by kernel_rfl) (by kernel_rfl) (by kernel_rfl) (fun v c a w h=>h) hS0 ?_
 (first | (refine⟨undef,Or.inr ⟨by rfl,rfl⟩,?_⟩) | (apply Exists.intro;refine⟨Or.inl ⟨by rfl,?_⟩,?_⟩;(intro x hx';go_simp;first | done | with_reducible rfl)))
 (try simp only[Act.put,List.getElem_toArray,List.getElem_cons_zero,List.getElem_cons_succ,List.setIfInBounds_toArray,List.set_cons_zero,List.set_cons_succ])
 refine Z1 2 rfl (by kernel_rfl) (by kernel_rfl) (by kernel_rfl) (by kernel_rfl) (fun v c a w h=>h) hS0 ?_
 (first | (refine⟨undef,Or.inr ⟨by rfl,rfl⟩,?_⟩) | (apply Exists.intro;refine⟨Or.inl ⟨by rfl,?_⟩,?_⟩;(intro x hx';go_simp;first | done | with_reducible rfl)))
 (try simp only[Act.put,List.getElem_toArray,List.getElem_cons_zero,List.getElem_cons_succ,List.setIfInBounds_toArray,List.set_cons_zero,List.set_cons_succ])
 refine Z1 3 rfl (by kernel_rfl) (by kernel_rfl) (by kernel_rfl) (by kernel_rfl) (fun v c a w h=>h) hS0 ?_
 (first | (refine⟨undef,Or.inr ⟨by rfl,rfl⟩,?_⟩) | (apply Exists.intro;refine⟨Or.inl ⟨by rfl,?_⟩,?_⟩;(intro x hx';go_simp;first | done | with_reducible rfl)))
 (try simp only[Act.put,List.getElem_toArray,List.getElem_cons_zero,List.getElem_cons_succ,List.setIfInBounds_toArray,List.set_cons_zero,List.set_cons_succ])
 refine Z1 4 rfl (by kernel_rfl) (by kernel_rfl) (by kernel_rfl) (by kernel_rfl) (fun v c a w h=>h) hS0 ?_
 (first | (refine⟨undef,Or.inr ⟨by rfl,rfl⟩,?_⟩) | (apply Exists.intro;refine⟨Or.inl ⟨by rfl,?_⟩,?_⟩;(intro x hx';go_simp;first | done | with_reducible rfl)))
 (try simp only[Act.put,List.getElem_toArray,List.getElem_cons_zero,List.getElem_cons_succ,List.setIfInBounds_toArray,List.set_cons_zero,List.set_cons_succ])
 refine Z1 5 rfl (by kernel_rfl) (by kernel_rfl) (by kernel_rfl) (by kernel_rfl) (fun v c a w h=>h) hS0 ?_
 (first | (refine⟨undef,Or.inr ⟨by rfl,rfl⟩,?_⟩) | (apply Exists.intro;refine⟨Or.inl ⟨by rfl,?_⟩,?_⟩;(intro x hx';go_simp;first | done | with_reducible rfl)))
 (try simp only[Act.put,List.getElem_toArray,List.getElem_cons_zero,List.getElem_cons_succ,List.setIfInBounds_toArray,List.set_cons_zero,List.set_cons_succ])
 refine Z1 6 rfl (by kernel_rfl) (by kernel_rfl) (by kernel_rfl) (by kernel_rfl) (fun v c a w h=>h) hS0 ?_
 (first | (refine⟨undef,Or.inr ⟨by rfl,rfl⟩,?_⟩) | (apply Exists.intro;refine⟨Or.inl ⟨by rfl,?_⟩,?_⟩;(intro x hx';go_simp;first | done | with_reducible rfl)))
 (try simp only[Act.put,List.getElem_toArray,List.getElem_cons_zero,List.getElem_cons_succ,List.setIfInBounds_toArray,List.set_cons_zero,List.set_cons_succ])
 refine Z1 7 rfl (by kernel_rfl) (by kernel_rfl) (by kernel_rfl) (by kernel_rfl) (fun v c a w h=>h) hS0 ?_
 (first | (refine⟨undef,Or.inr ⟨by rfl,rfl⟩,?_⟩) | (apply Exists.intro;refine⟨Or.inl ⟨by rfl,?_⟩,?_⟩;(intro x hx';go_simp;first | done | with_reducible rfl)))
 (try simp only[Act.put,List.getElem_toArray,List.getElem_cons_zero,List.getElem_cons_succ,List.setIfInBounds_toArray,List.set_cons_zero,List.set_cons_succ])
 refine Z1 8 rfl (by kernel_rfl) (by kernel_rfl) (by kernel_rfl) (by kernel_rfl) (fun v c a w h=>h) hS0 ?_
 (first | (refine⟨undef,Or.inr ⟨by rfl,rfl⟩,?_⟩) | (apply Exists.intro;refine⟨Or.inl ⟨by rfl,?_⟩,?_⟩;(intro x hx';go_simp;first | done | with_reducible rfl)))
 (try simp only[Act.put,List.getElem_toArray,List.getElem_cons_zero,List.getElem_cons_succ,List.setIfInBounds_toArray,List.set_cons_zero,List.set_cons_succ])
 refine Z1 9 rfl (by kernel_rfl) (by kernel_rfl) (by kernel_rfl) (by kernel_rfl) (fun v c a w h=>h) hS0 ?_
 (first | (refine⟨undef,Or.inr ⟨by rfl,rfl⟩,?_⟩) | (apply Exists.intro;refine⟨Or.inl ⟨by rfl,?_⟩,?_⟩;(intro x hx';go_simp;first | done | with_reducible rfl)))
 (try simp only[Act.put,List.getElem_toArray,List.getElem_cons_zero,List.getElem_cons_succ,List.setIfInBounds_toArray,List.set_cons_zero,List.set_cons_succ])
 refine Z1 10 rfl (by kernel_rfl) (by kernel_rfl) (by kernel_rfl) (by kernel_rfl) (fun v c a w h=>h) hS0 ?_
 (first | (refine⟨undef,Or.inr ⟨by rfl,rfl⟩,?_⟩) | (apply Exists.intro;refine⟨Or.inl ⟨by rfl,?_⟩,?_⟩;(intro x hx';go_simp;first | done | with_reducible rfl)))
 (try simp only[Act.put,List.getElem_toArray,List.getElem_cons_zero,List.getElem_cons_succ,List.setIfInBounds_toArray,List.set_cons_zero,List.set_cons_succ])
 refine Z3 11 (by kernel_rfl) rfl (fun K hK=>?_)
 rw[if_pos (by rfl)]
 (try simp only[List.getElem_toArray,List.getElem_cons_zero,List.getElem_cons_succ])
 go_simp
 have e7:Nw y2 (y2.alloc (.cells #[.int .i64 s.op.length,.bool false] 115)):=(Nw.refl _).alloc _
 refine hK _ _ (.inr ⟨e7.kp hS0.1,e7.kp hS0.2.1,lL0 hS0.2.2 e7.sz⟩) ?_
 clear hK K
 (try simp only[Act.put,List.getElem_toArray,List.getElem_cons_zero,List.getElem_cons_succ,List.setIfInBounds_toArray,List.set_cons_zero,List.set_cons_succ])
 obtain⟨gk,kc,w8,hr8,⟨hc8,hf8,ho8⟩,h8⟩:=HW6.out.pushK s.op.length (by have:=HU.out.2.2.2.2;show s.kn.length<N+1+1;omega) (by have:=HU.out.1;omega)
 have f8:=(hf8 5).trans (HW6.out.fz 5)
 have b5:=(hc8 5).trans hS0.1
 have b4:=(hc8 4).trans hS0.2.1
 have HR8:=hD0 hr8
 have HW8:=hD0 h8
 clear hc8 hf8 h8 hr8 e7
 refine Z3 12 (by kernel_rfl) rfl (fun K hK=>?_)
 refine Z2u (by rfl) (.tmp 43) (.tmp 50) 75 rfl _ _ _ _ rfl rfl HR8.out ?_
 refine hK _ _ (.inr ⟨b5,b4,ho8⟩) ?_
 clear hK K HR8 hS0
 (try simp only[Act.put,List.getElem_toArray,List.getElem_cons_zero,List.getElem_cons_succ,List.setIfInBounds_toArray,List.set_cons_zero,List.set_cons_succ])
 have hS0:Nk w5 o vk oa oc s.op.length w8:=⟨b5,b4,ho8⟩
 refine Z3 13 (by kernel_rfl) rfl (fun K hK=>?_)
 rw[if_pos (by rfl)]
 (try simp only[List.getElem_toArray,List.getElem_cons_zero,List.getElem_cons_succ])
 go_simp
 refine hK _ _ (.inr hS0) ?_
 clear hK K
 (try simp only[Act.put,List.getElem_toArray,List.getElem_cons_zero,List.getElem_cons_succ,List.setIfInBounds_toArray,List.set_cons_zero,List.set_cons_succ])
 refine Z3 14 (by kernel_rfl) rfl (fun K hK=>?_)
 rw[if_pos (by rfl)]
 (try simp only[List.getElem_toArray,List.getElem_cons_zero,List.getElem_cons_succ])
 go_simp
 refine hK _ _ (.inr hS0) ?_
 clear hK K
 (try simp only[Act.put,List.getElem_toArray,List.getElem_cons_zero,List.getElem_cons_succ,List.setIfInBounds_toArray,List.set_cons_zero,List.set_cons_succ])
 refine Z3 15 (by kernel_rfl) rfl (fun K hK=>?_)
 rw[if_pos (by rfl)]
 (try simp only[List.getElem_toArray,List.getElem_cons_zero,List.getElem_cons_succ])
 go_simp
 refine hK _ _ (.inl (by decide)) ?_
 clear hK K hS0 t0 t1 b5 b4 f8 ho8 HW6
 refine Z2 (by kernel_rfl) ?_ _
 refine NoPanic.normal ?_
 (try simp only[Act.put,List.getElem_toArray,List.getElem_cons_zero,List.getElem_cons_succ,List.setIfInBounds_toArray,List.set_cons_zero,List.set_cons_succ])
 obtain⟨w9,hw9⟩:∃x,w8.setCell ⟨o,5,none⟩ (.slice (some ⟨gk,0,none⟩) (s.kn.length+1) kc)=x:=⟨_,rfl⟩
 rw[hw9] at HW8 ⊢
 clear hw9
 obtain⟨c0,c1,c2,c3,c4,c5,c6,c7⟩:=HW8.out.c
 have hol:=HW8.out.ol
 have hfz:=HW8.out.fz
 clear c0 c1 c2 c3 c5 c6 c7
 obtain⟨go,oc2,w10,hr10,⟨hc10,hf10,ho10⟩,h10⟩:=HW8.out.pushO u (by have:=HU.out.2.2.2.1;show s.op.length<N+1+1;omega) (by have:=HU.out.1;omega)
 have f10:=(hf10 4).trans (hfz 4)
 have b10:=(hc10 4).trans c4
 have HR10:=hD0 hr10
 have HW10:=hD0 h10
 clear hc10 hf10 h10 hr10
 go_upto_region 6 with(at_builtin;refine Zu (by rfl) (.tmp 58) (.tmp 60) 24 rfl _ _ _ _ rfl rfl HR10.out ?_)
 obtain⟨w11,hw11⟩:∃x,w10.setCell ⟨o,4,none⟩ (.slice (some ⟨go,0,none⟩) (s.op.length+1) oc2)=x:=⟨_,rfl⟩
 rw[hw11] at HW10 ⊢
 clear hw11 c4 hol hfz ho10 f10 b10 HR10 HW8
 obtain⟨c0,c1,c2,c3,c4,c5,c6,c7⟩:=HW10.out.c
 have hol:=HW10.out.ol
 have hfz:=HW10.out.fz
 clear c0 c1 c2 c4 c5 c6 c7
 obtain⟨gp,pc,w12,hr12,⟨hc12,hf12,ho12⟩,h12⟩:=HW10.out.pushP u (by have:=HU.out.2.2.1;show s.path.length<N+1+1;omega) (by have:=HU.out.1;omega)
 have f12:=(hf12 3).trans (hfz 3)
 have b12:=(hc12 3).trans c3
 have HR12:=hD0 hr12
 have HW12:=hD0 h12
 clear hc12 hf12 h12 hr12
 go_wp2_with (at_builtin;refine Zu (by rfl) (.tmp 68) (.tmp 70) 24 rfl _ _ _ _ rfl rfl HR12.out ?_)
 refine bodyPost_end (results_none rfl _ _ _) rfl ?_
 exact⟨rfl,mb,pb,_,_,_,HW12.out⟩
end
end Go.Proofs.Ytobnolgphljoeaa
namespace Go.Proofs
open _root_.Go.Proofs.Try
open Go.Shelf
def Try.lays189_ren:Go.Shelf.Ren:=⟨fun | 189=>48 | 125=>61 | 257=>68 | 128=>85 | 129=>86 | 294=>90 | 295=>91 | 296=>92 | 297=>93 | 298=>94 | 299=>95 | 216=>96 | 300=>97 | 301=>98 | 328=>108 | 329=>104 | 330=>105 | 331=>109 | 332=>110 | 215=>62 | 343=>113 | n=>n,fun | 28=>24 | 3=>3 | 46=>91 | 0=>0 | 51=>111 | 53=>113 | 4=>4 | 183=>105 | 182=>104 | 131=>51 | 5=>5 | 9=>9 | 218=>125 | 222=>129 | 228=>133 | 229=>134 | n=>n,fun | n=>n⟩
theorem Try.lays189:Go.Proofs.Lays.n189 prog Try.lays189_ren:={
 mixed:=by kernel_rfl
 f125:=func61.trans (congrArg some (by kernel_rfl))
 f128:=func85.trans (congrArg some (by kernel_rfl))
 f129:=func86.trans (congrArg some (by kernel_rfl))
 f189:=func48.trans (congrArg some (by kernel_rfl))
 f215:=func62.trans (congrArg some (by kernel_rfl))
 f216:=func96.trans (congrArg some (by kernel_rfl))
 f257:=func68.trans (congrArg some (by kernel_rfl))
 f294:=func90.trans (congrArg some (by kernel_rfl))
 f295:=func91.trans (congrArg some (by kernel_rfl))
 f296:=func92.trans (congrArg some (by kernel_rfl))
 f297:=func93.trans (congrArg some (by kernel_rfl))
 f298:=func94.trans (congrArg some (by kernel_rfl))
 f299:=func95.trans (congrArg some (by kernel_rfl))
 f300:=func97.trans (congrArg some (by kernel_rfl))
 f301:=func98.trans (congrArg some (by kernel_rfl))
 f328:=func108.trans (congrArg some (by kernel_rfl))
 f329:=func104.trans (congrArg some (by kernel_rfl))
 f330:=func105.trans (congrArg some (by kernel_rfl))
 f331:=func109.trans (congrArg some (by kernel_rfl))
 f332:=func110.trans (congrArg some (by kernel_rfl))
 f343:=func113.trans (congrArg some (by kernel_rfl))
 t0:=underlying0
 a0:=Try.isAgg0
 z0:=Try.sizeOf0
 v0:=Try.zeroValue0
 t3:=underlying3
 a3:=Try.isAgg3
 z3:=Try.sizeOf3
 v3:=Try.zeroValue3
 t4:=underlying4
 a4:=Try.isAgg4
 z4:=Try.sizeOf4
 v4:=Try.zeroValue4
 t5:=underlying5
 a5:=Try.isAgg5
 z5:=Try.sizeOf5
 v5:=Try.zeroValue5
 t9:=underlying9
 a9:=Try.isAgg9
 z9:=Try.sizeOf9
 v9:=Try.zeroValue9
 t28:=underlying24
 a28:=Try.isAgg24
 z28:=Try.sizeOf24
 v28:=Try.zeroValue24
 t46:=underlying91
 a46:=Try.isAgg91
 z46:=Try.sizeOf91
 v46:=Try.zeroValue91
 t51:=underlying111
 a51:=Try.isAgg111
 z51:=Try.sizeOf111
 v51:=Try.zeroValue111
 t53:=underlying113
 a53:=Try.isAgg113
 z53:=Try.sizeOf113
 v53:=Try.zeroValue113
 t131:=underlying51
 a131:=Try.isAgg51
 z131:=Try.sizeOf51
 v131:=Try.zeroValue51
 t182:=underlying104
 a182:=Try.isAgg104
 z182:=Try.sizeOf104
 v182:=Try.zeroValue104
 t183:=underlying105
 a183:=Try.isAgg105
 z183:=Try.sizeOf105
 v183:=Try.zeroValue105
 t218:=underlying125
 a218:=Try.isAgg125
 z218:=Try.sizeOf125
 v218:=Try.zeroValue125
 t222:=underlying129
 a222:=Try.isAgg129
 z222:=Try.sizeOf129
 v222:=Try.zeroValue129
 t228:=underlying133
 a228:=Try.isAgg133
 z228:=Try.sizeOf133
 v228:=Try.zeroValue133
 t229:=underlying134
 a229:=Try.isAgg134
 z229:=Try.sizeOf134
 v229:=Try.zeroValue134 }
open Go.Sort Go.RowKit in
theorem Try.slices_Sort_int(blk off cap:Nat)(zs:List Int)(w:World)(hH:Holds (Value.int .i64) w blk off zs.toArray)(hblk:blk<w.heap.size)(hsz:zs.length<4611686018427387904) :
  Calls prog 48 #[.slice (some ⟨blk,off,none⟩) zs.length cap] w fun e w' =>
   e=.returned (.tuple #[])∧∃n os,w'=grow (putRow (Value.int .i64) (Sort.ahead w n) blk off (zs.mergeSort fun x y=>decide (x≤y)).toArray) os:=Any.slices_Sort_int Try.lays189 blk off cap zs w hH hblk hsz
def Try.lays114_ren:Go.Shelf.Ren:=⟨fun | 114=>89 | n=>n,fun | 28=>24 | 3=>3 | 4=>4 | 9=>9 | 20=>20 | 0=>0 | n=>n,fun | n=>n⟩
theorem Try.lays114:Go.Proofs.Lays.n114 prog Try.lays114_ren:={
 mixed:=by kernel_rfl
 f114:=func89.trans (congrArg some (by kernel_rfl))
 t0:=underlying0
 a0:=Try.isAgg0
 z0:=Try.sizeOf0
 v0:=Try.zeroValue0
 t3:=underlying3
 a3:=Try.isAgg3
 z3:=Try.sizeOf3
 v3:=Try.zeroValue3
 t4:=underlying4
 a4:=Try.isAgg4
 z4:=Try.sizeOf4
 v4:=Try.zeroValue4
 t9:=underlying9
 a9:=Try.isAgg9
 z9:=Try.sizeOf9
 v9:=Try.zeroValue9
 t20:=underlying20
 a20:=Try.isAgg20
 z20:=Try.sizeOf20
 v20:=Try.zeroValue20
 t28:=underlying24
 a28:=Try.isAgg24
 z28:=Try.sizeOf24
 v28:=Try.zeroValue24 }
open Go.Lib in
theorem Try.slices_Min_int(b off n c:Nat)(zs:List Int)(w:World)(hn:0<n)(hz:n≤zs.length)(hbig:n≤9223372036854775807)(hc:∀j,j<zs.length→w.cell? ⟨b,off+j,none⟩=some (.int .i64 (zs.getD j 0))) :
  Calls prog 89 #[.slice (some ⟨b,off,none⟩) n c] w fun e w'=>e=.returned (.int .i64 (Lib.minOf (zs.take n)))∧w'=w:=Any.slices_Min_int Try.lays114 b off n c zs w hn hz hbig hc
def Try.lays112_ren:Go.Shelf.Ren:=⟨fun | 112=>46 | n=>n,fun | 28=>24 | 3=>3 | 4=>4 | 0=>0 | n=>n,fun | n=>n⟩
theorem Try.lays112:Go.Proofs.Lays.n112 prog Try.lays112_ren:={
 mixed:=by kernel_rfl
 f112:=func46.trans (congrArg some (by kernel_rfl))
 t0:=underlying0
 a0:=Try.isAgg0
 z0:=Try.sizeOf0
 v0:=Try.zeroValue0
 t3:=underlying3
 a3:=Try.isAgg3
 z3:=Try.sizeOf3
 v3:=Try.zeroValue3
 t4:=underlying4
 a4:=Try.isAgg4
 z4:=Try.sizeOf4
 v4:=Try.zeroValue4
 t28:=underlying24
 a28:=Try.isAgg24
 z28:=Try.sizeOf24
 v28:=Try.zeroValue24 }
open Go.RowKit Go.Lib Go.Sort in
theorem Try.slices_Reverse_int(blk off cap:Nat)(zs:List Int)(w:World)(hH:Holds (Value.int .i64) w blk off zs.toArray)(hsz:zs.length≤9223372036854775807) :
  Calls prog 46 #[.slice (some ⟨blk,off,none⟩) zs.length cap] w fun e w'=>e=.returned (.tuple #[])∧∃n,w'=putRow (Value.int .i64) (Sort.ahead w n) blk off zs.reverse.toArray:=Any.slices_Reverse_int Try.lays112 blk off cap zs w hH hsz
open Go.RowKit Go.Lib Go.Sort in
theorem Try.slices_Reverse_int_empty(a:Option Addr)(cap:Nat)(w:World) :
  Calls prog 46 #[.slice a 0 cap] w fun e w'=>e=.returned (.tuple #[])∧w'=w:=Any.slices_Reverse_int_empty Try.lays112 a cap w
open Go.RowKit Go.Sort in
theorem Try.slices_Sort_int_none(p:Option Addr)(cap:Nat)(w:World) :
  Calls prog 48 #[.slice p 0 cap] w fun e w'=>e=.returned (.tuple #[])∧w'=w:=Any.slices_Sort_int_none Try.lays189 p cap w
end Go.Proofs
namespace Go.Proofs.Ytobnolgphljoeaa
open Go.RowKit _root_.Go.Proofs.Try Go.Shelf
end Go.Proofs.Ytobnolgphljoeaa
