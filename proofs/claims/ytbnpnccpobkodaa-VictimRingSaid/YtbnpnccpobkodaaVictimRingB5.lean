/- Texts merged: Lex, Ord, OrdP, QuW, VaN, VbC, WcG, BdF, TbM, SortE -/
import Derived.Test.YtbnpnccpobkodaaVictimRingB4
import Derived.Deep.Cut
import Derived.Shelf.SlSortCmp.NoneTotal
import Derived.Test.YtbnpnccpobkodaaChecked
import Derived.StillTailTactics
set_option linter.unusedVariables false
set_option maxRecDepth 100000
set_option maxHeartbeats 16000000
namespace Go.Proofs.Ytbnpnccpobkodaa
open Go.RowKit _root_.Go.Proofs.Try
section
open Go
def Z5u(ops:Array Oper)(o:Oper):Option Tmp × List Tmp × List Nat:=(o.dst,o.looksAt ops,(o.after.toList.filter (Region.binds .any)).map (·.on))
end
section
open Go
def HW(P:Program)(ops:Array Oper)(Q:Exit→Act→World→Prop)(S:World→Prop):List (Option Bool)→List Oper→Option Oper→Act→World→Prop
 | [],_,_,a,w=>Q .normal a w
 | some true::fs,l,q,a,w =>
  match l with
  | []=>False
  | o::r=>∃v,YieldsIf P ops S o v a∧HW P ops Q S fs r q (a.put o.dst v) w
 | some false::fs,l,q,a,w =>
  match l,q with
  | o::r,none=>HW P ops Q S fs r (some o) a w
  | _,_=>False
 | none::fs,l,q,a,w =>
  match q with
  | some o=>∀K':Act→World→Prop,Shut (∀a w,S w→(S w→HW P ops Q S fs l none a w)→K' a w)→if Region.wanted o (yielded ops a.tmps)=true then Oper.wp P o a w K' Q else K' (a.put o.dst undef) w
  | none=>False
section
variable {P:Program} {ops:Array Oper} {Q:Exit→Act→World→Prop} {S:World→Prop}
end
end
section
open Go
inductive Pl where
 | fin
 | take (p:Pl)
 | off (p:Pl)
 | go1 (p:Pl)
 | go2 (p q:Pl)
abbrev Inf:=Option Tmp × List Tmp × List Nat
def Z6f(k:Nat)(qs:List (Nat × Inf))(e:Nat):Bool:=decide (e<k)&&qs.all fun y=>!(e==y.1)
def HP(P:Program)(ops:Array Oper)(Q:Exit→Act→World→Prop)(S:World→Prop):Pl→List Oper→List Oper→Act→World→Prop
 | .fin,_,_,a,w=>Q .normal a w
 | .take p,l,qs,a,w =>
  match l with
  | []=>False
  | o::r=>∃v,YieldsIf P ops S o v a∧HP P ops Q S p r qs (a.put o.dst v) w
 | .off p,l,qs,a,w =>
  match l with
  | []=>False
  | o::r=>HP P ops Q S p r (qs++[o]) a w
 | .go1 p,l,qs,a,w =>
  match qs with
  | [o]=>∀K':Act→World→Prop,Shut (∀a w,S w→(S w→HP P ops Q S p l [] a w)→K' a w)→if Region.wanted o (yielded ops a.tmps)=true then Oper.wp P o a w K' Q else K' (a.put o.dst undef) w
  | _=>False
 | .go2 p q,l,qs,a,w =>
  match qs with
  | [o,o']=>(∀K':Act→World→Prop,Shut (∀a w,S w→(S w→HP P ops Q S p l [o'] a w)→K' a w)→if Region.wanted o (yielded ops a.tmps)=true then Oper.wp P o a w K' Q else K' (a.put o.dst undef) w) ∧
    ∀K':Act→World→Prop,Shut (∀a w,S w→(S w→HP P ops Q S q l [o] a w)→K' a w)→if Region.wanted o' (yielded ops a.tmps)=true then Oper.wp P o' a w K' Q else K' (a.put o'.dst undef) w
  | _=>False
section
variable {P:Program} {ops:Array Oper} {Q:Exit→Act→World→Prop} {S:World→Prop}
def Z74(ops:Array Oper)(qs:List (Nat × Oper)):List (Nat × Inf):=qs.map fun p=>(p.1,Z5u ops p.2)
structure HI(ops:Array Oper)(k:Nat)(l:List Oper)(qs:List (Nat × Oper))(listed:Array Bool):Prop where
 rest:∀j,l[j]?=ops[k+j]?
 len:k+l.length=ops.size
 put:∀p∈qs,ops[p.1]?=some p.2∧p.1<k
 size:listed.size=ops.size
 come:∀j,j<ops.size→(listed.getD j false=true↔Z6f k (Z74 ops qs) j=true)
end
end
def Yj(x:Int):List Value:=[.int .i64 x]
theorem Z5q:Uf prog 25 3 1 8 Yj where
 und:=underlying25
 inf:=by
  have h:(prog.info? 3).map (fun i=>(i.zero,i.size,i.bytes))=some (some (.int .i64 0),1,8):=by kernel_rfl
  cases e:prog.info? 3 with
  | none=>rw[e] at h;cases h
  | some i =>
   rw[e] at h
   simp only[Option.map_some,Option.some.injEq,Prod.mk.injEq] at h
   exact⟨i,_,rfl,h.1,h.2.1,h.2.2,rfl⟩
 pos:=by decide
 byt:=by decide
 len:=fun _=>rfl
 one:=fun a u hu=>by
  simp only[Yj,List.mem_cons,List.not_mem_nil,or_false] at hu
  subst hu;rfl
theorem Z0f:∀l:List Int,Z5 Yj l=l.map (Value.int .i64)
 | []=>rfl
 | a::r=>by
  show Yj a++Z5 Yj r=_
  rw[Z0f r];rfl
theorem IS.own{w:World}{v:Value}{l:List Int}(h:IS w v l):Y5 3 1 Yj w 0 v l:=by
 unfold Y5
 rw[Z0f];exact h
theorem Y5.is{w:World}{g0:Nat}{v:Value}{l:List Int}(h:Y5 3 1 Yj w g0 v l):IS w v l:=by
 unfold Y5 at h
 rw[Z0f] at h
 exact Z52 h (fun _ _=>Nat.zero_le _)
abbrev InO(w:World)(g0:Nat)(v:Value)(l:List Int):Prop:=Y5 3 1 Yj w g0 v l
abbrev Z3d(w:World)(v:Value)(l:List Int):Prop:=Rd 1 Yj w v l
theorem IS.nm{w:World}{v:Value}{l:List Int}(h:IS w v l):Z3d w v l:=Y5.rd (fun _=>rfl) h.own
theorem Z09{w0:World}{v f:Value}{l:List Int}{ages:List (Int × Int)}(h:Z3d w0 v l)(hf:Z0m w0 f (cmA ages))(hl:l.length≤200000)(hF:∀x∈l,Z4 x) :
  Calls prog 19 #[v,f] w0 fun e w'=>e=.returned (.tuple #[.int .i64 (bsF ages l),.bool (decide (0<l.length))])∧Nw w0 w':=by
 obtain⟨la,lc,rfl,hx⟩:=h
 have HD:=hD0 hx
 have HF:=hD0 hF
 obtain⟨g,lb,rfl,eg,hc⟩:=hf
 have HC:=hD0 hc
 obtain⟨n,hn⟩:∃n,l.length=n:=⟨_,rfl⟩
 have HN:=hD0 hn
 obtain⟨V,hV⟩:∃V,bsF ages l=V:=⟨_,rfl⟩
 have HV:=hD0 hV
 rw[hn,hV]
 have hln:n≤200000:=hn▸hl
 clear hx hF hc hn hV hl
 go_enter func19,ntmps19
 go_wp2_with fail
 go_loopw [6,11] (fun v6 v11 wr=>∃(k:Nat) (o:Int),v6=.int .i64 o∧v11=.int .i64 k∧k≤n∧Hid (o=bsF ages (l.take k)∧Nw w0 wr)) (fun _ v11 _=>n-(intOf v11).toNat)
 case atStart=>exact⟨0,0,rfl,rfl,Nat.zero_le _,hD0 ⟨rfl,Nw.refl _⟩⟩
 case round =>
  obtain⟨k,o,rfl,rfl,hk,HG⟩:=hrel
  by_cases hlt:k<n
  ·have hkl:k<l.length:=by rw[HN.out];exact hlt
   rcases HD.out with⟨q,_⟩ | ⟨lg,lo,rfl,hrc⟩
   ·rw[q] at hkl;simp at hkl
   obtain⟨x,hx⟩:∃x,l[k]=x:=⟨_,rfl⟩
   have hfx:=HF.out x (hx▸gM0 hkl)
   have hsn:l.take (k+1)=l.take k++[x]:=by rw[List.take_succ_eq_append_getElem hkl,hx]
   have cx:wr.cell? ⟨lg,lo+k,none⟩=some (.int .i64 x):=by
    have:=(hrc.nw HG.out.2).cell k hkl 0 (.int .i64 x) (by rw[hx];rfl)
    simpa using this
   have hlgl:=(hrc.nw HG.out.2).lt
   have Yl:=Y8 hlt
   have hw:=Yi k (k+1) (by omega) rfl
   obtain⟨k1,hk1⟩:∃m,k+1=m:=⟨_,rfl⟩
   have HK1:=hD0 (aI0 hk1 hlt)
   rw[hk1] at hw
   by_cases h0:k=0
   ·have d0:decide (k=0)=true:=decide_eq_true h0
    have d1:((k:Int)==0)=true:=by rw[h0];rfl
    have HO:=hD0 (show x=bsF ages (l.take k1) from by
     rw[←hk1,hsn,h0]
     rfl)
    clear h0 hk1 hkl hrc hlt hx hfx hsn
    go_wp2_with fail
    exact⟨⟨k1,x,rfl,rfl,by rw[←HK1.out.1];exact HK1.out.2,hD0 ⟨HO.out,HG.out.2⟩⟩,by rw[←HK1.out.1];exact Ya HK1.out.2⟩
   ·have d0:decide (k=0)=false:=decide_eq_false h0
    have d1:((k:Int)==0)=false:=by rw[beq_eq_false_iff_ne];omega
    have d2:¬(k:Int)=0:=by omega
    have hne:l.take k≠[]:=fun e=>by
     have:=congrArg List.length e
     rw[List.length_take,Nat.min_eq_left (Nat.le_of_lt hkl)] at this
     exact h0 this
    have hfo:Z4 o:=HF.out o (by
     rw[HG.out.1]
     exact List.mem_of_mem_take (Z4o hne))
    have HB:=hD0 (show bsF ages (l.take k1)=Yu ages o x from by
     rw[←hk1,hsn,Z3h hne,←HG.out.1])
    have HCx:=hD0 (HC.out x o wr hfx hfo HG.out.2)
    have HP:=hD0 (Z4q ages x o)
    have HNw:=hD0 HG.out.2
    obtain⟨z,hz⟩:∃z,cmA ages x o=z:=⟨_,rfl⟩
    rw[hz] at HCx HP
    clear h0 hk1 hkl hrc hlt hx hfx hsn hne hfo HG hz
    go_wp2_with fail
    go_at_fn g
    refine HCx.out.mono ?_
    rintro e w1 ⟨rfl,g1⟩
    have HG1:=hD0 (HNw.out.trans g1)
    clear g1 HCx cx hlgl
    by_cases c1:0<z
    ·have dz:decide (0<z)=true:=decide_eq_true c1
     have HO:=hD0 (show x=bsF ages (l.take k1) from by
      rw[HB.out];unfold Yu;rw[if_pos (HP.out.1 c1)])
     clear c1
     go_wp2_with fail
     exact⟨⟨k1,x,rfl,rfl,by rw[←HK1.out.1];exact HK1.out.2,hD0 ⟨HO.out,HG1.out⟩⟩,by rw[←HK1.out.1];exact Ya HK1.out.2⟩
    ·have dz:decide (0<z)=false:=decide_eq_false c1
     have HO:=hD0 (show o=bsF ages (l.take k1) from by
      rw[HB.out];unfold Yu;rw[if_neg (fun q=>c1 (HP.out.2 q))])
     clear c1
     go_wp2_with fail
     exact⟨⟨k1,o,rfl,rfl,by rw[←HK1.out.1];exact HK1.out.2,hD0 ⟨HO.out,HG1.out⟩⟩,by rw[←HK1.out.1];exact Ya HK1.out.2⟩
  ·obtain rfl:k=n:=Nat.le_antisymm hk (Nat.le_of_not_lt hlt)
   have Yl:¬k<k:=Nat.lt_irrefl k
   have HO:=hD0 (show o=V∧Nw w0 wr from⟨by
    rw[HG.out.1,←HV.out,List.take_of_length_le (Nat.le_of_eq HN.out)],HG.out.2⟩)
   have dk:decide ((0:Int)<(k:Int))=decide (0<k):=by
    rw[Bool.eq_iff_iff,decide_eq_true_iff,decide_eq_true_iff]
    omega
   clear hlt HG
   go_wp2_with fail
   refine bodyPost_ret (v:=.tuple #[.int .i64 V,.bool (decide (0<k))]) (by simp[results,results19,go_sem,HO.out.1,dk, *]) rfl ⟨rfl,HO.out.2⟩
theorem Z23(e:Int × Int)(v:Int)(w:World):Calls prog 52 #[egV e,.int .i64 v] w fun e' w'=>e'=.returned (.int .i64 (cP e.1 v))∧Nw w w':=by
 obtain⟨a,b⟩:=e
 go_enter func52,ntmps52
 go_wp2_with (go_at_call 27;refine(Vv _ _ _).mono ?_;rintro e w' ⟨rfl,rfl⟩)
 go_ret
 exact⟨rfl,(Nw.refl _).alloc _⟩
theorem Z4v:∀args w,(callFunc 52 args).run prog w=.ok (.enter 52 args) w:=enters_of func52 (by kernel_rfl) rfl
theorem Z5v(i j t:Nat)(h:((i:Int)+(j:Int))/2=(t:Int))(hij:i<j):i≤t∧t<j:=by omega
structure BsI(E:List (Int × Int))(v:Int)(w:World)(i j:Nat)(wr:World):Prop where
 ij:i≤j
 jn:j≤E.length
 lo:∀k (hk:k<E.length),k<i→E[k].1<v
 hi:∀(h:j<E.length),v≤E[j].1
 nw:Nw w wr
theorem BsI.up{E:List (Int × Int)}{v:Int}{w wr w':World}{i j t:Nat}(h:BsI E v w i j wr)(hs:Zg E)(htj:t<j)(ht:t<E.length)(hlt:E[t].1<v)(g:Nw wr w'):BsI E v w (t+1) j w' :=
 ⟨htj,h.jn,fun k hk hkt=>by
  have:=Z6i hs (Nat.le_of_lt_succ hkt) hk ht
  omega,h.hi,h.nw.trans g⟩
theorem BsI.dn{E:List (Int × Int)}{v:Int}{w wr w':World}{i j t:Nat}(h:BsI E v w i j wr)(hit:i≤t)(ht:t<E.length)(hge:v≤E[t].1)(g:Nw wr w'):BsI E v w i t w' :=
 ⟨hit,Nat.le_of_lt ht,h.lo,fun _=>hge,h.nw.trans g⟩
theorem BsI.end_{E:List (Int × Int)}{v:Int}{w wr:World}{i:Nat}(h:BsI E v w i i wr):V9 E v=i:=Z63 h.jn h.lo h.hi
theorem Z4p(v:Int)(ev:Value)(E:List (Int × Int))(w:World)(hl:E.length≤100000)(hs:Zg E)(h:Zt w ev E) :
  Calls prog 51 #[ev,.int .i64 v,.func (.func 52) #[] #[]] w fun e w'=>(∃b,e=.returned (.tuple #[.int .i64 (V9 E v),.bool b]))∧Nw w w':=by
 have HS:=hD0 (fun e w=>Z23 e v w)
 have eg:=Z4v
 have hH:=hD0 h
 have HR:=hD0 hs
 obtain⟨a,c,rfl,h'⟩:=h
 clear hs
 obtain⟨r,hr⟩:∃r,V9 E v=r:=⟨_,rfl⟩
 rw[hr]
 have HRr:=hD0 hr
 clear hr
 obtain⟨n,hn⟩:∃n,E.length=n:=⟨_,rfl⟩
 have HN:=hD0 hn
 rw[hn] at hl ⊢
 clear hn h'
 go_enter func51,ntmps51
 go_wp2
 go_loopw [9,10] (fun vi vj wr=>∃i j:Nat,vi=.int .i64 i∧vj=.int .i64 j∧j≤n∧i≤j∧Hid (BsI E v w i j wr)) (fun vi vj _=>(intOf vj).toNat-(intOf vi).toNat)
 case atStart=>exact⟨0,n,rfl,rfl,Nat.le_refl _,Nat.zero_le _,hD0 ⟨Nat.zero_le _,Nat.le_of_eq HN.out.symm,fun k hk q=>by omega,fun h=>absurd h (by rw[HN.out];exact Nat.lt_irrefl _),Nw.refl _⟩⟩
 case round =>
  obtain⟨i,j,rfl,rfl,hjn,hij,HB⟩:=hrel
  by_cases hlt:i<j
  ·have dlt:decide ((i:Int)<(j:Int))=true:=by rw[decide_eq_true_iff];omega
   have dlt2:decide (i<j)=true:=by simpa using hlt
   have w2:=Z65 i j (by omega) (by omega)
   obtain⟨t,hh⟩:∃t:Nat,((i:Int)+(j:Int))/2=(t:Int):=⟨(i+j)/2,by omega⟩
   obtain⟨hf1,hf2⟩:=Z5v i j t hh hlt
   have htE:t<E.length:=by have:=HN.out;omega
   have htn:t<n:=by omega
   have htn':(t:Int)<(n:Int):=by omega
   have w4:=Z6n t (by omega)
   obtain⟨a',c',e1,hc⟩:=hH.out.nw HB.out.nw
   rcases hc with⟨hc,_⟩ | ⟨b,o,e2,hc⟩
   ·rw[hc] at htE;simp at htE
   ·simp only[Value.slice.injEq] at e1
    obtain⟨rfl,_,rfl⟩:=e1
    subst e2
    obtain⟨c0,c1⟩:=hc.eg htE
    have hbl:=hc.lt
    obtain⟨e,he⟩:∃e,E[t]=e:=⟨_,rfl⟩
    rw[he] at c0 c1
    have HE:=hD0 he
    obtain⟨x,y⟩:=e
    simp only at c0 c1
    have HC:=hD0 (HS.out (x,y))
    clear hc he
    by_cases hx:x<v
    ·have hp:cP x v = -1:=Z3i x v hx
     rw[hp] at HC
     have HX:=hD0 hx
     clear hx
     go_wp2_with (go_at_fn 52;refine(HC.out _).mono ?_;rintro e' w1 ⟨rfl,g1⟩)
     go_roundw
     case rel=>exact⟨t+1,j,congrArg (Value.int .i64) (by first | exact w4 | rfl),rfl,hjn,hf2,hD0 (HB.out.up HR.out hf2 htE (by rw[HE.out];exact HX.out) g1)⟩
     case measure=>first | exact Z3m (i':=t+1) (j':=j) (by omega) | (rw[w4];exact Z3m (i':=t+1) (j':=j) (by omega))
    ·have hp:¬cP x v<0:=by
      unfold cP
      rw[if_neg hx]
      split<;>omega
     obtain⟨z,hz⟩:∃z,cP x v=z:=⟨_,rfl⟩
     rw[hz] at hp HC
     have dz:decide (z<0)=false:=by simpa using hp
     have HX:=hD0 (Int.not_lt.1 hx)
     clear hx hp hz
     go_wp2_with (go_at_fn 52;refine(HC.out _).mono ?_;rintro e' w1 ⟨rfl,g1⟩)
     go_roundw
     case rel=>exact⟨i,t,rfl,rfl,by omega,hf1,hD0 (HB.out.dn hf1 htE (by rw[HE.out];exact HX.out) g1)⟩
     case measure=>exact Z3m (i':=i) (j':=t) (by omega)
  ·obtain rfl:i=j:=by omega
   have hst:=(HRr.out.symm.trans HB.out.end_).symm
   subst hst
   have HW:=hD0 HB.out.nw
   by_cases hin:i<n
   ·have dlt:decide ((i:Int)<(n:Int))=true:=by rw[decide_eq_true_iff];omega
    have dlt2:decide (i<n)=true:=by simpa using hin
    have hin':(i:Int)<(n:Int):=by omega
    have htE:i<E.length:=by have:=HN.out;omega
    obtain⟨a',c',e1,hc⟩:=hH.out.nw HB.out.nw
    rcases hc with⟨hc,_⟩ | ⟨b,o,e2,hc⟩
    ·rw[hc] at htE;simp at htE
    ·simp only[Value.slice.injEq] at e1
     obtain⟨rfl,_,rfl⟩:=e1
     subst e2
     obtain⟨c0,c1⟩:=hc.eg htE
     have hbl:=hc.lt
     obtain⟨e,he⟩:∃e,E[i]=e:=⟨_,rfl⟩
     rw[he] at c0 c1
     obtain⟨x,y⟩:=e
     simp only at c0 c1
     have HC:=hD0 (HS.out (x,y))
     clear hc he
     go_wp2_with (go_at_fn 52;refine(HC.out _).mono ?_;rintro e' w1 ⟨rfl,g1⟩)
     go_ret2
     exact⟨⟨_,rfl⟩,HW.out.trans g1⟩
   ·have dlt:decide ((i:Int)<(n:Int))=false:=by rw[decide_eq_false_iff_not];omega
    have dlt2:decide (i<n)=false:=by simpa using hin
    go_wp2
    go_ret2
    exact⟨⟨_,rfl⟩,HW.out⟩
theorem Z00(v:Int)(ev:Value)(E:List (Int × Int))(w:World)(hl:E.length≤100000)(hs:Zg E)(h:Zt w ev E) :
  Calls prog 44 #[ev,.int .i64 v] w fun e w'=>e=.returned (.int .i64 (V9 E v))∧Nw w w':=by
 have HB:=hD0 (Z4p v ev E w hl hs h)
 obtain⟨a,c,rfl⟩:=h.form
 clear h hs
 go_enter func44,ntmps44
 go_wp2_with fail
 refine HB.out.mono ?_
 rintro e w1 ⟨⟨b,rfl⟩,g1⟩
 go_wp2
 go_ret
 exact⟨rfl,g1⟩
section
open Go.RowKit Go.Sort
def GG(w w':World):Prop:=∃q os,w'=grow (w.drewN q) os
theorem GG.refl(w:World):GG w w:=⟨0,#[],by unfold grow;simp[World.drewN]⟩
theorem GG.drew{w w':World}(h:GG w w'):GG w w'.drew:=by obtain⟨q,os,rfl⟩:=h;exact⟨q+1,os,rfl⟩
theorem GG.alloc{w w':World}(h:GG w w')(o:Obj):GG w (w'.alloc o):=by obtain⟨q,os,rfl⟩:=h;exact⟨q,os.push o,by rw[alloc_eq_grow,grow_grow];rfl⟩
theorem GG.nw{w w':World}(h:GG w w'):Nw w w':=by
 obtain⟨q,os,rfl⟩:=h
 refine⟨rfl,rfl,rfl,by rw[size_grow];exact Nat.le_add_right _ _,fun k hk=>?_⟩
 exact heap_grow_old _ _ hk
theorem GG.trans{a b c:World}(h:GG a b)(k:GG b c):GG a c:=by
 obtain⟨q,os,rfl⟩:=h
 obtain⟨q',os',rfl⟩:=k
 refine⟨q+q',os++os',?_⟩
 unfold grow World.drewN
 simp[Nat.add_assoc,Array.append_assoc]
abbrev Z4m(w:World)(t r t' r':Int)(a:World):Prop:=(a.cell? ⟨w.heap.size,0,none⟩=some (.int .i64 t)∧a.cell? ⟨w.heap.size,1,none⟩=some (.int .i64 r)∧a.cell? ⟨w.heap.size+1,0,none⟩=some (.int .i64 t')∧a.cell? ⟨w.heap.size+1,1,none⟩=some (.int .i64 r'))∧(w.heap.size+1<a.heap.size∧GG w a)
theorem Z24(w:World)(t r t' r':Int)(ty:TypeId):Z4m w t r t' r' (((w.alloc (.cells #[.int .i64 t,.int .i64 r] ty)).alloc (.cells #[.int .i64 t',.int .i64 r'] ty)).drew):=by
 have h1:=Z9 w (.cells #[.int .i64 t,.int .i64 r] ty)
 have hz:(w.alloc (.cells #[.int .i64 t,.int .i64 r] ty)).heap.size=w.heap.size+1:=by simp
 have h2:=Z9 (w.alloc (.cells #[.int .i64 t,.int .i64 r] ty)) (.cells #[.int .i64 t',.int .i64 r'] ty)
 have h3:=((Nw.refl (w.alloc (.cells #[.int .i64 t,.int .i64 r] ty))).alloc (.cells #[.int .i64 t',.int .i64 r'] ty)).at' h1
 rw[hz] at h2
 refine⟨⟨?_,?_,?_,?_⟩,?_,(((GG.refl w).alloc _).alloc _).drew⟩
 ·exact Z6 (j:=0) h3
 ·exact Z6 (j:=1) h3
 ·exact Z6 (j:=0) h2
 ·exact Z6 (j:=1) h2
 ·exact hlt h2
theorem Vi{w a b:World}{t r t' r':Int}(g:GG a b)(h:Z4m w t r t' r' a):Z4m w t r t' r' b:=by
 obtain⟨⟨h0,h1,h2,h3⟩,hs,hn⟩:=h
 exact⟨⟨g.nw.kp h0,g.nw.kp h1,g.nw.kp h2,g.nw.kp h3⟩,lL0 hs g.nw.sz,hn.trans g⟩
def Z1n(a b:Int × Int):Int:=orP (cP a.1 b.1) (cP a.2 b.2)
theorem Vp(a b:Int × Int):ltOf Z1n a b=decide (nlt a b):=by
 obtain⟨a,a'⟩:=a
 obtain⟨b,b'⟩:=b
 unfold ltOf Z1n orP cP nlt
 rcases Int.lt_trichotomy a b with h | h | h
 ·simp[h]
 ·subst h
  rcases Int.lt_trichotomy a' b' with q | q | q
  ·simp[q]
  ·subst q;simp
  ·have:¬a'<b':=by omega
   simp[q,this]
 ·have h1:¬a<b:=by omega
  have h2:a≠b:=by omega
  simp[h,h1,h2]
theorem Z3j:SWO (ltOf Z1n) where
 irrefl x:=by rw[Vp];simpa using Z50 x
 trans x y z h1 h2:=by rw[Vp] at *;simp only[decide_eq_true_eq] at *;exact Z5w h1 h2
 ntrans x y z h1 h2:=by rw[Vp] at *;simp only[decide_eq_false_iff_not] at *;intro h;unfold nlt at *;omega
end
section
open Go.RowKit Go.Sort Go.Shelf
theorem Z5t{w:World}{g:Nat}{cur F:Array Value}{e:TypeId}(hb:w.heap[g]?=some (.cells cur e (0,0)))(ht:cur.toList.take F.size=F.toList):Holds id w g 0 F:=by
 intro j hj
 refine⟨?_,by simp[World.frozen?,hb]⟩
 have h1:(cur.toList.take F.size)[j]?=F.toList[j]?:=by rw[ht]
 rw[List.getElem?_take_of_lt hj] at h1
 simp only[World.cell?,hb,Nat.zero_add]
 simp only[Option.isSome_none,Bool.false_eq_true,if_false]
 rw[←Array.getElem?_toList,h1]
 simp[hj]
theorem Z6g{w:World}{g n:Nat}{os:Array Obj}{cur:Array Value}{e:TypeId}{fr:Nat × Nat}(F:Array Value)(hb:w.heap[g]?=some (.cells cur e fr)) :
  (grow (putRow id (Sort.ahead w n) g 0 F) os).heap[g]?=some (.cells (putCells id 0 F cur) e fr):=by
 have hg:g<w.heap.size:=(Array.getElem?_eq_some_iff.1 hb).1
 rw[heap_grow_old _ _ (by simpa using hg)]
 simp[putRow,mapBlock,Sort.ahead,Array.getElem?_modify,hb,onCells]
theorem Z79{w:World}{g n:Nat}{os:Array Obj}(F:Array Value):Zd (fun b=>b=g) w (grow (putRow id (Sort.ahead w n) g 0 F) os):=by
 refine⟨rfl,rfl,rfl,by simp,fun k hk hne=>?_⟩
 rw[heap_grow_old _ _ (by simpa using hk)]
 have:g≠k:=fun e=>hne e.symm
 simp[putRow,mapBlock,Sort.ahead,Array.getElem?_modify,this]
theorem Z6o(cur F:Array Value)(h:F.size≤cur.size):(putCells id 0 F cur).toList.take F.size=F.toList:=by
 apply List.ext_getElem?
 intro j
 by_cases hj:j<F.size
 ·rw[List.getElem?_take_of_lt hj,Array.getElem?_toList]
  simp[putCells,hj,show j<cur.size by omega]
 ·rw[List.getElem?_take_eq_none (by omega),List.getElem?_eq_none (by simp;omega)]
theorem Z5j{α:Type}[Inhabited α]{sz:Nat}{row:α→List Value}(hz:0<sz)(hl:∀a,(row a).length=sz)(ss:List α):flatK row sz ss.toArray=⟨Z5 row ss⟩:=by
 have hlen:(Z5 row ss).length=ss.length*sz:=Y7 hl ss
 apply Array.ext
 ·rw[size_flatK];simp[hlen]
 ·intro t h1 h2
  rw[size_flatK] at h1
  have h1':t<ss.length*sz:=by simpa using h1
  have hd:t/sz<ss.length:=Nat.div_lt_of_lt_mul (by rwa [Nat.mul_comm])
  have hm:t%sz<sz:=Nat.mod_lt _ hz
  have h3:=Y2 hl ss (t/sz) (t%sz) hd hm
  rw[show t/sz*sz+t%sz=t by rw[Nat.mul_comm];exact Nat.div_add_mod t sz] at h3
  have e1:=get_flatK row sz ss.toArray t h1
  rw[getElem!_pos _ t (by rw[size_flatK];exact h1)] at e1
  rw[e1,getElem!_pos ss.toArray (t/sz) (by simpa using hd)]
  have e2:(⟨Z5 row ss⟩:Array Value)[t]?=(row ss[t/sz])[t%sz]?:=by
   rw[←h3];simp
  rw[Array.getElem?_eq_getElem h2] at e2
  simp only[List.getElem_toArray]
  rw[getElem!_pos _ _ (by rw[hl];exact hm)]
  rw[List.getElem?_eq_getElem (by rw[hl];exact hm)] at e2
  exact(Option.some.inj e2).symm
theorem Z6k{α:Type}[Inhabited α]{d d':Array α}(h:PermIn 0 d.size d d'):d'.toList.Perm d.toList:=by
 obtain⟨h1,_,h3⟩:=h
 have e1:d'.extract 0 d.size=d':=by rw[←h1];exact Array.extract_size
 have e2:d.extract 0 d.size=d:=Array.extract_size
 rwa [e1,e2] at h3
theorem Z58{α:Type}[Inhabited α]{lt:α→α→Bool}{d':Array α}{n:Nat}(hn:d'.size=n)(h:SortedIn lt 0 n d'):d'.toList.Pairwise fun a b=>lt b a=false:=by
 rw[List.pairwise_iff_getElem]
 intro i j hi hj hij
 have:=h i j (Nat.zero_le _) hij (by rw[←hn];simpa using hj)
 have hi':i<d'.size:=by simpa using hi
 have hj':j<d'.size:=by simpa using hj
 rw[getElem!_pos d' i hi',getElem!_pos d' j hj'] at this
 simpa using this
theorem Z3a{α:Type}[Inhabited α]{ST T:TypeId}{sz bytes:Nat}{row:α→List Value}(E:Uf prog ST T sz bytes row){ρ:Ren}(L:SlLaysF0.n6 prog ρ)(aE:∀w,(isAgg (ρ.t 24)).run prog w=.ok true w)(zE:∀w,(Go.sizeOf (ρ.t 24)).run prog w=.ok sz w)
  (cf:α→α→Int) (hO:SWO (ltOf cf)) (fn:Nat) (eg:∀args w,(callFunc fn args).run prog w=.ok (.enter fn args) w)
  (hc:∀x y W,Calls prog fn #[.agg (row x).toArray,.agg (row y).toArray] W fun e w'=>e=.returned (.int .i64 (cf x y))∧GG W w')
  (g0 g cap:Nat) (ss:List α) (w:World) (h:Y5 T sz row w g0 (.slice (some ⟨g,0,none⟩) ss.length cap) ss) (hsm:ss.length≤100000) :
  Calls prog (ρ.f 6) #[.slice (some ⟨g,0,none⟩) ss.length cap,.func (.func fn) #[] #[]] w fun e w'=>e=.returned (.tuple #[])∧∃l:List α,l.Perm ss∧(l.Pairwise fun a b=>ltOf cf b a=false)∧Y5 T sz row w' g0 (.slice (some ⟨g,0,none⟩) l.length cap) l∧Zd (fun b=>b=g) w w':=by
 obtain⟨hx,hr⟩:=h
 rcases hr with⟨h0,_⟩ | ⟨g',cap',cur,h1,h2,h3,h4,h5,h6,h7⟩
 ·simp at h0
 ·simp only[Value.slice.injEq,Option.some.injEq,Addr.mk.injEq,and_true,true_and] at h1
  obtain⟨rfl,rfl⟩:=h1
  have hF:(⟨Z5 row ss⟩:Array Value).size=ss.length*sz:=Y7 E.len ss
  have hH:HoldsK row sz w g 0 ss.toArray:=by
   unfold HoldsK
   rw[Z5j E.pos E.len]
   exact Z5t h3 (by rw[hF];exact h7)
  have hcl:CmpLays prog fn #[] row sz cf g 0 ss.toArray.size w:=fun _ _ _ _ x y=>hc x y _
  refine Calls.mono (AnyQ.slices_SortFunc L sz aE zE row E.len E.one cf hO fn #[] g 0 cap ss.toArray w eg hcl hH (hlt h3) (by simp;omega)) ?_
  rintro e w' ⟨rfl,d',n,os,hp,hs,rfl⟩
  have hsz:d'.size=ss.length:=by have:=hp.1;simpa using this
  have hp2:=Z6k hp
  refine⟨rfl,d'.toList,by simpa using hp2,Z58 (by simpa using hsz) hs,?_,?_⟩
  ·have hl:d'.toList.length=ss.length:=by simpa using hsz
   have hz:(⟨Z5 row d'.toList⟩:Array Value).size=ss.length*sz:=by rw[←hl];exact Y7 E.len _
   unfold sortWorldK putRowK
   have ef:flatK row sz d'=⟨Z5 row d'.toList⟩:=by
    have:=Z5j E.pos E.len d'.toList
    rwa [Array.toArray_toList] at this
   rw[ef]
   unfold Y5
   rw[hl]
   refine⟨by show(Z5 row d'.toList).length=_;exact hz,.inr ⟨g,cap,_,rfl,h2,Z6g _ h3,h4,h5,by simp[putCells,h6],?_⟩⟩
   have:=Z6o cur ⟨Z5 row d'.toList⟩ (by rw[hz,h6];exact Nat.mul_le_mul_right sz h4)
   rw[hz] at this
   exact this
  ·exact Z79 _
end
end Go.Proofs.Ytbnpnccpobkodaa
namespace Go.Proofs
open _root_.Go.Proofs.Try
open Go.Shelf
def Try.sortE_ren:Go.Shelf.Ren:=⟨fun | 6=>40 | 15=>48 | 14=>47 | 28=>61 | 29=>62 | 20=>53 | 21=>54 | 22=>55 | 23=>56 | 24=>57 | 25=>58 | 26=>59 | 27=>60 | 46=>66 | 47=>67 | 48=>68 | 49=>69 | 50=>70 | 57=>71 | n=>n,fun | 22=>22 | 24=>29 | 25=>65 | 3=>3 | 39=>76 | 0=>0 | 53=>87 | 55=>89 | 4=>4 | 46=>81 | 45=>80 | 50=>37 | 5=>5 | 9=>9 | 66=>93 | 70=>97 | 76=>99 | 77=>100 | n=>n,fun | n=>n⟩
theorem Try.sortE:Go.Proofs.SlLaysF0.n6 prog Try.sortE_ren:={
 mixed:=by kernel_rfl
 f6:=⟨Try.f40.name,by decide,func40.trans (congrArg some (by kernel_rfl))⟩
 f14:=⟨Try.f47.name,by decide,func47.trans (congrArg some (by kernel_rfl))⟩
 f15:=func48.trans (congrArg some (by kernel_rfl))
 f20:=⟨Try.f53.name,by decide,func53.trans (congrArg some (by kernel_rfl))⟩
 f21:=⟨Try.f54.name,by decide,func54.trans (congrArg some (by kernel_rfl))⟩
 f22:=⟨Try.f55.name,by decide,func55.trans (congrArg some (by kernel_rfl))⟩
 f23:=⟨Try.f56.name,by decide,func56.trans (congrArg some (by kernel_rfl))⟩
 f24:=⟨Try.f57.name,by decide,func57.trans (congrArg some (by kernel_rfl))⟩
 f25:=⟨Try.f58.name,by decide,func58.trans (congrArg some (by kernel_rfl))⟩
 f26:=⟨Try.f59.name,by decide,func59.trans (congrArg some (by kernel_rfl))⟩
 f27:=⟨Try.f60.name,by decide,func60.trans (congrArg some (by kernel_rfl))⟩
 f28:=func61.trans (congrArg some (by kernel_rfl))
 f29:=func62.trans (congrArg some (by kernel_rfl))
 f46:=⟨Try.f66.name,by decide,func66.trans (congrArg some (by kernel_rfl))⟩
 f47:=func67.trans (congrArg some (by kernel_rfl))
 f48:=func68.trans (congrArg some (by kernel_rfl))
 f49:=⟨Try.f69.name,by decide,func69.trans (congrArg some (by kernel_rfl))⟩
 f50:=⟨Try.f70.name,by decide,func70.trans (congrArg some (by kernel_rfl))⟩
 f57:=⟨Try.f71.name,by decide,func71.trans (congrArg some (by kernel_rfl))⟩
 t0:=underlying0
 a0:=Try.isAgg0
 z0:=Try.sizeOf0
 v0:=Try.zeroValue0
 t3:=underlying3
 a3:=Try.isAgg3
 z3:=Try.sizeOf3
 v3:=Try.zeroValue3
 t4:=underlying4
 a4:=Try.isAgg4
 z4:=Try.sizeOf4
 v4:=Try.zeroValue4
 t5:=underlying5
 a5:=Try.isAgg5
 z5:=Try.sizeOf5
 v5:=Try.zeroValue5
 t9:=underlying9
 a9:=Try.isAgg9
 z9:=Try.sizeOf9
 v9:=Try.zeroValue9
 t22:=underlying22
 a22:=Try.isAgg22
 z22:=Try.sizeOf22
 v22:=Try.zeroValue22
 t25:=underlying65
 a25:=Try.isAgg65
 z25:=Try.sizeOf65
 v25:=Try.zeroValue65
 t39:=underlying76
 a39:=Try.isAgg76
 z39:=Try.sizeOf76
 v39:=Try.zeroValue76
 t45:=underlying80
 a45:=Try.isAgg80
 z45:=Try.sizeOf80
 v45:=Try.zeroValue80
 t46:=underlying81
 a46:=Try.isAgg81
 z46:=Try.sizeOf81
 v46:=Try.zeroValue81
 t50:=underlying37
 a50:=Try.isAgg37
 z50:=Try.sizeOf37
 v50:=Try.zeroValue37
 t53:=underlying87
 a53:=Try.isAgg87
 z53:=Try.sizeOf87
 v53:=Try.zeroValue87
 t55:=underlying89
 a55:=Try.isAgg89
 z55:=Try.sizeOf89
 v55:=Try.zeroValue89
 t66:=underlying93
 a66:=Try.isAgg93
 z66:=Try.sizeOf93
 v66:=Try.zeroValue93
 t70:=underlying97
 a70:=Try.isAgg97
 z70:=Try.sizeOf97
 v70:=Try.zeroValue97
 t76:=underlying99
 a76:=Try.isAgg99
 z76:=Try.sizeOf99
 v76:=Try.zeroValue99
 t77:=underlying100
 a77:=Try.isAgg100
 z77:=Try.sizeOf100
 v77:=Try.zeroValue100 }
end Go.Proofs
namespace Go.Proofs.Ytbnpnccpobkodaa
open Go.RowKit _root_.Go.Proofs.Try
end Go.Proofs.Ytbnpnccpobkodaa
