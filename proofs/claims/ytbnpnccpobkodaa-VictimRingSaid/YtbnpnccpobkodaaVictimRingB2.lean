/- Texts merged: Ints, WcA, WcB, VbA, WoI, Rf, ModeA, QuM, QuS, QuP, QuH, BkM, PoM, PoF, BkB, BdK, BdC, BkO, BdE, BoF, Rr, Rt, Ru -/
import Derived.Test.YtbnpnccpobkodaaVictimRingB1
import Derived.Deep.RegionHeld3
import Derived.Shelf.Abstract
import Derived.Maps.OwnSet
import Derived.RangeFuncNested
import Derived.RangeFuncBound
import Derived.RangeFuncCalls
import Derived.RangeFuncLeaves
import Derived.Shelf.RegionOpen
import Derived.OwnWalkIn
import Derived.TacticsInMore
import Derived.LoopNIn
import Derived.LoopIn
import Derived.ProofKit
import Derived.OpenShut
import Derived.ShutString
import Derived.Deep.WholeRow
import Derived.Outline
import Derived.Maps.Range
import Derived.DeepKeys4
import Derived.OrdersHeld
import Derived.Sort.MapsRangeIn
import Derived.RegionIn
set_option linter.unusedVariables false
set_option maxRecDepth 100000
set_option maxHeartbeats 16000000
namespace Go.Proofs.Ytbnpnccpobkodaa
open Go.RowKit _root_.Go.Proofs.Try
abbrev IS(w:World)(v:Value)(l:List Int):Prop:=w.ownsRow 0 3 1 v l.length (l.map (Value.int .i64))
theorem IS.form{w:World}{v:Value}{l:List Int}(h:IS w v l):(v=.slice none 0 0∧l=[])∨∃g cap,v=.slice (some ⟨g,0,none⟩) l.length cap:=by
 rcases h.2 with⟨rfl,h0⟩ | ⟨g,cap,cur,rfl,_⟩
 ·exact .inl ⟨rfl,List.length_eq_zero_iff.1 h0⟩
 ·exact .inr ⟨g,cap,rfl⟩
theorem IS.tch{S:Nat→Prop}{w w':World}{v:Value}{l:List Int}(h:IS w v l)(k:Zd S w w')(hn:∀g,v.ownBlock=some g→¬S g):IS w' v l:=by
 refine⟨h.1,?_⟩
 rcases h.2 with h0 | ⟨g,cap,cur,rfl,hb,hg,rest⟩
 ·exact .inl h0
 ·exact .inr ⟨g,cap,cur,rfl,hb,(k.block g (Array.getElem?_eq_some_iff.1 hg).1 (hn g rfl)).trans hg,rest⟩
theorem IS.nw{w w':World}{v:Value}{l:List Int}(h:IS w v l)(k:Nw w w'):IS w' v l:=h.tch (Zd.nw (S:=fun _=>False) k) (fun _ _ e=>e)
theorem IS.nil(w:World):IS w (.slice none 0 0) []:=World.ownsRow_nil _ _ _ _
theorem IS.nlen{w:World}{g cap n:Nat}{l:List Int}(h:IS w (.slice (some ⟨g,0,none⟩) n cap) l):n=l.length:=by
 rcases h.2 with⟨h',_⟩ | ⟨g',cap',cur,h',_⟩
 ·simp at h'
 ·simp only[Value.slice.injEq] at h'
  exact h'.2.1
theorem IS.cell{w:World}{g cap n:Nat}{l:List Int}(h:IS w (.slice (some ⟨g,0,none⟩) n cap) l)(i:Nat)(hi:i<l.length):w.cell? ⟨g,i,none⟩=some (.int .i64 (l.getD i 0)):=by
 have e:=h.nlen
 subst e
 exact(World.ownsRow.cellAt h i (by omega)).trans (by simp[List.getD,hi])
theorem IS.frozen{w:World}{g cap n:Nat}{l:List Int}(h:IS w (.slice (some ⟨g,0,none⟩) n cap) l)(j:Nat):w.frozen? ⟨g,j,none⟩=false:=by
 have e:=h.nlen
 subst e
 exact World.ownsRow.frozenAt h j
theorem IS.lt{w:World}{v:Value}{l:List Int}(h:IS w v l){k:Nat}(hk:v.ownBlock=some k):k<w.heap.size:=(World.ownsRow.lt h k hk).2
theorem IS.glt{w:World}{g cap n:Nat}{l:List Int}(h:IS w (.slice (some ⟨g,0,none⟩) n cap) l):g<w.heap.size:=h.lt rfl
theorem IS.len{w:World}{v:Value}{l:List Int}(h:IS w v l):l.length≤maxLen:=by
 rcases h.2 with⟨rfl,h0⟩ | ⟨g',cap',cur,h',_,_,h1,h2,_⟩
 ·rw[h0];exact Nat.zero_le _
 ·exact Nat.le_trans h1 h2
theorem IS.box{w:World}{v:Value}{l:List Int}(h:IS w v l):∃ao cap,v=.slice ao l.length cap∧(0<l.length→∃g,ao=some ⟨g,0,none⟩∧v.ownBlock=some g):=by
 rcases h.form with⟨rfl,rfl⟩ | ⟨g,cap,rfl⟩
 ·exact⟨none,0,rfl,fun h=>by simp at h⟩
 ·exact⟨_,cap,rfl,fun _=>⟨g,rfl,rfl⟩⟩
theorem Z5l:(prog.info? 3).map (fun i=>(i.zero,i.size,i.bytes))=some (some (.int .i64 0),1,8):=by kernel_rfl
theorem IS.push(w:World)(v:Value)(l:List Int)(x:Int)(h:IS w v l)(hsm:l.length≤100000) :
  ∃v' w1,(Builtin.append_ #[25,25] 25 #[v,.slice (some ⟨w.heap.size,0,none⟩) 1 1]).run prog (w.alloc (.cells #[.int .i64 x] 3))=.ok v' w1∧IS w1 v' (l++[x])∧Zd (fun k=>v.ownBlock=some k) w w1 ∧
   (∀k,v'.ownBlock=some k→v.ownBlock=some k∨w.heap.size≤k)∧(∃g cap,v'=.slice (some ⟨g,0,none⟩) (l.length+1) cap):=by
 obtain⟨i0,hi,hz0,hz1,hz2⟩:=info_parts Z5l
 have ha:IS (w.alloc (.cells #[.int .i64 x] 3)) v l:=h.nw ((Nw.refl w).alloc _)
 have hc:(w.alloc (.cells #[.int .i64 x] 3)).cell? ⟨w.heap.size,0,none⟩=some (.int .i64 x):=by simp[go_sem]
 obtain⟨v',w1,hrun,ho,hg,hp⟩:=Ye (P:=prog) (w.alloc (.cells #[.int .i64 x] 3)) 0 25 25 3 i0 _ 1 8 underlying25 hi hz0 hz1 hz2 rfl (by decide) v l.length _ ha
  ⟨w.heap.size,0,none⟩ 1 1 [.int .i64 x] rfl (by
   intro j u hu
   match j,hu with
   | 0,hu=>simp at hu;subst hu;exact hc) (by simp[Value.oneCell']) (by unfold maxLen;omega) (by omega) (Nat.zero_le _)
 have hI:IS w1 v' (l++[x]):=by
  unfold IS
  rw[List.length_append,List.map_append]
  exact ho
 refine⟨v',w1,hrun,hI,(Zd.alloc (Zd.refl _ w) _).grown hg (fun k e=>.inl e),fun k e=>?_,?_⟩
 ·rcases hp with hp | hp
  ·exact .inl (hp▸e)
  ·rw[hp] at e
   simp at e
   exact .inr (by omega)
 ·rcases hI.form with⟨_,q⟩ | ⟨g,cap,rfl⟩
  ·simp at q
  ·exact⟨g,cap,by simp⟩
theorem Z38(g cap g' cap':Nat)(l:List Int)(w:World)(h:IS w (.slice (some ⟨g,0,none⟩) l.length cap) l)(h':IS w (.slice (some ⟨g',0,none⟩) l.length cap') l) :
  Calls prog 16 #[.slice (some ⟨g,0,none⟩) l.length cap,.slice (some ⟨g',0,none⟩) l.length cap'] w fun e w'=>e=.returned (.bool true)∧Nw w w':=by
 have hm:=h.len
 unfold maxLen at hm
 have H:=hD0 (aI0 h h')
 clear h h'
 go_enter func16,ntmps16
 go_wp2
 go_loopw [5] (fun i wr=>∃k:Nat,k≤l.length∧i=.int .i64 k∧Nw w wr) (fun i _=>l.length-(intOf i).toNat)
 case atStart=>exact⟨0,Nat.zero_le _,rfl,Nw.refl _⟩
 case round =>
  obtain⟨k,hk,rfl,hG⟩:=hrel
  by_cases hlt:k<l.length
  ·have c0:=(H.out.1.nw hG).cell k hlt
   have d0:=(H.out.2.nw hG).cell k hlt
   generalize l.getD k 0=x at *
   go_wp2_with fail
   go_quiet (fail)
   go_wp2
   go_roundw
   case rel=>exact⟨k+1,by omega,by go_num,hG.drewN _⟩
   case measure=>simp[intOf];omega
  ·go_wp2
   go_ret
   exact⟨rfl,hG⟩
theorem U9(w:World)(v v':Value)(h:(v=.slice none 0 0)∨∃g cap,v=.slice (some ⟨g,0,none⟩) 0 cap)(h':(v'=.slice none 0 0)∨∃g cap,v'=.slice (some ⟨g,0,none⟩) 0 cap) :
  Calls prog 16 #[v,v'] w fun e w'=>e=.returned (.bool true)∧Nw w w':=by
 rcases h with rfl | ⟨g,cap,rfl⟩<;>rcases h' with rfl | ⟨g',cap',rfl⟩
 all_goals
  go_enter func16,ntmps16
  go_wp2
  refine wp_loop_rounds 1 ?_
  repeat (rw[rounds_succ];go_wp2)
  go_ret
  exact⟨rfl,Nw.refl _⟩
theorem U8(w:World)(v v':Value)(l:List Int)(h:IS w v l)(h':IS w v' l) :
  Calls prog 16 #[v,v'] w fun e w'=>e=.returned (.bool true)∧Nw w w':=by
 rcases h.form with⟨rfl,rfl⟩ | ⟨g,cap,rfl⟩
 ·rcases h'.form with⟨rfl,_⟩ | ⟨g',cap',rfl⟩
  ·exact U9 w _ _ (.inl rfl) (.inl rfl)
  ·exact U9 w _ _ (.inl rfl) (.inr ⟨_,_,rfl⟩)
 ·rcases h'.form with⟨rfl,rfl⟩ | ⟨g',cap',rfl⟩
  ·exact U9 w _ _ (.inr ⟨_,_,rfl⟩) (.inl rfl)
  ·exact Z38 g cap g' cap' l w h h'
theorem Z43(n m:Int)(hm:0<m):-m<n.tmod m∧n.tmod m<m:=by
 refine⟨?_,Int.tmod_lt_of_pos n hm⟩
 have:=Int.tmod_lt_of_pos (-n) hm
 rw[Int.neg_tmod] at this;omega
theorem Z44(n m:Int)(hm:0<m):n%m=if n.tmod m<0 then n.tmod m+m else n.tmod m:=by
 have h1:n.tmod m+m*n.tdiv m=n:=Int.tmod_add_mul_tdiv n m
 have h2:=Z43 n m hm
 generalize n.tmod m=r at *
 generalize n.tdiv m=q at *
 subst h1
 rw[Int.add_mul_emod_self_left]
 by_cases h:r<0
 ·rw[if_pos h,←Int.add_emod_right,Int.emod_eq_of_lt (by omega) (by omega)]
 ·rw[if_neg h,Int.emod_eq_of_lt (by omega) (by omega)]
theorem Z2g{k:IntKind}{a b:Int}(h:a=b):Ending.returned (.int k a)=.returned (.int k b):=by rw[h]
theorem Z16(n m:Int)(w:World)(hm:0<m)(hm':m≤9223372036854775807) :
  Calls prog 13 #[.int .i64 n,.int .i64 m] w fun e w'=>e=.returned (.int .i64 (n%m))∧w=w':=by
 have hr:=hD0 (Z44 n m hm)
 obtain⟨b1,b2⟩:=Z43 n m hm
 by_cases hneg:n.tmod m<0
 ·go_enter func13,ntmps13
  go_wp2
  go_ret
  exact⟨Z2g (by rw[hr.out,if_pos hneg]),rfl⟩
 ·go_enter func13,ntmps13
  go_wp2
  go_ret
  exact⟨Z2g (by rw[hr.out,if_neg (by omega)]),rfl⟩
def Zh(a:Int × Int):List Value:=[.int .i64 a.1,.int .i64 a.2]
abbrev egV(e:Int × Int):Value:=.agg #[.int .i64 e.1,.int .i64 e.2]
theorem Yw:Uf prog 22 29 2 16 Zh where
 und:=underlying22
 inf:=by
  have h:(prog.info? 29).map (fun i=>(i.zero,i.size,i.bytes))=some (some (.agg #[.int .i64 0,.int .i64 0]),2,16):=by kernel_rfl
  cases e:prog.info? 29 with
  | none=>rw[e] at h;cases h
  | some i =>
   rw[e] at h
   simp only[Option.map_some,Option.some.injEq,Prod.mk.injEq] at h
   exact⟨i,_,rfl,h.1,h.2.1,h.2.2,rfl⟩
 pos:=by decide
 byt:=by decide
 len:=fun _=>rfl
 one:=fun a u hu=>by
  simp only[Zh,List.mem_cons,List.not_mem_nil,or_false] at hu
  rcases hu with rfl | rfl<;>rfl
abbrev Zb(w:World)(g0:Nat)(v:Value)(l:List (Int × Int)):Prop:=Y5 29 2 Zh w g0 v l
abbrev Zt(w:World)(v:Value)(l:List (Int × Int)):Prop:=Rd 2 Zh w v l
theorem Zb.at_{w:World}{g0:Nat}{v:Value}{l:List (Int × Int)}(h:Zb w g0 v l):Zt w v l:=Y5.rd (fun _=>rfl) h
theorem RdC.eg{w:World}{b o:Nat}{l:List (Int × Int)}(h:RdC 2 Zh w b o l){i:Nat}(hi:i<l.length):w.cell? ⟨b,o+i*2,none⟩=some (.int .i64 l[i].1)∧w.cell? ⟨b,o+i*2+1,none⟩=some (.int .i64 l[i].2) :=
 ⟨h.cell i hi 0 _ rfl,h.cell i hi 1 _ rfl⟩
theorem Z3n(v:Value)(q:List (Int × Int))(w:World)(hl:q.length≤100000)(h:Zt w v q) :
  Calls prog 34 #[v] w fun e w'=>∃v',e=.returned v'∧Nw w w'∧Zb w' w.heap.size v' q:=by
 obtain⟨v',w1,hrun,hO,hN⟩:=Z34 Yw h hl
 obtain⟨a,c,rfl,h⟩:=h
 have en:=fun(w:World) (a:Option Addr) (n c n' c':Nat)=>Lib.run_eql_slice_nil (P:=prog) w 22 29 a n c n' c' underlying22
 have HR:=hD0 hrun
 have HO:=hD0 (aI0 hN hO)
 clear hrun hO hN
 cases a with
 | none =>
  rcases h with⟨rfl,h0⟩ | ⟨b,o,e,_⟩
  ·obtain rfl:=h0 rfl
   go_enter func34,ntmps34
   go_wp2
   go_ret
   exact⟨_,rfl,Nw.refl _,World.ownsRow_nil _ _ _ _⟩
  ·cases e
 | some ad =>
  clear h
  go_enter func34,ntmps34
  go_wp2_with (at_builtin;refine Zc (by rfl) (.tmp 5) (.tmp 6) 22 rfl _ _ _ _ rfl rfl HR.out ?_)
  go_ret
  exact⟨_,rfl,HO.out.1,HO.out.2⟩
theorem Z63{E:List (Int × Int)}{v:Int}{i:Nat}(hi:i≤E.length)(h1:∀k (hk:k<E.length),k<i→E[k].1<v)(h2:∀(h:i<E.length),v≤E[i].1):V9 E v=i:=by
 rcases Nat.lt_trichotomy (V9 E v) i with q | q | q
 ·have hs:V9 E v<E.length:=by omega
  have:¬E[V9 E v].1<v:=by
   have key:∀ {l:List (Int × Int)} (h:(l.takeWhile fun e=>decide (e.1<v)).length<l.length),¬(l[(l.takeWhile fun e=>decide (e.1<v)).length]).1<v:=by
    intro l
    induction l with
    | nil=>intro h;simp at h
    | cons a t ih =>
     intro h
     by_cases c:a.1<v
     ·have e:((a::t).takeWhile fun e=>decide (e.1<v))=a::(t.takeWhile fun e=>decide (e.1<v)):=by rw[List.takeWhile_cons,if_pos (by simpa using c)]
      have h':(t.takeWhile fun e=>decide (e.1<v)).length<t.length:=by rw[e] at h;simpa using h
      have:=ih h'
      simpa [e] using this
     ·have e:((a::t).takeWhile fun e=>decide (e.1<v))=[]:=by rw[List.takeWhile_cons,if_neg (by simpa using c)]
      simpa [e] using c
   exact key hs
  exact absurd (h1 _ hs q) this
 ·exact q
 ·have hil:i<E.length:=lL0 q (Z0g E v)
  have:=Vh q (List.getElem?_eq_getElem hil)
  have:=h2 hil
  omega
theorem Z6i{E:List (Int × Int)}(hs:Zg E){i j:Nat}(hij:i≤j)(hi:i<E.length)(hj:j<E.length):E[i].1≤E[j].1:=by
 rcases Nat.lt_or_eq_of_le hij with q | q
 ·have:=List.pairwise_iff_getElem.1 hs i j hi hj q
  unfold Vw at this
  omega
 ·subst q;exact Int.le_refl _
theorem Z6n(t:Nat)(h:t≤1000000):wrap64 ((t:Int)+1)=((t+1:Nat):Int):=by unfold wrap64;omega
theorem Z65(i j:Nat)(h:i≤1000000)(k:j≤1000000):wrap64 ((i:Int)+(j:Int))=(i:Int)+(j:Int):=by unfold wrap64;omega
theorem Z3m{i j i' j':Nat}(h:j'-i'<j-i):(intOf (.int .i64 (j':Int))).toNat-(intOf (.int .i64 (i':Int))).toNat<(intOf (.int .i64 (j:Int))).toNat-(intOf (.int .i64 (i:Int))).toNat:=by
 simpa [intOf] using h
theorem Y8{a b:Nat}(h:a<b):(a:Int)<(b:Int):=Int.ofNat_lt.2 h
theorem Z4u{a b:Nat}(h:a<b):decide ((a:Int)<(b:Int))=true∧decide (a<b)=true:=⟨decide_eq_true (Int.ofNat_lt.2 h),decide_eq_true h⟩
theorem Z3l{a b:Nat}(h:¬a<b):decide ((a:Int)<(b:Int))=false∧decide (a<b)=false:=⟨decide_eq_false (fun q=>h (Int.ofNat_lt.1 q)),decide_eq_false h⟩
theorem Yv(t m:Nat)(h:t≤1000000)(h0:t=m+1):IntKind.i64.wrap ((t:Int)-1)=(m:Int):=by rw[IntKind.wrap_i64];omega
theorem Yi(t m:Nat)(h:t≤1000000)(h0:m=t+1):IntKind.i64.wrap ((t:Int)+1)=(m:Int):=by rw[IntKind.wrap_i64];omega
theorem Z70{t m:Nat}(h0:t=m+1):(intOf (.int .i64 (m:Int))).toNat<(intOf (.int .i64 (t:Int))).toNat:=by
 show(m:Int).toNat<(t:Int).toNat
 omega
theorem Z2f{a b:Nat}(h:a<b):∃c,b=c+1∧a≤c∧c<b:=⟨b-1,by omega,by omega,by omega⟩
theorem Ya{n t:Nat}(h:t<n):n-(intOf (.int .i64 ((t+1:Nat):Int))).toNat<n-(intOf (.int .i64 (t:Int))).toNat:=by
 show n-((t+1:Nat):Int).toNat<n-(t:Int).toNat
 omega
section
open Go.RowKit Go.Maps Go.ChangeMaps
def Z4(k:Int):Prop:=-9223372036854775808≤k∧k≤9223372036854775807
def Vt:Value→Option (DataW Unit × List MemPlace)
 | .int .i64 x=>some (.lit (.int .i64 x),[])
 | _=>none
theorem Zn(x:Int):Vt (.int .i64 x)=some (.lit (.int .i64 x),[]):=rfl
theorem Zm{v:Value}{x:Int}{ps:List MemPlace}(h:Vt v=some (.lit (.int .i64 x),ps)):v=.int .i64 x:=by
 unfold Vt at h
 split at h
 ·injection h with h
  injection h with h1 _
  injection h1 with h1
  injection h1 with _ h1
  rw[h1]
 ·cases h
theorem U0:Keyed prog 3:=int_keyed underlying3
theorem Z0c{k:Int}(h:Z4 k):keyOf prog 3 (.int .i64 k)=some (.int .i64 k):=keyOf_int_mk underlying3 (WalkArith.wf_i64 h)
theorem Z0a{k:Int}(h:Z4 k):WideAt.IsKeyLit (.int .i64 k):=U0.key (Z0c h)
theorem Z4l(w:World):(zeroValue 3).run prog w=.ok (.int .i64 0) w:=by kernel_rfl
theorem Vr{a b:Int}(h:a≠b):(Lit.int .i64 a)≠.int .i64 b:=fun e=>h (by injection e)
theorem Z4f{w:World}{b n:Nat}{D:DataW Unit}{R:Value→Option (DataW Unit × List MemPlace)}(h:w.ownsMap prog 3 R b n D):w.ownsMap prog 3 R b (Maps.size D) D:=by
 obtain⟨es,clock,e1,e2,e3,e4⟩:=h
 exact⟨es,clock,e1,e2,by rw[e4];simp[Maps.size,length_sorted],e4⟩
def Za(w:World)(b:Nat)(f:Int→Option Int)(N:Nat):Prop :=
 ∃D:DataW Unit,w.ownsMap prog 3 Vt b (Maps.size D) D∧(∀k,Maps.has D (.int .i64 k)=(f k).isSome)∧(∀k x z,f k=some x→D.atKey (.int .i64 k) z=.lit (.int .i64 x))∧Maps.size D≤N
section
variable {w w':World} {b N:Nat} {f:Int→Option Int}
theorem Za.kept{row:Option Nat}(h:Za w b f N)(hg:w.grownBy w' row)(hne:some b≠row):Za w' b f N:=by
 obtain⟨D,h1,h2⟩:=h
 exact⟨D,h1.kept hg hne,h2⟩
theorem Za.nw(h:Za w b f N)(g:Nw w w'):Za w' b f N:=h.kept (g.grownBy none) (by simp)
theorem Za.tch{S:Nat→Prop}(h:Za w b f N)(g:Zd S w w')(hn:¬S b):Za w' b f N:=by
 obtain⟨D,⟨es,clock,hb,F,hs,hD⟩,h2⟩:=h
 exact⟨D,⟨es,clock,(g.block b (Array.getElem?_eq_some_iff.1 hb).1 hn).trans hb,F,hs,hD⟩,h2⟩
theorem Za.obj(h:Za w b f N):∃es c,w.heap[b]?=some (.map es c):=by obtain⟨D,⟨es,c,h,_⟩,_⟩:=h;exact⟨es,c,h⟩
theorem Za.le(h:Za w b f N){M:Nat}(hM:N≤M):Za w b f M:=by
 obtain⟨D,h1,h2,h3,h4⟩:=h
 exact⟨D,h1,h2,h3,Nat.le_trans h4 hM⟩
theorem Za.made(w:World):Za (w.alloc (.map #[] 0)) w.heap.size (fun _=>none) 0 :=
 ⟨.map [],(World.ownsMap_made _ _ _ _).mono (Nat.zero_le _),fun _=>rfl,(fun _ _ _ h=>nomatch h),Nat.le_refl _⟩
theorem Za.look_no(h:Za w b f N){k:Int}(hk:Z4 k)(hc:f k=none) :
  (Instr.lookup 54 (.map (some b)) (.int .i64 k) true).run prog w=.ok (.tuple #[.int .i64 0,.bool false]) w:=by
 obtain⟨D,o,h2,h3,_⟩:=h
 obtain⟨v,ps,hr,hv⟩:=o.look_ok (t:=54) U0 underlying54 (Z4l w) (Zn 0) (Z0c hk)
 have hh:=h2 k
 rw[hc] at hh
 rw[atKey_of_not_has hh] at hv
 rw[Zm hv,hh] at hr
 exact hr
theorem Za.look_yes(h:Za w b f N){k x:Int}(hk:Z4 k)(hc:f k=some x) :
  (Instr.lookup 54 (.map (some b)) (.int .i64 k) true).run prog w=.ok (.tuple #[.int .i64 x,.bool true]) w:=by
 obtain⟨D,o,h2,h3,_⟩:=h
 obtain⟨v,ps,hr,hv⟩:=o.look_ok (t:=54) U0 underlying54 (Z4l w) (Zn 0) (Z0c hk)
 have hh:=h2 k
 rw[hc] at hh
 rw[h3 k x _ hc] at hv
 rw[Zm hv,hh] at hr
 exact hr
theorem Za.look_val(h:Za w b f N){k x:Int}(hk:Z4 k)(hc:f k=some x) :
  (Instr.lookup 54 (.map (some b)) (.int .i64 k) false).run prog w=.ok (.int .i64 x) w:=by
 obtain⟨D,o,h2,h3,_⟩:=h
 obtain⟨v,ps,hr,hv⟩:=o.lookup (t:=54) U0 underlying54 (Z4l w) (Zn 0) (Z0c hk)
 rw[h3 k x _ hc] at hv
 rw[Zm hv] at hr
 exact hr
theorem Za.put'(h:Za w b f N)(hn:N<1000000){k:Int}(hk:Z4 k)(x:Int) :
  ∃w',(Instr.mapUpdate 54 (.map (some b)) (.int .i64 k) (.int .i64 x)).run prog w=.ok () w'∧Za w' b (Zf f k x) (if (f k).isSome=true then N else N+1)∧w.grownBy w' (some b):=by
 obtain⟨D,o,h2,h3,h4⟩:=h
 obtain⟨w',hr,o',hg⟩:=o.update (t:=54) U0 underlying54 (by unfold maxLen;omega) (Z0c hk) (Zn x)
 have hsz:=size_put (k:=.int .i64 k) (o.tidy U0) (.lit (.int .i64 x))
 rw[h2 k] at hsz
 refine⟨w',hr,⟨D.put (.int .i64 k) (.lit (.int .i64 x)),Z4f o',fun y=>?_,fun y u z hy=>?_,?_⟩,hg⟩
 ·by_cases q:y=k
  ·subst q
   rw[has_put_same o.isMap (Z0a hk),Zr];rfl
  ·rw[has_put_other (Vr q),h2 y,Zo _ _ q]
 ·by_cases q:y=k
  ·subst q
   rw[Zr] at hy
   injection hy with hy
   subst hy
   exact atKey_put_same o.isMap (Z0a hk) _ _
  ·rw[Zo _ _ q] at hy
   rw[atKey_put_other (Vr q)]
   exact h3 y u z hy
 ·rw[hsz]
  split<;>omega
theorem Za.put(h:Za w b f N)(hn:N<1000000){k:Int}(hk:Z4 k)(x:Int) :
  ∃w',(Instr.mapUpdate 54 (.map (some b)) (.int .i64 k) (.int .i64 x)).run prog w=.ok () w'∧Za w' b (Zf f k x) (N+1)∧w.grownBy w' (some b):=by
 obtain⟨w',h1,h2,h3⟩:=h.put' hn hk x
 exact⟨w',h1,h2.le (by split<;>omega),h3⟩
theorem Za.set(h:Za w b f N)(hn:N<1000000){k:Int}(hk:Z4 k)(x:Int)(hs:f k≠none) :
  ∃w',(Instr.mapUpdate 54 (.map (some b)) (.int .i64 k) (.int .i64 x)).run prog w=.ok () w'∧Za w' b (Zf f k x) N∧w.grownBy w' (some b):=by
 obtain⟨w',h1,h2,h3⟩:=h.put' hn hk x
 refine⟨w',h1,h2.le ?_,h3⟩
 cases e:f k with
 | none=>exact absurd e hs
 | some y=>simp
end
end
section
open Go.RowKit Go.Maps Go.ChangeMaps
theorem Z25(w:World):(zeroValue 2).run prog w=.ok (.int .i64 0) w:=by kernel_rfl
section
variable {w w':World} {b N:Nat} {f:Int→Option Int}
theorem Za.look64_no(h:Za w b f N){k:Int}(hk:Z4 k)(hc:f k=none) :
  (Instr.lookup 49 (.map (some b)) (.int .i64 k) true).run prog w=.ok (.tuple #[.int .i64 0,.bool false]) w:=by
 obtain⟨D,o,h2,h3,_⟩:=h
 obtain⟨v,ps,hr,hv⟩:=o.look_ok (t:=49) U0 underlying49 (Z25 w) (Zn 0) (Z0c hk)
 have hh:=h2 k
 rw[hc] at hh
 rw[atKey_of_not_has hh] at hv
 rw[Zm hv,hh] at hr
 exact hr
theorem Za.look64_yes(h:Za w b f N){k x:Int}(hk:Z4 k)(hc:f k=some x) :
  (Instr.lookup 49 (.map (some b)) (.int .i64 k) true).run prog w=.ok (.tuple #[.int .i64 x,.bool true]) w:=by
 obtain⟨D,o,h2,h3,_⟩:=h
 obtain⟨v,ps,hr,hv⟩:=o.look_ok (t:=49) U0 underlying49 (Z25 w) (Zn 0) (Z0c hk)
 have hh:=h2 k
 rw[hc] at hh
 rw[h3 k x _ hc] at hv
 rw[Zm hv,hh] at hr
 exact hr
theorem Za.look64(h:Za w b f N){k:Int}(hk:Z4 k) :
  (Instr.lookup 49 (.map (some b)) (.int .i64 k) false).run prog w=.ok (.int .i64 ((f k).getD 0)) w:=by
 obtain⟨D,o,h2,h3,_⟩:=h
 obtain⟨v,ps,hr,hv⟩:=o.lookup (t:=49) U0 underlying49 (Z25 w) (Zn 0) (Z0c hk)
 cases hc:f k with
 | none =>
  have hh:=h2 k
  rw[hc] at hh
  rw[atKey_of_not_has hh] at hv
  rw[Zm hv] at hr
  exact hr
 | some x =>
  rw[h3 k x _ hc] at hv
  rw[Zm hv] at hr
  exact hr
theorem Za.put64(h:Za w b f N)(hn:N<1000000){k:Int}(hk:Z4 k)(x:Int) :
  ∃w',(Instr.mapUpdate 49 (.map (some b)) (.int .i64 k) (.int .i64 x)).run prog w=.ok () w'∧Za w' b (Zf f k x) (N+1)∧w.grownBy w' (some b):=by
 obtain⟨D,o,h2,h3,h4⟩:=h
 obtain⟨w',hr,o',hg⟩:=o.update (t:=49) U0 underlying49 (by unfold maxLen;omega) (Z0c hk) (Zn x)
 have hsz:=size_put (k:=.int .i64 k) (o.tidy U0) (.lit (.int .i64 x))
 rw[h2 k] at hsz
 refine⟨w',hr,⟨D.put (.int .i64 k) (.lit (.int .i64 x)),Z4f o',fun y=>?_,fun y u z hy=>?_,?_⟩,hg⟩
 ·by_cases q:y=k
  ·subst q
   rw[has_put_same o.isMap (Z0a hk),Zr];rfl
  ·rw[has_put_other (Vr q),h2 y,Zo _ _ q]
 ·by_cases q:y=k
  ·subst q
   rw[Zr] at hy
   injection hy with hy
   subst hy
   exact atKey_put_same o.isMap (Z0a hk) _ _
  ·rw[Zo _ _ q] at hy
   rw[atKey_put_other (Vr q)]
   exact h3 y u z hy
 ·rw[hsz]
  split<;>omega
end
def Yg(l:List (Int × Int))(t:Int):Option Int:=(l.find? fun e=>e.1==t).map (·.2)
theorem Z3s(l:List (Int × Int))(t:Int):(Yg l t).getD 0=Yb l t:=by
 induction l with
 | nil=>rfl
 | cons e r ih =>
  unfold Yg Yb
  unfold Yg at ih
  rw[List.find?_cons]
  by_cases q:e.1=t
  ·rw[if_pos q,show(e.1==t)=true by simpa using q]
   rfl
  ·rw[if_neg q,show(e.1==t)=false by simpa using q]
   exact ih
theorem Z3t{l:List (Int × Int)}{e:Int × Int}{x:Int}(h:Yg l e.1=some x):Yg (l++[e])=Yg l:=by
 funext t
 unfold Yg at h ⊢
 rw[List.find?_append]
 cases hf:l.find? (fun e=>e.1==t) with
 | some y=>rfl
 | none =>
  by_cases q:e.1=t
  ·rw[q,hf] at h;cases h
  ·have:[e].find? (fun e=>e.1==t)=none:=by
    rw[List.find?_cons,show(e.1==t)=false by simpa using q];rfl
   rw[this];rfl
theorem Z4y{l:List (Int × Int)}{e:Int × Int}(h:Yg l e.1=none):Yg (l++[e])=Zf (Yg l) e.1 e.2:=by
 funext t
 unfold Zf
 unfold Yg at h ⊢
 rw[List.find?_append]
 by_cases q:t=e.1
 ·subst q
  rw[if_pos rfl]
  rw[Option.map_eq_none_iff] at h
  rw[h]
  have:[e].find? (fun x=>x.1==e.1)=some e:=by simp
  rw[this];rfl
 ·rw[if_neg q]
  have:[e].find? (fun e=>e.1==t)=none:=by
   rw[List.find?_cons,show(e.1==t)=false by simpa using fun k=>q k.symm];rfl
  rw[this]
  simp
end
theorem Zp{P:Program}{w:World}{ops:Array Oper}{rest:List Oper}{o:Oper}{a:Act}{Q:Exit→Act→World→Prop}
  (hg:o.guard=none) (m x u:Operand) (t:TypeId) (hop:o.op=Op.mapUpdate t m x u) (M K V:Value) (w':World) (hm:a.eval m=M) (hx:a.eval x=K) (hu:a.eval u=V)
  (hr:(Instr.mapUpdate t M K V).run P w=.ok () w') (h:wpList P ops Q rest (a.put o.dst undef) w'):wpList P ops Q (o::rest) a w:=by
 refine wpList_plain hg fun K' hK'=>?_
 unfold Oper.wp
 simp[execOp,hop,hm,hx,hu,hr,Result.andThen]
 exact hK' _ _ h
open Go.Shelf
section
structure KpS(S:Nat→Prop)(A B:World):Prop where
 size:A.heap.size≤B.heap.size
 same:∀k,S k→B.heap[k]?=A.heap[k]?
structure Ch'(n₀:Nat)(S:Nat→Prop)(A B:World):Prop where
 os:B.os=A.os
 tape:B.tape=A.tape
 output:B.output=A.output
 size:A.heap.size≤B.heap.size
 block:∀k,k<A.heap.size→¬S k→B.heap[k]?=A.heap[k]?∨((k=n₀∨k=n₀+1)∧∃o,A.heap[k]?=some o∧o.isCells=false)
variable {F:Fence} {n:Nat} {P:Program}
end
section
open Go.ChangeShapes Go.WideShapes Go.ChangeAt Go.RowKit
def Z77:List Int:=[0,1,2,3,4,5,6,1,1,2,3,4,5,6,2,2,2,4,4,6,6,3,3,4,3,4,5,6,4,4,4,4,4,6,6,5,5,6,5,6,5,6,6,6,6,6,6,6,6]
def Z78(a b:Int):Int:=Z77.getD (a.toNat*7+b.toNat) 0
def Z6y:List Bool:=[true,true,true,true,true,true,true,true,true,true,true,true,true,false,true,true,true,false,false,false,false,true,true,false,true,false,true,false,true,true,false,false,false,false,false,true,true,false,true,false,false,false,true,false,false,false,false,false,false]
def Z6z(a b:Int):Bool:=Z6y.getD (a.toNat*7+b.toNat) false
end
structure Rq where
 id:Int
 txn:Int
 md:Int
 wt:Int
 sn:Int
def knI(m:Int):Bool:=decide (0≤m)&&decide (m<7)
def cpI(a b:Int):Bool:=(knI a&&knI b)&&Z6z a b
def cvI(a b:Int):Bool:=(knI a&&knI b)&&(Z78 a b==a)
structure Rt(W:Int)(r:Rq):Prop where
 id:0≤r.id
 md:knI r.md=true
 wt:knI r.wt=true
 s0:0≤r.sn
 sW:r.sn≤W
 w:0<r.sn→cvI r.md r.wt=false
 h:r.sn=0→r.md≠0∧r.wt=r.md
structure Pr(a b:Rq):Prop where
 id:a.id≠b.id
 txn:a.txn≠b.txn
 sn:0<a.sn→a.sn≠b.sn
 ord:a.md=0→b.md=0∧a.sn<b.sn
 cp:a.md≠0→b.md≠0→cpI a.md b.md=true
structure Ok(W:Int)(q:List Rq):Prop where
 w0:0≤W
 wB:W≤4611686018427387904
 rt:∀r∈q,Rt W r
 pr:q.Pairwise Pr
def blk(r o:Rq):Bool:=((o.md != 0)&&!cpI o.md r.wt) || ((o.md != 0)&&decide (0<o.sn)&&((r.md==0) || decide (o.sn<r.sn))) || ((r.md==0)&&(o.md==0)&&decide (o.sn<r.sn))
def Z6c(q:List Rq)(r:Rq):Bool:=decide (0<r.sn)&&q.all fun o=>(o.id==r.id) || !blk r o
def chg(f:Rq→Rq)(id:Int)(q:List Rq):List Rq:=q.map fun r=>if r.id=id then f r else r
def Z72(r:Rq):Rq:=⟨r.id,r.txn,r.wt,r.wt,0⟩
def has(q:List Rq)(id:Int):Bool:=q.any fun r=>r.id==id
def fnd(q:List Rq)(id:Int):Option Rq:=q.find? fun r=>r.id==id
section
variable {W:Int} {q:List Rq}
end
section
variable {W:Int} {q:List Rq}
def Z6r(q:List Rq):Prop:=∀r∈q,Z6c q r=false
inductive Steps (q0:List Rq):List Int→List Rq→Prop
 | refl:Steps q0 [] q0
 | snoc {ids:List Int} {q:List Rq} {r:Rq} (h:Steps q0 ids q) (hr:r∈q) (hc:Z6c q r=true):Steps q0 (ids++[r.id]) (chg Z72 r.id q)
end
structure Hq where
 t:Int
 r:Int
 W:Int
 q:List Rq
def Z6l(n:Int):List Int→List Int
 | []=>[n]
 | a::r=>if a<n then a::Z6l n r else if a=n then a::r else n::a::r
def Z6w(q:List Rq)(r:Rq):List Int:=(q.filter fun o=>!(o.id==r.id)&&blk r o).foldl (fun l o=>Z6l o.txn l) []
def Z6x(q:List Rq)(id:Int):List Int:=match fnd q id with
 | none=>[]
 | some r=>if 0<r.sn then Z6w q r else[]
structure Z6s(h:Hq):Prop where
 ok:Ok h.W h.q
 done:Z6r h.q
def Z73(q:List Rq):List Int:=q.map fun r=>r.id
def Z75(L:List Bool)(k:Nat):List Nat:=(List.range k).filter fun i=>L.getD i false
def lnt(L:List Bool):List Nat:=Z75 L L.length
def liv(L:List Bool):Nat:=L.countP id
def Z6e(l:List Nat):List Int:=l.map fun n:Nat=>(n:Int)
def nlt(a b:Int × Int):Prop:=a.1<b.1∨(a.1=b.1∧a.2<b.2)
instance (a b:Int × Int):Decidable (nlt a b):=by unfold nlt;infer_instance
theorem Z50(a:Int × Int):¬nlt a a:=by unfold nlt;omega
theorem Z5w{a b c:Int × Int}(h:nlt a b)(k:nlt b c):nlt a c:=by unfold nlt at *;omega
def nmH(h:Hq):Int × Int:=(h.t,h.r)
abbrev Z6v(hs:List Hq):Prop:=hs.Pairwise fun a b=>nlt (nmH a) (nmH b)
def Z71(hs:List Hq)(nm:Int × Int):Option Hq:=hs.find? fun h=>decide (nmH h=nm)
def Z5n(hs:List Hq):List Int:=hs.flatMap fun h=>Z73 h.q
structure Z7b(most k:Nat)(hs:List Hq)(X:List Int)(L:List Bool):Prop where
 srt:Z6v hs
 len:hs.length≤most
 inv:∀h∈hs,Z6s h
 ne:∀h∈hs,h.q≠[]
 ids:(Z5n hs++X).Perm (Z6e (lnt L))
 wt:∀h∈hs,h.W≤k
 ql:∀h∈hs,h.q.length≤k
section
open Go.RowKit Go.Maps Go.ChangeMaps Go.WideShapes
structure Two(P:Program)(k i:TypeId):Prop where
 st : ∃ fs, P.underlying k = some (.struct fs) ∧ (∃ f g, fs.toList = [f, g] ∧ f.type = i ∧ g.type = i ∧ f.offset = 0 ∧ g.offset = 1) ∧ fs.all (·.name != "_") = true
 un:P.underlying i=some (.int .i64)
 ck:P.cellsOf k=2
 ci:P.cellsOf i=1
 sz:∃m,P.types.size=m+1
 kt:P.keyType k=true
end
section
open Go.RowKit Go.Maps Go.ChangeMaps Go.WideShapes
structure Hp where
 h:Hq
 p:Nat
 a:Option Addr
 c:Nat
variable {w w':World} {mb:Nat} {l:List Hp}
end
def Z5k(most:Nat)(hs:List Hq)(L:List Bool)(t r:Int):Prop:=(Z71 hs (t,r)=none∧most≤hs.length)∨L.length≤liv L
instance (most:Nat) (hs:List Hq) (L:List Bool) (t r:Int):Decidable (Z5k most hs L t r):=by unfold Z5k;infer_instance
def Z6b(m:Int):Prop:=m=0∨knI m=false
instance (m:Int):Decidable (Z6b m):=by unfold Z6b;infer_instance
section
attribute [local go_sem] Oper.semAt_some
structure BxI{α:Type}(T sz:Nat)(row:α→List Value)(w:World)(c:Nat)(S0 S:Nat→Prop)(v:Value)(pre:List α)(A:World):Prop where
 cell:A.cell? ⟨c,0,none⟩=some v
 froz:A.frozen? ⟨c,0,none⟩=false
 own:Y5 T sz row A (c+1) v pre
 row:∀k,v.ownBlock=some k→¬S k
 box:¬S c
 sub:∀k,S k→S0 k∨w.heap.size≤k
 nw:Nw w A
end
def cP(a b:Int):Int:=if a<b then -1 else if b<a then 1 else 0
theorem Z3i(a b:Int)(h:a<b):cP a b = -1:=if_pos h
theorem Z5i(a b:Int)(h:b<a):cP a b=1:=by unfold cP;rw[if_neg (by omega),if_pos h]
theorem Z5h(a:Int):cP a a=0:=by unfold cP;simp
theorem Z0b(a:Int)(w:World):Calls prog 39 #[.int .i64 a] w fun e w'=>e=.returned (.bool false)∧w=w':=by
 go_enter func39,ntmps39
 go_wp2
 go_ret
 exact⟨rfl,rfl⟩
theorem Vv(a b:Int)(w:World):Calls prog 27 #[.int .i64 a,.int .i64 b] w fun e w'=>e=.returned (.int .i64 (cP a b))∧w=w':=by
 rcases Int.lt_trichotomy a b with h | h | h
 ·rw[Z3i a b h]
  have hd:decide (a<b)=true:=by simpa using h
  go_enter func27,ntmps27
  go_wp2_with (go_at_call 39;refine(Z0b _ _).mono ?_;rintro e w' ⟨rfl,rfl⟩)
  go_ret
  exact⟨rfl,rfl⟩
 ·subst h
  rw[Z5h a]
  go_enter func27,ntmps27
  go_wp2_with (go_at_call 39;refine(Z0b _ _).mono ?_;rintro e w' ⟨rfl,rfl⟩)
  go_ret
  exact⟨rfl,rfl⟩
 ·rw[Z5i a b h]
  have hd:decide (a<b)=false:=by simp;omega
  have hd2:decide (b<a)=true:=by simpa using h
  go_enter func27,ntmps27
  go_wp2_with (go_at_call 39;refine(Z0b _ _).mono ?_;rintro e w' ⟨rfl,rfl⟩)
  go_ret
  exact⟨rfl,rfl⟩
def orP(x y:Int):Int:=if x=0 then y else x
theorem Z6j(b:Nat)(x y:Int)(w:World)(h0:w.cell? ⟨b,0,none⟩=some (.int .i64 x))(h1:w.cell? ⟨b,1,none⟩=some (.int .i64 y)) :
  Calls prog 25 #[.slice (some ⟨b,0,none⟩) 2 2] w fun e w'=>e=.returned (.int .i64 (orP x y))∧w=w':=by
 by_cases hx:x=0
 ·subst hx
  by_cases hy:y=0
  ·subst hy
   go_enter func25,ntmps25
   go_wp2
   refine wp_loop_rounds 3 ?_
   rw[rounds_succ]
   go_wp2
   rw[rounds_succ]
   go_wp2
   rw[rounds_succ]
   go_wp2
   go_ret
   exact⟨rfl,rfl⟩
  ·have hy':(y==0)=false:=by simpa using hy
   have hy2:(y != 0)=true:=by simpa using hy
   go_enter func25,ntmps25
   go_wp2
   refine wp_loop_rounds 3 ?_
   rw[rounds_succ]
   go_wp2
   rw[rounds_succ]
   go_wp2
   go_ret
   exact⟨rfl,rfl⟩
 ·have hx':(x==0)=false:=by simpa using hx
  have hx2:(x != 0)=true:=by simpa using hx
  have e:orP x y=x:=if_neg hx
  rw[e]
  clear hx e
  go_enter func25,ntmps25
  go_wp2
  refine wp_loop_rounds 3 ?_
  rw[rounds_succ]
  go_wp2
  go_ret
  exact⟨rfl,rfl⟩
theorem opH{P:Program}{ops:Array Oper}{Q:Exit→Act→World→Prop}{i:Nat}{o:Oper}{K:Act→World→Prop}{a:Act}{w:World}(ho:ops[i]?=some o)
  (h:∀K':Act→World→Prop,(∀a w,K a w→K' a w)→if Region.wanted o (yielded ops a.tmps)=true then Oper.wp P o a w K' Q else K' (a.put o.dst undef) w):wpOp P ops Q i K a w:=by
 unfold wpOp
 simp only[ho]
 have:=h K (fun _ _ q=>q)
 split
 ·rename_i hw
  rw[if_pos hw] at this
  exact .inl this
 ·rename_i hw
  rw[if_neg hw] at this
  exact this
section
variable {P:Program} {md:Region.Mode} {ops:Array Oper} {Q:Exit→Act→World→Prop} {S:World→Prop}
def Ud(md:Region.Mode)(ops:Array Oper)(t i:Nat):Bool:=match ops[t]? with
 | some o=>o.after.any fun e=>Region.binds md e&&e.on==i
 | none=>true
end
section
variable {P:Program} {md:Region.Mode} {ops:Array Oper} {Q:Exit→Act→World→Prop} {S:World→Prop} {ts:List Nat}
def Z7(P:Program)(md:Region.Mode)(ops:Array Oper)(Q:Exit→Act→World→Prop)(S:World→Prop)(ts:List Nat):Nat→Array Bool→Act→World→Prop
 | 0,listed,a,w=>Region.ready md ops listed=[]∧Q .normal a w
 | fuel+1,listed,a,w =>
  (Region.ready md ops listed=[]→Q .normal a w) ∧
  ∀i∈Region.ready md ops listed,wpOp P ops Q i (fun a' w'=>(S w→i∈ts∨S w')∧Z7 P md ops Q S ts fuel (listed.setIfInBounds i true) a' w') a w
theorem Ue:∀(fuel:Nat) (listed:Array Bool) (a:Act) (w:World),Z7 P md ops Q S ts fuel listed a w→wpAny P md ops Q fuel listed a w
 | 0,_,_,_,h=>h
 | fuel+1,_,_,_,h=>⟨h.1,fun i hi=>wpOp_mono (fun a' w' h'=>Ue fuel _ a' w' h'.2) (h.2 i hi)⟩
theorem Z0k{i:Nat}{oi:Oper}{v:Value}(hi:ops[i]?=some oi)(ht:(ts.all fun j=>Ud md ops j i)=true)(hsel:∀(j:Nat) (o:Oper) cs b,ops[j]?=some o→o.op≠.select cs b)
  (hQ:∀c a w,Q (.panic c) (a.put oi.dst v) w→Q (.panic c) a w) :
  ∀(fuel:Nat) (listed:Array Bool) (a:Act) (w:World),
   (∀j oj,ops[j]?=some oj→j≠i→listed.getD j true=false→(∀e∈oj.after,Region.binds md e=true→e.on≠i)→oi.apart ops oj=true) →
   i∈Region.ready md ops listed→YieldsIf P ops S oi v a→S w →
   Z7 P md ops Q S ts fuel (listed.setIfInBounds i true) (a.put oi.dst v) w→Z7 P md ops Q S ts (fuel+1) listed a w:=by
 intro fuel
 induction fuel with
 | zero =>
  intro listed a w _ hr hy hS H
  refine⟨fun h=>(by rw[h] at hr;cases hr),fun j hj=>?_⟩
  by_cases hji:j=i
  ·subst hji;exact hy.wpOp hi hS ⟨.inr,H⟩
  ·have:=ready_mono hj hji
   rw[H.1] at this
   cases this
 | succ fuel ih =>
  intro listed a w hfree hr hy hS H
  refine⟨fun h=>(by rw[h] at hr;cases hr),fun j hj=>?_⟩
  by_cases hji:j=i
  ·subst hji;exact hy.wpOp hi hS ⟨.inr,H⟩
  ·have h1:=H.2 j (ready_mono hj hji)
   obtain⟨hjun,oj,hoj,hall⟩:=mem_ready.1 hj
   have hnot:∀e∈oj.after,Region.binds md e=true→e.on≠i:=fun e he hb heq=>by
    have h1:=hall e he hb
    have h0:=(mem_ready.1 hr).1
    rw[heq] at h1
    rcases Nat.lt_or_ge i listed.size with h' | h'
    ·simp[h'] at h0 h1;rw[h0] at h1;cases h1
    ·simp[Array.getElem?_eq_none h'] at h1
   have hjt:j∉ts:=fun hjt=>by
    have ht:=List.all_eq_true.1 ht j hjt
    unfold Ud at ht
    rw[hoj] at ht
    obtain⟨e,he,hb⟩:=Array.any_eq_true'.1 ht
    rw[Bool.and_eq_true,beq_iff_eq] at hb
    exact hnot e he hb.1 hb.2
   have h2:=wpOp_putIf hoj (hfree j oj hoj hji hjun hnot) (fun cs b=>hsel i oi cs b hi) (fun cs b=>hsel j oj cs b hoj) hQ hy h1
   have hfree':∀k ok,ops[k]?=some ok→k≠i→(listed.setIfInBounds j true).getD k true=false →
     (∀e∈ok.after,Region.binds md e=true→e.on≠i)→oi.apart ops ok=true:=fun k ok hk hki hun hno=>by
    refine hfree k ok hk hki ?_ hno
    by_cases hjk:j=k
    ·subst hjk;exact hjun
    ·rw[getD_set_ne true hjk] at hun;exact hun
   refine wpOp_mono (fun a' w' h3=>⟨h3.2.1,ih (listed.setIfInBounds j true) a' w' hfree' (ready_mono hr (Ne.symm hji)) h3.1 ((h3.2.1 hS).resolve_left hjt) ?_⟩) h2
   rw[Array.setIfInBounds_comm _ _ hji]
   exact h3.2.2
theorem Z0l{i:Nat}{oi:Oper}{v:Value}(hi:ops[i]?=some oi)(hsel:∀(j:Nat) (o:Oper) cs b,ops[j]?=some o→o.op≠.select cs b)
  (hQ:∀c a w,Q (.panic c) (a.put oi.dst v) w→Q (.panic c) a w) :
  ∀(fuel:Nat) (listed:Array Bool) (a:Act) (w:World),
   (∀j oj,ops[j]?=some oj→j≠i→listed.getD j true=false→(∀e∈oj.after,Region.binds md e=true→e.on≠i)→oi.apart ops oj=true) →
   i∈Region.ready md ops listed→YieldsIf P ops (fun _=>True) oi v a →
   Z7 P md ops Q S ts fuel (listed.setIfInBounds i true) (a.put oi.dst v) w→Z7 P md ops Q S ts (fuel+1) listed a w:=by
 intro fuel
 induction fuel with
 | zero =>
  intro listed a w _ hr hy H
  refine⟨fun h=>(by rw[h] at hr;cases hr),fun j hj=>?_⟩
  by_cases hji:j=i
  ·subst hji;exact hy.wpOp hi trivial ⟨.inr,H⟩
  ·have:=ready_mono hj hji
   rw[H.1] at this
   cases this
 | succ fuel ih =>
  intro listed a w hfree hr hy H
  refine⟨fun h=>(by rw[h] at hr;cases hr),fun j hj=>?_⟩
  by_cases hji:j=i
  ·subst hji;exact hy.wpOp hi trivial ⟨.inr,H⟩
  ·have h1:=H.2 j (ready_mono hj hji)
   obtain⟨hjun,oj,hoj,hall⟩:=mem_ready.1 hj
   have hnot:∀e∈oj.after,Region.binds md e=true→e.on≠i:=fun e he hb heq=>by
    have h1:=hall e he hb
    have h0:=(mem_ready.1 hr).1
    rw[heq] at h1
    rcases Nat.lt_or_ge i listed.size with h' | h'
    ·simp[h'] at h0 h1;rw[h0] at h1;cases h1
    ·simp[Array.getElem?_eq_none h'] at h1
   have h2:=wpOp_putIf hoj (hfree j oj hoj hji hjun hnot) (fun cs b=>hsel i oi cs b hi) (fun cs b=>hsel j oj cs b hoj) hQ hy h1
   have hfree':∀k ok,ops[k]?=some ok→k≠i→(listed.setIfInBounds j true).getD k true=false →
     (∀e∈ok.after,Region.binds md e=true→e.on≠i)→oi.apart ops ok=true:=fun k ok hk hki hun hno=>by
    refine hfree k ok hk hki ?_ hno
    by_cases hjk:j=k
    ·subst hjk;exact hjun
    ·rw[getD_set_ne true hjk] at hun;exact hun
   refine wpOp_mono (fun a' w' h3=>⟨h3.2.1,ih (listed.setIfInBounds j true) a' w' hfree' (ready_mono hr (Ne.symm hji)) h3.1 ?_⟩) h2
   rw[Array.setIfInBounds_comm _ _ hji]
   exact h3.2.2
theorem Z1(i:Nat){oi:Oper}{fuel:Nat}{listed:Array Bool}{a:Act}{w:World}(hi:ops[i]?=some oi)(ht:(ts.all fun j=>Ud md ops j i)=true)
  (hs:Region.noSelect ops=true) (hf:Region.free md ops listed i=true) (hr:(Region.ready md ops listed).contains i=true)
  (hQ:∀v c a w,Q (.panic c) (a.put oi.dst v) w→Q (.panic c) a w) (hS:S w)
  (h:∃v,YieldsIf P ops S oi v a∧Z7 P md ops Q S ts fuel (listed.setIfInBounds i true) (a.put oi.dst v) w):Z7 P md ops Q S ts (fuel+1) listed a w:=by
 obtain⟨v,hy,h⟩:=h
 exact Z0k hi ht (Region.noSelect_spec hs) (hQ v) fuel listed a w (Region.free_spec hi hf) (by simpa using hr) hy hS h
theorem Z0(i:Nat){oi:Oper}{fuel:Nat}{listed:Array Bool}{a:Act}{w:World}(hi:ops[i]?=some oi)
  (hs:Region.noSelect ops=true) (hf:Region.free md ops listed i=true) (hr:(Region.ready md ops listed).contains i=true)
  (hQ:∀v c a w,Q (.panic c) (a.put oi.dst v) w→Q (.panic c) a w)
  (h:∃v,YieldsIf P ops (fun _=>True) oi v a∧Z7 P md ops Q S ts fuel (listed.setIfInBounds i true) (a.put oi.dst v) w):Z7 P md ops Q S ts (fuel+1) listed a w:=by
 obtain⟨v,hy,h⟩:=h
 exact Z0l hi (Region.noSelect_spec hs) (hQ v) fuel listed a w (Region.free_spec hi hf) (by simpa using hr) hy h
theorem Z3{listed:Array Bool}{a:Act}{w:World}(hr:Region.ready md ops listed=[])(h:Q .normal a w) :
  ∀fuel,Z7 P md ops Q S ts fuel listed a w
 | 0=>⟨hr,h⟩
 | _+1=>⟨fun _=>h,by rw[hr];simp⟩
theorem Z2(i:Nat){o:Oper}{fuel:Nat}{listed:Array Bool}{a:Act}{w:World}(hr:Region.ready md ops listed=[i])(ho:ops[i]?=some o)
  (h:∀K':Act→World→Prop,(∀a w,i∈ts∨S w→Z7 P md ops Q S ts fuel (listed.setIfInBounds i true) a w→K' a w)→if Region.wanted o (yielded ops a.tmps)=true then Oper.wp P o a w K' Q else K' (a.put o.dst undef) w):Z7 P md ops Q S ts (fuel+1) listed a w :=
 ⟨fun h0=>absurd (hr▸h0) (by simp),fun j hj=>by
  rw[hr] at hj
  obtain rfl:j=i:=by simpa using hj
  exact opH ho (fun K' hK=>h K' (fun a w q1 q2=>hK a w ⟨fun _=>q1,q2⟩))⟩
theorem Z8{id:Nat}{l:List Oper}{a:Act}{w:World}(ts:List Nat)(S:World→Prop)(hm:P.follows .mixedOrders=true)
  (h:Z7 P .any l.toArray (NoPanic Q) S ts l.toArray.size (Array.replicate l.toArray.size false) a w.drew):(Code.region id l.toArray true).wp P Q a w :=
 wp_region_noPanic (wp_region_any hm (Ue _ _ _ _ h))
end
end Go.Proofs.Ytbnpnccpobkodaa
