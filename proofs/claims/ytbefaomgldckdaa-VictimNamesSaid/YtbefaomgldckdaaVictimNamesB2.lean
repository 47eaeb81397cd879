/- Texts merged: Ints, WcA, WcB, VbA, WoI, Rf, ModeA, QuM, QuS, QuP, QuH, BkM, PoM, PoF, BkB, BdK, BdC, BkO, BdE, BoF, Rr, Rt, Ru -/
import Derived.Test.YtbefaomgldckdaaVictimNamesB1
import Derived.Deep.RegionHeld3
import Derived.Shelf.Abstract
import Derived.Maps.OwnSet
import Derived.RangeFuncNested
import Derived.RangeFuncBound
import Derived.RangeFuncCalls
import Derived.RangeFuncLeaves
import Derived.Shelf.RegionOpen
import Derived.OwnWalkIn
import Derived.TacticsInMore
import Derived.LoopNIn
import Derived.LoopIn
import Derived.ProofKit
import Derived.OpenShut
import Derived.ShutString
import Derived.Deep.WholeRow
import Derived.Outline
import Derived.Maps.Range
import Derived.DeepKeys4
import Derived.OrdersHeld
import Derived.Sort.MapsRangeIn
import Derived.RegionIn
set_option linter.unusedVariables false
set_option maxRecDepth 100000
set_option maxHeartbeats 16000000
namespace Go.Proofs.Ytbefaomgldckdaa
open Go.RowKit _root_.Go.Proofs.Try
abbrev IS(w:World)(v:Value)(l:List Int):Prop:=w.ownsRow 0 3 1 v l.length (l.map (Value.int .i64))
theorem IS.form{w:World}{v:Value}{l:List Int}(h:IS w v l):(v=.slice none 0 0∧l=[])∨∃g cap,v=.slice (some ⟨g,0,none⟩) l.length cap:=by
 rcases h.2 with⟨rfl,h0⟩ | ⟨g,cap,cur,rfl,_⟩
 ·exact .inl ⟨rfl,List.length_eq_zero_iff.1 h0⟩
 ·exact .inr ⟨g,cap,rfl⟩
theorem IS.tch{S:Nat→Prop}{w w':World}{v:Value}{l:List Int}(h:IS w v l)(k:Zc S w w')(hn:∀g,v.ownBlock=some g→¬S g):IS w' v l:=by
 refine⟨h.1,?_⟩
 rcases h.2 with h0 | ⟨g,cap,cur,rfl,hb,hg,rest⟩
 ·exact .inl h0
 ·exact .inr ⟨g,cap,cur,rfl,hb,(k.block g (Array.getElem?_eq_some_iff.1 hg).1 (hn g rfl)).trans hg,rest⟩
theorem IS.nw{w w':World}{v:Value}{l:List Int}(h:IS w v l)(k:Nw w w'):IS w' v l:=h.tch (Zc.nw (S:=fun _=>False) k) (fun _ _ e=>e)
theorem IS.nil(w:World):IS w (.slice none 0 0) []:=World.ownsRow_nil _ _ _ _
theorem IS.nlen{w:World}{g cap n:Nat}{l:List Int}(h:IS w (.slice (some ⟨g,0,none⟩) n cap) l):n=l.length:=by
 rcases h.2 with⟨h',_⟩ | ⟨g',cap',cur,h',_⟩
 ·simp at h'
 ·simp only[Value.slice.injEq] at h'
  exact h'.2.1
theorem IS.cell{w:World}{g cap n:Nat}{l:List Int}(h:IS w (.slice (some ⟨g,0,none⟩) n cap) l)(i:Nat)(hi:i<l.length):w.cell? ⟨g,i,none⟩=some (.int .i64 (l.getD i 0)):=by
 have e:=h.nlen
 subst e
 exact(World.ownsRow.cellAt h i (by omega)).trans (by simp[List.getD,hi])
theorem IS.frozen{w:World}{g cap n:Nat}{l:List Int}(h:IS w (.slice (some ⟨g,0,none⟩) n cap) l)(j:Nat):w.frozen? ⟨g,j,none⟩=false:=by
 have e:=h.nlen
 subst e
 exact World.ownsRow.frozenAt h j
theorem IS.lt{w:World}{v:Value}{l:List Int}(h:IS w v l){k:Nat}(hk:v.ownBlock=some k):k<w.heap.size:=(World.ownsRow.lt h k hk).2
theorem IS.glt{w:World}{g cap n:Nat}{l:List Int}(h:IS w (.slice (some ⟨g,0,none⟩) n cap) l):g<w.heap.size:=h.lt rfl
theorem IS.len{w:World}{v:Value}{l:List Int}(h:IS w v l):l.length≤maxLen:=by
 rcases h.2 with⟨rfl,h0⟩ | ⟨g',cap',cur,h',_,_,h1,h2,_⟩
 ·rw[h0];exact Nat.zero_le _
 ·exact Nat.le_trans h1 h2
theorem IS.box{w:World}{v:Value}{l:List Int}(h:IS w v l):∃ao cap,v=.slice ao l.length cap∧(0<l.length→∃g,ao=some ⟨g,0,none⟩∧v.ownBlock=some g):=by
 rcases h.form with⟨rfl,rfl⟩ | ⟨g,cap,rfl⟩
 ·exact⟨none,0,rfl,fun h=>by simp at h⟩
 ·exact⟨_,cap,rfl,fun _=>⟨g,rfl,rfl⟩⟩
theorem Z7d:(prog.info? 3).map (fun i=>(i.zero,i.size,i.bytes))=some (some (.int .i64 0),1,8):=by kernel_rfl
theorem IS.push(w:World)(v:Value)(l:List Int)(x:Int)(h:IS w v l)(hsm:l.length≤100000) :
  ∃v' w1,(Builtin.append_ #[28,28] 28 #[v,.slice (some ⟨w.heap.size,0,none⟩) 1 1]).run prog (w.alloc (.cells #[.int .i64 x] 3))=.ok v' w1∧IS w1 v' (l++[x])∧Zc (fun k=>v.ownBlock=some k) w w1 ∧
   (∀k,v'.ownBlock=some k→v.ownBlock=some k∨w.heap.size≤k)∧(∃g cap,v'=.slice (some ⟨g,0,none⟩) (l.length+1) cap):=by
 obtain⟨i0,hi,hz0,hz1,hz2⟩:=info_parts Z7d
 have ha:IS (w.alloc (.cells #[.int .i64 x] 3)) v l:=h.nw ((Nw.refl w).alloc _)
 have hc:(w.alloc (.cells #[.int .i64 x] 3)).cell? ⟨w.heap.size,0,none⟩=some (.int .i64 x):=by simp[go_sem]
 obtain⟨v',w1,hrun,ho,hg,hp⟩:=Yi (P:=prog) (w.alloc (.cells #[.int .i64 x] 3)) 0 28 28 3 i0 _ 1 8 underlying28 hi hz0 hz1 hz2 rfl (by decide) v l.length _ ha
  ⟨w.heap.size,0,none⟩ 1 1 [.int .i64 x] rfl (by
   intro j u hu
   match j,hu with
   | 0,hu=>simp at hu;subst hu;exact hc) (by simp[Value.oneCell']) (by unfold maxLen;omega) (by omega) (Nat.zero_le _)
 have hI:IS w1 v' (l++[x]):=by
  unfold IS
  rw[List.length_append,List.map_append]
  exact ho
 refine⟨v',w1,hrun,hI,(Zc.alloc (Zc.refl _ w) _).grown hg (fun k e=>.inl e),fun k e=>?_,?_⟩
 ·rcases hp with hp | hp
  ·exact .inl (hp▸e)
  ·rw[hp] at e
   simp at e
   exact .inr (by omega)
 ·rcases hI.form with⟨_,q⟩ | ⟨g,cap,rfl⟩
  ·simp at q
  ·exact⟨g,cap,by simp⟩
theorem Z44(g cap g' cap':Nat)(l:List Int)(w:World)(h:IS w (.slice (some ⟨g,0,none⟩) l.length cap) l)(h':IS w (.slice (some ⟨g',0,none⟩) l.length cap') l) :
  Calls prog 8 #[.slice (some ⟨g,0,none⟩) l.length cap,.slice (some ⟨g',0,none⟩) l.length cap'] w fun e w'=>e=.returned (.bool true)∧Nw w w':=by
 have hm:=h.len
 unfold maxLen at hm
 have H:=hD0 (aI0 h h')
 clear h h'
 go_enter func8,ntmps8
 go_wp2
 go_loopw [5] (fun i wr=>∃k:Nat,k≤l.length∧i=.int .i64 k∧Nw w wr) (fun i _=>l.length-(intOf i).toNat)
 case atStart=>exact⟨0,Nat.zero_le _,rfl,Nw.refl _⟩
 case round =>
  obtain⟨k,hk,rfl,hG⟩:=hrel
  by_cases hlt:k<l.length
  ·have c0:=(H.out.1.nw hG).cell k hlt
   have d0:=(H.out.2.nw hG).cell k hlt
   generalize l.getD k 0=x at *
   go_wp2_with fail
   go_quiet (fail)
   go_wp2
   go_roundw
   case rel=>exact⟨k+1,by omega,by go_num,hG.drewN _⟩
   case measure=>simp[intOf];omega
  ·go_wp2
   go_ret
   exact⟨rfl,hG⟩
theorem Uk(w:World)(v v':Value)(h:(v=.slice none 0 0)∨∃g cap,v=.slice (some ⟨g,0,none⟩) 0 cap)(h':(v'=.slice none 0 0)∨∃g cap,v'=.slice (some ⟨g,0,none⟩) 0 cap) :
  Calls prog 8 #[v,v'] w fun e w'=>e=.returned (.bool true)∧Nw w w':=by
 rcases h with rfl | ⟨g,cap,rfl⟩<;>rcases h' with rfl | ⟨g',cap',rfl⟩
 all_goals
  go_enter func8,ntmps8
  go_wp2
  refine wp_loop_rounds 1 ?_
  repeat (rw[rounds_succ];go_wp2)
  go_ret
  exact⟨rfl,Nw.refl _⟩
theorem Z23(w:World)(v v':Value)(l:List Int)(h:IS w v l)(h':IS w v' l) :
  Calls prog 8 #[v,v'] w fun e w'=>e=.returned (.bool true)∧Nw w w':=by
 rcases h.form with⟨rfl,rfl⟩ | ⟨g,cap,rfl⟩
 ·rcases h'.form with⟨rfl,_⟩ | ⟨g',cap',rfl⟩
  ·exact Uk w _ _ (.inl rfl) (.inl rfl)
  ·exact Uk w _ _ (.inl rfl) (.inr ⟨_,_,rfl⟩)
 ·rcases h'.form with⟨rfl,rfl⟩ | ⟨g',cap',rfl⟩
  ·exact Uk w _ _ (.inr ⟨_,_,rfl⟩) (.inl rfl)
  ·exact Z44 g cap g' cap' l w h h'
def Zi(a:Int × Int):List Value:=[.int .i64 a.1,.int .i64 a.2]
abbrev egV(e:Int × Int):Value:=.agg #[.int .i64 e.1,.int .i64 e.2]
theorem Yx:Uv prog 33 32 2 16 Zi where
 und:=underlying33
 inf:=by
  have h:(prog.info? 32).map (fun i=>(i.zero,i.size,i.bytes))=some (some (.agg #[.int .i64 0,.int .i64 0]),2,16):=by kernel_rfl
  cases e:prog.info? 32 with
  | none=>rw[e] at h;cases h
  | some i =>
   rw[e] at h
   simp only[Option.map_some,Option.some.injEq,Prod.mk.injEq] at h
   exact⟨i,_,rfl,h.1,h.2.1,h.2.2,rfl⟩
 pos:=by decide
 byt:=by decide
 len:=fun _=>rfl
 one:=fun a u hu=>by
  simp only[Zi,List.mem_cons,List.not_mem_nil,or_false] at hu
  rcases hu with rfl | rfl<;>rfl
abbrev Za(w:World)(g0:Nat)(v:Value)(l:List (Int × Int)):Prop:=Y4 32 2 Zi w g0 v l
abbrev Zl(w:World)(v:Value)(l:List (Int × Int)):Prop:=Rd 2 Zi w v l
theorem Za.at_{w:World}{g0:Nat}{v:Value}{l:List (Int × Int)}(h:Za w g0 v l):Zl w v l:=Y4.rd (fun _=>rfl) h
theorem RdC.eg{w:World}{b o:Nat}{l:List (Int × Int)}(h:RdC 2 Zi w b o l){i:Nat}(hi:i<l.length):w.cell? ⟨b,o+i*2,none⟩=some (.int .i64 l[i].1)∧w.cell? ⟨b,o+i*2+1,none⟩=some (.int .i64 l[i].2) :=
 ⟨h.cell i hi 0 _ rfl,h.cell i hi 1 _ rfl⟩
theorem Z4q(v:Value)(q:List (Int × Int))(w:World)(hl:q.length≤100000)(h:Zl w v q) :
  Calls prog 26 #[v] w fun e w'=>∃v',e=.returned v'∧Nw w w'∧Za w' w.heap.size v' q:=by
 obtain⟨v',w1,hrun,hO,hN⟩:=Z3z Yx h hl
 obtain⟨a,c,rfl,h⟩:=h
 have en:=fun(w:World) (a:Option Addr) (n c n' c':Nat)=>Lib.run_eql_slice_nil (P:=prog) w 33 32 a n c n' c' underlying33
 have HR:=hD0 hrun
 have HO:=hD0 (aI0 hN hO)
 clear hrun hO hN
 cases a with
 | none =>
  rcases h with⟨rfl,h0⟩ | ⟨b,o,e,_⟩
  ·obtain rfl:=h0 rfl
   go_enter func26,ntmps26
   go_wp2
   go_ret
   exact⟨_,rfl,Nw.refl _,World.ownsRow_nil _ _ _ _⟩
  ·cases e
 | some ad =>
  clear h
  go_enter func26,ntmps26
  go_wp2_with (at_builtin;refine Zr (by rfl) (.tmp 5) (.tmp 6) 33 rfl _ _ _ _ rfl rfl HR.out ?_)
  go_ret
  exact⟨_,rfl,HO.out.1,HO.out.2⟩
theorem Z85{E:List (Int × Int)}{v:Int}{i:Nat}(hi:i≤E.length)(h1:∀k (hk:k<E.length),k<i→E[k].1<v)(h2:∀(h:i<E.length),v≤E[i].1):Vf E v=i:=by
 rcases Nat.lt_trichotomy (Vf E v) i with q | q | q
 ·have hs:Vf E v<E.length:=by omega
  have:¬E[Vf E v].1<v:=by
   have key:∀ {l:List (Int × Int)} (h:(l.takeWhile fun e=>decide (e.1<v)).length<l.length),¬(l[(l.takeWhile fun e=>decide (e.1<v)).length]).1<v:=by
    intro l
    induction l with
    | nil=>intro h;simp at h
    | cons a t ih =>
     intro h
     by_cases c:a.1<v
     ·have e:((a::t).takeWhile fun e=>decide (e.1<v))=a::(t.takeWhile fun e=>decide (e.1<v)):=by rw[List.takeWhile_cons,if_pos (by simpa using c)]
      have h':(t.takeWhile fun e=>decide (e.1<v)).length<t.length:=by rw[e] at h;simpa using h
      have:=ih h'
      simpa [e] using this
     ·have e:((a::t).takeWhile fun e=>decide (e.1<v))=[]:=by rw[List.takeWhile_cons,if_neg (by simpa using c)]
      simpa [e] using c
   exact key hs
  exact absurd (h1 _ hs q) this
 ·exact q
 ·have hil:i<E.length:=lL0 q (Z11 E v)
  have:=Vn q (List.getElem?_eq_getElem hil)
  have:=h2 hil
  omega
theorem Z8p{E:List (Int × Int)}(hs:Zh E){i j:Nat}(hij:i≤j)(hi:i<E.length)(hj:j<E.length):E[i].1≤E[j].1:=by
 rcases Nat.lt_or_eq_of_le hij with q | q
 ·have:=List.pairwise_iff_getElem.1 hs i j hi hj q
  unfold U9 at this
  omega
 ·subst q;exact Int.le_refl _
theorem Z8t(t:Nat)(h:t≤1000000):wrap64 ((t:Int)+1)=((t+1:Nat):Int):=by unfold wrap64;omega
theorem Z87(i j:Nat)(h:i≤1000000)(k:j≤1000000):wrap64 ((i:Int)+(j:Int))=(i:Int)+(j:Int):=by unfold wrap64;omega
theorem Z4p{i j i' j':Nat}(h:j'-i'<j-i):(intOf (.int .i64 (j':Int))).toNat-(intOf (.int .i64 (i':Int))).toNat<(intOf (.int .i64 (j:Int))).toNat-(intOf (.int .i64 (i:Int))).toNat:=by
 simpa [intOf] using h
theorem Y6{a b:Nat}(h:a<b):(a:Int)<(b:Int):=Int.ofNat_lt.2 h
theorem Z69{a b:Nat}(h:a<b):decide ((a:Int)<(b:Int))=true∧decide (a<b)=true:=⟨decide_eq_true (Int.ofNat_lt.2 h),decide_eq_true h⟩
theorem Z4o{a b:Nat}(h:¬a<b):decide ((a:Int)<(b:Int))=false∧decide (a<b)=false:=⟨decide_eq_false (fun q=>h (Int.ofNat_lt.1 q)),decide_eq_false h⟩
theorem Yt(t m:Nat)(h:t≤1000000)(h0:t=m+1):IntKind.i64.wrap ((t:Int)-1)=(m:Int):=by rw[IntKind.wrap_i64];omega
theorem Ya(t m:Nat)(h:t≤1000000)(h0:m=t+1):IntKind.i64.wrap ((t:Int)+1)=(m:Int):=by rw[IntKind.wrap_i64];omega
theorem Z99{t m:Nat}(h0:t=m+1):(intOf (.int .i64 (m:Int))).toNat<(intOf (.int .i64 (t:Int))).toNat:=by
 show(m:Int).toNat<(t:Int).toNat
 omega
theorem Z36{a b:Nat}(h:a<b):∃c,b=c+1∧a≤c∧c<b:=⟨b-1,by omega,by omega,by omega⟩
theorem Ye{n t:Nat}(h:t<n):n-(intOf (.int .i64 ((t+1:Nat):Int))).toNat<n-(intOf (.int .i64 (t:Int))).toNat:=by
 show n-((t+1:Nat):Int).toNat<n-(t:Int).toNat
 omega
section
open Go.RowKit Go.Maps Go.ChangeMaps
def Z6(k:Int):Prop:=-9223372036854775808≤k∧k≤9223372036854775807
def U5:Value→Option (DataW Unit × List MemPlace)
 | .int .i64 x=>some (.lit (.int .i64 x),[])
 | _=>none
theorem Zn(x:Int):U5 (.int .i64 x)=some (.lit (.int .i64 x),[]):=rfl
theorem Zm{v:Value}{x:Int}{ps:List MemPlace}(h:U5 v=some (.lit (.int .i64 x),ps)):v=.int .i64 x:=by
 unfold U5 at h
 split at h
 ·injection h with h
  injection h with h1 _
  injection h1 with h1
  injection h1 with _ h1
  rw[h1]
 ·cases h
theorem Ud:Keyed prog 3:=int_keyed underlying3
theorem Z0w{k:Int}(h:Z6 k):keyOf prog 3 (.int .i64 k)=some (.int .i64 k):=keyOf_int_mk underlying3 (WalkArith.wf_i64 h)
theorem Z0u{k:Int}(h:Z6 k):WideAt.IsKeyLit (.int .i64 k):=Ud.key (Z0w h)
theorem Z5t(w:World):(zeroValue 3).run prog w=.ok (.int .i64 0) w:=by kernel_rfl
theorem U3{a b:Int}(h:a≠b):(Lit.int .i64 a)≠.int .i64 b:=fun e=>h (by injection e)
theorem Z5n{w:World}{b n:Nat}{D:DataW Unit}{R:Value→Option (DataW Unit × List MemPlace)}(h:w.ownsMap prog 3 R b n D):w.ownsMap prog 3 R b (Maps.size D) D:=by
 obtain⟨es,clock,e1,e2,e3,e4⟩:=h
 exact⟨es,clock,e1,e2,by rw[e4];simp[Maps.size,length_sorted],e4⟩
def Zb(w:World)(b:Nat)(f:Int→Option Int)(N:Nat):Prop :=
 ∃D:DataW Unit,w.ownsMap prog 3 U5 b (Maps.size D) D∧(∀k,Maps.has D (.int .i64 k)=(f k).isSome)∧(∀k x z,f k=some x→D.atKey (.int .i64 k) z=.lit (.int .i64 x))∧Maps.size D≤N
section
variable {w w':World} {b N:Nat} {f:Int→Option Int}
theorem Zb.kept{row:Option Nat}(h:Zb w b f N)(hg:w.grownBy w' row)(hne:some b≠row):Zb w' b f N:=by
 obtain⟨D,h1,h2⟩:=h
 exact⟨D,h1.kept hg hne,h2⟩
theorem Zb.nw(h:Zb w b f N)(g:Nw w w'):Zb w' b f N:=h.kept (g.grownBy none) (by simp)
theorem Zb.tch{S:Nat→Prop}(h:Zb w b f N)(g:Zc S w w')(hn:¬S b):Zb w' b f N:=by
 obtain⟨D,⟨es,clock,hb,F,hs,hD⟩,h2⟩:=h
 exact⟨D,⟨es,clock,(g.block b (Array.getElem?_eq_some_iff.1 hb).1 hn).trans hb,F,hs,hD⟩,h2⟩
theorem Zb.obj(h:Zb w b f N):∃es c,w.heap[b]?=some (.map es c):=by obtain⟨D,⟨es,c,h,_⟩,_⟩:=h;exact⟨es,c,h⟩
theorem Zb.le(h:Zb w b f N){M:Nat}(hM:N≤M):Zb w b f M:=by
 obtain⟨D,h1,h2,h3,h4⟩:=h
 exact⟨D,h1,h2,h3,Nat.le_trans h4 hM⟩
theorem Zb.made(w:World):Zb (w.alloc (.map #[] 0)) w.heap.size (fun _=>none) 0 :=
 ⟨.map [],(World.ownsMap_made _ _ _ _).mono (Nat.zero_le _),fun _=>rfl,(fun _ _ _ h=>nomatch h),Nat.le_refl _⟩
theorem Zb.look_no(h:Zb w b f N){k:Int}(hk:Z6 k)(hc:f k=none) :
  (Instr.lookup 50 (.map (some b)) (.int .i64 k) true).run prog w=.ok (.tuple #[.int .i64 0,.bool false]) w:=by
 obtain⟨D,o,h2,h3,_⟩:=h
 obtain⟨v,ps,hr,hv⟩:=o.look_ok (t:=50) Ud underlying50 (Z5t w) (Zn 0) (Z0w hk)
 have hh:=h2 k
 rw[hc] at hh
 rw[atKey_of_not_has hh] at hv
 rw[Zm hv,hh] at hr
 exact hr
theorem Zb.look_yes(h:Zb w b f N){k x:Int}(hk:Z6 k)(hc:f k=some x) :
  (Instr.lookup 50 (.map (some b)) (.int .i64 k) true).run prog w=.ok (.tuple #[.int .i64 x,.bool true]) w:=by
 obtain⟨D,o,h2,h3,_⟩:=h
 obtain⟨v,ps,hr,hv⟩:=o.look_ok (t:=50) Ud underlying50 (Z5t w) (Zn 0) (Z0w hk)
 have hh:=h2 k
 rw[hc] at hh
 rw[h3 k x _ hc] at hv
 rw[Zm hv,hh] at hr
 exact hr
theorem Zb.look_val(h:Zb w b f N){k x:Int}(hk:Z6 k)(hc:f k=some x) :
  (Instr.lookup 50 (.map (some b)) (.int .i64 k) false).run prog w=.ok (.int .i64 x) w:=by
 obtain⟨D,o,h2,h3,_⟩:=h
 obtain⟨v,ps,hr,hv⟩:=o.lookup (t:=50) Ud underlying50 (Z5t w) (Zn 0) (Z0w hk)
 rw[h3 k x _ hc] at hv
 rw[Zm hv] at hr
 exact hr
theorem Zb.put'(h:Zb w b f N)(hn:N<1000000){k:Int}(hk:Z6 k)(x:Int) :
  ∃w',(Instr.mapUpdate 50 (.map (some b)) (.int .i64 k) (.int .i64 x)).run prog w=.ok () w'∧Zb w' b (Zg f k x) (if (f k).isSome=true then N else N+1)∧w.grownBy w' (some b):=by
 obtain⟨D,o,h2,h3,h4⟩:=h
 obtain⟨w',hr,o',hg⟩:=o.update (t:=50) Ud underlying50 (by unfold maxLen;omega) (Z0w hk) (Zn x)
 have hsz:=size_put (k:=.int .i64 k) (o.tidy Ud) (.lit (.int .i64 x))
 rw[h2 k] at hsz
 refine⟨w',hr,⟨D.put (.int .i64 k) (.lit (.int .i64 x)),Z5n o',fun y=>?_,fun y u z hy=>?_,?_⟩,hg⟩
 ·by_cases q:y=k
  ·subst q
   rw[has_put_same o.isMap (Z0u hk),Zq];rfl
  ·rw[has_put_other (U3 q),h2 y,Zo _ _ q]
 ·by_cases q:y=k
  ·subst q
   rw[Zq] at hy
   injection hy with hy
   subst hy
   exact atKey_put_same o.isMap (Z0u hk) _ _
  ·rw[Zo _ _ q] at hy
   rw[atKey_put_other (U3 q)]
   exact h3 y u z hy
 ·rw[hsz]
  split<;>omega
theorem Zb.put(h:Zb w b f N)(hn:N<1000000){k:Int}(hk:Z6 k)(x:Int) :
  ∃w',(Instr.mapUpdate 50 (.map (some b)) (.int .i64 k) (.int .i64 x)).run prog w=.ok () w'∧Zb w' b (Zg f k x) (N+1)∧w.grownBy w' (some b):=by
 obtain⟨w',h1,h2,h3⟩:=h.put' hn hk x
 exact⟨w',h1,h2.le (by split<;>omega),h3⟩
theorem Zb.set(h:Zb w b f N)(hn:N<1000000){k:Int}(hk:Z6 k)(x:Int)(hs:f k≠none) :
  ∃w',(Instr.mapUpdate 50 (.map (some b)) (.int .i64 k) (.int .i64 x)).run prog w=.ok () w'∧Zb w' b (Zg f k x) N∧w.grownBy w' (some b):=by
 obtain⟨w',h1,h2,h3⟩:=h.put' hn hk x
 refine⟨w',h1,h2.le ?_,h3⟩
 cases e:f k with
 | none=>exact absurd e hs
 | some y=>simp
end
end
section
open Go.RowKit Go.Maps Go.ChangeMaps
theorem Z2x(w:World):(zeroValue 2).run prog w=.ok (.int .i64 0) w:=by kernel_rfl
section
variable {w w':World} {b N:Nat} {f:Int→Option Int}
theorem Zb.look64_no(h:Zb w b f N){k:Int}(hk:Z6 k)(hc:f k=none) :
  (Instr.lookup 44 (.map (some b)) (.int .i64 k) true).run prog w=.ok (.tuple #[.int .i64 0,.bool false]) w:=by
 obtain⟨D,o,h2,h3,_⟩:=h
 obtain⟨v,ps,hr,hv⟩:=o.look_ok (t:=44) Ud underlying44 (Z2x w) (Zn 0) (Z0w hk)
 have hh:=h2 k
 rw[hc] at hh
 rw[atKey_of_not_has hh] at hv
 rw[Zm hv,hh] at hr
 exact hr
theorem Zb.look64_yes(h:Zb w b f N){k x:Int}(hk:Z6 k)(hc:f k=some x) :
  (Instr.lookup 44 (.map (some b)) (.int .i64 k) true).run prog w=.ok (.tuple #[.int .i64 x,.bool true]) w:=by
 obtain⟨D,o,h2,h3,_⟩:=h
 obtain⟨v,ps,hr,hv⟩:=o.look_ok (t:=44) Ud underlying44 (Z2x w) (Zn 0) (Z0w hk)
 have hh:=h2 k
 rw[hc] at hh
 rw[h3 k x _ hc] at hv
 rw[Zm hv,hh] at hr
 exact hr
theorem Zb.look64(h:Zb w b f N){k:Int}(hk:Z6 k) :
  (Instr.lookup 44 (.map (some b)) (.int .i64 k) false).run prog w=.ok (.int .i64 ((f k).getD 0)) w:=by
 obtain⟨D,o,h2,h3,_⟩:=h
 obtain⟨v,ps,hr,hv⟩:=o.lookup (t:=44) Ud underlying44 (Z2x w) (Zn 0) (Z0w hk)
 cases hc:f k with
 | none =>
  have hh:=h2 k
  rw[hc] at hh
  rw[atKey_of_not_has hh] at hv
  rw[Zm hv] at hr
  exact hr
 | some x =>
  rw[h3 k x _ hc] at hv
  rw[Zm hv] at hr
  exact hr
theorem Zb.put64(h:Zb w b f N)(hn:N<1000000){k:Int}(hk:Z6 k)(x:Int) :
  ∃w',(Instr.mapUpdate 44 (.map (some b)) (.int .i64 k) (.int .i64 x)).run prog w=.ok () w'∧Zb w' b (Zg f k x) (N+1)∧w.grownBy w' (some b):=by
 obtain⟨D,o,h2,h3,h4⟩:=h
 obtain⟨w',hr,o',hg⟩:=o.update (t:=44) Ud underlying44 (by unfold maxLen;omega) (Z0w hk) (Zn x)
 have hsz:=size_put (k:=.int .i64 k) (o.tidy Ud) (.lit (.int .i64 x))
 rw[h2 k] at hsz
 refine⟨w',hr,⟨D.put (.int .i64 k) (.lit (.int .i64 x)),Z5n o',fun y=>?_,fun y u z hy=>?_,?_⟩,hg⟩
 ·by_cases q:y=k
  ·subst q
   rw[has_put_same o.isMap (Z0u hk),Zq];rfl
  ·rw[has_put_other (U3 q),h2 y,Zo _ _ q]
 ·by_cases q:y=k
  ·subst q
   rw[Zq] at hy
   injection hy with hy
   subst hy
   exact atKey_put_same o.isMap (Z0u hk) _ _
  ·rw[Zo _ _ q] at hy
   rw[atKey_put_other (U3 q)]
   exact h3 y u z hy
 ·rw[hsz]
  split<;>omega
end
def Yj(l:List (Int × Int))(t:Int):Option Int:=(l.find? fun e=>e.1==t).map (·.2)
theorem Z4y(l:List (Int × Int))(t:Int):(Yj l t).getD 0=Yc l t:=by
 induction l with
 | nil=>rfl
 | cons e r ih =>
  unfold Yj Yc
  unfold Yj at ih
  rw[List.find?_cons]
  by_cases q:e.1=t
  ·rw[if_pos q,show(e.1==t)=true by simpa using q]
   rfl
  ·rw[if_neg q,show(e.1==t)=false by simpa using q]
   exact ih
theorem Z4z{l:List (Int × Int)}{e:Int × Int}{x:Int}(h:Yj l e.1=some x):Yj (l++[e])=Yj l:=by
 funext t
 unfold Yj at h ⊢
 rw[List.find?_append]
 cases hf:l.find? (fun e=>e.1==t) with
 | some y=>rfl
 | none =>
  by_cases q:e.1=t
  ·rw[q,hf] at h;cases h
  ·have:[e].find? (fun e=>e.1==t)=none:=by
    rw[List.find?_cons,show(e.1==t)=false by simpa using q];rfl
   rw[this];rfl
theorem Z6g{l:List (Int × Int)}{e:Int × Int}(h:Yj l e.1=none):Yj (l++[e])=Zg (Yj l) e.1 e.2:=by
 funext t
 unfold Zg
 unfold Yj at h ⊢
 rw[List.find?_append]
 by_cases q:t=e.1
 ·subst q
  rw[if_pos rfl]
  rw[Option.map_eq_none_iff] at h
  rw[h]
  have:[e].find? (fun x=>x.1==e.1)=some e:=by simp
  rw[this];rfl
 ·rw[if_neg q]
  have:[e].find? (fun e=>e.1==t)=none:=by
   rw[List.find?_cons,show(e.1==t)=false by simpa using fun k=>q k.symm];rfl
  rw[this]
  simp
end
theorem Zp{P:Program}{w:World}{ops:Array Oper}{rest:List Oper}{o:Oper}{a:Act}{Q:Exit→Act→World→Prop}
  (hg:o.guard=none) (m x u:Operand) (t:TypeId) (hop:o.op=Op.mapUpdate t m x u) (M K V:Value) (w':World) (hm:a.eval m=M) (hx:a.eval x=K) (hu:a.eval u=V)
  (hr:(Instr.mapUpdate t M K V).run P w=.ok () w') (h:wpList P ops Q rest (a.put o.dst undef) w'):wpList P ops Q (o::rest) a w:=by
 refine wpList_plain hg fun K' hK'=>?_
 unfold Oper.wp
 simp[execOp,hop,hm,hx,hu,hr,Result.andThen]
 exact hK' _ _ h
open Go.Shelf
section
structure KpS(S:Nat→Prop)(A B:World):Prop where
 size:A.heap.size≤B.heap.size
 same:∀k,S k→B.heap[k]?=A.heap[k]?
structure Ch'(n₀:Nat)(S:Nat→Prop)(A B:World):Prop where
 os:B.os=A.os
 tape:B.tape=A.tape
 output:B.output=A.output
 size:A.heap.size≤B.heap.size
 block:∀k,k<A.heap.size→¬S k→B.heap[k]?=A.heap[k]?∨((k=n₀∨k=n₀+1)∧∃o,A.heap[k]?=some o∧o.isCells=false)
variable {F:Fence} {n:Nat} {P:Program}
end
section
open Go.ChangeShapes Go.WideShapes Go.ChangeAt Go.RowKit
theorem Z3q(m:Int)(w:World)(h0:0≤m)(h1:m<7) :
  Calls prog 55 #[.int .i64 m] w fun e w'=>e=.returned (.bool true)∧w=w':=by
 go_enter func55,ntmps55
 go_wp2
 go_ret
 exact⟨rfl,rfl⟩
def Z88:List Int:=[0,1,2,3,4,5,6,1,1,2,3,4,5,6,2,2,2,4,4,6,6,3,3,4,3,4,5,6,4,4,4,4,4,6,6,5,5,6,5,6,5,6,6,6,6,6,6,6,6]
def Z5l:Array Value:=(Z88.map (Value.int .i64)).toArray
def Z27(a b:Int):Int:=Z88.getD (a.toNat*7+b.toNat) 0
theorem Z8b(a b:Int)(ha:0≤a)(ha':a<7)(hb:0≤b)(hb':b<7):Z5l[a.toNat*7+b.toNat]?=some (.int .i64 (Z27 a b)):=by
 have h:a.toNat*7+b.toNat<Z88.length:=by show _<49;omega
 unfold Z5l Z27
 simp[List.getElem?_eq_getElem h,List.getD]
def Z7k:List Bool:=[true,true,true,true,true,true,true,true,true,true,true,true,true,false,true,true,true,false,false,false,false,true,true,false,true,false,true,false,true,true,false,false,false,false,false,true,true,false,true,false,false,false,true,false,false,false,false,false,false]
def Z0n:Array Value:=(Z7k.map Value.bool).toArray
def Z0m(a b:Int):Bool:=Z7k.getD (a.toNat*7+b.toNat) false
theorem Z3d(a b:Int)(ha:0≤a)(ha':a<7)(hb:0≤b)(hb':b<7):Z0n[a.toNat*7+b.toNat]?=some (.bool (Z0m a b)):=by
 have h:a.toNat*7+b.toNat<Z7k.length:=by show _<49;omega
 unfold Z0n Z0m
 simp[List.getElem?_eq_getElem h,List.getD]
theorem Z62:(prog.info? 94).map (·.size)=some 49:=by kernel_rfl
theorem Z7l:Z0n.all (·.oneCell')=true:=by kernel_rfl
theorem Z7m(a b:Int)(w:World)(ha:0≤a)(ha':a<7)(hb:0≤b)(hb':b<7) :
  Calls prog 42 #[.int .i64 a,.int .i64 b] w fun e w'=>e=.returned (.bool (Z0m a b))∧Nw w w':=by
 have hT:=Z3d a b ha ha' hb hb'
 go_enter func42,ntmps42
 go_wp2_with (first | (go_at_call 55;refine(Z3q _ _ (by omega) (by omega)).mono ?_;rintro e w' ⟨rfl,rfl⟩) | (refine wpList_store_row rfl 94 _ _ rfl _ Z0n rfl rfl 94 _ (heap_alloc_last _ _) Z62 rfl Z7l ?_;rw[World.setRow_alloc_new]))
 go_ret
 exact⟨rfl,(Nw.refl _).alloc _⟩
end
structure Rq where
 id:Int
 txn:Int
 md:Int
 wt:Int
 sn:Int
def knI(m:Int):Bool:=decide (0≤m)&&decide (m<7)
def cpI(a b:Int):Bool:=(knI a&&knI b)&&Z0m a b
def cvI(a b:Int):Bool:=(knI a&&knI b)&&(Z27 a b==a)
theorem Z0x(m:Int):knI m=true↔0≤m∧m<7:=by simp[knI]
theorem Z89{p:Int→Int→Bool}(h:∀i<7,∀j<7,p (Int.ofNat i) (Int.ofNat j)=true)(a b:Int)(ha:knI a=true)(hb:knI b=true):p a b=true:=by
 rw[Z0x] at ha hb
 obtain⟨i,rfl⟩:=Int.eq_ofNat_of_zero_le ha.1
 obtain⟨j,rfl⟩:=Int.eq_ofNat_of_zero_le hb.1
 exact h i (by omega) j (by omega)
theorem Z79(a b:Int)(ha:knI a=true)(hb:knI b=true):cpI a b=Z0m a b:=by simp[cpI,ha,hb]
structure Rt(W:Int)(r:Rq):Prop where
 id:0≤r.id
 md:knI r.md=true
 wt:knI r.wt=true
 s0:0≤r.sn
 sW:r.sn≤W
 w:0<r.sn→cvI r.md r.wt=false
 h:r.sn=0→r.md≠0∧r.wt=r.md
structure Pr(a b:Rq):Prop where
 id:a.id≠b.id
 txn:a.txn≠b.txn
 sn:0<a.sn→a.sn≠b.sn
 ord:a.md=0→b.md=0∧a.sn<b.sn
 cp:a.md≠0→b.md≠0→cpI a.md b.md=true
structure Ok(W:Int)(q:List Rq):Prop where
 w0:0≤W
 wB:W≤4611686018427387904
 rt:∀r∈q,Rt W r
 pr:q.Pairwise Pr
theorem Rt.w'{W:Int}{r:Rq}(h:Rt W r)(z:r.md=0):0<r.sn:=by
 have:=h.h
 have h0:=h.s0
 rcases Int.lt_or_eq_of_le h0 with q | q
 ·exact q
 ·exact absurd z (this q.symm).1
def blk(r o:Rq):Bool:=((o.md != 0)&&!cpI o.md r.wt) || ((o.md != 0)&&decide (0<o.sn)&&((r.md==0) || decide (o.sn<r.sn))) || ((r.md==0)&&(o.md==0)&&decide (o.sn<r.sn))
def Z8g(q:List Rq)(r:Rq):Bool:=decide (0<r.sn)&&q.all fun o=>(o.id==r.id) || !blk r o
def chg(f:Rq→Rq)(id:Int)(q:List Rq):List Rq:=q.map fun r=>if r.id=id then f r else r
def Z9c(r:Rq):Rq:=⟨r.id,r.txn,r.wt,r.wt,0⟩
def has(q:List Rq)(id:Int):Bool:=q.any fun r=>r.id==id
def fnd(q:List Rq)(id:Int):Option Rq:=q.find? fun r=>r.id==id
def upF(q:List Rq)(r:Rq)(want:Int):Bool:=q.all fun o=>(o.id==r.id) || (!(decide (0<o.sn)&&(o.md != 0))&&((o.md==0) || cpI o.md want))
def upQ(W:Int)(q:List Rq)(r:Rq)(m:Int):Int × List Rq × Bool :=
 if Z27 r.md m=r.md then(W,q,true)
 else if upF q r (Z27 r.md m)=true then(W,chg (fun x=>⟨x.id,x.txn,Z27 r.md m,Z27 r.md m,0⟩) r.id q,true)
 else(W+1,chg (fun x=>⟨x.id,x.txn,x.md,Z27 r.md m,W+1⟩) r.id q,false)
section
variable {W:Int} {q:List Rq}
theorem Ok.inj(h:Ok W q):∀a∈q,∀b∈q,a.id=b.id→a=b:=by
 have hp:=h.pr
 clear h
 induction hp with
 | nil=>intro a ha;cases ha
 | cons hx _ ih =>
  intro a ha b hb e
  rcases List.mem_cons.1 ha with rfl | ha'
  ·rcases List.mem_cons.1 hb with rfl | hb'
   ·rfl
   ·exact absurd e (hx b hb').id
  ·rcases List.mem_cons.1 hb with rfl | hb'
   ·exact absurd e.symm (hx a ha').id
   ·exact ih a ha' b hb' e
end
section
variable {W:Int} {q:List Rq}
def Z93(q:List Rq):Prop:=∀r∈q,Z8g q r=false
inductive Steps (q0:List Rq):List Int→List Rq→Prop
 | refl:Steps q0 [] q0
 | snoc {ids:List Int} {q:List Rq} {r:Rq} (h:Steps q0 ids q) (hr:r∈q) (hc:Z8g q r=true):Steps q0 (ids++[r.id]) (chg Z9c r.id q)
end
structure Hq where
 t:Int
 r:Int
 W:Int
 q:List Rq
def noH:Hq:=⟨0,0,0,[]⟩
def rtB(W:Int)(r:Rq):Bool:=!(((((decide (r.id<0) || !knI r.md) || !knI r.wt) || decide (r.sn<0)) || decide (W<r.sn)))&&(if 0<r.sn then !cvI r.md r.wt else((r.md != 0)&&(r.wt==r.md)))
def prB(a b:Rq):Bool:=!((((a.id==b.id || a.txn==b.txn) || (decide (0<a.sn)&&a.sn==b.sn)) || ((a.md==0)&&((b.md != 0) || decide (b.sn<a.sn)))) || (((a.md != 0)&&(b.md != 0))&&!cpI a.md b.md))
theorem Z91(W:Int)(r:Rq):rtB W r=true↔Rt W r:=by
 unfold rtB
 simp only[Bool.and_eq_true,Bool.not_eq_true',Bool.or_eq_false_iff,decide_eq_false_iff_not,Bool.not_eq_false',Int.not_lt]
 constructor
 ·rintro⟨⟨⟨⟨⟨h1,h2⟩,h3⟩,h4⟩,h5⟩,h6⟩
  refine⟨h1,h2,h3,h4,h5,fun z=>?_,fun z=>?_⟩
  ·rw[if_pos z] at h6
   simpa using h6
  ·rw[if_neg (by omega)] at h6
   simpa using h6
 ·intro h
  refine⟨⟨⟨⟨⟨h.id,h.md⟩,h.wt⟩,h.s0⟩,h.sW⟩,?_⟩
  by_cases z:0<r.sn
  ·rw[if_pos z];simpa using h.w z
  ·rw[if_neg z]
   have:=h.h (by have:=h.s0;omega)
   simpa using this
theorem Z90{W:Int}{a b:Rq}(ha:Rt W a):prB a b=true↔Pr a b:=by
 unfold prB
 simp only[Bool.not_eq_true',Bool.or_eq_false_iff,Bool.and_eq_false_iff,beq_eq_false_iff_ne,bne_eq_false_iff_eq,decide_eq_false_iff_not,Bool.not_eq_false',Int.not_lt,ne_eq]
 constructor
 ·rintro⟨⟨⟨⟨h1,h2⟩,h3⟩,h4⟩,h5⟩
  refine⟨h1,h2,fun z=>?_,fun z=>?_,fun z y=>?_⟩
  ·rcases h3 with h3 | h3
   ·omega
   ·exact h3
  ·have hs:=ha.w' z
   rcases h4 with h4 | h4
   ·exact absurd z h4
   ·refine⟨h4.1,?_⟩
    rcases h3 with h3 | h3
    ·omega
    ·omega
  ·rcases h5 with(h5 | h5) | h5
   ·exact absurd h5 z
   ·exact absurd h5 y
   ·exact h5
 ·intro h
  refine⟨⟨⟨⟨h.id,h.txn⟩,?_⟩,?_⟩,?_⟩
  ·by_cases z:0<a.sn
   ·exact .inr (h.sn z)
   ·exact .inl (Int.not_lt.1 z)
  ·by_cases z:a.md=0
   ·exact .inr ⟨(h.ord z).1,Int.le_of_lt (h.ord z).2⟩
   ·exact .inl z
  ·by_cases z:a.md=0
   ·exact .inl (.inl z)
   ·by_cases y:b.md=0
    ·exact .inl (.inr y)
    ·exact .inr (h.cp z y)
def upR(h:Hq)(id m:Int):Hq × Bool × Int :=
 if m=0∨knI m=false then(noH,false,2)
 else match fnd h.q id with
 | none=>(noH,false,5)
 | some r=>if 0<r.sn then(noH,false,7) else(⟨h.t,h.r,(upQ h.W h.q r m).1,(upQ h.W h.q r m).2.1⟩,(upQ h.W h.q r m).2.2,0)
def Z02(n:Int):List Int→List Int
 | []=>[n]
 | a::r=>if a<n then a::Z02 n r else if a=n then a::r else n::a::r
def Z1a(q:List Rq)(r:Rq):List Int:=(q.filter fun o=>!(o.id==r.id)&&blk r o).foldl (fun l o=>Z02 o.txn l) []
def Yw(q:List Rq)(id:Int):List Int:=match fnd q id with
 | none=>[]
 | some r=>if 0<r.sn then Z1a q r else[]
theorem Uh(n x:Int):∀l:List Int,x∈Z02 n l↔x=n∨x∈l
 | []=>by simp[Z02]
 | a::r=>by
  unfold Z02
  split
  ·simp only[List.mem_cons,Uh n x r]
   constructor
   ·rintro(h | h | h)
    ·exact .inr (.inl h)
    ·exact .inl h
    ·exact .inr (.inr h)
   ·rintro(h | h | h)
    ·exact .inr (.inl h)
    ·exact .inl h
    ·exact .inr (.inr h)
  split
  ·rename_i e
   simp[←e]
  ·simp
theorem Z1k(x:Int):∀(q:List Rq) (l:List Int),x∈q.foldl (fun l o=>Z02 o.txn l) l↔x∈l∨∃o∈q,o.txn=x
 | [],l=>by simp
 | a::q,l=>by
  rw[List.foldl_cons,Z1k x q,Uh]
  simp only[List.mem_cons,exists_eq_or_imp]
  constructor
  ·rintro((h | h) | h)
   ·exact .inr (.inl h.symm)
   ·exact .inl h
   ·exact .inr (.inr h)
  ·rintro(h | h | h)
   ·exact .inl (.inr h)
   ·exact .inl (.inl h.symm)
   ·exact .inr h
theorem V2(q:List Rq)(r:Rq)(x:Int):x∈Z1a q r↔∃o∈q,o.id≠r.id∧blk r o=true∧o.txn=x:=by
 unfold Z1a
 rw[Z1k]
 simp only[List.not_mem_nil,false_or,List.mem_filter]
 constructor
 ·rintro⟨o,⟨ho,hb⟩,rfl⟩
  simp only[Bool.and_eq_true,Bool.not_eq_true',beq_eq_false_iff_ne] at hb
  exact⟨o,ho,hb.1,hb.2,rfl⟩
 ·rintro⟨o,ho,h1,h2,rfl⟩
  exact⟨o,⟨ho,by simp[h1,h2]⟩,rfl⟩
theorem Vu(n:Int):∀l:List Int,l.Pairwise (·<·)→(Z02 n l).Pairwise (·<·)
 | [],_=>by simp[Z02]
 | a::r,h=>by
  rw[List.pairwise_cons] at h
  unfold Z02
  split
  ·rename_i h1
   rw[List.pairwise_cons]
   refine⟨fun x hx=>?_,Vu n r h.2⟩
   rcases(Uh n x r).1 hx with rfl | hx
   ·exact h1
   ·exact h.1 x hx
  split
  ·rw[List.pairwise_cons];exact h
  ·rename_i h1 h2
   rw[List.pairwise_cons]
   refine⟨fun x hx=>?_,by rw[List.pairwise_cons];exact h⟩
   rcases List.mem_cons.1 hx with rfl | hx
   ·omega
   ·have:=h.1 x hx
    omega
theorem Vr(q:List Rq)(r:Rq):(Z1a q r).Pairwise (·<·):=by
 unfold Z1a
 suffices H:∀(q:List Rq) (l:List Int),l.Pairwise (·<·)→(q.foldl (fun l o=>Z02 o.txn l) l).Pairwise (·<·) from H _ [] .nil
 intro q
 induction q with
 | nil=>intro l h;exact h
 | cons a q ih=>intro l h;exact ih _ (Vu _ _ h)
theorem Z1j{W:Int}{q:List Rq}(h:Ok W q){r:Rq}(hr:r∈q):fnd q r.id=some r:=by
 unfold fnd
 cases e:q.find? fun x=>x.id==r.id with
 | none =>
  rw[List.find?_eq_none] at e
  exact absurd (by simp) (e r hr)
 | some s =>
  have h1:=List.mem_of_find?_eq_some e
  have h2:=List.find?_some e
  rw[h.inj s h1 r hr (by simpa using h2)]
theorem Z50{q:List Rq}{id:Int}{r:Rq}(h:fnd q id=some r):r∈q∧r.id=id:=by
 have h1:=List.mem_of_find?_eq_some h
 have h2:=List.find?_some h
 exact⟨h1,by simpa using h2⟩
structure Z94(h:Hq):Prop where
 ok:Ok h.W h.q
 done:Z93 h.q
theorem Z0o:∀i<7,∀j<7,(Z0m 0 (Int.ofNat j)&&Z0m (Int.ofNat i) 0)=true:=by decide +kernel
theorem Z63(a:Int)(ha:knI a=true):cpI 0 a=true:=by
 have:=Z89 (p:=fun a b=>Z0m 0 b&&Z0m a 0) Z0o a a ha ha
 rw[Z79 0 a rfl ha]
 simp at this
 exact this.1
def Z9d(q:List Rq):List Int:=q.map fun r=>r.id
def Z9f(L:List Bool)(k:Nat):List Nat:=(List.range k).filter fun i=>L.getD i false
def lnt(L:List Bool):List Nat:=Z9f L L.length
def liv(L:List Bool):Nat:=L.countP id
def Z8h(l:List Nat):List Int:=l.map fun n:Nat=>(n:Int)
def nlt(a b:Int × Int):Prop:=a.1<b.1∨(a.1=b.1∧a.2<b.2)
instance (a b:Int × Int):Decidable (nlt a b):=by unfold nlt;infer_instance
theorem Z6i(a:Int × Int):¬nlt a a:=by unfold nlt;omega
theorem Z7x{a b c:Int × Int}(h:nlt a b)(k:nlt b c):nlt a c:=by unfold nlt at *;omega
def nmH(h:Hq):Int × Int:=(h.t,h.r)
abbrev Z97(hs:List Hq):Prop:=hs.Pairwise fun a b=>nlt (nmH a) (nmH b)
def Z9b(hs:List Hq)(nm:Int × Int):Option Hq:=hs.find? fun h=>decide (nmH h=nm)
def Z7h(hs:List Hq):List Int:=hs.flatMap fun h=>Z9d h.q
structure Z9m(most k:Nat)(hs:List Hq)(X:List Int)(L:List Bool):Prop where
 srt:Z97 hs
 len:hs.length≤most
 inv:∀h∈hs,Z94 h
 ne:∀h∈hs,h.q≠[]
 ids:(Z7h hs++X).Perm (Z8h (lnt L))
 wt:∀h∈hs,h.W≤k
 ql:∀h∈hs,h.q.length≤k
section
open Go.RowKit Go.Maps Go.ChangeMaps Go.WideShapes
abbrev wfI(a:Int):Prop:=(Lit.int .i64 a).wf=true
def wfN(a:Int × Int):Prop:=wfI a.1∧wfI a.2
def nmL(a:Int × Int):Lit:=.string (keyBytes [.int .i64 a.1,.int .i64 a.2])
structure Two(P:Program)(k i:TypeId):Prop where
 st : ∃ fs, P.underlying k = some (.struct fs) ∧ (∃ f g, fs.toList = [f, g] ∧ f.type = i ∧ g.type = i ∧ f.offset = 0 ∧ g.offset = 1) ∧ fs.all (·.name != "_") = true
 un:P.underlying i=some (.int .i64)
 ck:P.cellsOf k=2
 ci:P.cellsOf i=1
 sz:∃m,P.types.size=m+1
 kt:P.keyType k=true
end
section
open Go.RowKit Go.Maps Go.ChangeMaps Go.WideShapes
structure Hp where
 h:Hq
 p:Nat
 a:Option Addr
 c:Nat
def Z6n:Value→Option (DataW Unit × List MemPlace)
 | .pointer (some ⟨p,0,none⟩)=>some (.lit (.int .i64 (p:Int)),[])
 | .pointer none=>some (.nil,[])
 | _=>none
def Z9a(x:Hp):Lit × DataW Unit:=(nmL (nmH x.h),.lit (.int .i64 (x.p:Int)))
structure Z9p(w:World)(mb:Nat)(l:List Hp):Prop where
 own:∃es,w.ownsMap prog 57 Z6n mb l.length (.map es)∧es.Perm (l.map Z9a)
 wf:∀x∈l,wfN (nmH x.h)
 ne:l.Pairwise fun x y=>nmH x.h≠nmH y.h
variable {w w':World} {mb:Nat} {l:List Hp}
end
def Z7b(most:Nat)(hs:List Hq)(L:List Bool)(t r:Int):Prop:=(Z9b hs (t,r)=none∧most≤hs.length)∨L.length≤liv L
instance (most:Nat) (hs:List Hq) (L:List Bool) (t r:Int):Decidable (Z7b most hs L t r):=by unfold Z7b;infer_instance
def Z8f(m:Int):Prop:=m=0∨knI m=false
instance (m:Int):Decidable (Z8f m):=by unfold Z8f;infer_instance
section
attribute [local go_sem] Oper.semAt_some
structure BxI{α:Type}(T sz:Nat)(row:α→List Value)(w:World)(c:Nat)(S0 S:Nat→Prop)(v:Value)(pre:List α)(A:World):Prop where
 cell:A.cell? ⟨c,0,none⟩=some v
 froz:A.frozen? ⟨c,0,none⟩=false
 own:Y4 T sz row A (c+1) v pre
 row:∀k,v.ownBlock=some k→¬S k
 box:¬S c
 sub:∀k,S k→S0 k∨w.heap.size≤k
 nw:Nw w A
end
def cP(a b:Int):Int:=if a<b then -1 else if b<a then 1 else 0
theorem Z4g(a b:Int)(h:a<b):cP a b = -1:=if_pos h
theorem Z76(a b:Int)(h:b<a):cP a b=1:=by unfold cP;rw[if_neg (by omega),if_pos h]
theorem Z75(a:Int):cP a a=0:=by unfold cP;simp
theorem Z0v(a:Int)(w:World):Calls prog 31 #[.int .i64 a] w fun e w'=>e=.returned (.bool false)∧w=w':=by
 go_enter func31,ntmps31
 go_wp2
 go_ret
 exact⟨rfl,rfl⟩
theorem U8(a b:Int)(w:World):Calls prog 19 #[.int .i64 a,.int .i64 b] w fun e w'=>e=.returned (.int .i64 (cP a b))∧w=w':=by
 rcases Int.lt_trichotomy a b with h | h | h
 ·rw[Z4g a b h]
  have hd:decide (a<b)=true:=by simpa using h
  go_enter func19,ntmps19
  go_wp2_with (go_at_call 31;refine(Z0v _ _).mono ?_;rintro e w' ⟨rfl,rfl⟩)
  go_ret
  exact⟨rfl,rfl⟩
 ·subst h
  rw[Z75 a]
  go_enter func19,ntmps19
  go_wp2_with (go_at_call 31;refine(Z0v _ _).mono ?_;rintro e w' ⟨rfl,rfl⟩)
  go_ret
  exact⟨rfl,rfl⟩
 ·rw[Z76 a b h]
  have hd:decide (a<b)=false:=by simp;omega
  have hd2:decide (b<a)=true:=by simpa using h
  go_enter func19,ntmps19
  go_wp2_with (go_at_call 31;refine(Z0v _ _).mono ?_;rintro e w' ⟨rfl,rfl⟩)
  go_ret
  exact⟨rfl,rfl⟩
def orP(x y:Int):Int:=if x=0 then y else x
theorem Z8r(b:Nat)(x y:Int)(w:World)(h0:w.cell? ⟨b,0,none⟩=some (.int .i64 x))(h1:w.cell? ⟨b,1,none⟩=some (.int .i64 y)) :
  Calls prog 17 #[.slice (some ⟨b,0,none⟩) 2 2] w fun e w'=>e=.returned (.int .i64 (orP x y))∧w=w':=by
 by_cases hx:x=0
 ·subst hx
  by_cases hy:y=0
  ·subst hy
   go_enter func17,ntmps17
   go_wp2
   refine wp_loop_rounds 3 ?_
   rw[rounds_succ]
   go_wp2
   rw[rounds_succ]
   go_wp2
   rw[rounds_succ]
   go_wp2
   go_ret
   exact⟨rfl,rfl⟩
  ·have hy':(y==0)=false:=by simpa using hy
   have hy2:(y != 0)=true:=by simpa using hy
   go_enter func17,ntmps17
   go_wp2
   refine wp_loop_rounds 3 ?_
   rw[rounds_succ]
   go_wp2
   rw[rounds_succ]
   go_wp2
   go_ret
   exact⟨rfl,rfl⟩
 ·have hx':(x==0)=false:=by simpa using hx
  have hx2:(x != 0)=true:=by simpa using hx
  have e:orP x y=x:=if_neg hx
  rw[e]
  clear hx e
  go_enter func17,ntmps17
  go_wp2
  refine wp_loop_rounds 3 ?_
  rw[rounds_succ]
  go_wp2
  go_ret
  exact⟨rfl,rfl⟩
theorem opH{P:Program}{ops:Array Oper}{Q:Exit→Act→World→Prop}{i:Nat}{o:Oper}{K:Act→World→Prop}{a:Act}{w:World}(ho:ops[i]?=some o)
  (h:∀K':Act→World→Prop,(∀a w,K a w→K' a w)→if Region.wanted o (yielded ops a.tmps)=true then Oper.wp P o a w K' Q else K' (a.put o.dst undef) w):wpOp P ops Q i K a w:=by
 unfold wpOp
 simp only[ho]
 have:=h K (fun _ _ q=>q)
 split
 ·rename_i hw
  rw[if_pos hw] at this
  exact .inl this
 ·rename_i hw
  rw[if_neg hw] at this
  exact this
section
variable {P:Program} {md:Region.Mode} {ops:Array Oper} {Q:Exit→Act→World→Prop} {S:World→Prop}
def Us(md:Region.Mode)(ops:Array Oper)(t i:Nat):Bool:=match ops[t]? with
 | some o=>o.after.any fun e=>Region.binds md e&&e.on==i
 | none=>true
end
section
variable {P:Program} {md:Region.Mode} {ops:Array Oper} {Q:Exit→Act→World→Prop} {S:World→Prop} {ts:List Nat}
def Z8(P:Program)(md:Region.Mode)(ops:Array Oper)(Q:Exit→Act→World→Prop)(S:World→Prop)(ts:List Nat):Nat→Array Bool→Act→World→Prop
 | 0,listed,a,w=>Region.ready md ops listed=[]∧Q .normal a w
 | fuel+1,listed,a,w =>
  (Region.ready md ops listed=[]→Q .normal a w) ∧
  ∀i∈Region.ready md ops listed,wpOp P ops Q i (fun a' w'=>(S w→i∈ts∨S w')∧Z8 P md ops Q S ts fuel (listed.setIfInBounds i true) a' w') a w
theorem Ut:∀(fuel:Nat) (listed:Array Bool) (a:Act) (w:World),Z8 P md ops Q S ts fuel listed a w→wpAny P md ops Q fuel listed a w
 | 0,_,_,_,h=>h
 | fuel+1,_,_,_,h=>⟨h.1,fun i hi=>wpOp_mono (fun a' w' h'=>Ut fuel _ a' w' h'.2) (h.2 i hi)⟩
theorem Z15{i:Nat}{oi:Oper}{v:Value}(hi:ops[i]?=some oi)(ht:(ts.all fun j=>Us md ops j i)=true)(hsel:∀(j:Nat) (o:Oper) cs b,ops[j]?=some o→o.op≠.select cs b)
  (hQ:∀c a w,Q (.panic c) (a.put oi.dst v) w→Q (.panic c) a w) :
  ∀(fuel:Nat) (listed:Array Bool) (a:Act) (w:World),
   (∀j oj,ops[j]?=some oj→j≠i→listed.getD j true=false→(∀e∈oj.after,Region.binds md e=true→e.on≠i)→oi.apart ops oj=true) →
   i∈Region.ready md ops listed→YieldsIf P ops S oi v a→S w →
   Z8 P md ops Q S ts fuel (listed.setIfInBounds i true) (a.put oi.dst v) w→Z8 P md ops Q S ts (fuel+1) listed a w:=by
 intro fuel
 induction fuel with
 | zero =>
  intro listed a w _ hr hy hS H
  refine⟨fun h=>(by rw[h] at hr;cases hr),fun j hj=>?_⟩
  by_cases hji:j=i
  ·subst hji;exact hy.wpOp hi hS ⟨.inr,H⟩
  ·have:=ready_mono hj hji
   rw[H.1] at this
   cases this
 | succ fuel ih =>
  intro listed a w hfree hr hy hS H
  refine⟨fun h=>(by rw[h] at hr;cases hr),fun j hj=>?_⟩
  by_cases hji:j=i
  ·subst hji;exact hy.wpOp hi hS ⟨.inr,H⟩
  ·have h1:=H.2 j (ready_mono hj hji)
   obtain⟨hjun,oj,hoj,hall⟩:=mem_ready.1 hj
   have hnot:∀e∈oj.after,Region.binds md e=true→e.on≠i:=fun e he hb heq=>by
    have h1:=hall e he hb
    have h0:=(mem_ready.1 hr).1
    rw[heq] at h1
    rcases Nat.lt_or_ge i listed.size with h' | h'
    ·simp[h'] at h0 h1;rw[h0] at h1;cases h1
    ·simp[Array.getElem?_eq_none h'] at h1
   have hjt:j∉ts:=fun hjt=>by
    have ht:=List.all_eq_true.1 ht j hjt
    unfold Us at ht
    rw[hoj] at ht
    obtain⟨e,he,hb⟩:=Array.any_eq_true'.1 ht
    rw[Bool.and_eq_true,beq_iff_eq] at hb
    exact hnot e he hb.1 hb.2
   have h2:=wpOp_putIf hoj (hfree j oj hoj hji hjun hnot) (fun cs b=>hsel i oi cs b hi) (fun cs b=>hsel j oj cs b hoj) hQ hy h1
   have hfree':∀k ok,ops[k]?=some ok→k≠i→(listed.setIfInBounds j true).getD k true=false →
     (∀e∈ok.after,Region.binds md e=true→e.on≠i)→oi.apart ops ok=true:=fun k ok hk hki hun hno=>by
    refine hfree k ok hk hki ?_ hno
    by_cases hjk:j=k
    ·subst hjk;exact hjun
    ·rw[getD_set_ne true hjk] at hun;exact hun
   refine wpOp_mono (fun a' w' h3=>⟨h3.2.1,ih (listed.setIfInBounds j true) a' w' hfree' (ready_mono hr (Ne.symm hji)) h3.1 ((h3.2.1 hS).resolve_left hjt) ?_⟩) h2
   rw[Array.setIfInBounds_comm _ _ hji]
   exact h3.2.2
theorem Z16{i:Nat}{oi:Oper}{v:Value}(hi:ops[i]?=some oi)(hsel:∀(j:Nat) (o:Oper) cs b,ops[j]?=some o→o.op≠.select cs b)
  (hQ:∀c a w,Q (.panic c) (a.put oi.dst v) w→Q (.panic c) a w) :
  ∀(fuel:Nat) (listed:Array Bool) (a:Act) (w:World),
   (∀j oj,ops[j]?=some oj→j≠i→listed.getD j true=false→(∀e∈oj.after,Region.binds md e=true→e.on≠i)→oi.apart ops oj=true) →
   i∈Region.ready md ops listed→YieldsIf P ops (fun _=>True) oi v a →
   Z8 P md ops Q S ts fuel (listed.setIfInBounds i true) (a.put oi.dst v) w→Z8 P md ops Q S ts (fuel+1) listed a w:=by
 intro fuel
 induction fuel with
 | zero =>
  intro listed a w _ hr hy H
  refine⟨fun h=>(by rw[h] at hr;cases hr),fun j hj=>?_⟩
  by_cases hji:j=i
  ·subst hji;exact hy.wpOp hi trivial ⟨.inr,H⟩
  ·have:=ready_mono hj hji
   rw[H.1] at this
   cases this
 | succ fuel ih =>
  intro listed a w hfree hr hy H
  refine⟨fun h=>(by rw[h] at hr;cases hr),fun j hj=>?_⟩
  by_cases hji:j=i
  ·subst hji;exact hy.wpOp hi trivial ⟨.inr,H⟩
  ·have h1:=H.2 j (ready_mono hj hji)
   obtain⟨hjun,oj,hoj,hall⟩:=mem_ready.1 hj
   have hnot:∀e∈oj.after,Region.binds md e=true→e.on≠i:=fun e he hb heq=>by
    have h1:=hall e he hb
    have h0:=(mem_ready.1 hr).1
    rw[heq] at h1
    rcases Nat.lt_or_ge i listed.size with h' | h'
    ·simp[h'] at h0 h1;rw[h0] at h1;cases h1
    ·simp[Array.getElem?_eq_none h'] at h1
   have h2:=wpOp_putIf hoj (hfree j oj hoj hji hjun hnot) (fun cs b=>hsel i oi cs b hi) (fun cs b=>hsel j oj cs b hoj) hQ hy h1
   have hfree':∀k ok,ops[k]?=some ok→k≠i→(listed.setIfInBounds j true).getD k true=false →
     (∀e∈ok.after,Region.binds md e=true→e.on≠i)→oi.apart ops ok=true:=fun k ok hk hki hun hno=>by
    refine hfree k ok hk hki ?_ hno
    by_cases hjk:j=k
    ·subst hjk;exact hjun
    ·rw[getD_set_ne true hjk] at hun;exact hun
   refine wpOp_mono (fun a' w' h3=>⟨h3.2.1,ih (listed.setIfInBounds j true) a' w' hfree' (ready_mono hr (Ne.symm hji)) h3.1 ?_⟩) h2
   rw[Array.setIfInBounds_comm _ _ hji]
   exact h3.2.2
theorem Z1(i:Nat){oi:Oper}{fuel:Nat}{listed:Array Bool}{a:Act}{w:World}(hi:ops[i]?=some oi)(ht:(ts.all fun j=>Us md ops j i)=true)
  (hs:Region.noSelect ops=true) (hf:Region.free md ops listed i=true) (hr:(Region.ready md ops listed).contains i=true)
  (hQ:∀v c a w,Q (.panic c) (a.put oi.dst v) w→Q (.panic c) a w) (hS:S w)
  (h:∃v,YieldsIf P ops S oi v a∧Z8 P md ops Q S ts fuel (listed.setIfInBounds i true) (a.put oi.dst v) w):Z8 P md ops Q S ts (fuel+1) listed a w:=by
 obtain⟨v,hy,h⟩:=h
 exact Z15 hi ht (Region.noSelect_spec hs) (hQ v) fuel listed a w (Region.free_spec hi hf) (by simpa using hr) hy hS h
theorem Z0(i:Nat){oi:Oper}{fuel:Nat}{listed:Array Bool}{a:Act}{w:World}(hi:ops[i]?=some oi)
  (hs:Region.noSelect ops=true) (hf:Region.free md ops listed i=true) (hr:(Region.ready md ops listed).contains i=true)
  (hQ:∀v c a w,Q (.panic c) (a.put oi.dst v) w→Q (.panic c) a w)
  (h:∃v,YieldsIf P ops (fun _=>True) oi v a∧Z8 P md ops Q S ts fuel (listed.setIfInBounds i true) (a.put oi.dst v) w):Z8 P md ops Q S ts (fuel+1) listed a w:=by
 obtain⟨v,hy,h⟩:=h
 exact Z16 hi (Region.noSelect_spec hs) (hQ v) fuel listed a w (Region.free_spec hi hf) (by simpa using hr) hy h
theorem Z4{listed:Array Bool}{a:Act}{w:World}(hr:Region.ready md ops listed=[])(h:Q .normal a w) :
  ∀fuel,Z8 P md ops Q S ts fuel listed a w
 | 0=>⟨hr,h⟩
 | _+1=>⟨fun _=>h,by rw[hr];simp⟩
theorem Z3(i:Nat){o:Oper}{fuel:Nat}{listed:Array Bool}{a:Act}{w:World}(hr:Region.ready md ops listed=[i])(ho:ops[i]?=some o)
  (h:∀K':Act→World→Prop,(∀a w,i∈ts∨S w→Z8 P md ops Q S ts fuel (listed.setIfInBounds i true) a w→K' a w)→if Region.wanted o (yielded ops a.tmps)=true then Oper.wp P o a w K' Q else K' (a.put o.dst undef) w):Z8 P md ops Q S ts (fuel+1) listed a w :=
 ⟨fun h0=>absurd (hr▸h0) (by simp),fun j hj=>by
  rw[hr] at hj
  obtain rfl:j=i:=by simpa using hj
  exact opH ho (fun K' hK=>h K' (fun a w q1 q2=>hK a w ⟨fun _=>q1,q2⟩))⟩
theorem Z9{id:Nat}{l:List Oper}{a:Act}{w:World}(ts:List Nat)(S:World→Prop)(hm:P.follows .mixedOrders=true)
  (h:Z8 P .any l.toArray (NoPanic Q) S ts l.toArray.size (Array.replicate l.toArray.size false) a w.drew):(Code.region id l.toArray true).wp P Q a w :=
 wp_region_noPanic (wp_region_any hm (Ut _ _ _ _ h))
end
end Go.Proofs.Ytbefaomgldckdaa
