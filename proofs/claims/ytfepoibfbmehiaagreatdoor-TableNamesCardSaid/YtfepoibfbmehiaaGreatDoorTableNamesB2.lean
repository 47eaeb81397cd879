/- Texts merged: BkB, BdK, BdB, BdC, BkO, BkP, BkQ, BdP, BdD, Rw, BdE, BdF, SortN, BdG, Region -/
import Derived.Test.YtfepoibfbmehiaaGreatDoorTableNamesB1
import Derived.Maps.OwnSet
import Derived.Maps.Range
import Derived.DeepKeys4
import Derived.Sort.MapsRangeIn
import Derived.RegionIn
import Derived.Shelf.SlSortCmp.NoneTotal
import Derived.Deep.RegionHeld3
import Derived.BigQuiet
import Derived.Test.YtfepoibfbmehiaaGreatDoorChecked
import Derived.Deep.QuietTactic
set_option linter.unusedVariables false
set_option maxRecDepth 100000
set_option maxHeartbeats 16000000
namespace Go.Proofs.YtfepoibfbmehiaaGreatDoor
open Go.RowKit _root_.Go.Proofs.Tryz
def Ud(a b:Int × Int):Prop:=a.1<b.1∨(a.1=b.1∧a.2<b.2)
instance (a b:Int × Int):Decidable (Ud a b):=by unfold Ud;infer_instance
theorem Ys(a:Int × Int):¬Ud a a:=by unfold Ud;omega
theorem Z1w{a b c:Int × Int}(h:Ud a b)(k:Ud b c):Ud a c:=by unfold Ud at *;omega
theorem Z2h(a b:Int × Int):Ud a b∨a=b∨Ud b a:=by
 obtain⟨a1,a2⟩:=a
 obtain⟨b1,b2⟩:=b
 unfold Ud
 simp only[Prod.mk.injEq]
 omega
def Za(h:Hq):Int × Int:=(h.t,h.r)
abbrev Yd(hs:List Hq):Prop:=hs.Pairwise fun a b=>Ud (Za a) (Za b)
def Z2y(hs:List Hq)(nm:Int × Int):Option Hq:=hs.find? fun h=>decide (Za h=nm)
def Zz:List Hq→Hq→List Hq
 | [],h=>[h]
 | a::l,h=>if Ud (Za a) (Za h)then a::Zz l h else if Za a=Za h then h::l else h::a::l
def Ze4(hs:List Hq)(nm:Int × Int):List Hq:=hs.filter fun h=>!decide (Za h=nm)
def Zs(hs:List Hq)(id:Int):Option Hq:=hs.find? fun h=>(Va h.q id).isSome
def Z4(hs:List Hq):List Int:=hs.flatMap fun h=>Y8 h.q
theorem Z1r(l m:List Hq):Z4 (l++m)=Z4 l++Z4 m:=by simp[Z4]
theorem Z8p(h:Hq)(l:List Hq):Z4 (h::l)=Y8 h.q++Z4 l:=rfl
theorem Zj1{hs:List Hq}(h:Yd hs)(nm:Int × Int):∃l m,hs=l++m∧(∀x∈l,Ud (Za x) nm)∧(∀x∈m,¬Ud (Za x) nm):=by
 induction hs with
 | nil=>exact⟨[],[],rfl,by simp,by simp⟩
 | cons a hs ih =>
  rw[Yd,List.pairwise_cons] at h
  by_cases e:Ud (Za a) nm
  ·obtain⟨l,m,rfl,h1,h2⟩:=ih h.2
   exact⟨a::l,m,rfl,fun x hx=>by rcases List.mem_cons.1 hx with rfl | hx;exact e;exact h1 x hx,h2⟩
  ·refine⟨[],a::hs,rfl,by simp,fun x hx=>?_⟩
   rcases List.mem_cons.1 hx with rfl | hx
   ·exact e
   ·exact fun k=>e (Z1w (h.1 x hx) k)
theorem Z6u{l m:List Hq}{h:Hq}(h1:∀x∈l,Ud (Za x) (Za h)):Zz (l++m) h=l++Zz m h:=by
 induction l with
 | nil=>rfl
 | cons a l ih =>
  rw[List.cons_append]
  show(if Ud (Za a) (Za h)then a::Zz (l++m) h else _)=_
  rw[if_pos (h1 a (by simp)),ih fun x hx=>h1 x (List.mem_cons_of_mem _ hx)]
  rfl
theorem Zm1{m:List Hq}{h:Hq}(h2:∀x∈m,Ud (Za h) (Za x)):Zz m h=h::m:=by
 cases m with
 | nil=>rfl
 | cons a m =>
  have:=h2 a (by simp)
  show(if Ud (Za a) (Za h)then _ else if Za a=Za h then _ else _)=_
  rw[if_neg (fun k=>Ys _ (Z1w this k)),if_neg (fun e=>by rw[e] at this;exact Ys _ this)]
theorem Zm2{a h:Hq}{m:List Hq}(e:Za a=Za h):Zz (a::m) h=h::m:=by
 show(if Ud (Za a) (Za h)then _ else if Za a=Za h then _ else _)=_
 rw[if_neg (by rw[e];exact Ys _),if_pos e]
theorem Z52{hs:List Hq}{nm:Int × Int}{h:Hq}(e:Z2y hs nm=some h):h∈hs∧Za h=nm:=by
 unfold Z2y at e
 exact⟨List.mem_of_find?_eq_some e,by simpa using List.find?_some e⟩
theorem Zh5{hs:List Hq}{nm:Int × Int}(e:Z2y hs nm=none):∀h∈hs,Za h≠nm:=fun h hh=>by
 unfold Z2y at e
 simpa using List.find?_eq_none.1 e h hh
theorem Zdl{hs:List Hq}(h:Yd hs){a:Hq}(ha:a∈hs):∃l m,hs=l++a::m∧(∀x∈l,Ud (Za x) (Za a))∧(∀x∈m,Ud (Za a) (Za x)):=by
 obtain⟨l,m,rfl⟩:=List.append_of_mem ha
 obtain⟨h1,h2,h3⟩:=List.pairwise_append.1 h
 rw[List.pairwise_cons] at h2
 exact⟨l,m,rfl,fun x hx=>h3 x hx a (by simp),h2.1⟩
theorem Zpf{hs:List Hq}(h:Yd hs){a x:Hq}(ha:a∈hs)(e:Za x=Za a):∃l m,hs=l++a::m∧Zz hs x=l++x::m∧Yd (l++x::m):=by
 obtain⟨l,m,rfl,h1,h2⟩:=Zdl h ha
 refine⟨l,m,rfl,?_,?_⟩
 ·rw[Z6u (fun y hy=>by rw[e];exact h1 y hy),Zm2 e.symm]
 ·obtain⟨g1,g2,g3⟩:=List.pairwise_append.1 h
  rw[List.pairwise_cons] at g2
  refine List.pairwise_append.2 ⟨g1,List.pairwise_cons.2 ⟨fun y hy=>by rw[e];exact h2 y hy,g2.2⟩,fun y hy z hz=>?_⟩
  rcases List.mem_cons.1 hz with rfl | hz
  ·rw[e];exact h1 y hy
  ·exact g3 y hy z (List.mem_cons_of_mem _ hz)
theorem Ziq{hs:List Hq}(h:Yd hs){x:Hq}(hn:∀a∈hs,Za a≠Za x):∃l m,hs=l++m∧Zz hs x=l++x::m∧Yd (l++x::m):=by
 obtain⟨l,m,rfl,h1,h2⟩:=Zj1 h (Za x)
 have h3:∀y∈m,Ud (Za x) (Za y):=fun y hy=>by
  rcases Z2h (Za x) (Za y)with q | q | q
  ·exact q
  ·exact absurd q.symm (hn y (List.mem_append_right _ hy))
  ·exact absurd q (h2 y hy)
 refine⟨l,m,rfl,by rw[Z6u h1,Zm1 h3],?_⟩
 obtain⟨g1,g2,g3⟩:=List.pairwise_append.1 h
 refine List.pairwise_append.2 ⟨g1,List.pairwise_cons.2 ⟨h3,g2⟩,fun y hy z hz=>?_⟩
 rcases List.mem_cons.1 hz with rfl | hz
 ·exact h1 y hy
 ·exact g3 y hy z hz
theorem Zo4{hs:List Hq}(h:Yd hs){a:Hq}(ha:a∈hs):∃l m,hs=l++a::m∧Ze4 hs (Za a)=l++m∧Yd (l++m):=by
 obtain⟨l,m,rfl,h1,h2⟩:=Zdl h ha
 have e1:l.filter (fun h=>!decide (Za h=Za a))=l:=List.filter_eq_self.2 fun x hx=>by
  have:=h1 x hx
  simp only[Bool.not_eq_true',decide_eq_false_iff_not]
  intro e
  rw[e] at this
  exact Ys _ this
 have e2:m.filter (fun h=>!decide (Za h=Za a))=m:=List.filter_eq_self.2 fun x hx=>by
  have:=h2 x hx
  simp only[Bool.not_eq_true',decide_eq_false_iff_not]
  intro e
  rw[e] at this
  exact Ys _ this
 refine⟨l,m,rfl,?_,List.Pairwise.sublist (List.Sublist.append_left (List.sublist_cons_self _ _) _) h⟩
 unfold Ze4
 rw[List.filter_append,e1]
 simp[e2]
structure Ze(most k:Nat)(hs:List Hq)(X:List Int)(L:List Bool):Prop where
 srt:Yd hs
 len:hs.length≤most
 inv:∀h∈hs,Z74 h
 ne:∀h∈hs,h.q≠[]
 ids:(Z4 hs++X).Perm (Zj (lnt L))
 wt:∀h∈hs,h.W≤k
 ql:∀h∈hs,h.q.length≤k
theorem Z9v(n:Nat):lnt (List.replicate n false)=[]:=by
 rw[List.eq_nil_iff_forall_not_mem]
 intro x hx
 obtain⟨h,e⟩:=(Vr _ x).1 hx
 simp at e
theorem Zb1(most:Nat){X:List Int}{L:List Bool}(h:X.Perm (Zj (lnt L))):Ze most 0 [] X L:=⟨by simp[Yd],by simp,by simp,by simp,h,by simp,by simp⟩
theorem Zfw(most:Nat)(n:Nat):Ze most 0 [] [] (List.replicate n false):=Zb1 most (by rw[Z9v];exact .refl _)
theorem Ze.more{most k k':Nat}{hs:List Hq}{X:List Int}{L:List Bool}(h:Ze most k hs X L)(hk:k≤k'):Ze most k' hs X L:=⟨h.srt,h.len,h.inv,h.ne,h.ids,fun x hx=>by have:=h.wt x hx;omega,fun x hx=>by have:=h.ql x hx;omega⟩
theorem Zd9{L:List Bool}{id:Int}:id∈Zj (lnt L)↔hsL L id=true:=by
 unfold Zj
 rw[List.mem_map]
 constructor
 ·rintro⟨n,hn,rfl⟩
  obtain⟨h1,h2⟩:=(Vr L n).1 hn
  simp[hsL,h1,h2]
 ·intro e
  unfold hsL at e
  simp only[Bool.and_eq_true,decide_eq_true_eq] at e
  obtain⟨i,rfl⟩:=Int.eq_ofNat_of_zero_le e.1
  exact⟨i,(Vr L i).2 (Z7q (by simpa using e.2)),rfl⟩
theorem Ze.all{most k:Nat}{hs:List Hq}{X:List Int}{L:List Bool}(h:Ze most k hs X L){id:Int}:(id∈Z4 hs∨id∈X)↔hsL L id=true:=by
 rw[←Zd9,←h.ids.mem_iff,List.mem_append]
theorem Ze.mem{most k:Nat}{hs:List Hq}{X:List Int}{L:List Bool}(h:Ze most k hs X L){id:Int}(hi:id∈Z4 hs):hsL L id=true:=h.all.1 (.inl hi)
theorem Zjz(hs:List Hq):(Z4 hs).length=(hs.map fun x=>x.q.length).sum:=by
 unfold Z4
 rw[List.length_flatMap]
 congr 1
 apply List.map_congr_left
 intro x _
 simp[Y8]
theorem Vs{hs:List Hq}{id:Int}{h:Hq}(e:Zs hs id=some h):h∈hs∧∃r,Va h.q id=some r:=by
 unfold Zs at e
 have q:=List.find?_some e
 exact⟨List.mem_of_find?_eq_some e,Option.isSome_iff_exists.1 (by simpa using q)⟩
theorem Zlv{hs:List Hq}{id:Int}(e:Zs hs id=none):id∉Z4 hs:=fun hx=>by
 obtain⟨h,hh,hi⟩:=List.mem_flatMap.1 hx
 have:=List.find?_eq_none.1 e h hh
 obtain⟨r,hr⟩:=Z95.2 hi
 simp[hr] at this
theorem Z9w{L:List Bool}(h:Zm L<L.length):(Zj (lnt (tkL L))).Perm ((Zm L:Int)::Zj (lnt L)):=by
 have hp:(lnt (tkL L)).Perm (Zm L::lnt L):=by
  have nf:Zm L∉lnt L:=fun q=>by
   obtain⟨_,e⟩:=(Vr L _).1 q
   rw[Ur L h] at e;cases e
  refine(List.perm_ext_iff_of_nodup (Vt (Z47 _)) (List.nodup_cons.2 ⟨nf,Vt (Z47 L)⟩)).2 fun x=>?_
  rw[List.mem_cons,Vr,Vr]
  have hs:tkL L=L.set (Zm L) true:=by unfold tkL;rw[if_pos h]
  constructor
  ·rintro⟨h1,h2⟩
   have hx:x<L.length:=by rw[Vi] at h1;exact h1
   by_cases e:x=Zm L
   ·exact .inl e
   ·refine .inr ⟨hx,?_⟩
    simp only[hs] at h2
    rwa [List.getElem_set_ne (fun q=>e q.symm)] at h2
  ·rintro(rfl | ⟨h1,h2⟩)
   ·exact⟨by rw[Vi];exact h,by simp[hs]⟩
   ·refine⟨by rw[Vi];exact h1,?_⟩
    simp only[hs]
    by_cases e:Zm L=x
    ·subst e;simp
    ·rw[List.getElem_set_ne e];exact h2
 exact hp.map _
theorem Z9u{L:List Bool}{p:Nat}(h:p<L.length)(e:L[p]=true):((p:Int)::Zj (lnt (L.set p false))).Perm (Zj (lnt L)):=by
 have hp:(p::lnt (L.set p false)).Perm (lnt L):=by
  have nf:p∉lnt (L.set p false):=fun q=>by
   obtain⟨_,e2⟩:=(Vr _ _).1 q
   simp at e2
  refine(List.perm_ext_iff_of_nodup (List.nodup_cons.2 ⟨nf,Vt (Z47 _)⟩) (Vt (Z47 L))).2 fun x=>?_
  rw[List.mem_cons,Vr,Vr]
  constructor
  ·rintro(rfl | ⟨h1,h2⟩)
   ·exact⟨h,e⟩
   ·have hx:x<L.length:=by simpa using h1
    by_cases q:p=x
    ·subst q;simp at h2
    ·rw[List.getElem_set_ne q] at h2;exact⟨hx,h2⟩
  ·rintro⟨h1,h2⟩
   by_cases q:x=p
   ·exact .inl q
   ·exact .inr ⟨by simpa using h1,by rw[List.getElem_set_ne (fun r=>q r.symm)];exact h2⟩
 exact hp.map _
section
open Go.RowKit Go.Maps Go.ChangeMaps Go.WideShapes
abbrev wfI(a:Int):Prop:=(Lit.int .i64 a).wf=true
def wfN(a:Int × Int):Prop:=wfI a.1∧wfI a.2
def nmV(a:Int × Int):Value:=.agg #[.int .i64 a.1,.int .i64 a.2]
def nmL(a:Int × Int):Lit:=.string (keyBytes [.int .i64 a.1,.int .i64 a.2])
structure Two(P:Program)(k i:TypeId):Prop where
 st : ∃ fs, P.underlying k = some (.struct fs) ∧ (∃ f g, fs.toList = [f, g] ∧ f.type = i ∧ g.type = i ∧ f.offset = 0 ∧ g.offset = 1) ∧ fs.all (·.name != "_") = true
 un:P.underlying i=some (.int .i64)
 ck:P.cellsOf k=2
 ci:P.cellsOf i=1
 sz:∃m,P.types.size=m+1
 kt:P.keyType k=true
theorem Two.lits{P:Program}{k i:TypeId}(T:Two P k i)(u v:Value):P.keyLits (P.types.size+1) k [u,v]=(match u,v with
  | .int q a,.int r b=>if (q=.i64∧wfI a)∧r=.i64∧wfI b then some [.int .i64 a,.int .i64 b] else none
  | _,_=>none):=by
 obtain⟨⟨fs,hk,⟨f,g,hf,t1,t2,o1,o2⟩,ha⟩,hi,c2,c1,⟨m,hm⟩,kt⟩:=T
 rw[hm]
 simp only[Program.keyLits,hk,c2,ha,hf,List.length_cons,List.length_nil,and_self,if_true,List.mapM_cons,List.mapM_nil,t1,t2,o1,o2,c1,hi,List.drop_zero,List.take_succ_cons,List.take_zero,List.drop_succ_cons]
 cases u<;>cases v<;>simp
 rename_i q a r b
 by_cases h1:q=.i64∧(Lit.int .i64 a).wf=true<;>by_cases h2:r=.i64∧(Lit.int .i64 b).wf=true<;>simp[h1,h2,wfI]
theorem Two.key{P:Program}{k i:TypeId}(T:Two P k i){a:Int × Int}(h:wfN a):keyOf P k (nmV a)=some (nmL a):=by
 obtain⟨h1,h2⟩:=h
 have hl:=T.lits (.int .i64 a.1) (.int .i64 a.2)
 obtain⟨⟨fs,hk,_⟩,hi,c2,c1,_,kt⟩:=T
 have hf:(nmV a).formed P k=true:=by simp[nmV,Value.formed,hk,c2]
 unfold keyOf
 simp only[hk,kt,hf,Bool.and_self,if_true]
 rw[show(nmV a).cells.toList=[.int .i64 a.1,.int .i64 a.2] from rfl,hl]
 simp[h1,h2,nmL]
theorem Two.inv{P:Program}{k i:TypeId}(T:Two P k i){key:Value}{kl:Lit}(h:keyOf P k key=some kl):∃a:Int × Int,key=nmV a∧wfN a:=by
 have hl:=T.lits
 obtain⟨⟨fs,hk,_⟩,hi,c2,c1,_,kt⟩:=T
 unfold keyOf at h
 simp only[hk] at h
 split at h
 ·rename_i hc
  simp only[Bool.and_eq_true] at hc
  obtain⟨_,hf⟩:=hc
  obtain⟨c,rfl⟩:∃c:Array Value,key=.agg c:=by
   cases key<;>simp[Value.formed,hk] at hf
   exact⟨_,rfl⟩
  simp only[Value.formed,hk,c2,beq_iff_eq] at hf
  obtain⟨c⟩:=c
  have hl2:c.length=2:=by simpa using hf
  obtain⟨u,v,rfl⟩:∃u v,c=[u,v]:=by
   match c,hl2 with
   | [u,v],_=>exact⟨u,v,rfl⟩
  rw[show(Value.agg ⟨[u,v]⟩).cells.toList=[u,v] from rfl,hl] at h
  cases u<;>cases v<;>simp at h
  rename_i q a r b
  obtain⟨⟨⟨rfl,w1⟩,rfl,w2⟩,_⟩:=h
  exact⟨(a,b),rfl,w1,w2⟩
 ·cases h
end
section
open Go.RowKit Go.Maps Go.ChangeMaps Go.WideShapes
theorem Zin{k n:Nat}(h:k<n):∃m,n=m+1:=⟨n-1,by omega⟩
theorem Zi0:laidOutB prog=true:=by kernel_rfl
theorem Zqw:(33:TypeId)<prog.types.size:=of_decide_eq_true (by kernel_rfl)
theorem Zr1:(match prog.underlying 33 with | some (.array _ _) | some (.struct _)=>true | _=>false)=true:=by rw[underlying33]
theorem Z9q:Keyed prog 33:=Keyed.of_law (deep_law_laid Zi0 (m:=3) (by omega) Zqw (by kernel_rfl) Zr1)
theorem Zqy:Two prog 33 3 where
 st:=⟨_,underlying33,⟨_,_,rfl,rfl,rfl,rfl,rfl⟩,by kernel_rfl⟩
 un:=underlying3
 ck:=by kernel_rfl
 ci:=by kernel_rfl
 sz:=Zin Zqw
 kt:=by kernel_rfl
theorem Z9o{a:Int × Int}(h:wfN a):keyOf prog 33 (nmV a)=some (nmL a):=Zqy.key h
theorem Zda{a b:Int × Int}(e:nmV a=nmV b):a=b:=by
 simp only[nmV,Value.agg.injEq,Array.mk.injEq,List.cons.injEq,Value.int.injEq,true_and,and_true] at e
 exact Prod.ext e.1 e.2
theorem Z48{a b:Int × Int}(h:wfN a)(k:wfN b)(e:nmL a=nmL b):a=b:=Zda (Z9q.inj (Z9o h) (e▸Z9o k))
theorem Z7y(a:Int × Int):WideAt.IsKeyLit (nmL a):=trivial
theorem Zdb{key:Value}{kl:Lit}(h:keyOf prog 33 key=some kl):∃a:Int × Int,key=nmV a∧wfN a:=Zqy.inv h
end
section
open Go.RowKit Go.Maps Go.ChangeMaps Go.WideShapes
structure Hp where
 h:Hq
 p:Nat
 a:Option Addr
 c:Nat
abbrev ptP(x:Hp):Value:=.pointer (some ⟨x.p,0,none⟩)
def Ue:Value→Option (DataW Unit × List MemPlace)
 | .pointer (some ⟨p,0,none⟩)=>some (.lit (.int .i64 (p:Int)),[])
 | .pointer none=>some (.nil,[])
 | _=>none
theorem Z11{v:Value}{p:Nat}{ps:List MemPlace}(h:Ue v=some (.lit (.int .i64 (p:Int)),ps)):v=.pointer (some ⟨p,0,none⟩):=by
 unfold Ue at h
 split at h
 ·injection h with h
  injection h with h1 _
  injection h1 with h1
  injection h1 with _ h1
  rw[show _=p from Int.ofNat.inj h1]
 ·injection h with h
  injection h with h1 _
  cases h1
 ·cases h
theorem Z3m{v:Value}{ps:List MemPlace}(h:Ue v=some (.nil,ps)):v=.pointer none:=by
 unfold Ue at h
 split at h
 ·injection h with h
  injection h with h1 _
  cases h1
 ·rfl
 ·cases h
def Z2x(x:Hp):Lit × DataW Unit:=(nmL (Za x.h),.lit (.int .i64 (x.p:Int)))
structure Zl(w:World)(mb:Nat)(l:List Hp):Prop where
 own:∃es,w.ownsMap prog 33 Ue mb l.length (.map es)∧es.Perm (l.map Z2x)
 wf:∀x∈l,wfN (Za x.h)
 ne:l.Pairwise fun x y=>Za x.h≠Za y.h
theorem Zju(w:World):(zeroValue 129).run prog w=.ok (.pointer none) w:=by kernel_rfl
variable {w w':World} {mb:Nat} {l:List Hp}
theorem Zl.kept{row:Option Nat}(h:Zl w mb l)(hg:w.grownBy w' row)(hne:some mb≠row):Zl w' mb l:=by
 obtain⟨⟨es,h1,h2⟩,h3,h4⟩:=h
 exact⟨⟨es,h1.kept hg hne,h2⟩,h3,h4⟩
theorem Zl.nw(h:Zl w mb l)(g:Nw w w'):Zl w' mb l:=h.kept (g.grownBy none) (by simp)
theorem Zl.lt(h:Zl w mb l):mb<w.heap.size:=by obtain⟨⟨es,h1,_⟩,_⟩:=h;exact h1.lt
theorem Zl.same(h:Zl w mb l)(e:w'.heap[mb]?=w.heap[mb]?):Zl w' mb l:=by
 obtain⟨⟨es,⟨a,c,h1,h2⟩,h3⟩,h4,h5⟩:=h
 exact⟨⟨es,⟨a,c,e.trans h1,h2⟩,h3⟩,h4,h5⟩
theorem Zl.tch{S:Nat→Prop}(h:Zl w mb l)(t:Z3 S w w')(hS:¬S mb):Zl w' mb l:=h.same (t.block mb h.lt hS)
theorem Zl.perm{l':List Hp}(h:Zl w mb l)(p:l.Perm l'):Zl w mb l':=by
 obtain⟨⟨es,h1,h2⟩,h3,h4⟩:=h
 exact⟨⟨es,by rw[←p.length_eq];exact h1,h2.trans (p.map Z2x)⟩,fun x hx=>h3 x (p.mem_iff.2 hx),(p.pairwise_iff (fun {a b} (e:Za a.h≠Za b.h)=>e.symm)).1 h4⟩
theorem Zl.made(w:World):Zl (w.alloc (.map #[] 0)) w.heap.size []:=⟨⟨[],World.ownsMap_made _ _ _ _,by simp⟩,by simp,by simp⟩
def Uj(l:List Hp)(a:Int × Int):Option Hp:=l.find? fun x=>decide (Za x.h=a)
theorem Yi{a:Int × Int}{x:Hp}(e:Uj l a=some x):x∈l∧Za x.h=a:=⟨List.mem_of_find?_eq_some e,by simpa using List.find?_some e⟩
theorem Z2z{a:Int × Int}(e:Uj l a=none):∀x∈l,Za x.h≠a:=fun x hx=>by
 have:=List.find?_eq_none.1 e x hx
 simpa using this
theorem Zcw(h4:l.Pairwise fun x y=>Za x.h≠Za y.h){x:Hp}(hx:x∈l):Uj l (Za x.h)=some x:=by
 cases e:Uj l (Za x.h) with
 | none=>exact absurd rfl (Z2z e x hx)
 | some y =>
  obtain⟨hy,hn⟩:=Yi e
  by_cases q:y=x
  ·rw[q]
  ·exfalso
   have:∀ {l:List Hp},(l.Pairwise fun x y=>Za x.h≠Za y.h)→x∈l→y∈l→False:=by
    intro l hp
    induction l with
    | nil=>intro hx;cases hx
    | cons z t ih =>
     intro hx hy
     obtain⟨p1,p2⟩:=List.pairwise_cons.1 hp
     rcases List.mem_cons.1 hx with rfl | hx'
     ·rcases List.mem_cons.1 hy with rfl | hy'
      ·exact q rfl
      ·exact p1 y hy' hn.symm
     ·rcases List.mem_cons.1 hy with rfl | hy'
      ·exact p1 x hx' hn
      ·exact ih p2 hx' hy'
   exact this h4 hx hy
theorem Z4i{α:Type}{f:α→Bool}{l l':List α}(p:l.Perm l'):l.any f=l'.any f:=by
 rw[Bool.eq_iff_iff,List.any_eq_true,List.any_eq_true]
 exact⟨fun⟨x,hx,h⟩=>⟨x,p.mem_iff.1 hx,h⟩,fun⟨x,hx,h⟩=>⟨x,p.mem_iff.2 hx,h⟩⟩
theorem Zl.has_iff(h3:∀x∈l,wfN (Za x.h)){es:List (Lit × DataW Unit)}(h2:es.Perm (l.map Z2x)){a:Int × Int}(wa:wfN a):Maps.has (DataW.map es) (nmL a)=(Uj l a).isSome:=by
 rw[has_eq,Z4i h2,List.any_map]
 cases e:Uj l a with
 | none =>
  simp only[Option.isSome_none,List.any_eq_false,Function.comp]
  intro x hx hs
  exact Z2z e x hx (Z48 (h3 x hx) wa (WideAt.sameKey_eq hs))
 | some x =>
  obtain⟨hx,rfl⟩:=Yi e
  simp only[Option.isSome_some,List.any_eq_true,Function.comp]
  exact⟨x,hx,WideAt.sameKey_self (Z7y _)⟩
theorem Zl.at_iff(h3:∀x∈l,wfN (Za x.h))(h4:l.Pairwise fun x y=>Za x.h≠Za y.h){es:List (Lit × DataW Unit)}(h2:es.Perm (l.map Z2x)){x:Hp}(hx:x∈l)(z:DataW Unit):(DataW.map es).atKey (nmL (Za x.h)) z=.lit (.int .i64 (x.p:Int)):=by
 unfold DataW.atKey
 simp only
 cases e:es.find? (fun p=>p.1.sameKey (nmL (Za x.h))) with
 | none =>
  exfalso
  have:=List.find?_eq_none.1 e (Z2x x) (h2.mem_iff.2 (List.mem_map.2 ⟨x,hx,rfl⟩))
  exact this (WideAt.sameKey_self (Z7y _))
 | some p =>
  have hm:=h2.mem_iff.1 (List.mem_of_find?_eq_some e)
  obtain⟨y,hy,rfl⟩:=List.mem_map.1 hm
  have hn:=Z48 (h3 y hy) (h3 x hx) (WideAt.sameKey_eq (List.find?_some (p:=fun p:Lit × DataW Unit=>p.1.sameKey (nmL (Za x.h))) e))
  have e1:=Zcw h4 hy
  rw[hn,Zcw h4 hx] at e1
  rw[Option.some.inj e1]
  rfl
theorem Zl.look_yes(h:Zl w mb l){a:Int × Int}(wa:wfN a){x:Hp}(e:Uj l a=some x) :
  (Instr.lookup 96 (.map (some mb)) (nmV a) true).run prog w=.ok (.tuple #[ptP x,.bool true]) w:=by
 obtain⟨⟨es,o,h2⟩,h3,h4⟩:=h
 obtain⟨v,ps,hr,hv⟩:=o.look_ok (t:=96) Z9q underlying96 (Zju w) (zd:=.nil) (zp:=[]) rfl (Z9o wa)
 obtain⟨hx,rfl⟩:=Yi e
 rw[Zl.at_iff h3 h4 h2 hx] at hv
 rw[Z11 hv,Zl.has_iff h3 h2 wa,e] at hr
 exact hr
theorem Zl.look_no(h:Zl w mb l){a:Int × Int}(wa:wfN a)(e:Uj l a=none) :
  (Instr.lookup 96 (.map (some mb)) (nmV a) true).run prog w=.ok (.tuple #[.pointer none,.bool false]) w:=by
 obtain⟨⟨es,o,h2⟩,h3,h4⟩:=h
 obtain⟨v,ps,hr,hv⟩:=o.look_ok (t:=96) Z9q underlying96 (Zju w) (zd:=.nil) (zp:=[]) rfl (Z9o wa)
 have hh:Maps.has (DataW.map es) (nmL a)=false:=by rw[Zl.has_iff h3 h2 wa,e];rfl
 rw[atKey_of_not_has hh] at hv
 rw[Z3m hv,hh] at hr
 exact hr
theorem Zl.look(h:Zl w mb l){x:Hp}(hx:x∈l) :
  (Instr.lookup 96 (.map (some mb)) (nmV (Za x.h)) false).run prog w=.ok (ptP x) w:=by
 obtain⟨⟨es,o,h2⟩,h3,h4⟩:=h
 obtain⟨v,ps,hr,hv⟩:=o.lookup (t:=96) Z9q underlying96 (Zju w) (zd:=.nil) (zp:=[]) rfl (Z9o (h3 x hx))
 rw[Zl.at_iff h3 h4 h2 hx] at hv
 rw[Z11 hv] at hr
 exact hr
theorem Zl.len(h:Zl w mb l)(ty:TypeId):(Builtin.len_ #[96] ty #[.map (some mb)]).run prog w=.ok (.int .i64 l.length) w:=by
 obtain⟨⟨es,o,h2⟩,h3,h4⟩:=h
 have:=o.len (t:=96) underlying96 ty
 rw[size_eq,h2.length_eq,List.length_map] at this
 exact this
theorem Z19{P:Program}{k:TypeId}{R:Value→Option (DataW Unit × List MemPlace)}{n m:Nat}{D:DataW Unit}(h:w.ownsMap P k R mb n D)(hm:Maps.size D=m):w.ownsMap P k R mb m D:=by
 obtain⟨es,clock,h1,h2,h3,rfl⟩:=h
 refine⟨es,clock,h1,h2,?_,rfl⟩
 simp only[size_eq,length_sorted,List.length_map,Array.length_toList] at hm
 omega
def Zew(l:List Hp)(x:Hp):List Hp:=x::l.filter fun y=>!decide (Za y.h=Za x.h)
def Z3t(l:List Hp)(a:Int × Int):List Hp:=l.filter fun y=>!decide (Za y.h=a)
theorem Z92(h3:∀x∈l,wfN (Za x.h)){a:Int × Int}(wa:wfN a):(l.map Z2x).filter (notKey (nmL a))=(Z3t l a).map Z2x:=by
 unfold Z3t
 induction l with
 | nil=>rfl
 | cons y t ih =>
  have ih':=ih (fun x hx=>h3 x (List.mem_cons_of_mem _ hx))
  have e:notKey (nmL a) (Z2x y)=!decide (Za y.h=a):=by
   unfold notKey Z2x
   by_cases q:Za y.h=a
   ·subst q
    rw[WideAt.sameKey_self (Z7y _)]
    simp
   ·have:(nmL (Za y.h)).sameKey (nmL a)=false:=sameKey_ne (fun e=>q (Z48 (h3 y (by simp)) wa e))
    rw[this]
    simp[q]
  rw[List.map_cons,List.filter_cons,List.filter_cons,e,ih']
  split<;>simp
theorem Zl.put(h:Zl w mb l)(hn:l.length<1000)(x:Hp)(wa:wfN (Za x.h)) :
  ∃w',(Instr.mapUpdate 96 (.map (some mb)) (nmV (Za x.h)) (ptP x)).run prog w=.ok () w'∧Zl w' mb (Zew l x)∧w.mapTurned w' mb:=by
 obtain⟨⟨es,o,h2⟩,h3,h4⟩:=h
 obtain⟨w',hr,o',hg⟩:=o.store (t:=96) Z9q underlying96 (by unfold maxLen;omega) (Z9o wa) (val:=ptP x) (d:=.lit (.int .i64 (x.p:Int))) (ps:=[]) rfl
 have hp:(putKey (nmL (Za x.h)) (.lit (.int .i64 (x.p:Int))) es).Perm ((Zew l x).map Z2x):=by
  unfold putKey Zew
  refine(insert_perm _ _).trans ?_
  rw[List.map_cons]
  refine List.Perm.cons _ ?_
  rw[show(l.filter fun y=>!decide (Za y.h=Za x.h))=Z3t l (Za x.h) from rfl,←Z92 h3 wa]
  exact h2.filter _
 refine⟨w',hr,⟨⟨_,Z19 o' ?_,hp⟩,fun y hy=>?_,?_⟩,hg⟩
 ·show(putKey (nmL (Za x.h)) (.lit (.int .i64 (x.p:Int))) es).length=_
  rw[hp.length_eq,List.length_map]
 ·rcases List.mem_cons.1 hy with rfl | hy
  ·exact wa
  ·exact h3 y ((List.mem_filter.1 hy).1)
 ·refine List.pairwise_cons.2 ⟨fun y hy e=>?_,h4.filter _⟩
  have:=(List.mem_filter.1 hy).2
  simp[e] at this
theorem Zl.del(h:Zl w mb l){a:Int × Int}(wa:wfN a)(ty:TypeId) :
  ∃w',(Builtin.delete_ #[96,33] ty #[.map (some mb),nmV a]).run prog w=.ok (.tuple #[]) w'∧Zl w' mb (Z3t l a)∧w.mapTurned w' mb:=by
 obtain⟨⟨es,o,h2⟩,h3,h4⟩:=h
 obtain⟨w',hr,o',hg⟩:=o.drop (t:=96) Z9q underlying96 (Z9o wa) ty
 have hp:(delKey (nmL a) es).Perm ((Z3t l a).map Z2x):=by
  unfold delKey
  rw[←Z92 h3 wa]
  exact h2.filter _
 refine⟨w',hr,⟨⟨_,Z19 o' ?_,hp⟩,fun y hy=>h3 y ((List.mem_filter.1 hy).1),h4.filter _⟩,hg⟩
 show(delKey (nmL a) es).length=_
 rw[hp.length_eq,List.length_map]
theorem Vg(h:w.mapTurned w' mb):Z3 (fun b=>b=mb) w w':=by
 have g:=h.grown
 exact⟨g.os,g.tape,g.output,g.size,fun k hk hn=>g.block k hk (fun e=>hn (Option.some.inj e))⟩
end
def hdB(hs:List Hq)(t r:Int):Hq:=(Z2y hs (t,r)).getD ⟨t,r,0,[]⟩
def twB(hs:List Hq)(t r txn:Int):Bool:=(hdB hs t r).q.any fun x=>x.txn==txn
def Z2a(most:Nat)(hs:List Hq)(L:List Bool)(t r:Int):Prop:=(Z2y hs (t,r)=none∧most≤hs.length)∨L.length≤liv L
instance (most:Nat) (hs:List Hq) (L:List Bool) (t r:Int):Decidable (Z2a most hs L t r):=by unfold Z2a;infer_instance
def Z0s(m:Int):Prop:=m=0∨Zq m=false
instance (m:Int):Decidable (Z0s m):=by unfold Z0s;infer_instance
def Z79(hs:List Hq)(L:List Bool)(t r txn m:Int):Hq:=⟨t,r,(Ye (hdB hs t r).W (hdB hs t r).q (Zm L) txn m).1,(Ye (hdB hs t r).W (hdB hs t r).q (Zm L) txn m).2.1⟩
def Yb(most:Nat)(hs:List Hq)(L:List Bool)(t r txn m:Int):Int:=if Z0s m then 2 else if twB hs t r txn=true then 4 else if Z2a most hs L t r then 8 else 0
def Z0o(most:Nat)(hs:List Hq)(L:List Bool)(t r txn m:Int):Int × Bool × Int:=if Yb most hs L t r txn m=0 then(Zm L,(Ye (hdB hs t r).W (hdB hs t r).q (Zm L) txn m).2.2,0) else(0,false,Yb most hs L t r txn m)
def Yn(most:Nat)(hs:List Hq)(L:List Bool)(t r txn m:Int):List Hq × List Bool:=if Yb most hs L t r txn m=0 then(Zz hs (Z79 hs L t r txn m),tkL L) else(hs,L)
def Yl(hs:List Hq)(h:Hq):List Hq:=if (scH h).q=[] then Ze4 hs (Za h)else Zz hs (scH h)
def Z2q(hs:List Hq)(id m:Int):Int:=if Z0s m then 2 else match Zs hs id with
 | none=>5
 | some h=>(upR h id m).2.2
def Z8h(hs:List Hq)(id m:Int):Bool:=if Z2q hs id m=0 then match Zs hs id with
 | none=>false
 | some h=>(upR h id m).2.1
 else false
def Z3w(hs:List Hq)(id m:Int):List Hq:=if Z2q hs id m=0 then match Zs hs id with
 | none=>hs
 | some h=>Zz hs (upR h id m).1
 else hs
def Z5a(hs:List Hq)(id:Int):List Int × Int:=match Zs hs id with
 | none=>([],5)
 | some h=>((Zc (lvQ id h.q)).1,0)
def U5(hs:List Hq)(L:List Bool)(id:Int):List Hq × List Bool:=match Zs hs id with
 | none=>(hs,L)
 | some h=>(Yl hs ⟨h.t,h.r,h.W,lvQ id h.q⟩,gvL L id)
def rqB(h:Hq)(id:Int):Rq:=(Va h.q id).getD ⟨0,0,0,0,0⟩
def Z3q(hs:List Hq)(id:Int):List Int × Int:=match Zs hs id with
 | none=>([],5)
 | some h=>if 0<(rqB h id).sn then((Zc (abQ (rqB h id) h.q)).1,0) else([],7)
def V6(hs:List Hq)(L:List Bool)(id:Int):List Hq × List Bool:=match Zs hs id with
 | none=>(hs,L)
 | some h=>if 0<(rqB h id).sn then(Yl hs ⟨h.t,h.r,h.W,abQ (rqB h id) h.q⟩,if (rqB h id).md=0 then gvL L id else L) else(hs,L)
def Z3u(hs:List Hq)(id txn:Int):Int:=match Zs hs id with
 | none=>5
 | some h=>(hnR h id txn).2
def Z3v(hs:List Hq)(id txn:Int):List Hq:=if Z3u hs id txn=0 then match Zs hs id with
 | none=>hs
 | some h=>Zz hs (hnR h id txn).1
 else hs
theorem Z3x(l m:List Hq)(a:Hq):(Z4 (l++a::m)).Perm (Y8 a.q++(Z4 l++Z4 m)):=by
 rw[Z1r,Z8p,←List.append_assoc,←List.append_assoc]
 exact List.perm_append_comm.append_right _
theorem Z24{most k k':Nat}{hs:List Hq}{X:List Int}{L L':List Bool}(b:Ze most k hs X L){a x:Hq}(ha:a∈hs)(e:Za x=Za a)(hi:Z74 x)(hn:x.q≠[])(hk:k≤k')(hw:x.W≤k')(hl:x.q.length≤k')
  (hp:∀rest,(Y8 a.q++rest).Perm (Zj (lnt L))→(Y8 x.q++rest).Perm (Zj (lnt L'))):Ze most k' (Zz hs x) X L':=by
 obtain⟨l,m,rfl,e2,s⟩:=Zpf b.srt ha e
 rw[e2]
 have old:∀y∈l++x::m,y=x∨y∈l++a::m:=fun y hy=>by
  rcases List.mem_append.1 hy with q | q
  ·exact .inr (List.mem_append_left _ q)
  ·rcases List.mem_cons.1 q with q | q
   ·exact .inl q
   ·exact .inr (List.mem_append_right _ (List.mem_cons_of_mem _ q))
 refine⟨s,by have:=b.len;simp at this ⊢;omega,fun y hy=>?_,fun y hy=>?_,?_,fun y hy=>?_,fun y hy=>?_⟩
 ·rcases old y hy with rfl | q
  ·exact hi
  ·exact b.inv y q
 ·rcases old y hy with rfl | q
  ·exact hn
  ·exact b.ne y q
 ·have q:=b.ids
  have e1:=((Z3x l m a).append_right X)
  have e2:=((Z3x l m x).append_right X)
  rw[List.append_assoc] at e1 e2
  exact e2.trans (hp _ (e1.symm.trans q))
 ·rcases old y hy with rfl | q
  ·exact hw
  ·have:=b.wt y q;omega
 ·rcases old y hy with rfl | q
  ·exact hl
  ·have:=b.ql y q;omega
theorem Zfu{most k k':Nat}{hs:List Hq}{X:List Int}{L L':List Bool}(b:Ze most k hs X L){a:Hq}(ha:a∈hs)(hk:k≤k')(hp:∀rest,(Y8 a.q++rest).Perm (Zj (lnt L))→rest.Perm (Zj (lnt L'))):Ze most k' (Ze4 hs (Za a)) X L':=by
 obtain⟨l,m,rfl,e2,s⟩:=Zo4 b.srt ha
 rw[e2]
 have old:∀y∈l++m,y∈l++a::m:=fun y hy=>by
  rcases List.mem_append.1 hy with q | q
  ·exact List.mem_append_left _ q
  ·exact List.mem_append_right _ (List.mem_cons_of_mem _ q)
 refine⟨s,by have:=b.len;simp at this ⊢;omega,fun y hy=>b.inv y (old y hy),fun y hy=>b.ne y (old y hy),?_,fun y hy=>by have:=b.wt y (old y hy);omega,fun y hy=>by have:=b.ql y (old y hy);omega⟩
 rw[Z1r]
 have e1:=((Z3x l m a).append_right X)
 rw[List.append_assoc] at e1
 exact hp _ (e1.symm.trans b.ids)
theorem Zfv{most k k':Nat}{hs:List Hq}{X:List Int}{L L':List Bool}(b:Ze most k hs X L){x:Hq}(hno:∀a∈hs,Za a≠Za x)(Z1:hs.length<most)(hi:Z74 x)(hn:x.q≠[])(hk:k≤k')(hw:x.W≤k')(hl:x.q.length≤k')
  (hp:∀rest,rest.Perm (Zj (lnt L))→(Y8 x.q++rest).Perm (Zj (lnt L'))):Ze most k' (Zz hs x) X L':=by
 obtain⟨l,m,rfl,e2,s⟩:=Ziq b.srt hno
 rw[e2]
 have old:∀y∈l++x::m,y=x∨y∈l++m:=fun y hy=>by
  rcases List.mem_append.1 hy with q | q
  ·exact .inr (List.mem_append_left _ q)
  ·rcases List.mem_cons.1 q with q | q
   ·exact .inl q
   ·exact .inr (List.mem_append_right _ q)
 refine⟨s,by simp at Z1 ⊢;omega,fun y hy=>?_,fun y hy=>?_,?_,fun y hy=>?_,fun y hy=>?_⟩
 ·rcases old y hy with rfl | q
  ·exact hi
  ·exact b.inv y q
 ·rcases old y hy with rfl | q
  ·exact hn
  ·exact b.ne y q
 ·have q:=b.ids
  rw[Z1r] at q
  have e2:=((Z3x l m x).append_right X)
  rw[List.append_assoc] at e2
  exact e2.trans (hp _ q)
 ·rcases old y hy with rfl | q
  ·exact hw
  ·have:=b.wt y q;omega
 ·rcases old y hy with rfl | q
  ·exact hl
  ·have:=b.ql y q;omega
theorem Zcu(L:List Bool):hsL L (Zm L)=false:=by
 by_cases h:Zm L<L.length
 ·rw[show hsL L (Zm L)=L[Zm L] by simp[hsL,h]]
  exact Ur L h
 ·simp[hsL,List.getElem?_eq_none (show L.length≤Zm L by omega)]
theorem Zky(hs:List Hq)(t r:Int):Za (hdB hs t r)=(t,r):=by
 unfold hdB
 cases e:Z2y hs (t,r) with
 | none=>rfl
 | some h=>exact(Z52 e).2
theorem Ze.hd{most k:Nat}{hs:List Hq}{X:List Int}{L:List Bool}(b:Ze most k hs X L)(t r:Int):Z74 (hdB hs t r)∧(hdB hs t r).W≤k∧(hdB hs t r).q.length≤k∧(∀x∈(hdB hs t r).q,x.id∈Z4 hs):=by
 unfold hdB
 cases e:Z2y hs (t,r) with
 | none=>exact⟨Zd6 t r,by show(0:Int)≤(k:Int);omega,Nat.zero_le _,fun x hx=>by cases hx⟩
 | some h =>
  have hm:=(Z52 e).1
  exact⟨b.inv h hm,b.wt h hm,b.ql h hm,fun x hx=>List.mem_flatMap.2 ⟨h,hm,List.mem_map.2 ⟨x,hx,rfl⟩⟩⟩
theorem Z3y{most k:Nat}{hs:List Hq}{X:List Int}{L:List Bool}(b:Ze most k hs X L){t r txn m:Int}(he:Yb most hs L t r txn m=0):Z09 (hdB hs t r).q (Zm L) txn m=0∧Zm L<L.length∧(Z2y hs (t,r)=none→hs.length<most):=by
 unfold Yb at he
 by_cases h1:Z0s m
 ·rw[if_pos h1] at he;cases he
 ·rw[if_neg h1] at he
  by_cases h2:twB hs t r txn=true
  ·rw[if_pos h2] at he;cases he
  ·rw[if_neg h2] at he
   by_cases h3:Z2a most hs L t r
   ·rw[if_pos h3] at he;cases he
   ·unfold Z2a at h3
    have h5:liv L<L.length:=Nat.lt_of_not_le fun q=>h3 (.inr q)
    refine⟨?_,?_,fun e=>Nat.lt_of_not_le fun q=>h3 (.inl ⟨e,q⟩)⟩
    ·unfold Z09
     rw[if_neg,if_neg]
     ·intro ha
      rw[List.any_eq_true] at ha
      obtain⟨x,hx,e⟩:=ha
      rw[Bool.or_eq_true] at e
      rcases e with e | e
      ·have h6:=(b.hd t r).2.2.2 x hx
       have h7:=b.mem h6
       rw[show x.id=(Zm L:Int)by simpa using e,Zcu] at h7
       cases h7
      ·apply h2
       unfold twB
       rw[List.any_eq_true]
       exact⟨x,hx,e⟩
     ·rintro(q | q | q)
      ·omega
      ·exact h1 (.inl q)
      ·exact h1 (.inr q)
    ·have:=Zcv L
     omega
theorem Z7a(W:Int)(q:List Rq)(id txn m:Int):(Ye W q id txn m).2.1≠[]:=by
 intro e
 have:=(Zfp W q id txn m).2.2
 rw[e] at this
 simp at this
theorem Z4l{most k:Nat}{hs:List Hq}{X:List Int}{L:List Bool}(b:Ze most k hs X L)(hk:k≤1000)(t r txn m:Int):Ze most (k+1) (Yn most hs L t r txn m).1 X (Yn most hs L t r txn m).2:=by
 unfold Yn
 by_cases he:Yb most hs L t r txn m=0
 ·rw[if_pos he]
  obtain⟨h1,h2,h3⟩:=Z3y b he
  obtain⟨d1,d2,d3,_⟩:=b.hd t r
  obtain⟨w1,w2,w3⟩:=Zfp (hdB hs t r).W (hdB hs t r).q (Zm L) txn m
  have hB:(hdB hs t r).W+1≤4611686018427387904:=by omega
  have hi:Z74 (Z79 hs L t r txn m):=⟨Zbx d1.ok _ _ _ h1 hB,Z4v d1.ok d1.done _ _ _ h1⟩
  have hids:∀rest,(Y8 (hdB hs t r).q++rest).Perm (Zj (lnt L))→(Y8 (Z79 hs L t r txn m).q++rest).Perm (Zj (lnt (tkL L))):=fun rest q=>by
   show(Y8 (Ye (hdB hs t r).W (hdB hs t r).q (Zm L) txn m).2.1++rest).Perm _
   rw[Zlb,List.append_assoc]
   exact(List.perm_middle).trans ((q.cons _).trans (Z9w h2).symm)
  have c1:(Z79 hs L t r txn m).W≤((k+1:Nat):Int):=by show(Ye _ _ _ _ _).1≤_;omega
  have c2:(Z79 hs L t r txn m).q.length≤k+1:=by show(Ye _ _ _ _ _).2.1.length≤_;omega
  cases e:Z2y hs (t,r) with
  | none =>
   have eh:hdB hs t r=⟨t,r,0,[]⟩:=by unfold hdB;rw[e];rfl
   refine Zfv b (x:=Z79 hs L t r txn m) (Zh5 e) (h3 e) hi (Z7a _ _ _ _ _) (Nat.le_succ _) c1 c2 fun rest q=>hids rest ?_
   rw[eh]
   exact q
  | some h =>
   have eh:hdB hs t r=h:=by unfold hdB;rw[e];rfl
   obtain⟨g1,g2⟩:=Z52 e
   exact Z24 b g1 (show Za (Z79 hs L t r txn m)=Za h from g2.symm) hi (Z7a _ _ _ _ _) (Nat.le_succ _) c1 c2 (by rw[eh] at hids;exact hids)
 ·rw[if_neg he]
  exact b.more (Nat.le_succ _)
theorem Zk5{m:Int}(h:¬Z0s m):Zq m=true:=by
 cases e:Zq m with
 | true=>rfl
 | false=>exact absurd (.inr e) h
theorem Zc0{h:Hq}{id:Int}{r:Rq}(e:Va h.q id=some r):rqB h id=r:=by unfold rqB;rw[e];rfl
theorem Z4m{most k k':Nat}{hs:List Hq}{X:List Int}{L L':List Bool}(b:Ze most k hs X L){a:Hq}(ha:a∈hs){W:Int}{q:List Rq}(ok:Ok W q)(hk:k≤k')(hw:W≤k')(hl:q.length≤k')
  (hp:∀rest,(Y8 a.q++rest).Perm (Zj (lnt L))→(Y8 q++rest).Perm (Zj (lnt L'))):Ze most k' (Yl hs ⟨a.t,a.r,W,q⟩) X L':=by
 have hids:Y8 (scH ⟨a.t,a.r,W,q⟩).q=Y8 q:=Zhj ok
 unfold Yl
 by_cases e:(scH ⟨a.t,a.r,W,q⟩).q=[]
 ·rw[if_pos e]
  rw[e] at hids
  refine Zfu (a:=a) b ha hk fun rest p=>?_
  have:=hp rest p
  rw[←hids] at this
  exact this
 ·rw[if_neg e]
  refine Z24 b ha rfl (Zm3 _ ok) e hk hw ?_ fun rest p=>by rw[hids];exact hp rest p
  show(Zc q).2.length≤k'
  rw[Zac ok];exact hl
theorem Znj{h:Hq}{id m:Int}(h0:Ok h.W h.q)(he:(upR h id m).2.2=0):∃r,r∈h.q∧r.id=id∧Va h.q id=some r∧r.sn=0∧Zq m=true∧m≠0∧upR h id m=(⟨h.t,h.r,(upQ h.W h.q r m).1,(upQ h.W h.q r m).2.1⟩,(upQ h.W h.q r m).2.2,0):=by
 unfold upR at he ⊢
 split at he
 ·cases he
 ·rename_i hm
  rw[if_neg hm]
  split at he
  ·cases he
  ·rename_i r hr
   split at he
   ·cases he
   ·rename_i hs
    have hf:=Zbf hr
    refine⟨r,hf.1,hf.2,hr,by have:=(h0.rt r hf.1).s0;omega,Zk5 hm,fun e=>hm (.inl e),?_⟩
    simp only[if_neg hs]
theorem Zcj{most k:Nat}{hs:List Hq}{X:List Int}{L:List Bool}(b:Ze most k hs X L)(hk:k≤1000)(id m:Int):Ze most (k+1) (Z3w hs id m) X L:=by
 unfold Z3w
 by_cases he:Z2q hs id m=0
 ·rw[if_pos he]
  unfold Z2q at he
  split at he
  ·cases he
  ·cases e:Zs hs id with
   | none=>rw[e] at he;cases he
   | some h =>
    rw[e] at he
    obtain⟨g1,_⟩:=Vs e
    have hi:=b.inv h g1
    obtain⟨r,r1,r2,r3,r4,r5,r6,r7⟩:=Znj hi.ok he
    have hw:=b.wt h g1
    have hl:=b.ql h g1
    obtain⟨w1,w2,w3⟩:=Zni h.W h.q r m
    show Ze most (k+1) (Zz hs (upR h id m).1) X L
    rw[r7]
    refine Z24 b g1 rfl ⟨Zng hi.ok r r1 m r4 r5 (by omega),Z8x hi.ok hi.done r r1 m r4 r5⟩ (fun q=>?_) (Nat.le_succ _) (by show(upQ _ _ _ _).1≤_;omega) (by show(upQ _ _ _ _).2.1.length≤_;omega) fun rest p=>?_
    ·have q':(upQ h.W h.q r m).2.1=[]:=q
     rw[q'] at w3
     have:=List.length_pos_of_mem r1
     simp at w3
     omega
    ·show(Y8 (upQ h.W h.q r m).2.1++rest).Perm _
     rw[Zop]
     exact p
 ·rw[if_neg he]
  exact b.more (Nat.le_succ _)
theorem Ze.lent{most k:Nat}{hs:List Hq}{X:List Int}{L:List Bool}(b:Ze most k hs X L){h:Hq}(hh:h∈hs){r:Rq}(hr:r∈h.q):∃i:Nat,r.id=i∧∃hi:i<L.length,L[i]=true:=by
 have h1:r.id∈Z4 hs:=List.mem_flatMap.2 ⟨h,hh,List.mem_map.2 ⟨r,hr,rfl⟩⟩
 replace h1:=b.mem h1
 unfold hsL at h1
 simp only[Bool.and_eq_true,decide_eq_true_eq] at h1
 obtain⟨i,hi⟩:=Int.eq_ofNat_of_zero_le h1.1
 rw[hi] at h1
 exact⟨i,hi,Z7q (by simpa using h1.2)⟩
theorem Z9f{L:List Bool}{i:Nat}(hi:i<L.length)(e:L[i]=true){a q:List Int}(hp:((i:Int)::q).Perm a):∀rest,(a++rest).Perm (Zj (lnt L))→(q++rest).Perm (Zj (lnt (gvL L (i:Int)))):=fun rest p=>by
 rw[Z42 L i (by rw[Yc hi];exact e)]
 have h1:((i:Int)::(q++rest)).Perm ((i:Int)::Zj (lnt (L.set i false))):=by
  rw[←List.cons_append]
  exact((hp.append_right rest).trans p).trans (Z9u hi e).symm
 exact h1.cons_inv
theorem Z7e{most k:Nat}{hs:List Hq}{X:List Int}{L:List Bool}(b:Ze most k hs X L)(id:Int):Ze most (k+1) (U5 hs L id).1 X (U5 hs L id).2:=by
 unfold U5
 cases e:Zs hs id with
 | none=>exact b.more (Nat.le_succ _)
 | some h =>
  obtain⟨g1,r,hr⟩:=Vs e
  obtain⟨r1,rfl⟩:=Zbf hr
  have hi:=b.inv h g1
  obtain⟨i,hid,Z1,hL⟩:=b.lent g1 r1
  have hw:=b.wt h g1
  have hl:=b.ql h g1
  have hlq:=Z83 r.id h.q
  have hids:=Zhi hi.ok r1
  show Ze most (k+1) (Yl hs ⟨h.t,h.r,h.W,lvQ r.id h.q⟩) X (gvL L r.id)
  rw[hid] at hids hlq ⊢
  exact Z4m b g1 (Zig hi.ok _) (Nat.le_succ _) (by omega) (by omega) (Z9f Z1 hL hids)
theorem Z7d{most k:Nat}{hs:List Hq}{X:List Int}{L:List Bool}(b:Ze most k hs X L)(id:Int):Ze most (k+1) (V6 hs L id).1 X (V6 hs L id).2:=by
 unfold V6
 cases e:Zs hs id with
 | none=>exact b.more (Nat.le_succ _)
 | some h =>
  obtain⟨g1,r,hr⟩:=Vs e
  have er:=Zc0 hr
  obtain⟨r1,rfl⟩:=Zbf hr
  simp only[er]
  by_cases hs0:0<r.sn
  ·simp only[if_pos hs0]
   have hi:=b.inv h g1
   obtain⟨i,hid,Z1,hL⟩:=b.lent g1 r1
   have hw:=b.wt h g1
   have hl:=b.ql h g1
   have hlq:=Zcd r h.q
   obtain⟨i1,i2⟩:=Zoo hi.ok r1
   by_cases hm:r.md=0
   ·rw[if_pos hm]
    have:=i1 hm
    rw[hid] at this ⊢
    exact Z4m b g1 (Zif hi.ok r r1) (Nat.le_succ _) (by omega) (by omega) (Z9f Z1 hL this)
   ·rw[if_neg hm]
    exact Z4m b g1 (Zif hi.ok r r1) (Nat.le_succ _) (by omega) (by omega) fun rest p=>by rw[i2 hm];exact p
  ·simp only[if_neg hs0]
   exact b.more (Nat.le_succ _)
theorem Zn8{h:Hq}{id txn:Int}(h0:Ok h.W h.q)(he:(hnR h id txn).2=0):∃r,r∈h.q∧r.id=id∧Va h.q id=some r∧r.sn=0∧(∀o∈h.q,o.id≠r.id→o.txn≠txn)∧hnR h id txn=(⟨h.t,h.r,h.W,Um (hnF txn) r.id h.q⟩,0):=by
 unfold hnR at he ⊢
 cases hr:Va h.q id with
 | none=>rw[hr] at he;cases he
 | some r =>
  rw[hr] at he
  simp only at he ⊢
  split at he
  ·cases he
  ·rename_i ha
   rw[if_neg ha]
   split at he
   ·cases he
   ·rename_i hs
    rw[if_neg hs]
    obtain⟨r1,rfl⟩:=Zbf hr
    refine⟨r,r1,rfl,rfl,by have:=(h0.rt r r1).s0;omega,fun o ho ne e2=>ha ?_,rfl⟩
    rw[List.any_eq_true]
    exact⟨o,ho,by simp[ne,e2]⟩
theorem Zci{most k:Nat}{hs:List Hq}{X:List Int}{L:List Bool}(b:Ze most k hs X L)(id txn:Int):Ze most (k+1) (Z3v hs id txn) X L:=by
 unfold Z3v
 by_cases he:Z3u hs id txn=0
 ·rw[if_pos he]
  unfold Z3u at he
  cases e:Zs hs id with
  | none=>rw[e] at he;cases he
  | some h =>
   rw[e] at he
   obtain⟨g1,_⟩:=Vs e
   have hi:=b.inv h g1
   obtain⟨r,r1,r2,r3,r4,r5,r6⟩:=Zn8 hi.ok he
   have hw:=b.wt h g1
   have hl:=b.ql h g1
   show Ze most (k+1) (Zz hs (hnR h id txn).1) X L
   rw[r6]
   refine Z24 b g1 rfl ⟨Znf hi.ok r r1 txn r5,Zcp hi.done _ _⟩ (fun q=>?_) (Nat.le_succ _) (by show h.W≤_;omega) (by show(Um _ _ _).length≤_;rw[Z26];omega) fun rest p=>?_
   ·have q':Um (hnF txn) r.id h.q=[]:=q
    have c1:=congrArg List.length q'
    rw[Z26,List.length_nil] at c1
    have:=List.length_pos_of_mem r1
    omega
   ·show(Y8 (Um (hnF txn) r.id h.q)++rest).Perm _
    rw[Z45 (hnF txn) r.id h.q (fun _=>rfl)]
    exact p
 ·rw[if_neg he]
  exact b.more (Nat.le_succ _)
def Z6c(hs:List Hq)(t r txn:Int):Int × Bool:=match(hdB hs t r).q.find? fun x=>x.txn==txn with
 | none=>(0,false)
 | some x=>(x.id,true)
theorem Z7b{most:Nat}{hs:List Hq}{L:List Bool}{t r txn m:Int}(he:Yb most hs L t r txn m≠0):Yn most hs L t r txn m=(hs,L)∧Z0o most hs L t r txn m=(0,false,Yb most hs L t r txn m)∧(Yb most hs L t r txn m=2∨Yb most hs L t r txn m=4∨Yb most hs L t r txn m=8):=by
 refine⟨by unfold Yn;rw[if_neg he],by unfold Z0o;rw[if_neg he],?_⟩
 unfold Yb at he ⊢
 split
 ·exact .inl rfl
 ·split
  ·exact .inr (.inl rfl)
  ·split
   ·exact .inr (.inr rfl)
   ·rename_i h1 h2 h3
    rw[if_neg h1,if_neg h2,if_neg h3] at he
    exact absurd rfl he
abbrev Z6(l:List Hp):List Hq:=l.map Hp.h
abbrev Z4h(l:List Hp):Prop:=l.Pairwise fun a b=>Ud (Za a.h) (Za b.h)
theorem Z9c(l:List Hp)(a:Int × Int):Z2y (Z6 l) a=(Uj l a).map Hp.h:=by
 unfold Z2y Uj
 rw[List.find?_map]
 rfl
theorem Zgj(l:List Hp)(a:Int × Int):Ze4 (Z6 l) a=Z6 (Z3t l a):=by
 unfold Ze4 Z3t Z6
 rw[List.filter_map]
 rfl
def Z56:List Hp→Hp→List Hp
 | [],h=>[h]
 | a::l,h=>if Ud (Za a.h) (Za h.h)then a::Z56 l h else if Za a.h=Za h.h then h::l else h::a::l
theorem Zd4(l:List Hp)(x:Hp):Z6 (Z56 l x)=Zz (Z6 l) x.h:=by
 induction l with
 | nil=>rfl
 | cons a t ih =>
  unfold Z56
  show _=Zz (a.h::Z6 t) x.h
  unfold Zz
  split
  ·rw[←ih];rfl
  ·split
   ·rfl
   ·rfl
theorem Z58{l:List Hp}(h:Z4h l)(x:Hp):(Zew l x).Perm (Z56 l x):=by
 induction l with
 | nil=>exact List.Perm.refl _
 | cons a t ih =>
  obtain⟨h1,h2⟩:=List.pairwise_cons.1 h
  unfold Z56 Zew
  by_cases c1:Ud (Za a.h) (Za x.h)
  ·rw[if_pos c1,List.filter_cons_of_pos (by simp;intro e;rw[e] at c1;exact Ys _ c1)]
   exact(List.Perm.swap _ _ _).trans ((ih h2).cons _)
  ·rw[if_neg c1]
   by_cases c2:Za a.h=Za x.h
   ·rw[if_pos c2,List.filter_cons_of_neg (by simp[c2]),List.filter_eq_self.2 (fun y hy=>?_)]
    have:=h1 y hy
    simp only[Bool.not_eq_true',decide_eq_false_iff_not]
    intro e
    rw[←c2] at e
    rw[e] at this
    exact Ys _ this
   ·rw[if_neg c2,List.filter_eq_self.2 (fun y hy=>?_)]
    simp only[Bool.not_eq_true',decide_eq_false_iff_not]
    have hx:Ud (Za x.h) (Za a.h):=by
     rcases Z2h (Za a.h) (Za x.h)with q | q | q
     ·exact absurd q c1
     ·exact absurd q c2
     ·exact q
    intro e
    rcases List.mem_cons.1 hy with rfl | hy
    ·exact c2 e
    ·have:=Z1w hx (h1 y hy)
     rw[e] at this
     exact Ys _ this
theorem Zlh{l:List Hp}(h:Z4h l)(x:Hp):Z4h (Z56 l x):=by
 induction l with
 | nil=>simp[Z56,Z4h]
 | cons a t ih =>
  obtain⟨h1,h2⟩:=List.pairwise_cons.1 h
  unfold Z56
  by_cases c1:Ud (Za a.h) (Za x.h)
  ·rw[if_pos c1]
   refine List.pairwise_cons.2 ⟨fun y hy=>?_,ih h2⟩
   have:=(Z58 h2 x).mem_iff.2 hy
   rcases List.mem_cons.1 this with rfl | q
   ·exact c1
   ·exact h1 y ((List.mem_filter.1 q).1)
  ·rw[if_neg c1]
   by_cases c2:Za a.h=Za x.h
   ·rw[if_pos c2]
    exact List.pairwise_cons.2 ⟨fun y hy=>by rw[←c2];exact h1 y hy,h2⟩
   ·rw[if_neg c2]
    have hx:Ud (Za x.h) (Za a.h):=by
     rcases Z2h (Za a.h) (Za x.h)with q | q | q
     ·exact absurd q c1
     ·exact absurd q c2
     ·exact q
    refine List.pairwise_cons.2 ⟨fun y hy=>?_,h⟩
    rcases List.mem_cons.1 hy with rfl | hy
    ·exact hx
    ·exact Z1w hx (h1 y hy)
theorem Zkk{l:List Hp}(h:Z4h l)(a:Int × Int):Z4h (Z3t l a):=h.filter _
theorem Zd5{l:List Hp}(h:Z4h l){x y:Hp}(hy:y∈Z56 l x):y=x∨y∈l:=by
 have:=(Z58 h x).mem_iff.2 hy
 rcases List.mem_cons.1 this with q | q
 ·exact .inl q
 ·exact .inr ((List.mem_filter.1 q).1)
def whP(l:List Hp)(id:Int):Option Hp:=l.find? fun x=>(Va x.h.q id).isSome
theorem Zp8(l:List Hp)(id:Int):Zs (Z6 l) id=(whP l id).map Hp.h:=by
 unfold Zs whP
 rw[List.find?_map]
 rfl
def Zcb:Hp:=⟨⟨0,0,0,[]⟩,0,none,0⟩
theorem Z1p{α:Type}[DecidableEq α]:∀ {l m:List α},l.Nodup→(∀x∈l,x∈m)→l.length≤m.length
 | [],m,_,_=>Nat.zero_le _
 | a::t,m,h,hs=>by
  obtain⟨h1,h2⟩:=List.nodup_cons.1 h
  have ha:=hs a (by simp)
  have:=Z1p (l:=t) (m:=m.erase a) h2 (fun x hx=>by
   have hx':=hs x (by simp[hx])
   exact(List.mem_erase_of_ne (fun e:x=a=>h1 (by rw[←e];exact hx))).2 hx')
  rw[List.length_erase_of_mem ha] at this
  have hp:0<m.length:=List.length_pos_of_mem ha
  simp only[List.length_cons]
  omega
section
open Go.RowKit Go.Shelf Go.Maps
attribute [local go_sem] Oper.semAt_some
def Z4e(D0:DataW Unit)(left:Lit→Bool)(ss:List (Int × Int)):Prop:=ss.Nodup∧(∀a∈ss,wfN a)∧∀a,wfN a→(a∈ss↔(Maps.has D0 (nmL a)=true∧left (nmL a)=false))
theorem Z4e.start(D0:DataW Unit):Z4e D0 (Maps.has D0) []:=⟨List.nodup_nil,by simp,fun x _=>by cases Maps.has D0 (nmL x)<;>simp⟩
theorem Z4e.step{D0:DataW Unit}{left:Lit→Bool}{ss:List (Int × Int)}(h:Z4e D0 left ss){x:Int × Int}(wx:wfN x){y:DataW Unit}(hlk:left (nmL x)=true)(hat:∀zd,D0.atKey (nmL x) zd=y):Z4e D0 (fun z=>left z&&!z.sameKey (nmL x)) (ss++[x]):=by
 have hhas:Maps.has D0 (nmL x)=true:=has_true_of_atKey hat
 have hnew:x∉ss:=fun hx=>by have:=((h.2.2 x wx).1 hx).2;rw[hlk] at this;cases this
 refine⟨List.nodup_append.2 ⟨h.1,by simp,fun a ha b hb=>by simp at hb;subst hb;exact fun e=>hnew (e▸ha)⟩,fun a ha=>?_,fun y hy=>?_⟩
 ·rcases List.mem_append.1 ha with q | q
  ·exact h.2.1 a q
  ·simp at q;subst q;exact wx
 ·by_cases e:y=x
  ·subst e
   simp[hhas,WideAt.sameKey_self (Z7y y)]
  ·have:(nmL y).sameKey (nmL x)=false:=sameKey_ne (fun q=>e (Z48 hy wx q))
   simp[h.2.2 y hy,e,this]
def Z0t(l:List Hp):List (Int × Int):=l.map fun x=>Za x.h
theorem Z3j{l:List Hp}{a:Int × Int}:(Uj l a).isSome=true↔a∈Z0t l:=by
 constructor
 ·intro h
  obtain⟨x,hx⟩:=Option.isSome_iff_exists.1 h
  obtain⟨h1,rfl⟩:=Yi hx
  exact List.mem_map.2 ⟨x,h1,rfl⟩
 ·intro h
  obtain⟨x,hx,rfl⟩:=List.mem_map.1 h
  cases e:Uj l (Za x.h) with
  | none=>exact absurd rfl (Z2z e x hx)
  | some y=>rfl
theorem Z4e.sub{l:List Hp}{es:List (Lit × DataW Unit)}{left:Lit→Bool}{ss:List (Int × Int)}(h:Z4e (DataW.map es) left ss)(h3:∀x∈l,wfN (Za x.h))(h2:es.Perm (l.map Z2x)):∀a∈ss,a∈Z0t l:=fun a ha=>by
 have wa:=h.2.1 a ha
 have:=((h.2.2 a wa).1 ha).1
 rw[Zl.has_iff h3 h2 wa] at this
 exact Z3j.1 this
theorem Zer{l:List Hp}(h:l.Pairwise fun x y=>Za x.h≠Za y.h):(Z0t l).Nodup:=List.pairwise_map.2 h
theorem Z4e.perm{l:List Hp}{es:List (Lit × DataW Unit)}{left:Lit→Bool}{ss:List (Int × Int)}(h:Z4e (DataW.map es) left ss)(h3:∀x∈l,wfN (Za x.h))(h4:l.Pairwise fun x y=>Za x.h≠Za y.h)(h2:es.Perm (l.map Z2x))(hl:∀kl,left kl=false):ss.Perm (Z0t l):=by
 refine(List.perm_ext_iff_of_nodup h.1 (Zer h4)).2 fun a=>⟨h.sub h3 h2 a,fun ha=>?_⟩
 obtain⟨x,hx,rfl⟩:=List.mem_map.1 ha
 refine(h.2.2 _ (h3 x hx)).2 ⟨?_,hl _⟩
 rw[Zl.has_iff h3 h2 (h3 x hx)]
 exact Z3j.2 ha
theorem Zhz(mb:Nat)(w:World):Calls prog 120 #[.map (some mb)] w fun e w'=>e=.returned (.func (.func 146) #[] #[.pointer (some ⟨w.heap.size,0,none⟩)])∧w'=w.alloc (.cells #[.map (some mb)] 96):=by
 go_enter func120,ntmps120
 go_wp2
 go_ret
 exact⟨rfl,rfl⟩
theorem Zkp:∀args w,(callFunc 146 args).run prog w=.ok (.enter 146 args) w:=enters_of func146 (by kernel_rfl) rfl
theorem Za5{H:Type}{P:Program}{k:TypeId}{R:Value→Option (DataW H × List MemPlace)}{w w':World}{b r n:Nat}{D:DataW H}{left:Lit→Bool}{cnt:Nat}(h:w.ranges P k R b r n D left cnt)(h1:w'.heap[b]?=w.heap[b]?)(h2:w'.heap[r]?=w.heap[r]?):w'.ranges P k R b r n D left cnt:=by
 obtain⟨es,clock,since,seen,c0,hb,F,hs,hD,hr,rest⟩:=h
 exact⟨es,clock,since,seen,c0,h1.trans hb,F,hs,hD,h2.trans hr,rest⟩
theorem Zhy(n:Nat)(hn:3≤n)(pc mb:Nat)(l:List Hp)(w:World)(hpc:w.cell? ⟨pc,0,none⟩=some (.map (some mb)))(hm:Zl w mb l) :
  Z76 Fence.wide n prog 146 #[] #[.pointer (some ⟨pc,0,none⟩)] nmV (fun pre=>pre.Nodup∧∀a∈pre,a∈Z0t l) (fun ss=>ss.Perm (Z0t l)) (fun k=>k=mb) w:=by
 intro L J Jx W hW hJ hJx hY h0
 have h1:1≤n:=by omega
 have hcW:W.cell? ⟨pc,0,none⟩=some (.map (some mb)):=(hW.cell (World.block_lt_of_cell? _ _ hpc)).trans hpc
 have hmW:=hm.nw hW
 obtain⟨⟨es,hown,hes⟩,hwf,hne⟩:=hmW
 have hmb:=hown.lt
 have HY:=hD0 hY
 have HJ:=hD0 hJ
 have H0:=hD0 h0
 have HE:=hD0 hes
 have HW:=hD0 hwf
 have HN:=hD0 hne
 clear hpc hm hY hJ hJx h0 hes hwf hne hW
 refine callsIn_of_wp func146 rfl trivial ?_ rfl
 simp only[ntmps146,List.size_toArray,List.length_cons,List.length_nil,Nat.reduceAdd,Nat.reduceSub,Array.replicate_succ,Array.replicate_zero,List.push_toArray,List.append_toArray,List.nil_append,List.cons_append]
 gi_wp2_with (first
  | (gi_at_range;refine wpListIn_range_own _ rfl _ 96 rfl 33 129 Z9q underlying96 _ mb l.length _ rfl hown ?_;intro w0 hrg0 hg0 hs0)
  | gi_in)
 try go_frame
 gi_loopw [3] (fun _ wr=>∃(left:Lit→Bool) (cnt:Nat) (ss:List (Int × Int)),wr.ranges prog 33 Ue mb W.heap.size l.length (.map es) left cnt∧Z4e (DataW.map es) left ss∧Hid (J (fun k=>k=mb∨k=W.heap.size) ss wr)∧W.heap.size<wr.heap.size)
  (fun _ wr=>wr.rangeLeft mb W.heap.size)
 case atStart =>
  have hnw:Nw W w0:=⟨hg0.os,hg0.tape,hg0.output,hg0.size,fun k hk=>hg0.block k hk (by simp)⟩
  exact⟨_,_,[],hrg0,Z4e.start _,hD0 (HJ.out (fun k=>k=mb) _ [] W w0 H0.out (Z3.nw hnw) (fun k e=>.inl e) (fun k e=>e.elim .inl (fun e=>.inr (by omega))) (fun k e=>by rcases e with rfl | rfl<;>omega)),by omega⟩
 case round =>
  obtain⟨left,cnt,ss,hrg,hC,HJs,hsz⟩:=hrel
  gi_wp2_with (first
   | (gi_at_next;refine wpListIn_next_ranges _ rfl _ rfl 33 Z9q Ue nmV id (fun key kl hk=>by obtain⟨x,hx,_⟩:=Zdb hk;exact⟨x,hx⟩) (fun v _ _=>⟨v,rfl⟩) mb W.heap.size l.length _ _ _ rfl hrg ?_ ?_)
   | gi_in)
  ·
   intro hc0 hl0
   gi_wp2
   go_end0
   exact⟨⟨_,rfl⟩,.inl ⟨_,ss,hC.perm HW.out HN.out HE.out hl0,HJs.out⟩⟩
  ·
   intro xa xb c kl yd yp w2 cnt2 hkey hlk hv hat hrg2 Z1 hg2 hs2 hen
   obtain⟨x',ex,wx⟩:=Zdb hkey
   obtain⟨x,hx⟩:∃x:Int × Int,(xa,xb)=x:=⟨_,rfl⟩
   obtain rfl:x=x':=by rw[←hx];exact Zda ex
   rw[hx] at hkey hen
   obtain rfl:nmL x=kl:=Option.some.inj ((Z9o wx).symm.trans hkey)
   have hC2:=hC.step wx hlk hat
   have hsub:=hC2.sub HW.out HE.out
   have hW2:W.heap.size<w2.heap.size:=by omega
   have hmb2:mb<w2.heap.size:=by omega
   have hJ2:J (fun k=>k=mb∨k=W.heap.size) ss w2:=HJ.out _ _ ss wr w2 HJs.out
    ⟨hg2.os,hg2.tape,hg2.output,hg2.size,fun k hk hq=>hg2.block k hk (fun e=>hq ⟨.inr (Option.some.inj e),fun e2=>by have:=Option.some.inj e;omega⟩)⟩ (fun k e=>e) (fun k e=>.inl e) (fun k e=>by rcases e with rfl | rfl<;>omega)
   have HJ2:=hD0 hJ2
   have hJal:∀(o:Obj),J (fun k=>k=mb∨k=W.heap.size) ss (w2.alloc o):=fun o=>HJ.out _ _ ss w2 _ hJ2 (Z3.nw ((Nw.refl w2).alloc o)) (fun k e=>e) (fun k e=>.inl e) (fun k e=>by rw[World.size_alloc];rcases e with rfl | rfl<;>omega)
   have HJal:=hD0 hJal
   have HC:=hD0 hC
   have HC2:=hD0 hC2
   have HR2:=hD0 hrg2
   have hY2:=fun o=>HY.out _ ss x _ (HJal.out o) (fun k e=>.inl e) (fun k e=>by rw[World.size_alloc];rcases e with rfl | rfl<;>omega) ⟨hC2.1,hsub⟩
   have HL:=hD0 hrg.left_eq
   clear hC hC2 hrg2 hs2 hg2 hJ2 hJal hat hv hsub hkey ex
   obtain⟨x1,x2⟩:=x
   cases hx
   have HYs:=hD0 (hY2 (.cells #[.int .i64 xa,.int .i64 xb] 33))
   clear hY2
   unfold nmV at hen HYs
   simp only at hen HYs
   obtain⟨fn,tmps,assign,body,hy,hR⟩:=HYs.out
   gi_wp2
   refine hR.mono ?_
   rintro e W3 (⟨rfl,hJ3,hk3⟩ | ⟨rfl,hJ3,hk3⟩)
   ·have HJ3:=hD0 hJ3
    clear hJ3 hy hR
    gi_wp2
    have hrg3:=Za5 (HR2.out.alloc (.cells #[.int .i64 xa,.int .i64 xb] 33)) (hk3.same mb (.inl rfl)) (hk3.same _ (.inr rfl))
    have hz3:=hk3.size
    go_roundw
    case rel=>exact⟨_,cnt2,ss++[(xa,xb)],hrg3,HC2.out,HJ3,by rw[World.size_alloc] at hz3;omega⟩
    case measure=>rw[hrg3.left_eq,HL.out];exact Z1
   ·have HJ3:=hD0 hJ3
    have HP:=hD0 (show(ss++[(xa,xb)]).Nodup∧∀a∈ss++[(xa,xb)],a∈Z0t l from⟨HC2.out.1,HC2.out.sub HW.out HE.out⟩)
    clear hJ3 hy hR
    gi_wp2
    refine bodyPost_ret (results_none rfl _ _ _) rfl ?_
    exact⟨⟨_,rfl⟩,.inr ⟨_,ss++[(xa,xb)],HP.out,HJ3.out⟩⟩
end
theorem Nw.kp{a b:World}(g:Nw a b){k o:Nat}{v:Value}(h:a.cell? ⟨k,o,none⟩=some v):b.cell? ⟨k,o,none⟩=some v :=
 (g.cell (World.block_lt_of_cell? _ _ h)).trans h
theorem Nw.dr{a b:World}(h:Nw a b):Nw a b.drew:=h.drewN 1
theorem Nw.at'{a b:World}(g:Nw a b){k:Nat}{o:Obj}(h:a.heap[k]?=some o):b.heap[k]?=some o:=(g.block k (Array.getElem?_eq_some_iff.1 h).1).trans h
theorem Z2(w:World)(o:Obj):(w.alloc o).heap[w.heap.size]?=some o:=by
 show(w.heap.push o)[w.heap.size]?=some o
 simp
theorem Z0{w:World}{B j:Nat}{c:Array Value}{T:TypeId}{fr:Nat × Nat}(hb:w.heap[B]?=some (.cells c T fr)):w.cell? ⟨B,j,none⟩=c[j]?:=by simp[World.cell?,hb]
theorem hfz{w:World}{B j:Nat}{c:Array Value}{T:TypeId}(hb:w.heap[B]?=some (.cells c T (0,0))):w.frozen? ⟨B,j,none⟩=false:=by simp[World.frozen?,hb]
theorem Z1{w:World}{B:Nat}{o:Obj}(hb:w.heap[B]?=some o):B<w.heap.size:=(Array.getElem?_eq_some_iff.1 hb).1
theorem Vq{w:World}{B j:Nat}{c:Array Value}{T:TypeId}{fr:Nat × Nat}(u:Value)(hb:w.heap[B]?=some (.cells c T fr)):(w.setCell ⟨B,j,none⟩ u).heap[B]?=some (.cells (c.setIfInBounds j u) T fr):=by
 simp[World.setCell,Array.getElem?_modify,hb]
theorem Ve(w:World)(p:Addr)(u:Value):w.grownBy (w.setCell p u) (some p.block) :=
 ⟨rfl,rfl,rfl,by simp[World.setCell],fun k _ hk=>Below.heap_setCell _ _ _ _ (fun q=>hk (by rw[q]))⟩
theorem Nw.gro{w a b:World}{row:Option Nat}(h:Nw w a)(g:a.grownBy b row)(hB:∀k,row=some k→w.heap.size≤k):Nw w b :=
 ⟨g.os.trans h.os,g.tape.trans h.tape,g.output.trans h.output,Nat.le_trans h.size g.size,fun j hj=>(g.block j (lL0 hj h.size) (fun q=>by have:=hB j q.symm;omega)).trans (h.block j hj)⟩
section
variable {w w':World} {g0 e size n:Nat} {v:Value} {xs:List Value}
theorem Za1{row:Option Nat}(ho:w.ownsRow g0 e size v n xs)(hg:w.grownBy w' row)(hne:∀g,v.ownBlock=some g→row≠some g):w'.ownsRow g0 e size v n xs:=by
 cases hv:v.ownBlock with
 | none=>exact ho.kept hg (.inl hv)
 | some g=>exact ho.kept hg (.inr fun q=>hne g hv (q▸hv))
theorem onw(ho:w.ownsRow g0 e size v n xs)(hg:Nw w w'):w'.ownsRow g0 e size v n xs:=Za1 ho (hg.grownBy none) (fun _ _=>by simp)
theorem Z6r(ho:w.ownsRow g0 e size v n xs){g:Nat}(hv:v.ownBlock=some g):∃c,w.heap[g]?=some (.cells c e (0,0)):=by
 rcases ho.2 with⟨rfl,_⟩ | ⟨g',cap,cur,rfl,_,hh,_⟩
 ·simp[Value.ownBlock] at hv
 ·simp only[Value.ownBlock,Option.some.injEq] at hv
  subst hv
  exact⟨cur,hh⟩
theorem olt(ho:w.ownsRow g0 e size v n xs){g:Nat}(hv:v.ownBlock=some g):g<w.heap.size:=(World.ownsRow.lt ho g hv).2
theorem oge(ho:w.ownsRow g0 e size v n xs){g:Nat}(hv:v.ownBlock=some g):g0≤g:=(World.ownsRow.lt ho g hv).1
theorem V4(h:w.ownsRow g0 e size v n xs):(v=.slice none 0 0∧n=0)∨∃g cap,v=.slice (some ⟨g,0,none⟩) n cap:=by
 rcases h.2 with q | ⟨g,cap,cur,rfl,_⟩
 ·exact .inl q
 ·exact .inr ⟨g,cap,rfl⟩
theorem Zby(ho:w.ownsRow g0 e size v n xs){g1:Nat}(h:∀g,v.ownBlock=some g→g1≤g):w.ownsRow g1 e size v n xs:=by
 refine⟨ho.1,?_⟩
 rcases ho.2 with q | ⟨g,cap,cur,rfl,hb,rest⟩
 ·exact .inl q
 ·exact .inr ⟨g,cap,cur,rfl,h g rfl,rest⟩
end
theorem Nw.st{w a:World}{p:Addr}(h:Nw w a)(hB:w.heap.size≤p.block)(u:Value):Nw w (a.setCell p u):=h.gro (Ve a p u) (fun k hk=>by have:=Option.some.inj hk;omega)
theorem Z0i{w:World}{g0 e size n:Nat}{v:Value}{xs:List Value}{p:Addr}(h:w.ownsRow g0 e size v n xs)(hp:p.block<g0)(u:Value):(w.setCell p u).ownsRow g0 e size v n xs :=
 Za1 h (Ve w p u) (fun g hg q=>by have:=oge h hg;have:=Option.some.inj q;omega)
structure Z20{α:Type}(P:Program)(ST T:TypeId)(sz bytes:Nat)(row:α→List Value):Prop where
 und:P.underlying ST=some (.slice T)
 inf:∃i z,P.info? T=some i∧i.zero=some z∧i.size=sz∧i.bytes=bytes∧z.cells.size=sz
 pos:0<sz
 byt:bytes≤800
 len:∀a,(row a).length=sz
 one:∀a,∀u∈row a,u.oneCell'=true
def Z8{α:Type}(row:α→List Value)(l:List α):List Value:=l.flatMap row
abbrev Up{α:Type}(T:TypeId)(sz:Nat)(row:α→List Value)(w:World)(g0:Nat)(v:Value)(l:List α):Prop:=w.ownsRow g0 T sz v l.length (Z8 row l)
structure RdC{α:Type}(sz:Nat)(row:α→List Value)(w:World)(b o:Nat)(l:List α):Prop where
 lt:b<w.heap.size
 cell:∀i (h:i<l.length) c u,(row l[i])[c]?=some u→w.cell? ⟨b,o+i*sz+c,none⟩=some u
def Rd{α:Type}(sz:Nat)(row:α→List Value)(w:World)(v:Value)(l:List α):Prop:=∃a c,v=.slice a l.length c∧(l=[]∧(a=none→c=0)∨∃b o,a=some ⟨b,o,none⟩∧RdC sz row w b o l)
section
variable {α:Type} {sz:Nat} {row:α→List Value} {w w':World} {b o:Nat} {l:List α} {v:Value}
theorem RdC.nw(h:RdC sz row w b o l)(g:Nw w w'):RdC sz row w' b o l:=⟨lL0 h.lt g.sz,fun i hi c u hu=>(g.cell h.lt).trans (h.cell i hi c u hu)⟩
theorem Rd.nw(h:Rd sz row w v l)(g:Nw w w'):Rd sz row w' v l:=by
 obtain⟨a,c,rfl,h | ⟨b,o,rfl,h⟩⟩:=h
 ·exact⟨a,c,rfl,.inl h⟩
 ·exact⟨_,c,rfl,.inr ⟨b,o,rfl,h.nw g⟩⟩
theorem Rd.nil(w:World):Rd sz row w (.slice none 0 0) []:=⟨none,0,rfl,.inl ⟨rfl,fun _=>rfl⟩⟩
theorem Rd.form(h:Rd sz row w v l):∃a c,v=.slice a l.length c:=by
 obtain⟨a,c,rfl,_⟩:=h
 exact⟨a,c,rfl⟩
theorem Yf(hl:∀a,(row a).length=sz):∀l:List α,(Z8 row l).length=l.length*sz
 | []=>by simp[Z8]
 | s::r=>by
  show(row s++Z8 row r).length=_
  rw[List.length_append,Yf hl r,hl,List.length_cons,Nat.add_mul,Nat.one_mul,Nat.add_comm]
theorem U6(hl:∀a,(row a).length=sz):∀(l:List α) (j c:Nat) (hj:j<l.length),c<sz→(Z8 row l)[j*sz+c]?=(row l[j])[c]?
 | s::r,0,c,_,hc=>by
  show(row s++Z8 row r)[0*sz+c]?=_
  rw[List.getElem?_append_left (by rw[hl];simpa using hc)]
  simp
 | s::r,j+1,c,hj,hc=>by
  have hj':j<r.length:=by simpa using hj
  show(row s++Z8 row r)[(j+1)*sz+c]?=_
  rw[Nat.add_mul,Nat.one_mul,List.getElem?_append_right (by rw[hl];omega),hl,show j*sz+sz+c-sz=j*sz+c by omega,U6 hl r j c hj' hc]
  rfl
theorem Za9(a b:List α):Z8 row (a++b)=Z8 row a++Z8 row b:=by simp[Z8]
theorem Za6(hl:∀a,(row a).length=sz){B:Nat}{T:TypeId}{fr:Nat × Nat}(h:w.heap[B]?=some (.cells ⟨Z8 row l⟩ T fr))(c:Nat):Rd sz row w (.slice (some ⟨B,0,none⟩) l.length c) l:=by
 refine⟨_,c,rfl,.inr ⟨B,0,rfl,Z1 h,fun i hi c u hu=>?_⟩⟩
 have hc:c<sz:=by have:=(List.getElem?_eq_some_iff.1 hu).1;rwa [hl] at this
 rw[Nat.zero_add,Z0 h,←Array.getElem?_toList]
 show(Z8 row l)[i*sz+c]?=_
 rw[U6 hl l i c hi hc];exact hu
theorem Up.rd{T g0:Nat}(hl:∀a,(row a).length=sz)(h:Up T sz row w g0 v l):Rd sz row w v l:=by
 rcases V4 h with⟨rfl,q⟩ | ⟨g,cap,rfl⟩
 ·exact⟨none,0,by rw[q],.inl ⟨List.length_eq_zero_iff.1 q,fun _=>rfl⟩⟩
 ·refine⟨_,cap,rfl,.inr ⟨g,0,rfl,olt h rfl,fun i hi c u hu=>?_⟩⟩
  have hc:c<sz:=by have:=(List.getElem?_eq_some_iff.1 hu).1;rwa [hl] at this
  rw[Nat.zero_add]
  have hb:i*sz+c<l.length*sz:=by
   have:(i+1)*sz≤l.length*sz:=Nat.mul_le_mul_right _ hi
   rw[Nat.add_mul,Nat.one_mul] at this
   omega
  refine(World.ownsRow.cellAt h (i*sz+c) hb).trans ?_
  rw[U6 hl l i c hi hc];exact hu
theorem RdC.flat(hl:∀a,(row a).length=sz)(hz:0<sz)(h:RdC sz row w b o l):∀j u,(Z8 row l)[j]?=some u→w.cell? ((⟨b,o,none⟩:Addr).add j)=some u:=by
 intro j u hu
 have hj:=(List.getElem?_eq_some_iff.1 hu).1
 rw[Yf hl] at hj
 have hq:j/sz<l.length:=Nat.div_lt_of_lt_mul (by rwa [Nat.mul_comm])
 have hm:j%sz<sz:=Nat.mod_lt _ hz
 have e:j=j/sz*sz+j%sz:=by rw[Nat.mul_comm];exact(Nat.div_add_mod j sz).symm
 rw[e,U6 hl _ _ _ hq hm] at hu
 have:=h.cell _ hq _ u hu
 rw[Addr.add_lit]
 rwa [Nat.add_assoc,←e] at this
end
section
variable {α:Type} {P:Program} {ST T:TypeId} {sz bytes:Nat} {row:α→List Value}
theorem Z20.oneAll(E:Z20 P ST T sz bytes row)(l:List α):∀u∈Z8 row l,u.oneCell'=true:=by
 intro u hu
 obtain⟨a,_,hu⟩:=List.mem_flatMap.1 hu
 exact E.one a u hu
theorem Up.many(E:Z20 P ST T sz bytes row){w:World}{g0:Nat}{v:Value}{l:List α}(h:Up T sz row w g0 v l)(sg:List α)(a:Addr)(c:Nat)(hc:∀j u,(Z8 row sg)[j]?=some u→w.cell? (a.add j)=some u)(hsm:l.length+sg.length≤100000)(hg0:g0≤w.heap.size) :
  ∃v' w1,(Builtin.append_ #[ST,ST] ST #[v,.slice (some a) sg.length c]).run P w=.ok v' w1∧Up T sz row w1 g0 v' (l++sg)∧w.grownBy w1 v.ownBlock∧(v'.ownBlock=v.ownBlock∨v'.ownBlock=some w.heap.size):=by
 obtain⟨i0,z,hi,hz0,hz1,hz2,hz3⟩:=E.inf
 have hb:=E.byt
 obtain⟨v',w1,hrun,ho,hg,hp⟩:=Vc (P:=P) w g0 ST ST T i0 z sz bytes E.und hi hz0 hz1 hz2 hz3 E.pos v l.length _ h
  a sg.length c (Z8 row sg) (Yf E.len sg) hc (E.oneAll sg) (by unfold maxLen;omega) (Nat.le_trans (Nat.mul_le_mul hsm hb) (by omega)) hg0
 refine⟨v',w1,hrun,?_,hg,hp⟩
 unfold Up
 rw[List.length_append,Za9]
 exact ho
theorem Up.push(E:Z20 P ST T sz bytes row){w:World}{g0:Nat}{v:Value}{l:List α}(h:Up T sz row w g0 v l)(x:α)(b:Nat)(c:Nat)(hx:∀j u,(row x)[j]?=some u→w.cell? ⟨b,j,none⟩=some u)(hsm:l.length<100000)(hg0:g0≤w.heap.size) :
  ∃v' w1,(Builtin.append_ #[ST,ST] ST #[v,.slice (some ⟨b,0,none⟩) 1 c]).run P w=.ok v' w1∧Up T sz row w1 g0 v' (l++[x])∧w.grownBy w1 v.ownBlock∧(v'.ownBlock=v.ownBlock∨v'.ownBlock=some w.heap.size)∧∃g cap,v'=.slice (some ⟨g,0,none⟩) (l.length+1) cap:=by
 obtain⟨v',w1,h1,h2,h3,h4⟩:=Up.many E h [x] ⟨b,0,none⟩ c (fun j u hu=>by
  rw[Addr.add_lit,Nat.zero_add]
  exact hx j u (by simpa [Z8] using hu)) (by rw[List.length_singleton];omega) hg0
 refine⟨v',w1,h1,h2,h3,h4,?_⟩
 rcases V4 h2 with⟨_,q⟩ | ⟨g,cap,rfl⟩
 ·simp at q
 ·exact⟨g,cap,by simp⟩
theorem Zeu(w:World):(w.alloc (.cells #[] T)).ownsRow w.heap.size T sz (.slice (some ⟨w.heap.size,0,none⟩) 0 0) 0 []:=World.ownsRow_lit w #[] 0 (Nat.le_refl _) (Nat.zero_le _) (by simp)
theorem Zet(E:Z20 P ST T sz bytes row){w:World}{v:Value}{l:List α}(h:Rd sz row w v l)(hsm:l.length≤100000) :
  ∃v' w1,(Builtin.append_ #[ST,ST] ST #[.slice (some ⟨w.heap.size,0,none⟩) 0 0,v]).run P (w.alloc (.cells #[] T))=.ok v' w1∧Up T sz row w1 w.heap.size v' l∧Nw w w1:=by
 have he:=Zeu (T:=T) (sz:=sz) w
 have hN:Nw w (w.alloc (.cells #[] T)):=(Nw.refl w).alloc _
 have hE:Up T sz row (w.alloc (.cells #[] T)) w.heap.size (.slice (some ⟨w.heap.size,0,none⟩) 0 0) ([]:List α):=he
 obtain⟨a,c,rfl,⟨rfl,h0⟩ | ⟨b,o,rfl,hc⟩⟩:=h
 ·cases a with
  | none =>
   obtain rfl:=h0 rfl
   obtain⟨i0,z,hi,hz0,hz1,hz2,hz3⟩:=E.inf
   exact⟨_,_,run_append_owned_none (P:=P) (w.alloc (.cells #[] T)) w.heap.size ST ST T i0 sz E.und hi _ 0 [] he,hE,hN⟩
  | some ad =>
   obtain⟨v',w1,h1,h2,h3,_⟩:=Up.many E hE [] ad c (fun j u hu=>by simp[Z8] at hu) (by simp) hN.sz
   exact⟨v',w1,h1,h2,hN.gro h3 (fun k hk=>Nat.le_of_eq (Option.some.inj hk))⟩
 ·obtain⟨v',w1,h1,h2,h3,_⟩:=Up.many E hE l ⟨b,o,none⟩ c ((hc.nw hN).flat E.len E.pos) (by simpa using hsm) hN.sz
  exact⟨v',w1,h1,by simpa using h2,hN.gro h3 (fun k hk=>Nat.le_of_eq (Option.some.inj hk))⟩
end
theorem Z2s{P:Program}{w:World}{ops:Array Oper}{rest:List Oper}{o:Oper}{a:Act}{Q:Exit→Act→World→Prop}
  (hgd:Region.wanted o (yielded ops a.tmps)=true) (s x:Operand) (t:TypeId) (hop:o.op=Op.call { callee:=Callee.builtin Builtin.append,args:=#[s,x],argTypes:=#[t,t] })
  (v u v':Value) (w':World) (hs:a.eval s=v) (hx:a.eval x=u) (hr:(Builtin.append_ #[t,t] o.type #[v,u]).run P w=.ok v' w') (h:wpList P ops Q rest (a.put o.dst v') w'):wpList P ops Q (o::rest) a w:=by
 refine wpList_step fun _ hK=>?_
 rw[if_pos hgd]
 unfold Oper.wp execOp
 simp only[hop,resolve,invoke,builtin,Sem.run_bind,Sem.run_pure,Result.andThen_ok,List.map_toArray,List.map_cons,List.map_nil,hs,hx,hr]
 exact hK _ _ h
theorem Zmb{P:Program}{ops:Array Oper}{o:Oper}{a:Act}{w:World}{K:Act→World→Prop}{Q:Exit→Act→World→Prop}{E:Prop}(hgd:Region.wanted o (yielded ops a.tmps)=true)(s x:Operand)(t:TypeId)
  (ho:o.op=.call { callee:=.builtin .append,args:=#[s,x],argTypes:=#[t,t] }) (v u v':Value) (w':World) (hs:a.eval s=v) (hx:a.eval x=u) (hr:(Builtin.append_ #[t,t] o.type #[v,u]).run P w=.ok v' w')
  (h:K (a.put o.dst v') w'):if Region.wanted o (yielded ops a.tmps)=true then Oper.wp P o a w K Q else E:=by
 rw[if_pos hgd]
 unfold Oper.wp execOp
 simp only[ho,resolve,invoke,builtin,Sem.run_bind,Sem.run_pure,Result.andThen_ok,List.map_toArray,List.map_cons,List.map_nil,hs,hx,hr]
 exact h
open Go.Shelf
section
attribute [local go_sem] Oper.semAt_some
def Y4(a:Int × Int):List Value:=[.int .i64 a.1,.int .i64 a.2]
theorem Zgp:Z20 prog 175 33 2 16 Y4 where
 und:=underlying175
 inf:=by
  have h:(prog.info? 33).map (fun i=>(i.zero,i.size,i.bytes))=some (some (.agg #[.int .i64 0,.int .i64 0]),2,16):=by kernel_rfl
  cases e:prog.info? 33 with
  | none=>rw[e] at h;cases h
  | some i =>
   rw[e] at h
   simp only[Option.map_some,Option.some.injEq,Prod.mk.injEq] at h
   exact⟨i,_,rfl,h.1,h.2.1,h.2.2,rfl⟩
 pos:=by decide
 byt:=by decide
 len:=fun _=>rfl
 one:=fun a u hu=>by
  simp only[Y4,List.mem_cons,List.not_mem_nil,or_false] at hu
  rcases hu with rfl | rfl<;>rfl
abbrev Z3c(w:World)(g0:Nat)(v:Value)(l:List (Int × Int)):Prop:=Up 33 2 Y4 w g0 v l
theorem Zb5{w:World}{a:Addr}{v:Value}(h:w.cell? a=some v):∃o:Obj,w.heap[a.block]?=some o∧o.isCells=true:=by
 unfold World.cell? at h
 cases ho:w.heap[a.block]? with
 | none=>simp[ho] at h
 | some o=>exact⟨o,rfl,by cases o<;>simp_all [Obj.isCells]⟩
theorem Zb6{n₀:Nat}{S:Nat→Prop}{A B:World}{a:Addr}{v:Value}(h:Vj n₀ S A B)(hc:A.cell? a=some v)(hn:¬S a.block):B.heap[a.block]?=A.heap[a.block]?:=by
 obtain⟨o,ho,hco⟩:=Zb5 hc
 rcases h.block a.block (Array.getElem?_eq_some_iff.1 ho).1 hn with e | ⟨_,o',ho',hc'⟩
 ·exact e
 ·rw[ho] at ho';cases ho';rw[hco] at hc';cases hc'
theorem Zdz{n₀:Nat}{S:Nat→Prop}{w A B:World}(h:Vj n₀ S A B)(k:Nw w A)(hn:w.heap.size≤n₀)(hS:∀i,S i→w.heap.size≤i):Nw w B :=
 Z3.toNw (h.tch (Z3.nw (S:=fun _=>False) k) hn (fun i hi e=>by have:=hS i e;omega))
theorem Zn1{n₀:Nat}{S:Nat→Prop}{A B:World}{g0:Nat}{v:Value}{n:Nat}{e:TypeId}{size:Nat}{xs:List Value}(h:Vj n₀ S A B)(hr:A.ownsRow g0 e size v n xs)(hn:∀k,v.ownBlock=some k→¬S k):B.ownsRow g0 e size v n xs:=by
 refine⟨hr.1,?_⟩
 rcases hr.2 with h0 | ⟨g,cap,cur,rfl,hb,hg,rest⟩
 ·exact .inl h0
 ·exact .inr ⟨g,cap,cur,rfl,hb,h.cells hg (hn g rfl),rest⟩
theorem Zmw{F:Fence}{n:Nat}{P:Program}{w:World}{ops:Array Oper}{rest:List Oper}{o:Oper}{a:Act}{Q:Exit→Act→World→Prop}
  (hg:o.guard=none) (s x:Operand) (t:TypeId) (hop:o.op=Op.call { callee:=Callee.builtin Builtin.append,args:=#[s,x],argTypes:=#[t,t] })
  (v u v':Value) (w':World) (hs:a.eval s=v) (hx:a.eval x=u) (hr:(Builtin.append_ #[t,t] o.type #[v,u]).run P w=.ok v' w') (h:wpListIn F n P ops Q rest (a.put o.dst v') w'):wpListIn F n P ops Q (o::rest) a w:=by
 refine wpListIn_plain hg fun K hK'=>?_
 unfold Oper.wpIn
 refine⟨?_,?_⟩
 ·simp[Oper.about,hop,resolve,Target.leads,Sem.run_pure]
 ·rw[Oper.semAt_plain F _ _ (by rw[hop];intro c hc';cases hc')]
  simp[execOp,hop,resolve,invoke,builtin,hs,hx,hr,Result.andThen]
  exact hK' _ _ h
structure BxI{α:Type}(T sz:Nat)(row:α→List Value)(w:World)(c:Nat)(S0 S:Nat→Prop)(v:Value)(pre:List α)(A:World):Prop where
 cell:A.cell? ⟨c,0,none⟩=some v
 froz:A.frozen? ⟨c,0,none⟩=false
 own:Up T sz row A (c+1) v pre
 row:∀k,v.ownBlock=some k→¬S k
 box:¬S c
 sub:∀k,S k→S0 k∨w.heap.size≤k
 nw:Nw w A
theorem BxI.lt{α:Type}{T sz c:Nat}{row:α→List Value}{w:World}{S0 S:Nat→Prop}{v:Value}{pre:List α}{A:World}(h:BxI T sz row w c S0 S v pre A):c<A.heap.size:=World.block_lt_of_cell? _ _ h.cell
theorem BxI.step{α:Type}{T sz c:Nat}{row:α→List Value}{w:World}{n₀:Nat}{S0 S S':Nat→Prop}{v:Value}{pre:List α}{A B:World}(hn:w.heap.size≤n₀)(h:BxI T sz row w c S0 S v pre A)(k:Vj n₀ (fun k=>S k∧¬S0 k) A B)(h2:∀k,S' k→S k∨A.heap.size≤k):BxI T sz row w c S0 S' v pre B:=by
 have e:=Zb6 k h.cell (fun q=>h.box q.1)
 refine⟨(World.cell?_of_block e).trans h.cell,(World.frozen?_of_block e).trans h.froz,Zn1 k h.own (fun g hg q=>h.row g hg q.1),fun g hg hs=>?_,fun hs=>?_,fun i hs=>?_,Zdz k h.nw hn (fun i q=>(h.sub i q.1).resolve_left q.2)⟩
 ·rcases h2 g hs with q | q
  ·exact h.row g hg q
  ·have:=olt h.own hg;omega
 ·rcases h2 _ hs with q | q
  ·exact h.box q
  ·have:=h.lt;omega
 ·rcases h2 i hs with q | q
  ·exact h.sub i q
  ·exact .inr (Nat.le_trans h.nw.sz q)
theorem BxI.push{α:Type}{P:Program}{ST T sz bytes c:Nat}{row:α→List Value}(E:Z20 P ST T sz bytes row){w:World}{S0 S:Nat→Prop}{v:Value}{pre:List α}{A A1:World}(h:BxI T sz row w c S0 S v pre A)(hw:w.heap.size≤c)(hex:∀k,S k→k<A.heap.size)(g:Nw A A1)(x:α)(b cc:Nat)(hx:∀j u,(row x)[j]?=some u→A1.cell? ⟨b,j,none⟩=some u)(hsm:pre.length<100000)
  {n₀:Nat} (hD:∀k,(k=n₀∨k=n₀+1)→∃o,A.heap[k]?=some o∧o.isCells=false) :
  ∃v' w1,(Builtin.append_ #[ST,ST] ST #[v,.slice (some ⟨b,0,none⟩) 1 cc]).run P A1=.ok v' w1∧(∃g cap,v'=.slice (some ⟨g,0,none⟩) (pre.length+1) cap)∧w1.cell? ⟨c,0,none⟩=some v∧w1.frozen? ⟨c,0,none⟩=false ∧
   BxI T sz row w c S0 S v' (pre++[x]) (w1.setCell ⟨c,0,none⟩ v')∧Vn S A (w1.setCell ⟨c,0,none⟩ v')∧KpD n₀ A (w1.setCell ⟨c,0,none⟩ v'):=by
 have hc:=h.lt
 obtain⟨v',w1,h1,h2,h3,h4,h5⟩:=Up.push E (onw h.own g) x b cc hx hsm (by have:=g.sz;omega)
 have hvc:∀k,v.ownBlock=some k→c<k:=fun k hk=>oge h.own hk
 have c1:w1.cell? ⟨c,0,none⟩=some v:=by
  have e:w1.heap[c]?=A1.heap[c]?:=h3.block c (lL0 hc g.sz) (fun q=>by have:=hvc c q.symm;omega)
  rw[World.cell?_of_block e];exact g.kp h.cell
 have f1:w1.frozen? ⟨c,0,none⟩=false:=by
  have e:w1.heap[c]?=A1.heap[c]?:=h3.block c (lL0 hc g.sz) (fun q=>by have:=hvc c q.symm;omega)
  rw[World.frozen?_of_block e];exact(g.froz hc).trans h.froz
 have hkeep:∀k,k<A.heap.size→v.ownBlock≠some k→k≠c→(w1.setCell ⟨c,0,none⟩ v').heap[k]?=A.heap[k]?:=fun k hk q1 q2=>by
  rw[Below.heap_setCell _ _ _ _ (by simpa using q2),h3.block k (lL0 hk g.sz) (fun q=>q1 q.symm)]
  exact g.block k hk
 refine⟨v',w1,h1,h5,c1,f1,⟨World.cell?_setCell_same _ _ _ c1,by rw[World.frozen?_setCell];exact f1,Z0i h2 (Nat.lt_succ_self c) _,fun k hk=>?_,h.box,h.sub,?_⟩,⟨?_,fun k hk=>?_⟩,fun k hk=>?_⟩
 ·rcases h4 with q | q
  ·exact h.row k (q▸hk)
  ·rw[q] at hk
   have:=Option.some.inj hk
   have:=g.sz
   intro hs
   have:=hex k hs
   omega
 ·refine((h.nw.trans g).gro h3 (fun k hk=>?_)).st (p:=⟨c,0,none⟩) hw v'
  have:=hvc k hk
  omega
 ·have:=h3.size
  have:=g.sz
  have e:(w1.setCell ⟨c,0,none⟩ v').heap.size=w1.heap.size:=by simp
  omega
 ·exact hkeep k (hex k hk) (fun q=>h.row k q hk) (fun q=>h.box (q▸hk))
 ·obtain⟨o,ho,hno⟩:=hD k hk
  refine hkeep k (Z1 ho) (fun q=>?_) (fun q=>?_)
  ·obtain⟨cc,hcc⟩:=Z6r h.own q
   rw[hcc] at ho;cases ho;cases hno
  ·subst q
   obtain⟨o',ho',hc'⟩:=Zb5 h.cell
   rw[show(⟨k,0,none⟩:Addr).block=k from rfl,ho] at ho';cases ho';rw[hno] at hc';cases hc'
def Zax(w:World)(Fin:List (Int × Int)→Prop)(e:Ending)(W:World):Prop:=∃v xs,e=.returned v∧Fin xs∧Z3c W w.heap.size v xs∧Nw w W
theorem Z8q(n:Nat)(hn:3≤n)(gf:Nat)(lb:Array Value)(eg:∀args w,(callFunc gf args).run prog w=.ok (.enter gf args) w)(Pre Fin:List (Int × Int)→Prop)(S0:Nat→Prop)(w:World)(hsm:∀xs,Pre xs→xs.length≤100000)
  (hS0:∀k,S0 k→k<w.heap.size) (hseq:Z76 Fence.wide (n-1) prog gf #[] lb nmV Pre Fin S0 w) :
  CallsIn Fence.wide n prog 155 #[.slice none 0 0,.func (.func gf) #[] lb] w (Zax w Fin):=by
 have h1:1≤n:=by omega
 refine callsIn_of_wp_marks func155 rfl trivial ?_ rfl
 simp only[ntmps155,List.size_toArray,List.length_cons,List.length_nil,Nat.reduceAdd,Nat.reduceSub,Array.replicate_succ,Array.replicate_zero,List.push_toArray,List.append_toArray,List.nil_append,List.cons_append]
 gi_wp2
 have hA0:∃v,BxI 33 2 Y4 w w.heap.size S0 S0 v [] (w.alloc (.cells #[.slice none 0 0] 175)) :=
  ⟨.slice none 0 0,by simp[go_sem],by simp[go_sem],World.ownsRow_nil _ _ _ _,fun k e=>by simp[Value.ownBlock] at e,fun e=>by have:=hS0 _ e;omega,fun k e=>.inl e,(Nw.refl w).alloc _⟩
 have hsz:(w.alloc (.cells #[.slice none 0 0] 175)).heap.size=w.heap.size+1:=by simp
 have hnw:Nw w (w.alloc (.cells #[.slice none 0 0] 175)):=(Nw.refl w).alloc _
 obtain⟨W0,hW0⟩:∃W0,w.alloc (.cells #[.slice none 0 0] 175)=W0:=⟨_,rfl⟩
 rw[hW0] at hA0 hsz hnw ⊢
 clear hW0
 refine Zbz rfl h1 (gf:=gf) (fa:=#[]) (lb:=lb) rfl trivial eg (S0:=S0) (fun k e=>by have:=hS0 k e;omega) (hseq.later hnw) rfl
  (fun S pre A=>∃v,BxI 33 2 Y4 w w.heap.size S0 S v pre A) (fun _ _ _ _=>False) (fun S S' pre A B hi hc e1 e2 _=>by obtain⟨v,hi⟩:=hi;exact⟨v,hi.step (by omega) hc e2⟩) (fun _ _ _ _ _ _ h _ _ _ _=>h) hA0
  (fun x=>some (.cells #[.int .i64 x.1,.int .i64 x.2] 33))
  (fun x bx=>{ tmps:=#[.slice none 0 0,.func (.func gf) #[] lb,.pointer (some ⟨w.heap.size,0,none⟩),undef,.slice none 0 0,.pointer (some ⟨bx,0,none⟩),.func (.func gf) #[] lb,nmV x,undef,undef,undef,undef,undef],defers:=[] }) ?assign ?body ?done ?stop
 case assign =>
  intro l x A K hK
  obtain⟨x0,x1⟩:=x
  unfold nmV at *
  simp only[mkB] at hK ⊢
  gi_wp2
  exact hK
 case body =>
  intro l S pre x bx A hi hsub hex hnb hbl hnc hcx hpre
  obtain⟨v,hi⟩:=hi
  have hcx:=hcx _ rfl
  have c0:A.cell? ⟨bx,0,none⟩=some (.int .i64 x.1):=by rw[Z0 hcx];rfl
  have c1:A.cell? ⟨bx,1,none⟩=some (.int .i64 x.2):=by rw[Z0 hcx];rfl
  have hln:pre.length<100000:=by have:=hsm _ hpre;rw[List.length_append,List.length_singleton] at this;omega
  have hal:=Z2 A (.cells #[.int .i64 x.1,.int .i64 x.2] 33)
  obtain⟨v',w1,hr,⟨gg,cap,hv'⟩,hcc,hff,hB,hK,hKD⟩:=hi.push Zgp (Nat.le_refl _) hex ((Nw.refl A).alloc (.cells #[.int .i64 x.1,.int .i64 x.2] 33)) x A.heap.size 1 (fun j u hu=>by rw[Z0 hal];simpa [Y4] using hu) hln (n₀:=w.heap.size+1) (fun k e=>(hnc k (by rw[hsz];exact e)).2)
  subst hv'
  have HR:=hD0 hr
  have HB:=hD0 (aI0 hB (aI0 hK hKD))
  have hpl:∀n,pre.length=n→Hid (BxI 33 2 Y4 w w.heap.size S0 S (.slice (some ⟨gg,0,none⟩) (n+1) cap) (pre++[x]) (w1.setCell ⟨w.heap.size,0,none⟩ (.slice (some ⟨gg,0,none⟩) (n+1) cap))∧Vn S A (w1.setCell ⟨w.heap.size,0,none⟩ (.slice (some ⟨gg,0,none⟩) (n+1) cap))∧KpD (w.heap.size+1) A (w1.setCell ⟨w.heap.size,0,none⟩ (.slice (some ⟨gg,0,none⟩) (n+1) cap))):=fun n e=>by subst e;exact HB
  have hd:=hi.cell
  have Z1:=hi.lt
  have hf:=V4 hi.own
  clear hr hB hK hKD hi hex hsub hnb hnc hcx hpre hseq hA0 hal
  obtain⟨x0,x1⟩:=x
  unfold nmV
  simp only at c0 c1 HR ⊢
  rw[hsz]
  rcases hf with⟨rfl,hp0⟩ | ⟨g,cap,rfl⟩
  ·have HB0:=hpl 0 hp0
   clear hpl
   gi_wp2_with (gi_at_builtin;refine Zmw rfl (.tmp 8) (.tmp 10) 175 rfl _ _ _ _ rfl rfl HR.out ?_)
   exact⟨HB0.out.2.2,HB0.out.2.1,_,HB0.out.1⟩
  ·clear hpl
   gi_wp2_with (gi_at_builtin;refine Zmw rfl (.tmp 8) (.tmp 10) 175 rfl _ _ _ _ rfl rfl HR.out ?_)
   exact⟨HB.out.2.2,HB.out.2.1,_,HB.out.1⟩
 case done =>
  intro D S xs W hD _ hfin hi hK
  obtain⟨v,hi⟩:=hi
  have HE:Hid (Zax w Fin (.returned v) (W.putObj D (.deferred none))):=by
   have hc:Vj D (fun _=>False) W (W.putObj D (.deferred none)):=Vj.put _ (.inl rfl) hK rfl
   exact⟨v,xs,rfl,hfin,Zby (Zn1 hc hi.own (fun _ _ e=>e)) (fun g hg=>by have:=oge hi.own hg;omega),Zdz hc hi.nw (by omega) (fun _ e=>e.elim)⟩
  have hd:=hi.cell
  have hf:=V4 hi.own
  clear hseq hA0 hi hS0
  rcases hf with⟨rfl,hp0⟩ | ⟨g,cap,rfl⟩
  all_goals
   gi_wp2
   refine⟨by simp,.inl ⟨_,_,rfl,run_takeDeferred hK,?_⟩⟩
   exact⟨_,results_tmp (t:=4) rfl _ _ _,HE.out⟩
 case stop =>
  intro D c S pre W _ _ h _
  exact h.elim
theorem Z7n(gf:Nat)(lb:Array Value)(eg:∀args w,(callFunc gf args).run prog w=.ok (.enter gf args) w)(Pre Fin:List (Int × Int)→Prop)(S0:Nat→Prop)(w:World)(hsm:∀xs,Pre xs→xs.length≤100000)
  (hS0:∀k,S0 k→k<w.heap.size) (hseq:Z76 Fence.wide 4 prog gf #[] lb nmV Pre Fin S0 w) :
  Calls prog 144 #[.func (.func gf) #[] lb] w (Zax w Fin):=by
 have H:=hD0 (callsIn_wide.1 (Z8q 5 (by omega) gf lb eg Pre Fin S0 w hsm hS0 hseq))
 clear hseq hS0
 go_enter func144,ntmps144
 go_wp2_with fail
 refine H.out.mono ?_
 rintro e w1 h
 obtain⟨v,xs,rfl,h⟩:=h
 have HP:=hD0 h
 clear h
 go_wp2
 go_ret
 exact⟨v,xs,rfl,HP.out⟩
end
section
open Go.RowKit Go.Sort
def cP(a b:Int):Int:=if a<b then -1 else if b<a then 1 else 0
theorem Zn0(a b:Int)(h:a<b):cP a b = -1:=if_pos h
theorem Zmz(a b:Int)(h:b<a):cP a b=1:=by unfold cP;rw[if_neg (by omega),if_pos h]
theorem Zmy(a:Int):cP a a=0:=by unfold cP;simp
theorem Z7z(a:Int)(w:World):Calls prog 94 #[.int .i64 a] w fun e w'=>e=.returned (.bool false)∧w=w':=by
 go_enter func94,ntmps94
 go_wp2
 go_ret
 exact⟨rfl,rfl⟩
theorem Z4p(a b:Int)(w:World):Calls prog 69 #[.int .i64 a,.int .i64 b] w fun e w'=>e=.returned (.int .i64 (cP a b))∧w=w':=by
 rcases Int.lt_trichotomy a b with h | h | h
 ·rw[Zn0 a b h]
  have hd:decide (a<b)=true:=by simpa using h
  go_enter func69,ntmps69
  go_wp2_with (go_at_call 94;refine(Z7z _ _).mono ?_;rintro e w' ⟨rfl,rfl⟩)
  go_ret
  exact⟨rfl,rfl⟩
 ·subst h
  rw[Zmy a]
  go_enter func69,ntmps69
  go_wp2_with (go_at_call 94;refine(Z7z _ _).mono ?_;rintro e w' ⟨rfl,rfl⟩)
  go_ret
  exact⟨rfl,rfl⟩
 ·rw[Zmz a b h]
  have hd:decide (a<b)=false:=by simp;omega
  have hd2:decide (b<a)=true:=by simpa using h
  go_enter func69,ntmps69
  go_wp2_with (go_at_call 94;refine(Z7z _ _).mono ?_;rintro e w' ⟨rfl,rfl⟩)
  go_ret
  exact⟨rfl,rfl⟩
def orP(x y:Int):Int:=if x=0 then y else x
theorem Zpc(b:Nat)(x y:Int)(w:World)(h0:w.cell? ⟨b,0,none⟩=some (.int .i64 x))(h1:w.cell? ⟨b,1,none⟩=some (.int .i64 y)) :
  Calls prog 68 #[.slice (some ⟨b,0,none⟩) 2 2] w fun e w'=>e=.returned (.int .i64 (orP x y))∧w=w':=by
 by_cases hx:x=0
 ·subst hx
  by_cases hy:y=0
  ·subst hy
   go_enter func68,ntmps68
   go_wp2
   refine wp_loop_rounds 3 ?_
   rw[rounds_succ]
   go_wp2
   rw[rounds_succ]
   go_wp2
   rw[rounds_succ]
   go_wp2
   go_ret
   exact⟨rfl,rfl⟩
  ·have hy':(y==0)=false:=by simpa using hy
   have hy2:(y != 0)=true:=by simpa using hy
   go_enter func68,ntmps68
   go_wp2
   refine wp_loop_rounds 3 ?_
   rw[rounds_succ]
   go_wp2
   rw[rounds_succ]
   go_wp2
   go_ret
   exact⟨rfl,rfl⟩
 ·have hx':(x==0)=false:=by simpa using hx
  have hx2:(x != 0)=true:=by simpa using hx
  have e:orP x y=x:=if_neg hx
  rw[e]
  clear hx e
  go_enter func68,ntmps68
  go_wp2
  refine wp_loop_rounds 3 ?_
  rw[rounds_succ]
  go_wp2
  go_ret
  exact⟨rfl,rfl⟩
def GG(w w':World):Prop:=∃q os,w'=grow (w.drewN q) os
theorem GG.refl(w:World):GG w w:=⟨0,#[],by unfold grow;simp[World.drewN]⟩
theorem GG.drew{w w':World}(h:GG w w'):GG w w'.drew:=by obtain⟨q,os,rfl⟩:=h;exact⟨q+1,os,rfl⟩
theorem GG.alloc{w w':World}(h:GG w w')(o:Obj):GG w (w'.alloc o):=by obtain⟨q,os,rfl⟩:=h;exact⟨q,os.push o,by rw[alloc_eq_grow,grow_grow];rfl⟩
theorem GG.nw{w w':World}(h:GG w w'):Nw w w':=by
 obtain⟨q,os,rfl⟩:=h
 refine⟨rfl,rfl,rfl,by rw[size_grow];exact Nat.le_add_right _ _,fun k hk=>?_⟩
 exact heap_grow_old _ _ hk
theorem GG.trans{a b c:World}(h:GG a b)(k:GG b c):GG a c:=by
 obtain⟨q,os,rfl⟩:=h
 obtain⟨q',os',rfl⟩:=k
 refine⟨q+q',os++os',?_⟩
 unfold grow World.drewN
 simp[Nat.add_assoc,Array.append_assoc]
abbrev Zfk(w:World)(t r t' r':Int)(a:World):Prop:=(a.cell? ⟨w.heap.size,0,none⟩=some (.int .i64 t)∧a.cell? ⟨w.heap.size,1,none⟩=some (.int .i64 r)∧a.cell? ⟨w.heap.size+1,0,none⟩=some (.int .i64 t')∧a.cell? ⟨w.heap.size+1,1,none⟩=some (.int .i64 r'))∧(w.heap.size+1<a.heap.size∧GG w a)
theorem Z5v(w:World)(t r t' r':Int)(ty:TypeId):Zfk w t r t' r' (((w.alloc (.cells #[.int .i64 t,.int .i64 r] ty)).alloc (.cells #[.int .i64 t',.int .i64 r'] ty)).drew):=by
 have h1:=Z2 w (.cells #[.int .i64 t,.int .i64 r] ty)
 have hz:(w.alloc (.cells #[.int .i64 t,.int .i64 r] ty)).heap.size=w.heap.size+1:=by simp
 have h2:=Z2 (w.alloc (.cells #[.int .i64 t,.int .i64 r] ty)) (.cells #[.int .i64 t',.int .i64 r'] ty)
 have h3:=((Nw.refl (w.alloc (.cells #[.int .i64 t,.int .i64 r] ty))).alloc (.cells #[.int .i64 t',.int .i64 r'] ty)).at' h1
 rw[hz] at h2
 refine⟨⟨?_,?_,?_,?_⟩,?_,(((GG.refl w).alloc _).alloc _).drew⟩
 ·exact Z0 (j:=0) h3
 ·exact Z0 (j:=1) h3
 ·exact Z0 (j:=0) h2
 ·exact Z0 (j:=1) h2
 ·exact Z1 h2
theorem Vy{w a b:World}{t r t' r':Int}(g:GG a b)(h:Zfk w t r t' r' a):Zfk w t r t' r' b:=by
 obtain⟨⟨h0,h1,h2,h3⟩,hs,hn⟩:=h
 exact⟨⟨g.nw.kp h0,g.nw.kp h1,g.nw.kp h2,g.nw.kp h3⟩,lL0 hs g.nw.sz,hn.trans g⟩
def Uh(a b:Int × Int):Int:=orP (cP a.1 b.1) (cP a.2 b.2)
theorem Z8t(t r t' r':Int)(w:World) :
  Calls prog 121 #[.agg #[.int .i64 t,.int .i64 r],.agg #[.int .i64 t',.int .i64 r']] w fun e w'=>e=.returned (.int .i64 (orP (cP t t') (cP r r')))∧GG w w':=by
 go_enter func121,ntmps121
 go_wp2
 go_region_held3 (fun w'=>Zfk w t r t' r' w') (first | assumption | exact Z5v w t r t' r' _ | exact Vy (by assumption) (by assumption) | exact Vy ((GG.refl _).alloc _) (by assumption) | exact Vy (GG.refl _).drew (by assumption))
  (first | (go_at_call 69;refine(Z4p _ _ _).mono ?_;rintro e w' ⟨rfl,rfl⟩) | (go_at_call 68;refine(Zpc _ (cP t t') (cP r r') _ (by simp[go_sem]) (by simp[go_sem])).mono ?_;rintro e w' ⟨rfl,rfl⟩))
 all_goals
  rename_i hS
  go_wp2
  go_ret
  exact⟨rfl,hS.2.2⟩
theorem Vh(a b:Int × Int):ltOf Uh a b=decide (Ud a b):=by
 obtain⟨a,a'⟩:=a
 obtain⟨b,b'⟩:=b
 unfold ltOf Uh orP cP Ud
 rcases Int.lt_trichotomy a b with h | h | h
 ·simp[h]
 ·subst h
  rcases Int.lt_trichotomy a' b' with q | q | q
  ·simp[q]
  ·subst q;simp
  ·have:¬a'<b':=by omega
   simp[q,this]
 ·have h1:¬a<b:=by omega
  have h2:a≠b:=by omega
  simp[h,h1,h2]
theorem Z27:SWO (ltOf Uh) where
 irrefl x:=by rw[Vh];simpa using Ys x
 trans x y z h1 h2:=by rw[Vh] at *;simp only[decide_eq_true_eq] at *;exact Z1w h1 h2
 ntrans x y z h1 h2:=by rw[Vh] at *;simp only[decide_eq_false_iff_not] at *;intro h;unfold Ud at *;omega
theorem Z8u(x y:Int × Int)(h1:ltOf Uh x y=false)(h2:ltOf Uh y x=false):x=y:=by
 rw[Vh] at h1 h2
 simp only[decide_eq_false_iff_not] at h1 h2
 rcases Z2h x y with q | q | q
 ·exact absurd q h1
 ·exact q
 ·exact absurd q h2
end
end Go.Proofs.YtfepoibfbmehiaaGreatDoor
namespace Go.Proofs
open _root_.Go.Proofs.Tryz
open Go.Shelf
def Tryz.sortN_ren:Go.Shelf.Ren:=⟨fun | 6=>145 | 15=>75 | 14=>156 | 28=>106 | 29=>107 | 20=>160 | 21=>161 | 22=>162 | 23=>163 | 24=>164 | 25=>165 | 26=>166 | 27=>167 | 46=>174 | 47=>135 | 48=>136 | 49=>175 | 50=>176 | 57=>182 | n=>n,fun | 22=>175 | 24=>33 | 25=>84 | 3=>3 | 39=>124 | 0=>0 | 53=>120 | 55=>160 | 4=>4 | 46=>153 | 45=>152 | 50=>48 | 5=>5 | 9=>9 | 66=>188 | 70=>192 | 76=>203 | 77=>46 | n=>n,fun | n=>n⟩
theorem Tryz.sortN:Go.Proofs.SlLaysF0.n6 prog Tryz.sortN_ren:={
 mixed:=by kernel_rfl
 f6:=⟨Tryz.f145.name,by decide,func145.trans (congrArg some (by kernel_rfl))⟩
 f14:=⟨Tryz.f156.name,by decide,func156.trans (congrArg some (by kernel_rfl))⟩
 f15:=func75.trans (congrArg some (by kernel_rfl))
 f20:=⟨Tryz.f160.name,by decide,func160.trans (congrArg some (by kernel_rfl))⟩
 f21:=⟨Tryz.f161.name,by decide,func161.trans (congrArg some (by kernel_rfl))⟩
 f22:=⟨Tryz.f162.name,by decide,func162.trans (congrArg some (by kernel_rfl))⟩
 f23:=⟨Tryz.f163.name,by decide,func163.trans (congrArg some (by kernel_rfl))⟩
 f24:=⟨Tryz.f164.name,by decide,func164.trans (congrArg some (by kernel_rfl))⟩
 f25:=⟨Tryz.f165.name,by decide,func165.trans (congrArg some (by kernel_rfl))⟩
 f26:=⟨Tryz.f166.name,by decide,func166.trans (congrArg some (by kernel_rfl))⟩
 f27:=⟨Tryz.f167.name,by decide,func167.trans (congrArg some (by kernel_rfl))⟩
 f28:=func106.trans (congrArg some (by kernel_rfl))
 f29:=func107.trans (congrArg some (by kernel_rfl))
 f46:=⟨Tryz.f174.name,by decide,func174.trans (congrArg some (by kernel_rfl))⟩
 f47:=func135.trans (congrArg some (by kernel_rfl))
 f48:=func136.trans (congrArg some (by kernel_rfl))
 f49:=⟨Tryz.f175.name,by decide,func175.trans (congrArg some (by kernel_rfl))⟩
 f50:=⟨Tryz.f176.name,by decide,func176.trans (congrArg some (by kernel_rfl))⟩
 f57:=⟨Tryz.f182.name,by decide,func182.trans (congrArg some (by kernel_rfl))⟩
 t0:=underlying0
 a0:=Tryz.isAgg0
 z0:=Tryz.sizeOf0
 v0:=Tryz.zeroValue0
 t3:=underlying3
 a3:=Tryz.isAgg3
 z3:=Tryz.sizeOf3
 v3:=Tryz.zeroValue3
 t4:=underlying4
 a4:=Tryz.isAgg4
 z4:=Tryz.sizeOf4
 v4:=Tryz.zeroValue4
 t5:=underlying5
 a5:=Tryz.isAgg5
 z5:=Tryz.sizeOf5
 v5:=Tryz.zeroValue5
 t9:=underlying9
 a9:=Tryz.isAgg9
 z9:=Tryz.sizeOf9
 v9:=Tryz.zeroValue9
 t22:=underlying175
 a22:=Tryz.isAgg175
 z22:=Tryz.sizeOf175
 v22:=Tryz.zeroValue175
 t25:=underlying84
 a25:=Tryz.isAgg84
 z25:=Tryz.sizeOf84
 v25:=Tryz.zeroValue84
 t39:=underlying124
 a39:=Tryz.isAgg124
 z39:=Tryz.sizeOf124
 v39:=Tryz.zeroValue124
 t45:=underlying152
 a45:=Tryz.isAgg152
 z45:=Tryz.sizeOf152
 v45:=Tryz.zeroValue152
 t46:=underlying153
 a46:=Tryz.isAgg153
 z46:=Tryz.sizeOf153
 v46:=Tryz.zeroValue153
 t50:=underlying48
 a50:=Tryz.isAgg48
 z50:=Tryz.sizeOf48
 v50:=Tryz.zeroValue48
 t53:=underlying120
 a53:=Tryz.isAgg120
 z53:=Tryz.sizeOf120
 v53:=Tryz.zeroValue120
 t55:=underlying160
 a55:=Tryz.isAgg160
 z55:=Tryz.sizeOf160
 v55:=Tryz.zeroValue160
 t66:=underlying188
 a66:=Tryz.isAgg188
 z66:=Tryz.sizeOf188
 v66:=Tryz.zeroValue188
 t70:=underlying192
 a70:=Tryz.isAgg192
 z70:=Tryz.sizeOf192
 v70:=Tryz.zeroValue192
 t76:=underlying203
 a76:=Tryz.isAgg203
 z76:=Tryz.sizeOf203
 v76:=Tryz.zeroValue203
 t77:=underlying46
 a77:=Tryz.isAgg46
 z77:=Tryz.sizeOf46
 v77:=Tryz.zeroValue46 }
end Go.Proofs
namespace Go.Proofs.YtfepoibfbmehiaaGreatDoor
open Go.RowKit _root_.Go.Proofs.Tryz Go.Shelf
section
open Go.RowKit Go.Sort Go.Shelf
theorem Zee{w:World}{g:Nat}{cur F:Array Value}{e:TypeId}(hb:w.heap[g]?=some (.cells cur e (0,0)))(ht:cur.toList.take F.size=F.toList):Holds id w g 0 F:=by
 intro j hj
 refine⟨?_,by simp[World.frozen?,hb]⟩
 have h1:(cur.toList.take F.size)[j]?=F.toList[j]?:=by rw[ht]
 rw[List.getElem?_take_of_lt hj] at h1
 simp only[World.cell?,hb,Nat.zero_add]
 simp only[Option.isSome_none,Bool.false_eq_true,if_false]
 rw[←Array.getElem?_toList,h1]
 simp[hj]
theorem Zhc{w:World}{g n:Nat}{os:Array Obj}{cur:Array Value}{e:TypeId}{fr:Nat × Nat}(F:Array Value)(hb:w.heap[g]?=some (.cells cur e fr)) :
  (grow (putRow id (Sort.ahead w n) g 0 F) os).heap[g]?=some (.cells (putCells id 0 F cur) e fr):=by
 have hg:g<w.heap.size:=(Array.getElem?_eq_some_iff.1 hb).1
 rw[heap_grow_old _ _ (by simpa using hg)]
 simp[putRow,mapBlock,Sort.ahead,Array.getElem?_modify,hb,onCells]
theorem Zmi{w:World}{g n:Nat}{os:Array Obj}(F:Array Value):Z3 (fun b=>b=g) w (grow (putRow id (Sort.ahead w n) g 0 F) os):=by
 refine⟨rfl,rfl,rfl,by simp,fun k hk hne=>?_⟩
 rw[heap_grow_old _ _ (by simpa using hk)]
 have:g≠k:=fun e=>hne e.symm
 simp[putRow,mapBlock,Sort.ahead,Array.getElem?_modify,this]
theorem Zjg(cur F:Array Value)(h:F.size≤cur.size):(putCells id 0 F cur).toList.take F.size=F.toList:=by
 apply List.ext_getElem?
 intro j
 by_cases hj:j<F.size
 ·rw[List.getElem?_take_of_lt hj,Array.getElem?_toList]
  simp[putCells,hj,show j<cur.size by omega]
 ·rw[List.getElem?_take_eq_none (by omega),List.getElem?_eq_none (by simp;omega)]
theorem Z6d(ss:List (Int × Int)):flatK Y4 2 ss.toArray=⟨Z8 Y4 ss⟩:=by
 have hl:(Z8 Y4 ss).length=ss.length*2:=Yf (row:=Y4) (sz:=2) (fun _=>rfl) ss
 apply Array.ext
 ·rw[size_flatK];simp[hl]
 ·intro t h1 h2
  rw[size_flatK] at h1
  have h1':t<ss.length*2:=by simpa using h1
  have hd:t/2<ss.length:=by omega
  have h3:=U6 (row:=Y4) (sz:=2) (fun _=>rfl) ss (t/2) (t%2) hd (by omega)
  rw[show t/2*2+t%2=t by omega] at h3
  have e1:=get_flatK Y4 2 ss.toArray t h1
  rw[getElem!_pos _ t (by rw[size_flatK];exact h1)] at e1
  rw[e1,getElem!_pos ss.toArray (t/2) (by simpa using hd)]
  have e2:(⟨Z8 Y4 ss⟩:Array Value)[t]?=(Y4 ss[t/2])[t%2]?:=by
   rw[←h3];simp
  rw[Array.getElem?_eq_getElem h2] at e2
  simp only[List.getElem_toArray]
  rw[getElem!_pos _ _ (by show t%2<2;omega)]
  rw[List.getElem?_eq_getElem (by show t%2<2;omega)] at e2
  exact(Option.some.inj e2).symm
abbrev Z8d(ss:List (Int × Int)):List (Int × Int):=ss.mergeSort fun x y=>!(ltOf Uh) y x
theorem Ze8:∀args w,(callFunc 121 args).run prog w=.ok (.enter 121 args) w:=enters_of func121 (by kernel_rfl) rfl
theorem Z7i(blk off size:Nat)(w:World):CmpLays prog 121 #[] Y4 2 Uh blk off size w :=
 fun _ _ _ _ x y=>(Z8t x.1 x.2 y.1 y.2 _).mono fun e w' h=>h
theorem Zc4(g0 g cap:Nat)(ss:List (Int × Int))(w:World)(h:Z3c w g0 (.slice (some ⟨g,0,none⟩) ss.length cap) ss)(hsm:ss.length≤100000) :
  Calls prog 145 #[.slice (some ⟨g,0,none⟩) ss.length cap,.func (.func 121) #[] #[]] w fun e w'=>e=.returned (.tuple #[])∧Z3c w' g0 (.slice (some ⟨g,0,none⟩) ss.length cap) (Z8d ss)∧Z3 (fun b=>b=g) w w':=by
 obtain⟨hx,hr⟩:=h
 rcases hr with⟨h0,_⟩ | ⟨g',cap',cur,h1,h2,h3,h4,h5,h6,h7⟩
 ·simp at h0
 ·simp only[Value.slice.injEq,Option.some.injEq,Addr.mk.injEq,and_true,true_and] at h1
  obtain⟨rfl,rfl⟩:=h1
  have hF:(⟨Z8 Y4 ss⟩:Array Value).size=ss.length*2:=Yf (row:=Y4) (sz:=2) (fun _=>rfl) ss
  have hH:HoldsK Y4 2 w g 0 ss.toArray:=by
   unfold HoldsK
   rw[Z6d]
   exact Zee h3 (by rw[hF];exact h7)
  have hc:=AnyQ.slices_SortFunc_total Tryz.sortN 2 (by intro w;kernel_rfl) (by intro w;kernel_rfl) Y4 (fun _=>rfl) (fun x v hv=>by simp[Y4] at hv;rcases hv with rfl | rfl<;>rfl) Uh Z27 121 #[] g 0 cap ss.toArray w Ze8 (Z7i g 0 _ w) hH (Z1 h3) (by simp;omega) Z8u
  refine Calls.mono hc ?_
  rintro e w' ⟨rfl,n,os,rfl⟩
  refine⟨rfl,?_,?_⟩
  ·have hl:(Z8d ss).length=ss.length:=(List.mergeSort_perm _ _).length_eq
   have hz:(⟨Z8 Y4 (Z8d ss)⟩:Array Value).size=ss.length*2:=by rw[←hl];exact Yf (row:=Y4) (sz:=2) (fun _=>rfl) _
   unfold sortWorldK putRowK
   rw[Z6d]
   unfold Z3c Up
   rw[hl]
   refine⟨by show(Z8 Y4 (Z8d ss)).length=_;exact hz,.inr ⟨g,cap,_,rfl,h2,Zhc _ h3,h4,h5,by simp[putCells,h6],?_⟩⟩
   have:=Zjg cur ⟨Z8 Y4 (Z8d ss)⟩ (by rw[hz,h6];exact Nat.mul_le_mul_right 2 h4)
   rw[hz] at this
   exact this
  ·exact Zmi _
end
structure Wd(S:World→Prop):Type where
 w:World
 h:S w
theorem Yy{P:Program}{id:Nat}{Q:Exit→Act→World→Prop}{a:Act}{w:World}{l:List Oper}(S:World→Prop)(hm:P.follows .mixedOrders=true)(hB:Region.lexB .any l.toArray=true)(hS:S w.drew)
  (h:wpQuiet P l.toArray (fun w'=>∃d:Wd S,w'=d.w) (fun a'=>∀d:Wd S,Q .normal a' d.w) l a):(Code.region id l.toArray true).wp P Q a w:=by
 refine wp_region_quiet (C:=fun w'=>∃d:Wd S,w'=d.w) hm hB ⟨⟨w.drew,hS⟩,rfl⟩ ?_
 have e:(fun a'=>∀w',(∃d:Wd S,w'=d.w)→Q .normal a' w')=(fun a'=>∀d:Wd S,Q .normal a' d.w):=by
  funext a'
  exact propext ⟨fun H d=>H _ ⟨d,rfl⟩,fun H _ ⟨d,hd⟩=>hd▸H d⟩
 rw[e]
 simpa using h
theorem Z12{P:Program}{f:FuncId}{args:Array Value}{S:World→Prop}(hS:∀a b,S a→Nw a b→S b){d:Wd S}{v:Value}
  (h:Calls P f args d.w fun e w'=>e=.returned v∧Nw d.w w'):Calls P f args d.w fun e w''=>e=.returned v∧∃d':Wd S,w''=d'.w :=
 h.mono fun _ w'' ⟨he,hg⟩=>⟨he,⟨w'',hS _ _ d.h hg⟩,rfl⟩
end Go.Proofs.YtfepoibfbmehiaaGreatDoor
